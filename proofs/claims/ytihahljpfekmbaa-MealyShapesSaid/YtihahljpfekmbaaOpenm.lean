/- What the rows hand over: slices of numbers, of lists, machines, with the form's reach. -/
import Derived.Test.YtihahljpfekmbaaNums
import Derived.Test.YtihahljpfekmbaaJoin
import Derived.Deep.Matrix
import Derived.Lib.SmallJoins
import Derived.ProofKit
import Derived.SizedLaws
namespace Go.Proofs.Ytihahljpfekmbaa
open Go.ChangeShapes Go.WideShapes Go.ChangeAt Go.RowKit Go.Joins Go.Deep

theorem bsz {w w' : World} {o : Obj} (h : Below (w.heap.size + 1) (w.alloc o) w') : w.heap.size + 1 ≤ w'.heap.size := by have := h.size; simpa using this

section
variable {H : Type} {enc : TypeId × Value → H}

/-- A change's contract with the reach at hand. -/
theorem handed_sized {C : Checked} {os : Os} {f : FuncId} {fn : Func} {s : ChangeSpec} {conds : List PathCond} {apart fresh handsOn again : Bool}
    (own : ownKnob C.prog.godebug = none) (started : os.Started) (noInit : C.prog.inits.idxOf? f = none) (hfn : C.prog.funcs[f]? = some fn)
    (witness : ∃ (w : World) (tape : Tape) (i : Input), w.os = os ∧ (w.forCall tape i).Shaped C.prog ∧ i.vars = [] ∧ Input.okWide C.prog (w.forCall tape i) .any w.heap.size f i ∧
      s.pre6 enc C.prog fn conds apart (w.forCall tape i).memory i.args ∧ ({} : Assume).holds C.prog (lone (Frame.enter C.prog f i.args .normal) [] (w.forCall tape i)))
    (contract : ∀ (W : World) (base : Nat) (args : Array Value) (ds gs : List (DataW H)) (before : List MemPlace),
      (∀ (j : Nat) t v, fn.params[j]? = some t → args[j]? = some v → Value.okWide C.prog W .any base t v) →
      DataW.Whole enc C.prog fn.params.toList s.vars apart W args.toList ds gs before →
      (DataW.weightsEach C.prog (fn.params.toList ++ s.plain.varTypes C.prog) (ds ++ gs)).all (· ≤ reachBytes) = true →
      Calls C.prog f args W fun e W' => ∃ v, e = .returned v ∧ s.post enc C.prog fn apart fresh handsOn again W args v W') :
    ReturnsInHanded {} C os f .any (s.pre6 enc C.prog fn conds apart) (s.post enc C.prog fn apart fresh handsOn again) := by
  have e : s.pre6 enc C.prog fn conds apart = fun w args => (s.pre enc C.prog fn conds apart w args ∧ True) ∧ sizedMet enc C.prog fn (OpenSpec.ofChange s) apart w args := by
    funext w args
    unfold ChangeSpec.pre6
    rw [and_true]
  rw [e] at witness ⊢
  exact returnsInHanded_of_change_and (X := fun _ _ => True) (fun _ _ _ _ _ => trivial) own started noInit hfn witness (fun W base args ds gs before h1 h2 _ h4 _ _ => contract W base args ds gs before h1 h2 h4)

/-- What a datum weighs is within the reach. -/
def Light (P : Program) (t : TypeId) (d : DataW H) : Prop := ∀ n ∈ d.weights P t, n ≤ reachBytes
theorem light_of {P : Program} {ts : List TypeId} {ds : List (DataW H)} (h : (DataW.weightsEach P ts ds).all (· ≤ reachBytes) = true) {j : Nat} {t : TypeId} {d : DataW H} (ht : ts[j]? = some t) (hd : ds[j]? = some d) : Light P t d := fun n hn => by
  have := List.all_eq_true.1 h _ (DataW.weights_mem_each ht hd n hn)
  simpa using this

theorem add_none {b off k : Nat} : (⟨b, off, none⟩ : Addr).add k = ⟨b, off + k, none⟩ := by unfold Addr.add; split <;> simp_all
theorem reach_num : reachBytes = 140737488351232 := rfl

variable {w : World} {base : Nat} {held : Bool} {fuel : Nat} {cs : List Value} {x : DataW H × List MemPlace}

/-- A slice of ints that came in. -/
theorem open_intsw (hb3 : Try.prog.bytesOf 3 = 8) (h : DataW.trod enc Try.prog w base (fun _ => true) held fuel 32 cs = some x) (hl : Light Try.prog 32 x.1) :
    ∃ A n c zs, cs = [.slice A n c] ∧ n ≤ c ∧ Ints w A n zs ∧ (∀ z, z ∈ zs → (Lit.int .i64 z).wf = true) := by
  rcases open_ints Try.underlying32 Try.underlying3 (by kernel_rfl) h with ⟨hcs, hx⟩ | ⟨a, l, c, zs, hcs, _, hlc, hm, hz, hx, hcell, hwz⟩
  · exact ⟨none, 0, 0, [], hcs, Nat.le_refl _, ⟨rfl, by omega, fun h => absurd h (by omega)⟩, by simp⟩
  · simp only [if_true] at hz
    subst hx
    have := hl (((lits (H := H) .i64 (zs.take l)).length + (lits (H := H) .i64 (zs.drop l)).length) * 8) (by simp [DataW.weights, Try.underlying32, hb3])
    rw [reach_num] at this
    simp only [lits, List.length_map, List.length_take, List.length_drop] at this
    have hb : l ≤ 17592186044416 := by omega
    exact ⟨some a, l, c, zs.take l, hcs, hlc, Ints.of_in (cap := c) hb (.inr ⟨a, rfl, hlc, hm, hz, hcell, hwz⟩), fun z hz => hwz z (List.mem_of_mem_take hz)⟩

theorem weightsAll_mem {P : Program} {e : TypeId} : ∀ {l : List (DataW H)} {d : DataW H} {n : Nat}, d ∈ l → n ∈ d.weights P e → n ∈ DataW.weightsAll P e l
  | [], _, _, h, _ => absurd h (by simp)
  | d0 :: l, d, n, h, hn => by
    rw [DataW.weightsAll, List.mem_append]
    rcases List.mem_cons.1 h with e | h
    · subst e; exact .inl hn
    · exact .inr (weightsAll_mem h hn)

/-- A slice of slices of ints that came in. -/
theorem open_lists (hb3 : Try.prog.bytesOf 3 = 8) (hb4 : Try.prog.bytesOf 32 = 24) (h : DataW.trod enc Try.prog w base (fun _ => true) held fuel 33 cs = some x) (hl : Light Try.prog 33 x.1) :
    ∃ A n c xss, cs = [.slice A n c] ∧ n ≤ c ∧ Lists w A n xss := by
  rcases open_int_rows Try.underlying33 Try.underlying32 Try.underlying3 (by kernel_rfl) (by kernel_rfl) h with ⟨hcs, hx⟩ | ⟨a, l, c, A, L, C, Z, hcs, _, hlc, hm, hx, hcell⟩
  · exact ⟨none, 0, 0, [], hcs, Nat.le_refl _, ⟨rfl, by omega, fun h => absurd h (by omega)⟩⟩
  · subst hx
    refine ⟨some a, l, c, (List.range l).map fun r => (Z r).take (L r), hcs, hlc, by simp, ?_, fun h0 => ?_⟩
    · have := hl ((((List.range l).map fun r => intRow (H := H) .i64 (A r) (L r) (Z r)).length + ((List.range (c - l)).map fun j => intRow (H := H) .i64 (A (l + j)) (L (l + j)) (Z (l + j))).length) * 24) (by simp [DataW.weights, Try.underlying33, hb4])
      rw [reach_num] at this
      simp only [List.length_map, List.length_range] at this
      omega
    · obtain ⟨b, off, spot⟩ := a
      have hc0 := (hcell 0 (by omega)).1
      have hspot : spot = none := by simpa [Addr.add] using World.cell?_spot hc0
      subst hspot
      refine ⟨b, off, rfl, by have := block_lt hc0; simpa [Addr.add] using this, fun j hj => ?_⟩
      obtain ⟨h1, h2, h3, h4, h5, h6, h7⟩ := hcell j (by omega)
      have e : ((List.range l).map fun r => (Z r).take (L r)).getD j [] = (Z j).take (L j) := by simp [List.getD, hj]
      rw [add_none] at h1
      refine ⟨A j, L j, C j, h1, ?_⟩
      rw [e]
      cases hA : A j with
      | none =>
        have hC := h6 hA
        exact Ints.of_in (cap := C j) (by omega) (.inl ⟨rfl, by omega, hC, List.eq_nil_of_length_eq_zero (by omega)⟩)
      | some y =>
        have hw : Light Try.prog 32 (intRow (H := H) .i64 (A j) (L j) (Z j)) := fun n hn => hl n (by
          simp only [DataW.weights, Try.underlying33]
          exact List.mem_cons_of_mem _ (List.mem_append_left _ (weightsAll_mem (List.mem_map.2 ⟨j, List.mem_range.2 hj, rfl⟩) hn)))
        rw [hA] at hw
        have := hw (((lits (H := H) .i64 ((Z j).take (L j))).length + (lits (H := H) .i64 ((Z j).drop (L j))).length) * 8) (by simp [intRow, DataW.weights, Try.underlying32, hb3])
        rw [reach_num] at this
        simp only [lits, List.length_map, List.length_take, List.length_drop] at this
        exact Ints.of_in (cap := C j) (by omega) (.inr ⟨y, rfl, h2, h3, h4, fun i hi => (h7 y hA).2 i (by omega), h5⟩)

theorem cells_mealy : Try.prog.cellsOf 65 = 4 := by kernel_rfl
set_option maxRecDepth 100000 in
/-- A machine that came in. -/
theorem open_mealy (hb3 : Try.prog.bytesOf 3 = 8) (hb4 : Try.prog.bytesOf 32 = 24) {r : Reach} {b0 : Nat} {v : Value} {d : DataW H} {p : List MemPlace} (hv : Value.okWide Try.prog w r b0 65 v) (h : DataW.Trod enc Try.prog w base (fun _ => true) held 65 v d p) (hl : Light Try.prog 65 d) :
    ∃ i st A n c B m e nx ot, v = .agg #[.int .i64 i, .int .i64 st, .slice A n c, .slice B m e] ∧ Lists w A n nx ∧ Lists w B m ot ∧ (Lit.int .i64 i).wf = true ∧ (Lit.int .i64 st).wf = true := by
  obtain ⟨c0, c1, c2, c3, y0, y1, y2, y3, f, rfl, hd, _, h0, h1, h2, h3⟩ := open_agg4 Try.underlying65 (by kernel_rfl) cells_mealy hv h
  obtain ⟨i, e0, _, w0⟩ := DataW.trod_int Try.underlying3 h0
  obtain ⟨st, e1, _, w1⟩ := DataW.trod_int Try.underlying3 h1
  subst hd
  have hw : ∀ n, n ∈ y2.1.weights Try.prog 33 ∨ n ∈ y3.1.weights Try.prog 33 → n ≤ reachBytes := fun n hn => hl n (by
    simp only [DataW.weights, Try.underlying65]
    rcases hn with hn | hn
    · exact DataW.weights_mem_each (j := 2) rfl rfl n hn
    · exact DataW.weights_mem_each (j := 3) rfl rfl n hn)
  obtain ⟨A, n, c, nx, e2, _, l2⟩ := open_lists hb3 hb4 h2 (fun n hn => hw n (.inl hn))
  obtain ⟨B, m, e, ot, e3, _, l3⟩ := open_lists hb3 hb4 h3 (fun n hn => hw n (.inr hn))
  simp at e0 e1 e2 e3
  subst e0 e1 e2 e3
  exact ⟨i, st, A, n, c, B, m, e, nx, ot, rfl, l2, l3, w0, w1⟩
end
end Go.Proofs.Ytihahljpfekmbaa
