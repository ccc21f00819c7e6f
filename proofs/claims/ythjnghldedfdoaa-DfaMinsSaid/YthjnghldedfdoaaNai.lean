/- Lemmas of the proofs of this seat, of the parts Wf, Nums, Openb, Openm, Trimm, Boxm, Gr7, Opend, Fromr. Conditions: none. -/
import Derived.WalkKit
import Derived.DataShut
import Derived.Test.YthjnghldedfdoaaNaa
import Derived.Deep.Matrix
import Derived.Lib.SmallJoins
import Derived.ProofKit
import Derived.SizedLaws
import Derived.Test.YthjnghldedfdoaaNab
import Derived.Test.YthjnghldedfdoaaNac
import Derived.Test.YthjnghldedfdoaaNaf
import Derived.Deep.Grids
section
/- What a well formed number is. -/
namespace Go.Proofs.Ythjnghldedfdoaa

theorem u64_nat {a : Int} (h : (Lit.int .u64 a).wf = true) : ∃ s : Nat, a = s ∧ s < 18446744073709551616 := by
  obtain ⟨h1, h2⟩ := (Lit.wf_int_iff _ _).1 h
  simp [IntKind.min, IntKind.max, IntKind.signed, IntKind.bits] at h1 h2
  exact ⟨a.toNat, by omega, by omega⟩
theorem u8_nat {a : Int} (h : (Lit.int .u8 a).wf = true) : ∃ s : Nat, a = s ∧ s < 256 := by
  obtain ⟨h1, h2⟩ := (Lit.wf_int_iff _ _).1 h
  simp [IntKind.min, IntKind.max, IntKind.signed, IntKind.bits] at h1 h2
  exact ⟨a.toNat, by omega, by omega⟩
theorem i64_in {a : Int} (h : (Lit.int .i64 a).wf = true) : -9223372036854775808 ≤ a ∧ a ≤ 9223372036854775807 := by
  obtain ⟨h1, h2⟩ := (Lit.wf_int_iff _ _).1 h
  simp [IntKind.min, IntKind.max, IntKind.signed, IntKind.bits] at h1 h2
  exact ⟨h1, h2⟩
end Go.Proofs.Ythjnghldedfdoaa
end

section
/- A slice of numbers of any kind that reads as a list. -/
namespace Go.Proofs.Ythjnghldedfdoaa
open Go.RowKit

/-- The slice '.slice A n _' holds the numbers xs of the kind kd, which fit it. -/
def Nums (kd : IntKind) (w : World) (A : Option Addr) (n : Nat) (xs : List Int) : Prop :=
  xs.length = n ∧ n ≤ 17592186044416 ∧ (0 < n → ∃ b off, A = some ⟨b, off, none⟩ ∧ b < w.heap.size ∧ ∀ j, j < n → w.cell? ⟨b, off + j, none⟩ = some (.int kd (xs[j]?.getD 0))) ∧
  ∀ j, j < n → (Lit.int kd (xs[j]?.getD 0)).wf = true

theorem Nums.below {kd : IntKind} {w w' : World} {A : Option Addr} {n : Nat} {xs : List Int} (h : Nums kd w A n xs) (hb : Below w.heap.size w w') : Nums kd w' A n xs :=
  ⟨h.1, h.2.1, fun hn => by
    obtain ⟨b, off, e, hlt, hc⟩ := h.2.2.1 hn
    exact ⟨b, off, e, Nat.lt_of_lt_of_le hlt hb.size, fun j hj => (hb.cell hlt).trans (hc j hj)⟩, h.2.2.2⟩

theorem Nums.at_ {kd : IntKind} {w : World} {A : Option Addr} {n : Nat} {xs : List Int} (h : Nums kd w A n xs) {k : Nat} (hk : k < n) :
    ∃ b off, A = some ⟨b, off, none⟩ ∧ b < w.heap.size ∧ w.cell? ⟨b, off + k, none⟩ = some (.int kd (xs[k]?.getD 0)) := by
  obtain ⟨b, off, e, hlt, hc⟩ := h.2.2.1 (by omega)
  exact ⟨b, off, e, hlt, hc k hk⟩

theorem Nums.of_in {kd : IntKind} {w : World} {A : Option Addr} {n cap : Nat} {zs : List Int} (hn : n ≤ 17592186044416)
    (h : (A = none ∧ n = 0 ∧ cap = 0 ∧ zs = []) ∨
      ∃ x, A = some x ∧ n ≤ cap ∧ cap ≤ maxLen ∧ zs.length = cap ∧ (∀ i, i < zs.length → w.cell? (x.add i) = some (.int kd (zs.getD i 0))) ∧ ∀ n ∈ zs, (Lit.int kd n).wf = true) :
    Nums kd w A n (zs.take n) := by
  rcases h with ⟨rfl, rfl, rfl, rfl⟩ | ⟨x, rfl, h1, _, h2, hc, hw⟩
  · exact ⟨rfl, by omega, fun h => absurd h (by omega), fun j h => absurd h (by omega)⟩
  · refine ⟨by rw [List.length_take]; omega, hn, fun h0 => ?_, fun j hj => ?_⟩
    · obtain ⟨b, off, spot⟩ := x
      have hc0 := hc 0 (by omega)
      have hspot : spot = none := by simpa [Addr.add] using World.cell?_spot hc0
      subst hspot
      refine ⟨b, off, rfl, by have := block_lt hc0; simpa [Addr.add] using this, fun j hj => ?_⟩
      have := hc j (by omega)
      rw [show (⟨b, off, none⟩ : Addr).add j = ⟨b, off + j, none⟩ by unfold Addr.add; split <;> simp_all] at this
      rw [this]
      simp [List.getD, hj]
    · apply hw
      rw [List.getElem?_take, if_pos hj, List.getElem?_eq_getElem (by omega)]
      exact List.getElem_mem _
end Go.Proofs.Ythjnghldedfdoaa
end

section
/- What the rows hand over: slices of numbers, with the form's reach. -/
namespace Go.Proofs.Ythjnghldedfdoaa
open Go.ChangeShapes Go.WideShapes Go.ChangeAt Go.RowKit Go.Joins Go.Deep

theorem bsz {w w' : World} {o : Obj} (h : Below (w.heap.size + 1) (w.alloc o) w') : w.heap.size + 1 ≤ w'.heap.size := by have := h.size; simpa using this

section
variable {H : Type} {enc : TypeId × Value → H}

/-- A change's contract with the reach at hand. -/
theorem handed_sized {C : Checked} {os : Os} {f : FuncId} {fn : Func} {s : ChangeSpec} {conds : List PathCond} {apart fresh handsOn again : Bool}
    (own : ownKnob C.prog.godebug = none) (started : os.Started) (noInit : C.prog.inits.idxOf? f = none) (hfn : C.prog.funcs[f]? = some fn)
    (witness : ∃ (w : World) (tape : Tape) (i : Input), w.os = os ∧ (w.forCall tape i).Shaped C.prog ∧ i.vars = [] ∧ Input.okWide C.prog (w.forCall tape i) .any w.heap.size f i ∧
      s.pre6 enc C.prog fn conds apart (w.forCall tape i).memory i.args ∧ ({} : Assume).holds C.prog (lone (Frame.enter C.prog f i.args .normal) [] (w.forCall tape i)))
    (contract : ∀ (W : World) (base : Nat) (args : Array Value) (ds gs : List (DataW H)) (before : List MemPlace),
      (∀ (j : Nat) t v, fn.params[j]? = some t → args[j]? = some v → Value.okWide C.prog W .any base t v) →
      DataW.Whole enc C.prog fn.params.toList s.vars apart W args.toList ds gs before →
      (DataW.weightsEach C.prog (fn.params.toList ++ s.plain.varTypes C.prog) (ds ++ gs)).all (· ≤ reachBytes) = true →
      Calls C.prog f args W fun e W' => ∃ v, e = .returned v ∧ s.post enc C.prog fn apart fresh handsOn again W args v W') :
    ReturnsInHanded {} C os f .any (s.pre6 enc C.prog fn conds apart) (s.post enc C.prog fn apart fresh handsOn again) := by
  have e : s.pre6 enc C.prog fn conds apart = fun w args => (s.pre enc C.prog fn conds apart w args ∧ True) ∧ sizedMet enc C.prog fn (OpenSpec.ofChange s) apart w args := by
    funext w args
    unfold ChangeSpec.pre6
    rw [and_true]
  rw [e] at witness ⊢
  exact returnsInHanded_of_change_and (X := fun _ _ => True) (fun _ _ _ _ _ => trivial) own started noInit hfn witness (fun W base args ds gs before h1 h2 _ h4 _ _ => contract W base args ds gs before h1 h2 h4)

/-- What a datum weighs is within the reach. -/
def Light (P : Program) (t : TypeId) (d : DataW H) : Prop := ∀ n ∈ d.weights P t, n ≤ reachBytes
theorem light_of {P : Program} {ts : List TypeId} {ds : List (DataW H)} (h : (DataW.weightsEach P ts ds).all (· ≤ reachBytes) = true) {j : Nat} {t : TypeId} {d : DataW H} (ht : ts[j]? = some t) (hd : ds[j]? = some d) : Light P t d := fun n hn => by
  have := List.all_eq_true.1 h _ (DataW.weights_mem_each ht hd n hn)
  simpa using this

theorem add_none {b off k : Nat} : (⟨b, off, none⟩ : Addr).add k = ⟨b, off + k, none⟩ := by unfold Addr.add; split <;> simp_all
theorem reach_num : reachBytes = 140737488351232 := rfl

variable {w : World} {base : Nat} {held : Bool} {fuel : Nat} {cs : List Value} {x : DataW H × List MemPlace}

/-- A slice of ints that came in. -/
theorem open_intsw (hb3 : Try.prog.bytesOf 3 = 8) (h : DataW.trod enc Try.prog w base (fun _ => true) held fuel 26 cs = some x) (hl : Light Try.prog 26 x.1) :
    ∃ A n c zs, cs = [.slice A n c] ∧ n ≤ c ∧ Ints w A n zs ∧ (∀ z, z ∈ zs → (Lit.int .i64 z).wf = true) := by
  rcases open_ints Try.underlying26 Try.underlying3 (by kernel_rfl) h with ⟨hcs, hx⟩ | ⟨a, l, c, zs, hcs, _, hlc, hm, hz, hx, hcell, hwz⟩
  · exact ⟨none, 0, 0, [], hcs, Nat.le_refl _, ⟨rfl, by omega, fun h => absurd h (by omega)⟩, by simp⟩
  · simp only [if_true] at hz
    subst hx
    have := hl (((lits (H := H) .i64 (zs.take l)).length + (lits (H := H) .i64 (zs.drop l)).length) * 8) (by simp [DataW.weights, Try.underlying26, hb3])
    rw [reach_num] at this
    simp only [lits, List.length_map, List.length_take, List.length_drop] at this
    have hb : l ≤ 17592186044416 := by omega
    exact ⟨some a, l, c, zs.take l, hcs, hlc, Ints.of_in (cap := c) hb (.inr ⟨a, rfl, hlc, hm, hz, hcell, hwz⟩), fun z hz => hwz z (List.mem_of_mem_take hz)⟩

theorem weightsAll_mem {P : Program} {e : TypeId} : ∀ {l : List (DataW H)} {d : DataW H} {n : Nat}, d ∈ l → n ∈ d.weights P e → n ∈ DataW.weightsAll P e l
  | [], _, _, h, _ => absurd h (by simp)
  | d0 :: l, d, n, h, hn => by
    rw [DataW.weightsAll, List.mem_append]
    rcases List.mem_cons.1 h with e | h
    · subst e; exact .inl hn
    · exact .inr (weightsAll_mem h hn)
end
end Go.Proofs.Ythjnghldedfdoaa
end

section
/- What the rows hand over: slices of lists, machines, with the form's reach. -/
namespace Go.Proofs.Ythjnghldedfdoaa
open Go.ChangeShapes Go.WideShapes Go.ChangeAt Go.RowKit Go.Joins Go.Deep

section
variable {H : Type} {enc : TypeId × Value → H} {w : World} {base : Nat} {held : Bool} {fuel : Nat} {cs : List Value} {x : DataW H × List MemPlace}

/-- A slice of slices of ints that came in. -/
theorem open_lists (hb3 : Try.prog.bytesOf 3 = 8) (hb4 : Try.prog.bytesOf 26 = 24) (h : DataW.trod enc Try.prog w base (fun _ => true) held fuel 22 cs = some x) (hl : Light Try.prog 22 x.1) :
    ∃ A n c xss, cs = [.slice A n c] ∧ n ≤ c ∧ Lists w A n xss := by
  rcases open_int_rows Try.underlying22 Try.underlying26 Try.underlying3 (by kernel_rfl) (by kernel_rfl) h with ⟨hcs, hx⟩ | ⟨a, l, c, A, L, C, Z, hcs, _, hlc, hm, hx, hcell⟩
  · exact ⟨none, 0, 0, [], hcs, Nat.le_refl _, ⟨rfl, by omega, fun h => absurd h (by omega)⟩⟩
  · subst hx
    refine ⟨some a, l, c, (List.range l).map fun r => (Z r).take (L r), hcs, hlc, by simp, ?_, fun h0 => ?_⟩
    · have := hl ((((List.range l).map fun r => intRow (H := H) .i64 (A r) (L r) (Z r)).length + ((List.range (c - l)).map fun j => intRow (H := H) .i64 (A (l + j)) (L (l + j)) (Z (l + j))).length) * 24) (by simp [DataW.weights, Try.underlying22, hb4])
      rw [reach_num] at this
      simp only [List.length_map, List.length_range] at this
      omega
    · obtain ⟨b, off, spot⟩ := a
      have hc0 := (hcell 0 (by omega)).1
      have hspot : spot = none := by simpa [Addr.add] using World.cell?_spot hc0
      subst hspot
      refine ⟨b, off, rfl, by have := block_lt hc0; simpa [Addr.add] using this, fun j hj => ?_⟩
      obtain ⟨h1, h2, h3, h4, h5, h6, h7⟩ := hcell j (by omega)
      have e : ((List.range l).map fun r => (Z r).take (L r)).getD j [] = (Z j).take (L j) := by simp [List.getD, hj]
      rw [add_none] at h1
      refine ⟨A j, L j, C j, h1, ?_⟩
      rw [e]
      cases hA : A j with
      | none =>
        have hC := h6 hA
        exact Ints.of_in (cap := C j) (by omega) (.inl ⟨rfl, by omega, hC, List.eq_nil_of_length_eq_zero (by omega)⟩)
      | some y =>
        have hw : Light Try.prog 26 (intRow (H := H) .i64 (A j) (L j) (Z j)) := fun n hn => hl n (by
          simp only [DataW.weights, Try.underlying22]
          exact List.mem_cons_of_mem _ (List.mem_append_left _ (weightsAll_mem (List.mem_map.2 ⟨j, List.mem_range.2 hj, rfl⟩) hn)))
        rw [hA] at hw
        have := hw (((lits (H := H) .i64 ((Z j).take (L j))).length + (lits (H := H) .i64 ((Z j).drop (L j))).length) * 8) (by simp [intRow, DataW.weights, Try.underlying26, hb3])
        rw [reach_num] at this
        simp only [lits, List.length_map, List.length_take, List.length_drop] at this
        exact Ints.of_in (cap := C j) (by omega) (.inr ⟨y, rfl, h2, h3, h4, fun i hi => (h7 y hA).2 i (by omega), h5⟩)

theorem cells_mealy : Try.prog.cellsOf 58 = 4 := by kernel_rfl
set_option maxRecDepth 100000 in
/-- A machine that came in. -/
theorem open_mealy (hb3 : Try.prog.bytesOf 3 = 8) (hb4 : Try.prog.bytesOf 26 = 24) {r : Reach} {b0 : Nat} {v : Value} {d : DataW H} {p : List MemPlace} (hv : Value.okWide Try.prog w r b0 58 v) (h : DataW.Trod enc Try.prog w base (fun _ => true) held 58 v d p) (hl : Light Try.prog 58 d) :
    ∃ i st A n c B m e nx ot, v = .agg #[.int .i64 i, .int .i64 st, .slice A n c, .slice B m e] ∧ Lists w A n nx ∧ Lists w B m ot ∧ (Lit.int .i64 i).wf = true ∧ (Lit.int .i64 st).wf = true := by
  obtain ⟨c0, c1, c2, c3, y0, y1, y2, y3, f, rfl, hd, _, h0, h1, h2, h3⟩ := open_agg4 Try.underlying58 (by kernel_rfl) cells_mealy hv h
  obtain ⟨i, e0, _, w0⟩ := DataW.trod_int Try.underlying3 h0
  obtain ⟨st, e1, _, w1⟩ := DataW.trod_int Try.underlying3 h1
  subst hd
  have hw : ∀ n, n ∈ y2.1.weights Try.prog 22 ∨ n ∈ y3.1.weights Try.prog 22 → n ≤ reachBytes := fun n hn => hl n (by
    simp only [DataW.weights, Try.underlying58]
    rcases hn with hn | hn
    · exact DataW.weights_mem_each (j := 2) rfl rfl n hn
    · exact DataW.weights_mem_each (j := 3) rfl rfl n hn)
  obtain ⟨A, n, c, nx, e2, _, l2⟩ := open_lists hb3 hb4 h2 (fun n hn => hw n (.inl hn))
  obtain ⟨B, m, e, ot, e3, _, l3⟩ := open_lists hb3 hb4 h3 (fun n hn => hw n (.inr hn))
  simp at e0 e1 e2 e3
  subst e0 e1 e2 e3
  exact ⟨i, st, A, n, c, B, m, e, nx, ot, rfl, l2, l3, w0, w1⟩
end
end Go.Proofs.Ythjnghldedfdoaa
end

section
/- Trim of a machine. -/
namespace Go.Proofs.Ythjnghldedfdoaa
open Go.RowKit

/-- A block of a machine. -/
def Mblk (w : World) (g : Nat) (a b c d : Value) : Prop := w.heap[g]? = some (.cells #[a, b, c, d] 58 (0, 0))
theorem Mblk.cells {w : World} {g : Nat} {a b c d : Value} (h : Mblk w g a b c d) :
    w.cell? ⟨g, 0, none⟩ = some a ∧ w.cell? ⟨g, 1, none⟩ = some b ∧ w.cell? ⟨g, 2, none⟩ = some c ∧ w.cell? ⟨g, 3, none⟩ = some d ∧ w.frozen? ⟨g, 0, none⟩ = false ∧ w.frozen? ⟨g, 1, none⟩ = false ∧ w.frozen? ⟨g, 2, none⟩ = false ∧ w.frozen? ⟨g, 3, none⟩ = false :=
  ⟨cell_of_row w g 0 _ _ (0, 0) h, cell_of_row w g 1 _ _ (0, 0) h, cell_of_row w g 2 _ _ (0, 0) h, cell_of_row w g 3 _ _ (0, 0) h, frozen_of_row w g 0 _ _ h, frozen_of_row w g 1 _ _ h, frozen_of_row w g 2 _ _ h, frozen_of_row w g 3 _ _ h⟩
theorem Mblk.kept {w w' : World} {g : Nat} {a b c d : Value} (h : Mblk w g a b c d) {k : Nat} (hb : Below k w w') (hg : g < k) : Mblk w' g a b c d := (hb.block g hg).trans h
theorem Mblk.keptT {w w' : World} {g : Nat} {a b c d : Value} (h : Mblk w g a b c d) (hb : KeptT 58 w w') : Mblk w' g a b c d := hb g _ h

/-- A result that lies in memory, a machine, and one more. -/
theorem results_mealy {fn : Func} {p u : Tmp} (h : fn.results = #[.cell p 58, .tmp u]) (tmps : Array Value) (w : World) (g : Nat) (a b c d : Value)
    (hp : tmps.getD p undef = .pointer (some ⟨g, 0, none⟩)) (hg : Mblk w g a b c d) :
    (results fn tmps).run Try.prog w = .ok (.tuple #[.agg #[a, b, c, d], tmps.getD u undef]) w := by
  rw [results_cell_tmp h, hp]
  have hl := run_loadVar_row (P := Try.prog) w g 58 58 #[a, b, c, d] (0, 0) _ hg Try.underlying58 rfl (by kernel_rfl)
  simp [asAddr, hl]
theorem Mblk.set4 {w : World} {g : Nat} {a b c d : Value} (h : Mblk w g a b c d) (a' b' c' d' : Value) :
    Mblk ((((w.setCell ⟨g, 0, none⟩ a').setCell ⟨g, 1, none⟩ b').setCell ⟨g, 2, none⟩ c').setCell ⟨g, 3, none⟩ d') g a' b' c' d' := by
  have h1 := heap_setCell_same w g 0 _ _ a' h
  have h2 := heap_setCell_same _ g 1 _ _ b' h1
  have h3 := heap_setCell_same _ g 2 _ _ c' h2
  have h4 := heap_setCell_same _ g 3 _ _ d' h3
  exact h4

theorem OwnedL.drew {w : World} {base : Nat} {v : Value} {xss : List (List Int)} (h : OwnedL w base v xss) (q : Nat) : OwnedL (w.drewN q) base v xss := h
theorem Mblk.set2 {w : World} {g : Nat} {a b c d : Value} (h : Mblk w g a b c d) (v : Value) : Mblk (w.setCell ⟨g, 2, none⟩ v) g a b v d := heap_setCell_same w g 2 _ _ v h
theorem Mblk.set3 {w : World} {g : Nat} {a b c d : Value} (h : Mblk w g a b c d) (v : Value) : Mblk (w.setCell ⟨g, 3, none⟩ v) g a b c v := heap_setCell_same w g 3 _ _ v h
theorem OwnedL.offM {w : World} {base g j : Nat} {v : Value} {xss : List (List Int)} {a b c d : Value} (h : OwnedL w base v xss) (hM : Mblk w g a b c d) (u : Value) : OwnedL (w.setCell ⟨g, j, none⟩ u) base v xss :=
  h.keptT (KeptT.off hM (by decide) u) (KeptT.off hM (by decide) u)

/-- What a row of lists in a machine's block is behind a call and an append. -/
theorem trim_step {wo w8 w9 : World} {gT k m c9 : Nat} {x y u : Value} {AO A9 : Option Addr} {cO : Nat} {xss yss : List (List Int)} {xs : List Int} (b8 : Below gT wo w8) (hT : Mblk w8 gT x y u (.slice AO k cO)) (hN : OwnedL w8 gT u xss) (hO : OwnedL w8 gT (.slice AO k cO) yss) (hA : Apart u (.slice AO k cO))
    (q8 : Nat) (b9 : Below (w8.drewN q8).heap.size (w8.drewN q8) w9) (ho : Owned w9 (w8.drewN q8).heap.size (.slice A9 m c9) xs) (hk : k < 1759218604441) (hg : gT < w8.heap.size) :
    Mblk w9 gT x y u (.slice AO k cO) ∧ ∃ F : Nat → (Option Addr × Nat) × World, ∀ q, (Builtin.append_ #[22, 22] 22 #[.slice AO k cO, .slice (some ⟨w9.heap.size, 0, none⟩) 1 1]).run Try.prog ((w9.drewN q).alloc (.cells #[.slice A9 m c9] 26)) = .ok (.slice (F q).1.1 (k + 1) (F q).1.2) (F q).2 ∧
      Mblk (F q).2 gT x y u (.slice AO k cO) ∧ OwnedL (F q).2 gT u xss ∧ OwnedL (F q).2 gT (.slice (F q).1.1 (k + 1) (F q).1.2) (yss ++ [xs]) ∧ Apart u (.slice (F q).1.1 (k + 1) (F q).1.2) ∧ Below gT wo (F q).2 := by
  have b9' : Below w8.heap.size w8 w9 := (below_drewN (Below.refl _ _) q8).trans b9
  have hT9 := hT.kept b9' hg
  have hyl : yss.length = k := by obtain ⟨A', c', e⟩ := hO.form; cases e; rfl
  refine ⟨hT9, skol (p := fun q (r : (Option Addr × Nat) × World) => (Builtin.append_ #[22, 22] 22 #[.slice AO k cO, .slice (some ⟨w9.heap.size, 0, none⟩) 1 1]).run Try.prog ((w9.drewN q).alloc (.cells #[.slice A9 m c9] 26)) = .ok (.slice r.1.1 (k + 1) r.1.2) r.2 ∧
      Mblk r.2 gT x y u (.slice AO k cO) ∧ OwnedL r.2 gT u xss ∧ OwnedL r.2 gT (.slice r.1.1 (k + 1) r.1.2) (yss ++ [xs]) ∧ Apart u (.slice r.1.1 (k + 1) r.1.2) ∧ Below gT wo r.2) fun q => ?_⟩
  have hN9 := hN.kept b9'
  obtain ⟨A', c', w', h1, h2, h3, h4, h5, h6⟩ := run_append_list ((hO.kept b9').drew q) ((ho.lower (base' := gT) (Nat.le_of_lt hg)).drew q) (by have := b9'.size; show gT ≤ w9.heap.size; omega) (by omega)
  rw [hyl] at h1 h2 h6
  have hT9q : Mblk (w9.drewN q) gT x y u (.slice AO k cO) := hT9
  exact ⟨((A', c'), w'), h1, hT9q.keptT (h4 _ (by decide)), (hN9.drew q).keptB h5 hA.symm (h4 _ (by decide)), h2, (hA.symm.moved h6 (hN9.drew q)).symm, b8.trans ((b9'.mono (Nat.le_of_lt hg)).trans ((below_drewN (Below.refl _ _) q).trans h3))⟩

end Go.Proofs.Ythjnghldedfdoaa
end

section
/- Boxes of machines; rows that a call owns, as lists. -/
namespace Go.Proofs.Ythjnghldedfdoaa
open Go.RowKit

theorem mealy_box (w : World) (a b c d : Value) : Mblk (w.alloc (.cells #[a, b, c, d] 58)) w.heap.size a b c d := heap_alloc_new _ _
theorem lists_ownedM {w : World} {base : Nat} {A : Option Addr} {n c i st : Nat} {nx ot : List (List Int)} (hM : Mok i st n nx ot) (h : OwnedL w base (.slice A n c) nx) : Lists w A n nx :=
  h.lists (by rw [hM.nxl]; have := hM.n2; omega) fun xs hxs => by
    obtain ⟨s, hs, rfl⟩ := List.getElem_of_mem hxs
    have h1 := (hM.row s (by rw [← hM.nxl]; exact hs)).1
    rw [List.getD_eq_getElem?_getD, List.getElem?_eq_getElem hs] at h1
    have := hM.i2
    have h1 : nx[s].length = i := h1
    omega
theorem lists_ownedO {w : World} {base : Nat} {A : Option Addr} {n c i st : Nat} {nx ot : List (List Int)} (hM : Mok i st n nx ot) (h : OwnedL w base (.slice A n c) ot) : Lists w A n ot :=
  h.lists (by rw [hM.otl]; have := hM.n2; omega) fun xs hxs => by
    obtain ⟨s, hs, rfl⟩ := List.getElem_of_mem hxs
    have h1 := (hM.row s (by rw [← hM.otl]; exact hs)).2.1
    rw [List.getD_eq_getElem?_getD, List.getElem?_eq_getElem hs] at h1
    have := hM.i2
    have h1 : ot[s].length = i := h1
    omega
end Go.Proofs.Ythjnghldedfdoaa
end

section
/- Great of the laws of dfa. -/
namespace Go.Proofs.Ythjnghldedfdoaa
open Go.RowKit

/-- A list of truth values of any length that memory holds. -/
def BoolsL (w : World) (A : Option Addr) (n : Nat) (bs : List Bool) : Prop :=
  bs.length = n ∧ n ≤ 140737488355328 ∧ (0 < n → ∃ b off, A = some ⟨b, off, none⟩ ∧ b < w.heap.size ∧ ∀ j, j < n → w.cell? ⟨b, off + j, none⟩ = some (.bool (bs.getD j false)))
theorem BoolsL.bools {w : World} {A : Option Addr} {n : Nat} {bs : List Bool} (h : BoolsL w A n bs) (hn : n ≤ 20) : Bools w A n bs := ⟨h.1, by omega, h.2.2⟩
def SomeD (n m : Nat) (nx : List (List Int)) (w : World) (e : Ending) (w' : World) : Prop := ∃ b : Bool, e = .returned (.bool b) ∧ (b = false → n ≤ 12 ∧ m ≤ 20 ∧ ∀ k, k < n → (nx.getD k []).length ≤ 6) ∧ Below w.heap.size w w'
set_option maxHeartbeats 1000000 in
theorem rgreat7 (i st : Int) (A B : Option Addr) (n c m d : Nat) (nx : List (List Int)) (w : World) (hx : Lists w A n nx) (hm : m ≤ 140737488355328) :
    Calls Try.prog 10 #[.agg #[.int .i64 i, .int .i64 st, .slice A n c, .slice B m d]] w (SomeD n m nx w) := by
  have hb0 := alloc_below w (.cells #[.int .i64 i, .int .i64 st, .slice A n c, .slice B m d] 25)
  have hB := dfa_box w (.int .i64 i) (.int .i64 st) (.slice A n c) (.slice B m d)
  have hn := hx.2.1
  go_enter Try.func10, Try.ntmps10
  go_wp2_with fail
  generalize w.alloc (.cells #[.int .i64 i, .int .i64 st, .slice A n c, .slice B m d] 25) = w1 at hb0 hB ⊢
  obtain ⟨k0, k1, k2, k3, _⟩ := hB.cells
  clear hB
  go_loop [3] (fun kv => ∃ k : Nat, k ≤ n ∧ k ≤ 13 ∧ kv = .int .i64 k ∧ ∀ j, j < k → (nx.getD j []).length ≤ 6) (fun kv => 13 - (intOf kv).toNat)
  case atStart => exact ⟨0, Nat.zero_le _, Nat.zero_le _, rfl, fun j h => absurd h (by omega)⟩
  case round =>
    obtain ⟨k, hk, hk13, rfl, hall⟩ := hrel
    have HALL := Lib.hid hall
    clear hall
    by_cases hlt : k < n
    · by_cases h13 : k < 13
      · have d1 : decide ((k : Int) < 13) = true := decide_eq_true (by omega)
        have hlt' : decide ((k : Int) < (n : Int)) = true := decide_eq_true (by omega)
        obtain ⟨g1, o1, A1, n1, c1, rfl, hg1, hd1, hr1⟩ := hx.at_ hlt
        have e1 := (hb0.cell (p := ⟨g1, o1 + k, none⟩) hg1).trans hd1
        have HL := Lib.hid hr1.1
        have hn1 := hr1.2.1
        clear hd1
        by_cases h6 : 6 < n1
        · have d6 : decide ((6 : Int) < (n1 : Int)) = true := decide_eq_true (by omega)
          go_wp2_with fail
          go_ret
          exact ⟨true, rfl, fun h => absurd h (by decide), hb0⟩
        · have d6 : decide ((6 : Int) < (n1 : Int)) = false := decide_eq_false (by omega)
          have HN := Lib.hid (show ∀ j, j < k + 1 → (nx.getD j []).length ≤ 6 from fun j hj => by
            by_cases e : j = k
            · subst e; rw [HL.out]; omega
            · exact HALL.out j (by omega))
          go_wp2_with fail
          go_round
          case rel => exact ⟨k + 1, by omega, by omega, by go_num, HN.out⟩
          case measure => simp [intOf]; omega
      · have d1 : decide ((k : Int) < 13) = false := decide_eq_false (by omega)
        have hlt' : decide ((k : Int) < (n : Int)) = true := decide_eq_true (by omega)
        have d2 : decide ((12 : Int) < (n : Int)) = true := decide_eq_true (by omega)
        clear h13
        go_wp2_with fail
        go_ret
        exact ⟨true, rfl, fun h => absurd h (by decide), hb0⟩
    · obtain rfl : k = n := by omega
      have d1 : decide ((k : Int) < (k : Int)) = false := decide_eq_false (by omega)
      by_cases h12 : 12 < k
      · have d2 : decide ((12 : Int) < (k : Int)) = true := decide_eq_true (by omega)
        go_wp2_with fail
        go_ret
        exact ⟨true, rfl, fun h => absurd h (by decide), hb0⟩
      · have d2 : decide ((12 : Int) < (k : Int)) = false := decide_eq_false (by omega)
        go_wp2_with fail
        go_ret
        exact ⟨decide ((20 : Int) < (m : Int)), rfl, fun h => ⟨by omega, by have := of_decide_eq_false h; omega, HALL.out⟩, hb0⟩
def SomeM (n m : Nat) (nx ot : List (List Int)) (w : World) (e : Ending) (w' : World) : Prop := ∃ b : Bool, e = .returned (.bool b) ∧ (b = false → n ≤ 12 ∧ m ≤ 20 ∧ (∀ k, k < n → (nx.getD k []).length ≤ 6) ∧ ∀ k, k < m → (ot.getD k []).length ≤ 6) ∧ Below w.heap.size w w'
set_option maxHeartbeats 1000000 in
theorem rgreat7m (i st : Int) (A B : Option Addr) (n c m d : Nat) (nx ot : List (List Int)) (w : World) (hx : Lists w A n nx) (ho : Lists w B m ot) :
    Calls Try.prog 30 #[.agg #[.int .i64 i, .int .i64 st, .slice A n c, .slice B m d]] w (SomeM n m nx ot w) := by
  have hb0 := alloc_below w (.cells #[.int .i64 i, .int .i64 st, .slice A n c, .slice B m d] 58)
  have hB := mealy_box w (.int .i64 i) (.int .i64 st) (.slice A n c) (.slice B m d)
  have hn := hx.2.1
  have hm := ho.2.1
  go_enter Try.func30, Try.ntmps30
  go_wp2_with fail
  generalize w.alloc (.cells #[.int .i64 i, .int .i64 st, .slice A n c, .slice B m d] 58) = w1 at hb0 hB ⊢
  obtain ⟨k0, k1, k2, k3, _⟩ := hB.cells
  clear hB
  go_loop [3] (fun kv => ∃ k : Nat, k ≤ n ∧ k ≤ 13 ∧ kv = .int .i64 k ∧ ∀ j, j < k → (nx.getD j []).length ≤ 6) (fun kv => 13 - (intOf kv).toNat)
  case atStart => exact ⟨0, Nat.zero_le _, Nat.zero_le _, rfl, fun j h => absurd h (by omega)⟩
  case round =>
    obtain ⟨k, hk, hk13, rfl, hall⟩ := hrel
    have HALL := Lib.hid hall
    clear hall
    by_cases hlt : k < n
    · by_cases h13 : k < 13
      · have d1 : decide ((k : Int) < 13) = true := decide_eq_true (by omega)
        have hlt' : decide ((k : Int) < (n : Int)) = true := decide_eq_true (by omega)
        obtain ⟨g1, o1, A1, n1, c1, rfl, hg1, hd1, hr1⟩ := hx.at_ hlt
        have e1 := (hb0.cell (p := ⟨g1, o1 + k, none⟩) hg1).trans hd1
        have HL := Lib.hid hr1.1
        have hn1 := hr1.2.1
        clear hd1
        by_cases h6 : 6 < n1
        · have d6 : decide ((6 : Int) < (n1 : Int)) = true := decide_eq_true (by omega)
          go_wp2_with fail
          go_ret
          exact ⟨true, rfl, fun h => absurd h (by decide), hb0⟩
        · have d6 : decide ((6 : Int) < (n1 : Int)) = false := decide_eq_false (by omega)
          have HN := Lib.hid (show ∀ j, j < k + 1 → (nx.getD j []).length ≤ 6 from fun j hj => by
            by_cases e : j = k
            · subst e; rw [HL.out]; omega
            · exact HALL.out j (by omega))
          go_wp2_with fail
          go_round
          case rel => exact ⟨k + 1, by omega, by omega, by go_num, HN.out⟩
          case measure => simp [intOf]; omega
      · have d1 : decide ((k : Int) < 13) = false := decide_eq_false (by omega)
        have hlt' : decide ((k : Int) < (n : Int)) = true := decide_eq_true (by omega)
        have d2 : decide ((12 : Int) < (n : Int)) = true := decide_eq_true (by omega)
        have H12 := Lib.hid (show 12 < n by omega)
        clear h13 d2
        go_wp2_with fail
        go_loop [4] (fun kv => ∃ k : Nat, k ≤ m ∧ k ≤ 21 ∧ kv = .int .i64 k ∧ ∀ j, j < k → (ot.getD j []).length ≤ 6) (fun kv => 21 - (intOf kv).toNat)
        case atStart => exact ⟨0, Nat.zero_le _, Nat.zero_le _, rfl, fun j h => absurd h (by omega)⟩
        case round =>
          obtain ⟨k2, hk2, hk21, rfl, hall⟩ := hrel
          have HALL2 := Lib.hid hall
          clear hall
          by_cases hlt2 : k2 < m
          · by_cases h21 : k2 < 21
            · have d1 : decide ((k2 : Int) < 21) = true := decide_eq_true (by omega)
              have hlt' : decide ((k2 : Int) < (m : Int)) = true := decide_eq_true (by omega)
              obtain ⟨g1, o1, A1, n1, c1, rfl, hg1, hd1, hr1⟩ := ho.at_ hlt2
              have e1 := (hb0.cell (p := ⟨g1, o1 + k2, none⟩) hg1).trans hd1
              have HL := Lib.hid hr1.1
              have hn1 := hr1.2.1
              clear hd1
              by_cases h6 : 6 < n1
              · have d6 : decide ((6 : Int) < (n1 : Int)) = true := decide_eq_true (by omega)
                go_wp2_with fail
                go_ret
                exact ⟨true, rfl, fun h => absurd h (by decide), hb0⟩
              · have d6 : decide ((6 : Int) < (n1 : Int)) = false := decide_eq_false (by omega)
                have HN := Lib.hid (show ∀ j, j < k2 + 1 → (ot.getD j []).length ≤ 6 from fun j hj => by
                  by_cases e : j = k2
                  · subst e; rw [HL.out]; omega
                  · exact HALL2.out j (by omega))
                go_wp2_with fail
                go_round
                case rel => exact ⟨k2 + 1, by omega, by omega, by go_num, HN.out⟩
                case measure => simp [intOf]; omega
            · have d1 : decide ((k2 : Int) < 21) = false := decide_eq_false (by omega)
              have hlt' : decide ((k2 : Int) < (m : Int)) = true := decide_eq_true (by omega)
              have d20 : decide ((20 : Int) < (m : Int)) = true := decide_eq_true (by omega)
              clear h21
              by_cases h12 : 12 < n
              · have d2 : decide ((12 : Int) < (n : Int)) = true := decide_eq_true (by omega)
                go_wp2_with fail
                go_ret
                exact ⟨true, rfl, fun h => absurd h (by decide), hb0⟩
              · exact absurd H12.out h12
          · obtain rfl : k2 = m := by omega
            have d1 : decide ((k2 : Int) < (k2 : Int)) = false := decide_eq_false (by omega)
            by_cases h12 : 12 < n
            · have d2 : decide ((12 : Int) < (n : Int)) = true := decide_eq_true (by omega)
              go_wp2_with fail
              go_ret
              exact ⟨true, rfl, fun h => absurd h (by decide), hb0⟩
            · exact absurd H12.out h12
    · obtain rfl : k = n := by omega
      have d1 : decide ((k : Int) < (k : Int)) = false := decide_eq_false (by omega)
      go_wp2_with fail
      go_loop [4] (fun kv => ∃ k : Nat, k ≤ m ∧ k ≤ 21 ∧ kv = .int .i64 k ∧ ∀ j, j < k → (ot.getD j []).length ≤ 6) (fun kv => 21 - (intOf kv).toNat)
      case atStart => exact ⟨0, Nat.zero_le _, Nat.zero_le _, rfl, fun j h => absurd h (by omega)⟩
      case round =>
        obtain ⟨k2, hk2, hk21, rfl, hall⟩ := hrel
        have HALL2 := Lib.hid hall
        clear hall
        by_cases hlt2 : k2 < m
        · by_cases h21 : k2 < 21
          · have d1 : decide ((k2 : Int) < 21) = true := decide_eq_true (by omega)
            have hlt' : decide ((k2 : Int) < (m : Int)) = true := decide_eq_true (by omega)
            obtain ⟨g1, o1, A1, n1, c1, rfl, hg1, hd1, hr1⟩ := ho.at_ hlt2
            have e1 := (hb0.cell (p := ⟨g1, o1 + k2, none⟩) hg1).trans hd1
            have HL := Lib.hid hr1.1
            have hn1 := hr1.2.1
            clear hd1
            by_cases h6 : 6 < n1
            · have d6 : decide ((6 : Int) < (n1 : Int)) = true := decide_eq_true (by omega)
              go_wp2_with fail
              go_ret
              exact ⟨true, rfl, fun h => absurd h (by decide), hb0⟩
            · have d6 : decide ((6 : Int) < (n1 : Int)) = false := decide_eq_false (by omega)
              have HN := Lib.hid (show ∀ j, j < k2 + 1 → (ot.getD j []).length ≤ 6 from fun j hj => by
                by_cases e : j = k2
                · subst e; rw [HL.out]; omega
                · exact HALL2.out j (by omega))
              go_wp2_with fail
              go_round
              case rel => exact ⟨k2 + 1, by omega, by omega, by go_num, HN.out⟩
              case measure => simp [intOf]; omega
          · have d1 : decide ((k2 : Int) < 21) = false := decide_eq_false (by omega)
            have hlt' : decide ((k2 : Int) < (m : Int)) = true := decide_eq_true (by omega)
            have d20 : decide ((20 : Int) < (m : Int)) = true := decide_eq_true (by omega)
            clear h21
            by_cases h12 : 12 < k
            · have d2 : decide ((12 : Int) < (k : Int)) = true := decide_eq_true (by omega)
              go_wp2_with fail
              go_ret
              exact ⟨true, rfl, fun h => absurd h (by decide), hb0⟩
            · have d2 : decide ((12 : Int) < (k : Int)) = false := decide_eq_false (by omega)
              go_wp2_with fail
              go_ret
              exact ⟨true, rfl, fun h => absurd h (by decide), hb0⟩
        · obtain rfl : k2 = m := by omega
          have d1 : decide ((k2 : Int) < (k2 : Int)) = false := decide_eq_false (by omega)
          by_cases h12 : 12 < k
          · have d2 : decide ((12 : Int) < (k : Int)) = true := decide_eq_true (by omega)
            go_wp2_with fail
            go_ret
            exact ⟨true, rfl, fun h => absurd h (by decide), hb0⟩
          · have d2 : decide ((12 : Int) < (k : Int)) = false := decide_eq_false (by omega)
            go_wp2_with fail
            go_ret
            exact ⟨decide ((20 : Int) < (k2 : Int)), rfl, fun h => ⟨by omega, by have := of_decide_eq_false h; omega, HALL.out, HALL2.out⟩, hb0⟩
end Go.Proofs.Ythjnghldedfdoaa
end

section
/- What the rows hand over: automata, with the form's reach. -/
namespace Go.Proofs.Ythjnghldedfdoaa
open Go.ChangeShapes Go.WideShapes Go.ChangeAt Go.RowKit Go.Joins Go.Deep

section
variable {H : Type} {enc : TypeId × Value → H} {w : World} {base : Nat} {held : Bool} {fuel : Nat} {cs : List Value} {x : DataW H × List MemPlace}

/-- A slice of truth values that came in. -/
theorem open_boolsw (hb3 : Try.prog.bytesOf 4 = 1) (h : DataW.trod enc Try.prog w base (fun _ => true) held fuel 23 cs = some x) (hl : Light Try.prog 23 x.1) :
    ∃ A n c bs, cs = [.slice A n c] ∧ n ≤ c ∧ BoolsL w A n bs := by
  rcases open_bools Try.underlying23 Try.underlying4 (by kernel_rfl) h with ⟨hcs, hx⟩ | ⟨a, l, c, B, hcs, _, hlc, hm, hx, hcell⟩
  · exact ⟨none, 0, 0, [], hcs, Nat.le_refl _, ⟨rfl, by omega, fun h => absurd h (by omega)⟩⟩
  · subst hx
    refine ⟨some a, l, c, (List.range l).map B, hcs, hlc, by simp, ?_, fun h0 => ?_⟩
    · have := hl ((((List.range l).map fun i => (DataW.lit (.bool (B i)) : DataW H)).length + ((List.range (c - l)).map fun j => (DataW.lit (.bool (B (l + j))) : DataW H)).length) * 1) (by simp [boolRow, DataW.weights, Try.underlying23, hb3])
      rw [reach_num] at this
      simp only [List.length_map, List.length_range] at this
      omega
    · obtain ⟨b, off, spot⟩ := a
      have hc0 := hcell 0 (by omega)
      have hspot : spot = none := by simpa [Addr.add] using World.cell?_spot hc0
      subst hspot
      refine ⟨b, off, rfl, by have := block_lt hc0; simpa [Addr.add] using this, fun j hj => ?_⟩
      have h1 := hcell j (by omega)
      rw [add_none] at h1
      rw [h1]
      simp [List.getD, hj]

theorem cells_dfa : Try.prog.cellsOf 25 = 4 := by kernel_rfl
set_option maxRecDepth 100000 in
/-- An automaton that came in. -/
theorem open_dfa (hb3 : Try.prog.bytesOf 3 = 8) (hb4 : Try.prog.bytesOf 26 = 24) (hb5 : Try.prog.bytesOf 4 = 1) {r : Reach} {b0 : Nat} {v : Value} {d : DataW H} {p : List MemPlace} (hv : Value.okWide Try.prog w r b0 25 v) (h : DataW.Trod enc Try.prog w base (fun _ => true) held 25 v d p) (hl : Light Try.prog 25 d) :
    ∃ i st A n c B m e nx ac, v = .agg #[.int .i64 i, .int .i64 st, .slice A n c, .slice B m e] ∧ Lists w A n nx ∧ BoolsL w B m ac ∧ (Lit.int .i64 i).wf = true ∧ (Lit.int .i64 st).wf = true := by
  obtain ⟨c0, c1, c2, c3, y0, y1, y2, y3, f, rfl, hd, _, h0, h1, h2, h3⟩ := open_agg4 Try.underlying25 (by kernel_rfl) cells_dfa hv h
  obtain ⟨i, e0, _, w0⟩ := DataW.trod_int Try.underlying3 h0
  obtain ⟨st, e1, _, w1⟩ := DataW.trod_int Try.underlying3 h1
  subst hd
  have hw : ∀ n, n ∈ y2.1.weights Try.prog 22 ∨ n ∈ y3.1.weights Try.prog 23 → n ≤ reachBytes := fun n hn => hl n (by
    simp only [DataW.weights, Try.underlying25]
    rcases hn with hn | hn
    · exact DataW.weights_mem_each (j := 2) rfl rfl n hn
    · exact DataW.weights_mem_each (j := 3) rfl rfl n hn)
  obtain ⟨A, n, c, nx, e2, _, l2⟩ := open_lists hb3 hb4 h2 (fun n hn => hw n (.inl hn))
  obtain ⟨B, m, e, ac, e3, _, l3⟩ := open_boolsw hb5 h3 (fun n hn => hw n (.inr hn))
  simp at e0 e1 e2 e3
  subst e0 e1 e2 e3
  exact ⟨i, st, A, n, c, B, m, e, nx, ac, rfl, l2, l3, w0, w1⟩
end
end Go.Proofs.Ythjnghldedfdoaa
end

section
/- From, Run and Step by the reference. -/
namespace Go.Proofs.Ythjnghldedfdoaa
open Go.RowKit

set_option maxHeartbeats 2000000 in
set_option maxRecDepth 100000 in
theorem rfrom (i st : Int) (A B D : Option Addr) (n c m d k e : Nat) (nx ot : List (List Int)) (s : Int) (xs : List Int) (w : World) (hx : Lists w A n nx) (ho : Lists w B m ot) (hD : Ints w D k xs) :
    Calls Try.prog 74 #[.agg #[.int .i64 i, .int .i64 st, .slice A n c, .slice B m d], .int .i64 s, .slice D k e] w fun e w' => ∃ A' c',
      e = .returned (.tuple #[.slice A' (frm i st nx ot s xs).1.length c', .int .i64 (frm i st nx ot s xs).2.1, .int .i64 (frm i st nx ot s xs).2.2]) ∧ Owned w' w.heap.size (.slice A' (frm i st nx ot s xs).1.length c') (frm i st nx ot s xs).1 ∧ Below w.heap.size w w' := by
  have L1 := Lib.hid hx.1
  have LD := Lib.hid hD.1
  have hn := hx.2.1
  have hk := hD.2.1
  have hb0 := alloc_below w (.cells #[.int .i64 i, .int .i64 st, .slice A n c, .slice B m d] 58)
  have HZ := Lib.hid (show (w.alloc (.cells #[.int .i64 i, .int .i64 st, .slice A n c, .slice B m d] 58)).heap.size = w.heap.size + 1 by simp)
  by_cases hv : vld i st nx ot = 0
  · have HV := Lib.hid hv
    obtain ⟨i, st, n', rfl, rfl, hM⟩ := vld_zero hv
    obtain rfl : n = n' := by have := hM.nxl; rw [L1.out] at this; exact this
    obtain rfl : m = n := by have := hM.otl; rw [ho.1] at this; exact this
    clear hv
    by_cases hs : 0 ≤ s ∧ s < m
    · have HS := Lib.hid hs
      have s1 : decide (s < 0) = false := by simpa using hs.1
      have s2 : decide ((m : Int) ≤ s) = false := by simpa using hs.2
      by_cases hc : chk xs i = 0
      · obtain ⟨s, rfl⟩ : ∃ t : Nat, s = t := ⟨s.toNat, by omega⟩
        have hfin := Lib.hid (frm_ok (s := s) HV.out (by rw [L1.out]; omega) hc)
        have s3 : decide (m ≤ s) = false := by simp; omega
        have HC := Lib.hid hc
        clear hs hc
        go_enter Try.func74, Try.ntmps74
        go_wp2_with fail
        refine (rvalid _ _ _ _ _ _ _ _ _ _ _ (hx.below hb0) (ho.below hb0)).mono ?_
        rintro e w1 ⟨rfl, b1⟩
        rw [HZ.out] at b1
        rw [HV.out]
        obtain ⟨k0, k1, k2, k3⟩ := box4 b1
        have bw := hb0.trans (b1.mono (Nat.le_succ _))
        go_wp2_with fail
        refine (rcheck _ _ _ _ _ _ (hD.below bw)).mono ?_
        rintro e w3 ⟨rfl, rfl⟩
        rw [HC.out]
        have hsy := Lib.hid (chk_zero HC.out).2.2.2.mem
        have hsn : s < m := by have := HS.out; omega
        go_wp2_with fail
        refine (routs _ _ _ _ _ _ _ _ _ _ _ _ _ _ _ hM (hx.below bw) (ho.below bw) hsn (hD.below bw) hsy.out).mono ?_
        rintro e w4 ⟨A4, c4, rfl, ho4, b4⟩
        have ho4 := Lib.hid (ho4.lower bw.size)
        have b4 := Lib.hid (bt bw b4)
        go_wp2
        go_ret3
        have hlen : (runO nx ot s xs).length = k := by rw [runO_len, LD.out]
        exact ⟨A4, c4, by rw [hfin.out]; exact ret_from hlen.symm rfl rfl, by rw [hfin.out]; show Owned _ _ (.slice A4 (runO nx ot s xs).length c4) _; rw [hlen]; exact ho4.out, b4.out⟩
      · have hfin := Lib.hid (frm_word HV.out (by rw [L1.out]; exact HS.out) hc)
        have hne : (chk xs i != 0) = true := by simpa using hc
        clear hs
        go_enter Try.func74, Try.ntmps74
        go_wp2_with fail
        refine (rvalid _ _ _ _ _ _ _ _ _ _ _ (hx.below hb0) (ho.below hb0)).mono ?_
        rintro e w1 ⟨rfl, b1⟩
        rw [HZ.out] at b1
        rw [HV.out]
        obtain ⟨k0, k1, k2, k3⟩ := box4 b1
        have bw := hb0.trans (b1.mono (Nat.le_succ _))
        go_wp2_with fail
        refine (rcheck _ _ _ _ _ _ (hD.below bw)).mono ?_
        rintro e w3 ⟨rfl, rfl⟩
        generalize chk xs i = E at hne hfin hc
        clear hc
        go_wp2
        go_ret3
        exact ⟨none, 0, by rw [hfin.out]; rfl, by rw [hfin.out]; exact Owned.nil _ _, bw⟩
    · have hfin := Lib.hid (frm_state (xs := xs) HV.out (by rw [L1.out]; exact hs))
      have hor : s < 0 ∨ (0 ≤ s ∧ (m : Int) ≤ s) := by omega
      clear hs
      rcases hor with h1 | ⟨h1, h2⟩
      · have t1 : decide (s < 0) = true := decide_eq_true h1
        go_enter Try.func74, Try.ntmps74
        go_wp2_with fail
        refine (rvalid _ _ _ _ _ _ _ _ _ _ _ (hx.below hb0) (ho.below hb0)).mono ?_
        rintro e w1 ⟨rfl, b1⟩
        rw [HZ.out] at b1
        rw [HV.out]
        obtain ⟨k0, k1, k2, k3⟩ := box4 b1
        have bw := hb0.trans (b1.mono (Nat.le_succ _))
        go_wp2
        go_ret3
        exact ⟨none, 0, by rw [hfin.out]; rfl, by rw [hfin.out]; exact Owned.nil _ _, bw⟩
      · have t1 : decide (s < 0) = false := by simpa using h1
        have t2 : decide ((m : Int) ≤ s) = true := decide_eq_true h2
        go_enter Try.func74, Try.ntmps74
        go_wp2_with fail
        refine (rvalid _ _ _ _ _ _ _ _ _ _ _ (hx.below hb0) (ho.below hb0)).mono ?_
        rintro e w1 ⟨rfl, b1⟩
        rw [HZ.out] at b1
        rw [HV.out]
        obtain ⟨k0, k1, k2, k3⟩ := box4 b1
        have bw := hb0.trans (b1.mono (Nat.le_succ _))
        go_wp2
        go_ret3
        exact ⟨none, 0, by rw [hfin.out]; rfl, by rw [hfin.out]; exact Owned.nil _ _, bw⟩
  · have hfin := Lib.hid (frm_bad (s := s) (xs := xs) hv)
    have hne : (vld i st nx ot != 0) = true := by simpa using hv
    go_enter Try.func74, Try.ntmps74
    go_wp2_with fail
    refine (rvalid _ _ _ _ _ _ _ _ _ _ _ (hx.below hb0) (ho.below hb0)).mono ?_
    rintro e w1 ⟨rfl, b1⟩
    generalize vld i st nx ot = E at hne hfin hv
    clear hv
    go_wp2
    go_ret3
    exact ⟨none, 0, by rw [hfin.out]; rfl, by rw [hfin.out]; exact Owned.nil _ _, bt hb0 b1⟩

set_option maxHeartbeats 1000000 in
set_option maxRecDepth 100000 in
theorem rrunw (i st : Int) (A B D : Option Addr) (n c m d k e : Nat) (nx ot : List (List Int)) (xs : List Int) (w : World) (hx : Lists w A n nx) (ho : Lists w B m ot) (hD : Ints w D k xs) :
    Calls Try.prog 38 #[.agg #[.int .i64 i, .int .i64 st, .slice A n c, .slice B m d], .slice D k e] w fun e w' => ∃ A' c',
      e = .returned (.tuple #[.slice A' (frm i st nx ot st xs).1.length c', .int .i64 (frm i st nx ot st xs).2.2]) ∧ Owned w' w.heap.size (.slice A' (frm i st nx ot st xs).1.length c') (frm i st nx ot st xs).1 ∧ Below w.heap.size w w' := by
  have hb0 := alloc_below w (.cells #[.int .i64 i, .int .i64 st, .slice A n c, .slice B m d] 58)
  go_enter Try.func38, Try.ntmps38
  go_wp2_with fail
  refine (rfrom _ _ _ _ _ _ _ _ _ _ _ _ _ _ _ _ (hx.below hb0) (ho.below hb0) (hD.below hb0)).mono ?_
  rintro e w1 ⟨A1, c1, rfl, h1, b1⟩
  have h2 := Lib.hid (h1.lower (base' := w.heap.size) hb0.size)
  have b2 := Lib.hid (bt hb0 b1)
  clear h1 b1
  go_wp2
  go_ret2
  exact ⟨A1, c1, rfl, h2.out, b2.out⟩

end Go.Proofs.Ythjnghldedfdoaa
end
