/- Lemmas of the proofs of this seat, of the parts Openb, Openw, Tab, Wlawa. Conditions: none. -/
import Derived.Test.YtakhphhpjcpphaaDoorMa
import Derived.Deep.Matrix
import Derived.Lib.SmallJoins
import Derived.ProofKit
import Derived.SizedLaws
import Derived.Test.YtakhphhpjcpphaaDoorMd
import Derived.Test.YtakhphhpjcpphaaDoorLaid
import Derived.Lib.LaidTab
import Derived.Lib.AppendIntMem
import Derived.Test.YtakhphhpjcpphaaDoorMf
import Derived.Test.YtakhphhpjcpphaaDoorMe
section
/- What the rows hand over: slices of numbers, with the form's reach. -/
namespace Go.Proofs.YtakhphhpjcpphaaDoor
open Go.ChangeShapes Go.WideShapes Go.ChangeAt Go.RowKit Go.Joins Go.Deep

theorem bsz {w w' : World} {o : Obj} (h : Below (w.heap.size + 1) (w.alloc o) w') : w.heap.size + 1 ≤ w'.heap.size := by have := h.size; simpa using this

section
variable {H : Type} {enc : TypeId × Value → H}

/-- A change's contract with the reach at hand. -/
theorem handed_sized {C : Checked} {os : Os} {f : FuncId} {fn : Func} {s : ChangeSpec} {conds : List PathCond} {apart fresh handsOn again : Bool}
    (own : ownKnob C.prog.godebug = none) (started : os.Started) (noInit : C.prog.inits.idxOf? f = none) (hfn : C.prog.funcs[f]? = some fn)
    (witness : ∃ (w : World) (tape : Tape) (i : Input), w.os = os ∧ (w.forCall tape i).Shaped C.prog ∧ i.vars = [] ∧ Input.okWide C.prog (w.forCall tape i) .any w.heap.size f i ∧
      s.pre6 enc C.prog fn conds apart (w.forCall tape i).memory i.args ∧ ({} : Assume).holds C.prog (lone (Frame.enter C.prog f i.args .normal) [] (w.forCall tape i)))
    (contract : ∀ (W : World) (base : Nat) (args : Array Value) (ds gs : List (DataW H)) (before : List MemPlace),
      (∀ (j : Nat) t v, fn.params[j]? = some t → args[j]? = some v → Value.okWide C.prog W .any base t v) →
      DataW.Whole enc C.prog fn.params.toList s.vars apart W args.toList ds gs before →
      (DataW.weightsEach C.prog (fn.params.toList ++ s.plain.varTypes C.prog) (ds ++ gs)).all (· ≤ reachBytes) = true →
      Calls C.prog f args W fun e W' => ∃ v, e = .returned v ∧ s.post enc C.prog fn apart fresh handsOn again W args v W') :
    ReturnsInHanded {} C os f .any (s.pre6 enc C.prog fn conds apart) (s.post enc C.prog fn apart fresh handsOn again) := by
  have e : s.pre6 enc C.prog fn conds apart = fun w args => (s.pre enc C.prog fn conds apart w args ∧ True) ∧ sizedMet enc C.prog fn (OpenSpec.ofChange s) apart w args := by
    funext w args
    unfold ChangeSpec.pre6
    rw [and_true]
  rw [e] at witness ⊢
  exact returnsInHanded_of_change_and (X := fun _ _ => True) (fun _ _ _ _ _ => trivial) own started noInit hfn witness (fun W base args ds gs before h1 h2 _ h4 _ _ => contract W base args ds gs before h1 h2 h4)

/-- What a datum weighs is within the reach. -/
def Light (P : Program) (t : TypeId) (d : DataW H) : Prop := ∀ n ∈ d.weights P t, n ≤ reachBytes
theorem light_of {P : Program} {ts : List TypeId} {ds : List (DataW H)} (h : (DataW.weightsEach P ts ds).all (· ≤ reachBytes) = true) {j : Nat} {t : TypeId} {d : DataW H} (ht : ts[j]? = some t) (hd : ds[j]? = some d) : Light P t d := fun n hn => by
  have := List.all_eq_true.1 h _ (DataW.weights_mem_each ht hd n hn)
  simpa using this

theorem add_none {b off k : Nat} : (⟨b, off, none⟩ : Addr).add k = ⟨b, off + k, none⟩ := by unfold Addr.add; split <;> simp_all
theorem reach_num : reachBytes = 140737488351232 := rfl

variable {w : World} {base : Nat} {held : Bool} {fuel : Nat} {cs : List Value} {x : DataW H × List MemPlace}

/-- A slice of ints that came in. -/
theorem open_intsw (hb3 : Tryd.prog.bytesOf 3 = 8) (h : DataW.trod enc Tryd.prog w base (fun _ => true) held fuel 38 cs = some x) (hl : Light Tryd.prog 38 x.1) :
    ∃ A n c zs, cs = [.slice A n c] ∧ n ≤ c ∧ Ints w A n zs ∧ (∀ z, z ∈ zs → (Lit.int .i64 z).wf = true) := by
  rcases open_ints Tryd.underlying38 Tryd.underlying3 (by kernel_rfl) h with ⟨hcs, hx⟩ | ⟨a, l, c, zs, hcs, _, hlc, hm, hz, hx, hcell, hwz⟩
  · exact ⟨none, 0, 0, [], hcs, Nat.le_refl _, ⟨rfl, by omega, fun h => absurd h (by omega)⟩, by simp⟩
  · simp only [if_true] at hz
    subst hx
    have := hl (((lits (H := H) .i64 (zs.take l)).length + (lits (H := H) .i64 (zs.drop l)).length) * 8) (by simp [DataW.weights, Tryd.underlying38, hb3])
    rw [reach_num] at this
    simp only [lits, List.length_map, List.length_take, List.length_drop] at this
    have hb : l ≤ 17592186044416 := by omega
    exact ⟨some a, l, c, zs.take l, hcs, hlc, Ints.of_in (cap := c) hb (.inr ⟨a, rfl, hlc, hm, hz, hcell, hwz⟩), fun z hz => hwz z (List.mem_of_mem_take hz)⟩

theorem weightsAll_mem {P : Program} {e : TypeId} : ∀ {l : List (DataW H)} {d : DataW H} {n : Nat}, d ∈ l → n ∈ d.weights P e → n ∈ DataW.weightsAll P e l
  | [], _, _, h, _ => absurd h (by simp)
  | d0 :: l, d, n, h, hn => by
    rw [DataW.weightsAll, List.mem_append]
    rcases List.mem_cons.1 h with e | h
    · subst e; exact .inl hn
    · exact .inr (weightsAll_mem h hn)
end
end Go.Proofs.YtakhphhpjcpphaaDoor
end

section
/- What the rows hand over: slices of lists, with capacities and ranges. -/
namespace Go.Proofs.YtakhphhpjcpphaaDoor
open Go.ChangeShapes Go.WideShapes Go.ChangeAt Go.RowKit Go.Joins Go.Deep

section
variable {H : Type} {enc : TypeId × Value → H} {w : World} {base : Nat} {held : Bool} {fuel : Nat} {cs : List Value} {x : DataW H × List MemPlace}

/-- A slice of slices of ints that came in, none longer than its capacity, with their ranges. -/
theorem open_listsC (hb3 : Tryd.prog.bytesOf 3 = 8) (hb4 : Tryd.prog.bytesOf 38 = 24) (h : DataW.trod enc Tryd.prog w base (fun _ => true) held fuel 25 cs = some x) (hl : Light Tryd.prog 25 x.1) :
    ∃ A n c xss, cs = [.slice A n c] ∧ n ≤ c ∧ ListsC w A n xss ∧ ∀ l, l ∈ xss → In64 l := by
  rcases open_int_rows Tryd.underlying25 Tryd.underlying38 Tryd.underlying3 (by kernel_rfl) (by kernel_rfl) h with ⟨hcs, hx⟩ | ⟨a, l, c, A, L, C, Z, hcs, _, hlc, hm, hx, hcell⟩
  · exact ⟨none, 0, 0, [], hcs, Nat.le_refl _, ⟨rfl, by omega, fun h => absurd h (by omega)⟩, by simp⟩
  · subst hx
    refine ⟨some a, l, c, (List.range l).map fun r => (Z r).take (L r), hcs, hlc, ⟨by simp, ?_, fun h0 => ?_⟩, ?_⟩
    · have := hl ((((List.range l).map fun r => intRow (H := H) .i64 (A r) (L r) (Z r)).length + ((List.range (c - l)).map fun j => intRow (H := H) .i64 (A (l + j)) (L (l + j)) (Z (l + j))).length) * 24) (by simp [DataW.weights, Tryd.underlying25, hb4])
      rw [reach_num] at this
      simp only [List.length_map, List.length_range] at this
      omega
    · obtain ⟨b, off, spot⟩ := a
      have hc0 := (hcell 0 (by omega)).1
      have hspot : spot = none := by simpa [Addr.add] using World.cell?_spot hc0
      subst hspot
      refine ⟨b, off, rfl, by have := block_lt hc0; simpa [Addr.add] using this, fun j hj => ?_⟩
      obtain ⟨h1, h2, h3, h4, h5, h6, h7⟩ := hcell j (by omega)
      have e : ((List.range l).map fun r => (Z r).take (L r)).getD j [] = (Z j).take (L j) := by simp [List.getD, hj]
      rw [add_none] at h1
      refine ⟨A j, L j, C j, h1, h2, ?_⟩
      rw [e]
      cases hA : A j with
      | none =>
        have hC := h6 hA
        exact Ints.of_in (cap := C j) (by omega) (.inl ⟨rfl, by omega, hC, List.eq_nil_of_length_eq_zero (by omega)⟩)
      | some y =>
        have hw : Light Tryd.prog 38 (intRow (H := H) .i64 (A j) (L j) (Z j)) := fun n hn => hl n (by
          simp only [DataW.weights, Tryd.underlying25]
          exact List.mem_cons_of_mem _ (List.mem_append_left _ (weightsAll_mem (List.mem_map.2 ⟨j, List.mem_range.2 hj, rfl⟩) hn)))
        rw [hA] at hw
        have := hw (((lits (H := H) .i64 ((Z j).take (L j))).length + (lits (H := H) .i64 ((Z j).drop (L j))).length) * 8) (by simp [intRow, DataW.weights, Tryd.underlying38, hb3])
        rw [reach_num] at this
        simp only [lits, List.length_map, List.length_take, List.length_drop] at this
        exact Ints.of_in (cap := C j) (by omega) (.inr ⟨y, rfl, h2, h3, h4, fun i hi => (h7 y hA).2 i (by omega), h5⟩)
    · intro xs hxs z hz
      obtain ⟨r, hr, rfl⟩ := List.mem_map.1 hxs
      obtain ⟨h1, h2, h3, h4, h5, h6, h7⟩ := hcell r (by have := List.mem_range.1 hr; omega)
      exact i64_in (h5 z (List.mem_of_mem_take hz))
end
end Go.Proofs.YtakhphhpjcpphaaDoor
end

section
/- The table of powers of ten, off the listed variables. -/
namespace Go.Proofs.YtakhphhpjcpphaaDoor
open Go.Lib

theorem laidMetH_plain {w : World} (h : laidMetH Tryd.prog laidList w) : laidMet Tryd.prog laidList w := h
theorem tab_of_laid {w : World} (h : laidMetH Tryd.prog laidList w) : TabBelow Tryd.prog w.heap.size w "internal/strconv.uint64pow10" .u64 pow10Tab := by
  refine tabBelow_of_tabIs ?_
  obtain ⟨ps, h1, h2, h3⟩ := laidMetH_plain h
  obtain ⟨_, _, _, _, _, q1, _, _, _, _, h4, e1⟩ := h1
  obtain ⟨_, _, _, _, _, q2, _, _, _, _, h5, e2⟩ := h4
  have hm : laidMet Tryd.prog [("internal/strconv.uint64pow10", tabData .u64 pow10Tab)] w := by
    refine ⟨q2, ?_, ?_, ?_⟩
    · exact h5
    · rw [e1, e2] at h2
      exact (List.nodup_append.1 (List.nodup_append.1 h2).2.1).2.1
    · intro b off hb
      exact h3 b off (by rw [e1, e2]; exact List.mem_append_right _ (List.mem_append_right _ hb))
  exact tabIs_of_head (g := 0) (t := 116) (e := 87) (n := 20) (by kernel_rfl) (by kernel_rfl) Tryd.underlying116 Tryd.underlying87 (by kernel_rfl) (by kernel_rfl) hm
end Go.Proofs.YtakhphhpjcpphaaDoor
end

section
/- The laws' walks: Uptos, Products. -/
namespace Go.Proofs.YtakhphhpjcpphaaDoor
open Go.RowKit Go.Shelf

/-- The table of powers of ten, at w and later. -/
abbrev Tab (w : World) : Prop := Lib.TabBelow Tryd.prog w.heap.size w "internal/strconv.uint64pow10" .u64 Lib.pow10Tab
theorem upto_words {k n : Int} : ∀ (f : Nat) (acc : List (List Int)) (s : List Int × Bool), (∀ x, x ∈ acc → (x.length : Int) ≤ n) → (∀ x, x ∈ (upto k n f acc s).1 → (x.length : Int) ≤ n) ∧ (upto k n f acc s).1.length ≤ acc.length + f := by
  intro f
  induction f with
  | zero =>
    intro acc s h
    by_cases hc : s.2 = true ∧ (s.1.length : Int) ≤ n
    · rw [upto_full hc]; exact ⟨fun x hx => absurd hx (by simp), by simp⟩
    · rw [upto_end hc]; exact ⟨h, by simp⟩
  | succ f ih =>
    intro acc s h
    by_cases hc : s.2 = true ∧ (s.1.length : Int) ≤ n
    · rw [upto_on hc]
      have := ih (acc ++ [s.1]) (nextV s.1 k) (fun x hx => by
        rcases List.mem_append.1 hx with hx | hx
        · exact h x hx
        · rw [List.mem_singleton] at hx; subst hx; exact hc.2)
      refine ⟨this.1, ?_⟩
      have h2 := this.2
      rw [List.length_append, List.length_singleton] at h2
      omega
    · rw [upto_end hc]; exact ⟨h, by simp⟩
theorem uptV_words (k n : Int) : (∀ x, x ∈ (uptV k n).1 → x.length ≤ 1024) ∧ (uptV k n).1.length ≤ 10000 := by
  by_cases h : k < 1 ∨ 1024 < k ∨ n < 0 ∨ 1024 < n
  · rw [uptV_bad h]; exact ⟨fun x hx => absurd hx (by simp), by simp⟩
  · rw [uptV_ok h]
    have := upto_words (k := k) (n := n) 10000 [] ([], true) (fun x hx => absurd hx (by simp))
    refine ⟨fun x hx => ?_, by simpa using this.2⟩
    have := this.1 x hx
    omega

set_option maxHeartbeats 2000000 in
theorem uptos_walk (k n : Int) (w : World) (T : Tab w) :
    Calls Tryd.prog 5 #[.int .i64 k, .int .i64 n] w fun e w' => e = .returned (.bool true) ∧ Below w.heap.size w w' := by
  have TT := Lib.hid T
  have UW := Lib.hid (uptV_words k n)
  clear T
  go_enter Tryd.func5, Tryd.ntmps5
  go_wp2_with fail
  refine (pupto k n w).mono ?_
  rintro e w1 ⟨v1, rfl, o1, b1⟩
  have B1 := Lib.hid b1
  obtain ⟨A1, c1, e1⟩ := o1.form
  subst e1
  have l1 := o1.lists (by have := UW.out.2; omega) (fun x hx => by have := UW.out.1 x hx; omega)
  obtain ⟨xs, hxs⟩ : ∃ xs, xs = (uptV k n).1 := ⟨_, rfl⟩
  obtain ⟨r, hr⟩ : ∃ r, r = (uptV k n).2 := ⟨_, rfl⟩
  obtain ⟨z, hz⟩ : ∃ z, z = (uptV k n).1.length := ⟨_, rfl⟩
  rw [← hr, ← hz]
  rw [← hz, ← hxs] at l1
  have L1 := Lib.hid l1
  have HR := Lib.hid hr
  have HX := Lib.hid hxs
  have HZ := Lib.hid hz
  clear o1 b1 l1 hxs hr hz
  go_wp2_with fail
  refine (rupto k n w1).mono ?_
  rintro e w2 ⟨v2, rfl, o2, b2⟩
  obtain ⟨A2, c2, e2⟩ := o2.form
  subst e2
  have l2 := o2.ownV.lists (by have := UW.out.2; omega) (fun x hx => by have := UW.out.1 x hx; omega)
  rw [← HR.out, ← HZ.out]
  rw [← HZ.out, ← HX.out] at l2
  have L2 := Lib.hid l2
  have L1b := Lib.hid (L1.out.below b2)
  have B2 := Lib.hid (bt B1.out b2)
  clear o2 b2 l2
  go_wp2_with fail
  refine (rsameWords _ _ _ _ _ _ xs xs true _ L1b.out.lists L2.out.lists (by simp)).mono ?_
  rintro e w3 ⟨rfl, b3⟩
  have B3 := Lib.hid (bt B2.out (rd_below b3))
  clear b3
  go_wp2_with fail
  refine (awake w3 (tab_at TT.out B3.out)).mono ?_
  rintro e w4 ⟨rfl, b4⟩
  have B4 := Lib.hid (bt B3.out b4)
  clear b4
  go_wp2
  go_ret
  exact ⟨rfl, B4.out⟩

theorem prodW_words {a b : List (List Int)} {L M : Nat} (h1 : ∀ x, x ∈ a → x.length ≤ L) (h2 : ∀ x, x ∈ b → x.length ≤ M) : (∀ x, x ∈ prodW a b → x.length ≤ L + M) ∧ (prodW a b).length ≤ 10000 := by
  unfold prodW
  split
  · exact ⟨fun x hx => absurd hx (by simp), by simp⟩
  · split
    · exact ⟨fun x hx => absurd hx (by simp), by simp⟩
    · split
      · exact ⟨fun x hx => absurd hx (by simp), by simp⟩
      · rename_i h
        refine ⟨fun x hx => ?_, by omega⟩
        rw [sw_mem, prdS_mem] at hx
        obtain ⟨u, v, hu, hv, rfl⟩ := hx
        have a := h1 u hu
        have b := h2 v hv
        rw [List.length_append]; omega

set_option maxHeartbeats 2000000 in
theorem products_walk (A B : Option Addr) (n c m d : Nat) (a b : List (List Int)) (w : World) (ha : ListsC w A n a) (hb : ListsC w B m b) (ha6 : ∀ x, x ∈ a → In64 x) (hb6 : ∀ x, x ∈ b → In64 x) (T : Tab w) :
    Calls Tryd.prog 4 #[.slice A n c, .slice B m d] w fun e w' => e = .returned (.bool true) ∧ Below w.heap.size w w' := by
  have TT := Lib.hid T
  have HA := Lib.hid ha
  have HB := Lib.hid hb
  have H6 := Lib.hid (And.intro ha6 hb6)
  clear T ha hb ha6 hb6
  by_cases hsa : Small a 200 1100
  · have G1 := Lib.hid (rgreatw w A n c 200 1100 a false HA.out.lists (by rw [decide_eq_true hsa]; rfl) (by omega))
    by_cases hsb : Small b 200 1100
    · have G2 := Lib.hid (rgreatw w B m d 200 1100 b false HB.out.lists (by rw [decide_eq_true hsb]; rfl) (by omega))
      have n1 : n ≤ 200 := by rw [← HA.out.1]; exact hsa.1
      have m1 : m ≤ 200 := by rw [← HB.out.1]; exact hsb.1
      have PW := Lib.hid (prodW_words hsa.2 hsb.2)
      clear hsa hsb
      go_enter Tryd.func4, Tryd.ntmps4
      go_wp2_with fail
      refine G1.out.mono ?_
      rintro e w' ⟨rfl, rfl⟩
      go_wp2_with fail
      refine G2.out.mono ?_
      rintro e w' ⟨rfl, rfl⟩
      go_wp2_with fail
      refine (pproduct w A B n c m d a b HA.out HB.out H6.out.1 H6.out.2 (by omega) (by omega) TT.out).mono ?_
      rintro e w1 ⟨v1, rfl, o1, b1⟩
      have B1 := Lib.hid b1
      obtain ⟨A1, c1, e1⟩ := o1.form
      subst e1
      have l1 := o1.lists (by have := PW.out.2; omega) (fun x hx => by have := PW.out.1 x hx; omega)
      obtain ⟨xs, hxs⟩ : ∃ xs, xs = prodW a b := ⟨_, rfl⟩
      obtain ⟨r, hr⟩ : ∃ r, r = prodE a b := ⟨_, rfl⟩
      obtain ⟨z, hz⟩ : ∃ z, z = (prodW a b).length := ⟨_, rfl⟩
      rw [← hr, ← hz]
      rw [← hz, ← hxs] at l1
      have L1 := Lib.hid l1
      have HR := Lib.hid hr
      have HX := Lib.hid hxs
      have HZ := Lib.hid hz
      have HA1 := Lib.hid (HA.out.below b1)
      have HB1 := Lib.hid (HB.out.below b1)
      clear o1 b1 l1 hxs hr hz
      go_wp2_with fail
      refine (rproduct w1 A B n c m d a b HA1.out HB1.out (by omega) (by omega)).mono ?_
      rintro e w2 ⟨v2, rfl, o2, b2⟩
      obtain ⟨A2, c2, e2⟩ := o2.form
      subst e2
      have l2 := o2.lists (by have := PW.out.2; omega) (fun x hx => by have := PW.out.1 x hx; omega)
      rw [← HR.out, ← HZ.out]
      rw [← HZ.out, ← HX.out] at l2
      have L2 := Lib.hid l2
      have L1b := Lib.hid (L1.out.below b2)
      have B2 := Lib.hid (bt B1.out b2)
      clear o2 b2 l2
      go_wp2_with fail
      refine (rsameWords _ _ _ _ _ _ xs xs true _ L1b.out.lists L2.out.lists (by simp)).mono ?_
      rintro e w3 ⟨rfl, b3⟩
      have B3 := Lib.hid (bt B2.out (rd_below b3))
      clear b3
      go_wp2_with fail
      refine (awake w3 (tab_at TT.out B3.out)).mono ?_
      rintro e w4 ⟨rfl, b4⟩
      have B4 := Lib.hid (bt B3.out b4)
      clear b4
      go_wp2
      go_ret
      exact ⟨rfl, B4.out⟩
    · have G2 := Lib.hid (rgreatw w B m d 200 1100 b true HB.out.lists (by rw [decide_eq_false hsb]; rfl) (by omega))
      clear hsa hsb
      go_enter Tryd.func4, Tryd.ntmps4
      go_wp2_with fail
      refine G1.out.mono ?_
      rintro e w' ⟨rfl, rfl⟩
      go_wp2_with fail
      refine G2.out.mono ?_
      rintro e w' ⟨rfl, rfl⟩
      go_wp2_with fail
      refine (awake w TT.out).mono ?_
      rintro e w4 ⟨rfl, b4⟩
      go_wp2
      go_ret
      exact ⟨rfl, b4⟩
  · have G1 := Lib.hid (rgreatw w A n c 200 1100 a true HA.out.lists (by rw [decide_eq_false hsa]; rfl) (by omega))
    clear hsa
    go_enter Tryd.func4, Tryd.ntmps4
    go_wp2_with fail
    refine G1.out.mono ?_
    rintro e w' ⟨rfl, rfl⟩
    go_wp2_with fail
    refine (awake w TT.out).mono ?_
    rintro e w4 ⟨rfl, b4⟩
    go_wp2
    go_ret
    exact ⟨rfl, b4⟩

theorem uptos_in (k n : Int) (w : World) (_ : (Lit.int .i64 k).wf = true) (_ : (Lit.int .i64 n).wf = true) (T : Tab w) :
    Calls Tryd.prog 5 #[.int .i64 k, .int .i64 n] w fun e w' => e = .returned (.bool true) ∧ Below w.heap.size w w' := uptos_walk k n w T
theorem products_in (A : Option Addr) (n c : Nat) (a : List (List Int)) (B : Option Addr) (m d : Nat) (b : List (List Int)) (w : World) (_ : n ≤ c) (ha : ListsC w A n a) (ha6 : ∀ x, x ∈ a → In64 x) (_ : m ≤ d) (hb : ListsC w B m b) (hb6 : ∀ x, x ∈ b → In64 x) (T : Tab w) :
    Calls Tryd.prog 4 #[.slice A n c, .slice B m d] w fun e w' => e = .returned (.bool true) ∧ Below w.heap.size w w' := products_walk A B n c m d a b w ha hb ha6 hb6 T
end Go.Proofs.YtakhphhpjcpphaaDoor
end
