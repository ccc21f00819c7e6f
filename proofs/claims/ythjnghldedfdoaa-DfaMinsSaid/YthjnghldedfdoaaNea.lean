/- Lemmas of the proofs of this seat, of the parts Rgne, Rcb7, Rcw7, Rdi7. Conditions: none. -/
import Derived.Test.YthjnghldedfdoaaNaa
import Derived.Deep.RegionHeld3
import Derived.StillTail
import Derived.Test.YthjnghldedfdoaaNca
import Derived.Test.YthjnghldedfdoaaNag
import Derived.Test.YthjnghldedfdoaaNda
section
/- A region that draws its order and whose last operation, which waits for all others, may write what its loads read: what S names is wanted ahead of it only. -/
namespace Go.Proofs.Ythjnghldedfdoaa

section
variable {P : Program} {ops : Array Oper} {Q : Exit → Act → World → Prop} {md : Region.Mode} {S : World → Prop} {k : Nat}
/-- S holds behind every operation but k. -/
def wpAnyE (P : Program) (md : Region.Mode) (ops : Array Oper) (Q : Exit → Act → World → Prop) (S : World → Prop) (k : Nat) : Nat → Array Bool → Act → World → Prop
  | 0, listed, a, w => Region.ready md ops listed = [] ∧ Q .normal a w
  | fuel + 1, listed, a, w =>
    (Region.ready md ops listed = [] → Q .normal a w) ∧
    ∀ i ∈ Region.ready md ops listed, wpOp P ops Q i (fun a' w' => (i ≠ k → S w') ∧ wpAnyE P md ops Q S k fuel (listed.setIfInBounds i true) a' w') a w
theorem wpAny_of_heldE : ∀ (fuel : Nat) (listed : Array Bool) (a : Act) (w : World), wpAnyE P md ops Q S k fuel listed a w → wpAny P md ops Q fuel listed a w
  | 0, _, _, _, h => h
  | fuel + 1, _, _, _, h => ⟨h.1, fun i hi => wpOp_mono (fun a' w' h' => wpAny_of_heldE fuel _ a' w' h'.2) (h.2 i hi)⟩
theorem wpAnyE_first {i : Nat} {oi : Oper} {v : Value} (hi : ops[i]? = some oi) (hk : Region.waitsFor md ops k i = true) (hik : i ≠ k) (hsel : ∀ (j : Nat) (o : Oper) cs b, ops[j]? = some o → o.op ≠ .select cs b)
    (hQ : ∀ c a w, Q (.panic c) (a.put oi.dst v) w → Q (.panic c) a w) :
    ∀ (fuel : Nat) (listed : Array Bool) (a : Act) (w : World),
      (∀ j oj, ops[j]? = some oj → j ≠ i → listed.getD j true = false → (∀ e ∈ oj.after, Region.binds md e = true → e.on ≠ i) → oi.apart ops oj = true) →
      i ∈ Region.ready md ops listed → YieldsIf P ops S oi v a → S w →
      wpAnyE P md ops Q S k fuel (listed.setIfInBounds i true) (a.put oi.dst v) w → wpAnyE P md ops Q S k (fuel + 1) listed a w := by
  intro fuel
  induction fuel with
  | zero =>
    intro listed a w _ hr hy hS H
    refine ⟨fun h => (by rw [h] at hr; cases hr), fun j hj => ?_⟩
    by_cases hji : j = i
    · subst hji; exact hy.wpOp hi hS ⟨fun _ => hS, H⟩
    · have := ready_mono hj hji
      rw [H.1] at this
      cases this
  | succ fuel ih =>
    intro listed a w hfree hr hy hS H
    refine ⟨fun h => (by rw [h] at hr; cases hr), fun j hj => ?_⟩
    by_cases hji : j = i
    · subst hji; exact hy.wpOp hi hS ⟨fun _ => hS, H⟩
    · have h1 := H.2 j (ready_mono hj hji)
      obtain ⟨hjun, oj, hoj, hall⟩ := mem_ready.1 hj
      have hnot : ∀ e ∈ oj.after, Region.binds md e = true → e.on ≠ i := fun e he hb heq => by
        have h1 := hall e he hb
        have h0 := (mem_ready.1 hr).1
        rw [heq] at h1
        rcases Nat.lt_or_ge i listed.size with h' | h'
        · simp [h'] at h0 h1; rw [h0] at h1; cases h1
        · simp [Array.getElem?_eq_none h'] at h1
      have hjk : j ≠ k := fun e => by
        subst e
        obtain ⟨o', ho', e, he, hb, hon⟩ := Region.waitsFor_spec hk
        have : o' = oj := Option.some.inj (ho'.symm.trans hoj)
        subst this
        exact hnot e he hb hon
      have h2 := wpOp_putIf hoj (hfree j oj hoj hji hjun hnot) (fun cs b => hsel i oi cs b hi) (fun cs b => hsel j oj cs b hoj) hQ hy h1
      have hfree' : ∀ l ok, ops[l]? = some ok → l ≠ i → (listed.setIfInBounds j true).getD l true = false →
          (∀ e ∈ ok.after, Region.binds md e = true → e.on ≠ i) → oi.apart ops ok = true := fun l ok hl hli hun hno => by
        refine hfree l ok hl hli ?_ hno
        by_cases hjl : j = l
        · subst hjl; exact hjun
        · rw [getD_set_ne true hjl] at hun; exact hun
      refine wpOp_mono (fun a' w' h3 => ⟨h3.2.1, ih (listed.setIfInBounds j true) a' w' hfree' (ready_mono hr (Ne.symm hji)) h3.1 (h3.2.1 hjk) ?_⟩) h2
      rw [Array.setIfInBounds_comm _ _ hji]
      exact h3.2.2
/-- Take number i first. -/
theorem wpAnyE_take {i : Nat} {oi : Oper} {v : Value} {fuel : Nat} {listed : Array Bool} {a : Act} {w : World} (hi : ops[i]? = some oi) (hk : (i != k && Region.waitsFor md ops k i) = true)
    (hs : Region.noSelect ops = true) (hf : Region.free md ops listed i = true) (hr : (Region.ready md ops listed).contains i = true)
    (hQ : ∀ c a w, Q (.panic c) (a.put oi.dst v) w → Q (.panic c) a w) (hy : YieldsIf P ops S oi v a) (hS : S w)
    (h : wpAnyE P md ops Q S k fuel (listed.setIfInBounds i true) (a.put oi.dst v) w) : wpAnyE P md ops Q S k (fuel + 1) listed a w := by
  rw [Bool.and_eq_true, bne_iff_ne] at hk
  exact wpAnyE_first hi hk.2 hk.1 (Region.noSelect_spec hs) hQ fuel listed a w (Region.free_spec hi hf) (by simpa using hr) hy hS h
/-- The only one that may come up. -/
theorem wpAnyE_one {i : Nat} {o : Oper} {fuel : Nat} {listed : Array Bool} {a : Act} {w : World} (ho : ops[i]? = some o) (hr : Region.ready md ops listed = [i])
    (h : ∀ K' : Act → World → Prop, Shut (∀ a w, (i ≠ k → S w) → wpAnyE P md ops Q S k fuel (listed.setIfInBounds i true) a w → K' a w) → if Region.wanted o (yielded ops a.tmps) = true then Oper.wp P o a w K' Q else K' (a.put o.dst undef) w) : wpAnyE P md ops Q S k (fuel + 1) listed a w := by
  refine ⟨fun h0 => ?_, fun j hj => ?_⟩
  · rw [hr] at h0; cases h0
  · rw [hr] at hj
    obtain rfl := List.mem_singleton.1 hj
    exact wpOp_step ho (fun K' hK => h K' (fun a w hS hW => hK a w ⟨hS, hW⟩))
theorem wpAnyE_done {listed : Array Bool} {a : Act} {w : World} (hr : Region.ready md ops listed = []) (h : Q .normal a w) : ∀ fuel, wpAnyE P md ops Q S k fuel listed a w
  | 0 => ⟨hr, h⟩
  | _ + 1 => ⟨fun _ => h, by rw [hr]; simp⟩
theorem wp_region_heldE {id : Nat} {a : Act} {w : World} (hm : P.follows .mixedOrders = true)
    (h : wpAnyE P .any ops Q S k ops.size (Array.replicate ops.size false) a w.drew) : (Code.region id ops true).wp P Q a w :=
  wp_region_any hm (wpAny_of_heldE _ _ _ _ h)
end
end Go.Proofs.Ythjnghldedfdoaa
end

section
/- The reference's Combine. -/
namespace Go.Proofs.Ythjnghldedfdoaa
open Go.RowKit

/-- A truth value more. -/
theorem Dres.push_bool2 {w : World} {base g i s : Nat} {N : List (List Int)} {A : List Bool} {AN AA : Option Addr} {cN cA : Nat} (h : Dres w base g i s N A AN AA cN cA) (x : Bool) (hbase : base ≤ w.heap.size) (hg : base ≤ g) (hl : A.length < 1099511627776) :
    ∃ A' c' w1, (Builtin.append_ #[23, 23] 23 #[.slice AA A.length cA, .slice (some ⟨w.heap.size, 0, none⟩) 1 1]).run Try.prog (w.alloc (.cells #[.bool x] 4)) = .ok (.slice A' (A.length + 1) c') w1 ∧ Below base w w1 ∧
      Dblk w1 g (.int .i64 i) (.int .i64 s) (.slice AN N.length cN) (.slice AA A.length cA) ∧ Dres (w1.setCell ⟨g, 3, none⟩ (.slice A' (A.length + 1) c')) base g i s N (A ++ [x]) AN A' cN c' ∧ Below base w (w1.setCell ⟨g, 3, none⟩ (.slice A' (A.length + 1) c')) ∧
      (∀ t, t ≠ 4 → t ≠ 25 → KeptT t w (w1.setCell ⟨g, 3, none⟩ (.slice A' (A.length + 1) c'))) ∧ KeptM w (w1.setCell ⟨g, 3, none⟩ (.slice A' (A.length + 1) c')) := by
  obtain ⟨h1, h2, h3⟩ := h
  obtain ⟨ti, hi, hz0, hz1, hz2⟩ := info_parts infoB
  have hll : (A.map cellsB).length = A.length := List.length_map _
  have h3' : Rws w base 4 1 (.slice AA A.length cA) (A.map cellsB) := h3
  obtain ⟨A', c', w1, r, o, b, k, km, _⟩ := run_append_rwsM Try.underlying23 hi hz0 hz1 hz2 rfl (by decide) (by decide) h3' (cellsB x) rfl (fun u hu => by simp [cellsB] at hu; subst hu; rfl) hbase (by rw [hll]; exact hl)
  rw [hll] at r o
  have hD1 : Dblk w1 g _ _ _ _ := h1.keptT (k _ (by decide))
  refine ⟨A', c', w1, r, b, hD1, ⟨by rw [List.length_append]; exact hD1.set3 _, (h2.keptT (k _ (by decide)) (k _ (by decide))).keptT (KeptT.off hD1 (by decide) _) (KeptT.off hD1 (by decide) _), ?_⟩, b.setCell (p := ⟨g, 3, none⟩) hg _, fun t n1 n2 => (k t n1).trans (KeptT.off hD1 n2 _), KeptM.trans km (KeptM.off hD1 _)⟩
  rw [List.length_append, List.map_append]
  exact o.keptT (KeptT.off hD1 (by decide) _)
theorem rcb_boxes (w : World) (i st i' st' : Int) (A B A' B' : Option Addr) (n c m d n' c' m' d' : Nat) : ∃ w1, w1 = ((w.alloc (.cells #[.int .i64 i, .int .i64 st, .slice A n c, .slice B m d] 25)).alloc (.cells #[.int .i64 i', .int .i64 st', .slice A' n' c', .slice B' m' d'] 25)).alloc (.cells #[.int .i64 0, .int .i64 0, .slice none 0 0, .slice none 0 0] 25) ∧
    Below w.heap.size w w1 ∧ Dblk w1 w.heap.size (.int .i64 i) (.int .i64 st) (.slice A n c) (.slice B m d) ∧ Dblk w1 (w.heap.size + 1) (.int .i64 i') (.int .i64 st') (.slice A' n' c') (.slice B' m' d') ∧ Dblk w1 (w.heap.size + 2) (.int .i64 0) (.int .i64 0) (.slice none 0 0) (.slice none 0 0) ∧ w1.heap.size = w.heap.size + 3 := by
  obtain ⟨w0, hw0, hb0, hB, hB'⟩ := two_boxes w i st i' st' A B A' B' n c m d n' c' m' d'
  have hz : w0.heap.size = w.heap.size + 2 := by rw [hw0]; simp
  refine ⟨w0.alloc (.cells #[.int .i64 0, .int .i64 0, .slice none 0 0, .slice none 0 0] 25), by rw [hw0], bt hb0 (alloc_below _ _), hB.on9 (alloc_below _ _), hB'.on9 (alloc_below _ _), ?_, by simp; omega⟩
  have := dfa_box w0 (.int .i64 0) (.int .i64 0) (.slice none 0 0) (.slice none 0 0)
  rw [hz] at this
  exact this
set_option maxHeartbeats 4000000 in
set_option maxRecDepth 100000 in
theorem rcomb7_op (op i st i' st' : Int) (A B A' B' : Option Addr) (n c m d n' c' m' d' : Nat) (w : World) (ho : ¬ (0 ≤ op ∧ op < 4)) :
    Calls Try.prog 23 #[.int .i64 op, .agg #[.int .i64 i, .int .i64 st, .slice A n c, .slice B m d], .agg #[.int .i64 i', .int .i64 st', .slice A' n' c', .slice B' m' d']] w fun e w' => e = .returned (.tuple #[.agg #[.int .i64 0, .int .i64 0, .slice none 0 0, .slice none 0 0], .int .i64 2]) ∧ Below w.heap.size w w' := by
  obtain ⟨w0, hw0, hb0, _, _, hR, _⟩ := rcb_boxes w i st i' st' A B A' B' n c m d n' c' m' d'
  have HW0 := Lib.hid hw0
  have HB0 := Lib.hid hb0
  have HRr := Lib.hid hR
  obtain ⟨q0, q1, q2, q3, z0, z1, z2, z3⟩ := hR.cells
  rw [HW0.out] at q0 q1 q2 q3 z0 z1 z2 z3
  clear hw0 hb0 hR
  by_cases h1 : op < 0
  · have d1 : decide (op < 0) = true := decide_eq_true h1
    clear ho h1
    go_enter Try.func23, Try.ntmps23
    go_wp2_with fail
    (try rw [← HW0.out])
    refine bodyPost_ret (results_dfa rfl _ _ (w.heap.size + 2) (.int .i64 0) (.int .i64 0) (.slice none 0 0) (.slice none 0 0) rfl HRr.out) rfl ?_
    exact ⟨rfl, HB0.out⟩
  · have d1 : decide (op < 0) = false := decide_eq_false h1
    have d2 : decide ((3 : Int) < op) = true := decide_eq_true (by omega)
    clear ho h1
    go_enter Try.func23, Try.ntmps23
    go_wp2_with fail
    (try rw [← HW0.out])
    refine bodyPost_ret (results_dfa rfl _ _ (w.heap.size + 2) (.int .i64 0) (.int .i64 0) (.slice none 0 0) (.slice none 0 0) rfl HRr.out) rfl ?_
    exact ⟨rfl, HB0.out⟩
set_option maxHeartbeats 4000000 in
set_option maxRecDepth 100000 in
theorem rcomb7_bad (op i st i' st' : Int) (A B A' B' : Option Addr) (n c m d n' c' m' d' : Nat) (nx nx' : List (List Int)) (ac ac' : List Bool) (w : World) (ho : 0 ≤ op ∧ op < 4) (hx : Lists w A n nx) (ha : Bools w B m ac) (hx' : Lists w A' n' nx') (ha' : Bools w B' m' ac') (hv : ¬ vld2 i st nx ac i' st' nx' ac' = 0) :
    Calls Try.prog 23 #[.int .i64 op, .agg #[.int .i64 i, .int .i64 st, .slice A n c, .slice B m d], .agg #[.int .i64 i', .int .i64 st', .slice A' n' c', .slice B' m' d']] w fun e w' => e = .returned (.tuple #[.agg #[.int .i64 0, .int .i64 0, .slice none 0 0, .slice none 0 0], .int .i64 (vld2 i st nx ac i' st' nx' ac')]) ∧ Below w.heap.size w w' := by
  obtain ⟨w0, hw0, hb0, hB, hB', hR, hz0⟩ := rcb_boxes w i st i' st' A B A' B' n c m d n' c' m' d'
  obtain ⟨k0, k1, k2, k3, _⟩ := hB.cells
  obtain ⟨j0, j1, j2, j3, _⟩ := hB'.cells
  obtain ⟨x, hx0, hxe⟩ : ∃ x, ¬ x = 0 ∧ vld2 i st nx ac i' st' nx' ac' = x := ⟨_, hv, rfl⟩
  have HXE := Lib.hid hxe
  have t1 : (x != 0) = true := by simpa using hx0
  have d1 : decide (op < 0) = false := decide_eq_false (by omega)
  have d2 : decide ((3 : Int) < op) = false := decide_eq_false (by omega)
  have HW0 := Lib.hid hw0
  have HX := Lib.hid (fun (W : World) (h : Below w0.heap.size w0 W) => And.intro (And.intro ((hx.below hb0).below h) ((ha.below hb0).below h)) (And.intro ((hx'.below hb0).below h) ((ha'.below hb0).below h)))
  have HB0 := Lib.hid hb0
  have HB := Lib.hid (fun (W : World) (h : Below w0.heap.size w0 W) => And.intro (hB.on9 h).cells (hB'.on9 h).cells)
  have HR := Lib.hid hR
  have HZ := Lib.hid hz0
  clear hv hxe hw0 hB hB' hb0 hR hz0
  rw [HW0.out] at k0 k1 k2 k3 j0 j1 j2 j3
  go_enter Try.func23, Try.ntmps23
  go_wp2_with fail
  rw [← HW0.out]
  refine (rtwo7 _ _ _ _ _ _ _ _ _ _ _ _ _ _ _ _ _ _ _ _ _ (HX.out _ (Below.refl _ _)).1.1 (HX.out _ (Below.refl _ _)).1.2 (HX.out _ (Below.refl _ _)).2.1 (HX.out _ (Below.refl _ _)).2.2).mono ?_
  rintro e w1 ⟨rfl, b1⟩
  rw [HXE.out]
  have HB1 := Lib.hid b1
  clear k0 k1 k2 k3 j0 j1 j2 j3
  obtain ⟨⟨k0, k1, k2, k3, _⟩, ⟨j0, j1, j2, j3, _⟩⟩ := HB.out _ b1
  clear b1
  go_wp2_with fail
  refine (rtwo7 _ _ _ _ _ _ _ _ _ _ _ _ _ _ _ _ _ _ _ _ _ (HX.out _ HB1.out).1.1 (HX.out _ HB1.out).1.2 (HX.out _ HB1.out).2.1 (HX.out _ HB1.out).2.2).mono ?_
  rintro e w2 ⟨rfl, b2⟩
  rw [HXE.out]
  have hzz := HZ.out
  have HRr := Lib.hid (HR.out.kept (bt HB1.out b2) (show w.heap.size + 2 < w0.heap.size by omega))
  obtain ⟨q0, q1, q2, q3, z0, z1, z2, z3⟩ := HRr.out.cells
  clear hzz k0 k1 k2 k3 j0 j1 j2 j3
  go_wp2_with fail
  refine bodyPost_ret (results_dfa rfl _ _ (w.heap.size + 2) (.int .i64 0) (.int .i64 0) (.slice none 0 0) (.slice none 0 0) rfl (HRr.out.set4 _ _ _ _)) rfl ?_
  exact ⟨by rw [HXE.out]; rfl, below_set4 (by omega) (bt HB0.out (bt HB1.out b2)) _ _ _ _⟩
end Go.Proofs.Ythjnghldedfdoaa
end

section
/- The reference's Combine: the walk. -/
namespace Go.Proofs.Ythjnghldedfdoaa
open Go.RowKit

set_option linter.unusedSimpArgs false in
set_option maxHeartbeats 8000000 in
set_option maxRecDepth 100000 in
theorem rcomb7 (k i st st' n n' : Nat) (hk : k < 4) (A B A' B' : Option Addr) (c d c' d' : Nat) (nx nx' : List (List Int)) (ac ac' : List Bool) (w : World) (hx : Lists w A n nx) (ha : Bools w B n ac) (hx' : Lists w A' n' nx') (ha' : Bools w B' n' ac') (hM : Dok i st n nx ac) (hM' : Dok i st' n' nx' ac') :
    Calls Try.prog 23 #[.int .i64 k, .agg #[.int .i64 i, .int .i64 st, .slice A n c, .slice B n d], .agg #[.int .i64 i, .int .i64 st', .slice A' n' c', .slice B' n' d']] w fun e w' =>
      AutP w.heap.size i (autN (bothF nx nx') i (cmE i st n st' n' nx nx')) (autA (opA k ac ac') (cmE i st n st' n' nx nx')) (cmE i st n st' n' nx nx').length e w' ∧ Below w.heap.size w w' := by
  obtain ⟨w0, hw0, hb0, hB, hB', hR, hz0⟩ := rcb_boxes w i st i st' A B A' B' n c n d n' c' n' d'
  obtain ⟨k0, k1, k2, k3, _⟩ := hB.cells
  obtain ⟨j0, j1, j2, j3, _⟩ := hB'.cells
  have HV := Lib.hid (show vld2 i st nx ac i st' nx' ac' = 0 by unfold vld2; rw [if_pos hM.vld, if_pos hM'.vld, if_pos rfl])
  have hn := hM.n2
  have hn' := hM'.n2
  have hi := hM.i2
  have hnn : n * n' ≤ 16384 := Nat.mul_le_mul hn hn'
  have d1 : decide ((k : Int) < 0) = false := decide_eq_false (by omega)
  have d2 : decide ((3 : Int) < (k : Int)) = false := decide_eq_false (by omega)
  have d3 : decide (3 < k) = false := decide_eq_false (by omega)
  have HW0 := Lib.hid hw0
  have HX := Lib.hid (fun (W : World) (h : Below w0.heap.size w0 W) => And.intro (And.intro ((hx.below hb0).below h) ((ha.below hb0).below h)) (And.intro ((hx'.below hb0).below h) ((ha'.below hb0).below h)))
  have HB0 := Lib.hid hb0
  have HB := Lib.hid (fun (W : World) (h : Below w0.heap.size w0 W) => And.intro (hB.on9 h).cells (hB'.on9 h).cells)
  have HR := Lib.hid hR
  have HZ := Lib.hid hz0
  have HM := Lib.hid (And.intro hM hM')
  obtain ⟨R, hRe⟩ : ∃ R, R = cmE i st n st' n' nx nx' := ⟨_, rfl⟩
  have HDL := Lib.hid (show R.length ≤ n * n' by rw [hRe]; exact (cm_ens hM hM').len)
  rw [← hRe]
  have HRE := Lib.hid hRe
  clear hw0 hB hB' hb0 hM hM' hRe hR hz0
  rw [HW0.out] at k0 k1 k2 k3 j0 j1 j2 j3
  go_enter Try.func23, Try.ntmps23
  go_wp2_with fail
  rw [← HW0.out]
  refine (rtwo7 _ _ _ _ _ _ _ _ _ _ _ _ _ _ _ _ _ _ _ _ _ (HX.out _ (Below.refl _ _)).1.1 (HX.out _ (Below.refl _ _)).1.2 (HX.out _ (Below.refl _ _)).2.1 (HX.out _ (Below.refl _ _)).2.2).mono ?_
  rintro e w1 ⟨rfl, b1⟩
  rw [HV.out]
  have HB1 := Lib.hid b1
  clear k0 k1 k2 k3 j0 j1 j2 j3
  obtain ⟨⟨k0, k1, k2, k3, _⟩, ⟨j0, j1, j2, j3, _⟩⟩ := HB.out _ b1
  clear b1
  go_wp2_with fail
  refine (rpairs7 i st n st' n' 128 A B A' B' c n d c' n' d' nx nx' ac ac' w1 (HX.out _ HB1.out).1.1 (HX.out _ HB1.out).2.1 HM.out.1 HM.out.2).mono ?_
  rintro e w2 ⟨E, T, A1, c1, A2, c2, hE, hT, hN, rfl, hP, hW, b2⟩
  rw [← HRE.out] at hE
  have HB2 := Lib.hid (bt HB1.out b2)
  by_cases hbig : 128 < E.length
  · have dl : decide ((128 : Int) < (E.length : Int)) = true := decide_eq_true (by omega)
    have dn : decide (128 < E.length) = true := decide_eq_true hbig
    have HBG := Lib.hid (show 128 < R.length by rw [hE, List.length_append]; omega)
    have hzz := HZ.out
    have HRr := Lib.hid (HR.out.kept HB2.out (show w.heap.size + 2 < w0.heap.size by omega))
    obtain ⟨q0, q1, q2, q3, z0, z1, z2, z3⟩ := HRr.out.cells
    clear hE hT hN hP hW b2 hbig hzz k0 k1 k2 k3 j0 j1 j2 j3
    go_wp2_with fail
    refine bodyPost_ret (results_dfa rfl _ _ (w.heap.size + 2) (.int .i64 0) (.int .i64 0) (.slice none 0 0) (.slice none 0 0) rfl (HRr.out.set4 _ _ _ _)) rfl ?_
    exact ⟨AutP.bad HBG.out, below_set4 (by omega) (bt HB0.out HB2.out) _ _ _ _⟩
  · have hTn : T = [] := by
      rcases hT with h | h
      · exact h
      · exact absurd h hbig
    subst hTn
    rw [List.append_nil] at hE
    subst hE
    have HRL := Lib.hid (show R.length ≤ 128 by omega)
    have dl : decide ((128 : Int) < (R.length : Int)) = false := decide_eq_false (by omega)
    have dn : decide (128 < R.length) = false := decide_eq_false hbig
    have HN := Lib.hid hN
    obtain ⟨zb, hzb⟩ : ∃ zb, zb = w2.heap.size := ⟨_, rfl⟩
    have HZB := Lib.hid hzb
    obtain ⟨w3, hw3⟩ : ∃ w3, w3 = w2.alloc (.cells #[.int .i64 i, .int .i64 0, .slice none 0 0, .slice none 0 0] 25) := ⟨_, rfl⟩
    have hb3 : Below zb w2 w3 := by rw [hw3, hzb]; exact alloc_below _ _
    have D3 : Dres w3 zb zb i 0 [] [] none none 0 0 := by rw [hw3, hzb]; exact ⟨dfa_box _ _ _ _ _, OwnedL.nil _ _, Rws.nil _ _ _ _⟩
    have HL := Lib.hid (fun (W : World) (h : Below zb w2 W) => And.intro (hP.kept (by rw [← hzb]; exact h)) (And.intro (HX.out W (bt HB2.out (by rw [← hzb]; exact h))) (HB.out W (bt HB2.out (by rw [← hzb]; exact h)))))
    have HW3 := Lib.hid hw3
    have HP3 := Lib.hid (And.intro D3 hb3)
    obtain ⟨⟨k0, k1, k2, k3, _⟩, _⟩ := HB.out _ HB2.out
    clear hT hN hP hW b2 hbig hw3 D3 hb3 j0 j1 j2 j3
    go_wp2_with fail
    rw [← HW3.out]
    rw [← hzb]
    clear k0 k1 k2 k3 HW3 hzb
    go_loopw [11, 12, 13] (fun v11 _ _ wr => ∃ (j : Nat) (N : List (List Int)) (bs : List Bool) (AN AA : Option Addr) (cN cA : Nat), v11 = .int .i64 j ∧ j ≤ R.length ∧ N = (autN (bothF nx nx') i R).take j ∧ bs = (autA (opA k ac ac') R).take j ∧ Dres wr zb zb i 0 N bs AN AA cN cA ∧ Below zb w2 wr) (fun v11 _ _ _ => R.length - (intOf v11).toNat)
    case atStart => exact ⟨0, [], [], none, none, 0, 0, rfl, Nat.zero_le _, rfl, rfl, HP3.out.1, HP3.out.2⟩
    case round =>
      obtain ⟨j, N, bs, AN, AA, cN, cA, rfl, hjl, hNe, hBe, hD, hbr⟩ := hrel
      have HH := Lib.hid (And.intro hD hbr)
      by_cases hlt : j < R.length
      · have d4 : decide ((j : Int) < (R.length : Int)) = true := decide_eq_true (by omega)
        have d4n : decide (j < R.length) = true := decide_eq_true hlt
        obtain ⟨e, he⟩ : ∃ e, e = R.getD j Ent.zero := ⟨_, rfl⟩
        have hpq := HN.out.lt _ (getDE_mem hlt)
        rw [← he] at hpq
        have HEE := Lib.hid he
        have HJR := Lib.hid hlt
        have HNE := Lib.hid hNe
        have HBE := Lib.hid hBe
        have HNL := Lib.hid (show N.length = j by rw [hNe, List.length_take]; simp [autN]; omega)
        have HBL := Lib.hid (show bs.length = j by rw [hBe, List.length_take]; simp [autA]; omega)
        clear hD hbr he hNe hBe
        go_wp2_with fail
        obtain ⟨wo, hwo⟩ : ∃ wo : World, wo = wr := ⟨_, rfl⟩
        rw [← hwo] at HH ⊢
        clear hwo
        have hzo : zb ≤ wo.heap.size := by have := heap_lt HH.out.1.1; omega
        obtain ⟨g6, c6', e6, _, hg6, _, hc6⟩ := (HL.out _ HH.out.2).1.at_ (by rw [List.length_map]; omega)
        have x6 := hc6 j 0 (by rw [List.length_map]; exact hlt) (by omega)
        have y6 := hc6 j 1 (by rw [List.length_map]; exact hlt) (by omega)
        rw [getD_mapL hlt, ← HEE.out] at x6 y6
        rw [Nat.add_zero] at x6
        replace x6 : wo.cell? ⟨g6, j * 2, none⟩ = some (.int .i64 e.p) := x6
        replace y6 : wo.cell? ⟨g6, j * 2 + 1, none⟩ = some (.int .i64 e.q) := y6
        obtain rfl : A1 = some ⟨g6, 0, none⟩ := by injection e6
        clear e6 hc6
        obtain ⟨⟨⟨hLx, hLa⟩, hLx', hLa'⟩, ⟨k0, k1, k2, k3, _⟩, ⟨j0, j1, j2, j3, _⟩⟩ := (HL.out _ HH.out.2).2
        obtain ⟨gA, oA, A1', nA, cA9, eA, hgA, hdA, hrA⟩ := hLx.at_ hpq.1
        have w1' := (HM.out.1.row e.p hpq.1).1
        obtain rfl : i = nA := by rw [← hrA.1]; exact w1'.symm
        obtain ⟨gB, oB, B1', nB, cB9, eB, hgB, hdB, hrB⟩ := hLx'.at_ hpq.2
        have w2' := (HM.out.2.row e.q hpq.2).1
        obtain rfl : i = nB := by rw [← hrB.1]; exact w2'.symm
        have HS := Lib.hid (fun (W : World) (h : Below wo.heap.size wo W) => show W.cell? ⟨w.heap.size, 2, none⟩ = some (.slice A n c) ∧ W.cell? ⟨w.heap.size + 1, 2, none⟩ = some (.slice A' n' c') ∧ W.cell? ⟨w.heap.size, 0, none⟩ = some (.int .i64 i) ∧
          W.cell? ⟨g6, j * 2, none⟩ = some (.int .i64 e.p) ∧ W.cell? ⟨g6, j * 2 + 1, none⟩ = some (.int .i64 e.q) ∧ W.cell? ⟨gA, oA + e.p, none⟩ = some (.slice A1' i cA9) ∧ W.cell? ⟨gB, oB + e.q, none⟩ = some (.slice B1' i cB9) ∧ Ints W A1' i (nx.getD e.p []) ∧ Ints W B1' i (nx'.getD e.q []) ∧ Below zb w2 W from
          ⟨(h.cell (p := ⟨w.heap.size, 2, none⟩) (World.block_lt_of_cell? wo _ k2)).trans k2, (h.cell (p := ⟨w.heap.size + 1, 2, none⟩) (World.block_lt_of_cell? wo _ j2)).trans j2, (h.cell (p := ⟨w.heap.size, 0, none⟩) (World.block_lt_of_cell? wo _ k0)).trans k0,
           (h.cell (p := ⟨g6, j * 2, none⟩) hg6).trans x6, (h.cell (p := ⟨g6, j * 2 + 1, none⟩) hg6).trans y6, (h.cell (p := ⟨gA, oA + e.p, none⟩) hgA).trans hdA, (h.cell (p := ⟨gB, oB + e.q, none⟩) hgB).trans hdB, hrA.below h, hrB.below h, HH.out.2.trans (h.mono hzo)⟩)
        subst eA eB
        clear hLx hLa hLx' hLa' k0 k1 k2 k3 j0 j1 j2 j3 hdA hdB hrA hrB w1' w2' x6 y6
        go_loopw [12, 13] (fun v12 v13 wq => ∃ (x : Nat) (A12 : Option Addr) (c12 : Nat), x ≤ i ∧ v13 = .int .i64 x ∧ v12 = .slice A12 x c12 ∧ Owned wq wo.heap.size (.slice A12 x c12) (((autN (bothF nx nx') i R).getD j []).take x) ∧ Below wo.heap.size wo wq) (fun _ v13 _ => i - (intOf v13).toNat)
        case atStart => exact ⟨0, none, 0, Nat.zero_le _, rfl, rfl, Owned.nil _ _, Below.refl _ _⟩
        case round =>
          obtain ⟨x, A12, c12, hxl, rfl, rfl, hO2, hbq⟩ := hrel
          have HO2 := Lib.hid hO2
          have HBQ := Lib.hid hbq
          obtain ⟨s1, s2, s3, s4, s5, s6, s7, hrA, hrB, _⟩ := HS.out _ hbq
          have b1 : (0 : Int) ≤ (j : Int) := by omega
          have b2 : (j : Int) < (R.length : Int) := by omega
          have b3 : (0 : Int) ≤ (e.p : Int) := by omega
          have b4 : (e.p : Int) < (n : Int) := by omega
          have b5 : (0 : Int) ≤ (e.q : Int) := by omega
          have b6 : (e.q : Int) < (n' : Int) := by omega
          by_cases hxi : x < i
          · obtain ⟨hA2, iA2, eA2, lA, vA⟩ := hrA.at_ hxi
            subst eA2
            rw [HM.out.1.nN_eq hpq.1 hxi] at vA
            obtain ⟨hB2, iB2, eB2, lB, vB⟩ := hrB.at_ hxi
            subst eB2
            rw [HM.out.2.nN_eq hpq.2 hxi] at vB
            obtain ⟨P1, hP1⟩ : ∃ P1, P1 = nN nx e.p x := ⟨_, rfl⟩
            obtain ⟨Q1, hQ1⟩ : ∃ Q1, Q1 = nN nx' e.q x := ⟨_, rfl⟩
            rw [← hP1] at vA
            rw [← hQ1] at vB
            have HTK := Lib.hid (row_take (F := bothF nx nx') (k := ixP (R.map Ent.pr) (P1, Q1)) HJR.out hxi (by rw [ixP_idx, ← HEE.out, hP1, hQ1]; rfl))
            have HS2 := Lib.hid (fun (W : World) (h : Below wo.heap.size wo W) => show W.cell? ⟨w.heap.size, 2, none⟩ = some (.slice (some ⟨gA, oA, none⟩) n c) ∧ W.cell? ⟨w.heap.size + 1, 2, none⟩ = some (.slice (some ⟨gB, oB, none⟩) n' c') ∧
              W.cell? ⟨g6, j * 2, none⟩ = some (.int .i64 e.p) ∧ W.cell? ⟨g6, j * 2 + 1, none⟩ = some (.int .i64 e.q) ∧ W.cell? ⟨gA, oA + e.p, none⟩ = some (.slice (some ⟨hA2, iA2, none⟩) i cA9) ∧ W.cell? ⟨hA2, iA2 + x, none⟩ = some (.int .i64 P1) ∧
              W.cell? ⟨gB, oB + e.q, none⟩ = some (.slice (some ⟨hB2, iB2, none⟩) i cB9) ∧ W.cell? ⟨hB2, iB2 + x, none⟩ = some (.int .i64 Q1) from by
              obtain ⟨s1, s2, _, s4, s5, s6, s7, r1, r2, _⟩ := HS.out _ h
              obtain ⟨p1, p2, p3, _, v1⟩ := r1.at_ hxi
              obtain ⟨q1, q2, q3, _, v2⟩ := r2.at_ hxi
              cases p3
              cases q3
              rw [HM.out.1.nN_eq hpq.1 hxi, ← hP1] at v1
              rw [HM.out.2.nN_eq hpq.2 hxi, ← hQ1] at v2
              exact ⟨s1, s2, s4, s5, s6, v1, s7, v2⟩)
            have b7 : (0 : Int) ≤ (x : Int) := by omega
            have b8 : (x : Int) < (i : Int) := by omega
            have HPRq := Lib.hid (fun (W : World) (h : Below wo.heap.size wo W) => ((HL.out W (HH.out.2.trans (h.mono hzo))).1).pr7 (n := R.length) rfl (by have := HRL.out; omega))
            have htl : (((autN (bothF nx nx') i R).getD j []).take x).length = x := by rw [List.length_take, autN_row _ _ HJR.out]; simp; omega
            have HTL := Lib.hid htl
            have hzq := hbq.size
            generalize hK : ixP (R.map Ent.pr) (P1, Q1) = kk at HTK
            have HKK := Lib.hid hK
            clear hO2 hbq hrA hrB s1 s2 s4 s5 s6 s7 vA vB hP1 hQ1 htl hK
            go_wp2_with fail
            go_region_held3 (fun w' => w'.cell? ⟨w.heap.size, 2, none⟩ = some (.slice (some ⟨gA, oA, none⟩) n c) ∧ w'.cell? ⟨w.heap.size + 1, 2, none⟩ = some (.slice (some ⟨gB, oB, none⟩) n' c') ∧
              w'.cell? ⟨g6, j * 2, none⟩ = some (.int .i64 e.p) ∧ w'.cell? ⟨g6, j * 2 + 1, none⟩ = some (.int .i64 e.q) ∧ w'.cell? ⟨gA, oA + e.p, none⟩ = some (.slice (some ⟨hA2, iA2, none⟩) i cA9) ∧ w'.cell? ⟨hA2, iA2 + x, none⟩ = some (.int .i64 P1) ∧
              w'.cell? ⟨gB, oB + e.q, none⟩ = some (.slice (some ⟨hB2, iB2, none⟩) i cB9) ∧ w'.cell? ⟨hB2, iB2 + x, none⟩ = some (.int .i64 Q1))
              (first | exact HS2.out _ HBQ.out.drew | exact HS2.out _ HB4.out | exact HS2.out _ (HB4.out.alloc HZ4.out _) | exact HS2.out _ HB5.out)
              (first
                | (refine step_app rfl _ _ _ _ rfl _ _ rfl rfl _ _ hr5 ?_)
                | (go_at_call 58; refine (rplace7 _ _ _ _ P1 Q1 _ (HPRq.out _ HBQ.out.drew)).mono ?_; rintro r w4 ⟨rfl, b4'⟩; rw [HKK.out]; have hb4 := Below.trans HBQ.out.drew (b4'.mono hzq); have hb4q := bt (below_drewN (Below.refl wr.heap.size wr) 1) b4'; have HB4 := Lib.hid hb4; have HZ4 := Lib.hid hb4.size; obtain ⟨A13, c13, w5, hr5, hO5, hb5, _⟩ := run_append_oneB (HO2.out.kept hb4q) (kk : Int) hb4.size (by rw [HTL.out]; omega); rw [HTL.out] at hr5 hO5; rw [HTK.out] at hO5; have HO5 := Lib.hid hO5; have HB5 := Lib.hid (hb4.trans hb5); clear hb4 hb4q b4' hO5 hb5))
            all_goals
              go_wp2_with fail
              go_roundw
              case rel => exact ⟨x + 1, A13, c13, by omega, by go_num, rfl, HO5.out, HB5.out⟩
              case measure => simp [intOf]; omega
          · obtain rfl : x = i := by omega
            have hzq := hbq.size
            have hD2 := HH.out.1.kept hbq
            have hzb2 : zb ≤ wr.heap.size := by omega
            have hrl : ((autN (bothF nx nx') x R).getD j []).length = x := by rw [autN_row _ _ HJR.out]; simp
            have hOr : Owned wr zb (.slice A12 x c12) ((autN (bothF nx nx') x R).getD j []) := by
              have h := hO2.lower hzo
              rw [List.take_of_length_le (by rw [hrl]; exact Nat.le_refl _)] at h
              exact h
            obtain ⟨A7, c7, w7, hr7, hK7, hR8, hB8, hT8, _⟩ := hD2.push_row hOr hzb2 (Nat.le_refl zb) (by rw [HNL.out]; have := HJR.out; have := HRL.out; omega)
            obtain ⟨y0, y1, y2, y3, f0, f1, f2, f3⟩ := hD2.1.cells
            obtain ⟨y0', y1', y2', y3', f0', f1', f2', f3'⟩ := hK7.cells
            have HN1 := Lib.hid (show N ++ [(autN (bothF nx nx') x R).getD j []] = (autN (bothF nx nx') x R).take (j + 1) by
              rw [HNE.out, List.take_succ_eq_append_getElem (by simp [autN]; exact HJR.out), List.getD_eq_getElem?_getD, List.getElem?_eq_getElem (by simp [autN]; exact HJR.out)]; rfl)
            obtain ⟨xa, hxa⟩ : ∃ xa, xa = aN ac e.p := ⟨_, rfl⟩
            obtain ⟨xb, hxb⟩ : ∃ xb, xb = aN ac' e.q := ⟨_, rfl⟩
            have HB1' := Lib.hid (show bs ++ [opB k xa xb] = (autA (opA k ac ac') R).take (j + 1) by
              rw [HBE.out, List.take_succ_eq_append_getElem (by simp [autA]; exact HJR.out)]
              congr 1
              have := autA_at (E := R) (opA k ac ac') HJR.out
              rw [← HEE.out, List.getD_eq_getElem?_getD, List.getElem?_eq_getElem (by simp [autA]; exact HJR.out)] at this
              rw [hxa, hxb]
              show [opA k ac ac' e.pr] = _
              rw [← this]; rfl)
            have hbw7 := (HH.out.2.trans (hbq.mono hzo)).trans hB8
            have HH7 := Lib.hid (And.intro hR8 hbw7)
            clear hD2 hOr hK7 hR8 hB8 hT8 hbw7 s1 s2 s4 s5 s6 s7 hrA hrB hO2 hbq hrl
            go_wp2_with (at_builtin; refine Lib.wpList_append_run _ rfl _ _ _ _ rfl _ _ rfl rfl _ _ hr7 ?_)
            obtain ⟨hR8, hB8⟩ := HH7.out
            generalize w7.setCell ⟨zb, 2, none⟩ (.slice A7 (N.length + 1) c7) = w8 at hR8 hB8 ⊢
            clear HH7 y0 y1 y2 y3 f0 f1 f2 f3 y0' y1' y2' y3' f0' f1' f2' f3' hr7 s3
            have hz8 : zb ≤ w8.heap.size := by have := heap_lt hR8.1; omega
            obtain ⟨_, _, _, c3', _, _, _, f3⟩ := hR8.1.cells
            obtain ⟨⟨⟨_, hLa⟩, _, hLa'⟩, ⟨_, _, _, k3, _⟩, ⟨_, _, _, j3, _⟩⟩ := (HL.out _ hB8).2
            obtain ⟨gBa, oBa, eBa, lBa, xBa⟩ := hLa.at_ hpq.1
            obtain ⟨gBb, oBb, eBb, lBb, xBb⟩ := hLa'.at_ hpq.2
            have HSW := Lib.hid (fun (W : World) (h : Below zb w2 W) (hc : W.cell? ⟨zb, 3, none⟩ = some (.slice AA bs.length cA)) => show W.cell? ⟨zb, 3, none⟩ = some (.slice AA bs.length cA) ∧ W.cell? ⟨w.heap.size, 3, none⟩ = some (.slice (some ⟨gBa, oBa, none⟩) n d) ∧ W.cell? ⟨w.heap.size + 1, 3, none⟩ = some (.slice (some ⟨gBb, oBb, none⟩) n' d') ∧ W.cell? ⟨g6, j * 2, none⟩ = some (.int .i64 e.p) ∧ W.cell? ⟨g6, j * 2 + 1, none⟩ = some (.int .i64 e.q) ∧ W.cell? ⟨gBa, oBa + e.p, none⟩ = some (.bool xa) ∧ W.cell? ⟨gBb, oBb + e.q, none⟩ = some (.bool xb) from by
              obtain ⟨hl, ⟨⟨_, hLa⟩, _, hLa'⟩, ⟨_, _, _, k3, _⟩, ⟨_, _, _, j3, _⟩⟩ := HL.out _ h
              obtain ⟨g9, c9', e9, _, _, _, hc9⟩ := hl.at_ (by rw [List.length_map]; have := HJR.out; omega)
              have x9 := hc9 j 0 (by rw [List.length_map]; exact HJR.out) (by omega)
              have y9 := hc9 j 1 (by rw [List.length_map]; exact HJR.out) (by omega)
              obtain rfl : g6 = g9 := by injection e9 with e9; injection e9 with e9; injection e9
              rw [getD_mapL HJR.out, ← HEE.out] at x9 y9
              rw [Nat.add_zero] at x9
              obtain ⟨p1, p2, p3, _, v1⟩ := hLa.at_ hpq.1
              obtain ⟨q1, q2, q3, _, v2⟩ := hLa'.at_ hpq.2
              rw [eBa] at p3
              rw [eBb] at q3
              cases p3
              cases q3
              exact ⟨hc, by rw [← eBa]; exact k3, by rw [← eBb]; exact j3, x9, y9, by rw [hxa]; exact v1, by rw [hxb]; exact v2⟩)
            subst eBa eBb
            have hbl : bs.length < 1099511627776 := by rw [HBL.out]; have := HRL.out; omega
            have hR8d : Dres w8.drew zb zb x 0 (N ++ [(autN (bothF nx nx') x R).getD j []]) bs A7 AA c7 cA := hR8.kept (below_drewN (Below.refl _ w8) 1)
            obtain ⟨A9, c9, w9, hr9, hbw9, hK9, hR10, hB10, hT10, _⟩ := hR8d.push_bool2 (opB k xa xb) (show zb ≤ w8.drew.heap.size from hz8) (Nat.le_refl zb) hbl
            obtain ⟨_, _, _, v3, _, _, _, g3⟩ := hK9.cells
            have HFN := Lib.hid (And.intro hR10 ((below_drewN hB8 1).trans hB10))
            have HS8 := HSW.out w8.drew (below_drewN hB8 1) c3'
            have HS9 := HSW.out (w8.alloc (.cells #[.bool (opB k xa xb)] 4)).drew (below_drewN (hB8.alloc hz8 _) 1) (((alloc_below w8 (.cells #[.bool (opB k xa xb)] 4)).cell (p := ⟨zb, 3, none⟩) (heap_lt hR8.1)).trans c3')
            have HS10 := HSW.out w9 ((below_drewN hB8 1).trans hbw9) v3
            have b1 : (0 : Int) ≤ (j : Int) := by omega
            have b2 : (j : Int) < (R.length : Int) := by have := HJR.out; omega
            have b3 : (0 : Int) ≤ (e.p : Int) := by omega
            have b4 : (e.p : Int) < (n : Int) := by omega
            have b5 : (0 : Int) ≤ (e.q : Int) := by omega
            have b6 : (e.q : Int) < (n' : Int) := by omega
            clear hR8 hB8 hR8d hK9 hR10 hB10 hT10 hbw9 hLa hLa' k3 j3 xBa xBb lBa lBb hxa hxb c3' f3 hbl
            refine wp_region_heldE (k := 25) (S := fun W => W.cell? ⟨zb, 3, none⟩ = some (.slice AA bs.length cA) ∧ W.cell? ⟨w.heap.size, 3, none⟩ = some (.slice (some ⟨gBa, oBa, none⟩) n d) ∧ W.cell? ⟨w.heap.size + 1, 3, none⟩ = some (.slice (some ⟨gBb, oBb, none⟩) n' d') ∧ W.cell? ⟨g6, j * 2, none⟩ = some (.int .i64 e.p) ∧ W.cell? ⟨g6, j * 2 + 1, none⟩ = some (.int .i64 e.q) ∧ W.cell? ⟨gBa, oBa + e.p, none⟩ = some (.bool xa) ∧ W.cell? ⟨gBb, oBb + e.q, none⟩ = some (.bool xb)) (by kernel_rfl) ?_
            refine wpAnyE_take (i := 0) (v := ?_) rfl (by kernel_rfl) (by kernel_rfl) (by kernel_rfl) (by kernel_rfl) (fun _ _ _ h => h) (Or.inl ⟨by rfl, ?_⟩) (by exact HS8) ?_
            rotate_left
            · (intro W hSW; (try dsimp only at hSW); go_simp; try with_reducible rfl)
            (try simp only [Act.put, List.setIfInBounds_toArray, List.set_cons_zero, List.set_cons_succ])
            refine wpAnyE_take (i := 1) (v := ?_) rfl (by kernel_rfl) (by kernel_rfl) (by kernel_rfl) (by kernel_rfl) (fun _ _ _ h => h) (Or.inl ⟨by rfl, ?_⟩) (by exact HS8) ?_
            rotate_left
            · (intro W hSW; (try dsimp only at hSW); go_simp; try with_reducible rfl)
            (try simp only [Act.put, List.setIfInBounds_toArray, List.set_cons_zero, List.set_cons_succ])
            refine wpAnyE_take (i := 2) (v := ?_) rfl (by kernel_rfl) (by kernel_rfl) (by kernel_rfl) (by kernel_rfl) (fun _ _ _ h => h) (Or.inl ⟨by rfl, ?_⟩) (by exact HS8) ?_
            rotate_left
            · (intro W hSW; (try dsimp only at hSW); go_simp; try with_reducible rfl)
            (try simp only [Act.put, List.setIfInBounds_toArray, List.set_cons_zero, List.set_cons_succ])
            refine wpAnyE_take (i := 3) (v := ?_) rfl (by kernel_rfl) (by kernel_rfl) (by kernel_rfl) (by kernel_rfl) (fun _ _ _ h => h) (Or.inl ⟨by rfl, ?_⟩) (by exact HS8) ?_
            rotate_left
            · (intro W hSW; (try dsimp only at hSW); go_simp; try with_reducible rfl)
            (try simp only [Act.put, List.setIfInBounds_toArray, List.set_cons_zero, List.set_cons_succ])
            refine wpAnyE_take (i := 4) (v := ?_) rfl (by kernel_rfl) (by kernel_rfl) (by kernel_rfl) (by kernel_rfl) (fun _ _ _ h => h) (Or.inl ⟨by rfl, ?_⟩) (by exact HS8) ?_
            rotate_left
            · (intro W hSW; (try dsimp only at hSW); go_simp; try with_reducible rfl)
            (try simp only [Act.put, List.setIfInBounds_toArray, List.set_cons_zero, List.set_cons_succ])
            refine wpAnyE_take (i := 5) (v := ?_) rfl (by kernel_rfl) (by kernel_rfl) (by kernel_rfl) (by kernel_rfl) (fun _ _ _ h => h) (Or.inl ⟨by rfl, ?_⟩) (by exact HS8) ?_
            rotate_left
            · (intro W hSW; (try dsimp only at hSW); go_simp; try with_reducible rfl)
            (try simp only [Act.put, List.setIfInBounds_toArray, List.set_cons_zero, List.set_cons_succ])
            refine wpAnyE_take (i := 6) (v := ?_) rfl (by kernel_rfl) (by kernel_rfl) (by kernel_rfl) (by kernel_rfl) (fun _ _ _ h => h) (Or.inl ⟨by rfl, ?_⟩) (by exact HS8) ?_
            rotate_left
            · (intro W hSW; (try dsimp only at hSW); go_simp; try with_reducible rfl)
            (try simp only [Act.put, List.setIfInBounds_toArray, List.set_cons_zero, List.set_cons_succ])
            refine wpAnyE_take (i := 7) (v := ?_) rfl (by kernel_rfl) (by kernel_rfl) (by kernel_rfl) (by kernel_rfl) (fun _ _ _ h => h) (Or.inl ⟨by rfl, ?_⟩) (by exact HS8) ?_
            rotate_left
            · (intro W hSW; (try dsimp only at hSW); go_simp; try with_reducible rfl)
            (try simp only [Act.put, List.setIfInBounds_toArray, List.set_cons_zero, List.set_cons_succ])
            refine wpAnyE_take (i := 8) (v := ?_) rfl (by kernel_rfl) (by kernel_rfl) (by kernel_rfl) (by kernel_rfl) (fun _ _ _ h => h) (Or.inl ⟨by rfl, ?_⟩) (by exact HS8) ?_
            rotate_left
            · (intro W hSW; (try dsimp only at hSW); go_simp; try with_reducible rfl)
            (try simp only [Act.put, List.setIfInBounds_toArray, List.set_cons_zero, List.set_cons_succ])
            refine wpAnyE_take (i := 9) (v := ?_) rfl (by kernel_rfl) (by kernel_rfl) (by kernel_rfl) (by kernel_rfl) (fun _ _ _ h => h) (Or.inl ⟨by rfl, ?_⟩) (by exact HS8) ?_
            rotate_left
            · (intro W hSW; (try dsimp only at hSW); go_simp; try with_reducible rfl)
            (try simp only [Act.put, List.setIfInBounds_toArray, List.set_cons_zero, List.set_cons_succ])
            refine wpAnyE_take (i := 10) (v := ?_) rfl (by kernel_rfl) (by kernel_rfl) (by kernel_rfl) (by kernel_rfl) (fun _ _ _ h => h) (Or.inl ⟨by rfl, ?_⟩) (by exact HS8) ?_
            rotate_left
            · (intro W hSW; (try dsimp only at hSW); go_simp; try with_reducible rfl)
            (try simp only [Act.put, List.setIfInBounds_toArray, List.set_cons_zero, List.set_cons_succ])
            refine wpAnyE_take (i := 11) (v := ?_) rfl (by kernel_rfl) (by kernel_rfl) (by kernel_rfl) (by kernel_rfl) (fun _ _ _ h => h) (Or.inl ⟨by rfl, ?_⟩) (by exact HS8) ?_
            rotate_left
            · (intro W hSW; (try dsimp only at hSW); go_simp; try with_reducible rfl)
            (try simp only [Act.put, List.setIfInBounds_toArray, List.set_cons_zero, List.set_cons_succ])
            refine wpAnyE_take (i := 12) (v := ?_) rfl (by kernel_rfl) (by kernel_rfl) (by kernel_rfl) (by kernel_rfl) (fun _ _ _ h => h) (Or.inl ⟨by rfl, ?_⟩) (by exact HS8) ?_
            rotate_left
            · (intro W hSW; (try dsimp only at hSW); go_simp; try with_reducible rfl)
            (try simp only [Act.put, List.setIfInBounds_toArray, List.set_cons_zero, List.set_cons_succ])
            refine wpAnyE_take (i := 13) (v := ?_) rfl (by kernel_rfl) (by kernel_rfl) (by kernel_rfl) (by kernel_rfl) (fun _ _ _ h => h) (Or.inl ⟨by rfl, ?_⟩) (by exact HS8) ?_
            rotate_left
            · (intro W hSW; (try dsimp only at hSW); go_simp; try with_reducible rfl)
            (try simp only [Act.put, List.setIfInBounds_toArray, List.set_cons_zero, List.set_cons_succ])
            refine wpAnyE_take (i := 14) (v := ?_) rfl (by kernel_rfl) (by kernel_rfl) (by kernel_rfl) (by kernel_rfl) (fun _ _ _ h => h) (Or.inl ⟨by rfl, ?_⟩) (by exact HS8) ?_
            rotate_left
            · (intro W hSW; (try dsimp only at hSW); go_simp; try with_reducible rfl)
            (try simp only [Act.put, List.setIfInBounds_toArray, List.set_cons_zero, List.set_cons_succ])
            refine wpAnyE_take (i := 15) (v := ?_) rfl (by kernel_rfl) (by kernel_rfl) (by kernel_rfl) (by kernel_rfl) (fun _ _ _ h => h) (Or.inl ⟨by rfl, ?_⟩) (by exact HS8) ?_
            rotate_left
            · (intro W hSW; (try dsimp only at hSW); go_simp; try with_reducible rfl)
            (try simp only [Act.put, List.setIfInBounds_toArray, List.set_cons_zero, List.set_cons_succ])
            refine wpAnyE_take (i := 16) (v := ?_) rfl (by kernel_rfl) (by kernel_rfl) (by kernel_rfl) (by kernel_rfl) (fun _ _ _ h => h) (Or.inl ⟨by rfl, ?_⟩) (by exact HS8) ?_
            rotate_left
            · (intro W hSW; (try dsimp only at hSW); go_simp; try with_reducible rfl)
            (try simp only [Act.put, List.setIfInBounds_toArray, List.set_cons_zero, List.set_cons_succ])
            refine wpAnyE_take (i := 17) (v := ?_) rfl (by kernel_rfl) (by kernel_rfl) (by kernel_rfl) (by kernel_rfl) (fun _ _ _ h => h) (Or.inl ⟨by rfl, ?_⟩) (by exact HS8) ?_
            rotate_left
            · (intro W hSW; (try dsimp only at hSW); go_simp; try with_reducible rfl)
            (try simp only [Act.put, List.setIfInBounds_toArray, List.set_cons_zero, List.set_cons_succ])
            refine wpAnyE_take (i := 18) (v := ?_) rfl (by kernel_rfl) (by kernel_rfl) (by kernel_rfl) (by kernel_rfl) (fun _ _ _ h => h) (Or.inl ⟨by rfl, ?_⟩) (by exact HS8) ?_
            rotate_left
            · (intro W hSW; (try dsimp only at hSW); go_simp; try with_reducible rfl)
            (try simp only [Act.put, List.setIfInBounds_toArray, List.set_cons_zero, List.set_cons_succ])
            refine wpAnyE_take (i := 19) (v := ?_) rfl (by kernel_rfl) (by kernel_rfl) (by kernel_rfl) (by kernel_rfl) (fun _ _ _ h => h) (Or.inl ⟨by rfl, ?_⟩) (by exact HS8) ?_
            rotate_left
            · (intro W hSW; (try dsimp only at hSW); go_simp; try with_reducible rfl)
            (try simp only [Act.put, List.setIfInBounds_toArray, List.set_cons_zero, List.set_cons_succ])
            refine wpAnyE_take (i := 20) (v := ?_) rfl (by kernel_rfl) (by kernel_rfl) (by kernel_rfl) (by kernel_rfl) (fun _ _ _ h => h) (Or.inl ⟨by rfl, ?_⟩) (by exact HS8) ?_
            rotate_left
            · (intro W hSW; (try dsimp only at hSW); go_simp; try with_reducible rfl)
            (try simp only [Act.put, List.setIfInBounds_toArray, List.set_cons_zero, List.set_cons_succ])
            refine wpAnyE_one (i := 21) rfl (by kernel_rfl) (fun K hK => ?_)
            go_simp
            go_at_call 59
            refine (rholds7 k xa xb _ hk).mono ?_
            rintro r w9' ⟨rfl, rfl⟩
            (try go_wp2_with fail)
            refine hK.out _ _ (fun _ => HS8) ?_
            (try simp only [Act.put, List.setIfInBounds_toArray, List.set_cons_zero, List.set_cons_succ])
            refine wpAnyE_one (i := 22) rfl (by kernel_rfl) (fun K hK => ?_)
            go_simp
            refine hK.out _ _ (fun _ => HS9) ?_
            (try simp only [Act.put, List.setIfInBounds_toArray, List.set_cons_zero, List.set_cons_succ])
            refine wpAnyE_one (i := 23) rfl (by kernel_rfl) (fun K hK => ?_)
            refine step_app rfl _ _ _ _ rfl _ _ rfl rfl _ _ hr9 ?_
            refine hK.out _ _ (fun _ => HS10) ?_
            (try simp only [Act.put, List.setIfInBounds_toArray, List.set_cons_zero, List.set_cons_succ])
            refine wpAnyE_one (i := 24) rfl (by kernel_rfl) (fun K hK => ?_)
            go_simp
            refine hK.out _ _ (fun _ => HS10) ?_
            (try simp only [Act.put, List.setIfInBounds_toArray, List.set_cons_zero, List.set_cons_succ])
            refine wpAnyE_one (i := 25) rfl (by kernel_rfl) (fun K hK => ?_)
            go_simp
            refine hK.out _ _ (fun h => absurd rfl h) ?_
            refine wpAnyE_done (by kernel_rfl) ?_ _
            have hRL := HRL.out
            have hjr := HJR.out
            go_wp2_with fail
            go_roundw
            case rel => exact ⟨j + 1, N ++ [(autN (bothF nx nx') x R).getD j []], bs ++ [opB k xa xb], A7, A9, c7, c9, by go_num, hjr, HN1.out, HB1'.out, HFN.out.1, HFN.out.2⟩
            case measure => simp [intOf]; omega
      · obtain rfl : j = R.length := by omega
        have d4 : decide ((R.length : Int) < (R.length : Int)) = false := decide_eq_false (by omega)
        have hnl : (autN (bothF nx nx') i R).length = R.length := by simp [autN]
        have hal : (autA (opA k ac ac') R).length = R.length := by simp [autA]
        have hDl := hD
        rw [hNe, hBe, List.take_of_length_le (by rw [hnl]; exact Nat.le_refl _), List.take_of_length_le (by rw [hal]; exact Nat.le_refl _), Dres, hnl, hal] at hDl
        obtain ⟨y0, y1, y2, y3, _⟩ := hDl.1.cells
        have hzz := HZ.out
        have hb0r := bt HB2.out (by rw [← HZB.out]; exact hbr)
        have HRr := Lib.hid (HR.out.kept hb0r (show w.heap.size + 2 < w0.heap.size by omega))
        obtain ⟨q0, q1, q2, q3, z0, z1, z2, z3⟩ := HRr.out.cells
        have HDD := Lib.hid hDl
        have HBR2 := Lib.hid (bt HB0.out hb0r)
        have HZ1 := Lib.hid (show w.heap.size ≤ zb by rw [HZB.out]; exact (bt HB0.out HB2.out).size)
        clear hNe hBe hD hbr hzz hb0r hDl hnl hal
        go_wp2_with fail
        refine bodyPost_ret (results_dfa rfl _ _ (w.heap.size + 2) _ _ _ _ rfl (HRr.out.set4 _ _ _ _)) rfl ?_
        refine ⟨AutP.ok HRL.out ⟨AN, cN, AA, cA, rfl, ?_, ?_⟩, below_set4 (by omega) HBR2.out _ _ _ _⟩
        · exact (HDD.out.2.1.keptT (HRr.out.off4 _ _ _ _ (by decide)) (HRr.out.off4 _ _ _ _ (by decide))).lower HZ1.out
        · exact (HDD.out.2.2.keptT (HRr.out.off4 _ _ _ _ (by decide))).lower HZ1.out
end Go.Proofs.Ythjnghldedfdoaa
end

section
/- The reference's Differ. -/
namespace Go.Proofs.Ythjnghldedfdoaa
open Go.RowKit

set_option maxHeartbeats 2000000 in
set_option maxRecDepth 100000 in
theorem rdiff7_bad (i st i' st' : Int) (A B A' B' : Option Addr) (n c m d n' c' m' d' : Nat) (nx nx' : List (List Int)) (ac ac' : List Bool) (w : World) (hx : Lists w A n nx) (ha : Bools w B m ac) (hx' : Lists w A' n' nx') (ha' : Bools w B' m' ac') (hv : ¬ vld2 i st nx ac i' st' nx' ac' = 0) :
    Calls Try.prog 25 #[.agg #[.int .i64 i, .int .i64 st, .slice A n c, .slice B m d], .agg #[.int .i64 i', .int .i64 st', .slice A' n' c', .slice B' m' d']] w fun e w' => e = .returned (.tuple #[.slice none 0 0, .bool false, .int .i64 (vld2 i st nx ac i' st' nx' ac')]) ∧ Below w.heap.size w w' := by
  obtain ⟨w0, hw0, hb0, hB, hB'⟩ := two_boxes w i st i' st' A B A' B' n c m d n' c' m' d'
  obtain ⟨k0, k1, k2, k3, _⟩ := hB.cells
  obtain ⟨j0, j1, j2, j3, _⟩ := hB'.cells
  obtain ⟨x, hx0, hxe⟩ : ∃ x, ¬ x = 0 ∧ vld2 i st nx ac i' st' nx' ac' = x := ⟨_, hv, rfl⟩
  have HXE := Lib.hid hxe
  have t1 : (x != 0) = true := by simpa using hx0
  have HW0 := Lib.hid hw0
  have HX := Lib.hid (fun (W : World) (h : Below w0.heap.size w0 W) => And.intro (And.intro ((hx.below hb0).below h) ((ha.below hb0).below h)) (And.intro ((hx'.below hb0).below h) ((ha'.below hb0).below h)))
  have HB0 := Lib.hid hb0
  have HB := Lib.hid (fun (W : World) (h : Below w0.heap.size w0 W) => And.intro (hB.on9 h).cells (hB'.on9 h).cells)
  clear hv hxe hw0 hB hB' hb0
  rw [HW0.out] at k0 k1 k2 k3 j0 j1 j2 j3
  go_enter Try.func25, Try.ntmps25
  go_wp2_with fail
  rw [← HW0.out]
  refine (rtwo7 _ _ _ _ _ _ _ _ _ _ _ _ _ _ _ _ _ _ _ _ _ (HX.out _ (Below.refl _ _)).1.1 (HX.out _ (Below.refl _ _)).1.2 (HX.out _ (Below.refl _ _)).2.1 (HX.out _ (Below.refl _ _)).2.2).mono ?_
  rintro e w1 ⟨rfl, b1⟩
  rw [HXE.out]
  have HB1 := Lib.hid b1
  clear k0 k1 k2 k3 j0 j1 j2 j3
  obtain ⟨⟨k0, k1, k2, k3, _⟩, ⟨j0, j1, j2, j3, _⟩⟩ := HB.out _ b1
  clear b1
  go_wp2_with fail
  refine (rtwo7 _ _ _ _ _ _ _ _ _ _ _ _ _ _ _ _ _ _ _ _ _ (HX.out _ HB1.out).1.1 (HX.out _ HB1.out).1.2 (HX.out _ HB1.out).2.1 (HX.out _ HB1.out).2.2).mono ?_
  rintro e w2 ⟨rfl, b2⟩
  rw [HXE.out]
  go_wp2_with fail
  go_ret3
  exact ⟨by rw [HXE.out]; rfl, bt HB0.out (bt HB1.out b2)⟩
set_option maxHeartbeats 4000000 in
set_option maxRecDepth 100000 in
theorem rdiff7 (i st st' n n' : Nat) (A B A' B' : Option Addr) (c d c' d' : Nat) (nx nx' : List (List Int)) (ac ac' : List Bool) (w : World) (hx : Lists w A n nx) (ha : Bools w B n ac) (hx' : Lists w A' n' nx') (ha' : Bools w B' n' ac') (hM : Dok i st n nx ac) (hM' : Dok i st' n' nx' ac') :
    Calls Try.prog 25 #[.agg #[.int .i64 i, .int .i64 st, .slice A n c, .slice B n d], .agg #[.int .i64 i, .int .i64 st', .slice A' n' c', .slice B' n' d']] w fun e w' => ∃ A3 c3, e = .returned (.tuple #[.slice A3 (fwR (fun p => aN ac p.1 != aN ac' p.2) (cmE i st n st' n' nx nx')).1.length c3, .bool (fwR (fun p => aN ac p.1 != aN ac' p.2) (cmE i st n st' n' nx nx')).2, .int .i64 0]) ∧
      Ints w' A3 (fwR (fun p => aN ac p.1 != aN ac' p.2) (cmE i st n st' n' nx nx')).1.length (fwR (fun p => aN ac p.1 != aN ac' p.2) (cmE i st n st' n' nx nx')).1 ∧ Below w.heap.size w w' := by
  obtain ⟨w0, hw0, hb0, hB, hB'⟩ := two_boxes w i st i st' A B A' B' n c n d n' c' n' d'
  obtain ⟨k0, k1, k2, k3, _⟩ := hB.cells
  obtain ⟨j0, j1, j2, j3, _⟩ := hB'.cells
  have HV := Lib.hid (show vld2 i st nx ac i st' nx' ac' = 0 by unfold vld2; rw [if_pos hM.vld, if_pos hM'.vld, if_pos rfl])
  have hn := hM.n2
  have hn' := hM'.n2
  have hnn : n * n' ≤ 16384 := Nat.mul_le_mul hn hn'
  have HW0 := Lib.hid hw0
  have HX := Lib.hid (fun (W : World) (h : Below w0.heap.size w0 W) => And.intro (And.intro ((hx.below hb0).below h) ((ha.below hb0).below h)) (And.intro ((hx'.below hb0).below h) ((ha'.below hb0).below h)))
  have HB0 := Lib.hid hb0
  have HB := Lib.hid (fun (W : World) (h : Below w0.heap.size w0 W) => And.intro (hB.on9 h).cells (hB'.on9 h).cells)
  have HM := Lib.hid (And.intro hM hM')
  obtain ⟨R, hR⟩ : ∃ R, R = cmE i st n st' n' nx nx' := ⟨_, rfl⟩
  have HDL := Lib.hid (show R.length ≤ n * n' by rw [hR]; exact (cm_ens hM hM').len)
  rw [← hR]
  have HR := Lib.hid hR
  obtain ⟨wd, hwd⟩ : ∃ wd : Nat × Nat → Bool, wd = fun p => aN ac p.1 != aN ac' p.2 := ⟨_, rfl⟩
  rw [← hwd]
  have HWD := Lib.hid (fun p => show wd p = (aN ac p.1 != aN ac' p.2) by rw [hwd])
  clear hw0 hB hB' hb0 hM hM' hR hwd
  rw [HW0.out] at k0 k1 k2 k3 j0 j1 j2 j3
  go_enter Try.func25, Try.ntmps25
  go_wp2_with fail
  rw [← HW0.out]
  refine (rtwo7 _ _ _ _ _ _ _ _ _ _ _ _ _ _ _ _ _ _ _ _ _ (HX.out _ (Below.refl _ _)).1.1 (HX.out _ (Below.refl _ _)).1.2 (HX.out _ (Below.refl _ _)).2.1 (HX.out _ (Below.refl _ _)).2.2).mono ?_
  rintro e w1 ⟨rfl, b1⟩
  rw [HV.out]
  have HB1 := Lib.hid b1
  clear k0 k1 k2 k3 j0 j1 j2 j3
  obtain ⟨⟨k0, k1, k2, k3, _⟩, ⟨j0, j1, j2, j3, _⟩⟩ := HB.out _ b1
  clear b1
  go_wp2_with fail
  refine (rpairs7 i st n st' n' 16384 A B A' B' c n d c' n' d' nx nx' ac ac' w1 (HX.out _ HB1.out).1.1 (HX.out _ HB1.out).2.1 HM.out.1 HM.out.2).mono ?_
  rintro e w2 ⟨E, T, A1, c1, A2, c2, hE, hT, hN, rfl, hP, hW, b2⟩
  rw [← HR.out] at hE
  have hTn : T = [] := by
    rcases hT with h | h
    · exact h
    · have := HDL.out; rw [hE, List.length_append] at this; omega
  subst hTn
  rw [List.append_nil] at hE
  subst hE
  have hLE := HDL.out
  have HN := Lib.hid hN
  have HWL := Lib.hid (hW.lists (by rw [wsE_len]; omega) (fdG_wl hN (by omega)))
  have HPP := Lib.hid hP
  have HB2 := Lib.hid (bt HB1.out b2)
  clear hN hW hP b2 k0 k1 k2 k3 j0 j1 j2 j3 hT
  go_wp2_with fail
  go_loopw [9] (fun v9 wr => ∃ j : Nat, v9 = .int .i64 j ∧ j ≤ R.length ∧ (∀ k, k < j → wd (R.getD k Ent.zero).pr = false) ∧ Below w2.heap.size w2 wr) (fun v9 _ => R.length - (intOf v9).toNat)
  case atStart => exact ⟨0, rfl, Nat.zero_le _, fun k h => absurd h (by omega), Below.refl _ _⟩
  case round =>
    obtain ⟨j, rfl, hj, hall, hbr⟩ := hrel
    have HALL := Lib.hid hall
    have HBR := Lib.hid hbr
    obtain ⟨⟨k0, k1, k2, k3, _⟩, ⟨j0, j1, j2, j3, _⟩⟩ := HB.out _ (bt HB2.out hbr)
    by_cases hlt : j < R.length
    · obtain ⟨g1, c1', e1, _, hg1, _, hc1⟩ := (HPP.out.kept hbr).at_ (by rw [List.length_map]; omega)
      obtain rfl : A1 = some ⟨g1, 0, none⟩ := by injection e1
      clear e1
      have x1 := hc1 j 0 (by rw [List.length_map]; exact hlt) (by omega)
      have y1 := hc1 j 1 (by rw [List.length_map]; exact hlt) (by omega)
      rw [getD_mapL hlt] at x1 y1
      rw [Nat.add_zero] at x1
      replace x1 : wr.cell? ⟨g1, j * 2, none⟩ = some (.int .i64 (R.getD j Ent.zero).p) := x1
      replace y1 : wr.cell? ⟨g1, j * 2 + 1, none⟩ = some (.int .i64 (R.getD j Ent.zero).q) := y1
      obtain ⟨hp, hq⟩ := HN.out.lt _ (getDE_mem hlt)
      obtain ⟨gB, oB, rfl, lB, xB⟩ := (HX.out _ (bt HB2.out hbr)).1.2.at_ hp
      obtain ⟨gD, oD, rfl, lD, xD⟩ := (HX.out _ (bt HB2.out hbr)).2.2.at_ hq
      replace xB : wr.cell? ⟨gB, oB + (R.getD j Ent.zero).p, none⟩ = some (.bool (aN ac (R.getD j Ent.zero).p)) := xB
      replace xD : wr.cell? ⟨gD, oD + (R.getD j Ent.zero).q, none⟩ = some (.bool (aN ac' (R.getD j Ent.zero).q)) := xD
      have HHIT := Lib.hid (fun (hb : ∀ k, k < j → wd (R.getD k Ent.zero).pr = false) (h : (aN ac (R.getD j Ent.zero).p != aN ac' (R.getD j Ent.zero).q) = true) => show fwR wd R = ((R.getD j Ent.zero).w, true) by
        have h9 := fwR_hit (wd := wd) (E := R) (T := []) hlt hb (by rw [HWD.out]; exact h)
        rw [List.append_nil] at h9; exact h9)
      obtain ⟨g2, o2, Aw, nw, cw, e2, l2, x2, hIw⟩ := (HWL.out.below hbr).at_ (show j < R.length from hlt)
      subst e2
      rw [wsE_at hlt] at hIw
      have HHN := Lib.hid (fun (h : (aN ac (R.getD j Ent.zero).p != aN ac' (R.getD j Ent.zero).q) = false) k (hk : k < j + 1) => show wd (R.getD k Ent.zero).pr = false by
        by_cases e : k = j
        · subst e; rw [HWD.out]; exact h
        · exact HALL.out k (by omega))
      generalize (R.getD j Ent.zero).w = u at hIw HHIT
      obtain rfl : nw = u.length := hIw.1.symm
      have HIW := Lib.hid hIw
      generalize (R.getD j Ent.zero).p = p at x1 hp xB HHIT HHN
      generalize (R.getD j Ent.zero).q = q at y1 hq xD HHIT HHN
      have b1 : (0 : Int) ≤ (j : Int) := by omega
      have b2 : (j : Int) < (R.length : Int) := by omega
      have b3 : (0 : Int) ≤ (p : Int) := by omega
      have b4 : (p : Int) < (n : Int) := by omega
      have b5 : (0 : Int) ≤ (q : Int) := by omega
      have b6 : (q : Int) < (n' : Int) := by omega
      clear hall hbr hc1 hIw
      generalize aN ac p = xp at xB HHIT HHN
      generalize aN ac' q = xq at xD HHIT HHN
      cases xp <;> cases xq
      all_goals first
        | (have HF := Lib.hid (HHN.out rfl)
           clear HHN HHIT
           go_wp2_with fail
           go_quiet (fail)
           go_wp2_with fail
           go_roundw
           case rel => exact ⟨j + 1, by go_num, by omega, HF.out, below_drewN HBR.out _⟩
           case measure => simp [intOf]; omega)
        | (have HF := Lib.hid (HHIT.out HALL.out rfl)
           clear HHN HHIT
           go_wp2_with fail
           go_quiet (fail)
           go_wp2_with fail
           go_ret3
           refine ⟨Aw, cw, by rw [HF.out]; rfl, by rw [HF.out]; exact HIW.out.below (below_drewN (Below.refl _ _) _), bt HB0.out (bt HB2.out (below_drewN HBR.out _))⟩)
    · obtain rfl : j = R.length := by omega
      have d1 : decide ((R.length : Int) < (R.length : Int)) = false := decide_eq_false (by omega)
      have HF := Lib.hid (fwR_miss (wd := wd) hall)
      clear hall hbr
      go_wp2_with fail
      go_ret3
      refine ⟨none, 0, by rw [HF.out]; rfl, by rw [HF.out]; exact ⟨rfl, by simp, fun h => absurd h (by simp)⟩, bt HB0.out (bt HB2.out HBR.out)⟩
end Go.Proofs.Ythjnghldedfdoaa
end
