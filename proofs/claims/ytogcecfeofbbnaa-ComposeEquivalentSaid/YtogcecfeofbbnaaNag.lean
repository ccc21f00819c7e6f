/- Lemmas of the proofs of this seat, of the parts Gcs, Gct, Gcu, Gcv, Gcz, Eqm, Samem. Conditions: none. -/
import Derived.Test.YtogcecfeofbbnaaNaf
import Derived.Test.YtogcecfeofbbnaaNac
import Derived.Test.YtogcecfeofbbnaaNae
import Derived.Test.YtogcecfeofbbnaaNaa
section
/- Product, Parallel, Cascade of the program. -/
namespace Go.Proofs.Ytogcecfeofbbnaa
open Go.RowKit Go.Shelf
attribute [local go_sem] run_storeFn

/-- Two machines in boxes, and one more for the result. -/
theorem three_boxesM (w : World) (i1 st1 i2 st2 : Int) (A B C D : Option Addr) (n c m d n2 c2 m2 d2 : Nat) : ∃ w0, w0 = ((w.alloc (.cells #[.int .i64 i1, .int .i64 st1, .slice A n c, .slice B m d] 24)).alloc (.cells #[.int .i64 i2, .int .i64 st2, .slice C n2 c2, .slice D m2 d2] 24)).alloc (.cells #[.int .i64 0, .int .i64 0, .slice none 0 0, .slice none 0 0] 24) ∧
    Below w.heap.size w w0 ∧ Mblk w0 w.heap.size (.int .i64 i1) (.int .i64 st1) (.slice A n c) (.slice B m d) ∧ Mblk w0 (w.heap.size + 1) (.int .i64 i2) (.int .i64 st2) (.slice C n2 c2) (.slice D m2 d2) ∧ Mblk w0 (w.heap.size + 1 + 1) (.int .i64 0) (.int .i64 0) (.slice none 0 0) (.slice none 0 0) ∧ w0.heap.size = w.heap.size + 3 := by
  obtain ⟨w1, e1, b1, h1, h2, z1⟩ := pair_boxesM w i1 st1 i2 st2 A B C D n c m d n2 c2 m2 d2
  have hb := alloc_below w1 (.cells #[.int .i64 0, .int .i64 0, .slice none 0 0, .slice none 0 0] 24)
  refine ⟨_, rfl, ?_, ?_, ?_, ?_, by simp⟩
  · rw [← e1]; exact bt b1 hb
  · rw [← e1]; exact h1.on hb
  · rw [← e1]; exact h2.on hb
  · rw [← e1]
    have := mealy_box w1 (.int .i64 0) (.int .i64 0) (.slice none 0 0) (.slice none 0 0)
    rw [z1] at this
    exact this
theorem Mblk.nf {w : World} {g : Nat} {a b c d : Value} (h : Mblk w g a b c d) : w.frozen? ⟨g, 0, none⟩ = false ∧ w.frozen? ⟨g, 1, none⟩ = false ∧ w.frozen? ⟨g, 2, none⟩ = false ∧ w.frozen? ⟨g, 3, none⟩ = false := h.cells.2.2.2.2
/-- No machine, and an error. -/
def NoM (x : Int) : Ending := .returned (.tuple #[.agg #[.int .i64 0, .int .i64 0, .slice none 0 0, .slice none 0 0], .int .i64 x])
set_option maxHeartbeats 2000000 in
set_option maxRecDepth 100000 in
theorem pproduct_bad (i st i' st' : Int) (n m n' m' : Nat) (A B A' B' : Option Addr) (c d c' d' : Nat) (nx ot nx' ot' : List (List Int)) (w : World) (hx : Lists w A n nx) (ho : Lists w B m ot) (hx' : Lists w A' n' nx') (ho' : Lists w B' m' ot') (hv : ¬ vld2m i st nx ot i' st' nx' ot' = 0) :
    Calls Try.prog 32 #[.agg #[.int .i64 i, .int .i64 st, .slice A n c, .slice B m d], .agg #[.int .i64 i', .int .i64 st', .slice A' n' c', .slice B' m' d']] w fun e w' => e = NoM (vld2m i st nx ot i' st' nx' ot') ∧ Below w.heap.size w w' := by
  obtain ⟨w0, hw0, hb0, hG, hG', hR, hz0⟩ := three_boxesM w i st i' st' A B A' B' n c m d n' c' m' d'
  obtain ⟨k0, k1, k2, k3, _⟩ := hG.cells
  obtain ⟨j0, j1, j2, j3, _⟩ := hG'.cells
  have HX := Lib.hid (fun (W : World) (h : Below w0.heap.size w0 W) => (hx.below hb0).below h)
  have HO := Lib.hid (fun (W : World) (h : Below w0.heap.size w0 W) => (ho.below hb0).below h)
  have HX' := Lib.hid (fun (W : World) (h : Below w0.heap.size w0 W) => (hx'.below hb0).below h)
  have HO' := Lib.hid (fun (W : World) (h : Below w0.heap.size w0 W) => (ho'.below hb0).below h)
  have HW0 := Lib.hid hw0
  have HB0 := Lib.hid hb0
  have HG := Lib.hid hG
  have HG' := Lib.hid hG'
  have HR := Lib.hid hR
  have HZ := Lib.hid hz0
  obtain ⟨x, hx0, hxe⟩ : ∃ x, ¬ x = 0 ∧ vld2m i st nx ot i' st' nx' ot' = x := ⟨_, hv, rfl⟩
  have HXE := Lib.hid hxe
  have t1 : (x != 0) = true := by simpa using hx0
  clear hv hxe
  clear hw0 hb0 hG hG' hR hz0 hx ho hx' ho'
  rw [HW0.out] at k0 k1 k2 k3 j0 j1 j2 j3
  go_enter Try.func32, Try.ntmps32
  go_wp2_with fail
  rw [← HW0.out]
  refine (pcheckm _ _ _ _ _ _ _ _ _ _ _ _ _ _ _ _ _ _ _ _ _ (HX.out _ (Below.refl _ _)) (HO.out _ (Below.refl _ _)) (HX'.out _ (Below.refl _ _)) (HO'.out _ (Below.refl _ _))).mono ?_
  rintro e w1 ⟨rfl, b1⟩
  rw [HXE.out]
  have HB1 := Lib.hid b1
  have HRr := Lib.hid (HR.out.on b1)
  obtain ⟨q0, q1, q2, q3, z0, z1, z2, z3⟩ := HRr.out.cells
  clear k0 k1 k2 k3 j0 j1 j2 j3
  obtain ⟨k0, k1, k2, k3, _⟩ := (HG.out.on b1).cells
  obtain ⟨j0, j1, j2, j3, _⟩ := (HG'.out.on b1).cells
  clear b1
  go_wp2_with fail
  refine bodyPost_ret (results_mealy rfl _ _ (w.heap.size + 1 + 1) (.int .i64 0) (.int .i64 0) (.slice none 0 0) (.slice none 0 0) rfl (HRr.out.set4 _ _ _ _)) rfl ?_
  exact ⟨by rw [HXE.out]; rfl, below_set4 (by omega) (bt HB0.out HB1.out) _ _ _ _⟩
set_option maxHeartbeats 2000000 in
set_option maxRecDepth 100000 in
theorem pproduct_con (i st n i' st' n' : Nat) (A B A' B' : Option Addr) (c d c' d' : Nat) (nx ot nx' ot' : List (List Int)) (w : World) (hx : Lists w A n nx) (ho : Lists w B n ot) (hx' : Lists w A' n' nx') (ho' : Lists w B' n' ot') (hM : Mok i st n nx ot) (hM' : Mok i' st' n' nx' ot') (hne : ¬ i = i') :
    Calls Try.prog 32 #[.agg #[.int .i64 i, .int .i64 st, .slice A n c, .slice B n d], .agg #[.int .i64 i', .int .i64 st', .slice A' n' c', .slice B' n' d']] w fun e w' => e = NoM (15) ∧ Below w.heap.size w w' := by
  obtain ⟨w0, hw0, hb0, hG, hG', hR, hz0⟩ := three_boxesM w i st i' st' A B A' B' n c n d n' c' n' d'
  obtain ⟨k0, k1, k2, k3, _⟩ := hG.cells
  obtain ⟨j0, j1, j2, j3, _⟩ := hG'.cells
  have HX := Lib.hid (fun (W : World) (h : Below w0.heap.size w0 W) => (hx.below hb0).below h)
  have HO := Lib.hid (fun (W : World) (h : Below w0.heap.size w0 W) => (ho.below hb0).below h)
  have HX' := Lib.hid (fun (W : World) (h : Below w0.heap.size w0 W) => (hx'.below hb0).below h)
  have HO' := Lib.hid (fun (W : World) (h : Below w0.heap.size w0 W) => (ho'.below hb0).below h)
  have HW0 := Lib.hid hw0
  have HB0 := Lib.hid hb0
  have HG := Lib.hid hG
  have HG' := Lib.hid hG'
  have HR := Lib.hid hR
  have HZ := Lib.hid hz0
  have HV := Lib.hid (show vld2m i st nx ot i' st' nx' ot' = 0 by unfold vld2m; rw [if_pos hM.vld]; exact hM'.vld)
  have t1 : ((i : Int) != (i' : Int)) = true := by simp; omega
  have t2 : (i != i') = true := by simpa using hne
  have hi2 := hM.i2
  have hi2' := hM'.i2
  clear hM hM' hne
  clear hw0 hb0 hG hG' hR hz0 hx ho hx' ho'
  rw [HW0.out] at k0 k1 k2 k3 j0 j1 j2 j3
  go_enter Try.func32, Try.ntmps32
  go_wp2_with fail
  rw [← HW0.out]
  refine (pcheckm _ _ _ _ _ _ _ _ _ _ _ _ _ _ _ _ _ _ _ _ _ (HX.out _ (Below.refl _ _)) (HO.out _ (Below.refl _ _)) (HX'.out _ (Below.refl _ _)) (HO'.out _ (Below.refl _ _))).mono ?_
  rintro e w1 ⟨rfl, b1⟩
  rw [HV.out]
  have HB1 := Lib.hid b1
  have HRr := Lib.hid (HR.out.on b1)
  obtain ⟨q0, q1, q2, q3, z0, z1, z2, z3⟩ := HRr.out.cells
  clear k0 k1 k2 k3 j0 j1 j2 j3
  obtain ⟨k0, k1, k2, k3, _⟩ := (HG.out.on b1).cells
  obtain ⟨j0, j1, j2, j3, _⟩ := (HG'.out.on b1).cells
  clear b1
  go_wp2_with fail
  refine bodyPost_ret (results_mealy rfl _ _ (w.heap.size + 1 + 1) (.int .i64 0) (.int .i64 0) (.slice none 0 0) (.slice none 0 0) rfl (HRr.out.set4 _ _ _ _)) rfl ?_
  exact ⟨rfl, below_set4 (by omega) (bt HB0.out HB1.out) _ _ _ _⟩
set_option maxHeartbeats 4000000 in
set_option maxRecDepth 100000 in
theorem pproduct (i st n st' n' : Nat) (A B A' B' : Option Addr) (c d c' d' : Nat) (nx ot nx' ot' : List (List Int)) (w : World) (hx : Lists w A n nx) (ho : Lists w B n ot) (hx' : Lists w A' n' nx') (ho' : Lists w B' n' ot') (hM : Mok i st n nx ot) (hM' : Mok i st' n' nx' ot') :
    Calls Try.prog 32 #[.agg #[.int .i64 i, .int .i64 st, .slice A n c, .slice B n d], .agg #[.int .i64 i, .int .i64 st', .slice A' n' c', .slice B' n' d']] w fun e w' =>
      MacP w.heap.size i (autN (prF nx nx') i (fdG (prF nx nx') i n n' st st')) (outN (prO ot ot' (grt ot')) i (fdG (prF nx nx') i n n' st st')) (fdG (prF nx nx') i n n' st st').length (Fits (prO ot ot' (grt ot')) i (fdG (prF nx nx') i n n' st st')) e w' ∧ Below w.heap.size w w' := by
  obtain ⟨w0, hw0, hb0, hG, hG', hR, hz0⟩ := three_boxesM w i st i st' A B A' B' n c n d n' c' n' d'
  obtain ⟨k0, k1, k2, k3, _⟩ := hG.cells
  obtain ⟨j0, j1, j2, j3, _⟩ := hG'.cells
  have HX := Lib.hid (fun (W : World) (h : Below w0.heap.size w0 W) => (hx.below hb0).below h)
  have HO := Lib.hid (fun (W : World) (h : Below w0.heap.size w0 W) => (ho.below hb0).below h)
  have HX' := Lib.hid (fun (W : World) (h : Below w0.heap.size w0 W) => (hx'.below hb0).below h)
  have HO' := Lib.hid (fun (W : World) (h : Below w0.heap.size w0 W) => (ho'.below hb0).below h)
  have HW0 := Lib.hid hw0
  have HB0 := Lib.hid hb0
  have HG := Lib.hid hG
  have HG' := Lib.hid hG'
  have HR := Lib.hid hR
  have HZ := Lib.hid hz0
  have HV := Lib.hid (show vld2m i st nx ot i st' nx' ot' = 0 by unfold vld2m; rw [if_pos hM.vld]; exact hM'.vld)
  have hi1 := hM.i1
  have hi2 := hM.i2
  have hi1' := hM'.i1
  have hi2' := hM'.i2
  have hn2 := hM.n2
  have hn2' := hM'.n2
  have hst := hM.st
  have hst' := hM'.st
  have hgr := hM.grt_le
  have hgr' := hM'.grt_le
  have HM := Lib.hid hM
  have HM' := Lib.hid hM'
  obtain ⟨wd, hwd⟩ : ∃ wd, wd = 1 + grt ot' := ⟨_, rfl⟩
  have ew : (1 : Int) + (grt ot' : Int) = (wd : Int) := by omega
  have hwd2 : wd ≤ 1048577 := by omega
  have HWD := Lib.hid hwd
  clear hwd
  have hgb : True := trivial
  clear hw0 hb0 hG hG' hR hz0 hx ho hx' ho' hM hM'
  rw [HW0.out] at k0 k1 k2 k3 j0 j1 j2 j3
  go_enter Try.func32, Try.ntmps32
  go_wp2_with fail
  rw [← HW0.out]
  refine (pcheckm _ _ _ _ _ _ _ _ _ _ _ _ _ _ _ _ _ _ _ _ _ (HX.out _ (Below.refl _ _)) (HO.out _ (Below.refl _ _)) (HX'.out _ (Below.refl _ _)) (HO'.out _ (Below.refl _ _))).mono ?_
  rintro e w1 ⟨rfl, b1⟩
  rw [HV.out]
  have HB1 := Lib.hid b1
  clear k0 k1 k2 k3 j0 j1 j2 j3
  obtain ⟨k0, k1, k2, k3, _⟩ := (HG.out.on b1).cells
  obtain ⟨j0, j1, j2, j3, _⟩ := (HG'.out.on b1).cells
  clear b1
  have HGB := Lib.hid hgb
  clear hgb
  go_wp2_with fail
  refine (pgreatest i st' n' A' B' c' d' nx' ot' w1 (HX'.out _ HB1.out) (HO'.out _ HB1.out) HM'.out).mono ?_
  rintro e w2 ⟨rfl, b2⟩
  obtain ⟨w3, hw3⟩ : ∃ w3, w3 = w2.alloc (.cells #[.int .i64 (wd : Nat)] 3) := ⟨_, rfl⟩
  have b23 : Below w2.heap.size w2 w3 := by rw [hw3]; exact alloc_below _ _
  have b3 := bt HB1.out (bt b2 b23)
  have hc3 : w3.heap[w2.heap.size]? = some (.cells #[.int .i64 (wd : Nat)] 3 (0, 0)) := by rw [hw3]; exact heap_alloc_new _ _
  have hcw := cell_of_row w3 w2.heap.size 0 _ _ (0, 0) hc3
  clear k0 k1 k2 k3 j0 j1 j2 j3
  obtain ⟨k0, k1, k2, k3, _⟩ := (HG.out.on b3).cells
  obtain ⟨j0, j1, j2, j3, _⟩ := (HG'.out.on b3).cells
  have HW3 := Lib.hid hw3
  have hg3 := HG.out.on b3
  have hg3' := HG'.out.on b3

  have HBX := Lib.hid (show Below w0.heap.size w0 w3 from b3)
  have hSO : StepO 66 69 #[.pointer (some ⟨w.heap.size, 0, none⟩), .pointer (some ⟨w.heap.size + 1, 0, none⟩)] #[.pointer (some ⟨w2.heap.size, 0, none⟩)] (prF nx nx') (prO ot ot' (grt ot')) i n n' w3 := ⟨enters_of Try.func66 (by kernel_rfl) rfl, enters_of Try.func69 (by kernel_rfl) rfl, fun p q x hp hq hx => ⟨true, oM ot p x, true, oM ot' q x,
    fun W hW => by
      have h1 := pnumber w2.heap.size (oM ot p x) (oM ot' q x) wd true true W ((hW.cell (p := ⟨w2.heap.size, 0, none⟩) (heap_lt hc3)).trans hcw) (HM.out.oM_le hp hx) (HM'.out.oM_le hq hx) hwd2
      rw [show prO ot ot' (grt ot') (p, q) x = oM ot p x * wd + oM ot' q x by show oM ot p x * (1 + grt ot') + oM ot' q x = _; rw [← HWD.out]]
      exact h1,
    fun W hW => pstep1 w.heap.size (w.heap.size + 1) i st n i st' n' A B A' B' c d c' d' nx ot nx' ot' p q x W HM.out HM'.out (hg3.on hW) (hg3'.on hW) (HX.out _ (bt HBX.out hW)) (HO.out _ (bt HBX.out hW)) (HX'.out _ (bt HBX.out hW)) (HO'.out _ (bt HBX.out hW)) hp hq hx hx⟩⟩
  have HMC := Lib.hid (pmachine 66 69 #[.pointer (some ⟨w.heap.size, 0, none⟩), .pointer (some ⟨w.heap.size + 1, 0, none⟩)] #[.pointer (some ⟨w2.heap.size, 0, none⟩)] (prF nx nx') (prO ot ot' (grt ot')) i n n' st st' w3 (pr_stp HM.out HM'.out) hst hst' (by omega) (by omega) (by omega) (by omega) (fun p q x hp hq hx => by
    have h1 := HM.out.oM_le hp hx
    have h2 := HM'.out.oM_le hq hx
    have h3 : oM ot p x * (1 + grt ot') ≤ 1048576 * 1048577 := Nat.mul_le_mul h1 (by omega)
    show oM ot p x * (1 + grt ot') + oM ot' q x ≤ _
    omega) hSO)
  have HRr := Lib.hid (HR.out.on HBX.out)
  rw [hw3] at k0 k1 k2 k3 j0 j1 j2 j3
  clear hw3 b23 b3 hc3 hcw hg3 hg3' b2
  go_wp2_with fail
  rw [← HW3.out]
  refine HMC.out.mono ?_
  rintro e w5 ⟨hA, b5⟩
  have b05 := bt HBX.out b5
  have hzz := HZ.out
  have HR5 := Lib.hid (HR.out.on b05)
  obtain ⟨q0, q1, q2, q3, z0, z1, z2, z3⟩ := HR5.out.cells
  have HB05 := Lib.hid (bt HB0.out b05)
  have hz5 := HBX.out.size
  have HZ5 := Lib.hid (show w.heap.size ≤ w3.heap.size by omega)
  clear b5 b05 hSO
  rcases hA with ⟨hok, A5, c5, B5, d5, rfl, o5, p5⟩ | ⟨hok, rfl⟩
  · have HOK := Lib.hid hok
    have HO5 := Lib.hid o5
    have HP5 := Lib.hid p5
    clear hok o5 p5
    go_wp2_with fail
    refine bodyPost_ret (results_mealy rfl _ _ (w.heap.size + 1 + 1) _ _ _ _ rfl (HR5.out.set4 _ _ _ _)) rfl ?_
    exact ⟨.inl ⟨HOK.out, A5, c5, B5, d5, rfl, (HO5.out.keptT (HR5.out.set4' _ _ _ _ (by decide)) (HR5.out.set4' _ _ _ _ (by decide))).lower HZ5.out, (HP5.out.keptT (HR5.out.set4' _ _ _ _ (by decide)) (HR5.out.set4' _ _ _ _ (by decide))).lower HZ5.out⟩, below_set4 (by omega) HB05.out _ _ _ _⟩
  · have HOK := Lib.hid hok
    clear hok
    go_wp2_with fail
    refine bodyPost_ret (results_mealy rfl _ _ (w.heap.size + 1 + 1) _ _ _ _ rfl (HR5.out.set4 _ _ _ _)) rfl ?_
    exact ⟨MacP.bad HOK.out, below_set4 (by omega) HB05.out _ _ _ _⟩
end Go.Proofs.Ytogcecfeofbbnaa
end

section
/- Parallel, Cascade of the program. -/
namespace Go.Proofs.Ytogcecfeofbbnaa
open Go.RowKit Go.Shelf
attribute [local go_sem] run_storeFn

set_option maxHeartbeats 2000000 in
set_option maxRecDepth 100000 in
theorem pparallel_bad (i st i' st' : Int) (n m n' m' : Nat) (A B A' B' : Option Addr) (c d c' d' : Nat) (nx ot nx' ot' : List (List Int)) (w : World) (hx : Lists w A n nx) (ho : Lists w B m ot) (hx' : Lists w A' n' nx') (ho' : Lists w B' m' ot') (hv : ¬ vld2m i st nx ot i' st' nx' ot' = 0) :
    Calls Try.prog 34 #[.agg #[.int .i64 i, .int .i64 st, .slice A n c, .slice B m d], .agg #[.int .i64 i', .int .i64 st', .slice A' n' c', .slice B' m' d']] w fun e w' => e = NoM (vld2m i st nx ot i' st' nx' ot') ∧ Below w.heap.size w w' := by
  obtain ⟨w0, hw0, hb0, hG, hG', hR, hz0⟩ := three_boxesM w i st i' st' A B A' B' n c m d n' c' m' d'
  obtain ⟨k0, k1, k2, k3, _⟩ := hG.cells
  obtain ⟨j0, j1, j2, j3, _⟩ := hG'.cells
  have HX := Lib.hid (fun (W : World) (h : Below w0.heap.size w0 W) => (hx.below hb0).below h)
  have HO := Lib.hid (fun (W : World) (h : Below w0.heap.size w0 W) => (ho.below hb0).below h)
  have HX' := Lib.hid (fun (W : World) (h : Below w0.heap.size w0 W) => (hx'.below hb0).below h)
  have HO' := Lib.hid (fun (W : World) (h : Below w0.heap.size w0 W) => (ho'.below hb0).below h)
  have HW0 := Lib.hid hw0
  have HB0 := Lib.hid hb0
  have HG := Lib.hid hG
  have HG' := Lib.hid hG'
  have HR := Lib.hid hR
  have HZ := Lib.hid hz0
  obtain ⟨x, hx0, hxe⟩ : ∃ x, ¬ x = 0 ∧ vld2m i st nx ot i' st' nx' ot' = x := ⟨_, hv, rfl⟩
  have HXE := Lib.hid hxe
  have t1 : (x != 0) = true := by simpa using hx0
  clear hv hxe
  clear hw0 hb0 hG hG' hR hz0 hx ho hx' ho'
  rw [HW0.out] at k0 k1 k2 k3 j0 j1 j2 j3
  go_enter Try.func34, Try.ntmps34
  go_wp2_with fail
  rw [← HW0.out]
  refine (pcheckm _ _ _ _ _ _ _ _ _ _ _ _ _ _ _ _ _ _ _ _ _ (HX.out _ (Below.refl _ _)) (HO.out _ (Below.refl _ _)) (HX'.out _ (Below.refl _ _)) (HO'.out _ (Below.refl _ _))).mono ?_
  rintro e w1 ⟨rfl, b1⟩
  rw [HXE.out]
  have HB1 := Lib.hid b1
  have HRr := Lib.hid (HR.out.on b1)
  obtain ⟨q0, q1, q2, q3, z0, z1, z2, z3⟩ := HRr.out.cells
  clear k0 k1 k2 k3 j0 j1 j2 j3
  obtain ⟨k0, k1, k2, k3, _⟩ := (HG.out.on b1).cells
  obtain ⟨j0, j1, j2, j3, _⟩ := (HG'.out.on b1).cells
  clear b1
  go_wp2_with fail
  refine bodyPost_ret (results_mealy rfl _ _ (w.heap.size + 1 + 1) (.int .i64 0) (.int .i64 0) (.slice none 0 0) (.slice none 0 0) rfl (HRr.out.set4 _ _ _ _)) rfl ?_
  exact ⟨by rw [HXE.out]; rfl, below_set4 (by omega) (bt HB0.out HB1.out) _ _ _ _⟩
set_option maxHeartbeats 2000000 in
set_option maxRecDepth 100000 in
theorem pparallel_big (i st n i' st' n' : Nat) (A B A' B' : Option Addr) (c d c' d' : Nat) (nx ot nx' ot' : List (List Int)) (w : World) (hx : Lists w A n nx) (ho : Lists w B n ot) (hx' : Lists w A' n' nx') (ho' : Lists w B' n' ot') (hM : Mok i st n nx ot) (hM' : Mok i' st' n' nx' ot') (hbig : 64 < i + i') :
    Calls Try.prog 34 #[.agg #[.int .i64 i, .int .i64 st, .slice A n c, .slice B n d], .agg #[.int .i64 i', .int .i64 st', .slice A' n' c', .slice B' n' d']] w fun e w' => e = NoM (2) ∧ Below w.heap.size w w' := by
  obtain ⟨w0, hw0, hb0, hG, hG', hR, hz0⟩ := three_boxesM w i st i' st' A B A' B' n c n d n' c' n' d'
  obtain ⟨k0, k1, k2, k3, _⟩ := hG.cells
  obtain ⟨j0, j1, j2, j3, _⟩ := hG'.cells
  have HX := Lib.hid (fun (W : World) (h : Below w0.heap.size w0 W) => (hx.below hb0).below h)
  have HO := Lib.hid (fun (W : World) (h : Below w0.heap.size w0 W) => (ho.below hb0).below h)
  have HX' := Lib.hid (fun (W : World) (h : Below w0.heap.size w0 W) => (hx'.below hb0).below h)
  have HO' := Lib.hid (fun (W : World) (h : Below w0.heap.size w0 W) => (ho'.below hb0).below h)
  have HW0 := Lib.hid hw0
  have HB0 := Lib.hid hb0
  have HG := Lib.hid hG
  have HG' := Lib.hid hG'
  have HR := Lib.hid hR
  have HZ := Lib.hid hz0
  have HV := Lib.hid (show vld2m i st nx ot i' st' nx' ot' = 0 by unfold vld2m; rw [if_pos hM.vld]; exact hM'.vld)
  have hi2 := hM.i2
  have hi2' := hM'.i2
  obtain ⟨sI, hsI⟩ : ∃ sI, sI = i + i' := ⟨_, rfl⟩
  have es : (i : Int) + (i' : Int) = (sI : Int) := by omega
  have t1 : decide ((64 : Int) < (sI : Int)) = true := by simp; omega
  clear hM hM' hbig hsI
  clear hw0 hb0 hG hG' hR hz0 hx ho hx' ho'
  rw [HW0.out] at k0 k1 k2 k3 j0 j1 j2 j3
  go_enter Try.func34, Try.ntmps34
  go_wp2_with fail
  rw [← HW0.out]
  refine (pcheckm _ _ _ _ _ _ _ _ _ _ _ _ _ _ _ _ _ _ _ _ _ (HX.out _ (Below.refl _ _)) (HO.out _ (Below.refl _ _)) (HX'.out _ (Below.refl _ _)) (HO'.out _ (Below.refl _ _))).mono ?_
  rintro e w1 ⟨rfl, b1⟩
  rw [HV.out]
  have HB1 := Lib.hid b1
  have HRr := Lib.hid (HR.out.on b1)
  obtain ⟨q0, q1, q2, q3, z0, z1, z2, z3⟩ := HRr.out.cells
  clear k0 k1 k2 k3 j0 j1 j2 j3
  obtain ⟨k0, k1, k2, k3, _⟩ := (HG.out.on b1).cells
  obtain ⟨j0, j1, j2, j3, _⟩ := (HG'.out.on b1).cells
  clear b1
  go_wp2_with fail
  refine bodyPost_ret (results_mealy rfl _ _ (w.heap.size + 1 + 1) (.int .i64 0) (.int .i64 0) (.slice none 0 0) (.slice none 0 0) rfl (HRr.out.set4 _ _ _ _)) rfl ?_
  exact ⟨rfl, below_set4 (by omega) (bt HB0.out HB1.out) _ _ _ _⟩
set_option maxHeartbeats 4000000 in
set_option maxRecDepth 100000 in
theorem pparallel (i st n i' st' n' sI : Nat) (A B A' B' : Option Addr) (c d c' d' : Nat) (nx ot nx' ot' : List (List Int)) (w : World) (hx : Lists w A n nx) (ho : Lists w B n ot) (hx' : Lists w A' n' nx') (ho' : Lists w B' n' ot') (hM : Mok i st n nx ot) (hM' : Mok i' st' n' nx' ot') (hsI : sI = i + i') (hs64 : sI ≤ 64) :
    Calls Try.prog 34 #[.agg #[.int .i64 i, .int .i64 st, .slice A n c, .slice B n d], .agg #[.int .i64 i', .int .i64 st', .slice A' n' c', .slice B' n' d']] w fun e w' =>
      MacP w.heap.size sI (autN (paF i nx nx') sI (fdG (paF i nx nx') sI n n' st st')) (outN (paO i ot ot' (grt ot)) sI (fdG (paF i nx nx') sI n n' st st')) (fdG (paF i nx nx') sI n n' st st').length (Fits (paO i ot ot' (grt ot)) sI (fdG (paF i nx nx') sI n n' st st')) e w' ∧ Below w.heap.size w w' := by
  obtain ⟨w0, hw0, hb0, hG, hG', hR, hz0⟩ := three_boxesM w i st i' st' A B A' B' n c n d n' c' n' d'
  obtain ⟨k0, k1, k2, k3, _⟩ := hG.cells
  obtain ⟨j0, j1, j2, j3, _⟩ := hG'.cells
  have HX := Lib.hid (fun (W : World) (h : Below w0.heap.size w0 W) => (hx.below hb0).below h)
  have HO := Lib.hid (fun (W : World) (h : Below w0.heap.size w0 W) => (ho.below hb0).below h)
  have HX' := Lib.hid (fun (W : World) (h : Below w0.heap.size w0 W) => (hx'.below hb0).below h)
  have HO' := Lib.hid (fun (W : World) (h : Below w0.heap.size w0 W) => (ho'.below hb0).below h)
  have HW0 := Lib.hid hw0
  have HB0 := Lib.hid hb0
  have HG := Lib.hid hG
  have HG' := Lib.hid hG'
  have HR := Lib.hid hR
  have HZ := Lib.hid hz0
  have HV := Lib.hid (show vld2m i st nx ot i' st' nx' ot' = 0 by unfold vld2m; rw [if_pos hM.vld]; exact hM'.vld)
  have hi1 := hM.i1
  have hi2 := hM.i2
  have hi1' := hM'.i1
  have hi2' := hM'.i2
  have hn2 := hM.n2
  have hn2' := hM'.n2
  have hst := hM.st
  have hst' := hM'.st
  have hgr := hM.grt_le
  have hgr' := hM'.grt_le
  have HM := Lib.hid hM
  have HM' := Lib.hid hM'
  obtain ⟨wd, hwd⟩ : ∃ wd, wd = 1 + grt ot := ⟨_, rfl⟩
  have ew : (1 : Int) + (grt ot : Int) = (wd : Int) := by omega
  have es : (i : Int) + (i' : Int) = (sI : Int) := by omega
  have t1 : decide ((64 : Int) < (sI : Int)) = false := by simp; omega
  have hwd2 : wd ≤ 1048577 := by omega
  have HWD := Lib.hid hwd
  have HSI := Lib.hid hsI
  have hsi1 : 1 ≤ sI := by omega
  clear hwd hsI
  have hgb : True := trivial
  clear hw0 hb0 hG hG' hR hz0 hx ho hx' ho' hM hM'
  rw [HW0.out] at k0 k1 k2 k3 j0 j1 j2 j3
  go_enter Try.func34, Try.ntmps34
  go_wp2_with fail
  rw [← HW0.out]
  refine (pcheckm _ _ _ _ _ _ _ _ _ _ _ _ _ _ _ _ _ _ _ _ _ (HX.out _ (Below.refl _ _)) (HO.out _ (Below.refl _ _)) (HX'.out _ (Below.refl _ _)) (HO'.out _ (Below.refl _ _))).mono ?_
  rintro e w1 ⟨rfl, b1⟩
  rw [HV.out]
  have HB1 := Lib.hid b1
  clear k0 k1 k2 k3 j0 j1 j2 j3
  obtain ⟨k0, k1, k2, k3, _⟩ := (HG.out.on b1).cells
  obtain ⟨j0, j1, j2, j3, _⟩ := (HG'.out.on b1).cells
  clear b1
  have HGB := Lib.hid hgb
  clear hgb
  go_wp2_with fail
  refine (pgreatest i st n A B c d nx ot w1 (HX.out _ HB1.out) (HO.out _ HB1.out) HM.out).mono ?_
  rintro e w2 ⟨rfl, b2⟩
  obtain ⟨w3, hw3⟩ : ∃ w3, w3 = w2.alloc (.cells #[.int .i64 (wd : Nat)] 3) := ⟨_, rfl⟩
  have b23 : Below w2.heap.size w2 w3 := by rw [hw3]; exact alloc_below _ _
  have b3 := bt HB1.out (bt b2 b23)
  have hc3 : w3.heap[w2.heap.size]? = some (.cells #[.int .i64 (wd : Nat)] 3 (0, 0)) := by rw [hw3]; exact heap_alloc_new _ _
  have hcw := cell_of_row w3 w2.heap.size 0 _ _ (0, 0) hc3
  clear k0 k1 k2 k3 j0 j1 j2 j3
  obtain ⟨k0, k1, k2, k3, _⟩ := (HG.out.on b3).cells
  obtain ⟨j0, j1, j2, j3, _⟩ := (HG'.out.on b3).cells
  have HW3 := Lib.hid hw3
  have hg3 := HG.out.on b3
  have hg3' := HG'.out.on b3

  have HBX := Lib.hid (show Below w0.heap.size w0 w3 from b3)
  have hSO : StepO 73 74 #[.pointer (some ⟨w.heap.size, 0, none⟩), .pointer (some ⟨w.heap.size + 1, 0, none⟩)] #[.pointer (some ⟨w2.heap.size, 0, none⟩)] (paF i nx nx') (paO i ot ot' (grt ot)) sI n n' w3 := ⟨enters_of Try.func73 (by kernel_rfl) rfl, enters_of Try.func74 (by kernel_rfl) rfl, fun p q x hp hq hx => by
    by_cases hxi : x < i
    · refine ⟨true, oM ot p x, false, 0, fun W hW => ?_, fun W hW => ?_⟩
      · have h1 := anumber1 w2.heap.size (oM ot p x) wd true W ((hW.cell (p := ⟨w2.heap.size, 0, none⟩) (heap_lt hc3)).trans hcw)
        rw [show paO i ot ot' (grt ot) (p, q) x = oM ot p x by unfold paO; rw [if_pos hxi]]
        exact h1
      · have h1 := astep1 w.heap.size (w.heap.size + 1) i st n i' st' n' A B A' B' c d c' d' nx ot nx' ot' p q x W HM.out HM'.out (hg3.on hW) (hg3'.on hW) (HX.out _ (bt HBX.out hW)) (HO.out _ (bt HBX.out hW)) (HX'.out _ (bt HBX.out hW)) (HO'.out _ (bt HBX.out hW)) hp hq hxi
        rw [show paF i nx nx' (p, q) x = (nN nx p x, q) by unfold paF; rw [if_pos hxi]]
        exact h1
    · have hxb : x - i < i' := by have := HSI.out; omega
      refine ⟨false, 0, true, oM ot' q (x - i), fun W hW => ?_, fun W hW => ?_⟩
      · have h1 := anumber2 w2.heap.size (oM ot' q (x - i)) wd W ((hW.cell (p := ⟨w2.heap.size, 0, none⟩) (heap_lt hc3)).trans hcw) (HM'.out.oM_le hq hxb) hwd2
        rw [show paO i ot ot' (grt ot) (p, q) x = wd + oM ot' q (x - i) by unfold paO; rw [if_neg hxi, HWD.out]]
        exact h1
      · have h1 := astep2 w.heap.size (w.heap.size + 1) i st n i' st' n' A B A' B' c d c' d' nx ot nx' ot' p q x W HM.out HM'.out (hg3.on hW) (hg3'.on hW) (HX.out _ (bt HBX.out hW)) (HO.out _ (bt HBX.out hW)) (HX'.out _ (bt HBX.out hW)) (HO'.out _ (bt HBX.out hW)) hp hq hxi hxb (by omega)
        rw [show paF i nx nx' (p, q) x = (p, nN nx' q (x - i)) by unfold paF; rw [if_neg hxi]]
        exact h1⟩
  have HMC := Lib.hid (pmachine 73 74 #[.pointer (some ⟨w.heap.size, 0, none⟩), .pointer (some ⟨w.heap.size + 1, 0, none⟩)] #[.pointer (some ⟨w2.heap.size, 0, none⟩)] (paF i nx nx') (paO i ot ot' (grt ot)) sI n n' st st' w3 (by rw [HSI.out]; exact pa_stp HM.out HM'.out) hst hst' (by omega) (by omega) (by omega) (by omega) (fun p q x hp hq hx => by
    have hsi := HSI.out
    by_cases hxi : x < i
    · rw [show paO i ot ot' (grt ot) (p, q) x = oM ot p x by unfold paO; rw [if_pos hxi]]
      have := HM.out.oM_le hp hxi
      omega
    · rw [show paO i ot ot' (grt ot) (p, q) x = 1 + grt ot + oM ot' q (x - i) by unfold paO; rw [if_neg hxi]]
      have := HM'.out.oM_le hq (show x - i < i' by omega)
      omega) hSO)
  have HRr := Lib.hid (HR.out.on HBX.out)
  rw [hw3] at k0 k1 k2 k3 j0 j1 j2 j3
  clear hw3 b23 b3 hc3 hcw hg3 hg3' b2
  go_wp2_with fail
  rw [← HW3.out]
  refine HMC.out.mono ?_
  rintro e w5 ⟨hA, b5⟩
  have b05 := bt HBX.out b5
  have hzz := HZ.out
  have HR5 := Lib.hid (HR.out.on b05)
  obtain ⟨q0, q1, q2, q3, z0, z1, z2, z3⟩ := HR5.out.cells
  have HB05 := Lib.hid (bt HB0.out b05)
  have hz5 := HBX.out.size
  have HZ5 := Lib.hid (show w.heap.size ≤ w3.heap.size by omega)
  clear b5 b05 hSO
  rcases hA with ⟨hok, A5, c5, B5, d5, rfl, o5, p5⟩ | ⟨hok, rfl⟩
  · have HOK := Lib.hid hok
    have HO5 := Lib.hid o5
    have HP5 := Lib.hid p5
    clear hok o5 p5
    go_wp2_with fail
    refine bodyPost_ret (results_mealy rfl _ _ (w.heap.size + 1 + 1) _ _ _ _ rfl (HR5.out.set4 _ _ _ _)) rfl ?_
    exact ⟨.inl ⟨HOK.out, A5, c5, B5, d5, rfl, (HO5.out.keptT (HR5.out.set4' _ _ _ _ (by decide)) (HR5.out.set4' _ _ _ _ (by decide))).lower HZ5.out, (HP5.out.keptT (HR5.out.set4' _ _ _ _ (by decide)) (HR5.out.set4' _ _ _ _ (by decide))).lower HZ5.out⟩, below_set4 (by omega) HB05.out _ _ _ _⟩
  · have HOK := Lib.hid hok
    clear hok
    go_wp2_with fail
    refine bodyPost_ret (results_mealy rfl _ _ (w.heap.size + 1 + 1) _ _ _ _ rfl (HR5.out.set4 _ _ _ _)) rfl ?_
    exact ⟨MacP.bad HOK.out, below_set4 (by omega) HB05.out _ _ _ _⟩
end Go.Proofs.Ytogcecfeofbbnaa
end

section
/- Parallel, Cascade of the program. -/
namespace Go.Proofs.Ytogcecfeofbbnaa
open Go.RowKit Go.Shelf
attribute [local go_sem] run_storeFn

set_option maxHeartbeats 2000000 in
set_option maxRecDepth 100000 in
theorem pcascade_bad (i st i' st' : Int) (n m n' m' : Nat) (A B A' B' : Option Addr) (c d c' d' : Nat) (nx ot nx' ot' : List (List Int)) (w : World) (hx : Lists w A n nx) (ho : Lists w B m ot) (hx' : Lists w A' n' nx') (ho' : Lists w B' m' ot') (hv : ¬ vld2m i st nx ot i' st' nx' ot' = 0) :
    Calls Try.prog 36 #[.agg #[.int .i64 i, .int .i64 st, .slice A n c, .slice B m d], .agg #[.int .i64 i', .int .i64 st', .slice A' n' c', .slice B' m' d']] w fun e w' => e = NoM (vld2m i st nx ot i' st' nx' ot') ∧ Below w.heap.size w w' := by
  obtain ⟨w0, hw0, hb0, hG, hG', hR, hz0⟩ := three_boxesM w i st i' st' A B A' B' n c m d n' c' m' d'
  obtain ⟨k0, k1, k2, k3, _⟩ := hG.cells
  obtain ⟨j0, j1, j2, j3, _⟩ := hG'.cells
  have HX := Lib.hid (fun (W : World) (h : Below w0.heap.size w0 W) => (hx.below hb0).below h)
  have HO := Lib.hid (fun (W : World) (h : Below w0.heap.size w0 W) => (ho.below hb0).below h)
  have HX' := Lib.hid (fun (W : World) (h : Below w0.heap.size w0 W) => (hx'.below hb0).below h)
  have HO' := Lib.hid (fun (W : World) (h : Below w0.heap.size w0 W) => (ho'.below hb0).below h)
  have HW0 := Lib.hid hw0
  have HB0 := Lib.hid hb0
  have HG := Lib.hid hG
  have HG' := Lib.hid hG'
  have HR := Lib.hid hR
  have HZ := Lib.hid hz0
  obtain ⟨x, hx0, hxe⟩ : ∃ x, ¬ x = 0 ∧ vld2m i st nx ot i' st' nx' ot' = x := ⟨_, hv, rfl⟩
  have HXE := Lib.hid hxe
  have t1 : (x != 0) = true := by simpa using hx0
  clear hv hxe
  clear hw0 hb0 hG hG' hR hz0 hx ho hx' ho'
  rw [HW0.out] at k0 k1 k2 k3 j0 j1 j2 j3
  go_enter Try.func36, Try.ntmps36
  go_wp2_with fail
  rw [← HW0.out]
  refine (pcheckm _ _ _ _ _ _ _ _ _ _ _ _ _ _ _ _ _ _ _ _ _ (HX.out _ (Below.refl _ _)) (HO.out _ (Below.refl _ _)) (HX'.out _ (Below.refl _ _)) (HO'.out _ (Below.refl _ _))).mono ?_
  rintro e w1 ⟨rfl, b1⟩
  rw [HXE.out]
  have HB1 := Lib.hid b1
  have HRr := Lib.hid (HR.out.on b1)
  obtain ⟨q0, q1, q2, q3, z0, z1, z2, z3⟩ := HRr.out.cells
  clear k0 k1 k2 k3 j0 j1 j2 j3
  obtain ⟨k0, k1, k2, k3, _⟩ := (HG.out.on b1).cells
  obtain ⟨j0, j1, j2, j3, _⟩ := (HG'.out.on b1).cells
  clear b1
  go_wp2_with fail
  refine bodyPost_ret (results_mealy rfl _ _ (w.heap.size + 1 + 1) (.int .i64 0) (.int .i64 0) (.slice none 0 0) (.slice none 0 0) rfl (HRr.out.set4 _ _ _ _)) rfl ?_
  exact ⟨by rw [HXE.out]; rfl, below_set4 (by omega) (bt HB0.out HB1.out) _ _ _ _⟩
set_option maxHeartbeats 2000000 in
set_option maxRecDepth 100000 in
theorem pcascade_bad2 (i st n i' st' n' : Nat) (A B A' B' : Option Addr) (c d c' d' : Nat) (nx ot nx' ot' : List (List Int)) (w : World) (hx : Lists w A n nx) (ho : Lists w B n ot) (hx' : Lists w A' n' nx') (ho' : Lists w B' n' ot') (hM : Mok i st n nx ot) (hM' : Mok i' st' n' nx' ot') (hgi : ¬ grt ot < i') :
    Calls Try.prog 36 #[.agg #[.int .i64 i, .int .i64 st, .slice A n c, .slice B n d], .agg #[.int .i64 i', .int .i64 st', .slice A' n' c', .slice B' n' d']] w fun e w' => e = NoM (2) ∧ Below w.heap.size w w' := by
  obtain ⟨w0, hw0, hb0, hG, hG', hR, hz0⟩ := three_boxesM w i st i' st' A B A' B' n c n d n' c' n' d'
  obtain ⟨k0, k1, k2, k3, _⟩ := hG.cells
  obtain ⟨j0, j1, j2, j3, _⟩ := hG'.cells
  have HX := Lib.hid (fun (W : World) (h : Below w0.heap.size w0 W) => (hx.below hb0).below h)
  have HO := Lib.hid (fun (W : World) (h : Below w0.heap.size w0 W) => (ho.below hb0).below h)
  have HX' := Lib.hid (fun (W : World) (h : Below w0.heap.size w0 W) => (hx'.below hb0).below h)
  have HO' := Lib.hid (fun (W : World) (h : Below w0.heap.size w0 W) => (ho'.below hb0).below h)
  have HW0 := Lib.hid hw0
  have HB0 := Lib.hid hb0
  have HG := Lib.hid hG
  have HG' := Lib.hid hG'
  have HR := Lib.hid hR
  have HZ := Lib.hid hz0
  have HV := Lib.hid (show vld2m i st nx ot i' st' nx' ot' = 0 by unfold vld2m; rw [if_pos hM.vld]; exact hM'.vld)
  have t1 : decide (i' ≤ grt ot) = true := by simp; omega
  have t2 : decide ((i' : Int) ≤ (grt ot : Int)) = true := by simp; omega
  have hi2 := hM.i2
  have hi2' := hM'.i2
  have hgr := hM.grt_le
  have HM := Lib.hid hM
  clear hM hM' hgi
  clear hw0 hb0 hG hG' hR hz0 hx ho hx' ho'
  rw [HW0.out] at k0 k1 k2 k3 j0 j1 j2 j3
  go_enter Try.func36, Try.ntmps36
  go_wp2_with fail
  rw [← HW0.out]
  refine (pcheckm _ _ _ _ _ _ _ _ _ _ _ _ _ _ _ _ _ _ _ _ _ (HX.out _ (Below.refl _ _)) (HO.out _ (Below.refl _ _)) (HX'.out _ (Below.refl _ _)) (HO'.out _ (Below.refl _ _))).mono ?_
  rintro e w1 ⟨rfl, b1⟩
  rw [HV.out]
  have HB1 := Lib.hid b1
  have HRr := Lib.hid (HR.out.on b1)
  obtain ⟨q0, q1, q2, q3, z0, z1, z2, z3⟩ := HRr.out.cells
  clear k0 k1 k2 k3 j0 j1 j2 j3
  obtain ⟨k0, k1, k2, k3, _⟩ := (HG.out.on b1).cells
  obtain ⟨j0, j1, j2, j3, _⟩ := (HG'.out.on b1).cells
  clear b1
  have HSS := Lib.hid (show ∀ W : World, Below w1.heap.size w1 W → W.cell? ⟨w.heap.size, 0, none⟩ = some (.int .i64 i) ∧ W.cell? ⟨w.heap.size, 1, none⟩ = some (.int .i64 st) ∧ W.cell? ⟨w.heap.size, 2, none⟩ = some (.slice A n c) ∧ W.cell? ⟨w.heap.size, 3, none⟩ = some (.slice B n d) ∧ W.cell? ⟨w.heap.size + 1, 0, none⟩ = some (.int .i64 i') from fun W h => by
    obtain ⟨a0, a1, a2, a3, _⟩ := ((HG.out.on HB1.out).on h).cells
    obtain ⟨b0, _⟩ := ((HG'.out.on HB1.out).on h).cells
    exact ⟨a0, a1, a2, a3, b0⟩)
  have hbc : Below w1.heap.size w1 w1.drew := below_drewN (Below.refl _ _) 1
  go_wp2_with fail
  go_region_held3 (fun W => W.cell? ⟨w.heap.size, 0, none⟩ = some (.int .i64 i) ∧ W.cell? ⟨w.heap.size, 1, none⟩ = some (.int .i64 st) ∧ W.cell? ⟨w.heap.size, 2, none⟩ = some (.slice A n c) ∧ W.cell? ⟨w.heap.size, 3, none⟩ = some (.slice B n d) ∧ W.cell? ⟨w.heap.size + 1, 0, none⟩ = some (.int .i64 i'))
    (exact HSS.out _ hbc)
    ((go_at_call 68; refine (pgreatest i st n A B c d nx ot _ (HX.out _ (bt HB1.out hbc)) (HO.out _ (bt HB1.out hbc)) HM.out).mono ?_; rintro e w3 ⟨rfl, b3⟩; have hbc := bt hbc b3))
  have b03 := bt HB1.out hbc
  clear k0 k1 k2 k3 j0 j1 j2 j3 hbc b3
  clear q0 q1 q2 q3 z0 z1 z2 z3
  have HR3 := Lib.hid (HR.out.on b03)
  have HB3 := Lib.hid b03
  obtain ⟨q0, q1, q2, q3, z0, z1, z2, z3⟩ := HR3.out.cells
  clear b03
  go_wp2_with fail
  refine bodyPost_ret (results_mealy rfl _ _ (w.heap.size + 1 + 1) (.int .i64 0) (.int .i64 0) (.slice none 0 0) (.slice none 0 0) rfl (HR3.out.set4 _ _ _ _)) rfl ?_
  exact ⟨rfl, below_set4 (by omega) (bt HB0.out HB3.out) _ _ _ _⟩
set_option maxHeartbeats 4000000 in
set_option maxRecDepth 100000 in
theorem pcascade (i st n i' st' n' : Nat) (A B A' B' : Option Addr) (c d c' d' : Nat) (nx ot nx' ot' : List (List Int)) (w : World) (hx : Lists w A n nx) (ho : Lists w B n ot) (hx' : Lists w A' n' nx') (ho' : Lists w B' n' ot') (hM : Mok i st n nx ot) (hM' : Mok i' st' n' nx' ot') (hgi : grt ot < i') :
    Calls Try.prog 36 #[.agg #[.int .i64 i, .int .i64 st, .slice A n c, .slice B n d], .agg #[.int .i64 i', .int .i64 st', .slice A' n' c', .slice B' n' d']] w fun e w' =>
      MacP w.heap.size i (autN (caF nx ot nx') i (fdG (caF nx ot nx') i n n' st st')) (outN (caO ot ot') i (fdG (caF nx ot nx') i n n' st st')) (fdG (caF nx ot nx') i n n' st st').length (Fits (caO ot ot') i (fdG (caF nx ot nx') i n n' st st')) e w' ∧ Below w.heap.size w w' := by
  obtain ⟨w0, hw0, hb0, hG, hG', hR, hz0⟩ := three_boxesM w i st i' st' A B A' B' n c n d n' c' n' d'
  obtain ⟨k0, k1, k2, k3, _⟩ := hG.cells
  obtain ⟨j0, j1, j2, j3, _⟩ := hG'.cells
  have HX := Lib.hid (fun (W : World) (h : Below w0.heap.size w0 W) => (hx.below hb0).below h)
  have HO := Lib.hid (fun (W : World) (h : Below w0.heap.size w0 W) => (ho.below hb0).below h)
  have HX' := Lib.hid (fun (W : World) (h : Below w0.heap.size w0 W) => (hx'.below hb0).below h)
  have HO' := Lib.hid (fun (W : World) (h : Below w0.heap.size w0 W) => (ho'.below hb0).below h)
  have HW0 := Lib.hid hw0
  have HB0 := Lib.hid hb0
  have HG := Lib.hid hG
  have HG' := Lib.hid hG'
  have HR := Lib.hid hR
  have HZ := Lib.hid hz0
  have HV := Lib.hid (show vld2m i st nx ot i' st' nx' ot' = 0 by unfold vld2m; rw [if_pos hM.vld]; exact hM'.vld)
  have hi1 := hM.i1
  have hi2 := hM.i2
  have hi1' := hM'.i1
  have hi2' := hM'.i2
  have hn2 := hM.n2
  have hn2' := hM'.n2
  have hst := hM.st
  have hst' := hM'.st
  have hgr := hM.grt_le
  have hgr' := hM'.grt_le
  have HM := Lib.hid hM
  have HM' := Lib.hid hM'
  have t1 : decide (i' ≤ grt ot) = false := by simpa using hgi
  have t2 : decide ((i' : Int) ≤ (grt ot : Int)) = false := by simp; omega
  have HGI := Lib.hid (show ∀ s a, s < n → a < i → oM ot s a < i' from fun s a hs ha => Nat.lt_of_le_of_lt (hM.oM_grt hs ha) hgi)
  clear hgi
  clear hw0 hb0 hG hG' hR hz0 hx ho hx' ho' hM hM'
  rw [HW0.out] at k0 k1 k2 k3 j0 j1 j2 j3
  go_enter Try.func36, Try.ntmps36
  go_wp2_with fail
  rw [← HW0.out]
  refine (pcheckm _ _ _ _ _ _ _ _ _ _ _ _ _ _ _ _ _ _ _ _ _ (HX.out _ (Below.refl _ _)) (HO.out _ (Below.refl _ _)) (HX'.out _ (Below.refl _ _)) (HO'.out _ (Below.refl _ _))).mono ?_
  rintro e w1 ⟨rfl, b1⟩
  rw [HV.out]
  have HB1 := Lib.hid b1
  clear k0 k1 k2 k3 j0 j1 j2 j3
  obtain ⟨k0, k1, k2, k3, _⟩ := (HG.out.on b1).cells
  obtain ⟨j0, j1, j2, j3, _⟩ := (HG'.out.on b1).cells
  clear b1
  have HSS := Lib.hid (show ∀ W : World, Below w1.heap.size w1 W → W.cell? ⟨w.heap.size, 0, none⟩ = some (.int .i64 i) ∧ W.cell? ⟨w.heap.size, 1, none⟩ = some (.int .i64 st) ∧ W.cell? ⟨w.heap.size, 2, none⟩ = some (.slice A n c) ∧ W.cell? ⟨w.heap.size, 3, none⟩ = some (.slice B n d) ∧ W.cell? ⟨w.heap.size + 1, 0, none⟩ = some (.int .i64 i') from fun W h => by
    obtain ⟨a0, a1, a2, a3, _⟩ := ((HG.out.on HB1.out).on h).cells
    obtain ⟨b0, _⟩ := ((HG'.out.on HB1.out).on h).cells
    exact ⟨a0, a1, a2, a3, b0⟩)
  have hbc : Below w1.heap.size w1 w1.drew := below_drewN (Below.refl _ _) 1
  go_wp2_with fail
  go_region_held3 (fun W => W.cell? ⟨w.heap.size, 0, none⟩ = some (.int .i64 i) ∧ W.cell? ⟨w.heap.size, 1, none⟩ = some (.int .i64 st) ∧ W.cell? ⟨w.heap.size, 2, none⟩ = some (.slice A n c) ∧ W.cell? ⟨w.heap.size, 3, none⟩ = some (.slice B n d) ∧ W.cell? ⟨w.heap.size + 1, 0, none⟩ = some (.int .i64 i'))
    (exact HSS.out _ hbc)
    ((go_at_call 68; refine (pgreatest i st n A B c d nx ot _ (HX.out _ (bt HB1.out hbc)) (HO.out _ (bt HB1.out hbc)) HM.out).mono ?_; rintro e w3 ⟨rfl, b3⟩; have hbc := bt hbc b3))
  have b03 := bt HB1.out hbc
  clear k0 k1 k2 k3 j0 j1 j2 j3 hbc b3
  obtain ⟨k0, k1, k2, k3, _⟩ := (HG.out.on b03).cells
  obtain ⟨j0, j1, j2, j3, _⟩ := (HG'.out.on b03).cells
  have hg3 := HG.out.on b03
  have hg3' := HG'.out.on b03

  have HBX := Lib.hid (show Below w0.heap.size w0 w3 from b03)
  have hSO : StepO 75 76 #[.pointer (some ⟨w.heap.size, 0, none⟩), .pointer (some ⟨w.heap.size + 1, 0, none⟩)] #[] (caF nx ot nx') (caO ot ot') i n n' w3 := ⟨enters_of Try.func75 (by kernel_rfl) rfl, enters_of Try.func76 (by kernel_rfl) rfl, fun p q x hp hq hx => ⟨true, oM ot p x, true, oM ot' q (oM ot p x),
    fun W hW => cnumber (oM ot p x) (oM ot' q (oM ot p x)) true true W,
    fun W hW => cstep1 w.heap.size (w.heap.size + 1) i st n i' st' n' A B A' B' c d c' d' nx ot nx' ot' p q x W HM.out HM'.out (hg3.on hW) (hg3'.on hW) (HX.out _ (bt HBX.out hW)) (HO.out _ (bt HBX.out hW)) (HX'.out _ (bt HBX.out hW)) (HO'.out _ (bt HBX.out hW)) hp hq hx (HGI.out p x hp hx)⟩⟩
  have HMC := Lib.hid (pmachine 75 76 #[.pointer (some ⟨w.heap.size, 0, none⟩), .pointer (some ⟨w.heap.size + 1, 0, none⟩)] #[] (caF nx ot nx') (caO ot ot') i n n' st st' w3 (ca_stp HM.out HM'.out HGI.out) hst hst' (by omega) (by omega) (by omega) (by omega) (fun p q x hp hq hx => by
    have h2 := HM'.out.oM_le hq (HGI.out p x hp hx)
    show oM ot' q (oM ot p x) ≤ _
    omega) hSO)
  have HRr := Lib.hid (HR.out.on HBX.out)
  clear hg3 hg3'
  go_wp2_with fail
  refine HMC.out.mono ?_
  rintro e w5 ⟨hA, b5⟩
  have b05 := bt HBX.out b5
  have hzz := HZ.out
  have HR5 := Lib.hid (HR.out.on b05)
  obtain ⟨q0, q1, q2, q3, z0, z1, z2, z3⟩ := HR5.out.cells
  have HB05 := Lib.hid (bt HB0.out b05)
  have hz5 := HBX.out.size
  have HZ5 := Lib.hid (show w.heap.size ≤ w3.heap.size by omega)
  clear b5 b05 hSO
  rcases hA with ⟨hok, A5, c5, B5, d5, rfl, o5, p5⟩ | ⟨hok, rfl⟩
  · have HOK := Lib.hid hok
    have HO5 := Lib.hid o5
    have HP5 := Lib.hid p5
    clear hok o5 p5
    go_wp2_with fail
    refine bodyPost_ret (results_mealy rfl _ _ (w.heap.size + 1 + 1) _ _ _ _ rfl (HR5.out.set4 _ _ _ _)) rfl ?_
    exact ⟨.inl ⟨HOK.out, A5, c5, B5, d5, rfl, (HO5.out.keptT (HR5.out.set4' _ _ _ _ (by decide)) (HR5.out.set4' _ _ _ _ (by decide))).lower HZ5.out, (HP5.out.keptT (HR5.out.set4' _ _ _ _ (by decide)) (HR5.out.set4' _ _ _ _ (by decide))).lower HZ5.out⟩, below_set4 (by omega) HB05.out _ _ _ _⟩
  · have HOK := Lib.hid hok
    clear hok
    go_wp2_with fail
    refine bodyPost_ret (results_mealy rfl _ _ (w.heap.size + 1 + 1) _ _ _ _ rfl (HR5.out.set4 _ _ _ _)) rfl ?_
    exact ⟨MacP.bad HOK.out, below_set4 (by omega) HB05.out _ _ _ _⟩
end Go.Proofs.Ytogcecfeofbbnaa
end

section
/- pick, Map, and Restrict without inputs. -/
namespace Go.Proofs.Ytogcecfeofbbnaa
open Go.RowKit

/-- What pick answers. -/
def pickL (xs l : List Int) : List Int := l.map fun x => xs.getD x.toNat 0
theorem pickL_len (xs l : List Int) : (pickL xs l).length = l.length := by simp [pickL]
theorem pickL_next {xs l : List Int} {j : Nat} (h : j < l.length) : pickL xs (l.take j) ++ [xs.getD (l.getD j 0).toNat 0] = pickL xs (l.take (j + 1)) := by
  unfold pickL
  rw [take_next h, List.map_append, List.getD_eq_getElem?_getD (l := l)]; rfl
theorem pickL_takeLen {xs l : List Int} {j : Nat} (h : j ≤ l.length) : (pickL xs (l.take j)).length = j := by rw [pickL_len, List.length_take]; omega
set_option maxHeartbeats 2000000 in
set_option maxRecDepth 100000 in
theorem ppick (A B : Option Addr) (n c m d : Nat) (xs l : List Int) (w : World) (hx : Ints w A n xs) (hl : Ints w B m l) (hr : ∀ x ∈ l, 0 ≤ x ∧ x < n) (hm : m ≤ 1048576) :
    Calls Try.prog 79 #[.slice A n c, .slice B m d] w fun e w' => ∃ A' c', e = .returned (.slice A' m c') ∧ Owned w' w.heap.size (.slice A' m c') (pickL xs l) ∧ Below w.heap.size w w' := by
  have hml := hl.1
  have hn := hx.2.1
  have HR := Lib.hid hr
  have HX := Lib.hid hx
  have HL := Lib.hid hl
  clear hr hx hl
  go_enter Try.func79, Try.ntmps79
  go_wp2_with fail
  go_loopw [5, 10] (fun v5 v10 wr => ∃ (j : Nat) (A' : Option Addr) (c' : Nat), v5 = .slice A' j c' ∧ v10 = .int .i64 j ∧ j ≤ m ∧ Owned wr w.heap.size (.slice A' j c') (pickL xs (l.take j)) ∧ Below w.heap.size w wr) (fun _ v10 _ => m - (intOf v10).toNat)
  case atStart => exact ⟨0, none, 0, rfl, rfl, Nat.zero_le _, by simpa [pickL] using Owned.nil w w.heap.size, Below.refl _ _⟩
  case round =>
    obtain ⟨j, A', c', rfl, rfl, hj, hO, hb⟩ := hrel
    have HO := Lib.hid hO
    have HB := Lib.hid hb
    by_cases hlt : j < m
    · have hjl : j < l.length := by omega
      obtain ⟨gB, oB, rfl, hgB, hcB⟩ := HL.out.at_ hlt
      obtain ⟨h0, h1⟩ := HR.out (l.getD j 0) (by rw [List.getD_eq_getElem?_getD, List.getElem?_eq_getElem hjl]; exact List.getElem_mem _)
      obtain ⟨a, ha⟩ : ∃ a : Nat, l.getD j 0 = (a : Int) := ⟨(l.getD j 0).toNat, by omega⟩
      have ha1 : a < n := by omega
      obtain ⟨gA, oA, rfl, hgA, hcA⟩ := HX.out.at_ ha1
      have y1 := (hb.cell (p := ⟨gB, oB + j, none⟩) hgB).trans hcB
      have y2 := (hb.cell (p := ⟨gA, oA + a, none⟩) hgA).trans hcA
      rw [ha] at y1
      obtain ⟨x, hxx⟩ : ∃ x, x = xs.getD a 0 := ⟨_, rfl⟩
      rw [← hxx] at y2
      obtain ⟨A2, c2, w2, r2, o2, b2, _⟩ := run_append_oneB hO x hb.size (by rw [pickL_takeLen (by omega)]; omega)
      rw [pickL_takeLen (by omega)] at r2 o2
      have HO2 := Lib.hid (show Owned w2 w.heap.size (.slice A2 (j + 1) c2) (pickL xs (l.take (j + 1))) by
        rw [← pickL_next hjl, ha, Int.toNat_natCast, ← hxx]; exact o2)
      have HB2 := Lib.hid (hb.trans b2)
      have q1 : (0 : Int) ≤ (a : Int) := by omega
      have q2 : (a : Int) < (n : Int) := by omega
      clear hO hb hcB hcA ha hxx o2 b2 h0 h1
      go_wp2_with (at_builtin; refine Lib.wpList_append_run _ rfl _ _ _ _ rfl _ _ rfl rfl _ _ r2 ?_)
      go_roundw
      case rel => exact ⟨j + 1, A2, c2, rfl, by go_num, by omega, HO2.out, HB2.out⟩
      case measure => simp [intOf]; omega
    · obtain rfl : j = m := by omega
      have HE := Lib.hid (show l.take j = l from List.take_of_length_le (by omega))
      clear hO hb
      go_wp2
      go_ret
      have h1 := HO.out
      rw [HE.out] at h1
      exact ⟨A', c', rfl, h1, HB.out⟩
/-- The outputs replaced. -/
def mpO (outs : List Int) (ot : List (List Int)) : List (List Int) := ot.map (pickL outs)
theorem mpO_next {outs : List Int} {ot : List (List Int)} {k : Nat} (h : k < ot.length) : (mpO outs ot).take k ++ [pickL outs (ot.getD k [])] = (mpO outs ot).take (k + 1) := by
  unfold mpO
  have h1 : k < (ot.map (pickL outs)).length := by simpa using h
  rw [List.take_succ_eq_append_getElem h1, List.getElem_map, List.getD_eq_getElem?_getD, List.getElem?_eq_getElem h]; rfl
/-- An output that is replaced. -/
def GoodO (outs : List Int) (x : Int) : Prop := x < outs.length ∧ 0 ≤ outs.getD x.toNat 0 ∧ outs.getD x.toNat 0 ≤ 1048576
def AllO (outs : List Int) (ot : List (List Int)) : Prop := ∀ x ∈ ot.flatten, GoodO outs x
def UpO (outs U : List Int) (j : Nat) : Prop := ∀ t, t < j → GoodO outs (U.getD t 0)
theorem UpO.zero (outs U : List Int) : UpO outs U 0 := fun _ h => absurd h (by omega)
theorem UpO.succ {outs U : List Int} {j : Nat} (h : UpO outs U j) (h1 : GoodO outs (U.getD j 0)) : UpO outs U (j + 1) := fun t ht => by
  by_cases e : t = j
  · subst e; exact h1
  · exact h t (by omega)
theorem UpO.all {outs : List Int} {ot : List (List Int)} (h : UpO outs (outL ot []) (outL ot []).length) : AllO outs ot := fun x hx => by
  obtain ⟨j, hj, e⟩ := List.getElem_of_mem ((outL_memC ot x).2 hx)
  have := h j hj
  rw [List.getD_eq_getElem?_getD, List.getElem?_eq_getElem hj] at this
  rw [← e]; exact this
theorem AllO.not {outs : List Int} {ot : List (List Int)} {j : Nat} (hj : j < (outL ot []).length) (h : ¬ GoodO outs ((outL ot []).getD j 0)) : ¬ AllO outs ot := fun h2 => h (h2 _ ((outL_memC ot _).1 (by
  rw [List.getD_eq_getElem?_getD, List.getElem?_eq_getElem hj]; exact List.getElem_mem _)))
section
variable {i st n : Nat} {nx ot : List (List Int)} {outs : List Int}
theorem mpO_at (hM : Mok i st n nx ot) {s a : Nat} (hs : s < n) (ha : a < i) : ((mpO outs ot).getD s []).length = i ∧ ((mpO outs ot).getD s []).getD a 0 = outs.getD (oM ot s a) 0 := by
  have h1 : s < ot.length := by rw [hM.otl]; exact hs
  have h2 : (mpO outs ot).getD s [] = pickL outs (ot.getD s []) := by
    unfold mpO
    rw [List.getD_eq_getElem?_getD, List.getElem?_map, List.getD_eq_getElem?_getD, List.getElem?_eq_getElem h1]; rfl
  have h3 := (hM.row s hs).2.1
  rw [h2]
  refine ⟨by rw [pickL_len]; exact h3, ?_⟩
  unfold pickL
  rw [List.getD_eq_getElem?_getD, List.getElem?_map, List.getElem?_eq_getElem (by rw [h3]; exact ha)]
  show outs.getD ((ot.getD s [])[a]'(by rw [h3]; exact ha)).toNat 0 = outs.getD (((ot.getD s []).getD a 0).toNat) 0
  rw [List.getD_eq_getElem?_getD (l := ot.getD s []), List.getElem?_eq_getElem (by rw [h3]; exact ha)]; rfl
theorem Mok.mpO (hM : Mok i st n nx ot) (h : AllO outs ot) : Mok i st n nx (mpO outs ot) where
  i1 := hM.i1
  i2 := hM.i2
  n1 := hM.n1
  n2 := hM.n2
  st := hM.st
  nxl := hM.nxl
  otl := by unfold Go.Proofs.Ytogcecfeofbbnaa.mpO; rw [List.length_map]; exact hM.otl
  row := fun s hs => by
    have h1 := hM.row s hs
    refine ⟨h1.1, (mpO_at hM hs hM.i1).1, fun a ha => ⟨(h1.2.2 a ha).1, (h1.2.2 a ha).2.1, ?_⟩⟩
    rw [(mpO_at hM hs ha).2]
    exact (h _ (hM.in_flat hs ha)).2
end
theorem two_boxesR (w : World) (i st : Int) (A B : Option Addr) (n c m d : Nat) : ∃ w1, w1 = (w.alloc (.cells #[.int .i64 i, .int .i64 st, .slice A n c, .slice B m d] 24)).alloc (.cells #[.int .i64 0, .int .i64 0, .slice none 0 0, .slice none 0 0] 24) ∧
    Below w.heap.size w w1 ∧ Mblk w1 w.heap.size (.int .i64 i) (.int .i64 st) (.slice A n c) (.slice B m d) ∧ Mblk w1 (w.heap.size + 1) (.int .i64 0) (.int .i64 0) (.slice none 0 0) (.slice none 0 0) ∧ w1.heap.size = w.heap.size + 2 := by
  refine ⟨_, rfl, (alloc_below _ _).alloc (by simp) _, (mealy_box w (.int .i64 i) (.int .i64 st) (.slice A n c) (.slice B m d)).kept (alloc_below _ _) (by simp), ?_, by simp⟩
  have := mealy_box (w.alloc (.cells #[.int .i64 i, .int .i64 st, .slice A n c, .slice B m d] 24)) (.int .i64 0) (.int .i64 0) (.slice none 0 0) (.slice none 0 0)
  simpa using this
/-- What Map and Restrict answer. -/
def TrmP (base i : Nat) (N T : List (List Int)) (n : Nat) (e : Ending) (w' : World) : Prop :=
  ∃ A c B d, e = .returned (.tuple #[.agg #[.int .i64 i, .int .i64 0, .slice A n c, .slice B n d], .int .i64 0]) ∧ OwnedL w' base (.slice A n c) N ∧ OwnedL w' base (.slice B n d) T
set_option maxHeartbeats 2000000 in
set_option maxRecDepth 100000 in
theorem pmap_bad (i st : Int) (A B C : Option Addr) (n c m d k e : Nat) (nx ot : List (List Int)) (w : World) (hx : Lists w A n nx) (ho : Lists w B m ot) (hv : ¬ vld i st nx ot = 0) :
    Calls Try.prog 41 #[.agg #[.int .i64 i, .int .i64 st, .slice A n c, .slice B m d], .slice C k e] w fun e w' => e = NoM (vld i st nx ot) ∧ Below w.heap.size w w' := by
  obtain ⟨w0, hw0, hb0, hG, hR, hz0⟩ := two_boxesR w i st A B n c m d
  obtain ⟨k0, k1, k2, k3, _⟩ := hG.cells
  have HX := Lib.hid (hx.below hb0)
  have HO := Lib.hid (ho.below hb0)
  have HW0 := Lib.hid hw0
  have HB0 := Lib.hid hb0
  have HR := Lib.hid hR
  have HZ := Lib.hid hz0
  obtain ⟨x, hx0, hxe⟩ : ∃ x, ¬ x = 0 ∧ vld i st nx ot = x := ⟨_, hv, rfl⟩
  have HXE := Lib.hid hxe
  have t1 : (x != 0) = true := by simpa using hx0
  clear hw0 hb0 hG hR hz0 hx ho hv hxe
  rw [HW0.out] at k0 k1 k2 k3
  go_enter Try.func41, Try.ntmps41
  go_wp2_with fail
  rw [← HW0.out]
  refine (pvalid _ _ _ _ _ _ _ _ _ _ _ HX.out HO.out).mono ?_
  rintro e1 w1 ⟨rfl, b1⟩
  rw [HXE.out]
  have HB1 := Lib.hid b1
  have HRr := Lib.hid (HR.out.on b1)
  obtain ⟨q0, q1, q2, q3, z0, z1, z2, z3⟩ := HRr.out.cells
  clear k0 k1 k2 k3 b1
  go_wp2_with fail
  refine bodyPost_ret (results_mealy rfl _ _ (w.heap.size + 1) (.int .i64 0) (.int .i64 0) (.slice none 0 0) (.slice none 0 0) rfl (HRr.out.set4 _ _ _ _)) rfl ?_
  exact ⟨by rw [HXE.out]; rfl, below_set4 (by omega) (bt HB0.out HB1.out) _ _ _ _⟩
set_option maxHeartbeats 2000000 in
set_option maxRecDepth 100000 in
theorem prestrict_bad (i st : Int) (A B C : Option Addr) (n c m d k e : Nat) (nx ot : List (List Int)) (w : World) (hx : Lists w A n nx) (ho : Lists w B m ot) (hv : ¬ vld i st nx ot = 0) :
    Calls Try.prog 39 #[.agg #[.int .i64 i, .int .i64 st, .slice A n c, .slice B m d], .slice C k e] w fun e w' => e = NoM (vld i st nx ot) ∧ Below w.heap.size w w' := by
  obtain ⟨w0, hw0, hb0, hG, hR, hz0⟩ := two_boxesR w i st A B n c m d
  obtain ⟨k0, k1, k2, k3, _⟩ := hG.cells
  have HX := Lib.hid (hx.below hb0)
  have HO := Lib.hid (ho.below hb0)
  have HW0 := Lib.hid hw0
  have HB0 := Lib.hid hb0
  have HR := Lib.hid hR
  have HZ := Lib.hid hz0
  obtain ⟨x, hx0, hxe⟩ : ∃ x, ¬ x = 0 ∧ vld i st nx ot = x := ⟨_, hv, rfl⟩
  have HXE := Lib.hid hxe
  have t1 : (x != 0) = true := by simpa using hx0
  clear hw0 hb0 hG hR hz0 hx ho hv hxe
  rw [HW0.out] at k0 k1 k2 k3
  go_enter Try.func39, Try.ntmps39
  go_wp2_with fail
  rw [← HW0.out]
  refine (pvalid _ _ _ _ _ _ _ _ _ _ _ HX.out HO.out).mono ?_
  rintro e1 w1 ⟨rfl, b1⟩
  rw [HXE.out]
  have HB1 := Lib.hid b1
  have HRr := Lib.hid (HR.out.on b1)
  obtain ⟨q0, q1, q2, q3, z0, z1, z2, z3⟩ := HRr.out.cells
  clear k0 k1 k2 k3 b1
  go_wp2_with fail
  refine bodyPost_ret (results_mealy rfl _ _ (w.heap.size + 1) (.int .i64 0) (.int .i64 0) (.slice none 0 0) (.slice none 0 0) rfl (HRr.out.set4 _ _ _ _)) rfl ?_
  exact ⟨by rw [HXE.out]; rfl, below_set4 (by omega) (bt HB0.out HB1.out) _ _ _ _⟩
set_option linter.unusedSimpArgs false in
set_option maxHeartbeats 8000000 in
set_option maxRecDepth 100000 in
theorem pmap (i st n : Nat) (A B C : Option Addr) (c d m e : Nat) (nx ot : List (List Int)) (outs : List Int) (w : World) (hx : Lists w A n nx) (ho : Lists w B n ot) (hC : Ints w C m outs) (hM : Mok i st n nx ot) :
    Calls Try.prog 41 #[.agg #[.int .i64 i, .int .i64 st, .slice A n c, .slice B n d], .slice C m e] w fun e w' =>
      ((AllO outs ot ∧ TrmP w.heap.size i (trN nx i (rch nx i st)) (trO (mpO outs ot) (rch nx i st)) (rch nx i st).length e w') ∨ (¬ AllO outs ot ∧ e = NoM 2)) ∧ Below w.heap.size w w' := by
  obtain ⟨w0, hw0, hb0, hG, hR, hz0⟩ := two_boxesR w i st A B n c n d
  obtain ⟨k0, k1, k2, k3, _⟩ := hG.cells
  have HX := Lib.hid (fun (W : World) (h : Below w0.heap.size w0 W) => (hx.below hb0).below h)
  have HO := Lib.hid (fun (W : World) (h : Below w0.heap.size w0 W) => (ho.below hb0).below h)
  have HC := Lib.hid (fun (W : World) (h : Below w0.heap.size w0 W) => (hC.below hb0).below h)
  have hml := hC.1
  have hm2 := hC.2.1
  have HW0 := Lib.hid hw0
  have HB0 := Lib.hid hb0
  have HG := Lib.hid hG
  have HR := Lib.hid hR
  have HZ := Lib.hid hz0
  have HV := Lib.hid hM.vld
  have hi1 := hM.i1
  have hi2 := hM.i2
  have hn2 := hM.n2
  have hst := hM.st
  have hUle := outL_le hM
  have HUP := Lib.hid (show ∀ j, j < (outL ot []).length → 0 ≤ (outL ot []).getD j 0 ∧ (outL ot []).getD j 0 ≤ 1048576 from fun j hj => by
    have h1 : (outL ot []).getD j 0 ∈ ot.flatten := (outL_memC ot _).1 (by rw [List.getD_eq_getElem?_getD, List.getElem?_eq_getElem hj]; exact List.getElem_mem _)
    obtain ⟨s, a, hs, ha, e⟩ := hM.flat_at h1
    rw [e]
    have := (hM.row s hs).2.2 a ha
    exact ⟨this.2.2.1, this.2.2.2⟩)
  have HM := Lib.hid hM
  clear hw0 hb0 hG hR hz0 hx ho hC hM
  rw [HW0.out] at k0 k1 k2 k3
  go_enter Try.func41, Try.ntmps41
  go_wp2_with fail
  rw [← HW0.out]
  refine (pvalid _ _ _ _ _ _ _ _ _ _ _ (HX.out _ (Below.refl _ _)) (HO.out _ (Below.refl _ _))).mono ?_
  rintro e1 w1 ⟨rfl, b1⟩
  rw [HV.out]
  have HB1 := Lib.hid b1
  clear k0 k1 k2 k3
  obtain ⟨k0, k1, k2, k3, _⟩ := (HG.out.on b1).cells
  clear b1
  go_wp2_with fail
  refine (poutputs_ok _ _ _ _ _ _ _ _ _ _ (HX.out _ HB1.out) (HO.out _ HB1.out) HM.out).mono ?_
  rintro e2 w2 ⟨A2, c2, rfl, o2, b2⟩
  have HB2 := Lib.hid (bt HB1.out b2)
  have HU := Lib.hid (o2.ints hUle)
  have HCW := Lib.hid (HC.out _ HB2.out)
  obtain ⟨U, hU⟩ : ∃ U, U = outL ot [] := ⟨_, rfl⟩
  rw [← hU] at HU hUle HUP ⊢
  have HUE := Lib.hid hU
  clear k0 k1 k2 k3 o2 b2 hU
  go_wp2_with fail
  go_loop [21] (fun v21 => ∃ j : Nat, v21 = .int .i64 j ∧ j ≤ U.length ∧ UpO outs U j) (fun v21 => U.length - (intOf v21).toNat)
  case atStart => exact ⟨0, rfl, Nat.zero_le _, UpO.zero _ _⟩
  case round =>
    obtain ⟨j, rfl, hj, hup⟩ := hrel
    have HUPJ := Lib.hid hup
    clear hup
    by_cases hlt : j < U.length
    · obtain ⟨gU, oU, rfl, hgU, hcU⟩ := HU.out.at_ hlt
      obtain ⟨u0, u1⟩ := HUP.out j hlt
      obtain ⟨x, hx⟩ : ∃ x : Nat, U.getD j 0 = (x : Int) := ⟨(U.getD j 0).toNat, by omega⟩
      rw [hx] at hcU u1
      have HXX := Lib.hid hx
      have HRr := Lib.hid (HR.out.on HB2.out)
      have hx2 : x ≤ 1048576 := by omega
      clear hx u0 u1
      by_cases hxm : x < m
      · obtain ⟨gC, oC, rfl, hgC, hcC⟩ := HCW.out.at_ hxm
        obtain ⟨z, hz⟩ : ∃ z, z = outs.getD x 0 := ⟨_, rfl⟩
        rw [← hz] at hcC
        have HZZ := Lib.hid hz
        clear hz
        have d1 : decide (m ≤ x) = false := by simp; omega
        have d1' : decide ((m : Int) ≤ (x : Int)) = false := by simp; omega
        have q1 : (0 : Int) ≤ (x : Int) := by omega
        have q2 : (x : Int) < (m : Int) := by omega
        by_cases hz0 : z < 0
        · have d2 : decide (z < 0) = true := by simpa using hz0
          have HNO := Lib.hid (show ¬ AllO outs ot from by
            have h1 := HUE.out
            subst h1
            exact AllO.not hlt fun h => by have := h.2.1; rw [HXX.out, Int.toNat_natCast, ← HZZ.out] at this; omega)
          obtain ⟨y0, y1, y2, y3, z0, z1, z2, z3⟩ := HRr.out.cells
          clear hz0 hxm
          go_wp2_with fail
          (try rw [Exit.noGoto_ret])
          refine bodyPost_ret (results_mealy rfl _ _ (w.heap.size + 1) (.int .i64 0) (.int .i64 0) (.slice none 0 0) (.slice none 0 0) rfl (HRr.out.set4 _ _ _ _)) rfl ?_
          exact ⟨.inr ⟨HNO.out, rfl⟩, below_set4 (Nat.le_succ _) (bt HB0.out HB2.out) _ _ _ _⟩
        · have d2 : decide (z < 0) = false := by simpa using hz0
          by_cases hz9 : 1048576 < z
          · have d3 : decide (1048576 < z) = true := by simpa using hz9
            have HNO := Lib.hid (show ¬ AllO outs ot from by
              have h1 := HUE.out
              subst h1
              exact AllO.not hlt fun h => by have := h.2.2; rw [HXX.out, Int.toNat_natCast, ← HZZ.out] at this; omega)
            obtain ⟨y0, y1, y2, y3, z0, z1, z2, z3⟩ := HRr.out.cells
            clear hz0 hz9 hxm
            go_wp2_with fail
            (try rw [Exit.noGoto_ret])
            refine bodyPost_ret (results_mealy rfl _ _ (w.heap.size + 1) (.int .i64 0) (.int .i64 0) (.slice none 0 0) (.slice none 0 0) rfl (HRr.out.set4 _ _ _ _)) rfl ?_
            exact ⟨.inr ⟨HNO.out, rfl⟩, below_set4 (Nat.le_succ _) (bt HB0.out HB2.out) _ _ _ _⟩
          · have d3 : decide (1048576 < z) = false := by simpa using hz9
            have HU2 := Lib.hid (HUPJ.out.succ (show GoodO outs (U.getD j 0) by rw [HXX.out]; exact ⟨by omega, by rw [Int.toNat_natCast, ← HZZ.out]; omega, by rw [Int.toNat_natCast, ← HZZ.out]; omega⟩))
            clear hz0 hz9
            go_wp2_with fail
            go_round
            case rel => exact ⟨j + 1, by go_num, by omega, HU2.out⟩
            case measure => simp [intOf]; omega
      · have d1 : decide (m ≤ x) = true := by simp; omega
        have d1' : decide ((m : Int) ≤ (x : Int)) = true := by simp; omega
        have HNO := Lib.hid (show ¬ AllO outs ot from by
          have h1 := HUE.out
          subst h1
          exact AllO.not hlt fun h => by have := h.1; rw [HXX.out] at this; omega)
        obtain ⟨y0, y1, y2, y3, z0, z1, z2, z3⟩ := HRr.out.cells
        clear hxm
        go_wp2_with fail
        (try rw [Exit.noGoto_ret])
        refine bodyPost_ret (results_mealy rfl _ _ (w.heap.size + 1) (.int .i64 0) (.int .i64 0) (.slice none 0 0) (.slice none 0 0) rfl (HRr.out.set4 _ _ _ _)) rfl ?_
        exact ⟨.inr ⟨HNO.out, rfl⟩, below_set4 (Nat.le_succ _) (bt HB0.out HB2.out) _ _ _ _⟩
    · obtain rfl : j = U.length := by omega
      have HALL := Lib.hid (show AllO outs ot from by
        have h1 := HUE.out
        subst h1
        exact HUPJ.out.all)
      obtain ⟨k0, k1, k2, k3, _⟩ := (HG.out.on HB2.out).cells
      obtain ⟨wx, hwx⟩ : ∃ wx, wx = w2.alloc (.cells #[.int .i64 i, .int .i64 st, .slice A n c, .slice none 0 0] 24) := ⟨_, rfl⟩
      have bx : Below w2.heap.size w2 wx := by rw [hwx]; exact alloc_below _ _
      obtain ⟨gX, hgX⟩ : ∃ gX, gX = w2.heap.size := ⟨_, rfl⟩
      have hBX : Mblk wx gX (.int .i64 i) (.int .i64 st) (.slice A n c) (.slice none 0 0) := by rw [hwx, hgX]; exact mealy_box w2 _ _ _ _
      have HBX := Lib.hid hBX
      have HX0 := Lib.hid (bt HB2.out bx)
      have HGX := Lib.hid (show w0.heap.size ≤ gX by rw [hgX]; exact HB2.out.size)
      have HGE := Lib.hid hgX
      have HWX := Lib.hid hwx
      obtain ⟨y0, y1, y2, y3, _⟩ := (HG.out.on HX0.out).cells
      rw [hwx] at y0 y1 y2 y3
      clear hwx bx hgX hBX hlt
      go_wp2_with fail
      rw [← HWX.out, ← HGE.out]
      clear k0 k1 k2 k3 y0 y1 y2 y3
      go_loopw [55] (fun v55 wr => ∃ (k : Nat) (AT : Option Addr) (cT : Nat), v55 = .int .i64 k ∧ k ≤ n ∧ Mblk wr gX (.int .i64 i) (.int .i64 st) (.slice A n c) (.slice AT k cT) ∧ OwnedL wr w0.heap.size (.slice AT k cT) ((mpO outs ot).take k) ∧ Below w0.heap.size w0 wr) (fun v55 _ => n - (intOf v55).toNat)
      case atStart => exact ⟨0, none, 0, rfl, Nat.zero_le _, HBX.out, by simpa using OwnedL.nil _ _, HX0.out⟩
      case round =>
        obtain ⟨k, AT, cT, rfl, hk, hBk, hLk, hbr⟩ := hrel
        have HBK := Lib.hid hBk
        have HL := Lib.hid hLk
        have HBR := Lib.hid hbr
        have hmpl : (mpO outs ot).length = n := by unfold mpO; rw [List.length_map]; exact HM.out.otl
        by_cases hkn : k < n
        · have hlt2 : k < ot.length := by rw [HM.out.otl]; exact hkn
          have hTk : ((mpO outs ot).take k).length = k := by rw [List.length_take]; omega
          obtain ⟨g1, o1, A1, n1, c1, rfl, lA, hdA, hrA⟩ := (HO.out _ (Below.refl _ _)).at_ hkn
          have hrow := HM.out.row k hkn
          obtain rfl : i = n1 := by rw [← hrA.1]; exact hrow.2.1.symm
          have e1 := (hbr.cell (p := ⟨g1, o1 + k, none⟩) lA).trans hdA
          have HPK := Lib.hid (ppick C A1 m e i c1 outs (ot.getD k []) wr.drew (HC.out _ (below_drewN hbr 1)) (hrA.below (below_drewN hbr 1)) (fun x hx => by
            obtain ⟨a, ha, rfl⟩ := List.getElem_of_mem hx
            have ha2 : a < i := by rw [hrow.2.1] at ha; exact ha
            have h1 := HALL.out _ (HM.out.in_flat hkn ha2)
            have h2 := (hrow.2.2 a ha2).2.2.1
            have h3 : (ot.getD k [])[a] = (ot.getD k []).getD a 0 := by rw [List.getD_eq_getElem?_getD (l := ot.getD k []), List.getElem?_eq_getElem ha]; rfl
            rw [h3]
            exact ⟨h2, by have := h1.1; rw [hml] at this; exact this⟩) (by omega))
          have HS8 := Lib.hid (show wr.drew.cell? ⟨gX, 3, none⟩ = some (.slice AT k cT) from hBk.cells.2.2.2.1)
          clear hBk hLk hbr hdA hrA hrow
          go_wp2_with fail
          refine wp_region_heldX (X := fun k => [8].contains k) (S := fun W => W.cell? ⟨gX, 3, none⟩ = some (.slice AT k cT)) (by kernel_rfl) ?_
          refine wpAnyX_pure (i := 0) (v := ?_) rfl (by kernel_rfl) (by kernel_rfl) (by kernel_rfl) (fun _ _ _ h => h) (Or.inl ⟨by rfl, ?_⟩) ?_
          rotate_left
          · (intro W _; go_simp; try with_reducible rfl)
          (try simp only [Act.put, List.setIfInBounds_toArray, List.set_cons_zero, List.set_cons_succ])
          refine wpAnyX_takeL (L := [8]) (i := 1) (v := ?_) rfl (by kernel_rfl) (by kernel_rfl) (by kernel_rfl) (by kernel_rfl) (fun _ _ _ h => h) (Or.inl ⟨by rfl, ?_⟩) HS8.out ?_
          rotate_left
          · (intro W hSW; (try dsimp only at hSW); go_simp; try with_reducible rfl)
          (try simp only [Act.put, List.setIfInBounds_toArray, List.set_cons_zero, List.set_cons_succ])
          refine wpAnyX_pure (i := 2) (v := ?_) rfl (by kernel_rfl) (by kernel_rfl) (by kernel_rfl) (fun _ _ _ h => h) (Or.inl ⟨by rfl, ?_⟩) ?_
          rotate_left
          · (intro W _; go_simp; try with_reducible rfl)
          (try simp only [Act.put, List.setIfInBounds_toArray, List.set_cons_zero, List.set_cons_succ])
          refine wpAnyX_pure (i := 3) (v := ?_) rfl (by kernel_rfl) (by kernel_rfl) (by kernel_rfl) (fun _ _ _ h => h) (Or.inl ⟨by rfl, ?_⟩) ?_
          rotate_left
          · (intro W _; go_simp; try with_reducible rfl)
          (try simp only [Act.put, List.setIfInBounds_toArray, List.set_cons_zero, List.set_cons_succ])
          refine wpAnyX_one (i := 4) rfl (by kernel_rfl) (fun K hK => ?_)
          go_simp
          go_at_call 79
          refine HPK.out.mono ?_
          rintro e w9 ⟨A9, c9, rfl, o9, b9⟩
          (try go_wp2_with fail)
          refine hK.out _ _ (fun _ hS => ((b9.cell (p := ⟨gX, 3, none⟩) (World.block_lt_of_cell? _ _ hS)).trans hS)) ?_
          (try simp only [Act.put, List.setIfInBounds_toArray, List.set_cons_zero, List.set_cons_succ])
          have hB9 := HBK.out.on (bt (below_drewN (Below.refl _ _) 1) b9)
          have hL9 := HL.out.kept (bt (below_drewN (Below.refl _ _) 1) b9)
          have hb9 := bt HBR.out (bt (below_drewN (Below.refl _ _) 1) b9)
          have o9 := o9.lower HBR.out.size
          have hz9 := hb9.size
          obtain ⟨A2, c2, w10, hr, oL, b10, kt, _, _⟩ := run_append_list hL9 o9 hz9 (by rw [List.length_take]; omega)
          rw [hTk] at hr oL
          have hB10 := hB9.keptT (kt _ (by decide))
          obtain ⟨_, _, _, l3, _, _, _, f3⟩ := hB10.cells
          have HFN := Lib.hid (show Mblk (w10.setCell ⟨gX, 3, none⟩ (.slice A2 (k + 1) c2)) gX (.int .i64 i) (.int .i64 st) (.slice A n c) (.slice A2 (k + 1) c2) ∧ OwnedL (w10.setCell ⟨gX, 3, none⟩ (.slice A2 (k + 1) c2)) w0.heap.size (.slice A2 (k + 1) c2) ((mpO outs ot).take (k + 1)) ∧ Below w0.heap.size w0 (w10.setCell ⟨gX, 3, none⟩ (.slice A2 (k + 1) c2)) from
            ⟨hB10.set3 _, by
              have h1 := oL.keptT (KeptT.off (k := 3) hB10 (by decide) (.slice A2 (k + 1) c2)) (KeptT.off hB10 (by decide) _)
              rw [mpO_next hlt2] at h1
              exact h1, below_st HGX.out (hb9.trans b10)⟩)
          have l9 := hB9.cells.2.2.2.1
          clear hB9 hL9 hb9 o9 oL b10 kt hB10 b9
          refine wpAnyX_one (i := 5) rfl (by kernel_rfl) (fun K hK => ?_)
          go_simp
          refine hK.out _ _ (fun _ _ => cellAl l9) ?_
          (try simp only [Act.put, List.setIfInBounds_toArray, List.set_cons_zero, List.set_cons_succ])
          refine wpAnyX_one (i := 6) rfl (by kernel_rfl) (fun K hK => ?_)
          refine step_app rfl _ _ _ _ rfl _ _ rfl rfl _ _ hr ?_
          refine hK.out _ _ (fun _ _ => l3) ?_
          (try simp only [Act.put, List.setIfInBounds_toArray, List.set_cons_zero, List.set_cons_succ])
          refine wpAnyX_pure (i := 7) (v := ?_) rfl (by kernel_rfl) (by kernel_rfl) (by kernel_rfl) (fun _ _ _ h => h) (Or.inl ⟨by rfl, ?_⟩) ?_
          rotate_left
          · (intro W _; go_simp; try with_reducible rfl)
          (try simp only [Act.put, List.setIfInBounds_toArray, List.set_cons_zero, List.set_cons_succ])
          refine wpAnyX_one (i := 8) rfl (by kernel_rfl) (fun K hK => ?_)
          go_simp
          refine hK.out _ _ (fun h => absurd h (by decide)) ?_
          (try simp only [Act.put, List.setIfInBounds_toArray, List.set_cons_zero, List.set_cons_succ])
          refine wpAnyX_done (by kernel_rfl) ?_ _
          clear l9 l3 f3 hr
          go_wp2_with fail
          go_roundw
          case rel => exact ⟨k + 1, A2, c2, by go_num, by omega, HFN.out.1, HFN.out.2.1, HFN.out.2.2⟩
          case measure => simp [intOf]; omega
        · obtain rfl : k = n := by omega
          have HLF := Lib.hid (show OwnedL wr w0.heap.size (.slice AT k cT) (mpO outs ot) by
            have := HL.out
            rw [List.take_of_length_le (by omega)] at this
            exact this)
          have hMk := HM.out.mpO HALL.out
          have hlis := lists_ownedO hMk HLF.out
          have HT := Lib.hid (ptrim_ok i st k A AT c cT nx (mpO outs ot) wr (HX.out _ HBR.out) hlis hMk)
          obtain ⟨k0, k1, k2, k3, _⟩ := hBk.cells
          clear hBk hLk hbr hMk hlis hmpl
          go_wp2_with fail
          refine HT.out.mono ?_
          rintro e5 w5 ⟨A5, c5, B5, d5, rfl, o5, p5, b5⟩
          have b05 := bt HBR.out b5
          have hzz := HZ.out
          have HR5 := Lib.hid (HR.out.on b05)
          obtain ⟨q0, q1, q2, q3, z0, z1, z2, z3⟩ := HR5.out.cells
          have HB05 := Lib.hid (bt HB0.out b05)
          have HO5 := Lib.hid o5
          have HP5 := Lib.hid p5
          have hz5 := HBR.out.size
          have HZ5 := Lib.hid (show w.heap.size ≤ wr.heap.size by omega)
          clear b5 b05 o5 p5 k0 k1 k2 k3
          go_wp2_with fail
          refine bodyPost_ret (results_mealy rfl _ _ (w.heap.size + 1) _ _ _ _ rfl (HR5.out.set4 _ _ _ _)) rfl ?_
          exact ⟨.inl ⟨HALL.out, A5, c5, B5, d5, rfl, (HO5.out.keptT (HR5.out.set4' _ _ _ _ (by decide)) (HR5.out.set4' _ _ _ _ (by decide))).lower HZ5.out, (HP5.out.keptT (HR5.out.set4' _ _ _ _ (by decide)) (HR5.out.set4' _ _ _ _ (by decide))).lower HZ5.out⟩, below_set4 (by omega) HB05.out _ _ _ _⟩
end Go.Proofs.Ytogcecfeofbbnaa
end

section
/- Restrict with an empty list. -/
namespace Go.Proofs.Ytogcecfeofbbnaa
open Go.RowKit

set_option maxRecDepth 100000 in
theorem pchoice_empty (i st : Int) (A B C : Option Addr) (n c m d e : Nat) (w : World) :
    Calls Try.prog 78 #[.agg #[.int .i64 i, .int .i64 st, .slice A n c, .slice B m d], .slice C 0 e] w fun r w' => r = .returned (.int .i64 19) ∧ Below w.heap.size w w' := by
  have hb0 := alloc_below w (.cells #[.int .i64 i, .int .i64 st, .slice A n c, .slice B m d] 24)
  go_enter Try.func78, Try.ntmps78
  go_wp2
  go_ret
  exact ⟨rfl, hb0⟩
set_option maxHeartbeats 2000000 in
set_option maxRecDepth 100000 in
theorem prestrict_empty (i st n : Nat) (A B C : Option Addr) (c d e : Nat) (nx ot : List (List Int)) (w : World) (hx : Lists w A n nx) (ho : Lists w B n ot) (hM : Mok i st n nx ot) :
    Calls Try.prog 39 #[.agg #[.int .i64 i, .int .i64 st, .slice A n c, .slice B n d], .slice C 0 e] w fun r w' => r = NoM 19 ∧ Below w.heap.size w w' := by
  obtain ⟨w0, hw0, hb0, hG, hR, hz0⟩ := two_boxesR w i st A B n c n d
  obtain ⟨k0, k1, k2, k3, _⟩ := hG.cells
  have HX := Lib.hid (hx.below hb0)
  have HO := Lib.hid (ho.below hb0)
  have HW0 := Lib.hid hw0
  have HB0 := Lib.hid hb0
  have HG := Lib.hid hG
  have HR := Lib.hid hR
  have HZ := Lib.hid hz0
  have HV := Lib.hid hM.vld
  clear hw0 hb0 hG hR hz0 hx ho hM
  rw [HW0.out] at k0 k1 k2 k3
  go_enter Try.func39, Try.ntmps39
  go_wp2_with fail
  rw [← HW0.out]
  refine (pvalid _ _ _ _ _ _ _ _ _ _ _ HX.out HO.out).mono ?_
  rintro e1 w1 ⟨rfl, b1⟩
  rw [HV.out]
  have HB1 := Lib.hid b1
  clear k0 k1 k2 k3
  obtain ⟨k0, k1, k2, k3, _⟩ := (HG.out.on b1).cells
  clear b1
  go_wp2_with fail
  refine (pchoice_empty _ _ _ _ _ _ _ _ _ _ _).mono ?_
  rintro e1 w2 ⟨rfl, b2⟩
  have HB2 := Lib.hid (bt HB1.out b2)
  have HRr := Lib.hid (HR.out.on HB2.out)
  obtain ⟨q0, q1, q2, q3, z0, z1, z2, z3⟩ := HRr.out.cells
  clear k0 k1 k2 k3 b2
  go_wp2_with fail
  refine bodyPost_ret (results_mealy rfl _ _ (w.heap.size + 1) (.int .i64 0) (.int .i64 0) (.slice none 0 0) (.slice none 0 0) rfl (HRr.out.set4 _ _ _ _)) rfl ?_
  exact ⟨rfl, below_set4 (by omega) (bt HB0.out HB2.out) _ _ _ _⟩
end Go.Proofs.Ytogcecfeofbbnaa
end

section
/- Lists and machines that are equal: Equal, EqualFunc, equal, Same; the reference's Ints, Lists, Same. -/
namespace Go.Proofs.Ytogcecfeofbbnaa
open Go.RowKit

set_option maxHeartbeats 1000000 in
theorem rints (A B : Option Addr) (n c m d : Nat) (xs ys : List Int) (b : Bool) (w : World) (hx : Ints w A n xs) (hy : Ints w B m ys) (hb : b = decide (xs = ys)) :
    Calls Try.prog 100 #[.slice A n c, .slice B m d] w fun e w' => e = .returned (.bool b) ∧ ∃ q, w' = w.drewN q := by
  have L1 := Lib.hid hx.1
  have L2 := Lib.hid hy.1
  have hn := hx.2.1
  have hm := hy.2.1
  by_cases hnm : n = m
  · subst hnm
    have HB := Lib.hid hb
    clear hb
    go_enter Try.func100, Try.ntmps100
    go_wp2
    go_loopw [5] (fun i wr => ∃ j q : Nat, j ≤ n ∧ i = .int .i64 j ∧ AgreeL 0 xs ys j ∧ wr = w.drewN q) (fun i _ => n - (intOf i).toNat)
    case atStart => exact ⟨0, 0, Nat.zero_le _, rfl, AgreeL.zero _ _ _, rfl⟩
    case round =>
      obtain ⟨j, q, hj, rfl, heq, rfl⟩ := hrel
      have HE := Lib.hid heq
      clear heq
      by_cases hlt : j < n
      · obtain ⟨g1, o1, rfl, _, hc1⟩ := hx.at_ hlt
        obtain ⟨g2, o2, rfl, _, hc2⟩ := hy.at_ hlt
        by_cases he : xs.getD j 0 = ys.getD j 0
        · have hnx := Lib.hid (HE.out.succ he)
          rw [← he] at hc2
          generalize xs.getD j 0 = y at hc1 hc2
          clear he
          go_wp2
          go_quiet (fail)
          go_wp2
          go_roundw
          case rel => exact ⟨j + 1, _, by omega, by go_num, hnx.out, rfl⟩
          case measure => simp [intOf]; omega
        · have hfin : Hid (b = false) := Lib.hid (HB.out.trans (decide_eq_false fun e => he (by rw [e])))
          have hne : (xs.getD j 0 != ys.getD j 0) = true := by simpa using he
          generalize xs.getD j 0 = y at hc1 hne
          generalize ys.getD j 0 = z at hc2 hne
          clear he
          go_wp2
          go_quiet (fail)
          go_wp2
          go_ret
          exact ⟨ret_bool hfin.out.symm, by first | exact ⟨_, rfl⟩ | exact ⟨_, World.drewN_drewN _ _ _⟩⟩
      · obtain rfl : j = n := by omega
        have hfin : Hid (b = true) := Lib.hid (HB.out.trans (decide_eq_true (HE.out.all L1.out L2.out)))
        go_wp2
        go_ret
        exact ⟨ret_bool hfin.out.symm, by first | exact ⟨_, rfl⟩ | exact ⟨_, World.drewN_drewN _ _ _⟩⟩
  · have hfin : Hid (b = false) := Lib.hid (hb.trans (decide_eq_false fun e => hnm (by rw [← L1.out, ← L2.out, e])))
    have hd : ((n : Int) != (m : Int)) = true := by simp; omega
    clear hnm hb
    go_enter Try.func100, Try.ntmps100
    go_wp2
    go_ret
    exact ⟨ret_bool hfin.out.symm, 0, rfl⟩

set_option maxHeartbeats 1000000 in
theorem sequal (A B : Option Addr) (n c m d : Nat) (xs ys : List Int) (b : Bool) (w : World) (hx : Ints w A n xs) (hy : Ints w B m ys) (hb : b = decide (xs = ys)) :
    Calls Try.prog 139 #[.slice A n c, .slice B m d] w fun e w' => e = .returned (.bool b) ∧ ∃ q, w' = w.drewN q := by
  have L1 := Lib.hid hx.1
  have L2 := Lib.hid hy.1
  have hn := hx.2.1
  have hm := hy.2.1
  by_cases hnm : n = m
  · subst hnm
    have HB := Lib.hid hb
    clear hb
    go_enter Try.func139, Try.ntmps139
    go_wp2
    go_loopw [13] (fun i wr => ∃ j q : Nat, j ≤ n ∧ i = .int .i64 j ∧ AgreeL 0 xs ys j ∧ wr = w.drewN q) (fun i _ => n - (intOf i).toNat)
    case atStart => exact ⟨0, 0, Nat.zero_le _, rfl, AgreeL.zero _ _ _, rfl⟩
    case round =>
      obtain ⟨j, q, hj, rfl, heq, rfl⟩ := hrel
      have HE := Lib.hid heq
      clear heq
      by_cases hlt : j < n
      · obtain ⟨g1, o1, rfl, _, hc1⟩ := hx.at_ hlt
        obtain ⟨g2, o2, rfl, _, hc2⟩ := hy.at_ hlt
        by_cases he : xs.getD j 0 = ys.getD j 0
        · have hnx := Lib.hid (HE.out.succ he)
          rw [← he] at hc2
          generalize xs.getD j 0 = y at hc1 hc2
          clear he
          go_wp2
          go_quiet (fail)
          go_wp2
          go_roundw
          case rel => exact ⟨j + 1, _, by omega, by go_num, hnx.out, rfl⟩
          case measure => simp [intOf]; omega
        · have hfin : Hid (b = false) := Lib.hid (HB.out.trans (decide_eq_false fun e => he (by rw [e])))
          have hne : (xs.getD j 0 != ys.getD j 0) = true := by simpa using he
          generalize xs.getD j 0 = y at hc1 hne
          generalize ys.getD j 0 = z at hc2 hne
          clear he
          go_wp2
          go_quiet (fail)
          go_wp2
          go_ret
          exact ⟨ret_bool hfin.out.symm, by first | exact ⟨_, rfl⟩ | exact ⟨_, World.drewN_drewN _ _ _⟩⟩
      · obtain rfl : j = n := by omega
        have hfin : Hid (b = true) := Lib.hid (HB.out.trans (decide_eq_true (HE.out.all L1.out L2.out)))
        go_wp2
        go_ret
        exact ⟨ret_bool hfin.out.symm, by first | exact ⟨_, rfl⟩ | exact ⟨_, World.drewN_drewN _ _ _⟩⟩
  · have hfin : Hid (b = false) := Lib.hid (hb.trans (decide_eq_false fun e => hnm (by rw [← L1.out, ← L2.out, e])))
    have hd : ((n : Int) != (m : Int)) = true := by simp; omega
    clear hnm hb
    go_enter Try.func139, Try.ntmps139
    go_wp2
    go_ret
    exact ⟨ret_bool hfin.out.symm, 0, rfl⟩

theorem drew_trans {w wr w2 : World} (h : ∃ q, wr = w.drewN q) (h2 : ∃ q, w2 = wr.drewN q) : ∃ q, w2 = w.drewN q := by
  obtain ⟨q, rfl⟩ := h2
  exact drew_more h q

set_option maxHeartbeats 1000000 in
theorem rlists (A B : Option Addr) (n c m d : Nat) (xs ys : List (List Int)) (b : Bool) (w : World) (hx : Lists w A n xs) (hy : Lists w B m ys) (hb : b = decide (xs = ys)) :
    Calls Try.prog 77 #[.slice A n c, .slice B m d] w fun e w' => e = .returned (.bool b) ∧ ∃ q, w' = w.drewN q := by
  have L1 := Lib.hid hx.1
  have L2 := Lib.hid hy.1
  have hn := hx.2.1
  have hm := hy.2.1
  by_cases hnm : n = m
  · subst hnm
    have HB := Lib.hid hb
    clear hb
    go_enter Try.func77, Try.ntmps77
    go_wp2
    go_loopw [5] (fun i wr => ∃ j : Nat, j ≤ n ∧ i = .int .i64 j ∧ AgreeL [] xs ys j ∧ ∃ q, wr = w.drewN q) (fun i _ => n - (intOf i).toNat)
    case atStart => exact ⟨0, Nat.zero_le _, rfl, AgreeL.zero _ _ _, 0, rfl⟩
    case round =>
      obtain ⟨j, hj, rfl, heq, hw⟩ := hrel
      have hx' : Lists wr A n xs := by obtain ⟨q, rfl⟩ := hw; exact hx
      have hy' : Lists wr B n ys := by obtain ⟨q, rfl⟩ := hw; exact hy
      have HW := Lib.hid hw
      clear hw
      have HE := Lib.hid heq
      clear heq
      by_cases hlt : j < n
      · obtain ⟨g1, o1, A1, n1, c1, rfl, _, hc1, hi1⟩ := hx'.at_ hlt
        obtain ⟨g2, o2, A2, n2, c2, rfl, _, hc2, hi2⟩ := hy'.at_ hlt
        by_cases he : xs.getD j [] = ys.getD j []
        · have hnx := Lib.hid (HE.out.succ he)
          have hd := Lib.hid ((decide_eq_true he).symm)
          clear he
          go_wp2
          go_quiet ((go_at_call 100; exact Calls.quiet_of (rints _ _ _ _ _ _ _ _ _ _ hi1 hi2 hd.out)))
          go_wp2
          go_roundw
          case rel => exact ⟨j + 1, by omega, by go_num, hnx.out, drew_more HW.out _⟩
          case measure => simp [intOf]; omega
        · have hfin : Hid (b = false) := Lib.hid (HB.out.trans (decide_eq_false fun e => he (by rw [e])))
          have hd := Lib.hid ((decide_eq_false he).symm)
          clear he
          go_wp2
          go_quiet ((go_at_call 100; exact Calls.quiet_of (rints _ _ _ _ _ _ _ _ _ _ hi1 hi2 hd.out)))
          go_wp2
          go_ret
          exact ⟨ret_bool hfin.out.symm, by first | exact drew_more HW.out _ | exact HW.out⟩
      · obtain rfl : j = n := by omega
        have hfin : Hid (b = true) := Lib.hid (HB.out.trans (decide_eq_true (HE.out.all L1.out L2.out)))
        go_wp2
        go_ret
        exact ⟨ret_bool hfin.out.symm, by first | exact drew_more HW.out _ | exact HW.out⟩
  · have hfin : Hid (b = false) := Lib.hid (hb.trans (decide_eq_false fun e => hnm (by rw [← L1.out, ← L2.out, e])))
    have hd : ((n : Int) != (m : Int)) = true := by simp; omega
    clear hnm hb
    go_enter Try.func77, Try.ntmps77
    go_wp2
    go_ret
    exact ⟨ret_bool hfin.out.symm, 0, rfl⟩

end Go.Proofs.Ytogcecfeofbbnaa
end

section
/- Same of two machines by the two texts. -/
namespace Go.Proofs.Ytogcecfeofbbnaa
open Go.RowKit

set_option maxHeartbeats 1000000 in
set_option maxRecDepth 100000 in
theorem rsamem (i st i2 st2 : Int) (A B C D : Option Addr) (n c m d p e q f : Nat) (nx ot nx2 ot2 : List (List Int)) (b : Bool) (w : World) (hx : Lists w A n nx) (ho : Lists w B m ot) (hx2 : Lists w C p nx2) (ho2 : Lists w D q ot2)
    (hb : b = decide (i = i2 ∧ st = st2 ∧ nx = nx2 ∧ ot = ot2)) :
    Calls Try.prog 38 #[.agg #[.int .i64 i, .int .i64 st, .slice A n c, .slice B m d], .agg #[.int .i64 i2, .int .i64 st2, .slice C p e, .slice D q f]] w fun e w' => e = .returned (.bool b) ∧ Below w.heap.size w w' := by
  have hb0 := alloc_below w (.cells #[.int .i64 i, .int .i64 st, .slice A n c, .slice B m d] 24)
  have hb1 := bt hb0 (alloc_below (w.alloc (.cells #[.int .i64 i, .int .i64 st, .slice A n c, .slice B m d] 24)) (.cells #[.int .i64 i2, .int .i64 st2, .slice C p e, .slice D q f] 24))
  by_cases h1 : i = i2
  · by_cases h2 : st = st2
    · by_cases h3 : nx = nx2
      · have z1 : (i == i2) = true := by simpa using h1
        have z2 : (st == st2) = true := by simpa using h2
        have H3 := Lib.hid ((decide_eq_true h3).symm)
        have hfin : Hid (b = decide (ot = ot2)) := Lib.hid (by rw [hb, decide_eq_decide]; exact ⟨fun H => H.2.2.2, fun H => ⟨h1, h2, h3, H⟩⟩)
        clear hb h1 h2 h3
        go_enter Try.func38, Try.ntmps38
        go_wp2_with fail
        refine (rlists _ _ _ _ _ _ _ _ _ _ (hx.below hb1) (hx2.below hb1) H3.out).mono ?_
        rintro e w1 ⟨rfl, q1, rfl⟩
        go_wp2_with fail
        refine (rlists _ _ _ _ _ _ _ _ _ _ (ho.below (below_drewN hb1 q1)) (ho2.below (below_drewN hb1 q1)) hfin.out).mono ?_
        rintro e w1 ⟨rfl, q2, rfl⟩
        go_wp2
        go_ret
        exact ⟨rfl, below_drewN hb1 _⟩
      · have z1 : (i == i2) = true := by simpa using h1
        have z2 : (st == st2) = true := by simpa using h2
        have H3 := Lib.hid ((decide_eq_false h3).symm)
        have hfin : Hid (b = false) := Lib.hid (hb.trans (decide_eq_false fun H => h3 H.2.2.1))
        clear hb h1 h2 h3
        go_enter Try.func38, Try.ntmps38
        go_wp2_with fail
        refine (rlists _ _ _ _ _ _ _ _ _ _ (hx.below hb1) (hx2.below hb1) H3.out).mono ?_
        rintro e w1 ⟨rfl, q1, rfl⟩
        go_wp2
        go_ret
        exact ⟨ret_bool hfin.out.symm, below_drewN hb1 q1⟩
    · have z1 : (i == i2) = true := by simpa using h1
      have z2 : (st == st2) = false := by simpa using h2
      have hfin : Hid (b = false) := Lib.hid (hb.trans (decide_eq_false fun H => h2 H.2.1))
      clear hb h1 h2
      go_enter Try.func38, Try.ntmps38
      go_wp2
      go_ret
      exact ⟨ret_bool hfin.out.symm, hb1⟩
  · have z1 : (i == i2) = false := by simpa using h1
    have hfin : Hid (b = false) := Lib.hid (hb.trans (decide_eq_false fun H => h1 H.1))
    clear hb h1
    go_enter Try.func38, Try.ntmps38
    go_wp2
    go_ret
    exact ⟨ret_bool hfin.out.symm, hb1⟩

end Go.Proofs.Ytogcecfeofbbnaa
end
