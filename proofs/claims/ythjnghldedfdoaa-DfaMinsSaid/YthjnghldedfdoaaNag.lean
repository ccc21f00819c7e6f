/- Lemmas of the proofs of this seat, of the parts Dcm2, Dkey, Dcnm, Dclp, Dcls2, Dquo, Dmin, Dtow, Dfmw, Samw. Conditions: none. -/
import Derived.Test.YthjnghldedfdoaaNae
import Derived.Test.YthjnghldedfdoaaNad
import Derived.Test.YthjnghldedfdoaaNac
import Derived.Test.YthjnghldedfdoaaNab
import Derived.Deep.RegionHeld3
import Derived.Deep.CutRange
import Derived.Test.YthjnghldedfdoaaNaf
import Derived.Test.YthjnghldedfdoaaNaa
section
/- Combine of the program. -/
namespace Go.Proofs.Ythjnghldedfdoaa
open Go.RowKit Go.Shelf

/-- The four boxes of Combine. -/
theorem cmb_boxes (w : World) (op i st i' st' : Int) (A B A' B' : Option Addr) (n c m d n' c' m' d' : Nat) : ∃ w1, w1 = (((w.alloc (.cells #[.int .i64 op] 3)).alloc (.cells #[.int .i64 i, .int .i64 st, .slice A n c, .slice B m d] 25)).alloc (.cells #[.int .i64 i', .int .i64 st', .slice A' n' c', .slice B' m' d'] 25)).alloc (.cells #[.int .i64 0, .int .i64 0, .slice none 0 0, .slice none 0 0] 25) ∧
    Below w.heap.size w w1 ∧ w1.cell? ⟨w.heap.size, 0, none⟩ = some (.int .i64 op) ∧ Dblk w1 (w.heap.size + 1) (.int .i64 i) (.int .i64 st) (.slice A n c) (.slice B m d) ∧ Dblk w1 (w.heap.size + 2) (.int .i64 i') (.int .i64 st') (.slice A' n' c') (.slice B' m' d') ∧
    Dblk w1 (w.heap.size + 3) (.int .i64 0) (.int .i64 0) (.slice none 0 0) (.slice none 0 0) ∧ w1.heap.size = w.heap.size + 4 := by
  obtain ⟨u0, hu0⟩ : ∃ u0, u0 = w.alloc (.cells #[.int .i64 op] 3) := ⟨_, rfl⟩
  have z0 : u0.heap.size = w.heap.size + 1 := by rw [hu0]; simp
  have b0 : Below w.heap.size w u0 := by rw [hu0]; exact alloc_below _ _
  have h0 : u0.heap[w.heap.size]? = some (.cells #[.int .i64 op] 3 (0, 0)) := by rw [hu0]; exact heap_alloc_new _ _
  obtain ⟨u1, e1, c1, d1, d1'⟩ := two_boxes u0 i st i' st' A B A' B' n c m d n' c' m' d'
  have z1 : u1.heap.size = u0.heap.size + 2 := by rw [e1]; simp
  have c2 := alloc_below u1 (.cells #[.int .i64 0, .int .i64 0, .slice none 0 0, .slice none 0 0] 25)
  have d2 := dfa_box u1 (.int .i64 0) (.int .i64 0) (.slice none 0 0) (.slice none 0 0)
  have z2 : (u1.alloc (.cells #[.int .i64 0, .int .i64 0, .slice none 0 0, .slice none 0 0] 25)).heap.size = u1.heap.size + 1 := by simp
  refine ⟨_, rfl, ?_, ?_, ?_, ?_, ?_, ?_⟩
  all_goals rw [← hu0, ← e1]
  · exact bt b0 (bt c1 c2)
  · exact cell_of_row _ _ 0 _ _ (0, 0) (((bt c1 c2).block _ (by omega)).trans h0)
  · rw [← z0]; exact d1.kept c2 (by omega)
  · rw [show w.heap.size + 2 = u0.heap.size + 1 by omega]; exact d1'.kept c2 (by omega)
  · rw [show w.heap.size + 3 = u1.heap.size by omega]; exact d2
  · omega
theorem four_in (op : Int) : decide (op ∈ [0, 1, 2, (3 : Int)]) = decide (0 ≤ op ∧ op < 4) := by
  rw [decide_eq_decide]
  simp
  omega
set_option maxHeartbeats 4000000 in
set_option maxRecDepth 100000 in
theorem dcombine_op (op i st i' st' : Int) (A B A' B' : Option Addr) (n c m d n' c' m' d' : Nat) (w : World) (ho : ¬ (0 ≤ op ∧ op < 4)) :
    Calls Try.prog 22 #[.int .i64 op, .agg #[.int .i64 i, .int .i64 st, .slice A n c, .slice B m d], .agg #[.int .i64 i', .int .i64 st', .slice A' n' c', .slice B' m' d']] w fun e w' =>
      e = .returned (.tuple #[.agg #[.int .i64 0, .int .i64 0, .slice none 0 0, .slice none 0 0], .int .i64 2]) ∧ Below w.heap.size w w' := by
  obtain ⟨w0, hw0, hb0, ko, hB, hB', hR, hz0⟩ := cmb_boxes w op i st i' st' A B A' B' n c m d n' c' m' d'
  obtain ⟨w1, hw1⟩ : ∃ w1, w1 = w0.alloc (.cells #[.int .i64 0, .int .i64 1, .int .i64 2, .int .i64 3] 3) := ⟨_, rfl⟩
  have hb1 : Below w0.heap.size w0 w1 := by rw [hw1]; exact alloc_below _ _
  have hO : Owned w1 w0.heap.size (.slice (some ⟨w0.heap.size, 0, none⟩) 4 4) [0, 1, 2, 3] := by
    rw [hw1]
    exact Owned.literal w0 w0.heap.size [0, 1, 2, 3] #[.int .i64 0, .int .i64 1, .int .i64 2, .int .i64 3] 4 (Nat.le_refl _) rfl rfl (by simp)
  have ko1 := (hb1.cell (p := ⟨w.heap.size, 0, none⟩) (show w.heap.size < w0.heap.size by omega)).trans ko
  have HO := Lib.hid (hO.ints (by simp))
  have HW0 := Lib.hid hw0
  have HW1 := Lib.hid hw1
  have HB1 := Lib.hid (bt hb0 hb1)
  have HB0 := Lib.hid hb1
  have HR := Lib.hid hR
  have HZ := Lib.hid hz0
  have HF := Lib.hid (show false = decide (op ∈ [0, 1, 2, (3 : Int)]) by rw [four_in]; exact (decide_eq_false ho).symm)
  rw [hw1] at ko1
  clear hw0 hb0 ko hB hB' hR hw1 hb1 hO hz0 ho
  go_enter Try.func22, Try.ntmps22
  go_wp2_with fail
  rw [← HW0.out, ← HW1.out]
  have ho4 : Ints w1 (some ⟨w.heap.size + 1 + 1 + 1 + 1, 0, none⟩) 4 [0, 1, 2, 3] := by have := HO.out; rw [HZ.out] at this; exact this
  refine (scontains _ _ _ _ _ false w1 ho4 HF.out).mono ?_
  rintro e w2 ⟨rfl, b2⟩
  have b02 := bt HB0.out b2
  have hzz := HZ.out
  obtain ⟨q0, q1, q2, q3, z0, z1, z2, z3⟩ := (HR.out.kept b02 (show w.heap.size + 3 < w0.heap.size by omega)).cells
  have HRr := Lib.hid (HR.out.kept b02 (show w.heap.size + 3 < w0.heap.size by omega))
  have HB2 := Lib.hid (bt HB1.out b2)
  clear b02 b2 ho4 ko1 hzz
  go_wp2_with fail
  refine bodyPost_ret (results_dfa rfl _ _ (w.heap.size + 3) (.int .i64 0) (.int .i64 0) (.slice none 0 0) (.slice none 0 0) rfl (HRr.out.set4 _ _ _ _)) rfl ?_
  exact ⟨rfl, below_set4 (by omega) HB2.out _ _ _ _⟩
set_option maxHeartbeats 4000000 in
set_option maxRecDepth 100000 in
theorem dcombine_bad (op i st i' st' : Int) (A B A' B' : Option Addr) (n c m d n' c' m' d' : Nat) (nx nx' : List (List Int)) (ac ac' : List Bool) (w : World) (ho : 0 ≤ op ∧ op < 4) (hx : Lists w A n nx) (ha : Bools w B m ac) (hx' : Lists w A' n' nx') (ha' : Bools w B' m' ac') (hv : ¬ vld2 i st nx ac i' st' nx' ac' = 0) :
    Calls Try.prog 22 #[.int .i64 op, .agg #[.int .i64 i, .int .i64 st, .slice A n c, .slice B m d], .agg #[.int .i64 i', .int .i64 st', .slice A' n' c', .slice B' m' d']] w fun e w' =>
      e = .returned (.tuple #[.agg #[.int .i64 0, .int .i64 0, .slice none 0 0, .slice none 0 0], .int .i64 (vld2 i st nx ac i' st' nx' ac')]) ∧ Below w.heap.size w w' := by
  obtain ⟨w0, hw0, hb0, ko, hB, hB', hR, hz0⟩ := cmb_boxes w op i st i' st' A B A' B' n c m d n' c' m' d'
  obtain ⟨w1, hw1⟩ : ∃ w1, w1 = w0.alloc (.cells #[.int .i64 0, .int .i64 1, .int .i64 2, .int .i64 3] 3) := ⟨_, rfl⟩
  have hb1 : Below w0.heap.size w0 w1 := by rw [hw1]; exact alloc_below _ _
  have hO : Owned w1 w0.heap.size (.slice (some ⟨w0.heap.size, 0, none⟩) 4 4) [0, 1, 2, 3] := by
    rw [hw1]
    exact Owned.literal w0 w0.heap.size [0, 1, 2, 3] #[.int .i64 0, .int .i64 1, .int .i64 2, .int .i64 3] 4 (Nat.le_refl _) rfl rfl (by simp)
  have ko1 := (hb1.cell (p := ⟨w.heap.size, 0, none⟩) (show w.heap.size < w0.heap.size by omega)).trans ko
  obtain ⟨x, hx0, hxe⟩ : ∃ x, ¬ x = 0 ∧ vld2 i st nx ac i' st' nx' ac' = x := ⟨_, hv, rfl⟩
  have HXE := Lib.hid hxe
  have t1 : (x != 0) = true := by simpa using hx0
  have HO := Lib.hid (hO.ints (by simp))
  have HW0 := Lib.hid hw0
  have HW1 := Lib.hid hw1
  have HB1 := Lib.hid (bt hb0 hb1)
  have HB0 := Lib.hid hb1
  have HR := Lib.hid hR
  have HZ := Lib.hid hz0
  have HB := Lib.hid hB
  have HB' := Lib.hid hB'
  have HX := Lib.hid (fun (W : World) (h : Below w0.heap.size w0 W) => And.intro ((hx.below hb0).below h) (And.intro ((ha.below hb0).below h) (And.intro ((hx'.below hb0).below h) ((ha'.below hb0).below h))))
  have HF := Lib.hid (show true = decide (op ∈ [0, 1, 2, (3 : Int)]) by rw [four_in]; exact (decide_eq_true ho).symm)
  rw [hw1] at ko1
  clear hw0 hb0 ko hB hB' hR hw1 hb1 hO hz0 ho hv hxe
  go_enter Try.func22, Try.ntmps22
  go_wp2_with fail
  rw [← HW0.out, ← HW1.out]
  have ho4 : Ints w1 (some ⟨w.heap.size + 1 + 1 + 1 + 1, 0, none⟩) 4 [0, 1, 2, 3] := by have := HO.out; rw [HZ.out] at this; exact this
  refine (scontains _ _ _ _ _ true w1 ho4 HF.out).mono ?_
  rintro e w2 ⟨rfl, b2⟩
  have b02 := bt HB0.out b2
  have hzz := HZ.out
  have HB02 := Lib.hid b02
  obtain ⟨k0, k1, k2, k3, _⟩ := (HB.out.kept b02 (show w.heap.size + 1 < w0.heap.size by omega)).cells
  obtain ⟨j0, j1, j2, j3, _⟩ := (HB'.out.kept b02 (show w.heap.size + 2 < w0.heap.size by omega)).cells
  clear ho4 ko1 hzz b02
  go_wp2_with fail
  refine (pvpair _ _ _ _ _ _ _ _ _ _ _ _ _ _ _ _ _ _ _ _ _ (HX.out _ HB02.out).1 (HX.out _ HB02.out).2.1 (HX.out _ HB02.out).2.2.1 (HX.out _ HB02.out).2.2.2).mono ?_
  rintro e w3 ⟨rfl, b3⟩
  rw [HXE.out]
  have b03 := bt HB02.out b3
  have hzz := HZ.out
  obtain ⟨q0, q1, q2, q3, z0, z1, z2, z3⟩ := (HR.out.kept b03 (show w.heap.size + 3 < w0.heap.size by omega)).cells
  have HRr := Lib.hid (HR.out.kept b03 (show w.heap.size + 3 < w0.heap.size by omega))
  have HB3 := Lib.hid (bt HB1.out (bt b2 b3))
  clear b03 b3 b2 hzz k0 k1 k2 k3 j0 j1 j2 j3
  go_wp2_with fail
  refine bodyPost_ret (results_dfa rfl _ _ (w.heap.size + 3) (.int .i64 0) (.int .i64 0) (.slice none 0 0) (.slice none 0 0) rfl (HRr.out.set4 _ _ _ _)) rfl ?_
  exact ⟨by rw [HXE.out]; rfl, below_set4 (by omega) HB3.out _ _ _ _⟩
set_option maxHeartbeats 4000000 in
set_option maxRecDepth 100000 in
theorem dcombine (k i st st' n n' : Nat) (hk : k < 4) (A B A' B' : Option Addr) (c d c' d' : Nat) (nx nx' : List (List Int)) (ac ac' : List Bool) (w : World) (hx : Lists w A n nx) (ha : Bools w B n ac) (hx' : Lists w A' n' nx') (ha' : Bools w B' n' ac') (hM : Dok i st n nx ac) (hM' : Dok i st' n' nx' ac') :
    Calls Try.prog 22 #[.int .i64 k, .agg #[.int .i64 i, .int .i64 st, .slice A n c, .slice B n d], .agg #[.int .i64 i, .int .i64 st', .slice A' n' c', .slice B' n' d']] w fun e w' =>
      AutP w.heap.size i (autN (bothF nx nx') i (cmE i st n st' n' nx nx')) (autA (opA k ac ac') (cmE i st n st' n' nx nx')) (cmE i st n st' n' nx nx').length e w' ∧ Below w.heap.size w w' := by
  obtain ⟨w0, hw0, hb0, ko, hB, hB', hR, hz0⟩ := cmb_boxes w k i st i st' A B A' B' n c n d n' c' n' d'
  obtain ⟨w1, hw1⟩ : ∃ w1, w1 = w0.alloc (.cells #[.int .i64 0, .int .i64 1, .int .i64 2, .int .i64 3] 3) := ⟨_, rfl⟩
  have hb1 : Below w0.heap.size w0 w1 := by rw [hw1]; exact alloc_below _ _
  have hO : Owned w1 w0.heap.size (.slice (some ⟨w0.heap.size, 0, none⟩) 4 4) [0, 1, 2, 3] := by
    rw [hw1]
    exact Owned.literal w0 w0.heap.size [0, 1, 2, 3] #[.int .i64 0, .int .i64 1, .int .i64 2, .int .i64 3] 4 (Nat.le_refl _) rfl rfl (by simp)
  have HKO := Lib.hid (fun (W : World) (h : Below w0.heap.size w0 W) => (h.cell (p := ⟨w.heap.size, 0, none⟩) (show w.heap.size < w0.heap.size by omega)).trans ko)
  have ko1 := HKO.out w1 hb1
  have hn := hM.n2
  have hn' := hM'.n2
  have hi := hM.i2
  have hi1 := hM.i1
  have HV := Lib.hid (show vld2 i st nx ac i st' nx' ac' = 0 by unfold vld2; rw [if_pos hM.vld, if_pos hM'.vld, if_pos rfl])
  have HO := Lib.hid (hO.ints (by simp))
  have HW0 := Lib.hid hw0
  have HW1 := Lib.hid hw1
  have HB1 := Lib.hid (bt hb0 hb1)
  have HB0 := Lib.hid hb1
  have HB00 := Lib.hid hb0
  have HR := Lib.hid hR
  have HZ := Lib.hid hz0
  have HB := Lib.hid hB
  have HB' := Lib.hid hB'
  have HM := Lib.hid hM
  have HM' := Lib.hid hM'
  have HX := Lib.hid (fun (W : World) (h : Below w0.heap.size w0 W) => And.intro ((hx.below hb0).below h) (And.intro ((ha.below hb0).below h) (And.intro ((hx'.below hb0).below h) ((ha'.below hb0).below h))))
  have HF := Lib.hid (show true = decide ((k : Int) ∈ [0, 1, 2, (3 : Int)]) by rw [four_in]; exact (decide_eq_true ⟨by omega, by omega⟩).symm)
  rw [hw1] at ko1
  clear hw0 hb0 ko hB hB' hR hw1 hb1 hO hz0 hM hM'
  go_enter Try.func22, Try.ntmps22
  go_wp2_with fail
  rw [← HW0.out, ← HW1.out]
  have ho4 : Ints w1 (some ⟨w.heap.size + 1 + 1 + 1 + 1, 0, none⟩) 4 [0, 1, 2, 3] := by have := HO.out; rw [HZ.out] at this; exact this
  refine (scontains _ _ _ _ _ true w1 ho4 HF.out).mono ?_
  rintro e w2 ⟨rfl, b2⟩
  have b02 := bt HB0.out b2
  have hzz := HZ.out
  have HB02 := Lib.hid b02
  obtain ⟨k0, k1, k2, k3, _⟩ := (HB.out.kept b02 (show w.heap.size + 1 < w0.heap.size by omega)).cells
  obtain ⟨j0, j1, j2, j3, _⟩ := (HB'.out.kept b02 (show w.heap.size + 2 < w0.heap.size by omega)).cells
  clear ho4 ko1 hzz b02 b2
  go_wp2_with fail
  refine (pvpair _ _ _ _ _ _ _ _ _ _ _ _ _ _ _ _ _ _ _ _ _ (HX.out _ HB02.out).1 (HX.out _ HB02.out).2.1 (HX.out _ HB02.out).2.2.1 (HX.out _ HB02.out).2.2.2).mono ?_
  rintro e w3 ⟨rfl, b3⟩
  rw [HV.out]
  have b03 := bt HB02.out b3
  have hzz := HZ.out
  have HB03 := Lib.hid b03
  clear k0 k1 k2 k3 j0 j1 j2 j3
  obtain ⟨k0, k1, k2, k3, _⟩ := (HB.out.kept b03 (show w.heap.size + 1 < w0.heap.size by omega)).cells
  obtain ⟨j0, j1, j2, j3, _⟩ := (HB'.out.kept b03 (show w.heap.size + 2 < w0.heap.size by omega)).cells
  clear b03 b3 hzz
  go_wp2_with fail
  refine (dboth _ _ _ _ _ _ _ _ _ _ _ _ _ _ _ _ _).mono ?_
  rintro e w4 ⟨g, g', rfl, h1, h2, _, _, b4⟩
  have b04 := bt HB03.out b4
  have HB04 := Lib.hid b04
  obtain ⟨x1, x2, x3, x4⟩ := HX.out _ b04
  have hzz := HZ.out
  go_wp2_with fail
  refine (dautomaton _ _ _ _ _ _ i n n' st st' w4 (both_stp HM.out HM'.out) HM.out.st HM'.out.st (by omega) (by omega) hi1 hi (stepB HM.out HM'.out h1 h2 x1 x3) (wantC hk (HKO.out _ b04) (HB.out.kept b04 (show w.heap.size + 1 < w0.heap.size by omega)) x2 (HB'.out.kept b04 (show w.heap.size + 2 < w0.heap.size by omega)) x4)).mono ?_
  rintro e w5 ⟨hA, b5⟩
  have b05 := bt HB04.out b5
  have HRr := Lib.hid (HR.out.kept b05 (show w.heap.size + 3 < w0.heap.size by omega))
  obtain ⟨q0, q1, q2, q3, z0, z1, z2, z3⟩ := HRr.out.cells
  have HB05 := Lib.hid (bt HB00.out b05)
  have hz4 := Lib.hid (bt HB00.out b04).size
  clear k0 k1 k2 k3 j0 j1 j2 j3 x1 x2 x3 x4 h1 h2 b5 b05 b04 b4 hzz
  unfold AutP at hA
  split at hA
  · rename_i hle
    obtain ⟨A5, c5, B5, d5, rfl, o5, p5⟩ := hA
    have HLE := Lib.hid hle
    have HO5 := Lib.hid o5
    have HP5 := Lib.hid p5
    clear hle o5 p5
    go_wp2_with fail
    refine bodyPost_ret (results_dfa rfl _ _ (w.heap.size + 3) _ _ _ _ rfl (HRr.out.set4 _ _ _ _)) rfl ?_
    exact ⟨AutP.ok HLE.out ⟨A5, c5, B5, d5, rfl, (HO5.out.keptT (HRr.out.off4 _ _ _ _ (by decide)) (HRr.out.off4 _ _ _ _ (by decide))).lower hz4.out, (HP5.out.keptT (HRr.out.off4 _ _ _ _ (by decide))).lower hz4.out⟩, below_set4 (by omega) HB05.out _ _ _ _⟩
  · rename_i hle
    subst hA
    have HLE := Lib.hid hle
    clear hle
    go_wp2_with fail
    refine bodyPost_ret (results_dfa rfl _ _ (w.heap.size + 3) _ _ _ _ rfl (HRr.out.set4 _ _ _ _)) rfl ?_
    exact ⟨AutP.bad (Nat.lt_of_not_le HLE.out), below_set4 (by omega) HB05.out _ _ _ _⟩
end Go.Proofs.Ythjnghldedfdoaa
end

section
/- number of the program: the numbers of pairs. -/
namespace Go.Proofs.Ythjnghldedfdoaa
open Go.RowKit

def cellsK (p : Nat × Nat) : List Value := [.int .i64 (p.1 : Nat), .int .i64 (p.2 : Nat)]
theorem flat_zero : ∀ n : Nat, ((List.replicate n ((0, 0) : Nat × Nat)).map cellsK).flatten = List.replicate (n * 2) (Value.int .i64 0)
  | 0 => rfl
  | n + 1 => by
    rw [List.replicate_succ, List.map_cons, List.flatten_cons, flat_zero n, Nat.succ_mul, Nat.add_comm, ← List.replicate_append_replicate]
    rfl
theorem made_prs (n : Nat) : (madeCells (Value.agg #[.int .i64 0, .int .i64 0]).cells (n * 2)).toList = ((List.replicate n ((0, 0) : Nat × Nat)).map cellsK).flatten := by
  rw [flat_zero]
  apply List.ext_getElem
  · simp [madeCells]
  · intro k h1 h2
    simp only [madeCells, Value.cells, List.getElem_replicate]
    simp
    have : k % 2 = 0 ∨ k % 2 = 1 := by omega
    rcases this with h | h <;> simp [h]
/-- make([]pair, n). -/
theorem wpList_make_prs {ops : Array Oper} {rest : List Oper} {o : Oper} {a : Act} {Q : Exit → Act → World → Prop} (w : World) (hg : o.guard = none) (l c : Operand) (hop : o.op = Op.makeSlice 115 l c)
    (kl kc : IntKind) (n : Nat) (hl : a.eval l = .int kl n) (hc : a.eval c = .int kc n) (hn : n ≤ 1099511627776)
    (hK : ∀ w', Rws w' w.heap.size 82 2 (.slice (some ⟨w.heap.size, 0, none⟩) n n) ((List.replicate n ((0, 0) : Nat × Nat)).map cellsK) → Below w.heap.size w w' → wpList Try.prog ops Q rest (a.put o.dst (.slice (some ⟨w.heap.size, 0, none⟩) n n)) w') :
    wpList Try.prog ops Q (o :: rest) a w := by
  obtain ⟨i, hi, hz0, hz1, hz2⟩ := info_parts infoP
  refine wpList_make_full w hg l c 115 hop w.heap.size 82 i _ 2 Try.underlying115 hi hz0 hz1 kl kc _ _ n hl hc rfl rfl (by rw [hz2]; omega) (by unfold maxLen; omega) (Nat.le_refl _) ?_
  intro w' h1 h2
  refine hK w' ⟨fun x hx => ?_, ?_⟩ ((Below.refl _ _).grown h2 (Nat.le_refl _) (fun k hk => by cases hk))
  · obtain ⟨p, _, rfl⟩ := List.mem_map.1 hx
    rfl
  · rw [← made_prs, List.length_map, List.length_replicate]
    exact h1
theorem flat_set (a b : Nat) : ∀ (K : List (Nat × Nat)) (j : Nat), ((K.set j (a, b)).map cellsK).flatten = ((K.map cellsK).flatten.set (j * 2) (.int .i64 (a : Nat))).set (j * 2 + 1) (.int .i64 (b : Nat))
  | [], _ => by simp
  | p :: K, 0 => rfl
  | p :: K, j + 1 => by
    have ih := flat_set a b K j
    rw [List.set_cons_succ, List.map_cons, List.map_cons, List.flatten_cons, List.flatten_cons, ih]
    show _ = (((Value.int .i64 (p.1 : Nat)) :: (Value.int .i64 (p.2 : Nat)) :: (List.map cellsK K).flatten).set ((j + 1) * 2) _).set ((j + 1) * 2 + 1) _
    rw [show (j + 1) * 2 = j * 2 + 1 + 1 by omega]
    rfl
/-- A pair is stored. -/
theorem Rws.storedK {w : World} {base g n c : Nat} {K : List (Nat × Nat)} (h : Rws w base 82 2 (.slice (some ⟨g, 0, none⟩) n c) (K.map cellsK)) (hn : K.length = n) (j a b : Nat) :
    Rws ((w.setCell ⟨g, j * 2, none⟩ (.int .i64 (a : Nat))).setCell ⟨g, j * 2 + 1, none⟩ (.int .i64 (b : Nat))) base 82 2 (.slice (some ⟨g, 0, none⟩) n c) ((K.set j (a, b)).map cellsK) := by
  refine ⟨fun x hx => ?_, ?_⟩
  · obtain ⟨p, _, rfl⟩ := List.mem_map.1 hx
    rfl
  · have h2 := h.2
    rw [List.length_map, hn] at h2
    have := (World.ownsRow.stored (World.ownsRow.stored h2 (j * 2) (.int .i64 (a : Nat))).1 (j * 2 + 1) (.int .i64 (b : Nat))).1
    rw [List.length_map, List.length_set, hn, flat_set]
    exact this
theorem run_makeMap_hint (w : World) (n : Nat) : (Instr.makeMap 117 (some (.int .i64 n))).run Try.prog w = .ok (.map (some w.heap.size)) (w.alloc (.map #[] 0)) := by
  simp [Instr.makeMap, go_sem]
end Go.Proofs.Ythjnghldedfdoaa
end

section
/- number of the program: the walk. -/
namespace Go.Proofs.Ythjnghldedfdoaa
open Go.RowKit

theorem Owned.apartMap {w w' : World} {base g n c b : Nat} {xs : List Int} (h : Owned w base (.slice (some ⟨g, 0, none⟩) n c) xs) (hg : w.grownBy w' (some b)) (hne : b ≠ g) : Owned w' base (.slice (some ⟨g, 0, none⟩) n c) xs :=
  World.ownsRow.kept h hg (.inr (by simp [Value.ownBlock]; exact fun e => hne e.symm))
theorem mid_set (l : List Int) (n k : Nat) (x : Int) (hl : l.length = n) (hk : k < n) (hx : l[k]? = some x) : (l.take k ++ List.replicate (n - k) 0).set k x = l.take (k + 1) ++ List.replicate (n - (k + 1)) 0 := by
  apply List.ext_getElem?
  intro j
  have h1 : (l.take k).length = k := by rw [List.length_take]; omega
  have h2 : (l.take (k + 1)).length = k + 1 := by rw [List.length_take]; omega
  rw [List.getElem?_set, List.length_append, h1, List.length_replicate]
  by_cases e : k = j
  · subst e
    rw [if_pos rfl, if_pos (by omega), List.getElem?_append_left (by omega), List.getElem?_take, if_pos (by omega), hx]
  · rw [if_neg e]
    by_cases e2 : j < k
    · rw [List.getElem?_append_left (by omega), List.getElem?_append_left (by omega), List.getElem?_take, List.getElem?_take, if_pos e2, if_pos (by omega)]
    · rw [List.getElem?_append_right (by omega), List.getElem?_append_right (by omega), h1, h2, List.getElem?_replicate, List.getElem?_replicate]
      by_cases e3 : j < n
      · rw [if_pos (by omega), if_pos (by omega)]
      · rw [if_neg (by omega), if_neg (by omega)]
theorem mid_len (l : List Int) (n k : Nat) (hl : l.length = n) (hk : k ≤ n) : (l.take k ++ List.replicate (n - k) 0).length = n := by
  rw [List.length_append, List.length_take, List.length_replicate]; omega
/-- The key of a place. -/
def kyF (K : List (Nat × Nat)) (s : Nat) : List Int := [((K.getD s (0, 0)).1 : Int), ((K.getD s (0, 0)).2 : Int)]
theorem getK_at {K : List (Nat × Nat)} {k : Nat} (h : k < K.length) : (K.map cellsK).getD k [] = cellsK (K.getD k (0, 0)) := by
  rw [List.getD_eq_getElem?_getD, List.getD_eq_getElem?_getD, List.getElem?_map, List.getElem?_eq_getElem h]; rfl
theorem getK_mem {K : List (Nat × Nat)} {k : Nat} (h : k < K.length) : K.getD k (0, 0) ∈ K := by
  rw [List.getD_eq_getElem?_getD, List.getElem?_eq_getElem h]; exact List.getElem_mem h

set_option maxHeartbeats 4000000 in
set_option maxRecDepth 100000 in
theorem dcnum (n g c base : Nat) (K : List (Nat × Nat)) (w : World) (h : Rws w base 82 2 (.slice (some ⟨g, 0, none⟩) n c) (K.map cellsK)) (hl : K.length = n) (hn1 : 0 < n) (hn : n ≤ 128) (hb : ∀ p, p ∈ K → p.1 ≤ 4611686018427387904 ∧ p.2 ≤ 4611686018427387904) :
    Calls Try.prog 82 #[.slice (some ⟨g, 0, none⟩) n c] w fun e w' => ∃ A' c', e = .returned (.tuple #[.slice (some ⟨A', 0, none⟩) n c', .int .i64 ((grp (kyF K) n).length : Nat)]) ∧ Owned w' w.heap.size (.slice (some ⟨A', 0, none⟩) n c') (zs (num (kyF K) n)) ∧ Below w.heap.size w w' := by
  obtain ⟨f, hf⟩ : ∃ f : Nat → List Int, f = kyF K := ⟨_, rfl⟩
  rw [← hf]
  have HF := Lib.hid hf
  have HK := Lib.hid (show ∀ s, s < n → IsK 82 (f s) from fun s hs => by
    obtain ⟨h1, h2⟩ := hb _ (getK_mem (k := s) (by omega))
    rw [hf]
    exact isK_pair h1 h2)
  have HL := Lib.hid hl
  have HR := Lib.hid (fun (W : World) (hB : Below w.heap.size w W) => h.kept hB)
  obtain ⟨z, hz⟩ : ∃ z, z = w.heap.size := ⟨_, rfl⟩
  have HZ := Lib.hid hz
  have hmm := fun W => run_makeMap_hint W n
  clear hf hb h hz hl
  go_enter Try.func82, Try.ntmps82
  go_wp2_with (refine wpList_make_ints _ rfl _ _ rfl .i64 .i64 n rfl rfl (by omega) ?_; intro w3 ho3 b3)
  clear hmm
  rw [← HZ.out]
  obtain ⟨gm, hgm⟩ : ∃ gm, gm = w3.heap.size := ⟨_, rfl⟩
  rw [← hgm]
  obtain ⟨g9, e9, hg9, hg9', _⟩ := ho3.head (by omega)
  cases e9
  have hN4 : NumIs 82 (w3.alloc (.map #[] 0)) gm [] := by rw [hgm]; exact NumIs.made _ _
  have hb4 := bt b3 (alloc_below w3 (.map #[] 0))
  have hO4 := ho3.kept (alloc_below w3 (.map #[] 0))
  rw [← HZ.out] at hO4 hb4
  have hgz : z < gm := by rw [hgm, HZ.out]; exact hg9'
  have HN4 := Lib.hid hN4
  have HB4 := Lib.hid hb4
  have HO4 := Lib.hid hO4
  clear hgm hN4 hb4 hO4 ho3 b3 hg9 hg9'
  go_loopw [18] (fun kv wr => ∃ s : Nat, s ≤ n ∧ kv = .int .i64 s ∧ NumIs 82 wr gm (grp f s) ∧ Owned wr z (.slice (some ⟨z, 0, none⟩) n n) (zs ((num f n).take s) ++ List.replicate (n - s) 0) ∧ Below z w wr) (fun kv _ => n - (intOf kv).toNat)
  case atStart => exact ⟨0, Nat.zero_le _, rfl, HN4.out, by simpa [zs] using HO4.out, HB4.out⟩
  case round =>
    obtain ⟨s, hs, rfl, hN, hO, hbr⟩ := hrel
    have HN := Lib.hid hN
    have HO := Lib.hid hO
    have HBR := Lib.hid hbr
    clear hN hO hbr
    by_cases hlt : s < n
    · obtain ⟨p, hp⟩ : ∃ p, p = K.getD s (0, 0) := ⟨_, rfl⟩
      have hbz : Below w.heap.size w wr := by have := HBR.out; rw [HZ.out] at this; exact this
      have hzr : z ≤ wr.heap.size := by rw [HZ.out]; exact hbz.size
      obtain ⟨gA, cA, eA, hgA, hgA2, _, hat⟩ := (HR.out wr hbz).at_ (by rw [List.length_map, HL.out]; omega)
      injection eA with eA e1 e2
      cases eA
      clear e1 e2
      have x0 : wr.cell? ⟨g, s * 2, none⟩ = some (.int .i64 (p.1 : Nat)) := by
        have := hat s 0 (by rw [List.length_map, HL.out]; exact hlt) (by decide)
        rw [getK_at (by rw [HL.out]; exact hlt), ← hp] at this
        exact this
      have x1 : wr.cell? ⟨g, s * 2 + 1, none⟩ = some (.int .i64 (p.2 : Nat)) := by
        have := hat s 1 (by rw [List.length_map, HL.out]; exact hlt) (by decide)
        rw [getK_at (by rw [HL.out]; exact hlt), ← hp] at this
        exact this
      have hkv : kv (f s) = .agg #[.int .i64 (p.1 : Nat), .int .i64 (p.2 : Nat)] := by rw [HF.out]; unfold kyF; rw [← hp]; rfl
      have hK := HK.out s hlt
      have hwl : (zs (num f n)).length = n := by rw [zs_len, num_len]
      have hnm : (zs (num f n))[s]? = some ((nmb f s : Nat) : Int) := by
        have := zs_at (num f n) s
        rw [num_at f hlt, List.getD_eq_getElem?_getD, List.getElem?_eq_getElem (by rw [hwl]; exact hlt)] at this
        rw [List.getElem?_eq_getElem (by rw [hwl]; exact hlt)]
        exact congrArg some this
      have htk : zs ((num f n).take s) = (zs (num f n)).take s := by simp [zs]
      have htk1 : zs ((num f n).take (s + 1)) = (zs (num f n)).take (s + 1) := by simp [zs]
      have hOr := HO.out
      rw [htk] at hOr
      have hst := mid_set (zs (num f n)) n s _ hwl hlt hnm
      have hml := mid_len (zs (num f n)) n s hwl (by omega)
      have HST := Lib.hid hst
      have HML := Lib.hid hml
      have HTK := Lib.hid htk1
      generalize (zs (num f n)).take s ++ List.replicate (n - s) 0 = mid at hOr HST HML
      obtain ⟨W, hW⟩ : ∃ W, W = wr.alloc (.cells #[.int .i64 (p.1 : Nat), .int .i64 (p.2 : Nat)] 82) := ⟨_, rfl⟩
      have hbW : Below wr.heap.size wr W := by rw [hW]; exact alloc_below _ _
      have hNW := HN.out.below hbW HN.out.lt
      have hOW := hOr.kept hbW
      have hbZ : Below z w W := HBR.out.trans (hbW.mono hzr)
      have hs0 : (0 : Int) ≤ (s : Int) := by omega
      have hzW : z ≤ W.heap.size := Nat.le_trans hzr hbW.size
      have HW := Lib.hid hW
      by_cases hin : f s ∈ grp f s
      · have hrun := hNW.look_in keyT_pair hin
        rw [hkv, ← nmb_old f hin] at hrun
        have HG1 := Lib.hid (show grp f (s + 1) = grp f s from addK_in hin)
        have hO2 := hOW.stored s ((nmb f s : Nat) : Int)
        obtain ⟨bq, oq, eq, hbq, hcq⟩ := (hOW.ints (by rw [HML.out]; omega)).at_ hlt
        cases eq
        obtain ⟨gq, eg, _, _, hfz⟩ := hOW.head (by omega)
        cases eg
        have hfz := hfz s
        rw [Nat.zero_add] at hcq
        have hN2 := hNW.setCell (a := ⟨z, s, none⟩) (Nat.ne_of_gt hgz) (.int .i64 ((nmb f s : Nat) : Int))
        have hB2 := hbZ.setCell (p := ⟨z, s, none⟩) (Nat.le_refl _) (.int .i64 ((nmb f s : Nat) : Int))
        have HRR := Lib.hid (And.intro hO2 (And.intro hN2 hB2))
        clear hO2 hN2 hB2 hin hbq hNW hOW hbZ hbW hOr hat hp hkv htk htk1 hst hml hnm hwl hK hbz
        generalize nmb f s = v at hrun HRR HST
        rw [hW] at hrun hcq hfz
        clear hW
        go_wp2_with fail
        try rw [← HW.out]
        go_roundw
        case rel => exact ⟨s + 1, by omega, by go_num, by rw [HG1.out]; exact HRR.out.2.1, by rw [HTK.out, ← HST.out]; exact HRR.out.1, HRR.out.2.2⟩
        case measure => simp [intOf]; omega
      · have hrun := hNW.look_out keyT_pair hK hin
        have hlen := hNW.len keyT_pair 3
        obtain ⟨w6, hup, hN6, hgr⟩ := hNW.put keyT_pair hK hin (by have := grp_len f s; omega)
        rw [hkv] at hrun hup
        rw [← nmb_new f hin] at hlen hup
        have HG1 := Lib.hid (show grp f (s + 1) = grp f s ++ [f s] from addK_out hin)
        have hO6 := hOW.apartMap hgr (by omega)
        have hO2 := hO6.stored s ((nmb f s : Nat) : Int)
        obtain ⟨bq, oq, eq, hbq, hcq⟩ := (hO6.ints (by rw [HML.out]; omega)).at_ hlt
        cases eq
        obtain ⟨gq, eg, _, _, hfz⟩ := hO6.head (by omega)
        cases eg
        have hfz := hfz s
        rw [Nat.zero_add] at hcq
        have hN2 := hN6.setCell (a := ⟨z, s, none⟩) (Nat.ne_of_gt hgz) (.int .i64 ((nmb f s : Nat) : Int))
        have hB6 := hbZ.grown hgr hzW (fun k hk => by cases hk; omega)
        have hB2 := hB6.setCell (p := ⟨z, s, none⟩) (Nat.le_refl _) (.int .i64 ((nmb f s : Nat) : Int))
        have HRR := Lib.hid (And.intro hO2 (And.intro hN2 hB2))
        clear hO2 hN2 hB2 hin hbq hNW hOW hbZ hbW hOr hat hp hkv htk htk1 hst hml hnm hwl hK hbz hO6 hN6 hB6 hgr
        generalize nmb f s = v at hlen hup HRR HST
        rw [hW] at hrun hlen hup
        clear hW
        go_wp2_with fail
        go_roundw
        case rel => exact ⟨s + 1, by omega, by go_num, by rw [HG1.out]; exact HRR.out.2.1, by rw [HTK.out, ← HST.out]; exact HRR.out.1, HRR.out.2.2⟩
        case measure => simp [intOf]; omega
    · obtain rfl : s = n := by omega
      have hO := HO.out
      rw [List.take_of_length_le (by rw [num_len]; exact Nat.le_refl _), Nat.sub_self, List.replicate_zero, List.append_nil] at hO
      have hlen := HN.out.len keyT_pair 3
      have hO2 := Lib.hid hO
      clear hO
      go_wp2
      go_ret2
      have h9 := hO2.out
      have hb9 := HBR.out
      rw [HZ.out] at h9 hb9
      exact ⟨w.heap.size, s, by rw [HZ.out]; rfl, h9, hb9⟩
end Go.Proofs.Ythjnghldedfdoaa
end

section
/- Refinement of classes, one input after the other: maths. -/
namespace Go.Proofs.Ythjnghldedfdoaa

theorem cnt_succ (c : Nat → Nat) (n : Nat) : cnt c (n + 1) = cnt c n + (if fst_ c n = true then 1 else 0) := by
  unfold cnt
  rw [List.range_succ, List.filter_append, List.length_append]
  by_cases h : fst_ c n = true
  · rw [if_pos h, List.filter_cons_of_pos h]; rfl
  · rw [if_neg h, List.filter_cons_of_neg h]; rfl
theorem grp_cnt {κ : Type} [BEq κ] [LawfulBEq κ] [DecidableEq κ] (f : Nat → κ) : ∀ n, (grp f n).length = cnt (nmb f) n
  | 0 => rfl
  | n + 1 => by
    rw [cnt_succ, ← grp_cnt f n]
    show (addK (grp f n) (f n)).length = _
    by_cases h : f n ∈ grp f n
    · have hn : ¬ fst_ (nmb f) n = true := fun hf => by
        obtain ⟨s, hs, e⟩ := grp_mem f h
        exact (fst_iff.1 hf) s hs ((nmb_eq f).2 e)
      rw [addK_in h, if_neg hn]; rfl
    · have hn : fst_ (nmb f) n = true := fst_iff.2 fun t ht e => h ((nmb_eq f).1 e ▸ grp_has f ht)
      rw [addK_out h, if_pos hn, List.length_append]; rfl
theorem cnt_fine {c d : Nat → Nat} {n : Nat} (h : ∀ s t, s < n → t < n → d s = d t → c s = c t) : cnt c n ≤ cnt d n := by
  unfold cnt
  refine filter_le fun x hx hp => ?_
  rw [List.mem_range] at hx
  rw [fst_iff] at hp ⊢
  exact fun t ht e => hp t ht (h t x (by omega) hx e)
theorem num_self {κ : Type} [BEq κ] [LawfulBEq κ] (f : Nat → κ) (n : Nat) : num (nmb f) n = num f n := num_congr fun _ _ _ _ => nmb_eq f
section
variable {i n : Nat} {nx : List (List Int)} {ac : List Bool}
/-- c tells apart no more than the words do, and all that the empty word does. -/
def Fine (i n : Nat) (nx : List (List Int)) (ac : List Bool) (c : Nat → Nat) : Prop := ∀ s t, s < n → t < n → (Ner i nx ac s t → c s = c t) ∧ (c s = c t → aN ac s = aN ac t)
def Cong (i n : Nat) (nx : List (List Int)) (c : Nat → Nat) : Prop := ∀ s t, s < n → t < n → c s = c t → ∀ a, a < i → c (nN nx s a) = c (nN nx t a)
theorem fine_cong {st : Nat} (hM : Dok i st n nx ac) {c : Nat → Nat} (hf : Fine i n nx ac c) (hc : Cong i n nx c) : Cls i n nx ac c := fun s t hs ht => by
  refine ⟨fun e => ?_, (hf s t hs ht).1⟩
  intro u
  induction u generalizing s t with
  | nil => intro _; exact (hf s t hs ht).2 e
  | cons x u ih =>
    intro hu
    obtain ⟨a, rfl, ha⟩ := hu.head
    have := ih _ _ (hM.nN_lt hs ha) (hM.nN_lt ht ha) (hc s t hs ht e a ha) hu.tail
    show aN ac (runS nx (nN nx s ((a : Int)).toNat) u) = aN ac (runS nx (nN nx t ((a : Int)).toNat) u)
    rw [Int.toNat_natCast]
    exact this
/-- The first keys: what the empty word tells apart. -/
def ky0 (ac : List Bool) (n : Nat) : List (Nat × Nat) := (List.range n).map fun s => (if aN ac s then 1 else 0, 0)
/-- The keys for an input. -/
def kyA (nx : List (List Int)) (c : Nat → Nat) (a n : Nat) : List (Nat × Nat) := (List.range n).map fun s => (nmb c s, nmb c (nN nx s a))
theorem getD_rangeK {f : Nat → Nat × Nat} {n s : Nat} (h : s < n) : ((List.range n).map f).getD s (0, 0) = f s := by
  rw [List.getD_eq_getElem?_getD, List.getElem?_map, List.getElem?_range h]; rfl
theorem fine0 : Fine i n nx ac (nmb (kyF (ky0 ac n))) := fun s t hs ht => by
  have e : (nmb (kyF (ky0 ac n)) s = nmb (kyF (ky0 ac n)) t) ↔ aN ac s = aN ac t := by
    rw [nmb_eq]
    unfold kyF ky0
    rw [getD_rangeK hs, getD_rangeK ht]
    cases aN ac s <;> cases aN ac t <;> simp
  exact ⟨fun h => e.2 h.acc, e.1⟩
theorem kyA_eq {c : Nat → Nat} {a s t : Nat} (hs : s < n) (ht : t < n) : nmb (kyF (kyA nx c a n)) s = nmb (kyF (kyA nx c a n)) t ↔ c s = c t ∧ c (nN nx s a) = c (nN nx t a) := by
  rw [nmb_eq]
  unfold kyF kyA
  rw [getD_rangeK hs, getD_rangeK ht]
  simp only [List.cons.injEq, and_true, Int.natCast_inj]
  rw [nmb_eq, nmb_eq]
theorem fineA {c : Nat → Nat} (h : Fine i n nx ac c) {st : Nat} (hM : Dok i st n nx ac) {a : Nat} (ha : a < i) : Fine i n nx ac (nmb (kyF (kyA nx c a n))) := fun s t hs ht => by
  rw [kyA_eq hs ht]
  exact ⟨fun hn => ⟨(h s t hs ht).1 hn, (h _ _ (hM.nN_lt hs ha) (hM.nN_lt ht ha)).1 (hn.next ha)⟩, fun hc => (h s t hs ht).2 hc.1⟩
/-- How far a pass has come: c behind a inputs, from c0. -/
structure Pass (n : Nat) (nx : List (List Int)) (c0 c : Nat → Nat) (a : Nat) : Prop where
  fine : ∀ s t, s < n → t < n → c s = c t → c0 s = c0 t
  stay : cnt c n = cnt c0 n → ∀ b, b < a → ∀ s t, s < n → t < n → c0 s = c0 t → c0 (nN nx s b) = c0 (nN nx t b)
theorem Pass.zero (n : Nat) (nx : List (List Int)) (c0 : Nat → Nat) : Pass n nx c0 c0 0 := ⟨fun _ _ _ _ e => e, fun _ b hb => absurd hb (by omega)⟩
theorem Pass.step {c0 c : Nat → Nat} {a st : Nat} (h : Pass n nx c0 c a) (hM : Dok i st n nx ac) (ha : a < i) : Pass n nx c0 (nmb (kyF (kyA nx c a n))) (a + 1) := by
  have h1 : ∀ s t, s < n → t < n → nmb (kyF (kyA nx c a n)) s = nmb (kyF (kyA nx c a n)) t → c s = c t := fun s t hs ht e => ((kyA_eq hs ht).1 e).1
  refine ⟨fun s t hs ht e => h.fine s t hs ht (h1 s t hs ht e), fun hcnt b hb s t hs ht e => ?_⟩
  have h2 := cnt_fine h1
  have h3 := cnt_fine h.fine
  have h4 : cnt c n = cnt c0 n := by omega
  by_cases hb2 : b < a
  · exact h.stay h4 b hb2 s t hs ht e
  · obtain rfl : b = a := by omega
    have h5 := cnt_same h.fine (by omega) s t hs ht e
    have h6 := cnt_same h1 (by omega) s t hs ht h5
    exact h.fine _ _ (hM.nN_lt hs ha) (hM.nN_lt ht ha) ((kyA_eq hs ht).1 h6).2
theorem Pass.end_ {c0 c : Nat → Nat} {st : Nat} (h : Pass n nx c0 c i) (hM : Dok i st n nx ac) (hcnt : cnt c0 n = cnt c n) : Cong i n nx c := fun s t hs ht e a ha => by
  have h1 := h.stay hcnt.symm a ha s t hs ht (h.fine s t hs ht e)
  exact cnt_same h.fine (by omega) _ _ (hM.nN_lt hs ha) (hM.nN_lt ht ha) h1
theorem Pass.le {c0 c : Nat → Nat} {a : Nat} (h : Pass n nx c0 c a) : cnt c0 n ≤ cnt c n := cnt_fine h.fine
end
end Go.Proofs.Ythjnghldedfdoaa
end

section
/- classes of the program: the walk. -/
namespace Go.Proofs.Ythjnghldedfdoaa
open Go.RowKit

theorem set_range {f : Nat → Nat × Nat} {K : List (Nat × Nat)} {n s : Nat} (hl : K.length = n) (hs : s < n) (h : ∀ t, t < s → K.getD t (0, 0) = f t) : ∀ t, t < s + 1 → (K.set s (f s)).getD t (0, 0) = f t := fun t ht => by
  rw [List.getD_eq_getElem?_getD, List.getElem?_set]
  by_cases e : s = t
  · subst e; rw [if_pos rfl, if_pos (by omega)]; rfl
  · rw [if_neg e, ← List.getD_eq_getElem?_getD]; exact h t (by omega)
theorem full_range {f : Nat → Nat × Nat} {K : List (Nat × Nat)} {n : Nat} (hl : K.length = n) (h : ∀ t, t < n → K.getD t (0, 0) = f t) : K = (List.range n).map f := by
  apply List.ext_getElem
  · simp [hl]
  · intro k h1 h2
    have := h k (by omega)
    rw [List.getD_eq_getElem?_getD, List.getElem?_eq_getElem h1] at this
    rw [List.getElem_map, List.getElem_range]
    exact this
theorem keys_at {w : World} {base g n c : Nat} {K : List (Nat × Nat)} (h : Rws w base 82 2 (.slice (some ⟨g, 0, none⟩) n c) (K.map cellsK)) (hl : K.length = n) {s : Nat} (hs : s < n) :
    w.cell? ⟨g, s * 2, none⟩ = some (.int .i64 ((K.getD s (0, 0)).1 : Nat)) ∧ w.cell? ⟨g, s * 2 + 1, none⟩ = some (.int .i64 ((K.getD s (0, 0)).2 : Nat)) ∧ w.frozen? ⟨g, s * 2, none⟩ = false ∧ w.frozen? ⟨g, s * 2 + 1, none⟩ = false ∧ ∃ cur, w.heap[g]? = some (.cells cur 82 (0, 0)) := by
  have hK : s < K.length := by omega
  obtain ⟨cur, hcur⟩ : ∃ cur, w.heap[g]? = some (.cells cur 82 (0, 0)) := by
    rcases h.2.2 with ⟨e, _⟩ | ⟨g', cap, cur, e, _, hg, _⟩
    · cases e
    · injection e with e1 _ _
      injection e1 with e1
      injection e1 with e1 _ _
      subst e1
      exact ⟨cur, hg⟩
  obtain ⟨g9, c9, e9, _, _, _, hat⟩ := h.at_ (by rw [List.length_map]; omega)
  injection e9 with e9 _ _
  cases e9
  have y0 := hat s 0 (by rw [List.length_map]; exact hK) (by decide)
  have y1 := hat s 1 (by rw [List.length_map]; exact hK) (by decide)
  rw [getK_at hK] at y0 y1
  exact ⟨y0, y1, frozen_of_row w g (s * 2) _ _ hcur, frozen_of_row w g (s * 2 + 1) _ _ hcur, cur, hcur⟩
theorem far2 {w : World} {g j k : Nat} {p : Addr} {x : Value} (u v : Value) (h : w.cell? p = some x) (hn : p.block ≠ g) : (((w.setCell ⟨g, j, none⟩ u).setCell ⟨g, k, none⟩ v).drew).cell? p = some x := by
  show ((w.setCell ⟨g, j, none⟩ u).setCell ⟨g, k, none⟩ v).cell? p = some x
  rw [World.cell?_setCell_far _ _ _ _ (Ne.symm hn), World.cell?_setCell_far _ _ _ _ (Ne.symm hn)]
  exact h
theorem ky0_le (ac : List Bool) (n : Nat) : ∀ p, p ∈ ky0 ac n → p.1 ≤ 4611686018427387904 ∧ p.2 ≤ 4611686018427387904 := fun p hp => by
  obtain ⟨s, _, rfl⟩ := List.mem_map.1 hp
  show (if aN ac s then 1 else 0) ≤ _ ∧ 0 ≤ _
  split <;> omega
theorem kyA_le {i st n : Nat} {nx : List (List Int)} {ac : List Bool} (hM : Dok i st n nx ac) (c : Nat → Nat) {a : Nat} (ha : a < i) : ∀ p, p ∈ kyA nx c a n → p.1 ≤ 4611686018427387904 ∧ p.2 ≤ 4611686018427387904 := fun p hp => by
  obtain ⟨s, hs, rfl⟩ := List.mem_map.1 hp
  rw [List.mem_range] at hs
  have h1 := nmb_le c s
  have h2 := nmb_le c (nN nx s a)
  have h3 := hM.nN_lt hs ha
  have h4 := hM.n2
  show nmb c s ≤ _ ∧ nmb c (nN nx s a) ≤ _
  omega
set_option maxHeartbeats 8000000 in
set_option maxRecDepth 100000 in
theorem dclasses (i st n : Nat) (A B : Option Addr) (c d : Nat) (nx : List (List Int)) (ac : List Bool) (w : World) (hx : Lists w A n nx) (ha : Bools w B n ac) (hM : Dok i st n nx ac) :
    Calls Try.prog 62 #[.agg #[.int .i64 i, .int .i64 st, .slice A n c, .slice B n d]] w fun e w' => ∃ (f : Nat → Nat) (A' c' : Nat), e = .returned (.slice (some ⟨A', 0, none⟩) n c') ∧ Cls i n nx ac f ∧ Owned w' w.heap.size (.slice (some ⟨A', 0, none⟩) n c') (zs (num f n)) ∧ Below w.heap.size w w' := by
  obtain ⟨w0, hw0⟩ : ∃ w0, w0 = w.alloc (.cells #[.int .i64 i, .int .i64 st, .slice A n c, .slice B n d] 25) := ⟨_, rfl⟩
  have hb0 : Below w.heap.size w w0 := by rw [hw0]; exact alloc_below _ _
  have hz0 : w0.heap.size = w.heap.size + 1 := by rw [hw0]; simp
  have hB : Dblk w0 w.heap.size (.int .i64 i) (.int .i64 st) (.slice A n c) (.slice B n d) := by rw [hw0]; exact dfa_box _ _ _ _ _
  obtain ⟨k0, k1, k2, k3, _⟩ := hB.cells
  have hn := hM.n2
  have hn1 := hM.n1
  have hi := hM.i2
  obtain ⟨z, hz⟩ : ∃ z, z = w0.heap.size := ⟨_, rfl⟩
  have hzw : w.heap.size < z := by omega
  have HZ := Lib.hid hz
  have HW0 := Lib.hid hw0
  have HX := Lib.hid (fun (W : World) (h : Below z w0 W) => And.intro ((hx.below hb0).below (by rw [← hz]; exact h)) ((ha.below hb0).below (by rw [← hz]; exact h)))
  have HBX := Lib.hid (fun (W : World) (h : Below z w0 W) => hB.kept h hzw)
  have HB0 := Lib.hid hb0
  have HM := Lib.hid hM
  clear hw0 hb0 hB hM hz hz0
  rw [HW0.out] at k2
  clear k0 k1 k3
  go_enter Try.func62, Try.ntmps62
  have hgz : w.heap.size + 1 = z := by rw [HZ.out, HW0.out]; simp
  have HGZ := Lib.hid hgz
  clear hgz
  go_wp2_with (refine wpList_make_prs _ rfl _ _ rfl .i64 .i64 n rfl rfl (by omega) ?_; intro w3 ho3 b3; rw [← HW0.out] at ho3 b3; rw [← HZ.out] at ho3 b3; obtain ⟨_, k1', k2', k3', _⟩ := (HBX.out w3 b3).cells)
  rw [HGZ.out]
  have HO3 := Lib.hid ho3
  have HB3 := Lib.hid b3
  clear ho3 b3 k2 k1' k2' k3'
  go_loopw [19] (fun v19 wr => ∃ (s : Nat) (K : List (Nat × Nat)), v19 = .int .i64 s ∧ s ≤ n ∧ K.length = n ∧ (∀ t, t < s → K.getD t (0, 0) = (if aN ac t then 1 else 0, 0)) ∧ Rws wr z 82 2 (.slice (some ⟨z, 0, none⟩) n n) (K.map cellsK) ∧ Below z w0 wr) (fun v19 _ => n - (intOf v19).toNat)
  case atStart => exact ⟨0, List.replicate n (0, 0), rfl, Nat.zero_le _, by simp, fun t ht => absurd ht (by omega), HO3.out, HB3.out⟩
  case round =>
    obtain ⟨s, K, rfl, hs, hKl, hK, hR, hbr⟩ := hrel
    have HKL := Lib.hid hKl
    have HK := Lib.hid hK
    have HR := Lib.hid hR
    have HBR := Lib.hid hbr
    have hzr : z ≤ wr.heap.size := by rw [HZ.out]; exact hbr.size
    clear hKl hK hR hbr
    by_cases hlt : s < n
    · obtain ⟨gB, oB, rfl, lB, xB⟩ := (HX.out wr HBR.out).2.at_ hlt
      have HS := Lib.hid (set_range (f := fun t => (if aN ac t then 1 else 0, 0)) HKL.out hlt HK.out)
      have HSL := Lib.hid (show (K.set s ((if aN ac s then 1 else 0 : Nat), 0)).length = n by rw [List.length_set]; exact HKL.out)
      have HST := Lib.hid (HR.out.storedK HKL.out s (if aN ac s then 1 else 0) 0)
      obtain ⟨y0, y1, f0, f1, _⟩ := keys_at HR.out HKL.out hlt
      have hb9 := (HBR.out.setCell (p := ⟨z, s * 2, none⟩) (Nat.le_refl _) (.int .i64 ((if aN ac s then 1 else 0 : Nat) : Nat))).setCell (p := ⟨z, s * 2 + 1, none⟩) (Nat.le_refl _) (.int .i64 (0 : Nat))
      have HB9 := Lib.hid hb9
      have hs0 : (0 : Int) ≤ (s : Int) := by omega
      generalize K.getD s (0, 0) = u at y0 y1
      change wr.cell? _ = some (.bool (aN ac s)) at xB
      generalize aN ac s = x at *
      clear hb9
      cases x
      all_goals
        go_wp2_with (first | (go_at_call 64; refine (dbit _ _).mono ?_; rintro e w9 ⟨rfl, rfl⟩))
        go_roundw
        case rel => exact ⟨s + 1, _, by go_num, by omega, HSL.out, HS.out, HST.out, HB9.out⟩
        case measure => simp [intOf]; omega
    · obtain rfl : n = s := by omega
      have HKE := Lib.hid (show K = ky0 ac n from full_range HKL.out HK.out)
      go_wp2_with fail
      refine (dcnum n z n z K wr HR.out HKL.out hn1 hn (by rw [HKE.out]; exact ky0_le ac n)).mono ?_
      rintro e w4 ⟨A4, c4, rfl, o4, b4⟩
      rw [HKE.out, grp_cnt, ← num_self] at *
      have HF4 := Lib.hid (fine0 (i := i) (n := n) (nx := nx) (ac := ac))
      obtain ⟨f4, hf4⟩ : ∃ f4, f4 = nmb (kyF (ky0 ac n)) := ⟨_, rfl⟩
      rw [← hf4] at o4 HF4 ⊢
      have HO4 := Lib.hid (o4.lower hzr)
      have HR4 := Lib.hid (HR.out.kept b4)
      have HB4 := Lib.hid (HBR.out.trans (b4.mono hzr))
      clear o4 b4 hf4
      have HKL4 := Lib.hid HKL.out
      have hc4 := cnt_pos f4 hn1
      go_wp2_with fail
      obtain ⟨wo, rfl⟩ : ∃ wo : World, wo = wr := ⟨_, rfl⟩
      go_loopw [6, 7, 8] (fun v6 v7 v8 wr => ∃ (f : Nat → Nat) (A6 c6 cb : Nat) (K : List (Nat × Nat)), v6 = .slice (some ⟨A6, 0, none⟩) n c6 ∧ v7 = .int .i64 (cnt f n : Nat) ∧ v8 = .int .i64 (cb : Nat) ∧ Fine i n nx ac f ∧ cb ≤ cnt f n ∧ (cb = cnt f n → Cong i n nx f) ∧ Owned wr z (.slice (some ⟨A6, 0, none⟩) n c6) (zs (num f n)) ∧ K.length = n ∧ Rws wr z 82 2 (.slice (some ⟨z, 0, none⟩) n n) (K.map cellsK) ∧ Below z w0 wr) (fun _ _ v8 _ => n - (intOf v8).toNat)
      case atStart => exact ⟨f4, A4, c4, 0, K, rfl, rfl, rfl, HF4.out, Nat.zero_le _, fun h => absurd h (by omega), HO4.out, HKL4.out, HR4.out, HB4.out⟩
      case round =>
        obtain ⟨f, A6, c6, cb, K, rfl, rfl, rfl, hf, hcb, hcong, hO, hKl, hR, hbr⟩ := hrel
        have HF := Lib.hid hf
        have HCO := Lib.hid hcong
        have HO := Lib.hid hO
        have HKL := Lib.hid hKl
        have HR := Lib.hid hR
        have HBR := Lib.hid hbr
        have hcn := cnt_le f n
        clear hf hcong hO hKl hR
        by_cases hgo : cb < cnt f n
        · obtain ⟨k0, _, _, _, _⟩ := (HBX.out wr hbr).cells
          clear hbr
          go_wp2_with fail
          obtain ⟨wp, rfl⟩ : ∃ wp : World, wp = wr := ⟨_, rfl⟩
          clear k0
          go_loopw [6, 7, 42] (fun v6 v7 v42 wr => ∃ (g : Nat → Nat) (A6 c6 a : Nat) (K : List (Nat × Nat)), v6 = .slice (some ⟨A6, 0, none⟩) n c6 ∧ v7 = .int .i64 (cnt g n : Nat) ∧ v42 = .int .i64 (a : Nat) ∧ a ≤ i ∧ Pass n nx f g a ∧ Fine i n nx ac g ∧ Owned wr z (.slice (some ⟨A6, 0, none⟩) n c6) (zs (num g n)) ∧ K.length = n ∧ Rws wr z 82 2 (.slice (some ⟨z, 0, none⟩) n n) (K.map cellsK) ∧ Below z w0 wr) (fun _ _ v42 _ => i - (intOf v42).toNat)
          case atStart => exact ⟨f, A6, c6, 0, K, rfl, rfl, rfl, Nat.zero_le _, Pass.zero _ _ _, HF.out, HO.out, HKL.out, HR.out, HBR.out⟩
          case round =>
            obtain ⟨g, A7, c7, a, K, rfl, rfl, rfl, hai, hP, hG, hO, hKl, hR, hbr⟩ := hrel
            have HP := Lib.hid hP
            have HG := Lib.hid hG
            have HO := Lib.hid hO
            have HKL := Lib.hid hKl
            have HR := Lib.hid hR
            have HBR := Lib.hid hbr
            have hgn := cnt_le g n
            clear hP hG hO hKl hR
            by_cases haa : a < i
            · obtain ⟨_, _, k2, _, _⟩ := (HBX.out wr hbr).cells
              clear hbr
              go_wp2_with fail
              obtain ⟨wq, rfl⟩ : ∃ wq : World, wq = wr := ⟨_, rfl⟩
              clear k2
              go_loopw [48] (fun v48 wr => ∃ (s : Nat) (K : List (Nat × Nat)), v48 = .int .i64 (s : Nat) ∧ s ≤ n ∧ K.length = n ∧ (∀ t, t < s → K.getD t (0, 0) = (nmb g t, nmb g (nN nx t a))) ∧ Rws wr z 82 2 (.slice (some ⟨z, 0, none⟩) n n) (K.map cellsK) ∧ Owned wr z (.slice (some ⟨A7, 0, none⟩) n c7) (zs (num g n)) ∧ Below z w0 wr) (fun v48 _ => n - (intOf v48).toNat)
              case atStart => exact ⟨0, K, rfl, Nat.zero_le _, HKL.out, fun t ht => absurd ht (by omega), HR.out, HO.out, HBR.out⟩
              case round =>
                obtain ⟨s, K, rfl, hs, hKl, hK, hR, hO, hbr⟩ := hrel
                by_cases hlt : s < n
                · have hbw : Below w.heap.size w wr := bt HB0.out (by rw [← HZ.out]; exact hbr)
                  obtain ⟨gA, oA, A1, nA, cA, eA, lA, hdA, hrA⟩ := hx.at_ hlt
                  subst eA
                  have hdA := (hbw.cell (p := ⟨gA, oA + s, none⟩) lA).trans hdA
                  obtain rfl : nA = i := by rw [← hrA.1]; exact (HM.out.row s hlt).1
                  obtain ⟨gR, oR, eR, lR, xR⟩ := hrA.at_ haa
                  subst eR
                  have xR := (hbw.cell (p := ⟨gR, oR + a, none⟩) lR).trans xR
                  rw [HM.out.nN_eq hlt haa] at xR
                  have nR : gR ≠ z := by omega
                  have hul := HM.out.nN_lt hlt haa
                  have hS := set_range (f := fun t => (nmb g t, nmb g (nN nx t a))) hKl hlt hK
                  have hSL : (K.set s (nmb g s, nmb g (nN nx s a))).length = n := by rw [List.length_set]; exact hKl
                  have hST := hR.storedK hKl s (nmb g s) (nmb g (nN nx s a))
                  obtain ⟨y0, y1, f0, f1, cur, hcur⟩ := keys_at hR hKl hlt
                  have nA7 : A7 ≠ z := fun e => by
                    obtain ⟨cur2, hcur2⟩ := hO.blk
                    rw [e, hcur] at hcur2
                    cases hcur2
                  have hOi := hO.ints (by rw [zs_len, num_len]; omega)
                  obtain ⟨g1, o1, e1, _, x1⟩ := hOi.at_ hlt
                  cases e1
                  obtain ⟨g2, o2, e2, _, x2⟩ := hOi.at_ hul
                  cases e2
                  rw [zs_at, num_at g hlt, Nat.zero_add] at x1
                  rw [zs_at, num_at g hul, Nat.zero_add] at x2
                  have hO9 := (hO.keptT (KeptT.off (k := s * 2) hcur (by decide) (.int .i64 (nmb g s : Nat)))).keptT (KeptT.off (k := s * 2 + 1) (heap_setCell_same wr z (s * 2) _ _ _ hcur) (by decide) (.int .i64 (nmb g (nN nx s a) : Nat)))
                  have hB9 := (hbr.setCell (p := ⟨z, s * 2, none⟩) (Nat.le_refl _) (.int .i64 (nmb g s : Nat))).setCell (p := ⟨z, s * 2 + 1, none⟩) (Nat.le_refl _) (.int .i64 (nmb g (nN nx s a) : Nat))
                  have HS := Lib.hid hS
                  have HSL := Lib.hid hSL
                  have HST := Lib.hid hST
                  have HO9 := Lib.hid hO9
                  have HB9 := Lib.hid hB9
                  have hs0 : (0 : Int) ≤ (s : Int) := by omega
                  have hs1 : (s : Int) < (n : Int) := by omega
                  have ha0 : (0 : Int) ≤ (a : Int) := by omega
                  have ha1 : (a : Int) < (nA : Int) := by omega
                  generalize hU : nN nx s a = u at xR hul x2 HST HO9 HB9
                  have HU := Lib.hid hU
                  have hu0 : (0 : Int) ≤ (u : Int) := by omega
                  have hu1 : (u : Int) < (n : Int) := by omega
                  generalize K.getD s (0, 0) = kk at y0 y1
                  clear hS hSL hST hO9 hB9 hU hcur hOi hO hR hK hKl hbr hrA hbw
                  go_wp2_with fail
                  go_region_held3 (fun w' => w'.cell? ⟨A7, s, none⟩ = some (.int .i64 (nmb g s : Nat)) ∧ w'.cell? ⟨gR, oR + a, none⟩ = some (.int .i64 u) ∧ w'.cell? ⟨A7, u, none⟩ = some (.int .i64 (nmb g u : Nat))) (first | (refine ⟨?_, ?_, ?_⟩ <;> (refine far2 _ _ ?_ ?_ <;> assumption)) | go_keep) (fail)
                  go_wp2_with fail
                  go_roundw
                  case rel => exact ⟨s + 1, _, by go_num, by omega, HSL.out, HS.out, by rw [HU.out]; exact HST.out.keptT (KeptT.drewN _ _ 1), HO9.out.keptT (KeptT.drewN _ _ 1), below_drewN HB9.out 1⟩
                  case measure => simp [intOf]; omega
                · obtain rfl : n = s := by omega
                  have HKE := Lib.hid (show K = kyA nx g a n from full_range hKl hK)
                  have HKL := Lib.hid hKl
                  have HR := Lib.hid hR
                  have HBR := Lib.hid hbr
                  have hzr : z ≤ wr.heap.size := by rw [HZ.out]; exact hbr.size
                  clear hKl hK hR hO hbr
                  go_wp2_with fail
                  refine (dcnum n z n z K wr HR.out HKL.out hn1 hn (by rw [HKE.out]; exact kyA_le HM.out g haa)).mono ?_
                  rintro e w4 ⟨A4, c4, rfl, o4, b4⟩
                  rw [HKE.out, grp_cnt, ← num_self] at *
                  have HF4 := Lib.hid (fineA HG.out HM.out haa)
                  have HP4 := Lib.hid (HP.out.step HM.out haa)
                  obtain ⟨f4, hf4⟩ : ∃ f4, f4 = nmb (kyF (kyA nx g a n)) := ⟨_, rfl⟩
                  rw [← hf4] at o4 HF4 HP4 ⊢
                  have HO4 := Lib.hid (o4.lower hzr)
                  have HR4 := Lib.hid (HR.out.kept b4)
                  have HB4 := Lib.hid (HBR.out.trans (b4.mono hzr))
                  have HKL4 := Lib.hid HKL.out
                  clear o4 b4 hf4
                  go_wp2_with fail
                  go_roundw
                  case rel => exact ⟨f4, A4, c4, a + 1, kyA nx g a n, rfl, rfl, by go_num, by omega, HP4.out, HF4.out, HO4.out, HKL4.out, HR4.out, HB4.out⟩
                  case measure => simp [intOf]; omega
            · obtain rfl : a = i := by omega
              have hle := HP.out.le
              clear hbr
              go_wp2_with fail
              go_roundw
              case rel => exact ⟨g, A7, c7, cnt f n, K, rfl, rfl, rfl, HG.out, hle, fun h => HP.out.end_ HM.out h, HO.out, HKL.out, HR.out, HBR.out⟩
              case measure => simp [intOf]; omega
        · have hCL := fine_cong HM.out HF.out (HCO.out (by omega))
          have HCL := Lib.hid hCL
          have hgoI : ¬ (cb : Int) < ((cnt f n : Nat) : Int) := by omega
          clear hCL hbr
          go_wp2_with fail
          go_ret
          exact ⟨f, A6, c6, rfl, HCL.out, HO.out.lower (by omega), bt HB0.out (by rw [← HZ.out]; exact HBR.out)⟩
end Go.Proofs.Ythjnghldedfdoaa
end

section
/- quotient of the program. -/
namespace Go.Proofs.Ythjnghldedfdoaa
open Go.RowKit

theorem qA_in {ac : List Bool} {f : Nat → Nat} {s : Nat} (h : f s ∈ grp f s) : qA ac f (s + 1) = qA ac f s := by unfold qA; rw [reps_in h]
theorem qA_out {ac : List Bool} {f : Nat → Nat} {s : Nat} (h : ¬ f s ∈ grp f s) : qA ac f (s + 1) = qA ac f s ++ [aN ac s] := by unfold qA; rw [reps_out h, List.map_append]; rfl
set_option maxHeartbeats 8000000 in
set_option maxRecDepth 100000 in
theorem dquot (i st n : Nat) (A B C : Option Addr) (c d cc : Nat) (nx : List (List Int)) (ac : List Bool) (f : Nat → Nat) (w : World) (hx : Lists w A n nx) (ha : Bools w B n ac) (hM : Dok i st n nx ac) (hc : Ints w C n (zs (num f n))) :
    Calls Try.prog 61 #[.agg #[.int .i64 i, .int .i64 st, .slice A n c, .slice B n d], .slice C n cc] w fun e w' => ∃ A' c' B' d',
      e = .returned (.agg #[.int .i64 i, .int .i64 (nmb f st : Nat), .slice A' (reps f n).length c', .slice B' (reps f n).length d']) ∧
      OwnedL w' w.heap.size (.slice A' (reps f n).length c') (qN nx i f n) ∧ Rws w' w.heap.size 4 1 (.slice B' (reps f n).length d') ((qA ac f n).map cellsB) ∧ Below w.heap.size w w' := by
  have hn128 := hM.n2
  have hst := hM.st
  have hi := hM.i2
  obtain ⟨w2, hw2, hbw2, hB2, hR2, hz2⟩ := cpl_boxes w i st A B n c n d
  have HW := Lib.hid hw2
  have HB2 := Lib.hid hB2
  have HR2 := Lib.hid hR2
  obtain ⟨bc, oc, rfl, hbc, hcc⟩ := hc.at_ hst
  rw [zs_at, num_at f hst] at hcc
  have hcs := (hbw2.cell (p := ⟨bc, oc + st, none⟩) hbc).trans hcc
  obtain ⟨k0, k1, k2, k3, _⟩ := hB2.cells
  have j0 : (0 : Int) ≤ (st : Int) := by omega
  have j1 : (st : Int) < (n : Int) := by omega
  have HBW := Lib.hid hbw2
  have HZ2 := Lib.hid hz2
  have HM := Lib.hid hM
  clear hw2 hB2 hR2 hcc hz2 hbw2 hM
  go_enter Try.func61, Try.ntmps61
  go_wp2_with fail
  rw [← HW.out]
  have n1 := World.new_ne w2 _ k0
  have n2 := World.new_ne w2 _ hcs
  go_region_held3 (fun w' => w'.cell? ⟨w.heap.size, 0, none⟩ = some (.int .i64 i) ∧ w'.cell? ⟨w.heap.size, 1, none⟩ = some (.int .i64 st) ∧ w'.cell? ⟨bc, oc + st, none⟩ = some (.int .i64 (nmb f st : Nat))) (go_keep) (fail)
  go_wp2
  obtain ⟨gT, hgT⟩ : ∃ gT, gT = w2.heap.size := ⟨_, rfl⟩
  have hT0 : Dres ((w2.alloc (.cells #[.int .i64 i, .int .i64 (nmb f st : Nat), .slice none 0 0, .slice none 0 0] 25)).drew) gT gT i (nmb f st) [] [] none none 0 0 := ⟨by rw [hgT]; exact heap_alloc_new w2 _, OwnedL.nil _ _, Rws.nil _ _ _ _⟩
  have HT0 := Lib.hid hT0
  have HL0 := Lib.hid (show Below gT w2 ((w2.alloc (.cells #[.int .i64 i, .int .i64 (nmb f st : Nat), .slice none 0 0, .slice none 0 0] 25)).drew) by rw [hgT]; exact below_drewN (alloc_below w2 _) 1)
  have hgT2 : w.heap.size + 2 ≤ gT := by rw [hgT, HZ2.out]; exact Nat.le_refl _
  rw [← hgT]
  have HT := Lib.hid hgT
  obtain ⟨y0, hy0⟩ : ∃ y : Nat, y = nmb f st := ⟨_, rfl⟩
  have HY0 := Lib.hid hy0
  rw [← hy0] at HT0 HL0 ⊢
  clear hgT n1 n2 k0 k1 k2 k3 hcs hy0 hT0
  go_loopw [20] (fun kv wr => ∃ (s : Nat) (N : List (List Int)) (bs : List Bool) (AN AA : Option Addr) (cN cA : Nat), s ≤ n ∧ kv = .int .i64 s ∧ N = qN nx i f s ∧ bs = qA ac f s ∧ Below gT w2 wr ∧ Dres wr gT gT i y0 N bs AN AA cN cA) (fun kv _ => n - (intOf kv).toNat)
  case atStart => exact ⟨0, [], [], none, none, 0, 0, Nat.zero_le _, rfl, rfl, rfl, HL0.out, HT0.out⟩
  case round =>
    obtain ⟨s, N, bs, AN, AA, cN, cA, hs, rfl, hN, hbs, hbr, hT⟩ := hrel
    have hbW : Below w.heap.size w wr := HBW.out.trans (hbr.mono (by omega))
    have hzo : gT ≤ wr.heap.size := by have := heap_lt hT.1; omega
    have hNl : N.length = (reps f s).length := by rw [hN, qN_len]
    have hBl : bs.length = (reps f s).length := by rw [hbs, qA_len]
    have hkl := reps_le f s
    have HN := Lib.hid hN
    have HBS := Lib.hid hbs
    have HTT := Lib.hid hT
    have HBR := Lib.hid hbr
    have HBX := Lib.hid (HB2.out.kept hbr (show w.heap.size < gT by omega))
    have HNL := Lib.hid hNl
    have HBL := Lib.hid hBl
    clear hbr hN hbs hBl
    by_cases hlt : s < n
    · obtain ⟨bc', oc', e, hbc', hcc⟩ := hc.at_ hlt
      cases e
      rw [zs_at, num_at f hlt] at hcc
      have hcs := (hbW.cell (p := ⟨bc, oc + s, none⟩) hbc).trans hcc
      obtain ⟨c0, c1', c2', c3', f0, f1, f2, f3⟩ := hT.1.cells
      have hsk := nmb_skip f s
      rw [← hNl] at hsk
      by_cases hin : f s ∈ grp f s
      · have hlt2 := hsk.2 hin
        have HQ1 := Lib.hid (qN_in (nx := nx) (i := i) hin)
        have HQ2 := Lib.hid (qA_in (ac := ac) hin)
        clear hsk hin hcc hT hNl
        generalize nmb f s = v at hcs hlt2
        go_wp2
        go_roundw
        case rel => exact ⟨s + 1, N, bs, AN, AA, cN, cA, by omega, by go_num, by rw [HQ1.out]; exact HN.out, by rw [HQ2.out]; exact HBS.out, HBR.out, HTT.out⟩
        case measure => simp [intOf]; omega
      · have hlt2 : ¬ nmb f s < N.length := fun H => hin (hsk.1 H)
        have HQ1 := Lib.hid (qN_out (nx := nx) (i := i) hin)
        have HQ2 := Lib.hid (qA_out (ac := ac) hin)
        have hNb : N.length < 1759218604441 := by omega
        clear hsk hin hcc hNl hkl
        generalize nmb f s = v at hcs hlt2
        obtain ⟨g1, p1, A3, n1, c3, rfl, hg1, hd1, hr1⟩ := hx.at_ hlt
        obtain rfl : n1 = i := by rw [← hr1.1]; exact (HM.out.row s hlt).1
        have e1 := (hbW.cell (p := ⟨g1, p1 + s, none⟩) hg1).trans hd1
        have hi1 := (HM.out.row s hlt).1
        have HI1 := Lib.hid hi1
        obtain ⟨k0, k1, k2, k3, _⟩ := HBX.out.cells
        clear hd1 hi1
        go_wp2_with fail
        refine (sclone _ _ _ _ _ (hr1.below hbW)).mono ?_
        rintro e w5 ⟨A5, c5, rfl, ho5, b5⟩
        have hn1 := HM.out.i1
        obtain ⟨gr, er, hgr, hgr2, _⟩ := ho5.head (by omega)
        subst er
        have HO5 := Lib.hid (ho5.lower hzo)
        have HB5 := Lib.hid (HBR.out.trans (b5.mono hzo))
        have HX5 := Lib.hid ((HTT.out.toX (gr := gr) hgr).kept b5)
        clear ho5 b5 hgr2
        go_wp2_with fail
        obtain ⟨wc, rfl⟩ : ∃ wc : World, wc = wr := ⟨_, rfl⟩
        clear k0 k1 k2 k3 e1 c0 c1' c2' c3' f0 f1 f2 f3 hcs
        go_loopw [38] (fun av wr => ∃ a : Nat, a ≤ n1 ∧ av = .int .i64 a ∧ Owned wr gT (.slice (some ⟨gr, 0, none⟩) n1 c5) (qmid nx n1 f s a) ∧ DresX wr gT gT n1 y0 N bs AN AA cN cA gr ∧ Below gT w2 wr) (fun av _ => n1 - (intOf av).toNat)
        case atStart => exact ⟨0, Nat.zero_le _, rfl, by rw [qmid_zero]; exact HO5.out, HX5.out, HB5.out⟩
        case round =>
          obtain ⟨a, haa, rfl, ho6, hX6, b6⟩ := hrel
          by_cases hla : a < n1
          · have hset := Lib.hid (qmid_set (f := f) HI1.out hla)
            have hat := Lib.hid ((qmid_at (nx := nx) (f := f) (s := s) hla).trans (HM.out.nN_eq hlt hla))
            have hml := Lib.hid (qmid_len (nx := nx) (f := f) (s := s) HI1.out (Nat.le_of_lt hla))
            have hmi : (qmid nx n1 f s a).length ≤ 17592186044416 := by rw [hml.out]; omega
            obtain ⟨g5, e5, hg5, hg5', hfz5⟩ := ho6.head (by omega)
            cases e5
            obtain ⟨bq, oq, eq, hbq, hcq⟩ := (ho6.ints hmi).at_ hla
            cases eq
            rw [hat.out, Nat.zero_add] at hcq
            have hut := HM.out.nN_lt hlt hla
            obtain ⟨bn, on, en, hbn, hcn⟩ := hc.at_ hut
            cases en
            rw [zs_at, num_at f hut] at hcn
            have hcn := ((HBW.out.trans (b6.mono (by omega))).cell (p := ⟨bc, oc + nN nx s a, none⟩) hbc).trans hcn
            have hst2 := ho6.stored a ((nmb f (nN nx s a) : Nat) : Int)
            rw [hset.out] at hst2
            obtain ⟨cur, hcur⟩ := ho6.blk
            have hXs := Lib.hid (hX6.store hcur a (.int .i64 ((nmb f (nN nx s a) : Nat) : Int)))
            have hbs := Lib.hid (b6.setCell (p := ⟨gr, a, none⟩) hg5 (.int .i64 ((nmb f (nN nx s a) : Nat) : Int)))
            have HSTT := Lib.hid hst2
            have hf := hfz5 a
            clear hst2 ho6 b6 hfz5 hX6 hcur
            generalize nN nx s a = t at hcq hut hcn hset hbs HSTT hXs
            generalize ((nmb f t : Nat) : Int) = tv at hcn hbs HSTT hXs
            go_wp2
            go_roundw
            case rel => exact ⟨a + 1, by omega, by go_num, HSTT.out, hXs.out, hbs.out⟩
            case measure => simp [intOf]; omega
          · obtain rfl : a = n1 := by omega
            rw [qmid_all HI1.out] at ho6
            have hz6 : gT ≤ wr.heap.size := by have := heap_lt hX6.1; omega
            obtain ⟨A2, c2, w7, hr7, hK7, hR8, hB8, hT8, hM8⟩ := hX6.toD.push_row ho6 hz6 (Nat.le_refl _) hNb
            obtain ⟨y0', y1, y2, y3, f0, f1, f2, f3⟩ := hX6.1.cells
            obtain ⟨z0', z1, z2, z3, q0, q1, q2, q3⟩ := hK7.cells
            have HH := Lib.hid (And.intro hR8 (b6.trans hB8))
            clear ho6 hX6 b6 hR8 hB8 hT8 hM8 hK7 hz6
            go_wp2_with (at_builtin; refine Lib.wpList_append_run _ rfl _ _ _ _ rfl _ _ rfl rfl _ _ hr7 ?_)
            obtain ⟨hR8, hB8⟩ := HH.out
            generalize w7.setCell ⟨gT, 2, none⟩ (.slice A2 (N.length + 1) c2) = w8 at hR8 hB8 ⊢
            clear HH y0' y1 y2 y3 f0 f1 f2 f3 z0' z1 z2 z3 q0 q1 q2 q3 hr7
            have hz8 : gT ≤ w8.heap.size := by have := heap_lt hR8.1; omega
            obtain ⟨_, _, _, c3', _, _, _, f3⟩ := hR8.1.cells
            obtain ⟨_, _, _, k3, _⟩ := (HB2.out.kept hB8 (show w.heap.size < gT by omega)).cells
            obtain ⟨gB, oB, rfl, lB, xB⟩ := ha.at_ hlt
            have xB := ((HBW.out.trans (hB8.mono (by omega))).cell (p := ⟨gB, oB + s, none⟩) lB).trans xB
            change w8.cell? _ = some (.bool (aN ac s)) at xB
            have hs0 : (0 : Int) ≤ (s : Int) := by omega
            have hs1 : (s : Int) < (n : Int) := by omega
            have hbl : bs.length < 1099511627776 := by rw [HBL.out]; have := reps_le f s; omega
            have hR8d : Dres w8.drew gT gT a y0 (N ++ [qR nx a f s]) bs A2 AA c2 cA := hR8.kept (below_drewN (Below.refl _ w8) 1)
            obtain ⟨A9, c9, w9, hr9, hK9, hR10, hB10, _, _⟩ := hR8d.push_bool (aN ac s) (show gT ≤ w8.drew.heap.size from hz8) (Nat.le_refl _) hbl
            obtain ⟨_, _, _, v3, _, _, _, g3⟩ := hK9.cells
            have ca := ((alloc_below w8 (.cells #[.bool (aN ac s)] 4)).cell (p := ⟨gT, 3, none⟩) (heap_lt hR8.1)).trans c3'
            have HFN := Lib.hid (And.intro hR10 ((below_drewN hB8 1).trans hB10))
            generalize aN ac s = x at xB hr9 HFN ca HQ2
            clear hR8 hB8 hR8d hK9 hR10 hB10
            go_region_law (first | (refine step_app rfl _ _ _ _ rfl _ _ rfl rfl _ _ hr9 ?_))
            all_goals
              clear c3' f3 k3 xB ca hr9
              go_wp2_with fail
              go_roundw
              case rel => exact ⟨s + 1, N ++ [qR nx a f s], bs ++ [x], A2, A9, c2, c9, by omega, by go_num, by rw [HQ1.out, HN.out], by rw [HQ2.out, HBS.out], HFN.out.2, HFN.out.1⟩
              case measure => simp [intOf]; omega
    · obtain rfl : s = n := by omega
      have h9 := hT
      rw [Dres, hNl, show bs.length = (reps f s).length from HBL.out] at h9
      obtain ⟨c0, c1', c2', c3', _⟩ := h9.1.cells
      have HRr := Lib.hid (HR2.out.kept HBR.out (show w.heap.size + 1 < gT by omega))
      obtain ⟨ya, y1, y2, y3, z0, z1, z2, z3⟩ := HRr.out.cells
      have H9 := Lib.hid h9
      have HW9 := Lib.hid hbW
      clear hT h9 hNl hbW
      go_wp2
      (try simp only [Exit.inBlock, Exit.then])
      refine bodyPost_ret (results_dfa1 rfl _ _ (w.heap.size + 1) _ _ _ _ rfl (HRr.out.set4 _ _ _ _)) rfl ?_
      refine ⟨AN, cN, AA, cA, by rw [HY0.out], ?_, ?_, below_set4 (Nat.le_succ _) HW9.out _ _ _ _⟩
      · have := H9.out.2.1
        rw [HN.out] at this
        exact (this.keptT (HRr.out.off4 _ _ _ _ (by decide)) (HRr.out.off4 _ _ _ _ (by decide))).lower (by omega)
      · have := H9.out.2.2
        rw [HBS.out] at this
        exact (this.keptT (HRr.out.off4 _ _ _ _ (by decide))).lower (by omega)
end Go.Proofs.Ythjnghldedfdoaa
end

section
/- Min of the program. -/
namespace Go.Proofs.Ythjnghldedfdoaa
open Go.RowKit

/-- What Min answers for a valid automaton. -/
def MinP (base : Nat) (L : List Int → Bool) (i n : Nat) (e : Ending) (w' : World) : Prop :=
  ∃ (N : List (List Int)) (bs : List Bool) (A : Option Addr) (c : Nat) (B : Option Addr) (d : Nat), e = .returned (.tuple #[.agg #[.int .i64 i, .int .i64 0, .slice A N.length c, .slice B N.length d], .int .i64 0]) ∧
    Mn L i N bs ∧ Dok i 0 N.length N bs ∧ N.length ≤ n ∧ OwnedL w' base (.slice A N.length c) N ∧ Rws w' base 4 1 (.slice B N.length d) (bs.map cellsB)
theorem OwnedL.lists_of {w : World} {base : Nat} {A : Option Addr} {n c i : Nat} {xss : List (List Int)} (h : OwnedL w base (.slice A n c) xss) (hm : xss.length ≤ 128) (hi : i ≤ 1024) (hr : ∀ s, s < xss.length → (xss.getD s []).length = i) : Lists w A n xss :=
  h.lists (by omega) fun xs hx => by
    obtain ⟨s, hs, rfl⟩ := List.getElem_of_mem hx
    have := hr s hs
    rw [List.getD_eq_getElem?_getD, List.getElem?_eq_getElem hs] at this
    have this : xss[s].length = i := this
    omega
set_option maxHeartbeats 4000000 in
set_option maxRecDepth 100000 in
theorem dmin_bad (i st : Int) (A B : Option Addr) (n c m d : Nat) (nx : List (List Int)) (ac : List Bool) (w : World) (hx : Lists w A n nx) (ha : Bools w B m ac) (hv : ¬ vldD i st nx ac = 0) :
    Calls Try.prog 26 #[.agg #[.int .i64 i, .int .i64 st, .slice A n c, .slice B m d]] w fun e w' => e = .returned (.tuple #[.agg #[.int .i64 0, .int .i64 0, .slice none 0 0, .slice none 0 0], .int .i64 (vldD i st nx ac)]) ∧ Below w.heap.size w w' := by
  obtain ⟨w0, hw0, hb0, hB, hR, hz0⟩ := cpl_boxes w i st A B n c m d
  obtain ⟨k0, k1, k2, k3, _⟩ := hB.cells
  obtain ⟨x, hx0, hxe⟩ : ∃ x, ¬ x = 0 ∧ vldD i st nx ac = x := ⟨_, hv, rfl⟩
  have HXE := Lib.hid hxe
  have t1 : (x != 0) = true := by simpa using hx0
  have HW0 := Lib.hid hw0
  have HX := Lib.hid (hx.below hb0)
  have HA := Lib.hid (ha.below hb0)
  have HB0 := Lib.hid hb0
  have HR := Lib.hid hR
  have HZ := Lib.hid hz0
  clear hv hxe hw0 hB hb0 hR hz0
  rw [HW0.out] at k0 k1 k2 k3
  go_enter Try.func26, Try.ntmps26
  go_wp2_with fail
  rw [← HW0.out]
  refine (pvalD _ _ _ _ _ _ _ _ _ _ _ HX.out HA.out.1 HA.out.2.1).mono ?_
  rintro e w1 ⟨rfl, b1⟩
  rw [HXE.out]
  have hzz := HZ.out
  have HRr := Lib.hid (HR.out.kept b1 (show w.heap.size + 1 < w0.heap.size by omega))
  obtain ⟨q0, q1, q2, q3, z0, z1, z2, z3⟩ := HRr.out.cells
  clear hzz k0 k1 k2 k3
  go_wp2_with fail
  refine bodyPost_ret (results_dfa rfl _ _ (w.heap.size + 1) (.int .i64 0) (.int .i64 0) (.slice none 0 0) (.slice none 0 0) rfl (HRr.out.set4 _ _ _ _)) rfl ?_
  exact ⟨by rw [HXE.out]; rfl, below_set4 (by omega) (bt HB0.out b1) _ _ _ _⟩
/-- The quotient behind a pointer. -/
def QtB (wx : World) (base g i st n : Nat) (nx : List (List Int)) (ac : List Bool) (f : Nat → Nat) (A : Option Addr) (c : Nat) (B : Option Addr) (d : Nat) : Prop :=
  Dblk wx g (.int .i64 i) (.int .i64 (nmb f st : Nat)) (.slice A (reps f n).length c) (.slice B (reps f n).length d) ∧ OwnedL wx base (.slice A (reps f n).length c) (qN nx i f n) ∧ Rws wx base 4 1 (.slice B (reps f n).length d) ((qA ac f n).map cellsB)
set_option maxHeartbeats 16000000 in
set_option maxRecDepth 100000 in
theorem dmin (i st n : Nat) (A B : Option Addr) (c d : Nat) (nx : List (List Int)) (ac : List Bool) (w : World) (hx : Lists w A n nx) (ha : Bools w B n ac) (hM : Dok i st n nx ac) :
    Calls Try.prog 26 #[.agg #[.int .i64 i, .int .i64 st, .slice A n c, .slice B n d]] w fun e w' => MinP w.heap.size (fun u => aN ac (runS nx st u)) i n e w' ∧ Below w.heap.size w w' := by
  obtain ⟨w0, hw0, hb0, hB, hR, hz0⟩ := cpl_boxes w i st A B n c n d
  obtain ⟨k0, k1, k2, k3, _⟩ := hB.cells
  have hn := hM.n2
  have hi := hM.i2
  have HV := Lib.hid hM.vld
  have HW0 := Lib.hid hw0
  have HX := Lib.hid (hx.below hb0)
  have HA := Lib.hid (ha.below hb0)
  have HB0 := Lib.hid hb0
  have HB := Lib.hid hB
  have HR := Lib.hid hR
  have HZ := Lib.hid hz0
  have HM := Lib.hid hM
  clear hw0 hB hb0 hR hM
  rw [HW0.out] at k0 k1 k2 k3
  go_enter Try.func26, Try.ntmps26
  go_wp2_with fail
  rw [← HW0.out]
  refine (pvalD _ _ _ _ _ _ _ _ _ _ _ HX.out HA.out.1 HA.out.2.1).mono ?_
  rintro e w1 ⟨rfl, b1⟩
  rw [HV.out]
  clear k0 k1 k2 k3
  obtain ⟨k0, k1, k2, k3, _⟩ := (HB.out.on9 b1).cells
  have HB1 := Lib.hid b1
  have HCL := Lib.hid (fun (W : World) (h : Below w1.heap.size w1 W) => And.intro (HX.out.below (bt b1 h)) (And.intro (HA.out.below (bt b1 h)) ((HB.out.on9 b1).on9 h).cells))
  have hz1 := b1.size
  clear b1
  go_upto_region 4 with fail
  go_cut [5] from 12 to 15 (fun v5 wx => ∃ (g : Nat) (f : Nat → Nat) (A2 : Option Addr) (c2 : Nat) (B2 : Option Addr) (d2 : Nat), v5 = .pointer (some ⟨g, 0, none⟩) ∧ Cls i n nx ac f ∧ QtB wx w1.heap.size g i st n nx ac f A2 c2 B2 d2 ∧ Below w1.heap.size w1 wx)
  case first =>
    go_region_held3 (fun w' => w'.cell? ⟨w.heap.size, 0, none⟩ = some (.int .i64 i) ∧ w'.cell? ⟨w.heap.size, 1, none⟩ = some (.int .i64 st) ∧ w'.cell? ⟨w.heap.size, 2, none⟩ = some (.slice A n c) ∧ w'.cell? ⟨w.heap.size, 3, none⟩ = some (.slice B n d))
      (first
        | (refine ⟨(HCL.out _ ?_).2.2.1, (HCL.out _ ?_).2.2.2.1, (HCL.out _ ?_).2.2.2.2.1, (HCL.out _ ?_).2.2.2.2.2.1⟩ <;> (first | exact below_drewN (Below.refl _ _) 1 | exact below_drewN (alloc_below _ _) 1 | exact hb3 | exact hb3.alloc hb3.size _ | exact hb2 | exact hb2.alloc hb2.size _ | exact below_set4 hb2.size hb3 _ _ _ _ | exact below_set4 (Nat.le_refl _) hb3 _ _ _ _))
        | go_keep)
      (first
        | (go_at_call 62; refine (dclasses i st n _ _ _ _ nx ac _ (HCL.out _ (by first | exact below_drewN (Below.refl _ _) 1 | exact below_drewN (alloc_below _ _) 1)).1 (HCL.out _ (by first | exact below_drewN (Below.refl _ _) 1 | exact below_drewN (alloc_below _ _) 1)).2.1 HM.out).mono ?_; rintro e w2 ⟨f, A2, c2, rfl, hcl, o2, b2⟩; have hb2 : Below w1.heap.size w1 w2 := (by first | exact bt (below_drewN (Below.refl _ _) 1) b2 | exact bt (below_drewN (alloc_below _ _) 1) b2))
        | (go_at_call 61; refine (dquot i st n _ _ _ _ _ _ nx ac f _ (HCL.out _ (by first | exact hb2 | exact hb2.alloc hb2.size _)).1 (HCL.out _ (by first | exact hb2 | exact hb2.alloc hb2.size _)).2.1 HM.out (Owned.ints (by first | exact o2 | exact o2.kept (alloc_below _ _)) (by rw [zs_len, num_len]; omega))).mono ?_; rintro e w3 ⟨A3, c3, B3, d3, rfl, o3, p3, b3⟩; have hb3 : Below w1.heap.size w1 w3 := (by first | exact bt hb2 b3 | exact bt (hb2.alloc hb2.size _) b3); (try (have hq := ((show Dblk ((w1.alloc (.cells #[.int .i64 0, .int .i64 0, .slice none 0 0, .slice none 0 0] 25)).drew) w1.heap.size (.int .i64 0) (.int .i64 0) (.slice none 0 0) (.slice none 0 0) from heap_alloc_new w1 _).on9 b2).on9 b3)); (try (have hq := (dfa_box w2 (.int .i64 0) (.int .i64 0) (.slice none 0 0) (.slice none 0 0)).on9 b3)); (try (obtain ⟨q0, q1, q2, q3, g0, g1, g2, g3⟩ := hq.cells))))
    all_goals
      have hz3 : w1.heap.size ≤ w3.heap.size := hb3.size
      have HO := Lib.hid (And.intro (o3.lower (base' := w1.heap.size) (by first | exact hb2.size | (simp; have := hb2.size; omega))) (p3.lower (base' := w1.heap.size) (by first | exact hb2.size | (simp; have := hb2.size; omega))))
      go_wp2_with fail
      go_meet
      first
        | ((with_reducible refine ⟨w3.heap.size, f, A3, c3, B3, d3, rfl, hcl, ?_, ?_⟩); exact ⟨heap_alloc_new w3 _, HO.out.1.kept (alloc_below w3 _), HO.out.2.kept (alloc_below w3 _)⟩; exact hb3.alloc hb3.size _)
        | ((with_reducible refine ⟨w1.heap.size, f, A3, c3, B3, d3, rfl, hcl, ?_, ?_⟩); exact ⟨hq.set4 _ _ _ _, HO.out.1.keptT (hq.off4 _ _ _ _ (by decide)) (hq.off4 _ _ _ _ (by decide)), HO.out.2.keptT (hq.off4 _ _ _ _ (by decide))⟩; exact below_set4 (Nat.le_refl _) hb3 _ _ _ _)
        | ((with_reducible refine ⟨w2.heap.size, f, A3, c3, B3, d3, rfl, hcl, ?_, ?_⟩); exact ⟨hq.set4 _ _ _ _, HO.out.1.keptT (hq.off4 _ _ _ _ (by decide)) (hq.off4 _ _ _ _ (by decide)), HO.out.2.keptT (hq.off4 _ _ _ _ (by decide))⟩; exact below_set4 hb2.size hb3 _ _ _ _)
  case rest =>
    obtain ⟨g, f, A2, c2, B2, d2, rfl, hcl, hQ, hb⟩ := hcut
    clear k0 k1 k2 k3
    obtain ⟨k0, k1, k2, k3, _⟩ := hQ.1.cells
    have hqd := HM.out.quot f
    have hrl := reps_le f n
    have hLq : Lists wc A2 (reps f n).length (qN nx i f n) := hQ.2.1.lists_of (i := i) (by rw [qN_len]; omega) hi (fun s hs => (hqd.row s (by rw [qN_len] at hs; exact hs)).1)
    have hBq : Bools wc B2 (reps f n).length (qA ac f n) := hQ.2.2.bools (qA_len ac f n) (by omega)
    have HCLS := Lib.hid hcl
    have HLQ := Lib.hid hLq
    have HBQ := Lib.hid hBq
    have HQD := Lib.hid hqd
    have HBB := Lib.hid hb
    clear hQ hqd hLq hBq hcl hb
    go_wp2_with fail
    refine (dcombine 0 i (nmb f st) (nmb f st) (reps f n).length (reps f n).length (by decide) A2 B2 A2 B2 c2 d2 c2 d2 (qN nx i f n) (qN nx i f n) (qA ac f n) (qA ac f n) _ HLQ.out HBQ.out HLQ.out HBQ.out HQD.out HQD.out).mono ?_
    rintro e w5 ⟨hA, b5⟩
    have hdl := diag_len HQD.out
    have hMn := min_mn HM.out HCLS.out
    have hDk := cm_dok 0 HQD.out HQD.out (Nat.le_trans hdl (by omega))
    unfold AutP at hA
    rw [if_pos (Nat.le_trans hdl (by omega))] at hA
    obtain ⟨A5, c5, B5, d5, rfl, o5, p5⟩ := hA
    have hNl : (autN (bothF (qN nx i f n) (qN nx i f n)) i (cmE i (nmb f st) (reps f n).length (nmb f st) (reps f n).length (qN nx i f n) (qN nx i f n))).length = (cmE i (nmb f st) (reps f n).length (nmb f st) (reps f n).length (qN nx i f n) (qN nx i f n)).length := by simp [autN]
    rw [← hNl] at o5 p5 hdl hDk ⊢
    generalize autN (bothF (qN nx i f n) (qN nx i f n)) i (cmE i (nmb f st) (reps f n).length (nmb f st) (reps f n).length (qN nx i f n) (qN nx i f n)) = N at o5 p5 hdl hDk hMn ⊢
    generalize autA (opA 0 (qA ac f n) (qA ac f n)) (cmE i (nmb f st) (reps f n).length (nmb f st) (reps f n).length (qN nx i f n) (qN nx i f n)) = bs at o5 p5 hDk hMn
    have hzz := HZ.out
    have hb15 := bt HBB.out b5
    have HRr := Lib.hid (HR.out.kept (bt HB1.out hb15) (show w.heap.size + 1 < w0.heap.size by omega))
    obtain ⟨q0, q1, q2, q3, z0, z1, z2, z3⟩ := HRr.out.cells
    have HB5 := Lib.hid (bt HB0.out (bt HB1.out hb15))
    have HZ5 := Lib.hid (bt HB0.out (bt HB1.out HBB.out)).size
    have HO5 := Lib.hid o5
    have HP5 := Lib.hid p5
    have HMN := Lib.hid hMn
    have HDK := Lib.hid hDk
    have HLE := Lib.hid (Nat.le_trans hdl hrl)
    clear o5 p5 hMn hDk hdl hNl hb15 b5 hzz k0 k1 k2 k3
    go_wp2_with fail
    refine bodyPost_ret (results_dfa rfl _ _ (w.heap.size + 1) _ _ _ _ rfl (HRr.out.set4 _ _ _ _)) rfl ?_
    exact ⟨⟨N, bs, A5, c5, B5, d5, rfl, HMN.out, HDK.out, HLE.out, (HO5.out.keptT (HRr.out.off4 _ _ _ _ (by decide)) (HRr.out.off4 _ _ _ _ (by decide))).lower HZ5.out, (HP5.out.keptT (HRr.out.off4 _ _ _ _ (by decide))).lower HZ5.out⟩, below_set4 (by omega) HB5.out _ _ _ _⟩
end Go.Proofs.Ythjnghldedfdoaa
end

section
/- ToMealy of the program: the walk. -/
namespace Go.Proofs.Ythjnghldedfdoaa
open Go.RowKit

/-- A row whose first a numbers are outputs. -/
def mixT (nx : List (List Int)) (ac : List Bool) (i s a : Nat) : List Int := (List.range i).map fun b => if b < a then tomR nx ac s b else ((nN nx s b : Nat) : Int)
theorem mixT_len (nx : List (List Int)) (ac : List Bool) (i s a : Nat) : (mixT nx ac i s a).length = i := by simp [mixT]
theorem mixT_get {nx : List (List Int)} {ac : List Bool} {i s a b : Nat} (h : b < i) : (mixT nx ac i s a).getD b 0 = if b < a then tomR nx ac s b else ((nN nx s b : Nat) : Int) := by
  unfold mixT
  rw [List.getD_eq_getElem?_getD, List.getElem?_map, List.getElem?_range h]; rfl
theorem mixT_zero {i st n : Nat} {nx : List (List Int)} {ac : List Bool} (hM : Dok i st n nx ac) {s : Nat} (hs : s < n) : mixT nx ac i s 0 = nx.getD s [] := by
  refine list_ext_d 0 (by rw [mixT_len, (hM.row s hs).1]) fun b hb => ?_
  rw [mixT_len] at hb
  rw [mixT_get hb, if_neg (by omega), hM.nN_eq hs hb]
theorem mixT_set (nx : List (List Int)) (ac : List Bool) (i s a : Nat) : (mixT nx ac i s a).set a (tomR nx ac s a) = mixT nx ac i s (a + 1) := by
  refine list_ext_d 0 (by rw [List.length_set, mixT_len, mixT_len]) fun b hb => ?_
  rw [List.length_set, mixT_len] at hb
  rw [mixT_get hb, List.getD_eq_getElem?_getD, List.getElem?_set]
  by_cases e : a = b
  · subst e
    rw [if_pos rfl, if_pos (by rw [mixT_len]; exact hb), if_pos (Nat.lt_succ_self _)]; rfl
  · rw [if_neg e, ← List.getD_eq_getElem?_getD, mixT_get hb]
    by_cases h : b < a
    · rw [if_pos h, if_pos (by omega)]
    · rw [if_neg h, if_neg (by omega)]
theorem mixT_all (nx : List (List Int)) (ac : List Bool) (i s : Nat) : mixT nx ac i s i = (List.range i).map fun a => tomR nx ac s a := by
  unfold mixT
  apply List.map_congr_left
  intro b hb
  rw [if_pos (by simpa using hb)]
set_option maxHeartbeats 8000000 in
set_option maxRecDepth 100000 in
theorem dtom (i st n : Nat) (A B : Option Addr) (c d : Nat) (nx : List (List Int)) (ac : List Bool) (w : World) (hx : Lists w A n nx) (ha : Bools w B n ac) (hM : Dok i st n nx ac) (h64 : i ≤ 64) :
    Calls Try.prog 31 #[.agg #[.int .i64 i, .int .i64 st, .slice A n c, .slice B n d]] w fun e w' => ∃ A' c' B' d',
      e = .returned (.tuple #[.agg #[.int .i64 i, .int .i64 st, .slice A' n c', .slice B' n d'], .int .i64 0]) ∧ OwnedL w' w.heap.size (.slice A' n c') nx ∧ OwnedL w' w.heap.size (.slice B' n d') (tomO nx ac i n) ∧ Below w.heap.size w w' := by
  obtain ⟨w0, hw0, hb0, hB, hR, hz0⟩ := tom_boxes w i st A B n c n d
  obtain ⟨k0, k1, k2, k3, _⟩ := hB.cells
  have hn := hM.n2
  have hi := hM.i1
  have hnl := hM.nxl
  have HV := Lib.hid hM.vld
  have HW0 := Lib.hid hw0
  have HX := Lib.hid (hx.below hb0)
  have HA := Lib.hid (ha.below hb0)
  have HB0 := Lib.hid hb0
  have HB := Lib.hid hB
  have HR := Lib.hid hR
  have HZ := Lib.hid hz0
  have HM := Lib.hid hM
  have HNL := Lib.hid hnl
  have d1 : decide ((64 : Int) < (i : Int)) = false := decide_eq_false (by omega)
  clear hw0 hB hb0 hR hM hnl
  rw [HW0.out] at k0 k1 k2 k3
  go_enter Try.func31, Try.ntmps31
  go_wp2_with fail
  rw [← HW0.out]
  refine (pvalD _ _ _ _ _ _ _ _ _ _ _ HX.out HA.out.1 HA.out.2.1).mono ?_
  rintro e w1 ⟨rfl, b1⟩
  rw [HV.out]
  clear k0 k1 k2 k3
  obtain ⟨k0, k1, k2, k3, _⟩ := (HB.out.on9 b1).cells
  have HB1 := Lib.hid b1
  have HCL := Lib.hid (fun (W : World) (h : Below w1.heap.size w1 W) => And.intro (HX.out.below (bt b1 h)) (And.intro (HA.out.below (bt b1 h)) ((HB.out.on9 b1).on9 h).cells))
  have hz1 := b1.size
  clear b1
  go_upto_region 6 with fail
  go_cut [5] from 20 to 30 (fun v5 wx => ∃ (g : Nat) (A2 : Option Addr) (c2 : Nat) (A3 : Option Addr) (c3 : Nat) (bk ck bl cl : Nat → Nat), v5 = .pointer (some ⟨g, 0, none⟩) ∧ w1.heap.size ≤ g ∧ Yblk wx g (.int .i64 i) (.int .i64 st) (.slice A2 n c2) (.slice A3 n c3) ∧ OwnR wx w1.heap.size (.slice A2 n c2) i bk ck nx ∧ OwnR wx w1.heap.size (.slice A3 n c3) i bl cl nx ∧ (∀ s t, s < n → t < n → bk s ≠ bl t) ∧ Below w1.heap.size w1 wx)
  case first =>
    go_region_held3 (fun w' => w'.cell? ⟨w.heap.size, 0, none⟩ = some (.int .i64 i) ∧ w'.cell? ⟨w.heap.size, 1, none⟩ = some (.int .i64 st) ∧ w'.cell? ⟨w.heap.size, 2, none⟩ = some (.slice A n c))
      (first
        | (refine ⟨(HCL.out _ ?_).2.2.1, (HCL.out _ ?_).2.2.2.1, (HCL.out _ ?_).2.2.2.2.1⟩ <;> (first | exact below_drewN (Below.refl _ _) 1 | exact below_drewN (alloc_below _ _) 1 | exact hb3 | exact hb3.alloc hb3.size _ | exact hb2 | exact hb2.alloc hb2.size _ | exact below_set4 hb2.size hb3 _ _ _ _ | exact below_set4 (Nat.le_refl _) hb3 _ _ _ _))
        | go_keep)
      (first
        | (go_at_call 43; refine (drowsR _ i n _ nx _ (HCL.out _ (by first | exact hb2 | exact hb2.alloc hb2.size _)).1 hn hi (fun s hs => (HM.out.row s hs).1)).mono ?_; rintro e w3 ⟨A3, c3, bl, cl, rfl, o3, b3⟩; have hb3 : Below w1.heap.size w1 w3 := (by first | exact bt hb2 b3 | exact bt (hb2.alloc hb2.size _) b3); (try (have hq := ((show Yblk ((w1.alloc (.cells #[.int .i64 0, .int .i64 0, .slice none 0 0, .slice none 0 0] 58)).drew) w1.heap.size (.int .i64 0) (.int .i64 0) (.slice none 0 0) (.slice none 0 0) from heap_alloc_new w1 _).on9 b2).on9 b3)); (try (have hq := (yblk_new w2 (.int .i64 0) (.int .i64 0) (.slice none 0 0) (.slice none 0 0)).on9 b3)); (try (obtain ⟨q0, q1, q2, q3, g0, g1, g2, g3⟩ := hq.cells)))
        | (go_at_call 43; refine (drowsR _ i n _ nx _ (HCL.out _ (by first | exact below_drewN (Below.refl _ _) 1 | exact below_drewN (alloc_below _ _) 1)).1 hn hi (fun s hs => (HM.out.row s hs).1)).mono ?_; rintro e w2 ⟨A2, c2, bk, ck, rfl, o2, b2⟩; have hb2 : Below w1.heap.size w1 w2 := (by first | exact bt (below_drewN (Below.refl _ _) 1) b2 | exact bt (below_drewN (alloc_below _ _) 1) b2)))
    all_goals
      have hz3 : w1.heap.size ≤ w3.heap.size := hb3.size
      have hap : ∀ s t, s < n → t < n → bk s ≠ bl t := fun s t hs ht e => by
        have e1 := (o2.2.1 s (by rw [HNL.out]; exact hs)).2.1
        have e2 := (o3.2.1 t (by rw [HNL.out]; exact ht)).1
        (try simp at e2)
        omega
      have HO2 := Lib.hid ((show OwnR w3 _ (.slice A2 n c2) i bk ck nx by first | exact o2.kept b3 | exact (o2.kept (alloc_below w2 _)).kept b3).lower (base' := w1.heap.size) (by simp))
      have HO3 := Lib.hid (o3.lower (base' := w1.heap.size) (by first | exact hb2.size | (simp; have := hb2.size; omega)))
      go_wp2_with fail
      go_meet
      first
        | ((with_reducible refine ⟨w3.heap.size, A2, c2, A3, c3, bk, ck, bl, cl, rfl, hz3, ?_, ?_, ?_, hap, ?_⟩); exact yblk_new w3 _ _ _ _; exact HO2.out.kept (alloc_below w3 _); exact HO3.out.kept (alloc_below w3 _); exact hb3.alloc hb3.size _)
        | ((with_reducible refine ⟨w1.heap.size, A2, c2, A3, c3, bk, ck, bl, cl, rfl, Nat.le_refl _, ?_, ?_, ?_, hap, ?_⟩); exact hq.set4 _ _ _ _; exact HO2.out.keptT (hq.off4 _ _ _ _ (by decide)) (hq.off4 _ _ _ _ (by decide)) (by simp); exact HO3.out.keptT (hq.off4 _ _ _ _ (by decide)) (hq.off4 _ _ _ _ (by decide)) (by simp); exact below_set4 (Nat.le_refl _) hb3 _ _ _ _)
        | ((with_reducible refine ⟨w2.heap.size, A2, c2, A3, c3, bk, ck, bl, cl, rfl, hb2.size, ?_, ?_, ?_, hap, ?_⟩); exact hq.set4 _ _ _ _; exact HO2.out.keptT (hq.off4 _ _ _ _ (by decide)) (hq.off4 _ _ _ _ (by decide)) (by simp); exact HO3.out.keptT (hq.off4 _ _ _ _ (by decide)) (hq.off4 _ _ _ _ (by decide)) (by simp); exact below_set4 hb2.size hb3 _ _ _ _)
  case rest =>
    obtain ⟨g, A2, c2, A3, c3, bk, ck, bl, cl, rfl, hg, hY, hO2, hO3, hap, hb⟩ := hcut
    clear k0 k1 k2 k3
    obtain ⟨y0, y1, y2, y3, _⟩ := hY.cells
    have HY := Lib.hid hY
    have HO2 := Lib.hid hO2
    have HO3 := Lib.hid hO3
    have HAP := Lib.hid hap
    have HBC := Lib.hid hb
    clear hY hO2 hO3 hap hb
    go_wp2_with fail
    clear y0 y1 y2 y3
    go_loopw [34] (fun v34 wr => ∃ (s : Nat) (M : List (List Int)), v34 = .int .i64 s ∧ s ≤ n ∧ M.length = n ∧ (∀ t, t < s → M.getD t [] = mixT nx ac i t i) ∧ (∀ t, s ≤ t → t < n → M.getD t [] = nx.getD t []) ∧ Yblk wr g (.int .i64 i) (.int .i64 st) (.slice A2 n c2) (.slice A3 n c3) ∧ OwnR wr w1.heap.size (.slice A2 n c2) i bk ck nx ∧ OwnR wr w1.heap.size (.slice A3 n c3) i bl cl M ∧ Below w1.heap.size w1 wr) (fun v34 _ => n - (intOf v34).toNat)
    case atStart => exact ⟨0, nx, rfl, Nat.zero_le _, HNL.out, fun t ht => absurd ht (by omega), fun _ _ _ => rfl, HY.out, HO2.out, HO3.out, HBC.out⟩
    case round =>
      obtain ⟨s, M, rfl, hs, hMl, hM1, hM2, hY, hO2, hO3, hbr⟩ := hrel
      have HML := Lib.hid hMl
      have HM1 := Lib.hid hM1
      have HM2 := Lib.hid hM2
      have HY := Lib.hid hY
      have HO2 := Lib.hid hO2
      have HO3 := Lib.hid hO3
      have HBR := Lib.hid hbr
      clear hMl hM1 hM2 hO2
      by_cases hlt : s < n
      · obtain ⟨gO, rfl, xO⟩ := hO3.outer (s := s) (by rw [HML.out]; exact hlt)
        have hs0 : (0 : Int) ≤ (s : Int) := by omega
        have hs1 : (s : Int) < (n : Int) := by omega
        clear hY hO3 hbr
        go_wp2_with fail
        obtain ⟨wo, rfl⟩ : ∃ wo : World, wo = wr := ⟨_, rfl⟩
        clear xO
        go_loopw [40] (fun v40 wr => ∃ (a : Nat) (M2 : List (List Int)), v40 = .int .i64 a ∧ a ≤ i ∧ M2 = M.set s (mixT nx ac i s a) ∧ Yblk wr g (.int .i64 i) (.int .i64 st) (.slice A2 n c2) (.slice (some ⟨gO, 0, none⟩) n c3) ∧ OwnR wr w1.heap.size (.slice A2 n c2) i bk ck nx ∧ OwnR wr w1.heap.size (.slice (some ⟨gO, 0, none⟩) n c3) i bl cl M2 ∧ Below w1.heap.size w1 wr) (fun v40 _ => i - (intOf v40).toNat)
        case atStart =>
          refine ⟨0, M, rfl, Nat.zero_le _, ?_, HY.out, HO2.out, HO3.out, HBR.out⟩
          rw [mixT_zero HM.out hlt, ← HM2.out s (Nat.le_refl _) hlt]
          have hl := HML.out
          rw [List.getD_eq_getElem?_getD, List.getElem?_eq_getElem (by omega)]
          show M = M.set s M[s]
          rw [List.set_getElem_self]
        case round =>
          obtain ⟨a, M2, rfl, hai, hM2e, hY2, hP2, hP3, hb2⟩ := hrel
          have hM2l : M2.length = n := by rw [hM2e, List.length_set]; exact HML.out
          have hrow : M2.getD s [] = mixT nx ac i s a := by
            rw [hM2e, List.getD_eq_getElem?_getD, List.getElem?_set, if_pos rfl, if_pos (by rw [HML.out]; exact hlt)]; rfl
          by_cases hla : a < i
          · obtain ⟨b1, b2, b3, b4⟩ := hP3.2.1 s (by omega)
            rw [hrow] at b3 b4
            obtain ⟨cur, hcur⟩ := b4.blk
            obtain ⟨bq, oq, eq, _, xq⟩ := (b4.ints (by rw [mixT_len]; have := HM.out.i2; omega)).at_ hla
            cases eq
            rw [mixT_get hla, if_neg (Nat.lt_irrefl a), Nat.zero_add] at xq
            have hfz := (b4.head hi)
            obtain ⟨g9, e9, _, _, hf9⟩ := hfz
            cases e9
            have hf := hf9 a
            have hul := HM.out.nN_lt hlt hla
            obtain ⟨gB, oB, eB, _, xB⟩ := (HCL.out _ hb2).2.1.at_ hul
            change wr.cell? _ = some (.bool (aN ac (nN nx s a))) at xB
            obtain ⟨_, _, _, k3, _⟩ := (HCL.out _ hb2).2.2
            have hst := hP3.stored (s := s) (by omega) a (tomR nx ac s a)
            rw [hrow, mixT_set, hM2e, List.set_set] at hst
            have hP2s := hP2.off (a := a) (u := .int .i64 (tomR nx ac s a)) hcur (fun t ht => HAP.out t s (by rw [← HNL.out]; exact ht) hlt)
            have hYs := hY2.keptT (KeptT.off (k := a) hcur (by decide) (.int .i64 (tomR nx ac s a)))
            have hbs := hb2.setCell (p := ⟨bl s, a, none⟩) b1 (.int .i64 (tomR nx ac s a))
            have HST := Lib.hid (And.intro hst (And.intro hP2s (And.intro hYs hbs)))
            have htr : tomR nx ac s a = if aN ac (nN nx s a) then 1 else 0 := rfl
            rw [htr] at HST
            have HTR := Lib.hid (show (M.set s (mixT nx ac i s (a + 1))) = M.set s (mixT nx ac i s (a + 1)) from rfl)
            generalize nN nx s a = u at xq xB hul HST
            generalize aN ac u = x at xB HST
            have hu0 : (0 : Int) ≤ (u : Int) := by omega
            have hu1 : (u : Int) < (n : Int) := by omega
            subst eB
            clear hM2l hrow hst hP2s hYs hbs htr hY2 hP2 hP3 hb2 b1 b2 b3 b4 hcur hf9 hM2e
            cases x
            all_goals
              go_wp2_with (first | (go_at_call 64; refine (dbit _ _).mono ?_; rintro e w9 ⟨rfl, rfl⟩))
              go_roundw
              case rel => exact ⟨a + 1, M.set s (mixT nx ac i s (a + 1)), by go_num, by omega, rfl, HST.out.2.2.1, HST.out.2.1, HST.out.1, HST.out.2.2.2⟩
              case measure => simp [intOf]; omega
          · obtain rfl : a = i := by omega
            have HN1 := Lib.hid (show ∀ t, t < s + 1 → M2.getD t [] = mixT nx ac a t a from fun t ht => by
              by_cases e : t = s
              · subst e; exact hrow
              · rw [hM2e, List.getD_eq_getElem?_getD, List.getElem?_set, if_neg (by omega), ← List.getD_eq_getElem?_getD]
                exact HM1.out t (by omega))
            have HN2 := Lib.hid (show ∀ t, s + 1 ≤ t → t < n → M2.getD t [] = nx.getD t [] from fun t h1 h2 => by
              rw [hM2e, List.getD_eq_getElem?_getD, List.getElem?_set, if_neg (by omega), ← List.getD_eq_getElem?_getD]
              exact HM2.out t (by omega) h2)
            have HF := Lib.hid (And.intro hM2l (And.intro hY2 (And.intro hP2 (And.intro hP3 hb2))))
            clear hM2l hrow hM2e hY2 hP2 hP3 hb2
            go_wp2_with fail
            go_roundw
            case rel => exact ⟨s + 1, M2, by go_num, by omega, HF.out.1, HN1.out, HN2.out, HF.out.2.1, HF.out.2.2.1, HF.out.2.2.2.1, HF.out.2.2.2.2⟩
            case measure => simp [intOf]; omega
      · obtain rfl : n = s := by omega
        have hMe : M = tomO nx ac i n := by
          refine list_ext_d [] (by rw [HML.out]; simp [tomO]) fun t ht => ?_
          rw [HML.out] at ht
          rw [HM1.out t ht, mixT_all]
          unfold tomO
          rw [List.getD_eq_getElem?_getD, List.getElem?_map, List.getElem?_range ht]; rfl
        obtain ⟨y0, y1, y2, y3, _⟩ := hY.cells
        have hzz := HZ.out
        have HRr := Lib.hid (HR.out.kept (bt HB1.out hbr) (show w.heap.size + 1 < w0.heap.size by omega))
        obtain ⟨q0, q1, q2, q3, z0, z1, z2, z3⟩ := HRr.out.cells
        have hzw : w.heap.size ≤ w1.heap.size := (bt HB0.out HB1.out).size
        have HL2 := Lib.hid (HO2.out.toL.lower hzw)
        have HL3 := Lib.hid (hO3.toL.lower hzw)
        have HME := Lib.hid hMe
        have HBW := Lib.hid (bt HB0.out (bt HB1.out hbr))
        clear hY hO3 hbr hMe hzz hzw
        go_wp2_with fail
        refine bodyPost_ret (results_mly rfl _ _ (w.heap.size + 1) _ _ _ _ rfl (HRr.out.set4 _ _ _ _)) rfl ?_
        refine ⟨A2, c2, A3, c3, rfl, HL2.out.keptT (HRr.out.off4 _ _ _ _ (by decide)) (HRr.out.off4 _ _ _ _ (by decide)), ?_, below_set4 (by omega) HBW.out _ _ _ _⟩
        have := HL3.out
        rw [HME.out] at this
        exact this.keptT (HRr.out.off4 _ _ _ _ (by decide)) (HRr.out.off4 _ _ _ _ (by decide))
end Go.Proofs.Ythjnghldedfdoaa
end

section
/- FromMealy of the program. -/
namespace Go.Proofs.Ythjnghldedfdoaa
open Go.RowKit Go.Shelf
attribute [local go_sem] run_store_fn

theorem PrsB.cellsF {W : World} {g i s t ks : Nat} {cs : Array Value} (h : PrsB W g i s t ks cs) : PrsB W g i s t ks cs ∧ W.cell? ⟨g, 0, none⟩ = some (.int .i64 i) ∧ W.cell? ⟨g, 1, none⟩ = some (.int .i64 s) ∧ W.cell? ⟨g, 2, none⟩ = some (.int .i64 t) ∧ W.cell? ⟨g, 3, none⟩ = some (.func (.func ks) #[] cs) := ⟨h, h.cells⟩
set_option maxHeartbeats 4000000 in
set_option maxRecDepth 100000 in
theorem dfromm (i st n : Nat) (A B : Option Addr) (c d : Nat) (nx ot : List (List Int)) (b : Bool) (w : World) (hx : Lists w A n nx) (ho : Lists w B n ot) (hM : Mok i st n nx ot) (hbin : Bin ot) :
    Calls Try.prog 33 #[.agg #[.int .i64 i, .int .i64 st, .slice A n c, .slice B n d], .bool b] w fun e w' =>
      AutP w.heap.size i (autN (fmF nx ot) i (fmR i st n nx ot b)) (autA fmA (fmR i st n nx ot b)) (fmR i st n nx ot b).length e w' ∧ Below w.heap.size w w' := by
  obtain ⟨w0, hw0, hb0, hB, hR, hz0⟩ := frm_boxes w i st A B n c n d
  obtain ⟨k0, k1, k2, k3, _⟩ := hB.cells
  have hn := hM.n2
  have hi := hM.i2
  have hi1 := hM.i1
  have hst := hM.st
  have HW0 := Lib.hid hw0
  have HX := Lib.hid (fun (W : World) (h : Below w0.heap.size w0 W) => (hx.below hb0).below h)
  have HOT := Lib.hid (fun (W : World) (h : Below w0.heap.size w0 W) => (ho.below hb0).below h)
  have HB0 := Lib.hid hb0
  have HB := Lib.hid hB
  have HR := Lib.hid hR
  have HZ := Lib.hid hz0
  have HV := Lib.hid hM.vld
  have HP := Lib.hid hM.out_pos
  have HBIN := Lib.hid hbin
  have d1 : decide ((1 : Int) < Lib.maxOf (outL ot [])) = false := decide_eq_false fun h => hM.bin.mpr h hbin
  have HM := Lib.hid hM
  clear hw0 hB hb0 hR hz0 hM hbin
  rw [HW0.out] at k0 k1 k2 k3
  go_enter Try.func33, Try.ntmps33
  go_wp2_with fail
  rw [← HW0.out]
  refine (pvalid _ _ _ _ _ _ _ _ _ _ _ (HX.out _ (Below.refl _ _)) (HOT.out _ (Below.refl _ _))).mono ?_
  rintro e w1 ⟨rfl, b1⟩
  rw [HV.out]
  have HB1 := Lib.hid b1
  clear k0 k1 k2 k3
  obtain ⟨k0, k1, k2, k3, _⟩ := (HB.out.on9 b1).cells
  clear b1
  go_wp2_with fail
  refine (poutputs_ok _ _ _ _ _ _ _ _ _ _ (HX.out _ HB1.out) (HOT.out _ HB1.out) HM.out).mono ?_
  rintro e w2 ⟨A2, c2, rfl, o2, b2⟩
  have b02 := bt HB1.out b2
  have HB2 := Lib.hid b02
  have HP2 := Lib.hid (pmax1 A2 _ c2 _ w2 (o2.ints HM.out.out_len) HP.out)
  go_wp2_with fail
  refine HP2.out.mono ?_
  rintro e w3 ⟨rfl, rfl⟩
  clear k0 k1 k2 k3
  have hby := HB.out.on9 b02
  obtain ⟨k0, k1, k2, k3, _⟩ := hby.cells
  have HBY := Lib.hid (fun (W : World) (h : Below w3.heap.size w3 W) => (hby.on9 h).cells)
  clear b02 b2 o2 hby
  go_upto_region 6 with fail
  go_cut [7] from 19 to 27 (fun v7 wx => ∃ g : Nat, v7 = .pointer (some ⟨g, 0, none⟩) ∧ PrsB wx g i st b.toNat 69 #[.pointer (some ⟨w.heap.size, 0, none⟩)] ∧ Below w3.heap.size w3 wx)
  case first =>
    go_region_held3 (fun w' => w'.cell? ⟨w.heap.size, 0, none⟩ = some (.int .i64 i) ∧ w'.cell? ⟨w.heap.size, 1, none⟩ = some (.int .i64 st))
      (first
        | (refine ⟨(HBY.out _ ?_).1, (HBY.out _ ?_).2.1⟩ <;> (first | exact below_drewN (Below.refl _ _) 1 | exact below_drewN (alloc_below _ _) 1))
        | go_keep)
      (first
        | (go_at_call 64; refine (dbit2 b _).mono ?_; rintro e w4 ⟨rfl, rfl⟩))
    all_goals
      go_wp2_with fail
      go_meet
      exact ⟨w3.heap.size, rfl, heap_alloc_new w3 _, below_drewN (alloc_below w3 _) 1⟩
  case rest =>
    obtain ⟨g, rfl, hP, hb⟩ := hcut
    clear k0 k1 k2 k3
    obtain ⟨p0, p1, p2, p3⟩ := hP.cells
    have b0c := bt HB2.out hb
    have HBC := Lib.hid b0c
    have hA := dautomaton _ _ _ _ _ _ i n 2 st b.toNat wc (fm_stp HM.out HBIN.out) hst (by cases b <;> decide) (by omega) (by omega) hi1 (by omega) (stepF HM.out (HB.out.on9 b0c) (HX.out _ b0c) (HOT.out _ b0c)) (wantF n wc)
    have HA := Lib.hid hA
    clear hb b0c hA hP
    go_wp2_with fail
    refine HA.out.mono ?_
    rintro e w5 ⟨hA, b5⟩
    have b05 := bt HBC.out b5
    have hzz := HZ.out
    have HRr := Lib.hid (HR.out.kept b05 (show w.heap.size + 1 < w0.heap.size by omega))
    obtain ⟨q0, q1, q2, q3, z0, z1, z2, z3⟩ := HRr.out.cells
    have HB05 := Lib.hid (bt HB0.out b05)
    have hz4 := Lib.hid (bt HB0.out HBC.out).size
    clear p0 p1 p2 p3 b5 b05 hzz
    have HRQ := Lib.hid (show fdG (fmF nx ot) i n 2 st b.toNat = fmR i st n nx ot b from rfl)
    rw [HRQ.out] at hA
    unfold AutP at hA
    split at hA
    · rename_i hle
      obtain ⟨A5, c5, B5, d5, rfl, o5, p5⟩ := hA
      have HLE := Lib.hid hle
      have HO5 := Lib.hid o5
      have HP5 := Lib.hid p5
      clear hle o5 p5
      go_wp2_with fail
      refine bodyPost_ret (results_dfa rfl _ _ (w.heap.size + 1) _ _ _ _ rfl (HRr.out.set4 _ _ _ _)) rfl ?_
      exact ⟨AutP.ok HLE.out ⟨A5, c5, B5, d5, rfl, (HO5.out.keptT (HRr.out.off4 _ _ _ _ (by decide)) (HRr.out.off4 _ _ _ _ (by decide))).lower hz4.out, (HP5.out.keptT (HRr.out.off4 _ _ _ _ (by decide))).lower hz4.out⟩, below_set4 (by omega) HB05.out _ _ _ _⟩
    · rename_i hle
      subst hA
      have HLE := Lib.hid hle
      clear hle
      go_wp2_with fail
      refine bodyPost_ret (results_dfa rfl _ _ (w.heap.size + 1) _ _ _ _ rfl (HRr.out.set4 _ _ _ _)) rfl ?_
      exact ⟨AutP.bad (Nat.lt_of_not_le HLE.out), below_set4 (by omega) HB05.out _ _ _ _⟩
end Go.Proofs.Ythjnghldedfdoaa
end

section
/- The reference's SameWords. -/
namespace Go.Proofs.Ythjnghldedfdoaa
open Go.RowKit

theorem rsameD (A B : Option Addr) (n c m d : Nat) (xs ys : List Int) (b : Bool) (w : World) (hx : Ints w A n xs) (hy : Ints w B m ys) (hb : b = decide (xs = ys)) :
    Calls Try.prog 21 #[.slice A n c, .slice B m d] w fun e w' => e = .returned (.bool b) ∧ ∃ q, w' = w.drewN q :=
  rsame A B n c m d xs ys b w hx hy (by rw [hb]; simp)

set_option maxHeartbeats 1000000 in
theorem rsameWords (A B : Option Addr) (n c m d : Nat) (xs ys : List (List Int)) (b : Bool) (w : World) (hx : Lists w A n xs) (hy : Lists w B m ys) (hb : b = decide (xs = ys)) :
    Calls Try.prog 40 #[.slice A n c, .slice B m d] w fun e w' => e = .returned (.bool b) ∧ ∃ q, w' = w.drewN q := by
  have L1 := Lib.hid hx.1
  have L2 := Lib.hid hy.1
  have hn := hx.2.1
  have hm := hy.2.1
  by_cases hnm : n = m
  · subst hnm
    have HB := Lib.hid hb
    clear hb
    go_enter Try.func40, Try.ntmps40
    go_wp2
    go_loopw [5] (fun i wr => ∃ j : Nat, j ≤ n ∧ i = .int .i64 j ∧ AgreeL [] xs ys j ∧ ∃ q, wr = w.drewN q) (fun i _ => n - (intOf i).toNat)
    case atStart => exact ⟨0, Nat.zero_le _, rfl, AgreeL.zero _ _ _, 0, rfl⟩
    case round =>
      obtain ⟨j, hj, rfl, heq, hw⟩ := hrel
      have hx' : Lists wr A n xs := by obtain ⟨q, rfl⟩ := hw; exact hx
      have hy' : Lists wr B n ys := by obtain ⟨q, rfl⟩ := hw; exact hy
      have HW := Lib.hid hw
      clear hw
      have HE := Lib.hid heq
      clear heq
      by_cases hlt : j < n
      · obtain ⟨g1, o1, A1, n1, c1, rfl, _, hc1, hi1⟩ := hx'.at_ hlt
        obtain ⟨g2, o2, A2, n2, c2, rfl, _, hc2, hi2⟩ := hy'.at_ hlt
        by_cases he : xs.getD j [] = ys.getD j []
        · have hnx := Lib.hid (HE.out.succ he)
          have hd := Lib.hid ((decide_eq_true he).symm)
          clear he
          go_wp2
          go_quiet ((go_at_call 21; exact Calls.quiet_of (rsameD _ _ _ _ _ _ _ _ _ _ hi1 hi2 hd.out)))
          go_wp2
          go_roundw
          case rel => exact ⟨j + 1, by omega, by go_num, hnx.out, drew_more HW.out _⟩
          case measure => simp [intOf]; omega
        · have hfin : Hid (b = false) := Lib.hid (HB.out.trans (decide_eq_false fun e => he (by rw [e])))
          have hd := Lib.hid ((decide_eq_false he).symm)
          clear he
          go_wp2
          go_quiet ((go_at_call 21; exact Calls.quiet_of (rsameD _ _ _ _ _ _ _ _ _ _ hi1 hi2 hd.out)))
          go_wp2
          go_ret
          exact ⟨ret_bool hfin.out.symm, by first | exact drew_more HW.out _ | exact HW.out⟩
      · obtain rfl : j = n := by omega
        have hfin : Hid (b = true) := Lib.hid (HB.out.trans (decide_eq_true (HE.out.all L1.out L2.out)))
        go_wp2
        go_ret
        exact ⟨ret_bool hfin.out.symm, by first | exact drew_more HW.out _ | exact HW.out⟩
  · have hfin : Hid (b = false) := Lib.hid (hb.trans (decide_eq_false fun e => hnm (by rw [← L1.out, ← L2.out, e])))
    have hd : ((n : Int) != (m : Int)) = true := by simp; omega
    clear hnm hb
    go_enter Try.func40, Try.ntmps40
    go_wp2
    go_ret
    exact ⟨ret_bool hfin.out.symm, 0, rfl⟩

end Go.Proofs.Ythjnghldedfdoaa
end
