/- Lemmas of the proofs of this seat, of the parts L14i. Conditions: none. -/
import Derived.Test.YtogcecfeofbbnaaNah
import Derived.Test.YtogcecfeofbbnaaNaf
import Derived.Test.YtogcecfeofbbnaaNbp
import Derived.Test.YtogcecfeofbbnaaNbq
import Derived.Test.YtogcecfeofbbnaaNbr
import Derived.Test.YtogcecfeofbbnaaNae
import Derived.Deep.DeepCutAuto
section
/- The law ComposeEquivalent: the walk. -/
namespace Go.Proofs.Ytogcecfeofbbnaa
open Go.RowKit

set_option linter.unusedSimpArgs false in
set_option linter.unusedVariables false in
set_option maxHeartbeats 8000000 in
set_option maxRecDepth 100000 in
theorem equi14_walk (i1 st1 i2 st2 : Int) (A B C D : Option Addr) (n c m d n2 c2 m2 d2 : Nat) (nx ot nx' ot' : List (List Int)) (w : World) (hx1 : Lists w A n nx) (ho1 : Lists w B m ot) (hx2 : Lists w C n2 nx') (ho2 : Lists w D m2 ot') :
    Calls Try.prog 14 #[.agg #[.int .i64 i1, .int .i64 st1, .slice A n c, .slice B m d], .agg #[.int .i64 i2, .int .i64 st2, .slice C n2 c2, .slice D m2 d2]] w fun e w' => e = .returned (.bool true) ∧ Below w.heap.size w w' := by
  obtain ⟨w0, hw0, hb0, hG, hG', hz0⟩ := pair_boxesM w i1 st1 i2 st2 A B C D n c m d n2 c2 m2 d2
  have HW0 := Lib.hid hw0
  have HB0 := Lib.hid hb0
  have HX1 := Lib.hid (fun (W : World) (h : Below w0.heap.size w0 W) => (hx1.below hb0).below h)
  have HO1 := Lib.hid (fun (W : World) (h : Below w0.heap.size w0 W) => (ho1.below hb0).below h)
  have HX2 := Lib.hid (fun (W : World) (h : Below w0.heap.size w0 W) => (hx2.below hb0).below h)
  have HO2 := Lib.hid (fun (W : World) (h : Below w0.heap.size w0 W) => (ho2.below hb0).below h)
  have HG1 := Lib.hid (fun (W : World) (h : Below w0.heap.size w0 W) => hG.on h)
  have HG2 := Lib.hid (fun (W : World) (h : Below w0.heap.size w0 W) => hG'.on h)
  have hbc := Below.refl w0.heap.size w0
  obtain ⟨k0, k1, k2, k3, _⟩ := hG.cells
  rw [HW0.out] at k0 k1 k2 k3
  clear hw0 hb0 hG hG' hz0 hx1 ho1 hx2 ho2
  go_enter Try.func14, Try.ntmps14
  go_wp2_with fail
  rw [← HW0.out]
  refine (rgreat10 _ _ _ _ _ _ _ _ _ _ _ (HX1.out _ hbc) (HO1.out _ hbc)).mono ?_
  rintro e w1 ⟨b1, rfl, hs1, a1⟩
  have hbc := bt hbc a1
  clear k0 k1 k2 k3 a1 hs1
  cases b1
  case true =>
    go_wp2_with fail
    refine (awake14 _).mono ?_
    rintro e wz ⟨rfl, az⟩
    have hbz := bt HB0.out (bt hbc az)
    go_wp2_with fail
    go_ret
    exact ⟨rfl, hbz⟩
  obtain ⟨l0, l1, l2, l3, _⟩ := (HG2.out _ hbc).cells
  go_wp2_with fail
  refine (rgreat10 _ _ _ _ _ _ _ _ _ _ _ (HX2.out _ hbc) (HO2.out _ hbc)).mono ?_
  rintro e w2 ⟨b2, rfl, hs2, a2⟩
  have hbc := bt hbc a2
  clear l0 l1 l2 l3 a2 hs2
  cases b2
  case true =>
    go_wp2_with fail
    refine (awake14 _).mono ?_
    rintro e wz ⟨rfl, az⟩
    have hbz := bt HB0.out (bt hbc az)
    go_wp2_with fail
    go_ret
    exact ⟨rfl, hbz⟩
  obtain ⟨k0, k1, k2, k3, _⟩ := (HG1.out _ hbc).cells
  go_wp2_with fail
  refine (rvalid _ _ _ _ _ _ _ _ _ _ _ (HX1.out _ hbc) (HO1.out _ hbc)).mono ?_
  rintro e v1 ⟨rfl, a3⟩
  have hbc := bt hbc a3
  clear k0 k1 k2 k3 a3
  by_cases hv : vld i1 st1 nx ot = 0
  case neg =>
    have t1 : (vld i1 st1 nx ot != 0) = true := by simpa using hv
    generalize vld i1 st1 nx ot = V at t1 hv
    clear hv
    go_wp2_with fail
    refine (awake14 _).mono ?_
    rintro e wz ⟨rfl, az⟩
    have hbz := bt HB0.out (bt hbc az)
    go_wp2_with fail
    go_ret
    exact ⟨rfl, hbz⟩
  obtain ⟨i, st, y, rfl, rfl, hM⟩ := vld_zero hv
  obtain rfl : n = y := by rw [← hM.nxl]; exact (HX1.out _ (Below.refl _ _)).1.symm
  obtain rfl : n = m := by rw [← hM.otl]; exact (HO1.out _ (Below.refl _ _)).1
  rw [hv]
  have HM := Lib.hid hM
  clear hv
  obtain ⟨k0, k1, k2, k3, _⟩ := (HG2.out _ hbc).cells
  go_wp2_with fail
  refine (rvalid _ _ _ _ _ _ _ _ _ _ _ (HX2.out _ hbc) (HO2.out _ hbc)).mono ?_
  rintro e v2 ⟨rfl, a3⟩
  have hbc := bt hbc a3
  clear k0 k1 k2 k3 a3
  by_cases hv : vld i2 st2 nx' ot' = 0
  case neg =>
    have t1 : (vld i2 st2 nx' ot' != 0) = true := by simpa using hv
    generalize vld i2 st2 nx' ot' = V at t1 hv
    clear hv
    go_wp2_with fail
    refine (awake14 _).mono ?_
    rintro e wz ⟨rfl, az⟩
    have hbz := bt HB0.out (bt hbc az)
    go_wp2_with fail
    go_ret
    exact ⟨rfl, hbz⟩
  obtain ⟨i', st', y, rfl, rfl, hM'⟩ := vld_zero hv
  obtain rfl : n2 = y := by rw [← hM'.nxl]; exact (HX2.out _ (Below.refl _ _)).1.symm
  obtain rfl : n2 = m2 := by rw [← hM'.otl]; exact (HO2.out _ (Below.refl _ _)).1
  rw [hv]
  have HM' := Lib.hid hM'
  clear hv
  obtain ⟨k0, k1, k2, k3, _⟩ := (HG1.out _ hbc).cells
  go_wp2_with fail
  clear k0 k1 k2 k3
  refine (pmin_ok i st n A B c d nx ot v2 (HX1.out _ hbc) (HO1.out _ hbc) hM).mono ?_
  rintro e y5 ⟨A5, c5, B5, d5, rfl, oN, oT, a5⟩
  have hMm := hM.mn
  have lN := lists_ownedM hMm oN
  have lT := lists_ownedO hMm oT
  obtain ⟨N5, hN5⟩ : ∃ N, N = mnN nx ot i st n := ⟨_, rfl⟩
  obtain ⟨T5, hT5⟩ : ∃ T, T = mnO nx ot i st n := ⟨_, rfl⟩
  obtain ⟨r5, hr5⟩ : ∃ r, r = (mnR nx ot i st n).length := ⟨_, rfl⟩
  rw [← hN5, ← hr5] at lN
  rw [← hT5, ← hr5] at lT
  rw [← hN5, ← hT5, ← hr5] at hMm
  rw [← hr5]
  have HMm5 := Lib.hid hMm
  have HNe5 := Lib.hid hN5
  have HTe5 := Lib.hid hT5
  obtain ⟨X5, hX⟩ : ∃ X, X = y5.alloc (.cells #[.int .i64 (i : Nat), .int .i64 0, .slice A5 r5 c5, .slice B5 r5 d5] 24) := ⟨_, rfl⟩
  have bx : Below y5.heap.size y5 X5 := by rw [hX]; exact alloc_below _ _
  have HM5 := Lib.hid (show Mblk X5 y5.heap.size (.int .i64 (i : Nat)) (.int .i64 0) (.slice A5 r5 c5) (.slice B5 r5 d5) by rw [hX]; exact mealy_box y5 _ _ _ _)
  have HN5 := Lib.hid (lN.below bx)
  have HT5 := Lib.hid (lT.below bx)
  have hbc := bt (bt hbc a5) bx
  have hb5 := Below.refl X5.heap.size X5
  have HX5 := Lib.hid hX
  clear hX a5 lN lT bx oN oT hMm hN5 hT5 hr5
  obtain ⟨k0, k1, k2, k3, _⟩ := (HG2.out _ hbc).cells
  rw [HX5.out] at k0 k1 k2 k3
  go_wp2_with fail
  rw [← HX5.out]
  clear k0 k1 k2 k3
  refine (pmin_ok i' st' n2 C D c2 d2 nx' ot' X5 (HX2.out _ hbc) (HO2.out _ hbc) hM').mono ?_
  rintro e y6 ⟨A6, c6, B6, d6, rfl, oN, oT, a6⟩
  have hMm := hM'.mn
  have lN := lists_ownedM hMm oN
  have lT := lists_ownedO hMm oT
  obtain ⟨N6, hN6⟩ : ∃ N, N = mnN nx' ot' i' st' n2 := ⟨_, rfl⟩
  obtain ⟨T6, hT6⟩ : ∃ T, T = mnO nx' ot' i' st' n2 := ⟨_, rfl⟩
  obtain ⟨r6, hr6⟩ : ∃ r, r = (mnR nx' ot' i' st' n2).length := ⟨_, rfl⟩
  rw [← hN6, ← hr6] at lN
  rw [← hT6, ← hr6] at lT
  rw [← hN6, ← hT6, ← hr6] at hMm
  rw [← hr6]
  have HMm6 := Lib.hid hMm
  have HNe6 := Lib.hid hN6
  have HTe6 := Lib.hid hT6
  obtain ⟨X6, hX⟩ : ∃ X, X = y6.alloc (.cells #[.int .i64 (i' : Nat), .int .i64 0, .slice A6 r6 c6, .slice B6 r6 d6] 24) := ⟨_, rfl⟩
  have bx : Below y6.heap.size y6 X6 := by rw [hX]; exact alloc_below _ _
  have HM6 := Lib.hid (show Mblk X6 y6.heap.size (.int .i64 (i' : Nat)) (.int .i64 0) (.slice A6 r6 c6) (.slice B6 r6 d6) by rw [hX]; exact mealy_box y6 _ _ _ _)
  have HN6 := Lib.hid (lN.below bx)
  have HT6 := Lib.hid (lT.below bx)
  have hbc := bt (bt hbc a6) bx
  have hb5 := bt (bt hb5 a6) bx
  have hb6 := Below.refl X6.heap.size X6
  have HX6 := Lib.hid hX
  clear hX a6 lN lT bx oN oT hMm hN6 hT6 hr6
  have HSS := Lib.hid (show ∀ W : World, Below X6.heap.size X6 W → W.cell? ⟨y5.heap.size, 0, none⟩ = some (.int .i64 (i : Nat)) ∧ W.cell? ⟨y5.heap.size, 1, none⟩ = some (.int .i64 0) ∧ W.cell? ⟨y5.heap.size, 2, none⟩ = some (.slice A5 r5 c5) ∧ W.cell? ⟨y5.heap.size, 3, none⟩ = some (.slice B5 r5 d5) ∧ W.cell? ⟨y6.heap.size, 0, none⟩ = some (.int .i64 (i' : Nat)) ∧ W.cell? ⟨y6.heap.size, 1, none⟩ = some (.int .i64 0) ∧ W.cell? ⟨y6.heap.size, 2, none⟩ = some (.slice A6 r6 c6) ∧ W.cell? ⟨y6.heap.size, 3, none⟩ = some (.slice B6 r6 d6) ∧ W.cell? ⟨w.heap.size, 0, none⟩ = some (.int .i64 (i : Nat)) ∧ W.cell? ⟨w.heap.size, 1, none⟩ = some (.int .i64 (st : Nat)) ∧ W.cell? ⟨w.heap.size, 2, none⟩ = some (.slice A n c) ∧ W.cell? ⟨w.heap.size, 3, none⟩ = some (.slice B n d) ∧ W.cell? ⟨w.heap.size + 1, 0, none⟩ = some (.int .i64 (i' : Nat)) ∧ W.cell? ⟨w.heap.size + 1, 1, none⟩ = some (.int .i64 (st' : Nat)) ∧ W.cell? ⟨w.heap.size + 1, 2, none⟩ = some (.slice C n2 c2) ∧ W.cell? ⟨w.heap.size + 1, 3, none⟩ = some (.slice D n2 d2) from fun W h => by
    obtain ⟨a0, a1, a2, a3, _⟩ := (HM5.out.on (bt hb5 h)).cells
    obtain ⟨b0, b1, b2, b3, _⟩ := (HM6.out.on (bt hb6 h)).cells
    obtain ⟨f0, f1, f2, f3, _⟩ := (HG1.out _ (bt hbc h)).cells
    obtain ⟨g0, g1, g2, g3, _⟩ := (HG2.out _ (bt hbc h)).cells
    exact ⟨a0, a1, a2, a3, b0, b1, b2, b3, f0, f1, f2, f3, g0, g1, g2, g3⟩)
  have hbf : Below X6.heap.size X6 X6.drew := below_drewN (Below.refl _ _) 1
  have HM := Lib.hid hM
  have HM' := Lib.hid hM'
  obtain ⟨gm, hgm⟩ : ∃ g, g = grt T5 := ⟨_, rfl⟩
  obtain ⟨ga, hga⟩ : ∃ g, g = grt ot := ⟨_, rfl⟩
  obtain ⟨gn, hgn⟩ : ∃ g, g = grt T6 := ⟨_, rfl⟩
  obtain ⟨gb, hgb⟩ : ∃ g, g = grt ot' := ⟨_, rfl⟩
  clear hM hM'
  by_cases h1 : gm = ga
  case neg =>
    have t1 : ((grt T5 : Int) != (grt ot : Int)) = true := by simp; omega
    have t1' : (grt T5 != grt ot) = true := by simp; omega
    clear h1 hgm hga hgn hgb
    go_wp2_with fail
    rw [← HX6.out]
    refine wp_region_heldX (X := fun k => ([] : List Nat).contains k) (S := fun W => W.cell? ⟨y5.heap.size, 0, none⟩ = some (.int .i64 (i : Nat)) ∧ W.cell? ⟨y5.heap.size, 1, none⟩ = some (.int .i64 0) ∧ W.cell? ⟨y5.heap.size, 2, none⟩ = some (.slice A5 r5 c5) ∧ W.cell? ⟨y5.heap.size, 3, none⟩ = some (.slice B5 r5 d5) ∧ W.cell? ⟨y6.heap.size, 0, none⟩ = some (.int .i64 (i' : Nat)) ∧ W.cell? ⟨y6.heap.size, 1, none⟩ = some (.int .i64 0) ∧ W.cell? ⟨y6.heap.size, 2, none⟩ = some (.slice A6 r6 c6) ∧ W.cell? ⟨y6.heap.size, 3, none⟩ = some (.slice B6 r6 d6) ∧ W.cell? ⟨w.heap.size, 0, none⟩ = some (.int .i64 (i : Nat)) ∧ W.cell? ⟨w.heap.size, 1, none⟩ = some (.int .i64 (st : Nat)) ∧ W.cell? ⟨w.heap.size, 2, none⟩ = some (.slice A n c) ∧ W.cell? ⟨w.heap.size, 3, none⟩ = some (.slice B n d) ∧ W.cell? ⟨w.heap.size + 1, 0, none⟩ = some (.int .i64 (i' : Nat)) ∧ W.cell? ⟨w.heap.size + 1, 1, none⟩ = some (.int .i64 (st' : Nat)) ∧ W.cell? ⟨w.heap.size + 1, 2, none⟩ = some (.slice C n2 c2) ∧ W.cell? ⟨w.heap.size + 1, 3, none⟩ = some (.slice D n2 d2)) (by kernel_rfl) ?_
    refine wpAnyX_takeL (L := []) (i := 0) (v := ?_) rfl (by kernel_rfl) (by kernel_rfl) (by kernel_rfl) (by kernel_rfl) (fun _ _ _ h => h) (Or.inl ⟨by rfl, ?_⟩) (HSS.out _ hbf) ?_
    rotate_left
    · (intro W hSW; (try dsimp only at hSW); obtain ⟨z0, z1, z2, z3, z4, z5, z6, z7, z8, z9, z10, z11, z12, z13, z14, z15⟩ := hSW; go_simp; try with_reducible rfl)
    (try simp only [Act.put, List.getElem_toArray, List.getElem_cons_zero, List.getElem_cons_succ, List.setIfInBounds_toArray, List.set_cons_zero, List.set_cons_succ])
    refine wpAnyX_takeL (L := []) (i := 2) (v := ?_) rfl (by kernel_rfl) (by kernel_rfl) (by kernel_rfl) (by kernel_rfl) (fun _ _ _ h => h) (Or.inl ⟨by rfl, ?_⟩) (HSS.out _ hbf) ?_
    rotate_left
    · (intro W hSW; (try dsimp only at hSW); obtain ⟨z0, z1, z2, z3, z4, z5, z6, z7, z8, z9, z10, z11, z12, z13, z14, z15⟩ := hSW; go_simp; try with_reducible rfl)
    (try simp only [Act.put, List.getElem_toArray, List.getElem_cons_zero, List.getElem_cons_succ, List.setIfInBounds_toArray, List.set_cons_zero, List.set_cons_succ])
    refine wpAnyX_one (i := 1) rfl (by kernel_rfl) (fun K hK => ?_)
    go_simp
    go_at_call 44
    refine (rgreatest i 0 r5 A5 B5 c5 d5 N5 T5 _ (HN5.out.below (bt hb5 hbf)) (HT5.out.below (bt hb5 hbf)) HMm5.out).mono ?_
    rintro e w9 ⟨rfl, b9⟩
    have hbf := bt hbf b9
    refine hK.out _ _ (fun _ _ => HSS.out _ hbf) ?_
    (try simp only [Act.put, List.getElem_toArray, List.getElem_cons_zero, List.getElem_cons_succ, List.setIfInBounds_toArray, List.set_cons_zero, List.set_cons_succ])
    refine wpAnyX_one (i := 3) rfl (by kernel_rfl) (fun K hK => ?_)
    go_simp
    go_at_call 44
    refine (rgreatest i st n A B c d nx ot _ (HX1.out _ (bt hbc hbf)) (HO1.out _ (bt hbc hbf)) HM.out).mono ?_
    rintro e w9 ⟨rfl, b9⟩
    have hbf := bt hbf b9
    refine hK.out _ _ (fun _ _ => HSS.out _ hbf) ?_
    (try simp only [Act.put, List.getElem_toArray, List.getElem_cons_zero, List.getElem_cons_succ, List.setIfInBounds_toArray, List.set_cons_zero, List.set_cons_succ])
    refine wpAnyX_pure (i := 4) (v := ?_) rfl (by kernel_rfl) (by kernel_rfl) (by kernel_rfl) (fun _ _ _ h => h) (Or.inl ⟨by rfl, ?_⟩) ?_
    rotate_left
    · (intro W _; go_simp; try with_reducible rfl)
    (try simp only [Act.put, List.getElem_toArray, List.getElem_cons_zero, List.getElem_cons_succ, List.setIfInBounds_toArray, List.set_cons_zero, List.set_cons_succ])
    refine wpAnyX_pure (i := 5) (v := ?_) rfl (by kernel_rfl) (by kernel_rfl) (by kernel_rfl) (fun _ _ _ h => h) (Or.inl ⟨by rfl, ?_⟩) ?_
    rotate_left
    · (intro W _; go_simp; try with_reducible rfl)
    (try simp only [Act.put, List.getElem_toArray, List.getElem_cons_zero, List.getElem_cons_succ, List.setIfInBounds_toArray, List.set_cons_zero, List.set_cons_succ])
    refine wpAnyX_pure (i := 6) (v := undef) rfl (by kernel_rfl) (by kernel_rfl) (by kernel_rfl) (fun _ _ _ h => h) (Or.inr ⟨by rfl, rfl⟩) ?_
    (try simp only [Act.put, List.getElem_toArray, List.getElem_cons_zero, List.getElem_cons_succ, List.setIfInBounds_toArray, List.set_cons_zero, List.set_cons_succ])
    refine wpAnyX_pure (i := 7) (v := undef) rfl (by kernel_rfl) (by kernel_rfl) (by kernel_rfl) (fun _ _ _ h => h) (Or.inr ⟨by rfl, rfl⟩) ?_
    (try simp only [Act.put, List.getElem_toArray, List.getElem_cons_zero, List.getElem_cons_succ, List.setIfInBounds_toArray, List.set_cons_zero, List.set_cons_succ])
    refine wpAnyX_pure (i := 8) (v := undef) rfl (by kernel_rfl) (by kernel_rfl) (by kernel_rfl) (fun _ _ _ h => h) (Or.inr ⟨by rfl, rfl⟩) ?_
    (try simp only [Act.put, List.getElem_toArray, List.getElem_cons_zero, List.getElem_cons_succ, List.setIfInBounds_toArray, List.set_cons_zero, List.set_cons_succ])
    refine wpAnyX_pure (i := 9) (v := undef) rfl (by kernel_rfl) (by kernel_rfl) (by kernel_rfl) (fun _ _ _ h => h) (Or.inr ⟨by rfl, rfl⟩) ?_
    (try simp only [Act.put, List.getElem_toArray, List.getElem_cons_zero, List.getElem_cons_succ, List.setIfInBounds_toArray, List.set_cons_zero, List.set_cons_succ])
    refine wpAnyX_pure (i := 10) (v := undef) rfl (by kernel_rfl) (by kernel_rfl) (by kernel_rfl) (fun _ _ _ h => h) (Or.inr ⟨by rfl, rfl⟩) ?_
    (try simp only [Act.put, List.getElem_toArray, List.getElem_cons_zero, List.getElem_cons_succ, List.setIfInBounds_toArray, List.set_cons_zero, List.set_cons_succ])
    refine wpAnyX_pure (i := 11) (v := ?_) rfl (by kernel_rfl) (by kernel_rfl) (by kernel_rfl) (fun _ _ _ h => h) (Or.inl ⟨by rfl, ?_⟩) ?_
    rotate_left
    · (intro W _; go_simp; try with_reducible rfl)
    (try simp only [Act.put, List.getElem_toArray, List.getElem_cons_zero, List.getElem_cons_succ, List.setIfInBounds_toArray, List.set_cons_zero, List.set_cons_succ])
    refine wpAnyX_done (by kernel_rfl) ?_ _
    have hbc := bt hbc hbf
    go_wp2_with fail
    refine (awake14 _).mono ?_
    rintro e wz ⟨rfl, az⟩
    have hbz := bt HB0.out (bt hbc az)
    go_wp2_with fail
    go_ret
    exact ⟨rfl, hbz⟩
  by_cases h2 : gn = gb
  case neg =>
    have t1 : ((grt T5 : Int) != (grt ot : Int)) = false := by simp; omega
    have t1' : (grt T5 != grt ot) = false := by simp; omega
    have t2 : ((grt T6 : Int) != (grt ot' : Int)) = true := by simp; omega
    have t2' : (grt T6 != grt ot') = true := by simp; omega
    clear h1 h2 hgm hga hgn hgb
    go_wp2_with fail
    rw [← HX6.out]
    refine wp_region_heldX (X := fun k => ([] : List Nat).contains k) (S := fun W => W.cell? ⟨y5.heap.size, 0, none⟩ = some (.int .i64 (i : Nat)) ∧ W.cell? ⟨y5.heap.size, 1, none⟩ = some (.int .i64 0) ∧ W.cell? ⟨y5.heap.size, 2, none⟩ = some (.slice A5 r5 c5) ∧ W.cell? ⟨y5.heap.size, 3, none⟩ = some (.slice B5 r5 d5) ∧ W.cell? ⟨y6.heap.size, 0, none⟩ = some (.int .i64 (i' : Nat)) ∧ W.cell? ⟨y6.heap.size, 1, none⟩ = some (.int .i64 0) ∧ W.cell? ⟨y6.heap.size, 2, none⟩ = some (.slice A6 r6 c6) ∧ W.cell? ⟨y6.heap.size, 3, none⟩ = some (.slice B6 r6 d6) ∧ W.cell? ⟨w.heap.size, 0, none⟩ = some (.int .i64 (i : Nat)) ∧ W.cell? ⟨w.heap.size, 1, none⟩ = some (.int .i64 (st : Nat)) ∧ W.cell? ⟨w.heap.size, 2, none⟩ = some (.slice A n c) ∧ W.cell? ⟨w.heap.size, 3, none⟩ = some (.slice B n d) ∧ W.cell? ⟨w.heap.size + 1, 0, none⟩ = some (.int .i64 (i' : Nat)) ∧ W.cell? ⟨w.heap.size + 1, 1, none⟩ = some (.int .i64 (st' : Nat)) ∧ W.cell? ⟨w.heap.size + 1, 2, none⟩ = some (.slice C n2 c2) ∧ W.cell? ⟨w.heap.size + 1, 3, none⟩ = some (.slice D n2 d2)) (by kernel_rfl) ?_
    refine wpAnyX_takeL (L := []) (i := 0) (v := ?_) rfl (by kernel_rfl) (by kernel_rfl) (by kernel_rfl) (by kernel_rfl) (fun _ _ _ h => h) (Or.inl ⟨by rfl, ?_⟩) (HSS.out _ hbf) ?_
    rotate_left
    · (intro W hSW; (try dsimp only at hSW); obtain ⟨z0, z1, z2, z3, z4, z5, z6, z7, z8, z9, z10, z11, z12, z13, z14, z15⟩ := hSW; go_simp; try with_reducible rfl)
    (try simp only [Act.put, List.getElem_toArray, List.getElem_cons_zero, List.getElem_cons_succ, List.setIfInBounds_toArray, List.set_cons_zero, List.set_cons_succ])
    refine wpAnyX_takeL (L := []) (i := 2) (v := ?_) rfl (by kernel_rfl) (by kernel_rfl) (by kernel_rfl) (by kernel_rfl) (fun _ _ _ h => h) (Or.inl ⟨by rfl, ?_⟩) (HSS.out _ hbf) ?_
    rotate_left
    · (intro W hSW; (try dsimp only at hSW); obtain ⟨z0, z1, z2, z3, z4, z5, z6, z7, z8, z9, z10, z11, z12, z13, z14, z15⟩ := hSW; go_simp; try with_reducible rfl)
    (try simp only [Act.put, List.getElem_toArray, List.getElem_cons_zero, List.getElem_cons_succ, List.setIfInBounds_toArray, List.set_cons_zero, List.set_cons_succ])
    refine wpAnyX_one (i := 1) rfl (by kernel_rfl) (fun K hK => ?_)
    go_simp
    go_at_call 44
    refine (rgreatest i 0 r5 A5 B5 c5 d5 N5 T5 _ (HN5.out.below (bt hb5 hbf)) (HT5.out.below (bt hb5 hbf)) HMm5.out).mono ?_
    rintro e w9 ⟨rfl, b9⟩
    have hbf := bt hbf b9
    refine hK.out _ _ (fun _ _ => HSS.out _ hbf) ?_
    (try simp only [Act.put, List.getElem_toArray, List.getElem_cons_zero, List.getElem_cons_succ, List.setIfInBounds_toArray, List.set_cons_zero, List.set_cons_succ])
    refine wpAnyX_one (i := 3) rfl (by kernel_rfl) (fun K hK => ?_)
    go_simp
    go_at_call 44
    refine (rgreatest i st n A B c d nx ot _ (HX1.out _ (bt hbc hbf)) (HO1.out _ (bt hbc hbf)) HM.out).mono ?_
    rintro e w9 ⟨rfl, b9⟩
    have hbf := bt hbf b9
    refine hK.out _ _ (fun _ _ => HSS.out _ hbf) ?_
    (try simp only [Act.put, List.getElem_toArray, List.getElem_cons_zero, List.getElem_cons_succ, List.setIfInBounds_toArray, List.set_cons_zero, List.set_cons_succ])
    refine wpAnyX_pure (i := 4) (v := ?_) rfl (by kernel_rfl) (by kernel_rfl) (by kernel_rfl) (fun _ _ _ h => h) (Or.inl ⟨by rfl, ?_⟩) ?_
    rotate_left
    · (intro W _; go_simp; try with_reducible rfl)
    (try simp only [Act.put, List.getElem_toArray, List.getElem_cons_zero, List.getElem_cons_succ, List.setIfInBounds_toArray, List.set_cons_zero, List.set_cons_succ])
    refine wpAnyX_pure (i := 5) (v := ?_) rfl (by kernel_rfl) (by kernel_rfl) (by kernel_rfl) (fun _ _ _ h => h) (Or.inl ⟨by rfl, ?_⟩) ?_
    rotate_left
    · (intro W _; go_simp; try with_reducible rfl)
    (try simp only [Act.put, List.getElem_toArray, List.getElem_cons_zero, List.getElem_cons_succ, List.setIfInBounds_toArray, List.set_cons_zero, List.set_cons_succ])
    refine wpAnyX_takeL (L := []) (i := 6) (v := ?_) rfl (by kernel_rfl) (by kernel_rfl) (by kernel_rfl) (by kernel_rfl) (fun _ _ _ h => h) (Or.inl ⟨by rfl, ?_⟩) (HSS.out _ hbf) ?_
    rotate_left
    · (intro W hSW; (try dsimp only at hSW); obtain ⟨z0, z1, z2, z3, z4, z5, z6, z7, z8, z9, z10, z11, z12, z13, z14, z15⟩ := hSW; go_simp; try with_reducible rfl)
    (try simp only [Act.put, List.getElem_toArray, List.getElem_cons_zero, List.getElem_cons_succ, List.setIfInBounds_toArray, List.set_cons_zero, List.set_cons_succ])
    refine wpAnyX_takeL (L := []) (i := 8) (v := ?_) rfl (by kernel_rfl) (by kernel_rfl) (by kernel_rfl) (by kernel_rfl) (fun _ _ _ h => h) (Or.inl ⟨by rfl, ?_⟩) (HSS.out _ hbf) ?_
    rotate_left
    · (intro W hSW; (try dsimp only at hSW); obtain ⟨z0, z1, z2, z3, z4, z5, z6, z7, z8, z9, z10, z11, z12, z13, z14, z15⟩ := hSW; go_simp; try with_reducible rfl)
    (try simp only [Act.put, List.getElem_toArray, List.getElem_cons_zero, List.getElem_cons_succ, List.setIfInBounds_toArray, List.set_cons_zero, List.set_cons_succ])
    refine wpAnyX_one (i := 7) rfl (by kernel_rfl) (fun K hK => ?_)
    go_simp
    go_at_call 44
    refine (rgreatest i' 0 r6 A6 B6 c6 d6 N6 T6 _ (HN6.out.below (bt hb6 hbf)) (HT6.out.below (bt hb6 hbf)) HMm6.out).mono ?_
    rintro e w9 ⟨rfl, b9⟩
    have hbf := bt hbf b9
    refine hK.out _ _ (fun _ _ => HSS.out _ hbf) ?_
    (try simp only [Act.put, List.getElem_toArray, List.getElem_cons_zero, List.getElem_cons_succ, List.setIfInBounds_toArray, List.set_cons_zero, List.set_cons_succ])
    refine wpAnyX_one (i := 9) rfl (by kernel_rfl) (fun K hK => ?_)
    go_simp
    go_at_call 44
    refine (rgreatest i' st' n2 C D c2 d2 nx' ot' _ (HX2.out _ (bt hbc hbf)) (HO2.out _ (bt hbc hbf)) HM'.out).mono ?_
    rintro e w9 ⟨rfl, b9⟩
    have hbf := bt hbf b9
    refine hK.out _ _ (fun _ _ => HSS.out _ hbf) ?_
    (try simp only [Act.put, List.getElem_toArray, List.getElem_cons_zero, List.getElem_cons_succ, List.setIfInBounds_toArray, List.set_cons_zero, List.set_cons_succ])
    refine wpAnyX_pure (i := 10) (v := ?_) rfl (by kernel_rfl) (by kernel_rfl) (by kernel_rfl) (fun _ _ _ h => h) (Or.inl ⟨by rfl, ?_⟩) ?_
    rotate_left
    · (intro W _; go_simp; try with_reducible rfl)
    (try simp only [Act.put, List.getElem_toArray, List.getElem_cons_zero, List.getElem_cons_succ, List.setIfInBounds_toArray, List.set_cons_zero, List.set_cons_succ])
    refine wpAnyX_pure (i := 11) (v := ?_) rfl (by kernel_rfl) (by kernel_rfl) (by kernel_rfl) (fun _ _ _ h => h) (Or.inl ⟨by rfl, ?_⟩) ?_
    rotate_left
    · (intro W _; go_simp; try with_reducible rfl)
    (try simp only [Act.put, List.getElem_toArray, List.getElem_cons_zero, List.getElem_cons_succ, List.setIfInBounds_toArray, List.set_cons_zero, List.set_cons_succ])
    refine wpAnyX_done (by kernel_rfl) ?_ _
    have hbc := bt hbc hbf
    go_wp2_with fail
    refine (awake14 _).mono ?_
    rintro e wz ⟨rfl, az⟩
    have hbz := bt HB0.out (bt hbc az)
    go_wp2_with fail
    go_ret
    exact ⟨rfl, hbz⟩
  have t1 : ((grt T5 : Int) != (grt ot : Int)) = false := by simp; omega
  have t1' : (grt T5 != grt ot) = false := by simp; omega
  have t2 : ((grt T6 : Int) != (grt ot' : Int)) = false := by simp; omega
  have t2' : (grt T6 != grt ot') = false := by simp; omega
  have HGA := Lib.hid (show grt T5 = grt ot by omega)
  have HGB := Lib.hid (show grt T6 = grt ot' by omega)
  clear h1 h2 hgm hga hgn hgb
  go_wp2_with fail
  rw [← HX6.out]
  refine wp_region_heldX (X := fun k => ([] : List Nat).contains k) (S := fun W => W.cell? ⟨y5.heap.size, 0, none⟩ = some (.int .i64 (i : Nat)) ∧ W.cell? ⟨y5.heap.size, 1, none⟩ = some (.int .i64 0) ∧ W.cell? ⟨y5.heap.size, 2, none⟩ = some (.slice A5 r5 c5) ∧ W.cell? ⟨y5.heap.size, 3, none⟩ = some (.slice B5 r5 d5) ∧ W.cell? ⟨y6.heap.size, 0, none⟩ = some (.int .i64 (i' : Nat)) ∧ W.cell? ⟨y6.heap.size, 1, none⟩ = some (.int .i64 0) ∧ W.cell? ⟨y6.heap.size, 2, none⟩ = some (.slice A6 r6 c6) ∧ W.cell? ⟨y6.heap.size, 3, none⟩ = some (.slice B6 r6 d6) ∧ W.cell? ⟨w.heap.size, 0, none⟩ = some (.int .i64 (i : Nat)) ∧ W.cell? ⟨w.heap.size, 1, none⟩ = some (.int .i64 (st : Nat)) ∧ W.cell? ⟨w.heap.size, 2, none⟩ = some (.slice A n c) ∧ W.cell? ⟨w.heap.size, 3, none⟩ = some (.slice B n d) ∧ W.cell? ⟨w.heap.size + 1, 0, none⟩ = some (.int .i64 (i' : Nat)) ∧ W.cell? ⟨w.heap.size + 1, 1, none⟩ = some (.int .i64 (st' : Nat)) ∧ W.cell? ⟨w.heap.size + 1, 2, none⟩ = some (.slice C n2 c2) ∧ W.cell? ⟨w.heap.size + 1, 3, none⟩ = some (.slice D n2 d2)) (by kernel_rfl) ?_
  refine wpAnyX_takeL (L := []) (i := 0) (v := ?_) rfl (by kernel_rfl) (by kernel_rfl) (by kernel_rfl) (by kernel_rfl) (fun _ _ _ h => h) (Or.inl ⟨by rfl, ?_⟩) (HSS.out _ hbf) ?_
  rotate_left
  · (intro W hSW; (try dsimp only at hSW); obtain ⟨z0, z1, z2, z3, z4, z5, z6, z7, z8, z9, z10, z11, z12, z13, z14, z15⟩ := hSW; go_simp; try with_reducible rfl)
  (try simp only [Act.put, List.getElem_toArray, List.getElem_cons_zero, List.getElem_cons_succ, List.setIfInBounds_toArray, List.set_cons_zero, List.set_cons_succ])
  refine wpAnyX_takeL (L := []) (i := 2) (v := ?_) rfl (by kernel_rfl) (by kernel_rfl) (by kernel_rfl) (by kernel_rfl) (fun _ _ _ h => h) (Or.inl ⟨by rfl, ?_⟩) (HSS.out _ hbf) ?_
  rotate_left
  · (intro W hSW; (try dsimp only at hSW); obtain ⟨z0, z1, z2, z3, z4, z5, z6, z7, z8, z9, z10, z11, z12, z13, z14, z15⟩ := hSW; go_simp; try with_reducible rfl)
  (try simp only [Act.put, List.getElem_toArray, List.getElem_cons_zero, List.getElem_cons_succ, List.setIfInBounds_toArray, List.set_cons_zero, List.set_cons_succ])
  refine wpAnyX_one (i := 1) rfl (by kernel_rfl) (fun K hK => ?_)
  go_simp
  go_at_call 44
  refine (rgreatest i 0 r5 A5 B5 c5 d5 N5 T5 _ (HN5.out.below (bt hb5 hbf)) (HT5.out.below (bt hb5 hbf)) HMm5.out).mono ?_
  rintro e w9 ⟨rfl, b9⟩
  have hbf := bt hbf b9
  refine hK.out _ _ (fun _ _ => HSS.out _ hbf) ?_
  (try simp only [Act.put, List.getElem_toArray, List.getElem_cons_zero, List.getElem_cons_succ, List.setIfInBounds_toArray, List.set_cons_zero, List.set_cons_succ])
  refine wpAnyX_one (i := 3) rfl (by kernel_rfl) (fun K hK => ?_)
  go_simp
  go_at_call 44
  refine (rgreatest i st n A B c d nx ot _ (HX1.out _ (bt hbc hbf)) (HO1.out _ (bt hbc hbf)) HM.out).mono ?_
  rintro e w9 ⟨rfl, b9⟩
  have hbf := bt hbf b9
  refine hK.out _ _ (fun _ _ => HSS.out _ hbf) ?_
  (try simp only [Act.put, List.getElem_toArray, List.getElem_cons_zero, List.getElem_cons_succ, List.setIfInBounds_toArray, List.set_cons_zero, List.set_cons_succ])
  refine wpAnyX_pure (i := 4) (v := ?_) rfl (by kernel_rfl) (by kernel_rfl) (by kernel_rfl) (fun _ _ _ h => h) (Or.inl ⟨by rfl, ?_⟩) ?_
  rotate_left
  · (intro W _; go_simp; try with_reducible rfl)
  (try simp only [Act.put, List.getElem_toArray, List.getElem_cons_zero, List.getElem_cons_succ, List.setIfInBounds_toArray, List.set_cons_zero, List.set_cons_succ])
  refine wpAnyX_pure (i := 5) (v := ?_) rfl (by kernel_rfl) (by kernel_rfl) (by kernel_rfl) (fun _ _ _ h => h) (Or.inl ⟨by rfl, ?_⟩) ?_
  rotate_left
  · (intro W _; go_simp; try with_reducible rfl)
  (try simp only [Act.put, List.getElem_toArray, List.getElem_cons_zero, List.getElem_cons_succ, List.setIfInBounds_toArray, List.set_cons_zero, List.set_cons_succ])
  refine wpAnyX_takeL (L := []) (i := 6) (v := ?_) rfl (by kernel_rfl) (by kernel_rfl) (by kernel_rfl) (by kernel_rfl) (fun _ _ _ h => h) (Or.inl ⟨by rfl, ?_⟩) (HSS.out _ hbf) ?_
  rotate_left
  · (intro W hSW; (try dsimp only at hSW); obtain ⟨z0, z1, z2, z3, z4, z5, z6, z7, z8, z9, z10, z11, z12, z13, z14, z15⟩ := hSW; go_simp; try with_reducible rfl)
  (try simp only [Act.put, List.getElem_toArray, List.getElem_cons_zero, List.getElem_cons_succ, List.setIfInBounds_toArray, List.set_cons_zero, List.set_cons_succ])
  refine wpAnyX_takeL (L := []) (i := 8) (v := ?_) rfl (by kernel_rfl) (by kernel_rfl) (by kernel_rfl) (by kernel_rfl) (fun _ _ _ h => h) (Or.inl ⟨by rfl, ?_⟩) (HSS.out _ hbf) ?_
  rotate_left
  · (intro W hSW; (try dsimp only at hSW); obtain ⟨z0, z1, z2, z3, z4, z5, z6, z7, z8, z9, z10, z11, z12, z13, z14, z15⟩ := hSW; go_simp; try with_reducible rfl)
  (try simp only [Act.put, List.getElem_toArray, List.getElem_cons_zero, List.getElem_cons_succ, List.setIfInBounds_toArray, List.set_cons_zero, List.set_cons_succ])
  refine wpAnyX_one (i := 7) rfl (by kernel_rfl) (fun K hK => ?_)
  go_simp
  go_at_call 44
  refine (rgreatest i' 0 r6 A6 B6 c6 d6 N6 T6 _ (HN6.out.below (bt hb6 hbf)) (HT6.out.below (bt hb6 hbf)) HMm6.out).mono ?_
  rintro e w9 ⟨rfl, b9⟩
  have hbf := bt hbf b9
  refine hK.out _ _ (fun _ _ => HSS.out _ hbf) ?_
  (try simp only [Act.put, List.getElem_toArray, List.getElem_cons_zero, List.getElem_cons_succ, List.setIfInBounds_toArray, List.set_cons_zero, List.set_cons_succ])
  refine wpAnyX_one (i := 9) rfl (by kernel_rfl) (fun K hK => ?_)
  go_simp
  go_at_call 44
  refine (rgreatest i' st' n2 C D c2 d2 nx' ot' _ (HX2.out _ (bt hbc hbf)) (HO2.out _ (bt hbc hbf)) HM'.out).mono ?_
  rintro e w9 ⟨rfl, b9⟩
  have hbf := bt hbf b9
  refine hK.out _ _ (fun _ _ => HSS.out _ hbf) ?_
  (try simp only [Act.put, List.getElem_toArray, List.getElem_cons_zero, List.getElem_cons_succ, List.setIfInBounds_toArray, List.set_cons_zero, List.set_cons_succ])
  refine wpAnyX_pure (i := 10) (v := ?_) rfl (by kernel_rfl) (by kernel_rfl) (by kernel_rfl) (fun _ _ _ h => h) (Or.inl ⟨by rfl, ?_⟩) ?_
  rotate_left
  · (intro W _; go_simp; try with_reducible rfl)
  (try simp only [Act.put, List.getElem_toArray, List.getElem_cons_zero, List.getElem_cons_succ, List.setIfInBounds_toArray, List.set_cons_zero, List.set_cons_succ])
  refine wpAnyX_pure (i := 11) (v := ?_) rfl (by kernel_rfl) (by kernel_rfl) (by kernel_rfl) (fun _ _ _ h => h) (Or.inl ⟨by rfl, ?_⟩) ?_
  rotate_left
  · (intro W _; go_simp; try with_reducible rfl)
  (try simp only [Act.put, List.getElem_toArray, List.getElem_cons_zero, List.getElem_cons_succ, List.setIfInBounds_toArray, List.set_cons_zero, List.set_cons_succ])
  refine wpAnyX_done (by kernel_rfl) ?_ _
  have hbc := bt hbc hbf
  have hb5 := bt hb5 hbf
  have hb6 := bt hb6 hbf
  clear t1 t1' t2 t2' hbf b9
  obtain ⟨⟨pi, pN, pT, pv⟩, hP⟩ : ∃ P, P = prX i st nx ot i' st' nx' ot' := ⟨_, rfl⟩
  obtain ⟨⟨qi, qN, qT, qv⟩, hQ⟩ : ∃ P, P = prX i ((0 : Nat) : Int) N5 T5 i' ((0 : Nat) : Int) N6 T6 := ⟨_, rfl⟩
  obtain ⟨⟨ri, rN, rT, rv⟩, hR⟩ : ∃ P, P = paX i st nx ot i' st' nx' ot' := ⟨_, rfl⟩
  obtain ⟨⟨si, sN, sT, sv⟩, hS⟩ : ∃ P, P = paX i ((0 : Nat) : Int) N5 T5 i' ((0 : Nat) : Int) N6 T6 := ⟨_, rfl⟩
  have HPS := Lib.hid (show pv = 0 → qv = 0 ∧ dres pi 0 pN pT qi 0 qN qT = (none, 0) from fun h => by
    have h1 := pr_same HM.out HM'.out (by rw [← HTe6.out]; exact HGB.out) (by rw [← hP]; exact h)
    rw [← HNe5.out, ← HTe5.out, ← HNe6.out, ← HTe6.out, ← hP, ← hQ] at h1
    exact h1)
  have HPT := Lib.hid (show rv = 0 → sv = 0 ∧ dres ri 0 rN rT si 0 sN sT = (none, 0) from fun h => by
    have h1 := pa_same HM.out HM'.out (by rw [← HTe5.out]; exact HGA.out) (by rw [← hR]; exact h)
    rw [← HNe5.out, ← HTe5.out, ← HNe6.out, ← HTe6.out, ← hR, ← hS] at h1
    exact h1)
  have HP := Lib.hid hP
  have HQ := Lib.hid hQ
  have HR := Lib.hid hR
  have HS := Lib.hid hS
  clear hP hQ hR hS
  obtain ⟨k0, k1, k2, k3, _⟩ := (HG1.out _ hbc).cells
  obtain ⟨l0, l1, l2, l3, _⟩ := (HG2.out _ hbc).cells
  go_wp2_with fail
  clear k0 k1 k2 k3 l0 l1 l2 l3
  refine (pproduct_all i st i' st' A B C D n c n d n2 c2 n2 d2 nx ot nx' ot' _ (HX1.out _ hbc) (HO1.out _ hbc) (HX2.out _ hbc) (HO2.out _ hbc)).mono ?_
  rintro e y11 ⟨hr, a11⟩
  rw [← HP.out] at hr
  obtain ⟨A11, c11, B11, d11, rfl, lN, lT⟩ := hr
  dsimp only at lN lT ⊢
  obtain ⟨X11, hX⟩ : ∃ X, X = y11.alloc (.cells #[.int .i64 pi, .int .i64 0, .slice A11 pN.length c11, .slice B11 pT.length d11] 24) := ⟨_, rfl⟩
  have bx : Below y11.heap.size y11 X11 := by rw [hX]; exact alloc_below _ _
  have HM11 := Lib.hid (show Mblk X11 y11.heap.size (.int .i64 pi) (.int .i64 0) (.slice A11 pN.length c11) (.slice B11 pT.length d11) by rw [hX]; exact mealy_box y11 _ _ _ _)
  have HN11 := Lib.hid (lN.below bx)
  have HT11 := Lib.hid (lT.below bx)
  have hbc := bt (bt hbc a11) bx
  have hb5 := bt (bt hb5 a11) bx
  have hb6 := bt (bt hb6 a11) bx
  have hb11 := Below.refl X11.heap.size X11
  have HX11 := Lib.hid hX
  obtain ⟨k0, k1, k2, k3, _⟩ := (HM5.out.on hb5).cells
  obtain ⟨l0, l1, l2, l3, _⟩ := (HM6.out.on hb6).cells
  rw [hX] at k0 k1 k2 k3 l0 l1 l2 l3
  clear hX a11 lN lT bx
  go_wp2_with fail
  rw [← HX11.out]
  clear k0 k1 k2 k3 l0 l1 l2 l3
  refine (pproduct_all i ((0 : Nat) : Int) i' ((0 : Nat) : Int) A5 B5 A6 B6 r5 c5 r5 d5 r6 c6 r6 d6 N5 T5 N6 T6 X11 (HN5.out.below hb5) (HT5.out.below hb5) (HN6.out.below hb6) (HT6.out.below hb6)).mono ?_
  rintro e y12 ⟨hr, a12⟩
  rw [← HQ.out] at hr
  obtain ⟨A12, c12, B12, d12, rfl, lN, lT⟩ := hr
  dsimp only at lN lT ⊢
  obtain ⟨X12, hX⟩ : ∃ X, X = y12.alloc (.cells #[.int .i64 qi, .int .i64 0, .slice A12 qN.length c12, .slice B12 qT.length d12] 24) := ⟨_, rfl⟩
  have bx : Below y12.heap.size y12 X12 := by rw [hX]; exact alloc_below _ _
  have HM12 := Lib.hid (show Mblk X12 y12.heap.size (.int .i64 qi) (.int .i64 0) (.slice A12 qN.length c12) (.slice B12 qT.length d12) by rw [hX]; exact mealy_box y12 _ _ _ _)
  have HN12 := Lib.hid (lN.below bx)
  have HT12 := Lib.hid (lT.below bx)
  have hbc := bt (bt hbc a12) bx
  have hb5 := bt (bt hb5 a12) bx
  have hb6 := bt (bt hb6 a12) bx
  have hb11 := bt (bt hb11 a12) bx
  have hb12 := Below.refl X12.heap.size X12
  have HX12 := Lib.hid hX
  obtain ⟨k0, k1, k2, k3, _⟩ := (HG1.out _ hbc).cells
  obtain ⟨l0, l1, l2, l3, _⟩ := (HG2.out _ hbc).cells
  rw [hX] at k0 k1 k2 k3 l0 l1 l2 l3
  clear hX a12 lN lT bx
  go_wp2_with fail
  rw [← HX12.out]
  clear k0 k1 k2 k3 l0 l1 l2 l3
  refine (pparallel_all i st i' st' A B C D n c n d n2 c2 n2 d2 nx ot nx' ot' X12 (HX1.out _ hbc) (HO1.out _ hbc) (HX2.out _ hbc) (HO2.out _ hbc)).mono ?_
  rintro e y13 ⟨hr, a13⟩
  rw [← HR.out] at hr
  obtain ⟨A13, c13, B13, d13, rfl, lN, lT⟩ := hr
  dsimp only at lN lT ⊢
  obtain ⟨X13, hX⟩ : ∃ X, X = y13.alloc (.cells #[.int .i64 ri, .int .i64 0, .slice A13 rN.length c13, .slice B13 rT.length d13] 24) := ⟨_, rfl⟩
  have bx : Below y13.heap.size y13 X13 := by rw [hX]; exact alloc_below _ _
  have HM13 := Lib.hid (show Mblk X13 y13.heap.size (.int .i64 ri) (.int .i64 0) (.slice A13 rN.length c13) (.slice B13 rT.length d13) by rw [hX]; exact mealy_box y13 _ _ _ _)
  have HN13 := Lib.hid (lN.below bx)
  have HT13 := Lib.hid (lT.below bx)
  have hbc := bt (bt hbc a13) bx
  have hb5 := bt (bt hb5 a13) bx
  have hb6 := bt (bt hb6 a13) bx
  have hb11 := bt (bt hb11 a13) bx
  have hb12 := bt (bt hb12 a13) bx
  have hb13 := Below.refl X13.heap.size X13
  have HX13 := Lib.hid hX
  obtain ⟨k0, k1, k2, k3, _⟩ := (HM5.out.on hb5).cells
  obtain ⟨l0, l1, l2, l3, _⟩ := (HM6.out.on hb6).cells
  rw [hX] at k0 k1 k2 k3 l0 l1 l2 l3
  clear hX a13 lN lT bx
  go_wp2_with fail
  rw [← HX13.out]
  clear k0 k1 k2 k3 l0 l1 l2 l3
  refine (pparallel_all i ((0 : Nat) : Int) i' ((0 : Nat) : Int) A5 B5 A6 B6 r5 c5 r5 d5 r6 c6 r6 d6 N5 T5 N6 T6 X13 (HN5.out.below hb5) (HT5.out.below hb5) (HN6.out.below hb6) (HT6.out.below hb6)).mono ?_
  rintro e y14 ⟨hr, a14⟩
  rw [← HS.out] at hr
  obtain ⟨A14, c14, B14, d14, rfl, lN, lT⟩ := hr
  dsimp only at lN lT ⊢
  obtain ⟨X14, hX⟩ : ∃ X, X = y14.alloc (.cells #[.int .i64 si, .int .i64 0, .slice A14 sN.length c14, .slice B14 sT.length d14] 24) := ⟨_, rfl⟩
  have bx : Below y14.heap.size y14 X14 := by rw [hX]; exact alloc_below _ _
  have HM14 := Lib.hid (show Mblk X14 y14.heap.size (.int .i64 si) (.int .i64 0) (.slice A14 sN.length c14) (.slice B14 sT.length d14) by rw [hX]; exact mealy_box y14 _ _ _ _)
  have HN14 := Lib.hid (lN.below bx)
  have HT14 := Lib.hid (lT.below bx)
  have hbc := bt (bt hbc a14) bx
  have hb5 := bt (bt hb5 a14) bx
  have hb6 := bt (bt hb6 a14) bx
  have hb11 := bt (bt hb11 a14) bx
  have hb12 := bt (bt hb12 a14) bx
  have hb13 := bt (bt hb13 a14) bx
  have hb14 := Below.refl X14.heap.size X14
  have HX14 := Lib.hid hX
  clear a14 lN lT bx
  clear hX
  go_upto_if 92 with fail
  rw [← HX14.out]
  go_cut [17, 18] from 93 to 108 (fun _ _ wx => Below X14.heap.size X14 wx)
  case first =>
    by_cases hp : pv = 0
    · obtain ⟨hq, hd⟩ := HPS.out hp
      subst hp hq
      have HD := Lib.hid hd
      obtain ⟨k0, k1, k2, k3, _⟩ := (HM11.out.on hb11).cells
      obtain ⟨l0, l1, l2, l3, _⟩ := (HM12.out.on hb12).cells
      clear hd
      go_wp2_with fail
      refine (pequ pi 0 qi 0 A11 B11 A12 B12 pN.length c11 pT.length d11 qN.length c12 qT.length d12 pN pT qN qT X14 (HN11.out.below hb11) (HT11.out.below hb11) (HN12.out.below hb12) (HT12.out.below hb12)).mono ?_
      rintro e w9 ⟨rfl, a9⟩
      rw [HD.out]
      have e1 : eqb (none, 0) = true := rfl
      rw [e1]
      clear k0 k1 k2 k3 l0 l1 l2 l3 e1
      go_wp2_with fail
      go_meet
      exact a9
    · have t1 : (pv == 0) = false := by simpa using hp
      clear hp
      go_wp2_with fail
      go_meet
      exact Below.refl _ _
  case rest =>
    have hbc := bt hbc hcut
    have hb13 := bt hb13 hcut
    have hb14 := bt hb14 hcut
    clear hcut
    by_cases hp : rv = 0
    · obtain ⟨hq, hd⟩ := HPT.out hp
      subst hp hq
      have HD := Lib.hid hd
      obtain ⟨k0, k1, k2, k3, _⟩ := (HM13.out.on hb13).cells
      obtain ⟨l0, l1, l2, l3, _⟩ := (HM14.out.on hb14).cells
      clear hd
      go_wp2_with fail
      refine (pequ ri 0 si 0 A13 B13 A14 B14 rN.length c13 rT.length d13 sN.length c14 sT.length d14 rN rT sN sT wc (HN13.out.below hb13) (HT13.out.below hb13) (HN14.out.below hb14) (HT14.out.below hb14)).mono ?_
      rintro e w9 ⟨rfl, a9⟩
      rw [HD.out]
      have e1 : eqb (none, 0) = true := rfl
      rw [e1]
      have hbc := bt hbc a9
      clear k0 k1 k2 k3 l0 l1 l2 l3 e1
      go_wp2_with fail
      refine (awake14 _).mono ?_
      rintro e wz ⟨rfl, az⟩
      have hbz := bt HB0.out (bt hbc az)
      go_wp2_with fail
      go_ret
      exact ⟨rfl, hbz⟩
    · have t1 : (rv == 0) = false := by simpa using hp
      clear hp
      go_wp2_with fail
      refine (awake14 _).mono ?_
      rintro e wz ⟨rfl, az⟩
      have hbz := bt HB0.out (bt hbc az)
      go_wp2_with fail
      go_ret
      exact ⟨rfl, hbz⟩
end Go.Proofs.Ytogcecfeofbbnaa
end
