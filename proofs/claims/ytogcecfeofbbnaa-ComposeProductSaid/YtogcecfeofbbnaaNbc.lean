/- Lemmas of the proofs of this seat, of the parts L14c. Conditions: none. -/
import Derived.Test.YtogcecfeofbbnaaNah
import Derived.Test.YtogcecfeofbbnaaNad
import Derived.Test.YtogcecfeofbbnaaNaf
import Derived.Test.YtogcecfeofbbnaaNab
import Derived.BigQuiet
import Derived.Deep.QuietTactic
section
/- The law ComposeProduct: the walk. -/
namespace Go.Proofs.Ytogcecfeofbbnaa
open Go.RowKit

theorem Mok.runO_nat {i st n : Nat} {nx ot : List (List Int)} (hM : Mok i st n nx ot) : ∀ (u : List Int) (s : Nat), s < n → Wd i u → ∀ j, j < u.length → ∃ x : Nat, (runO nx ot s u).getD j 0 = (x : Int) ∧ x ≤ 1048576
  | [], _, _, _, j, hj => absurd hj (by simp)
  | x :: u, s, hs, hu, 0, _ => by
    obtain ⟨a, rfl, ha⟩ := hu.head
    refine ⟨oM ot s a, ?_, hM.oM_le hs ha⟩
    show oN ot s ((a : Int)).toNat = _
    rw [Int.toNat_natCast, hM.oM_eq hs ha]
  | x :: u, s, hs, hu, j + 1, hj => by
    obtain ⟨a, rfl, ha⟩ := hu.head
    exact hM.runO_nat u (nN nx s ((a : Int)).toNat) (hM.nN_lt hs (by simpa using ha)) hu.tail j (by simpa using hj)
theorem frm_two {i st n : Nat} {nx ot : List (List Int)} (hM : Mok i st n nx ot) (xs : List Int) : frm i st nx ot st xs = if chk xs i = 0 then (runO nx ot st xs, (runS nx st xs : Int), 0) else ([], 0, chk xs i) := by
  by_cases h : chk xs i = 0
  · rw [if_pos h, hM.frm hM.st h]
  · rw [if_neg h]
    exact frm_word hM.vld (by rw [hM.nxl]; have := hM.st; omega) h
theorem chk_wd {xs : List Int} {i : Nat} (h : chk xs i = 0) : Wd i xs := (chk_zero h).2.2.2.mem
/-- What the runs of a product say. -/
theorem prod_runs {i st n st' n' : Nat} {nx ot nx' ot' : List (List Int)} (hM : Mok i st n nx ot) (hM' : Mok i st' n' nx' ot') {R : List Ent} (hR : R = fdG (prF nx nx') i n n' st st') (hf : Fits (prO ot ot' (grt ot')) i R) (xs : List Int) :
    ∃ X Y Z s1 s2 s3 v L, frm i st nx ot st xs = (X, s1, v) ∧ frm i st' nx' ot' st' xs = (Y, s2, v) ∧ frm i (0 : Nat) (autN (prF nx nx') i R) (outN (prO ot ot' (grt ot')) i R) (0 : Nat) xs = (Z, s3, v) ∧ X.length = L ∧ Y.length = L ∧ Z.length = L ∧ L ≤ 1024 ∧
      ∀ j, j < L → ∃ x y : Nat, X.getD j 0 = (x : Int) ∧ Y.getD j 0 = (y : Int) ∧ Z.getD j 0 = ((x * (1 + grt ot') + y : Nat) : Int) ∧ x ≤ 1048576 ∧ y ≤ 1048576 := by
  have hst := pr_stp hM hM'
  have hMR := fdG_mok hst hM.st hM'.st hM.i1 hM.i2 hR hf
  rw [frm_two hM, frm_two hM', frm_two hMR]
  by_cases h : chk xs i = 0
  · rw [if_pos h, if_pos h, if_pos h]
    refine ⟨_, _, _, _, _, _, _, xs.length, rfl, rfl, rfl, runO_len _ _ _ _, runO_len _ _ _ _, runO_len _ _ _ _, (chk_zero h).2.2.1, fun j hj => ?_⟩
    have hW := chk_wd h
    have h1 := pr_out hM hM' (grt ot') xs st st' hM.st hM'.st hW j hj
    rw [← fdG_run (O := prO ot ot' (grt ot')) hst hM.st hM'.st hR hW] at h1
    obtain ⟨x, hx, hx2⟩ := hM.runO_nat xs st hM.st hW j hj
    obtain ⟨y, hy, hy2⟩ := hM'.runO_nat xs st' hM'.st hW j hj
    refine ⟨x, y, hx, hy, ?_, hx2, hy2⟩
    rw [h1, hx, hy, ← Int.natCast_mul, ← Int.natCast_add]
  · rw [if_neg h, if_neg h, if_neg h]
    exact ⟨[], [], [], _, _, _, _, 0, rfl, rfl, rfl, rfl, rfl, rfl, by omega, fun j hj => absurd hj (by omega)⟩
set_option maxHeartbeats 8000000 in
set_option maxRecDepth 100000 in
theorem prod14_walk (i1 st1 i2 st2 : Int) (A B C D : Option Addr) (n c m d n2 c2 m2 d2 : Nat) (nx ot nx' ot' : List (List Int)) (E : Option Addr) (ln cp : Nat) (xs : List Int) (w : World) (hx1 : Lists w A n nx) (ho1 : Lists w B m ot) (hx2 : Lists w C n2 nx') (ho2 : Lists w D m2 ot') (hE : Ints w E ln xs) :
    Calls Try.prog 10 #[.agg #[.int .i64 i1, .int .i64 st1, .slice A n c, .slice B m d], .agg #[.int .i64 i2, .int .i64 st2, .slice C n2 c2, .slice D m2 d2], .slice E ln cp] w fun e w' => e = .returned (.bool true) ∧ Below w.heap.size w w' := by
  obtain ⟨w0, hw0, hb0, hG, hG', hz0⟩ := pair_boxesM w i1 st1 i2 st2 A B C D n c m d n2 c2 m2 d2
  have HW0 := Lib.hid hw0
  have HB0 := Lib.hid hb0
  have HX1 := Lib.hid (fun (W : World) (h : Below w0.heap.size w0 W) => (hx1.below hb0).below h)
  have HO1 := Lib.hid (fun (W : World) (h : Below w0.heap.size w0 W) => (ho1.below hb0).below h)
  have HX2 := Lib.hid (fun (W : World) (h : Below w0.heap.size w0 W) => (hx2.below hb0).below h)
  have HO2 := Lib.hid (fun (W : World) (h : Below w0.heap.size w0 W) => (ho2.below hb0).below h)
  have HE := Lib.hid (fun (W : World) (h : Below w0.heap.size w0 W) => (hE.below hb0).below h)
  have HG1 := Lib.hid (fun (W : World) (h : Below w0.heap.size w0 W) => hG.on h)
  have HG2 := Lib.hid (fun (W : World) (h : Below w0.heap.size w0 W) => hG'.on h)
  have hbc := Below.refl w0.heap.size w0
  obtain ⟨k0, k1, k2, k3, _⟩ := hG.cells
  rw [HW0.out] at k0 k1 k2 k3
  clear hw0 hb0 hG hG' hz0 hx1 ho1 hx2 ho2 hE
  go_enter Try.func10, Try.ntmps10
  go_wp2_with fail
  rw [← HW0.out]
  refine (rgreat10 _ _ _ _ _ _ _ _ _ _ _ (HX1.out _ hbc) (HO1.out _ hbc)).mono ?_
  rintro e w1 ⟨b1, rfl, hs1, a1⟩
  have hbc := bt hbc a1
  have HS1 := Lib.hid hs1
  clear k0 k1 k2 k3 a1 hs1
  cases b1
  case true =>
    go_wp2_with fail
    refine (awake14 _).mono ?_
    rintro e wz ⟨rfl, az⟩
    have hbz := bt HB0.out (bt hbc az)
    go_wp2_with fail
    go_ret
    exact ⟨rfl, hbz⟩
  obtain ⟨l0, l1, l2, l3, _⟩ := (HG2.out _ hbc).cells
  go_wp2_with fail
  refine (rgreat10 _ _ _ _ _ _ _ _ _ _ _ (HX2.out _ hbc) (HO2.out _ hbc)).mono ?_
  rintro e w2 ⟨b2, rfl, hs2, a2⟩
  have hbc := bt hbc a2
  have HS2 := Lib.hid hs2
  clear l0 l1 l2 l3 a2 hs2
  cases b2
  case true =>
    go_wp2_with fail
    refine (awake14 _).mono ?_
    rintro e wz ⟨rfl, az⟩
    have hbz := bt HB0.out (bt hbc az)
    go_wp2_with fail
    go_ret
    exact ⟨rfl, hbz⟩
  obtain ⟨k0, k1, k2, k3, _⟩ := (HG1.out _ hbc).cells
  go_wp2_with fail
  refine (rvalid _ _ _ _ _ _ _ _ _ _ _ (HX1.out _ hbc) (HO1.out _ hbc)).mono ?_
  rintro e w3 ⟨rfl, a3⟩
  have hbc := bt hbc a3
  clear k0 k1 k2 k3 a3
  by_cases hv1 : vld i1 st1 nx ot = 0
  case neg =>
    have t1 : (vld i1 st1 nx ot != 0) = true := by simpa using hv1
    generalize vld i1 st1 nx ot = V1 at t1 hv1
    clear hv1
    go_wp2_with fail
    refine (awake14 _).mono ?_
    rintro e wz ⟨rfl, az⟩
    have hbz := bt HB0.out (bt hbc az)
    go_wp2_with fail
    go_ret
    exact ⟨rfl, hbz⟩
  obtain ⟨i, st, n', rfl, rfl, hM⟩ := vld_zero hv1
  obtain rfl : n = n' := by rw [← hM.nxl]; exact (HX1.out _ (Below.refl _ _)).1.symm
  obtain rfl : n = m := by rw [← hM.otl]; exact (HO1.out _ (Below.refl _ _)).1
  rw [hv1]
  have HM := Lib.hid hM
  clear hv1 hM
  obtain ⟨l0, l1, l2, l3, _⟩ := (HG2.out _ hbc).cells
  go_wp2_with fail
  refine (rvalid _ _ _ _ _ _ _ _ _ _ _ (HX2.out _ hbc) (HO2.out _ hbc)).mono ?_
  rintro e w4 ⟨rfl, a4⟩
  have hbc := bt hbc a4
  clear l0 l1 l2 l3 a4
  by_cases hv2 : vld i2 st2 nx' ot' = 0
  case neg =>
    have t1 : (vld i2 st2 nx' ot' != 0) = true := by simpa using hv2
    generalize vld i2 st2 nx' ot' = V2 at t1 hv2
    clear hv2
    go_wp2_with fail
    refine (awake14 _).mono ?_
    rintro e wz ⟨rfl, az⟩
    have hbz := bt HB0.out (bt hbc az)
    go_wp2_with fail
    go_ret
    exact ⟨rfl, hbz⟩
  obtain ⟨i', st', n2', rfl, rfl, hM'⟩ := vld_zero hv2
  obtain rfl : n2 = n2' := by rw [← hM'.nxl]; exact (HX2.out _ (Below.refl _ _)).1.symm
  obtain rfl : n2 = m2 := by rw [← hM'.otl]; exact (HO2.out _ (Below.refl _ _)).1
  rw [hv2]
  have HM' := Lib.hid hM'
  have hi2 := HM.out.i2
  have hi2' := hM'.i2
  clear hv2 hM'
  obtain ⟨k0, k1, k2, k3, _⟩ := (HG1.out _ hbc).cells
  obtain ⟨l0, l1, l2, l3, _⟩ := (HG2.out _ hbc).cells
  go_wp2_with fail
  by_cases hii : i = i'
  case neg =>
    have HII := Lib.hid hii
    have u1 : (i != i') = true := by simpa using hii
    have u2 : ((i : Int) != (i' : Int)) = true := by simp; omega
    refine (pproduct_con i st n i' st' n2 A B C D c d c2 d2 nx ot nx' ot' w4 (HX1.out _ hbc) (HO1.out _ hbc) (HX2.out _ hbc) (HO2.out _ hbc) HM.out HM'.out hii).mono ?_
    rintro e w5 ⟨rfl, a5⟩
    unfold NoM
    have hb5 := bt hbc a5
    obtain ⟨X5, hX5⟩ : ∃ X5, X5 = w5.alloc (.cells #[.int .i64 0, .int .i64 0, .slice none 0 0, .slice none 0 0] 24) := ⟨_, rfl⟩
    have hbc := bt hb5 (show Below w5.heap.size w5 X5 by rw [hX5]; exact alloc_below _ _)
    clear k0 k1 k2 k3 l0 l1 l2 l3 a5 hb5 hii
    obtain ⟨k0, _⟩ := (HG1.out _ hbc).cells
    obtain ⟨l0, _⟩ := (HG2.out _ hbc).cells
    have HX5 := Lib.hid hX5
    rw [hX5] at k0 l0
    clear hX5
    go_wp2_with fail
    rw [← HX5.out]
    refine (awake14 _).mono ?_
    rintro e wz ⟨rfl, az⟩
    have hbz := bt HB0.out (bt hbc az)
    go_wp2_with fail
    go_ret
    exact ⟨rfl, hbz⟩
  subst hii
  obtain ⟨R, hR⟩ : ∃ R, R = fdG (prF nx nx') i n n2 st st' := ⟨_, rfl⟩
  refine (pproduct i st n st' n2 A B C D c d c2 d2 nx ot nx' ot' w4 (HX1.out _ hbc) (HO1.out _ hbc) (HX2.out _ hbc) (HO2.out _ hbc) HM.out HM'.out).mono ?_
  rintro e w5 ⟨h5, a5⟩
  rw [← hR] at h5
  have hb5 := bt hbc a5
  rcases h5 with ⟨hok, A5, c5, B5, d5, rfl, o5, t5⟩ | ⟨hok, rfl⟩
  case inr =>
    obtain ⟨X5, hX5⟩ : ∃ X5, X5 = w5.alloc (.cells #[.int .i64 0, .int .i64 0, .slice none 0 0, .slice none 0 0] 24) := ⟨_, rfl⟩
    have hbc := bt hb5 (show Below w5.heap.size w5 X5 by rw [hX5]; exact alloc_below _ _)
    clear k0 k1 k2 k3 l0 l1 l2 l3 a5 hb5 hR
    obtain ⟨k0, _⟩ := (HG1.out _ hbc).cells
    obtain ⟨l0, _⟩ := (HG2.out _ hbc).cells
    have HX5 := Lib.hid hX5
    have HOK := Lib.hid hok
    rw [hX5] at k0 l0
    clear hX5 hok
    go_wp2_with fail
    rw [← HX5.out]
    refine (awake14 _).mono ?_
    rintro e wz ⟨rfl, az⟩
    have hbz := bt HB0.out (bt hbc az)
    go_wp2_with fail
    go_ret
    exact ⟨rfl, hbz⟩
  have hMR := fdG_mok (pr_stp HM.out HM'.out) HM.out.st HM'.out.st HM.out.i1 HM.out.i2 hR hok
  have HRL := Lib.hid (fdG_rch (pr_stp HM.out HM'.out) HM.out.st HM'.out.st HM.out.i1 HM.out.i2 hR hok)
  obtain ⟨X, Y, Z, s1, s2, s3, v, L, e1, e2, e3, q1, q2, q3, hL, hpt⟩ := prod_runs HM.out HM'.out hR hok xs
  obtain ⟨N, hN⟩ : ∃ N, N = autN (prF nx nx') i R := ⟨_, rfl⟩
  obtain ⟨T, hT⟩ : ∃ T, T = outN (prO ot ot' (grt ot')) i R := ⟨_, rfl⟩
  obtain ⟨r, hr⟩ : ∃ r, r = R.length := ⟨_, rfl⟩
  rw [← hN, ← hT] at e3
  rw [← hN, ← hT, ← hr] at hMR
  rw [← hN, ← hr] at HRL o5
  rw [← hT, ← hr] at t5
  rw [← hr]
  have hr2 := hMR.n2
  obtain ⟨X5, hX5⟩ : ∃ X5, X5 = w5.alloc (.cells #[.int .i64 i, .int .i64 0, .slice A5 r c5, .slice B5 r d5] 24) := ⟨_, rfl⟩
  have bx5 : Below w5.heap.size w5 X5 := by rw [hX5]; exact alloc_below _ _
  have hbc := bt hb5 bx5
  have hMB : Mblk X5 w5.heap.size (.int .i64 i) (.int .i64 0) (.slice A5 r c5) (.slice B5 r d5) := by rw [hX5]; exact mealy_box w5 _ _ _ _
  have HMB := Lib.hid hMB
  have HN5 := Lib.hid ((lists_ownedM hMR o5).below bx5)
  have HT5 := Lib.hid ((lists_ownedO hMR t5).below bx5)
  have HMR := Lib.hid hMR
  have HE1 := Lib.hid e1
  have HE2 := Lib.hid e2
  have HE3 := Lib.hid e3
  have HPT := Lib.hid hpt
  have hq1 := Lib.hid q1
  have hq2 := Lib.hid q2
  have hq3 := Lib.hid q3
  clear k0 k1 k2 k3 l0 l1 l2 l3 a5 hb5 hR hok o5 t5 hMR hN hT hr bx5 e1 e2 e3 hpt q1 q2 q3 hMB
  obtain ⟨k0, k1, k2, k3, _⟩ := (HG1.out _ hbc).cells
  have HX5 := Lib.hid hX5
  rw [hX5] at k0 k1 k2 k3
  clear hX5
  go_wp2_with fail
  rw [← HX5.out]
  refine (prunw i st A B E n c n d ln cp nx ot xs X5 (HX1.out _ hbc) (HO1.out _ hbc) (HE.out _ hbc)).mono ?_
  rintro e w6 ⟨A6, c6, rfl, o6, a6⟩
  rw [HE1.out] at o6 ⊢
  dsimp only at o6 ⊢
  rw [hq1.out] at o6 ⊢
  have hbd := a6
  have hbc := bt hbc a6
  clear k0 k1 k2 k3 a6
  obtain ⟨l0, l1, l2, l3, _⟩ := (HG2.out _ hbc).cells
  go_wp2_with fail
  refine (prunw i st' C D E n2 c2 n2 d2 ln cp nx' ot' xs w6 (HX2.out _ hbc) (HO2.out _ hbc) (HE.out _ hbc)).mono ?_
  rintro e w7 ⟨A7, c7, rfl, o7, a7⟩
  rw [HE2.out] at o7 ⊢
  dsimp only at o7 ⊢
  rw [hq2.out] at o7 ⊢
  have o6 := o6.kept a7
  have hbd := bt hbd a7
  have hbc := bt hbc a7
  clear l0 l1 l2 l3 a7
  obtain ⟨m0, m1, m2, m3, _⟩ := (HMB.out.on hbd).cells
  go_wp2_with fail
  refine (prunw i (0 : Nat) A5 B5 E r c5 r d5 ln cp N T xs w7 (HN5.out.below hbd) (HT5.out.below hbd) (HE.out _ hbc)).mono ?_
  rintro e w8 ⟨A8, c8, rfl, o8, a8⟩
  rw [HE3.out] at o8 ⊢
  dsimp only at o8 ⊢
  rw [hq3.out] at o8 ⊢
  have HO6 := Lib.hid ((o6.kept a8).ints (by rw [hq1.out]; omega))
  have HO7 := Lib.hid ((o7.kept a8).ints (by rw [hq2.out]; omega))
  have HO8 := Lib.hid (o8.ints (by rw [hq3.out]; omega))
  have hbd := bt hbd a8
  have hbc := bt hbc a8
  clear m0 m1 m2 m3 a8 o6 o7 o8
  have HBD := Lib.hid hbd
  have HBC := Lib.hid hbc
  have HS := Lib.hid (show ∀ W : World, Below w8.heap.size w8 W → W.cell? ⟨w5.heap.size, 0, none⟩ = some (.int .i64 i) ∧ W.cell? ⟨w5.heap.size, 1, none⟩ = some (.int .i64 0) ∧ W.cell? ⟨w5.heap.size, 2, none⟩ = some (.slice A5 r c5) ∧ W.cell? ⟨w5.heap.size, 3, none⟩ = some (.slice B5 r d5) from fun W h => by
    obtain ⟨b0, b1, b2, b3, _⟩ := (HMB.out.on (bt HBD.out h)).cells
    exact ⟨b0, b1, b2, b3⟩)
  obtain ⟨m0, m1, m2, m3, _⟩ := (HMB.out.on hbd).cells
  have hbf : Below w8.heap.size w8 w8.drew := below_drewN (Below.refl _ _) 1
  clear hbd hbc
  have y1 : (v != v) = false := by simp
  have y2 : ((L : Int) != (L : Int)) = false := by simp
  have y3 : (L != L) = false := by simp
  have y4 : ((r : Int) != (r : Int)) = false := by simp
  have y5 : (r != r) = false := by simp
  go_wp2_with fail
  go_region_held3 (fun W => W.cell? ⟨w5.heap.size, 0, none⟩ = some (.int .i64 i) ∧ W.cell? ⟨w5.heap.size, 1, none⟩ = some (.int .i64 0) ∧ W.cell? ⟨w5.heap.size, 2, none⟩ = some (.slice A5 r c5) ∧ W.cell? ⟨w5.heap.size, 3, none⟩ = some (.slice B5 r d5))
    (exact HS.out _ hbf)
    ((go_at_call 43; refine (preach_ok i (0 : Nat) r A5 B5 c5 d5 N T _ (HN5.out.below (bt HBD.out hbf)) (HT5.out.below (bt HBD.out hbf)) HMR.out).mono ?_; rintro e w9 ⟨A9, c9, rfl, o9, b9⟩; rw [HRL.out]; have hbf := bt hbf b9))
  have hbc := bt HBC.out hbf
  have HBF := Lib.hid hbf
  obtain ⟨wd, hwd⟩ : ∃ wd, wd = 1 + grt ot' := ⟨_, rfl⟩
  have hgl := HM'.out.grt_le
  have ew : (1 : Int) + (grt ot' : Int) = (wd : Int) := by omega
  have hwl : wd ≤ 1048577 := by omega
  have HWD := Lib.hid hwd
  clear hwd hbf m0 m1 m2 m3 o9 b9
  obtain ⟨l0, l1, l2, l3, _⟩ := (HG2.out _ hbc).cells
  go_wp2_with fail
  refine (rgreatest i st' n2 C D c2 d2 nx' ot' _ (HX2.out _ hbc) (HO2.out _ hbc) HM'.out).mono ?_
  rintro e wg ⟨rfl, ag⟩
  have HBG := Lib.hid (bt HBF.out ag)
  clear l0 l1 l2 l3 ag hbc
  go_wp2_with fail
  go_loopw [120] (fun v wr => ∃ j : Nat, v = .int .i64 j ∧ j ≤ L ∧ Below w8.heap.size w8 wr) (fun v _ => L - (intOf v).toNat)
  case atStart => exact ⟨0, rfl, Nat.zero_le _, HBG.out⟩
  case round =>
    obtain ⟨j, rfl, hj, hbr⟩ := hrel
    have HBR := Lib.hid hbr
    by_cases hlt : j < L
    · obtain ⟨x, y, hx, hy, hz, hxl, hyl⟩ := HPT.out j hlt
      rw [← HWD.out] at hz
      obtain ⟨g6, z6, rfl, f6, d6⟩ := HO6.out.at_ hlt
      obtain ⟨g7, z7, rfl, f7, d7⟩ := HO7.out.at_ hlt
      obtain ⟨g8, z8, rfl, f8, d8⟩ := HO8.out.at_ hlt
      have d6 := (hbr.cell (p := ⟨g6, z6 + j, none⟩) f6).trans d6
      have d7 := (hbr.cell (p := ⟨g7, z7 + j, none⟩) f7).trans d7
      have d8 := (hbr.cell (p := ⟨g8, z8 + j, none⟩) f8).trans d8
      obtain ⟨m, hm⟩ : ∃ m, m = x * wd := ⟨_, rfl⟩
      have hml : m ≤ 1048576 * 1048577 := by rw [hm]; exact Nat.mul_le_mul hxl hwl
      obtain ⟨z, hzz⟩ : ∃ z, z = m + y := ⟨_, rfl⟩
      rw [← hm, ← hzz] at hz
      rw [hx] at d6
      rw [hy] at d7
      rw [hz] at d8
      have w1' : IntKind.i64.wrap ((x : Int) * (wd : Int)) = (m : Int) := by
        have : (x : Int) * (wd : Int) = (m : Int) := by rw [hm]; exact (Int.natCast_mul x wd).symm
        rw [this]; exact IntWalk.i64_in _ (by omega)
      have w2' : IntKind.i64.wrap ((m : Int) + (y : Int)) = (z : Int) := by
        have : (m : Int) + (y : Int) = (z : Int) := by omega
        rw [this]; exact IntWalk.i64_in _ (by omega)
      have t1 : ((z : Int) != (z : Int)) = false := by simp
      have p1 : (0 : Int) ≤ (j : Int) := by omega
      have p2 : (j : Int) < (L : Int) := by omega
      clear hx hy hz hm hzz hbr f6 f7 f8 ew
      go_wp2_with fail
      go_quiet (fail)
      clear w1' w2' d6 d7 d8
      go_wp2_with fail
      go_roundw
      case rel => exact ⟨j + 1, by go_num, by omega, below_drewN HBR.out _⟩
      case measure => simp [intOf]; omega
    · have HJL := Lib.hid (show j = L by omega)
      clear hbr
      go_wp2_with fail
      refine (awake14 _).mono ?_
      rintro e wz ⟨rfl, az⟩
      have hbz := bt HB0.out (bt (bt HBC.out HBR.out) az)
      go_wp2_with fail
      go_ret
      exact ⟨rfl, hbz⟩
end Go.Proofs.Ytogcecfeofbbnaa
end
