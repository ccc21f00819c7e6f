/- Lemmas of the proofs of this seat, of the parts Eqr, L14d. Conditions: none. -/
import Derived.Test.YtogcecfeofbbnaaNaa
import Derived.Test.YtogcecfeofbbnaaNah
import Derived.Test.YtogcecfeofbbnaaNad
import Derived.Test.YtogcecfeofbbnaaNaf
import Derived.Test.YtogcecfeofbbnaaNae
import Derived.BigQuiet
import Derived.Deep.QuietTactic
section
/- The reference: Equal. -/
namespace Go.Proofs.Ytogcecfeofbbnaa
open Go.RowKit

set_option maxHeartbeats 1000000 in
theorem requal (A B : Option Addr) (n c m d : Nat) (xs ys : List Int) (b : Bool) (w : World) (hx : Ints w A n xs) (hy : Ints w B m ys) (hb : b = decide (xs = ys)) :
    Calls Try.prog 19 #[.slice A n c, .slice B m d] w fun e w' => e = .returned (.bool b) ∧ ∃ q, w' = w.drewN q := by
  have L1 := Lib.hid hx.1
  have L2 := Lib.hid hy.1
  have hn := hx.2.1
  have hm := hy.2.1
  by_cases hnm : n = m
  · subst hnm
    have HB := Lib.hid hb
    clear hb
    go_enter Try.func19, Try.ntmps19
    go_wp2
    go_loopw [5] (fun i wr => ∃ j q : Nat, j ≤ n ∧ i = .int .i64 j ∧ AgreeL 0 xs ys j ∧ wr = w.drewN q) (fun i _ => n - (intOf i).toNat)
    case atStart => exact ⟨0, 0, Nat.zero_le _, rfl, AgreeL.zero _ _ _, rfl⟩
    case round =>
      obtain ⟨j, q, hj, rfl, heq, rfl⟩ := hrel
      have HE := Lib.hid heq
      clear heq
      by_cases hlt : j < n
      · obtain ⟨g1, o1, rfl, _, hc1⟩ := hx.at_ hlt
        obtain ⟨g2, o2, rfl, _, hc2⟩ := hy.at_ hlt
        by_cases he : xs.getD j 0 = ys.getD j 0
        · have hnx := Lib.hid (HE.out.succ he)
          rw [← he] at hc2
          generalize xs.getD j 0 = y at hc1 hc2
          clear he
          go_wp2
          go_quiet (fail)
          go_wp2
          go_roundw
          case rel => exact ⟨j + 1, _, by omega, by go_num, hnx.out, rfl⟩
          case measure => simp [intOf]; omega
        · have hfin : Hid (b = false) := Lib.hid (HB.out.trans (decide_eq_false fun e => he (by rw [e])))
          have hne : (xs.getD j 0 != ys.getD j 0) = true := by simpa using he
          generalize xs.getD j 0 = y at hc1 hne
          generalize ys.getD j 0 = z at hc2 hne
          clear he
          go_wp2
          go_quiet (fail)
          go_wp2
          go_ret
          exact ⟨ret_bool hfin.out.symm, by first | exact ⟨_, rfl⟩ | exact ⟨_, World.drewN_drewN _ _ _⟩⟩
      · obtain rfl : j = n := by omega
        have hfin : Hid (b = true) := Lib.hid (HB.out.trans (decide_eq_true (HE.out.all L1.out L2.out)))
        go_wp2
        go_ret
        exact ⟨ret_bool hfin.out.symm, by first | exact ⟨_, rfl⟩ | exact ⟨_, World.drewN_drewN _ _ _⟩⟩
  · have hfin : Hid (b = false) := Lib.hid (hb.trans (decide_eq_false fun e => hnm (by rw [← L1.out, ← L2.out, e])))
    have hd : ((n : Int) != (m : Int)) = true := by simp; omega
    clear hnm hb
    go_enter Try.func19, Try.ntmps19
    go_wp2
    go_ret
    exact ⟨ret_bool hfin.out.symm, 0, rfl⟩

end Go.Proofs.Ytogcecfeofbbnaa
end

section
/- The law ComposeCascade: the walk. -/
namespace Go.Proofs.Ytogcecfeofbbnaa
open Go.RowKit

set_option linter.unusedSimpArgs false
set_option linter.unusedVariables false
theorem Mok.runO_nat {i st n : Nat} {nx ot : List (List Int)} (hM : Mok i st n nx ot) : ∀ (u : List Int) (s : Nat), s < n → Wd i u → ∀ j, j < u.length → ∃ x : Nat, (runO nx ot s u).getD j 0 = (x : Int) ∧ x ≤ 1048576
  | [], _, _, _, j, hj => absurd hj (by simp)
  | x :: u, s, hs, hu, 0, _ => by
    obtain ⟨a, rfl, ha⟩ := hu.head
    refine ⟨oM ot s a, ?_, hM.oM_le hs ha⟩
    show oN ot s ((a : Int)).toNat = _
    rw [Int.toNat_natCast, hM.oM_eq hs ha]
  | x :: u, s, hs, hu, j + 1, hj => by
    obtain ⟨a, rfl, ha⟩ := hu.head
    exact hM.runO_nat u (nN nx s ((a : Int)).toNat) (hM.nN_lt hs (by simpa using ha)) hu.tail j (by simpa using hj)
theorem frm_two {i st n : Nat} {nx ot : List (List Int)} (hM : Mok i st n nx ot) (xs : List Int) : frm i st nx ot st xs = if chk xs i = 0 then (runO nx ot st xs, (runS nx st xs : Int), 0) else ([], 0, chk xs i) := by
  by_cases h : chk xs i = 0
  · rw [if_pos h, hM.frm hM.st h]
  · rw [if_neg h]
    exact frm_word hM.vld (by rw [hM.nxl]; have := hM.st; omega) h
theorem chk_wd {xs : List Int} {i : Nat} (h : chk xs i = 0) : Wd i xs := (chk_zero h).2.2.2.mem
/-- What the runs of a cascade say. -/
theorem casc_runs {i st n i' st' n' : Nat} {nx ot nx' ot' : List (List Int)} (hM : Mok i st n nx ot) (hM' : Mok i' st' n' nx' ot') (hg : grt ot < i') {R : List Ent} (hR : R = fdG (caF nx ot nx') i n n' st st') (hf : Fits (caO ot ot') i R) (xs : List Int) :
    frm i (0 : Nat) (autN (caF nx ot nx') i R) (outN (caO ot ot') i R) (0 : Nat) xs = if chk xs i = 0 then (runO nx' ot' st' (runO nx ot st xs), (runS (autN (caF nx ot nx') i R) 0 xs : Int), 0) else ([], 0, chk xs i) := by
  have hg2 : ∀ s a, s < n → a < i → oM ot s a < i' := fun s a hs ha => Nat.lt_of_le_of_lt (hM.oM_grt hs ha) hg
  have hst := ca_stp hM hM' hg2
  have hMR := fdG_mok hst hM.st hM'.st hM.i1 hM.i2 hR hf
  rw [frm_two hMR]
  by_cases h : chk xs i = 0
  · rw [if_pos h, if_pos h, fdG_run (O := caO ot ot') hst hM.st hM'.st hR (chk_wd h), (ca_out hM hM' hg2 xs st st' hM.st hM'.st (chk_wd h)).1]
  · rw [if_neg h, if_neg h]
theorem casc_chk {i st n i' st' n' : Nat} {nx ot nx' ot' : List (List Int)} (hM : Mok i st n nx ot) (hM' : Mok i' st' n' nx' ot') (hg : grt ot < i') {xs : List Int} (h : chk xs i = 0) : chk (runO nx ot st xs) i' = 0 := by
  have hg2 : ∀ s a, s < n → a < i → oM ot s a < i' := fun s a hs ha => Nat.lt_of_le_of_lt (hM.oM_grt hs ha) hg
  have hW := (ca_out hM hM' hg2 xs st st' hM.st hM'.st (chk_wd h)).2
  have h1 := hM'.i1
  have h2 := hM'.i2
  refine chk_ok (by omega) (by rw [runO_len]; have := (chk_zero h).2.2.1; omega) fun j hj => ?_
  have := hW ((runO nx ot st xs).getD j 0) (by rw [List.getD_eq_getElem?_getD, List.getElem?_eq_getElem hj]; exact List.getElem_mem _)
  exact this
set_option maxHeartbeats 8000000 in
set_option maxRecDepth 100000 in
theorem casc14_walk (i1 st1 i2 st2 : Int) (A B C D : Option Addr) (n c m d n2 c2 m2 d2 : Nat) (nx ot nx' ot' : List (List Int)) (E : Option Addr) (ln cp : Nat) (xs : List Int) (w : World) (hx1 : Lists w A n nx) (ho1 : Lists w B m ot) (hx2 : Lists w C n2 nx') (ho2 : Lists w D m2 ot') (hE : Ints w E ln xs) :
    Calls Try.prog 11 #[.agg #[.int .i64 i1, .int .i64 st1, .slice A n c, .slice B m d], .agg #[.int .i64 i2, .int .i64 st2, .slice C n2 c2, .slice D m2 d2], .slice E ln cp] w fun e w' => e = .returned (.bool true) ∧ Below w.heap.size w w' := by
  obtain ⟨w0, hw0, hb0, hG, hG', hz0⟩ := pair_boxesM w i1 st1 i2 st2 A B C D n c m d n2 c2 m2 d2
  have HW0 := Lib.hid hw0
  have HB0 := Lib.hid hb0
  have HX1 := Lib.hid (fun (W : World) (h : Below w0.heap.size w0 W) => (hx1.below hb0).below h)
  have HO1 := Lib.hid (fun (W : World) (h : Below w0.heap.size w0 W) => (ho1.below hb0).below h)
  have HX2 := Lib.hid (fun (W : World) (h : Below w0.heap.size w0 W) => (hx2.below hb0).below h)
  have HO2 := Lib.hid (fun (W : World) (h : Below w0.heap.size w0 W) => (ho2.below hb0).below h)
  have HE := Lib.hid (fun (W : World) (h : Below w0.heap.size w0 W) => (hE.below hb0).below h)
  have HG1 := Lib.hid (fun (W : World) (h : Below w0.heap.size w0 W) => hG.on h)
  have HG2 := Lib.hid (fun (W : World) (h : Below w0.heap.size w0 W) => hG'.on h)
  have hbc := Below.refl w0.heap.size w0
  obtain ⟨k0, k1, k2, k3, _⟩ := hG.cells
  rw [HW0.out] at k0 k1 k2 k3
  clear hw0 hb0 hG hG' hz0 hx1 ho1 hx2 ho2 hE
  go_enter Try.func11, Try.ntmps11
  go_wp2_with fail
  rw [← HW0.out]
  refine (rgreat10 _ _ _ _ _ _ _ _ _ _ _ (HX1.out _ hbc) (HO1.out _ hbc)).mono ?_
  rintro e w1 ⟨b1, rfl, hs1, a1⟩
  have hbc := bt hbc a1
  have HS1 := Lib.hid hs1
  clear k0 k1 k2 k3 a1 hs1
  cases b1
  case true =>
    go_wp2_with fail
    refine (awake14 _).mono ?_
    rintro e wz ⟨rfl, az⟩
    have hbz := bt HB0.out (bt hbc az)
    go_wp2_with fail
    go_ret
    exact ⟨rfl, hbz⟩
  obtain ⟨l0, l1, l2, l3, _⟩ := (HG2.out _ hbc).cells
  go_wp2_with fail
  refine (rgreat10 _ _ _ _ _ _ _ _ _ _ _ (HX2.out _ hbc) (HO2.out _ hbc)).mono ?_
  rintro e w2 ⟨b2, rfl, hs2, a2⟩
  have hbc := bt hbc a2
  have HS2 := Lib.hid hs2
  clear l0 l1 l2 l3 a2 hs2
  cases b2
  case true =>
    go_wp2_with fail
    refine (awake14 _).mono ?_
    rintro e wz ⟨rfl, az⟩
    have hbz := bt HB0.out (bt hbc az)
    go_wp2_with fail
    go_ret
    exact ⟨rfl, hbz⟩
  obtain ⟨k0, k1, k2, k3, _⟩ := (HG1.out _ hbc).cells
  go_wp2_with fail
  refine (rvalid _ _ _ _ _ _ _ _ _ _ _ (HX1.out _ hbc) (HO1.out _ hbc)).mono ?_
  rintro e w3 ⟨rfl, a3⟩
  have hbc := bt hbc a3
  clear k0 k1 k2 k3 a3
  by_cases hv1 : vld i1 st1 nx ot = 0
  case neg =>
    have t1 : (vld i1 st1 nx ot != 0) = true := by simpa using hv1
    generalize vld i1 st1 nx ot = V1 at t1 hv1
    clear hv1
    go_wp2_with fail
    refine (awake14 _).mono ?_
    rintro e wz ⟨rfl, az⟩
    have hbz := bt HB0.out (bt hbc az)
    go_wp2_with fail
    go_ret
    exact ⟨rfl, hbz⟩
  obtain ⟨i, st, n', rfl, rfl, hM⟩ := vld_zero hv1
  obtain rfl : n = n' := by rw [← hM.nxl]; exact (HX1.out _ (Below.refl _ _)).1.symm
  obtain rfl : n = m := by rw [← hM.otl]; exact (HO1.out _ (Below.refl _ _)).1
  rw [hv1]
  have HM := Lib.hid hM
  clear hv1 hM
  obtain ⟨l0, l1, l2, l3, _⟩ := (HG2.out _ hbc).cells
  go_wp2_with fail
  refine (rvalid _ _ _ _ _ _ _ _ _ _ _ (HX2.out _ hbc) (HO2.out _ hbc)).mono ?_
  rintro e w4 ⟨rfl, a4⟩
  have hbc := bt hbc a4
  clear l0 l1 l2 l3 a4
  by_cases hv2 : vld i2 st2 nx' ot' = 0
  case neg =>
    have t1 : (vld i2 st2 nx' ot' != 0) = true := by simpa using hv2
    generalize vld i2 st2 nx' ot' = V2 at t1 hv2
    clear hv2
    go_wp2_with fail
    refine (awake14 _).mono ?_
    rintro e wz ⟨rfl, az⟩
    have hbz := bt HB0.out (bt hbc az)
    go_wp2_with fail
    go_ret
    exact ⟨rfl, hbz⟩
  obtain ⟨i', st', n2', rfl, rfl, hM'⟩ := vld_zero hv2
  obtain rfl : n2 = n2' := by rw [← hM'.nxl]; exact (HX2.out _ (Below.refl _ _)).1.symm
  obtain rfl : n2 = m2 := by rw [← hM'.otl]; exact (HO2.out _ (Below.refl _ _)).1
  rw [hv2]
  have HM' := Lib.hid hM'
  have hi2 := HM.out.i2
  have hi2' := hM'.i2
  clear hv2 hM'
  obtain ⟨k0, k1, k2, k3, _⟩ := (HG1.out _ hbc).cells
  obtain ⟨l0, l1, l2, l3, _⟩ := (HG2.out _ hbc).cells
  go_wp2_with fail
  by_cases hgi : grt ot < i'
  case neg =>
    refine (pcascade_bad2 i st n i' st' n2 A B C D c d c2 d2 nx ot nx' ot' w4 (HX1.out _ hbc) (HO1.out _ hbc) (HX2.out _ hbc) (HO2.out _ hbc) HM.out HM'.out hgi).mono ?_
    rintro e w5 ⟨rfl, a5⟩
    unfold NoM
    have u1 : decide (i' ≤ grt ot) = true := by simp; omega
    have u2 : decide ((i' : Int) ≤ (grt ot : Int)) = true := by simp; omega
    have hgl := HM.out.grt_le
    clear hgi
    have hb5 := bt hbc a5
    obtain ⟨X5, hX5⟩ : ∃ X5, X5 = w5.alloc (.cells #[.int .i64 0, .int .i64 0, .slice none 0 0, .slice none 0 0] 24) := ⟨_, rfl⟩
    have hbc := bt hb5 (show Below w5.heap.size w5 X5 by rw [hX5]; exact alloc_below _ _)
    clear k0 k1 k2 k3 l0 l1 l2 l3 a5 hb5
    have HBC := Lib.hid hbc
    have HS := Lib.hid (show ∀ W : World, Below X5.heap.size X5 W → W.cell? ⟨w.heap.size, 0, none⟩ = some (.int .i64 i) ∧ W.cell? ⟨w.heap.size, 1, none⟩ = some (.int .i64 st) ∧ W.cell? ⟨w.heap.size, 2, none⟩ = some (.slice A n c) ∧ W.cell? ⟨w.heap.size, 3, none⟩ = some (.slice B n d) ∧ W.cell? ⟨w.heap.size + 1, 0, none⟩ = some (.int .i64 i') from fun W h => by
      obtain ⟨b0, b1, b2, b3, _⟩ := (HG1.out _ (bt HBC.out h)).cells
      obtain ⟨d0, _⟩ := (HG2.out _ (bt HBC.out h)).cells
      exact ⟨b0, b1, b2, b3, d0⟩)
    obtain ⟨k0, k1, k2, k3, l0⟩ := HS.out _ (Below.refl _ _)
    have hbf : Below X5.heap.size X5 X5.drew := below_drewN (Below.refl _ _) 1
    have HX5 := Lib.hid hX5
    rw [hX5] at k0 k1 k2 k3 l0
    clear hX5 hbc
    go_wp2_with fail
    rw [← HX5.out] at k0 k1 k2 k3 l0 ⊢
    refine wp_region_heldX (X := fun k => ([] : List Nat).contains k) (S := fun W => W.cell? ⟨w.heap.size, 0, none⟩ = some (.int .i64 i) ∧ W.cell? ⟨w.heap.size, 1, none⟩ = some (.int .i64 st) ∧ W.cell? ⟨w.heap.size, 2, none⟩ = some (.slice A n c) ∧ W.cell? ⟨w.heap.size, 3, none⟩ = some (.slice B n d) ∧ W.cell? ⟨w.heap.size + 1, 0, none⟩ = some (.int .i64 i')) (by kernel_rfl) ?_
    refine wpAnyX_pure (i := 0) (v := ?_) rfl (by kernel_rfl) (by kernel_rfl) (by kernel_rfl) (fun _ _ _ h => h) (Or.inl ⟨by rfl, ?_⟩) ?_
    rotate_left
    · (intro W _; go_simp; try with_reducible rfl)
    (try simp only [Act.put, List.getElem_toArray, List.getElem_cons_zero, List.getElem_cons_succ, List.setIfInBounds_toArray, List.set_cons_zero, List.set_cons_succ])
    refine wpAnyX_pure (i := 1) (v := ?_) rfl (by kernel_rfl) (by kernel_rfl) (by kernel_rfl) (fun _ _ _ h => h) (Or.inl ⟨by rfl, ?_⟩) ?_
    rotate_left
    · (intro W _; go_simp; try with_reducible rfl)
    (try simp only [Act.put, List.getElem_toArray, List.getElem_cons_zero, List.getElem_cons_succ, List.setIfInBounds_toArray, List.set_cons_zero, List.set_cons_succ])
    refine wpAnyX_takeL (L := []) (i := 2) (v := ?_) rfl (by kernel_rfl) (by kernel_rfl) (by kernel_rfl) (by kernel_rfl) (fun _ _ _ h => h) (Or.inl ⟨by rfl, ?_⟩) (HS.out _ hbf) ?_
    rotate_left
    · (intro W hSW; (try dsimp only at hSW); obtain ⟨z0, z1, z2, z3, z4⟩ := hSW; go_simp; try with_reducible rfl)
    (try simp only [Act.put, List.getElem_toArray, List.getElem_cons_zero, List.getElem_cons_succ, List.setIfInBounds_toArray, List.set_cons_zero, List.set_cons_succ])
    refine wpAnyX_pure (i := 4) (v := ?_) rfl (by kernel_rfl) (by kernel_rfl) (by kernel_rfl) (fun _ _ _ h => h) (Or.inl ⟨by rfl, ?_⟩) ?_
    rotate_left
    · (intro W _; go_simp; try with_reducible rfl)
    (try simp only [Act.put, List.getElem_toArray, List.getElem_cons_zero, List.getElem_cons_succ, List.setIfInBounds_toArray, List.set_cons_zero, List.set_cons_succ])
    refine wpAnyX_takeL (L := []) (i := 5) (v := ?_) rfl (by kernel_rfl) (by kernel_rfl) (by kernel_rfl) (by kernel_rfl) (fun _ _ _ h => h) (Or.inl ⟨by rfl, ?_⟩) (HS.out _ hbf) ?_
    rotate_left
    · (intro W hSW; (try dsimp only at hSW); obtain ⟨z0, z1, z2, z3, z4⟩ := hSW; go_simp; try with_reducible rfl)
    (try simp only [Act.put, List.getElem_toArray, List.getElem_cons_zero, List.getElem_cons_succ, List.setIfInBounds_toArray, List.set_cons_zero, List.set_cons_succ])
    refine wpAnyX_one (i := 3) rfl (by kernel_rfl) (fun K hK => ?_)
    go_simp
    go_at_call 44
    refine (rgreatest i st n A B c d nx ot _ (HX1.out _ (bt HBC.out hbf)) (HO1.out _ (bt HBC.out hbf)) HM.out).mono ?_
    rintro e w9 ⟨rfl, b9⟩
    have hbf := bt hbf b9
    refine hK.out _ _ (fun _ _ => HS.out _ hbf) ?_
    (try simp only [Act.put, List.getElem_toArray, List.getElem_cons_zero, List.getElem_cons_succ, List.setIfInBounds_toArray, List.set_cons_zero, List.set_cons_succ])
    refine wpAnyX_pure (i := 6) (v := ?_) rfl (by kernel_rfl) (by kernel_rfl) (by kernel_rfl) (fun _ _ _ h => h) (Or.inl ⟨by rfl, ?_⟩) ?_
    rotate_left
    · (intro W _; go_simp; try with_reducible rfl)
    (try simp only [Act.put, List.getElem_toArray, List.getElem_cons_zero, List.getElem_cons_succ, List.setIfInBounds_toArray, List.set_cons_zero, List.set_cons_succ])
    refine wpAnyX_pure (i := 7) (v := ?_) rfl (by kernel_rfl) (by kernel_rfl) (by kernel_rfl) (fun _ _ _ h => h) (Or.inl ⟨by rfl, ?_⟩) ?_
    rotate_left
    · (intro W _; go_simp; try with_reducible rfl)
    (try simp only [Act.put, List.getElem_toArray, List.getElem_cons_zero, List.getElem_cons_succ, List.setIfInBounds_toArray, List.set_cons_zero, List.set_cons_succ])
    refine wpAnyX_pure (i := 8) (v := ?_) rfl (by kernel_rfl) (by kernel_rfl) (by kernel_rfl) (fun _ _ _ h => h) (Or.inl ⟨by rfl, ?_⟩) ?_
    rotate_left
    · (intro W _; go_simp; try with_reducible rfl)
    (try simp only [Act.put, List.getElem_toArray, List.getElem_cons_zero, List.getElem_cons_succ, List.setIfInBounds_toArray, List.set_cons_zero, List.set_cons_succ])
    refine wpAnyX_pure (i := 9) (v := ?_) rfl (by kernel_rfl) (by kernel_rfl) (by kernel_rfl) (fun _ _ _ h => h) (Or.inl ⟨by rfl, ?_⟩) ?_
    rotate_left
    · (intro W _; go_simp; try with_reducible rfl)
    (try simp only [Act.put, List.getElem_toArray, List.getElem_cons_zero, List.getElem_cons_succ, List.setIfInBounds_toArray, List.set_cons_zero, List.set_cons_succ])
    refine wpAnyX_pure (i := 10) (v := ?_) rfl (by kernel_rfl) (by kernel_rfl) (by kernel_rfl) (fun _ _ _ h => h) (Or.inl ⟨by rfl, ?_⟩) ?_
    rotate_left
    · (intro W _; go_simp; try with_reducible rfl)
    (try simp only [Act.put, List.getElem_toArray, List.getElem_cons_zero, List.getElem_cons_succ, List.setIfInBounds_toArray, List.set_cons_zero, List.set_cons_succ])
    refine wpAnyX_pure (i := 11) (v := ?_) rfl (by kernel_rfl) (by kernel_rfl) (by kernel_rfl) (fun _ _ _ h => h) (Or.inl ⟨by rfl, ?_⟩) ?_
    rotate_left
    · (intro W _; go_simp; try with_reducible rfl)
    (try simp only [Act.put, List.getElem_toArray, List.getElem_cons_zero, List.getElem_cons_succ, List.setIfInBounds_toArray, List.set_cons_zero, List.set_cons_succ])
    refine wpAnyX_pure (i := 12) (v := undef) rfl (by kernel_rfl) (by kernel_rfl) (by kernel_rfl) (fun _ _ _ h => h) (Or.inr ⟨by rfl, rfl⟩) ?_
    (try simp only [Act.put, List.getElem_toArray, List.getElem_cons_zero, List.getElem_cons_succ, List.setIfInBounds_toArray, List.set_cons_zero, List.set_cons_succ])
    refine wpAnyX_pure (i := 13) (v := undef) rfl (by kernel_rfl) (by kernel_rfl) (by kernel_rfl) (fun _ _ _ h => h) (Or.inr ⟨by rfl, rfl⟩) ?_
    (try simp only [Act.put, List.getElem_toArray, List.getElem_cons_zero, List.getElem_cons_succ, List.setIfInBounds_toArray, List.set_cons_zero, List.set_cons_succ])
    refine wpAnyX_pure (i := 14) (v := ?_) rfl (by kernel_rfl) (by kernel_rfl) (by kernel_rfl) (fun _ _ _ h => h) (Or.inl ⟨by rfl, ?_⟩) ?_
    rotate_left
    · (intro W _; go_simp; try with_reducible rfl)
    (try simp only [Act.put, List.getElem_toArray, List.getElem_cons_zero, List.getElem_cons_succ, List.setIfInBounds_toArray, List.set_cons_zero, List.set_cons_succ])
    refine wpAnyX_pure (i := 15) (v := ?_) rfl (by kernel_rfl) (by kernel_rfl) (by kernel_rfl) (fun _ _ _ h => h) (Or.inl ⟨by rfl, ?_⟩) ?_
    rotate_left
    · (intro W _; go_simp; try with_reducible rfl)
    (try simp only [Act.put, List.getElem_toArray, List.getElem_cons_zero, List.getElem_cons_succ, List.setIfInBounds_toArray, List.set_cons_zero, List.set_cons_succ])
    refine wpAnyX_pure (i := 16) (v := ?_) rfl (by kernel_rfl) (by kernel_rfl) (by kernel_rfl) (fun _ _ _ h => h) (Or.inl ⟨by rfl, ?_⟩) ?_
    rotate_left
    · (intro W _; go_simp; try with_reducible rfl)
    (try simp only [Act.put, List.getElem_toArray, List.getElem_cons_zero, List.getElem_cons_succ, List.setIfInBounds_toArray, List.set_cons_zero, List.set_cons_succ])
    refine wpAnyX_one (i := 17) rfl (by kernel_rfl) (fun K hK => ?_)
    go_simp
    go_at_call 31
    refine (awake14 _).mono ?_
    rintro e w10 ⟨rfl, b10⟩
    have hbf := bt hbf b10
    refine hK.out _ _ (fun _ _ => HS.out _ hbf) ?_
    (try simp only [Act.put, List.getElem_toArray, List.getElem_cons_zero, List.getElem_cons_succ, List.setIfInBounds_toArray, List.set_cons_zero, List.set_cons_succ])
    refine wpAnyX_pure (i := 18) (v := ?_) rfl (by kernel_rfl) (by kernel_rfl) (by kernel_rfl) (fun _ _ _ h => h) (Or.inl ⟨by rfl, ?_⟩) ?_
    rotate_left
    · (intro W _; go_simp; try with_reducible rfl)
    (try simp only [Act.put, List.getElem_toArray, List.getElem_cons_zero, List.getElem_cons_succ, List.setIfInBounds_toArray, List.set_cons_zero, List.set_cons_succ])
    refine wpAnyX_pure (i := 19) (v := ?_) rfl (by kernel_rfl) (by kernel_rfl) (by kernel_rfl) (fun _ _ _ h => h) (Or.inl ⟨by rfl, ?_⟩) ?_
    rotate_left
    · (intro W _; go_simp; try with_reducible rfl)
    (try simp only [Act.put, List.getElem_toArray, List.getElem_cons_zero, List.getElem_cons_succ, List.setIfInBounds_toArray, List.set_cons_zero, List.set_cons_succ])
    refine wpAnyX_done (by kernel_rfl) ?_ _
    have hbz := bt HB0.out (bt HBC.out hbf)
    go_wp2_with fail
    go_ret
    exact ⟨rfl, hbz⟩
  obtain ⟨R, hR⟩ : ∃ R, R = fdG (caF nx ot nx') i n n2 st st' := ⟨_, rfl⟩
  refine (pcascade i st n i' st' n2 A B C D c d c2 d2 nx ot nx' ot' w4 (HX1.out _ hbc) (HO1.out _ hbc) (HX2.out _ hbc) (HO2.out _ hbc) HM.out HM'.out hgi).mono ?_
  rintro e w5 ⟨h5, a5⟩
  rw [← hR] at h5
  rcases h5 with ⟨hok, A5, c5, B5, d5, rfl, o5, t5⟩ | ⟨hok, rfl⟩
  case inr =>
    have u1 : decide (i' ≤ grt ot) = false := by simp; omega
    have u2 : decide ((i' : Int) ≤ (grt ot : Int)) = false := by simp; omega
    have hgl := HM.out.grt_le
    clear hgi hok hR
    have hb5 := bt hbc a5
    obtain ⟨X5, hX5⟩ : ∃ X5, X5 = w5.alloc (.cells #[.int .i64 0, .int .i64 0, .slice none 0 0, .slice none 0 0] 24) := ⟨_, rfl⟩
    have hbc := bt hb5 (show Below w5.heap.size w5 X5 by rw [hX5]; exact alloc_below _ _)
    clear k0 k1 k2 k3 l0 l1 l2 l3 a5 hb5
    have HBC := Lib.hid hbc
    have HS := Lib.hid (show ∀ W : World, Below X5.heap.size X5 W → W.cell? ⟨w.heap.size, 0, none⟩ = some (.int .i64 i) ∧ W.cell? ⟨w.heap.size, 1, none⟩ = some (.int .i64 st) ∧ W.cell? ⟨w.heap.size, 2, none⟩ = some (.slice A n c) ∧ W.cell? ⟨w.heap.size, 3, none⟩ = some (.slice B n d) ∧ W.cell? ⟨w.heap.size + 1, 0, none⟩ = some (.int .i64 i') from fun W h => by
      obtain ⟨b0, b1, b2, b3, _⟩ := (HG1.out _ (bt HBC.out h)).cells
      obtain ⟨d0, _⟩ := (HG2.out _ (bt HBC.out h)).cells
      exact ⟨b0, b1, b2, b3, d0⟩)
    obtain ⟨k0, k1, k2, k3, l0⟩ := HS.out _ (Below.refl _ _)
    have hbf : Below X5.heap.size X5 X5.drew := below_drewN (Below.refl _ _) 1
    have HX5 := Lib.hid hX5
    rw [hX5] at k0 k1 k2 k3 l0
    clear hX5 hbc
    go_wp2_with fail
    rw [← HX5.out] at k0 k1 k2 k3 l0 ⊢
    refine wp_region_heldX (X := fun k => ([] : List Nat).contains k) (S := fun W => W.cell? ⟨w.heap.size, 0, none⟩ = some (.int .i64 i) ∧ W.cell? ⟨w.heap.size, 1, none⟩ = some (.int .i64 st) ∧ W.cell? ⟨w.heap.size, 2, none⟩ = some (.slice A n c) ∧ W.cell? ⟨w.heap.size, 3, none⟩ = some (.slice B n d) ∧ W.cell? ⟨w.heap.size + 1, 0, none⟩ = some (.int .i64 i')) (by kernel_rfl) ?_
    refine wpAnyX_pure (i := 0) (v := ?_) rfl (by kernel_rfl) (by kernel_rfl) (by kernel_rfl) (fun _ _ _ h => h) (Or.inl ⟨by rfl, ?_⟩) ?_
    rotate_left
    · (intro W _; go_simp; try with_reducible rfl)
    (try simp only [Act.put, List.getElem_toArray, List.getElem_cons_zero, List.getElem_cons_succ, List.setIfInBounds_toArray, List.set_cons_zero, List.set_cons_succ])
    refine wpAnyX_pure (i := 1) (v := ?_) rfl (by kernel_rfl) (by kernel_rfl) (by kernel_rfl) (fun _ _ _ h => h) (Or.inl ⟨by rfl, ?_⟩) ?_
    rotate_left
    · (intro W _; go_simp; try with_reducible rfl)
    (try simp only [Act.put, List.getElem_toArray, List.getElem_cons_zero, List.getElem_cons_succ, List.setIfInBounds_toArray, List.set_cons_zero, List.set_cons_succ])
    refine wpAnyX_takeL (L := []) (i := 2) (v := ?_) rfl (by kernel_rfl) (by kernel_rfl) (by kernel_rfl) (by kernel_rfl) (fun _ _ _ h => h) (Or.inl ⟨by rfl, ?_⟩) (HS.out _ hbf) ?_
    rotate_left
    · (intro W hSW; (try dsimp only at hSW); obtain ⟨z0, z1, z2, z3, z4⟩ := hSW; go_simp; try with_reducible rfl)
    (try simp only [Act.put, List.getElem_toArray, List.getElem_cons_zero, List.getElem_cons_succ, List.setIfInBounds_toArray, List.set_cons_zero, List.set_cons_succ])
    refine wpAnyX_pure (i := 4) (v := ?_) rfl (by kernel_rfl) (by kernel_rfl) (by kernel_rfl) (fun _ _ _ h => h) (Or.inl ⟨by rfl, ?_⟩) ?_
    rotate_left
    · (intro W _; go_simp; try with_reducible rfl)
    (try simp only [Act.put, List.getElem_toArray, List.getElem_cons_zero, List.getElem_cons_succ, List.setIfInBounds_toArray, List.set_cons_zero, List.set_cons_succ])
    refine wpAnyX_takeL (L := []) (i := 5) (v := ?_) rfl (by kernel_rfl) (by kernel_rfl) (by kernel_rfl) (by kernel_rfl) (fun _ _ _ h => h) (Or.inl ⟨by rfl, ?_⟩) (HS.out _ hbf) ?_
    rotate_left
    · (intro W hSW; (try dsimp only at hSW); obtain ⟨z0, z1, z2, z3, z4⟩ := hSW; go_simp; try with_reducible rfl)
    (try simp only [Act.put, List.getElem_toArray, List.getElem_cons_zero, List.getElem_cons_succ, List.setIfInBounds_toArray, List.set_cons_zero, List.set_cons_succ])
    refine wpAnyX_one (i := 3) rfl (by kernel_rfl) (fun K hK => ?_)
    go_simp
    go_at_call 44
    refine (rgreatest i st n A B c d nx ot _ (HX1.out _ (bt HBC.out hbf)) (HO1.out _ (bt HBC.out hbf)) HM.out).mono ?_
    rintro e w9 ⟨rfl, b9⟩
    have hbf := bt hbf b9
    refine hK.out _ _ (fun _ _ => HS.out _ hbf) ?_
    (try simp only [Act.put, List.getElem_toArray, List.getElem_cons_zero, List.getElem_cons_succ, List.setIfInBounds_toArray, List.set_cons_zero, List.set_cons_succ])
    refine wpAnyX_pure (i := 6) (v := ?_) rfl (by kernel_rfl) (by kernel_rfl) (by kernel_rfl) (fun _ _ _ h => h) (Or.inl ⟨by rfl, ?_⟩) ?_
    rotate_left
    · (intro W _; go_simp; try with_reducible rfl)
    (try simp only [Act.put, List.getElem_toArray, List.getElem_cons_zero, List.getElem_cons_succ, List.setIfInBounds_toArray, List.set_cons_zero, List.set_cons_succ])
    refine wpAnyX_pure (i := 7) (v := ?_) rfl (by kernel_rfl) (by kernel_rfl) (by kernel_rfl) (fun _ _ _ h => h) (Or.inl ⟨by rfl, ?_⟩) ?_
    rotate_left
    · (intro W _; go_simp; try with_reducible rfl)
    (try simp only [Act.put, List.getElem_toArray, List.getElem_cons_zero, List.getElem_cons_succ, List.setIfInBounds_toArray, List.set_cons_zero, List.set_cons_succ])
    refine wpAnyX_pure (i := 8) (v := ?_) rfl (by kernel_rfl) (by kernel_rfl) (by kernel_rfl) (fun _ _ _ h => h) (Or.inl ⟨by rfl, ?_⟩) ?_
    rotate_left
    · (intro W _; go_simp; try with_reducible rfl)
    (try simp only [Act.put, List.getElem_toArray, List.getElem_cons_zero, List.getElem_cons_succ, List.setIfInBounds_toArray, List.set_cons_zero, List.set_cons_succ])
    refine wpAnyX_pure (i := 9) (v := ?_) rfl (by kernel_rfl) (by kernel_rfl) (by kernel_rfl) (fun _ _ _ h => h) (Or.inl ⟨by rfl, ?_⟩) ?_
    rotate_left
    · (intro W _; go_simp; try with_reducible rfl)
    (try simp only [Act.put, List.getElem_toArray, List.getElem_cons_zero, List.getElem_cons_succ, List.setIfInBounds_toArray, List.set_cons_zero, List.set_cons_succ])
    refine wpAnyX_pure (i := 10) (v := ?_) rfl (by kernel_rfl) (by kernel_rfl) (by kernel_rfl) (fun _ _ _ h => h) (Or.inl ⟨by rfl, ?_⟩) ?_
    rotate_left
    · (intro W _; go_simp; try with_reducible rfl)
    (try simp only [Act.put, List.getElem_toArray, List.getElem_cons_zero, List.getElem_cons_succ, List.setIfInBounds_toArray, List.set_cons_zero, List.set_cons_succ])
    refine wpAnyX_pure (i := 11) (v := ?_) rfl (by kernel_rfl) (by kernel_rfl) (by kernel_rfl) (fun _ _ _ h => h) (Or.inl ⟨by rfl, ?_⟩) ?_
    rotate_left
    · (intro W _; go_simp; try with_reducible rfl)
    (try simp only [Act.put, List.getElem_toArray, List.getElem_cons_zero, List.getElem_cons_succ, List.setIfInBounds_toArray, List.set_cons_zero, List.set_cons_succ])
    refine wpAnyX_pure (i := 12) (v := ?_) rfl (by kernel_rfl) (by kernel_rfl) (by kernel_rfl) (fun _ _ _ h => h) (Or.inl ⟨by rfl, ?_⟩) ?_
    rotate_left
    · (intro W _; go_simp; try with_reducible rfl)
    (try simp only [Act.put, List.getElem_toArray, List.getElem_cons_zero, List.getElem_cons_succ, List.setIfInBounds_toArray, List.set_cons_zero, List.set_cons_succ])
    refine wpAnyX_pure (i := 13) (v := ?_) rfl (by kernel_rfl) (by kernel_rfl) (by kernel_rfl) (fun _ _ _ h => h) (Or.inl ⟨by rfl, ?_⟩) ?_
    rotate_left
    · (intro W _; go_simp; try with_reducible rfl)
    (try simp only [Act.put, List.getElem_toArray, List.getElem_cons_zero, List.getElem_cons_succ, List.setIfInBounds_toArray, List.set_cons_zero, List.set_cons_succ])
    refine wpAnyX_pure (i := 14) (v := ?_) rfl (by kernel_rfl) (by kernel_rfl) (by kernel_rfl) (fun _ _ _ h => h) (Or.inl ⟨by rfl, ?_⟩) ?_
    rotate_left
    · (intro W _; go_simp; try with_reducible rfl)
    (try simp only [Act.put, List.getElem_toArray, List.getElem_cons_zero, List.getElem_cons_succ, List.setIfInBounds_toArray, List.set_cons_zero, List.set_cons_succ])
    refine wpAnyX_pure (i := 15) (v := ?_) rfl (by kernel_rfl) (by kernel_rfl) (by kernel_rfl) (fun _ _ _ h => h) (Or.inl ⟨by rfl, ?_⟩) ?_
    rotate_left
    · (intro W _; go_simp; try with_reducible rfl)
    (try simp only [Act.put, List.getElem_toArray, List.getElem_cons_zero, List.getElem_cons_succ, List.setIfInBounds_toArray, List.set_cons_zero, List.set_cons_succ])
    refine wpAnyX_pure (i := 16) (v := ?_) rfl (by kernel_rfl) (by kernel_rfl) (by kernel_rfl) (fun _ _ _ h => h) (Or.inl ⟨by rfl, ?_⟩) ?_
    rotate_left
    · (intro W _; go_simp; try with_reducible rfl)
    (try simp only [Act.put, List.getElem_toArray, List.getElem_cons_zero, List.getElem_cons_succ, List.setIfInBounds_toArray, List.set_cons_zero, List.set_cons_succ])
    refine wpAnyX_one (i := 17) rfl (by kernel_rfl) (fun K hK => ?_)
    go_simp
    go_at_call 31
    refine (awake14 _).mono ?_
    rintro e w10 ⟨rfl, b10⟩
    have hbf := bt hbf b10
    refine hK.out _ _ (fun _ _ => HS.out _ hbf) ?_
    (try simp only [Act.put, List.getElem_toArray, List.getElem_cons_zero, List.getElem_cons_succ, List.setIfInBounds_toArray, List.set_cons_zero, List.set_cons_succ])
    refine wpAnyX_pure (i := 18) (v := ?_) rfl (by kernel_rfl) (by kernel_rfl) (by kernel_rfl) (fun _ _ _ h => h) (Or.inl ⟨by rfl, ?_⟩) ?_
    rotate_left
    · (intro W _; go_simp; try with_reducible rfl)
    (try simp only [Act.put, List.getElem_toArray, List.getElem_cons_zero, List.getElem_cons_succ, List.setIfInBounds_toArray, List.set_cons_zero, List.set_cons_succ])
    refine wpAnyX_pure (i := 19) (v := ?_) rfl (by kernel_rfl) (by kernel_rfl) (by kernel_rfl) (fun _ _ _ h => h) (Or.inl ⟨by rfl, ?_⟩) ?_
    rotate_left
    · (intro W _; go_simp; try with_reducible rfl)
    (try simp only [Act.put, List.getElem_toArray, List.getElem_cons_zero, List.getElem_cons_succ, List.setIfInBounds_toArray, List.set_cons_zero, List.set_cons_succ])
    refine wpAnyX_done (by kernel_rfl) ?_ _
    have hbz := bt HB0.out (bt HBC.out hbf)
    go_wp2_with fail
    go_ret
    exact ⟨rfl, hbz⟩
  have hb5 := bt hbc a5
  have hg2 : ∀ s a, s < n → a < i → oM ot s a < i' := fun s a hs ha => Nat.lt_of_le_of_lt (HM.out.oM_grt hs ha) hgi
  have hMR := fdG_mok (ca_stp HM.out HM'.out hg2) HM.out.st HM'.out.st HM.out.i1 HM.out.i2 hR hok
  have e3 := casc_runs HM.out HM'.out hgi hR hok xs
  obtain ⟨N, hN⟩ : ∃ N, N = autN (caF nx ot nx') i R := ⟨_, rfl⟩
  obtain ⟨T, hT⟩ : ∃ T, T = outN (caO ot ot') i R := ⟨_, rfl⟩
  obtain ⟨r, hr⟩ : ∃ r, r = R.length := ⟨_, rfl⟩
  rw [← hN, ← hT] at e3
  rw [← hN, ← hT, ← hr] at hMR
  rw [← hN, ← hr] at o5
  rw [← hT, ← hr] at t5
  rw [← hr]
  have hr2 := hMR.n2
  obtain ⟨X5, hX5⟩ : ∃ X5, X5 = w5.alloc (.cells #[.int .i64 i, .int .i64 0, .slice A5 r c5, .slice B5 r d5] 24) := ⟨_, rfl⟩
  have bx5 : Below w5.heap.size w5 X5 := by rw [hX5]; exact alloc_below _ _
  have hbc := bt hb5 bx5
  have hMB : Mblk X5 w5.heap.size (.int .i64 i) (.int .i64 0) (.slice A5 r c5) (.slice B5 r d5) := by rw [hX5]; exact mealy_box w5 _ _ _ _
  have HMB := Lib.hid hMB
  have HN5 := Lib.hid ((lists_ownedM hMR o5).below bx5)
  have HT5 := Lib.hid ((lists_ownedO hMR t5).below bx5)
  have HE3 := Lib.hid e3
  have HGI := Lib.hid hgi
  clear k0 k1 k2 k3 l0 l1 l2 l3 a5 hb5 hR hok o5 t5 hMR hN hT hr bx5 e3 hMB hg2 hgi
  obtain ⟨k0, k1, k2, k3, _⟩ := (HG1.out _ hbc).cells
  have HX5 := Lib.hid hX5
  rw [hX5] at k0 k1 k2 k3
  clear hX5
  go_wp2_with fail
  rw [← HX5.out]
  refine (prunw i st A B E n c n d ln cp nx ot xs X5 (HX1.out _ hbc) (HO1.out _ hbc) (HE.out _ hbc)).mono ?_
  rintro e w6 ⟨A6, c6, rfl, o6, a6⟩
  rw [frm_two HM.out] at o6 ⊢
  have hbd := a6
  have hbc := bt hbc a6
  clear k0 k1 k2 k3 a6
  obtain ⟨l0, l1, l2, l3, _⟩ := (HG2.out _ hbc).cells
  by_cases hch : chk xs i = 0
  case neg =>
    rw [if_neg hch] at o6 ⊢
    rw [if_neg hch] at HE3
    dsimp only at o6 ⊢
    obtain ⟨v, hv⟩ : ∃ v, v = chk xs i := ⟨_, rfl⟩
    rw [← hv] at hch HE3 ⊢
    have t1 : (v != 0) = true := by simpa using hch
    have t2 : (v == v) = true := by simp
    clear hch hv
    go_wp2_with fail
    refine (prunw i' st' C D A6 n2 c2 n2 d2 0 c6 nx' ot' [] w6 (HX2.out _ hbc) (HO2.out _ hbc) (o6.ints (by simp))).mono ?_
    rintro e w7 ⟨A7, c7, rfl, o7, a7⟩
    have hbd := bt hbd a7
    have hbc := bt hbc a7
    clear l0 l1 l2 l3 a7 o6 o7
    obtain ⟨m0, m1, m2, m3, _⟩ := (HMB.out.on hbd).cells
    go_wp2_with fail
    refine (prunw i (0 : Nat) A5 B5 E r c5 r d5 ln cp N T xs w7 (HN5.out.below hbd) (HT5.out.below hbd) (HE.out _ hbc)).mono ?_
    rintro e w8 ⟨A8, c8, rfl, o8, a8⟩
    rw [HE3.out] at o8 ⊢
    dsimp only at o8 ⊢
    have hbc := bt hbc a8
    clear m0 m1 m2 m3 a8 o8
    go_wp2_with fail
    refine (awake14 _).mono ?_
    rintro e wz ⟨rfl, az⟩
    have hbz := bt HB0.out (bt hbc az)
    go_wp2_with fail
    go_ret
    exact ⟨rfl, hbz⟩
  rw [if_pos hch] at o6 ⊢
  rw [if_pos hch] at HE3
  dsimp only at o6 ⊢
  have hX := runO_len nx ot xs st
  have hL := (chk_zero hch).2.2.1
  have HC2 := Lib.hid (casc_chk HM.out HM'.out HGI.out hch)
  obtain ⟨X, hXX⟩ : ∃ X, X = runO nx ot st xs := ⟨_, rfl⟩
  rw [← hXX] at o6 hX HC2 HE3 ⊢
  have HXL := Lib.hid hX
  have ho6 := o6.ints (by omega)
  clear hch hXX hX
  go_wp2_with fail
  refine (prunw i' st' C D A6 n2 c2 n2 d2 X.length c6 nx' ot' X w6 (HX2.out _ hbc) (HO2.out _ hbc) ho6).mono ?_
  rintro e w7 ⟨A7, c7, rfl, o7, a7⟩
  rw [frm_two HM'.out, if_pos HC2.out] at o7 ⊢
  dsimp only at o7 ⊢
  have hY := runO_len nx' ot' X st'
  obtain ⟨Y, hYY⟩ : ∃ Y, Y = runO nx' ot' st' X := ⟨_, rfl⟩
  rw [← hYY] at o7 hY HE3 ⊢
  have HYL := Lib.hid (hY.trans HXL.out)
  have hbd := bt hbd a7
  have hbc := bt hbc a7
  clear l0 l1 l2 l3 a7 hYY hY ho6 o6
  obtain ⟨m0, m1, m2, m3, _⟩ := (HMB.out.on hbd).cells
  go_wp2_with fail
  refine (prunw i (0 : Nat) A5 B5 E r c5 r d5 ln cp N T xs w7 (HN5.out.below hbd) (HT5.out.below hbd) (HE.out _ hbc)).mono ?_
  rintro e w8 ⟨A8, c8, rfl, o8, a8⟩
  rw [HE3.out] at o8 ⊢
  dsimp only at o8 ⊢
  have HR8 := Lib.hid (requal A7 A8 Y.length c7 Y.length c8 Y Y true w8 ((o7.kept a8).ints (by rw [HYL.out]; omega)) (o8.ints (by rw [HYL.out]; omega)) (by simp))
  have hbc := bt hbc a8
  clear m0 m1 m2 m3 a8 o7 o8
  go_wp2_with fail
  refine HR8.out.mono ?_
  rintro e w9 ⟨rfl, hq9⟩
  have hbc := bt hbc (rd_below hq9)
  clear hq9
  go_wp2_with fail
  refine (awake14 _).mono ?_
  rintro e wz ⟨rfl, az⟩
  have hbz := bt HB0.out (bt hbc az)
  go_wp2_with fail
  go_ret
  exact ⟨rfl, hbz⟩
end Go.Proofs.Ytogcecfeofbbnaa
end
