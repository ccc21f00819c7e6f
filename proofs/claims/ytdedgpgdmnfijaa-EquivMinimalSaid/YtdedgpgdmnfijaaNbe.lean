/- Lemmas of the proofs of this seat, of the parts L9e. Conditions: none. -/
import Derived.Test.YtdedgpgdmnfijaaNbd
import Derived.Test.YtdedgpgdmnfijaaNbm
import Derived.Deep.RegionHeld3
section
/- The law EquivMinimal: the walk. -/
namespace Go.Proofs.Ytdedgpgdmnfijaa
open Go.RowKit

set_option maxHeartbeats 8000000 in
set_option maxRecDepth 100000 in
theorem min9_walk (i1 st1 i2 st2 : Int) (A B C D : Option Addr) (n c m d n2 c2 m2 d2 : Nat) (nx1 ot1 nx2 ot2 : List (List Int)) (u0 u1 : Int) (w : World) (hx1 : Lists w A n nx1) (ho1 : Lists w B m ot1) (hx2 : Lists w C n2 nx2) (ho2 : Lists w D m2 ot2) (hu0 : 0 ≤ u0 ∧ u0 ≤ 255) (hu1 : 0 ≤ u1 ∧ u1 ≤ 255) :
    Calls Try.prog 9 #[.agg #[.int .i64 i1, .int .i64 st1, .slice A n c, .slice B m d], .agg #[.int .i64 i2, .int .i64 st2, .slice C n2 c2, .slice D m2 d2], .agg #[.int .u8 u0, .int .u8 u1]] w fun e w' => e = .returned (.bool true) ∧ Below w.heap.size w w' := by
  obtain ⟨hb0', hB1', hB2'⟩ := pair_boxes w i1 st1 i2 st2 A B C D n c m d n2 c2 m2 d2
  have hb0 := bt hb0' (alloc_below _ (.cells #[.int .u8 u0, .int .u8 u1] 54))
  have hB1 := hB1'.on9 (alloc_below _ (.cells #[.int .u8 u0, .int .u8 u1] 54))
  have hB2 := hB2'.on9 (alloc_below _ (.cells #[.int .u8 u0, .int .u8 u1] 54))
  obtain ⟨w0, hw0⟩ : ∃ w0, w0 = ((w.alloc (.cells #[.int .i64 i1, .int .i64 st1, .slice A n c, .slice B m d] 24)).alloc (.cells #[.int .i64 i2, .int .i64 st2, .slice C n2 c2, .slice D m2 d2] 24)).alloc (.cells #[.int .u8 u0, .int .u8 u1] 54) := ⟨_, rfl⟩
  have hAT : w0.heap[w.heap.size + 1 + 1]? = some (.cells #[.int .u8 u0, .int .u8 u1] 54 (0, 0)) := by
    rw [hw0]
    have := heap_alloc_new ((w.alloc (.cells #[.int .i64 i1, .int .i64 st1, .slice A n c, .slice B m d] 24)).alloc (.cells #[.int .i64 i2, .int .i64 st2, .slice C n2 c2, .slice D m2 d2] 24)) (.cells #[.int .u8 u0, .int .u8 u1] 54)
    simpa using this
  have HAT := Lib.hid (fun (W : World) (h : Below w0.heap.size w0 W) => show W.cell? ⟨w.heap.size + 1 + 1, 0, none⟩ = some (.int .u8 u0) ∧ W.cell? ⟨w.heap.size + 1 + 1, 1, none⟩ = some (.int .u8 u1) from by
    have h2 := (h.block _ (heap_lt hAT)).trans hAT
    exact ⟨by rw [cell_of_row W _ 0 _ _ (0, 0) h2]; rfl, by rw [cell_of_row W _ 1 _ _ (0, 0) h2]; rfl⟩)
  rw [← hw0] at hb0 hB1 hB2
  have HW0 := Lib.hid hw0
  have HX1 := Lib.hid (fun (W : World) (h : Below w0.heap.size w0 W) => (hx1.below hb0).below h)
  have HO1 := Lib.hid (fun (W : World) (h : Below w0.heap.size w0 W) => (ho1.below hb0).below h)
  have HX2 := Lib.hid (fun (W : World) (h : Below w0.heap.size w0 W) => (hx2.below hb0).below h)
  have HO2 := Lib.hid (fun (W : World) (h : Below w0.heap.size w0 W) => (ho2.below hb0).below h)
  have HB1 := Lib.hid (fun (W : World) (h : Below w0.heap.size w0 W) => hB1.on9 h)
  have HB2 := Lib.hid (fun (W : World) (h : Below w0.heap.size w0 W) => hB2.on9 h)
  have hbc := Below.refl w0.heap.size w0
  obtain ⟨k0, k1, k2, k3, _⟩ := hB1.cells
  rw [HW0.out] at k0 k1 k2 k3
  clear hw0 hB1 hB2 hB1' hB2' hb0' hAT hx1 ho1 hx2 ho2
  go_enter Try.func9, Try.ntmps9
  go_wp2_with fail
  rw [← HW0.out]
  refine (rgreat8 _ _ _ _ _ _ _ _ _ _ _ (HX1.out _ hbc) (HO1.out _ hbc)).mono ?_
  rintro e w1 ⟨g1, rfl, a1⟩
  have hbc := bt hbc a1
  clear k0 k1 k2 k3 a1
  cases g1
  · obtain ⟨l0, l1, l2, l3, _⟩ := (HB2.out _ hbc).cells
    go_wp2_with fail
    refine (rgreat8 _ _ _ _ _ _ _ _ _ _ _ (HX2.out _ hbc) (HO2.out _ hbc)).mono ?_
    rintro e w2 ⟨g2, rfl, a2⟩
    have hbc := bt hbc a2
    clear l0 l1 l2 l3 a2
    cases g2
    · obtain ⟨k0, k1, k2, k3, _⟩ := (HB1.out _ hbc).cells
      obtain ⟨l0, l1, l2, l3, _⟩ := (HB2.out _ hbc).cells
      go_wp2_with fail
      refine (rchk2 _ _ _ _ _ _ _ _ _ _ _ _ _ _ _ _ _ _ _ _ _ (HX1.out _ hbc) (HO1.out _ hbc) (HX2.out _ hbc) (HO2.out _ hbc)).mono ?_
      rintro e w3 ⟨rfl, a3⟩
      have hbc := bt hbc a3
      clear k0 k1 k2 k3 l0 l1 l2 l3 a3
      by_cases hc : chk2 i1 st1 nx1 ot1 i2 st2 nx2 ot2 = 0
      · rw [hc]
        obtain ⟨v1, v2, rfl⟩ := chk2_zero hc
        clear hc
        obtain ⟨i', s', n', rfl, rfl, hM⟩ := vld_zero v1
        obtain ⟨i'', s'', n'', e1, rfl, hN⟩ := vld_zero v2
        obtain rfl : i' = i'' := by omega
        have e1 := (HX1.out _ hbc).1
        have e2 := (HO1.out _ hbc).1
        have e3 := hM.nxl
        have e4 := hM.otl
        have e5 := (HX2.out _ hbc).1
        have e6 := (HO2.out _ hbc).1
        have e7 := hN.nxl
        have e8 := hN.otl
        obtain rfl : n = n' := by omega
        obtain rfl : n = m := by omega
        obtain rfl : n2 = n'' := by omega
        obtain rfl : n2 = m2 := by omega
        clear e1 e2 e3 e4 e5 e6 e7 e8 v1 v2
        have HM := Lib.hid hM
        have HN := Lib.hid hN
        have hn := (HX1.out _ hbc).2.1
        clear hM hN
        have hMa := HM.out.mn
        have hMb := HN.out.mn
        obtain ⟨bb, hbb⟩ := bis_bool i' nx1 ot1 s' nx2 ot2 s''
        have hq1 := (mn_eq_iff HM.out HN.out).trans hbb.symm
        have hq2 := (mn_iso HM.out HN.out).trans hbb.symm
        have hq3 := hbb.trans (mn_bis_iff HM.out HN.out).symm
        obtain ⟨N1, hN1⟩ : ∃ N1, N1 = mnN nx1 ot1 i' s' n := ⟨_, rfl⟩
        obtain ⟨O1, hO1⟩ : ∃ O1, O1 = mnO nx1 ot1 i' s' n := ⟨_, rfl⟩
        obtain ⟨L1, hL1⟩ : ∃ L1, L1 = (mnR nx1 ot1 i' s' n).length := ⟨_, rfl⟩
        obtain ⟨N2, hN2⟩ : ∃ N2, N2 = mnN nx2 ot2 i' s'' n2 := ⟨_, rfl⟩
        obtain ⟨O2, hO2⟩ : ∃ O2, O2 = mnO nx2 ot2 i' s'' n2 := ⟨_, rfl⟩
        obtain ⟨L2, hL2⟩ : ∃ L2, L2 = (mnR nx2 ot2 i' s'' n2).length := ⟨_, rfl⟩
        rw [← hN1, ← hO1, ← hL1] at hMa
        rw [← hN2, ← hO2, ← hL2] at hMb
        rw [← hN1, ← hO1, ← hN2, ← hO2] at hq1
        rw [← hN1, ← hO1, ← hL1, ← hN2, ← hO2, ← hL2] at hq2
        rw [← hN1, ← hO1, ← hN2, ← hO2] at hq3
        have HMa := Lib.hid hMa
        have HMb := Lib.hid hMb
        have HQ1 := Lib.hid hq1
        have HQ2 := Lib.hid hq2
        have HQ3 := Lib.hid hq3
        have HBB := Lib.hid hbb
        have HN1 := Lib.hid hN1
        have HO1' := Lib.hid hO1
        have HL1 := Lib.hid hL1
        have HN2 := Lib.hid hN2
        have HO2' := Lib.hid hO2
        have HL2 := Lib.hid hL2
        clear hMa hMb hq1 hq2 hq3 hbb hN1 hO1 hL1 hN2 hO2 hL2
        obtain ⟨k0, k1, k2, k3, _⟩ := (HB1.out _ hbc).cells
        go_wp2_with fail
        refine (pmin_ok _ _ _ _ _ _ _ _ _ _ (HX1.out _ hbc) (HO1.out _ hbc) HM.out).mono ?_
        rintro e w4 ⟨A3, c3, B3, d3, rfl, hO3, hQ3, a4⟩
        rw [← HL1.out, ← HN1.out] at hO3
        rw [← HL1.out, ← HO1'.out] at hQ3
        rw [← HL1.out]
        have x3 := lists_ownedM HMa.out hO3
        have y3 := lists_ownedO HMa.out hQ3
        have hbc := bt hbc a4
        obtain ⟨w5, hw5⟩ : ∃ w5, w5 = w4.alloc (.cells #[.int .i64 i', .int .i64 0, .slice A3 L1 c3, .slice B3 L1 d3] 24) := ⟨_, rfl⟩
        have a5 := alloc_below w4 (.cells #[.int .i64 i', .int .i64 0, .slice A3 L1 c3, .slice B3 L1 d3] 24)
        have Y5 := mealy_box w4 (.int .i64 i') (.int .i64 0) (.slice A3 L1 c3) (.slice B3 L1 d3)
        rw [← hw5] at a5 Y5
        have HW5 := Lib.hid hw5
        have x5 := x3.below a5
        have y5 := y3.below a5
        have hbc := bt hbc a5
        clear hO3 hQ3 x3 y3 a4 a5 hw5 k0 k1 k2 k3
        obtain ⟨l0, l1, l2, l3, _⟩ := (HB2.out _ hbc).cells
        rw [HW5.out] at l0 l1 l2 l3
        go_wp2_with fail
        try rw [← HW5.out]
        refine (pmin_ok _ _ _ _ _ _ _ _ _ _ (HX2.out _ hbc) (HO2.out _ hbc) HN.out).mono ?_
        rintro e w6 ⟨A4, c4, B4, d4, rfl, hO4, hQ4, a6⟩
        rw [← HL2.out, ← HN2.out] at hO4
        rw [← HL2.out, ← HO2'.out] at hQ4
        rw [← HL2.out]
        have x4 := lists_ownedM HMb.out hO4
        have y4 := lists_ownedO HMb.out hQ4
        have hbc := bt hbc a6
        obtain ⟨w7, hw7⟩ : ∃ w7, w7 = w6.alloc (.cells #[.int .i64 i', .int .i64 0, .slice A4 L2 c4, .slice B4 L2 d4] 24) := ⟨_, rfl⟩
        have a7 := alloc_below w6 (.cells #[.int .i64 i', .int .i64 0, .slice A4 L2 c4, .slice B4 L2 d4] 24)
        have Z7 := mealy_box w6 (.int .i64 i') (.int .i64 0) (.slice A4 L2 c4) (.slice B4 L2 d4)
        rw [← hw7] at a7 Z7
        have HW7 := Lib.hid hw7
        have Y7 := Y5.on9 (bt a6 a7)
        have x7 := x5.below (bt a6 a7)
        have y7 := y5.below (bt a6 a7)
        have u7 := x4.below a7
        have v7 := y4.below a7
        have HX3 := Lib.hid (fun (W : World) (h : Below w7.heap.size w7 W) => x7.below h)
        have HO3 := Lib.hid (fun (W : World) (h : Below w7.heap.size w7 W) => y7.below h)
        have HX4 := Lib.hid (fun (W : World) (h : Below w7.heap.size w7 W) => u7.below h)
        have HO4 := Lib.hid (fun (W : World) (h : Below w7.heap.size w7 W) => v7.below h)
        have HB3 := Lib.hid (fun (W : World) (h : Below w7.heap.size w7 W) => Y7.on9 h)
        have HB4 := Lib.hid (fun (W : World) (h : Below w7.heap.size w7 W) => Z7.on9 h)
        have hbc := bt hbc a7
        have hbd := Below.refl w7.heap.size w7
        clear hO4 hQ4 x4 y4 a6 a7 hw7 l0 l1 l2 l3 x5 y5 Y5 x7 y7 u7 v7 Y7 Z7
        obtain ⟨k0, k1, k2, k3, _⟩ := (HB1.out _ hbc).cells
        obtain ⟨l0, l1, l2, l3, _⟩ := (HB2.out _ hbc).cells
        rw [HW7.out] at k0 k1 k2 k3 l0 l1 l2 l3
        have hE1 : eqb (dres i' s' nx1 ot1 i' s'' nx2 ot2) = bb := by
          rw [dres_ok HM.out HN.out]
          show (((0 : Int) == 0) && !(dst nx1 ot1 nx2 ot2 i' n n2 s' s'').isSome) = bb
          rw [dst_val HM.out HN.out HM.out.st HN.out.st HBB.out]
          simp
        have hE2 : (dres i' s' nx1 ot1 i' s'' nx2 ot2).2 = 0 := by rw [dres_ok HM.out HN.out]
        have HE1 := Lib.hid hE1
        have HE2 := Lib.hid hE2
        clear hE1 hE2
        go_wp2_with fail
        try rw [← HW7.out]
        refine (pequ _ _ _ _ _ _ _ _ _ _ _ _ _ _ _ _ _ _ _ _ _ (HX1.out _ hbc) (HO1.out _ hbc) (HX2.out _ hbc) (HO2.out _ hbc)).mono ?_
        rintro e w8 ⟨rfl, a8⟩
        rw [HE1.out, HE2.out]
        have hbc := bt hbc a8
        have hbd := bt hbd a8
        clear k0 k1 k2 k3 l0 l1 l2 l3 a8
        obtain ⟨r0, r1, r2, r3, _⟩ := (HB3.out _ hbd).cells
        obtain ⟨t0, t1, t2, t3, _⟩ := (HB4.out _ hbd).cells
        have hI1 : (ires i' 0 N1 O1 i' 0 N2 O2).1.isSome = bb := by
          have h1 := ires_ok HMa.out HMb.out
          simp only [Int.natCast_zero] at h1
          rw [h1]
          by_cases h2 : isoC i' N1 O1 0 L1 N2 O2 0 L2
          · rw [if_pos h2, HQ2.out.1 h2]; rfl
          · rw [if_neg h2]
            cases hb2 : bb with
            | false => rfl
            | true => exact absurd (HQ2.out.2 hb2) h2
        have hI2 : (ires i' 0 N1 O1 i' 0 N2 O2).2 = 0 := by
          have h1 := ires_ok HMa.out HMb.out
          simp only [Int.natCast_zero] at h1
          rw [h1]
        have HI1 := Lib.hid hI1
        have HI2 := Lib.hid hI2
        clear hI1 hI2
        go_wp2_with fail
        refine (piso _ _ _ _ _ _ _ _ _ _ _ _ _ _ _ _ _ _ _ _ _ (HX3.out _ hbd) (HO3.out _ hbd) (HX4.out _ hbd) (HO4.out _ hbd)).mono ?_
        rintro e w9 ⟨A9, c9, rfl, _, a9⟩
        rw [HI1.out, HI2.out]
        have hbc := bt hbc a9
        have hbd := bt hbd a9
        clear r0 r1 r2 r3 t0 t1 t2 t3 a9
        obtain ⟨k0, k1, k2, k3, _⟩ := (HB1.out _ hbc).cells
        go_wp2_with fail
        refine (pcls_ok _ _ _ _ _ _ _ _ _ _ (HX1.out _ hbc) (HO1.out _ hbc) HM.out).mono ?_
        rintro e w10 ⟨A10, c10, rfl, hO10, a10⟩
        have hI10 := Owned.ints hO10 (by rw [zs_len, pt_len]; exact hn)
        have hbc := bt hbc a10
        have hbd := bt hbd a10
        clear k0 k1 k2 k3 a10 hO10
        obtain ⟨_, _, k2, _⟩ := (HB1.out _ hbc).cells
        obtain ⟨u0', u1'⟩ := HAT.out _ hbc
        have hn1 := HM.out.n1
        obtain ⟨S, hS⟩ : ∃ S : Nat, u0 % (n : Int) = S := ⟨(u0 % (n : Int)).toNat, (Int.toNat_of_nonneg (Int.emod_nonneg _ (by omega))).symm⟩
        obtain ⟨T, hT⟩ : ∃ T : Nat, u1 % (n : Int) = T := ⟨(u1 % (n : Int)).toNat, (Int.toNat_of_nonneg (Int.emod_nonneg _ (by omega))).symm⟩
        have hSn : S < n := by have := Int.emod_lt_of_pos u0 (show (0 : Int) < n by omega); omega
        have hTn : T < n := by have := Int.emod_lt_of_pos u1 (show (0 : Int) < n by omega); omega
        go_wp2
        go_quiet (fail)
        have hbc := below_drewN hbc nq
        have hbd := below_drewN hbd nq
        try rw [hS]
        try rw [hT]
        clear k2 u0' u1' hS hT
        obtain ⟨cc, hcc⟩ := bis_bool i' nx1 ot1 S nx1 ot1 T
        have hq4 := (clq_iff HM.out hSn hTn).trans hcc.symm
        have HCC := Lib.hid hcc
        have HD1 := Lib.hid (show (sres i' s' nx1 ot1 S T).1.isSome = !cc by rw [sres_ok HM.out hSn hTn]; exact dst_val HM.out HM.out hSn hTn hcc)
        have HD2 := Lib.hid (show (sres i' s' nx1 ot1 S T).2 = 0 by rw [sres_ok HM.out hSn hTn])
        obtain ⟨gK, oK, eK, lK, cS⟩ := hI10.at_ hSn
        obtain ⟨_, _, eK2, _, cT⟩ := hI10.at_ hTn
        cases eK
        cases eK2
        rw [zs_at, HM.out.clq_at hSn] at cS
        rw [zs_at, HM.out.clq_at hTn] at cT
        have HK := Lib.hid (fun (W : World) (h : Below w10.heap.size w10 W) => (And.intro ((h.cell (p := ⟨gK, oK + S, none⟩) lK).trans cS) ((h.cell (p := ⟨gK, oK + T, none⟩) lK).trans cT)))
        have hbe := below_drewN (Below.refl w10.heap.size w10) nq
        generalize clq nx1 ot1 i' n S = zS at hq4 HK
        generalize clq nx1 ot1 i' n T = zT at hq4 HK
        have HQ4 := Lib.hid hq4
        clear hI10 cS cT hcc hq4
        obtain ⟨k0, k1, k2, k3, _⟩ := (HB1.out _ hbc).cells
        go_wp2_with fail
        refine (pstates _ _ _ _ _ _ _ _ _ _ S T _ (HX1.out _ hbc) (HO1.out _ hbc)).mono ?_
        rintro e w11 ⟨A11, c11, rfl, _, a11⟩
        rw [HD1.out, HD2.out]
        have hbc := bt hbc a11
        have hbd := bt hbd a11
        have hbe := bt hbe a11
        clear k0 k1 k2 k3 a11
        obtain ⟨_, _, k2, _⟩ := (HB1.out _ hbc).cells
        have c1 : ((n : Int) != (n : Int)) = false := by simp
        have HSB := Lib.hid (show bb = decide (N1 = N2 ∧ O1 = O2) by
          by_cases h : N1 = N2 ∧ O1 = O2
          · rw [decide_eq_true h, HQ1.out.1 h]
          · rw [decide_eq_false h]
            cases hb2 : bb with
            | false => rfl
            | true => exact absurd (HQ1.out.2 hb2) h)
        have hzz : ((zS : Int) != (zT : Int)) = !cc := by
          by_cases h : zS = zT
          · rw [HQ4.out.1 h, h]; simp
          · cases hb2 : cc with
            | false => show _ = true; rw [bne_iff_ne]; omega
            | true => exact absurd (HQ4.out.2 hb2) h
        have HS := Lib.hid (show ∀ W : World, Below w11.heap.size w11 W → W.cell? ⟨w4.heap.size, 0, none⟩ = some (.int .i64 i') ∧ W.cell? ⟨w4.heap.size, 1, none⟩ = some (.int .i64 0) ∧ W.cell? ⟨w4.heap.size, 2, none⟩ = some (.slice A3 L1 c3) ∧ W.cell? ⟨w4.heap.size, 3, none⟩ = some (.slice B3 L1 d3) ∧ W.cell? ⟨w6.heap.size, 0, none⟩ = some (.int .i64 i') ∧ W.cell? ⟨w6.heap.size, 1, none⟩ = some (.int .i64 0) ∧ W.cell? ⟨w6.heap.size, 2, none⟩ = some (.slice A4 L2 c4) ∧ W.cell? ⟨w6.heap.size, 3, none⟩ = some (.slice B4 L2 d4) ∧ W.cell? ⟨gK, oK + S, none⟩ = some (.int .i64 zS) ∧ W.cell? ⟨gK, oK + T, none⟩ = some (.int .i64 zT) from fun W h => by
          obtain ⟨r0, r1, r2, r3, _⟩ := (HB3.out W (bt hbd h)).cells
          obtain ⟨t0, t1, t2, t3, _⟩ := (HB4.out W (bt hbd h)).cells
          obtain ⟨z1, z2⟩ := HK.out W (bt hbe h)
          exact ⟨r0, r1, r2, r3, t0, t1, t2, t3, z1, z2⟩)
        have HXX := Lib.hid (fun (W : World) (h : Below w11.heap.size w11 W) => And.intro (HX3.out W (bt hbd h)) (And.intro (HO3.out W (bt hbd h)) (And.intro (HX4.out W (bt hbd h)) (HO4.out W (bt hbd h)))))
        have hbf : Below w11.heap.size w11 w11.drew := (Below.refl _ w11).drew
        cases bb
        all_goals
          cases cc
          all_goals
            have hz2 := hzz
            simp only [Bool.not_false, Bool.not_true] at hz2
            clear hzz
            go_wp2
            clear k2 c1
            go_region_held3 (fun W => W.cell? ⟨w4.heap.size, 0, none⟩ = some (.int .i64 i') ∧ W.cell? ⟨w4.heap.size, 1, none⟩ = some (.int .i64 0) ∧ W.cell? ⟨w4.heap.size, 2, none⟩ = some (.slice A3 L1 c3) ∧ W.cell? ⟨w4.heap.size, 3, none⟩ = some (.slice B3 L1 d3) ∧ W.cell? ⟨w6.heap.size, 0, none⟩ = some (.int .i64 i') ∧ W.cell? ⟨w6.heap.size, 1, none⟩ = some (.int .i64 0) ∧ W.cell? ⟨w6.heap.size, 2, none⟩ = some (.slice A4 L2 c4) ∧ W.cell? ⟨w6.heap.size, 3, none⟩ = some (.slice B4 L2 d4) ∧ W.cell? ⟨gK, oK + S, none⟩ = some (.int .i64 zS) ∧ W.cell? ⟨gK, oK + T, none⟩ = some (.int .i64 zT)) (first | exact HS.out _ hbf) (first
              | (go_at_call 35; refine (psame i' 0 i' 0 A3 B3 A4 B4 L1 c3 L1 d3 L2 c4 L2 d4 N1 O1 N2 O2 _ _ (HXX.out _ hbf).1 (HXX.out _ hbf).2.1 (HXX.out _ hbf).2.2.1 (HXX.out _ hbf).2.2.2 (HSB.out.trans (by simp))).mono ?_; rintro e w' ⟨rfl, b'⟩; have hbf := bt hbf b')
              | (go_at_call 19; refine (awake9 _).mono ?_; rintro e w' ⟨rfl, b'⟩; have hbf := bt hbf b'))
            go_wp2
            go_ret
            exact ⟨rfl, bt hb0 (bt hbc hbf)⟩
      · have hne : (chk2 i1 st1 nx1 ot1 i2 st2 nx2 ot2 != 0) = true := by simpa using hc
        generalize chk2 i1 st1 nx1 ot1 i2 st2 nx2 ot2 = E at hne ⊢
        clear hc
        go_wp2_with fail
        refine (awake9 _).mono ?_
        rintro e w9 ⟨rfl, a9⟩
        have hbc := bt hbc a9
        go_wp2
        go_ret
        exact ⟨rfl, bt hb0 hbc⟩
    · go_wp2_with fail
      refine (awake9 _).mono ?_
      rintro e w9 ⟨rfl, a9⟩
      have hbc := bt hbc a9
      go_wp2
      go_ret
      exact ⟨rfl, bt hb0 hbc⟩
  · go_wp2_with fail
    refine (awake9 _).mono ?_
    rintro e w9 ⟨rfl, a9⟩
    have hbc := bt hbc a9
    go_wp2
    go_ret
    exact ⟨rfl, bt hb0 hbc⟩
end Go.Proofs.Ytdedgpgdmnfijaa
end
