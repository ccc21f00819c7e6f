/- Lemmas of the proofs of this seat, of the parts L9f. Conditions: none. -/
import Derived.Test.YtdedgpgdmnfijaaNbd
import Derived.Test.YtdedgpgdmnfijaaNbn
import Derived.Deep.RegionHeld3
section
/- The law EquivMaps: the walk. -/
namespace Go.Proofs.Ytdedgpgdmnfijaa
open Go.RowKit

set_option maxHeartbeats 8000000 in
set_option maxRecDepth 100000 in
theorem maps9_walk (i1 st1 i2 st2 : Int) (A B C D : Option Addr) (n c m d n2 c2 m2 d2 : Nat) (nx1 ot1 nx2 ot2 : List (List Int)) (w : World) (hx1 : Lists w A n nx1) (ho1 : Lists w B m ot1) (hx2 : Lists w C n2 nx2) (ho2 : Lists w D m2 ot2) :
    Calls Try.prog 10 #[.agg #[.int .i64 i1, .int .i64 st1, .slice A n c, .slice B m d], .agg #[.int .i64 i2, .int .i64 st2, .slice C n2 c2, .slice D m2 d2]] w fun e w' => e = .returned (.bool true) ∧ Below w.heap.size w w' := by
  obtain ⟨hb0, hB1, hB2⟩ := pair_boxes w i1 st1 i2 st2 A B C D n c m d n2 c2 m2 d2
  obtain ⟨w0, hw0⟩ : ∃ w0, w0 = (w.alloc (.cells #[.int .i64 i1, .int .i64 st1, .slice A n c, .slice B m d] 24)).alloc (.cells #[.int .i64 i2, .int .i64 st2, .slice C n2 c2, .slice D m2 d2] 24) := ⟨_, rfl⟩
  rw [← hw0] at hb0 hB1 hB2
  have HW0 := Lib.hid hw0
  have HX1 := Lib.hid (fun (W : World) (h : Below w0.heap.size w0 W) => (hx1.below hb0).below h)
  have HO1 := Lib.hid (fun (W : World) (h : Below w0.heap.size w0 W) => (ho1.below hb0).below h)
  have HX2 := Lib.hid (fun (W : World) (h : Below w0.heap.size w0 W) => (hx2.below hb0).below h)
  have HO2 := Lib.hid (fun (W : World) (h : Below w0.heap.size w0 W) => (ho2.below hb0).below h)
  have HB1 := Lib.hid (fun (W : World) (h : Below w0.heap.size w0 W) => hB1.on9 h)
  have HB2 := Lib.hid (fun (W : World) (h : Below w0.heap.size w0 W) => hB2.on9 h)
  have hbc := Below.refl w0.heap.size w0
  obtain ⟨k0, k1, k2, k3, _⟩ := hB1.cells
  rw [HW0.out] at k0 k1 k2 k3
  clear hw0 hB1 hB2 hx1 ho1 hx2 ho2
  go_enter Try.func10, Try.ntmps10
  go_wp2_with fail
  rw [← HW0.out]
  refine (rgreat8 _ _ _ _ _ _ _ _ _ _ _ (HX1.out _ hbc) (HO1.out _ hbc)).mono ?_
  rintro e w1 ⟨g1, rfl, a1⟩
  have hbc := bt hbc a1
  clear k0 k1 k2 k3 a1
  cases g1
  · obtain ⟨l0, l1, l2, l3, _⟩ := (HB2.out _ hbc).cells
    go_wp2_with fail
    refine (rgreat8 _ _ _ _ _ _ _ _ _ _ _ (HX2.out _ hbc) (HO2.out _ hbc)).mono ?_
    rintro e w2 ⟨g2, rfl, a2⟩
    have hbc := bt hbc a2
    clear l0 l1 l2 l3 a2
    cases g2
    · obtain ⟨k0, k1, k2, k3, _⟩ := (HB1.out _ hbc).cells
      obtain ⟨l0, l1, l2, l3, _⟩ := (HB2.out _ hbc).cells
      go_wp2_with fail
      refine (rchk2 _ _ _ _ _ _ _ _ _ _ _ _ _ _ _ _ _ _ _ _ _ (HX1.out _ hbc) (HO1.out _ hbc) (HX2.out _ hbc) (HO2.out _ hbc)).mono ?_
      rintro e w3 ⟨rfl, a3⟩
      have hbc := bt hbc a3
      clear k0 k1 k2 k3 l0 l1 l2 l3 a3
      by_cases hc : chk2 i1 st1 nx1 ot1 i2 st2 nx2 ot2 = 0
      · rw [hc]
        obtain ⟨v1, v2, rfl⟩ := chk2_zero hc
        clear hc
        obtain ⟨i', s', n', rfl, rfl, hM⟩ := vld_zero v1
        obtain ⟨i'', s'', n'', e1, rfl, hN⟩ := vld_zero v2
        obtain rfl : i' = i'' := by omega
        have e1 := (HX1.out _ hbc).1
        have e2 := (HO1.out _ hbc).1
        have e3 := hM.nxl
        have e4 := hM.otl
        have e5 := (HX2.out _ hbc).1
        have e6 := (HO2.out _ hbc).1
        have e7 := hN.nxl
        have e8 := hN.otl
        obtain rfl : n = n' := by omega
        obtain rfl : n = m := by omega
        obtain rfl : n2 = n'' := by omega
        obtain rfl : n2 = m2 := by omega
        clear e1 e2 e3 e4 e5 e6 e7 e8 v1 v2
        have HM := Lib.hid hM
        have HN := Lib.hid hN
        have hn := (HX1.out _ hbc).2.1
        clear hM hN
        obtain ⟨k0, k1, k2, k3, _⟩ := (HB1.out _ hbc).cells
        obtain ⟨l0, l1, l2, l3, _⟩ := (HB2.out _ hbc).cells
        obtain ⟨D0, hD0⟩ : ∃ D0, D0 = ires i' s' nx1 ot1 i' s'' nx2 ot2 := ⟨_, rfl⟩
        have HD0 := Lib.hid hD0
        have HDL := Lib.hid (show (D0.1.getD []).length ≤ 16384 by rw [hD0]; exact ires_len _ _ _ _ _ _ _ _)
        have hD1 := hD0.trans (ires_ok HM.out HN.out)
        have HD1 := Lib.hid hD1
        clear hD0 hD1
        go_wp2_with fail
        refine (piso _ _ _ _ _ _ _ _ _ _ _ _ _ _ _ _ _ _ _ _ _ (HX1.out _ hbc) (HO1.out _ hbc) (HX2.out _ hbc) (HO2.out _ hbc)).mono ?_
        rintro e w4 ⟨A3, c3, rfl, h3, a4⟩
        rw [← HD0.out] at h3 ⊢
        have h3 := Owned.ints h3 (by have := HDL.out; omega)
        have hbc := bt hbc a4
        clear k0 k1 k2 k3 l0 l1 l2 l3 a4
        obtain ⟨k0, k1, k2, k3, _⟩ := (HB1.out _ hbc).cells
        obtain ⟨l0, l1, l2, l3, _⟩ := (HB2.out _ hbc).cells
        obtain ⟨bb, hbb⟩ := bis_bool i' nx1 ot1 s' nx2 ot2 s''
        have HBB := Lib.hid hbb
        have hE1 : eqb (dres i' s' nx1 ot1 i' s'' nx2 ot2) = bb := by
          rw [dres_ok HM.out HN.out]
          show (((0 : Int) == 0) && !(dst nx1 ot1 nx2 ot2 i' n n2 s' s'').isSome) = bb
          rw [dst_val HM.out HN.out HM.out.st HN.out.st hbb]
          simp
        have hE2 : (dres i' s' nx1 ot1 i' s'' nx2 ot2).2 = 0 := by rw [dres_ok HM.out HN.out]
        have HE1 := Lib.hid hE1
        have HE2 := Lib.hid hE2
        clear hE1 hE2 hbb
        go_wp2_with fail
        refine (pequ _ _ _ _ _ _ _ _ _ _ _ _ _ _ _ _ _ _ _ _ _ (HX1.out _ hbc) (HO1.out _ hbc) (HX2.out _ hbc) (HO2.out _ hbc)).mono ?_
        rintro e w5 ⟨rfl, a5⟩
        rw [HE1.out, HE2.out]
        have h3 := h3.below a5
        have hbc := bt hbc a5
        clear k0 k1 k2 k3 l0 l1 l2 l3 a5 HE1 HE2 HD0 HDL
        by_cases hiso : isoC i' nx1 ot1 s' n nx2 ot2 s'' n2
        · have hbt : bb = true := HBB.out.2 (isoC_bis HM.out HN.out hiso)
          have hDD := HD1.out
          rw [if_pos hiso] at hDD
          subst hDD hbt
          obtain ⟨e1, e2, e3⟩ := hiso
          have hS1 := HM.out.rch_stt
          have hS2 := HN.out.rch_stt
          have hz2 : (rch nx2 i' s'').getD 0 0 = s'' := by obtain ⟨t, ht⟩ := rch_pre nx2 i' s''; rw [ht]; rfl
          have hz1 := ixN_st nx1 i' s'
          obtain ⟨R1, hR1⟩ : ∃ R1, R1 = rch nx1 i' s' := ⟨_, rfl⟩
          obtain ⟨R2, hR2⟩ : ∃ R2, R2 = rch nx2 i' s'' := ⟨_, rfl⟩
          rw [← hR1] at hS1 e1 e3 hz1
          rw [← hR2] at hS2 e2 e3 hz2
          rw [← hR1, ← hR2] at h3
          rw [← hR1, ← hR2]
          have HR1 := Lib.hid hR1
          have HR2 := Lib.hid hR2
          have hst : isoV R1 R2 s' = s'' := by unfold isoV; rw [hz1, hz2]
          have hnn : n = n2 := by rw [← e1, ← e2]; exact iso_lens e3.1
          subst hnn
          have hok := (iso_iff (R1 := R1) (R2 := R2) HM.out HN.out hS1 hS2 e1 e2).1 e3
          have HOK := Lib.hid hok
          have HVL := Lib.hid (fun (s : Nat) (hs : s < n) => isoV_lt hS1 hS2 e1 e2 hs)
          have HST := Lib.hid hst
          have HL1 := Lib.hid e1
          have HL2 := Lib.hid e2
          have h3 : Ints w5 A3 n (isoL R1 R2 n) := by have h4 := h3; simp only [Option.getD_some, isoL_len] at h4; exact h4
          have HI := Lib.hid h3
          have hlen : ((some (isoL R1 R2 n)).getD []).length = n := isoL_len _ _ _
          rw [hlen]
          have HS := Lib.hid (show ∀ W : World, Below w5.heap.size w5 W → W.cell? ⟨w.heap.size, 0, none⟩ = some (.int .i64 i') ∧ W.cell? ⟨w.heap.size, 1, none⟩ = some (.int .i64 s') ∧ W.cell? ⟨w.heap.size, 2, none⟩ = some (.slice A n c) ∧ W.cell? ⟨w.heap.size, 3, none⟩ = some (.slice B n d) ∧ W.cell? ⟨w.heap.size + 1, 0, none⟩ = some (.int .i64 i') ∧ W.cell? ⟨w.heap.size + 1, 1, none⟩ = some (.int .i64 s'') ∧ W.cell? ⟨w.heap.size + 1, 2, none⟩ = some (.slice C n c2) ∧ W.cell? ⟨w.heap.size + 1, 3, none⟩ = some (.slice D n d2) from fun W h => by
            obtain ⟨k0, k1, k2, k3, _⟩ := (HB1.out W (bt hbc h)).cells
            obtain ⟨l0, l1, l2, l3, _⟩ := (HB2.out W (bt hbc h)).cells
            exact ⟨k0, k1, k2, k3, l0, l1, l2, l3⟩)
          have HXA := Lib.hid (fun (W : World) (h : Below w5.heap.size w5 W) => HX1.out W (bt hbc h))
          have HOA := Lib.hid (fun (W : World) (h : Below w5.heap.size w5 W) => HO1.out W (bt hbc h))
          have HXB := Lib.hid (fun (W : World) (h : Below w5.heap.size w5 W) => HX2.out W (bt hbc h))
          have HOB := Lib.hid (fun (W : World) (h : Below w5.heap.size w5 W) => HO2.out W (bt hbc h))
          have hbf : Below w5.heap.size w5 w5.drew := (Below.refl _ w5).drew
          obtain ⟨k0, k1, k2, k3, l0, l1, l2, l3⟩ := HS.out w5 (Below.refl _ _)
          have c1 : ((n : Int) != (n : Int)) = false := by simp
          clear h3 hS1 hS2 e1 e2 e3 hz1 hz2 hR1 hR2 hst hok hlen
          go_wp2
          clear k0 k1 k2 k3 l0 l1 l2 l3
          go_region_held3 (fun W => W.cell? ⟨w.heap.size, 0, none⟩ = some (.int .i64 i') ∧ W.cell? ⟨w.heap.size, 1, none⟩ = some (.int .i64 s') ∧ W.cell? ⟨w.heap.size, 2, none⟩ = some (.slice A n c) ∧ W.cell? ⟨w.heap.size, 3, none⟩ = some (.slice B n d) ∧ W.cell? ⟨w.heap.size + 1, 0, none⟩ = some (.int .i64 i') ∧ W.cell? ⟨w.heap.size + 1, 1, none⟩ = some (.int .i64 s'') ∧ W.cell? ⟨w.heap.size + 1, 2, none⟩ = some (.slice C n c2) ∧ W.cell? ⟨w.heap.size + 1, 3, none⟩ = some (.slice D n d2)) (first | exact HS.out _ hbf) ((go_at_call 36; refine (rreach_ok _ _ _ _ _ _ _ _ _ _ (by first | exact HXA.out _ hbf | exact HXB.out _ hbf) (by first | exact HOA.out _ hbf | exact HOB.out _ hbf) (by first | exact HM.out | exact HN.out)).mono ?_; rintro e w' ⟨AR1, cR1, rfl, hOR1, b'⟩; (first | rw [← HR1.out, HL1.out] | rw [← HR2.out, HL2.out]); have hbf := bt hbf b'; clear hOR1))
          obtain ⟨wo, hwo⟩ : ∃ wo, wo = w' := ⟨_, rfl⟩
          rw [← hwo] at hbf ⊢
          clear hwo
          have HIW := Lib.hid (HI.out.below hbf)
          have HCC := Lib.hid (HS.out _ hbf)
          have HXA := Lib.hid (HXA.out _ hbf)
          have HOA := Lib.hid (HOA.out _ hbf)
          have HXB := Lib.hid (HXB.out _ hbf)
          have HOB := Lib.hid (HOB.out _ hbf)
          have hbb := bt hbc hbf
          have hi64 := HM.out.i2
          have hn2 := HM.out.n2
          have hsn := HM.out.st
          have hbw := bt hb0 hbb
          clear hbc hbf hbb
          go_wp2
          go_loopw [92] (fun v wq => ∃ s : Nat, s ≤ n ∧ v = .int .i64 s ∧ ∃ q, wq = wo.drewN q) (fun v _ => n - (intOf v).toNat)
          case atStart => exact ⟨0, Nat.zero_le _, rfl, 0, rfl⟩
          case round =>
            obtain ⟨s, hs, rfl, q, rfl⟩ := hrel
            by_cases hsl : s < n
            · have HSL := Lib.hid hsl
              have hv := HVL.out s hsl
              obtain ⟨g1, o1, e1, m1, v1⟩ := HIW.out.at_ hsl
              subst e1
              rw [isoL_at hsl] at v1
              obtain ⟨k0, k1, k2, k3, l0, l1, l2, l3⟩ := HCC.out
              generalize isoV R1 R2 s = v at v1 hv
              have t1 : decide ((v : Int) < 0) = false := decide_eq_false (by omega)
              have t2 : decide ((n : Int) ≤ (v : Int)) = false := decide_eq_false (by omega)
              clear k0 k1 k2 k3 l0 l1 l3 m1
              go_wp2
              go_quiet (fail)
              go_wp2
              go_roundw
              case rel => exact ⟨s + 1, HSL.out, by go_num, _, rfl⟩
              case measure => have := HSL.out; simp [intOf]; omega
            · obtain rfl : s = n := by omega
              clear hsl
              go_wp2
              go_loopw [113] (fun v wq => ∃ s1 : Nat, s1 ≤ s ∧ v = .int .i64 s1 ∧ ∃ q, wq = wo.drewN q) (fun v _ => s - (intOf v).toNat)
              case atStart => exact ⟨0, Nat.zero_le _, rfl, q, rfl⟩
              case round =>
                obtain ⟨s1, hs1, rfl, q2, rfl⟩ := hrel
                obtain ⟨k0, k1, k2, k3, l0, l1, l2, l3⟩ := HCC.out
                by_cases hsl : s1 < s
                · have HSL := Lib.hid hsl
                  clear k1 k2 k3 l0 l1 l2 l3
                  go_wp2
                  clear k0
                  go_loopw [118] (fun v wq => ∃ x : Nat, x ≤ i' ∧ v = .int .i64 x ∧ ∃ q, wq = wo.drewN q) (fun v _ => i' - (intOf v).toNat)
                  case atStart => exact ⟨0, Nat.zero_le _, rfl, q2, rfl⟩
                  case round =>
                    obtain ⟨x, hx, rfl, q3, rfl⟩ := hrel
                    by_cases hxl : x < i'
                    · have HXL := Lib.hid hxl
                      obtain ⟨k0, k1, k2, k3, l0, l1, l2, l3⟩ := HCC.out
                      have hM := HM.out
                      have hN := HN.out
                      have hv := HVL.out s1 hsl
                      have ht := hM.nN_lt hsl hxl
                      obtain ⟨g1, o1, e1, m1, v1⟩ := HIW.out.at_ hsl
                      subst e1
                      obtain ⟨g2, o2, e2, m2, v2⟩ := HIW.out.at_ ht
                      cases e2
                      rw [isoL_at hsl] at v1
                      rw [isoL_at ht] at v2
                      obtain ⟨gB, oB, B1, nB, cB, eB, hgB, hdB, hrB⟩ := HOA.out.at_ hsl
                      obtain ⟨gD, oD, D1, nD, cD, eD, hgD, hdD, hrD⟩ := HOB.out.at_ hv
                      obtain ⟨gA, oA, A1, nA, cA, eA, hgA, hdA, hrA⟩ := HXA.out.at_ hsl
                      obtain ⟨gC, oC, C1, nC, cC, eC, hgC, hdC, hrC⟩ := HXB.out.at_ hv
                      have m1 := hrA.1
                      have m2 := hrB.1
                      have m3 := hrC.1
                      have m4 := hrD.1
                      have w1 := (hM.row s1 hsl).1
                      have w2 := (hM.row s1 hsl).2.1
                      have w3' := (hN.row _ hv).1
                      have w4 := (hN.row _ hv).2.1
                      obtain rfl : i' = nA := by omega
                      obtain rfl : i' = nB := by omega
                      obtain rfl : i' = nC := by omega
                      obtain rfl : i' = nD := by omega
                      clear m1 m2 m3 m4 w1 w2 w3' w4
                      obtain ⟨hB1, iB1, eB1, lB, vB⟩ := hrB.at_ hxl
                      obtain ⟨hD1, iD1, eD1, lD, vD⟩ := hrD.at_ hxl
                      obtain ⟨hA1, iA1, eA1, lA, vA⟩ := hrA.at_ hxl
                      obtain ⟨hC1, iC1, eC1, lC, vC⟩ := hrC.at_ hxl
                      clear hrA hrB hrC hrD
                      subst eA eB eC eD eA1 eB1 eC1 eD1
                      have rB : (ot1.getD s1 []).getD x 0 = oN ot1 s1 x := rfl
                      have rD : (ot2.getD (isoV R1 R2 s1) []).getD x 0 = oN ot2 (isoV R1 R2 s1) x := rfl
                      have rA : (nx1.getD s1 []).getD x 0 = ((nN nx1 s1 x : Nat) : Int) := hM.nN_eq hsl hxl
                      have rC : (nx2.getD (isoV R1 R2 s1) []).getD x 0 = ((nN nx2 (isoV R1 R2 s1) x : Nat) : Int) := hN.nN_eq hv hxl
                      rw [rB] at vB
                      rw [rD] at vD
                      rw [rA] at vA
                      rw [rC] at vC
                      clear rA rB rC rD hgA hgB hgC hgD lA lB lC lD k1 l0 l1
                      obtain ⟨hd, hd2⟩ := HOK.out s1 hsl x hxl
                      have hc1 : (oN ot1 s1 x != oN ot2 (isoV R1 R2 s1) x) = false := by simpa using hd
                      have hc2 : (((isoV R1 R2 (nN nx1 s1 x) : Nat) : Int) != ((nN nx2 (isoV R1 R2 s1) x : Nat) : Int)) = false := by rw [hd2]; simp
                      generalize oN ot1 s1 x = y1 at vB hc1
                      generalize oN ot2 (isoV R1 R2 s1) x = y2 at vD hc1
                      generalize isoV R1 R2 (nN nx1 s1 x) = z1 at v2 hc2
                      generalize nN nx2 (isoV R1 R2 s1) x = z2 at vC hc2
                      generalize nN nx1 s1 x = t at vA v2 ht
                      generalize isoV R1 R2 s1 = v at v1 hdC hdD hv
                      clear hd hd2 hM hN
                      go_wp2
                      go_quiet (fail)
                      go_wp2
                      go_roundw
                      case rel => exact ⟨x + 1, HXL.out, by go_num, _, rfl⟩
                      case measure => have := HXL.out; simp [intOf]; omega
                    · go_wp2
                      go_roundw
                      case rel => exact ⟨s1 + 1, HSL.out, by go_num, _, rfl⟩
                      case measure => have := HSL.out; simp [intOf]; omega
                · obtain ⟨g1, o1, e1, m1, v1⟩ := HIW.out.at_ hsn
                  subst e1
                  rw [isoL_at hsn, HST.out] at v1
                  have HSE := Lib.hid (show ∀ W : World, Below wo.heap.size wo W → W.cell? ⟨w.heap.size, 1, none⟩ = some (.int .i64 s') ∧ W.cell? ⟨w.heap.size + 1, 1, none⟩ = some (.int .i64 s'') ∧ W.cell? ⟨g1, o1 + s', none⟩ = some (.int .i64 s'') from fun W h =>
                    ⟨(h.cell (block_lt k1)).trans k1, (h.cell (block_lt l1)).trans l1, (h.cell (block_lt v1)).trans v1⟩)
                  have hbg : Below wo.heap.size wo (wo.drewN q2).drew := (below_drewN (Below.refl _ wo) q2).drew
                  have hbg0 : Below wo.heap.size wo (wo.drewN q2) := below_drewN (Below.refl _ wo) q2
                  clear k0 k2 k3 l0 l2 l3 v1 m1 k1 l1
                  go_wp2
                  go_region_held3 (fun W => W.cell? ⟨w.heap.size, 1, none⟩ = some (.int .i64 s') ∧ W.cell? ⟨w.heap.size + 1, 1, none⟩ = some (.int .i64 s'') ∧ W.cell? ⟨g1, o1 + s', none⟩ = some (.int .i64 s'')) (first | exact HSE.out _ hbg | exact HSE.out _ hbg0) ((go_at_call 19; refine (awake9 _).mono ?_; rintro e w' ⟨rfl, b'⟩; have hbg := bt hbg b'))
                  go_wp2
                  go_ret
                  exact ⟨rfl, bt hbw hbg⟩
        · have hDD := HD1.out
          rw [if_neg hiso] at hDD
          subst hDD
          clear hiso
          go_wp2_with fail
          refine (awake9 _).mono ?_
          rintro e w9 ⟨rfl, a9⟩
          have hbc := bt hbc a9
          go_wp2
          go_ret
          exact ⟨rfl, bt hb0 hbc⟩
      · have hne : (chk2 i1 st1 nx1 ot1 i2 st2 nx2 ot2 != 0) = true := by simpa using hc
        generalize chk2 i1 st1 nx1 ot1 i2 st2 nx2 ot2 = E at hne ⊢
        clear hc
        go_wp2_with fail
        refine (awake9 _).mono ?_
        rintro e w9 ⟨rfl, a9⟩
        have hbc := bt hbc a9
        go_wp2
        go_ret
        exact ⟨rfl, bt hb0 hbc⟩
    · go_wp2_with fail
      refine (awake9 _).mono ?_
      rintro e w9 ⟨rfl, a9⟩
      have hbc := bt hbc a9
      go_wp2
      go_ret
      exact ⟨rfl, bt hb0 hbc⟩
  · go_wp2_with fail
    refine (awake9 _).mono ?_
    rintro e w9 ⟨rfl, a9⟩
    have hbc := bt hbc a9
    go_wp2
    go_ret
    exact ⟨rfl, bt hb0 hbc⟩
end Go.Proofs.Ytdedgpgdmnfijaa
end
