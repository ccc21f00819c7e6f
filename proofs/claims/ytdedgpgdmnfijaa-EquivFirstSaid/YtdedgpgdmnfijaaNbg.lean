/- Lemmas of the proofs of this seat, of the parts L9g. Conditions: none. -/
import Derived.Test.YtdedgpgdmnfijaaNbo
import Derived.Test.YtdedgpgdmnfijaaNbd
import Derived.Test.YtdedgpgdmnfijaaNbb
import Derived.Deep.RegionHeld3
section
/- The law EquivFirst: the walk. -/
namespace Go.Proofs.Ytdedgpgdmnfijaa
open Go.RowKit

theorem Ints.head9 {w : World} {A : Option Addr} {n : Nat} {xs : List Int} (h : Ints w A n xs) {p : Nat} (hp : p ≤ n) : Ints w A p (xs.take p) :=
  ⟨by rw [List.length_take, h.1]; omega, Nat.le_trans hp h.2.1, fun h0 => by
    obtain ⟨b, off, e, hlt, hc⟩ := h.2.2 (by omega)
    exact ⟨b, off, e, hlt, fun j hj => by rw [hc j (by omega)]; simp [List.getD, hj]⟩⟩
theorem Owned.cap9 {w : World} {base n c : Nat} {A : Option Addr} {xs : List Int} (h : Owned w base (.slice A n c) xs) : n ≤ c := by
  rcases h.2 with ⟨e, h0⟩ | ⟨g, cap, cur, e, _, _, hn, _⟩
  · cases e; omega
  · cases e; exact hn
theorem syms_of {i : Nat} {v : List Int} (h : Wd i v) : Syms v i v.length := fun m hm => by
  have := h (v.getD m 0) (by rw [List.getD_eq_getElem?_getD, List.getElem?_eq_getElem hm]; exact List.getElem_mem hm)
  omega
set_option maxHeartbeats 8000000 in
set_option maxRecDepth 100000 in
theorem first9_walk (i1 st1 i2 st2 : Int) (A B C D : Option Addr) (n c m d n2 c2 m2 d2 : Nat) (nx1 ot1 nx2 ot2 : List (List Int)) (D3 : Option Addr) (n3 e3 : Nat) (us : List Int) (w : World) (hx1 : Lists w A n nx1) (ho1 : Lists w B m ot1) (hx2 : Lists w C n2 nx2) (ho2 : Lists w D m2 ot2) (hD3 : Ints w D3 n3 us) :
    Calls Try.prog 7 #[.agg #[.int .i64 i1, .int .i64 st1, .slice A n c, .slice B m d], .agg #[.int .i64 i2, .int .i64 st2, .slice C n2 c2, .slice D m2 d2], .slice D3 n3 e3] w fun e w' => e = .returned (.bool true) ∧ Below w.heap.size w w' := by
  obtain ⟨hb0, hB1, hB2⟩ := pair_boxes w i1 st1 i2 st2 A B C D n c m d n2 c2 m2 d2
  obtain ⟨w0, hw0⟩ : ∃ w0, w0 = (w.alloc (.cells #[.int .i64 i1, .int .i64 st1, .slice A n c, .slice B m d] 24)).alloc (.cells #[.int .i64 i2, .int .i64 st2, .slice C n2 c2, .slice D m2 d2] 24) := ⟨_, rfl⟩
  rw [← hw0] at hb0 hB1 hB2
  have HW0 := Lib.hid hw0
  have HX1 := Lib.hid (fun (W : World) (h : Below w0.heap.size w0 W) => (hx1.below hb0).below h)
  have HO1 := Lib.hid (fun (W : World) (h : Below w0.heap.size w0 W) => (ho1.below hb0).below h)
  have HX2 := Lib.hid (fun (W : World) (h : Below w0.heap.size w0 W) => (hx2.below hb0).below h)
  have HO2 := Lib.hid (fun (W : World) (h : Below w0.heap.size w0 W) => (ho2.below hb0).below h)
  have HB1 := Lib.hid (fun (W : World) (h : Below w0.heap.size w0 W) => hB1.on9 h)
  have HB2 := Lib.hid (fun (W : World) (h : Below w0.heap.size w0 W) => hB2.on9 h)
  have HU := Lib.hid (fun (W : World) (h : Below w0.heap.size w0 W) => (hD3.below hb0).below h)
  have hbc := Below.refl w0.heap.size w0
  obtain ⟨k0, k1, k2, k3, _⟩ := hB1.cells
  rw [HW0.out] at k0 k1 k2 k3
  clear hw0 hB1 hB2 hx1 ho1 hx2 ho2
  go_enter Try.func7, Try.ntmps7
  go_wp2_with fail
  rw [← HW0.out]
  refine (rgreat9 _ _ _ _ _ _ _ _ _ _ _ (HX1.out _ hbc) (HO1.out _ hbc)).mono ?_
  rintro e w1 ⟨g1, rfl, hg1, a1⟩
  have HGA := Lib.hid hg1
  clear hg1
  have hbc := bt hbc a1
  clear k0 k1 k2 k3 a1
  cases g1
  · obtain ⟨l0, l1, l2, l3, _⟩ := (HB2.out _ hbc).cells
    go_wp2_with fail
    refine (rgreat9 _ _ _ _ _ _ _ _ _ _ _ (HX2.out _ hbc) (HO2.out _ hbc)).mono ?_
    rintro e w2 ⟨g2, rfl, hg2, a2⟩
    have HGB := Lib.hid hg2
    clear hg2
    have hbc := bt hbc a2
    clear l0 l1 l2 l3 a2
    cases g2
    · obtain ⟨k0, k1, k2, k3, _⟩ := (HB1.out _ hbc).cells
      obtain ⟨l0, l1, l2, l3, _⟩ := (HB2.out _ hbc).cells
      go_wp2_with fail
      refine (rchk2 _ _ _ _ _ _ _ _ _ _ _ _ _ _ _ _ _ _ _ _ _ (HX1.out _ hbc) (HO1.out _ hbc) (HX2.out _ hbc) (HO2.out _ hbc)).mono ?_
      rintro e w3 ⟨rfl, a3⟩
      have hbc := bt hbc a3
      clear k0 k1 k2 k3 l0 l1 l2 l3 a3
      by_cases hc : chk2 i1 st1 nx1 ot1 i2 st2 nx2 ot2 = 0
      · rw [hc]
        obtain ⟨v1, v2, rfl⟩ := chk2_zero hc
        clear hc
        obtain ⟨i', s', n', rfl, rfl, hM⟩ := vld_zero v1
        obtain ⟨i'', s'', n'', e1, rfl, hN⟩ := vld_zero v2
        obtain rfl : i' = i'' := by omega
        have e1 := (HX1.out _ hbc).1
        have e2 := (HO1.out _ hbc).1
        have e3 := hM.nxl
        have e4 := hM.otl
        have e5 := (HX2.out _ hbc).1
        have e6 := (HO2.out _ hbc).1
        have e7 := hN.nxl
        have e8 := hN.otl
        obtain rfl : n = n' := by omega
        obtain rfl : n = m := by omega
        obtain rfl : n2 = n'' := by omega
        obtain rfl : n2 = m2 := by omega
        clear e1 e2 e3 e4 e5 e6 e7 e8 v1 v2
        have HM := Lib.hid hM
        have HG1 := Lib.hid (show n ≤ 12 by first | exact HGA.out rfl | exact HGA.out trivial | exact HGA.out)
        have HG2 := Lib.hid (show n2 ≤ 12 by first | exact HGB.out rfl | exact HGB.out trivial | exact HGB.out)
        have HN := Lib.hid hN
        have hn := (HX1.out _ hbc).2.1
        clear hM hN
        have hn12 := HG1.out
        have hm12 := HG2.out
        have hn1 := HM.out.n1
        have hm1 := HN.out.n1
        obtain ⟨k0, k1, k2, k3, _⟩ := (HB1.out _ hbc).cells
        obtain ⟨l0, l1, l2, l3, _⟩ := (HB2.out _ hbc).cells
        obtain ⟨R, hR⟩ : ∃ R, R = dst nx1 ot1 nx2 ot2 i' n n2 s' s'' := ⟨_, rfl⟩
        have HD1 := Lib.hid (show dres i' s' nx1 ot1 i' s'' nx2 ot2 = (R, 0) by rw [dres_ok HM.out HN.out, hR])
        have HD2 := Lib.hid (show dres i' s'' nx2 ot2 i' s' nx1 ot1 = (R, 0) by rw [dres_ok HN.out HM.out, hR, dst_comm HM.out HN.out HM.out.st HN.out.st])
        have HRR := Lib.hid hR
        have HRL := Lib.hid (show (R.getD []).length ≤ 24 by
          cases hr : R with
          | none => exact Nat.zero_le _
          | some v => have := dst_short HM.out HN.out (by omega) HM.out.st HN.out.st (hR.symm.trans hr); show v.length ≤ 24; omega)
        clear hR
        go_wp2_with fail
        refine (pdist _ _ _ _ _ _ _ _ _ _ _ _ _ _ _ _ _ _ _ _ _ (HX1.out _ hbc) (HO1.out _ hbc) (HX2.out _ hbc) (HO2.out _ hbc)).mono ?_
        rintro e w4 ⟨A3, c3, rfl, h3, a4⟩
        rw [HD1.out] at h3 ⊢
        have h3 : Ints w4 A3 (R.getD []).length (R.getD []) := Owned.ints h3 (by have := HRL.out; show (R.getD []).length ≤ _; omega)
        have hbc := bt hbc a4
        clear k0 k1 k2 k3 l0 l1 l2 l3 a4
        obtain ⟨k0, k1, k2, k3, _⟩ := (HB1.out _ hbc).cells
        obtain ⟨l0, l1, l2, l3, _⟩ := (HB2.out _ hbc).cells
        go_wp2_with fail
        refine (pdist _ _ _ _ _ _ _ _ _ _ _ _ _ _ _ _ _ _ _ _ _ (HX2.out _ hbc) (HO2.out _ hbc) (HX1.out _ hbc) (HO1.out _ hbc)).mono ?_
        rintro e w5 ⟨A4, c4, rfl, h4, a5⟩
        rw [HD2.out] at h4 ⊢
        have h4 : Ints w5 A4 (R.getD []).length (R.getD []) := Owned.ints h4 (by have := HRL.out; show (R.getD []).length ≤ _; omega)
        have h3 := h3.below a5
        have hbc := bt hbc a5
        clear k0 k1 k2 k3 l0 l1 l2 l3 a5
        have t2 : (R.isSome != R.isSome) = false := by simp
        go_wp2_with fail
        refine (requal _ _ _ _ _ _ (R.getD []) (R.getD []) true _ h4 h3 (by simp)).mono ?_
        rintro e w6 ⟨rfl, hq⟩
        have hbc := bt hbc (rd_below hq)
        have h3 := h3.below (rd_below hq)
        clear hq h4
        have HF1 := Lib.hid (show ∀ us : List Int, (frm i' s' nx1 ot1 s' us).2.2 = chk us i' ∧ (frm i' s'' nx2 ot2 s'' us).2.2 = chk us i' ∧ (chk us i' = 0 → (frm i' s' nx1 ot1 s' us).1 = runO nx1 ot1 s' us ∧ (frm i' s'' nx2 ot2 s'' us).1 = runO nx2 ot2 s'' us ∧ Wd i' us) from fun us => by
          by_cases hc : chk us i' = 0
          · have e1 := HM.out.frm HM.out.st hc
            have e2 := HN.out.frm HN.out.st hc
            obtain ⟨_, _, _, c4⟩ := chk_zero hc
            rw [e1, e2]
            exact ⟨hc.symm, hc.symm, fun _ => ⟨rfl, rfl, Syms.mem c4⟩⟩
          · have e1 := HM.out.nxl
            have e2 := HN.out.nxl
            have e3 := HM.out.st
            have e4 := HN.out.st
            rw [frm_word HM.out.vld (by rw [e1]; omega) hc, frm_word HN.out.vld (by rw [e2]; omega) hc]
            exact ⟨rfl, rfl, fun h => absurd h hc⟩)
        obtain ⟨k0, k1, k2, k3, _⟩ := (HB1.out _ hbc).cells
        go_wp2_with fail
        refine (prunw _ _ _ _ _ _ _ _ _ _ _ _ _ us _ (HX1.out _ hbc) (HO1.out _ hbc) (HU.out _ hbc)).mono ?_
        rintro e w7 ⟨A7, c7, rfl, h7, a7⟩
        have h7 := Owned.ints h7 (by have := frm_len (i := i') (st := s') (nx := nx1) (ot := ot1) (s := s') (xs := us); omega)
        have h3 := h3.below a7
        have hbc := bt hbc a7
        clear k0 k1 k2 k3 a7
        obtain ⟨l0, l1, l2, l3, _⟩ := (HB2.out _ hbc).cells
        go_wp2_with fail
        refine (prunw _ _ _ _ _ _ _ _ _ _ _ _ _ us _ (HX2.out _ hbc) (HO2.out _ hbc) (HU.out _ hbc)).mono ?_
        rintro e w8 ⟨A8, c8, rfl, h8, a8⟩
        have h8 := Owned.ints h8 (by have := frm_len (i := i') (st := s'') (nx := nx2) (ot := ot2) (s := s'') (xs := us); omega)
        have h3 := h3.below a8
        have h7 := h7.below a8
        have hbc := bt hbc a8
        clear l0 l1 l2 l3 a8
        obtain ⟨P1, hP1⟩ : ∃ P1, P1 = (frm i' s' nx1 ot1 s' us).1 := ⟨_, rfl⟩
        obtain ⟨P2, hP2⟩ : ∃ P2, P2 = (frm i' s'' nx2 ot2 s'' us).1 := ⟨_, rfl⟩
        rw [← hP1] at h7 ⊢
        rw [← hP2] at h8 ⊢
        rw [(HF1.out us).1, (HF1.out us).2.1]
        have HPP := Lib.hid (show chk us i' = 0 → (R = none ∨ SL us (R.getD [])) → P1 = P2 from fun hc hor => by
          obtain ⟨f1, f2, f3⟩ := (HF1.out us).2.2 hc
          rw [hP1, hP2, f1, f2]
          rcases hor with h | h
          · exact (dst_none HM.out HN.out HM.out.st HN.out.st).1 (HRR.out.symm.trans h) us f3
          · cases hr : R with
            | none => exact (dst_none HM.out HN.out HM.out.st HN.out.st).1 (HRR.out.symm.trans hr) us f3
            | some v => rw [hr] at h; exact dst_first (HRR.out.symm.trans hr) us f3 h)
        clear hP1 hP2
        have t3 : (chk us i' != chk us i') = false := by simp
        cases R with
        | none =>
          by_cases hc : chk us i' = 0
          · have hPE := HPP.out hc (.inl rfl)
            subst hPE
            rw [hc]
            have t4 : ((0 : Int) != 0) = false := by simp
            clear hc t3
            go_wp2_with fail
            refine (requal _ _ _ _ _ _ P1 P1 true _ h7 h8 (by simp)).mono ?_
            rintro e w9 ⟨rfl, hq⟩
            have hbc := bt hbc (rd_below hq)
            clear hq h7 h8 h3 HPP
            go_wp2_with fail
            refine (awake9 _).mono ?_
            rintro e w9 ⟨rfl, a9⟩
            have hbc := bt hbc a9
            go_wp2
            go_ret
            exact ⟨rfl, bt hb0 hbc⟩
          · have t4 : (chk us i' == 0) = false := by simpa using hc
            generalize chk us i' = E at t3 t4 ⊢
            clear hc h7 h8 h3 HPP
            go_wp2_with fail
            refine (awake9 _).mono ?_
            rintro e w9 ⟨rfl, a9⟩
            have hbc := bt hbc a9
            go_wp2
            go_ret
            exact ⟨rfl, bt hb0 hbc⟩
        | some v =>
          by_cases hc : chk us i' = 0
          · by_cases hl : shlex us v < 0
            · have hPE := HPP.out hc (.inr (shlex_neg hl))
              subst hPE
              rw [hc]
              have t4 : ((0 : Int) != 0) = false := by simp
              clear hc t3
              go_wp2_with fail
              refine (wcompare _ _ _ _ _ _ us v _ (HU.out _ hbc) h3).mono ?_
              rintro e w9 ⟨rfl, hq⟩
              have hbc := bt hbc (rd_below hq)
              have h3 := h3.below (rd_below hq)
              have h7 := h7.below (rd_below hq)
              have h8 := h8.below (rd_below hq)
              have t5 : decide (shlex us v < 0) = true := decide_eq_true hl
              generalize shlex us v = z at t5 ⊢
              clear hq hl
              go_wp2_with fail
              refine (requal _ _ _ _ _ _ P1 P1 true _ h7 h8 (by simp)).mono ?_
              rintro e w10 ⟨rfl, hq⟩
              have hbc := bt hbc (rd_below hq)
              have h3 := h3.below (rd_below hq)
              clear hq h7 h8 HPP t5
              have hv := HRR.out.symm
              have hshort := dst_short HM.out HN.out (by omega) HM.out.st HN.out.st hv
              have hpos := dst_pos hv
              obtain ⟨K, hK⟩ : ∃ K, v.length = K + 1 := ⟨v.length - 1, by omega⟩
              have hi64 := HM.out.i2
              have hi1 := HM.out.i1
              have hcv : chk v i' = 0 := chk_ok (by omega) (by omega) (syms_of (dst_wd hv).1)
              obtain ⟨z0, x, hvw, hx, hww, ho1, ho2⟩ := dst_sound hv
              obtain ⟨f1, f2, _⟩ := (HF1.out v).2.2 hcv
              have q1 : (frm i' s' nx1 ot1 s' v).1 = runO nx1 ot1 s' z0 ++ [oN ot1 (runS nx1 s' z0) x] := by rw [f1, hvw, runO_app]; rfl
              have q2 : (frm i' s'' nx2 ot2 s'' v).1 = runO nx1 ot1 s' z0 ++ [oN ot2 (runS nx2 s'' z0) x] := by rw [f2, hvw, runO_app, ho1]; rfl
              have q3 : (frm i' s' nx1 ot1 s' v).2.2 = 0 := (HF1.out v).1.trans hcv
              have q4 : (frm i' s'' nx2 ot2 s'' v).2.2 = 0 := (HF1.out v).2.1.trans hcv
              have hwl : (runO nx1 ot1 s' z0).length = K := by
                rw [runO_len]
                have := congrArg List.length hvw
                rw [List.length_append] at this
                have : v.length = z0.length + 1 := this
                omega
              generalize runO nx1 ot1 s' z0 = Q0 at q1 q2 hwl
              generalize oN ot1 (runS nx1 s' z0) x = y1 at q1 ho2
              generalize oN ot2 (runS nx2 s'' z0) x = y2 at q2 ho2
              have hl1 : (Q0 ++ [y1]).length = K + 1 := by rw [List.length_append, hwl]; rfl
              have hl2 : (Q0 ++ [y2]).length = K + 1 := by rw [List.length_append, hwl]; rfl
              have HQ1 := Lib.hid q1
              have HQ2 := Lib.hid q2
              have HQ3 := Lib.hid q3
              have HQ4 := Lib.hid q4
              have HL1 := Lib.hid hl1
              have HL2 := Lib.hid hl2
              have HWL := Lib.hid hwl
              have HO2' := Lib.hid ho2
              have h3 : Ints _ A3 v.length v := h3
              clear hv hvw hx hww ho1 ho2 f1 f2 q1 q2 q3 q4 hwl hl1 hl2 hcv HF1 t2 t4 hi64 hi1
              obtain ⟨k0, k1, k2, k3, _⟩ := (HB1.out _ hbc).cells
              go_wp2_with fail
              refine (prunw _ _ _ _ _ _ _ _ _ _ _ _ _ v _ (HX1.out _ hbc) (HO1.out _ hbc) (by rw [hK] at h3; exact h3)).mono ?_
              rintro e w11 ⟨A11, c11, rfl, hO11, a11⟩
              rw [HQ1.out, HL1.out] at hO11
              rw [HQ1.out, HQ3.out, HL1.out]
              have hc11 := hO11.cap9
              have h11 := Owned.ints hO11 (by rw [HL1.out]; omega)
              have h3 := h3.below a11
              have hbc := bt hbc a11
              clear k0 k1 k2 k3 a11 hO11
              obtain ⟨l0, l1, l2, l3, _⟩ := (HB2.out _ hbc).cells
              go_wp2_with fail
              refine (prunw _ _ _ _ _ _ _ _ _ _ _ _ _ v _ (HX2.out _ hbc) (HO2.out _ hbc) (by rw [hK] at h3; exact h3)).mono ?_
              rintro e w12 ⟨A12, c12, rfl, hO12, a12⟩
              rw [HQ2.out, HL2.out] at hO12
              rw [HQ2.out, HQ4.out, HL2.out]
              have hc12 := hO12.cap9
              have h12 := Owned.ints hO12 (by rw [HL2.out]; omega)
              have h11 := h11.below a12
              have hbc := bt hbc a12
              clear l0 l1 l2 l3 a12 hO12 h3
              obtain ⟨gP, oP, eP, lP, vP⟩ := h11.at_ (k := K) (by omega)
              obtain ⟨gQ, oQ, eQ, lQ, vQ⟩ := h12.at_ (k := K) (by omega)
              have hgP : (Q0 ++ [y1]).getD K 0 = y1 := by rw [← HWL.out]; simp
              have hgQ : (Q0 ++ [y2]).getD K 0 = y2 := by rw [← HWL.out]; simp
              rw [hgP] at vP
              rw [hgQ] at vQ
              have htP := h11.head9 (p := K) (by omega)
              have htQ := h12.head9 (p := K) (by omega)
              rw [show (Q0 ++ [y1]).take K = Q0 by rw [← HWL.out]; simp] at htP
              rw [show (Q0 ++ [y2]).take K = Q0 by rw [← HWL.out]; simp] at htQ
              subst eP eQ
              have hne : (y1 != y2) = true := by simpa using HO2'.out
              have HS := Lib.hid (show ∀ W : World, Below w12.heap.size w12 W → W.cell? ⟨w.heap.size, 2, none⟩ = some (.slice A n c) ∧ W.cell? ⟨w.heap.size + 1, 2, none⟩ = some (.slice C n2 c2) ∧ W.cell? ⟨gP, oP + K, none⟩ = some (.int .i64 y1) ∧ W.cell? ⟨gQ, oQ + K, none⟩ = some (.int .i64 y2) from fun W h => by
                obtain ⟨_, _, k2, _⟩ := (HB1.out W (bt hbc h)).cells
                obtain ⟨_, _, l2, _⟩ := (HB2.out W (bt hbc h)).cells
                exact ⟨k2, l2, (h.cell (block_lt vP)).trans vP, (h.cell (block_lt vQ)).trans vQ⟩)
              have HT := Lib.hid (fun (W : World) (h : Below w12.heap.size w12 W) => And.intro (htP.below h) (htQ.below h))
              have hbf : Below w12.heap.size w12 w12.drew := (Below.refl _ w12).drew
              have hKs : K ≤ 23 := by omega
              clear hgP hgQ vP vQ htP htQ h11 h12 lP lQ
              go_wp2
              have jK0 : (0 : Int) ≤ (K : Int) := by omega
              have jK1 : (K : Int) ≤ (c11 : Int) := by omega
              have jK2 : (K : Int) ≤ (c12 : Int) := by omega
              have jK5 : (K : Int) < (K : Int) + 1 := by omega
              have jw1 : IntKind.i64.wrap ((K : Int) + 1) = (K : Int) + 1 := by rw [IntWalk.i64_left, IntWalk.wrap64_in _ (by omega)]
              have jw3 : IntKind.i64.wrap ((n : Int) + (n2 : Int)) = (n : Int) + (n2 : Int) := by rw [IntWalk.i64_left, IntWalk.wrap64_in _ (by omega)]
              have je3 : decide ((K : Int) + 1 < (n : Int) + (n2 : Int)) = true := decide_eq_true (by omega)
              go_region_held3 (fun W => W.cell? ⟨w.heap.size, 2, none⟩ = some (.slice A n c) ∧ W.cell? ⟨w.heap.size + 1, 2, none⟩ = some (.slice C n2 c2) ∧ W.cell? ⟨gP, oP + K, none⟩ = some (.int .i64 y1) ∧ W.cell? ⟨gQ, oQ + K, none⟩ = some (.int .i64 y2)) (first | exact HS.out _ hbf) (first
                | (go_at_call 24; refine (requal _ _ _ _ _ _ Q0 Q0 true _ (HT.out _ hbf).1 (HT.out _ hbf).2 (by simp)).mono ?_; rintro e w' ⟨rfl, hq⟩; have hbf := bt hbf (rd_below hq))
                | (go_at_call 19; refine (awake9 _).mono ?_; rintro e w' ⟨rfl, b'⟩; have hbf := bt hbf b'))
              go_wp2
              go_ret
              exact ⟨rfl, bt hb0 (bt hbc hbf)⟩
            · rw [hc]
              have t4 : ((0 : Int) != 0) = false := by simp
              clear hc t3
              go_wp2_with fail
              refine (wcompare _ _ _ _ _ _ us v _ (HU.out _ hbc) h3).mono ?_
              rintro e w9 ⟨rfl, hq⟩
              have hbc := bt hbc (rd_below hq)
              have h3 := h3.below (rd_below hq)
              have t5 : decide (shlex us v < 0) = false := decide_eq_false (by omega)
              generalize shlex us v = z at t5 ⊢
              clear hq hl h7 h8 HPP
              have hv := HRR.out.symm
              have hshort := dst_short HM.out HN.out (by omega) HM.out.st HN.out.st hv
              have hpos := dst_pos hv
              obtain ⟨K, hK⟩ : ∃ K, v.length = K + 1 := ⟨v.length - 1, by omega⟩
              have hi64 := HM.out.i2
              have hi1 := HM.out.i1
              have hcv : chk v i' = 0 := chk_ok (by omega) (by omega) (syms_of (dst_wd hv).1)
              obtain ⟨z0, x, hvw, hx, hww, ho1, ho2⟩ := dst_sound hv
              obtain ⟨f1, f2, _⟩ := (HF1.out v).2.2 hcv
              have q1 : (frm i' s' nx1 ot1 s' v).1 = runO nx1 ot1 s' z0 ++ [oN ot1 (runS nx1 s' z0) x] := by rw [f1, hvw, runO_app]; rfl
              have q2 : (frm i' s'' nx2 ot2 s'' v).1 = runO nx1 ot1 s' z0 ++ [oN ot2 (runS nx2 s'' z0) x] := by rw [f2, hvw, runO_app, ho1]; rfl
              have q3 : (frm i' s' nx1 ot1 s' v).2.2 = 0 := (HF1.out v).1.trans hcv
              have q4 : (frm i' s'' nx2 ot2 s'' v).2.2 = 0 := (HF1.out v).2.1.trans hcv
              have hwl : (runO nx1 ot1 s' z0).length = K := by
                rw [runO_len]
                have := congrArg List.length hvw
                rw [List.length_append] at this
                have : v.length = z0.length + 1 := this
                omega
              generalize runO nx1 ot1 s' z0 = Q0 at q1 q2 hwl
              generalize oN ot1 (runS nx1 s' z0) x = y1 at q1 ho2
              generalize oN ot2 (runS nx2 s'' z0) x = y2 at q2 ho2
              have hl1 : (Q0 ++ [y1]).length = K + 1 := by rw [List.length_append, hwl]; rfl
              have hl2 : (Q0 ++ [y2]).length = K + 1 := by rw [List.length_append, hwl]; rfl
              have HQ1 := Lib.hid q1
              have HQ2 := Lib.hid q2
              have HQ3 := Lib.hid q3
              have HQ4 := Lib.hid q4
              have HL1 := Lib.hid hl1
              have HL2 := Lib.hid hl2
              have HWL := Lib.hid hwl
              have HO2' := Lib.hid ho2
              have h3 : Ints _ A3 v.length v := h3
              clear hv hvw hx hww ho1 ho2 f1 f2 q1 q2 q3 q4 hwl hl1 hl2 hcv HF1 t2 t4 hi64 hi1
              obtain ⟨k0, k1, k2, k3, _⟩ := (HB1.out _ hbc).cells
              go_wp2_with fail
              refine (prunw _ _ _ _ _ _ _ _ _ _ _ _ _ v _ (HX1.out _ hbc) (HO1.out _ hbc) (by rw [hK] at h3; exact h3)).mono ?_
              rintro e w11 ⟨A11, c11, rfl, hO11, a11⟩
              rw [HQ1.out, HL1.out] at hO11
              rw [HQ1.out, HQ3.out, HL1.out]
              have hc11 := hO11.cap9
              have h11 := Owned.ints hO11 (by rw [HL1.out]; omega)
              have h3 := h3.below a11
              have hbc := bt hbc a11
              clear k0 k1 k2 k3 a11 hO11
              obtain ⟨l0, l1, l2, l3, _⟩ := (HB2.out _ hbc).cells
              go_wp2_with fail
              refine (prunw _ _ _ _ _ _ _ _ _ _ _ _ _ v _ (HX2.out _ hbc) (HO2.out _ hbc) (by rw [hK] at h3; exact h3)).mono ?_
              rintro e w12 ⟨A12, c12, rfl, hO12, a12⟩
              rw [HQ2.out, HL2.out] at hO12
              rw [HQ2.out, HQ4.out, HL2.out]
              have hc12 := hO12.cap9
              have h12 := Owned.ints hO12 (by rw [HL2.out]; omega)
              have h11 := h11.below a12
              have hbc := bt hbc a12
              clear l0 l1 l2 l3 a12 hO12 h3
              obtain ⟨gP, oP, eP, lP, vP⟩ := h11.at_ (k := K) (by omega)
              obtain ⟨gQ, oQ, eQ, lQ, vQ⟩ := h12.at_ (k := K) (by omega)
              have hgP : (Q0 ++ [y1]).getD K 0 = y1 := by rw [← HWL.out]; simp
              have hgQ : (Q0 ++ [y2]).getD K 0 = y2 := by rw [← HWL.out]; simp
              rw [hgP] at vP
              rw [hgQ] at vQ
              have htP := h11.head9 (p := K) (by omega)
              have htQ := h12.head9 (p := K) (by omega)
              rw [show (Q0 ++ [y1]).take K = Q0 by rw [← HWL.out]; simp] at htP
              rw [show (Q0 ++ [y2]).take K = Q0 by rw [← HWL.out]; simp] at htQ
              subst eP eQ
              have hne : (y1 != y2) = true := by simpa using HO2'.out
              have HS := Lib.hid (show ∀ W : World, Below w12.heap.size w12 W → W.cell? ⟨w.heap.size, 2, none⟩ = some (.slice A n c) ∧ W.cell? ⟨w.heap.size + 1, 2, none⟩ = some (.slice C n2 c2) ∧ W.cell? ⟨gP, oP + K, none⟩ = some (.int .i64 y1) ∧ W.cell? ⟨gQ, oQ + K, none⟩ = some (.int .i64 y2) from fun W h => by
                obtain ⟨_, _, k2, _⟩ := (HB1.out W (bt hbc h)).cells
                obtain ⟨_, _, l2, _⟩ := (HB2.out W (bt hbc h)).cells
                exact ⟨k2, l2, (h.cell (block_lt vP)).trans vP, (h.cell (block_lt vQ)).trans vQ⟩)
              have HT := Lib.hid (fun (W : World) (h : Below w12.heap.size w12 W) => And.intro (htP.below h) (htQ.below h))
              have hbf : Below w12.heap.size w12 w12.drew := (Below.refl _ w12).drew
              have hKs : K ≤ 23 := by omega
              clear hgP hgQ vP vQ htP htQ h11 h12 lP lQ
              go_wp2
              have jK0 : (0 : Int) ≤ (K : Int) := by omega
              have jK1 : (K : Int) ≤ (c11 : Int) := by omega
              have jK2 : (K : Int) ≤ (c12 : Int) := by omega
              have jK5 : (K : Int) < (K : Int) + 1 := by omega
              have jw1 : IntKind.i64.wrap ((K : Int) + 1) = (K : Int) + 1 := by rw [IntWalk.i64_left, IntWalk.wrap64_in _ (by omega)]
              have jw3 : IntKind.i64.wrap ((n : Int) + (n2 : Int)) = (n : Int) + (n2 : Int) := by rw [IntWalk.i64_left, IntWalk.wrap64_in _ (by omega)]
              have je3 : decide ((K : Int) + 1 < (n : Int) + (n2 : Int)) = true := decide_eq_true (by omega)
              go_region_held3 (fun W => W.cell? ⟨w.heap.size, 2, none⟩ = some (.slice A n c) ∧ W.cell? ⟨w.heap.size + 1, 2, none⟩ = some (.slice C n2 c2) ∧ W.cell? ⟨gP, oP + K, none⟩ = some (.int .i64 y1) ∧ W.cell? ⟨gQ, oQ + K, none⟩ = some (.int .i64 y2)) (first | exact HS.out _ hbf) (first
                | (go_at_call 24; refine (requal _ _ _ _ _ _ Q0 Q0 true _ (HT.out _ hbf).1 (HT.out _ hbf).2 (by simp)).mono ?_; rintro e w' ⟨rfl, hq⟩; have hbf := bt hbf (rd_below hq))
                | (go_at_call 19; refine (awake9 _).mono ?_; rintro e w' ⟨rfl, b'⟩; have hbf := bt hbf b'))
              go_wp2
              go_ret
              exact ⟨rfl, bt hb0 (bt hbc hbf)⟩
          · have t6 : (chk us i' == 0) = false := by simpa using hc
            have t4 : True := trivial
            generalize chk us i' = E at t3 t6 ⊢
            clear hc h7 h8 HPP
            have hv := HRR.out.symm
            have hshort := dst_short HM.out HN.out (by omega) HM.out.st HN.out.st hv
            have hpos := dst_pos hv
            obtain ⟨K, hK⟩ : ∃ K, v.length = K + 1 := ⟨v.length - 1, by omega⟩
            have hi64 := HM.out.i2
            have hi1 := HM.out.i1
            have hcv : chk v i' = 0 := chk_ok (by omega) (by omega) (syms_of (dst_wd hv).1)
            obtain ⟨z0, x, hvw, hx, hww, ho1, ho2⟩ := dst_sound hv
            obtain ⟨f1, f2, _⟩ := (HF1.out v).2.2 hcv
            have q1 : (frm i' s' nx1 ot1 s' v).1 = runO nx1 ot1 s' z0 ++ [oN ot1 (runS nx1 s' z0) x] := by rw [f1, hvw, runO_app]; rfl
            have q2 : (frm i' s'' nx2 ot2 s'' v).1 = runO nx1 ot1 s' z0 ++ [oN ot2 (runS nx2 s'' z0) x] := by rw [f2, hvw, runO_app, ho1]; rfl
            have q3 : (frm i' s' nx1 ot1 s' v).2.2 = 0 := (HF1.out v).1.trans hcv
            have q4 : (frm i' s'' nx2 ot2 s'' v).2.2 = 0 := (HF1.out v).2.1.trans hcv
            have hwl : (runO nx1 ot1 s' z0).length = K := by
              rw [runO_len]
              have := congrArg List.length hvw
              rw [List.length_append] at this
              have : v.length = z0.length + 1 := this
              omega
            generalize runO nx1 ot1 s' z0 = Q0 at q1 q2 hwl
            generalize oN ot1 (runS nx1 s' z0) x = y1 at q1 ho2
            generalize oN ot2 (runS nx2 s'' z0) x = y2 at q2 ho2
            have hl1 : (Q0 ++ [y1]).length = K + 1 := by rw [List.length_append, hwl]; rfl
            have hl2 : (Q0 ++ [y2]).length = K + 1 := by rw [List.length_append, hwl]; rfl
            have HQ1 := Lib.hid q1
            have HQ2 := Lib.hid q2
            have HQ3 := Lib.hid q3
            have HQ4 := Lib.hid q4
            have HL1 := Lib.hid hl1
            have HL2 := Lib.hid hl2
            have HWL := Lib.hid hwl
            have HO2' := Lib.hid ho2
            have h3 : Ints _ A3 v.length v := h3
            clear hv hvw hx hww ho1 ho2 f1 f2 q1 q2 q3 q4 hwl hl1 hl2 hcv HF1 t2 t4 hi64 hi1
            obtain ⟨k0, k1, k2, k3, _⟩ := (HB1.out _ hbc).cells
            go_wp2_with fail
            refine (prunw _ _ _ _ _ _ _ _ _ _ _ _ _ v _ (HX1.out _ hbc) (HO1.out _ hbc) (by rw [hK] at h3; exact h3)).mono ?_
            rintro e w11 ⟨A11, c11, rfl, hO11, a11⟩
            rw [HQ1.out, HL1.out] at hO11
            rw [HQ1.out, HQ3.out, HL1.out]
            have hc11 := hO11.cap9
            have h11 := Owned.ints hO11 (by rw [HL1.out]; omega)
            have h3 := h3.below a11
            have hbc := bt hbc a11
            clear k0 k1 k2 k3 a11 hO11
            obtain ⟨l0, l1, l2, l3, _⟩ := (HB2.out _ hbc).cells
            go_wp2_with fail
            refine (prunw _ _ _ _ _ _ _ _ _ _ _ _ _ v _ (HX2.out _ hbc) (HO2.out _ hbc) (by rw [hK] at h3; exact h3)).mono ?_
            rintro e w12 ⟨A12, c12, rfl, hO12, a12⟩
            rw [HQ2.out, HL2.out] at hO12
            rw [HQ2.out, HQ4.out, HL2.out]
            have hc12 := hO12.cap9
            have h12 := Owned.ints hO12 (by rw [HL2.out]; omega)
            have h11 := h11.below a12
            have hbc := bt hbc a12
            clear l0 l1 l2 l3 a12 hO12 h3
            obtain ⟨gP, oP, eP, lP, vP⟩ := h11.at_ (k := K) (by omega)
            obtain ⟨gQ, oQ, eQ, lQ, vQ⟩ := h12.at_ (k := K) (by omega)
            have hgP : (Q0 ++ [y1]).getD K 0 = y1 := by rw [← HWL.out]; simp
            have hgQ : (Q0 ++ [y2]).getD K 0 = y2 := by rw [← HWL.out]; simp
            rw [hgP] at vP
            rw [hgQ] at vQ
            have htP := h11.head9 (p := K) (by omega)
            have htQ := h12.head9 (p := K) (by omega)
            rw [show (Q0 ++ [y1]).take K = Q0 by rw [← HWL.out]; simp] at htP
            rw [show (Q0 ++ [y2]).take K = Q0 by rw [← HWL.out]; simp] at htQ
            subst eP eQ
            have hne : (y1 != y2) = true := by simpa using HO2'.out
            have HS := Lib.hid (show ∀ W : World, Below w12.heap.size w12 W → W.cell? ⟨w.heap.size, 2, none⟩ = some (.slice A n c) ∧ W.cell? ⟨w.heap.size + 1, 2, none⟩ = some (.slice C n2 c2) ∧ W.cell? ⟨gP, oP + K, none⟩ = some (.int .i64 y1) ∧ W.cell? ⟨gQ, oQ + K, none⟩ = some (.int .i64 y2) from fun W h => by
              obtain ⟨_, _, k2, _⟩ := (HB1.out W (bt hbc h)).cells
              obtain ⟨_, _, l2, _⟩ := (HB2.out W (bt hbc h)).cells
              exact ⟨k2, l2, (h.cell (block_lt vP)).trans vP, (h.cell (block_lt vQ)).trans vQ⟩)
            have HT := Lib.hid (fun (W : World) (h : Below w12.heap.size w12 W) => And.intro (htP.below h) (htQ.below h))
            have hbf : Below w12.heap.size w12 w12.drew := (Below.refl _ w12).drew
            have hKs : K ≤ 23 := by omega
            clear hgP hgQ vP vQ htP htQ h11 h12 lP lQ
            go_wp2
            have jK0 : (0 : Int) ≤ (K : Int) := by omega
            have jK1 : (K : Int) ≤ (c11 : Int) := by omega
            have jK2 : (K : Int) ≤ (c12 : Int) := by omega
            have jK5 : (K : Int) < (K : Int) + 1 := by omega
            have jw1 : IntKind.i64.wrap ((K : Int) + 1) = (K : Int) + 1 := by rw [IntWalk.i64_left, IntWalk.wrap64_in _ (by omega)]
            have jw3 : IntKind.i64.wrap ((n : Int) + (n2 : Int)) = (n : Int) + (n2 : Int) := by rw [IntWalk.i64_left, IntWalk.wrap64_in _ (by omega)]
            have je3 : decide ((K : Int) + 1 < (n : Int) + (n2 : Int)) = true := decide_eq_true (by omega)
            go_region_held3 (fun W => W.cell? ⟨w.heap.size, 2, none⟩ = some (.slice A n c) ∧ W.cell? ⟨w.heap.size + 1, 2, none⟩ = some (.slice C n2 c2) ∧ W.cell? ⟨gP, oP + K, none⟩ = some (.int .i64 y1) ∧ W.cell? ⟨gQ, oQ + K, none⟩ = some (.int .i64 y2)) (first | exact HS.out _ hbf) (first
              | (go_at_call 24; refine (requal _ _ _ _ _ _ Q0 Q0 true _ (HT.out _ hbf).1 (HT.out _ hbf).2 (by simp)).mono ?_; rintro e w' ⟨rfl, hq⟩; have hbf := bt hbf (rd_below hq))
              | (go_at_call 19; refine (awake9 _).mono ?_; rintro e w' ⟨rfl, b'⟩; have hbf := bt hbf b'))
            go_wp2
            go_ret
            exact ⟨rfl, bt hb0 (bt hbc hbf)⟩
      · have hne : (chk2 i1 st1 nx1 ot1 i2 st2 nx2 ot2 != 0) = true := by simpa using hc
        generalize chk2 i1 st1 nx1 ot1 i2 st2 nx2 ot2 = E at hne ⊢
        clear hc
        go_wp2_with fail
        refine (awake9 _).mono ?_
        rintro e w9 ⟨rfl, a9⟩
        have hbc := bt hbc a9
        go_wp2
        go_ret
        exact ⟨rfl, bt hb0 hbc⟩
    · go_wp2_with fail
      refine (awake9 _).mono ?_
      rintro e w9 ⟨rfl, a9⟩
      have hbc := bt hbc a9
      go_wp2
      go_ret
      exact ⟨rfl, bt hb0 hbc⟩
  · go_wp2_with fail
    refine (awake9 _).mono ?_
    rintro e w9 ⟨rfl, a9⟩
    have hbc := bt hbc a9
    go_wp2
    go_ret
    exact ⟨rfl, bt hb0 hbc⟩
end Go.Proofs.Ytdedgpgdmnfijaa
end
