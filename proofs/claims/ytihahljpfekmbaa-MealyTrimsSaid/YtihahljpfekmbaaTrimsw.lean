/- The walk of MealyTrims. -/
import Derived.Test.YtihahljpfekmbaaGrtm
import Derived.Test.YtihahljpfekmbaaOpenm
namespace Go.Proofs.Ytihahljpfekmbaa
open Go.RowKit

set_option maxHeartbeats 4000000 in
set_option maxRecDepth 100000 in
theorem trims_walk (i0 st0 : Int) (A0 : Option Addr) (n0 c0 : Nat) (B0 : Option Addr) (m0 e0 : Nat) (nx0 ot0 : List (List Int)) (a1 : Option Addr) (len1 cap1 : Nat) (z1 : List Int) (w : World) (wn0 : Lists w A0 n0 nx0) (wo0 : Lists w B0 m0 ot0) (w1 : Ints w a1 len1 z1) :
    Calls Try.prog 13 #[.agg #[.int .i64 i0, .int .i64 st0, .slice A0 n0 c0, .slice B0 m0 e0], .slice a1 len1 cap1] w fun e w' => e = .returned (.bool true) ∧ Below w.heap.size w w' := by
  have hb0 := alloc_below w (.cells #[.int .i64 i0, .int .i64 st0, .slice A0 n0 c0, .slice B0 m0 e0] 65)
  have hbr := Below.refl (w.heap.size + 1) (w.alloc (.cells #[.int .i64 i0, .int .i64 st0, .slice A0 n0 c0, .slice B0 m0 e0] 65))
  have T : Hid (∀ W : World, Below (w.heap.size + 1) (w.alloc (.cells #[.int .i64 i0, .int .i64 st0, .slice A0 n0 c0, .slice B0 m0 e0] 65)) W → Lists W A0 n0 nx0 ∧ Lists W B0 m0 ot0 ∧ Ints W a1 len1 z1 ∧ Below w.heap.size w W) := Lib.hid fun W h =>
    have b := hb0.trans (h.mono (Nat.le_succ _))
    ⟨wn0.below b, wo0.below b, w1.below b, b⟩
  have HLN := Lib.hid wn0.1
  have HLM := Lib.hid wo0.1
  have l1 := Lib.hid w1.1
  clear wn0 wo0 w1
  by_cases hg : 40 < n0 ∨ 40 < m0 ∨ 20 < i0
  · have HG := Lib.hid (decide_eq_true hg).symm
    clear hg
    go_enter Try.func13, Try.ntmps13
    go_wp2_with fail
    refine (rgreatm _ _ _ _ _ _ _ _ _ _ HG.out).mono ?_
    rintro e u1 ⟨rfl, b1⟩
    go_wp2_with fail
    refine (awakem _).mono ?_
    rintro e u2 ⟨rfl, b2⟩
    go_wp2
    go_ret
    exact ⟨rfl, bt (bt hb0 b1) b2⟩
  · have HG := Lib.hid (decide_eq_false hg).symm
    clear hg
    by_cases hv : vld i0 st0 nx0 ot0 = 0
    · obtain ⟨i, st, n, rfl, rfl, hM⟩ := vld_zero hv
      obtain rfl : n0 = n := by rw [← HLN.out]; exact hM.nxl
      obtain rfl : m0 = n0 := by rw [← HLM.out]; exact hM.otl
      have HV := Lib.hid hv
      clear hv
      have hMT := hM.tr
      have hF := tr_frm hM z1
      have HR2 := Lib.hid (tr_rch hM)
      have HN2 := Lib.hid (tr_again hM)
      have HO2 := Lib.hid (tr_again_out ot0 (rch nx0 i st))
      have hk128 : (rch nx0 i st).length ≤ 128 := by have := hM.rch_stt.len; have := hM.n2; omega
      have HTL := Lib.hid (fun W a b => ptrim_law i st m0 A0 B0 c0 e0 nx0 ot0 W a b hM)
      have HRL := Lib.hid (fun W a b => preach_ok i st m0 A0 B0 c0 e0 nx0 ot0 W a b hM)
      rw [HR2.out.symm] at HN2 HO2
      generalize trN nx0 i (rch nx0 i st) = N at hMT hF HR2 HN2 HO2 HTL
      generalize trO ot0 (rch nx0 i st) = O at hMT hF HO2 HTL
      have HLR := Lib.hid (show ∀ W A' c', Owned W 0 (.slice A' (rch nx0 i st).length c') (zs (rch nx0 i st)) → True from fun _ _ _ _ => trivial)
      generalize hk : (rch nx0 i st).length = k at hMT HR2 hk128 HTL HRL
      clear HLR
      have HK := Lib.hid hk
      clear hk
      have HRlen := Lib.hid (show (rch N i 0).length = k by rw [HR2.out, List.length_range])
      have hF1 := Lib.hid hF.1
      have hF2 := Lib.hid hF.2
      clear hF
      go_enter Try.func13, Try.ntmps13
      go_wp2_with fail
      refine (rgreatm _ _ _ _ _ _ _ _ _ _ HG.out).mono ?_
      rintro e u1 ⟨rfl, b1⟩
      have hbr := hbr.trans (b1.mono (bsz hbr))
      obtain ⟨k0, k1, k2, k3⟩ := box4 hbr
      go_wp2_with fail
      refine (HTL.out _ (T.out _ hbr).1 (T.out _ hbr).2.1).mono ?_
      rintro e u2 ⟨A2, c2, B2, d2, rfl, ln, lo, b2⟩
      have hbr := hbr.trans (b2.mono (bsz hbr))
      -- the trimmed machine's block
      have ba := alloc_below u2 (.cells #[.int .i64 i, .int .i64 0, .slice A2 k c2, .slice B2 k d2] 65)
      have hT : Mblk (u2.alloc (.cells #[.int .i64 i, .int .i64 0, .slice A2 k c2, .slice B2 k d2] 65)) u2.heap.size (.int .i64 i) (.int .i64 0) (.slice A2 k c2) (.slice B2 k d2) := heap_alloc_new u2 _
      obtain ⟨gT, hgT⟩ : ∃ g, g = u2.heap.size := ⟨_, rfl⟩
      obtain ⟨u3, hu3⟩ : ∃ u, u = u2.alloc (.cells #[.int .i64 i, .int .i64 0, .slice A2 k c2, .slice B2 k d2] 65) := ⟨_, rfl⟩
      have ln := ln.below ba
      have lo := lo.below ba
      rw [← hu3] at ba hT ln lo
      rw [← hgT] at hT
      have hbr := hbr.trans (ba.mono (bsz hbr))
      have HU := Lib.hid hu3
      have HGT := Lib.hid hgT
      have HT := Lib.hid hT
      have LN := Lib.hid ln
      have LO := Lib.hid lo
      clear hu3 hgT hT ln lo ba b1 b2 k0 k1 k2 k3
      obtain ⟨P, hP⟩ : ∃ P : World → Prop, P = fun W => Below (w.heap.size + 1) (w.alloc (.cells #[.int .i64 i, .int .i64 st, .slice A0 m0 c0, .slice B0 m0 e0] 65)) W ∧ Mblk W gT (.int .i64 i) (.int .i64 0) (.slice A2 k c2) (.slice B2 k d2) ∧ Lists W A2 k N ∧ Lists W B2 k O := ⟨_, rfl⟩
      have PU := Lib.hid (show ∀ W W' : World, P W → Below W.heap.size W W' → P W' from fun W W' h hb => by
        rw [hP] at h ⊢
        exact ⟨h.1.trans (hb.mono (bsz h.1)), h.2.1.upd hb, h.2.2.1.below hb, h.2.2.2.below hb⟩)
      have PG := Lib.hid (show ∀ W : World, P W → (W.cell? ⟨w.heap.size, 0, none⟩ = some (.int .i64 i) ∧ W.cell? ⟨w.heap.size, 1, none⟩ = some (.int .i64 st) ∧ W.cell? ⟨w.heap.size, 2, none⟩ = some (.slice A0 m0 c0) ∧ W.cell? ⟨w.heap.size, 3, none⟩ = some (.slice B0 m0 e0)) ∧
          (W.cell? ⟨gT, 0, none⟩ = some (.int .i64 i) ∧ W.cell? ⟨gT, 1, none⟩ = some (.int .i64 0) ∧ W.cell? ⟨gT, 2, none⟩ = some (.slice A2 k c2) ∧ W.cell? ⟨gT, 3, none⟩ = some (.slice B2 k d2)) from fun W h => by
        rw [hP] at h
        obtain ⟨a, b, c, d, _⟩ := h.2.1.cells
        exact ⟨box4 h.1, a, b, c, d⟩)
      have PL := Lib.hid (show ∀ W : World, P W → Lists W A0 m0 nx0 ∧ Lists W B0 m0 ot0 ∧ Ints W a1 len1 z1 ∧ Lists W A2 k N ∧ Lists W B2 k O ∧ Below w.heap.size w W from fun W h => by
        rw [hP] at h
        obtain ⟨a, b, c, d⟩ := T.out _ h.1
        exact ⟨a, b, c, h.2.2.1, h.2.2.2, d⟩)
      have p3 : P u3 := by rw [hP]; exact ⟨hbr, HT.out, LN.out, LO.out⟩
      clear hP T HT LN LO hbr
      obtain ⟨⟨k0, k1, k2, k3⟩, t0, t1, t2, t3⟩ := PG.out _ p3
      rw [HU.out] at k0 k1 k2 k3
      go_wp2_with fail
      rw [← HU.out]
      rw [← HGT.out]
      refine (pvalid _ _ _ _ _ _ _ _ nx0 ot0 _ (PL.out _ p3).1 (PL.out _ p3).2.1).mono ?_
      rintro e u4 ⟨rfl, b4⟩
      rw [HV.out]
      have p4 := PU.out _ _ p3 b4
      clear k0 k1 k2 k3 t0 t1 t2 t3 p3 b4
      obtain ⟨⟨k0, k1, k2, k3⟩, t0, t1, t2, t3⟩ := PG.out _ p4
      go_wp2_with fail
      refine (ptrim_law i 0 k _ _ _ _ N O _ (PL.out _ p4).2.2.2.1 (PL.out _ p4).2.2.2.2.1 hMT).mono ?_
      rintro e u5 ⟨A5, c5, B5, d5, rfl, ln5, lo5, b5⟩
      rw [HN2.out] at ln5
      rw [HO2.out] at lo5
      rw [HRlen.out] at ln5 lo5 ⊢
      have p5 := PU.out _ _ p4 b5
      clear k0 k1 k2 k3 t0 t1 t2 t3 p4 b5
      have ba := alloc_below u5 (.cells #[.int .i64 i, .int .i64 0, .slice A5 k c5, .slice B5 k d5] 65)
      have hX : Mblk (u5.alloc (.cells #[.int .i64 i, .int .i64 0, .slice A5 k c5, .slice B5 k d5] 65)) u5.heap.size (.int .i64 i) (.int .i64 0) (.slice A5 k c5) (.slice B5 k d5) := heap_alloc_new u5 _
      obtain ⟨gX, hgX⟩ : ∃ g, g = u5.heap.size := ⟨_, rfl⟩
      obtain ⟨u6, hu6⟩ : ∃ u, u = u5.alloc (.cells #[.int .i64 i, .int .i64 0, .slice A5 k c5, .slice B5 k d5] 65) := ⟨_, rfl⟩
      have ln6 := Lib.hid (ln5.below ba)
      have lo6 := Lib.hid (lo5.below ba)
      have p6 := PU.out _ _ p5 ba
      have HX := Lib.hid hX
      rw [← hu6] at ba ln6 lo6 p6 HX
      rw [← hgX] at HX
      have HU := Lib.hid hu6
      have HGX := Lib.hid hgX
      clear hu6 hgX ba ln5 lo5 hX p5
      obtain ⟨⟨k0, k1, k2, k3⟩, t0, t1, t2, t3⟩ := PG.out _ p6
      have k0' := k0; have k1' := k1; have k2' := k2; have k3' := k3
      rw [HU.out] at k0' k1' k2' k3'
      go_wp2_with fail
      rw [← HU.out, ← HGX.out]
      clear k0' k1' k2' k3'
      refine (prun_law _ _ _ _ _ _ _ _ _ _ _ nx0 ot0 z1 _ (PL.out _ p6).1 (PL.out _ p6).2.1 (PL.out _ p6).2.2.1).mono ?_
      rintro e u7 ⟨A7, c7, rfl, h7, b7⟩
      have p7 := PU.out _ _ p6 b7
      clear k0 k1 k2 k3 t0 t1 t2 t3 p6
      obtain ⟨⟨k0, k1, k2, k3⟩, t0, t1, t2, t3⟩ := PG.out _ p7
      go_wp2_with fail
      refine (prun_law _ _ _ _ _ _ _ _ _ _ _ N O z1 _ (PL.out _ p7).2.2.2.1 (PL.out _ p7).2.2.2.2.1 (PL.out _ p7).2.2.1).mono ?_
      rintro e u8 ⟨A8, c8, rfl, h8, b8⟩
      rw [hF1.out] at h8
      rw [hF1.out, hF2.out]
      have p8 := PU.out _ _ p7 b8
      have h7 := h7.below b8
      have H7 := Lib.hid h7
      have H8 := Lib.hid h8
      have LEN := Lib.hid (frm_len (i := i) (st := st) (nx := nx0) (ot := ot0) (s := st) (xs := z1))
      generalize frm i st nx0 ot0 st z1 = F at H7 H8 hF1 hF2 ⊢
      clear k0 k1 k2 k3 t0 t1 t2 t3 p7 h7 h8
      obtain ⟨⟨k0, k1, k2, k3⟩, t0, t1, t2, t3⟩ := PG.out _ p8
      go_wp2_with fail
      refine (preach_ok i 0 k _ _ _ _ N O _ (PL.out _ p8).2.2.2.1 (PL.out _ p8).2.2.2.2.1 hMT).mono ?_
      rintro e u9 ⟨A9, c9, rfl, h9, b9⟩
      have h9 := Owned.ints h9 (by rw [zs_len, HRlen.out]; omega)
      rw [HR2.out, List.length_range] at h9
      rw [HRlen.out]
      have p9 := PU.out _ _ p8 b9
      have bx := bt (bt b7 b8) b9
      have hX9 := HX.out.upd bx
      obtain ⟨x0, x1, x2, x3, _⟩ := hX9.cells
      have H9 := Lib.hid h9
      clear k0 k1 k2 k3 t0 t1 t2 t3 p8 h9
      obtain ⟨⟨k0, k1, k2, k3⟩, t0, t1, t2, t3⟩ := PG.out _ p9
      go_wp2_with fail
      refine (psame _ _ _ _ _ _ _ _ _ _ _ _ _ _ _ _ _ _ _ _ true _ (ln6.out.below bx) (lo6.out.below bx) (PL.out _ p9).2.2.2.1 (PL.out _ p9).2.2.2.2.1 (by simp)).mono ?_
      rintro e u10 ⟨rfl, b10⟩
      have p10 := PU.out _ _ p9 b10
      clear k0 k1 k2 k3 t0 t1 t2 t3 x0 x1 x2 x3 hX9 p9
      obtain ⟨⟨k0, k1, k2, k3⟩, t0, t1, t2, t3⟩ := PG.out _ p10
      go_wp2_with fail
      refine (ints_same _ _ _ _ _ _ _ _ ((H7.out.below b9).below b10) ((H8.out.below b9).below b10)).mono ?_
      rintro e u11 ⟨rfl, b11⟩
      have p11 := PU.out _ _ p10 b11
      clear k0 k1 k2 k3 t0 t1 t2 t3 p10
      obtain ⟨⟨k0, k1, k2, k3⟩, t0, t1, t2, t3⟩ := PG.out _ p11
      have H11 := Lib.hid ((H9.out.below b10).below b11)
      clear H7 H8 H9 b7 b8 b9 b10 b11 bx
      go_wp2
      go_loop [14] (fun jv => ∃ j : Nat, j ≤ k ∧ jv = .int .i64 j) (fun jv => k - (intOf jv).toNat)
      case atStart => exact ⟨0, Nat.zero_le _, rfl⟩
      case round =>
        obtain ⟨j, hj, rfl⟩ := hrel
        by_cases hlt : j < k
        · obtain ⟨b, o, rfl, _, hc⟩ := H11.out.at_ hlt
          rw [zs_at, getD_range hlt] at hc
          go_wp2
          go_round
          case rel => exact ⟨j + 1, by omega, by go_num⟩
          case measure => simp [intOf]; omega
        · obtain rfl : j = k := by omega
          go_wp2_with fail
          refine (HRL.out _ (PL.out _ p11).1 (PL.out _ p11).2.1).mono ?_
          rintro e u12 ⟨A12, c12, rfl, _, b12⟩
          go_wp2_with fail
          refine (awakem _).mono ?_
          rintro e u13 ⟨rfl, b13⟩
          have hfin := Lib.hid (bt (bt (PL.out _ p11).2.2.2.2.2 b12) b13)
          go_wp2
          go_ret
          exact ⟨rfl, hfin.out⟩
    · have hne : (vld i0 st0 nx0 ot0 != 0) = true := by simpa using hv
      go_enter Try.func13, Try.ntmps13
      go_wp2_with fail
      refine (rgreatm _ _ _ _ _ _ _ _ _ _ HG.out).mono ?_
      rintro e u1 ⟨rfl, b1⟩
      have hbr := hbr.trans (b1.mono (bsz hbr))
      obtain ⟨k0, k1, k2, k3⟩ := box4 hbr
      go_wp2_with fail
      refine (ptrim_bad _ _ _ _ _ _ _ _ nx0 ot0 _ (T.out _ hbr).1 (T.out _ hbr).2.1 hv).mono ?_
      rintro e u2 ⟨rfl, b2⟩
      have hbr := hbr.trans (b2.mono (bsz hbr))
      obtain ⟨E, hE⟩ : ∃ E, vld i0 st0 nx0 ot0 = E := ⟨_, rfl⟩
      have HE := Lib.hid hE
      have ba := alloc_below u2 (.cells #[.int .i64 0, .int .i64 0, .slice none 0 0, .slice none 0 0] 65)
      have hT : Mblk (u2.alloc (.cells #[.int .i64 0, .int .i64 0, .slice none 0 0, .slice none 0 0] 65)) u2.heap.size (.int .i64 0) (.int .i64 0) (.slice none 0 0) (.slice none 0 0) := heap_alloc_new u2 _
      obtain ⟨gT, hgT⟩ : ∃ g, g = u2.heap.size := ⟨_, rfl⟩
      obtain ⟨u3, hu3⟩ : ∃ u, u = u2.alloc (.cells #[.int .i64 0, .int .i64 0, .slice none 0 0, .slice none 0 0] 65) := ⟨_, rfl⟩
      rw [← hu3] at ba hT
      rw [← hgT] at hT
      have hbr := hbr.trans (ba.mono (bsz hbr))
      have HU := Lib.hid hu3
      have HGT := Lib.hid hgT
      have HT := Lib.hid hT
      rw [hE] at hne ⊢
      clear hu3 hgT hT ba b1 b2 k0 k1 k2 k3 hE hv
      obtain ⟨k0, k1, k2, k3⟩ := box4 hbr
      rw [HU.out] at k0 k1 k2 k3
      go_wp2_with fail
      rw [← HU.out, ← HGT.out]
      refine (pvalid _ _ _ _ _ _ _ _ nx0 ot0 _ (T.out _ hbr).1 (T.out _ hbr).2.1).mono ?_
      rintro e u4 ⟨rfl, b4⟩
      rw [HE.out]
      have hT4 := HT.out.upd b4
      have hbr := hbr.trans (b4.mono (bsz hbr))
      clear k0 k1 k2 k3
      obtain ⟨k0, k1, k2, k3⟩ := box4 hbr
      go_wp2_with fail
      refine (pvalid _ _ _ _ _ _ _ _ nx0 ot0 _ (T.out _ hbr).1 (T.out _ hbr).2.1).mono ?_
      rintro e u5 ⟨rfl, b5⟩
      rw [HE.out]
      have hT5 := hT4.upd b5
      have hbr := hbr.trans (b5.mono (bsz hbr))
      obtain ⟨t0, t1, t2, t3, _⟩ := hT5.cells
      clear k0 k1 k2 k3
      go_wp2_with fail
      refine (awakem _).mono ?_
      rintro e u6 ⟨rfl, b6⟩
      have hfin := Lib.hid (bt (T.out _ hbr).2.2.2 b6)
      go_wp2
      go_ret
      exact ⟨rfl, hfin.out⟩
end Go.Proofs.Ytihahljpfekmbaa
