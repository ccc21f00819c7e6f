/- The reference: Trim. -/
import Derived.Test.YtihahljpfekmbaaPairi
import Derived.Test.YtihahljpfekmbaaValr
namespace Go.Proofs.Ytihahljpfekmbaa
open Go.RowKit

theorem take_getD_succ {l : List Int} {j : Nat} (h : j < l.length) : l.take j ++ [l.getD j 0] = l.take (j + 1) := by
  rw [List.take_succ_eq_append_getElem h, List.getD_eq_getElem?_getD, List.getElem?_eq_getElem h]; rfl
theorem rtrim_bad (i st : Int) (A B : Option Addr) (n c m d : Nat) (nx ot : List (List Int)) (w : World) (hx : Lists w A n nx) (ho : Lists w B m ot) (hv : ¬ vld i st nx ot = 0) :
    Calls Try.prog 51 #[.agg #[.int .i64 i, .int .i64 st, .slice A n c, .slice B m d]] w fun e w' => e = .returned (.tuple #[.agg #[.int .i64 0, .int .i64 0, .slice none 0 0, .slice none 0 0], .int .i64 (vld i st nx ot)]) ∧ Below w.heap.size w w' := by
  have hb0 := alloc_below w (.cells #[.int .i64 i, .int .i64 st, .slice A n c, .slice B m d] 65)
  have hb1 := bt hb0 (alloc_below (w.alloc (.cells #[.int .i64 i, .int .i64 st, .slice A n c, .slice B m d] 65)) (.cells #[.int .i64 0, .int .i64 0, .slice none 0 0, .slice none 0 0] 65))
  have hne : (vld i st nx ot != 0) = true := by simpa using hv
  go_enter Try.func51, Try.ntmps51
  go_wp2_with fail
  refine (rvalid _ _ _ _ _ _ _ _ _ _ _ (hx.below hb1) (ho.below hb1)).mono ?_
  rintro e w1 ⟨rfl, b1⟩
  have hR : Mblk w1 (w.heap.size + 1) (.int .i64 0) (.int .i64 0) (.slice none 0 0) (.slice none 0 0) := by
    refine Mblk.kept ?_ b1 (by simp)
    have := heap_alloc_new (w.alloc (.cells #[.int .i64 i, .int .i64 st, .slice A n c, .slice B m d] 65)) (.cells #[.int .i64 0, .int .i64 0, .slice none 0 0, .slice none 0 0] 65)
    simpa [Mblk] using this
  obtain ⟨c0, c1, c2, c3, f0, f1, f2, f3⟩ := hR.cells
  have HR := Lib.hid hR
  generalize hE : vld i st nx ot = E at hne hv
  have HE := Lib.hid hE
  clear hv hR hE
  go_wp2
  (try simp only [Exit.inBlock, Exit.then])
  refine bodyPost_ret (results_mealy rfl _ _ (w.heap.size + 1) (.int .i64 0) (.int .i64 0) (.slice none 0 0) (.slice none 0 0) rfl (HR.out.set4 _ _ _ _)) rfl ?_
  have hl : ∀ k, w.heap.size ≤ (⟨w.heap.size + 1, k, none⟩ : Addr).block := fun k => Nat.le_succ _
  exact ⟨by rw [HE.out]; rfl, (((((bt hb1 b1).setCell (hl 0) _).setCell (hl 1) _).setCell (hl 2) _).setCell (hl 3) _)⟩

set_option maxHeartbeats 4000000 in
set_option maxRecDepth 100000 in
theorem rtrim_ok (i st n : Nat) (A B : Option Addr) (c d : Nat) (nx ot : List (List Int)) (w : World) (hx : Lists w A n nx) (ho : Lists w B n ot) (hM : Mok i st n nx ot) :
    Calls Try.prog 51 #[.agg #[.int .i64 i, .int .i64 st, .slice A n c, .slice B n d]] w fun e w' => ∃ A' c' B' d',
      e = .returned (.tuple #[.agg #[.int .i64 i, .int .i64 0, .slice A' (rch nx i st).length c', .slice B' (rch nx i st).length d'], .int .i64 0]) ∧
      OwnedL w' w.heap.size (.slice A' (rch nx i st).length c') (trN nx i (rch nx i st)) ∧ OwnedL w' w.heap.size (.slice B' (rch nx i st).length d') (trO ot (rch nx i st)) ∧ Below w.heap.size w w' := by
  have hn := hx.2.1
  have hn128 := hM.n2
  have HV := Lib.hid hM.vld
  have hlo := Lib.hid ho
  obtain ⟨w0, hw0⟩ : ∃ w0, w0 = (w.alloc (.cells #[.int .i64 i, .int .i64 st, .slice A n c, .slice B n d] 65)).alloc (.cells #[.int .i64 0, .int .i64 0, .slice none 0 0, .slice none 0 0] 65) := ⟨_, rfl⟩
  have hb1 : Below w.heap.size w w0 := by rw [hw0]; exact bt (alloc_below _ _) (alloc_below _ _)
  have hz0 : w0.heap.size = w.heap.size + 2 := by rw [hw0]; simp
  have hB0 : Mblk w0 w.heap.size (.int .i64 i) (.int .i64 st) (.slice A n c) (.slice B n d) := by
    rw [hw0]
    have := (alloc_below (w.alloc (.cells #[.int .i64 i, .int .i64 st, .slice A n c, .slice B n d] 65)) (.cells #[.int .i64 0, .int .i64 0, .slice none 0 0, .slice none 0 0] 65)).block w.heap.size (by simp)
    exact this.trans (heap_alloc_new w _)
  have hR0 : Mblk w0 (w.heap.size + 1) (.int .i64 0) (.int .i64 0) (.slice none 0 0) (.slice none 0 0) := by
    rw [hw0]
    have := heap_alloc_new (w.alloc (.cells #[.int .i64 i, .int .i64 st, .slice A n c, .slice B n d] 65)) (.cells #[.int .i64 0, .int .i64 0, .slice none 0 0, .slice none 0 0] 65)
    simpa [Mblk] using this
  have HW0 := Lib.hid hw0
  obtain ⟨R, hR⟩ : ∃ R, R = rch nx i st := ⟨_, rfl⟩
  have hRs : Stt n R := by rw [hR]; exact hM.rch_stt
  have hRc := Lib.hid (show ∀ s a, s ∈ R → a < i → nN nx s a ∈ R from fun s a hs ha => by rw [hR] at hs ⊢; exact hM.rch_in hs ha)
  have HREACH := Lib.hid (fun W h1 h2 => rreach_ok i st n A B c d nx ot W h1 h2 hM)
  rw [← hR] at HREACH ⊢
  clear hR
  have hRl := hRs.len
  go_enter Try.func51, Try.ntmps51
  go_wp2_with fail
  rw [← HW0.out]
  clear hw0
  refine (rvalid _ _ _ _ _ _ _ _ _ _ _ (hx.below hb1) (ho.below hb1)).mono ?_
  rintro e w1 ⟨rfl, b1⟩
  rw [HV.out]
  obtain ⟨k0, k1, k2, k3, _⟩ := (hB0.kept b1 (by omega)).cells
  go_wp2_with fail
  refine (HREACH.out _ (hx.below (bt hb1 b1)) (ho.below (bt hb1 b1))).mono ?_
  rintro e w2 ⟨A1, c1, rfl, ho1, b2⟩
  have hbr := bt b1 b2
  have hzr := hbr.size
  obtain ⟨k0, k1, k2, k3, _⟩ := (hB0.kept hbr (by omega)).cells
  have hI := Owned.ints ho1 (by rw [zs_len]; omega)
  clear ho1 b1 b2
  obtain ⟨gT, hgT⟩ : ∃ gT, gT = w2.heap.size := ⟨_, rfl⟩
  obtain ⟨wo, rfl⟩ : ∃ wo : World, wo = w2 := ⟨_, rfl⟩
  have HT := Lib.hid hgT
  obtain ⟨w4, hw4⟩ : ∃ w4, w4 = wo.alloc (.cells #[.int .i64 i, .int .i64 0, .slice none 0 0, .slice none 0 0] 65) := ⟨_, rfl⟩
  have hbl4 : Below wo.heap.size wo w4 := by rw [hw4]; exact alloc_below _ _
  have hT4 : Mblk w4 gT (.int .i64 i) (.int .i64 0) (.slice none 0 0) (.slice none 0 0) := by rw [hw4, hgT]; exact heap_alloc_new _ _
  have hIo := Lib.hid hI
  rw [← hgT] at hzr hbl4
  have H4 := Lib.hid hw4
  have HL4 := Lib.hid hbl4
  have hbr0 := hbr
  clear hgT hI hbr hbl4
  go_wp2
  rw [← H4.out]
  clear hw4
  try rw [← HT.out]
  clear k0 k1 k2 k3
  have HT4 := Lib.hid hT4
  have hzr2 : w.heap.size < gT := by omega
  have HBX := Lib.hid (hB0.kept hbr0 (by omega))
  have HRX := Lib.hid (hR0.kept hbr0 (by omega))
  have HBW := Lib.hid (hb1.trans (hbr0.mono (by omega)))
  clear hT4 H4 hbr0
  go_loopw [7] (fun kv wr => ∃ (k : Nat) (AN AO : Option Addr) (cN cO : Nat), k ≤ R.length ∧ kv = .int .i64 k ∧ Below gT wo wr ∧ Mblk wr gT (.int .i64 i) (.int .i64 0) (.slice AN k cN) (.slice AO k cO) ∧
    OwnedL wr gT (.slice AN k cN) ((R.take k).map (trR nx i R)) ∧ OwnedL wr gT (.slice AO k cO) ((R.take k).map fun s => ot.getD s []) ∧ Apart (.slice AN k cN) (.slice AO k cO)) (fun kv _ => R.length - (intOf kv).toNat)
  case atStart => exact ⟨0, none, none, 0, 0, Nat.zero_le _, rfl, HL4.out, HT4.out, OwnedL.nil _ _, OwnedL.nil _ _, Apart.nil _⟩
  case round =>
    obtain ⟨k, AN, AO, cN, cO, hk, rfl, hbr, hT, hLN, hLO, hap⟩ := hrel
    have hzo : gT + 1 ≤ wr.heap.size := heap_lt hT
    obtain ⟨k0, k1, k2, k3, _⟩ := (HBX.out.kept hbr hzr2).cells
    have hbW : Below w.heap.size w wr := HBW.out.trans (hbr.mono (by omega))
    have hI : Ints wr A1 R.length (zs R) := hIo.out.below (by rw [← HT.out]; exact hbr)
    have HTT := Lib.hid hT
    have HLN := Lib.hid hLN
    have HLO := Lib.hid hLO
    have HAP := Lib.hid hap
    have HBR := Lib.hid hbr
    clear hT hLN hLO hap
    by_cases hlt : k < R.length
    · obtain ⟨b1, o1, rfl, hb1', hc1⟩ := hI.at_ hlt
      rw [zs_at] at hc1
      have hsR := getD_mem hlt
      have hs : R.getD k 0 < n := hRs.2 _ hsR
      have hTN := Lib.hid (map_take_succ (trR nx i R) R 0 hlt)
      have hTO := Lib.hid (map_take_succ (fun s => ot.getD s []) R 0 hlt)
      generalize R.getD k 0 = s at hc1 hs hsR hTN hTO
      obtain ⟨g1, p1, A3, n1, c3, rfl, hg1, hd1, hr1⟩ := hx.at_ hs
      obtain ⟨g2, p2, A4, n2, c4, rfl, hg2, hd2, hr2⟩ := hlo.out.at_ hs
      have hi1 := (hM.row s hs).1
      have hi2 := (hM.row s hs).2.1
      have hl1 := hr1.1
      have hl2 := hr2.1
      obtain rfl : n1 = i := by omega
      obtain rfl : n1 = n2 := by omega
      have hi64 := hM.i2
      have HI2 := Lib.hid hi2
      clear hl1 hl2 hi2 hi1
      go_wp2
      obtain ⟨wc, hwc⟩ : ∃ wc : World, wc = wr := ⟨_, rfl⟩
      subst hwc
      clear k0 k1 k2 k3
      go_loopw [8, 9, 10] (fun nv ov av wq => ∃ (a : Nat) (A8 A9 : Option Addr) (c8 c9 : Nat), a ≤ n1 ∧ av = .int .i64 a ∧ nv = .slice A8 a c8 ∧ ov = .slice A9 a c9 ∧ Owned wq wc.heap.size (.slice A8 a c8) ((trR nx n1 R s).take a) ∧ Owned wq wc.heap.size (.slice A9 a c9) ((ot.getD s []).take a) ∧ Apart (.slice A8 a c8) (.slice A9 a c9) ∧ Below wc.heap.size wc wq) (fun _ _ av _ => n1 - (intOf av).toNat)
      case atStart => exact ⟨0, none, none, 0, 0, Nat.zero_le _, rfl, rfl, rfl, Owned.nil _ _, Owned.nil _ _, Apart.nil _, Below.refl _ _⟩
      case round =>
        obtain ⟨a, A8, A9, c8, c9, ha, rfl, rfl, rfl, o8, o9, ap, bq⟩ := hrel
        have hgc : gT ≤ wc.heap.size := by omega
        have hbi : Below gT wo wr := HBR.out.trans (bq.mono hgc)
        obtain ⟨k0, k1, k2, k3, _⟩ := (HBX.out.kept hbi hzr2).cells
        have hbWi : Below w.heap.size w wr := HBW.out.trans (hbi.mono (by omega))
        by_cases hla : a < n1
        · obtain ⟨g3, p3, rfl, hg3, hy1⟩ := hr1.at_ hla
          obtain ⟨g4, p4, rfl, hg4, hy2⟩ := hr2.at_ hla
          rw [hM.nN_eq hs hla] at hy1
          have ht := hM.nN_lt hs hla
          have hmem := hRc.out s a hsR hla
          have hz8 := Lib.hid (show (trR nx n1 R s).take a ++ [((ixN R (nN nx s a) : Nat) : Int)] = (trR nx n1 R s).take (a + 1) by
            rw [List.take_succ_eq_append_getElem (by rw [trR_len]; exact hla)]
            have := trR_at (nx := nx) (R := R) (s := s) hla
            rw [List.getD_eq_getElem?_getD, List.getElem?_eq_getElem (by rw [trR_len]; exact hla)] at this
            congr 2
            exact this.symm)
          have hz9 := Lib.hid (take_getD_succ (l := ot.getD s []) (j := a) (by rw [HI2.out]; exact hla))
          have hl8 : ((trR nx n1 R s).take a).length < 17592186044416 := by rw [List.length_take, trR_len]; omega
          have hl9 : ((ot.getD s []).take a).length < 17592186044416 := by rw [List.length_take, HI2.out]; omega
          generalize nN nx s a = t at hy1 ht hmem hz8
          generalize (ot.getD s []).getD a 0 = ov at hy2 hz9
          have HIX := Lib.hid (rindex (some ⟨b1, o1, none⟩) R.length c1 R t wr.drew (hI.below bq.drew) hmem)
          generalize ixN R t = xv at HIX hz8
          obtain ⟨F, hF⟩ := pair_app o8 o9 ap (xv : Int) bq.size hl8
          rw [hz8.out] at hF
          obtain ⟨G, hG⟩ := skol (fun k => pair_app (hF k).2.2.1 (hF k).2.1 (hF k).2.2.2.1.symm ov (Nat.le_trans bq.size (hF k).2.2.2.2.size) hl9)
          rw [hz9.out] at hG
          have HF := Lib.hid hF
          have HG := Lib.hid hG
          have hcq := (bq.cell (p := ⟨b1, o1 + k, none⟩) hb1').trans hc1
          have tr : ∀ (g o : Nat) (v : Value), g < w.heap.size → w.cell? ⟨g, o, none⟩ = some v → wr.cell? ⟨g, o, none⟩ = some v := fun g o v h h2 => (hbWi.cell (p := ⟨g, o, none⟩) h).trans h2
          have trF : ∀ (g o : Nat) (v : Value), g < wc.heap.size → wr.cell? ⟨g, o, none⟩ = some v → ∀ k, (F k).2.cell? ⟨g, o, none⟩ = some v := fun g o v h h2 k => ((hF k).2.2.2.2.cell (p := ⟨g, o, none⟩) h).trans h2
          have hzw : w.heap.size < wc.heap.size := by omega
          have e1 := tr _ _ _ hg1 hd1
          have e2 := tr _ _ _ hg2 hd2
          have e3 := tr _ _ _ hg3 hy1
          have e4 := tr _ _ _ hg4 hy2
          have f1 := trF _ _ _ (by omega) e2
          have f2 := trF _ _ _ (by omega) e4
          have f3 := trF _ _ _ hb1' hcq
          have f4 := trF _ _ _ hzw k3
          clear tr trF hF hG hd1 hd2 hy1 hy2 k1 hl8 hl9
          go_wp2
          go_region_law (first
            | (refine step_append_run rfl _ _ _ _ rfl _ _ rfl rfl _ _ (HF.out _).1 ?_)
            | (go_simp; go_at_call 85; refine HIX.out.mono ?_; rintro e w' ⟨rfl, qx, rfl⟩))
          all_goals
            go_wp2
            go_region_law (refine step_append_run rfl _ _ _ _ rfl _ _ rfl rfl _ _ (HG.out _ _).1 ?_)
          all_goals
            go_wp2
            go_roundw
            case rel => exact ⟨a + 1, _, _, _, _, by omega, by go_num, rfl, rfl, (HG.out _ _).2.2.1, (HG.out _ _).2.1, (HG.out _ _).2.2.2.1.symm, bq.trans ((HF.out _).2.2.2.2.trans (HG.out _ _).2.2.2.2)⟩
            case measure => simp [intOf]; omega
        · obtain rfl : a = n1 := by omega
          rw [List.take_of_length_le (by rw [trR_len]; exact Nat.le_refl _)] at o8
          rw [List.take_of_length_le (by rw [HI2.out]; exact Nat.le_refl _)] at o9
          have hTq := HTT.out.kept bq (heap_lt HTT.out)
          obtain ⟨c0, c1', c2', c3', f0, f1, f2, f3⟩ := hTq.cells
          have hLq := HLN.out.kept bq
          have hLOq := HLO.out.kept bq
          have o8 := o8.lower (base' := gT) hgc
          have o9 := o9.lower (base' := gT) hgc
          have hzq := bq.size
          have hgq : gT ≤ wr.heap.size := by omega
          obtain ⟨AN2, cN2, w7, hrn, hLN7, b7, hk7, hkb7, hmv7⟩ := run_append_list hLq o8 hgq (by rw [List.length_map, List.length_take]; omega)
          have hkl : ((R.take k).map (trR nx a R)).length = k := by rw [List.length_map, List.length_take]; omega
          rw [hkl] at hrn hLN7 hmv7
          rw [← hTN.out] at hLN7
          have hT7 := hTq.keptT (hk7 _ (by decide))
          obtain ⟨y0, y1, y2, y3, z0, z1, z2, z3⟩ := hT7.cells
          have hLO7 := hLOq.keptB hkb7 HAP.out (hk7 _ (by decide))
          have hAP7 := HAP.out.moved hmv7 hLOq
          have h97 := o9.keptT (hk7 _ (by decide))
          have hb7 : Below gT wo w7 := HBR.out.trans ((bq.mono (by omega)).trans b7)
          have h84 := hb7.setCell (p := ⟨gT, 2, none⟩) (Nat.le_refl _) (.slice AN2 (k + 1) cN2)
          have h81 := hT7.set2 (.slice AN2 (k + 1) cN2)
          have h82 := hLN7.offM (j := 2) hT7 (.slice AN2 (k + 1) cN2)
          have h83 := hLO7.offM (j := 2) hT7 (.slice AN2 (k + 1) cN2)
          have h85 := h97.keptT (KeptT.off hT7 (by decide) (.slice AN2 (k + 1) cN2) (k := 2))
          have hs8 : (w7.setCell ⟨gT, 2, none⟩ (.slice AN2 (k + 1) cN2)).heap.size = w7.heap.size := by simp
          have hg8 : gT ≤ (w7.setCell ⟨gT, 2, none⟩ (.slice AN2 (k + 1) cN2)).heap.size := Nat.le_of_lt (heap_lt h81)
          obtain ⟨AO2, cO2, w9, hrn2, hLO9, b9, hk9, hkb9, hmv9⟩ := run_append_list h83 h85 hg8 (by rw [List.length_map, List.length_take]; omega)
          have hkl2 : ((R.take k).map fun s => ot.getD s []).length = k := by rw [List.length_map, List.length_take]; omega
          rw [hkl2, hs8] at hrn2
          rw [hkl2] at hLO9 hmv9
          rw [← hTO.out] at hLO9
          have hT9 := h81.keptT (hk9 _ (by decide))
          obtain ⟨v0, v1, v2, v3, u0, u1, u2, u3⟩ := hT9.cells
          have hLN9 := h82.keptB hkb9 hAP7.symm (hk9 _ (by decide))
          have hAP9 := (hAP7.symm.moved hmv9 h82).symm
          have hb9 := (h84.trans b9).setCell (p := ⟨gT, 3, none⟩) (Nat.le_refl _) (.slice AO2 (k + 1) cO2)
          have hM9 := hT9.set3 (.slice AO2 (k + 1) cO2)
          have hN9 := hLN9.offM (j := 3) hT9 (.slice AO2 (k + 1) cO2)
          have hO9 := hLO9.offM (j := 3) hT9 (.slice AO2 (k + 1) cO2)
          have HH := Lib.hid (And.intro hb9 (And.intro hM9 (And.intro hN9 (And.intro hO9 hAP9))))
          clear hT7 hLN7 hLO7 hb7 h81 h82 h83 h84 h85 h97 hTq hLq hLOq o8 o9 hk7 hkb7 hmv7 b7 bq hb9 hM9 hN9 hO9 hAP9 hLN9 hLO9 hT9 hk9 hkb9 hmv9 b9 hAP7 hs8 hg8
          go_wp2_with (at_builtin; first | (refine Lib.wpList_append_run _ rfl _ _ _ _ rfl _ _ rfl rfl _ _ hrn ?_) | (refine Lib.wpList_append_run _ rfl _ _ _ _ rfl _ _ rfl rfl _ _ hrn2 ?_))
          go_roundw
          case rel => exact ⟨k + 1, AN2, AO2, cN2, cO2, by omega, by go_num, HH.out.1, HH.out.2.1, HH.out.2.2.1, HH.out.2.2.2.1, HH.out.2.2.2.2⟩
          case measure => simp [intOf]; omega
    · obtain rfl : k = R.length := by omega
      obtain ⟨c0, c1', c2', c3', _⟩ := HTT.out.cells
      have hRr := HRX.out.kept HBR.out (by omega)
      obtain ⟨y0, y1, y2, y3, z0, z1, z2, z3⟩ := hRr.cells
      have hN9 := HLN.out
      have hO9 := HLO.out
      rw [List.take_length] at hN9 hO9
      have hl : ∀ k, w.heap.size ≤ (⟨w.heap.size + 1, k, none⟩ : Addr).block := fun k => Nat.le_succ _
      have hfb := Lib.hid (((((hbW.setCell (hl 0) (.int .i64 i)).setCell (hl 1) (.int .i64 0)).setCell (hl 2) (.slice AN R.length cN)).setCell (hl 3) (.slice AO R.length cO)))
      have hR4 := Lib.hid (hRr.set4 (.int .i64 i) (.int .i64 0) (.slice AN R.length cN) (.slice AO R.length cO))
      have hq1 := hRr
      have hq2 : Mblk (wr.setCell ⟨w.heap.size + 1, 0, none⟩ (.int .i64 i)) (w.heap.size + 1) _ _ _ _ := heap_setCell_same wr _ 0 _ _ _ hq1
      have hq3 : Mblk ((wr.setCell ⟨w.heap.size + 1, 0, none⟩ (.int .i64 i)).setCell ⟨w.heap.size + 1, 1, none⟩ (.int .i64 0)) (w.heap.size + 1) _ _ _ _ := heap_setCell_same _ _ 1 _ _ _ hq2
      have hq4 : Mblk (((wr.setCell ⟨w.heap.size + 1, 0, none⟩ (.int .i64 i)).setCell ⟨w.heap.size + 1, 1, none⟩ (.int .i64 0)).setCell ⟨w.heap.size + 1, 2, none⟩ (.slice AN R.length cN)) (w.heap.size + 1) _ _ _ _ := heap_setCell_same _ _ 2 _ _ _ hq3
      have hN10 := Lib.hid (((((hN9.offM hq1 (.int .i64 i) (j := 0)).offM hq2 (.int .i64 0) (j := 1)).offM hq3 (.slice AN R.length cN) (j := 2)).offM hq4 (.slice AO R.length cO) (j := 3)).lower (base' := w.heap.size) (by omega))
      have hO10 := Lib.hid (((((hO9.offM hq1 (.int .i64 i) (j := 0)).offM hq2 (.int .i64 0) (j := 1)).offM hq3 (.slice AN R.length cN) (j := 2)).offM hq4 (.slice AO R.length cO) (j := 3)).lower (base' := w.heap.size) (by omega))
      clear hRr hq1 hq2 hq3 hq4 hN9 hO9 hl hbW
      go_wp2
      (try simp only [Exit.inBlock, Exit.then])
      refine bodyPost_ret (results_mealy rfl _ _ (w.heap.size + 1) _ _ _ _ rfl hR4.out) rfl ?_
      exact ⟨AN, cN, AO, cO, rfl, hN10.out, hO10.out, hfb.out⟩
end Go.Proofs.Ytihahljpfekmbaa
