/- Lemmas of the proofs of this seat, of the parts Rminw, Rml, Hwrr, Hpos, Hres, Hrck, Hrps, Hrsv, Hrow, Litl. Conditions: none. -/
import Derived.Test.YtogcecfeofbbnaaHf
import Derived.Test.YtogcecfeofbbnaaHe
import Derived.Deep.RegionHeld3
import Derived.Deep.DeepCutAuto
import Derived.Test.YtogcecfeofbbnaaHc
import Derived.Deep.CutRange
import Derived.Test.YtogcecfeofbbnaaHd
import Derived.Test.YtogcecfeofbbnaaHb
import Derived.Test.YtogcecfeofbbnaaHa
import Derived.Lib.SliceRun
import Derived.Maps.AppendAt
section
/- The reference: Min. -/
namespace Go.Proofs.Ytogcecfeofbbnaa
open Go.RowKit

set_option maxHeartbeats 2000000 in
theorem rmin_bad (i st : Int) (A B : Option Addr) (n c m d : Nat) (nx ot : List (List Int)) (w : World) (hx : Lists w A n nx) (ho : Lists w B m ot) (hv : ¬ vld i st nx ot = 0) :
    Calls Try.prog 101 #[.agg #[.int .i64 i, .int .i64 st, .slice A n c, .slice B m d]] w fun e w' => e = .returned (.tuple #[.agg #[.int .i64 0, .int .i64 0, .slice none 0 0, .slice none 0 0], .int .i64 (vld i st nx ot)]) ∧ Below w.heap.size w w' := by
  have hb0 := alloc_below w (.cells #[.int .i64 i, .int .i64 st, .slice A n c, .slice B m d] 24)
  have hb1 := bt hb0 (alloc_below (w.alloc (.cells #[.int .i64 i, .int .i64 st, .slice A n c, .slice B m d] 24)) (.cells #[.int .i64 0, .int .i64 0, .slice none 0 0, .slice none 0 0] 24))
  have hne : (vld i st nx ot != 0) = true := by simpa using hv
  go_enter Try.func101, Try.ntmps101
  go_wp2_with fail
  refine (rcls_bad _ _ _ _ _ _ _ _ _ _ _ (hx.below hb1) (ho.below hb1) hv).mono ?_
  rintro e w1 ⟨rfl, b1⟩
  have hR : Mblk w1 (w.heap.size + 1) (.int .i64 0) (.int .i64 0) (.slice none 0 0) (.slice none 0 0) := by
    refine Mblk.kept ?_ b1 (by simp)
    have := heap_alloc_new (w.alloc (.cells #[.int .i64 i, .int .i64 st, .slice A n c, .slice B m d] 24)) (.cells #[.int .i64 0, .int .i64 0, .slice none 0 0, .slice none 0 0] 24)
    simpa [Mblk] using this
  obtain ⟨c0, c1, c2, c3, f0, f1, f2, f3⟩ := hR.cells
  have HR := Lib.hid hR
  generalize hE : vld i st nx ot = E at hne hv
  have HE := Lib.hid hE
  clear hv hR hE
  go_wp2
  (try simp only [Exit.inBlock, Exit.then])
  refine bodyPost_ret (results_mealy rfl _ _ (w.heap.size + 1) (.int .i64 0) (.int .i64 0) (.slice none 0 0) (.slice none 0 0) rfl (HR.out.set4 _ _ _ _)) rfl ?_
  have hl : ∀ k, w.heap.size ≤ (⟨w.heap.size + 1, k, none⟩ : Addr).block := fun k => Nat.le_succ _
  exact ⟨by rw [HE.out]; rfl, (((((bt hb1 b1).setCell (hl 0) _).setCell (hl 1) _).setCell (hl 2) _).setCell (hl 3) _)⟩

theorem Owned.atBlock {w w' : World} {base g n c : Nat} {xs : List Int} (h : Owned w base (.slice (some ⟨g, 0, none⟩) n c) xs) (hk : w'.heap[g]? = w.heap[g]?) : Owned w' base (.slice (some ⟨g, 0, none⟩) n c) xs := by
  refine ⟨h.1, ?_⟩
  rcases h.2 with e | ⟨g', cap, cur, hv, hbg, hg, r⟩
  · exact .inl e
  · cases hv
    exact .inr ⟨g, _, cur, rfl, hbg, hk.trans hg, r⟩
theorem Owned.lenD {w : World} {base n c : Nat} {A : Option Addr} {xs : List Int} (h : Owned w base (.slice A n c) xs) : n = xs.length := by obtain ⟨A', c', e⟩ := h.form; cases e; rfl

set_option maxHeartbeats 8000000 in
set_option maxRecDepth 100000 in
theorem rmin_ok (i st n : Nat) (A B : Option Addr) (c d : Nat) (nx ot : List (List Int)) (w : World) (hx : Lists w A n nx) (ho : Lists w B n ot) (hM : Mok i st n nx ot) :
    Calls Try.prog 101 #[.agg #[.int .i64 i, .int .i64 st, .slice A n c, .slice B n d]] w fun e w' => ∃ A' c' B' d',
      e = .returned (.tuple #[.agg #[.int .i64 i, .int .i64 0, .slice A' (mnR nx ot i st n).length c', .slice B' (mnR nx ot i st n).length d'], .int .i64 0]) ∧
      OwnedL w' w.heap.size (.slice A' (mnR nx ot i st n).length c') (mnN nx ot i st n) ∧ OwnedL w' w.heap.size (.slice B' (mnR nx ot i st n).length d') (mnO nx ot i st n) ∧ Below w.heap.size w w' := by
  have hn := hx.2.1
  have hn2 := hM.n2
  have hn1 := hM.n1
  have hst := hM.st
  have hi64 := hM.i2
  have hlo := Lib.hid ho
  obtain ⟨w0, hw0⟩ : ∃ w0, w0 = (w.alloc (.cells #[.int .i64 i, .int .i64 st, .slice A n c, .slice B n d] 24)).alloc (.cells #[.int .i64 0, .int .i64 0, .slice none 0 0, .slice none 0 0] 24) := ⟨_, rfl⟩
  have hb1 : Below w.heap.size w w0 := by rw [hw0]; exact bt (alloc_below _ _) (alloc_below _ _)
  have hz0 : w0.heap.size = w.heap.size + 2 := by rw [hw0]; simp
  have hB0 : Mblk w0 w.heap.size (.int .i64 i) (.int .i64 st) (.slice A n c) (.slice B n d) := by
    rw [hw0]
    have := (alloc_below (w.alloc (.cells #[.int .i64 i, .int .i64 st, .slice A n c, .slice B n d] 24)) (.cells #[.int .i64 0, .int .i64 0, .slice none 0 0, .slice none 0 0] 24)).block w.heap.size (by simp)
    exact this.trans (heap_alloc_new w _)
  have hR0 : Mblk w0 (w.heap.size + 1) (.int .i64 0) (.int .i64 0) (.slice none 0 0) (.slice none 0 0) := by
    rw [hw0]
    have := heap_alloc_new (w.alloc (.cells #[.int .i64 i, .int .i64 st, .slice A n c, .slice B n d] 24)) (.cells #[.int .i64 0, .int .i64 0, .slice none 0 0, .slice none 0 0] 24)
    simpa [Mblk] using this
  have HW0 := Lib.hid hw0
  go_enter Try.func101, Try.ntmps101
  go_wp2_with fail
  rw [← HW0.out]
  clear hw0
  refine (rcls_ok _ _ _ _ _ _ _ _ _ _ (hx.below hb1) (ho.below hb1) hM).mono ?_
  rintro e w2 ⟨C, cc, rfl, hO, a2⟩
  have hI := Owned.ints hO (by rw [zs_len, pt_len]; exact hn)
  have HI := Lib.hid hI
  have HB2 := Lib.hid (hB0.kept a2 (by omega))
  have HR2 := Lib.hid (hR0.kept a2 (by omega))
  have hz2 := a2.size
  have hb2 := bt hb1 a2
  clear hO hI hB0 hR0 hb1 a2
  obtain ⟨bo, hbo⟩ : ∃ bo, bo = w2.heap.size := ⟨_, rfl⟩
  have HBO := Lib.hid hbo
  have hbo2 : w.heap.size + 2 ≤ bo := by omega
  obtain ⟨k0, k1, k2, k3, _⟩ := HB2.out.cells
  -- order and number
  obtain ⟨w3, hw3⟩ : ∃ w3, w3 = w2.alloc (.cells #[.int .i64 st] 3) := ⟨_, rfl⟩
  have a3 := alloc_below w2 (.cells #[.int .i64 st] 3)
  have O3 : Owned (w2.alloc (.cells #[.int .i64 st] 3)) bo (.slice (some ⟨w2.heap.size, 0, none⟩) 1 1) [(st : Int)] := Owned.literal w2 bo [(st : Int)] #[.int .i64 st] 1 (by omega) rfl rfl (by simp)
  rw [← hw3] at a3 O3
  have HW3 := Lib.hid hw3
  have hz3 : w3.heap.size = bo + 1 := by rw [hw3, hbo]; simp
  rw [← hbo] at O3 a3
  have HZ3 := Lib.hid hz3
  have kk := (HB2.out.kept a3 (by omega)).cells
  have e2 := kk.2.2.1
  rw [hw3] at e2
  have HO3 := Lib.hid O3
  have HA3 := Lib.hid a3
  clear hw3 hbo hz3 kk O3 a3
  go_wp2_with (refine wpList_make_ints _ rfl _ _ rfl .i64 .i64 n rfl rfl hn ?_; intro w4 ho4 b4)
  rw [← HW3.out] at ho4 b4
  rw [HZ3.out] at ho4 b4
  try rw [← HW3.out]
  try rw [HZ3.out]
  try rw [← HBO.out]
  clear e2 k0 k1 k2 k3
  have HO4 := Lib.hid (show Owned w4 bo (.slice (some ⟨bo, 0, none⟩) 1 1) [(st : Int)] from HO3.out.kept (by rw [HZ3.out]; exact b4))
  have HN4 := Lib.hid ho4
  have hb4 := HA3.out.trans (b4.mono (by omega))
  have HB4 := Lib.hid hb4
  have hz4 := b4.size
  rw [HZ3.out] at hz4
  clear ho4 b4 hb4 HO3 HA3
  go_wp2
  go_loopw [8] (fun v wr => ∃ k : Nat, k ≤ n ∧ v = .int .i64 k ∧ Owned wr (bo + 1) (.slice (some ⟨bo + 1, 0, none⟩) n n) ((List.replicate n (-1 : Int)).take k ++ List.replicate (n - k) 0) ∧ Below (bo + 1) w4 wr) (fun v _ => n - (intOf v).toNat)
  case atStart => exact ⟨0, Nat.zero_le _, rfl, by simpa using HN4.out, Below.refl _ _⟩
  case round =>
    obtain ⟨k, hk, rfl, hN, hbr⟩ := hrel
    by_cases hlt : k < n
    · have hset := mid_set (List.replicate n (-1 : Int)) n k (-1) (by simp) hlt (by simp [hlt])
      have hml := mid_len (List.replicate n (-1 : Int)) n k (by simp) (by omega)
      obtain ⟨bq, oq, eq, _, hcq⟩ := (hN.ints (by rw [hml]; omega)).at_ hlt
      cases eq
      obtain ⟨gq, eg, _, _, hfz⟩ := hN.head (by omega)
      cases eg
      have hf := hfz k
      rw [Nat.zero_add] at hcq
      have hs1 := hN.stored k (-1)
      rw [hset] at hs1
      have HS := Lib.hid (And.intro hs1 (hbr.setCell (p := ⟨bo + 1, k, none⟩) (Nat.le_refl _) (.int .i64 (-1))))
      clear hset hml hN hbr hs1 hfz
      go_wp2
      go_roundw
      case rel => exact ⟨k + 1, by omega, by go_num, HS.out.1, HS.out.2⟩
      case measure => simp [intOf]; omega
    · obtain rfl : n = k := by omega
      rw [List.take_of_length_le (by simp), Nat.sub_self, List.replicate_zero, List.append_nil, ← nbr_nil] at hN
      have hzr := hbr.size
      obtain ⟨q, hq⟩ : ∃ q : Nat → Nat, q = clq nx ot i n := ⟨_, rfl⟩
      have HQ := Lib.hid hq
      have hqs : q st < n := by rw [hq]; exact clq_ltn nx ot i hst
      have hQA := Lib.hid (show ∀ s, s < n → (zs (pt nx ot i n (dep nx ot i n))).getD s 0 = ((q s : Nat) : Int) from fun s hs => by rw [zs_at, hM.clq_at hs, hq])
      have hQL := Lib.hid (show ∀ s, s < n → q s < n from fun s hs => by rw [hq]; exact clq_ltn nx ot i hs)
      clear hq
      have hord : Owned wr bo (.slice (some ⟨bo, 0, none⟩) 1 1) [(st : Int)] := HO4.out.atBlock (hbr.block bo (by omega))
      have hbel : Below bo w2 wr := HB4.out.trans (hbr.mono (by omega))
      have hset := nbr_set (n := n) (c := q st) (L := []) (by simp)
      have hs1 := hN.stored (q st) 0
      have hset : (nbr n []).set (q st) 0 = nbr n [q st] := hset
      rw [hset] at hs1
      obtain ⟨bq, oq, eq, _, hcq⟩ := (hN.ints (by rw [nbr_len]; omega)).at_ hqs
      cases eq
      obtain ⟨gq, eg, _, _, hfz⟩ := hN.head (by omega)
      cases eg
      have hf := hfz (q st)
      rw [Nat.zero_add] at hcq
      obtain ⟨bc, oc, ec, hbc, hcc⟩ := HI.out.at_ hst
      subst ec
      rw [hQA.out st hst] at hcc
      have hcc := (hbel.cell (p := ⟨bc, oc + st, none⟩) (by rw [HBO.out]; exact hbc)).trans hcc
      obtain ⟨k0, k1, k2, k3, _⟩ := (HB2.out.kept hbel (by omega)).cells
      obtain ⟨w5, hw5⟩ : ∃ w5, w5 = wr.setCell ⟨bo + 1, q st, none⟩ (.int .i64 0) := ⟨_, rfl⟩
      have N5 : Owned w5 (bo + 1) (.slice (some ⟨bo + 1, 0, none⟩) n n) (nbr n [q st]) := by rw [hw5]; exact hs1
      have O5 : Owned w5 bo (.slice (some ⟨bo, 0, none⟩) 1 1) [(st : Int)] := by rw [hw5]; exact hord.atBlock (heap_setCell_other wr ⟨bo + 1, q st, none⟩ bo _ (by show bo ≠ bo + 1; omega))
      have B5 : Below bo w2 w5 := by rw [hw5]; exact hbel.setCell (p := ⟨bo + 1, q st, none⟩) (show bo ≤ bo + 1 by omega) _
      have HW5 := Lib.hid hw5
      have hz5 : w5.heap.size = wr.heap.size := by rw [hw5]; simp
      have C5 := (HB2.out.kept B5 (by omega)).cells
      have c50 := C5.1
      rw [hw5] at c50
      obtain ⟨gT, hgT⟩ : ∃ gT, gT = w5.heap.size := ⟨_, rfl⟩
      obtain ⟨w6, hw6⟩ : ∃ w6, w6 = w5.alloc (.cells #[.int .i64 i, .int .i64 0, .slice none 0 0, .slice none 0 0] 24) := ⟨_, rfl⟩
      have a6 := alloc_below w5 (.cells #[.int .i64 i, .int .i64 0, .slice none 0 0, .slice none 0 0] 24)
      have T6 := mealy_box w5 (.int .i64 i) (.int .i64 0) (.slice none 0 0) (.slice none 0 0)
      rw [← hw6] at a6 T6
      rw [← hgT] at T6
      have N6 := N5.kept a6
      have O6 := O5.kept a6
      have B6 : Below bo w2 w6 := B5.trans (a6.mono (by omega))
      have HW6 : Hid (w6 = (wr.setCell ⟨bo + 1, q st, none⟩ (.int .i64 0)).alloc (.cells #[.int .i64 i, .int .i64 0, .slice none 0 0, .slice none 0 0] 24)) := Lib.hid (by rw [hw6, hw5])
      have HN6 := Lib.hid N6
      have HO6 := Lib.hid O6
      have HB6 := Lib.hid B6
      have HT6 := Lib.hid T6
      have hgT2 : bo + 2 ≤ gT := by omega
      have HGT : Hid (gT = wr.heap.size) := Lib.hid (by rw [hgT, hz5])
      clear hN hbr hord hbel hset hs1 hfz hw5 N5 O5 B5 hz5 C5 hgT hw6 a6 T6 N6 O6 B6
      go_wp2
      try rw [← HW6.out]
      try rw [← HGT.out]
      clear k0 k1 k2 k3 hcq hf hcc c50
      have HS0 := Lib.hid (Srch.start hM)
      have HLEN := Lib.hid (fun j l => Srch.len (nx := nx) (ot := ot) (i := i) (st := st) (n := n) (j := j) (l := l))
      go_loopw [6, 10] (fun v6 v10 wr => ∃ (j : Nat) (l : List Nat) (Ao : Option Addr) (co : Nat) (AN : Option Addr) (cN : Nat) (AO : Option Addr) (cO : Nat), v10 = .int .i64 j ∧ v6 = .slice Ao l.length co ∧ Srch nx ot i st n j l ∧
        Owned wr bo (.slice Ao l.length co) (zs l) ∧ Owned wr (bo + 1) (.slice (some ⟨bo + 1, 0, none⟩) n n) (nbr n (l.map (clq nx ot i n))) ∧ (Value.slice Ao l.length co).ownBlock ≠ some (bo + 1) ∧
        Mblk wr gT (.int .i64 i) (.int .i64 0) (.slice AN j cN) (.slice AO j cO) ∧ RowsP wr gT (.slice AN j cN) ((mnN nx ot i st n).take j) (fun g => (Value.slice Ao l.length co).ownBlock ≠ some g) ∧ RowsP wr gT (.slice AO j cO) ((mnO nx ot i st n).take j) (fun g => (Value.slice Ao l.length co).ownBlock ≠ some g) ∧ Apart (.slice AN j cN) (.slice AO j cO) ∧ Below bo w2 wr) (fun _ v10 _ => n - (intOf v10).toNat)
      case atStart => exact ⟨0, [st], some ⟨bo, 0, none⟩, 1, none, 0, none, 0, rfl, rfl, HS0.out, HO6.out, by rw [show [st].map (clq nx ot i n) = [q st] by rw [HQ.out]; rfl]; exact HN6.out, by show some bo ≠ some (bo + 1); intro H; injection H with H; omega, HT6.out, RowsP.nil _ _ _, RowsP.nil _ _ _, Apart.nil _, HB6.out⟩
      case round =>
        obtain ⟨j, l, Ao, co, AN, cN, AO, cO, rfl, rfl, hS, hOrd, hNum, hong, hT, hRN, hRO, hap, hbr⟩ := hrel
        have hjl := hS.le
        have hln := hS.len
        have HS := Lib.hid hS
        have HORD := Lib.hid hOrd
        have HNUM := Lib.hid hNum
        have HONG := Lib.hid hong
        have HT := Lib.hid hT
        have HRN := Lib.hid hRN
        have HRO := Lib.hid hRO
        have HAP := Lib.hid hap
        have HBR := Lib.hid hbr
        clear hS hOrd hNum hong hT hRN hRO hap hbr
        have hzT := heap_lt HT.out
        by_cases hlt : j < l.length
        · obtain ⟨k0, k1, k2, k3, _⟩ := (HB2.out.kept HBR.out (show w.heap.size < bo by omega)).cells
          go_wp2
          clear k0 k1 k2 k3
          obtain ⟨wo, hwo⟩ : ∃ wo : World, wo = wr := ⟨_, rfl⟩
          rw [← hwo] at HORD HNUM HT HRN HRO HBR hzT ⊢
          clear hwo
          obtain ⟨s, hsd⟩ : ∃ s, s = l.getD j 0 := ⟨_, rfl⟩
          have hs : s < n := by rw [hsd]; exact HS.out.lt _ (getD_mem hlt)
          have HrN := Lib.hid (fun (a : Nat) (ha : a < i) => show ((mnN nx ot i st n).getD j []).take (a + 1) = ((mnN nx ot i st n).getD j []).take a ++ [((ixN ((oA nx ot i n s l (a + 1)).map (clq nx ot i n)) (clq nx ot i n (nN nx s a)) : Nat) : Int)] by rw [hsd]; exact HS.out.rowN hM hlt ha)
          have HrO0 := Lib.hid (fun (a : Nat) (ha : a < i) => show ((mnO nx ot i st n).getD j []).take (a + 1) = ((mnO nx ot i st n).getD j []).take a ++ [oN ot s a] by rw [hsd]; exact HS.out.rowO hM hlt ha)
          have hle1 := Lib.hid (HS.out.lens hM hlt).1
          have hle2 := Lib.hid (HS.out.lens hM hlt).2
          have HST := Lib.hid (show Srch nx ot i st n (j + 1) (oA nx ot i n s l i) by rw [hsd]; exact HS.out.step hM hlt)
          have HOL := Lib.hid (show ∀ a, a ≤ i → (oA nx ot i n s l a).length ≤ n from fun a ha => by
            obtain ⟨u, hu⟩ := oA_mono nx ot i n s l a (i - a)
            rw [show a + (i - a) = i by omega] at hu
            have h := HST.out.len
            rw [hu, List.length_append] at h
            omega)
          have HOJ := Lib.hid (show ∀ a, j < (oA nx ot i n s l a).length ∧ (oA nx ot i n s l a).getD j 0 = s from fun a => by
            obtain ⟨u, hu⟩ := oA_pre nx ot i n s l a
            rw [hu]
            exact ⟨by rw [List.length_append]; omega, by rw [getD_pre hlt, hsd]⟩)
          clear hsd
          have hbo9 : bo + 1 < wo.heap.size := by omega
          go_loopw [6, 11, 12, 13] (fun v6 v11 v12 v13 wq => ∃ (a : Nat) (A1 : Option Addr) (c1 : Nat) (AX : Option Addr) (cX : Nat) (AY : Option Addr) (cY : Nat), a ≤ i ∧ v13 = .int .i64 a ∧ v6 = .slice A1 (oA nx ot i n s l a).length c1 ∧ v11 = .slice AX a cX ∧ v12 = .slice AY a cY ∧
            Rnd w2 wo bo (bo + 1) n (.slice Ao l.length co) wq (.slice A1 (oA nx ot i n s l a).length c1) (.slice AX a cX) (.slice AY a cY) (zs (oA nx ot i n s l a)) (nbr n ((oA nx ot i n s l a).map (clq nx ot i n))) (((mnN nx ot i st n).getD j []).take a) (((mnO nx ot i st n).getD j []).take a)) (fun _ _ _ v13 _ => i - (intOf v13).toNat)
          case atStart => exact ⟨0, Ao, co, none, 0, none, 0, Nat.zero_le _, rfl, rfl, rfl, rfl, ⟨HORD.out, HNUM.out, HONG.out, Owned.nil _ _, Owned.nil _ _, Apart.nil _, (Apart.nil _).symm, (Apart.nil _).symm, fun g o e _ _ => e, .inl rfl, HBR.out, Nat.le_refl _⟩⟩
          case round =>
            obtain ⟨a, A1, c1, AX, cX, AY, cY, ha, rfl, rfl, rfl, rfl, H⟩ := hrel
            have hbW : Below w.heap.size w wr := hb2.trans (H.bel.mono (by omega))
            obtain ⟨k0, k1, k2, k3, _⟩ := (HB2.out.kept H.bel (show w.heap.size < bo by omega)).cells
            by_cases hla : a < i
            · have HHH := Lib.hid H
              have ht := hM.nN_lt hs hla
              have hlo1 := (HOL.out a ha)
              obtain ⟨hj1, hj2⟩ := HOJ.out a
              obtain ⟨g1, o1, A3, n1, c3, eA, hg1, hd1, hr1⟩ := hx.at_ hs
              have hi1 := (hM.row s hs).1
              have m1 := hr1.1
              obtain rfl : n1 = i := by omega
              obtain ⟨b1, p1, eA3, hbb1, hv1⟩ := hr1.at_ hla
              subst eA eA3
              rw [hM.nN_eq hs hla] at hv1
              have hd1 := (hbW.cell (p := ⟨g1, o1 + s, none⟩) hg1).trans hd1
              have hv1 := (hbW.cell (p := ⟨b1, p1 + a, none⟩) hbb1).trans hv1
              have hoi := H.ord.ints (by rw [zs_len]; omega)
              obtain ⟨bO, oO, eO, hbO, hcO⟩ := hoi.at_ hj1
              rw [zs_at, hj2] at hcO
              subst eO
              have j1 : (0 : Int) ≤ (j : Int) := by omega
              have j2 : (j : Int) < (((oA nx ot n1 n s l a).length : Nat) : Int) := by omega
              have j3 : (0 : Int) ≤ (s : Int) := by omega
              have j4 : (s : Int) < (n : Int) := by omega
              have j5 : (0 : Int) ≤ (a : Int) := by omega
              have j6 : (a : Int) < (n1 : Int) := by omega
              clear H hoi
              go_upto_region 19 with fail
              go_cut [14] from 62 to 72 (fun v wx => v = .int .i64 (nN nx s a) ∧ Rnd w2 wo bo (bo + 1) n (.slice Ao l.length co) wx (.slice (some ⟨bO, oO, none⟩) (oA nx ot n1 n s l a).length c1) (.slice AX a cX) (.slice AY a cY) (zs (oA nx ot n1 n s l a)) (nbr n ((oA nx ot n1 n s l a).map (clq nx ot n1 n))) (((mnN nx ot n1 st n).getD j []).take a) (((mnO nx ot n1 st n).getD j []).take a))
              case first =>
                go_quiet (fail)
                go_wp2_with fail
                go_meet
                exact ⟨rfl, HHH.out.drew _⟩
              case rest =>
                obtain ⟨rfl, H⟩ := hcut
                have HOJ2 := Lib.hid (HOJ.out (a + 1)).2
                have HrO := Lib.hid (HrO0.out a hla)
                have HrX := Lib.hid (HrN.out a hla)
                have hlX : (((mnN nx ot n1 st n).getD j []).take a).length = a := by rw [List.length_take, hle1.out]; omega
                have hI9 : Ints wc (some ⟨bc, oc, none⟩) n (zs (pt nx ot n1 n (dep nx ot n1 n))) := HI.out.below (by rw [← HBO.out]; exact H.bel)
                obtain ⟨_, _, ecc, _, hcls⟩ := hI9.at_ ht
                cases ecc
                rw [hQA.out _ ht, HQ.out] at hcls
                have hcn : clq nx ot n1 n (nN nx s a) < n := clq_ltn nx ot n1 ht
                obtain ⟨_, _, enn, _, hnum⟩ := (H.num.ints (by rw [nbr_len]; omega)).at_ hcn
                cases enn
                rw [nbr_at hcn, Nat.zero_add] at hnum
                obtain ⟨q1, hq1⟩ : ∃ q1, q1 = (oA nx ot n1 n s l a).length := ⟨_, rfl⟩
                rw [← hq1] at H hj1 hlo1 ⊢
                have HQ1 := Lib.hid hq1
                clear k0 k1 k2 k3 hd1 hv1 hcO hbO hI9 j1 j2 j3 j4 j5 j6 hq1
                have HTI := Lib.hid (show ((nN nx s a : Nat) : Int) = ((nN nx s a : Nat) : Int) from rfl)
                by_cases hin : clq nx ot n1 n (nN nx s a) ∈ (oA nx ot n1 n s l a).map (clq nx ot n1 n)
                · have HEQ := Lib.hid (oA_in hin)
                  have HL2 := Lib.hid (show (oA nx ot n1 n s l (a + 1)).length = q1 by rw [HEQ.out, HQ1.out])
                  rw [if_pos hin] at hnum
                  rw [← HEQ.out] at hnum H
                  have hv0 : (0 : Int) ≤ ((ixN ((oA nx ot n1 n s l (a + 1)).map (clq nx ot n1 n)) (clq nx ot n1 n (nN nx s a)) : Nat) : Int) := by omega
                  obtain ⟨AX2, cX2, W1, hrn, H1⟩ := H.next (show bo ≤ wo.heap.size by omega) hbo9 ((ixN ((oA nx ot n1 n s l (a + 1)).map (clq nx ot n1 n)) (clq nx ot n1 n (nN nx s a)) : Nat) : Int) (by rw [hlX]; omega)
                  rw [hlX] at hrn H1
                  rw [← HrX.out] at H1
                  have HH1 := Lib.hid H1
                  generalize ((ixN ((oA nx ot n1 n s l (a + 1)).map (clq nx ot n1 n)) (clq nx ot n1 n (nN nx s a)) : Nat) : Int) = vv at hnum hv0 hrn
                  generalize clq nx ot n1 n (nN nx s a) = cq at hcls hcn hnum
                  clear H H1 hin
                  go_wp2_with (at_builtin; refine Lib.wpList_append_run _ rfl _ _ _ _ rfl _ _ rfl rfl _ _ hrn ?_)
                  have H1 := HH1.out
                  clear HH1 hrn hnum hcls hv0
                  have HJ2 := HOJ2
                  obtain ⟨F, hF⟩ := H1.outs (show bo ≤ wo.heap.size by omega) (show bo + 1 < wo.heap.size by omega) (oN ot s a) (by rw [List.length_take]; omega)
                  have hlY : (((mnO nx ot n1 st n).getD j []).take a).length = a := by rw [List.length_take, hle2.out]; omega
                  rw [hlY, ← HrO.out] at hF
                  have HF := Lib.hid hF
                  have hbW1 : Below w.heap.size w W1 := hb2.trans (H1.bel.mono (by omega))
                  obtain ⟨k0, k1, k2, k3, _⟩ := (HB2.out.kept H1.bel (show w.heap.size < bo by omega)).cells
                  obtain ⟨g2, o2, A4, n2, c4, eB, hg2, hd2, hr2⟩ := hlo.out.at_ hs
                  have hi2 := (hM.row s hs).2.1
                  have m2 := hr2.1
                  obtain rfl : n1 = n2 := by omega
                  obtain ⟨b2, p2, eA4, hbb2, hv2⟩ := hr2.at_ hla
                  subst eB eA4
                  have hd2 := (hbW1.cell (p := ⟨g2, o2 + s, none⟩) hg2).trans hd2
                  have hv2 := (hbW1.cell (p := ⟨b2, p2 + a, none⟩) hbb2).trans hv2
                  have r2 : (ot.getD s []).getD a 0 = oN ot s a := rfl
                  rw [r2] at hv2
                  have hlo2 := HOL.out (a + 1) (by omega)
                  have hoi := H1.ord.ints (by rw [zs_len]; omega)
                  obtain ⟨bO, oO, eO, hbO, hcO⟩ := hoi.at_ (k := j) (by omega)
                  rw [zs_at, HJ2.out] at hcO
                  first | subst eO | cases eO
                  have hoF := (HF.out 1).2.1.ord.ints (by rw [zs_len]; omega)
                  obtain ⟨_, _, eO, _, hcF⟩ := hoF.at_ (k := j) (by omega)
                  cases eO
                  rw [zs_at, HJ2.out] at hcF
                  have hbF := (HF.out 1).2.2
                  have lk : w.heap.size < bo := by omega
                  have HSa := Lib.hid (show ∀ W : World, Below W1.heap.size W1 W → W.cell? ⟨w.heap.size, 3, none⟩ = some (.slice (some ⟨g2, o2, none⟩) n d) ∧ W.cell? ⟨bO, oO + j, none⟩ = some (.int .i64 s) ∧ W.cell? ⟨g2, o2 + s, none⟩ = some (.slice (some ⟨b2, p2, none⟩) n1 c4) ∧ W.cell? ⟨b2, p2 + a, none⟩ = some (.int .i64 (oN ot s a)) from fun W h =>
                    ⟨(h.cell (p := ⟨w.heap.size, 3, none⟩) (block_lt k3)).trans k3, (h.cell (p := ⟨bO, oO + j, none⟩) hbO).trans hcO, (h.cell (p := ⟨g2, o2 + s, none⟩) (block_lt hd2)).trans hd2, (h.cell (p := ⟨b2, p2 + a, none⟩) (block_lt hv2)).trans hv2⟩)
                  have HSb := Lib.hid (show (F 1).2.cell? ⟨w.heap.size, 3, none⟩ = some (.slice (some ⟨g2, o2, none⟩) n d) ∧ (F 1).2.cell? ⟨bO, oO + j, none⟩ = some (.int .i64 s) ∧ (F 1).2.cell? ⟨g2, o2 + s, none⟩ = some (.slice (some ⟨b2, p2, none⟩) n1 c4) ∧ (F 1).2.cell? ⟨b2, p2 + a, none⟩ = some (.int .i64 (oN ot s a)) from
                    ⟨(hbF.cell (p := ⟨w.heap.size, 3, none⟩) lk).trans k3, hcF, (hbF.cell (p := ⟨g2, o2 + s, none⟩) (by show g2 < bo; omega)).trans hd2, (hbF.cell (p := ⟨b2, p2 + a, none⟩) (by show b2 < bo; omega)).trans hv2⟩)
                  have hbc1 : Below W1.heap.size W1 W1.drew := (Below.refl _ W1).drew
                  have hbc2 : Below W1.heap.size W1 (W1.drew.alloc (.cells #[.int .i64 (oN ot s a)] 3)) := hbc1.trans (alloc_below W1.drew _)
                  have j1 : (0 : Int) ≤ (j : Int) := by omega
                  have j2 : (j : Int) < (q1 : Int) := by omega
                  have j2' : (j : Int) < (q1 : Int) + 1 := by omega
                  have j3 : (0 : Int) ≤ (s : Int) := by omega
                  have j4 : (s : Int) < (n : Int) := by omega
                  have j5 : (0 : Int) ≤ (a : Int) := by omega
                  have j6 : (a : Int) < (n1 : Int) := by omega
                  have HLN := Lib.hid (show j + 1 ≤ l.length by omega)
                  have HAA := Lib.hid hla
                  clear hF hoi hoF hcF hbF hbW1 r2 m2 hi2
                  generalize oN ot s a = y at hv2 HSa HSb HF hbc2
                  go_wp2
                  go_region_held3 (fun w' => w'.cell? ⟨w.heap.size, 3, none⟩ = some (.slice (some ⟨g2, o2, none⟩) n d) ∧ w'.cell? ⟨bO, oO + j, none⟩ = some (.int .i64 s) ∧ w'.cell? ⟨g2, o2 + s, none⟩ = some (.slice (some ⟨b2, p2, none⟩) n1 c4) ∧ w'.cell? ⟨b2, p2 + a, none⟩ = some (.int .i64 y)) (first | exact HSa.out _ hbc1 | exact HSa.out _ hbc2 | exact HSb.out) ((refine step_append_run rfl _ _ _ _ rfl _ _ rfl rfl _ _ (HF.out 1).1 ?_))
                  go_wp2
                  go_roundw
                  case rel => exact ⟨a + 1, _, _, _, _, _, _, by omega, by go_num, by rw [HL2.out], rfl, rfl, by rw [HL2.out]; exact (HF.out 1).2.1⟩
                  case measure => simp [intOf]; omega
                · have HEQ := Lib.hid (oA_out hin)
                  have HL2 := Lib.hid (show (oA nx ot n1 n s l (a + 1)).length = q1 + 1 by rw [HEQ.out, HQ1.out, List.length_append]; rfl)
                  rw [if_neg hin] at hnum
                  obtain ⟨gq, eg, _, _, hfz⟩ := H.num.head (by omega)
                  cases eg
                  have hfq := hfz (clq nx ot n1 n (nN nx s a))
                  have HS1 := H.store (show bo ≤ bo + 1 by omega) hbo9 (clq nx ot n1 n (nN nx s a)) (q1 : Int)
                  have hset := nbr_set (n := n) hin
                  rw [List.length_map, ← HQ1.out] at hset
                  rw [hset] at HS1
                  have hmp : (oA nx ot n1 n s l a).map (clq nx ot n1 n) ++ [clq nx ot n1 n (nN nx s a)] = (oA nx ot n1 n s l (a + 1)).map (clq nx ot n1 n) := by rw [HEQ.out, List.map_append]; rfl
                  rw [hmp] at HS1
                  obtain ⟨A2, c2, W2, hrp, HS2⟩ := HS1.push (show bo ≤ wo.heap.size by omega) hbo9 ((nN nx s a : Nat) : Int) (by rw [zs_len, ← HQ1.out]; omega)
                  have hzs : zs (oA nx ot n1 n s l a) ++ [((nN nx s a : Nat) : Int)] = zs (oA nx ot n1 n s l (a + 1)) := by rw [HEQ.out]; unfold zs; rw [List.map_append]; rfl
                  rw [hzs] at HS2
                  rw [zs_len, ← HQ1.out] at hrp HS2
                  have hnum2 := (HS2.num.ints (by rw [nbr_len]; omega)).at_ hcn
                  obtain ⟨_, _, enn, _, hnum2⟩ := hnum2
                  cases enn
                  rw [nbr_at hcn, Nat.zero_add, if_pos oA_has] at hnum2
                  obtain ⟨AX2, cX2, W1, hrn, H1⟩ := HS2.next (show bo ≤ wo.heap.size by omega) hbo9 ((ixN ((oA nx ot n1 n s l (a + 1)).map (clq nx ot n1 n)) (clq nx ot n1 n (nN nx s a)) : Nat) : Int) (by rw [hlX]; omega)
                  have hI10 : Ints W2 (some ⟨bc, oc, none⟩) n (zs (pt nx ot n1 n (dep nx ot n1 n))) := HI.out.below (by rw [← HBO.out]; exact HS2.bel)
                  obtain ⟨_, _, ecc, _, hcls2⟩ := hI10.at_ ht
                  cases ecc
                  rw [hQA.out _ ht, HQ.out] at hcls2
                  rw [hlX] at hrn H1
                  rw [← HrX.out] at H1
                  have HH1 := Lib.hid H1
                  generalize ((ixN ((oA nx ot n1 n s l (a + 1)).map (clq nx ot n1 n)) (clq nx ot n1 n (nN nx s a)) : Nat) : Int) = vv at hnum2 hrn
                  generalize clq nx ot n1 n (nN nx s a) = cq at hcls hcn hnum hcls2 hnum2 hfq hrp
                  clear H H1 HS1 HS2 hset hmp hzs hfz hin hI10
                  generalize (some (⟨bO, oO, none⟩ : Addr)) = A1' at hrp ⊢
                  rw [show (wc.setCell ⟨bo + 1, cq, none⟩ (.int .i64 q1)).heap.size = wc.heap.size by simp] at hrp
                  go_wp2_with (at_builtin; first | (refine Lib.wpList_append_run _ rfl _ _ _ _ rfl _ _ rfl rfl _ _ hrp ?_; clear hrp) | (refine Lib.wpList_append_run _ rfl _ _ _ _ rfl _ _ rfl rfl _ _ hrn ?_))
                  have H1 := HH1.out
                  clear HH1 hrn hnum hcls hcls2 hnum2 hfq
                  have HJ2 := HOJ2
                  obtain ⟨F, hF⟩ := H1.outs (show bo ≤ wo.heap.size by omega) (show bo + 1 < wo.heap.size by omega) (oN ot s a) (by rw [List.length_take]; omega)
                  have hlY : (((mnO nx ot n1 st n).getD j []).take a).length = a := by rw [List.length_take, hle2.out]; omega
                  rw [hlY, ← HrO.out] at hF
                  have HF := Lib.hid hF
                  have hbW1 : Below w.heap.size w W1 := hb2.trans (H1.bel.mono (by omega))
                  obtain ⟨k0, k1, k2, k3, _⟩ := (HB2.out.kept H1.bel (show w.heap.size < bo by omega)).cells
                  obtain ⟨g2, o2, A4, n2, c4, eB, hg2, hd2, hr2⟩ := hlo.out.at_ hs
                  have hi2 := (hM.row s hs).2.1
                  have m2 := hr2.1
                  obtain rfl : n1 = n2 := by omega
                  obtain ⟨b2, p2, eA4, hbb2, hv2⟩ := hr2.at_ hla
                  subst eB eA4
                  have hd2 := (hbW1.cell (p := ⟨g2, o2 + s, none⟩) hg2).trans hd2
                  have hv2 := (hbW1.cell (p := ⟨b2, p2 + a, none⟩) hbb2).trans hv2
                  have r2 : (ot.getD s []).getD a 0 = oN ot s a := rfl
                  rw [r2] at hv2
                  have hlo2 := HOL.out (a + 1) (by omega)
                  have hoi := H1.ord.ints (by rw [zs_len]; omega)
                  obtain ⟨bO, oO, eO, hbO, hcO⟩ := hoi.at_ (k := j) (by omega)
                  rw [zs_at, HJ2.out] at hcO
                  first | subst eO | cases eO
                  have hoF := (HF.out 1).2.1.ord.ints (by rw [zs_len]; omega)
                  obtain ⟨_, _, eO, _, hcF⟩ := hoF.at_ (k := j) (by omega)
                  cases eO
                  rw [zs_at, HJ2.out] at hcF
                  have hbF := (HF.out 1).2.2
                  have lk : w.heap.size < bo := by omega
                  have HSa := Lib.hid (show ∀ W : World, Below W1.heap.size W1 W → W.cell? ⟨w.heap.size, 3, none⟩ = some (.slice (some ⟨g2, o2, none⟩) n d) ∧ W.cell? ⟨bO, oO + j, none⟩ = some (.int .i64 s) ∧ W.cell? ⟨g2, o2 + s, none⟩ = some (.slice (some ⟨b2, p2, none⟩) n1 c4) ∧ W.cell? ⟨b2, p2 + a, none⟩ = some (.int .i64 (oN ot s a)) from fun W h =>
                    ⟨(h.cell (p := ⟨w.heap.size, 3, none⟩) (block_lt k3)).trans k3, (h.cell (p := ⟨bO, oO + j, none⟩) hbO).trans hcO, (h.cell (p := ⟨g2, o2 + s, none⟩) (block_lt hd2)).trans hd2, (h.cell (p := ⟨b2, p2 + a, none⟩) (block_lt hv2)).trans hv2⟩)
                  have HSb := Lib.hid (show (F 1).2.cell? ⟨w.heap.size, 3, none⟩ = some (.slice (some ⟨g2, o2, none⟩) n d) ∧ (F 1).2.cell? ⟨bO, oO + j, none⟩ = some (.int .i64 s) ∧ (F 1).2.cell? ⟨g2, o2 + s, none⟩ = some (.slice (some ⟨b2, p2, none⟩) n1 c4) ∧ (F 1).2.cell? ⟨b2, p2 + a, none⟩ = some (.int .i64 (oN ot s a)) from
                    ⟨(hbF.cell (p := ⟨w.heap.size, 3, none⟩) lk).trans k3, hcF, (hbF.cell (p := ⟨g2, o2 + s, none⟩) (by show g2 < bo; omega)).trans hd2, (hbF.cell (p := ⟨b2, p2 + a, none⟩) (by show b2 < bo; omega)).trans hv2⟩)
                  have hbc1 : Below W1.heap.size W1 W1.drew := (Below.refl _ W1).drew
                  have hbc2 : Below W1.heap.size W1 (W1.drew.alloc (.cells #[.int .i64 (oN ot s a)] 3)) := hbc1.trans (alloc_below W1.drew _)
                  have j1 : (0 : Int) ≤ (j : Int) := by omega
                  have j2 : (j : Int) < (q1 : Int) := by omega
                  have j2' : (j : Int) < (q1 : Int) + 1 := by omega
                  have j3 : (0 : Int) ≤ (s : Int) := by omega
                  have j4 : (s : Int) < (n : Int) := by omega
                  have j5 : (0 : Int) ≤ (a : Int) := by omega
                  have j6 : (a : Int) < (n1 : Int) := by omega
                  have HLN := Lib.hid (show j + 1 ≤ l.length by omega)
                  have HAA := Lib.hid hla
                  clear hF hoi hoF hcF hbF hbW1 r2 m2 hi2
                  generalize oN ot s a = y at hv2 HSa HSb HF hbc2
                  go_wp2
                  go_region_held3 (fun w' => w'.cell? ⟨w.heap.size, 3, none⟩ = some (.slice (some ⟨g2, o2, none⟩) n d) ∧ w'.cell? ⟨bO, oO + j, none⟩ = some (.int .i64 s) ∧ w'.cell? ⟨g2, o2 + s, none⟩ = some (.slice (some ⟨b2, p2, none⟩) n1 c4) ∧ w'.cell? ⟨b2, p2 + a, none⟩ = some (.int .i64 y)) (first | exact HSa.out _ hbc1 | exact HSa.out _ hbc2 | exact HSb.out) ((refine step_append_run rfl _ _ _ _ rfl _ _ rfl rfl _ _ (HF.out 1).1 ?_))
                  go_wp2
                  go_roundw
                  case rel => exact ⟨a + 1, _, _, _, _, _, _, by omega, by go_num, by rw [HL2.out], rfl, rfl, by rw [HL2.out]; exact (HF.out 1).2.1⟩
                  case measure => simp [intOf]; omega
            · have HHH := Lib.hid H
              have e : a = i := by omega
              have hX := H.nxt.lower (base' := gT) (by omega)
              have hY := H.out.lower (base' := gT) (by omega)
              rw [List.take_of_length_le (by rw [hle1.out]; omega)] at hX
              rw [List.take_of_length_le (by rw [hle2.out]; omega)] at hY
              obtain ⟨hT9, hN9⟩ := H.rows HORD.out hgT2 HT.out HRN.out
              obtain ⟨_, hO9⟩ := H.rows HORD.out hgT2 HT.out HRO.out
              have hjR := (HS.out.at_ hlt).1
              have hj1 : j < (mnN nx ot i st n).length := by rw [mnN_len]; exact hjR
              have hj2 : j < (mnO nx ot i st n).length := by simpa [mnO, trO] using hjR
              have hF : Rnf w2 wr bo gT n (.int .i64 i) (.int .i64 0) (.slice A1 (oA nx ot i n s l a).length c1) (.slice AN j cN) (.slice AO j cO) (zs (oA nx ot i n s l a)) (nbr n ((oA nx ot i n s l a).map (clq nx ot i n))) ((mnN nx ot i st n).take j) ((mnO nx ot i st n).take j) := ⟨H.ord, H.num, hT9, hN9, hO9, HAP.out, H.bel⟩
              have hl1 : ((mnN nx ot i st n).take j).length = j := by rw [List.length_take]; omega
              have hl2 : ((mnO nx ot i st n).take j).length = j := by rw [List.length_take]; omega
              have hn9 := HLEN.out _ _ HS.out
              obtain ⟨A9, c9, W9, r1, F1, B1, B9, d9, W8, r3, B3, F3⟩ := hF.put (by omega) hX hY H.aox H.aoy (by rw [hl1]; omega) (by rw [hl2]; omega)
              rw [hl1] at r1 F1 r3 B3 F3
              rw [hl2] at r3 F3
              rw [takeL hj1, takeL hj2] at F3
              have HF3 := Lib.hid F3
              have HEI := Lib.hid e
              have HB1 := Lib.hid B1
              have HB3 := Lib.hid B3
              have HONG2 := Lib.hid H.ong
              obtain ⟨t0, t1, t2, t3, f0, f1, f2, f3⟩ := hT9.cells
              obtain ⟨p0, p1, p2, p3, g0, g1, g2, g3⟩ := B1.cells
              obtain ⟨q0, q1, q2, q3, e0, e1, e2, e3⟩ := B3.cells
              clear e hT9 hN9 hO9 F1 B1 B3 F3 H hX hY hF hl1 hl2 k1 k2 k3 t0 t1 f0 f1 p0 p1 g0 g1 q0 q1 q2 e0 e1 e2
              go_wp2_with (at_builtin; first | (refine Lib.wpList_append_run _ rfl _ _ _ _ rfl _ _ rfl rfl _ _ r1 ?_; clear r1) | go_loud (refine Lib.wpList_append_run _ rfl _ _ _ _ rfl _ _ rfl rfl _ _ r3 ?_))
              go_roundw
              case rel =>
                rw [HEI.out] at HF3 HONG2
                exact ⟨j + 1, oA nx ot i n s l i, A1, c1, A9, c9, B9, d9, by go_num, by rw [HEI.out], HST.out, HF3.out.ord, HF3.out.num, HONG2.out, HF3.out.box, HF3.out.nxt, HF3.out.out, HF3.out.ap, HF3.out.bel⟩
              case measure => simp [intOf]; omega
        · have hend : (mnR nx ot i st n).length = j := by
            have h1 := HS.out.end_ hlt
            rw [← h1, List.length_map]
            omega
          have hN := HRN.out.own
          have hO := HRO.out.own
          rw [List.take_of_length_le (by rw [mnN_len]; omega)] at hN
          rw [List.take_of_length_le (by simp [mnO, trO]; omega)] at hO
          have HEND := Lib.hid hend
          clear hend
          obtain ⟨t0, t1, t2, t3, f0, f1, f2, f3⟩ := HT.out.cells
          have hR3 := HR2.out.kept HBR.out (show w.heap.size + 1 < bo by omega)
          have b3 : Below w.heap.size w wr := hb2.trans (HBR.out.mono (by omega))
          obtain ⟨y0, y1, y2, y3, z0, z1, z2, z3⟩ := hR3.cells
          have hl : ∀ k, w.heap.size ≤ (⟨w.heap.size + 1, k, none⟩ : Addr).block := fun k => Nat.le_succ _
          have hfb := Lib.hid (((((b3.setCell (hl 0) (.int .i64 i)).setCell (hl 1) (.int .i64 0)).setCell (hl 2) (.slice AN j cN)).setCell (hl 3) (.slice AO j cO)))
          have hR4 := Lib.hid (hR3.set4 (.int .i64 i) (.int .i64 0) (.slice AN j cN) (.slice AO j cO))
          have hq1 := hR3
          have hq2 : Mblk (wr.setCell ⟨w.heap.size + 1, 0, none⟩ (.int .i64 i)) (w.heap.size + 1) _ _ _ _ := heap_setCell_same wr _ 0 _ _ _ hq1
          have hq3 : Mblk ((wr.setCell ⟨w.heap.size + 1, 0, none⟩ (.int .i64 i)).setCell ⟨w.heap.size + 1, 1, none⟩ (.int .i64 0)) (w.heap.size + 1) _ _ _ _ := heap_setCell_same _ _ 1 _ _ _ hq2
          have hq4 : Mblk (((wr.setCell ⟨w.heap.size + 1, 0, none⟩ (.int .i64 i)).setCell ⟨w.heap.size + 1, 1, none⟩ (.int .i64 0)).setCell ⟨w.heap.size + 1, 2, none⟩ (.slice AN j cN)) (w.heap.size + 1) _ _ _ _ := heap_setCell_same _ _ 2 _ _ _ hq3
          have hN10 := Lib.hid (((((hN.offM hq1 (.int .i64 i) (j := 0)).offM hq2 (.int .i64 0) (j := 1)).offM hq3 (.slice AN j cN) (j := 2)).offM hq4 (.slice AO j cO) (j := 3)).lower (base' := w.heap.size) (by omega))
          have hO10 := Lib.hid (((((hO.offM hq1 (.int .i64 i) (j := 0)).offM hq2 (.int .i64 0) (j := 1)).offM hq3 (.slice AN j cN) (j := 2)).offM hq4 (.slice AO j cO) (j := 3)).lower (base' := w.heap.size) (by omega))
          clear hR3 hq1 hq2 hq3 hq4 hN hO hl
          go_wp2
          (try simp only [Exit.inBlock, Exit.then])
          refine bodyPost_ret (results_mealy rfl _ _ (w.heap.size + 1) _ _ _ _ rfl hR4.out) rfl ?_
          rw [HEND.out]
          exact ⟨AN, cN, AO, cO, rfl, hN10.out, hO10.out, hfb.out⟩
end Go.Proofs.Ytogcecfeofbbnaa
end

section
/- The reference: Minimal. -/
namespace Go.Proofs.Ytogcecfeofbbnaa
open Go.RowKit

theorem rminl_bad (i st : Int) (A B : Option Addr) (n c m d : Nat) (nx ot : List (List Int)) (w : World) (hx : Lists w A n nx) (ho : Lists w B m ot) (hv : ¬ vld i st nx ot = 0) :
    Calls Try.prog 60 #[.agg #[.int .i64 i, .int .i64 st, .slice A n c, .slice B m d]] w fun e w' => e = .returned (.bool false) ∧ Below w.heap.size w w' := by
  have hb0 := alloc_below w (.cells #[.int .i64 i, .int .i64 st, .slice A n c, .slice B m d] 24)
  have hne : (vld i st nx ot == 0) = false := by simpa using hv
  go_enter Try.func60, Try.ntmps60
  go_wp2_with fail
  refine (rmin_bad _ _ _ _ _ _ _ _ _ _ _ (hx.below hb0) (ho.below hb0) hv).mono ?_
  rintro e w1 ⟨rfl, b1⟩
  have b1 := bt hb0 b1
  generalize hE : vld i st nx ot = E at hne hv
  have HE := Lib.hid hE
  clear hv hE
  go_wp2
  go_ret
  exact ⟨rfl, bt b1 (alloc_below _ _)⟩
set_option maxHeartbeats 1000000 in
theorem rminl_ok (i st n : Nat) (A B : Option Addr) (c d : Nat) (nx ot : List (List Int)) (b : Bool) (w : World) (hx : Lists w A n nx) (ho : Lists w B n ot) (hM : Mok i st n nx ot) (hb : b = decide ((mnR nx ot i st n).length = n)) :
    Calls Try.prog 60 #[.agg #[.int .i64 i, .int .i64 st, .slice A n c, .slice B n d]] w fun e w' => e = .returned (.bool b) ∧ Below w.heap.size w w' := by
  have hb0 := alloc_below w (.cells #[.int .i64 i, .int .i64 st, .slice A n c, .slice B n d] 24)
  have HBX := Lib.hid (mealy_box w (.int .i64 i) (.int .i64 st) (.slice A n c) (.slice B n d))
  obtain ⟨L, hL⟩ : ∃ L, L = (mnR nx ot i st n).length := ⟨_, rfl⟩
  have HL := Lib.hid hL
  rw [← hL] at hb
  have HB := Lib.hid hb
  have hd : ((L : Int) == (n : Int)) = b := by
    rw [HB.out]
    by_cases e : L = n
    · subst e; simp
    · rw [decide_eq_false e, beq_eq_false_iff_ne]; omega
  clear hL hb
  go_enter Try.func60, Try.ntmps60
  go_wp2_with fail
  refine (rmin_ok _ _ _ _ _ _ _ _ _ _ (hx.below hb0) (ho.below hb0) hM).mono ?_
  rintro e w1 ⟨A1, c1, B1, d1, rfl, hN, hO, b1⟩
  rw [← HL.out]
  have hB2 := (HBX.out.kept b1 (by simp)).kept (alloc_below w1 (.cells #[.int .i64 i, .int .i64 0, .slice A1 L c1, .slice B1 L d1] 24)) (by have := heap_lt (HBX.out.kept b1 (by simp)); exact this)
  obtain ⟨k0, k1, k2, k3, _⟩ := hB2.cells
  have b1 := bt hb0 b1
  have HD := Lib.hid hd
  clear hN hO hd
  cases b
  all_goals
    have hd := HD.out
    clear HD
    go_wp2
    go_ret
    exact ⟨rfl, bt b1 (alloc_below _ _)⟩
end Go.Proofs.Ytogcecfeofbbnaa
end

section
/- homing, the reference: Check and Word. -/
namespace Go.Proofs.Ytogcecfeofbbnaa
open Go.RowKit Go.Shelf

/-- The first error of a machine that must be minimal. -/
def mck (i st : Int) (nx ot : List (List Int)) : Int := if vld i st nx ot = 0 then (if (mnR nx ot i.toNat st.toNat nx.length).length = nx.length then 0 else 1) else vld i st nx ot

set_option maxHeartbeats 1000000 in
theorem rcheck11 (i st : Int) (A B : Option Addr) (n c m d : Nat) (nx ot : List (List Int)) (w : World) (hx : Lists w A n nx) (ho : Lists w B m ot) :
    Calls Try.prog 26 #[.agg #[.int .i64 i, .int .i64 st, .slice A n c, .slice B m d]] w fun e w' => e = .returned (.int .i64 (mck i st nx ot)) ∧ Below w.heap.size w w' := by
  obtain ⟨w1, hw1⟩ : ∃ w1, w1 = w.alloc (.cells #[.int .i64 i, .int .i64 st, .slice A n c, .slice B m d] 24) := ⟨_, rfl⟩
  have b1 : Below w.heap.size w w1 := by rw [hw1]; exact alloc_below _ _
  have m1 : Mblk w1 w.heap.size (.int .i64 i) (.int .i64 st) (.slice A n c) (.slice B m d) := by rw [hw1]; exact mealy_box _ _ _ _ _
  have z1 : w1.heap.size = w.heap.size + 1 := by rw [hw1]; simp
  obtain ⟨k0, k1, k2, k3, _⟩ := m1.cells
  rw [hw1] at k0 k1 k2 k3
  have HW1 := Lib.hid hw1
  have HM1 := Lib.hid m1
  have HV := Lib.hid (rvalid i st A B n c m d nx ot w1 (hx.below b1) (ho.below b1))
  have HB1 := Lib.hid b1
  by_cases h0 : vld i st nx ot = 0
  · obtain ⟨i', st', n', rfl, rfl, hM⟩ := vld_zero h0
    have h2 := hM.nxl
    have h3 := hM.otl
    have h4 := hx.1
    have h5 := ho.1
    obtain rfl : n = n' := by omega
    obtain rfl : m = n := by omega
    rw [h0] at HV
    have HMK : Hid (mck i' st' nx ot = if (mnR nx ot i' st' m).length = m then 0 else 1) := Lib.hid (by unfold mck; rw [if_pos h0, Int.toNat_natCast, Int.toNat_natCast, h2])
    have HMI := Lib.hid (fun (W : World) (h : Below w1.heap.size w1 W) (b : Bool) (hb : b = decide ((mnR nx ot i' st' m).length = m)) => rminl_ok i' st' m A B c d nx ot b W ((hx.below b1).below h) ((ho.below b1).below h) hM hb)
    by_cases hR : (mnR nx ot i' st' m).length = m
    · rw [if_pos hR] at HMK
      have HM2 := Lib.hid (fun (W : World) (h : Below w1.heap.size w1 W) => HMI.out W h true (decide_eq_true hR).symm)
      clear hw1 m1 b1 hx ho hM h0 h2 h3 h4 h5 hR HMI
      go_enter Try.func26, Try.ntmps26
      go_wp2_with fail
      rw [← HW1.out]
      refine HV.out.mono ?_
      rintro e w2 ⟨rfl, b2⟩
      clear k0 k1 k2 k3
      obtain ⟨k0, k1, k2, k3, _⟩ := (HM1.out.kept b2 (by omega)).cells
      have HB2 := Lib.hid b2
      clear b2
      go_wp2_with fail
      refine (HM2.out _ HB2.out).mono ?_
      rintro e w3 ⟨rfl, b3⟩
      have HB3 := Lib.hid (bt HB1.out (bt HB2.out b3))
      clear b3 k0 k1 k2 k3
      go_wp2
      go_ret
      exact ⟨by rw [HMK.out]; rfl, HB3.out⟩
    · rw [if_neg hR] at HMK
      have HM2 := Lib.hid (fun (W : World) (h : Below w1.heap.size w1 W) => HMI.out W h false (decide_eq_false hR).symm)
      clear hw1 m1 b1 hx ho hM h0 h2 h3 h4 h5 hR HMI
      go_enter Try.func26, Try.ntmps26
      go_wp2_with fail
      rw [← HW1.out]
      refine HV.out.mono ?_
      rintro e w2 ⟨rfl, b2⟩
      clear k0 k1 k2 k3
      obtain ⟨k0, k1, k2, k3, _⟩ := (HM1.out.kept b2 (by omega)).cells
      have HB2 := Lib.hid b2
      clear b2
      go_wp2_with fail
      refine (HM2.out _ HB2.out).mono ?_
      rintro e w3 ⟨rfl, b3⟩
      have HB3 := Lib.hid (bt HB1.out (bt HB2.out b3))
      clear b3 k0 k1 k2 k3
      go_wp2
      go_ret
      exact ⟨by rw [HMK.out]; rfl, HB3.out⟩
  · have HMK : Hid (mck i st nx ot = vld i st nx ot) := Lib.hid (by unfold mck; rw [if_neg h0])
    generalize vld i st nx ot = v at HV HMK h0
    have hne : (v != 0) = true := by simpa using h0
    clear hw1 m1 b1 hx ho h0
    go_enter Try.func26, Try.ntmps26
    go_wp2_with fail
    rw [← HW1.out]
    refine HV.out.mono ?_
    rintro e w2 ⟨rfl, b2⟩
    have HB2 := Lib.hid (bt HB1.out b2)
    clear b2 k0 k1 k2 k3
    go_wp2
    go_ret
    exact ⟨by rw [HMK.out]; rfl, HB2.out⟩

set_option maxHeartbeats 8000000 in
set_option maxRecDepth 100000 in
theorem rword_ok (i st n : Nat) (A B : Option Addr) (c d : Nat) (nx ot : List (List Int)) (r : List Int) (er : Int) (w : World) (hx : Lists w A n nx) (ho : Lists w B n ot) (hM : Mok i st n nx ot) (hR : (mnR nx ot i st n).length = n) (hh : Hom i n nx ot [] r er) :
    Calls Try.prog 18 #[.agg #[.int .i64 i, .int .i64 st, .slice A n c, .slice B n d]] w fun e w' => ∃ A' c', e = .returned (.tuple #[.slice A' r.length c', .int .i64 er]) ∧ Owned w' w.heap.size (.slice A' r.length c') r ∧ Below w.heap.size w w' := by
  obtain ⟨w1, hw1⟩ : ∃ w1, w1 = w.alloc (.cells #[.int .i64 i, .int .i64 st, .slice A n c, .slice B n d] 24) := ⟨_, rfl⟩
  have b1 : Below w.heap.size w w1 := by rw [hw1]; exact alloc_below _ _
  have m1 : Mblk w1 w.heap.size (.int .i64 i) (.int .i64 st) (.slice A n c) (.slice B n d) := by rw [hw1]; exact mealy_box _ _ _ _ _
  have z1 : w1.heap.size = w.heap.size + 1 := by rw [hw1]; simp
  obtain ⟨k0, k1, k2, k3, _⟩ := m1.cells
  rw [hw1] at k0 k1 k2 k3
  have hn := hM.n2
  have HW1 := Lib.hid hw1
  have HC := Lib.hid (rcheck11 i st A B n c n d nx ot w1 (hx.below b1) (ho.below b1))
  have hmk : mck i st nx ot = 0 := by unfold mck; rw [if_pos hM.vld, Int.toNat_natCast, Int.toNat_natCast, hM.nxl, if_pos hR]
  rw [hmk] at HC
  have HOP := Lib.hid (fun (W : World) (hw : Below w1.heap.size w1 W) (X : Option Addr) (k cx : Nat) (u : List Int) (hu : Ints W X k u) (hW : Wd i u) (hk : k ≤ 1024) => ropen13 i st n k cx A B X c d nx ot u W ((hx.below b1).below hw) ((ho.below b1).below hw) hM hu hW hk)
  have HST := Lib.hid (fun (W : World) (h : Below w1.heap.size w1 W) (s t : Nat) => rstates i st A B n c n d nx ot s t W ((hx.below b1).below h) ((ho.below b1).below h))
  have HSR := Lib.hid (fun (s t : Nat) (hs : s < n) (ht : t < n) => sres_ok hM hs ht)
  have HSTEP := Lib.hid (fun (u : List Int) (h : Hom i n nx ot u r er) => h.step hM hR)
  have HLEN := Lib.hid (fun (s t : Nat) (hs : s < n) (ht : t < n) => dst_len hM hM hs ht)
  have HH := Lib.hid hh
  have HK := Lib.hid (fun (W : World) (h : Below w1.heap.size w1 W) => (m1.kept h (show w.heap.size < w1.heap.size by omega)).cells)
  have HB1 := Lib.hid b1
  clear hw1 b1 m1 hx ho hM hR hh hmk
  go_enter Try.func18, Try.ntmps18
  go_wp2_with fail
  rw [← HW1.out]
  refine HC.out.mono ?_
  rintro e w2 ⟨rfl, b2⟩
  have HB2 := Lib.hid b2
  clear k0 k1 k2 k3 b2
  go_wp2
  go_loopw [5] (fun uv wr => ∃ (u : List Int) (U : Option Addr) (cu : Nat), uv = .slice U u.length cu ∧ Owned wr w1.heap.size (.slice U u.length cu) u ∧ Wd i u ∧ u.length ≤ 1024 ∧ Hom i n nx ot u r er ∧ Below w1.heap.size w1 wr) (fun uv _ => 1024 - lenV uv)
  case atStart => exact ⟨[], none, 0, rfl, Owned.nil _ _, Wd.nil i, by simp, HH.out, HB2.out⟩
  case round =>
    obtain ⟨u, U, cu, rfl, hU, hW, hlen, hH, hbr⟩ := hrel
    have HU := Lib.hid hU
    have HWD := Lib.hid hW
    have HHM := Lib.hid hH
    have HBR := Lib.hid hbr
    have hzr := hbr.size
    obtain ⟨k0, k1, k2, k3, _⟩ := HK.out _ hbr
    clear hU hW hH hbr
    go_wp2_with fail
    refine (HOP.out _ HBR.out U u.length cu u (HU.out.ints (by omega)) HWD.out (by omega)).mono ?_
    rintro e w3 ⟨A3, c3, rfl, o3, b3⟩
    have HB3 := Lib.hid (HBR.out.trans (b3.mono hzr))
    have HU3 := Lib.hid (HU.out.kept b3)
    have HO3 := Lib.hid o3
    have hz3 := b3.size
    clear o3 b3 k0 k1 k2 k3
    by_cases hg : opnL n nx ot u n = []
    · obtain ⟨rfl, rfl⟩ := HHM.out.fin hg
      rw [hg]
      clear hg
      go_wp2
      go_ret2
      exact ⟨U, cu, rfl, HU3.out.lower (by omega), HB1.out.trans (HB3.out.mono (by omega))⟩
    · obtain ⟨s, t, v, h1, h2, h3, h4, h5, h6, h7, h8⟩ := HSTEP.out u HHM.out hg
      have hone := (opnL_one n nx ot u).resolve_left hg
      have hvl := HLEN.out s t h3 h4
      rw [h5, show (some v).getD [] = v from rfl] at hvl
      have hsr := HSR.out s t h3 h4
      rw [h5] at hsr
      have hll : (opnL n nx ot u n).length ≤ 128 := by
        unfold opnL
        cases opn n nx ot u n with
        | none => simp
        | some b =>
          show (cur n nx ot u b).length ≤ 128
          unfold cur
          rw [zs_len]
          exact Nat.le_trans (List.length_filter_le _ _) (by rw [List.length_range]; exact hn)
      generalize opnL n nx ot u n = L at HO3 h1 h2 hone hg hll ⊢
      obtain ⟨g1, o1, rfl, hg1, hc1⟩ := (HO3.out.ints (by omega)).at_ (k := 0) (by omega)
      obtain ⟨g1', o1', e1, hg1', hc2⟩ := (HO3.out.ints (by omega)).at_ (k := 1) (by omega)
      cases e1
      rw [h1] at hc1
      rw [h2] at hc2
      rw [Nat.add_zero] at hc1
      obtain ⟨LL, hLL⟩ : ∃ LL, LL = L.length := ⟨_, rfl⟩
      rw [← hLL]
      have hnj0 : 0 < LL := by omega
      have hnj1 : ((1 : Int) < (LL : Int)) := by omega
      have hnjz : ((LL : Int) == 0) = false := by rw [beq_eq_false_iff_ne]; omega
      have HSTC : Hid (∀ W, Below w1.heap.size w1 W → Calls Try.prog 54 #[.agg #[.int .i64 i, .int .i64 st, .slice A n c, .slice B n d], .int .i64 s, .int .i64 t] W fun e w' => ∃ A' c', e = .returned (.tuple #[.slice A' v.length c', .bool true, .int .i64 0]) ∧ Owned w' W.heap.size (.slice A' v.length c') v ∧ Below W.heap.size W w') := Lib.hid (fun W h => by
        have := HST.out W h s t
        rw [hsr] at this
        exact this)
      have hk7 : ∀ W, Below w3.heap.size w3 W → W.cell? ⟨w.heap.size, 0, none⟩ = some (.int .i64 i) ∧ W.cell? ⟨w.heap.size, 1, none⟩ = some (.int .i64 st) ∧ W.cell? ⟨w.heap.size, 2, none⟩ = some (.slice A n c) ∧ W.cell? ⟨w.heap.size, 3, none⟩ = some (.slice B n d) ∧ W.cell? ⟨g1, o1, none⟩ = some (.int .i64 s) ∧ W.cell? ⟨g1, o1 + 1, none⟩ = some (.int .i64 t) := fun W hW => by
        obtain ⟨q0, q1, q2, q3, _⟩ := HK.out W (HB3.out.trans (hW.mono (by omega)))
        exact ⟨q0, q1, q2, q3, (hW.cell (p := ⟨g1, o1, none⟩) hg1).trans hc1, (hW.cell (p := ⟨g1, o1 + 1, none⟩) hg1).trans hc2⟩
      have HK7 := Lib.hid hk7
      obtain ⟨q0, q1, q2, q3, q5, q6⟩ := hk7 w3 (Below.refl _ _)
      have H8 := Lib.hid h8
      have HV6 := Lib.hid h6
      have HV7 := Lib.hid h7
      clear hk7 hsr h1 h2 h3 h4 h5 h6 h7 h8 hone hc1 hc2 hg hg1 hg1' hLL hll
      go_wp2_with fail
      go_region_held3 (fun w' => w'.cell? ⟨w.heap.size, 0, none⟩ = some (.int .i64 i) ∧ w'.cell? ⟨w.heap.size, 1, none⟩ = some (.int .i64 st) ∧ w'.cell? ⟨w.heap.size, 2, none⟩ = some (.slice A n c) ∧ w'.cell? ⟨w.heap.size, 3, none⟩ = some (.slice B n d) ∧ w'.cell? ⟨g1, o1, none⟩ = some (.int .i64 s) ∧ w'.cell? ⟨g1, o1 + 1, none⟩ = some (.int .i64 t))
        (first | exact HK7.out _ (below_drewN (Below.refl _ _) 1) | exact HK7.out _ (bt (below_drewN (Below.refl _ _) 1) b5) | go_keep)
        ((go_at_call 54; refine (HSTC.out _ (HB3.out.trans ((below_drewN (Below.refl _ _) 1).mono (by omega)))).mono ?_; rintro e w5 ⟨A5, c5, rfl, o5, b5⟩))
      have HO5 := Lib.hid (o5.lower (base' := w1.heap.size) (by simpa using Nat.le_trans hzr hz3))
      have hb5 := HB3.out.trans ((bt (below_drewN (Below.refl _ _) 1) b5).mono (by omega))
      have HB5 := Lib.hid hb5
      have HU5 := Lib.hid (HU3.out.kept (bt (below_drewN (Below.refl _ _) 1) b5))
      clear o5 b5 hb5 q0 q1 q2 q3 q5 q6
      have hz5 := HB5.out.size
      rcases H8.out with ⟨h1, rfl, rfl⟩ | ⟨h1, h2⟩
      · have hd : ((1024 : Int) < (u.length : Int) + (v.length : Int)) := by omega
        clear h1
        go_wp2
        go_ret2
        exact ⟨none, 0, rfl, Owned.nil _ _, HB1.out.trans (HB5.out.mono (by omega))⟩
      · have hd : ¬ ((1024 : Int) < (u.length : Int) + (v.length : Int)) := by omega
        obtain ⟨v6, w6, hr, ho6, hg6, hb6⟩ := run_append_ints w5 w1.heap.size _ u v A5 v.length c5 HU5.out (HO5.out.ints (by omega)) hz5 (by rw [List.length_append]; omega)
        obtain ⟨A6, c6, rfl⟩ := ho6.form
        have HO6 := Lib.hid ho6
        have HB6 := Lib.hid (HB5.out.trans hb6)
        have H2 := Lib.hid h2
        have H1 := Lib.hid h1
        clear h1 h2 ho6 hg6 hb6
        go_wp2_with (at_builtin; refine Lib.wpList_append_run _ rfl _ _ _ _ rfl _ _ rfl rfl _ _ hr ?_)
        go_roundw
        case rel => exact ⟨u ++ v, A6, c6, by rw [List.length_append], HO6.out, HWD.out.app HV6.out, by rw [List.length_append]; exact H1.out, H2.out, HB6.out⟩
        case measure => have := H1.out; have := HV7.out; simp [lenV]; omega
end Go.Proofs.Ytogcecfeofbbnaa
end

section
/- homing: Possible and Final. -/
namespace Go.Proofs.Ytogcecfeofbbnaa
open Go.RowKit Go.Shelf

theorem cur_le (n : Nat) (nx ot : List (List Int)) (w o : List Int) : (cur n nx ot w o).length ≤ n := by
  unfold cur
  rw [zs_len]
  exact Nat.le_trans (List.length_filter_le _ _) (by rw [List.length_range]; exact Nat.le_refl _)

set_option maxHeartbeats 4000000 in
set_option maxRecDepth 100000 in
theorem ppossible_ok (i st n : Nat) (A B X Y : Option Addr) (c d k cx cy : Nat) (nx ot : List (List Int)) (u o : List Int) (w : World) (hx : Lists w A n nx) (ho : Lists w B n ot) (hu : Ints w X k u) (hy : Ints w Y k o) (hM : Mok i st n nx ot) (hc : chk u i = 0) :
    Calls Try.prog 22 #[.agg #[.int .i64 i, .int .i64 st, .slice A n c, .slice B n d], .slice X k cx, .slice Y k cy] w fun e w' => ∃ A' c', e = .returned (.tuple #[.slice A' (cur n nx ot u o).length c', .int .i64 0]) ∧ Owned w' w.heap.size (.slice A' (cur n nx ot u o).length c') (cur n nx ot u o) ∧ Below w.heap.size w w' := by
  obtain ⟨w1, hw1⟩ : ∃ w1, w1 = w.alloc (.cells #[.int .i64 i, .int .i64 st, .slice A n c, .slice B n d] 24) := ⟨_, rfl⟩
  have b1 : Below w.heap.size w w1 := by rw [hw1]; exact alloc_below _ _
  have m1 : Mblk w1 w.heap.size (.int .i64 i) (.int .i64 st) (.slice A n c) (.slice B n d) := by rw [hw1]; exact mealy_box _ _ _ _ _
  have z1 : w1.heap.size = w.heap.size + 1 := by rw [hw1]; simp
  obtain ⟨k0, k1, k2, k3, _⟩ := m1.cells
  rw [hw1] at k0 k1 k2 k3
  have hku := (chk_zero hc).2.2.1
  have hsym : ∀ x, x ∈ u → 0 ≤ x ∧ x < i := Syms.mem (chk_zero hc).2.2.2
  have hul := hu.1
  have hol := hy.1
  have HW1 := Lib.hid hw1
  have HM1 := Lib.hid m1
  have HCK := Lib.hid (phcheck i st A B X n c n d k cx nx ot u w1 (hx.below b1) (ho.below b1) (hu.below b1))
  have hck : hck i st nx ot u = 0 := by unfold hck; rw [if_pos hM.vld, hc]
  rw [hck] at HCK
  have HX := Lib.hid (hx.below b1)
  have HO := Lib.hid (ho.below b1)
  have HU := Lib.hid (hu.below b1)
  have HY := Lib.hid (hy.below b1)
  have HB1 := Lib.hid b1
  have HM := Lib.hid hM
  have HS := Lib.hid hsym
  have hn := hM.n2
  clear hw1 m1 b1 hx ho hu hy hM hsym hck hc
  go_enter Try.func22, Try.ntmps22
  go_wp2_with fail
  rw [← HW1.out]
  refine HCK.out.mono ?_
  rintro e w2 ⟨rfl, b2⟩
  clear k0 k1 k2 k3
  obtain ⟨k0, k1, k2, k3, _⟩ := (HM1.out.kept b2 (by omega)).cells
  have HB2 := Lib.hid b2
  clear b2
  go_wp2_with fail
  refine (pall (.int .i64 i) (.int .i64 st) (.slice B n d) n c A w2 (by omega)).mono ?_
  rintro e w3 ⟨A3, c3, rfl, ho3, b3⟩
  have HB3 := Lib.hid (bt HB2.out b3)
  have HO3 := Lib.hid (ho3.lower HB2.out.size)
  clear ho3 b3 k0 k1 k2 k3
  go_wp2
  go_loopw [27, 9] (fun kv sv wr => ∃ (q : Nat) (A' : Option Addr) (c' : Nat), q ≤ k ∧ kv = .int .i64 q ∧ sv = .slice A' (cur n nx ot (u.take q) (o.take q)).length c' ∧ Owned wr w1.heap.size (.slice A' (cur n nx ot (u.take q) (o.take q)).length c') (cur n nx ot (u.take q) (o.take q)) ∧ Below w1.heap.size w1 wr) (fun kv _ _ => k - (intOf kv).toNat)
  case atStart =>
    have hl : (zs (List.range n)).length = n := by rw [zs_len, List.length_range]
    refine ⟨0, A3, c3, Nat.zero_le _, rfl, ?_, ?_, HB3.out⟩
    · rw [List.take_zero, List.take_zero, cur_nil, hl]
    · rw [List.take_zero, List.take_zero, cur_nil, hl]; exact HO3.out
  case round =>
    clear HO3 HB3 HB2
    obtain ⟨q, A', c', hq, rfl, rfl, hown, hbr⟩ := hrel
    have HBR := Lib.hid hbr
    have HOW := Lib.hid hown
    clear hown
    by_cases hlt : q < k
    · obtain ⟨k0, k1, k2, k3, _⟩ := (HM1.out.kept hbr (by omega)).cells
      obtain ⟨gu, ou, rfl, _, cu⟩ := (HU.out.below hbr).at_ hlt
      obtain ⟨gy, oy, rfl, _, cy1⟩ := (HY.out.below hbr).at_ hlt
      have hin := HS.out _ (getD_in (xs := u) (k := q) (by omega))
      have hnext := Lib.hid (cur_take (n := n) HM.out (k := q) HS.out (by omega) (by omega : q < o.length))
      obtain ⟨a, ha⟩ : ∃ a : Nat, u.getD q 0 = a := ⟨(u.getD q 0).toNat, by omega⟩
      rw [ha] at cu hin hnext
      rw [Int.toNat_natCast] at hnext
      generalize o.getD q 0 = y at cy1 hnext
      have HAF := Lib.hid (fun (W : World) (h : Below wr.heap.size wr W) => pafter i st n (cur n nx ot (u.take q) (o.take q)).length c' a y A B A' c d nx ot (cur n nx ot (u.take q) (o.take q)) W (HX.out.below (bt hbr h)) (HO.out.below (bt hbr h)) HM.out ((HOW.out.ints (by have := cur_le n nx ot (u.take q) (o.take q); omega)).below h) (fun x hx => cur_nat hx) (by omega))
      rw [← hnext.out] at HAF
      have hzr := hbr.size
      generalize hC : cur n nx ot (u.take q) (o.take q) = C at HAF HOW ⊢
      have hCL : C.length ≤ n := by rw [← hC]; exact cur_le _ _ _ _ _
      clear hC hnext hin ha hbr
      generalize hL : C.length = L at HAF ⊢
      clear hL hCL HOW
      have hk4 : ∀ W, Below wr.heap.size wr W → W.cell? ⟨w.heap.size, 0, none⟩ = some (.int .i64 i) ∧ W.cell? ⟨w.heap.size, 1, none⟩ = some (.int .i64 st) ∧ W.cell? ⟨w.heap.size, 2, none⟩ = some (.slice A n c) ∧ W.cell? ⟨w.heap.size, 3, none⟩ = some (.slice B n d) ∧ W.cell? ⟨gy, oy + q, none⟩ = some (.int .i64 y) := fun W hW => by
        have hb := World.block_lt_of_cell? wr _ k0
        have hb2 := World.block_lt_of_cell? wr _ cy1
        exact ⟨(hW.cell (p := ⟨w.heap.size, 0, none⟩) hb).trans k0, (hW.cell (p := ⟨w.heap.size, 1, none⟩) hb).trans k1, (hW.cell (p := ⟨w.heap.size, 2, none⟩) hb).trans k2, (hW.cell (p := ⟨w.heap.size, 3, none⟩) hb).trans k3, (hW.cell hb2).trans cy1⟩
      have HK := Lib.hid hk4
      clear hk4
      go_wp2_with fail
      go_region_held3 (fun w' => w'.cell? ⟨w.heap.size, 0, none⟩ = some (.int .i64 i) ∧ w'.cell? ⟨w.heap.size, 1, none⟩ = some (.int .i64 st) ∧ w'.cell? ⟨w.heap.size, 2, none⟩ = some (.slice A n c) ∧ w'.cell? ⟨w.heap.size, 3, none⟩ = some (.slice B n d) ∧ w'.cell? ⟨gy, oy + q, none⟩ = some (.int .i64 y))
        (first | exact HK.out _ (below_drewN (Below.refl _ _) 1) | exact HK.out _ (bt (below_drewN (Below.refl _ _) 1) b2) | go_keep)
        ((go_at_call 58; refine (HAF.out _ (below_drewN (Below.refl _ _) 1)).mono ?_; rintro e w2 ⟨A2, c2, rfl, o2, b2⟩))
      have HO2 := Lib.hid o2
      have HB2 := Lib.hid b2
      clear o2 b2
      go_wp2
      go_roundw
      case rel => exact ⟨q + 1, A2, c2, by omega, by go_num, rfl, HO2.out.lower hzr, HBR.out.trans ((bt (below_drewN (Below.refl _ _) 1) HB2.out).mono hzr)⟩
      case measure => simp [intOf]; omega
    · obtain rfl : q = k := by omega
      have e1 : u.take q = u := by rw [← hul, List.take_length]
      have e2 : o.take q = o := by rw [← hol, List.take_length]
      rw [e1, e2] at HOW ⊢
      clear hbr e1 e2
      go_wp2
      go_ret2
      exact ⟨A', c', rfl, HOW.out.lower (by omega), HB1.out.trans (HBR.out.mono (by omega))⟩
set_option maxHeartbeats 1000000 in
theorem ppossible_bad (i st : Int) (A B X Y : Option Addr) (n c m d k cx l cy : Nat) (nx ot : List (List Int)) (u : List Int) (v : Int) (w : World) (hx : Lists w A n nx) (ho : Lists w B m ot) (hu : Ints w X k u) (hv : v = hck i st nx ot u) (hv0 : ¬ v = 0) :
    Calls Try.prog 22 #[.agg #[.int .i64 i, .int .i64 st, .slice A n c, .slice B m d], .slice X k cx, .slice Y l cy] w fun e w' => e = .returned (.tuple #[.slice none 0 0, .int .i64 v]) ∧ Below w.heap.size w w' := by
  obtain ⟨w1, hw1⟩ : ∃ w1, w1 = w.alloc (.cells #[.int .i64 i, .int .i64 st, .slice A n c, .slice B m d] 24) := ⟨_, rfl⟩
  have b1 : Below w.heap.size w w1 := by rw [hw1]; exact alloc_below _ _
  have m1 : Mblk w1 w.heap.size (.int .i64 i) (.int .i64 st) (.slice A n c) (.slice B m d) := by rw [hw1]; exact mealy_box _ _ _ _ _
  obtain ⟨k0, k1, k2, k3, _⟩ := m1.cells
  rw [hw1] at k0 k1 k2 k3
  have HW1 := Lib.hid hw1
  have HCK := Lib.hid (phcheck i st A B X n c m d k cx nx ot u w1 (hx.below b1) (ho.below b1) (hu.below b1))
  rw [← hv] at HCK
  have HB1 := Lib.hid b1
  have hne : (v != 0) = true := by simpa using hv0
  clear hw1 m1 b1 hx ho hu hv hv0
  go_enter Try.func22, Try.ntmps22
  go_wp2_with fail
  rw [← HW1.out]
  refine HCK.out.mono ?_
  rintro e w2 ⟨rfl, b2⟩
  have HB2 := Lib.hid (bt HB1.out b2)
  clear b2 k0 k1 k2 k3
  go_wp2
  go_ret2
  exact ⟨rfl, HB2.out⟩
set_option maxHeartbeats 1000000 in
theorem ppossible_len (i st : Int) (A B X Y : Option Addr) (n c m d k cx l cy : Nat) (nx ot : List (List Int)) (u : List Int) (w : World) (hx : Lists w A n nx) (ho : Lists w B m ot) (hu : Ints w X k u) (hv : hck i st nx ot u = 0) (hl : ¬ k = l) :
    Calls Try.prog 22 #[.agg #[.int .i64 i, .int .i64 st, .slice A n c, .slice B m d], .slice X k cx, .slice Y l cy] w fun e w' => e = .returned (.tuple #[.slice none 0 0, .int .i64 1]) ∧ Below w.heap.size w w' := by
  obtain ⟨w1, hw1⟩ : ∃ w1, w1 = w.alloc (.cells #[.int .i64 i, .int .i64 st, .slice A n c, .slice B m d] 24) := ⟨_, rfl⟩
  have b1 : Below w.heap.size w w1 := by rw [hw1]; exact alloc_below _ _
  have m1 : Mblk w1 w.heap.size (.int .i64 i) (.int .i64 st) (.slice A n c) (.slice B m d) := by rw [hw1]; exact mealy_box _ _ _ _ _
  obtain ⟨k0, k1, k2, k3, _⟩ := m1.cells
  rw [hw1] at k0 k1 k2 k3
  have HW1 := Lib.hid hw1
  have HCK := Lib.hid (phcheck i st A B X n c m d k cx nx ot u w1 (hx.below b1) (ho.below b1) (hu.below b1))
  rw [hv] at HCK
  have HB1 := Lib.hid b1
  have hne : ((k : Int) != (l : Int)) = true := by rw [bne_iff_ne]; omega
  clear hw1 m1 b1 hx ho hu hv
  go_enter Try.func22, Try.ntmps22
  go_wp2_with fail
  rw [← HW1.out]
  refine HCK.out.mono ?_
  rintro e w2 ⟨rfl, b2⟩
  have HB2 := Lib.hid (bt HB1.out b2)
  clear b2 k0 k1 k2 k3
  go_wp2
  go_ret2
  exact ⟨rfl, HB2.out⟩

/-- What Possible returns: the states and the error. -/
def posL (i st : Int) (nx ot : List (List Int)) (u o : List Int) : List Int := if hck i st nx ot u = 0 ∧ u.length = o.length then cur nx.length nx ot u o else []
def posE (i st : Int) (nx ot : List (List Int)) (u o : List Int) : Int := if hck i st nx ot u = 0 then (if u.length = o.length then 0 else 1) else hck i st nx ot u
theorem hck_zero {i st : Int} {nx ot : List (List Int)} {u : List Int} (h : hck i st nx ot u = 0) : vld i st nx ot = 0 ∧ chk u i = 0 := by
  unfold hck at h
  by_cases h0 : vld i st nx ot = 0
  · rw [if_pos h0] at h; exact ⟨h0, h⟩
  · rw [if_neg h0] at h; exact absurd h h0
theorem ppossible (i st : Int) (A B X Y : Option Addr) (n c m d k cx l cy : Nat) (nx ot : List (List Int)) (u o : List Int) (w : World) (hx : Lists w A n nx) (ho : Lists w B m ot) (hu : Ints w X k u) (hy : Ints w Y l o) :
    Calls Try.prog 22 #[.agg #[.int .i64 i, .int .i64 st, .slice A n c, .slice B m d], .slice X k cx, .slice Y l cy] w fun e w' => ∃ A' c', e = .returned (.tuple #[.slice A' (posL i st nx ot u o).length c', .int .i64 (posE i st nx ot u o)]) ∧ Owned w' w.heap.size (.slice A' (posL i st nx ot u o).length c') (posL i st nx ot u o) ∧ Below w.heap.size w w' := by
  have hul := hu.1
  have hol := hy.1
  by_cases h0 : hck i st nx ot u = 0
  · by_cases h1 : k = l
    · subst h1
      obtain ⟨hv, hc⟩ := hck_zero h0
      obtain ⟨i', st', n', rfl, rfl, hM⟩ := vld_zero hv
      have h2 := hM.nxl
      have h3 := hM.otl
      have h4 := hx.1
      have h5 := ho.1
      obtain rfl : n = n' := by omega
      obtain rfl : m = n := by omega
      have e1 : posL i' st' nx ot u o = cur m nx ot u o := by unfold posL; rw [if_pos ⟨h0, by omega⟩, h2]
      have e2 : posE i' st' nx ot u o = 0 := by unfold posE; rw [if_pos h0, if_pos (by omega)]
      rw [e1, e2]
      exact ppossible_ok i' st' m A B X Y c d k cx cy nx ot u o w hx ho hu hy hM hc
    · have e1 : posL i st nx ot u o = [] := by unfold posL; rw [if_neg fun h => h1 (by have := h.2; omega)]
      have e2 : posE i st nx ot u o = 1 := by unfold posE; rw [if_pos h0, if_neg (by omega)]
      rw [e1, e2]
      refine (ppossible_len i st A B X Y n c m d k cx l cy nx ot u w hx ho hu h0 h1).mono ?_
      rintro e w' ⟨rfl, hb⟩
      exact ⟨none, 0, rfl, Owned.nil _ _, hb⟩
  · have e1 : posL i st nx ot u o = [] := by unfold posL; rw [if_neg fun h => h0 h.1]
    have e2 : posE i st nx ot u o = hck i st nx ot u := by unfold posE; rw [if_neg h0]
    rw [e1, e2]
    refine (ppossible_bad i st A B X Y n c m d k cx l cy nx ot u _ w hx ho hu rfl h0).mono ?_
    rintro e w' ⟨rfl, hb⟩
    exact ⟨none, 0, rfl, Owned.nil _ _, hb⟩

/-- What Final returns: the state, and whether it is known. -/
def finS (l : List Int) : Int := if l.length = 1 then l.getD 0 0 else 0
def finB (l : List Int) : Bool := decide (l.length = 1)
set_option maxHeartbeats 2000000 in
theorem pfinal (i st : Int) (A B X Y : Option Addr) (n c m d k cx l cy : Nat) (nx ot : List (List Int)) (u o : List Int) (w : World) (hx : Lists w A n nx) (ho : Lists w B m ot) (hu : Ints w X k u) (hy : Ints w Y l o) :
    Calls Try.prog 24 #[.agg #[.int .i64 i, .int .i64 st, .slice A n c, .slice B m d], .slice X k cx, .slice Y l cy] w fun e w' => e = .returned (.tuple #[.int .i64 (finS (posL i st nx ot u o)), .bool (finB (posL i st nx ot u o)), .int .i64 (posE i st nx ot u o)]) ∧ Below w.heap.size w w' := by
  obtain ⟨w1, hw1⟩ : ∃ w1, w1 = w.alloc (.cells #[.int .i64 i, .int .i64 st, .slice A n c, .slice B m d] 24) := ⟨_, rfl⟩
  have b1 : Below w.heap.size w w1 := by rw [hw1]; exact alloc_below _ _
  have m1 : Mblk w1 w.heap.size (.int .i64 i) (.int .i64 st) (.slice A n c) (.slice B m d) := by rw [hw1]; exact mealy_box _ _ _ _ _
  obtain ⟨k0, k1, k2, k3, _⟩ := m1.cells
  rw [hw1] at k0 k1 k2 k3
  have HW1 := Lib.hid hw1
  have HP := Lib.hid (ppossible i st A B X Y n c m d k cx l cy nx ot u o w1 (hx.below b1) (ho.below b1) (hu.below b1) (hy.below b1))
  have HB1 := Lib.hid b1
  have hz : posL i st nx ot u o = [] ∨ posE i st nx ot u o = 0 := by
    unfold posL posE
    by_cases h : hck i st nx ot u = 0 ∧ u.length = o.length
    · right; rw [if_pos h.1, if_pos h.2]
    · left; rw [if_neg h]
  have hbd : (posL i st nx ot u o).length ≤ 128 := by
    unfold posL
    by_cases h : hck i st nx ot u = 0 ∧ u.length = o.length
    · rw [if_pos h]
      obtain ⟨hv, _⟩ := hck_zero h.1
      obtain ⟨i', st', n', _, _, hM⟩ := vld_zero hv
      have := cur_le nx.length nx ot u o
      have := hM.nxl
      have := hM.n2
      omega
    · rw [if_neg h]; simp
  clear hw1 m1 b1 hx ho hu hy
  generalize posL i st nx ot u o = L at HP hz hbd
  generalize posE i st nx ot u o = E at HP hz
  by_cases h1 : L.length = 1
  · obtain rfl : E = 0 := hz.resolve_left fun e => by rw [e] at h1; simp at h1
    have HS : Hid (finS L = L.getD 0 0 ∧ finB L = true) := Lib.hid ⟨by unfold finS; rw [if_pos h1], decide_eq_true h1⟩
    rw [h1] at HP
    clear hz hbd
    go_enter Try.func24, Try.ntmps24
    go_wp2_with fail
    rw [← HW1.out]
    refine HP.out.mono ?_
    rintro e w2 ⟨A2, c2, rfl, o2, b2⟩
    obtain ⟨b3, o3, rfl, _, c3⟩ := (o2.ints (by omega)).at_ (k := 0) (by omega)
    have HB2 := Lib.hid (bt HB1.out b2)
    rw [Nat.add_zero] at c3
    generalize L.getD 0 0 = x at HS c3
    clear b2 o2 k0 k1 k2 k3
    go_wp2
    go_ret3
    exact ⟨by rw [HS.out.1, HS.out.2]; rfl, HB2.out⟩
  · have HS : Hid (finS L = 0 ∧ finB L = false) := Lib.hid ⟨by unfold finS; rw [if_neg h1], decide_eq_false h1⟩
    obtain ⟨q, hq⟩ : ∃ q, q = L.length := ⟨_, rfl⟩
    rw [← hq] at HP hbd
    have hne : ((q : Int) != 1) = true := by rw [bne_iff_ne]; omega
    clear hz hq
    by_cases hE : E = 0
    · subst hE
      go_enter Try.func24, Try.ntmps24
      go_wp2_with fail
      rw [← HW1.out]
      refine HP.out.mono ?_
      rintro e w2 ⟨A2, c2, rfl, o2, b2⟩
      have HB2 := Lib.hid (bt HB1.out b2)
      clear b2 o2 k0 k1 k2 k3
      go_wp2
      go_ret3
      exact ⟨by rw [HS.out.1, HS.out.2]; rfl, HB2.out⟩
    · have hne2 : (E != 0) = true := by simpa using hE
      go_enter Try.func24, Try.ntmps24
      go_wp2_with fail
      rw [← HW1.out]
      refine HP.out.mono ?_
      rintro e w2 ⟨A2, c2, rfl, o2, b2⟩
      have HB2 := Lib.hid (bt HB1.out b2)
      clear b2 o2 k0 k1 k2 k3
      go_wp2
      go_ret3
      exact ⟨by rw [HS.out.1, HS.out.2]; rfl, HB2.out⟩
end Go.Proofs.Ytogcecfeofbbnaa
end

section
/- homing: Resolves. -/
namespace Go.Proofs.Ytogcecfeofbbnaa
open Go.RowKit Go.Shelf

theorem grp_nil_iff {n : Nat} {nx ot : List (List Int)} {w : List Int} {G : List (List Int)} (h : Grp n nx ot w G) : G.length = 0 ↔ opnL n nx ot w n = [] := by
  rw [h.opnL]
  cases G with
  | nil => simp
  | cons g G =>
    obtain ⟨o, _, h2, _⟩ := h.head
    refine ⟨fun e => by simp at e, fun e => ?_⟩
    have e : g = [] := e
    rw [e] at h2
    simp at h2

set_option maxHeartbeats 1000000 in
theorem presolves_bad (i st : Int) (A B X : Option Addr) (n c m d k cx : Nat) (nx ot : List (List Int)) (u : List Int) (v : Int) (w : World) (hx : Lists w A n nx) (ho : Lists w B m ot) (hu : Ints w X k u) (hv : v = hck i st nx ot u) (hv0 : ¬ v = 0) :
    Calls Try.prog 20 #[.agg #[.int .i64 i, .int .i64 st, .slice A n c, .slice B m d], .slice X k cx] w fun e w' => e = .returned (.tuple #[.bool false, .int .i64 v]) ∧ Below w.heap.size w w' := by
  obtain ⟨w1, hw1⟩ : ∃ w1, w1 = w.alloc (.cells #[.int .i64 i, .int .i64 st, .slice A n c, .slice B m d] 24) := ⟨_, rfl⟩
  have b1 : Below w.heap.size w w1 := by rw [hw1]; exact alloc_below _ _
  have m1 : Mblk w1 w.heap.size (.int .i64 i) (.int .i64 st) (.slice A n c) (.slice B m d) := by rw [hw1]; exact mealy_box _ _ _ _ _
  obtain ⟨k0, k1, k2, k3, _⟩ := m1.cells
  rw [hw1] at k0 k1 k2 k3
  have HW1 := Lib.hid hw1
  have HCK := Lib.hid (phcheck i st A B X n c m d k cx nx ot u w1 (hx.below b1) (ho.below b1) (hu.below b1))
  rw [← hv] at HCK
  have HB1 := Lib.hid b1
  have hne : (v != 0) = true := by simpa using hv0
  clear hw1 m1 b1 hx ho hu hv hv0
  go_enter Try.func20, Try.ntmps20
  go_wp2_with fail
  rw [← HW1.out]
  refine HCK.out.mono ?_
  rintro e w2 ⟨rfl, b2⟩
  have HB2 := Lib.hid (bt HB1.out b2)
  clear b2 k0 k1 k2 k3
  go_wp2
  go_ret2
  exact ⟨rfl, HB2.out⟩

set_option maxHeartbeats 4000000 in
set_option maxRecDepth 100000 in
theorem presolves_ok (i st n : Nat) (A B X : Option Addr) (c d k cx : Nat) (nx ot : List (List Int)) (u : List Int) (w : World) (hx : Lists w A n nx) (ho : Lists w B n ot) (hu : Ints w X k u) (hM : Mok i st n nx ot) (hc : chk u i = 0) :
    Calls Try.prog 20 #[.agg #[.int .i64 i, .int .i64 st, .slice A n c, .slice B n d], .slice X k cx] w fun e w' => e = .returned (.tuple #[.bool (decide (opnL n nx ot u n = [])), .int .i64 0]) ∧ Below w.heap.size w w' := by
  obtain ⟨w1, hw1⟩ : ∃ w1, w1 = w.alloc (.cells #[.int .i64 i, .int .i64 st, .slice A n c, .slice B n d] 24) := ⟨_, rfl⟩
  have b1 : Below w.heap.size w w1 := by rw [hw1]; exact alloc_below _ _
  have m1 : Mblk w1 w.heap.size (.int .i64 i) (.int .i64 st) (.slice A n c) (.slice B n d) := by rw [hw1]; exact mealy_box _ _ _ _ _
  have z1 : w1.heap.size = w.heap.size + 1 := by rw [hw1]; simp
  obtain ⟨k0, k1, k2, k3, _⟩ := m1.cells
  rw [hw1] at k0 k1 k2 k3
  have hW : Wd i u := Syms.mem (chk_zero hc).2.2.2
  have hul := hu.1
  have hku := (chk_zero hc).2.2.1
  have HW1 := Lib.hid hw1
  have HCK := Lib.hid (phcheck i st A B X n c n d k cx nx ot u w1 (hx.below b1) (ho.below b1) (hu.below b1))
  have hck : hck i st nx ot u = 0 := by unfold hck; rw [if_pos hM.vld, hc]
  rw [hck] at HCK
  have hn := hM.n2
  have HBEG := Lib.hid (fun (W : World) => pbegin (.int .i64 i) (.int .i64 st) (.slice B n d) n c A W (by omega))
  have HAFT := Lib.hid (fun (W : World) (hW1 : Below w1.heap.size w1 W) (Z : Option Addr) (cz : Nat) (hZ : Lists W Z (gadd [] (zs (List.range n))).length (gadd [] (zs (List.range n)))) => pgafter i st n (gadd [] (zs (List.range n))).length cz k cx A B Z X c d nx ot (gadd [] (zs (List.range n))) [] u W ((hx.below b1).below hW1) ((ho.below b1).below hW1) hM hZ (Grp.begin n nx ot) (Wd.nil i) ((hu.below b1).below hW1) hW (by omega))
  have hg0 := Grp.begin n nx ot
  have HROWS := Lib.hid (fun (W : World) (base : Nat) (Z : Option Addr) (cz : Nat) (h : OwnedG W base (.slice Z (gadd [] (zs (List.range n))).length cz) (gadd [] (zs (List.range n)))) => h.rows (n := n) (by have := hg0.len; omega) hn fun xs hx => (hg0.mem xs hx).1)
  clear hg0
  generalize gadd [] (zs (List.range n)) = G0 at HBEG HAFT HROWS
  have HK := Lib.hid (fun (W : World) (h : Below w1.heap.size w1 W) => (m1.kept h (show w.heap.size < w1.heap.size by omega)).cells)
  have HB1 := Lib.hid b1
  clear hw1 b1 m1 hx ho hu hM hck hc hW
  go_enter Try.func20, Try.ntmps20
  go_wp2_with fail
  rw [← HW1.out]
  refine HCK.out.mono ?_
  rintro e w2 ⟨rfl, b2⟩
  clear k0 k1 k2 k3
  obtain ⟨k0, k1, k2, k3, _⟩ := HK.out w2 b2
  have hz2 := b2.size
  have HB2 := Lib.hid b2
  clear b2
  have hd2 : Below w1.heap.size w1 (w2.drewN 1) := HB2.out.trans ((below_drewN (Below.refl _ w2) 1).mono hz2)
  have HD2 := Lib.hid hd2
  have HK1 := Lib.hid (HK.out _ hd2)
  clear hd2
  go_wp2_with fail
  go_region_held3 (fun w' => w'.cell? ⟨w.heap.size, 0, none⟩ = some (.int .i64 i) ∧ w'.cell? ⟨w.heap.size, 1, none⟩ = some (.int .i64 st) ∧ w'.cell? ⟨w.heap.size, 2, none⟩ = some (.slice A n c) ∧ w'.cell? ⟨w.heap.size, 3, none⟩ = some (.slice B n d))
    (first | exact ⟨HK1.out.1, HK1.out.2.1, HK1.out.2.2.1, HK1.out.2.2.2.1⟩ | exact ⟨hk3.1, hk3.2.1, hk3.2.2.1, hk3.2.2.2.1⟩ | exact ⟨hk4.1, hk4.2.1, hk4.2.2.1, hk4.2.2.2.1⟩ | go_keep)
    (first
      | (go_at_call 49; refine (HBEG.out _).mono ?_; rintro e w3 ⟨Z, cz, rfl, hG3, b3⟩; have hb3 := HB2.out.trans ((bt (below_drewN (Below.refl _ w2) 1) b3).mono hz2); have hk3 := HK.out _ hb3)
      | (go_at_call 52; refine (HAFT.out _ hb3 Z cz (HROWS.out _ _ Z cz hG3)).mono ?_; rintro e w4 ⟨Z4, c4, G4, rfl, hl4, hG4, b4⟩; have hb4 := hb3.trans (b4.mono hb3.size); have hk4 := HK.out _ hb4))
  all_goals
    have hG5 : Grp n nx ot u G4 := hG4
    have hd : ((G4.length : Int) == 0) = decide (opnL n nx ot u n = []) := by
      have hiff := grp_nil_iff hG5
      by_cases h0 : opnL n nx ot u n = []
      · rw [decide_eq_true h0, hiff.2 h0]; rfl
      · rw [decide_eq_false h0, beq_eq_false_iff_ne]
        intro e
        exact h0 (hiff.1 (by omega))
    have HD := Lib.hid hd
    have HB4 := Lib.hid hb4
    clear hd hG5 hG4 hG3 hl4 hb3 hb4 b3 b4 hk3 hk4
    go_wp2
    go_ret2
    exact ⟨by rw [← HD.out]; rfl, HB1.out.trans (HB4.out.mono (by omega))⟩
end Go.Proofs.Ytogcecfeofbbnaa
end

section
/- homing, the reference: check. -/
namespace Go.Proofs.Ytogcecfeofbbnaa
open Go.RowKit Go.Shelf

set_option maxHeartbeats 1000000 in
theorem rhcheck (i st : Int) (A B X : Option Addr) (n c m d k cx : Nat) (nx ot : List (List Int)) (xs : List Int) (w : World) (hx : Lists w A n nx) (ho : Lists w B m ot) (hxs : Ints w X k xs) :
    Calls Try.prog 56 #[.agg #[.int .i64 i, .int .i64 st, .slice A n c, .slice B m d], .slice X k cx] w fun e w' => e = .returned (.int .i64 (hck i st nx ot xs)) ∧ Below w.heap.size w w' := by
  obtain ⟨w1, hw1⟩ : ∃ w1, w1 = w.alloc (.cells #[.int .i64 i, .int .i64 st, .slice A n c, .slice B m d] 24) := ⟨_, rfl⟩
  have b1 : Below w.heap.size w w1 := by rw [hw1]; exact alloc_below _ _
  have m1 : Mblk w1 w.heap.size (.int .i64 i) (.int .i64 st) (.slice A n c) (.slice B m d) := by rw [hw1]; exact mealy_box _ _ _ _ _
  have z1 : w1.heap.size = w.heap.size + 1 := by rw [hw1]; simp
  obtain ⟨k0, k1, k2, k3, _⟩ := m1.cells
  rw [hw1] at k0 k1 k2 k3
  have HW1 := Lib.hid hw1
  have HM1 := Lib.hid m1
  have HV := Lib.hid (rvalid i st A B n c m d nx ot w1 (hx.below b1) (ho.below b1))
  have HXS := Lib.hid (hxs.below b1)
  have HB1 := Lib.hid b1
  clear hw1 m1 b1 hx ho hxs
  obtain ⟨v, hv⟩ : ∃ v, v = vld i st nx ot := ⟨_, rfl⟩
  rw [← hv] at HV
  have HVV : Hid (hck i st nx ot xs = if v = 0 then chk xs i else v) := Lib.hid (by rw [hv]; rfl)
  clear hv
  by_cases h0 : v = 0
  · subst h0
    rw [if_pos rfl] at HVV
    go_enter Try.func56, Try.ntmps56
    go_wp2_with fail
    rw [← HW1.out]
    refine HV.out.mono ?_
    rintro e w2 ⟨rfl, b2⟩
    clear k0 k1 k2 k3
    obtain ⟨k0, k1, k2, k3, _⟩ := (HM1.out.kept b2 (by omega)).cells
    have HX2 := Lib.hid (HXS.out.below b2)
    have HB2 := Lib.hid (bt HB1.out b2)
    clear b2
    go_wp2_with fail
    refine (rcheck X k cx i xs w2 HX2.out).mono ?_
    rintro e w3 ⟨rfl, rfl⟩
    go_wp2
    go_ret
    exact ⟨by rw [HVV.out]; rfl, HB2.out⟩
  · rw [if_neg h0] at HVV
    go_enter Try.func56, Try.ntmps56
    go_wp2_with fail
    rw [← HW1.out]
    refine HV.out.mono ?_
    rintro e w2 ⟨rfl, b2⟩
    clear k0 k1 k2 k3
    have HB2 := Lib.hid (bt HB1.out b2)
    clear b2
    have hne : (v != 0) = true := by simpa using h0
    go_wp2
    go_ret
    exact ⟨by rw [HVV.out]; rfl, HB2.out⟩
end Go.Proofs.Ytogcecfeofbbnaa
end

section
/- homing, the reference: Possible, Final, Resolves. -/
namespace Go.Proofs.Ytogcecfeofbbnaa
open Go.RowKit Go.Shelf

set_option maxHeartbeats 2000000 in
theorem rpossible_ok (i st n : Nat) (A B X Y : Option Addr) (c d k cx cy : Nat) (nx ot : List (List Int)) (u o : List Int) (w : World) (hx : Lists w A n nx) (ho : Lists w B n ot) (hu : Ints w X k u) (hy : Ints w Y k o) (hM : Mok i st n nx ot) (hc : chk u i = 0) :
    Calls Try.prog 23 #[.agg #[.int .i64 i, .int .i64 st, .slice A n c, .slice B n d], .slice X k cx, .slice Y k cy] w fun e w' => ∃ A' c', e = .returned (.tuple #[.slice A' (cur n nx ot u o).length c', .int .i64 0]) ∧ Owned w' w.heap.size (.slice A' (cur n nx ot u o).length c') (cur n nx ot u o) ∧ Below w.heap.size w w' := by
  obtain ⟨w1, hw1⟩ : ∃ w1, w1 = w.alloc (.cells #[.int .i64 i, .int .i64 st, .slice A n c, .slice B n d] 24) := ⟨_, rfl⟩
  have b1 : Below w.heap.size w w1 := by rw [hw1]; exact alloc_below _ _
  have m1 : Mblk w1 w.heap.size (.int .i64 i) (.int .i64 st) (.slice A n c) (.slice B n d) := by rw [hw1]; exact mealy_box _ _ _ _ _
  have z1 : w1.heap.size = w.heap.size + 1 := by rw [hw1]; simp
  obtain ⟨k0, k1, k2, k3, _⟩ := m1.cells
  rw [hw1] at k0 k1 k2 k3
  have hku := (chk_zero hc).2.2.1
  have hul := hu.1
  have HW1 := Lib.hid hw1
  have HM1 := Lib.hid m1
  have HCK := Lib.hid (rhcheck i st A B X n c n d k cx nx ot u w1 (hx.below b1) (ho.below b1) (hu.below b1))
  have hck : hck i st nx ot u = 0 := by unfold hck; rw [if_pos hM.vld, hc]
  rw [hck] at HCK
  have HCUR := Lib.hid (fun (W : World) (hw : Below w1.heap.size w1 W) => rcur13 i st n k cx k cy A B X Y c d nx ot u o W ((hx.below b1).below hw) ((ho.below b1).below hw) hM ((hu.below b1).below hw) ((hy.below b1).below hw) (Syms.mem (chk_zero hc).2.2.2) (by omega))
  have HB1 := Lib.hid b1
  clear hw1 m1 b1 hx ho hu hy hM hck hc
  go_enter Try.func23, Try.ntmps23
  go_wp2_with fail
  rw [← HW1.out]
  refine HCK.out.mono ?_
  rintro e w2 ⟨rfl, b2⟩
  clear k0 k1 k2 k3
  obtain ⟨k0, k1, k2, k3, _⟩ := (HM1.out.kept b2 (by omega)).cells
  have HB2 := Lib.hid b2
  have hz2 := b2.size
  clear b2
  go_wp2_with fail
  refine (HCUR.out w2 HB2.out).mono ?_
  rintro e w3 ⟨A3, c3, rfl, o3, b3⟩
  have HO3 := Lib.hid o3
  have HB3 := Lib.hid ((HB1.out.trans (HB2.out.mono (by omega))).trans (b3.mono (by omega)))
  clear o3 b3 k0 k1 k2 k3
  go_wp2
  go_ret2
  exact ⟨A3, c3, rfl, HO3.out.lower (by omega), HB3.out⟩
set_option maxHeartbeats 1000000 in
theorem rpossible_bad (i st : Int) (A B X Y : Option Addr) (n c m d k cx l cy : Nat) (nx ot : List (List Int)) (u : List Int) (v : Int) (w : World) (hx : Lists w A n nx) (ho : Lists w B m ot) (hu : Ints w X k u) (hv : v = hck i st nx ot u) (hv0 : ¬ v = 0) :
    Calls Try.prog 23 #[.agg #[.int .i64 i, .int .i64 st, .slice A n c, .slice B m d], .slice X k cx, .slice Y l cy] w fun e w' => e = .returned (.tuple #[.slice none 0 0, .int .i64 v]) ∧ Below w.heap.size w w' := by
  obtain ⟨w1, hw1⟩ : ∃ w1, w1 = w.alloc (.cells #[.int .i64 i, .int .i64 st, .slice A n c, .slice B m d] 24) := ⟨_, rfl⟩
  have b1 : Below w.heap.size w w1 := by rw [hw1]; exact alloc_below _ _
  have m1 : Mblk w1 w.heap.size (.int .i64 i) (.int .i64 st) (.slice A n c) (.slice B m d) := by rw [hw1]; exact mealy_box _ _ _ _ _
  obtain ⟨k0, k1, k2, k3, _⟩ := m1.cells
  rw [hw1] at k0 k1 k2 k3
  have HW1 := Lib.hid hw1
  have HCK := Lib.hid (rhcheck i st A B X n c m d k cx nx ot u w1 (hx.below b1) (ho.below b1) (hu.below b1))
  rw [← hv] at HCK
  have HB1 := Lib.hid b1
  have hne : (v != 0) = true := by simpa using hv0
  clear hw1 m1 b1 hx ho hu hv hv0
  go_enter Try.func23, Try.ntmps23
  go_wp2_with fail
  rw [← HW1.out]
  refine HCK.out.mono ?_
  rintro e w2 ⟨rfl, b2⟩
  have HB2 := Lib.hid (bt HB1.out b2)
  clear b2 k0 k1 k2 k3
  go_wp2
  go_ret2
  exact ⟨rfl, HB2.out⟩
set_option maxHeartbeats 1000000 in
theorem rpossible_len (i st : Int) (A B X Y : Option Addr) (n c m d k cx l cy : Nat) (nx ot : List (List Int)) (u : List Int) (w : World) (hx : Lists w A n nx) (ho : Lists w B m ot) (hu : Ints w X k u) (hv : hck i st nx ot u = 0) (hl : ¬ k = l) :
    Calls Try.prog 23 #[.agg #[.int .i64 i, .int .i64 st, .slice A n c, .slice B m d], .slice X k cx, .slice Y l cy] w fun e w' => e = .returned (.tuple #[.slice none 0 0, .int .i64 1]) ∧ Below w.heap.size w w' := by
  obtain ⟨w1, hw1⟩ : ∃ w1, w1 = w.alloc (.cells #[.int .i64 i, .int .i64 st, .slice A n c, .slice B m d] 24) := ⟨_, rfl⟩
  have b1 : Below w.heap.size w w1 := by rw [hw1]; exact alloc_below _ _
  have m1 : Mblk w1 w.heap.size (.int .i64 i) (.int .i64 st) (.slice A n c) (.slice B m d) := by rw [hw1]; exact mealy_box _ _ _ _ _
  obtain ⟨k0, k1, k2, k3, _⟩ := m1.cells
  rw [hw1] at k0 k1 k2 k3
  have HW1 := Lib.hid hw1
  have HCK := Lib.hid (rhcheck i st A B X n c m d k cx nx ot u w1 (hx.below b1) (ho.below b1) (hu.below b1))
  rw [hv] at HCK
  have HB1 := Lib.hid b1
  have hne : ((k : Int) != (l : Int)) = true := by rw [bne_iff_ne]; omega
  clear hw1 m1 b1 hx ho hu hv
  go_enter Try.func23, Try.ntmps23
  go_wp2_with fail
  rw [← HW1.out]
  refine HCK.out.mono ?_
  rintro e w2 ⟨rfl, b2⟩
  have HB2 := Lib.hid (bt HB1.out b2)
  clear b2 k0 k1 k2 k3
  go_wp2
  go_ret2
  exact ⟨rfl, HB2.out⟩

theorem rpossible (i st : Int) (A B X Y : Option Addr) (n c m d k cx l cy : Nat) (nx ot : List (List Int)) (u o : List Int) (w : World) (hx : Lists w A n nx) (ho : Lists w B m ot) (hu : Ints w X k u) (hy : Ints w Y l o) :
    Calls Try.prog 23 #[.agg #[.int .i64 i, .int .i64 st, .slice A n c, .slice B m d], .slice X k cx, .slice Y l cy] w fun e w' => ∃ A' c', e = .returned (.tuple #[.slice A' (posL i st nx ot u o).length c', .int .i64 (posE i st nx ot u o)]) ∧ Owned w' w.heap.size (.slice A' (posL i st nx ot u o).length c') (posL i st nx ot u o) ∧ Below w.heap.size w w' := by
  have hul := hu.1
  have hol := hy.1
  by_cases h0 : hck i st nx ot u = 0
  · by_cases h1 : k = l
    · subst h1
      obtain ⟨hv, hc⟩ := hck_zero h0
      obtain ⟨i', st', n', rfl, rfl, hM⟩ := vld_zero hv
      have h2 := hM.nxl
      have h3 := hM.otl
      have h4 := hx.1
      have h5 := ho.1
      obtain rfl : n = n' := by omega
      obtain rfl : m = n := by omega
      have e1 : posL i' st' nx ot u o = cur m nx ot u o := by unfold posL; rw [if_pos ⟨h0, by omega⟩, h2]
      have e2 : posE i' st' nx ot u o = 0 := by unfold posE; rw [if_pos h0, if_pos (by omega)]
      rw [e1, e2]
      exact rpossible_ok i' st' m A B X Y c d k cx cy nx ot u o w hx ho hu hy hM hc
    · have e1 : posL i st nx ot u o = [] := by unfold posL; rw [if_neg fun h => h1 (by have := h.2; omega)]
      have e2 : posE i st nx ot u o = 1 := by unfold posE; rw [if_pos h0, if_neg (by omega)]
      rw [e1, e2]
      refine (rpossible_len i st A B X Y n c m d k cx l cy nx ot u w hx ho hu h0 h1).mono ?_
      rintro e w' ⟨rfl, hb⟩
      exact ⟨none, 0, rfl, Owned.nil _ _, hb⟩
  · have e1 : posL i st nx ot u o = [] := by unfold posL; rw [if_neg fun h => h0 h.1]
    have e2 : posE i st nx ot u o = hck i st nx ot u := by unfold posE; rw [if_neg h0]
    rw [e1, e2]
    refine (rpossible_bad i st A B X Y n c m d k cx l cy nx ot u _ w hx ho hu rfl h0).mono ?_
    rintro e w' ⟨rfl, hb⟩
    exact ⟨none, 0, rfl, Owned.nil _ _, hb⟩

set_option maxHeartbeats 2000000 in
theorem rfinal (i st : Int) (A B X Y : Option Addr) (n c m d k cx l cy : Nat) (nx ot : List (List Int)) (u o : List Int) (w : World) (hx : Lists w A n nx) (ho : Lists w B m ot) (hu : Ints w X k u) (hy : Ints w Y l o) :
    Calls Try.prog 25 #[.agg #[.int .i64 i, .int .i64 st, .slice A n c, .slice B m d], .slice X k cx, .slice Y l cy] w fun e w' => e = .returned (.tuple #[.int .i64 (finS (posL i st nx ot u o)), .bool (finB (posL i st nx ot u o)), .int .i64 (posE i st nx ot u o)]) ∧ Below w.heap.size w w' := by
  obtain ⟨w1, hw1⟩ : ∃ w1, w1 = w.alloc (.cells #[.int .i64 i, .int .i64 st, .slice A n c, .slice B m d] 24) := ⟨_, rfl⟩
  have b1 : Below w.heap.size w w1 := by rw [hw1]; exact alloc_below _ _
  have m1 : Mblk w1 w.heap.size (.int .i64 i) (.int .i64 st) (.slice A n c) (.slice B m d) := by rw [hw1]; exact mealy_box _ _ _ _ _
  obtain ⟨k0, k1, k2, k3, _⟩ := m1.cells
  rw [hw1] at k0 k1 k2 k3
  have HW1 := Lib.hid hw1
  have HP := Lib.hid (rpossible i st A B X Y n c m d k cx l cy nx ot u o w1 (hx.below b1) (ho.below b1) (hu.below b1) (hy.below b1))
  have HB1 := Lib.hid b1
  have hz : posL i st nx ot u o = [] ∨ posE i st nx ot u o = 0 := by
    unfold posL posE
    by_cases h : hck i st nx ot u = 0 ∧ u.length = o.length
    · right; rw [if_pos h.1, if_pos h.2]
    · left; rw [if_neg h]
  have hbd : (posL i st nx ot u o).length ≤ 128 := by
    unfold posL
    by_cases h : hck i st nx ot u = 0 ∧ u.length = o.length
    · rw [if_pos h]
      obtain ⟨hv, _⟩ := hck_zero h.1
      obtain ⟨i', st', n', _, _, hM⟩ := vld_zero hv
      have := cur_le nx.length nx ot u o
      have := hM.nxl
      have := hM.n2
      omega
    · rw [if_neg h]; simp
  clear hw1 m1 b1 hx ho hu hy
  generalize posL i st nx ot u o = L at HP hz hbd
  generalize posE i st nx ot u o = E at HP hz
  by_cases h1 : L.length = 1
  · obtain rfl : E = 0 := hz.resolve_left fun e => by rw [e] at h1; simp at h1
    have HS : Hid (finS L = L.getD 0 0 ∧ finB L = true) := Lib.hid ⟨by unfold finS; rw [if_pos h1], decide_eq_true h1⟩
    rw [h1] at HP
    clear hz hbd
    go_enter Try.func25, Try.ntmps25
    go_wp2_with fail
    rw [← HW1.out]
    refine HP.out.mono ?_
    rintro e w2 ⟨A2, c2, rfl, o2, b2⟩
    obtain ⟨b3, o3, rfl, _, c3⟩ := (o2.ints (by omega)).at_ (k := 0) (by omega)
    have HB2 := Lib.hid (bt HB1.out b2)
    rw [Nat.add_zero] at c3
    generalize L.getD 0 0 = x at HS c3
    clear b2 o2 k0 k1 k2 k3
    go_wp2
    go_ret3
    exact ⟨by rw [HS.out.1, HS.out.2]; rfl, HB2.out⟩
  · have HS : Hid (finS L = 0 ∧ finB L = false) := Lib.hid ⟨by unfold finS; rw [if_neg h1], decide_eq_false h1⟩
    obtain ⟨q, hq⟩ : ∃ q, q = L.length := ⟨_, rfl⟩
    rw [← hq] at HP hbd
    have hne : ((q : Int) != 1) = true := by rw [bne_iff_ne]; omega
    clear hz hq
    by_cases hE : E = 0
    · subst hE
      go_enter Try.func25, Try.ntmps25
      go_wp2_with fail
      rw [← HW1.out]
      refine HP.out.mono ?_
      rintro e w2 ⟨A2, c2, rfl, o2, b2⟩
      have HB2 := Lib.hid (bt HB1.out b2)
      clear b2 o2 k0 k1 k2 k3
      go_wp2
      go_ret3
      exact ⟨by rw [HS.out.1, HS.out.2]; rfl, HB2.out⟩
    · have hne2 : (E != 0) = true := by simpa using hE
      go_enter Try.func25, Try.ntmps25
      go_wp2_with fail
      rw [← HW1.out]
      refine HP.out.mono ?_
      rintro e w2 ⟨A2, c2, rfl, o2, b2⟩
      have HB2 := Lib.hid (bt HB1.out b2)
      clear b2 o2 k0 k1 k2 k3
      go_wp2
      go_ret3
      exact ⟨by rw [HS.out.1, HS.out.2]; rfl, HB2.out⟩

/-- What Resolves returns. -/
def resB (i st : Int) (nx ot : List (List Int)) (u : List Int) : Bool := decide (hck i st nx ot u = 0 ∧ opnL nx.length nx ot u nx.length = [])

set_option maxHeartbeats 1000000 in
theorem rresolves_bad (i st : Int) (A B X : Option Addr) (n c m d k cx : Nat) (nx ot : List (List Int)) (u : List Int) (v : Int) (w : World) (hx : Lists w A n nx) (ho : Lists w B m ot) (hu : Ints w X k u) (hv : v = hck i st nx ot u) (hv0 : ¬ v = 0) :
    Calls Try.prog 21 #[.agg #[.int .i64 i, .int .i64 st, .slice A n c, .slice B m d], .slice X k cx] w fun e w' => e = .returned (.tuple #[.bool false, .int .i64 v]) ∧ Below w.heap.size w w' := by
  obtain ⟨w1, hw1⟩ : ∃ w1, w1 = w.alloc (.cells #[.int .i64 i, .int .i64 st, .slice A n c, .slice B m d] 24) := ⟨_, rfl⟩
  have b1 : Below w.heap.size w w1 := by rw [hw1]; exact alloc_below _ _
  have m1 : Mblk w1 w.heap.size (.int .i64 i) (.int .i64 st) (.slice A n c) (.slice B m d) := by rw [hw1]; exact mealy_box _ _ _ _ _
  obtain ⟨k0, k1, k2, k3, _⟩ := m1.cells
  rw [hw1] at k0 k1 k2 k3
  have HW1 := Lib.hid hw1
  have HCK := Lib.hid (rhcheck i st A B X n c m d k cx nx ot u w1 (hx.below b1) (ho.below b1) (hu.below b1))
  rw [← hv] at HCK
  have HB1 := Lib.hid b1
  have hne : (v != 0) = true := by simpa using hv0
  clear hw1 m1 b1 hx ho hu hv hv0
  go_enter Try.func21, Try.ntmps21
  go_wp2_with fail
  rw [← HW1.out]
  refine HCK.out.mono ?_
  rintro e w2 ⟨rfl, b2⟩
  have HB2 := Lib.hid (bt HB1.out b2)
  clear b2 k0 k1 k2 k3
  go_wp2
  go_ret2
  exact ⟨rfl, HB2.out⟩
set_option maxHeartbeats 2000000 in
theorem rresolves_ok (i st n : Nat) (A B X : Option Addr) (c d k cx : Nat) (nx ot : List (List Int)) (u : List Int) (w : World) (hx : Lists w A n nx) (ho : Lists w B n ot) (hu : Ints w X k u) (hM : Mok i st n nx ot) (hc : chk u i = 0) :
    Calls Try.prog 21 #[.agg #[.int .i64 i, .int .i64 st, .slice A n c, .slice B n d], .slice X k cx] w fun e w' => e = .returned (.tuple #[.bool (decide (opnL n nx ot u n = [])), .int .i64 0]) ∧ Below w.heap.size w w' := by
  obtain ⟨w1, hw1⟩ : ∃ w1, w1 = w.alloc (.cells #[.int .i64 i, .int .i64 st, .slice A n c, .slice B n d] 24) := ⟨_, rfl⟩
  have b1 : Below w.heap.size w w1 := by rw [hw1]; exact alloc_below _ _
  have m1 : Mblk w1 w.heap.size (.int .i64 i) (.int .i64 st) (.slice A n c) (.slice B n d) := by rw [hw1]; exact mealy_box _ _ _ _ _
  have z1 : w1.heap.size = w.heap.size + 1 := by rw [hw1]; simp
  obtain ⟨k0, k1, k2, k3, _⟩ := m1.cells
  rw [hw1] at k0 k1 k2 k3
  have hku := (chk_zero hc).2.2.1
  have hul := hu.1
  have HW1 := Lib.hid hw1
  have HM1 := Lib.hid m1
  have HCK := Lib.hid (rhcheck i st A B X n c n d k cx nx ot u w1 (hx.below b1) (ho.below b1) (hu.below b1))
  have hck : hck i st nx ot u = 0 := by unfold hck; rw [if_pos hM.vld, hc]
  rw [hck] at HCK
  have HOP := Lib.hid (fun (W : World) (hw : Below w1.heap.size w1 W) => ropen13 i st n k cx A B X c d nx ot u W ((hx.below b1).below hw) ((ho.below b1).below hw) hM ((hu.below b1).below hw) (Syms.mem (chk_zero hc).2.2.2) (by omega))
  have HB1 := Lib.hid b1
  clear hw1 m1 b1 hx ho hu hM hck hc
  have hd : decide (opnL n nx ot u n = []) = (((opnL n nx ot u n).length : Int) == 0) := by
    by_cases h0 : opnL n nx ot u n = []
    · rw [decide_eq_true h0, h0]; rfl
    · rw [decide_eq_false h0]
      symm
      rw [beq_eq_false_iff_ne]
      intro e
      exact h0 (List.eq_nil_of_length_eq_zero (by omega))
  rw [hd]
  clear hd
  generalize opnL n nx ot u n = L at HOP ⊢
  go_enter Try.func21, Try.ntmps21
  go_wp2_with fail
  rw [← HW1.out]
  refine HCK.out.mono ?_
  rintro e w2 ⟨rfl, b2⟩
  clear k0 k1 k2 k3
  obtain ⟨k0, k1, k2, k3, _⟩ := (HM1.out.kept b2 (by omega)).cells
  have HB2 := Lib.hid b2
  have hz2 := b2.size
  clear b2
  go_wp2_with fail
  refine (HOP.out w2 HB2.out).mono ?_
  rintro e w3 ⟨A3, c3, rfl, o3, b3⟩
  have HB3 := Lib.hid ((HB1.out.trans (HB2.out.mono (by omega))).trans (b3.mono (by omega)))
  clear o3 b3 k0 k1 k2 k3
  go_wp2
  go_ret2
  exact ⟨rfl, HB3.out⟩
theorem rresolves (i st : Int) (A B X : Option Addr) (n c m d k cx : Nat) (nx ot : List (List Int)) (u : List Int) (w : World) (hx : Lists w A n nx) (ho : Lists w B m ot) (hu : Ints w X k u) :
    Calls Try.prog 21 #[.agg #[.int .i64 i, .int .i64 st, .slice A n c, .slice B m d], .slice X k cx] w fun e w' => e = .returned (.tuple #[.bool (resB i st nx ot u), .int .i64 (hck i st nx ot u)]) ∧ Below w.heap.size w w' := by
  by_cases h0 : hck i st nx ot u = 0
  · obtain ⟨hv, hc⟩ := hck_zero h0
    obtain ⟨i', st', n', rfl, rfl, hM⟩ := vld_zero hv
    have h2 := hM.nxl
    have h3 := hM.otl
    have h4 := hx.1
    have h5 := ho.1
    obtain rfl : n = n' := by omega
    obtain rfl : m = n := by omega
    have e1 : resB i' st' nx ot u = decide (opnL m nx ot u m = []) := by
      unfold resB
      rw [h2]
      simp [h0]
    rw [h0, e1]
    exact rresolves_ok i' st' m A B X c d k cx nx ot u w hx ho hu hM hc
  · have e1 : resB i st nx ot u = false := by unfold resB; exact decide_eq_false fun h => h0 h.1
    rw [e1]
    exact rresolves_bad i st A B X n c m d k cx nx ot u _ w hx ho hu rfl h0
end Go.Proofs.Ytogcecfeofbbnaa
end

section
/- homing: Resolves in all cases. -/
namespace Go.Proofs.Ytogcecfeofbbnaa
open Go.RowKit Go.Shelf

theorem presolves (i st : Int) (A B X : Option Addr) (n c m d k cx : Nat) (nx ot : List (List Int)) (u : List Int) (w : World) (hx : Lists w A n nx) (ho : Lists w B m ot) (hu : Ints w X k u) :
    Calls Try.prog 20 #[.agg #[.int .i64 i, .int .i64 st, .slice A n c, .slice B m d], .slice X k cx] w fun e w' => e = .returned (.tuple #[.bool (resB i st nx ot u), .int .i64 (hck i st nx ot u)]) ∧ Below w.heap.size w w' := by
  by_cases h0 : hck i st nx ot u = 0
  · obtain ⟨hv, hc⟩ := hck_zero h0
    obtain ⟨i', st', n', rfl, rfl, hM⟩ := vld_zero hv
    have h2 := hM.nxl
    have h3 := hM.otl
    have h4 := hx.1
    have h5 := ho.1
    obtain rfl : n = n' := by omega
    obtain rfl : m = n := by omega
    have e1 : resB i' st' nx ot u = decide (opnL m nx ot u m = []) := by
      unfold resB
      rw [h2]
      simp [h0]
    rw [h0, e1]
    exact presolves_ok i' st' m A B X c d k cx nx ot u w hx ho hu hM hc
  · have e1 : resB i st nx ot u = false := by unfold resB; exact decide_eq_false fun h => h0 h.1
    rw [e1]
    exact presolves_bad i st A B X n c m d k cx nx ot u _ w hx ho hu rfl h0
end Go.Proofs.Ytogcecfeofbbnaa
end

section
/- Rows of headers that a call owns, each with what it reads as; append of headers. -/
namespace Go.Proofs.Ytogcecfeofbbnaa
open Go.RowKit

/-- A header and the list that it reads as. -/
abbrev HL := Value × List Int
/-- The slice value v is a row of the headers of ps in a block from base on, which the call may write. -/
def HRow (w : World) (base : Nat) (v : Value) (ps : List HL) : Prop := w.ownsRow base 27 1 v ps.length (ps.map Prod.fst) ∧ ∀ p, p ∈ ps → ∃ A n c, p.1 = .slice A n c
/-- The header p reads as its list, in a block below top. -/
def InAt (w : World) (top : Nat) (p : HL) : Prop := ∃ A n c, p.1 = .slice A n c ∧ Ints w A n p.2 ∧ n ≤ c ∧ ∀ a, A = some a → 0 < n → a.block < top
/-- The slice '.slice A n _' holds the headers of ps. -/
def Hds (w : World) (A : Option Addr) (n : Nat) (ps : List HL) : Prop :=
  ps.length = n ∧ n ≤ 17592186044416 ∧ (0 < n → ∃ b off, A = some ⟨b, off, none⟩ ∧ b < w.heap.size ∧ ∀ j p, ps[j]? = some p → w.cell? ⟨b, off + j, none⟩ = some p.1) ∧ ∀ p, p ∈ ps → ∃ A n c, p.1 = .slice A n c

theorem InAt.below {w w' : World} {top : Nat} {p : HL} (h : InAt w top p) (hb : Below w.heap.size w w') : InAt w' top p := by
  obtain ⟨A, n, c, e, hi, hc, ht⟩ := h
  exact ⟨A, n, c, e, hi.below hb, hc, ht⟩
theorem InAt.mono {w : World} {top top' : Nat} {p : HL} (h : InAt w top p) (hb : top ≤ top') : InAt w top' p := by
  obtain ⟨A, n, c, e, hi, hc, ht⟩ := h
  exact ⟨A, n, c, e, hi, hc, fun a ha hn => Nat.lt_of_lt_of_le (ht a ha hn) hb⟩
/-- What lies below top reads as before where what lies there is as before. -/
theorem InAt.on {w w' : World} {top : Nat} {p : HL} (h : InAt w top p) (hb : Below top w w') : InAt w' top p := by
  obtain ⟨A, n, c, e, hi, hnc, ht⟩ := h
  refine ⟨A, n, c, e, ⟨hi.1, hi.2.1, fun hn => ?_⟩, hnc, ht⟩
  obtain ⟨b, off, rfl, hlt, hc⟩ := hi.2.2 hn
  have hbt : b < top := ht _ rfl hn
  refine ⟨b, off, rfl, ?_, fun j hj => (hb.cell (p := ⟨b, off + j, none⟩) hbt).trans (hc j hj)⟩
  have h0 := (hb.cell (p := ⟨b, off + 0, none⟩) hbt).trans (hc 0 hn)
  exact block_lt h0
theorem Hds.below {w w' : World} {A : Option Addr} {n : Nat} {ps : List HL} (h : Hds w A n ps) (hb : Below w.heap.size w w') : Hds w' A n ps :=
  ⟨h.1, h.2.1, fun hn => by
    obtain ⟨b, off, e, hlt, hc⟩ := h.2.2.1 hn
    exact ⟨b, off, e, Nat.lt_of_lt_of_le hlt hb.size, fun j p hp => (hb.cell hlt).trans (hc j p hp)⟩, h.2.2.2⟩
theorem Hds.at_ {w : World} {A : Option Addr} {n : Nat} {ps : List HL} (h : Hds w A n ps) {k : Nat} (hk : k < n) :
    ∃ b off B m d xs, A = some ⟨b, off, none⟩ ∧ b < w.heap.size ∧ ps[k]? = some (.slice B m d, xs) ∧ w.cell? ⟨b, off + k, none⟩ = some (.slice B m d) := by
  obtain ⟨b, off, e, hlt, hc⟩ := h.2.2.1 (by omega)
  have hl := h.1
  have hp : ps[k]? = some ps[k] := List.getElem?_eq_getElem (by omega)
  obtain ⟨B, m, d, e2⟩ := h.2.2.2 ps[k] (List.getElem_mem _)
  refine ⟨b, off, B, m, d, ps[k].2, e, hlt, ?_, ?_⟩
  · rw [hp, ← e2]
  · rw [hc k _ hp, e2]
/-- The slice '.slice A n _' holds the lists xss, none longer than its capacity. -/
def ListsC (w : World) (A : Option Addr) (n : Nat) (xss : List (List Int)) : Prop :=
  xss.length = n ∧ n ≤ 17592186044416 ∧ (0 < n → ∃ b off, A = some ⟨b, off, none⟩ ∧ b < w.heap.size ∧
    ∀ j, j < n → ∃ Aj nj cj, w.cell? ⟨b, off + j, none⟩ = some (.slice Aj nj cj) ∧ nj ≤ cj ∧ Ints w Aj nj (xss.getD j []))
theorem ListsC.lists {w : World} {A : Option Addr} {n : Nat} {xss : List (List Int)} (h : ListsC w A n xss) : Lists w A n xss :=
  ⟨h.1, h.2.1, fun hn => by
    obtain ⟨b, off, e, hlt, hc⟩ := h.2.2 hn
    refine ⟨b, off, e, hlt, fun j hj => ?_⟩
    obtain ⟨Aj, nj, cj, h1, _, h2⟩ := hc j hj
    exact ⟨Aj, nj, cj, h1, h2⟩⟩
theorem ListsC.below {w w' : World} {A : Option Addr} {n : Nat} {xss : List (List Int)} (h : ListsC w A n xss) (hb : Below w.heap.size w w') : ListsC w' A n xss :=
  ⟨h.1, h.2.1, fun hn => by
    obtain ⟨b, off, e, hlt, hc⟩ := h.2.2 hn
    refine ⟨b, off, e, Nat.lt_of_lt_of_le hlt hb.size, fun j hj => ?_⟩
    obtain ⟨Aj, nj, cj, h1, h0, h2⟩ := hc j hj
    exact ⟨Aj, nj, cj, (hb.cell hlt).trans h1, h0, h2.below hb⟩⟩
theorem ListsC.at_ {w : World} {A : Option Addr} {n : Nat} {xss : List (List Int)} (h : ListsC w A n xss) {k : Nat} (hk : k < n) :
    ∃ b off Aj nj cj, A = some ⟨b, off, none⟩ ∧ b < w.heap.size ∧ w.cell? ⟨b, off + k, none⟩ = some (.slice Aj nj cj) ∧ nj ≤ cj ∧ Ints w Aj nj (xss.getD k []) := by
  obtain ⟨b, off, e, hlt, hc⟩ := h.2.2 (by omega)
  obtain ⟨Aj, nj, cj, h1, h0, h2⟩ := hc k hk
  exact ⟨b, off, Aj, nj, cj, e, hlt, h1, h0, h2⟩
theorem ListsC.len {w : World} {A : Option Addr} {n : Nat} {xss : List (List Int)} (h : ListsC w A n xss) : ∀ x, x ∈ xss → x.length ≤ 17592186044416 := fun x hx => by
  obtain ⟨j, hj, rfl⟩ := List.getElem_of_mem hx
  obtain ⟨_, _, Aj, nj, cj, _, _, _, _, hi⟩ := h.at_ (k := j) (by rw [← h.1]; exact hj)
  have e : xss.getD j [] = xss[j] := by rw [List.getD_eq_getElem?_getD, List.getElem?_eq_getElem hj]; rfl
  rw [e] at hi
  rw [hi.1]; exact hi.2.1
/-- The headers of a list of lists. -/
theorem ListsC.hds {w : World} {A : Option Addr} {n : Nat} {xss : List (List Int)} (h : ListsC w A n xss) : ∃ ps : List HL, ps.map Prod.snd = xss ∧ Hds w A n ps ∧ ∀ p, p ∈ ps → InAt w w.heap.size p := by
  rcases Nat.eq_zero_or_pos n with h0 | h0
  · have hx : xss = [] := List.eq_nil_of_length_eq_zero (by rw [h.1, h0])
    subst hx
    exact ⟨[], rfl, ⟨by simp [h0], h.2.1, fun hn => absurd hn (by omega), fun p hp => absurd hp (by simp)⟩, fun p hp => absurd hp (by simp)⟩
  · obtain ⟨b, off, e, hlt, hc⟩ := h.2.2 h0
    have hex : ∀ j, ∃ p : HL, j < n → p.2 = xss.getD j [] ∧ w.cell? ⟨b, off + j, none⟩ = some p.1 ∧ InAt w w.heap.size p := fun j => by
      by_cases hj : j < n
      · obtain ⟨Aj, nj, cj, h1, h0, h2⟩ := hc j hj
        refine ⟨(.slice Aj nj cj, xss.getD j []), fun _ => ⟨rfl, h1, Aj, nj, cj, rfl, h2, h0, fun a ha hn => ?_⟩⟩
        obtain ⟨b', o', e', hlt', _⟩ := h2.2.2 hn
        rw [ha] at e'
        cases e'
        exact hlt'
      · exact ⟨default, fun h => absurd h hj⟩
    have hex2 := hex
    obtain ⟨f, hf⟩ : ∃ f : Nat → HL, ∀ j, j < n → (f j).2 = xss.getD j [] ∧ w.cell? ⟨b, off + j, none⟩ = some (f j).1 ∧ InAt w w.heap.size (f j) :=
      ⟨fun j => Classical.choose (hex2 j), fun j => Classical.choose_spec (hex2 j)⟩
    have hget : ∀ j p, ((List.range n).map f)[j]? = some p → j < n ∧ p = f j := fun j p hp => by
      rw [List.getElem?_map] at hp
      cases hr : (List.range n)[j]? with
      | none => rw [hr] at hp; simp at hp
      | some q =>
        rw [hr] at hp
        have hq := List.getElem?_eq_some_iff.1 hr
        obtain ⟨hq1, hq2⟩ := hq
        simp at hq1 hq2
        subst hq2
        simp at hp
        exact ⟨hq1, hp.symm⟩
    have hmem : ∀ p, p ∈ (List.range n).map f → ∃ j, j < n ∧ p = f j := fun p hp => by
      obtain ⟨j, hj, rfl⟩ := List.mem_map.1 hp
      exact ⟨j, List.mem_range.1 hj, rfl⟩
    refine ⟨(List.range n).map f, ?_, ⟨by simp, h.2.1, fun _ => ⟨b, off, e, hlt, fun j p hp => ?_⟩, fun p hp => ?_⟩, fun p hp => ?_⟩
    · apply List.ext_getElem
      · simp [h.1]
      · intro j h1 h2
        simp at h1
        have := (hf j h1).1
        simp [this, List.getD, List.getElem?_eq_getElem h2]
    · obtain ⟨hj, rfl⟩ := hget j p hp
      exact (hf j hj).2.1
    · obtain ⟨j, hj, rfl⟩ := hmem p hp
      obtain ⟨A, n, c, e, _⟩ := (hf j hj).2.2
      exact ⟨A, n, c, e⟩
    · obtain ⟨j, hj, rfl⟩ := hmem p hp
      exact (hf j hj).2.2

theorem HRow.nil (w : World) (base : Nat) : HRow w base (.slice none 0 0) [] := ⟨World.ownsRow_nil _ _ _ _, fun p hp => absurd hp (by simp)⟩
theorem HRow.form {w : World} {base : Nat} {v : Value} {ps : List HL} (h : HRow w base v ps) : ∃ A c, v = .slice A ps.length c := by
  rcases h.1.2 with ⟨rfl, h0⟩ | ⟨g, cap, cur, rfl, _⟩
  · exact ⟨none, 0, by rw [h0]⟩
  · exact ⟨_, _, rfl⟩
theorem HRow.lt {w : World} {base : Nat} {v : Value} {ps : List HL} (h : HRow w base v ps) : ∀ k, v.ownBlock = some k → base ≤ k ∧ k < w.heap.size := World.ownsRow.lt h.1
theorem HRow.kept {w w' : World} {base : Nat} {v : Value} {ps : List HL} (h : HRow w base v ps) (hb : Below w.heap.size w w') : HRow w' base v ps := by
  refine ⟨⟨h.1.1, ?_⟩, h.2⟩
  rcases h.1.2 with e | ⟨g, cap, cur, hv, hbg, hg, r⟩
  · exact .inl e
  · exact .inr ⟨g, cap, cur, hv, hbg, (hb.block g (heap_lt hg)).trans hg, r⟩
theorem HRow.lower {w : World} {base base' : Nat} {v : Value} {ps : List HL} (h : HRow w base v ps) (hb : base' ≤ base) : HRow w base' v ps := by
  refine ⟨⟨h.1.1, ?_⟩, h.2⟩
  rcases h.1.2 with e | ⟨g, cap, cur, hv, hbg, r⟩
  · exact .inl e
  · exact .inr ⟨g, cap, cur, hv, by omega, r⟩
theorem HRow.hds {w : World} {base : Nat} {A : Option Addr} {n c : Nat} {ps : List HL} (h : HRow w base (.slice A n c) ps) (hm : ps.length ≤ 17592186044416) : Hds w A n ps := by
  have hn : n = ps.length := by obtain ⟨A', c', e⟩ := h.form; cases e; rfl
  subst hn
  refine ⟨rfl, hm, fun h0 => ?_, h.2⟩
  rcases h.1.2 with ⟨e, h1⟩ | ⟨g, cap, cur, e, _, hg, _⟩
  · omega
  · cases e
    refine ⟨g, 0, rfl, heap_lt hg, fun j p hp => ?_⟩
    have hj : j < ps.length := (List.getElem?_eq_some_iff.1 hp).1
    have h3 := World.ownsRow.cellAt h.1 j (by omega)
    rw [Nat.zero_add, h3, List.getElem?_map, hp]; rfl
/-- A row of headers whose rows read as lists is a list of lists. -/
theorem Hds.lists {w : World} {top : Nat} {A : Option Addr} {n : Nat} {ps : List HL} (h : Hds w A n ps) (hi : ∀ p, p ∈ ps → InAt w top p) : ListsC w A n (ps.map Prod.snd) := by
  refine ⟨by rw [List.length_map]; exact h.1, h.2.1, fun h0 => ?_⟩
  obtain ⟨b, off, e, hlt, hc⟩ := h.2.2.1 h0
  refine ⟨b, off, e, hlt, fun j hj => ?_⟩
  have hl := h.1
  have hp : ps[j]? = some ps[j] := List.getElem?_eq_getElem (by omega)
  obtain ⟨B, m, d, e2, h2, h0, _⟩ := hi ps[j] (List.getElem_mem _)
  refine ⟨B, m, d, by rw [hc j _ hp, e2], h0, ?_⟩
  have : (ps.map Prod.snd).getD j [] = ps[j].2 := by rw [List.getD_eq_getElem?_getD, List.getElem?_map, hp]; rfl
  rw [this]; exact h2
theorem Hds.in_at {w : World} {A : Option Addr} {n : Nat} {ps : List HL} (h : Hds w A n ps) {top : Nat} (hi : ∀ p, p ∈ ps → InAt w top p) {k : Nat} (hk : k < n) :
    ∃ b off B m d, A = some ⟨b, off, none⟩ ∧ b < w.heap.size ∧ ps[k]? = some (.slice B m d, (ps.map Prod.snd).getD k []) ∧ w.cell? ⟨b, off + k, none⟩ = some (.slice B m d) ∧ m ≤ d ∧ Ints w B m ((ps.map Prod.snd).getD k []) ∧ InAt w top (.slice B m d, (ps.map Prod.snd).getD k []) := by
  obtain ⟨b, off, B, m, d, xs, e, hlt, hp, hc⟩ := h.at_ hk
  have hx : (ps.map Prod.snd).getD k [] = xs := by rw [List.getD_eq_getElem?_getD, List.getElem?_map, hp]; rfl
  rw [hx]
  have hin := hi _ (List.mem_of_getElem? hp)
  have h3 := hin
  obtain ⟨B', m', d', e2, h2, h0, _⟩ := h3
  cases e2
  exact ⟨b, off, B, m, d, e, hlt, hp, hc, h0, h2, hin⟩

/-- append(v, ys...) of headers onto a row of headers. -/
theorem run_append_heads {w : World} {base : Nat} {v : Value} {ps qs : List HL} {A : Option Addr} {m c : Nat} (h : HRow w base v ps) (hy : Hds w A m qs) (hbase : base ≤ w.heap.size) (hlen : (ps ++ qs).length ≤ 1759218604441) :
    ∃ v' w', (Builtin.append_ #[22, 22] 22 #[v, .slice A m c]).run Try.prog w = .ok v' w' ∧ HRow w' base v' (ps ++ qs) ∧ w.grownBy w' v.ownBlock ∧ Below base w w' := by
  obtain ⟨i, hi, hz0, hz1, hz2⟩ := info_parts infol
  have hsplit : ∀ k, v.ownBlock = some k → base ≤ k := fun k hk => (h.lt k hk).1
  have hforms : ∀ p, p ∈ ps ++ qs → ∃ A n c, p.1 = .slice A n c := fun p hp => by
    rcases List.mem_append.1 hp with hp | hp
    · exact h.2 p hp
    · exact hy.2.2.2 p hp
  rcases Nat.eq_zero_or_pos m with h0 | h0
  · have hys : qs = [] := List.eq_nil_of_length_eq_zero (by rw [hy.1, h0])
    subst h0 hys
    cases A with
    | none =>
      refine ⟨v, w, ?_, by simpa using h, World.grownBy.refl w _, Below.refl _ _⟩
      rcases h.1.2 with ⟨rfl, _⟩ | ⟨g, cap, cur, rfl, _, _, hnc, _⟩
      · simp [Builtin.append_, run_underlying Try.underlying22, sizeOf, typeInfo, hi, Builtin.lenOf, Builtin.firstCells]
      · simp [Builtin.append_, run_underlying Try.underlying22, sizeOf, typeInfo, hi, Builtin.lenOf, Builtin.firstCells, hnc, storeCells]
    | some a =>
      obtain ⟨v', w', hr, h1, h2, _⟩ := run_append_own (P := Try.prog) w base 22 22 27 i (.slice none 0 0) 1 24 Try.underlying22 hi hz0 hz1 hz2 rfl (by decide) v _ _ h.1 a 0 c [] (by simp) (by simp) (by simp)
        (by simp at hlen; unfold maxLen; omega) (by simp at hlen; omega) hbase
      exact ⟨v', w', hr, ⟨by simpa using h1, hforms⟩, h2, (Below.refl _ _).grown h2 hbase hsplit⟩
  · obtain ⟨b, off, rfl, hb, hc⟩ := hy.2.2.1 h0
    have hql := hy.1
    obtain ⟨v', w', hr, h1, h2, _⟩ := run_append_own (P := Try.prog) w base 22 22 27 i (.slice none 0 0) 1 24 Try.underlying22 hi hz0 hz1 hz2 rfl (by decide) v _ _ h.1 ⟨b, off, none⟩ m c (qs.map Prod.fst)
      (by simp [hql])
      (by
        intro j u hu
        rw [List.getElem?_map] at hu
        cases hq : qs[j]? with
        | none => rw [hq] at hu; simp at hu
        | some p =>
          rw [hq] at hu
          simp at hu
          subst hu
          rw [show (⟨b, off, none⟩ : Addr).add j = ⟨b, off + j, none⟩ by unfold Addr.add; split <;> simp_all]
          exact hc j p hq)
      (by
        intro u hu
        obtain ⟨p, hp, rfl⟩ := List.mem_map.1 hu
        obtain ⟨A, n, c, e⟩ := hy.2.2.2 p hp
        rw [e]; rfl)
      (by rw [List.length_append] at hlen; rw [← hql]; unfold maxLen; omega) (by rw [List.length_append] at hlen; rw [← hql]; omega) hbase
    refine ⟨v', w', hr, ⟨?_, hforms⟩, h2, (Below.refl _ _).grown h2 hbase hsplit⟩
    rw [List.length_append, List.map_append, hql]
    exact h1

/-- append(v, x) of one header. -/
theorem run_append_head {w : World} {base : Nat} {v : Value} {ps : List HL} {B : Option Addr} {m d : Nat} (h : HRow w base v ps) (xs : List Int) (hbase : base ≤ w.heap.size) (hl : ps.length < 1759218604441) :
    ∃ A c w', (Builtin.append_ #[22, 22] 22 #[v, .slice (some ⟨w.heap.size, 0, none⟩) 1 1]).run Try.prog (w.alloc (.cells #[.slice B m d] 27)) = .ok (.slice A (ps.length + 1) c) w' ∧
      HRow w' base (.slice A (ps.length + 1) c) (ps ++ [(.slice B m d, xs)]) ∧ w.grownBy w' v.ownBlock ∧ Below base w w' := by
  have hbz := alloc_below w (.cells #[.slice B m d] 27)
  have hd : Hds (w.alloc (.cells #[.slice B m d] 27)) (some ⟨w.heap.size, 0, none⟩) 1 [(.slice B m d, xs)] := by
    refine ⟨rfl, by omega, fun _ => ⟨w.heap.size, 0, rfl, by simp, fun j p hp => ?_⟩, fun p hp => ?_⟩
    · cases j with
      | zero =>
        simp at hp
        subst hp
        have := cell_of_row (w.alloc (.cells #[.slice B m d] 27)) w.heap.size 0 #[.slice B m d] 27 (0, 0) (heap_alloc_new w _)
        rw [Nat.zero_add, this]; rfl
      | succ j => simp at hp
    · simp at hp; subst hp; exact ⟨B, m, d, rfl⟩
  obtain ⟨v', w', hr, h1, h2, h3⟩ := run_append_heads (c := 1) (h.kept hbz) hd (Nat.le_trans hbase hbz.size) (by simp; omega)
  obtain ⟨A, c, e⟩ := h1.form
  rw [List.length_append] at e
  subst e
  refine ⟨A, c, w', hr, h1, ?_, (hbz.mono hbase).trans h3⟩
  exact ⟨h2.os, h2.tape, h2.output, Nat.le_trans hbz.size h2.size, fun k hk hne => (h2.block k (Nat.lt_of_lt_of_le hk hbz.size) hne).trans (hbz.block k hk)⟩
end Go.Proofs.Ytogcecfeofbbnaa
end

section
/- Lists of words that literals make. -/
namespace Go.Proofs.Ytogcecfeofbbnaa
open Go.RowKit

/-- The words' cells, one block each. -/
def litA (W : World) : List (List Int) → World
  | [] => W
  | x :: r => litA (W.alloc (.cells (lit x) 3)) r
/-- Their headers, from block b on. -/
def litH (b : Nat) : List (List Int) → List Value
  | [] => []
  | x :: r => .slice (some ⟨b, 0, none⟩) x.length x.length :: litH (b + 1) r
/-- The world with the list's own cells. -/
def litL (W : World) (b : Nat) (xss : List (List Int)) : World := (litA W xss).alloc (.cells (litH b xss).toArray 27)
theorem litA_below (W : World) (xss : List (List Int)) : Below W.heap.size W (litA W xss) := by
  induction xss generalizing W with
  | nil => exact Below.refl _ _
  | cons x r ih => exact (alloc_below W _).trans ((ih _).mono (by simp))
theorem litA_size (W : World) (xss : List (List Int)) : (litA W xss).heap.size = W.heap.size + xss.length := by
  induction xss generalizing W with
  | nil => rfl
  | cons x r ih =>
    show (litA (W.alloc (.cells (lit x) 3)) r).heap.size = _
    rw [ih]; simp; omega
theorem litH_len (b : Nat) (xss : List (List Int)) : (litH b xss).length = xss.length := by
  induction xss generalizing b with
  | nil => rfl
  | cons x r ih => simp [litH, ih]
theorem litH_get (b : Nat) (xss : List (List Int)) (j : Nat) (hj : j < xss.length) : (litH b xss)[j]? = some (.slice (some ⟨b + j, 0, none⟩) (xss.getD j []).length (xss.getD j []).length) := by
  induction xss generalizing b j with
  | nil => simp at hj
  | cons x r ih =>
    cases j with
    | zero => simp [litH]
    | succ j =>
      have := ih (b + 1) j (by simpa using hj)
      simp only [litH, List.getElem?_cons_succ, this]
      rw [show b + 1 + j = b + (j + 1) by omega]
      simp
theorem litA_ints (W : World) (xss : List (List Int)) (j : Nat) (hj : j < xss.length) (hl : ∀ x, x ∈ xss → x.length ≤ 1000) : Ints (litA W xss) (some ⟨W.heap.size + j, 0, none⟩) (xss.getD j []).length (xss.getD j []) := by
  induction xss generalizing W j with
  | nil => simp at hj
  | cons x r ih =>
    cases j with
    | zero =>
      have h := Ints.new W x (lit x) x.length rfl rfl (by have := hl x List.mem_cons_self; omega)
      have hb := litA_below (W.alloc (.cells (lit x) 3)) r
      exact h.below hb
    | succ j =>
      have := ih (W.alloc (.cells (lit x) 3)) j (by simpa using hj) (fun y hy => hl y (List.mem_cons_of_mem _ hy))
      have e : (W.alloc (.cells (lit x) 3)).heap.size + j = W.heap.size + (j + 1) := by simp; omega
      rw [e] at this
      show Ints (litA (W.alloc (.cells (lit x) 3)) r) _ ((x :: r).getD (j + 1) []).length ((x :: r).getD (j + 1) [])
      simpa using this
theorem litL_below (W : World) (b : Nat) (xss : List (List Int)) : Below W.heap.size W (litL W b xss) := (litA_below W xss).trans ((alloc_below _ _).mono (litA_below W xss).size)
theorem litL_size (W : World) (b : Nat) (xss : List (List Int)) : (litL W b xss).heap.size = W.heap.size + xss.length + 1 := by
  show ((litA W xss).alloc _).heap.size = _
  simp [litA_size]
theorem litL_lists (W : World) (b : Nat) (xss : List (List Int)) (n : Nat) (hb : W.heap.size = b) (hn : n = xss.length) (hl : ∀ x, x ∈ xss → x.length ≤ 1000) (hm : xss.length ≤ 1000) : ListsC (litL W b xss) (some ⟨b + n, 0, none⟩) n xss := by
  subst hn hb
  have hb := alloc_below (litA W xss) (.cells (litH W.heap.size xss).toArray 27)
  refine ⟨rfl, by omega, fun _ => ⟨W.heap.size + xss.length, 0, rfl, ?_, fun j hj => ?_⟩⟩
  · show W.heap.size + xss.length < ((litA W xss).alloc _).heap.size
    simp [litA_size]
  · refine ⟨_, _, _, ?_, Nat.le_refl _, (litA_ints W xss j hj hl).below hb⟩
    have := cell_of_row (litL W W.heap.size xss) (W.heap.size + xss.length) j (litH W.heap.size xss).toArray 27 (0, 0) (by
      have := heap_alloc_new (litA W xss) (.cells (litH W.heap.size xss).toArray 27)
      rw [litA_size] at this
      exact this)
    rw [Nat.zero_add, this]
    simpa using litH_get W.heap.size xss j hj
end Go.Proofs.Ytogcecfeofbbnaa
end
