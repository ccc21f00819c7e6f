/- The machine of classes: the walk. -/
import Derived.Test.YtnifjagjcoegaaaQtp
import Derived.Test.YtnifjagjcoegaaaTrimm
import Derived.Deep.RegionHeld3
namespace Go.Proofs.Ytnifjagjcoegaaa
open Go.RowKit

set_option maxHeartbeats 4000000 in
set_option maxRecDepth 100000 in
theorem pquot (i st n : Nat) (A B C : Option Addr) (c d cc : Nat) (nx ot : List (List Int)) (f : Nat → Nat) (w : World) (hx : Lists w A n nx) (ho : Lists w B n ot) (hM : Mok i st n nx ot) (hc : Ints w C n (zs (num f n))) :
    Calls Try.prog 102 #[.agg #[.int .i64 i, .int .i64 st, .slice A n c, .slice B n d], .slice C n cc] w fun e w' => ∃ A' c' B' d',
      e = .returned (.agg #[.int .i64 i, .int .i64 (nmb f st : Nat), .slice A' (reps f n).length c', .slice B' (reps f n).length d']) ∧
      OwnedL w' w.heap.size (.slice A' (reps f n).length c') (qN nx i f n) ∧ OwnedL w' w.heap.size (.slice B' (reps f n).length d') (qO ot f n) ∧ Below w.heap.size w w' := by
  have hn := hx.2.1
  have hn128 := hM.n2
  have hst := hM.st
  have hlo := Lib.hid ho
  obtain ⟨g, hg⟩ : ∃ g, g = w.heap.size := ⟨_, rfl⟩
  obtain ⟨w1, hw1⟩ : ∃ w1, w1 = w.alloc (.cells #[.int .i64 i, .int .i64 st, .slice A n c, .slice B n d] 58) := ⟨_, rfl⟩
  have hb1 : Below w.heap.size w w1 := by rw [hw1]; exact alloc_below _ _
  have hz1 : w1.heap.size = g + 1 := by rw [hw1, hg]; simp
  have hB1 : Mblk w1 g (.int .i64 i) (.int .i64 st) (.slice A n c) (.slice B n d) := by rw [hw1, hg]; exact heap_alloc_new _ _
  obtain ⟨w2, hw2⟩ : ∃ w2, w2 = w1.alloc (.cells #[.int .i64 0, .int .i64 0, .slice none 0 0, .slice none 0 0] 58) := ⟨_, rfl⟩
  have hb2 : Below w1.heap.size w1 w2 := by rw [hw2]; exact alloc_below _ _
  have hz2 : w2.heap.size = g + 2 := by rw [hw2]; simp; omega
  have hR2 : Mblk w2 (g + 1) (.int .i64 0) (.int .i64 0) (.slice none 0 0) (.slice none 0 0) := by rw [hw2, ← hz1]; exact heap_alloc_new _ _
  have hB2 := hB1.kept hb2 (show g < w1.heap.size by omega)
  have hbw2 : Below w.heap.size w w2 := bt hb1 hb2
  have HW : Hid (w2 = (w.alloc (.cells #[.int .i64 i, .int .i64 st, .slice A n c, .slice B n d] 58)).alloc (.cells #[.int .i64 0, .int .i64 0, .slice none 0 0, .slice none 0 0] 58)) := Lib.hid (by rw [hw2, hw1])
  have HG := Lib.hid hg
  have HZ2 := Lib.hid hz2
  have HB2 := Lib.hid hB2
  have HR2 := Lib.hid hR2
  obtain ⟨bc, oc, rfl, hbc, hcc⟩ := hc.at_ hst
  rw [zs_at, num_at f hst] at hcc
  have hcs := (hbw2.cell (p := ⟨bc, oc + st, none⟩) hbc).trans hcc
  obtain ⟨k0, k1, k2, k3, _⟩ := hB2.cells
  have j0 : (0 : Int) ≤ (st : Int) := by omega
  have j1 : (st : Int) < (n : Int) := by omega
  clear hw1 hw2 hz1 hb1 hb2 hB1 hR2 hg hB2 hcc hz2
  go_enter Try.func102, Try.ntmps102
  go_wp2_with fail
  rw [← HW.out]
  try rw [← HG.out]
  have n1 := World.new_ne w2 _ k0
  have n2 := World.new_ne w2 _ hcs
  go_region_held3 (fun w' => w'.cell? ⟨g, 0, none⟩ = some (.int .i64 i) ∧ w'.cell? ⟨g, 1, none⟩ = some (.int .i64 st) ∧ w'.cell? ⟨bc, oc + st, none⟩ = some (.int .i64 (nmb f st : Nat))) (go_keep) (fail)
  go_wp2
  obtain ⟨gT, hgT⟩ : ∃ gT, gT = w2.heap.size := ⟨_, rfl⟩
  have HT0 := Lib.hid (show Mblk ((w2.alloc (.cells #[.int .i64 i, .int .i64 (nmb f st : Nat), .slice none 0 0, .slice none 0 0] 58)).drew) gT (.int .i64 i) (.int .i64 (nmb f st : Nat)) (.slice none 0 0) (.slice none 0 0) by rw [hgT]; exact heap_alloc_new w2 _)
  have HL0 := Lib.hid (show Below gT w2 ((w2.alloc (.cells #[.int .i64 i, .int .i64 (nmb f st : Nat), .slice none 0 0, .slice none 0 0] 58)).drew) by rw [hgT]; exact below_drewN (alloc_below w2 _) 1)
  have hgT2 : g + 2 ≤ gT := by rw [hgT, HZ2.out]; exact Nat.le_refl _
  rw [← hgT]
  have HT := Lib.hid hgT
  obtain ⟨y0, hy0⟩ : ∃ y : Int, y = (nmb f st : Nat) := ⟨_, rfl⟩
  have HY0 := Lib.hid hy0
  rw [← hy0] at HT0 HL0 ⊢
  clear hgT n1 n2 k0 k1 k2 k3 hcs hy0
  go_loopw [20] (fun kv wr => ∃ (s : Nat) (AN AO : Option Addr) (cN cO : Nat), s ≤ n ∧ kv = .int .i64 s ∧ Below gT w2 wr ∧ Mblk wr gT (.int .i64 i) (.int .i64 y0) (.slice AN (reps f s).length cN) (.slice AO (reps f s).length cO) ∧
    OwnedL wr gT (.slice AN (reps f s).length cN) (qN nx i f s) ∧ OwnedL wr gT (.slice AO (reps f s).length cO) (qO ot f s) ∧ Apart (.slice AN (reps f s).length cN) (.slice AO (reps f s).length cO)) (fun kv _ => n - (intOf kv).toNat)
  case atStart => exact ⟨0, none, none, 0, 0, Nat.zero_le _, rfl, HL0.out, HT0.out, OwnedL.nil _ _, OwnedL.nil _ _, Apart.nil _⟩
  case round =>
    obtain ⟨s, AN, AO, cN, cO, hs, rfl, hbr, hT, hLN, hLO, hap⟩ := hrel
    have hbW : Below w.heap.size w wr := hbw2.trans (hbr.mono (by rw [← HG.out]; omega))
    have hzo : gT + 1 ≤ wr.heap.size := heap_lt hT
    have hbox := HB2.out.kept hbr (show g < gT by omega)
    have hkl := reps_le f s
    have HTT := Lib.hid hT
    have HLN := Lib.hid hLN
    have HLO := Lib.hid hLO
    have HAP := Lib.hid hap
    have HBR := Lib.hid hbr
    have HBX := Lib.hid hbox
    clear hT hLN hLO hap hbr hbox
    by_cases hlt : s < n
    · have hcw := hc.at_ hlt
      obtain ⟨bc', oc', e, hbc', hcc⟩ := hcw
      cases e
      rw [zs_at, num_at f hlt] at hcc
      have hcs := (hbW.cell (p := ⟨bc, oc + s, none⟩) hbc).trans hcc
      obtain ⟨c0, c1', c2', c3', f0, f1, f2, f3⟩ := HTT.out.cells
      have hsk := nmb_skip f s
      by_cases hin : f s ∈ grp f s
      · have hlt2 := hsk.2 hin
        have HQ1 := Lib.hid (qN_in (nx := nx) (i := i) hin)
        have HQ2 := Lib.hid (qO_in (ot := ot) hin)
        have HQ3 := Lib.hid (reps_in hin)
        clear hsk hin hcc
        generalize nmb f s = v at hcs hlt2
        go_wp2
        go_roundw
        case rel => exact ⟨s + 1, AN, AO, cN, cO, by omega, by go_num, HBR.out, by rw [HQ3.out]; exact HTT.out, by rw [HQ3.out, HQ1.out]; exact HLN.out, by rw [HQ3.out, HQ2.out]; exact HLO.out, by rw [HQ3.out]; exact HAP.out⟩
        case measure => simp [intOf]; omega
      · have hlt2 : ¬ nmb f s < (reps f s).length := fun H => hin (hsk.1 H)
        have HQ1 := Lib.hid (qN_out (nx := nx) (i := i) hin)
        have HQ2 := Lib.hid (qO_out (ot := ot) hin)
        have HQ3 := Lib.hid (show (reps f (s + 1)).length = (reps f s).length + 1 by rw [reps_out hin, List.length_append]; rfl)
        clear hsk hin hcc
        generalize nmb f s = v at hcs hlt2
        have hm1 : (reps f s).length < 1759218604441 := by omega
        generalize hm0 : (reps f s).length = m at *
        have HM0 := Lib.hid hm0
        clear hm0
        obtain ⟨g1, p1, A3, n1, c3, rfl, hg1, hd1, hr1⟩ := hx.at_ hlt
        obtain ⟨g2, p2, A4, n2, c4, rfl, hg2, hd2, hr2⟩ := hlo.out.at_ hlt
        have hi1 := (hM.row s hlt).1
        have hi2 := (hM.row s hlt).2.1
        have hl1 := hr1.1
        have hl2 := hr2.1
        obtain rfl : n1 = i := by omega
        obtain rfl : n1 = n2 := by omega
        have e1 := (hbW.cell (p := ⟨g1, p1 + s, none⟩) hg1).trans hd1
        have hi64 := hM.i2
        obtain ⟨k0, k1, k2, k3, _⟩ := HBX.out.cells
        clear hl1 hl2 hi2 hd1
        have HI1 := Lib.hid hi1
        clear hi1
        go_wp2_with fail
        refine (sclone _ _ _ _ _ (hr1.below hbW)).mono ?_
        rintro e w5 ⟨A5, c5, rfl, ho5, b5⟩
        have HO5 := Lib.hid ho5
        have HB5 := Lib.hid b5
        clear ho5 b5
        go_wp2
        obtain ⟨wc, rfl⟩ : ∃ wc : World, wc = wr := ⟨_, rfl⟩
        clear k0 k1 k2 k3 e1 c0 c1' c2' c3' f0 f1 f2 f3 hcs
        go_loopw [38] (fun av wq => ∃ a : Nat, a ≤ n1 ∧ av = .int .i64 a ∧ Owned wq wc.heap.size (.slice A5 n1 c5) (qmid nx n1 f s a) ∧ Below wc.heap.size wc wq) (fun av _ => n1 - (intOf av).toNat)
        case atStart => exact ⟨0, Nat.zero_le _, rfl, by rw [qmid_zero]; exact HO5.out, HB5.out⟩
        case round =>
          obtain ⟨a, ha, rfl, ho6, b6⟩ := hrel
          by_cases hla : a < n1
          · have hset := Lib.hid (qmid_set (f := f) HI1.out hla)
            have hat := Lib.hid ((qmid_at (nx := nx) (f := f) (s := s) hla).trans (hM.nN_eq hlt hla))
            have hml := Lib.hid (qmid_len (nx := nx) (f := f) (s := s) HI1.out (Nat.le_of_lt hla))
            have hmi : (qmid nx n1 f s a).length ≤ 17592186044416 := by rw [hml.out]; omega
            obtain ⟨g5, e5, hg5, hg5', hfz5⟩ := ho6.head (by omega)
            subst e5
            obtain ⟨bq, oq, eq, hbq, hcq⟩ := (ho6.ints hmi).at_ hla
            cases eq
            rw [hat.out, Nat.zero_add] at hcq
            have ht := hM.nN_lt hlt hla
            obtain ⟨bn, on, en, hbn, hcn⟩ := hc.at_ ht
            cases en
            rw [zs_at, num_at f ht] at hcn
            have hcn := ((hbW.trans (b6.mono (by have := hbW.size; exact this))).cell (p := ⟨bc, oc + nN nx s a, none⟩) hbc).trans hcn
            have hst := ho6.stored a ((nmb f (nN nx s a) : Nat) : Int)
            rw [hset.out] at hst
            have hbs := Lib.hid (b6.setCell (p := ⟨g5, a, none⟩) hg5 (.int .i64 ((nmb f (nN nx s a) : Nat) : Int)))
            have HSTT := Lib.hid hst
            have hf := hfz5 a
            clear hst ho6 b6 hfz5
            generalize nN nx s a = t at hcq ht hcn hset hbs HSTT
            generalize ((nmb f t : Nat) : Int) = tv at hcn hbs HSTT
            go_wp2
            go_roundw
            case rel => exact ⟨a + 1, by omega, by go_num, HSTT.out, hbs.out⟩
            case measure => simp [intOf]; omega
          · obtain rfl : a = n1 := by omega
            rw [qmid_all HI1.out] at ho6
            have hTq := HTT.out.kept b6 (heap_lt HTT.out)
            obtain ⟨c0, c1', c2', c3', f0, f1, f2, f3⟩ := hTq.cells
            have hLq := HLN.out.kept b6
            have hLOq := HLO.out.kept b6
            have ho6 := ho6.lower (base' := gT) (by omega)
            have hzq := b6.size
            have hgq : gT ≤ wr.heap.size := by omega
            have hkN : (qN nx a f s).length = m := by rw [qN_len]; exact HM0.out
            have hkO : (qO ot f s).length = m := by rw [qO_len]; exact HM0.out
            obtain ⟨AN2, cN2, w7, hrn, hLN7, b7, hk7, hkb7, hmv7⟩ := run_append_list hLq ho6 hgq (by rw [hkN]; omega)
            rw [hkN] at hrn hLN7 hmv7
            rw [← HQ1.out] at hLN7
            have hT7 := hTq.keptT (hk7 _ (by decide))
            obtain ⟨y0, y1, y2, y3, z0, z1, z2, z3⟩ := hT7.cells
            have hLO7 := hLOq.keptB hkb7 HAP.out (hk7 _ (by decide))
            have hAP7 := HAP.out.moved hmv7 hLOq
            have hb7 : Below gT w2 w7 := HBR.out.trans ((b6.mono (by omega)).trans b7)
            have hw8 := fun (u : Value) => hb7.setCell (p := ⟨gT, 2, none⟩) (Nat.le_refl _) u
            have h81 := hT7.set2 (.slice AN2 (m + 1) cN2)
            have h82 := hLN7.offM (j := 2) hT7 (.slice AN2 (m + 1) cN2)
            have h83 := hLO7.offM (j := 2) hT7 (.slice AN2 (m + 1) cN2)
            have h84 := hw8 (.slice AN2 (m + 1) cN2)
            have e2 := (hbW.cell (p := ⟨g2, p2 + s, none⟩) hg2).trans hd2
            have HH := Lib.hid (And.intro h81 (And.intro h82 (And.intro h83 h84)))
            clear hT7 hLN7 hLO7 hb7 hw8 h81 h82 h83 h84 hTq hLq hLOq ho6 hk7 hkb7 hmv7 b7 b6 e2 hkN
            go_wp2_with (at_builtin; refine Lib.wpList_append_run _ rfl _ _ _ _ rfl _ _ rfl rfl _ _ hrn ?_)
            obtain ⟨h81, h82, h83, h84⟩ := HH.out
            generalize w7.setCell ⟨gT, 2, none⟩ (.slice AN2 (m + 1) cN2) = w8 at h81 h82 h83 h84 ⊢
            clear HH y0 y1 y2 y3 z0 z1 z2 z3 hrn c0 c1' c2' c3' f0 f1 f2 f3
            obtain ⟨c0, c1', c2', c3', f0, f1, f2, f3⟩ := h81.cells
            have hbox8 := HB2.out.kept h84 (show g < gT by omega)
            obtain ⟨k0, k1, k2, k3, _⟩ := hbox8.cells
            have hbW8 : Below w.heap.size w w8 := hbw2.trans (h84.mono (by rw [← HG.out]; omega))
            have e2 := (hbW8.cell (p := ⟨g2, p2 + s, none⟩) hg2).trans hd2
            have hg8 : gT < w8.heap.size := heap_lt h81
            have H81 := Lib.hid h81
            have H82 := Lib.hid h82
            have H83 := Lib.hid h83
            have H84 := Lib.hid h84
            have HAP7 := Lib.hid hAP7
            clear h81 h82 h83 h84 hAP7
            go_region_law (first
              | (refine step_append_run rfl _ _ _ _ rfl _ _ rfl rfl _ _ (HF.out 0).1 ?_)
              | (go_simp; go_at_call 108; refine (sclone _ _ _ _ _ (hr2.below (below_drewN hbW8 _))).mono ?_; rintro e w9 ⟨A9, c9, rfl, ho9, b9⟩; obtain ⟨hT9, F, hF⟩ := trim_step H84.out H81.out H82.out H83.out HAP7.out _ b9 ho9 (by omega) hg8; obtain ⟨c0, c1', c2', c3', f0, f1, f2, f3⟩ := hT9.cells; have ca := ((alloc_below w9 (.cells #[.slice A9 a c9] 26)).cell (p := ⟨gT, 3, none⟩) (heap_lt hT9)).trans c3'; have HF := Lib.hid hF; have cF := fun q => (hF q).2.1.cells.2.2.2.1; have fF := fun q => (hF q).2.1.cells.2.2.2.2.2.2.2; clear hT9 hF ho9 b9))
            all_goals
              go_wp2
              go_roundw
              case rel => exact ⟨s + 1, AN2, (F 0).1.1, cN2, (F 0).1.2, by omega, by go_num, (HF.out 0).2.2.2.2.2.setCell (p := ⟨gT, 3, none⟩) (Nat.le_refl _) _, by rw [HQ3.out]; exact (HF.out 0).2.1.set3 _, by rw [HQ3.out]; exact (HF.out 0).2.2.1.offM (HF.out 0).2.1 _, by rw [HQ2.out, HQ3.out]; exact (HF.out 0).2.2.2.1.offM (HF.out 0).2.1 _, by rw [HQ3.out]; exact (HF.out 0).2.2.2.2.1⟩
              case measure => simp [intOf]; omega
    · obtain rfl : s = n := by omega
      obtain ⟨c0, c1', c2', c3', _⟩ := HTT.out.cells
      have hRr := HR2.out.kept HBR.out (show g + 1 < gT by omega)
      obtain ⟨ya, y1, y2, y3, z0, z1, z2, z3⟩ := hRr.cells
      have hN9 := HLN.out
      have hO9 := HLO.out
      have hl : ∀ k, w.heap.size ≤ (⟨g + 1, k, none⟩ : Addr).block := fun k => by rw [← HG.out]; exact Nat.le_succ _
      have hfb := Lib.hid (((((hbW.setCell (hl 0) (.int .i64 i)).setCell (hl 1) (.int .i64 y0)).setCell (hl 2) (.slice AN (reps f s).length cN)).setCell (hl 3) (.slice AO (reps f s).length cO)))
      have hR4 := Lib.hid (hRr.set4 (.int .i64 i) (.int .i64 y0) (.slice AN (reps f s).length cN) (.slice AO (reps f s).length cO))
      have hq1 := hRr
      have hq2 : Mblk (wr.setCell ⟨g + 1, 0, none⟩ (.int .i64 i)) (g + 1) _ _ _ _ := heap_setCell_same wr _ 0 _ _ _ hq1
      have hq3 : Mblk ((wr.setCell ⟨g + 1, 0, none⟩ (.int .i64 i)).setCell ⟨g + 1, 1, none⟩ (.int .i64 y0)) (g + 1) _ _ _ _ := heap_setCell_same _ _ 1 _ _ _ hq2
      have hq4 : Mblk (((wr.setCell ⟨g + 1, 0, none⟩ (.int .i64 i)).setCell ⟨g + 1, 1, none⟩ (.int .i64 y0)).setCell ⟨g + 1, 2, none⟩ (.slice AN (reps f s).length cN)) (g + 1) _ _ _ _ := heap_setCell_same _ _ 2 _ _ _ hq3
      have hN10 := Lib.hid (((((hN9.offM hq1 (.int .i64 i) (j := 0)).offM hq2 (.int .i64 y0) (j := 1)).offM hq3 (.slice AN (reps f s).length cN) (j := 2)).offM hq4 (.slice AO (reps f s).length cO) (j := 3)).lower (base' := w.heap.size) (by rw [← HG.out]; omega))
      have hO10 := Lib.hid (((((hO9.offM hq1 (.int .i64 i) (j := 0)).offM hq2 (.int .i64 y0) (j := 1)).offM hq3 (.slice AN (reps f s).length cN) (j := 2)).offM hq4 (.slice AO (reps f s).length cO) (j := 3)).lower (base' := w.heap.size) (by rw [← HG.out]; omega))
      clear hRr hq1 hq2 hq3 hq4 hN9 hO9 hl hbW
      go_wp2
      (try simp only [Exit.inBlock, Exit.then])
      refine bodyPost_ret (results_cell_row (by rfl) _ _ (g + 1) 58 _ (0, 0) _ rfl hR4.out Try.underlying58 rfl (by kernel_rfl)) rfl ?_
      exact ⟨AN, cN, AO, cO, by rw [HY0.out], hN10.out, hO10.out, hfb.out⟩
end Go.Proofs.Ytnifjagjcoegaaa
