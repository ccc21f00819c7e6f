/- The program: Traces. -/
import Derived.Test.YtihahljpfekmbaaTracep
namespace Go.Proofs.Ytihahljpfekmbaa
open Go.RowKit

theorem ptraces_bad (i st : Int) (A B C : Option Addr) (n c m d p e : Nat) (nx ot : List (List Int)) (E : Int) (w : World) (hx : Lists w A n nx) (ho : Lists w B m ot) (hE : vld i st nx ot = E) (hv : ¬ E = 0) :
    Calls Try.prog 52 #[.agg #[.int .i64 i, .int .i64 st, .slice A n c, .slice B m d], .slice C p e] w fun e w' => e = .returned (.tuple #[.slice none 0 0, .int .i64 E]) ∧ Below w.heap.size w w' := by
  have hb0 := alloc_below w (.cells #[.int .i64 i, .int .i64 st, .slice A n c, .slice B m d] 65)
  have hne : (E != 0) = true := by simpa using hv
  have HE := Lib.hid hE
  clear hE hv
  go_enter Try.func52, Try.ntmps52
  go_wp2_with fail
  refine (pvalid _ _ _ _ _ _ _ _ _ _ _ (hx.below hb0) (ho.below hb0)).mono ?_
  rintro e w1 ⟨rfl, b1⟩
  have hbb := bt hb0 b1
  rw [HE.out]
  clear hb0 b1
  go_wp2
  go_ret2
  exact ⟨rfl, hbb⟩

set_option maxHeartbeats 2000000 in
set_option maxRecDepth 100000 in
theorem ptraces_ok (i st n : Nat) (A B C : Option Addr) (c d p e : Nat) (nx ot ws : List (List Int)) (w : World) (hx : Lists w A n nx) (ho : Lists w B n ot) (hM : Mok i st n nx ot) (hW : Lists w C p ws) (hp : p ≤ 10000) :
    Calls Try.prog 52 #[.agg #[.int .i64 i, .int .i64 st, .slice A n c, .slice B n d], .slice C p e] w fun e w' => ∃ A' c', e = .returned (.tuple #[.slice A' (trs i st nx ot ws []).1.length c', .int .i64 (trs i st nx ot ws []).2]) ∧ OwnedT w' w.heap.size (.slice A' (trs i st nx ot ws []).1.length c') (trs i st nx ot ws []).1 ∧ Below w.heap.size w w' := by
  have HV := Lib.hid hM.vld
  have HW := Lib.hid hW.1
  have hb0 := alloc_below w (.cells #[.int .i64 i, .int .i64 st, .slice A n c, .slice B n d] 65)
  have HZ := Lib.hid (show (w.alloc (.cells #[.int .i64 i, .int .i64 st, .slice A n c, .slice B n d] 65)).heap.size = w.heap.size + 1 by simp)
  have hstn := hM.st
  have d0 : decide ((10000 : Int) < (p : Int)) = false := by simp; omega
  obtain ⟨R, hR⟩ : ∃ R, R = trs i st nx ot ws [] := ⟨_, rfl⟩
  have HR := Lib.hid (show R = trs i st nx ot (ws.drop 0) [] by rw [List.drop_zero]; exact hR)
  rw [← hR]
  clear hR
  go_enter Try.func52, Try.ntmps52
  go_wp2_with fail
  refine (pvalid _ _ _ _ _ _ _ _ _ _ _ (hx.below hb0) (ho.below hb0)).mono ?_
  rintro e w1 ⟨rfl, b1⟩
  rw [HZ.out] at b1
  rw [HV.out]
  go_wp2
  go_loopw [7, 22] (fun v jv wr => ∃ (l : List (List Int × List Int)) (j : Nat) (A' : Option Addr) (c' : Nat), j ≤ p ∧ jv = .int .i64 j ∧ v = .slice A' l.length c' ∧ l.length ≤ j ∧ R = trs i st nx ot (ws.drop j) l ∧ OwnedT wr (w.heap.size + 1) (.slice A' l.length c') l ∧ Below (w.heap.size + 1) (w.alloc (.cells #[.int .i64 i, .int .i64 st, .slice A n c, .slice B n d] 65)) wr) (fun _ jv _ => p - (intOf jv).toNat)
  case atStart => exact ⟨[], 0, none, 0, Nat.zero_le _, rfl, rfl, Nat.zero_le _, HR.out, OwnedT.nil _ _, b1⟩
  case round =>
    obtain ⟨l, j, A', c', hj, rfl, rfl, hll, hB, hown, hbr⟩ := hrel
    have HB := Lib.hid hB
    clear hB
    obtain ⟨k0, k1, k2, k3⟩ := box4 hbr
    have hbw := hb0.trans (hbr.mono (Nat.le_succ _))
    by_cases hlt : j < p
    · obtain ⟨g1, p1, A1, n1, c1, rfl, hg1, hd1, hr1⟩ := hW.at_ hlt
      have e1 := (hbw.cell (p := ⟨g1, p1 + j, none⟩) hg1).trans hd1
      have hi1 := hr1.below hbw
      by_cases hc : chk (ws.getD j []) i = 0
      · have HNX := Lib.hid (HB.out.trans (trs_ok (st := st) (nx := nx) (ot := ot) (by rw [HW.out]; exact hlt) hc l))
        generalize ws.getD j [] = row at hr1 hi1 hc HNX
        have HC := Lib.hid hc
        have L1 := Lib.hid hr1.1
        have hn1 := hr1.2.1
        have hsz : w.heap.size + 1 ≤ wr.heap.size := by have := hbr.size; simpa using this
        have hsy := Lib.hid (chk_zero HC.out).2.2.2.mem
        have ba := alloc_below wr (.cells #[.int .i64 i, .int .i64 st, .slice A n c, .slice B n d, .int .i64 st] 117)
        have hR : Rnr (wr.alloc (.cells #[.int .i64 i, .int .i64 st, .slice A n c, .slice B n d, .int .i64 st] 117)) wr.heap.size i st A n c B n d st := heap_alloc_new wr _
        have HCL := Lib.hid (sclone A1 n1 c1 row _ (hi1.below ba))
        have HBA := Lib.hid (hbr.trans (ba.mono hsz))
        have HKA := Lib.hid (show ∀ t, KeptT t wr _ from fun t => KeptT.of_below ba)
        have HSA := Lib.hid (show wr.heap.size + 1 = (wr.alloc (.cells #[.int .i64 i, .int .i64 st, .slice A n c, .slice B n d, .int .i64 st] 117)).heap.size by simp)
        have HR := Lib.hid hR
        have HOW := Lib.hid hown
        have HI1 := Lib.hid hi1
        have HR1 := Lib.hid (hr1.below hb0)
        clear hc hR hown hbr ba hd1 hr1 hi1
        go_wp2_with fail
        refine (wcheck _ _ _ _ row _ HI1.out).mono ?_
        rintro e w2 ⟨rfl, rfl⟩
        rw [HC.out]
        go_wp2_with fail
        refine HCL.out.mono ?_
        rintro e w3 ⟨A3, c3, rfl, o3, b3⟩
        have hg3 : wr.heap.size < (wr.alloc (.cells #[.int .i64 i, .int .i64 st, .slice A n c, .slice B n d, .int .i64 st] 117)).heap.size := by simp
        have HR3 := Lib.hid (HR.out.kept b3 hg3)
        have HB3 := Lib.hid (HBA.out.trans (b3.mono (by rw [← HSA.out]; omega)))
        have HK3 := Lib.hid (show ∀ t, KeptT t wr w3 from fun t => (HKA.out t).trans (KeptT.of_below b3))
        have HO3 := Lib.hid o3
        have HI3 := Lib.hid (HI1.out.below (bt (alloc_below wr (.cells #[.int .i64 i, .int .i64 st, .slice A n c, .slice B n d, .int .i64 st] 117)) b3))
        have HS3 := Lib.hid (show wr.heap.size ≤ w3.heap.size from Nat.le_trans (by simp) b3.size)
        have HRUN := Lib.hid (prunk (W := w.alloc (.cells #[.int .i64 i, .int .i64 st, .slice A n c, .slice B n d] 65)) (e := c1) hM (hx.below hb0) (ho.below hb0) (by rw [HZ.out]; exact HB3.out) HR3.out (by rw [HZ.out]; exact hsz) hstn HR1.out hsy.out)
        clear b3 o3 hg3
        go_wp2_with fail
        refine HRUN.out.mono ?_
        rintro e w4 ⟨A4, c4, rfl, o4, b4, k4⟩
        rw [HZ.out] at b4
        have HO4 := Lib.hid (o4.lower (base' := w.heap.size + 1) (Nat.le_trans hsz HS3.out))
        have HX4 := Lib.hid ((HO3.out.keptT (k4 _ (by decide))).lower (base' := w.heap.size + 1) (by rw [← HSA.out]; omega))
        have HT4 := Lib.hid (HOW.out.keptT ((HK3.out _).trans (k4 _ (by decide))) ((HK3.out _).trans (k4 _ (by decide))))
        have hz4 : w.heap.size + 1 ≤ w4.heap.size := by have := b4.size; simpa using this
        obtain ⟨A5, c5, w5, hr5, h5, b5, _⟩ := run_append_trace HT4.out HX4.out HO4.out hz4 (by omega)
        have HT5 := Lib.hid h5
        have HB5 := Lib.hid (Below.trans b4 b5)
        have HL := Lib.hid (show (l ++ [(row, runO nx ot st row)]).length = l.length + 1 by simp)
        clear h5 b5 b4 k4 o4 k0 k1 k2 k3
        go_wp2_with (at_builtin; refine Lib.wpList_append_run _ rfl _ _ _ _ rfl _ _ rfl rfl _ _ hr5 ?_)
        go_roundw
        case rel => exact ⟨l ++ [(row, runO nx ot st row)], j + 1, A5, c5, by omega, by go_num, by rw [HL.out], by rw [HL.out]; omega, HNX.out, by rw [HL.out]; exact HT5.out, HB5.out⟩
        case measure => simp [intOf]; omega
      · have HNX := Lib.hid (HB.out.trans (trs_bad (st := st) (nx := nx) (ot := ot) (by rw [HW.out]; exact hlt) hc l))
        generalize ws.getD j [] = row at hr1 hi1 hc HNX
        have hne : (chk row i != 0) = true := by simpa using hc
        have HBW := Lib.hid hbw
        clear hc hown hbr hd1 hr1
        go_wp2_with fail
        refine (wcheck _ _ _ _ row _ hi1).mono ?_
        rintro e w2 ⟨rfl, rfl⟩
        generalize chk row i = E at hne HNX
        clear hi1 hbw
        go_wp2
        go_ret2
        rw [HNX.out]
        exact ⟨none, 0, rfl, OwnedT.nil _ _, HBW.out⟩
    · obtain rfl : j = p := by omega
      have HN := Lib.hid (HB.out.trans (trs_end (by rw [HW.out]; exact Nat.le_refl _) l))
      have HOW := Lib.hid (hown.lower (base' := w.heap.size) (Nat.le_succ _))
      have HBW := Lib.hid hbw
      clear hown hbr hbw
      go_wp2
      go_ret2
      rw [HN.out]
      exact ⟨A', c', rfl, HOW.out, HBW.out⟩
end Go.Proofs.Ytihahljpfekmbaa
