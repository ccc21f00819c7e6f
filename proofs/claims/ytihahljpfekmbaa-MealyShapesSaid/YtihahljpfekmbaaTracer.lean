/- The reference: Traces. -/
import Derived.Test.YtihahljpfekmbaaTracep
import Derived.Test.YtihahljpfekmbaaFromr
import Derived.Deep.RegionHeld3
namespace Go.Proofs.Ytihahljpfekmbaa
open Go.RowKit

theorem rtraces_bad (i st : Int) (A B C : Option Addr) (n c m d p e : Nat) (nx ot : List (List Int)) (E : Int) (w : World) (hx : Lists w A n nx) (ho : Lists w B m ot) (hE : vld i st nx ot = E) (hv : ¬ E = 0) :
    Calls Try.prog 53 #[.agg #[.int .i64 i, .int .i64 st, .slice A n c, .slice B m d], .slice C p e] w fun e w' => e = .returned (.tuple #[.slice none 0 0, .int .i64 E]) ∧ Below w.heap.size w w' := by
  have hb0 := alloc_below w (.cells #[.int .i64 i, .int .i64 st, .slice A n c, .slice B m d] 65)
  have hne : (E != 0) = true := by simpa using hv
  have HE := Lib.hid hE
  clear hE hv
  go_enter Try.func53, Try.ntmps53
  go_wp2_with fail
  refine (rvalid _ _ _ _ _ _ _ _ _ _ _ (hx.below hb0) (ho.below hb0)).mono ?_
  rintro e w1 ⟨rfl, b1⟩
  have hbb := bt hb0 b1
  rw [HE.out]
  clear hb0 b1
  go_wp2
  go_ret2
  exact ⟨rfl, hbb⟩

set_option maxHeartbeats 2000000 in
set_option maxRecDepth 100000 in
theorem rtraces_ok (i st n : Nat) (A B C : Option Addr) (c d p e : Nat) (nx ot ws : List (List Int)) (w : World) (hx : Lists w A n nx) (ho : Lists w B n ot) (hM : Mok i st n nx ot) (hW : Lists w C p ws) (hp : p ≤ 10000) :
    Calls Try.prog 53 #[.agg #[.int .i64 i, .int .i64 st, .slice A n c, .slice B n d], .slice C p e] w fun e w' => ∃ A' c', e = .returned (.tuple #[.slice A' (trs i st nx ot ws []).1.length c', .int .i64 (trs i st nx ot ws []).2]) ∧ OwnedT w' w.heap.size (.slice A' (trs i st nx ot ws []).1.length c') (trs i st nx ot ws []).1 ∧ Below w.heap.size w w' := by
  have HV := Lib.hid hM.vld
  have HW := Lib.hid hW.1
  have hb0 := alloc_below w (.cells #[.int .i64 i, .int .i64 st, .slice A n c, .slice B n d] 65)
  have HZ := Lib.hid (show (w.alloc (.cells #[.int .i64 i, .int .i64 st, .slice A n c, .slice B n d] 65)).heap.size = w.heap.size + 1 by simp)
  have hstn := hM.st
  have d0 : decide ((10000 : Int) < (p : Int)) = false := by simp; omega
  obtain ⟨R, hR⟩ : ∃ R, R = trs i st nx ot ws [] := ⟨_, rfl⟩
  have HR := Lib.hid (show R = trs i st nx ot (ws.drop 0) [] by rw [List.drop_zero]; exact hR)
  rw [← hR]
  clear hR
  go_enter Try.func53, Try.ntmps53
  go_wp2_with fail
  refine (rvalid _ _ _ _ _ _ _ _ _ _ _ (hx.below hb0) (ho.below hb0)).mono ?_
  rintro e w1 ⟨rfl, b1⟩
  rw [HZ.out] at b1
  rw [HV.out]
  go_wp2
  go_loopw [7, 8] (fun v jv wr => ∃ (l : List (List Int × List Int)) (j : Nat) (A' : Option Addr) (c' : Nat), j ≤ p ∧ jv = .int .i64 j ∧ v = .slice A' l.length c' ∧ l.length ≤ j ∧ R = trs i st nx ot (ws.drop j) l ∧ OwnedT wr (w.heap.size + 1) (.slice A' l.length c') l ∧ Below (w.heap.size + 1) (w.alloc (.cells #[.int .i64 i, .int .i64 st, .slice A n c, .slice B n d] 65)) wr) (fun _ jv _ => p - (intOf jv).toNat)
  case atStart => exact ⟨[], 0, none, 0, Nat.zero_le _, rfl, rfl, Nat.zero_le _, HR.out, OwnedT.nil _ _, b1⟩
  case round =>
    obtain ⟨l, j, A', c', hj, rfl, rfl, hll, hB, hown, hbr⟩ := hrel
    have HB := Lib.hid hB
    clear hB
    obtain ⟨k0, k1, k2, k3⟩ := box4 hbr
    have hbw := hb0.trans (hbr.mono (Nat.le_succ _))
    by_cases hlt : j < p
    · obtain ⟨g1, p1, A1, n1, c1, rfl, hg1, hd1, hr1⟩ := hW.at_ hlt
      have e1 := (hbw.cell (p := ⟨g1, p1 + j, none⟩) hg1).trans hd1
      have hi1 := hr1.below hbw
      have hg2 : g1 < w.heap.size + 1 := by omega
      by_cases hc : chk (ws.getD j []) i = 0
      · have HNX := Lib.hid (HB.out.trans (trs_ok (st := st) (nx := nx) (ot := ot) (by rw [HW.out]; exact hlt) hc l))
        generalize ws.getD j [] = row at hr1 hi1 hc HNX
        have HC := Lib.hid hc
        have L1 := Lib.hid hr1.1
        have hn1 := hr1.2.1
        have hsz : w.heap.size + 1 ≤ wr.heap.size := by have := hbr.size; simpa using this
        have hsy := Lib.hid (chk_zero HC.out).2.2.2.mem
        have HI1 := Lib.hid hi1
        have HCK := Lib.hid (fun q => rcheckq A1 n1 c1 i row (wr.drewN q) (HI1.out.drewN q))
        rw [HC.out] at HCK
        have HOW := Lib.hid hown
        have HBQ : Hid (∀ q, Below (w.heap.size + 1) (w.alloc (.cells #[.int .i64 i, .int .i64 st, .slice A n c, .slice B n d] 65)) (wr.drewN q)) := Lib.hid fun q => below_drewN hbr q
        have HMK : Hid (∀ w', Below (w.heap.size + 1) (w.alloc (.cells #[.int .i64 i, .int .i64 st, .slice A n c, .slice B n d] 65)) w' → (w'.cell? ⟨w.heap.size, 0, none⟩ = some (.int .i64 i) ∧ w'.cell? ⟨w.heap.size, 1, none⟩ = some (.int .i64 st) ∧ w'.cell? ⟨w.heap.size, 2, none⟩ = some (.slice A n c) ∧ w'.cell? ⟨w.heap.size, 3, none⟩ = some (.slice B n d)) ∧ w'.cell? ⟨g1, p1 + j, none⟩ = some (.slice A1 n1 c1)) := Lib.hid fun w' h => ⟨box4 h, (h.cell (p := ⟨g1, p1 + j, none⟩) hg2).trans ((hb0.cell (p := ⟨g1, p1 + j, none⟩) hg1).trans hd1)⟩
        have hrb := hr1.below hb0
        have HOUT : Hid (∀ w', Below (w.heap.size + 1) (w.alloc (.cells #[.int .i64 i, .int .i64 st, .slice A n c, .slice B n d] 65)) w' → Calls Try.prog 83 #[.agg #[.int .i64 i, .int .i64 st, .slice A n c, .slice B n d], .int .i64 st, .slice A1 n1 c1] w' fun e w'' => ∃ A' c', e = .returned (.tuple #[.slice A' n1 c', .int .i64 (runS nx st row)]) ∧ Owned w'' w'.heap.size (.slice A' n1 c') (runO nx ot st row) ∧ Below w'.heap.size w' w'') := Lib.hid fun w' h => routs i st n A B A1 c d n1 c1 st nx ot row w' hM ((hx.below hb0).below (by rw [HZ.out]; exact h)) ((ho.below hb0).below (by rw [HZ.out]; exact h)) hstn (hrb.below (by rw [HZ.out]; exact h)) hsy.out
        have HRB := Lib.hid hrb
        clear hrb
        clear hc hown hd1 hr1 hi1
        go_wp2
        go_quiet ((go_at_call 82; exact Calls.quiet_of (HCK.out _)))
        go_wp2
        have hxc := HMK.out _ (HBQ.out (nq + 1))
        go_region_held3 (fun w' => (w'.cell? ⟨w.heap.size, 0, none⟩ = some (.int .i64 i) ∧ w'.cell? ⟨w.heap.size, 1, none⟩ = some (.int .i64 st) ∧ w'.cell? ⟨w.heap.size, 2, none⟩ = some (.slice A n c) ∧ w'.cell? ⟨w.heap.size, 3, none⟩ = some (.slice B n d)) ∧ w'.cell? ⟨g1, p1 + j, none⟩ = some (.slice A1 n1 c1)) (first | exact hxc | (simpa using hxc)) (first
          | (go_at_call 83
             refine (HOUT.out (wr.drewN (nq + 1)) (HBQ.out (nq + 1))).mono ?_
             rintro e w4 ⟨A4, c4, rfl, o4, b4⟩
             have HT4 := Lib.hid (OwnedT.kept (show OwnedT (wr.drewN (nq + 1)) _ _ _ from HOW.out) b4)
             have HO4 := Lib.hid (o4.lower (base' := w.heap.size + 1) hsz)
             have HB4 := Lib.hid ((HBQ.out (nq + 1)).trans (b4.mono hsz))
             have hxc := HMK.out _ HB4.out))
        all_goals
          obtain ⟨_, e4⟩ := hxc
          have HJ := Lib.hid (join_one (c := c1) (HRB.out.below (by rw [HZ.out]; exact HB4.out)))
          clear o4 b4 e1 k0 k1 k2 k3
          go_wp2_with fail
          refine HJ.out.mono ?_
          rintro e w5 ⟨A5, c5, rfl, o5, b5⟩
          have hz4 : w.heap.size + 1 ≤ w4.heap.size := by have := HB4.out.size; simpa using this
          have HT5 := Lib.hid (HT4.out.kept b5)
          have HO5 := Lib.hid (HO4.out.kept b5)
          have HX5 := Lib.hid (o5.lower (base' := w.heap.size + 1) hz4)
          have HB5 := Lib.hid (HB4.out.trans (b5.mono hz4))
          have hz5 : w.heap.size + 1 ≤ w5.heap.size := by have := HB5.out.size; simpa using this
          obtain ⟨A6, c6, w6, hr6, h6, b6, _⟩ := run_append_trace HT5.out HX5.out HO5.out hz5 (by omega)
          have HT6 := Lib.hid h6
          have HB6 := Lib.hid (HB5.out.trans b6)
          have HL := Lib.hid (show (l ++ [(row, runO nx ot st row)]).length = l.length + 1 by simp)
          clear h6 b6 b5 o5 e4
          go_wp2_with (at_builtin; refine Lib.wpList_append_run _ rfl _ _ _ _ rfl _ _ rfl rfl _ _ hr6 ?_)
          go_roundw
          case rel => exact ⟨l ++ [(row, runO nx ot st row)], j + 1, A6, c6, by omega, by go_num, by rw [HL.out], by rw [HL.out]; omega, HNX.out, by rw [HL.out]; exact HT6.out, HB6.out⟩
          case measure => simp [intOf]; omega
      · have HNX := Lib.hid (HB.out.trans (trs_bad (st := st) (nx := nx) (ot := ot) (by rw [HW.out]; exact hlt) hc l))
        generalize ws.getD j [] = row at hr1 hi1 hc HNX
        have hne : (chk row i != 0) = true := by simpa using hc
        have HBW := Lib.hid (fun q => below_drewN hbw q)
        have HI1 := Lib.hid hi1
        have HCK := Lib.hid (fun q => rcheckq A1 n1 c1 i row (wr.drewN q) (HI1.out.drewN q))
        generalize chk row i = E at hne HNX HCK hc
        clear hc hown hbr hd1 hr1 hi1 hbw
        go_wp2
        go_quiet ((go_at_call 82; exact Calls.quiet_of (HCK.out _)))
        go_wp2
        go_ret2
        rw [HNX.out]
        exact ⟨none, 0, rfl, OwnedT.nil _ _, HBW.out _⟩
    · obtain rfl : j = p := by omega
      have HN := Lib.hid (HB.out.trans (trs_end (by rw [HW.out]; exact Nat.le_refl _) l))
      have HOW := Lib.hid (hown.lower (base' := w.heap.size) (Nat.le_succ _))
      have HBW := Lib.hid hbw
      clear hown hbr hbw
      go_wp2
      go_ret2
      rw [HN.out]
      exact ⟨A', c', rfl, HOW.out, HBW.out⟩
end Go.Proofs.Ytihahljpfekmbaa
