/- The reference's PutInts, PutWords and SameBytes. -/
import Derived.Test.YtihahljpfekmbaaPutl
namespace Go.Proofs.Ytihahljpfekmbaa
open Go.RowKit

set_option maxHeartbeats 1000000 in
set_option maxRecDepth 100000 in
theorem rputInts (A : Option Addr) (n c : Nat) (xs : List Int) (w : World) (hx : Ints w A n xs) (hR : RL xs) (hl : n ≤ 1000000) :
    Calls Try.prog 26 #[.slice A n c] w fun e w' => ∃ v', e = .returned v' ∧ OwnedY w' w.heap.size v' (encI xs) ∧ Below w.heap.size w w' := by
  have L := Lib.hid hx.1
  have HR := Lib.hid hR
  have hel := (enc_len (zig n)).2
  obtain ⟨R, hRR⟩ : ∃ R, R = encI xs := ⟨_, rfl⟩
  have HS := Lib.hid (show R = enc (zig n) ++ encs (xs.drop 0) by rw [hRR, List.drop_zero]; unfold encI; rw [L.out])
  rw [← hRR]
  clear hRR hR
  have HP0 := Lib.hid (rputInt n w (by omega) (by omega))
  generalize enc (zig n) = p1 at HS HP0 hel
  go_enter Try.func26, Try.ntmps26
  go_wp2_with fail
  refine HP0.out.mono ?_
  rintro e w1 ⟨v1, rfl, h1, b1⟩
  have H1 := Lib.hid h1
  clear h1
  go_wp2
  go_loopw [3, 4] (fun v jv wr => ∃ (j : Nat) (p : List Nat), j ≤ n ∧ jv = .int .i64 j ∧ OwnedY wr w.heap.size v p ∧ p.length ≤ 10 + 10 * j ∧ R = p ++ encs (xs.drop j) ∧ Below w.heap.size w wr) (fun _ jv _ => n - (intOf jv).toNat)
  case atStart => exact ⟨0, p1, Nat.zero_le _, rfl, H1.out, by omega, HS.out, b1⟩
  case round =>
    obtain ⟨j, p, hj, rfl, hown, hpl, hR, hbr⟩ := hrel
    have HT := Lib.hid hR
    have HO := Lib.hid hown
    clear hR hown
    by_cases hlt : j < n
    · obtain ⟨g, o, rfl, _, hcell⟩ := (hx.below hbr).at_ (k := j) hlt
      have hr := HR.out.at_ (j := j) (by rw [L.out]; exact hlt)
      have HT := Lib.hid (HT.out.trans (by rw [encs_drop (by rw [L.out]; exact hlt), ← List.append_assoc]))
      generalize xs.getD j 0 = x at hcell hr HT
      have hel := (enc_len (zig x)).2
      have hl2 : (p ++ enc (zig x)).length ≤ 10 + 10 * (j + 1) := by rw [List.length_append]; omega
      have HP := Lib.hid (rputInt x wr hr.1 hr.2)
      have HB := Lib.hid (enc_byte hr)
      generalize enc (zig x) = ex at HP HT hl2 HB hel
      go_wp2_with fail
      refine HP.out.mono ?_
      rintro e w2 ⟨v2, rfl, h2, b2⟩
      obtain ⟨A2, c2, rfl⟩ := h2.form
      have hb3 := hbr.trans (b2.mono hbr.size)
      obtain ⟨v3, w3, hr3, ho3, hb4⟩ := run_append_bytes w2 w.heap.size _ p ex A2 ex.length c2 (HO.out.kept b2) (h2.byts (by omega) HB.out) hb3.size (by omega)
      have B3 := Lib.hid (hb3.trans hb4)
      have O3 := Lib.hid ho3
      clear h2 b2 hb3 hb4 ho3
      go_wp2_with (at_builtin; refine Lib.wpList_append_run _ rfl _ _ _ _ rfl _ _ rfl rfl _ _ hr3 ?_)
      go_roundw
      case rel => exact ⟨j + 1, p ++ ex, by omega, by go_num, O3.out, by omega, HT.out, B3.out⟩
      case measure => simp [intOf]; omega
    · obtain rfl : j = n := by omega
      have HE := Lib.hid (HT.out.trans (show p ++ encs (xs.drop j) = p by rw [List.drop_eq_nil_of_le (by rw [L.out]; exact Nat.le_refl _)]; exact List.append_nil _))
      go_wp2
      go_ret
      exact ⟨_, rfl, by rw [HE.out]; exact HO.out, hbr⟩

set_option maxHeartbeats 1000000 in
set_option maxRecDepth 100000 in
theorem rputWords (A : Option Addr) (n c : Nat) (xss : List (List Int)) (w : World) (hx : Lists w A n xss) (hR : RLL xss) (hl : n ≤ 1000000) :
    Calls Try.prog 28 #[.slice A n c] w fun e w' => ∃ v', e = .returned v' ∧ OwnedY w' w.heap.size v' (encW xss) ∧ Below w.heap.size w w' := by
  have L := Lib.hid hx.1
  have HR := Lib.hid hR
  have hel := (enc_len (zig n)).2
  obtain ⟨R, hRR⟩ : ∃ R, R = encW xss := ⟨_, rfl⟩
  have HS := Lib.hid (show R = enc (zig n) ++ encw (xss.drop 0) by rw [hRR, List.drop_zero]; unfold encW; rw [L.out])
  rw [← hRR]
  clear hRR hR
  have HP0 := Lib.hid (rputInt n w (by omega) (by omega))
  generalize enc (zig n) = p1 at HS HP0 hel
  go_enter Try.func28, Try.ntmps28
  go_wp2_with fail
  refine HP0.out.mono ?_
  rintro e w1 ⟨v1, rfl, h1, b1⟩
  have H1 := Lib.hid h1
  clear h1
  go_wp2
  go_loopw [3, 4] (fun v jv wr => ∃ (j : Nat) (p : List Nat), j ≤ n ∧ jv = .int .i64 j ∧ OwnedY wr w.heap.size v p ∧ p.length ≤ 10 + 10010 * j ∧ R = p ++ encw (xss.drop j) ∧ Below w.heap.size w wr) (fun _ jv _ => n - (intOf jv).toNat)
  case atStart => exact ⟨0, p1, Nat.zero_le _, rfl, H1.out, by omega, HS.out, b1⟩
  case round =>
    obtain ⟨j, p, hj, rfl, hown, hpl, hR, hbr⟩ := hrel
    have HT := Lib.hid hR
    have HO := Lib.hid hown
    clear hR hown
    by_cases hlt : j < n
    · obtain ⟨g, o, B, m, d, rfl, _, hcell, hrow⟩ := (hx.below hbr).at_ (k := j) hlt
      have hr := HR.out.at_ (j := j) (by rw [L.out]; exact hlt)
      have HT := Lib.hid (HT.out.trans (by rw [encw_drop (by rw [L.out]; exact hlt), ← List.append_assoc]))
      generalize xss.getD j [] = xs at hrow hr HT
      have hel := encI_len xs
      have hm : xs.length = m := hrow.1
      have hl2 : (p ++ encI xs).length ≤ 10 + 10010 * (j + 1) := by rw [List.length_append]; omega
      have HP := Lib.hid (rputInts B m d xs wr hrow hr.1 (by omega))
      have HB := Lib.hid (encI_byte hr.1 (by omega))
      generalize encI xs = ex at HP HT hl2 HB hel
      clear hrow
      go_wp2_with fail
      refine HP.out.mono ?_
      rintro e w2 ⟨v2, rfl, h2, b2⟩
      obtain ⟨A2, c2, rfl⟩ := h2.form
      have hb3 := hbr.trans (b2.mono hbr.size)
      obtain ⟨v3, w3, hr3, ho3, hb4⟩ := run_append_bytes w2 w.heap.size _ p ex A2 ex.length c2 (HO.out.kept b2) (h2.byts (by omega) HB.out) hb3.size (by omega)
      have B3 := Lib.hid (hb3.trans hb4)
      have O3 := Lib.hid ho3
      clear h2 b2 hb3 hb4 ho3
      go_wp2_with (at_builtin; refine Lib.wpList_append_run _ rfl _ _ _ _ rfl _ _ rfl rfl _ _ hr3 ?_)
      go_roundw
      case rel => exact ⟨j + 1, p ++ ex, by omega, by go_num, O3.out, by omega, HT.out, B3.out⟩
      case measure => simp [intOf]; omega
    · obtain rfl : j = n := by omega
      have HE := Lib.hid (HT.out.trans (show p ++ encw (xss.drop j) = p by rw [List.drop_eq_nil_of_le (by rw [L.out]; exact Nat.le_refl _)]; exact List.append_nil _))
      go_wp2
      go_ret
      exact ⟨_, rfl, by rw [HE.out]; exact HO.out, hbr⟩

theorem rsameBytes (A B : Option Addr) (n c m d : Nat) (a b : List Nat) (w : World) (ha : Byts w A n a) (hb : Byts w B m b) :
    Calls Try.prog 17 #[.slice A n c, .slice B m d] w fun e w' => e = .returned (.bool (decide (a = b))) ∧ w = w' := by
  have h1 := run_conv ha c
  have h2 := run_conv hb d
  have hE := Lib.hid (show ((sob a).toList == (sob b).toList) = decide (a = b) from (sob_eq hb.2.2.2 ha.2.2.2).trans (decide_eq_decide.2 eq_comm))
  go_enter Try.func17, Try.ntmps17
  go_wp2
  go_ret
  exact ⟨congrArg (fun b => Ending.returned (.bool b)) hE.out, rfl⟩
end Go.Proofs.Ytihahljpfekmbaa
