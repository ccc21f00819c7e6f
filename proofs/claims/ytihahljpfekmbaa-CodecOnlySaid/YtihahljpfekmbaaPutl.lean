/- PutInts and PutWords of both. -/
import Derived.Test.YtihahljpfekmbaaBytr
import Derived.Test.YtihahljpfekmbaaEncq
namespace Go.Proofs.Ytihahljpfekmbaa
open Go.RowKit

theorem RL.at_ {l : List Int} (h : RL l) {j : Nat} (hj : j < l.length) : R64 (l.getD j 0) := h _ (by
  rw [List.getD_eq_getElem?_getD, List.getElem?_eq_getElem hj]; exact List.getElem_mem _)

set_option maxHeartbeats 1000000 in
set_option maxRecDepth 100000 in
theorem pappendInts {W : World} (A : Option Addr) (n c : Nat) (xs : List Int) (v : Value) (pre : List Nat) (base : Nat) (w : World) (hx : Ints W A n xs) (hW : Below W.heap.size W w) (hwb : W.heap.size ≤ base) (hR : RL xs) (hv : OwnedY w base v pre) (hb : base ≤ w.heap.size) (hl : pre.length + 10 * n ≤ 16000000000000) :
    Calls Try.prog 70 #[v, .slice A n c] w fun e w' => ∃ v', e = .returned v' ∧ OwnedY w' base v' (pre ++ encI xs) ∧ Below base w w' := by
  have L := Lib.hid hx.1
  have hn := hx.2.1
  have HR := Lib.hid hR
  have hel := (enc_len (zig n)).2
  obtain ⟨R, hRR⟩ : ∃ R, R = pre ++ encI xs := ⟨_, rfl⟩
  have HS := Lib.hid (show R = (pre ++ enc (zig n)) ++ encs (xs.drop 0) by rw [hRR, List.drop_zero]; unfold encI; rw [L.out, List.append_assoc])
  rw [← hRR]
  clear hRR hR
  go_enter Try.func70, Try.ntmps70
  go_wp2_with fail
  refine (pappendInt n v pre base _ (by omega) (by omega) hv hb (by omega)).mono ?_
  rintro e w1 ⟨v1, rfl, h1, b1⟩
  have hl1 : (pre ++ enc (zig n)).length ≤ pre.length + 10 := by rw [List.length_append]; omega
  generalize pre ++ enc (zig n) = p1 at h1 HS hl1
  have H1 := Lib.hid h1
  clear h1 hel
  go_wp2
  go_loopw [0, 13] (fun v jv wr => ∃ (j : Nat) (p : List Nat), j ≤ n ∧ jv = .int .i64 j ∧ OwnedY wr base v p ∧ p.length ≤ pre.length + 10 + 10 * j ∧ R = p ++ encs (xs.drop j) ∧ Below base w wr) (fun _ jv _ => n - (intOf jv).toNat)
  case atStart => exact ⟨0, p1, Nat.zero_le _, rfl, H1.out, by omega, HS.out, b1⟩
  case round =>
    obtain ⟨j, p, hj, rfl, hown, hpl, hR, hbr⟩ := hrel
    have HT := Lib.hid hR
    have HO := Lib.hid hown
    clear hR hown
    by_cases hlt : j < n
    · have hWr : Below W.heap.size W wr := hW.trans (hbr.mono hwb)
      obtain ⟨g, o, rfl, _, hcell⟩ := (hx.below hWr).at_ (k := j) hlt
      have hr := HR.out.at_ (j := j) (by rw [L.out]; exact hlt)
      have HT := Lib.hid (HT.out.trans (by rw [encs_drop (by rw [L.out]; exact hlt), ← List.append_assoc]))
      generalize xs.getD j 0 = x at hcell hr HT
      have hel := (enc_len (zig x)).2
      have hsz := hbr.size
      have hl2 : (p ++ enc (zig x)).length ≤ pre.length + 10 + 10 * (j + 1) := by rw [List.length_append]; omega
      have HP := Lib.hid (pappendInt x _ p base wr hr.1 hr.2 HO.out (by omega) (by omega))
      generalize p ++ enc (zig x) = p2 at HP HT hl2
      clear hel
      go_wp2_with fail
      refine HP.out.mono ?_
      rintro e w2 ⟨v2, rfl, h2, b2⟩
      have H2 := Lib.hid h2
      have B2 := Lib.hid (hbr.trans b2)
      clear h2 b2 hbr
      go_wp2
      go_roundw
      case rel => exact ⟨j + 1, p2, by omega, by go_num, H2.out, by omega, HT.out, B2.out⟩
      case measure => simp [intOf]; omega
    · obtain rfl : j = n := by omega
      have HE := Lib.hid (HT.out.trans (show p ++ encs (xs.drop j) = p by rw [List.drop_eq_nil_of_le (by rw [L.out]; exact Nat.le_refl _)]; exact List.append_nil _))
      go_wp2
      go_ret
      exact ⟨_, rfl, by rw [HE.out]; exact HO.out, hbr⟩

theorem pputInts (A : Option Addr) (n c : Nat) (xs : List Int) (w : World) (hx : Ints w A n xs) (hR : RL xs) (hl : n ≤ 1000000) :
    Calls Try.prog 25 #[.slice A n c] w fun e w' => ∃ v', e = .returned v' ∧ OwnedY w' w.heap.size v' (encI xs) ∧ Below w.heap.size w w' := by
  have HR := Lib.hid hR
  clear hR
  go_enter Try.func25, Try.ntmps25
  go_wp2_with fail
  refine (pappendInts A n c xs _ [] w.heap.size _ hx (Below.refl _ _) (Nat.le_refl _) HR.out (OwnedY.nil _ _) (Nat.le_refl _) (by simp; omega)).mono ?_
  rintro e w1 ⟨v, rfl, h, hb⟩
  rw [List.nil_append] at h
  have H := Lib.hid h
  clear h
  go_wp2
  go_ret
  exact ⟨v, rfl, H.out, hb⟩

/-- Lists of numbers that fit. -/
def RLL (ls : List (List Int)) : Prop := ∀ l, l ∈ ls → RL l ∧ l.length ≤ 1000
theorem RLL.at_ {l : List (List Int)} (h : RLL l) {j : Nat} (hj : j < l.length) : RL (l.getD j []) ∧ (l.getD j []).length ≤ 1000 := h _ (by
  rw [List.getD_eq_getElem?_getD, List.getElem?_eq_getElem hj]; exact List.getElem_mem _)

set_option maxHeartbeats 1000000 in
set_option maxRecDepth 100000 in
theorem pputWords (A : Option Addr) (n c : Nat) (xss : List (List Int)) (w : World) (hx : Lists w A n xss) (hR : RLL xss) (hl : n ≤ 1000000) :
    Calls Try.prog 27 #[.slice A n c] w fun e w' => ∃ v', e = .returned v' ∧ OwnedY w' w.heap.size v' (encW xss) ∧ Below w.heap.size w w' := by
  have L := Lib.hid hx.1
  have hn := hx.2.1
  have HR := Lib.hid hR
  have hel := (enc_len (zig n)).2
  obtain ⟨R, hRR⟩ : ∃ R, R = encW xss := ⟨_, rfl⟩
  have HS := Lib.hid (show R = enc (zig n) ++ encw (xss.drop 0) by rw [hRR, List.drop_zero]; unfold encW; rw [L.out])
  rw [← hRR]
  clear hRR hR
  have HP0 := Lib.hid (pputInt n w (by omega) (by omega))
  generalize enc (zig n) = p1 at HS HP0 hel
  go_enter Try.func27, Try.ntmps27
  go_wp2_with fail
  refine HP0.out.mono ?_
  rintro e w1 ⟨v1, rfl, h1, b1⟩
  have H1 := Lib.hid h1
  clear h1
  go_wp2
  go_loopw [3, 11] (fun v jv wr => ∃ (j : Nat) (p : List Nat), j ≤ n ∧ jv = .int .i64 j ∧ OwnedY wr w.heap.size v p ∧ p.length ≤ 10 + 10010 * j ∧ R = p ++ encw (xss.drop j) ∧ Below w.heap.size w wr) (fun _ jv _ => n - (intOf jv).toNat)
  case atStart => exact ⟨0, p1, Nat.zero_le _, rfl, H1.out, by omega, HS.out, b1⟩
  case round =>
    obtain ⟨j, p, hj, rfl, hown, hpl, hR, hbr⟩ := hrel
    have HT := Lib.hid hR
    have HO := Lib.hid hown
    clear hR hown
    by_cases hlt : j < n
    · obtain ⟨g, o, B, m, d, rfl, hglt, hcell0, hrow⟩ := hx.at_ (k := j) hlt
      have hcell := (hbr.cell hglt).trans hcell0
      clear hcell0
      have hr := HR.out.at_ (j := j) (by rw [L.out]; exact hlt)
      have HT := Lib.hid (HT.out.trans (by rw [encw_drop (by rw [L.out]; exact hlt), ← List.append_assoc]))
      generalize xss.getD j [] = xs at hrow hr HT
      have hel := encI_len xs
      have hm : xs.length = m := hrow.1
      have hsz := hbr.size
      have hl2 : (p ++ encI xs).length ≤ 10 + 10010 * (j + 1) := by rw [List.length_append]; omega
      have HP := Lib.hid (pappendInts B m d xs _ p w.heap.size wr hrow hbr (Nat.le_refl _) hr.1 HO.out hsz (by omega))
      generalize p ++ encI xs = p2 at HP HT hl2
      clear hel
      go_wp2_with fail
      refine HP.out.mono ?_
      rintro e w2 ⟨v2, rfl, h2, b2⟩
      have H2 := Lib.hid h2
      have B2 := Lib.hid (hbr.trans b2)
      clear h2 b2 hbr
      go_wp2
      go_roundw
      case rel => exact ⟨j + 1, p2, by omega, by go_num, H2.out, by omega, HT.out, B2.out⟩
      case measure => simp [intOf]; omega
    · obtain rfl : j = n := by omega
      have HE := Lib.hid (HT.out.trans (show p ++ encw (xss.drop j) = p by rw [List.drop_eq_nil_of_le (by rw [L.out]; exact Nat.le_refl _)]; exact List.append_nil _))
      go_wp2
      go_ret
      exact ⟨_, rfl, by rw [HE.out]; exact HO.out, hbr⟩
end Go.Proofs.Ytihahljpfekmbaa
