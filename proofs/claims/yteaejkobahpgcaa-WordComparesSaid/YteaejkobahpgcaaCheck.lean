/- The walks of Check, by the two texts. -/
import Derived.Test.YteaejkobahpgcaaProg
import Derived.Test.YteaejkobahpgcaaBase
import Derived.WalkSpells
import Derived.WalkLawsBesides
import Derived.Outline
namespace Go.Proofs.Yteaejkobahpgcaa
open Go.RowKit

theorem wperm (k : Int) (b : Bool) (h : b = true ↔ (1 ≤ k ∧ k ≤ 1024)) (w : World) :
    Calls Try.prog 29 #[.int .i64 k] w fun e w' => e = .returned (.bool b) ∧ w = w' := by
  by_cases h1 : 1 ≤ k
  · by_cases h2 : k ≤ 1024
    · obtain rfl : b = true := h.2 ⟨h1, h2⟩
      go_enter Try.func29, Try.ntmps29
      go_wp2
      go_ret
      exact ⟨rfl, rfl⟩
    · obtain rfl : b = false := by cases b; rfl; exact absurd (h.1 rfl).2 h2
      go_enter Try.func29, Try.ntmps29
      go_wp2
      go_ret
      exact ⟨rfl, rfl⟩
  · obtain rfl : b = false := by cases b; rfl; exact absurd (h.1 rfl).1 h1
    go_enter Try.func29, Try.ntmps29
    go_wp2
    go_ret
    exact ⟨rfl, rfl⟩

theorem rsize (k : Int) (b : Bool) (h : b = true ↔ (1 ≤ k ∧ k ≤ 1024)) (w : World) :
    Calls Try.prog 30 #[.int .i64 k] w fun e w' => e = .returned (.bool b) ∧ w = w' := by
  by_cases h1 : 1 ≤ k
  · by_cases h2 : k ≤ 1024
    · obtain rfl : b = true := h.2 ⟨h1, h2⟩
      go_enter Try.func30, Try.ntmps30
      go_wp2
      go_ret
      exact ⟨rfl, rfl⟩
    · obtain rfl : b = false := by cases b; rfl; exact absurd (h.1 rfl).2 h2
      go_enter Try.func30, Try.ntmps30
      go_wp2
      go_ret
      exact ⟨rfl, rfl⟩
  · obtain rfl : b = false := by cases b; rfl; exact absurd (h.1 rfl).1 h1
    go_enter Try.func30, Try.ntmps30
    go_wp2
    go_ret
    exact ⟨rfl, rfl⟩

set_option maxHeartbeats 400000 in
theorem wcheck (A : Option Addr) (n c : Nat) (k : Int) (xs : List Int) (w : World) (h : Ints w A n xs) :
    Calls Try.prog 10 #[.slice A n c, .int .i64 k] w fun e w' => e = .returned (.int .i64 (chk xs k)) ∧ w = w' := by
  have hlen := h.1
  have hn := h.2.1
  by_cases hr : 1 ≤ k ∧ k ≤ 1024
  · have H1 := Lib.hid hr
    obtain ⟨h1, h2⟩ := hr
    by_cases hl : 1024 < n
    · have hfin := Lib.hid (chk_long (xs := xs) ⟨h1, h2⟩ (by omega))
      clear hlen
      go_enter Try.func10, Try.ntmps10
      go_wp2_with (go_at_call 29; refine (wperm k true (by simp; omega) _).mono ?_; rintro e w' ⟨rfl, rfl⟩)
      go_ret
      exact ⟨ret_int hfin.out.symm, rfl⟩
    · have hd : decide ((1024 : Int) < (n : Int)) = false := by simp; omega
      have hL := Lib.hid hlen
      clear hlen
      go_enter Try.func10, Try.ntmps10
      go_wp2_with (go_at_call 29; refine (wperm k true (by simp; omega) _).mono ?_; rintro e w' ⟨rfl, rfl⟩)
      go_loop [15] (fun i => ∃ j : Nat, j ≤ n ∧ i = .int .i64 j ∧ Syms xs k j) (fun i => n - (intOf i).toNat)
      case atStart => exact ⟨0, Nat.zero_le _, rfl, Syms.zero _ _⟩
      case round =>
        obtain ⟨j, hj, rfl, hs⟩ := hrel
        by_cases hlt : j < n
        · obtain ⟨b, off, rfl, hb, hc⟩ := h.at_ hlt
          by_cases hg : 0 ≤ xs[j]?.getD 0 ∧ xs[j]?.getD 0 < k
          · obtain ⟨g1, g2⟩ := hg
            have g3 : ¬ xs[j]?.getD 0 < 0 := by omega
            have hs' := hs.succ (by simpa using g1) (by simpa using g2)
            go_wp2
            go_round
            case rel => exact ⟨j + 1, by omega, by go_num, hs'⟩
            case measure => simp [intOf]; omega
          · have hbad := Lib.hid (chk_bad H1.out (by rw [hL.out]; exact hl) (by rw [hL.out]; exact hlt) (by simpa using hg))
            by_cases g1 : xs[j]?.getD 0 < 0
            · go_wp2
              go_ret
              exact ⟨ret_int hbad.out.symm, rfl⟩
            · have g2 : k ≤ xs[j]?.getD 0 := by omega
              have g0 : 0 ≤ xs[j]?.getD 0 := by omega
              clear hg
              go_wp2
              go_ret
              exact ⟨ret_int hbad.out.symm, rfl⟩
        · have hok := Lib.hid (chk_ok H1.out (by rw [hL.out]; exact hl) (by rw [hL.out]; exact (by omega : j = n) ▸ hs))
          go_wp2
          go_ret
          exact ⟨ret_int hok.out.symm, rfl⟩
  · have hbad := Lib.hid (chk_range (xs := xs) hr)
    go_enter Try.func10, Try.ntmps10
    go_wp2_with (go_at_call 29; refine (wperm k false (by simp; omega) _).mono ?_; rintro e w' ⟨rfl, rfl⟩)
    go_ret
    exact ⟨ret_int hbad.out.symm, rfl⟩

set_option maxHeartbeats 400000 in
theorem rcheck (A : Option Addr) (n c : Nat) (k : Int) (xs : List Int) (w : World) (h : Ints w A n xs) :
    Calls Try.prog 11 #[.slice A n c, .int .i64 k] w fun e w' => e = .returned (.int .i64 (chk xs k)) ∧ w = w' := by
  have hlen := h.1
  have hn := h.2.1
  by_cases hr : 1 ≤ k ∧ k ≤ 1024
  · have H1 := Lib.hid hr
    obtain ⟨h1, h2⟩ := hr
    by_cases hl : 1024 < n
    · have hfin := Lib.hid (chk_long (xs := xs) ⟨h1, h2⟩ (by omega))
      clear hlen
      go_enter Try.func11, Try.ntmps11
      go_wp2_with (go_at_call 30; refine (rsize k true (by simp; omega) _).mono ?_; rintro e w' ⟨rfl, rfl⟩)
      go_ret
      exact ⟨ret_int hfin.out.symm, rfl⟩
    · have hd : decide ((1024 : Int) < (n : Int)) = false := by simp; omega
      have hL := Lib.hid hlen
      clear hlen
      go_enter Try.func11, Try.ntmps11
      go_wp2_with (go_at_call 30; refine (rsize k true (by simp; omega) _).mono ?_; rintro e w' ⟨rfl, rfl⟩)
      go_loop [5] (fun i => ∃ j : Nat, j ≤ n ∧ i = .int .i64 j ∧ Syms xs k j) (fun i => n - (intOf i).toNat)
      case atStart => exact ⟨0, Nat.zero_le _, rfl, Syms.zero _ _⟩
      case round =>
        obtain ⟨j, hj, rfl, hs⟩ := hrel
        by_cases hlt : j < n
        · obtain ⟨b, off, rfl, hb, hc⟩ := h.at_ hlt
          by_cases hg : 0 ≤ xs[j]?.getD 0 ∧ xs[j]?.getD 0 < k
          · obtain ⟨g1, g2⟩ := hg
            have g3 : ¬ xs[j]?.getD 0 < 0 := by omega
            have hs' := hs.succ (by simpa using g1) (by simpa using g2)
            go_wp2
            go_round
            case rel => exact ⟨j + 1, by omega, by go_num, hs'⟩
            case measure => simp [intOf]; omega
          · have hbad := Lib.hid (chk_bad H1.out (by rw [hL.out]; exact hl) (by rw [hL.out]; exact hlt) (by simpa using hg))
            by_cases g1 : xs[j]?.getD 0 < 0
            · go_wp2
              go_ret
              exact ⟨ret_int hbad.out.symm, rfl⟩
            · have g2 : k ≤ xs[j]?.getD 0 := by omega
              have g0 : 0 ≤ xs[j]?.getD 0 := by omega
              clear hg
              go_wp2
              go_ret
              exact ⟨ret_int hbad.out.symm, rfl⟩
        · have hok := Lib.hid (chk_ok H1.out (by rw [hL.out]; exact hl) (by rw [hL.out]; exact (by omega : j = n) ▸ hs))
          go_wp2
          go_ret
          exact ⟨ret_int hok.out.symm, rfl⟩
  · have hbad := Lib.hid (chk_range (xs := xs) hr)
    go_enter Try.func11, Try.ntmps11
    go_wp2_with (go_at_call 30; refine (rsize k false (by simp; omega) _).mono ?_; rintro e w' ⟨rfl, rfl⟩)
    go_ret
    exact ⟨ret_int hbad.out.symm, rfl⟩

end Go.Proofs.Yteaejkobahpgcaa
