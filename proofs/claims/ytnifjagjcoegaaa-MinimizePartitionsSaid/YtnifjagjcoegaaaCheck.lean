/- The walks of Check, by the two texts. -/
import Derived.Test.YtnifjagjcoegaaaBase
import Derived.Test.YtnifjagjcoegaaaProg
import Derived.WalkSpells
import Derived.WalkLawsBesides
import Derived.Outline
namespace Go.Proofs.Ytnifjagjcoegaaa
open Go.RowKit

/-- The first j numbers are symbols of the size k. -/
def Syms (xs : List Int) (k : Int) (j : Nat) : Prop := ∀ m, m < j → 0 ≤ xs.getD m 0 ∧ xs.getD m 0 < k

instance (xs : List Int) (k : Int) (j : Nat) : Decidable (Syms xs k j) := by unfold Syms; exact inferInstance

theorem Syms.zero (xs : List Int) (k : Int) : Syms xs k 0 := fun m hm => absurd hm (by omega)
theorem Syms.succ {xs : List Int} {k : Int} {j : Nat} (h : Syms xs k j) (h0 : 0 ≤ xs.getD j 0) (h1 : xs.getD j 0 < k) : Syms xs k (j + 1) := fun m hm => by
  by_cases e : m = j
  · subst e; exact ⟨h0, h1⟩
  · exact h m (by omega)

/-- The error of Check. -/
def chk (xs : List Int) (k : Int) : Int :=
  if 1 ≤ k ∧ k ≤ 1024 then (if 1024 < xs.length then 3 else if Syms xs k xs.length then 0 else 1) else 2

theorem chk_range {xs : List Int} {k : Int} (h : ¬ (1 ≤ k ∧ k ≤ 1024)) : chk xs k = 2 := by unfold chk; rw [if_neg h]
theorem chk_long {xs : List Int} {k : Int} (h : 1 ≤ k ∧ k ≤ 1024) (hl : 1024 < xs.length) : chk xs k = 3 := by unfold chk; rw [if_pos h, if_pos hl]
theorem chk_ok {xs : List Int} {k : Int} (h : 1 ≤ k ∧ k ≤ 1024) (hl : ¬ 1024 < xs.length) (hs : Syms xs k xs.length) : chk xs k = 0 := by unfold chk; rw [if_pos h, if_neg hl, if_pos hs]
theorem chk_bad {xs : List Int} {k : Int} (h : 1 ≤ k ∧ k ≤ 1024) (hl : ¬ 1024 < xs.length) {j : Nat} (hj : j < xs.length) (hs : ¬ (0 ≤ xs.getD j 0 ∧ xs.getD j 0 < k)) : chk xs k = 1 := by
  unfold chk; rw [if_pos h, if_neg hl, if_neg fun H => hs (H j hj)]


theorem chk_zero {xs : List Int} {k : Int} (h : chk xs k = 0) : 1 ≤ k ∧ k ≤ 1024 ∧ xs.length ≤ 1024 ∧ Syms xs k xs.length := by
  unfold chk at h
  by_cases h1 : 1 ≤ k ∧ k ≤ 1024
  · rw [if_pos h1] at h
    by_cases h2 : 1024 < xs.length
    · rw [if_pos h2] at h; omega
    · rw [if_neg h2] at h
      by_cases h3 : Syms xs k xs.length
      · exact ⟨h1.1, h1.2, by omega, h3⟩
      · rw [if_neg h3] at h; omega
  · rw [if_neg h1] at h; omega

theorem wperm (k : Int) (b : Bool) (h : b = true ↔ (1 ≤ k ∧ k ≤ 1024)) (w : World) :
    Calls Try.prog 107 #[.int .i64 k] w fun e w' => e = .returned (.bool b) ∧ w = w' := by
  by_cases h1 : 1 ≤ k
  · by_cases h2 : k ≤ 1024
    · obtain rfl : b = true := h.2 ⟨h1, h2⟩
      go_enter Try.func107, Try.ntmps107
      go_wp2
      go_ret
      exact ⟨rfl, rfl⟩
    · obtain rfl : b = false := by cases b; rfl; exact absurd (h.1 rfl).2 h2
      go_enter Try.func107, Try.ntmps107
      go_wp2
      go_ret
      exact ⟨rfl, rfl⟩
  · obtain rfl : b = false := by cases b; rfl; exact absurd (h.1 rfl).1 h1
    go_enter Try.func107, Try.ntmps107
    go_wp2
    go_ret
    exact ⟨rfl, rfl⟩

theorem rsize (k : Int) (b : Bool) (h : b = true ↔ (1 ≤ k ∧ k ≤ 1024)) (w : World) :
    Calls Try.prog 75 #[.int .i64 k] w fun e w' => e = .returned (.bool b) ∧ w = w' := by
  by_cases h1 : 1 ≤ k
  · by_cases h2 : k ≤ 1024
    · obtain rfl : b = true := h.2 ⟨h1, h2⟩
      go_enter Try.func75, Try.ntmps75
      go_wp2
      go_ret
      exact ⟨rfl, rfl⟩
    · obtain rfl : b = false := by cases b; rfl; exact absurd (h.1 rfl).2 h2
      go_enter Try.func75, Try.ntmps75
      go_wp2
      go_ret
      exact ⟨rfl, rfl⟩
  · obtain rfl : b = false := by cases b; rfl; exact absurd (h.1 rfl).1 h1
    go_enter Try.func75, Try.ntmps75
    go_wp2
    go_ret
    exact ⟨rfl, rfl⟩

set_option maxHeartbeats 400000 in
theorem wcheck (A : Option Addr) (n c : Nat) (k : Int) (xs : List Int) (w : World) (h : Ints w A n xs) :
    Calls Try.prog 66 #[.slice A n c, .int .i64 k] w fun e w' => e = .returned (.int .i64 (chk xs k)) ∧ w = w' := by
  have hlen := h.1
  have hn := h.2.1
  by_cases hr : 1 ≤ k ∧ k ≤ 1024
  · have H1 := Lib.hid hr
    obtain ⟨h1, h2⟩ := hr
    by_cases hl : 1024 < n
    · have hfin := Lib.hid (chk_long (xs := xs) ⟨h1, h2⟩ (by omega))
      clear hlen
      go_enter Try.func66, Try.ntmps66
      go_wp2_with (go_at_call 107; refine (wperm k true (by simp; omega) _).mono ?_; rintro e w' ⟨rfl, rfl⟩)
      go_ret
      exact ⟨ret_int hfin.out.symm, rfl⟩
    · have hd : decide ((1024 : Int) < (n : Int)) = false := by simp; omega
      have hL := Lib.hid hlen
      clear hlen
      go_enter Try.func66, Try.ntmps66
      go_wp2_with (go_at_call 107; refine (wperm k true (by simp; omega) _).mono ?_; rintro e w' ⟨rfl, rfl⟩)
      go_loop [15] (fun i => ∃ j : Nat, j ≤ n ∧ i = .int .i64 j ∧ Syms xs k j) (fun i => n - (intOf i).toNat)
      case atStart => exact ⟨0, Nat.zero_le _, rfl, Syms.zero _ _⟩
      case round =>
        obtain ⟨j, hj, rfl, hs⟩ := hrel
        by_cases hlt : j < n
        · obtain ⟨b, off, rfl, hb, hc⟩ := h.at_ hlt
          by_cases hg : 0 ≤ xs[j]?.getD 0 ∧ xs[j]?.getD 0 < k
          · obtain ⟨g1, g2⟩ := hg
            have g3 : ¬ xs[j]?.getD 0 < 0 := by omega
            have hs' := hs.succ (by simpa using g1) (by simpa using g2)
            go_wp2
            go_round
            case rel => exact ⟨j + 1, by omega, by go_num, hs'⟩
            case measure => simp [intOf]; omega
          · have hbad := Lib.hid (chk_bad H1.out (by rw [hL.out]; exact hl) (by rw [hL.out]; exact hlt) (by simpa using hg))
            by_cases g1 : xs[j]?.getD 0 < 0
            · go_wp2
              go_ret
              exact ⟨ret_int hbad.out.symm, rfl⟩
            · have g2 : k ≤ xs[j]?.getD 0 := by omega
              have g0 : 0 ≤ xs[j]?.getD 0 := by omega
              clear hg
              go_wp2
              go_ret
              exact ⟨ret_int hbad.out.symm, rfl⟩
        · have hok := Lib.hid (chk_ok H1.out (by rw [hL.out]; exact hl) (by rw [hL.out]; exact (by omega : j = n) ▸ hs))
          go_wp2
          go_ret
          exact ⟨ret_int hok.out.symm, rfl⟩
  · have hbad := Lib.hid (chk_range (xs := xs) hr)
    go_enter Try.func66, Try.ntmps66
    go_wp2_with (go_at_call 107; refine (wperm k false (by simp; omega) _).mono ?_; rintro e w' ⟨rfl, rfl⟩)
    go_ret
    exact ⟨ret_int hbad.out.symm, rfl⟩

set_option maxHeartbeats 400000 in
theorem rcheck (A : Option Addr) (n c : Nat) (k : Int) (xs : List Int) (w : World) (h : Ints w A n xs) :
    Calls Try.prog 42 #[.slice A n c, .int .i64 k] w fun e w' => e = .returned (.int .i64 (chk xs k)) ∧ w = w' := by
  have hlen := h.1
  have hn := h.2.1
  by_cases hr : 1 ≤ k ∧ k ≤ 1024
  · have H1 := Lib.hid hr
    obtain ⟨h1, h2⟩ := hr
    by_cases hl : 1024 < n
    · have hfin := Lib.hid (chk_long (xs := xs) ⟨h1, h2⟩ (by omega))
      clear hlen
      go_enter Try.func42, Try.ntmps42
      go_wp2_with (go_at_call 75; refine (rsize k true (by simp; omega) _).mono ?_; rintro e w' ⟨rfl, rfl⟩)
      go_ret
      exact ⟨ret_int hfin.out.symm, rfl⟩
    · have hd : decide ((1024 : Int) < (n : Int)) = false := by simp; omega
      have hL := Lib.hid hlen
      clear hlen
      go_enter Try.func42, Try.ntmps42
      go_wp2_with (go_at_call 75; refine (rsize k true (by simp; omega) _).mono ?_; rintro e w' ⟨rfl, rfl⟩)
      go_loop [5] (fun i => ∃ j : Nat, j ≤ n ∧ i = .int .i64 j ∧ Syms xs k j) (fun i => n - (intOf i).toNat)
      case atStart => exact ⟨0, Nat.zero_le _, rfl, Syms.zero _ _⟩
      case round =>
        obtain ⟨j, hj, rfl, hs⟩ := hrel
        by_cases hlt : j < n
        · obtain ⟨b, off, rfl, hb, hc⟩ := h.at_ hlt
          by_cases hg : 0 ≤ xs[j]?.getD 0 ∧ xs[j]?.getD 0 < k
          · obtain ⟨g1, g2⟩ := hg
            have g3 : ¬ xs[j]?.getD 0 < 0 := by omega
            have hs' := hs.succ (by simpa using g1) (by simpa using g2)
            go_wp2
            go_round
            case rel => exact ⟨j + 1, by omega, by go_num, hs'⟩
            case measure => simp [intOf]; omega
          · have hbad := Lib.hid (chk_bad H1.out (by rw [hL.out]; exact hl) (by rw [hL.out]; exact hlt) (by simpa using hg))
            by_cases g1 : xs[j]?.getD 0 < 0
            · go_wp2
              go_ret
              exact ⟨ret_int hbad.out.symm, rfl⟩
            · have g2 : k ≤ xs[j]?.getD 0 := by omega
              have g0 : 0 ≤ xs[j]?.getD 0 := by omega
              clear hg
              go_wp2
              go_ret
              exact ⟨ret_int hbad.out.symm, rfl⟩
        · have hok := Lib.hid (chk_ok H1.out (by rw [hL.out]; exact hl) (by rw [hL.out]; exact (by omega : j = n) ▸ hs))
          go_wp2
          go_ret
          exact ⟨ret_int hok.out.symm, rfl⟩
  · have hbad := Lib.hid (chk_range (xs := xs) hr)
    go_enter Try.func42, Try.ntmps42
    go_wp2_with (go_at_call 75; refine (rsize k false (by simp; omega) _).mono ?_; rintro e w' ⟨rfl, rfl⟩)
    go_ret
    exact ⟨ret_int hbad.out.symm, rfl⟩
end Go.Proofs.Ytnifjagjcoegaaa
