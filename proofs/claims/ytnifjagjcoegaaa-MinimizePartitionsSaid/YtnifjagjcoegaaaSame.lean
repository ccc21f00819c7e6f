/- The reference: Common and Same. -/
import Derived.Test.YtnifjagjcoegaaaBase
import Derived.Test.YtnifjagjcoegaaaOrd
import Derived.Test.YtnifjagjcoegaaaProg
import Derived.Outline
import Derived.WalkLawsBesides
import Derived.WalkSpells
import Derived.BigQuiet
import Derived.Deep.QuietTactic
namespace Go.Proofs.Ytnifjagjcoegaaa
open Go.RowKit

set_option maxHeartbeats 400000 in
theorem rcommon (A B : Option Addr) (n c m d : Nat) (xs ys : List Int) (w : World) (hx : Ints w A n xs) (hy : Ints w B m ys) :
    Calls Try.prog 76 #[.slice A n c, .slice B m d] w fun e w' => e = .returned (.int .i64 (cmn xs ys)) ∧ ∃ q, w' = w.drewN q := by
  have L1 := Lib.hid hx.1
  have L2 := Lib.hid hy.1
  have hn := hx.2.1
  have hm := hy.2.1
  go_enter Try.func76, Try.ntmps76
  go_wp2
  go_loopw [5] (fun i wr => ∃ j : Nat, j ≤ n ∧ j ≤ m ∧ i = .int .i64 j ∧ Agree xs ys j ∧ ∃ q, wr = w.drewN q) (fun i _ => n - (intOf i).toNat)
  case atStart => exact ⟨0, Nat.zero_le _, Nat.zero_le _, rfl, Agree.zero _ _, 0, rfl⟩
  case round =>
    obtain ⟨j, hj1, hj2, rfl, ha, q, rfl⟩ := hrel
    by_cases hl1 : j < n
    · by_cases hl2 : j < m
      · have d1 : decide ((j : Int) < (n : Int)) = true := by simp; omega
        have d2 : decide ((j : Int) < (m : Int)) = true := by simp; omega
        obtain ⟨b1, o1, rfl, _, hc1⟩ := hx.at_ (k := j) (by omega)
        obtain ⟨b2, o2, rfl, _, hc2⟩ := hy.at_ (k := j) (by omega)
        by_cases he : xs[j]?.getD 0 = ys[j]?.getD 0
        · have ha' := Lib.hid (ha.succ (by simpa using he))
          have hb : (xs[j]?.getD 0 == ys[j]?.getD 0) = true := by simp [he]
          have hE := Lib.hid he
          clear he ha
          go_wp2
          go_quiet (fail)
          go_wp2
          go_roundw
          case rel => exact ⟨j + 1, by omega, by omega, by go_num, ha'.out, by first | exact ⟨_, rfl⟩ | exact ⟨_, World.drewN_drewN _ _ _⟩⟩
          case measure => simp [intOf]; omega
        · have hfin := Lib.hid (cmn_eq (j := j) (by rw [L1.out]; omega) (by rw [L2.out]; omega) ha (.inr (.inr (by simpa using he))))
          have hb : (xs[j]?.getD 0 == ys[j]?.getD 0) = false := by simpa using he
          clear he ha
          go_wp2
          go_quiet (fail)
          go_wp2
          go_ret
          exact ⟨ret_int (by rw [hfin.out]), by first | exact ⟨_, rfl⟩ | exact ⟨_, World.drewN_drewN _ _ _⟩⟩
      · have hfin := Lib.hid (cmn_eq (j := j) (by rw [L1.out]; omega) (by rw [L2.out]; omega) ha (by rw [L1.out, L2.out]; omega))
        have d1 : decide ((j : Int) < (n : Int)) = true := by simp; omega
        have d2 : decide ((j : Int) < (m : Int)) = false := by simp; omega
        clear ha
        go_wp2
        go_quiet (fail)
        go_wp2
        go_ret
        exact ⟨ret_int (by rw [hfin.out]), by first | exact ⟨_, rfl⟩ | exact ⟨_, World.drewN_drewN _ _ _⟩⟩
    · have hfin := Lib.hid (cmn_eq (j := j) (by rw [L1.out]; omega) (by rw [L2.out]; omega) ha (by rw [L1.out, L2.out]; omega))
      have d1 : decide ((j : Int) < (n : Int)) = false := by simp; omega
      clear ha
      go_wp2
      go_quiet (fail)
      go_wp2
      go_ret
      exact ⟨ret_int (by rw [hfin.out]), by first | exact ⟨_, rfl⟩ | exact ⟨_, World.drewN_drewN _ _ _⟩⟩

theorem rsame (A B : Option Addr) (n c m d : Nat) (xs ys : List Int) (b : Bool) (w : World) (hx : Ints w A n xs) (hy : Ints w B m ys) (hb : b = true ↔ xs = ys) :
    Calls Try.prog 27 #[.slice A n c, .slice B m d] w fun e w' => e = .returned (.bool b) ∧ ∃ q, w' = w.drewN q := by
  have L1 := Lib.hid hx.1
  have L2 := Lib.hid hy.1
  by_cases hnm : n = m
  · subst hnm
    have hq : ((cmn xs ys : Int) == (n : Int)) = b := by
      have := cmn_full (xs := xs) (ys := ys) (by rw [L1.out, L2.out])
      rw [L1.out] at this
      rw [Bool.eq_iff_iff, hb, ← this]; simp; omega
    have HQ := Lib.hid hq
    clear hq hb
    go_enter Try.func27, Try.ntmps27
    go_wp2_with (go_at_call 76; refine (rcommon _ _ _ _ _ _ xs ys _ hx hy).mono ?_; rintro e w' ⟨rfl, q, rfl⟩)
    go_ret
    exact ⟨by rw [HQ.out]; rfl, _, rfl⟩
  · obtain rfl : b = false := by
      cases b
      · rfl
      · exact absurd (by rw [← L1.out, ← L2.out, hb.1 rfl]) hnm
    have hd : ((n : Int) == (m : Int)) = false := by simp; omega
    clear hb
    go_enter Try.func27, Try.ntmps27
    go_wp2
    go_ret
    exact ⟨rfl, 0, rfl⟩
end Go.Proofs.Ytnifjagjcoegaaa
