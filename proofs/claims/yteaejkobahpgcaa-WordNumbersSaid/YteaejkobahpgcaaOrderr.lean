/- The walks of both orders of the reference. -/
import Derived.Test.YteaejkobahpgcaaOrder
namespace Go.Proofs.Yteaejkobahpgcaa
open Go.RowKit

set_option maxHeartbeats 400000 in
theorem rlex (A B : Option Addr) (n c m d : Nat) (xs ys : List Int) (w : World) (hx : Ints w A n xs) (hy : Ints w B m ys) :
    Calls Try.prog 15 #[.slice A n c, .slice B m d] w fun e w' => e = .returned (.int .i64 (lexi xs ys)) ∧ ∃ q, w' = w.drewN q := by
  have L1 := Lib.hid hx.1
  have L2 := Lib.hid hy.1
  have hn := hx.2.1
  have hm := hy.2.1
  have l1 : cmn xs ys ≤ n := by rw [← L1.out]; exact cmn_le_left _ _
  have l2 : cmn xs ys ≤ m := by rw [← L2.out]; exact cmn_le_right _ _
  have hag := Lib.hid (cmn_agree xs ys)
  obtain ⟨t, ht⟩ : ∃ t, t = cmn xs ys := ⟨_, rfl⟩
  rw [← ht] at l1 l2 hag
  have HT := Lib.hid ht
  have call : ∀ w0 : World, w0 = w → Calls Try.prog 19 #[.slice A n c, .slice B m d] w0 fun e w' => e = .returned (.int .i64 (t : Int)) ∧ ∃ q, w' = w0.drewN q := by
    intro w0 e0; subst e0; rw [ht]; exact rcommon _ _ _ _ _ _ xs ys _ hx hy
  have HC := Lib.hid call
  clear ht call
  by_cases h1 : t = n
  · by_cases h2 : t = m
    · have b1 : ((t : Int) == (n : Int)) = true := by simp; omega
      have b2 : ((t : Int) == (m : Int)) = true := by simp; omega
      have hfin := Lib.hid (lexi_same (xs := xs) (ys := ys) (by rw [L1.out, L2.out]; omega) (by rw [L1.out, ← h1]; exact hag.out))
      clear h1 h2
      go_enter Try.func15, Try.ntmps15
      go_wp2_with (go_at_call 19; refine (HC.out _ rfl).mono ?_; rintro e w' ⟨rfl, q, rfl⟩)
      go_ret
      exact ⟨ret_int (by rw [hfin.out]), _, rfl⟩
    · have b1 : ((t : Int) == (n : Int)) = true := by simp; omega
      have b2 : ((t : Int) == (m : Int)) = false := by simp; omega
      have hfin := Lib.hid (lexi_short (xs := xs) (ys := ys) (by rw [L1.out, L2.out]; omega) (by rw [L1.out, ← h1]; exact hag.out))
      clear h1 h2
      go_enter Try.func15, Try.ntmps15
      go_wp2_with (go_at_call 19; refine (HC.out _ rfl).mono ?_; rintro e w' ⟨rfl, q, rfl⟩)
      go_ret
      exact ⟨ret_int (by rw [hfin.out]), _, rfl⟩
  · have b1 : ((t : Int) == (n : Int)) = false := by simp; omega
    by_cases h2 : t < m
    · obtain ⟨b1', o1, rfl, _, hc1⟩ := hx.at_ (k := t) (by omega)
      obtain ⟨b2', o2, rfl, _, hc2⟩ := hy.at_ (k := t) (by omega)
      have hne : xs[t]?.getD 0 ≠ ys[t]?.getD 0 := by
        have := cmn_part xs ys (by rw [← HT.out, L1.out]; omega) (by rw [← HT.out, L2.out]; omega)
        rw [← HT.out] at this
        simpa using this
      have hfin := Lib.hid (lexi_of (xs := xs) (ys := ys) (j := t) (by rw [L1.out]; omega) (by rw [L2.out]; omega) hag.out (by simpa using hne))
      have d2 : decide ((t : Int) < (m : Int)) = true := by simp; omega
      have ht1 : t < n := by omega
      clear h1
      by_cases hlt : xs[t]?.getD 0 < ys[t]?.getD 0
      · have d3 : decide (xs[t]?.getD 0 < ys[t]?.getD 0) = true := by simpa using hlt
        have hz := Lib.hid (show cmpI (xs.getD t 0) (ys.getD t 0) = -1 by unfold cmpI; rw [if_pos (by simpa using hlt)])
        clear hne
        go_enter Try.func15, Try.ntmps15
        go_wp2_with (go_at_call 19; refine (HC.out _ rfl).mono ?_; rintro e w' ⟨rfl, q, rfl⟩)
        go_quiet (fail)
        go_wp2
        go_ret
        exact ⟨ret_int (by rw [hfin.out, hz.out]), by first | exact ⟨_, rfl⟩ | exact ⟨_, World.drewN_drewN _ _ _⟩⟩
      · have d3 : decide (xs[t]?.getD 0 < ys[t]?.getD 0) = false := by simpa using hlt
        have hgt : ys[t]?.getD 0 < xs[t]?.getD 0 := by omega
        have hz := Lib.hid (show cmpI (xs.getD t 0) (ys.getD t 0) = 1 by unfold cmpI; rw [if_neg (by simpa using hlt), if_pos (by simpa using hgt)])
        clear hne hlt
        go_enter Try.func15, Try.ntmps15
        go_wp2_with (go_at_call 19; refine (HC.out _ rfl).mono ?_; rintro e w' ⟨rfl, q, rfl⟩)
        go_quiet (fail)
        go_wp2
        go_ret
        exact ⟨ret_int (by rw [hfin.out, hz.out]), by first | exact ⟨_, rfl⟩ | exact ⟨_, World.drewN_drewN _ _ _⟩⟩
    · have d2 : decide (t < m) = false := by simp; omega
      have hfin := Lib.hid (lexi_long (xs := xs) (ys := ys) (by rw [L1.out, L2.out]; omega) (by rw [L2.out]; exact (by omega : t = m) ▸ hag.out))
      clear h1 h2
      go_enter Try.func15, Try.ntmps15
      go_wp2_with (go_at_call 19; refine (HC.out _ rfl).mono ?_; rintro e w' ⟨rfl, q, rfl⟩)
      go_quiet (fail)
      go_wp2
      go_ret
      exact ⟨ret_int (by rw [hfin.out]), by first | exact ⟨_, rfl⟩ | exact ⟨_, World.drewN_drewN _ _ _⟩⟩

theorem rcompare (A B : Option Addr) (n c m d : Nat) (xs ys : List Int) (w : World) (hx : Ints w A n xs) (hy : Ints w B m ys) :
    Calls Try.prog 13 #[.slice A n c, .slice B m d] w fun e w' => e = .returned (.int .i64 (shlex xs ys)) ∧ ∃ q, w' = w.drewN q := by
  have L1 := Lib.hid hx.1
  have L2 := Lib.hid hy.1
  by_cases h : n < m
  · have hfin := Lib.hid (shlex_lt (xs := xs) (ys := ys) (by rw [L1.out, L2.out]; exact h))
    go_enter Try.func13, Try.ntmps13
    go_wp2
    go_ret
    exact ⟨ret_int (by rw [hfin.out]), 0, rfl⟩
  · by_cases h' : m < n
    · have hfin := Lib.hid (shlex_gt (xs := xs) (ys := ys) (by rw [L1.out, L2.out]; omega))
      go_enter Try.func13, Try.ntmps13
      go_wp2
      go_ret
      exact ⟨ret_int (by rw [hfin.out]), 0, rfl⟩
    · have hfin := Lib.hid (shlex_eq (xs := xs) (ys := ys) (by rw [L1.out, L2.out]; omega))
      go_enter Try.func13, Try.ntmps13
      go_wp2_with (go_at_call 15; refine (rlex _ _ _ _ _ _ xs ys _ hx hy).mono ?_; rintro e w' ⟨rfl, q, rfl⟩)
      go_ret
      exact ⟨ret_int (by rw [hfin.out]), _, rfl⟩
end Go.Proofs.Yteaejkobahpgcaa
