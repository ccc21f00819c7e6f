/- The walks of Rank, by the two texts. -/
import Derived.Test.YteaejkobahpgcaaCheck
namespace Go.Proofs.Yteaejkobahpgcaa
open Go.RowKit

/-- The rank of a word behind a word of the rank r; none if it is too great. -/
def rankGo (k : Int) : List Int → Int → Option Int
  | [], r => some r
  | x :: xs, r => if (4611686018427387904 - x - 1) / k < r then none else rankGo k xs (r * k + x + 1)

/-- What Rank returns. -/
def rankV (xs : List Int) (k : Int) : Int × Int :=
  if chk xs k = 0 then (match rankGo k xs 0 with | some r => (r, 0) | none => (0, 17)) else (0, chk xs k)

theorem rankV_bad {xs : List Int} {k : Int} (h : chk xs k ≠ 0) : rankV xs k = (0, chk xs k) := by unfold rankV; rw [if_neg h]
theorem rankV_some {xs : List Int} {k r : Int} (h : chk xs k = 0) (hr : rankGo k xs 0 = some r) : rankV xs k = (r, 0) := by unfold rankV; rw [if_pos h, hr]
theorem rankV_none {xs : List Int} {k : Int} (h : chk xs k = 0) (hr : rankGo k xs 0 = none) : rankV xs k = (0, 17) := by unfold rankV; rw [if_pos h, hr]

theorem drop_at (xs : List Int) (j : Nat) (h : j < xs.length) : xs.drop j = xs[j]?.getD 0 :: xs.drop (j + 1) := by
  rw [List.drop_eq_getElem_cons h]; simp [h]

theorem rankGo_over {xs : List Int} {k r : Int} {j : Nat} (h : j < xs.length) (ht : (4611686018427387904 - xs[j]?.getD 0 - 1) / k < r) : rankGo k (xs.drop j) r = none := by
  rw [drop_at xs j h, rankGo, if_pos ht]
theorem rankGo_next {xs : List Int} {k r : Int} {j : Nat} (h : j < xs.length) (ht : ¬ (4611686018427387904 - xs[j]?.getD 0 - 1) / k < r) :
    rankGo k (xs.drop j) r = rankGo k (xs.drop (j + 1)) (r * k + xs[j]?.getD 0 + 1) := by
  rw [drop_at xs j h, rankGo, if_neg ht]
theorem rankGo_end {xs : List Int} {k r : Int} {j : Nat} (h : xs.length ≤ j) : rankGo k (xs.drop j) r = some r := by
  rw [List.drop_eq_nil_of_le h, rankGo]

theorem chk_zero {xs : List Int} {k : Int} (h : chk xs k = 0) : 1 ≤ k ∧ k ≤ 1024 ∧ xs.length ≤ 1024 ∧ Syms xs k xs.length := by
  unfold chk at h
  by_cases h1 : 1 ≤ k ∧ k ≤ 1024
  · rw [if_pos h1] at h
    by_cases h2 : 1024 < xs.length
    · rw [if_pos h2] at h; omega
    · rw [if_neg h2] at h
      by_cases h3 : Syms xs k xs.length
      · exact ⟨h1.1, h1.2, by omega, h3⟩
      · rw [if_neg h3] at h; omega
  · rw [if_neg h1] at h; omega

/-- A step of the rank stays within its bound. -/
theorem step_bd {k r x : Int} (hk : 1 ≤ k) (hr : 0 ≤ r) (_hx : 0 ≤ x) (ht : ¬ (4611686018427387904 - x - 1) / k < r) : 0 ≤ r * k ∧ r * k + x + 1 ≤ 4611686018427387904 := by
  refine ⟨Int.mul_nonneg hr (by omega), ?_⟩
  have h1 : r ≤ (4611686018427387904 - x - 1) / k := by omega
  have h2 := (Int.le_ediv_iff_mul_le (by omega)).1 h1
  omega

theorem ret_two {k k' : IntKind} {a b a' b' : Int} {p : Int × Int} (h : p = (a', b')) (h1 : a = a') (h2 : b = b') : Ending.returned (.tuple #[.int k a, .int k' b]) = .returned (.tuple #[.int k p.1, .int k' p.2]) := by rw [h, h1, h2]

set_option maxHeartbeats 400000 in
theorem wrank (A : Option Addr) (n c : Nat) (k : Int) (xs : List Int) (w : World) (h : Ints w A n xs) :
    Calls Try.prog 25 #[.slice A n c, .int .i64 k] w fun e w' => e = .returned (.tuple #[.int .i64 (rankV xs k).1, .int .i64 (rankV xs k).2]) ∧ w = w' := by
  have L := Lib.hid h.1
  have hn := h.2.1
  by_cases hc : chk xs k = 0
  · obtain ⟨k1, k2, l1, hs⟩ := chk_zero hc
    rw [L.out] at l1 hs
    have HC := Lib.hid hc
    clear hc
    go_enter Try.func25, Try.ntmps25
    go_wp2_with (go_at_call 10; refine (wcheck _ _ _ _ xs _ h).mono ?_; rintro e w' ⟨rfl, rfl⟩; rw [HC.out])
    go_loop [7, 18] (fun r i => ∃ (j : Nat) (q : Int), j ≤ n ∧ i = .int .i64 j ∧ r = .int .i64 q ∧ 0 ≤ q ∧ q ≤ 4611686018427387904 ∧ rankGo k (xs.drop j) q = rankGo k xs 0) (fun _ i => n - (intOf i).toNat)
    case atStart => exact ⟨0, 0, Nat.zero_le _, rfl, rfl, by omega, by omega, rfl⟩
    case round =>
      obtain ⟨j, q, hj, rfl, rfl, q1, q2, hgo⟩ := hrel
      have HG := Lib.hid hgo
      clear hgo
      by_cases hlt : j < n
      · obtain ⟨b, off, rfl, _, hcell⟩ := h.at_ hlt
        obtain ⟨x1, x2⟩ := hs j hlt
        have x1 : 0 ≤ xs[j]?.getD 0 := by simpa using x1
        have x2 : xs[j]?.getD 0 < k := by simpa using x2
        by_cases ht : (4611686018427387904 - xs[j]?.getD 0 - 1) / k < q
        · have hfin := Lib.hid (rankV_none (xs := xs) HC.out (by rw [← HG.out, rankGo_over (by rw [L.out]; exact hlt) ht]))
          go_wp2
          go_ret2
          exact ⟨ret_two hfin.out rfl rfl, rfl⟩
        · obtain ⟨s1, s2⟩ := step_bd k1 q1 x1 ht
          have hnx := Lib.hid (rankGo_next (xs := xs) (k := k) (by rw [L.out]; exact hlt) ht)
          go_wp2
          go_round
          case rel => exact ⟨j + 1, _, by omega, by go_num, rfl, by omega, by omega, by rw [← HG.out, hnx.out]⟩
          case measure => simp [intOf]; omega
      · have hfin := Lib.hid (rankV_some (xs := xs) (r := q) HC.out (by rw [← HG.out, rankGo_end (by rw [L.out]; omega)]))
        go_wp2
        go_ret2
        exact ⟨ret_two hfin.out rfl rfl, rfl⟩
  · have hfin := Lib.hid (rankV_bad hc)
    have hb : (chk xs k != 0) = true := by simpa using hc
    clear hc
    go_enter Try.func25, Try.ntmps25
    go_wp2_with (go_at_call 10; refine (wcheck _ _ _ _ xs _ h).mono ?_; rintro e w' ⟨rfl, rfl⟩)
    go_ret2
    exact ⟨ret_two hfin.out rfl rfl, rfl⟩

set_option maxHeartbeats 400000 in
theorem rrank (A : Option Addr) (n c : Nat) (k : Int) (xs : List Int) (w : World) (h : Ints w A n xs) :
    Calls Try.prog 26 #[.slice A n c, .int .i64 k] w fun e w' => e = .returned (.tuple #[.int .i64 (rankV xs k).1, .int .i64 (rankV xs k).2]) ∧ w = w' := by
  have L := Lib.hid h.1
  have hn := h.2.1
  by_cases hc : chk xs k = 0
  · obtain ⟨k1, k2, l1, hs⟩ := chk_zero hc
    rw [L.out] at l1 hs
    have HC := Lib.hid hc
    clear hc
    go_enter Try.func26, Try.ntmps26
    go_wp2_with (go_at_call 11; refine (rcheck _ _ _ _ xs _ h).mono ?_; rintro e w' ⟨rfl, rfl⟩; rw [HC.out])
    go_loop [7, 8] (fun r i => ∃ (j : Nat) (q : Int), j ≤ n ∧ i = .int .i64 j ∧ r = .int .i64 q ∧ 0 ≤ q ∧ q ≤ 4611686018427387904 ∧ rankGo k (xs.drop j) q = rankGo k xs 0) (fun _ i => n - (intOf i).toNat)
    case atStart => exact ⟨0, 0, Nat.zero_le _, rfl, rfl, by omega, by omega, rfl⟩
    case round =>
      obtain ⟨j, q, hj, rfl, rfl, q1, q2, hgo⟩ := hrel
      have HG := Lib.hid hgo
      clear hgo
      by_cases hlt : j < n
      · obtain ⟨b, off, rfl, _, hcell⟩ := h.at_ hlt
        obtain ⟨x1, x2⟩ := hs j hlt
        have x1 : 0 ≤ xs[j]?.getD 0 := by simpa using x1
        have x2 : xs[j]?.getD 0 < k := by simpa using x2
        by_cases ht : (4611686018427387904 - xs[j]?.getD 0 - 1) / k < q
        · have hfin := Lib.hid (rankV_none (xs := xs) HC.out (by rw [← HG.out, rankGo_over (by rw [L.out]; exact hlt) ht]))
          go_wp2
          go_ret2
          exact ⟨ret_two hfin.out rfl rfl, rfl⟩
        · obtain ⟨s1, s2⟩ := step_bd k1 q1 x1 ht
          have hnx := Lib.hid (rankGo_next (xs := xs) (k := k) (by rw [L.out]; exact hlt) ht)
          go_wp2
          go_round
          case rel => exact ⟨j + 1, _, by omega, by go_num, rfl, by omega, by omega, by rw [← HG.out, hnx.out]⟩
          case measure => simp [intOf]; omega
      · have hfin := Lib.hid (rankV_some (xs := xs) (r := q) HC.out (by rw [← HG.out, rankGo_end (by rw [L.out]; omega)]))
        go_wp2
        go_ret2
        exact ⟨ret_two hfin.out rfl rfl, rfl⟩
  · have hfin := Lib.hid (rankV_bad hc)
    have hb : (chk xs k != 0) = true := by simpa using hc
    clear hc
    go_enter Try.func26, Try.ntmps26
    go_wp2_with (go_at_call 11; refine (rcheck _ _ _ _ xs _ h).mono ?_; rintro e w' ⟨rfl, rfl⟩)
    go_ret2
    exact ⟨ret_two hfin.out rfl rfl, rfl⟩
end Go.Proofs.Yteaejkobahpgcaa
