/- Plain facts for WordRanks. -/
import Derived.Test.YteaejkobahpgcaaOrderl
import Derived.Test.YteaejkobahpgcaaValp
namespace Go.Proofs.Yteaejkobahpgcaa
open Go.RowKit

theorem rank_facts {xs : List Int} {k r : Int} (h : rankV xs k = (r, 0)) :
    1 ≤ k ∧ k ≤ 1024 ∧ Sy k xs ∧ val k xs = r ∧ 0 ≤ r ∧ r ≤ 4611686018427387904 := by
  by_cases hc : chk xs k = 0
  · obtain ⟨k1, k2, _, hs⟩ := chk_zero hc
    have hsy := Sy.of_syms hs
    have hv := rank_val k1 hsy
    by_cases hle : val k xs ≤ 4611686018427387904
    · rw [if_pos hle] at hv
      rw [rankV_some hc hv] at h
      injection h with h1 _
      exact ⟨k1, k2, hsy, h1, by rw [← h1]; exact valr_nonneg k1 hsy.rev, by rw [← h1]; exact hle⟩
    · rw [if_neg hle] at hv
      rw [rankV_none hc hv] at h
      injection h with _ h2
      omega
  · rw [rankV_bad hc] at h
    injection h with _ h2
    exact absurd h2 hc

theorem chk_sy {xs : List Int} {k : Int} (k1 : 1 ≤ k) (k2 : k ≤ 1024) (hl : xs.length ≤ 1024) (h : Sy k xs) : chk xs k = 0 := chk_ok ⟨k1, k2⟩ (by omega) h.syms

theorem unrank_of {xs : List Int} {k r : Int} (k1 : 1 ≤ k) (k2 : k ≤ 1024) (hl : xs.length ≤ 1024) (h : Sy k xs) (hv : val k xs = r) : unrankV r k = (xs, 0) := by
  have h0 : 0 ≤ r := by rw [← hv]; exact valr_nonneg k1 h.rev
  have hb : back k 1025 r = xs.reverse := by rw [← hv]; exact back_val k1 h.rev 1025 (by simp; omega)
  unfold unrankV
  rw [if_pos ⟨h0, k1, k2⟩, hb, if_pos (by simpa using hl), List.reverse_reverse]

theorem next_facts {xs : List Int} {k : Int} (k1 : 1 ≤ k) (k2 : k ≤ 1024) (hl : xs.length ≤ 300) (h : Sy k xs) :
    ∃ ys, nextV xs k = (ys, true) ∧ Sy k ys ∧ ys.length ≤ 1024 ∧ val k ys = val k xs + 1 := by
  refine ⟨(succ k xs.reverse).reverse, ?_, (succ_sy k1 h.rev).rev, ?_, ?_⟩
  · rw [nextV_ok (chk_sy k1 k2 (by omega) h), next_succ hl]
  · have := succ_len k xs.reverse
    rw [List.length_reverse] at this ⊢
    omega
  · unfold val; rw [List.reverse_reverse, valr_succ h.rev]

theorem rank_next {ys : List Int} {k r : Int} (k1 : 1 ≤ k) (k2 : k ≤ 1024) (hl : ys.length ≤ 1024) (h : Sy k ys) (hv : val k ys = r) :
    rankV ys k = if r ≤ 4611686018427387904 then (r, 0) else (0, 17) := by
  have hc := chk_sy k1 k2 hl h
  have hr := rank_val k1 h
  rw [hv] at hr
  split
  · rename_i hle; rw [if_pos hle] at hr; exact rankV_some hc hr
  · rename_i hle; rw [if_neg hle] at hr; exact rankV_none hc hr

theorem unrank_facts {k m : Int} {xs : List Int} (h : unrankV m k = (xs, 0)) : 1 ≤ k ∧ k ≤ 1024 ∧ Sy k xs ∧ val k xs = m ∧ chk xs k = 0 := by
  unfold unrankV at h
  by_cases h1 : 0 ≤ m ∧ 1 ≤ k ∧ k ≤ 1024
  · rw [if_pos h1] at h
    by_cases h2 : (back k 1025 m).length ≤ 1024
    · rw [if_pos h2] at h
      injection h with h3 _
      obtain ⟨e1, e2⟩ := val_back h1.2.1 1025 m h1.1 (by omega)
      subst h3
      refine ⟨h1.2.1, h1.2.2, e2.rev, by unfold val; rw [List.reverse_reverse, e1], chk_sy h1.2.1 h1.2.2 (by simpa using h2) e2.rev⟩
    · rw [if_neg h2] at h
      injection h with _ h3
      omega
  · rw [if_neg h1] at h
    injection h with _ h3
    omega

theorem unrank_err {k m : Int} (h : (unrankV m k).2 ≠ 0) : (unrankV m k).1 = [] := by
  unfold unrankV at h ⊢
  split
  · rename_i h1
    rw [if_pos h1] at h
    split
    · rename_i h2; rw [if_pos h2] at h; exact absurd rfl h
    · rfl
  · rfl

theorem rank_law (A : Option Addr) (n c : Nat) (k r e0 : Int) (xs : List Int) (w : World) (h : Ints w A n xs) (hr : rankV xs k = (r, e0)) :
    Calls Try.prog 25 #[.slice A n c, .int .i64 k] w fun e w' => e = .returned (.tuple #[.int .i64 r, .int .i64 e0]) ∧ w = w' := by
  have := wrank A n c k xs w h
  rw [hr] at this
  exact this

theorem unrank_law (m k e0 : Int) (zs : List Int) (w : World) (hm : m ≤ 9223372036854775807) (hz : unrankV m k = (zs, e0)) :
    Calls Try.prog 27 #[.int .i64 m, .int .i64 k] w fun e w' => ∃ A' n' c', e = .returned (.tuple #[.slice A' n' c', .int .i64 e0]) ∧ Ints w' A' n' zs ∧ Below w.heap.size w w' := by
  have := wunrank_law m k w hm
  rw [hz] at this
  exact this

theorem next_law (A : Option Addr) (n c : Nat) (k : Int) (xs zs : List Int) (b : Bool) (w : World) (h : Ints w A n xs) (hz : nextV xs k = (zs, b)) :
    Calls Try.prog 23 #[.slice A n c, .int .i64 k] w fun e w' => ∃ A' n' c', e = .returned (.tuple #[.slice A' n' c', .bool b]) ∧ Ints w' A' n' zs ∧ Below w.heap.size w w' := by
  have := wnext_law A n c k xs w h
  rw [hz] at this
  exact this

theorem check_law (A : Option Addr) (n c : Nat) (k r : Int) (xs : List Int) (w : World) (h : Ints w A n xs) (hr : chk xs k = r) :
    Calls Try.prog 10 #[.slice A n c, .int .i64 k] w fun e w' => e = .returned (.int .i64 r) ∧ w = w' := by
  have := wcheck A n c k xs w h
  rw [hr] at this
  exact this
end Go.Proofs.Yteaejkobahpgcaa
