/- The walk of slices.Reverse of an owned row. -/
import Derived.Test.YteaejkobahpgcaaNextp
import Derived.RegionTactic
import Derived.ChangeAlike
namespace Go.Proofs.Yteaejkobahpgcaa
open Go.RowKit

/-- The list when t numbers from each end have been exchanged. -/
def rv (xs : List Int) (t : Nat) : List Int := (List.range xs.length).map fun m => if m < t ∨ xs.length ≤ m + t then xs.getD (xs.length - 1 - m) 0 else xs.getD m 0

theorem rv_len (xs : List Int) (t : Nat) : (rv xs t).length = xs.length := by unfold rv; simp
theorem rv_get (xs : List Int) (t m : Nat) (h : m < xs.length) : (rv xs t)[m]? = some (if m < t ∨ xs.length ≤ m + t then xs.getD (xs.length - 1 - m) 0 else xs.getD m 0) := by
  unfold rv; simp [h]
theorem rv_zero (xs : List Int) : rv xs 0 = xs := by
  apply List.ext_getElem?
  intro m
  rcases Nat.lt_or_ge m xs.length with h | h
  · rw [rv_get xs 0 m h, if_neg (by omega)]; simp [List.getD, h]
  · rw [List.getElem?_eq_none (by rw [rv_len]; exact h), List.getElem?_eq_none h]
theorem rv_end (xs : List Int) (t : Nat) (ht : xs.length ≤ 2 * t + 1) : rv xs t = xs.reverse := by
  apply List.ext_getElem?
  intro m
  rcases Nat.lt_or_ge m xs.length with h | h
  · rw [rv_get xs t m h, List.getElem?_reverse h]
    have h1 : xs.length - 1 - m < xs.length := by omega
    by_cases hc : m < t ∨ xs.length ≤ m + t
    · rw [if_pos hc]; simp [List.getD, h1]
    · rw [if_neg hc]
      have : xs.length - 1 - m = m := by omega
      rw [this]; simp [List.getD, h]
  · rw [List.getElem?_eq_none (by rw [rv_len]; exact h), List.getElem?_eq_none (by simpa using h)]
theorem rv_lo (xs : List Int) (t : Nat) (h : 2 * t + 1 < xs.length) : (rv xs t).getD t 0 = xs[t]?.getD 0 := by
  rw [List.getD, rv_get xs t t (by omega), if_neg (by omega)]; simp
theorem rv_hi (xs : List Int) (t : Nat) (h : 2 * t + 1 < xs.length) : (rv xs t).getD (xs.length - 1 - t) 0 = xs[xs.length - 1 - t]?.getD 0 := by
  rw [List.getD, rv_get xs t _ (by omega), if_neg (by omega)]; simp
theorem rv_step (xs : List Int) (t : Nat) (h : 2 * t + 1 < xs.length) : ((rv xs t).set t (xs[xs.length - 1 - t]?.getD 0)).set (xs.length - 1 - t) (xs[t]?.getD 0) = rv xs (t + 1) := by
  apply List.ext_getElem?
  intro m
  rcases Nat.lt_or_ge m xs.length with hm | hm
  · rw [rv_get xs (t + 1) m hm, List.getElem?_set, List.getElem?_set, rv_get xs t m hm]
    simp only [List.length_set, rv_len]
    by_cases h1 : xs.length - 1 - t = m
    · rw [if_pos h1, if_pos (by omega), if_pos (by omega)]
      have : xs.length - 1 - m = t := by omega
      rw [this]; simp
    · rw [if_neg h1]
      by_cases h2 : t = m
      · rw [if_pos h2, if_pos (by omega), if_pos (by omega), h2]; simp
      · rw [if_neg h2]
        by_cases h3 : m < t ∨ xs.length ≤ m + t
        · rw [if_pos h3, if_pos (by omega)]
        · rw [if_neg h3, if_neg (by omega)]
  · rw [List.getElem?_eq_none (by simpa [rv_len] using hm), List.getElem?_eq_none (by rw [rv_len]; exact hm)]

set_option maxHeartbeats 1000000 in
theorem reverse (A : Option Addr) (n c base : Nat) (xs : List Int) (w : World) (hm : n ≤ 17592186044416) (h : Owned w base (.slice A n c) xs) :
    Calls Try.prog 34 #[.slice A n c] w fun e w' => e = .returned (.tuple #[]) ∧ Owned w' base (.slice A n c) xs.reverse ∧ Below base w w' := by
  have hn : xs.length = n := by obtain ⟨A', c', e⟩ := h.form; cases e; rfl
  have L := Lib.hid hn
  rw [← rv_zero xs] at h
  clear hn
  go_enter Try.func34, Try.ntmps34
  go_wp2
  go_loopw [2, 3] (fun i j wr => ∃ (t : Nat) (jj : Int), (2 * t ≤ n + 1) ∧ i = .int .i64 t ∧ jj = (n : Int) - 1 - t ∧ j = .int .i64 jj ∧ Owned wr base (.slice A n c) (rv xs t) ∧ Below base w wr) (fun i _ _ => n - (intOf i).toNat)
  case atStart => exact ⟨0, _, by omega, rfl, by simp, rfl, h, Below.refl _ _⟩
  case round =>
    clear h
    obtain ⟨t, jj, ht, rfl, hjj, rfl, hown, hbr⟩ := hrel
    by_cases hlt : 2 * t + 1 < n
    · obtain ⟨q, hq⟩ : ∃ q : Nat, q = n - 1 - t := ⟨_, rfl⟩
      obtain rfl : jj = (q : Int) := by omega
      have hqn : q < n := by omega
      have htq : t < q := by omega
      have htn : t < n := by omega
      obtain ⟨g, hA, hg1, hg2, hfr⟩ := hown.head (by omega)
      subst hA
      have hI := hown.ints (by rw [rv_len, L.out]; exact hm)
      obtain ⟨g', o', e, _, hc1⟩ := hI.at_ (k := t) (by omega)
      cases e
      obtain ⟨g', o', e, _, hc2⟩ := hI.at_ (k := q) (by omega)
      cases e
      have hst := (hown.stored t (xs[q]?.getD 0)).stored q (xs[t]?.getD 0)
      have hstep := rv_step xs t (by rw [L.out]; exact hlt)
      have h1 := rv_lo xs t (by rw [L.out]; exact hlt)
      have h2 := rv_hi xs t (by rw [L.out]; exact hlt)
      rw [L.out, ← hq] at hstep h2
      rw [h1, Nat.zero_add] at hc1
      rw [h2, Nat.zero_add] at hc2
      rw [hstep] at hst
      have HST := Lib.hid hst
      have HQ := Lib.hid hq
      have f1 := hfr t
      have f2 := hfr q
      clear hstep h1 h2 hI hfr hst hq hjj hown
      go_wp2
      go_region
      go_wp2
      go_roundw
      case rel => exact ⟨t + 1, _, by omega, by go_num, by have := HQ.out; omega, rfl, HST.out, ((hbr.setCell (by exact hg1) _).setCell (by exact hg1) _).drew⟩
      case measure => simp [intOf]; omega
    · have hend := Lib.hid (rv_end xs t (by rw [L.out]; omega))
      have hge : jj ≤ (t : Int) := by omega
      clear hjj
      go_wp2
      go_end0
      exact ⟨rfl, by rw [← hend.out]; exact hown, hbr⟩
end Go.Proofs.Yteaejkobahpgcaa
