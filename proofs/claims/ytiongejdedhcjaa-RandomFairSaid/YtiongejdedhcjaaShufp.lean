/- Plain: shuffled lists. No program. -/
import Derived.Test.YtiongejdedhcjaaSeal
namespace Go.Proofs.Ytiongejdedhcjaa

/-- Two places exchanged. -/
def swp (xs : List Int) (i k : Nat) : List Int := (xs.set i (xs[k]?.getD 0)).set k (xs[i]?.getD 0)
theorem swp_len (xs : List Int) (i k : Nat) : (swp xs i k).length = xs.length := by unfold swp; simp
def tr (i k m : Nat) : Nat := if m = k then i else if m = i then k else m
theorem tr_lt {i k m n : Nat} (hi : i < n) (hk : k < n) (hm : m < n) : tr i k m < n := by
  unfold tr; split
  · exact hi
  · split
    · exact hk
    · exact hm
theorem tr_inj {i k a b : Nat} (h : tr i k a = tr i k b) : a = b := by
  unfold tr at h
  repeat' split at h
  all_goals omega
theorem swp_get (xs : List Int) (i k m : Nat) (hm : m < xs.length) : (swp xs i k)[m]?.getD 0 = xs[tr i k m]?.getD 0 := by
  unfold swp tr
  rw [List.getElem?_set, List.getElem?_set]
  simp only [List.length_set]
  by_cases h1 : k = m
  · subst h1; simp [hm]
  · rw [if_neg h1, if_neg (fun e : m = k => h1 e.symm)]
    by_cases h2 : i = m
    · subst h2; rw [if_pos rfl, if_pos hm, if_pos rfl]; rfl
    · rw [if_neg h2, if_neg (fun e : m = i => h2 e.symm)]

/-- 0, 1, .. -/
def iot : Nat → List Int
  | 0 => []
  | j + 1 => iot j ++ [(j : Int)]
theorem iot_len (j : Nat) : (iot j).length = j := by
  induction j with
  | zero => rfl
  | succ j ih => rw [iot, List.length_append, ih]; rfl
theorem iot_get (j m : Nat) (h : m < j) : (iot j)[m]?.getD 0 = (m : Int) := by
  induction j with
  | zero => omega
  | succ j ih =>
    rw [iot]
    rcases Nat.lt_or_ge m j with h1 | h1
    · rw [List.getElem?_append_left (by rw [iot_len]; exact h1)]; exact ih h1
    · obtain rfl : m = j := by omega
      rw [List.getElem?_append_right (by rw [iot_len]; exact Nat.le_refl _), iot_len, Nat.sub_self]; rfl
theorem iot_set (j n : Nat) (h : j < n) : (iot j ++ List.replicate (n - j) 0).set j (j : Int) = iot (j + 1) ++ List.replicate (n - (j + 1)) 0 := by
  rw [List.set_append_right _ _ (by rw [iot_len]; exact Nat.le_refl _), iot_len, Nat.sub_self, iot, List.append_assoc]
  rw [show n - j = (n - (j + 1)) + 1 by omega, List.replicate_succ]
  rfl

/-- The list and the state after j exchanges. -/
noncomputable def shl (n s : Nat) : Nat → List Int × Nat
  | 0 => (iot n, s)
  | j + 1 => (swp (shl n s j).1 (n - 1 - j) (Drx (shl n s j).2 (n - j)), Drs (shl n s j).2 (n - j))
theorem shl_len (n s j : Nat) : (shl n s j).1.length = n := by
  induction j with
  | zero => exact iot_len n
  | succ j ih => rw [shl]; rw [swp_len, ih]
theorem shl_lt {n s : Nat} (hs : s < 18446744073709551616) (j : Nat) : (shl n s j).2 < 18446744073709551616 := by
  cases j with
  | zero => exact hs
  | succ j => rw [shl]; exact Drs_lt _ _

/-- All numbers below n, each once. -/
def Mixed (xs : List Int) (n : Nat) : Prop := xs.length = n ∧ (∀ m, m < n → 0 ≤ xs[m]?.getD 0 ∧ xs[m]?.getD 0 < n) ∧ ∀ a b, a < n → b < n → xs[a]?.getD 0 = xs[b]?.getD 0 → a = b
theorem mixed_swp {xs : List Int} {n i k : Nat} (h : Mixed xs n) (hi : i < n) (hk : k < n) : Mixed (swp xs i k) n := by
  obtain ⟨hl, hr, hj⟩ := h
  subst hl
  refine ⟨swp_len _ _ _, fun m hm => ?_, fun a b ha hb => ?_⟩
  · rw [swp_get xs i k m hm]; exact hr _ (tr_lt hi hk hm)
  · rw [swp_get xs i k a ha, swp_get xs i k b hb]
    intro e
    exact tr_inj (hj _ _ (tr_lt hi hk ha) (tr_lt hi hk hb) e)
theorem mixed_shl {n s : Nat} (j : Nat) (hj : j < n ∨ j = 0) (hn : n ≤ 2147483648) : Mixed (shl n s j).1 n := by
  induction j with
  | zero => exact ⟨iot_len n, fun m hm => by rw [show (shl n s 0).1 = iot n from rfl, iot_get n m hm]; omega, fun a b ha hb h => by
      rw [show (shl n s 0).1 = iot n from rfl, iot_get n a ha, iot_get n b hb] at h; omega⟩
  | succ j ih =>
    rw [shl]
    have hd : Drx (shl n s j).2 (n - j) < n - j := Drx_lt ⟨by omega, by omega⟩
    exact mixed_swp (ih (by omega)) (by omega) (by omega)
end Go.Proofs.Ytiongejdedhcjaa
