/- Plain: both orders are total orders. No program. -/
import Derived.Test.YteaejkobahpgcaaOrd
namespace Go.Proofs.Yteaejkobahpgcaa

/-- Dictionary order, symbol by symbol. -/
def lexR : List Int → List Int → Int
  | [], [] => 0
  | [], _ :: _ => -1
  | _ :: _, [] => 1
  | a :: as, b :: bs => if a < b then -1 else if b < a then 1 else lexR as bs

theorem lexi_lexR (xs ys : List Int) : lexi xs ys = lexR xs ys := by
  induction xs generalizing ys with
  | nil => cases ys <;> simp [lexi, lexR, cmn]
  | cons a as ih =>
    cases ys with
    | nil => simp [lexi, lexR, cmn]
    | cons b bs =>
      have h := ih bs
      unfold lexi at h ⊢
      rw [lexR, cmn]
      by_cases e : a = b
      · subst e
        rw [if_pos rfl, if_neg (Int.lt_irrefl a), if_neg (Int.lt_irrefl a), ← h]
        simp
      · rw [if_neg e]
        simp only [List.length_cons]
        rw [if_neg (by omega)]
        by_cases h1 : a < b
        · rw [if_pos h1, if_pos (by simp [h1])]
        · have h2 : b < a := by omega
          simp [h1, h2]

theorem lexR_bd (xs ys : List Int) : -1 ≤ lexR xs ys ∧ lexR xs ys ≤ 1 := by
  induction xs generalizing ys with
  | nil => cases ys <;> simp [lexR]
  | cons a as ih =>
    cases ys with
    | nil => simp [lexR]
    | cons b bs =>
      rw [lexR]
      split
      · omega
      · split
        · omega
        · exact ih bs

theorem lexR_neg (xs ys : List Int) : lexR ys xs = - lexR xs ys := by
  induction xs generalizing ys with
  | nil => cases ys <;> simp [lexR]
  | cons a as ih =>
    cases ys with
    | nil => simp [lexR]
    | cons b bs =>
      rw [lexR, lexR]
      by_cases h1 : a < b
      · rw [if_neg (by omega), if_pos h1, if_pos h1]; rfl
      · by_cases h2 : b < a
        · rw [if_pos h2, if_neg h1, if_pos h2]
        · rw [if_neg h2, if_neg h1, if_neg h1, if_neg h2, ih bs]

theorem lexR_zero (xs ys : List Int) : lexR xs ys = 0 ↔ xs = ys := by
  induction xs generalizing ys with
  | nil => cases ys <;> simp [lexR]
  | cons a as ih =>
    cases ys with
    | nil => simp [lexR]
    | cons b bs =>
      rw [lexR]
      by_cases h1 : a < b
      · rw [if_pos h1]; constructor; (intro h; omega); (intro h; cases h; omega)
      · by_cases h2 : b < a
        · rw [if_neg h1, if_pos h2]; constructor; (intro h; omega); (intro h; cases h; omega)
        · rw [if_neg h1, if_neg h2, ih bs]
          have : a = b := by omega
          simp [this]

theorem lexR_trans (xs ys zs : List Int) : (lexR xs ys ≤ 0 → lexR ys zs ≤ 0 → lexR xs zs ≤ 0) ∧ (lexR xs ys < 0 → lexR ys zs ≤ 0 → lexR xs zs < 0) := by
  induction xs generalizing ys zs with
  | nil => cases ys <;> cases zs <;> simp [lexR]
  | cons a as ih =>
    cases ys with
    | nil => simp [lexR]
    | cons b bs =>
      cases zs with
      | nil => simp [lexR]
      | cons c cs =>
        have := ih bs cs
        rw [lexR, lexR, lexR]
        repeat' split
        all_goals omega

theorem lexR_join (cs xs ys : List Int) : lexR (cs ++ xs) (cs ++ ys) = lexR xs ys := by
  induction cs with
  | nil => rfl
  | cons c cs ih => rw [List.cons_append, List.cons_append, lexR, if_neg (Int.lt_irrefl c), if_neg (Int.lt_irrefl c), ih]

theorem shlex_def (xs ys : List Int) : shlex xs ys = if xs.length < ys.length then -1 else if ys.length < xs.length then 1 else lexR xs ys := by
  unfold shlex; rw [lexi_lexR]

theorem shlex_bd (xs ys : List Int) : -1 ≤ shlex xs ys ∧ shlex xs ys ≤ 1 := by
  have := lexR_bd xs ys
  rw [shlex_def]; split; omega; split; omega; omega

theorem shlex_neg (xs ys : List Int) : shlex ys xs = - shlex xs ys := by
  rw [shlex_def, shlex_def, lexR_neg xs ys]
  by_cases h1 : xs.length < ys.length
  · rw [if_neg (by omega), if_pos h1, if_pos h1]; rfl
  · by_cases h2 : ys.length < xs.length
    · rw [if_pos h2, if_neg h1, if_pos h2]
    · rw [if_neg h2, if_neg h1, if_neg h1, if_neg h2]

theorem shlex_zero (xs ys : List Int) : shlex xs ys = 0 ↔ xs = ys := by
  rw [shlex_def]
  by_cases h1 : xs.length < ys.length
  · rw [if_pos h1]; constructor; (intro h; omega); (intro h; subst h; omega)
  · by_cases h2 : ys.length < xs.length
    · rw [if_neg h1, if_pos h2]; constructor; (intro h; omega); (intro h; subst h; omega)
    · rw [if_neg h1, if_neg h2, lexR_zero]

theorem shlex_trans (xs ys zs : List Int) : (shlex xs ys ≤ 0 → shlex ys zs ≤ 0 → shlex xs zs ≤ 0) ∧ (shlex xs ys < 0 → shlex ys zs ≤ 0 → shlex xs zs < 0) := by
  have := lexR_trans xs ys zs
  rw [shlex_def, shlex_def, shlex_def]
  repeat' split
  all_goals omega

theorem shlex_join (cs xs ys : List Int) : shlex (cs ++ xs) (cs ++ ys) = shlex xs ys := by
  rw [shlex_def, shlex_def, lexR_join, List.length_append, List.length_append]
  by_cases h1 : xs.length < ys.length
  · rw [if_pos (by omega), if_pos h1]
  · by_cases h2 : ys.length < xs.length
    · rw [if_neg (by omega), if_pos (by omega), if_neg h1, if_pos h2]
    · rw [if_neg (by omega), if_neg (by omega), if_neg h1, if_neg h2]

theorem lexR_prefix (xs ys : List Int) (h : cmn xs ys = ys.length) : 0 ≤ lexR xs ys := by
  rw [← lexi_lexR]
  have := cmn_le_left xs ys
  unfold lexi
  split
  · omega
  · rw [if_neg (by omega)]; omega

theorem shlex_prefix (xs ys : List Int) (h : cmn xs ys = ys.length) : 0 ≤ shlex xs ys := by
  have h1 := lexR_prefix xs ys h
  have := cmn_le_left xs ys
  rw [shlex_def, if_neg (by omega)]
  split <;> omega
end Go.Proofs.Yteaejkobahpgcaa
