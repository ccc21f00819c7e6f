/- The reference's refinement: what it compares, and what it finds. -/
import Derived.Test.YtnifjagjcoegaaaPtp
namespace Go.Proofs.Ytnifjagjcoegaaa

/-- Whether two states are told apart by their class and by the first a inputs. -/
def smB (nx ot : List (List Int)) (cl : List Nat) (s t : Nat) : Nat → Bool
  | 0 => decide (cl.getD s 0 = cl.getD t 0)
  | a + 1 => smB nx ot cl s t a && (decide (oN ot s a = oN ot t a) && decide (cl.getD (nN nx s a) 0 = cl.getD (nN nx t a) 0))
theorem smB_iff {nx ot : List (List Int)} {cl : List Nat} {s t : Nat} : ∀ {a : Nat}, smB nx ot cl s t a = true ↔ cl.getD s 0 = cl.getD t 0 ∧ ∀ b, b < a → oN ot s b = oN ot t b ∧ cl.getD (nN nx s b) 0 = cl.getD (nN nx t b) 0
  | 0 => by
    unfold smB
    rw [decide_eq_true_iff]
    exact ⟨fun h => ⟨h, fun b hb => absurd hb (by omega)⟩, fun h => h.1⟩
  | a + 1 => by
    unfold smB
    rw [Bool.and_eq_true, Bool.and_eq_true, decide_eq_true_iff, decide_eq_true_iff, smB_iff]
    constructor
    · rintro ⟨⟨h1, h2⟩, h3⟩
      refine ⟨h1, fun b hb => ?_⟩
      by_cases e : b = a
      · subst e; exact h3
      · exact h2 b (by omega)
    · rintro ⟨h1, h2⟩
      exact ⟨⟨h1, fun b hb => h2 b (by omega)⟩, h2 a (by omega)⟩
theorem smB_false {nx ot : List (List Int)} {cl : List Nat} {s t a i : Nat} (h : smB nx ot cl s t a = false) (ha : a ≤ i) : smB nx ot cl s t i = false := by
  rw [Bool.eq_false_iff] at h ⊢
  intro H
  rw [smB_iff] at H
  exact h (smB_iff.2 ⟨H.1, fun b hb => H.2 b (by omega)⟩)
theorem smB_no1 {nx ot : List (List Int)} {cl : List Nat} {s t a : Nat} (h : oN ot s a ≠ oN ot t a) : smB nx ot cl s t (a + 1) = false := by
  unfold smB; rw [decide_eq_false h]; simp
theorem smB_no2 {nx ot : List (List Int)} {cl : List Nat} {s t a : Nat} (h : cl.getD (nN nx s a) 0 ≠ cl.getD (nN nx t a) 0) : smB nx ot cl s t (a + 1) = false := by
  unfold smB; rw [decide_eq_false h]; simp
theorem smB_yes {nx ot : List (List Int)} {cl : List Nat} {s t a : Nat} (h0 : smB nx ot cl s t a = true) (h1 : oN ot s a = oN ot t a) (h2 : cl.getD (nN nx s a) 0 = cl.getD (nN nx t a) 0) : smB nx ot cl s t (a + 1) = true := by
  unfold smB; rw [h0, decide_eq_true h1, decide_eq_true h2]; rfl
/-- The key of the reference. -/
def rkey (nx ot : List (List Int)) (cl : List Nat) (i s : Nat) : List Int := ((cl.getD s 0 : Nat) : Int) :: sgm nx ot cl s i
theorem rkey_iff {nx ot : List (List Int)} {cl : List Nat} {i s t : Nat} (hi : i ≤ 64) : rkey nx ot cl i s = rkey nx ot cl i t ↔ smB nx ot cl s t i = true := by
  rw [smB_iff]
  unfold rkey
  rw [List.cons.injEq, sgm_eq hi]
  exact ⟨fun h => ⟨by omega, h.2⟩, fun h => ⟨by omega, h.2⟩⟩
/-- What is found among the states from t on below s. -/
def Fnd {κ : Type} [BEq κ] [LawfulBEq κ] (g : Nat → κ) (s t : Nat) (v : Int) : Prop := ((∃ u, t ≤ u ∧ u < s ∧ g u = g s) ∧ v = (nmb g s : Nat)) ∨ ((∀ u, t ≤ u → u < s → g u ≠ g s) ∧ v = -1)
section
variable {κ : Type} [BEq κ] [LawfulBEq κ] {g : Nat → κ}
theorem Fnd.start (s : Nat) : Fnd g s s (-1) := .inr ⟨fun u h1 h2 => absurd h2 (by omega), rfl⟩
theorem Fnd.hit {s t : Nat} (ht : t < s) (h : g t = g s) : Fnd g s t (nmb g t : Nat) := .inl ⟨⟨t, Nat.le_refl _, ht, h⟩, by rw [(nmb_eq g).2 h]⟩
theorem Fnd.miss {s t : Nat} {v : Int} (h : Fnd g s (t + 1) v) (hne : g t ≠ g s) : Fnd g s t v := by
  rcases h with ⟨⟨u, h1, h2, h3⟩, h4⟩ | ⟨h1, h2⟩
  · exact .inl ⟨⟨u, by omega, h2, h3⟩, h4⟩
  · refine .inr ⟨fun u h3 h4 => ?_, h2⟩
    by_cases e : u = t
    · subst e; exact hne
    · exact h1 u (by omega) h4
theorem Fnd.yes {s : Nat} {v : Int} (h : Fnd g s 0 v) (hin : g s ∈ grp g s) : v = (nmb g s : Nat) := by
  rcases h with ⟨_, h4⟩ | ⟨h1, h2⟩
  · exact h4
  · obtain ⟨u, hu, e⟩ := grp_mem g hin
    exact absurd e (h1 u (by omega) hu)
theorem Fnd.no {s : Nat} {v : Int} (h : Fnd g s 0 v) (hin : ¬ g s ∈ grp g s) : v = -1 := by
  rcases h with ⟨⟨u, h1, h2, h3⟩, h4⟩ | ⟨h1, h2⟩
  · exact absurd (h3 ▸ grp_has g h2) hin
  · exact h2
end
theorem num_succ {κ : Type} [BEq κ] [LawfulBEq κ] (g : Nat → κ) (s : Nat) : num g (s + 1) = num g s ++ [nmb g s] := by unfold num; rw [List.range_succ, List.map_append]; rfl
end Go.Proofs.Ytnifjagjcoegaaa
