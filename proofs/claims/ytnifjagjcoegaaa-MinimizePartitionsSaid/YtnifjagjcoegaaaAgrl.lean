/- Lists that agree; readers that draw more. -/
import Derived.Test.YtnifjagjcoegaaaBase
namespace Go.Proofs.Ytnifjagjcoegaaa
open Go.RowKit

/-- Two lists agree on the first j. -/
def AgreeL {α : Type} (d : α) (xs ys : List α) (j : Nat) : Prop := ∀ m, m < j → xs.getD m d = ys.getD m d
theorem AgreeL.zero {α : Type} (d : α) (xs ys : List α) : AgreeL d xs ys 0 := fun m h => absurd h (by omega)
theorem AgreeL.succ {α : Type} {d : α} {xs ys : List α} {j : Nat} (h : AgreeL d xs ys j) (e : xs.getD j d = ys.getD j d) : AgreeL d xs ys (j + 1) := fun m hm => by
  by_cases e2 : m = j
  · subst e2; exact e
  · exact h m (by omega)
theorem AgreeL.all {α : Type} {d : α} {xs ys : List α} {n : Nat} (h : AgreeL d xs ys n) (h1 : xs.length = n) (h2 : ys.length = n) : xs = ys := by
  apply List.ext_getElem (by omega)
  intro m a b
  have := h m (by omega)
  rw [List.getD_eq_getElem?_getD, List.getD_eq_getElem?_getD, List.getElem?_eq_getElem a, List.getElem?_eq_getElem b] at this
  exact this

theorem drew_more {w wr : World} (h : ∃ q, wr = w.drewN q) (n : Nat) : ∃ q, wr.drewN n = w.drewN q := by
  obtain ⟨q, rfl⟩ := h
  exact ⟨_, World.drewN_drewN _ _ _⟩
theorem ret_bool {a b : Bool} (h : a = b) : Ending.returned (.bool a) = .returned (.bool b) := by rw [h]
end Go.Proofs.Ytnifjagjcoegaaa
