/- Lists of lists, and the reference's Join. -/
import Derived.Test.YtnifjagjcoegaaaOwn
namespace Go.Proofs.Ytnifjagjcoegaaa
open Go.RowKit

/-- The slice '.slice A n _' holds the lists xss. -/
def Lists (w : World) (A : Option Addr) (n : Nat) (xss : List (List Int)) : Prop :=
  xss.length = n ∧ n ≤ 17592186044416 ∧ (0 < n → ∃ b off, A = some ⟨b, off, none⟩ ∧ b < w.heap.size ∧
    ∀ j, j < n → ∃ Aj nj cj, w.cell? ⟨b, off + j, none⟩ = some (.slice Aj nj cj) ∧ Ints w Aj nj (xss.getD j []))

theorem Lists.below {w w' : World} {A : Option Addr} {n : Nat} {xss : List (List Int)} (h : Lists w A n xss) (hb : Below w.heap.size w w') : Lists w' A n xss :=
  ⟨h.1, h.2.1, fun hn => by
    obtain ⟨b, off, e, hlt, hc⟩ := h.2.2 hn
    refine ⟨b, off, e, Nat.lt_of_lt_of_le hlt hb.size, fun j hj => ?_⟩
    obtain ⟨Aj, nj, cj, h1, h2⟩ := hc j hj
    exact ⟨Aj, nj, cj, (hb.cell hlt).trans h1, h2.below hb⟩⟩

theorem Lists.at_ {w : World} {A : Option Addr} {n : Nat} {xss : List (List Int)} (h : Lists w A n xss) {k : Nat} (hk : k < n) :
    ∃ b off Aj nj cj, A = some ⟨b, off, none⟩ ∧ b < w.heap.size ∧ w.cell? ⟨b, off + k, none⟩ = some (.slice Aj nj cj) ∧ Ints w Aj nj (xss.getD k []) := by
  obtain ⟨b, off, e, hlt, hc⟩ := h.2.2 (by omega)
  obtain ⟨Aj, nj, cj, h1, h2⟩ := hc k hk
  exact ⟨b, off, Aj, nj, cj, e, hlt, h1, h2⟩

/-- The first j lists, one after the other. -/
def cat (xss : List (List Int)) (j : Nat) : List Int := (xss.take j).flatten

theorem cat_zero (xss : List (List Int)) : cat xss 0 = [] := by simp [cat]
theorem cat_succ {xss : List (List Int)} {j : Nat} (h : j < xss.length) : cat xss (j + 1) = cat xss j ++ xss.getD j [] := by
  unfold cat
  rw [List.take_succ_eq_append_getElem h, List.flatten_append]
  simp [List.getD, h]
theorem cat_all (xss : List (List Int)) : cat xss xss.length = xss.flatten := by simp [cat]
theorem cat_len (xss : List (List Int)) (j : Nat) : (cat xss j).length ≤ xss.flatten.length := by
  have h : xss.flatten = cat xss j ++ (xss.drop j).flatten := by unfold cat; rw [← List.flatten_append, List.take_append_drop]
  rw [h, List.length_append]; omega


end Go.Proofs.Ytnifjagjcoegaaa
