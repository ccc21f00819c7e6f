/- What the rows hand over of a slice of numbers, in the words of these proofs. -/
import Derived.Test.YtnifjagjcoegaaaOwn
namespace Go.Proofs.Ytnifjagjcoegaaa
open Go.RowKit

theorem block_lt {w : World} {p : Addr} {v : Value} (h : w.cell? p = some v) : p.block < w.heap.size := by
  rcases Nat.lt_or_ge p.block w.heap.size with hlt | hge
  · exact hlt
  · unfold World.cell? at h
    rw [Array.getElem?_eq_none hge] at h
    simp at h

theorem Ints.of_in {w : World} {A : Option Addr} {n cap : Nat} {zs : List Int} (hn : n ≤ 17592186044416)
    (h : (A = none ∧ n = 0 ∧ cap = 0 ∧ zs = []) ∨
      ∃ x, A = some x ∧ n ≤ cap ∧ cap ≤ maxLen ∧ zs.length = cap ∧ (∀ i, i < zs.length → w.cell? (x.add i) = some (.int .i64 (zs.getD i 0))) ∧ ∀ n ∈ zs, (Lit.int .i64 n).wf = true) :
    Ints w A n (zs.take n) := by
  rcases h with ⟨rfl, rfl, rfl, rfl⟩ | ⟨x, rfl, h1, _, h2, hc, _⟩
  · exact ⟨rfl, by omega, fun h => absurd h (by omega)⟩
  · refine ⟨by rw [List.length_take]; omega, hn, fun h0 => ?_⟩
    obtain ⟨b, off, spot⟩ := x
    have hc0 := hc 0 (by omega)
    have hspot : spot = none := by simpa [Addr.add] using World.cell?_spot hc0
    subst hspot
    refine ⟨b, off, rfl, by have := block_lt hc0; simpa [Addr.add] using this, fun j hj => ?_⟩
    have := hc j (by omega)
    rw [show (⟨b, off, none⟩ : Addr).add j = ⟨b, off + j, none⟩ by unfold Addr.add; split <;> simp_all] at this
    rw [this]
    simp [List.getD, hj]

theorem Owned.look {w : World} {base : Nat} {v : Value} {xs : List Int} (h : Owned w base v xs) (hm : xs.length ≤ 17592186044416) : ∃ A n c, v = .slice A n c ∧ Ints w A n xs := by
  obtain ⟨A, c, rfl⟩ := h.form
  exact ⟨A, _, c, rfl, h.ints hm⟩
end Go.Proofs.Ytnifjagjcoegaaa
