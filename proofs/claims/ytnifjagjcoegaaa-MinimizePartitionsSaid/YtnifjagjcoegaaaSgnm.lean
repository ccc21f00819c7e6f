/- The signature of a state. -/
import Derived.Test.YtnifjagjcoegaaaNmbp
import Derived.Test.YtnifjagjcoegaaaTrimm
import Derived.Test.YtnifjagjcoegaaaNumk
import Derived.Deep.MidRow
import Derived.Deep.RegionHeld3
namespace Go.Proofs.Ytnifjagjcoegaaa
open Go.RowKit

/-- A block that holds ints. -/
def Zblk (w : World) (g : Nat) (t : TypeId) (xs : List Int) : Prop := w.heap[g]? = some (.cells (xs.map (Value.int .i64)).toArray t (0, 0))
theorem Zblk.at_ {w : World} {g : Nat} {t : TypeId} {xs : List Int} (h : Zblk w g t xs) {j : Nat} (hj : j < xs.length) : w.cell? ⟨g, j, none⟩ = some (.int .i64 (xs.getD j 0)) ∧ w.frozen? ⟨g, j, none⟩ = false := by
  refine ⟨?_, frozen_of_row w g j _ _ h⟩
  rw [cell_of_row w g j _ _ (0, 0) h]
  simp [List.getD, hj]
theorem Zblk.set {w : World} {g : Nat} {t : TypeId} {xs : List Int} (h : Zblk w g t xs) (j : Nat) (x : Int) : Zblk (w.setCell ⟨g, j, none⟩ (.int .i64 x)) g t (xs.set j x) := by
  have := heap_setCell_same w g j _ _ (.int .i64 x) h
  unfold Zblk
  rw [this, List.map_set]
  simp
theorem Zblk.kept {w w' : World} {g : Nat} {t : TypeId} {xs : List Int} (h : Zblk w g t xs) {k : Nat} (hb : Below k w w') (hg : g < k) : Zblk w' g t xs := (hb.block g hg).trans h
theorem zero128 : Try.zeroCells164 = ((List.replicate 128 (0 : Int)).map (Value.int .i64)).toArray := by kernel_rfl
theorem Zblk.cells_ (g : Nat) (t : TypeId) : ∀ (ys xs pre : List Int) (w : World), Zblk w g t (pre ++ xs) → xs.length = ys.length → Zblk (w.setCells g pre.length (ys.map (Value.int .i64))) g t (pre ++ ys)
  | [], xs, pre, w, h, hl => by
    obtain rfl : xs = [] := List.eq_nil_of_length_eq_zero hl
    exact h
  | y :: ys, [], pre, w, h, hl => by simp at hl
  | y :: ys, x :: xs, pre, w, h, hl => by
    have h1 := h.set pre.length y
    rw [List.set_append_right _ _ (Nat.le_refl _), Nat.sub_self, List.set_cons_zero] at h1
    have h2 := Zblk.cells_ g t ys xs (pre ++ [y]) _ (by simpa using h1) (by simpa using hl)
    rw [List.length_append, List.append_assoc] at h2
    exact h2
theorem Zblk.whole {w : World} {g : Nat} {t : TypeId} {xs : List Int} (h : Zblk w g t xs) (ys : List Int) (hl : xs.length = ys.length) : Zblk (w.setCells g 0 (ys.map (Value.int .i64))) g t ys := Zblk.cells_ g t ys xs [] w h hl
theorem below_setCells (B g : Nat) (hB : B ≤ g) : ∀ (vs : List Value) (o : Nat) (w : World), Below B w (w.setCells g o vs)
  | [], _, _ => Below.refl _ _
  | v :: vs, o, w => ((Below.refl B w).setCell (p := ⟨g, o, none⟩) hB v).trans (below_setCells B g hB vs (o + 1) _)
theorem Zblk.there {w : World} {g : Nat} {t : TypeId} {xs : List Int} (h : Zblk w g t xs) (n : Nat) (hn : xs.length = n) : w.there g 0 n := fun j hj => by
  obtain ⟨h1, h2⟩ := h.at_ (j := j) (by omega)
  rw [Nat.zero_add, h1]
  exact ⟨rfl, h2⟩
end Go.Proofs.Ytnifjagjcoegaaa
