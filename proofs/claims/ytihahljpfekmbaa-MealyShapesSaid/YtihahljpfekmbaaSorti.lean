/- slices.Sort and slices.Compact at a row of one's own. -/
import Derived.Test.YtihahljpfekmbaaOwn
import Derived.Test.YtihahljpfekmbaaShelf
import Derived.Lib.OwnBridge
import Derived.Sort.OwnSortedInts
namespace Go.Proofs.Ytihahljpfekmbaa
open Go.RowKit Go.Sort

theorem psorti (A : Option Addr) (n c : Nat) (xs : List Int) (base : Nat) (w : World) (ho : Owned w base (.slice A n c) xs) (hb : base ≤ w.heap.size) (hn : n ≤ 17592186044416) :
    Calls Try.prog 89 #[.slice A n c] w fun e w' => e = .returned (.tuple #[]) ∧ Owned w' base (.slice A n c) (xs.mergeSort fun x y => decide (x ≤ y)) ∧ Below base w w' := by
  have hl : xs.length = n := by obtain ⟨A', c', e⟩ := ho.form; cases e; rfl
  subst hl
  rcases ho.2 with ⟨e, h0⟩ | ⟨g, cap, cur, e, hbg, hg, h1, h2, h3, h4⟩
  · have hx : xs = [] := List.eq_nil_of_length_eq_zero h0
    subst hx
    refine (Try.slices_Sort_int_none A c w).mono ?_
    rintro e w' ⟨rfl, rfl⟩
    exact ⟨rfl, by rw [List.mergeSort_nil]; exact ho, Below.refl _ _⟩
  · cases e
    have hH := holds_of_blockI hg (by rw [Nat.mul_one] at h4; exact h4)
    refine (Try.slices_Sort_int g 0 c xs w hH (by
      rcases Nat.lt_or_ge g w.heap.size with hlt | hge
      · exact hlt
      · rw [Array.getElem?_eq_none hge] at hg; cases hg) (by omega)).mono ?_
    rintro e w' ⟨rfl, m, os, rfl⟩
    refine ⟨rfl, ?_, (Below.refl _ _).grown (grownBy_sortedI _) hb (fun k hk => by cases hk; exact hbg)⟩
    have := ownsRow_sortedI (n := m) (os := os) (ts := xs.mergeSort fun x y => decide (x ≤ y)) (ss := xs) (List.length_mergeSort xs) hbg hg h1 h2 h3
    unfold Owned
    rw [List.length_mergeSort]
    exact this

theorem pcompacti (A : Option Addr) (n c : Nat) (xs : List Int) (base : Nat) (w : World) (ho : Owned w base (.slice A n c) xs) (hb : base ≤ w.heap.size) (hn : n ≤ 17592186044416) :
    Calls Try.prog 90 #[.slice A n c] w fun e w' => ∃ A' c', e = .returned (.slice A' (Lib.compact xs).length c') ∧ Owned w' base (.slice A' (Lib.compact xs).length c') (Lib.compact xs) ∧ Below base w w' := by
  have hl : xs.length = n := by obtain ⟨A', c', e⟩ := ho.form; cases e; rfl
  subst hl
  rcases ho.2 with ⟨e, h0⟩ | ⟨g, cap, cur, e, hbg, hg, h1, h2, h3, h4⟩
  · have hx : xs = [] := List.eq_nil_of_length_eq_zero h0
    subst hx
    refine (Try.slices_Compact_int_empty A c w).mono ?_
    rintro e w' ⟨rfl, rfl⟩
    exact ⟨A, c, rfl, ho, Below.refl _ _⟩
  · cases e
    have hH := holds_of_blockI hg (by rw [Nat.mul_one] at h4; exact h4)
    refine (Try.slices_Compact_int g 0 c xs w hH (by omega) h1).mono ?_
    rintro e w' ⟨rfl, q, rfl⟩
    have hle := Lib.compact_length_le xs
    have hc := Lib.ownsRow_putRow (enc := Value.int .i64) (q := q) (k := (Lib.compact xs).length) (ys := Lib.compact xs ++ List.replicate (xs.length - (Lib.compact xs).length) 0) ho (by simp; omega) hle
    rw [List.take_left] at hc
    exact ⟨some ⟨g, 0, none⟩, c, rfl, hc, Lib.below_putRow (Below.refl _ _) hbg⟩
end Go.Proofs.Ytihahljpfekmbaa
