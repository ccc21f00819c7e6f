/- Plain words for the proofs of this seat: a slice of ints that reads as a list; what the two texts of Check compute. -/
import Derived.WalkKit
import Derived.Lib.Hide
import Derived.Laws.Rows
import Derived.Deep.Draws
namespace Go.Proofs.Yteaejkobahpgcaa
open Go.RowKit

/-- The slice '.slice A n _' holds the numbers xs. -/
def Ints (w : World) (A : Option Addr) (n : Nat) (xs : List Int) : Prop :=
  xs.length = n ∧ n ≤ 17592186044416 ∧ (0 < n → ∃ b off, A = some ⟨b, off, none⟩ ∧ b < w.heap.size ∧ ∀ j, j < n → w.cell? ⟨b, off + j, none⟩ = some (.int .i64 (xs.getD j 0)))

theorem Ints.below {w w' : World} {A : Option Addr} {n : Nat} {xs : List Int} (h : Ints w A n xs) (hb : Below w.heap.size w w') : Ints w' A n xs :=
  ⟨h.1, h.2.1, fun hn => by
    obtain ⟨b, off, e, hlt, hc⟩ := h.2.2 hn
    exact ⟨b, off, e, Nat.lt_of_lt_of_le hlt hb.size, fun j hj => (hb.cell hlt).trans (hc j hj)⟩⟩

theorem Ints.drewN {w : World} {A : Option Addr} {n : Nat} {xs : List Int} (h : Ints w A n xs) (d : Nat) : Ints (w.drewN d) A n xs := h

theorem Ints.at_ {w : World} {A : Option Addr} {n : Nat} {xs : List Int} (h : Ints w A n xs) {k : Nat} (hk : k < n) :
    ∃ b off, A = some ⟨b, off, none⟩ ∧ b < w.heap.size ∧ w.cell? ⟨b, off + k, none⟩ = some (.int .i64 (xs.getD k 0)) := by
  obtain ⟨b, off, e, hlt, hc⟩ := h.2.2 (by omega)
  exact ⟨b, off, e, hlt, hc k hk⟩

theorem below_drewN {B : Nat} {w w' : World} (h : Below B w w') (d : Nat) : Below B w (w'.drewN d) := ⟨h.os, h.tape, h.output, h.size, h.block⟩

/-- A slice that a literal makes. -/
theorem Ints.new (w : World) (xs : List Int) (cs : Array Value) (n : Nat) (hcs : cs = (xs.map (Value.int .i64)).toArray) (hn : n = xs.length) (hm : xs.length ≤ 17592186044416) :
    Ints (w.alloc (.cells cs 3)) (some ⟨w.heap.size, 0, none⟩) n xs := by
  subst hcs hn
  refine ⟨rfl, hm, fun _ => ⟨w.heap.size, 0, rfl, by simp, fun j hj => ?_⟩⟩
  have h := cell_of_row (w.alloc (.cells (xs.map (Value.int .i64)).toArray 3)) w.heap.size j (xs.map (Value.int .i64)).toArray 3 (0, 0) (heap_alloc_new w _)
  rw [Nat.zero_add, h]
  simp [List.getD, hj]

/-- The first j numbers are symbols of the size k. -/
def Syms (xs : List Int) (k : Int) (j : Nat) : Prop := ∀ m, m < j → 0 ≤ xs.getD m 0 ∧ xs.getD m 0 < k

instance (xs : List Int) (k : Int) (j : Nat) : Decidable (Syms xs k j) := by unfold Syms; exact inferInstance

theorem Syms.zero (xs : List Int) (k : Int) : Syms xs k 0 := fun m hm => absurd hm (by omega)
theorem Syms.succ {xs : List Int} {k : Int} {j : Nat} (h : Syms xs k j) (h0 : 0 ≤ xs.getD j 0) (h1 : xs.getD j 0 < k) : Syms xs k (j + 1) := fun m hm => by
  by_cases e : m = j
  · subst e; exact ⟨h0, h1⟩
  · exact h m (by omega)

/-- The error of Check. -/
def chk (xs : List Int) (k : Int) : Int :=
  if 1 ≤ k ∧ k ≤ 1024 then (if 1024 < xs.length then 3 else if Syms xs k xs.length then 0 else 1) else 2

theorem chk_range {xs : List Int} {k : Int} (h : ¬ (1 ≤ k ∧ k ≤ 1024)) : chk xs k = 2 := by unfold chk; rw [if_neg h]
theorem chk_long {xs : List Int} {k : Int} (h : 1 ≤ k ∧ k ≤ 1024) (hl : 1024 < xs.length) : chk xs k = 3 := by unfold chk; rw [if_pos h, if_pos hl]
theorem chk_ok {xs : List Int} {k : Int} (h : 1 ≤ k ∧ k ≤ 1024) (hl : ¬ 1024 < xs.length) (hs : Syms xs k xs.length) : chk xs k = 0 := by unfold chk; rw [if_pos h, if_neg hl, if_pos hs]
theorem chk_bad {xs : List Int} {k : Int} (h : 1 ≤ k ∧ k ≤ 1024) (hl : ¬ 1024 < xs.length) {j : Nat} (hj : j < xs.length) (hs : ¬ (0 ≤ xs.getD j 0 ∧ xs.getD j 0 < k)) : chk xs k = 1 := by
  unfold chk; rw [if_pos h, if_neg hl, if_neg fun H => hs (H j hj)]

theorem ret_int {k : IntKind} {a b : Int} (h : a = b) : Ending.returned (.int k a) = .returned (.int k b) := by rw [h]
end Go.Proofs.Yteaejkobahpgcaa
