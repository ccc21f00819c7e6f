/- A slice of strings that reads as a list; Index, Great, Valid. -/
import Derived.Test.YtiongejdedhcjaaDoorNamp
import Derived.Test.YtiongejdedhcjaaDoorShelf
import Derived.Test.YtiongejdedhcjaaDoorLits
import Derived.StillTailTactics
import Derived.BigQuiet
import Derived.Deep.QuietTactic
namespace Go.Proofs.YtiongejdedhcjaaDoor
open Go.RowKit

/-- The slice '.slice A n _' holds the strings ss. -/
def Strs (w : World) (A : Option Addr) (n : Nat) (ss : List ByteArray) : Prop :=
  ss.length = n ∧ n ≤ 17592186044416 ∧ (0 < n → ∃ b off, A = some ⟨b, off, none⟩ ∧ b < w.heap.size ∧ ∀ j, j < n → w.cell? ⟨b, off + j, none⟩ = some (.string (ss.getD j ByteArray.empty))) ∧
  ∀ j, j < n → (ss.getD j ByteArray.empty).size ≤ 17592186044416

theorem Strs.below {w w' : World} {A : Option Addr} {n : Nat} {ss : List ByteArray} (h : Strs w A n ss) (hb : Below w.heap.size w w') : Strs w' A n ss :=
  ⟨h.1, h.2.1, fun hn => by
    obtain ⟨b, off, e, hlt, hc⟩ := h.2.2.1 hn
    exact ⟨b, off, e, Nat.lt_of_lt_of_le hlt hb.size, fun j hj => (hb.cell hlt).trans (hc j hj)⟩, h.2.2.2⟩

theorem Strs.at_ {w : World} {A : Option Addr} {n : Nat} {ss : List ByteArray} (h : Strs w A n ss) {k : Nat} (hk : k < n) :
    ∃ b off, A = some ⟨b, off, none⟩ ∧ b < w.heap.size ∧ w.cell? ⟨b, off + k, none⟩ = some (.string (ss.getD k ByteArray.empty)) := by
  obtain ⟨b, off, e, hlt, hc⟩ := h.2.2.1 (by omega)
  exact ⟨b, off, e, hlt, hc k hk⟩

/-- Index of the library, over a slice that reads as a list. -/
theorem sindex (A : Option Addr) (n c : Nat) (ss : List ByteArray) (x : ByteArray) (w : World) (h : Strs w A n ss) :
    Calls Tryd.prog 27 #[.slice A n c, .string x] w fun e w' => e = .returned (.int .i64 (Lib.idxOfS ss x)) ∧ w' = w := by
  rcases Nat.eq_zero_or_pos n with h0 | h0
  · subst h0
    have := List.eq_nil_of_length_eq_zero h.1
    subst this
    exact Tryd.slices_Index_string_empty _ _ _ _
  · obtain ⟨b, off, rfl, _, hc⟩ := h.2.2.1 h0
    have := Tryd.slices_Index_string b off n c ss x w (by rw [h.1]; exact Nat.le_refl _) (by have := h.2.1; omega) (fun j hj => hc j (by rw [← h.1]; exact hj))
    rwa [List.take_of_length_le (by rw [h.1]; exact Nat.le_refl _)] at this
/-- Contains of the library, of the first k elements. -/
theorem scontains (A : Option Addr) (n k c : Nat) (ss : List ByteArray) (x : ByteArray) (w : World) (h : Strs w A n ss) (hk : k ≤ n) :
    Calls Tryd.prog 28 #[.slice A k c, .string x] w fun e w' => e = .returned (.bool (Lib.containsS (ss.take k) x)) ∧ w' = w := by
  rcases Nat.eq_zero_or_pos k with h0 | h0
  · subst h0
    exact Tryd.slices_Contains_string_empty _ _ _ _
  · obtain ⟨b, off, rfl, _, hc⟩ := h.2.2.1 (by omega)
    exact Tryd.slices_Contains_string b off k c ss x w (by rw [h.1]; exact hk) (by have := h.2.1; omega) (fun j hj => hc j (by rw [← h.1]; exact hj))

/-- What Index of an alphabet returns. -/
def ixV (ss : List ByteArray) (x : ByteArray) : Int × Bool := if Lib.idxOfS ss x < 0 then (0, false) else (Lib.idxOfS ss x, true)
theorem ixV_no {ss : List ByteArray} {x : ByteArray} (h : Lib.idxOfS ss x < 0) : ixV ss x = (0, false) := by unfold ixV; rw [if_pos h]
theorem ixV_yes {ss : List ByteArray} {x : ByteArray} (h : ¬ Lib.idxOfS ss x < 0) : ixV ss x = (Lib.idxOfS ss x, true) := by unfold ixV; rw [if_neg h]

theorem ret_ib {k : IntKind} {a a' : Int} {b b' : Bool} {p : Int × Bool} (h : p = (a', b')) (h1 : a = a') (h2 : b = b') : Ending.returned (.tuple #[.int k a, .bool b]) = .returned (.tuple #[.int k p.1, .bool p.2]) := by rw [h, h1, h2]

theorem pindex (A : Option Addr) (n c : Nat) (ss : List ByteArray) (x : ByteArray) (w : World) (h : Strs w A n ss) :
    Calls Tryd.prog 11 #[.agg #[.slice A n c], .string x] w fun e w' => e = .returned (.tuple #[.int .i64 (ixV ss x).1, .bool (ixV ss x).2]) ∧ Below w.heap.size w w' := by
  by_cases hx : Lib.idxOfS ss x < 0
  · have hf := Lib.hid (ixV_no hx)
    go_enter Tryd.func11, Tryd.ntmps11
    go_wp2_with fail
    refine (sindex _ _ _ ss x _ (h.below (alloc_below _ _))).mono ?_
    rintro e w' ⟨rfl, rfl⟩
    go_wp2
    go_ret2
    exact ⟨ret_ib hf.out rfl rfl, alloc_below _ _⟩
  · have hf := Lib.hid (ixV_yes hx)
    go_enter Tryd.func11, Tryd.ntmps11
    go_wp2_with fail
    refine (sindex _ _ _ ss x _ (h.below (alloc_below _ _))).mono ?_
    rintro e w' ⟨rfl, rfl⟩
    go_wp2
    go_ret2
    exact ⟨ret_ib hf.out rfl rfl, alloc_below _ _⟩
end Go.Proofs.YtiongejdedhcjaaDoor
