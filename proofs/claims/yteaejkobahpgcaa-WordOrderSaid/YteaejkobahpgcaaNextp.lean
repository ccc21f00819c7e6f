/- Plain: what Next returns; the state of its loop. -/
import Derived.Test.YteaejkobahpgcaaJoinr
import Derived.Test.YteaejkobahpgcaaRank
namespace Go.Proofs.Yteaejkobahpgcaa
open Go.RowKit

/-- The word after xs, if the symbols from the place i on are the last ones. -/
def nxt (k : Int) (xs : List Int) : Nat → List Int × Bool
  | 0 => if xs.length = 1024 then ([], false) else (List.replicate xs.length 0 ++ [0], true)
  | i + 1 => if xs[i]?.getD 0 < k - 1 then ((xs.take i ++ List.replicate (xs.length - i) 0).set i (xs[i]?.getD 0 + 1), true) else nxt k xs i

def nextV (xs : List Int) (k : Int) : List Int × Bool := if chk xs k = 0 then nxt k xs xs.length else ([], false)

/-- The list when the symbols from the place j on have been set to 0. -/
def tail0 (xs : List Int) (j : Nat) : List Int := xs.take j ++ List.replicate (xs.length - j) 0

theorem tail0_len (xs : List Int) {j : Nat} (h : j ≤ xs.length) : (tail0 xs j).length = xs.length := by unfold tail0; simp; omega
theorem tail0_full (xs : List Int) : tail0 xs xs.length = xs := by unfold tail0; simp
theorem tail0_none (xs : List Int) : tail0 xs 0 = List.replicate xs.length 0 := by unfold tail0; simp
theorem tail0_at {xs : List Int} {m : Nat} (h : m < xs.length) : (tail0 xs (m + 1)).getD m 0 = xs[m]?.getD 0 := by
  unfold tail0
  rw [List.getD, List.getElem?_append_left (by simp; omega), List.getElem?_take, if_pos (by omega)]
theorem tail0_step {xs : List Int} {m : Nat} (h : m < xs.length) : (tail0 xs (m + 1)).set m 0 = tail0 xs m := by
  unfold tail0
  apply List.ext_getElem?
  intro i
  grind
theorem tail0_bump {xs : List Int} {m : Nat} (h : m < xs.length) (u : Int) : (tail0 xs (m + 1)).set m u = (xs.take m ++ List.replicate (xs.length - m) 0).set m u := by
  have := tail0_step h
  have e : xs.take m ++ List.replicate (xs.length - m) 0 = tail0 xs m := rfl
  rw [e, ← this, List.set_set]

theorem nxt_up {k : Int} {xs : List Int} {m : Nat} (h : m < xs.length) (ht : xs[m]?.getD 0 < k - 1) : nxt k xs (m + 1) = ((tail0 xs (m + 1)).set m (xs[m]?.getD 0 + 1), true) := by
  rw [nxt, if_pos ht, tail0_bump h]
theorem nxt_on {k : Int} {xs : List Int} {m : Nat} (ht : ¬ xs[m]?.getD 0 < k - 1) : nxt k xs (m + 1) = nxt k xs m := by rw [nxt, if_neg ht]
theorem nxt_full {k : Int} {xs : List Int} (h : xs.length = 1024) : nxt k xs 0 = ([], false) := by rw [nxt, if_pos h]
theorem nxt_more {k : Int} {xs : List Int} (h : ¬ xs.length = 1024) : nxt k xs 0 = (tail0 xs 0 ++ [0], true) := by rw [nxt, if_neg h, tail0_none]

theorem nextV_bad {xs : List Int} {k : Int} (h : chk xs k ≠ 0) : nextV xs k = ([], false) := by unfold nextV; rw [if_neg h]
theorem nextV_ok {xs : List Int} {k : Int} (h : chk xs k = 0) : nextV xs k = nxt k xs xs.length := by unfold nextV; rw [if_pos h]

/-- A list of one list, as a literal makes it. -/
theorem Lists.one (w : World) (A : Option Addr) (n c : Nat) (xs : List Int) (h : Ints w A n xs) :
    Lists (w.alloc (.cells #[.slice A n c] 22)) (some ⟨w.heap.size, 0, none⟩) 1 [xs] := by
  have hb : Below w.heap.size w (w.alloc (.cells #[.slice A n c] 22)) := (Below.refl _ _).alloc (Nat.le_refl _) _
  refine ⟨rfl, by omega, fun _ => ⟨w.heap.size, 0, rfl, by simp, fun j hj => ?_⟩⟩
  obtain rfl : j = 0 := by omega
  refine ⟨A, n, c, ?_, h.below hb⟩
  have := cell_of_row (w.alloc (.cells #[.slice A n c] 22)) w.heap.size 0 #[.slice A n c] 22 (0, 0) (heap_alloc_new w _)
  rw [Nat.zero_add, this]; rfl

theorem Owned.head {w : World} {base n c : Nat} {A : Option Addr} {xs : List Int} (h : Owned w base (.slice A n c) xs) (h0 : 0 < n) :
    ∃ g, A = some ⟨g, 0, none⟩ ∧ base ≤ g ∧ g < w.heap.size ∧ ∀ j, w.frozen? ⟨g, j, none⟩ = false := by
  have h' := h
  obtain ⟨A', c', e⟩ := h'.form
  cases e
  rcases h.2 with ⟨e, h1⟩ | ⟨g, cap, cur, e, hb, hg, _⟩
  · omega
  · cases e
    refine ⟨g, rfl, hb, ?_, fun j => frozen_of_row w g j cur 3 hg⟩
    rcases Nat.lt_or_ge g w.heap.size with hlt | hge
    · exact hlt
    · rw [Array.getElem?_eq_none hge] at hg; cases hg

theorem Owned.stored {w : World} {base g n c : Nat} {xs : List Int} (h : Owned w base (.slice (some ⟨g, 0, none⟩) n c) xs) (j : Nat) (u : Int) :
    Owned (w.setCell ⟨g, j, none⟩ (.int .i64 u)) base (.slice (some ⟨g, 0, none⟩) n c) (xs.set j u) := by
  have hf := h.form
  obtain ⟨A', c', e⟩ := hf
  cases e
  have := (World.ownsRow.stored h j (.int .i64 u)).1
  unfold Owned
  rw [List.length_set, List.map_set]
  exact this

theorem Owned.literal (w : World) (base : Nat) (xs : List Int) (cs : Array Value) (n : Nat) (hb : base ≤ w.heap.size) (hcs : cs = (xs.map (Value.int .i64)).toArray) (hn : n = xs.length) (hm : xs.length ≤ 17592186044416) :
    Owned (w.alloc (.cells cs 3)) base (.slice (some ⟨w.heap.size, 0, none⟩) n n) xs := by
  subst hcs hn
  have := World.ownsRow_lit (e := 3) (size := 1) w (xs.map (Value.int .i64)).toArray xs.length hb (by unfold maxLen; omega) (by simp)
  unfold Owned
  simpa using this

/-- Join of one word. -/
theorem wjoin1 (A : Option Addr) (n c : Nat) (xs : List Int) (w : World) (h : Ints w A n xs) :
    Calls Try.prog 21 #[.slice (some ⟨w.heap.size, 0, none⟩) 1 1] (w.alloc (.cells #[.slice A n c] 22)) fun e w' => ∃ A' c', e = .returned (.slice A' n c') ∧ Owned w' w.heap.size (.slice A' n c') xs ∧ Below w.heap.size w w' := by
  refine (wjoin _ _ _ [xs] _ (Lists.one w A n c xs h) (by simp; rw [h.1]; exact h.2.1)).mono ?_
  rintro e w' ⟨v, rfl, hv, hb⟩
  rw [show ([xs] : List (List Int)).flatten = xs by simp] at hv
  obtain ⟨A', c', e⟩ := hv.form
  rw [h.1] at e
  subst e
  refine ⟨A', c', rfl, hv.lower (by simp), ((Below.refl _ _).alloc (Nat.le_refl _) _).trans (hb.mono (by simp))⟩
end Go.Proofs.Yteaejkobahpgcaa
