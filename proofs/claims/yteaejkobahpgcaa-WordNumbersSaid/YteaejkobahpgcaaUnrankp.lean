/- Plain: what Unrank returns. -/
import Derived.Test.YteaejkobahpgcaaRev
namespace Go.Proofs.Yteaejkobahpgcaa
open Go.RowKit

/-- The symbols of the word with the number m, the last one first; at most f of them. -/
def back (k : Int) : Nat → Int → List Int
  | 0, _ => []
  | f + 1, m => if m ≤ 0 then [] else (m - 1) % k :: back k f ((m - 1) / k)

/-- What Unrank returns. -/
def unrankV (m k : Int) : List Int × Int :=
  if 0 ≤ m ∧ 1 ≤ k ∧ k ≤ 1024 then (if (back k 1025 m).length ≤ 1024 then ((back k 1025 m).reverse, 0) else ([], 3)) else ([], 2)

theorem unrankV_range {m k : Int} (h : ¬ (0 ≤ m ∧ 1 ≤ k ∧ k ≤ 1024)) : unrankV m k = ([], 2) := by unfold unrankV; rw [if_neg h]
theorem back_zero (k : Int) (f : Nat) : back k f 0 = [] := by cases f <;> simp [back]
theorem back_pos {k m : Int} {f : Nat} (h : 0 < m) : back k (f + 1) m = (m - 1) % k :: back k f ((m - 1) / k) := by rw [back, if_neg (by omega)]

theorem unrankV_ok {m k : Int} {ys : List Int} (h1 : 0 ≤ m) (h2 : 1 ≤ k) (h3 : k ≤ 1024) (hl : ys.length ≤ 1024) (h : back k 1025 m = ys ++ back k (1025 - ys.length) 0) : unrankV m k = (ys.reverse, 0) := by
  rw [back_zero, List.append_nil] at h
  unfold unrankV; rw [if_pos ⟨h1, h2, h3⟩, h, if_pos hl]
theorem unrankV_long {m k m' : Int} {ys : List Int} (h1 : 0 ≤ m) (h2 : 1 ≤ k) (h3 : k ≤ 1024) (hl : ys.length = 1024) (hp : 0 < m') (h : back k 1025 m = ys ++ back k (1025 - ys.length) m') : unrankV m k = ([], 3) := by
  have e : (back k 1025 m).length = 1025 := by
    rw [h, hl, show 1025 - 1024 = 0 + 1 by rfl, back_pos hp, List.length_append, hl]; simp [back]
  unfold unrankV; rw [if_pos ⟨h1, h2, h3⟩, if_neg (by rw [e]; omega)]
theorem back_step {m k m' : Int} {ys : List Int} (hl : ys.length < 1024) (hp : 0 < m') (h : back k 1025 m = ys ++ back k (1025 - ys.length) m') :
    back k 1025 m = (ys ++ [(m' - 1) % k]) ++ back k (1025 - (ys ++ [(m' - 1) % k]).length) ((m' - 1) / k) := by
  rw [h, show 1025 - ys.length = (1025 - (ys.length + 1)) + 1 by omega, back_pos hp]
  simp

theorem quo_bd {m k : Int} (h : 0 < m) (hk : 1 ≤ k) : 0 ≤ (m - 1) / k ∧ (m - 1) / k < m := by
  refine ⟨Int.ediv_nonneg (by omega) (by omega), ?_⟩
  have := Int.ediv_le_self (a := m - 1) k (by omega)
  omega

theorem Ints.one (w : World) (x : Int) : Ints (w.alloc (.cells #[.int .i64 x] 3)) (some ⟨w.heap.size, 0, none⟩) 1 [x] := Ints.new w [x] #[.int .i64 x] 1 rfl rfl (by simp)
end Go.Proofs.Yteaejkobahpgcaa
