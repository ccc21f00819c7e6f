/- Plain: sums of weights, and the index that is chosen. No program. -/
import Derived.Test.YtiongejdedhcjaaSeal
namespace Go.Proofs.Ytiongejdedhcjaa

/-- The sum of the first j weights. -/
def psum (xs : List Int) : Nat → Int
  | 0 => 0
  | j + 1 => psum xs j + xs[j]?.getD 0

/-- The first j weights are not negative. -/
def NoNeg (xs : List Int) (j : Nat) : Prop := ∀ m, m < j → 0 ≤ xs[m]?.getD 0
theorem NoNeg.zero (xs : List Int) : NoNeg xs 0 := fun m h => absurd h (by omega)
theorem NoNeg.succ {xs : List Int} {j : Nat} (h : NoNeg xs j) (h0 : 0 ≤ xs[j]?.getD 0) : NoNeg xs (j + 1) := fun m hm => by
  by_cases e : m = j
  · subst e; exact h0
  · exact h m (by omega)
instance (xs : List Int) (j : Nat) : Decidable (NoNeg xs j) := by unfold NoNeg; exact inferInstance

theorem psum_mono {xs : List Int} {n : Nat} (h : NoNeg xs n) {i j : Nat} (hij : i ≤ j) (hj : j ≤ n) : psum xs i ≤ psum xs j := by
  induction j with
  | zero => obtain rfl : i = 0 := by omega
            exact Int.le_refl _
  | succ j ih =>
    by_cases e : i = j + 1
    · subst e; exact Int.le_refl _
    · have h1 := ih (by omega) (by omega)
      have h2 := h j (by omega)
      rw [psum]; omega
theorem psum_nonneg {xs : List Int} {n : Nat} (h : NoNeg xs n) {j : Nat} (hj : j ≤ n) : 0 ≤ psum xs j := psum_mono h (Nat.zero_le _) hj

/-- The first place i from place i on at which x is below what is added up. -/
def pck (xs : List Int) (n : Nat) (x : Int) : Nat → Nat → Nat
  | 0, i => i
  | f + 1, i => if x < psum xs (i + 1) then i else pck xs n x f (i + 1)

theorem pck_here {xs : List Int} {n : Nat} {x : Int} {i : Nat} (hi : i < n) (h : x < psum xs (i + 1)) : pck xs n x (n - i) i = i := by
  rw [show n - i = (n - (i + 1)) + 1 by omega, pck, if_pos h]
theorem pck_next {xs : List Int} {n : Nat} {x : Int} {i : Nat} (hi : i < n) (h : ¬ x < psum xs (i + 1)) : pck xs n x (n - i) i = pck xs n x (n - (i + 1)) (i + 1) := by
  rw [show n - i = (n - (i + 1)) + 1 by omega, pck, if_neg h]
/-- What the index is. -/
theorem pck_is {xs : List Int} {n : Nat} {x : Int} (hx : x < psum xs n) : ∀ (f i : Nat), f = n - i → i ≤ n → psum xs i ≤ x → pck xs n x f i < n ∧ psum xs (pck xs n x f i) ≤ x ∧ x < psum xs (pck xs n x f i + 1) := by
  intro f
  induction f with
  | zero =>
    intro i hf hi hp
    obtain rfl : i = n := by omega
    omega
  | succ f ih =>
    intro i hf hi hp
    rw [pck]
    by_cases h : x < psum xs (i + 1)
    · rw [if_pos h]; exact ⟨by omega, hp, h⟩
    · rw [if_neg h]; exact ih (i + 1) (by omega) (by omega) (by omega)

/-- What Choose returns. -/
noncomputable def choV (s : Nat) (xs : List Int) : Int × Int × Int :=
  if NoNeg xs xs.length then (if 1 ≤ psum xs xs.length ∧ psum xs xs.length ≤ 2147483648 then
    ((pck xs xs.length (Drx s (psum xs xs.length).toNat) xs.length 0 : Int), (Drs s (psum xs xs.length).toNat : Int), 0) else (0, 0, 2)) else (0, 0, 1)
theorem choV_neg {xs : List Int} {n j : Nat} (hn : xs.length = n) (hj : j < n) (h : xs[j]?.getD 0 < 0) (s : Nat) : choV s xs = (0, 0, 1) := by
  unfold choV; rw [if_neg fun H => by have := H j (by omega); omega]
theorem choV_range {xs : List Int} {n : Nat} (hn : xs.length = n) (h : NoNeg xs n) (hc : ¬ (1 ≤ psum xs n ∧ psum xs n ≤ 2147483648)) (s : Nat) : choV s xs = (0, 0, 2) := by
  subst hn; unfold choV; rw [if_pos h, if_neg hc]
theorem choV_ok {xs : List Int} {n t : Nat} (hn : xs.length = n) (h : NoNeg xs n) (ht : psum xs n = t) (hc : Drawable t) (s : Nat) : choV s xs = ((pck xs n (Drx s t) n 0 : Int), (Drs s t : Int), 0) := by
  subst hn; unfold choV; rw [if_pos h, if_pos ⟨by rw [ht]; have := hc.1; omega, by rw [ht]; have := hc.2; omega⟩, ht]; rfl
end Go.Proofs.Ytiongejdedhcjaa
