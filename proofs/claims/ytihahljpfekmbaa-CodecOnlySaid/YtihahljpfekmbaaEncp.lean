/- Encodings of numbers as lists of bytes. -/
import Derived.WalkKit
import Derived.Lib.Hide
namespace Go.Proofs.Ytihahljpfekmbaa

/-- The groups of a number, the least first; at most k + 1. -/
def encF : Nat → Nat → List Nat
  | 0, u => [u]
  | k + 1, u => if u < 128 then [u] else (u % 128 + 128) :: encF k (u / 128)
def enc (u : Nat) : List Nat := encF 9 u
theorem encF_small {k u : Nat} (h : u < 128) : encF k u = [u] := by
  cases k with
  | zero => rfl
  | succ k => unfold encF; rw [if_pos h]
/-- Rounds of the loop: what is written, and what is left. -/
theorem encF_next {k u : Nat} (h : ¬ u < 128) : encF (k + 1) u = (u % 128 + 128) :: encF k (u / 128) := by
  conv => lhs; unfold encF
  rw [if_neg h]
theorem encF_fuel : ∀ {k u : Nat}, u < 128 ^ (k + 1) → encF (k + 1) u = encF k u
  | 0, u, h => by rw [encF_small (by omega), encF_small (by omega)]
  | k + 1, u, h => by
    by_cases hu : u < 128
    · rw [encF_small hu, encF_small hu]
    · rw [encF_next hu, encF_next hu, encF_fuel (k := k) (by rw [Nat.pow_succ] at h; omega)]
theorem encF_len : ∀ (k u : Nat), 1 ≤ (encF k u).length ∧ (encF k u).length ≤ k + 1
  | 0, _ => by simp [encF]
  | k + 1, u => by
    unfold encF
    split
    · simp
    · have := encF_len k (u / 128)
      simp only [List.length_cons]
      omega
theorem enc_len (u : Nat) : 1 ≤ (enc u).length ∧ (enc u).length ≤ 10 := encF_len 9 u
theorem encF_byte : ∀ (k u : Nat), u < 256 * 128 ^ k → ∀ b, b ∈ encF k u → b < 256
  | 0, u, h, b, hb => by simp [encF] at hb; simp at h; omega
  | k + 1, u, h, b, hb => by
    by_cases hu : u < 128
    · rw [encF_small hu] at hb; simp at hb; omega
    · rw [encF_next hu] at hb
      rcases List.mem_cons.1 hb with e | hb
      · omega
      · exact encF_byte k (u / 128) (by rw [Nat.pow_succ, ← Nat.mul_assoc] at h; omega) b hb

/-- A number as one that is not negative, and back. -/
def zig (n : Int) : Nat := if 0 ≤ n then (2 * n).toNat else (-2 * n - 1).toNat
def zag (u : Nat) : Int := if u % 2 = 1 then -((u / 2 : Nat) : Int) - 1 else ((u / 2 : Nat) : Int)
theorem zag_zig (n : Int) : zag (zig n) = n := by
  unfold zag zig
  split <;> split <;> omega
theorem zig_zag (u : Nat) : zig (zag u) = u := by
  unfold zag zig
  split <;> split <;> omega
theorem zig_lt {n : Int} (h1 : -9223372036854775808 ≤ n) (h2 : n ≤ 9223372036854775807) : zig n < 18446744073709551616 := by
  unfold zig; split <;> omega

/-- The size of the encoding that bytes begin with, k of which are behind, and the error. -/
def scn : Nat → List Nat → Nat × Int
  | k, [] => (0, if k < 10 then 4 else 5)
  | k, b :: bs => if k = 10 then (0, 5) else if 128 ≤ b then scn (k + 1) bs else if (0 < k ∧ b = 0) ∨ (k = 9 ∧ 1 < b) then (0, 5) else (k + 1, 0)
theorem scn_end {k : Nat} : scn k [] = (0, if k < 10 then 4 else 5) := rfl
theorem scn_ten (bs : List Nat) : scn 10 bs = (0, 5) := by cases bs <;> rfl
theorem scn_on {k b : Nat} {bs : List Nat} (hk : ¬ k = 10) (h : 128 ≤ b) : scn k (b :: bs) = scn (k + 1) bs := by
  show (if k = 10 then _ else _) = _; rw [if_neg hk, if_pos h]
theorem scn_bad {k b : Nat} {bs : List Nat} (hk : ¬ k = 10) (h : ¬ 128 ≤ b) (h2 : (0 < k ∧ b = 0) ∨ (k = 9 ∧ 1 < b)) : scn k (b :: bs) = (0, 5) := by
  show (if k = 10 then _ else _) = _; rw [if_neg hk, if_neg h, if_pos h2]
theorem scn_ok {k b : Nat} {bs : List Nat} (hk : ¬ k = 10) (h : ¬ 128 ≤ b) (h2 : ¬ ((0 < k ∧ b = 0) ∨ (k = 9 ∧ 1 < b))) : scn k (b :: bs) = (k + 1, 0) := by
  show (if k = 10 then _ else _) = _; rw [if_neg hk, if_neg h, if_neg h2]
theorem scn_range : ∀ (bs : List Nat) (k : Nat), k ≤ 10 → (scn k bs).2 = 0 ∨ (scn k bs).2 = 4 ∨ (scn k bs).2 = 5
  | [], k, _ => by rw [scn_end]; show (if k < 10 then (4 : Int) else 5) = 0 ∨ _; split <;> simp
  | b :: bs, k, hk => by
    by_cases h0 : k = 10
    · subst h0; rw [scn_ten]; exact .inr (.inr rfl)
    · by_cases h : 128 ≤ b
      · rw [scn_on h0 h]; exact scn_range bs (k + 1) (by omega)
      · by_cases h2 : (0 < k ∧ b = 0) ∨ (k = 9 ∧ 1 < b)
        · rw [scn_bad h0 h h2]; exact .inr (.inr rfl)
        · rw [scn_ok h0 h h2]; exact .inl rfl
theorem scn_size : ∀ (bs : List Nat) (k : Nat), k ≤ 10 → (scn k bs).2 = 0 → k < (scn k bs).1 ∧ (scn k bs).1 ≤ k + bs.length ∧ (scn k bs).1 ≤ 10
  | [], k, _, h => by rw [scn_end] at h; have h : (if k < 10 then (4 : Int) else 5) = 0 := h; split at h <;> omega
  | b :: bs, k, hk, h => by
    by_cases h0 : k = 10
    · subst h0; rw [scn_ten] at h; exact absurd h (by simp)
    · by_cases h1 : 128 ≤ b
      · rw [scn_on h0 h1] at h ⊢
        have := scn_size bs (k + 1) (by omega) h
        simp only [List.length_cons]
        omega
      · by_cases h2 : (0 < k ∧ b = 0) ∨ (k = 9 ∧ 1 < b)
        · rw [scn_bad h0 h1 h2] at h; exact absurd h (by simp)
        · rw [scn_ok h0 h1 h2]
          simp only [List.length_cons]
          omega
theorem scn_err {bs : List Nat} {k : Nat} (hk : k ≤ 10) (h : ¬ (scn k bs).2 = 0) : (scn k bs).1 = 0 := by
  induction bs generalizing k with
  | nil => rfl
  | cons b bs ih =>
    by_cases h0 : k = 10
    · subst h0; rw [scn_ten]
    · by_cases h1 : 128 ≤ b
      · rw [scn_on h0 h1] at h ⊢; exact ih (by omega) h
      · by_cases h2 : (0 < k ∧ b = 0) ∨ (k = 9 ∧ 1 < b)
        · rw [scn_bad h0 h1 h2]
        · rw [scn_ok h0 h1 h2] at h; exact absurd rfl h

/-- The value of groups, the least first. -/
def val : List Nat → Nat
  | [] => 0
  | b :: bs => b % 128 + 128 * val bs
theorem val_append : ∀ (l t : List Nat), val (l ++ t) = val l + 128 ^ l.length * val t
  | [], t => by simp [val]
  | b :: l, t => by
    show b % 128 + 128 * val (l ++ t) = b % 128 + 128 * val l + 128 ^ (l.length + 1) * val t
    rw [val_append l t, Nat.pow_succ, Nat.mul_add, Nat.add_assoc, ← Nat.mul_assoc, Nat.mul_comm (128 ^ l.length) 128]
theorem val_lt : ∀ (l : List Nat), val l < 128 ^ l.length
  | [] => by simp [val]
  | b :: l => by
    have := val_lt l
    show b % 128 + 128 * val l < 128 ^ (l.length + 1)
    rw [Nat.pow_succ]
    omega

/-- What TakeInt returns. -/
def tkI (bs : List Nat) : Int × Nat × Int := if (scn 0 bs).2 = 0 then (zag (val (bs.take (scn 0 bs).1)), (scn 0 bs).1, 0) else (0, 0, (scn 0 bs).2)
theorem tkI_ok {bs : List Nat} (h : (scn 0 bs).2 = 0) : tkI bs = (zag (val (bs.take (scn 0 bs).1)), (scn 0 bs).1, 0) := by unfold tkI; rw [if_pos h]
theorem tkI_bad {bs : List Nat} (h : ¬ (scn 0 bs).2 = 0) : tkI bs = (0, 0, (scn 0 bs).2) := by unfold tkI; rw [if_neg h]
end Go.Proofs.Ytihahljpfekmbaa
