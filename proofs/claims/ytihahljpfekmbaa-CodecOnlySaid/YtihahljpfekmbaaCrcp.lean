/- The checksum, as numbers. -/
import Derived.WalkKit
namespace Go.Proofs.Ytihahljpfekmbaa

def crcB (c : Nat) : Nat := if c % 2 = 1 then (c / 2) ^^^ 3988292384 else c / 2
def crcK : Nat → Nat → Nat
  | 0, c => c
  | k + 1, c => crcK k (crcB c)
def crcS : Nat → List Nat → Nat
  | c, [] => c
  | c, b :: bs => crcS (crcK 8 (c ^^^ b)) bs
def crcZ (bs : List Nat) : Nat := crcS 4294967295 bs ^^^ 4294967295
theorem xor32 {a b : Nat} (ha : a < 4294967296) (hb : b < 4294967296) : a ^^^ b < 4294967296 := Nat.xor_lt_two_pow (n := 32) ha hb
theorem crcB_lt {c : Nat} (h : c < 4294967296) : crcB c < 4294967296 := by
  unfold crcB
  split
  · exact xor32 (by omega) (by decide)
  · omega
theorem crcK_lt : ∀ (k : Nat) {c : Nat}, c < 4294967296 → crcK k c < 4294967296
  | 0, _, h => h
  | k + 1, _, h => crcK_lt k (crcB_lt h)
theorem crcS_lt : ∀ (bs : List Nat) {c : Nat}, c < 4294967296 → (∀ b, b ∈ bs → b < 256) → crcS c bs < 4294967296
  | [], _, h, _ => h
  | b :: bs, c, h, hb => crcS_lt bs (crcK_lt 8 (xor32 h (by have := hb b (by simp); omega))) (fun x hx => hb x (List.mem_cons_of_mem _ hx))
theorem crcZ_lt {bs : List Nat} (hb : ∀ b, b ∈ bs → b < 256) : crcZ bs < 4294967296 := xor32 (crcS_lt bs (by decide) hb) (by decide)
theorem crcK_next : ∀ (k c : Nat), crcK (k + 1) c = crcB (crcK k c)
  | 0, _ => rfl
  | k + 1, c => by
    show crcK (k + 1) (crcB c) = crcB (crcK k (crcB c))
    exact crcK_next k (crcB c)
theorem crcS_append : ∀ (a b : List Nat) (c : Nat), crcS c (a ++ b) = crcS (crcS c a) b
  | [], _, _ => rfl
  | _ :: a, b, _ => crcS_append a b _
/-- Two registers stay two. -/
theorem xor_cancel {a b p : Nat} (h : a ^^^ p = b ^^^ p) : a = b := by
  have := congrArg (· ^^^ p) h
  simpa [Nat.xor_assoc] using this
theorem crcB_inj {a b : Nat} (ha : a < 4294967296) (hb : b < 4294967296) (h : crcB a = crcB b) : a = b := by
  have key : ∀ x y : Nat, x < 4294967296 → y < 4294967296 → (x / 2) ^^^ 3988292384 = y / 2 → False := by
    intro x y hx hy e
    have h1 : ((x / 2) ^^^ 3988292384).testBit 31 = true := by
      rw [Nat.testBit_xor, Nat.testBit_lt_two_pow (show x / 2 < 2 ^ 31 by omega)]
      decide
    rw [e, Nat.testBit_lt_two_pow (show y / 2 < 2 ^ 31 by omega)] at h1
    exact absurd h1 (by simp)
  unfold crcB at h
  by_cases h1 : a % 2 = 1
  · by_cases h2 : b % 2 = 1
    · rw [if_pos h1, if_pos h2] at h
      have := xor_cancel h
      omega
    · rw [if_pos h1, if_neg h2] at h
      exact (key a b ha hb h).elim
  · by_cases h2 : b % 2 = 1
    · rw [if_neg h1, if_pos h2] at h
      exact (key b a hb ha h.symm).elim
    · rw [if_neg h1, if_neg h2] at h
      omega
theorem crcK_inj : ∀ (k : Nat) {a b : Nat}, a < 4294967296 → b < 4294967296 → crcK k a = crcK k b → a = b
  | 0, _, _, _, _, h => h
  | k + 1, _, _, ha, hb, h => crcB_inj ha hb (crcK_inj k (crcB_lt ha) (crcB_lt hb) h)
theorem crcS_inj : ∀ (bs : List Nat) {a b : Nat}, a < 4294967296 → b < 4294967296 → (∀ x, x ∈ bs → x < 256) → crcS a bs = crcS b bs → a = b
  | [], _, _, _, _, _, h => h
  | x :: bs, a, b, ha, hb, hx, h => by
    have h0 := hx x (by simp)
    exact xor_cancel (crcK_inj 8 (xor32 ha (by omega)) (xor32 hb (by omega)) (crcS_inj bs (crcK_lt 8 (xor32 ha (by omega))) (crcK_lt 8 (xor32 hb (by omega))) (fun y hy => hx y (List.mem_cons_of_mem _ hy)) h))
/-- One byte that differs turns the checksum. -/
theorem crcZ_byte {p r : List Nat} {x y : Nat} (hp : ∀ b, b ∈ p → b < 256) (hr : ∀ b, b ∈ r → b < 256) (hx : x < 256) (hy : y < 256) (h : crcZ (p ++ x :: r) = crcZ (p ++ y :: r)) : x = y := by
  have h := xor_cancel h
  rw [crcS_append, crcS_append] at h
  have hc := crcS_lt p (c := 4294967295) (by decide) hp
  generalize crcS 4294967295 p = c at h hc
  have h := crcS_inj r (crcK_lt 8 (xor32 hc (by omega))) (crcK_lt 8 (xor32 hc (by omega))) hr h
  have h := crcK_inj 8 (xor32 hc (by omega)) (xor32 hc (by omega)) h
  rw [Nat.xor_comm c x, Nat.xor_comm c y] at h
  exact xor_cancel h
/-- The four bytes of a checksum, the greatest first. -/
def four (s : Nat) : List Nat := [s / 16777216 % 256, s / 65536 % 256, s / 256 % 256, s % 256]
theorem four_inj {a b : Nat} (ha : a < 4294967296) (hb : b < 4294967296) (h : four a = four b) : a = b := by
  simp only [four, List.cons.injEq, and_true] at h
  omega
theorem four_byte (s : Nat) : ∀ b, b ∈ four s → b < 256 := by
  intro b hb
  simp only [four, List.mem_cons, List.not_mem_nil, or_false] at hb
  omega
end Go.Proofs.Ytihahljpfekmbaa
