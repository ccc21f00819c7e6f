/- Encodings of lists. -/
import Derived.Test.YtihahljpfekmbaaEncp
namespace Go.Proofs.Ytihahljpfekmbaa

def encs : List Int → List Nat
  | [] => []
  | x :: l => enc (zig x) ++ encs l
def encI (l : List Int) : List Nat := enc (zig l.length) ++ encs l
def encw : List (List Int) → List Nat
  | [] => []
  | l :: r => encI l ++ encw r
def encW (r : List (List Int)) : List Nat := enc (zig r.length) ++ encw r
/-- A number that fits 64 bits. -/
def R64 (n : Int) : Prop := -9223372036854775808 ≤ n ∧ n ≤ 9223372036854775807
def RL (l : List Int) : Prop := ∀ z, z ∈ l → R64 z
theorem r64_nat {n : Nat} (h : n ≤ 9223372036854775807) : R64 n := ⟨by omega, by omega⟩
theorem enc_byte {n : Int} (h : R64 n) : ∀ b, b ∈ enc (zig n) → b < 256 := encF_byte 9 _ (Nat.lt_trans (zig_lt h.1 h.2) (by decide))
theorem encs_byte : ∀ {l : List Int}, RL l → ∀ b, b ∈ encs l → b < 256
  | [], _, b, hb => absurd hb (by simp [encs])
  | x :: l, h, b, hb => by
    rcases List.mem_append.1 hb with hb | hb
    · exact enc_byte (h x (by simp)) b hb
    · exact encs_byte (fun z hz => h z (List.mem_cons_of_mem _ hz)) b hb
theorem encI_byte {l : List Int} (h : RL l) (hl : l.length ≤ 9223372036854775807) : ∀ b, b ∈ encI l → b < 256 := by
  intro b hb
  rcases List.mem_append.1 hb with hb | hb
  · exact enc_byte (r64_nat hl) b hb
  · exact encs_byte h b hb
theorem encw_byte : ∀ {r : List (List Int)}, (∀ l, l ∈ r → RL l ∧ l.length ≤ 9223372036854775807) → ∀ b, b ∈ encw r → b < 256
  | [], _, b, hb => absurd hb (by simp [encw])
  | l :: r, h, b, hb => by
    rcases List.mem_append.1 hb with hb | hb
    · exact encI_byte (h l (by simp)).1 (h l (by simp)).2 b hb
    · exact encw_byte (fun z hz => h z (List.mem_cons_of_mem _ hz)) b hb
theorem encW_byte {r : List (List Int)} (h : ∀ l, l ∈ r → RL l ∧ l.length ≤ 9223372036854775807) (hl : r.length ≤ 9223372036854775807) : ∀ b, b ∈ encW r → b < 256 := by
  intro b hb
  rcases List.mem_append.1 hb with hb | hb
  · exact enc_byte (r64_nat hl) b hb
  · exact encw_byte h b hb
theorem encs_len : ∀ (l : List Int), (encs l).length ≤ 10 * l.length
  | [] => by simp [encs]
  | x :: l => by
    have := encs_len l
    have := (enc_len (zig x)).2
    show (enc (zig x) ++ encs l).length ≤ 10 * (l.length + 1)
    rw [List.length_append]; omega
theorem encI_len (l : List Int) : (encI l).length ≤ 10 * l.length + 10 := by
  have := encs_len l
  have := (enc_len (zig l.length)).2
  unfold encI
  rw [List.length_append]; omega
theorem encI_pos (l : List Int) : 1 ≤ (encI l).length := by
  have := (enc_len (zig l.length)).1
  unfold encI
  rw [List.length_append]; omega
theorem encw_len {K : Nat} : ∀ {r : List (List Int)}, (∀ l, l ∈ r → l.length ≤ K) → (encw r).length ≤ (10 * K + 10) * r.length
  | [], _ => by simp [encw]
  | l :: r, h => by
    have h1 := encw_len (r := r) (fun z hz => h z (List.mem_cons_of_mem _ hz))
    have h2 := encI_len l
    have h3 := h l (by simp)
    show (encI l ++ encw r).length ≤ (10 * K + 10) * (r.length + 1)
    rw [List.length_append, Nat.mul_add]; omega
theorem encW_len {K : Nat} {r : List (List Int)} (h : ∀ l, l ∈ r → l.length ≤ K) : (encW r).length ≤ 10 + (10 * K + 10) * r.length := by
  have h1 := encw_len h
  have := (enc_len (zig r.length)).2
  unfold encW
  rw [List.length_append]; omega
theorem encW_pos (r : List (List Int)) : 1 ≤ (encW r).length := by
  have := (enc_len (zig r.length)).1
  unfold encW
  rw [List.length_append]; omega
theorem encs_append : ∀ (a b : List Int), encs (a ++ b) = encs a ++ encs b
  | [], b => rfl
  | x :: a, b => by
    show enc (zig x) ++ encs (a ++ b) = (enc (zig x) ++ encs a) ++ encs b
    rw [encs_append a b, List.append_assoc]
theorem encw_append : ∀ (a b : List (List Int)), encw (a ++ b) = encw a ++ encw b
  | [], b => rfl
  | x :: a, b => by
    show encI x ++ encw (a ++ b) = (encI x ++ encw a) ++ encw b
    rw [encw_append a b, List.append_assoc]
theorem encs_drop {l : List Int} {j : Nat} (h : j < l.length) : encs (l.drop j) = enc (zig (l.getD j 0)) ++ encs (l.drop (j + 1)) := by
  rw [List.drop_eq_getElem_cons h, List.getD_eq_getElem?_getD, List.getElem?_eq_getElem h]; rfl
theorem encw_drop {r : List (List Int)} {j : Nat} (h : j < r.length) : encw (r.drop j) = encI (r.getD j []) ++ encw (r.drop (j + 1)) := by
  rw [List.drop_eq_getElem_cons h, List.getD_eq_getElem?_getD, List.getElem?_eq_getElem h]; rfl
end Go.Proofs.Ytihahljpfekmbaa
