/- What the decoders return. -/
import Derived.Test.YtihahljpfekmbaaEncp
namespace Go.Proofs.Ytihahljpfekmbaa

/-- The size, and the number, of the encoding at u. -/
def szA (bs : List Nat) (u : Nat) : Nat := (scn 0 (bs.drop u)).1
def erA (bs : List Nat) (u : Nat) : Int := (scn 0 (bs.drop u)).2
def nuA (bs : List Nat) (u : Nat) : Int := zag (val ((bs.drop u).take (szA bs u)))
theorem szA_bd {bs : List Nat} {u : Nat} (hu : u ≤ bs.length) (h : erA bs u = 0) : 0 < szA bs u ∧ u + szA bs u ≤ bs.length := by
  have := scn_size (bs.drop u) 0 (by omega) h
  rw [List.length_drop] at this
  unfold szA
  omega
theorem erA_range (bs : List Nat) (u : Nat) : erA bs u = 0 ∨ erA bs u = 4 ∨ erA bs u = 5 := scn_range _ 0 (by omega)

/-- Numbers one after the other, k more. -/
def numsR (bs : List Nat) : Nat → Nat → List Int → List Int × Nat × Int
  | 0, u, acc => (acc, u, 0)
  | k + 1, u, acc => if erA bs u = 0 then numsR bs k (u + szA bs u) (acc ++ [nuA bs u]) else ([], 0, erA bs u)
theorem numsR_ok {bs : List Nat} {k u : Nat} {acc : List Int} (h : erA bs u = 0) : numsR bs (k + 1) u acc = numsR bs k (u + szA bs u) (acc ++ [nuA bs u]) := by
  show (if _ then _ else _) = _; rw [if_pos h]
theorem numsR_bad {bs : List Nat} {k u : Nat} {acc : List Int} (h : ¬ erA bs u = 0) : numsR bs (k + 1) u acc = ([], 0, erA bs u) := by
  show (if _ then _ else _) = _; rw [if_neg h]
/-- A list of numbers at u. -/
def lisA (bs : List Nat) (u : Nat) : List Int × Nat × Int :=
  if erA bs u = 0 then (if nuA bs u < 0 then ([], 0, 5) else numsR bs (nuA bs u).toNat (u + szA bs u) []) else ([], 0, erA bs u)
theorem lisA_err {bs : List Nat} {u : Nat} (h : ¬ erA bs u = 0) : lisA bs u = ([], 0, erA bs u) := by unfold lisA; rw [if_neg h]
theorem lisA_neg {bs : List Nat} {u : Nat} (h : erA bs u = 0) (h2 : nuA bs u < 0) : lisA bs u = ([], 0, 5) := by unfold lisA; rw [if_pos h, if_pos h2]
theorem lisA_ok {bs : List Nat} {u k : Nat} (h : erA bs u = 0) (h2 : nuA bs u = k) : lisA bs u = numsR bs k (u + szA bs u) [] := by
  unfold lisA; rw [if_pos h, if_neg (by omega), h2]; rfl
/-- What a result of numbers fits. -/
theorem numsR_fit {bs : List Nat} : ∀ (k u : Nat) (acc : List Int), u ≤ bs.length → acc.length ≤ u → (numsR bs k u acc).2.2 = 0 → u ≤ (numsR bs k u acc).2.1 ∧ (numsR bs k u acc).2.1 ≤ bs.length ∧ (numsR bs k u acc).1.length ≤ (numsR bs k u acc).2.1
  | 0, u, acc, hu, ha, _ => ⟨Nat.le_refl _, hu, ha⟩
  | k + 1, u, acc, hu, ha, h => by
    by_cases he : erA bs u = 0
    · rw [numsR_ok he] at h ⊢
      have hb := szA_bd hu he
      have := numsR_fit k (u + szA bs u) (acc ++ [nuA bs u]) hb.2 (by rw [List.length_append]; simp; omega) h
      omega
    · rw [numsR_bad he] at h; exact absurd h he
theorem lisA_fit {bs : List Nat} {u : Nat} (hu : u ≤ bs.length) (h : (lisA bs u).2.2 = 0) : u < (lisA bs u).2.1 ∧ (lisA bs u).2.1 ≤ bs.length ∧ (lisA bs u).1.length ≤ (lisA bs u).2.1 := by
  by_cases he : erA bs u = 0
  · by_cases hn : nuA bs u < 0
    · rw [lisA_neg he hn] at h; exact absurd h (by simp)
    · obtain ⟨k, hk⟩ : ∃ k : Nat, nuA bs u = k := ⟨(nuA bs u).toNat, by omega⟩
      rw [lisA_ok he hk] at h ⊢
      have hb := szA_bd hu he
      have := numsR_fit k (u + szA bs u) [] hb.2 (by simp) h
      omega
  · rw [lisA_err he] at h; exact absurd h he

/-- Words one after the other, k more. -/
def wrdsR (bs : List Nat) : Nat → Nat → List (List Int) → List (List Int) × Nat × Int
  | 0, u, acc => (acc, u, 0)
  | k + 1, u, acc => if (lisA bs u).2.2 = 0 then wrdsR bs k (lisA bs u).2.1 (acc ++ [(lisA bs u).1]) else ([], 0, (lisA bs u).2.2)
theorem wrdsR_ok {bs : List Nat} {k u : Nat} {acc : List (List Int)} (h : (lisA bs u).2.2 = 0) : wrdsR bs (k + 1) u acc = wrdsR bs k (lisA bs u).2.1 (acc ++ [(lisA bs u).1]) := by
  show (if _ then _ else _) = _; rw [if_pos h]
theorem wrdsR_bad {bs : List Nat} {k u : Nat} {acc : List (List Int)} (h : ¬ (lisA bs u).2.2 = 0) : wrdsR bs (k + 1) u acc = ([], 0, (lisA bs u).2.2) := by
  show (if _ then _ else _) = _; rw [if_neg h]
/-- A list of words at u. -/
def worA (bs : List Nat) (u : Nat) : List (List Int) × Nat × Int :=
  if erA bs u = 0 then (if nuA bs u < 0 then ([], 0, 5) else wrdsR bs (nuA bs u).toNat (u + szA bs u) []) else ([], 0, erA bs u)
theorem worA_err {bs : List Nat} {u : Nat} (h : ¬ erA bs u = 0) : worA bs u = ([], 0, erA bs u) := by unfold worA; rw [if_neg h]
theorem worA_neg {bs : List Nat} {u : Nat} (h : erA bs u = 0) (h2 : nuA bs u < 0) : worA bs u = ([], 0, 5) := by unfold worA; rw [if_pos h, if_pos h2]
theorem worA_ok {bs : List Nat} {u k : Nat} (h : erA bs u = 0) (h2 : nuA bs u = k) : worA bs u = wrdsR bs k (u + szA bs u) [] := by
  unfold worA; rw [if_pos h, if_neg (by omega), h2]; rfl
end Go.Proofs.Ytihahljpfekmbaa
