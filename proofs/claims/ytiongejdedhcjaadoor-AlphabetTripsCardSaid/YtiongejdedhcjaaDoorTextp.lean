/- Plain: texts of words. No program. -/
import Derived.Lib.Join
import Derived.Test.YtiongejdedhcjaaDoorIdx
import Derived.Test.YtiongejdedhcjaaDoorCheck
namespace Go.Proofs.YtiongejdedhcjaaDoor

/-- Texts with a space between them. -/
def jn : List (List UInt8) → List UInt8
  | [] => []
  | [x] => x
  | x :: y :: r => x ++ 32 :: jn (y :: r)
theorem jn_join (xs : List (List UInt8)) : Lib.join xs [32] = jn xs := by
  induction xs with
  | nil => rfl
  | cons x r ih =>
    cases r with
    | nil => exact Lib.join_one _ _
    | cons y r =>
      rw [Lib.join_cons] at ih ⊢
      rw [jn, ← ih]
      simp [Lib.joinTail]
theorem jn_snoc (xs : List (List UInt8)) (x : List UInt8) : jn (xs ++ [x]) = if xs = [] then x else jn xs ++ 32 :: x := by
  induction xs with
  | nil => rfl
  | cons y r ih =>
    cases r with
    | nil => rfl
    | cons z r =>
      rw [if_neg (by simp)] at ih ⊢
      show y ++ 32 :: jn (z :: r ++ [x]) = (y ++ 32 :: jn (z :: r)) ++ 32 :: x
      rw [ih]; simp
theorem jn_append (xs ys : List (List UInt8)) (hx : xs ≠ []) (hy : ys ≠ []) : jn (xs ++ ys) = jn xs ++ 32 :: jn ys := by
  induction xs with
  | nil => exact absurd rfl hx
  | cons x r ih =>
    cases r with
    | nil =>
      cases ys with
      | nil => exact absurd rfl hy
      | cons y ys => rfl
    | cons z r =>
      show x ++ 32 :: jn (z :: r ++ ys) = (x ++ 32 :: jn (z :: r)) ++ 32 :: jn ys
      rw [ih (by simp)]; simp
theorem jn_len (xs : List (List UInt8)) (h : ∀ x, x ∈ xs → x.length ≤ 32) : (jn xs).length ≤ 33 * xs.length := by
  induction xs with
  | nil => simp [jn]
  | cons x r ih =>
    cases r with
    | nil => have := h x (by simp); simp [jn]; omega
    | cons z r =>
      have h1 := h x (by simp)
      have h2 := ih (fun y hy => h y (by simp [hy]))
      show (x ++ 32 :: jn (z :: r)).length ≤ _
      simp at h2 ⊢; omega

/-- The names of the symbols of a word. -/
def nmL (ss : List ByteArray) (xs : List Int) : List ByteArray := xs.map fun x => ss.getD x.toNat ByteArray.empty
theorem nmL_len (ss : List ByteArray) (xs : List Int) : (nmL ss xs).length = xs.length := by unfold nmL; simp
theorem nmL_take (ss : List ByteArray) (xs : List Int) (j : Nat) (h : j < xs.length) : (nmL ss xs).take (j + 1) = (nmL ss xs).take j ++ [ss.getD (xs[j]?.getD 0).toNat ByteArray.empty] := by
  rw [List.take_succ_eq_append_getElem (by rw [nmL_len]; exact h)]
  congr 1
  unfold nmL
  simp [h]
/-- The bytes of a text. -/
def btL (ns : List ByteArray) : List (List UInt8) := ns.map fun x => x.data.toList

/-- In a valid alphabet every name is a name. -/
theorem vGo_zero {ss : List ByteArray} {n : Nat} : ∀ (f i : Nat), f = n - i → i ≤ n → vGo ss f i = 0 → ∀ j, i ≤ j → j < n → Nam (ss.getD j ByteArray.empty) ∧ ¬ Lib.containsS (ss.take j) (ss.getD j ByteArray.empty) = true := by
  intro f
  induction f with
  | zero => intro i hf hi _ j h1 h2; omega
  | succ f ih =>
    intro i hf hi h j h1 h2
    rw [vGo] at h
    by_cases hN : Nam (ss.getD i ByteArray.empty)
    · rw [if_neg (fun h => h hN)] at h
      by_cases hd : Lib.containsS (ss.take i) (ss.getD i ByteArray.empty) = true
      · rw [if_pos hd] at h; omega
      · rw [if_neg hd] at h
        by_cases e : j = i
        · subst e; exact ⟨hN, hd⟩
        · exact ih (i + 1) (by omega) (by omega) h j (by omega) h2
    · rw [if_pos hN] at h; omega
theorem valid_all {ss : List ByteArray} (h : valV ss = 0) : 1 ≤ ss.length ∧ ss.length ≤ 64 ∧ ∀ j, j < ss.length → Nam (ss.getD j ByteArray.empty) ∧ ¬ Lib.containsS (ss.take j) (ss.getD j ByteArray.empty) = true := by
  unfold valV at h
  by_cases h0 : ss.length = 0
  · rw [if_pos h0] at h; omega
  · rw [if_neg h0] at h
    by_cases h1 : 64 < ss.length
    · rw [if_pos h1] at h; omega
    · rw [if_neg h1] at h
      exact ⟨by omega, by omega, fun j hj => vGo_zero ss.length 0 (by omega) (Nat.zero_le _) h j (Nat.zero_le _) hj⟩

/-- What Text returns. -/
def texV (ss : List ByteArray) (xs : List Int) : ByteArray × Int :=
  if valV ss ≠ 0 then (⟨#[]⟩, valV ss) else if chk xs ss.length ≠ 0 then (⟨#[]⟩, chk xs ss.length) else (⟨(jn (btL (nmL ss xs))).toArray⟩, 0)
theorem texV_inv {ss : List ByteArray} {xs : List Int} (h : valV ss ≠ 0) : texV ss xs = (⟨#[]⟩, valV ss) := by unfold texV; rw [if_pos h]
theorem texV_bad {ss : List ByteArray} {xs : List Int} {n : Nat} (hn : ss.length = n) (h : valV ss = 0) (hc : chk xs n ≠ 0) : texV ss xs = (⟨#[]⟩, chk xs n) := by subst hn; unfold texV; rw [if_neg (fun H => H h), if_pos hc]
theorem texV_ok {ss : List ByteArray} {xs : List Int} {n : Nat} (hn : ss.length = n) (h : valV ss = 0) (hc : chk xs n = 0) : texV ss xs = (⟨(jn (btL (nmL ss xs))).toArray⟩, 0) := by subst hn; unfold texV; rw [if_neg (fun H => H h), if_neg (fun H => H hc)]

/-- The names are short. -/
theorem nm_short {ss : List ByteArray} {n : Nat} (hn : ss.length = n) (h : valV ss = 0) (q : Nat) (hq : q < n) : (ss.getD q ByteArray.empty).size ≤ 32 := by
  subst hn; exact ((valid_all h).2.2 q hq).1.2.2
theorem nmL_short {ss : List ByteArray} {n : Nat} (hn : ss.length = n) (h : valV ss = 0) {xs : List Int} (hs : Syms xs n xs.length) : ∀ x, x ∈ nmL ss xs → x.size ≤ 32 := by
  intro x hx
  unfold nmL at hx
  rw [List.mem_map] at hx
  obtain ⟨y, hy, rfl⟩ := hx
  obtain ⟨i, hi, e⟩ := List.mem_iff_getElem.1 hy
  have := hs i hi
  simp only [List.getD, List.getElem?_eq_getElem hi, Option.getD_some, e] at this
  exact nm_short hn h _ (by omega)
end Go.Proofs.YtiongejdedhcjaaDoor
