/- Plain functions on lists of numbers: the longest common beginning, both orders. No program. -/
namespace Go.Proofs.Ytnifjagjcoegaaa

/-- The length of the longest list that begins both. -/
def cmn : List Int → List Int → Nat
  | a :: as, b :: bs => if a = b then cmn as bs + 1 else 0
  | _, _ => 0

theorem cmn_le_left (xs ys : List Int) : cmn xs ys ≤ xs.length := by
  induction xs generalizing ys with
  | nil => simp [cmn]
  | cons a as ih =>
    cases ys with
    | nil => simp [cmn]
    | cons b bs =>
      rw [cmn]
      split
      · have := ih bs; simp; omega
      · omega

theorem cmn_comm (xs ys : List Int) : cmn xs ys = cmn ys xs := by
  induction xs generalizing ys with
  | nil => cases ys <;> simp [cmn]
  | cons a as ih =>
    cases ys with
    | nil => simp [cmn]
    | cons b bs =>
      rw [cmn, cmn, ih bs]
      by_cases h : a = b
      · rw [if_pos h, if_pos h.symm]
      · rw [if_neg h, if_neg fun e => h e.symm]

theorem cmn_le_right (xs ys : List Int) : cmn xs ys ≤ ys.length := by rw [cmn_comm]; exact cmn_le_left ys xs

/-- The first j numbers of both are the same. -/
def Agree (xs ys : List Int) (j : Nat) : Prop := ∀ m, m < j → xs.getD m 0 = ys.getD m 0

theorem Agree.zero (xs ys : List Int) : Agree xs ys 0 := fun m hm => absurd hm (by omega)
theorem Agree.succ {xs ys : List Int} {j : Nat} (h : Agree xs ys j) (e : xs.getD j 0 = ys.getD j 0) : Agree xs ys (j + 1) := fun m hm => by
  by_cases h' : m = j
  · subst h'; exact e
  · exact h m (by omega)

theorem cmn_agree (xs ys : List Int) : Agree xs ys (cmn xs ys) := by
  induction xs generalizing ys with
  | nil => simp [cmn, Agree.zero]
  | cons a as ih =>
    cases ys with
    | nil => simp [cmn, Agree.zero]
    | cons b bs =>
      rw [cmn]
      split
      · rename_i h
        intro m hm
        cases m with
        | zero => simpa using h
        | succ m => simpa using ih bs m (by omega)
      · exact Agree.zero _ _

theorem cmn_part (xs ys : List Int) (h1 : cmn xs ys < xs.length) (h2 : cmn xs ys < ys.length) : xs.getD (cmn xs ys) 0 ≠ ys.getD (cmn xs ys) 0 := by
  induction xs generalizing ys with
  | nil => simp at h1
  | cons a as ih =>
    cases ys with
    | nil => simp at h2
    | cons b bs =>
      rw [cmn] at h1 h2 ⊢
      split
      · rename_i h
        rw [if_pos h] at h1 h2
        simpa using ih bs (by simpa using h1) (by simpa using h2)
      · rename_i h; simpa using h

theorem cmn_eq {xs ys : List Int} {j : Nat} (h1 : j ≤ xs.length) (h2 : j ≤ ys.length) (ha : Agree xs ys j) (he : j = xs.length ∨ j = ys.length ∨ xs.getD j 0 ≠ ys.getD j 0) : cmn xs ys = j := by
  have l1 := cmn_le_left xs ys
  have l2 := cmn_le_right xs ys
  rcases Nat.lt_trichotomy (cmn xs ys) j with h | h | h
  · exact absurd (ha _ h) (cmn_part xs ys (by omega) (by omega))
  · exact h
  · rcases he with e | e | e
    · omega
    · omega
    · exact absurd (cmn_agree xs ys j h) e

/-- Dictionary order. -/
def lexi (xs ys : List Int) : Int :=
  if cmn xs ys = xs.length ∧ cmn xs ys = ys.length then 0
  else if cmn xs ys = xs.length ∨ (cmn xs ys < ys.length ∧ xs.getD (cmn xs ys) 0 < ys.getD (cmn xs ys) 0) then -1 else 1

/-- The order of two numbers. -/
def cmpI (a b : Int) : Int := if a < b then -1 else if b < a then 1 else 0

/-- Shortlex order. -/
def shlex (xs ys : List Int) : Int :=
  if xs.length < ys.length then -1 else if ys.length < xs.length then 1 else lexi xs ys

theorem lexi_of {xs ys : List Int} {j : Nat} (h1 : j < xs.length) (h2 : j < ys.length) (ha : Agree xs ys j) (he : xs.getD j 0 ≠ ys.getD j 0) : lexi xs ys = cmpI (xs.getD j 0) (ys.getD j 0) := by
  have e := cmn_eq (by omega) (by omega) ha (.inr (.inr he))
  unfold lexi cmpI
  rw [e, if_neg (by omega)]
  by_cases h : xs.getD j 0 < ys.getD j 0
  · rw [if_pos (.inr ⟨h2, h⟩), if_pos h]
  · rw [if_neg (by omega), if_neg h, if_pos (by omega)]

theorem lexi_long {xs ys : List Int} (h : ys.length < xs.length) (ha : Agree xs ys ys.length) : lexi xs ys = 1 := by
  have e := cmn_eq (j := ys.length) (by omega) (by omega) ha (.inr (.inl rfl))
  unfold lexi
  rw [e, if_neg (by omega), if_neg (by omega)]

theorem lexi_short {xs ys : List Int} (h : xs.length < ys.length) (ha : Agree xs ys xs.length) : lexi xs ys = -1 := by
  have e := cmn_eq (j := xs.length) (by omega) (by omega) ha (.inl rfl)
  unfold lexi
  rw [e, if_neg (by omega), if_pos (.inl rfl)]

theorem lexi_same {xs ys : List Int} (h : xs.length = ys.length) (ha : Agree xs ys xs.length) : lexi xs ys = 0 := by
  have e := cmn_eq (j := xs.length) (by omega) (by omega) ha (.inl rfl)
  unfold lexi
  rw [e, if_pos ⟨rfl, h⟩]

theorem cmn_full {xs ys : List Int} (h : xs.length = ys.length) : cmn xs ys = xs.length ↔ xs = ys := by
  constructor
  · intro e
    have ha := cmn_agree xs ys
    rw [e] at ha
    apply List.ext_getElem h
    intro m h1 h2
    have := ha m h1
    simpa [List.getD, h1, h2] using this
  · rintro rfl
    exact cmn_eq (Nat.le_refl _) (Nat.le_refl _) (fun _ _ => rfl) (.inl rfl)
end Go.Proofs.Ytnifjagjcoegaaa
