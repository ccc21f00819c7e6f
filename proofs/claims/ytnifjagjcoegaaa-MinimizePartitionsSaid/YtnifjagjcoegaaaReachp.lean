/- The search, step by step. -/
import Derived.Test.YtnifjagjcoegaaaMp
namespace Go.Proofs.Ytnifjagjcoegaaa

/-- Which states a search has seen. -/
def seenOf (n : Nat) (l : List Nat) : List Bool := (List.range n).map fun x => decide (x ∈ l)
theorem seenOf_len (n : Nat) (l : List Nat) : (seenOf n l).length = n := by simp [seenOf]
theorem seenOf_at {n : Nat} {l : List Nat} {x : Nat} (hx : x < n) : (seenOf n l).getD x false = decide (x ∈ l) := by
  unfold seenOf; simp [List.getD, hx]
theorem seenOf_set {n : Nat} {l : List Nat} {x : Nat} : (seenOf n l).set x true = seenOf n (l ++ [x]) := by
  apply List.ext_getElem
  · simp [seenOf]
  · intro m h1 h2
    have hm : m < n := by simpa [seenOf] using h2
    rw [List.getElem_set]
    by_cases e : x = m
    · subst e; simp [seenOf]
    · rw [if_neg e]; simp [seenOf, show ¬ m = x from fun h => e h.symm]
theorem seenOf_nil (n : Nat) : seenOf n [] = List.replicate n false := by
  apply List.ext_getElem
  · simp [seenOf]
  · intro m h1 h2; simp [seenOf]

/-- A list of states as numbers. -/
def zs (l : List Nat) : List Int := l.map fun x : Nat => (x : Int)
theorem zs_len (l : List Nat) : (zs l).length = l.length := by simp [zs]
theorem zs_at (l : List Nat) (j : Nat) : (zs l).getD j 0 = ((l.getD j 0 : Nat) : Int) := by
  unfold zs
  rw [List.getD_eq_getElem?_getD, List.getD_eq_getElem?_getD, List.getElem?_map]
  cases l[j]? <;> rfl
theorem zs_append (l t : List Nat) : zs (l ++ t) = zs l ++ zs t := by simp [zs]
theorem zs_one (x : Nat) : zs [x] = [(x : Int)] := rfl
theorem zs_inj {l t : List Nat} (h : zs l = zs t) : l = t := by
  induction l generalizing t with
  | nil => cases t with
    | nil => rfl
    | cons => simp [zs] at h
  | cons x l ih => cases t with
    | nil => simp [zs] at h
    | cons y t =>
      simp only [zs, List.map_cons, List.cons.injEq] at h
      rw [ih (by simpa [zs] using h.2), show x = y by omega]
theorem mem_zs {l : List Nat} {x : Nat} : ((x : Int) ∈ zs l) ↔ x ∈ l := by
  simp only [zs, List.mem_map]
  exact ⟨fun ⟨a, h, e⟩ => by rw [show x = a by omega]; exact h, fun h => ⟨x, h, rfl⟩⟩

theorem addR_in {nx : List (List Int)} {s a : Nat} {l : List Nat} (h : nN nx s a ∈ addR nx s l a) : addR nx s l (a + 1) = addR nx s l a := by
  show addN _ _ = _; unfold addN; rw [if_pos h]
theorem addR_out {nx : List (List Int)} {s a : Nat} {l : List Nat} (h : ¬ nN nx s a ∈ addR nx s l a) : addR nx s l (a + 1) = addR nx s l a ++ [nN nx s a] := by
  show addN _ _ = _; unfold addN; rw [if_neg h]
theorem Stt.one {n s : Nat} (h : s < n) : Stt n [s] := ⟨by simp, fun x hx => by simp at hx; omega⟩
theorem addR_at {nx : List (List Int)} {s : Nat} {l : List Nat} {j : Nat} (h : j < l.length) (a : Nat) : (addR nx s l a).getD j 0 = l.getD j 0 := by
  obtain ⟨t, ht⟩ := addR_pre nx s l a
  rw [ht]; exact getD_pre h
theorem addR_len {nx : List (List Int)} {s : Nat} {l : List Nat} (a : Nat) : l.length ≤ (addR nx s l a).length := by
  obtain ⟨t, ht⟩ := addR_pre nx s l a
  rw [ht, List.length_append]; omega
end Go.Proofs.Ytnifjagjcoegaaa
