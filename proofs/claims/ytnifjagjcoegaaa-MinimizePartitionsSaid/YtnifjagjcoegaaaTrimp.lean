/- The trimmed machine. -/
import Derived.Test.YtnifjagjcoegaaaReachp
namespace Go.Proofs.Ytnifjagjcoegaaa

theorem addR_has {nx : List (List Int)} {s : Nat} {l : List Nat} : ∀ {b : Nat}, ∀ a, a < b → nN nx s a ∈ addR nx s l b
  | 0, a, h => absurd h (by omega)
  | b + 1, a, h => by
    by_cases e : a = b
    · subst e; exact mem_addN _ _
    · exact addN_mem (addR_has a (by omega))
theorem addR_mem {nx : List (List Int)} {s : Nat} {l : List Nat} {x : Nat} (h : x ∈ l) (a : Nat) : x ∈ addR nx s l a := by obtain ⟨t, ht⟩ := addR_pre nx s l a; rw [ht]; simp [h]

theorem bfs_closed {i st n : Nat} {nx ot : List (List Int)} (hM : Mok i st n nx ot) : ∀ (k : Nat) (l : List Nat) (j : Nat), Stt n l → n ≤ k + j → (∀ m, m < j → m < l.length → ∀ a, a < i → nN nx (l.getD m 0) a ∈ l) →
    Stt n (bfs nx i k l j) ∧ ∀ m, m < (bfs nx i k l j).length → ∀ a, a < i → nN nx ((bfs nx i k l j).getD m 0) a ∈ bfs nx i k l j
  | 0, l, j, hS, hk, h => ⟨hS, fun m hm a ha => h m (by have := hS.len; have hm : m < l.length := hm; omega) hm a ha⟩
  | k + 1, l, j, hS, hk, h => by
    by_cases hj : j < l.length
    · have e : bfs nx i (k + 1) l j = bfs nx i k (addR nx (l.getD j 0) l i) (j + 1) := by
        show (if j < l.length then _ else _) = _; rw [if_pos hj]
      rw [e]
      refine bfs_closed hM k _ _ (addR_stt hM hS (hS.2 _ (getD_mem hj)) i (Nat.le_refl _)) (by omega) fun m hm hml a ha => ?_
      by_cases e2 : m = j
      · subst e2; rw [addR_at hj]; exact addR_has a ha
      · rw [addR_at (by omega)]; exact addR_mem (h m (by omega) (by omega) a ha) i
    · rw [bfs_end nx i (k + 1) hj]
      exact ⟨hS, fun m hm a ha => h m (by omega) hm a ha⟩

theorem Mok.rch_stt {i st n : Nat} {nx ot : List (List Int)} (hM : Mok i st n nx ot) : Stt n (rch nx i st) :=
  (bfs_closed hM _ _ _ (Stt.one hM.st) (by rw [hM.nxl]; omega) (fun m hm => absurd hm (by omega))).1
theorem Mok.rch_in {i st n : Nat} {nx ot : List (List Int)} (hM : Mok i st n nx ot) {s a : Nat} (hs : s ∈ rch nx i st) (ha : a < i) : nN nx s a ∈ rch nx i st := by
  obtain ⟨m, hm, rfl⟩ := List.getElem_of_mem hs
  have := (bfs_closed hM nx.length [st] 0 (Stt.one hM.st) (by rw [hM.nxl]; omega) (fun m hm => absurd hm (by omega))).2 m hm a ha
  rw [show (bfs nx i nx.length [st] 0).getD m 0 = (rch nx i st)[m] by rw [List.getD_eq_getElem?_getD]; show (rch nx i st)[m]?.getD 0 = _; rw [List.getElem?_eq_getElem hm]; rfl] at this
  exact this
theorem rch_pre (nx : List (List Int)) (i st : Nat) : ∃ t, rch nx i st = st :: t := by
  obtain ⟨t, ht⟩ := bfs_pre nx i nx.length [st] 0
  exact ⟨t, ht⟩

/-- The place of a state. -/
def ixN (R : List Nat) (x : Nat) : Nat := R.idxOf x
theorem ixN_lt {R : List Nat} {x : Nat} (h : x ∈ R) : ixN R x < R.length := List.idxOf_lt_length_of_mem h
theorem ixN_at {R : List Nat} {x : Nat} (h : x ∈ R) : R.getD (ixN R x) 0 = x := by
  rw [List.getD_eq_getElem?_getD, List.getElem?_eq_getElem (ixN_lt h)]
  exact List.getElem_idxOf (ixN_lt h)
theorem ixN_of {R : List Nat} (hR : R.Nodup) {j : Nat} (hj : j < R.length) : ixN R (R.getD j 0) = j := by
  have hm : R.getD j 0 ∈ R := getD_mem hj
  have h1 := ixN_at hm
  have h2 := ixN_lt hm
  rw [List.getD_eq_getElem?_getD, List.getD_eq_getElem?_getD, List.getElem?_eq_getElem hj, List.getElem?_eq_getElem (by rw [List.getD_eq_getElem?_getD, List.getElem?_eq_getElem hj] at h2; exact h2)] at h1
  rw [List.getD_eq_getElem?_getD, List.getElem?_eq_getElem hj] at h2 ⊢
  exact (List.getElem_inj hR).1 h1

/-- The rows of the trimmed machine. -/
def trR (nx : List (List Int)) (i : Nat) (R : List Nat) (s : Nat) : List Int := (List.range i).map fun a => ((ixN R (nN nx s a) : Nat) : Int)
def trN (nx : List (List Int)) (i : Nat) (R : List Nat) : List (List Int) := R.map (trR nx i R)
def trO (ot : List (List Int)) (R : List Nat) : List (List Int) := R.map fun s => ot.getD s []
theorem trR_len (nx : List (List Int)) (i : Nat) (R : List Nat) (s : Nat) : (trR nx i R s).length = i := by simp [trR]
theorem trR_at {nx : List (List Int)} {i : Nat} {R : List Nat} {s a : Nat} (ha : a < i) : (trR nx i R s).getD a 0 = ((ixN R (nN nx s a) : Nat) : Int) := by
  unfold trR; simp [List.getD, ha]
/-- A row while it is renumbered. -/
def midR (nx : List (List Int)) (i : Nat) (R : List Nat) (s a : Nat) : List Int := (trR nx i R s).take a ++ (nx.getD s []).drop a
theorem midR_zero (nx : List (List Int)) (i : Nat) (R : List Nat) (s : Nat) : midR nx i R s 0 = nx.getD s [] := by simp [midR]
theorem midR_all {nx : List (List Int)} {i : Nat} {R : List Nat} {s : Nat} (h : (nx.getD s []).length = i) : midR nx i R s i = trR nx i R s := by
  unfold midR; rw [List.take_of_length_le (by rw [trR_len]; exact Nat.le_refl _), List.drop_eq_nil_of_le (by omega), List.append_nil]
theorem midR_len {nx : List (List Int)} {i : Nat} {R : List Nat} {s a : Nat} (h : (nx.getD s []).length = i) (ha : a ≤ i) : (midR nx i R s a).length = i := by
  unfold midR; rw [List.length_append, List.length_take, List.length_drop, trR_len, h]; omega
theorem midR_get {nx : List (List Int)} {i : Nat} {R : List Nat} {s a m : Nat} (ha : a ≤ i) : (midR nx i R s a)[m]? = if m < a then (trR nx i R s)[m]? else (nx.getD s [])[m]? := by
  unfold midR
  have hl : ((trR nx i R s).take a).length = a := by rw [List.length_take, trR_len]; omega
  by_cases h : m < a
  · rw [if_pos h, List.getElem?_append_left (by omega), List.getElem?_take, if_pos h]
  · rw [if_neg h, List.getElem?_append_right (by omega), List.getElem?_drop, hl, show a + (m - a) = m by omega]
theorem midR_at {nx : List (List Int)} {i : Nat} {R : List Nat} {s a : Nat} (ha : a < i) : (midR nx i R s a).getD a 0 = (nx.getD s []).getD a 0 := by
  rw [List.getD_eq_getElem?_getD, midR_get (by omega), if_neg (by omega), ← List.getD_eq_getElem?_getD]
theorem midR_set {nx : List (List Int)} {i : Nat} {R : List Nat} {s a : Nat} (h : (nx.getD s []).length = i) (ha : a < i) : (midR nx i R s a).set a ((ixN R (nN nx s a) : Nat) : Int) = midR nx i R s (a + 1) := by
  apply List.ext_getElem?
  intro m
  have ht : (trR nx i R s)[a]? = some ((ixN R (nN nx s a) : Nat) : Int) := by
    have := trR_at (nx := nx) (R := R) (s := s) ha
    rw [List.getD_eq_getElem?_getD, List.getElem?_eq_getElem (by rw [trR_len]; exact ha)] at this
    rw [List.getElem?_eq_getElem (by rw [trR_len]; exact ha)]
    exact congrArg some this
  rw [List.getElem?_set, midR_get (by omega), midR_get (by omega), midR_len h (by omega)]
  by_cases e : a = m
  · subst e
    rw [if_pos rfl, if_pos ha, if_pos (by omega), ht]
  · rw [if_neg e]
    by_cases e2 : m < a
    · rw [if_pos e2, if_pos (by omega)]
    · rw [if_neg e2, if_neg (by omega)]
theorem map_take_succ {α β : Type} (f : α → β) (l : List α) (d : α) {k : Nat} (h : k < l.length) : (l.take (k + 1)).map f = (l.take k).map f ++ [f (l.getD k d)] := by
  rw [List.take_succ_eq_append_getElem h, List.map_append, List.getD_eq_getElem?_getD, List.getElem?_eq_getElem h]; rfl
end Go.Proofs.Ytnifjagjcoegaaa
