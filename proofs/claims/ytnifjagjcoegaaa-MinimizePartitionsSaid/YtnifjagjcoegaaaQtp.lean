/- The machine of classes: which rows it has. -/
import Derived.Test.YtnifjagjcoegaaaPtp
import Derived.Test.YtnifjagjcoegaaaTrimp
namespace Go.Proofs.Ytnifjagjcoegaaa

/-- The least states of the classes among the first s. -/
def reps (f : Nat → Nat) : Nat → List Nat
  | 0 => []
  | s + 1 => if f s ∈ grp f s then reps f s else reps f s ++ [s]
theorem reps_in {f : Nat → Nat} {s : Nat} (h : f s ∈ grp f s) : reps f (s + 1) = reps f s := by
  show (if _ then _ else _) = _; rw [if_pos h]
theorem reps_out {f : Nat → Nat} {s : Nat} (h : ¬ f s ∈ grp f s) : reps f (s + 1) = reps f s ++ [s] := by
  show (if _ then _ else _) = _; rw [if_neg h]
theorem reps_map (f : Nat → Nat) : ∀ s, (reps f s).map f = grp f s
  | 0 => rfl
  | s + 1 => by
    by_cases h : f s ∈ grp f s
    · rw [reps_in h, show grp f (s + 1) = grp f s from addK_in h]; exact reps_map f s
    · rw [reps_out h, show grp f (s + 1) = grp f s ++ [f s] from addK_out h, List.map_append, reps_map f s]; rfl
theorem reps_len (f : Nat → Nat) (s : Nat) : (reps f s).length = (grp f s).length := by rw [← reps_map, List.length_map]
theorem reps_lt (f : Nat → Nat) : ∀ (n : Nat) {r : Nat}, r ∈ reps f n → r < n
  | 0, r, h => by simp [reps] at h
  | n + 1, r, h => by
    by_cases e : f n ∈ grp f n
    · rw [reps_in e] at h; have := reps_lt f n h; omega
    · rw [reps_out e] at h
      rcases List.mem_append.1 h with h | h
      · have := reps_lt f n h; omega
      · simp at h; omega
/-- A class that is not there yet has the next number. -/
theorem nmb_skip (f : Nat → Nat) (s : Nat) : nmb f s < (reps f s).length ↔ f s ∈ grp f s := by
  rw [reps_len]
  constructor
  · intro h
    exact Classical.byContradiction fun H => by rw [nmb_new f H] at h; omega
  · intro h
    rw [nmb_old f h]
    exact List.idxOf_lt_length_of_mem h
theorem reps_at (f : Nat → Nat) {n s : Nat} (h : s < n) : f ((reps f n).getD (nmb f s) 0) = f s := by
  have h1 := nmb_lt f h
  rw [← reps_len] at h1
  have h2 : ((reps f n).map f).getD (nmb f s) (f 0) = f s := by
    rw [reps_map, nmb_in f h]; exact getD_idxOf (grp_has f h)
  rw [List.getD_eq_getElem?_getD, List.getElem?_map, List.getElem?_eq_getElem h1] at h2
  rw [List.getD_eq_getElem?_getD, List.getElem?_eq_getElem h1]
  exact h2
theorem nmb_reps (f : Nat → Nat) {n j : Nat} (h : j < (reps f n).length) : nmb f ((reps f n).getD j 0) = j := by
  have hm : (reps f n).getD j 0 ∈ reps f n := getD_mem h
  rw [nmb_in f (reps_lt f n hm)]
  have hj : j < (grp f n).length := by rw [← reps_len]; exact h
  have h2 : (grp f n)[j] = f ((reps f n).getD j 0) := by
    have h3 : (grp f n)[j]? = some (f ((reps f n).getD j 0)) := by
      rw [← reps_map, List.getElem?_map, List.getD_eq_getElem?_getD, List.getElem?_eq_getElem h]; rfl
    rw [List.getElem?_eq_getElem hj] at h3
    exact Option.some.inj h3
  rw [← h2]
  have h4 := List.getElem_idxOf (x := (grp f n)[j]) (xs := grp f n) (List.idxOf_lt_length_of_mem (List.getElem_mem hj))
  exact (List.getElem_inj (grp_nodup f n)).1 h4

/-- The rows of the machine of classes. -/
def qR (nx : List (List Int)) (i : Nat) (f : Nat → Nat) (s : Nat) : List Int := (List.range i).map fun a => ((nmb f (nN nx s a) : Nat) : Int)
theorem qR_len (nx : List (List Int)) (i : Nat) (f : Nat → Nat) (s : Nat) : (qR nx i f s).length = i := by simp [qR]
theorem qR_at {nx : List (List Int)} {i : Nat} {f : Nat → Nat} {s a : Nat} (ha : a < i) : (qR nx i f s).getD a 0 = ((nmb f (nN nx s a) : Nat) : Int) := by
  unfold qR; simp [List.getD, ha]
/-- A row while it is renumbered. -/
def qmid (nx : List (List Int)) (i : Nat) (f : Nat → Nat) (s a : Nat) : List Int := (qR nx i f s).take a ++ (nx.getD s []).drop a
theorem qmid_zero (nx : List (List Int)) (i : Nat) (f : Nat → Nat) (s : Nat) : qmid nx i f s 0 = nx.getD s [] := by simp [qmid]
theorem qmid_all {nx : List (List Int)} {i : Nat} {f : Nat → Nat} {s : Nat} (h : (nx.getD s []).length = i) : qmid nx i f s i = qR nx i f s := by
  unfold qmid; rw [List.take_of_length_le (by rw [qR_len]; exact Nat.le_refl _), List.drop_eq_nil_of_le (by omega), List.append_nil]
theorem qmid_len {nx : List (List Int)} {i : Nat} {f : Nat → Nat} {s a : Nat} (h : (nx.getD s []).length = i) (ha : a ≤ i) : (qmid nx i f s a).length = i := by
  unfold qmid; rw [List.length_append, List.length_take, List.length_drop, qR_len, h]; omega
theorem qmid_get {nx : List (List Int)} {i : Nat} {f : Nat → Nat} {s a m : Nat} (ha : a ≤ i) : (qmid nx i f s a)[m]? = if m < a then (qR nx i f s)[m]? else (nx.getD s [])[m]? := by
  unfold qmid
  have hl : ((qR nx i f s).take a).length = a := by rw [List.length_take, qR_len]; omega
  by_cases h : m < a
  · rw [if_pos h, List.getElem?_append_left (by omega), List.getElem?_take, if_pos h]
  · rw [if_neg h, List.getElem?_append_right (by omega), List.getElem?_drop, hl, show a + (m - a) = m by omega]
theorem qmid_at {nx : List (List Int)} {i : Nat} {f : Nat → Nat} {s a : Nat} (ha : a < i) : (qmid nx i f s a).getD a 0 = (nx.getD s []).getD a 0 := by
  rw [List.getD_eq_getElem?_getD, qmid_get (by omega), if_neg (by omega), ← List.getD_eq_getElem?_getD]
theorem qmid_set {nx : List (List Int)} {i : Nat} {f : Nat → Nat} {s a : Nat} (h : (nx.getD s []).length = i) (ha : a < i) : (qmid nx i f s a).set a ((nmb f (nN nx s a) : Nat) : Int) = qmid nx i f s (a + 1) := by
  apply List.ext_getElem?
  intro m
  have ht : (qR nx i f s)[a]? = some ((nmb f (nN nx s a) : Nat) : Int) := by
    have := qR_at (nx := nx) (f := f) (s := s) ha
    rw [List.getD_eq_getElem?_getD, List.getElem?_eq_getElem (by rw [qR_len]; exact ha)] at this
    rw [List.getElem?_eq_getElem (by rw [qR_len]; exact ha)]
    exact congrArg some this
  rw [List.getElem?_set, qmid_get (by omega), qmid_get (by omega), qmid_len h (by omega)]
  by_cases e : a = m
  · subst e
    rw [if_pos rfl, if_pos ha, if_pos (by omega), ht]
  · rw [if_neg e]
    by_cases e2 : m < a
    · rw [if_pos e2, if_pos (by omega)]
    · rw [if_neg e2, if_neg (by omega)]
/-- The tables of the machine of classes. -/
def qN (nx : List (List Int)) (i : Nat) (f : Nat → Nat) (s : Nat) : List (List Int) := (reps f s).map (qR nx i f)
def qO (ot : List (List Int)) (f : Nat → Nat) (s : Nat) : List (List Int) := (reps f s).map fun s => ot.getD s []
theorem qN_in {nx : List (List Int)} {i : Nat} {f : Nat → Nat} {s : Nat} (h : f s ∈ grp f s) : qN nx i f (s + 1) = qN nx i f s := by unfold qN; rw [reps_in h]
theorem qO_in {ot : List (List Int)} {f : Nat → Nat} {s : Nat} (h : f s ∈ grp f s) : qO ot f (s + 1) = qO ot f s := by unfold qO; rw [reps_in h]
theorem qN_out {nx : List (List Int)} {i : Nat} {f : Nat → Nat} {s : Nat} (h : ¬ f s ∈ grp f s) : qN nx i f (s + 1) = qN nx i f s ++ [qR nx i f s] := by unfold qN; rw [reps_out h, List.map_append]; rfl
theorem qO_out {ot : List (List Int)} {f : Nat → Nat} {s : Nat} (h : ¬ f s ∈ grp f s) : qO ot f (s + 1) = qO ot f s ++ [ot.getD s []] := by unfold qO; rw [reps_out h, List.map_append]; rfl
theorem qN_len (nx : List (List Int)) (i : Nat) (f : Nat → Nat) (s : Nat) : (qN nx i f s).length = (reps f s).length := by simp [qN]
theorem qO_len (ot : List (List Int)) (f : Nat → Nat) (s : Nat) : (qO ot f s).length = (reps f s).length := by simp [qO]
theorem reps_le (f : Nat → Nat) (s : Nat) : (reps f s).length ≤ s := by rw [reps_len]; exact grp_len f s
end Go.Proofs.Ytnifjagjcoegaaa
