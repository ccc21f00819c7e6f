/- Lemmas of the proofs of this seat, of the parts Qtp, Mnp, Trimq, Canp, Dstl, Ghq, Eqdd, Rwsm, Sqm, Revi, Accp, Fstw, Eqdp, Eqsp, Numk. Conditions: none. -/
import Derived.Test.YtogcecfeofbbnaaHc
import Derived.Test.YtogcecfeofbbnaaHb
import Derived.Test.YtogcecfeofbbnaaHa
import Derived.RegionTactic
import Derived.ChangeAlike
import Derived.Laws.StructEq
import Derived.BigRegion
import Derived.Deep.RegionHeld3
import Derived.Maps.OwnSet
import Derived.Maps.Views
import Derived.DeepKeys4
section
/- The machine of classes: which rows it has. -/
namespace Go.Proofs.Ytogcecfeofbbnaa

/-- The least states of the classes among the first s. -/
def reps (f : Nat → Nat) : Nat → List Nat
  | 0 => []
  | s + 1 => if f s ∈ grp f s then reps f s else reps f s ++ [s]
theorem reps_in {f : Nat → Nat} {s : Nat} (h : f s ∈ grp f s) : reps f (s + 1) = reps f s := by
  show (if _ then _ else _) = _; rw [if_pos h]
theorem reps_out {f : Nat → Nat} {s : Nat} (h : ¬ f s ∈ grp f s) : reps f (s + 1) = reps f s ++ [s] := by
  show (if _ then _ else _) = _; rw [if_neg h]
theorem reps_map (f : Nat → Nat) : ∀ s, (reps f s).map f = grp f s
  | 0 => rfl
  | s + 1 => by
    by_cases h : f s ∈ grp f s
    · rw [reps_in h, show grp f (s + 1) = grp f s from addK_in h]; exact reps_map f s
    · rw [reps_out h, show grp f (s + 1) = grp f s ++ [f s] from addK_out h, List.map_append, reps_map f s]; rfl
theorem reps_len (f : Nat → Nat) (s : Nat) : (reps f s).length = (grp f s).length := by rw [← reps_map, List.length_map]
theorem reps_lt (f : Nat → Nat) : ∀ (n : Nat) {r : Nat}, r ∈ reps f n → r < n
  | 0, r, h => by simp [reps] at h
  | n + 1, r, h => by
    by_cases e : f n ∈ grp f n
    · rw [reps_in e] at h; have := reps_lt f n h; omega
    · rw [reps_out e] at h
      rcases List.mem_append.1 h with h | h
      · have := reps_lt f n h; omega
      · simp at h; omega
/-- A class that is not there yet has the next number. -/
theorem nmb_skip (f : Nat → Nat) (s : Nat) : nmb f s < (reps f s).length ↔ f s ∈ grp f s := by
  rw [reps_len]
  constructor
  · intro h
    exact Classical.byContradiction fun H => by rw [nmb_new f H] at h; omega
  · intro h
    rw [nmb_old f h]
    exact List.idxOf_lt_length_of_mem h
theorem reps_at (f : Nat → Nat) {n s : Nat} (h : s < n) : f ((reps f n).getD (nmb f s) 0) = f s := by
  have h1 := nmb_lt f h
  rw [← reps_len] at h1
  have h2 : ((reps f n).map f).getD (nmb f s) (f 0) = f s := by
    rw [reps_map, nmb_in f h]; exact getD_idxOf (grp_has f h)
  rw [List.getD_eq_getElem?_getD, List.getElem?_map, List.getElem?_eq_getElem h1] at h2
  rw [List.getD_eq_getElem?_getD, List.getElem?_eq_getElem h1]
  exact h2
theorem nmb_reps (f : Nat → Nat) {n j : Nat} (h : j < (reps f n).length) : nmb f ((reps f n).getD j 0) = j := by
  have hm : (reps f n).getD j 0 ∈ reps f n := getD_mem h
  rw [nmb_in f (reps_lt f n hm)]
  have hj : j < (grp f n).length := by rw [← reps_len]; exact h
  have h2 : (grp f n)[j] = f ((reps f n).getD j 0) := by
    have h3 : (grp f n)[j]? = some (f ((reps f n).getD j 0)) := by
      rw [← reps_map, List.getElem?_map, List.getD_eq_getElem?_getD, List.getElem?_eq_getElem h]; rfl
    rw [List.getElem?_eq_getElem hj] at h3
    exact Option.some.inj h3
  rw [← h2]
  have h4 := List.getElem_idxOf (x := (grp f n)[j]) (xs := grp f n) (List.idxOf_lt_length_of_mem (List.getElem_mem hj))
  exact (List.getElem_inj (grp_nodup f n)).1 h4

/-- The rows of the machine of classes. -/
def qR (nx : List (List Int)) (i : Nat) (f : Nat → Nat) (s : Nat) : List Int := (List.range i).map fun a => ((nmb f (nN nx s a) : Nat) : Int)
theorem qR_len (nx : List (List Int)) (i : Nat) (f : Nat → Nat) (s : Nat) : (qR nx i f s).length = i := by simp [qR]
theorem qR_at {nx : List (List Int)} {i : Nat} {f : Nat → Nat} {s a : Nat} (ha : a < i) : (qR nx i f s).getD a 0 = ((nmb f (nN nx s a) : Nat) : Int) := by
  unfold qR; simp [List.getD, ha]
/-- A row while it is renumbered. -/
def qmid (nx : List (List Int)) (i : Nat) (f : Nat → Nat) (s a : Nat) : List Int := (qR nx i f s).take a ++ (nx.getD s []).drop a
theorem qmid_zero (nx : List (List Int)) (i : Nat) (f : Nat → Nat) (s : Nat) : qmid nx i f s 0 = nx.getD s [] := by simp [qmid]
theorem qmid_all {nx : List (List Int)} {i : Nat} {f : Nat → Nat} {s : Nat} (h : (nx.getD s []).length = i) : qmid nx i f s i = qR nx i f s := by
  unfold qmid; rw [List.take_of_length_le (by rw [qR_len]; exact Nat.le_refl _), List.drop_eq_nil_of_le (by omega), List.append_nil]
theorem qmid_len {nx : List (List Int)} {i : Nat} {f : Nat → Nat} {s a : Nat} (h : (nx.getD s []).length = i) (ha : a ≤ i) : (qmid nx i f s a).length = i := by
  unfold qmid; rw [List.length_append, List.length_take, List.length_drop, qR_len, h]; omega
theorem qmid_get {nx : List (List Int)} {i : Nat} {f : Nat → Nat} {s a m : Nat} (ha : a ≤ i) : (qmid nx i f s a)[m]? = if m < a then (qR nx i f s)[m]? else (nx.getD s [])[m]? := by
  unfold qmid
  have hl : ((qR nx i f s).take a).length = a := by rw [List.length_take, qR_len]; omega
  by_cases h : m < a
  · rw [if_pos h, List.getElem?_append_left (by omega), List.getElem?_take, if_pos h]
  · rw [if_neg h, List.getElem?_append_right (by omega), List.getElem?_drop, hl, show a + (m - a) = m by omega]
theorem qmid_at {nx : List (List Int)} {i : Nat} {f : Nat → Nat} {s a : Nat} (ha : a < i) : (qmid nx i f s a).getD a 0 = (nx.getD s []).getD a 0 := by
  rw [List.getD_eq_getElem?_getD, qmid_get (by omega), if_neg (by omega), ← List.getD_eq_getElem?_getD]
theorem qmid_set {nx : List (List Int)} {i : Nat} {f : Nat → Nat} {s a : Nat} (h : (nx.getD s []).length = i) (ha : a < i) : (qmid nx i f s a).set a ((nmb f (nN nx s a) : Nat) : Int) = qmid nx i f s (a + 1) := by
  apply List.ext_getElem?
  intro m
  have ht : (qR nx i f s)[a]? = some ((nmb f (nN nx s a) : Nat) : Int) := by
    have := qR_at (nx := nx) (f := f) (s := s) ha
    rw [List.getD_eq_getElem?_getD, List.getElem?_eq_getElem (by rw [qR_len]; exact ha)] at this
    rw [List.getElem?_eq_getElem (by rw [qR_len]; exact ha)]
    exact congrArg some this
  rw [List.getElem?_set, qmid_get (by omega), qmid_get (by omega), qmid_len h (by omega)]
  by_cases e : a = m
  · subst e
    rw [if_pos rfl, if_pos ha, if_pos (by omega), ht]
  · rw [if_neg e]
    by_cases e2 : m < a
    · rw [if_pos e2, if_pos (by omega)]
    · rw [if_neg e2, if_neg (by omega)]
/-- The tables of the machine of classes. -/
def qN (nx : List (List Int)) (i : Nat) (f : Nat → Nat) (s : Nat) : List (List Int) := (reps f s).map (qR nx i f)
def qO (ot : List (List Int)) (f : Nat → Nat) (s : Nat) : List (List Int) := (reps f s).map fun s => ot.getD s []
theorem qN_in {nx : List (List Int)} {i : Nat} {f : Nat → Nat} {s : Nat} (h : f s ∈ grp f s) : qN nx i f (s + 1) = qN nx i f s := by unfold qN; rw [reps_in h]
theorem qO_in {ot : List (List Int)} {f : Nat → Nat} {s : Nat} (h : f s ∈ grp f s) : qO ot f (s + 1) = qO ot f s := by unfold qO; rw [reps_in h]
theorem qN_out {nx : List (List Int)} {i : Nat} {f : Nat → Nat} {s : Nat} (h : ¬ f s ∈ grp f s) : qN nx i f (s + 1) = qN nx i f s ++ [qR nx i f s] := by unfold qN; rw [reps_out h, List.map_append]; rfl
theorem qO_out {ot : List (List Int)} {f : Nat → Nat} {s : Nat} (h : ¬ f s ∈ grp f s) : qO ot f (s + 1) = qO ot f s ++ [ot.getD s []] := by unfold qO; rw [reps_out h, List.map_append]; rfl
theorem qN_len (nx : List (List Int)) (i : Nat) (f : Nat → Nat) (s : Nat) : (qN nx i f s).length = (reps f s).length := by simp [qN]
theorem qO_len (ot : List (List Int)) (f : Nat → Nat) (s : Nat) : (qO ot f s).length = (reps f s).length := by simp [qO]
theorem reps_le (f : Nat → Nat) (s : Nat) : (reps f s).length ≤ s := by rw [reps_len]; exact grp_len f s
end Go.Proofs.Ytogcecfeofbbnaa
end

section
/- The minimal machine. -/
namespace Go.Proofs.Ytogcecfeofbbnaa

theorem getD_map {α β : Type} (g : α → β) (l : List α) (d : α) (e : β) {j : Nat} (h : j < l.length) : (l.map g).getD j e = g (l.getD j d) := by
  rw [List.getD_eq_getElem?_getD, List.getElem?_map, List.getD_eq_getElem?_getD, List.getElem?_eq_getElem h]; rfl
theorem qN_row (nx : List (List Int)) (i : Nat) (f : Nat → Nat) {n j : Nat} (h : j < (reps f n).length) : (qN nx i f n).getD j [] = qR nx i f ((reps f n).getD j 0) := getD_map _ _ 0 _ h
theorem qO_row (ot : List (List Int)) (f : Nat → Nat) {n j : Nat} (h : j < (reps f n).length) : (qO ot f n).getD j [] = ot.getD ((reps f n).getD j 0) [] := by unfold qO; exact getD_map _ _ 0 _ h
theorem reps_get_lt (f : Nat → Nat) {n j : Nat} (h : j < (reps f n).length) : (reps f n).getD j 0 < n := reps_lt f n (getD_mem h)
theorem nmb_lt_reps (f : Nat → Nat) {n s : Nat} (h : s < n) : nmb f s < (reps f n).length := by rw [reps_len]; exact nmb_lt f h
theorem Mok.quot {i st n : Nat} {nx ot : List (List Int)} (hM : Mok i st n nx ot) (f : Nat → Nat) : Mok i (nmb f st) (reps f n).length (qN nx i f n) (qO ot f n) where
  i1 := hM.i1
  i2 := hM.i2
  n1 := by have := nmb_lt_reps f hM.st; omega
  n2 := by have := reps_le f n; have := hM.n2; omega
  st := nmb_lt_reps f hM.st
  nxl := qN_len _ _ _ _
  otl := qO_len _ _ _
  row := fun s hs => by
    have hr := reps_get_lt f hs
    rw [qN_row _ _ _ hs, qO_row _ _ hs]
    obtain ⟨h1, h2, h3⟩ := hM.row _ hr
    refine ⟨qR_len _ _ _ _, h2, fun a ha => ?_⟩
    rw [qR_at ha]
    have h4 := nmb_lt_reps f (hM.nN_lt hr ha)
    have h5 := h3 a ha
    exact ⟨by omega, by omega, h5.2.2.1, h5.2.2.2⟩
/-- The classes of equivalent states. -/
def eqc (nx ot : List (List Int)) (i n : Nat) : Nat → Nat := cN nx ot i n (dep nx ot i n)
/-- The tables of the minimal machine, and the states of the machine of classes that it has. -/
def mnR (nx ot : List (List Int)) (i st n : Nat) : List Nat := rch (qN nx i (eqc nx ot i n) n) i (nmb (eqc nx ot i n) st)
def mnN (nx ot : List (List Int)) (i st n : Nat) : List (List Int) := trN (qN nx i (eqc nx ot i n) n) i (mnR nx ot i st n)
def mnO (nx ot : List (List Int)) (i st n : Nat) : List (List Int) := trO (qO ot (eqc nx ot i n) n) (mnR nx ot i st n)
theorem Mok.mnR_len {i st n : Nat} {nx ot : List (List Int)} (hM : Mok i st n nx ot) : (mnR nx ot i st n).length ≤ n := by
  have h1 := (hM.quot (eqc nx ot i n)).rch_stt.len
  have h2 := reps_le (eqc nx ot i n) n
  unfold mnR
  omega
end Go.Proofs.Ytogcecfeofbbnaa
end

section
/- What trimming keeps. -/
namespace Go.Proofs.Ytogcecfeofbbnaa

section
variable {i st n : Nat} {nx ot : List (List Int)}

theorem tr_row {R : List Nat} {j : Nat} (hj : j < R.length) : (trN nx i R).getD j [] = trR nx i R (R.getD j 0) := by
  unfold trN; rw [List.getD_eq_getElem?_getD, List.getElem?_map, List.getElem?_eq_getElem hj, List.getD_eq_getElem?_getD, List.getElem?_eq_getElem hj]; rfl
theorem tr_out {R : List Nat} {j : Nat} (hj : j < R.length) : (trO ot R).getD j [] = ot.getD (R.getD j 0) [] := by
  unfold trO; rw [List.getD_eq_getElem?_getD, List.getElem?_map, List.getElem?_eq_getElem hj, List.getD_eq_getElem?_getD (l := R), List.getElem?_eq_getElem hj]; rfl
theorem tr_nN {R : List Nat} {j a : Nat} (hj : j < R.length) (ha : a < i) : nN (trN nx i R) j a = ixN R (nN nx (R.getD j 0) a) := by
  unfold nN; rw [tr_row hj, trR_at ha]; unfold nN; simp
theorem tr_oN {R : List Nat} {j a : Nat} (hj : j < R.length) : oN (trO ot R) j a = oN ot (R.getD j 0) a := by
  unfold oN; rw [tr_out hj]

theorem Mok.tr (hM : Mok i st n nx ot) : Mok i 0 (rch nx i st).length (trN nx i (rch nx i st)) (trO ot (rch nx i st)) := by
  have hs := hM.rch_stt
  have hl := hs.len
  have h0 : 0 < (rch nx i st).length := by obtain ⟨t, ht⟩ := rch_pre nx i st; rw [ht]; simp
  refine ⟨hM.i1, hM.i2, h0, by have := hM.n2; omega, h0, by simp [trN], by simp [trO], fun s h => ?_⟩
  have hm := getD_mem h
  have hr := hM.row _ (hs.2 _ hm)
  rw [tr_row h, tr_out h]
  refine ⟨trR_len _ _ _ _, hr.2.1, fun a ha => ?_⟩
  rw [trR_at ha]
  have := ixN_lt (hM.rch_in hm ha)
  exact ⟨by omega, by omega, (hr.2.2 a ha).2.2⟩

theorem tr_run (hM : Mok i st n nx ot) : ∀ (u : List Int) (s : Nat), s ∈ rch nx i st → (∀ x, x ∈ u → 0 ≤ x ∧ x < i) → runO (trN nx i (rch nx i st)) (trO ot (rch nx i st)) (ixN (rch nx i st) s) u = runO nx ot s u
  | [], _, _, _ => rfl
  | x :: u, s, hs, hu => by
    have hx := hu x (by simp)
    have ha : x.toNat < i := by omega
    show oN _ (ixN (rch nx i st) s) x.toNat :: runO _ _ (nN _ (ixN (rch nx i st) s) x.toNat) u = oN ot s x.toNat :: runO nx ot (nN nx s x.toNat) u
    rw [tr_oN (ixN_lt hs), tr_nN (ixN_lt hs) ha, ixN_at hs, tr_run hM u _ (hM.rch_in hs ha) fun y hy => hu y (by simp [hy])]

theorem ixN_st (nx : List (List Int)) (i st : Nat) : ixN (rch nx i st) st = 0 := by
  obtain ⟨t, ht⟩ := rch_pre nx i st
  rw [ht]; unfold ixN; simp
theorem st_mem (nx : List (List Int)) (i st : Nat) : st ∈ rch nx i st := by obtain ⟨t, ht⟩ := rch_pre nx i st; rw [ht]; simp

theorem addN_map {R : List Nat} {l : List Nat} {x : Nat} (hl : ∀ y, y ∈ l → y ∈ R) (hx : x ∈ R) : addN (l.map (ixN R)) (ixN R x) = (addN l x).map (ixN R) := by
  have h : ixN R x ∈ l.map (ixN R) ↔ x ∈ l := by
    rw [List.mem_map]
    constructor
    · rintro ⟨y, hy, e⟩
      have := congrArg (fun j => R.getD j 0) e
      simp only [ixN_at (hl y hy), ixN_at hx] at this
      rw [← this]; exact hy
    · intro h; exact ⟨x, h, rfl⟩
  unfold addN
  by_cases hm : x ∈ l
  · rw [if_pos (h.2 hm), if_pos hm]
  · rw [if_neg (fun H => hm (h.1 H)), if_neg hm, List.map_append]; rfl
theorem addN_sub {R l : List Nat} {x : Nat} (hl : ∀ y, y ∈ l → y ∈ R) (hx : x ∈ R) : ∀ y, y ∈ addN l x → y ∈ R := by
  unfold addN; split
  · exact hl
  · intro y hy; rw [List.mem_append] at hy
    rcases hy with hy | hy
    · exact hl y hy
    · simp at hy; subst hy; exact hx
theorem addR_map (hM : Mok i st n nx ot) {l : List Nat} {s : Nat} (hl : ∀ y, y ∈ l → y ∈ rch nx i st) (hs : s ∈ rch nx i st) : ∀ a, a ≤ i →
    addR (trN nx i (rch nx i st)) (ixN (rch nx i st) s) (l.map (ixN (rch nx i st))) a = (addR nx s l a).map (ixN (rch nx i st)) ∧ ∀ y, y ∈ addR nx s l a → y ∈ rch nx i st
  | 0, _ => ⟨rfl, hl⟩
  | a + 1, h => by
    obtain ⟨h1, h2⟩ := addR_map hM hl hs a (by omega)
    have hin := hM.rch_in hs (show a < i by omega)
    refine ⟨?_, addN_sub h2 hin⟩
    show addN (addR _ _ _ a) (nN _ _ a) = (addN _ _).map _
    rw [h1, tr_nN (ixN_lt hs) (by omega), ixN_at hs, addN_map h2 hin]
theorem bfs_map (hM : Mok i st n nx ot) : ∀ (k : Nat) (l : List Nat) (j : Nat), (∀ y, y ∈ l → y ∈ rch nx i st) →
    bfs (trN nx i (rch nx i st)) i k (l.map (ixN (rch nx i st))) j = (bfs nx i k l j).map (ixN (rch nx i st))
  | 0, _, _, _ => rfl
  | k + 1, l, j, hl => by
    show (if j < (l.map _).length then _ else _) = List.map _ (if j < l.length then _ else _)
    rw [List.length_map]
    by_cases hj : j < l.length
    · have hm := getD_mem hj
      obtain ⟨h1, h2⟩ := addR_map hM hl (hl _ hm) i (Nat.le_refl _)
      have e : (l.map (ixN (rch nx i st))).getD j 0 = ixN (rch nx i st) (l.getD j 0) := by
        rw [List.getD_eq_getElem?_getD, List.getElem?_map, List.getElem?_eq_getElem hj, List.getD_eq_getElem?_getD, List.getElem?_eq_getElem hj]; rfl
      rw [if_pos hj, if_pos hj, e, h1]
      exact bfs_map hM k _ _ h2
    · rw [if_neg hj, if_neg hj]

theorem bfs_more (hM : Mok i st n nx ot) {l : List Nat} {j : Nat} (h : Stt n l) : ∀ k, bfs nx i (n + k) l j = bfs nx i n l j
  | 0 => rfl
  | k + 1 => by rw [← Nat.add_assoc, bfs_fuel hM (n + k) l j h (by omega), bfs_more hM h k]

theorem map_ixN {R : List Nat} (hR : R.Nodup) : R.map (ixN R) = List.range R.length := by
  apply List.ext_getElem
  · simp
  · intro m h1 h2
    have hm : m < R.length := by simpa using h1
    rw [List.getElem_map, List.getElem_range]
    have := ixN_of hR hm
    rw [List.getD_eq_getElem?_getD, List.getElem?_eq_getElem hm] at this
    exact this

theorem tr_rch (hM : Mok i st n nx ot) : rch (trN nx i (rch nx i st)) i 0 = List.range (rch nx i st).length := by
  have hT := hM.tr
  have hl := hM.rch_stt.len
  have h := bfs_map hM nx.length [st] 0 (fun y hy => by simp at hy; subst hy; exact st_mem nx i y)
  rw [show [st].map (ixN (rch nx i st)) = [0] by show [ixN _ _] = _; rw [ixN_st]] at h
  show bfs _ i (trN nx i (rch nx i st)).length [0] 0 = _
  rw [hT.nxl]
  have hm := bfs_more hT (j := 0) (Stt.one hT.n1) (n - (rch nx i st).length)
  rw [show (rch nx i st).length + (n - (rch nx i st).length) = n by omega] at hm
  rw [← hm, ← hM.nxl, h]
  exact map_ixN hM.rch_stt.1

theorem ixN_range {k x : Nat} (h : x < k) : ixN (List.range k) x = x := by
  have hm : x ∈ List.range k := List.mem_range.2 h
  have h1 := ixN_at hm
  have h2 := ixN_lt hm
  rw [List.length_range] at h2
  rw [List.getD_eq_getElem?_getD, List.getElem?_eq_getElem (by rw [List.length_range]; exact h2), List.getElem_range] at h1
  exact h1
theorem getD_range {k j : Nat} (h : j < k) : (List.range k).getD j 0 = j := by
  rw [List.getD_eq_getElem?_getD, List.getElem?_eq_getElem (by rw [List.length_range]; exact h), List.getElem_range]; rfl

theorem tr_again (hM : Mok i st n nx ot) : trN (trN nx i (rch nx i st)) i (List.range (rch nx i st).length) = trN nx i (rch nx i st) := by
  have hT := hM.tr
  apply List.ext_getElem
  · simp [trN]
  · intro m h1 h2
    have hm : m < (rch nx i st).length := by simpa [trN] using h2
    have e1 := tr_row (nx := trN nx i (rch nx i st)) (i := i) (R := List.range (rch nx i st).length) (j := m) (by simpa using hm)
    have e2 := tr_row (nx := nx) (i := i) hm
    rw [List.getD_eq_getElem?_getD, List.getElem?_eq_getElem h1, getD_range hm] at e1
    rw [List.getD_eq_getElem?_getD, List.getElem?_eq_getElem h2] at e2
    have e1 : (trN (trN nx i (rch nx i st)) i (List.range (rch nx i st).length))[m] = _ := e1
    have e2 : (trN nx i (rch nx i st))[m] = _ := e2
    rw [e1, e2]
    unfold trR
    apply List.map_congr_left
    intro a ha
    have ha : a < i := List.mem_range.1 ha
    have hlt := hT.nN_lt hm ha
    rw [ixN_range hlt, tr_nN hm ha]
theorem tr_again_out (ot : List (List Int)) (R : List Nat) : trO (trO ot R) (List.range R.length) = trO ot R := by
  apply List.ext_getElem
  · simp [trO]
  · intro m h1 h2
    have hm : m < R.length := by simpa [trO] using h2
    have e1 := tr_out (ot := trO ot R) (R := List.range R.length) (j := m) (by simpa using hm)
    rw [List.getD_eq_getElem?_getD, List.getElem?_eq_getElem h1, getD_range hm, List.getD_eq_getElem?_getD, List.getElem?_eq_getElem h2] at e1
    exact e1
end
end Go.Proofs.Ytogcecfeofbbnaa
end

section
/- The minimal machine is the same for machines with the same outputs. -/
namespace Go.Proofs.Ytogcecfeofbbnaa

theorem Mok.bis_cN {i st n : Nat} {nx ot : List (List Int)} (hM : Mok i st n nx ot) : ∀ (k : Nat) {s t : Nat}, s < n → t < n → Bis i nx ot s nx ot t → cN nx ot i n k s = cN nx ot i n k t
  | 0, s, t, hs, ht, _ => by rw [cN_zero hs, cN_zero ht]
  | k + 1, s, t, hs, ht, h => (hM.cN_succ hs ht).2 fun a ha => ⟨h.out ha, hM.bis_cN k (hM.nN_lt hs ha) (hM.nN_lt ht ha) (h.next ha)⟩
theorem Mok.eqc_step {i st n : Nat} {nx ot : List (List Int)} (hM : Mok i st n nx ot) {s t : Nat} (hs : s < n) (ht : t < n) (h : eqc nx ot i n s = eqc nx ot i n t) {a : Nat} (ha : a < i) :
    oN ot s a = oN ot t a ∧ eqc nx ot i n (nN nx s a) = eqc nx ot i n (nN nx t a) := by
  refine (hM.cN_succ hs ht).1 ?_ a ha
  unfold cN
  rw [hM.dep_stay]
  exact h
theorem Mok.eqc_bis {i st n : Nat} {nx ot : List (List Int)} (hM : Mok i st n nx ot) {s t : Nat} (hs : s < n) (ht : t < n) : eqc nx ot i n s = eqc nx ot i n t ↔ Bis i nx ot s nx ot t := by
  constructor
  · intro h u
    induction u generalizing s t with
    | nil => intro _; rfl
    | cons x u ih =>
      intro hu
      obtain ⟨a, rfl, ha⟩ := hu.head
      obtain ⟨h1, h2⟩ := hM.eqc_step hs ht h ha
      simp only [runO, Int.toNat_natCast]
      rw [h1, ih (hM.nN_lt hs ha) (hM.nN_lt ht ha) h2 hu.tail]
  · intro h
    exact hM.bis_cN _ hs ht h

/-- The machine of classes: its states have the outputs of those of the machine. -/
theorem Mok.quot_bis {i st n : Nat} {nx ot : List (List Int)} (hM : Mok i st n nx ot) {s : Nat} (hs : s < n) :
    Bis i (qN nx i (eqc nx ot i n) n) (qO ot (eqc nx ot i n) n) (nmb (eqc nx ot i n) s) nx ot s := by
  intro u
  induction u generalizing s with
  | nil => intro _; rfl
  | cons x u ih =>
    intro hu
    obtain ⟨a, rfl, ha⟩ := hu.head
    have hl := nmb_lt_reps (eqc nx ot i n) hs
    have hr := reps_get_lt (eqc nx ot i n) hl
    have hf := reps_at (eqc nx ot i n) hs
    obtain ⟨h1, h2⟩ := hM.eqc_step hr hs hf ha
    have e1 : oN (qO ot (eqc nx ot i n) n) (nmb (eqc nx ot i n) s) a = oN ot s a := by
      rw [← h1]; unfold oN; rw [qO_row _ _ hl]
    have e2 : nN (qN nx i (eqc nx ot i n) n) (nmb (eqc nx ot i n) s) a = nmb (eqc nx ot i n) (nN nx s a) := by
      have h3 := (nmb_eq (eqc nx ot i n)).2 h2
      rw [← h3]
      show (((qN nx i (eqc nx ot i n) n).getD _ []).getD a 0).toNat = _
      rw [qN_row _ _ _ hl, qR_at ha]
      exact Int.toNat_natCast _
    simp only [runO, Int.toNat_natCast]
    rw [e1, e2, ih (hM.nN_lt hs ha) hu.tail]
/-- Different states of the machine of classes have different outputs for a word. -/
theorem Mok.quot_red {i st n : Nat} {nx ot : List (List Int)} (hM : Mok i st n nx ot) {p q : Nat} (hp : p < (reps (eqc nx ot i n) n).length) (hq : q < (reps (eqc nx ot i n) n).length)
    (h : Bis i (qN nx i (eqc nx ot i n) n) (qO ot (eqc nx ot i n) n) p (qN nx i (eqc nx ot i n) n) (qO ot (eqc nx ot i n) n) q) : p = q := by
  have e1 := nmb_reps (eqc nx ot i n) hp
  have e2 := nmb_reps (eqc nx ot i n) hq
  have hr := reps_get_lt (eqc nx ot i n) hp
  have hs := reps_get_lt (eqc nx ot i n) hq
  have b1 := hM.quot_bis hr
  have b2 := hM.quot_bis hs
  rw [e1] at b1
  rw [e2] at b2
  have h2 := (hM.eqc_bis hr hs).2 ((b1.symm.trans h).trans b2)
  have h3 := (nmb_eq (eqc nx ot i n)).2 h2
  rw [e1, e2] at h3
  exact h3

/-- Lists of states of two machines, place by place with the same outputs. -/
def Par (i : Nat) (nx ot mx mt : List (List Int)) (l k : List Nat) : Prop := l.length = k.length ∧ ∀ j, j < l.length → Bis i nx ot (l.getD j 0) mx mt (k.getD j 0)
section
variable {i s1 s2 n m : Nat} {nx ot mx mt : List (List Int)}
theorem par_mem {l k : List Nat} (h : Par i nx ot mx mt l k) (hk : ∀ y, y ∈ k → y < m) (hR : ∀ p q, p < m → q < m → Bis i mx mt p mx mt q → p = q) {x y : Nat} (hb : Bis i nx ot x mx mt y) (hy : y < m) (hx : x ∈ l) : ∃ j, j < l.length ∧ l.getD j 0 = x ∧ k.getD j 0 = y := by
  obtain ⟨j, hj, rfl⟩ := List.getElem_of_mem hx
  have e : l.getD j 0 = l[j] := by rw [List.getD_eq_getElem?_getD, List.getElem?_eq_getElem hj]; rfl
  have h1 := h.2 j hj
  rw [e] at h1
  have hkj : k.getD j 0 ∈ k := getD_mem (by rw [← h.1]; exact hj)
  exact ⟨j, hj, e, hR _ _ (hk _ hkj) hy (h1.symm.trans hb)⟩
theorem Par.symm {l k : List Nat} (h : Par i nx ot mx mt l k) : Par i mx mt nx ot k l := ⟨h.1.symm, fun j hj => (h.2 j (by rw [h.1]; exact hj)).symm⟩
theorem par_addN (hR1 : ∀ p q, p < n → q < n → Bis i nx ot p nx ot q → p = q) (hR2 : ∀ p q, p < m → q < m → Bis i mx mt p mx mt q → p = q) {l k : List Nat} (h : Par i nx ot mx mt l k) (hl : ∀ y, y ∈ l → y < n) (hk : ∀ y, y ∈ k → y < m) {x y : Nat} (hx : x < n) (hy : y < m) (hb : Bis i nx ot x mx mt y) :
    Par i nx ot mx mt (addN l x) (addN k y) := by
  have hin : x ∈ l ↔ y ∈ k := by
    constructor
    · intro h1
      obtain ⟨j, hj, _, e⟩ := par_mem h hk hR2 hb hy h1
      rw [← e]; exact getD_mem (by rw [← h.1]; exact hj)
    · intro h1
      obtain ⟨j, hj, _, e⟩ := par_mem h.symm hl hR1 hb.symm hx h1
      rw [← e]; exact getD_mem (by rw [h.1]; exact hj)
  unfold addN
  by_cases h1 : x ∈ l
  · rw [if_pos h1, if_pos (hin.1 h1)]; exact h
  · rw [if_neg h1, if_neg (fun H => h1 (hin.2 H))]
    refine ⟨by rw [List.length_append, List.length_append, h.1]; rfl, fun j hj => ?_⟩
    rw [List.length_append] at hj
    by_cases e : j < l.length
    · rw [getD_pre e, getD_pre (by rw [← h.1]; exact e)]; exact h.2 j e
    · have ej : j = l.length := by simp at hj; omega
      subst ej
      have g1 : (l ++ [x]).getD l.length 0 = x := by simp [List.getD]
      have g2 : (k ++ [y]).getD l.length 0 = y := by rw [h.1]; simp [List.getD]
      rw [g1, g2]; exact hb
theorem par_addR (hM : Mok i s1 n nx ot) (hN : Mok i s2 m mx mt) (hR1 : ∀ p q, p < n → q < n → Bis i nx ot p nx ot q → p = q) (hR2 : ∀ p q, p < m → q < m → Bis i mx mt p mx mt q → p = q) {l k : List Nat} (h : Par i nx ot mx mt l k) (hl : Stt n l) (hk : Stt m k) {x y : Nat} (hx : x < n) (hy : y < m) (hb : Bis i nx ot x mx mt y) :
    ∀ a, a ≤ i → Par i nx ot mx mt (addR nx x l a) (addR mx y k a)
  | 0, _ => h
  | a + 1, ha => par_addN hR1 hR2 (par_addR hM hN hR1 hR2 h hl hk hx hy hb a (by omega)) (addR_stt hM hl hx a (by omega)).2 (addR_stt hN hk hy a (by omega)).2 (hM.nN_lt hx (by omega)) (hN.nN_lt hy (by omega)) (hb.next (by omega))
theorem par_bfs (hM : Mok i s1 n nx ot) (hN : Mok i s2 m mx mt) (hR1 : ∀ p q, p < n → q < n → Bis i nx ot p nx ot q → p = q) (hR2 : ∀ p q, p < m → q < m → Bis i mx mt p mx mt q → p = q) : ∀ (f : Nat) (l k : List Nat) (j : Nat), Par i nx ot mx mt l k → Stt n l → Stt m k →
    Par i nx ot mx mt (bfs nx i f l j) (bfs mx i f k j)
  | 0, _, _, _, h, _, _ => h
  | f + 1, l, k, j, h, hl, hk => by
    unfold bfs
    by_cases hj : j < l.length
    · rw [if_pos hj, if_pos (by rw [← h.1]; exact hj)]
      have hx := hl.2 _ (getD_mem hj)
      have hy := hk.2 _ (getD_mem (show j < k.length by rw [← h.1]; exact hj))
      exact par_bfs hM hN hR1 hR2 f _ _ (j + 1) (par_addR hM hN hR1 hR2 h hl hk hx hy (h.2 j hj) i (Nat.le_refl _)) (addR_stt hM hl hx i (Nat.le_refl _)) (addR_stt hN hk hy i (Nat.le_refl _))
    · rw [if_neg hj, if_neg (by rw [← h.1]; exact hj)]; exact h
theorem par_rch (hM : Mok i s1 n nx ot) (hN : Mok i s2 m mx mt) (hR1 : ∀ p q, p < n → q < n → Bis i nx ot p nx ot q → p = q) (hR2 : ∀ p q, p < m → q < m → Bis i mx mt p mx mt q → p = q) (hb : Bis i nx ot s1 mx mt s2) : Par i nx ot mx mt (rch nx i s1) (rch mx i s2) := by
  unfold rch
  rw [hM.nxl, hN.nxl, ← bfs_more hM (Stt.one hM.st) m, ← bfs_more hN (Stt.one hN.st) n, Nat.add_comm m n]
  refine par_bfs hM hN hR1 hR2 _ _ _ _ ⟨rfl, fun j hj => ?_⟩ (Stt.one hM.st) (Stt.one hN.st)
  have : j = 0 := by simp at hj; omega
  subst this; exact hb
theorem par_ix (hR2 : ∀ p q, p < m → q < m → Bis i mx mt p mx mt q → p = q) {l k : List Nat} (h : Par i nx ot mx mt l k) (hl : Stt n l) (hk : Stt m k) {x y : Nat} (hx : x ∈ l) (hy : y < m) (hb : Bis i nx ot x mx mt y) : ixN l x = ixN k y := by
  obtain ⟨j, hj, e1, e2⟩ := par_mem h hk.2 hR2 hb hy hx
  rw [← e1, ← e2, ixN_of hl.1 hj, ixN_of hk.1 (by rw [← h.1]; exact hj)]
theorem list_ext_rows {β : Type} {l k : List β} (d : β) (h1 : l.length = k.length) (h : ∀ s, s < l.length → l.getD s d = k.getD s d) : l = k := by
  apply List.ext_getElem h1
  intro s hs ht
  have := h s hs
  rw [List.getD_eq_getElem?_getD, List.getD_eq_getElem?_getD, List.getElem?_eq_getElem hs, List.getElem?_eq_getElem ht] at this
  exact this
/-- Reduced machines with the same outputs have the same trimmed machine. -/
theorem par_tr (hM : Mok i s1 n nx ot) (hN : Mok i s2 m mx mt) (hR1 : ∀ p q, p < n → q < n → Bis i nx ot p nx ot q → p = q) (hR2 : ∀ p q, p < m → q < m → Bis i mx mt p mx mt q → p = q) (hb : Bis i nx ot s1 mx mt s2) :
    trN nx i (rch nx i s1) = trN mx i (rch mx i s2) ∧ trO ot (rch nx i s1) = trO mt (rch mx i s2) := by
  have hP := par_rch hM hN hR1 hR2 hb
  have hl := hM.rch_stt
  have hk := hN.rch_stt
  constructor
  · refine list_ext_rows [] (by simp [trN, hP.1]) fun j hj => ?_
    have hj1 : j < (rch nx i s1).length := by simpa [trN] using hj
    have hj2 : j < (rch mx i s2).length := by rw [← hP.1]; exact hj1
    rw [tr_row hj1, tr_row hj2]
    unfold trR
    refine List.map_congr_left fun a ha => ?_
    rw [List.mem_range] at ha
    have m1 := hl.2 _ (getD_mem hj1)
    have m2 := hk.2 _ (getD_mem hj2)
    rw [par_ix hR2 hP hl hk (hM.rch_in (getD_mem hj1) ha) (hN.nN_lt m2 ha) ((hP.2 j hj1).next ha)]
  · refine list_ext_rows [] (by simp [trO, hP.1]) fun j hj => ?_
    have hj1 : j < (rch nx i s1).length := by simpa [trO] using hj
    have hj2 : j < (rch mx i s2).length := by rw [← hP.1]; exact hj1
    rw [tr_out hj1, tr_out hj2]
    have m1 := hM.row _ (hl.2 _ (getD_mem hj1))
    have m2 := hN.row _ (hk.2 _ (getD_mem hj2))
    refine list_ext_rows 0 (by rw [m1.2.1, m2.2.1]) fun a ha => ?_
    exact (hP.2 j hj1).out (by rw [← m1.2.1]; exact ha)
end

/-- The minimal machine is valid. -/
theorem Mok.mn {i st n : Nat} {nx ot : List (List Int)} (hM : Mok i st n nx ot) : Mok i 0 (mnR nx ot i st n).length (mnN nx ot i st n) (mnO nx ot i st n) := (hM.quot (eqc nx ot i n)).tr
/-- The minimal machine has the outputs of the machine. -/
theorem Mok.mn_bis {i st n : Nat} {nx ot : List (List Int)} (hM : Mok i st n nx ot) : Bis i (mnN nx ot i st n) (mnO nx ot i st n) 0 nx ot st := by
  intro u hu
  have hQ := hM.quot (eqc nx ot i n)
  have h1 := tr_run hQ u _ (st_mem _ _ _) hu
  rw [ixN_st] at h1
  exact h1.trans (hM.quot_bis hM.st u hu)
/-- Machines with the same outputs have the same minimal machine. -/
theorem mn_same {i s1 s2 n m : Nat} {nx ot mx mt : List (List Int)} (hM : Mok i s1 n nx ot) (hN : Mok i s2 m mx mt) (hb : Bis i nx ot s1 mx mt s2) : mnN nx ot i s1 n = mnN mx mt i s2 m ∧ mnO nx ot i s1 n = mnO mx mt i s2 m :=
  par_tr (hM.quot _) (hN.quot _) (fun _ _ hp hq h => hM.quot_red hp hq h) (fun _ _ hp hq h => hN.quot_red hp hq h) ((hM.quot_bis hM.st).trans (hb.trans (hN.quot_bis hN.st).symm))
theorem mnN_len (nx ot : List (List Int)) (i st n : Nat) : (mnN nx ot i st n).length = (mnR nx ot i st n).length := by unfold mnN trN; rw [List.length_map]
theorem mn_same_len {i s1 s2 n m : Nat} {nx ot mx mt : List (List Int)} (hM : Mok i s1 n nx ot) (hN : Mok i s2 m mx mt) (hb : Bis i nx ot s1 mx mt s2) : (mnR nx ot i s1 n).length = (mnR mx mt i s2 m).length := by
  rw [← mnN_len, ← mnN_len, (mn_same hM hN hb).1]
end Go.Proofs.Ytogcecfeofbbnaa
end

section
/- How long the first distinguishing word is at most. -/
namespace Go.Proofs.Ytogcecfeofbbnaa

/-- The two machines beside each other. -/
def unN (n : Nat) (nx1 nx2 : List (List Int)) : List (List Int) := nx1 ++ nx2.map fun r => r.map fun v : Int => v + n
def unO (ot1 ot2 : List (List Int)) : List (List Int) := ot1 ++ ot2
theorem getD_left {α : Type} {l k : List α} {d : α} {s : Nat} (h : s < l.length) : (l ++ k).getD s d = l.getD s d := by
  rw [List.getD_eq_getElem?_getD, List.getD_eq_getElem?_getD, List.getElem?_append_left h]
theorem getD_right {α : Type} {l k : List α} {d : α} {r : Nat} : (l ++ k).getD (l.length + r) d = k.getD r d := by
  rw [List.getD_eq_getElem?_getD, List.getD_eq_getElem?_getD, List.getElem?_append_right (by omega), Nat.add_sub_cancel_left]
section
variable {i s1 s2 n m : Nat} {nx1 ot1 nx2 ot2 : List (List Int)}
theorem un_rowN (hM : Mok i s1 n nx1 ot1) (hN : Mok i s2 m nx2 ot2) {r : Nat} (hr : r < m) : (unN n nx1 nx2).getD (n + r) [] = (nx2.getD r []).map fun v : Int => v + n := by
  unfold unN
  have := hM.nxl
  conv => lhs; rw [← this]
  rw [getD_right]
  rw [List.getD_eq_getElem?_getD, List.getD_eq_getElem?_getD, List.getElem?_map, List.getElem?_eq_getElem (by rw [hN.nxl]; exact hr), hM.nxl]
  rfl
theorem un_rowO (hM : Mok i s1 n nx1 ot1) (r : Nat) : (unO ot1 ot2).getD (n + r) [] = ot2.getD r [] := by
  unfold unO
  have := hM.otl
  conv => lhs; rw [← this]
  rw [getD_right]
theorem un_leftN (hM : Mok i s1 n nx1 ot1) {s : Nat} (hs : s < n) : (unN n nx1 nx2).getD s [] = nx1.getD s [] := getD_left (by rw [hM.nxl]; exact hs)
theorem un_leftO (hM : Mok i s1 n nx1 ot1) {s : Nat} (hs : s < n) : (unO ot1 ot2).getD s [] = ot1.getD s [] := getD_left (by rw [hM.otl]; exact hs)
theorem map_add {l : List Int} {n a : Nat} (h : a < l.length) : (l.map fun v : Int => v + n).getD a 0 = l.getD a 0 + n := by
  rw [List.getD_eq_getElem?_getD, List.getD_eq_getElem?_getD, List.getElem?_map, List.getElem?_eq_getElem h]; rfl
theorem Mok.un (hM : Mok i s1 n nx1 ot1) (hN : Mok i s2 m nx2 ot2) (h : n + m ≤ 128) : Mok i s1 (n + m) (unN n nx1 nx2) (unO ot1 ot2) where
  i1 := hM.i1
  i2 := hM.i2
  n1 := by have := hM.n1; omega
  n2 := h
  st := by have := hM.st; omega
  nxl := by unfold unN; rw [List.length_append, List.length_map, hM.nxl, hN.nxl]
  otl := by unfold unO; rw [List.length_append, hM.otl, hN.otl]
  row := fun s hs => by
    by_cases h1 : s < n
    · rw [un_leftN hM h1, un_leftO hM h1]
      obtain ⟨a, b, c⟩ := hM.row s h1
      exact ⟨a, b, fun x hx => by have := c x hx; omega⟩
    · obtain ⟨r, rfl⟩ : ∃ r, s = n + r := ⟨s - n, by omega⟩
      have hr : r < m := by omega
      rw [un_rowN hM hN hr, un_rowO hM]
      obtain ⟨a, b, c⟩ := hN.row r hr
      refine ⟨by rw [List.length_map]; exact a, b, fun x hx => ?_⟩
      rw [map_add (by omega)]
      have := c x hx
      omega
theorem un_left (hM : Mok i s1 n nx1 ot1) : ∀ (u : List Int) (s : Nat), s < n → Wd i u → runO (unN n nx1 nx2) (unO ot1 ot2) s u = runO nx1 ot1 s u
  | [], _, _, _ => rfl
  | x :: u, s, hs, hu => by
    obtain ⟨a, rfl, ha⟩ := hu.head
    have e1 : nN (unN n nx1 nx2) s a = nN nx1 s a := by unfold nN; rw [un_leftN hM hs]
    have e2 : oN (unO ot1 ot2) s a = oN ot1 s a := by unfold oN; rw [un_leftO hM hs]
    simp only [runO, Int.toNat_natCast]
    rw [e1, e2, un_left hM u _ (hM.nN_lt hs ha) hu.tail]
theorem un_right (hM : Mok i s1 n nx1 ot1) (hN : Mok i s2 m nx2 ot2) : ∀ (u : List Int) (r : Nat), r < m → Wd i u → runO (unN n nx1 nx2) (unO ot1 ot2) (n + r) u = runO nx2 ot2 r u
  | [], _, _, _ => rfl
  | x :: u, r, hr, hu => by
    obtain ⟨a, rfl, ha⟩ := hu.head
    have w := (hN.row r hr).1
    have e0 := hN.nN_eq hr ha
    have e1 : nN (unN n nx1 nx2) (n + r) a = n + nN nx2 r a := by
      show (((unN n nx1 nx2).getD (n + r) []).getD a 0).toNat = _
      rw [un_rowN hM hN hr, map_add (by omega), e0]
      omega
    have e2 : oN (unO ot1 ot2) (n + r) a = oN ot2 r a := by unfold oN; rw [un_rowO hM]
    simp only [runO, Int.toNat_natCast]
    rw [e1, e2, un_right hM hN u _ (hN.nN_lt hr ha) hu.tail]
theorem Mok.cN_word (hM : Mok i s1 n nx1 ot1) : ∀ (k : Nat) {s t : Nat}, s < n → t < n → ¬ cN nx1 ot1 i n k s = cN nx1 ot1 i n k t → ∃ u, Wd i u ∧ u.length ≤ k ∧ ¬ runO nx1 ot1 s u = runO nx1 ot1 t u
  | 0, s, t, hs, ht, h => absurd (by rw [cN_zero hs, cN_zero ht]) h
  | k + 1, s, t, hs, ht, h => by
    have h1 : ¬ ∀ a, a < i → oN ot1 s a = oN ot1 t a ∧ cN nx1 ot1 i n k (nN nx1 s a) = cN nx1 ot1 i n k (nN nx1 t a) := fun H => h ((hM.cN_succ hs ht).2 H)
    obtain ⟨a, h2⟩ := Classical.not_forall.1 h1
    obtain ⟨ha, h3⟩ := Classical.not_imp.1 h2
    by_cases ho : oN ot1 s a = oN ot1 t a
    · obtain ⟨u, hu, hl, hd⟩ := hM.cN_word k (hM.nN_lt hs ha) (hM.nN_lt ht ha) (fun e => h3 ⟨ho, e⟩)
      refine ⟨(a : Int) :: u, hu.cons ha, by simpa using hl, fun e => ?_⟩
      simp only [runO, Int.toNat_natCast, List.cons.injEq] at e
      exact hd e.2
    · refine ⟨[(a : Int)], Wd.one ha, by simp, fun e => ?_⟩
      simp only [runO, Int.toNat_natCast, List.cons.injEq] at e
      exact ho e.1
theorem dst_short {s t : Nat} {v : List Int} (hM : Mok i s1 n nx1 ot1) (hN : Mok i s2 m nx2 ot2) (hnm : n + m ≤ 128) (hs : s < n) (ht : t < m) (h : dst nx1 ot1 nx2 ot2 i n m s t = some v) : v.length < n + m := by
  have hU := hM.un hN hnm
  have hnb : ¬ Bis i (unN n nx1 nx2) (unO ot1 ot2) s (unN n nx1 nx2) (unO ot1 ot2) (n + t) := fun hb => dst_not h fun u hu => by
    have := hb u hu
    rw [un_left hM u s hs hu, un_right hM hN u t ht hu] at this
    exact this
  have hne := fun e => hnb ((hU.eqc_bis (s := s) (t := n + t) (by omega) (by omega)).1 e)
  obtain ⟨u, hu, hl, hd⟩ := hU.cN_word (dep (unN n nx1 nx2) (unO ot1 ot2) i (n + m)) (s := s) (t := n + t) (by omega) (by omega) hne
  have hdl := hU.dep_lt
  rw [un_left hM u s hs hu, un_right hM hN u t ht hu] at hd
  rcases Nat.lt_or_ge u.length v.length with h1 | h1
  · exact absurd (dst_first h u hu (.inl h1)) hd
  · omega
end
end Go.Proofs.Ytogcecfeofbbnaa
end

section
/- homing: the word that is made. -/
namespace Go.Proofs.Ytogcecfeofbbnaa

theorem reps_full (f : Nat → Nat) : ∀ {n : Nat}, (reps f n).length = n → ∀ s t, s < t → t < n → ¬ f s = f t
  | 0, _, _, _, _, ht => absurd ht (by omega)
  | n + 1, h, s, t, hst, ht => by
    have hle := reps_le f n
    by_cases hin : f n ∈ grp f n
    · rw [reps_in hin] at h; omega
    · rw [reps_out hin, List.length_append, List.length_singleton] at h
      by_cases e : t = n
      · subst e
        intro e2
        exact hin (e2 ▸ grp_has f hst)
      · exact reps_full f (n := n) (by omega) s t hst (by omega)

section
variable {i st n : Nat} {nx ot : List (List Int)}

/-- Different states of a minimal machine have different outputs. -/
theorem Mok.min_inj (hM : Mok i st n nx ot) (hR : (mnR nx ot i st n).length = n) {s t : Nat} (hs : s < n) (ht : t < n) (h : Bis i nx ot s nx ot t) : s = t := by
  have h1 := (hM.quot (eqc nx ot i n)).rch_stt.len
  have h2 := reps_le (eqc nx ot i n) n
  have h3 : (reps (eqc nx ot i n) n).length = n := by unfold mnR at hR; omega
  have h4 := (hM.eqc_bis hs ht).2 h
  rcases Nat.lt_trichotomy s t with e | e | e
  · exact absurd h4 (reps_full _ h3 s t e ht)
  · exact e
  · exact absurd h4.symm (reps_full _ h3 t s e hs)
theorem Mok.sep (hM : Mok i st n nx ot) (hR : (mnR nx ot i st n).length = n) {s t : Nat} (hs : s < n) (ht : t < n) (hne : ¬ s = t) : ∃ v, dst nx ot nx ot i n n s t = some v ∧ Wd i v ∧ 1 ≤ v.length ∧ ¬ runO nx ot s v = runO nx ot t v := by
  cases e : dst nx ot nx ot i n n s t with
  | none => exact absurd (hM.min_inj hR hs ht ((dst_none hM hM hs ht).1 e)) hne
  | some v =>
    obtain ⟨h1, h2⟩ := dst_wd e
    refine ⟨v, rfl, h1, ?_, h2⟩
    cases v with
    | nil => exact absurd rfl h2
    | cons => simp

/-- The two first states of the first group. -/
theorem opnL_one (n : Nat) (nx ot : List (List Int)) (w : List Int) : opnL n nx ot w n = [] ∨ 1 < (opnL n nx ot w n).length := by
  have hs := opn_spec n nx ot w n
  unfold opnL
  cases e : opn n nx ot w n with
  | none => exact .inl rfl
  | some b =>
    rw [e] at hs
    exact .inr hs.2.1
theorem opnL_two {w : List Int} (h : ¬ opnL n nx ot w n = []) : ∃ s t s' t' : Nat, (opnL n nx ot w n).getD 0 0 = s ∧ (opnL n nx ot w n).getD 1 0 = t ∧ s < n ∧ t < n ∧ ¬ s = t ∧ s' < n ∧ t' < n ∧
    runS nx s' w = s ∧ runS nx t' w = t ∧ runO nx ot s' w = runO nx ot t' w := by
  have hl := (opnL_one n nx ot w).resolve_left h
  have hs := opn_spec n nx ot w n
  unfold opnL at hl ⊢
  cases e : opn n nx ot w n with
  | none => rw [e] at hl; exact absurd hl (by simp)
  | some b =>
    rw [e] at hl
    have hl : 1 < (cur n nx ot w b).length := hl
    show ∃ s t s' t' : Nat, (cur n nx ot w b).getD 0 0 = s ∧ (cur n nx ot w b).getD 1 0 = t ∧ _
    have ha := cur_asc n nx ot w b
    have hm : ∀ x, x ∈ cur n nx ot w b → ∃ t : Nat, x = t ∧ t < n ∧ ∃ t', t' < n ∧ runS nx t' w = t ∧ runO nx ot t' w = b := fun x hx => by
      obtain ⟨t, rfl, ht⟩ := cur_nat hx
      obtain ⟨_, s, hs, h1, h2⟩ := cur_mem0.1 hx
      exact ⟨t, rfl, ht, s, hs, h1, h2⟩
    cases e2 : cur n nx ot w b with
    | nil => rw [e2] at hl; exact absurd hl (by simp)
    | cons x l =>
      cases l with
      | nil => rw [e2] at hl; exact absurd hl (by simp)
      | cons y l =>
        rw [e2] at ha hm
        obtain ⟨s, rfl, h1, s', h2, h3, h4⟩ := hm x (by simp)
        obtain ⟨t, rfl, k1, t', k2, k3, k4⟩ := hm y (by simp)
        have := (List.pairwise_cons.1 ha).1 _ List.mem_cons_self
        exact ⟨s, t, s', t', rfl, rfl, h1, k1, by omega, h2, k2, h3, k3, by rw [h4, k4]⟩
end

/-- What Word makes out of a word. -/
inductive Hom (i n : Nat) (nx ot : List (List Int)) : List Int → List Int → Int → Prop
  | done {w : List Int} : opnL n nx ot w n = [] → Hom i n nx ot w w 0
  | long {w v : List Int} {s t : Nat} : (opnL n nx ot w n).getD 0 0 = s → (opnL n nx ot w n).getD 1 0 = t → ¬ opnL n nx ot w n = [] → dst nx ot nx ot i n n s t = some v → 1024 < w.length + v.length → Hom i n nx ot w [] 3
  | more {w v r : List Int} {e : Int} {s t : Nat} : (opnL n nx ot w n).getD 0 0 = s → (opnL n nx ot w n).getD 1 0 = t → ¬ opnL n nx ot w n = [] → dst nx ot nx ot i n n s t = some v → w.length + v.length ≤ 1024 → Hom i n nx ot (w ++ v) r e → Hom i n nx ot w r e

section
variable {i st n : Nat} {nx ot : List (List Int)}
theorem Hom.ex (hM : Mok i st n nx ot) (hR : (mnR nx ot i st n).length = n) : ∀ (k : Nat) (w : List Int), Wd i w → w.length ≤ 1024 → 1024 ≤ w.length + k → ∃ r e, Hom i n nx ot w r e ∧ r.length ≤ 1024
  | k, w, hw, hl, hk => by
    by_cases h : opnL n nx ot w n = []
    · exact ⟨w, 0, .done h, hl⟩
    · obtain ⟨s, t, s', t', e1, e2, h1, h2, h3, _⟩ := opnL_two h
      obtain ⟨v, hv, hvw, hv1, _⟩ := hM.sep hR h1 h2 h3
      by_cases hlen : w.length + v.length ≤ 1024
      · obtain ⟨k, rfl⟩ : ∃ k', k = k' + 1 := ⟨k - 1, by omega⟩
        obtain ⟨r, e, hr, hrl⟩ := Hom.ex hM hR k (w ++ v) (hw.app hvw) (by rw [List.length_append]; exact hlen) (by rw [List.length_append]; omega)
        exact ⟨r, e, .more e1 e2 h hv hlen hr, hrl⟩
      · exact ⟨[], 3, .long e1 e2 h hv (by omega), by simp⟩
/-- What is said of a word that is not finished. -/
theorem Hom.step (hM : Mok i st n nx ot) (hR : (mnR nx ot i st n).length = n) {w r : List Int} {e : Int} (hh : Hom i n nx ot w r e) (h : ¬ opnL n nx ot w n = []) :
    ∃ (s t : Nat) (v : List Int), (opnL n nx ot w n).getD 0 0 = s ∧ (opnL n nx ot w n).getD 1 0 = t ∧ s < n ∧ t < n ∧ dst nx ot nx ot i n n s t = some v ∧ Wd i v ∧ 1 ≤ v.length ∧
      ((1024 < w.length + v.length ∧ r = [] ∧ e = 3) ∨ (w.length + v.length ≤ 1024 ∧ Hom i n nx ot (w ++ v) r e)) := by
  obtain ⟨s, t, s', t', e1, e2, h1, h2, h3, _⟩ := opnL_two h
  obtain ⟨v, hv, hvw, hv1, _⟩ := hM.sep hR h1 h2 h3
  refine ⟨s, t, v, e1, e2, h1, h2, hv, hvw, hv1, ?_⟩
  cases hh with
  | done k => exact absurd k h
  | @long _ v' s0 t0 k1 k2 _ k3 k4 =>
    obtain rfl : s = s0 := by omega
    obtain rfl : t = t0 := by omega
    rw [hv] at k3
    injection k3 with k3
    subst k3
    exact .inl ⟨k4, rfl, rfl⟩
  | @more _ v' _ _ s0 t0 k1 k2 _ k3 k4 k5 =>
    obtain rfl : s = s0 := by omega
    obtain rfl : t = t0 := by omega
    rw [hv] at k3
    injection k3 with k3
    subst k3
    exact .inr ⟨k4, k5⟩
theorem Hom.fin {w r : List Int} {e : Int} (hh : Hom i n nx ot w r e) (h : opnL n nx ot w n = []) : r = w ∧ e = 0 := by
  cases hh with
  | done _ => exact ⟨rfl, rfl⟩
  | long _ _ k _ _ => exact absurd h k
  | more _ _ k _ _ _ => exact absurd h k

/-- How many pairs of states a word leaves together. -/
def cq (n : Nat) (nx ot : List (List Int)) (w : List Int) : Nat := (List.range (n * n)).countP fun k => decide (runO nx ot (k / n) w = runO nx ot (k % n) w)
theorem countP_less {p q : Nat → Bool} : ∀ {l : List Nat}, (∀ x, x ∈ l → p x = true → q x = true) → ∀ {y : Nat}, y ∈ l → q y = true → p y = false → l.countP p < l.countP q
  | [], _, _, hy, _, _ => by simp at hy
  | x :: l, h, y, hy, h1, h2 => by
    have hl : l.countP p ≤ l.countP q := List.countP_mono_left fun x hx hp => h x (List.mem_cons_of_mem _ hx) hp
    rw [List.countP_cons, List.countP_cons]
    rcases List.mem_cons.1 hy with e | e
    · subst e
      rw [h1, h2]
      simp
      omega
    · have ih := countP_less (fun x hx hp => h x (List.mem_cons_of_mem _ hx) hp) e h1 h2
      have hx := h x List.mem_cons_self
      cases hp : p x with
      | true => rw [hx hp]; simp; omega
      | false =>
        cases q x with
        | true => simp; omega
        | false => simp; omega
theorem cq_le (n : Nat) (nx ot : List (List Int)) (w : List Int) : cq n nx ot w ≤ n * n := by
  have := List.countP_le_length (p := fun k => decide (runO nx ot (k / n) w = runO nx ot (k % n) w)) (l := List.range (n * n))
  rw [List.length_range] at this
  exact this
theorem cq_less {w v : List Int} {s t : Nat} (hs : s < n) (ht : t < n) (h1 : runO nx ot s w = runO nx ot t w) (h2 : ¬ runO nx ot (runS nx s w) v = runO nx ot (runS nx t w) v) : cq n nx ot (w ++ v) < cq n nx ot w := by
  have e1 : (n * s + t) / n = s := by rw [Nat.mul_add_div (by omega), Nat.div_eq_of_lt ht]; omega
  have e2 : (n * s + t) % n = t := by rw [Nat.mul_add_mod, Nat.mod_eq_of_lt ht]
  refine countP_less (fun x _ h => ?_) (y := n * s + t) ?_ ?_ ?_
  · have h := of_decide_eq_true h
    rw [runO_app, runO_app] at h
    exact decide_eq_true (List.append_inj h (by rw [runO_len, runO_len])).1
  · rw [List.mem_range]
    have : n * (s + 1) ≤ n * n := Nat.mul_le_mul_left n hs
    rw [Nat.mul_succ] at this
    omega
  · rw [e1, e2]; exact decide_eq_true h1
  · rw [e1, e2]
    refine decide_eq_false fun h => h2 ?_
    rw [runO_app, runO_app] at h
    exact (List.append_inj h (by rw [runO_len, runO_len])).2

/-- A small minimal machine has a homing word. -/
theorem Hom.small (hM : Mok i st n nx ot) (hR : (mnR nx ot i st n).length = n) (hn : n ≤ 8) {w r : List Int} {e : Int} (hh : Hom i n nx ot w r e) : Wd i w → w.length + 15 * cq n nx ot w ≤ 960 → e = 0 ∧ opnL n nx ot r n = [] ∧ Wd i r ∧ r.length ≤ 960 := by
  induction hh with
  | done h => exact fun hw hl => ⟨rfl, h, hw, by omega⟩
  | long k1 k2 h k3 k4 =>
    intro hw hl
    obtain ⟨s, t, s', t', e1, e2, h1, h2, h3, h4, h5, h6, h7, h8⟩ := opnL_two h
    rw [e1] at k1
    rw [e2] at k2
    obtain rfl := Int.ofNat.inj k1
    obtain rfl := Int.ofNat.inj k2
    have hsh := dst_short hM hM (by omega) h1 h2 k3
    have hlt := cq_less h4 h5 h8 (v := _) (by rw [h6, h7]; exact (dst_wd k3).2)
    omega
  | more k1 k2 h k3 k4 k5 ih =>
    intro hw hl
    obtain ⟨s, t, s', t', e1, e2, h1, h2, h3, h4, h5, h6, h7, h8⟩ := opnL_two h
    rw [e1] at k1
    rw [e2] at k2
    obtain rfl := Int.ofNat.inj k1
    obtain rfl := Int.ofNat.inj k2
    have hsh := dst_short hM hM (by omega) h1 h2 k3
    have hlt := cq_less h4 h5 h8 (v := _) (by rw [h6, h7]; exact (dst_wd k3).2)
    exact ih (hw.app (dst_wd k3).1) (by rw [List.length_append]; omega)
theorem Hom.small0 (hM : Mok i st n nx ot) (hR : (mnR nx ot i st n).length = n) (hn : n ≤ 8) {r : List Int} {e : Int} (hh : Hom i n nx ot [] r e) : e = 0 ∧ opnL n nx ot r n = [] ∧ Wd i r ∧ r.length ≤ 960 := by
  refine hh.small hM hR hn (Wd.nil i) ?_
  have := cq_le n nx ot []
  have := Nat.mul_le_mul hn hn
  simp only [List.length_nil]
  omega

/-- Nothing stays together just if the state is known from the outputs. -/
theorem opnL_none {w : List Int} : opnL n nx ot w n = [] ↔ ∀ s, s < n → ¬ 1 < (cur n nx ot w (runO nx ot s w)).length := by
  have hs := opn_spec n nx ot w n
  unfold opnL
  cases e : opn n nx ot w n with
  | none => rw [e] at hs; exact ⟨fun _ => hs, fun _ => rfl⟩
  | some b =>
    rw [e] at hs
    refine ⟨fun h => ?_, fun h => ?_⟩
    · have h : cur n nx ot w b = [] := h
      have := hs.2.1
      rw [h] at this
      exact absurd this (by simp)
    · obtain ⟨s, h1, h2⟩ := cur_some hs.2.1
      exact absurd (h2 ▸ hs.2.1) (h s h1)
theorem cur_self (hM : Mok i st n nx ot) {w : List Int} (hw : Wd i w) {s : Nat} (hs : s < n) : (runS nx s w : Int) ∈ cur n nx ot w (runO nx ot s w) := (cur_mem hM hw).2 ⟨s, hs, rfl, rfl⟩
theorem cur_known (hM : Mok i st n nx ot) {w : List Int} (hw : Wd i w) {s : Nat} (hs : s < n) (h : ¬ 1 < (cur n nx ot w (runO nx ot s w)).length) : cur n nx ot w (runO nx ot s w) = [(runS nx s w : Int)] := by
  have hm := cur_self hM hw hs
  cases e : cur n nx ot w (runO nx ot s w) with
  | nil => rw [e] at hm; simp at hm
  | cons x l =>
    rw [e] at hm h
    cases l with
    | nil => rw [List.mem_singleton] at hm; rw [hm]
    | cons => simp at h
/-- Behind a homing word all words are. -/
theorem opnL_app (hM : Mok i st n nx ot) {w v : List Int} (hw : Wd i w) (hv : Wd i v) (h : opnL n nx ot w n = []) : opnL n nx ot (w ++ v) n = [] := by
  rw [opnL_none] at h ⊢
  intro s hs hl
  have hc := h s hs
  have hk := cur_known hM hw hs hc
  have key : ∀ x, x ∈ cur n nx ot (w ++ v) (runO nx ot s (w ++ v)) → x = (runS nx s (w ++ v) : Int) := fun x hx => by
    obtain ⟨t, ht, rfl, h2⟩ := (cur_mem hM (hw.app hv)).1 hx
    rw [runO_app, runO_app] at h2
    have h3 := (List.append_inj h2 (by rw [runO_len, runO_len])).1
    have h4 := (cur_mem hM hw).2 ⟨t, ht, rfl, h3⟩
    rw [hk, List.mem_singleton] at h4
    rw [runS_app, runS_app, Int.ofNat.inj h4]
  have ha := cur_asc n nx ot (w ++ v) (runO nx ot s (w ++ v))
  cases e : cur n nx ot (w ++ v) (runO nx ot s (w ++ v)) with
  | nil => rw [e] at hl; simp at hl
  | cons x l =>
    cases l with
    | nil => rw [e] at hl; simp at hl
    | cons y l =>
      rw [e] at ha key
      have h1 := key x (by simp)
      have h2 := key y (by simp)
      have h3 := (List.pairwise_cons.1 ha).1 y (by simp)
      omega
end
end Go.Proofs.Ytogcecfeofbbnaa
end

section
/- What the searches find: Check, Distinguish, Equal, Upto and States. -/
namespace Go.Proofs.Ytogcecfeofbbnaa
open Go.RowKit

/-- The first error of two machines. -/
def chk2 (i1 st1 : Int) (nx1 ot1 : List (List Int)) (i2 st2 : Int) (nx2 ot2 : List (List Int)) : Int := if ¬ vld i1 st1 nx1 ot1 = 0 then vld i1 st1 nx1 ot1 else if ¬ vld i2 st2 nx2 ot2 = 0 then vld i2 st2 nx2 ot2 else if i1 = i2 then 0 else 15
/-- What Distinguish finds. -/
def dres (i1 st1 : Int) (nx1 ot1 : List (List Int)) (i2 st2 : Int) (nx2 ot2 : List (List Int)) : Option (List Int) × Int :=
  if chk2 i1 st1 nx1 ot1 i2 st2 nx2 ot2 = 0 then (dst nx1 ot1 nx2 ot2 i1.toNat nx1.length nx2.length st1.toNat st2.toNat, 0) else (none, chk2 i1 st1 nx1 ot1 i2 st2 nx2 ot2)
/-- What States finds. -/
def sres (i st : Int) (nx ot : List (List Int)) (s t : Int) : Option (List Int) × Int :=
  if ¬ vld i st nx ot = 0 then (none, vld i st nx ot) else if (0 ≤ s ∧ s < (nx.length : Int)) ∧ 0 ≤ t ∧ t < (nx.length : Int) then (dst nx ot nx ot i.toNat nx.length nx.length s.toNat t.toNat, 0) else (none, 2)
theorem chk2_zero {i1 st1 i2 st2 : Int} {nx1 ot1 nx2 ot2 : List (List Int)} (h : chk2 i1 st1 nx1 ot1 i2 st2 nx2 ot2 = 0) : vld i1 st1 nx1 ot1 = 0 ∧ vld i2 st2 nx2 ot2 = 0 ∧ i1 = i2 := by
  unfold chk2 at h
  by_cases h1 : vld i1 st1 nx1 ot1 = 0
  · by_cases h2 : vld i2 st2 nx2 ot2 = 0
    · by_cases h3 : i1 = i2
      · exact ⟨h1, h2, h3⟩
      · rw [if_neg (by simp [h1]), if_neg (by simp [h2]), if_neg h3] at h; omega
    · rw [if_neg (by simp [h1]), if_pos h2] at h; exact absurd h h2
  · rw [if_pos h1] at h; exact absurd h h1
/-- Is there no distinguishing word? -/
def eqb (D : Option (List Int) × Int) : Bool := D.2 == 0 && !D.1.isSome
def upb (D : Option (List Int) × Int) (n : Int) : Bool := D.2 == 0 && (!D.1.isSome || decide (n < ((D.1.getD []).length : Int)))
theorem pair_boxes (w : World) (i1 st1 i2 st2 : Int) (A B C D : Option Addr) (n c m d n2 c2 m2 d2 : Nat) :
    Below w.heap.size w ((w.alloc (.cells #[.int .i64 i1, .int .i64 st1, .slice A n c, .slice B m d] 24)).alloc (.cells #[.int .i64 i2, .int .i64 st2, .slice C n2 c2, .slice D m2 d2] 24)) ∧
    Mblk ((w.alloc (.cells #[.int .i64 i1, .int .i64 st1, .slice A n c, .slice B m d] 24)).alloc (.cells #[.int .i64 i2, .int .i64 st2, .slice C n2 c2, .slice D m2 d2] 24)) w.heap.size (.int .i64 i1) (.int .i64 st1) (.slice A n c) (.slice B m d) ∧
    Mblk ((w.alloc (.cells #[.int .i64 i1, .int .i64 st1, .slice A n c, .slice B m d] 24)).alloc (.cells #[.int .i64 i2, .int .i64 st2, .slice C n2 c2, .slice D m2 d2] 24)) (w.heap.size + 1) (.int .i64 i2) (.int .i64 st2) (.slice C n2 c2) (.slice D m2 d2) := by
  refine ⟨bt (alloc_below _ _) (alloc_below _ _), Mblk.kept (mealy_box w _ _ _ _) (alloc_below _ _) (by simp), ?_⟩
  have := mealy_box (w.alloc (.cells #[.int .i64 i1, .int .i64 st1, .slice A n c, .slice B m d] 24)) (.int .i64 i2) (.int .i64 st2) (.slice C n2 c2) (.slice D m2 d2)
  simpa using this
theorem Mblk.on9 {w w' : World} {g : Nat} {a b c d : Value} (h : Mblk w g a b c d) (hb : Below w.heap.size w w') : Mblk w' g a b c d := h.kept hb (heap_lt h)

end Go.Proofs.Ytogcecfeofbbnaa
end

section
/- Rows of structs: each element some cells. -/
namespace Go.Proofs.Ytogcecfeofbbnaa
open Go.RowKit

/-- The slice value v is a row of elements of s cells each, of type e, which the call owns. -/
def Rws (w : World) (base : Nat) (e : TypeId) (s : Nat) (v : Value) (L : List (List Value)) : Prop := (∀ l, l ∈ L → l.length = s) ∧ w.ownsRow base e s v L.length L.flatten
theorem flat_at {s : Nat} : ∀ {L : List (List Value)}, (∀ l, l ∈ L → l.length = s) → ∀ {k r : Nat}, r < s → k < L.length → L.flatten[k * s + r]? = (L.getD k [])[r]?
  | [], _, k, r, _, h => absurd h (by simp)
  | l :: L, hl, 0, r, hr, _ => by
    have h1 := hl l (List.mem_cons_self ..)
    rw [List.flatten_cons, Nat.zero_mul, Nat.zero_add, List.getElem?_append_left (by omega)]
    rfl
  | l :: L, hl, k + 1, r, hr, h => by
    have h1 := hl l (List.mem_cons_self ..)
    have h2 : (k + 1) * s = k * s + s := Nat.succ_mul k s
    rw [List.flatten_cons, List.getElem?_append_right (by omega), h1, show (k + 1) * s + r - s = k * s + r by omega]
    exact flat_at (fun x hx => hl x (List.mem_cons_of_mem _ hx)) hr (by simpa using h)
section
variable {w w' : World} {base s : Nat} {e : TypeId} {v : Value} {L : List (List Value)}
theorem Rws.form (h : Rws w base e s v L) : ∃ A c, v = .slice A L.length c := by
  rcases h.2.2 with ⟨rfl, h0⟩ | ⟨g, cap, cur, rfl, _⟩
  · exact ⟨none, 0, by rw [h0]⟩
  · exact ⟨_, _, rfl⟩
theorem Rws.at_ (h : Rws w base e s v L) (hL : 0 < L.length) : ∃ g c, v = .slice (some ⟨g, 0, none⟩) L.length c ∧ base ≤ g ∧ g < w.heap.size ∧ L.length ≤ c ∧ ∀ k r, k < L.length → r < s → w.cell? ⟨g, k * s + r, none⟩ = (L.getD k [])[r]? := by
  rcases h.2.2 with ⟨_, h0⟩ | ⟨g, cap, cur, rfl, hbg, hg, hn, hm, hs, ht⟩
  · omega
  · refine ⟨g, cap, rfl, hbg, heap_lt hg, hn, fun k r hk hr => ?_⟩
    rw [cell_of_row w g (k * s + r) _ _ (0, 0) hg, ← flat_at h.1 hr hk, ← ht]
    have h3 : (k + 1) * s ≤ L.length * s := Nat.mul_le_mul_right s hk
    rw [Nat.succ_mul] at h3
    rw [List.getElem?_take_of_lt (by omega)]
    simp
theorem Rws.keptT (h : Rws w base e s v L) (hk : KeptT e w w') : Rws w' base e s v L := by
  refine ⟨h.1, h.2.1, ?_⟩
  rcases h.2.2 with h0 | ⟨g, cap, cur, rfl, hbg, hg, r⟩
  · exact .inl h0
  · exact .inr ⟨g, cap, cur, rfl, hbg, hk g _ hg, r⟩
theorem Rws.kept (h : Rws w base e s v L) (hb : Below w.heap.size w w') : Rws w' base e s v L := h.keptT (KeptT.of_below hb)
theorem Rws.nil (w : World) (base s : Nat) (e : TypeId) : Rws w base e s (.slice none 0 0) [] := ⟨fun _ h => absurd h (by simp), World.ownsRow_nil _ _ _ _⟩
/-- A literal of one element. -/
theorem Rws.one (w : World) (base : Nat) (e : TypeId) (l : List Value) (hb : base ≤ w.heap.size) : Rws (w.alloc (.cells l.toArray e)) base e l.length (.slice (some ⟨w.heap.size, 0, none⟩) 1 1) [l] := by
  refine ⟨fun x hx => by simp at hx; rw [hx], by simp, .inr ⟨w.heap.size, 1, l.toArray, rfl, hb, heap_alloc_new w _, by simp, by decide, by simp, by simp⟩⟩
/-- append of one element. -/
theorem run_append_rws {t bytes : Nat} {i : TypeInfo} {z : Value} (ht : Try.prog.underlying t = some (.slice e)) (hi : Try.prog.info? e = some i) (hz0 : i.zero = some z) (hz1 : i.size = s) (hz2 : i.bytes = bytes) (hzc : z.cells.size = s) (hs : 0 < s) (hby : bytes ≤ 64)
    (h : Rws w base e s v L) (l : List Value) (hl : l.length = s) (h1 : ∀ u, u ∈ l → u.oneCell' = true) (hbase : base ≤ w.heap.size) (hn : L.length < 1099511627776) :
    ∃ A c w1, (Builtin.append_ #[t, t] t #[v, .slice (some ⟨w.heap.size, 0, none⟩) 1 1]).run Try.prog (w.alloc (.cells l.toArray e)) = .ok (.slice A (L.length + 1) c) w1 ∧
      Rws w1 base e s (.slice A (L.length + 1) c) (L ++ [l]) ∧ Below base w w1 ∧ ∀ t', t' ≠ e → KeptT t' w w1 := by
  have hbz := alloc_below w (.cells l.toArray e)
  have ho1 := (h.kept hbz).2
  obtain ⟨v1, w1, hr, h2, h3, _⟩ := run_append_own (P := Try.prog) (w.alloc (.cells l.toArray e)) base t t e i z s bytes ht hi hz0 hz1 hz2 hzc hs v _ _ ho1 ⟨w.heap.size, 0, none⟩ 1 1 l (by omega)
    (by
      intro j u hu
      have hg := heap_alloc_new w (.cells l.toArray e)
      have ha : (⟨w.heap.size, 0, none⟩ : Addr).add j = ⟨w.heap.size, 0 + j, none⟩ := by simp [Addr.add]; omega
      rw [ha, cell_of_row _ _ (0 + j) _ _ (0, 0) hg, Nat.zero_add]
      simpa using hu)
    h1 (by unfold maxLen; omega) (Nat.le_trans (Nat.mul_le_mul_left _ hby) (by omega)) (Nat.le_trans hbase hbz.size)
  have hform : ∃ A c, v1 = .slice A (L.length + 1) c := by
    rcases h2.2 with ⟨rfl, h0⟩ | ⟨g, cap, cur, rfl, _⟩
    · omega
    · exact ⟨_, _, rfl⟩
  obtain ⟨A, c, rfl⟩ := hform
  refine ⟨A, c, w1, hr, ⟨fun x hx => ?_, ?_⟩, (hbz.mono hbase).trans ((Below.refl _ _).grown h3 (Nat.le_trans hbase hbz.size) (fun k hk => (World.ownsRow.lt ho1 k hk).1)), fun t' ht' => (KeptT.of_below hbz).trans (KeptT.grown h3 ho1 ht')⟩
  · rcases List.mem_append.1 hx with hx | hx
    · exact h.1 x hx
    · simp at hx; rw [hx]; exact hl
  · rw [List.length_append, List.flatten_append]
    simpa using h2
end
end Go.Proofs.Ytogcecfeofbbnaa
end

section
/- The square of seen pairs. -/
namespace Go.Proofs.Ytogcecfeofbbnaa
open Go.RowKit

def isF : Value → Bool
  | .bool b => !b
  | _ => false
def allF : List Value → Bool
  | [] => true
  | v :: l => match isF v with
    | true => allF l
    | false => false
theorem allF_eq : ∀ {l : List Value}, allF l = true → l = List.replicate l.length (Value.bool false)
  | [], _ => rfl
  | v :: l, h => by
    unfold allF at h
    cases hv : isF v with
    | false => rw [hv] at h; exact absurd h (by simp)
    | true =>
      rw [hv] at h
      have h1 := allF_eq (l := l) h
      cases v with
      | bool b => cases b with
        | false => rw [List.length_cons, List.replicate_succ, ← h1]
        | true => simp [isF] at hv
      | _ => simp [isF] at hv
theorem sq_all : allF Try.zeroCells142.toList = true := by kernel_rfl
theorem sq_zero : Try.zeroCells142 = ((List.replicate 16384 false).map Value.bool).toArray := by
  apply Array.ext'
  have h := allF_eq sq_all
  rw [Array.length_toList, Try.zeroCells142_size] at h
  rw [h, List.map_replicate]
/-- A square of truth values as cells. -/
def sqOf (f : Nat → Nat → Bool) : List Bool := (List.range 16384).map fun k => f (k / 128) (k % 128)
theorem sqOf_len (f : Nat → Nat → Bool) : (sqOf f).length = 16384 := by simp [sqOf]
theorem sqOf_at (f : Nat → Nat → Bool) {p q : Nat} (hp : p < 128) (hq : q < 128) : (sqOf f)[p * 128 + q]? = some (f p q) := by
  unfold sqOf
  rw [List.getElem?_map, List.getElem?_range (by omega)]
  show some (f ((p * 128 + q) / 128) ((p * 128 + q) % 128)) = _
  rw [show (p * 128 + q) / 128 = p by omega, show (p * 128 + q) % 128 = q by omega]
theorem sqOf_set (f : Nat → Nat → Bool) {p q : Nat} (hq : q < 128) : (sqOf f).set (p * 128 + q) true = sqOf fun a b => f a b || (a == p && b == q) := by
  apply List.ext_getElem
  · simp [sqOf]
  · intro k h1 h2
    have hk : k < 16384 := by simpa [sqOf] using h2
    rw [List.getElem_set]
    by_cases e : p * 128 + q = k
    · subst e
      simp only [sqOf, if_true, List.getElem_map, List.getElem_range]
      rw [show (p * 128 + q) / 128 = p by omega, show (p * 128 + q) % 128 = q by omega]
      simp
    · rw [if_neg e]
      simp only [sqOf, List.getElem_map, List.getElem_range]
      have : ¬ (k / 128 = p ∧ k % 128 = q) := by omega
      by_cases h3 : k / 128 = p
      · have h4 : ¬ k % 128 = q := fun h => this ⟨h3, h⟩
        simp [h4]
      · simp [h3]
/-- The block of the seen pairs. -/
def Sq (w : World) (g : Nat) (f : Nat → Nat → Bool) : Prop := w.heap[g]? = some (.cells ((sqOf f).map Value.bool).toArray 142 (0, 0))
section
variable {w w' : World} {g : Nat} {f : Nat → Nat → Bool}
theorem Sq.at_ (h : Sq w g f) {p q : Nat} (hp : p < 128) (hq : q < 128) : w.cell? ⟨g, p * 128 + q, none⟩ = some (.bool (f p q)) ∧ w.frozen? ⟨g, p * 128 + q, none⟩ = false := by
  refine ⟨?_, frozen_of_row w g _ _ _ h⟩
  rw [cell_of_row w g (p * 128 + q) _ _ (0, 0) h]
  simp [sqOf_at f hp hq]
theorem Sq.set (h : Sq w g f) {p q : Nat} (hq : q < 128) : Sq (w.setCell ⟨g, p * 128 + q, none⟩ (.bool true)) g fun a b => f a b || (a == p && b == q) := by
  have := heap_setCell_same w g (p * 128 + q) _ _ (Value.bool true) h
  unfold Sq
  rw [this, ← sqOf_set f hq]
  simp [List.map_set]
theorem Sq.kept (h : Sq w g f) (hb : Below w.heap.size w w') : Sq w' g f := (hb.block g (heap_lt h)).trans h
theorem Sq.keptT (h : Sq w g f) (hk : KeptT 142 w w') : Sq w' g f := hk g _ h
end
theorem seenE {E : List Ent} {e : Ent} (p q : Nat) (h1 : e.p = p) (h2 : e.q = q) : (fun a b => decide (hasE E a b) || (a == p && b == q)) = fun a b => decide (hasE (E ++ [e]) a b) := by
  funext a b
  have : hasE (E ++ [e]) a b ↔ hasE E a b ∨ (a = p ∧ b = q) := by
    unfold hasE
    rw [List.map_append, List.mem_append]
    constructor
    · rintro (h | h)
      · exact .inl h
      · simp [Ent.pr, h1, h2] at h; exact .inr h
    · rintro (h | ⟨rfl, rfl⟩)
      · exact .inl h
      · exact .inr (by simp [Ent.pr, h1, h2])
  by_cases h3 : hasE E a b
  · simp [h3, this]
  · by_cases h4 : a = p ∧ b = q
    · obtain ⟨rfl, rfl⟩ := h4; simp [this]
    · have h5 : ¬ hasE (E ++ [e]) a b := fun h => (this.1 h).elim h3 h4
      rw [decide_eq_false h3, decide_eq_false h5, Bool.false_or]
      by_cases h6 : a = p
      · have h7 : ¬ b = q := fun h => h4 ⟨h6, h⟩
        simp [h7]
      · simp [h6]
theorem sq_nil : (fun (_ _ : Nat) => false) = fun a b => decide (hasE [] a b) := by
  funext a b; simp [hasE]
theorem Sq.new (w : World) : Sq (w.alloc (.cells Try.zeroCells142 142)) w.heap.size (fun _ _ => false) := by
  have := heap_alloc_new w (.cells Try.zeroCells142 142)
  unfold Sq
  rw [this, sq_zero]
  have e : sqOf (fun _ _ => false) = List.replicate 16384 false := by
    unfold sqOf
    rw [List.map_const', List.length_range]
  rw [e]
end Go.Proofs.Ytogcecfeofbbnaa
end

section
/- slices.Reverse of an owned row. -/
namespace Go.Proofs.Ytogcecfeofbbnaa
open Go.RowKit

/-- The list when t numbers from each end have been exchanged. -/
def rv (xs : List Int) (t : Nat) : List Int := (List.range xs.length).map fun m => if m < t ∨ xs.length ≤ m + t then xs.getD (xs.length - 1 - m) 0 else xs.getD m 0

theorem rv_len (xs : List Int) (t : Nat) : (rv xs t).length = xs.length := by unfold rv; simp
theorem rv_get (xs : List Int) (t m : Nat) (h : m < xs.length) : (rv xs t)[m]? = some (if m < t ∨ xs.length ≤ m + t then xs.getD (xs.length - 1 - m) 0 else xs.getD m 0) := by
  unfold rv; simp [h]
theorem rv_zero (xs : List Int) : rv xs 0 = xs := by
  apply List.ext_getElem?
  intro m
  rcases Nat.lt_or_ge m xs.length with h | h
  · rw [rv_get xs 0 m h, if_neg (by omega)]; simp [List.getD, h]
  · rw [List.getElem?_eq_none (by rw [rv_len]; exact h), List.getElem?_eq_none h]
theorem rv_end (xs : List Int) (t : Nat) (ht : xs.length ≤ 2 * t + 1) : rv xs t = xs.reverse := by
  apply List.ext_getElem?
  intro m
  rcases Nat.lt_or_ge m xs.length with h | h
  · rw [rv_get xs t m h, List.getElem?_reverse h]
    have h1 : xs.length - 1 - m < xs.length := by omega
    by_cases hc : m < t ∨ xs.length ≤ m + t
    · rw [if_pos hc]; simp [List.getD, h1]
    · rw [if_neg hc]
      have : xs.length - 1 - m = m := by omega
      rw [this]; simp [List.getD, h]
  · rw [List.getElem?_eq_none (by rw [rv_len]; exact h), List.getElem?_eq_none (by simpa using h)]
theorem rv_lo (xs : List Int) (t : Nat) (h : 2 * t + 1 < xs.length) : (rv xs t).getD t 0 = xs[t]?.getD 0 := by
  rw [List.getD, rv_get xs t t (by omega), if_neg (by omega)]; simp
theorem rv_hi (xs : List Int) (t : Nat) (h : 2 * t + 1 < xs.length) : (rv xs t).getD (xs.length - 1 - t) 0 = xs[xs.length - 1 - t]?.getD 0 := by
  rw [List.getD, rv_get xs t _ (by omega), if_neg (by omega)]; simp
theorem rv_step (xs : List Int) (t : Nat) (h : 2 * t + 1 < xs.length) : ((rv xs t).set t (xs[xs.length - 1 - t]?.getD 0)).set (xs.length - 1 - t) (xs[t]?.getD 0) = rv xs (t + 1) := by
  apply List.ext_getElem?
  intro m
  rcases Nat.lt_or_ge m xs.length with hm | hm
  · rw [rv_get xs (t + 1) m hm, List.getElem?_set, List.getElem?_set, rv_get xs t m hm]
    simp only [List.length_set, rv_len]
    by_cases h1 : xs.length - 1 - t = m
    · rw [if_pos h1, if_pos (by omega), if_pos (by omega)]
      have : xs.length - 1 - m = t := by omega
      rw [this]; simp
    · rw [if_neg h1]
      by_cases h2 : t = m
      · rw [if_pos h2, if_pos (by omega), if_pos (by omega), h2]; simp
      · rw [if_neg h2]
        by_cases h3 : m < t ∨ xs.length ≤ m + t
        · rw [if_pos h3, if_pos (by omega)]
        · rw [if_neg h3, if_neg (by omega)]
  · rw [List.getElem?_eq_none (by simpa [rv_len] using hm), List.getElem?_eq_none (by rw [rv_len]; exact hm)]

set_option maxHeartbeats 1000000 in
theorem reverse (A : Option Addr) (n c base : Nat) (xs : List Int) (w : World) (hm : n ≤ 17592186044416) (h : Owned w base (.slice A n c) xs) :
    Calls Try.prog 125 #[.slice A n c] w fun e w' => e = .returned (.tuple #[]) ∧ Owned w' base (.slice A n c) xs.reverse ∧ Below base w w' := by
  have hn : xs.length = n := by obtain ⟨A', c', e⟩ := h.form; cases e; rfl
  have L := Lib.hid hn
  rw [← rv_zero xs] at h
  clear hn
  go_enter Try.func125, Try.ntmps125
  go_wp2
  go_loopw [2, 3] (fun i j wr => ∃ (t : Nat) (jj : Int), (2 * t ≤ n + 1) ∧ i = .int .i64 t ∧ jj = (n : Int) - 1 - t ∧ j = .int .i64 jj ∧ Owned wr base (.slice A n c) (rv xs t) ∧ Below base w wr) (fun i _ _ => n - (intOf i).toNat)
  case atStart => exact ⟨0, _, by omega, rfl, by simp, rfl, h, Below.refl _ _⟩
  case round =>
    clear h
    obtain ⟨t, jj, ht, rfl, hjj, rfl, hown, hbr⟩ := hrel
    by_cases hlt : 2 * t + 1 < n
    · obtain ⟨q, hq⟩ : ∃ q : Nat, q = n - 1 - t := ⟨_, rfl⟩
      obtain rfl : jj = (q : Int) := by omega
      have hqn : q < n := by omega
      have htq : t < q := by omega
      have htn : t < n := by omega
      obtain ⟨g, hA, hg1, hg2, hfr⟩ := hown.head (by omega)
      subst hA
      have hI := hown.ints (by rw [rv_len, L.out]; exact hm)
      obtain ⟨g', o', e, _, hc1⟩ := hI.at_ (k := t) (by omega)
      cases e
      obtain ⟨g', o', e, _, hc2⟩ := hI.at_ (k := q) (by omega)
      cases e
      have hst := (hown.stored t (xs[q]?.getD 0)).stored q (xs[t]?.getD 0)
      have hstep := rv_step xs t (by rw [L.out]; exact hlt)
      have h1 := rv_lo xs t (by rw [L.out]; exact hlt)
      have h2 := rv_hi xs t (by rw [L.out]; exact hlt)
      rw [L.out, ← hq] at hstep h2
      rw [h1, Nat.zero_add] at hc1
      rw [h2, Nat.zero_add] at hc2
      rw [hstep] at hst
      have HST := Lib.hid hst
      have HQ := Lib.hid hq
      have f1 := hfr t
      have f2 := hfr q
      clear hstep h1 h2 hI hfr hst hq hjj hown
      go_wp2
      go_region
      go_wp2
      go_roundw
      case rel => exact ⟨t + 1, _, by omega, by go_num, by have := HQ.out; omega, rfl, HST.out, ((hbr.setCell (by exact hg1) _).setCell (by exact hg1) _).drew⟩
      case measure => simp [intOf]; omega
    · have hend := Lib.hid (rv_end xs t (by rw [L.out]; omega))
      have hge : jj ≤ (t : Int) := by omega
      clear hjj
      go_wp2
      go_end0
      exact ⟨rfl, by rw [← hend.out]; exact hown, hbr⟩
end Go.Proofs.Ytogcecfeofbbnaa
end

section
/- The word of an arrival. -/
namespace Go.Proofs.Ytogcecfeofbbnaa
open Go.RowKit

theorem infoa : (Try.prog.info? 139).map (fun i => (i.zero, i.size, i.bytes)) = some (some (.agg #[.int .i64 0, .int .i64 0, .int .i64 0, .int .i64 0]), 4, 32) := by kernel_rfl
def cellsA (e : Ent) : List Value := [.int .i64 e.p, .int .i64 e.q, .int .i64 e.j, .int .i64 e.x]
theorem cellsA_at {E : List Ent} {k : Nat} (hk : k < E.length) : (E.map cellsA).getD k [] = cellsA (E.getD k Ent.zero) := by
  rw [List.getD_eq_getElem?_getD, List.getD_eq_getElem?_getD, List.getElem?_map, List.getElem?_eq_getElem hk]; rfl
/-- A row of arrivals in its block, to be read. -/
def Arv (w : World) (g : Nat) (E : List Ent) : Prop := g < w.heap.size ∧ ∀ k, k < E.length → w.cell? ⟨g, k * 4, none⟩ = some (.int .i64 (E.getD k Ent.zero).p) ∧ w.cell? ⟨g, k * 4 + 1, none⟩ = some (.int .i64 (E.getD k Ent.zero).q) ∧ w.cell? ⟨g, k * 4 + 2, none⟩ = some (.int .i64 (E.getD k Ent.zero).j) ∧ w.cell? ⟨g, k * 4 + 3, none⟩ = some (.int .i64 (E.getD k Ent.zero).x)
theorem Arv.below {w w' : World} {g : Nat} {E : List Ent} (h : Arv w g E) (hb : Below w.heap.size w w') : Arv w' g E := by
  refine ⟨Nat.lt_of_lt_of_le h.1 hb.size, fun k hk => ?_⟩
  obtain ⟨a, b, c, d⟩ := h.2 k hk
  exact ⟨(hb.cell (block_lt a)).trans a, (hb.cell (block_lt b)).trans b, (hb.cell (block_lt c)).trans c, (hb.cell (block_lt d)).trans d⟩
theorem Rws.arv {w : World} {base : Nat} {v : Value} {E : List Ent} (h : Rws w base 139 4 v (E.map cellsA)) (hE : 0 < E.length) : ∃ g c, v = .slice (some ⟨g, 0, none⟩) E.length c ∧ base ≤ g ∧ Arv w g E := by
  obtain ⟨g, c, rfl, hb, hg, _, hc⟩ := h.at_ (by rw [List.length_map]; exact hE)
  rw [List.length_map] at hc ⊢
  refine ⟨g, c, rfl, hb, hg, fun k hk => ?_⟩
  have h0 := hc k 0 hk (by decide)
  have h1 := hc k 1 hk (by decide)
  have h2 := hc k 2 hk (by decide)
  have h3 := hc k 3 hk (by decide)
  rw [cellsA_at hk] at h0 h1 h2 h3
  exact ⟨h0, h1, h2, h3⟩
theorem Ens.only {n m s t : Nat} {E : List Ent} (h : Ens n m s t E) {k : Nat} (hk : k < E.length) (h0 : 0 < k) : ¬ ((E.getD k Ent.zero).p = s ∧ (E.getD k Ent.zero).q = t) := by
  rintro ⟨h1, h2⟩
  obtain ⟨h3, h4, _⟩ := h.z
  have hnd := h.nd
  have hl : (E.map Ent.pr).length = E.length := by simp
  have e : (E.map Ent.pr)[k]'(by omega) = (E.map Ent.pr)[0]'(by omega) := by
    rw [List.getD_eq_getElem?_getD, List.getElem?_eq_getElem hk] at h1 h2
    rw [List.getD_eq_getElem?_getD, List.getElem?_eq_getElem h.ne] at h3 h4
    simp only [List.getElem_map]
    exact Prod.ext (h1.trans h3.symm) (h2.trans h4.symm)
  exact (List.pairwise_iff_getElem.1 hnd 0 k (by omega) (by omega) h0) e.symm

/-- A pair in its own block. -/
def Pb (w : World) (b p q : Nat) : Prop := w.heap[b]? = some (.cells #[.int .i64 p, .int .i64 q] 114 (0, 0))
theorem Pb.cells {w : World} {b p q : Nat} (h : Pb w b p q) : w.cell? ⟨b, 0, none⟩ = some (.int .i64 p) ∧ w.cell? ⟨b, 1, none⟩ = some (.int .i64 q) := by
  refine ⟨?_, ?_⟩
  · rw [cell_of_row w b 0 _ _ (0, 0) h]; rfl
  · rw [cell_of_row w b 1 _ _ (0, 0) h]; rfl
theorem Pb.below {w w' : World} {b p q : Nat} (h : Pb w b p q) (hb : Below w.heap.size w w') : Pb w' b p q := (hb.block b (heap_lt h)).trans h
theorem Pb.new (w : World) (p q : Nat) : Pb (w.alloc (.cells #[.int .i64 p, .int .i64 q] 114)) w.heap.size p q := heap_alloc_new w _

set_option maxHeartbeats 4000000 in
set_option maxRecDepth 100000 in
theorem paccess (g c k n m s t : Nat) (E : List Ent) (w : World) (hR : Arv w g E) (hE : Ens n m s t E) (hk : k < E.length) (hl : E.length ≤ 1048576) :
    Calls Try.prog 113 #[.slice (some ⟨g, 0, none⟩) E.length c, .int .i64 k] w fun e w' => ∃ A' c', e = .returned (.slice A' (E.getD k Ent.zero).w.length c') ∧ Owned w' w.heap.size (.slice A' (E.getD k Ent.zero).w.length c') (E.getD k Ent.zero).w ∧ Below w.heap.size w w' := by
  have h0 := hE.ne
  obtain ⟨a0, a1, _, _⟩ := hR.2 0 h0
  obtain ⟨z0, z1, z2⟩ := hE.z
  rw [z0] at a0
  rw [z1] at a1
  rw [Nat.zero_mul] at a0
  rw [Nat.zero_mul] at a1
  have a1 : w.cell? ⟨g, 1, none⟩ = some (.int .i64 t) := a1
  clear z0 z1
  obtain ⟨W, hW⟩ : ∃ W, W = (E.getD k Ent.zero).w := ⟨_, rfl⟩
  have HWW := Lib.hid hW
  rw [← hW]
  clear hW
  have HWL := Lib.hid (show W.length ≤ 1048576 by rw [HWW.out]; have := hE.wl k hk; omega)
  have hwl := HWL.out
  have HR := Lib.hid hR
  have HE := Lib.hid hE
  have HZ2 := Lib.hid z2
  clear hR hE z2
  go_enter Try.func113, Try.ntmps113
  go_wp2
  clear a0 a1
  go_loopw [1, 5, 6] (fun v1 v5 v6 wr => ∃ (j : Nat) (L : List Int) (A2 : Option Addr) (c2 b : Nat), v1 = .int .i64 j ∧ v5 = .slice A2 L.length c2 ∧ v6 = .pointer (some ⟨b, 0, none⟩) ∧ j < E.length ∧ W = (E.getD j Ent.zero).w ++ L.reverse ∧ Owned wr w.heap.size (.slice A2 L.length c2) L ∧ Pb wr b s t ∧ Below w.heap.size w wr) (fun v1 _ _ _ => (intOf v1).toNat)
  case atStart => exact ⟨k, [], none, 0, w.heap.size, rfl, rfl, rfl, hk, by rw [HWW.out]; simp, World.ownsRow_nil _ _ _ _, Pb.new _ _ _, alloc_below _ _⟩
  case round =>
    obtain ⟨j, L, A2, c2, b, rfl, rfl, rfl, hj, hW, hO, hP, hbr⟩ := hrel
    obtain ⟨a0, a1, a2, a3⟩ := (HR.out.below hbr).2 j hj
    obtain ⟨b0, b1⟩ := hP.cells
    have hLW : L.length ≤ W.length := by rw [hW, List.length_append, List.length_reverse]; omega
    have HW := Lib.hid hW
    have HO := Lib.hid hO
    have HP := Lib.hid hP
    have HBR := Lib.hid hbr
    clear hW hO hbr hP
    by_cases hj0 : j = 0
    · subst hj0
      have hWL : W = L.reverse := by rw [HW.out, HZ2.out]; rfl
      have HWL2 := Lib.hid hWL
      obtain ⟨y1, y2, _⟩ := HE.out.z
      rw [y1] at a0
      rw [y2] at a1
      clear y1 y2 hWL a2 a3
      rw [Nat.zero_mul] at a0 a1
      have a1 : wr.cell? ⟨g, 1, none⟩ = some (.int .i64 t) := a1
      have h0' : (0 : Nat) < E.length := h0
      go_wp2
      go_quiet (fail)
      go_wp2_with fail
      refine (reverse A2 L.length c2 w.heap.size L _ (by omega) (HO.out.kept (below_drewN (Below.refl _ wr) _))).mono ?_
      rintro e w2 ⟨rfl, hO2, hb2⟩
      rw [← HWL2.out] at hO2
      have hbb := (below_drewN HBR.out _).trans hb2
      have hll : L.length = W.length := by rw [HWL2.out, List.length_reverse]
      go_wp2
      go_ret
      exact ⟨A2, c2, by rw [← hll]; rfl, by rw [← hll]; exact hO2, hbb⟩
    · have hno := HE.out.only hj (by omega)
      obtain ⟨hb1, hb2⟩ := HE.out.bk j (by omega) hj
      have HB1 := Lib.hid hb1
      have HB2 := Lib.hid hb2
      clear hb1 hb2
      generalize (E.getD j Ent.zero).p = p at a0 hno
      generalize (E.getD j Ent.zero).q = q at a1 hno
      generalize hX : (E.getD j Ent.zero).x = x at a3 HB2
      generalize hJ : (E.getD j Ent.zero).j = jj at a2 HB1 HB2
      have HJ := Lib.hid hJ
      clear hX hJ
      have hlj : jj < E.length := by have := HB1.out; omega
      have HLJ := Lib.hid hlj
      have hcase : ((p : Int) == (s : Int)) = false ∨ (((p : Int) == (s : Int)) = true ∧ ((q : Int) == (t : Int)) = false) := by
        by_cases h1 : p = s
        · exact .inr ⟨by simp [h1], by rw [beq_eq_false_iff_ne]; intro h2; exact hno ⟨h1, by omega⟩⟩
        · exact .inl (by rw [beq_eq_false_iff_ne]; omega)
      clear hno hlj
      rcases hcase with hc | ⟨hc, hc2⟩
      all_goals
        go_wp2
        go_quiet (fail)
        have bq : Below wr.heap.size wr (wr.drewN nq) := below_drewN (Below.refl _ wr) nq
        have hbq := HBR.out.trans (bq.mono HBR.out.size)
        obtain ⟨A3, c3, w3, hr, hO3, hb3, hk3⟩ := run_append_one (HO.out.kept bq) (x : Int) hbq.size (by omega)
        have HO3 := Lib.hid hO3
        have hbr3 := hbq.trans hb3
        have HP3 := Lib.hid (show Pb w3 b s t from hk3 b _ _ (HP.out.below bq) (by decide))
        obtain ⟨p0, p1⟩ := HP3.out.cells
        obtain ⟨_, _, d2, _⟩ := (HR.out.below hbr3).2 j hj
        rw [HJ.out] at d2
        have d3 := ((alloc_below w3 (.cells #[.int .i64 s, .int .i64 t] 114)).cell (block_lt d2)).trans d2
        clear d2
        have HBR3 := Lib.hid hbr3
        clear hO3 hb3 hk3 hbr3 bq hbq hc
        try clear hc2
        go_wp2_with (at_builtin; refine Lib.wpList_append_run _ rfl _ _ _ _ rfl _ _ rfl rfl _ _ hr ?_)
        go_wp2
        go_roundw
        case rel => exact ⟨jj, L ++ [(x : Int)], A3, c3, w3.heap.size, by go_num, by rw [List.length_append]; rfl, rfl, HLJ.out, by rw [HW.out, HB2.out, List.reverse_append, List.append_assoc]; rfl, by rw [List.length_append]; exact HO3.out.kept (alloc_below _ _), Pb.new _ _ _, HBR3.out.trans ((alloc_below _ _).mono HBR3.out.size)⟩
        case measure => have := HB1.out; simp [intOf]; omega
end Go.Proofs.Ytogcecfeofbbnaa
end

section
/- The first distinguishing word. -/
namespace Go.Proofs.Ytogcecfeofbbnaa
open Go.RowKit

theorem run_append_arr {w : World} {base : Nat} {v : Value} {E : List Ent} (h : Rws w base 139 4 v (E.map cellsA)) (e : Ent) (hbase : base ≤ w.heap.size) (hn : E.length < 1099511627776) :
    ∃ A c w1, (Builtin.append_ #[140, 140] 140 #[v, .slice (some ⟨w.heap.size, 0, none⟩) 1 1]).run Try.prog (w.alloc (.cells #[.int .i64 e.p, .int .i64 e.q, .int .i64 e.j, .int .i64 e.x] 139)) = .ok (.slice A (E.length + 1) c) w1 ∧
      Rws w1 base 139 4 (.slice A (E.length + 1) c) ((E ++ [e]).map cellsA) ∧ Below base w w1 ∧ ∀ t', t' ≠ 139 → KeptT t' w w1 := by
  obtain ⟨i, hi, hz0, hz1, hz2⟩ := info_parts infoa
  have hl : (E.map cellsA).length = E.length := by simp
  obtain ⟨A, c, w1, h1, h2, h3, h4⟩ := run_append_rws Try.underlying140 hi hz0 hz1 hz2 rfl (by decide) (by decide) h (cellsA e) rfl (fun u hu => by simp [cellsA] at hu; rcases hu with rfl | rfl | rfl | rfl <;> rfl) hbase (by rw [hl]; exact hn)
  rw [hl] at h1 h2
  exact ⟨A, c, w1, h1, by rw [List.map_append]; exact h2, h3, h4⟩

/-- What the search keeps in memory. -/
structure Fst (w3 W : World) (b3 gs : Nat) (v : Value) (E : List Ent) : Prop where
  row : Rws W b3 139 4 v (E.map cellsA)
  sq : Sq W gs (fun a b => decide (hasE E a b))
  bel : Below b3 w3 W
section
variable {w3 W W' : World} {b3 gs : Nat} {v : Value} {E : List Ent}
theorem Fst.on (h : Fst w3 W b3 gs v E) (hb : Below W.heap.size W W') (hz : b3 ≤ W.heap.size) : Fst w3 W' b3 gs v E := ⟨h.row.kept hb, h.sq.kept hb, h.bel.trans (hb.mono hz)⟩
theorem Fst.mark (hr : Rws W b3 139 4 v (E.map cellsA)) (hs : Sq W gs (fun a b => decide (hasE E a b))) (hb : Below b3 w3 W) (hgs : b3 ≤ gs) (e : Ent) (hq : e.q < 128) :
    Rws (W.setCell ⟨gs, e.p * 128 + e.q, none⟩ (.bool true)) b3 139 4 v (E.map cellsA) ∧ Sq (W.setCell ⟨gs, e.p * 128 + e.q, none⟩ (.bool true)) gs (fun a b => decide (hasE (E ++ [e]) a b)) ∧ Below b3 w3 (W.setCell ⟨gs, e.p * 128 + e.q, none⟩ (.bool true)) := by
  refine ⟨hr.keptT (KeptT.off hs (by decide) (.bool true)), ?_, hb.setCell (p := ⟨gs, e.p * 128 + e.q, none⟩) hgs (.bool true)⟩
  have h1 := hs.set (p := e.p) (q := e.q) hq
  rw [seenE e.p e.q rfl rfl] at h1
  exact h1
theorem Fst.push (h : Fst w3 W b3 gs v E) (hgs : b3 ≤ gs) (hz : b3 ≤ W.heap.size) (e : Ent) (hq : e.q < 128) (hn : E.length < 1099511627776) :
    ∃ A c W1, (Builtin.append_ #[140, 140] 140 #[v, .slice (some ⟨W.heap.size, 0, none⟩) 1 1]).run Try.prog ((W.setCell ⟨gs, e.p * 128 + e.q, none⟩ (.bool true)).alloc (.cells #[.int .i64 e.p, .int .i64 e.q, .int .i64 e.j, .int .i64 e.x] 139)) = .ok (.slice A (E.length + 1) c) W1 ∧
      Fst w3 W1 b3 gs (.slice A (E.length + 1) c) (E ++ [e]) ∧ KeptT 114 W W1 := by
  obtain ⟨h1, h2, h3⟩ := Fst.mark h.row h.sq h.bel hgs e hq
  have hz2 : (W.setCell ⟨gs, e.p * 128 + e.q, none⟩ (.bool true)).heap.size = W.heap.size := by simp
  obtain ⟨A, c, W1, r1, r2, r3, r4⟩ := run_append_arr h1 e (by rw [hz2]; exact hz) hn
  rw [hz2] at r1
  have hk1 : KeptT 114 W (W.setCell ⟨gs, e.p * 128 + e.q, none⟩ (.bool true)) := KeptT.off h.sq (by decide) (.bool true)
  exact ⟨A, c, W1, r1, ⟨r2, h2.keptT (r4 _ (by decide)), h3.trans r3⟩, hk1.trans (r4 _ (by decide))⟩
end

theorem Pb.made (w : World) (k p q : Nat) : Pb ((((w.alloc (.cells #[.int .i64 0, .int .i64 0] 114)).drewN k).setCell ⟨w.heap.size, 0, none⟩ (.int .i64 p)).setCell ⟨w.heap.size, 1, none⟩ (.int .i64 q)) w.heap.size p q ∧
    Below w.heap.size w ((((w.alloc (.cells #[.int .i64 0, .int .i64 0] 114)).drewN k).setCell ⟨w.heap.size, 0, none⟩ (.int .i64 p)).setCell ⟨w.heap.size, 1, none⟩ (.int .i64 q)) := by
  have h0 : ((w.alloc (.cells #[.int .i64 0, .int .i64 0] 114)).drewN k).heap[w.heap.size]? = some (.cells #[.int .i64 0, .int .i64 0] 114 (0, 0)) := heap_alloc_new w _
  refine ⟨?_, (((below_drewN (alloc_below w _) k).setCell (p := ⟨w.heap.size, 0, none⟩) (Nat.le_refl _) _).setCell (p := ⟨w.heap.size, 1, none⟩) (Nat.le_refl _) _)⟩
  exact heap_setCell_same _ _ 1 _ _ (.int .i64 q) (heap_setCell_same _ _ 0 _ _ (.int .i64 p) h0)

set_option maxHeartbeats 8000000 in
set_option maxRecDepth 100000 in
theorem pfirst (i st1 st2 n m s t : Nat) (A B C D : Option Addr) (c d c2 d2 : Nat) (nx1 ot1 nx2 ot2 : List (List Int)) (w : World) (hx1 : Lists w A n nx1) (ho1 : Lists w B n ot1) (hx2 : Lists w C m nx2) (ho2 : Lists w D m ot2) (hM : Mok i st1 n nx1 ot1) (hN : Mok i st2 m nx2 ot2) (hs : s < n) (ht : t < m) :
    Calls Try.prog 89 #[.agg #[.int .i64 i, .int .i64 st1, .slice A n c, .slice B n d], .agg #[.int .i64 i, .int .i64 st2, .slice C m c2, .slice D m d2], .agg #[.int .i64 s, .int .i64 t]] w fun e w' => ∃ A' c',
      e = .returned (.tuple #[.slice A' ((dst nx1 ot1 nx2 ot2 i n m s t).getD []).length c', .bool (dst nx1 ot1 nx2 ot2 i n m s t).isSome]) ∧ Owned w' w.heap.size (.slice A' ((dst nx1 ot1 nx2 ot2 i n m s t).getD []).length c') ((dst nx1 ot1 nx2 ot2 i n m s t).getD []) ∧ Below w.heap.size w w' := by
  have hn2 := hM.n2
  have hm2 := hN.n2
  have hi64 := hM.i2
  have hs8 : s < 128 := by omega
  have ht8 : t < 128 := by omega
  obtain ⟨R, hR⟩ : ∃ R, R = dst nx1 ot1 nx2 ot2 i n m s t := ⟨_, rfl⟩
  rw [← hR]
  have HR := Lib.hid (show srch nx1 nx2 ot1 ot2 i (n * m) [⟨s, t, 0, 0, []⟩] 0 = R from hR.symm)
  clear hR
  obtain ⟨w3, hw3⟩ : ∃ w3, w3 = ((w.alloc (.cells #[.int .i64 i, .int .i64 st1, .slice A n c, .slice B n d] 24)).alloc (.cells #[.int .i64 i, .int .i64 st2, .slice C m c2, .slice D m d2] 24)).alloc (.cells #[.int .i64 s, .int .i64 t] 114) := ⟨_, rfl⟩
  obtain ⟨w5, hw5⟩ : ∃ w5, w5 = (w3.alloc (.cells #[.int .i64 s, .int .i64 t, .int .i64 0, .int .i64 0] 139)).alloc (.cells Try.zeroCells142 142) := ⟨_, rfl⟩
  have hz3 : w3.heap.size = w.heap.size + 1 + 1 + 1 := by rw [hw3]; simp
  have hz5 : w5.heap.size = w.heap.size + 1 + 1 + 1 + 1 + 1 := by rw [hw5]; simp [hz3]
  have hb3 : Below w.heap.size w w3 := by rw [hw3]; exact bt (bt (alloc_below _ _) (alloc_below _ _)) (alloc_below _ _)
  have hb5 : Below (w.heap.size + 1 + 1 + 1) w3 w5 := by rw [hw5, ← hz3]; exact bt (alloc_below _ _) (alloc_below _ _)
  have hA3 : Mblk w3 w.heap.size (.int .i64 i) (.int .i64 st1) (.slice A n c) (.slice B n d) := by
    rw [hw3]
    refine Mblk.kept (mealy_box w (.int .i64 i) (.int .i64 st1) (.slice A n c) (.slice B n d)) (bt (alloc_below _ _) (alloc_below _ _)) (by simp)
  have hB3 : Mblk w3 (w.heap.size + 1) (.int .i64 i) (.int .i64 st2) (.slice C m c2) (.slice D m d2) := by
    rw [hw3]
    have := mealy_box (w.alloc (.cells #[.int .i64 i, .int .i64 st1, .slice A n c, .slice B n d] 24)) (.int .i64 i) (.int .i64 st2) (.slice C m c2) (.slice D m d2)
    refine Mblk.kept ?_ (alloc_below _ _) (by simp)
    simpa using this
  have hP3 : Pb w3 (w.heap.size + 1 + 1) s t := by
    rw [hw3]
    have := Pb.new ((w.alloc (.cells #[.int .i64 i, .int .i64 st1, .slice A n c, .slice B n d] 24)).alloc (.cells #[.int .i64 i, .int .i64 st2, .slice C m c2, .slice D m d2] 24)) s t
    simpa using this
  have hR5 : Rws w5 (w.heap.size + 1 + 1 + 1) 139 4 (.slice (some ⟨w.heap.size + 1 + 1 + 1, 0, none⟩) 1 1) ([(⟨s, t, 0, 0, []⟩ : Ent)].map cellsA) := by
    rw [hw5]
    have := Rws.one w3 (w.heap.size + 1 + 1 + 1) 139 (cellsA ⟨s, t, 0, 0, []⟩) (by omega)
    rw [hz3] at this
    exact this.kept (alloc_below _ _)
  have hS5 : Sq w5 (w.heap.size + 1 + 1 + 1 + 1) (fun _ _ => false) := by
    rw [hw5]
    have := Sq.new (w3.alloc (.cells #[.int .i64 s, .int .i64 t, .int .i64 0, .int .i64 0] 139))
    simpa [hz3] using this
  have hP5 : Pb w5 (w.heap.size + 1 + 1) s t := (hb5.block _ (by omega)).trans hP3
  obtain ⟨p0, p1⟩ := hP5.cells
  obtain ⟨q0, q1⟩ := hS5.at_ hs8 ht8
  have HW3 := Lib.hid hw3
  have HW5 := Lib.hid hw5
  have HA3 := Lib.hid hA3
  have HB3 := Lib.hid hB3
  have HR5 := Lib.hid hR5
  have HS5 := Lib.hid hS5
  have H3 := Lib.hid hb3
  have H5 := Lib.hid hb5
  have HZ3 := Lib.hid hz3
  have HZ5 := Lib.hid hz5
  obtain ⟨gs, hgs⟩ : ∃ gs, gs = w.heap.size + 1 + 1 + 1 + 1 := ⟨_, rfl⟩
  obtain ⟨g3, hg3⟩ : ∃ g3, g3 = w.heap.size + 1 + 1 + 1 := ⟨_, rfl⟩
  rw [← hgs] at q0 q1
  have HGS := Lib.hid hgs
  have HG3 := Lib.hid hg3
  clear hw3 hw5 hA3 hB3 hP3 hR5 hS5 hP5 hz3 hz5 hb3 hb5 hgs hg3
  go_enter Try.func89, Try.ntmps89
  go_wp2
  rw [← HW3.out, ← HW5.out, ← HGS.out, ← HG3.out]
  go_region
  have HF6 := Lib.hid (show Fst w3 ((w5.setCell ⟨gs, s * 128 + t, none⟩ (.bool true)).drew) g3 gs (.slice (some ⟨g3, 0, none⟩) 1 1) [⟨s, t, 0, 0, []⟩] by
    have h1 := HS5.out
    rw [sq_nil, ← HGS.out] at h1
    have h2 := h1.set (p := s) (q := t) ht8
    rw [seenE (e := ⟨s, t, 0, 0, []⟩) s t rfl rfl] at h2
    refine ⟨?_, h2, ?_⟩
    · have h3 := HR5.out
      rw [← HG3.out] at h3
      exact (h3.keptT (KeptT.off h1 (by decide) (.bool true))).keptT (KeptT.of_below ((Below.refl _ _).drew))
    · have h4 := H5.out
      rw [← HG3.out] at h4
      exact (h4.setCell (p := ⟨gs, s * 128 + t, none⟩) (by show g3 ≤ gs; rw [HGS.out, HG3.out]; omega) (.bool true)).drew)
  have hg3 : w.heap.size + 3 = g3 := by rw [HG3.out]
  have hgs3 : g3 ≤ gs := by rw [HGS.out, HG3.out]; omega
  have hz3 : w3.heap.size = g3 := by rw [HZ3.out, HG3.out]
  have HA3 := Lib.hid (show Mblk w3 w.heap.size (.int .i64 i) (.int .i64 st1) (.slice A n c) (.slice B n d) from HA3.out)
  clear p0 p1 q0 q1 HS5 HR5 H5 HZ5 HW5 HW3 HZ3
  go_wp2
  generalize (w5.setCell ⟨gs, s * 128 + t, none⟩ (.bool true)).drew = w6 at HF6
  go_loopw [8, 10] (fun v8 v10 wr => ∃ (j : Nat) (E : List Ent) (A' : Option Addr) (c' : Nat), v10 = .int .i64 j ∧ v8 = .slice A' E.length c' ∧ j ≤ E.length ∧ Ens n m s t E ∧ srch nx1 nx2 ot1 ot2 i (n * m) E j = R ∧ Fst w3 wr g3 gs (.slice A' E.length c') E) (fun _ v10 _ => n * m - (intOf v10).toNat)
  case atStart => exact ⟨0, [⟨s, t, 0, 0, []⟩], some ⟨g3, 0, none⟩, 1, rfl, rfl, Nat.zero_le _, Ens.one hs ht, HR.out, HF6.out⟩
  case round =>
    obtain ⟨j, E, A', c', rfl, rfl, hjl, hE, hS, hF⟩ := hrel
    have HE := Lib.hid hE
    have HS := Lib.hid hS
    have hlen := hE.len
    have hnm : n * m ≤ 16384 := Nat.mul_le_mul hn2 hm2
    have hzr : g3 ≤ wr.heap.size := by have := hF.bel.size; omega
    by_cases hlt : j < E.length
    · obtain ⟨g, cg, eA, hg, hArv⟩ := hF.row.arv (by omega)
      cases eA
      have ha := hArv.2 j hlt
      have hpq := hE.lt _ (getDE_mem hlt)
      obtain ⟨e, he⟩ : ∃ e, e = E.getD j Ent.zero := ⟨_, rfl⟩
      rw [← he] at ha hpq
      have HEE := Lib.hid he
      obtain ⟨a0, a1, _, _⟩ := ha
      obtain ⟨hp, hq⟩ := hpq
      obtain ⟨w7, hw7⟩ : ∃ w7, w7 = wr.alloc (.cells #[.int .i64 e.p, .int .i64 e.q] 114) := ⟨_, rfl⟩
      have hb7 := alloc_below wr (.cells #[.int .i64 e.p, .int .i64 e.q] 114)
      have hP7 := Pb.new wr e.p e.q
      rw [← hw7] at hb7 hP7
      have hF7 := hF.on hb7 hzr
      obtain ⟨k0, _⟩ := (HA3.out.kept hF7.bel (by omega)).cells
      rw [hw7] at k0
      obtain ⟨gp, hgp⟩ : ∃ gp, gp = wr.heap.size := ⟨_, rfl⟩
      rw [← hgp] at hP7
      have HW7 := Lib.hid hw7
      have HP7 := Lib.hid hP7
      have HF7 := Lib.hid hF7
      have HGP := Lib.hid hgp
      have hzg : g3 ≤ gp := by omega
      clear hE hS hF hArv he hw7 hb7 hP7 hF7 hgp
      go_wp2
      rw [← HW7.out, ← HGP.out]
      clear a0 a1 k0 
      have HI := Lib.hid (show ∀ x, x ≤ i → Ens n m s t (addS nx1 nx2 j e E x) by rw [HEE.out]; exact addS_ens hM hN HE.out hlt)
      go_loopw [8, 36] (fun v8 v36 wq => ∃ (x : Nat) (A2 : Option Addr) (c2 : Nat), x ≤ i ∧ v36 = .int .i64 x ∧ v8 = .slice A2 (addS nx1 nx2 j e E x).length c2 ∧ fD ot1 ot2 e x = none ∧ Fst w3 wq g3 gs (.slice A2 (addS nx1 nx2 j e E x).length c2) (addS nx1 nx2 j e E x) ∧ Pb wq gp e.p e.q) (fun _ v36 _ => i - (intOf v36).toNat)
      case atStart => exact ⟨0, _, _, Nat.zero_le _, rfl, rfl, rfl, HF7.out, HP7.out⟩
      case round =>
        obtain ⟨x, A2, c3, hx, rfl, rfl, hfd, hF2, hP2⟩ := hrel
        have hE2 := HI.out x hx
        have hlen2 := hE2.len
        obtain ⟨T, hT⟩ := addS_pre (nx1 := nx1) (nx2 := nx2) j e E x
        have hj2 : j < (addS nx1 nx2 j e E x).length := by rw [hT, List.length_append]; omega
        have he2 : (addS nx1 nx2 j e E x).getD j Ent.zero = e := by rw [hT, getDE_pre hlt]; exact HEE.out.symm
        have HE2 := Lib.hid hE2
        have Hj2 := Lib.hid hj2
        have He2 := Lib.hid he2
        have HFD := Lib.hid hfd
        have HF2 := Lib.hid hF2
        have HP2 := Lib.hid hP2
        have hzq : g3 ≤ wr.heap.size := by have := hF2.bel.size; omega
        have hbw : Below w.heap.size w wr := H3.out.trans (hF2.bel.mono (by omega))
        clear hE2 hT hj2 he2 hfd hF2 hP2
        by_cases hxi : x < i
        · obtain ⟨k0, k1, k2, k3, _⟩ := (HA3.out.kept HF2.out.bel (by omega)).cells
          obtain ⟨l0, l1, l2, l3, _⟩ := (HB3.out.kept HF2.out.bel (by omega)).cells
          obtain ⟨p0, p1⟩ := HP2.out.cells
          obtain ⟨gB, oB, B1, nB, cB, eB, hgB, hdB, hrB⟩ := ho1.at_ hp
          obtain ⟨gD, oD, D1, nD, cD, eD, hgD, hdD, hrD⟩ := ho2.at_ hq
          obtain ⟨gA, oA, A1, nA, cA, eA, hgA, hdA, hrA⟩ := hx1.at_ hp
          obtain ⟨gC, oC, C1, nC, cC, eC, hgC, hdC, hrC⟩ := hx2.at_ hq
          have m1 := hrA.1
          have m2 := hrB.1
          have m3 := hrC.1
          have m4 := hrD.1
          have w1 := (hM.row e.p hp).1
          have w2 := (hM.row e.p hp).2.1
          have w3' := (hN.row e.q hq).1
          have w4 := (hN.row e.q hq).2.1
          obtain rfl : i = nA := by omega
          obtain rfl : i = nB := by omega
          obtain rfl : i = nC := by omega
          obtain rfl : i = nD := by omega
          clear m1 m2 m3 m4 w1 w2 w3' w4
          obtain ⟨hB1, iB1, eB1, lB, vB⟩ := hrB.at_ hxi
          obtain ⟨hD1, iD1, eD1, lD, vD⟩ := hrD.at_ hxi
          obtain ⟨hA1, iA1, eA1, lA, vA⟩ := hrA.at_ hxi
          obtain ⟨hC1, iC1, eC1, lC, vC⟩ := hrC.at_ hxi
          clear hrA hrB hrC hrD
          subst eA eB eC eD eA1 eB1 eC1 eD1
          have hdA := (hbw.cell (p := ⟨gA, oA + e.p, none⟩) hgA).trans hdA
          have hdB := (hbw.cell (p := ⟨gB, oB + e.p, none⟩) hgB).trans hdB
          have hdC := (hbw.cell (p := ⟨gC, oC + e.q, none⟩) hgC).trans hdC
          have hdD := (hbw.cell (p := ⟨gD, oD + e.q, none⟩) hgD).trans hdD
          have vA := (hbw.cell (p := ⟨hA1, iA1 + x, none⟩) lA).trans vA
          have vB := (hbw.cell (p := ⟨hB1, iB1 + x, none⟩) lB).trans vB
          have vC := (hbw.cell (p := ⟨hC1, iC1 + x, none⟩) lC).trans vC
          have vD := (hbw.cell (p := ⟨hD1, iD1 + x, none⟩) lD).trans vD
          have rB : (ot1.getD e.p []).getD x 0 = oN ot1 e.p x := rfl
          have rD : (ot2.getD e.q []).getD x 0 = oN ot2 e.q x := rfl
          have rA : (nx1.getD e.p []).getD x 0 = ((nN nx1 e.p x : Nat) : Int) := hM.nN_eq hp hxi
          have rC : (nx2.getD e.q []).getD x 0 = ((nN nx2 e.q x : Nat) : Int) := hN.nN_eq hq hxi
          rw [rB] at vB
          rw [rD] at vD
          rw [rA] at vA
          rw [rC] at vC
          clear rA rB rC rD hgA hgB hgC hgD lA lB lC lD
          by_cases hd : oN ot1 e.p x = oN ot2 e.q x
          · have hee : (oN ot1 e.p x != oN ot2 e.q x) = false := by simpa using hd
            have HXI := Lib.hid hxi
            have HFN := Lib.hid (fD_step HFD.out hd)
            have hp' := hM.nN_lt hp hxi
            have hq' := hN.nN_lt hq hxi
            have HST := Lib.hid (show addS nx1 nx2 j e E (x + 1) = addE (addS nx1 nx2 j e E x) (nxE nx1 nx2 j e x) from rfl)
            obtain ⟨e', hE'⟩ : ∃ e', e' = nxE nx1 nx2 j e x := ⟨_, rfl⟩
            have f1 : nN nx1 e.p x = e'.p := by rw [hE']; rfl
            have f2 : nN nx2 e.q x = e'.q := by rw [hE']; rfl
            have f3 : e'.j = j := by rw [hE']; rfl
            have f4 : e'.x = x := by rw [hE']; rfl
            rw [← hE'] at HST
            rw [f1] at vA hp'
            rw [f2] at vC hq'
            have F3 := Lib.hid f3
            have F4 := Lib.hid f4
            generalize oN ot1 e.p x = y1 at vB hee
            generalize oN ot2 e.q x = y2 at vD hee
            clear hd f1 f2 f3 f4 hE'
            go_wp2
            go_quiet (fail)
            clear hee vB vD hdB hdD
            have hcm : ∀ k o, (wr.drewN k).alloc o = (wr.alloc o).drewN k := fun _ _ => rfl
            have HK := Lib.hid (show ∀ W : World, Below wr.heap.size wr W → W.cell? ⟨w.heap.size, 2, none⟩ = some (.slice (some ⟨gA, oA, none⟩) n c) ∧ W.cell? ⟨w.heap.size + 1, 2, none⟩ = some (.slice (some ⟨gC, oC, none⟩) m c2) ∧ W.cell? ⟨gp, 0, none⟩ = some (.int .i64 e.p) ∧ W.cell? ⟨gp, 1, none⟩ = some (.int .i64 e.q) ∧ W.cell? ⟨gA, oA + e.p, none⟩ = some (.slice (some ⟨hA1, iA1, none⟩) i cA) ∧ W.cell? ⟨gC, oC + e.q, none⟩ = some (.slice (some ⟨hC1, iC1, none⟩) i cC) ∧ W.cell? ⟨hA1, iA1 + x, none⟩ = some (.int .i64 e'.p) ∧ W.cell? ⟨hC1, iC1 + x, none⟩ = some (.int .i64 e'.q) from fun W h =>
              ⟨(h.cell (block_lt k2)).trans k2, (h.cell (block_lt l2)).trans l2, (h.cell (block_lt p0)).trans p0, (h.cell (block_lt p1)).trans p1, (h.cell (block_lt hdA)).trans hdA, (h.cell (block_lt hdC)).trans hdC, (h.cell (block_lt vA)).trans vA, (h.cell (block_lt vC)).trans vC⟩)
            clear k0 k1 k2 k3 l0 l1 l2 l3 p0 p1 hdA hdC vA vC
            go_wp2
            go_region_held3 (fun W => W.cell? ⟨w.heap.size, 2, none⟩ = some (.slice (some ⟨gA, oA, none⟩) n c) ∧ W.cell? ⟨w.heap.size + 1, 2, none⟩ = some (.slice (some ⟨gC, oC, none⟩) m c2) ∧ W.cell? ⟨gp, 0, none⟩ = some (.int .i64 e.p) ∧ W.cell? ⟨gp, 1, none⟩ = some (.int .i64 e.q) ∧ W.cell? ⟨gA, oA + e.p, none⟩ = some (.slice (some ⟨hA1, iA1, none⟩) i cA) ∧ W.cell? ⟨gC, oC + e.q, none⟩ = some (.slice (some ⟨hC1, iC1, none⟩) i cC) ∧ W.cell? ⟨hA1, iA1 + x, none⟩ = some (.int .i64 e'.p) ∧ W.cell? ⟨hC1, iC1 + x, none⟩ = some (.int .i64 e'.q)) (first | exact HK.out _ ((below_drewN (Below.refl _ wr) _).drew) | exact HK.out _ (below_drewN (Below.refl _ wr) _) | exact HK.out _ (below_drewN (alloc_below wr _) _) | exact HK.out _ (((below_drewN (alloc_below wr _) _).setCell (p := ⟨wr.heap.size, 0, none⟩) (Nat.le_refl _) _).setCell (p := ⟨wr.heap.size, 1, none⟩) (Nat.le_refl _) _)) (fail)
            obtain ⟨hPn, hbn⟩ := Pb.made wr (nq + 1) e'.p e'.q
            generalize ((((wr.alloc (.cells #[.int .i64 0, .int .i64 0] 114)).drewN (nq + 1)).setCell ⟨wr.heap.size, 0, none⟩ (.int .i64 e'.p)).setCell ⟨wr.heap.size, 1, none⟩ (.int .i64 e'.q)) = wn at hPn hbn ⊢
            have hFn := HF2.out.on hbn hzq
            have hPp := HP2.out.below hbn
            have hzn : g3 ≤ wn.heap.size := by have := hbn.size; omega
            clear hcm HK hbn hbw HF2 HP2
            obtain ⟨p0, p1⟩ := hPn.cells
            obtain ⟨q0, q1⟩ := hFn.sq.at_ (p := e'.p) (q := e'.q) (by omega) (by omega)
            have hq8 : e'.q < 128 := by omega
            have hp8 : e'.p < 128 := by omega
            have HFn := Lib.hid hFn
            have HPp := Lib.hid hPp
            have HPn := Lib.hid hPn
            clear hFn hPp hPn
            generalize wr.heap.size = gn at p0 p1 HPn ⊢
            by_cases hh : hasE (addS nx1 nx2 j e E x) e'.p e'.q
            · have HAE := Lib.hid (addE_in hh)
              rw [decide_eq_true hh] at q0
              clear hh
              go_wp2
              go_quiet (fail)
              go_wp2
              go_roundw
              case rel => exact ⟨x + 1, A2, c3, HXI.out, by go_num, by rw [HST.out, HAE.out], HFN.out, by rw [HST.out, HAE.out]; exact HFn.out.on (below_drewN (Below.refl _ wn) _) hzn, HPp.out.below (below_drewN (Below.refl _ wn) _)⟩
              case measure => have := HXI.out; simp [intOf]; omega
            · have HAE := Lib.hid (addE_out hh)
              rw [decide_eq_false hh] at q0
              clear hh
              go_wp2
              go_quiet (fail)
              have bq := below_drewN (Below.refl wn.heap.size wn) (nq + 1)
              have hFq := HFn.out.on bq hzn
              obtain ⟨A5, c5, W5, hr, hF5, hk5⟩ := hFq.push hgs3 hzn e' hq8 (by omega)
              rw [F3.out, F4.out] at hr
              have hP15 : Pb ((wn.drewN (nq + 1)).setCell ⟨gs, e'.p * 128 + e'.q, none⟩ (.bool true)) gn e'.p e'.q := KeptT.off hFq.sq (by decide) (.bool true) _ _ (HPn.out.below bq)
              obtain ⟨p2, p3⟩ := hP15.cells
              have HF5 := Lib.hid hF5
              have HP5 := Lib.hid (show Pb W5 gp e.p e.q from hk5 gp _ (HPp.out.below bq))
              have HL5 := Lib.hid (show (addS nx1 nx2 j e E (x + 1)).length = (addS nx1 nx2 j e E x).length + 1 by rw [HST.out, HAE.out, List.length_append]; rfl)
              have hr : (Builtin.append_ #[140, 140] 140 #[.slice A2 (addS nx1 nx2 j e E x).length c3, .slice (some ⟨wn.heap.size, 0, none⟩) 1 1]).run Try.prog _ = _ := hr
              clear hP15 hF5 hk5 hFq bq
              go_wp2
              go_region
              clear p0 p1 q0 q1
              go_wp2_with (at_builtin; refine Lib.wpList_append_run _ rfl _ _ _ _ rfl _ _ rfl rfl _ _ hr ?_)
              clear p2 p3 hr
              go_wp2
              go_roundw
              case rel => exact ⟨x + 1, A5, c5, HXI.out, by go_num, by rw [HL5.out], HFN.out, by rw [HL5.out, HST.out, HAE.out]; exact HF5.out, HP5.out⟩
              case measure => have := HXI.out; simp [intOf]; omega
          · have hne : (oN ot1 e.p x != oN ot2 e.q x) = true := by simpa using hd
            have HRR := Lib.hid (show R = some (e.w ++ [(x : Int)]) by
              rw [← HS.out, srch_hit hM hN HE.out hlt (by rw [← HEE.out]; exact fD_hit HFD.out hd hxi), ← HEE.out])
            generalize oN ot1 e.p x = y1 at vB hne
            generalize oN ot2 e.q x = y2 at vD hne
            clear hd hdA hdC vA vC k0 k1 k2 l0 l1 l2
            go_wp2
            go_quiet (fail)
            obtain ⟨g9, c9, e9, hg9, hA9⟩ := HF2.out.row.arv (by have := Hj2.out; omega)
            have hA9 := hA9.below (below_drewN (Below.refl _ wr) nq)
            cases e9
            go_wp2_with fail
            refine (paccess g9 c3 j n m s t _ _ hA9 HE2.out Hj2.out (by omega)).mono ?_
            rintro r w8 ⟨A8, c8, rfl, hO8, hb8⟩
            rw [He2.out] at hO8 ⊢
            have hbw8 := (below_drewN hbw nq).trans (hb8.mono (below_drewN hbw nq).size)
            have hO8 := hO8.lower (base' := w.heap.size) (below_drewN hbw nq).size
            have hel : e.w.length ≤ 16384 := by rw [← He2.out]; have := HE2.out.wl j Hj2.out; have := Hj2.out; omega
            obtain ⟨A10, c10, w10, hr, hO10, hb10, _⟩ := run_append_one hO8 (x : Int) hbw8.size (by omega)
            have HO10 := Lib.hid hO10
            have hbw10 := hbw8.trans hb10
            clear hO8 hO10 hb8 hb10
            go_wp2_with (at_builtin; refine Lib.wpList_append_run _ rfl _ _ _ _ rfl _ _ rfl rfl _ _ hr ?_)
            go_wp2
            go_ret2
            rw [HRR.out]
            exact ⟨A10, c10, by rw [Option.getD_some, List.length_append]; rfl, by rw [Option.getD_some, List.length_append]; exact HO10.out, hbw10⟩
        · have hxe : x = i := by omega
          have HXE := Lib.hid hxe
          have HON := Lib.hid (show srch nx1 nx2 ot1 ot2 i (n * m) (addS nx1 nx2 j e E i) (j + 1) = R by
            have h1 := HFD.out
            rw [hxe, HEE.out] at h1
            have h2 := srch_on hM hN HE.out hlt h1
            rw [← HEE.out] at h2
            rw [h2, HS.out])
          have HJ2 := Lib.hid (show j + 1 ≤ (addS nx1 nx2 j e E x).length by have := Hj2.out; omega)
          clear hxe
          go_wp2
          go_roundw
          case rel =>
            have h1 := HF2.out
            have h2 := HE2.out
            have h3 := HJ2.out
            rw [HXE.out] at h1 h2 h3 ⊢
            exact ⟨j + 1, addS nx1 nx2 j e E i, A2, c3, by go_num, rfl, h3, h2, HON.out, h1⟩
          case measure => simp [intOf]; omega
    · go_wp2
      go_ret2
      rw [← HS.out, srch_end hlt]
      exact ⟨none, 0, rfl, World.ownsRow_nil _ _ _ _, H3.out.trans (hF.bel.mono (by omega))⟩
end Go.Proofs.Ytogcecfeofbbnaa
end

section
/- equiv: Check, Distinguish, Equal, Upto and States. -/
namespace Go.Proofs.Ytogcecfeofbbnaa
open Go.RowKit

set_option maxRecDepth 100000 in
theorem pchk2 (i1 st1 i2 st2 : Int) (A B C D : Option Addr) (n c m d n2 c2 m2 d2 : Nat) (nx1 ot1 nx2 ot2 : List (List Int)) (w : World) (hx1 : Lists w A n nx1) (ho1 : Lists w B m ot1) (hx2 : Lists w C n2 nx2) (ho2 : Lists w D m2 ot2) :
    Calls Try.prog 112 #[.agg #[.int .i64 i1, .int .i64 st1, .slice A n c, .slice B m d], .agg #[.int .i64 i2, .int .i64 st2, .slice C n2 c2, .slice D m2 d2]] w fun e w' => e = .returned (.int .i64 (chk2 i1 st1 nx1 ot1 i2 st2 nx2 ot2)) ∧ Below w.heap.size w w' := by
  obtain ⟨hb0, hB1, hB2⟩ := pair_boxes w i1 st1 i2 st2 A B C D n c m d n2 c2 m2 d2
  obtain ⟨w0, hw0⟩ : ∃ w0, w0 = (w.alloc (.cells #[.int .i64 i1, .int .i64 st1, .slice A n c, .slice B m d] 24)).alloc (.cells #[.int .i64 i2, .int .i64 st2, .slice C n2 c2, .slice D m2 d2] 24) := ⟨_, rfl⟩
  rw [← hw0] at hb0 hB1 hB2
  have HW0 := Lib.hid hw0
  have HB1 := Lib.hid hB1
  have HB2 := Lib.hid hB2
  clear hw0 hB1 hB2
  obtain ⟨k0, k1, k2, k3, _⟩ := HB1.out.cells
  rw [HW0.out] at k0 k1 k2 k3
  go_enter Try.func112, Try.ntmps112
  go_wp2_with fail
  rw [← HW0.out]
  refine (pvalid _ _ _ _ _ _ _ _ _ _ _ (hx1.below hb0) (ho1.below hb0)).mono ?_
  rintro e w1 ⟨rfl, a1⟩
  have HB1 := Lib.hid (HB1.out.on9 a1)
  have HB2 := Lib.hid (HB2.out.on9 a1)
  have b1 := bt hb0 a1
  clear hb0 a1 k0 k1 k2 k3
  by_cases h1 : vld i1 st1 nx1 ot1 = 0
  · obtain ⟨k0, k1, k2, k3, _⟩ := HB2.out.cells
    have H1 := Lib.hid h1
    rw [h1]
    clear h1
    go_wp2_with fail
    refine (pvalid _ _ _ _ _ _ _ _ _ _ _ (hx2.below b1) (ho2.below b1)).mono ?_
    rintro e w2 ⟨rfl, a2⟩
    have b2 := bt b1 a2
    obtain ⟨k0, _⟩ := (HB1.out.on9 a2).cells
    obtain ⟨l0, _⟩ := (HB2.out.on9 a2).cells
    clear b1 a2 k1 k2 k3
    by_cases h2 : vld i2 st2 nx2 ot2 = 0
    · have H2 := Lib.hid h2
      rw [h2]
      clear h2
      by_cases h3 : i1 = i2
      · have hc : (i1 != i2) = false := by simp [h3]
        have H3 := Lib.hid (show chk2 i1 st1 nx1 ot1 i2 st2 nx2 ot2 = 0 by unfold chk2; rw [if_neg (by simp [H1.out]), if_neg (by simp [H2.out]), if_pos h3])
        clear h3
        go_wp2
        go_ret
        exact ⟨by rw [H3.out]; rfl, b2⟩
      · have hc : (i1 != i2) = true := by simpa using h3
        have H3 := Lib.hid (show chk2 i1 st1 nx1 ot1 i2 st2 nx2 ot2 = 15 by unfold chk2; rw [if_neg (by simp [H1.out]), if_neg (by simp [H2.out]), if_neg h3])
        clear h3
        go_wp2
        go_ret
        exact ⟨by rw [H3.out]; rfl, b2⟩
    · have hne : (vld i2 st2 nx2 ot2 != 0) = true := by simpa using h2
      have H3 := Lib.hid (show chk2 i1 st1 nx1 ot1 i2 st2 nx2 ot2 = vld i2 st2 nx2 ot2 by unfold chk2; rw [if_neg (by simp [H1.out]), if_pos h2])
      generalize vld i2 st2 nx2 ot2 = E at hne H3 ⊢
      clear h2
      go_wp2
      go_ret
      exact ⟨by rw [H3.out]; rfl, b2⟩
  · have hne : (vld i1 st1 nx1 ot1 != 0) = true := by simpa using h1
    have H3 := Lib.hid (show chk2 i1 st1 nx1 ot1 i2 st2 nx2 ot2 = vld i1 st1 nx1 ot1 by unfold chk2; rw [if_pos h1])
    generalize vld i1 st1 nx1 ot1 = E at hne H3 ⊢
    clear h1
    go_wp2
    go_ret
    exact ⟨by rw [H3.out]; rfl, b1⟩

set_option maxRecDepth 100000 in
theorem pdist (i1 st1 i2 st2 : Int) (A B C D : Option Addr) (n c m d n2 c2 m2 d2 : Nat) (nx1 ot1 nx2 ot2 : List (List Int)) (w : World) (hx1 : Lists w A n nx1) (ho1 : Lists w B m ot1) (hx2 : Lists w C n2 nx2) (ho2 : Lists w D m2 ot2) :
    Calls Try.prog 85 #[.agg #[.int .i64 i1, .int .i64 st1, .slice A n c, .slice B m d], .agg #[.int .i64 i2, .int .i64 st2, .slice C n2 c2, .slice D m2 d2]] w fun e w' => ∃ A' c', e = .returned (.tuple #[.slice A' ((dres i1 st1 nx1 ot1 i2 st2 nx2 ot2).1.getD []).length c', .bool (dres i1 st1 nx1 ot1 i2 st2 nx2 ot2).1.isSome, .int .i64 (dres i1 st1 nx1 ot1 i2 st2 nx2 ot2).2]) ∧
      Owned w' w.heap.size (.slice A' ((dres i1 st1 nx1 ot1 i2 st2 nx2 ot2).1.getD []).length c') ((dres i1 st1 nx1 ot1 i2 st2 nx2 ot2).1.getD []) ∧ Below w.heap.size w w' := by
  obtain ⟨hb0, hB1, hB2⟩ := pair_boxes w i1 st1 i2 st2 A B C D n c m d n2 c2 m2 d2
  obtain ⟨w0, hw0⟩ : ∃ w0, w0 = (w.alloc (.cells #[.int .i64 i1, .int .i64 st1, .slice A n c, .slice B m d] 24)).alloc (.cells #[.int .i64 i2, .int .i64 st2, .slice C n2 c2, .slice D m2 d2] 24) := ⟨_, rfl⟩
  rw [← hw0] at hb0 hB1 hB2
  have HW0 := Lib.hid hw0
  have HB1 := Lib.hid hB1
  have HB2 := Lib.hid hB2
  clear hw0 hB1 hB2
  obtain ⟨k0, k1, k2, k3, _⟩ := HB1.out.cells
  obtain ⟨l0, l1, l2, l3, _⟩ := HB2.out.cells
  rw [HW0.out] at k0 k1 k2 k3 l0 l1 l2 l3
  obtain ⟨D0, hD0⟩ : ∃ D0, D0 = dres i1 st1 nx1 ot1 i2 st2 nx2 ot2 := ⟨_, rfl⟩
  rw [← hD0]
  have HD0 := Lib.hid hD0
  clear hD0
  go_enter Try.func85, Try.ntmps85
  go_wp2_with fail
  rw [← HW0.out]
  refine (pchk2 _ _ _ _ _ _ _ _ _ _ _ _ _ _ _ _ _ _ _ _ _ (hx1.below hb0) (ho1.below hb0) (hx2.below hb0) (ho2.below hb0)).mono ?_
  rintro e w1 ⟨rfl, a1⟩
  have hB1 := HB1.out.on9 a1
  have hB2 := HB2.out.on9 a1
  have b1 := bt hb0 a1
  clear hb0 a1 k0 k1 k2 k3 l0 l1 l2 l3
  by_cases h1 : chk2 i1 st1 nx1 ot1 i2 st2 nx2 ot2 = 0
  · have hd : D0 = (dst nx1 ot1 nx2 ot2 i1.toNat nx1.length nx2.length st1.toNat st2.toNat, 0) := by rw [HD0.out]; unfold dres; rw [if_pos h1]
    rw [h1]
    obtain ⟨v1, v2, rfl⟩ := chk2_zero h1
    clear HD0 h1
    obtain ⟨i', s', n', rfl, rfl, hM⟩ := vld_zero v1
    obtain ⟨i'', s'', n'', e1, rfl, hN⟩ := vld_zero v2
    obtain rfl : i' = i'' := by omega
    have e1 := hx1.1
    have e2 := ho1.1
    have e3 := hM.nxl
    have e4 := hM.otl
    have e5 := hx2.1
    have e6 := ho2.1
    have e7 := hN.nxl
    have e8 := hN.otl
    obtain rfl : n = n' := by omega
    obtain rfl : n = m := by omega
    obtain rfl : n2 = n'' := by omega
    obtain rfl : n2 = m2 := by omega
    rw [e3, e7] at hd
    simp only [Int.toNat_natCast] at hd
    clear e1 e2 e3 e4 e5 e6 e7 e8 v1 v2
    have HD := Lib.hid hd
    clear hd
    obtain ⟨k0, k1, k2, k3, _⟩ := hB1.cells
    obtain ⟨l0, l1, l2, l3, _⟩ := hB2.cells
    clear hB1 hB2
    go_wp2_with fail
    refine (pfirst _ _ _ _ _ _ _ _ _ _ _ _ _ _ _ _ _ _ _ _ (hx1.below b1) (ho1.below b1) (hx2.below b1) (ho2.below b1) hM hN hM.st hN.st).mono ?_
    rintro e w2 ⟨A', c', rfl, hO, a2⟩
    have b2 := bt b1 a2
    have hO := hO.lower (base' := w.heap.size) b1.size
    generalize dst nx1 ot1 nx2 ot2 i' n n2 s' s'' = R at HD hO ⊢
    have HO := Lib.hid hO
    clear hO
    go_wp2
    go_ret3
    rw [HD.out]
    exact ⟨A', c', rfl, HO.out, b2⟩
  · have hd : D0 = (none, chk2 i1 st1 nx1 ot1 i2 st2 nx2 ot2) := by rw [HD0.out]; unfold dres; rw [if_neg h1]
    have hne : (chk2 i1 st1 nx1 ot1 i2 st2 nx2 ot2 != 0) = true := by simpa using h1
    have HD := Lib.hid hd
    clear hd HD0
    generalize chk2 i1 st1 nx1 ot1 i2 st2 nx2 ot2 = E at hne HD ⊢
    clear h1
    go_wp2
    go_ret3
    rw [HD.out]
    exact ⟨none, 0, rfl, World.ownsRow_nil _ _ _ _, b1⟩

set_option maxRecDepth 100000 in
theorem pequ (i1 st1 i2 st2 : Int) (A B C D : Option Addr) (n c m d n2 c2 m2 d2 : Nat) (nx1 ot1 nx2 ot2 : List (List Int)) (w : World) (hx1 : Lists w A n nx1) (ho1 : Lists w B m ot1) (hx2 : Lists w C n2 nx2) (ho2 : Lists w D m2 ot2) :
    Calls Try.prog 46 #[.agg #[.int .i64 i1, .int .i64 st1, .slice A n c, .slice B m d], .agg #[.int .i64 i2, .int .i64 st2, .slice C n2 c2, .slice D m2 d2]] w fun e w' => e = .returned (.tuple #[.bool (eqb (dres i1 st1 nx1 ot1 i2 st2 nx2 ot2)), .int .i64 (dres i1 st1 nx1 ot1 i2 st2 nx2 ot2).2]) ∧ Below w.heap.size w w' := by
  obtain ⟨hb0, hB1, hB2⟩ := pair_boxes w i1 st1 i2 st2 A B C D n c m d n2 c2 m2 d2
  obtain ⟨w0, hw0⟩ : ∃ w0, w0 = (w.alloc (.cells #[.int .i64 i1, .int .i64 st1, .slice A n c, .slice B m d] 24)).alloc (.cells #[.int .i64 i2, .int .i64 st2, .slice C n2 c2, .slice D m2 d2] 24) := ⟨_, rfl⟩
  rw [← hw0] at hb0 hB1 hB2
  have HW0 := Lib.hid hw0
  have HB1 := Lib.hid hB1
  have HB2 := Lib.hid hB2
  clear hw0 hB1 hB2
  obtain ⟨k0, k1, k2, k3, _⟩ := HB1.out.cells
  obtain ⟨l0, l1, l2, l3, _⟩ := HB2.out.cells
  rw [HW0.out] at k0 k1 k2 k3 l0 l1 l2 l3
  obtain ⟨D0, hD0⟩ : ∃ D0, D0 = dres i1 st1 nx1 ot1 i2 st2 nx2 ot2 := ⟨_, rfl⟩
  rw [← hD0]
  have HD0 := Lib.hid hD0
  clear hD0
  go_enter Try.func46, Try.ntmps46
  go_wp2_with fail
  rw [← HW0.out]
  refine (pdist _ _ _ _ _ _ _ _ _ _ _ _ _ _ _ _ _ _ _ _ _ (hx1.below hb0) (ho1.below hb0) (hx2.below hb0) (ho2.below hb0)).mono ?_
  rintro e w1 ⟨A', c', rfl, _, a1⟩
  have b1 := bt hb0 a1
  clear hb0 a1 k0 k1 k2 k3 l0 l1 l2 l3
  rw [← HD0.out]
  clear HD0
  obtain ⟨o, E⟩ := D0
  by_cases hE : E = 0
  · subst hE
    cases o
    all_goals
      go_wp2
      go_ret2
      exact ⟨rfl, b1⟩
  · have hc : (E == 0) = false := by simpa using hE
    have HC := Lib.hid hc
    clear hE
    go_wp2
    go_ret2
    refine ⟨?_, b1⟩
    show _ = Ending.returned (.tuple #[.bool ((E == 0) && !o.isSome), .int .i64 E])
    rw [HC.out]
    rfl

end Go.Proofs.Ytogcecfeofbbnaa
end

section
/- equiv: States. -/
namespace Go.Proofs.Ytogcecfeofbbnaa
open Go.RowKit

theorem pisst9 (i st : Int) (A B : Option Addr) (n c m d : Nat) (s : Int) (b : Bool) (w : World) (_ : n ≤ 17592186044416) (hb : b = decide (0 ≤ s ∧ s < n)) :
    Calls Try.prog 88 #[.agg #[.int .i64 i, .int .i64 st, .slice A n c, .slice B m d], .int .i64 s] w fun e w' => e = .returned (.bool b) ∧ Below w.heap.size w w' := by
  by_cases h1 : 0 ≤ s
  · by_cases h2 : s < n
    · have hf := Lib.hid (hb.trans (decide_eq_true ⟨h1, h2⟩))
      have d2 : decide (s < (n : Int)) = true := decide_eq_true h2
      clear hb
      go_enter Try.func88, Try.ntmps88
      go_wp2
      go_ret
      exact ⟨ret_bool hf.out.symm, alloc_below _ _⟩
    · have hf := Lib.hid (hb.trans (decide_eq_false (fun H => h2 H.2)))
      have d2 : decide (s < (n : Int)) = false := decide_eq_false h2
      clear hb
      go_enter Try.func88, Try.ntmps88
      go_wp2
      go_ret
      exact ⟨ret_bool hf.out.symm, alloc_below _ _⟩
  · have hf := Lib.hid (hb.trans (decide_eq_false (fun H => h1 H.1)))
    have d2 : decide ((0 : Int) ≤ s) = false := decide_eq_false h1
    clear hb
    go_enter Try.func88, Try.ntmps88
    go_wp2
    go_ret
    exact ⟨ret_bool hf.out.symm, alloc_below _ _⟩
set_option maxRecDepth 100000 in
theorem pstates (i st : Int) (A B : Option Addr) (n c m d : Nat) (nx ot : List (List Int)) (s t : Int) (w : World) (hx : Lists w A n nx) (ho : Lists w B m ot) :
    Calls Try.prog 50 #[.agg #[.int .i64 i, .int .i64 st, .slice A n c, .slice B m d], .int .i64 s, .int .i64 t] w fun e w' => ∃ A' c', e = .returned (.tuple #[.slice A' ((sres i st nx ot s t).1.getD []).length c', .bool (sres i st nx ot s t).1.isSome, .int .i64 (sres i st nx ot s t).2]) ∧
      Owned w' w.heap.size (.slice A' ((sres i st nx ot s t).1.getD []).length c') ((sres i st nx ot s t).1.getD []) ∧ Below w.heap.size w w' := by
  have hb0 := alloc_below w (.cells #[.int .i64 i, .int .i64 st, .slice A n c, .slice B m d] 24)
  have HB1 := Lib.hid (mealy_box w (.int .i64 i) (.int .i64 st) (.slice A n c) (.slice B m d))
  obtain ⟨D0, hD0⟩ : ∃ D0, D0 = sres i st nx ot s t := ⟨_, rfl⟩
  rw [← hD0]
  have HD0 := Lib.hid hD0
  clear hD0
  go_enter Try.func50, Try.ntmps50
  go_wp2_with fail
  refine (pvalid _ _ _ _ _ _ _ _ _ _ _ (hx.below hb0) (ho.below hb0)).mono ?_
  rintro e w1 ⟨rfl, a1⟩
  have HB1 := Lib.hid (HB1.out.on9 a1)
  have b1 := bt hb0 a1
  clear hb0 a1
  by_cases hv : vld i st nx ot = 0
  · rw [hv]
    have HV := Lib.hid hv
    obtain ⟨i', s', n', rfl, rfl, hM⟩ := vld_zero hv
    have e1 := hx.1
    have e2 := ho.1
    have e3 := hM.nxl
    have e4 := hM.otl
    obtain rfl : n = n' := by omega
    obtain rfl : n = m := by omega
    clear e1 e2 e4 hv
    have hn := hx.2.1
    obtain ⟨k0, k1, k2, k3, _⟩ := HB1.out.cells
    go_wp2_with fail
    refine (pisst9 _ _ _ _ _ _ _ _ s _ _ hn rfl).mono ?_
    rintro e w2 ⟨rfl, a2⟩
    have HB2 := Lib.hid (HB1.out.on9 a2)
    have b2 := bt b1 a2
    clear k0 k1 k2 k3 b1 a2
    obtain ⟨k0, k1, k2, k3, _⟩ := HB2.out.cells
    by_cases h12 : 0 ≤ s ∧ s < (n : Int)
    · obtain ⟨h1, h2⟩ := h12
      rw [decide_eq_true (show 0 ≤ s ∧ s < (n : Int) from ⟨h1, h2⟩)]
      go_wp2_with fail
      refine (pisst9 _ _ _ _ _ _ _ _ t _ _ hn rfl).mono ?_
      rintro e w3 ⟨rfl, a3⟩
      have HB3 := Lib.hid (HB2.out.on9 a3)
      have b3 := bt b2 a3
      clear k0 k1 k2 k3 b2 a3
      obtain ⟨k0, k1, k2, k3, _⟩ := HB3.out.cells
      by_cases h34 : 0 ≤ t ∧ t < (n : Int)
      · obtain ⟨h3, h4⟩ := h34
        rw [decide_eq_true (show 0 ≤ t ∧ t < (n : Int) from ⟨h3, h4⟩)]
        obtain ⟨S, rfl⟩ : ∃ S : Nat, s = S := ⟨s.toNat, by omega⟩
        obtain ⟨T, rfl⟩ : ∃ T : Nat, t = T := ⟨t.toNat, by omega⟩
        have HD := Lib.hid (show D0 = (dst nx ot nx ot i' n n S T, 0) by rw [HD0.out]; unfold sres; rw [if_neg (by simp [HV.out]), if_pos (by rw [e3]; exact ⟨⟨h1, h2⟩, h3, h4⟩), e3]; rfl)
        have hS : S < n := by omega
        have hT : T < n := by omega
        clear HD0
        go_wp2_with fail
        refine (pfirst i' s' s' n n S T _ _ _ _ _ _ _ _ _ _ _ _ _ (hx.below b3) (ho.below b3) (hx.below b3) (ho.below b3) hM hM hS hT).mono ?_
        rintro e w9 ⟨A', c', rfl, hO, a9⟩
        have b9 := bt b3 a9
        have hO := hO.lower (base' := w.heap.size) b3.size
        generalize dst nx ot nx ot i' n n S T = R at HD hO ⊢
        have HO := Lib.hid hO
        clear hO
        go_wp2
        go_ret3
        rw [HD.out]
        exact ⟨A', c', rfl, HO.out, b9⟩
      · rw [decide_eq_false h34]
        have HD := Lib.hid (show D0 = (none, 2) by rw [HD0.out]; unfold sres; rw [if_neg (by simp [HV.out]), if_neg (by rw [e3]; exact fun H => h34 H.2)])
        clear HD0 h34 h1 h2
        go_wp2
        go_ret3
        rw [HD.out]
        exact ⟨none, 0, rfl, World.ownsRow_nil _ _ _ _, b3⟩
    · rw [decide_eq_false h12]
      have HD := Lib.hid (show D0 = (none, 2) by rw [HD0.out]; unfold sres; rw [if_neg (by simp [HV.out]), if_neg (by rw [e3]; exact fun H => h12 H.1)])
      clear HD0 h12
      go_wp2
      go_ret3
      rw [HD.out]
      exact ⟨none, 0, rfl, World.ownsRow_nil _ _ _ _, b2⟩
  · have hne : (vld i st nx ot != 0) = true := by simpa using hv
    have HD := Lib.hid (show D0 = (none, vld i st nx ot) by rw [HD0.out]; unfold sres; rw [if_pos hv])
    clear HD0
    generalize vld i st nx ot = E at hne HD ⊢
    clear hv
    go_wp2
    go_ret3
    rw [HD.out]
    exact ⟨none, 0, rfl, World.ownsRow_nil _ _ _ _, b1⟩
end Go.Proofs.Ytogcecfeofbbnaa
end

section
/- A map of the call's own that numbers keys: the numbers are the places in a list of different keys. -/
namespace Go.Proofs.Ytogcecfeofbbnaa
open Go.RowKit
open Go.Maps (Keyed)

theorem laidOutB_ : laidOutB Try.prog = true := by kernel_rfl

/-- What a type of maps from keys to ints asks. -/
structure KeyT (t k : TypeId) : Prop where
  und : Try.prog.underlying t = some (.map k 3)
  law : Keyed Try.prog k

/-- A key: ints in a row. -/
def kv (x : List Int) : Value := .agg (x.map (Value.int .i64)).toArray
theorem map_int_inj : ∀ {x y : List Int}, x.map (Value.int .i64) = y.map (Value.int .i64) → x = y
  | [], [], _ => rfl
  | [], _ :: _, h => by simp at h
  | _ :: _, [], h => by simp at h
  | a :: x, b :: y, h => by
    simp only [List.map_cons, List.cons.injEq, Value.int.injEq, true_and] at h
    rw [h.1, map_int_inj h.2]
theorem kv_inj {x y : List Int} (h : kv x = kv y) : x = y := by
  unfold kv at h
  simp only [Value.agg.injEq] at h
  exact map_int_inj (by simpa using congrArg Array.toList h)
/-- What is a key. -/
def IsK (k : TypeId) (x : List Int) : Prop := ∃ l, keyOf Try.prog k (kv x) = some l

/-- Block b of w is a map from the keys ks to their places in ks. -/
def NumIs (k : TypeId) (w : World) (b : Nat) (ks : List (List Int)) : Prop :=
  ks.Nodup ∧ (∀ v, v ∈ ks → IsK k v) ∧ ks.length ≤ 17592186044416 ∧ ∃ D : DataW Unit, w.ownsMap Try.prog k (plainElem Try.prog 3) b ks.length D ∧ Maps.Tidy D ∧ Maps.size D = ks.length ∧
    ∀ v l, keyOf Try.prog k (kv v) = some l → Maps.has D l = decide (v ∈ ks) ∧ (v ∈ ks → ∀ z, D.atKey l z = .lit (.int .i64 (ks.idxOf v : Nat)))
theorem plainElem_i64 {a : Nat} (h : a ≤ 17592186044416) : plainElem (H := Unit) Try.prog 3 (.int .i64 a) = some (.lit (.int .i64 a), []) :=
  plainElem_int Try.underlying3 (by unfold Lit.wf; simp; have h1 : IntKind.i64.min = -9223372036854775808 := by decide
                                    have h2 : IntKind.i64.max = 9223372036854775807 := by decide
                                    omega)
theorem NumIs.made (k : TypeId) (w : World) : NumIs k (w.alloc (.map #[] 0)) w.heap.size [] := by
  refine ⟨by simp, by simp, by simp, .map [], World.ownsMap_made (H := Unit) w Try.prog k _, Maps.tidy_empty, rfl, fun v l h => ⟨rfl, by simp⟩⟩
theorem NumIs.kept {k : TypeId} {w w' : World} {b : Nat} {ks : List (List Int)} {r : Option Nat} (h : NumIs k w b ks) (hg : w.grownBy w' r) (hne : some b ≠ r) : NumIs k w' b ks := by
  obtain ⟨h1, h2, h3, D, h4, h5⟩ := h
  exact ⟨h1, h2, h3, D, h4.kept hg hne, h5⟩
theorem NumIs.lt {k : TypeId} {w : World} {b : Nat} {ks : List (List Int)} (h : NumIs k w b ks) : b < w.heap.size := by
  obtain ⟨h1, h2, h3, D, h4, h5⟩ := h
  exact h4.lt
theorem NumIs.block {k : TypeId} {w : World} {b : Nat} {ks : List (List Int)} (h : NumIs k w b ks) : ∃ es ck, w.heap[b]? = some (.map es ck) := by
  obtain ⟨_, _, _, D, ⟨es, ck, h1, _⟩, _⟩ := h
  exact ⟨es, ck, h1⟩
theorem NumIs.at_ {k : TypeId} {w w' : World} {b : Nat} {ks : List (List Int)} (h : NumIs k w b ks) (hb : w'.heap[b]? = w.heap[b]?) : NumIs k w' b ks := by
  obtain ⟨h1, h2, h3, D, ⟨es, ck, h4, h6⟩, h5⟩ := h
  exact ⟨h1, h2, h3, D, ⟨es, ck, hb.trans h4, h6⟩, h5⟩
theorem NumIs.below {k : TypeId} {w w' : World} {b B : Nat} {ks : List (List Int)} (h : NumIs k w b ks) (hb : Below B w w') (hB : b < B) : NumIs k w' b ks := h.at_ (hb.block b hB)
theorem NumIs.drewN {k : TypeId} {w : World} {b : Nat} {ks : List (List Int)} (h : NumIs k w b ks) (q : Nat) : NumIs k (w.drewN q) b ks := h.at_ rfl
theorem NumIs.setCell {k : TypeId} {w : World} {b : Nat} {ks : List (List Int)} (h : NumIs k w b ks) {a : Addr} (ha : b ≠ a.block) (u : Value) : NumIs k (w.setCell a u) b ks := by
  obtain ⟨h1, h2, h3, D, h4, h5⟩ := h
  exact ⟨h1, h2, h3, D, h4.setCell ha u, h5⟩
theorem NumIs.key {k : TypeId} {w : World} {b : Nat} {ks : List (List Int)} (h : NumIs k w b ks) {v : List Int} (hv : v ∈ ks) : IsK k v := h.2.1 v hv

/-- v, ok := m[key] at a key that is there, or not. -/
theorem NumIs.look_in {t k : TypeId} {w : World} {b : Nat} {ks : List (List Int)} (h : NumIs k w b ks) (T : KeyT t k) {v : List Int} (hv : v ∈ ks) :
    (Instr.lookup t (.map (some b)) (kv v) true).run Try.prog w = .ok (.tuple #[.int .i64 (ks.idxOf v : Nat), .bool true]) w := by
  obtain ⟨l, hl⟩ := h.key hv
  obtain ⟨h1, h2, h3, D, h4, h5, h6, h7⟩ := h
  obtain ⟨h8, h9⟩ := h7 v l hl
  obtain ⟨u, ps, hrun, hu⟩ := h4.look_ok T.law T.und (Try.zeroValue3 w) (plainElem_i64 (a := 0) (by omega)) hl
  rw [h9 hv] at hu
  obtain ⟨c, rfl, hc, _⟩ := plainElem_int_inv Try.underlying3 hu
  simp only [Prod.mk.injEq, DataW.lit.injEq, Lit.int.injEq, true_and] at hc
  rw [hrun, h8, decide_eq_true hv, ← hc.1]
theorem NumIs.look_out {t k : TypeId} {w : World} {b : Nat} {ks : List (List Int)} (h : NumIs k w b ks) (T : KeyT t k) {v : List Int} (hk : IsK k v) (hv : ¬ v ∈ ks) :
    (Instr.lookup t (.map (some b)) (kv v) true).run Try.prog w = .ok (.tuple #[.int .i64 0, .bool false]) w := by
  obtain ⟨l, hl⟩ := hk
  obtain ⟨h1, h2, h3, D, h4, h5, h6, h7⟩ := h
  obtain ⟨h8, h9⟩ := h7 v l hl
  obtain ⟨u, ps, hrun, hu⟩ := h4.look_ok T.law T.und (Try.zeroValue3 w) (plainElem_i64 (a := 0) (by omega)) hl
  rw [decide_eq_false hv] at h8
  rw [Maps.atKey_of_not_has h8] at hu
  obtain ⟨c, rfl, hc, _⟩ := plainElem_int_inv Try.underlying3 hu
  simp only [Prod.mk.injEq, DataW.lit.injEq, Lit.int.injEq, true_and] at hc
  rw [hrun, h8, ← hc.1]; rfl
theorem NumIs.len {t k : TypeId} {w : World} {b : Nat} {ks : List (List Int)} (h : NumIs k w b ks) (T : KeyT t k) (ty : TypeId) : (Builtin.len_ #[t] ty #[.map (some b)]).run Try.prog w = .ok (.int .i64 (ks.length : Nat)) w := by
  obtain ⟨h1, h2, h3, D, h4, h5, h6, h7⟩ := h
  rw [h4.len T.und ty, h6]
/-- m[key] = len(m) at a key that is not there. -/
theorem NumIs.put {t k : TypeId} {w : World} {b : Nat} {ks : List (List Int)} (h : NumIs k w b ks) (T : KeyT t k) {v : List Int} (hk : IsK k v) (hv : ¬ v ∈ ks) (hn : ks.length < 17592186044416) :
    ∃ w', (Instr.mapUpdate t (.map (some b)) (kv v) (.int .i64 (ks.length : Nat))).run Try.prog w = .ok () w' ∧ NumIs k w' b (ks ++ [v]) ∧ w.grownBy w' (some b) := by
  obtain ⟨l, hl⟩ := hk
  obtain ⟨h1, h2, h3, D, h4, h5, h6, h7⟩ := h
  obtain ⟨h8, _⟩ := h7 v l hl
  rw [decide_eq_false hv] at h8
  obtain ⟨w', hrun, h9, h10⟩ := h4.update T.law T.und (by unfold maxLen; omega) hl (plainElem_i64 (a := ks.length) (by omega))
  refine ⟨w', hrun, ⟨?_, ?_, ?_, _, by rw [List.length_append]; exact h9, h5.put (T.law.key hl) _, ?_, fun u lu hu => ?_⟩, h10⟩
  · refine List.nodup_append.2 ⟨h1, by simp, fun a ha c hc => ?_⟩
    simp at hc; subst hc; intro e; subst e; exact hv ha
  · intro u hu
    rcases List.mem_append.1 hu with hu | hu
    · exact h2 u hu
    · simp at hu; subst hu; exact ⟨l, hl⟩
  · rw [List.length_append]; simp; omega
  · rw [Maps.size_put h5, h8, h6, List.length_append]; rfl
  · by_cases e : u = v
    · subst e
      have : lu = l := by rw [hl] at hu; exact (Option.some.inj hu).symm
      subst this
      refine ⟨by rw [Maps.has_put_same h5.isMap (T.law.key hl)]; simp, fun _ z => ?_⟩
      rw [Maps.atKey_put_same h5.isMap (T.law.key hl), List.idxOf_append, if_neg hv]
      simp
    · have hne : lu ≠ l := fun H => e (kv_inj (T.law.inj hu (H ▸ hl)))
      obtain ⟨h11, h12⟩ := h7 u lu hu
      refine ⟨by rw [Maps.has_put_other hne, h11]; simp [e], fun hm z => ?_⟩
      have hm : u ∈ ks := by
        rcases List.mem_append.1 hm with hm | hm
        · exact hm
        · simp at hm; exact absurd hm e
      rw [Maps.atKey_put_other hne, h12 hm, List.idxOf_append, if_pos hm]

theorem mapM_some {α β : Type} {f : α → Option β} : ∀ {l : List α}, (∀ x, x ∈ l → ∃ y, f x = some y) → ∃ ys, l.mapM f = some ys
  | [], _ => ⟨[], rfl⟩
  | x :: l, h => by
    obtain ⟨y, hy⟩ := h x (by simp)
    obtain ⟨ys, hys⟩ := mapM_some (l := l) fun z hz => h z (by simp [hz])
    exact ⟨y :: ys, by rw [List.mapM_cons, hy, hys]; rfl⟩
theorem keyLits_arr {t e : TypeId} {n D : Nat} {cs : List Value} (hu : Try.prog.underlying t = some (.array n e)) (hl : cs.length = Try.prog.cellsOf t)
    (h : ∀ i, i < n → ∃ l, Try.prog.keyLits D e ((cs.drop (i * Try.prog.cellsOf e)).take (Try.prog.cellsOf e)) = some l) : ∃ l, Try.prog.keyLits (D + 1) t cs = some l := by
  obtain ⟨ys, hys⟩ := mapM_some (f := fun i => Try.prog.keyLits D e ((cs.drop (i * Try.prog.cellsOf e)).take (Try.prog.cellsOf e))) (l := List.range n) fun i hi => h i (by simpa using hi)
  refine ⟨ys.flatten, ?_⟩
  unfold Program.keyLits
  rw [hu]
  simp only [if_pos hl]
  rw [hys]; rfl
/-- A number that an int holds. -/
def I64 (a : Int) : Prop := (Lit.int .i64 a).wf = true
theorem I64.mk {a : Int} (h1 : -9223372036854775808 ≤ a) (h2 : a ≤ 9223372036854775807) : I64 a := by
  unfold I64 Lit.wf
  have h3 : IntKind.i64.min = -9223372036854775808 := by decide
  have h4 : IntKind.i64.max = 9223372036854775807 := by decide
  simp
  omega
theorem keyLits_int {D : Nat} {a : Int} (h : I64 a) : ∃ l, Try.prog.keyLits (D + 1) 3 [.int .i64 a] = some l := by
  refine ⟨[.int .i64 a], ?_⟩
  unfold Program.keyLits
  rw [Try.underlying3]
  have h : (Lit.int .i64 a).wf = true := h
  simp [h]
/-- An array of n pairs of ints. -/
theorem keyOf_arr {t e : TypeId} {n : Nat} (hu : Try.prog.underlying t = some (.array n e)) (hc : ∀ x : List Int, x.length = Try.prog.cellsOf t → (∀ a, a ∈ x → I64 a) → ∃ l, Try.prog.keyLits (Try.prog.types.size + 1) t (x.map (Value.int .i64)) = some l)
    (hk : Try.prog.keyType t = true) {x : List Int} (hl : x.length = Try.prog.cellsOf t) (hx : ∀ a, a ∈ x → I64 a) : IsK t x := by
  obtain ⟨l, h⟩ := hc x hl hx
  refine ⟨.string (keyBytes l), ?_⟩
  unfold keyOf kv
  rw [hu]
  have hf : (Value.agg ((x.map (Value.int .i64)).toArray)).formed Try.prog t = true := by
    unfold Value.formed
    rw [hu]
    simp [hl]
  simp only [hk, hf, Bool.and_self, if_true]
  have e : (Value.agg ((x.map (Value.int .i64)).toArray)).cells.toList = x.map (Value.int .i64) := by simp [Value.cells]
  rw [e, h]; rfl
theorem keyLits_row {t : TypeId} {n D : Nat} (hu : Try.prog.underlying t = some (.array n 3)) (hc : Try.prog.cellsOf t = n) {x : List Int} (hl : x.length = n) (hx : ∀ a, a ∈ x → I64 a) : ∃ l, Try.prog.keyLits (D + 2) t (x.map (Value.int .i64)) = some l := by
  refine keyLits_arr hu (by simp [hl, hc]) fun j hj => ?_
  have h1 : Try.prog.cellsOf 3 = 1 := by kernel_rfl
  rw [h1, Nat.mul_one]
  have hj : j < x.length := by omega
  have e : ((x.map (Value.int .i64)).drop j).take 1 = [.int .i64 x[j]] := by
    rw [← List.map_drop, List.drop_eq_getElem_cons hj]; rfl
  rw [e]
  exact keyLits_int (hx _ (List.getElem_mem hj))
end Go.Proofs.Ytogcecfeofbbnaa
end
