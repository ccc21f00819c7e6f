/- Mealy machines as lists: what is valid, executed, reached. -/
import Derived.Test.YtnifjagjcoegaaaCheck
namespace Go.Proofs.Ytnifjagjcoegaaa

/-- The first number that is not 0 among f 0 .. f (k - 1). -/
def fstE (f : Nat → Int) : Nat → Int
  | 0 => 0
  | k + 1 => if fstE f k = 0 then f k else fstE f k
theorem fstE_ok {f : Nat → Int} : ∀ {k : Nat}, (∀ t, t < k → f t = 0) → fstE f k = 0
  | 0, _ => rfl
  | k + 1, h => by
    unfold fstE
    rw [if_pos (fstE_ok fun t ht => h t (by omega))]
    exact h k (by omega)
theorem fstE_bad {f : Nat → Int} {j : Nat} (h : ∀ t, t < j → f t = 0) (hj : f j ≠ 0) : ∀ {k : Nat}, j < k → fstE f k = f j
  | 0, hk => absurd hk (by omega)
  | k + 1, hk => by
    unfold fstE
    by_cases e : j = k
    · subst e; rw [if_pos (fstE_ok h)]
    · have := fstE_bad h hj (k := k) (by omega)
      rw [this, if_neg hj]
theorem fstE_zero {f : Nat → Int} : ∀ {k : Nat}, fstE f k = 0 → ∀ t, t < k → f t = 0
  | 0, _, t, ht => absurd ht (by omega)
  | k + 1, h, t, ht => by
    unfold fstE at h
    by_cases e : fstE f k = 0
    · rw [if_pos e] at h
      by_cases e2 : t = k
      · subst e2; exact h
      · exact fstE_zero e t (by omega)
    · rw [if_neg e] at h; exact absurd h e

/-- The first k transitions of a row are fine. -/
def RowOk (n : Int) (r o : List Int) (k : Nat) : Prop := ∀ m, m < k → 0 ≤ r.getD m 0 ∧ r.getD m 0 < n ∧ 0 ≤ o.getD m 0 ∧ o.getD m 0 ≤ 1048576
theorem RowOk.zero (n : Int) (r o : List Int) : RowOk n r o 0 := fun m h => absurd h (by omega)
theorem RowOk.succ {n : Int} {r o : List Int} {k : Nat} (h : RowOk n r o k) (h1 : 0 ≤ r.getD k 0) (h2 : r.getD k 0 < n) (h3 : 0 ≤ o.getD k 0) (h4 : o.getD k 0 ≤ 1048576) : RowOk n r o (k + 1) := fun m hm => by
  by_cases e : m = k
  · subst e; exact ⟨h1, h2, h3, h4⟩
  · exact h m (by omega)
instance (n : Int) (r o : List Int) (k : Nat) : Decidable (RowOk n r o k) := by unfold RowOk; exact inferInstance

/-- The error of a row. -/
def rowE (i n : Int) (r o : List Int) : Int :=
  if (r.length : Int) = i ∧ (o.length : Int) = i then (if RowOk n r o r.length then 0 else 2) else 1
theorem rowE_len {i n : Int} {r o : List Int} (h : ¬ ((r.length : Int) = i ∧ (o.length : Int) = i)) : rowE i n r o = 1 := by unfold rowE; rw [if_neg h]
theorem rowE_ok {i n : Int} {r o : List Int} (h : (r.length : Int) = i ∧ (o.length : Int) = i) (h2 : RowOk n r o r.length) : rowE i n r o = 0 := by unfold rowE; rw [if_pos h, if_pos h2]
theorem rowE_bad {i n : Int} {r o : List Int} (h : (r.length : Int) = i ∧ (o.length : Int) = i) {k : Nat} (hk : k < r.length) (h2 : ¬ (0 ≤ r.getD k 0 ∧ r.getD k 0 < n ∧ 0 ≤ o.getD k 0 ∧ o.getD k 0 ≤ 1048576)) : rowE i n r o = 2 := by
  unfold rowE; rw [if_pos h, if_neg fun H => h2 (H k hk)]
theorem rowE_zero {i n : Int} {r o : List Int} (h : rowE i n r o = 0) : (r.length : Int) = i ∧ (o.length : Int) = i ∧ RowOk n r o r.length := by
  unfold rowE at h
  by_cases h1 : (r.length : Int) = i ∧ (o.length : Int) = i
  · rw [if_pos h1] at h
    by_cases h2 : RowOk n r o r.length
    · exact ⟨h1.1, h1.2, h2⟩
    · rw [if_neg h2] at h; omega
  · rw [if_neg h1] at h; omega

/-- The error of the row s of a machine. -/
def rowAt (i : Int) (nx ot : List (List Int)) (s : Nat) : Int := rowE i nx.length (nx.getD s []) (ot.getD s [])

/-- The error of Valid. -/
def vld (i st : Int) (nx ot : List (List Int)) : Int :=
  if 1 ≤ i ∧ i ≤ 64 then
    (if nx.length = 0 then 19 else if 128 < nx.length then 11 else if 0 ≤ st ∧ st < nx.length then (if ot.length = nx.length then fstE (rowAt i nx ot) nx.length else 1) else 2)
  else 2
theorem vld_in {i st : Int} {nx ot : List (List Int)} (h : ¬ (1 ≤ i ∧ i ≤ 64)) : vld i st nx ot = 2 := by unfold vld; rw [if_neg h]
theorem vld_empty {i st : Int} {nx ot : List (List Int)} (h : 1 ≤ i ∧ i ≤ 64) (h0 : nx.length = 0) : vld i st nx ot = 19 := by unfold vld; rw [if_pos h, if_pos h0]
theorem vld_many {i st : Int} {nx ot : List (List Int)} (h : 1 ≤ i ∧ i ≤ 64) (h0 : 128 < nx.length) : vld i st nx ot = 11 := by unfold vld; rw [if_pos h, if_neg (by omega), if_pos h0]
theorem vld_start {i st : Int} {nx ot : List (List Int)} (h : 1 ≤ i ∧ i ≤ 64) (h0 : ¬ nx.length = 0) (h1 : ¬ 128 < nx.length) (h2 : ¬ (0 ≤ st ∧ st < nx.length)) : vld i st nx ot = 2 := by
  unfold vld; rw [if_pos h, if_neg h0, if_neg h1, if_neg h2]
theorem vld_out {i st : Int} {nx ot : List (List Int)} (h : 1 ≤ i ∧ i ≤ 64) (h0 : ¬ nx.length = 0) (h1 : ¬ 128 < nx.length) (h2 : 0 ≤ st ∧ st < nx.length) (h3 : ¬ ot.length = nx.length) : vld i st nx ot = 1 := by
  unfold vld; rw [if_pos h, if_neg h0, if_neg h1, if_pos h2, if_neg h3]
theorem vld_rows {i st : Int} {nx ot : List (List Int)} (h : 1 ≤ i ∧ i ≤ 64) (h0 : ¬ nx.length = 0) (h1 : ¬ 128 < nx.length) (h2 : 0 ≤ st ∧ st < nx.length) (h3 : ot.length = nx.length) : vld i st nx ot = fstE (rowAt i nx ot) nx.length := by
  unfold vld; rw [if_pos h, if_neg h0, if_neg h1, if_pos h2, if_pos h3]

/-- A machine of n states and i inputs is valid. -/
structure Mok (i st n : Nat) (nx ot : List (List Int)) : Prop where
  i1 : 1 ≤ i
  i2 : i ≤ 64
  n1 : 0 < n
  n2 : n ≤ 128
  st : st < n
  nxl : nx.length = n
  otl : ot.length = n
  row : ∀ s, s < n → (nx.getD s []).length = i ∧ (ot.getD s []).length = i ∧ ∀ a, a < i → 0 ≤ (nx.getD s []).getD a 0 ∧ (nx.getD s []).getD a 0 < n ∧ 0 ≤ (ot.getD s []).getD a 0 ∧ (ot.getD s []).getD a 0 ≤ 1048576

theorem vld_zero {i st : Int} {nx ot : List (List Int)} (h : vld i st nx ot = 0) : ∃ i' st' n : Nat, i = i' ∧ st = st' ∧ Mok i' st' n nx ot := by
  unfold vld at h
  by_cases h1 : 1 ≤ i ∧ i ≤ 64
  · rw [if_pos h1] at h
    by_cases h2 : nx.length = 0
    · rw [if_pos h2] at h; omega
    · rw [if_neg h2] at h
      by_cases h3 : 128 < nx.length
      · rw [if_pos h3] at h; omega
      · rw [if_neg h3] at h
        by_cases h4 : 0 ≤ st ∧ st < nx.length
        · rw [if_pos h4] at h
          by_cases h5 : ot.length = nx.length
          · rw [if_pos h5] at h
            refine ⟨i.toNat, st.toNat, nx.length, by omega, by omega, by omega, by omega, by omega, by omega, by omega, rfl, h5, fun s hs => ?_⟩
            obtain ⟨r1, r2, r3⟩ := rowE_zero (fstE_zero h s hs)
            exact ⟨by omega, by omega, fun a ha => r3 a (by omega)⟩
          · rw [if_neg h5] at h; omega
        · rw [if_neg h4] at h; omega
  · rw [if_neg h1] at h; omega

theorem Mok.vld {i st n : Nat} {nx ot : List (List Int)} (h : Mok i st n nx ot) : vld i st nx ot = 0 := by
  have h1 := h.i1; have h2 := h.i2; have h3 := h.n1; have h4 := h.n2; have h5 := h.st; have h6 := h.nxl; have h7 := h.otl
  rw [vld_rows (by omega) (by omega) (by omega) (by omega) (by omega)]
  refine fstE_ok fun t ht => rowE_ok ⟨?_, ?_⟩ fun m hm => ?_
  · have := (h.row t (by omega)).1; omega
  · have := (h.row t (by omega)).2.1; omega
  · have := (h.row t (by omega)).1
    have := (h.row t (by omega)).2.2 m (by omega)
    rw [h6]; exact this

/-- The next state, and the output. -/
def nN (nx : List (List Int)) (s a : Nat) : Nat := ((nx.getD s []).getD a 0).toNat
def oN (ot : List (List Int)) (s a : Nat) : Int := (ot.getD s []).getD a 0
theorem Mok.nN_lt {i st n : Nat} {nx ot : List (List Int)} (h : Mok i st n nx ot) {s a : Nat} (hs : s < n) (ha : a < i) : nN nx s a < n := by
  have := (h.row s hs).2.2 a ha; unfold nN; omega
theorem Mok.nN_eq {i st n : Nat} {nx ot : List (List Int)} (h : Mok i st n nx ot) {s a : Nat} (hs : s < n) (ha : a < i) : (nx.getD s []).getD a 0 = (nN nx s a : Int) := by
  have := (h.row s hs).2.2 a ha; unfold nN; omega

/-- The output word from a state, and the state after it. -/
def runO (nx ot : List (List Int)) : Nat → List Int → List Int
  | _, [] => []
  | s, x :: w => oN ot s x.toNat :: runO nx ot (nN nx s x.toNat) w
def runS (nx : List (List Int)) : Nat → List Int → Nat
  | s, [] => s
  | s, x :: w => runS nx (nN nx s x.toNat) w
theorem runO_append (nx ot : List (List Int)) : ∀ (u v : List Int) (s : Nat), runO nx ot s (u ++ v) = runO nx ot s u ++ runO nx ot (runS nx s u) v
  | [], _, _ => rfl
  | x :: u, v, s => by
    show oN ot s x.toNat :: runO nx ot (nN nx s x.toNat) (u ++ v) = _
    rw [runO_append nx ot u v]; rfl
theorem runS_append (nx : List (List Int)) : ∀ (u v : List Int) (s : Nat), runS nx s (u ++ v) = runS nx (runS nx s u) v
  | [], _, _ => rfl
  | x :: u, v, s => runS_append nx u v (nN nx s x.toNat)
theorem runO_len (nx ot : List (List Int)) : ∀ (u : List Int) (s : Nat), (runO nx ot s u).length = u.length
  | [], _ => rfl
  | x :: u, s => by
    show (runO nx ot (nN nx s x.toNat) u).length + 1 = u.length + 1
    rw [runO_len nx ot u]
theorem take_next {xs : List Int} {j : Nat} (h : j < xs.length) : xs.take (j + 1) = xs.take j ++ [xs[j]?.getD 0] := by
  rw [List.take_succ_eq_append_getElem h, List.getElem?_eq_getElem h]; rfl
theorem runO_next {nx ot : List (List Int)} {s j : Nat} {xs : List Int} (h : j < xs.length) : runO nx ot s (xs.take (j + 1)) = runO nx ot s (xs.take j) ++ [oN ot (runS nx s (xs.take j)) (xs[j]?.getD 0).toNat] := by
  rw [take_next h, runO_append]; rfl
theorem runS_next {nx : List (List Int)} {s j : Nat} {xs : List Int} (h : j < xs.length) : runS nx s (xs.take (j + 1)) = nN nx (runS nx s (xs.take j)) (xs[j]?.getD 0).toNat := by
  rw [take_next h, runS_append]; rfl
theorem Mok.runS_lt {i st n : Nat} {nx ot : List (List Int)} (h : Mok i st n nx ot) : ∀ (u : List Int) (s : Nat), s < n → (∀ x, x ∈ u → 0 ≤ x ∧ x < i) → runS nx s u < n
  | [], _, hs, _ => hs
  | x :: u, s, hs, hu => by
    have hx := hu x (by simp)
    exact h.runS_lt u _ (h.nN_lt hs (by omega)) fun y hy => hu y (by simp [hy])
theorem Syms.mem {xs : List Int} {k : Int} (h : Syms xs k xs.length) : ∀ x, x ∈ xs → 0 ≤ x ∧ x < k := by
  intro x hx
  obtain ⟨j, hj, rfl⟩ := List.getElem_of_mem hx
  have := h j hj
  simpa [List.getD, List.getElem?_eq_getElem hj] using this

/-- One row of a search: what is new is added at the end. -/
def addN (l : List Nat) (x : Nat) : List Nat := if x ∈ l then l else l ++ [x]
def addR (nx : List (List Int)) (s : Nat) (l : List Nat) : Nat → List Nat
  | 0 => l
  | a + 1 => addN (addR nx s l a) (nN nx s a)
/-- The search. -/
def bfs (nx : List (List Int)) (i : Nat) : Nat → List Nat → Nat → List Nat
  | 0, l, _ => l
  | k + 1, l, j => if j < l.length then bfs nx i k (addR nx (l.getD j 0) l i) (j + 1) else l
def rch (nx : List (List Int)) (i st : Nat) : List Nat := bfs nx i nx.length [st] 0

theorem addN_pre (l : List Nat) (x : Nat) : ∃ t, addN l x = l ++ t := by
  unfold addN; split
  · exact ⟨[], by simp⟩
  · exact ⟨[x], rfl⟩
theorem addR_pre (nx : List (List Int)) (s : Nat) (l : List Nat) : ∀ a, ∃ t, addR nx s l a = l ++ t
  | 0 => ⟨[], by simp [addR]⟩
  | a + 1 => by
    obtain ⟨t, ht⟩ := addR_pre nx s l a
    obtain ⟨u, hu⟩ := addN_pre (addR nx s l a) (nN nx s a)
    exact ⟨t ++ u, by show addN _ _ = _; rw [hu, ht, List.append_assoc]⟩
theorem bfs_pre (nx : List (List Int)) (i : Nat) : ∀ (k : Nat) (l : List Nat) (j : Nat), ∃ t, bfs nx i k l j = l ++ t
  | 0, l, _ => ⟨[], by simp [bfs]⟩
  | k + 1, l, j => by
    unfold bfs
    split
    · obtain ⟨t, ht⟩ := addR_pre nx (l.getD j 0) l i
      obtain ⟨u, hu⟩ := bfs_pre nx i k (addR nx (l.getD j 0) l i) (j + 1)
      exact ⟨t ++ u, by rw [hu, ht, List.append_assoc]⟩
    · exact ⟨[], by simp⟩

/-- A list of different states. -/
def Stt (n : Nat) (l : List Nat) : Prop := l.Nodup ∧ ∀ x, x ∈ l → x < n
theorem Stt.len : ∀ {n : Nat} {l : List Nat}, Stt n l → l.length ≤ n
  | 0, l, h => by
    cases l with
    | nil => exact Nat.le_refl _
    | cons x t => exact absurd (h.2 x (by simp)) (by omega)
  | n + 1, l, h => by
    by_cases hm : n ∈ l
    · have h1 : Stt n (l.erase n) := ⟨h.1.erase n, fun x hx => by
        have := (h.1.mem_erase_iff).1 hx
        have := h.2 x this.2
        omega⟩
      have := h1.len
      rw [List.length_erase_of_mem hm] at this
      omega
    · have h1 : Stt n l := ⟨h.1, fun x hx => by
        have := h.2 x hx
        by_cases e : x = n
        · subst e; exact absurd hx hm
        · omega⟩
      have := h1.len
      omega
theorem addN_stt {n : Nat} {l : List Nat} (h : Stt n l) {x : Nat} (hx : x < n) : Stt n (addN l x) := by
  unfold addN
  split
  · exact h
  · rename_i hm
    refine ⟨List.nodup_append.2 ⟨h.1, by simp, ?_⟩, fun y hy => ?_⟩
    · intro a ha b hb; simp at hb; subst hb; intro e; subst e; exact hm ha
    · rw [List.mem_append] at hy
      rcases hy with hy | hy
      · exact h.2 y hy
      · simp at hy; omega
theorem addR_stt {i st n : Nat} {nx ot : List (List Int)} (hm : Mok i st n nx ot) {l : List Nat} (h : Stt n l) {s : Nat} (hs : s < n) : ∀ a, a ≤ i → Stt n (addR nx s l a)
  | 0, _ => h
  | a + 1, ha => addN_stt (addR_stt hm h hs a (by omega)) (hm.nN_lt hs (by omega))
theorem mem_addN (l : List Nat) (x : Nat) : x ∈ addN l x := by
  unfold addN; split
  · assumption
  · simp
theorem addN_mem {l : List Nat} {x y : Nat} (h : y ∈ l) : y ∈ addN l x := by obtain ⟨t, ht⟩ := addN_pre l x; rw [ht]; simp [h]
theorem getD_mem {l : List Nat} {j : Nat} (h : j < l.length) : l.getD j 0 ∈ l := by
  rw [List.getD_eq_getElem?_getD, List.getElem?_eq_getElem h]; exact List.getElem_mem _
theorem getD_pre {l t : List Nat} {j : Nat} (h : j < l.length) : (l ++ t).getD j 0 = l.getD j 0 := by
  rw [List.getD_eq_getElem?_getD, List.getD_eq_getElem?_getD, List.getElem?_append_left h]

/-- More rounds than states turn nothing. -/
theorem bfs_fuel {i st n : Nat} {nx ot : List (List Int)} (hm : Mok i st n nx ot) : ∀ (k : Nat) (l : List Nat) (j : Nat), Stt n l → n ≤ k + j → bfs nx i (k + 1) l j = bfs nx i k l j
  | 0, l, j, h, hk => by
    have := h.len
    unfold bfs
    rw [if_neg (by omega)]
  | k + 1, l, j, h, hk => by
    by_cases hj : j < l.length
    · show (if j < l.length then bfs nx i (k + 1) (addR nx (l.getD j 0) l i) (j + 1) else l) = (if j < l.length then bfs nx i k (addR nx (l.getD j 0) l i) (j + 1) else l)
      rw [if_pos hj, if_pos hj]
      exact bfs_fuel hm k _ _ (addR_stt hm h (h.2 _ (getD_mem hj)) i (Nat.le_refl _)) (by omega)
    · show (if j < l.length then bfs nx i (k + 1) (addR nx (l.getD j 0) l i) (j + 1) else l) = (if j < l.length then bfs nx i k (addR nx (l.getD j 0) l i) (j + 1) else l)
      rw [if_neg hj, if_neg hj]
theorem bfs_on {i st n : Nat} {nx ot : List (List Int)} (hm : Mok i st n nx ot) {l : List Nat} {j : Nat} (h : Stt n l) (hj : j < l.length) :
    bfs nx i n (addR nx (l.getD j 0) l i) (j + 1) = bfs nx i n l j := by
  have hn := hm.n1
  have hx := addR_stt hm h (h.2 _ (getD_mem hj)) i (Nat.le_refl _)
  obtain ⟨k, rfl⟩ : ∃ k, n = k + 1 := ⟨n - 1, by omega⟩
  rw [bfs_fuel hm k _ (j + 1) hx (by omega)]
  show _ = (if j < l.length then bfs nx i k (addR nx (l.getD j 0) l i) (j + 1) else l)
  rw [if_pos hj]
theorem bfs_end (nx : List (List Int)) (i : Nat) (k : Nat) {l : List Nat} {j : Nat} (hj : ¬ j < l.length) : bfs nx i k l j = l := by
  cases k with
  | zero => rfl
  | succ k => unfold bfs; rw [if_neg hj]
end Go.Proofs.Ytnifjagjcoegaaa
