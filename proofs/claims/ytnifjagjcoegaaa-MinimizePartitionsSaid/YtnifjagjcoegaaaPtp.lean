/- Partitions become finer until they stay: the depth. -/
import Derived.Test.YtnifjagjcoegaaaNmbp
namespace Go.Proofs.Ytnifjagjcoegaaa

/-- The least of its class. -/
def fst_ (c : Nat → Nat) (s : Nat) : Bool := (List.range s).all fun t => c t != c s
theorem fst_iff {c : Nat → Nat} {s : Nat} : fst_ c s = true ↔ ∀ t, t < s → c t ≠ c s := by
  unfold fst_
  simp [List.all_eq_true]
theorem fst_ex (c : Nat → Nat) : ∀ s, ∃ r, r ≤ s ∧ c r = c s ∧ fst_ c r = true := by
  intro s
  induction s using Nat.strongRecOn with
  | _ s ih =>
    by_cases h : fst_ c s = true
    · exact ⟨s, Nat.le_refl _, rfl, h⟩
    · have h2 : ∃ t, t < s ∧ c t = c s := by
        rw [fst_iff] at h
        exact Classical.byContradiction fun H => h fun t ht e => H ⟨t, ht, e⟩
      obtain ⟨t, ht, e⟩ := h2
      obtain ⟨r, h3, h4, h5⟩ := ih t ht
      exact ⟨r, by omega, h4.trans e, h5⟩
def cnt (c : Nat → Nat) (n : Nat) : Nat := ((List.range n).filter (fst_ c)).length
theorem cnt_le (c : Nat → Nat) (n : Nat) : cnt c n ≤ n := by
  unfold cnt
  have := List.length_filter_le (fst_ c) (List.range n)
  simpa using this
theorem cnt_pos (c : Nat → Nat) {n : Nat} (h : 0 < n) : 0 < cnt c n := by
  unfold cnt
  have : 0 ∈ (List.range n).filter (fst_ c) := by
    rw [List.mem_filter]
    exact ⟨by simpa using h, by rw [fst_iff]; intro t ht; omega⟩
  exact List.length_pos_of_mem this
theorem filter_le {p q : Nat → Bool} : ∀ {l : List Nat}, (∀ x, x ∈ l → p x = true → q x = true) → (l.filter p).length ≤ (l.filter q).length
  | [], _ => Nat.le_refl _
  | x :: l, h => by
    have ih := filter_le (l := l) fun y hy => h y (by simp [hy])
    rw [List.filter_cons, List.filter_cons]
    by_cases hp : p x = true
    · rw [if_pos hp, if_pos (h x (by simp) hp)]; simp; exact ih
    · rw [if_neg hp]
      split
      · simp; omega
      · exact ih
theorem filter_eq_of_len {p q : Nat → Bool} : ∀ {l : List Nat}, (∀ x, x ∈ l → p x = true → q x = true) → (l.filter q).length ≤ (l.filter p).length → ∀ x, x ∈ l → q x = true → p x = true
  | [], _, _, x, hx => by simp at hx
  | y :: l, h, hl, x, hx => by
    intro hq
    have hle := filter_le (p := p) (q := q) (l := l) fun z hz => h z (by simp [hz])
    rw [List.filter_cons, List.filter_cons] at hl
    by_cases hp : p y = true
    · rw [if_pos hp, if_pos (h y (by simp) hp)] at hl
      rcases List.mem_cons.1 hx with rfl | hx
      · exact hp
      · exact filter_eq_of_len (fun z hz => h z (by simp [hz])) (by simpa using hl) x hx hq
    · rw [if_neg hp] at hl
      by_cases hqy : q y = true
      · rw [if_pos hqy] at hl; simp at hl; omega
      · rw [if_neg hqy] at hl
        rcases List.mem_cons.1 hx with rfl | hx
        · exact absurd hq hqy
        · exact filter_eq_of_len (fun z hz => h z (by simp [hz])) hl x hx hq
/-- A finer partition with as many classes is the same one. -/
theorem cnt_same {c d : Nat → Nat} {n : Nat} (h : ∀ s t, s < n → t < n → d s = d t → c s = c t) (hc : cnt d n ≤ cnt c n) : ∀ s t, s < n → t < n → c s = c t → d s = d t := by
  have h1 : ∀ x, x ∈ List.range n → fst_ c x = true → fst_ d x = true := fun x hx hf => by
    rw [fst_iff] at hf ⊢
    rw [List.mem_range] at hx
    exact fun t ht e => hf t ht (h t x (by omega) hx e)
  have h2 := filter_eq_of_len h1 hc
  intro s t hs ht e
  obtain ⟨r, r1, r2, r3⟩ := fst_ex d s
  obtain ⟨u, u1, u2, u3⟩ := fst_ex d t
  have f1 := h2 r (by simp; omega) r3
  have f2 := h2 u (by simp; omega) u3
  rw [fst_iff] at f1 f2
  have e3 : c r = c u := (h r s (by omega) hs r2).trans (e.trans (h u t (by omega) ht u2).symm)
  have e4 : r = u := by
    rcases Nat.lt_trichotomy r u with hlt | he | hgt
    · exact absurd e3 (f2 r hlt)
    · exact he
    · exact absurd e3.symm (f1 u hgt)
  subst e4
  exact r2.symm.trans u2
theorem cnt_lt {c d : Nat → Nat} {n : Nat} (h : ∀ s t, s < n → t < n → d s = d t → c s = c t) (hne : ¬ ∀ s t, s < n → t < n → c s = c t → d s = d t) : cnt c n < cnt d n := by
  rcases Nat.lt_or_ge (cnt c n) (cnt d n) with h1 | h1
  · exact h1
  · exact absurd (cnt_same h h1) hne

/-- The first number, among the given ones, from which on the classes stay. -/
def depF (nx ot : List (List Int)) (i n : Nat) : Nat → Nat → Nat
  | 0, j => j
  | f + 1, j => if pt nx ot i n (j + 1) = pt nx ot i n j then j else depF nx ot i n f (j + 1)
def dep (nx ot : List (List Int)) (i n : Nat) : Nat := depF nx ot i n n 0
theorem pt_same {i st n : Nat} {nx ot : List (List Int)} (hM : Mok i st n nx ot) {j k : Nat} (h : ∀ s t, s < n → t < n → (cN nx ot i n j s = cN nx ot i n j t ↔ cN nx ot i n k s = cN nx ot i n k t)) : pt nx ot i n j = pt nx ot i n k := by
  rw [pt_num hM j, pt_num hM k]; exact num_congr h
theorem Mok.cnt_succ {i st n : Nat} {nx ot : List (List Int)} (hM : Mok i st n nx ot) {j : Nat} (h : pt nx ot i n (j + 1) ≠ pt nx ot i n j) : cnt (cN nx ot i n j) n < cnt (cN nx ot i n (j + 1)) n :=
  cnt_lt (fun _ _ hs ht e => hM.cN_fine hs ht e) fun H => h (pt_same hM fun s t hs ht => ⟨hM.cN_fine hs ht, H s t hs ht⟩)
theorem Mok.cnt_ge {i st n : Nat} {nx ot : List (List Int)} (hM : Mok i st n nx ot) : ∀ {j : Nat}, (∀ m, m < j → pt nx ot i n (m + 1) ≠ pt nx ot i n m) → j + 1 ≤ cnt (cN nx ot i n j) n
  | 0, _ => cnt_pos _ hM.n1
  | j + 1, h => by
    have h1 := hM.cnt_ge (j := j) fun m hm => h m (by omega)
    have h2 := hM.cnt_succ (h j (by omega))
    omega
theorem depF_spec {i st n : Nat} {nx ot : List (List Int)} (hM : Mok i st n nx ot) : ∀ (f j : Nat), n ≤ f + j → (∀ m, m < j → pt nx ot i n (m + 1) ≠ pt nx ot i n m) →
    pt nx ot i n (depF nx ot i n f j + 1) = pt nx ot i n (depF nx ot i n f j) ∧ ∀ m, m < depF nx ot i n f j → pt nx ot i n (m + 1) ≠ pt nx ot i n m
  | 0, j, hf, h => by
    have h1 := hM.cnt_ge h
    have h2 := cnt_le (cN nx ot i n j) n
    omega
  | f + 1, j, hf, h => by
    unfold depF
    by_cases e : pt nx ot i n (j + 1) = pt nx ot i n j
    · rw [if_pos e]; exact ⟨e, h⟩
    · rw [if_neg e]
      refine depF_spec hM f (j + 1) (by omega) fun m hm => ?_
      by_cases e2 : m = j
      · subst e2; exact e
      · exact h m (by omega)
theorem Mok.dep_stay {i st n : Nat} {nx ot : List (List Int)} (hM : Mok i st n nx ot) : pt nx ot i n (dep nx ot i n + 1) = pt nx ot i n (dep nx ot i n) := (depF_spec hM n 0 (by omega) fun m hm => absurd hm (by omega)).1
theorem Mok.dep_min {i st n : Nat} {nx ot : List (List Int)} (hM : Mok i st n nx ot) {m : Nat} (h : m < dep nx ot i n) : pt nx ot i n (m + 1) ≠ pt nx ot i n m := (depF_spec hM n 0 (by omega) fun m hm => absurd hm (by omega)).2 m h
theorem Mok.dep_lt {i st n : Nat} {nx ot : List (List Int)} (hM : Mok i st n nx ot) : dep nx ot i n < n := by
  have h1 := hM.cnt_ge (j := dep nx ot i n) fun m hm => hM.dep_min hm
  have h2 := cnt_le (cN nx ot i n (dep nx ot i n)) n
  omega
theorem Mok.dep_le {i st n : Nat} {nx ot : List (List Int)} (hM : Mok i st n nx ot) {j : Nat} (h : ∀ m, m < j → pt nx ot i n (m + 1) ≠ pt nx ot i n m) : j ≤ dep nx ot i n := by
  rcases Nat.lt_or_ge (dep nx ot i n) j with h1 | h1
  · exact absurd hM.dep_stay (h _ h1)
  · exact h1
theorem Mok.dep_eq {i st n : Nat} {nx ot : List (List Int)} (hM : Mok i st n nx ot) {j : Nat} (h : ∀ m, m < j → pt nx ot i n (m + 1) ≠ pt nx ot i n m) (hj : pt nx ot i n (j + 1) = pt nx ot i n j) : j = dep nx ot i n := by
  have h1 := hM.dep_le h
  rcases Nat.lt_or_ge j (dep nx ot i n) with h2 | h2
  · exact absurd hj (hM.dep_min h2)
  · omega
theorem Mok.pt_all {i st n : Nat} {nx ot : List (List Int)} (hM : Mok i st n nx ot) {k : Nat} (h : dep nx ot i n ≤ k) : pt nx ot i n k = pt nx ot i n (dep nx ot i n) := by
  obtain ⟨d, rfl⟩ := Nat.le.dest h
  exact pt_stay hM.dep_stay d
/-- The classes for k are all classes just if k is not below the depth. -/
theorem Mok.pt_eq_all {i st n : Nat} {nx ot : List (List Int)} (hM : Mok i st n nx ot) {k : Nat} : pt nx ot i n k = pt nx ot i n (dep nx ot i n) ↔ dep nx ot i n ≤ k := by
  refine ⟨fun h => ?_, hM.pt_all⟩
  rcases Nat.lt_or_ge k (dep nx ot i n) with h1 | h1
  · refine absurd ?_ (hM.dep_min h1)
    have h2 := hM.dep_stay
    show num (fun s => sgm nx ot (pt nx ot i n k) s i) n = _
    rw [h]
    exact h2
  · exact h1
end Go.Proofs.Ytnifjagjcoegaaa
