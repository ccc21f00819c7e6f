/- Numbering by first occurrence; the classes of states that words of k symbols do not separate. -/
import Derived.Test.YtnifjagjcoegaaaReachp
namespace Go.Proofs.Ytnifjagjcoegaaa

section
variable {κ : Type} [BEq κ] [LawfulBEq κ]
/-- What is new is added at the end. -/
def addK (l : List κ) (x : κ) : List κ := if x ∈ l then l else l ++ [x]
/-- The different keys among the first n. -/
def grp (f : Nat → κ) : Nat → List κ
  | 0 => []
  | k + 1 => addK (grp f k) (f k)
theorem addK_pre (l : List κ) (x : κ) : ∃ t, addK l x = l ++ t := by
  unfold addK; split
  · exact ⟨[], by simp⟩
  · exact ⟨[x], rfl⟩
theorem addK_in {l : List κ} {x : κ} (h : x ∈ l) : addK l x = l := by unfold addK; rw [if_pos h]
theorem addK_out {l : List κ} {x : κ} (h : ¬ x ∈ l) : addK l x = l ++ [x] := by unfold addK; rw [if_neg h]
theorem mem_addK (l : List κ) (x : κ) : x ∈ addK l x := by
  unfold addK; split
  · assumption
  · simp
theorem grp_pre (f : Nat → κ) (m : Nat) : ∀ d, ∃ t, grp f (m + d) = grp f m ++ t
  | 0 => ⟨[], by simp⟩
  | d + 1 => by
    obtain ⟨t, ht⟩ := grp_pre f m d
    obtain ⟨u, hu⟩ := addK_pre (grp f (m + d)) (f (m + d))
    exact ⟨t ++ u, by show addK (grp f (m + d)) (f (m + d)) = _; rw [hu, ht, List.append_assoc]⟩
theorem grp_has (f : Nat → κ) {n s : Nat} (h : s < n) : f s ∈ grp f n := by
  obtain ⟨t, ht⟩ := grp_pre f (s + 1) (n - (s + 1))
  rw [show s + 1 + (n - (s + 1)) = n by omega] at ht
  rw [ht]
  exact List.mem_append_left _ (mem_addK _ _)
theorem grp_mem (f : Nat → κ) : ∀ {n : Nat} {x : κ}, x ∈ grp f n → ∃ s, s < n ∧ f s = x
  | 0, x, h => by simp [grp] at h
  | n + 1, x, h => by
    by_cases e : f n ∈ grp f n
    · rw [show grp f (n + 1) = grp f n from addK_in e] at h
      obtain ⟨s, hs, e2⟩ := grp_mem f h
      exact ⟨s, by omega, e2⟩
    · rw [show grp f (n + 1) = grp f n ++ [f n] from addK_out e] at h
      rcases List.mem_append.1 h with h | h
      · obtain ⟨s, hs, e2⟩ := grp_mem f h
        exact ⟨s, by omega, e2⟩
      · simp at h
        exact ⟨n, by omega, h.symm⟩
theorem grp_nodup (f : Nat → κ) : ∀ n, (grp f n).Nodup
  | 0 => by simp [grp]
  | n + 1 => by
    by_cases e : f n ∈ grp f n
    · rw [show grp f (n + 1) = grp f n from addK_in e]; exact grp_nodup f n
    · rw [show grp f (n + 1) = grp f n ++ [f n] from addK_out e]
      refine List.nodup_append.2 ⟨grp_nodup f n, by simp, fun a ha b hb => ?_⟩
      simp at hb; subst hb; intro e2; subst e2; exact e ha
theorem grp_len (f : Nat → κ) : ∀ n, (grp f n).length ≤ n
  | 0 => Nat.le_refl _
  | n + 1 => by
    have := grp_len f n
    obtain ⟨t, ht⟩ := addK_pre (grp f n) (f n)
    show (addK _ _).length ≤ _
    unfold addK
    split
    · omega
    · rw [List.length_append]; simp; omega
theorem idxOf_pre {l t : List κ} {x : κ} (h : x ∈ l) : (l ++ t).idxOf x = l.idxOf x := by rw [List.idxOf_append, if_pos h]
theorem idxOf_new {l : List κ} {x : κ} (h : ¬ x ∈ l) : (l ++ [x]).idxOf x = l.length := by
  rw [List.idxOf_append, if_neg h]; simp
theorem getD_idxOf {l : List κ} {x d : κ} (h : x ∈ l) : l.getD (l.idxOf x) d = x := by
  have := List.idxOf_lt_length_of_mem h
  rw [List.getD_eq_getElem?_getD, List.getElem?_eq_getElem this]
  exact List.getElem_idxOf this
theorem idxOf_inj2 {l : List κ} {x y : κ} (hx : x ∈ l) (hy : y ∈ l) (h : l.idxOf x = l.idxOf y) : x = y := by
  have h1 := getD_idxOf (d := x) hx
  have h2 := getD_idxOf (d := x) hy
  rw [h] at h1
  exact h1.symm.trans h2

/-- The number of s: that of its key among the different keys. -/
def nmb (f : Nat → κ) (s : Nat) : Nat := (grp f (s + 1)).idxOf (f s)
def num (f : Nat → κ) (n : Nat) : List Nat := (List.range n).map (nmb f)
theorem num_len (f : Nat → κ) (n : Nat) : (num f n).length = n := by simp [num]
theorem num_at (f : Nat → κ) {n s : Nat} (h : s < n) : (num f n).getD s 0 = nmb f s := by unfold num; simp [List.getD, h]
theorem nmb_in (f : Nat → κ) {n s : Nat} (h : s < n) : nmb f s = (grp f n).idxOf (f s) := by
  obtain ⟨t, ht⟩ := grp_pre f (s + 1) (n - (s + 1))
  rw [show s + 1 + (n - (s + 1)) = n by omega] at ht
  unfold nmb
  rw [ht, idxOf_pre (grp_has f (Nat.lt_succ_self s))]
theorem nmb_eq (f : Nat → κ) {s t : Nat} : nmb f s = nmb f t ↔ f s = f t := by
  have hs : s < s + t + 1 := by omega
  have ht : t < s + t + 1 := by omega
  rw [nmb_in f hs, nmb_in f ht]
  exact ⟨fun h => idxOf_inj2 (grp_has f hs) (grp_has f ht) h, fun h => by rw [h]⟩
theorem nmb_old (f : Nat → κ) {s : Nat} (h : f s ∈ grp f s) : nmb f s = (grp f s).idxOf (f s) := by
  unfold nmb; rw [show grp f (s + 1) = grp f s from addK_in h]
theorem nmb_new (f : Nat → κ) {s : Nat} (h : ¬ f s ∈ grp f s) : nmb f s = (grp f s).length := by
  unfold nmb; rw [show grp f (s + 1) = grp f s ++ [f s] from addK_out h, idxOf_new h]
theorem nmb_lt (f : Nat → κ) {n s : Nat} (h : s < n) : nmb f s < (grp f n).length := by
  rw [nmb_in f h]; exact List.idxOf_lt_length_of_mem (grp_has f h)
theorem nmb_le (f : Nat → κ) (s : Nat) : nmb f s ≤ s := by
  have h1 := nmb_lt f (show s < s + 1 by omega)
  have h2 := grp_len f (s + 1)
  omega
end

theorem num_congr {κ μ : Type} [BEq κ] [LawfulBEq κ] [BEq μ] [LawfulBEq μ] {f : Nat → κ} {g : Nat → μ} {n : Nat} (h : ∀ s t, s < n → t < n → (f s = f t ↔ g s = g t)) : num f n = num g n := by
  have key : ∀ m, m ≤ n → (grp f m).length = (grp g m).length ∧ ∀ s, s < m → nmb f s = nmb g s := by
    intro m
    induction m with
    | zero => intro _; exact ⟨rfl, fun s hs => absurd hs (by omega)⟩
    | succ m ih =>
      intro hm
      obtain ⟨h1, h2⟩ := ih (by omega)
      by_cases e : f m ∈ grp f m
      · obtain ⟨s, hs, e2⟩ := grp_mem f e
        have e3 : g s = g m := (h s m (by omega) (by omega)).1 e2
        have e4 : g m ∈ grp g m := e3 ▸ grp_has g hs
        refine ⟨?_, fun t ht => ?_⟩
        · rw [show grp f (m + 1) = grp f m from addK_in e, show grp g (m + 1) = grp g m from addK_in e4, h1]
        · by_cases et : t = m
          · subst et
            rw [← (nmb_eq f).2 e2, ← (nmb_eq g).2 e3]; exact h2 s hs
          · exact h2 t (by omega)
      · have e4 : ¬ g m ∈ grp g m := fun H => by
          obtain ⟨s, hs, e2⟩ := grp_mem g H
          exact e ((h s m (by omega) (by omega)).2 e2 ▸ grp_has f hs)
        refine ⟨?_, fun t ht => ?_⟩
        · rw [show grp f (m + 1) = grp f m ++ [f m] from addK_out e, show grp g (m + 1) = grp g m ++ [g m] from addK_out e4, List.length_append, List.length_append, h1]; rfl
        · by_cases et : t = m
          · subst et
            rw [nmb_new f e, nmb_new g e4, h1]
          · exact h2 t (by omega)
  unfold num
  refine List.map_congr_left fun s hs => ?_
  rw [List.mem_range] at hs
  exact (key n (Nat.le_refl _)).2 s hs

/-- The signature of a state, as far as a inputs are told: output and class, input by input. -/
def sgm (nx ot : List (List Int)) (cl : List Nat) (s a : Nat) : List Int := (List.range 128).map fun j => if j / 2 < a then (if j % 2 = 0 then oN ot s (j / 2) else ((cl.getD (nN nx s (j / 2)) 0 : Nat) : Int)) else 0
theorem sgm_len (nx ot : List (List Int)) (cl : List Nat) (s a : Nat) : (sgm nx ot cl s a).length = 128 := by simp [sgm]
theorem sgm_get (nx ot : List (List Int)) (cl : List Nat) (s a j : Nat) (h : j < 128) : (sgm nx ot cl s a)[j]? = some (if j / 2 < a then (if j % 2 = 0 then oN ot s (j / 2) else ((cl.getD (nN nx s (j / 2)) 0 : Nat) : Int)) else 0) := by
  unfold sgm; rw [List.getElem?_map, List.getElem?_range h]; rfl
theorem sgm_zero (nx ot : List (List Int)) (cl : List Nat) (s : Nat) : sgm nx ot cl s 0 = List.replicate 128 0 := by
  apply List.ext_getElem?
  intro j
  by_cases h : j < 128
  · rw [sgm_get _ _ _ _ _ _ h, if_neg (by omega), List.getElem?_replicate, if_pos h]
  · rw [List.getElem?_eq_none (by rw [sgm_len]; omega), List.getElem?_eq_none (by simp; omega)]
theorem sgm_succ (nx ot : List (List Int)) (cl : List Nat) (s a : Nat) : ((sgm nx ot cl s a).set (2 * a) (oN ot s a)).set (2 * a + 1) ((cl.getD (nN nx s a) 0 : Nat) : Int) = sgm nx ot cl s (a + 1) := by
  apply List.ext_getElem?
  intro j
  by_cases hj : j < 128
  · rw [sgm_get _ _ _ _ _ _ hj, List.getElem?_set, List.length_set, sgm_len]
    by_cases e : 2 * a + 1 = j
    · subst e
      rw [if_pos rfl, if_pos hj, if_pos (by omega), if_neg (by omega), show (2 * a + 1) / 2 = a by omega]
    · rw [if_neg e, List.getElem?_set, sgm_len]
      by_cases e2 : 2 * a = j
      · subst e2
        rw [if_pos rfl, if_pos hj, if_pos (by omega), if_pos (by omega), show 2 * a / 2 = a by omega]
      · rw [if_neg e2, sgm_get _ _ _ _ _ _ hj]
        by_cases e3 : j / 2 < a
        · rw [if_pos e3, if_pos (show j / 2 < a + 1 by omega)]
        · rw [if_neg e3, if_neg (show ¬ j / 2 < a + 1 by omega)]
  · rw [List.getElem?_eq_none (by simp [sgm_len]; omega), List.getElem?_eq_none (by rw [sgm_len]; omega)]
theorem sgm_eq {nx ot : List (List Int)} {cl : List Nat} {s t i : Nat} (h : i ≤ 64) : sgm nx ot cl s i = sgm nx ot cl t i ↔ ∀ a, a < i → oN ot s a = oN ot t a ∧ cl.getD (nN nx s a) 0 = cl.getD (nN nx t a) 0 := by
  constructor
  · intro e a ha
    have h1 : (sgm nx ot cl s i)[2 * a]? = (sgm nx ot cl t i)[2 * a]? := by rw [e]
    have h2 : (sgm nx ot cl s i)[2 * a + 1]? = (sgm nx ot cl t i)[2 * a + 1]? := by rw [e]
    rw [sgm_get _ _ _ _ _ _ (by omega), sgm_get _ _ _ _ _ _ (by omega), show 2 * a / 2 = a by omega, if_pos ha, if_pos ha, if_pos (show 2 * a % 2 = 0 by omega), if_pos (show 2 * a % 2 = 0 by omega)] at h1
    rw [sgm_get _ _ _ _ _ _ (by omega), sgm_get _ _ _ _ _ _ (by omega), show (2 * a + 1) / 2 = a by omega, if_pos ha, if_pos ha, if_neg (show ¬ (2 * a + 1) % 2 = 0 by omega), if_neg (show ¬ (2 * a + 1) % 2 = 0 by omega)] at h2
    simp only [Option.some.injEq] at h1 h2
    exact ⟨h1, by omega⟩
  · intro H
    apply List.ext_getElem?
    intro j
    by_cases hj : j < 128
    · rw [sgm_get _ _ _ _ _ _ hj, sgm_get _ _ _ _ _ _ hj]
      by_cases e : j / 2 < i
      · rw [if_pos e, if_pos e]
        obtain ⟨h1, h2⟩ := H _ e
        by_cases e2 : j % 2 = 0
        · rw [if_pos e2, if_pos e2, h1]
        · rw [if_neg e2, if_neg e2, h2]
      · rw [if_neg e, if_neg e]
    · rw [List.getElem?_eq_none (by rw [sgm_len]; omega), List.getElem?_eq_none (by rw [sgm_len]; omega)]

/-- The classes of states that no word of k symbols separates. -/
def pt (nx ot : List (List Int)) (i n : Nat) : Nat → List Nat
  | 0 => List.replicate n 0
  | k + 1 => num (fun s => sgm nx ot (pt nx ot i n k) s i) n
theorem pt_len (nx ot : List (List Int)) (i n : Nat) : ∀ k, (pt nx ot i n k).length = n
  | 0 => by simp [pt]
  | k + 1 => num_len _ _
/-- The class of a state. -/
def cN (nx ot : List (List Int)) (i n k s : Nat) : Nat := (pt nx ot i n k).getD s 0
theorem cN_zero {nx ot : List (List Int)} {i n s : Nat} (h : s < n) : cN nx ot i n 0 s = 0 := by unfold cN pt; simp [List.getD, h]
theorem cN_le {nx ot : List (List Int)} {i n k s : Nat} (h : s < n) : cN nx ot i n k s ≤ s := by
  cases k with
  | zero => rw [cN_zero h]; omega
  | succ k => unfold cN pt; rw [num_at _ h]; exact nmb_le _ _
theorem Mok.cN_succ {i st n : Nat} {nx ot : List (List Int)} (hM : Mok i st n nx ot) {k s t : Nat} (hs : s < n) (ht : t < n) :
    cN nx ot i n (k + 1) s = cN nx ot i n (k + 1) t ↔ ∀ a, a < i → oN ot s a = oN ot t a ∧ cN nx ot i n k (nN nx s a) = cN nx ot i n k (nN nx t a) := by
  unfold cN
  show (num _ n).getD s 0 = (num _ n).getD t 0 ↔ _
  rw [num_at _ hs, num_at _ ht, nmb_eq, sgm_eq hM.i2]
theorem Mok.cN_fine {i st n : Nat} {nx ot : List (List Int)} (hM : Mok i st n nx ot) : ∀ {k s t : Nat}, s < n → t < n → cN nx ot i n (k + 1) s = cN nx ot i n (k + 1) t → cN nx ot i n k s = cN nx ot i n k t
  | 0, s, t, hs, ht, _ => by rw [cN_zero hs, cN_zero ht]
  | k + 1, s, t, hs, ht, h => by
    rw [hM.cN_succ hs ht] at h ⊢
    exact fun a ha => ⟨(h a ha).1, hM.cN_fine (hM.nN_lt hs ha) (hM.nN_lt ht ha) (h a ha).2⟩
theorem pt_stay {nx ot : List (List Int)} {i n k : Nat} (h : pt nx ot i n (k + 1) = pt nx ot i n k) : ∀ d, pt nx ot i n (k + d) = pt nx ot i n k
  | 0 => rfl
  | d + 1 => by
    show num (fun s => sgm nx ot (pt nx ot i n (k + d)) s i) n = _
    rw [pt_stay h d]
    exact h
theorem list_ext0 {l t : List Nat} {n : Nat} (h1 : l.length = n) (h2 : t.length = n) (h : ∀ s, s < n → l.getD s 0 = t.getD s 0) : l = t := by
  apply List.ext_getElem (by omega)
  intro s hs ht
  have := h s (by omega)
  rw [List.getD_eq_getElem?_getD, List.getD_eq_getElem?_getD, List.getElem?_eq_getElem hs, List.getElem?_eq_getElem ht] at this
  exact this
/-- A partition by numbers of first occurrence is determined by its classes. -/
theorem pt_num {i st n : Nat} {nx ot : List (List Int)} (_ : Mok i st n nx ot) : ∀ k, pt nx ot i n k = num (cN nx ot i n k) n
  | 0 => by
    apply list_ext0 (pt_len _ _ _ _ _) (num_len _ _)
    intro s hs
    rw [num_at _ hs]
    have h0 : (pt nx ot i n 0).getD s 0 = 0 := cN_zero hs
    have e : ∀ m, m ≤ n → ∀ t, t ∈ grp (cN nx ot i n 0) m → t = 0 := fun m hm t ht => by
      obtain ⟨u, hu, rfl⟩ := grp_mem _ ht
      exact cN_zero (by omega)
    rw [h0]
    have h1 : nmb (cN nx ot i n 0) s = nmb (cN nx ot i n 0) 0 := (nmb_eq _).2 (by rw [cN_zero hs, cN_zero (by omega)])
    have := nmb_le (cN nx ot i n 0) 0
    omega
  | k + 1 => by
    refine num_congr fun s t hs ht => ?_
    have h1 := num_at (fun s => sgm nx ot (pt nx ot i n k) s i) hs
    have h2 := num_at (fun s => sgm nx ot (pt nx ot i n k) s i) ht
    show _ ↔ (num _ n).getD s 0 = (num _ n).getD t 0
    rw [h1, h2]
    exact (nmb_eq (fun s => sgm nx ot (pt nx ot i n k) s i)).symm
end Go.Proofs.Ytnifjagjcoegaaa
