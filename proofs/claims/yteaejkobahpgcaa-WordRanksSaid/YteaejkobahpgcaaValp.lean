/- Plain: the number of a word; Next raises it by one, Unrank is its inverse, and the order of words is that of their numbers. -/
import Derived.Test.YteaejkobahpgcaaUnrankp
import Derived.Test.YteaejkobahpgcaaOrdp
namespace Go.Proofs.Yteaejkobahpgcaa

/-- The number of the word whose symbols, the last one first, are r. -/
def valr (k : Int) : List Int → Int
  | [] => 0
  | x :: r => valr k r * k + x + 1

def val (k : Int) (xs : List Int) : Int := valr k xs.reverse

/-- All numbers are symbols of the size k. -/
def Sy (k : Int) (xs : List Int) : Prop := ∀ x ∈ xs, 0 ≤ x ∧ x < k

theorem Sy.of_syms {xs : List Int} {k : Int} (h : Syms xs k xs.length) : Sy k xs := fun x hx => by
  obtain ⟨i, hi, rfl⟩ := List.getElem_of_mem hx
  have := h i hi
  simpa [List.getD, hi] using this
theorem Sy.syms {xs : List Int} {k : Int} (h : Sy k xs) : Syms xs k xs.length := fun m hm => by
  have := h xs[m] (List.getElem_mem hm)
  simpa [List.getD, hm] using this
theorem Sy.rev {xs : List Int} {k : Int} (h : Sy k xs) : Sy k xs.reverse := fun x hx => h x (by simpa using hx)
theorem Sy.tail {x : Int} {xs : List Int} {k : Int} (h : Sy k (x :: xs)) : Sy k xs := fun y hy => h y (by simp [hy])
theorem Sy.head {x : Int} {xs : List Int} {k : Int} (h : Sy k (x :: xs)) : 0 ≤ x ∧ x < k := h x (by simp)

theorem valr_nonneg {k : Int} (hk : 1 ≤ k) {r : List Int} (h : Sy k r) : 0 ≤ valr k r := by
  induction r with
  | nil => simp [valr]
  | cons x r ih =>
    have h1 := ih h.tail
    have h2 := h.head
    have := Int.mul_nonneg h1 (show 0 ≤ k by omega)
    rw [valr]; omega

/-- Next, on the symbols from the last one on. -/
def succ (k : Int) : List Int → List Int
  | [] => [0]
  | x :: r => if x < k - 1 then (x + 1) :: r else 0 :: succ k r

theorem valr_succ {k : Int} {r : List Int} (h : Sy k r) : valr k (succ k r) = valr k r + 1 := by
  induction r with
  | nil => simp [succ, valr]
  | cons x r ih =>
    have h1 := ih h.tail
    have h2 := h.head
    rw [succ]
    split
    · simp [valr]; omega
    · have e : x = k - 1 := by omega
      rw [valr, valr, h1, e, Int.add_mul]; omega

theorem succ_sy {k : Int} (hk : 1 ≤ k) {r : List Int} (h : Sy k r) : Sy k (succ k r) := by
  induction r with
  | nil => intro x hx; simp [succ] at hx; omega
  | cons x r ih =>
    have h1 := ih h.tail
    have h2 := h.head
    rw [succ]
    split
    · intro y hy
      rcases List.mem_cons.1 hy with e | e
      · omega
      · exact h.tail y e
    · intro y hy
      rcases List.mem_cons.1 hy with e | e
      · omega
      · exact h1 y e

theorem succ_len (k : Int) (r : List Int) : (succ k r).length ≤ r.length + 1 := by
  induction r with
  | nil => simp [succ]
  | cons x r ih => rw [succ]; split <;> simp <;> omega

theorem nxt_succ {k : Int} {xs : List Int} (hl : xs.length ≠ 1024) (i : Nat) (hi : i ≤ xs.length) :
    nxt k xs i = ((succ k (xs.take i).reverse).reverse ++ List.replicate (xs.length - i) 0, true) := by
  induction i with
  | zero => rw [nxt, if_neg hl]; simp [succ, ← List.replicate_succ, ← List.replicate_succ']
  | succ i ih =>
    have hlt : i < xs.length := by omega
    have ht : (xs.take (i + 1)).reverse = xs[i]?.getD 0 :: (xs.take i).reverse := by
      rw [List.take_succ_eq_append_getElem hlt, List.reverse_append]; simp [hlt]
    rw [nxt, ht, succ]
    by_cases hc : xs[i]?.getD 0 < k - 1
    · rw [if_pos hc, if_pos hc]
      congr 1
      apply List.ext_getElem?
      intro m
      grind
    · rw [if_neg hc, if_neg hc, ih (by omega)]
      congr 1
      rw [List.reverse_cons, List.append_assoc]
      congr 1
      rw [show xs.length - i = (xs.length - (i + 1)) + 1 by omega, List.replicate_succ]; rfl

theorem next_succ {k : Int} {xs : List Int} (hl : xs.length ≤ 300) : nxt k xs xs.length = ((succ k xs.reverse).reverse, true) := by
  rw [nxt_succ (by omega) _ (Nat.le_refl _)]; simp

theorem val_snoc (k : Int) (xs : List Int) (x : Int) : val k (xs ++ [x]) = val k xs * k + x + 1 := by
  unfold val; rw [List.reverse_append]; rfl

/-- Rank is the number, or none if it is too great. -/
theorem rankGo_val {k : Int} (hk : 1 ≤ k) (ps xs : List Int) (h : Sy k ps) (h' : Sy k xs) : rankGo k xs (val k ps) = if val k (ps ++ xs) ≤ 4611686018427387904 then some (val k (ps ++ xs)) else (if val k ps ≤ 4611686018427387904 ∨ xs ≠ [] then none else some (val k ps)) := by
  induction xs generalizing ps with
  | nil =>
    rw [rankGo, List.append_nil]
    split
    · rfl
    · rename_i hv; rw [if_neg (by simp; omega)]
  | cons x xs ih =>
    have hx := h'.head
    have hps : Sy k (ps ++ [x]) := fun y hy => by
      rcases List.mem_append.1 hy with e | e
      · exact h y e
      · simp at e; omega
    have e1 : ps ++ x :: xs = (ps ++ [x]) ++ xs := by simp
    have hv : val k (ps ++ [x]) = val k ps * k + x + 1 := val_snoc k ps x
    have hmono : val k (ps ++ [x]) ≤ val k (ps ++ x :: xs) := by
      rw [e1]
      clear ih e1
      have hh := h'.tail
      clear h'
      generalize ps ++ [x] = qs at hps hv ⊢
      clear hv
      induction xs generalizing qs with
      | nil => simp
      | cons y ys ih =>
        have hy := hh.head
        have hqs : Sy k (qs ++ [y]) := fun z hz => by
          rcases List.mem_append.1 hz with e | e
          · exact hps z e
          · simp at e; omega
        have h1 := ih hh.tail (qs ++ [y]) hqs
        have h2 := val_snoc k qs y
        have h3 : 0 ≤ val k qs := valr_nonneg hk hps.rev
        have h4 : val k qs ≤ val k qs * k := by
          have := Int.mul_le_mul_of_nonneg_left hk h3
          omega
        have e2 : qs ++ y :: ys = (qs ++ [y]) ++ ys := by simp
        rw [e2]
        omega
    have hiff : (4611686018427387904 - x - 1) / k < val k ps ↔ ¬ val k (ps ++ [x]) ≤ 4611686018427387904 := by
      rw [hv]
      have := Int.le_ediv_iff_mul_le (a := val k ps) (b := 4611686018427387904 - x - 1) (c := k) (by omega)
      constructor
      · intro h1 h2
        have := this.2 (by omega)
        omega
      · intro h1
        rcases Int.lt_or_le ((4611686018427387904 - x - 1) / k) (val k ps) with h2 | h2
        · exact h2
        · have := this.1 h2
          omega
    rw [rankGo]
    by_cases hc : (4611686018427387904 - x - 1) / k < val k ps
    · have := hiff.1 hc
      rw [if_pos hc, if_neg (by omega), if_pos (.inr (by simp))]
    · have hle : val k (ps ++ [x]) ≤ 4611686018427387904 := by
        rcases Int.lt_or_le 4611686018427387904 (val k (ps ++ [x])) with h2 | h2
        · exact absurd (hiff.2 (by omega)) hc
        · exact h2
      rw [if_neg hc, ← hv, ih _ hps h'.tail, ← e1]
      by_cases hf : val k (ps ++ x :: xs) ≤ 4611686018427387904
      · rw [if_pos hf, if_pos hf]
      · rw [if_neg hf, if_neg hf, if_pos (.inl hle), if_pos (.inr (by simp))]

theorem rank_val {k : Int} (hk : 1 ≤ k) {xs : List Int} (h : Sy k xs) : rankGo k xs 0 = if val k xs ≤ 4611686018427387904 then some (val k xs) else none := by
  have := rankGo_val hk [] xs (fun x hx => by cases hx) h
  have e : val k [] = 0 := rfl
  rw [e, List.nil_append] at this
  rw [this]
  split
  · rfl
  · rw [if_pos (.inl (by omega))]

/-- Unrank of the number of a word is the word. -/
theorem back_val {k : Int} (hk : 1 ≤ k) {r : List Int} (h : Sy k r) (f : Nat) (hf : r.length < f) : back k f (valr k r) = r := by
  induction r generalizing f with
  | nil => exact back_zero k f
  | cons x r ih =>
    obtain ⟨f, rfl⟩ : ∃ g, f = g + 1 := ⟨f - 1, by simp at hf; omega⟩
    have hx := h.head
    have hn := valr_nonneg hk h.tail
    have hmul := Int.mul_nonneg hn (show 0 ≤ k by omega)
    have e : valr k (x :: r) - 1 = x + k * valr k r := by rw [valr, Int.mul_comm]; omega
    rw [back_pos (by rw [valr]; omega), e, Int.add_mul_emod_self_left, Int.add_mul_ediv_left _ _ (by omega), Int.emod_eq_of_lt hx.1 hx.2, Int.ediv_eq_zero_of_lt hx.1 hx.2, Int.zero_add,
      ih h.tail f (by simpa using hf)]

/-- What Unrank returns has the number. -/
theorem val_back {k : Int} (hk : 1 ≤ k) (f : Nat) (m : Int) (hm : 0 ≤ m) (hf : (back k f m).length < f) : valr k (back k f m) = m ∧ Sy k (back k f m) := by
  induction f generalizing m with
  | zero => omega
  | succ f ih =>
    by_cases h0 : 0 < m
    · rw [back_pos h0] at hf ⊢
      have hq := quo_bd h0 hk
      obtain ⟨h1, h2⟩ := ih ((m - 1) / k) hq.1 (by simpa using hf)
      refine ⟨?_, ?_⟩
      · rw [valr, h1]
        have := Int.mul_ediv_add_emod (m - 1) k
        have e : (m - 1) / k * k = k * ((m - 1) / k) := Int.mul_comm _ _
        omega
      · intro y hy
        rcases List.mem_cons.1 hy with e | e
        · subst e; exact ⟨Int.emod_nonneg _ (by omega), Int.emod_lt_of_pos _ (by omega)⟩
        · exact h2 y e
    · obtain rfl : m = 0 := by omega
      rw [back_zero]
      exact ⟨rfl, fun y hy => by cases hy⟩

/-- The number of the first word of the length n. -/
def lo (k : Int) : Nat → Int
  | 0 => 0
  | n + 1 => lo k n * k + 1

theorem lo_pow (k : Int) (n : Nat) : lo k (n + 1) = lo k n + k ^ n := by
  induction n with
  | zero => simp [lo]
  | succ n ih =>
    have h1 : lo k (n + 1 + 1) = lo k (n + 1) * k + 1 := rfl
    have h2 : lo k (n + 1) = lo k n * k + 1 := rfl
    rw [h1, ih, Int.add_mul, Int.pow_succ]
    rw [h2] at ih
    omega

theorem pow_pos' {k : Int} (hk : 1 ≤ k) (n : Nat) : 1 ≤ k ^ n := by
  induction n with
  | zero => simp
  | succ n ih =>
    rw [Int.pow_succ]
    have := Int.mul_le_mul_of_nonneg_left hk (show 0 ≤ k ^ n by omega)
    omega

theorem lo_mono {k : Int} (hk : 1 ≤ k) {n m : Nat} (h : n ≤ m) : lo k n ≤ lo k m := by
  induction m with
  | zero => obtain rfl : n = 0 := by omega
            exact Int.le_refl _
  | succ m ih =>
    by_cases e : n = m + 1
    · rw [e]; exact Int.le_refl _
    · have := ih (by omega)
      have := lo_pow k m
      have := pow_pos' hk m
      omega

theorem valr_snoc (k : Int) (r : List Int) (x : Int) : valr k (r ++ [x]) = (x + 1) * k ^ r.length + valr k r := by
  induction r with
  | nil => simp [valr]
  | cons y r ih =>
    rw [List.cons_append, valr, ih, valr, List.length_cons, Int.pow_succ, Int.add_mul, Int.mul_assoc]
    omega

theorem val_cons (k : Int) (x : Int) (xs : List Int) : val k (x :: xs) = (x + 1) * k ^ xs.length + val k xs := by
  unfold val; rw [List.reverse_cons, valr_snoc, List.length_reverse]

theorem val_bd {k : Int} (hk : 1 ≤ k) {xs : List Int} (h : Sy k xs) : lo k xs.length ≤ val k xs ∧ val k xs < lo k (xs.length + 1) := by
  induction xs with
  | nil => simp [val, valr, lo]
  | cons x xs ih =>
    have h1 := ih h.tail
    have hx := h.head
    have hp := pow_pos' hk xs.length
    have e1 := lo_pow k xs.length
    have e2 := lo_pow k (xs.length + 1)
    rw [val_cons, List.length_cons]
    have m1 : 1 * k ^ xs.length ≤ (x + 1) * k ^ xs.length := Int.mul_le_mul_of_nonneg_right (by omega) (by omega)
    have m2 : (x + 1) * k ^ xs.length ≤ k * k ^ xs.length := Int.mul_le_mul_of_nonneg_right (by omega) (by omega)
    have m3 : k * k ^ xs.length = k ^ (xs.length + 1) := by rw [Int.pow_succ, Int.mul_comm]
    omega

theorem cmpI_lt {a b : Int} (h : a < b) : cmpI a b = -1 := by unfold cmpI; rw [if_pos h]
theorem cmpI_gt {a b : Int} (h : b < a) : cmpI a b = 1 := by unfold cmpI; rw [if_neg (by omega), if_pos h]

theorem lexR_val {k : Int} (hk : 1 ≤ k) {xs ys : List Int} (hl : xs.length = ys.length) (hx : Sy k xs) (hy : Sy k ys) : lexR xs ys = cmpI (val k xs) (val k ys) := by
  induction xs generalizing ys with
  | nil =>
    cases ys with
    | nil => simp [lexR, cmpI]
    | cons y ys => simp at hl
  | cons x xs ih =>
    cases ys with
    | nil => simp at hl
    | cons y ys =>
      have hl' : xs.length = ys.length := by simpa using hl
      have h1 := val_bd hk hx.tail
      have h2 := val_bd hk hy.tail
      have hp := pow_pos' hk xs.length
      have e1 := lo_pow k xs.length
      rw [← hl'] at h2
      rw [lexR, val_cons, val_cons, ← hl']
      by_cases c1 : x < y
      · have m : (x + 1 + 1) * k ^ xs.length ≤ (y + 1) * k ^ xs.length := Int.mul_le_mul_of_nonneg_right (by omega) (by omega)
        have m' : (x + 1 + 1) * k ^ xs.length = (x + 1) * k ^ xs.length + k ^ xs.length := by rw [Int.add_mul (x + 1) 1]; omega
        rw [if_pos c1, cmpI_lt (by omega)]
      · by_cases c2 : y < x
        · have m : (y + 1 + 1) * k ^ xs.length ≤ (x + 1) * k ^ xs.length := Int.mul_le_mul_of_nonneg_right (by omega) (by omega)
          have m' : (y + 1 + 1) * k ^ xs.length = (y + 1) * k ^ xs.length + k ^ xs.length := by rw [Int.add_mul (y + 1) 1]; omega
          rw [if_neg c1, if_pos c2, cmpI_gt (by omega)]
        · obtain rfl : x = y := by omega
          rw [if_neg c1, if_neg c2, ih hl' hx.tail hy.tail]
          unfold cmpI
          by_cases d1 : val k xs < val k ys
          · rw [if_pos d1, if_pos (by omega)]
          · by_cases d2 : val k ys < val k xs
            · rw [if_neg d1, if_pos d2, if_neg (by omega), if_pos (by omega)]
            · rw [if_neg d1, if_neg d2, if_neg (by omega), if_neg (by omega)]

/-- The order of words is that of their numbers. -/
theorem shlex_val {k : Int} (hk : 1 ≤ k) {xs ys : List Int} (hx : Sy k xs) (hy : Sy k ys) : shlex xs ys = cmpI (val k xs) (val k ys) := by
  have h1 := val_bd hk hx
  have h2 := val_bd hk hy
  rw [shlex_def]
  by_cases c1 : xs.length < ys.length
  · have := lo_mono hk (show xs.length + 1 ≤ ys.length by omega)
    rw [if_pos c1, cmpI_lt (by omega)]
  · by_cases c2 : ys.length < xs.length
    · have := lo_mono hk (show ys.length + 1 ≤ xs.length by omega)
      rw [if_neg c1, if_pos c2, cmpI_gt (by omega)]
    · rw [if_neg c1, if_neg c2, lexR_val hk (by omega) hx hy]
end Go.Proofs.Yteaejkobahpgcaa
