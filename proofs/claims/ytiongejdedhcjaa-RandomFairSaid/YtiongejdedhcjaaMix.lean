/- Plain numbers: SplitMix64 draws below n, and the rejection ends. No program. -/
namespace Go.Proofs.Ytiongejdedhcjaa

/-- The next state, and the random number of a state. -/
def nx (s : Nat) : Nat := (s + 11400714819323198485) % 18446744073709551616
def mz (y : Nat) : Nat := ((y ^^^ (y / 1073741824)) * 13787848793156543929) % 18446744073709551616
def mu (z : Nat) : Nat := ((z ^^^ (z / 134217728)) * 10723151780598845931) % 18446744073709551616
def mx (s : Nat) : Nat := mu (mz (nx s)) ^^^ (mu (mz (nx s)) / 2147483648)

theorem nx_lt (s : Nat) : nx s < 18446744073709551616 := Nat.mod_lt _ (by decide)
theorem mz_lt (s : Nat) : mz s < 18446744073709551616 := Nat.mod_lt _ (by decide)
theorem mu_lt (s : Nat) : mu s < 18446744073709551616 := Nat.mod_lt _ (by decide)
theorem mx_lt (s : Nat) : mx s < 18446744073709551616 := by
  unfold mx
  have h := mu_lt (mz (nx s))
  generalize mu (mz (nx s)) = u at h
  exact Nat.xor_lt_two_pow (n := 64) h (by omega)

/-- Exclusive or with the upper part loses nothing. -/
theorem shx_inj (k : Nat) (hk : 27 ≤ k) (x y : BitVec 64) (h : x ^^^ (x >>> k) = y ^^^ (y >>> k)) : x = y := by
  have key : ∀ z : BitVec 64, (z ^^^ (z >>> k)) ^^^ ((z ^^^ (z >>> k)) >>> k) ^^^ ((z ^^^ (z >>> k)) >>> (k + k)) = z := by
    intro z
    ext i hi
    simp only [BitVec.getElem_xor, BitVec.getElem_ushiftRight, BitVec.getLsbD_xor, BitVec.getLsbD_ushiftRight]
    have e1 : z.getLsbD (k + k + (k + i)) = false ∨ True := Or.inr trivial
    have e2 : z.getLsbD (k + (k + k + i)) = false := BitVec.getLsbD_of_ge _ _ (by omega)
    rw [show k + (k + i) = k + k + i by omega, e2]
    rw [← BitVec.getLsbD_eq_getElem]
    cases z.getLsbD i <;> cases z.getLsbD (k + i) <;> cases z.getLsbD (k + k + i) <;> rfl
  rw [← key x, h, key y]

theorem nat_shx_inj (k : Nat) (hk : 27 ≤ k) (x y : Nat) (hx : x < 18446744073709551616) (hy : y < 18446744073709551616) (h : x ^^^ (x / 2 ^ k) = y ^^^ (y / 2 ^ k)) : x = y := by
  have h2 : BitVec.ofNat 64 x = BitVec.ofNat 64 y := by
    apply shx_inj k hk
    apply BitVec.eq_of_toNat_eq
    rw [BitVec.toNat_xor, BitVec.toNat_xor, BitVec.toNat_ushiftRight, BitVec.toNat_ushiftRight, BitVec.toNat_ofNat, BitVec.toNat_ofNat, Nat.mod_eq_of_lt hx, Nat.mod_eq_of_lt hy,
      Nat.shiftRight_eq_div_pow, Nat.shiftRight_eq_div_pow, h]
  have h3 := congrArg BitVec.toNat h2
  rwa [BitVec.toNat_ofNat, BitVec.toNat_ofNat, Nat.mod_eq_of_lt hx, Nat.mod_eq_of_lt hy] at h3

theorem mul_inj (c d : Nat) (hcd : c * d % 18446744073709551616 = 1) (x y : Nat) (hx : x < 18446744073709551616) (hy : y < 18446744073709551616)
    (h : x * c % 18446744073709551616 = y * c % 18446744073709551616) : x = y := by
  have f : ∀ z, z < 18446744073709551616 → (z * c % 18446744073709551616) * d % 18446744073709551616 = z := fun z hz => by
    rw [Nat.mod_mul_mod, Nat.mul_assoc, ← Nat.mul_mod_mod, hcd, Nat.mul_one, Nat.mod_eq_of_lt hz]
  rw [← f x hx, h, f y hy]

theorem mz_inj (x y : Nat) (hx : x < 18446744073709551616) (hy : y < 18446744073709551616) (h : mz x = mz y) : x = y :=
  nat_shx_inj 30 (by decide) x y hx hy (mul_inj _ 10871156337175269513 (by decide) _ _ (Nat.xor_lt_two_pow (n := 64) hx (by omega)) (Nat.xor_lt_two_pow (n := 64) hy (by omega)) h)
theorem mu_inj (x y : Nat) (hx : x < 18446744073709551616) (hy : y < 18446744073709551616) (h : mu x = mu y) : x = y :=
  nat_shx_inj 27 (by decide) x y hx hy (mul_inj _ 3573116690164977347 (by decide) _ _ (Nat.xor_lt_two_pow (n := 64) hx (by omega)) (Nat.xor_lt_two_pow (n := 64) hy (by omega)) h)
theorem nx_inj (x y : Nat) (hx : x < 18446744073709551616) (hy : y < 18446744073709551616) (h : nx x = nx y) : x = y := by
  unfold nx at h; omega
theorem mx_inj (x y : Nat) (hx : x < 18446744073709551616) (hy : y < 18446744073709551616) (h : mx x = mx y) : x = y :=
  nx_inj _ _ hx hy (mz_inj _ _ (nx_lt _) (nx_lt _) (mu_inj _ _ (mz_lt _) (mz_lt _) (nat_shx_inj 31 (by decide) _ _ (mu_lt _) (mu_lt _) h)))

/-- The state after i steps. -/
def nk (s i : Nat) : Nat := (s + i * 11400714819323198485) % 18446744073709551616
theorem nk_lt (s i : Nat) : nk s i < 18446744073709551616 := Nat.mod_lt _ (by decide)
theorem nk_zero {s : Nat} (h : s < 18446744073709551616) : nk s 0 = s := by unfold nk; rw [Nat.zero_mul, Nat.add_zero, Nat.mod_eq_of_lt h]
theorem nk_nx (s i : Nat) : nk (nx s) i = nk s (i + 1) := by
  unfold nk nx
  generalize 11400714819323198485 = c
  generalize 18446744073709551616 = m
  rw [Nat.mod_add_mod, Nat.add_mul, Nat.one_mul, Nat.add_assoc, Nat.add_comm c]
theorem nx_nk (s i : Nat) : nx (nk s i) = nk s (i + 1) := by
  unfold nk nx
  generalize 11400714819323198485 = c
  generalize 18446744073709551616 = m
  rw [Nat.mod_add_mod, Nat.add_mul, Nat.one_mul, Nat.add_assoc]
theorem nx_one (s : Nat) : nx s = nk s 1 := by
  unfold nk nx
  generalize 11400714819323198485 = c
  generalize 18446744073709551616 = m
  rw [Nat.one_mul]
theorem mod_canc (s a b : Nat) (h : (s + a) % 18446744073709551616 = (s + b) % 18446744073709551616) : a % 18446744073709551616 = b % 18446744073709551616 := by omega
theorem nk_inj (s i j : Nat) (hi : i < 18446744073709551616) (hj : j < 18446744073709551616) (h : nk s i = nk s j) : i = j :=
  mul_inj 11400714819323198485 17428512612931826493 (by decide) i j hi hj (mod_canc s _ _ h)

theorem pigeon : ∀ (r : Nat) (f : Nat → Nat), (∀ i j, i < r + 1 → j < r + 1 → f i = f j → i = j) → ∃ i, i < r + 1 ∧ r ≤ f i := by
  intro r
  induction r with
  | zero => intro f _; exact ⟨0, by omega, by omega⟩
  | succ r ih =>
    intro f hf
    by_cases hall : ∀ i, i < r + 2 → f i < r + 1
    · exfalso
      obtain ⟨i, hi, hri⟩ := ih (fun i => if f i = r then f (r + 1) else f i) (by
        intro i j hi hj h
        have h1 := hall i (by omega)
        have h2 := hall j (by omega)
        by_cases ei : f i = r
        · by_cases ej : f j = r
          · exact hf i j (by omega) (by omega) (by omega)
          · rw [if_pos ei, if_neg ej] at h
            have := hf (r + 1) j (by omega) (by omega) h
            omega
        · by_cases ej : f j = r
          · rw [if_neg ei, if_pos ej] at h
            have := hf i (r + 1) (by omega) (by omega) h
            omega
          · rw [if_neg ei, if_neg ej] at h
            exact hf i j (by omega) (by omega) h)
      by_cases ei : f i = r
      · simp only [if_pos ei] at hri
        have h1 := hall (r + 1) (by omega)
        have := hf i (r + 1) (by omega) (by omega) (by omega)
        omega
      · simp only [if_neg ei] at hri
        have h1 := hall i (by omega)
        omega
    · have : ∃ i, i < r + 2 ∧ ¬ f i < r + 1 := by
        by_cases h : ∃ i, i < r + 2 ∧ ¬ f i < r + 1
        · exact h
        · exact absurd (fun i hi => by
            by_cases h' : f i < r + 1
            · exact h'
            · exact absurd ⟨i, hi, h'⟩ h) hall
      obtain ⟨i, hi, h⟩ := this
      exact ⟨i, hi, by omega⟩

/-- Within r steps a number is accepted. -/
theorem found (r s : Nat) (hr : r < 18446744073709551615) : ∃ i, i < r + 1 ∧ mx (nk s i) ≤ 18446744073709551615 - r := by
  obtain ⟨i, hi, h⟩ := pigeon r (fun i => 18446744073709551615 - mx (nk s i)) (by
    intro i j hi hj h
    have h1 := mx_lt (nk s i)
    have h2 := mx_lt (nk s j)
    have h : 18446744073709551615 - mx (nk s i) = 18446744073709551615 - mx (nk s j) := h
    exact nk_inj s i j (by omega) (by omega) (mx_inj _ _ (nk_lt _ _) (nk_lt _ _) (by omega)))
  have h1 := mx_lt (nk s i)
  exact ⟨i, hi, by have h : r ≤ 18446744073709551615 - mx (nk s i) := h; omega⟩

/-- The first accepted number and the state after it. -/
def hit (lim : Nat) : Nat → Nat → Nat × Nat
  | 0, s => (mx s, nx s)
  | k + 1, s => if mx s ≤ lim then (mx s, nx s) else hit lim k (nx s)
/-- How many are rejected. -/
def cnt (lim : Nat) : Nat → Nat → Nat
  | 0, _ => 0
  | k + 1, s => if mx s ≤ lim then 0 else 1 + cnt lim k (nx s)

theorem hit_more (lim : Nat) : ∀ k s, s < 18446744073709551616 → (∃ i, i < k + 1 ∧ mx (nk s i) ≤ lim) → hit lim (k + 1) s = hit lim k s ∧ (hit lim k s).1 ≤ lim := by
  intro k
  induction k with
  | zero =>
    rintro s hs ⟨i, hi, h⟩
    obtain rfl : i = 0 := by omega
    rw [nk_zero hs] at h
    refine ⟨?_, h⟩
    show (if mx s ≤ lim then (mx s, nx s) else _) = _
    rw [if_pos h]; rfl
  | succ k ih =>
    rintro s hs ⟨i, hi, h⟩
    by_cases h0 : mx s ≤ lim
    · refine ⟨?_, ?_⟩
      · show (if mx s ≤ lim then (mx s, nx s) else _) = (if mx s ≤ lim then (mx s, nx s) else _)
        rw [if_pos h0, if_pos h0]
      · show (if mx s ≤ lim then (mx s, nx s) else _).1 ≤ lim
        rw [if_pos h0]; exact h0
    · cases i with
      | zero => rw [nk_zero hs] at h; exact absurd h h0
      | succ i =>
        rw [← nk_nx] at h
        obtain ⟨e, l⟩ := ih (nx s) (nx_lt s) ⟨i, by omega, h⟩
        refine ⟨?_, ?_⟩
        · show (if mx s ≤ lim then (mx s, nx s) else hit lim (k + 1) (nx s)) = (if mx s ≤ lim then (mx s, nx s) else hit lim k (nx s))
          rw [if_neg h0, if_neg h0, e]
        · show (if mx s ≤ lim then (mx s, nx s) else hit lim k (nx s)).1 ≤ lim
          rw [if_neg h0]; exact l

theorem cnt_more (lim : Nat) : ∀ k s, s < 18446744073709551616 → (∃ i, i < k + 1 ∧ mx (nk s i) ≤ lim) → cnt lim (k + 1) s = cnt lim k s := by
  intro k
  induction k with
  | zero =>
    rintro s hs ⟨i, hi, h⟩
    obtain rfl : i = 0 := by omega
    rw [nk_zero hs] at h
    show (if mx s ≤ lim then 0 else _) = 0
    rw [if_pos h]
  | succ k ih =>
    rintro s hs ⟨i, hi, h⟩
    by_cases h0 : mx s ≤ lim
    · show (if mx s ≤ lim then 0 else _) = (if mx s ≤ lim then 0 else _)
      rw [if_pos h0, if_pos h0]
    · cases i with
      | zero => rw [nk_zero hs] at h; exact absurd h h0
      | succ i =>
        rw [← nk_nx] at h
        have e := ih (nx s) (nx_lt s) ⟨i, by omega, h⟩
        show (if mx s ≤ lim then 0 else 1 + cnt lim (k + 1) (nx s)) = (if mx s ≤ lim then 0 else 1 + cnt lim k (nx s))
        rw [if_neg h0, if_neg h0, e]

/-- How many numbers are rejected below n, and the number drawn with its state. -/
def rst (n : Nat) : Nat := 18446744073709551616 % n
def lim (n : Nat) : Nat := 18446744073709551615 - rst n
def drx (s n : Nat) : Nat := (hit (lim n) (rst n) s).1 % n
def drs (s n : Nat) : Nat := (hit (lim n) (rst n) s).2
/-- What the loop goes down by. -/
def lft (n x s : Nat) : Nat := if x ≤ lim n then 0 else 1 + cnt (lim n) (rst n) s

def Drawable (n : Nat) : Prop := 1 ≤ n ∧ n ≤ 2147483648

theorem rst_lt {n : Nat} (h : Drawable n) : rst n < n := Nat.mod_lt _ h.1
theorem rst_found {n : Nat} (h : Drawable n) (s : Nat) : ∃ i, i < rst n + 1 ∧ mx (nk s i) ≤ lim n :=
  found (rst n) s (by have := rst_lt h; have := h.2; omega)

theorem hit_at {n s : Nat} (h : Drawable n) (hs : s < 18446744073709551616) (hx : mx s ≤ lim n) : hit (lim n) (rst n) s = (mx s, nx s) := by
  rw [← (hit_more (lim n) (rst n) s hs (rst_found h s)).1]
  show (if mx s ≤ lim n then (mx s, nx s) else _) = _
  rw [if_pos hx]
theorem hit_on {n s : Nat} (h : Drawable n) (hs : s < 18446744073709551616) (hx : ¬ mx s ≤ lim n) : hit (lim n) (rst n) s = hit (lim n) (rst n) (nx s) := by
  rw [← (hit_more (lim n) (rst n) s hs (rst_found h s)).1]
  show (if mx s ≤ lim n then (mx s, nx s) else _) = _
  rw [if_neg hx]
theorem lft_on {n x s : Nat} (h : Drawable n) (hs : s < 18446744073709551616) (hx : ¬ x ≤ lim n) : lft n (mx s) (nx s) < lft n x s := by
  have e := cnt_more (lim n) (rst n) s hs (rst_found h s)
  have e2 : lft n (mx s) (nx s) = cnt (lim n) (rst n + 1) s := rfl
  rw [e2, e]
  unfold lft
  rw [if_neg hx]; omega

theorem drx_lt {s n : Nat} (h : Drawable n) : drx s n < n := Nat.mod_lt _ h.1

theorem hit_nk (lim : Nat) : ∀ k s, ∃ j, j < k + 1 ∧ (hit lim k s).2 = nk s (j + 1) := by
  intro k
  induction k with
  | zero => intro s; exact ⟨0, by omega, nx_one s⟩
  | succ k ih =>
    intro s
    by_cases h0 : mx s ≤ lim
    · exact ⟨0, by omega, by show (if mx s ≤ lim then (mx s, nx s) else _).2 = _; rw [if_pos h0]; exact nx_one s⟩
    · obtain ⟨j, hj, e⟩ := ih (nx s)
      exact ⟨j + 1, by omega, by show (if mx s ≤ lim then (mx s, nx s) else hit lim k (nx s)).2 = _; rw [if_neg h0, e, nk_nx]⟩

theorem drs_lt {s n : Nat} : drs s n < 18446744073709551616 := by
  obtain ⟨j, _, e⟩ := hit_nk (lim n) (rst n) s
  unfold drs; rw [e]; exact nk_lt _ _
theorem drs_ne {s n : Nat} (h : Drawable n) (hs : s < 18446744073709551616) : drs s n ≠ s := by
  obtain ⟨j, hj, e⟩ := hit_nk (lim n) (rst n) s
  unfold drs; rw [e]
  intro he
  have h1 := rst_lt h
  have h2 := h.2
  have := nk_inj s (j + 1) 0 (by omega) (by omega) (by rw [he, nk_zero hs])
  omega
end Go.Proofs.Ytiongejdedhcjaa
