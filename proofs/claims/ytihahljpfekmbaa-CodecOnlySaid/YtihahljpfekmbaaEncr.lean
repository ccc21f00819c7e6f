/- What was encoded is decoded; only encodings are; nothing that is cut off. -/
import Derived.Test.YtihahljpfekmbaaTkp
import Derived.Test.YtihahljpfekmbaaEncq
namespace Go.Proofs.Ytihahljpfekmbaa

theorem scn_encF : ∀ (k u : Nat) (r : List Nat), k ≤ 9 → u < 2 * 128 ^ k → (k < 9 → 0 < u) → scn (9 - k) (encF k u ++ r) = (9 - k + (encF k u).length, 0)
  | 0, u, r, _, hu, h0 => by
    have := h0 (by omega)
    show scn 9 (u :: r) = (9 + 1, 0)
    rw [scn_ok (by omega) (by omega) (by omega)]
  | k + 1, u, r, hk, hu, h0 => by
    by_cases h : u < 128
    · rw [encF_small h]
      show scn (9 - (k + 1)) (u :: r) = (9 - (k + 1) + 1, 0)
      rw [scn_ok (by omega) (by omega) (by
        rintro (⟨h1, rfl⟩ | ⟨h1, _⟩)
        · exact absurd (h0 (by omega)) (by omega)
        · omega)]
    · rw [encF_next h, List.cons_append, scn_on (by omega) (by omega), show 9 - (k + 1) + 1 = 9 - k by omega, scn_encF k (u / 128) r (by omega) (by rw [Nat.pow_succ] at hu; omega) (by omega)]
      simp only [List.length_cons]
      rw [show 9 - k + (encF k (u / 128)).length = 9 - (k + 1) + ((encF k (u / 128)).length + 1) by omega]
theorem scn_cutF : ∀ (k u j : Nat), k ≤ 9 → j < (encF k u).length → scn (9 - k) ((encF k u).take j) = (0, 4)
  | k, u, 0, hk, _ => by
    rw [List.take_zero, scn_end]
    rw [if_pos (by omega)]
  | 0, u, j + 1, _, hj => by
    have : (encF 0 u).length = 1 := rfl
    omega
  | k + 1, u, j + 1, hk, hj => by
    by_cases h : u < 128
    · rw [encF_small h] at hj; simp at hj
    · rw [encF_next h] at hj ⊢
      rw [List.take_succ_cons, scn_on (by omega) (by omega), show 9 - (k + 1) + 1 = 9 - k by omega, scn_cutF k (u / 128) j (by omega) (by simpa using hj)]
theorem val_encF : ∀ (k u : Nat), u < 128 ^ (k + 1) → val (encF k u) = u
  | 0, u, h => by show u % 128 + 128 * 0 = u; omega
  | k + 1, u, h => by
    by_cases h1 : u < 128
    · rw [encF_small h1]; show u % 128 + 128 * 0 = u; omega
    · rw [encF_next h1]
      show (u % 128 + 128) % 128 + 128 * val (encF k (u / 128)) = u
      rw [val_encF k (u / 128) (by rw [Nat.pow_succ] at h; omega)]
      omega
theorem encF_val : ∀ (bs : List Nat) (p : Nat), p ≤ 9 → (∀ b, b ∈ bs → b < 256) → (scn p bs).2 = 0 →
    encF (9 - p) (val (bs.take ((scn p bs).1 - p))) = bs.take ((scn p bs).1 - p) ∧ (0 < p → 0 < val (bs.take ((scn p bs).1 - p)))
  | [], p, hp, _, h => by
    rw [scn_end] at h
    have h : (if p < 10 then (4 : Int) else 5) = 0 := h
    rw [if_pos (by omega)] at h; omega
  | b :: bs, p, hp, hb, h => by
    have h0 : ¬ p = 10 := by omega
    have hb0 := hb b (by simp)
    by_cases h1 : 128 ≤ b
    · rw [scn_on h0 h1] at h ⊢
      by_cases h9 : p = 9
      · subst h9; rw [scn_ten] at h; exact absurd h (by simp)
      · have ih := encF_val bs (p + 1) (by omega) (fun x hx => hb x (List.mem_cons_of_mem _ hx)) h
        have hs := scn_size bs (p + 1) (by omega) h
        rw [show (scn (p + 1) bs).1 - p = ((scn (p + 1) bs).1 - (p + 1)) + 1 by omega, List.take_succ_cons]
        generalize bs.take ((scn (p + 1) bs).1 - (p + 1)) = T at ih ⊢
        have ih2 := ih.2 (by omega)
        have hv : val (b :: T) = b % 128 + 128 * val T := rfl
        rw [hv]
        refine ⟨?_, fun _ => by omega⟩
        rw [show 9 - p = (9 - (p + 1)) + 1 by omega, encF_next (by omega), show (b % 128 + 128 * val T) / 128 = val T by omega, ih.1]
        congr 1
        omega
    · by_cases h2 : (0 < p ∧ b = 0) ∨ (p = 9 ∧ 1 < b)
      · rw [scn_bad h0 h1 h2] at h; exact absurd h (by simp)
      · rw [scn_ok h0 h1 h2, show p + 1 - p = 1 by omega]
        rw [show (b :: bs).take 1 = [b] by simp]
        have hv : val [b] = b := by show b % 128 + 128 * 0 = b; omega
        rw [hv]
        refine ⟨encF_small (by omega), fun hp => ?_⟩
        rcases Nat.eq_zero_or_pos b with e | e
        · exact absurd (.inl ⟨hp, e⟩) h2
        · exact e

theorem zig_b {n : Int} (h : R64 n) : zig n < 2 * 128 ^ 9 := Nat.lt_of_lt_of_le (zig_lt h.1 h.2) (by decide)
/-- One number behind pre. -/
theorem at_enc {pre r : List Nat} {n : Int} (h : R64 n) : erA (pre ++ enc (zig n) ++ r) pre.length = 0 ∧ szA (pre ++ enc (zig n) ++ r) pre.length = (enc (zig n)).length ∧ nuA (pre ++ enc (zig n) ++ r) pre.length = n := by
  have hs := scn_encF 9 (zig n) r (Nat.le_refl _) (zig_b h) (by omega)
  have hd : (pre ++ enc (zig n) ++ r).drop pre.length = enc (zig n) ++ r := by rw [List.append_assoc, List.drop_left]
  have hs : scn 0 (enc (zig n) ++ r) = ((enc (zig n)).length, 0) := by rw [show (0 : Nat) = 9 - 9 by rfl]; exact hs.trans (by unfold enc; simp)
  have h1 : erA (pre ++ enc (zig n) ++ r) pre.length = 0 := by unfold erA; rw [hd, hs]
  have h2 : szA (pre ++ enc (zig n) ++ r) pre.length = (enc (zig n)).length := by unfold szA; rw [hd, hs]
  refine ⟨h1, h2, ?_⟩
  unfold nuA
  rw [h2, hd, List.take_left]
  unfold enc
  rw [val_encF 9 _ (Nat.lt_of_lt_of_le (zig_b h) (by decide)), zag_zig]
theorem at_cut {pre : List Nat} {n : Int} {j : Nat} (hj : j < (enc (zig n)).length) : erA (pre ++ (enc (zig n)).take j) pre.length = 4 := by
  unfold erA
  rw [List.drop_left]
  have := scn_cutF 9 (zig n) j (Nat.le_refl _) hj
  rw [show (0 : Nat) = 9 - 9 by rfl]
  unfold enc
  rw [this]

theorem numsR_enc : ∀ (l : List Int) (pre r : List Nat) (acc : List Int), RL l → numsR (pre ++ encs l ++ r) l.length pre.length acc = (acc ++ l, pre.length + (encs l).length, 0)
  | [], pre, r, acc, _ => by simp [numsR, encs]
  | x :: l, pre, r, acc, h => by
    have e : pre ++ encs (x :: l) ++ r = pre ++ enc (zig x) ++ (encs l ++ r) := by
      show pre ++ (enc (zig x) ++ encs l) ++ r = _
      simp only [List.append_assoc]
    obtain ⟨h1, h2, h3⟩ := at_enc (pre := pre) (r := encs l ++ r) (h x (by simp))
    rw [e, List.length_cons, numsR_ok h1, h2, h3]
    have ih := numsR_enc l (pre ++ enc (zig x)) r (acc ++ [x]) (fun z hz => h z (List.mem_cons_of_mem _ hz))
    rw [List.length_append] at ih
    rw [← List.append_assoc (pre ++ enc (zig x)), ih]
    show _ = (acc ++ (x :: l), pre.length + (enc (zig x) ++ encs l).length, 0)
    rw [List.length_append, List.append_assoc, Nat.add_assoc]; rfl
theorem numsR_cut : ∀ (l : List Int) (pre : List Nat) (j : Nat) (acc : List Int), RL l → j < (encs l).length → numsR (pre ++ (encs l).take j) l.length pre.length acc = ([], 0, 4)
  | [], pre, j, acc, _, hj => by simp [encs] at hj
  | x :: l, pre, j, acc, h, hj => by
    have hj : j < (enc (zig x) ++ encs l).length := hj
    show numsR (pre ++ (enc (zig x) ++ encs l).take j) (l.length + 1) pre.length acc = _
    by_cases hlt : j < (enc (zig x)).length
    · rw [List.take_append_of_le_length (by omega)]
      have h1 := at_cut (pre := pre) hlt
      rw [numsR_bad (by rw [h1]; simp), h1]
    · rw [List.take_append, List.take_of_length_le (by omega), ← List.append_assoc]
      obtain ⟨h1, h2, h3⟩ := at_enc (pre := pre) (r := (encs l).take (j - (enc (zig x)).length)) (h x (by simp))
      rw [numsR_ok h1, h2, h3]
      have ih := numsR_cut l (pre ++ enc (zig x)) (j - (enc (zig x)).length) (acc ++ [x]) (fun z hz => h z (List.mem_cons_of_mem _ hz)) (by rw [List.length_append] at hj; omega)
      rw [List.length_append] at ih
      exact ih
theorem lisA_enc {l : List Int} {pre r : List Nat} (h : RL l) (hl : l.length ≤ 9223372036854775807) : lisA (pre ++ encI l ++ r) pre.length = (l, pre.length + (encI l).length, 0) := by
  have e : pre ++ encI l ++ r = pre ++ enc (zig l.length) ++ (encs l ++ r) := by unfold encI; simp only [List.append_assoc]
  obtain ⟨h1, h2, h3⟩ := at_enc (pre := pre) (r := encs l ++ r) (r64_nat hl)
  rw [e, lisA_ok h1 h3, h2]
  have := numsR_enc l (pre ++ enc (zig l.length)) r [] h
  rw [List.length_append] at this
  rw [← List.append_assoc (pre ++ enc (zig l.length)), this]
  unfold encI
  rw [List.length_append, Nat.add_assoc]; rfl
theorem lisA_cut {l : List Int} {pre : List Nat} {j : Nat} (h : RL l) (hl : l.length ≤ 9223372036854775807) (hj : j < (encI l).length) : lisA (pre ++ (encI l).take j) pre.length = ([], 0, 4) := by
  unfold encI at hj ⊢
  by_cases hlt : j < (enc (zig l.length)).length
  · rw [List.take_append_of_le_length (by omega)]
    have h1 := at_cut (pre := pre) hlt
    rw [lisA_err (by rw [h1]; simp), h1]
  · rw [List.take_append, List.take_of_length_le (by omega), ← List.append_assoc]
    obtain ⟨h1, h2, h3⟩ := at_enc (pre := pre) (r := (encs l).take (j - (enc (zig l.length)).length)) (r64_nat hl)
    rw [lisA_ok h1 h3, h2]
    have := numsR_cut l (pre ++ enc (zig l.length)) (j - (enc (zig l.length)).length) [] h (by rw [List.length_append] at hj; omega)
    rw [List.length_append] at this
    exact this
theorem wrdsR_enc : ∀ (l : List (List Int)) (pre r : List Nat) (acc : List (List Int)), (∀ x, x ∈ l → RL x ∧ x.length ≤ 9223372036854775807) → wrdsR (pre ++ encw l ++ r) l.length pre.length acc = (acc ++ l, pre.length + (encw l).length, 0)
  | [], pre, r, acc, _ => by simp [wrdsR, encw]
  | x :: l, pre, r, acc, h => by
    have e : pre ++ encw (x :: l) ++ r = pre ++ encI x ++ (encw l ++ r) := by
      show pre ++ (encI x ++ encw l) ++ r = _
      simp only [List.append_assoc]
    have h1 := lisA_enc (pre := pre) (r := encw l ++ r) (h x (by simp)).1 (h x (by simp)).2
    rw [e, List.length_cons, wrdsR_ok (by rw [h1]), h1]
    have ih := wrdsR_enc l (pre ++ encI x) r (acc ++ [x]) (fun z hz => h z (List.mem_cons_of_mem _ hz))
    rw [List.length_append] at ih
    rw [← List.append_assoc (pre ++ encI x), ih]
    show _ = (acc ++ (x :: l), pre.length + (encI x ++ encw l).length, 0)
    rw [List.length_append, List.append_assoc, Nat.add_assoc]; rfl
theorem wrdsR_cut : ∀ (l : List (List Int)) (pre : List Nat) (j : Nat) (acc : List (List Int)), (∀ x, x ∈ l → RL x ∧ x.length ≤ 9223372036854775807) → j < (encw l).length → wrdsR (pre ++ (encw l).take j) l.length pre.length acc = ([], 0, 4)
  | [], pre, j, acc, _, hj => by simp [encw] at hj
  | x :: l, pre, j, acc, h, hj => by
    have hj : j < (encI x ++ encw l).length := hj
    show wrdsR (pre ++ (encI x ++ encw l).take j) (l.length + 1) pre.length acc = _
    by_cases hlt : j < (encI x).length
    · rw [List.take_append_of_le_length (by omega)]
      have h1 := lisA_cut (pre := pre) (h x (by simp)).1 (h x (by simp)).2 hlt
      rw [wrdsR_bad (by rw [h1]; simp), h1]
    · rw [List.take_append, List.take_of_length_le (by omega), ← List.append_assoc]
      have h1 := lisA_enc (pre := pre) (r := (encw l).take (j - (encI x).length)) (h x (by simp)).1 (h x (by simp)).2
      rw [wrdsR_ok (by rw [h1]), h1]
      have ih := wrdsR_cut l (pre ++ encI x) (j - (encI x).length) (acc ++ [x]) (fun z hz => h z (List.mem_cons_of_mem _ hz)) (by rw [List.length_append] at hj; omega)
      rw [List.length_append] at ih
      exact ih
theorem worA_enc {l : List (List Int)} {pre r : List Nat} (h : ∀ x, x ∈ l → RL x ∧ x.length ≤ 9223372036854775807) (hl : l.length ≤ 9223372036854775807) : worA (pre ++ encW l ++ r) pre.length = (l, pre.length + (encW l).length, 0) := by
  have e : pre ++ encW l ++ r = pre ++ enc (zig l.length) ++ (encw l ++ r) := by unfold encW; simp only [List.append_assoc]
  obtain ⟨h1, h2, h3⟩ := at_enc (pre := pre) (r := encw l ++ r) (r64_nat hl)
  rw [e, worA_ok h1 h3, h2]
  have := wrdsR_enc l (pre ++ enc (zig l.length)) r [] h
  rw [List.length_append] at this
  rw [← List.append_assoc (pre ++ enc (zig l.length)), this]
  unfold encW
  rw [List.length_append, Nat.add_assoc]; rfl
theorem worA_cut {l : List (List Int)} {pre : List Nat} {j : Nat} (h : ∀ x, x ∈ l → RL x ∧ x.length ≤ 9223372036854775807) (hl : l.length ≤ 9223372036854775807) (hj : j < (encW l).length) : worA (pre ++ (encW l).take j) pre.length = ([], 0, 4) := by
  unfold encW at hj ⊢
  by_cases hlt : j < (enc (zig l.length)).length
  · rw [List.take_append_of_le_length (by omega)]
    have h1 := at_cut (pre := pre) hlt
    rw [worA_err (by rw [h1]; simp), h1]
  · rw [List.take_append, List.take_of_length_le (by omega), ← List.append_assoc]
    obtain ⟨h1, h2, h3⟩ := at_enc (pre := pre) (r := (encw l).take (j - (enc (zig l.length)).length)) (r64_nat hl)
    rw [worA_ok h1 h3, h2]
    have := wrdsR_cut l (pre ++ enc (zig l.length)) (j - (enc (zig l.length)).length) [] h (by rw [List.length_append] at hj; omega)
    rw [List.length_append] at this
    exact this

/-- Only encodings are decoded. -/
theorem enc_at {bs : List Nat} {u : Nat} (hb : ∀ b, b ∈ bs → b < 256) (h : erA bs u = 0) : enc (zig (nuA bs u)) = (bs.drop u).take (szA bs u) := by
  have := (encF_val (bs.drop u) 0 (by omega) (fun b hm => hb b (List.mem_of_mem_drop hm)) h).1
  unfold nuA
  rw [zig_zag]
  exact this
theorem nuA_r64 {bs : List Nat} {u : Nat} (hb : val ((bs.drop u).take (szA bs u)) < 18446744073709551616) : R64 (nuA bs u) := by
  unfold R64 nuA zag
  split <;> omega
theorem take_two {α : Type} (l : List α) {u a b : Nat} (h1 : u ≤ a) (h2 : a ≤ b) : (l.drop u).take (a - u) ++ (l.drop a).take (b - a) = (l.drop u).take (b - u) := by
  rw [show b - u = (a - u) + (b - a) by omega, List.take_add, List.drop_drop, show u + (a - u) = a by omega]
theorem encs_at {bs : List Nat} (hb : ∀ b, b ∈ bs → b < 256) (hv : ∀ u, erA bs u = 0 → R64 (nuA bs u)) : ∀ (k u : Nat) (acc : List Int), u ≤ bs.length → (numsR bs k u acc).2.2 = 0 →
    u ≤ (numsR bs k u acc).2.1 ∧ (numsR bs k u acc).2.1 ≤ bs.length ∧ ∃ l, (numsR bs k u acc).1 = acc ++ l ∧ l.length = k ∧ RL l ∧ encs l = (bs.drop u).take ((numsR bs k u acc).2.1 - u)
  | 0, u, acc, hu, _ => ⟨Nat.le_refl _, hu, [], by simp [numsR], rfl, fun z hz => absurd hz (by simp), by
    show [] = (bs.drop u).take (u - u)
    rw [Nat.sub_self, List.take_zero]⟩
  | k + 1, u, acc, hu, h => by
    by_cases he : erA bs u = 0
    · rw [numsR_ok he] at h ⊢
      have hs := szA_bd hu he
      obtain ⟨h1, h2, l, h3, h4, h5, h6⟩ := encs_at hb hv k (u + szA bs u) (acc ++ [nuA bs u]) hs.2 h
      refine ⟨by omega, h2, nuA bs u :: l, by rw [h3]; simp, by simp [h4], ?_, ?_⟩
      · intro z hz
        rcases List.mem_cons.1 hz with e | hz
        · subst e; exact hv u he
        · exact h5 z hz
      · show enc (zig (nuA bs u)) ++ encs l = _
        rw [enc_at hb he, h6]
        have := take_two bs (u := u) (a := u + szA bs u) (by omega) h1
        rw [show u + szA bs u - u = szA bs u by omega] at this
        exact this
    · rw [numsR_bad he] at h; exact absurd h he
theorem encI_at {bs : List Nat} (hb : ∀ b, b ∈ bs → b < 256) (hv : ∀ u, erA bs u = 0 → R64 (nuA bs u)) {u : Nat} (hu : u ≤ bs.length) (h : (lisA bs u).2.2 = 0) :
    u < (lisA bs u).2.1 ∧ (lisA bs u).2.1 ≤ bs.length ∧ RL (lisA bs u).1 ∧ encI (lisA bs u).1 = (bs.drop u).take ((lisA bs u).2.1 - u) := by
  by_cases he : erA bs u = 0
  · by_cases hn : nuA bs u < 0
    · rw [lisA_neg he hn] at h; exact absurd h (by simp)
    · obtain ⟨k, hk⟩ : ∃ k : Nat, nuA bs u = k := ⟨(nuA bs u).toNat, by omega⟩
      rw [lisA_ok he hk] at h ⊢
      have hs := szA_bd hu he
      obtain ⟨h1, h2, l, h3, h4, h5, h6⟩ := encs_at hb hv k (u + szA bs u) [] hs.2 h
      rw [List.nil_append] at h3
      rw [h3]
      refine ⟨by omega, h2, h5, ?_⟩
      unfold encI
      rw [h4, h6, ← hk, enc_at hb he]
      have := take_two bs (u := u) (a := u + szA bs u) (by omega) h1
      rw [show u + szA bs u - u = szA bs u by omega] at this
      exact this
  · rw [lisA_err he] at h; exact absurd h he
theorem encw_at {bs : List Nat} (hb : ∀ b, b ∈ bs → b < 256) (hv : ∀ u, erA bs u = 0 → R64 (nuA bs u)) : ∀ (k u : Nat) (acc : List (List Int)), u ≤ bs.length → (wrdsR bs k u acc).2.2 = 0 →
    u ≤ (wrdsR bs k u acc).2.1 ∧ (wrdsR bs k u acc).2.1 ≤ bs.length ∧ ∃ l, (wrdsR bs k u acc).1 = acc ++ l ∧ l.length = k ∧ (∀ x, x ∈ l → RL x) ∧ encw l = (bs.drop u).take ((wrdsR bs k u acc).2.1 - u)
  | 0, u, acc, hu, _ => ⟨Nat.le_refl _, hu, [], by simp [wrdsR], rfl, fun z hz => absurd hz (by simp), by
    show [] = (bs.drop u).take (u - u)
    rw [Nat.sub_self, List.take_zero]⟩
  | k + 1, u, acc, hu, h => by
    by_cases he : (lisA bs u).2.2 = 0
    · rw [wrdsR_ok he] at h ⊢
      obtain ⟨g1, g2, g3, g4⟩ := encI_at hb hv hu he
      obtain ⟨h1, h2, l, h3, h4, h5, h6⟩ := encw_at hb hv k (lisA bs u).2.1 (acc ++ [(lisA bs u).1]) g2 h
      refine ⟨by omega, h2, (lisA bs u).1 :: l, by rw [h3]; simp, by simp [h4], ?_, ?_⟩
      · intro z hz
        rcases List.mem_cons.1 hz with e | hz
        · subst e; exact g3
        · exact h5 z hz
      · show encI (lisA bs u).1 ++ encw l = _
        rw [g4, h6]
        exact take_two bs (by omega) h1
    · rw [wrdsR_bad he] at h; exact absurd h he
theorem encW_at {bs : List Nat} (hb : ∀ b, b ∈ bs → b < 256) (hv : ∀ u, erA bs u = 0 → R64 (nuA bs u)) {u : Nat} (hu : u ≤ bs.length) (h : (worA bs u).2.2 = 0) :
    u < (worA bs u).2.1 ∧ (worA bs u).2.1 ≤ bs.length ∧ (∀ x, x ∈ (worA bs u).1 → RL x) ∧ encW (worA bs u).1 = (bs.drop u).take ((worA bs u).2.1 - u) := by
  by_cases he : erA bs u = 0
  · by_cases hn : nuA bs u < 0
    · rw [worA_neg he hn] at h; exact absurd h (by simp)
    · obtain ⟨k, hk⟩ : ∃ k : Nat, nuA bs u = k := ⟨(nuA bs u).toNat, by omega⟩
      rw [worA_ok he hk] at h ⊢
      have hs := szA_bd hu he
      obtain ⟨h1, h2, l, h3, h4, h5, h6⟩ := encw_at hb hv k (u + szA bs u) [] hs.2 h
      rw [List.nil_append] at h3
      rw [h3]
      refine ⟨by omega, h2, h5, ?_⟩
      unfold encW
      rw [h4, h6, ← hk, enc_at hb he]
      have := take_two bs (u := u) (a := u + szA bs u) (by omega) h1
      rw [show u + szA bs u - u = szA bs u by omega] at this
      exact this
  · rw [worA_err he] at h; exact absurd h he
end Go.Proofs.Ytihahljpfekmbaa
