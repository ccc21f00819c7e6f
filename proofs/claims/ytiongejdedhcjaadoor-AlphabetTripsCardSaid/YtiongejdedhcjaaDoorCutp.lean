/- Plain: parts between spaces; steps of a range over a string. No program. -/
import Derived.Test.YtiongejdedhcjaaDoorTextp
namespace Go.Proofs.YtiongejdedhcjaaDoor

/-- What the spaces of a text separate. -/
def cutL : List UInt8 → List (List UInt8)
  | [] => [[]]
  | c :: l => if c = 32 then [] :: cutL l else match cutL l with
    | p :: ps => (c :: p) :: ps
    | [] => [[c]]
theorem cutL_ne (l : List UInt8) : cutL l ≠ [] := by
  cases l with
  | nil => simp [cutL]
  | cons c l =>
    rw [cutL]
    split
    · simp
    · split <;> simp
theorem cutL_end (l : List UInt8) (h : ∀ c, c ∈ l → c ≠ 32) : cutL l = [l] := by
  induction l with
  | nil => rfl
  | cons c l ih =>
    rw [cutL, if_neg (h c (by simp)), ih (fun d hd => h d (by simp [hd]))]
theorem cutL_here (a b : List UInt8) (h : ∀ c, c ∈ a → c ≠ 32) : cutL (a ++ 32 :: b) = a :: cutL b := by
  induction a with
  | nil => simp [cutL]
  | cons c a ih =>
    rw [List.cons_append, cutL, if_neg (h c (by simp)), ih (fun d hd => h d (by simp [hd]))]
theorem jn_cutL (l : List UInt8) : jn (cutL l) = l := by
  induction l with
  | nil => rfl
  | cons c l ih =>
    rw [cutL]
    have hne := cutL_ne l
    cases h : cutL l with
    | nil => exact absurd h hne
    | cons p ps =>
      rw [h] at ih
      split
      · rename_i hc
        subst hc
        show [] ++ 32 :: jn (p :: ps) = _
        rw [ih]; rfl
      · show jn ((c :: p) :: ps) = _
        rw [← ih]
        cases ps with
        | nil => rfl
        | cons q qs => rfl
theorem cutL_jn (ns : List (List UInt8)) (hne : ns ≠ []) (h : ∀ x, x ∈ ns → ∀ c, c ∈ x → c ≠ 32) : cutL (jn ns) = ns := by
  induction ns with
  | nil => exact absurd rfl hne
  | cons x r ih =>
    cases r with
    | nil => exact cutL_end x (h x (by simp))
    | cons y r =>
      show cutL (x ++ 32 :: jn (y :: r)) = _
      rw [cutL_here _ _ (h x (by simp)), ih (by simp) (fun z hz => h z (by simp [hz]))]
theorem cutL_len (l : List UInt8) : ∀ p, p ∈ cutL l → p.length ≤ l.length := by
  induction l with
  | nil => intro p hp; simp [cutL] at hp; subst hp; simp
  | cons c l ih =>
    intro p hp
    rw [cutL] at hp
    split at hp
    · rcases List.mem_cons.1 hp with rfl | hp
      · simp
      · have := ih p hp; simp; omega
    · cases h : cutL l with
      | nil => exact absurd h (cutL_ne l)
      | cons q qs =>
        rw [h] at hp ih
        rcases List.mem_cons.1 hp with rfl | hp
        · have := ih q (by simp); simp; omega
        · have := ih p (by simp [hp]); simp; omega
theorem cutL_count (l : List UInt8) : (cutL l).length ≤ l.length + 1 := by
  induction l with
  | nil => simp [cutL]
  | cons c l ih =>
    rw [cutL]
    split
    · simp; omega
    · cases h : cutL l with
      | nil => simp
      | cons q qs => rw [h] at ih; simp at ih ⊢; omega

/-- The parts of a text, and whether the spaces are right. -/
def pv (l : List UInt8) : List (List UInt8) × Bool := if l = [] then ([], true) else if [] ∈ cutL l then ([], false) else (cutL l, true)
theorem pv_nil : pv [] = ([], true) := rfl
theorem pv_bad {l : List UInt8} (h : l ≠ []) (hc : [] ∈ cutL l) : pv l = ([], false) := by unfold pv; rw [if_neg h, if_pos hc]
theorem pv_ok {l : List UInt8} (h : l ≠ []) (hc : ¬ [] ∈ cutL l) : pv l = (cutL l, true) := by unfold pv; rw [if_neg h, if_neg hc]

/-- The bytes from f on to i. -/
def sg (l : List UInt8) (f i : Nat) : List UInt8 := (l.drop f).take (i - f)
theorem sg_len (l : List UInt8) {f i : Nat} (h1 : f ≤ i) (h2 : i ≤ l.length) : (sg l f i).length = i - f := by unfold sg; rw [List.length_take, List.length_drop]; omega
/-- No space from f on to i. -/
def NoSp (l : List UInt8) (f i : Nat) : Prop := ∀ m, f ≤ m → m < i → l[m]?.getD 0 ≠ 32
theorem sg_nosp {l : List UInt8} {f i : Nat} (h : NoSp l f i) (h2 : i ≤ l.length) : ∀ c, c ∈ sg l f i → c ≠ 32 := by
  intro c hc
  unfold sg at hc
  obtain ⟨m, hm, e⟩ := List.mem_iff_getElem.1 hc
  rw [List.length_take, List.length_drop] at hm
  have := h (f + m) (by omega) (by omega)
  rw [List.getElem?_eq_getElem (by omega)] at this
  rw [List.getElem_take, List.getElem_drop] at e
  rw [← e]; simpa using this
theorem drop_split {l : List UInt8} {f i : Nat} (h1 : f ≤ i) (h2 : i < l.length) : l.drop f = sg l f i ++ l[i] :: l.drop (i + 1) := by
  unfold sg
  have := List.take_append_drop (i - f) (l.drop f)
  rw [List.drop_drop, show f + (i - f) = i by omega, List.drop_eq_getElem_cons h2] at this
  exact this.symm
/-- At a space. -/
theorem cut_at {l : List UInt8} {f i : Nat} (h1 : f ≤ i) (h2 : i < l.length) (hn : NoSp l f i) (hs : l[i]?.getD 0 = 32) : cutL (l.drop f) = sg l f i :: cutL (l.drop (i + 1)) := by
  rw [drop_split h1 h2]
  rw [List.getElem?_eq_getElem h2] at hs
  have hs : l[i] = 32 := by simpa using hs
  rw [hs]
  exact cutL_here _ _ (sg_nosp hn (by omega))
theorem cut_last {l : List UInt8} {f : Nat} (hn : NoSp l f l.length) : cutL (l.drop f) = [sg l f l.length] := by
  have e : sg l f l.length = l.drop f := by unfold sg; rw [List.take_of_length_le (by rw [List.length_drop]; exact Nat.le_refl _)]
  rw [e]
  exact cutL_end _ (by rw [← e]; exact sg_nosp hn (Nat.le_refl _))

theorem byt_ne {s : ByteArray} {i : Nat} (h : byt s i ≠ 32) : s.data.toList[i]?.getD 0 ≠ 32 := by
  intro e; apply h; unfold byt; rw [e]; rfl
theorem byt_eq {s : ByteArray} {i : Nat} (h : byt s i = 32) : s.data.toList[i]?.getD 0 = 32 := by
  unfold byt at h
  exact UInt8.toNat_inj.1 h

/-- A step over bytes that are not ASCII passes no ASCII byte. -/
theorem dec_skip {s : ByteArray} {i : Nat} (h : i < s.size) (hl : 128 ≤ byt s i) : i + (Utf8.decode s i).2 ≤ s.size ∧ ∀ m, i ≤ m → m < i + (Utf8.decode s i).2 → 128 ≤ byt s m := by
  have hget : ∀ k, i + k < s.size → (s.get! (i + k)).toNat = byt s (i + k) := fun k hk => get_byt s (i + k) hk
  have h0 : (s.get! (i + 0)).toNat = byt s i := hget 0 h
  have hone : i + 1 ≤ s.size ∧ ∀ m, i ≤ m → m < i + 1 → 128 ≤ byt s m := by
    refine ⟨by omega, fun m h1 h2 => ?_⟩
    have e : m = i := by omega
    rw [e]; exact hl
  have hcont : ∀ k, (decide (i + k < s.size) && (s.get! (i + k)).toNat / 64 == 2) = true → i + k < s.size ∧ 128 ≤ byt s (i + k) := by
    intro k hk
    rw [Bool.and_eq_true, decide_eq_true_eq, beq_iff_eq] at hk
    obtain ⟨h1, h2⟩ := hk
    rw [hget k h1] at h2
    exact ⟨h1, by omega⟩
  unfold Utf8.decode
  simp only [h0]
  rw [if_neg (by omega)]
  split
  · rename_i hc
    rw [Bool.and_eq_true] at hc
    have c1 := hcont 1 hc.2
    split
    · refine ⟨by show i + 2 ≤ _; omega, fun m h1 h2 => ?_⟩
      have h2 : m < i + 2 := h2
      rcases (by omega : m = i ∨ m = i + 1) with rfl | rfl
      · exact hl
      · exact c1.2
    · exact hone
  · split
    · rename_i hc
      rw [Bool.and_eq_true, Bool.and_eq_true] at hc
      have c1 := hcont 1 hc.1.2
      have c2 := hcont 2 hc.2
      split
      · refine ⟨by show i + 3 ≤ _; omega, fun m h1 h2 => ?_⟩
        have h2 : m < i + 3 := h2
        rcases (by omega : m = i ∨ m = i + 1 ∨ m = i + 2) with rfl | rfl | rfl
        · exact hl
        · exact c1.2
        · exact c2.2
      · exact hone
    · split
      · rename_i hc
        rw [Bool.and_eq_true, Bool.and_eq_true, Bool.and_eq_true] at hc
        have c1 := hcont 1 hc.1.1.2
        have c2 := hcont 2 hc.1.2
        have c3 := hcont 3 hc.2
        split
        · refine ⟨by show i + 4 ≤ _; omega, fun m h1 h2 => ?_⟩
          have h2 : m < i + 4 := h2
          rcases (by omega : m = i ∨ m = i + 1 ∨ m = i + 2 ∨ m = i + 3) with rfl | rfl | rfl | rfl
          · exact hl
          · exact c1.2
          · exact c2.2
          · exact c3.2
        · exact hone
      · exact hone
end Go.Proofs.YtiongejdedhcjaaDoor
