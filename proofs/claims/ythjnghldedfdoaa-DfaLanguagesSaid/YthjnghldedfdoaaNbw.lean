/- Lemmas of the proofs of this seat, of the parts Dfwl. Conditions: none. -/
import Derived.Test.YthjnghldedfdoaaNae
import Derived.Test.YthjnghldedfdoaaNad
import Derived.Test.YthjnghldedfdoaaNac
section
/- What the first wanted word is; counts of accepted words. -/
namespace Go.Proofs.Ythjnghldedfdoaa

theorem least_nat {p : Nat → Prop} (k : Nat) (h : p k) : ∃ j, p j ∧ ∀ l, l < j → ¬ p l := by
  induction k using Nat.strongRecOn with
  | ind k ih =>
    by_cases hl : ∃ l, l < k ∧ p l
    · obtain ⟨l, h1, h2⟩ := hl
      exact ih l h1 h2
    · exact ⟨k, h, fun l h1 h2 => hl ⟨l, h1, h2⟩⟩
section
variable {F : Nat × Nat → Nat → Nat × Nat} {i s t : Nat} {E : List Ent} {wd : Nat × Nat → Bool}
theorem OrdG.short {T : Nat} (h : OrdG F i s t T E) : ∀ (N k : Nat), k ≤ N → k < E.length → (E.getD k Ent.zero).w.length ≤ k := by
  intro N
  induction N with
  | zero =>
    intro k hk hl
    obtain rfl : k = 0 := by omega
    rw [h.z]; simp
  | succ N ih =>
    intro k hk hl
    by_cases h0 : k = 0
    · subst h0; rw [h.z]; simp
    · obtain ⟨h1, h2⟩ := h.bk k (by omega) hl
      rw [h2, List.length_append]
      have h3 := ih _ (show (E.getD k Ent.zero).j ≤ N by omega) (by omega)
      have h4 : [((E.getD k Ent.zero).x : Int)].length = 1 := rfl
      omega
/-- The two ways of the first wanted word. -/
theorem fw_ways (h : OrdG F i s t (E.length * i) E) (wd : Nat × Nat → Bool) :
    (fwR wd E = ([], false) ∧ ∀ u, Wd i u → wd (runF F (s, t) u) = false) ∨
    (∃ w, fwR wd E = (w, true) ∧ Wd i w ∧ w.length ≤ E.length ∧ wd (runF F (s, t) w) = true ∧ ∀ u, Wd i u → wd (runF F (s, t) u) = true → ¬ SL u w) := by
  by_cases hm : ∀ k, k < E.length → wd (E.getD k Ent.zero).pr = false
  · refine .inl ⟨fwR_miss hm, fun u hu => ?_⟩
    obtain ⟨c, hc, e⟩ := h.all u.length u (Nat.le_refl _) hu
    rw [← e]
    exact hm c hc
  · obtain ⟨k, hk⟩ := Classical.not_forall.mp hm
    obtain ⟨hk, hw⟩ := Classical.not_imp.mp hk
    have hw : wd (E.getD k Ent.zero).pr = true := by simpa using hw
    obtain ⟨j, ⟨hj, hwj⟩, hmin⟩ : ∃ j, (j < E.length ∧ wd (E.getD j Ent.zero).pr = true) ∧ ∀ l, l < j → ¬ (l < E.length ∧ wd (E.getD l Ent.zero).pr = true) :=
      least_nat k ⟨hk, hw⟩
    have hb : ∀ l, l < j → wd (E.getD l Ent.zero).pr = false := fun l hl => by
      have := hmin l hl
      cases e : wd (E.getD l Ent.zero).pr with
      | false => rfl
      | true => exact absurd ⟨by omega, e⟩ this
    have hh := fwR_hit (T := []) hj hb hwj
    rw [List.append_nil] at hh
    obtain ⟨w1, w2⟩ := h.word hj
    refine .inr ⟨_, hh, w1, by have := h.short j j (Nat.le_refl _) hj; omega, by rw [w2]; exact hwj, fun u hu hwu hs => ?_⟩
    obtain ⟨c, hc, e⟩ := h.before _ u j (Nat.le_refl _) hj hu hs
    rw [← e, hb c hc] at hwu
    exact absurd hwu (by decide)
end
section
variable {i st n : Nat} {nx : List (List Int)} {ac : List Bool}
theorem cnts_zero {s : Nat} (hs : s < n) : (cnts nx ac i n 0).getD s 0 = if aN ac s then 1 else 0 := by
  unfold cnts
  rw [getD_rangeN hs]
theorem cnts_succ {s k : Nat} (hs : s < n) : (cnts nx ac i n (k + 1)).getD s 0 = lgS nx (cnts nx ac i n k) s i := by
  show (lgr nx i n (cnts nx ac i n k)).getD s 0 = _
  unfold lgr
  rw [getD_rangeN hs]
theorem pow3_le {i k : Nat} (hi : i ≤ 3) (hk : k ≤ 31) : i ^ k ≤ 617673396283947 :=
  Nat.le_trans (Nat.pow_le_pow_left hi k) (Nat.le_trans (Nat.pow_le_pow_right (by decide) hk) (by decide))
/-- The accepted words of a length and those of the complement are all words. -/
theorem cnts_sum (h : Dok i st n nx ac) (hi : i ≤ 3) : ∀ (k s : Nat), k ≤ 31 → s < n → (cnts nx ac i n k).getD s 0 + (cnts nx (ac.map fun b => !b) i n k).getD s 0 = i ^ k
  | 0, s, _, hs => by
    rw [cnts_zero hs, cnts_zero hs]
    have : aN (ac.map fun b => !b) s = !aN ac s := by
      unfold aN
      have hl : s < ac.length := by rw [h.acl]; exact hs
      rw [List.getD_eq_getElem?_getD, List.getD_eq_getElem?_getD, List.getElem?_map, List.getElem?_eq_getElem hl]
      rfl
    rw [this]
    cases aN ac s <;> rfl
  | k + 1, s, hk, hs => by
    rw [cnts_succ hs, cnts_succ hs]
    have hp := pow3_le hi hk
    have key : ∀ a, a ≤ i → lgS nx (cnts nx ac i n k) s a + lgS nx (cnts nx (ac.map fun b => !b) i n k) s a = a * i ^ k := by
      intro a
      induction a with
      | zero => intro _; simp [lgS]
      | succ a iha =>
        intro ha
        have h1 := iha (by omega)
        have h2 := cnts_sum h hi k (nN nx s a) (by omega) (h.nN_lt hs (by omega))
        have h3 : (a + 1) * i ^ k ≤ i ^ (k + 1) := by rw [Nat.pow_succ, Nat.mul_comm (i ^ k)]; exact Nat.mul_le_mul_right _ ha
        have h4 : (a + 1) * i ^ k = a * i ^ k + i ^ k := by rw [Nat.add_mul, Nat.one_mul]
        show addC _ _ + addC _ _ = _
        unfold addC
        omega
    rw [key i (Nat.le_refl _), Nat.pow_succ, Nat.mul_comm]
/-- A count is positive just if there is a word. -/
theorem cnts_pos (h : Dok i st n nx ac) : ∀ (k s : Nat), s < n → (0 < (cnts nx ac i n k).getD s 0 ↔ ∃ u, Wd i u ∧ u.length = k ∧ aN ac (runS nx s u) = true)
  | 0, s, hs => by
    rw [cnts_zero hs]
    constructor
    · intro hp
      refine ⟨[], Wd.nil i, rfl, ?_⟩
      show aN ac s = true
      cases e : aN ac s with
      | true => rfl
      | false => rw [e] at hp; simp at hp
    · rintro ⟨u, _, hl, ha⟩
      obtain rfl := List.eq_nil_of_length_eq_zero hl
      have ha : aN ac s = true := ha
      rw [ha]; simp
  | k + 1, s, hs => by
    rw [cnts_succ hs]
    have key : ∀ a, a ≤ i → (0 < lgS nx (cnts nx ac i n k) s a ↔ ∃ x, x < a ∧ 0 < (cnts nx ac i n k).getD (nN nx s x) 0) := by
      intro a
      induction a with
      | zero => intro _; simp [lgS]
      | succ a iha =>
        intro ha
        have h1 := iha (by omega)
        have h0 : lgS nx (cnts nx ac i n k) s (a + 1) = addC (lgS nx (cnts nx ac i n k) s a) ((cnts nx ac i n k).getD (nN nx s a) 0) := rfl
        rw [h0]
        constructor
        · intro hp
          by_cases h2 : 0 < lgS nx (cnts nx ac i n k) s a
          · obtain ⟨x, hx, h3⟩ := h1.mp h2
            exact ⟨x, by omega, h3⟩
          · refine ⟨a, by omega, ?_⟩
            unfold addC at hp
            omega
        · rintro ⟨x, hx, h3⟩
          unfold addC
          by_cases e : x = a
          · subst e; omega
          · have := h1.mpr ⟨x, by omega, h3⟩
            omega
    rw [key i (Nat.le_refl _)]
    constructor
    · rintro ⟨x, hx, hp⟩
      obtain ⟨u, hu, hl, ha⟩ := (cnts_pos h k (nN nx s x) (h.nN_lt hs hx)).mp hp
      refine ⟨(x : Int) :: u, hu.cons hx, by simp [hl], ?_⟩
      show aN ac (runS nx (nN nx s ((x : Int)).toNat) u) = true
      rw [Int.toNat_natCast]
      exact ha
    · rintro ⟨u, hu, hl, ha⟩
      match u, hl with
      | x :: v, hl =>
        obtain ⟨a, rfl, hax⟩ := hu.head
        refine ⟨a, hax, (cnts_pos h k (nN nx s a) (h.nN_lt hs hax)).mpr ⟨v, hu.tail, by simpa using hl, ?_⟩⟩
        have ha : aN ac (runS nx (nN nx s ((a : Int)).toNat) v) = true := ha
        rw [Int.toNat_natCast] at ha
        exact ha
end
end Go.Proofs.Ythjnghldedfdoaa
end
