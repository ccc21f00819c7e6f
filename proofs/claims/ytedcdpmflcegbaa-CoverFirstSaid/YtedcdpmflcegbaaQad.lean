/- Lemmas of the proofs of this seat, of the parts Dsto, Trop, Covd, Tourp, Sam10, Hrow, Litl, Eqr, Eqdd, Awak10, Gr8, OwnX. Conditions: none. -/
import Derived.Test.YtedcdpmflcegbaaQac
import Derived.Test.YtedcdpmflcegbaaQab
import Derived.Test.YtedcdpmflcegbaaQaa
import Derived.Lib.SliceRun
import Derived.Maps.AppendAt
section
/- The word that is found is the first one. -/
namespace Go.Proofs.Ytedcdpmflcegbaa

/-- Dictionary order of words of the same length, and shortlex order. -/
def Lx : List Int → List Int → Prop
  | a :: u, b :: v => a < b ∨ (a = b ∧ Lx u v)
  | _, _ => False
def SL (u v : List Int) : Prop := u.length < v.length ∨ (u.length = v.length ∧ Lx u v)
theorem Lx_snoc : ∀ {u w : List Int} {x y : Int}, u.length = w.length → (Lx (u ++ [y]) (w ++ [x]) ↔ Lx u w ∨ (u = w ∧ y < x))
  | [], [], x, y, _ => by simp [Lx]
  | a :: u, b :: w, x, y, h => by
    have ih := Lx_snoc (u := u) (w := w) (x := x) (y := y) (by simpa using h)
    simp only [List.cons_append, Lx, ih, List.cons.injEq]
    constructor
    · rintro (h1 | ⟨h1, h2 | ⟨h2, h3⟩⟩)
      · exact .inl (.inl h1)
      · exact .inl (.inr ⟨h1, h2⟩)
      · exact .inr ⟨⟨h1, h2⟩, h3⟩
    · rintro ((h1 | ⟨h1, h2⟩) | ⟨⟨h1, h2⟩, h3⟩)
      · exact .inl h1
      · exact .inr ⟨h1, .inl h2⟩
      · exact .inr ⟨h1, .inr ⟨h2, h3⟩⟩
  | [], _ :: _, _, _, h => by simp at h
  | _ :: _, [], _, _, h => by simp at h
theorem SL_snoc {u w : List Int} {x y : Int} (h : SL (u ++ [y]) (w ++ [x])) : SL u w ∨ (u = w ∧ y < x) := by
  rcases h with h | ⟨h, h2⟩
  · simp only [List.length_append, List.length_singleton] at h
    exact .inl (.inl (by omega))
  · have hl : u.length = w.length := by simpa using h
    rcases (Lx_snoc hl).1 h2 with h3 | h3
    · exact .inl (.inr ⟨hl, h3⟩)
    · exact .inr h3
theorem Lx_tri : ∀ {u v : List Int}, u.length = v.length → Lx u v ∨ u = v ∨ Lx v u
  | [], [], _ => .inr (.inl rfl)
  | a :: u, b :: v, h => by
    have ih := Lx_tri (u := u) (v := v) (by simpa using h)
    simp only [Lx, List.cons.injEq]
    rcases Int.lt_trichotomy a b with h1 | h1 | h1
    · exact .inl (.inl h1)
    · rcases ih with h2 | h2 | h2
      · exact .inl (.inr ⟨h1, h2⟩)
      · exact .inr (.inl ⟨h1, h2⟩)
      · exact .inr (.inr (.inr ⟨h1.symm, h2⟩))
    · exact .inr (.inr (.inl h1))
  | [], _ :: _, h => by simp at h
  | _ :: _, [], h => by simp at h
theorem SL_tri {u v : List Int} : SL u v ∨ u = v ∨ SL v u := by
  rcases Nat.lt_trichotomy u.length v.length with h | h | h
  · exact .inl (.inl h)
  · rcases Lx_tri h with h2 | h2 | h2
    · exact .inl (.inr ⟨h, h2⟩)
    · exact .inr (.inl h2)
    · exact .inr (.inr (.inr ⟨h.symm, h2⟩))
  · exact .inr (.inr (.inl h))
theorem lexi_cons (a : Int) (u v : List Int) : lexi (a :: u) (a :: v) = lexi u v := by
  unfold lexi
  simp [cmn]
theorem lexi_ne {a b : Int} {u v : List Int} (h : ¬ a = b) : lexi (a :: u) (b :: v) = if a < b then -1 else 1 := by
  unfold lexi
  simp [cmn, h]
theorem lexi_neg : ∀ {u v : List Int}, u.length = v.length → lexi u v < 0 → Lx u v
  | [], [], _, h => by simp [lexi, cmn] at h
  | a :: u, b :: v, hl, h => by
    by_cases e : a = b
    · subst e
      rw [lexi_cons] at h
      exact .inr ⟨rfl, lexi_neg (by simpa using hl) h⟩
    · rw [lexi_ne e] at h
      by_cases e2 : a < b
      · exact .inl e2
      · rw [if_neg e2] at h; omega
  | [], _ :: _, h, _ => by simp at h
  | _ :: _, [], h, _ => by simp at h
theorem shlex_sl {u v : List Int} (h : shlex u v < 0) : SL u v := by
  rcases Nat.lt_trichotomy u.length v.length with h1 | h1 | h1
  · exact .inl h1
  · rw [shlex_eq h1] at h
    exact .inr ⟨h1, lexi_neg h1 h⟩
  · rw [shlex_gt h1] at h; omega

/-- What the search has done before its step T. -/
structure Ord_ (nx1 nx2 ot1 ot2 : List (List Int)) (i s t T : Nat) (E : List Ent) : Prop where
  ne : 0 < E.length
  z : (E.getD 0 Ent.zero).w = []
  zp : (E.getD 0 Ent.zero).p = s ∧ (E.getD 0 Ent.zero).q = t
  bk : ∀ k, 0 < k → k < E.length → (E.getD k Ent.zero).j < k ∧ (E.getD k Ent.zero).w = (E.getD (E.getD k Ent.zero).j Ent.zero).w ++ [((E.getD k Ent.zero).x : Int)]
  mono : ∀ k l, 0 < k → k < l → l < E.length → (E.getD k Ent.zero).j * i + (E.getD k Ent.zero).x < (E.getD l Ent.zero).j * i + (E.getD l Ent.zero).x
  xs : ∀ k, 0 < k → k < E.length → (E.getD k Ent.zero).x < i ∧ (E.getD k Ent.zero).j * i + (E.getD k Ent.zero).x < T
  cl : ∀ a y, a < E.length → y < i → a * i + y < T → ∃ c, c < E.length ∧ (E.getD c Ent.zero).p = nN nx1 (E.getD a Ent.zero).p y ∧ (E.getD c Ent.zero).q = nN nx2 (E.getD a Ent.zero).q y ∧ (c = 0 ∨ (E.getD c Ent.zero).j * i + (E.getD c Ent.zero).x ≤ a * i + y)
  ou : ∀ a y, a < E.length → y < i → a * i + y < T → oN ot1 (E.getD a Ent.zero).p y = oN ot2 (E.getD a Ent.zero).q y
  gd : ∀ e, e ∈ E → Gd nx1 nx2 ot1 ot2 i s t e
section
variable {nx1 nx2 ot1 ot2 : List (List Int)} {i n m s t T j x : Nat} {E : List Ent}
theorem pos_uniq {a y j x : Nat} (hy : y < i) (hx : x < i) (h : a * i + y = j * i + x) : a = j ∧ y = x := by
  have h1 : (a * i + y) / i = a := by rw [Nat.mul_comm, Nat.mul_add_div (by omega)]; rw [Nat.div_eq_of_lt hy]; rfl
  have h2 : (j * i + x) / i = j := by rw [Nat.mul_comm, Nat.mul_add_div (by omega)]; rw [Nat.div_eq_of_lt hx]; rfl
  have : a = j := by rw [← h1, ← h2, h]
  subst this
  exact ⟨rfl, by omega⟩
theorem Ord_.one (i s t : Nat) : Ord_ nx1 nx2 ot1 ot2 i s t 0 [⟨s, t, 0, 0, []⟩] where
  ne := by simp
  z := rfl
  zp := ⟨rfl, rfl⟩
  bk := fun k h1 h2 => by simp at h2; omega
  mono := fun k l h1 h2 h3 => by simp at h3; omega
  xs := fun k h1 h2 => by simp at h2; omega
  cl := fun a y _ _ h => absurd h (by omega)
  ou := fun a y _ _ h => absurd h (by omega)
  gd := fun e he => by simp at he; subst he; exact ⟨Wd.nil i, rfl, rfl, rfl⟩
theorem Ord_.step (h : Ord_ nx1 nx2 ot1 ot2 i s t (j * i + x) E) (hj : j < E.length) (hx : x < i) (ho : oN ot1 (E.getD j Ent.zero).p x = oN ot2 (E.getD j Ent.zero).q x) :
    Ord_ nx1 nx2 ot1 ot2 i s t (j * i + x + 1) (addE E (nxE nx1 nx2 j (E.getD j Ent.zero) x)) := by
  have hout : ∀ a y, a < E.length → y < i → a * i + y < j * i + x + 1 → oN ot1 (E.getD a Ent.zero).p y = oN ot2 (E.getD a Ent.zero).q y := fun a y ha hy hl => by
    by_cases e : a * i + y = j * i + x
    · obtain ⟨rfl, rfl⟩ := pos_uniq hy hx e; exact ho
    · exact h.ou a y ha hy (by omega)
  by_cases hh : hasE E (nxE nx1 nx2 j (E.getD j Ent.zero) x).p (nxE nx1 nx2 j (E.getD j Ent.zero) x).q
  · rw [addE_in hh]
    refine ⟨h.ne, h.z, h.zp, h.bk, h.mono, fun k h1 h2 => ⟨(h.xs k h1 h2).1, by have := (h.xs k h1 h2).2; omega⟩, fun a y ha hy hl => ?_, hout, h.gd⟩
    by_cases e : a * i + y = j * i + x
    · obtain ⟨rfl, rfl⟩ := pos_uniq hy hx e
      obtain ⟨c, hc, e1, e2⟩ := hasE_get hh
      refine ⟨c, hc, e1, e2, ?_⟩
      by_cases h0 : c = 0
      · exact .inl h0
      · exact .inr (by have := (h.xs c (by omega) hc).2; omega)
    · exact h.cl a y ha hy (by omega)
  · rw [addE_out hh]
    have hL : (E ++ [nxE nx1 nx2 j (E.getD j Ent.zero) x]).length = E.length + 1 := by simp
    have hp : ∀ k, k < E.length → (E ++ [nxE nx1 nx2 j (E.getD j Ent.zero) x]).getD k Ent.zero = E.getD k Ent.zero := fun k hk => getDE_pre hk
    have hl : (E ++ [nxE nx1 nx2 j (E.getD j Ent.zero) x]).getD E.length Ent.zero = nxE nx1 nx2 j (E.getD j Ent.zero) x := getDE_last
    refine ⟨by omega, by rw [hp 0 h.ne]; exact h.z, by rw [hp 0 h.ne]; exact h.zp, fun k h1 h2 => ?_, fun k l h1 h2 h3 => ?_, fun k h1 h2 => ?_, fun a y ha hy hl2 => ?_, fun a y ha hy hl2 => ?_, fun e he => ?_⟩
    · by_cases hk : k < E.length
      · rw [hp k hk]
        obtain ⟨b1, b2⟩ := h.bk k h1 hk
        exact ⟨b1, by rw [hp _ (by omega)]; exact b2⟩
      · obtain rfl : k = E.length := by omega
        rw [hl]
        exact ⟨hj, by show _ = ((E ++ [nxE nx1 nx2 j (E.getD j Ent.zero) x]).getD j Ent.zero).w ++ _; rw [hp j hj]; rfl⟩
    · by_cases hk : l < E.length
      · rw [hp k (by omega), hp l hk]; exact h.mono k l h1 h2 hk
      · obtain rfl : l = E.length := by omega
        rw [hp k (by omega), hl]
        exact (h.xs k h1 (by omega)).2
    · by_cases hk : k < E.length
      · rw [hp k hk]
        exact ⟨(h.xs k h1 hk).1, by have := (h.xs k h1 hk).2; omega⟩
      · obtain rfl : k = E.length := by omega
        rw [hl]
        exact ⟨hx, by show j * i + x < _; omega⟩
    · have ha2 : a < E.length := by
        by_cases h3 : a < E.length
        · exact h3
        · have : (j + 1) * i ≤ a * i := Nat.mul_le_mul_right i (by omega)
          rw [Nat.succ_mul] at this
          omega
      rw [hp a ha2]
      by_cases e : a * i + y = j * i + x
      · obtain ⟨rfl, rfl⟩ := pos_uniq hy hx e
        exact ⟨E.length, by omega, by rw [hl]; rfl, by rw [hl]; rfl, .inr (by rw [hl]; exact Nat.le_refl _)⟩
      · obtain ⟨c, hc, e1, e2, e3⟩ := h.cl a y ha2 hy (by omega)
        exact ⟨c, by omega, by rw [hp c hc]; exact e1, by rw [hp c hc]; exact e2, by rw [hp c hc]; exact e3⟩
    · have ha2 : a < E.length := by
        by_cases h3 : a < E.length
        · exact h3
        · have : (j + 1) * i ≤ a * i := Nat.mul_le_mul_right i (by omega)
          rw [Nat.succ_mul] at this
          omega
      rw [hp a ha2]
      exact hout a y ha2 hy hl2
    · rcases List.mem_append.1 he with he | he
      · exact h.gd e he
      · simp at he
        subst he
        exact (h.gd _ (getDE_mem hj)).next hx ho
theorem Ord_.round (h : Ord_ nx1 nx2 ot1 ot2 i s t (j * i) E) (hj : j < E.length) : ∀ x, x ≤ i → (∀ a, a < x → oN ot1 (E.getD j Ent.zero).p a = oN ot2 (E.getD j Ent.zero).q a) →
    Ord_ nx1 nx2 ot1 ot2 i s t (j * i + x) (addS nx1 nx2 j (E.getD j Ent.zero) E x)
  | 0, _, _ => h
  | x + 1, hx, ho => by
    have ih := Ord_.round h hj x (by omega) (fun a ha => ho a (by omega))
    obtain ⟨S, hS⟩ := addS_pre (nx1 := nx1) (nx2 := nx2) j (E.getD j Ent.zero) E x
    have hg : (addS nx1 nx2 j (E.getD j Ent.zero) E x).getD j Ent.zero = E.getD j Ent.zero := by rw [hS, getDE_pre hj]
    have h2 := ih.step (by rw [hS, List.length_append]; omega) (by omega) (by rw [hg]; exact ho x (by omega))
    rw [hg] at h2
    exact h2
/-- Words before an entry's word lead to entries before it. -/
theorem Ord_.before (h : Ord_ nx1 nx2 ot1 ot2 i s t T E) : ∀ (N : Nat) (u : List Int) (k : Nat), u.length ≤ N → k < E.length → Wd i u → SL u (E.getD k Ent.zero).w → ∃ c, c < k ∧ (E.getD c Ent.zero).p = runS nx1 s u ∧ (E.getD c Ent.zero).q = runS nx2 t u := by
  intro N
  induction N with
  | zero =>
    intro u k hN hk hu hsl
    obtain rfl : u = [] := List.eq_nil_of_length_eq_zero (by omega)
    by_cases h0 : k = 0
    · subst h0; rw [h.z] at hsl; rcases hsl with h1 | ⟨_, h1⟩ <;> simp [Lx] at h1
    · exact ⟨0, by omega, h.zp.1, h.zp.2⟩
  | succ N ih =>
    intro u k hN hk hu hsl
    by_cases h0 : k = 0
    · subst h0
      rw [h.z] at hsl
      rcases hsl with h1 | ⟨h1, h2⟩
      · simp at h1
      · obtain rfl : u = [] := List.eq_nil_of_length_eq_zero (by simpa using h1)
        simp [Lx] at h2
    · rcases List.eq_nil_or_concat u with rfl | ⟨u', y, rfl⟩
      · exact ⟨0, by omega, h.zp.1, h.zp.2⟩
      · rw [List.concat_eq_append] at hN hu hsl ⊢
        have hu1 : Wd i u' := fun z hz => hu z (List.mem_append.2 (.inl hz))
        obtain ⟨y', rfl, hy⟩ : ∃ y' : Nat, y = y' ∧ y' < i := by have := hu y (List.mem_append.2 (.inr (by simp))); exact ⟨y.toNat, by omega, by omega⟩
        rw [List.length_append] at hN
        have hN : u'.length + 1 ≤ N + 1 := hN
        obtain ⟨b1, b2⟩ := h.bk k (by omega) hk
        obtain ⟨x1, x2⟩ := h.xs k (by omega) hk
        rw [b2] at hsl
        have hfin : ∀ a, a < E.length → a * i + y' < (E.getD k Ent.zero).j * i + (E.getD k Ent.zero).x → (E.getD a Ent.zero).p = runS nx1 s u' → (E.getD a Ent.zero).q = runS nx2 t u' → ∃ c, c < k ∧ (E.getD c Ent.zero).p = runS nx1 s (u' ++ [(y' : Int)]) ∧ (E.getD c Ent.zero).q = runS nx2 t (u' ++ [(y' : Int)]) := fun a ha hlt e1 e2 => by
          obtain ⟨c, hc, c1, c2, c3⟩ := h.cl a y' ha hy (by omega)
          refine ⟨c, ?_, by rw [c1, e1, runS_app]; rfl, by rw [c2, e2, runS_app]; rfl⟩
          rcases c3 with c3 | c3
          · omega
          · rcases Nat.lt_trichotomy c k with h3 | h3 | h3
            · exact h3
            · subst h3; omega
            · have := h.mono k c (by omega) h3 hc; omega
        rcases SL_snoc hsl with h3 | ⟨h3, h4⟩
        · obtain ⟨a, ha, e1, e2⟩ := ih u' _ (by omega) (by omega) hu1 h3
          refine hfin a (by omega) ?_ e1 e2
          have : (a + 1) * i ≤ (E.getD k Ent.zero).j * i := Nat.mul_le_mul_right i ha
          rw [Nat.succ_mul] at this
          omega
        · obtain ⟨_, g2, g3, _⟩ := h.gd _ (getDE_mem (E := E) (k := (E.getD k Ent.zero).j) (by omega))
          rw [← h3] at g2 g3
          exact hfin _ (by omega) (by omega) g2.symm g3.symm
/-- Words before the word of a hit have the same outputs. -/
theorem Ord_.first (h : Ord_ nx1 nx2 ot1 ot2 i s t (j * i) E) (hj : j < E.length) (hd : ∀ a, a < x → oN ot1 (E.getD j Ent.zero).p a = oN ot2 (E.getD j Ent.zero).q a) :
    ∀ (N : Nat) (u : List Int), u.length ≤ N → Wd i u → SL u ((E.getD j Ent.zero).w ++ [(x : Int)]) → runO nx1 ot1 s u = runO nx2 ot2 t u := by
  intro N
  induction N with
  | zero =>
    intro u hN _ _
    obtain rfl : u = [] := List.eq_nil_of_length_eq_zero (by omega)
    rfl
  | succ N ih =>
    intro u hN hu hsl
    rcases List.eq_nil_or_concat u with rfl | ⟨u', y, rfl⟩
    · rfl
    · rw [List.concat_eq_append] at hN hu hsl ⊢
      have hu1 : Wd i u' := fun z hz => hu z (List.mem_append.2 (.inl hz))
      obtain ⟨y', rfl, hy⟩ : ∃ y' : Nat, y = y' ∧ y' < i := by have := hu y (List.mem_append.2 (.inr (by simp))); exact ⟨y.toNat, by omega, by omega⟩
      rw [List.length_append] at hN
      have hN : u'.length + 1 ≤ N + 1 := hN
      have hlen : u'.length < ((E.getD j Ent.zero).w ++ [(x : Int)]).length := by
        rcases hsl with h1 | ⟨h1, _⟩ <;> rw [List.length_append] at h1 <;> simp at h1 ⊢ <;> omega
      have ihu := ih u' (by omega) hu1 (.inl hlen)
      rw [runO_app, runO_app, ihu]
      have key : oN ot1 (runS nx1 s u') y' = oN ot2 (runS nx2 t u') y' := by
        rcases SL_snoc hsl with h3 | ⟨h3, h4⟩
        · obtain ⟨a, ha, e1, e2⟩ := h.before _ u' j (Nat.le_refl _) hj hu1 h3
          have : (a + 1) * i ≤ j * i := Nat.mul_le_mul_right i ha
          rw [Nat.succ_mul] at this
          have := h.ou a y' (by omega) hy (by omega)
          rw [e1, e2] at this
          exact this
        · obtain ⟨_, g2, g3, _⟩ := h.gd _ (getDE_mem hj)
          rw [h3, g2, g3]
          exact hd y' (by omega)
      show _ ++ [oN ot1 (runS nx1 s u') y'] = _ ++ [oN ot2 (runS nx2 t u') y']
      rw [key]
theorem srch_first {v : List Int} : ∀ (k : Nat) (E : List Ent) (j : Nat), Ord_ nx1 nx2 ot1 ot2 i s t (j * i) E → srch nx1 nx2 ot1 ot2 i k E j = some v → ∀ u, Wd i u → SL u v → runO nx1 ot1 s u = runO nx2 ot2 t u
  | 0, _, _, _, h => by simp [srch] at h
  | k + 1, E, j, hE, h => by
    rw [srch] at h
    by_cases hj : j < E.length
    · rw [if_pos hj] at h
      cases hd : fD ot1 ot2 (E.getD j Ent.zero) i with
      | some x =>
        rw [hd] at h
        injection h with h
        subst h
        obtain ⟨_, _, h3⟩ := fD_some hd
        exact fun u hu hs => hE.first hj h3 _ u (Nat.le_refl _) hu hs
      | none =>
        rw [hd] at h
        have h2 := hE.round hj i (Nat.le_refl _) (fD_none hd)
        rw [← Nat.succ_mul] at h2
        exact srch_first k _ _ h2 h
    · rw [if_neg hj] at h; exact absurd h (by simp)
theorem dst_first {v : List Int} (h : dst nx1 ot1 nx2 ot2 i n m s t = some v) : ∀ u, Wd i u → SL u v → runO nx1 ot1 s u = runO nx2 ot2 t u :=
  srch_first _ _ 0 (by rw [Nat.zero_mul]; exact Ord_.one i s t) h
theorem dst_wd {v : List Int} (h : dst nx1 ot1 nx2 ot2 i n m s t = some v) : Wd i v ∧ ¬ runO nx1 ot1 s v = runO nx2 ot2 t v := by
  obtain ⟨w, x, rfl, hx, hw, h1, h2⟩ := dst_sound h
  refine ⟨hw.app (Wd.one hx), fun e => ?_⟩
  rw [runO_app, runO_app, h1] at e
  have h3 := List.append_cancel_left e
  simp only [runO, Int.toNat_natCast, List.cons.injEq] at h3
  exact h2 h3.1
theorem dst_comm {s1 s2 : Nat} (hM : Mok i s1 n nx1 ot1) (hN : Mok i s2 m nx2 ot2) (hs : s < n) (ht : t < m) : dst nx2 ot2 nx1 ot1 i m n t s = dst nx1 ot1 nx2 ot2 i n m s t := by
  cases h1 : dst nx1 ot1 nx2 ot2 i n m s t with
  | none => exact (dst_none hN hM ht hs).2 ((dst_none hM hN hs ht).1 h1).symm
  | some v =>
    cases h2 : dst nx2 ot2 nx1 ot1 i m n t s with
    | none => exact absurd ((dst_none hN hM ht hs).1 h2).symm (dst_not h1)
    | some v' =>
      obtain ⟨w1, d1⟩ := dst_wd h1
      obtain ⟨w2, d2⟩ := dst_wd h2
      rcases SL_tri (u := v) (v := v') with h3 | h3 | h3
      · exact absurd (dst_first h2 v w1 h3).symm d1
      · rw [h3]
      · exact absurd (dst_first h1 v' w2 h3).symm d2
end
end Go.Proofs.Ytedcdpmflcegbaa
end

section
/- The order of what explore finds; the word of the nearest transition takes one new transition. -/
namespace Go.Proofs.Ytedcdpmflcegbaa

section
variable {nx ot : List (List Int)} {i st n s j : Nat} {E : List Ent}
theorem oN_nil (p a : Nat) : oN [] p a = 0 := by simp [oN]
theorem xpl_ord (hM : Mok i st n nx ot) : ∀ (k : Nat) (E : List Ent) (j : Nat), Ens n 1 s 0 E → Ord_ nx (oneN i) [] [] i s 0 (j * i) E → n ≤ k + j → j ≤ E.length → Ord_ nx (oneN i) [] [] i s 0 ((xpl nx i k E j).length * i) (xpl nx i k E j)
  | 0, E, j, hE, hO, hk, hj => by
    have := hE.len
    obtain rfl : j = E.length := by omega
    exact hO
  | k + 1, E, j, hE, hO, hk, hj => by
    rw [xpl]
    by_cases h1 : j < E.length
    · rw [if_pos h1]
      have h2 := hO.round h1 i (Nat.le_refl _) (fun a _ => by rw [oN_nil, oN_nil])
      rw [← Nat.succ_mul] at h2
      obtain ⟨T, hT⟩ := addS_pre (nx1 := nx) (nx2 := oneN i) j (E.getD j Ent.zero) E i
      exact xpl_ord hM k _ _ (addS_ens hM (one_ok hM) hE h1 i (Nat.le_refl _)) h2 (by omega) (by rw [hT, List.length_append]; omega)
    · rw [if_neg h1]
      obtain rfl : j = E.length := by omega
      exact hO
theorem exs_ord (hM : Mok i st n nx ot) (hs : s < n) : Ord_ nx (oneN i) [] [] i s 0 ((exs nx i n s).length * i) (exs nx i n s) :=
  xpl_ord hM n _ 0 (Ens.one hs (by decide)) (by rw [Nat.zero_mul]; exact Ord_.one i s 0) (by omega) (by simp)
/-- What is found: the word leads to the state, over permitted symbols. -/
theorem exs_run (hM : Mok i st n nx ot) (hs : s < n) {k : Nat} (hk : k < (exs nx i n s).length) : Wd i ((exs nx i n s).getD k Ent.zero).w ∧ runS nx s ((exs nx i n s).getD k Ent.zero).w = ((exs nx i n s).getD k Ent.zero).p := by
  obtain ⟨h1, h2, _⟩ := (exs_ord hM hs).gd _ (getDE_mem hk)
  exact ⟨h1, h2⟩
/-- Every word leads to a state that is found. -/
theorem exs_all (hM : Mok i st n nx ot) (hs : s < n) : ∀ (N : Nat) (u : List Int), u.length ≤ N → Wd i u → ∃ c, c < (exs nx i n s).length ∧ ((exs nx i n s).getD c Ent.zero).p = runS nx s u := by
  have hO := exs_ord (i := i) hM hs
  generalize exs nx i n s = E at hO
  intro N
  induction N with
  | zero =>
    intro u hN _
    obtain rfl : u = [] := List.eq_nil_of_length_eq_zero (by omega)
    exact ⟨0, hO.ne, hO.zp.1⟩
  | succ N ih =>
    intro u hN hu
    rcases List.eq_nil_or_concat u with rfl | ⟨u', y, rfl⟩
    · exact ⟨0, hO.ne, hO.zp.1⟩
    · rw [List.concat_eq_append] at hN hu ⊢
      rw [List.length_append] at hN
      have hN : u'.length + 1 ≤ N + 1 := hN
      have hu1 : Wd i u' := fun z hz => hu z (List.mem_append.2 (.inl hz))
      obtain ⟨y', rfl, hy⟩ : ∃ y' : Nat, y = y' ∧ y' < i := by have := hu y (List.mem_append.2 (.inr (by simp))); exact ⟨y.toNat, by omega, by omega⟩
      obtain ⟨a, ha, e⟩ := ih u' (by omega) hu1
      have hlt : a * i + y' < E.length * i := by
        have : (a + 1) * i ≤ E.length * i := Nat.mul_le_mul_right i ha
        rw [Nat.succ_mul] at this
        omega
      obtain ⟨c, hc, c1, _⟩ := hO.cl a y' ha hy hlt
      exact ⟨c, hc, by rw [c1, e, runS_app]; rfl⟩
theorem psL_at {k : Nat} (hk : k < E.length) : (psL E).getD k 0 = ((E.getD k Ent.zero).p : Int) := by
  rw [List.getD_eq_getElem?_getD, psL, List.getElem?_map, List.getElem?_eq_getElem hk]
  show ((E[k]).p : Int) = _
  rw [getDE_get hk]
theorem wsL_at {k : Nat} (hk : k < E.length) : (wsL E).getD k [] = (E.getD k Ent.zero).w := by
  rw [List.getD_eq_getElem?_getD, wsL, List.getElem?_map, List.getElem?_eq_getElem hk]
  show (E[k]).w = _
  rw [getDE_get hk]
/-- Different places hold different states. -/
theorem ens_inj (hE : Ens n 1 s 0 E) {a b : Nat} (ha : a < E.length) (hb : b < E.length) (h : (E.getD a Ent.zero).p = (E.getD b Ent.zero).p) : a = b := by
  have h1 := hE.nd
  have qa := (hE.lt _ (getDE_mem ha)).2
  have qb := (hE.lt _ (getDE_mem hb)).2
  refine (List.getElem?_inj (l := E.map Ent.pr) (by simpa using ha) h1).1 ?_
  rw [List.getElem?_map, List.getElem?_map, List.getElem?_eq_getElem ha, List.getElem?_eq_getElem hb, getDE_get ha, getDE_get hb]
  exact congrArg some (Prod.ext h (by show (E.getD a Ent.zero).q = (E.getD b Ent.zero).q; omega))
/-- Access words of places before a wanted transition take no new transition. -/
theorem fol_old (hM : Mok i st n nx ot) {T : Tk} (hp : T.pos < n) {k : Nat} (hk : k < (exs nx i n T.pos).length) (hf : ∀ c, c < k → ∀ a, a < i → T.tk ((exs nx i n T.pos).getD c Ent.zero).p a = true) :
    ∀ c, c ≤ k → (T.fol nx ((exs nx i n T.pos).getD c Ent.zero).w).nt = T.nt ∧ (T.fol nx ((exs nx i n T.pos).getD c Ent.zero).w).tk = T.tk := by
  have hO := exs_ord (i := i) hM hp
  have hr := fun c hc => exs_run (k := c) hM hp hc
  generalize exs nx i n T.pos = E at hk hf hO hr ⊢
  intro c
  induction c using Nat.strongRecOn with
  | _ c ih =>
    intro hc
    by_cases h0 : c = 0
    · subst h0; rw [hO.z]; exact ⟨rfl, rfl⟩
    · obtain ⟨b1, b2⟩ := hO.bk c (by omega) (by omega)
      obtain ⟨x1, _⟩ := hO.xs c (by omega) (by omega)
      obtain ⟨i1, i2⟩ := ih _ b1 (by omega)
      have hpos : (T.fol nx (E.getD (E.getD c Ent.zero).j Ent.zero).w).pos = (E.getD (E.getD c Ent.zero).j Ent.zero).p := by rw [Tk.fol_pos]; exact (hr _ (by omega)).2
      rw [b2, Tk.fol_snoc, Int.toNat_natCast]
      have hold := hf _ (Nat.lt_of_lt_of_le b1 hc) _ x1
      generalize T.fol nx (E.getD (E.getD c Ent.zero).j Ent.zero).w = T1 at i1 i2 hpos ⊢
      have hm : T1.mrk (E.getD c Ent.zero).x = T1 := by unfold Tk.mrk; rw [if_pos (by rw [i2, hpos]; exact hold)]
      unfold Tk.go
      rw [hm]
      refine ⟨by rw [(Tk.vst_n _).2.2]; exact i1, ?_⟩
      rw [← i2]
      unfold Tk.vst Tk.to
      split <;> rfl
theorem nrW_spec (hM : Mok i st n nx ot) {T : Tk} (hp : T.pos < n) {u : List Int} (h : nrW nx T i n = some u) :
    (T.fol nx u).nt = T.nt + 1 ∧ Wd i u ∧ u.length ≤ n ∧ 0 < u.length := by
  unfold nrW at h
  cases hf : frs (fun p x => !T.tk p x) i (exs nx i n T.pos) with
  | none => rw [hf] at h; exact absurd h (by simp)
  | some y =>
    obtain ⟨e, a⟩ := y
    rw [hf] at h
    obtain rfl : e.w ++ [(a : Int)] = u := Option.some.inj h
    obtain ⟨k, hk, rfl, h1, h2⟩ := frs_some hf
    obtain ⟨a1, a2, _⟩ := fH_some h1
    have hr := exs_run hM hp hk
    have hE := exs_ens (i := i) hM hp
    obtain ⟨f1, f2⟩ := fol_old hM hp hk (fun c hc a ha => by have := fH_none (h2 c hc) a ha; simpa using this) k (Nat.le_refl _)
    have hpos : (T.fol nx ((exs nx i n T.pos).getD k Ent.zero).w).pos = ((exs nx i n T.pos).getD k Ent.zero).p := by rw [Tk.fol_pos]; exact hr.2
    refine ⟨?_, hr.1.app (Wd.one a1), ?_, by simp⟩
    · rw [Tk.fol_snoc, Int.toNat_natCast]
      generalize T.fol nx ((exs nx i n T.pos).getD k Ent.zero).w = T1 at f1 f2 hpos ⊢
      unfold Tk.go
      rw [(Tk.vst_n _).2.2]
      show (T1.mrk a).nt = _
      unfold Tk.mrk
      rw [if_neg (by rw [f2, hpos]; simpa using a2)]
      show T1.nt + 1 = _
      rw [f1]
    · have h3 := hE.wl k hk
      have h4 := hE.len
      rw [List.length_append]
      show _ + 1 ≤ n
      omega
end
/-- The tour, by the number of transitions that are left. -/
def trr (nx : List (List Int)) (i n : Nat) : Nat → Tk → List Int → Option (List Int)
  | 0, _, out => some out
  | k + 1, T, out => match nrW nx T i n with
    | none => none
    | some u => trr nx i n k (T.fol nx u) (out ++ u)
def touF : Option (List Int) → Option (List Int) × Int
  | none => (none, 8)
  | some u => if 1024 < u.length then (none, 3) else (some u, 0)
def tourR (i st : Int) (nx ot : List (List Int)) : Option (List Int) × Int :=
  if vld i st nx ot = 0 then
    touF (trr nx i.toNat nx.length ((exs nx i.toNat nx.length st.toNat).length * i.toNat) (Tk.zero st.toNat) [])
  else (none, vld i st nx ot)
theorem ens_rch {E : List Ent} {l : List Nat} (h : E.map Ent.p = l) (hq : ∀ e, e ∈ E → e.q = 0) (e : Ent) (he : e.q = 0) : (addE E e).map Ent.p = addN l e.p ∧ ∀ y, y ∈ addE E e → y.q = 0 := by
  have hh : hasE E e.p e.q ↔ e.p ∈ l := by
    unfold hasE
    rw [← h, List.mem_map, List.mem_map]
    constructor
    · rintro ⟨y, hy, e1⟩
      exact ⟨y, hy, congrArg Prod.fst e1⟩
    · rintro ⟨y, hy, e1⟩
      exact ⟨y, hy, Prod.ext e1 (by show y.q = e.q; rw [hq y hy, he])⟩
  unfold addE addN
  by_cases h1 : hasE E e.p e.q
  · rw [if_pos h1, if_pos (hh.1 h1)]; exact ⟨h, hq⟩
  · rw [if_neg h1, if_neg (fun h2 => h1 (hh.2 h2))]
    refine ⟨by rw [List.map_append, h]; rfl, fun y hy => ?_⟩
    rcases List.mem_append.1 hy with hy | hy
    · exact hq y hy
    · simp at hy; subst hy; exact he
theorem addS_rch {nx : List (List Int)} {i j : Nat} {e : Ent} {E : List Ent} {l : List Nat} (h : E.map Ent.p = l) (hq : ∀ e, e ∈ E → e.q = 0) : ∀ x, x ≤ i → (addS nx (oneN i) j e E x).map Ent.p = addR nx e.p l x ∧ ∀ y, y ∈ addS nx (oneN i) j e E x → y.q = 0
  | 0, _ => ⟨h, hq⟩
  | x + 1, hx => by
    obtain ⟨h1, h2⟩ := addS_rch (nx := nx) (i := i) (j := j) (e := e) h hq x (by omega)
    exact ens_rch h1 h2 (nxE nx (oneN i) j e x) (nxE_q (i := i) (show x < i by omega))
theorem xpl_rch {nx : List (List Int)} {i : Nat} : ∀ (k : Nat) (E : List Ent) (l : List Nat) (j : Nat), E.map Ent.p = l → (∀ e, e ∈ E → e.q = 0) → (xpl nx i k E j).map Ent.p = bfs nx i k l j
  | 0, _, _, _, h, _ => h
  | k + 1, E, l, j, h, hq => by
    have hl : E.length = l.length := by rw [← h, List.length_map]
    rw [xpl, bfs]
    by_cases hj : j < E.length
    · rw [if_pos hj, if_pos (show j < l.length by omega)]
      have hg : (E.getD j Ent.zero).p = l.getD j 0 := by
        rw [← h, List.getD_eq_getElem?_getD, List.getD_eq_getElem?_getD, List.getElem?_map, List.getElem?_eq_getElem hj]; rfl
      obtain ⟨h1, h2⟩ := addS_rch (nx := nx) (i := i) (j := j) (e := E.getD j Ent.zero) h hq i (Nat.le_refl _)
      rw [hg] at h1
      exact xpl_rch k _ _ _ h1 h2
    · rw [if_neg hj, if_neg (show ¬ j < l.length by omega)]; exact h
theorem exs_rch {nx : List (List Int)} {i n s : Nat} (hn : nx.length = n) : (exs nx i n s).map Ent.p = rch nx i s := by
  unfold exs rch
  rw [hn]
  exact xpl_rch n _ _ 0 rfl (fun e he => by simp at he; subst he; rfl)
end Go.Proofs.Ytedcdpmflcegbaa
end

section
/- Covered of the program. -/
namespace Go.Proofs.Ytedcdpmflcegbaa
open Go.RowKit

def covT (nx : List (List Int)) (st : Nat) (T : Tk) : List (List Int) → Tk
  | [] => T
  | u :: l => covT nx st (((T.to st).vst).fol nx u) l
/-- The first error of a list of words. -/
def fstC (i : Int) : List (List Int) → Int
  | [] => 0
  | u :: l => if chk u i = 0 then fstC i l else chk u i
def covR (i st : Int) (nx ot ws : List (List Int)) : Int × Int × Int :=
  if vld i st nx ot = 0 then
    if fstC i ws = 0 then (((covT nx st.toNat (Tk.zero 0) ws).ns : Int), ((covT nx st.toNat (Tk.zero 0) ws).nt : Int), 0) else (0, 0, fstC i ws)
  else (0, 0, vld i st nx ot)
theorem covT_app (nx : List (List Int)) (st : Nat) : ∀ (a b : List (List Int)) (T : Tk), covT nx st T (a ++ b) = covT nx st (covT nx st T a) b
  | [], _, _ => rfl
  | _ :: a, b, _ => covT_app nx st a b _
theorem fstC_zero {i : Int} : ∀ {ws : List (List Int)}, (∀ u, u ∈ ws → chk u i = 0) → fstC i ws = 0
  | [], _ => rfl
  | u :: l, h => by rw [fstC, if_pos (h u (List.mem_cons_self ..))]; exact fstC_zero fun v hv => h v (List.mem_cons_of_mem _ hv)
theorem fstC_all {i : Int} : ∀ {ws : List (List Int)}, fstC i ws = 0 → ∀ u, u ∈ ws → chk u i = 0
  | [], _, u, hu => absurd hu (by simp)
  | v :: l, h, u, hu => by
    rw [fstC] at h
    by_cases h1 : chk v i = 0
    · rw [if_pos h1] at h
      rcases List.mem_cons.1 hu with rfl | hu
      · exact h1
      · exact fstC_all h u hu
    · rw [if_neg h1] at h; exact absurd h h1
theorem fstC_hit {i : Int} : ∀ {ws : List (List Int)} {j : Nat}, j < ws.length → (∀ m, m < j → chk (ws.getD m []) i = 0) → ¬ chk (ws.getD j []) i = 0 → fstC i ws = chk (ws.getD j []) i
  | [], _, hj, _, _ => absurd hj (by simp)
  | u :: l, 0, _, _, h => by rw [fstC, if_neg (by simpa using h)]; rfl
  | u :: l, j + 1, hj, h1, h2 => by
    rw [fstC, if_pos (by simpa using h1 0 (by omega))]
    exact fstC_hit (ws := l) (j := j) (by simpa using hj) (fun m hm => by simpa using h1 (m + 1) (by omega)) (by simpa using h2)
theorem take_snocL {ws : List (List Int)} {j : Nat} (h : j < ws.length) : ws.take (j + 1) = ws.take j ++ [ws.getD j []] := by
  rw [List.take_succ_eq_append_getElem h, List.getD_eq_getElem?_getD, List.getElem?_eq_getElem h]; rfl
theorem Syms.wd {xs : List Int} {i : Nat} (h : Syms xs i xs.length) : Wd i xs := fun x hx => h.mem x hx
set_option maxHeartbeats 4000000 in
set_option maxRecDepth 100000 in
theorem pcov (i st : Int) (A B D : Option Addr) (n c m d k e : Nat) (nx ot ws : List (List Int)) (w : World) (hx : Lists w A n nx) (ho : Lists w B m ot) (hw : Lists w D k ws) (hk : k ≤ 1048576) :
    Calls Try.prog 23 #[.agg #[.int .i64 i, .int .i64 st, .slice A n c, .slice B m d], .slice D k e] w fun e w' => e = .returned (.tuple #[.int .i64 (covR i st nx ot ws).1, .int .i64 (covR i st nx ot ws).2.1, .int .i64 (covR i st nx ot ws).2.2]) ∧ Below w.heap.size w w' := by
  have hb0 := alloc_below w (.cells #[.int .i64 i, .int .i64 st, .slice A n c, .slice B m d] 24)
  have hB := mealy_box w (.int .i64 i) (.int .i64 st) (.slice A n c) (.slice B m d)
  obtain ⟨R, hR⟩ : ∃ R, R = covR i st nx ot ws := ⟨_, rfl⟩
  rw [← hR]
  unfold covR at hR
  have hn1 := hx.1
  have hn2 := hx.2.1
  by_cases hv : vld i st nx ot = 0
  · rw [if_pos hv] at hR
    have HR := Lib.hid hR
    obtain ⟨i', st', n', rfl, rfl, hM⟩ := vld_zero hv
    have e3 := hM.nxl
    have e4 := hM.otl
    have e5 := ho.1
    obtain rfl : n = n' := by omega
    obtain rfl : n = m := by omega
    have HM := Lib.hid hM
    have hn128 := hM.n2
    clear hR e3 e4 e5 hM
    go_enter Try.func23, Try.ntmps23
    go_wp2_with fail
    refine (pvalid _ _ _ _ _ _ _ _ _ _ _ (hx.below hb0) (ho.below hb0)).mono ?_
    rintro e w1 ⟨rfl, a1⟩
    have hB1 := hB.kept a1 (by simp)
    have b1 := bt hb0 a1
    obtain ⟨k0, k1, k2, k3, _⟩ := hB1.cells
    have HBX := Lib.hid (fun (W : World) (h : Below w1.heap.size w1 W) => hB1.kept h (by have := a1.size; simp at this; omega))
    rw [hv]
    have HB1 := Lib.hid b1
    have hnl := hn1
    clear hB hb0 a1 hB1 b1 hv
    go_wp2
    rw [trk_store w1 (.int .i64 (i' : Int)) (.int .i64 (st' : Int)) (.slice A n c) (.slice B n d) 0 rfl rfl rfl rfl _ (trk_lit4 _ _ _ _)]
    have hT := Trk.new w1 (.int .i64 (i' : Int)) (.int .i64 (st' : Int)) (.slice A n c) (.slice B n d) (Tk.zero 0)
    have hb2 := alloc_below w1 (.cells (trkL (.int .i64 (i' : Int)) (.int .i64 (st' : Int)) (.slice A n c) (.slice B n d) (Tk.zero 0)).toArray 74)
    have hz2 : (w1.alloc (.cells (trkL (.int .i64 (i' : Int)) (.int .i64 (st' : Int)) (.slice A n c) (.slice B n d) (Tk.zero 0)).toArray 74)).heap.size = w1.heap.size + 1 := by simp
    generalize w1.alloc (.cells (trkL (.int .i64 (i' : Int)) (.int .i64 (st' : Int)) (.slice A n c) (.slice B n d) (Tk.zero 0)).toArray 74) = w2 at hT hb2 hz2 ⊢
    have HT := Lib.hid hT
    have HB2 := Lib.hid hb2
    obtain ⟨g, hg⟩ : ∃ g, g = w1.heap.size := ⟨_, rfl⟩
    rw [← hg] at HT ⊢
    have HG := Lib.hid hg
    clear hT hb2 k0 k1 k2 k3 hg
    simp only [Result.andThen]
    go_wp2
    generalize Value.agg ((((Try.zeroCells74.setIfInBounds 0 (Value.int IntKind.i64 (i' : Int))).setIfInBounds 1 (Value.int IntKind.i64 (st' : Int))).setIfInBounds 2 (Value.slice A n c)).setIfInBounds 3 (Value.slice B n d)) = Z
    go_loopw [21] (fun v21 wr => ∃ (j : Nat) (T : Tk), j ≤ k ∧ v21 = .int .i64 j ∧ T = covT nx st' (Tk.zero 0) (ws.take j) ∧ (∀ m, m < j → chk (ws.getD m []) i' = 0) ∧ T.ns ≤ j * 1025 ∧ T.nt ≤ j * 1024 ∧ Trk wr g (.int .i64 (i' : Int)) (.int .i64 (st' : Int)) (.slice A n c) (.slice B n d) T ∧ Trw g w2 wr) (fun v21 _ => k - (intOf v21).toNat)
    case atStart => exact ⟨0, Tk.zero 0, Nat.zero_le _, rfl, rfl, fun m hm => absurd hm (by omega), by simp [Tk.zero], by simp [Tk.zero], HT.out, Trw.refl _ _⟩
    case round =>
      obtain ⟨j, T, hj, rfl, hTE, hck, hns, hnt, hT, hw2⟩ := hrel
      have hwl := hw.1
      have hbw : Below w1.heap.size w1 wr := by rw [← HG.out]; rw [← HG.out] at HB2; exact HB2.out.trans hw2.1
      obtain ⟨k0, k1, k2, k3, _⟩ := (HBX.out wr hbw).cells
      have HTE := Lib.hid hTE
      have HCK := Lib.hid hck
      have HT := Lib.hid hT
      have HW2 := Lib.hid hw2
      have HBW := Lib.hid hbw
      clear hTE hck hT hw2 hbw
      by_cases hlt : j < k
      · obtain ⟨gD, oD, D3, nD, cD, eD, hgD, hdD, hrD⟩ := hw.at_ hlt
        subst eD
        have hdD := ((HB1.out.trans (HBW.out.mono HB1.out.size)).cell (p := ⟨gD, oD + j, none⟩) hgD).trans hdD
        have HRD := Lib.hid (fun (W : World) (h : Below w1.heap.size w1 W) => (hrD.below HB1.out).below h)
        have hnD := hrD.1
        have hts := take_snocL (ws := ws) (j := j) (by omega)
        have HNX := Lib.hid (show covT nx st' (Tk.zero 0) (ws.take (j + 1)) = ((T.to st').vst).fol nx (ws.getD j []) by rw [hts, covT_app, ← HTE.out]; rfl)
        have HFH := Lib.hid (fstC_hit (i := (i' : Int)) (ws := ws) (j := j) (by omega) HCK.out)
        generalize hU : ws.getD j [] = u at hnD HRD HNX HFH
        have HU := Lib.hid hU
        clear hts hU hrD hgD
        go_wp2_with fail
        refine (wcheck _ _ _ _ _ _ (HRD.out _ HBW.out)).mono ?_
        rintro e w3 ⟨rfl, rfl⟩
        by_cases hc : chk u i' = 0
        · have HC := Lib.hid hc
          rw [hc]
          obtain ⟨c1, c2, c3, c4⟩ := chk_zero hc
          have HWD := Lib.hid c4.wd
          clear hc c4 c1 c2
          have hT := HT.out
          have f1 := hT.frz 4
          obtain ⟨_, _, _, _, l4⟩ := hT.fix
          have hT2 := hT.setPos st'
          have hW2 := HW2.out.trans (Trw.set hT 4 (.int .i64 (st' : Int)))
          have hst := HM.out.st
          have hlk : nD ≤ 1024 := by omega
          clear hT
          go_wp2_with fail
          have HT2 := Lib.hid hT2
          have HW3 := Lib.hid hW2
          generalize wr.setCell ⟨g, 4, none⟩ (.int .i64 (st' : Int)) = w4 at HT2 HW3 hT2 ⊢
          refine (pvisit g _ _ _ _ _ w4 hT2 (by show st' < 128; omega) (by show T.ns < _; omega)).mono ?_
          rintro r w5 ⟨rfl, hT5, hW5⟩
          have HT5 := Lib.hid hT5
          have HW5 := Lib.hid (HW3.out.trans hW5)
          have hv := Tk.vst_n (T.to st')
          have hf := Tk.fol_n nx u ((T.to st').vst)
          have hT0 : (T.to st').ns = T.ns ∧ (T.to st').nt = T.nt := ⟨rfl, rfl⟩
          have hpos : ((T.to st').vst).pos = st' := Tk.vst_pos _
          have hge : w1.heap.size ≤ g := by rw [HG.out]; exact Nat.le_refl _
          have HPF := Lib.hid (pfollow g i' n nD cD st' A D3 c (.slice B n d) nx ot ((T.to st').vst) u w1 w5 (hx.below HB1.out) (HB2.out.trans (HW5.out.1.mono hge)) hge HM.out HT5.out (by rw [hpos]; exact hst) HWD.out (fun W hW => HRD.out W (HB2.out.trans ((HW5.out.trans hW).1.mono hge))) (by omega) (by omega))
          clear hT5 hW5 hT2 hW2 l4 f1 k0 k1 k2 k3 hdD
          go_wp2_with fail
          refine HPF.out.mono ?_
          rintro r w6 ⟨rfl, hT6, hW6⟩
          have HT6 := Lib.hid hT6
          have HW6 := Lib.hid (HW5.out.trans hW6)
          have HNE := Lib.hid (show ∀ m, m < j + 1 → chk (ws.getD m []) i' = 0 from fun m hm => by
            by_cases h9 : m = j
            · subst h9; rw [HU.out]; exact HC.out
            · exact HCK.out m (by omega))
          rw [← HNX.out] at hf HT6
          clear hT6 hW6
          go_wp2
          go_roundw
          case rel => exact ⟨j + 1, _, by omega, by go_num, rfl, HNE.out, by omega, by omega, HT6.out, HW6.out⟩
          case measure => simp [intOf]; omega
        · have hR2 := HR.out
          rw [HFH.out hc, if_neg hc] at hR2
          have HR2 := Lib.hid hR2
          have hne : (chk u i' != 0) = true := by simpa using hc
          generalize chk u i' = E at hne HR2
          clear hc hR2
          have HBE := Lib.hid (HB1.out.trans (HBW.out.mono HB1.out.size))
          go_wp2
          go_ret3
          rw [HR2.out]
          exact ⟨rfl, HBE.out⟩
      · obtain rfl : j = k := by omega
        have hT := HT.out
        rw [HTE.out, List.take_of_length_le (by omega)] at hT
        obtain ⟨c0, c1⟩ := hT.cnt
        have hR2 := HR.out
        rw [if_pos (fstC_zero fun u hu => by
          obtain ⟨m, hm, rfl⟩ := List.mem_iff_getElem.1 hu
          have := HCK.out m (by omega)
          rwa [List.getD_eq_getElem?_getD, List.getElem?_eq_getElem hm] at this), Int.toNat_natCast] at hR2
        have HR2 := Lib.hid hR2
        generalize covT nx st' (Tk.zero 0) ws = T2 at c0 c1 HR2
        clear hT hR2
        have HBE := Lib.hid (HB1.out.trans (HBW.out.mono HB1.out.size))
        go_wp2
        go_quiet (fail)
        go_wp2
        go_ret3
        rw [HR2.out]
        exact ⟨rfl, below_drewN HBE.out _⟩
  · rw [if_neg hv] at hR
    have HR := Lib.hid hR
    obtain ⟨E, hE⟩ : ∃ E, E = vld i st nx ot := ⟨_, rfl⟩
    have HE := Lib.hid hE
    rw [← hE] at hv
    clear hR hE hB
    have hne : (E != 0) = true := by simpa using hv
    go_enter Try.func23, Try.ntmps23
    go_wp2_with fail
    refine (pvalid _ _ _ _ _ _ _ _ _ _ _ (hx.below hb0) (ho.below hb0)).mono ?_
    rintro e w1 ⟨rfl, b1⟩
    rw [← HE.out]
    clear hv
    go_wp2
    go_ret3
    rw [HR.out, ← HE.out]
    exact ⟨rfl, bt hb0 b1⟩
end Go.Proofs.Ytedcdpmflcegbaa
end

section
/- Tour of the program. -/
namespace Go.Proofs.Ytedcdpmflcegbaa
open Go.RowKit Go.Shelf

theorem tourR_ok {i st n : Nat} {nx ot : List (List Int)} (hM : Mok i st n nx ot) {R : Option (List Int) × Int} (h : R = tourR i st nx ot) :
    ∃ r, trr nx i n ((exs nx i n st).length * i) (Tk.zero st) [] = r ∧ R = touF r := by
  refine ⟨_, rfl, ?_⟩
  rw [h]
  unfold tourR
  rw [if_pos hM.vld, hM.nxl, Int.toNat_natCast, Int.toNat_natCast]
set_option maxHeartbeats 4000000 in
set_option maxRecDepth 100000 in
theorem ptour (i st : Int) (A B : Option Addr) (n c m d : Nat) (nx ot : List (List Int)) (w : World) (hx : Lists w A n nx) (ho : Lists w B m ot) :
    Calls Try.prog 21 #[.agg #[.int .i64 i, .int .i64 st, .slice A n c, .slice B m d]] w fun e w' => ∃ A1 c1, e = .returned (.tuple #[.slice A1 ((tourR i st nx ot).1.getD []).length c1, .int .i64 (tourR i st nx ot).2]) ∧
      Owned w' w.heap.size (.slice A1 ((tourR i st nx ot).1.getD []).length c1) ((tourR i st nx ot).1.getD []) ∧ Below w.heap.size w w' := by
  have hb0 := alloc_below w (.cells #[.int .i64 i, .int .i64 st, .slice A n c, .slice B m d] 24)
  have hB := mealy_box w (.int .i64 i) (.int .i64 st) (.slice A n c) (.slice B m d)
  obtain ⟨R, hR⟩ : ∃ R, R = tourR i st nx ot := ⟨_, rfl⟩
  rw [← hR]
  have hn1 := hx.1
  have hn2 := hx.2.1
  by_cases hv : vld i st nx ot = 0
  · obtain ⟨i', st', n', rfl, rfl, hM⟩ := vld_zero hv
    have e3 := hM.nxl
    have e4 := hM.otl
    have e5 := ho.1
    obtain rfl : n = n' := by omega
    obtain rfl : n = m := by omega
    have HM := Lib.hid hM
    have hn128 := hM.n2
    have hi64 := hM.i2
    obtain ⟨r, hr, hR⟩ := tourR_ok hM hR
    have hE := exs_ens (i := i') hM hM.st
    have hlen := hE.len
    have hrl : (rch nx i' st').length = (exs nx i' n st').length := by rw [← exs_rch hn1, List.length_map]
    have HRE := Lib.hid (fun (W : World) (h1 : Lists W A n nx) (h2 : Lists W B n ot) => preach_ok i' st' n A B c d nx ot W h1 h2 hM)
    rw [hrl] at HRE
    generalize (exs nx i' n st').length = K at HRE hr hlen
    have HR := Lib.hid hR
    have HRR := Lib.hid hr
    clear hR hr e3 e4 e5 hM hE hrl
    go_enter Try.func21, Try.ntmps21
    go_wp2_with fail
    refine (pvalid _ _ _ _ _ _ _ _ _ _ _ (hx.below hb0) (ho.below hb0)).mono ?_
    rintro e w1 ⟨rfl, a1⟩
    have hB1 := hB.kept a1 (by simp)
    have b1 := bt hb0 a1
    obtain ⟨k0, k1, k2, k3, _⟩ := hB1.cells
    have HBX := Lib.hid (fun (W : World) (h : Below w1.heap.size w1 W) => hB1.kept h (by have := a1.size; simp at this; omega))
    rw [hv]
    have HB1 := Lib.hid b1
    have hnl := hn1
    have hKi : K * i' ≤ 128 * 64 := Nat.mul_le_mul (by omega) hi64
    have HS := Lib.hid (show ∀ W, Below w1.heap.size w1 W → W.cell? ⟨w.heap.size, 0, none⟩ = some (.int .i64 (i' : Int)) ∧ W.cell? ⟨w.heap.size, 1, none⟩ = some (.int .i64 (st' : Int)) ∧ W.cell? ⟨w.heap.size, 2, none⟩ = some (.slice A n c) ∧ W.cell? ⟨w.heap.size, 3, none⟩ = some (.slice B n d) from fun W h => by
      obtain ⟨k0, k1, k2, k3, _⟩ := (HBX.out W h).cells
      exact ⟨k0, k1, k2, k3⟩)
    have HRE2 := Lib.hid (show ∀ W, Below w1.heap.size w1 W → Calls Try.prog 38 #[.agg #[.int .i64 i', .int .i64 st', .slice A n c, .slice B n d]] W fun e w' => ∃ A' c', e = .returned (.slice A' K c') ∧ Below W.heap.size W w' from fun W h => (HRE.out W ((hx.below HB1.out).below h) ((ho.below HB1.out).below h)).mono (by rintro e w' ⟨A', c', rfl, _, b⟩; exact ⟨A', c', rfl, b⟩))
    have hbc : Below w1.heap.size w1 w1.drew := (Below.refl _ w1).drew
    have hmul : IntKind.i64.wrap ((K : Int) * (i' : Int)) = ((K * i' : Nat) : Int) := by
      rw [← Int.natCast_mul]
      generalize K * i' = z at hKi
      exact IntWalk.i64_in _ (by omega)
    obtain ⟨Z, hZ⟩ : ∃ Z, Z = K * i' := ⟨_, rfl⟩
    rw [← hZ] at hmul hKi
    have HZ := Lib.hid hZ
    clear hB hb0 a1 hB1 b1 hv hZ HRE
    go_wp2_with fail
    go_region_held3 (fun W => W.cell? ⟨w.heap.size, 0, none⟩ = some (.int .i64 (i' : Int)) ∧ W.cell? ⟨w.heap.size, 1, none⟩ = some (.int .i64 (st' : Int)) ∧ W.cell? ⟨w.heap.size, 2, none⟩ = some (.slice A n c) ∧ W.cell? ⟨w.heap.size, 3, none⟩ = some (.slice B n d)) (first | exact HS.out _ hbc) ((go_at_call 38; refine (HRE2.out _ hbc).mono ?_; rintro e w' ⟨A', c', rfl, b'⟩; have hbc := bt hbc b'))
    obtain ⟨w3, hw3⟩ : ∃ w3, w3 = w' := ⟨_, rfl⟩
    rw [← hw3] at hbc ⊢
    clear hw3 hmul
    obtain ⟨k0, k1, k2, k3⟩ := HS.out w3 hbc
    have HB3 := Lib.hid hbc
    clear hbc
    go_wp2
    rw [trk_store w3 (.int .i64 (i' : Int)) (.int .i64 (st' : Int)) (.slice A n c) (.slice B n d) st' rfl rfl rfl rfl _ (trk_lit5 _ _ _ _ _)]
    have hT := Trk.new w3 (.int .i64 (i' : Int)) (.int .i64 (st' : Int)) (.slice A n c) (.slice B n d) (Tk.zero st')
    have hb2 := alloc_below w3 (.cells (trkL (.int .i64 (i' : Int)) (.int .i64 (st' : Int)) (.slice A n c) (.slice B n d) (Tk.zero st')).toArray 74)
    have hz2 : (w3.alloc (.cells (trkL (.int .i64 (i' : Int)) (.int .i64 (st' : Int)) (.slice A n c) (.slice B n d) (Tk.zero st')).toArray 74)).heap.size = w3.heap.size + 1 := by simp
    generalize w3.alloc (.cells (trkL (.int .i64 (i' : Int)) (.int .i64 (st' : Int)) (.slice A n c) (.slice B n d) (Tk.zero st')).toArray 74) = w2 at hT hb2 hz2 ⊢
    have HT := Lib.hid hT
    have HB2 := Lib.hid (bt HB3.out hb2)
    obtain ⟨g, hg⟩ : ∃ g, g = w3.heap.size := ⟨_, rfl⟩
    rw [← hg] at HT ⊢
    have HG := Lib.hid hg
    have hg1 : w1.heap.size ≤ g := by rw [hg]; exact HB3.out.size
    have hg2 : w2.heap.size = g + 1 := by rw [hg, hz2]
    clear hT hb2 k0 k1 k2 k3 hg hz2
    simp only [Result.andThen]
    go_wp2
    generalize Value.agg (((((Try.zeroCells74.setIfInBounds 0 (Value.int IntKind.i64 (i' : Int))).setIfInBounds 1 (Value.int IntKind.i64 (st' : Int))).setIfInBounds 2 (Value.slice A n c)).setIfInBounds 3 (Value.slice B n d)).setIfInBounds 4 (Value.int IntKind.i64 (st' : Int))) = ZV
    go_loopw [7] (fun v7 wr => ∃ (T : Tk) (out : List Int) (A7 : Option Addr) (c7 : Nat), v7 = .slice A7 out.length c7 ∧ Owned wr w2.heap.size (.slice A7 out.length c7) out ∧ T.pos < n ∧ T.nt ≤ Z ∧ out.length ≤ T.nt * 128 ∧ T.ns ≤ T.nt * 128 ∧ trr nx i' n (Z - T.nt) T out = r ∧ Trk wr g (.int .i64 (i' : Int)) (.int .i64 (st' : Int)) (.slice A n c) (.slice B n d) T ∧ Below g w2 wr) (fun _ wr => Z - (intOf ((wr.cell? ⟨g, 8326, none⟩).getD undef)).toNat)
    case atStart => exact ⟨Tk.zero st', [], none, 0, rfl, World.ownsRow_nil _ _ _ _, HM.out.st, Nat.zero_le _, by simp, by simp [Tk.zero], by rw [HZ.out]; exact HRR.out, HT.out, Below.refl _ _⟩
    case round =>
      obtain ⟨T, out, A7, c7, rfl, hO, hpos, hntZ, hol, hns, htr, hT, hb⟩ := hrel
      have HO := Lib.hid hO
      have HTR := Lib.hid htr
      have HT := Lib.hid hT
      have HBG := Lib.hid hb
      obtain ⟨_, q1⟩ := hT.cnt
      have HQ1 := Lib.hid q1
      clear hO htr hT hb
      by_cases hlt : T.nt < Z
      · have d1 : decide ((T.nt : Int) < (Z : Int)) = true := decide_eq_true (by omega)
        obtain ⟨k, hk⟩ : ∃ k, Z - T.nt = k + 1 := ⟨Z - T.nt - 1, by omega⟩
        have hbw : Below w1.heap.size w1 wr := HB2.out.trans (HBG.out.mono hg1)
        have HBW := Lib.hid hbw
        have HPN := Lib.hid (pnearest g i' st' n A B c d nx ot T w wr hx (HB1.out.trans (hbw.mono HB1.out.size)) HM.out HT.out hpos)
        have HKK := Lib.hid hk
        clear hbw hk
        cases hnr : nrW nx T i' n with
        | none =>
          rw [hnr] at HPN
          have HR3 := Lib.hid (show R = (none, 8) by
            have h1 := HTR.out
            rw [HKK.out, trr, hnr] at h1
            rw [HR.out, ← h1]; rfl)
          clear hnr
          go_wp2_with fail
          refine HPN.out.mono ?_
          rintro e w5 ⟨A8, c8, rfl, _, b5⟩
          have HBE := Lib.hid (HB1.out.trans ((bt HBW.out b5).mono HB1.out.size))
          clear b5
          go_wp2
          go_ret2
          rw [HR3.out]
          exact ⟨none, 0, rfl, World.ownsRow_nil _ _ _ _, HBE.out⟩
        | some u =>
          rw [hnr] at HPN
          obtain ⟨s1, s2, s3, s4⟩ := nrW_spec HM.out hpos hnr
          have HS2 := Lib.hid s2
          have HTR2 := Lib.hid (show trr nx i' n k (T.fol nx u) (out ++ u) = r by
            have h1 := HTR.out
            rw [HKK.out, trr, hnr] at h1
            exact h1)
          have HPN2 : Hid (Calls Try.prog 39 #[.pointer (some ⟨g, 0, none⟩)] wr fun r w' => ∃ A' c', r = .returned (.tuple #[.slice A' u.length c', .bool true]) ∧ Owned w' wr.heap.size (.slice A' u.length c') u ∧ Below wr.heap.size wr w') := HPN
          clear hnr s2 HPN
          go_wp2_with fail
          refine HPN2.out.mono ?_
          rintro e w5 ⟨A8, c8, rfl, hO5, b5⟩
          have HO5 := Lib.hid hO5
          have HB5 := Lib.hid (bt HBW.out b5)
          have HT5 := Lib.hid (HT.out.below b5)
          have HOO := Lib.hid (HO.out.kept b5)
          have hz5 := b5.size
          have HB55 := Lib.hid b5
          have HPF := Lib.hid (pfollow g i' n u.length c8 st' A A8 c (.slice B n d) nx ot T u w1 w5 (hx.below HB1.out) HB5.out hg1 HM.out HT5.out hpos HS2.out (fun W hW => (HO5.out.keptT (hW.2 _ (by decide))).ints (by omega)) (by omega) (by omega))
          clear hO5 b5
          go_wp2_with fail
          refine HPF.out.mono ?_
          rintro e w6 ⟨rfl, hT6, hW6⟩
          have hO6 := HOO.out.keptT (hW6.2 _ (by decide))
          have hI6 := (HO5.out.keptT (hW6.2 _ (by decide))).ints (by omega)
          have hz6 := hW6.1.size
          have hzg := HBG.out.size
          have hf := Tk.fol_n nx u T
          obtain ⟨v7, w7, hr, hO7, _, hb7⟩ := run_append_ints w6 w2.heap.size _ out u A8 u.length c8 hO6 hI6 (by omega) (by rw [List.length_append]; omega)
          obtain ⟨A9, c9, rfl⟩ := hO7.form
          have hT7 := hT6.kept hb7 (by omega)
          have HO7 := Lib.hid hO7
          have HT7 := Lib.hid hT7
          have HB7 := Lib.hid (((HBG.out.trans (HB55.out.mono (by omega))).trans hW6.1).trans (hb7.mono (by omega)))
          have hpos7 : (T.fol nx u).pos < n := by rw [Tk.fol_pos]; exact runS_lt HM.out u _ hpos HS2.out
          obtain ⟨_, q2⟩ := hT7.cnt
          have HQ2 := Lib.hid q2
          have hll : (out ++ u).length = out.length + u.length := List.length_append
          have hz2 : Z - (T.fol nx u).nt = k := by have := HKK.out; omega
          have HZ2 := Lib.hid hz2
          have hnsf := hf.2.2.2
          have hns2 : (T.fol nx u).ns ≤ (T.fol nx u).nt * 128 := by omega
          have hol2 : (out ++ u).length ≤ (T.fol nx u).nt * 128 := by omega
          have hnt2 : (T.fol nx u).nt ≤ Z := by omega
          clear hO7 hT7 hT6 hW6 hO6 hI6 hb7 q2 hz2 hf
          go_wp2_with (at_builtin; refine Lib.wpList_append_run _ rfl _ _ _ _ rfl _ _ rfl rfl _ _ hr ?_)
          clear hr
          go_wp2
          go_roundw
          case rel => exact ⟨T.fol nx u, out ++ u, A9, c9, by rw [List.length_append], HO7.out, hpos7, hnt2, hol2, hns2, by rw [HZ2.out]; exact HTR2.out, HT7.out, HB7.out⟩
          case measure =>
            rw [HQ1.out, HQ2.out]
            have := HKK.out
            have := HZ2.out
            simp [intOf]
            omega
      · obtain rfl : T.nt = Z := by omega
        have h1 := HTR.out
        rw [Nat.sub_self] at h1
        have h2 := HR.out
        rw [← h1] at h2
        have d1 : decide ((T.nt : Int) < (T.nt : Int)) = false := decide_eq_false (by omega)
        have HBE := Lib.hid (HB1.out.trans ((HB2.out.trans (HBG.out.mono hg1)).mono HB1.out.size))
        by_cases hl : 1024 < out.length
        · have HR2 := Lib.hid (show R = (none, 3) by rw [h2, trr, touF, if_pos hl])
          have d2 : decide ((1024 : Int) < (out.length : Int)) = true := decide_eq_true (by omega)
          clear h1 h2 hl
          go_wp2
          go_ret2
          rw [HR2.out]
          exact ⟨none, 0, rfl, World.ownsRow_nil _ _ _ _, HBE.out⟩
        · have HR2 := Lib.hid (show R = (some out, 0) by rw [h2, trr, touF, if_neg hl])
          have d2 : decide ((1024 : Int) < (out.length : Int)) = false := decide_eq_false (by omega)
          clear h1 h2 hl
          go_wp2
          go_ret2
          rw [HR2.out]
          exact ⟨A7, c7, rfl, HO.out.lower (by have := HBE.out.size; have := HB1.out.size; omega), HBE.out⟩
  · unfold tourR at hR
    rw [if_neg hv] at hR
    have HR := Lib.hid hR
    obtain ⟨E, hE⟩ : ∃ E, E = vld i st nx ot := ⟨_, rfl⟩
    have HE := Lib.hid hE
    rw [← hE] at hv
    clear hR hE hB
    have hne : (E != 0) = true := by simpa using hv
    go_enter Try.func21, Try.ntmps21
    go_wp2_with fail
    refine (pvalid _ _ _ _ _ _ _ _ _ _ _ (hx.below hb0) (ho.below hb0)).mono ?_
    rintro e w1 ⟨rfl, b1⟩
    rw [← HE.out]
    clear hv
    go_wp2
    go_ret2
    rw [HR.out, ← HE.out]
    exact ⟨none, 0, rfl, World.ownsRow_nil _ _ _ _, bt hb0 b1⟩
end Go.Proofs.Ytedcdpmflcegbaa
end

section
/- Same of the reference of cover. -/
namespace Go.Proofs.Ytedcdpmflcegbaa
open Go.RowKit

set_option maxHeartbeats 4000000 in
theorem rsame10 (A B : Option Addr) (n c m d : Nat) (xs ys : List (List Int)) (b : Bool) (w : World) (hx : Lists w A n xs) (hy : Lists w B m ys) (hb : b = decide (xs = ys)) :
    Calls Try.prog 18 #[.slice A n c, .slice B m d] w fun e w' => e = .returned (.bool b) ∧ ∃ q, w' = w.drewN q := by
  have L1 := Lib.hid hx.1
  have L2 := Lib.hid hy.1
  have hn := hx.2.1
  have hm := hy.2.1
  by_cases hnm : n = m
  · subst hnm
    have HB := Lib.hid hb
    clear hb
    go_enter Try.func18, Try.ntmps18
    go_wp2
    go_loopw [5] (fun i wr => ∃ j : Nat, j ≤ n ∧ i = .int .i64 j ∧ AgreeL [] xs ys j ∧ ∃ q, wr = w.drewN q) (fun i _ => n - (intOf i).toNat)
    case atStart => exact ⟨0, Nat.zero_le _, rfl, AgreeL.zero _ _ _, 0, rfl⟩
    case round =>
      obtain ⟨j, hj, rfl, heq, hw⟩ := hrel
      have hx' : Lists wr A n xs := by obtain ⟨q, rfl⟩ := hw; exact hx
      have hy' : Lists wr B n ys := by obtain ⟨q, rfl⟩ := hw; exact hy
      have HW := Lib.hid hw
      clear hw
      have HE := Lib.hid heq
      clear heq
      by_cases hlt : j < n
      · obtain ⟨g1, o1, A1, n1, c1, rfl, _, hc1, hi1⟩ := hx'.at_ hlt
        obtain ⟨g2, o2, A2, n2, c2, rfl, _, hc2, hi2⟩ := hy'.at_ hlt
        have l1 := hi1.1
        have l2 := hi2.1
        have b1 := hi1.2.1
        by_cases hnn : n1 = n2
        · subst hnn
          have M1 := Lib.hid l1
          have M2 := Lib.hid l2
          have hd : ((n1 : Int) != (n1 : Int)) = false := by simp
          clear l1 l2
          go_wp2
          go_quiet (fail)
          go_wp2
          have HW2 := Lib.hid (drew_more HW.out nq)
          have hx2 : Lists (wr.drewN nq) (some ⟨g1, o1, none⟩) n xs := hx'
          have hy2 : Lists (wr.drewN nq) (some ⟨g2, o2, none⟩) n ys := hy'
          clear hc1 hc2 hi1 hi2 hx' hy'
          generalize wr.drewN nq = w2 at HW2 hx2 hy2 ⊢
          go_loopw [6] (fun v6 wq => ∃ k : Nat, k ≤ n1 ∧ v6 = .int .i64 k ∧ AgreeL 0 (xs.getD j []) (ys.getD j []) k ∧ ∃ q, wq = w2.drewN q) (fun v6 _ => n1 - (intOf v6).toNat)
          case atStart => exact ⟨0, Nat.zero_le _, rfl, AgreeL.zero _ _ _, 0, rfl⟩
          case round =>
            obtain ⟨k, hk, rfl, hag, hw2⟩ := hrel
            have hx3 : Lists wr (some ⟨g1, o1, none⟩) n xs := by obtain ⟨q, rfl⟩ := hw2; exact hx2
            have hy3 : Lists wr (some ⟨g2, o2, none⟩) n ys := by obtain ⟨q, rfl⟩ := hw2; exact hy2
            have HW3 := Lib.hid hw2
            have HW4 := Lib.hid (show ∃ q, wr = w.drewN q by
              obtain ⟨q, rfl⟩ := hw2
              exact drew_more HW2.out q)
            have HAG := Lib.hid hag
            clear hw2 hag
            obtain ⟨g3, o3, A3, n3, c3, e3, _, hc1, hi1⟩ := hx3.at_ hlt
            cases e3
            obtain ⟨g4, o4, A4, n4, c4, e4, _, hc2, hi2⟩ := hy3.at_ hlt
            cases e4
            have r1 := hi1.1
            have r2 := hi2.1
            rw [M1.out] at r1
            rw [M2.out] at r2
            subst r1
            subst r2
            by_cases hlk : k < n1
            · obtain ⟨g5, o5, e5, _, x1⟩ := hi1.at_ hlk
              obtain ⟨g6, o6, e6, _, x2⟩ := hi2.at_ hlk
              subst e5
              subst e6
              by_cases he : (xs.getD j []).getD k 0 = (ys.getD j []).getD k 0
              · have HNX := Lib.hid (HAG.out.succ he)
                have hd2 : (((xs.getD j []).getD k 0 : Int) != (ys.getD j []).getD k 0) = false := by rw [he]; simp
                generalize (xs.getD j []).getD k 0 = y1 at x1 hd2
                generalize (ys.getD j []).getD k 0 = y2 at x2 hd2
                clear he
                go_wp2
                go_quiet (fail)
                go_wp2
                go_roundw
                case rel => exact ⟨k + 1, by omega, by go_num, HNX.out, drew_more HW3.out _⟩
                case measure => simp [intOf]; omega
              · have hfin : Hid (b = false) := Lib.hid (HB.out.trans (decide_eq_false fun e => he (by rw [e])))
                have hd2 : (((xs.getD j []).getD k 0 : Int) != (ys.getD j []).getD k 0) = true := by simpa using he
                generalize (xs.getD j []).getD k 0 = y1 at x1 hd2
                generalize (ys.getD j []).getD k 0 = y2 at x2 hd2
                clear he
                go_wp2
                go_quiet (fail)
                go_wp2
                go_ret
                exact ⟨ret_bool hfin.out.symm, by first | exact drew_more HW4.out _ | exact HW4.out⟩
            · obtain rfl : k = n1 := by omega
              have HNX := Lib.hid (HE.out.succ (HAG.out.all M1.out M2.out))
              go_wp2
              go_roundw
              case rel => exact ⟨j + 1, by omega, by go_num, HNX.out, HW4.out⟩
              case measure => simp [intOf]; omega
        · have hfin : Hid (b = false) := Lib.hid (HB.out.trans (decide_eq_false fun e => hnn (by rw [← l1, ← l2, e])))
          have hd : ((n1 : Int) != (n2 : Int)) = true := by simp; omega
          clear hnn
          go_wp2
          go_quiet (fail)
          go_wp2
          go_ret
          exact ⟨ret_bool hfin.out.symm, by first | exact drew_more HW.out _ | exact HW.out⟩
      · obtain rfl : j = n := by omega
        have hfin : Hid (b = true) := Lib.hid (HB.out.trans (decide_eq_true (HE.out.all L1.out L2.out)))
        go_wp2
        go_ret
        exact ⟨ret_bool hfin.out.symm, by first | exact drew_more HW.out _ | exact HW.out⟩
  · have hfin : Hid (b = false) := Lib.hid (hb.trans (decide_eq_false fun e => hnm (by rw [← L1.out, ← L2.out, e])))
    have hd : ((n : Int) != (m : Int)) = true := by simp; omega
    clear hnm hb
    go_enter Try.func18, Try.ntmps18
    go_wp2
    go_ret
    exact ⟨ret_bool hfin.out.symm, 0, rfl⟩

end Go.Proofs.Ytedcdpmflcegbaa
end

section
/- Rows of headers that a call owns, each with what it reads as; append of headers. -/
namespace Go.Proofs.Ytedcdpmflcegbaa
open Go.RowKit

/-- A header and the list that it reads as. -/
abbrev HL := Value × List Int
/-- The slice value v is a row of the headers of ps in a block from base on, which the call may write. -/
def HRow (w : World) (base : Nat) (v : Value) (ps : List HL) : Prop := w.ownsRow base 27 1 v ps.length (ps.map Prod.fst) ∧ ∀ p, p ∈ ps → ∃ A n c, p.1 = .slice A n c
/-- The header p reads as its list, in a block below top. -/
def InAt (w : World) (top : Nat) (p : HL) : Prop := ∃ A n c, p.1 = .slice A n c ∧ Ints w A n p.2 ∧ n ≤ c ∧ ∀ a, A = some a → 0 < n → a.block < top
/-- The slice '.slice A n _' holds the headers of ps. -/
def Hds (w : World) (A : Option Addr) (n : Nat) (ps : List HL) : Prop :=
  ps.length = n ∧ n ≤ 17592186044416 ∧ (0 < n → ∃ b off, A = some ⟨b, off, none⟩ ∧ b < w.heap.size ∧ ∀ j p, ps[j]? = some p → w.cell? ⟨b, off + j, none⟩ = some p.1) ∧ ∀ p, p ∈ ps → ∃ A n c, p.1 = .slice A n c

theorem InAt.below {w w' : World} {top : Nat} {p : HL} (h : InAt w top p) (hb : Below w.heap.size w w') : InAt w' top p := by
  obtain ⟨A, n, c, e, hi, hc, ht⟩ := h
  exact ⟨A, n, c, e, hi.below hb, hc, ht⟩
theorem InAt.mono {w : World} {top top' : Nat} {p : HL} (h : InAt w top p) (hb : top ≤ top') : InAt w top' p := by
  obtain ⟨A, n, c, e, hi, hc, ht⟩ := h
  exact ⟨A, n, c, e, hi, hc, fun a ha hn => Nat.lt_of_lt_of_le (ht a ha hn) hb⟩
/-- What lies below top reads as before where what lies there is as before. -/
theorem InAt.on {w w' : World} {top : Nat} {p : HL} (h : InAt w top p) (hb : Below top w w') : InAt w' top p := by
  obtain ⟨A, n, c, e, hi, hnc, ht⟩ := h
  refine ⟨A, n, c, e, ⟨hi.1, hi.2.1, fun hn => ?_⟩, hnc, ht⟩
  obtain ⟨b, off, rfl, hlt, hc⟩ := hi.2.2 hn
  have hbt : b < top := ht _ rfl hn
  refine ⟨b, off, rfl, ?_, fun j hj => (hb.cell (p := ⟨b, off + j, none⟩) hbt).trans (hc j hj)⟩
  have h0 := (hb.cell (p := ⟨b, off + 0, none⟩) hbt).trans (hc 0 hn)
  exact block_lt h0
theorem Hds.below {w w' : World} {A : Option Addr} {n : Nat} {ps : List HL} (h : Hds w A n ps) (hb : Below w.heap.size w w') : Hds w' A n ps :=
  ⟨h.1, h.2.1, fun hn => by
    obtain ⟨b, off, e, hlt, hc⟩ := h.2.2.1 hn
    exact ⟨b, off, e, Nat.lt_of_lt_of_le hlt hb.size, fun j p hp => (hb.cell hlt).trans (hc j p hp)⟩, h.2.2.2⟩
theorem Hds.at_ {w : World} {A : Option Addr} {n : Nat} {ps : List HL} (h : Hds w A n ps) {k : Nat} (hk : k < n) :
    ∃ b off B m d xs, A = some ⟨b, off, none⟩ ∧ b < w.heap.size ∧ ps[k]? = some (.slice B m d, xs) ∧ w.cell? ⟨b, off + k, none⟩ = some (.slice B m d) := by
  obtain ⟨b, off, e, hlt, hc⟩ := h.2.2.1 (by omega)
  have hl := h.1
  have hp : ps[k]? = some ps[k] := List.getElem?_eq_getElem (by omega)
  obtain ⟨B, m, d, e2⟩ := h.2.2.2 ps[k] (List.getElem_mem _)
  refine ⟨b, off, B, m, d, ps[k].2, e, hlt, ?_, ?_⟩
  · rw [hp, ← e2]
  · rw [hc k _ hp, e2]
/-- The slice '.slice A n _' holds the lists xss, none longer than its capacity. -/
def ListsC (w : World) (A : Option Addr) (n : Nat) (xss : List (List Int)) : Prop :=
  xss.length = n ∧ n ≤ 17592186044416 ∧ (0 < n → ∃ b off, A = some ⟨b, off, none⟩ ∧ b < w.heap.size ∧
    ∀ j, j < n → ∃ Aj nj cj, w.cell? ⟨b, off + j, none⟩ = some (.slice Aj nj cj) ∧ nj ≤ cj ∧ Ints w Aj nj (xss.getD j []))
theorem ListsC.lists {w : World} {A : Option Addr} {n : Nat} {xss : List (List Int)} (h : ListsC w A n xss) : Lists w A n xss :=
  ⟨h.1, h.2.1, fun hn => by
    obtain ⟨b, off, e, hlt, hc⟩ := h.2.2 hn
    refine ⟨b, off, e, hlt, fun j hj => ?_⟩
    obtain ⟨Aj, nj, cj, h1, _, h2⟩ := hc j hj
    exact ⟨Aj, nj, cj, h1, h2⟩⟩
theorem ListsC.below {w w' : World} {A : Option Addr} {n : Nat} {xss : List (List Int)} (h : ListsC w A n xss) (hb : Below w.heap.size w w') : ListsC w' A n xss :=
  ⟨h.1, h.2.1, fun hn => by
    obtain ⟨b, off, e, hlt, hc⟩ := h.2.2 hn
    refine ⟨b, off, e, Nat.lt_of_lt_of_le hlt hb.size, fun j hj => ?_⟩
    obtain ⟨Aj, nj, cj, h1, h0, h2⟩ := hc j hj
    exact ⟨Aj, nj, cj, (hb.cell hlt).trans h1, h0, h2.below hb⟩⟩
theorem ListsC.at_ {w : World} {A : Option Addr} {n : Nat} {xss : List (List Int)} (h : ListsC w A n xss) {k : Nat} (hk : k < n) :
    ∃ b off Aj nj cj, A = some ⟨b, off, none⟩ ∧ b < w.heap.size ∧ w.cell? ⟨b, off + k, none⟩ = some (.slice Aj nj cj) ∧ nj ≤ cj ∧ Ints w Aj nj (xss.getD k []) := by
  obtain ⟨b, off, e, hlt, hc⟩ := h.2.2 (by omega)
  obtain ⟨Aj, nj, cj, h1, h0, h2⟩ := hc k hk
  exact ⟨b, off, Aj, nj, cj, e, hlt, h1, h0, h2⟩
theorem ListsC.len {w : World} {A : Option Addr} {n : Nat} {xss : List (List Int)} (h : ListsC w A n xss) : ∀ x, x ∈ xss → x.length ≤ 17592186044416 := fun x hx => by
  obtain ⟨j, hj, rfl⟩ := List.getElem_of_mem hx
  obtain ⟨_, _, Aj, nj, cj, _, _, _, _, hi⟩ := h.at_ (k := j) (by rw [← h.1]; exact hj)
  have e : xss.getD j [] = xss[j] := by rw [List.getD_eq_getElem?_getD, List.getElem?_eq_getElem hj]; rfl
  rw [e] at hi
  rw [hi.1]; exact hi.2.1
/-- The headers of a list of lists. -/
theorem ListsC.hds {w : World} {A : Option Addr} {n : Nat} {xss : List (List Int)} (h : ListsC w A n xss) : ∃ ps : List HL, ps.map Prod.snd = xss ∧ Hds w A n ps ∧ ∀ p, p ∈ ps → InAt w w.heap.size p := by
  rcases Nat.eq_zero_or_pos n with h0 | h0
  · have hx : xss = [] := List.eq_nil_of_length_eq_zero (by rw [h.1, h0])
    subst hx
    exact ⟨[], rfl, ⟨by simp [h0], h.2.1, fun hn => absurd hn (by omega), fun p hp => absurd hp (by simp)⟩, fun p hp => absurd hp (by simp)⟩
  · obtain ⟨b, off, e, hlt, hc⟩ := h.2.2 h0
    have hex : ∀ j, ∃ p : HL, j < n → p.2 = xss.getD j [] ∧ w.cell? ⟨b, off + j, none⟩ = some p.1 ∧ InAt w w.heap.size p := fun j => by
      by_cases hj : j < n
      · obtain ⟨Aj, nj, cj, h1, h0, h2⟩ := hc j hj
        refine ⟨(.slice Aj nj cj, xss.getD j []), fun _ => ⟨rfl, h1, Aj, nj, cj, rfl, h2, h0, fun a ha hn => ?_⟩⟩
        obtain ⟨b', o', e', hlt', _⟩ := h2.2.2 hn
        rw [ha] at e'
        cases e'
        exact hlt'
      · exact ⟨default, fun h => absurd h hj⟩
    have hex2 := hex
    obtain ⟨f, hf⟩ : ∃ f : Nat → HL, ∀ j, j < n → (f j).2 = xss.getD j [] ∧ w.cell? ⟨b, off + j, none⟩ = some (f j).1 ∧ InAt w w.heap.size (f j) :=
      ⟨fun j => Classical.choose (hex2 j), fun j => Classical.choose_spec (hex2 j)⟩
    have hget : ∀ j p, ((List.range n).map f)[j]? = some p → j < n ∧ p = f j := fun j p hp => by
      rw [List.getElem?_map] at hp
      cases hr : (List.range n)[j]? with
      | none => rw [hr] at hp; simp at hp
      | some q =>
        rw [hr] at hp
        have hq := List.getElem?_eq_some_iff.1 hr
        obtain ⟨hq1, hq2⟩ := hq
        simp at hq1 hq2
        subst hq2
        simp at hp
        exact ⟨hq1, hp.symm⟩
    have hmem : ∀ p, p ∈ (List.range n).map f → ∃ j, j < n ∧ p = f j := fun p hp => by
      obtain ⟨j, hj, rfl⟩ := List.mem_map.1 hp
      exact ⟨j, List.mem_range.1 hj, rfl⟩
    refine ⟨(List.range n).map f, ?_, ⟨by simp, h.2.1, fun _ => ⟨b, off, e, hlt, fun j p hp => ?_⟩, fun p hp => ?_⟩, fun p hp => ?_⟩
    · apply List.ext_getElem
      · simp [h.1]
      · intro j h1 h2
        simp at h1
        have := (hf j h1).1
        simp [this, List.getD, List.getElem?_eq_getElem h2]
    · obtain ⟨hj, rfl⟩ := hget j p hp
      exact (hf j hj).2.1
    · obtain ⟨j, hj, rfl⟩ := hmem p hp
      obtain ⟨A, n, c, e, _⟩ := (hf j hj).2.2
      exact ⟨A, n, c, e⟩
    · obtain ⟨j, hj, rfl⟩ := hmem p hp
      exact (hf j hj).2.2

theorem HRow.nil (w : World) (base : Nat) : HRow w base (.slice none 0 0) [] := ⟨World.ownsRow_nil _ _ _ _, fun p hp => absurd hp (by simp)⟩
theorem HRow.form {w : World} {base : Nat} {v : Value} {ps : List HL} (h : HRow w base v ps) : ∃ A c, v = .slice A ps.length c := by
  rcases h.1.2 with ⟨rfl, h0⟩ | ⟨g, cap, cur, rfl, _⟩
  · exact ⟨none, 0, by rw [h0]⟩
  · exact ⟨_, _, rfl⟩
theorem HRow.lt {w : World} {base : Nat} {v : Value} {ps : List HL} (h : HRow w base v ps) : ∀ k, v.ownBlock = some k → base ≤ k ∧ k < w.heap.size := World.ownsRow.lt h.1
theorem HRow.kept {w w' : World} {base : Nat} {v : Value} {ps : List HL} (h : HRow w base v ps) (hb : Below w.heap.size w w') : HRow w' base v ps := by
  refine ⟨⟨h.1.1, ?_⟩, h.2⟩
  rcases h.1.2 with e | ⟨g, cap, cur, hv, hbg, hg, r⟩
  · exact .inl e
  · exact .inr ⟨g, cap, cur, hv, hbg, (hb.block g (heap_lt hg)).trans hg, r⟩
theorem HRow.lower {w : World} {base base' : Nat} {v : Value} {ps : List HL} (h : HRow w base v ps) (hb : base' ≤ base) : HRow w base' v ps := by
  refine ⟨⟨h.1.1, ?_⟩, h.2⟩
  rcases h.1.2 with e | ⟨g, cap, cur, hv, hbg, r⟩
  · exact .inl e
  · exact .inr ⟨g, cap, cur, hv, by omega, r⟩
theorem HRow.hds {w : World} {base : Nat} {A : Option Addr} {n c : Nat} {ps : List HL} (h : HRow w base (.slice A n c) ps) (hm : ps.length ≤ 17592186044416) : Hds w A n ps := by
  have hn : n = ps.length := by obtain ⟨A', c', e⟩ := h.form; cases e; rfl
  subst hn
  refine ⟨rfl, hm, fun h0 => ?_, h.2⟩
  rcases h.1.2 with ⟨e, h1⟩ | ⟨g, cap, cur, e, _, hg, _⟩
  · omega
  · cases e
    refine ⟨g, 0, rfl, heap_lt hg, fun j p hp => ?_⟩
    have hj : j < ps.length := (List.getElem?_eq_some_iff.1 hp).1
    have h3 := World.ownsRow.cellAt h.1 j (by omega)
    rw [Nat.zero_add, h3, List.getElem?_map, hp]; rfl
/-- A row of headers whose rows read as lists is a list of lists. -/
theorem Hds.lists {w : World} {top : Nat} {A : Option Addr} {n : Nat} {ps : List HL} (h : Hds w A n ps) (hi : ∀ p, p ∈ ps → InAt w top p) : ListsC w A n (ps.map Prod.snd) := by
  refine ⟨by rw [List.length_map]; exact h.1, h.2.1, fun h0 => ?_⟩
  obtain ⟨b, off, e, hlt, hc⟩ := h.2.2.1 h0
  refine ⟨b, off, e, hlt, fun j hj => ?_⟩
  have hl := h.1
  have hp : ps[j]? = some ps[j] := List.getElem?_eq_getElem (by omega)
  obtain ⟨B, m, d, e2, h2, h0, _⟩ := hi ps[j] (List.getElem_mem _)
  refine ⟨B, m, d, by rw [hc j _ hp, e2], h0, ?_⟩
  have : (ps.map Prod.snd).getD j [] = ps[j].2 := by rw [List.getD_eq_getElem?_getD, List.getElem?_map, hp]; rfl
  rw [this]; exact h2
theorem Hds.in_at {w : World} {A : Option Addr} {n : Nat} {ps : List HL} (h : Hds w A n ps) {top : Nat} (hi : ∀ p, p ∈ ps → InAt w top p) {k : Nat} (hk : k < n) :
    ∃ b off B m d, A = some ⟨b, off, none⟩ ∧ b < w.heap.size ∧ ps[k]? = some (.slice B m d, (ps.map Prod.snd).getD k []) ∧ w.cell? ⟨b, off + k, none⟩ = some (.slice B m d) ∧ m ≤ d ∧ Ints w B m ((ps.map Prod.snd).getD k []) ∧ InAt w top (.slice B m d, (ps.map Prod.snd).getD k []) := by
  obtain ⟨b, off, B, m, d, xs, e, hlt, hp, hc⟩ := h.at_ hk
  have hx : (ps.map Prod.snd).getD k [] = xs := by rw [List.getD_eq_getElem?_getD, List.getElem?_map, hp]; rfl
  rw [hx]
  have hin := hi _ (List.mem_of_getElem? hp)
  have h3 := hin
  obtain ⟨B', m', d', e2, h2, h0, _⟩ := h3
  cases e2
  exact ⟨b, off, B, m, d, e, hlt, hp, hc, h0, h2, hin⟩

/-- append(v, ys...) of headers onto a row of headers. -/
theorem run_append_heads {w : World} {base : Nat} {v : Value} {ps qs : List HL} {A : Option Addr} {m c : Nat} (h : HRow w base v ps) (hy : Hds w A m qs) (hbase : base ≤ w.heap.size) (hlen : (ps ++ qs).length ≤ 1759218604441) :
    ∃ v' w', (Builtin.append_ #[22, 22] 22 #[v, .slice A m c]).run Try.prog w = .ok v' w' ∧ HRow w' base v' (ps ++ qs) ∧ w.grownBy w' v.ownBlock ∧ Below base w w' := by
  obtain ⟨i, hi, hz0, hz1, hz2⟩ := info_parts infol
  have hsplit : ∀ k, v.ownBlock = some k → base ≤ k := fun k hk => (h.lt k hk).1
  have hforms : ∀ p, p ∈ ps ++ qs → ∃ A n c, p.1 = .slice A n c := fun p hp => by
    rcases List.mem_append.1 hp with hp | hp
    · exact h.2 p hp
    · exact hy.2.2.2 p hp
  rcases Nat.eq_zero_or_pos m with h0 | h0
  · have hys : qs = [] := List.eq_nil_of_length_eq_zero (by rw [hy.1, h0])
    subst h0 hys
    cases A with
    | none =>
      refine ⟨v, w, ?_, by simpa using h, World.grownBy.refl w _, Below.refl _ _⟩
      rcases h.1.2 with ⟨rfl, _⟩ | ⟨g, cap, cur, rfl, _, _, hnc, _⟩
      · simp [Builtin.append_, run_underlying Try.underlying22, sizeOf, typeInfo, hi, Builtin.lenOf, Builtin.firstCells]
      · simp [Builtin.append_, run_underlying Try.underlying22, sizeOf, typeInfo, hi, Builtin.lenOf, Builtin.firstCells, hnc, storeCells]
    | some a =>
      obtain ⟨v', w', hr, h1, h2, _⟩ := run_append_own (P := Try.prog) w base 22 22 27 i (.slice none 0 0) 1 24 Try.underlying22 hi hz0 hz1 hz2 rfl (by decide) v _ _ h.1 a 0 c [] (by simp) (by simp) (by simp)
        (by simp at hlen; unfold maxLen; omega) (by simp at hlen; omega) hbase
      exact ⟨v', w', hr, ⟨by simpa using h1, hforms⟩, h2, (Below.refl _ _).grown h2 hbase hsplit⟩
  · obtain ⟨b, off, rfl, hb, hc⟩ := hy.2.2.1 h0
    have hql := hy.1
    obtain ⟨v', w', hr, h1, h2, _⟩ := run_append_own (P := Try.prog) w base 22 22 27 i (.slice none 0 0) 1 24 Try.underlying22 hi hz0 hz1 hz2 rfl (by decide) v _ _ h.1 ⟨b, off, none⟩ m c (qs.map Prod.fst)
      (by simp [hql])
      (by
        intro j u hu
        rw [List.getElem?_map] at hu
        cases hq : qs[j]? with
        | none => rw [hq] at hu; simp at hu
        | some p =>
          rw [hq] at hu
          simp at hu
          subst hu
          rw [show (⟨b, off, none⟩ : Addr).add j = ⟨b, off + j, none⟩ by unfold Addr.add; split <;> simp_all]
          exact hc j p hq)
      (by
        intro u hu
        obtain ⟨p, hp, rfl⟩ := List.mem_map.1 hu
        obtain ⟨A, n, c, e⟩ := hy.2.2.2 p hp
        rw [e]; rfl)
      (by rw [List.length_append] at hlen; rw [← hql]; unfold maxLen; omega) (by rw [List.length_append] at hlen; rw [← hql]; omega) hbase
    refine ⟨v', w', hr, ⟨?_, hforms⟩, h2, (Below.refl _ _).grown h2 hbase hsplit⟩
    rw [List.length_append, List.map_append, hql]
    exact h1

/-- append(v, x) of one header. -/
theorem run_append_head {w : World} {base : Nat} {v : Value} {ps : List HL} {B : Option Addr} {m d : Nat} (h : HRow w base v ps) (xs : List Int) (hbase : base ≤ w.heap.size) (hl : ps.length < 1759218604441) :
    ∃ A c w', (Builtin.append_ #[22, 22] 22 #[v, .slice (some ⟨w.heap.size, 0, none⟩) 1 1]).run Try.prog (w.alloc (.cells #[.slice B m d] 27)) = .ok (.slice A (ps.length + 1) c) w' ∧
      HRow w' base (.slice A (ps.length + 1) c) (ps ++ [(.slice B m d, xs)]) ∧ w.grownBy w' v.ownBlock ∧ Below base w w' := by
  have hbz := alloc_below w (.cells #[.slice B m d] 27)
  have hd : Hds (w.alloc (.cells #[.slice B m d] 27)) (some ⟨w.heap.size, 0, none⟩) 1 [(.slice B m d, xs)] := by
    refine ⟨rfl, by omega, fun _ => ⟨w.heap.size, 0, rfl, by simp, fun j p hp => ?_⟩, fun p hp => ?_⟩
    · cases j with
      | zero =>
        simp at hp
        subst hp
        have := cell_of_row (w.alloc (.cells #[.slice B m d] 27)) w.heap.size 0 #[.slice B m d] 27 (0, 0) (heap_alloc_new w _)
        rw [Nat.zero_add, this]; rfl
      | succ j => simp at hp
    · simp at hp; subst hp; exact ⟨B, m, d, rfl⟩
  obtain ⟨v', w', hr, h1, h2, h3⟩ := run_append_heads (c := 1) (h.kept hbz) hd (Nat.le_trans hbase hbz.size) (by simp; omega)
  obtain ⟨A, c, e⟩ := h1.form
  rw [List.length_append] at e
  subst e
  refine ⟨A, c, w', hr, h1, ?_, (hbz.mono hbase).trans h3⟩
  exact ⟨h2.os, h2.tape, h2.output, Nat.le_trans hbz.size h2.size, fun k hk hne => (h2.block k (Nat.lt_of_lt_of_le hk hbz.size) hne).trans (hbz.block k hk)⟩
end Go.Proofs.Ytedcdpmflcegbaa
end

section
/- Lists of words that literals make. -/
namespace Go.Proofs.Ytedcdpmflcegbaa
open Go.RowKit

/-- The words' cells, one block each. -/
def litA (W : World) : List (List Int) → World
  | [] => W
  | x :: r => litA (W.alloc (.cells (lit x) 3)) r
/-- Their headers, from block b on. -/
def litH (b : Nat) : List (List Int) → List Value
  | [] => []
  | x :: r => .slice (some ⟨b, 0, none⟩) x.length x.length :: litH (b + 1) r
/-- The world with the list's own cells. -/
def litL (W : World) (b : Nat) (xss : List (List Int)) : World := (litA W xss).alloc (.cells (litH b xss).toArray 27)
theorem litA_below (W : World) (xss : List (List Int)) : Below W.heap.size W (litA W xss) := by
  induction xss generalizing W with
  | nil => exact Below.refl _ _
  | cons x r ih => exact (alloc_below W _).trans ((ih _).mono (by simp))
theorem litA_size (W : World) (xss : List (List Int)) : (litA W xss).heap.size = W.heap.size + xss.length := by
  induction xss generalizing W with
  | nil => rfl
  | cons x r ih =>
    show (litA (W.alloc (.cells (lit x) 3)) r).heap.size = _
    rw [ih]; simp; omega
theorem litH_len (b : Nat) (xss : List (List Int)) : (litH b xss).length = xss.length := by
  induction xss generalizing b with
  | nil => rfl
  | cons x r ih => simp [litH, ih]
theorem litH_get (b : Nat) (xss : List (List Int)) (j : Nat) (hj : j < xss.length) : (litH b xss)[j]? = some (.slice (some ⟨b + j, 0, none⟩) (xss.getD j []).length (xss.getD j []).length) := by
  induction xss generalizing b j with
  | nil => simp at hj
  | cons x r ih =>
    cases j with
    | zero => simp [litH]
    | succ j =>
      have := ih (b + 1) j (by simpa using hj)
      simp only [litH, List.getElem?_cons_succ, this]
      rw [show b + 1 + j = b + (j + 1) by omega]
      simp
theorem litA_ints (W : World) (xss : List (List Int)) (j : Nat) (hj : j < xss.length) (hl : ∀ x, x ∈ xss → x.length ≤ 1000) : Ints (litA W xss) (some ⟨W.heap.size + j, 0, none⟩) (xss.getD j []).length (xss.getD j []) := by
  induction xss generalizing W j with
  | nil => simp at hj
  | cons x r ih =>
    cases j with
    | zero =>
      have h := Ints.new W x (lit x) x.length rfl rfl (by have := hl x List.mem_cons_self; omega)
      have hb := litA_below (W.alloc (.cells (lit x) 3)) r
      exact h.below hb
    | succ j =>
      have := ih (W.alloc (.cells (lit x) 3)) j (by simpa using hj) (fun y hy => hl y (List.mem_cons_of_mem _ hy))
      have e : (W.alloc (.cells (lit x) 3)).heap.size + j = W.heap.size + (j + 1) := by simp; omega
      rw [e] at this
      show Ints (litA (W.alloc (.cells (lit x) 3)) r) _ ((x :: r).getD (j + 1) []).length ((x :: r).getD (j + 1) [])
      simpa using this
theorem litL_below (W : World) (b : Nat) (xss : List (List Int)) : Below W.heap.size W (litL W b xss) := (litA_below W xss).trans ((alloc_below _ _).mono (litA_below W xss).size)
theorem litL_size (W : World) (b : Nat) (xss : List (List Int)) : (litL W b xss).heap.size = W.heap.size + xss.length + 1 := by
  show ((litA W xss).alloc _).heap.size = _
  simp [litA_size]
theorem litL_lists (W : World) (b : Nat) (xss : List (List Int)) (n : Nat) (hb : W.heap.size = b) (hn : n = xss.length) (hl : ∀ x, x ∈ xss → x.length ≤ 1000) (hm : xss.length ≤ 1000) : ListsC (litL W b xss) (some ⟨b + n, 0, none⟩) n xss := by
  subst hn hb
  have hb := alloc_below (litA W xss) (.cells (litH W.heap.size xss).toArray 27)
  refine ⟨rfl, by omega, fun _ => ⟨W.heap.size + xss.length, 0, rfl, ?_, fun j hj => ?_⟩⟩
  · show W.heap.size + xss.length < ((litA W xss).alloc _).heap.size
    simp [litA_size]
  · refine ⟨_, _, _, ?_, Nat.le_refl _, (litA_ints W xss j hj hl).below hb⟩
    have := cell_of_row (litL W W.heap.size xss) (W.heap.size + xss.length) j (litH W.heap.size xss).toArray 27 (0, 0) (by
      have := heap_alloc_new (litA W xss) (.cells (litH W.heap.size xss).toArray 27)
      rw [litA_size] at this
      exact this)
    rw [Nat.zero_add, this]
    simpa using litH_get W.heap.size xss j hj
end Go.Proofs.Ytedcdpmflcegbaa
end

section
/- The reference: Equal. -/
namespace Go.Proofs.Ytedcdpmflcegbaa
open Go.RowKit

set_option maxHeartbeats 1000000 in
theorem requal (A B : Option Addr) (n c m d : Nat) (xs ys : List Int) (b : Bool) (w : World) (hx : Ints w A n xs) (hy : Ints w B m ys) (hb : b = decide (xs = ys)) :
    Calls Try.prog 17 #[.slice A n c, .slice B m d] w fun e w' => e = .returned (.bool b) ∧ ∃ q, w' = w.drewN q := by
  have L1 := Lib.hid hx.1
  have L2 := Lib.hid hy.1
  have hn := hx.2.1
  have hm := hy.2.1
  by_cases hnm : n = m
  · subst hnm
    have HB := Lib.hid hb
    clear hb
    go_enter Try.func17, Try.ntmps17
    go_wp2
    go_loopw [5] (fun i wr => ∃ j q : Nat, j ≤ n ∧ i = .int .i64 j ∧ AgreeL 0 xs ys j ∧ wr = w.drewN q) (fun i _ => n - (intOf i).toNat)
    case atStart => exact ⟨0, 0, Nat.zero_le _, rfl, AgreeL.zero _ _ _, rfl⟩
    case round =>
      obtain ⟨j, q, hj, rfl, heq, rfl⟩ := hrel
      have HE := Lib.hid heq
      clear heq
      by_cases hlt : j < n
      · obtain ⟨g1, o1, rfl, _, hc1⟩ := hx.at_ hlt
        obtain ⟨g2, o2, rfl, _, hc2⟩ := hy.at_ hlt
        by_cases he : xs.getD j 0 = ys.getD j 0
        · have hnx := Lib.hid (HE.out.succ he)
          rw [← he] at hc2
          generalize xs.getD j 0 = y at hc1 hc2
          clear he
          go_wp2
          go_quiet (fail)
          go_wp2
          go_roundw
          case rel => exact ⟨j + 1, _, by omega, by go_num, hnx.out, rfl⟩
          case measure => simp [intOf]; omega
        · have hfin : Hid (b = false) := Lib.hid (HB.out.trans (decide_eq_false fun e => he (by rw [e])))
          have hne : (xs.getD j 0 != ys.getD j 0) = true := by simpa using he
          generalize xs.getD j 0 = y at hc1 hne
          generalize ys.getD j 0 = z at hc2 hne
          clear he
          go_wp2
          go_quiet (fail)
          go_wp2
          go_ret
          exact ⟨ret_bool hfin.out.symm, by first | exact ⟨_, rfl⟩ | exact ⟨_, World.drewN_drewN _ _ _⟩⟩
      · obtain rfl : j = n := by omega
        have hfin : Hid (b = true) := Lib.hid (HB.out.trans (decide_eq_true (HE.out.all L1.out L2.out)))
        go_wp2
        go_ret
        exact ⟨ret_bool hfin.out.symm, by first | exact ⟨_, rfl⟩ | exact ⟨_, World.drewN_drewN _ _ _⟩⟩
  · have hfin : Hid (b = false) := Lib.hid (hb.trans (decide_eq_false fun e => hnm (by rw [← L1.out, ← L2.out, e])))
    have hd : ((n : Int) != (m : Int)) = true := by simp; omega
    clear hnm hb
    go_enter Try.func17, Try.ntmps17
    go_wp2
    go_ret
    exact ⟨ret_bool hfin.out.symm, 0, rfl⟩

end Go.Proofs.Ytedcdpmflcegbaa
end

section
/- What the searches find: Check, Distinguish, Equal, Upto and States. -/
namespace Go.Proofs.Ytedcdpmflcegbaa
open Go.RowKit

/-- The first error of two machines. -/
def chk2 (i1 st1 : Int) (nx1 ot1 : List (List Int)) (i2 st2 : Int) (nx2 ot2 : List (List Int)) : Int := if ¬ vld i1 st1 nx1 ot1 = 0 then vld i1 st1 nx1 ot1 else if ¬ vld i2 st2 nx2 ot2 = 0 then vld i2 st2 nx2 ot2 else if i1 = i2 then 0 else 15
/-- What Distinguish finds. -/
def dres (i1 st1 : Int) (nx1 ot1 : List (List Int)) (i2 st2 : Int) (nx2 ot2 : List (List Int)) : Option (List Int) × Int :=
  if chk2 i1 st1 nx1 ot1 i2 st2 nx2 ot2 = 0 then (dst nx1 ot1 nx2 ot2 i1.toNat nx1.length nx2.length st1.toNat st2.toNat, 0) else (none, chk2 i1 st1 nx1 ot1 i2 st2 nx2 ot2)
/-- What States finds. -/
def sres (i st : Int) (nx ot : List (List Int)) (s t : Int) : Option (List Int) × Int :=
  if ¬ vld i st nx ot = 0 then (none, vld i st nx ot) else if (0 ≤ s ∧ s < (nx.length : Int)) ∧ 0 ≤ t ∧ t < (nx.length : Int) then (dst nx ot nx ot i.toNat nx.length nx.length s.toNat t.toNat, 0) else (none, 2)
theorem chk2_zero {i1 st1 i2 st2 : Int} {nx1 ot1 nx2 ot2 : List (List Int)} (h : chk2 i1 st1 nx1 ot1 i2 st2 nx2 ot2 = 0) : vld i1 st1 nx1 ot1 = 0 ∧ vld i2 st2 nx2 ot2 = 0 ∧ i1 = i2 := by
  unfold chk2 at h
  by_cases h1 : vld i1 st1 nx1 ot1 = 0
  · by_cases h2 : vld i2 st2 nx2 ot2 = 0
    · by_cases h3 : i1 = i2
      · exact ⟨h1, h2, h3⟩
      · rw [if_neg (by simp [h1]), if_neg (by simp [h2]), if_neg h3] at h; omega
    · rw [if_neg (by simp [h1]), if_pos h2] at h; exact absurd h h2
  · rw [if_pos h1] at h; exact absurd h h1
/-- Is there no distinguishing word? -/
def eqb (D : Option (List Int) × Int) : Bool := D.2 == 0 && !D.1.isSome
def upb (D : Option (List Int) × Int) (n : Int) : Bool := D.2 == 0 && (!D.1.isSome || decide (n < ((D.1.getD []).length : Int)))
theorem pair_boxes (w : World) (i1 st1 i2 st2 : Int) (A B C D : Option Addr) (n c m d n2 c2 m2 d2 : Nat) :
    Below w.heap.size w ((w.alloc (.cells #[.int .i64 i1, .int .i64 st1, .slice A n c, .slice B m d] 24)).alloc (.cells #[.int .i64 i2, .int .i64 st2, .slice C n2 c2, .slice D m2 d2] 24)) ∧
    Mblk ((w.alloc (.cells #[.int .i64 i1, .int .i64 st1, .slice A n c, .slice B m d] 24)).alloc (.cells #[.int .i64 i2, .int .i64 st2, .slice C n2 c2, .slice D m2 d2] 24)) w.heap.size (.int .i64 i1) (.int .i64 st1) (.slice A n c) (.slice B m d) ∧
    Mblk ((w.alloc (.cells #[.int .i64 i1, .int .i64 st1, .slice A n c, .slice B m d] 24)).alloc (.cells #[.int .i64 i2, .int .i64 st2, .slice C n2 c2, .slice D m2 d2] 24)) (w.heap.size + 1) (.int .i64 i2) (.int .i64 st2) (.slice C n2 c2) (.slice D m2 d2) := by
  refine ⟨bt (alloc_below _ _) (alloc_below _ _), Mblk.kept (mealy_box w _ _ _ _) (alloc_below _ _) (by simp), ?_⟩
  have := mealy_box (w.alloc (.cells #[.int .i64 i1, .int .i64 st1, .slice A n c, .slice B m d] 24)) (.int .i64 i2) (.int .i64 st2) (.slice C n2 c2) (.slice D m2 d2)
  simpa using this
theorem Mblk.on9 {w w' : World} {g : Nat} {a b c d : Value} (h : Mblk w g a b c d) (hb : Below w.heap.size w w') : Mblk w' g a b c d := h.kept hb (heap_lt h)

end Go.Proofs.Ytedcdpmflcegbaa
end

section
/- The examples of cover. -/
namespace Go.Proofs.Ytedcdpmflcegbaa
open Go.RowKit

def q10O : List (List Int) := [[0, 0], [0, 0], [0, 0]]
def q10m : List (List Int) := [[0, 1], [2, 1], [0, 2]]
def q10n : List (List Int) := [[1, 2], [1, 1], [2, 2]]
theorem q10_1 : accR 2 0 q10m q10O = (exs q10m 2 3 0, 0) := rfl
theorem q10_1s : psL (accR 2 0 q10m q10O).1 = [0, 1, 2] := by decide +kernel
theorem q10_1w : wsL (accR 2 0 q10m q10O).1 = [[], [1], [1, 0]] := by decide +kernel
theorem q10_1l : (accR 2 0 q10m q10O).1.length = 3 := by decide +kernel
theorem q10_1e : (accR 2 0 q10m q10O).2 = 0 := by decide +kernel
theorem q10_2 : trnR 2 0 q10m q10O = [[0], [1], [1, 0], [1, 1], [1, 0, 0], [1, 0, 1]] := by decide +kernel
theorem q10_3 : pthR 2 0 q10m q10O 1 0 = (some [0, 0], 0) := by decide +kernel
theorem q10_4 : pthR 2 0 q10n q10O 1 2 = (none, 0) := by decide +kernel
theorem q10_5 : tourR 2 0 q10m q10O = (some [0, 1, 0, 0, 1, 1, 0, 1], 0) := by decide +kernel
theorem q10_6 : tourR 2 0 q10n q10O = (none, 8) := by decide +kernel
theorem q10_7 : covR 2 0 q10m q10O [[0], [1, 1]] = (2, 3, 0) := by decide +kernel
/-- Equal of a list and a literal that is equal to it. -/
theorem equal_lit10 (w : World) (A : Option Addr) (n c : Nat) (cs : Array Value) (m : Nat) (xs : List Int) (h : Ints w A n xs) (h1 : cs = lit xs) (h2 : m = xs.length) (l1 : xs.length ≤ 1000) :
    Calls Try.prog 17 #[.slice A n c, .slice (some ⟨w.heap.size, 0, none⟩) m m] (w.alloc (.cells cs 3)) fun e w' => e = .returned (.bool true) ∧ Below w.heap.size w w' := by
  refine (requal _ _ _ _ _ _ xs xs true _ (h.below (alloc_below w _)) (Ints.new w xs cs m h1 h2 (by omega)) (by simp)).mono ?_
  rintro e w' ⟨rfl, hq⟩
  exact ⟨rfl, (alloc_below w _).trans ((rd_below hq).mono (by simp))⟩
theorem same_lit10 (w : World) (A : Option Addr) (n c : Nat) (xss : List (List Int)) (W : World) (g m : Nat) (h : Lists w A n xss) (hW : W = litL w w.heap.size xss) (hg : g = w.heap.size + xss.length) (hm : m = xss.length) (hl : ∀ x, x ∈ xss → x.length ≤ 1000) (hl2 : xss.length ≤ 1000) :
    Calls Try.prog 18 #[.slice A n c, .slice (some ⟨g, 0, none⟩) m m] W fun e w' => e = .returned (.bool true) ∧ Below w.heap.size w w' := by
  subst hW hg hm
  have hb := litL_below w w.heap.size xss
  refine (rsame10 _ _ _ _ _ _ xss xss true _ (h.below hb) (litL_lists w w.heap.size xss xss.length rfl rfl hl hl2).lists (by simp)).mono ?_
  rintro e w' ⟨rfl, hq⟩
  exact ⟨rfl, bt hb (rd_below hq)⟩

set_option maxHeartbeats 8000000 in
set_option maxRecDepth 100000 in
theorem awake10 (w : World) : Calls Try.prog 10 #[] w fun e w' => e = .returned (.bool true) ∧ Below w.heap.size w w' := by
  have zw : w.heap.size = w.heap.size := rfl
  obtain ⟨R, hR⟩ : ∃ R, R = ((((w.alloc (.cells #[.int .i64 0, .int .i64 0] 3)).alloc (.cells #[.int .i64 0, .int .i64 0] 3)).alloc (.cells #[.int .i64 0, .int .i64 0] 3)).alloc (.cells #[.slice (some ⟨w.heap.size, 0, none⟩) 2 2, .slice (some ⟨w.heap.size + 1, 0, none⟩) 2 2, .slice (some ⟨w.heap.size + 1 + 1, 0, none⟩) 2 2] 27)) := ⟨_, rfl⟩
  have fR : Lists R (some ⟨w.heap.size + 1 + 1 + 1, 0, none⟩) 3 q10O ∧ Below w.heap.size w R ∧ R.heap.size = w.heap.size + 1 + 1 + 1 + 1 := by
    rw [hR]
    exact ⟨(litL_lists w (w.heap.size) q10O 3 zw rfl (by decide) (by decide)).lists, litL_below w (w.heap.size) q10O, (litL_size w (w.heap.size) q10O).trans (by rw [zw]; rfl)⟩
  obtain ⟨r0, br, zR⟩ := fR
  obtain ⟨Nm, hNm⟩ : ∃ Nm, Nm = ((((R.alloc (.cells #[.int .i64 0, .int .i64 1] 3)).alloc (.cells #[.int .i64 2, .int .i64 1] 3)).alloc (.cells #[.int .i64 0, .int .i64 2] 3)).alloc (.cells #[.slice (some ⟨w.heap.size + 1 + 1 + 1 + 1, 0, none⟩) 2 2, .slice (some ⟨w.heap.size + 1 + 1 + 1 + 1 + 1, 0, none⟩) 2 2, .slice (some ⟨w.heap.size + 1 + 1 + 1 + 1 + 1 + 1, 0, none⟩) 2 2] 27)) := ⟨_, rfl⟩
  have fNm : Lists Nm (some ⟨w.heap.size + 1 + 1 + 1 + 1 + 1 + 1 + 1, 0, none⟩) 3 q10m ∧ Below R.heap.size R Nm ∧ Nm.heap.size = w.heap.size + 1 + 1 + 1 + 1 + 1 + 1 + 1 + 1 := by
    rw [hNm]
    exact ⟨(litL_lists R (w.heap.size + 1 + 1 + 1 + 1) q10m 3 zR rfl (by decide) (by decide)).lists, litL_below R (w.heap.size + 1 + 1 + 1 + 1) q10m, (litL_size R (w.heap.size + 1 + 1 + 1 + 1) q10m).trans (by rw [zR]; rfl)⟩
  obtain ⟨nm, bnm, zNm⟩ := fNm
  obtain ⟨Xm, hXm⟩ : ∃ Xm, Xm = Nm.alloc (.cells #[.int .i64 2, .int .i64 0, .slice (some ⟨w.heap.size + 1 + 1 + 1 + 1 + 1 + 1 + 1, 0, none⟩) 3 3, .slice (some ⟨w.heap.size + 1 + 1 + 1, 0, none⟩) 3 3] 24) := ⟨_, rfl⟩
  have bxm := alloc_below Nm (.cells #[.int .i64 2, .int .i64 0, .slice (some ⟨w.heap.size + 1 + 1 + 1 + 1 + 1 + 1 + 1, 0, none⟩) 3 3, .slice (some ⟨w.heap.size + 1 + 1 + 1, 0, none⟩) 3 3] 24)
  have mm := mealy_box Nm (.int .i64 2) (.int .i64 0) (.slice (some ⟨w.heap.size + 1 + 1 + 1 + 1 + 1 + 1 + 1, 0, none⟩) 3 3) (.slice (some ⟨w.heap.size + 1 + 1 + 1, 0, none⟩) 3 3)
  rw [← hXm] at bxm mm
  rw [zNm] at mm
  have zXm : Xm.heap.size = w.heap.size + 1 + 1 + 1 + 1 + 1 + 1 + 1 + 1 + 1 := by rw [hXm]; simp [zNm]
  obtain ⟨Nn, hNn⟩ : ∃ Nn, Nn = ((((Xm.alloc (.cells #[.int .i64 1, .int .i64 2] 3)).alloc (.cells #[.int .i64 1, .int .i64 1] 3)).alloc (.cells #[.int .i64 2, .int .i64 2] 3)).alloc (.cells #[.slice (some ⟨w.heap.size + 1 + 1 + 1 + 1 + 1 + 1 + 1 + 1 + 1, 0, none⟩) 2 2, .slice (some ⟨w.heap.size + 1 + 1 + 1 + 1 + 1 + 1 + 1 + 1 + 1 + 1, 0, none⟩) 2 2, .slice (some ⟨w.heap.size + 1 + 1 + 1 + 1 + 1 + 1 + 1 + 1 + 1 + 1 + 1, 0, none⟩) 2 2] 27)) := ⟨_, rfl⟩
  have fNn : Lists Nn (some ⟨w.heap.size + 1 + 1 + 1 + 1 + 1 + 1 + 1 + 1 + 1 + 1 + 1 + 1, 0, none⟩) 3 q10n ∧ Below Xm.heap.size Xm Nn ∧ Nn.heap.size = w.heap.size + 1 + 1 + 1 + 1 + 1 + 1 + 1 + 1 + 1 + 1 + 1 + 1 + 1 := by
    rw [hNn]
    exact ⟨(litL_lists Xm (w.heap.size + 1 + 1 + 1 + 1 + 1 + 1 + 1 + 1 + 1) q10n 3 zXm rfl (by decide) (by decide)).lists, litL_below Xm (w.heap.size + 1 + 1 + 1 + 1 + 1 + 1 + 1 + 1 + 1) q10n, (litL_size Xm (w.heap.size + 1 + 1 + 1 + 1 + 1 + 1 + 1 + 1 + 1) q10n).trans (by rw [zXm]; rfl)⟩
  obtain ⟨nn, bnn, zNn⟩ := fNn
  obtain ⟨Xn, hXn⟩ : ∃ Xn, Xn = Nn.alloc (.cells #[.int .i64 2, .int .i64 0, .slice (some ⟨w.heap.size + 1 + 1 + 1 + 1 + 1 + 1 + 1 + 1 + 1 + 1 + 1 + 1, 0, none⟩) 3 3, .slice (some ⟨w.heap.size + 1 + 1 + 1, 0, none⟩) 3 3] 24) := ⟨_, rfl⟩
  have bxn := alloc_below Nn (.cells #[.int .i64 2, .int .i64 0, .slice (some ⟨w.heap.size + 1 + 1 + 1 + 1 + 1 + 1 + 1 + 1 + 1 + 1 + 1 + 1, 0, none⟩) 3 3, .slice (some ⟨w.heap.size + 1 + 1 + 1, 0, none⟩) 3 3] 24)
  have mn := mealy_box Nn (.int .i64 2) (.int .i64 0) (.slice (some ⟨w.heap.size + 1 + 1 + 1 + 1 + 1 + 1 + 1 + 1 + 1 + 1 + 1 + 1, 0, none⟩) 3 3) (.slice (some ⟨w.heap.size + 1 + 1 + 1, 0, none⟩) 3 3)
  rw [← hXn] at bxn mn
  rw [zNn] at mn
  have zXn : Xn.heap.size = w.heap.size + 1 + 1 + 1 + 1 + 1 + 1 + 1 + 1 + 1 + 1 + 1 + 1 + 1 + 1 := by rw [hXn]; simp [zNn]
  have b3 := bt bnn bxn
  have b2 := bt bxm b3
  have b1 := bt bnm b2
  have b0 : Below w.heap.size w Xn := bt br b1
  have HW : Hid (Xn = ((((((((((((((w.alloc (.cells #[.int .i64 0, .int .i64 0] 3)).alloc (.cells #[.int .i64 0, .int .i64 0] 3)).alloc (.cells #[.int .i64 0, .int .i64 0] 3)).alloc (.cells #[.slice (some ⟨w.heap.size, 0, none⟩) 2 2, .slice (some ⟨w.heap.size + 1, 0, none⟩) 2 2, .slice (some ⟨w.heap.size + 1 + 1, 0, none⟩) 2 2] 27)).alloc (.cells #[.int .i64 0, .int .i64 1] 3)).alloc (.cells #[.int .i64 2, .int .i64 1] 3)).alloc (.cells #[.int .i64 0, .int .i64 2] 3)).alloc (.cells #[.slice (some ⟨w.heap.size + 1 + 1 + 1 + 1, 0, none⟩) 2 2, .slice (some ⟨w.heap.size + 1 + 1 + 1 + 1 + 1, 0, none⟩) 2 2, .slice (some ⟨w.heap.size + 1 + 1 + 1 + 1 + 1 + 1, 0, none⟩) 2 2] 27)).alloc (.cells #[.int .i64 2, .int .i64 0, .slice (some ⟨w.heap.size + 1 + 1 + 1 + 1 + 1 + 1 + 1, 0, none⟩) 3 3, .slice (some ⟨w.heap.size + 1 + 1 + 1, 0, none⟩) 3 3] 24)).alloc (.cells #[.int .i64 1, .int .i64 2] 3)).alloc (.cells #[.int .i64 1, .int .i64 1] 3)).alloc (.cells #[.int .i64 2, .int .i64 2] 3)).alloc (.cells #[.slice (some ⟨w.heap.size + 1 + 1 + 1 + 1 + 1 + 1 + 1 + 1 + 1, 0, none⟩) 2 2, .slice (some ⟨w.heap.size + 1 + 1 + 1 + 1 + 1 + 1 + 1 + 1 + 1 + 1, 0, none⟩) 2 2, .slice (some ⟨w.heap.size + 1 + 1 + 1 + 1 + 1 + 1 + 1 + 1 + 1 + 1 + 1, 0, none⟩) 2 2] 27)).alloc (.cells #[.int .i64 2, .int .i64 0, .slice (some ⟨w.heap.size + 1 + 1 + 1 + 1 + 1 + 1 + 1 + 1 + 1 + 1 + 1 + 1, 0, none⟩) 3 3, .slice (some ⟨w.heap.size + 1 + 1 + 1, 0, none⟩) 3 3] 24))) := Lib.hid (by rw [hXn, hNn, hXm, hNm, hR])
  have hr := r0.below b1
  have hm := nm.below b2
  have hn := nn.below bxn
  have mm' := mm.on9 b3
  have HR := Lib.hid (fun (W : World) (h : Below Xn.heap.size Xn W) => hr.below h)
  have HN1 := Lib.hid (fun (W : World) (h : Below Xn.heap.size Xn W) => hm.below h)
  have HN2 := Lib.hid (fun (W : World) (h : Below Xn.heap.size Xn W) => hn.below h)
  have HM1 := Lib.hid (fun (W : World) (h : Below Xn.heap.size Xn W) => mm'.on9 h)
  have HM2 := Lib.hid (fun (W : World) (h : Below Xn.heap.size Xn W) => mn.on9 h)
  obtain ⟨p0, p1, p2, p3, _⟩ := mm'.cells
  rw [HW.out] at p0 p1 p2 p3
  have hbc := Below.refl Xn.heap.size Xn
  clear hXn hNn hXm hNm hR r0 nm nn mm mn mm' hr hm hn br bnm bxm bnn bxn b3 b2 b1 zR zNm zXm zNn zXn zw
  go_enter Try.func10, Try.ntmps10
  go_wp2_with fail
  rw [← HW.out]
  refine (pacc 2 0 _ _ 3 3 3 3 q10m q10O _ (HN1.out _ hbc) (HR.out _ hbc)).mono ?_
  rintro e w1 ⟨A1, c1, A1', c1', rfl, h1, l1, a1⟩
  rw [q10_1s, q10_1l] at h1
  rw [q10_1w, q10_1l] at l1
  rw [q10_1l, q10_1e]
  have h1 := Owned.ints h1 (by simp)
  have l1 := l1.lists (by simp) (by decide)
  have hbc := bt hbc a1
  clear p0 p1 p2 p3 a1
  obtain ⟨p0, p1, p2, p3, _⟩ := (HM1.out _ hbc).cells
  go_wp2_with fail
  refine (ptrans 2 0 _ _ 3 3 3 3 q10m q10O _ (HN1.out _ hbc) (HR.out _ hbc)).mono ?_
  rintro e w2 ⟨A2, c2, rfl, l2, a2⟩
  rw [q10_2] at l2 ⊢
  rw [q10_1e]
  have l2 := l2.lists (by simp) (by decide)
  have h1 := h1.below a2
  have l1 := l1.below a2
  have hbc := bt hbc a2
  clear p0 p1 p2 p3 a2
  obtain ⟨p0, p1, p2, p3, _⟩ := (HM1.out _ hbc).cells
  go_wp2_with fail
  refine (ppath 2 0 _ _ 3 3 3 3 q10m q10O 1 0 _ (HN1.out _ hbc) (HR.out _ hbc)).mono ?_
  rintro e w3 ⟨A3, c3, rfl, h3, a3⟩
  rw [q10_3] at h3 ⊢
  have h3 := Owned.ints h3 (by simp)
  have h1 := h1.below a3
  have l1 := l1.below a3
  have l2 := l2.below a3
  have hbc := bt hbc a3
  clear p0 p1 p2 p3 a3
  obtain ⟨p0, p1, p2, p3, _⟩ := (HM2.out _ hbc).cells
  go_wp2_with fail
  refine (ppath 2 0 _ _ 3 3 3 3 q10n q10O 1 2 _ (HN2.out _ hbc) (HR.out _ hbc)).mono ?_
  rintro e w4 ⟨A4, c4, rfl, _, a4⟩
  rw [q10_4]
  have h1 := h1.below a4
  have l1 := l1.below a4
  have l2 := l2.below a4
  have h3 := h3.below a4
  have hbc := bt hbc a4
  clear p0 p1 p2 p3 a4
  obtain ⟨p0, p1, p2, p3, _⟩ := (HM1.out _ hbc).cells
  go_wp2_with fail
  refine (ptour 2 0 _ _ 3 3 3 3 q10m q10O _ (HN1.out _ hbc) (HR.out _ hbc)).mono ?_
  rintro e w5 ⟨A5, c5, rfl, h5, a5⟩
  rw [q10_5] at h5 ⊢
  have h5 := Owned.ints h5 (by simp)
  have h1 := h1.below a5
  have l1 := l1.below a5
  have l2 := l2.below a5
  have h3 := h3.below a5
  have hbc := bt hbc a5
  clear p0 p1 p2 p3 a5
  obtain ⟨p0, p1, p2, p3, _⟩ := (HM2.out _ hbc).cells
  go_wp2_with fail
  refine (ptour 2 0 _ _ 3 3 3 3 q10n q10O _ (HN2.out _ hbc) (HR.out _ hbc)).mono ?_
  rintro e w6 ⟨A6, c6, rfl, _, a6⟩
  rw [q10_6]
  have h1 := h1.below a6
  have l1 := l1.below a6
  have l2 := l2.below a6
  have h3 := h3.below a6
  have h5 := h5.below a6
  have hbc := bt hbc a6
  clear p0 p1 p2 p3 a6
  obtain ⟨p0, p1, p2, p3, _⟩ := (HM1.out _ hbc).cells
  go_wp2_with fail
  have hl := litL_below w6 w6.heap.size [[0], [1, 1]]
  refine (pcov 2 0 _ _ _ 3 3 3 3 2 2 q10m q10O [[0], [1, 1]] _ ((HN1.out _ hbc).below hl) ((HR.out _ hbc).below hl) (litL_lists w6 w6.heap.size [[0], [1, 1]] 2 rfl rfl (by decide) (by decide)).lists (by decide)).mono ?_
  rintro e w7 ⟨rfl, a7'⟩
  have a7 := bt hl a7'
  rw [q10_7]
  have h1 := h1.below a7
  have l1 := l1.below a7
  have l2 := l2.below a7
  have h3 := h3.below a7
  have h5 := h5.below a7
  have hbc := bt hbc a7
  clear p0 p1 p2 p3 a7 a7' hl
  go_wp2_with fail
  refine (equal_lit10 _ _ _ _ _ 3 [0, 1, 2] h1 rfl rfl (by decide)).mono ?_
  rintro e w8 ⟨rfl, a8⟩
  have l1 := l1.below a8
  have l2 := l2.below a8
  have h3 := h3.below a8
  have h5 := h5.below a8
  have hbc := bt hbc a8
  clear h1 a8
  go_wp2_with fail
  refine (same_lit10 _ _ _ _ [[], [1], [1, 0]] _ _ _ l1 rfl rfl rfl (by decide) (by decide)).mono ?_
  rintro e w9 ⟨rfl, a9⟩
  have l2 := l2.below a9
  have h3 := h3.below a9
  have h5 := h5.below a9
  have hbc := bt hbc a9
  clear l1 a9
  go_wp2_with fail
  refine (same_lit10 _ _ _ _ [[0], [1], [1, 0], [1, 1], [1, 0, 0], [1, 0, 1]] _ _ _ l2 rfl rfl rfl (by decide) (by decide)).mono ?_
  rintro e w10 ⟨rfl, a10⟩
  have h3 := h3.below a10
  have h5 := h5.below a10
  have hbc := bt hbc a10
  clear l2 a10
  go_wp2_with fail
  refine (equal_lit10 _ _ _ _ _ 2 [0, 0] h3 rfl rfl (by decide)).mono ?_
  rintro e w11 ⟨rfl, a11⟩
  have h5 := h5.below a11
  have hbc := bt hbc a11
  clear h3 a11
  go_wp2_with fail
  refine (equal_lit10 _ _ _ _ _ 8 [0, 1, 0, 0, 1, 1, 0, 1] h5 rfl rfl (by decide)).mono ?_
  rintro e w12 ⟨rfl, a12⟩
  have hbc := bt hbc a12
  clear h5 a12
  go_wp2
  go_ret
  exact ⟨rfl, bt b0 hbc⟩
end Go.Proofs.Ytedcdpmflcegbaa
end

section
/- Great of the laws of minimize. -/
namespace Go.Proofs.Ytedcdpmflcegbaa
open Go.RowKit

def SomeB (w : World) (e : Ending) (w' : World) : Prop := ∃ b : Bool, e = .returned (.bool b) ∧ Below w.heap.size w w'
set_option maxHeartbeats 1000000 in
theorem rgreat8 (i st : Int) (A B : Option Addr) (n c m d : Nat) (nx ot : List (List Int)) (w : World) (hx : Lists w A n nx) (ho : Lists w B m ot) :
    Calls Try.prog 9 #[.agg #[.int .i64 i, .int .i64 st, .slice A n c, .slice B m d]] w (SomeB w) := by
  have hb0 := alloc_below w (.cells #[.int .i64 i, .int .i64 st, .slice A n c, .slice B m d] 24)
  have hB := mealy_box w (.int .i64 i) (.int .i64 st) (.slice A n c) (.slice B m d)
  have hn := hx.2.1
  have hm := ho.2.1
  by_cases h1 : 12 < n
  · have d1 : decide ((12 : Int) < (n : Int)) = true := by simp; omega
    go_enter Try.func9, Try.ntmps9
    go_wp2
    go_ret
    exact ⟨_, rfl, hb0⟩
  · have d1 : decide ((12 : Int) < (n : Int)) = false := by simp; omega
    by_cases h2 : 12 < m
    · have d2 : decide ((12 : Int) < (m : Int)) = true := by simp; omega
      go_enter Try.func9, Try.ntmps9
      go_wp2
      go_ret
      exact ⟨_, rfl, hb0⟩
    · have d2 : decide ((12 : Int) < (m : Int)) = false := by simp; omega
      by_cases h3 : 6 < i
      · have d3 : decide ((6 : Int) < i) = true := by simpa using h3
        go_enter Try.func9, Try.ntmps9
        go_wp2
        go_ret
        exact ⟨_, rfl, hb0⟩
      · have d3 : decide ((6 : Int) < i) = false := by simpa using h3
        go_enter Try.func9, Try.ntmps9
        go_wp2
        generalize w.alloc (.cells #[.int .i64 i, .int .i64 st, .slice A n c, .slice B m d] 24) = w1 at hb0 hB ⊢
        obtain ⟨k0, k1, k2, k3, _⟩ := hB.cells
        clear hB d1 d2 d3
        go_loop [23] (fun kv => ∃ k : Nat, k ≤ n ∧ kv = .int .i64 k) (fun kv => n - (intOf kv).toNat)
        case atStart => exact ⟨0, Nat.zero_le _, rfl⟩
        case round =>
          obtain ⟨k, hk, rfl⟩ := hrel
          by_cases hlt : k < n
          · obtain ⟨g1, o1, A1, n1, c1, rfl, hg1, hd1, hr1⟩ := hx.at_ hlt
            have e1 := (hb0.cell (p := ⟨g1, o1 + k, none⟩) hg1).trans hd1
            clear hd1
            go_wp2
            · go_ret
              exact ⟨_, rfl, hb0⟩
            · go_round
              case rel => exact ⟨k + 1, by omega, by go_num⟩
              case measure => simp [intOf]; omega
          · go_wp2
            go_loop [37] (fun kv => ∃ k : Nat, k ≤ m ∧ kv = .int .i64 k) (fun kv => m - (intOf kv).toNat)
            case atStart => exact ⟨0, Nat.zero_le _, rfl⟩
            case round =>
              obtain ⟨k, hk, rfl⟩ := hrel
              by_cases hlt : k < m
              · obtain ⟨g1, o1, A1, n1, c1, rfl, hg1, hd1, hr1⟩ := ho.at_ hlt
                have e1 := (hb0.cell (p := ⟨g1, o1 + k, none⟩) hg1).trans hd1
                clear hd1
                go_wp2
                · go_ret
                  exact ⟨_, rfl, hb0⟩
                · go_round
                  case rel => exact ⟨k + 1, by omega, by go_num⟩
                  case measure => simp [intOf]; omega
              · go_wp2
                go_ret
                exact ⟨_, rfl, hb0⟩
end Go.Proofs.Ytedcdpmflcegbaa
end

section
/- A row of numbers that grows beside a row of lists. -/
namespace Go.Proofs.Ytedcdpmflcegbaa
open Go.RowKit

/-- A row of lists, whose lists lie apart from the block of s. -/
def OwnedX (w : World) (base : Nat) (s v : Value) (xss : List (List Int)) : Prop :=
  ∃ vs : List Value, w.ownsRow base 27 1 v xss.length vs ∧ ∀ j, j < xss.length → ∃ A c, vs[j]? = some (.slice A (xss.getD j []).length c) ∧ Owned w base (.slice A (xss.getD j []).length c) (xss.getD j []) ∧ Apart s (.slice A (xss.getD j []).length c)
theorem OwnedX.toL {w : World} {base : Nat} {s v : Value} {xss : List (List Int)} (h : OwnedX w base s v xss) : OwnedL w base v xss := by
  obtain ⟨vs, ho, hr⟩ := h
  refine ⟨vs, ho, fun j hj => ?_⟩
  obtain ⟨A, c, h1, h2, _⟩ := hr j hj
  exact ⟨A, c, h1, h2⟩
theorem Owned.lt {w : World} {base : Nat} {v : Value} {xs : List Int} (h : Owned w base v xs) : ∀ k, v.ownBlock = some k → base ≤ k ∧ k < w.heap.size := World.ownsRow.lt h
theorem Owned.keptB {w w' : World} {base : Nat} {u v : Value} {xs : List Int} (h : Owned w base v xs) (hk : KeptB u.ownBlock w w') (ha : Apart u v) : Owned w' base v xs := by
  refine ⟨h.1, ?_⟩
  rcases h.2 with e | ⟨g, cap, cur, hv, hbg, hg, r⟩
  · exact .inl e
  · exact .inr ⟨g, cap, cur, hv, hbg, hk g _ hg (fun e => ha g e (by rw [hv]; rfl)), r⟩
theorem OwnedX.grow {w w' : World} {base : Nat} {s s' v : Value} {xss : List (List Int)} (h : OwnedX w base s v xss) (hk : KeptB s.ownBlock w w') (hl : KeptT 27 w w') (hm : Moved w s s') : OwnedX w' base s' v xss := by
  obtain ⟨vs, ho, hr⟩ := h
  refine ⟨vs, ⟨ho.1, ?_⟩, fun j hj => ?_⟩
  · rcases ho.2 with e | ⟨g, cap, cur, hv, hbg, hg, r⟩
    · exact .inl e
    · exact .inr ⟨g, cap, cur, hv, hbg, hl g cur hg, r⟩
  · obtain ⟨A, c, h1, h2, h3⟩ := hr j hj
    refine ⟨A, c, h1, h2.keptB hk h3, fun k h4 h5 => ?_⟩
    rcases hm with e | ⟨g, hg, e⟩
    · rw [e] at h4; exact h3 k h4 h5
    · rw [e] at h4
      injection h4 with h4
      have := (h2.lt k h5).2
      omega
theorem OwnedX.kept {w w' : World} {base : Nat} {s v : Value} {xss : List (List Int)} (h : OwnedX w base s v xss) (hb : Below w.heap.size w w') : OwnedX w' base s v xss :=
  h.grow (fun g _ e _ => (hb.block g (heap_lt e)).trans e) (KeptT.of_below hb) (.inl rfl)
theorem OwnedX.lists {w : World} {base : Nat} {s : Value} {A : Option Addr} {n c : Nat} {xss : List (List Int)} (h : OwnedX w base s (.slice A n c) xss) (hm : xss.length ≤ 17592186044416) (hr : ∀ xs, xs ∈ xss → xs.length ≤ 17592186044416) : Lists w A n xss := h.toL.lists hm hr
/-- append of one number. -/
theorem run_append_oneB {w : World} {base : Nat} {v : Value} {xs : List Int} (h : Owned w base v xs) (x : Int) (hbase : base ≤ w.heap.size) (hl : xs.length < 1759218604441) :
    ∃ A c w', (Builtin.append_ #[27, 27] 27 #[v, .slice (some ⟨w.heap.size, 0, none⟩) 1 1]).run Try.prog (w.alloc (.cells #[.int .i64 x] 3)) = .ok (.slice A (xs.length + 1) c) w' ∧
      Owned w' base (.slice A (xs.length + 1) c) (xs ++ [x]) ∧ Below base w w' ∧ (∀ t, t ≠ 3 → KeptT t w w') ∧ KeptB v.ownBlock w w' ∧ Moved w v (.slice A (xs.length + 1) c) := by
  obtain ⟨i, hi, hz0, hz1, hz2⟩ := info_parts info3
  have hbz := alloc_below w (.cells #[.int .i64 x] 3)
  have ho1 := h.kept hbz
  obtain ⟨v', w', hr, h1, h2, _, hmv⟩ := run_append_own_at (P := Try.prog) (w.alloc (.cells #[.int .i64 x] 3)) base 27 27 3 i (.int .i64 0) 1 8 Try.underlying27 hi hz0 hz1 hz2 rfl (by decide) v _ _ ho1 ⟨w.heap.size, 0, none⟩ 1 1 [.int .i64 x] (by simp)
    (by
      intro j u hu
      cases j with
      | zero =>
        simp at hu
        subst hu
        simp [Addr.add]
      | succ j => simp at hu)
    (by intro u hu; simp at hu; subst hu; rfl) (by unfold maxLen; omega) (by omega) (Nat.le_trans hbase hbz.size)
  have hs : ∀ t, t ≠ 3 → KeptT t w w' := fun t ht => (KeptT.of_below hbz).trans (KeptT.grown h2 ho1 ht)
  have hform : ∃ A c, v' = .slice A (xs.length + 1) c := by
    rcases h1.2 with ⟨rfl, h0⟩ | ⟨g, cap, cur, rfl, _⟩
    · have := h1.1; rw [h0] at this; simp at this
    · exact ⟨_, _, rfl⟩
  obtain ⟨A, c, rfl⟩ := hform
  have hkb : KeptB v.ownBlock w w' := fun g o e hne => (h2.block g (Nat.lt_of_lt_of_le (heap_lt e) hbz.size) (fun e2 => hne e2.symm)).trans ((hbz.block g (heap_lt e)).trans e)
  have hmoved : Moved w v (.slice A (xs.length + 1) c) := by
    rcases hmv with e | e
    · exact .inl e
    · exact .inr ⟨_, by simp, e⟩
  refine ⟨A, c, w', hr, ?_, (hbz.mono hbase).trans ((Below.refl _ _).grown h2 (Nat.le_trans hbase hbz.size) (fun k hk => (World.ownsRow.lt ho1 k hk).1)), hs, hkb, hmoved⟩
  unfold Owned
  rw [List.length_append, List.map_append]
  exact h1
/-- append of one list. -/
theorem run_append_listX {w : World} {base : Nat} {s v : Value} {xss : List (List Int)} {B : Option Addr} {m d : Nat} {xs : List Int} (h : OwnedX w base s v xss) (hx : Owned w base (.slice B m d) xs) (ha : Apart s (.slice B m d)) (hbase : base ≤ w.heap.size) (hl : xss.length < 1759218604441) :
    ∃ A c w', (Builtin.append_ #[22, 22] 22 #[v, .slice (some ⟨w.heap.size, 0, none⟩) 1 1]).run Try.prog (w.alloc (.cells #[.slice B m d] 27)) = .ok (.slice A (xss.length + 1) c) w' ∧
      OwnedX w' base s (.slice A (xss.length + 1) c) (xss ++ [xs]) ∧ Below base w w' ∧ (∀ t, t ≠ 27 → KeptT t w w') := by
  obtain ⟨i, hi, hz0, hz1, hz2⟩ := info_parts infol
  obtain ⟨vs, ho, hv⟩ := h
  have hbz := alloc_below w (.cells #[.slice B m d] 27)
  have ho1 : (w.alloc (.cells #[.slice B m d] 27)).ownsRow base 27 1 v xss.length vs := by
    refine ⟨ho.1, ?_⟩
    rcases ho.2 with e | ⟨g, cap, cur, hv, hbg, hg, r⟩
    · exact .inl e
    · exact .inr ⟨g, cap, cur, hv, hbg, (hbz.block g (heap_lt hg)).trans hg, r⟩
  obtain ⟨v', w', hr, h1, h2, _, hmv⟩ := run_append_own_at (P := Try.prog) (w.alloc (.cells #[.slice B m d] 27)) base 22 22 27 i (.slice none 0 0) 1 24 Try.underlying22 hi hz0 hz1 hz2 rfl (by decide) v _ _ ho1 ⟨w.heap.size, 0, none⟩ 1 1 [.slice B m d] (by simp)
    (by
      intro j u hu
      cases j with
      | zero =>
        simp at hu
        subst hu
        simp [Addr.add]
      | succ j => simp at hu)
    (by intro u hu; simp at hu; subst hu; rfl) (by unfold maxLen; omega) (by omega) (Nat.le_trans hbase hbz.size)
  have hs : ∀ t, t ≠ 27 → KeptT t w w' := fun t ht => (KeptT.of_below hbz).trans (KeptT.grown h2 ho1 ht)
  have hform : ∃ A c, v' = .slice A (xss.length + 1) c := by
    rcases h1.2 with ⟨rfl, h0⟩ | ⟨g, cap, cur, rfl, _⟩
    · have := h1.1; rw [h0] at this; simp at this
    · exact ⟨_, _, rfl⟩
  obtain ⟨A, c, rfl⟩ := hform
  have hn : m = xs.length := by obtain ⟨A', c', e⟩ := hx.form; cases e; rfl
  subst hn
  refine ⟨A, c, w', hr, ⟨vs ++ [.slice B xs.length d], by rw [List.length_append]; exact h1, fun j hj => ?_⟩, (hbz.mono hbase).trans ((Below.refl _ _).grown h2 (Nat.le_trans hbase hbz.size) (fun k hk => (World.ownsRow.lt ho1 k hk).1)), hs⟩
  have hvl : vs.length = xss.length := by have := ho.1; omega
  by_cases e : j < xss.length
  · obtain ⟨A2, c2, h3, h4, h5⟩ := hv j e
    have hg : (xss ++ [xs]).getD j [] = xss.getD j [] := by rw [List.getD_eq_getElem?_getD, List.getD_eq_getElem?_getD, List.getElem?_append_left e]
    rw [hg]
    exact ⟨A2, c2, by rw [List.getElem?_append_left (by omega)]; exact h3, h4.keptT (hs _ (by decide)), h5⟩
  · have hjl : j = xss.length := by simp at hj; omega
    subst hjl
    have hg : (xss ++ [xs]).getD xss.length [] = xs := by simp
    rw [hg]
    exact ⟨B, d, by rw [List.getElem?_append_right (by omega), hvl]; simp, hx.keptT (hs _ (by decide)), ha⟩
/-- A list of one list. -/
theorem OwnedX.one (w : World) (base : Nat) (s : Value) (B : Option Addr) (m d : Nat) (xs : List Int) (hx : Owned w base (.slice B m d) xs) (ha : Apart s (.slice B m d)) (hb : base ≤ w.heap.size) :
    OwnedX (w.alloc (.cells #[.slice B m d] 27)) base s (.slice (some ⟨w.heap.size, 0, none⟩) 1 1) [xs] := by
  have hn : m = xs.length := by obtain ⟨A', c', e⟩ := hx.form; cases e; rfl
  subst hn
  have := World.ownsRow_lit (e := 27) (size := 1) w #[.slice B xs.length d] 1 hb (by unfold maxLen; omega) (by simp)
  refine ⟨[.slice B xs.length d], this, fun j hj => ?_⟩
  obtain rfl : j = 0 := by simp at hj; omega
  exact ⟨B, d, rfl, hx.kept (alloc_below _ _), ha⟩
end Go.Proofs.Ytedcdpmflcegbaa
end
