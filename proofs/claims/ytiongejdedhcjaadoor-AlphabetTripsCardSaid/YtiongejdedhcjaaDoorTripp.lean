/- Plain: texts and words are inverse. No program. -/
import Derived.Test.YtiongejdedhcjaaDoorClaws
namespace Go.Proofs.YtiongejdedhcjaaDoor

theorem texV_two {ss : List ByteArray} {xs : List Int} (h : (texV ss xs).2 = 0) : valV ss = 0 ∧ chk xs ss.length = 0 ∧ texV ss xs = (⟨(jn (btL (nmL ss xs))).toArray⟩, 0) := by
  by_cases hv : valV ss = 0
  · by_cases hk : chk xs ss.length = 0
    · exact ⟨hv, hk, texV_ok rfl hv hk⟩
    · rw [texV_bad rfl hv hk] at h; exact absurd h hk
  · rw [texV_inv hv] at h; exact absurd h hv
theorem ok_ne32 {c : UInt8} (h : OkC c.toNat) : c ≠ 32 := by
  intro e; subst e; revert h; decide
theorem sym_at {xs : List Int} {k : Int} (h : Syms xs k xs.length) : ∀ x, x ∈ xs → 0 ≤ x ∧ x < k := by
  intro x hx
  obtain ⟨i, hi, e⟩ := List.mem_iff_getElem.1 hx
  have := h i hi
  simp only [List.getD, List.getElem?_eq_getElem hi, Option.getD_some, e] at this
  exact this
theorem nmL_nam {ss : List ByteArray} (h : valV ss = 0) {xs : List Int} (hs : Syms xs ss.length xs.length) : ∀ x, x ∈ nmL ss xs → Nam x := by
  intro x hx
  unfold nmL at hx
  rw [List.mem_map] at hx
  obtain ⟨y, hy, rfl⟩ := hx
  have := sym_at hs y hy
  exact ((valid_all h).2.2 _ (by omega)).1
theorem btL_nam {ns : List ByteArray} (h : ∀ x, x ∈ ns → Nam x) : (∀ p, p ∈ btL ns → ∀ c, c ∈ p → c ≠ 32) ∧ ¬ [] ∈ btL ns := by
  unfold btL
  refine ⟨fun p hp c hc => ?_, fun hp => ?_⟩
  · rw [List.mem_map] at hp
    obtain ⟨x, hx, rfl⟩ := hp
    exact ok_ne32 (nam_bytes (h x hx).1 c hc)
  · rw [List.mem_map] at hp
    obtain ⟨x, hx, e⟩ := hp
    have h1 := (h x hx).2.1
    rw [← size_len, e] at h1
    simp at h1
theorem jn_nil {ps : List (List UInt8)} (hne : ps ≠ []) (h : ¬ [] ∈ ps) : jn ps ≠ [] := by
  cases ps with
  | nil => exact absurd rfl hne
  | cons x r =>
    cases r with
    | nil => intro e; apply h; rw [show jn [x] = x from rfl] at e; rw [e]; simp
    | cons y r => intro e; have : x ++ 32 :: jn (y :: r) = [] := e; simp at this
theorem idL_nmL {ss : List ByteArray} (h : valV ss = 0) {xs : List Int} (hs : Syms xs ss.length xs.length) : lkL ss (nmL ss xs) = some xs := by
  have h2 := sym_at hs
  clear hs
  induction xs with
  | nil => rfl
  | cons x xs ih =>
    have hx := h2 x (by simp)
    have e := ix_name h (j := x.toNat) (by omega)
    have hi := ih (fun y hy => h2 y (by simp [hy]))
    show lkL ss (ss.getD x.toNat ByteArray.empty :: nmL ss xs) = _
    rw [lkL, e, if_pos rfl, hi]
    show some ((x.toNat : Int) :: xs) = _
    rw [show (x.toNat : Int) = x by omega]

/-- A word is read back from its text. -/
theorem trip1 {ss : List ByteArray} {xs : List Int} (h : (texV ss xs).2 = 0) : wrdV ss (texV ss xs).1 = (xs, 0) := by
  obtain ⟨hv, hk, e⟩ := texV_two h
  obtain ⟨k1, k2, l1, hs⟩ := chk_zero hk
  have hN := nmL_nam hv hs
  obtain ⟨hsp, hnil⟩ := btL_nam hN
  have hlen : (btL (nmL ss xs)).length = xs.length := by unfold btL; rw [List.length_map, nmL_len]
  have hjl := jn_len (btL (nmL ss xs)) (fun p hp => by
    unfold btL at hp
    rw [List.mem_map] at hp
    obtain ⟨x, hx, rfl⟩ := hp
    have := (hN x hx).2.2
    rw [← size_len] at this
    exact this)
  rw [e]
  show wrdV ss ⟨(jn (btL (nmL ss xs))).toArray⟩ = _
  have hdl : (ByteArray.mk (jn (btL (nmL ss xs))).toArray).data.toList = jn (btL (nmL ss xs)) := by simp
  have hsz : ¬ 1048576 < (ByteArray.mk (jn (btL (nmL ss xs))).toArray).size := by rw [← size_len, hdl]; omega
  have hpv : pv (jn (btL (nmL ss xs))) = (btL (nmL ss xs), true) := by
    by_cases hx : xs = []
    · subst hx; rfl
    · have hne : btL (nmL ss xs) ≠ [] := by intro e2; rw [e2] at hlen; apply hx; exact List.eq_nil_of_length_eq_zero hlen.symm
      have hc := cutL_jn _ hne hsp
      rw [pv_ok (jn_nil hne hnil) (by rw [hc]; exact hnil), hc]
  refine wrdV_ok hv hsz (by rw [hdl, hpv]) (bs := nmL ss xs) (by rw [hdl, hpv]) (by rw [nmL_len]; omega) (idL_nmL hv hs)

/-- The text of two words. -/
theorem trip2 {ss : List ByteArray} {xs ys : List Int} (h : (texV ss xs).2 = 0) (h2 : (texV ss ys).2 = 0) (hx : 0 < xs.length) (hy : 0 < ys.length) (lx : xs.length ≤ 300) (ly : ys.length ≤ 300) :
    texV ss (xs ++ ys) = ((texV ss xs).1 ++ ⟨#[32]⟩ ++ (texV ss ys).1, 0) := by
  obtain ⟨hv, hk, e⟩ := texV_two h
  obtain ⟨_, hk2, e2⟩ := texV_two h2
  obtain ⟨k1, k2, l1, hs⟩ := chk_zero hk
  obtain ⟨_, _, _, hs2⟩ := chk_zero hk2
  have hk3 : chk (xs ++ ys) ss.length = 0 := by
    refine chk_ok ⟨k1, k2⟩ (by rw [List.length_append]; omega) (fun m hm => ?_)
    have : ∀ x, x ∈ xs ++ ys → 0 ≤ x ∧ x < (ss.length : Int) := fun x hx => by
      rcases List.mem_append.1 hx with hx | hx
      · exact sym_at hs x hx
      · exact sym_at hs2 x hx
    exact this _ (by simp only [List.getD, List.getElem?_eq_getElem hm, Option.getD_some]; exact List.getElem_mem _)
  rw [texV_ok rfl hv hk3, e, e2]
  congr 1
  apply str_inj
  have e3 : btL (nmL ss (xs ++ ys)) = btL (nmL ss xs) ++ btL (nmL ss ys) := by unfold btL nmL; simp
  have n1 : btL (nmL ss xs) ≠ [] := by
    intro e4; have := congrArg List.length e4; unfold btL at this; rw [List.length_map, nmL_len, List.length_nil] at this; omega
  have n2 : btL (nmL ss ys) ≠ [] := by
    intro e4; have := congrArg List.length e4; unfold btL at this; rw [List.length_map, nmL_len, List.length_nil] at this; omega
  rw [app_list, app_list]
  show jn _ = (jn _ ++ [32]) ++ jn _
  rw [e3, jn_append _ _ n1 n2]
  simp

theorem lkL_back {ss : List ByteArray} : ∀ (bs : List ByteArray) (w : List Int), lkL ss bs = some w → nmL ss w = bs ∧ w.length = bs.length ∧ ∀ x, x ∈ w → 0 ≤ x ∧ x < (ss.length : Int) := by
  intro bs
  induction bs with
  | nil => intro w h; simp [lkL] at h; subst h; exact ⟨rfl, rfl, by simp⟩
  | cons b bs ih =>
    intro w h
    rw [lkL] at h
    rcases ix_cases ss b with e | ⟨k, hk, hb, e⟩
    · rw [e] at h; simp at h
    · rw [e, if_pos rfl] at h
      cases h2 : lkL ss bs with
      | none => rw [h2] at h; cases h
      | some w2 =>
        rw [h2] at h
        simp at h
        subst h
        obtain ⟨i1, i2, i3⟩ := ih w2 h2
        refine ⟨?_, by simp [i2], fun x hx => ?_⟩
        · show ss.getD (k : Int).toNat ByteArray.empty :: nmL ss w2 = _
          rw [i1, show (k : Int).toNat = k by omega, hb]
        · rcases List.mem_cons.1 hx with rfl | hx
          · omega
          · exact i3 x hx

theorem wrd_cases (ss : List ByteArray) (s : ByteArray) : ((wrdV ss s).2 ≠ 0 ∧ (wrdV ss s).1 = []) ∨
    (valV ss = 0 ∧ (pv s.data.toList).2 = true ∧ ¬ 1024 < (pv s.data.toList).1.length ∧ ∃ w, lkL ss (mkL (pv s.data.toList).1) = some w ∧ wrdV ss s = (w, 0)) := by
  unfold wrdV
  by_cases h1 : valV ss = 0
  · rw [if_neg (fun H => H h1)]
    by_cases h2 : 1048576 < s.size
    · rw [if_pos h2]; exact .inl ⟨by decide, rfl⟩
    · rw [if_neg h2]
      by_cases h3 : (pv s.data.toList).2 = false
      · rw [if_pos h3]; exact .inl ⟨by decide, rfl⟩
      · rw [if_neg h3]
        by_cases h4 : 1024 < (pv s.data.toList).1.length
        · rw [if_pos h4]; exact .inl ⟨by decide, rfl⟩
        · rw [if_neg h4]
          cases h5 : lkL ss (mkL (pv s.data.toList).1) with
          | none => exact .inl ⟨by decide, rfl⟩
          | some w => exact .inr ⟨h1, by simpa using h3, h4, w, rfl, rfl⟩
  · rw [if_pos h1]; exact .inl ⟨h1, rfl⟩

/-- A text that is accepted is that of its word. -/
theorem trip3 {ss : List ByteArray} {s : ByteArray} (h : (wrdV ss s).2 = 0) : texV ss (wrdV ss s).1 = (s, 0) := by
  rcases wrd_cases ss s with ⟨h1, _⟩ | ⟨hv, h2, h3, w, hw, e⟩
  · exact absurd h h1
  · rw [e]
    show texV ss w = _
    obtain ⟨i1, i2, i3⟩ := lkL_back _ _ hw
    have hml : (mkL (pv s.data.toList).1).length = (pv s.data.toList).1.length := by unfold mkL; simp
    have hk : chk w ss.length = 0 := by
      have hva := valid_all hv
      refine chk_ok ⟨by omega, by omega⟩ (by omega) (fun m hm => ?_)
      exact i3 _ (by simp only [List.getD, List.getElem?_eq_getElem hm, Option.getD_some]; exact List.getElem_mem _)
    rw [texV_ok rfl hv hk, i1]
    congr 1
    apply str_inj
    show jn (btL (mkL (pv s.data.toList).1)) = s.data.toList
    have hb : ∀ ps : List (List UInt8), btL (mkL ps) = ps := fun ps => by
      unfold btL mkL
      rw [List.map_map]
      apply List.ext_getElem?
      intro i
      rw [List.getElem?_map]
      cases ps[i]? <;> simp
    rw [hb]
    by_cases h0 : s.data.toList = []
    · rw [h0]; rfl
    · by_cases h4 : [] ∈ cutL s.data.toList
      · rw [pv_bad h0 h4] at h2; cases h2
      · rw [pv_ok h0 h4]; exact jn_cutL _
end Go.Proofs.YtiongejdedhcjaaDoor
