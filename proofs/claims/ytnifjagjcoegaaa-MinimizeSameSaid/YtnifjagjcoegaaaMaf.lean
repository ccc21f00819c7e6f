/- Lemmas of the proofs of this seat, of the parts Trimq, Canp, Rnmp, Rnm, Rnmw, M8s. Conditions: none. -/
import Derived.Test.YtnifjagjcoegaaaMab
import Derived.Test.YtnifjagjcoegaaaMad
import Derived.Test.YtnifjagjcoegaaaMac
import Derived.Deep.RegionHeld3
import Derived.Laws.MakeOwn
import Derived.Deep.DeepCutAuto
import Derived.Test.YtnifjagjcoegaaaMae
section
/- What trimming keeps. -/
namespace Go.Proofs.Ytnifjagjcoegaaa

section
variable {i st n : Nat} {nx ot : List (List Int)}

theorem tr_row {R : List Nat} {j : Nat} (hj : j < R.length) : (trN nx i R).getD j [] = trR nx i R (R.getD j 0) := by
  unfold trN; rw [List.getD_eq_getElem?_getD, List.getElem?_map, List.getElem?_eq_getElem hj, List.getD_eq_getElem?_getD, List.getElem?_eq_getElem hj]; rfl
theorem tr_out {R : List Nat} {j : Nat} (hj : j < R.length) : (trO ot R).getD j [] = ot.getD (R.getD j 0) [] := by
  unfold trO; rw [List.getD_eq_getElem?_getD, List.getElem?_map, List.getElem?_eq_getElem hj, List.getD_eq_getElem?_getD (l := R), List.getElem?_eq_getElem hj]; rfl
theorem tr_nN {R : List Nat} {j a : Nat} (hj : j < R.length) (ha : a < i) : nN (trN nx i R) j a = ixN R (nN nx (R.getD j 0) a) := by
  unfold nN; rw [tr_row hj, trR_at ha]; unfold nN; simp
theorem tr_oN {R : List Nat} {j a : Nat} (hj : j < R.length) : oN (trO ot R) j a = oN ot (R.getD j 0) a := by
  unfold oN; rw [tr_out hj]

theorem Mok.tr (hM : Mok i st n nx ot) : Mok i 0 (rch nx i st).length (trN nx i (rch nx i st)) (trO ot (rch nx i st)) := by
  have hs := hM.rch_stt
  have hl := hs.len
  have h0 : 0 < (rch nx i st).length := by obtain ⟨t, ht⟩ := rch_pre nx i st; rw [ht]; simp
  refine ⟨hM.i1, hM.i2, h0, by have := hM.n2; omega, h0, by simp [trN], by simp [trO], fun s h => ?_⟩
  have hm := getD_mem h
  have hr := hM.row _ (hs.2 _ hm)
  rw [tr_row h, tr_out h]
  refine ⟨trR_len _ _ _ _, hr.2.1, fun a ha => ?_⟩
  rw [trR_at ha]
  have := ixN_lt (hM.rch_in hm ha)
  exact ⟨by omega, by omega, (hr.2.2 a ha).2.2⟩

theorem tr_run (hM : Mok i st n nx ot) : ∀ (u : List Int) (s : Nat), s ∈ rch nx i st → (∀ x, x ∈ u → 0 ≤ x ∧ x < i) → runO (trN nx i (rch nx i st)) (trO ot (rch nx i st)) (ixN (rch nx i st) s) u = runO nx ot s u
  | [], _, _, _ => rfl
  | x :: u, s, hs, hu => by
    have hx := hu x (by simp)
    have ha : x.toNat < i := by omega
    show oN _ (ixN (rch nx i st) s) x.toNat :: runO _ _ (nN _ (ixN (rch nx i st) s) x.toNat) u = oN ot s x.toNat :: runO nx ot (nN nx s x.toNat) u
    rw [tr_oN (ixN_lt hs), tr_nN (ixN_lt hs) ha, ixN_at hs, tr_run hM u _ (hM.rch_in hs ha) fun y hy => hu y (by simp [hy])]

theorem ixN_st (nx : List (List Int)) (i st : Nat) : ixN (rch nx i st) st = 0 := by
  obtain ⟨t, ht⟩ := rch_pre nx i st
  rw [ht]; unfold ixN; simp
theorem st_mem (nx : List (List Int)) (i st : Nat) : st ∈ rch nx i st := by obtain ⟨t, ht⟩ := rch_pre nx i st; rw [ht]; simp

theorem addN_map {R : List Nat} {l : List Nat} {x : Nat} (hl : ∀ y, y ∈ l → y ∈ R) (hx : x ∈ R) : addN (l.map (ixN R)) (ixN R x) = (addN l x).map (ixN R) := by
  have h : ixN R x ∈ l.map (ixN R) ↔ x ∈ l := by
    rw [List.mem_map]
    constructor
    · rintro ⟨y, hy, e⟩
      have := congrArg (fun j => R.getD j 0) e
      simp only [ixN_at (hl y hy), ixN_at hx] at this
      rw [← this]; exact hy
    · intro h; exact ⟨x, h, rfl⟩
  unfold addN
  by_cases hm : x ∈ l
  · rw [if_pos (h.2 hm), if_pos hm]
  · rw [if_neg (fun H => hm (h.1 H)), if_neg hm, List.map_append]; rfl
theorem addN_sub {R l : List Nat} {x : Nat} (hl : ∀ y, y ∈ l → y ∈ R) (hx : x ∈ R) : ∀ y, y ∈ addN l x → y ∈ R := by
  unfold addN; split
  · exact hl
  · intro y hy; rw [List.mem_append] at hy
    rcases hy with hy | hy
    · exact hl y hy
    · simp at hy; subst hy; exact hx
theorem addR_map (hM : Mok i st n nx ot) {l : List Nat} {s : Nat} (hl : ∀ y, y ∈ l → y ∈ rch nx i st) (hs : s ∈ rch nx i st) : ∀ a, a ≤ i →
    addR (trN nx i (rch nx i st)) (ixN (rch nx i st) s) (l.map (ixN (rch nx i st))) a = (addR nx s l a).map (ixN (rch nx i st)) ∧ ∀ y, y ∈ addR nx s l a → y ∈ rch nx i st
  | 0, _ => ⟨rfl, hl⟩
  | a + 1, h => by
    obtain ⟨h1, h2⟩ := addR_map hM hl hs a (by omega)
    have hin := hM.rch_in hs (show a < i by omega)
    refine ⟨?_, addN_sub h2 hin⟩
    show addN (addR _ _ _ a) (nN _ _ a) = (addN _ _).map _
    rw [h1, tr_nN (ixN_lt hs) (by omega), ixN_at hs, addN_map h2 hin]
theorem bfs_map (hM : Mok i st n nx ot) : ∀ (k : Nat) (l : List Nat) (j : Nat), (∀ y, y ∈ l → y ∈ rch nx i st) →
    bfs (trN nx i (rch nx i st)) i k (l.map (ixN (rch nx i st))) j = (bfs nx i k l j).map (ixN (rch nx i st))
  | 0, _, _, _ => rfl
  | k + 1, l, j, hl => by
    show (if j < (l.map _).length then _ else _) = List.map _ (if j < l.length then _ else _)
    rw [List.length_map]
    by_cases hj : j < l.length
    · have hm := getD_mem hj
      obtain ⟨h1, h2⟩ := addR_map hM hl (hl _ hm) i (Nat.le_refl _)
      have e : (l.map (ixN (rch nx i st))).getD j 0 = ixN (rch nx i st) (l.getD j 0) := by
        rw [List.getD_eq_getElem?_getD, List.getElem?_map, List.getElem?_eq_getElem hj, List.getD_eq_getElem?_getD, List.getElem?_eq_getElem hj]; rfl
      rw [if_pos hj, if_pos hj, e, h1]
      exact bfs_map hM k _ _ h2
    · rw [if_neg hj, if_neg hj]

theorem bfs_more (hM : Mok i st n nx ot) {l : List Nat} {j : Nat} (h : Stt n l) : ∀ k, bfs nx i (n + k) l j = bfs nx i n l j
  | 0 => rfl
  | k + 1 => by rw [← Nat.add_assoc, bfs_fuel hM (n + k) l j h (by omega), bfs_more hM h k]

theorem map_ixN {R : List Nat} (hR : R.Nodup) : R.map (ixN R) = List.range R.length := by
  apply List.ext_getElem
  · simp
  · intro m h1 h2
    have hm : m < R.length := by simpa using h1
    rw [List.getElem_map, List.getElem_range]
    have := ixN_of hR hm
    rw [List.getD_eq_getElem?_getD, List.getElem?_eq_getElem hm] at this
    exact this

theorem tr_rch (hM : Mok i st n nx ot) : rch (trN nx i (rch nx i st)) i 0 = List.range (rch nx i st).length := by
  have hT := hM.tr
  have hl := hM.rch_stt.len
  have h := bfs_map hM nx.length [st] 0 (fun y hy => by simp at hy; subst hy; exact st_mem nx i y)
  rw [show [st].map (ixN (rch nx i st)) = [0] by show [ixN _ _] = _; rw [ixN_st]] at h
  show bfs _ i (trN nx i (rch nx i st)).length [0] 0 = _
  rw [hT.nxl]
  have hm := bfs_more hT (j := 0) (Stt.one hT.n1) (n - (rch nx i st).length)
  rw [show (rch nx i st).length + (n - (rch nx i st).length) = n by omega] at hm
  rw [← hm, ← hM.nxl, h]
  exact map_ixN hM.rch_stt.1

theorem ixN_range {k x : Nat} (h : x < k) : ixN (List.range k) x = x := by
  have hm : x ∈ List.range k := List.mem_range.2 h
  have h1 := ixN_at hm
  have h2 := ixN_lt hm
  rw [List.length_range] at h2
  rw [List.getD_eq_getElem?_getD, List.getElem?_eq_getElem (by rw [List.length_range]; exact h2), List.getElem_range] at h1
  exact h1
theorem getD_range {k j : Nat} (h : j < k) : (List.range k).getD j 0 = j := by
  rw [List.getD_eq_getElem?_getD, List.getElem?_eq_getElem (by rw [List.length_range]; exact h), List.getElem_range]; rfl

theorem tr_again (hM : Mok i st n nx ot) : trN (trN nx i (rch nx i st)) i (List.range (rch nx i st).length) = trN nx i (rch nx i st) := by
  have hT := hM.tr
  apply List.ext_getElem
  · simp [trN]
  · intro m h1 h2
    have hm : m < (rch nx i st).length := by simpa [trN] using h2
    have e1 := tr_row (nx := trN nx i (rch nx i st)) (i := i) (R := List.range (rch nx i st).length) (j := m) (by simpa using hm)
    have e2 := tr_row (nx := nx) (i := i) hm
    rw [List.getD_eq_getElem?_getD, List.getElem?_eq_getElem h1, getD_range hm] at e1
    rw [List.getD_eq_getElem?_getD, List.getElem?_eq_getElem h2] at e2
    have e1 : (trN (trN nx i (rch nx i st)) i (List.range (rch nx i st).length))[m] = _ := e1
    have e2 : (trN nx i (rch nx i st))[m] = _ := e2
    rw [e1, e2]
    unfold trR
    apply List.map_congr_left
    intro a ha
    have ha : a < i := List.mem_range.1 ha
    have hlt := hT.nN_lt hm ha
    rw [ixN_range hlt, tr_nN hm ha]
theorem tr_again_out (ot : List (List Int)) (R : List Nat) : trO (trO ot R) (List.range R.length) = trO ot R := by
  apply List.ext_getElem
  · simp [trO]
  · intro m h1 h2
    have hm : m < R.length := by simpa [trO] using h2
    have e1 := tr_out (ot := trO ot R) (R := List.range R.length) (j := m) (by simpa using hm)
    rw [List.getD_eq_getElem?_getD, List.getElem?_eq_getElem h1, getD_range hm, List.getD_eq_getElem?_getD, List.getElem?_eq_getElem h2] at e1
    exact e1
end
end Go.Proofs.Ytnifjagjcoegaaa
end

section
/- The minimal machine is the same for machines with the same outputs. -/
namespace Go.Proofs.Ytnifjagjcoegaaa

/-- A word over i symbols. -/
def Wd (i : Nat) (u : List Int) : Prop := ∀ x, x ∈ u → 0 ≤ x ∧ x < i
theorem Wd.nil (i : Nat) : Wd i [] := fun x h => by simp at h
theorem Wd.cons {i a : Nat} {u : List Int} (ha : a < i) (h : Wd i u) : Wd i ((a : Int) :: u) := fun x hx => by
  rcases List.mem_cons.1 hx with rfl | hx
  · omega
  · exact h x hx
theorem Wd.tail {i : Nat} {x : Int} {u : List Int} (h : Wd i (x :: u)) : Wd i u := fun y hy => h y (by simp [hy])
theorem Wd.head {i : Nat} {x : Int} {u : List Int} (h : Wd i (x :: u)) : ∃ a : Nat, x = a ∧ a < i := ⟨x.toNat, by have := h x (by simp); omega, by have := h x (by simp); omega⟩

/-- Two states have the same outputs for all words. -/
def Bis (i : Nat) (nx ot : List (List Int)) (s : Nat) (mx mt : List (List Int)) (t : Nat) : Prop := ∀ u, Wd i u → runO nx ot s u = runO mx mt t u
section
variable {i : Nat} {nx ot mx mt lx lt : List (List Int)} {s t r a : Nat}
theorem Bis.refl (i : Nat) (nx ot : List (List Int)) (s : Nat) : Bis i nx ot s nx ot s := fun _ _ => rfl
theorem Bis.symm (h : Bis i nx ot s mx mt t) : Bis i mx mt t nx ot s := fun u hu => (h u hu).symm
theorem Bis.trans (h : Bis i nx ot s mx mt t) (k : Bis i mx mt t lx lt r) : Bis i nx ot s lx lt r := fun u hu => (h u hu).trans (k u hu)
theorem Bis.out (h : Bis i nx ot s mx mt t) (ha : a < i) : oN ot s a = oN mt t a := by
  have := h [(a : Int)] ((Wd.nil i).cons ha)
  simpa [runO] using this
theorem Bis.next (h : Bis i nx ot s mx mt t) (ha : a < i) : Bis i nx ot (nN nx s a) mx mt (nN mx t a) := fun u hu => by
  have := h ((a : Int) :: u) (hu.cons ha)
  simp only [runO, Int.toNat_natCast, List.cons.injEq] at this
  exact this.2
end

theorem Mok.bis_cN {i st n : Nat} {nx ot : List (List Int)} (hM : Mok i st n nx ot) : ∀ (k : Nat) {s t : Nat}, s < n → t < n → Bis i nx ot s nx ot t → cN nx ot i n k s = cN nx ot i n k t
  | 0, s, t, hs, ht, _ => by rw [cN_zero hs, cN_zero ht]
  | k + 1, s, t, hs, ht, h => (hM.cN_succ hs ht).2 fun a ha => ⟨h.out ha, hM.bis_cN k (hM.nN_lt hs ha) (hM.nN_lt ht ha) (h.next ha)⟩
theorem Mok.eqc_step {i st n : Nat} {nx ot : List (List Int)} (hM : Mok i st n nx ot) {s t : Nat} (hs : s < n) (ht : t < n) (h : eqc nx ot i n s = eqc nx ot i n t) {a : Nat} (ha : a < i) :
    oN ot s a = oN ot t a ∧ eqc nx ot i n (nN nx s a) = eqc nx ot i n (nN nx t a) := by
  refine (hM.cN_succ hs ht).1 ?_ a ha
  unfold cN
  rw [hM.dep_stay]
  exact h
theorem Mok.eqc_bis {i st n : Nat} {nx ot : List (List Int)} (hM : Mok i st n nx ot) {s t : Nat} (hs : s < n) (ht : t < n) : eqc nx ot i n s = eqc nx ot i n t ↔ Bis i nx ot s nx ot t := by
  constructor
  · intro h u
    induction u generalizing s t with
    | nil => intro _; rfl
    | cons x u ih =>
      intro hu
      obtain ⟨a, rfl, ha⟩ := hu.head
      obtain ⟨h1, h2⟩ := hM.eqc_step hs ht h ha
      simp only [runO, Int.toNat_natCast]
      rw [h1, ih (hM.nN_lt hs ha) (hM.nN_lt ht ha) h2 hu.tail]
  · intro h
    exact hM.bis_cN _ hs ht h

/-- The machine of classes: its states have the outputs of those of the machine. -/
theorem Mok.quot_bis {i st n : Nat} {nx ot : List (List Int)} (hM : Mok i st n nx ot) {s : Nat} (hs : s < n) :
    Bis i (qN nx i (eqc nx ot i n) n) (qO ot (eqc nx ot i n) n) (nmb (eqc nx ot i n) s) nx ot s := by
  intro u
  induction u generalizing s with
  | nil => intro _; rfl
  | cons x u ih =>
    intro hu
    obtain ⟨a, rfl, ha⟩ := hu.head
    have hl := nmb_lt_reps (eqc nx ot i n) hs
    have hr := reps_get_lt (eqc nx ot i n) hl
    have hf := reps_at (eqc nx ot i n) hs
    obtain ⟨h1, h2⟩ := hM.eqc_step hr hs hf ha
    have e1 : oN (qO ot (eqc nx ot i n) n) (nmb (eqc nx ot i n) s) a = oN ot s a := by
      rw [← h1]; unfold oN; rw [qO_row _ _ hl]
    have e2 : nN (qN nx i (eqc nx ot i n) n) (nmb (eqc nx ot i n) s) a = nmb (eqc nx ot i n) (nN nx s a) := by
      have h3 := (nmb_eq (eqc nx ot i n)).2 h2
      rw [← h3]
      show (((qN nx i (eqc nx ot i n) n).getD _ []).getD a 0).toNat = _
      rw [qN_row _ _ _ hl, qR_at ha]
      exact Int.toNat_natCast _
    simp only [runO, Int.toNat_natCast]
    rw [e1, e2, ih (hM.nN_lt hs ha) hu.tail]
/-- Different states of the machine of classes have different outputs for a word. -/
theorem Mok.quot_red {i st n : Nat} {nx ot : List (List Int)} (hM : Mok i st n nx ot) {p q : Nat} (hp : p < (reps (eqc nx ot i n) n).length) (hq : q < (reps (eqc nx ot i n) n).length)
    (h : Bis i (qN nx i (eqc nx ot i n) n) (qO ot (eqc nx ot i n) n) p (qN nx i (eqc nx ot i n) n) (qO ot (eqc nx ot i n) n) q) : p = q := by
  have e1 := nmb_reps (eqc nx ot i n) hp
  have e2 := nmb_reps (eqc nx ot i n) hq
  have hr := reps_get_lt (eqc nx ot i n) hp
  have hs := reps_get_lt (eqc nx ot i n) hq
  have b1 := hM.quot_bis hr
  have b2 := hM.quot_bis hs
  rw [e1] at b1
  rw [e2] at b2
  have h2 := (hM.eqc_bis hr hs).2 ((b1.symm.trans h).trans b2)
  have h3 := (nmb_eq (eqc nx ot i n)).2 h2
  rw [e1, e2] at h3
  exact h3

/-- Lists of states of two machines, place by place with the same outputs. -/
def Par (i : Nat) (nx ot mx mt : List (List Int)) (l k : List Nat) : Prop := l.length = k.length ∧ ∀ j, j < l.length → Bis i nx ot (l.getD j 0) mx mt (k.getD j 0)
section
variable {i s1 s2 n m : Nat} {nx ot mx mt : List (List Int)}
theorem par_mem {l k : List Nat} (h : Par i nx ot mx mt l k) (hk : ∀ y, y ∈ k → y < m) (hR : ∀ p q, p < m → q < m → Bis i mx mt p mx mt q → p = q) {x y : Nat} (hb : Bis i nx ot x mx mt y) (hy : y < m) (hx : x ∈ l) : ∃ j, j < l.length ∧ l.getD j 0 = x ∧ k.getD j 0 = y := by
  obtain ⟨j, hj, rfl⟩ := List.getElem_of_mem hx
  have e : l.getD j 0 = l[j] := by rw [List.getD_eq_getElem?_getD, List.getElem?_eq_getElem hj]; rfl
  have h1 := h.2 j hj
  rw [e] at h1
  have hkj : k.getD j 0 ∈ k := getD_mem (by rw [← h.1]; exact hj)
  exact ⟨j, hj, e, hR _ _ (hk _ hkj) hy (h1.symm.trans hb)⟩
theorem Par.symm {l k : List Nat} (h : Par i nx ot mx mt l k) : Par i mx mt nx ot k l := ⟨h.1.symm, fun j hj => (h.2 j (by rw [h.1]; exact hj)).symm⟩
theorem par_addN (hR1 : ∀ p q, p < n → q < n → Bis i nx ot p nx ot q → p = q) (hR2 : ∀ p q, p < m → q < m → Bis i mx mt p mx mt q → p = q) {l k : List Nat} (h : Par i nx ot mx mt l k) (hl : ∀ y, y ∈ l → y < n) (hk : ∀ y, y ∈ k → y < m) {x y : Nat} (hx : x < n) (hy : y < m) (hb : Bis i nx ot x mx mt y) :
    Par i nx ot mx mt (addN l x) (addN k y) := by
  have hin : x ∈ l ↔ y ∈ k := by
    constructor
    · intro h1
      obtain ⟨j, hj, _, e⟩ := par_mem h hk hR2 hb hy h1
      rw [← e]; exact getD_mem (by rw [← h.1]; exact hj)
    · intro h1
      obtain ⟨j, hj, _, e⟩ := par_mem h.symm hl hR1 hb.symm hx h1
      rw [← e]; exact getD_mem (by rw [h.1]; exact hj)
  unfold addN
  by_cases h1 : x ∈ l
  · rw [if_pos h1, if_pos (hin.1 h1)]; exact h
  · rw [if_neg h1, if_neg (fun H => h1 (hin.2 H))]
    refine ⟨by rw [List.length_append, List.length_append, h.1]; rfl, fun j hj => ?_⟩
    rw [List.length_append] at hj
    by_cases e : j < l.length
    · rw [getD_pre e, getD_pre (by rw [← h.1]; exact e)]; exact h.2 j e
    · have ej : j = l.length := by simp at hj; omega
      subst ej
      have g1 : (l ++ [x]).getD l.length 0 = x := by simp [List.getD]
      have g2 : (k ++ [y]).getD l.length 0 = y := by rw [h.1]; simp [List.getD]
      rw [g1, g2]; exact hb
theorem par_addR (hM : Mok i s1 n nx ot) (hN : Mok i s2 m mx mt) (hR1 : ∀ p q, p < n → q < n → Bis i nx ot p nx ot q → p = q) (hR2 : ∀ p q, p < m → q < m → Bis i mx mt p mx mt q → p = q) {l k : List Nat} (h : Par i nx ot mx mt l k) (hl : Stt n l) (hk : Stt m k) {x y : Nat} (hx : x < n) (hy : y < m) (hb : Bis i nx ot x mx mt y) :
    ∀ a, a ≤ i → Par i nx ot mx mt (addR nx x l a) (addR mx y k a)
  | 0, _ => h
  | a + 1, ha => par_addN hR1 hR2 (par_addR hM hN hR1 hR2 h hl hk hx hy hb a (by omega)) (addR_stt hM hl hx a (by omega)).2 (addR_stt hN hk hy a (by omega)).2 (hM.nN_lt hx (by omega)) (hN.nN_lt hy (by omega)) (hb.next (by omega))
theorem par_bfs (hM : Mok i s1 n nx ot) (hN : Mok i s2 m mx mt) (hR1 : ∀ p q, p < n → q < n → Bis i nx ot p nx ot q → p = q) (hR2 : ∀ p q, p < m → q < m → Bis i mx mt p mx mt q → p = q) : ∀ (f : Nat) (l k : List Nat) (j : Nat), Par i nx ot mx mt l k → Stt n l → Stt m k →
    Par i nx ot mx mt (bfs nx i f l j) (bfs mx i f k j)
  | 0, _, _, _, h, _, _ => h
  | f + 1, l, k, j, h, hl, hk => by
    unfold bfs
    by_cases hj : j < l.length
    · rw [if_pos hj, if_pos (by rw [← h.1]; exact hj)]
      have hx := hl.2 _ (getD_mem hj)
      have hy := hk.2 _ (getD_mem (show j < k.length by rw [← h.1]; exact hj))
      exact par_bfs hM hN hR1 hR2 f _ _ (j + 1) (par_addR hM hN hR1 hR2 h hl hk hx hy (h.2 j hj) i (Nat.le_refl _)) (addR_stt hM hl hx i (Nat.le_refl _)) (addR_stt hN hk hy i (Nat.le_refl _))
    · rw [if_neg hj, if_neg (by rw [← h.1]; exact hj)]; exact h
theorem par_rch (hM : Mok i s1 n nx ot) (hN : Mok i s2 m mx mt) (hR1 : ∀ p q, p < n → q < n → Bis i nx ot p nx ot q → p = q) (hR2 : ∀ p q, p < m → q < m → Bis i mx mt p mx mt q → p = q) (hb : Bis i nx ot s1 mx mt s2) : Par i nx ot mx mt (rch nx i s1) (rch mx i s2) := by
  unfold rch
  rw [hM.nxl, hN.nxl, ← bfs_more hM (Stt.one hM.st) m, ← bfs_more hN (Stt.one hN.st) n, Nat.add_comm m n]
  refine par_bfs hM hN hR1 hR2 _ _ _ _ ⟨rfl, fun j hj => ?_⟩ (Stt.one hM.st) (Stt.one hN.st)
  have : j = 0 := by simp at hj; omega
  subst this; exact hb
theorem par_ix (hR2 : ∀ p q, p < m → q < m → Bis i mx mt p mx mt q → p = q) {l k : List Nat} (h : Par i nx ot mx mt l k) (hl : Stt n l) (hk : Stt m k) {x y : Nat} (hx : x ∈ l) (hy : y < m) (hb : Bis i nx ot x mx mt y) : ixN l x = ixN k y := by
  obtain ⟨j, hj, e1, e2⟩ := par_mem h hk.2 hR2 hb hy hx
  rw [← e1, ← e2, ixN_of hl.1 hj, ixN_of hk.1 (by rw [← h.1]; exact hj)]
theorem list_ext_rows {β : Type} {l k : List β} (d : β) (h1 : l.length = k.length) (h : ∀ s, s < l.length → l.getD s d = k.getD s d) : l = k := by
  apply List.ext_getElem h1
  intro s hs ht
  have := h s hs
  rw [List.getD_eq_getElem?_getD, List.getD_eq_getElem?_getD, List.getElem?_eq_getElem hs, List.getElem?_eq_getElem ht] at this
  exact this
/-- Reduced machines with the same outputs have the same trimmed machine. -/
theorem par_tr (hM : Mok i s1 n nx ot) (hN : Mok i s2 m mx mt) (hR1 : ∀ p q, p < n → q < n → Bis i nx ot p nx ot q → p = q) (hR2 : ∀ p q, p < m → q < m → Bis i mx mt p mx mt q → p = q) (hb : Bis i nx ot s1 mx mt s2) :
    trN nx i (rch nx i s1) = trN mx i (rch mx i s2) ∧ trO ot (rch nx i s1) = trO mt (rch mx i s2) := by
  have hP := par_rch hM hN hR1 hR2 hb
  have hl := hM.rch_stt
  have hk := hN.rch_stt
  constructor
  · refine list_ext_rows [] (by simp [trN, hP.1]) fun j hj => ?_
    have hj1 : j < (rch nx i s1).length := by simpa [trN] using hj
    have hj2 : j < (rch mx i s2).length := by rw [← hP.1]; exact hj1
    rw [tr_row hj1, tr_row hj2]
    unfold trR
    refine List.map_congr_left fun a ha => ?_
    rw [List.mem_range] at ha
    have m1 := hl.2 _ (getD_mem hj1)
    have m2 := hk.2 _ (getD_mem hj2)
    rw [par_ix hR2 hP hl hk (hM.rch_in (getD_mem hj1) ha) (hN.nN_lt m2 ha) ((hP.2 j hj1).next ha)]
  · refine list_ext_rows [] (by simp [trO, hP.1]) fun j hj => ?_
    have hj1 : j < (rch nx i s1).length := by simpa [trO] using hj
    have hj2 : j < (rch mx i s2).length := by rw [← hP.1]; exact hj1
    rw [tr_out hj1, tr_out hj2]
    have m1 := hM.row _ (hl.2 _ (getD_mem hj1))
    have m2 := hN.row _ (hk.2 _ (getD_mem hj2))
    refine list_ext_rows 0 (by rw [m1.2.1, m2.2.1]) fun a ha => ?_
    exact (hP.2 j hj1).out (by rw [← m1.2.1]; exact ha)
end

/-- The minimal machine is valid. -/
theorem Mok.mn {i st n : Nat} {nx ot : List (List Int)} (hM : Mok i st n nx ot) : Mok i 0 (mnR nx ot i st n).length (mnN nx ot i st n) (mnO nx ot i st n) := (hM.quot (eqc nx ot i n)).tr
/-- The minimal machine has the outputs of the machine. -/
theorem Mok.mn_bis {i st n : Nat} {nx ot : List (List Int)} (hM : Mok i st n nx ot) : Bis i (mnN nx ot i st n) (mnO nx ot i st n) 0 nx ot st := by
  intro u hu
  have hQ := hM.quot (eqc nx ot i n)
  have h1 := tr_run hQ u _ (st_mem _ _ _) hu
  rw [ixN_st] at h1
  exact h1.trans (hM.quot_bis hM.st u hu)
/-- Machines with the same outputs have the same minimal machine. -/
theorem mn_same {i s1 s2 n m : Nat} {nx ot mx mt : List (List Int)} (hM : Mok i s1 n nx ot) (hN : Mok i s2 m mx mt) (hb : Bis i nx ot s1 mx mt s2) : mnN nx ot i s1 n = mnN mx mt i s2 m ∧ mnO nx ot i s1 n = mnO mx mt i s2 m :=
  par_tr (hM.quot _) (hN.quot _) (fun _ _ hp hq h => hM.quot_red hp hq h) (fun _ _ hp hq h => hN.quot_red hp hq h) ((hM.quot_bis hM.st).trans (hb.trans (hN.quot_bis hN.st).symm))
theorem mnN_len (nx ot : List (List Int)) (i st n : Nat) : (mnN nx ot i st n).length = (mnR nx ot i st n).length := by unfold mnN trN; rw [List.length_map]
theorem mn_same_len {i s1 s2 n m : Nat} {nx ot mx mt : List (List Int)} (hM : Mok i s1 n nx ot) (hN : Mok i s2 m mx mt) (hb : Bis i nx ot s1 mx mt s2) : (mnR nx ot i s1 n).length = (mnR mx mt i s2 m).length := by
  rw [← mnN_len, ← mnN_len, (mn_same hM hN hb).1]
end Go.Proofs.Ytnifjagjcoegaaa
end

section
/- A machine whose states have other numbers. -/
namespace Go.Proofs.Ytnifjagjcoegaaa

/-- The state whose number becomes j. -/
def unS (n b j : Nat) : Nat := (j + (n - b % n)) % n
theorem unS_lt {n b j : Nat} (h : 0 < n) : unS n b j < n := Nat.mod_lt _ h
theorem unS_of {n b s : Nat} (h : s < n) : unS n b ((s + b) % n) = s := by
  unfold unS
  have hn : 0 < n := by omega
  have h1 := Nat.mod_lt b hn
  rw [Nat.mod_add_mod]
  have e : s + b + (n - b % n) = s + n * (b / n + 1) := by
    have := Nat.div_add_mod b n
    rw [Nat.mul_add, Nat.mul_one]
    omega
  rw [e, Nat.add_mul_mod_self_left, Nat.mod_eq_of_lt h]
theorem of_unS {n b j : Nat} (h : j < n) : (unS n b j + b) % n = j := by
  unfold unS
  have hn : 0 < n := by omega
  have h1 := Nat.mod_lt b hn
  rw [Nat.mod_add_mod]
  have e : j + (n - b % n) + b = j + n * (b / n + 1) := by
    have := Nat.div_add_mod b n
    rw [Nat.mul_add, Nat.mul_one]
    omega
  rw [e, Nat.add_mul_mod_self_left, Nat.mod_eq_of_lt h]
/-- A row of the renumbered machine. -/
def rnR (nx : List (List Int)) (i n b s : Nat) : List Int := (List.range i).map fun a => (((nN nx s a + b) % n : Nat) : Int)
theorem rnR_len (nx : List (List Int)) (i n b s : Nat) : (rnR nx i n b s).length = i := by simp [rnR]
theorem rnR_at {nx : List (List Int)} {i n b s a : Nat} (ha : a < i) : (rnR nx i n b s).getD a 0 = (((nN nx s a + b) % n : Nat) : Int) := by unfold rnR; simp [List.getD, ha]
theorem rnR_take (nx : List (List Int)) (i n b s a : Nat) (ha : a < i) : (rnR nx i n b s).take (a + 1) = (rnR nx i n b s).take a ++ [(((nN nx s a + b) % n : Nat) : Int)] := by
  rw [take_next (by rw [rnR_len]; exact ha)]
  have := rnR_at (nx := nx) (n := n) (b := b) (s := s) ha
  rw [List.getD_eq_getElem?_getD] at this
  rw [this]
def rnN (nx : List (List Int)) (i n b : Nat) : List (List Int) := (List.range n).map fun j => rnR nx i n b (unS n b j)
def rnO (ot : List (List Int)) (n b : Nat) : List (List Int) := (List.range n).map fun j => ot.getD (unS n b j) []
theorem rnN_row {nx : List (List Int)} {i n b j : Nat} (h : j < n) : (rnN nx i n b).getD j [] = rnR nx i n b (unS n b j) := by unfold rnN; simp [List.getD, h]
theorem rnO_row {ot : List (List Int)} {n b j : Nat} (h : j < n) : (rnO ot n b).getD j [] = ot.getD (unS n b j) [] := by unfold rnO; simp [List.getD, h]
theorem Mok.rn {i st n : Nat} {nx ot : List (List Int)} (hM : Mok i st n nx ot) (b : Nat) : Mok i ((st + b) % n) n (rnN nx i n b) (rnO ot n b) where
  i1 := hM.i1
  i2 := hM.i2
  n1 := hM.n1
  n2 := hM.n2
  st := Nat.mod_lt _ hM.n1
  nxl := by simp [rnN]
  otl := by simp [rnO]
  row := fun j hj => by
    rw [rnN_row hj, rnO_row hj]
    obtain ⟨h1, h2, h3⟩ := hM.row _ (unS_lt (b := b) (j := j) hM.n1)
    refine ⟨rnR_len _ _ _ _ _, h2, fun a ha => ?_⟩
    rw [rnR_at ha]
    have h4 := Nat.mod_lt (nN nx (unS n b j) a + b) hM.n1
    have h5 := h3 a ha
    exact ⟨by omega, by omega, h5.2.2.1, h5.2.2.2⟩
theorem Mok.rn_bis {i st n : Nat} {nx ot : List (List Int)} (hM : Mok i st n nx ot) (b : Nat) : ∀ (u : List Int) (s : Nat), s < n → Wd i u → runO (rnN nx i n b) (rnO ot n b) ((s + b) % n) u = runO nx ot s u
  | [], _, _, _ => rfl
  | x :: u, s, hs, hu => by
    obtain ⟨a, rfl, ha⟩ := hu.head
    have hj := Nat.mod_lt (s + b) hM.n1
    have e1 : oN (rnO ot n b) ((s + b) % n) a = oN ot s a := by unfold oN; rw [rnO_row hj, unS_of hs]
    have e2 : nN (rnN nx i n b) ((s + b) % n) a = (nN nx s a + b) % n := by
      show (((rnN nx i n b).getD _ []).getD a 0).toNat = _
      rw [rnN_row hj, unS_of hs, rnR_at ha]
      exact Int.toNat_natCast _
    simp only [runO, Int.toNat_natCast]
    rw [e1, e2, hM.rn_bis b u _ (hM.nN_lt hs ha) hu.tail]
end Go.Proofs.Ytnifjagjcoegaaa
end

section
/- A machine whose states have other numbers: the walk. -/
namespace Go.Proofs.Ytnifjagjcoegaaa
open Go.RowKit

/-- A block of headers. -/
def Hblk (w : World) (g : Nat) (hs : List Value) : Prop := w.heap[g]? = some (.cells hs.toArray 26 (0, 0))
theorem Hblk.set {w : World} {g : Nat} {hs : List Value} (h : Hblk w g hs) (j : Nat) (v : Value) : Hblk (w.setCell ⟨g, j, none⟩ v) g (hs.set j v) := by
  have := heap_setCell_same w g j _ _ v h
  unfold Hblk
  rw [this]; simp
theorem Hblk.at_ {w : World} {g : Nat} {hs : List Value} (h : Hblk w g hs) {j : Nat} (hj : j < hs.length) : w.cell? ⟨g, j, none⟩ = some hs[j] ∧ w.frozen? ⟨g, j, none⟩ = false := by
  refine ⟨?_, frozen_of_row w g j _ _ h⟩
  rw [cell_of_row w g j _ _ (0, 0) h]
  simp [hj]
theorem Hblk.cell_ {w : World} {g : Nat} {hs : List Value} (h : Hblk w g hs) {j : Nat} (hj : j < hs.length) : ∃ u, w.cell? ⟨g, j, none⟩ = some u ∧ w.frozen? ⟨g, j, none⟩ = false := ⟨_, h.at_ hj⟩
theorem Hblk.kept {w w' : World} {g : Nat} {hs : List Value} (h : Hblk w g hs) {k : Nat} (hb : Below k w w') (hg : g < k) : Hblk w' g hs := (hb.block g hg).trans h
theorem Hblk.other {w : World} {g : Nat} {hs : List Value} (h : Hblk w g hs) {a : Addr} (ha : g ≠ a.block) (v : Value) : Hblk (w.setCell a v) g hs := (heap_setCell_other w a g v ha).trans h
/-- What make([][]int, n) leaves. -/
def mkH (n : Nat) : List Value := List.replicate n (.slice none 0 0)
theorem run_make_hdr (n : Nat) (hn : n ≤ 128) (w : World) : (Instr.makeSlice 22 (.int .i64 n) (.int .i64 n)).run Try.prog w = .ok (.slice (some ⟨w.heap.size, 0, none⟩) n n) (w.alloc (.cells (mkH n).toArray 26)) := by
  have hinfo : (Try.prog.info? 26).map (fun i => (i.zero, i.size, i.bytes)) = some (some (.slice none 0 0), 1, 24) := by kernel_rfl
  obtain ⟨i, hi, hz0, hz1, hz2⟩ := info_parts hinfo
  have h := run_make (P := Try.prog) w 22 26 i _ Try.underlying22 hi hz0 .i64 .i64 n n (by omega) (by omega) (by rw [hz2]; omega) (by omega)
  rw [h, hz1]
  have e : madeCells (Value.slice none 0 0).cells ((n : Int).toNat * 1) = (mkH n).toArray := by
    apply Array.ext'
    rw [show (Value.slice none 0 0).cells = #[Value.slice none 0 0] from rfl, Nat.mul_one, toList_madeCells_one]
    simp [mkH]
  rw [e]; simp
/-- The first s rows stand where their numbers say. -/
def RowsTo (w : World) (base n b : Nat) (hs : List Value) (rows : Nat → List Int) (s : Nat) : Prop := hs.length = n ∧ ∀ t, t < s → ∃ A c, hs[(t + b) % n]? = some (.slice A (rows t).length c) ∧ Owned w base (.slice A (rows t).length c) (rows t)
theorem RowsTo.zero (w : World) (base n b : Nat) (rows : Nat → List Int) : RowsTo w base n b (mkH n) rows 0 := ⟨by simp [mkH], fun t h => absurd h (by omega)⟩
theorem RowsTo.keep {w w' : World} {base n b s : Nat} {hs : List Value} {rows : Nat → List Int} (h : RowsTo w base n b hs rows s) (hk : ∀ v xs, Owned w base v xs → Owned w' base v xs) : RowsTo w' base n b hs rows s :=
  ⟨h.1, fun t ht => by obtain ⟨A, c, h1, h2⟩ := h.2 t ht; exact ⟨A, c, h1, hk _ _ h2⟩⟩
theorem mod_inj {n b s t : Nat} (hs : s < n) (ht : t < n) (h : (s + b) % n = (t + b) % n) : s = t := by rw [← unS_of (b := b) hs, ← unS_of (b := b) ht, h]
theorem RowsTo.succ {w : World} {base n b s : Nat} {hs : List Value} {rows : Nat → List Int} (h : RowsTo w base n b hs rows s) (hs' : s < n) {A : Option Addr} {c : Nat} (ho : Owned w base (.slice A (rows s).length c) (rows s)) : RowsTo w base n b (hs.set ((s + b) % n) (.slice A (rows s).length c)) rows (s + 1) := by
  refine ⟨by rw [List.length_set]; exact h.1, fun t ht => ?_⟩
  rw [List.getElem?_set]
  by_cases e : t = s
  · subst e
    exact ⟨A, c, by rw [if_pos rfl, if_pos (by rw [h.1]; exact Nat.mod_lt _ (by omega))], ho⟩
  · obtain ⟨A', c', h1, h2⟩ := h.2 t (by omega)
    exact ⟨A', c', by rw [if_neg (fun H => e (mod_inj (by omega) hs' H.symm))]; exact h1, h2⟩
theorem RowsTo.lists {w : World} {base n b g : Nat} {hs : List Value} {rows : Nat → List Int} (h : RowsTo w base n b hs rows n) (hn : n ≤ 128) (hg : Hblk w g hs) (hr : ∀ t, t < n → (rows t).length ≤ 64) : Lists w (some ⟨g, 0, none⟩) n ((List.range n).map fun j => rows (unS n b j)) := by
  refine ⟨by simp, by omega, fun h0 => ⟨g, 0, rfl, heap_lt hg, fun j hj => ?_⟩⟩
  have hu := unS_lt (b := b) (j := j) h0
  obtain ⟨A, c, h1, h2⟩ := h.2 _ hu
  rw [of_unS hj] at h1
  have e : ((List.range n).map fun j => rows (unS n b j)).getD j [] = rows (unS n b j) := by simp [List.getD, hj]
  rw [e]
  obtain ⟨hc, _⟩ := hg.at_ (j := j) (by rw [h.1]; exact hj)
  rw [List.getElem?_eq_getElem (by rw [h.1]; exact hj)] at h1
  simp only [Option.some.injEq] at h1
  rw [h1] at hc
  exact ⟨A, _, c, by rw [Nat.zero_add]; exact hc, h2.ints (by have := hr _ hu; omega)⟩
theorem three (w : World) (X Y Z : Obj) : (((w.alloc X).alloc Y).alloc Z).heap[w.heap.size]? = some X ∧ (((w.alloc X).alloc Y).alloc Z).heap[w.heap.size + 1]? = some Y ∧ (((w.alloc X).alloc Y).alloc Z).heap[w.heap.size + 1 + 1]? = some Z ∧ Below w.heap.size w (((w.alloc X).alloc Y).alloc Z) := by
  have b1 := alloc_below w X
  have b2 := alloc_below (w.alloc X) Y
  have b3 := alloc_below ((w.alloc X).alloc Y) Z
  have h1 := heap_alloc_new w X
  have h2 := heap_alloc_new (w.alloc X) Y
  have h3 := heap_alloc_new ((w.alloc X).alloc Y) Z
  have e1 : (w.alloc X).heap.size = w.heap.size + 1 := by simp
  have e2 : ((w.alloc X).alloc Y).heap.size = w.heap.size + 1 + 1 := by simp
  rw [e1] at h2 b2
  rw [e2] at h3 b3
  refine ⟨?_, ?_, h3, b1.trans ((b2.mono (by omega)).trans (b3.mono (by omega)))⟩
  · rw [b3.block _ (by omega), b2.block _ (by omega)]; exact h1
  · rw [b3.block _ (by omega)]; exact h2
/-- What the machine that is to be filled is. -/
def RnCut (w2 : World) (i r0 n : Nat) (v : Value) (w : World) : Prop := ∃ gT gN gO : Nat, v = .pointer (some ⟨gT, 0, none⟩) ∧ Mblk w gT (.int .i64 i) (.int .i64 r0) (.slice (some ⟨gN, 0, none⟩) n n) (.slice (some ⟨gO, 0, none⟩) n n) ∧ Hblk w gN (mkH n) ∧ Hblk w gO (mkH n) ∧ gN ≠ gO ∧ gT ≠ gN ∧ gT ≠ gO ∧ w2.heap.size ≤ gT ∧ w2.heap.size ≤ gN ∧ w2.heap.size ≤ gO ∧ Below w2.heap.size w2 w
theorem RnCut.abc (w2 : World) (i r0 n : Nat) : RnCut w2 i r0 n (.pointer (some ⟨w2.heap.size + 1 + 1, 0, none⟩)) (((w2.alloc (.cells (mkH n).toArray 26)).alloc (.cells (mkH n).toArray 26)).alloc (.cells #[.int .i64 i, .int .i64 r0, .slice (some ⟨w2.heap.size, 0, none⟩) n n, .slice (some ⟨w2.heap.size + 1, 0, none⟩) n n] 58)).drew := by
  obtain ⟨h1, h2, h3, h4⟩ := three w2 (.cells (mkH n).toArray 26) (.cells (mkH n).toArray 26) (.cells #[.int .i64 i, .int .i64 r0, .slice (some ⟨w2.heap.size, 0, none⟩) n n, .slice (some ⟨w2.heap.size + 1, 0, none⟩) n n] 58)
  exact ⟨_, w2.heap.size, w2.heap.size + 1, rfl, h3, h1, h2, by omega, by omega, by omega, by omega, by omega, by omega, h4.drew⟩
theorem RnCut.bac (w2 : World) (i r0 n : Nat) : RnCut w2 i r0 n (.pointer (some ⟨w2.heap.size + 1 + 1, 0, none⟩)) (((w2.alloc (.cells (mkH n).toArray 26)).alloc (.cells (mkH n).toArray 26)).alloc (.cells #[.int .i64 i, .int .i64 r0, .slice (some ⟨w2.heap.size + 1, 0, none⟩) n n, .slice (some ⟨w2.heap.size, 0, none⟩) n n] 58)).drew := by
  obtain ⟨h1, h2, h3, h4⟩ := three w2 (.cells (mkH n).toArray 26) (.cells (mkH n).toArray 26) (.cells #[.int .i64 i, .int .i64 r0, .slice (some ⟨w2.heap.size + 1, 0, none⟩) n n, .slice (some ⟨w2.heap.size, 0, none⟩) n n] 58)
  exact ⟨_, w2.heap.size + 1, w2.heap.size, rfl, h3, h2, h1, by omega, by omega, by omega, by omega, by omega, by omega, h4.drew⟩
theorem RnCut.acb (w2 : World) (i r0 n : Nat) : RnCut w2 i r0 n (.pointer (some ⟨w2.heap.size + 1, 0, none⟩)) (((w2.alloc (.cells (mkH n).toArray 26)).alloc (.cells #[.int .i64 i, .int .i64 r0, .slice (some ⟨w2.heap.size, 0, none⟩) n n, .slice (some ⟨w2.heap.size + 1 + 1, 0, none⟩) n n] 58)).alloc (.cells (mkH n).toArray 26)).drew := by
  obtain ⟨h1, h2, h3, h4⟩ := three w2 (.cells (mkH n).toArray 26) (.cells #[.int .i64 i, .int .i64 r0, .slice (some ⟨w2.heap.size, 0, none⟩) n n, .slice (some ⟨w2.heap.size + 1 + 1, 0, none⟩) n n] 58) (.cells (mkH n).toArray 26)
  exact ⟨_, w2.heap.size, w2.heap.size + 1 + 1, rfl, h2, h1, h3, by omega, by omega, by omega, by omega, by omega, by omega, h4.drew⟩
theorem RnCut.bca (w2 : World) (i r0 n : Nat) : RnCut w2 i r0 n (.pointer (some ⟨w2.heap.size + 1, 0, none⟩)) (((w2.alloc (.cells (mkH n).toArray 26)).alloc (.cells #[.int .i64 i, .int .i64 r0, .slice (some ⟨w2.heap.size + 1 + 1, 0, none⟩) n n, .slice (some ⟨w2.heap.size, 0, none⟩) n n] 58)).alloc (.cells (mkH n).toArray 26)).drew := by
  obtain ⟨h1, h2, h3, h4⟩ := three w2 (.cells (mkH n).toArray 26) (.cells #[.int .i64 i, .int .i64 r0, .slice (some ⟨w2.heap.size + 1 + 1, 0, none⟩) n n, .slice (some ⟨w2.heap.size, 0, none⟩) n n] 58) (.cells (mkH n).toArray 26)
  exact ⟨_, w2.heap.size + 1 + 1, w2.heap.size, rfl, h2, h3, h1, by omega, by omega, by omega, by omega, by omega, by omega, h4.drew⟩
theorem RnCut.cab (w2 : World) (i r0 n : Nat) : RnCut w2 i r0 n (.pointer (some ⟨w2.heap.size, 0, none⟩)) (((w2.alloc (.cells #[.int .i64 i, .int .i64 r0, .slice (some ⟨w2.heap.size + 1, 0, none⟩) n n, .slice (some ⟨w2.heap.size + 1 + 1, 0, none⟩) n n] 58)).alloc (.cells (mkH n).toArray 26)).alloc (.cells (mkH n).toArray 26)).drew := by
  obtain ⟨h1, h2, h3, h4⟩ := three w2 (.cells #[.int .i64 i, .int .i64 r0, .slice (some ⟨w2.heap.size + 1, 0, none⟩) n n, .slice (some ⟨w2.heap.size + 1 + 1, 0, none⟩) n n] 58) (.cells (mkH n).toArray 26) (.cells (mkH n).toArray 26)
  exact ⟨_, w2.heap.size + 1, w2.heap.size + 1 + 1, rfl, h1, h2, h3, by omega, by omega, by omega, by omega, by omega, by omega, h4.drew⟩
theorem RnCut.cba (w2 : World) (i r0 n : Nat) : RnCut w2 i r0 n (.pointer (some ⟨w2.heap.size, 0, none⟩)) (((w2.alloc (.cells #[.int .i64 i, .int .i64 r0, .slice (some ⟨w2.heap.size + 1 + 1, 0, none⟩) n n, .slice (some ⟨w2.heap.size + 1, 0, none⟩) n n] 58)).alloc (.cells (mkH n).toArray 26)).alloc (.cells (mkH n).toArray 26)).drew := by
  obtain ⟨h1, h2, h3, h4⟩ := three w2 (.cells #[.int .i64 i, .int .i64 r0, .slice (some ⟨w2.heap.size + 1 + 1, 0, none⟩) n n, .slice (some ⟨w2.heap.size + 1, 0, none⟩) n n] 58) (.cells (mkH n).toArray 26) (.cells (mkH n).toArray 26)
  exact ⟨_, w2.heap.size + 1 + 1, w2.heap.size + 1, rfl, h1, h3, h2, by omega, by omega, by omega, by omega, by omega, by omega, h4.drew⟩
end Go.Proofs.Ytnifjagjcoegaaa
end

section
/- renamed: the walk. -/
namespace Go.Proofs.Ytnifjagjcoegaaa
open Go.RowKit

set_option maxHeartbeats 8000000 in
set_option maxRecDepth 100000 in
theorem prenm (i st n b : Nat) (A B : Option Addr) (c d : Nat) (nx ot : List (List Int)) (w : World) (hx : Lists w A n nx) (ho : Lists w B n ot) (hM : Mok i st n nx ot) (hb : b ≤ 255) :
    Calls Try.prog 61 #[.agg #[.int .i64 i, .int .i64 st, .slice A n c, .slice B n d], .int .i64 b] w fun e w' => ∃ A' c' B' d',
      e = .returned (.agg #[.int .i64 i, .int .i64 ((st + b) % n : Nat), .slice A' n c', .slice B' n d']) ∧ Lists w' A' n (rnN nx i n b) ∧ Lists w' B' n (rnO ot n b) ∧ Below w.heap.size w w' := by
  have hn := hx.2.1
  have hn2 := hM.n2
  have hn1 := hM.n1
  have hst := hM.st
  have hi64 := hM.i2
  have hlo := Lib.hid ho
  obtain ⟨g, hg⟩ : ∃ g, g = w.heap.size := ⟨_, rfl⟩
  obtain ⟨w1, hw1⟩ : ∃ w1, w1 = w.alloc (.cells #[.int .i64 i, .int .i64 st, .slice A n c, .slice B n d] 58) := ⟨_, rfl⟩
  have hb1 : Below w.heap.size w w1 := by rw [hw1]; exact alloc_below _ _
  have hz1 : w1.heap.size = g + 1 := by rw [hw1, hg]; simp
  have hB1 : Mblk w1 g (.int .i64 i) (.int .i64 st) (.slice A n c) (.slice B n d) := by rw [hw1, hg]; exact heap_alloc_new _ _
  obtain ⟨w2, hw2⟩ : ∃ w2, w2 = w1.alloc (.cells #[.int .i64 0, .int .i64 0, .slice none 0 0, .slice none 0 0] 58) := ⟨_, rfl⟩
  have hb2 : Below w1.heap.size w1 w2 := by rw [hw2]; exact alloc_below _ _
  have hz2 : w2.heap.size = g + 2 := by rw [hw2]; simp; omega
  have hR2 : Mblk w2 (g + 1) (.int .i64 0) (.int .i64 0) (.slice none 0 0) (.slice none 0 0) := by rw [hw2, ← hz1]; exact heap_alloc_new _ _
  have hB2 := hB1.kept hb2 (show g < w1.heap.size by omega)
  have hbw2 : Below w.heap.size w w2 := bt hb1 hb2
  have HW : Hid (w2 = (w.alloc (.cells #[.int .i64 i, .int .i64 st, .slice A n c, .slice B n d] 58)).alloc (.cells #[.int .i64 0, .int .i64 0, .slice none 0 0, .slice none 0 0] 58)) := Lib.hid (by rw [hw2, hw1])
  have HG := Lib.hid hg
  have HZ2 := Lib.hid hz2
  have HB2 := Lib.hid hB2
  have HR2 := Lib.hid hR2
  obtain ⟨k0, k1, k2, k3, _⟩ := hB2.cells
  have hmk := fun w => run_make_hdr n hn2 w
  obtain ⟨H0, hH0⟩ : ∃ H0, H0 = (mkH n).toArray := ⟨_, rfl⟩
  rw [← hH0] at hmk
  have HH0 := Lib.hid hH0
  obtain ⟨r0, hr0⟩ : ∃ r0, r0 = (st + b) % n := ⟨_, rfl⟩
  have HR0 := Lib.hid hr0
  obtain ⟨p0, hp0⟩ : ∃ p0 : Nat, p0 = st + b := ⟨_, rfl⟩
  have hmod : ((p0 : Int)).tmod (n : Int) = (r0 : Int) := by rw [hr0, hp0]; rfl
  have hnz : ¬ n = 0 := by omega
  have hwr : IntKind.i64.wrap ((st : Int) + (b : Int)) = (p0 : Int) := by rw [hp0]; exact IntWalk.i64_in _ (by omega)
  have HP0 := Lib.hid hp0
  have HS := Lib.hid (show ∀ W : World, Below w2.heap.size w2 W → W.cell? ⟨g, 0, none⟩ = some (.int .i64 i) ∧ W.cell? ⟨g, 1, none⟩ = some (.int .i64 st) from fun W h => ⟨(h.cell (p := ⟨g, 0, none⟩) (block_lt k0)).trans k0, (h.cell (p := ⟨g, 1, none⟩) (block_lt k1)).trans k1⟩)
  rw [← hr0]
  clear hp0
  clear hw1 hw2 hz1 hb1 hb2 hB1 hR2 hg hB2 hz2 hH0 hr0
  go_enter Try.func61, Try.ntmps61
  go_wp2_with fail
  rw [← HW.out]
  try rw [← HG.out]
  have n1 := World.new_ne w2 _ k0
  have n2 := World.new_ne w2 _ k1
  go_upto_region 2 with fail
  go_cut [6] from 13 to 25 (fun v wx => RnCut w2 i r0 n v wx)
  case first =>
    go_region_held3 (fun w' => w'.cell? ⟨g, 0, none⟩ = some (.int .i64 i) ∧ w'.cell? ⟨g, 1, none⟩ = some (.int .i64 st)) (first | exact HS.out _ (Below.refl _ _).drew | exact HS.out _ ((Below.refl _ _).alloc (Nat.le_refl _) _).drew | exact HS.out _ (((Below.refl _ _).alloc (Nat.le_refl _) _).alloc (by simp) _).drew | exact HS.out _ ((((Below.refl _ _).alloc (Nat.le_refl _) _).alloc (by simp) _).alloc (by simp; omega) _).drew | exact HS.out _ ((((((((Below.refl _ _).alloc (Nat.le_refl _) _).alloc (by simp) _).alloc (by simp; omega) _).setCell (by simp) _).setCell (by simp) _).setCell (by simp) _).setCell (by simp) _).drew | go_keep) (fail)
    all_goals
      go_wp2_with fail
      go_meet
      rw [HH0.out]
      first | exact RnCut.abc _ _ _ _ | exact RnCut.bac _ _ _ _ | exact RnCut.acb _ _ _ _ | exact RnCut.bca _ _ _ _ | exact RnCut.cab _ _ _ _ | exact RnCut.cba _ _ _ _
  case rest =>
    obtain ⟨gT, gN, gO, rfl, hT, hHN, hHO, e1, e2, e3, l1, l2, l3, hbx⟩ := hcut
    have hB3 := HB2.out.kept hbx (by have := HZ2.out; omega)
    have hbw := hbw2.trans (hbx.mono (by have := HZ2.out; have := HG.out; omega))
    have HTc := Lib.hid hT
    have HNc := Lib.hid hHN
    have HOc := Lib.hid hHO
    have HX := Lib.hid hbx
    have hge : g < w2.heap.size := by have := HZ2.out; omega
    clear hwr hmod hmk n1 n2 k0 k1 k2 k3 hT hHN hHO hbx
    obtain ⟨k0, k1, k2, k3, _⟩ := hB3.cells
    obtain ⟨B0, hB0⟩ : ∃ B0, B0 = w2.heap.size := ⟨_, rfl⟩
    rw [← hB0] at l1 l2 l3 HX hge
    have HB0 := Lib.hid hB0
    clear hB3 hB0
    go_wp2
    clear k0 k1 k2 k3
    go_loopw [29] (fun v wr => ∃ (s : Nat) (hN hO : List Value), s ≤ n ∧ v = .int .i64 s ∧ Mblk wr gT (.int .i64 i) (.int .i64 r0) (.slice (some ⟨gN, 0, none⟩) n n) (.slice (some ⟨gO, 0, none⟩) n n) ∧ Hblk wr gN hN ∧ Hblk wr gO hO ∧ RowsTo wr B0 n b hN (rnR nx i n b) s ∧ RowsTo wr B0 n b hO (fun t => ot.getD t []) s ∧ Below B0 w2 wr) (fun v _ => n - (intOf v).toNat)
    case atStart => exact ⟨0, mkH n, mkH n, Nat.zero_le _, rfl, HTc.out, HNc.out, HOc.out, RowsTo.zero _ _ _ _ _, RowsTo.zero _ _ _ _ _, HX.out⟩
    case round =>
      obtain ⟨s, hN, hO, hs, rfl, hT, hHN, hHO, hRN, hRO, hbr⟩ := hrel
      have hbW : Below w.heap.size w wr := hbw2.trans (hbr.mono (by have := HZ2.out; have := HG.out; have := HB0.out; omega))
      have hbx := HB2.out.kept hbr hge
      have HT := Lib.hid hT
      have HN := Lib.hid hHN
      have HO := Lib.hid hHO
      have HRN := Lib.hid hRN
      have HRO := Lib.hid hRO
      have HBR := Lib.hid hbr
      have HBX := Lib.hid hbx
      have hzT : gT < wr.heap.size := heap_lt hT
      have hzN : gN < wr.heap.size := heap_lt hHN
      have hzO : gO < wr.heap.size := heap_lt hHO
      clear hT hHN hHO hRN hRO hbr hbx
      by_cases hlt : s < n
      · obtain ⟨g1, p1, A3, n1, c3, rfl, hg1, hd1, hr1⟩ := hx.at_ hlt
        obtain ⟨g2, p2, A4, n2, c4, rfl, hg2, hd2, hr2⟩ := hlo.out.at_ hlt
        have hi1 := (hM.row s hlt).1
        have hi2 := (hM.row s hlt).2.1
        have m1 := hr1.1
        have m2 := hr2.1
        obtain rfl : n1 = i := by omega
        obtain rfl : n1 = n2 := by omega
        clear m1 m2
        obtain ⟨k0, k1, k2, k3, _⟩ := HBX.out.cells
        go_wp2
        obtain ⟨wo, hwo⟩ : ∃ wo : World, wo = wr := ⟨_, rfl⟩
        rw [← hwo] at HT HN HO HRN HRO HBR HBX hbW hzT hzN hzO ⊢
        clear hwo k0 k1 k2 k3
        go_loopw [8, 34] (fun v8 v34 wq => ∃ (a : Nat) (A' : Option Addr) (c' : Nat), a ≤ n1 ∧ v34 = .int .i64 a ∧ v8 = .slice A' a c' ∧ Owned wq wo.heap.size (.slice A' a c') ((rnR nx n1 n b s).take a) ∧ Below wo.heap.size wo wq) (fun _ v _ => n1 - (intOf v).toNat)
        case atStart => exact ⟨0, none, 0, Nat.zero_le _, rfl, rfl, Owned.nil _ _, Below.refl _ _⟩
        case round =>
          obtain ⟨a, A', c', ha, rfl, rfl, ho, hbq⟩ := hrel
          have hzq := hbq.size
          have hbW2 := bt hbW hbq
          obtain ⟨k0, k1, k2, k3, _⟩ := (HBX.out.kept hbq (heap_lt HBX.out)).cells
          by_cases hla : a < n1
          · obtain ⟨bq, oq, rfl, hbq1, hcq⟩ := hr1.at_ hla
            have e4 := (hbW2.cell (p := ⟨g1, p1 + s, none⟩) hg1).trans hd1
            have e5 := (hbW2.cell (p := ⟨bq, oq + a, none⟩) hbq1).trans hcq
            rw [hM.nN_eq hlt hla] at e5
            have ht := hM.nN_lt hlt hla
            have htk := rnR_take nx n1 n b s a hla
            have hlen : ((rnR nx n1 n b s).take a).length = a := by rw [List.length_take, rnR_len]; omega
            generalize nN nx s a = t at e5 ht htk
            obtain ⟨A2, c2, w3, hrn, ho2, hb2, _⟩ := run_append_one ho (((t + b) % n : Nat) : Int) hzq (by rw [hlen]; omega)
            rw [hlen] at hrn ho2
            have HO2 := Lib.hid (show Owned w3 wo.heap.size (.slice A2 (a + 1) c2) ((rnR nx n1 n b s).take (a + 1)) by rw [htk]; exact ho2)
            have HB2' := Lib.hid (hbq.trans hb2)
            obtain ⟨r, hr⟩ : ∃ r, r = (t + b) % n := ⟨_, rfl⟩
            have q1 : ((t : Int) + (b : Int)) % (n : Int) = (r : Int) := by rw [hr]; rfl
            have q2 : ((t : Int) + (b : Int)).tmod (n : Int) = (r : Int) := by rw [hr]; rfl
            rw [← hr] at hrn
            clear hr htk ho2 hb2 ho hbq hcq
            go_wp2_with (at_builtin; refine Lib.wpList_append_run _ rfl _ _ _ _ rfl _ _ rfl rfl _ _ hrn ?_)
            go_roundw
            case rel => exact ⟨a + 1, A2, c2, by omega, by go_num, rfl, HO2.out, HB2'.out⟩
            case measure => simp [intOf]; omega
          · obtain rfl : a = n1 := by omega
            have hall : (rnR nx a n b s).take a = rnR nx a n b s := List.take_of_length_le (by rw [rnR_len]; exact Nat.le_refl _)
            rw [hall] at ho
            have hl9 : (rnR nx a n b s).length = a := rnR_len _ _ _ _ _
            obtain ⟨r, hr⟩ : ∃ r, r = (s + b) % n := ⟨_, rfl⟩
            obtain ⟨p9, hp9⟩ : ∃ p9, p9 = s + b := ⟨_, rfl⟩
            have hrn9 : r < n := by rw [hr]; exact Nat.mod_lt _ hn1
            have hB0o : B0 ≤ wo.heap.size := by omega
            have ho9 := ho.lower (base' := B0) hB0o
            have hT9 := HT.out.kept hbq hzT
            have hN9 := HN.out.kept hbq hzN
            have hO9 := HO.out.kept hbq hzO
            have hRN9 := HRN.out.keep (w' := wr) fun v xs h => h.kept hbq
            have hRO9 := HRO.out.keep (w' := wr) fun v xs h => h.kept hbq
            have hBX9 := HBX.out.kept hbq (heap_lt HBX.out)
            have hbr9 : Below B0 w2 wr := HBR.out.trans (hbq.mono hB0o)
            obtain ⟨u0, q0, f0⟩ := hN9.cell_ (j := r) (by rw [hRN9.1]; exact hrn9)
            obtain ⟨t0, t1, t2, t3, _⟩ := hT9.cells
            have hw1 : IntKind.i64.wrap ((s : Int) + (b : Int)) = (p9 : Int) := by rw [hp9]; exact IntWalk.i64_in _ (by omega)
            have hw2 : (p9 : Int).tmod (n : Int) = (r : Int) := by rw [hr, hp9]; rfl
            have hnz : ¬ n = 0 := by omega
            have j1 : (0 : Int) ≤ (r : Int) := by omega
            have j2 : (r : Int) < (n : Int) := by omega
            obtain ⟨V, hV⟩ : ∃ V, V = Value.slice A' a c' := ⟨_, rfl⟩
            have F1 : Mblk (wr.setCell ⟨gN, r, none⟩ V) gT (.int .i64 a) (.int .i64 r0) (.slice (some ⟨gN, 0, none⟩) n n) (.slice (some ⟨gO, 0, none⟩) n n) := (heap_setCell_other wr ⟨gN, r, none⟩ gT V e2).trans hT9
            have F2 := hN9.set r V
            have F3 := hO9.other (a := ⟨gN, r, none⟩) (fun e => e1 e.symm) V
            have F4 : RowsTo (wr.setCell ⟨gN, r, none⟩ V) B0 n b (hN.set r V) (rnR nx a n b) (s + 1) := by
              have h := hRN9.succ hlt (A := A') (c := c') (by rw [hl9]; exact ho9)
              rw [hl9, ← hr, ← hV] at h
              exact h.keep fun v xs h => h.off hN9 (by decide) r V 0
            have F5 : RowsTo (wr.setCell ⟨gN, r, none⟩ V) B0 n b hO (fun t => ot.getD t []) s := hRO9.keep fun v xs h => h.off hN9 (by decide) r V 0
            have F6 : Below B0 w2 (wr.setCell ⟨gN, r, none⟩ V) := hbr9.setCell (p := ⟨gN, r, none⟩) l2 V
            have F7 : Mblk (wr.setCell ⟨gN, r, none⟩ V) g (.int .i64 a) (.int .i64 st) (.slice (some ⟨g1, p1, none⟩) n c) (.slice (some ⟨g2, p2, none⟩) n d) := (heap_setCell_other wr ⟨gN, r, none⟩ g V (by show g ≠ gN; omega)).trans hBX9
            subst hV
            have HF := Lib.hid (And.intro F1 (And.intro F2 (And.intro F3 (And.intro F4 (And.intro F5 (And.intro F6 F7))))))
            have HK : Hid ((wr.setCell ⟨gN, r, none⟩ (.slice A' a c')).drew.cell? ⟨gT, 2, none⟩ = some (.slice (some ⟨gN, 0, none⟩) n n)) := Lib.hid (F1.cells.2.2.1)
            have HRR := Lib.hid hr
            clear F1 F2 F3 F4 F5 F6 F7 hr hp9 hall ho ho9 hN9 hO9 hRN9 hRO9 hT9 hbr9 hl9 hBX9 hbW2 k0 k1 k2 k3 t0 t1 t3
            go_wp2
            go_region_held3 (fun w' => w'.cell? ⟨gT, 2, none⟩ = some (.slice (some ⟨gN, 0, none⟩) n n)) (first | exact HK.out | exact t2) (fail)
            go_wp2_with fail
            obtain ⟨F1, F2, F3, F4, F5, F6, F7⟩ := HF.out
            obtain ⟨wz, hwz⟩ : ∃ wz, wz = (wr.setCell ⟨gN, r, none⟩ (.slice A' a c')).drew := ⟨_, rfl⟩
            have G1 : Mblk wz gT (.int .i64 a) (.int .i64 r0) (.slice (some ⟨gN, 0, none⟩) n n) (.slice (some ⟨gO, 0, none⟩) n n) := by rw [hwz]; exact F1
            have G2 : Hblk wz gN (hN.set r (.slice A' a c')) := by rw [hwz]; exact F2
            have G3 : Hblk wz gO hO := by rw [hwz]; exact F3
            have G4 : RowsTo wz B0 n b (hN.set r (.slice A' a c')) (rnR nx a n b) (s + 1) := by rw [hwz]; exact F4
            have G5 : RowsTo wz B0 n b hO (fun t => ot.getD t []) s := by rw [hwz]; exact F5
            have G6 : Below B0 w2 wz := by rw [hwz]; exact F6.drew
            have G7 : Mblk wz g (.int .i64 a) (.int .i64 st) (.slice (some ⟨g1, p1, none⟩) n c) (.slice (some ⟨g2, p2, none⟩) n d) := by rw [hwz]; exact F7
            rw [← hwz]
            clear hwz F1 F2 F3 F4 F5 F6 F7 HF HK q0 f0 t2 HT HN HO HRN HRO HBR HBX hbq hzq hzT hzN hzO u0
            have hbWz : Below w.heap.size w wz := hbw2.trans (G6.mono (by have := HZ2.out; have := HG.out; have := HB0.out; omega))
            have hT9 := heap_lt G1
            have hN9 := heap_lt G2
            have hO9 := heap_lt G3
            have hBz : B0 ≤ wz.heap.size := by omega
            have hrz := hr2.below hbWz
            have hrl := hr2.1
            have hl0 := alloc_below wz.drew (.cells #[] 3)
            have hl1 : Below wz.heap.size wz (wz.drew.alloc (.cells #[] 3)) := ((Below.refl _ wz).drew).trans hl0
            have hlit : Owned (wz.drew.alloc (.cells #[] 3)) wz.heap.size (.slice (some ⟨wz.heap.size, 0, none⟩) 0 0) [] := Owned.literal wz.drew wz.heap.size [] #[] 0 (Nat.le_refl _) rfl rfl (by simp)
            obtain ⟨v9, w9, hrun, ho9, _, hb9⟩ := run_append_ints _ _ _ [] _ A4 a c4 hlit (hrz.below hl1) hl1.size (by rw [List.nil_append, hrl]; omega)
            rw [List.nil_append] at ho9
            obtain ⟨A9, c9, ev⟩ := ho9.form
            rw [hrl] at ev
            subst ev
            have hb9z : Below wz.heap.size wz w9 := hl1.trans hb9
            obtain ⟨u0, q0, f0⟩ := (G3.kept hb9z hO9).cell_ (j := r) (by rw [G5.1]; exact hrn9)
            obtain ⟨t0, t1, t2, t3, _⟩ := G1.cells
            obtain ⟨k0, k1, k2, k3, _⟩ := G7.cells
            have e5 := (hbWz.cell (p := ⟨g2, p2 + s, none⟩) hg2).trans hd2
            have HS := Lib.hid (show ∀ W : World, Below wz.heap.size wz W → W.cell? ⟨gT, 3, none⟩ = some (.slice (some ⟨gO, 0, none⟩) n n) ∧ W.cell? ⟨g, 3, none⟩ = some (.slice (some ⟨g2, p2, none⟩) n d) ∧ W.cell? ⟨g2, p2 + s, none⟩ = some (.slice A4 a c4) from fun W h => ⟨(h.cell (p := ⟨gT, 3, none⟩) hT9).trans t3, (h.cell (p := ⟨g, 3, none⟩) (block_lt k3)).trans k3, (h.cell (p := ⟨g2, p2 + s, none⟩) (block_lt e5)).trans e5⟩)
            have hgO1 : g ≠ gO := by omega
            have hgO2 : g2 ≠ gO := by have := HZ2.out; have := HG.out; have := HB0.out; omega
            have HS2 := Lib.hid (show ∀ (W : World) (u : Value), Below wz.heap.size wz W → (W.setCell ⟨gO, r, none⟩ u).cell? ⟨gT, 3, none⟩ = some (.slice (some ⟨gO, 0, none⟩) n n) ∧ (W.setCell ⟨gO, r, none⟩ u).cell? ⟨g, 3, none⟩ = some (.slice (some ⟨g2, p2, none⟩) n d) ∧ (W.setCell ⟨gO, r, none⟩ u).cell? ⟨g2, p2 + s, none⟩ = some (.slice A4 a c4) from fun W u h => by
              obtain ⟨h1, h2, h3⟩ := HS.out W h
              exact ⟨(World.cell?_of_block (heap_setCell_other W ⟨gO, r, none⟩ gT u e3)).trans h1, (World.cell?_of_block (heap_setCell_other W ⟨gO, r, none⟩ g u hgO1)).trans h2, (World.cell?_of_block (heap_setCell_other W ⟨gO, r, none⟩ g2 u hgO2)).trans h3⟩)
            -- what stands behind it
            obtain ⟨V, hV⟩ : ∃ V, V = Value.slice A9 a c9 := ⟨_, rfl⟩
            have K1 := G1.kept hb9z hT9
            have K2 := G2.kept hb9z hN9
            have K3 := G3.kept hb9z hO9
            have M1 : Mblk (w9.setCell ⟨gO, r, none⟩ V) gT (.int .i64 a) (.int .i64 r0) (.slice (some ⟨gN, 0, none⟩) n n) (.slice (some ⟨gO, 0, none⟩) n n) := (heap_setCell_other w9 ⟨gO, r, none⟩ gT V e3).trans K1
            have M2 := K2.other (a := ⟨gO, r, none⟩) e1 V
            have M3 := K3.set r V
            have M4 : RowsTo (w9.setCell ⟨gO, r, none⟩ V) B0 n b (hN.set r (.slice A' a c')) (rnR nx a n b) (s + 1) := G4.keep fun v xs h => (h.kept hb9z).off K3 (by decide) r V 0
            have M5 : RowsTo (w9.setCell ⟨gO, r, none⟩ V) B0 n b (hO.set r V) (fun t => ot.getD t []) (s + 1) := by
              have h := (G5.keep (w' := w9) fun v xs h => h.kept hb9z).succ hlt (A := A9) (c := c9) (by show Owned w9 B0 (.slice A9 (ot.getD s []).length c9) (ot.getD s []); rw [hrl]; exact ho9.lower hBz)
              rw [hrl, ← HRR.out, ← hV] at h
              exact h.keep fun v xs h => h.off K3 (by decide) r V 0
            have M6 : Below B0 w2 (w9.setCell ⟨gO, r, none⟩ V) := (G6.trans (hb9z.mono hBz)).setCell (p := ⟨gO, r, none⟩) l3 V
            subst hV
            have HM := Lib.hid (And.intro M1 (And.intro M2 (And.intro M3 (And.intro M4 (And.intro M5 M6)))))
            have hbc : Below wz.heap.size wz wz.drew := (Below.refl _ wz).drew
            clear K1 K2 K3 M1 M2 M3 M4 M5 M6 G1 G2 G3 G4 G5 G6 G7 hlit ho9 hb9 hrz hr2 hd2 k0 k1 k2 t0 t1 t2 hbWz hl0
            have hw1 : IntKind.i64.wrap ((s : Int) + (b : Int)) = (p9 : Int) := hw1
            go_wp2
            go_region_held3 (fun w' => w'.cell? ⟨gT, 3, none⟩ = some (.slice (some ⟨gO, 0, none⟩) n n) ∧ w'.cell? ⟨g, 3, none⟩ = some (.slice (some ⟨g2, p2, none⟩) n d) ∧ w'.cell? ⟨g2, p2 + s, none⟩ = some (.slice A4 a c4)) (first | exact HS.out _ hbc | exact HS.out _ hl1 | exact HS.out _ hb9z | exact HS2.out _ _ hb9z) ((refine step_append_run rfl _ _ _ _ rfl _ _ rfl rfl _ _ hrun ?_))
            go_wp2
            go_roundw
            case rel => exact ⟨s + 1, _, _, by omega, by go_num, HM.out.1, HM.out.2.1, HM.out.2.2.1, HM.out.2.2.2.1, HM.out.2.2.2.2.1, HM.out.2.2.2.2.2⟩
            case measure => simp [intOf]; omega
      · obtain rfl : s = n := by omega
        have hRr := HR2.out.kept HBR.out (show g + 1 < B0 by have := HZ2.out; have := HB0.out; omega)
        obtain ⟨y0, y1, y2, y3, z0, z1, z2, z3⟩ := hRr.cells
        obtain ⟨t0, t1, t2, t3, _⟩ := HT.out.cells
        have hgN : gN ≠ g + 1 := by have := HZ2.out; have := HB0.out; omega
        have hgO : gO ≠ g + 1 := by have := HZ2.out; have := HB0.out; omega
        have hl : ∀ k, w.heap.size ≤ (⟨g + 1, k, none⟩ : Addr).block := fun k => by rw [← HG.out]; exact Nat.le_succ _
        have hfb := Lib.hid (((((hbW.setCell (hl 0) (.int .i64 i)).setCell (hl 1) (.int .i64 r0)).setCell (hl 2) (.slice (some ⟨gN, 0, none⟩) s s)).setCell (hl 3) (.slice (some ⟨gO, 0, none⟩) s s)))
        have hR4 := Lib.hid (hRr.set4 (.int .i64 i) (.int .i64 r0) (.slice (some ⟨gN, 0, none⟩) s s) (.slice (some ⟨gO, 0, none⟩) s s))
        have hq1 := hRr
        have hq2 : Mblk (wr.setCell ⟨g + 1, 0, none⟩ (.int .i64 i)) (g + 1) _ _ _ _ := heap_setCell_same wr _ 0 _ _ _ hq1
        have hq3 : Mblk ((wr.setCell ⟨g + 1, 0, none⟩ (.int .i64 i)).setCell ⟨g + 1, 1, none⟩ (.int .i64 r0)) (g + 1) _ _ _ _ := heap_setCell_same _ _ 1 _ _ _ hq2
        have hq4 : Mblk (((wr.setCell ⟨g + 1, 0, none⟩ (.int .i64 i)).setCell ⟨g + 1, 1, none⟩ (.int .i64 r0)).setCell ⟨g + 1, 2, none⟩ (.slice (some ⟨gN, 0, none⟩) s s)) (g + 1) _ _ _ _ := heap_setCell_same _ _ 2 _ _ _ hq3
        have hkeep : ∀ v xs, Owned wr B0 v xs → Owned ((((wr.setCell ⟨g + 1, 0, none⟩ (.int .i64 i)).setCell ⟨g + 1, 1, none⟩ (.int .i64 r0)).setCell ⟨g + 1, 2, none⟩ (.slice (some ⟨gN, 0, none⟩) s s)).setCell ⟨g + 1, 3, none⟩ (.slice (some ⟨gO, 0, none⟩) s s)) B0 v xs := fun v xs h =>
          (((h.off hq1 (by decide) 0 _ 0).off hq2 (by decide) 1 _ 0).off hq3 (by decide) 2 _ 0).off hq4 (by decide) 3 _ 0
        have hN9 := (((HN.out.other (a := ⟨g + 1, 0, none⟩) hgN (.int .i64 i)).other (a := ⟨g + 1, 1, none⟩) hgN (.int .i64 r0)).other (a := ⟨g + 1, 2, none⟩) hgN (.slice (some ⟨gN, 0, none⟩) s s)).other (a := ⟨g + 1, 3, none⟩) hgN (.slice (some ⟨gO, 0, none⟩) s s)
        have hO9 := (((HO.out.other (a := ⟨g + 1, 0, none⟩) hgO (.int .i64 i)).other (a := ⟨g + 1, 1, none⟩) hgO (.int .i64 r0)).other (a := ⟨g + 1, 2, none⟩) hgO (.slice (some ⟨gN, 0, none⟩) s s)).other (a := ⟨g + 1, 3, none⟩) hgO (.slice (some ⟨gO, 0, none⟩) s s)
        have L1 := Lib.hid ((HRN.out.keep hkeep).lists hn2 hN9 (fun t _ => by rw [rnR_len]; exact hi64))
        have L2 := Lib.hid ((HRO.out.keep hkeep).lists hn2 hO9 (fun t ht => by have h1 := (hM.row t ht).2.1; show (ot.getD t []).length ≤ 64; rw [h1]; exact hi64))
        clear hRr hq1 hq2 hq3 hq4 hN9 hO9 hl hbW hkeep
        go_wp2
        (try simp only [Exit.inBlock, Exit.then])
        refine bodyPost_ret (results_cell_row (by rfl) _ _ (g + 1) 58 _ (0, 0) _ rfl hR4.out Try.underlying58 rfl (by kernel_rfl)) rfl ?_
        exact ⟨_, _, _, _, rfl, L1.out, L2.out, hfb.out⟩
end Go.Proofs.Ytnifjagjcoegaaa
end

section
/- The law MinimizeSame: the walk. -/
namespace Go.Proofs.Ytnifjagjcoegaaa
open Go.RowKit

theorem Mok.frm_mn {i st n : Nat} {nx ot : List (List Int)} (hM : Mok i st n nx ot) (us : List Int) :
    (_root_.Go.Proofs.Ytnifjagjcoegaaa.frm i 0 (mnN nx ot i st n) (mnO nx ot i st n) 0 us).1 = (_root_.Go.Proofs.Ytnifjagjcoegaaa.frm i st nx ot st us).1 ∧ (_root_.Go.Proofs.Ytnifjagjcoegaaa.frm i 0 (mnN nx ot i st n) (mnO nx ot i st n) 0 us).2.2 = (_root_.Go.Proofs.Ytnifjagjcoegaaa.frm i st nx ot st us).2.2 := by
  have h0 : (0 : Int) = ((0 : Nat) : Int) := rfl
  have hN := hM.mn
  by_cases hc : chk us i = 0
  · obtain ⟨c1, c2, c3, c4⟩ := chk_zero hc
    rw [h0, hN.frm hN.st hc, hM.frm hM.st hc]
    exact ⟨hM.mn_bis us (Syms.mem c4), rfl⟩
  · have e1 := hM.nxl
    have e2 := hN.nxl
    have e3 := hM.st
    have e4 := hN.st
    rw [h0, frm_word hN.vld (by rw [e2]; omega) hc, frm_word hM.vld (by rw [e1]; omega) hc]
    exact ⟨rfl, rfl⟩

set_option maxHeartbeats 8000000 in
set_option maxRecDepth 100000 in
theorem same8_walk (i st : Int) (A B : Option Addr) (n c m d : Nat) (nx ot : List (List Int)) (D : Option Addr) (nd ed : Nat) (us : List Int) (by_ : Nat) (w : World) (hx : Lists w A n nx) (ho : Lists w B m ot) (hD : Ints w D nd us) (hby : by_ ≤ 255) :
    Calls Try.prog 15 #[.agg #[.int .i64 i, .int .i64 st, .slice A n c, .slice B m d], .slice D nd ed, .int .u8 by_] w fun e w' => e = .returned (.bool true) ∧ Below w.heap.size w w' := by
  have hb0 := alloc_below w (.cells #[.int .i64 i, .int .i64 st, .slice A n c, .slice B m d] 58)
  have HB0 := Lib.hid (mealy_box w (.int .i64 i) (.int .i64 st) (.slice A n c) (.slice B m d))
  have hx0 := hx.below hb0
  have ho0 := ho.below hb0
  have HD0 := Lib.hid hD
  clear hD
  go_enter Try.func15, Try.ntmps15
  go_wp2_with fail
  refine (rgreat8 _ _ _ _ _ _ _ _ _ _ _ hx0 ho0).mono ?_
  rintro e w1 ⟨b, rfl, a1⟩
  have HB1 := Lib.hid (HB0.out.on a1)
  obtain ⟨k0, k1, k2, k3, _⟩ := HB1.out.cells
  have hx1 := hx0.below a1
  have ho1 := ho0.below a1
  have b1 := bt hb0 a1
  clear hx0 ho0 hb0 HB0 a1
  cases b
  · by_cases hv : vld i st nx ot = 0
    · have HV := Lib.hid hv
      go_wp2_with fail
      refine (rvalid _ _ _ _ _ _ _ _ _ _ _ hx1 ho1).mono ?_
      rintro e w2 ⟨rfl, a2⟩
      rw [HV.out]
      have HB2 := Lib.hid (HB1.out.on a2)
      have hx2 := hx1.below a2
      have ho2 := ho1.below a2
      have b2 := bt b1 a2
      clear k0 k1 k2 k3 hx1 ho1 b1 a2 HV
      obtain ⟨i', st', n', rfl, rfl, hM⟩ := vld_zero hv
      have e1 := hx.1
      have e2 := ho.1
      have e3 := hM.nxl
      have e4 := hM.otl
      obtain rfl : n = n' := by omega
      obtain rfl : n = m := by omega
      clear e1 e2 e3 e4 hv
      have hn := hx.2.1
      have hn2 := hM.n2
      -- the minimal machine and its facts
      have hMn := hM.mn
      obtain ⟨N1, hN1⟩ : ∃ N1, N1 = mnN nx ot i' st' n := ⟨_, rfl⟩
      obtain ⟨N2, hN2⟩ : ∃ N2, N2 = mnO nx ot i' st' n := ⟨_, rfl⟩
      obtain ⟨L, hL⟩ : ∃ L, L = (mnR nx ot i' st' n).length := ⟨_, rfl⟩
      have q1 := mn_same hMn hM hM.mn_bis
      have q2 := mn_same_len hMn hM hM.mn_bis
      have hbR : Bis i' (rnN nx i' n by_) (rnO ot n by_) ((st' + by_) % n) nx ot st' := fun u hu => hM.rn_bis by_ u st' hM.st hu
      have q3 := mn_same (hM.rn by_) hM hbR
      have q4 := mn_same_len (hM.rn by_) hM hbR
      have q5 := hM.frm_mn us
      rw [← hN1, ← hN2, ← hL] at hMn q1 q2
      rw [← hN1, ← hN2] at q3
      rw [← hL] at q4
      rw [← hN1, ← hN2] at q5
      have H1 := Lib.hid q1
      have H2 := Lib.hid q2
      have H3 := Lib.hid q3
      have H4 := Lib.hid q4
      have H5 := Lib.hid q5
      have HL := Lib.hid hL
      have HN1 := Lib.hid hN1
      have HN2 := Lib.hid hN2
      clear q1 q2 q3 q4 q5 hL hN1 hN2 hbR
      obtain ⟨k0, k1, k2, k3, _⟩ := HB2.out.cells
      go_wp2_with fail
      refine (pmin_ok _ _ _ _ _ _ _ _ _ _ hx2 ho2 hM).mono ?_
      rintro e w3 ⟨A3, c3, B3, d3, rfl, hO3, hQ3, a3⟩
      rw [← HL.out, ← HN1.out] at hO3
      rw [← HL.out, ← HN2.out] at hQ3
      rw [← HL.out]
      have x3 := lists_ownedM hMn hO3
      have y3 := lists_ownedO hMn hQ3
      have HB3 := Lib.hid (HB2.out.on a3)
      have hx3 := hx2.below a3
      have ho3 := ho2.below a3
      have b3 := bt b2 a3
      clear hO3 hQ3 k0 k1 k2 k3 hx2 ho2 b2 a3
      obtain ⟨w4, hw4⟩ : ∃ w4, w4 = w3.alloc (.cells #[.int .i64 i', .int .i64 0, .slice A3 L c3, .slice B3 L d3] 58) := ⟨_, rfl⟩
      have a4 := alloc_below w3 (.cells #[.int .i64 i', .int .i64 0, .slice A3 L c3, .slice B3 L d3] 58)
      have Y4 := mealy_box w3 (.int .i64 i') (.int .i64 0) (.slice A3 L c3) (.slice B3 L d3)
      rw [← hw4] at a4 Y4
      have HW4 := Lib.hid hw4
      have HB4 := Lib.hid (HB3.out.on a4)
      have HY4 := Lib.hid Y4
      have hx4 := hx3.below a4
      have ho4 := ho3.below a4
      have x4 := x3.below a4
      have y4 := y3.below a4
      have b4 := bt b3 a4
      clear hw4 Y4 hx3 ho3 x3 y3 b3 a4
      go_wp2_with fail
      try rw [← HW4.out]
      refine (pmin_ok i' 0 L A3 B3 c3 d3 N1 N2 _ x4 y4 hMn).mono ?_
      rintro e w5 ⟨A5, c5, B5, d5, rfl, hO5, hQ5, a5⟩
      rw [H2.out] at hO5 hQ5 ⊢
      rw [H1.out.1] at hO5
      rw [H1.out.2] at hQ5
      have x5 := lists_ownedM hMn hO5
      have y5 := lists_ownedO hMn hQ5
      have HB5 := Lib.hid (HB4.out.on a5)
      have HY5 := Lib.hid (HY4.out.on a5)
      have hx5 := hx4.below a5
      have ho5 := ho4.below a5
      have u5 := x4.below a5
      have v5 := y4.below a5
      have b5 := bt b4 a5
      clear hO5 hQ5 hx4 ho4 x4 y4 b4 a5
      obtain ⟨w6, hw6⟩ : ∃ w6, w6 = w5.alloc (.cells #[.int .i64 i', .int .i64 0, .slice A5 L c5, .slice B5 L d5] 58) := ⟨_, rfl⟩
      have a6 := alloc_below w5 (.cells #[.int .i64 i', .int .i64 0, .slice A5 L c5, .slice B5 L d5] 58)
      have Z6 := mealy_box w5 (.int .i64 i') (.int .i64 0) (.slice A5 L c5) (.slice B5 L d5)
      rw [← hw6] at a6 Z6
      have HW6 := Lib.hid hw6
      have HB6 := Lib.hid (HB5.out.on a6)
      have HY6 := Lib.hid (HY5.out.on a6)
      have HZ6 := Lib.hid Z6
      have hx6 := hx5.below a6
      have ho6 := ho5.below a6
      have u6 := u5.below a6
      have v6 := v5.below a6
      have x6 := x5.below a6
      have y6 := y5.below a6
      have b6 := bt b5 a6
      have k6 := HB6.out
      obtain ⟨k0, k1, k2, k3, _⟩ := k6.cells
      rw [HW6.out] at k0 k1 k2 k3
      clear hw6 Z6 hx5 ho5 u5 v5 x5 y5 b5 a6 k6
      go_wp2_with fail
      try rw [← HW6.out]
      refine (prenm i' st' n by_ A B c d nx ot _ hx6 ho6 hM hby).mono ?_
      rintro e w7 ⟨A7, c7, B7, d7, rfl, x7, y7, a7⟩
      have HB7 := Lib.hid (HB6.out.on a7)
      have HY7 := Lib.hid (HY6.out.on a7)
      have HZ7 := Lib.hid (HZ6.out.on a7)
      have hx7 := hx6.below a7
      have ho7 := ho6.below a7
      have u7 := u6.below a7
      have v7 := v6.below a7
      have p7 := x6.below a7
      have q7 := y6.below a7
      have b7 := bt b6 a7
      clear hx6 ho6 u6 v6 x6 y6 b6 a7 k0 k1 k2 k3
      go_wp2_with fail
      refine (pmin_ok _ _ _ _ _ _ _ _ _ _ x7 y7 (hM.rn by_)).mono ?_
      rintro e w8 ⟨A8, c8, B8, d8, rfl, hO8, hQ8, a8⟩
      rw [H4.out] at hO8 hQ8 ⊢
      rw [H3.out.1] at hO8
      rw [H3.out.2] at hQ8
      have x8 := lists_ownedM hMn hO8
      have y8 := lists_ownedO hMn hQ8
      have HB8 := Lib.hid (HB7.out.on a8)
      have HY8 := Lib.hid (HY7.out.on a8)
      have HZ8 := Lib.hid (HZ7.out.on a8)
      have hx8 := hx7.below a8
      have ho8 := ho7.below a8
      have u8 := u7.below a8
      have v8 := v7.below a8
      have p8 := p7.below a8
      have q8 := q7.below a8
      have b8 := bt b7 a8
      clear hO8 hQ8 hx7 ho7 u7 v7 p7 q7 x7 y7 b7 a8
      obtain ⟨w9, hw9⟩ : ∃ w9, w9 = w8.alloc (.cells #[.int .i64 i', .int .i64 0, .slice A8 L c8, .slice B8 L d8] 58) := ⟨_, rfl⟩
      have a9 := alloc_below w8 (.cells #[.int .i64 i', .int .i64 0, .slice A8 L c8, .slice B8 L d8] 58)
      have U9 := mealy_box w8 (.int .i64 i') (.int .i64 0) (.slice A8 L c8) (.slice B8 L d8)
      rw [← hw9] at a9 U9
      have HW9 := Lib.hid hw9
      have HB9 := Lib.hid (HB8.out.on a9)
      have HY9 := Lib.hid (HY8.out.on a9)
      have HZ9 := Lib.hid (HZ8.out.on a9)
      have HU9 := Lib.hid U9
      have hx9 := hx8.below a9
      have ho9 := ho8.below a9
      have u9 := u8.below a9
      have v9 := v8.below a9
      have p9 := p8.below a9
      have q9 := q8.below a9
      have x9 := x8.below a9
      have y9 := y8.below a9
      have b9 := bt b8 a9
      have kk := HY9.out
      obtain ⟨k0, k1, k2, k3, _⟩ := kk.cells
      rw [HW9.out] at k0 k1 k2 k3
      clear hw9 U9 hx8 ho8 u8 v8 p8 q8 x8 y8 b8 a9 kk
      go_wp2_with fail
      try rw [← HW9.out]
      refine (pminl_ok i' 0 L A3 B3 c3 d3 N1 N2 true _ u9 v9 hMn (by rw [H2.out]; simp)).mono ?_
      rintro e w10 ⟨rfl, a10⟩
      have HB10 := Lib.hid (HB9.out.on a10)
      have HY10 := Lib.hid (HY9.out.on a10)
      have HZ10 := Lib.hid (HZ9.out.on a10)
      have HU10 := Lib.hid (HU9.out.on a10)
      have hx10 := hx9.below a10
      have ho10 := ho9.below a10
      have u10 := u9.below a10
      have v10 := v9.below a10
      have p10 := p9.below a10
      have q10 := q9.below a10
      have x10 := x9.below a10
      have y10 := y9.below a10
      have b10 := bt b9 a10
      clear hx9 ho9 u9 v9 p9 q9 x9 y9 b9 a10 k0 k1 k2 k3
      obtain ⟨k0, k1, k2, k3, _⟩ := HY10.out.cells
      obtain ⟨z0, z1, z2, z3, _⟩ := HZ10.out.cells
      go_wp2_with fail
      refine (psame _ _ _ _ _ _ _ _ _ _ _ _ _ _ _ _ _ _ _ _ true _ u10 v10 p10 q10 (by simp)).mono ?_
      rintro e w11 ⟨rfl, a11⟩
      have HB11 := Lib.hid (HB10.out.on a11)
      have HY11 := Lib.hid (HY10.out.on a11)
      have HU11 := Lib.hid (HU10.out.on a11)
      have hx11 := hx10.below a11
      have ho11 := ho10.below a11
      have u11 := u10.below a11
      have v11 := v10.below a11
      have x11 := x10.below a11
      have y11 := y10.below a11
      have b11 := bt b10 a11
      clear hx10 ho10 u10 v10 p10 q10 x10 y10 b10 a11 k0 k1 k2 k3 z0 z1 z2 z3
      obtain ⟨k0, k1, k2, k3, _⟩ := HY11.out.cells
      obtain ⟨z0, z1, z2, z3, _⟩ := HU11.out.cells
      go_wp2_with fail
      refine (psame _ _ _ _ _ _ _ _ _ _ _ _ _ _ _ _ _ _ _ _ true _ u11 v11 x11 y11 (by simp)).mono ?_
      rintro e w12 ⟨rfl, a12⟩
      have HB12 := Lib.hid (HB11.out.on a12)
      have HY12 := Lib.hid (HY11.out.on a12)
      have hx12 := hx11.below a12
      have ho12 := ho11.below a12
      have u12 := u11.below a12
      have v12 := v11.below a12
      have b12 := bt b11 a12
      have D12 := HD0.out.below b12
      clear hx11 ho11 u11 v11 x11 y11 b11 a12 k0 k1 k2 k3 z0 z1 z2 z3
      obtain ⟨k0, k1, k2, k3, _⟩ := HB12.out.cells
      go_wp2_with fail
      refine (prunw _ _ _ _ _ _ _ _ _ _ _ _ _ us _ hx12 ho12 D12).mono ?_
      rintro e w13 ⟨A13, c13, rfl, hO13, a13⟩
      have I13 := Owned.ints hO13 (by have := frm_len (i := i') (st := st') (nx := nx) (ot := ot) (s := st') (xs := us); omega)
      have HB13 := Lib.hid (HB12.out.on a13)
      have HY13 := Lib.hid (HY12.out.on a13)
      have hx13 := hx12.below a13
      have ho13 := ho12.below a13
      have u13 := u12.below a13
      have v13 := v12.below a13
      have D13 := D12.below a13
      have b13 := bt b12 a13
      clear hO13 hx12 ho12 u12 v12 D12 b12 a13 k0 k1 k2 k3
      obtain ⟨k0, k1, k2, k3, _⟩ := HY13.out.cells
      go_wp2_with fail
      refine (prunw i' 0 _ _ _ _ _ _ _ _ _ _ _ us _ u13 v13 D13).mono ?_
      rintro e w14 ⟨A14, c14, rfl, hO14, a14⟩
      have I14 := Owned.ints hO14 (by have := frm_len (i := i') (st := 0) (nx := N1) (ot := N2) (s := 0) (xs := us); omega)
      have I13 := I13.below a14
      have HB14 := Lib.hid (HB13.out.on a14)
      have HY14 := Lib.hid (HY13.out.on a14)
      have hx14 := hx13.below a14
      have ho14 := ho13.below a14
      have b14 := bt b13 a14
      clear hO14 hx13 ho13 u13 v13 D13 b13 a14 k0 k1 k2 k3
      rw [H5.out.1] at I14
      rw [H5.out.1, H5.out.2]
      generalize frm i' st' nx ot st' us = F1 at I13 I14 ⊢
      obtain ⟨l1, e1, f1⟩ := F1
      have I13 : Ints w14 A13 l1.length l1 := I13
      have I14 : Ints w14 A14 l1.length l1 := I14
      obtain ⟨b0, hb0⟩ : ∃ b0, b0 = decide (L = n) := ⟨_, rfl⟩
      have hbb : (b0 == b0) = true := by simp
      have hff : (f1 == f1) = true := by simp
      have hln : ((n : Int) == (L : Int)) = b0 := by
        rw [hb0]
        by_cases e : L = n
        · rw [e]; simp
        · rw [decide_eq_false e, beq_eq_false_iff_ne]; omega
      have HBB := Lib.hid (show b0 = decide ((mnR nx ot i' st' n).length = n) by rw [← HL.out]; exact hb0)
      have HS := Lib.hid (show ∀ W : World, Below w14.heap.size w14 W → W.cell? ⟨w.heap.size, 0, none⟩ = some (.int .i64 i') ∧ W.cell? ⟨w.heap.size, 1, none⟩ = some (.int .i64 st') ∧ W.cell? ⟨w.heap.size, 2, none⟩ = some (.slice A n c) ∧ W.cell? ⟨w.heap.size, 3, none⟩ = some (.slice B n d) ∧ W.cell? ⟨w3.heap.size, 2, none⟩ = some (.slice A3 L c3) from fun W h => by
        obtain ⟨k0, k1, k2, k3, _⟩ := (HB14.out.on h).cells
        obtain ⟨_, _, z2, _⟩ := (HY14.out.on h).cells
        exact ⟨k0, k1, k2, k3, z2⟩)
      have HXR := Lib.hid (fun W h => hx14.below (w' := W) h)
      have HOR := Lib.hid (fun W h => ho14.below (w' := W) h)
      have HI1 := Lib.hid (fun W h => I13.below (w' := W) h)
      have HI2 := Lib.hid (fun W h => I14.below (w' := W) h)
      have hbc : Below w14.heap.size w14 w14.drew := (Below.refl _ w14).drew
      clear hb0 I13 I14 hx14 ho14
      go_wp2
      go_region_held3 (fun W => W.cell? ⟨w.heap.size, 0, none⟩ = some (.int .i64 i') ∧ W.cell? ⟨w.heap.size, 1, none⟩ = some (.int .i64 st') ∧ W.cell? ⟨w.heap.size, 2, none⟩ = some (.slice A n c) ∧ W.cell? ⟨w.heap.size, 3, none⟩ = some (.slice B n d) ∧ W.cell? ⟨w3.heap.size, 2, none⟩ = some (.slice A3 L c3)) (first | exact HS.out _ hbc) (first
        | (go_at_call 49; refine (requal A13 A14 l1.length c13 l1.length c14 l1 l1 true _ (HI1.out _ hbc) (HI2.out _ hbc) (by simp)).mono ?_; rintro e w' ⟨rfl, b'⟩; have hbc := bt hbc (rd_below b'))
        | (go_at_call 56; refine (pminl_ok i' st' n A B c d nx ot b0 _ (HXR.out _ hbc) (HOR.out _ hbc) hM HBB.out).mono ?_; rintro e w' ⟨rfl, b'⟩; have hbc := bt hbc b')
        | (go_at_call 46; refine (awake8 _).mono ?_; rintro e w' ⟨rfl, b'⟩; have hbc := bt hbc b'))
      all_goals
        go_wp2
        go_ret
        exact ⟨rfl, bt b14 hbc⟩
    · have hne : (vld i st nx ot != 0) = true := by simpa using hv
      go_wp2_with fail
      refine (rvalid _ _ _ _ _ _ _ _ _ _ _ hx1 ho1).mono ?_
      rintro e w2 ⟨rfl, a2⟩
      have b2 := bt b1 a2
      generalize vld i st nx ot = E at hne ⊢
      clear hv
      go_wp2_with fail
      refine (awake8 _).mono ?_
      rintro e w9 ⟨rfl, a9⟩
      have b9 := bt b2 a9
      go_wp2
      go_ret
      exact ⟨rfl, b9⟩
  · go_wp2_with fail
    refine (awake8 _).mono ?_
    rintro e w9 ⟨rfl, a9⟩
    have b9 := bt b1 a9
    go_wp2
    go_ret
    exact ⟨rfl, b9⟩
end Go.Proofs.Ytnifjagjcoegaaa
end
