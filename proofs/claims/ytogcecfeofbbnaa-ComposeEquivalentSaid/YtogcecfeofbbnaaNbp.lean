/- Lemmas of the proofs of this seat, of the parts Gcx, Mnp, Canp, Eqdd, Gdq. Conditions: none. -/
import Derived.Test.YtogcecfeofbbnaaNag
import Derived.Test.YtogcecfeofbbnaaNad
import Derived.Test.YtogcecfeofbbnaaNac
import Derived.Test.YtogcecfeofbbnaaNab
section
/- What Product, Parallel and Cascade answer, valid or not. -/
namespace Go.Proofs.Ytogcecfeofbbnaa
open Go.RowKit

/-- A machine with Start 0, and an error. -/
abbrev RsX := Nat × List (List Int) × List (List Int) × Int
def RsP (X : RsX) (e : Ending) (w' : World) : Prop := ∃ A c B d, e = .returned (.tuple #[.agg #[.int .i64 X.1, .int .i64 0, .slice A X.2.1.length c, .slice B X.2.2.1.length d], .int .i64 X.2.2.2]) ∧ Lists w' A X.2.1.length X.2.1 ∧ Lists w' B X.2.2.1.length X.2.2.1
def cmpX (F : Nat × Nat → Nat → Nat × Nat) (O : Nat × Nat → Nat → Nat) (i n m s t : Nat) : RsX := if Fits O i (fdG F i n m s t) then (i, autN F i (fdG F i n m s t), outN O i (fdG F i n m s t), 0) else (0, [], [], 11)
def noX (v : Int) : RsX := (0, [], [], v)
theorem Lists.none (w : World) : Lists w none 0 [] := ⟨rfl, by omega, fun h => absurd h (by omega)⟩
theorem NoM.rs (v : Int) (w' : World) : RsP (noX v) (NoM v) w' := ⟨none, 0, none, 0, rfl, Lists.none _, Lists.none _⟩
theorem MacP.rs {base i n m s t : Nat} {F : Nat × Nat → Nat → Nat × Nat} {O : Nat × Nat → Nat → Nat} {e : Ending} {w' : World} (hF : Stp F i n m) (hs : s < n) (ht : t < m) (hi1 : 1 ≤ i) (hi : i ≤ 64)
    (h : MacP base i (autN F i (fdG F i n m s t)) (outN O i (fdG F i n m s t)) (fdG F i n m s t).length (Fits O i (fdG F i n m s t)) e w') : RsP (cmpX F O i n m s t) e w' := by
  unfold cmpX
  rcases h with ⟨hok, A, c, B, d, rfl, o1, o2⟩ | ⟨hok, rfl⟩
  · rw [if_pos hok]
    have hM := fdG_mok hF hs ht hi1 hi rfl hok
    refine ⟨A, c, B, d, ?_, ?_, ?_⟩
    · show _ = Ending.returned (.tuple #[.agg #[_, _, .slice A (autN F i (fdG F i n m s t)).length c, .slice B (outN O i (fdG F i n m s t)).length d], _])
      rw [autN_len, outN_len]
    · show Lists w' A (autN F i (fdG F i n m s t)).length (autN F i (fdG F i n m s t))
      rw [autN_len]; exact lists_ownedM hM o1
    · show Lists w' B (outN O i (fdG F i n m s t)).length (outN O i (fdG F i n m s t))
      rw [outN_len]; exact lists_ownedO hM o2
  · rw [if_neg hok]
    exact NoM.rs 11 w'
def prX (i1 st1 : Int) (nx ot : List (List Int)) (i2 st2 : Int) (nx' ot' : List (List Int)) : RsX :=
  if vld2m i1 st1 nx ot i2 st2 nx' ot' = 0 then (if i1 = i2 then cmpX (prF nx nx') (prO ot ot' (grt ot')) i1.toNat nx.length nx'.length st1.toNat st2.toNat else noX 15) else noX (vld2m i1 st1 nx ot i2 st2 nx' ot')
def paX (i1 st1 : Int) (nx ot : List (List Int)) (i2 st2 : Int) (nx' ot' : List (List Int)) : RsX :=
  if vld2m i1 st1 nx ot i2 st2 nx' ot' = 0 then (if i1 + i2 ≤ 64 then cmpX (paF i1.toNat nx nx') (paO i1.toNat ot ot' (grt ot)) (i1.toNat + i2.toNat) nx.length nx'.length st1.toNat st2.toNat else noX 2) else noX (vld2m i1 st1 nx ot i2 st2 nx' ot')
def caX (i1 st1 : Int) (nx ot : List (List Int)) (i2 st2 : Int) (nx' ot' : List (List Int)) : RsX :=
  if vld2m i1 st1 nx ot i2 st2 nx' ot' = 0 then (if (grt ot : Int) < i2 then cmpX (caF nx ot nx') (caO ot ot') i1.toNat nx.length nx'.length st1.toNat st2.toNat else noX 2) else noX (vld2m i1 st1 nx ot i2 st2 nx' ot')
section
variable {i st n i' st' n' : Nat} {nx ot nx' ot' : List (List Int)}
theorem vld2m_ok (hM : Mok i st n nx ot) (hM' : Mok i' st' n' nx' ot') : vld2m i st nx ot i' st' nx' ot' = 0 := by unfold vld2m; rw [if_pos hM.vld]; exact hM'.vld
theorem vld2m_zero {i1 st1 i2 st2 : Int} (h : vld2m i1 st1 nx ot i2 st2 nx' ot' = 0) : ∃ i st n i' st' n' : Nat, i1 = i ∧ st1 = st ∧ i2 = i' ∧ st2 = st' ∧ Mok i st n nx ot ∧ Mok i' st' n' nx' ot' := by
  unfold vld2m at h
  by_cases h1 : vld i1 st1 nx ot = 0
  · rw [if_pos h1] at h
    obtain ⟨i, st, n, e1, e2, hM⟩ := vld_zero h1
    obtain ⟨i', st', n', e3, e4, hM'⟩ := vld_zero h
    exact ⟨i, st, n, i', st', n', e1, e2, e3, e4, hM, hM'⟩
  · rw [if_neg h1] at h; exact absurd h h1
theorem prX_ok (hM : Mok i st n nx ot) (hM' : Mok i st' n' nx' ot') : prX i st nx ot i st' nx' ot' = cmpX (prF nx nx') (prO ot ot' (grt ot')) i n n' st st' := by
  unfold prX; rw [if_pos (vld2m_ok hM hM'), if_pos rfl, hM.nxl, hM'.nxl]; simp only [Int.toNat_natCast]
theorem prX_no (hM : Mok i st n nx ot) (hM' : Mok i' st' n' nx' ot') (h : ¬ i = i') : prX i st nx ot i' st' nx' ot' = noX 15 := by
  unfold prX; rw [if_pos (vld2m_ok hM hM'), if_neg (by omega)]
theorem paX_ok (hM : Mok i st n nx ot) (hM' : Mok i' st' n' nx' ot') (h : i + i' ≤ 64) : paX i st nx ot i' st' nx' ot' = cmpX (paF i nx nx') (paO i ot ot' (grt ot)) (i + i') n n' st st' := by
  unfold paX; rw [if_pos (vld2m_ok hM hM'), if_pos (by omega), hM.nxl, hM'.nxl]; simp only [Int.toNat_natCast]
theorem paX_no (hM : Mok i st n nx ot) (hM' : Mok i' st' n' nx' ot') (h : ¬ i + i' ≤ 64) : paX i st nx ot i' st' nx' ot' = noX 2 := by
  unfold paX; rw [if_pos (vld2m_ok hM hM'), if_neg (by omega)]
theorem caX_ok (hM : Mok i st n nx ot) (hM' : Mok i' st' n' nx' ot') (h : grt ot < i') : caX i st nx ot i' st' nx' ot' = cmpX (caF nx ot nx') (caO ot ot') i n n' st st' := by
  unfold caX; rw [if_pos (vld2m_ok hM hM'), if_pos (by omega), hM.nxl, hM'.nxl]; simp only [Int.toNat_natCast]
theorem caX_no (hM : Mok i st n nx ot) (hM' : Mok i' st' n' nx' ot') (h : ¬ grt ot < i') : caX i st nx ot i' st' nx' ot' = noX 2 := by
  unfold caX; rw [if_pos (vld2m_ok hM hM'), if_neg (by omega)]
theorem xX_bad {i1 st1 i2 st2 : Int} (h : ¬ vld2m i1 st1 nx ot i2 st2 nx' ot' = 0) : prX i1 st1 nx ot i2 st2 nx' ot' = noX (vld2m i1 st1 nx ot i2 st2 nx' ot') ∧ paX i1 st1 nx ot i2 st2 nx' ot' = noX (vld2m i1 st1 nx ot i2 st2 nx' ot') ∧ caX i1 st1 nx ot i2 st2 nx' ot' = noX (vld2m i1 st1 nx ot i2 st2 nx' ot') := by
  unfold prX paX caX; rw [if_neg h, if_neg h, if_neg h]; exact ⟨rfl, rfl, rfl⟩
end
section
variable (i1 st1 i2 st2 : Int) (A B A' B' : Option Addr) (n c m d n2 c2 m2 d2 : Nat) (nx ot nx' ot' : List (List Int)) (w : World)
theorem pproduct_all (hx : Lists w A n nx) (ho : Lists w B m ot) (hx' : Lists w A' n2 nx') (ho' : Lists w B' m2 ot') :
    Calls Try.prog 32 #[.agg #[.int .i64 i1, .int .i64 st1, .slice A n c, .slice B m d], .agg #[.int .i64 i2, .int .i64 st2, .slice A' n2 c2, .slice B' m2 d2]] w fun e w' => RsP (prX i1 st1 nx ot i2 st2 nx' ot') e w' ∧ Below w.heap.size w w' := by
  by_cases hv : vld2m i1 st1 nx ot i2 st2 nx' ot' = 0
  · obtain ⟨i, st, k, i', st', k', rfl, rfl, rfl, rfl, hM, hM'⟩ := vld2m_zero hv
    obtain rfl : n = k := by rw [← hM.nxl]; exact hx.1.symm
    obtain rfl : n = m := by rw [← hM.otl]; exact ho.1
    obtain rfl : n2 = k' := by rw [← hM'.nxl]; exact hx'.1.symm
    obtain rfl : n2 = m2 := by rw [← hM'.otl]; exact ho'.1
    by_cases h : i = i'
    · subst h
      refine (pproduct i st n st' n2 A B A' B' c d c2 d2 nx ot nx' ot' w hx ho hx' ho' hM hM').mono ?_
      rintro e w' ⟨h1, h2⟩
      rw [prX_ok hM hM']
      exact ⟨h1.rs (pr_stp hM hM') hM.st hM'.st hM.i1 hM.i2, h2⟩
    · refine (pproduct_con i st n i' st' n2 A B A' B' c d c2 d2 nx ot nx' ot' w hx ho hx' ho' hM hM' h).mono ?_
      rintro e w' ⟨rfl, h2⟩
      rw [prX_no hM hM' h]
      exact ⟨NoM.rs _ _, h2⟩
  · refine (pproduct_bad i1 st1 i2 st2 n m n2 m2 A B A' B' c d c2 d2 nx ot nx' ot' w hx ho hx' ho' hv).mono ?_
    rintro e w' ⟨rfl, h2⟩
    rw [(xX_bad hv).1]
    exact ⟨NoM.rs _ _, h2⟩
theorem pparallel_all (hx : Lists w A n nx) (ho : Lists w B m ot) (hx' : Lists w A' n2 nx') (ho' : Lists w B' m2 ot') :
    Calls Try.prog 34 #[.agg #[.int .i64 i1, .int .i64 st1, .slice A n c, .slice B m d], .agg #[.int .i64 i2, .int .i64 st2, .slice A' n2 c2, .slice B' m2 d2]] w fun e w' => RsP (paX i1 st1 nx ot i2 st2 nx' ot') e w' ∧ Below w.heap.size w w' := by
  by_cases hv : vld2m i1 st1 nx ot i2 st2 nx' ot' = 0
  · obtain ⟨i, st, k, i', st', k', rfl, rfl, rfl, rfl, hM, hM'⟩ := vld2m_zero hv
    obtain rfl : n = k := by rw [← hM.nxl]; exact hx.1.symm
    obtain rfl : n = m := by rw [← hM.otl]; exact ho.1
    obtain rfl : n2 = k' := by rw [← hM'.nxl]; exact hx'.1.symm
    obtain rfl : n2 = m2 := by rw [← hM'.otl]; exact ho'.1
    by_cases h : i + i' ≤ 64
    · refine (pparallel i st n i' st' n2 (i + i') A B A' B' c d c2 d2 nx ot nx' ot' w hx ho hx' ho' hM hM' rfl h).mono ?_
      rintro e w' ⟨h1, h2⟩
      rw [paX_ok hM hM' h]
      exact ⟨h1.rs (pa_stp hM hM') hM.st hM'.st (by have := hM.i1; omega) h, h2⟩
    · refine (pparallel_big i st n i' st' n2 A B A' B' c d c2 d2 nx ot nx' ot' w hx ho hx' ho' hM hM' (by omega)).mono ?_
      rintro e w' ⟨rfl, h2⟩
      rw [paX_no hM hM' h]
      exact ⟨NoM.rs _ _, h2⟩
  · refine (pparallel_bad i1 st1 i2 st2 n m n2 m2 A B A' B' c d c2 d2 nx ot nx' ot' w hx ho hx' ho' hv).mono ?_
    rintro e w' ⟨rfl, h2⟩
    rw [(xX_bad hv).2.1]
    exact ⟨NoM.rs _ _, h2⟩
theorem pcascade_all (hx : Lists w A n nx) (ho : Lists w B m ot) (hx' : Lists w A' n2 nx') (ho' : Lists w B' m2 ot') :
    Calls Try.prog 36 #[.agg #[.int .i64 i1, .int .i64 st1, .slice A n c, .slice B m d], .agg #[.int .i64 i2, .int .i64 st2, .slice A' n2 c2, .slice B' m2 d2]] w fun e w' => RsP (caX i1 st1 nx ot i2 st2 nx' ot') e w' ∧ Below w.heap.size w w' := by
  by_cases hv : vld2m i1 st1 nx ot i2 st2 nx' ot' = 0
  · obtain ⟨i, st, k, i', st', k', rfl, rfl, rfl, rfl, hM, hM'⟩ := vld2m_zero hv
    obtain rfl : n = k := by rw [← hM.nxl]; exact hx.1.symm
    obtain rfl : n = m := by rw [← hM.otl]; exact ho.1
    obtain rfl : n2 = k' := by rw [← hM'.nxl]; exact hx'.1.symm
    obtain rfl : n2 = m2 := by rw [← hM'.otl]; exact ho'.1
    by_cases h : grt ot < i'
    · refine (pcascade i st n i' st' n2 A B A' B' c d c2 d2 nx ot nx' ot' w hx ho hx' ho' hM hM' h).mono ?_
      rintro e w' ⟨h1, h2⟩
      rw [caX_ok hM hM' h]
      exact ⟨h1.rs (ca_stp hM hM' fun s a hs ha => Nat.lt_of_le_of_lt (hM.oM_grt hs ha) h) hM.st hM'.st hM.i1 hM.i2, h2⟩
    · refine (pcascade_bad2 i st n i' st' n2 A B A' B' c d c2 d2 nx ot nx' ot' w hx ho hx' ho' hM hM' h).mono ?_
      rintro e w' ⟨rfl, h2⟩
      rw [caX_no hM hM' h]
      exact ⟨NoM.rs _ _, h2⟩
  · refine (pcascade_bad i1 st1 i2 st2 n m n2 m2 A B A' B' c d c2 d2 nx ot nx' ot' w hx ho hx' ho' hv).mono ?_
    rintro e w' ⟨rfl, h2⟩
    rw [(xX_bad hv).2.2]
    exact ⟨NoM.rs _ _, h2⟩
end
end Go.Proofs.Ytogcecfeofbbnaa
end

section
/- The minimal machine. -/
namespace Go.Proofs.Ytogcecfeofbbnaa

theorem getD_map {α β : Type} (g : α → β) (l : List α) (d : α) (e : β) {j : Nat} (h : j < l.length) : (l.map g).getD j e = g (l.getD j d) := by
  rw [List.getD_eq_getElem?_getD, List.getElem?_map, List.getD_eq_getElem?_getD, List.getElem?_eq_getElem h]; rfl
theorem qN_row (nx : List (List Int)) (i : Nat) (f : Nat → Nat) {n j : Nat} (h : j < (reps f n).length) : (qN nx i f n).getD j [] = qR nx i f ((reps f n).getD j 0) := getD_map _ _ 0 _ h
theorem qO_row (ot : List (List Int)) (f : Nat → Nat) {n j : Nat} (h : j < (reps f n).length) : (qO ot f n).getD j [] = ot.getD ((reps f n).getD j 0) [] := by unfold qO; exact getD_map _ _ 0 _ h
theorem reps_get_lt (f : Nat → Nat) {n j : Nat} (h : j < (reps f n).length) : (reps f n).getD j 0 < n := reps_lt f n (getD_mem h)
theorem nmb_lt_reps (f : Nat → Nat) {n s : Nat} (h : s < n) : nmb f s < (reps f n).length := by rw [reps_len]; exact nmb_lt f h
theorem Mok.quot {i st n : Nat} {nx ot : List (List Int)} (hM : Mok i st n nx ot) (f : Nat → Nat) : Mok i (nmb f st) (reps f n).length (qN nx i f n) (qO ot f n) where
  i1 := hM.i1
  i2 := hM.i2
  n1 := by have := nmb_lt_reps f hM.st; omega
  n2 := by have := reps_le f n; have := hM.n2; omega
  st := nmb_lt_reps f hM.st
  nxl := qN_len _ _ _ _
  otl := qO_len _ _ _
  row := fun s hs => by
    have hr := reps_get_lt f hs
    rw [qN_row _ _ _ hs, qO_row _ _ hs]
    obtain ⟨h1, h2, h3⟩ := hM.row _ hr
    refine ⟨qR_len _ _ _ _, h2, fun a ha => ?_⟩
    rw [qR_at ha]
    have h4 := nmb_lt_reps f (hM.nN_lt hr ha)
    have h5 := h3 a ha
    exact ⟨by omega, by omega, h5.2.2.1, h5.2.2.2⟩
/-- The classes of equivalent states. -/
def eqc (nx ot : List (List Int)) (i n : Nat) : Nat → Nat := cN nx ot i n (dep nx ot i n)
/-- The tables of the minimal machine, and the states of the machine of classes that it has. -/
def mnR (nx ot : List (List Int)) (i st n : Nat) : List Nat := rch (qN nx i (eqc nx ot i n) n) i (nmb (eqc nx ot i n) st)
def mnN (nx ot : List (List Int)) (i st n : Nat) : List (List Int) := trN (qN nx i (eqc nx ot i n) n) i (mnR nx ot i st n)
def mnO (nx ot : List (List Int)) (i st n : Nat) : List (List Int) := trO (qO ot (eqc nx ot i n) n) (mnR nx ot i st n)
theorem Mok.mnR_len {i st n : Nat} {nx ot : List (List Int)} (hM : Mok i st n nx ot) : (mnR nx ot i st n).length ≤ n := by
  have h1 := (hM.quot (eqc nx ot i n)).rch_stt.len
  have h2 := reps_le (eqc nx ot i n) n
  unfold mnR
  omega
end Go.Proofs.Ytogcecfeofbbnaa
end

section
/- The minimal machine is the same for machines with the same outputs. -/
namespace Go.Proofs.Ytogcecfeofbbnaa

theorem Mok.bis_cN {i st n : Nat} {nx ot : List (List Int)} (hM : Mok i st n nx ot) : ∀ (k : Nat) {s t : Nat}, s < n → t < n → Bis i nx ot s nx ot t → cN nx ot i n k s = cN nx ot i n k t
  | 0, s, t, hs, ht, _ => by rw [cN_zero hs, cN_zero ht]
  | k + 1, s, t, hs, ht, h => (hM.cN_succ hs ht).2 fun a ha => ⟨h.out ha, hM.bis_cN k (hM.nN_lt hs ha) (hM.nN_lt ht ha) (h.next ha)⟩
theorem Mok.eqc_step {i st n : Nat} {nx ot : List (List Int)} (hM : Mok i st n nx ot) {s t : Nat} (hs : s < n) (ht : t < n) (h : eqc nx ot i n s = eqc nx ot i n t) {a : Nat} (ha : a < i) :
    oN ot s a = oN ot t a ∧ eqc nx ot i n (nN nx s a) = eqc nx ot i n (nN nx t a) := by
  refine (hM.cN_succ hs ht).1 ?_ a ha
  unfold cN
  rw [hM.dep_stay]
  exact h
theorem Mok.eqc_bis {i st n : Nat} {nx ot : List (List Int)} (hM : Mok i st n nx ot) {s t : Nat} (hs : s < n) (ht : t < n) : eqc nx ot i n s = eqc nx ot i n t ↔ Bis i nx ot s nx ot t := by
  constructor
  · intro h u
    induction u generalizing s t with
    | nil => intro _; rfl
    | cons x u ih =>
      intro hu
      obtain ⟨a, rfl, ha⟩ := hu.head
      obtain ⟨h1, h2⟩ := hM.eqc_step hs ht h ha
      simp only [runO, Int.toNat_natCast]
      rw [h1, ih (hM.nN_lt hs ha) (hM.nN_lt ht ha) h2 hu.tail]
  · intro h
    exact hM.bis_cN _ hs ht h

/-- The machine of classes: its states have the outputs of those of the machine. -/
theorem Mok.quot_bis {i st n : Nat} {nx ot : List (List Int)} (hM : Mok i st n nx ot) {s : Nat} (hs : s < n) :
    Bis i (qN nx i (eqc nx ot i n) n) (qO ot (eqc nx ot i n) n) (nmb (eqc nx ot i n) s) nx ot s := by
  intro u
  induction u generalizing s with
  | nil => intro _; rfl
  | cons x u ih =>
    intro hu
    obtain ⟨a, rfl, ha⟩ := hu.head
    have hl := nmb_lt_reps (eqc nx ot i n) hs
    have hr := reps_get_lt (eqc nx ot i n) hl
    have hf := reps_at (eqc nx ot i n) hs
    obtain ⟨h1, h2⟩ := hM.eqc_step hr hs hf ha
    have e1 : oN (qO ot (eqc nx ot i n) n) (nmb (eqc nx ot i n) s) a = oN ot s a := by
      rw [← h1]; unfold oN; rw [qO_row _ _ hl]
    have e2 : nN (qN nx i (eqc nx ot i n) n) (nmb (eqc nx ot i n) s) a = nmb (eqc nx ot i n) (nN nx s a) := by
      have h3 := (nmb_eq (eqc nx ot i n)).2 h2
      rw [← h3]
      show (((qN nx i (eqc nx ot i n) n).getD _ []).getD a 0).toNat = _
      rw [qN_row _ _ _ hl, qR_at ha]
      exact Int.toNat_natCast _
    simp only [runO, Int.toNat_natCast]
    rw [e1, e2, ih (hM.nN_lt hs ha) hu.tail]
/-- Different states of the machine of classes have different outputs for a word. -/
theorem Mok.quot_red {i st n : Nat} {nx ot : List (List Int)} (hM : Mok i st n nx ot) {p q : Nat} (hp : p < (reps (eqc nx ot i n) n).length) (hq : q < (reps (eqc nx ot i n) n).length)
    (h : Bis i (qN nx i (eqc nx ot i n) n) (qO ot (eqc nx ot i n) n) p (qN nx i (eqc nx ot i n) n) (qO ot (eqc nx ot i n) n) q) : p = q := by
  have e1 := nmb_reps (eqc nx ot i n) hp
  have e2 := nmb_reps (eqc nx ot i n) hq
  have hr := reps_get_lt (eqc nx ot i n) hp
  have hs := reps_get_lt (eqc nx ot i n) hq
  have b1 := hM.quot_bis hr
  have b2 := hM.quot_bis hs
  rw [e1] at b1
  rw [e2] at b2
  have h2 := (hM.eqc_bis hr hs).2 ((b1.symm.trans h).trans b2)
  have h3 := (nmb_eq (eqc nx ot i n)).2 h2
  rw [e1, e2] at h3
  exact h3

/-- Lists of states of two machines, place by place with the same outputs. -/
def Par (i : Nat) (nx ot mx mt : List (List Int)) (l k : List Nat) : Prop := l.length = k.length ∧ ∀ j, j < l.length → Bis i nx ot (l.getD j 0) mx mt (k.getD j 0)
section
variable {i s1 s2 n m : Nat} {nx ot mx mt : List (List Int)}
theorem par_mem {l k : List Nat} (h : Par i nx ot mx mt l k) (hk : ∀ y, y ∈ k → y < m) (hR : ∀ p q, p < m → q < m → Bis i mx mt p mx mt q → p = q) {x y : Nat} (hb : Bis i nx ot x mx mt y) (hy : y < m) (hx : x ∈ l) : ∃ j, j < l.length ∧ l.getD j 0 = x ∧ k.getD j 0 = y := by
  obtain ⟨j, hj, rfl⟩ := List.getElem_of_mem hx
  have e : l.getD j 0 = l[j] := by rw [List.getD_eq_getElem?_getD, List.getElem?_eq_getElem hj]; rfl
  have h1 := h.2 j hj
  rw [e] at h1
  have hkj : k.getD j 0 ∈ k := getD_mem (by rw [← h.1]; exact hj)
  exact ⟨j, hj, e, hR _ _ (hk _ hkj) hy (h1.symm.trans hb)⟩
theorem Par.symm {l k : List Nat} (h : Par i nx ot mx mt l k) : Par i mx mt nx ot k l := ⟨h.1.symm, fun j hj => (h.2 j (by rw [h.1]; exact hj)).symm⟩
theorem par_addN (hR1 : ∀ p q, p < n → q < n → Bis i nx ot p nx ot q → p = q) (hR2 : ∀ p q, p < m → q < m → Bis i mx mt p mx mt q → p = q) {l k : List Nat} (h : Par i nx ot mx mt l k) (hl : ∀ y, y ∈ l → y < n) (hk : ∀ y, y ∈ k → y < m) {x y : Nat} (hx : x < n) (hy : y < m) (hb : Bis i nx ot x mx mt y) :
    Par i nx ot mx mt (addN l x) (addN k y) := by
  have hin : x ∈ l ↔ y ∈ k := by
    constructor
    · intro h1
      obtain ⟨j, hj, _, e⟩ := par_mem h hk hR2 hb hy h1
      rw [← e]; exact getD_mem (by rw [← h.1]; exact hj)
    · intro h1
      obtain ⟨j, hj, _, e⟩ := par_mem h.symm hl hR1 hb.symm hx h1
      rw [← e]; exact getD_mem (by rw [h.1]; exact hj)
  unfold addN
  by_cases h1 : x ∈ l
  · rw [if_pos h1, if_pos (hin.1 h1)]; exact h
  · rw [if_neg h1, if_neg (fun H => h1 (hin.2 H))]
    refine ⟨by rw [List.length_append, List.length_append, h.1]; rfl, fun j hj => ?_⟩
    rw [List.length_append] at hj
    by_cases e : j < l.length
    · rw [getD_pre e, getD_pre (by rw [← h.1]; exact e)]; exact h.2 j e
    · have ej : j = l.length := by simp at hj; omega
      subst ej
      have g1 : (l ++ [x]).getD l.length 0 = x := by simp [List.getD]
      have g2 : (k ++ [y]).getD l.length 0 = y := by rw [h.1]; simp [List.getD]
      rw [g1, g2]; exact hb
theorem par_addR (hM : Mok i s1 n nx ot) (hN : Mok i s2 m mx mt) (hR1 : ∀ p q, p < n → q < n → Bis i nx ot p nx ot q → p = q) (hR2 : ∀ p q, p < m → q < m → Bis i mx mt p mx mt q → p = q) {l k : List Nat} (h : Par i nx ot mx mt l k) (hl : Stt n l) (hk : Stt m k) {x y : Nat} (hx : x < n) (hy : y < m) (hb : Bis i nx ot x mx mt y) :
    ∀ a, a ≤ i → Par i nx ot mx mt (addR nx x l a) (addR mx y k a)
  | 0, _ => h
  | a + 1, ha => par_addN hR1 hR2 (par_addR hM hN hR1 hR2 h hl hk hx hy hb a (by omega)) (addR_stt hM hl hx a (by omega)).2 (addR_stt hN hk hy a (by omega)).2 (hM.nN_lt hx (by omega)) (hN.nN_lt hy (by omega)) (hb.next (by omega))
theorem par_bfs (hM : Mok i s1 n nx ot) (hN : Mok i s2 m mx mt) (hR1 : ∀ p q, p < n → q < n → Bis i nx ot p nx ot q → p = q) (hR2 : ∀ p q, p < m → q < m → Bis i mx mt p mx mt q → p = q) : ∀ (f : Nat) (l k : List Nat) (j : Nat), Par i nx ot mx mt l k → Stt n l → Stt m k →
    Par i nx ot mx mt (bfs nx i f l j) (bfs mx i f k j)
  | 0, _, _, _, h, _, _ => h
  | f + 1, l, k, j, h, hl, hk => by
    unfold bfs
    by_cases hj : j < l.length
    · rw [if_pos hj, if_pos (by rw [← h.1]; exact hj)]
      have hx := hl.2 _ (getD_mem hj)
      have hy := hk.2 _ (getD_mem (show j < k.length by rw [← h.1]; exact hj))
      exact par_bfs hM hN hR1 hR2 f _ _ (j + 1) (par_addR hM hN hR1 hR2 h hl hk hx hy (h.2 j hj) i (Nat.le_refl _)) (addR_stt hM hl hx i (Nat.le_refl _)) (addR_stt hN hk hy i (Nat.le_refl _))
    · rw [if_neg hj, if_neg (by rw [← h.1]; exact hj)]; exact h
theorem par_rch (hM : Mok i s1 n nx ot) (hN : Mok i s2 m mx mt) (hR1 : ∀ p q, p < n → q < n → Bis i nx ot p nx ot q → p = q) (hR2 : ∀ p q, p < m → q < m → Bis i mx mt p mx mt q → p = q) (hb : Bis i nx ot s1 mx mt s2) : Par i nx ot mx mt (rch nx i s1) (rch mx i s2) := by
  unfold rch
  rw [hM.nxl, hN.nxl, ← bfs_more hM (Stt.one hM.st) m, ← bfs_more hN (Stt.one hN.st) n, Nat.add_comm m n]
  refine par_bfs hM hN hR1 hR2 _ _ _ _ ⟨rfl, fun j hj => ?_⟩ (Stt.one hM.st) (Stt.one hN.st)
  have : j = 0 := by simp at hj; omega
  subst this; exact hb
theorem par_ix (hR2 : ∀ p q, p < m → q < m → Bis i mx mt p mx mt q → p = q) {l k : List Nat} (h : Par i nx ot mx mt l k) (hl : Stt n l) (hk : Stt m k) {x y : Nat} (hx : x ∈ l) (hy : y < m) (hb : Bis i nx ot x mx mt y) : ixN l x = ixN k y := by
  obtain ⟨j, hj, e1, e2⟩ := par_mem h hk.2 hR2 hb hy hx
  rw [← e1, ← e2, ixN_of hl.1 hj, ixN_of hk.1 (by rw [← h.1]; exact hj)]
theorem list_ext_rows {β : Type} {l k : List β} (d : β) (h1 : l.length = k.length) (h : ∀ s, s < l.length → l.getD s d = k.getD s d) : l = k := by
  apply List.ext_getElem h1
  intro s hs ht
  have := h s hs
  rw [List.getD_eq_getElem?_getD, List.getD_eq_getElem?_getD, List.getElem?_eq_getElem hs, List.getElem?_eq_getElem ht] at this
  exact this
/-- Reduced machines with the same outputs have the same trimmed machine. -/
theorem par_tr (hM : Mok i s1 n nx ot) (hN : Mok i s2 m mx mt) (hR1 : ∀ p q, p < n → q < n → Bis i nx ot p nx ot q → p = q) (hR2 : ∀ p q, p < m → q < m → Bis i mx mt p mx mt q → p = q) (hb : Bis i nx ot s1 mx mt s2) :
    trN nx i (rch nx i s1) = trN mx i (rch mx i s2) ∧ trO ot (rch nx i s1) = trO mt (rch mx i s2) := by
  have hP := par_rch hM hN hR1 hR2 hb
  have hl := hM.rch_stt
  have hk := hN.rch_stt
  constructor
  · refine list_ext_rows [] (by simp [trN, hP.1]) fun j hj => ?_
    have hj1 : j < (rch nx i s1).length := by simpa [trN] using hj
    have hj2 : j < (rch mx i s2).length := by rw [← hP.1]; exact hj1
    rw [tr_row hj1, tr_row hj2]
    unfold trR
    refine List.map_congr_left fun a ha => ?_
    rw [List.mem_range] at ha
    have m1 := hl.2 _ (getD_mem hj1)
    have m2 := hk.2 _ (getD_mem hj2)
    rw [par_ix hR2 hP hl hk (hM.rch_in (getD_mem hj1) ha) (hN.nN_lt m2 ha) ((hP.2 j hj1).next ha)]
  · refine list_ext_rows [] (by simp [trO, hP.1]) fun j hj => ?_
    have hj1 : j < (rch nx i s1).length := by simpa [trO] using hj
    have hj2 : j < (rch mx i s2).length := by rw [← hP.1]; exact hj1
    rw [tr_out hj1, tr_out hj2]
    have m1 := hM.row _ (hl.2 _ (getD_mem hj1))
    have m2 := hN.row _ (hk.2 _ (getD_mem hj2))
    refine list_ext_rows 0 (by rw [m1.2.1, m2.2.1]) fun a ha => ?_
    exact (hP.2 j hj1).out (by rw [← m1.2.1]; exact ha)
end

/-- The minimal machine is valid. -/
theorem Mok.mn {i st n : Nat} {nx ot : List (List Int)} (hM : Mok i st n nx ot) : Mok i 0 (mnR nx ot i st n).length (mnN nx ot i st n) (mnO nx ot i st n) := (hM.quot (eqc nx ot i n)).tr
/-- The minimal machine has the outputs of the machine. -/
theorem Mok.mn_bis {i st n : Nat} {nx ot : List (List Int)} (hM : Mok i st n nx ot) : Bis i (mnN nx ot i st n) (mnO nx ot i st n) 0 nx ot st := by
  intro u hu
  have hQ := hM.quot (eqc nx ot i n)
  have h1 := tr_run hQ u _ (st_mem _ _ _) hu
  rw [ixN_st] at h1
  exact h1.trans (hM.quot_bis hM.st u hu)
/-- Machines with the same outputs have the same minimal machine. -/
theorem mn_same {i s1 s2 n m : Nat} {nx ot mx mt : List (List Int)} (hM : Mok i s1 n nx ot) (hN : Mok i s2 m mx mt) (hb : Bis i nx ot s1 mx mt s2) : mnN nx ot i s1 n = mnN mx mt i s2 m ∧ mnO nx ot i s1 n = mnO mx mt i s2 m :=
  par_tr (hM.quot _) (hN.quot _) (fun _ _ hp hq h => hM.quot_red hp hq h) (fun _ _ hp hq h => hN.quot_red hp hq h) ((hM.quot_bis hM.st).trans (hb.trans (hN.quot_bis hN.st).symm))
theorem mnN_len (nx ot : List (List Int)) (i st n : Nat) : (mnN nx ot i st n).length = (mnR nx ot i st n).length := by unfold mnN trN; rw [List.length_map]
theorem mn_same_len {i s1 s2 n m : Nat} {nx ot mx mt : List (List Int)} (hM : Mok i s1 n nx ot) (hN : Mok i s2 m mx mt) (hb : Bis i nx ot s1 mx mt s2) : (mnR nx ot i s1 n).length = (mnR mx mt i s2 m).length := by
  rw [← mnN_len, ← mnN_len, (mn_same hM hN hb).1]
end Go.Proofs.Ytogcecfeofbbnaa
end

section
/- What the searches find: Check, Distinguish, Equal, Upto and States. -/
namespace Go.Proofs.Ytogcecfeofbbnaa
open Go.RowKit

/-- The first error of two machines. -/
def chk2 (i1 st1 : Int) (nx1 ot1 : List (List Int)) (i2 st2 : Int) (nx2 ot2 : List (List Int)) : Int := if ¬ vld i1 st1 nx1 ot1 = 0 then vld i1 st1 nx1 ot1 else if ¬ vld i2 st2 nx2 ot2 = 0 then vld i2 st2 nx2 ot2 else if i1 = i2 then 0 else 15
/-- What Distinguish finds. -/
def dres (i1 st1 : Int) (nx1 ot1 : List (List Int)) (i2 st2 : Int) (nx2 ot2 : List (List Int)) : Option (List Int) × Int :=
  if chk2 i1 st1 nx1 ot1 i2 st2 nx2 ot2 = 0 then (dst nx1 ot1 nx2 ot2 i1.toNat nx1.length nx2.length st1.toNat st2.toNat, 0) else (none, chk2 i1 st1 nx1 ot1 i2 st2 nx2 ot2)
/-- What States finds. -/
def sres (i st : Int) (nx ot : List (List Int)) (s t : Int) : Option (List Int) × Int :=
  if ¬ vld i st nx ot = 0 then (none, vld i st nx ot) else if (0 ≤ s ∧ s < (nx.length : Int)) ∧ 0 ≤ t ∧ t < (nx.length : Int) then (dst nx ot nx ot i.toNat nx.length nx.length s.toNat t.toNat, 0) else (none, 2)
theorem chk2_zero {i1 st1 i2 st2 : Int} {nx1 ot1 nx2 ot2 : List (List Int)} (h : chk2 i1 st1 nx1 ot1 i2 st2 nx2 ot2 = 0) : vld i1 st1 nx1 ot1 = 0 ∧ vld i2 st2 nx2 ot2 = 0 ∧ i1 = i2 := by
  unfold chk2 at h
  by_cases h1 : vld i1 st1 nx1 ot1 = 0
  · by_cases h2 : vld i2 st2 nx2 ot2 = 0
    · by_cases h3 : i1 = i2
      · exact ⟨h1, h2, h3⟩
      · rw [if_neg (by simp [h1]), if_neg (by simp [h2]), if_neg h3] at h; omega
    · rw [if_neg (by simp [h1]), if_pos h2] at h; exact absurd h h2
  · rw [if_pos h1] at h; exact absurd h h1
/-- Is there no distinguishing word? -/
def eqb (D : Option (List Int) × Int) : Bool := D.2 == 0 && !D.1.isSome
def upb (D : Option (List Int) × Int) (n : Int) : Bool := D.2 == 0 && (!D.1.isSome || decide (n < ((D.1.getD []).length : Int)))
theorem pair_boxes (w : World) (i1 st1 i2 st2 : Int) (A B C D : Option Addr) (n c m d n2 c2 m2 d2 : Nat) :
    Below w.heap.size w ((w.alloc (.cells #[.int .i64 i1, .int .i64 st1, .slice A n c, .slice B m d] 24)).alloc (.cells #[.int .i64 i2, .int .i64 st2, .slice C n2 c2, .slice D m2 d2] 24)) ∧
    Mblk ((w.alloc (.cells #[.int .i64 i1, .int .i64 st1, .slice A n c, .slice B m d] 24)).alloc (.cells #[.int .i64 i2, .int .i64 st2, .slice C n2 c2, .slice D m2 d2] 24)) w.heap.size (.int .i64 i1) (.int .i64 st1) (.slice A n c) (.slice B m d) ∧
    Mblk ((w.alloc (.cells #[.int .i64 i1, .int .i64 st1, .slice A n c, .slice B m d] 24)).alloc (.cells #[.int .i64 i2, .int .i64 st2, .slice C n2 c2, .slice D m2 d2] 24)) (w.heap.size + 1) (.int .i64 i2) (.int .i64 st2) (.slice C n2 c2) (.slice D m2 d2) := by
  refine ⟨bt (alloc_below _ _) (alloc_below _ _), Mblk.kept (mealy_box w _ _ _ _) (alloc_below _ _) (by simp), ?_⟩
  have := mealy_box (w.alloc (.cells #[.int .i64 i1, .int .i64 st1, .slice A n c, .slice B m d] 24)) (.int .i64 i2) (.int .i64 st2) (.slice C n2 c2) (.slice D m2 d2)
  simpa using this
theorem Mblk.on9 {w w' : World} {g : Nat} {a b c d : Value} (h : Mblk w g a b c d) (hb : Below w.heap.size w w') : Mblk w' g a b c d := h.kept hb (heap_lt h)

end Go.Proofs.Ytogcecfeofbbnaa
end

section
/- Compositions of machines with the same outputs. -/
namespace Go.Proofs.Ytogcecfeofbbnaa

/-- Different states of the minimal machine have different outputs. -/
theorem mn_inj {i st n : Nat} {nx ot : List (List Int)} (hM : Mok i st n nx ot) {j k : Nat} (hj : j < (mnR nx ot i st n).length) (hk : k < (mnR nx ot i st n).length)
    (h : Bis i (mnN nx ot i st n) (mnO nx ot i st n) j (mnN nx ot i st n) (mnO nx ot i st n) k) : j = k := by
  have hQ := hM.quot (eqc nx ot i n)
  have hS := hQ.rch_stt
  have e1 : ixN (mnR nx ot i st n) ((mnR nx ot i st n).getD j 0) = j := ixN_of hS.1 hj
  have e2 : ixN (mnR nx ot i st n) ((mnR nx ot i st n).getD k 0) = k := ixN_of hS.1 hk
  have h1 : Bis i (qN nx i (eqc nx ot i n) n) (qO ot (eqc nx ot i n) n) ((mnR nx ot i st n).getD j 0) (qN nx i (eqc nx ot i n) n) (qO ot (eqc nx ot i n) n) ((mnR nx ot i st n).getD k 0) := fun u hu => by
    have a1 := tr_run hQ u ((mnR nx ot i st n).getD j 0) (getD_mem hj) hu
    have a2 := tr_run hQ u ((mnR nx ot i st n).getD k 0) (getD_mem hk) hu
    have b1 : runO (mnN nx ot i st n) (mnO nx ot i st n) j u = runO (qN nx i (eqc nx ot i n) n) (qO ot (eqc nx ot i n) n) ((mnR nx ot i st n).getD j 0) u := by
      rw [show ixN (rch (qN nx i (eqc nx ot i n) n) i (nmb (eqc nx ot i n) st)) ((mnR nx ot i st n).getD j 0) = j from e1] at a1
      exact a1
    have b2 : runO (mnN nx ot i st n) (mnO nx ot i st n) k u = runO (qN nx i (eqc nx ot i n) n) (qO ot (eqc nx ot i n) n) ((mnR nx ot i st n).getD k 0) u := by
      rw [show ixN (rch (qN nx i (eqc nx ot i n) n) i (nmb (eqc nx ot i n) st)) ((mnR nx ot i st n).getD k 0) = k from e2] at a2
      exact a2
    exact b1.symm.trans ((h u hu).trans b2)
  have h2 : (mnR nx ot i st n).getD j 0 = (mnR nx ot i st n).getD k 0 := hM.quot_red (hS.2 _ (getD_mem hj)) (hS.2 _ (getD_mem hk)) h1
  have h3 := congrArg (ixN (mnR nx ot i st n)) h2
  rw [e1, e2] at h3
  exact h3
/-- Two searches of pairs that go side by side. -/
structure Side (F : Nat × Nat → Nat → Nat × Nat) (O : Nat × Nat → Nat → Nat) (F' : Nat × Nat → Nat → Nat × Nat) (O' : Nat × Nat → Nat → Nat) (I : Nat) (Rl : Nat × Nat → Nat × Nat → Prop) (p0 q0 : Nat × Nat) : Prop where
  st : Rl p0 q0
  step : ∀ p q x, Rl p q → x < I → Rl (F p x) (F' q x)
  out : ∀ p q x, Rl p q → x < I → O p x = O' q x
  inj : ∀ p q q', Rl p q → Rl p q' → q = q'
section
variable {F F' : Nat × Nat → Nat → Nat × Nat} {O O' : Nat × Nat → Nat → Nat} {I n m k l s t s' t' : Nat} {Rl : Nat × Nat → Nat × Nat → Prop}
theorem Side.run (h : Side F O F' O' I Rl (s, t) (s', t')) : ∀ (u : List Int) (p q : Nat × Nat), Rl p q → Wd I u → Rl (runF F p u) (runF F' q u)
  | [], _, _, hr, _ => hr
  | x :: u, p, q, hr, hu => by
    obtain ⟨a, rfl, ha⟩ := hu.head
    show Rl (runF F (F p ((a : Int)).toNat) u) (runF F' (F' q ((a : Int)).toNat) u)
    rw [Int.toNat_natCast]
    exact h.run u _ _ (h.step p q a hr ha) hu.tail
theorem Side.outF (h : Side F O F' O' I Rl (s, t) (s', t')) : ∀ (u : List Int) (p q : Nat × Nat), Rl p q → Wd I u → outF F O p u = outF F' O' q u
  | [], _, _, _, _ => rfl
  | x :: u, p, q, hr, hu => by
    obtain ⟨a, rfl, ha⟩ := hu.head
    show ((O p ((a : Int)).toNat : Nat) : Int) :: Go.Proofs.Ytogcecfeofbbnaa.outF F O (F p ((a : Int)).toNat) u = ((O' q ((a : Int)).toNat : Nat) : Int) :: Go.Proofs.Ytogcecfeofbbnaa.outF F' O' (F' q ((a : Int)).toNat) u
    rw [Int.toNat_natCast, h.out p q a hr ha, h.outF u _ _ (h.step p q a hr ha) hu.tail]
theorem Side.bis (h : Side F O F' O' I Rl (s, t) (s', t')) (hF : Stp F I n m) (hs : s < n) (ht : t < m) (hF' : Stp F' I k l) (hs' : s' < k) (ht' : t' < l) :
    Bis I (autN F I (fdG F I n m s t)) (outN O I (fdG F I n m s t)) 0 (autN F' I (fdG F' I k l s' t')) (outN O' I (fdG F' I k l s' t')) 0 := fun u hu => by
  rw [fdG_run hF hs ht rfl hu, fdG_run hF' hs' ht' rfl hu]
  exact h.outF u _ _ h.st hu
theorem Side.fits (h : Side F O F' O' I Rl (s, t) (s', t')) (hF : Stp F I n m) (hs : s < n) (ht : t < m) (hF' : Stp F' I k l) (hs' : s' < k) (ht' : t' < l) (hf : Fits O I (fdG F I n m s t)) : Fits O' I (fdG F' I k l s' t') := by
  have hP := fdG_ord hF hs ht
  have hQ := fdG_ord hF' hs' ht'
  have eQ := fdG_ens hF' hs' ht'
  have key : ∀ j, j < (fdG F' I k l s' t').length → runF F (s, t) ((fdG F' I k l s' t').getD j Ent.zero).w ∈ (fdG F I n m s t).map Ent.pr ∧ Rl (runF F (s, t) ((fdG F' I k l s' t').getD j Ent.zero).w) ((fdG F' I k l s' t').getD j Ent.zero).pr := fun j hj => by
    obtain ⟨w1, e1⟩ := hQ.word hj
    refine ⟨hP.has w1, ?_⟩
    have := h.run _ _ _ h.st w1
    rw [e1] at this
    exact this
  refine ⟨?_, fun j hj a ha => ?_⟩
  · have hS : Stt (fdG F I n m s t).length ((List.range (fdG F' I k l s' t').length).map fun j => plE (fdG F I n m s t) (runF F (s, t) ((fdG F' I k l s' t').getD j Ent.zero).w)) := by
      refine ⟨?_, fun x hx => ?_⟩
      · rw [List.Nodup, List.pairwise_map]
        refine List.Pairwise.imp_of_mem ?_ (List.nodup_range (n := (fdG F' I k l s' t').length))
        intro a b ha hb hab e
        have ha := List.mem_range.1 ha
        have hb := List.mem_range.1 hb
        obtain ⟨m1, r1⟩ := key a ha
        obtain ⟨m2, r2⟩ := key b hb
        have e2 := congrArg (fun z => ((fdG F I n m s t).getD z Ent.zero).pr) e
        simp only [plE_at m1, plE_at m2] at e2
        rw [e2] at r1
        exact hab (eQ.inj ha hb (h.inj _ _ _ r1 r2))
      · obtain ⟨j, hj, rfl⟩ := List.mem_map.1 hx
        exact plE_lt (key j (List.mem_range.1 hj)).1
    have h1 := hS.len
    rw [List.length_map, List.length_range] at h1
    have := hf.1
    omega
  · obtain ⟨m1, r1⟩ := key j hj
    rw [← h.out _ _ a r1 ha, ← plE_at m1]
    exact hf.2 _ (plE_lt m1) a ha
end
/-- The second of two equal results. -/
def eqX (X Y : RsX) : Option (List Int) × Int := dres X.1 0 X.2.1 X.2.2.1 Y.1 0 Y.2.1 Y.2.2.1
theorem cmpX_err {F : Nat × Nat → Nat → Nat × Nat} {O : Nat × Nat → Nat → Nat} {i n m s t : Nat} (h : (cmpX F O i n m s t).2.2.2 = 0) : Fits O i (fdG F i n m s t) := by
  unfold cmpX at h
  by_cases hf : Fits O i (fdG F i n m s t)
  · exact hf
  · rw [if_neg hf] at h; exact absurd h (by decide)
theorem cmpX_fit {F : Nat × Nat → Nat → Nat × Nat} {O : Nat × Nat → Nat → Nat} {i n m s t : Nat} (hf : Fits O i (fdG F i n m s t)) : cmpX F O i n m s t = (i, autN F i (fdG F i n m s t), outN O i (fdG F i n m s t), 0) := by unfold cmpX; rw [if_pos hf]
theorem Side.same {F F' : Nat × Nat → Nat → Nat × Nat} {O O' : Nat × Nat → Nat → Nat} {I n m k l s t s' t' : Nat} {Rl : Nat × Nat → Nat × Nat → Prop} (h : Side F O F' O' I Rl (s, t) (s', t')) (hF : Stp F I n m) (hs : s < n) (ht : t < m) (hF' : Stp F' I k l) (hs' : s' < k) (ht' : t' < l) (h1 : 1 ≤ I) (h2 : I ≤ 64)
    (he : (cmpX F O I n m s t).2.2.2 = 0) : (cmpX F' O' I k l s' t').2.2.2 = 0 ∧ eqX (cmpX F O I n m s t) (cmpX F' O' I k l s' t') = (none, 0) := by
  have hf := cmpX_err he
  have hf' := h.fits hF hs ht hF' hs' ht' hf
  rw [cmpX_fit hf, cmpX_fit hf']
  refine ⟨rfl, ?_⟩
  have hM := fdG_mok hF hs ht h1 h2 rfl hf
  have hM' := fdG_mok hF' hs' ht' h1 h2 rfl hf'
  unfold eqX dres
  have hc : chk2 I (0 : Int) (autN F I (fdG F I n m s t)) (outN O I (fdG F I n m s t)) I (0 : Int) (autN F' I (fdG F' I k l s' t')) (outN O' I (fdG F' I k l s' t')) = 0 := by
    unfold chk2
    rw [if_neg (by rw [show vld (I : Int) (0 : Int) (autN F I (fdG F I n m s t)) (outN O I (fdG F I n m s t)) = 0 from hM.vld]; simp), if_neg (by rw [show vld (I : Int) (0 : Int) (autN F' I (fdG F' I k l s' t')) (outN O' I (fdG F' I k l s' t')) = 0 from hM'.vld]; simp), if_pos rfl]
  have hd := (dst_none hM hM' hM.st hM'.st).2 (h.bis hF hs ht hF' hs' ht')
  rw [if_pos hc]
  show (dst _ _ _ _ ((I : Int)).toNat _ _ ((0 : Int)).toNat ((0 : Int)).toNat, (0 : Int)) = _
  rw [autN_len, autN_len, Int.toNat_natCast]
  exact congrArg (fun z => (z, (0 : Int))) hd
section
variable {i st n i' st' n' : Nat} {nx ot nx' ot' : List (List Int)}
/-- Pairs of states of the machines, and of the minimal machines. -/
def RelM (i n i' n' : Nat) (nx ot nx' ot' mx mt mx' mt' : List (List Int)) (k l : Nat) (p q : Nat × Nat) : Prop := p.1 < n ∧ p.2 < n' ∧ q.1 < k ∧ q.2 < l ∧ Bis i mx mt q.1 nx ot p.1 ∧ Bis i' mx' mt' q.2 nx' ot' p.2
theorem oM_bis {mx mt : List (List Int)} {p q a : Nat} (h : Bis i mx mt q nx ot p) (ha : a < i) : oM ot p a = oM mt q a := by unfold oM; rw [h.out ha]
theorem relM_st (hM : Mok i st n nx ot) (hM' : Mok i' st' n' nx' ot') : RelM i n i' n' nx ot nx' ot' (mnN nx ot i st n) (mnO nx ot i st n) (mnN nx' ot' i' st' n') (mnO nx' ot' i' st' n') (mnR nx ot i st n).length (mnR nx' ot' i' st' n').length (st, st') (0, 0) :=
  ⟨hM.st, hM'.st, hM.mn.st, hM'.mn.st, hM.mn_bis, hM'.mn_bis⟩
theorem relM_inj (hM : Mok i st n nx ot) (hM' : Mok i' st' n' nx' ot') {p q q' : Nat × Nat} (h : RelM i n i' n' nx ot nx' ot' (mnN nx ot i st n) (mnO nx ot i st n) (mnN nx' ot' i' st' n') (mnO nx' ot' i' st' n') (mnR nx ot i st n).length (mnR nx' ot' i' st' n').length p q)
    (h' : RelM i n i' n' nx ot nx' ot' (mnN nx ot i st n) (mnO nx ot i st n) (mnN nx' ot' i' st' n') (mnO nx' ot' i' st' n') (mnR nx ot i st n).length (mnR nx' ot' i' st' n').length p q') : q = q' := by
  obtain ⟨_, _, h1, h2, b1, b2⟩ := h
  obtain ⟨_, _, h3, h4, b3, b4⟩ := h'
  exact Prod.ext (mn_inj hM h1 h3 (b1.trans b3.symm)) (mn_inj hM' h2 h4 (b2.trans b4.symm))
theorem pr_side (hM : Mok i st n nx ot) (hM' : Mok i st' n' nx' ot') (hg : grt (mnO nx' ot' i st' n') = grt ot') :
    Side (prF nx nx') (prO ot ot' (grt ot')) (prF (mnN nx ot i st n) (mnN nx' ot' i st' n')) (prO (mnO nx ot i st n) (mnO nx' ot' i st' n') (grt (mnO nx' ot' i st' n'))) i
      (RelM i n i n' nx ot nx' ot' (mnN nx ot i st n) (mnO nx ot i st n) (mnN nx' ot' i st' n') (mnO nx' ot' i st' n') (mnR nx ot i st n).length (mnR nx' ot' i st' n').length) (st, st') (0, 0) where
  st := relM_st hM hM'
  step := fun p q x h hx => by
    obtain ⟨h1, h2, h3, h4, b1, b2⟩ := h
    exact ⟨hM.nN_lt h1 hx, hM'.nN_lt h2 hx, hM.mn.nN_lt h3 hx, hM'.mn.nN_lt h4 hx, b1.next hx, b2.next hx⟩
  out := fun p q x h hx => by
    obtain ⟨h1, h2, h3, h4, b1, b2⟩ := h
    show oM ot p.1 x * (1 + grt ot') + oM ot' p.2 x = oM _ q.1 x * (1 + grt _) + oM _ q.2 x
    rw [oM_bis b1 hx, oM_bis b2 hx, hg]
  inj := fun p q q' h h' => relM_inj hM hM' h h'
theorem pa_side (hM : Mok i st n nx ot) (hM' : Mok i' st' n' nx' ot') (hg : grt (mnO nx ot i st n) = grt ot) :
    Side (paF i nx nx') (paO i ot ot' (grt ot)) (paF i (mnN nx ot i st n) (mnN nx' ot' i' st' n')) (paO i (mnO nx ot i st n) (mnO nx' ot' i' st' n') (grt (mnO nx ot i st n))) (i + i')
      (RelM i n i' n' nx ot nx' ot' (mnN nx ot i st n) (mnO nx ot i st n) (mnN nx' ot' i' st' n') (mnO nx' ot' i' st' n') (mnR nx ot i st n).length (mnR nx' ot' i' st' n').length) (st, st') (0, 0) where
  st := relM_st hM hM'
  step := fun p q x h hx => by
    obtain ⟨h1, h2, h3, h4, b1, b2⟩ := h
    unfold paF
    by_cases hxi : x < i
    · rw [if_pos hxi, if_pos hxi]
      exact ⟨hM.nN_lt h1 hxi, h2, hM.mn.nN_lt h3 hxi, h4, b1.next hxi, b2⟩
    · rw [if_neg hxi, if_neg hxi]
      have hb : x - i < i' := by omega
      exact ⟨h1, hM'.nN_lt h2 hb, h3, hM'.mn.nN_lt h4 hb, b1, b2.next hb⟩
  out := fun p q x h hx => by
    obtain ⟨h1, h2, h3, h4, b1, b2⟩ := h
    unfold paO
    by_cases hxi : x < i
    · rw [if_pos hxi, if_pos hxi, oM_bis b1 hxi]
    · rw [if_neg hxi, if_neg hxi, oM_bis b2 (show x - i < i' by omega), hg]
  inj := fun p q q' h h' => relM_inj hM hM' h h'
/-- The law, for Product. -/
theorem pr_same (hM : Mok i st n nx ot) (hM' : Mok i' st' n' nx' ot') (hg : grt (mnO nx' ot' i' st' n') = grt ot') (h : (prX i st nx ot i' st' nx' ot').2.2.2 = 0) :
    (prX i ((0 : Nat) : Int) (mnN nx ot i st n) (mnO nx ot i st n) i' ((0 : Nat) : Int) (mnN nx' ot' i' st' n') (mnO nx' ot' i' st' n')).2.2.2 = 0 ∧
    eqX (prX i st nx ot i' st' nx' ot') (prX i ((0 : Nat) : Int) (mnN nx ot i st n) (mnO nx ot i st n) i' ((0 : Nat) : Int) (mnN nx' ot' i' st' n') (mnO nx' ot' i' st' n')) = (none, 0) := by
  by_cases hi : i = i'
  · subst hi
    rw [prX_ok hM hM'] at h ⊢
    rw [prX_ok hM.mn hM'.mn]
    exact (pr_side hM hM' hg).same (pr_stp hM hM') hM.st hM'.st (pr_stp hM.mn hM'.mn) hM.mn.st hM'.mn.st hM.i1 hM.i2 h
  · rw [prX_no hM hM' hi] at h
    exact absurd h (by decide)
theorem pa_same (hM : Mok i st n nx ot) (hM' : Mok i' st' n' nx' ot') (hg : grt (mnO nx ot i st n) = grt ot) (h : (paX i st nx ot i' st' nx' ot').2.2.2 = 0) :
    (paX i ((0 : Nat) : Int) (mnN nx ot i st n) (mnO nx ot i st n) i' ((0 : Nat) : Int) (mnN nx' ot' i' st' n') (mnO nx' ot' i' st' n')).2.2.2 = 0 ∧
    eqX (paX i st nx ot i' st' nx' ot') (paX i ((0 : Nat) : Int) (mnN nx ot i st n) (mnO nx ot i st n) i' ((0 : Nat) : Int) (mnN nx' ot' i' st' n') (mnO nx' ot' i' st' n')) = (none, 0) := by
  by_cases hi : i + i' ≤ 64
  · rw [paX_ok hM hM' hi] at h ⊢
    rw [paX_ok hM.mn hM'.mn hi]
    exact (pa_side hM hM' hg).same (pa_stp hM hM') hM.st hM'.st (pa_stp hM.mn hM'.mn) hM.mn.st hM'.mn.st (by have := hM.i1; omega) hi h
  · rw [paX_no hM hM' hi] at h
    exact absurd h (by decide)
end
end Go.Proofs.Ytogcecfeofbbnaa
end
