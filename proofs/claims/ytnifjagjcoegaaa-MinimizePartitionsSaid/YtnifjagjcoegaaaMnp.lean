/- The minimal machine. -/
import Derived.Test.YtnifjagjcoegaaaQtp
namespace Go.Proofs.Ytnifjagjcoegaaa

theorem getD_map {α β : Type} (g : α → β) (l : List α) (d : α) (e : β) {j : Nat} (h : j < l.length) : (l.map g).getD j e = g (l.getD j d) := by
  rw [List.getD_eq_getElem?_getD, List.getElem?_map, List.getD_eq_getElem?_getD, List.getElem?_eq_getElem h]; rfl
theorem qN_row (nx : List (List Int)) (i : Nat) (f : Nat → Nat) {n j : Nat} (h : j < (reps f n).length) : (qN nx i f n).getD j [] = qR nx i f ((reps f n).getD j 0) := getD_map _ _ 0 _ h
theorem qO_row (ot : List (List Int)) (f : Nat → Nat) {n j : Nat} (h : j < (reps f n).length) : (qO ot f n).getD j [] = ot.getD ((reps f n).getD j 0) [] := by unfold qO; exact getD_map _ _ 0 _ h
theorem reps_get_lt (f : Nat → Nat) {n j : Nat} (h : j < (reps f n).length) : (reps f n).getD j 0 < n := reps_lt f n (getD_mem h)
theorem nmb_lt_reps (f : Nat → Nat) {n s : Nat} (h : s < n) : nmb f s < (reps f n).length := by rw [reps_len]; exact nmb_lt f h
theorem Mok.quot {i st n : Nat} {nx ot : List (List Int)} (hM : Mok i st n nx ot) (f : Nat → Nat) : Mok i (nmb f st) (reps f n).length (qN nx i f n) (qO ot f n) where
  i1 := hM.i1
  i2 := hM.i2
  n1 := by have := nmb_lt_reps f hM.st; omega
  n2 := by have := reps_le f n; have := hM.n2; omega
  st := nmb_lt_reps f hM.st
  nxl := qN_len _ _ _ _
  otl := qO_len _ _ _
  row := fun s hs => by
    have hr := reps_get_lt f hs
    rw [qN_row _ _ _ hs, qO_row _ _ hs]
    obtain ⟨h1, h2, h3⟩ := hM.row _ hr
    refine ⟨qR_len _ _ _ _, h2, fun a ha => ?_⟩
    rw [qR_at ha]
    have h4 := nmb_lt_reps f (hM.nN_lt hr ha)
    have h5 := h3 a ha
    exact ⟨by omega, by omega, h5.2.2.1, h5.2.2.2⟩
/-- The classes of equivalent states. -/
def eqc (nx ot : List (List Int)) (i n : Nat) : Nat → Nat := cN nx ot i n (dep nx ot i n)
/-- The tables of the minimal machine, and the states of the machine of classes that it has. -/
def mnR (nx ot : List (List Int)) (i st n : Nat) : List Nat := rch (qN nx i (eqc nx ot i n) n) i (nmb (eqc nx ot i n) st)
def mnN (nx ot : List (List Int)) (i st n : Nat) : List (List Int) := trN (qN nx i (eqc nx ot i n) n) i (mnR nx ot i st n)
def mnO (nx ot : List (List Int)) (i st n : Nat) : List (List Int) := trO (qO ot (eqc nx ot i n) n) (mnR nx ot i st n)
theorem Mok.mnR_len {i st n : Nat} {nx ot : List (List Int)} (hM : Mok i st n nx ot) : (mnR nx ot i st n).length ≤ n := by
  have h1 := (hM.quot (eqc nx ot i n)).rch_stt.len
  have h2 := reps_le (eqc nx ot i n) n
  unfold mnR
  omega
end Go.Proofs.Ytnifjagjcoegaaa
