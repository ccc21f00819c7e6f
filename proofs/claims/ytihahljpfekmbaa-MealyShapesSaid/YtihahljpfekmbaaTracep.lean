/- Traces of words: what it returns. -/
import Derived.Test.YtihahljpfekmbaaOwnT
import Derived.Test.YtihahljpfekmbaaRunk
import Derived.Test.YtihahljpfekmbaaFromm
namespace Go.Proofs.Ytihahljpfekmbaa
open Go.RowKit

/-- The traces of the words, and the error. -/
def trs (i st : Nat) (nx ot : List (List Int)) : List (List Int) → List (List Int × List Int) → List (List Int × List Int) × Int
  | [], l => (l, 0)
  | w :: ws, l => if chk w i = 0 then trs i st nx ot ws (l ++ [(w, runO nx ot st w)]) else ([], chk w i)
theorem trs_ok {i st j : Nat} {nx ot ws : List (List Int)} (h : j < ws.length) (hc : chk (ws.getD j []) i = 0) (l : List (List Int × List Int)) : trs i st nx ot (ws.drop j) l = trs i st nx ot (ws.drop (j + 1)) (l ++ [(ws.getD j [], runO nx ot st (ws.getD j []))]) := by
  rw [List.drop_eq_getElem_cons h]
  rw [List.getD_eq_getElem?_getD, List.getElem?_eq_getElem h] at hc ⊢
  show (if chk ws[j] i = 0 then _ else _) = _
  exact if_pos hc
theorem trs_bad {i st j : Nat} {nx ot ws : List (List Int)} (h : j < ws.length) (hc : ¬ chk (ws.getD j []) i = 0) (l : List (List Int × List Int)) : trs i st nx ot (ws.drop j) l = ([], chk (ws.getD j []) i) := by
  rw [List.drop_eq_getElem_cons h]
  rw [List.getD_eq_getElem?_getD, List.getElem?_eq_getElem h] at hc ⊢
  show (if chk ws[j] i = 0 then _ else _) = _
  exact if_neg hc
theorem trs_end {i st j : Nat} {nx ot ws : List (List Int)} (h : ws.length ≤ j) (l : List (List Int × List Int)) : trs i st nx ot (ws.drop j) l = (l, 0) := by
  rw [List.drop_eq_nil_of_le h]; rfl
theorem trs_len {i st : Nat} {nx ot : List (List Int)} : ∀ (ws : List (List Int)) (l : List (List Int × List Int)), (trs i st nx ot ws l).1.length ≤ l.length + ws.length
  | [], l => Nat.le_refl _
  | w :: ws, l => by
    unfold trs
    split
    · refine Nat.le_trans (trs_len ws _) ?_
      simp; omega
    · simp
theorem ret_trs {A : Option Addr} {l l' c : Nat} {k : IntKind} {y y' : Int} (h1 : l = l') (h3 : y = y') : Ending.returned (.tuple #[.slice A l c, .int k y]) = .returned (.tuple #[.slice A l' c, .int k y']) := by rw [h1, h3]

theorem one_word {w : World} {A : Option Addr} {n c : Nat} {xs : List Int} (h1 : Ints w A n xs) : Lists (w.alloc (.cells #[.slice A n c] 32)) (some ⟨w.heap.size, 0, none⟩) 1 [xs] := by
  have hb := alloc_below w (.cells #[.slice A n c] 32)
  refine ⟨rfl, by omega, fun _ => ⟨w.heap.size, 0, rfl, by simp, fun j hj => ?_⟩⟩
  have hc := fun j => cell_of_row (w.alloc (.cells #[.slice A n c] 32)) w.heap.size j _ 32 (0, 0) (heap_alloc_new w _)
  rw [Nat.zero_add, hc j]
  match j, hj with
  | 0, _ => exact ⟨_, n, c, rfl, h1.below hb⟩
theorem join_one {w : World} {A : Option Addr} {n c : Nat} {xs : List Int} (h1 : Ints w A n xs) :
    Calls Try.prog 61 #[.slice (some ⟨w.heap.size, 0, none⟩) 1 1] (w.alloc (.cells #[.slice A n c] 32)) fun e w' => ∃ A' c', e = .returned (.slice A' n c') ∧ Owned w' w.heap.size (.slice A' n c') xs ∧ Below w.heap.size w w' := by
  have e : [xs].flatten = xs := by simp
  refine (rjoin _ 1 1 [xs] _ (one_word h1) (by rw [e, h1.1]; exact h1.2.1)).mono ?_
  rintro e' w' ⟨v, rfl, ho, hb⟩
  rw [e] at ho
  obtain ⟨A', c', rfl⟩ := ho.form
  rw [h1.1] at ho ⊢
  exact ⟨A', c', rfl, ho.lower (by simp), bt (alloc_below _ _) hb⟩
theorem rcheckq (A : Option Addr) (n c : Nat) (k : Int) (xs : List Int) (w : World) (h : Ints w A n xs) :
    Calls Try.prog 82 #[.slice A n c, .int .i64 k] w fun e w' => e = .returned (.int .i64 (chk xs k)) ∧ ∃ q, w' = w.drewN q := (rcheck A n c k xs w h).mono fun _ _ ⟨h, e⟩ => ⟨h, 0, e.symm⟩
end Go.Proofs.Ytihahljpfekmbaa
