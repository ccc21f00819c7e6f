/- Lemmas of the proofs of this seat, of the parts Gcl, Stepm, Runm, Fromm, Outsr, Trimm, Boxm, Gcc, Gcb, Gcn. Conditions: none. -/
import Derived.Test.YtogcecfeofbbnaaNac
import Derived.Test.YtogcecfeofbbnaaNab
import Derived.Test.YtogcecfeofbbnaaNaa
import Derived.RegionTactic
import Derived.BigRegion
import Derived.Deep.RegionLaw
import Derived.Deep.RegionHeld3
import Derived.WalkMore
section
/- What compositions answer, word by word. -/
namespace Go.Proofs.Ytogcecfeofbbnaa

section
variable {F : Nat × Nat → Nat → Nat × Nat} {O : Nat × Nat → Nat → Nat} {i n m s t k a : Nat} {E : List Ent}
theorem outF_len : ∀ (u : List Int) (p : Nat × Nat), (outF F O p u).length = u.length
  | [], _ => rfl
  | x :: u, p => by show (outF F O _ u).length + 1 = u.length + 1; rw [outF_len u]
/-- The access word of a pair leads to its number. -/
theorem fdG_word (hF : Stp F i n m) (hs : s < n) (ht : t < m) (hE : E = fdG F i n m s t) (hk : k < E.length) : runS (autN F i E) 0 (E.getD k Ent.zero).w = k := by
  subst hE
  have hE := fdG_ens hF hs ht
  have hO := fdG_ord hF hs ht
  obtain ⟨w1, e1⟩ := hO.word hk
  obtain ⟨h1, h2⟩ := aut_run hF hE hO (fdG F i n m s t |>.getD k Ent.zero).w 0 hO.ne w1
  rw [show ((fdG F i n m s t).getD 0 Ent.zero).pr = (s, t) from Prod.ext hO.zp.1 hO.zp.2, e1] at h2
  exact hE.inj h1 hk h2
theorem rch_run {i st n : Nat} {nx ot : List (List Int)} (hM : Mok i st n nx ot) : ∀ (u : List Int) (q : Nat), q ∈ rch nx i st → Wd i u → runS nx q u ∈ rch nx i st
  | [], _, h, _ => h
  | x :: u, q, h, hu => by
    obtain ⟨a, rfl, ha⟩ := hu.head
    exact rch_run hM u _ (hM.rch_in h (by simpa using ha)) hu.tail
/-- All states are reached. -/
theorem fdG_rch (hF : Stp F i n m) (hs : s < n) (ht : t < m) (hi1 : 1 ≤ i) (hi : i ≤ 64) (hE : E = fdG F i n m s t) (h : Fits O i E) : (rch (autN F i E) i 0).length = E.length := by
  have hM := fdG_mok hF hs ht hi1 hi hE h
  have hle := hM.rch_stt.len
  have hmem : ∀ k, k < E.length → k ∈ rch (autN F i E) i 0 := fun k hk => by
    have h1 := fdG_word hF hs ht hE hk
    have hW : Wd i (E.getD k Ent.zero).w := by
      subst hE
      exact ((fdG_ord hF hs ht).word hk).1
    rw [← h1]
    exact rch_run hM _ _ (st_mem _ _ _) hW
  have hS : Stt (rch (autN F i E) i 0).length ((List.range E.length).map (ixN (rch (autN F i E) i 0))) := by
    refine ⟨?_, fun x hx => ?_⟩
    · rw [List.nodup_iff_pairwise_ne, List.pairwise_map]
      refine List.Pairwise.imp_of_mem (fun {a b} ha hb hab e => hab ?_) (List.nodup_iff_pairwise_ne.1 List.nodup_range)
      rw [← ixN_at (hmem a (List.mem_range.1 ha)), ← ixN_at (hmem b (List.mem_range.1 hb)), e]
    · obtain ⟨k, hk, rfl⟩ := List.mem_map.1 hx
      exact ixN_lt (hmem k (List.mem_range.1 hk))
  have := hS.len
  rw [List.length_map, List.length_range] at this
  omega
end
section
variable {i i' st n st' n' : Nat} {nx ot nx' ot' : List (List Int)}
theorem pr_out (h : Mok i st n nx ot) (h' : Mok i st' n' nx' ot') (g : Nat) : ∀ (u : List Int) (p q : Nat), p < n → q < n' → Wd i u → ∀ j, j < u.length →
    (outF (prF nx nx') (prO ot ot' g) (p, q) u).getD j 0 = (runO nx ot p u).getD j 0 * ((1 + g : Nat) : Int) + (runO nx' ot' q u).getD j 0
  | [], _, _, _, _, _, j, hj => absurd hj (by simp)
  | x :: u, p, q, hp, hq, hu, 0, _ => by
    obtain ⟨a, rfl, ha⟩ := hu.head
    show ((prO ot ot' g (p, q) ((a : Int)).toNat : Nat) : Int) = oN ot p ((a : Int)).toNat * _ + oN ot' q ((a : Int)).toNat
    rw [Int.toNat_natCast, h.oM_eq hp ha, h'.oM_eq hq ha]
    show ((oM ot p a * (1 + g) + oM ot' q a : Nat) : Int) = _
    rw [Int.natCast_add, Int.natCast_mul]
  | x :: u, p, q, hp, hq, hu, j + 1, hj => by
    obtain ⟨a, rfl, ha⟩ := hu.head
    exact pr_out h h' g u (nN nx p ((a : Int)).toNat) (nN nx' q ((a : Int)).toNat) (h.nN_lt hp (by simpa using ha)) (h'.nN_lt hq (by simpa using ha)) hu.tail j (by simpa using hj)
theorem ca_out (h : Mok i st n nx ot) (h' : Mok i' st' n' nx' ot') (hg : ∀ s a, s < n → a < i → oM ot s a < i') : ∀ (u : List Int) (p q : Nat), p < n → q < n' → Wd i u →
    outF (caF nx ot nx') (caO ot ot') (p, q) u = runO nx' ot' q (runO nx ot p u) ∧ Wd i' (runO nx ot p u)
  | [], _, _, _, _, _ => ⟨rfl, Wd.nil _⟩
  | x :: u, p, q, hp, hq, hu => by
    obtain ⟨a, rfl, ha⟩ := hu.head
    have h1 := hg p a hp ha
    obtain ⟨e1, e2⟩ := ca_out h h' hg u (nN nx p a) (nN nx' q (oM ot p a)) (h.nN_lt hp ha) (h'.nN_lt hq h1) hu.tail
    constructor
    · show ((caO ot ot' (p, q) ((a : Int)).toNat : Nat) : Int) :: outF (caF nx ot nx') (caO ot ot') (caF nx ot nx' (p, q) ((a : Int)).toNat) u = oN ot' q (oN ot p ((a : Int)).toNat).toNat :: runO nx' ot' (nN nx' q (oN ot p ((a : Int)).toNat).toNat) (runO nx ot (nN nx p ((a : Int)).toNat) u)
      rw [Int.toNat_natCast]
      show ((oM ot' q (oM ot p a) : Nat) : Int) :: outF (caF nx ot nx') (caO ot ot') (nN nx p a, nN nx' q (oM ot p a)) u = oN ot' q (oM ot p a) :: runO nx' ot' (nN nx' q (oM ot p a)) _
      rw [e1, ← h'.oM_eq hq h1]
    · show Wd i' (oN ot p ((a : Int)).toNat :: runO nx ot (nN nx p ((a : Int)).toNat) u)
      rw [Int.toNat_natCast, h.oM_eq hp ha]
      exact Wd.cons h1 e2
/-- The word for each machine, and its outputs. -/
def paU (i : Nat) (w : List Int) : List Int := w.filter fun x => decide (x < (i : Int))
def paV (i : Nat) : List Int → List Int
  | [] => []
  | x :: w => if x < (i : Int) then paV i w else (x - i) :: paV i w
def paA (i : Nat) : List Int → List Int → List Int
  | x :: w, y :: z => if x < (i : Int) then y :: paA i w z else paA i w z
  | _, _ => []
def paB (i g : Nat) : List Int → List Int → List Int
  | x :: w, y :: z => if x < (i : Int) then paB i g w z else (y - 1 - g) :: paB i g w z
  | _, _ => []
theorem paU_cons (x : Int) (w : List Int) : paU i (x :: w) = if x < (i : Int) then x :: paU i w else paU i w := by
  unfold paU
  by_cases h : x < (i : Int)
  · rw [if_pos h, List.filter_cons_of_pos (by simpa using h)]
  · rw [if_neg h, List.filter_cons_of_neg (by simpa using h)]
theorem paU_app (w : List Int) (x : Int) : paU i (w ++ [x]) = if x < (i : Int) then paU i w ++ [x] else paU i w := by
  unfold paU
  rw [List.filter_append]
  by_cases h : x < (i : Int)
  · rw [if_pos h, List.filter_cons_of_pos (by simpa using h)]; rfl
  · rw [if_neg h, List.filter_cons_of_neg (by simpa using h)]; simp
theorem paV_app : ∀ (w : List Int) (x : Int), paV i (w ++ [x]) = if x < (i : Int) then paV i w else paV i w ++ [x - i]
  | [], x => by show (if x < (i : Int) then paV i [] else (x - i) :: paV i []) = _; split <;> simp_all [paV]
  | y :: w, x => by
    show (if y < (i : Int) then paV i (w ++ [x]) else (y - i) :: paV i (w ++ [x])) = _
    rw [paV_app w x]
    by_cases h : y < (i : Int) <;> by_cases h2 : x < (i : Int) <;> simp [paV, h, h2]
theorem paA_app : ∀ (w z : List Int) (x y : Int), w.length = z.length → paA i (w ++ [x]) (z ++ [y]) = if x < (i : Int) then paA i w z ++ [y] else paA i w z
  | [], [], x, y, _ => by show (if x < (i : Int) then y :: paA i [] [] else paA i [] []) = _; split <;> simp_all [paA]
  | [], _ :: _, _, _, h => by simp at h
  | _ :: _, [], _, _, h => by simp at h
  | a :: w, b :: z, x, y, h => by
    show (if a < (i : Int) then b :: paA i (w ++ [x]) (z ++ [y]) else paA i (w ++ [x]) (z ++ [y])) = _
    rw [paA_app w z x y (by simpa using h)]
    by_cases h : a < (i : Int) <;> by_cases h2 : x < (i : Int) <;> simp [paA, h, h2]
theorem paB_app {g : Nat} : ∀ (w z : List Int) (x y : Int), w.length = z.length → paB i g (w ++ [x]) (z ++ [y]) = if x < (i : Int) then paB i g w z else paB i g w z ++ [y - 1 - g]
  | [], [], x, y, _ => by show (if x < (i : Int) then paB i g [] [] else (y - 1 - g) :: paB i g [] []) = _; split <;> simp_all [paB]
  | [], _ :: _, _, _, h => by simp at h
  | _ :: _, [], _, _, h => by simp at h
  | a :: w, b :: z, x, y, h => by
    show (if a < (i : Int) then paB i g (w ++ [x]) (z ++ [y]) else (b - 1 - g) :: paB i g (w ++ [x]) (z ++ [y])) = _
    rw [paB_app w z x y (by simpa using h)]
    by_cases h : a < (i : Int) <;> by_cases h2 : x < (i : Int) <;> simp [paB, h, h2]
theorem pa_out (h : Mok i st n nx ot) (h' : Mok i' st' n' nx' ot') (g : Nat) : ∀ (w : List Int) (p q : Nat), p < n → q < n' → Wd (i + i') w →
    paA i w (outF (paF i nx nx') (paO i ot ot' g) (p, q) w) = runO nx ot p (paU i w) ∧ paB i g w (outF (paF i nx nx') (paO i ot ot' g) (p, q) w) = runO nx' ot' q (paV i w) ∧ Wd i (paU i w) ∧ Wd i' (paV i w) ∧ (paU i w).length ≤ w.length ∧ (paV i w).length ≤ w.length
  | [], _, _, _, _, _ => ⟨rfl, rfl, Wd.nil _, Wd.nil _, Nat.le_refl _, Nat.le_refl _⟩
  | x :: w, p, q, hp, hq, hu => by
    obtain ⟨a, rfl, ha⟩ := hu.head
    by_cases hai : a < i
    · have hI : ((a : Nat) : Int) < (i : Int) := by omega
      obtain ⟨e1, e2, e3, e4, e5, e6⟩ := pa_out h h' g w (nN nx p a) q (h.nN_lt hp hai) hq hu.tail
      have hF : paF i nx nx' (p, q) ((a : Int)).toNat = (nN nx p a, q) := by rw [Int.toNat_natCast]; unfold paF; rw [if_pos hai]
      have hO : paO i ot ot' g (p, q) ((a : Int)).toNat = oM ot p a := by rw [Int.toNat_natCast]; unfold paO; rw [if_pos hai]
      refine ⟨?_, ?_, ?_, ?_, ?_, ?_⟩
      · show (if ((a : Nat) : Int) < (i : Int) then ((paO i ot ot' g (p, q) ((a : Int)).toNat : Nat) : Int) :: paA i w (outF _ _ (paF i nx nx' (p, q) ((a : Int)).toNat) w) else _) = _
        rw [if_pos hI, hF, hO, e1, paU_cons, if_pos hI]
        show _ = oN ot p ((a : Int)).toNat :: runO nx ot (nN nx p ((a : Int)).toNat) (paU i w)
        rw [Int.toNat_natCast, h.oM_eq hp hai]
      · show (if ((a : Nat) : Int) < (i : Int) then paB i g w (outF _ _ (paF i nx nx' (p, q) ((a : Int)).toNat) w) else _) = _
        rw [if_pos hI, hF, e2]
        show _ = runO nx' ot' q (if ((a : Nat) : Int) < (i : Int) then paV i w else _)
        rw [if_pos hI]
      · rw [paU_cons, if_pos hI]; exact Wd.cons hai e3
      · show Wd i' (if ((a : Nat) : Int) < (i : Int) then paV i w else _)
        rw [if_pos hI]; exact e4
      · rw [paU_cons, if_pos hI]; simp; exact e5
      · show (if ((a : Nat) : Int) < (i : Int) then paV i w else _).length ≤ _
        rw [if_pos hI]; simp; omega
    · have hI : ¬ ((a : Nat) : Int) < (i : Int) := by omega
      have hb : a - i < i' := by omega
      obtain ⟨e1, e2, e3, e4, e5, e6⟩ := pa_out h h' g w p (nN nx' q (a - i)) hp (h'.nN_lt hq hb) hu.tail
      have hF : paF i nx nx' (p, q) ((a : Int)).toNat = (p, nN nx' q (a - i)) := by rw [Int.toNat_natCast]; unfold paF; rw [if_neg hai]
      have hO : paO i ot ot' g (p, q) ((a : Int)).toNat = 1 + g + oM ot' q (a - i) := by rw [Int.toNat_natCast]; unfold paO; rw [if_neg hai]
      have hz : ((a : Int)) - (i : Int) = ((a - i : Nat) : Int) := by omega
      refine ⟨?_, ?_, ?_, ?_, ?_, ?_⟩
      · show (if ((a : Nat) : Int) < (i : Int) then _ else paA i w (outF _ _ (paF i nx nx' (p, q) ((a : Int)).toNat) w)) = _
        rw [if_neg hI, hF, e1, paU_cons, if_neg hI]
      · show (if ((a : Nat) : Int) < (i : Int) then _ else (((paO i ot ot' g (p, q) ((a : Int)).toNat : Nat) : Int) - 1 - g) :: paB i g w (outF _ _ (paF i nx nx' (p, q) ((a : Int)).toNat) w)) = _
        rw [if_neg hI, hF, hO, e2]
        show _ = runO nx' ot' q (if ((a : Nat) : Int) < (i : Int) then _ else ((a : Int) - i) :: paV i w)
        rw [if_neg hI, hz]
        show _ = oN ot' q (((a - i : Nat) : Int)).toNat :: runO nx' ot' (nN nx' q (((a - i : Nat) : Int)).toNat) (paV i w)
        rw [Int.toNat_natCast, h'.oM_eq hq hb]
        congr 1
        omega
      · rw [paU_cons, if_neg hI]; exact e3
      · show Wd i' (if ((a : Nat) : Int) < (i : Int) then _ else ((a : Int) - i) :: paV i w)
        rw [if_neg hI, hz]; exact Wd.cons hb e4
      · rw [paU_cons, if_neg hI]; simp; omega
      · show (if ((a : Nat) : Int) < (i : Int) then _ else ((a : Int) - i) :: paV i w).length ≤ _
        rw [if_neg hI]; simp; exact e6
/-- The greatest output. -/
def grt (ot : List (List Int)) : Nat := (ot.flatten.map Int.toNat).foldl max 0
theorem foldl_max (xs : List Nat) (a : Nat) : a ≤ xs.foldl max a ∧ (∀ x ∈ xs, x ≤ xs.foldl max a) ∧ (xs.foldl max a = a ∨ xs.foldl max a ∈ xs) := by
  induction xs generalizing a with
  | nil => simp
  | cons x xs ih =>
    obtain ⟨h1, h2, h3⟩ := ih (max a x)
    rw [List.foldl_cons]
    refine ⟨by omega, fun y hy => ?_, ?_⟩
    · rcases List.mem_cons.1 hy with rfl | hy
      · omega
      · exact h2 y hy
    · rcases h3 with h3 | h3
      · by_cases h : a ≤ x
        · exact .inr (by rw [h3, Nat.max_eq_right h]; simp)
        · exact .inl (by rw [h3]; omega)
      · exact .inr (List.mem_cons_of_mem _ h3)
theorem grt_le {x : Int} (h : x ∈ ot.flatten) : x.toNat ≤ grt ot := (foldl_max (ot.flatten.map Int.toNat) 0).2.1 _ (List.mem_map.2 ⟨x, h, rfl⟩)
theorem grt_in : grt ot = 0 ∨ ∃ x ∈ ot.flatten, x.toNat = grt ot := by
  rcases (foldl_max (ot.flatten.map Int.toNat) 0).2.2 with h | h
  · exact .inl h
  · obtain ⟨x, h1, h2⟩ := List.mem_map.1 h
    exact .inr ⟨x, h1, h2⟩
theorem Mok.in_flat (h : Mok i st n nx ot) {s a : Nat} (hs : s < n) (ha : a < i) : oN ot s a ∈ ot.flatten := by
  have h1 := (h.row s hs).2.1
  have h2 : s < ot.length := by rw [h.otl]; exact hs
  rw [List.mem_flatten]
  refine ⟨ot.getD s [], ?_, ?_⟩
  · rw [List.getD_eq_getElem?_getD, List.getElem?_eq_getElem h2]; exact List.getElem_mem _
  · show (ot.getD s []).getD a 0 ∈ _
    rw [List.getD_eq_getElem?_getD (l := ot.getD s []), List.getElem?_eq_getElem (by rw [h1]; exact ha)]; exact List.getElem_mem _
theorem Mok.flat_at (h : Mok i st n nx ot) {x : Int} (hx : x ∈ ot.flatten) : ∃ s a, s < n ∧ a < i ∧ x = oN ot s a := by
  rw [List.mem_flatten] at hx
  obtain ⟨l, hl, hx⟩ := hx
  obtain ⟨s, hs, rfl⟩ := List.getElem_of_mem hl
  obtain ⟨a, ha, rfl⟩ := List.getElem_of_mem hx
  have hs' : s < n := by rw [← h.otl]; exact hs
  have e : ot.getD s [] = ot[s] := by rw [List.getD_eq_getElem?_getD, List.getElem?_eq_getElem hs]; rfl
  have h1 := (h.row s hs').2.1
  rw [e] at h1
  refine ⟨s, a, hs', by rw [← h1]; exact ha, ?_⟩
  show _ = (ot.getD s []).getD a 0
  rw [e, List.getD_eq_getElem?_getD, List.getElem?_eq_getElem ha]; rfl
theorem Mok.oM_grt (h : Mok i st n nx ot) {s a : Nat} (hs : s < n) (ha : a < i) : oM ot s a ≤ grt ot := grt_le (h.in_flat hs ha)
theorem Mok.grt_at (h : Mok i st n nx ot) : ∃ s a, s < n ∧ a < i ∧ oM ot s a = grt ot := by
  rcases grt_in (ot := ot) with h1 | ⟨x, h1, h2⟩
  · have := h.oM_grt h.n1 h.i1
    exact ⟨0, 0, h.n1, h.i1, by omega⟩
  · obtain ⟨s, a, hs, ha, rfl⟩ := h.flat_at h1
    exact ⟨s, a, hs, ha, h2⟩
theorem Mok.grt_le (h : Mok i st n nx ot) : grt ot ≤ 1048576 := by
  obtain ⟨s, a, hs, ha, e⟩ := h.grt_at
  rw [← e]; exact h.oM_le hs ha
end
end Go.Proofs.Ytogcecfeofbbnaa
end

section
/- A runner: step and run. -/
namespace Go.Proofs.Ytogcecfeofbbnaa
open Go.RowKit

/-- The block of a runner. -/
def Rnr (w : World) (g : Nat) (i st : Int) (A : Option Addr) (n c : Nat) (B : Option Addr) (m d : Nat) (s : Nat) : Prop :=
  w.heap[g]? = some (.cells #[.int .i64 i, .int .i64 st, .slice A n c, .slice B m d, .int .i64 s] 85 (0, 0))

theorem Rnr.cells {w : World} {g : Nat} {i st : Int} {A B : Option Addr} {n c m d s : Nat} (h : Rnr w g i st A n c B m d s) :
    w.cell? ⟨g, 2, none⟩ = some (.slice A n c) ∧ w.cell? ⟨g, 3, none⟩ = some (.slice B m d) ∧ w.cell? ⟨g, 4, none⟩ = some (.int .i64 s) ∧ w.frozen? ⟨g, 4, none⟩ = false :=
  ⟨cell_of_row w g 2 _ _ (0, 0) h, cell_of_row w g 3 _ _ (0, 0) h, cell_of_row w g 4 _ _ (0, 0) h, frozen_of_row w g 4 _ _ h⟩

set_option maxHeartbeats 2000000 in
set_option maxRecDepth 100000 in
theorem pstep {W w : World} {g : Nat} {i st n : Nat} {A B : Option Addr} {c d s a : Nat} {nx ot : List (List Int)} (hM : Mok i st n nx ot) (hx : Lists W A n nx) (ho : Lists W B n ot) (hb : Below W.heap.size W w)
    (hR : Rnr w g i st A n c B n d s) (hs : s < n) (ha : a < i) :
    Calls Try.prog 103 #[.pointer (some ⟨g, 0, none⟩), .int .i64 a] w fun e w' => e = .returned (.int .i64 (oN ot s a)) ∧ ∃ q, w' = (w.setCell ⟨g, 4, none⟩ (.int .i64 (nN nx s a))).drewN q := by
  obtain ⟨c2, c3, c4, f4⟩ := hR.cells
  obtain ⟨g1, o1, A1, n1, c1, rfl, hg1, hc1, hr1⟩ := (hx.below hb).at_ hs
  obtain ⟨g2, o2, A2, n2, c2', rfl, hg2, hc2, hr2⟩ := (ho.below hb).at_ hs
  have hi1 := (hM.row s hs).1
  have hi2 := (hM.row s hs).2.1
  have hl1 := hr1.1
  have hl2 := hr2.1
  obtain rfl : n1 = i := by omega
  obtain rfl : n2 = n1 := by omega
  obtain ⟨b1, p1, rfl, _, hy1⟩ := hr1.at_ ha
  obtain ⟨b2, p2, rfl, _, hy2⟩ := hr2.at_ ha
  rw [hM.nN_eq hs ha] at hy1
  change w.cell? _ = some (.int .i64 (oN ot s a)) at hy2
  have hn := hr1.2.1
  have hN := hx.2.1
  clear hl1 hl2 hi1 hi2
  go_enter Try.func103, Try.ntmps103
  go_wp2
  go_quiet (fail)
  go_wp2
  go_region
  all_goals
    go_wp2
    go_ret
    exact ⟨rfl, by first | exact ⟨_, rfl⟩ | exact ⟨_, World.drewN_drewN _ _ _⟩⟩
end Go.Proofs.Ytogcecfeofbbnaa
end

section
/- run, From, Run and Step of a machine. -/
namespace Go.Proofs.Ytogcecfeofbbnaa
open Go.RowKit

theorem Rnr.kept {w w' : World} {g : Nat} {i st : Int} {A B : Option Addr} {n c m d s : Nat} (h : Rnr w g i st A n c B m d s) {b : Nat} (hb : Below b w w') (hg : g < b) : Rnr w' g i st A n c B m d s := (hb.block g hg).trans h

theorem Rnr.set {w : World} {g : Nat} {i st : Int} {A B : Option Addr} {n c m d s : Nat} (h : Rnr w g i st A n c B m d s) (t q : Nat) : Rnr ((w.setCell ⟨g, 4, none⟩ (.int .i64 t)).drewN q) g i st A n c B m d t := by
  have := heap_setCell_same w g 4 _ _ (Value.int .i64 t) h
  exact this
set_option maxHeartbeats 2000000 in
set_option maxRecDepth 100000 in
theorem prun {W w : World} {g : Nat} {i st n : Nat} {A B D : Option Addr} {c d s k e : Nat} {nx ot : List (List Int)} {xs : List Int} (hM : Mok i st n nx ot) (hx : Lists W A n nx) (ho : Lists W B n ot) (hb : Below W.heap.size W w)
    (hR : Rnr w g i st A n c B n d s) (hg : W.heap.size ≤ g) (hs : s < n) (hD : Ints W D k xs) (hS : ∀ x, x ∈ xs → 0 ≤ x ∧ x < i) :
    Calls Try.prog 63 #[.pointer (some ⟨g, 0, none⟩), .slice D k e] w fun e w' => ∃ A' c', e = .returned (.slice A' k c') ∧ Owned w' W.heap.size (.slice A' k c') (runO nx ot s xs) ∧ Below W.heap.size W w' ∧ Rnr w' g i st A n c B n d (runS nx s xs) := by
  have L := Lib.hid hD.1
  have hk := hD.2.1
  have HS := Lib.hid hS
  have HR := Lib.hid hR
  clear hS hR
  have hrn : (85 : TypeId) ≠ 3 := by decide
  go_enter Try.func63, Try.ntmps63
  go_wp2
  go_loopw [5, 10] (fun v j wr => ∃ (q : Nat) (A' : Option Addr) (c' : Nat), q ≤ k ∧ j = .int .i64 q ∧ v = .slice A' q c' ∧ Owned wr W.heap.size (.slice A' q c') (runO nx ot s (xs.take q)) ∧ Below W.heap.size W wr ∧ Rnr wr g i st A n c B n d (runS nx s (xs.take q))) (fun _ j _ => k - (intOf j).toNat)
  case atStart => exact ⟨0, none, 0, Nat.zero_le _, rfl, rfl, Owned.nil _ _, hb, HR.out⟩
  case round =>
    obtain ⟨q, A', c', hq, rfl, rfl, hown, hbr, hR⟩ := hrel
    by_cases hlt : q < k
    · obtain ⟨b1, o1, rfl, _, hc1⟩ := (hD.below hbr).at_ hlt
      have hxm := HS.out (xs.getD q 0) (by rw [List.getD_eq_getElem?_getD, List.getElem?_eq_getElem (by rw [L.out]; exact hlt)]; exact List.getElem_mem _)
      have hO := Lib.hid (runO_next (nx := nx) (ot := ot) (s := s) (j := q) (xs := xs) (by rw [L.out]; exact hlt))
      have hT := Lib.hid (runS_next (nx := nx) (s := s) (j := q) (xs := xs) (by rw [L.out]; exact hlt))
      rw [show xs[q]?.getD 0 = xs.getD q 0 by simp] at hO hT
      generalize xs.getD q 0 = x at hc1 hxm hO hT
      obtain ⟨a, rfl⟩ : ∃ a : Nat, x = a := ⟨x.toNat, by omega⟩
      have ha : a < i := by omega
      rw [Int.toNat_natCast] at hO hT
      have hlast := hM.runS_lt (xs.take q) s hs (fun x hx => HS.out x (List.mem_of_mem_take hx))
      generalize hss : runS nx s (xs.take q) = s' at hR hO hT hlast
      have hlen : (runO nx ot s (xs.take q)).length = q := by rw [runO_len, List.length_take, L.out]; omega
      generalize runO nx ot s (xs.take q) = os at hown hO hlen
      have HL := Lib.hid hlen
      have HSS := Lib.hid hss
      have HRR := Lib.hid hR
      clear hss hlen
      have hset : ∀ q', Rnr ((wr.setCell ⟨g, 4, none⟩ (.int .i64 (nN nx s' a))).drewN q') g i st A n c B n d (nN nx s' a) := fun q' => hR.set (nN nx s' a) q'
      have HSET := Lib.hid hset
      have hoff : ∀ q', Owned ((wr.setCell ⟨g, 4, none⟩ (.int .i64 (nN nx s' a))).drewN q') W.heap.size (.slice A' q c') os := fun q' => hown.off hR hrn 4 _ q'
      have HOFF := Lib.hid hoff
      have hbs : ∀ q', Below W.heap.size W ((wr.setCell ⟨g, 4, none⟩ (.int .i64 (nN nx s' a))).drewN q') := fun q' => below_drewN (hbr.setCell (p := ⟨g, 4, none⟩) hg _) q'
      have HBS := Lib.hid hbs
      clear hset hoff hbs hR
      go_wp2_with fail
      refine (pstep hM hx ho hbr HRR.out hlast ha).mono ?_
      rintro e w1 ⟨rfl, q1, rfl⟩
      have h1 := HOFF.out q1
      have h2 := HBS.out q1
      have h3 := HSET.out q1
      clear HOFF HBS HSET
      generalize (wr.setCell ⟨g, 4, none⟩ (.int .i64 (nN nx s' a))).drewN q1 = w1 at h1 h2 h3 ⊢
      obtain ⟨A2, c2, w2, hr, ho2, hb2, hk2⟩ := run_append_one h1 (oN ot s' a) h2.size (by rw [HL.out]; omega)
      rw [← hO.out] at ho2
      rw [HL.out] at hr ho2
      have h4 := Lib.hid (hk2 g _ _ h3 hrn)
      clear hk2
      go_wp2_with (at_builtin; refine Lib.wpList_append_run _ rfl _ _ _ _ rfl _ _ rfl rfl _ _ hr ?_)
      go_roundw
      case rel => exact ⟨q + 1, A2, c2, by omega, by go_num, rfl, ho2, h2.trans hb2, by rw [hT.out]; exact h4.out⟩
      case measure => simp [intOf]; omega
    · obtain rfl : q = k := by omega
      have hall := Lib.hid (List.take_of_length_le (l := xs) (i := q) (by rw [L.out]; exact Nat.le_refl _))
      go_wp2
      go_ret
      rw [hall.out] at hown hR
      exact ⟨_, _, rfl, hown, hbr, hR⟩
end Go.Proofs.Ytogcecfeofbbnaa
end

section
/- From, Run and Step of a machine. -/
namespace Go.Proofs.Ytogcecfeofbbnaa
open Go.RowKit

theorem ret_from {A : Option Addr} {l l' c : Nat} {x x' y y' : Int} (h1 : l = l') (h2 : x = x') (h3 : y = y') : Ending.returned (.tuple #[.slice A l c, .int .i64 x, .int .i64 y]) = .returned (.tuple #[.slice A l' c, .int .i64 x', .int .i64 y']) := by rw [h1, h2, h3]
theorem ret_run {A : Option Addr} {l l' c : Nat} {y y' : Int} (h1 : l = l') (h3 : y = y') : Ending.returned (.tuple #[.slice A l c, .int .i64 y]) = .returned (.tuple #[.slice A l' c, .int .i64 y']) := by rw [h1, h3]
theorem ret_three {k k' k'' : IntKind} {a b c a' b' c' : Int} (h1 : a = a') (h2 : b = b') (h3 : c = c') : Ending.returned (.tuple #[.int k a, .int k' b, .int k'' c]) = .returned (.tuple #[.int k a', .int k' b', .int k'' c']) := by rw [h1, h2, h3]

set_option maxHeartbeats 2000000 in
set_option maxRecDepth 100000 in
theorem pfrom (i st : Int) (A B D : Option Addr) (n c m d k e : Nat) (nx ot : List (List Int)) (s : Int) (xs : List Int) (w : World) (hx : Lists w A n nx) (ho : Lists w B m ot) (hD : Ints w D k xs) :
    Calls Try.prog 27 #[.agg #[.int .i64 i, .int .i64 st, .slice A n c, .slice B m d], .int .i64 s, .slice D k e] w fun e w' => ∃ A' c',
      e = .returned (.tuple #[.slice A' (frm i st nx ot s xs).1.length c', .int .i64 (frm i st nx ot s xs).2.1, .int .i64 (frm i st nx ot s xs).2.2]) ∧ Owned w' w.heap.size (.slice A' (frm i st nx ot s xs).1.length c') (frm i st nx ot s xs).1 ∧ Below w.heap.size w w' := by
  have L1 := Lib.hid hx.1
  have LD := Lib.hid hD.1
  have hn := hx.2.1
  have hk := hD.2.1
  have hb0 := alloc_below w (.cells #[.int .i64 i, .int .i64 st, .slice A n c, .slice B m d] 24)
  have HZ := Lib.hid (show (w.alloc (.cells #[.int .i64 i, .int .i64 st, .slice A n c, .slice B m d] 24)).heap.size = w.heap.size + 1 by simp)
  by_cases hv : vld i st nx ot = 0
  · have HV := Lib.hid hv
    obtain ⟨i, st, n', rfl, rfl, hM⟩ := vld_zero hv
    obtain rfl : n = n' := by have := hM.nxl; rw [L1.out] at this; exact this
    obtain rfl : m = n := by have := hM.otl; rw [ho.1] at this; exact this
    clear hv
    by_cases hs : 0 ≤ s ∧ s < m
    · have HS := Lib.hid hs
      have HT := Lib.hid ((decide_eq_true hs).symm)
      by_cases hc : chk xs i = 0
      · obtain ⟨s, rfl⟩ : ∃ t : Nat, s = t := ⟨s.toNat, by omega⟩
        have hfin := Lib.hid (frm_ok (s := s) HV.out (by rw [L1.out]; omega) hc)
        have HC := Lib.hid hc
        clear hs hc
        go_enter Try.func27, Try.ntmps27
        go_wp2_with fail
        refine (pvalid _ _ _ _ _ _ _ _ _ _ _ (hx.below hb0) (ho.below hb0)).mono ?_
        rintro e w1 ⟨rfl, b1⟩
        rw [HZ.out] at b1
        rw [HV.out]
        obtain ⟨k0, k1, k2, k3⟩ := box4 b1
        go_wp2_with fail
        refine (pisst _ _ _ _ _ _ _ _ _ _ _ hn HT.out).mono ?_
        rintro e w2 ⟨rfl, b2⟩
        have b2 := b1.trans (b2.mono (by have := b1.size; simpa using this))
        obtain ⟨k0, k1, k2, k3⟩ := box4 b2
        have bw := hb0.trans (b2.mono (Nat.le_succ _))
        go_wp2_with fail
        refine (wcheck _ _ _ _ _ _ (hD.below bw)).mono ?_
        rintro e w3 ⟨rfl, rfl⟩
        rw [HC.out]
        have ba := alloc_below w2 (.cells #[.int .i64 i, .int .i64 st, .slice A m c, .slice B m d, .int .i64 s] 85)
        have hR : Rnr (w2.alloc (.cells #[.int .i64 i, .int .i64 st, .slice A m c, .slice B m d, .int .i64 s] 85)) w2.heap.size i st A m c B m d s := heap_alloc_new w2 _
        have HR := Lib.hid hR
        have hsy := Lib.hid (chk_zero HC.out).2.2.2.mem
        have hg := bw.size
        have bwa := bw.trans (ba.mono hg)
        have hsn : s < m := by have := HS.out; omega
        clear hR ba
        go_wp2_with fail
        refine (prun hM hx ho bwa HR.out hg hsn hD hsy.out).mono ?_
        rintro e w4 ⟨A4, c4, rfl, ho4, b4, hR4⟩
        obtain ⟨d2, d3, d4, _⟩ := hR4.cells
        have HR4 := Lib.hid hR4
        have ho4 := Lib.hid ho4
        clear hR4
        go_wp2
        go_quiet (fail)
        go_wp2
        go_ret3
        have hlen : (runO nx ot s xs).length = k := by rw [runO_len, LD.out]
        exact ⟨A4, c4, by rw [hfin.out]; exact ret_from hlen.symm rfl rfl, by rw [hfin.out]; show Owned _ _ (.slice A4 (runO nx ot s xs).length c4) _; rw [hlen]; exact ho4.out, below_drewN b4 _⟩
      · have hfin := Lib.hid (frm_word HV.out (by rw [L1.out]; exact HS.out) hc)
        have hne : (chk xs i != 0) = true := by simpa using hc
        clear hs
        go_enter Try.func27, Try.ntmps27
        go_wp2_with fail
        refine (pvalid _ _ _ _ _ _ _ _ _ _ _ (hx.below hb0) (ho.below hb0)).mono ?_
        rintro e w1 ⟨rfl, b1⟩
        rw [HZ.out] at b1
        rw [HV.out]
        obtain ⟨k0, k1, k2, k3⟩ := box4 b1
        go_wp2_with fail
        refine (pisst _ _ _ _ _ _ _ _ _ _ _ hn HT.out).mono ?_
        rintro e w2 ⟨rfl, b2⟩
        have b2 := b1.trans (b2.mono (by have := b1.size; simpa using this))
        obtain ⟨k0, k1, k2, k3⟩ := box4 b2
        have bw := hb0.trans (b2.mono (Nat.le_succ _))
        go_wp2_with fail
        refine (wcheck _ _ _ _ _ _ (hD.below bw)).mono ?_
        rintro e w3 ⟨rfl, rfl⟩
        generalize chk xs i = E at hne hfin hc
        clear hc
        go_wp2
        go_ret3
        exact ⟨none, 0, by rw [hfin.out]; rfl, by rw [hfin.out]; exact Owned.nil _ _, bw⟩
    · have hfin := Lib.hid (frm_state (xs := xs) HV.out (by rw [L1.out]; exact hs))
      have HT := Lib.hid ((decide_eq_false hs).symm)
      clear hs
      go_enter Try.func27, Try.ntmps27
      go_wp2_with fail
      refine (pvalid _ _ _ _ _ _ _ _ _ _ _ (hx.below hb0) (ho.below hb0)).mono ?_
      rintro e w1 ⟨rfl, b1⟩
      rw [HZ.out] at b1
      rw [HV.out]
      obtain ⟨k0, k1, k2, k3⟩ := box4 b1
      go_wp2_with fail
      refine (pisst _ _ _ _ _ _ _ _ _ _ _ hn HT.out).mono ?_
      rintro e w2 ⟨rfl, b2⟩
      have b2 := b1.trans (b2.mono (by have := b1.size; simpa using this))
      have bw := hb0.trans (b2.mono (Nat.le_succ _))
      go_wp2
      go_ret3
      exact ⟨none, 0, by rw [hfin.out]; rfl, by rw [hfin.out]; exact Owned.nil _ _, bw⟩
  · have hfin := Lib.hid (frm_bad (s := s) (xs := xs) hv)
    have hne : (vld i st nx ot != 0) = true := by simpa using hv
    go_enter Try.func27, Try.ntmps27
    go_wp2_with fail
    refine (pvalid _ _ _ _ _ _ _ _ _ _ _ (hx.below hb0) (ho.below hb0)).mono ?_
    rintro e w1 ⟨rfl, b1⟩
    generalize vld i st nx ot = E at hne hfin hv
    clear hv
    go_wp2
    go_ret3
    exact ⟨none, 0, by rw [hfin.out]; rfl, by rw [hfin.out]; exact Owned.nil _ _, bt hb0 b1⟩

set_option maxHeartbeats 1000000 in
set_option maxRecDepth 100000 in
theorem prunw (i st : Int) (A B D : Option Addr) (n c m d k e : Nat) (nx ot : List (List Int)) (xs : List Int) (w : World) (hx : Lists w A n nx) (ho : Lists w B m ot) (hD : Ints w D k xs) :
    Calls Try.prog 29 #[.agg #[.int .i64 i, .int .i64 st, .slice A n c, .slice B m d], .slice D k e] w fun e w' => ∃ A' c',
      e = .returned (.tuple #[.slice A' (frm i st nx ot st xs).1.length c', .int .i64 (frm i st nx ot st xs).2.2]) ∧ Owned w' w.heap.size (.slice A' (frm i st nx ot st xs).1.length c') (frm i st nx ot st xs).1 ∧ Below w.heap.size w w' := by
  have hb0 := alloc_below w (.cells #[.int .i64 i, .int .i64 st, .slice A n c, .slice B m d] 24)
  go_enter Try.func29, Try.ntmps29
  go_wp2_with fail
  refine (pfrom _ _ _ _ _ _ _ _ _ _ _ _ _ _ _ _ (hx.below hb0) (ho.below hb0) (hD.below hb0)).mono ?_
  rintro e w1 ⟨A1, c1, rfl, h1, b1⟩
  have h2 := Lib.hid (h1.lower (base' := w.heap.size) hb0.size)
  have b2 := Lib.hid (bt hb0 b1)
  clear h1 b1
  go_wp2
  go_ret2
  exact ⟨A1, c1, rfl, h2.out, b2.out⟩

end Go.Proofs.Ytogcecfeofbbnaa
end

section
/- The reference: Outs. -/
namespace Go.Proofs.Ytogcecfeofbbnaa
open Go.RowKit

theorem skol {α : Sort _} {p : Nat → α → Prop} (h : ∀ k, ∃ x, p k x) : ∃ F : Nat → α, ∀ k, p k (F k) := ⟨fun k => Classical.choose (h k), fun k => Classical.choose_spec (h k)⟩

/-- append at a step of a region that draws. -/
theorem step_append_run {P : Program} {ops : Array Oper} {o : Oper} {a : Act} {w : World} {K : Act → World → Prop} {Q : Exit → Act → World → Prop} {E : Prop} (hgd : o.guard = none) (s x : Operand) (t tn : TypeId)
    (ho : o.op = .call { callee := .builtin .append, args := #[s, x], argTypes := #[t, tn] }) (vs vx : Value) (hs : a.eval s = vs) (hx : a.eval x = vx)
    (v' : Value) (w' : World) (hr : (Builtin.append_ #[t, tn] o.type #[vs, vx]).run P w = .ok v' w') (h : K (a.put o.dst v') w') :
    if Region.wanted o (yielded ops a.tmps) = true then Oper.wp P o a w K Q else E := by
  have hw : Region.wanted o (yielded ops a.tmps) = true := by simp [Region.wanted, hgd]
  rw [if_pos hw]
  exact Lib.wp_append_run w s x t tn ho vs vx hs hx v' w' hr h

theorem Owned.drew {w : World} {base : Nat} {v : Value} {xs : List Int} (h : Owned w base v xs) (k : Nat) : Owned (w.drewN k) base v xs := h

/-- append of one number, behind any number of draws. -/
theorem app_all {wr : World} {base q : Nat} {A : Option Addr} {c : Nat} {xs : List Int} (h : Owned wr base (.slice A q c) xs) (x : Int) (hbase : base ≤ wr.heap.size) (hl : xs.length < 17592186044416) :
    ∃ F : Nat → (Option Addr × Nat) × World, ∀ k, (Builtin.append_ #[27, 27] 27 #[.slice A q c, .slice (some ⟨wr.heap.size, 0, none⟩) 1 1]).run Try.prog ((wr.drewN k).alloc (.cells #[.int .i64 x] 3)) = .ok (.slice (F k).1.1 (q + 1) (F k).1.2) (F k).2 ∧
      Owned (F k).2 base (.slice (F k).1.1 (q + 1) (F k).1.2) (xs ++ [x]) ∧ Below base wr (F k).2 := by
  have hq : q = xs.length := by obtain ⟨A', c', e⟩ := h.form; cases e; rfl
  refine skol (p := fun k (r : (Option Addr × Nat) × World) => (Builtin.append_ #[27, 27] 27 #[.slice A q c, .slice (some ⟨wr.heap.size, 0, none⟩) 1 1]).run Try.prog ((wr.drewN k).alloc (.cells #[.int .i64 x] 3)) = .ok (.slice r.1.1 (q + 1) r.1.2) r.2 ∧
      Owned r.2 base (.slice r.1.1 (q + 1) r.1.2) (xs ++ [x]) ∧ Below base wr r.2) fun k => ?_
  obtain ⟨A', c', w', h1, h2, h3, _⟩ := run_append_one (h.drew k) x hbase hl
  rw [← hq] at h1 h2
  exact ⟨((A', c'), w'), h1, h2, (below_drewN (Below.refl _ _) k).trans h3⟩

end Go.Proofs.Ytogcecfeofbbnaa
end

section
/- Trim of a machine. -/
namespace Go.Proofs.Ytogcecfeofbbnaa
open Go.RowKit

/-- A block of a machine. -/
def Mblk (w : World) (g : Nat) (a b c d : Value) : Prop := w.heap[g]? = some (.cells #[a, b, c, d] 24 (0, 0))
theorem Mblk.cells {w : World} {g : Nat} {a b c d : Value} (h : Mblk w g a b c d) :
    w.cell? ⟨g, 0, none⟩ = some a ∧ w.cell? ⟨g, 1, none⟩ = some b ∧ w.cell? ⟨g, 2, none⟩ = some c ∧ w.cell? ⟨g, 3, none⟩ = some d ∧ w.frozen? ⟨g, 0, none⟩ = false ∧ w.frozen? ⟨g, 1, none⟩ = false ∧ w.frozen? ⟨g, 2, none⟩ = false ∧ w.frozen? ⟨g, 3, none⟩ = false :=
  ⟨cell_of_row w g 0 _ _ (0, 0) h, cell_of_row w g 1 _ _ (0, 0) h, cell_of_row w g 2 _ _ (0, 0) h, cell_of_row w g 3 _ _ (0, 0) h, frozen_of_row w g 0 _ _ h, frozen_of_row w g 1 _ _ h, frozen_of_row w g 2 _ _ h, frozen_of_row w g 3 _ _ h⟩
theorem Mblk.kept {w w' : World} {g : Nat} {a b c d : Value} (h : Mblk w g a b c d) {k : Nat} (hb : Below k w w') (hg : g < k) : Mblk w' g a b c d := (hb.block g hg).trans h
theorem Mblk.keptT {w w' : World} {g : Nat} {a b c d : Value} (h : Mblk w g a b c d) (hb : KeptT 24 w w') : Mblk w' g a b c d := hb g _ h

/-- A result that lies in memory, a machine, and one more. -/
theorem results_mealy {fn : Func} {p u : Tmp} (h : fn.results = #[.cell p 24, .tmp u]) (tmps : Array Value) (w : World) (g : Nat) (a b c d : Value)
    (hp : tmps.getD p undef = .pointer (some ⟨g, 0, none⟩)) (hg : Mblk w g a b c d) :
    (results fn tmps).run Try.prog w = .ok (.tuple #[.agg #[a, b, c, d], tmps.getD u undef]) w := by
  rw [results_cell_tmp h, hp]
  have hl := run_loadVar_row (P := Try.prog) w g 24 24 #[a, b, c, d] (0, 0) _ hg Try.underlying24 rfl (by kernel_rfl)
  simp [asAddr, hl]
theorem Mblk.set4 {w : World} {g : Nat} {a b c d : Value} (h : Mblk w g a b c d) (a' b' c' d' : Value) :
    Mblk ((((w.setCell ⟨g, 0, none⟩ a').setCell ⟨g, 1, none⟩ b').setCell ⟨g, 2, none⟩ c').setCell ⟨g, 3, none⟩ d') g a' b' c' d' := by
  have h1 := heap_setCell_same w g 0 _ _ a' h
  have h2 := heap_setCell_same _ g 1 _ _ b' h1
  have h3 := heap_setCell_same _ g 2 _ _ c' h2
  have h4 := heap_setCell_same _ g 3 _ _ d' h3
  exact h4

theorem ptrim_bad (i st : Int) (A B : Option Addr) (n c m d : Nat) (nx ot : List (List Int)) (w : World) (hx : Lists w A n nx) (ho : Lists w B m ot) (hv : ¬ vld i st nx ot = 0) :
    Calls Try.prog 80 #[.agg #[.int .i64 i, .int .i64 st, .slice A n c, .slice B m d]] w fun e w' => e = .returned (.tuple #[.agg #[.int .i64 0, .int .i64 0, .slice none 0 0, .slice none 0 0], .int .i64 (vld i st nx ot)]) ∧ Below w.heap.size w w' := by
  have hb0 := alloc_below w (.cells #[.int .i64 i, .int .i64 st, .slice A n c, .slice B m d] 24)
  have hb1 := bt hb0 (alloc_below (w.alloc (.cells #[.int .i64 i, .int .i64 st, .slice A n c, .slice B m d] 24)) (.cells #[.int .i64 0, .int .i64 0, .slice none 0 0, .slice none 0 0] 24))
  have hne : (vld i st nx ot != 0) = true := by simpa using hv
  go_enter Try.func80, Try.ntmps80
  go_wp2_with fail
  refine (pvalid _ _ _ _ _ _ _ _ _ _ _ (hx.below hb1) (ho.below hb1)).mono ?_
  rintro e w1 ⟨rfl, b1⟩
  have hR : Mblk w1 (w.heap.size + 1) (.int .i64 0) (.int .i64 0) (.slice none 0 0) (.slice none 0 0) := by
    refine Mblk.kept ?_ b1 (by simp)
    have := heap_alloc_new (w.alloc (.cells #[.int .i64 i, .int .i64 st, .slice A n c, .slice B m d] 24)) (.cells #[.int .i64 0, .int .i64 0, .slice none 0 0, .slice none 0 0] 24)
    simpa [Mblk] using this
  obtain ⟨c0, c1, c2, c3, f0, f1, f2, f3⟩ := hR.cells
  have HR := Lib.hid hR
  generalize hE : vld i st nx ot = E at hne hv
  have HE := Lib.hid hE
  clear hv hR hE
  go_wp2
  (try simp only [Exit.inBlock, Exit.then])
  refine bodyPost_ret (results_mealy rfl _ _ (w.heap.size + 1) (.int .i64 0) (.int .i64 0) (.slice none 0 0) (.slice none 0 0) rfl (HR.out.set4 _ _ _ _)) rfl ?_
  have hl : ∀ k, w.heap.size ≤ (⟨w.heap.size + 1, k, none⟩ : Addr).block := fun k => Nat.le_succ _
  exact ⟨by rw [HE.out]; rfl, (((((bt hb1 b1).setCell (hl 0) _).setCell (hl 1) _).setCell (hl 2) _).setCell (hl 3) _)⟩

theorem OwnedL.drew {w : World} {base : Nat} {v : Value} {xss : List (List Int)} (h : OwnedL w base v xss) (q : Nat) : OwnedL (w.drewN q) base v xss := h
theorem Mblk.set2 {w : World} {g : Nat} {a b c d : Value} (h : Mblk w g a b c d) (v : Value) : Mblk (w.setCell ⟨g, 2, none⟩ v) g a b v d := heap_setCell_same w g 2 _ _ v h
theorem Mblk.set3 {w : World} {g : Nat} {a b c d : Value} (h : Mblk w g a b c d) (v : Value) : Mblk (w.setCell ⟨g, 3, none⟩ v) g a b c v := heap_setCell_same w g 3 _ _ v h
theorem OwnedL.offM {w : World} {base g j : Nat} {v : Value} {xss : List (List Int)} {a b c d : Value} (h : OwnedL w base v xss) (hM : Mblk w g a b c d) (u : Value) : OwnedL (w.setCell ⟨g, j, none⟩ u) base v xss :=
  h.keptT (KeptT.off hM (by decide) u) (KeptT.off hM (by decide) u)

/-- What a row of lists in a machine's block is behind a call and an append. -/
theorem trim_step {wo w8 w9 : World} {gT k m c9 : Nat} {x y u : Value} {AO A9 : Option Addr} {cO : Nat} {xss yss : List (List Int)} {xs : List Int} (b8 : Below gT wo w8) (hT : Mblk w8 gT x y u (.slice AO k cO)) (hN : OwnedL w8 gT u xss) (hO : OwnedL w8 gT (.slice AO k cO) yss) (hA : Apart u (.slice AO k cO))
    (q8 : Nat) (b9 : Below (w8.drewN q8).heap.size (w8.drewN q8) w9) (ho : Owned w9 (w8.drewN q8).heap.size (.slice A9 m c9) xs) (hk : k < 1759218604441) (hg : gT < w8.heap.size) :
    Mblk w9 gT x y u (.slice AO k cO) ∧ ∃ F : Nat → (Option Addr × Nat) × World, ∀ q, (Builtin.append_ #[22, 22] 22 #[.slice AO k cO, .slice (some ⟨w9.heap.size, 0, none⟩) 1 1]).run Try.prog ((w9.drewN q).alloc (.cells #[.slice A9 m c9] 27)) = .ok (.slice (F q).1.1 (k + 1) (F q).1.2) (F q).2 ∧
      Mblk (F q).2 gT x y u (.slice AO k cO) ∧ OwnedL (F q).2 gT u xss ∧ OwnedL (F q).2 gT (.slice (F q).1.1 (k + 1) (F q).1.2) (yss ++ [xs]) ∧ Apart u (.slice (F q).1.1 (k + 1) (F q).1.2) ∧ Below gT wo (F q).2 := by
  have b9' : Below w8.heap.size w8 w9 := (below_drewN (Below.refl _ _) q8).trans b9
  have hT9 := hT.kept b9' hg
  have hyl : yss.length = k := by obtain ⟨A', c', e⟩ := hO.form; cases e; rfl
  refine ⟨hT9, skol (p := fun q (r : (Option Addr × Nat) × World) => (Builtin.append_ #[22, 22] 22 #[.slice AO k cO, .slice (some ⟨w9.heap.size, 0, none⟩) 1 1]).run Try.prog ((w9.drewN q).alloc (.cells #[.slice A9 m c9] 27)) = .ok (.slice r.1.1 (k + 1) r.1.2) r.2 ∧
      Mblk r.2 gT x y u (.slice AO k cO) ∧ OwnedL r.2 gT u xss ∧ OwnedL r.2 gT (.slice r.1.1 (k + 1) r.1.2) (yss ++ [xs]) ∧ Apart u (.slice r.1.1 (k + 1) r.1.2) ∧ Below gT wo r.2) fun q => ?_⟩
  have hN9 := hN.kept b9'
  obtain ⟨A', c', w', h1, h2, h3, h4, h5, h6⟩ := run_append_list ((hO.kept b9').drew q) ((ho.lower (base' := gT) (Nat.le_of_lt hg)).drew q) (by have := b9'.size; show gT ≤ w9.heap.size; omega) (by omega)
  rw [hyl] at h1 h2 h6
  have hT9q : Mblk (w9.drewN q) gT x y u (.slice AO k cO) := hT9
  exact ⟨((A', c'), w'), h1, hT9q.keptT (h4 _ (by decide)), (hN9.drew q).keptB h5 hA.symm (h4 _ (by decide)), h2, (hA.symm.moved h6 (hN9.drew q)).symm, b8.trans ((b9'.mono (Nat.le_of_lt hg)).trans ((below_drewN (Below.refl _ _) q).trans h3))⟩

set_option maxHeartbeats 4000000 in
set_option maxRecDepth 100000 in
theorem ptrim_ok (i st n : Nat) (A B : Option Addr) (c d : Nat) (nx ot : List (List Int)) (w : World) (hx : Lists w A n nx) (ho : Lists w B n ot) (hM : Mok i st n nx ot) :
    Calls Try.prog 80 #[.agg #[.int .i64 i, .int .i64 st, .slice A n c, .slice B n d]] w fun e w' => ∃ A' c' B' d',
      e = .returned (.tuple #[.agg #[.int .i64 i, .int .i64 0, .slice A' (rch nx i st).length c', .slice B' (rch nx i st).length d'], .int .i64 0]) ∧
      OwnedL w' w.heap.size (.slice A' (rch nx i st).length c') (trN nx i (rch nx i st)) ∧ OwnedL w' w.heap.size (.slice B' (rch nx i st).length d') (trO ot (rch nx i st)) ∧ Below w.heap.size w w' := by
  have hn := hx.2.1
  have hn128 := hM.n2
  have HV := Lib.hid hM.vld
  have hlo := Lib.hid ho
  obtain ⟨w0, hw0⟩ : ∃ w0, w0 = (w.alloc (.cells #[.int .i64 i, .int .i64 st, .slice A n c, .slice B n d] 24)).alloc (.cells #[.int .i64 0, .int .i64 0, .slice none 0 0, .slice none 0 0] 24) := ⟨_, rfl⟩
  have hb1 : Below w.heap.size w w0 := by rw [hw0]; exact bt (alloc_below _ _) (alloc_below _ _)
  have hz0 : w0.heap.size = w.heap.size + 2 := by rw [hw0]; simp
  have hB0 : Mblk w0 w.heap.size (.int .i64 i) (.int .i64 st) (.slice A n c) (.slice B n d) := by
    rw [hw0]
    have := (alloc_below (w.alloc (.cells #[.int .i64 i, .int .i64 st, .slice A n c, .slice B n d] 24)) (.cells #[.int .i64 0, .int .i64 0, .slice none 0 0, .slice none 0 0] 24)).block w.heap.size (by simp)
    exact this.trans (heap_alloc_new w _)
  have hR0 : Mblk w0 (w.heap.size + 1) (.int .i64 0) (.int .i64 0) (.slice none 0 0) (.slice none 0 0) := by
    rw [hw0]
    have := heap_alloc_new (w.alloc (.cells #[.int .i64 i, .int .i64 st, .slice A n c, .slice B n d] 24)) (.cells #[.int .i64 0, .int .i64 0, .slice none 0 0, .slice none 0 0] 24)
    simpa [Mblk] using this
  have HW0 := Lib.hid hw0
  obtain ⟨R, hR⟩ : ∃ R, R = rch nx i st := ⟨_, rfl⟩
  have hRs : Stt n R := by rw [hR]; exact hM.rch_stt
  have hRc := Lib.hid (show ∀ s a, s ∈ R → a < i → nN nx s a ∈ R from fun s a hs ha => by rw [hR] at hs ⊢; exact hM.rch_in hs ha)
  have HREACH := Lib.hid (fun W h1 h2 => preach_ok i st n A B c d nx ot W h1 h2 hM)
  rw [← hR] at HREACH ⊢
  clear hR
  have hRl := hRs.len
  go_enter Try.func80, Try.ntmps80
  go_wp2_with fail
  rw [← HW0.out]
  clear hw0
  refine (pvalid _ _ _ _ _ _ _ _ _ _ _ (hx.below hb1) (ho.below hb1)).mono ?_
  rintro e w1 ⟨rfl, b1⟩
  rw [HV.out]
  obtain ⟨k0, k1, k2, k3, _⟩ := (hB0.kept b1 (by omega)).cells
  go_wp2_with fail
  refine (HREACH.out _ (hx.below (bt hb1 b1)) (ho.below (bt hb1 b1))).mono ?_
  rintro e w2 ⟨A1, c1, rfl, ho1, b2⟩
  have b2 := bt b1 b2
  have hz2 := b2.size
  obtain ⟨k0, k1, k2, k3, _⟩ := (hB0.kept b2 (by omega)).cells
  have hI1 := Lib.hid (Owned.ints ho1 (by rw [zs_len]; omega))
  clear ho1
  go_wp2_with (refine wpList_make_ints _ rfl _ _ rfl .i64 .i64 n rfl rfl hn ?_; intro w3 ho3 b3)
  obtain ⟨gn, hgn0⟩ : ∃ gn, gn = w2.heap.size := ⟨_, rfl⟩
  rw [← hgn0] at ho3 b3 hz2 ⊢
  have HG := Lib.hid hgn0
  have HO3 := Lib.hid ho3
  have HB3 := Lib.hid b3
  clear hgn0 k0 k1 k2 k3 b1 ho3 b3
  go_loopw [28] (fun kv wr => ∃ (k : Nat) (num : List Int), k ≤ R.length ∧ kv = .int .i64 k ∧ Owned wr gn (.slice (some ⟨gn, 0, none⟩) n n) num ∧ num.length = n ∧ (∀ j, j < k → num.getD (R.getD j 0) 0 = (j : Int)) ∧ Below gn w2 wr) (fun kv _ => R.length - (intOf kv).toNat)
  case atStart => exact ⟨0, List.replicate n 0, Nat.zero_le _, rfl, HO3.out, by simp, fun j h => absurd h (by omega), HB3.out⟩
  case round =>
    obtain ⟨k, num, hk, rfl, ho, hnl, hat, hbr2⟩ := hrel
    have hI : Ints wr A1 R.length (zs R) := hI1.out.below (by rw [← HG.out]; exact hbr2)
    have HAT := Lib.hid hat
    have HNL := Lib.hid hnl
    clear hat hnl
    by_cases hlt : k < R.length
    · obtain ⟨b1, o1, rfl, hb1, hc1⟩ := hI.at_ hlt
      rw [zs_at] at hc1
      have hs : R.getD k 0 < n := hRs.2 _ (getD_mem hlt)
      have hnd := Lib.hid (show ∀ j, j < k → R.getD j 0 ≠ R.getD k 0 from fun j hj e => by
        have h1 := ixN_of hRs.1 (show j < R.length by omega)
        have h2 := ixN_of hRs.1 hlt
        rw [e] at h1
        omega)
      have hs1 := ho.stored (R.getD k 0) (k : Int)
      have hw := ho.ints (by rw [HNL.out]; exact hn)
      obtain ⟨bq, oq, eq, hbq, hcq⟩ := hw.at_ hs
      cases eq
      obtain ⟨gq, eg, _, _, hfz⟩ := ho.head (by omega)
      cases eg
      have hfz' := hfz (R.getD k 0)
      have hset := Lib.hid (show ∀ j, j < k + 1 → (num.set (R.getD k 0) (k : Int)).getD (R.getD j 0) 0 = (j : Int) from fun j hj => by
        by_cases e : j = k
        · subst e
          rw [List.getD_eq_getElem?_getD, List.getElem?_set, if_pos rfl, if_pos (by rw [HNL.out]; exact hs)]; rfl
        · rw [List.getD_eq_getElem?_getD, List.getElem?_set, if_neg (fun e2 => hnd.out j (by omega) e2.symm), ← List.getD_eq_getElem?_getD]
          exact HAT.out j (by omega))
      have hbs := Lib.hid (hbr2.setCell (p := ⟨gn, R.getD k 0, none⟩) (Nat.le_refl _) (.int .i64 k))
      have HS1 := Lib.hid hs1
      rw [Nat.zero_add] at hcq
      generalize R.getD k 0 = s at hc1 hs hs1 hcq hfz' hset hbs HS1
      clear hfz hw hs1 hI ho hbr2 HAT hnd
      go_wp2
      go_roundw
      case rel => exact ⟨k + 1, num.set s k, by omega, by go_num, HS1.out, by rw [List.length_set, HNL.out], hset.out, hbs.out⟩
      case measure => simp [intOf]; omega
    · obtain rfl : k = R.length := by omega
      have hidx := Lib.hid (show ∀ x, x ∈ R → num.getD x 0 = ((ixN R x : Nat) : Int) from fun x hx => by
        have := HAT.out (ixN R x) (ixN_lt hx)
        rw [ixN_at hx] at this
        exact this)
      have hbr := b2.trans (hbr2.mono (by rw [HG.out]; exact b2.size))
      have hNum := Lib.hid (Owned.ints ho (by rw [HNL.out]; exact hn))
      obtain ⟨k0, k1, k2, k3, _⟩ := (hB0.kept hbr (by omega)).cells
      clear ho HAT HO3 HB3
      have hzr := hbr.size
      obtain ⟨gT, hgT⟩ : ∃ gT, gT = wr.heap.size := ⟨_, rfl⟩
      obtain ⟨wo, rfl⟩ : ∃ wo : World, wo = wr := ⟨_, rfl⟩
      have HT := Lib.hid hgT
      obtain ⟨w4, hw4⟩ : ∃ w4, w4 = wo.alloc (.cells #[.int .i64 i, .int .i64 0, .slice none 0 0, .slice none 0 0] 24) := ⟨_, rfl⟩
      have hbl4 : Below wo.heap.size wo w4 := by rw [hw4]; exact alloc_below _ _
      have hT4 : Mblk w4 gT (.int .i64 i) (.int .i64 0) (.slice none 0 0) (.slice none 0 0) := by rw [hw4, hgT]; exact heap_alloc_new _ _
      have b4 := hbr.trans (hbl4.mono hzr)
      have hIo := Lib.hid hI
      rw [← hgT] at hzr hbl4
      have H4 := Lib.hid hw4
      have HL4 := Lib.hid hbl4
      have hbr0 := hbr
      clear hgT hI hbr hbl4
      go_wp2
      rw [← H4.out]
      clear hw4
      try rw [← HT.out]
      clear k0 k1 k2 k3
      have HT4 := Lib.hid hT4
      have HB4 := Lib.hid b4
      have hzr2 : w.heap.size < gT := by omega
      have HBX := Lib.hid (hB0.kept hbr0 (by omega))
      have HRX := Lib.hid (hR0.kept hbr0 (by omega))
      have HBW := Lib.hid (hb1.trans (hbr0.mono (by omega)))
      clear hT4 b4 H4 hbr0
      go_loopw [43] (fun kv wr => ∃ (k : Nat) (AN AO : Option Addr) (cN cO : Nat), k ≤ R.length ∧ kv = .int .i64 k ∧ Below gT wo wr ∧ Mblk wr gT (.int .i64 i) (.int .i64 0) (.slice AN k cN) (.slice AO k cO) ∧
        OwnedL wr gT (.slice AN k cN) ((R.take k).map (trR nx i R)) ∧ OwnedL wr gT (.slice AO k cO) ((R.take k).map fun s => ot.getD s []) ∧ Apart (.slice AN k cN) (.slice AO k cO)) (fun kv _ => R.length - (intOf kv).toNat)
      case atStart => exact ⟨0, none, none, 0, 0, Nat.zero_le _, rfl, HL4.out, HT4.out, OwnedL.nil _ _, OwnedL.nil _ _, Apart.nil _⟩
      case round =>
        obtain ⟨k, AN, AO, cN, cO, hk, rfl, hbr, hT, hLN, hLO, hap⟩ := hrel
        have hbo := HB4.out
        have hzo : gT + 1 ≤ wr.heap.size := heap_lt hT
        have hbw0 : Below gT wo wr := hbr
        have hbox := (HBX.out.kept hbr hzr2).cells
        obtain ⟨k0, k1, k2, k3, _⟩ := hbox
        have hbW : Below w.heap.size w wr := HBW.out.trans (hbr.mono (by omega))
        have hI : Ints wr A1 R.length (zs R) := hIo.out.below (by rw [← HT.out]; exact hbr)
        have hNm := Lib.hid (hNum.out.below (show Below wo.heap.size wo wr by rw [← HT.out]; exact hbr))
        have HTT := Lib.hid hT
        have HLN := Lib.hid hLN
        have HLO := Lib.hid hLO
        have HAP := Lib.hid hap
        have HBR := Lib.hid hbr
        clear hT hLN hLO hap hbo hbw0
        by_cases hlt : k < R.length
        · obtain ⟨b1, o1, rfl, hb1', hc1⟩ := hI.at_ hlt
          rw [zs_at] at hc1
          have hsR := getD_mem hlt
          have hs : R.getD k 0 < n := hRs.2 _ hsR
          have hTN := Lib.hid (map_take_succ (trR nx i R) R 0 hlt)
          have hTO := Lib.hid (map_take_succ (fun s => ot.getD s []) R 0 hlt)
          generalize R.getD k 0 = s at hc1 hs hsR hTN hTO
          obtain ⟨g1, p1, A3, n1, c3, rfl, hg1, hd1, hr1⟩ := hx.at_ hs
          obtain ⟨g2, p2, A4, n2, c4, rfl, hg2, hd2, hr2⟩ := hlo.out.at_ hs
          have hi1 := (hM.row s hs).1
          have hi2 := (hM.row s hs).2.1
          have hl1 := hr1.1
          have hl2 := hr2.1
          obtain rfl : n1 = i := by omega
          obtain rfl : n1 = n2 := by omega
          have e1 := (hbW.cell (p := ⟨g1, p1 + s, none⟩) hg1).trans hd1
          have hi64 := hM.i2
          clear hl1 hl2 hi2 hd1
          have HI1 := Lib.hid hi1
          clear hi1
          go_wp2_with fail
          refine (sclone _ _ _ _ _ (hr1.below hbW)).mono ?_
          rintro e w5 ⟨A5, c5, rfl, ho5, b5⟩
          have HO5 := Lib.hid ho5
          have HB5 := Lib.hid b5
          clear ho5 b5
          go_wp2
          obtain ⟨wc, rfl⟩ : ∃ wc : World, wc = wr := ⟨_, rfl⟩
          clear k0 k1 k2 k3 hc1 e1
          go_loopw [55] (fun av wq => ∃ a : Nat, a ≤ n1 ∧ av = .int .i64 a ∧ Owned wq wc.heap.size (.slice A5 n1 c5) (midR nx n1 R s a) ∧ Below wc.heap.size wc wq) (fun av _ => n1 - (intOf av).toNat)
          case atStart => exact ⟨0, Nat.zero_le _, rfl, by rw [midR_zero]; exact HO5.out, HB5.out⟩
          case round =>
            obtain ⟨a, ha, rfl, ho6, b6⟩ := hrel
            by_cases hla : a < n1
            · have hset := Lib.hid (midR_set (R := R) HI1.out hla)
              have hat := Lib.hid ((midR_at (nx := nx) (R := R) (s := s) hla).trans (hM.nN_eq hs hla))
              have hml := Lib.hid (midR_len (nx := nx) (R := R) (s := s) HI1.out (Nat.le_of_lt hla))
              have hmi : (midR nx n1 R s a).length ≤ 17592186044416 := by rw [hml.out]; omega
              obtain ⟨g5, e5, hg5, hg5', hfz5⟩ := ho6.head (by omega)
              subst e5
              obtain ⟨bq, oq, eq, hbq, hcq⟩ := (ho6.ints hmi).at_ hla
              cases eq
              rw [hat.out, Nat.zero_add] at hcq
              have ht := hM.nN_lt hs hla
              have hnum := hidx.out _ (hRc.out s a hsR hla)
              generalize nN nx s a = t at hcq ht hnum hset
              obtain ⟨bn, on, en, hbn, hcn⟩ := (hNm.out.below b6).at_ ht
              cases en
              rw [hnum, Nat.zero_add] at hcn
              have hst := ho6.stored a ((ixN R t : Nat) : Int)
              rw [hset.out] at hst
              have hbs := Lib.hid (b6.setCell (p := ⟨g5, a, none⟩) hg5 (.int .i64 ((ixN R t : Nat) : Int)))
              have HST := Lib.hid hst
              have hf := hfz5 a
              clear hst ho6 b6 hfz5 hnum
              generalize ((ixN R t : Nat) : Int) = tv at hcn hbs HST
              go_wp2
              go_roundw
              case rel => exact ⟨a + 1, by omega, by go_num, HST.out, hbs.out⟩
              case measure => simp [intOf]; omega
            · obtain rfl : a = n1 := by omega
              rw [midR_all HI1.out] at ho6
              have hTq := HTT.out.kept b6 (heap_lt HTT.out)
              obtain ⟨c0, c1', c2', c3', f0, f1, f2, f3⟩ := hTq.cells
              have hLq := HLN.out.kept b6
              have hLOq := HLO.out.kept b6
              have ho6 := ho6.lower (base' := gT) (by omega)
              have hzq := b6.size
              have hgq : gT ≤ wr.heap.size := by omega
              obtain ⟨AN2, cN2, w7, hrn, hLN7, b7, hk7, hkb7, hmv7⟩ := run_append_list hLq ho6 hgq (by rw [List.length_map, List.length_take]; omega)
              have hkl : ((R.take k).map (trR nx a R)).length = k := by rw [List.length_map, List.length_take]; omega
              rw [hkl] at hrn hLN7 hmv7
              rw [← hTN.out] at hLN7
              have hT7 := hTq.keptT (hk7 _ (by decide))
              obtain ⟨y0, y1, y2, y3, z0, z1, z2, z3⟩ := hT7.cells
              have hLO7 := hLOq.keptB hkb7 HAP.out (hk7 _ (by decide))
              have hAP7 := HAP.out.moved hmv7 hLOq
              have hb7 : Below gT wo w7 := HBR.out.trans ((b6.mono (by omega)).trans b7)
              have hw8 := fun (u : Value) => hb7.setCell (p := ⟨gT, 2, none⟩) (Nat.le_refl _) u
              have h81 := hT7.set2 (.slice AN2 (k + 1) cN2)
              have h82 := hLN7.offM (j := 2) hT7 (.slice AN2 (k + 1) cN2)
              have h83 := hLO7.offM (j := 2) hT7 (.slice AN2 (k + 1) cN2)
              have h84 := hw8 (.slice AN2 (k + 1) cN2)
              have e2 := (hbW.cell (p := ⟨g2, p2 + s, none⟩) hg2).trans hd2
              have HH := Lib.hid (And.intro h81 (And.intro h82 (And.intro h83 h84)))
              clear hT7 hLN7 hLO7 hb7 hw8 h81 h82 h83 h84 hTq hLq hLOq ho6 hk7 hkb7 hmv7 b7 b6 e2
              go_wp2_with (at_builtin; refine Lib.wpList_append_run _ rfl _ _ _ _ rfl _ _ rfl rfl _ _ hrn ?_)
              obtain ⟨h81, h82, h83, h84⟩ := HH.out
              generalize w7.setCell ⟨gT, 2, none⟩ (.slice AN2 (k + 1) cN2) = w8 at h81 h82 h83 h84 ⊢
              clear HH y0 y1 y2 y3 z0 z1 z2 z3 hrn c0 c1' c2' c3' f0 f1 f2 f3
              obtain ⟨c0, c1', c2', c3', f0, f1, f2, f3⟩ := h81.cells
              have hbox8 := HBX.out.kept h84 hzr2
              obtain ⟨k0, k1, k2, k3, _⟩ := hbox8.cells
              have hbW8 : Below w.heap.size w w8 := HBW.out.trans (h84.mono (by omega))
              have e2 := (hbW8.cell (p := ⟨g2, p2 + s, none⟩) hg2).trans hd2
              have hg8 : gT < w8.heap.size := heap_lt h81
              have H81 := Lib.hid h81
              have H82 := Lib.hid h82
              have H83 := Lib.hid h83
              have H84 := Lib.hid h84
              have HAP7 := Lib.hid hAP7
              clear h81 h82 h83 h84 hAP7
              go_region_law (first
                | (refine step_append_run rfl _ _ _ _ rfl _ _ rfl rfl _ _ (HF.out 0).1 ?_)
                | (go_simp; go_at_call 106; refine (sclone _ _ _ _ _ (hr2.below (below_drewN hbW8 _))).mono ?_; rintro e w9 ⟨A9, c9, rfl, ho9, b9⟩; obtain ⟨hT9, F, hF⟩ := trim_step H84.out H81.out H82.out H83.out HAP7.out _ b9 ho9 (by omega) hg8; obtain ⟨c0, c1', c2', c3', f0, f1, f2, f3⟩ := hT9.cells; have ca := ((alloc_below w9 (.cells #[.slice A9 a c9] 27)).cell (p := ⟨gT, 3, none⟩) (heap_lt hT9)).trans c3'; have HF := Lib.hid hF; have cF := fun q => (hF q).2.1.cells.2.2.2.1; have fF := fun q => (hF q).2.1.cells.2.2.2.2.2.2.2; clear hT9 hF ho9 b9))
              all_goals
                go_wp2
                go_roundw
                case rel => exact ⟨k + 1, AN2, (F 0).1.1, cN2, (F 0).1.2, by omega, by go_num, (HF.out 0).2.2.2.2.2.setCell (p := ⟨gT, 3, none⟩) (Nat.le_refl _) _, (HF.out 0).2.1.set3 _, (HF.out 0).2.2.1.offM (HF.out 0).2.1 _, by rw [hTO.out]; exact (HF.out 0).2.2.2.1.offM (HF.out 0).2.1 _, (HF.out 0).2.2.2.2.1⟩
                case measure => simp [intOf]; omega
        · obtain rfl : k = R.length := by omega
          obtain ⟨c0, c1', c2', c3', _⟩ := HTT.out.cells
          have hRr := HRX.out.kept HBR.out (by omega)
          obtain ⟨y0, y1, y2, y3, z0, z1, z2, z3⟩ := hRr.cells
          have hN9 := HLN.out
          have hO9 := HLO.out
          rw [List.take_length] at hN9 hO9
          have hl : ∀ k, w.heap.size ≤ (⟨w.heap.size + 1, k, none⟩ : Addr).block := fun k => Nat.le_succ _
          have hfb := Lib.hid (((((hbW.setCell (hl 0) (.int .i64 i)).setCell (hl 1) (.int .i64 0)).setCell (hl 2) (.slice AN R.length cN)).setCell (hl 3) (.slice AO R.length cO)))
          have hR4 := Lib.hid (hRr.set4 (.int .i64 i) (.int .i64 0) (.slice AN R.length cN) (.slice AO R.length cO))
          have hq1 := hRr
          have hq2 : Mblk (wr.setCell ⟨w.heap.size + 1, 0, none⟩ (.int .i64 i)) (w.heap.size + 1) _ _ _ _ := heap_setCell_same wr _ 0 _ _ _ hq1
          have hq3 : Mblk ((wr.setCell ⟨w.heap.size + 1, 0, none⟩ (.int .i64 i)).setCell ⟨w.heap.size + 1, 1, none⟩ (.int .i64 0)) (w.heap.size + 1) _ _ _ _ := heap_setCell_same _ _ 1 _ _ _ hq2
          have hq4 : Mblk (((wr.setCell ⟨w.heap.size + 1, 0, none⟩ (.int .i64 i)).setCell ⟨w.heap.size + 1, 1, none⟩ (.int .i64 0)).setCell ⟨w.heap.size + 1, 2, none⟩ (.slice AN R.length cN)) (w.heap.size + 1) _ _ _ _ := heap_setCell_same _ _ 2 _ _ _ hq3
          have hN10 := Lib.hid (((((hN9.offM hq1 (.int .i64 i) (j := 0)).offM hq2 (.int .i64 0) (j := 1)).offM hq3 (.slice AN R.length cN) (j := 2)).offM hq4 (.slice AO R.length cO) (j := 3)).lower (base' := w.heap.size) (by omega))
          have hO10 := Lib.hid (((((hO9.offM hq1 (.int .i64 i) (j := 0)).offM hq2 (.int .i64 0) (j := 1)).offM hq3 (.slice AN R.length cN) (j := 2)).offM hq4 (.slice AO R.length cO) (j := 3)).lower (base' := w.heap.size) (by omega))
          clear hRr hq1 hq2 hq3 hq4 hN9 hO9 hl hbW
          go_wp2
          (try simp only [Exit.inBlock, Exit.then])
          refine bodyPost_ret (results_mealy rfl _ _ (w.heap.size + 1) _ _ _ _ rfl hR4.out) rfl ?_
          exact ⟨AN, cN, AO, cO, rfl, hN10.out, hO10.out, hfb.out⟩
end Go.Proofs.Ytogcecfeofbbnaa
end

section
/- Boxes of machines; rows that a call owns, as lists. -/
namespace Go.Proofs.Ytogcecfeofbbnaa
open Go.RowKit

theorem mealy_box (w : World) (a b c d : Value) : Mblk (w.alloc (.cells #[a, b, c, d] 24)) w.heap.size a b c d := heap_alloc_new _ _
theorem lists_ownedM {w : World} {base : Nat} {A : Option Addr} {n c i st : Nat} {nx ot : List (List Int)} (hM : Mok i st n nx ot) (h : OwnedL w base (.slice A n c) nx) : Lists w A n nx :=
  h.lists (by rw [hM.nxl]; have := hM.n2; omega) fun xs hxs => by
    obtain ⟨s, hs, rfl⟩ := List.getElem_of_mem hxs
    have h1 := (hM.row s (by rw [← hM.nxl]; exact hs)).1
    rw [List.getD_eq_getElem?_getD, List.getElem?_eq_getElem hs] at h1
    have := hM.i2
    have h1 : nx[s].length = i := h1
    omega
theorem lists_ownedO {w : World} {base : Nat} {A : Option Addr} {n c i st : Nat} {nx ot : List (List Int)} (hM : Mok i st n nx ot) (h : OwnedL w base (.slice A n c) ot) : Lists w A n ot :=
  h.lists (by rw [hM.otl]; have := hM.n2; omega) fun xs hxs => by
    obtain ⟨s, hs, rfl⟩ := List.getElem_of_mem hxs
    have h1 := (hM.row s (by rw [← hM.otl]; exact hs)).2.1
    rw [List.getD_eq_getElem?_getD, List.getElem?_eq_getElem hs] at h1
    have := hM.i2
    have h1 : ot[s].length = i := h1
    omega
end Go.Proofs.Ytogcecfeofbbnaa
end

section
/- compose: check, answer. -/
namespace Go.Proofs.Ytogcecfeofbbnaa
open Go.RowKit

/-- The first error of two machines. -/
def vld2m (i1 st1 : Int) (nx1 ot1 : List (List Int)) (i2 st2 : Int) (nx2 ot2 : List (List Int)) : Int := if vld i1 st1 nx1 ot1 = 0 then vld i2 st2 nx2 ot2 else vld i1 st1 nx1 ot1
/-- Two machines in boxes, one behind the other. -/
theorem pair_boxesM (w : World) (i1 st1 i2 st2 : Int) (A B C D : Option Addr) (n c m d n2 c2 m2 d2 : Nat) : ∃ w0, w0 = (w.alloc (.cells #[.int .i64 i1, .int .i64 st1, .slice A n c, .slice B m d] 24)).alloc (.cells #[.int .i64 i2, .int .i64 st2, .slice C n2 c2, .slice D m2 d2] 24) ∧
    Below w.heap.size w w0 ∧ Mblk w0 w.heap.size (.int .i64 i1) (.int .i64 st1) (.slice A n c) (.slice B m d) ∧ Mblk w0 (w.heap.size + 1) (.int .i64 i2) (.int .i64 st2) (.slice C n2 c2) (.slice D m2 d2) ∧ w0.heap.size = w.heap.size + 2 := by
  refine ⟨_, rfl, (alloc_below _ _).alloc (by simp) _, (mealy_box w (.int .i64 i1) (.int .i64 st1) (.slice A n c) (.slice B m d)).kept (alloc_below _ _) (by simp), ?_, by simp⟩
  have := mealy_box (w.alloc (.cells #[.int .i64 i1, .int .i64 st1, .slice A n c, .slice B m d] 24)) (.int .i64 i2) (.int .i64 st2) (.slice C n2 c2) (.slice D m2 d2)
  simpa using this
theorem Mblk.on {w w' : World} {g : Nat} {a b c d : Value} (h : Mblk w g a b c d) (hb : Below w.heap.size w w') : Mblk w' g a b c d := h.kept hb (heap_lt h)
set_option maxRecDepth 100000 in
theorem pcheckm (i1 st1 i2 st2 : Int) (A B C D : Option Addr) (n c m d n2 c2 m2 d2 : Nat) (nx1 ot1 nx2 ot2 : List (List Int)) (w : World) (hx1 : Lists w A n nx1) (ho1 : Lists w B m ot1) (hx2 : Lists w C n2 nx2) (ho2 : Lists w D m2 ot2) :
    Calls Try.prog 65 #[.agg #[.int .i64 i1, .int .i64 st1, .slice A n c, .slice B m d], .agg #[.int .i64 i2, .int .i64 st2, .slice C n2 c2, .slice D m2 d2]] w fun e w' => e = .returned (.int .i64 (vld2m i1 st1 nx1 ot1 i2 st2 nx2 ot2)) ∧ Below w.heap.size w w' := by
  obtain ⟨w0, hw0, hb0, hB1, hB2, hz0⟩ := pair_boxesM w i1 st1 i2 st2 A B C D n c m d n2 c2 m2 d2
  have HW0 := Lib.hid hw0
  have HB1 := Lib.hid hB1
  have HB2 := Lib.hid hB2
  clear hw0 hB1 hB2 hz0
  obtain ⟨k0, k1, k2, k3, _⟩ := HB1.out.cells
  rw [HW0.out] at k0 k1 k2 k3
  go_enter Try.func65, Try.ntmps65
  go_wp2_with fail
  rw [← HW0.out]
  refine (pvalid _ _ _ _ _ _ _ _ _ _ _ (hx1.below hb0) (ho1.below hb0)).mono ?_
  rintro e w1 ⟨rfl, a1⟩
  have HB2 := Lib.hid (HB2.out.on a1)
  have b1 := bt hb0 a1
  clear hb0 a1 k0 k1 k2 k3
  by_cases h1 : vld i1 st1 nx1 ot1 = 0
  · obtain ⟨k0, k1, k2, k3, _⟩ := HB2.out.cells
    have H1 := Lib.hid h1
    rw [h1]
    clear h1
    go_wp2_with fail
    refine (pvalid _ _ _ _ _ _ _ _ _ _ _ (hx2.below b1) (ho2.below b1)).mono ?_
    rintro e w2 ⟨rfl, a2⟩
    have b2 := bt b1 a2
    have H3 := Lib.hid (show vld2m i1 st1 nx1 ot1 i2 st2 nx2 ot2 = vld i2 st2 nx2 ot2 by unfold vld2m; rw [if_pos H1.out])
    generalize vld i2 st2 nx2 ot2 = E at H3 ⊢
    clear k0 k1 k2 k3
    go_wp2
    go_ret
    exact ⟨by rw [H3.out]; rfl, b2⟩
  · have hne : (vld i1 st1 nx1 ot1 != 0) = true := by simpa using h1
    have H3 := Lib.hid (show vld2m i1 st1 nx1 ot1 i2 st2 nx2 ot2 = vld i1 st1 nx1 ot1 by unfold vld2m; rw [if_neg h1])
    generalize vld i1 st1 nx1 ot1 = E at hne H3 ⊢
    clear h1
    go_wp2
    go_ret
    exact ⟨by rw [H3.out]; rfl, b1⟩

/-- A result in a slot and one in memory; two in memory. -/
theorem results_tmp_row {fn : Func} {u p : Tmp} {ty : TypeId} (h : fn.results = #[.tmp u, .cell p ty]) (tmps : Array Value) (w : World) (g : Nat) (cs : Array Value)
    (hp : tmps.getD p undef = .pointer (some ⟨g, 0, none⟩)) (hl : (loadVar ty ⟨g, 0, none⟩).run Try.prog w = .ok (.agg cs) w) :
    (results fn tmps).run Try.prog w = .ok (.tuple #[tmps.getD u undef, .agg cs]) w := by
  have hp' : tmps[p]?.getD undef = .pointer (some ⟨g, 0, none⟩) := by simpa using hp
  simp [results, h, hp', asAddr, hl]
theorem results_two_rows {fn : Func} {p q : Tmp} {ty tz : TypeId} (h : fn.results = #[.cell p ty, .cell q tz]) (tmps : Array Value) (w : World) (g g' : Nat) (cs cs' : Array Value)
    (hp : tmps.getD p undef = .pointer (some ⟨g, 0, none⟩)) (hl : (loadVar ty ⟨g, 0, none⟩).run Try.prog w = .ok (.agg cs) w)
    (hq : tmps.getD q undef = .pointer (some ⟨g', 0, none⟩)) (hl' : (loadVar tz ⟨g', 0, none⟩).run Try.prog w = .ok (.agg cs') w) :
    (results fn tmps).run Try.prog w = .ok (.tuple #[.agg cs, .agg cs']) w := by
  have hp' : tmps[p]?.getD undef = .pointer (some ⟨g, 0, none⟩) := by simpa using hp
  have hq' : tmps[q]?.getD undef = .pointer (some ⟨g', 0, none⟩) := by simpa using hq
  simp [results, h, hp', hq', asAddr, hl, hl']
theorem load_output {w : World} {g : Nat} {a b : Value} (h : w.heap[g]? = some (.cells #[a, b] 92 (0, 0))) : (loadVar 92 ⟨g, 0, none⟩).run Try.prog w = .ok (.agg #[a, b]) w :=
  run_loadVar_row (P := Try.prog) w g 92 92 #[a, b] (0, 0) _ h Try.underlying92 rfl (by kernel_rfl)
theorem load_outputs {w : World} {g : Nat} {a b c d : Value} (h : w.heap[g]? = some (.cells #[a, b, c, d] 94 (0, 0))) : (loadVar 94 ⟨g, 0, none⟩).run Try.prog w = .ok (.agg #[a, b, c, d]) w :=
  run_loadVar_row (P := Try.prog) w g 94 94 #[a, b, c, d] (0, 0) _ h Try.underlying94 rfl (by kernel_rfl)
theorem load_pairc {w : World} {g : Nat} {a b : Value} (h : w.heap[g]? = some (.cells #[a, b] 90 (0, 0))) : (loadVar 90 ⟨g, 0, none⟩).run Try.prog w = .ok (.agg #[a, b]) w :=
  run_loadVar_row (P := Try.prog) w g 90 90 #[a, b] (0, 0) _ h Try.underlying90 rfl (by kernel_rfl)
/-- What answer leaves in its result. -/
theorem two_farO {w : World} {g : Nat} {p : Addr} {x : Value} (u v : Value) (h : w.cell? p = some x) (hn : p.block ≠ g) : (((w.setCell ⟨g, 0, none⟩ u).setCell ⟨g, 1, none⟩ v).drew).cell? p = some x := by
  show ((w.setCell ⟨g, 0, none⟩ u).setCell ⟨g, 1, none⟩ v).cell? p = some x
  rw [World.cell?_setCell_far _ _ _ _ (Ne.symm hn), World.cell?_setCell_far _ _ _ _ (Ne.symm hn)]
  exact h
set_option maxHeartbeats 4000000 in
set_option maxRecDepth 100000 in
theorem panswer (i st n : Nat) (A B : Option Addr) (c d : Nat) (nx ot : List (List Int)) (s a : Nat) (w : World) (hM : Mok i st n nx ot) (hx : Lists w A n nx) (ho : Lists w B n ot) (hs : s < n) (ha : a < i) :
    Calls Try.prog 67 #[.agg #[.int .i64 i, .int .i64 st, .slice A n c, .slice B n d], .int .i64 s, .int .i64 a] w fun e w' => e = .returned (.tuple #[.int .i64 (nN nx s a : Nat), .agg #[.bool true, .int .i64 (oM ot s a : Nat)]]) ∧ Below w.heap.size w w' := by
  obtain ⟨w1, hw1⟩ : ∃ w1, w1 = (w.alloc (.cells #[.int .i64 i, .int .i64 st, .slice A n c, .slice B n d] 24)).alloc (.cells #[.bool false, .int .i64 0] 92) := ⟨_, rfl⟩
  have hb : Below w.heap.size w w1 := by rw [hw1]; exact (alloc_below _ _).alloc (by simp) _
  have p1 : Mblk w1 w.heap.size (.int .i64 i) (.int .i64 st) (.slice A n c) (.slice B n d) := by
    rw [hw1]
    exact (mealy_box w (.int .i64 i) (.int .i64 st) (.slice A n c) (.slice B n d)).kept (alloc_below _ _) (by simp)
  have p2 : w1.heap[w.heap.size + 1]? = some (.cells #[.bool false, .int .i64 0] 92 (0, 0)) := by
    rw [hw1]
    have := heap_alloc_new (w.alloc (.cells #[.int .i64 i, .int .i64 st, .slice A n c, .slice B n d] 24)) (.cells #[.bool false, .int .i64 0] 92)
    simpa using this
  have HW := Lib.hid hw1
  obtain ⟨k0, k1, k2, k3, _⟩ := p1.cells
  have hr := hM.row s hs
  obtain ⟨gA, oA, A1, nA, cA, eA, lA, hdA, hrA⟩ := hx.at_ hs
  subst eA
  obtain rfl : nA = i := by rw [← hrA.1]; exact hr.1
  obtain ⟨gB, oB, eB, lB, xB⟩ := hrA.at_ ha
  subst eB
  rw [hM.nN_eq hs ha] at xB
  obtain ⟨gC, oC, A2, nC, cC, eC, lC, hdC, hrC⟩ := ho.at_ hs
  subst eC
  obtain rfl : nC = nA := by rw [← hrC.1]; exact hr.2.1
  obtain ⟨gD, oD, eD, lD, xD⟩ := hrC.at_ ha
  subst eD
  rw [show (ot.getD s []).getD a 0 = (oM ot s a : Int) from hM.oM_eq hs ha] at xD
  have hdA := (hb.cell (p := ⟨gA, oA + s, none⟩) lA).trans hdA
  have hdC := (hb.cell (p := ⟨gC, oC + s, none⟩) lC).trans hdC
  have xB := (hb.cell (p := ⟨gB, oB + a, none⟩) lB).trans xB
  have xD := (hb.cell (p := ⟨gD, oD + a, none⟩) lD).trans xD
  have n0 : w.heap.size ≠ w.heap.size + 1 := by omega
  have n3 : gA ≠ w.heap.size + 1 := by omega
  have n4 : gB ≠ w.heap.size + 1 := by omega
  have n5 : gC ≠ w.heap.size + 1 := by omega
  have n6 : gD ≠ w.heap.size + 1 := by omega
  have hn := hM.n2
  have hi := hM.i2
  generalize nN nx s a = u at xB ⊢
  generalize oM ot s a = v at xD ⊢
  have t0 := cell_of_row w1 (w.heap.size + 1) 0 _ _ (0, 0) p2
  have t1 := cell_of_row w1 (w.heap.size + 1) 1 _ _ (0, 0) p2
  have f0 := frozen_of_row w1 (w.heap.size + 1) 0 _ _ p2
  have f1 := frozen_of_row w1 (w.heap.size + 1) 1 _ _ p2
  have HP2 := Lib.hid p2
  have HB := Lib.hid hb
  clear hw1 hb p1 p2 hrA hrC hr hx ho hM
  go_enter Try.func67, Try.ntmps67
  go_wp2_with fail
  rw [← HW.out]
  go_region_held3 (fun w' => w'.cell? ⟨w.heap.size, 2, none⟩ = some (.slice (some ⟨gA, oA, none⟩) n c) ∧ w'.cell? ⟨w.heap.size, 3, none⟩ = some (.slice (some ⟨gC, oC, none⟩) n d) ∧ w'.cell? ⟨gA, oA + s, none⟩ = some (.slice (some ⟨gB, oB, none⟩) nC cA) ∧ w'.cell? ⟨gC, oC + s, none⟩ = some (.slice (some ⟨gD, oD, none⟩) nC cC) ∧ w'.cell? ⟨gB, oB + a, none⟩ = some (.int .i64 u) ∧ w'.cell? ⟨gD, oD + a, none⟩ = some (.int .i64 v)) (first | (refine ⟨?_, ?_, ?_, ?_, ?_, ?_⟩ <;> (refine two_farO _ _ ?_ ?_ <;> assumption)) | go_keep) (fail)
  have h1 := heap_setCell_same w1 (w.heap.size + 1) 0 _ _ (Value.bool true) HP2.out
  have h2 := heap_setCell_same _ (w.heap.size + 1) 1 _ _ (Value.int .i64 (v : Nat)) h1
  have h3 : (((w1.setCell ⟨w.heap.size + 1, 0, none⟩ (.bool true)).setCell ⟨w.heap.size + 1, 1, none⟩ (.int .i64 (v : Nat))).drew).heap[w.heap.size + 1]? = some (.cells #[.bool true, .int .i64 (v : Nat)] 92 (0, 0)) := h2
  have hb4 := below_drewN ((HB.out.setCell (p := ⟨w.heap.size + 1, 0, none⟩) (Nat.le_succ _) (.bool true)).setCell (p := ⟨w.heap.size + 1, 1, none⟩) (Nat.le_succ _) (.int .i64 (v : Nat))) 1
  have hb4 : Below w.heap.size w ((w1.setCell ⟨w.heap.size + 1, 0, none⟩ (.bool true)).setCell ⟨w.heap.size + 1, 1, none⟩ (.int .i64 (v : Nat))).drew := hb4
  generalize ((w1.setCell ⟨w.heap.size + 1, 0, none⟩ (.bool true)).setCell ⟨w.heap.size + 1, 1, none⟩ (.int .i64 (v : Nat))).drew = wx at h3 hb4 ⊢
  clear t0 t1 f0 f1 h1 h2
  go_wp2
  (try simp only [Exit.inBlock, Exit.then])
  refine bodyPost_ret (results_tmp_row (by rfl) _ _ (w.heap.size + 1) _ rfl (load_output h3)) rfl ?_
  exact ⟨rfl, hb4⟩
end Go.Proofs.Ytogcecfeofbbnaa
end

section
/- The pairs that are found and the machine that is built, in memory. -/
namespace Go.Proofs.Ytogcecfeofbbnaa
open Go.RowKit

theorem keyT_pairc : KeyT 127 90 := ⟨Try.underlying127, Go.Maps.Keyed.of_law (deep_law_laid laidOutB_ (m := 3) (by omega) (of_decide_eq_true (by kernel_rfl)) (by kernel_rfl) (by rw [Try.underlying90]))⟩
theorem isK_pairc {a b : Nat} (ha : a ≤ 4611686018427387904) (hb : b ≤ 4611686018427387904) : IsK 90 [(a : Int), (b : Int)] := by
  obtain ⟨D, hD⟩ : ∃ D, Try.prog.types.size + 1 = D + 2 := ⟨Try.prog.types.size - 1, by
    have h0 : decide (0 < Try.prog.types.size) = true := by kernel_rfl
    have h1 := of_decide_eq_true h0
    omega⟩
  obtain ⟨la, hla⟩ := keyLits_int (D := D) (I64.mk (a := (a : Int)) (by omega) (by omega))
  obtain ⟨lb, hlb⟩ := keyLits_int (D := D) (I64.mk (a := (b : Int)) (by omega) (by omega))
  have hc2 : Try.prog.cellsOf 90 = 2 := by kernel_rfl
  have hc1 : Try.prog.cellsOf 3 = 1 := by kernel_rfl
  have hk : Try.prog.keyType 90 = true := by kernel_rfl
  have h : ∃ l, Try.prog.keyLits (D + 2) 90 [.int .i64 (a : Int), .int .i64 (b : Int)] = some l := by
    refine ⟨[la, lb].flatten, ?_⟩
    unfold Program.keyLits
    rw [Try.underlying90]
    simp [hc2, hc1, hla, hlb]
  obtain ⟨l, h⟩ := h
  refine ⟨.string (keyBytes l), ?_⟩
  unfold keyOf kv
  rw [Try.underlying90]
  have hf : (Value.agg (([(a : Int), (b : Int)].map (Value.int .i64)).toArray)).formed Try.prog 90 = true := by
    unfold Value.formed
    rw [Try.underlying90]
    simp [hc2]
  simp only [hk, hf, Bool.and_self, if_true]
  have e : (Value.agg (([(a : Int), (b : Int)].map (Value.int .i64)).toArray)).cells.toList = [.int .i64 (a : Int), .int .i64 (b : Int)] := by simp [Value.cells]
  rw [e, hD, h]; rfl
theorem infoC : (Try.prog.info? 90).map (fun i => (i.zero, i.size, i.bytes)) = some (some (.agg #[.int .i64 0, .int .i64 0]), 2, 16) := by kernel_rfl
/-- The pairs that are found: a row and a map. -/
structure Fnd (w : World) (base : Nat) (E : List Ent) (A : Option Addr) (c gm : Nat) : Prop where
  lst : Rws w base 90 2 (.slice A E.length c) (E.map cellsL)
  num : NumIs 90 w gm (E.map keyE)
  hm : base ≤ gm
section
variable {w w' : World} {base : Nat} {E : List Ent} {A : Option Addr} {c gm : Nat}
theorem Fnd.kept (h : Fnd w base E A c gm) (hb : Below w.heap.size w w') : Fnd w' base E A c gm := ⟨h.lst.kept hb, h.num.below hb h.num.lt, h.hm⟩
theorem Fnd.mv (h : Fnd w base E A c gm) (k1 : KeptT 90 w w') (k2 : KeptM w w') : Fnd w' base E A c gm := by
  obtain ⟨es, ck, hg⟩ := h.num.block
  exact ⟨h.lst.keptT k1, h.num.at_ ((k2 gm es ck hg).trans hg.symm), h.hm⟩
set_option maxRecDepth 100000 in
/-- A known pair. -/
theorem Fnd.look_in (h : Fnd w base E A c gm) (e : Ent) (hin : hasE E e.p e.q) :
    (Instr.lookup 127 (.map (some gm)) (.agg #[.int .i64 e.p, .int .i64 e.q]) true).run Try.prog w = .ok (.tuple #[.int .i64 (plcE E e.p e.q : Nat), .bool true]) w := by
  have := h.num.look_in keyT_pairc (keyE_inj.2 hin)
  rw [keyE_idx] at this
  exact this
set_option maxRecDepth 100000 in
theorem Fnd.look_out (h : Fnd w base E A c gm) (e : Ent) (hp : e.p ≤ 4611686018427387904) (hq : e.q ≤ 4611686018427387904) (hin : ¬ hasE E e.p e.q) :
    (Instr.lookup 127 (.map (some gm)) (.agg #[.int .i64 e.p, .int .i64 e.q]) true).run Try.prog w = .ok (.tuple #[.int .i64 0, .bool false]) w :=
  h.num.look_out keyT_pairc (isK_pairc hp hq) (fun H => hin (keyE_inj.1 H))
set_option maxRecDepth 100000 in
/-- A new pair: the map first, then the row. -/
theorem Fnd.grow (h : Fnd w base E A c gm) (e : Ent) (hne : ¬ hasE E e.p e.q) (hp : e.p ≤ 4611686018427387904) (hq : e.q ≤ 4611686018427387904) (hz : base ≤ w.heap.size) (hn : E.length < 1099511627776) :
    ∃ w1 A1 c1 w2, (Instr.mapUpdate 127 (.map (some gm)) (.agg #[.int .i64 e.p, .int .i64 e.q]) (.int .i64 (E.length : Nat))).run Try.prog w = .ok () w1 ∧
      (Builtin.append_ #[126, 126] 126 #[.slice A E.length c, .slice (some ⟨w1.heap.size, 0, none⟩) 1 1]).run Try.prog (w1.alloc (.cells #[.int .i64 e.p, .int .i64 e.q] 90)) = .ok (.slice A1 (E.length + 1) c1) w2 ∧
      Fnd w2 base (E ++ [e]) A1 c1 gm ∧ Below base w w1 ∧ Below base w w2 ∧ (∀ t, KeptT t w w1) ∧ (∀ t, t ≠ 90 → KeptT t w w2) := by
  have hk : IsK 90 (keyE e) := isK_pairc hp hq
  have hv : ¬ keyE e ∈ E.map keyE := fun H => hne (keyE_inj.1 H)
  obtain ⟨w1, r1, n1, g1⟩ := h.num.put keyT_pairc hk hv (by rw [List.length_map]; omega)
  rw [List.length_map] at r1
  obtain ⟨es, ck, hmb⟩ := h.num.block
  have kk : ∀ t, KeptT t w w1 := fun t g' cs hh => by
    refine (g1.block g' (heap_lt hh) fun e2 => ?_).trans hh
    have : gm = g' := by injection e2 with e2; exact e2.symm
    subst this
    rw [hmb] at hh
    cases hh
  have b1 : Below base w w1 := (Below.refl _ _).grown g1 hz (fun k hk => by cases hk; exact h.hm)
  have l1 : Rws w1 base 90 2 (.slice A E.length c) (E.map cellsL) := h.lst.keptT (kk _)
  have z1 : base ≤ w1.heap.size := Nat.le_trans hz b1.size
  obtain ⟨i, hi, hz0, hz1, hz2⟩ := info_parts infoC
  have hl : (E.map cellsL).length = E.length := List.length_map _
  obtain ⟨A1, c1, w2, r2, l2, b2, t2, m2, _⟩ := run_append_rwsM Try.underlying126 hi hz0 hz1 hz2 rfl (by decide) (by decide) l1 (cellsL e) rfl (fun u hu => by simp [cellsL] at hu; rcases hu with rfl | rfl <;> rfl) z1 (by rw [hl]; exact hn)
  rw [hl] at r2 l2
  obtain ⟨es1, ck1, hg1⟩ := n1.block
  exact ⟨w1, A1, c1, w2, r1, r2, ⟨by rw [List.length_append, List.map_append]; exact l2, by rw [List.map_append]; exact n1.at_ ((m2 gm es1 ck1 hg1).trans hg1.symm), h.hm⟩, b1, b1.trans b2, kk, fun t ht => (kk t).trans (t2 t ht)⟩
end
/-- append of one list, which lies in a cell of its own. -/
theorem run_append_listG {w : World} {base gb : Nat} {v : Value} {xss : List (List Int)} {B : Option Addr} {m d : Nat} {xs : List Int} (h : OwnedL w base v xss) (hx : Owned w base (.slice B m d) xs) (hgb : w.cell? ⟨gb, 0, none⟩ = some (.slice B m d)) (hbase : base ≤ w.heap.size) (hl : xss.length < 1759218604441) :
    ∃ A c w', (Builtin.append_ #[22, 22] 22 #[v, .slice (some ⟨gb, 0, none⟩) 1 1]).run Try.prog w = .ok (.slice A (xss.length + 1) c) w' ∧
      OwnedL w' base (.slice A (xss.length + 1) c) (xss ++ [xs]) ∧ Below base w w' ∧ (∀ t, t ≠ 27 → KeptT t w w') ∧ KeptB v.ownBlock w w' ∧ Moved w v (.slice A (xss.length + 1) c) ∧ w.heap.size ≤ w'.heap.size := by
  obtain ⟨i, hi, hz0, hz1, hz2⟩ := info_parts infol
  obtain ⟨vs, ho1, hv⟩ := h
  obtain ⟨v', w', hr, h1, h2, _, hmv⟩ := run_append_own_at (P := Try.prog) w base 22 22 27 i (.slice none 0 0) 1 24 Try.underlying22 hi hz0 hz1 hz2 rfl (by decide) v _ _ ho1 ⟨gb, 0, none⟩ 1 1 [.slice B m d] (by simp)
    (by
      intro j u hu
      cases j with
      | zero =>
        simp at hu
        subst hu
        simpa [Addr.add] using hgb
      | succ j => simp at hu)
    (by intro u hu; simp at hu; subst hu; rfl) (by unfold maxLen; omega) (by omega) hbase
  have hs : ∀ t, t ≠ 27 → KeptT t w w' := fun t ht => KeptT.grown h2 ho1 ht
  have hform : ∃ A c, v' = .slice A (xss.length + 1) c := by
    rcases h1.2 with ⟨rfl, h0⟩ | ⟨g, cap, cur, rfl, _⟩
    · have := h1.1; rw [h0] at this; simp at this
    · exact ⟨_, _, rfl⟩
  obtain ⟨A, c, rfl⟩ := hform
  have hkb : KeptB v.ownBlock w w' := fun g o e hne => (h2.block g (heap_lt e) (fun e2 => hne e2.symm)).trans e
  have hmoved : Moved w v (.slice A (xss.length + 1) c) := by
    rcases hmv with e | e
    · exact .inl e
    · exact .inr ⟨_, Nat.le_refl _, e⟩
  have hn : m = xs.length := by obtain ⟨A', c', e⟩ := hx.form; cases e; rfl
  subst hn
  refine ⟨A, c, w', hr, ⟨vs ++ [.slice B xs.length d], by rw [List.length_append]; exact h1, fun j hj => ?_⟩, (Below.refl _ _).grown h2 hbase (fun k hk => (World.ownsRow.lt ho1 k hk).1), hs, hkb, hmoved, h2.size⟩
  have hvl : vs.length = xss.length := by have := ho1.1; omega
  by_cases e : j < xss.length
  · obtain ⟨A2, c2, h3, h4⟩ := hv j e
    have hg : (xss ++ [xs]).getD j [] = xss.getD j [] := by rw [List.getD_eq_getElem?_getD, List.getD_eq_getElem?_getD, List.getElem?_append_left e]
    rw [hg]
    exact ⟨A2, c2, by rw [List.getElem?_append_left (by omega)]; exact h3, h4.keptT (hs _ (by decide))⟩
  · have hjl : j = xss.length := by simp at hj; omega
    subst hjl
    have hg : (xss ++ [xs]).getD xss.length [] = xs := by simp
    rw [hg]
    exact ⟨B, d, by rw [List.getElem?_append_right (by omega), hvl]; simp, hx.keptT (hs _ (by decide))⟩
/-- The machine that is built. -/
structure Mres (w : World) (base g i : Nat) (N T : List (List Int)) (AN AT : Option Addr) (cN cT : Nat) : Prop where
  blk : Mblk w g (.int .i64 i) (.int .i64 0) (.slice AN N.length cN) (.slice AT T.length cT)
  nx : OwnedL w base (.slice AN N.length cN) N
  ot : OwnedL w base (.slice AT T.length cT) T
  ap : Apart (.slice AN N.length cN) (.slice AT T.length cT)
section
variable {w w' : World} {base g i : Nat} {N T : List (List Int)} {AN AT : Option Addr} {cN cT : Nat}
theorem Mres.keptT (h : Mres w base g i N T AN AT cN cT) (k : ∀ t, t ≠ 90 → KeptT t w w') : Mres w' base g i N T AN AT cN cT :=
  ⟨h.blk.keptT (k _ (by decide)), h.nx.keptT (k _ (by decide)) (k _ (by decide)), h.ot.keptT (k _ (by decide)) (k _ (by decide)), h.ap⟩
theorem Mres.kept (h : Mres w base g i N T AN AT cN cT) (hb : Below w.heap.size w w') : Mres w' base g i N T AN AT cN cT := h.keptT fun _ _ => KeptT.of_below hb
end
/-- A store into a block that came later. -/
theorem KeptT.later {w w' : World} {t : TypeId} {g k : Nat} {v : Value} (h : KeptT t w w') (hg : w.heap.size ≤ g) : KeptT t w (w'.setCell ⟨g, k, none⟩ v) := fun b cs e => by
  rw [heap_setCell_other _ _ _ _ (show b ≠ g by have := heap_lt e; omega)]
  exact h b cs e
theorem KeptM.later {w w' : World} {g k : Nat} {v : Value} (h : KeptM w w') (hg : w.heap.size ≤ g) : KeptM w (w'.setCell ⟨g, k, none⟩ v) := fun b es ck e => by
  rw [heap_setCell_other _ _ _ _ (show b ≠ g by have := heap_lt e; omega)]
  exact h b es ck e
end Go.Proofs.Ytogcecfeofbbnaa
end

section
/- Two appends of one statement: what they leave. -/
namespace Go.Proofs.Ytogcecfeofbbnaa
open Go.RowKit

/-- append at a step of a region that draws; what it leaves is known by a property. -/
theorem step_appX {P : Program} {ops : Array Oper} {o : Oper} {a : Act} {w : World} {K : Act → World → Prop} {Q : Exit → Act → World → Prop} {E : Prop} (hgd : o.guard = none) (s x : Operand) (t tn : TypeId)
    (ho : o.op = .call { callee := .builtin .append, args := #[s, x], argTypes := #[t, tn] }) (vs vx : Value) (hs : a.eval s = vs) (hx : a.eval x = vx) {len : Nat} {Post : Option Addr → Nat → World → Prop}
    (hr : ∃ A c w', (Builtin.append_ #[t, tn] o.type #[vs, vx]).run P w = .ok (.slice A len c) w' ∧ Post A c w') (h : ∀ A c w', Post A c w' → K (a.put o.dst (.slice A len c)) w') :
    if Region.wanted o (yielded ops a.tmps) = true then Oper.wp P o a w K Q else E := by
  obtain ⟨A, c, w', h1, h2⟩ := hr
  have hw : Region.wanted o (yielded ops a.tmps) = true := by simp [Region.wanted, hgd]
  rw [if_pos hw]
  exact Lib.wp_append_run w s x t tn ho vs vx hs hx _ w' h1 (h A c w' h2)
/-- Before the first append. -/
structure PreA (W : World) (base g i : Nat) (N T : List (List Int)) (AN AT : Option Addr) (cN cT g1 g2 : Nat) (xs ys : List Int) (E : List Ent) (A : Option Addr) (c gm : Nat) (w0 : World) (z : Nat) : Prop where
  blk : Mblk W g (.int .i64 i) (.int .i64 0) (.slice AN N.length cN) (.slice AT T.length cT)
  nx : OwnedL W base (.slice AN N.length cN) N
  ot : OwnedL W base (.slice AT T.length cT) T
  ap : Apart (.slice AN N.length cN) (.slice AT T.length cT)
  r1 : Owned W base (.slice (some ⟨g1, 0, none⟩) i i) xs
  r2 : Owned W base (.slice (some ⟨g2, 0, none⟩) i i) ys
  fnd : Fnd W base E A c gm
  bel : Below base w0 W
  sz : z ≤ W.heap.size
  bz : base ≤ z
  lo : ∀ k, Value.ownBlock (.slice AN N.length cN) = some k → k < z
/-- Behind the first one. -/
structure PreB (W : World) (base g i : Nat) (N T : List (List Int)) (AN AT : Option Addr) (cN cT g2 : Nat) (xs ys : List Int) (E : List Ent) (A : Option Addr) (c gm : Nat) (w0 : World) (z : Nat) (A2 : Option Addr) (c2 : Nat) : Prop where
  blk : Mblk W g (.int .i64 i) (.int .i64 0) (.slice AN N.length cN) (.slice AT T.length cT)
  nx : OwnedL W base (.slice A2 (N.length + 1) c2) (N ++ [xs])
  ot : OwnedL W base (.slice AT T.length cT) T
  ap : Apart (.slice A2 (N.length + 1) c2) (.slice AT T.length cT)
  r2 : Owned W base (.slice (some ⟨g2, 0, none⟩) i i) ys
  fnd : Fnd W base E A c gm
  bel : Below base w0 W
  sz : z ≤ W.heap.size
  bz : base ≤ z
/-- Behind both. -/
structure PreC (W : World) (base g i : Nat) (N T : List (List Int)) (AN AT : Option Addr) (cN cT : Nat) (xs ys : List Int) (E : List Ent) (A : Option Addr) (c gm : Nat) (w0 : World) (A2 : Option Addr) (c2 : Nat) (A3 : Option Addr) (c3 : Nat) : Prop where
  blk : Mblk W g (.int .i64 i) (.int .i64 0) (.slice AN N.length cN) (.slice AT T.length cT)
  nx : OwnedL W base (.slice A2 (N.length + 1) c2) (N ++ [xs])
  ot : OwnedL W base (.slice A3 (T.length + 1) c3) (T ++ [ys])
  ap : Apart (.slice A2 (N.length + 1) c2) (.slice A3 (T.length + 1) c3)
  fnd : Fnd W base E A c gm
  bel : Below base w0 W
section
variable {W W' w0 : World} {base g i g1 g2 gb : Nat} {N T : List (List Int)} {AN AT A A2 : Option Addr} {cN cT c gm z c2 : Nat} {xs ys : List Int} {E : List Ent}
theorem PreA.kept (h : PreA W base g i N T AN AT cN cT g1 g2 xs ys E A c gm w0 z) (hb : Below W.heap.size W W') : PreA W' base g i N T AN AT cN cT g1 g2 xs ys E A c gm w0 z :=
  ⟨h.blk.on hb, h.nx.kept hb, h.ot.kept hb, h.ap, h.r1.kept hb, h.r2.kept hb, h.fnd.kept hb, h.bel.trans (hb.mono (Nat.le_trans h.bz h.sz)), Nat.le_trans h.sz hb.size, h.bz, h.lo⟩
theorem PreB.kept (h : PreB W base g i N T AN AT cN cT g2 xs ys E A c gm w0 z A2 c2) (hb : Below W.heap.size W W') : PreB W' base g i N T AN AT cN cT g2 xs ys E A c gm w0 z A2 c2 :=
  ⟨h.blk.on hb, h.nx.kept hb, h.ot.kept hb, h.ap, h.r2.kept hb, h.fnd.kept hb, h.bel.trans (hb.mono (Nat.le_trans h.bz h.sz)), Nat.le_trans h.sz hb.size, h.bz⟩
theorem PreA.drew (h : PreA W base g i N T AN AT cN cT g1 g2 xs ys E A c gm w0 z) : PreA W.drew base g i N T AN AT cN cT g1 g2 xs ys E A c gm w0 z := h.kept (below_drewN (Below.refl _ _) 1)
theorem PreA.alloc (h : PreA W base g i N T AN AT cN cT g1 g2 xs ys E A c gm w0 z) {o : Obj} : PreA (W.alloc o) base g i N T AN AT cN cT g1 g2 xs ys E A c gm w0 z := h.kept (alloc_below _ _)
theorem PreB.drew (h : PreB W base g i N T AN AT cN cT g2 xs ys E A c gm w0 z A2 c2) : PreB W.drew base g i N T AN AT cN cT g2 xs ys E A c gm w0 z A2 c2 := h.kept (below_drewN (Below.refl _ _) 1)
theorem PreB.alloc (h : PreB W base g i N T AN AT cN cT g2 xs ys E A c gm w0 z A2 c2) {o : Obj} : PreB (W.alloc o) base g i N T AN AT cN cT g2 xs ys E A c gm w0 z A2 c2 := h.kept (alloc_below _ _)
/-- Cells of later blocks. -/
def Lat (z : Nat) (W W' : World) : Prop := ∀ b k v, z ≤ b → W.cell? ⟨b, k, none⟩ = some v → W'.cell? ⟨b, k, none⟩ = some v
set_option maxRecDepth 100000 in
theorem PreA.app (h : PreA W base g i N T AN AT cN cT g1 g2 xs ys E A c gm w0 z) (hgb : W.cell? ⟨gb, 0, none⟩ = some (.slice (some ⟨g1, 0, none⟩) i i)) (hl : N.length < 1759218604441) :
    ∃ A2 c2 w', (Builtin.append_ #[22, 22] 22 #[.slice AN N.length cN, .slice (some ⟨gb, 0, none⟩) 1 1]).run Try.prog W = .ok (.slice A2 (N.length + 1) c2) w' ∧
      (PreB w' base g i N T AN AT cN cT g2 xs ys E A c gm w0 z A2 c2 ∧ Lat z W w') := by
  have hbz := Nat.le_trans h.bz h.sz
  obtain ⟨A2, c2, w', hr, o, b, kt, kb, mv, sz⟩ := run_append_listG h.nx h.r1 hgb hbz hl
  refine ⟨A2, c2, w', hr, ⟨h.blk.keptT (kt _ (by decide)), o, h.ot.keptB kb h.ap (kt _ (by decide)), h.ap.moved mv h.ot, h.r2.keptT (kt _ (by decide)), h.fnd.mv (kt _ (by decide)) (kb.maps h.nx), h.bel.trans b, Nat.le_trans h.sz sz, h.bz⟩, fun b' k v hb' hv => ?_⟩
  have hlt := World.block_lt_of_cell? W _ hv
  obtain ⟨ob, hob⟩ : ∃ ob, W.heap[b']? = some ob := ⟨W.heap[b'], by simp [show b' < W.heap.size from hlt]⟩
  have h2 := kb b' ob hob fun e => by have := h.lo b' e; omega
  rw [World.cell?_of_block (a := ⟨b', k, none⟩) (h2.trans hob.symm)]
  exact hv
set_option maxRecDepth 100000 in
theorem PreB.app (h : PreB W base g i N T AN AT cN cT g2 xs ys E A c gm w0 z A2 c2) (hgb : W.cell? ⟨gb, 0, none⟩ = some (.slice (some ⟨g2, 0, none⟩) i i)) (hl : T.length < 1759218604441) :
    ∃ A3 c3 w', (Builtin.append_ #[22, 22] 22 #[.slice AT T.length cT, .slice (some ⟨gb, 0, none⟩) 1 1]).run Try.prog W = .ok (.slice A3 (T.length + 1) c3) w' ∧
      PreC w' base g i N T AN AT cN cT xs ys E A c gm w0 A2 c2 A3 c3 := by
  have hbz := Nat.le_trans h.bz h.sz
  obtain ⟨A3, c3, w', hr, o, b, kt, kb, mv, sz⟩ := run_append_listG h.ot h.r2 hgb hbz hl
  exact ⟨A3, c3, w', hr, h.blk.keptT (kt _ (by decide)), h.nx.keptB kb h.ap.symm (kt _ (by decide)), o, (h.ap.symm.moved mv h.nx).symm, h.fnd.mv (kt _ (by decide)) (kb.maps h.ot), h.bel.trans b⟩
end
end Go.Proofs.Ytogcecfeofbbnaa
end
