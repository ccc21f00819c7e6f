/- Lemmas of the proofs of this seat, of the parts Sqm, Revi, Accp, Fstw, Eqdp. Conditions: none. -/
import Derived.Test.YtogcecfeofbbnaaNab
import Derived.Test.YtogcecfeofbbnaaNaa
import Derived.RegionTactic
import Derived.ChangeAlike
import Derived.Laws.StructEq
import Derived.Test.YtogcecfeofbbnaaNad
import Derived.BigRegion
import Derived.Deep.RegionHeld3
import Derived.Test.YtogcecfeofbbnaaNbp
section
/- The square of seen pairs. -/
namespace Go.Proofs.Ytogcecfeofbbnaa
open Go.RowKit

def isF : Value → Bool
  | .bool b => !b
  | _ => false
def allF : List Value → Bool
  | [] => true
  | v :: l => match isF v with
    | true => allF l
    | false => false
theorem allF_eq : ∀ {l : List Value}, allF l = true → l = List.replicate l.length (Value.bool false)
  | [], _ => rfl
  | v :: l, h => by
    unfold allF at h
    cases hv : isF v with
    | false => rw [hv] at h; exact absurd h (by simp)
    | true =>
      rw [hv] at h
      have h1 := allF_eq (l := l) h
      cases v with
      | bool b => cases b with
        | false => rw [List.length_cons, List.replicate_succ, ← h1]
        | true => simp [isF] at hv
      | _ => simp [isF] at hv
theorem sq_all : allF Try.zeroCells142.toList = true := by kernel_rfl
theorem sq_zero : Try.zeroCells142 = ((List.replicate 16384 false).map Value.bool).toArray := by
  apply Array.ext'
  have h := allF_eq sq_all
  rw [Array.length_toList, Try.zeroCells142_size] at h
  rw [h, List.map_replicate]
/-- A square of truth values as cells. -/
def sqOf (f : Nat → Nat → Bool) : List Bool := (List.range 16384).map fun k => f (k / 128) (k % 128)
theorem sqOf_len (f : Nat → Nat → Bool) : (sqOf f).length = 16384 := by simp [sqOf]
theorem sqOf_at (f : Nat → Nat → Bool) {p q : Nat} (hp : p < 128) (hq : q < 128) : (sqOf f)[p * 128 + q]? = some (f p q) := by
  unfold sqOf
  rw [List.getElem?_map, List.getElem?_range (by omega)]
  show some (f ((p * 128 + q) / 128) ((p * 128 + q) % 128)) = _
  rw [show (p * 128 + q) / 128 = p by omega, show (p * 128 + q) % 128 = q by omega]
theorem sqOf_set (f : Nat → Nat → Bool) {p q : Nat} (hq : q < 128) : (sqOf f).set (p * 128 + q) true = sqOf fun a b => f a b || (a == p && b == q) := by
  apply List.ext_getElem
  · simp [sqOf]
  · intro k h1 h2
    have hk : k < 16384 := by simpa [sqOf] using h2
    rw [List.getElem_set]
    by_cases e : p * 128 + q = k
    · subst e
      simp only [sqOf, if_true, List.getElem_map, List.getElem_range]
      rw [show (p * 128 + q) / 128 = p by omega, show (p * 128 + q) % 128 = q by omega]
      simp
    · rw [if_neg e]
      simp only [sqOf, List.getElem_map, List.getElem_range]
      have : ¬ (k / 128 = p ∧ k % 128 = q) := by omega
      by_cases h3 : k / 128 = p
      · have h4 : ¬ k % 128 = q := fun h => this ⟨h3, h⟩
        simp [h4]
      · simp [h3]
/-- The block of the seen pairs. -/
def Sq (w : World) (g : Nat) (f : Nat → Nat → Bool) : Prop := w.heap[g]? = some (.cells ((sqOf f).map Value.bool).toArray 142 (0, 0))
section
variable {w w' : World} {g : Nat} {f : Nat → Nat → Bool}
theorem Sq.at_ (h : Sq w g f) {p q : Nat} (hp : p < 128) (hq : q < 128) : w.cell? ⟨g, p * 128 + q, none⟩ = some (.bool (f p q)) ∧ w.frozen? ⟨g, p * 128 + q, none⟩ = false := by
  refine ⟨?_, frozen_of_row w g _ _ _ h⟩
  rw [cell_of_row w g (p * 128 + q) _ _ (0, 0) h]
  simp [sqOf_at f hp hq]
theorem Sq.set (h : Sq w g f) {p q : Nat} (hq : q < 128) : Sq (w.setCell ⟨g, p * 128 + q, none⟩ (.bool true)) g fun a b => f a b || (a == p && b == q) := by
  have := heap_setCell_same w g (p * 128 + q) _ _ (Value.bool true) h
  unfold Sq
  rw [this, ← sqOf_set f hq]
  simp [List.map_set]
theorem Sq.kept (h : Sq w g f) (hb : Below w.heap.size w w') : Sq w' g f := (hb.block g (heap_lt h)).trans h
theorem Sq.keptT (h : Sq w g f) (hk : KeptT 142 w w') : Sq w' g f := hk g _ h
end
theorem seenE {E : List Ent} {e : Ent} (p q : Nat) (h1 : e.p = p) (h2 : e.q = q) : (fun a b => decide (hasE E a b) || (a == p && b == q)) = fun a b => decide (hasE (E ++ [e]) a b) := by
  funext a b
  have : hasE (E ++ [e]) a b ↔ hasE E a b ∨ (a = p ∧ b = q) := by
    unfold hasE
    rw [List.map_append, List.mem_append]
    constructor
    · rintro (h | h)
      · exact .inl h
      · simp [Ent.pr, h1, h2] at h; exact .inr h
    · rintro (h | ⟨rfl, rfl⟩)
      · exact .inl h
      · exact .inr (by simp [Ent.pr, h1, h2])
  by_cases h3 : hasE E a b
  · simp [h3, this]
  · by_cases h4 : a = p ∧ b = q
    · obtain ⟨rfl, rfl⟩ := h4; simp [this]
    · have h5 : ¬ hasE (E ++ [e]) a b := fun h => (this.1 h).elim h3 h4
      rw [decide_eq_false h3, decide_eq_false h5, Bool.false_or]
      by_cases h6 : a = p
      · have h7 : ¬ b = q := fun h => h4 ⟨h6, h⟩
        simp [h7]
      · simp [h6]
theorem sq_nil : (fun (_ _ : Nat) => false) = fun a b => decide (hasE [] a b) := by
  funext a b; simp [hasE]
theorem Sq.new (w : World) : Sq (w.alloc (.cells Try.zeroCells142 142)) w.heap.size (fun _ _ => false) := by
  have := heap_alloc_new w (.cells Try.zeroCells142 142)
  unfold Sq
  rw [this, sq_zero]
  have e : sqOf (fun _ _ => false) = List.replicate 16384 false := by
    unfold sqOf
    rw [List.map_const', List.length_range]
  rw [e]
end Go.Proofs.Ytogcecfeofbbnaa
end

section
/- slices.Reverse of an owned row. -/
namespace Go.Proofs.Ytogcecfeofbbnaa
open Go.RowKit

/-- The list when t numbers from each end have been exchanged. -/
def rv (xs : List Int) (t : Nat) : List Int := (List.range xs.length).map fun m => if m < t ∨ xs.length ≤ m + t then xs.getD (xs.length - 1 - m) 0 else xs.getD m 0

theorem rv_len (xs : List Int) (t : Nat) : (rv xs t).length = xs.length := by unfold rv; simp
theorem rv_get (xs : List Int) (t m : Nat) (h : m < xs.length) : (rv xs t)[m]? = some (if m < t ∨ xs.length ≤ m + t then xs.getD (xs.length - 1 - m) 0 else xs.getD m 0) := by
  unfold rv; simp [h]
theorem rv_zero (xs : List Int) : rv xs 0 = xs := by
  apply List.ext_getElem?
  intro m
  rcases Nat.lt_or_ge m xs.length with h | h
  · rw [rv_get xs 0 m h, if_neg (by omega)]; simp [List.getD, h]
  · rw [List.getElem?_eq_none (by rw [rv_len]; exact h), List.getElem?_eq_none h]
theorem rv_end (xs : List Int) (t : Nat) (ht : xs.length ≤ 2 * t + 1) : rv xs t = xs.reverse := by
  apply List.ext_getElem?
  intro m
  rcases Nat.lt_or_ge m xs.length with h | h
  · rw [rv_get xs t m h, List.getElem?_reverse h]
    have h1 : xs.length - 1 - m < xs.length := by omega
    by_cases hc : m < t ∨ xs.length ≤ m + t
    · rw [if_pos hc]; simp [List.getD, h1]
    · rw [if_neg hc]
      have : xs.length - 1 - m = m := by omega
      rw [this]; simp [List.getD, h]
  · rw [List.getElem?_eq_none (by rw [rv_len]; exact h), List.getElem?_eq_none (by simpa using h)]
theorem rv_lo (xs : List Int) (t : Nat) (h : 2 * t + 1 < xs.length) : (rv xs t).getD t 0 = xs[t]?.getD 0 := by
  rw [List.getD, rv_get xs t t (by omega), if_neg (by omega)]; simp
theorem rv_hi (xs : List Int) (t : Nat) (h : 2 * t + 1 < xs.length) : (rv xs t).getD (xs.length - 1 - t) 0 = xs[xs.length - 1 - t]?.getD 0 := by
  rw [List.getD, rv_get xs t _ (by omega), if_neg (by omega)]; simp
theorem rv_step (xs : List Int) (t : Nat) (h : 2 * t + 1 < xs.length) : ((rv xs t).set t (xs[xs.length - 1 - t]?.getD 0)).set (xs.length - 1 - t) (xs[t]?.getD 0) = rv xs (t + 1) := by
  apply List.ext_getElem?
  intro m
  rcases Nat.lt_or_ge m xs.length with hm | hm
  · rw [rv_get xs (t + 1) m hm, List.getElem?_set, List.getElem?_set, rv_get xs t m hm]
    simp only [List.length_set, rv_len]
    by_cases h1 : xs.length - 1 - t = m
    · rw [if_pos h1, if_pos (by omega), if_pos (by omega)]
      have : xs.length - 1 - m = t := by omega
      rw [this]; simp
    · rw [if_neg h1]
      by_cases h2 : t = m
      · rw [if_pos h2, if_pos (by omega), if_pos (by omega), h2]; simp
      · rw [if_neg h2]
        by_cases h3 : m < t ∨ xs.length ≤ m + t
        · rw [if_pos h3, if_pos (by omega)]
        · rw [if_neg h3, if_neg (by omega)]
  · rw [List.getElem?_eq_none (by simpa [rv_len] using hm), List.getElem?_eq_none (by rw [rv_len]; exact hm)]

set_option maxHeartbeats 1000000 in
theorem reverse (A : Option Addr) (n c base : Nat) (xs : List Int) (w : World) (hm : n ≤ 17592186044416) (h : Owned w base (.slice A n c) xs) :
    Calls Try.prog 125 #[.slice A n c] w fun e w' => e = .returned (.tuple #[]) ∧ Owned w' base (.slice A n c) xs.reverse ∧ Below base w w' := by
  have hn : xs.length = n := by obtain ⟨A', c', e⟩ := h.form; cases e; rfl
  have L := Lib.hid hn
  rw [← rv_zero xs] at h
  clear hn
  go_enter Try.func125, Try.ntmps125
  go_wp2
  go_loopw [2, 3] (fun i j wr => ∃ (t : Nat) (jj : Int), (2 * t ≤ n + 1) ∧ i = .int .i64 t ∧ jj = (n : Int) - 1 - t ∧ j = .int .i64 jj ∧ Owned wr base (.slice A n c) (rv xs t) ∧ Below base w wr) (fun i _ _ => n - (intOf i).toNat)
  case atStart => exact ⟨0, _, by omega, rfl, by simp, rfl, h, Below.refl _ _⟩
  case round =>
    clear h
    obtain ⟨t, jj, ht, rfl, hjj, rfl, hown, hbr⟩ := hrel
    by_cases hlt : 2 * t + 1 < n
    · obtain ⟨q, hq⟩ : ∃ q : Nat, q = n - 1 - t := ⟨_, rfl⟩
      obtain rfl : jj = (q : Int) := by omega
      have hqn : q < n := by omega
      have htq : t < q := by omega
      have htn : t < n := by omega
      obtain ⟨g, hA, hg1, hg2, hfr⟩ := hown.head (by omega)
      subst hA
      have hI := hown.ints (by rw [rv_len, L.out]; exact hm)
      obtain ⟨g', o', e, _, hc1⟩ := hI.at_ (k := t) (by omega)
      cases e
      obtain ⟨g', o', e, _, hc2⟩ := hI.at_ (k := q) (by omega)
      cases e
      have hst := (hown.stored t (xs[q]?.getD 0)).stored q (xs[t]?.getD 0)
      have hstep := rv_step xs t (by rw [L.out]; exact hlt)
      have h1 := rv_lo xs t (by rw [L.out]; exact hlt)
      have h2 := rv_hi xs t (by rw [L.out]; exact hlt)
      rw [L.out, ← hq] at hstep h2
      rw [h1, Nat.zero_add] at hc1
      rw [h2, Nat.zero_add] at hc2
      rw [hstep] at hst
      have HST := Lib.hid hst
      have HQ := Lib.hid hq
      have f1 := hfr t
      have f2 := hfr q
      clear hstep h1 h2 hI hfr hst hq hjj hown
      go_wp2
      go_region
      go_wp2
      go_roundw
      case rel => exact ⟨t + 1, _, by omega, by go_num, by have := HQ.out; omega, rfl, HST.out, ((hbr.setCell (by exact hg1) _).setCell (by exact hg1) _).drew⟩
      case measure => simp [intOf]; omega
    · have hend := Lib.hid (rv_end xs t (by rw [L.out]; omega))
      have hge : jj ≤ (t : Int) := by omega
      clear hjj
      go_wp2
      go_end0
      exact ⟨rfl, by rw [← hend.out]; exact hown, hbr⟩
end Go.Proofs.Ytogcecfeofbbnaa
end

section
/- The word of an arrival. -/
namespace Go.Proofs.Ytogcecfeofbbnaa
open Go.RowKit

theorem infoa : (Try.prog.info? 139).map (fun i => (i.zero, i.size, i.bytes)) = some (some (.agg #[.int .i64 0, .int .i64 0, .int .i64 0, .int .i64 0]), 4, 32) := by kernel_rfl
def cellsA (e : Ent) : List Value := [.int .i64 e.p, .int .i64 e.q, .int .i64 e.j, .int .i64 e.x]
theorem cellsA_at {E : List Ent} {k : Nat} (hk : k < E.length) : (E.map cellsA).getD k [] = cellsA (E.getD k Ent.zero) := by
  rw [List.getD_eq_getElem?_getD, List.getD_eq_getElem?_getD, List.getElem?_map, List.getElem?_eq_getElem hk]; rfl
/-- A row of arrivals in its block, to be read. -/
def Arv (w : World) (g : Nat) (E : List Ent) : Prop := g < w.heap.size ∧ ∀ k, k < E.length → w.cell? ⟨g, k * 4, none⟩ = some (.int .i64 (E.getD k Ent.zero).p) ∧ w.cell? ⟨g, k * 4 + 1, none⟩ = some (.int .i64 (E.getD k Ent.zero).q) ∧ w.cell? ⟨g, k * 4 + 2, none⟩ = some (.int .i64 (E.getD k Ent.zero).j) ∧ w.cell? ⟨g, k * 4 + 3, none⟩ = some (.int .i64 (E.getD k Ent.zero).x)
theorem Arv.below {w w' : World} {g : Nat} {E : List Ent} (h : Arv w g E) (hb : Below w.heap.size w w') : Arv w' g E := by
  refine ⟨Nat.lt_of_lt_of_le h.1 hb.size, fun k hk => ?_⟩
  obtain ⟨a, b, c, d⟩ := h.2 k hk
  exact ⟨(hb.cell (block_lt a)).trans a, (hb.cell (block_lt b)).trans b, (hb.cell (block_lt c)).trans c, (hb.cell (block_lt d)).trans d⟩
theorem Rws.arv {w : World} {base : Nat} {v : Value} {E : List Ent} (h : Rws w base 139 4 v (E.map cellsA)) (hE : 0 < E.length) : ∃ g c, v = .slice (some ⟨g, 0, none⟩) E.length c ∧ base ≤ g ∧ Arv w g E := by
  obtain ⟨g, c, rfl, hb, hg, _, hc⟩ := h.at_ (by rw [List.length_map]; exact hE)
  rw [List.length_map] at hc ⊢
  refine ⟨g, c, rfl, hb, hg, fun k hk => ?_⟩
  have h0 := hc k 0 hk (by decide)
  have h1 := hc k 1 hk (by decide)
  have h2 := hc k 2 hk (by decide)
  have h3 := hc k 3 hk (by decide)
  rw [cellsA_at hk] at h0 h1 h2 h3
  exact ⟨h0, h1, h2, h3⟩
theorem Ens.only {n m s t : Nat} {E : List Ent} (h : Ens n m s t E) {k : Nat} (hk : k < E.length) (h0 : 0 < k) : ¬ ((E.getD k Ent.zero).p = s ∧ (E.getD k Ent.zero).q = t) := by
  rintro ⟨h1, h2⟩
  obtain ⟨h3, h4, _⟩ := h.z
  have hnd := h.nd
  have hl : (E.map Ent.pr).length = E.length := by simp
  have e : (E.map Ent.pr)[k]'(by omega) = (E.map Ent.pr)[0]'(by omega) := by
    rw [List.getD_eq_getElem?_getD, List.getElem?_eq_getElem hk] at h1 h2
    rw [List.getD_eq_getElem?_getD, List.getElem?_eq_getElem h.ne] at h3 h4
    simp only [List.getElem_map]
    exact Prod.ext (h1.trans h3.symm) (h2.trans h4.symm)
  exact (List.pairwise_iff_getElem.1 hnd 0 k (by omega) (by omega) h0) e.symm

/-- A pair in its own block. -/
def Pb (w : World) (b p q : Nat) : Prop := w.heap[b]? = some (.cells #[.int .i64 p, .int .i64 q] 114 (0, 0))
theorem Pb.cells {w : World} {b p q : Nat} (h : Pb w b p q) : w.cell? ⟨b, 0, none⟩ = some (.int .i64 p) ∧ w.cell? ⟨b, 1, none⟩ = some (.int .i64 q) := by
  refine ⟨?_, ?_⟩
  · rw [cell_of_row w b 0 _ _ (0, 0) h]; rfl
  · rw [cell_of_row w b 1 _ _ (0, 0) h]; rfl
theorem Pb.below {w w' : World} {b p q : Nat} (h : Pb w b p q) (hb : Below w.heap.size w w') : Pb w' b p q := (hb.block b (heap_lt h)).trans h
theorem Pb.new (w : World) (p q : Nat) : Pb (w.alloc (.cells #[.int .i64 p, .int .i64 q] 114)) w.heap.size p q := heap_alloc_new w _

set_option maxHeartbeats 4000000 in
set_option maxRecDepth 100000 in
theorem paccess (g c k n m s t : Nat) (E : List Ent) (w : World) (hR : Arv w g E) (hE : Ens n m s t E) (hk : k < E.length) (hl : E.length ≤ 1048576) :
    Calls Try.prog 113 #[.slice (some ⟨g, 0, none⟩) E.length c, .int .i64 k] w fun e w' => ∃ A' c', e = .returned (.slice A' (E.getD k Ent.zero).w.length c') ∧ Owned w' w.heap.size (.slice A' (E.getD k Ent.zero).w.length c') (E.getD k Ent.zero).w ∧ Below w.heap.size w w' := by
  have h0 := hE.ne
  obtain ⟨a0, a1, _, _⟩ := hR.2 0 h0
  obtain ⟨z0, z1, z2⟩ := hE.z
  rw [z0] at a0
  rw [z1] at a1
  rw [Nat.zero_mul] at a0
  rw [Nat.zero_mul] at a1
  have a1 : w.cell? ⟨g, 1, none⟩ = some (.int .i64 t) := a1
  clear z0 z1
  obtain ⟨W, hW⟩ : ∃ W, W = (E.getD k Ent.zero).w := ⟨_, rfl⟩
  have HWW := Lib.hid hW
  rw [← hW]
  clear hW
  have HWL := Lib.hid (show W.length ≤ 1048576 by rw [HWW.out]; have := hE.wl k hk; omega)
  have hwl := HWL.out
  have HR := Lib.hid hR
  have HE := Lib.hid hE
  have HZ2 := Lib.hid z2
  clear hR hE z2
  go_enter Try.func113, Try.ntmps113
  go_wp2
  clear a0 a1
  go_loopw [1, 5, 6] (fun v1 v5 v6 wr => ∃ (j : Nat) (L : List Int) (A2 : Option Addr) (c2 b : Nat), v1 = .int .i64 j ∧ v5 = .slice A2 L.length c2 ∧ v6 = .pointer (some ⟨b, 0, none⟩) ∧ j < E.length ∧ W = (E.getD j Ent.zero).w ++ L.reverse ∧ Owned wr w.heap.size (.slice A2 L.length c2) L ∧ Pb wr b s t ∧ Below w.heap.size w wr) (fun v1 _ _ _ => (intOf v1).toNat)
  case atStart => exact ⟨k, [], none, 0, w.heap.size, rfl, rfl, rfl, hk, by rw [HWW.out]; simp, World.ownsRow_nil _ _ _ _, Pb.new _ _ _, alloc_below _ _⟩
  case round =>
    obtain ⟨j, L, A2, c2, b, rfl, rfl, rfl, hj, hW, hO, hP, hbr⟩ := hrel
    obtain ⟨a0, a1, a2, a3⟩ := (HR.out.below hbr).2 j hj
    obtain ⟨b0, b1⟩ := hP.cells
    have hLW : L.length ≤ W.length := by rw [hW, List.length_append, List.length_reverse]; omega
    have HW := Lib.hid hW
    have HO := Lib.hid hO
    have HP := Lib.hid hP
    have HBR := Lib.hid hbr
    clear hW hO hbr hP
    by_cases hj0 : j = 0
    · subst hj0
      have hWL : W = L.reverse := by rw [HW.out, HZ2.out]; rfl
      have HWL2 := Lib.hid hWL
      obtain ⟨y1, y2, _⟩ := HE.out.z
      rw [y1] at a0
      rw [y2] at a1
      clear y1 y2 hWL a2 a3
      rw [Nat.zero_mul] at a0 a1
      have a1 : wr.cell? ⟨g, 1, none⟩ = some (.int .i64 t) := a1
      have h0' : (0 : Nat) < E.length := h0
      go_wp2
      go_quiet (fail)
      go_wp2_with fail
      refine (reverse A2 L.length c2 w.heap.size L _ (by omega) (HO.out.kept (below_drewN (Below.refl _ wr) _))).mono ?_
      rintro e w2 ⟨rfl, hO2, hb2⟩
      rw [← HWL2.out] at hO2
      have hbb := (below_drewN HBR.out _).trans hb2
      have hll : L.length = W.length := by rw [HWL2.out, List.length_reverse]
      go_wp2
      go_ret
      exact ⟨A2, c2, by rw [← hll]; rfl, by rw [← hll]; exact hO2, hbb⟩
    · have hno := HE.out.only hj (by omega)
      obtain ⟨hb1, hb2⟩ := HE.out.bk j (by omega) hj
      have HB1 := Lib.hid hb1
      have HB2 := Lib.hid hb2
      clear hb1 hb2
      generalize (E.getD j Ent.zero).p = p at a0 hno
      generalize (E.getD j Ent.zero).q = q at a1 hno
      generalize hX : (E.getD j Ent.zero).x = x at a3 HB2
      generalize hJ : (E.getD j Ent.zero).j = jj at a2 HB1 HB2
      have HJ := Lib.hid hJ
      clear hX hJ
      have hlj : jj < E.length := by have := HB1.out; omega
      have HLJ := Lib.hid hlj
      have hcase : ((p : Int) == (s : Int)) = false ∨ (((p : Int) == (s : Int)) = true ∧ ((q : Int) == (t : Int)) = false) := by
        by_cases h1 : p = s
        · exact .inr ⟨by simp [h1], by rw [beq_eq_false_iff_ne]; intro h2; exact hno ⟨h1, by omega⟩⟩
        · exact .inl (by rw [beq_eq_false_iff_ne]; omega)
      clear hno hlj
      rcases hcase with hc | ⟨hc, hc2⟩
      all_goals
        go_wp2
        go_quiet (fail)
        have bq : Below wr.heap.size wr (wr.drewN nq) := below_drewN (Below.refl _ wr) nq
        have hbq := HBR.out.trans (bq.mono HBR.out.size)
        obtain ⟨A3, c3, w3, hr, hO3, hb3, hk3⟩ := run_append_one (HO.out.kept bq) (x : Int) hbq.size (by omega)
        have HO3 := Lib.hid hO3
        have hbr3 := hbq.trans hb3
        have HP3 := Lib.hid (show Pb w3 b s t from hk3 b _ _ (HP.out.below bq) (by decide))
        obtain ⟨p0, p1⟩ := HP3.out.cells
        obtain ⟨_, _, d2, _⟩ := (HR.out.below hbr3).2 j hj
        rw [HJ.out] at d2
        have d3 := ((alloc_below w3 (.cells #[.int .i64 s, .int .i64 t] 114)).cell (block_lt d2)).trans d2
        clear d2
        have HBR3 := Lib.hid hbr3
        clear hO3 hb3 hk3 hbr3 bq hbq hc
        try clear hc2
        go_wp2_with (at_builtin; refine Lib.wpList_append_run _ rfl _ _ _ _ rfl _ _ rfl rfl _ _ hr ?_)
        go_wp2
        go_roundw
        case rel => exact ⟨jj, L ++ [(x : Int)], A3, c3, w3.heap.size, by go_num, by rw [List.length_append]; rfl, rfl, HLJ.out, by rw [HW.out, HB2.out, List.reverse_append, List.append_assoc]; rfl, by rw [List.length_append]; exact HO3.out.kept (alloc_below _ _), Pb.new _ _ _, HBR3.out.trans ((alloc_below _ _).mono HBR3.out.size)⟩
        case measure => have := HB1.out; simp [intOf]; omega
end Go.Proofs.Ytogcecfeofbbnaa
end

section
/- The first distinguishing word. -/
namespace Go.Proofs.Ytogcecfeofbbnaa
open Go.RowKit

theorem run_append_arr {w : World} {base : Nat} {v : Value} {E : List Ent} (h : Rws w base 139 4 v (E.map cellsA)) (e : Ent) (hbase : base ≤ w.heap.size) (hn : E.length < 1099511627776) :
    ∃ A c w1, (Builtin.append_ #[140, 140] 140 #[v, .slice (some ⟨w.heap.size, 0, none⟩) 1 1]).run Try.prog (w.alloc (.cells #[.int .i64 e.p, .int .i64 e.q, .int .i64 e.j, .int .i64 e.x] 139)) = .ok (.slice A (E.length + 1) c) w1 ∧
      Rws w1 base 139 4 (.slice A (E.length + 1) c) ((E ++ [e]).map cellsA) ∧ Below base w w1 ∧ ∀ t', t' ≠ 139 → KeptT t' w w1 := by
  obtain ⟨i, hi, hz0, hz1, hz2⟩ := info_parts infoa
  have hl : (E.map cellsA).length = E.length := by simp
  obtain ⟨A, c, w1, h1, h2, h3, h4⟩ := run_append_rws Try.underlying140 hi hz0 hz1 hz2 rfl (by decide) (by decide) h (cellsA e) rfl (fun u hu => by simp [cellsA] at hu; rcases hu with rfl | rfl | rfl | rfl <;> rfl) hbase (by rw [hl]; exact hn)
  rw [hl] at h1 h2
  exact ⟨A, c, w1, h1, by rw [List.map_append]; exact h2, h3, h4⟩

/-- What the search keeps in memory. -/
structure Fst (w3 W : World) (b3 gs : Nat) (v : Value) (E : List Ent) : Prop where
  row : Rws W b3 139 4 v (E.map cellsA)
  sq : Sq W gs (fun a b => decide (hasE E a b))
  bel : Below b3 w3 W
section
variable {w3 W W' : World} {b3 gs : Nat} {v : Value} {E : List Ent}
theorem Fst.on (h : Fst w3 W b3 gs v E) (hb : Below W.heap.size W W') (hz : b3 ≤ W.heap.size) : Fst w3 W' b3 gs v E := ⟨h.row.kept hb, h.sq.kept hb, h.bel.trans (hb.mono hz)⟩
theorem Fst.mark (hr : Rws W b3 139 4 v (E.map cellsA)) (hs : Sq W gs (fun a b => decide (hasE E a b))) (hb : Below b3 w3 W) (hgs : b3 ≤ gs) (e : Ent) (hq : e.q < 128) :
    Rws (W.setCell ⟨gs, e.p * 128 + e.q, none⟩ (.bool true)) b3 139 4 v (E.map cellsA) ∧ Sq (W.setCell ⟨gs, e.p * 128 + e.q, none⟩ (.bool true)) gs (fun a b => decide (hasE (E ++ [e]) a b)) ∧ Below b3 w3 (W.setCell ⟨gs, e.p * 128 + e.q, none⟩ (.bool true)) := by
  refine ⟨hr.keptT (KeptT.off hs (by decide) (.bool true)), ?_, hb.setCell (p := ⟨gs, e.p * 128 + e.q, none⟩) hgs (.bool true)⟩
  have h1 := hs.set (p := e.p) (q := e.q) hq
  rw [seenE e.p e.q rfl rfl] at h1
  exact h1
theorem Fst.push (h : Fst w3 W b3 gs v E) (hgs : b3 ≤ gs) (hz : b3 ≤ W.heap.size) (e : Ent) (hq : e.q < 128) (hn : E.length < 1099511627776) :
    ∃ A c W1, (Builtin.append_ #[140, 140] 140 #[v, .slice (some ⟨W.heap.size, 0, none⟩) 1 1]).run Try.prog ((W.setCell ⟨gs, e.p * 128 + e.q, none⟩ (.bool true)).alloc (.cells #[.int .i64 e.p, .int .i64 e.q, .int .i64 e.j, .int .i64 e.x] 139)) = .ok (.slice A (E.length + 1) c) W1 ∧
      Fst w3 W1 b3 gs (.slice A (E.length + 1) c) (E ++ [e]) ∧ KeptT 114 W W1 := by
  obtain ⟨h1, h2, h3⟩ := Fst.mark h.row h.sq h.bel hgs e hq
  have hz2 : (W.setCell ⟨gs, e.p * 128 + e.q, none⟩ (.bool true)).heap.size = W.heap.size := by simp
  obtain ⟨A, c, W1, r1, r2, r3, r4⟩ := run_append_arr h1 e (by rw [hz2]; exact hz) hn
  rw [hz2] at r1
  have hk1 : KeptT 114 W (W.setCell ⟨gs, e.p * 128 + e.q, none⟩ (.bool true)) := KeptT.off h.sq (by decide) (.bool true)
  exact ⟨A, c, W1, r1, ⟨r2, h2.keptT (r4 _ (by decide)), h3.trans r3⟩, hk1.trans (r4 _ (by decide))⟩
end

theorem Pb.made (w : World) (k p q : Nat) : Pb ((((w.alloc (.cells #[.int .i64 0, .int .i64 0] 114)).drewN k).setCell ⟨w.heap.size, 0, none⟩ (.int .i64 p)).setCell ⟨w.heap.size, 1, none⟩ (.int .i64 q)) w.heap.size p q ∧
    Below w.heap.size w ((((w.alloc (.cells #[.int .i64 0, .int .i64 0] 114)).drewN k).setCell ⟨w.heap.size, 0, none⟩ (.int .i64 p)).setCell ⟨w.heap.size, 1, none⟩ (.int .i64 q)) := by
  have h0 : ((w.alloc (.cells #[.int .i64 0, .int .i64 0] 114)).drewN k).heap[w.heap.size]? = some (.cells #[.int .i64 0, .int .i64 0] 114 (0, 0)) := heap_alloc_new w _
  refine ⟨?_, (((below_drewN (alloc_below w _) k).setCell (p := ⟨w.heap.size, 0, none⟩) (Nat.le_refl _) _).setCell (p := ⟨w.heap.size, 1, none⟩) (Nat.le_refl _) _)⟩
  exact heap_setCell_same _ _ 1 _ _ (.int .i64 q) (heap_setCell_same _ _ 0 _ _ (.int .i64 p) h0)

set_option maxHeartbeats 8000000 in
set_option maxRecDepth 100000 in
theorem pfirst (i st1 st2 n m s t : Nat) (A B C D : Option Addr) (c d c2 d2 : Nat) (nx1 ot1 nx2 ot2 : List (List Int)) (w : World) (hx1 : Lists w A n nx1) (ho1 : Lists w B n ot1) (hx2 : Lists w C m nx2) (ho2 : Lists w D m ot2) (hM : Mok i st1 n nx1 ot1) (hN : Mok i st2 m nx2 ot2) (hs : s < n) (ht : t < m) :
    Calls Try.prog 89 #[.agg #[.int .i64 i, .int .i64 st1, .slice A n c, .slice B n d], .agg #[.int .i64 i, .int .i64 st2, .slice C m c2, .slice D m d2], .agg #[.int .i64 s, .int .i64 t]] w fun e w' => ∃ A' c',
      e = .returned (.tuple #[.slice A' ((dst nx1 ot1 nx2 ot2 i n m s t).getD []).length c', .bool (dst nx1 ot1 nx2 ot2 i n m s t).isSome]) ∧ Owned w' w.heap.size (.slice A' ((dst nx1 ot1 nx2 ot2 i n m s t).getD []).length c') ((dst nx1 ot1 nx2 ot2 i n m s t).getD []) ∧ Below w.heap.size w w' := by
  have hn2 := hM.n2
  have hm2 := hN.n2
  have hi64 := hM.i2
  have hs8 : s < 128 := by omega
  have ht8 : t < 128 := by omega
  obtain ⟨R, hR⟩ : ∃ R, R = dst nx1 ot1 nx2 ot2 i n m s t := ⟨_, rfl⟩
  rw [← hR]
  have HR := Lib.hid (show srch nx1 nx2 ot1 ot2 i (n * m) [⟨s, t, 0, 0, []⟩] 0 = R from hR.symm)
  clear hR
  obtain ⟨w3, hw3⟩ : ∃ w3, w3 = ((w.alloc (.cells #[.int .i64 i, .int .i64 st1, .slice A n c, .slice B n d] 24)).alloc (.cells #[.int .i64 i, .int .i64 st2, .slice C m c2, .slice D m d2] 24)).alloc (.cells #[.int .i64 s, .int .i64 t] 114) := ⟨_, rfl⟩
  obtain ⟨w5, hw5⟩ : ∃ w5, w5 = (w3.alloc (.cells #[.int .i64 s, .int .i64 t, .int .i64 0, .int .i64 0] 139)).alloc (.cells Try.zeroCells142 142) := ⟨_, rfl⟩
  have hz3 : w3.heap.size = w.heap.size + 1 + 1 + 1 := by rw [hw3]; simp
  have hz5 : w5.heap.size = w.heap.size + 1 + 1 + 1 + 1 + 1 := by rw [hw5]; simp [hz3]
  have hb3 : Below w.heap.size w w3 := by rw [hw3]; exact bt (bt (alloc_below _ _) (alloc_below _ _)) (alloc_below _ _)
  have hb5 : Below (w.heap.size + 1 + 1 + 1) w3 w5 := by rw [hw5, ← hz3]; exact bt (alloc_below _ _) (alloc_below _ _)
  have hA3 : Mblk w3 w.heap.size (.int .i64 i) (.int .i64 st1) (.slice A n c) (.slice B n d) := by
    rw [hw3]
    refine Mblk.kept (mealy_box w (.int .i64 i) (.int .i64 st1) (.slice A n c) (.slice B n d)) (bt (alloc_below _ _) (alloc_below _ _)) (by simp)
  have hB3 : Mblk w3 (w.heap.size + 1) (.int .i64 i) (.int .i64 st2) (.slice C m c2) (.slice D m d2) := by
    rw [hw3]
    have := mealy_box (w.alloc (.cells #[.int .i64 i, .int .i64 st1, .slice A n c, .slice B n d] 24)) (.int .i64 i) (.int .i64 st2) (.slice C m c2) (.slice D m d2)
    refine Mblk.kept ?_ (alloc_below _ _) (by simp)
    simpa using this
  have hP3 : Pb w3 (w.heap.size + 1 + 1) s t := by
    rw [hw3]
    have := Pb.new ((w.alloc (.cells #[.int .i64 i, .int .i64 st1, .slice A n c, .slice B n d] 24)).alloc (.cells #[.int .i64 i, .int .i64 st2, .slice C m c2, .slice D m d2] 24)) s t
    simpa using this
  have hR5 : Rws w5 (w.heap.size + 1 + 1 + 1) 139 4 (.slice (some ⟨w.heap.size + 1 + 1 + 1, 0, none⟩) 1 1) ([(⟨s, t, 0, 0, []⟩ : Ent)].map cellsA) := by
    rw [hw5]
    have := Rws.one w3 (w.heap.size + 1 + 1 + 1) 139 (cellsA ⟨s, t, 0, 0, []⟩) (by omega)
    rw [hz3] at this
    exact this.kept (alloc_below _ _)
  have hS5 : Sq w5 (w.heap.size + 1 + 1 + 1 + 1) (fun _ _ => false) := by
    rw [hw5]
    have := Sq.new (w3.alloc (.cells #[.int .i64 s, .int .i64 t, .int .i64 0, .int .i64 0] 139))
    simpa [hz3] using this
  have hP5 : Pb w5 (w.heap.size + 1 + 1) s t := (hb5.block _ (by omega)).trans hP3
  obtain ⟨p0, p1⟩ := hP5.cells
  obtain ⟨q0, q1⟩ := hS5.at_ hs8 ht8
  have HW3 := Lib.hid hw3
  have HW5 := Lib.hid hw5
  have HA3 := Lib.hid hA3
  have HB3 := Lib.hid hB3
  have HR5 := Lib.hid hR5
  have HS5 := Lib.hid hS5
  have H3 := Lib.hid hb3
  have H5 := Lib.hid hb5
  have HZ3 := Lib.hid hz3
  have HZ5 := Lib.hid hz5
  obtain ⟨gs, hgs⟩ : ∃ gs, gs = w.heap.size + 1 + 1 + 1 + 1 := ⟨_, rfl⟩
  obtain ⟨g3, hg3⟩ : ∃ g3, g3 = w.heap.size + 1 + 1 + 1 := ⟨_, rfl⟩
  rw [← hgs] at q0 q1
  have HGS := Lib.hid hgs
  have HG3 := Lib.hid hg3
  clear hw3 hw5 hA3 hB3 hP3 hR5 hS5 hP5 hz3 hz5 hb3 hb5 hgs hg3
  go_enter Try.func89, Try.ntmps89
  go_wp2
  rw [← HW3.out, ← HW5.out, ← HGS.out, ← HG3.out]
  go_region
  have HF6 := Lib.hid (show Fst w3 ((w5.setCell ⟨gs, s * 128 + t, none⟩ (.bool true)).drew) g3 gs (.slice (some ⟨g3, 0, none⟩) 1 1) [⟨s, t, 0, 0, []⟩] by
    have h1 := HS5.out
    rw [sq_nil, ← HGS.out] at h1
    have h2 := h1.set (p := s) (q := t) ht8
    rw [seenE (e := ⟨s, t, 0, 0, []⟩) s t rfl rfl] at h2
    refine ⟨?_, h2, ?_⟩
    · have h3 := HR5.out
      rw [← HG3.out] at h3
      exact (h3.keptT (KeptT.off h1 (by decide) (.bool true))).keptT (KeptT.of_below ((Below.refl _ _).drew))
    · have h4 := H5.out
      rw [← HG3.out] at h4
      exact (h4.setCell (p := ⟨gs, s * 128 + t, none⟩) (by show g3 ≤ gs; rw [HGS.out, HG3.out]; omega) (.bool true)).drew)
  have hg3 : w.heap.size + 3 = g3 := by rw [HG3.out]
  have hgs3 : g3 ≤ gs := by rw [HGS.out, HG3.out]; omega
  have hz3 : w3.heap.size = g3 := by rw [HZ3.out, HG3.out]
  have HA3 := Lib.hid (show Mblk w3 w.heap.size (.int .i64 i) (.int .i64 st1) (.slice A n c) (.slice B n d) from HA3.out)
  clear p0 p1 q0 q1 HS5 HR5 H5 HZ5 HW5 HW3 HZ3
  go_wp2
  generalize (w5.setCell ⟨gs, s * 128 + t, none⟩ (.bool true)).drew = w6 at HF6
  go_loopw [8, 10] (fun v8 v10 wr => ∃ (j : Nat) (E : List Ent) (A' : Option Addr) (c' : Nat), v10 = .int .i64 j ∧ v8 = .slice A' E.length c' ∧ j ≤ E.length ∧ Ens n m s t E ∧ srch nx1 nx2 ot1 ot2 i (n * m) E j = R ∧ Fst w3 wr g3 gs (.slice A' E.length c') E) (fun _ v10 _ => n * m - (intOf v10).toNat)
  case atStart => exact ⟨0, [⟨s, t, 0, 0, []⟩], some ⟨g3, 0, none⟩, 1, rfl, rfl, Nat.zero_le _, Ens.one hs ht, HR.out, HF6.out⟩
  case round =>
    obtain ⟨j, E, A', c', rfl, rfl, hjl, hE, hS, hF⟩ := hrel
    have HE := Lib.hid hE
    have HS := Lib.hid hS
    have hlen := hE.len
    have hnm : n * m ≤ 16384 := Nat.mul_le_mul hn2 hm2
    have hzr : g3 ≤ wr.heap.size := by have := hF.bel.size; omega
    by_cases hlt : j < E.length
    · obtain ⟨g, cg, eA, hg, hArv⟩ := hF.row.arv (by omega)
      cases eA
      have ha := hArv.2 j hlt
      have hpq := hE.lt _ (getDE_mem hlt)
      obtain ⟨e, he⟩ : ∃ e, e = E.getD j Ent.zero := ⟨_, rfl⟩
      rw [← he] at ha hpq
      have HEE := Lib.hid he
      obtain ⟨a0, a1, _, _⟩ := ha
      obtain ⟨hp, hq⟩ := hpq
      obtain ⟨w7, hw7⟩ : ∃ w7, w7 = wr.alloc (.cells #[.int .i64 e.p, .int .i64 e.q] 114) := ⟨_, rfl⟩
      have hb7 := alloc_below wr (.cells #[.int .i64 e.p, .int .i64 e.q] 114)
      have hP7 := Pb.new wr e.p e.q
      rw [← hw7] at hb7 hP7
      have hF7 := hF.on hb7 hzr
      obtain ⟨k0, _⟩ := (HA3.out.kept hF7.bel (by omega)).cells
      rw [hw7] at k0
      obtain ⟨gp, hgp⟩ : ∃ gp, gp = wr.heap.size := ⟨_, rfl⟩
      rw [← hgp] at hP7
      have HW7 := Lib.hid hw7
      have HP7 := Lib.hid hP7
      have HF7 := Lib.hid hF7
      have HGP := Lib.hid hgp
      have hzg : g3 ≤ gp := by omega
      clear hE hS hF hArv he hw7 hb7 hP7 hF7 hgp
      go_wp2
      rw [← HW7.out, ← HGP.out]
      clear a0 a1 k0 
      have HI := Lib.hid (show ∀ x, x ≤ i → Ens n m s t (addS nx1 nx2 j e E x) by rw [HEE.out]; exact addS_ens hM hN HE.out hlt)
      go_loopw [8, 36] (fun v8 v36 wq => ∃ (x : Nat) (A2 : Option Addr) (c2 : Nat), x ≤ i ∧ v36 = .int .i64 x ∧ v8 = .slice A2 (addS nx1 nx2 j e E x).length c2 ∧ fD ot1 ot2 e x = none ∧ Fst w3 wq g3 gs (.slice A2 (addS nx1 nx2 j e E x).length c2) (addS nx1 nx2 j e E x) ∧ Pb wq gp e.p e.q) (fun _ v36 _ => i - (intOf v36).toNat)
      case atStart => exact ⟨0, _, _, Nat.zero_le _, rfl, rfl, rfl, HF7.out, HP7.out⟩
      case round =>
        obtain ⟨x, A2, c3, hx, rfl, rfl, hfd, hF2, hP2⟩ := hrel
        have hE2 := HI.out x hx
        have hlen2 := hE2.len
        obtain ⟨T, hT⟩ := addS_pre (nx1 := nx1) (nx2 := nx2) j e E x
        have hj2 : j < (addS nx1 nx2 j e E x).length := by rw [hT, List.length_append]; omega
        have he2 : (addS nx1 nx2 j e E x).getD j Ent.zero = e := by rw [hT, getDE_pre hlt]; exact HEE.out.symm
        have HE2 := Lib.hid hE2
        have Hj2 := Lib.hid hj2
        have He2 := Lib.hid he2
        have HFD := Lib.hid hfd
        have HF2 := Lib.hid hF2
        have HP2 := Lib.hid hP2
        have hzq : g3 ≤ wr.heap.size := by have := hF2.bel.size; omega
        have hbw : Below w.heap.size w wr := H3.out.trans (hF2.bel.mono (by omega))
        clear hE2 hT hj2 he2 hfd hF2 hP2
        by_cases hxi : x < i
        · obtain ⟨k0, k1, k2, k3, _⟩ := (HA3.out.kept HF2.out.bel (by omega)).cells
          obtain ⟨l0, l1, l2, l3, _⟩ := (HB3.out.kept HF2.out.bel (by omega)).cells
          obtain ⟨p0, p1⟩ := HP2.out.cells
          obtain ⟨gB, oB, B1, nB, cB, eB, hgB, hdB, hrB⟩ := ho1.at_ hp
          obtain ⟨gD, oD, D1, nD, cD, eD, hgD, hdD, hrD⟩ := ho2.at_ hq
          obtain ⟨gA, oA, A1, nA, cA, eA, hgA, hdA, hrA⟩ := hx1.at_ hp
          obtain ⟨gC, oC, C1, nC, cC, eC, hgC, hdC, hrC⟩ := hx2.at_ hq
          have m1 := hrA.1
          have m2 := hrB.1
          have m3 := hrC.1
          have m4 := hrD.1
          have w1 := (hM.row e.p hp).1
          have w2 := (hM.row e.p hp).2.1
          have w3' := (hN.row e.q hq).1
          have w4 := (hN.row e.q hq).2.1
          obtain rfl : i = nA := by omega
          obtain rfl : i = nB := by omega
          obtain rfl : i = nC := by omega
          obtain rfl : i = nD := by omega
          clear m1 m2 m3 m4 w1 w2 w3' w4
          obtain ⟨hB1, iB1, eB1, lB, vB⟩ := hrB.at_ hxi
          obtain ⟨hD1, iD1, eD1, lD, vD⟩ := hrD.at_ hxi
          obtain ⟨hA1, iA1, eA1, lA, vA⟩ := hrA.at_ hxi
          obtain ⟨hC1, iC1, eC1, lC, vC⟩ := hrC.at_ hxi
          clear hrA hrB hrC hrD
          subst eA eB eC eD eA1 eB1 eC1 eD1
          have hdA := (hbw.cell (p := ⟨gA, oA + e.p, none⟩) hgA).trans hdA
          have hdB := (hbw.cell (p := ⟨gB, oB + e.p, none⟩) hgB).trans hdB
          have hdC := (hbw.cell (p := ⟨gC, oC + e.q, none⟩) hgC).trans hdC
          have hdD := (hbw.cell (p := ⟨gD, oD + e.q, none⟩) hgD).trans hdD
          have vA := (hbw.cell (p := ⟨hA1, iA1 + x, none⟩) lA).trans vA
          have vB := (hbw.cell (p := ⟨hB1, iB1 + x, none⟩) lB).trans vB
          have vC := (hbw.cell (p := ⟨hC1, iC1 + x, none⟩) lC).trans vC
          have vD := (hbw.cell (p := ⟨hD1, iD1 + x, none⟩) lD).trans vD
          have rB : (ot1.getD e.p []).getD x 0 = oN ot1 e.p x := rfl
          have rD : (ot2.getD e.q []).getD x 0 = oN ot2 e.q x := rfl
          have rA : (nx1.getD e.p []).getD x 0 = ((nN nx1 e.p x : Nat) : Int) := hM.nN_eq hp hxi
          have rC : (nx2.getD e.q []).getD x 0 = ((nN nx2 e.q x : Nat) : Int) := hN.nN_eq hq hxi
          rw [rB] at vB
          rw [rD] at vD
          rw [rA] at vA
          rw [rC] at vC
          clear rA rB rC rD hgA hgB hgC hgD lA lB lC lD
          by_cases hd : oN ot1 e.p x = oN ot2 e.q x
          · have hee : (oN ot1 e.p x != oN ot2 e.q x) = false := by simpa using hd
            have HXI := Lib.hid hxi
            have HFN := Lib.hid (fD_step HFD.out hd)
            have hp' := hM.nN_lt hp hxi
            have hq' := hN.nN_lt hq hxi
            have HST := Lib.hid (show addS nx1 nx2 j e E (x + 1) = addE (addS nx1 nx2 j e E x) (nxE nx1 nx2 j e x) from rfl)
            obtain ⟨e', hE'⟩ : ∃ e', e' = nxE nx1 nx2 j e x := ⟨_, rfl⟩
            have f1 : nN nx1 e.p x = e'.p := by rw [hE']; rfl
            have f2 : nN nx2 e.q x = e'.q := by rw [hE']; rfl
            have f3 : e'.j = j := by rw [hE']; rfl
            have f4 : e'.x = x := by rw [hE']; rfl
            rw [← hE'] at HST
            rw [f1] at vA hp'
            rw [f2] at vC hq'
            have F3 := Lib.hid f3
            have F4 := Lib.hid f4
            generalize oN ot1 e.p x = y1 at vB hee
            generalize oN ot2 e.q x = y2 at vD hee
            clear hd f1 f2 f3 f4 hE'
            go_wp2
            go_quiet (fail)
            clear hee vB vD hdB hdD
            have hcm : ∀ k o, (wr.drewN k).alloc o = (wr.alloc o).drewN k := fun _ _ => rfl
            have HK := Lib.hid (show ∀ W : World, Below wr.heap.size wr W → W.cell? ⟨w.heap.size, 2, none⟩ = some (.slice (some ⟨gA, oA, none⟩) n c) ∧ W.cell? ⟨w.heap.size + 1, 2, none⟩ = some (.slice (some ⟨gC, oC, none⟩) m c2) ∧ W.cell? ⟨gp, 0, none⟩ = some (.int .i64 e.p) ∧ W.cell? ⟨gp, 1, none⟩ = some (.int .i64 e.q) ∧ W.cell? ⟨gA, oA + e.p, none⟩ = some (.slice (some ⟨hA1, iA1, none⟩) i cA) ∧ W.cell? ⟨gC, oC + e.q, none⟩ = some (.slice (some ⟨hC1, iC1, none⟩) i cC) ∧ W.cell? ⟨hA1, iA1 + x, none⟩ = some (.int .i64 e'.p) ∧ W.cell? ⟨hC1, iC1 + x, none⟩ = some (.int .i64 e'.q) from fun W h =>
              ⟨(h.cell (block_lt k2)).trans k2, (h.cell (block_lt l2)).trans l2, (h.cell (block_lt p0)).trans p0, (h.cell (block_lt p1)).trans p1, (h.cell (block_lt hdA)).trans hdA, (h.cell (block_lt hdC)).trans hdC, (h.cell (block_lt vA)).trans vA, (h.cell (block_lt vC)).trans vC⟩)
            clear k0 k1 k2 k3 l0 l1 l2 l3 p0 p1 hdA hdC vA vC
            go_wp2
            go_region_held3 (fun W => W.cell? ⟨w.heap.size, 2, none⟩ = some (.slice (some ⟨gA, oA, none⟩) n c) ∧ W.cell? ⟨w.heap.size + 1, 2, none⟩ = some (.slice (some ⟨gC, oC, none⟩) m c2) ∧ W.cell? ⟨gp, 0, none⟩ = some (.int .i64 e.p) ∧ W.cell? ⟨gp, 1, none⟩ = some (.int .i64 e.q) ∧ W.cell? ⟨gA, oA + e.p, none⟩ = some (.slice (some ⟨hA1, iA1, none⟩) i cA) ∧ W.cell? ⟨gC, oC + e.q, none⟩ = some (.slice (some ⟨hC1, iC1, none⟩) i cC) ∧ W.cell? ⟨hA1, iA1 + x, none⟩ = some (.int .i64 e'.p) ∧ W.cell? ⟨hC1, iC1 + x, none⟩ = some (.int .i64 e'.q)) (first | exact HK.out _ ((below_drewN (Below.refl _ wr) _).drew) | exact HK.out _ (below_drewN (Below.refl _ wr) _) | exact HK.out _ (below_drewN (alloc_below wr _) _) | exact HK.out _ (((below_drewN (alloc_below wr _) _).setCell (p := ⟨wr.heap.size, 0, none⟩) (Nat.le_refl _) _).setCell (p := ⟨wr.heap.size, 1, none⟩) (Nat.le_refl _) _)) (fail)
            obtain ⟨hPn, hbn⟩ := Pb.made wr (nq + 1) e'.p e'.q
            generalize ((((wr.alloc (.cells #[.int .i64 0, .int .i64 0] 114)).drewN (nq + 1)).setCell ⟨wr.heap.size, 0, none⟩ (.int .i64 e'.p)).setCell ⟨wr.heap.size, 1, none⟩ (.int .i64 e'.q)) = wn at hPn hbn ⊢
            have hFn := HF2.out.on hbn hzq
            have hPp := HP2.out.below hbn
            have hzn : g3 ≤ wn.heap.size := by have := hbn.size; omega
            clear hcm HK hbn hbw HF2 HP2
            obtain ⟨p0, p1⟩ := hPn.cells
            obtain ⟨q0, q1⟩ := hFn.sq.at_ (p := e'.p) (q := e'.q) (by omega) (by omega)
            have hq8 : e'.q < 128 := by omega
            have hp8 : e'.p < 128 := by omega
            have HFn := Lib.hid hFn
            have HPp := Lib.hid hPp
            have HPn := Lib.hid hPn
            clear hFn hPp hPn
            generalize wr.heap.size = gn at p0 p1 HPn ⊢
            by_cases hh : hasE (addS nx1 nx2 j e E x) e'.p e'.q
            · have HAE := Lib.hid (addE_in hh)
              rw [decide_eq_true hh] at q0
              clear hh
              go_wp2
              go_quiet (fail)
              go_wp2
              go_roundw
              case rel => exact ⟨x + 1, A2, c3, HXI.out, by go_num, by rw [HST.out, HAE.out], HFN.out, by rw [HST.out, HAE.out]; exact HFn.out.on (below_drewN (Below.refl _ wn) _) hzn, HPp.out.below (below_drewN (Below.refl _ wn) _)⟩
              case measure => have := HXI.out; simp [intOf]; omega
            · have HAE := Lib.hid (addE_out hh)
              rw [decide_eq_false hh] at q0
              clear hh
              go_wp2
              go_quiet (fail)
              have bq := below_drewN (Below.refl wn.heap.size wn) (nq + 1)
              have hFq := HFn.out.on bq hzn
              obtain ⟨A5, c5, W5, hr, hF5, hk5⟩ := hFq.push hgs3 hzn e' hq8 (by omega)
              rw [F3.out, F4.out] at hr
              have hP15 : Pb ((wn.drewN (nq + 1)).setCell ⟨gs, e'.p * 128 + e'.q, none⟩ (.bool true)) gn e'.p e'.q := KeptT.off hFq.sq (by decide) (.bool true) _ _ (HPn.out.below bq)
              obtain ⟨p2, p3⟩ := hP15.cells
              have HF5 := Lib.hid hF5
              have HP5 := Lib.hid (show Pb W5 gp e.p e.q from hk5 gp _ (HPp.out.below bq))
              have HL5 := Lib.hid (show (addS nx1 nx2 j e E (x + 1)).length = (addS nx1 nx2 j e E x).length + 1 by rw [HST.out, HAE.out, List.length_append]; rfl)
              have hr : (Builtin.append_ #[140, 140] 140 #[.slice A2 (addS nx1 nx2 j e E x).length c3, .slice (some ⟨wn.heap.size, 0, none⟩) 1 1]).run Try.prog _ = _ := hr
              clear hP15 hF5 hk5 hFq bq
              go_wp2
              go_region
              clear p0 p1 q0 q1
              go_wp2_with (at_builtin; refine Lib.wpList_append_run _ rfl _ _ _ _ rfl _ _ rfl rfl _ _ hr ?_)
              clear p2 p3 hr
              go_wp2
              go_roundw
              case rel => exact ⟨x + 1, A5, c5, HXI.out, by go_num, by rw [HL5.out], HFN.out, by rw [HL5.out, HST.out, HAE.out]; exact HF5.out, HP5.out⟩
              case measure => have := HXI.out; simp [intOf]; omega
          · have hne : (oN ot1 e.p x != oN ot2 e.q x) = true := by simpa using hd
            have HRR := Lib.hid (show R = some (e.w ++ [(x : Int)]) by
              rw [← HS.out, srch_hit hM hN HE.out hlt (by rw [← HEE.out]; exact fD_hit HFD.out hd hxi), ← HEE.out])
            generalize oN ot1 e.p x = y1 at vB hne
            generalize oN ot2 e.q x = y2 at vD hne
            clear hd hdA hdC vA vC k0 k1 k2 l0 l1 l2
            go_wp2
            go_quiet (fail)
            obtain ⟨g9, c9, e9, hg9, hA9⟩ := HF2.out.row.arv (by have := Hj2.out; omega)
            have hA9 := hA9.below (below_drewN (Below.refl _ wr) nq)
            cases e9
            go_wp2_with fail
            refine (paccess g9 c3 j n m s t _ _ hA9 HE2.out Hj2.out (by omega)).mono ?_
            rintro r w8 ⟨A8, c8, rfl, hO8, hb8⟩
            rw [He2.out] at hO8 ⊢
            have hbw8 := (below_drewN hbw nq).trans (hb8.mono (below_drewN hbw nq).size)
            have hO8 := hO8.lower (base' := w.heap.size) (below_drewN hbw nq).size
            have hel : e.w.length ≤ 16384 := by rw [← He2.out]; have := HE2.out.wl j Hj2.out; have := Hj2.out; omega
            obtain ⟨A10, c10, w10, hr, hO10, hb10, _⟩ := run_append_one hO8 (x : Int) hbw8.size (by omega)
            have HO10 := Lib.hid hO10
            have hbw10 := hbw8.trans hb10
            clear hO8 hO10 hb8 hb10
            go_wp2_with (at_builtin; refine Lib.wpList_append_run _ rfl _ _ _ _ rfl _ _ rfl rfl _ _ hr ?_)
            go_wp2
            go_ret2
            rw [HRR.out]
            exact ⟨A10, c10, by rw [Option.getD_some, List.length_append]; rfl, by rw [Option.getD_some, List.length_append]; exact HO10.out, hbw10⟩
        · have hxe : x = i := by omega
          have HXE := Lib.hid hxe
          have HON := Lib.hid (show srch nx1 nx2 ot1 ot2 i (n * m) (addS nx1 nx2 j e E i) (j + 1) = R by
            have h1 := HFD.out
            rw [hxe, HEE.out] at h1
            have h2 := srch_on hM hN HE.out hlt h1
            rw [← HEE.out] at h2
            rw [h2, HS.out])
          have HJ2 := Lib.hid (show j + 1 ≤ (addS nx1 nx2 j e E x).length by have := Hj2.out; omega)
          clear hxe
          go_wp2
          go_roundw
          case rel =>
            have h1 := HF2.out
            have h2 := HE2.out
            have h3 := HJ2.out
            rw [HXE.out] at h1 h2 h3 ⊢
            exact ⟨j + 1, addS nx1 nx2 j e E i, A2, c3, by go_num, rfl, h3, h2, HON.out, h1⟩
          case measure => simp [intOf]; omega
    · go_wp2
      go_ret2
      rw [← HS.out, srch_end hlt]
      exact ⟨none, 0, rfl, World.ownsRow_nil _ _ _ _, H3.out.trans (hF.bel.mono (by omega))⟩
end Go.Proofs.Ytogcecfeofbbnaa
end

section
/- equiv: Check, Distinguish, Equal, Upto and States. -/
namespace Go.Proofs.Ytogcecfeofbbnaa
open Go.RowKit

set_option maxRecDepth 100000 in
theorem pchk2 (i1 st1 i2 st2 : Int) (A B C D : Option Addr) (n c m d n2 c2 m2 d2 : Nat) (nx1 ot1 nx2 ot2 : List (List Int)) (w : World) (hx1 : Lists w A n nx1) (ho1 : Lists w B m ot1) (hx2 : Lists w C n2 nx2) (ho2 : Lists w D m2 ot2) :
    Calls Try.prog 112 #[.agg #[.int .i64 i1, .int .i64 st1, .slice A n c, .slice B m d], .agg #[.int .i64 i2, .int .i64 st2, .slice C n2 c2, .slice D m2 d2]] w fun e w' => e = .returned (.int .i64 (chk2 i1 st1 nx1 ot1 i2 st2 nx2 ot2)) ∧ Below w.heap.size w w' := by
  obtain ⟨hb0, hB1, hB2⟩ := pair_boxes w i1 st1 i2 st2 A B C D n c m d n2 c2 m2 d2
  obtain ⟨w0, hw0⟩ : ∃ w0, w0 = (w.alloc (.cells #[.int .i64 i1, .int .i64 st1, .slice A n c, .slice B m d] 24)).alloc (.cells #[.int .i64 i2, .int .i64 st2, .slice C n2 c2, .slice D m2 d2] 24) := ⟨_, rfl⟩
  rw [← hw0] at hb0 hB1 hB2
  have HW0 := Lib.hid hw0
  have HB1 := Lib.hid hB1
  have HB2 := Lib.hid hB2
  clear hw0 hB1 hB2
  obtain ⟨k0, k1, k2, k3, _⟩ := HB1.out.cells
  rw [HW0.out] at k0 k1 k2 k3
  go_enter Try.func112, Try.ntmps112
  go_wp2_with fail
  rw [← HW0.out]
  refine (pvalid _ _ _ _ _ _ _ _ _ _ _ (hx1.below hb0) (ho1.below hb0)).mono ?_
  rintro e w1 ⟨rfl, a1⟩
  have HB1 := Lib.hid (HB1.out.on9 a1)
  have HB2 := Lib.hid (HB2.out.on9 a1)
  have b1 := bt hb0 a1
  clear hb0 a1 k0 k1 k2 k3
  by_cases h1 : vld i1 st1 nx1 ot1 = 0
  · obtain ⟨k0, k1, k2, k3, _⟩ := HB2.out.cells
    have H1 := Lib.hid h1
    rw [h1]
    clear h1
    go_wp2_with fail
    refine (pvalid _ _ _ _ _ _ _ _ _ _ _ (hx2.below b1) (ho2.below b1)).mono ?_
    rintro e w2 ⟨rfl, a2⟩
    have b2 := bt b1 a2
    obtain ⟨k0, _⟩ := (HB1.out.on9 a2).cells
    obtain ⟨l0, _⟩ := (HB2.out.on9 a2).cells
    clear b1 a2 k1 k2 k3
    by_cases h2 : vld i2 st2 nx2 ot2 = 0
    · have H2 := Lib.hid h2
      rw [h2]
      clear h2
      by_cases h3 : i1 = i2
      · have hc : (i1 != i2) = false := by simp [h3]
        have H3 := Lib.hid (show chk2 i1 st1 nx1 ot1 i2 st2 nx2 ot2 = 0 by unfold chk2; rw [if_neg (by simp [H1.out]), if_neg (by simp [H2.out]), if_pos h3])
        clear h3
        go_wp2
        go_ret
        exact ⟨by rw [H3.out]; rfl, b2⟩
      · have hc : (i1 != i2) = true := by simpa using h3
        have H3 := Lib.hid (show chk2 i1 st1 nx1 ot1 i2 st2 nx2 ot2 = 15 by unfold chk2; rw [if_neg (by simp [H1.out]), if_neg (by simp [H2.out]), if_neg h3])
        clear h3
        go_wp2
        go_ret
        exact ⟨by rw [H3.out]; rfl, b2⟩
    · have hne : (vld i2 st2 nx2 ot2 != 0) = true := by simpa using h2
      have H3 := Lib.hid (show chk2 i1 st1 nx1 ot1 i2 st2 nx2 ot2 = vld i2 st2 nx2 ot2 by unfold chk2; rw [if_neg (by simp [H1.out]), if_pos h2])
      generalize vld i2 st2 nx2 ot2 = E at hne H3 ⊢
      clear h2
      go_wp2
      go_ret
      exact ⟨by rw [H3.out]; rfl, b2⟩
  · have hne : (vld i1 st1 nx1 ot1 != 0) = true := by simpa using h1
    have H3 := Lib.hid (show chk2 i1 st1 nx1 ot1 i2 st2 nx2 ot2 = vld i1 st1 nx1 ot1 by unfold chk2; rw [if_pos h1])
    generalize vld i1 st1 nx1 ot1 = E at hne H3 ⊢
    clear h1
    go_wp2
    go_ret
    exact ⟨by rw [H3.out]; rfl, b1⟩

set_option maxRecDepth 100000 in
theorem pdist (i1 st1 i2 st2 : Int) (A B C D : Option Addr) (n c m d n2 c2 m2 d2 : Nat) (nx1 ot1 nx2 ot2 : List (List Int)) (w : World) (hx1 : Lists w A n nx1) (ho1 : Lists w B m ot1) (hx2 : Lists w C n2 nx2) (ho2 : Lists w D m2 ot2) :
    Calls Try.prog 85 #[.agg #[.int .i64 i1, .int .i64 st1, .slice A n c, .slice B m d], .agg #[.int .i64 i2, .int .i64 st2, .slice C n2 c2, .slice D m2 d2]] w fun e w' => ∃ A' c', e = .returned (.tuple #[.slice A' ((dres i1 st1 nx1 ot1 i2 st2 nx2 ot2).1.getD []).length c', .bool (dres i1 st1 nx1 ot1 i2 st2 nx2 ot2).1.isSome, .int .i64 (dres i1 st1 nx1 ot1 i2 st2 nx2 ot2).2]) ∧
      Owned w' w.heap.size (.slice A' ((dres i1 st1 nx1 ot1 i2 st2 nx2 ot2).1.getD []).length c') ((dres i1 st1 nx1 ot1 i2 st2 nx2 ot2).1.getD []) ∧ Below w.heap.size w w' := by
  obtain ⟨hb0, hB1, hB2⟩ := pair_boxes w i1 st1 i2 st2 A B C D n c m d n2 c2 m2 d2
  obtain ⟨w0, hw0⟩ : ∃ w0, w0 = (w.alloc (.cells #[.int .i64 i1, .int .i64 st1, .slice A n c, .slice B m d] 24)).alloc (.cells #[.int .i64 i2, .int .i64 st2, .slice C n2 c2, .slice D m2 d2] 24) := ⟨_, rfl⟩
  rw [← hw0] at hb0 hB1 hB2
  have HW0 := Lib.hid hw0
  have HB1 := Lib.hid hB1
  have HB2 := Lib.hid hB2
  clear hw0 hB1 hB2
  obtain ⟨k0, k1, k2, k3, _⟩ := HB1.out.cells
  obtain ⟨l0, l1, l2, l3, _⟩ := HB2.out.cells
  rw [HW0.out] at k0 k1 k2 k3 l0 l1 l2 l3
  obtain ⟨D0, hD0⟩ : ∃ D0, D0 = dres i1 st1 nx1 ot1 i2 st2 nx2 ot2 := ⟨_, rfl⟩
  rw [← hD0]
  have HD0 := Lib.hid hD0
  clear hD0
  go_enter Try.func85, Try.ntmps85
  go_wp2_with fail
  rw [← HW0.out]
  refine (pchk2 _ _ _ _ _ _ _ _ _ _ _ _ _ _ _ _ _ _ _ _ _ (hx1.below hb0) (ho1.below hb0) (hx2.below hb0) (ho2.below hb0)).mono ?_
  rintro e w1 ⟨rfl, a1⟩
  have hB1 := HB1.out.on9 a1
  have hB2 := HB2.out.on9 a1
  have b1 := bt hb0 a1
  clear hb0 a1 k0 k1 k2 k3 l0 l1 l2 l3
  by_cases h1 : chk2 i1 st1 nx1 ot1 i2 st2 nx2 ot2 = 0
  · have hd : D0 = (dst nx1 ot1 nx2 ot2 i1.toNat nx1.length nx2.length st1.toNat st2.toNat, 0) := by rw [HD0.out]; unfold dres; rw [if_pos h1]
    rw [h1]
    obtain ⟨v1, v2, rfl⟩ := chk2_zero h1
    clear HD0 h1
    obtain ⟨i', s', n', rfl, rfl, hM⟩ := vld_zero v1
    obtain ⟨i'', s'', n'', e1, rfl, hN⟩ := vld_zero v2
    obtain rfl : i' = i'' := by omega
    have e1 := hx1.1
    have e2 := ho1.1
    have e3 := hM.nxl
    have e4 := hM.otl
    have e5 := hx2.1
    have e6 := ho2.1
    have e7 := hN.nxl
    have e8 := hN.otl
    obtain rfl : n = n' := by omega
    obtain rfl : n = m := by omega
    obtain rfl : n2 = n'' := by omega
    obtain rfl : n2 = m2 := by omega
    rw [e3, e7] at hd
    simp only [Int.toNat_natCast] at hd
    clear e1 e2 e3 e4 e5 e6 e7 e8 v1 v2
    have HD := Lib.hid hd
    clear hd
    obtain ⟨k0, k1, k2, k3, _⟩ := hB1.cells
    obtain ⟨l0, l1, l2, l3, _⟩ := hB2.cells
    clear hB1 hB2
    go_wp2_with fail
    refine (pfirst _ _ _ _ _ _ _ _ _ _ _ _ _ _ _ _ _ _ _ _ (hx1.below b1) (ho1.below b1) (hx2.below b1) (ho2.below b1) hM hN hM.st hN.st).mono ?_
    rintro e w2 ⟨A', c', rfl, hO, a2⟩
    have b2 := bt b1 a2
    have hO := hO.lower (base' := w.heap.size) b1.size
    generalize dst nx1 ot1 nx2 ot2 i' n n2 s' s'' = R at HD hO ⊢
    have HO := Lib.hid hO
    clear hO
    go_wp2
    go_ret3
    rw [HD.out]
    exact ⟨A', c', rfl, HO.out, b2⟩
  · have hd : D0 = (none, chk2 i1 st1 nx1 ot1 i2 st2 nx2 ot2) := by rw [HD0.out]; unfold dres; rw [if_neg h1]
    have hne : (chk2 i1 st1 nx1 ot1 i2 st2 nx2 ot2 != 0) = true := by simpa using h1
    have HD := Lib.hid hd
    clear hd HD0
    generalize chk2 i1 st1 nx1 ot1 i2 st2 nx2 ot2 = E at hne HD ⊢
    clear h1
    go_wp2
    go_ret3
    rw [HD.out]
    exact ⟨none, 0, rfl, World.ownsRow_nil _ _ _ _, b1⟩

set_option maxRecDepth 100000 in
theorem pequ (i1 st1 i2 st2 : Int) (A B C D : Option Addr) (n c m d n2 c2 m2 d2 : Nat) (nx1 ot1 nx2 ot2 : List (List Int)) (w : World) (hx1 : Lists w A n nx1) (ho1 : Lists w B m ot1) (hx2 : Lists w C n2 nx2) (ho2 : Lists w D m2 ot2) :
    Calls Try.prog 46 #[.agg #[.int .i64 i1, .int .i64 st1, .slice A n c, .slice B m d], .agg #[.int .i64 i2, .int .i64 st2, .slice C n2 c2, .slice D m2 d2]] w fun e w' => e = .returned (.tuple #[.bool (eqb (dres i1 st1 nx1 ot1 i2 st2 nx2 ot2)), .int .i64 (dres i1 st1 nx1 ot1 i2 st2 nx2 ot2).2]) ∧ Below w.heap.size w w' := by
  obtain ⟨hb0, hB1, hB2⟩ := pair_boxes w i1 st1 i2 st2 A B C D n c m d n2 c2 m2 d2
  obtain ⟨w0, hw0⟩ : ∃ w0, w0 = (w.alloc (.cells #[.int .i64 i1, .int .i64 st1, .slice A n c, .slice B m d] 24)).alloc (.cells #[.int .i64 i2, .int .i64 st2, .slice C n2 c2, .slice D m2 d2] 24) := ⟨_, rfl⟩
  rw [← hw0] at hb0 hB1 hB2
  have HW0 := Lib.hid hw0
  have HB1 := Lib.hid hB1
  have HB2 := Lib.hid hB2
  clear hw0 hB1 hB2
  obtain ⟨k0, k1, k2, k3, _⟩ := HB1.out.cells
  obtain ⟨l0, l1, l2, l3, _⟩ := HB2.out.cells
  rw [HW0.out] at k0 k1 k2 k3 l0 l1 l2 l3
  obtain ⟨D0, hD0⟩ : ∃ D0, D0 = dres i1 st1 nx1 ot1 i2 st2 nx2 ot2 := ⟨_, rfl⟩
  rw [← hD0]
  have HD0 := Lib.hid hD0
  clear hD0
  go_enter Try.func46, Try.ntmps46
  go_wp2_with fail
  rw [← HW0.out]
  refine (pdist _ _ _ _ _ _ _ _ _ _ _ _ _ _ _ _ _ _ _ _ _ (hx1.below hb0) (ho1.below hb0) (hx2.below hb0) (ho2.below hb0)).mono ?_
  rintro e w1 ⟨A', c', rfl, _, a1⟩
  have b1 := bt hb0 a1
  clear hb0 a1 k0 k1 k2 k3 l0 l1 l2 l3
  rw [← HD0.out]
  clear HD0
  obtain ⟨o, E⟩ := D0
  by_cases hE : E = 0
  · subst hE
    cases o
    all_goals
      go_wp2
      go_ret2
      exact ⟨rfl, b1⟩
  · have hc : (E == 0) = false := by simpa using hE
    have HC := Lib.hid hc
    clear hE
    go_wp2
    go_ret2
    refine ⟨?_, b1⟩
    show _ = Ending.returned (.tuple #[.bool ((E == 0) && !o.isSome), .int .i64 E])
    rw [HC.out]
    rfl

end Go.Proofs.Ytogcecfeofbbnaa
end
