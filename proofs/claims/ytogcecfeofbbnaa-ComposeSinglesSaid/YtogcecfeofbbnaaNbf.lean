/- Lemmas of the proofs of this seat, of the parts Gdp, Gdm, Gdc, Gdr, Gds. Conditions: none. -/
import Derived.Test.YtogcecfeofbbnaaNag
import Derived.Test.YtogcecfeofbbnaaNae
section
/- Restrict: what it answers. -/
namespace Go.Proofs.Ytogcecfeofbbnaa

/-- Different inputs of a machine. -/
def Chs (i : Nat) (l : List Int) : Prop := l.Nodup ∧ ∀ x ∈ l, 0 ≤ x ∧ x < i
/-- The error of one input of the list. -/
def chcF (i : Nat) (l : List Int) (j : Nat) : Int := if 0 ≤ l.getD j 0 ∧ l.getD j 0 < i then (if l.getD j 0 ∈ l.take j then 7 else 0) else 2
/-- The error of the list. -/
def chcE (i : Nat) (l : List Int) : Int := if l.length = 0 then 19 else fstE (chcF i l) l.length
theorem chcE_nil {i : Nat} {l : List Int} (h : l.length = 0) : chcE i l = 19 := by unfold chcE; rw [if_pos h]
theorem chcF_zero {i : Nat} {l : List Int} {j : Nat} (h : chcF i l j = 0) : (0 ≤ l.getD j 0 ∧ l.getD j 0 < i) ∧ ¬ l.getD j 0 ∈ l.take j := by
  unfold chcF at h
  by_cases h1 : 0 ≤ l.getD j 0 ∧ l.getD j 0 < i
  · rw [if_pos h1] at h
    by_cases h2 : l.getD j 0 ∈ l.take j
    · rw [if_pos h2] at h; omega
    · exact ⟨h1, h2⟩
  · rw [if_neg h1] at h; omega
theorem getD_intL {l : List Int} {j : Nat} (h : j < l.length) : l.getD j 0 = l[j] := by rw [List.getD_eq_getElem?_getD, List.getElem?_eq_getElem h]; rfl
theorem chs_of {i : Nat} {l : List Int} (h : ∀ t, t < l.length → chcF i l t = 0) : Chs i l := by
  refine ⟨?_, fun x hx => ?_⟩
  · rw [List.Nodup, List.pairwise_iff_getElem]
    intro a b ha hb hab e
    have := (chcF_zero (h b hb)).2
    rw [getD_intL hb, ← e] at this
    exact this (List.mem_take_iff_getElem.2 ⟨a, by omega, rfl⟩)
  · obtain ⟨j, hj, rfl⟩ := List.getElem_of_mem hx
    have := (chcF_zero (h j hj)).1
    rw [getD_intL hj] at this
    exact this
theorem chcE_zero {i : Nat} {l : List Int} (h : chcE i l = 0) : Chs i l ∧ 0 < l.length := by
  unfold chcE at h
  by_cases h0 : l.length = 0
  · rw [if_pos h0] at h; omega
  · rw [if_neg h0] at h
    exact ⟨chs_of (fstE_zero h), by omega⟩
theorem Chs.stt {i : Nat} {l : List Int} (h : Chs i l) : Stt i (l.map Int.toNat) := by
  refine ⟨?_, fun x hx => ?_⟩
  · rw [List.Nodup, List.pairwise_map]
    refine List.Pairwise.imp_of_mem ?_ h.1
    intro a b ha hb hab e
    have := h.2 a ha
    have := h.2 b hb
    omega
  · obtain ⟨y, hy, rfl⟩ := List.mem_map.1 hx
    have := h.2 y hy
    omega
theorem Chs.len {i : Nat} {l : List Int} (h : Chs i l) : l.length ≤ i := by have := h.stt.len; simpa using this
theorem Chs.at_ {i : Nat} {l : List Int} (h : Chs i l) {a : Nat} (ha : a < l.length) : 0 ≤ l.getD a 0 ∧ l.getD a 0 < i := by
  rw [getD_intL ha]; exact h.2 _ (List.getElem_mem _)
/-- The rows with the inputs of the list alone. -/
def rsN (l : List Int) (nx : List (List Int)) : List (List Int) := nx.map fun r => pickL r l
theorem rsN_len (l : List Int) (nx : List (List Int)) : (rsN l nx).length = nx.length := by simp [rsN]
theorem rsN_row {l : List Int} {nx : List (List Int)} {s : Nat} (h : s < nx.length) : (rsN l nx).getD s [] = pickL (nx.getD s []) l := by
  unfold rsN
  rw [List.getD_eq_getElem?_getD, List.getElem?_map, List.getD_eq_getElem?_getD, List.getElem?_eq_getElem h]; rfl
theorem rsN_next {l : List Int} {nx : List (List Int)} {k : Nat} (h : k < nx.length) : (rsN l nx).take k ++ [pickL (nx.getD k []) l] = (rsN l nx).take (k + 1) := by
  rw [List.take_succ_eq_append_getElem (by rw [rsN_len]; exact h)]
  have := rsN_row (l := l) h
  rw [List.getD_eq_getElem?_getD, List.getElem?_eq_getElem (by rw [rsN_len]; exact h)] at this
  rw [← this]; rfl
theorem pickL_at {xs l : List Int} {a : Nat} (h : a < l.length) : (pickL xs l).getD a 0 = xs.getD (l.getD a 0).toNat 0 := by
  unfold pickL
  rw [List.getD_eq_getElem?_getD, List.getElem?_map, List.getElem?_eq_getElem h, getD_intL h]; rfl
section
variable {i st n : Nat} {nx ot : List (List Int)} {l : List Int}
theorem Mok.rs (hM : Mok i st n nx ot) (hC : Chs i l) (h0 : 0 < l.length) : Mok l.length st n (rsN l nx) (rsN l ot) where
  i1 := h0
  i2 := by have := hC.len; have := hM.i2; omega
  n1 := hM.n1
  n2 := hM.n2
  st := hM.st
  nxl := by rw [rsN_len]; exact hM.nxl
  otl := by rw [rsN_len]; exact hM.otl
  row := fun s hs => by
    rw [rsN_row (by rw [hM.nxl]; exact hs), rsN_row (by rw [hM.otl]; exact hs)]
    refine ⟨pickL_len _ _, pickL_len _ _, fun a ha => ?_⟩
    rw [pickL_at ha, pickL_at ha]
    have := hC.at_ ha
    exact (hM.row s hs).2.2 _ (by omega)
theorem rs_nN (hM : Mok i st n nx ot) {s a : Nat} (hs : s < n) (ha : a < l.length) : nN (rsN l nx) s a = nN nx s (l.getD a 0).toNat := by
  unfold nN
  rw [rsN_row (by rw [hM.nxl]; exact hs), pickL_at ha]
theorem rs_oN (hM : Mok i st n nx ot) {s a : Nat} (hs : s < n) (ha : a < l.length) : oN (rsN l ot) s a = oN ot s (l.getD a 0).toNat := by
  unfold oN
  rw [rsN_row (by rw [hM.otl]; exact hs), pickL_at ha]
/-- The word that the machine itself gets. -/
def rsW (l u : List Int) : List Int := u.map fun x => l.getD x.toNat 0
theorem rs_run (hM : Mok i st n nx ot) (hC : Chs i l) : ∀ (u : List Int) (s : Nat), s < n → Wd l.length u → runO (rsN l nx) (rsN l ot) s u = runO nx ot s (rsW l u)
  | [], _, _, _ => rfl
  | x :: u, s, hs, hu => by
    obtain ⟨a, rfl, ha⟩ := hu.head
    have hi := hC.at_ ha
    show oN (rsN l ot) s ((a : Int)).toNat :: runO _ _ (nN (rsN l nx) s ((a : Int)).toNat) u = oN ot s (l.getD ((a : Int)).toNat 0).toNat :: runO nx ot (nN nx s (l.getD ((a : Int)).toNat 0).toNat) (rsW l u)
    rw [Int.toNat_natCast, rs_nN hM hs ha, rs_oN hM hs ha, rs_run hM hC u _ (hM.nN_lt hs (by omega)) hu.tail]
theorem rsW_wd (hC : Chs i l) {u : List Int} (hu : Wd l.length u) : Wd i (rsW l u) := fun x hx => by
  obtain ⟨y, hy, rfl⟩ := List.mem_map.1 hx
  have := hu y hy
  exact hC.at_ (by omega)
/-- The same, for any numbers: others are left out. -/
def rsV (l : List Int) : List Int → List Int
  | [] => []
  | x :: u => if 0 ≤ x ∧ x < l.length then l.getD x.toNat 0 :: rsV l u else rsV l u
theorem rsV_app (l : List Int) : ∀ (u : List Int) (x : Int), rsV l (u ++ [x]) = if 0 ≤ x ∧ x < l.length then rsV l u ++ [l.getD x.toNat 0] else rsV l u
  | [], x => by show (if 0 ≤ x ∧ x < (l.length : Int) then l.getD x.toNat 0 :: rsV l [] else rsV l []) = _; split <;> simp [rsV]
  | y :: u, x => by
    show (if 0 ≤ y ∧ y < (l.length : Int) then l.getD y.toNat 0 :: rsV l (u ++ [x]) else rsV l (u ++ [x])) = _
    rw [rsV_app l u x]
    by_cases h : 0 ≤ y ∧ y < (l.length : Int) <;> by_cases h2 : 0 ≤ x ∧ x < (l.length : Int)
    · simp only [rsV, if_pos h, if_pos h2, List.cons_append]
    · simp only [rsV, if_pos h, if_neg h2]
    · simp only [rsV, if_neg h, if_pos h2]
    · simp only [rsV, if_neg h, if_neg h2]
theorem rsV_len (l : List Int) : ∀ u : List Int, (rsV l u).length ≤ u.length
  | [] => Nat.le_refl _
  | x :: u => by
    have := rsV_len l u
    show (if 0 ≤ x ∧ x < (l.length : Int) then l.getD x.toNat 0 :: rsV l u else rsV l u).length ≤ _
    split
    · simp; omega
    · simp; omega
theorem rsV_all {l : List Int} : ∀ {u : List Int}, Wd l.length u → rsV l u = rsW l u
  | [], _ => rfl
  | x :: u, h => by
    obtain ⟨a, rfl, ha⟩ := h.head
    show (if 0 ≤ ((a : Nat) : Int) ∧ ((a : Nat) : Int) < (l.length : Int) then l.getD ((a : Int)).toNat 0 :: rsV l u else rsV l u) = _
    rw [if_pos ⟨by omega, by omega⟩, rsV_all h.tail]; rfl
/-- The outputs of Map. -/
theorem mp_run (hM : Mok i st n nx ot) (outs : List Int) : ∀ (u : List Int) (s : Nat), s < n → Wd i u → runO nx (mpO outs ot) s u = (runO nx ot s u).map fun x => outs.getD x.toNat 0
  | [], _, _, _ => rfl
  | x :: u, s, hs, hu => by
    obtain ⟨a, rfl, ha⟩ := hu.head
    show oN (mpO outs ot) s ((a : Int)).toNat :: runO nx (mpO outs ot) (nN nx s ((a : Int)).toNat) u = outs.getD (oN ot s ((a : Int)).toNat).toNat 0 :: (runO nx ot (nN nx s ((a : Int)).toNat) u).map _
    rw [Int.toNat_natCast, mp_run hM outs u _ (hM.nN_lt hs ha) hu.tail]
    show ((mpO outs ot).getD s []).getD a 0 :: _ = _
    rw [(mpO_at hM hs ha).2]; rfl
theorem run_good (hM : Mok i st n nx ot) {outs : List Int} (hA : AllO outs ot) : ∀ (u : List Int) (s : Nat), s < n → Wd i u → ∀ x ∈ runO nx ot s u, 0 ≤ x ∧ x < outs.length
  | [], _, _, _, x, hx => by simp [runO] at hx
  | y :: u, s, hs, hu, x, hx => by
    obtain ⟨a, rfl, ha⟩ := hu.head
    rcases List.mem_cons.1 (show x ∈ oN ot s ((a : Int)).toNat :: runO nx ot (nN nx s ((a : Int)).toNat) u from hx) with rfl | h
    · rw [Int.toNat_natCast]
      have h1 := hA _ (hM.in_flat hs ha)
      exact ⟨((hM.row s hs).2.2 a ha).2.2.1, h1.1⟩
    · rw [Int.toNat_natCast] at h
      exact run_good hM hA u _ (hM.nN_lt hs ha) hu.tail x h
end
end Go.Proofs.Ytogcecfeofbbnaa
end

section
/- A machine whose rows are added one by one. -/
namespace Go.Proofs.Ytogcecfeofbbnaa
open Go.RowKit

structure Mrs (w : World) (base g : Nat) (i st : Int) (N T : List (List Int)) (AN AT : Option Addr) (cN cT : Nat) : Prop where
  blk : Mblk w g (.int .i64 i) (.int .i64 st) (.slice AN N.length cN) (.slice AT T.length cT)
  nx : OwnedL w base (.slice AN N.length cN) N
  ot : OwnedL w base (.slice AT T.length cT) T
  ap : Apart (.slice AN N.length cN) (.slice AT T.length cT)
section
variable {w w' : World} {base g : Nat} {i st : Int} {N T : List (List Int)} {AN AT B : Option Addr} {cN cT m d : Nat} {xs : List Int}
theorem Mrs.kept (h : Mrs w base g i st N T AN AT cN cT) (hb : Below w.heap.size w w') : Mrs w' base g i st N T AN AT cN cT :=
  ⟨h.blk.on hb, h.nx.kept hb, h.ot.kept hb, h.ap⟩
theorem Mrs.keptT (h : Mrs w base g i st N T AN AT cN cT) (h1 : KeptT 24 w w') (h2 : KeptT 27 w w') (h3 : KeptT 3 w w') : Mrs w' base g i st N T AN AT cN cT :=
  ⟨h.blk.keptT h1, h.nx.keptT h3 h2, h.ot.keptT h3 h2, h.ap⟩
theorem Mrs.new (w : World) (base : Nat) (i st : Int) : Mrs (w.alloc (.cells #[.int .i64 i, .int .i64 st, .slice none 0 0, .slice none 0 0] 24)) base w.heap.size i st [] [] none none 0 0 :=
  ⟨mealy_box w _ _ _ _, OwnedL.nil _ _, OwnedL.nil _ _, Apart.nil _⟩
set_option maxRecDepth 100000 in
theorem Mrs.addN (h : Mrs w base g i st N T AN AT cN cT) (hx : Owned w base (.slice B m d) xs) (hz : base ≤ w.heap.size) (hg : base ≤ g) (hl : N.length < 1759218604441) :
    ∃ A2 c2 w1, (Builtin.append_ #[22, 22] 22 #[.slice AN N.length cN, .slice (some ⟨w.heap.size, 0, none⟩) 1 1]).run Try.prog (w.alloc (.cells #[.slice B m d] 27)) = .ok (.slice A2 (N.length + 1) c2) w1 ∧
      w1.cell? ⟨g, 2, none⟩ = some (.slice AN N.length cN) ∧ w1.frozen? ⟨g, 2, none⟩ = false ∧ Below base w w1 ∧
      Mrs (w1.setCell ⟨g, 2, none⟩ (.slice A2 (N.length + 1) c2)) base g i st (N ++ [xs]) T A2 AT c2 cT ∧ Below base w (w1.setCell ⟨g, 2, none⟩ (.slice A2 (N.length + 1) c2)) ∧
      (∀ t, t ≠ 27 → t ≠ 24 → KeptT t w (w1.setCell ⟨g, 2, none⟩ (.slice A2 (N.length + 1) c2))) := by
  obtain ⟨A2, c2, w1, hr, o, b, kt, kb, mv⟩ := run_append_list h.nx hx hz hl
  have h1 := h.blk.keptT (kt _ (by decide))
  obtain ⟨_, _, l2, _, _, _, f2, _⟩ := h1.cells
  refine ⟨A2, c2, w1, hr, l2, f2, b, ⟨?_, ?_, ?_, by rw [List.length_append]; exact h.ap.moved mv h.ot⟩, below_st hg b, fun t h2 h3 => (kt t h2).trans (KeptT.off h1 h3 _)⟩
  · rw [List.length_append]; exact h1.set2 _
  · rw [List.length_append]; exact o.keptT (KeptT.off h1 (by decide) _) (KeptT.off h1 (by decide) _)
  · exact (h.ot.keptB kb h.ap (kt _ (by decide))).keptT (KeptT.off h1 (by decide) _) (KeptT.off h1 (by decide) _)
set_option maxRecDepth 100000 in
theorem Mrs.addT (h : Mrs w base g i st N T AN AT cN cT) (hx : Owned w base (.slice B m d) xs) (hz : base ≤ w.heap.size) (hg : base ≤ g) (hl : T.length < 1759218604441) :
    ∃ A2 c2 w1, (Builtin.append_ #[22, 22] 22 #[.slice AT T.length cT, .slice (some ⟨w.heap.size, 0, none⟩) 1 1]).run Try.prog (w.alloc (.cells #[.slice B m d] 27)) = .ok (.slice A2 (T.length + 1) c2) w1 ∧
      w1.cell? ⟨g, 3, none⟩ = some (.slice AT T.length cT) ∧ w1.frozen? ⟨g, 3, none⟩ = false ∧ Below base w w1 ∧
      Mrs (w1.setCell ⟨g, 3, none⟩ (.slice A2 (T.length + 1) c2)) base g i st N (T ++ [xs]) AN A2 cN c2 ∧ Below base w (w1.setCell ⟨g, 3, none⟩ (.slice A2 (T.length + 1) c2)) ∧
      (∀ t, t ≠ 27 → t ≠ 24 → KeptT t w (w1.setCell ⟨g, 3, none⟩ (.slice A2 (T.length + 1) c2))) := by
  obtain ⟨A2, c2, w1, hr, o, b, kt, kb, mv⟩ := run_append_list h.ot hx hz hl
  have h1 := h.blk.keptT (kt _ (by decide))
  obtain ⟨_, _, _, l2, _, _, _, f2⟩ := h1.cells
  refine ⟨A2, c2, w1, hr, l2, f2, b, ⟨?_, ?_, ?_, by rw [List.length_append]; exact (h.ap.symm.moved mv h.nx).symm⟩, below_st hg b, fun t h2 h3 => (kt t h2).trans (KeptT.off h1 h3 _)⟩
  · rw [List.length_append]; exact h1.set3 _
  · exact (h.nx.keptB kb h.ap.symm (kt _ (by decide))).keptT (KeptT.off h1 (by decide) _) (KeptT.off h1 (by decide) _)
  · rw [List.length_append]; exact o.keptT (KeptT.off h1 (by decide) _) (KeptT.off h1 (by decide) _)
end
end Go.Proofs.Ytogcecfeofbbnaa
end

section
/- choice of the program. -/
namespace Go.Proofs.Ytogcecfeofbbnaa
open Go.RowKit

/-- A line of 64 truth values. -/
def lsOf (f : Nat → Bool) : List Bool := (List.range 64).map f
theorem lsOf_at (f : Nat → Bool) {p : Nat} (hp : p < 64) : (lsOf f)[p]? = some (f p) := by
  unfold lsOf
  rw [List.getElem?_map, List.getElem?_range hp]; rfl
theorem lsOf_set (f : Nat → Bool) (p : Nat) : (lsOf f).set p true = lsOf fun a => f a || a == p := by
  apply List.ext_getElem
  · simp [lsOf]
  · intro k h1 h2
    rw [List.getElem_set]
    by_cases e : p = k
    · subst e; simp [lsOf]
    · rw [if_neg e]
      have e2 : ¬ k = p := fun h => e h.symm
      simp [lsOf, e2]
/-- The block of the inputs seen. -/
def Ls (w : World) (g : Nat) (f : Nat → Bool) : Prop := w.heap[g]? = some (.cells ((lsOf f).map Value.bool).toArray 134 (0, 0))
section
variable {w w' : World} {g : Nat} {f : Nat → Bool}
theorem Ls.at_ (h : Ls w g f) {p : Nat} (hp : p < 64) : w.cell? ⟨g, p, none⟩ = some (.bool (f p)) ∧ w.frozen? ⟨g, p, none⟩ = false := by
  refine ⟨?_, frozen_of_row w g _ _ _ h⟩
  rw [cell_of_row w g p _ _ (0, 0) h]
  simp [lsOf_at f hp]
theorem Ls.set (h : Ls w g f) (p : Nat) : Ls (w.setCell ⟨g, p, none⟩ (.bool true)) g fun a => f a || a == p := by
  have := heap_setCell_same w g p _ _ (Value.bool true) h
  unfold Ls
  rw [this, ← lsOf_set f p]
  simp [List.map_set]
end
/-- Which inputs the first of the list are. -/
def inL (l : List Int) (j : Nat) (a : Nat) : Bool := decide ((a : Int) ∈ l.take j)
theorem inL_zero (l : List Int) : inL l 0 = fun _ => false := by funext a; simp [inL]
theorem Ls.new (w : World) (l : List Int) : Ls (w.alloc (.cells #[.bool false, .bool false, .bool false, .bool false, .bool false, .bool false, .bool false, .bool false, .bool false, .bool false, .bool false, .bool false, .bool false, .bool false, .bool false, .bool false, .bool false, .bool false, .bool false, .bool false, .bool false, .bool false, .bool false, .bool false, .bool false, .bool false, .bool false, .bool false, .bool false, .bool false, .bool false, .bool false, .bool false, .bool false, .bool false, .bool false, .bool false, .bool false, .bool false, .bool false, .bool false, .bool false, .bool false, .bool false, .bool false, .bool false, .bool false, .bool false, .bool false, .bool false, .bool false, .bool false, .bool false, .bool false, .bool false, .bool false, .bool false, .bool false, .bool false, .bool false, .bool false, .bool false, .bool false, .bool false] 134)) w.heap.size (inL l 0) := by
  rw [inL_zero]
  exact heap_alloc_new w _
theorem inL_next {l : List Int} {j x : Nat} (h : j < l.length) (hx : l.getD j 0 = (x : Int)) : (fun a => inL l j a || a == x) = inL l (j + 1) := by
  funext a
  unfold inL
  have h2 : l[j]?.getD 0 = (x : Int) := by rw [← List.getD_eq_getElem?_getD]; exact hx
  rw [take_next h, h2]
  by_cases e : a = x
  · subst e; simp
  · have e2 : ¬ (a : Int) = (x : Int) := by omega
    have e3 : (a == x) = false := by simpa using e
    rw [e3, Bool.or_false]
    simp [List.mem_append, e2]
theorem chcF_rng {i : Nat} {l : List Int} {j : Nat} (h : ¬ (0 ≤ l.getD j 0 ∧ l.getD j 0 < i)) : chcF i l j = 2 := by unfold chcF; rw [if_neg h]
theorem chcF_in {i : Nat} {l : List Int} {j x : Nat} (hx : l.getD j 0 = (x : Int)) (h : x < i) (h2 : inL l j x = true) : chcF i l j = 7 := by
  unfold chcF
  rw [if_pos ⟨by omega, by omega⟩, if_pos (by rw [hx]; simpa [inL] using h2)]
theorem chcF_ok {i : Nat} {l : List Int} {j x : Nat} (hx : l.getD j 0 = (x : Int)) (h : x < i) (h2 : inL l j x = false) : chcF i l j = 0 := by
  unfold chcF
  rw [if_pos ⟨by omega, by omega⟩, if_neg (by rw [hx]; simpa [inL] using h2)]
def AllC (i : Nat) (l : List Int) (j : Nat) : Prop := ∀ t, t < j → chcF i l t = 0
theorem AllC.zero (i : Nat) (l : List Int) : AllC i l 0 := fun _ h => absurd h (by omega)
theorem AllC.succ {i : Nat} {l : List Int} {j : Nat} (h : AllC i l j) (h1 : chcF i l j = 0) : AllC i l (j + 1) := fun t ht => by
  by_cases e : t = j
  · subst e; exact h1
  · exact h t (by omega)
theorem AllC.bad {i : Nat} {l : List Int} {j : Nat} (h : AllC i l j) (hj : j < l.length) {x : Int} (h1 : chcF i l j = x) (hx : x ≠ 0) : chcE i l = x := by
  unfold chcE
  rw [if_neg (by omega), fstE_bad h (by rw [h1]; exact hx) hj, h1]
theorem AllC.all {i : Nat} {l : List Int} (h : AllC i l l.length) (h0 : ¬ l.length = 0) : chcE i l = 0 := by
  unfold chcE
  rw [if_neg h0, fstE_ok h]
set_option maxHeartbeats 2000000 in
set_option maxRecDepth 100000 in
theorem pchoice (i : Nat) (st : Int) (A B C : Option Addr) (n c m d k e : Nat) (l : List Int) (w : World) (hC : Ints w C k l) (hi : i ≤ 64) :
    Calls Try.prog 78 #[.agg #[.int .i64 i, .int .i64 st, .slice A n c, .slice B m d], .slice C k e] w fun r w' => r = .returned (.int .i64 (chcE i l)) ∧ Below w.heap.size w w' := by
  have hl := hC.1
  by_cases hk : k = 0
  · subst hk
    refine (pchoice_empty _ _ _ _ _ _ _ _ _ _ _).mono ?_
    rintro r w' ⟨rfl, h⟩
    exact ⟨by rw [chcE_nil hl], h⟩
  obtain ⟨w0, hw0⟩ : ∃ w0, w0 = w.alloc (.cells #[.int .i64 i, .int .i64 st, .slice A n c, .slice B m d] 24) := ⟨_, rfl⟩
  have hb0 : Below w.heap.size w w0 := by rw [hw0]; exact alloc_below _ _
  have hz0 : w0.heap.size = w.heap.size + 1 := by rw [hw0]; simp
  obtain ⟨w1, hw1⟩ : ∃ w1, w1 = w0.alloc (.cells #[.bool false, .bool false, .bool false, .bool false, .bool false, .bool false, .bool false, .bool false, .bool false, .bool false, .bool false, .bool false, .bool false, .bool false, .bool false, .bool false, .bool false, .bool false, .bool false, .bool false, .bool false, .bool false, .bool false, .bool false, .bool false, .bool false, .bool false, .bool false, .bool false, .bool false, .bool false, .bool false, .bool false, .bool false, .bool false, .bool false, .bool false, .bool false, .bool false, .bool false, .bool false, .bool false, .bool false, .bool false, .bool false, .bool false, .bool false, .bool false, .bool false, .bool false, .bool false, .bool false, .bool false, .bool false, .bool false, .bool false, .bool false, .bool false, .bool false, .bool false, .bool false, .bool false, .bool false, .bool false] 134) := ⟨_, rfl⟩
  have hS : Ls w1 (w.heap.size + 1) (inL l 0) := by rw [hw1, ← hz0]; exact Ls.new w0 l
  have hb1 : Below w.heap.size w w1 := by rw [hw1]; exact hb0.alloc (by omega) _
  have hG : w1.cell? ⟨w.heap.size, 0, none⟩ = some (.int .i64 i) := by
    rw [hw1, hw0]
    exact (((alloc_below (w.alloc (.cells #[.int .i64 i, .int .i64 st, .slice A n c, .slice B m d] 24)) _).cell (p := ⟨w.heap.size, 0, none⟩) (by simp)).trans (mealy_box w (.int .i64 i) (.int .i64 st) (.slice A n c) (.slice B m d)).cells.1)
  have hk2 := hC.2.1
  have q1 : ((k : Int) == 0) = false := by simp; omega
  have HK := Lib.hid hk
  have HC := Lib.hid (fun (W : World) (h : Below w.heap.size w W) => hC.below h)
  have HB1 := Lib.hid hb1
  have HS := Lib.hid hS
  have HW1 := Lib.hid (hw1.trans (by rw [hw0]))
  have HG := Lib.hid (show ∀ W, Below (w.heap.size + 1) w1 W → W.cell? ⟨w.heap.size, 0, none⟩ = some (.int .i64 i) from fun W h => (h.cell (p := ⟨w.heap.size, 0, none⟩) (Nat.lt_succ_self _)).trans hG)
  have HL := Lib.hid hl
  clear hC hw0 hb0 hz0 hk hw1 hS hb1 hG hl
  go_enter Try.func78, Try.ntmps78
  go_wp2_with fail
  rw [← HW1.out]
  go_loopw [13] (fun v13 wr => ∃ j : Nat, v13 = .int .i64 j ∧ j ≤ k ∧ Ls wr (w.heap.size + 1) (inL l j) ∧ AllC i l j ∧ Below (w.heap.size + 1) w1 wr) (fun v13 _ => k - (intOf v13).toNat)
  case atStart => exact ⟨0, rfl, Nat.zero_le _, HS.out, AllC.zero _ _, Below.refl _ _⟩
  case round =>
    obtain ⟨j, rfl, hj, hS, hA, hbr⟩ := hrel
    have HSJ := Lib.hid hS
    have HAJ := Lib.hid hA
    have HBR := Lib.hid hbr
    have k0 := HG.out _ hbr
    have hbw := HB1.out.trans (hbr.mono (Nat.le_succ _))
    have HBW := Lib.hid hbw
    by_cases hlt : j < k
    · have hjl : j < l.length := by rw [HL.out]; exact hlt
      obtain ⟨gC, oC, rfl, hgC, hcC⟩ := (HC.out _ (Below.refl _ _)).at_ hlt
      have y1 := (hbw.cell (p := ⟨gC, oC + j, none⟩) hgC).trans hcC
      have HJL := Lib.hid hjl
      have p1 : (0 : Int) ≤ (j : Int) := by omega
      have p2 : (j : Int) < (k : Int) := by omega
      by_cases hx0 : l.getD j 0 < 0
      · have HE := Lib.hid (hA.bad hjl (chcF_rng (i := i) (l := l) (j := j) (by omega)) (by decide))
        obtain ⟨x, hx⟩ : ∃ x, x = l.getD j 0 := ⟨_, rfl⟩
        rw [← hx] at y1 hx0
        have d1 : decide (x < 0) = true := by simpa using hx0
        clear hx hx0 hS hA hbr hbw hcC hgC
        go_wp2_with fail
        go_ret
        exact ⟨by rw [HE.out]; rfl, HBW.out⟩
      obtain ⟨x, hx⟩ : ∃ x : Nat, l.getD j 0 = (x : Int) := ⟨(l.getD j 0).toNat, by omega⟩
      rw [hx] at y1
      have d1 : decide ((x : Int) < 0) = false := by simp
      by_cases hxi : x < i
      · have d2 : decide ((i : Int) ≤ (x : Int)) = false := by simp; omega
        have d3 : decide (i ≤ x) = false := by simp; omega
        obtain ⟨s0, s1⟩ := hS.at_ (p := x) (by omega)
        have q3 : (0 : Int) ≤ (x : Int) := by omega
        have q4 : (x : Int) < 64 := by omega
        cases hin : inL l j x with
        | true =>
          have HE := Lib.hid (hA.bad hjl (chcF_in hx hxi hin) (by decide))
          rw [hin] at s0
          clear hx hx0 hS hA hbr hbw hcC hgC hin hxi
          go_wp2_with fail
          go_ret
          exact ⟨by rw [HE.out]; rfl, HBW.out⟩
        | false =>
          have HA2 := Lib.hid (hA.succ (chcF_ok hx hxi hin))
          have hS2 := hS.set x
          rw [inL_next hjl hx] at hS2
          have HS2 := Lib.hid hS2
          rw [hin] at s0
          have HB2 := Lib.hid (hbr.setCell (p := ⟨w.heap.size + 1, x, none⟩) (Nat.le_refl _) (.bool true))
          clear hx hx0 hS hA hbr hbw hcC hgC hin hS2 hxi
          go_wp2_with fail
          go_roundw
          case rel => exact ⟨j + 1, by go_num, by omega, HS2.out, HA2.out, HB2.out⟩
          case measure => simp [intOf]; omega
      · have d2 : decide ((i : Int) ≤ (x : Int)) = true := by simp; omega
        have d3 : decide (i ≤ x) = true := by simp; omega
        have HE := Lib.hid (hA.bad hjl (chcF_rng (i := i) (l := l) (j := j) (by omega)) (by decide))
        clear hx hx0 hS hA hbr hbw hcC hgC hxi
        go_wp2_with fail
        go_ret
        exact ⟨by rw [HE.out]; rfl, HBW.out⟩
    · obtain rfl : j = k := by omega
      have HE := Lib.hid (show chcE i l = 0 from AllC.all (by rw [HL.out]; exact hA) (by rw [HL.out]; exact HK.out))
      clear hS hA hbr hbw
      go_wp2_with fail
      go_ret
      exact ⟨by rw [HE.out]; rfl, HBW.out⟩
end Go.Proofs.Ytogcecfeofbbnaa
end

section
/- Restrict of the program. -/
namespace Go.Proofs.Ytogcecfeofbbnaa
open Go.RowKit

set_option linter.unusedSimpArgs false in
set_option linter.unusedVariables false in
set_option maxHeartbeats 8000000 in
set_option maxRecDepth 100000 in
theorem prestrict (i st n : Nat) (A B C : Option Addr) (c d m e : Nat) (nx ot : List (List Int)) (l : List Int) (w : World) (hx : Lists w A n nx) (ho : Lists w B n ot) (hC : Ints w C m l) (hM : Mok i st n nx ot) (hch : chcE i l = 0) :
    Calls Try.prog 39 #[.agg #[.int .i64 i, .int .i64 st, .slice A n c, .slice B n d], .slice C m e] w fun e w' =>
      TrmP w.heap.size l.length (trN (rsN l nx) l.length (rch (rsN l nx) l.length st)) (trO (rsN l ot) (rch (rsN l nx) l.length st)) (rch (rsN l nx) l.length st).length e w' ∧ Below w.heap.size w w' := by
  obtain ⟨hCh, hl0⟩ := chcE_zero hch
  have hli := hCh.len
  obtain rfl : m = l.length := hC.1.symm
  obtain ⟨w0, hw0, hb0, hG, hR, hz0⟩ := two_boxesR w i st A B n c n d
  obtain ⟨k0, k1, k2, k3, _⟩ := hG.cells
  have HX := Lib.hid (fun (W : World) (h : Below w0.heap.size w0 W) => (hx.below hb0).below h)
  have HO := Lib.hid (fun (W : World) (h : Below w0.heap.size w0 W) => (ho.below hb0).below h)
  have HC := Lib.hid (fun (W : World) (h : Below w0.heap.size w0 W) => (hC.below hb0).below h)
  have HW0 := Lib.hid hw0
  have HB0 := Lib.hid hb0
  have HG := Lib.hid hG
  have HR := Lib.hid hR
  have HZ := Lib.hid hz0
  have HV := Lib.hid hM.vld
  have hi2 := hM.i2
  have hn2 := hM.n2
  have hnxl := hM.nxl
  have hotl := hM.otl
  have HMR := Lib.hid (hM.rs hCh hl0)
  have HM := Lib.hid hM
  have HCH := Lib.hid hCh
  have HCE := Lib.hid hch
  obtain ⟨L, hL⟩ : ∃ L, L = l.length := ⟨_, rfl⟩
  rw [← hL] at HC HMR hli hl0 ⊢
  have HLL := Lib.hid hL
  have HCC := Lib.hid (pchoice i st A B C n c n d L e l)
  clear hw0 hb0 hG hR hz0 hx ho hC hM hCh hch hL
  rw [HW0.out] at k0 k1 k2 k3
  go_enter Try.func39, Try.ntmps39
  go_wp2_with fail
  rw [← HW0.out]
  refine (pvalid _ _ _ _ _ _ _ _ _ _ _ (HX.out _ (Below.refl _ _)) (HO.out _ (Below.refl _ _))).mono ?_
  rintro e1 w1 ⟨rfl, b1⟩
  rw [HV.out]
  have HB1 := Lib.hid b1
  clear k0 k1 k2 k3
  obtain ⟨k0, k1, k2, k3, _⟩ := (HG.out.on b1).cells
  clear b1
  go_wp2_with fail
  refine (HCC.out _ (HC.out _ HB1.out) hi2).mono ?_
  rintro e2 w2 ⟨rfl, b2⟩
  rw [HCE.out]
  have HB2 := Lib.hid (bt HB1.out b2)
  clear k0 k1 k2 k3 b2
  obtain ⟨wx, hwx⟩ : ∃ wx, wx = w2.alloc (.cells #[.int .i64 L, .int .i64 st, .slice none 0 0, .slice none 0 0] 24) := ⟨_, rfl⟩
  have bx : Below w2.heap.size w2 wx := by rw [hwx]; exact alloc_below _ _
  obtain ⟨gX, hgX⟩ : ∃ gX, gX = w2.heap.size := ⟨_, rfl⟩
  have hBX : Mrs wx w0.heap.size gX L st [] [] none none 0 0 := by rw [hwx, hgX]; exact Mrs.new w2 _ _ _
  have HBX := Lib.hid hBX
  have HX0 := Lib.hid (bt HB2.out bx)
  have HGX := Lib.hid (show w0.heap.size ≤ gX by rw [hgX]; exact HB2.out.size)
  have HGE := Lib.hid hgX
  have HWX := Lib.hid hwx
  obtain ⟨k0, k1, k2, k3, _⟩ := (HG.out.on HB2.out).cells
  obtain ⟨y0, y1, y2, y3, _⟩ := (HG.out.on HX0.out).cells
  rw [hwx] at y0 y1 y2 y3
  clear hwx bx hgX hBX
  go_wp2_with fail
  rw [← HWX.out, ← HGE.out]
  clear k0 k1 k2 k3 y0 y1 y2 y3
  go_loopw [31] (fun v31 wr => ∃ (k : Nat) (AN AT : Option Addr) (cN cT : Nat), v31 = .int .i64 k ∧ k ≤ n ∧ Mrs wr w0.heap.size gX L st ((rsN l nx).take k) ((rsN l ot).take k) AN AT cN cT ∧ Below w0.heap.size w0 wr) (fun v31 _ => n - (intOf v31).toNat)
  case atStart => exact ⟨0, none, none, 0, 0, rfl, Nat.zero_le _, by simpa using HBX.out, HX0.out⟩
  case round =>
    obtain ⟨k, AN, AT, cN, cT, rfl, hk, hMk, hbr⟩ := hrel
    by_cases hkn : k < n
    · have HNk := Lib.hid (show ((rsN l nx).take k).length = k by rw [List.length_take, rsN_len]; omega)
      have HTk := Lib.hid (show ((rsN l ot).take k).length = k by rw [List.length_take, rsN_len]; omega)
      have hlN : k < nx.length := by omega
      have hlT : k < ot.length := by omega
      have HNN := Lib.hid (rsN_next (l := l) hlN)
      have HTN := Lib.hid (rsN_next (l := l) hlT)
      obtain ⟨gN, oN', A1, n1, c1, rfl, lN, hdN, hrN⟩ := (HX.out _ (Below.refl _ _)).at_ hkn
      obtain ⟨gT, oT', A3, n3, c3, rfl, lT, hdT, hrT⟩ := (HO.out _ (Below.refl _ _)).at_ hkn
      have hrow := HM.out.row k hkn
      obtain rfl : i = n1 := by rw [← hrN.1]; exact hrow.1.symm
      obtain rfl : i = n3 := by rw [← hrT.1]; exact hrow.2.1.symm
      have e1 := (hbr.cell (p := ⟨gN, oN' + k, none⟩) lN).trans hdN
      have hdN := Lib.hid hdN
      have hdT := Lib.hid hdT
      have HPK := Lib.hid (fun (W : World) (h : Below w0.heap.size w0 W) => ppick A1 C i c1 L e (nx.getD k []) l W (hrN.below h) (HC.out _ h) HCH.out.2 (by omega))
      have HPT := Lib.hid (fun (W : World) (h : Below w0.heap.size w0 W) => ppick A3 C i c3 L e (ot.getD k []) l W (hrT.below h) (HC.out _ h) HCH.out.2 (by omega))
      have HMK := Lib.hid hMk
      have HBW := Lib.hid hbr
      have m2 := hMk.blk.cells.2.2.1
      rw [HNk.out] at m2
      have j2 := (HG.out.on hbr).cells.2.2.1
      have HS2 := Lib.hid (show wr.drew.cell? ⟨gX, 2, none⟩ = some (.slice AN k cN) ∧ wr.drew.cell? ⟨w.heap.size, 2, none⟩ = some (.slice (some ⟨gN, oN', none⟩) n c) ∧ wr.drew.cell? ⟨gN, oN' + k, none⟩ = some (.slice A1 i c1) from ⟨m2, j2, e1⟩)
      have HPK1 := Lib.hid (HPK.out wr.drew (below_drewN hbr 1))
      have q1 : (0 : Int) ≤ (k : Int) := by omega
      have q2 : (k : Int) < (n : Int) := by omega
      clear hMk hbr hrow e1 m2 j2 hrN hrT HPK hnxl hotl hlN hlT
      go_wp2_with fail
      refine wp_region_heldX (X := fun k => [12].contains k) (S := fun W => W.cell? ⟨gX, 2, none⟩ = some (.slice AN k cN) ∧ W.cell? ⟨w.heap.size, 2, none⟩ = some (.slice (some ⟨gN, oN', none⟩) n c) ∧ W.cell? ⟨gN, oN' + k, none⟩ = some (.slice A1 i c1)) (by kernel_rfl) ?_
      refine wpAnyX_pure (i := 0) (v := ?_) rfl (by kernel_rfl) (by kernel_rfl) (by kernel_rfl) (fun _ _ _ h => h) (Or.inl ⟨by rfl, ?_⟩) ?_
      rotate_left
      · (intro W _; go_simp; try with_reducible rfl)
      (try simp only [Act.put, List.setIfInBounds_toArray, List.set_cons_zero, List.set_cons_succ])
      refine wpAnyX_takeL (L := [12]) (i := 1) (v := ?_) rfl (by kernel_rfl) (by kernel_rfl) (by kernel_rfl) (by kernel_rfl) (fun _ _ _ h => h) (Or.inl ⟨by rfl, ?_⟩) HS2.out ?_
      rotate_left
      · (intro W hSW; (try dsimp only at hSW); obtain ⟨z0, z1, z2⟩ := hSW; go_simp; try with_reducible rfl)
      (try simp only [Act.put, List.setIfInBounds_toArray, List.set_cons_zero, List.set_cons_succ])
      refine wpAnyX_pure (i := 2) (v := ?_) rfl (by kernel_rfl) (by kernel_rfl) (by kernel_rfl) (fun _ _ _ h => h) (Or.inl ⟨by rfl, ?_⟩) ?_
      rotate_left
      · (intro W _; go_simp; try with_reducible rfl)
      (try simp only [Act.put, List.setIfInBounds_toArray, List.set_cons_zero, List.set_cons_succ])
      refine wpAnyX_takeL (L := [12]) (i := 3) (v := ?_) rfl (by kernel_rfl) (by kernel_rfl) (by kernel_rfl) (by kernel_rfl) (fun _ _ _ h => h) (Or.inl ⟨by rfl, ?_⟩) HS2.out ?_
      rotate_left
      · (intro W hSW; (try dsimp only at hSW); obtain ⟨z0, z1, z2⟩ := hSW; go_simp; try with_reducible rfl)
      (try simp only [Act.put, List.setIfInBounds_toArray, List.set_cons_zero, List.set_cons_succ])
      refine wpAnyX_pure (i := 4) (v := ?_) rfl (by kernel_rfl) (by kernel_rfl) (by kernel_rfl) (fun _ _ _ h => h) (Or.inl ⟨by rfl, ?_⟩) ?_
      rotate_left
      · (intro W _; go_simp; try with_reducible rfl)
      (try simp only [Act.put, List.setIfInBounds_toArray, List.set_cons_zero, List.set_cons_succ])
      refine wpAnyX_pure (i := 5) (v := ?_) rfl (by kernel_rfl) (by kernel_rfl) (by kernel_rfl) (fun _ _ _ h => h) (Or.inl ⟨by rfl, ?_⟩) ?_
      rotate_left
      · (intro W _; go_simp; try with_reducible rfl)
      (try simp only [Act.put, List.setIfInBounds_toArray, List.set_cons_zero, List.set_cons_succ])
      refine wpAnyX_takeL (L := [12]) (i := 6) (v := ?_) rfl (by kernel_rfl) (by kernel_rfl) (by kernel_rfl) (by kernel_rfl) (fun _ _ _ h => h) (Or.inl ⟨by rfl, ?_⟩) HS2.out ?_
      rotate_left
      · (intro W hSW; (try dsimp only at hSW); obtain ⟨z0, z1, z2⟩ := hSW; go_simp; try with_reducible rfl)
      (try simp only [Act.put, List.setIfInBounds_toArray, List.set_cons_zero, List.set_cons_succ])
      refine wpAnyX_pure (i := 7) (v := ?_) rfl (by kernel_rfl) (by kernel_rfl) (by kernel_rfl) (fun _ _ _ h => h) (Or.inl ⟨by rfl, ?_⟩) ?_
      rotate_left
      · (intro W _; go_simp; try with_reducible rfl)
      (try simp only [Act.put, List.setIfInBounds_toArray, List.set_cons_zero, List.set_cons_succ])
      refine wpAnyX_one (i := 8) rfl (by kernel_rfl) (fun K hK => ?_)
      go_simp
      go_at_call 79
      refine HPK1.out.mono ?_
      rintro e w9 ⟨A9, c9, rfl, o9, b9⟩
      (try go_wp2_with fail)
      refine hK.out _ _ (fun _ hS => ⟨((b9.cell (p := ⟨gX, 2, none⟩) (World.block_lt_of_cell? _ _ hS.1)).trans hS.1), ((b9.cell (p := ⟨w.heap.size, 2, none⟩) (World.block_lt_of_cell? _ _ hS.2.1)).trans hS.2.1), ((b9.cell (p := ⟨gN, oN' + k, none⟩) (World.block_lt_of_cell? _ _ hS.2.2)).trans hS.2.2)⟩) ?_
      (try simp only [Act.put, List.setIfInBounds_toArray, List.set_cons_zero, List.set_cons_succ])
      have hbd := bt (below_drewN (Below.refl _ _) 1) b9
      have hM9 := HMK.out.kept hbd
      have hb9 := bt HBW.out hbd
      have o9 := o9.lower HBW.out.size
      have hz9 := hb9.size
      obtain ⟨A2, c2, w10, hr, l2, f2, bq, hM10, b10, kt10⟩ := hM9.addN o9 hz9 HGX.out (by rw [List.length_take]; omega)
      rw [HNk.out] at hr l2 hM10 b10 kt10
      have HM2 := Lib.hid hM10
      have HB2 := Lib.hid (hb9.trans b10)
      have l9 := hM9.blk.cells.2.2.1
      rw [HNk.out] at l9
      have l8 := (((HG.out.on (show Below w0.heap.size w0 w9 from hb9)).cells).2.2.1)
      have l7 := (hb9.cell (p := ⟨gN, oN' + k, none⟩) lN).trans hdN.out
      have l6 := (((HG.out.on (hb9.trans bq)).cells).2.2.1)
      have l5 := ((hb9.trans bq).cell (p := ⟨gN, oN' + k, none⟩) lN).trans hdN.out
      clear hM9 hb9 o9 hM10 b10 kt10 b9 hbd bq
      refine wpAnyX_one (i := 9) rfl (by kernel_rfl) (fun K hK => ?_)
      go_simp
      refine hK.out _ _ (fun _ _ => ⟨cellAl l9, cellAl l8, cellAl l7⟩) ?_
      (try simp only [Act.put, List.setIfInBounds_toArray, List.set_cons_zero, List.set_cons_succ])
      refine wpAnyX_one (i := 10) rfl (by kernel_rfl) (fun K hK => ?_)
      refine step_app rfl _ _ _ _ rfl _ _ rfl rfl _ _ hr ?_
      refine hK.out _ _ (fun _ _ => ⟨l2, l6, l5⟩) ?_
      (try simp only [Act.put, List.setIfInBounds_toArray, List.set_cons_zero, List.set_cons_succ])
      refine wpAnyX_pure (i := 11) (v := ?_) rfl (by kernel_rfl) (by kernel_rfl) (by kernel_rfl) (fun _ _ _ h => h) (Or.inl ⟨by rfl, ?_⟩) ?_
      rotate_left
      · (intro W _; go_simp; try with_reducible rfl)
      (try simp only [Act.put, List.setIfInBounds_toArray, List.set_cons_zero, List.set_cons_succ])
      refine wpAnyX_one (i := 12) rfl (by kernel_rfl) (fun K hK => ?_)
      go_simp
      refine hK.out _ _ (fun h => absurd h (by decide)) ?_
      (try simp only [Act.put, List.setIfInBounds_toArray, List.set_cons_zero, List.set_cons_succ])
      refine wpAnyX_done (by kernel_rfl) ?_ _
      clear l9 l8 l7 l6 l5 l2 f2 hr
      rw [HNN.out] at HM2
      obtain ⟨wA, hwA⟩ : ∃ wA, wA = w10.setCell ⟨gX, 2, none⟩ (.slice A2 (k + 1) c2) := ⟨_, rfl⟩
      rw [← hwA] at HM2 HB2
      have HWA := Lib.hid hwA
      have hMk := HM2.out
      have hbr := HB2.out
      have e1 := (hbr.cell (p := ⟨gT, oT' + k, none⟩) lT).trans hdT.out
      have HPT1 := Lib.hid (HPT.out wA.drew (below_drewN hbr 1))
      have m3 := hMk.blk.cells.2.2.2.1
      rw [HTk.out] at m3
      have j3 := (HG.out.on hbr).cells.2.2.2.1
      have HS3 := Lib.hid (show wA.drew.cell? ⟨gX, 3, none⟩ = some (.slice AT k cT) ∧ wA.drew.cell? ⟨w.heap.size, 3, none⟩ = some (.slice (some ⟨gT, oT', none⟩) n d) ∧ wA.drew.cell? ⟨gT, oT' + k, none⟩ = some (.slice A3 i c3) from ⟨m3, j3, e1⟩)
      clear hwA hMk hbr e1 m3 j3 HPT
      go_wp2_with fail
      rw [← HWA.out]
      refine wp_region_heldX (X := fun k => [12].contains k) (S := fun W => W.cell? ⟨gX, 3, none⟩ = some (.slice AT k cT) ∧ W.cell? ⟨w.heap.size, 3, none⟩ = some (.slice (some ⟨gT, oT', none⟩) n d) ∧ W.cell? ⟨gT, oT' + k, none⟩ = some (.slice A3 i c3)) (by kernel_rfl) ?_
      refine wpAnyX_pure (i := 0) (v := ?_) rfl (by kernel_rfl) (by kernel_rfl) (by kernel_rfl) (fun _ _ _ h => h) (Or.inl ⟨by rfl, ?_⟩) ?_
      rotate_left
      · (intro W _; go_simp; try with_reducible rfl)
      (try simp only [Act.put, List.setIfInBounds_toArray, List.set_cons_zero, List.set_cons_succ])
      refine wpAnyX_takeL (L := [12]) (i := 1) (v := ?_) rfl (by kernel_rfl) (by kernel_rfl) (by kernel_rfl) (by kernel_rfl) (fun _ _ _ h => h) (Or.inl ⟨by rfl, ?_⟩) HS3.out ?_
      rotate_left
      · (intro W hSW; (try dsimp only at hSW); obtain ⟨z0, z1, z2⟩ := hSW; go_simp; try with_reducible rfl)
      (try simp only [Act.put, List.setIfInBounds_toArray, List.set_cons_zero, List.set_cons_succ])
      refine wpAnyX_pure (i := 2) (v := ?_) rfl (by kernel_rfl) (by kernel_rfl) (by kernel_rfl) (fun _ _ _ h => h) (Or.inl ⟨by rfl, ?_⟩) ?_
      rotate_left
      · (intro W _; go_simp; try with_reducible rfl)
      (try simp only [Act.put, List.setIfInBounds_toArray, List.set_cons_zero, List.set_cons_succ])
      refine wpAnyX_takeL (L := [12]) (i := 3) (v := ?_) rfl (by kernel_rfl) (by kernel_rfl) (by kernel_rfl) (by kernel_rfl) (fun _ _ _ h => h) (Or.inl ⟨by rfl, ?_⟩) HS3.out ?_
      rotate_left
      · (intro W hSW; (try dsimp only at hSW); obtain ⟨z0, z1, z2⟩ := hSW; go_simp; try with_reducible rfl)
      (try simp only [Act.put, List.setIfInBounds_toArray, List.set_cons_zero, List.set_cons_succ])
      refine wpAnyX_pure (i := 4) (v := ?_) rfl (by kernel_rfl) (by kernel_rfl) (by kernel_rfl) (fun _ _ _ h => h) (Or.inl ⟨by rfl, ?_⟩) ?_
      rotate_left
      · (intro W _; go_simp; try with_reducible rfl)
      (try simp only [Act.put, List.setIfInBounds_toArray, List.set_cons_zero, List.set_cons_succ])
      refine wpAnyX_pure (i := 5) (v := ?_) rfl (by kernel_rfl) (by kernel_rfl) (by kernel_rfl) (fun _ _ _ h => h) (Or.inl ⟨by rfl, ?_⟩) ?_
      rotate_left
      · (intro W _; go_simp; try with_reducible rfl)
      (try simp only [Act.put, List.setIfInBounds_toArray, List.set_cons_zero, List.set_cons_succ])
      refine wpAnyX_takeL (L := [12]) (i := 6) (v := ?_) rfl (by kernel_rfl) (by kernel_rfl) (by kernel_rfl) (by kernel_rfl) (fun _ _ _ h => h) (Or.inl ⟨by rfl, ?_⟩) HS3.out ?_
      rotate_left
      · (intro W hSW; (try dsimp only at hSW); obtain ⟨z0, z1, z2⟩ := hSW; go_simp; try with_reducible rfl)
      (try simp only [Act.put, List.setIfInBounds_toArray, List.set_cons_zero, List.set_cons_succ])
      refine wpAnyX_pure (i := 7) (v := ?_) rfl (by kernel_rfl) (by kernel_rfl) (by kernel_rfl) (fun _ _ _ h => h) (Or.inl ⟨by rfl, ?_⟩) ?_
      rotate_left
      · (intro W _; go_simp; try with_reducible rfl)
      (try simp only [Act.put, List.setIfInBounds_toArray, List.set_cons_zero, List.set_cons_succ])
      refine wpAnyX_one (i := 8) rfl (by kernel_rfl) (fun K hK => ?_)
      go_simp
      go_at_call 79
      refine HPT1.out.mono ?_
      rintro e w9 ⟨A9, c9, rfl, o9, b9⟩
      (try go_wp2_with fail)
      refine hK.out _ _ (fun _ hS => ⟨((b9.cell (p := ⟨gX, 3, none⟩) (World.block_lt_of_cell? _ _ hS.1)).trans hS.1), ((b9.cell (p := ⟨w.heap.size, 3, none⟩) (World.block_lt_of_cell? _ _ hS.2.1)).trans hS.2.1), ((b9.cell (p := ⟨gT, oT' + k, none⟩) (World.block_lt_of_cell? _ _ hS.2.2)).trans hS.2.2)⟩) ?_
      (try simp only [Act.put, List.setIfInBounds_toArray, List.set_cons_zero, List.set_cons_succ])
      have hbd := bt (below_drewN (Below.refl _ _) 1) b9
      have hM9 := HM2.out.kept hbd
      have hb9 := bt HB2.out hbd
      have o9 := o9.lower HB2.out.size
      have hz9 := hb9.size
      obtain ⟨A4, c4, w11, hr, l2, f2, bq, hM10, b10, kt10⟩ := hM9.addT o9 hz9 HGX.out (by rw [List.length_take]; omega)
      rw [HTk.out] at hr l2 hM10 b10 kt10
      have HM3 := Lib.hid hM10
      have HB3 := Lib.hid (hb9.trans b10)
      have l9 := hM9.blk.cells.2.2.2.1
      rw [HTk.out] at l9
      have l8 := (((HG.out.on (show Below w0.heap.size w0 w9 from hb9)).cells).2.2.2.1)
      have l7 := (hb9.cell (p := ⟨gT, oT' + k, none⟩) lT).trans hdT.out
      have l6 := (((HG.out.on (hb9.trans bq)).cells).2.2.2.1)
      have l5 := ((hb9.trans bq).cell (p := ⟨gT, oT' + k, none⟩) lT).trans hdT.out
      clear hM9 hb9 o9 hM10 b10 kt10 b9 hbd bq
      refine wpAnyX_one (i := 9) rfl (by kernel_rfl) (fun K hK => ?_)
      go_simp
      refine hK.out _ _ (fun _ _ => ⟨cellAl l9, cellAl l8, cellAl l7⟩) ?_
      (try simp only [Act.put, List.setIfInBounds_toArray, List.set_cons_zero, List.set_cons_succ])
      refine wpAnyX_one (i := 10) rfl (by kernel_rfl) (fun K hK => ?_)
      refine step_app rfl _ _ _ _ rfl _ _ rfl rfl _ _ hr ?_
      refine hK.out _ _ (fun _ _ => ⟨l2, l6, l5⟩) ?_
      (try simp only [Act.put, List.setIfInBounds_toArray, List.set_cons_zero, List.set_cons_succ])
      refine wpAnyX_pure (i := 11) (v := ?_) rfl (by kernel_rfl) (by kernel_rfl) (by kernel_rfl) (fun _ _ _ h => h) (Or.inl ⟨by rfl, ?_⟩) ?_
      rotate_left
      · (intro W _; go_simp; try with_reducible rfl)
      (try simp only [Act.put, List.setIfInBounds_toArray, List.set_cons_zero, List.set_cons_succ])
      refine wpAnyX_one (i := 12) rfl (by kernel_rfl) (fun K hK => ?_)
      go_simp
      refine hK.out _ _ (fun h => absurd h (by decide)) ?_
      (try simp only [Act.put, List.setIfInBounds_toArray, List.set_cons_zero, List.set_cons_succ])
      refine wpAnyX_done (by kernel_rfl) ?_ _
      clear l9 l8 l7 l6 l5 l2 f2 hr
      rw [HTN.out] at HM3
      go_wp2_with fail
      go_roundw
      case rel => exact ⟨k + 1, A2, A4, c2, c4, by go_num, by omega, HM3.out, HB3.out⟩
      case measure => simp [intOf]; omega
    · obtain rfl : k = n := by omega
      have hnl : (rsN l nx).length = k := by rw [rsN_len, hnxl]
      have htl : (rsN l ot).length = k := by rw [rsN_len, hotl]
      rw [List.take_of_length_le (by omega), List.take_of_length_le (by omega)] at hMk
      have HBR := Lib.hid hbr
      have hlN := lists_ownedM HMR.out (by have := hMk.nx; rw [hnl] at this; exact this)
      have hlT := lists_ownedO HMR.out (by have := hMk.ot; rw [htl] at this; exact this)
      have HT := Lib.hid (ptrim_ok L st k AN AT cN cT (rsN l nx) (rsN l ot) wr hlN hlT HMR.out)
      obtain ⟨k0, k1, k2, k3, _⟩ := hMk.blk.cells
      rw [hnl] at k2
      rw [htl] at k3
      clear hMk hbr hlN hlT hnl htl hnxl hotl
      go_wp2_with fail
      refine HT.out.mono ?_
      rintro e5 w5 ⟨A5, c5, B5, d5, rfl, o5, p5, b5⟩
      have b05 := bt HBR.out b5
      have hzz := HZ.out
      have HR5 := Lib.hid (HR.out.on b05)
      obtain ⟨q0, q1, q2, q3, z0, z1, z2, z3⟩ := HR5.out.cells
      have HB05 := Lib.hid (bt HB0.out b05)
      have HO5 := Lib.hid o5
      have HP5 := Lib.hid p5
      have hz5 := HBR.out.size
      have HZ5 := Lib.hid (show w.heap.size ≤ wr.heap.size by omega)
      clear b5 b05 o5 p5 k0 k1 k2 k3
      go_wp2_with fail
      refine bodyPost_ret (results_mealy rfl _ _ (w.heap.size + 1) _ _ _ _ rfl (HR5.out.set4 _ _ _ _)) rfl ?_
      exact ⟨⟨A5, c5, B5, d5, rfl, (HO5.out.keptT (HR5.out.set4' _ _ _ _ (by decide)) (HR5.out.set4' _ _ _ _ (by decide))).lower HZ5.out, (HP5.out.keptT (HR5.out.set4' _ _ _ _ (by decide)) (HR5.out.set4' _ _ _ _ (by decide))).lower HZ5.out⟩, below_set4 (by omega) HB05.out _ _ _ _⟩
end Go.Proofs.Ytogcecfeofbbnaa
end

section
/- Restrict with a list that is not permitted. -/
namespace Go.Proofs.Ytogcecfeofbbnaa
open Go.RowKit

set_option maxHeartbeats 2000000 in
set_option maxRecDepth 100000 in
theorem prestrict_no (i st n : Nat) (A B C : Option Addr) (c d m e : Nat) (nx ot : List (List Int)) (l : List Int) (w : World) (hx : Lists w A n nx) (ho : Lists w B n ot) (hC : Ints w C m l) (hM : Mok i st n nx ot) (hch : ¬ chcE i l = 0) :
    Calls Try.prog 39 #[.agg #[.int .i64 i, .int .i64 st, .slice A n c, .slice B n d], .slice C m e] w fun r w' => r = NoM (chcE i l) ∧ Below w.heap.size w w' := by
  obtain ⟨w0, hw0, hb0, hG, hR, hz0⟩ := two_boxesR w i st A B n c n d
  obtain ⟨k0, k1, k2, k3, _⟩ := hG.cells
  have HX := Lib.hid (hx.below hb0)
  have HO := Lib.hid (ho.below hb0)
  have HC := Lib.hid (fun (W : World) (h : Below w0.heap.size w0 W) => (hC.below hb0).below h)
  have HW0 := Lib.hid hw0
  have HB0 := Lib.hid hb0
  have HG := Lib.hid hG
  have HR := Lib.hid hR
  have HZ := Lib.hid hz0
  have HV := Lib.hid hM.vld
  have hi2 := hM.i2
  obtain ⟨x, hx0, hxe⟩ : ∃ x, ¬ x = 0 ∧ chcE i l = x := ⟨_, hch, rfl⟩
  have HXE := Lib.hid hxe
  have t1 : (x != 0) = true := by simpa using hx0
  clear hw0 hb0 hG hR hz0 hx ho hM hC hch hxe
  rw [HW0.out] at k0 k1 k2 k3
  go_enter Try.func39, Try.ntmps39
  go_wp2_with fail
  rw [← HW0.out]
  refine (pvalid _ _ _ _ _ _ _ _ _ _ _ HX.out HO.out).mono ?_
  rintro e1 w1 ⟨rfl, b1⟩
  rw [HV.out]
  have HB1 := Lib.hid b1
  clear k0 k1 k2 k3
  obtain ⟨k0, k1, k2, k3, _⟩ := (HG.out.on b1).cells
  clear b1
  go_wp2_with fail
  refine (pchoice i st A B C n c n d m e l _ (HC.out _ HB1.out) hi2).mono ?_
  rintro e1 w2 ⟨rfl, b2⟩
  rw [HXE.out]
  have HB2 := Lib.hid (bt HB1.out b2)
  have HRr := Lib.hid (HR.out.on HB2.out)
  obtain ⟨q0, q1, q2, q3, z0, z1, z2, z3⟩ := HRr.out.cells
  clear k0 k1 k2 k3 b2
  go_wp2_with fail
  refine bodyPost_ret (results_mealy rfl _ _ (w.heap.size + 1) (.int .i64 0) (.int .i64 0) (.slice none 0 0) (.slice none 0 0) rfl (HRr.out.set4 _ _ _ _)) rfl ?_
  exact ⟨by rw [HXE.out]; rfl, below_set4 (by omega) (bt HB0.out HB2.out) _ _ _ _⟩
end Go.Proofs.Ytogcecfeofbbnaa
end
