/- Lemmas of the proofs of this seat, of the parts Dbol, OwnX, Dbld, Nmbp, Ptp, Trimp, Qtp, Dcan, Fromp, Gcp, Trimq. Conditions: none. -/
import Derived.Test.YtogcecfeofbbnaaNab
import Derived.Test.YtogcecfeofbbnaaNaa
section
/- Rows of truth values of the call's own. -/
namespace Go.Proofs.Ytogcecfeofbbnaa
open Go.RowKit

def cellsB (b : Bool) : List Value := [.bool b]
theorem infoB : (Try.prog.info? 4).map (fun i => (i.zero, i.size, i.bytes)) = some (some (.bool false), 1, 1) := by kernel_rfl
/-- append of one truth value. -/
theorem run_append_b {w : World} {base : Nat} {v : Value} {bs : List Bool} (h : Rws w base 4 1 v (bs.map cellsB)) (b : Bool) (hbase : base ≤ w.heap.size) (hn : bs.length < 1099511627776) :
    ∃ A c w1, (Builtin.append_ #[49, 49] 49 #[v, .slice (some ⟨w.heap.size, 0, none⟩) 1 1]).run Try.prog (w.alloc (.cells #[.bool b] 4)) = .ok (.slice A (bs.length + 1) c) w1 ∧
      Rws w1 base 4 1 (.slice A (bs.length + 1) c) ((bs ++ [b]).map cellsB) ∧ Below base w w1 ∧ ∀ t', t' ≠ 4 → KeptT t' w w1 := by
  obtain ⟨i, hi, hz0, hz1, hz2⟩ := info_parts infoB
  have hl : (bs.map cellsB).length = bs.length := List.length_map _
  obtain ⟨A, c, w1, h1, h2, h3, h4⟩ := run_append_rws Try.underlying49 hi hz0 hz1 hz2 rfl (by decide) (by decide) h (cellsB b) rfl (fun u hu => by simp [cellsB] at hu; subst hu; rfl) hbase (by rw [hl]; exact hn)
  rw [hl] at h1 h2
  exact ⟨A, c, w1, h1, by rw [List.map_append]; exact h2, h3, h4⟩
theorem Rws.bools {w : World} {base : Nat} {A : Option Addr} {n c : Nat} {bs : List Bool} (h : Rws w base 4 1 (.slice A n c) (bs.map cellsB)) (hl : bs.length = n) (hn : n ≤ 17592186044416) : Bools w A n bs := by
  refine ⟨hl, hn, fun h0 => ?_⟩
  obtain ⟨g, c', e, _, hg, _, hat⟩ := h.at_ (by rw [List.length_map]; omega)
  injection e with e1 _ _
  subst e1
  refine ⟨g, 0, rfl, hg, fun j hj => ?_⟩
  have hjl : j < bs.length := by omega
  have := hat j 0 (by rw [List.length_map]; exact hjl) (by decide)
  rw [show j * 1 + 0 = 0 + j by omega] at this
  rw [this, List.getD_eq_getElem?_getD, List.getD_eq_getElem?_getD, List.getElem?_map, List.getElem?_eq_getElem hjl]
  rfl
end Go.Proofs.Ytogcecfeofbbnaa
end

section
/- A row of numbers that grows beside a row of lists. -/
namespace Go.Proofs.Ytogcecfeofbbnaa
open Go.RowKit

/-- A row of lists, whose lists lie apart from the block of s. -/
def OwnedX (w : World) (base : Nat) (s v : Value) (xss : List (List Int)) : Prop :=
  ∃ vs : List Value, w.ownsRow base 27 1 v xss.length vs ∧ ∀ j, j < xss.length → ∃ A c, vs[j]? = some (.slice A (xss.getD j []).length c) ∧ Owned w base (.slice A (xss.getD j []).length c) (xss.getD j []) ∧ Apart s (.slice A (xss.getD j []).length c)
theorem OwnedX.toL {w : World} {base : Nat} {s v : Value} {xss : List (List Int)} (h : OwnedX w base s v xss) : OwnedL w base v xss := by
  obtain ⟨vs, ho, hr⟩ := h
  refine ⟨vs, ho, fun j hj => ?_⟩
  obtain ⟨A, c, h1, h2, _⟩ := hr j hj
  exact ⟨A, c, h1, h2⟩
theorem Owned.lt {w : World} {base : Nat} {v : Value} {xs : List Int} (h : Owned w base v xs) : ∀ k, v.ownBlock = some k → base ≤ k ∧ k < w.heap.size := World.ownsRow.lt h
theorem Owned.keptB {w w' : World} {base : Nat} {u v : Value} {xs : List Int} (h : Owned w base v xs) (hk : KeptB u.ownBlock w w') (ha : Apart u v) : Owned w' base v xs := by
  refine ⟨h.1, ?_⟩
  rcases h.2 with e | ⟨g, cap, cur, hv, hbg, hg, r⟩
  · exact .inl e
  · exact .inr ⟨g, cap, cur, hv, hbg, hk g _ hg (fun e => ha g e (by rw [hv]; rfl)), r⟩
theorem OwnedX.grow {w w' : World} {base : Nat} {s s' v : Value} {xss : List (List Int)} (h : OwnedX w base s v xss) (hk : KeptB s.ownBlock w w') (hl : KeptT 27 w w') (hm : Moved w s s') : OwnedX w' base s' v xss := by
  obtain ⟨vs, ho, hr⟩ := h
  refine ⟨vs, ⟨ho.1, ?_⟩, fun j hj => ?_⟩
  · rcases ho.2 with e | ⟨g, cap, cur, hv, hbg, hg, r⟩
    · exact .inl e
    · exact .inr ⟨g, cap, cur, hv, hbg, hl g cur hg, r⟩
  · obtain ⟨A, c, h1, h2, h3⟩ := hr j hj
    refine ⟨A, c, h1, h2.keptB hk h3, fun k h4 h5 => ?_⟩
    rcases hm with e | ⟨g, hg, e⟩
    · rw [e] at h4; exact h3 k h4 h5
    · rw [e] at h4
      injection h4 with h4
      have := (h2.lt k h5).2
      omega
theorem OwnedX.kept {w w' : World} {base : Nat} {s v : Value} {xss : List (List Int)} (h : OwnedX w base s v xss) (hb : Below w.heap.size w w') : OwnedX w' base s v xss :=
  h.grow (fun g _ e _ => (hb.block g (heap_lt e)).trans e) (KeptT.of_below hb) (.inl rfl)
theorem OwnedX.lists {w : World} {base : Nat} {s : Value} {A : Option Addr} {n c : Nat} {xss : List (List Int)} (h : OwnedX w base s (.slice A n c) xss) (hm : xss.length ≤ 17592186044416) (hr : ∀ xs, xs ∈ xss → xs.length ≤ 17592186044416) : Lists w A n xss := h.toL.lists hm hr
/-- append of one number. -/
theorem run_append_oneB {w : World} {base : Nat} {v : Value} {xs : List Int} (h : Owned w base v xs) (x : Int) (hbase : base ≤ w.heap.size) (hl : xs.length < 1759218604441) :
    ∃ A c w', (Builtin.append_ #[27, 27] 27 #[v, .slice (some ⟨w.heap.size, 0, none⟩) 1 1]).run Try.prog (w.alloc (.cells #[.int .i64 x] 3)) = .ok (.slice A (xs.length + 1) c) w' ∧
      Owned w' base (.slice A (xs.length + 1) c) (xs ++ [x]) ∧ Below base w w' ∧ (∀ t, t ≠ 3 → KeptT t w w') ∧ KeptB v.ownBlock w w' ∧ Moved w v (.slice A (xs.length + 1) c) := by
  obtain ⟨i, hi, hz0, hz1, hz2⟩ := info_parts info3
  have hbz := alloc_below w (.cells #[.int .i64 x] 3)
  have ho1 := h.kept hbz
  obtain ⟨v', w', hr, h1, h2, _, hmv⟩ := run_append_own_at (P := Try.prog) (w.alloc (.cells #[.int .i64 x] 3)) base 27 27 3 i (.int .i64 0) 1 8 Try.underlying27 hi hz0 hz1 hz2 rfl (by decide) v _ _ ho1 ⟨w.heap.size, 0, none⟩ 1 1 [.int .i64 x] (by simp)
    (by
      intro j u hu
      cases j with
      | zero =>
        simp at hu
        subst hu
        simp [Addr.add]
      | succ j => simp at hu)
    (by intro u hu; simp at hu; subst hu; rfl) (by unfold maxLen; omega) (by omega) (Nat.le_trans hbase hbz.size)
  have hs : ∀ t, t ≠ 3 → KeptT t w w' := fun t ht => (KeptT.of_below hbz).trans (KeptT.grown h2 ho1 ht)
  have hform : ∃ A c, v' = .slice A (xs.length + 1) c := by
    rcases h1.2 with ⟨rfl, h0⟩ | ⟨g, cap, cur, rfl, _⟩
    · have := h1.1; rw [h0] at this; simp at this
    · exact ⟨_, _, rfl⟩
  obtain ⟨A, c, rfl⟩ := hform
  have hkb : KeptB v.ownBlock w w' := fun g o e hne => (h2.block g (Nat.lt_of_lt_of_le (heap_lt e) hbz.size) (fun e2 => hne e2.symm)).trans ((hbz.block g (heap_lt e)).trans e)
  have hmoved : Moved w v (.slice A (xs.length + 1) c) := by
    rcases hmv with e | e
    · exact .inl e
    · exact .inr ⟨_, by simp, e⟩
  refine ⟨A, c, w', hr, ?_, (hbz.mono hbase).trans ((Below.refl _ _).grown h2 (Nat.le_trans hbase hbz.size) (fun k hk => (World.ownsRow.lt ho1 k hk).1)), hs, hkb, hmoved⟩
  unfold Owned
  rw [List.length_append, List.map_append]
  exact h1
/-- append of one list. -/
theorem run_append_listX {w : World} {base : Nat} {s v : Value} {xss : List (List Int)} {B : Option Addr} {m d : Nat} {xs : List Int} (h : OwnedX w base s v xss) (hx : Owned w base (.slice B m d) xs) (ha : Apart s (.slice B m d)) (hbase : base ≤ w.heap.size) (hl : xss.length < 1759218604441) :
    ∃ A c w', (Builtin.append_ #[22, 22] 22 #[v, .slice (some ⟨w.heap.size, 0, none⟩) 1 1]).run Try.prog (w.alloc (.cells #[.slice B m d] 27)) = .ok (.slice A (xss.length + 1) c) w' ∧
      OwnedX w' base s (.slice A (xss.length + 1) c) (xss ++ [xs]) ∧ Below base w w' ∧ (∀ t, t ≠ 27 → KeptT t w w') := by
  obtain ⟨i, hi, hz0, hz1, hz2⟩ := info_parts infol
  obtain ⟨vs, ho, hv⟩ := h
  have hbz := alloc_below w (.cells #[.slice B m d] 27)
  have ho1 : (w.alloc (.cells #[.slice B m d] 27)).ownsRow base 27 1 v xss.length vs := by
    refine ⟨ho.1, ?_⟩
    rcases ho.2 with e | ⟨g, cap, cur, hv, hbg, hg, r⟩
    · exact .inl e
    · exact .inr ⟨g, cap, cur, hv, hbg, (hbz.block g (heap_lt hg)).trans hg, r⟩
  obtain ⟨v', w', hr, h1, h2, _, hmv⟩ := run_append_own_at (P := Try.prog) (w.alloc (.cells #[.slice B m d] 27)) base 22 22 27 i (.slice none 0 0) 1 24 Try.underlying22 hi hz0 hz1 hz2 rfl (by decide) v _ _ ho1 ⟨w.heap.size, 0, none⟩ 1 1 [.slice B m d] (by simp)
    (by
      intro j u hu
      cases j with
      | zero =>
        simp at hu
        subst hu
        simp [Addr.add]
      | succ j => simp at hu)
    (by intro u hu; simp at hu; subst hu; rfl) (by unfold maxLen; omega) (by omega) (Nat.le_trans hbase hbz.size)
  have hs : ∀ t, t ≠ 27 → KeptT t w w' := fun t ht => (KeptT.of_below hbz).trans (KeptT.grown h2 ho1 ht)
  have hform : ∃ A c, v' = .slice A (xss.length + 1) c := by
    rcases h1.2 with ⟨rfl, h0⟩ | ⟨g, cap, cur, rfl, _⟩
    · have := h1.1; rw [h0] at this; simp at this
    · exact ⟨_, _, rfl⟩
  obtain ⟨A, c, rfl⟩ := hform
  have hn : m = xs.length := by obtain ⟨A', c', e⟩ := hx.form; cases e; rfl
  subst hn
  refine ⟨A, c, w', hr, ⟨vs ++ [.slice B xs.length d], by rw [List.length_append]; exact h1, fun j hj => ?_⟩, (hbz.mono hbase).trans ((Below.refl _ _).grown h2 (Nat.le_trans hbase hbz.size) (fun k hk => (World.ownsRow.lt ho1 k hk).1)), hs⟩
  have hvl : vs.length = xss.length := by have := ho.1; omega
  by_cases e : j < xss.length
  · obtain ⟨A2, c2, h3, h4, h5⟩ := hv j e
    have hg : (xss ++ [xs]).getD j [] = xss.getD j [] := by rw [List.getD_eq_getElem?_getD, List.getD_eq_getElem?_getD, List.getElem?_append_left e]
    rw [hg]
    exact ⟨A2, c2, by rw [List.getElem?_append_left (by omega)]; exact h3, h4.keptT (hs _ (by decide)), h5⟩
  · have hjl : j = xss.length := by simp at hj; omega
    subst hjl
    have hg : (xss ++ [xs]).getD xss.length [] = xs := by simp
    rw [hg]
    exact ⟨B, d, by rw [List.getElem?_append_right (by omega), hvl]; simp, hx.keptT (hs _ (by decide)), ha⟩
/-- A list of one list. -/
theorem OwnedX.one (w : World) (base : Nat) (s : Value) (B : Option Addr) (m d : Nat) (xs : List Int) (hx : Owned w base (.slice B m d) xs) (ha : Apart s (.slice B m d)) (hb : base ≤ w.heap.size) :
    OwnedX (w.alloc (.cells #[.slice B m d] 27)) base s (.slice (some ⟨w.heap.size, 0, none⟩) 1 1) [xs] := by
  have hn : m = xs.length := by obtain ⟨A', c', e⟩ := hx.form; cases e; rfl
  subst hn
  have := World.ownsRow_lit (e := 27) (size := 1) w #[.slice B xs.length d] 1 hb (by unfold maxLen; omega) (by simp)
  refine ⟨[.slice B xs.length d], this, fun j hj => ?_⟩
  obtain rfl : j = 0 := by simp at hj; omega
  exact ⟨B, d, rfl, hx.kept (alloc_below _ _), ha⟩
end Go.Proofs.Ytogcecfeofbbnaa
end

section
/- An automaton that is built: its block, its rows, its truth values. -/
namespace Go.Proofs.Ytogcecfeofbbnaa
open Go.RowKit

section
variable {w w' : World} {g : Nat} {a b c d : Value}
end
theorem below_set4 {z g : Nat} {w W : World} (hz : z ≤ g) (h : Below z w W) (a b c d : Value) : Below z w ((((W.setCell ⟨g, 0, none⟩ a).setCell ⟨g, 1, none⟩ b).setCell ⟨g, 2, none⟩ c).setCell ⟨g, 3, none⟩ d) :=
  (((h.setCell (p := ⟨g, 0, none⟩) hz a).setCell (p := ⟨g, 1, none⟩) hz b).setCell (p := ⟨g, 2, none⟩) hz c).setCell (p := ⟨g, 3, none⟩) hz d
theorem Rws.lower {w : World} {base base' s : Nat} {e : TypeId} {v : Value} {L : List (List Value)} (h : Rws w base e s v L) (hb : base' ≤ base) : Rws w base' e s v L :=
  ⟨h.1, h.2.1, h.2.2.imp id (by rintro ⟨g, cap, cur, e1, h1, h2⟩; exact ⟨g, cap, cur, e1, by omega, h2⟩)⟩
/-- Maps are as they were. -/
def KeptM (w w' : World) : Prop := ∀ (g : Nat) (es : Array MapEntry) (ck : _), w.heap[g]? = some (.map es ck) → w'.heap[g]? = some (.map es ck)
theorem KeptM.of_below {w w' : World} (h : Below w.heap.size w w') : KeptM w w' := fun g _ _ e => (h.block g (heap_lt e)).trans e
theorem KeptM.trans {a b c : World} (h : KeptM a b) (k : KeptM b c) : KeptM a c := fun g es ck e => k g es ck (h g es ck e)
theorem KeptM.off {w : World} {g k : Nat} {cs : Array Value} {t : TypeId} (hg : w.heap[g]? = some (.cells cs t (0, 0))) (u : Value) : KeptM w (w.setCell ⟨g, k, none⟩ u) := fun g' es ck e => by
  rw [heap_setCell_other _ _ _ _ ?_]
  · exact e
  · intro e2
    have e2 : g' = g := e2
    subst e2
    rw [hg] at e
    cases e
theorem OwnedL.row {w : World} {base : Nat} {v : Value} {xss : List (List Int)} (h : OwnedL w base v xss) {k : Nat} (hk : v.ownBlock = some k) : ∃ cur, w.heap[k]? = some (.cells cur 27 (0, 0)) := by
  obtain ⟨vs, ho, _⟩ := h
  rcases ho.2 with ⟨e, _⟩ | ⟨g, cap, cur, e, _, hg, _⟩
  · subst e; cases hk
  · subst e
    injection hk with hk
    have hk : g = k := hk
    subst hk
    exact ⟨cur, hg⟩
theorem KeptB.maps {w w' : World} {base : Nat} {v : Value} {xss : List (List Int)} (h : KeptB v.ownBlock w w') (ho : OwnedL w base v xss) : KeptM w w' := fun g es ck e => h g _ e fun e2 => by
  obtain ⟨cur, hg⟩ := ho.row e2
  rw [hg] at e
  cases e
section
variable {w w' : World} {base g i s : Nat} {N : List (List Int)} {A : List Bool} {AN AA : Option Addr} {cN cA : Nat}
end
/-- The first x numbers of a row. -/
def rowm (f : Nat → Int) (i x : Nat) : List Int := (List.range i).map fun a => if a < x then f a else 0
theorem rowm_len (f : Nat → Int) (i x : Nat) : (rowm f i x).length = i := by simp [rowm]
theorem rowm_zero (f : Nat → Int) (i : Nat) : rowm f i 0 = List.replicate i 0 := by
  apply List.ext_getElem
  · simp [rowm]
  · intro k h1 h2; simp [rowm]
theorem rowm_set (f : Nat → Int) (i x : Nat) : (rowm f i x).set x (f x) = rowm f i (x + 1) := by
  apply List.ext_getElem
  · simp [rowm]
  · intro k h1 h2
    simp only [rowm, List.getElem_set, List.getElem_map, List.getElem_range]
    by_cases hk : x = k
    · subst hk; simp
    · rw [if_neg hk]
      by_cases hl : k < x
      · rw [if_pos hl, if_pos (by omega)]
      · rw [if_neg hl, if_neg (by omega)]
theorem rowm_all (f : Nat → Int) (i : Nat) : rowm f i i = (List.range i).map f := by
  unfold rowm
  apply List.map_congr_left
  intro a ha
  rw [if_pos (by simpa using ha)]
theorem Owned.blk {w : World} {base g n c : Nat} {xs : List Int} (h : Owned w base (.slice (some ⟨g, 0, none⟩) n c) xs) : ∃ cur, w.heap[g]? = some (.cells cur 3 (0, 0)) := by
  rcases h.2 with ⟨e, _⟩ | ⟨g', cap, cur, e, _, hg, _⟩
  · cases e
  · injection e with e1 _ _
    injection e1 with e1
    injection e1 with e1 _ _
    subst e1
    exact ⟨cur, hg⟩
theorem OwnedX.keptT {w w' : World} {base : Nat} {s v : Value} {xss : List (List Int)} (h : OwnedX w base s v xss) (hk : KeptT 3 w w') (hl : KeptT 27 w w') : OwnedX w' base s v xss := by
  obtain ⟨vs, ho, hr⟩ := h
  refine ⟨vs, ⟨ho.1, ?_⟩, fun j hj => ?_⟩
  · rcases ho.2 with e | ⟨g, cap, cur, hv, hbg, hg, r⟩
    · exact .inl e
    · exact .inr ⟨g, cap, cur, hv, hbg, hl g cur hg, r⟩
  · obtain ⟨A, c, h1, h2, h3⟩ := hr j hj
    exact ⟨A, c, h1, h2.keptT hk, h3⟩
theorem OwnedL.toX {w : World} {base gr : Nat} {v : Value} {xss : List (List Int)} (h : OwnedL w base v xss) (hg : w.heap.size ≤ gr) : OwnedX w base (.slice (some ⟨gr, 0, none⟩) 0 0) v xss := by
  obtain ⟨vs, ho, hr⟩ := h
  refine ⟨vs, ho, fun j hj => ?_⟩
  obtain ⟨A, c, h1, h2⟩ := hr j hj
  refine ⟨A, c, h1, h2, fun k h3 h4 => ?_⟩
  have h5 := (h2.lt k h4).2
  injection h3 with h3
  have h3 : gr = k := h3
  omega
section
variable {w w' : World} {base g i s gr : Nat} {N : List (List Int)} {A : List Bool} {AN AA : Option Addr} {cN cA : Nat}
end
end Go.Proofs.Ytogcecfeofbbnaa
end

section
/- Numbering by first occurrence; the classes of states that words of k symbols do not separate. -/
namespace Go.Proofs.Ytogcecfeofbbnaa

section
variable {κ : Type} [BEq κ] [LawfulBEq κ]
/-- What is new is added at the end. -/
def addK (l : List κ) (x : κ) : List κ := if x ∈ l then l else l ++ [x]
/-- The different keys among the first n. -/
def grp (f : Nat → κ) : Nat → List κ
  | 0 => []
  | k + 1 => addK (grp f k) (f k)
theorem addK_pre (l : List κ) (x : κ) : ∃ t, addK l x = l ++ t := by
  unfold addK; split
  · exact ⟨[], by simp⟩
  · exact ⟨[x], rfl⟩
theorem addK_in {l : List κ} {x : κ} (h : x ∈ l) : addK l x = l := by unfold addK; rw [if_pos h]
theorem addK_out {l : List κ} {x : κ} (h : ¬ x ∈ l) : addK l x = l ++ [x] := by unfold addK; rw [if_neg h]
theorem mem_addK (l : List κ) (x : κ) : x ∈ addK l x := by
  unfold addK; split
  · assumption
  · simp
theorem grp_pre (f : Nat → κ) (m : Nat) : ∀ d, ∃ t, grp f (m + d) = grp f m ++ t
  | 0 => ⟨[], by simp⟩
  | d + 1 => by
    obtain ⟨t, ht⟩ := grp_pre f m d
    obtain ⟨u, hu⟩ := addK_pre (grp f (m + d)) (f (m + d))
    exact ⟨t ++ u, by show addK (grp f (m + d)) (f (m + d)) = _; rw [hu, ht, List.append_assoc]⟩
theorem grp_has (f : Nat → κ) {n s : Nat} (h : s < n) : f s ∈ grp f n := by
  obtain ⟨t, ht⟩ := grp_pre f (s + 1) (n - (s + 1))
  rw [show s + 1 + (n - (s + 1)) = n by omega] at ht
  rw [ht]
  exact List.mem_append_left _ (mem_addK _ _)
theorem grp_mem (f : Nat → κ) : ∀ {n : Nat} {x : κ}, x ∈ grp f n → ∃ s, s < n ∧ f s = x
  | 0, x, h => by simp [grp] at h
  | n + 1, x, h => by
    by_cases e : f n ∈ grp f n
    · rw [show grp f (n + 1) = grp f n from addK_in e] at h
      obtain ⟨s, hs, e2⟩ := grp_mem f h
      exact ⟨s, by omega, e2⟩
    · rw [show grp f (n + 1) = grp f n ++ [f n] from addK_out e] at h
      rcases List.mem_append.1 h with h | h
      · obtain ⟨s, hs, e2⟩ := grp_mem f h
        exact ⟨s, by omega, e2⟩
      · simp at h
        exact ⟨n, by omega, h.symm⟩
theorem grp_nodup (f : Nat → κ) : ∀ n, (grp f n).Nodup
  | 0 => by simp [grp]
  | n + 1 => by
    by_cases e : f n ∈ grp f n
    · rw [show grp f (n + 1) = grp f n from addK_in e]; exact grp_nodup f n
    · rw [show grp f (n + 1) = grp f n ++ [f n] from addK_out e]
      refine List.nodup_append.2 ⟨grp_nodup f n, by simp, fun a ha b hb => ?_⟩
      simp at hb; subst hb; intro e2; subst e2; exact e ha
theorem grp_len (f : Nat → κ) : ∀ n, (grp f n).length ≤ n
  | 0 => Nat.le_refl _
  | n + 1 => by
    have := grp_len f n
    obtain ⟨t, ht⟩ := addK_pre (grp f n) (f n)
    show (addK _ _).length ≤ _
    unfold addK
    split
    · omega
    · rw [List.length_append]; simp; omega
theorem idxOf_pre {l t : List κ} {x : κ} (h : x ∈ l) : (l ++ t).idxOf x = l.idxOf x := by rw [List.idxOf_append, if_pos h]
theorem idxOf_new {l : List κ} {x : κ} (h : ¬ x ∈ l) : (l ++ [x]).idxOf x = l.length := by
  rw [List.idxOf_append, if_neg h]; simp
theorem getD_idxOf {l : List κ} {x d : κ} (h : x ∈ l) : l.getD (l.idxOf x) d = x := by
  have := List.idxOf_lt_length_of_mem h
  rw [List.getD_eq_getElem?_getD, List.getElem?_eq_getElem this]
  exact List.getElem_idxOf this
theorem idxOf_inj2 {l : List κ} {x y : κ} (hx : x ∈ l) (hy : y ∈ l) (h : l.idxOf x = l.idxOf y) : x = y := by
  have h1 := getD_idxOf (d := x) hx
  have h2 := getD_idxOf (d := x) hy
  rw [h] at h1
  exact h1.symm.trans h2

/-- The number of s: that of its key among the different keys. -/
def nmb (f : Nat → κ) (s : Nat) : Nat := (grp f (s + 1)).idxOf (f s)
def num (f : Nat → κ) (n : Nat) : List Nat := (List.range n).map (nmb f)
theorem num_len (f : Nat → κ) (n : Nat) : (num f n).length = n := by simp [num]
theorem num_at (f : Nat → κ) {n s : Nat} (h : s < n) : (num f n).getD s 0 = nmb f s := by unfold num; simp [List.getD, h]
theorem nmb_in (f : Nat → κ) {n s : Nat} (h : s < n) : nmb f s = (grp f n).idxOf (f s) := by
  obtain ⟨t, ht⟩ := grp_pre f (s + 1) (n - (s + 1))
  rw [show s + 1 + (n - (s + 1)) = n by omega] at ht
  unfold nmb
  rw [ht, idxOf_pre (grp_has f (Nat.lt_succ_self s))]
theorem nmb_eq (f : Nat → κ) {s t : Nat} : nmb f s = nmb f t ↔ f s = f t := by
  have hs : s < s + t + 1 := by omega
  have ht : t < s + t + 1 := by omega
  rw [nmb_in f hs, nmb_in f ht]
  exact ⟨fun h => idxOf_inj2 (grp_has f hs) (grp_has f ht) h, fun h => by rw [h]⟩
theorem nmb_old (f : Nat → κ) {s : Nat} (h : f s ∈ grp f s) : nmb f s = (grp f s).idxOf (f s) := by
  unfold nmb; rw [show grp f (s + 1) = grp f s from addK_in h]
theorem nmb_new (f : Nat → κ) {s : Nat} (h : ¬ f s ∈ grp f s) : nmb f s = (grp f s).length := by
  unfold nmb; rw [show grp f (s + 1) = grp f s ++ [f s] from addK_out h, idxOf_new h]
theorem nmb_lt (f : Nat → κ) {n s : Nat} (h : s < n) : nmb f s < (grp f n).length := by
  rw [nmb_in f h]; exact List.idxOf_lt_length_of_mem (grp_has f h)
theorem nmb_le (f : Nat → κ) (s : Nat) : nmb f s ≤ s := by
  have h1 := nmb_lt f (show s < s + 1 by omega)
  have h2 := grp_len f (s + 1)
  omega
end

theorem num_congr {κ μ : Type} [BEq κ] [LawfulBEq κ] [BEq μ] [LawfulBEq μ] {f : Nat → κ} {g : Nat → μ} {n : Nat} (h : ∀ s t, s < n → t < n → (f s = f t ↔ g s = g t)) : num f n = num g n := by
  have key : ∀ m, m ≤ n → (grp f m).length = (grp g m).length ∧ ∀ s, s < m → nmb f s = nmb g s := by
    intro m
    induction m with
    | zero => intro _; exact ⟨rfl, fun s hs => absurd hs (by omega)⟩
    | succ m ih =>
      intro hm
      obtain ⟨h1, h2⟩ := ih (by omega)
      by_cases e : f m ∈ grp f m
      · obtain ⟨s, hs, e2⟩ := grp_mem f e
        have e3 : g s = g m := (h s m (by omega) (by omega)).1 e2
        have e4 : g m ∈ grp g m := e3 ▸ grp_has g hs
        refine ⟨?_, fun t ht => ?_⟩
        · rw [show grp f (m + 1) = grp f m from addK_in e, show grp g (m + 1) = grp g m from addK_in e4, h1]
        · by_cases et : t = m
          · subst et
            rw [← (nmb_eq f).2 e2, ← (nmb_eq g).2 e3]; exact h2 s hs
          · exact h2 t (by omega)
      · have e4 : ¬ g m ∈ grp g m := fun H => by
          obtain ⟨s, hs, e2⟩ := grp_mem g H
          exact e ((h s m (by omega) (by omega)).2 e2 ▸ grp_has f hs)
        refine ⟨?_, fun t ht => ?_⟩
        · rw [show grp f (m + 1) = grp f m ++ [f m] from addK_out e, show grp g (m + 1) = grp g m ++ [g m] from addK_out e4, List.length_append, List.length_append, h1]; rfl
        · by_cases et : t = m
          · subst et
            rw [nmb_new f e, nmb_new g e4, h1]
          · exact h2 t (by omega)
  unfold num
  refine List.map_congr_left fun s hs => ?_
  rw [List.mem_range] at hs
  exact (key n (Nat.le_refl _)).2 s hs

/-- The signature of a state, as far as a inputs are told: output and class, input by input. -/
def sgm (nx ot : List (List Int)) (cl : List Nat) (s a : Nat) : List Int := (List.range 128).map fun j => if j / 2 < a then (if j % 2 = 0 then oN ot s (j / 2) else ((cl.getD (nN nx s (j / 2)) 0 : Nat) : Int)) else 0
theorem sgm_len (nx ot : List (List Int)) (cl : List Nat) (s a : Nat) : (sgm nx ot cl s a).length = 128 := by simp [sgm]
theorem sgm_get (nx ot : List (List Int)) (cl : List Nat) (s a j : Nat) (h : j < 128) : (sgm nx ot cl s a)[j]? = some (if j / 2 < a then (if j % 2 = 0 then oN ot s (j / 2) else ((cl.getD (nN nx s (j / 2)) 0 : Nat) : Int)) else 0) := by
  unfold sgm; rw [List.getElem?_map, List.getElem?_range h]; rfl
theorem sgm_zero (nx ot : List (List Int)) (cl : List Nat) (s : Nat) : sgm nx ot cl s 0 = List.replicate 128 0 := by
  apply List.ext_getElem?
  intro j
  by_cases h : j < 128
  · rw [sgm_get _ _ _ _ _ _ h, if_neg (by omega), List.getElem?_replicate, if_pos h]
  · rw [List.getElem?_eq_none (by rw [sgm_len]; omega), List.getElem?_eq_none (by simp; omega)]
theorem sgm_succ (nx ot : List (List Int)) (cl : List Nat) (s a : Nat) : ((sgm nx ot cl s a).set (2 * a) (oN ot s a)).set (2 * a + 1) ((cl.getD (nN nx s a) 0 : Nat) : Int) = sgm nx ot cl s (a + 1) := by
  apply List.ext_getElem?
  intro j
  by_cases hj : j < 128
  · rw [sgm_get _ _ _ _ _ _ hj, List.getElem?_set, List.length_set, sgm_len]
    by_cases e : 2 * a + 1 = j
    · subst e
      rw [if_pos rfl, if_pos hj, if_pos (by omega), if_neg (by omega), show (2 * a + 1) / 2 = a by omega]
    · rw [if_neg e, List.getElem?_set, sgm_len]
      by_cases e2 : 2 * a = j
      · subst e2
        rw [if_pos rfl, if_pos hj, if_pos (by omega), if_pos (by omega), show 2 * a / 2 = a by omega]
      · rw [if_neg e2, sgm_get _ _ _ _ _ _ hj]
        by_cases e3 : j / 2 < a
        · rw [if_pos e3, if_pos (show j / 2 < a + 1 by omega)]
        · rw [if_neg e3, if_neg (show ¬ j / 2 < a + 1 by omega)]
  · rw [List.getElem?_eq_none (by simp [sgm_len]; omega), List.getElem?_eq_none (by rw [sgm_len]; omega)]
theorem sgm_eq {nx ot : List (List Int)} {cl : List Nat} {s t i : Nat} (h : i ≤ 64) : sgm nx ot cl s i = sgm nx ot cl t i ↔ ∀ a, a < i → oN ot s a = oN ot t a ∧ cl.getD (nN nx s a) 0 = cl.getD (nN nx t a) 0 := by
  constructor
  · intro e a ha
    have h1 : (sgm nx ot cl s i)[2 * a]? = (sgm nx ot cl t i)[2 * a]? := by rw [e]
    have h2 : (sgm nx ot cl s i)[2 * a + 1]? = (sgm nx ot cl t i)[2 * a + 1]? := by rw [e]
    rw [sgm_get _ _ _ _ _ _ (by omega), sgm_get _ _ _ _ _ _ (by omega), show 2 * a / 2 = a by omega, if_pos ha, if_pos ha, if_pos (show 2 * a % 2 = 0 by omega), if_pos (show 2 * a % 2 = 0 by omega)] at h1
    rw [sgm_get _ _ _ _ _ _ (by omega), sgm_get _ _ _ _ _ _ (by omega), show (2 * a + 1) / 2 = a by omega, if_pos ha, if_pos ha, if_neg (show ¬ (2 * a + 1) % 2 = 0 by omega), if_neg (show ¬ (2 * a + 1) % 2 = 0 by omega)] at h2
    simp only [Option.some.injEq] at h1 h2
    exact ⟨h1, by omega⟩
  · intro H
    apply List.ext_getElem?
    intro j
    by_cases hj : j < 128
    · rw [sgm_get _ _ _ _ _ _ hj, sgm_get _ _ _ _ _ _ hj]
      by_cases e : j / 2 < i
      · rw [if_pos e, if_pos e]
        obtain ⟨h1, h2⟩ := H _ e
        by_cases e2 : j % 2 = 0
        · rw [if_pos e2, if_pos e2, h1]
        · rw [if_neg e2, if_neg e2, h2]
      · rw [if_neg e, if_neg e]
    · rw [List.getElem?_eq_none (by rw [sgm_len]; omega), List.getElem?_eq_none (by rw [sgm_len]; omega)]

/-- The classes of states that no word of k symbols separates. -/
def pt (nx ot : List (List Int)) (i n : Nat) : Nat → List Nat
  | 0 => List.replicate n 0
  | k + 1 => num (fun s => sgm nx ot (pt nx ot i n k) s i) n
theorem pt_len (nx ot : List (List Int)) (i n : Nat) : ∀ k, (pt nx ot i n k).length = n
  | 0 => by simp [pt]
  | k + 1 => num_len _ _
/-- The class of a state. -/
def cN (nx ot : List (List Int)) (i n k s : Nat) : Nat := (pt nx ot i n k).getD s 0
theorem cN_zero {nx ot : List (List Int)} {i n s : Nat} (h : s < n) : cN nx ot i n 0 s = 0 := by unfold cN pt; simp [List.getD, h]
theorem cN_le {nx ot : List (List Int)} {i n k s : Nat} (h : s < n) : cN nx ot i n k s ≤ s := by
  cases k with
  | zero => rw [cN_zero h]; omega
  | succ k => unfold cN pt; rw [num_at _ h]; exact nmb_le _ _
theorem Mok.cN_succ {i st n : Nat} {nx ot : List (List Int)} (hM : Mok i st n nx ot) {k s t : Nat} (hs : s < n) (ht : t < n) :
    cN nx ot i n (k + 1) s = cN nx ot i n (k + 1) t ↔ ∀ a, a < i → oN ot s a = oN ot t a ∧ cN nx ot i n k (nN nx s a) = cN nx ot i n k (nN nx t a) := by
  unfold cN
  show (num _ n).getD s 0 = (num _ n).getD t 0 ↔ _
  rw [num_at _ hs, num_at _ ht, nmb_eq, sgm_eq hM.i2]
theorem Mok.cN_fine {i st n : Nat} {nx ot : List (List Int)} (hM : Mok i st n nx ot) : ∀ {k s t : Nat}, s < n → t < n → cN nx ot i n (k + 1) s = cN nx ot i n (k + 1) t → cN nx ot i n k s = cN nx ot i n k t
  | 0, s, t, hs, ht, _ => by rw [cN_zero hs, cN_zero ht]
  | k + 1, s, t, hs, ht, h => by
    rw [hM.cN_succ hs ht] at h ⊢
    exact fun a ha => ⟨(h a ha).1, hM.cN_fine (hM.nN_lt hs ha) (hM.nN_lt ht ha) (h a ha).2⟩
theorem pt_stay {nx ot : List (List Int)} {i n k : Nat} (h : pt nx ot i n (k + 1) = pt nx ot i n k) : ∀ d, pt nx ot i n (k + d) = pt nx ot i n k
  | 0 => rfl
  | d + 1 => by
    show num (fun s => sgm nx ot (pt nx ot i n (k + d)) s i) n = _
    rw [pt_stay h d]
    exact h
theorem list_ext0 {l t : List Nat} {n : Nat} (h1 : l.length = n) (h2 : t.length = n) (h : ∀ s, s < n → l.getD s 0 = t.getD s 0) : l = t := by
  apply List.ext_getElem (by omega)
  intro s hs ht
  have := h s (by omega)
  rw [List.getD_eq_getElem?_getD, List.getD_eq_getElem?_getD, List.getElem?_eq_getElem hs, List.getElem?_eq_getElem ht] at this
  exact this
/-- A partition by numbers of first occurrence is determined by its classes. -/
theorem pt_num {i st n : Nat} {nx ot : List (List Int)} (_ : Mok i st n nx ot) : ∀ k, pt nx ot i n k = num (cN nx ot i n k) n
  | 0 => by
    apply list_ext0 (pt_len _ _ _ _ _) (num_len _ _)
    intro s hs
    rw [num_at _ hs]
    have h0 : (pt nx ot i n 0).getD s 0 = 0 := cN_zero hs
    have e : ∀ m, m ≤ n → ∀ t, t ∈ grp (cN nx ot i n 0) m → t = 0 := fun m hm t ht => by
      obtain ⟨u, hu, rfl⟩ := grp_mem _ ht
      exact cN_zero (by omega)
    rw [h0]
    have h1 : nmb (cN nx ot i n 0) s = nmb (cN nx ot i n 0) 0 := (nmb_eq _).2 (by rw [cN_zero hs, cN_zero (by omega)])
    have := nmb_le (cN nx ot i n 0) 0
    omega
  | k + 1 => by
    refine num_congr fun s t hs ht => ?_
    have h1 := num_at (fun s => sgm nx ot (pt nx ot i n k) s i) hs
    have h2 := num_at (fun s => sgm nx ot (pt nx ot i n k) s i) ht
    show _ ↔ (num _ n).getD s 0 = (num _ n).getD t 0
    rw [h1, h2]
    exact (nmb_eq (fun s => sgm nx ot (pt nx ot i n k) s i)).symm
end Go.Proofs.Ytogcecfeofbbnaa
end

section
/- Partitions become finer until they stay: the depth. -/
namespace Go.Proofs.Ytogcecfeofbbnaa

/-- The least of its class. -/
def fst_ (c : Nat → Nat) (s : Nat) : Bool := (List.range s).all fun t => c t != c s
theorem fst_iff {c : Nat → Nat} {s : Nat} : fst_ c s = true ↔ ∀ t, t < s → c t ≠ c s := by
  unfold fst_
  simp [List.all_eq_true]
theorem fst_ex (c : Nat → Nat) : ∀ s, ∃ r, r ≤ s ∧ c r = c s ∧ fst_ c r = true := by
  intro s
  induction s using Nat.strongRecOn with
  | _ s ih =>
    by_cases h : fst_ c s = true
    · exact ⟨s, Nat.le_refl _, rfl, h⟩
    · have h2 : ∃ t, t < s ∧ c t = c s := by
        rw [fst_iff] at h
        exact Classical.byContradiction fun H => h fun t ht e => H ⟨t, ht, e⟩
      obtain ⟨t, ht, e⟩ := h2
      obtain ⟨r, h3, h4, h5⟩ := ih t ht
      exact ⟨r, by omega, h4.trans e, h5⟩
def cnt (c : Nat → Nat) (n : Nat) : Nat := ((List.range n).filter (fst_ c)).length
theorem cnt_le (c : Nat → Nat) (n : Nat) : cnt c n ≤ n := by
  unfold cnt
  have := List.length_filter_le (fst_ c) (List.range n)
  simpa using this
theorem cnt_pos (c : Nat → Nat) {n : Nat} (h : 0 < n) : 0 < cnt c n := by
  unfold cnt
  have : 0 ∈ (List.range n).filter (fst_ c) := by
    rw [List.mem_filter]
    exact ⟨by simpa using h, by rw [fst_iff]; intro t ht; omega⟩
  exact List.length_pos_of_mem this
theorem filter_le {p q : Nat → Bool} : ∀ {l : List Nat}, (∀ x, x ∈ l → p x = true → q x = true) → (l.filter p).length ≤ (l.filter q).length
  | [], _ => Nat.le_refl _
  | x :: l, h => by
    have ih := filter_le (l := l) fun y hy => h y (by simp [hy])
    rw [List.filter_cons, List.filter_cons]
    by_cases hp : p x = true
    · rw [if_pos hp, if_pos (h x (by simp) hp)]; simp; exact ih
    · rw [if_neg hp]
      split
      · simp; omega
      · exact ih
theorem filter_eq_of_len {p q : Nat → Bool} : ∀ {l : List Nat}, (∀ x, x ∈ l → p x = true → q x = true) → (l.filter q).length ≤ (l.filter p).length → ∀ x, x ∈ l → q x = true → p x = true
  | [], _, _, x, hx => by simp at hx
  | y :: l, h, hl, x, hx => by
    intro hq
    have hle := filter_le (p := p) (q := q) (l := l) fun z hz => h z (by simp [hz])
    rw [List.filter_cons, List.filter_cons] at hl
    by_cases hp : p y = true
    · rw [if_pos hp, if_pos (h y (by simp) hp)] at hl
      rcases List.mem_cons.1 hx with rfl | hx
      · exact hp
      · exact filter_eq_of_len (fun z hz => h z (by simp [hz])) (by simpa using hl) x hx hq
    · rw [if_neg hp] at hl
      by_cases hqy : q y = true
      · rw [if_pos hqy] at hl; simp at hl; omega
      · rw [if_neg hqy] at hl
        rcases List.mem_cons.1 hx with rfl | hx
        · exact absurd hq hqy
        · exact filter_eq_of_len (fun z hz => h z (by simp [hz])) hl x hx hq
/-- A finer partition with as many classes is the same one. -/
theorem cnt_same {c d : Nat → Nat} {n : Nat} (h : ∀ s t, s < n → t < n → d s = d t → c s = c t) (hc : cnt d n ≤ cnt c n) : ∀ s t, s < n → t < n → c s = c t → d s = d t := by
  have h1 : ∀ x, x ∈ List.range n → fst_ c x = true → fst_ d x = true := fun x hx hf => by
    rw [fst_iff] at hf ⊢
    rw [List.mem_range] at hx
    exact fun t ht e => hf t ht (h t x (by omega) hx e)
  have h2 := filter_eq_of_len h1 hc
  intro s t hs ht e
  obtain ⟨r, r1, r2, r3⟩ := fst_ex d s
  obtain ⟨u, u1, u2, u3⟩ := fst_ex d t
  have f1 := h2 r (by simp; omega) r3
  have f2 := h2 u (by simp; omega) u3
  rw [fst_iff] at f1 f2
  have e3 : c r = c u := (h r s (by omega) hs r2).trans (e.trans (h u t (by omega) ht u2).symm)
  have e4 : r = u := by
    rcases Nat.lt_trichotomy r u with hlt | he | hgt
    · exact absurd e3 (f2 r hlt)
    · exact he
    · exact absurd e3.symm (f1 u hgt)
  subst e4
  exact r2.symm.trans u2
theorem cnt_lt {c d : Nat → Nat} {n : Nat} (h : ∀ s t, s < n → t < n → d s = d t → c s = c t) (hne : ¬ ∀ s t, s < n → t < n → c s = c t → d s = d t) : cnt c n < cnt d n := by
  rcases Nat.lt_or_ge (cnt c n) (cnt d n) with h1 | h1
  · exact h1
  · exact absurd (cnt_same h h1) hne

/-- The first number, among the given ones, from which on the classes stay. -/
def depF (nx ot : List (List Int)) (i n : Nat) : Nat → Nat → Nat
  | 0, j => j
  | f + 1, j => if pt nx ot i n (j + 1) = pt nx ot i n j then j else depF nx ot i n f (j + 1)
def dep (nx ot : List (List Int)) (i n : Nat) : Nat := depF nx ot i n n 0
theorem pt_same {i st n : Nat} {nx ot : List (List Int)} (hM : Mok i st n nx ot) {j k : Nat} (h : ∀ s t, s < n → t < n → (cN nx ot i n j s = cN nx ot i n j t ↔ cN nx ot i n k s = cN nx ot i n k t)) : pt nx ot i n j = pt nx ot i n k := by
  rw [pt_num hM j, pt_num hM k]; exact num_congr h
theorem Mok.cnt_succ {i st n : Nat} {nx ot : List (List Int)} (hM : Mok i st n nx ot) {j : Nat} (h : pt nx ot i n (j + 1) ≠ pt nx ot i n j) : cnt (cN nx ot i n j) n < cnt (cN nx ot i n (j + 1)) n :=
  cnt_lt (fun _ _ hs ht e => hM.cN_fine hs ht e) fun H => h (pt_same hM fun s t hs ht => ⟨hM.cN_fine hs ht, H s t hs ht⟩)
theorem Mok.cnt_ge {i st n : Nat} {nx ot : List (List Int)} (hM : Mok i st n nx ot) : ∀ {j : Nat}, (∀ m, m < j → pt nx ot i n (m + 1) ≠ pt nx ot i n m) → j + 1 ≤ cnt (cN nx ot i n j) n
  | 0, _ => cnt_pos _ hM.n1
  | j + 1, h => by
    have h1 := hM.cnt_ge (j := j) fun m hm => h m (by omega)
    have h2 := hM.cnt_succ (h j (by omega))
    omega
theorem depF_spec {i st n : Nat} {nx ot : List (List Int)} (hM : Mok i st n nx ot) : ∀ (f j : Nat), n ≤ f + j → (∀ m, m < j → pt nx ot i n (m + 1) ≠ pt nx ot i n m) →
    pt nx ot i n (depF nx ot i n f j + 1) = pt nx ot i n (depF nx ot i n f j) ∧ ∀ m, m < depF nx ot i n f j → pt nx ot i n (m + 1) ≠ pt nx ot i n m
  | 0, j, hf, h => by
    have h1 := hM.cnt_ge h
    have h2 := cnt_le (cN nx ot i n j) n
    omega
  | f + 1, j, hf, h => by
    unfold depF
    by_cases e : pt nx ot i n (j + 1) = pt nx ot i n j
    · rw [if_pos e]; exact ⟨e, h⟩
    · rw [if_neg e]
      refine depF_spec hM f (j + 1) (by omega) fun m hm => ?_
      by_cases e2 : m = j
      · subst e2; exact e
      · exact h m (by omega)
theorem Mok.dep_stay {i st n : Nat} {nx ot : List (List Int)} (hM : Mok i st n nx ot) : pt nx ot i n (dep nx ot i n + 1) = pt nx ot i n (dep nx ot i n) := (depF_spec hM n 0 (by omega) fun m hm => absurd hm (by omega)).1
theorem Mok.dep_min {i st n : Nat} {nx ot : List (List Int)} (hM : Mok i st n nx ot) {m : Nat} (h : m < dep nx ot i n) : pt nx ot i n (m + 1) ≠ pt nx ot i n m := (depF_spec hM n 0 (by omega) fun m hm => absurd hm (by omega)).2 m h
theorem Mok.dep_lt {i st n : Nat} {nx ot : List (List Int)} (hM : Mok i st n nx ot) : dep nx ot i n < n := by
  have h1 := hM.cnt_ge (j := dep nx ot i n) fun m hm => hM.dep_min hm
  have h2 := cnt_le (cN nx ot i n (dep nx ot i n)) n
  omega
theorem Mok.dep_le {i st n : Nat} {nx ot : List (List Int)} (hM : Mok i st n nx ot) {j : Nat} (h : ∀ m, m < j → pt nx ot i n (m + 1) ≠ pt nx ot i n m) : j ≤ dep nx ot i n := by
  rcases Nat.lt_or_ge (dep nx ot i n) j with h1 | h1
  · exact absurd hM.dep_stay (h _ h1)
  · exact h1
theorem Mok.dep_eq {i st n : Nat} {nx ot : List (List Int)} (hM : Mok i st n nx ot) {j : Nat} (h : ∀ m, m < j → pt nx ot i n (m + 1) ≠ pt nx ot i n m) (hj : pt nx ot i n (j + 1) = pt nx ot i n j) : j = dep nx ot i n := by
  have h1 := hM.dep_le h
  rcases Nat.lt_or_ge j (dep nx ot i n) with h2 | h2
  · exact absurd hj (hM.dep_min h2)
  · omega
theorem Mok.pt_all {i st n : Nat} {nx ot : List (List Int)} (hM : Mok i st n nx ot) {k : Nat} (h : dep nx ot i n ≤ k) : pt nx ot i n k = pt nx ot i n (dep nx ot i n) := by
  obtain ⟨d, rfl⟩ := Nat.le.dest h
  exact pt_stay hM.dep_stay d
/-- The classes for k are all classes just if k is not below the depth. -/
theorem Mok.pt_eq_all {i st n : Nat} {nx ot : List (List Int)} (hM : Mok i st n nx ot) {k : Nat} : pt nx ot i n k = pt nx ot i n (dep nx ot i n) ↔ dep nx ot i n ≤ k := by
  refine ⟨fun h => ?_, hM.pt_all⟩
  rcases Nat.lt_or_ge k (dep nx ot i n) with h1 | h1
  · refine absurd ?_ (hM.dep_min h1)
    have h2 := hM.dep_stay
    show num (fun s => sgm nx ot (pt nx ot i n k) s i) n = _
    rw [h]
    exact h2
  · exact h1
end Go.Proofs.Ytogcecfeofbbnaa
end

section
/- The trimmed machine. -/
namespace Go.Proofs.Ytogcecfeofbbnaa

theorem addR_has {nx : List (List Int)} {s : Nat} {l : List Nat} : ∀ {b : Nat}, ∀ a, a < b → nN nx s a ∈ addR nx s l b
  | 0, a, h => absurd h (by omega)
  | b + 1, a, h => by
    by_cases e : a = b
    · subst e; exact mem_addN _ _
    · exact addN_mem (addR_has a (by omega))
theorem addR_mem {nx : List (List Int)} {s : Nat} {l : List Nat} {x : Nat} (h : x ∈ l) (a : Nat) : x ∈ addR nx s l a := by obtain ⟨t, ht⟩ := addR_pre nx s l a; rw [ht]; simp [h]

theorem bfs_closed {i st n : Nat} {nx ot : List (List Int)} (hM : Mok i st n nx ot) : ∀ (k : Nat) (l : List Nat) (j : Nat), Stt n l → n ≤ k + j → (∀ m, m < j → m < l.length → ∀ a, a < i → nN nx (l.getD m 0) a ∈ l) →
    Stt n (bfs nx i k l j) ∧ ∀ m, m < (bfs nx i k l j).length → ∀ a, a < i → nN nx ((bfs nx i k l j).getD m 0) a ∈ bfs nx i k l j
  | 0, l, j, hS, hk, h => ⟨hS, fun m hm a ha => h m (by have := hS.len; have hm : m < l.length := hm; omega) hm a ha⟩
  | k + 1, l, j, hS, hk, h => by
    by_cases hj : j < l.length
    · have e : bfs nx i (k + 1) l j = bfs nx i k (addR nx (l.getD j 0) l i) (j + 1) := by
        show (if j < l.length then _ else _) = _; rw [if_pos hj]
      rw [e]
      refine bfs_closed hM k _ _ (addR_stt hM hS (hS.2 _ (getD_mem hj)) i (Nat.le_refl _)) (by omega) fun m hm hml a ha => ?_
      by_cases e2 : m = j
      · subst e2; rw [addR_at hj]; exact addR_has a ha
      · rw [addR_at (by omega)]; exact addR_mem (h m (by omega) (by omega) a ha) i
    · rw [bfs_end nx i (k + 1) hj]
      exact ⟨hS, fun m hm a ha => h m (by omega) hm a ha⟩

theorem Mok.rch_stt {i st n : Nat} {nx ot : List (List Int)} (hM : Mok i st n nx ot) : Stt n (rch nx i st) :=
  (bfs_closed hM _ _ _ (Stt.one hM.st) (by rw [hM.nxl]; omega) (fun m hm => absurd hm (by omega))).1
theorem Mok.rch_in {i st n : Nat} {nx ot : List (List Int)} (hM : Mok i st n nx ot) {s a : Nat} (hs : s ∈ rch nx i st) (ha : a < i) : nN nx s a ∈ rch nx i st := by
  obtain ⟨m, hm, rfl⟩ := List.getElem_of_mem hs
  have := (bfs_closed hM nx.length [st] 0 (Stt.one hM.st) (by rw [hM.nxl]; omega) (fun m hm => absurd hm (by omega))).2 m hm a ha
  rw [show (bfs nx i nx.length [st] 0).getD m 0 = (rch nx i st)[m] by rw [List.getD_eq_getElem?_getD]; show (rch nx i st)[m]?.getD 0 = _; rw [List.getElem?_eq_getElem hm]; rfl] at this
  exact this
theorem rch_pre (nx : List (List Int)) (i st : Nat) : ∃ t, rch nx i st = st :: t := by
  obtain ⟨t, ht⟩ := bfs_pre nx i nx.length [st] 0
  exact ⟨t, ht⟩

/-- The place of a state. -/
def ixN (R : List Nat) (x : Nat) : Nat := R.idxOf x
theorem ixN_lt {R : List Nat} {x : Nat} (h : x ∈ R) : ixN R x < R.length := List.idxOf_lt_length_of_mem h
theorem ixN_at {R : List Nat} {x : Nat} (h : x ∈ R) : R.getD (ixN R x) 0 = x := by
  rw [List.getD_eq_getElem?_getD, List.getElem?_eq_getElem (ixN_lt h)]
  exact List.getElem_idxOf (ixN_lt h)
theorem ixN_of {R : List Nat} (hR : R.Nodup) {j : Nat} (hj : j < R.length) : ixN R (R.getD j 0) = j := by
  have hm : R.getD j 0 ∈ R := getD_mem hj
  have h1 := ixN_at hm
  have h2 := ixN_lt hm
  rw [List.getD_eq_getElem?_getD, List.getD_eq_getElem?_getD, List.getElem?_eq_getElem hj, List.getElem?_eq_getElem (by rw [List.getD_eq_getElem?_getD, List.getElem?_eq_getElem hj] at h2; exact h2)] at h1
  rw [List.getD_eq_getElem?_getD, List.getElem?_eq_getElem hj] at h2 ⊢
  exact (List.getElem_inj hR).1 h1

/-- The rows of the trimmed machine. -/
def trR (nx : List (List Int)) (i : Nat) (R : List Nat) (s : Nat) : List Int := (List.range i).map fun a => ((ixN R (nN nx s a) : Nat) : Int)
def trN (nx : List (List Int)) (i : Nat) (R : List Nat) : List (List Int) := R.map (trR nx i R)
def trO (ot : List (List Int)) (R : List Nat) : List (List Int) := R.map fun s => ot.getD s []
theorem trR_len (nx : List (List Int)) (i : Nat) (R : List Nat) (s : Nat) : (trR nx i R s).length = i := by simp [trR]
theorem trR_at {nx : List (List Int)} {i : Nat} {R : List Nat} {s a : Nat} (ha : a < i) : (trR nx i R s).getD a 0 = ((ixN R (nN nx s a) : Nat) : Int) := by
  unfold trR; simp [List.getD, ha]
/-- A row while it is renumbered. -/
def midR (nx : List (List Int)) (i : Nat) (R : List Nat) (s a : Nat) : List Int := (trR nx i R s).take a ++ (nx.getD s []).drop a
theorem midR_zero (nx : List (List Int)) (i : Nat) (R : List Nat) (s : Nat) : midR nx i R s 0 = nx.getD s [] := by simp [midR]
theorem midR_all {nx : List (List Int)} {i : Nat} {R : List Nat} {s : Nat} (h : (nx.getD s []).length = i) : midR nx i R s i = trR nx i R s := by
  unfold midR; rw [List.take_of_length_le (by rw [trR_len]; exact Nat.le_refl _), List.drop_eq_nil_of_le (by omega), List.append_nil]
theorem midR_len {nx : List (List Int)} {i : Nat} {R : List Nat} {s a : Nat} (h : (nx.getD s []).length = i) (ha : a ≤ i) : (midR nx i R s a).length = i := by
  unfold midR; rw [List.length_append, List.length_take, List.length_drop, trR_len, h]; omega
theorem midR_get {nx : List (List Int)} {i : Nat} {R : List Nat} {s a m : Nat} (ha : a ≤ i) : (midR nx i R s a)[m]? = if m < a then (trR nx i R s)[m]? else (nx.getD s [])[m]? := by
  unfold midR
  have hl : ((trR nx i R s).take a).length = a := by rw [List.length_take, trR_len]; omega
  by_cases h : m < a
  · rw [if_pos h, List.getElem?_append_left (by omega), List.getElem?_take, if_pos h]
  · rw [if_neg h, List.getElem?_append_right (by omega), List.getElem?_drop, hl, show a + (m - a) = m by omega]
theorem midR_at {nx : List (List Int)} {i : Nat} {R : List Nat} {s a : Nat} (ha : a < i) : (midR nx i R s a).getD a 0 = (nx.getD s []).getD a 0 := by
  rw [List.getD_eq_getElem?_getD, midR_get (by omega), if_neg (by omega), ← List.getD_eq_getElem?_getD]
theorem midR_set {nx : List (List Int)} {i : Nat} {R : List Nat} {s a : Nat} (h : (nx.getD s []).length = i) (ha : a < i) : (midR nx i R s a).set a ((ixN R (nN nx s a) : Nat) : Int) = midR nx i R s (a + 1) := by
  apply List.ext_getElem?
  intro m
  have ht : (trR nx i R s)[a]? = some ((ixN R (nN nx s a) : Nat) : Int) := by
    have := trR_at (nx := nx) (R := R) (s := s) ha
    rw [List.getD_eq_getElem?_getD, List.getElem?_eq_getElem (by rw [trR_len]; exact ha)] at this
    rw [List.getElem?_eq_getElem (by rw [trR_len]; exact ha)]
    exact congrArg some this
  rw [List.getElem?_set, midR_get (by omega), midR_get (by omega), midR_len h (by omega)]
  by_cases e : a = m
  · subst e
    rw [if_pos rfl, if_pos ha, if_pos (by omega), ht]
  · rw [if_neg e]
    by_cases e2 : m < a
    · rw [if_pos e2, if_pos (by omega)]
    · rw [if_neg e2, if_neg (by omega)]
theorem map_take_succ {α β : Type} (f : α → β) (l : List α) (d : α) {k : Nat} (h : k < l.length) : (l.take (k + 1)).map f = (l.take k).map f ++ [f (l.getD k d)] := by
  rw [List.take_succ_eq_append_getElem h, List.map_append, List.getD_eq_getElem?_getD, List.getElem?_eq_getElem h]; rfl
end Go.Proofs.Ytogcecfeofbbnaa
end

section
/- The machine of classes: which rows it has. -/
namespace Go.Proofs.Ytogcecfeofbbnaa

/-- The least states of the classes among the first s. -/
def reps (f : Nat → Nat) : Nat → List Nat
  | 0 => []
  | s + 1 => if f s ∈ grp f s then reps f s else reps f s ++ [s]
theorem reps_in {f : Nat → Nat} {s : Nat} (h : f s ∈ grp f s) : reps f (s + 1) = reps f s := by
  show (if _ then _ else _) = _; rw [if_pos h]
theorem reps_out {f : Nat → Nat} {s : Nat} (h : ¬ f s ∈ grp f s) : reps f (s + 1) = reps f s ++ [s] := by
  show (if _ then _ else _) = _; rw [if_neg h]
theorem reps_map (f : Nat → Nat) : ∀ s, (reps f s).map f = grp f s
  | 0 => rfl
  | s + 1 => by
    by_cases h : f s ∈ grp f s
    · rw [reps_in h, show grp f (s + 1) = grp f s from addK_in h]; exact reps_map f s
    · rw [reps_out h, show grp f (s + 1) = grp f s ++ [f s] from addK_out h, List.map_append, reps_map f s]; rfl
theorem reps_len (f : Nat → Nat) (s : Nat) : (reps f s).length = (grp f s).length := by rw [← reps_map, List.length_map]
theorem reps_lt (f : Nat → Nat) : ∀ (n : Nat) {r : Nat}, r ∈ reps f n → r < n
  | 0, r, h => by simp [reps] at h
  | n + 1, r, h => by
    by_cases e : f n ∈ grp f n
    · rw [reps_in e] at h; have := reps_lt f n h; omega
    · rw [reps_out e] at h
      rcases List.mem_append.1 h with h | h
      · have := reps_lt f n h; omega
      · simp at h; omega
/-- A class that is not there yet has the next number. -/
theorem nmb_skip (f : Nat → Nat) (s : Nat) : nmb f s < (reps f s).length ↔ f s ∈ grp f s := by
  rw [reps_len]
  constructor
  · intro h
    exact Classical.byContradiction fun H => by rw [nmb_new f H] at h; omega
  · intro h
    rw [nmb_old f h]
    exact List.idxOf_lt_length_of_mem h
theorem reps_at (f : Nat → Nat) {n s : Nat} (h : s < n) : f ((reps f n).getD (nmb f s) 0) = f s := by
  have h1 := nmb_lt f h
  rw [← reps_len] at h1
  have h2 : ((reps f n).map f).getD (nmb f s) (f 0) = f s := by
    rw [reps_map, nmb_in f h]; exact getD_idxOf (grp_has f h)
  rw [List.getD_eq_getElem?_getD, List.getElem?_map, List.getElem?_eq_getElem h1] at h2
  rw [List.getD_eq_getElem?_getD, List.getElem?_eq_getElem h1]
  exact h2
theorem nmb_reps (f : Nat → Nat) {n j : Nat} (h : j < (reps f n).length) : nmb f ((reps f n).getD j 0) = j := by
  have hm : (reps f n).getD j 0 ∈ reps f n := getD_mem h
  rw [nmb_in f (reps_lt f n hm)]
  have hj : j < (grp f n).length := by rw [← reps_len]; exact h
  have h2 : (grp f n)[j] = f ((reps f n).getD j 0) := by
    have h3 : (grp f n)[j]? = some (f ((reps f n).getD j 0)) := by
      rw [← reps_map, List.getElem?_map, List.getD_eq_getElem?_getD, List.getElem?_eq_getElem h]; rfl
    rw [List.getElem?_eq_getElem hj] at h3
    exact Option.some.inj h3
  rw [← h2]
  have h4 := List.getElem_idxOf (x := (grp f n)[j]) (xs := grp f n) (List.idxOf_lt_length_of_mem (List.getElem_mem hj))
  exact (List.getElem_inj (grp_nodup f n)).1 h4

/-- The rows of the machine of classes. -/
def qR (nx : List (List Int)) (i : Nat) (f : Nat → Nat) (s : Nat) : List Int := (List.range i).map fun a => ((nmb f (nN nx s a) : Nat) : Int)
theorem qR_len (nx : List (List Int)) (i : Nat) (f : Nat → Nat) (s : Nat) : (qR nx i f s).length = i := by simp [qR]
theorem qR_at {nx : List (List Int)} {i : Nat} {f : Nat → Nat} {s a : Nat} (ha : a < i) : (qR nx i f s).getD a 0 = ((nmb f (nN nx s a) : Nat) : Int) := by
  unfold qR; simp [List.getD, ha]
/-- A row while it is renumbered. -/
def qmid (nx : List (List Int)) (i : Nat) (f : Nat → Nat) (s a : Nat) : List Int := (qR nx i f s).take a ++ (nx.getD s []).drop a
theorem qmid_zero (nx : List (List Int)) (i : Nat) (f : Nat → Nat) (s : Nat) : qmid nx i f s 0 = nx.getD s [] := by simp [qmid]
theorem qmid_all {nx : List (List Int)} {i : Nat} {f : Nat → Nat} {s : Nat} (h : (nx.getD s []).length = i) : qmid nx i f s i = qR nx i f s := by
  unfold qmid; rw [List.take_of_length_le (by rw [qR_len]; exact Nat.le_refl _), List.drop_eq_nil_of_le (by omega), List.append_nil]
theorem qmid_len {nx : List (List Int)} {i : Nat} {f : Nat → Nat} {s a : Nat} (h : (nx.getD s []).length = i) (ha : a ≤ i) : (qmid nx i f s a).length = i := by
  unfold qmid; rw [List.length_append, List.length_take, List.length_drop, qR_len, h]; omega
theorem qmid_get {nx : List (List Int)} {i : Nat} {f : Nat → Nat} {s a m : Nat} (ha : a ≤ i) : (qmid nx i f s a)[m]? = if m < a then (qR nx i f s)[m]? else (nx.getD s [])[m]? := by
  unfold qmid
  have hl : ((qR nx i f s).take a).length = a := by rw [List.length_take, qR_len]; omega
  by_cases h : m < a
  · rw [if_pos h, List.getElem?_append_left (by omega), List.getElem?_take, if_pos h]
  · rw [if_neg h, List.getElem?_append_right (by omega), List.getElem?_drop, hl, show a + (m - a) = m by omega]
theorem qmid_at {nx : List (List Int)} {i : Nat} {f : Nat → Nat} {s a : Nat} (ha : a < i) : (qmid nx i f s a).getD a 0 = (nx.getD s []).getD a 0 := by
  rw [List.getD_eq_getElem?_getD, qmid_get (by omega), if_neg (by omega), ← List.getD_eq_getElem?_getD]
theorem qmid_set {nx : List (List Int)} {i : Nat} {f : Nat → Nat} {s a : Nat} (h : (nx.getD s []).length = i) (ha : a < i) : (qmid nx i f s a).set a ((nmb f (nN nx s a) : Nat) : Int) = qmid nx i f s (a + 1) := by
  apply List.ext_getElem?
  intro m
  have ht : (qR nx i f s)[a]? = some ((nmb f (nN nx s a) : Nat) : Int) := by
    have := qR_at (nx := nx) (f := f) (s := s) ha
    rw [List.getD_eq_getElem?_getD, List.getElem?_eq_getElem (by rw [qR_len]; exact ha)] at this
    rw [List.getElem?_eq_getElem (by rw [qR_len]; exact ha)]
    exact congrArg some this
  rw [List.getElem?_set, qmid_get (by omega), qmid_get (by omega), qmid_len h (by omega)]
  by_cases e : a = m
  · subst e
    rw [if_pos rfl, if_pos ha, if_pos (by omega), ht]
  · rw [if_neg e]
    by_cases e2 : m < a
    · rw [if_pos e2, if_pos (by omega)]
    · rw [if_neg e2, if_neg (by omega)]
/-- The tables of the machine of classes. -/
def qN (nx : List (List Int)) (i : Nat) (f : Nat → Nat) (s : Nat) : List (List Int) := (reps f s).map (qR nx i f)
def qO (ot : List (List Int)) (f : Nat → Nat) (s : Nat) : List (List Int) := (reps f s).map fun s => ot.getD s []
theorem qN_in {nx : List (List Int)} {i : Nat} {f : Nat → Nat} {s : Nat} (h : f s ∈ grp f s) : qN nx i f (s + 1) = qN nx i f s := by unfold qN; rw [reps_in h]
theorem qO_in {ot : List (List Int)} {f : Nat → Nat} {s : Nat} (h : f s ∈ grp f s) : qO ot f (s + 1) = qO ot f s := by unfold qO; rw [reps_in h]
theorem qN_out {nx : List (List Int)} {i : Nat} {f : Nat → Nat} {s : Nat} (h : ¬ f s ∈ grp f s) : qN nx i f (s + 1) = qN nx i f s ++ [qR nx i f s] := by unfold qN; rw [reps_out h, List.map_append]; rfl
theorem qO_out {ot : List (List Int)} {f : Nat → Nat} {s : Nat} (h : ¬ f s ∈ grp f s) : qO ot f (s + 1) = qO ot f s ++ [ot.getD s []] := by unfold qO; rw [reps_out h, List.map_append]; rfl
theorem qN_len (nx : List (List Int)) (i : Nat) (f : Nat → Nat) (s : Nat) : (qN nx i f s).length = (reps f s).length := by simp [qN]
theorem qO_len (ot : List (List Int)) (f : Nat → Nat) (s : Nat) : (qO ot f s).length = (reps f s).length := by simp [qO]
theorem reps_le (f : Nat → Nat) (s : Nat) : (reps f s).length ≤ s := by rw [reps_len]; exact grp_len f s
end Go.Proofs.Ytogcecfeofbbnaa
end

section
/- Canonical automata: the least words of their classes determine them. -/
namespace Go.Proofs.Ytogcecfeofbbnaa

theorem Lx_irr : ∀ {u : List Int}, ¬ Lx u u
  | [], h => by simp [Lx] at h
  | a :: u, h => by
    simp only [Lx] at h
    rcases h with h | ⟨_, h⟩
    · omega
    · exact Lx_irr h
theorem Lx_asym : ∀ {u v : List Int}, Lx u v → ¬ Lx v u
  | [], _, h, _ => by simp [Lx] at h
  | _ :: _, [], h, _ => by simp [Lx] at h
  | a :: u, b :: v, h, k => by
    simp only [Lx] at h k
    rcases h with h | ⟨h, h'⟩ <;> rcases k with k | ⟨k, k'⟩
    · omega
    · omega
    · omega
    · exact Lx_asym h' k'
theorem SL_irr {u : List Int} : ¬ SL u u := fun h => by
  rcases h with h | ⟨_, h⟩
  · omega
  · exact Lx_irr h
theorem SL_asym {u v : List Int} (h : SL u v) (k : SL v u) : False := by
  rcases h with h | ⟨h, h'⟩ <;> rcases k with k | ⟨k, k'⟩
  · omega
  · omega
  · omega
  · exact Lx_asym h' k'
theorem sorted_eq : ∀ {W V : List (List Int)}, W.Pairwise SL → V.Pairwise SL → (∀ x, x ∈ W ↔ x ∈ V) → W = V
  | [], [], _, _, _ => rfl
  | [], b :: V, _, _, h => absurd ((h b).2 (by simp)) (by simp)
  | a :: W, [], _, _, h => absurd ((h a).1 (by simp)) (by simp)
  | a :: W, b :: V, h1, h2, h => by
    rw [List.pairwise_cons] at h1 h2
    have e : a = b := by
      rcases List.mem_cons.1 ((h a).1 (by simp)) with e | e
      · exact e
      · rcases List.mem_cons.1 ((h b).2 (by simp)) with e' | e'
        · exact e'.symm
        · exact absurd (h1.1 b e') (fun x => SL_asym x (h2.1 a e))
    subst e
    rw [sorted_eq h1.2 h2.2 fun x => ⟨fun hx => ?_, fun hx => ?_⟩]
    · rcases List.mem_cons.1 ((h x).1 (List.mem_cons_of_mem _ hx)) with e | e
      · subst e; exact absurd (h1.1 x hx) SL_irr
      · exact e
    · rcases List.mem_cons.1 ((h x).2 (List.mem_cons_of_mem _ hx)) with e | e
      · subst e; exact absurd (h2.1 x hx) SL_irr
      · exact e
/-- W has the least words of the classes of f, in order. -/
structure Cw {κ : Type} (f : List Int → κ) (i : Nat) (W : List (List Int)) : Prop where
  wd : ∀ u, u ∈ W → Wd i u
  so : W.Pairwise SL
  le : ∀ v, v ∈ W → ∀ u, Wd i u → SL u v → f u ≠ f v
  co : ∀ u, Wd i u → ∃ v, v ∈ W ∧ f v = f u
theorem Cw.sub {κ μ : Type} {f : List Int → κ} {g : List Int → μ} {i : Nat} {W V : List (List Int)} (h : Cw f i W) (k : Cw g i V) (e : ∀ u v, Wd i u → Wd i v → (f u = f v ↔ g u = g v)) {v : List Int} (hv : v ∈ W) : v ∈ V := by
  obtain ⟨x, hx, hg⟩ := k.co v (h.wd v hv)
  rcases SL_tri (u := x) (v := v) with h1 | h1 | h1
  · exact absurd ((e x v (k.wd x hx) (h.wd v hv)).2 hg) (h.le v hv x (k.wd x hx) h1)
  · subst h1; exact hx
  · exact absurd hg.symm (k.le x hx v (h.wd v hv) h1)
theorem Cw.uniq {κ μ : Type} {f : List Int → κ} {g : List Int → μ} {i : Nat} {W V : List (List Int)} (h : Cw f i W) (k : Cw g i V) (e : ∀ u v, Wd i u → Wd i v → (f u = f v ↔ g u = g v)) : W = V :=
  sorted_eq h.so k.so fun _ => ⟨fun hx => h.sub k e hx, fun hx => k.sub h (fun u v hu hv => (e u v hu hv).symm) hx⟩
theorem getDW {W : List (List Int)} {k : Nat} (h : k < W.length) : W.getD k [] = W[k] := by
  rw [List.getD_eq_getElem?_getD, List.getElem?_eq_getElem h]; rfl
theorem getDW_mem {W : List (List Int)} {k : Nat} (h : k < W.length) : W.getD k [] ∈ W := by rw [getDW h]; exact List.getElem_mem h
theorem Cw.inj {κ : Type} {f : List Int → κ} {i : Nat} {W : List (List Int)} (h : Cw f i W) {j k : Nat} (hj : j < W.length) (hk : k < W.length) (e : f (W.getD j []) = f (W.getD k [])) : j = k := by
  have hs := List.pairwise_iff_getElem.1 h.so
  rcases Nat.lt_trichotomy j k with h1 | h1 | h1
  · have := hs j k hj hk h1
    rw [← getDW hj, ← getDW hk] at this
    exact absurd e (h.le _ (getDW_mem hk) _ (h.wd _ (getDW_mem hj)) this)
  · exact h1
  · have := hs k j hk hj h1
    rw [← getDW hj, ← getDW hk] at this
    exact absurd e.symm (h.le _ (getDW_mem hj) _ (h.wd _ (getDW_mem hk)) this)
/-- The automaton whose states are the least words. -/
structure Can {κ : Type} (f : List Int → κ) (L : List Int → Bool) (i : Nat) (N : List (List Int)) (A : List Bool) (W : List (List Int)) : Prop where
  cw : Cw f i W
  nl : N.length = W.length
  al : A.length = W.length
  rl : ∀ k, k < W.length → (N.getD k []).length = i
  rx : ∀ k x, k < W.length → x < i → ∃ j : Nat, j < W.length ∧ (N.getD k []).getD x 0 = (j : Int) ∧ f (W.getD j []) = f (W.getD k [] ++ [(x : Int)])
  ac : ∀ k, k < W.length → A.getD k false = L (W.getD k [])
theorem list_ext_d {β : Type} {l k : List β} (d : β) (h1 : l.length = k.length) (h : ∀ s, s < l.length → l.getD s d = k.getD s d) : l = k := by
  apply List.ext_getElem h1
  intro s h2 h3
  have := h s h2
  rw [List.getD_eq_getElem?_getD, List.getD_eq_getElem?_getD, List.getElem?_eq_getElem h2, List.getElem?_eq_getElem h3] at this
  exact this
theorem Can.uniq {κ μ : Type} {f : List Int → κ} {g : List Int → μ} {L K : List Int → Bool} {i : Nat} {N M : List (List Int)} {A B : List Bool} {W V : List (List Int)} (h : Can f L i N A W) (k : Can g K i M B V)
    (e : ∀ u v, Wd i u → Wd i v → (f u = f v ↔ g u = g v)) (hl : ∀ u, Wd i u → L u = K u) : N = M ∧ A = B ∧ W = V := by
  have hW := h.cw.uniq k.cw e
  subst hW
  refine ⟨list_ext_d [] (by rw [h.nl, k.nl]) fun s hs => list_ext_d 0 ?_ fun x hx => ?_, list_ext_d false (by rw [h.al, k.al]) fun s hs => ?_, rfl⟩
  · rw [h.nl] at hs
    rw [h.rl s hs, k.rl s hs]
  · rw [h.nl] at hs
    rw [h.rl s hs] at hx
    obtain ⟨a, ha, e1, e2⟩ := h.rx s x hs hx
    obtain ⟨b, hb, e3, e4⟩ := k.rx s x hs hx
    have hw : Wd i (W.getD s [] ++ [(x : Int)]) := (h.cw.wd _ (getDW_mem hs)).app (Wd.one hx)
    have e5 : f (W.getD b []) = f (W.getD s [] ++ [(x : Int)]) := (e _ _ (h.cw.wd _ (getDW_mem hb)) hw).2 e4
    have e6 := h.cw.inj ha hb (e2.trans e5.symm)
    rw [e1, e3, e6]
  · rw [h.al] at hs
    rw [h.ac s hs, k.ac s hs, hl _ (h.cw.wd _ (getDW_mem hs))]
section
variable {F : Nat × Nat → Nat → Nat × Nat} {i n m s t : Nat} {E : List Ent}
/-- The rows and the truth values of the automaton of a search. -/
def autN (F : Nat × Nat → Nat → Nat × Nat) (i : Nat) (E : List Ent) : List (List Int) := E.map fun e => (List.range i).map fun x => ((plE E (F e.pr x) : Nat) : Int)
def autA (acc : Nat × Nat → Bool) (E : List Ent) : List Bool := E.map fun e => acc e.pr
theorem getD_mapE {β : Type} (g : Ent → β) (d : β) {k : Nat} (h : k < E.length) : (E.map g).getD k d = g (E.getD k Ent.zero) := by
  rw [List.getD_eq_getElem?_getD, List.getElem?_map, List.getElem?_eq_getElem h, getDE_at h]; rfl
theorem autN_row (F : Nat × Nat → Nat → Nat × Nat) (i : Nat) {k : Nat} (h : k < E.length) : (autN F i E).getD k [] = (List.range i).map fun x => ((plE E (F (E.getD k Ent.zero).pr x) : Nat) : Int) := getD_mapE _ _ h
theorem autN_at {k x : Nat} (h : k < E.length) (hx : x < i) : ((autN F i E).getD k []).getD x 0 = ((plE E (F (E.getD k Ent.zero).pr x) : Nat) : Int) := by
  rw [autN_row F i h, List.getD_eq_getElem?_getD, List.getElem?_map, List.getElem?_range hx]; rfl
theorem autN_nN {k x : Nat} (h : k < E.length) (hx : x < i) : nN (autN F i E) k x = plE E (F (E.getD k Ent.zero).pr x) := by
  unfold nN
  rw [autN_at h hx, Int.toNat_natCast]
theorem autA_at (acc : Nat × Nat → Bool) {k : Nat} (h : k < E.length) : (autA acc E).getD k false = acc (E.getD k Ent.zero).pr := getD_mapE _ _ h
theorem mem_pr {k : Nat} (h : k < E.length) : (E.getD k Ent.zero).pr ∈ E.map Ent.pr := List.mem_map.2 ⟨_, getDE_mem h, rfl⟩
theorem Ens.inj (h : Ens n m s t E) {j k : Nat} (hj : j < E.length) (hk : k < E.length) (e : (E.getD j Ent.zero).pr = (E.getD k Ent.zero).pr) : j = k := by
  have hs := List.pairwise_iff_getElem.1 h.nd
  have hg : ∀ l (hl : l < E.length), (E.map Ent.pr)[l]'(by simpa using hl) = (E.getD l Ent.zero).pr := fun l hl => by rw [List.getElem_map, getDE_at hl]
  rcases Nat.lt_trichotomy j k with h1 | h1 | h1
  · exact absurd ((hg j hj).trans (e.trans (hg k hk).symm)) (hs j k (by simpa using hj) (by simpa using hk) h1)
  · exact h1
  · exact absurd ((hg k hk).trans (e.symm.trans (hg j hj).symm)) (hs k j (by simpa using hk) (by simpa using hj) h1)
theorem Ens.pl (h : Ens n m s t E) {k : Nat} (hk : k < E.length) : plE E (E.getD k Ent.zero).pr = k :=
  h.inj (plE_lt (mem_pr hk)) hk (plE_at (mem_pr hk))
theorem OrdG.has (h : OrdG F i s t (E.length * i) E) {u : List Int} (hu : Wd i u) : runF F (s, t) u ∈ E.map Ent.pr := by
  obtain ⟨c, hc, e⟩ := h.all u.length u (Nat.le_refl _) hu
  rw [← e]
  exact mem_pr hc
theorem OrdG.word (h : OrdG F i s t (E.length * i) E) {k : Nat} (hk : k < E.length) : Wd i (E.getD k Ent.zero).w ∧ runF F (s, t) (E.getD k Ent.zero).w = (E.getD k Ent.zero).pr := h.gd _ (getDE_mem hk)
theorem OrdG.sorted (h : OrdG F i s t (E.length * i) E) (hE : Ens n m s t E) {j k : Nat} (hj : j < k) (hk : k < E.length) : SL (E.getD j Ent.zero).w (E.getD k Ent.zero).w := by
  obtain ⟨w1, e1⟩ := h.word (show j < E.length by omega)
  obtain ⟨w2, e2⟩ := h.word hk
  rcases SL_tri (u := (E.getD j Ent.zero).w) (v := (E.getD k Ent.zero).w) with h1 | h1 | h1
  · exact h1
  · rw [h1, e2] at e1
    have := hE.inj hk (show j < E.length by omega) e1
    omega
  · obtain ⟨c, hc, e3⟩ := h.before _ _ j (Nat.le_refl _) (by omega) w2 h1
    rw [e2] at e3
    have := hE.inj (show c < E.length by omega) hk e3
    omega
theorem OrdG.least (h : OrdG F i s t (E.length * i) E) (hE : Ens n m s t E) {k : Nat} (hk : k < E.length) {u : List Int} (hu : Wd i u) (hs : SL u (E.getD k Ent.zero).w) : plE E (runF F (s, t) u) < k := by
  obtain ⟨c, hc, e⟩ := h.before _ u k (Nat.le_refl _) hk hu hs
  rw [← e, hE.pl (by omega)]
  exact hc
theorem fdG_can (acc : Nat × Nat → Bool) (hF : Stp F i n m) (hs : s < n) (ht : t < m) (hEq : E = fdG F i n m s t) :
    Can (runF F (s, t)) (fun u => acc (runF F (s, t) u)) i (autN F i E) (autA acc E) (E.map Ent.w) := by
  have hO : OrdG F i s t (E.length * i) E := by rw [hEq]; exact fdG_ord hF hs ht
  have hE : Ens n m s t E := by rw [hEq]; exact fdG_ens hF hs ht
  have hw : ∀ k, k < E.length → (E.map Ent.w).getD k [] = (E.getD k Ent.zero).w := fun k hk => getD_mapE Ent.w [] hk
  have hmem : ∀ v, v ∈ E.map Ent.w → ∃ k, k < E.length ∧ v = (E.getD k Ent.zero).w := fun v hv => by
    obtain ⟨k, hk, e⟩ := List.getElem_of_mem hv
    have hk2 : k < E.length := by simpa using hk
    exact ⟨k, hk2, by rw [← hw k hk2, getDW hk, e]⟩
  refine ⟨⟨fun u hu => ?_, ?_, fun v hv u hu hsl => ?_, fun u hu => ?_⟩, by simp [autN], by simp [autA], fun k hk => ?_, fun k x hk hx => ?_, fun k hk => ?_⟩
  · obtain ⟨k, hk, rfl⟩ := hmem u hu
    exact (hO.word hk).1
  · rw [List.pairwise_iff_getElem]
    intro a b ha hb hab
    rw [← getDW ha, ← getDW hb, hw a (by simpa using ha), hw b (by simpa using hb)]
    exact hO.sorted hE hab (by simpa using hb)
  · obtain ⟨k, hk, rfl⟩ := hmem v hv
    intro e
    have h1 := hO.least hE hk hu hsl
    rw [e, (hO.word hk).2, hE.pl hk] at h1
    omega
  · have h1 := hO.has hu
    have h2 := plE_lt h1
    exact ⟨(E.getD (plE E (runF F (s, t) u)) Ent.zero).w, List.mem_map.2 ⟨_, getDE_mem h2, rfl⟩, by rw [(hO.word h2).2, plE_at h1]⟩
  · rw [List.length_map] at hk
    rw [autN_row F i hk]; simp
  · rw [List.length_map] at hk ⊢
    obtain ⟨w1, e1⟩ := hO.word hk
    have h1 : F (E.getD k Ent.zero).pr x = runF F (s, t) ((E.getD k Ent.zero).w ++ [(x : Int)]) := by rw [runF_app, e1]; rfl
    have h2 := hO.has (w1.app (Wd.one hx))
    rw [← h1] at h2
    have h3 := plE_lt h2
    refine ⟨plE E (F (E.getD k Ent.zero).pr x), h3, autN_at hk hx, ?_⟩
    rw [hw _ h3, hw _ hk, (hO.word h3).2, plE_at h2, h1]
  · rw [List.length_map] at hk
    rw [autA_at acc hk, hw _ hk]
    show _ = acc (runF F (s, t) (E.getD k Ent.zero).w)
    rw [(hO.word hk).2]
/-- What a word reaches in the automaton of a search. -/
theorem aut_run (hF : Stp F i n m) (hE : Ens n m s t E) (hO : OrdG F i s t (E.length * i) E) : ∀ (u : List Int) (k : Nat), k < E.length → Wd i u → runS (autN F i E) k u < E.length ∧ (E.getD (runS (autN F i E) k u) Ent.zero).pr = runF F (E.getD k Ent.zero).pr u
  | [], k, hk, _ => ⟨hk, rfl⟩
  | x :: u, k, hk, hu => by
    obtain ⟨a, rfl, ha⟩ := hu.head
    obtain ⟨w1, e1⟩ := hO.word hk
    have h1 : F (E.getD k Ent.zero).pr a = runF F (s, t) ((E.getD k Ent.zero).w ++ [(a : Int)]) := by rw [runF_app, e1]; rfl
    have h2 := hO.has (w1.app (Wd.one ha))
    rw [← h1] at h2
    have h3 := plE_lt h2
    have ih := aut_run hF hE hO u (plE E (F (E.getD k Ent.zero).pr a)) h3 hu.tail
    have e2 : runS (autN F i E) k ((a : Int) :: u) = runS (autN F i E) (plE E (F (E.getD k Ent.zero).pr a)) u := by
      show runS (autN F i E) (nN (autN F i E) k ((a : Int)).toNat) u = _
      rw [Int.toNat_natCast, autN_nN hk ha]
    rw [e2]
    refine ⟨ih.1, ?_⟩
    rw [ih.2, plE_at h2]
    show _ = runF F (F (E.getD k Ent.zero).pr ((a : Int)).toNat) u
    rw [Int.toNat_natCast]
theorem aut_acc (acc : Nat × Nat → Bool) (hF : Stp F i n m) (hE : Ens n m s t E) (hO : OrdG F i s t (E.length * i) E) {u : List Int} (hu : Wd i u) : (autA acc E).getD (runS (autN F i E) 0 u) false = acc (runF F (s, t) u) := by
  obtain ⟨h1, h2⟩ := aut_run hF hE hO u 0 hO.ne hu
  rw [autA_at acc h1, h2]
  rw [show (E.getD 0 Ent.zero).pr = (s, t) from Prod.ext hO.zp.1 hO.zp.2]
end
end Go.Proofs.Ytogcecfeofbbnaa
end

section
/- What From, Run and Step return. -/
namespace Go.Proofs.Ytogcecfeofbbnaa

/-- What From returns. -/
def frm (i st : Int) (nx ot : List (List Int)) (s : Int) (xs : List Int) : List Int × Int × Int :=
  if vld i st nx ot = 0 then (if 0 ≤ s ∧ s < nx.length then (if chk xs i = 0 then (runO nx ot s.toNat xs, (runS nx s.toNat xs : Int), 0) else ([], 0, chk xs i)) else ([], 0, 2)) else ([], 0, vld i st nx ot)
theorem frm_bad {i st : Int} {nx ot : List (List Int)} {s : Int} {xs : List Int} (h : ¬ vld i st nx ot = 0) : frm i st nx ot s xs = ([], 0, vld i st nx ot) := by unfold frm; rw [if_neg h]
theorem frm_state {i st : Int} {nx ot : List (List Int)} {s : Int} {xs : List Int} (h : vld i st nx ot = 0) (h1 : ¬ (0 ≤ s ∧ s < nx.length)) : frm i st nx ot s xs = ([], 0, 2) := by unfold frm; rw [if_pos h, if_neg h1]
theorem frm_word {i st : Int} {nx ot : List (List Int)} {s : Int} {xs : List Int} (h : vld i st nx ot = 0) (h1 : 0 ≤ s ∧ s < nx.length) (h2 : ¬ chk xs i = 0) : frm i st nx ot s xs = ([], 0, chk xs i) := by unfold frm; rw [if_pos h, if_pos h1, if_neg h2]
theorem frm_ok {i st : Int} {nx ot : List (List Int)} {s : Nat} {xs : List Int} (h : vld i st nx ot = 0) (h1 : s < nx.length) (h2 : chk xs i = 0) : frm i st nx ot s xs = (runO nx ot s xs, (runS nx s xs : Int), 0) := by
  unfold frm; rw [if_pos h, if_pos (by omega), if_pos h2]; rfl
theorem frm_len {i st : Int} {nx ot : List (List Int)} {s : Int} {xs : List Int} : (frm i st nx ot s xs).1.length ≤ 1024 := by
  by_cases h : vld i st nx ot = 0
  · by_cases h1 : 0 ≤ s ∧ s < nx.length
    · by_cases h2 : chk xs i = 0
      · obtain ⟨t, rfl⟩ : ∃ t : Nat, s = t := ⟨s.toNat, by omega⟩
        rw [frm_ok h (by omega) h2]
        show (runO nx ot t xs).length ≤ 1024
        rw [runO_len]
        exact (chk_zero h2).2.2.1
      · rw [frm_word h h1 h2]; simp
    · rw [frm_state h h1]; simp
  · rw [frm_bad h]; simp
theorem frm_zero {i st : Int} {nx ot : List (List Int)} {s : Int} {xs : List Int} (h : (frm i st nx ot s xs).2.2 = 0) : ∃ i' st' n t : Nat, i = i' ∧ st = st' ∧ s = t ∧ t < n ∧ Mok i' st' n nx ot ∧ chk xs i = 0 := by
  by_cases h0 : vld i st nx ot = 0
  · obtain ⟨i', st', n, rfl, rfl, hM⟩ := vld_zero h0
    by_cases h1 : 0 ≤ s ∧ s < nx.length
    · by_cases h2 : chk xs i' = 0
      · exact ⟨i', st', n, s.toNat, rfl, rfl, by omega, by have := hM.nxl; omega, hM, h2⟩
      · rw [frm_word h0 h1 h2] at h; exact absurd h h2
    · rw [frm_state h0 h1] at h; exact absurd h (by show ¬ (2 : Int) = 0; omega)
  · rw [frm_bad h0] at h; exact absurd h h0
theorem Mok.frm {i st n : Nat} {nx ot : List (List Int)} (hM : Mok i st n nx ot) {s : Nat} (hs : s < n) {xs : List Int} (h : chk xs i = 0) : frm i st nx ot s xs = (runO nx ot s xs, (runS nx s xs : Int), 0) :=
  frm_ok hM.vld (by rw [hM.nxl]; exact hs) h

/-- What Step returns. -/
def stp (i st : Int) (nx ot : List (List Int)) (s a : Int) : Int × Int × Int :=
  if vld i st nx ot = 0 then (if (0 ≤ s ∧ s < nx.length) ∧ 0 ≤ a ∧ a < i then ((nN nx s.toNat a.toNat : Int), oN ot s.toNat a.toNat, 0) else (0, 0, 2)) else (0, 0, vld i st nx ot)
theorem stp_bad {i st : Int} {nx ot : List (List Int)} {s a : Int} (h : ¬ vld i st nx ot = 0) : stp i st nx ot s a = (0, 0, vld i st nx ot) := by unfold stp; rw [if_neg h]
theorem stp_state {i st : Int} {nx ot : List (List Int)} {s a : Int} (h : vld i st nx ot = 0) (h1 : ¬ ((0 ≤ s ∧ s < nx.length) ∧ 0 ≤ a ∧ a < i)) : stp i st nx ot s a = (0, 0, 2) := by unfold stp; rw [if_pos h, if_neg h1]
theorem stp_ok {i st : Int} {nx ot : List (List Int)} {s a : Nat} (h : vld i st nx ot = 0) (h1 : s < nx.length) (h2 : (a : Int) < i) : stp i st nx ot s a = ((nN nx s a : Int), oN ot s a, 0) := by unfold stp; rw [if_pos h, if_pos (by omega)]; rfl
end Go.Proofs.Ytogcecfeofbbnaa
end

section
/- Compositions: the machine of the pairs that words reach. -/
namespace Go.Proofs.Ytogcecfeofbbnaa

/-- The outputs of the pairs. -/
def outN (O : Nat × Nat → Nat → Nat) (i : Nat) (E : List Ent) : List (List Int) := E.map fun e => (List.range i).map fun a => ((O e.pr a : Nat) : Int)
/-- There are few pairs, with small outputs. -/
def Fits (O : Nat × Nat → Nat → Nat) (i : Nat) (E : List Ent) : Prop := E.length ≤ 128 ∧ ∀ k, k < E.length → ∀ a, a < i → O (E.getD k Ent.zero).pr a ≤ 1048576
instance (O : Nat × Nat → Nat → Nat) (i : Nat) (E : List Ent) : Decidable (Fits O i E) := by unfold Fits; exact inferInstance
section
variable {F : Nat × Nat → Nat → Nat × Nat} {O : Nat × Nat → Nat → Nat} {i n m s t k a : Nat} {E : List Ent}
theorem outN_len : (outN O i E).length = E.length := by simp [outN]
theorem autN_len : (autN F i E).length = E.length := by simp [autN]
theorem outN_row (hk : k < E.length) : (outN O i E).getD k [] = (List.range i).map fun a => ((O (E.getD k Ent.zero).pr a : Nat) : Int) := getD_mapE _ _ hk
theorem outN_at (hk : k < E.length) (ha : a < i) : ((outN O i E).getD k []).getD a 0 = ((O (E.getD k Ent.zero).pr a : Nat) : Int) := by
  rw [outN_row hk]
  simp [List.getD, ha]
theorem fdG_mok (hF : Stp F i n m) (hs : s < n) (ht : t < m) (hi1 : 1 ≤ i) (hi : i ≤ 64) (hE : E = fdG F i n m s t) (h : Fits O i E) : Mok i 0 E.length (autN F i E) (outN O i E) where
  i1 := hi1
  i2 := hi
  n1 := by rw [hE]; exact (fdG_ord hF hs ht).ne
  n2 := h.1
  st := by rw [hE]; exact (fdG_ord hF hs ht).ne
  nxl := autN_len
  otl := outN_len
  row := fun q hq => by
    have hc := fdG_can (fun _ => true) hF hs ht hE
    have hq2 : q < (E.map Ent.w).length := by simpa using hq
    refine ⟨hc.rl q hq2, by rw [outN_row hq]; simp, fun a ha => ?_⟩
    obtain ⟨j, hj, e, _⟩ := hc.rx q a hq2 ha
    rw [List.length_map] at hj
    rw [e, outN_at hq ha]
    have := h.2 q hq a ha
    omega
/-- The outputs of a word. -/
def outF (F : Nat × Nat → Nat → Nat × Nat) (O : Nat × Nat → Nat → Nat) : Nat × Nat → List Int → List Int
  | _, [] => []
  | p, x :: u => ((O p x.toNat : Nat) : Int) :: outF F O (F p x.toNat) u
theorem fdG_out (hF : Stp F i n m) (hE : Ens n m s t E) (hO : OrdG F i s t (E.length * i) E) : ∀ (u : List Int) (k : Nat), k < E.length → Wd i u → runO (autN F i E) (outN O i E) k u = outF F O (E.getD k Ent.zero).pr u
  | [], _, _, _ => rfl
  | x :: u, k, hk, hu => by
    obtain ⟨a, rfl, ha⟩ := hu.head
    obtain ⟨w1, e1⟩ := hO.word hk
    have h1 : F (E.getD k Ent.zero).pr a = runF F (s, t) ((E.getD k Ent.zero).w ++ [(a : Int)]) := by rw [runF_app, e1]; rfl
    have h2 := hO.has (w1.app (Wd.one ha))
    rw [← h1] at h2
    have h3 := plE_lt h2
    have ih := fdG_out hF hE hO u (plE E (F (E.getD k Ent.zero).pr a)) h3 hu.tail
    show oN (outN O i E) k ((a : Int)).toNat :: runO (autN F i E) (outN O i E) (nN (autN F i E) k ((a : Int)).toNat) u = ((O (E.getD k Ent.zero).pr ((a : Int)).toNat : Nat) : Int) :: outF F O (F (E.getD k Ent.zero).pr ((a : Int)).toNat) u
    rw [Int.toNat_natCast, autN_nN hk ha, ih, plE_at h2]
    show ((outN O i E).getD k []).getD a 0 :: _ = _
    rw [outN_at hk ha]
/-- From the start. -/
theorem fdG_run (hF : Stp F i n m) (hs : s < n) (ht : t < m) (hE : E = fdG F i n m s t) {u : List Int} (hu : Wd i u) : runO (autN F i E) (outN O i E) 0 u = outF F O (s, t) u := by
  subst hE
  have hO := fdG_ord hF hs ht
  have := fdG_out (O := O) hF (fdG_ens hF hs ht) hO u 0 hO.ne hu
  rw [this]
  have := hO.zp
  rw [show ((fdG F i n m s t).getD 0 Ent.zero).pr = (s, t) from Prod.ext this.1 this.2]
end
section
variable {i i' st n st' n' : Nat} {nx ot nx' ot' : List (List Int)}
def oM (ot : List (List Int)) (s a : Nat) : Nat := (oN ot s a).toNat
theorem Mok.oM_eq (h : Mok i st n nx ot) {s a : Nat} (hs : s < n) (ha : a < i) : oN ot s a = (oM ot s a : Int) := by
  have := ((h.row s hs).2.2 a ha).2.2.1
  show (ot.getD s []).getD a 0 = (((ot.getD s []).getD a 0).toNat : Int)
  omega
theorem Mok.oM_le (h : Mok i st n nx ot) {s a : Nat} (hs : s < n) (ha : a < i) : oM ot s a ≤ 1048576 := by
  have := ((h.row s hs).2.2 a ha).2.2
  show ((ot.getD s []).getD a 0).toNat ≤ _
  omega
/-- The pairs of Product, and what they answer. -/
def prF (nx nx' : List (List Int)) : Nat × Nat → Nat → Nat × Nat := fun p a => (nN nx p.1 a, nN nx' p.2 a)
def prO (ot ot' : List (List Int)) (g : Nat) : Nat × Nat → Nat → Nat := fun p a => oM ot p.1 a * (1 + g) + oM ot' p.2 a
/-- The pairs of Parallel, and what they answer. -/
def paF (i : Nat) (nx nx' : List (List Int)) : Nat × Nat → Nat → Nat × Nat := fun p a => if a < i then (nN nx p.1 a, p.2) else (p.1, nN nx' p.2 (a - i))
def paO (i : Nat) (ot ot' : List (List Int)) (g : Nat) : Nat × Nat → Nat → Nat := fun p a => if a < i then oM ot p.1 a else 1 + g + oM ot' p.2 (a - i)
/-- The pairs of Cascade, and what they answer. -/
def caF (nx ot nx' : List (List Int)) : Nat × Nat → Nat → Nat × Nat := fun p a => (nN nx p.1 a, nN nx' p.2 (oM ot p.1 a))
def caO (ot ot' : List (List Int)) : Nat × Nat → Nat → Nat := fun p a => oM ot' p.2 (oM ot p.1 a)
theorem pr_stp (h : Mok i st n nx ot) (h' : Mok i st' n' nx' ot') : Stp (prF nx nx') i n n' := fun _ _ _ hp hq hx => ⟨h.nN_lt hp hx, h'.nN_lt hq hx⟩
theorem pa_stp (h : Mok i st n nx ot) (h' : Mok i' st' n' nx' ot') : Stp (paF i nx nx') (i + i') n n' := fun _ _ x hp hq hx => by
  unfold paF
  by_cases hi : x < i
  · rw [if_pos hi]; exact ⟨h.nN_lt hp hi, hq⟩
  · rw [if_neg hi]; exact ⟨hp, h'.nN_lt hq (by omega)⟩
theorem ca_stp (h : Mok i st n nx ot) (h' : Mok i' st' n' nx' ot') (hg : ∀ s a, s < n → a < i → oM ot s a < i') : Stp (caF nx ot nx') i n n' := fun p _ x hp hq hx => ⟨h.nN_lt hp hx, h'.nN_lt hq (hg p x hp hx)⟩
end
end Go.Proofs.Ytogcecfeofbbnaa
end

section
/- What trimming keeps. -/
namespace Go.Proofs.Ytogcecfeofbbnaa

section
variable {i st n : Nat} {nx ot : List (List Int)}

theorem tr_row {R : List Nat} {j : Nat} (hj : j < R.length) : (trN nx i R).getD j [] = trR nx i R (R.getD j 0) := by
  unfold trN; rw [List.getD_eq_getElem?_getD, List.getElem?_map, List.getElem?_eq_getElem hj, List.getD_eq_getElem?_getD, List.getElem?_eq_getElem hj]; rfl
theorem tr_out {R : List Nat} {j : Nat} (hj : j < R.length) : (trO ot R).getD j [] = ot.getD (R.getD j 0) [] := by
  unfold trO; rw [List.getD_eq_getElem?_getD, List.getElem?_map, List.getElem?_eq_getElem hj, List.getD_eq_getElem?_getD (l := R), List.getElem?_eq_getElem hj]; rfl
theorem tr_nN {R : List Nat} {j a : Nat} (hj : j < R.length) (ha : a < i) : nN (trN nx i R) j a = ixN R (nN nx (R.getD j 0) a) := by
  unfold nN; rw [tr_row hj, trR_at ha]; unfold nN; simp
theorem tr_oN {R : List Nat} {j a : Nat} (hj : j < R.length) : oN (trO ot R) j a = oN ot (R.getD j 0) a := by
  unfold oN; rw [tr_out hj]

theorem Mok.tr (hM : Mok i st n nx ot) : Mok i 0 (rch nx i st).length (trN nx i (rch nx i st)) (trO ot (rch nx i st)) := by
  have hs := hM.rch_stt
  have hl := hs.len
  have h0 : 0 < (rch nx i st).length := by obtain ⟨t, ht⟩ := rch_pre nx i st; rw [ht]; simp
  refine ⟨hM.i1, hM.i2, h0, by have := hM.n2; omega, h0, by simp [trN], by simp [trO], fun s h => ?_⟩
  have hm := getD_mem h
  have hr := hM.row _ (hs.2 _ hm)
  rw [tr_row h, tr_out h]
  refine ⟨trR_len _ _ _ _, hr.2.1, fun a ha => ?_⟩
  rw [trR_at ha]
  have := ixN_lt (hM.rch_in hm ha)
  exact ⟨by omega, by omega, (hr.2.2 a ha).2.2⟩

theorem tr_run (hM : Mok i st n nx ot) : ∀ (u : List Int) (s : Nat), s ∈ rch nx i st → (∀ x, x ∈ u → 0 ≤ x ∧ x < i) → runO (trN nx i (rch nx i st)) (trO ot (rch nx i st)) (ixN (rch nx i st) s) u = runO nx ot s u
  | [], _, _, _ => rfl
  | x :: u, s, hs, hu => by
    have hx := hu x (by simp)
    have ha : x.toNat < i := by omega
    show oN _ (ixN (rch nx i st) s) x.toNat :: runO _ _ (nN _ (ixN (rch nx i st) s) x.toNat) u = oN ot s x.toNat :: runO nx ot (nN nx s x.toNat) u
    rw [tr_oN (ixN_lt hs), tr_nN (ixN_lt hs) ha, ixN_at hs, tr_run hM u _ (hM.rch_in hs ha) fun y hy => hu y (by simp [hy])]

theorem ixN_st (nx : List (List Int)) (i st : Nat) : ixN (rch nx i st) st = 0 := by
  obtain ⟨t, ht⟩ := rch_pre nx i st
  rw [ht]; unfold ixN; simp
theorem st_mem (nx : List (List Int)) (i st : Nat) : st ∈ rch nx i st := by obtain ⟨t, ht⟩ := rch_pre nx i st; rw [ht]; simp

theorem addN_map {R : List Nat} {l : List Nat} {x : Nat} (hl : ∀ y, y ∈ l → y ∈ R) (hx : x ∈ R) : addN (l.map (ixN R)) (ixN R x) = (addN l x).map (ixN R) := by
  have h : ixN R x ∈ l.map (ixN R) ↔ x ∈ l := by
    rw [List.mem_map]
    constructor
    · rintro ⟨y, hy, e⟩
      have := congrArg (fun j => R.getD j 0) e
      simp only [ixN_at (hl y hy), ixN_at hx] at this
      rw [← this]; exact hy
    · intro h; exact ⟨x, h, rfl⟩
  unfold addN
  by_cases hm : x ∈ l
  · rw [if_pos (h.2 hm), if_pos hm]
  · rw [if_neg (fun H => hm (h.1 H)), if_neg hm, List.map_append]; rfl
theorem addN_sub {R l : List Nat} {x : Nat} (hl : ∀ y, y ∈ l → y ∈ R) (hx : x ∈ R) : ∀ y, y ∈ addN l x → y ∈ R := by
  unfold addN; split
  · exact hl
  · intro y hy; rw [List.mem_append] at hy
    rcases hy with hy | hy
    · exact hl y hy
    · simp at hy; subst hy; exact hx
theorem addR_map (hM : Mok i st n nx ot) {l : List Nat} {s : Nat} (hl : ∀ y, y ∈ l → y ∈ rch nx i st) (hs : s ∈ rch nx i st) : ∀ a, a ≤ i →
    addR (trN nx i (rch nx i st)) (ixN (rch nx i st) s) (l.map (ixN (rch nx i st))) a = (addR nx s l a).map (ixN (rch nx i st)) ∧ ∀ y, y ∈ addR nx s l a → y ∈ rch nx i st
  | 0, _ => ⟨rfl, hl⟩
  | a + 1, h => by
    obtain ⟨h1, h2⟩ := addR_map hM hl hs a (by omega)
    have hin := hM.rch_in hs (show a < i by omega)
    refine ⟨?_, addN_sub h2 hin⟩
    show addN (addR _ _ _ a) (nN _ _ a) = (addN _ _).map _
    rw [h1, tr_nN (ixN_lt hs) (by omega), ixN_at hs, addN_map h2 hin]
theorem bfs_map (hM : Mok i st n nx ot) : ∀ (k : Nat) (l : List Nat) (j : Nat), (∀ y, y ∈ l → y ∈ rch nx i st) →
    bfs (trN nx i (rch nx i st)) i k (l.map (ixN (rch nx i st))) j = (bfs nx i k l j).map (ixN (rch nx i st))
  | 0, _, _, _ => rfl
  | k + 1, l, j, hl => by
    show (if j < (l.map _).length then _ else _) = List.map _ (if j < l.length then _ else _)
    rw [List.length_map]
    by_cases hj : j < l.length
    · have hm := getD_mem hj
      obtain ⟨h1, h2⟩ := addR_map hM hl (hl _ hm) i (Nat.le_refl _)
      have e : (l.map (ixN (rch nx i st))).getD j 0 = ixN (rch nx i st) (l.getD j 0) := by
        rw [List.getD_eq_getElem?_getD, List.getElem?_map, List.getElem?_eq_getElem hj, List.getD_eq_getElem?_getD, List.getElem?_eq_getElem hj]; rfl
      rw [if_pos hj, if_pos hj, e, h1]
      exact bfs_map hM k _ _ h2
    · rw [if_neg hj, if_neg hj]

theorem bfs_more (hM : Mok i st n nx ot) {l : List Nat} {j : Nat} (h : Stt n l) : ∀ k, bfs nx i (n + k) l j = bfs nx i n l j
  | 0 => rfl
  | k + 1 => by rw [← Nat.add_assoc, bfs_fuel hM (n + k) l j h (by omega), bfs_more hM h k]

theorem map_ixN {R : List Nat} (hR : R.Nodup) : R.map (ixN R) = List.range R.length := by
  apply List.ext_getElem
  · simp
  · intro m h1 h2
    have hm : m < R.length := by simpa using h1
    rw [List.getElem_map, List.getElem_range]
    have := ixN_of hR hm
    rw [List.getD_eq_getElem?_getD, List.getElem?_eq_getElem hm] at this
    exact this

theorem tr_rch (hM : Mok i st n nx ot) : rch (trN nx i (rch nx i st)) i 0 = List.range (rch nx i st).length := by
  have hT := hM.tr
  have hl := hM.rch_stt.len
  have h := bfs_map hM nx.length [st] 0 (fun y hy => by simp at hy; subst hy; exact st_mem nx i y)
  rw [show [st].map (ixN (rch nx i st)) = [0] by show [ixN _ _] = _; rw [ixN_st]] at h
  show bfs _ i (trN nx i (rch nx i st)).length [0] 0 = _
  rw [hT.nxl]
  have hm := bfs_more hT (j := 0) (Stt.one hT.n1) (n - (rch nx i st).length)
  rw [show (rch nx i st).length + (n - (rch nx i st).length) = n by omega] at hm
  rw [← hm, ← hM.nxl, h]
  exact map_ixN hM.rch_stt.1

theorem ixN_range {k x : Nat} (h : x < k) : ixN (List.range k) x = x := by
  have hm : x ∈ List.range k := List.mem_range.2 h
  have h1 := ixN_at hm
  have h2 := ixN_lt hm
  rw [List.length_range] at h2
  rw [List.getD_eq_getElem?_getD, List.getElem?_eq_getElem (by rw [List.length_range]; exact h2), List.getElem_range] at h1
  exact h1
theorem getD_range {k j : Nat} (h : j < k) : (List.range k).getD j 0 = j := by
  rw [List.getD_eq_getElem?_getD, List.getElem?_eq_getElem (by rw [List.length_range]; exact h), List.getElem_range]; rfl

theorem tr_again (hM : Mok i st n nx ot) : trN (trN nx i (rch nx i st)) i (List.range (rch nx i st).length) = trN nx i (rch nx i st) := by
  have hT := hM.tr
  apply List.ext_getElem
  · simp [trN]
  · intro m h1 h2
    have hm : m < (rch nx i st).length := by simpa [trN] using h2
    have e1 := tr_row (nx := trN nx i (rch nx i st)) (i := i) (R := List.range (rch nx i st).length) (j := m) (by simpa using hm)
    have e2 := tr_row (nx := nx) (i := i) hm
    rw [List.getD_eq_getElem?_getD, List.getElem?_eq_getElem h1, getD_range hm] at e1
    rw [List.getD_eq_getElem?_getD, List.getElem?_eq_getElem h2] at e2
    have e1 : (trN (trN nx i (rch nx i st)) i (List.range (rch nx i st).length))[m] = _ := e1
    have e2 : (trN nx i (rch nx i st))[m] = _ := e2
    rw [e1, e2]
    unfold trR
    apply List.map_congr_left
    intro a ha
    have ha : a < i := List.mem_range.1 ha
    have hlt := hT.nN_lt hm ha
    rw [ixN_range hlt, tr_nN hm ha]
theorem tr_again_out (ot : List (List Int)) (R : List Nat) : trO (trO ot R) (List.range R.length) = trO ot R := by
  apply List.ext_getElem
  · simp [trO]
  · intro m h1 h2
    have hm : m < R.length := by simpa [trO] using h2
    have e1 := tr_out (ot := trO ot R) (R := List.range R.length) (j := m) (by simpa using hm)
    rw [List.getD_eq_getElem?_getD, List.getElem?_eq_getElem h1, getD_range hm, List.getD_eq_getElem?_getD, List.getElem?_eq_getElem h2] at e1
    exact e1
end
end Go.Proofs.Ytogcecfeofbbnaa
end
