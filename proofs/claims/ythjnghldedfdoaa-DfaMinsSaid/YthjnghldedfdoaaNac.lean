/- Lemmas of the proofs of this seat, of the parts Dbld, Hrow, Litl, Devn, Nmbp, Ptp, Trimp, Qtp, Dcan, Mnp, Dfap. Conditions: none. -/
import Derived.Test.YthjnghldedfdoaaNab
import Derived.Test.YthjnghldedfdoaaNaa
import Derived.Lib.SliceRun
import Derived.Maps.AppendAt
section
/- An automaton that is built: its block, its rows, its truth values. -/
namespace Go.Proofs.Ythjnghldedfdoaa
open Go.RowKit

/-- A result that lies in memory, an automaton, and one more. -/
theorem results_dfa {fn : Func} {p u : Tmp} (h : fn.results = #[.cell p 25, .tmp u]) (tmps : Array Value) (w : World) (g : Nat) (a b c d : Value)
    (hp : tmps.getD p undef = .pointer (some ⟨g, 0, none⟩)) (hg : Dblk w g a b c d) :
    (results fn tmps).run Try.prog w = .ok (.tuple #[.agg #[a, b, c, d], tmps.getD u undef]) w := by
  rw [results_cell_tmp h, hp]
  have hl := run_loadVar_row (P := Try.prog) w g 25 25 #[a, b, c, d] (0, 0) _ hg Try.underlying25 rfl (by kernel_rfl)
  simp [asAddr, hl]
theorem results_dfa1 {fn : Func} {p : Tmp} (h : fn.results = #[.cell p 25]) (tmps : Array Value) (w : World) (g : Nat) (a b c d : Value)
    (hp : tmps.getD p undef = .pointer (some ⟨g, 0, none⟩)) (hg : Dblk w g a b c d) :
    (results fn tmps).run Try.prog w = .ok (.agg #[a, b, c, d]) w := by
  have hl := run_loadVar_row (P := Try.prog) w g 25 25 #[a, b, c, d] (0, 0) _ hg Try.underlying25 rfl (by kernel_rfl)
  unfold results
  rw [h]
  have hp2 : tmps[p]?.getD undef = .pointer (some ⟨g, 0, none⟩) := by simpa [Array.getD_eq_getD_getElem?] using hp
  simp [hp2, asAddr, hl]
section
variable {w w' : World} {g : Nat} {a b c d : Value}
theorem Dblk.set4 (h : Dblk w g a b c d) (a' b' c' d' : Value) :
    Dblk ((((w.setCell ⟨g, 0, none⟩ a').setCell ⟨g, 1, none⟩ b').setCell ⟨g, 2, none⟩ c').setCell ⟨g, 3, none⟩ d') g a' b' c' d' :=
  heap_setCell_same _ g 3 _ _ d' (heap_setCell_same _ g 2 _ _ c' (heap_setCell_same _ g 1 _ _ b' (heap_setCell_same w g 0 _ _ a' h)))
theorem Dblk.set2 (h : Dblk w g a b c d) (v : Value) : Dblk (w.setCell ⟨g, 2, none⟩ v) g a b v d := heap_setCell_same w g 2 _ _ v h
theorem Dblk.set3 (h : Dblk w g a b c d) (v : Value) : Dblk (w.setCell ⟨g, 3, none⟩ v) g a b c v := heap_setCell_same w g 3 _ _ v h
theorem Dblk.keptT (h : Dblk w g a b c d) (k : KeptT 25 w w') : Dblk w' g a b c d := k g _ h
/-- Four stores into an automaton's block: blocks of other types are as they were. -/
theorem Dblk.off4 (h : Dblk w g a b c d) (a' b' c' d' : Value) {t : TypeId} (ht : t ≠ 25) :
    KeptT t w ((((w.setCell ⟨g, 0, none⟩ a').setCell ⟨g, 1, none⟩ b').setCell ⟨g, 2, none⟩ c').setCell ⟨g, 3, none⟩ d') := by
  have h1 := heap_setCell_same w g 0 _ _ a' h
  have h2 := heap_setCell_same _ g 1 _ _ b' h1
  have h3 := heap_setCell_same _ g 2 _ _ c' h2
  exact (((KeptT.off h ht a').trans (KeptT.off h1 ht b')).trans (KeptT.off h2 ht c')).trans (KeptT.off h3 ht d')
end
theorem below_set4 {z g : Nat} {w W : World} (hz : z ≤ g) (h : Below z w W) (a b c d : Value) : Below z w ((((W.setCell ⟨g, 0, none⟩ a).setCell ⟨g, 1, none⟩ b).setCell ⟨g, 2, none⟩ c).setCell ⟨g, 3, none⟩ d) :=
  (((h.setCell (p := ⟨g, 0, none⟩) hz a).setCell (p := ⟨g, 1, none⟩) hz b).setCell (p := ⟨g, 2, none⟩) hz c).setCell (p := ⟨g, 3, none⟩) hz d
theorem Rws.lower {w : World} {base base' s : Nat} {e : TypeId} {v : Value} {L : List (List Value)} (h : Rws w base e s v L) (hb : base' ≤ base) : Rws w base' e s v L :=
  ⟨h.1, h.2.1, h.2.2.imp id (by rintro ⟨g, cap, cur, e1, h1, h2⟩; exact ⟨g, cap, cur, e1, by omega, h2⟩)⟩
/-- Maps are as they were. -/
def KeptM (w w' : World) : Prop := ∀ (g : Nat) (es : Array MapEntry) (ck : _), w.heap[g]? = some (.map es ck) → w'.heap[g]? = some (.map es ck)
theorem KeptM.of_below {w w' : World} (h : Below w.heap.size w w') : KeptM w w' := fun g _ _ e => (h.block g (heap_lt e)).trans e
theorem KeptM.trans {a b c : World} (h : KeptM a b) (k : KeptM b c) : KeptM a c := fun g es ck e => k g es ck (h g es ck e)
theorem KeptM.off {w : World} {g k : Nat} {cs : Array Value} {t : TypeId} (hg : w.heap[g]? = some (.cells cs t (0, 0))) (u : Value) : KeptM w (w.setCell ⟨g, k, none⟩ u) := fun g' es ck e => by
  rw [heap_setCell_other _ _ _ _ ?_]
  · exact e
  · intro e2
    have e2 : g' = g := e2
    subst e2
    rw [hg] at e
    cases e
theorem Disc.mv {w w' : World} {base g : Nat} {E : List Ent} {A B : Option Addr} {c d gm : Nat} (h : Disc w base g E A B c d gm) (k1 : KeptT 82 w w') (k2 : KeptT 124 w w') (k3 : KeptT 119 w w') (k4 : KeptM w w') : Disc w' base g E A B c d gm := by
  obtain ⟨es, ck, hg⟩ := h.num.block
  exact ⟨k3 g _ h.blk, h.lst.keptT k1, h.org.keptT k2, h.num.at_ ((k4 gm es ck hg).trans hg.symm), h.hm⟩
theorem OwnedL.row {w : World} {base : Nat} {v : Value} {xss : List (List Int)} (h : OwnedL w base v xss) {k : Nat} (hk : v.ownBlock = some k) : ∃ cur, w.heap[k]? = some (.cells cur 26 (0, 0)) := by
  obtain ⟨vs, ho, _⟩ := h
  rcases ho.2 with ⟨e, _⟩ | ⟨g, cap, cur, e, _, hg, _⟩
  · subst e; cases hk
  · subst e
    injection hk with hk
    have hk : g = k := hk
    subst hk
    exact ⟨cur, hg⟩
theorem KeptB.maps {w w' : World} {base : Nat} {v : Value} {xss : List (List Int)} (h : KeptB v.ownBlock w w') (ho : OwnedL w base v xss) : KeptM w w' := fun g es ck e => h g _ e fun e2 => by
  obtain ⟨cur, hg⟩ := ho.row e2
  rw [hg] at e
  cases e
/-- The automaton that is built at block g. -/
def Dres (w : World) (base g i s : Nat) (N : List (List Int)) (A : List Bool) (AN AA : Option Addr) (cN cA : Nat) : Prop :=
  Dblk w g (.int .i64 i) (.int .i64 s) (.slice AN N.length cN) (.slice AA A.length cA) ∧ OwnedL w base (.slice AN N.length cN) N ∧ Rws w base 4 1 (.slice AA A.length cA) (A.map cellsB)
section
variable {w w' : World} {base g i s : Nat} {N : List (List Int)} {A : List Bool} {AN AA : Option Addr} {cN cA : Nat}
theorem Dres.keptT (h : Dres w base g i s N A AN AA cN cA) (k1 : KeptT 25 w w') (k2 : KeptT 3 w w') (k3 : KeptT 26 w w') (k4 : KeptT 4 w w') : Dres w' base g i s N A AN AA cN cA :=
  ⟨h.1.keptT k1, h.2.1.keptT k2 k3, h.2.2.keptT k4⟩
theorem Dres.kept (h : Dres w base g i s N A AN AA cN cA) (hb : Below w.heap.size w w') : Dres w' base g i s N A AN AA cN cA := h.keptT (KeptT.of_below hb) (KeptT.of_below hb) (KeptT.of_below hb) (KeptT.of_below hb)
/-- A row more. -/
theorem Dres.push_row (h : Dres w base g i s N A AN AA cN cA) {B : Option Addr} {m d : Nat} {xs : List Int} (hx : Owned w base (.slice B m d) xs) (hbase : base ≤ w.heap.size) (hg : base ≤ g) (hl : N.length < 1759218604441) :
    ∃ A' c' w1, (Builtin.append_ #[22, 22] 22 #[.slice AN N.length cN, .slice (some ⟨w.heap.size, 0, none⟩) 1 1]).run Try.prog (w.alloc (.cells #[.slice B m d] 26)) = .ok (.slice A' (N.length + 1) c') w1 ∧
      Dblk w1 g (.int .i64 i) (.int .i64 s) (.slice AN N.length cN) (.slice AA A.length cA) ∧ Dres (w1.setCell ⟨g, 2, none⟩ (.slice A' (N.length + 1) c')) base g i s (N ++ [xs]) A A' AA c' cA ∧ Below base w (w1.setCell ⟨g, 2, none⟩ (.slice A' (N.length + 1) c')) ∧
      (∀ t, t ≠ 26 → t ≠ 25 → KeptT t w (w1.setCell ⟨g, 2, none⟩ (.slice A' (N.length + 1) c'))) ∧ KeptM w (w1.setCell ⟨g, 2, none⟩ (.slice A' (N.length + 1) c')) := by
  obtain ⟨h1, h2, h3⟩ := h
  obtain ⟨A', c', w1, r, o, b, k, kb, mv⟩ := run_append_list h2 hx hbase hl
  have hD1 : Dblk w1 g _ _ _ _ := h1.keptT (k _ (by decide))
  refine ⟨A', c', w1, r, hD1, ⟨by rw [List.length_append]; exact hD1.set2 _, ?_, (h3.keptT (k _ (by decide))).keptT (KeptT.off hD1 (by decide) _)⟩, b.setCell (p := ⟨g, 2, none⟩) hg _, fun t n1 n2 => (k t n1).trans (KeptT.off hD1 n2 _), (kb.maps h2).trans (KeptM.off hD1 _)⟩
  rw [List.length_append]
  exact o.keptT (KeptT.off hD1 (by decide) _) (KeptT.off hD1 (by decide) _)
/-- A truth value more. -/
theorem Dres.push_bool (h : Dres w base g i s N A AN AA cN cA) (x : Bool) (hbase : base ≤ w.heap.size) (hg : base ≤ g) (hl : A.length < 1099511627776) :
    ∃ A' c' w1, (Builtin.append_ #[23, 23] 23 #[.slice AA A.length cA, .slice (some ⟨w.heap.size, 0, none⟩) 1 1]).run Try.prog (w.alloc (.cells #[.bool x] 4)) = .ok (.slice A' (A.length + 1) c') w1 ∧
      Dblk w1 g (.int .i64 i) (.int .i64 s) (.slice AN N.length cN) (.slice AA A.length cA) ∧ Dres (w1.setCell ⟨g, 3, none⟩ (.slice A' (A.length + 1) c')) base g i s N (A ++ [x]) AN A' cN c' ∧ Below base w (w1.setCell ⟨g, 3, none⟩ (.slice A' (A.length + 1) c')) ∧
      (∀ t, t ≠ 4 → t ≠ 25 → KeptT t w (w1.setCell ⟨g, 3, none⟩ (.slice A' (A.length + 1) c'))) ∧ KeptM w (w1.setCell ⟨g, 3, none⟩ (.slice A' (A.length + 1) c')) := by
  obtain ⟨h1, h2, h3⟩ := h
  obtain ⟨ti, hi, hz0, hz1, hz2⟩ := info_parts infoB
  have hll : (A.map cellsB).length = A.length := List.length_map _
  have h3' : Rws w base 4 1 (.slice AA A.length cA) (A.map cellsB) := h3
  obtain ⟨A', c', w1, r, o, b, k, km, _⟩ := run_append_rwsM Try.underlying23 hi hz0 hz1 hz2 rfl (by decide) (by decide) h3' (cellsB x) rfl (fun u hu => by simp [cellsB] at hu; subst hu; rfl) hbase (by rw [hll]; exact hl)
  rw [hll] at r o
  have hD1 : Dblk w1 g _ _ _ _ := h1.keptT (k _ (by decide))
  refine ⟨A', c', w1, r, hD1, ⟨by rw [List.length_append]; exact hD1.set3 _, (h2.keptT (k _ (by decide)) (k _ (by decide))).keptT (KeptT.off hD1 (by decide) _) (KeptT.off hD1 (by decide) _), ?_⟩, b.setCell (p := ⟨g, 3, none⟩) hg _, fun t n1 n2 => (k t n1).trans (KeptT.off hD1 n2 _), KeptM.trans km (KeptM.off hD1 _)⟩
  rw [List.length_append, List.map_append]
  exact o.keptT (KeptT.off hD1 (by decide) _)
end
/-- The first x numbers of a row. -/
def rowm (f : Nat → Int) (i x : Nat) : List Int := (List.range i).map fun a => if a < x then f a else 0
theorem rowm_len (f : Nat → Int) (i x : Nat) : (rowm f i x).length = i := by simp [rowm]
theorem rowm_zero (f : Nat → Int) (i : Nat) : rowm f i 0 = List.replicate i 0 := by
  apply List.ext_getElem
  · simp [rowm]
  · intro k h1 h2; simp [rowm]
theorem rowm_set (f : Nat → Int) (i x : Nat) : (rowm f i x).set x (f x) = rowm f i (x + 1) := by
  apply List.ext_getElem
  · simp [rowm]
  · intro k h1 h2
    simp only [rowm, List.getElem_set, List.getElem_map, List.getElem_range]
    by_cases hk : x = k
    · subst hk; simp
    · rw [if_neg hk]
      by_cases hl : k < x
      · rw [if_pos hl, if_pos (by omega)]
      · rw [if_neg hl, if_neg (by omega)]
theorem rowm_all (f : Nat → Int) (i : Nat) : rowm f i i = (List.range i).map f := by
  unfold rowm
  apply List.map_congr_left
  intro a ha
  rw [if_pos (by simpa using ha)]
theorem Owned.blk {w : World} {base g n c : Nat} {xs : List Int} (h : Owned w base (.slice (some ⟨g, 0, none⟩) n c) xs) : ∃ cur, w.heap[g]? = some (.cells cur 3 (0, 0)) := by
  rcases h.2 with ⟨e, _⟩ | ⟨g', cap, cur, e, _, hg, _⟩
  · cases e
  · injection e with e1 _ _
    injection e1 with e1
    injection e1 with e1 _ _
    subst e1
    exact ⟨cur, hg⟩
theorem OwnedX.keptT {w w' : World} {base : Nat} {s v : Value} {xss : List (List Int)} (h : OwnedX w base s v xss) (hk : KeptT 3 w w') (hl : KeptT 26 w w') : OwnedX w' base s v xss := by
  obtain ⟨vs, ho, hr⟩ := h
  refine ⟨vs, ⟨ho.1, ?_⟩, fun j hj => ?_⟩
  · rcases ho.2 with e | ⟨g, cap, cur, hv, hbg, hg, r⟩
    · exact .inl e
    · exact .inr ⟨g, cap, cur, hv, hbg, hl g cur hg, r⟩
  · obtain ⟨A, c, h1, h2, h3⟩ := hr j hj
    exact ⟨A, c, h1, h2.keptT hk, h3⟩
theorem OwnedL.toX {w : World} {base gr : Nat} {v : Value} {xss : List (List Int)} (h : OwnedL w base v xss) (hg : w.heap.size ≤ gr) : OwnedX w base (.slice (some ⟨gr, 0, none⟩) 0 0) v xss := by
  obtain ⟨vs, ho, hr⟩ := h
  refine ⟨vs, ho, fun j hj => ?_⟩
  obtain ⟨A, c, h1, h2⟩ := hr j hj
  refine ⟨A, c, h1, h2, fun k h3 h4 => ?_⟩
  have h5 := (h2.lt k h4).2
  injection h3 with h3
  have h3 : gr = k := h3
  omega
/-- The automaton that is built, its rows apart from the block gr. -/
def DresX (w : World) (base g i s : Nat) (N : List (List Int)) (A : List Bool) (AN AA : Option Addr) (cN cA gr : Nat) : Prop :=
  Dblk w g (.int .i64 i) (.int .i64 s) (.slice AN N.length cN) (.slice AA A.length cA) ∧ OwnedX w base (.slice (some ⟨gr, 0, none⟩) 0 0) (.slice AN N.length cN) N ∧ Rws w base 4 1 (.slice AA A.length cA) (A.map cellsB)
section
variable {w w' : World} {base g i s gr : Nat} {N : List (List Int)} {A : List Bool} {AN AA : Option Addr} {cN cA : Nat}
theorem Dres.toX (h : Dres w base g i s N A AN AA cN cA) (hg : w.heap.size ≤ gr) : DresX w base g i s N A AN AA cN cA gr := ⟨h.1, h.2.1.toX hg, h.2.2⟩
theorem DresX.toD (h : DresX w base g i s N A AN AA cN cA gr) : Dres w base g i s N A AN AA cN cA := ⟨h.1, h.2.1.toL, h.2.2⟩
theorem DresX.keptT (h : DresX w base g i s N A AN AA cN cA gr) (k1 : KeptT 25 w w') (k2 : KeptT 3 w w') (k3 : KeptT 26 w w') (k4 : KeptT 4 w w') : DresX w' base g i s N A AN AA cN cA gr :=
  ⟨h.1.keptT k1, h.2.1.keptT k2 k3, h.2.2.keptT k4⟩
theorem DresX.kept (h : DresX w base g i s N A AN AA cN cA gr) (hb : Below w.heap.size w w') : DresX w' base g i s N A AN AA cN cA gr := h.keptT (KeptT.of_below hb) (KeptT.of_below hb) (KeptT.of_below hb) (KeptT.of_below hb)
theorem DresX.store (h : DresX w base g i s N A AN AA cN cA gr) {cur : Array Value} (hg : w.heap[gr]? = some (.cells cur 3 (0, 0))) (x : Nat) (u : Value) : DresX (w.setCell ⟨gr, x, none⟩ u) base g i s N A AN AA cN cA gr :=
  ⟨h.1.keptT (KeptT.off hg (by decide) u), h.2.1.grow (fun k o e hn => by
    rw [heap_setCell_other _ _ _ _ (show k ≠ gr from fun e2 => hn (by rw [e2]; rfl))]
    exact e) (KeptT.off hg (by decide) u) (.inl rfl), h.2.2.keptT (KeptT.off hg (by decide) u)⟩
end
end Go.Proofs.Ythjnghldedfdoaa
end

section
/- Rows of headers that a call owns, each with what it reads as; append of headers. -/
namespace Go.Proofs.Ythjnghldedfdoaa
open Go.RowKit

/-- A header and the list that it reads as. -/
abbrev HL := Value × List Int
/-- The slice value v is a row of the headers of ps in a block from base on, which the call may write. -/
def HRow (w : World) (base : Nat) (v : Value) (ps : List HL) : Prop := w.ownsRow base 26 1 v ps.length (ps.map Prod.fst) ∧ ∀ p, p ∈ ps → ∃ A n c, p.1 = .slice A n c
/-- The header p reads as its list, in a block below top. -/
def InAt (w : World) (top : Nat) (p : HL) : Prop := ∃ A n c, p.1 = .slice A n c ∧ Ints w A n p.2 ∧ n ≤ c ∧ ∀ a, A = some a → 0 < n → a.block < top
/-- The slice '.slice A n _' holds the headers of ps. -/
def Hds (w : World) (A : Option Addr) (n : Nat) (ps : List HL) : Prop :=
  ps.length = n ∧ n ≤ 17592186044416 ∧ (0 < n → ∃ b off, A = some ⟨b, off, none⟩ ∧ b < w.heap.size ∧ ∀ j p, ps[j]? = some p → w.cell? ⟨b, off + j, none⟩ = some p.1) ∧ ∀ p, p ∈ ps → ∃ A n c, p.1 = .slice A n c

theorem InAt.below {w w' : World} {top : Nat} {p : HL} (h : InAt w top p) (hb : Below w.heap.size w w') : InAt w' top p := by
  obtain ⟨A, n, c, e, hi, hc, ht⟩ := h
  exact ⟨A, n, c, e, hi.below hb, hc, ht⟩
theorem InAt.mono {w : World} {top top' : Nat} {p : HL} (h : InAt w top p) (hb : top ≤ top') : InAt w top' p := by
  obtain ⟨A, n, c, e, hi, hc, ht⟩ := h
  exact ⟨A, n, c, e, hi, hc, fun a ha hn => Nat.lt_of_lt_of_le (ht a ha hn) hb⟩
/-- What lies below top reads as before where what lies there is as before. -/
theorem InAt.on {w w' : World} {top : Nat} {p : HL} (h : InAt w top p) (hb : Below top w w') : InAt w' top p := by
  obtain ⟨A, n, c, e, hi, hnc, ht⟩ := h
  refine ⟨A, n, c, e, ⟨hi.1, hi.2.1, fun hn => ?_⟩, hnc, ht⟩
  obtain ⟨b, off, rfl, hlt, hc⟩ := hi.2.2 hn
  have hbt : b < top := ht _ rfl hn
  refine ⟨b, off, rfl, ?_, fun j hj => (hb.cell (p := ⟨b, off + j, none⟩) hbt).trans (hc j hj)⟩
  have h0 := (hb.cell (p := ⟨b, off + 0, none⟩) hbt).trans (hc 0 hn)
  exact block_lt h0
theorem Hds.below {w w' : World} {A : Option Addr} {n : Nat} {ps : List HL} (h : Hds w A n ps) (hb : Below w.heap.size w w') : Hds w' A n ps :=
  ⟨h.1, h.2.1, fun hn => by
    obtain ⟨b, off, e, hlt, hc⟩ := h.2.2.1 hn
    exact ⟨b, off, e, Nat.lt_of_lt_of_le hlt hb.size, fun j p hp => (hb.cell hlt).trans (hc j p hp)⟩, h.2.2.2⟩
theorem Hds.at_ {w : World} {A : Option Addr} {n : Nat} {ps : List HL} (h : Hds w A n ps) {k : Nat} (hk : k < n) :
    ∃ b off B m d xs, A = some ⟨b, off, none⟩ ∧ b < w.heap.size ∧ ps[k]? = some (.slice B m d, xs) ∧ w.cell? ⟨b, off + k, none⟩ = some (.slice B m d) := by
  obtain ⟨b, off, e, hlt, hc⟩ := h.2.2.1 (by omega)
  have hl := h.1
  have hp : ps[k]? = some ps[k] := List.getElem?_eq_getElem (by omega)
  obtain ⟨B, m, d, e2⟩ := h.2.2.2 ps[k] (List.getElem_mem _)
  refine ⟨b, off, B, m, d, ps[k].2, e, hlt, ?_, ?_⟩
  · rw [hp, ← e2]
  · rw [hc k _ hp, e2]
/-- The slice '.slice A n _' holds the lists xss, none longer than its capacity. -/
def ListsC (w : World) (A : Option Addr) (n : Nat) (xss : List (List Int)) : Prop :=
  xss.length = n ∧ n ≤ 17592186044416 ∧ (0 < n → ∃ b off, A = some ⟨b, off, none⟩ ∧ b < w.heap.size ∧
    ∀ j, j < n → ∃ Aj nj cj, w.cell? ⟨b, off + j, none⟩ = some (.slice Aj nj cj) ∧ nj ≤ cj ∧ Ints w Aj nj (xss.getD j []))
theorem ListsC.lists {w : World} {A : Option Addr} {n : Nat} {xss : List (List Int)} (h : ListsC w A n xss) : Lists w A n xss :=
  ⟨h.1, h.2.1, fun hn => by
    obtain ⟨b, off, e, hlt, hc⟩ := h.2.2 hn
    refine ⟨b, off, e, hlt, fun j hj => ?_⟩
    obtain ⟨Aj, nj, cj, h1, _, h2⟩ := hc j hj
    exact ⟨Aj, nj, cj, h1, h2⟩⟩
theorem ListsC.below {w w' : World} {A : Option Addr} {n : Nat} {xss : List (List Int)} (h : ListsC w A n xss) (hb : Below w.heap.size w w') : ListsC w' A n xss :=
  ⟨h.1, h.2.1, fun hn => by
    obtain ⟨b, off, e, hlt, hc⟩ := h.2.2 hn
    refine ⟨b, off, e, Nat.lt_of_lt_of_le hlt hb.size, fun j hj => ?_⟩
    obtain ⟨Aj, nj, cj, h1, h0, h2⟩ := hc j hj
    exact ⟨Aj, nj, cj, (hb.cell hlt).trans h1, h0, h2.below hb⟩⟩
theorem ListsC.at_ {w : World} {A : Option Addr} {n : Nat} {xss : List (List Int)} (h : ListsC w A n xss) {k : Nat} (hk : k < n) :
    ∃ b off Aj nj cj, A = some ⟨b, off, none⟩ ∧ b < w.heap.size ∧ w.cell? ⟨b, off + k, none⟩ = some (.slice Aj nj cj) ∧ nj ≤ cj ∧ Ints w Aj nj (xss.getD k []) := by
  obtain ⟨b, off, e, hlt, hc⟩ := h.2.2 (by omega)
  obtain ⟨Aj, nj, cj, h1, h0, h2⟩ := hc k hk
  exact ⟨b, off, Aj, nj, cj, e, hlt, h1, h0, h2⟩
theorem ListsC.len {w : World} {A : Option Addr} {n : Nat} {xss : List (List Int)} (h : ListsC w A n xss) : ∀ x, x ∈ xss → x.length ≤ 17592186044416 := fun x hx => by
  obtain ⟨j, hj, rfl⟩ := List.getElem_of_mem hx
  obtain ⟨_, _, Aj, nj, cj, _, _, _, _, hi⟩ := h.at_ (k := j) (by rw [← h.1]; exact hj)
  have e : xss.getD j [] = xss[j] := by rw [List.getD_eq_getElem?_getD, List.getElem?_eq_getElem hj]; rfl
  rw [e] at hi
  rw [hi.1]; exact hi.2.1
/-- The headers of a list of lists. -/
theorem ListsC.hds {w : World} {A : Option Addr} {n : Nat} {xss : List (List Int)} (h : ListsC w A n xss) : ∃ ps : List HL, ps.map Prod.snd = xss ∧ Hds w A n ps ∧ ∀ p, p ∈ ps → InAt w w.heap.size p := by
  rcases Nat.eq_zero_or_pos n with h0 | h0
  · have hx : xss = [] := List.eq_nil_of_length_eq_zero (by rw [h.1, h0])
    subst hx
    exact ⟨[], rfl, ⟨by simp [h0], h.2.1, fun hn => absurd hn (by omega), fun p hp => absurd hp (by simp)⟩, fun p hp => absurd hp (by simp)⟩
  · obtain ⟨b, off, e, hlt, hc⟩ := h.2.2 h0
    have hex : ∀ j, ∃ p : HL, j < n → p.2 = xss.getD j [] ∧ w.cell? ⟨b, off + j, none⟩ = some p.1 ∧ InAt w w.heap.size p := fun j => by
      by_cases hj : j < n
      · obtain ⟨Aj, nj, cj, h1, h0, h2⟩ := hc j hj
        refine ⟨(.slice Aj nj cj, xss.getD j []), fun _ => ⟨rfl, h1, Aj, nj, cj, rfl, h2, h0, fun a ha hn => ?_⟩⟩
        obtain ⟨b', o', e', hlt', _⟩ := h2.2.2 hn
        rw [ha] at e'
        cases e'
        exact hlt'
      · exact ⟨default, fun h => absurd h hj⟩
    have hex2 := hex
    obtain ⟨f, hf⟩ : ∃ f : Nat → HL, ∀ j, j < n → (f j).2 = xss.getD j [] ∧ w.cell? ⟨b, off + j, none⟩ = some (f j).1 ∧ InAt w w.heap.size (f j) :=
      ⟨fun j => Classical.choose (hex2 j), fun j => Classical.choose_spec (hex2 j)⟩
    have hget : ∀ j p, ((List.range n).map f)[j]? = some p → j < n ∧ p = f j := fun j p hp => by
      rw [List.getElem?_map] at hp
      cases hr : (List.range n)[j]? with
      | none => rw [hr] at hp; simp at hp
      | some q =>
        rw [hr] at hp
        have hq := List.getElem?_eq_some_iff.1 hr
        obtain ⟨hq1, hq2⟩ := hq
        simp at hq1 hq2
        subst hq2
        simp at hp
        exact ⟨hq1, hp.symm⟩
    have hmem : ∀ p, p ∈ (List.range n).map f → ∃ j, j < n ∧ p = f j := fun p hp => by
      obtain ⟨j, hj, rfl⟩ := List.mem_map.1 hp
      exact ⟨j, List.mem_range.1 hj, rfl⟩
    refine ⟨(List.range n).map f, ?_, ⟨by simp, h.2.1, fun _ => ⟨b, off, e, hlt, fun j p hp => ?_⟩, fun p hp => ?_⟩, fun p hp => ?_⟩
    · apply List.ext_getElem
      · simp [h.1]
      · intro j h1 h2
        simp at h1
        have := (hf j h1).1
        simp [this, List.getD, List.getElem?_eq_getElem h2]
    · obtain ⟨hj, rfl⟩ := hget j p hp
      exact (hf j hj).2.1
    · obtain ⟨j, hj, rfl⟩ := hmem p hp
      obtain ⟨A, n, c, e, _⟩ := (hf j hj).2.2
      exact ⟨A, n, c, e⟩
    · obtain ⟨j, hj, rfl⟩ := hmem p hp
      exact (hf j hj).2.2

theorem HRow.nil (w : World) (base : Nat) : HRow w base (.slice none 0 0) [] := ⟨World.ownsRow_nil _ _ _ _, fun p hp => absurd hp (by simp)⟩
theorem HRow.form {w : World} {base : Nat} {v : Value} {ps : List HL} (h : HRow w base v ps) : ∃ A c, v = .slice A ps.length c := by
  rcases h.1.2 with ⟨rfl, h0⟩ | ⟨g, cap, cur, rfl, _⟩
  · exact ⟨none, 0, by rw [h0]⟩
  · exact ⟨_, _, rfl⟩
theorem HRow.lt {w : World} {base : Nat} {v : Value} {ps : List HL} (h : HRow w base v ps) : ∀ k, v.ownBlock = some k → base ≤ k ∧ k < w.heap.size := World.ownsRow.lt h.1
theorem HRow.kept {w w' : World} {base : Nat} {v : Value} {ps : List HL} (h : HRow w base v ps) (hb : Below w.heap.size w w') : HRow w' base v ps := by
  refine ⟨⟨h.1.1, ?_⟩, h.2⟩
  rcases h.1.2 with e | ⟨g, cap, cur, hv, hbg, hg, r⟩
  · exact .inl e
  · exact .inr ⟨g, cap, cur, hv, hbg, (hb.block g (heap_lt hg)).trans hg, r⟩
theorem HRow.lower {w : World} {base base' : Nat} {v : Value} {ps : List HL} (h : HRow w base v ps) (hb : base' ≤ base) : HRow w base' v ps := by
  refine ⟨⟨h.1.1, ?_⟩, h.2⟩
  rcases h.1.2 with e | ⟨g, cap, cur, hv, hbg, r⟩
  · exact .inl e
  · exact .inr ⟨g, cap, cur, hv, by omega, r⟩
theorem HRow.hds {w : World} {base : Nat} {A : Option Addr} {n c : Nat} {ps : List HL} (h : HRow w base (.slice A n c) ps) (hm : ps.length ≤ 17592186044416) : Hds w A n ps := by
  have hn : n = ps.length := by obtain ⟨A', c', e⟩ := h.form; cases e; rfl
  subst hn
  refine ⟨rfl, hm, fun h0 => ?_, h.2⟩
  rcases h.1.2 with ⟨e, h1⟩ | ⟨g, cap, cur, e, _, hg, _⟩
  · omega
  · cases e
    refine ⟨g, 0, rfl, heap_lt hg, fun j p hp => ?_⟩
    have hj : j < ps.length := (List.getElem?_eq_some_iff.1 hp).1
    have h3 := World.ownsRow.cellAt h.1 j (by omega)
    rw [Nat.zero_add, h3, List.getElem?_map, hp]; rfl
/-- A row of headers whose rows read as lists is a list of lists. -/
theorem Hds.lists {w : World} {top : Nat} {A : Option Addr} {n : Nat} {ps : List HL} (h : Hds w A n ps) (hi : ∀ p, p ∈ ps → InAt w top p) : ListsC w A n (ps.map Prod.snd) := by
  refine ⟨by rw [List.length_map]; exact h.1, h.2.1, fun h0 => ?_⟩
  obtain ⟨b, off, e, hlt, hc⟩ := h.2.2.1 h0
  refine ⟨b, off, e, hlt, fun j hj => ?_⟩
  have hl := h.1
  have hp : ps[j]? = some ps[j] := List.getElem?_eq_getElem (by omega)
  obtain ⟨B, m, d, e2, h2, h0, _⟩ := hi ps[j] (List.getElem_mem _)
  refine ⟨B, m, d, by rw [hc j _ hp, e2], h0, ?_⟩
  have : (ps.map Prod.snd).getD j [] = ps[j].2 := by rw [List.getD_eq_getElem?_getD, List.getElem?_map, hp]; rfl
  rw [this]; exact h2
theorem Hds.in_at {w : World} {A : Option Addr} {n : Nat} {ps : List HL} (h : Hds w A n ps) {top : Nat} (hi : ∀ p, p ∈ ps → InAt w top p) {k : Nat} (hk : k < n) :
    ∃ b off B m d, A = some ⟨b, off, none⟩ ∧ b < w.heap.size ∧ ps[k]? = some (.slice B m d, (ps.map Prod.snd).getD k []) ∧ w.cell? ⟨b, off + k, none⟩ = some (.slice B m d) ∧ m ≤ d ∧ Ints w B m ((ps.map Prod.snd).getD k []) ∧ InAt w top (.slice B m d, (ps.map Prod.snd).getD k []) := by
  obtain ⟨b, off, B, m, d, xs, e, hlt, hp, hc⟩ := h.at_ hk
  have hx : (ps.map Prod.snd).getD k [] = xs := by rw [List.getD_eq_getElem?_getD, List.getElem?_map, hp]; rfl
  rw [hx]
  have hin := hi _ (List.mem_of_getElem? hp)
  have h3 := hin
  obtain ⟨B', m', d', e2, h2, h0, _⟩ := h3
  cases e2
  exact ⟨b, off, B, m, d, e, hlt, hp, hc, h0, h2, hin⟩

/-- append(v, ys...) of headers onto a row of headers. -/
theorem run_append_heads {w : World} {base : Nat} {v : Value} {ps qs : List HL} {A : Option Addr} {m c : Nat} (h : HRow w base v ps) (hy : Hds w A m qs) (hbase : base ≤ w.heap.size) (hlen : (ps ++ qs).length ≤ 1759218604441) :
    ∃ v' w', (Builtin.append_ #[22, 22] 22 #[v, .slice A m c]).run Try.prog w = .ok v' w' ∧ HRow w' base v' (ps ++ qs) ∧ w.grownBy w' v.ownBlock ∧ Below base w w' := by
  obtain ⟨i, hi, hz0, hz1, hz2⟩ := info_parts infol
  have hsplit : ∀ k, v.ownBlock = some k → base ≤ k := fun k hk => (h.lt k hk).1
  have hforms : ∀ p, p ∈ ps ++ qs → ∃ A n c, p.1 = .slice A n c := fun p hp => by
    rcases List.mem_append.1 hp with hp | hp
    · exact h.2 p hp
    · exact hy.2.2.2 p hp
  rcases Nat.eq_zero_or_pos m with h0 | h0
  · have hys : qs = [] := List.eq_nil_of_length_eq_zero (by rw [hy.1, h0])
    subst h0 hys
    cases A with
    | none =>
      refine ⟨v, w, ?_, by simpa using h, World.grownBy.refl w _, Below.refl _ _⟩
      rcases h.1.2 with ⟨rfl, _⟩ | ⟨g, cap, cur, rfl, _, _, hnc, _⟩
      · simp [Builtin.append_, run_underlying Try.underlying22, sizeOf, typeInfo, hi, Builtin.lenOf, Builtin.firstCells]
      · simp [Builtin.append_, run_underlying Try.underlying22, sizeOf, typeInfo, hi, Builtin.lenOf, Builtin.firstCells, hnc, storeCells]
    | some a =>
      obtain ⟨v', w', hr, h1, h2, _⟩ := run_append_own (P := Try.prog) w base 22 22 26 i (.slice none 0 0) 1 24 Try.underlying22 hi hz0 hz1 hz2 rfl (by decide) v _ _ h.1 a 0 c [] (by simp) (by simp) (by simp)
        (by simp at hlen; unfold maxLen; omega) (by simp at hlen; omega) hbase
      exact ⟨v', w', hr, ⟨by simpa using h1, hforms⟩, h2, (Below.refl _ _).grown h2 hbase hsplit⟩
  · obtain ⟨b, off, rfl, hb, hc⟩ := hy.2.2.1 h0
    have hql := hy.1
    obtain ⟨v', w', hr, h1, h2, _⟩ := run_append_own (P := Try.prog) w base 22 22 26 i (.slice none 0 0) 1 24 Try.underlying22 hi hz0 hz1 hz2 rfl (by decide) v _ _ h.1 ⟨b, off, none⟩ m c (qs.map Prod.fst)
      (by simp [hql])
      (by
        intro j u hu
        rw [List.getElem?_map] at hu
        cases hq : qs[j]? with
        | none => rw [hq] at hu; simp at hu
        | some p =>
          rw [hq] at hu
          simp at hu
          subst hu
          rw [show (⟨b, off, none⟩ : Addr).add j = ⟨b, off + j, none⟩ by unfold Addr.add; split <;> simp_all]
          exact hc j p hq)
      (by
        intro u hu
        obtain ⟨p, hp, rfl⟩ := List.mem_map.1 hu
        obtain ⟨A, n, c, e⟩ := hy.2.2.2 p hp
        rw [e]; rfl)
      (by rw [List.length_append] at hlen; rw [← hql]; unfold maxLen; omega) (by rw [List.length_append] at hlen; rw [← hql]; omega) hbase
    refine ⟨v', w', hr, ⟨?_, hforms⟩, h2, (Below.refl _ _).grown h2 hbase hsplit⟩
    rw [List.length_append, List.map_append, hql]
    exact h1

/-- append(v, x) of one header. -/
theorem run_append_head {w : World} {base : Nat} {v : Value} {ps : List HL} {B : Option Addr} {m d : Nat} (h : HRow w base v ps) (xs : List Int) (hbase : base ≤ w.heap.size) (hl : ps.length < 1759218604441) :
    ∃ A c w', (Builtin.append_ #[22, 22] 22 #[v, .slice (some ⟨w.heap.size, 0, none⟩) 1 1]).run Try.prog (w.alloc (.cells #[.slice B m d] 26)) = .ok (.slice A (ps.length + 1) c) w' ∧
      HRow w' base (.slice A (ps.length + 1) c) (ps ++ [(.slice B m d, xs)]) ∧ w.grownBy w' v.ownBlock ∧ Below base w w' := by
  have hbz := alloc_below w (.cells #[.slice B m d] 26)
  have hd : Hds (w.alloc (.cells #[.slice B m d] 26)) (some ⟨w.heap.size, 0, none⟩) 1 [(.slice B m d, xs)] := by
    refine ⟨rfl, by omega, fun _ => ⟨w.heap.size, 0, rfl, by simp, fun j p hp => ?_⟩, fun p hp => ?_⟩
    · cases j with
      | zero =>
        simp at hp
        subst hp
        have := cell_of_row (w.alloc (.cells #[.slice B m d] 26)) w.heap.size 0 #[.slice B m d] 26 (0, 0) (heap_alloc_new w _)
        rw [Nat.zero_add, this]; rfl
      | succ j => simp at hp
    · simp at hp; subst hp; exact ⟨B, m, d, rfl⟩
  obtain ⟨v', w', hr, h1, h2, h3⟩ := run_append_heads (c := 1) (h.kept hbz) hd (Nat.le_trans hbase hbz.size) (by simp; omega)
  obtain ⟨A, c, e⟩ := h1.form
  rw [List.length_append] at e
  subst e
  refine ⟨A, c, w', hr, h1, ?_, (hbz.mono hbase).trans h3⟩
  exact ⟨h2.os, h2.tape, h2.output, Nat.le_trans hbz.size h2.size, fun k hk hne => (h2.block k (Nat.lt_of_lt_of_le hk hbz.size) hne).trans (hbz.block k hk)⟩
end Go.Proofs.Ythjnghldedfdoaa
end

section
/- Lists of words that literals make. -/
namespace Go.Proofs.Ythjnghldedfdoaa
open Go.RowKit

/-- The words' cells, one block each. -/
def litA (W : World) : List (List Int) → World
  | [] => W
  | x :: r => litA (W.alloc (.cells (lit x) 3)) r
/-- Their headers, from block b on. -/
def litH (b : Nat) : List (List Int) → List Value
  | [] => []
  | x :: r => .slice (some ⟨b, 0, none⟩) x.length x.length :: litH (b + 1) r
/-- The world with the list's own cells. -/
def litL (W : World) (b : Nat) (xss : List (List Int)) : World := (litA W xss).alloc (.cells (litH b xss).toArray 26)
theorem litA_below (W : World) (xss : List (List Int)) : Below W.heap.size W (litA W xss) := by
  induction xss generalizing W with
  | nil => exact Below.refl _ _
  | cons x r ih => exact (alloc_below W _).trans ((ih _).mono (by simp))
theorem litA_size (W : World) (xss : List (List Int)) : (litA W xss).heap.size = W.heap.size + xss.length := by
  induction xss generalizing W with
  | nil => rfl
  | cons x r ih =>
    show (litA (W.alloc (.cells (lit x) 3)) r).heap.size = _
    rw [ih]; simp; omega
theorem litH_len (b : Nat) (xss : List (List Int)) : (litH b xss).length = xss.length := by
  induction xss generalizing b with
  | nil => rfl
  | cons x r ih => simp [litH, ih]
theorem litH_get (b : Nat) (xss : List (List Int)) (j : Nat) (hj : j < xss.length) : (litH b xss)[j]? = some (.slice (some ⟨b + j, 0, none⟩) (xss.getD j []).length (xss.getD j []).length) := by
  induction xss generalizing b j with
  | nil => simp at hj
  | cons x r ih =>
    cases j with
    | zero => simp [litH]
    | succ j =>
      have := ih (b + 1) j (by simpa using hj)
      simp only [litH, List.getElem?_cons_succ, this]
      rw [show b + 1 + j = b + (j + 1) by omega]
      simp
theorem litA_ints (W : World) (xss : List (List Int)) (j : Nat) (hj : j < xss.length) (hl : ∀ x, x ∈ xss → x.length ≤ 1000) : Ints (litA W xss) (some ⟨W.heap.size + j, 0, none⟩) (xss.getD j []).length (xss.getD j []) := by
  induction xss generalizing W j with
  | nil => simp at hj
  | cons x r ih =>
    cases j with
    | zero =>
      have h := Ints.new W x (lit x) x.length rfl rfl (by have := hl x List.mem_cons_self; omega)
      have hb := litA_below (W.alloc (.cells (lit x) 3)) r
      exact h.below hb
    | succ j =>
      have := ih (W.alloc (.cells (lit x) 3)) j (by simpa using hj) (fun y hy => hl y (List.mem_cons_of_mem _ hy))
      have e : (W.alloc (.cells (lit x) 3)).heap.size + j = W.heap.size + (j + 1) := by simp; omega
      rw [e] at this
      show Ints (litA (W.alloc (.cells (lit x) 3)) r) _ ((x :: r).getD (j + 1) []).length ((x :: r).getD (j + 1) [])
      simpa using this
theorem litL_below (W : World) (b : Nat) (xss : List (List Int)) : Below W.heap.size W (litL W b xss) := (litA_below W xss).trans ((alloc_below _ _).mono (litA_below W xss).size)
theorem litL_size (W : World) (b : Nat) (xss : List (List Int)) : (litL W b xss).heap.size = W.heap.size + xss.length + 1 := by
  show ((litA W xss).alloc _).heap.size = _
  simp [litA_size]
theorem litL_lists (W : World) (b : Nat) (xss : List (List Int)) (n : Nat) (hb : W.heap.size = b) (hn : n = xss.length) (hl : ∀ x, x ∈ xss → x.length ≤ 1000) (hm : xss.length ≤ 1000) : ListsC (litL W b xss) (some ⟨b + n, 0, none⟩) n xss := by
  subst hn hb
  have hb := alloc_below (litA W xss) (.cells (litH W.heap.size xss).toArray 26)
  refine ⟨rfl, by omega, fun _ => ⟨W.heap.size + xss.length, 0, rfl, ?_, fun j hj => ?_⟩⟩
  · show W.heap.size + xss.length < ((litA W xss).alloc _).heap.size
    simp [litA_size]
  · refine ⟨_, _, _, ?_, Nat.le_refl _, (litA_ints W xss j hj hl).below hb⟩
    have := cell_of_row (litL W W.heap.size xss) (W.heap.size + xss.length) j (litH W.heap.size xss).toArray 26 (0, 0) (by
      have := heap_alloc_new (litA W xss) (.cells (litH W.heap.size xss).toArray 26)
      rw [litA_size] at this
      exact this)
    rw [Nat.zero_add, this]
    simpa using litH_get W.heap.size xss j hj
end Go.Proofs.Ythjnghldedfdoaa
end

section
/- The automaton of the examples. -/
namespace Go.Proofs.Ythjnghldedfdoaa
open Go.RowKit

def evN : List (List Int) := [[0, 1], [1, 0]]
def evA : List Bool := [true, false]
theorem Bools.new (w : World) (bs : List Bool) (cs : Array Value) (m : Nat) (h1 : cs = (bs.map Value.bool).toArray) (h2 : m = bs.length) (hl : bs.length ≤ 17592186044416) : Bools (w.alloc (.cells cs 4)) (some ⟨w.heap.size, 0, none⟩) m bs := by
  subst h1 h2
  refine ⟨rfl, hl, fun _ => ⟨w.heap.size, 0, rfl, by simp, fun j hj => ?_⟩⟩
  have h := cell_of_row _ w.heap.size j _ _ (0, 0) (heap_alloc_new w (.cells (bs.map Value.bool).toArray 4))
  rw [Nat.zero_add, h]
  simp [List.getD, List.getElem?_eq_getElem hj]
/-- An automaton's lists as literals make them. -/
theorem aut_lit (R : World) (b : Nat) (xss : List (List Int)) (bs : List Bool) (n : Nat) (hb : R.heap.size = b) (hn : n = xss.length) (hm : n = bs.length) (hl : ∀ x, x ∈ xss → x.length ≤ 1000) (hl2 : xss.length ≤ 1000) :
    Lists ((litL R b xss).alloc (.cells (bs.map Value.bool).toArray 4)) (some ⟨b + n, 0, none⟩) n xss ∧ Bools ((litL R b xss).alloc (.cells (bs.map Value.bool).toArray 4)) (some ⟨b + n + 1, 0, none⟩) n bs ∧
    Below R.heap.size R ((litL R b xss).alloc (.cells (bs.map Value.bool).toArray 4)) := by
  have h1 := litL_below R b xss
  have h2 := alloc_below (litL R b xss) (.cells (bs.map Value.bool).toArray 4)
  refine ⟨((litL_lists R b xss n hb hn hl hl2).lists).below h2, ?_, bt h1 h2⟩
  have h3 := Bools.new (litL R b xss) bs (bs.map Value.bool).toArray n rfl hm (by omega)
  rw [litL_size, hb, ← hn] at h3
  exact h3
set_option maxHeartbeats 2000000 in
set_option maxRecDepth 100000 in
theorem deven (w : World) :
    Calls Try.prog 39 #[] w fun e w' => ∃ A c B d, e = .returned (.agg #[.int .i64 2, .int .i64 0, .slice A 2 c, .slice B 2 d]) ∧ Lists w' A 2 evN ∧ Bools w' B 2 evA ∧ Below w.heap.size w w' := by
  obtain ⟨R, hR⟩ : ∃ R, R = w.alloc (.cells #[.int .i64 2, .int .i64 0, .slice (some ⟨w.heap.size + 1 + 1 + 1, 0, none⟩) 2 2, .slice (some ⟨w.heap.size + 1 + 1 + 1 + 1, 0, none⟩) 2 2] 25) := ⟨_, rfl⟩
  have zR : R.heap.size = w.heap.size + 1 := by rw [hR]; simp
  have dR : Dblk R w.heap.size (.int .i64 2) (.int .i64 0) (.slice (some ⟨w.heap.size + 1 + 1 + 1, 0, none⟩) 2 2) (.slice (some ⟨w.heap.size + 1 + 1 + 1 + 1, 0, none⟩) 2 2) := by rw [hR]; exact dfa_box _ _ _ _ _
  obtain ⟨l1, l2, l3⟩ := aut_lit R (w.heap.size + 1) evN evA 2 zR rfl rfl (by decide) (by decide)
  have b0 : Below w.heap.size w R := by rw [hR]; exact alloc_below _ _
  have d2 := dR.kept l3 (by omega)
  have b3 := bt b0 l3
  have HR := Lib.hid hR
  have L := Lib.hid (And.intro l1 (And.intro l2 (And.intro d2 b3)))
  clear hR zR dR l1 l2 l3 b0 d2 b3
  go_enter Try.func39, Try.ntmps39
  go_wp2_with fail
  rw [← HR.out]
  refine bodyPost_ret (results_dfa1 rfl _ _ w.heap.size _ _ _ _ rfl L.out.2.2.1) rfl ?_
  exact ⟨_, _, _, _, rfl, L.out.1, L.out.2.1, L.out.2.2.2⟩
end Go.Proofs.Ythjnghldedfdoaa
end

section
/- Numbering by first occurrence; the classes of states that words of k symbols do not separate. -/
namespace Go.Proofs.Ythjnghldedfdoaa

section
variable {κ : Type} [BEq κ] [LawfulBEq κ]
/-- What is new is added at the end. -/
def addK (l : List κ) (x : κ) : List κ := if x ∈ l then l else l ++ [x]
/-- The different keys among the first n. -/
def grp (f : Nat → κ) : Nat → List κ
  | 0 => []
  | k + 1 => addK (grp f k) (f k)
theorem addK_pre (l : List κ) (x : κ) : ∃ t, addK l x = l ++ t := by
  unfold addK; split
  · exact ⟨[], by simp⟩
  · exact ⟨[x], rfl⟩
theorem addK_in {l : List κ} {x : κ} (h : x ∈ l) : addK l x = l := by unfold addK; rw [if_pos h]
theorem addK_out {l : List κ} {x : κ} (h : ¬ x ∈ l) : addK l x = l ++ [x] := by unfold addK; rw [if_neg h]
theorem mem_addK (l : List κ) (x : κ) : x ∈ addK l x := by
  unfold addK; split
  · assumption
  · simp
theorem grp_pre (f : Nat → κ) (m : Nat) : ∀ d, ∃ t, grp f (m + d) = grp f m ++ t
  | 0 => ⟨[], by simp⟩
  | d + 1 => by
    obtain ⟨t, ht⟩ := grp_pre f m d
    obtain ⟨u, hu⟩ := addK_pre (grp f (m + d)) (f (m + d))
    exact ⟨t ++ u, by show addK (grp f (m + d)) (f (m + d)) = _; rw [hu, ht, List.append_assoc]⟩
theorem grp_has (f : Nat → κ) {n s : Nat} (h : s < n) : f s ∈ grp f n := by
  obtain ⟨t, ht⟩ := grp_pre f (s + 1) (n - (s + 1))
  rw [show s + 1 + (n - (s + 1)) = n by omega] at ht
  rw [ht]
  exact List.mem_append_left _ (mem_addK _ _)
theorem grp_mem (f : Nat → κ) : ∀ {n : Nat} {x : κ}, x ∈ grp f n → ∃ s, s < n ∧ f s = x
  | 0, x, h => by simp [grp] at h
  | n + 1, x, h => by
    by_cases e : f n ∈ grp f n
    · rw [show grp f (n + 1) = grp f n from addK_in e] at h
      obtain ⟨s, hs, e2⟩ := grp_mem f h
      exact ⟨s, by omega, e2⟩
    · rw [show grp f (n + 1) = grp f n ++ [f n] from addK_out e] at h
      rcases List.mem_append.1 h with h | h
      · obtain ⟨s, hs, e2⟩ := grp_mem f h
        exact ⟨s, by omega, e2⟩
      · simp at h
        exact ⟨n, by omega, h.symm⟩
theorem grp_nodup (f : Nat → κ) : ∀ n, (grp f n).Nodup
  | 0 => by simp [grp]
  | n + 1 => by
    by_cases e : f n ∈ grp f n
    · rw [show grp f (n + 1) = grp f n from addK_in e]; exact grp_nodup f n
    · rw [show grp f (n + 1) = grp f n ++ [f n] from addK_out e]
      refine List.nodup_append.2 ⟨grp_nodup f n, by simp, fun a ha b hb => ?_⟩
      simp at hb; subst hb; intro e2; subst e2; exact e ha
theorem grp_len (f : Nat → κ) : ∀ n, (grp f n).length ≤ n
  | 0 => Nat.le_refl _
  | n + 1 => by
    have := grp_len f n
    obtain ⟨t, ht⟩ := addK_pre (grp f n) (f n)
    show (addK _ _).length ≤ _
    unfold addK
    split
    · omega
    · rw [List.length_append]; simp; omega
theorem idxOf_pre {l t : List κ} {x : κ} (h : x ∈ l) : (l ++ t).idxOf x = l.idxOf x := by rw [List.idxOf_append, if_pos h]
theorem idxOf_new {l : List κ} {x : κ} (h : ¬ x ∈ l) : (l ++ [x]).idxOf x = l.length := by
  rw [List.idxOf_append, if_neg h]; simp
theorem getD_idxOf {l : List κ} {x d : κ} (h : x ∈ l) : l.getD (l.idxOf x) d = x := by
  have := List.idxOf_lt_length_of_mem h
  rw [List.getD_eq_getElem?_getD, List.getElem?_eq_getElem this]
  exact List.getElem_idxOf this
theorem idxOf_inj2 {l : List κ} {x y : κ} (hx : x ∈ l) (hy : y ∈ l) (h : l.idxOf x = l.idxOf y) : x = y := by
  have h1 := getD_idxOf (d := x) hx
  have h2 := getD_idxOf (d := x) hy
  rw [h] at h1
  exact h1.symm.trans h2

/-- The number of s: that of its key among the different keys. -/
def nmb (f : Nat → κ) (s : Nat) : Nat := (grp f (s + 1)).idxOf (f s)
def num (f : Nat → κ) (n : Nat) : List Nat := (List.range n).map (nmb f)
theorem num_len (f : Nat → κ) (n : Nat) : (num f n).length = n := by simp [num]
theorem num_at (f : Nat → κ) {n s : Nat} (h : s < n) : (num f n).getD s 0 = nmb f s := by unfold num; simp [List.getD, h]
theorem nmb_in (f : Nat → κ) {n s : Nat} (h : s < n) : nmb f s = (grp f n).idxOf (f s) := by
  obtain ⟨t, ht⟩ := grp_pre f (s + 1) (n - (s + 1))
  rw [show s + 1 + (n - (s + 1)) = n by omega] at ht
  unfold nmb
  rw [ht, idxOf_pre (grp_has f (Nat.lt_succ_self s))]
theorem nmb_eq (f : Nat → κ) {s t : Nat} : nmb f s = nmb f t ↔ f s = f t := by
  have hs : s < s + t + 1 := by omega
  have ht : t < s + t + 1 := by omega
  rw [nmb_in f hs, nmb_in f ht]
  exact ⟨fun h => idxOf_inj2 (grp_has f hs) (grp_has f ht) h, fun h => by rw [h]⟩
theorem nmb_old (f : Nat → κ) {s : Nat} (h : f s ∈ grp f s) : nmb f s = (grp f s).idxOf (f s) := by
  unfold nmb; rw [show grp f (s + 1) = grp f s from addK_in h]
theorem nmb_new (f : Nat → κ) {s : Nat} (h : ¬ f s ∈ grp f s) : nmb f s = (grp f s).length := by
  unfold nmb; rw [show grp f (s + 1) = grp f s ++ [f s] from addK_out h, idxOf_new h]
theorem nmb_lt (f : Nat → κ) {n s : Nat} (h : s < n) : nmb f s < (grp f n).length := by
  rw [nmb_in f h]; exact List.idxOf_lt_length_of_mem (grp_has f h)
theorem nmb_le (f : Nat → κ) (s : Nat) : nmb f s ≤ s := by
  have h1 := nmb_lt f (show s < s + 1 by omega)
  have h2 := grp_len f (s + 1)
  omega
end

theorem num_congr {κ μ : Type} [BEq κ] [LawfulBEq κ] [BEq μ] [LawfulBEq μ] {f : Nat → κ} {g : Nat → μ} {n : Nat} (h : ∀ s t, s < n → t < n → (f s = f t ↔ g s = g t)) : num f n = num g n := by
  have key : ∀ m, m ≤ n → (grp f m).length = (grp g m).length ∧ ∀ s, s < m → nmb f s = nmb g s := by
    intro m
    induction m with
    | zero => intro _; exact ⟨rfl, fun s hs => absurd hs (by omega)⟩
    | succ m ih =>
      intro hm
      obtain ⟨h1, h2⟩ := ih (by omega)
      by_cases e : f m ∈ grp f m
      · obtain ⟨s, hs, e2⟩ := grp_mem f e
        have e3 : g s = g m := (h s m (by omega) (by omega)).1 e2
        have e4 : g m ∈ grp g m := e3 ▸ grp_has g hs
        refine ⟨?_, fun t ht => ?_⟩
        · rw [show grp f (m + 1) = grp f m from addK_in e, show grp g (m + 1) = grp g m from addK_in e4, h1]
        · by_cases et : t = m
          · subst et
            rw [← (nmb_eq f).2 e2, ← (nmb_eq g).2 e3]; exact h2 s hs
          · exact h2 t (by omega)
      · have e4 : ¬ g m ∈ grp g m := fun H => by
          obtain ⟨s, hs, e2⟩ := grp_mem g H
          exact e ((h s m (by omega) (by omega)).2 e2 ▸ grp_has f hs)
        refine ⟨?_, fun t ht => ?_⟩
        · rw [show grp f (m + 1) = grp f m ++ [f m] from addK_out e, show grp g (m + 1) = grp g m ++ [g m] from addK_out e4, List.length_append, List.length_append, h1]; rfl
        · by_cases et : t = m
          · subst et
            rw [nmb_new f e, nmb_new g e4, h1]
          · exact h2 t (by omega)
  unfold num
  refine List.map_congr_left fun s hs => ?_
  rw [List.mem_range] at hs
  exact (key n (Nat.le_refl _)).2 s hs

/-- The signature of a state, as far as a inputs are told: output and class, input by input. -/
def sgm (nx ot : List (List Int)) (cl : List Nat) (s a : Nat) : List Int := (List.range 128).map fun j => if j / 2 < a then (if j % 2 = 0 then oN ot s (j / 2) else ((cl.getD (nN nx s (j / 2)) 0 : Nat) : Int)) else 0
theorem sgm_len (nx ot : List (List Int)) (cl : List Nat) (s a : Nat) : (sgm nx ot cl s a).length = 128 := by simp [sgm]
theorem sgm_get (nx ot : List (List Int)) (cl : List Nat) (s a j : Nat) (h : j < 128) : (sgm nx ot cl s a)[j]? = some (if j / 2 < a then (if j % 2 = 0 then oN ot s (j / 2) else ((cl.getD (nN nx s (j / 2)) 0 : Nat) : Int)) else 0) := by
  unfold sgm; rw [List.getElem?_map, List.getElem?_range h]; rfl
theorem sgm_zero (nx ot : List (List Int)) (cl : List Nat) (s : Nat) : sgm nx ot cl s 0 = List.replicate 128 0 := by
  apply List.ext_getElem?
  intro j
  by_cases h : j < 128
  · rw [sgm_get _ _ _ _ _ _ h, if_neg (by omega), List.getElem?_replicate, if_pos h]
  · rw [List.getElem?_eq_none (by rw [sgm_len]; omega), List.getElem?_eq_none (by simp; omega)]
theorem sgm_succ (nx ot : List (List Int)) (cl : List Nat) (s a : Nat) : ((sgm nx ot cl s a).set (2 * a) (oN ot s a)).set (2 * a + 1) ((cl.getD (nN nx s a) 0 : Nat) : Int) = sgm nx ot cl s (a + 1) := by
  apply List.ext_getElem?
  intro j
  by_cases hj : j < 128
  · rw [sgm_get _ _ _ _ _ _ hj, List.getElem?_set, List.length_set, sgm_len]
    by_cases e : 2 * a + 1 = j
    · subst e
      rw [if_pos rfl, if_pos hj, if_pos (by omega), if_neg (by omega), show (2 * a + 1) / 2 = a by omega]
    · rw [if_neg e, List.getElem?_set, sgm_len]
      by_cases e2 : 2 * a = j
      · subst e2
        rw [if_pos rfl, if_pos hj, if_pos (by omega), if_pos (by omega), show 2 * a / 2 = a by omega]
      · rw [if_neg e2, sgm_get _ _ _ _ _ _ hj]
        by_cases e3 : j / 2 < a
        · rw [if_pos e3, if_pos (show j / 2 < a + 1 by omega)]
        · rw [if_neg e3, if_neg (show ¬ j / 2 < a + 1 by omega)]
  · rw [List.getElem?_eq_none (by simp [sgm_len]; omega), List.getElem?_eq_none (by rw [sgm_len]; omega)]
theorem sgm_eq {nx ot : List (List Int)} {cl : List Nat} {s t i : Nat} (h : i ≤ 64) : sgm nx ot cl s i = sgm nx ot cl t i ↔ ∀ a, a < i → oN ot s a = oN ot t a ∧ cl.getD (nN nx s a) 0 = cl.getD (nN nx t a) 0 := by
  constructor
  · intro e a ha
    have h1 : (sgm nx ot cl s i)[2 * a]? = (sgm nx ot cl t i)[2 * a]? := by rw [e]
    have h2 : (sgm nx ot cl s i)[2 * a + 1]? = (sgm nx ot cl t i)[2 * a + 1]? := by rw [e]
    rw [sgm_get _ _ _ _ _ _ (by omega), sgm_get _ _ _ _ _ _ (by omega), show 2 * a / 2 = a by omega, if_pos ha, if_pos ha, if_pos (show 2 * a % 2 = 0 by omega), if_pos (show 2 * a % 2 = 0 by omega)] at h1
    rw [sgm_get _ _ _ _ _ _ (by omega), sgm_get _ _ _ _ _ _ (by omega), show (2 * a + 1) / 2 = a by omega, if_pos ha, if_pos ha, if_neg (show ¬ (2 * a + 1) % 2 = 0 by omega), if_neg (show ¬ (2 * a + 1) % 2 = 0 by omega)] at h2
    simp only [Option.some.injEq] at h1 h2
    exact ⟨h1, by omega⟩
  · intro H
    apply List.ext_getElem?
    intro j
    by_cases hj : j < 128
    · rw [sgm_get _ _ _ _ _ _ hj, sgm_get _ _ _ _ _ _ hj]
      by_cases e : j / 2 < i
      · rw [if_pos e, if_pos e]
        obtain ⟨h1, h2⟩ := H _ e
        by_cases e2 : j % 2 = 0
        · rw [if_pos e2, if_pos e2, h1]
        · rw [if_neg e2, if_neg e2, h2]
      · rw [if_neg e, if_neg e]
    · rw [List.getElem?_eq_none (by rw [sgm_len]; omega), List.getElem?_eq_none (by rw [sgm_len]; omega)]

/-- The classes of states that no word of k symbols separates. -/
def pt (nx ot : List (List Int)) (i n : Nat) : Nat → List Nat
  | 0 => List.replicate n 0
  | k + 1 => num (fun s => sgm nx ot (pt nx ot i n k) s i) n
theorem pt_len (nx ot : List (List Int)) (i n : Nat) : ∀ k, (pt nx ot i n k).length = n
  | 0 => by simp [pt]
  | k + 1 => num_len _ _
/-- The class of a state. -/
def cN (nx ot : List (List Int)) (i n k s : Nat) : Nat := (pt nx ot i n k).getD s 0
theorem cN_zero {nx ot : List (List Int)} {i n s : Nat} (h : s < n) : cN nx ot i n 0 s = 0 := by unfold cN pt; simp [List.getD, h]
theorem cN_le {nx ot : List (List Int)} {i n k s : Nat} (h : s < n) : cN nx ot i n k s ≤ s := by
  cases k with
  | zero => rw [cN_zero h]; omega
  | succ k => unfold cN pt; rw [num_at _ h]; exact nmb_le _ _
theorem Mok.cN_succ {i st n : Nat} {nx ot : List (List Int)} (hM : Mok i st n nx ot) {k s t : Nat} (hs : s < n) (ht : t < n) :
    cN nx ot i n (k + 1) s = cN nx ot i n (k + 1) t ↔ ∀ a, a < i → oN ot s a = oN ot t a ∧ cN nx ot i n k (nN nx s a) = cN nx ot i n k (nN nx t a) := by
  unfold cN
  show (num _ n).getD s 0 = (num _ n).getD t 0 ↔ _
  rw [num_at _ hs, num_at _ ht, nmb_eq, sgm_eq hM.i2]
theorem Mok.cN_fine {i st n : Nat} {nx ot : List (List Int)} (hM : Mok i st n nx ot) : ∀ {k s t : Nat}, s < n → t < n → cN nx ot i n (k + 1) s = cN nx ot i n (k + 1) t → cN nx ot i n k s = cN nx ot i n k t
  | 0, s, t, hs, ht, _ => by rw [cN_zero hs, cN_zero ht]
  | k + 1, s, t, hs, ht, h => by
    rw [hM.cN_succ hs ht] at h ⊢
    exact fun a ha => ⟨(h a ha).1, hM.cN_fine (hM.nN_lt hs ha) (hM.nN_lt ht ha) (h a ha).2⟩
theorem pt_stay {nx ot : List (List Int)} {i n k : Nat} (h : pt nx ot i n (k + 1) = pt nx ot i n k) : ∀ d, pt nx ot i n (k + d) = pt nx ot i n k
  | 0 => rfl
  | d + 1 => by
    show num (fun s => sgm nx ot (pt nx ot i n (k + d)) s i) n = _
    rw [pt_stay h d]
    exact h
theorem list_ext0 {l t : List Nat} {n : Nat} (h1 : l.length = n) (h2 : t.length = n) (h : ∀ s, s < n → l.getD s 0 = t.getD s 0) : l = t := by
  apply List.ext_getElem (by omega)
  intro s hs ht
  have := h s (by omega)
  rw [List.getD_eq_getElem?_getD, List.getD_eq_getElem?_getD, List.getElem?_eq_getElem hs, List.getElem?_eq_getElem ht] at this
  exact this
/-- A partition by numbers of first occurrence is determined by its classes. -/
theorem pt_num {i st n : Nat} {nx ot : List (List Int)} (_ : Mok i st n nx ot) : ∀ k, pt nx ot i n k = num (cN nx ot i n k) n
  | 0 => by
    apply list_ext0 (pt_len _ _ _ _ _) (num_len _ _)
    intro s hs
    rw [num_at _ hs]
    have h0 : (pt nx ot i n 0).getD s 0 = 0 := cN_zero hs
    have e : ∀ m, m ≤ n → ∀ t, t ∈ grp (cN nx ot i n 0) m → t = 0 := fun m hm t ht => by
      obtain ⟨u, hu, rfl⟩ := grp_mem _ ht
      exact cN_zero (by omega)
    rw [h0]
    have h1 : nmb (cN nx ot i n 0) s = nmb (cN nx ot i n 0) 0 := (nmb_eq _).2 (by rw [cN_zero hs, cN_zero (by omega)])
    have := nmb_le (cN nx ot i n 0) 0
    omega
  | k + 1 => by
    refine num_congr fun s t hs ht => ?_
    have h1 := num_at (fun s => sgm nx ot (pt nx ot i n k) s i) hs
    have h2 := num_at (fun s => sgm nx ot (pt nx ot i n k) s i) ht
    show _ ↔ (num _ n).getD s 0 = (num _ n).getD t 0
    rw [h1, h2]
    exact (nmb_eq (fun s => sgm nx ot (pt nx ot i n k) s i)).symm
end Go.Proofs.Ythjnghldedfdoaa
end

section
/- Partitions become finer until they stay: the depth. -/
namespace Go.Proofs.Ythjnghldedfdoaa

/-- The least of its class. -/
def fst_ (c : Nat → Nat) (s : Nat) : Bool := (List.range s).all fun t => c t != c s
theorem fst_iff {c : Nat → Nat} {s : Nat} : fst_ c s = true ↔ ∀ t, t < s → c t ≠ c s := by
  unfold fst_
  simp [List.all_eq_true]
theorem fst_ex (c : Nat → Nat) : ∀ s, ∃ r, r ≤ s ∧ c r = c s ∧ fst_ c r = true := by
  intro s
  induction s using Nat.strongRecOn with
  | _ s ih =>
    by_cases h : fst_ c s = true
    · exact ⟨s, Nat.le_refl _, rfl, h⟩
    · have h2 : ∃ t, t < s ∧ c t = c s := by
        rw [fst_iff] at h
        exact Classical.byContradiction fun H => h fun t ht e => H ⟨t, ht, e⟩
      obtain ⟨t, ht, e⟩ := h2
      obtain ⟨r, h3, h4, h5⟩ := ih t ht
      exact ⟨r, by omega, h4.trans e, h5⟩
def cnt (c : Nat → Nat) (n : Nat) : Nat := ((List.range n).filter (fst_ c)).length
theorem cnt_le (c : Nat → Nat) (n : Nat) : cnt c n ≤ n := by
  unfold cnt
  have := List.length_filter_le (fst_ c) (List.range n)
  simpa using this
theorem cnt_pos (c : Nat → Nat) {n : Nat} (h : 0 < n) : 0 < cnt c n := by
  unfold cnt
  have : 0 ∈ (List.range n).filter (fst_ c) := by
    rw [List.mem_filter]
    exact ⟨by simpa using h, by rw [fst_iff]; intro t ht; omega⟩
  exact List.length_pos_of_mem this
theorem filter_le {p q : Nat → Bool} : ∀ {l : List Nat}, (∀ x, x ∈ l → p x = true → q x = true) → (l.filter p).length ≤ (l.filter q).length
  | [], _ => Nat.le_refl _
  | x :: l, h => by
    have ih := filter_le (l := l) fun y hy => h y (by simp [hy])
    rw [List.filter_cons, List.filter_cons]
    by_cases hp : p x = true
    · rw [if_pos hp, if_pos (h x (by simp) hp)]; simp; exact ih
    · rw [if_neg hp]
      split
      · simp; omega
      · exact ih
theorem filter_eq_of_len {p q : Nat → Bool} : ∀ {l : List Nat}, (∀ x, x ∈ l → p x = true → q x = true) → (l.filter q).length ≤ (l.filter p).length → ∀ x, x ∈ l → q x = true → p x = true
  | [], _, _, x, hx => by simp at hx
  | y :: l, h, hl, x, hx => by
    intro hq
    have hle := filter_le (p := p) (q := q) (l := l) fun z hz => h z (by simp [hz])
    rw [List.filter_cons, List.filter_cons] at hl
    by_cases hp : p y = true
    · rw [if_pos hp, if_pos (h y (by simp) hp)] at hl
      rcases List.mem_cons.1 hx with rfl | hx
      · exact hp
      · exact filter_eq_of_len (fun z hz => h z (by simp [hz])) (by simpa using hl) x hx hq
    · rw [if_neg hp] at hl
      by_cases hqy : q y = true
      · rw [if_pos hqy] at hl; simp at hl; omega
      · rw [if_neg hqy] at hl
        rcases List.mem_cons.1 hx with rfl | hx
        · exact absurd hq hqy
        · exact filter_eq_of_len (fun z hz => h z (by simp [hz])) hl x hx hq
/-- A finer partition with as many classes is the same one. -/
theorem cnt_same {c d : Nat → Nat} {n : Nat} (h : ∀ s t, s < n → t < n → d s = d t → c s = c t) (hc : cnt d n ≤ cnt c n) : ∀ s t, s < n → t < n → c s = c t → d s = d t := by
  have h1 : ∀ x, x ∈ List.range n → fst_ c x = true → fst_ d x = true := fun x hx hf => by
    rw [fst_iff] at hf ⊢
    rw [List.mem_range] at hx
    exact fun t ht e => hf t ht (h t x (by omega) hx e)
  have h2 := filter_eq_of_len h1 hc
  intro s t hs ht e
  obtain ⟨r, r1, r2, r3⟩ := fst_ex d s
  obtain ⟨u, u1, u2, u3⟩ := fst_ex d t
  have f1 := h2 r (by simp; omega) r3
  have f2 := h2 u (by simp; omega) u3
  rw [fst_iff] at f1 f2
  have e3 : c r = c u := (h r s (by omega) hs r2).trans (e.trans (h u t (by omega) ht u2).symm)
  have e4 : r = u := by
    rcases Nat.lt_trichotomy r u with hlt | he | hgt
    · exact absurd e3 (f2 r hlt)
    · exact he
    · exact absurd e3.symm (f1 u hgt)
  subst e4
  exact r2.symm.trans u2
theorem cnt_lt {c d : Nat → Nat} {n : Nat} (h : ∀ s t, s < n → t < n → d s = d t → c s = c t) (hne : ¬ ∀ s t, s < n → t < n → c s = c t → d s = d t) : cnt c n < cnt d n := by
  rcases Nat.lt_or_ge (cnt c n) (cnt d n) with h1 | h1
  · exact h1
  · exact absurd (cnt_same h h1) hne

/-- The first number, among the given ones, from which on the classes stay. -/
def depF (nx ot : List (List Int)) (i n : Nat) : Nat → Nat → Nat
  | 0, j => j
  | f + 1, j => if pt nx ot i n (j + 1) = pt nx ot i n j then j else depF nx ot i n f (j + 1)
def dep (nx ot : List (List Int)) (i n : Nat) : Nat := depF nx ot i n n 0
theorem pt_same {i st n : Nat} {nx ot : List (List Int)} (hM : Mok i st n nx ot) {j k : Nat} (h : ∀ s t, s < n → t < n → (cN nx ot i n j s = cN nx ot i n j t ↔ cN nx ot i n k s = cN nx ot i n k t)) : pt nx ot i n j = pt nx ot i n k := by
  rw [pt_num hM j, pt_num hM k]; exact num_congr h
theorem Mok.cnt_succ {i st n : Nat} {nx ot : List (List Int)} (hM : Mok i st n nx ot) {j : Nat} (h : pt nx ot i n (j + 1) ≠ pt nx ot i n j) : cnt (cN nx ot i n j) n < cnt (cN nx ot i n (j + 1)) n :=
  cnt_lt (fun _ _ hs ht e => hM.cN_fine hs ht e) fun H => h (pt_same hM fun s t hs ht => ⟨hM.cN_fine hs ht, H s t hs ht⟩)
theorem Mok.cnt_ge {i st n : Nat} {nx ot : List (List Int)} (hM : Mok i st n nx ot) : ∀ {j : Nat}, (∀ m, m < j → pt nx ot i n (m + 1) ≠ pt nx ot i n m) → j + 1 ≤ cnt (cN nx ot i n j) n
  | 0, _ => cnt_pos _ hM.n1
  | j + 1, h => by
    have h1 := hM.cnt_ge (j := j) fun m hm => h m (by omega)
    have h2 := hM.cnt_succ (h j (by omega))
    omega
theorem depF_spec {i st n : Nat} {nx ot : List (List Int)} (hM : Mok i st n nx ot) : ∀ (f j : Nat), n ≤ f + j → (∀ m, m < j → pt nx ot i n (m + 1) ≠ pt nx ot i n m) →
    pt nx ot i n (depF nx ot i n f j + 1) = pt nx ot i n (depF nx ot i n f j) ∧ ∀ m, m < depF nx ot i n f j → pt nx ot i n (m + 1) ≠ pt nx ot i n m
  | 0, j, hf, h => by
    have h1 := hM.cnt_ge h
    have h2 := cnt_le (cN nx ot i n j) n
    omega
  | f + 1, j, hf, h => by
    unfold depF
    by_cases e : pt nx ot i n (j + 1) = pt nx ot i n j
    · rw [if_pos e]; exact ⟨e, h⟩
    · rw [if_neg e]
      refine depF_spec hM f (j + 1) (by omega) fun m hm => ?_
      by_cases e2 : m = j
      · subst e2; exact e
      · exact h m (by omega)
theorem Mok.dep_stay {i st n : Nat} {nx ot : List (List Int)} (hM : Mok i st n nx ot) : pt nx ot i n (dep nx ot i n + 1) = pt nx ot i n (dep nx ot i n) := (depF_spec hM n 0 (by omega) fun m hm => absurd hm (by omega)).1
theorem Mok.dep_min {i st n : Nat} {nx ot : List (List Int)} (hM : Mok i st n nx ot) {m : Nat} (h : m < dep nx ot i n) : pt nx ot i n (m + 1) ≠ pt nx ot i n m := (depF_spec hM n 0 (by omega) fun m hm => absurd hm (by omega)).2 m h
theorem Mok.dep_lt {i st n : Nat} {nx ot : List (List Int)} (hM : Mok i st n nx ot) : dep nx ot i n < n := by
  have h1 := hM.cnt_ge (j := dep nx ot i n) fun m hm => hM.dep_min hm
  have h2 := cnt_le (cN nx ot i n (dep nx ot i n)) n
  omega
theorem Mok.dep_le {i st n : Nat} {nx ot : List (List Int)} (hM : Mok i st n nx ot) {j : Nat} (h : ∀ m, m < j → pt nx ot i n (m + 1) ≠ pt nx ot i n m) : j ≤ dep nx ot i n := by
  rcases Nat.lt_or_ge (dep nx ot i n) j with h1 | h1
  · exact absurd hM.dep_stay (h _ h1)
  · exact h1
theorem Mok.dep_eq {i st n : Nat} {nx ot : List (List Int)} (hM : Mok i st n nx ot) {j : Nat} (h : ∀ m, m < j → pt nx ot i n (m + 1) ≠ pt nx ot i n m) (hj : pt nx ot i n (j + 1) = pt nx ot i n j) : j = dep nx ot i n := by
  have h1 := hM.dep_le h
  rcases Nat.lt_or_ge j (dep nx ot i n) with h2 | h2
  · exact absurd hj (hM.dep_min h2)
  · omega
theorem Mok.pt_all {i st n : Nat} {nx ot : List (List Int)} (hM : Mok i st n nx ot) {k : Nat} (h : dep nx ot i n ≤ k) : pt nx ot i n k = pt nx ot i n (dep nx ot i n) := by
  obtain ⟨d, rfl⟩ := Nat.le.dest h
  exact pt_stay hM.dep_stay d
/-- The classes for k are all classes just if k is not below the depth. -/
theorem Mok.pt_eq_all {i st n : Nat} {nx ot : List (List Int)} (hM : Mok i st n nx ot) {k : Nat} : pt nx ot i n k = pt nx ot i n (dep nx ot i n) ↔ dep nx ot i n ≤ k := by
  refine ⟨fun h => ?_, hM.pt_all⟩
  rcases Nat.lt_or_ge k (dep nx ot i n) with h1 | h1
  · refine absurd ?_ (hM.dep_min h1)
    have h2 := hM.dep_stay
    show num (fun s => sgm nx ot (pt nx ot i n k) s i) n = _
    rw [h]
    exact h2
  · exact h1
end Go.Proofs.Ythjnghldedfdoaa
end

section
/- The trimmed machine. -/
namespace Go.Proofs.Ythjnghldedfdoaa

theorem addR_has {nx : List (List Int)} {s : Nat} {l : List Nat} : ∀ {b : Nat}, ∀ a, a < b → nN nx s a ∈ addR nx s l b
  | 0, a, h => absurd h (by omega)
  | b + 1, a, h => by
    by_cases e : a = b
    · subst e; exact mem_addN _ _
    · exact addN_mem (addR_has a (by omega))
theorem addR_mem {nx : List (List Int)} {s : Nat} {l : List Nat} {x : Nat} (h : x ∈ l) (a : Nat) : x ∈ addR nx s l a := by obtain ⟨t, ht⟩ := addR_pre nx s l a; rw [ht]; simp [h]

theorem bfs_closed {i st n : Nat} {nx ot : List (List Int)} (hM : Mok i st n nx ot) : ∀ (k : Nat) (l : List Nat) (j : Nat), Stt n l → n ≤ k + j → (∀ m, m < j → m < l.length → ∀ a, a < i → nN nx (l.getD m 0) a ∈ l) →
    Stt n (bfs nx i k l j) ∧ ∀ m, m < (bfs nx i k l j).length → ∀ a, a < i → nN nx ((bfs nx i k l j).getD m 0) a ∈ bfs nx i k l j
  | 0, l, j, hS, hk, h => ⟨hS, fun m hm a ha => h m (by have := hS.len; have hm : m < l.length := hm; omega) hm a ha⟩
  | k + 1, l, j, hS, hk, h => by
    by_cases hj : j < l.length
    · have e : bfs nx i (k + 1) l j = bfs nx i k (addR nx (l.getD j 0) l i) (j + 1) := by
        show (if j < l.length then _ else _) = _; rw [if_pos hj]
      rw [e]
      refine bfs_closed hM k _ _ (addR_stt hM hS (hS.2 _ (getD_mem hj)) i (Nat.le_refl _)) (by omega) fun m hm hml a ha => ?_
      by_cases e2 : m = j
      · subst e2; rw [addR_at hj]; exact addR_has a ha
      · rw [addR_at (by omega)]; exact addR_mem (h m (by omega) (by omega) a ha) i
    · rw [bfs_end nx i (k + 1) hj]
      exact ⟨hS, fun m hm a ha => h m (by omega) hm a ha⟩

theorem Mok.rch_stt {i st n : Nat} {nx ot : List (List Int)} (hM : Mok i st n nx ot) : Stt n (rch nx i st) :=
  (bfs_closed hM _ _ _ (Stt.one hM.st) (by rw [hM.nxl]; omega) (fun m hm => absurd hm (by omega))).1
theorem Mok.rch_in {i st n : Nat} {nx ot : List (List Int)} (hM : Mok i st n nx ot) {s a : Nat} (hs : s ∈ rch nx i st) (ha : a < i) : nN nx s a ∈ rch nx i st := by
  obtain ⟨m, hm, rfl⟩ := List.getElem_of_mem hs
  have := (bfs_closed hM nx.length [st] 0 (Stt.one hM.st) (by rw [hM.nxl]; omega) (fun m hm => absurd hm (by omega))).2 m hm a ha
  rw [show (bfs nx i nx.length [st] 0).getD m 0 = (rch nx i st)[m] by rw [List.getD_eq_getElem?_getD]; show (rch nx i st)[m]?.getD 0 = _; rw [List.getElem?_eq_getElem hm]; rfl] at this
  exact this
theorem rch_pre (nx : List (List Int)) (i st : Nat) : ∃ t, rch nx i st = st :: t := by
  obtain ⟨t, ht⟩ := bfs_pre nx i nx.length [st] 0
  exact ⟨t, ht⟩

/-- The place of a state. -/
def ixN (R : List Nat) (x : Nat) : Nat := R.idxOf x
theorem ixN_lt {R : List Nat} {x : Nat} (h : x ∈ R) : ixN R x < R.length := List.idxOf_lt_length_of_mem h
theorem ixN_at {R : List Nat} {x : Nat} (h : x ∈ R) : R.getD (ixN R x) 0 = x := by
  rw [List.getD_eq_getElem?_getD, List.getElem?_eq_getElem (ixN_lt h)]
  exact List.getElem_idxOf (ixN_lt h)
theorem ixN_of {R : List Nat} (hR : R.Nodup) {j : Nat} (hj : j < R.length) : ixN R (R.getD j 0) = j := by
  have hm : R.getD j 0 ∈ R := getD_mem hj
  have h1 := ixN_at hm
  have h2 := ixN_lt hm
  rw [List.getD_eq_getElem?_getD, List.getD_eq_getElem?_getD, List.getElem?_eq_getElem hj, List.getElem?_eq_getElem (by rw [List.getD_eq_getElem?_getD, List.getElem?_eq_getElem hj] at h2; exact h2)] at h1
  rw [List.getD_eq_getElem?_getD, List.getElem?_eq_getElem hj] at h2 ⊢
  exact (List.getElem_inj hR).1 h1

/-- The rows of the trimmed machine. -/
def trR (nx : List (List Int)) (i : Nat) (R : List Nat) (s : Nat) : List Int := (List.range i).map fun a => ((ixN R (nN nx s a) : Nat) : Int)
def trN (nx : List (List Int)) (i : Nat) (R : List Nat) : List (List Int) := R.map (trR nx i R)
def trO (ot : List (List Int)) (R : List Nat) : List (List Int) := R.map fun s => ot.getD s []
theorem trR_len (nx : List (List Int)) (i : Nat) (R : List Nat) (s : Nat) : (trR nx i R s).length = i := by simp [trR]
theorem trR_at {nx : List (List Int)} {i : Nat} {R : List Nat} {s a : Nat} (ha : a < i) : (trR nx i R s).getD a 0 = ((ixN R (nN nx s a) : Nat) : Int) := by
  unfold trR; simp [List.getD, ha]
/-- A row while it is renumbered. -/
def midR (nx : List (List Int)) (i : Nat) (R : List Nat) (s a : Nat) : List Int := (trR nx i R s).take a ++ (nx.getD s []).drop a
theorem midR_zero (nx : List (List Int)) (i : Nat) (R : List Nat) (s : Nat) : midR nx i R s 0 = nx.getD s [] := by simp [midR]
theorem midR_all {nx : List (List Int)} {i : Nat} {R : List Nat} {s : Nat} (h : (nx.getD s []).length = i) : midR nx i R s i = trR nx i R s := by
  unfold midR; rw [List.take_of_length_le (by rw [trR_len]; exact Nat.le_refl _), List.drop_eq_nil_of_le (by omega), List.append_nil]
theorem midR_len {nx : List (List Int)} {i : Nat} {R : List Nat} {s a : Nat} (h : (nx.getD s []).length = i) (ha : a ≤ i) : (midR nx i R s a).length = i := by
  unfold midR; rw [List.length_append, List.length_take, List.length_drop, trR_len, h]; omega
theorem midR_get {nx : List (List Int)} {i : Nat} {R : List Nat} {s a m : Nat} (ha : a ≤ i) : (midR nx i R s a)[m]? = if m < a then (trR nx i R s)[m]? else (nx.getD s [])[m]? := by
  unfold midR
  have hl : ((trR nx i R s).take a).length = a := by rw [List.length_take, trR_len]; omega
  by_cases h : m < a
  · rw [if_pos h, List.getElem?_append_left (by omega), List.getElem?_take, if_pos h]
  · rw [if_neg h, List.getElem?_append_right (by omega), List.getElem?_drop, hl, show a + (m - a) = m by omega]
theorem midR_at {nx : List (List Int)} {i : Nat} {R : List Nat} {s a : Nat} (ha : a < i) : (midR nx i R s a).getD a 0 = (nx.getD s []).getD a 0 := by
  rw [List.getD_eq_getElem?_getD, midR_get (by omega), if_neg (by omega), ← List.getD_eq_getElem?_getD]
theorem midR_set {nx : List (List Int)} {i : Nat} {R : List Nat} {s a : Nat} (h : (nx.getD s []).length = i) (ha : a < i) : (midR nx i R s a).set a ((ixN R (nN nx s a) : Nat) : Int) = midR nx i R s (a + 1) := by
  apply List.ext_getElem?
  intro m
  have ht : (trR nx i R s)[a]? = some ((ixN R (nN nx s a) : Nat) : Int) := by
    have := trR_at (nx := nx) (R := R) (s := s) ha
    rw [List.getD_eq_getElem?_getD, List.getElem?_eq_getElem (by rw [trR_len]; exact ha)] at this
    rw [List.getElem?_eq_getElem (by rw [trR_len]; exact ha)]
    exact congrArg some this
  rw [List.getElem?_set, midR_get (by omega), midR_get (by omega), midR_len h (by omega)]
  by_cases e : a = m
  · subst e
    rw [if_pos rfl, if_pos ha, if_pos (by omega), ht]
  · rw [if_neg e]
    by_cases e2 : m < a
    · rw [if_pos e2, if_pos (by omega)]
    · rw [if_neg e2, if_neg (by omega)]
theorem map_take_succ {α β : Type} (f : α → β) (l : List α) (d : α) {k : Nat} (h : k < l.length) : (l.take (k + 1)).map f = (l.take k).map f ++ [f (l.getD k d)] := by
  rw [List.take_succ_eq_append_getElem h, List.map_append, List.getD_eq_getElem?_getD, List.getElem?_eq_getElem h]; rfl
end Go.Proofs.Ythjnghldedfdoaa
end

section
/- The machine of classes: which rows it has. -/
namespace Go.Proofs.Ythjnghldedfdoaa

/-- The least states of the classes among the first s. -/
def reps (f : Nat → Nat) : Nat → List Nat
  | 0 => []
  | s + 1 => if f s ∈ grp f s then reps f s else reps f s ++ [s]
theorem reps_in {f : Nat → Nat} {s : Nat} (h : f s ∈ grp f s) : reps f (s + 1) = reps f s := by
  show (if _ then _ else _) = _; rw [if_pos h]
theorem reps_out {f : Nat → Nat} {s : Nat} (h : ¬ f s ∈ grp f s) : reps f (s + 1) = reps f s ++ [s] := by
  show (if _ then _ else _) = _; rw [if_neg h]
theorem reps_map (f : Nat → Nat) : ∀ s, (reps f s).map f = grp f s
  | 0 => rfl
  | s + 1 => by
    by_cases h : f s ∈ grp f s
    · rw [reps_in h, show grp f (s + 1) = grp f s from addK_in h]; exact reps_map f s
    · rw [reps_out h, show grp f (s + 1) = grp f s ++ [f s] from addK_out h, List.map_append, reps_map f s]; rfl
theorem reps_len (f : Nat → Nat) (s : Nat) : (reps f s).length = (grp f s).length := by rw [← reps_map, List.length_map]
theorem reps_lt (f : Nat → Nat) : ∀ (n : Nat) {r : Nat}, r ∈ reps f n → r < n
  | 0, r, h => by simp [reps] at h
  | n + 1, r, h => by
    by_cases e : f n ∈ grp f n
    · rw [reps_in e] at h; have := reps_lt f n h; omega
    · rw [reps_out e] at h
      rcases List.mem_append.1 h with h | h
      · have := reps_lt f n h; omega
      · simp at h; omega
/-- A class that is not there yet has the next number. -/
theorem nmb_skip (f : Nat → Nat) (s : Nat) : nmb f s < (reps f s).length ↔ f s ∈ grp f s := by
  rw [reps_len]
  constructor
  · intro h
    exact Classical.byContradiction fun H => by rw [nmb_new f H] at h; omega
  · intro h
    rw [nmb_old f h]
    exact List.idxOf_lt_length_of_mem h
theorem reps_at (f : Nat → Nat) {n s : Nat} (h : s < n) : f ((reps f n).getD (nmb f s) 0) = f s := by
  have h1 := nmb_lt f h
  rw [← reps_len] at h1
  have h2 : ((reps f n).map f).getD (nmb f s) (f 0) = f s := by
    rw [reps_map, nmb_in f h]; exact getD_idxOf (grp_has f h)
  rw [List.getD_eq_getElem?_getD, List.getElem?_map, List.getElem?_eq_getElem h1] at h2
  rw [List.getD_eq_getElem?_getD, List.getElem?_eq_getElem h1]
  exact h2
theorem nmb_reps (f : Nat → Nat) {n j : Nat} (h : j < (reps f n).length) : nmb f ((reps f n).getD j 0) = j := by
  have hm : (reps f n).getD j 0 ∈ reps f n := getD_mem h
  rw [nmb_in f (reps_lt f n hm)]
  have hj : j < (grp f n).length := by rw [← reps_len]; exact h
  have h2 : (grp f n)[j] = f ((reps f n).getD j 0) := by
    have h3 : (grp f n)[j]? = some (f ((reps f n).getD j 0)) := by
      rw [← reps_map, List.getElem?_map, List.getD_eq_getElem?_getD, List.getElem?_eq_getElem h]; rfl
    rw [List.getElem?_eq_getElem hj] at h3
    exact Option.some.inj h3
  rw [← h2]
  have h4 := List.getElem_idxOf (x := (grp f n)[j]) (xs := grp f n) (List.idxOf_lt_length_of_mem (List.getElem_mem hj))
  exact (List.getElem_inj (grp_nodup f n)).1 h4

/-- The rows of the machine of classes. -/
def qR (nx : List (List Int)) (i : Nat) (f : Nat → Nat) (s : Nat) : List Int := (List.range i).map fun a => ((nmb f (nN nx s a) : Nat) : Int)
theorem qR_len (nx : List (List Int)) (i : Nat) (f : Nat → Nat) (s : Nat) : (qR nx i f s).length = i := by simp [qR]
theorem qR_at {nx : List (List Int)} {i : Nat} {f : Nat → Nat} {s a : Nat} (ha : a < i) : (qR nx i f s).getD a 0 = ((nmb f (nN nx s a) : Nat) : Int) := by
  unfold qR; simp [List.getD, ha]
/-- A row while it is renumbered. -/
def qmid (nx : List (List Int)) (i : Nat) (f : Nat → Nat) (s a : Nat) : List Int := (qR nx i f s).take a ++ (nx.getD s []).drop a
theorem qmid_zero (nx : List (List Int)) (i : Nat) (f : Nat → Nat) (s : Nat) : qmid nx i f s 0 = nx.getD s [] := by simp [qmid]
theorem qmid_all {nx : List (List Int)} {i : Nat} {f : Nat → Nat} {s : Nat} (h : (nx.getD s []).length = i) : qmid nx i f s i = qR nx i f s := by
  unfold qmid; rw [List.take_of_length_le (by rw [qR_len]; exact Nat.le_refl _), List.drop_eq_nil_of_le (by omega), List.append_nil]
theorem qmid_len {nx : List (List Int)} {i : Nat} {f : Nat → Nat} {s a : Nat} (h : (nx.getD s []).length = i) (ha : a ≤ i) : (qmid nx i f s a).length = i := by
  unfold qmid; rw [List.length_append, List.length_take, List.length_drop, qR_len, h]; omega
theorem qmid_get {nx : List (List Int)} {i : Nat} {f : Nat → Nat} {s a m : Nat} (ha : a ≤ i) : (qmid nx i f s a)[m]? = if m < a then (qR nx i f s)[m]? else (nx.getD s [])[m]? := by
  unfold qmid
  have hl : ((qR nx i f s).take a).length = a := by rw [List.length_take, qR_len]; omega
  by_cases h : m < a
  · rw [if_pos h, List.getElem?_append_left (by omega), List.getElem?_take, if_pos h]
  · rw [if_neg h, List.getElem?_append_right (by omega), List.getElem?_drop, hl, show a + (m - a) = m by omega]
theorem qmid_at {nx : List (List Int)} {i : Nat} {f : Nat → Nat} {s a : Nat} (ha : a < i) : (qmid nx i f s a).getD a 0 = (nx.getD s []).getD a 0 := by
  rw [List.getD_eq_getElem?_getD, qmid_get (by omega), if_neg (by omega), ← List.getD_eq_getElem?_getD]
theorem qmid_set {nx : List (List Int)} {i : Nat} {f : Nat → Nat} {s a : Nat} (h : (nx.getD s []).length = i) (ha : a < i) : (qmid nx i f s a).set a ((nmb f (nN nx s a) : Nat) : Int) = qmid nx i f s (a + 1) := by
  apply List.ext_getElem?
  intro m
  have ht : (qR nx i f s)[a]? = some ((nmb f (nN nx s a) : Nat) : Int) := by
    have := qR_at (nx := nx) (f := f) (s := s) ha
    rw [List.getD_eq_getElem?_getD, List.getElem?_eq_getElem (by rw [qR_len]; exact ha)] at this
    rw [List.getElem?_eq_getElem (by rw [qR_len]; exact ha)]
    exact congrArg some this
  rw [List.getElem?_set, qmid_get (by omega), qmid_get (by omega), qmid_len h (by omega)]
  by_cases e : a = m
  · subst e
    rw [if_pos rfl, if_pos ha, if_pos (by omega), ht]
  · rw [if_neg e]
    by_cases e2 : m < a
    · rw [if_pos e2, if_pos (by omega)]
    · rw [if_neg e2, if_neg (by omega)]
/-- The tables of the machine of classes. -/
def qN (nx : List (List Int)) (i : Nat) (f : Nat → Nat) (s : Nat) : List (List Int) := (reps f s).map (qR nx i f)
def qO (ot : List (List Int)) (f : Nat → Nat) (s : Nat) : List (List Int) := (reps f s).map fun s => ot.getD s []
theorem qN_in {nx : List (List Int)} {i : Nat} {f : Nat → Nat} {s : Nat} (h : f s ∈ grp f s) : qN nx i f (s + 1) = qN nx i f s := by unfold qN; rw [reps_in h]
theorem qO_in {ot : List (List Int)} {f : Nat → Nat} {s : Nat} (h : f s ∈ grp f s) : qO ot f (s + 1) = qO ot f s := by unfold qO; rw [reps_in h]
theorem qN_out {nx : List (List Int)} {i : Nat} {f : Nat → Nat} {s : Nat} (h : ¬ f s ∈ grp f s) : qN nx i f (s + 1) = qN nx i f s ++ [qR nx i f s] := by unfold qN; rw [reps_out h, List.map_append]; rfl
theorem qO_out {ot : List (List Int)} {f : Nat → Nat} {s : Nat} (h : ¬ f s ∈ grp f s) : qO ot f (s + 1) = qO ot f s ++ [ot.getD s []] := by unfold qO; rw [reps_out h, List.map_append]; rfl
theorem qN_len (nx : List (List Int)) (i : Nat) (f : Nat → Nat) (s : Nat) : (qN nx i f s).length = (reps f s).length := by simp [qN]
theorem qO_len (ot : List (List Int)) (f : Nat → Nat) (s : Nat) : (qO ot f s).length = (reps f s).length := by simp [qO]
theorem reps_le (f : Nat → Nat) (s : Nat) : (reps f s).length ≤ s := by rw [reps_len]; exact grp_len f s
end Go.Proofs.Ythjnghldedfdoaa
end

section
/- Canonical automata: the least words of their classes determine them. -/
namespace Go.Proofs.Ythjnghldedfdoaa

theorem Lx_irr : ∀ {u : List Int}, ¬ Lx u u
  | [], h => by simp [Lx] at h
  | a :: u, h => by
    simp only [Lx] at h
    rcases h with h | ⟨_, h⟩
    · omega
    · exact Lx_irr h
theorem Lx_asym : ∀ {u v : List Int}, Lx u v → ¬ Lx v u
  | [], _, h, _ => by simp [Lx] at h
  | _ :: _, [], h, _ => by simp [Lx] at h
  | a :: u, b :: v, h, k => by
    simp only [Lx] at h k
    rcases h with h | ⟨h, h'⟩ <;> rcases k with k | ⟨k, k'⟩
    · omega
    · omega
    · omega
    · exact Lx_asym h' k'
theorem SL_irr {u : List Int} : ¬ SL u u := fun h => by
  rcases h with h | ⟨_, h⟩
  · omega
  · exact Lx_irr h
theorem SL_asym {u v : List Int} (h : SL u v) (k : SL v u) : False := by
  rcases h with h | ⟨h, h'⟩ <;> rcases k with k | ⟨k, k'⟩
  · omega
  · omega
  · omega
  · exact Lx_asym h' k'
theorem sorted_eq : ∀ {W V : List (List Int)}, W.Pairwise SL → V.Pairwise SL → (∀ x, x ∈ W ↔ x ∈ V) → W = V
  | [], [], _, _, _ => rfl
  | [], b :: V, _, _, h => absurd ((h b).2 (by simp)) (by simp)
  | a :: W, [], _, _, h => absurd ((h a).1 (by simp)) (by simp)
  | a :: W, b :: V, h1, h2, h => by
    rw [List.pairwise_cons] at h1 h2
    have e : a = b := by
      rcases List.mem_cons.1 ((h a).1 (by simp)) with e | e
      · exact e
      · rcases List.mem_cons.1 ((h b).2 (by simp)) with e' | e'
        · exact e'.symm
        · exact absurd (h1.1 b e') (fun x => SL_asym x (h2.1 a e))
    subst e
    rw [sorted_eq h1.2 h2.2 fun x => ⟨fun hx => ?_, fun hx => ?_⟩]
    · rcases List.mem_cons.1 ((h x).1 (List.mem_cons_of_mem _ hx)) with e | e
      · subst e; exact absurd (h1.1 x hx) SL_irr
      · exact e
    · rcases List.mem_cons.1 ((h x).2 (List.mem_cons_of_mem _ hx)) with e | e
      · subst e; exact absurd (h2.1 x hx) SL_irr
      · exact e
/-- W has the least words of the classes of f, in order. -/
structure Cw {κ : Type} (f : List Int → κ) (i : Nat) (W : List (List Int)) : Prop where
  wd : ∀ u, u ∈ W → Wd i u
  so : W.Pairwise SL
  le : ∀ v, v ∈ W → ∀ u, Wd i u → SL u v → f u ≠ f v
  co : ∀ u, Wd i u → ∃ v, v ∈ W ∧ f v = f u
theorem Cw.sub {κ μ : Type} {f : List Int → κ} {g : List Int → μ} {i : Nat} {W V : List (List Int)} (h : Cw f i W) (k : Cw g i V) (e : ∀ u v, Wd i u → Wd i v → (f u = f v ↔ g u = g v)) {v : List Int} (hv : v ∈ W) : v ∈ V := by
  obtain ⟨x, hx, hg⟩ := k.co v (h.wd v hv)
  rcases SL_tri (u := x) (v := v) with h1 | h1 | h1
  · exact absurd ((e x v (k.wd x hx) (h.wd v hv)).2 hg) (h.le v hv x (k.wd x hx) h1)
  · subst h1; exact hx
  · exact absurd hg.symm (k.le x hx v (h.wd v hv) h1)
theorem Cw.uniq {κ μ : Type} {f : List Int → κ} {g : List Int → μ} {i : Nat} {W V : List (List Int)} (h : Cw f i W) (k : Cw g i V) (e : ∀ u v, Wd i u → Wd i v → (f u = f v ↔ g u = g v)) : W = V :=
  sorted_eq h.so k.so fun _ => ⟨fun hx => h.sub k e hx, fun hx => k.sub h (fun u v hu hv => (e u v hu hv).symm) hx⟩
theorem getDW {W : List (List Int)} {k : Nat} (h : k < W.length) : W.getD k [] = W[k] := by
  rw [List.getD_eq_getElem?_getD, List.getElem?_eq_getElem h]; rfl
theorem getDW_mem {W : List (List Int)} {k : Nat} (h : k < W.length) : W.getD k [] ∈ W := by rw [getDW h]; exact List.getElem_mem h
theorem Cw.inj {κ : Type} {f : List Int → κ} {i : Nat} {W : List (List Int)} (h : Cw f i W) {j k : Nat} (hj : j < W.length) (hk : k < W.length) (e : f (W.getD j []) = f (W.getD k [])) : j = k := by
  have hs := List.pairwise_iff_getElem.1 h.so
  rcases Nat.lt_trichotomy j k with h1 | h1 | h1
  · have := hs j k hj hk h1
    rw [← getDW hj, ← getDW hk] at this
    exact absurd e (h.le _ (getDW_mem hk) _ (h.wd _ (getDW_mem hj)) this)
  · exact h1
  · have := hs k j hk hj h1
    rw [← getDW hj, ← getDW hk] at this
    exact absurd e.symm (h.le _ (getDW_mem hj) _ (h.wd _ (getDW_mem hk)) this)
/-- The automaton whose states are the least words. -/
structure Can {κ : Type} (f : List Int → κ) (L : List Int → Bool) (i : Nat) (N : List (List Int)) (A : List Bool) (W : List (List Int)) : Prop where
  cw : Cw f i W
  nl : N.length = W.length
  al : A.length = W.length
  rl : ∀ k, k < W.length → (N.getD k []).length = i
  rx : ∀ k x, k < W.length → x < i → ∃ j : Nat, j < W.length ∧ (N.getD k []).getD x 0 = (j : Int) ∧ f (W.getD j []) = f (W.getD k [] ++ [(x : Int)])
  ac : ∀ k, k < W.length → A.getD k false = L (W.getD k [])
theorem list_ext_d {β : Type} {l k : List β} (d : β) (h1 : l.length = k.length) (h : ∀ s, s < l.length → l.getD s d = k.getD s d) : l = k := by
  apply List.ext_getElem h1
  intro s h2 h3
  have := h s h2
  rw [List.getD_eq_getElem?_getD, List.getD_eq_getElem?_getD, List.getElem?_eq_getElem h2, List.getElem?_eq_getElem h3] at this
  exact this
theorem Can.uniq {κ μ : Type} {f : List Int → κ} {g : List Int → μ} {L K : List Int → Bool} {i : Nat} {N M : List (List Int)} {A B : List Bool} {W V : List (List Int)} (h : Can f L i N A W) (k : Can g K i M B V)
    (e : ∀ u v, Wd i u → Wd i v → (f u = f v ↔ g u = g v)) (hl : ∀ u, Wd i u → L u = K u) : N = M ∧ A = B ∧ W = V := by
  have hW := h.cw.uniq k.cw e
  subst hW
  refine ⟨list_ext_d [] (by rw [h.nl, k.nl]) fun s hs => list_ext_d 0 ?_ fun x hx => ?_, list_ext_d false (by rw [h.al, k.al]) fun s hs => ?_, rfl⟩
  · rw [h.nl] at hs
    rw [h.rl s hs, k.rl s hs]
  · rw [h.nl] at hs
    rw [h.rl s hs] at hx
    obtain ⟨a, ha, e1, e2⟩ := h.rx s x hs hx
    obtain ⟨b, hb, e3, e4⟩ := k.rx s x hs hx
    have hw : Wd i (W.getD s [] ++ [(x : Int)]) := (h.cw.wd _ (getDW_mem hs)).app (Wd.one hx)
    have e5 : f (W.getD b []) = f (W.getD s [] ++ [(x : Int)]) := (e _ _ (h.cw.wd _ (getDW_mem hb)) hw).2 e4
    have e6 := h.cw.inj ha hb (e2.trans e5.symm)
    rw [e1, e3, e6]
  · rw [h.al] at hs
    rw [h.ac s hs, k.ac s hs, hl _ (h.cw.wd _ (getDW_mem hs))]
section
variable {F : Nat × Nat → Nat → Nat × Nat} {i n m s t : Nat} {E : List Ent}
/-- The rows and the truth values of the automaton of a search. -/
def autN (F : Nat × Nat → Nat → Nat × Nat) (i : Nat) (E : List Ent) : List (List Int) := E.map fun e => (List.range i).map fun x => ((plE E (F e.pr x) : Nat) : Int)
def autA (acc : Nat × Nat → Bool) (E : List Ent) : List Bool := E.map fun e => acc e.pr
theorem getD_mapE {β : Type} (g : Ent → β) (d : β) {k : Nat} (h : k < E.length) : (E.map g).getD k d = g (E.getD k Ent.zero) := by
  rw [List.getD_eq_getElem?_getD, List.getElem?_map, List.getElem?_eq_getElem h, getDE_at h]; rfl
theorem autN_row (F : Nat × Nat → Nat → Nat × Nat) (i : Nat) {k : Nat} (h : k < E.length) : (autN F i E).getD k [] = (List.range i).map fun x => ((plE E (F (E.getD k Ent.zero).pr x) : Nat) : Int) := getD_mapE _ _ h
theorem autN_at {k x : Nat} (h : k < E.length) (hx : x < i) : ((autN F i E).getD k []).getD x 0 = ((plE E (F (E.getD k Ent.zero).pr x) : Nat) : Int) := by
  rw [autN_row F i h, List.getD_eq_getElem?_getD, List.getElem?_map, List.getElem?_range hx]; rfl
theorem autN_nN {k x : Nat} (h : k < E.length) (hx : x < i) : nN (autN F i E) k x = plE E (F (E.getD k Ent.zero).pr x) := by
  unfold nN
  rw [autN_at h hx, Int.toNat_natCast]
theorem autA_at (acc : Nat × Nat → Bool) {k : Nat} (h : k < E.length) : (autA acc E).getD k false = acc (E.getD k Ent.zero).pr := getD_mapE _ _ h
theorem mem_pr {k : Nat} (h : k < E.length) : (E.getD k Ent.zero).pr ∈ E.map Ent.pr := List.mem_map.2 ⟨_, getDE_mem h, rfl⟩
theorem Ens.inj (h : Ens n m s t E) {j k : Nat} (hj : j < E.length) (hk : k < E.length) (e : (E.getD j Ent.zero).pr = (E.getD k Ent.zero).pr) : j = k := by
  have hs := List.pairwise_iff_getElem.1 h.nd
  have hg : ∀ l (hl : l < E.length), (E.map Ent.pr)[l]'(by simpa using hl) = (E.getD l Ent.zero).pr := fun l hl => by rw [List.getElem_map, getDE_at hl]
  rcases Nat.lt_trichotomy j k with h1 | h1 | h1
  · exact absurd ((hg j hj).trans (e.trans (hg k hk).symm)) (hs j k (by simpa using hj) (by simpa using hk) h1)
  · exact h1
  · exact absurd ((hg k hk).trans (e.symm.trans (hg j hj).symm)) (hs k j (by simpa using hk) (by simpa using hj) h1)
theorem Ens.pl (h : Ens n m s t E) {k : Nat} (hk : k < E.length) : plE E (E.getD k Ent.zero).pr = k :=
  h.inj (plE_lt (mem_pr hk)) hk (plE_at (mem_pr hk))
theorem OrdG.has (h : OrdG F i s t (E.length * i) E) {u : List Int} (hu : Wd i u) : runF F (s, t) u ∈ E.map Ent.pr := by
  obtain ⟨c, hc, e⟩ := h.all u.length u (Nat.le_refl _) hu
  rw [← e]
  exact mem_pr hc
theorem OrdG.word (h : OrdG F i s t (E.length * i) E) {k : Nat} (hk : k < E.length) : Wd i (E.getD k Ent.zero).w ∧ runF F (s, t) (E.getD k Ent.zero).w = (E.getD k Ent.zero).pr := h.gd _ (getDE_mem hk)
theorem OrdG.sorted (h : OrdG F i s t (E.length * i) E) (hE : Ens n m s t E) {j k : Nat} (hj : j < k) (hk : k < E.length) : SL (E.getD j Ent.zero).w (E.getD k Ent.zero).w := by
  obtain ⟨w1, e1⟩ := h.word (show j < E.length by omega)
  obtain ⟨w2, e2⟩ := h.word hk
  rcases SL_tri (u := (E.getD j Ent.zero).w) (v := (E.getD k Ent.zero).w) with h1 | h1 | h1
  · exact h1
  · rw [h1, e2] at e1
    have := hE.inj hk (show j < E.length by omega) e1
    omega
  · obtain ⟨c, hc, e3⟩ := h.before _ _ j (Nat.le_refl _) (by omega) w2 h1
    rw [e2] at e3
    have := hE.inj (show c < E.length by omega) hk e3
    omega
theorem OrdG.least (h : OrdG F i s t (E.length * i) E) (hE : Ens n m s t E) {k : Nat} (hk : k < E.length) {u : List Int} (hu : Wd i u) (hs : SL u (E.getD k Ent.zero).w) : plE E (runF F (s, t) u) < k := by
  obtain ⟨c, hc, e⟩ := h.before _ u k (Nat.le_refl _) hk hu hs
  rw [← e, hE.pl (by omega)]
  exact hc
theorem fdG_can (acc : Nat × Nat → Bool) (hF : Stp F i n m) (hs : s < n) (ht : t < m) (hEq : E = fdG F i n m s t) :
    Can (runF F (s, t)) (fun u => acc (runF F (s, t) u)) i (autN F i E) (autA acc E) (E.map Ent.w) := by
  have hO : OrdG F i s t (E.length * i) E := by rw [hEq]; exact fdG_ord hF hs ht
  have hE : Ens n m s t E := by rw [hEq]; exact fdG_ens hF hs ht
  have hw : ∀ k, k < E.length → (E.map Ent.w).getD k [] = (E.getD k Ent.zero).w := fun k hk => getD_mapE Ent.w [] hk
  have hmem : ∀ v, v ∈ E.map Ent.w → ∃ k, k < E.length ∧ v = (E.getD k Ent.zero).w := fun v hv => by
    obtain ⟨k, hk, e⟩ := List.getElem_of_mem hv
    have hk2 : k < E.length := by simpa using hk
    exact ⟨k, hk2, by rw [← hw k hk2, getDW hk, e]⟩
  refine ⟨⟨fun u hu => ?_, ?_, fun v hv u hu hsl => ?_, fun u hu => ?_⟩, by simp [autN], by simp [autA], fun k hk => ?_, fun k x hk hx => ?_, fun k hk => ?_⟩
  · obtain ⟨k, hk, rfl⟩ := hmem u hu
    exact (hO.word hk).1
  · rw [List.pairwise_iff_getElem]
    intro a b ha hb hab
    rw [← getDW ha, ← getDW hb, hw a (by simpa using ha), hw b (by simpa using hb)]
    exact hO.sorted hE hab (by simpa using hb)
  · obtain ⟨k, hk, rfl⟩ := hmem v hv
    intro e
    have h1 := hO.least hE hk hu hsl
    rw [e, (hO.word hk).2, hE.pl hk] at h1
    omega
  · have h1 := hO.has hu
    have h2 := plE_lt h1
    exact ⟨(E.getD (plE E (runF F (s, t) u)) Ent.zero).w, List.mem_map.2 ⟨_, getDE_mem h2, rfl⟩, by rw [(hO.word h2).2, plE_at h1]⟩
  · rw [List.length_map] at hk
    rw [autN_row F i hk]; simp
  · rw [List.length_map] at hk ⊢
    obtain ⟨w1, e1⟩ := hO.word hk
    have h1 : F (E.getD k Ent.zero).pr x = runF F (s, t) ((E.getD k Ent.zero).w ++ [(x : Int)]) := by rw [runF_app, e1]; rfl
    have h2 := hO.has (w1.app (Wd.one hx))
    rw [← h1] at h2
    have h3 := plE_lt h2
    refine ⟨plE E (F (E.getD k Ent.zero).pr x), h3, autN_at hk hx, ?_⟩
    rw [hw _ h3, hw _ hk, (hO.word h3).2, plE_at h2, h1]
  · rw [List.length_map] at hk
    rw [autA_at acc hk, hw _ hk]
    show _ = acc (runF F (s, t) (E.getD k Ent.zero).w)
    rw [(hO.word hk).2]
/-- What a word reaches in the automaton of a search. -/
theorem aut_run (hF : Stp F i n m) (hE : Ens n m s t E) (hO : OrdG F i s t (E.length * i) E) : ∀ (u : List Int) (k : Nat), k < E.length → Wd i u → runS (autN F i E) k u < E.length ∧ (E.getD (runS (autN F i E) k u) Ent.zero).pr = runF F (E.getD k Ent.zero).pr u
  | [], k, hk, _ => ⟨hk, rfl⟩
  | x :: u, k, hk, hu => by
    obtain ⟨a, rfl, ha⟩ := hu.head
    obtain ⟨w1, e1⟩ := hO.word hk
    have h1 : F (E.getD k Ent.zero).pr a = runF F (s, t) ((E.getD k Ent.zero).w ++ [(a : Int)]) := by rw [runF_app, e1]; rfl
    have h2 := hO.has (w1.app (Wd.one ha))
    rw [← h1] at h2
    have h3 := plE_lt h2
    have ih := aut_run hF hE hO u (plE E (F (E.getD k Ent.zero).pr a)) h3 hu.tail
    have e2 : runS (autN F i E) k ((a : Int) :: u) = runS (autN F i E) (plE E (F (E.getD k Ent.zero).pr a)) u := by
      show runS (autN F i E) (nN (autN F i E) k ((a : Int)).toNat) u = _
      rw [Int.toNat_natCast, autN_nN hk ha]
    rw [e2]
    refine ⟨ih.1, ?_⟩
    rw [ih.2, plE_at h2]
    show _ = runF F (F (E.getD k Ent.zero).pr ((a : Int)).toNat) u
    rw [Int.toNat_natCast]
theorem aut_acc (acc : Nat × Nat → Bool) (hF : Stp F i n m) (hE : Ens n m s t E) (hO : OrdG F i s t (E.length * i) E) {u : List Int} (hu : Wd i u) : (autA acc E).getD (runS (autN F i E) 0 u) false = acc (runF F (s, t) u) := by
  obtain ⟨h1, h2⟩ := aut_run hF hE hO u 0 hO.ne hu
  rw [autA_at acc h1, h2]
  rw [show (E.getD 0 Ent.zero).pr = (s, t) from Prod.ext hO.zp.1 hO.zp.2]
end
end Go.Proofs.Ythjnghldedfdoaa
end

section
/- The minimal machine. -/
namespace Go.Proofs.Ythjnghldedfdoaa

theorem getD_map {α β : Type} (g : α → β) (l : List α) (d : α) (e : β) {j : Nat} (h : j < l.length) : (l.map g).getD j e = g (l.getD j d) := by
  rw [List.getD_eq_getElem?_getD, List.getElem?_map, List.getD_eq_getElem?_getD, List.getElem?_eq_getElem h]; rfl
theorem qN_row (nx : List (List Int)) (i : Nat) (f : Nat → Nat) {n j : Nat} (h : j < (reps f n).length) : (qN nx i f n).getD j [] = qR nx i f ((reps f n).getD j 0) := getD_map _ _ 0 _ h
theorem qO_row (ot : List (List Int)) (f : Nat → Nat) {n j : Nat} (h : j < (reps f n).length) : (qO ot f n).getD j [] = ot.getD ((reps f n).getD j 0) [] := by unfold qO; exact getD_map _ _ 0 _ h
theorem reps_get_lt (f : Nat → Nat) {n j : Nat} (h : j < (reps f n).length) : (reps f n).getD j 0 < n := reps_lt f n (getD_mem h)
theorem nmb_lt_reps (f : Nat → Nat) {n s : Nat} (h : s < n) : nmb f s < (reps f n).length := by rw [reps_len]; exact nmb_lt f h
theorem Mok.quot {i st n : Nat} {nx ot : List (List Int)} (hM : Mok i st n nx ot) (f : Nat → Nat) : Mok i (nmb f st) (reps f n).length (qN nx i f n) (qO ot f n) where
  i1 := hM.i1
  i2 := hM.i2
  n1 := by have := nmb_lt_reps f hM.st; omega
  n2 := by have := reps_le f n; have := hM.n2; omega
  st := nmb_lt_reps f hM.st
  nxl := qN_len _ _ _ _
  otl := qO_len _ _ _
  row := fun s hs => by
    have hr := reps_get_lt f hs
    rw [qN_row _ _ _ hs, qO_row _ _ hs]
    obtain ⟨h1, h2, h3⟩ := hM.row _ hr
    refine ⟨qR_len _ _ _ _, h2, fun a ha => ?_⟩
    rw [qR_at ha]
    have h4 := nmb_lt_reps f (hM.nN_lt hr ha)
    have h5 := h3 a ha
    exact ⟨by omega, by omega, h5.2.2.1, h5.2.2.2⟩
/-- The classes of equivalent states. -/
def eqc (nx ot : List (List Int)) (i n : Nat) : Nat → Nat := cN nx ot i n (dep nx ot i n)
/-- The tables of the minimal machine, and the states of the machine of classes that it has. -/
def mnR (nx ot : List (List Int)) (i st n : Nat) : List Nat := rch (qN nx i (eqc nx ot i n) n) i (nmb (eqc nx ot i n) st)
def mnN (nx ot : List (List Int)) (i st n : Nat) : List (List Int) := trN (qN nx i (eqc nx ot i n) n) i (mnR nx ot i st n)
def mnO (nx ot : List (List Int)) (i st n : Nat) : List (List Int) := trO (qO ot (eqc nx ot i n) n) (mnR nx ot i st n)
theorem Mok.mnR_len {i st n : Nat} {nx ot : List (List Int)} (hM : Mok i st n nx ot) : (mnR nx ot i st n).length ≤ n := by
  have h1 := (hM.quot (eqc nx ot i n)).rch_stt.len
  have h2 := reps_le (eqc nx ot i n) n
  unfold mnR
  omega
end Go.Proofs.Ythjnghldedfdoaa
end

section
/- Automata: what is valid, what a word reaches. -/
namespace Go.Proofs.Ythjnghldedfdoaa

/-- The errors of the rows of an automaton, in their order. -/
def rowD (i n : Int) (r : List Int) : Int := if (r.length : Int) = i then (if ∀ m, m < r.length → 0 ≤ r.getD m 0 ∧ r.getD m 0 < n then 0 else 2) else 1
def vldD (i st : Int) (nx : List (List Int)) (ac : List Bool) : Int :=
  if 1 ≤ i ∧ i ≤ 1024 then (if nx.length = 0 then 19 else if 128 < nx.length then 11 else if 0 ≤ st ∧ st < nx.length then (if ac.length = nx.length then fstE (fun s => rowD i nx.length (nx.getD s [])) nx.length else 1) else 2) else 2
structure Dok (i st n : Nat) (nx : List (List Int)) (ac : List Bool) : Prop where
  i1 : 1 ≤ i
  i2 : i ≤ 1024
  n1 : 0 < n
  n2 : n ≤ 128
  st : st < n
  nxl : nx.length = n
  acl : ac.length = n
  row : ∀ s, s < n → (nx.getD s []).length = i ∧ ∀ a, a < i → 0 ≤ (nx.getD s []).getD a 0 ∧ (nx.getD s []).getD a 0 < n
theorem rowD_ok {i n : Int} {r : List Int} (h : (r.length : Int) = i) (h2 : ∀ m, m < r.length → 0 ≤ r.getD m 0 ∧ r.getD m 0 < n) : rowD i n r = 0 := by unfold rowD; rw [if_pos h, if_pos h2]
theorem rowD_len {i n : Int} {r : List Int} (h : ¬ (r.length : Int) = i) : rowD i n r = 1 := by unfold rowD; rw [if_neg h]
theorem rowD_bad {i n : Int} {r : List Int} (h : (r.length : Int) = i) {k : Nat} (hk : k < r.length) (h2 : ¬ (0 ≤ r.getD k 0 ∧ r.getD k 0 < n)) : rowD i n r = 2 := by
  unfold rowD; rw [if_pos h, if_neg fun h9 => h2 (h9 k hk)]
theorem vldD_in {i st : Int} {nx : List (List Int)} {ac : List Bool} (h : ¬ (1 ≤ i ∧ i ≤ 1024)) : vldD i st nx ac = 2 := if_neg h
theorem vldD_empty {i st : Int} {nx : List (List Int)} {ac : List Bool} (h : 1 ≤ i ∧ i ≤ 1024) (h0 : nx.length = 0) : vldD i st nx ac = 19 := by unfold vldD; rw [if_pos h, if_pos h0]
theorem vldD_many {i st : Int} {nx : List (List Int)} {ac : List Bool} (h : 1 ≤ i ∧ i ≤ 1024) (h0 : 128 < nx.length) : vldD i st nx ac = 11 := by unfold vldD; rw [if_pos h, if_neg (by omega), if_pos h0]
theorem vldD_start {i st : Int} {nx : List (List Int)} {ac : List Bool} (h : 1 ≤ i ∧ i ≤ 1024) (h0 : ¬ nx.length = 0) (h1 : ¬ 128 < nx.length) (h2 : ¬ (0 ≤ st ∧ st < nx.length)) : vldD i st nx ac = 2 := by unfold vldD; rw [if_pos h, if_neg h0, if_neg h1, if_neg h2]
theorem vldD_acc {i st : Int} {nx : List (List Int)} {ac : List Bool} (h : 1 ≤ i ∧ i ≤ 1024) (h0 : ¬ nx.length = 0) (h1 : ¬ 128 < nx.length) (h2 : 0 ≤ st ∧ st < nx.length) (h3 : ¬ ac.length = nx.length) : vldD i st nx ac = 1 := by unfold vldD; rw [if_pos h, if_neg h0, if_neg h1, if_pos h2, if_neg h3]
theorem vldD_rows {i st : Int} {nx : List (List Int)} {ac : List Bool} (h : 1 ≤ i ∧ i ≤ 1024) (h0 : ¬ nx.length = 0) (h1 : ¬ 128 < nx.length) (h2 : 0 ≤ st ∧ st < nx.length) (h3 : ac.length = nx.length) : vldD i st nx ac = fstE (fun s => rowD i nx.length (nx.getD s [])) nx.length := by unfold vldD; rw [if_pos h, if_neg h0, if_neg h1, if_pos h2, if_pos h3]
theorem vldD_zero {i st : Int} {nx : List (List Int)} {ac : List Bool} (h : vldD i st nx ac = 0) : ∃ i' st' n : Nat, i = i' ∧ st = st' ∧ Dok i' st' n nx ac := by
  by_cases h1 : 1 ≤ i ∧ i ≤ 1024
  · by_cases h2 : nx.length = 0
    · rw [vldD_empty h1 h2] at h; omega
    · by_cases h3 : 128 < nx.length
      · rw [vldD_many h1 h3] at h; omega
      · by_cases h4 : 0 ≤ st ∧ st < nx.length
        · by_cases h5 : ac.length = nx.length
          · rw [vldD_rows h1 h2 h3 h4 h5] at h
            refine ⟨i.toNat, st.toNat, nx.length, by omega, by omega, ⟨by omega, by omega, by omega, by omega, by omega, rfl, h5, fun s hs => ?_⟩⟩
            have h6 := fstE_zero h s hs
            by_cases h7 : ((nx.getD s []).length : Int) = i
            · by_cases h8 : ∀ m, m < (nx.getD s []).length → 0 ≤ (nx.getD s []).getD m 0 ∧ (nx.getD s []).getD m 0 < (nx.length : Int)
              · exact ⟨by omega, fun a ha => h8 a (by omega)⟩
              · unfold rowD at h6
                rw [if_pos h7, if_neg h8] at h6
                omega
            · rw [rowD_len h7] at h6; omega
          · rw [vldD_acc h1 h2 h3 h4 h5] at h; omega
        · rw [vldD_start h1 h2 h3 h4] at h; omega
  · rw [vldD_in h1] at h; omega
section
variable {i st n : Nat} {nx : List (List Int)} {ac : List Bool}
theorem Dok.vld (h : Dok i st n nx ac) : vldD i st nx ac = 0 := by
  have h1 := h.i1
  have h2 := h.i2
  have h3 := h.n1
  have h4 := h.n2
  have h5 := h.st
  have h6 := h.nxl
  rw [vldD_rows (by omega) (by omega) (by omega) (by omega) (by rw [h.acl, h.nxl])]
  refine fstE_ok fun s hs => ?_
  obtain ⟨r1, r2⟩ := h.row s (by omega)
  exact rowD_ok (by omega) fun m hm => by have := r2 m (by omega); omega
theorem Dok.nN_lt (h : Dok i st n nx ac) {s a : Nat} (hs : s < n) (ha : a < i) : nN nx s a < n := by
  have := (h.row s hs).2 a ha
  unfold nN
  omega
theorem Dok.nN_eq (h : Dok i st n nx ac) {s a : Nat} (hs : s < n) (ha : a < i) : (nx.getD s []).getD a 0 = (nN nx s a : Int) := by
  have := (h.row s hs).2 a ha
  unfold nN
  omega
theorem Dok.runS_lt (h : Dok i st n nx ac) : ∀ (u : List Int) (s : Nat), s < n → (∀ x, x ∈ u → 0 ≤ x ∧ x < i) → runS nx s u < n
  | [], s, hs, _ => hs
  | x :: u, s, hs, hu => by
    obtain ⟨y, rfl⟩ : ∃ y : Nat, x = y := ⟨x.toNat, by have := hu x (by simp); omega⟩
    have hy := hu (y : Int) (by simp)
    show runS nx (nN nx s ((y : Int)).toNat) u < n
    rw [Int.toNat_natCast]
    exact h.runS_lt u _ (h.nN_lt hs (by omega)) fun z hz => hu z (by simp [hz])
end
/-- Does a state accept? -/
def aN (ac : List Bool) (s : Nat) : Bool := ac.getD s false
/-- What Accepts answers. -/
def accD (i st : Int) (nx : List (List Int)) (ac : List Bool) (u : List Int) : Bool × Int :=
  if vldD i st nx ac = 0 then (if chk u i = 0 then (aN ac (runS nx st.toNat u), 0) else (false, chk u i)) else (false, vldD i st nx ac)
end Go.Proofs.Ythjnghldedfdoaa
end
