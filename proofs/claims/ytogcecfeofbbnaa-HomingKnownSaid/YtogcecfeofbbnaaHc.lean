/- Lemmas of the proofs of this seat, of the parts Kept, OwnL, Trimm, Boxm, Haft, Pairi, Hall, Hout, OwnG, Hadd, Hbeg, Hspl, Hgaf, Nmbp, Ptp. Conditions: none. -/
import Derived.Test.YtogcecfeofbbnaaHa
import Derived.Lib.SliceRun
import Derived.Maps.AppendAt
import Derived.Test.YtogcecfeofbbnaaHb
import Derived.Laws.CopyOwn
section
/- Blocks that are as they were: of a type, all but one; rows apart. -/
namespace Go.Proofs.Ytogcecfeofbbnaa
open Go.RowKit

/-- The blocks of a type are as they were. -/
def KeptT (t : TypeId) (w w' : World) : Prop := ∀ (g : Nat) (cs : Array Value), w.heap[g]? = some (.cells cs t (0, 0)) → w'.heap[g]? = some (.cells cs t (0, 0))
theorem heap_lt {w : World} {g : Nat} {o : Obj} (h : w.heap[g]? = some o) : g < w.heap.size := by
  rcases Nat.lt_or_ge g w.heap.size with hlt | hge
  · exact hlt
  · rw [Array.getElem?_eq_none hge] at h; cases h
theorem KeptT.refl (t : TypeId) (w : World) : KeptT t w w := fun _ _ h => h
theorem KeptT.trans {t : TypeId} {a b c : World} (h : KeptT t a b) (k : KeptT t b c) : KeptT t a c := fun g cs e => k g cs (h g cs e)
theorem KeptT.of_below {t : TypeId} {w w' : World} (h : Below w.heap.size w w') : KeptT t w w' := fun g _ e => (h.block g (heap_lt e)).trans e
theorem KeptT.drewN (t : TypeId) (w : World) (q : Nat) : KeptT t w (w.drewN q) := fun _ _ h => h
theorem KeptT.off {t t' : TypeId} {w : World} {g k : Nat} {cs : Array Value} (hg : w.heap[g]? = some (.cells cs t' (0, 0))) (ht : t ≠ t') (u : Value) : KeptT t w (w.setCell ⟨g, k, none⟩ u) := fun g' cs' e => by
  rw [heap_setCell_other _ _ _ _ ?_]
  · exact e
  · show g' ≠ g
    intro e2
    subst e2
    rw [hg] at e
    injection e with e
    injection e with _ h2 _
    exact ht h2.symm
theorem KeptT.grown {t t' : TypeId} {w w' : World} {base size n : Nat} {v : Value} {xs : List Value} (h : w.grownBy w' v.ownBlock) (ho : w.ownsRow base t' size v n xs) (ht : t ≠ t') : KeptT t w w' := fun g cs e => by
  rw [h.block g (heap_lt e) ?_]
  · exact e
  · intro e2
    rcases ho.2 with ⟨rfl, _⟩ | ⟨g', cap, cur, rfl, _, hh, _⟩
    · cases e2
    · have : g = g' := by simpa [Value.ownBlock] using e2
      subst this
      rw [e] at hh
      injection hh with hh
      injection hh with _ h2 _
      exact ht h2

theorem Owned.keptT {w w' : World} {base : Nat} {v : Value} {xs : List Int} (h : Owned w base v xs) (hk : KeptT 3 w w') : Owned w' base v xs := by
  refine ⟨h.1, ?_⟩
  rcases h.2 with e | ⟨g, cap, cur, hv, hbg, hg, r⟩
  · exact .inl e
  · exact .inr ⟨g, cap, cur, hv, hbg, hk g cur hg, r⟩

theorem infol : (Try.prog.info? 27).map (fun i => (i.zero, i.size, i.bytes)) = some (some (.slice none 0 0), 1, 24) := by kernel_rfl

/-- All blocks but one are as they were. -/
def KeptB (r : Option Nat) (w w' : World) : Prop := ∀ (g : Nat) (o : Obj), w.heap[g]? = some o → r ≠ some g → w'.heap[g]? = some o
/-- Two rows lie in different blocks. -/
def Apart (v u : Value) : Prop := ∀ g, v.ownBlock = some g → u.ownBlock ≠ some g
theorem Apart.nil (u : Value) : Apart (.slice none 0 0) u := fun g h => by simp [Value.ownBlock] at h
theorem Apart.symm {v u : Value} (h : Apart v u) : Apart u v := fun g h1 h2 => h g h2 h1
/-- append turns a row's block or makes a new one. -/
def Moved (w : World) (v v' : Value) : Prop := v'.ownBlock = v.ownBlock ∨ ∃ g, w.heap.size ≤ g ∧ v'.ownBlock = some g
end Go.Proofs.Ytogcecfeofbbnaa
end

section
/- Rows of lists that a call owns: what they read as; append of a list. -/
namespace Go.Proofs.Ytogcecfeofbbnaa
open Go.RowKit

/-- The slice value v is a row of lists in blocks from base on, which the call may write. -/
def OwnedL (w : World) (base : Nat) (v : Value) (xss : List (List Int)) : Prop :=
  ∃ vs : List Value, w.ownsRow base 27 1 v xss.length vs ∧ ∀ j, j < xss.length → ∃ A c, vs[j]? = some (.slice A (xss.getD j []).length c) ∧ Owned w base (.slice A (xss.getD j []).length c) (xss.getD j [])

theorem OwnedL.nil (w : World) (base : Nat) : OwnedL w base (.slice none 0 0) [] := ⟨[], World.ownsRow_nil _ _ _ _, fun j h => absurd h (by simp)⟩
theorem OwnedL.form {w : World} {base : Nat} {v : Value} {xss : List (List Int)} (h : OwnedL w base v xss) : ∃ A c, v = .slice A xss.length c := by
  obtain ⟨vs, h, _⟩ := h
  rcases h.2 with ⟨rfl, h0⟩ | ⟨g, cap, cur, rfl, _⟩
  · have : xss.length = 0 := h0
    exact ⟨none, 0, by rw [this]⟩
  · exact ⟨_, _, rfl⟩
theorem OwnedL.keptT {w w' : World} {base : Nat} {v : Value} {xss : List (List Int)} (h : OwnedL w base v xss) (hk : KeptT 3 w w') (hl : KeptT 27 w w') : OwnedL w' base v xss := by
  obtain ⟨vs, h, hr⟩ := h
  refine ⟨vs, ⟨h.1, ?_⟩, fun j hj => ?_⟩
  · rcases h.2 with e | ⟨g, cap, cur, hv, hbg, hg, r⟩
    · exact .inl e
    · exact .inr ⟨g, cap, cur, hv, hbg, hl g cur hg, r⟩
  · obtain ⟨A, c, h1, h2⟩ := hr j hj
    exact ⟨A, c, h1, h2.keptT hk⟩
theorem OwnedL.kept {w w' : World} {base : Nat} {v : Value} {xss : List (List Int)} (h : OwnedL w base v xss) (hb : Below w.heap.size w w') : OwnedL w' base v xss := h.keptT (KeptT.of_below hb) (KeptT.of_below hb)
theorem OwnedL.lower {w : World} {base base' : Nat} {v : Value} {xss : List (List Int)} (h : OwnedL w base v xss) (hb : base' ≤ base) : OwnedL w base' v xss := by
  obtain ⟨vs, h, hr⟩ := h
  refine ⟨vs, ⟨h.1, ?_⟩, fun j hj => ?_⟩
  · rcases h.2 with e | ⟨g, cap, cur, hv, hbg, r⟩
    · exact .inl e
    · exact .inr ⟨g, cap, cur, hv, by omega, r⟩
  · obtain ⟨A, c, h1, h2⟩ := hr j hj
    exact ⟨A, c, h1, h2.lower hb⟩
theorem OwnedL.lists {w : World} {base : Nat} {A : Option Addr} {n c : Nat} {xss : List (List Int)} (h : OwnedL w base (.slice A n c) xss) (hm : xss.length ≤ 17592186044416) (hr : ∀ xs, xs ∈ xss → xs.length ≤ 17592186044416) : Lists w A n xss := by
  have hn : n = xss.length := by obtain ⟨A', c', e⟩ := h.form; cases e; rfl
  subst hn
  obtain ⟨vs, ho, hv⟩ := h
  refine ⟨rfl, hm, fun h0 => ?_⟩
  rcases ho.2 with ⟨e, h1⟩ | ⟨g, cap, cur, e, _, hg, _⟩
  · have : xss.length = 0 := h1
    omega
  · cases e
    refine ⟨g, 0, rfl, heap_lt hg, fun j hj => ?_⟩
    obtain ⟨A, c, h1, h2⟩ := hv j hj
    have h3 := World.ownsRow.cellAt ho j (by omega)
    refine ⟨A, _, c, ?_, h2.ints (hr _ ?_)⟩
    · rw [Nat.zero_add, h3, h1]
    · rw [List.getD_eq_getElem?_getD, List.getElem?_eq_getElem hj]; exact List.getElem_mem _

theorem OwnedL.lt {w : World} {base : Nat} {v : Value} {xss : List (List Int)} (h : OwnedL w base v xss) : ∀ k, v.ownBlock = some k → base ≤ k ∧ k < w.heap.size := by
  obtain ⟨vs, ho, _⟩ := h
  exact World.ownsRow.lt ho
theorem OwnedL.keptB {w w' : World} {base : Nat} {u v : Value} {xss : List (List Int)} (h : OwnedL w base v xss) (hk : KeptB u.ownBlock w w') (ha : Apart u v) (hi : KeptT 3 w w') : OwnedL w' base v xss := by
  obtain ⟨vs, ho, hr⟩ := h
  refine ⟨vs, ⟨ho.1, ?_⟩, fun j hj => ?_⟩
  · rcases ho.2 with e | ⟨g, cap, cur, hv, hbg, hg, r⟩
    · exact .inl e
    · exact .inr ⟨g, cap, cur, hv, hbg, hk g _ hg (fun e => ha g e (by rw [hv]; rfl)), r⟩
  · obtain ⟨A, c, h1, h2⟩ := hr j hj
    exact ⟨A, c, h1, h2.keptT hi⟩
theorem Apart.moved {w : World} {base : Nat} {v v' u : Value} {xss : List (List Int)} (h : Apart v u) (hm : Moved w v v') (hu : OwnedL w base u xss) : Apart v' u := by
  rcases hm with e | ⟨g, hg, e⟩
  · intro k hk; rw [e] at hk; exact h k hk
  · intro k hk h2
    rw [e] at hk
    injection hk with hk
    have := (hu.lt k h2).2
    omega

/-- append of one list to a row of lists. -/
theorem run_append_list {w : World} {base : Nat} {v : Value} {xss : List (List Int)} {B : Option Addr} {m d : Nat} {xs : List Int} (h : OwnedL w base v xss) (hx : Owned w base (.slice B m d) xs) (hbase : base ≤ w.heap.size) (hl : xss.length < 1759218604441) :
    ∃ A c w', (Builtin.append_ #[22, 22] 22 #[v, .slice (some ⟨w.heap.size, 0, none⟩) 1 1]).run Try.prog (w.alloc (.cells #[.slice B m d] 27)) = .ok (.slice A (xss.length + 1) c) w' ∧
      OwnedL w' base (.slice A (xss.length + 1) c) (xss ++ [xs]) ∧ Below base w w' ∧ (∀ t, t ≠ 27 → KeptT t w w') ∧ KeptB v.ownBlock w w' ∧ Moved w v (.slice A (xss.length + 1) c) := by
  obtain ⟨i, hi, hz0, hz1, hz2⟩ := info_parts infol
  obtain ⟨vs, ho, hv⟩ := h
  have hbz := alloc_below w (.cells #[.slice B m d] 27)
  have ho1 : (w.alloc (.cells #[.slice B m d] 27)).ownsRow base 27 1 v xss.length vs := by
    refine ⟨ho.1, ?_⟩
    rcases ho.2 with e | ⟨g, cap, cur, hv, hbg, hg, r⟩
    · exact .inl e
    · exact .inr ⟨g, cap, cur, hv, hbg, (hbz.block g (heap_lt hg)).trans hg, r⟩
  obtain ⟨v', w', hr, h1, h2, _, hmv⟩ := run_append_own_at (P := Try.prog) (w.alloc (.cells #[.slice B m d] 27)) base 22 22 27 i (.slice none 0 0) 1 24 Try.underlying22 hi hz0 hz1 hz2 rfl (by decide) v _ _ ho1 ⟨w.heap.size, 0, none⟩ 1 1 [.slice B m d] (by simp)
    (by
      intro j u hu
      cases j with
      | zero =>
        simp at hu
        subst hu
        simp [Addr.add]
      | succ j => simp at hu)
    (by intro u hu; simp at hu; subst hu; rfl) (by unfold maxLen; omega) (by omega) (Nat.le_trans hbase hbz.size)
  have hs : ∀ t, t ≠ 27 → KeptT t w w' := fun t ht => (KeptT.of_below hbz).trans (KeptT.grown h2 ho1 ht)
  have hform : ∃ A c, v' = .slice A (xss.length + 1) c := by
    rcases h1.2 with ⟨rfl, h0⟩ | ⟨g, cap, cur, rfl, _⟩
    · have := h1.1; rw [h0] at this; simp at this
    · exact ⟨_, _, rfl⟩
  obtain ⟨A, c, rfl⟩ := hform
  have hkb : KeptB v.ownBlock w w' := fun g o e hne => (h2.block g (Nat.lt_of_lt_of_le (heap_lt e) hbz.size) (fun e2 => hne e2.symm)).trans ((hbz.block g (heap_lt e)).trans e)
  have hmoved : Moved w v (.slice A (xss.length + 1) c) := by
    rcases hmv with e | e
    · exact .inl e
    · exact .inr ⟨_, by simp, e⟩
  have hn : m = xs.length := by obtain ⟨A', c', e⟩ := hx.form; cases e; rfl
  subst hn
  refine ⟨A, c, w', hr, ⟨vs ++ [.slice B xs.length d], by rw [List.length_append]; exact h1, fun j hj => ?_⟩, (hbz.mono hbase).trans ((Below.refl _ _).grown h2 (Nat.le_trans hbase hbz.size) (fun k hk => (World.ownsRow.lt ho1 k hk).1)), hs, hkb, hmoved⟩
  have hvl : vs.length = xss.length := by have := ho.1; omega
  by_cases e : j < xss.length
  · obtain ⟨A2, c2, h3, h4⟩ := hv j e
    have hg : (xss ++ [xs]).getD j [] = xss.getD j [] := by rw [List.getD_eq_getElem?_getD, List.getD_eq_getElem?_getD, List.getElem?_append_left e]
    rw [hg]
    exact ⟨A2, c2, by rw [List.getElem?_append_left (by omega)]; exact h3, h4.keptT (hs _ (by decide))⟩
  · have hjl : j = xss.length := by simp at hj; omega
    subst hjl
    have hg : (xss ++ [xs]).getD xss.length [] = xs := by simp
    rw [hg]
    exact ⟨B, d, by rw [List.getElem?_append_right (by omega), hvl]; simp, hx.keptT (hs _ (by decide))⟩

set_option maxHeartbeats 1000000 in
set_option maxRecDepth 100000 in
/-- Clone of a list. -/
theorem sclone (A : Option Addr) (n c : Nat) (xs : List Int) (w : World) (hx : Ints w A n xs) :
    Calls Try.prog 106 #[.slice A n c] w fun e w' => ∃ A' c', e = .returned (.slice A' n c') ∧ Owned w' w.heap.size (.slice A' n c') xs ∧ Below w.heap.size w w' := by
  have L := Lib.hid hx.1
  have hn := hx.2.1
  cases A with
  | none =>
    have h0 : n = 0 := by
      rcases Nat.eq_zero_or_pos n with h | h
      · exact h
      · obtain ⟨b, off, e, _⟩ := hx.2.2 h; cases e
    subst h0
    obtain rfl : xs = [] := List.eq_nil_of_length_eq_zero L.out
    have he := fun W => Lib.run_eql_slice_nil (P := Try.prog) W 27 3 none 0 c 0 0 Try.underlying27
    go_enter Try.func106, Try.ntmps106
    go_wp2
    go_ret
    exact ⟨none, 0, rfl, Owned.nil _ _, Below.refl _ _⟩
  | some a =>
    have hb0 := alloc_below w (.cells #[] 3)
    have ho := Owned.literal w w.heap.size [] #[] 0 (Nat.le_refl _) rfl rfl (by simp)
    obtain ⟨v', w', hr, ho', _, hb'⟩ := run_append_ints _ _ _ _ _ _ _ c ho (hx.below hb0) hb0.size (by rw [List.nil_append, L.out]; exact hn)
    obtain ⟨A', c', rfl⟩ := ho'.form
    rw [List.nil_append, L.out] at hr ho'
    have hB := Lib.hid (hb0.trans hb')
    have HO := Lib.hid ho'
    clear ho hb0 hb' ho'
    have he := fun W => Lib.run_eql_slice_nil (P := Try.prog) W 27 3 (some a) n c 0 0 Try.underlying27
    go_enter Try.func106, Try.ntmps106
    go_wp2_with (at_builtin; refine Lib.wpList_append_run _ rfl _ _ _ _ rfl _ _ rfl rfl _ _ hr ?_)
    go_ret
    exact ⟨A', c', rfl, HO.out, hB.out⟩
end Go.Proofs.Ytogcecfeofbbnaa
end

section
/- Trim of a machine. -/
namespace Go.Proofs.Ytogcecfeofbbnaa
open Go.RowKit

/-- A block of a machine. -/
def Mblk (w : World) (g : Nat) (a b c d : Value) : Prop := w.heap[g]? = some (.cells #[a, b, c, d] 24 (0, 0))
theorem Mblk.cells {w : World} {g : Nat} {a b c d : Value} (h : Mblk w g a b c d) :
    w.cell? ⟨g, 0, none⟩ = some a ∧ w.cell? ⟨g, 1, none⟩ = some b ∧ w.cell? ⟨g, 2, none⟩ = some c ∧ w.cell? ⟨g, 3, none⟩ = some d ∧ w.frozen? ⟨g, 0, none⟩ = false ∧ w.frozen? ⟨g, 1, none⟩ = false ∧ w.frozen? ⟨g, 2, none⟩ = false ∧ w.frozen? ⟨g, 3, none⟩ = false :=
  ⟨cell_of_row w g 0 _ _ (0, 0) h, cell_of_row w g 1 _ _ (0, 0) h, cell_of_row w g 2 _ _ (0, 0) h, cell_of_row w g 3 _ _ (0, 0) h, frozen_of_row w g 0 _ _ h, frozen_of_row w g 1 _ _ h, frozen_of_row w g 2 _ _ h, frozen_of_row w g 3 _ _ h⟩
theorem Mblk.kept {w w' : World} {g : Nat} {a b c d : Value} (h : Mblk w g a b c d) {k : Nat} (hb : Below k w w') (hg : g < k) : Mblk w' g a b c d := (hb.block g hg).trans h
theorem Mblk.keptT {w w' : World} {g : Nat} {a b c d : Value} (h : Mblk w g a b c d) (hb : KeptT 24 w w') : Mblk w' g a b c d := hb g _ h

/-- A result that lies in memory, a machine, and one more. -/
theorem results_mealy {fn : Func} {p u : Tmp} (h : fn.results = #[.cell p 24, .tmp u]) (tmps : Array Value) (w : World) (g : Nat) (a b c d : Value)
    (hp : tmps.getD p undef = .pointer (some ⟨g, 0, none⟩)) (hg : Mblk w g a b c d) :
    (results fn tmps).run Try.prog w = .ok (.tuple #[.agg #[a, b, c, d], tmps.getD u undef]) w := by
  rw [results_cell_tmp h, hp]
  have hl := run_loadVar_row (P := Try.prog) w g 24 24 #[a, b, c, d] (0, 0) _ hg Try.underlying24 rfl (by kernel_rfl)
  simp [asAddr, hl]
theorem Mblk.set4 {w : World} {g : Nat} {a b c d : Value} (h : Mblk w g a b c d) (a' b' c' d' : Value) :
    Mblk ((((w.setCell ⟨g, 0, none⟩ a').setCell ⟨g, 1, none⟩ b').setCell ⟨g, 2, none⟩ c').setCell ⟨g, 3, none⟩ d') g a' b' c' d' := by
  have h1 := heap_setCell_same w g 0 _ _ a' h
  have h2 := heap_setCell_same _ g 1 _ _ b' h1
  have h3 := heap_setCell_same _ g 2 _ _ c' h2
  have h4 := heap_setCell_same _ g 3 _ _ d' h3
  exact h4

theorem ptrim_bad (i st : Int) (A B : Option Addr) (n c m d : Nat) (nx ot : List (List Int)) (w : World) (hx : Lists w A n nx) (ho : Lists w B m ot) (hv : ¬ vld i st nx ot = 0) :
    Calls Try.prog 80 #[.agg #[.int .i64 i, .int .i64 st, .slice A n c, .slice B m d]] w fun e w' => e = .returned (.tuple #[.agg #[.int .i64 0, .int .i64 0, .slice none 0 0, .slice none 0 0], .int .i64 (vld i st nx ot)]) ∧ Below w.heap.size w w' := by
  have hb0 := alloc_below w (.cells #[.int .i64 i, .int .i64 st, .slice A n c, .slice B m d] 24)
  have hb1 := bt hb0 (alloc_below (w.alloc (.cells #[.int .i64 i, .int .i64 st, .slice A n c, .slice B m d] 24)) (.cells #[.int .i64 0, .int .i64 0, .slice none 0 0, .slice none 0 0] 24))
  have hne : (vld i st nx ot != 0) = true := by simpa using hv
  go_enter Try.func80, Try.ntmps80
  go_wp2_with fail
  refine (pvalid _ _ _ _ _ _ _ _ _ _ _ (hx.below hb1) (ho.below hb1)).mono ?_
  rintro e w1 ⟨rfl, b1⟩
  have hR : Mblk w1 (w.heap.size + 1) (.int .i64 0) (.int .i64 0) (.slice none 0 0) (.slice none 0 0) := by
    refine Mblk.kept ?_ b1 (by simp)
    have := heap_alloc_new (w.alloc (.cells #[.int .i64 i, .int .i64 st, .slice A n c, .slice B m d] 24)) (.cells #[.int .i64 0, .int .i64 0, .slice none 0 0, .slice none 0 0] 24)
    simpa [Mblk] using this
  obtain ⟨c0, c1, c2, c3, f0, f1, f2, f3⟩ := hR.cells
  have HR := Lib.hid hR
  generalize hE : vld i st nx ot = E at hne hv
  have HE := Lib.hid hE
  clear hv hR hE
  go_wp2
  (try simp only [Exit.inBlock, Exit.then])
  refine bodyPost_ret (results_mealy rfl _ _ (w.heap.size + 1) (.int .i64 0) (.int .i64 0) (.slice none 0 0) (.slice none 0 0) rfl (HR.out.set4 _ _ _ _)) rfl ?_
  have hl : ∀ k, w.heap.size ≤ (⟨w.heap.size + 1, k, none⟩ : Addr).block := fun k => Nat.le_succ _
  exact ⟨by rw [HE.out]; rfl, (((((bt hb1 b1).setCell (hl 0) _).setCell (hl 1) _).setCell (hl 2) _).setCell (hl 3) _)⟩

theorem OwnedL.drew {w : World} {base : Nat} {v : Value} {xss : List (List Int)} (h : OwnedL w base v xss) (q : Nat) : OwnedL (w.drewN q) base v xss := h
theorem Mblk.set2 {w : World} {g : Nat} {a b c d : Value} (h : Mblk w g a b c d) (v : Value) : Mblk (w.setCell ⟨g, 2, none⟩ v) g a b v d := heap_setCell_same w g 2 _ _ v h
theorem Mblk.set3 {w : World} {g : Nat} {a b c d : Value} (h : Mblk w g a b c d) (v : Value) : Mblk (w.setCell ⟨g, 3, none⟩ v) g a b c v := heap_setCell_same w g 3 _ _ v h
theorem OwnedL.offM {w : World} {base g j : Nat} {v : Value} {xss : List (List Int)} {a b c d : Value} (h : OwnedL w base v xss) (hM : Mblk w g a b c d) (u : Value) : OwnedL (w.setCell ⟨g, j, none⟩ u) base v xss :=
  h.keptT (KeptT.off hM (by decide) u) (KeptT.off hM (by decide) u)

/-- What a row of lists in a machine's block is behind a call and an append. -/
theorem trim_step {wo w8 w9 : World} {gT k m c9 : Nat} {x y u : Value} {AO A9 : Option Addr} {cO : Nat} {xss yss : List (List Int)} {xs : List Int} (b8 : Below gT wo w8) (hT : Mblk w8 gT x y u (.slice AO k cO)) (hN : OwnedL w8 gT u xss) (hO : OwnedL w8 gT (.slice AO k cO) yss) (hA : Apart u (.slice AO k cO))
    (q8 : Nat) (b9 : Below (w8.drewN q8).heap.size (w8.drewN q8) w9) (ho : Owned w9 (w8.drewN q8).heap.size (.slice A9 m c9) xs) (hk : k < 1759218604441) (hg : gT < w8.heap.size) :
    Mblk w9 gT x y u (.slice AO k cO) ∧ ∃ F : Nat → (Option Addr × Nat) × World, ∀ q, (Builtin.append_ #[22, 22] 22 #[.slice AO k cO, .slice (some ⟨w9.heap.size, 0, none⟩) 1 1]).run Try.prog ((w9.drewN q).alloc (.cells #[.slice A9 m c9] 27)) = .ok (.slice (F q).1.1 (k + 1) (F q).1.2) (F q).2 ∧
      Mblk (F q).2 gT x y u (.slice AO k cO) ∧ OwnedL (F q).2 gT u xss ∧ OwnedL (F q).2 gT (.slice (F q).1.1 (k + 1) (F q).1.2) (yss ++ [xs]) ∧ Apart u (.slice (F q).1.1 (k + 1) (F q).1.2) ∧ Below gT wo (F q).2 := by
  have b9' : Below w8.heap.size w8 w9 := (below_drewN (Below.refl _ _) q8).trans b9
  have hT9 := hT.kept b9' hg
  have hyl : yss.length = k := by obtain ⟨A', c', e⟩ := hO.form; cases e; rfl
  refine ⟨hT9, skol (p := fun q (r : (Option Addr × Nat) × World) => (Builtin.append_ #[22, 22] 22 #[.slice AO k cO, .slice (some ⟨w9.heap.size, 0, none⟩) 1 1]).run Try.prog ((w9.drewN q).alloc (.cells #[.slice A9 m c9] 27)) = .ok (.slice r.1.1 (k + 1) r.1.2) r.2 ∧
      Mblk r.2 gT x y u (.slice AO k cO) ∧ OwnedL r.2 gT u xss ∧ OwnedL r.2 gT (.slice r.1.1 (k + 1) r.1.2) (yss ++ [xs]) ∧ Apart u (.slice r.1.1 (k + 1) r.1.2) ∧ Below gT wo r.2) fun q => ?_⟩
  have hN9 := hN.kept b9'
  obtain ⟨A', c', w', h1, h2, h3, h4, h5, h6⟩ := run_append_list ((hO.kept b9').drew q) ((ho.lower (base' := gT) (Nat.le_of_lt hg)).drew q) (by have := b9'.size; show gT ≤ w9.heap.size; omega) (by omega)
  rw [hyl] at h1 h2 h6
  have hT9q : Mblk (w9.drewN q) gT x y u (.slice AO k cO) := hT9
  exact ⟨((A', c'), w'), h1, hT9q.keptT (h4 _ (by decide)), (hN9.drew q).keptB h5 hA.symm (h4 _ (by decide)), h2, (hA.symm.moved h6 (hN9.drew q)).symm, b8.trans ((b9'.mono (Nat.le_of_lt hg)).trans ((below_drewN (Below.refl _ _) q).trans h3))⟩

set_option maxHeartbeats 4000000 in
set_option maxRecDepth 100000 in
theorem ptrim_ok (i st n : Nat) (A B : Option Addr) (c d : Nat) (nx ot : List (List Int)) (w : World) (hx : Lists w A n nx) (ho : Lists w B n ot) (hM : Mok i st n nx ot) :
    Calls Try.prog 80 #[.agg #[.int .i64 i, .int .i64 st, .slice A n c, .slice B n d]] w fun e w' => ∃ A' c' B' d',
      e = .returned (.tuple #[.agg #[.int .i64 i, .int .i64 0, .slice A' (rch nx i st).length c', .slice B' (rch nx i st).length d'], .int .i64 0]) ∧
      OwnedL w' w.heap.size (.slice A' (rch nx i st).length c') (trN nx i (rch nx i st)) ∧ OwnedL w' w.heap.size (.slice B' (rch nx i st).length d') (trO ot (rch nx i st)) ∧ Below w.heap.size w w' := by
  have hn := hx.2.1
  have hn128 := hM.n2
  have HV := Lib.hid hM.vld
  have hlo := Lib.hid ho
  obtain ⟨w0, hw0⟩ : ∃ w0, w0 = (w.alloc (.cells #[.int .i64 i, .int .i64 st, .slice A n c, .slice B n d] 24)).alloc (.cells #[.int .i64 0, .int .i64 0, .slice none 0 0, .slice none 0 0] 24) := ⟨_, rfl⟩
  have hb1 : Below w.heap.size w w0 := by rw [hw0]; exact bt (alloc_below _ _) (alloc_below _ _)
  have hz0 : w0.heap.size = w.heap.size + 2 := by rw [hw0]; simp
  have hB0 : Mblk w0 w.heap.size (.int .i64 i) (.int .i64 st) (.slice A n c) (.slice B n d) := by
    rw [hw0]
    have := (alloc_below (w.alloc (.cells #[.int .i64 i, .int .i64 st, .slice A n c, .slice B n d] 24)) (.cells #[.int .i64 0, .int .i64 0, .slice none 0 0, .slice none 0 0] 24)).block w.heap.size (by simp)
    exact this.trans (heap_alloc_new w _)
  have hR0 : Mblk w0 (w.heap.size + 1) (.int .i64 0) (.int .i64 0) (.slice none 0 0) (.slice none 0 0) := by
    rw [hw0]
    have := heap_alloc_new (w.alloc (.cells #[.int .i64 i, .int .i64 st, .slice A n c, .slice B n d] 24)) (.cells #[.int .i64 0, .int .i64 0, .slice none 0 0, .slice none 0 0] 24)
    simpa [Mblk] using this
  have HW0 := Lib.hid hw0
  obtain ⟨R, hR⟩ : ∃ R, R = rch nx i st := ⟨_, rfl⟩
  have hRs : Stt n R := by rw [hR]; exact hM.rch_stt
  have hRc := Lib.hid (show ∀ s a, s ∈ R → a < i → nN nx s a ∈ R from fun s a hs ha => by rw [hR] at hs ⊢; exact hM.rch_in hs ha)
  have HREACH := Lib.hid (fun W h1 h2 => preach_ok i st n A B c d nx ot W h1 h2 hM)
  rw [← hR] at HREACH ⊢
  clear hR
  have hRl := hRs.len
  go_enter Try.func80, Try.ntmps80
  go_wp2_with fail
  rw [← HW0.out]
  clear hw0
  refine (pvalid _ _ _ _ _ _ _ _ _ _ _ (hx.below hb1) (ho.below hb1)).mono ?_
  rintro e w1 ⟨rfl, b1⟩
  rw [HV.out]
  obtain ⟨k0, k1, k2, k3, _⟩ := (hB0.kept b1 (by omega)).cells
  go_wp2_with fail
  refine (HREACH.out _ (hx.below (bt hb1 b1)) (ho.below (bt hb1 b1))).mono ?_
  rintro e w2 ⟨A1, c1, rfl, ho1, b2⟩
  have b2 := bt b1 b2
  have hz2 := b2.size
  obtain ⟨k0, k1, k2, k3, _⟩ := (hB0.kept b2 (by omega)).cells
  have hI1 := Lib.hid (Owned.ints ho1 (by rw [zs_len]; omega))
  clear ho1
  go_wp2_with (refine wpList_make_ints _ rfl _ _ rfl .i64 .i64 n rfl rfl hn ?_; intro w3 ho3 b3)
  obtain ⟨gn, hgn0⟩ : ∃ gn, gn = w2.heap.size := ⟨_, rfl⟩
  rw [← hgn0] at ho3 b3 hz2 ⊢
  have HG := Lib.hid hgn0
  have HO3 := Lib.hid ho3
  have HB3 := Lib.hid b3
  clear hgn0 k0 k1 k2 k3 b1 ho3 b3
  go_loopw [28] (fun kv wr => ∃ (k : Nat) (num : List Int), k ≤ R.length ∧ kv = .int .i64 k ∧ Owned wr gn (.slice (some ⟨gn, 0, none⟩) n n) num ∧ num.length = n ∧ (∀ j, j < k → num.getD (R.getD j 0) 0 = (j : Int)) ∧ Below gn w2 wr) (fun kv _ => R.length - (intOf kv).toNat)
  case atStart => exact ⟨0, List.replicate n 0, Nat.zero_le _, rfl, HO3.out, by simp, fun j h => absurd h (by omega), HB3.out⟩
  case round =>
    obtain ⟨k, num, hk, rfl, ho, hnl, hat, hbr2⟩ := hrel
    have hI : Ints wr A1 R.length (zs R) := hI1.out.below (by rw [← HG.out]; exact hbr2)
    have HAT := Lib.hid hat
    have HNL := Lib.hid hnl
    clear hat hnl
    by_cases hlt : k < R.length
    · obtain ⟨b1, o1, rfl, hb1, hc1⟩ := hI.at_ hlt
      rw [zs_at] at hc1
      have hs : R.getD k 0 < n := hRs.2 _ (getD_mem hlt)
      have hnd := Lib.hid (show ∀ j, j < k → R.getD j 0 ≠ R.getD k 0 from fun j hj e => by
        have h1 := ixN_of hRs.1 (show j < R.length by omega)
        have h2 := ixN_of hRs.1 hlt
        rw [e] at h1
        omega)
      have hs1 := ho.stored (R.getD k 0) (k : Int)
      have hw := ho.ints (by rw [HNL.out]; exact hn)
      obtain ⟨bq, oq, eq, hbq, hcq⟩ := hw.at_ hs
      cases eq
      obtain ⟨gq, eg, _, _, hfz⟩ := ho.head (by omega)
      cases eg
      have hfz' := hfz (R.getD k 0)
      have hset := Lib.hid (show ∀ j, j < k + 1 → (num.set (R.getD k 0) (k : Int)).getD (R.getD j 0) 0 = (j : Int) from fun j hj => by
        by_cases e : j = k
        · subst e
          rw [List.getD_eq_getElem?_getD, List.getElem?_set, if_pos rfl, if_pos (by rw [HNL.out]; exact hs)]; rfl
        · rw [List.getD_eq_getElem?_getD, List.getElem?_set, if_neg (fun e2 => hnd.out j (by omega) e2.symm), ← List.getD_eq_getElem?_getD]
          exact HAT.out j (by omega))
      have hbs := Lib.hid (hbr2.setCell (p := ⟨gn, R.getD k 0, none⟩) (Nat.le_refl _) (.int .i64 k))
      have HS1 := Lib.hid hs1
      rw [Nat.zero_add] at hcq
      generalize R.getD k 0 = s at hc1 hs hs1 hcq hfz' hset hbs HS1
      clear hfz hw hs1 hI ho hbr2 HAT hnd
      go_wp2
      go_roundw
      case rel => exact ⟨k + 1, num.set s k, by omega, by go_num, HS1.out, by rw [List.length_set, HNL.out], hset.out, hbs.out⟩
      case measure => simp [intOf]; omega
    · obtain rfl : k = R.length := by omega
      have hidx := Lib.hid (show ∀ x, x ∈ R → num.getD x 0 = ((ixN R x : Nat) : Int) from fun x hx => by
        have := HAT.out (ixN R x) (ixN_lt hx)
        rw [ixN_at hx] at this
        exact this)
      have hbr := b2.trans (hbr2.mono (by rw [HG.out]; exact b2.size))
      have hNum := Lib.hid (Owned.ints ho (by rw [HNL.out]; exact hn))
      obtain ⟨k0, k1, k2, k3, _⟩ := (hB0.kept hbr (by omega)).cells
      clear ho HAT HO3 HB3
      have hzr := hbr.size
      obtain ⟨gT, hgT⟩ : ∃ gT, gT = wr.heap.size := ⟨_, rfl⟩
      obtain ⟨wo, rfl⟩ : ∃ wo : World, wo = wr := ⟨_, rfl⟩
      have HT := Lib.hid hgT
      obtain ⟨w4, hw4⟩ : ∃ w4, w4 = wo.alloc (.cells #[.int .i64 i, .int .i64 0, .slice none 0 0, .slice none 0 0] 24) := ⟨_, rfl⟩
      have hbl4 : Below wo.heap.size wo w4 := by rw [hw4]; exact alloc_below _ _
      have hT4 : Mblk w4 gT (.int .i64 i) (.int .i64 0) (.slice none 0 0) (.slice none 0 0) := by rw [hw4, hgT]; exact heap_alloc_new _ _
      have b4 := hbr.trans (hbl4.mono hzr)
      have hIo := Lib.hid hI
      rw [← hgT] at hzr hbl4
      have H4 := Lib.hid hw4
      have HL4 := Lib.hid hbl4
      have hbr0 := hbr
      clear hgT hI hbr hbl4
      go_wp2
      rw [← H4.out]
      clear hw4
      try rw [← HT.out]
      clear k0 k1 k2 k3
      have HT4 := Lib.hid hT4
      have HB4 := Lib.hid b4
      have hzr2 : w.heap.size < gT := by omega
      have HBX := Lib.hid (hB0.kept hbr0 (by omega))
      have HRX := Lib.hid (hR0.kept hbr0 (by omega))
      have HBW := Lib.hid (hb1.trans (hbr0.mono (by omega)))
      clear hT4 b4 H4 hbr0
      go_loopw [43] (fun kv wr => ∃ (k : Nat) (AN AO : Option Addr) (cN cO : Nat), k ≤ R.length ∧ kv = .int .i64 k ∧ Below gT wo wr ∧ Mblk wr gT (.int .i64 i) (.int .i64 0) (.slice AN k cN) (.slice AO k cO) ∧
        OwnedL wr gT (.slice AN k cN) ((R.take k).map (trR nx i R)) ∧ OwnedL wr gT (.slice AO k cO) ((R.take k).map fun s => ot.getD s []) ∧ Apart (.slice AN k cN) (.slice AO k cO)) (fun kv _ => R.length - (intOf kv).toNat)
      case atStart => exact ⟨0, none, none, 0, 0, Nat.zero_le _, rfl, HL4.out, HT4.out, OwnedL.nil _ _, OwnedL.nil _ _, Apart.nil _⟩
      case round =>
        obtain ⟨k, AN, AO, cN, cO, hk, rfl, hbr, hT, hLN, hLO, hap⟩ := hrel
        have hbo := HB4.out
        have hzo : gT + 1 ≤ wr.heap.size := heap_lt hT
        have hbw0 : Below gT wo wr := hbr
        have hbox := (HBX.out.kept hbr hzr2).cells
        obtain ⟨k0, k1, k2, k3, _⟩ := hbox
        have hbW : Below w.heap.size w wr := HBW.out.trans (hbr.mono (by omega))
        have hI : Ints wr A1 R.length (zs R) := hIo.out.below (by rw [← HT.out]; exact hbr)
        have hNm := Lib.hid (hNum.out.below (show Below wo.heap.size wo wr by rw [← HT.out]; exact hbr))
        have HTT := Lib.hid hT
        have HLN := Lib.hid hLN
        have HLO := Lib.hid hLO
        have HAP := Lib.hid hap
        have HBR := Lib.hid hbr
        clear hT hLN hLO hap hbo hbw0
        by_cases hlt : k < R.length
        · obtain ⟨b1, o1, rfl, hb1', hc1⟩ := hI.at_ hlt
          rw [zs_at] at hc1
          have hsR := getD_mem hlt
          have hs : R.getD k 0 < n := hRs.2 _ hsR
          have hTN := Lib.hid (map_take_succ (trR nx i R) R 0 hlt)
          have hTO := Lib.hid (map_take_succ (fun s => ot.getD s []) R 0 hlt)
          generalize R.getD k 0 = s at hc1 hs hsR hTN hTO
          obtain ⟨g1, p1, A3, n1, c3, rfl, hg1, hd1, hr1⟩ := hx.at_ hs
          obtain ⟨g2, p2, A4, n2, c4, rfl, hg2, hd2, hr2⟩ := hlo.out.at_ hs
          have hi1 := (hM.row s hs).1
          have hi2 := (hM.row s hs).2.1
          have hl1 := hr1.1
          have hl2 := hr2.1
          obtain rfl : n1 = i := by omega
          obtain rfl : n1 = n2 := by omega
          have e1 := (hbW.cell (p := ⟨g1, p1 + s, none⟩) hg1).trans hd1
          have hi64 := hM.i2
          clear hl1 hl2 hi2 hd1
          have HI1 := Lib.hid hi1
          clear hi1
          go_wp2_with fail
          refine (sclone _ _ _ _ _ (hr1.below hbW)).mono ?_
          rintro e w5 ⟨A5, c5, rfl, ho5, b5⟩
          have HO5 := Lib.hid ho5
          have HB5 := Lib.hid b5
          clear ho5 b5
          go_wp2
          obtain ⟨wc, rfl⟩ : ∃ wc : World, wc = wr := ⟨_, rfl⟩
          clear k0 k1 k2 k3 hc1 e1
          go_loopw [55] (fun av wq => ∃ a : Nat, a ≤ n1 ∧ av = .int .i64 a ∧ Owned wq wc.heap.size (.slice A5 n1 c5) (midR nx n1 R s a) ∧ Below wc.heap.size wc wq) (fun av _ => n1 - (intOf av).toNat)
          case atStart => exact ⟨0, Nat.zero_le _, rfl, by rw [midR_zero]; exact HO5.out, HB5.out⟩
          case round =>
            obtain ⟨a, ha, rfl, ho6, b6⟩ := hrel
            by_cases hla : a < n1
            · have hset := Lib.hid (midR_set (R := R) HI1.out hla)
              have hat := Lib.hid ((midR_at (nx := nx) (R := R) (s := s) hla).trans (hM.nN_eq hs hla))
              have hml := Lib.hid (midR_len (nx := nx) (R := R) (s := s) HI1.out (Nat.le_of_lt hla))
              have hmi : (midR nx n1 R s a).length ≤ 17592186044416 := by rw [hml.out]; omega
              obtain ⟨g5, e5, hg5, hg5', hfz5⟩ := ho6.head (by omega)
              subst e5
              obtain ⟨bq, oq, eq, hbq, hcq⟩ := (ho6.ints hmi).at_ hla
              cases eq
              rw [hat.out, Nat.zero_add] at hcq
              have ht := hM.nN_lt hs hla
              have hnum := hidx.out _ (hRc.out s a hsR hla)
              generalize nN nx s a = t at hcq ht hnum hset
              obtain ⟨bn, on, en, hbn, hcn⟩ := (hNm.out.below b6).at_ ht
              cases en
              rw [hnum, Nat.zero_add] at hcn
              have hst := ho6.stored a ((ixN R t : Nat) : Int)
              rw [hset.out] at hst
              have hbs := Lib.hid (b6.setCell (p := ⟨g5, a, none⟩) hg5 (.int .i64 ((ixN R t : Nat) : Int)))
              have HST := Lib.hid hst
              have hf := hfz5 a
              clear hst ho6 b6 hfz5 hnum
              generalize ((ixN R t : Nat) : Int) = tv at hcn hbs HST
              go_wp2
              go_roundw
              case rel => exact ⟨a + 1, by omega, by go_num, HST.out, hbs.out⟩
              case measure => simp [intOf]; omega
            · obtain rfl : a = n1 := by omega
              rw [midR_all HI1.out] at ho6
              have hTq := HTT.out.kept b6 (heap_lt HTT.out)
              obtain ⟨c0, c1', c2', c3', f0, f1, f2, f3⟩ := hTq.cells
              have hLq := HLN.out.kept b6
              have hLOq := HLO.out.kept b6
              have ho6 := ho6.lower (base' := gT) (by omega)
              have hzq := b6.size
              have hgq : gT ≤ wr.heap.size := by omega
              obtain ⟨AN2, cN2, w7, hrn, hLN7, b7, hk7, hkb7, hmv7⟩ := run_append_list hLq ho6 hgq (by rw [List.length_map, List.length_take]; omega)
              have hkl : ((R.take k).map (trR nx a R)).length = k := by rw [List.length_map, List.length_take]; omega
              rw [hkl] at hrn hLN7 hmv7
              rw [← hTN.out] at hLN7
              have hT7 := hTq.keptT (hk7 _ (by decide))
              obtain ⟨y0, y1, y2, y3, z0, z1, z2, z3⟩ := hT7.cells
              have hLO7 := hLOq.keptB hkb7 HAP.out (hk7 _ (by decide))
              have hAP7 := HAP.out.moved hmv7 hLOq
              have hb7 : Below gT wo w7 := HBR.out.trans ((b6.mono (by omega)).trans b7)
              have hw8 := fun (u : Value) => hb7.setCell (p := ⟨gT, 2, none⟩) (Nat.le_refl _) u
              have h81 := hT7.set2 (.slice AN2 (k + 1) cN2)
              have h82 := hLN7.offM (j := 2) hT7 (.slice AN2 (k + 1) cN2)
              have h83 := hLO7.offM (j := 2) hT7 (.slice AN2 (k + 1) cN2)
              have h84 := hw8 (.slice AN2 (k + 1) cN2)
              have e2 := (hbW.cell (p := ⟨g2, p2 + s, none⟩) hg2).trans hd2
              have HH := Lib.hid (And.intro h81 (And.intro h82 (And.intro h83 h84)))
              clear hT7 hLN7 hLO7 hb7 hw8 h81 h82 h83 h84 hTq hLq hLOq ho6 hk7 hkb7 hmv7 b7 b6 e2
              go_wp2_with (at_builtin; refine Lib.wpList_append_run _ rfl _ _ _ _ rfl _ _ rfl rfl _ _ hrn ?_)
              obtain ⟨h81, h82, h83, h84⟩ := HH.out
              generalize w7.setCell ⟨gT, 2, none⟩ (.slice AN2 (k + 1) cN2) = w8 at h81 h82 h83 h84 ⊢
              clear HH y0 y1 y2 y3 z0 z1 z2 z3 hrn c0 c1' c2' c3' f0 f1 f2 f3
              obtain ⟨c0, c1', c2', c3', f0, f1, f2, f3⟩ := h81.cells
              have hbox8 := HBX.out.kept h84 hzr2
              obtain ⟨k0, k1, k2, k3, _⟩ := hbox8.cells
              have hbW8 : Below w.heap.size w w8 := HBW.out.trans (h84.mono (by omega))
              have e2 := (hbW8.cell (p := ⟨g2, p2 + s, none⟩) hg2).trans hd2
              have hg8 : gT < w8.heap.size := heap_lt h81
              have H81 := Lib.hid h81
              have H82 := Lib.hid h82
              have H83 := Lib.hid h83
              have H84 := Lib.hid h84
              have HAP7 := Lib.hid hAP7
              clear h81 h82 h83 h84 hAP7
              go_region_law (first
                | (refine step_append_run rfl _ _ _ _ rfl _ _ rfl rfl _ _ (HF.out 0).1 ?_)
                | (go_simp; go_at_call 106; refine (sclone _ _ _ _ _ (hr2.below (below_drewN hbW8 _))).mono ?_; rintro e w9 ⟨A9, c9, rfl, ho9, b9⟩; obtain ⟨hT9, F, hF⟩ := trim_step H84.out H81.out H82.out H83.out HAP7.out _ b9 ho9 (by omega) hg8; obtain ⟨c0, c1', c2', c3', f0, f1, f2, f3⟩ := hT9.cells; have ca := ((alloc_below w9 (.cells #[.slice A9 a c9] 27)).cell (p := ⟨gT, 3, none⟩) (heap_lt hT9)).trans c3'; have HF := Lib.hid hF; have cF := fun q => (hF q).2.1.cells.2.2.2.1; have fF := fun q => (hF q).2.1.cells.2.2.2.2.2.2.2; clear hT9 hF ho9 b9))
              all_goals
                go_wp2
                go_roundw
                case rel => exact ⟨k + 1, AN2, (F 0).1.1, cN2, (F 0).1.2, by omega, by go_num, (HF.out 0).2.2.2.2.2.setCell (p := ⟨gT, 3, none⟩) (Nat.le_refl _) _, (HF.out 0).2.1.set3 _, (HF.out 0).2.2.1.offM (HF.out 0).2.1 _, by rw [hTO.out]; exact (HF.out 0).2.2.2.1.offM (HF.out 0).2.1 _, (HF.out 0).2.2.2.2.1⟩
                case measure => simp [intOf]; omega
        · obtain rfl : k = R.length := by omega
          obtain ⟨c0, c1', c2', c3', _⟩ := HTT.out.cells
          have hRr := HRX.out.kept HBR.out (by omega)
          obtain ⟨y0, y1, y2, y3, z0, z1, z2, z3⟩ := hRr.cells
          have hN9 := HLN.out
          have hO9 := HLO.out
          rw [List.take_length] at hN9 hO9
          have hl : ∀ k, w.heap.size ≤ (⟨w.heap.size + 1, k, none⟩ : Addr).block := fun k => Nat.le_succ _
          have hfb := Lib.hid (((((hbW.setCell (hl 0) (.int .i64 i)).setCell (hl 1) (.int .i64 0)).setCell (hl 2) (.slice AN R.length cN)).setCell (hl 3) (.slice AO R.length cO)))
          have hR4 := Lib.hid (hRr.set4 (.int .i64 i) (.int .i64 0) (.slice AN R.length cN) (.slice AO R.length cO))
          have hq1 := hRr
          have hq2 : Mblk (wr.setCell ⟨w.heap.size + 1, 0, none⟩ (.int .i64 i)) (w.heap.size + 1) _ _ _ _ := heap_setCell_same wr _ 0 _ _ _ hq1
          have hq3 : Mblk ((wr.setCell ⟨w.heap.size + 1, 0, none⟩ (.int .i64 i)).setCell ⟨w.heap.size + 1, 1, none⟩ (.int .i64 0)) (w.heap.size + 1) _ _ _ _ := heap_setCell_same _ _ 1 _ _ _ hq2
          have hq4 : Mblk (((wr.setCell ⟨w.heap.size + 1, 0, none⟩ (.int .i64 i)).setCell ⟨w.heap.size + 1, 1, none⟩ (.int .i64 0)).setCell ⟨w.heap.size + 1, 2, none⟩ (.slice AN R.length cN)) (w.heap.size + 1) _ _ _ _ := heap_setCell_same _ _ 2 _ _ _ hq3
          have hN10 := Lib.hid (((((hN9.offM hq1 (.int .i64 i) (j := 0)).offM hq2 (.int .i64 0) (j := 1)).offM hq3 (.slice AN R.length cN) (j := 2)).offM hq4 (.slice AO R.length cO) (j := 3)).lower (base' := w.heap.size) (by omega))
          have hO10 := Lib.hid (((((hO9.offM hq1 (.int .i64 i) (j := 0)).offM hq2 (.int .i64 0) (j := 1)).offM hq3 (.slice AN R.length cN) (j := 2)).offM hq4 (.slice AO R.length cO) (j := 3)).lower (base' := w.heap.size) (by omega))
          clear hRr hq1 hq2 hq3 hq4 hN9 hO9 hl hbW
          go_wp2
          (try simp only [Exit.inBlock, Exit.then])
          refine bodyPost_ret (results_mealy rfl _ _ (w.heap.size + 1) _ _ _ _ rfl hR4.out) rfl ?_
          exact ⟨AN, cN, AO, cO, rfl, hN10.out, hO10.out, hfb.out⟩
end Go.Proofs.Ytogcecfeofbbnaa
end

section
/- Boxes of machines; rows that a call owns, as lists. -/
namespace Go.Proofs.Ytogcecfeofbbnaa
open Go.RowKit

theorem mealy_box (w : World) (a b c d : Value) : Mblk (w.alloc (.cells #[a, b, c, d] 24)) w.heap.size a b c d := heap_alloc_new _ _
theorem lists_ownedM {w : World} {base : Nat} {A : Option Addr} {n c i st : Nat} {nx ot : List (List Int)} (hM : Mok i st n nx ot) (h : OwnedL w base (.slice A n c) nx) : Lists w A n nx :=
  h.lists (by rw [hM.nxl]; have := hM.n2; omega) fun xs hxs => by
    obtain ⟨s, hs, rfl⟩ := List.getElem_of_mem hxs
    have h1 := (hM.row s (by rw [← hM.nxl]; exact hs)).1
    rw [List.getD_eq_getElem?_getD, List.getElem?_eq_getElem hs] at h1
    have := hM.i2
    have h1 : nx[s].length = i := h1
    omega
theorem lists_ownedO {w : World} {base : Nat} {A : Option Addr} {n c i st : Nat} {nx ot : List (List Int)} (hM : Mok i st n nx ot) (h : OwnedL w base (.slice A n c) ot) : Lists w A n ot :=
  h.lists (by rw [hM.otl]; have := hM.n2; omega) fun xs hxs => by
    obtain ⟨s, hs, rfl⟩ := List.getElem_of_mem hxs
    have h1 := (hM.row s (by rw [← hM.otl]; exact hs)).2.1
    rw [List.getD_eq_getElem?_getD, List.getElem?_eq_getElem hs] at h1
    have := hM.i2
    have h1 : ot[s].length = i := h1
    omega
end Go.Proofs.Ytogcecfeofbbnaa
end

section
/- homing: a set after one input (all, set.after). -/
namespace Go.Proofs.Ytogcecfeofbbnaa
open Go.RowKit Go.Shelf

/-- make(set, n). -/
theorem wpList_make_set {ops : Array Oper} {rest : List Oper} {o : Oper} {a : Act} {Q : Exit → Act → World → Prop} (w : World) (hg : o.guard = none) (l c : Operand) (hop : o.op = Op.makeSlice 71 l c)
    (kl kc : IntKind) (n : Nat) (hl : a.eval l = .int kl n) (hc : a.eval c = .int kc n) (hn : n ≤ 17592186044416)
    (hK : ∀ w', Owned w' w.heap.size (.slice (some ⟨w.heap.size, 0, none⟩) n n) (List.replicate n 0) → Below w.heap.size w w' → wpList Try.prog ops Q rest (a.put o.dst (.slice (some ⟨w.heap.size, 0, none⟩) n n)) w') :
    wpList Try.prog ops Q (o :: rest) a w := by
  obtain ⟨i, hi, hz0, hz1, hz2⟩ := info_parts info3
  refine wpList_make_full w hg l c 71 hop w.heap.size 3 i _ 1 Try.underlying71 hi hz0 hz1 kl kc _ _ n hl hc rfl rfl (by rw [hz2]; omega) (by unfold maxLen; omega) (Nat.le_refl _) ?_
  intro w' h1 h2
  refine hK w' ?_ ((Below.refl _ _).grown h2 (Nat.le_refl _) (fun k hk => by cases hk))
  unfold Owned
  rw [← made_ints, List.length_replicate]
  exact h1

/-- copy(x, y) into a row of one's own of the same length. -/
theorem run_copy_set {w : World} {base g n c sc : Nat} {sp : Option Addr} {xs ys : List Int} (hown : Owned w base (.slice (some ⟨g, 0, none⟩) n c) ys) (hx : Ints w sp n xs) :
    ∃ w', (∀ ty, (Builtin.copy_ #[71, 71] ty #[.slice (some ⟨g, 0, none⟩) n c, .slice sp n sc]).run Try.prog w = .ok (.int .i64 n) w') ∧ Owned w' base (.slice (some ⟨g, 0, none⟩) n c) xs ∧ Below base w w' := by
  have hl : ys.length = n := by obtain ⟨A', c', e⟩ := hown.form; cases e; rfl
  obtain ⟨i, hi, hz0, hz1, hz2⟩ := info_parts info3
  have hxl := hx.1
  have hsz1 : (Try.prog.info? 3).map (·.size) = some 1 := by rw [hi]; simp [hz1]
  by_cases h0 : n = 0
  · have hy : ys = xs := by rw [List.eq_nil_of_length_eq_zero (show ys.length = 0 by omega), List.eq_nil_of_length_eq_zero (show xs.length = 0 by omega)]
    subst hy
    refine ⟨w, fun ty => ?_, hown, Below.refl _ _⟩
    rw [run_copy_none (P := Try.prog) w _ _ ty 3 _ _ _ _ _ _ Try.underlying71 hsz1 (by rw [h0]; rfl), h0]
    rfl
  · rcases hown.2 with ⟨e, _⟩ | ⟨g', cap, cur, e, hbg, hg, h1, h2, h3, h4⟩
    · cases e
    · injection e with e1 e2 e3
      injection e1 with e1
      injection e1 with e1
      subst e1 e3
      have hcs : (xs.map (Value.int .i64)).length = n := by rw [List.length_map, hxl]
      obtain ⟨b, off, rfl, _, hc⟩ := hx.2.2 (by omega)
      refine ⟨_, fun ty => (run_copy_row (P := Try.prog) w _ _ ty 3 g 0 n c _ n sc cur 3 (xs.map (Value.int .i64)) Try.underlying71 hsz1 hg (by rw [hcs]; simp) (fun j v hv => ?_) (by rw [hcs]; omega) (by intro v hv; simp at hv; obtain ⟨z, _, rfl⟩ := hv; rfl)).trans (by rw [hcs]; rfl), ?_, ?_⟩
      · have hj : j < n := by rw [← hcs]; exact (List.getElem?_eq_some_iff.1 hv).1
        rw [Addr.add_lit, hc j hj]
        rw [List.getElem?_map, List.getElem?_eq_getElem (by omega)] at hv
        rw [List.getD_eq_getElem?_getD, List.getElem?_eq_getElem (by omega)]
        exact hv
      · refine ⟨by rw [List.length_map]; omega, .inr ⟨g, c, _, by rw [hxl], hbg, setRow_heap w g cur _ 3 _ hg, by omega, h2, ?_, ?_⟩⟩
        · simp [hxl]; omega
        · simp [hxl]
      · exact below_setRow (Below.refl _ _) hbg _

/-- The closure: other outputs. -/
theorem paft1 (bm bi bo a n m : Nat) (o : Int) (x y z : Value) (B : Option Addr) (d s : Nat) (ot : List (List Int)) (w : World) (hm : Mblk w bm x y z (.slice B n d)) (hi : w.cell? ⟨bi, 0, none⟩ = some (.int .i64 a)) (ho : w.cell? ⟨bo, 0, none⟩ = some (.int .i64 o)) (hl : Lists w B n ot) (hs : s < n) (ha : a < m) (hr : (ot.getD s []).length = m) :
    Calls Try.prog 97 #[.int .i64 s, .pointer (some ⟨bm, 0, none⟩), .pointer (some ⟨bi, 0, none⟩), .pointer (some ⟨bo, 0, none⟩)] w fun e w' => e = .returned (.bool (!decide (oN ot s a = o))) ∧ Below w.heap.size w w' := by
  obtain ⟨k0, k1, k2, k3, _⟩ := hm.cells
  obtain ⟨g1, p1, A3, n1, c3, rfl, hg1, hd1, hr1⟩ := hl.at_ hs
  obtain rfl : n1 = m := by have := hr1.1; omega
  obtain ⟨g3, p3, rfl, hg3, hy1⟩ := hr1.at_ ha
  have hv : (ot.getD s []).getD a 0 = oN ot s a := rfl
  rw [hv] at hy1
  generalize oN ot s a = v at hy1
  have hd : (v != o) = !decide (v = o) := by
    by_cases e : v = o
    · subst e; simp
    · simp [e]
  clear hm hl hr hr1 hv
  go_enter Try.func97, Try.ntmps97
  go_wp2_with fail
  go_region
  go_wp2
  go_ret
  exact ⟨rfl, (Below.refl _ _).drew⟩
theorem entA : ∀ args w, (callFunc 97 args).run Try.prog w = .ok (.enter 97 args) w := enters_of Try.func97 (by kernel_rfl) rfl

/-- The states moved on, up to the k-th. -/
def mvU (nx : List (List Int)) (a : Nat) (xs : List Int) (k : Nat) : List Int := (xs.take k).map (fun s => (nN nx s.toNat a : Int)) ++ xs.drop k
theorem mvU_len {nx : List (List Int)} {a : Nat} {xs : List Int} {k : Nat} (h : k ≤ xs.length) : (mvU nx a xs k).length = xs.length := by
  unfold mvU
  rw [List.length_append, List.length_map, List.length_take, List.length_drop]
  omega
theorem mvU_zero (nx : List (List Int)) (a : Nat) (xs : List Int) : mvU nx a xs 0 = xs := by simp [mvU]
theorem mvU_all {nx : List (List Int)} {a : Nat} {xs : List Int} {k : Nat} (h : k = xs.length) : mvU nx a xs k = xs.map (fun s => (nN nx s.toNat a : Int)) := by subst h; simp [mvU]
theorem mvU_at {nx : List (List Int)} {a : Nat} {xs : List Int} {k : Nat} (h : k < xs.length) : (mvU nx a xs k).getD k 0 = xs.getD k 0 := by
  unfold mvU
  have hl : ((xs.take k).map (fun s => (nN nx s.toNat a : Int))).length = k := by rw [List.length_map, List.length_take]; omega
  rw [List.getD_eq_getElem?_getD, List.getElem?_append_right (by omega), hl, List.getElem?_drop, List.getD_eq_getElem?_getD]
  congr 2
  omega
theorem mvU_next {nx : List (List Int)} {a : Nat} {xs : List Int} {k : Nat} (h : k < xs.length) : (mvU nx a xs k).set k (nN nx (xs.getD k 0).toNat a : Int) = mvU nx a xs (k + 1) := by
  have hl : ((xs.take k).map (fun s => (nN nx s.toNat a : Int))).length = k := by rw [List.length_map, List.length_take]; omega
  unfold mvU
  rw [List.set_append_right _ _ (by omega), hl, Nat.sub_self, List.drop_eq_getElem_cons h, List.set_cons_zero, List.take_succ_eq_append_getElem h, List.map_append, List.append_assoc, List.getD_eq_getElem?_getD, List.getElem?_eq_getElem h]
  rfl

set_option maxHeartbeats 4000000 in
set_option maxRecDepth 100000 in
theorem pafter (i st n k cx a : Nat) (o : Int) (A B X : Option Addr) (c d : Nat) (nx ot : List (List Int)) (xs : List Int) (w : World) (hx : Lists w A n nx) (ho : Lists w B n ot) (hM : Mok i st n nx ot) (hxs : Ints w X k xs) (hst : ∀ x, x ∈ xs → ∃ s : Nat, x = s ∧ s < n) (ha : a < i) :
    Calls Try.prog 58 #[.slice X k cx, .agg #[.int .i64 i, .int .i64 st, .slice A n c, .slice B n d], .int .i64 a, .int .i64 o] w fun e w' => ∃ A' c', e = .returned (.slice A' (aft nx ot xs a o).length c') ∧ Owned w' w.heap.size (.slice A' (aft nx ot xs a o).length c') (aft nx ot xs a o) ∧ Below w.heap.size w w' := by
  obtain ⟨w1, hw1⟩ : ∃ w1, w1 = w.alloc (.cells #[.int .i64 i, .int .i64 st, .slice A n c, .slice B n d] 24) := ⟨_, rfl⟩
  obtain ⟨w2, hw2⟩ : ∃ w2, w2 = w1.alloc (.cells #[.int .i64 a] 3) := ⟨_, rfl⟩
  obtain ⟨w3, hw3⟩ : ∃ w3, w3 = w2.alloc (.cells #[.int .i64 o] 3) := ⟨_, rfl⟩
  have b1 : Below w.heap.size w w1 := by rw [hw1]; exact alloc_below _ _
  have b2 : Below w1.heap.size w1 w2 := by rw [hw2]; exact alloc_below _ _
  have b3 : Below w2.heap.size w2 w3 := by rw [hw3]; exact alloc_below _ _
  have z1 : w1.heap.size = w.heap.size + 1 := by rw [hw1]; simp
  have z2 : w2.heap.size = w.heap.size + 2 := by rw [hw2]; simp [z1]
  have z3 : w3.heap.size = w.heap.size + 3 := by rw [hw3]; simp [z2]
  have bw : Below w.heap.size w w3 := bt (bt b1 b2) b3
  have m1 : Mblk w1 w.heap.size (.int .i64 i) (.int .i64 st) (.slice A n c) (.slice B n d) := by rw [hw1]; exact mealy_box _ _ _ _ _
  have m3 : Mblk w3 w.heap.size (.int .i64 i) (.int .i64 st) (.slice A n c) (.slice B n d) := (m1.kept b2 (by omega)).kept b3 (by omega)
  have i3 : w3.heap[w.heap.size + 1]? = some (.cells #[.int .i64 a] 3 (0, 0)) := by
    have h := heap_alloc_new w1 (.cells #[.int .i64 a] 3)
    rw [← hw2, z1] at h
    exact (b3.block _ (by omega)).trans h
  have o3 : w3.heap[w.heap.size + 2]? = some (.cells #[.int .i64 o] 3 (0, 0)) := by
    have h := heap_alloc_new w2 (.cells #[.int .i64 o] 3)
    rw [← hw3, z2] at h
    exact h
  have hD : ∀ W, Below w3.heap.size w3 W → ∀ x, x ∈ xs → Calls Try.prog 97 (#[.int .i64 x] ++ #[.pointer (some ⟨w.heap.size, 0, none⟩), .pointer (some ⟨w.heap.size + 1, 0, none⟩), .pointer (some ⟨w.heap.size + 1 + 1, 0, none⟩)]) W fun e w' => e = .returned (.bool (!decide (oN ot x.toNat a = o))) ∧ Below W.heap.size W w' := fun W hW x hxx => by
    obtain ⟨s, rfl, hs⟩ := hst x hxx
    have hWl : Below w.heap.size w W := bw.trans (hW.mono (by omega))
    exact paft1 w.heap.size (w.heap.size + 1) (w.heap.size + 1 + 1) a n i o _ _ _ B d s ot W (m3.kept hW (by omega)) (cell_of_row W (w.heap.size + 1) 0 _ _ (0, 0) ((hW.block _ (by omega)).trans i3)) (cell_of_row W (w.heap.size + 1 + 1) 0 _ _ (0, 0) ((hW.block _ (by omega)).trans o3)) (ho.below hWl) hs ha (hM.row s hs).2.1
  have HD := Lib.hid hD
  have HM3 := Lib.hid m3
  have HI3 := Lib.hid i3
  have HX3 := Lib.hid (hx.below bw)
  have HS3 := Lib.hid (hxs.below bw)
  have HBW := Lib.hid bw
  have HZ := Lib.hid z3
  have HST := Lib.hid hst
  have hk := hxs.2.1
  have hkl := hxs.1
  have HW3 := Lib.hid (show w3 = ((w.alloc (.cells #[.int .i64 i, .int .i64 st, .slice A n c, .slice B n d] 24)).alloc (.cells #[.int .i64 a] 3)).alloc (.cells #[.int .i64 o] 3) by rw [hw3, hw2, hw1])
  clear hw1 hw2 hw3
  clear hD m1 m3 i3 o3 hx ho hxs bw b1 b2 b3 z1 z2 z3 hst
  go_enter Try.func58, Try.ntmps58
  go_wp2_with (refine wpList_make_set _ rfl _ _ rfl .i64 .i64 k rfl rfl (by omega) ?_; intro w4 ho4 b4; rw [← HW3.out] at ho4 b4; rw [← HW3.out])
  have hmf : ∀ (fn : Fn) (first cap : Array Value) (w : World), (Instr.makeFunc fn first cap).run Try.prog w = .ok (.func fn first cap) w := fun _ _ _ _ => rfl
  have HS4 := Lib.hid (HS3.out.below b4)
  have HO4 := Lib.hid ho4
  have HB4 := Lib.hid b4
  clear ho4 b4
  obtain ⟨w5, hcp, ho5, b5⟩ := run_copy_set (sc := cx) HO4.out HS4.out
  have hcp := hcp 3
  have HD5 : Hid (DelC 97 #[.pointer (some ⟨w.heap.size, 0, none⟩), .pointer (some ⟨w.heap.size + 1, 0, none⟩), .pointer (some ⟨w.heap.size + 1 + 1, 0, none⟩)] (fun x => !decide (oN ot x.toNat a = o)) xs w3.heap.size w5) :=
    Lib.hid ⟨entA, fun W hW => HD.out W (HB4.out.trans (b5.trans hW))⟩
  have HO5 := Lib.hid ho5
  have HB5 := Lib.hid (HB4.out.trans b5)
  clear ho5 b5
  go_wp2_with fail
  rw [hcp]
  clear hcp
  simp only [Result.andThen_ok]
  go_wp2_with fail
  obtain ⟨ys, hys⟩ : ∃ ys, ys = xs.filter fun s => decide (oN ot s.toNat a = o) := ⟨_, rfl⟩
  refine (pdelete 97 _ _ _ k k xs ys w3.heap.size w5 HO5.out HB5.out.size hk HD5.out (by rw [hys]; simp)).mono ?_
  rintro e w6 ⟨A6, c6, rfl, ho6, b6⟩
  have hyl : ys.length ≤ k := by rw [hys, ← hkl]; exact List.length_filter_le _ _
  have HYS : Hid (∀ q, q < ys.length → ∃ s : Nat, ys.getD q 0 = s ∧ s < n) := Lib.hid fun q hq => HST.out _ (by
    have := getD_in hq
    rw [hys] at this ⊢
    exact (List.mem_filter.1 this).1)
  have HAF : Hid (cs (ys.map fun s => (nN nx s.toNat a : Int)) = aft nx ot xs a o) := Lib.hid (by rw [hys]; rfl)
  have HO6 := Lib.hid ho6
  have HB6 := Lib.hid (HB5.out.trans b6)
  clear ho6 b6 hys HO5 HD5 HB5 HO4 HS4 HB4 HD HST HS3
  obtain ⟨L, hL⟩ : ∃ L, L = ys.length := ⟨_, rfl⟩
  rw [← hL] at hyl HYS HO6
  rw [← hL]
  have HL := Lib.hid hL
  clear hL
  go_wp2
  go_loopw [23] (fun kv wr => ∃ q : Nat, q ≤ L ∧ kv = .int .i64 q ∧ Owned wr w3.heap.size (.slice A6 L c6) (mvU nx a ys q) ∧ Below w3.heap.size w3 wr) (fun kv _ => L - (intOf kv).toNat)
  case atStart => exact ⟨0, Nat.zero_le _, rfl, by rw [mvU_zero]; exact HO6.out, HB6.out⟩
  case round =>
    clear HO6 HB6
    obtain ⟨q, hq, rfl, ho, hbr⟩ := hrel
    have HO := Lib.hid ho
    have HBR := Lib.hid hbr
    by_cases hlt : q < L
    · obtain ⟨s, hsv, hs⟩ := HYS.out q hlt
      obtain ⟨g, rfl, hg1, hg2, hfr⟩ := ho.head (by omega)
      have hI := ho.ints (by rw [mvU_len (by have := HL.out; omega)]; have := HL.out; omega)
      obtain ⟨g', o', e, _, c1⟩ := hI.at_ (k := q) hlt
      cases e
      rw [mvU_at (by have := HL.out; omega), hsv, Nat.zero_add] at c1
      have fq := hfr q
      have hnxt := mvU_next (nx := nx) (a := a) (xs := ys) (k := q) (by have := HL.out; omega)
      rw [hsv, Int.toNat_natCast] at hnxt
      have hm := HM3.out.kept hbr (by have := HZ.out; omega)
      obtain ⟨k0, k1, k2, k3, _⟩ := hm.cells
      have ci := cell_of_row wr (w.heap.size + 1) 0 _ _ (0, 0) ((hbr.block _ (by have := HZ.out; omega)).trans HI3.out)
      obtain ⟨g1, p1, A3, n1, c3, rfl, hg3, hd1, hr1⟩ := (HX3.out.below hbr).at_ hs
      obtain rfl : n1 = i := by have := hr1.1; have := (hM.row s hs).1; omega
      obtain ⟨g3, p3, rfl, _, hy1⟩ := hr1.at_ ha
      rw [hM.nN_eq hs ha] at hy1
      have HN := Lib.hid hnxt
      have HG1 := Lib.hid hg1
      have hst2 := Lib.hid (HO.out.stored q (nN nx s a : Int))
      rw [HN.out] at hst2
      generalize nN nx s a = t at hy1 hst2 HN
      clear hI ho hbr hfr hnxt hm hr1 hsv
      go_wp2_with fail
      go_region
      go_wp2
      go_roundw
      case rel => exact ⟨q + 1, by omega, by go_num, hst2.out.drew1, (HBR.out.setCell (show w3.heap.size ≤ (⟨g, q, none⟩ : Addr).block from HG1.out) _).drew⟩
      case measure => simp [intOf]; omega
    · obtain rfl : q = L := by omega
      have hend := Lib.hid (mvU_all (nx := nx) (a := a) (xs := ys) HL.out)
      rw [hend.out] at HO
      clear ho hbr
      have hq2 : q ≤ 17592186044416 := by omega
      go_wp2_with fail
      refine (psorts A6 q c6 _ w3.heap.size wr HO.out HBR.out.size hq2).mono ?_
      rintro e w7 ⟨rfl, ho7, b7⟩
      have HO7 := Lib.hid ho7
      have HB7 := Lib.hid (HBR.out.trans b7)
      clear ho7 b7
      go_wp2_with fail
      refine (pcompacts A6 q c6 _ w3.heap.size w7 HO7.out hq2).mono ?_
      rintro e w8 ⟨A8, c8, rfl, ho8, b8⟩
      have he : Lib.compact ((ys.map fun s => (nN nx s.toNat a : Int)).mergeSort fun x y => decide (x ≤ y)) = aft nx ot xs a o := HAF.out
      rw [he] at ho8 ⊢
      have HO8 := Lib.hid ho8
      have HB8 := Lib.hid (HB7.out.trans b8)
      clear ho8 b8 he
      go_wp2
      go_ret
      exact ⟨A8, c8, rfl, HO8.out.lower (by have := HZ.out; omega), HBW.out.trans (HB8.out.mono (by have := HZ.out; omega))⟩
end Go.Proofs.Ytogcecfeofbbnaa
end

section
/- Two rows of numbers that grow side by side. -/
namespace Go.Proofs.Ytogcecfeofbbnaa
open Go.RowKit

theorem Owned.lt {w : World} {base : Nat} {v : Value} {xs : List Int} (h : Owned w base v xs) : ∀ k, v.ownBlock = some k → base ≤ k ∧ k < w.heap.size := World.ownsRow.lt h
theorem Owned.keptB {w w' : World} {base : Nat} {u v : Value} {xs : List Int} (h : Owned w base v xs) (hk : KeptB u.ownBlock w w') (ha : Apart u v) : Owned w' base v xs := by
  refine ⟨h.1, ?_⟩
  rcases h.2 with e | ⟨g, cap, cur, hv, hbg, hg, r⟩
  · exact .inl e
  · exact .inr ⟨g, cap, cur, hv, hbg, hk g _ hg (fun e => ha g e (by rw [hv]; rfl)), r⟩
theorem Apart.movedI {w : World} {base : Nat} {v v' u : Value} {xs : List Int} (h : Apart v u) (hm : Moved w v v') (hu : Owned w base u xs) : Apart v' u := by
  rcases hm with e | ⟨g, hg, e⟩
  · intro k hk; rw [e] at hk; exact h k hk
  · intro k hk h2
    rw [e] at hk
    injection hk with hk
    have := (hu.lt k h2).2
    omega

/-- append of one number; every other block is as it was. -/
theorem run_append_onek {w : World} {base : Nat} {v : Value} {xs : List Int} (h : Owned w base v xs) (x : Int) (hbase : base ≤ w.heap.size) (hl : xs.length < 17592186044416) :
    ∃ A c w', (Builtin.append_ #[27, 27] 27 #[v, .slice (some ⟨w.heap.size, 0, none⟩) 1 1]).run Try.prog (w.alloc (.cells #[.int .i64 x] 3)) = .ok (.slice A (xs.length + 1) c) w' ∧
      Owned w' base (.slice A (xs.length + 1) c) (xs ++ [x]) ∧ Below base w w' ∧ KeptB v.ownBlock w w' ∧ Moved w v (.slice A (xs.length + 1) c) := by
  obtain ⟨i, hi, hz0, hz1, hz2⟩ := info_parts info3
  have hbz := alloc_below w (.cells #[.int .i64 x] 3)
  have ho1 : (w.alloc (.cells #[.int .i64 x] 3)).ownsRow base 3 1 v xs.length (xs.map (Value.int .i64)) := h.kept hbz
  obtain ⟨v', w', hr, h1, h2, _, hmv⟩ := run_append_own_at (P := Try.prog) (w.alloc (.cells #[.int .i64 x] 3)) base 27 27 3 i (.int .i64 0) 1 8 Try.underlying27 hi hz0 hz1 hz2 rfl (by decide) v _ _ ho1 ⟨w.heap.size, 0, none⟩ 1 1 [.int .i64 x] (by simp)
    (by
      intro j u hu
      cases j with
      | zero =>
        simp at hu
        subst hu
        simp [Addr.add]
      | succ j => simp at hu)
    (by intro u hu; simp at hu; subst hu; rfl) (by unfold maxLen; omega) (by omega) (Nat.le_trans hbase hbz.size)
  have hown : Owned w' base v' (xs ++ [x]) := by
    unfold Owned
    rw [List.length_append, List.map_append]
    exact h1
  obtain ⟨A, c, rfl⟩ := hown.form
  rw [List.length_append] at hr hown
  have hkb : KeptB v.ownBlock w w' := fun g o e hne => (h2.block g (Nat.lt_of_lt_of_le (heap_lt e) hbz.size) (fun e2 => hne e2.symm)).trans ((hbz.block g (heap_lt e)).trans e)
  refine ⟨A, c, w', hr, hown, (hbz.mono hbase).trans ((Below.refl _ _).grown h2 (Nat.le_trans hbase hbz.size) (fun k hk => (World.ownsRow.lt ho1 k hk).1)), hkb, ?_⟩
  rcases hmv with e | e
  · exact .inl (by rw [List.length_append] at e; exact e)
  · exact .inr ⟨(w.alloc (.cells #[.int .i64 x] 3)).heap.size, by simp, by rw [List.length_append] at e; exact e⟩

/-- append to one of two rows, behind any number of draws. -/
theorem pair_app {wr : World} {base q : Nat} {A : Option Addr} {c : Nat} {u : Value} {xs ys : List Int} (h : Owned wr base (.slice A q c) xs) (hu : Owned wr base u ys) (ha : Apart (.slice A q c) u) (x : Int) (hbase : base ≤ wr.heap.size) (hl : xs.length < 17592186044416) :
    ∃ F : Nat → (Option Addr × Nat) × World, ∀ k, (Builtin.append_ #[27, 27] 27 #[.slice A q c, .slice (some ⟨wr.heap.size, 0, none⟩) 1 1]).run Try.prog ((wr.drewN k).alloc (.cells #[.int .i64 x] 3)) = .ok (.slice (F k).1.1 (q + 1) (F k).1.2) (F k).2 ∧
      Owned (F k).2 base (.slice (F k).1.1 (q + 1) (F k).1.2) (xs ++ [x]) ∧ Owned (F k).2 base u ys ∧ Apart (.slice (F k).1.1 (q + 1) (F k).1.2) u ∧ Below base wr (F k).2 := by
  have hq : q = xs.length := by obtain ⟨A', c', e⟩ := h.form; cases e; rfl
  refine skol (p := fun k (r : (Option Addr × Nat) × World) => (Builtin.append_ #[27, 27] 27 #[.slice A q c, .slice (some ⟨wr.heap.size, 0, none⟩) 1 1]).run Try.prog ((wr.drewN k).alloc (.cells #[.int .i64 x] 3)) = .ok (.slice r.1.1 (q + 1) r.1.2) r.2 ∧
      Owned r.2 base (.slice r.1.1 (q + 1) r.1.2) (xs ++ [x]) ∧ Owned r.2 base u ys ∧ Apart (.slice r.1.1 (q + 1) r.1.2) u ∧ Below base wr r.2) fun k => ?_
  obtain ⟨A', c', w', h1, h2, h3, h4, h5⟩ := run_append_onek (h.drew k) x hbase hl
  rw [← hq] at h1 h2 h5
  exact ⟨((A', c'), w'), h1, h2, (hu.drew k).keptB h4 ha, ha.movedI h5 (hu.drew k), (below_drewN (Below.refl _ _) k).trans h3⟩
end Go.Proofs.Ytogcecfeofbbnaa
end

section
/- homing: all states. -/
namespace Go.Proofs.Ytogcecfeofbbnaa
open Go.RowKit Go.Shelf

/-- append of one number to a set. -/
theorem run_append_set {w : World} {base : Nat} {v : Value} {xs : List Int} (h : Owned w base v xs) (x : Int) (hbase : base ≤ w.heap.size) (hl : xs.length < 17592186044416) :
    ∃ A c w', (Builtin.append_ #[71, 71] 71 #[v, .slice (some ⟨w.heap.size, 0, none⟩) 1 1]).run Try.prog (w.alloc (.cells #[.int .i64 x] 3)) = .ok (.slice A (xs.length + 1) c) w' ∧
      Owned w' base (.slice A (xs.length + 1) c) (xs ++ [x]) ∧ Below base w w' := by
  obtain ⟨i, hi, hz0, hz1, hz2⟩ := info_parts info3
  have hbz := alloc_below w (.cells #[.int .i64 x] 3)
  have ho1 : (w.alloc (.cells #[.int .i64 x] 3)).ownsRow base 3 1 v xs.length (xs.map (Value.int .i64)) := h.kept hbz
  obtain ⟨v', w', hr, h1, h2, _, hmv⟩ := run_append_own_at (P := Try.prog) (w.alloc (.cells #[.int .i64 x] 3)) base 71 71 3 i (.int .i64 0) 1 8 Try.underlying71 hi hz0 hz1 hz2 rfl (by decide) v _ _ ho1 ⟨w.heap.size, 0, none⟩ 1 1 [.int .i64 x] (by simp)
    (by
      intro j u hu
      cases j with
      | zero =>
        simp at hu
        subst hu
        simp [Addr.add]
      | succ j => simp at hu)
    (by intro u hu; simp at hu; subst hu; rfl) (by unfold maxLen; omega) (by omega) (Nat.le_trans hbase hbz.size)
  have hown : Owned w' base v' (xs ++ [x]) := by
    unfold Owned
    rw [List.length_append, List.map_append]
    exact h1
  obtain ⟨A, c, rfl⟩ := hown.form
  rw [List.length_append] at hr hown
  exact ⟨A, c, w', hr, hown, (hbz.mono hbase).trans ((Below.refl _ _).grown h2 (Nat.le_trans hbase hbz.size) (fun k hk => (World.ownsRow.lt ho1 k hk).1))⟩

set_option maxHeartbeats 2000000 in
set_option maxRecDepth 100000 in
theorem pall (a b f : Value) (n c : Nat) (A : Option Addr) (w : World) (hn : n ≤ 1024) :
    Calls Try.prog 57 #[.agg #[a, b, .slice A n c, f]] w fun e w' => ∃ A' c', e = .returned (.slice A' n c') ∧ Owned w' w.heap.size (.slice A' n c') (zs (List.range n)) ∧ Below w.heap.size w w' := by
  obtain ⟨w1, hw1⟩ : ∃ w1, w1 = w.alloc (.cells #[a, b, .slice A n c, f] 24) := ⟨_, rfl⟩
  have b1 : Below w.heap.size w w1 := by rw [hw1]; exact alloc_below _ _
  have m1 : Mblk w1 w.heap.size a b (.slice A n c) f := by rw [hw1]; exact mealy_box _ _ _ _ _
  obtain ⟨k0, k1, k2, k3, _⟩ := m1.cells
  have HW1 := Lib.hid hw1
  have HB1 := Lib.hid b1
  have z1 : w1.heap.size = w.heap.size + 1 := by rw [hw1]; simp
  rw [hw1] at k0 k1 k2 k3
  clear hw1 b1 m1
  go_enter Try.func57, Try.ntmps57
  go_wp2
  rw [← HW1.out]
  clear k0 k1 k2 k3
  go_loopw [8, 3] (fun kv sv wr => ∃ (q : Nat) (A' : Option Addr) (c' : Nat), q ≤ n ∧ kv = .int .i64 q ∧ sv = .slice A' q c' ∧ Owned wr w1.heap.size (.slice A' q c') (zs (List.range q)) ∧ Below w1.heap.size w1 wr) (fun kv _ _ => n - (intOf kv).toNat)
  case atStart => exact ⟨0, none, 0, Nat.zero_le _, rfl, rfl, Owned.nil _ _, Below.refl _ _⟩
  case round =>
    obtain ⟨q, A', c', hq, rfl, rfl, ho, hbr⟩ := hrel
    by_cases hlt : q < n
    · have hl : (zs (List.range q)).length = q := by rw [zs_len, List.length_range]
      obtain ⟨A2, c2, w2, hr, ho2, hb2⟩ := run_append_set ho (q : Int) hbr.size (by omega)
      rw [hl] at hr ho2
      have hz : zs (List.range q) ++ [(q : Int)] = zs (List.range (q + 1)) := by rw [List.range_succ, zs_append]; rfl
      rw [hz] at ho2
      have HO2 := Lib.hid ho2
      have HB2 := Lib.hid (hbr.trans hb2)
      clear ho hbr ho2 hb2 hz hl
      go_wp2_with (at_builtin; refine Lib.wpList_append_run _ rfl _ _ _ _ rfl _ _ rfl rfl _ _ hr ?_)
      go_roundw
      case rel => exact ⟨q + 1, A2, c2, by omega, by go_num, rfl, HO2.out, HB2.out⟩
      case measure => simp [intOf]; omega
    · obtain rfl : q = n := by omega
      have HO := Lib.hid (ho.lower (show w.heap.size ≤ w1.heap.size by omega))
      have HB := Lib.hid (HB1.out.trans (hbr.mono (show w.heap.size ≤ w1.heap.size by omega)))
      clear ho hbr
      go_wp2
      go_ret
      exact ⟨A', c', rfl, HO.out, HB.out⟩
/-- The first error of a machine and a word. -/
def hck (i st : Int) (nx ot : List (List Int)) (xs : List Int) : Int := if vld i st nx ot = 0 then chk xs i else vld i st nx ot

set_option maxHeartbeats 1000000 in
theorem phcheck (i st : Int) (A B X : Option Addr) (n c m d k cx : Nat) (nx ot : List (List Int)) (xs : List Int) (w : World) (hx : Lists w A n nx) (ho : Lists w B m ot) (hxs : Ints w X k xs) :
    Calls Try.prog 55 #[.agg #[.int .i64 i, .int .i64 st, .slice A n c, .slice B m d], .slice X k cx] w fun e w' => e = .returned (.int .i64 (hck i st nx ot xs)) ∧ Below w.heap.size w w' := by
  obtain ⟨w1, hw1⟩ : ∃ w1, w1 = w.alloc (.cells #[.int .i64 i, .int .i64 st, .slice A n c, .slice B m d] 24) := ⟨_, rfl⟩
  have b1 : Below w.heap.size w w1 := by rw [hw1]; exact alloc_below _ _
  have m1 : Mblk w1 w.heap.size (.int .i64 i) (.int .i64 st) (.slice A n c) (.slice B m d) := by rw [hw1]; exact mealy_box _ _ _ _ _
  have z1 : w1.heap.size = w.heap.size + 1 := by rw [hw1]; simp
  obtain ⟨k0, k1, k2, k3, _⟩ := m1.cells
  rw [hw1] at k0 k1 k2 k3
  have HW1 := Lib.hid hw1
  have HM1 := Lib.hid m1
  have HV := Lib.hid (pvalid i st A B n c m d nx ot w1 (hx.below b1) (ho.below b1))
  have HXS := Lib.hid (hxs.below b1)
  have HB1 := Lib.hid b1
  clear hw1 m1 b1 hx ho hxs
  obtain ⟨v, hv⟩ : ∃ v, v = vld i st nx ot := ⟨_, rfl⟩
  rw [← hv] at HV
  have HVV : Hid (hck i st nx ot xs = if v = 0 then chk xs i else v) := Lib.hid (by rw [hv]; rfl)
  clear hv
  by_cases h0 : v = 0
  · subst h0
    rw [if_pos rfl] at HVV
    go_enter Try.func55, Try.ntmps55
    go_wp2_with fail
    rw [← HW1.out]
    refine HV.out.mono ?_
    rintro e w2 ⟨rfl, b2⟩
    clear k0 k1 k2 k3
    obtain ⟨k0, k1, k2, k3, _⟩ := (HM1.out.kept b2 (by omega)).cells
    have HX2 := Lib.hid (HXS.out.below b2)
    have HB2 := Lib.hid (bt HB1.out b2)
    clear b2
    go_wp2_with fail
    refine (wcheck X k cx i xs w2 HX2.out).mono ?_
    rintro e w3 ⟨rfl, rfl⟩
    go_wp2
    go_ret
    exact ⟨by rw [HVV.out]; rfl, HB2.out⟩
  · rw [if_neg h0] at HVV
    go_enter Try.func55, Try.ntmps55
    go_wp2_with fail
    rw [← HW1.out]
    refine HV.out.mono ?_
    rintro e w2 ⟨rfl, b2⟩
    clear k0 k1 k2 k3
    have HB2 := Lib.hid (bt HB1.out b2)
    clear b2
    have hne : (v != 0) = true := by simpa using h0
    go_wp2
    go_ret
    exact ⟨by rw [HVV.out]; rfl, HB2.out⟩
end Go.Proofs.Ytogcecfeofbbnaa
end

section
/- homing: the outputs of a set. -/
namespace Go.Proofs.Ytogcecfeofbbnaa
open Go.RowKit Go.Shelf

theorem take_getD_succ' {l : List Int} {j : Nat} (h : j < l.length) : l.take j ++ [l.getD j 0] = l.take (j + 1) := by
  rw [List.take_succ_eq_append_getElem h, List.getD_eq_getElem?_getD, List.getElem?_eq_getElem h]; rfl
set_option maxHeartbeats 4000000 in
set_option maxRecDepth 100000 in
theorem poutputs (i st n k cx a : Nat) (A B X : Option Addr) (c d : Nat) (nx ot : List (List Int)) (xs : List Int) (w : World) (ho : Lists w B n ot) (hM : Mok i st n nx ot) (hxs : Ints w X k xs) (hk : k ≤ 128) (hst : ∀ x, x ∈ xs → ∃ s : Nat, x = s ∧ s < n) (ha : a < i) :
    Calls Try.prog 115 #[.slice X k cx, .agg #[.int .i64 i, .int .i64 st, .slice A n c, .slice B n d], .int .i64 a] w fun e w' => ∃ A' c', e = .returned (.slice A' (cs (xs.map fun s => oN ot s.toNat a)).length c') ∧ Owned w' w.heap.size (.slice A' (cs (xs.map fun s => oN ot s.toNat a)).length c') (cs (xs.map fun s => oN ot s.toNat a)) ∧ Below w.heap.size w w' := by
  obtain ⟨w1, hw1⟩ : ∃ w1, w1 = w.alloc (.cells #[.int .i64 i, .int .i64 st, .slice A n c, .slice B n d] 24) := ⟨_, rfl⟩
  have b1 : Below w.heap.size w w1 := by rw [hw1]; exact alloc_below _ _
  have m1 : Mblk w1 w.heap.size (.int .i64 i) (.int .i64 st) (.slice A n c) (.slice B n d) := by rw [hw1]; exact mealy_box _ _ _ _ _
  have z1 : w1.heap.size = w.heap.size + 1 := by rw [hw1]; simp
  obtain ⟨ys, hys⟩ : ∃ ys, ys = xs.map fun s => oN ot s.toNat a := ⟨_, rfl⟩
  have hkl := hxs.1
  have hyl : ys.length = k := by rw [hys, List.length_map, hkl]
  have HYA : Hid (∀ q, q < k → ∃ s : Nat, xs.getD q 0 = s ∧ s < n ∧ ys.getD q 0 = oN ot s a) := Lib.hid fun q hq => by
    obtain ⟨s, h1, h2⟩ := hst _ (getD_in (xs := xs) (k := q) (by omega))
    refine ⟨s, h1, h2, ?_⟩
    rw [hys, List.getD_eq_getElem?_getD, List.getElem?_map, List.getElem?_eq_getElem (by omega)]
    rw [List.getD_eq_getElem?_getD, List.getElem?_eq_getElem (by omega)] at h1
    have h1 : xs[q] = (s : Int) := h1
    show oN ot (xs[q]).toNat a = _
    rw [h1, Int.toNat_natCast]
  have HCS : Hid (Lib.compact (ys.mergeSort fun x y => decide (x ≤ y)) = cs (xs.map fun s => oN ot s.toNat a)) := Lib.hid (by rw [hys]; rfl)
  have HW1 := Lib.hid hw1
  have HM1 := Lib.hid m1
  have HO := Lib.hid (ho.below b1)
  have HX := Lib.hid (hxs.below b1)
  have HB1 := Lib.hid b1
  have HM := Lib.hid hM
  generalize cs (xs.map fun s => oN ot s.toNat a) = R at HCS ⊢
  clear hw1 m1 b1 ho hxs hst hys hM
  go_enter Try.func115, Try.ntmps115
  go_wp2
  rw [← HW1.out]
  go_loopw [12, 7] (fun kv sv wr => ∃ (q : Nat) (A' : Option Addr) (c' : Nat), q ≤ k ∧ kv = .int .i64 q ∧ sv = .slice A' q c' ∧ Owned wr w1.heap.size (.slice A' q c') (ys.take q) ∧ Below w1.heap.size w1 wr) (fun kv _ _ => k - (intOf kv).toNat)
  case atStart => exact ⟨0, none, 0, Nat.zero_le _, rfl, rfl, Owned.nil _ _, Below.refl _ _⟩
  case round =>
    obtain ⟨q, A', c', hq, rfl, rfl, hown, hbr⟩ := hrel
    have HBR := Lib.hid hbr
    by_cases hlt : q < k
    · obtain ⟨s, hs1, hs2, hs3⟩ := HYA.out q hlt
      obtain ⟨gx, ox, rfl, _, cx1⟩ := (HX.out.below hbr).at_ hlt
      rw [hs1] at cx1
      obtain ⟨k0, k1, k2, k3, _⟩ := (HM1.out.kept hbr (by omega)).cells
      obtain ⟨g1, p1, A3, n1, c3, rfl, hg3, hd1, hr1⟩ := (HO.out.below hbr).at_ hs2
      obtain rfl : n1 = i := by have := hr1.1; have := (HM.out.row s hs2).2.1; omega
      obtain ⟨g3, p3, rfl, _, hy1⟩ := hr1.at_ ha
      rw [show (ot.getD s []).getD a 0 = ys.getD q 0 from hs3.symm] at hy1
      have htk : ys.take q ++ [ys.getD q 0] = ys.take (q + 1) := take_getD_succ' (by omega)
      have hlq : (ys.take q).length = q := by rw [List.length_take]; omega
      obtain ⟨A2, c2, w2, hr, ho2, hb2, _⟩ := run_append_onek hown (ys.getD q 0) hbr.size (by omega)
      rw [htk] at ho2
      rw [hlq] at hr ho2
      have HO2 := Lib.hid ho2
      have HB2 := Lib.hid (hbr.trans hb2)
      generalize ys.getD q 0 = y at hy1 hr
      clear hr1 hs3 hs1 htk hlq ho2 hb2 hown hbr
      go_wp2_with (at_builtin; refine Lib.wpList_append_run _ rfl _ _ _ _ rfl _ _ rfl rfl _ _ hr ?_)
      go_roundw
      case rel => exact ⟨q + 1, A2, c2, by omega, by go_num, rfl, HO2.out, HB2.out⟩
      case measure => simp [intOf]; omega
    · obtain rfl : q = k := by omega
      have e1 : ys.take q = ys := by rw [← hyl, List.take_length]
      rw [e1] at hown
      have HO2 := Lib.hid hown
      have hb2 : q ≤ 17592186044416 := by omega
      clear hown hbr e1
      go_wp2_with fail
      refine (psorti A' q c' ys w1.heap.size wr HO2.out HBR.out.size hb2).mono ?_
      rintro e w7 ⟨rfl, ho7, b7⟩
      have HO7 := Lib.hid ho7
      have HB7 := Lib.hid (HBR.out.trans b7)
      clear ho7 b7
      go_wp2_with fail
      refine (pcompacti A' q c' _ w1.heap.size w7 HO7.out HB7.out.size hb2).mono ?_
      rintro e w8 ⟨A8, c8, rfl, ho8, b8⟩
      rw [HCS.out] at ho8 ⊢
      have HO8 := Lib.hid ho8
      have HB8 := Lib.hid (HB7.out.trans b8)
      clear ho8 b8
      go_wp2
      go_ret
      exact ⟨A8, c8, rfl, HO8.out.lower (by omega), HB1.out.trans (HB8.out.mono (by omega))⟩
end Go.Proofs.Ytogcecfeofbbnaa
end

section
/- A row of sets of one's own. -/
namespace Go.Proofs.Ytogcecfeofbbnaa
open Go.RowKit

theorem infog : (Try.prog.info? 71).map (fun i => (i.zero, i.size, i.bytes)) = some (some (.slice none 0 0), 1, 24) := by kernel_rfl
/-- The slice value v is a row of lists in blocks from base on, which the call may write. -/
def OwnedG (w : World) (base : Nat) (v : Value) (xss : List (List Int)) : Prop :=
  ∃ vs : List Value, w.ownsRow base 71 1 v xss.length vs ∧ ∀ j, j < xss.length → ∃ A c, vs[j]? = some (.slice A (xss.getD j []).length c) ∧ Owned w base (.slice A (xss.getD j []).length c) (xss.getD j [])

theorem OwnedG.nil (w : World) (base : Nat) : OwnedG w base (.slice none 0 0) [] := ⟨[], World.ownsRow_nil _ _ _ _, fun j h => absurd h (by simp)⟩
theorem OwnedG.form {w : World} {base : Nat} {v : Value} {xss : List (List Int)} (h : OwnedG w base v xss) : ∃ A c, v = .slice A xss.length c := by
  obtain ⟨vs, h, _⟩ := h
  rcases h.2 with ⟨rfl, h0⟩ | ⟨g, cap, cur, rfl, _⟩
  · have : xss.length = 0 := h0
    exact ⟨none, 0, by rw [this]⟩
  · exact ⟨_, _, rfl⟩
theorem OwnedG.keptT {w w' : World} {base : Nat} {v : Value} {xss : List (List Int)} (h : OwnedG w base v xss) (hk : KeptT 3 w w') (hl : KeptT 71 w w') : OwnedG w' base v xss := by
  obtain ⟨vs, h, hr⟩ := h
  refine ⟨vs, ⟨h.1, ?_⟩, fun j hj => ?_⟩
  · rcases h.2 with e | ⟨g, cap, cur, hv, hbg, hg, r⟩
    · exact .inl e
    · exact .inr ⟨g, cap, cur, hv, hbg, hl g cur hg, r⟩
  · obtain ⟨A, c, h1, h2⟩ := hr j hj
    exact ⟨A, c, h1, h2.keptT hk⟩
theorem OwnedG.kept {w w' : World} {base : Nat} {v : Value} {xss : List (List Int)} (h : OwnedG w base v xss) (hb : Below w.heap.size w w') : OwnedG w' base v xss := h.keptT (KeptT.of_below hb) (KeptT.of_below hb)
theorem OwnedG.lower {w : World} {base base' : Nat} {v : Value} {xss : List (List Int)} (h : OwnedG w base v xss) (hb : base' ≤ base) : OwnedG w base' v xss := by
  obtain ⟨vs, h, hr⟩ := h
  refine ⟨vs, ⟨h.1, ?_⟩, fun j hj => ?_⟩
  · rcases h.2 with e | ⟨g, cap, cur, hv, hbg, r⟩
    · exact .inl e
    · exact .inr ⟨g, cap, cur, hv, by omega, r⟩
  · obtain ⟨A, c, h1, h2⟩ := hr j hj
    exact ⟨A, c, h1, h2.lower hb⟩
theorem OwnedG.lists {w : World} {base : Nat} {A : Option Addr} {n c : Nat} {xss : List (List Int)} (h : OwnedG w base (.slice A n c) xss) (hm : xss.length ≤ 17592186044416) (hr : ∀ xs, xs ∈ xss → xs.length ≤ 17592186044416) : Lists w A n xss := by
  have hn : n = xss.length := by obtain ⟨A', c', e⟩ := h.form; cases e; rfl
  subst hn
  obtain ⟨vs, ho, hv⟩ := h
  refine ⟨rfl, hm, fun h0 => ?_⟩
  rcases ho.2 with ⟨e, h1⟩ | ⟨g, cap, cur, e, _, hg, _⟩
  · have : xss.length = 0 := h1
    omega
  · cases e
    refine ⟨g, 0, rfl, heap_lt hg, fun j hj => ?_⟩
    obtain ⟨A, c, h1, h2⟩ := hv j hj
    have h3 := World.ownsRow.cellAt ho j (by omega)
    refine ⟨A, _, c, ?_, h2.ints (hr _ ?_)⟩
    · rw [Nat.zero_add, h3, h1]
    · rw [List.getD_eq_getElem?_getD, List.getElem?_eq_getElem hj]; exact List.getElem_mem _

theorem OwnedG.lt {w : World} {base : Nat} {v : Value} {xss : List (List Int)} (h : OwnedG w base v xss) : ∀ k, v.ownBlock = some k → base ≤ k ∧ k < w.heap.size := by
  obtain ⟨vs, ho, _⟩ := h
  exact World.ownsRow.lt ho
theorem OwnedG.keptB {w w' : World} {base : Nat} {u v : Value} {xss : List (List Int)} (h : OwnedG w base v xss) (hk : KeptB u.ownBlock w w') (ha : Apart u v) (hi : KeptT 3 w w') : OwnedG w' base v xss := by
  obtain ⟨vs, ho, hr⟩ := h
  refine ⟨vs, ⟨ho.1, ?_⟩, fun j hj => ?_⟩
  · rcases ho.2 with e | ⟨g, cap, cur, hv, hbg, hg, r⟩
    · exact .inl e
    · exact .inr ⟨g, cap, cur, hv, hbg, hk g _ hg (fun e => ha g e (by rw [hv]; rfl)), r⟩
  · obtain ⟨A, c, h1, h2⟩ := hr j hj
    exact ⟨A, c, h1, h2.keptT hi⟩
theorem Apart.movedG {w : World} {base : Nat} {v v' u : Value} {xss : List (List Int)} (h : Apart v u) (hm : Moved w v v') (hu : OwnedG w base u xss) : Apart v' u := by
  rcases hm with e | ⟨g, hg, e⟩
  · intro k hk; rw [e] at hk; exact h k hk
  · intro k hk h2
    rw [e] at hk
    injection hk with hk
    have := (hu.lt k h2).2
    omega

/-- append of one list to a row of lists. -/
theorem run_append_grp {w : World} {base : Nat} {v : Value} {xss : List (List Int)} {B : Option Addr} {m d : Nat} {xs : List Int} (h : OwnedG w base v xss) (hx : Owned w base (.slice B m d) xs) (hbase : base ≤ w.heap.size) (hl : xss.length < 1759218604441) :
    ∃ A c w', (Builtin.append_ #[67, 67] 67 #[v, .slice (some ⟨w.heap.size, 0, none⟩) 1 1]).run Try.prog (w.alloc (.cells #[.slice B m d] 71)) = .ok (.slice A (xss.length + 1) c) w' ∧
      OwnedG w' base (.slice A (xss.length + 1) c) (xss ++ [xs]) ∧ Below base w w' ∧ (∀ t, t ≠ 71 → KeptT t w w') ∧ KeptB v.ownBlock w w' ∧ Moved w v (.slice A (xss.length + 1) c) := by
  obtain ⟨i, hi, hz0, hz1, hz2⟩ := info_parts infog
  obtain ⟨vs, ho, hv⟩ := h
  have hbz := alloc_below w (.cells #[.slice B m d] 71)
  have ho1 : (w.alloc (.cells #[.slice B m d] 71)).ownsRow base 71 1 v xss.length vs := by
    refine ⟨ho.1, ?_⟩
    rcases ho.2 with e | ⟨g, cap, cur, hv, hbg, hg, r⟩
    · exact .inl e
    · exact .inr ⟨g, cap, cur, hv, hbg, (hbz.block g (heap_lt hg)).trans hg, r⟩
  obtain ⟨v', w', hr, h1, h2, _, hmv⟩ := run_append_own_at (P := Try.prog) (w.alloc (.cells #[.slice B m d] 71)) base 67 67 71 i (.slice none 0 0) 1 24 Try.underlying67 hi hz0 hz1 hz2 rfl (by decide) v _ _ ho1 ⟨w.heap.size, 0, none⟩ 1 1 [.slice B m d] (by simp)
    (by
      intro j u hu
      cases j with
      | zero =>
        simp at hu
        subst hu
        simp [Addr.add]
      | succ j => simp at hu)
    (by intro u hu; simp at hu; subst hu; rfl) (by unfold maxLen; omega) (by omega) (Nat.le_trans hbase hbz.size)
  have hs : ∀ t, t ≠ 71 → KeptT t w w' := fun t ht => (KeptT.of_below hbz).trans (KeptT.grown h2 ho1 ht)
  have hform : ∃ A c, v' = .slice A (xss.length + 1) c := by
    rcases h1.2 with ⟨rfl, h0⟩ | ⟨g, cap, cur, rfl, _⟩
    · have := h1.1; rw [h0] at this; simp at this
    · exact ⟨_, _, rfl⟩
  obtain ⟨A, c, rfl⟩ := hform
  have hkb : KeptB v.ownBlock w w' := fun g o e hne => (h2.block g (Nat.lt_of_lt_of_le (heap_lt e) hbz.size) (fun e2 => hne e2.symm)).trans ((hbz.block g (heap_lt e)).trans e)
  have hmoved : Moved w v (.slice A (xss.length + 1) c) := by
    rcases hmv with e | e
    · exact .inl e
    · exact .inr ⟨_, by simp, e⟩
  have hn : m = xs.length := by obtain ⟨A', c', e⟩ := hx.form; cases e; rfl
  subst hn
  refine ⟨A, c, w', hr, ⟨vs ++ [.slice B xs.length d], by rw [List.length_append]; exact h1, fun j hj => ?_⟩, (hbz.mono hbase).trans ((Below.refl _ _).grown h2 (Nat.le_trans hbase hbz.size) (fun k hk => (World.ownsRow.lt ho1 k hk).1)), hs, hkb, hmoved⟩
  have hvl : vs.length = xss.length := by have := ho.1; omega
  by_cases e : j < xss.length
  · obtain ⟨A2, c2, h3, h4⟩ := hv j e
    have hg : (xss ++ [xs]).getD j [] = xss.getD j [] := by rw [List.getD_eq_getElem?_getD, List.getD_eq_getElem?_getD, List.getElem?_append_left e]
    rw [hg]
    exact ⟨A2, c2, by rw [List.getElem?_append_left (by omega)]; exact h3, h4.keptT (hs _ (by decide))⟩
  · have hjl : j = xss.length := by simp at hj; omega
    subst hjl
    have hg : (xss ++ [xs]).getD xss.length [] = xs := by simp
    rw [hg]
    exact ⟨B, d, by rw [List.getElem?_append_right (by omega), hvl]; simp, hx.keptT (hs _ (by decide))⟩
end Go.Proofs.Ytogcecfeofbbnaa
end

section
/- homing: a group is added. -/
namespace Go.Proofs.Ytogcecfeofbbnaa
open Go.RowKit Go.Shelf

/-- The groups with one more, if it has several states. -/
def gadd (G : List (List Int)) (xs : List Int) : List (List Int) := if 1 < xs.length then G ++ [xs] else G

set_option maxHeartbeats 2000000 in
set_option maxRecDepth 100000 in
theorem padd (gx base m d : Nat) (B : Option Addr) (v : Value) (G : List (List Int)) (xs : List Int) (w : World) (hx : w.heap[gx]? = some (.cells #[v] 67 (0, 0))) (hg : gx < base) (hb : base ≤ w.heap.size) (hG : OwnedG w base v G) (hxs : Owned w base (.slice B m d) xs) (hl : G.length < 1759218604441) (hm : m ≤ 1024) :
    Calls Try.prog 87 #[.pointer (some ⟨gx, 0, none⟩), .slice B m d] w fun e w' => e = .returned (.tuple #[]) ∧ ∃ v', w'.heap[gx]? = some (.cells #[v'] 67 (0, 0)) ∧ OwnedG w' base v' (gadd G xs) ∧ Below gx w w' ∧ KeptT 3 w w' := by
  have hxl : xs.length = m := by obtain ⟨A', c', e⟩ := hxs.form; cases e; rfl
  by_cases h1 : 1 < m
  · obtain ⟨A2, c2, w2, hr, h2, h3, h4, _⟩ := run_append_grp hG hxs hb hl
    have hx2 : w2.heap[gx]? = some (.cells #[v] 67 (0, 0)) := (h3.block gx hg).trans hx
    have hga : gadd G xs = G ++ [xs] := by unfold gadd; rw [if_pos (by omega)]
    rw [hga]
    have k0 := cell_of_row w gx 0 _ _ (0, 0) hx
    have k1 := cell_of_row w2 gx 0 _ _ (0, 0) hx2
    have f1 := frozen_of_row w2 gx 0 _ _ hx2
    have hend : Hid (∃ v', (w2.setCell ⟨gx, 0, none⟩ (.slice A2 (G.length + 1) c2)).heap[gx]? = some (.cells #[v'] 67 (0, 0)) ∧ OwnedG (w2.setCell ⟨gx, 0, none⟩ (.slice A2 (G.length + 1) c2)) base v' (G ++ [xs]) ∧ Below gx w (w2.setCell ⟨gx, 0, none⟩ (.slice A2 (G.length + 1) c2)) ∧ KeptT 3 w (w2.setCell ⟨gx, 0, none⟩ (.slice A2 (G.length + 1) c2))) :=
      Lib.hid ⟨_, heap_setCell_same w2 gx 0 _ _ _ hx2, h2.keptT (KeptT.off hx2 (by decide) _) (KeptT.off hx2 (by decide) _), (h3.mono (show gx ≤ base by omega)).setCell (show gx ≤ (⟨gx, 0, none⟩ : Addr).block from Nat.le_refl _) _, (h4 _ (by decide)).trans (KeptT.off hx2 (by decide) _)⟩
    have hgt : ((m : Int) > 1) := by omega
    obtain ⟨Av, cv, rfl⟩ := hG.form
    clear hG hxs h2 h3 h4 hx hx2 hga
    go_enter Try.func87, Try.ntmps87
    go_wp2_with (at_builtin; refine Lib.wpList_append_run _ rfl _ _ _ _ rfl _ _ rfl rfl _ _ hr ?_)
    go_end0
    exact ⟨rfl, hend.out⟩
  · have hga : gadd G xs = G := by unfold gadd; rw [if_neg (by omega)]
    rw [hga]
    have HX := Lib.hid hx
    have HG := Lib.hid hG
    have hgt : ¬ ((m : Int) > 1) := by omega
    clear hG hxs hx hga
    go_enter Try.func87, Try.ntmps87
    go_wp2
    go_end0
    exact ⟨rfl, v, HX.out, HG.out, Below.refl _ _, fun _ _ h => h⟩
end Go.Proofs.Ytogcecfeofbbnaa
end

section
/- homing: the groups of the empty word, and of one more input. -/
namespace Go.Proofs.Ytogcecfeofbbnaa
open Go.RowKit Go.Shelf

set_option maxHeartbeats 2000000 in
set_option maxRecDepth 100000 in
theorem pbegin (a b f : Value) (n c : Nat) (A : Option Addr) (w : World) (hn : n ≤ 1024) :
    Calls Try.prog 49 #[.agg #[a, b, .slice A n c, f]] w fun e w' => ∃ A' c', e = .returned (.slice A' (gadd [] (zs (List.range n))).length c') ∧ OwnedG w' w.heap.size (.slice A' (gadd [] (zs (List.range n))).length c') (gadd [] (zs (List.range n))) ∧ Below w.heap.size w w' := by
  obtain ⟨w1, hw1⟩ : ∃ w1, w1 = w.alloc (.cells #[a, b, .slice A n c, f] 24) := ⟨_, rfl⟩
  obtain ⟨w2, hw2⟩ : ∃ w2, w2 = w1.alloc (.cells #[.slice none 0 0] 67) := ⟨_, rfl⟩
  have b1 : Below w.heap.size w w1 := by rw [hw1]; exact alloc_below _ _
  have b2 : Below w1.heap.size w1 w2 := by rw [hw2]; exact alloc_below _ _
  have z1 : w1.heap.size = w.heap.size + 1 := by rw [hw1]; simp
  have z2 : w2.heap.size = w.heap.size + 1 + 1 := by rw [hw2]; simp [z1]
  have m1 : Mblk w1 w.heap.size a b (.slice A n c) f := by rw [hw1]; exact mealy_box _ _ _ _ _
  have m2 := m1.kept b2 (by omega)
  have x2 : w2.heap[w.heap.size + 1]? = some (.cells #[.slice none 0 0] 67 (0, 0)) := by
    have h := heap_alloc_new w1 (.cells #[.slice none 0 0] 67)
    rw [← hw2, z1] at h
    exact h
  obtain ⟨k0, k1, k2, k3, _⟩ := m2.cells
  have hww : w2 = (w.alloc (.cells #[a, b, .slice A n c, f] 24)).alloc (.cells #[.slice none 0 0] 67) := by rw [hw2, hw1]
  rw [hww] at k0 k1 k2 k3
  have HW2 := Lib.hid hww
  have HB2 := Lib.hid (bt b1 b2)
  have HX2 := Lib.hid x2
  clear hw1 hw2 b1 b2 m1 m2 x2 hww
  go_enter Try.func49, Try.ntmps49
  go_wp2_with fail
  rw [← HW2.out]
  refine (pall a b f n c A w2 hn).mono ?_
  rintro e w3 ⟨A3, c3, rfl, ho3, b3⟩
  have hx3 := (b3.block (w.heap.size + 1) (by omega)).trans HX2.out
  have HO3 := Lib.hid ho3
  have HX3 := Lib.hid hx3
  have HB3 := Lib.hid b3
  have hz3 := b3.size
  clear ho3 hx3 b3 k0 k1 k2 k3
  go_wp2_with fail
  refine (padd (w.heap.size + 1) w2.heap.size n c3 A3 (.slice none 0 0) [] (zs (List.range n)) w3 HX3.out (by omega) hz3 (OwnedG.nil _ _) HO3.out (by simp) hn).mono ?_
  rintro e w4 ⟨rfl, v4, hx4, hG4, b4, _⟩
  obtain ⟨A4, c4, rfl⟩ := hG4.form
  have k4 := cell_of_row w4 (w.heap.size + 1) 0 _ _ (0, 0) hx4
  have HG4 := Lib.hid (hG4.lower (show w.heap.size ≤ w2.heap.size by omega))
  have HB4 := Lib.hid ((HB2.out.trans (HB3.out.mono (show w.heap.size ≤ w2.heap.size by omega))).trans (b4.mono (show w.heap.size ≤ w.heap.size + 1 by omega)))
  clear hx4 hG4 b4
  go_wp2
  go_ret
  exact ⟨A4, c4, rfl, HG4.out, HB4.out⟩
end Go.Proofs.Ytogcecfeofbbnaa
end

section
/- homing: the groups after one more input. -/
namespace Go.Proofs.Ytogcecfeofbbnaa
open Go.RowKit Go.Shelf

def gsq (nx ot : List (List Int)) (xs : List Int) (a : Nat) (os : List Int) (q : Nat) : List (List Int) := ((os.take q).map fun o => aft nx ot xs a o).filter fun l => decide (1 < l.length)
theorem gsq_next {nx ot : List (List Int)} {xs : List Int} {a : Nat} {os : List Int} {q : Nat} (G : List (List Int)) (h : q < os.length) : gadd (G ++ gsq nx ot xs a os q) (aft nx ot xs a (os.getD q 0)) = G ++ gsq nx ot xs a os (q + 1) := by
  unfold gsq gadd
  rw [← take_getD_succ' h, List.map_append, List.filter_append, ← List.append_assoc]
  generalize os.getD q 0 = o
  by_cases h1 : 1 < (aft nx ot xs a o).length
  · rw [if_pos h1]
    simp [h1]
  · rw [if_neg h1]
    simp [h1]
theorem gsq_len (nx ot : List (List Int)) (xs : List Int) (a : Nat) (os : List Int) (q : Nat) : (gsq nx ot xs a os q).length ≤ os.length := by
  unfold gsq
  refine Nat.le_trans (List.length_filter_le _ _) ?_
  rw [List.length_map, List.length_take]
  omega
theorem gspl_next {nx ot : List (List Int)} {G : List (List Int)} {a k : Nat} (h : k < G.length) : gspl nx ot (G.take (k + 1)) a = gspl nx ot (G.take k) a ++ gsp nx ot (G.getD k []) a := by
  unfold gspl
  rw [List.take_succ_eq_append_getElem h, List.flatMap_append, List.getD_eq_getElem?_getD, List.getElem?_eq_getElem h]
  simp
theorem gspl_len {nx ot : List (List Int)} {G : List (List Int)} {a : Nat} (hG : ∀ xs, xs ∈ G → xs.length ≤ 128) : ∀ {k : Nat}, k ≤ G.length → (gspl nx ot (G.take k) a).length ≤ k * 128
  | 0, _ => by simp [gspl]
  | k + 1, h => by
    rw [gspl_next (by omega), List.length_append]
    have ih := gspl_len hG (nx := nx) (ot := ot) (a := a) (k := k) (by omega)
    have h1 : (gsp nx ot (G.getD k []) a).length ≤ 128 := by
      unfold gsp
      refine Nat.le_trans (List.length_filter_le _ _) ?_
      rw [List.length_map]
      refine Nat.le_trans (cs_len _) ?_
      rw [List.length_map, List.getD_eq_getElem?_getD, List.getElem?_eq_getElem (by omega)]
      exact hG _ (List.getElem_mem _)
    omega

set_option maxHeartbeats 4000000 in
set_option maxRecDepth 100000 in
theorem psplit (i st n a L cg : Nat) (A B X : Option Addr) (c d : Nat) (nx ot G : List (List Int)) (w : World) (hx : Lists w A n nx) (ho : Lists w B n ot) (hM : Mok i st n nx ot) (hg : Lists w X L G) (hL : L ≤ 128) (hst : ∀ xs, xs ∈ G → xs.length ≤ 128 ∧ ∀ x, x ∈ xs → ∃ s : Nat, x = s ∧ s < n) (ha : a < i) :
    Calls Try.prog 91 #[.slice X L cg, .agg #[.int .i64 i, .int .i64 st, .slice A n c, .slice B n d], .int .i64 a] w fun e w' => ∃ A' c', e = .returned (.slice A' (gspl nx ot G a).length c') ∧ OwnedG w' w.heap.size (.slice A' (gspl nx ot G a).length c') (gspl nx ot G a) ∧ Below w.heap.size w w' := by
  obtain ⟨w1, hw1⟩ : ∃ w1, w1 = w.alloc (.cells #[.int .i64 i, .int .i64 st, .slice A n c, .slice B n d] 24) := ⟨_, rfl⟩
  obtain ⟨w2, hw2⟩ : ∃ w2, w2 = w1.alloc (.cells #[.slice none 0 0] 67) := ⟨_, rfl⟩
  have b1 : Below w.heap.size w w1 := by rw [hw1]; exact alloc_below _ _
  have b2 : Below w1.heap.size w1 w2 := by rw [hw2]; exact alloc_below _ _
  have z1 : w1.heap.size = w.heap.size + 1 := by rw [hw1]; simp
  have z2 : w2.heap.size = w.heap.size + 1 + 1 := by rw [hw2]; simp [z1]
  have m1 : Mblk w1 w.heap.size (.int .i64 i) (.int .i64 st) (.slice A n c) (.slice B n d) := by rw [hw1]; exact mealy_box _ _ _ _ _
  have m2 := m1.kept b2 (by omega)
  have x2 : w2.heap[w.heap.size + 1]? = some (.cells #[.slice none 0 0] 67 (0, 0)) := by
    have h := heap_alloc_new w1 (.cells #[.slice none 0 0] 67)
    rw [← hw2, z1] at h
    exact h
  have hww : w2 = (w.alloc (.cells #[.int .i64 i, .int .i64 st, .slice A n c, .slice B n d] 24)).alloc (.cells #[.slice none 0 0] 67) := by rw [hw2, hw1]
  have HW2 := Lib.hid hww
  have bw := bt b1 b2
  have HB2 := Lib.hid bw
  have HX2 := Lib.hid x2
  have HM2 := Lib.hid m2
  have HXS := Lib.hid hx
  have HOS := Lib.hid ho
  have HGS := Lib.hid hg
  have HST := Lib.hid hst
  have HMO := Lib.hid hM
  have hgl := hg.1
  have hLN := fun k hk => gspl_len (nx := nx) (ot := ot) (a := a) (fun xs h => (hst xs h).1) (k := k) hk
  have HLN := Lib.hid hLN
  have hn := hM.n2
  clear hw1 hw2 b1 b2 m1 m2 x2 hww bw hx ho hg hst hM hLN
  go_enter Try.func91, Try.ntmps91
  go_wp2
  rw [← HW2.out]
  go_loopw [14] (fun kv wr => ∃ (k : Nat) (v : Value), k ≤ L ∧ kv = .int .i64 k ∧ wr.heap[w.heap.size + 1]? = some (.cells #[v] 67 (0, 0)) ∧ OwnedG wr w2.heap.size v (gspl nx ot (G.take k) a) ∧ Below (w.heap.size + 1) w2 wr ∧ w2.heap.size ≤ wr.heap.size) (fun kv _ => L - (intOf kv).toNat)
  case atStart => exact ⟨0, _, Nat.zero_le _, rfl, HX2.out, OwnedG.nil _ _, Below.refl _ _, Nat.le_refl _⟩
  case round =>
    obtain ⟨k, v, hk, rfl, hxc, hG, hbr, hzr⟩ := hrel
    have HXC := Lib.hid hxc
    have HG := Lib.hid hG
    have HBR := Lib.hid hbr
    have hbw : Below w.heap.size w wr := HB2.out.trans (hbr.mono (by omega))
    by_cases hlt : k < L
    · obtain ⟨gX, oX, AX, nX, cX, rfl, hgX, hxd0, hxr0⟩ := HGS.out.at_ hlt
      have hxd := (hbw.cell (p := ⟨gX, oX + k, none⟩) hgX).trans hxd0
      have hxr := hxr0.below hbw
      have HXR0 := Lib.hid hxr0
      clear hxd0 hxr0
      have hGi : G.getD k [] ∈ G := by rw [List.getD_eq_getElem?_getD, List.getElem?_eq_getElem (by omega)]; exact List.getElem_mem _
      obtain ⟨hx128, hxst⟩ := HST.out _ hGi
      have hnext := Lib.hid (gspl_next (nx := nx) (ot := ot) (G := G) (a := a) (k := k) (by omega))
      have hlen := HLN.out (k + 1) (by omega)
      have hlk := HLN.out k (by omega)
      rw [hnext.out] at hlen
      generalize gspl nx ot (G.take k) a = P at HG hG hnext hlen hlk
      generalize G.getD k [] = xs at hxr HXR0 hx128 hxst hnext hlen
      have hnX : nX ≤ 128 := by have := hxr.1; omega
      obtain ⟨k0, k1, k2, k3, _⟩ := (HM2.out.kept hbr (by omega)).cells
      have HP := Lib.hid (poutputs i st n nX cX a A B AX c d nx ot xs wr (HOS.out.below hbw) HMO.out hxr hnX hxst ha)
      have hol : (cs (xs.map fun s => oN ot s.toNat a)).length ≤ 128 := Nat.le_trans (cs_len _) (by rw [List.length_map]; exact hx128)
      have hgs : Hid (gsq nx ot xs a (cs (xs.map fun s => oN ot s.toNat a)) (cs (xs.map fun s => oN ot s.toNat a)).length = gsp nx ot xs a) := Lib.hid (by unfold gsq gsp; rw [List.take_length])
      generalize cs (xs.map fun s => oN ot s.toNat a) = os at HP hol hgs
      have HBW := Lib.hid hbw
      have HXR := Lib.hid hxr
      have HXT := Lib.hid hxst
      clear hxr hxst hbw hG hxc hbr hGi
      go_wp2_with fail
      refine HP.out.mono ?_
      rintro e w3 ⟨A3, c3, rfl, ho3, b3⟩
      have HO3 := Lib.hid ho3
      have hxc3 := (b3.block (w.heap.size + 1) (by omega)).trans HXC.out
      have HXC3 := Lib.hid hxc3
      have HG3 := Lib.hid (HG.out.kept b3)
      have HBR3 := Lib.hid (HBR.out.trans (b3.mono (show w.heap.size + 1 ≤ wr.heap.size by omega)))
      have hz3 := b3.size
      have HI3 := Lib.hid (HO3.out.ints (by omega))
      have HXR3 := Lib.hid (HXR.out.below b3)
      clear ho3 hxc3 b3 HXC HG HBR k0 k1 k2 k3 HXR
      generalize hol' : os.length = l at HI3 hol hgs ⊢
      go_wp2
      obtain ⟨wo, hwo⟩ : ∃ wo : World, wo = wr := ⟨_, rfl⟩
      subst hwo
      go_loopw [23] (fun kv wq => ∃ (q : Nat) (v' : Value), q ≤ l ∧ kv = .int .i64 q ∧ wq.heap[w.heap.size + 1]? = some (.cells #[v'] 67 (0, 0)) ∧ OwnedG wq w2.heap.size v' (P ++ gsq nx ot xs a os q) ∧ Below (w.heap.size + 1) w2 wq ∧ w3.heap.size ≤ wq.heap.size ∧ Owned wq wo.heap.size (.slice A3 l c3) os) (fun kv _ => l - (intOf kv).toNat)
      case atStart =>
        have e0 : P ++ gsq nx ot xs a os 0 = P := by simp [gsq]
        exact ⟨0, v, Nat.zero_le _, rfl, HXC3.out, by rw [e0]; exact HG3.out, HBR3.out, Nat.le_refl _, by have h := HO3.out; rw [hol'] at h; exact h⟩
      case round =>
        clear HXC3 HG3 HBR3 HO3 HI3
        obtain ⟨q, v', hq, rfl, hxc, hG, hbr, hz4, hos⟩ := hrel
        have HXC := Lib.hid hxc
        have HG := Lib.hid hG
        have HBR := Lib.hid hbr
        have HOS2 := Lib.hid hos
        have hbw : Below w.heap.size w wr := HB2.out.trans (hbr.mono (by omega))
        by_cases hlq : q < l
        · obtain ⟨k0, k1, k2, k3, _⟩ := (HM2.out.kept hbr (by omega)).cells
          obtain ⟨go, oo, rfl, _, co⟩ := (hos.ints (by omega)).at_ (k := q) hlq
          have hgn := Lib.hid (gsq_next (nx := nx) (ot := ot) (xs := xs) (a := a) (os := os) (q := q) P (by omega))
          have hgl2 := gsq_len nx ot xs a os q
          obtain ⟨y, hy⟩ : ∃ y, y = os.getD q 0 := ⟨_, rfl⟩
          rw [← hy] at co hgn
          have HPA := Lib.hid (pafter i st n nX cX a y A B AX c d nx ot xs wr (HXS.out.below hbw) (HOS.out.below hbw) HMO.out (HXR0.out.below hbw) HXT.out ha)
          have hal : (aft nx ot xs a y).length ≤ 1024 := Nat.le_trans (aft_len _ _ _ _ _) (by omega)
          generalize aft nx ot xs a y = ys at HPA hal hgn
          have hpl : (P ++ gsq nx ot xs a os q).length < 1759218604441 := by rw [List.length_append]; omega
          have hzq : w2.heap.size ≤ wr.heap.size := by omega
          clear hy hxc hG hbr hos hbw
          go_wp2_with fail
          refine HPA.out.mono ?_
          rintro e w5 ⟨A5, c5, rfl, ho5, b5⟩
          have hxc5 := (b5.block (w.heap.size + 1) (by omega)).trans HXC.out
          have HG5 := Lib.hid (HG.out.kept b5)
          have HO5 := Lib.hid (ho5.lower hzq)
          have HXC5 := Lib.hid hxc5
          have HBR5 := Lib.hid (HBR.out.trans (b5.mono (show w.heap.size + 1 ≤ wr.heap.size by omega)))
          have HOS5 := Lib.hid (HOS2.out.kept b5)
          have hz5 := b5.size
          clear ho5 b5 hxc5 HXC HG HBR HOS2 k0 k1 k2 k3 co
          go_wp2_with fail
          refine (padd (w.heap.size + 1) w2.heap.size ys.length c5 A5 v' (P ++ gsq nx ot xs a os q) ys w5 HXC5.out (by omega) (by omega) HG5.out HO5.out hpl hal).mono ?_
          rintro e w6 ⟨rfl, v6, hx6, hG6, b6, hk6⟩
          rw [hgn.out] at hG6
          have HX6 := Lib.hid hx6
          have HG6 := Lib.hid hG6
          have HB6 := Lib.hid (HBR5.out.trans b6)
          have HOS6 := Lib.hid (HOS5.out.keptT hk6)
          have hz6 := b6.size
          clear hx6 hG6 b6 hk6
          go_wp2
          go_roundw
          case rel => exact ⟨q + 1, v6, by omega, by go_num, HX6.out, HG6.out, HB6.out, by omega, HOS6.out⟩
          case measure => simp [intOf]; omega
        · obtain rfl : q = l := by omega
          rw [hgs.out, ← hnext.out] at HG
          clear hxc hG hbr hos hbw
          go_wp2
          go_roundw
          case rel => exact ⟨k + 1, v', by omega, by go_num, HXC.out, HG.out, HBR.out, by omega⟩
          case measure => simp [intOf]; omega
    · obtain rfl : k = L := by omega
      have e1 : G.take k = G := by rw [← hgl, List.take_length]
      rw [e1] at hG
      obtain ⟨A4, c4, rfl⟩ := hG.form
      have k4 := cell_of_row wr (w.heap.size + 1) 0 _ _ (0, 0) hxc
      have HG4 := Lib.hid (hG.lower (show w.heap.size ≤ w2.heap.size by omega))
      have HB4 := Lib.hid hbw
      clear hxc hG hbr hbw e1
      go_wp2
      go_ret
      exact ⟨A4, c4, rfl, HG4.out, HB4.out⟩
end Go.Proofs.Ytogcecfeofbbnaa
end

section
/- homing: the groups after a word. -/
namespace Go.Proofs.Ytogcecfeofbbnaa
open Go.RowKit Go.Shelf

theorem Grp.len {n : Nat} {nx ot : List (List Int)} {w : List Int} {G : List (List Int)} (h : Grp n nx ot w G) : G.length ≤ n := by
  obtain ⟨os, h1, rfl, h3⟩ := h
  rw [List.length_map]
  have hex : ∀ o, o ∈ os → ∃ s, s < n ∧ runO nx ot s w = o := fun o ho => cur_some ((h3 o).1 ho)
  have hch : ∀ o, ∃ s, o ∈ os → s < n ∧ runO nx ot s w = o := fun o => by
    by_cases ho : o ∈ os
    · obtain ⟨s, hs⟩ := hex o ho
      exact ⟨s, fun _ => hs⟩
    · exact ⟨0, fun h => absurd h ho⟩
  obtain ⟨f, hf⟩ := Classical.axiomOfChoice hch
  have hS : Stt n (os.map f) := by
    refine ⟨?_, fun x hx => ?_⟩
    · unfold List.Nodup
      rw [List.pairwise_map]
      refine List.Pairwise.imp_of_mem ?_ h1
      intro a b ha hb hab e
      have e1 := (hf a ha).2
      have e2 := (hf b hb).2
      rw [e] at e1
      have hab2 : a = b := e1.symm.trans e2
      rw [hab2] at hab
      exact Lx_irr hab
    · obtain ⟨o, ho, rfl⟩ := List.mem_map.1 hx
      exact (hf o ho).1
  have := hS.len
  rw [List.length_map] at this
  exact this
theorem Grp.mem {n : Nat} {nx ot : List (List Int)} {w : List Int} {G : List (List Int)} (h : Grp n nx ot w G) : ∀ xs, xs ∈ G → xs.length ≤ n ∧ ∀ x, x ∈ xs → ∃ s : Nat, x = s ∧ s < n := by
  obtain ⟨os, _, rfl, _⟩ := h
  intro xs hxs
  obtain ⟨o, _, rfl⟩ := List.mem_map.1 hxs
  refine ⟨?_, fun x hx => cur_nat hx⟩
  unfold cur
  rw [zs_len]
  exact Nat.le_trans (List.length_filter_le _ _) (by rw [List.length_range]; exact Nat.le_refl _)
theorem Grp.begin (n : Nat) (nx ot : List (List Int)) : Grp n nx ot [] (gadd [] (zs (List.range n))) := by
  have h := Grp.start n nx ot
  unfold gadd
  rw [zs_len, List.length_range]
  exact h
theorem OwnedG.rows {w : World} {base : Nat} {A : Option Addr} {c n : Nat} {G : List (List Int)} (h : OwnedG w base (.slice A G.length c) G) (hl : G.length ≤ 128) (hn : n ≤ 128) (hm : ∀ xs, xs ∈ G → xs.length ≤ n) : Lists w A G.length G :=
  h.lists (by omega) fun xs hx => by have := hm xs hx; omega

set_option maxHeartbeats 4000000 in
set_option maxRecDepth 100000 in
theorem pgafter (i st n L cg k cx : Nat) (A B X Y : Option Addr) (c d : Nat) (nx ot G : List (List Int)) (v u : List Int) (w : World) (hx : Lists w A n nx) (ho : Lists w B n ot) (hM : Mok i st n nx ot) (hg : Lists w X L G) (hG : Grp n nx ot v G) (hv : Wd i v) (hu : Ints w Y k u) (huw : Wd i u) (hk : k ≤ 1024) :
    Calls Try.prog 52 #[.slice X L cg, .agg #[.int .i64 i, .int .i64 st, .slice A n c, .slice B n d], .slice Y k cx] w fun e w' => ∃ (A' : Option Addr) (c' : Nat) (G' : List (List Int)), e = .returned (.slice A' G'.length c') ∧ Lists w' A' G'.length G' ∧ Grp n nx ot (v ++ u) G' ∧ Below w.heap.size w w' := by
  obtain ⟨w1, hw1⟩ : ∃ w1, w1 = w.alloc (.cells #[.int .i64 i, .int .i64 st, .slice A n c, .slice B n d] 24) := ⟨_, rfl⟩
  have b1 : Below w.heap.size w w1 := by rw [hw1]; exact alloc_below _ _
  have z1 : w1.heap.size = w.heap.size + 1 := by rw [hw1]; simp
  have m1 : Mblk w1 w.heap.size (.int .i64 i) (.int .i64 st) (.slice A n c) (.slice B n d) := by rw [hw1]; exact mealy_box _ _ _ _ _
  have hn := hM.n2
  have hul := hu.1
  have hLg : L = G.length := hg.1.symm
  subst hLg
  have HW1 := Lib.hid hw1
  have HB1 := Lib.hid b1
  have HM1 := Lib.hid m1
  have HXS := Lib.hid (hx.below b1)
  have HOS := Lib.hid (ho.below b1)
  have HUS := Lib.hid (hu.below b1)
  have HGS := Lib.hid (hg.below b1)
  have HG0 := Lib.hid hG
  have HMO := Lib.hid hM
  have HV := Lib.hid hv
  have HU := Lib.hid huw
  clear hw1 b1 m1 hx ho hM hg hG hv hu huw
  go_enter Try.func52, Try.ntmps52
  go_wp2
  rw [← HW1.out]
  go_loopw [11, 0] (fun kv gv wr => ∃ (q : Nat) (X' : Option Addr) (c' : Nat) (G' : List (List Int)), q ≤ k ∧ kv = .int .i64 q ∧ gv = .slice X' G'.length c' ∧ Lists wr X' G'.length G' ∧ Grp n nx ot (v ++ u.take q) G' ∧ Below w1.heap.size w1 wr) (fun kv _ _ => k - (intOf kv).toNat)
  case atStart => exact ⟨0, X, cg, G, Nat.zero_le _, rfl, rfl, HGS.out, by rw [List.take_zero, List.append_nil]; exact HG0.out, Below.refl _ _⟩
  case round =>
    obtain ⟨q, X', c', G', hq, rfl, rfl, hg, hG, hbr⟩ := hrel
    have HGR := Lib.hid hG
    have HBR := Lib.hid hbr
    have HGL := Lib.hid hg
    have hgl := hG.len
    clear hg hG
    by_cases hlt : q < k
    · obtain ⟨k0, k1, k2, k3, _⟩ := (HM1.out.kept hbr (by omega)).cells
      obtain ⟨gu, ou, rfl, _, cu⟩ := (HUS.out.below hbr).at_ hlt
      have hin := HU.out _ (getD_in (xs := u) (k := q) (by omega))
      obtain ⟨a, ha⟩ : ∃ a : Nat, u.getD q 0 = a := ⟨(u.getD q 0).toNat, by omega⟩
      have htk := take_getD_succ' (l := u) (j := q) (by omega)
      rw [ha] at cu hin htk
      have hwd : Wd i (v ++ u.take q) := HV.out.app fun x hx => HU.out x (List.mem_of_mem_take hx)
      have hstep := Grp.step HMO.out hwd hin HGR.out
      rw [Int.toNat_natCast, List.append_assoc, htk] at hstep
      have HS := Lib.hid hstep
      have HPS := Lib.hid (psplit i st n a G'.length c' A B X' c d nx ot G' wr (HXS.out.below hbr) (HOS.out.below hbr) HMO.out HGL.out (by omega) (fun xs hx => ⟨by have := (HGR.out.mem xs hx).1; omega, (HGR.out.mem xs hx).2⟩) (by omega))
      generalize gspl nx ot G' a = G2 at HS HPS
      have hz := hbr.size
      clear hbr ha htk hwd hstep hin
      go_wp2_with fail
      refine HPS.out.mono ?_
      rintro e w5 ⟨A5, c5, rfl, hG5, b5⟩
      have h5 := HS.out.len
      have HL5 := Lib.hid (hG5.rows (n := n) (by omega) hn fun xs hx => (HS.out.mem xs hx).1)
      have HB5 := Lib.hid (HBR.out.trans (b5.mono hz))
      clear hG5 b5
      go_wp2
      go_roundw
      case rel => exact ⟨q + 1, A5, c5, G2, by omega, by go_num, rfl, HL5.out, HS.out, HB5.out⟩
      case measure => simp [intOf]; omega
    · obtain rfl : q = k := by omega
      have e1 : u.take q = u := by rw [← hul, List.take_length]
      rw [e1] at HGR
      clear hbr
      go_wp2
      go_ret
      exact ⟨X', c', G', rfl, HGL.out, HGR.out, HB1.out.trans (HBR.out.mono (by omega))⟩
end Go.Proofs.Ytogcecfeofbbnaa
end

section
/- Numbering by first occurrence; the classes of states that words of k symbols do not separate. -/
namespace Go.Proofs.Ytogcecfeofbbnaa

section
variable {κ : Type} [BEq κ] [LawfulBEq κ]
/-- What is new is added at the end. -/
def addK (l : List κ) (x : κ) : List κ := if x ∈ l then l else l ++ [x]
/-- The different keys among the first n. -/
def grp (f : Nat → κ) : Nat → List κ
  | 0 => []
  | k + 1 => addK (grp f k) (f k)
theorem addK_pre (l : List κ) (x : κ) : ∃ t, addK l x = l ++ t := by
  unfold addK; split
  · exact ⟨[], by simp⟩
  · exact ⟨[x], rfl⟩
theorem addK_in {l : List κ} {x : κ} (h : x ∈ l) : addK l x = l := by unfold addK; rw [if_pos h]
theorem addK_out {l : List κ} {x : κ} (h : ¬ x ∈ l) : addK l x = l ++ [x] := by unfold addK; rw [if_neg h]
theorem mem_addK (l : List κ) (x : κ) : x ∈ addK l x := by
  unfold addK; split
  · assumption
  · simp
theorem grp_pre (f : Nat → κ) (m : Nat) : ∀ d, ∃ t, grp f (m + d) = grp f m ++ t
  | 0 => ⟨[], by simp⟩
  | d + 1 => by
    obtain ⟨t, ht⟩ := grp_pre f m d
    obtain ⟨u, hu⟩ := addK_pre (grp f (m + d)) (f (m + d))
    exact ⟨t ++ u, by show addK (grp f (m + d)) (f (m + d)) = _; rw [hu, ht, List.append_assoc]⟩
theorem grp_has (f : Nat → κ) {n s : Nat} (h : s < n) : f s ∈ grp f n := by
  obtain ⟨t, ht⟩ := grp_pre f (s + 1) (n - (s + 1))
  rw [show s + 1 + (n - (s + 1)) = n by omega] at ht
  rw [ht]
  exact List.mem_append_left _ (mem_addK _ _)
theorem grp_mem (f : Nat → κ) : ∀ {n : Nat} {x : κ}, x ∈ grp f n → ∃ s, s < n ∧ f s = x
  | 0, x, h => by simp [grp] at h
  | n + 1, x, h => by
    by_cases e : f n ∈ grp f n
    · rw [show grp f (n + 1) = grp f n from addK_in e] at h
      obtain ⟨s, hs, e2⟩ := grp_mem f h
      exact ⟨s, by omega, e2⟩
    · rw [show grp f (n + 1) = grp f n ++ [f n] from addK_out e] at h
      rcases List.mem_append.1 h with h | h
      · obtain ⟨s, hs, e2⟩ := grp_mem f h
        exact ⟨s, by omega, e2⟩
      · simp at h
        exact ⟨n, by omega, h.symm⟩
theorem grp_nodup (f : Nat → κ) : ∀ n, (grp f n).Nodup
  | 0 => by simp [grp]
  | n + 1 => by
    by_cases e : f n ∈ grp f n
    · rw [show grp f (n + 1) = grp f n from addK_in e]; exact grp_nodup f n
    · rw [show grp f (n + 1) = grp f n ++ [f n] from addK_out e]
      refine List.nodup_append.2 ⟨grp_nodup f n, by simp, fun a ha b hb => ?_⟩
      simp at hb; subst hb; intro e2; subst e2; exact e ha
theorem grp_len (f : Nat → κ) : ∀ n, (grp f n).length ≤ n
  | 0 => Nat.le_refl _
  | n + 1 => by
    have := grp_len f n
    obtain ⟨t, ht⟩ := addK_pre (grp f n) (f n)
    show (addK _ _).length ≤ _
    unfold addK
    split
    · omega
    · rw [List.length_append]; simp; omega
theorem idxOf_pre {l t : List κ} {x : κ} (h : x ∈ l) : (l ++ t).idxOf x = l.idxOf x := by rw [List.idxOf_append, if_pos h]
theorem idxOf_new {l : List κ} {x : κ} (h : ¬ x ∈ l) : (l ++ [x]).idxOf x = l.length := by
  rw [List.idxOf_append, if_neg h]; simp
theorem getD_idxOf {l : List κ} {x d : κ} (h : x ∈ l) : l.getD (l.idxOf x) d = x := by
  have := List.idxOf_lt_length_of_mem h
  rw [List.getD_eq_getElem?_getD, List.getElem?_eq_getElem this]
  exact List.getElem_idxOf this
theorem idxOf_inj2 {l : List κ} {x y : κ} (hx : x ∈ l) (hy : y ∈ l) (h : l.idxOf x = l.idxOf y) : x = y := by
  have h1 := getD_idxOf (d := x) hx
  have h2 := getD_idxOf (d := x) hy
  rw [h] at h1
  exact h1.symm.trans h2

/-- The number of s: that of its key among the different keys. -/
def nmb (f : Nat → κ) (s : Nat) : Nat := (grp f (s + 1)).idxOf (f s)
def num (f : Nat → κ) (n : Nat) : List Nat := (List.range n).map (nmb f)
theorem num_len (f : Nat → κ) (n : Nat) : (num f n).length = n := by simp [num]
theorem num_at (f : Nat → κ) {n s : Nat} (h : s < n) : (num f n).getD s 0 = nmb f s := by unfold num; simp [List.getD, h]
theorem nmb_in (f : Nat → κ) {n s : Nat} (h : s < n) : nmb f s = (grp f n).idxOf (f s) := by
  obtain ⟨t, ht⟩ := grp_pre f (s + 1) (n - (s + 1))
  rw [show s + 1 + (n - (s + 1)) = n by omega] at ht
  unfold nmb
  rw [ht, idxOf_pre (grp_has f (Nat.lt_succ_self s))]
theorem nmb_eq (f : Nat → κ) {s t : Nat} : nmb f s = nmb f t ↔ f s = f t := by
  have hs : s < s + t + 1 := by omega
  have ht : t < s + t + 1 := by omega
  rw [nmb_in f hs, nmb_in f ht]
  exact ⟨fun h => idxOf_inj2 (grp_has f hs) (grp_has f ht) h, fun h => by rw [h]⟩
theorem nmb_old (f : Nat → κ) {s : Nat} (h : f s ∈ grp f s) : nmb f s = (grp f s).idxOf (f s) := by
  unfold nmb; rw [show grp f (s + 1) = grp f s from addK_in h]
theorem nmb_new (f : Nat → κ) {s : Nat} (h : ¬ f s ∈ grp f s) : nmb f s = (grp f s).length := by
  unfold nmb; rw [show grp f (s + 1) = grp f s ++ [f s] from addK_out h, idxOf_new h]
theorem nmb_lt (f : Nat → κ) {n s : Nat} (h : s < n) : nmb f s < (grp f n).length := by
  rw [nmb_in f h]; exact List.idxOf_lt_length_of_mem (grp_has f h)
theorem nmb_le (f : Nat → κ) (s : Nat) : nmb f s ≤ s := by
  have h1 := nmb_lt f (show s < s + 1 by omega)
  have h2 := grp_len f (s + 1)
  omega
end

theorem num_congr {κ μ : Type} [BEq κ] [LawfulBEq κ] [BEq μ] [LawfulBEq μ] {f : Nat → κ} {g : Nat → μ} {n : Nat} (h : ∀ s t, s < n → t < n → (f s = f t ↔ g s = g t)) : num f n = num g n := by
  have key : ∀ m, m ≤ n → (grp f m).length = (grp g m).length ∧ ∀ s, s < m → nmb f s = nmb g s := by
    intro m
    induction m with
    | zero => intro _; exact ⟨rfl, fun s hs => absurd hs (by omega)⟩
    | succ m ih =>
      intro hm
      obtain ⟨h1, h2⟩ := ih (by omega)
      by_cases e : f m ∈ grp f m
      · obtain ⟨s, hs, e2⟩ := grp_mem f e
        have e3 : g s = g m := (h s m (by omega) (by omega)).1 e2
        have e4 : g m ∈ grp g m := e3 ▸ grp_has g hs
        refine ⟨?_, fun t ht => ?_⟩
        · rw [show grp f (m + 1) = grp f m from addK_in e, show grp g (m + 1) = grp g m from addK_in e4, h1]
        · by_cases et : t = m
          · subst et
            rw [← (nmb_eq f).2 e2, ← (nmb_eq g).2 e3]; exact h2 s hs
          · exact h2 t (by omega)
      · have e4 : ¬ g m ∈ grp g m := fun H => by
          obtain ⟨s, hs, e2⟩ := grp_mem g H
          exact e ((h s m (by omega) (by omega)).2 e2 ▸ grp_has f hs)
        refine ⟨?_, fun t ht => ?_⟩
        · rw [show grp f (m + 1) = grp f m ++ [f m] from addK_out e, show grp g (m + 1) = grp g m ++ [g m] from addK_out e4, List.length_append, List.length_append, h1]; rfl
        · by_cases et : t = m
          · subst et
            rw [nmb_new f e, nmb_new g e4, h1]
          · exact h2 t (by omega)
  unfold num
  refine List.map_congr_left fun s hs => ?_
  rw [List.mem_range] at hs
  exact (key n (Nat.le_refl _)).2 s hs

/-- The signature of a state, as far as a inputs are told: output and class, input by input. -/
def sgm (nx ot : List (List Int)) (cl : List Nat) (s a : Nat) : List Int := (List.range 128).map fun j => if j / 2 < a then (if j % 2 = 0 then oN ot s (j / 2) else ((cl.getD (nN nx s (j / 2)) 0 : Nat) : Int)) else 0
theorem sgm_len (nx ot : List (List Int)) (cl : List Nat) (s a : Nat) : (sgm nx ot cl s a).length = 128 := by simp [sgm]
theorem sgm_get (nx ot : List (List Int)) (cl : List Nat) (s a j : Nat) (h : j < 128) : (sgm nx ot cl s a)[j]? = some (if j / 2 < a then (if j % 2 = 0 then oN ot s (j / 2) else ((cl.getD (nN nx s (j / 2)) 0 : Nat) : Int)) else 0) := by
  unfold sgm; rw [List.getElem?_map, List.getElem?_range h]; rfl
theorem sgm_zero (nx ot : List (List Int)) (cl : List Nat) (s : Nat) : sgm nx ot cl s 0 = List.replicate 128 0 := by
  apply List.ext_getElem?
  intro j
  by_cases h : j < 128
  · rw [sgm_get _ _ _ _ _ _ h, if_neg (by omega), List.getElem?_replicate, if_pos h]
  · rw [List.getElem?_eq_none (by rw [sgm_len]; omega), List.getElem?_eq_none (by simp; omega)]
theorem sgm_succ (nx ot : List (List Int)) (cl : List Nat) (s a : Nat) : ((sgm nx ot cl s a).set (2 * a) (oN ot s a)).set (2 * a + 1) ((cl.getD (nN nx s a) 0 : Nat) : Int) = sgm nx ot cl s (a + 1) := by
  apply List.ext_getElem?
  intro j
  by_cases hj : j < 128
  · rw [sgm_get _ _ _ _ _ _ hj, List.getElem?_set, List.length_set, sgm_len]
    by_cases e : 2 * a + 1 = j
    · subst e
      rw [if_pos rfl, if_pos hj, if_pos (by omega), if_neg (by omega), show (2 * a + 1) / 2 = a by omega]
    · rw [if_neg e, List.getElem?_set, sgm_len]
      by_cases e2 : 2 * a = j
      · subst e2
        rw [if_pos rfl, if_pos hj, if_pos (by omega), if_pos (by omega), show 2 * a / 2 = a by omega]
      · rw [if_neg e2, sgm_get _ _ _ _ _ _ hj]
        by_cases e3 : j / 2 < a
        · rw [if_pos e3, if_pos (show j / 2 < a + 1 by omega)]
        · rw [if_neg e3, if_neg (show ¬ j / 2 < a + 1 by omega)]
  · rw [List.getElem?_eq_none (by simp [sgm_len]; omega), List.getElem?_eq_none (by rw [sgm_len]; omega)]
theorem sgm_eq {nx ot : List (List Int)} {cl : List Nat} {s t i : Nat} (h : i ≤ 64) : sgm nx ot cl s i = sgm nx ot cl t i ↔ ∀ a, a < i → oN ot s a = oN ot t a ∧ cl.getD (nN nx s a) 0 = cl.getD (nN nx t a) 0 := by
  constructor
  · intro e a ha
    have h1 : (sgm nx ot cl s i)[2 * a]? = (sgm nx ot cl t i)[2 * a]? := by rw [e]
    have h2 : (sgm nx ot cl s i)[2 * a + 1]? = (sgm nx ot cl t i)[2 * a + 1]? := by rw [e]
    rw [sgm_get _ _ _ _ _ _ (by omega), sgm_get _ _ _ _ _ _ (by omega), show 2 * a / 2 = a by omega, if_pos ha, if_pos ha, if_pos (show 2 * a % 2 = 0 by omega), if_pos (show 2 * a % 2 = 0 by omega)] at h1
    rw [sgm_get _ _ _ _ _ _ (by omega), sgm_get _ _ _ _ _ _ (by omega), show (2 * a + 1) / 2 = a by omega, if_pos ha, if_pos ha, if_neg (show ¬ (2 * a + 1) % 2 = 0 by omega), if_neg (show ¬ (2 * a + 1) % 2 = 0 by omega)] at h2
    simp only [Option.some.injEq] at h1 h2
    exact ⟨h1, by omega⟩
  · intro H
    apply List.ext_getElem?
    intro j
    by_cases hj : j < 128
    · rw [sgm_get _ _ _ _ _ _ hj, sgm_get _ _ _ _ _ _ hj]
      by_cases e : j / 2 < i
      · rw [if_pos e, if_pos e]
        obtain ⟨h1, h2⟩ := H _ e
        by_cases e2 : j % 2 = 0
        · rw [if_pos e2, if_pos e2, h1]
        · rw [if_neg e2, if_neg e2, h2]
      · rw [if_neg e, if_neg e]
    · rw [List.getElem?_eq_none (by rw [sgm_len]; omega), List.getElem?_eq_none (by rw [sgm_len]; omega)]

/-- The classes of states that no word of k symbols separates. -/
def pt (nx ot : List (List Int)) (i n : Nat) : Nat → List Nat
  | 0 => List.replicate n 0
  | k + 1 => num (fun s => sgm nx ot (pt nx ot i n k) s i) n
theorem pt_len (nx ot : List (List Int)) (i n : Nat) : ∀ k, (pt nx ot i n k).length = n
  | 0 => by simp [pt]
  | k + 1 => num_len _ _
/-- The class of a state. -/
def cN (nx ot : List (List Int)) (i n k s : Nat) : Nat := (pt nx ot i n k).getD s 0
theorem cN_zero {nx ot : List (List Int)} {i n s : Nat} (h : s < n) : cN nx ot i n 0 s = 0 := by unfold cN pt; simp [List.getD, h]
theorem cN_le {nx ot : List (List Int)} {i n k s : Nat} (h : s < n) : cN nx ot i n k s ≤ s := by
  cases k with
  | zero => rw [cN_zero h]; omega
  | succ k => unfold cN pt; rw [num_at _ h]; exact nmb_le _ _
theorem Mok.cN_succ {i st n : Nat} {nx ot : List (List Int)} (hM : Mok i st n nx ot) {k s t : Nat} (hs : s < n) (ht : t < n) :
    cN nx ot i n (k + 1) s = cN nx ot i n (k + 1) t ↔ ∀ a, a < i → oN ot s a = oN ot t a ∧ cN nx ot i n k (nN nx s a) = cN nx ot i n k (nN nx t a) := by
  unfold cN
  show (num _ n).getD s 0 = (num _ n).getD t 0 ↔ _
  rw [num_at _ hs, num_at _ ht, nmb_eq, sgm_eq hM.i2]
theorem Mok.cN_fine {i st n : Nat} {nx ot : List (List Int)} (hM : Mok i st n nx ot) : ∀ {k s t : Nat}, s < n → t < n → cN nx ot i n (k + 1) s = cN nx ot i n (k + 1) t → cN nx ot i n k s = cN nx ot i n k t
  | 0, s, t, hs, ht, _ => by rw [cN_zero hs, cN_zero ht]
  | k + 1, s, t, hs, ht, h => by
    rw [hM.cN_succ hs ht] at h ⊢
    exact fun a ha => ⟨(h a ha).1, hM.cN_fine (hM.nN_lt hs ha) (hM.nN_lt ht ha) (h a ha).2⟩
theorem pt_stay {nx ot : List (List Int)} {i n k : Nat} (h : pt nx ot i n (k + 1) = pt nx ot i n k) : ∀ d, pt nx ot i n (k + d) = pt nx ot i n k
  | 0 => rfl
  | d + 1 => by
    show num (fun s => sgm nx ot (pt nx ot i n (k + d)) s i) n = _
    rw [pt_stay h d]
    exact h
theorem list_ext0 {l t : List Nat} {n : Nat} (h1 : l.length = n) (h2 : t.length = n) (h : ∀ s, s < n → l.getD s 0 = t.getD s 0) : l = t := by
  apply List.ext_getElem (by omega)
  intro s hs ht
  have := h s (by omega)
  rw [List.getD_eq_getElem?_getD, List.getD_eq_getElem?_getD, List.getElem?_eq_getElem hs, List.getElem?_eq_getElem ht] at this
  exact this
/-- A partition by numbers of first occurrence is determined by its classes. -/
theorem pt_num {i st n : Nat} {nx ot : List (List Int)} (_ : Mok i st n nx ot) : ∀ k, pt nx ot i n k = num (cN nx ot i n k) n
  | 0 => by
    apply list_ext0 (pt_len _ _ _ _ _) (num_len _ _)
    intro s hs
    rw [num_at _ hs]
    have h0 : (pt nx ot i n 0).getD s 0 = 0 := cN_zero hs
    have e : ∀ m, m ≤ n → ∀ t, t ∈ grp (cN nx ot i n 0) m → t = 0 := fun m hm t ht => by
      obtain ⟨u, hu, rfl⟩ := grp_mem _ ht
      exact cN_zero (by omega)
    rw [h0]
    have h1 : nmb (cN nx ot i n 0) s = nmb (cN nx ot i n 0) 0 := (nmb_eq _).2 (by rw [cN_zero hs, cN_zero (by omega)])
    have := nmb_le (cN nx ot i n 0) 0
    omega
  | k + 1 => by
    refine num_congr fun s t hs ht => ?_
    have h1 := num_at (fun s => sgm nx ot (pt nx ot i n k) s i) hs
    have h2 := num_at (fun s => sgm nx ot (pt nx ot i n k) s i) ht
    show _ ↔ (num _ n).getD s 0 = (num _ n).getD t 0
    rw [h1, h2]
    exact (nmb_eq (fun s => sgm nx ot (pt nx ot i n k) s i)).symm
end Go.Proofs.Ytogcecfeofbbnaa
end

section
/- Partitions become finer until they stay: the depth. -/
namespace Go.Proofs.Ytogcecfeofbbnaa

/-- The least of its class. -/
def fst_ (c : Nat → Nat) (s : Nat) : Bool := (List.range s).all fun t => c t != c s
theorem fst_iff {c : Nat → Nat} {s : Nat} : fst_ c s = true ↔ ∀ t, t < s → c t ≠ c s := by
  unfold fst_
  simp [List.all_eq_true]
theorem fst_ex (c : Nat → Nat) : ∀ s, ∃ r, r ≤ s ∧ c r = c s ∧ fst_ c r = true := by
  intro s
  induction s using Nat.strongRecOn with
  | _ s ih =>
    by_cases h : fst_ c s = true
    · exact ⟨s, Nat.le_refl _, rfl, h⟩
    · have h2 : ∃ t, t < s ∧ c t = c s := by
        rw [fst_iff] at h
        exact Classical.byContradiction fun H => h fun t ht e => H ⟨t, ht, e⟩
      obtain ⟨t, ht, e⟩ := h2
      obtain ⟨r, h3, h4, h5⟩ := ih t ht
      exact ⟨r, by omega, h4.trans e, h5⟩
def cnt (c : Nat → Nat) (n : Nat) : Nat := ((List.range n).filter (fst_ c)).length
theorem cnt_le (c : Nat → Nat) (n : Nat) : cnt c n ≤ n := by
  unfold cnt
  have := List.length_filter_le (fst_ c) (List.range n)
  simpa using this
theorem cnt_pos (c : Nat → Nat) {n : Nat} (h : 0 < n) : 0 < cnt c n := by
  unfold cnt
  have : 0 ∈ (List.range n).filter (fst_ c) := by
    rw [List.mem_filter]
    exact ⟨by simpa using h, by rw [fst_iff]; intro t ht; omega⟩
  exact List.length_pos_of_mem this
theorem filter_le {p q : Nat → Bool} : ∀ {l : List Nat}, (∀ x, x ∈ l → p x = true → q x = true) → (l.filter p).length ≤ (l.filter q).length
  | [], _ => Nat.le_refl _
  | x :: l, h => by
    have ih := filter_le (l := l) fun y hy => h y (by simp [hy])
    rw [List.filter_cons, List.filter_cons]
    by_cases hp : p x = true
    · rw [if_pos hp, if_pos (h x (by simp) hp)]; simp; exact ih
    · rw [if_neg hp]
      split
      · simp; omega
      · exact ih
theorem filter_eq_of_len {p q : Nat → Bool} : ∀ {l : List Nat}, (∀ x, x ∈ l → p x = true → q x = true) → (l.filter q).length ≤ (l.filter p).length → ∀ x, x ∈ l → q x = true → p x = true
  | [], _, _, x, hx => by simp at hx
  | y :: l, h, hl, x, hx => by
    intro hq
    have hle := filter_le (p := p) (q := q) (l := l) fun z hz => h z (by simp [hz])
    rw [List.filter_cons, List.filter_cons] at hl
    by_cases hp : p y = true
    · rw [if_pos hp, if_pos (h y (by simp) hp)] at hl
      rcases List.mem_cons.1 hx with rfl | hx
      · exact hp
      · exact filter_eq_of_len (fun z hz => h z (by simp [hz])) (by simpa using hl) x hx hq
    · rw [if_neg hp] at hl
      by_cases hqy : q y = true
      · rw [if_pos hqy] at hl; simp at hl; omega
      · rw [if_neg hqy] at hl
        rcases List.mem_cons.1 hx with rfl | hx
        · exact absurd hq hqy
        · exact filter_eq_of_len (fun z hz => h z (by simp [hz])) hl x hx hq
/-- A finer partition with as many classes is the same one. -/
theorem cnt_same {c d : Nat → Nat} {n : Nat} (h : ∀ s t, s < n → t < n → d s = d t → c s = c t) (hc : cnt d n ≤ cnt c n) : ∀ s t, s < n → t < n → c s = c t → d s = d t := by
  have h1 : ∀ x, x ∈ List.range n → fst_ c x = true → fst_ d x = true := fun x hx hf => by
    rw [fst_iff] at hf ⊢
    rw [List.mem_range] at hx
    exact fun t ht e => hf t ht (h t x (by omega) hx e)
  have h2 := filter_eq_of_len h1 hc
  intro s t hs ht e
  obtain ⟨r, r1, r2, r3⟩ := fst_ex d s
  obtain ⟨u, u1, u2, u3⟩ := fst_ex d t
  have f1 := h2 r (by simp; omega) r3
  have f2 := h2 u (by simp; omega) u3
  rw [fst_iff] at f1 f2
  have e3 : c r = c u := (h r s (by omega) hs r2).trans (e.trans (h u t (by omega) ht u2).symm)
  have e4 : r = u := by
    rcases Nat.lt_trichotomy r u with hlt | he | hgt
    · exact absurd e3 (f2 r hlt)
    · exact he
    · exact absurd e3.symm (f1 u hgt)
  subst e4
  exact r2.symm.trans u2
theorem cnt_lt {c d : Nat → Nat} {n : Nat} (h : ∀ s t, s < n → t < n → d s = d t → c s = c t) (hne : ¬ ∀ s t, s < n → t < n → c s = c t → d s = d t) : cnt c n < cnt d n := by
  rcases Nat.lt_or_ge (cnt c n) (cnt d n) with h1 | h1
  · exact h1
  · exact absurd (cnt_same h h1) hne

/-- The first number, among the given ones, from which on the classes stay. -/
def depF (nx ot : List (List Int)) (i n : Nat) : Nat → Nat → Nat
  | 0, j => j
  | f + 1, j => if pt nx ot i n (j + 1) = pt nx ot i n j then j else depF nx ot i n f (j + 1)
def dep (nx ot : List (List Int)) (i n : Nat) : Nat := depF nx ot i n n 0
theorem pt_same {i st n : Nat} {nx ot : List (List Int)} (hM : Mok i st n nx ot) {j k : Nat} (h : ∀ s t, s < n → t < n → (cN nx ot i n j s = cN nx ot i n j t ↔ cN nx ot i n k s = cN nx ot i n k t)) : pt nx ot i n j = pt nx ot i n k := by
  rw [pt_num hM j, pt_num hM k]; exact num_congr h
theorem Mok.cnt_succ {i st n : Nat} {nx ot : List (List Int)} (hM : Mok i st n nx ot) {j : Nat} (h : pt nx ot i n (j + 1) ≠ pt nx ot i n j) : cnt (cN nx ot i n j) n < cnt (cN nx ot i n (j + 1)) n :=
  cnt_lt (fun _ _ hs ht e => hM.cN_fine hs ht e) fun H => h (pt_same hM fun s t hs ht => ⟨hM.cN_fine hs ht, H s t hs ht⟩)
theorem Mok.cnt_ge {i st n : Nat} {nx ot : List (List Int)} (hM : Mok i st n nx ot) : ∀ {j : Nat}, (∀ m, m < j → pt nx ot i n (m + 1) ≠ pt nx ot i n m) → j + 1 ≤ cnt (cN nx ot i n j) n
  | 0, _ => cnt_pos _ hM.n1
  | j + 1, h => by
    have h1 := hM.cnt_ge (j := j) fun m hm => h m (by omega)
    have h2 := hM.cnt_succ (h j (by omega))
    omega
theorem depF_spec {i st n : Nat} {nx ot : List (List Int)} (hM : Mok i st n nx ot) : ∀ (f j : Nat), n ≤ f + j → (∀ m, m < j → pt nx ot i n (m + 1) ≠ pt nx ot i n m) →
    pt nx ot i n (depF nx ot i n f j + 1) = pt nx ot i n (depF nx ot i n f j) ∧ ∀ m, m < depF nx ot i n f j → pt nx ot i n (m + 1) ≠ pt nx ot i n m
  | 0, j, hf, h => by
    have h1 := hM.cnt_ge h
    have h2 := cnt_le (cN nx ot i n j) n
    omega
  | f + 1, j, hf, h => by
    unfold depF
    by_cases e : pt nx ot i n (j + 1) = pt nx ot i n j
    · rw [if_pos e]; exact ⟨e, h⟩
    · rw [if_neg e]
      refine depF_spec hM f (j + 1) (by omega) fun m hm => ?_
      by_cases e2 : m = j
      · subst e2; exact e
      · exact h m (by omega)
theorem Mok.dep_stay {i st n : Nat} {nx ot : List (List Int)} (hM : Mok i st n nx ot) : pt nx ot i n (dep nx ot i n + 1) = pt nx ot i n (dep nx ot i n) := (depF_spec hM n 0 (by omega) fun m hm => absurd hm (by omega)).1
theorem Mok.dep_min {i st n : Nat} {nx ot : List (List Int)} (hM : Mok i st n nx ot) {m : Nat} (h : m < dep nx ot i n) : pt nx ot i n (m + 1) ≠ pt nx ot i n m := (depF_spec hM n 0 (by omega) fun m hm => absurd hm (by omega)).2 m h
theorem Mok.dep_lt {i st n : Nat} {nx ot : List (List Int)} (hM : Mok i st n nx ot) : dep nx ot i n < n := by
  have h1 := hM.cnt_ge (j := dep nx ot i n) fun m hm => hM.dep_min hm
  have h2 := cnt_le (cN nx ot i n (dep nx ot i n)) n
  omega
theorem Mok.dep_le {i st n : Nat} {nx ot : List (List Int)} (hM : Mok i st n nx ot) {j : Nat} (h : ∀ m, m < j → pt nx ot i n (m + 1) ≠ pt nx ot i n m) : j ≤ dep nx ot i n := by
  rcases Nat.lt_or_ge (dep nx ot i n) j with h1 | h1
  · exact absurd hM.dep_stay (h _ h1)
  · exact h1
theorem Mok.dep_eq {i st n : Nat} {nx ot : List (List Int)} (hM : Mok i st n nx ot) {j : Nat} (h : ∀ m, m < j → pt nx ot i n (m + 1) ≠ pt nx ot i n m) (hj : pt nx ot i n (j + 1) = pt nx ot i n j) : j = dep nx ot i n := by
  have h1 := hM.dep_le h
  rcases Nat.lt_or_ge j (dep nx ot i n) with h2 | h2
  · exact absurd hj (hM.dep_min h2)
  · omega
theorem Mok.pt_all {i st n : Nat} {nx ot : List (List Int)} (hM : Mok i st n nx ot) {k : Nat} (h : dep nx ot i n ≤ k) : pt nx ot i n k = pt nx ot i n (dep nx ot i n) := by
  obtain ⟨d, rfl⟩ := Nat.le.dest h
  exact pt_stay hM.dep_stay d
/-- The classes for k are all classes just if k is not below the depth. -/
theorem Mok.pt_eq_all {i st n : Nat} {nx ot : List (List Int)} (hM : Mok i st n nx ot) {k : Nat} : pt nx ot i n k = pt nx ot i n (dep nx ot i n) ↔ dep nx ot i n ≤ k := by
  refine ⟨fun h => ?_, hM.pt_all⟩
  rcases Nat.lt_or_ge k (dep nx ot i n) with h1 | h1
  · refine absurd ?_ (hM.dep_min h1)
    have h2 := hM.dep_stay
    show num (fun s => sgm nx ot (pt nx ot i n k) s i) n = _
    rw [h]
    exact h2
  · exact h1
end Go.Proofs.Ytogcecfeofbbnaa
end
