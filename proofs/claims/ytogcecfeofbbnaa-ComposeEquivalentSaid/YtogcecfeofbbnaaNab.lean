/- Lemmas of the proofs of this seat, of the parts OwnL, Rwsm, Reachp, Dstp, Bisp, Dstq, Cmpw, Dsto, Gsr, Reachm, Boxd, Ddis. Conditions: none. -/
import Derived.Test.YtogcecfeofbbnaaNaa
import Derived.Lib.SliceRun
import Derived.Maps.AppendAt
import Derived.Test.YtogcecfeofbbnaaProg
import Derived.WalkSpells
import Derived.WalkLawsBesides
import Derived.Outline
import Derived.Deep.QuietTactic
import Derived.BigQuiet
import Derived.Deep.RegionLaw
section
/- Rows of lists that a call owns: what they read as; append of a list. -/
namespace Go.Proofs.Ytogcecfeofbbnaa
open Go.RowKit

/-- The slice value v is a row of lists in blocks from base on, which the call may write. -/
def OwnedL (w : World) (base : Nat) (v : Value) (xss : List (List Int)) : Prop :=
  ∃ vs : List Value, w.ownsRow base 27 1 v xss.length vs ∧ ∀ j, j < xss.length → ∃ A c, vs[j]? = some (.slice A (xss.getD j []).length c) ∧ Owned w base (.slice A (xss.getD j []).length c) (xss.getD j [])

theorem OwnedL.nil (w : World) (base : Nat) : OwnedL w base (.slice none 0 0) [] := ⟨[], World.ownsRow_nil _ _ _ _, fun j h => absurd h (by simp)⟩
theorem OwnedL.form {w : World} {base : Nat} {v : Value} {xss : List (List Int)} (h : OwnedL w base v xss) : ∃ A c, v = .slice A xss.length c := by
  obtain ⟨vs, h, _⟩ := h
  rcases h.2 with ⟨rfl, h0⟩ | ⟨g, cap, cur, rfl, _⟩
  · have : xss.length = 0 := h0
    exact ⟨none, 0, by rw [this]⟩
  · exact ⟨_, _, rfl⟩
theorem OwnedL.keptT {w w' : World} {base : Nat} {v : Value} {xss : List (List Int)} (h : OwnedL w base v xss) (hk : KeptT 3 w w') (hl : KeptT 27 w w') : OwnedL w' base v xss := by
  obtain ⟨vs, h, hr⟩ := h
  refine ⟨vs, ⟨h.1, ?_⟩, fun j hj => ?_⟩
  · rcases h.2 with e | ⟨g, cap, cur, hv, hbg, hg, r⟩
    · exact .inl e
    · exact .inr ⟨g, cap, cur, hv, hbg, hl g cur hg, r⟩
  · obtain ⟨A, c, h1, h2⟩ := hr j hj
    exact ⟨A, c, h1, h2.keptT hk⟩
theorem OwnedL.kept {w w' : World} {base : Nat} {v : Value} {xss : List (List Int)} (h : OwnedL w base v xss) (hb : Below w.heap.size w w') : OwnedL w' base v xss := h.keptT (KeptT.of_below hb) (KeptT.of_below hb)
theorem OwnedL.lower {w : World} {base base' : Nat} {v : Value} {xss : List (List Int)} (h : OwnedL w base v xss) (hb : base' ≤ base) : OwnedL w base' v xss := by
  obtain ⟨vs, h, hr⟩ := h
  refine ⟨vs, ⟨h.1, ?_⟩, fun j hj => ?_⟩
  · rcases h.2 with e | ⟨g, cap, cur, hv, hbg, r⟩
    · exact .inl e
    · exact .inr ⟨g, cap, cur, hv, by omega, r⟩
  · obtain ⟨A, c, h1, h2⟩ := hr j hj
    exact ⟨A, c, h1, h2.lower hb⟩
theorem OwnedL.lists {w : World} {base : Nat} {A : Option Addr} {n c : Nat} {xss : List (List Int)} (h : OwnedL w base (.slice A n c) xss) (hm : xss.length ≤ 17592186044416) (hr : ∀ xs, xs ∈ xss → xs.length ≤ 17592186044416) : Lists w A n xss := by
  have hn : n = xss.length := by obtain ⟨A', c', e⟩ := h.form; cases e; rfl
  subst hn
  obtain ⟨vs, ho, hv⟩ := h
  refine ⟨rfl, hm, fun h0 => ?_⟩
  rcases ho.2 with ⟨e, h1⟩ | ⟨g, cap, cur, e, _, hg, _⟩
  · have : xss.length = 0 := h1
    omega
  · cases e
    refine ⟨g, 0, rfl, heap_lt hg, fun j hj => ?_⟩
    obtain ⟨A, c, h1, h2⟩ := hv j hj
    have h3 := World.ownsRow.cellAt ho j (by omega)
    refine ⟨A, _, c, ?_, h2.ints (hr _ ?_)⟩
    · rw [Nat.zero_add, h3, h1]
    · rw [List.getD_eq_getElem?_getD, List.getElem?_eq_getElem hj]; exact List.getElem_mem _

theorem OwnedL.lt {w : World} {base : Nat} {v : Value} {xss : List (List Int)} (h : OwnedL w base v xss) : ∀ k, v.ownBlock = some k → base ≤ k ∧ k < w.heap.size := by
  obtain ⟨vs, ho, _⟩ := h
  exact World.ownsRow.lt ho
theorem OwnedL.keptB {w w' : World} {base : Nat} {u v : Value} {xss : List (List Int)} (h : OwnedL w base v xss) (hk : KeptB u.ownBlock w w') (ha : Apart u v) (hi : KeptT 3 w w') : OwnedL w' base v xss := by
  obtain ⟨vs, ho, hr⟩ := h
  refine ⟨vs, ⟨ho.1, ?_⟩, fun j hj => ?_⟩
  · rcases ho.2 with e | ⟨g, cap, cur, hv, hbg, hg, r⟩
    · exact .inl e
    · exact .inr ⟨g, cap, cur, hv, hbg, hk g _ hg (fun e => ha g e (by rw [hv]; rfl)), r⟩
  · obtain ⟨A, c, h1, h2⟩ := hr j hj
    exact ⟨A, c, h1, h2.keptT hi⟩
theorem Apart.moved {w : World} {base : Nat} {v v' u : Value} {xss : List (List Int)} (h : Apart v u) (hm : Moved w v v') (hu : OwnedL w base u xss) : Apart v' u := by
  rcases hm with e | ⟨g, hg, e⟩
  · intro k hk; rw [e] at hk; exact h k hk
  · intro k hk h2
    rw [e] at hk
    injection hk with hk
    have := (hu.lt k h2).2
    omega

/-- append of one list to a row of lists. -/
theorem run_append_list {w : World} {base : Nat} {v : Value} {xss : List (List Int)} {B : Option Addr} {m d : Nat} {xs : List Int} (h : OwnedL w base v xss) (hx : Owned w base (.slice B m d) xs) (hbase : base ≤ w.heap.size) (hl : xss.length < 1759218604441) :
    ∃ A c w', (Builtin.append_ #[22, 22] 22 #[v, .slice (some ⟨w.heap.size, 0, none⟩) 1 1]).run Try.prog (w.alloc (.cells #[.slice B m d] 27)) = .ok (.slice A (xss.length + 1) c) w' ∧
      OwnedL w' base (.slice A (xss.length + 1) c) (xss ++ [xs]) ∧ Below base w w' ∧ (∀ t, t ≠ 27 → KeptT t w w') ∧ KeptB v.ownBlock w w' ∧ Moved w v (.slice A (xss.length + 1) c) := by
  obtain ⟨i, hi, hz0, hz1, hz2⟩ := info_parts infol
  obtain ⟨vs, ho, hv⟩ := h
  have hbz := alloc_below w (.cells #[.slice B m d] 27)
  have ho1 : (w.alloc (.cells #[.slice B m d] 27)).ownsRow base 27 1 v xss.length vs := by
    refine ⟨ho.1, ?_⟩
    rcases ho.2 with e | ⟨g, cap, cur, hv, hbg, hg, r⟩
    · exact .inl e
    · exact .inr ⟨g, cap, cur, hv, hbg, (hbz.block g (heap_lt hg)).trans hg, r⟩
  obtain ⟨v', w', hr, h1, h2, _, hmv⟩ := run_append_own_at (P := Try.prog) (w.alloc (.cells #[.slice B m d] 27)) base 22 22 27 i (.slice none 0 0) 1 24 Try.underlying22 hi hz0 hz1 hz2 rfl (by decide) v _ _ ho1 ⟨w.heap.size, 0, none⟩ 1 1 [.slice B m d] (by simp)
    (by
      intro j u hu
      cases j with
      | zero =>
        simp at hu
        subst hu
        simp [Addr.add]
      | succ j => simp at hu)
    (by intro u hu; simp at hu; subst hu; rfl) (by unfold maxLen; omega) (by omega) (Nat.le_trans hbase hbz.size)
  have hs : ∀ t, t ≠ 27 → KeptT t w w' := fun t ht => (KeptT.of_below hbz).trans (KeptT.grown h2 ho1 ht)
  have hform : ∃ A c, v' = .slice A (xss.length + 1) c := by
    rcases h1.2 with ⟨rfl, h0⟩ | ⟨g, cap, cur, rfl, _⟩
    · have := h1.1; rw [h0] at this; simp at this
    · exact ⟨_, _, rfl⟩
  obtain ⟨A, c, rfl⟩ := hform
  have hkb : KeptB v.ownBlock w w' := fun g o e hne => (h2.block g (Nat.lt_of_lt_of_le (heap_lt e) hbz.size) (fun e2 => hne e2.symm)).trans ((hbz.block g (heap_lt e)).trans e)
  have hmoved : Moved w v (.slice A (xss.length + 1) c) := by
    rcases hmv with e | e
    · exact .inl e
    · exact .inr ⟨_, by simp, e⟩
  have hn : m = xs.length := by obtain ⟨A', c', e⟩ := hx.form; cases e; rfl
  subst hn
  refine ⟨A, c, w', hr, ⟨vs ++ [.slice B xs.length d], by rw [List.length_append]; exact h1, fun j hj => ?_⟩, (hbz.mono hbase).trans ((Below.refl _ _).grown h2 (Nat.le_trans hbase hbz.size) (fun k hk => (World.ownsRow.lt ho1 k hk).1)), hs, hkb, hmoved⟩
  have hvl : vs.length = xss.length := by have := ho.1; omega
  by_cases e : j < xss.length
  · obtain ⟨A2, c2, h3, h4⟩ := hv j e
    have hg : (xss ++ [xs]).getD j [] = xss.getD j [] := by rw [List.getD_eq_getElem?_getD, List.getD_eq_getElem?_getD, List.getElem?_append_left e]
    rw [hg]
    exact ⟨A2, c2, by rw [List.getElem?_append_left (by omega)]; exact h3, h4.keptT (hs _ (by decide))⟩
  · have hjl : j = xss.length := by simp at hj; omega
    subst hjl
    have hg : (xss ++ [xs]).getD xss.length [] = xs := by simp
    rw [hg]
    exact ⟨B, d, by rw [List.getElem?_append_right (by omega), hvl]; simp, hx.keptT (hs _ (by decide))⟩

set_option maxHeartbeats 1000000 in
set_option maxRecDepth 100000 in
/-- Clone of a list. -/
theorem sclone (A : Option Addr) (n c : Nat) (xs : List Int) (w : World) (hx : Ints w A n xs) :
    Calls Try.prog 106 #[.slice A n c] w fun e w' => ∃ A' c', e = .returned (.slice A' n c') ∧ Owned w' w.heap.size (.slice A' n c') xs ∧ Below w.heap.size w w' := by
  have L := Lib.hid hx.1
  have hn := hx.2.1
  cases A with
  | none =>
    have h0 : n = 0 := by
      rcases Nat.eq_zero_or_pos n with h | h
      · exact h
      · obtain ⟨b, off, e, _⟩ := hx.2.2 h; cases e
    subst h0
    obtain rfl : xs = [] := List.eq_nil_of_length_eq_zero L.out
    have he := fun W => Lib.run_eql_slice_nil (P := Try.prog) W 27 3 none 0 c 0 0 Try.underlying27
    go_enter Try.func106, Try.ntmps106
    go_wp2
    go_ret
    exact ⟨none, 0, rfl, Owned.nil _ _, Below.refl _ _⟩
  | some a =>
    have hb0 := alloc_below w (.cells #[] 3)
    have ho := Owned.literal w w.heap.size [] #[] 0 (Nat.le_refl _) rfl rfl (by simp)
    obtain ⟨v', w', hr, ho', _, hb'⟩ := run_append_ints _ _ _ _ _ _ _ c ho (hx.below hb0) hb0.size (by rw [List.nil_append, L.out]; exact hn)
    obtain ⟨A', c', rfl⟩ := ho'.form
    rw [List.nil_append, L.out] at hr ho'
    have hB := Lib.hid (hb0.trans hb')
    have HO := Lib.hid ho'
    clear ho hb0 hb' ho'
    have he := fun W => Lib.run_eql_slice_nil (P := Try.prog) W 27 3 (some a) n c 0 0 Try.underlying27
    go_enter Try.func106, Try.ntmps106
    go_wp2_with (at_builtin; refine Lib.wpList_append_run _ rfl _ _ _ _ rfl _ _ rfl rfl _ _ hr ?_)
    go_ret
    exact ⟨A', c', rfl, HO.out, hB.out⟩
end Go.Proofs.Ytogcecfeofbbnaa
end

section
/- Rows of structs: each element some cells. -/
namespace Go.Proofs.Ytogcecfeofbbnaa
open Go.RowKit

/-- The slice value v is a row of elements of s cells each, of type e, which the call owns. -/
def Rws (w : World) (base : Nat) (e : TypeId) (s : Nat) (v : Value) (L : List (List Value)) : Prop := (∀ l, l ∈ L → l.length = s) ∧ w.ownsRow base e s v L.length L.flatten
theorem flat_at {s : Nat} : ∀ {L : List (List Value)}, (∀ l, l ∈ L → l.length = s) → ∀ {k r : Nat}, r < s → k < L.length → L.flatten[k * s + r]? = (L.getD k [])[r]?
  | [], _, k, r, _, h => absurd h (by simp)
  | l :: L, hl, 0, r, hr, _ => by
    have h1 := hl l (List.mem_cons_self ..)
    rw [List.flatten_cons, Nat.zero_mul, Nat.zero_add, List.getElem?_append_left (by omega)]
    rfl
  | l :: L, hl, k + 1, r, hr, h => by
    have h1 := hl l (List.mem_cons_self ..)
    have h2 : (k + 1) * s = k * s + s := Nat.succ_mul k s
    rw [List.flatten_cons, List.getElem?_append_right (by omega), h1, show (k + 1) * s + r - s = k * s + r by omega]
    exact flat_at (fun x hx => hl x (List.mem_cons_of_mem _ hx)) hr (by simpa using h)
section
variable {w w' : World} {base s : Nat} {e : TypeId} {v : Value} {L : List (List Value)}
theorem Rws.form (h : Rws w base e s v L) : ∃ A c, v = .slice A L.length c := by
  rcases h.2.2 with ⟨rfl, h0⟩ | ⟨g, cap, cur, rfl, _⟩
  · exact ⟨none, 0, by rw [h0]⟩
  · exact ⟨_, _, rfl⟩
theorem Rws.at_ (h : Rws w base e s v L) (hL : 0 < L.length) : ∃ g c, v = .slice (some ⟨g, 0, none⟩) L.length c ∧ base ≤ g ∧ g < w.heap.size ∧ L.length ≤ c ∧ ∀ k r, k < L.length → r < s → w.cell? ⟨g, k * s + r, none⟩ = (L.getD k [])[r]? := by
  rcases h.2.2 with ⟨_, h0⟩ | ⟨g, cap, cur, rfl, hbg, hg, hn, hm, hs, ht⟩
  · omega
  · refine ⟨g, cap, rfl, hbg, heap_lt hg, hn, fun k r hk hr => ?_⟩
    rw [cell_of_row w g (k * s + r) _ _ (0, 0) hg, ← flat_at h.1 hr hk, ← ht]
    have h3 : (k + 1) * s ≤ L.length * s := Nat.mul_le_mul_right s hk
    rw [Nat.succ_mul] at h3
    rw [List.getElem?_take_of_lt (by omega)]
    simp
theorem Rws.keptT (h : Rws w base e s v L) (hk : KeptT e w w') : Rws w' base e s v L := by
  refine ⟨h.1, h.2.1, ?_⟩
  rcases h.2.2 with h0 | ⟨g, cap, cur, rfl, hbg, hg, r⟩
  · exact .inl h0
  · exact .inr ⟨g, cap, cur, rfl, hbg, hk g _ hg, r⟩
theorem Rws.kept (h : Rws w base e s v L) (hb : Below w.heap.size w w') : Rws w' base e s v L := h.keptT (KeptT.of_below hb)
theorem Rws.nil (w : World) (base s : Nat) (e : TypeId) : Rws w base e s (.slice none 0 0) [] := ⟨fun _ h => absurd h (by simp), World.ownsRow_nil _ _ _ _⟩
/-- A literal of one element. -/
theorem Rws.one (w : World) (base : Nat) (e : TypeId) (l : List Value) (hb : base ≤ w.heap.size) : Rws (w.alloc (.cells l.toArray e)) base e l.length (.slice (some ⟨w.heap.size, 0, none⟩) 1 1) [l] := by
  refine ⟨fun x hx => by simp at hx; rw [hx], by simp, .inr ⟨w.heap.size, 1, l.toArray, rfl, hb, heap_alloc_new w _, by simp, by decide, by simp, by simp⟩⟩
/-- append of one element. -/
theorem run_append_rws {t bytes : Nat} {i : TypeInfo} {z : Value} (ht : Try.prog.underlying t = some (.slice e)) (hi : Try.prog.info? e = some i) (hz0 : i.zero = some z) (hz1 : i.size = s) (hz2 : i.bytes = bytes) (hzc : z.cells.size = s) (hs : 0 < s) (hby : bytes ≤ 64)
    (h : Rws w base e s v L) (l : List Value) (hl : l.length = s) (h1 : ∀ u, u ∈ l → u.oneCell' = true) (hbase : base ≤ w.heap.size) (hn : L.length < 1099511627776) :
    ∃ A c w1, (Builtin.append_ #[t, t] t #[v, .slice (some ⟨w.heap.size, 0, none⟩) 1 1]).run Try.prog (w.alloc (.cells l.toArray e)) = .ok (.slice A (L.length + 1) c) w1 ∧
      Rws w1 base e s (.slice A (L.length + 1) c) (L ++ [l]) ∧ Below base w w1 ∧ ∀ t', t' ≠ e → KeptT t' w w1 := by
  have hbz := alloc_below w (.cells l.toArray e)
  have ho1 := (h.kept hbz).2
  obtain ⟨v1, w1, hr, h2, h3, _⟩ := run_append_own (P := Try.prog) (w.alloc (.cells l.toArray e)) base t t e i z s bytes ht hi hz0 hz1 hz2 hzc hs v _ _ ho1 ⟨w.heap.size, 0, none⟩ 1 1 l (by omega)
    (by
      intro j u hu
      have hg := heap_alloc_new w (.cells l.toArray e)
      have ha : (⟨w.heap.size, 0, none⟩ : Addr).add j = ⟨w.heap.size, 0 + j, none⟩ := by simp [Addr.add]; omega
      rw [ha, cell_of_row _ _ (0 + j) _ _ (0, 0) hg, Nat.zero_add]
      simpa using hu)
    h1 (by unfold maxLen; omega) (Nat.le_trans (Nat.mul_le_mul_left _ hby) (by omega)) (Nat.le_trans hbase hbz.size)
  have hform : ∃ A c, v1 = .slice A (L.length + 1) c := by
    rcases h2.2 with ⟨rfl, h0⟩ | ⟨g, cap, cur, rfl, _⟩
    · omega
    · exact ⟨_, _, rfl⟩
  obtain ⟨A, c, rfl⟩ := hform
  refine ⟨A, c, w1, hr, ⟨fun x hx => ?_, ?_⟩, (hbz.mono hbase).trans ((Below.refl _ _).grown h3 (Nat.le_trans hbase hbz.size) (fun k hk => (World.ownsRow.lt ho1 k hk).1)), fun t' ht' => (KeptT.of_below hbz).trans (KeptT.grown h3 ho1 ht')⟩
  · rcases List.mem_append.1 hx with hx | hx
    · exact h.1 x hx
    · simp at hx; rw [hx]; exact hl
  · rw [List.length_append, List.flatten_append]
    simpa using h2
end
end Go.Proofs.Ytogcecfeofbbnaa
end

section
/- The search, step by step. -/
namespace Go.Proofs.Ytogcecfeofbbnaa

/-- Which states a search has seen. -/
def seenOf (n : Nat) (l : List Nat) : List Bool := (List.range n).map fun x => decide (x ∈ l)
theorem seenOf_len (n : Nat) (l : List Nat) : (seenOf n l).length = n := by simp [seenOf]
theorem seenOf_at {n : Nat} {l : List Nat} {x : Nat} (hx : x < n) : (seenOf n l).getD x false = decide (x ∈ l) := by
  unfold seenOf; simp [List.getD, hx]
theorem seenOf_set {n : Nat} {l : List Nat} {x : Nat} : (seenOf n l).set x true = seenOf n (l ++ [x]) := by
  apply List.ext_getElem
  · simp [seenOf]
  · intro m h1 h2
    have hm : m < n := by simpa [seenOf] using h2
    rw [List.getElem_set]
    by_cases e : x = m
    · subst e; simp [seenOf]
    · rw [if_neg e]; simp [seenOf, show ¬ m = x from fun h => e h.symm]
theorem seenOf_nil (n : Nat) : seenOf n [] = List.replicate n false := by
  apply List.ext_getElem
  · simp [seenOf]
  · intro m h1 h2; simp [seenOf]

/-- A list of states as numbers. -/
def zs (l : List Nat) : List Int := l.map fun x : Nat => (x : Int)
theorem zs_len (l : List Nat) : (zs l).length = l.length := by simp [zs]
theorem zs_at (l : List Nat) (j : Nat) : (zs l).getD j 0 = ((l.getD j 0 : Nat) : Int) := by
  unfold zs
  rw [List.getD_eq_getElem?_getD, List.getD_eq_getElem?_getD, List.getElem?_map]
  cases l[j]? <;> rfl
theorem zs_append (l t : List Nat) : zs (l ++ t) = zs l ++ zs t := by simp [zs]
theorem zs_one (x : Nat) : zs [x] = [(x : Int)] := rfl
theorem zs_inj {l t : List Nat} (h : zs l = zs t) : l = t := by
  induction l generalizing t with
  | nil => cases t with
    | nil => rfl
    | cons => simp [zs] at h
  | cons x l ih => cases t with
    | nil => simp [zs] at h
    | cons y t =>
      simp only [zs, List.map_cons, List.cons.injEq] at h
      rw [ih (by simpa [zs] using h.2), show x = y by omega]
theorem mem_zs {l : List Nat} {x : Nat} : ((x : Int) ∈ zs l) ↔ x ∈ l := by
  simp only [zs, List.mem_map]
  exact ⟨fun ⟨a, h, e⟩ => by rw [show x = a by omega]; exact h, fun h => ⟨x, h, rfl⟩⟩

theorem addR_in {nx : List (List Int)} {s a : Nat} {l : List Nat} (h : nN nx s a ∈ addR nx s l a) : addR nx s l (a + 1) = addR nx s l a := by
  show addN _ _ = _; unfold addN; rw [if_pos h]
theorem addR_out {nx : List (List Int)} {s a : Nat} {l : List Nat} (h : ¬ nN nx s a ∈ addR nx s l a) : addR nx s l (a + 1) = addR nx s l a ++ [nN nx s a] := by
  show addN _ _ = _; unfold addN; rw [if_neg h]
theorem Stt.one {n s : Nat} (h : s < n) : Stt n [s] := ⟨by simp, fun x hx => by simp at hx; omega⟩
theorem addR_at {nx : List (List Int)} {s : Nat} {l : List Nat} {j : Nat} (h : j < l.length) (a : Nat) : (addR nx s l a).getD j 0 = l.getD j 0 := by
  obtain ⟨t, ht⟩ := addR_pre nx s l a
  rw [ht]; exact getD_pre h
theorem addR_len {nx : List (List Int)} {s : Nat} {l : List Nat} (a : Nat) : l.length ≤ (addR nx s l a).length := by
  obtain ⟨t, ht⟩ := addR_pre nx s l a
  rw [ht, List.length_append]; omega
end Go.Proofs.Ytogcecfeofbbnaa
end

section
/- The search for a distinguishing word: pairs of states in the order of the words that reach them. -/
namespace Go.Proofs.Ytogcecfeofbbnaa

/-- A pair that was found: the pair, the place of the one before it, the input from there, and the word. -/
structure Ent where
  p : Nat
  q : Nat
  j : Nat
  x : Nat
  w : List Int
instance : Inhabited Ent := ⟨⟨0, 0, 0, 0, []⟩⟩
def Ent.zero : Ent := ⟨0, 0, 0, 0, []⟩
def Ent.pr (e : Ent) : Nat × Nat := (e.p, e.q)
/-- Is a pair among those that were found? -/
def hasE (E : List Ent) (p q : Nat) : Prop := (p, q) ∈ E.map Ent.pr
instance (E : List Ent) (p q : Nat) : Decidable (hasE E p q) := inferInstanceAs (Decidable ((p, q) ∈ E.map Ent.pr))
def addE (E : List Ent) (e : Ent) : List Ent := if hasE E e.p e.q then E else E ++ [e]
section
variable (nx1 nx2 ot1 ot2 : List (List Int))
/-- The pair behind an entry and an input. -/
def nxE (j : Nat) (e : Ent) (x : Nat) : Ent := ⟨nN nx1 e.p x, nN nx2 e.q x, j, x, e.w ++ [(x : Int)]⟩
def addS (j : Nat) (e : Ent) (E : List Ent) : Nat → List Ent
  | 0 => E
  | x + 1 => addE (addS j e E x) (nxE nx1 nx2 j e x)
/-- Do the outputs of a pair differ at an input below the given one? The first such input. -/
def fD (e : Ent) : Nat → Option Nat
  | 0 => none
  | x + 1 => match fD e x with
    | some y => some y
    | none => if oN ot1 e.p x = oN ot2 e.q x then none else some x
def srch (i : Nat) : Nat → List Ent → Nat → Option (List Int)
  | 0, _, _ => none
  | k + 1, E, j => if j < E.length then
      match fD ot1 ot2 (E.getD j Ent.zero) i with
      | some x => some ((E.getD j Ent.zero).w ++ [(x : Int)])
      | none => srch i k (addS nx1 nx2 j (E.getD j Ent.zero) E i) (j + 1)
    else none
end
/-- The first distinguishing word of two states. -/
def dst (nx1 ot1 nx2 ot2 : List (List Int)) (i n m s t : Nat) : Option (List Int) := srch nx1 nx2 ot1 ot2 i (n * m) [⟨s, t, 0, 0, []⟩] 0

/-- What the entries keep. -/
structure Ens (n m s t : Nat) (E : List Ent) : Prop where
  lt : ∀ e, e ∈ E → e.p < n ∧ e.q < m
  nd : (E.map Ent.pr).Nodup
  ne : 0 < E.length
  z : (E.getD 0 Ent.zero).p = s ∧ (E.getD 0 Ent.zero).q = t ∧ (E.getD 0 Ent.zero).w = []
  bk : ∀ k, 0 < k → k < E.length → (E.getD k Ent.zero).j < k ∧ (E.getD k Ent.zero).w = (E.getD (E.getD k Ent.zero).j Ent.zero).w ++ [((E.getD k Ent.zero).x : Int)]
  wl : ∀ k, k < E.length → (E.getD k Ent.zero).w.length ≤ k

theorem getDE_mem {E : List Ent} {k : Nat} (h : k < E.length) : E.getD k Ent.zero ∈ E := by
  rw [List.getD_eq_getElem?_getD, List.getElem?_eq_getElem h]; exact List.getElem_mem h
theorem getDE_pre {E T : List Ent} {k : Nat} (h : k < E.length) : (E ++ T).getD k Ent.zero = E.getD k Ent.zero := by
  rw [List.getD_eq_getElem?_getD, List.getD_eq_getElem?_getD, List.getElem?_append_left h]
theorem getDE_last {E : List Ent} {e : Ent} : (E ++ [e]).getD E.length Ent.zero = e := by
  rw [List.getD_eq_getElem?_getD, List.getElem?_append_right (Nat.le_refl _)]; simp
theorem nodup_pairs {m : Nat} : ∀ {L : List (Nat × Nat)}, L.Nodup → (∀ x, x ∈ L → x.2 < m) → (L.map fun x => x.1 * m + x.2).Nodup
  | [], _, _ => by simp
  | x :: L, h, hb => by
    rw [List.nodup_cons] at h
    simp only [List.map_cons, List.nodup_cons]
    refine ⟨fun hm => ?_, nodup_pairs h.2 fun y hy => hb y (List.mem_cons_of_mem _ hy)⟩
    obtain ⟨y, hy, e⟩ := List.mem_map.1 hm
    have h1 := hb x (List.mem_cons_self ..)
    have h2 := hb y (List.mem_cons_of_mem _ hy)
    have e1 : x.2 = y.2 := by
      have := congrArg (· % m) e
      simp only [Nat.mul_add_mod_self_right, Nat.mod_eq_of_lt h1, Nat.mod_eq_of_lt h2] at this
      exact this.symm
    have e2 : x.1 = y.1 := by
      have hm : 0 < m := by omega
      have h3 : y.1 * m = x.1 * m := by omega
      exact (Nat.eq_of_mul_eq_mul_right hm h3).symm
    exact h.1 (by rw [show x = y from Prod.ext e2 e1]; exact hy)
section
variable {n m s t : Nat} {E : List Ent}
theorem Ens.len (h : Ens n m s t E) : E.length ≤ n * m := by
  have h1 := nodup_pairs (m := m) h.nd fun x hx => by
    obtain ⟨e, he, rfl⟩ := List.mem_map.1 hx
    exact (h.lt e he).2
  have h2 : Stt (n * m) ((E.map Ent.pr).map fun x => x.1 * m + x.2) := ⟨h1, fun y hy => by
    obtain ⟨x, hx, rfl⟩ := List.mem_map.1 hy
    obtain ⟨e, he, rfl⟩ := List.mem_map.1 hx
    obtain ⟨h3, h4⟩ := h.lt e he
    show e.p * m + e.q < n * m
    have : (e.p + 1) * m ≤ n * m := Nat.mul_le_mul_right m h3
    rw [Nat.add_mul, Nat.one_mul] at this
    omega⟩
  have := h2.len
  simpa using this
theorem Ens.one (hs : s < n) (ht : t < m) : Ens n m s t [⟨s, t, 0, 0, []⟩] where
  lt := fun e he => by simp at he; subst he; exact ⟨hs, ht⟩
  nd := by simp
  ne := by simp
  z := ⟨rfl, rfl, rfl⟩
  bk := fun k h1 h2 => by simp at h2; omega
  wl := fun k h => by simp at h; subst h; exact Nat.zero_le _
theorem Ens.add (h : Ens n m s t E) {e : Ent} (he : e.p < n ∧ e.q < m) (hj : e.j < E.length) (hw : e.w = (E.getD e.j Ent.zero).w ++ [(e.x : Int)]) (hn : ¬ hasE E e.p e.q) : Ens n m s t (E ++ [e]) where
  lt := fun x hx => by
    rcases List.mem_append.1 hx with hx | hx
    · exact h.lt x hx
    · simp at hx; subst hx; exact he
  nd := by
    rw [List.map_append, List.nodup_append]
    refine ⟨h.nd, by simp, fun a ha b hb e2 => ?_⟩
    simp at hb
    subst hb
    subst e2
    exact hn ha
  ne := by simp
  z := by rw [getDE_pre h.ne]; exact h.z
  bk := fun k h1 h2 => by
    rw [List.length_append] at h2
    have h2 : k < E.length + 1 := h2
    by_cases hk : k < E.length
    · rw [getDE_pre hk]
      obtain ⟨a, b⟩ := h.bk k h1 hk
      exact ⟨a, by rw [getDE_pre (by omega)]; exact b⟩
    · obtain rfl : k = E.length := by omega
      rw [getDE_last]
      exact ⟨hj, by rw [getDE_pre hj]; exact hw⟩
  wl := fun k h2 => by
    rw [List.length_append] at h2
    have h2 : k < E.length + 1 := h2
    by_cases hk : k < E.length
    · rw [getDE_pre hk]; exact h.wl k hk
    · obtain rfl : k = E.length := by omega
      have h3 := h.wl e.j hj
      rw [getDE_last, hw, List.length_append]
      show _ + 1 ≤ _
      omega
end
section
variable {nx1 nx2 ot1 ot2 : List (List Int)} {i n m s t j : Nat} {E : List Ent} {e : Ent}
theorem addE_in {E : List Ent} {e : Ent} (h : hasE E e.p e.q) : addE E e = E := by unfold addE; rw [if_pos h]
theorem addE_out {E : List Ent} {e : Ent} (h : ¬ hasE E e.p e.q) : addE E e = E ++ [e] := by unfold addE; rw [if_neg h]
theorem addS_pre {nx1 nx2 : List (List Int)} (j : Nat) (e : Ent) (E : List Ent) : ∀ x, ∃ T, addS nx1 nx2 j e E x = E ++ T
  | 0 => ⟨[], by simp [addS]⟩
  | x + 1 => by
    obtain ⟨T, hT⟩ := addS_pre (nx1 := nx1) (nx2 := nx2) j e E x
    show ∃ T, addE (addS nx1 nx2 j e E x) _ = E ++ T
    unfold addE
    split
    · exact ⟨T, hT⟩
    · exact ⟨T ++ [nxE nx1 nx2 j e x], by rw [hT, List.append_assoc]⟩
/-- One step of the inner loop. -/
theorem addS_ens {st1 st2 : Nat} (hM : Mok i st1 n nx1 ot1) (hN : Mok i st2 m nx2 ot2) (h : Ens n m s t E) (hj : j < E.length) :
    ∀ x, x ≤ i → Ens n m s t (addS nx1 nx2 j (E.getD j Ent.zero) E x)
  | 0, _ => h
  | x + 1, hx => by
    have ih := addS_ens hM hN h hj x (by omega)
    obtain ⟨T, hT⟩ := addS_pre (nx1 := nx1) (nx2 := nx2) j (E.getD j Ent.zero) E x
    obtain ⟨h1, h2⟩ := h.lt _ (getDE_mem hj)
    show Ens n m s t (addE (addS nx1 nx2 j (E.getD j Ent.zero) E x) _)
    by_cases hh : hasE (addS nx1 nx2 j (E.getD j Ent.zero) E x) (nxE nx1 nx2 j (E.getD j Ent.zero) x).p (nxE nx1 nx2 j (E.getD j Ent.zero) x).q
    · rw [addE_in hh]; exact ih
    · rw [addE_out hh]
      refine ih.add ⟨hM.nN_lt h1 (by omega), hN.nN_lt h2 (by omega)⟩ ?_ ?_ hh
      · rw [hT, List.length_append]; show j < _; omega
      · show _ = ((addS nx1 nx2 j (E.getD j Ent.zero) E x).getD j Ent.zero).w ++ _
        rw [hT, getDE_pre hj]; rfl
theorem srch_fuel {st1 st2 : Nat} (hM : Mok i st1 n nx1 ot1) (hN : Mok i st2 m nx2 ot2) : ∀ (k : Nat) (E : List Ent) (j : Nat), Ens n m s t E → n * m ≤ k + j → srch nx1 nx2 ot1 ot2 i (k + 1) E j = srch nx1 nx2 ot1 ot2 i k E j
  | 0, E, j, h, hk => by
    have := h.len
    unfold srch
    rw [if_neg (by omega)]
  | k + 1, E, j, h, hk => by
    rw [srch]
    conv => rhs; rw [srch]
    by_cases hj : j < E.length
    · rw [if_pos hj, if_pos hj]
      cases fD ot1 ot2 (E.getD j Ent.zero) i with
      | some x => rfl
      | none => exact srch_fuel hM hN k _ _ (addS_ens hM hN h hj i (Nat.le_refl _)) (by omega)
    · rw [if_neg hj, if_neg hj]
/-- The search stands at place j. -/
theorem srch_on {st1 st2 : Nat} (hM : Mok i st1 n nx1 ot1) (hN : Mok i st2 m nx2 ot2) (h : Ens n m s t E) (hj : j < E.length) (hd : fD ot1 ot2 (E.getD j Ent.zero) i = none) :
    srch nx1 nx2 ot1 ot2 i (n * m) (addS nx1 nx2 j (E.getD j Ent.zero) E i) (j + 1) = srch nx1 nx2 ot1 ot2 i (n * m) E j := by
  have h1 := h.len
  obtain ⟨k, hk⟩ : ∃ k, n * m = k + 1 := ⟨n * m - 1, by omega⟩
  rw [hk]
  conv => rhs; rw [srch]
  rw [if_pos hj, hd]
  exact srch_fuel hM hN k _ _ (addS_ens hM hN h hj i (Nat.le_refl _)) (by omega)
theorem srch_hit {st1 st2 : Nat} (_hM : Mok i st1 n nx1 ot1) (_hN : Mok i st2 m nx2 ot2) (h : Ens n m s t E) (hj : j < E.length) {x : Nat} (hd : fD ot1 ot2 (E.getD j Ent.zero) i = some x) :
    srch nx1 nx2 ot1 ot2 i (n * m) E j = some ((E.getD j Ent.zero).w ++ [(x : Int)]) := by
  have h1 := h.len
  obtain ⟨k, hk⟩ : ∃ k, n * m = k + 1 := ⟨n * m - 1, by omega⟩
  rw [hk, srch, if_pos hj, hd]
theorem srch_end {k : Nat} (hj : ¬ j < E.length) : srch nx1 nx2 ot1 ot2 i k E j = none := by
  cases k with
  | zero => rfl
  | succ k => rw [srch, if_neg hj]
theorem fD_none : ∀ {x : Nat}, fD ot1 ot2 e x = none → ∀ a, a < x → oN ot1 e.p a = oN ot2 e.q a
  | 0, _, a, ha => absurd ha (by omega)
  | x + 1, h, a, ha => by
    rw [fD] at h
    cases h1 : fD ot1 ot2 e x with
    | some y => rw [h1] at h; exact absurd h (by simp)
    | none =>
      rw [h1] at h
      by_cases h2 : oN ot1 e.p x = oN ot2 e.q x
      · by_cases h3 : a = x
        · subst h3; exact h2
        · exact fD_none h1 a (by omega)
      · simp [h2] at h
theorem fD_step (h : fD ot1 ot2 e j = none) (ho : oN ot1 e.p j = oN ot2 e.q j) : fD ot1 ot2 e (j + 1) = none := by rw [fD, h]; simp [ho]
theorem fD_mono {y : Nat} : ∀ {x : Nat} (d : Nat), fD ot1 ot2 e x = some y → fD ot1 ot2 e (x + d) = some y
  | x, 0, h => h
  | x, d + 1, h => by
    have := fD_mono d h
    show fD ot1 ot2 e (x + d + 1) = _
    rw [fD, this]
theorem fD_hit (h : fD ot1 ot2 e j = none) (ho : ¬ oN ot1 e.p j = oN ot2 e.q j) (hj : j < i) : fD ot1 ot2 e i = some j := by
  have h1 : fD ot1 ot2 e (j + 1) = some j := by rw [fD, h]; simp [ho]
  have := fD_mono (i - (j + 1)) h1
  rwa [show j + 1 + (i - (j + 1)) = i by omega] at this
end
end Go.Proofs.Ytogcecfeofbbnaa
end

section
/- States with the same outputs. -/
namespace Go.Proofs.Ytogcecfeofbbnaa

/-- A word over i symbols. -/
def Wd (i : Nat) (u : List Int) : Prop := ∀ x, x ∈ u → 0 ≤ x ∧ x < i
theorem Wd.nil (i : Nat) : Wd i [] := fun x h => by simp at h
theorem Wd.cons {i a : Nat} {u : List Int} (ha : a < i) (h : Wd i u) : Wd i ((a : Int) :: u) := fun x hx => by
  rcases List.mem_cons.1 hx with rfl | hx
  · omega
  · exact h x hx
theorem Wd.tail {i : Nat} {x : Int} {u : List Int} (h : Wd i (x :: u)) : Wd i u := fun y hy => h y (by simp [hy])
theorem Wd.head {i : Nat} {x : Int} {u : List Int} (h : Wd i (x :: u)) : ∃ a : Nat, x = a ∧ a < i := ⟨x.toNat, by have := h x (by simp); omega, by have := h x (by simp); omega⟩

/-- Two states have the same outputs for all words. -/
def Bis (i : Nat) (nx ot : List (List Int)) (s : Nat) (mx mt : List (List Int)) (t : Nat) : Prop := ∀ u, Wd i u → runO nx ot s u = runO mx mt t u
section
variable {i : Nat} {nx ot mx mt lx lt : List (List Int)} {s t r a : Nat}
theorem Bis.refl (i : Nat) (nx ot : List (List Int)) (s : Nat) : Bis i nx ot s nx ot s := fun _ _ => rfl
theorem Bis.symm (h : Bis i nx ot s mx mt t) : Bis i mx mt t nx ot s := fun u hu => (h u hu).symm
theorem Bis.trans (h : Bis i nx ot s mx mt t) (k : Bis i mx mt t lx lt r) : Bis i nx ot s lx lt r := fun u hu => (h u hu).trans (k u hu)
theorem Bis.out (h : Bis i nx ot s mx mt t) (ha : a < i) : oN ot s a = oN mt t a := by
  have := h [(a : Int)] ((Wd.nil i).cons ha)
  simpa [runO] using this
theorem Bis.next (h : Bis i nx ot s mx mt t) (ha : a < i) : Bis i nx ot (nN nx s a) mx mt (nN mx t a) := fun u hu => by
  have := h ((a : Int) :: u) (hu.cons ha)
  simp only [runO, Int.toNat_natCast, List.cons.injEq] at this
  exact this.2
end

end Go.Proofs.Ytogcecfeofbbnaa
end

section
/- A distinguishing word is found just if the outputs differ. -/
namespace Go.Proofs.Ytogcecfeofbbnaa

theorem fD_some {ot1 ot2 : List (List Int)} {e : Ent} {y : Nat} : ∀ {x : Nat}, fD ot1 ot2 e x = some y → y < x ∧ ¬ oN ot1 e.p y = oN ot2 e.q y ∧ ∀ a, a < y → oN ot1 e.p a = oN ot2 e.q a
  | 0, h => by simp [fD] at h
  | x + 1, h => by
    rw [fD] at h
    cases h1 : fD ot1 ot2 e x with
    | some z =>
      rw [h1] at h
      injection h with h
      subst h
      obtain ⟨a, b, c⟩ := fD_some h1
      exact ⟨by omega, b, c⟩
    | none =>
      rw [h1] at h
      by_cases h2 : oN ot1 e.p x = oN ot2 e.q x
      · simp [h2] at h
      · simp [h2] at h
        subst h
        exact ⟨by omega, h2, fD_none h1⟩
theorem runS_app (nx : List (List Int)) : ∀ (u v : List Int) (s : Nat), runS nx s (u ++ v) = runS nx (runS nx s u) v
  | [], _, _ => rfl
  | x :: u, v, s => by
    show runS nx (nN nx s x.toNat) (u ++ v) = _
    rw [runS_app nx u v]; rfl
theorem runO_app (nx ot : List (List Int)) : ∀ (u v : List Int) (s : Nat), runO nx ot s (u ++ v) = runO nx ot s u ++ runO nx ot (runS nx s u) v
  | [], _, _ => rfl
  | x :: u, v, s => by
    show oN ot s x.toNat :: runO nx ot (nN nx s x.toNat) (u ++ v) = _
    rw [runO_app nx ot u v]; rfl
theorem Wd.app {i : Nat} {u v : List Int} (h : Wd i u) (k : Wd i v) : Wd i (u ++ v) := fun x hx => (List.mem_append.1 hx).elim (h x) (k x)
theorem Wd.one {i a : Nat} (h : a < i) : Wd i [(a : Int)] := (Wd.nil i).cons h
/-- What the words of the entries do. -/
def Gd (nx1 nx2 ot1 ot2 : List (List Int)) (i s t : Nat) (e : Ent) : Prop := Wd i e.w ∧ runS nx1 s e.w = e.p ∧ runS nx2 t e.w = e.q ∧ runO nx1 ot1 s e.w = runO nx2 ot2 t e.w
section
variable {nx1 nx2 ot1 ot2 : List (List Int)} {i n m s t j : Nat} {E : List Ent} {e : Ent}
theorem Gd.next (h : Gd nx1 nx2 ot1 ot2 i s t e) {x : Nat} (hx : x < i) (ho : oN ot1 e.p x = oN ot2 e.q x) : Gd nx1 nx2 ot1 ot2 i s t (nxE nx1 nx2 j e x) := by
  obtain ⟨h1, h2, h3, h4⟩ := h
  refine ⟨h1.app (Wd.one hx), ?_, ?_, ?_⟩
  · show runS nx1 s (e.w ++ [(x : Int)]) = _
    rw [runS_app, h2]; rfl
  · show runS nx2 t (e.w ++ [(x : Int)]) = _
    rw [runS_app, h3]; rfl
  · show runO nx1 ot1 s (e.w ++ [(x : Int)]) = runO nx2 ot2 t (e.w ++ [(x : Int)])
    rw [runO_app, runO_app, h4, h2, h3]
    show _ ++ [oN ot1 e.p x] = _ ++ [oN ot2 e.q x]
    rw [ho]
theorem mem_addE {x : Ent} (h : x ∈ addE E e) : x ∈ E ∨ x = e := by
  unfold addE at h
  split at h
  · exact .inl h
  · rcases List.mem_append.1 h with h | h
    · exact .inl h
    · simp at h; exact .inr h
theorem Gd.addS (hE : ∀ x, x ∈ E → Gd nx1 nx2 ot1 ot2 i s t x) (he : Gd nx1 nx2 ot1 ot2 i s t e) : ∀ x, x ≤ i → (∀ a, a < x → oN ot1 e.p a = oN ot2 e.q a) → ∀ y, y ∈ _root_.Go.Proofs.Ytogcecfeofbbnaa.addS nx1 nx2 j e E x → Gd nx1 nx2 ot1 ot2 i s t y
  | 0, _, _, y, hy => hE y hy
  | x + 1, hx, ho, y, hy => by
    rcases mem_addE hy with hy | rfl
    · exact Gd.addS hE he x (by omega) (fun a ha => ho a (by omega)) y hy
    · exact he.next (by omega) (ho x (by omega))
theorem srch_sound {v : List Int} : ∀ (k : Nat) (E : List Ent) (j : Nat), (∀ x, x ∈ E → Gd nx1 nx2 ot1 ot2 i s t x) → srch nx1 nx2 ot1 ot2 i k E j = some v →
    ∃ w x, v = w ++ [((x : Nat) : Int)] ∧ x < i ∧ Wd i w ∧ runO nx1 ot1 s w = runO nx2 ot2 t w ∧ ¬ oN ot1 (runS nx1 s w) x = oN ot2 (runS nx2 t w) x
  | 0, _, _, _, h => by simp [srch] at h
  | k + 1, E, j, hE, h => by
    rw [srch] at h
    by_cases hj : j < E.length
    · rw [if_pos hj] at h
      have he := hE _ (getDE_mem hj)
      cases hd : fD ot1 ot2 (E.getD j Ent.zero) i with
      | some x =>
        rw [hd] at h
        injection h with h
        obtain ⟨h1, h2, _⟩ := fD_some hd
        obtain ⟨g1, g2, g3, g4⟩ := he
        exact ⟨_, x, h.symm, h1, g1, g4, by rw [g2, g3]; exact h2⟩
      | none =>
        rw [hd] at h
        exact srch_sound k _ _ (fun y hy => Gd.addS hE he i (Nat.le_refl _) (fD_none hd) y hy) h
    · rw [if_neg hj] at h; exact absurd h (by simp)
theorem dst_sound {v : List Int} (h : dst nx1 ot1 nx2 ot2 i n m s t = some v) :
    ∃ w x, v = w ++ [((x : Nat) : Int)] ∧ x < i ∧ Wd i w ∧ runO nx1 ot1 s w = runO nx2 ot2 t w ∧ ¬ oN ot1 (runS nx1 s w) x = oN ot2 (runS nx2 t w) x := by
  refine srch_sound _ _ _ (fun x hx => ?_) h
  simp at hx
  subst hx
  exact ⟨Wd.nil i, rfl, rfl, rfl⟩
theorem dst_not {v : List Int} (h : dst nx1 ot1 nx2 ot2 i n m s t = some v) : ¬ Bis i nx1 ot1 s nx2 ot2 t := fun hb => by
  obtain ⟨w, x, _, hx, hw, _, hd⟩ := dst_sound h
  have h1 := hb (w ++ [(x : Int)]) (hw.app (Wd.one hx))
  rw [runO_app, runO_app, hb w hw] at h1
  have h2 := List.append_cancel_left h1
  simp only [runO, Int.toNat_natCast, List.cons.injEq] at h2
  exact hd h2.1
theorem hasE_mono {E T : List Ent} {p q : Nat} (h : hasE E p q) : hasE (E ++ T) p q := by unfold hasE at h ⊢; rw [List.map_append]; exact List.mem_append.2 (.inl h)
theorem addS_has (j : Nat) (e : Ent) (E : List Ent) : ∀ x y, y < x → hasE (_root_.Go.Proofs.Ytogcecfeofbbnaa.addS nx1 nx2 j e E x) (nN nx1 e.p y) (nN nx2 e.q y)
  | 0, y, h => absurd h (by omega)
  | x + 1, y, h => by
    show hasE (addE (_root_.Go.Proofs.Ytogcecfeofbbnaa.addS nx1 nx2 j e E x) (nxE nx1 nx2 j e x)) _ _
    by_cases e1 : y = x
    · subst e1
      by_cases h2 : hasE (_root_.Go.Proofs.Ytogcecfeofbbnaa.addS nx1 nx2 j e E y) (nN nx1 e.p y) (nN nx2 e.q y)
      · rw [addE_in h2]; exact h2
      · rw [addE_out (e := nxE nx1 nx2 j e y) h2]
        unfold hasE
        rw [List.map_append]
        exact List.mem_append.2 (.inr (by simp [Ent.pr, nxE]))
    · have ih := addS_has j e E x y (by omega)
      unfold addE
      split
      · exact ih
      · exact hasE_mono ih
/-- An entry whose pairs behind have been found, and whose outputs are equal. -/
def Cl (nx1 nx2 ot1 ot2 : List (List Int)) (i : Nat) (E : List Ent) (e : Ent) : Prop := ∀ x, x < i → oN ot1 e.p x = oN ot2 e.q x ∧ hasE E (nN nx1 e.p x) (nN nx2 e.q x)
theorem srch_closed {st1 st2 : Nat} (hM : Mok i st1 n nx1 ot1) (hN : Mok i st2 m nx2 ot2) : ∀ (k : Nat) (E : List Ent) (j : Nat), Ens n m s t E → j ≤ E.length → n * m ≤ k + j → (∀ a, a < j → Cl nx1 nx2 ot1 ot2 i E (E.getD a Ent.zero)) → srch nx1 nx2 ot1 ot2 i k E j = none →
    ∃ F, Ens n m s t F ∧ ∀ a, a < F.length → Cl nx1 nx2 ot1 ot2 i F (F.getD a Ent.zero)
  | 0, E, j, hE, hj, hk, hc, _ => by
    have := hE.len
    exact ⟨E, hE, fun a ha => hc a (by omega)⟩
  | k + 1, E, j, hE, hj, hk, hc, h => by
    rw [srch] at h
    by_cases hl : j < E.length
    · rw [if_pos hl] at h
      cases hd : fD ot1 ot2 (E.getD j Ent.zero) i with
      | some x => rw [hd] at h; exact absurd h (by simp)
      | none =>
        rw [hd] at h
        have hE2 := addS_ens hM hN hE hl i (Nat.le_refl _)
        obtain ⟨T, hT⟩ := addS_pre (nx1 := nx1) (nx2 := nx2) j (E.getD j Ent.zero) E i
        have hle : E.length ≤ (_root_.Go.Proofs.Ytogcecfeofbbnaa.addS nx1 nx2 j (E.getD j Ent.zero) E i).length := by rw [hT, List.length_append]; omega
        refine srch_closed hM hN k _ _ hE2 (by omega) (by omega) (fun a ha => ?_) h
        have hg : (_root_.Go.Proofs.Ytogcecfeofbbnaa.addS nx1 nx2 j (E.getD j Ent.zero) E i).getD a Ent.zero = E.getD a Ent.zero := by rw [hT, getDE_pre (by omega)]
        rw [hg]
        by_cases ha2 : a = j
        · subst ha2
          exact fun x hx => ⟨fD_none hd x hx, addS_has a _ E i x hx⟩
        · intro x hx
          obtain ⟨c1, c2⟩ := hc a (by omega) x hx
          exact ⟨c1, by rw [hT]; exact hasE_mono c2⟩
    · exact ⟨E, hE, fun a ha => hc a (by omega)⟩
theorem hasE_get {E : List Ent} {p q : Nat} (h : hasE E p q) : ∃ a, a < E.length ∧ (E.getD a Ent.zero).p = p ∧ (E.getD a Ent.zero).q = q := by
  unfold hasE at h
  obtain ⟨e, he, e2⟩ := List.mem_map.1 h
  obtain ⟨a, ha, rfl⟩ := List.getElem_of_mem he
  refine ⟨a, ha, ?_⟩
  rw [List.getD_eq_getElem?_getD, List.getElem?_eq_getElem ha]
  unfold Ent.pr at e2
  injection e2 with e3 e4
  exact ⟨e3, e4⟩
theorem closed_bis {F : List Ent} (h : ∀ a, a < F.length → Cl nx1 nx2 ot1 ot2 i F (F.getD a Ent.zero)) : ∀ (u : List Int) (a : Nat), a < F.length → Wd i u → runO nx1 ot1 (F.getD a Ent.zero).p u = runO nx2 ot2 (F.getD a Ent.zero).q u
  | [], _, _, _ => rfl
  | x :: u, a, ha, hu => by
    obtain ⟨y, rfl, hy⟩ := hu.head
    obtain ⟨c1, c2⟩ := h a ha y hy
    obtain ⟨b, hb, e1, e2⟩ := hasE_get c2
    have ih := closed_bis h u b hb hu.tail
    rw [e1, e2] at ih
    simp only [runO, Int.toNat_natCast]
    rw [c1, ih]
theorem dst_none {st1 st2 : Nat} (hM : Mok i st1 n nx1 ot1) (hN : Mok i st2 m nx2 ot2) (hs : s < n) (ht : t < m) : dst nx1 ot1 nx2 ot2 i n m s t = none ↔ Bis i nx1 ot1 s nx2 ot2 t := by
  constructor
  · intro h
    obtain ⟨F, hF, hc⟩ := srch_closed hM hN _ _ 0 (Ens.one hs ht) (Nat.zero_le _) (by omega) (fun a ha => absurd ha (by omega)) h
    intro u hu
    have h1 := closed_bis hc u 0 hF.ne hu
    rw [hF.z.1, hF.z.2.1] at h1
    exact h1
  · intro hb
    cases h : dst nx1 ot1 nx2 ot2 i n m s t with
    | none => rfl
    | some v => exact absurd hb (dst_not h)
end
end Go.Proofs.Ytogcecfeofbbnaa
end

section
/- word.Lex and word.Compare. -/
namespace Go.Proofs.Ytogcecfeofbbnaa
open Go.RowKit

theorem isnan (k : Int) (w : World) : Calls Try.prog 145 #[.int .i64 k] w fun e w' => e = .returned (.bool false) ∧ w = w' := by
  go_enter Try.func145, Try.ntmps145
  go_wp2
  go_ret
  exact ⟨rfl, rfl⟩

theorem cmpI_zero {a b : Int} (h : a = b) : cmpI a b = 0 := by unfold cmpI; rw [if_neg (by omega), if_neg (by omega)]
theorem cmpI_ne {a b : Int} (h : a ≠ b) : cmpI a b ≠ 0 := by unfold cmpI; split; decide; split; decide; omega

theorem shlex_lt {xs ys : List Int} (h : xs.length < ys.length) : shlex xs ys = -1 := by unfold shlex; rw [if_pos h]
theorem shlex_gt {xs ys : List Int} (h : ys.length < xs.length) : shlex xs ys = 1 := by unfold shlex; rw [if_neg (by omega), if_pos h]
theorem shlex_eq {xs ys : List Int} (h : xs.length = ys.length) : shlex xs ys = lexi xs ys := by unfold shlex; rw [if_neg (by omega), if_neg (by omega)]

end Go.Proofs.Ytogcecfeofbbnaa
end

section
/- The word that is found is the first one. -/
namespace Go.Proofs.Ytogcecfeofbbnaa

/-- Dictionary order of words of the same length, and shortlex order. -/
def Lx : List Int → List Int → Prop
  | a :: u, b :: v => a < b ∨ (a = b ∧ Lx u v)
  | _, _ => False
def SL (u v : List Int) : Prop := u.length < v.length ∨ (u.length = v.length ∧ Lx u v)
theorem Lx_snoc : ∀ {u w : List Int} {x y : Int}, u.length = w.length → (Lx (u ++ [y]) (w ++ [x]) ↔ Lx u w ∨ (u = w ∧ y < x))
  | [], [], x, y, _ => by simp [Lx]
  | a :: u, b :: w, x, y, h => by
    have ih := Lx_snoc (u := u) (w := w) (x := x) (y := y) (by simpa using h)
    simp only [List.cons_append, Lx, ih, List.cons.injEq]
    constructor
    · rintro (h1 | ⟨h1, h2 | ⟨h2, h3⟩⟩)
      · exact .inl (.inl h1)
      · exact .inl (.inr ⟨h1, h2⟩)
      · exact .inr ⟨⟨h1, h2⟩, h3⟩
    · rintro ((h1 | ⟨h1, h2⟩) | ⟨⟨h1, h2⟩, h3⟩)
      · exact .inl h1
      · exact .inr ⟨h1, .inl h2⟩
      · exact .inr ⟨h1, .inr ⟨h2, h3⟩⟩
  | [], _ :: _, _, _, h => by simp at h
  | _ :: _, [], _, _, h => by simp at h
theorem SL_snoc {u w : List Int} {x y : Int} (h : SL (u ++ [y]) (w ++ [x])) : SL u w ∨ (u = w ∧ y < x) := by
  rcases h with h | ⟨h, h2⟩
  · simp only [List.length_append, List.length_singleton] at h
    exact .inl (.inl (by omega))
  · have hl : u.length = w.length := by simpa using h
    rcases (Lx_snoc hl).1 h2 with h3 | h3
    · exact .inl (.inr ⟨hl, h3⟩)
    · exact .inr h3
theorem Lx_tri : ∀ {u v : List Int}, u.length = v.length → Lx u v ∨ u = v ∨ Lx v u
  | [], [], _ => .inr (.inl rfl)
  | a :: u, b :: v, h => by
    have ih := Lx_tri (u := u) (v := v) (by simpa using h)
    simp only [Lx, List.cons.injEq]
    rcases Int.lt_trichotomy a b with h1 | h1 | h1
    · exact .inl (.inl h1)
    · rcases ih with h2 | h2 | h2
      · exact .inl (.inr ⟨h1, h2⟩)
      · exact .inr (.inl ⟨h1, h2⟩)
      · exact .inr (.inr (.inr ⟨h1.symm, h2⟩))
    · exact .inr (.inr (.inl h1))
  | [], _ :: _, h => by simp at h
  | _ :: _, [], h => by simp at h
theorem SL_tri {u v : List Int} : SL u v ∨ u = v ∨ SL v u := by
  rcases Nat.lt_trichotomy u.length v.length with h | h | h
  · exact .inl (.inl h)
  · rcases Lx_tri h with h2 | h2 | h2
    · exact .inl (.inr ⟨h, h2⟩)
    · exact .inr (.inl h2)
    · exact .inr (.inr (.inr ⟨h.symm, h2⟩))
  · exact .inr (.inr (.inl h))
theorem lexi_cons (a : Int) (u v : List Int) : lexi (a :: u) (a :: v) = lexi u v := by
  unfold lexi
  simp [cmn]
theorem lexi_ne {a b : Int} {u v : List Int} (h : ¬ a = b) : lexi (a :: u) (b :: v) = if a < b then -1 else 1 := by
  unfold lexi
  simp [cmn, h]
theorem lexi_neg : ∀ {u v : List Int}, u.length = v.length → lexi u v < 0 → Lx u v
  | [], [], _, h => by simp [lexi, cmn] at h
  | a :: u, b :: v, hl, h => by
    by_cases e : a = b
    · subst e
      rw [lexi_cons] at h
      exact .inr ⟨rfl, lexi_neg (by simpa using hl) h⟩
    · rw [lexi_ne e] at h
      by_cases e2 : a < b
      · exact .inl e2
      · rw [if_neg e2] at h; omega
  | [], _ :: _, h, _ => by simp at h
  | _ :: _, [], h, _ => by simp at h
theorem shlex_sl {u v : List Int} (h : shlex u v < 0) : SL u v := by
  rcases Nat.lt_trichotomy u.length v.length with h1 | h1 | h1
  · exact .inl h1
  · rw [shlex_eq h1] at h
    exact .inr ⟨h1, lexi_neg h1 h⟩
  · rw [shlex_gt h1] at h; omega

/-- What the search has done before its step T. -/
structure Ord_ (nx1 nx2 ot1 ot2 : List (List Int)) (i s t T : Nat) (E : List Ent) : Prop where
  ne : 0 < E.length
  z : (E.getD 0 Ent.zero).w = []
  zp : (E.getD 0 Ent.zero).p = s ∧ (E.getD 0 Ent.zero).q = t
  bk : ∀ k, 0 < k → k < E.length → (E.getD k Ent.zero).j < k ∧ (E.getD k Ent.zero).w = (E.getD (E.getD k Ent.zero).j Ent.zero).w ++ [((E.getD k Ent.zero).x : Int)]
  mono : ∀ k l, 0 < k → k < l → l < E.length → (E.getD k Ent.zero).j * i + (E.getD k Ent.zero).x < (E.getD l Ent.zero).j * i + (E.getD l Ent.zero).x
  xs : ∀ k, 0 < k → k < E.length → (E.getD k Ent.zero).x < i ∧ (E.getD k Ent.zero).j * i + (E.getD k Ent.zero).x < T
  cl : ∀ a y, a < E.length → y < i → a * i + y < T → ∃ c, c < E.length ∧ (E.getD c Ent.zero).p = nN nx1 (E.getD a Ent.zero).p y ∧ (E.getD c Ent.zero).q = nN nx2 (E.getD a Ent.zero).q y ∧ (c = 0 ∨ (E.getD c Ent.zero).j * i + (E.getD c Ent.zero).x ≤ a * i + y)
  ou : ∀ a y, a < E.length → y < i → a * i + y < T → oN ot1 (E.getD a Ent.zero).p y = oN ot2 (E.getD a Ent.zero).q y
  gd : ∀ e, e ∈ E → Gd nx1 nx2 ot1 ot2 i s t e
section
variable {nx1 nx2 ot1 ot2 : List (List Int)} {i n m s t T j x : Nat} {E : List Ent}
theorem pos_uniq {a y j x : Nat} (hy : y < i) (hx : x < i) (h : a * i + y = j * i + x) : a = j ∧ y = x := by
  have h1 : (a * i + y) / i = a := by rw [Nat.mul_comm, Nat.mul_add_div (by omega)]; rw [Nat.div_eq_of_lt hy]; rfl
  have h2 : (j * i + x) / i = j := by rw [Nat.mul_comm, Nat.mul_add_div (by omega)]; rw [Nat.div_eq_of_lt hx]; rfl
  have : a = j := by rw [← h1, ← h2, h]
  subst this
  exact ⟨rfl, by omega⟩
theorem Ord_.one (i s t : Nat) : Ord_ nx1 nx2 ot1 ot2 i s t 0 [⟨s, t, 0, 0, []⟩] where
  ne := by simp
  z := rfl
  zp := ⟨rfl, rfl⟩
  bk := fun k h1 h2 => by simp at h2; omega
  mono := fun k l h1 h2 h3 => by simp at h3; omega
  xs := fun k h1 h2 => by simp at h2; omega
  cl := fun a y _ _ h => absurd h (by omega)
  ou := fun a y _ _ h => absurd h (by omega)
  gd := fun e he => by simp at he; subst he; exact ⟨Wd.nil i, rfl, rfl, rfl⟩
theorem Ord_.step (h : Ord_ nx1 nx2 ot1 ot2 i s t (j * i + x) E) (hj : j < E.length) (hx : x < i) (ho : oN ot1 (E.getD j Ent.zero).p x = oN ot2 (E.getD j Ent.zero).q x) :
    Ord_ nx1 nx2 ot1 ot2 i s t (j * i + x + 1) (addE E (nxE nx1 nx2 j (E.getD j Ent.zero) x)) := by
  have hout : ∀ a y, a < E.length → y < i → a * i + y < j * i + x + 1 → oN ot1 (E.getD a Ent.zero).p y = oN ot2 (E.getD a Ent.zero).q y := fun a y ha hy hl => by
    by_cases e : a * i + y = j * i + x
    · obtain ⟨rfl, rfl⟩ := pos_uniq hy hx e; exact ho
    · exact h.ou a y ha hy (by omega)
  by_cases hh : hasE E (nxE nx1 nx2 j (E.getD j Ent.zero) x).p (nxE nx1 nx2 j (E.getD j Ent.zero) x).q
  · rw [addE_in hh]
    refine ⟨h.ne, h.z, h.zp, h.bk, h.mono, fun k h1 h2 => ⟨(h.xs k h1 h2).1, by have := (h.xs k h1 h2).2; omega⟩, fun a y ha hy hl => ?_, hout, h.gd⟩
    by_cases e : a * i + y = j * i + x
    · obtain ⟨rfl, rfl⟩ := pos_uniq hy hx e
      obtain ⟨c, hc, e1, e2⟩ := hasE_get hh
      refine ⟨c, hc, e1, e2, ?_⟩
      by_cases h0 : c = 0
      · exact .inl h0
      · exact .inr (by have := (h.xs c (by omega) hc).2; omega)
    · exact h.cl a y ha hy (by omega)
  · rw [addE_out hh]
    have hL : (E ++ [nxE nx1 nx2 j (E.getD j Ent.zero) x]).length = E.length + 1 := by simp
    have hp : ∀ k, k < E.length → (E ++ [nxE nx1 nx2 j (E.getD j Ent.zero) x]).getD k Ent.zero = E.getD k Ent.zero := fun k hk => getDE_pre hk
    have hl : (E ++ [nxE nx1 nx2 j (E.getD j Ent.zero) x]).getD E.length Ent.zero = nxE nx1 nx2 j (E.getD j Ent.zero) x := getDE_last
    refine ⟨by omega, by rw [hp 0 h.ne]; exact h.z, by rw [hp 0 h.ne]; exact h.zp, fun k h1 h2 => ?_, fun k l h1 h2 h3 => ?_, fun k h1 h2 => ?_, fun a y ha hy hl2 => ?_, fun a y ha hy hl2 => ?_, fun e he => ?_⟩
    · by_cases hk : k < E.length
      · rw [hp k hk]
        obtain ⟨b1, b2⟩ := h.bk k h1 hk
        exact ⟨b1, by rw [hp _ (by omega)]; exact b2⟩
      · obtain rfl : k = E.length := by omega
        rw [hl]
        exact ⟨hj, by show _ = ((E ++ [nxE nx1 nx2 j (E.getD j Ent.zero) x]).getD j Ent.zero).w ++ _; rw [hp j hj]; rfl⟩
    · by_cases hk : l < E.length
      · rw [hp k (by omega), hp l hk]; exact h.mono k l h1 h2 hk
      · obtain rfl : l = E.length := by omega
        rw [hp k (by omega), hl]
        exact (h.xs k h1 (by omega)).2
    · by_cases hk : k < E.length
      · rw [hp k hk]
        exact ⟨(h.xs k h1 hk).1, by have := (h.xs k h1 hk).2; omega⟩
      · obtain rfl : k = E.length := by omega
        rw [hl]
        exact ⟨hx, by show j * i + x < _; omega⟩
    · have ha2 : a < E.length := by
        by_cases h3 : a < E.length
        · exact h3
        · have : (j + 1) * i ≤ a * i := Nat.mul_le_mul_right i (by omega)
          rw [Nat.succ_mul] at this
          omega
      rw [hp a ha2]
      by_cases e : a * i + y = j * i + x
      · obtain ⟨rfl, rfl⟩ := pos_uniq hy hx e
        exact ⟨E.length, by omega, by rw [hl]; rfl, by rw [hl]; rfl, .inr (by rw [hl]; exact Nat.le_refl _)⟩
      · obtain ⟨c, hc, e1, e2, e3⟩ := h.cl a y ha2 hy (by omega)
        exact ⟨c, by omega, by rw [hp c hc]; exact e1, by rw [hp c hc]; exact e2, by rw [hp c hc]; exact e3⟩
    · have ha2 : a < E.length := by
        by_cases h3 : a < E.length
        · exact h3
        · have : (j + 1) * i ≤ a * i := Nat.mul_le_mul_right i (by omega)
          rw [Nat.succ_mul] at this
          omega
      rw [hp a ha2]
      exact hout a y ha2 hy hl2
    · rcases List.mem_append.1 he with he | he
      · exact h.gd e he
      · simp at he
        subst he
        exact (h.gd _ (getDE_mem hj)).next hx ho
theorem Ord_.round (h : Ord_ nx1 nx2 ot1 ot2 i s t (j * i) E) (hj : j < E.length) : ∀ x, x ≤ i → (∀ a, a < x → oN ot1 (E.getD j Ent.zero).p a = oN ot2 (E.getD j Ent.zero).q a) →
    Ord_ nx1 nx2 ot1 ot2 i s t (j * i + x) (addS nx1 nx2 j (E.getD j Ent.zero) E x)
  | 0, _, _ => h
  | x + 1, hx, ho => by
    have ih := Ord_.round h hj x (by omega) (fun a ha => ho a (by omega))
    obtain ⟨S, hS⟩ := addS_pre (nx1 := nx1) (nx2 := nx2) j (E.getD j Ent.zero) E x
    have hg : (addS nx1 nx2 j (E.getD j Ent.zero) E x).getD j Ent.zero = E.getD j Ent.zero := by rw [hS, getDE_pre hj]
    have h2 := ih.step (by rw [hS, List.length_append]; omega) (by omega) (by rw [hg]; exact ho x (by omega))
    rw [hg] at h2
    exact h2
/-- Words before an entry's word lead to entries before it. -/
theorem Ord_.before (h : Ord_ nx1 nx2 ot1 ot2 i s t T E) : ∀ (N : Nat) (u : List Int) (k : Nat), u.length ≤ N → k < E.length → Wd i u → SL u (E.getD k Ent.zero).w → ∃ c, c < k ∧ (E.getD c Ent.zero).p = runS nx1 s u ∧ (E.getD c Ent.zero).q = runS nx2 t u := by
  intro N
  induction N with
  | zero =>
    intro u k hN hk hu hsl
    obtain rfl : u = [] := List.eq_nil_of_length_eq_zero (by omega)
    by_cases h0 : k = 0
    · subst h0; rw [h.z] at hsl; rcases hsl with h1 | ⟨_, h1⟩ <;> simp [Lx] at h1
    · exact ⟨0, by omega, h.zp.1, h.zp.2⟩
  | succ N ih =>
    intro u k hN hk hu hsl
    by_cases h0 : k = 0
    · subst h0
      rw [h.z] at hsl
      rcases hsl with h1 | ⟨h1, h2⟩
      · simp at h1
      · obtain rfl : u = [] := List.eq_nil_of_length_eq_zero (by simpa using h1)
        simp [Lx] at h2
    · rcases List.eq_nil_or_concat u with rfl | ⟨u', y, rfl⟩
      · exact ⟨0, by omega, h.zp.1, h.zp.2⟩
      · rw [List.concat_eq_append] at hN hu hsl ⊢
        have hu1 : Wd i u' := fun z hz => hu z (List.mem_append.2 (.inl hz))
        obtain ⟨y', rfl, hy⟩ : ∃ y' : Nat, y = y' ∧ y' < i := by have := hu y (List.mem_append.2 (.inr (by simp))); exact ⟨y.toNat, by omega, by omega⟩
        rw [List.length_append] at hN
        have hN : u'.length + 1 ≤ N + 1 := hN
        obtain ⟨b1, b2⟩ := h.bk k (by omega) hk
        obtain ⟨x1, x2⟩ := h.xs k (by omega) hk
        rw [b2] at hsl
        have hfin : ∀ a, a < E.length → a * i + y' < (E.getD k Ent.zero).j * i + (E.getD k Ent.zero).x → (E.getD a Ent.zero).p = runS nx1 s u' → (E.getD a Ent.zero).q = runS nx2 t u' → ∃ c, c < k ∧ (E.getD c Ent.zero).p = runS nx1 s (u' ++ [(y' : Int)]) ∧ (E.getD c Ent.zero).q = runS nx2 t (u' ++ [(y' : Int)]) := fun a ha hlt e1 e2 => by
          obtain ⟨c, hc, c1, c2, c3⟩ := h.cl a y' ha hy (by omega)
          refine ⟨c, ?_, by rw [c1, e1, runS_app]; rfl, by rw [c2, e2, runS_app]; rfl⟩
          rcases c3 with c3 | c3
          · omega
          · rcases Nat.lt_trichotomy c k with h3 | h3 | h3
            · exact h3
            · subst h3; omega
            · have := h.mono k c (by omega) h3 hc; omega
        rcases SL_snoc hsl with h3 | ⟨h3, h4⟩
        · obtain ⟨a, ha, e1, e2⟩ := ih u' _ (by omega) (by omega) hu1 h3
          refine hfin a (by omega) ?_ e1 e2
          have : (a + 1) * i ≤ (E.getD k Ent.zero).j * i := Nat.mul_le_mul_right i ha
          rw [Nat.succ_mul] at this
          omega
        · obtain ⟨_, g2, g3, _⟩ := h.gd _ (getDE_mem (E := E) (k := (E.getD k Ent.zero).j) (by omega))
          rw [← h3] at g2 g3
          exact hfin _ (by omega) (by omega) g2.symm g3.symm
/-- Words before the word of a hit have the same outputs. -/
theorem Ord_.first (h : Ord_ nx1 nx2 ot1 ot2 i s t (j * i) E) (hj : j < E.length) (hd : ∀ a, a < x → oN ot1 (E.getD j Ent.zero).p a = oN ot2 (E.getD j Ent.zero).q a) :
    ∀ (N : Nat) (u : List Int), u.length ≤ N → Wd i u → SL u ((E.getD j Ent.zero).w ++ [(x : Int)]) → runO nx1 ot1 s u = runO nx2 ot2 t u := by
  intro N
  induction N with
  | zero =>
    intro u hN _ _
    obtain rfl : u = [] := List.eq_nil_of_length_eq_zero (by omega)
    rfl
  | succ N ih =>
    intro u hN hu hsl
    rcases List.eq_nil_or_concat u with rfl | ⟨u', y, rfl⟩
    · rfl
    · rw [List.concat_eq_append] at hN hu hsl ⊢
      have hu1 : Wd i u' := fun z hz => hu z (List.mem_append.2 (.inl hz))
      obtain ⟨y', rfl, hy⟩ : ∃ y' : Nat, y = y' ∧ y' < i := by have := hu y (List.mem_append.2 (.inr (by simp))); exact ⟨y.toNat, by omega, by omega⟩
      rw [List.length_append] at hN
      have hN : u'.length + 1 ≤ N + 1 := hN
      have hlen : u'.length < ((E.getD j Ent.zero).w ++ [(x : Int)]).length := by
        rcases hsl with h1 | ⟨h1, _⟩ <;> rw [List.length_append] at h1 <;> simp at h1 ⊢ <;> omega
      have ihu := ih u' (by omega) hu1 (.inl hlen)
      rw [runO_app, runO_app, ihu]
      have key : oN ot1 (runS nx1 s u') y' = oN ot2 (runS nx2 t u') y' := by
        rcases SL_snoc hsl with h3 | ⟨h3, h4⟩
        · obtain ⟨a, ha, e1, e2⟩ := h.before _ u' j (Nat.le_refl _) hj hu1 h3
          have : (a + 1) * i ≤ j * i := Nat.mul_le_mul_right i ha
          rw [Nat.succ_mul] at this
          have := h.ou a y' (by omega) hy (by omega)
          rw [e1, e2] at this
          exact this
        · obtain ⟨_, g2, g3, _⟩ := h.gd _ (getDE_mem hj)
          rw [h3, g2, g3]
          exact hd y' (by omega)
      show _ ++ [oN ot1 (runS nx1 s u') y'] = _ ++ [oN ot2 (runS nx2 t u') y']
      rw [key]
theorem srch_first {v : List Int} : ∀ (k : Nat) (E : List Ent) (j : Nat), Ord_ nx1 nx2 ot1 ot2 i s t (j * i) E → srch nx1 nx2 ot1 ot2 i k E j = some v → ∀ u, Wd i u → SL u v → runO nx1 ot1 s u = runO nx2 ot2 t u
  | 0, _, _, _, h => by simp [srch] at h
  | k + 1, E, j, hE, h => by
    rw [srch] at h
    by_cases hj : j < E.length
    · rw [if_pos hj] at h
      cases hd : fD ot1 ot2 (E.getD j Ent.zero) i with
      | some x =>
        rw [hd] at h
        injection h with h
        subst h
        obtain ⟨_, _, h3⟩ := fD_some hd
        exact fun u hu hs => hE.first hj h3 _ u (Nat.le_refl _) hu hs
      | none =>
        rw [hd] at h
        have h2 := hE.round hj i (Nat.le_refl _) (fD_none hd)
        rw [← Nat.succ_mul] at h2
        exact srch_first k _ _ h2 h
    · rw [if_neg hj] at h; exact absurd h (by simp)
theorem dst_first {v : List Int} (h : dst nx1 ot1 nx2 ot2 i n m s t = some v) : ∀ u, Wd i u → SL u v → runO nx1 ot1 s u = runO nx2 ot2 t u :=
  srch_first _ _ 0 (by rw [Nat.zero_mul]; exact Ord_.one i s t) h
theorem dst_wd {v : List Int} (h : dst nx1 ot1 nx2 ot2 i n m s t = some v) : Wd i v ∧ ¬ runO nx1 ot1 s v = runO nx2 ot2 t v := by
  obtain ⟨w, x, rfl, hx, hw, h1, h2⟩ := dst_sound h
  refine ⟨hw.app (Wd.one hx), fun e => ?_⟩
  rw [runO_app, runO_app, h1] at e
  have h3 := List.append_cancel_left e
  simp only [runO, Int.toNat_natCast, List.cons.injEq] at h3
  exact h2 h3.1
theorem dst_comm {s1 s2 : Nat} (hM : Mok i s1 n nx1 ot1) (hN : Mok i s2 m nx2 ot2) (hs : s < n) (ht : t < m) : dst nx2 ot2 nx1 ot1 i m n t s = dst nx1 ot1 nx2 ot2 i n m s t := by
  cases h1 : dst nx1 ot1 nx2 ot2 i n m s t with
  | none => exact (dst_none hN hM ht hs).2 ((dst_none hM hN hs ht).1 h1).symm
  | some v =>
    cases h2 : dst nx2 ot2 nx1 ot1 i m n t s with
    | none => exact absurd ((dst_none hN hM ht hs).1 h2).symm (dst_not h1)
    | some v' =>
      obtain ⟨w1, d1⟩ := dst_wd h1
      obtain ⟨w2, d2⟩ := dst_wd h2
      rcases SL_tri (u := v) (v := v') with h3 | h3 | h3
      · exact absurd (dst_first h2 v w1 h3).symm d1
      · rw [h3]
      · exact absurd (dst_first h1 v' w2 h3).symm d2
end
end Go.Proofs.Ytogcecfeofbbnaa
end

section
/- A search over pairs by any step: what is found, in the order of the first words that lead to it. -/
namespace Go.Proofs.Ytogcecfeofbbnaa

/-- The pair behind a word. -/
def runF (F : Nat × Nat → Nat → Nat × Nat) : Nat × Nat → List Int → Nat × Nat
  | p, [] => p
  | p, x :: u => runF F (F p x.toNat) u
theorem runF_app (F : Nat × Nat → Nat → Nat × Nat) : ∀ (u v : List Int) (p : Nat × Nat), runF F p (u ++ v) = runF F (runF F p u) v
  | [], _, _ => rfl
  | _ :: u, v, _ => runF_app F u v _
section
variable (F : Nat × Nat → Nat → Nat × Nat)
def nxG (j : Nat) (e : Ent) (x : Nat) : Ent := ⟨(F e.pr x).1, (F e.pr x).2, j, x, e.w ++ [(x : Int)]⟩
def adG (j : Nat) (e : Ent) (E : List Ent) : Nat → List Ent
  | 0 => E
  | x + 1 => addE (adG j e E x) (nxG F j e x)
def exG (i : Nat) : Nat → List Ent → Nat → List Ent
  | 0, E, _ => E
  | k + 1, E, j => if j < E.length then exG i k (adG F j (E.getD j Ent.zero) E i) (j + 1) else E
/-- All that is found from a pair. -/
def fdG (i n m s t : Nat) : List Ent := exG F i (n * m) [⟨s, t, 0, 0, []⟩] 0
end
/-- The step stays within n times m pairs. -/
def Stp (F : Nat × Nat → Nat → Nat × Nat) (i n m : Nat) : Prop := ∀ p q x, p < n → q < m → x < i → (F (p, q) x).1 < n ∧ (F (p, q) x).2 < m
section
variable {F : Nat × Nat → Nat → Nat × Nat} {i n m s t j x T : Nat} {E : List Ent} {e : Ent}
theorem adG_pre (F : Nat × Nat → Nat → Nat × Nat) (j : Nat) (e : Ent) (E : List Ent) : ∀ x, ∃ T, adG F j e E x = E ++ T
  | 0 => ⟨[], by simp [adG]⟩
  | x + 1 => by
    obtain ⟨T, hT⟩ := adG_pre F j e E x
    show ∃ T, addE (adG F j e E x) _ = E ++ T
    unfold addE
    split
    · exact ⟨T, hT⟩
    · exact ⟨T ++ [nxG F j e x], by rw [hT, List.append_assoc]⟩
theorem adG_ens (hF : Stp F i n m) (h : Ens n m s t E) (hj : j < E.length) : ∀ x, x ≤ i → Ens n m s t (adG F j (E.getD j Ent.zero) E x)
  | 0, _ => h
  | x + 1, hx => by
    have ih := adG_ens hF h hj x (by omega)
    obtain ⟨T, hT⟩ := adG_pre F j (E.getD j Ent.zero) E x
    obtain ⟨h1, h2⟩ := h.lt _ (getDE_mem hj)
    show Ens n m s t (addE (adG F j (E.getD j Ent.zero) E x) _)
    by_cases hh : hasE (adG F j (E.getD j Ent.zero) E x) (nxG F j (E.getD j Ent.zero) x).p (nxG F j (E.getD j Ent.zero) x).q
    · rw [addE_in hh]; exact ih
    · rw [addE_out hh]
      refine ih.add (hF _ _ x h1 h2 (by omega)) ?_ ?_ hh
      · rw [hT, List.length_append]; show j < _; omega
      · show _ = ((adG F j (E.getD j Ent.zero) E x).getD j Ent.zero).w ++ _
        rw [hT, getDE_pre hj]; rfl
theorem exG_fuel (hF : Stp F i n m) : ∀ (k : Nat) (E : List Ent) (j : Nat), Ens n m s t E → n * m ≤ k + j → exG F i (k + 1) E j = exG F i k E j
  | 0, E, j, h, hk => by
    have := h.len
    unfold exG
    rw [if_neg (by omega)]
  | k + 1, E, j, h, hk => by
    rw [exG]
    conv => rhs; rw [exG]
    by_cases hj : j < E.length
    · rw [if_pos hj, if_pos hj]
      exact exG_fuel hF k _ _ (adG_ens hF h hj i (Nat.le_refl _)) (by omega)
    · rw [if_neg hj, if_neg hj]
theorem exG_on (hF : Stp F i n m) (h : Ens n m s t E) (hj : j < E.length) : exG F i (n * m) (adG F j (E.getD j Ent.zero) E i) (j + 1) = exG F i (n * m) E j := by
  have h1 := h.len
  obtain ⟨k, hk⟩ : ∃ k, n * m = k + 1 := ⟨n * m - 1, by omega⟩
  have h2 : exG F i (k + 1) E j = exG F i k (adG F j (E.getD j Ent.zero) E i) (j + 1) := by rw [exG, if_pos hj]
  rw [hk, h2]
  exact exG_fuel hF k _ _ (adG_ens hF h hj i (Nat.le_refl _)) (by omega)
theorem exG_end {k : Nat} (hj : ¬ j < E.length) : exG F i k E j = E := by
  cases k with
  | zero => rfl
  | succ k => rw [exG, if_neg hj]
theorem exG_ens (hF : Stp F i n m) : ∀ (k : Nat) (E : List Ent) (j : Nat), Ens n m s t E → Ens n m s t (exG F i k E j)
  | 0, _, _, h => h
  | k + 1, E, j, h => by
    rw [exG]
    by_cases hj : j < E.length
    · rw [if_pos hj]; exact exG_ens hF k _ _ (adG_ens hF h hj i (Nat.le_refl _))
    · rw [if_neg hj]; exact h
theorem exG_pre (F : Nat × Nat → Nat → Nat × Nat) (i : Nat) : ∀ (k : Nat) (E : List Ent) (j : Nat), ∃ T, exG F i k E j = E ++ T
  | 0, E, _ => ⟨[], by simp [exG]⟩
  | k + 1, E, j => by
    rw [exG]
    by_cases hj : j < E.length
    · rw [if_pos hj]
      obtain ⟨T, hT⟩ := adG_pre F j (E.getD j Ent.zero) E i
      obtain ⟨U, hU⟩ := exG_pre F i k (adG F j (E.getD j Ent.zero) E i) (j + 1)
      exact ⟨T ++ U, by rw [hU, hT, List.append_assoc]⟩
    · rw [if_neg hj]; exact ⟨[], by simp⟩
theorem fdG_ens (hF : Stp F i n m) (hs : s < n) (ht : t < m) : Ens n m s t (fdG F i n m s t) := exG_ens hF _ _ _ (Ens.one hs ht)
/-- What the search has done before its step T. -/
structure OrdG (F : Nat × Nat → Nat → Nat × Nat) (i s t T : Nat) (E : List Ent) : Prop where
  ne : 0 < E.length
  z : (E.getD 0 Ent.zero).w = []
  zp : (E.getD 0 Ent.zero).p = s ∧ (E.getD 0 Ent.zero).q = t
  bk : ∀ k, 0 < k → k < E.length → (E.getD k Ent.zero).j < k ∧ (E.getD k Ent.zero).w = (E.getD (E.getD k Ent.zero).j Ent.zero).w ++ [((E.getD k Ent.zero).x : Int)]
  mono : ∀ k l, 0 < k → k < l → l < E.length → (E.getD k Ent.zero).j * i + (E.getD k Ent.zero).x < (E.getD l Ent.zero).j * i + (E.getD l Ent.zero).x
  xs : ∀ k, 0 < k → k < E.length → (E.getD k Ent.zero).x < i ∧ (E.getD k Ent.zero).j * i + (E.getD k Ent.zero).x < T
  cl : ∀ a y, a < E.length → y < i → a * i + y < T → ∃ c, c < E.length ∧ (E.getD c Ent.zero).pr = F (E.getD a Ent.zero).pr y ∧ (c = 0 ∨ (E.getD c Ent.zero).j * i + (E.getD c Ent.zero).x ≤ a * i + y)
  gd : ∀ e, e ∈ E → Wd i e.w ∧ runF F (s, t) e.w = e.pr
theorem OrdG.one (i s t : Nat) : OrdG F i s t 0 [⟨s, t, 0, 0, []⟩] where
  ne := by simp
  z := rfl
  zp := ⟨rfl, rfl⟩
  bk := fun k h1 h2 => by simp at h2; omega
  mono := fun k l h1 h2 h3 => by simp at h3; omega
  xs := fun k h1 h2 => by simp at h2; omega
  cl := fun a y _ _ h => absurd h (by omega)
  gd := fun e he => by simp at he; subst he; exact ⟨Wd.nil i, rfl⟩
theorem OrdG.step (h : OrdG F i s t (j * i + x) E) (hj : j < E.length) (hx : x < i) : OrdG F i s t (j * i + x + 1) (addE E (nxG F j (E.getD j Ent.zero) x)) := by
  by_cases hh : hasE E (nxG F j (E.getD j Ent.zero) x).p (nxG F j (E.getD j Ent.zero) x).q
  · rw [addE_in hh]
    refine ⟨h.ne, h.z, h.zp, h.bk, h.mono, fun k h1 h2 => ⟨(h.xs k h1 h2).1, by have := (h.xs k h1 h2).2; omega⟩, fun a y ha hy hl => ?_, h.gd⟩
    by_cases e : a * i + y = j * i + x
    · obtain ⟨rfl, rfl⟩ := pos_uniq hy hx e
      obtain ⟨c, hc, e1, e2⟩ := hasE_get hh
      refine ⟨c, hc, Prod.ext e1 e2, ?_⟩
      by_cases h0 : c = 0
      · exact .inl h0
      · exact .inr (by have := (h.xs c (by omega) hc).2; omega)
    · exact h.cl a y ha hy (by omega)
  · rw [addE_out hh]
    have hL : (E ++ [nxG F j (E.getD j Ent.zero) x]).length = E.length + 1 := by simp
    have hp : ∀ k, k < E.length → (E ++ [nxG F j (E.getD j Ent.zero) x]).getD k Ent.zero = E.getD k Ent.zero := fun k hk => getDE_pre hk
    have hl : (E ++ [nxG F j (E.getD j Ent.zero) x]).getD E.length Ent.zero = nxG F j (E.getD j Ent.zero) x := getDE_last
    refine ⟨by omega, by rw [hp 0 h.ne]; exact h.z, by rw [hp 0 h.ne]; exact h.zp, fun k h1 h2 => ?_, fun k l h1 h2 h3 => ?_, fun k h1 h2 => ?_, fun a y ha hy hl2 => ?_, fun e he => ?_⟩
    · by_cases hk : k < E.length
      · rw [hp k hk]
        obtain ⟨b1, b2⟩ := h.bk k h1 hk
        exact ⟨b1, by rw [hp _ (by omega)]; exact b2⟩
      · obtain rfl : k = E.length := by omega
        rw [hl]
        exact ⟨hj, by show _ = ((E ++ [nxG F j (E.getD j Ent.zero) x]).getD j Ent.zero).w ++ _; rw [hp j hj]; rfl⟩
    · by_cases hk : l < E.length
      · rw [hp k (by omega), hp l hk]; exact h.mono k l h1 h2 hk
      · obtain rfl : l = E.length := by omega
        rw [hp k (by omega), hl]
        exact (h.xs k h1 (by omega)).2
    · by_cases hk : k < E.length
      · rw [hp k hk]
        exact ⟨(h.xs k h1 hk).1, by have := (h.xs k h1 hk).2; omega⟩
      · obtain rfl : k = E.length := by omega
        rw [hl]
        exact ⟨hx, by show j * i + x < _; omega⟩
    · have ha2 : a < E.length := by
        by_cases h3 : a < E.length
        · exact h3
        · have : (j + 1) * i ≤ a * i := Nat.mul_le_mul_right i (by omega)
          rw [Nat.succ_mul] at this
          omega
      rw [hp a ha2]
      by_cases e : a * i + y = j * i + x
      · obtain ⟨rfl, rfl⟩ := pos_uniq hy hx e
        exact ⟨E.length, by omega, by rw [hl]; rfl, .inr (by rw [hl]; exact Nat.le_refl _)⟩
      · obtain ⟨c, hc, e1, e3⟩ := h.cl a y ha2 hy (by omega)
        exact ⟨c, by omega, by rw [hp c hc]; exact e1, by rw [hp c hc]; exact e3⟩
    · rcases List.mem_append.1 he with he | he
      · exact h.gd e he
      · simp at he
        subst he
        obtain ⟨g1, g2⟩ := h.gd _ (getDE_mem hj)
        refine ⟨g1.app (Wd.one hx), ?_⟩
        show runF F (s, t) ((E.getD j Ent.zero).w ++ [(x : Int)]) = _
        rw [runF_app, g2]
        rfl
theorem OrdG.round (h : OrdG F i s t (j * i) E) (hj : j < E.length) : ∀ x, x ≤ i → OrdG F i s t (j * i + x) (adG F j (E.getD j Ent.zero) E x)
  | 0, _ => h
  | x + 1, hx => by
    have ih := OrdG.round h hj x (by omega)
    obtain ⟨S, hS⟩ := adG_pre F j (E.getD j Ent.zero) E x
    have hg : (adG F j (E.getD j Ent.zero) E x).getD j Ent.zero = E.getD j Ent.zero := by rw [hS, getDE_pre hj]
    have h2 := ih.step (by rw [hS, List.length_append]; omega) (show x < i by omega)
    rw [hg] at h2
    exact h2
theorem exG_ord (hF : Stp F i n m) : ∀ (k : Nat) (E : List Ent) (j : Nat), Ens n m s t E → OrdG F i s t (j * i) E → n * m ≤ k + j → j ≤ E.length → OrdG F i s t ((exG F i k E j).length * i) (exG F i k E j)
  | 0, E, j, hE, hO, hk, hj => by
    have := hE.len
    obtain rfl : j = E.length := by omega
    exact hO
  | k + 1, E, j, hE, hO, hk, hj => by
    rw [exG]
    by_cases h1 : j < E.length
    · rw [if_pos h1]
      have h2 := hO.round h1 i (Nat.le_refl _)
      rw [← Nat.succ_mul] at h2
      obtain ⟨T, hT⟩ := adG_pre F j (E.getD j Ent.zero) E i
      exact exG_ord hF k _ _ (adG_ens hF hE h1 i (Nat.le_refl _)) h2 (by omega) (by rw [hT, List.length_append]; omega)
    · rw [if_neg h1]
      obtain rfl : j = E.length := by omega
      exact hO
theorem fdG_ord (hF : Stp F i n m) (hs : s < n) (ht : t < m) : OrdG F i s t ((fdG F i n m s t).length * i) (fdG F i n m s t) :=
  exG_ord hF _ _ 0 (Ens.one hs ht) (by rw [Nat.zero_mul]; exact OrdG.one i s t) (by omega) (by simp)
/-- Words before an entry's word lead to entries before it. -/
theorem OrdG.before (h : OrdG F i s t T E) : ∀ (N : Nat) (u : List Int) (k : Nat), u.length ≤ N → k < E.length → Wd i u → SL u (E.getD k Ent.zero).w → ∃ c, c < k ∧ (E.getD c Ent.zero).pr = runF F (s, t) u := by
  intro N
  induction N with
  | zero =>
    intro u k hN hk hu hsl
    obtain rfl : u = [] := List.eq_nil_of_length_eq_zero (by omega)
    by_cases h0 : k = 0
    · subst h0; rw [h.z] at hsl; rcases hsl with h1 | ⟨_, h1⟩ <;> simp [Lx] at h1
    · exact ⟨0, by omega, Prod.ext h.zp.1 h.zp.2⟩
  | succ N ih =>
    intro u k hN hk hu hsl
    by_cases h0 : k = 0
    · subst h0
      rw [h.z] at hsl
      rcases hsl with h1 | ⟨h1, h2⟩
      · simp at h1
      · obtain rfl : u = [] := List.eq_nil_of_length_eq_zero (by simpa using h1)
        simp [Lx] at h2
    · rcases List.eq_nil_or_concat u with rfl | ⟨u', y, rfl⟩
      · exact ⟨0, by omega, Prod.ext h.zp.1 h.zp.2⟩
      · rw [List.concat_eq_append] at hN hu hsl ⊢
        have hu1 : Wd i u' := fun z hz => hu z (List.mem_append.2 (.inl hz))
        obtain ⟨y', rfl, hy⟩ : ∃ y' : Nat, y = y' ∧ y' < i := by have := hu y (List.mem_append.2 (.inr (by simp))); exact ⟨y.toNat, by omega, by omega⟩
        rw [List.length_append] at hN
        have hN : u'.length + 1 ≤ N + 1 := hN
        obtain ⟨b1, b2⟩ := h.bk k (by omega) hk
        obtain ⟨x1, x2⟩ := h.xs k (by omega) hk
        rw [b2] at hsl
        have hfin : ∀ a, a < E.length → a * i + y' < (E.getD k Ent.zero).j * i + (E.getD k Ent.zero).x → (E.getD a Ent.zero).pr = runF F (s, t) u' → ∃ c, c < k ∧ (E.getD c Ent.zero).pr = runF F (s, t) (u' ++ [(y' : Int)]) := fun a ha hlt e1 => by
          obtain ⟨c, hc, c1, c3⟩ := h.cl a y' ha hy (by omega)
          refine ⟨c, ?_, by rw [c1, e1, runF_app]; rfl⟩
          rcases c3 with c3 | c3
          · omega
          · rcases Nat.lt_trichotomy c k with h3 | h3 | h3
            · exact h3
            · subst h3; omega
            · have := h.mono k c (by omega) h3 hc; omega
        rcases SL_snoc hsl with h3 | ⟨h3, h4⟩
        · obtain ⟨a, ha, e1⟩ := ih u' _ (by omega) (by omega) hu1 h3
          refine hfin a (by omega) ?_ e1
          have : (a + 1) * i ≤ (E.getD k Ent.zero).j * i := Nat.mul_le_mul_right i ha
          rw [Nat.succ_mul] at this
          omega
        · obtain ⟨_, g2⟩ := h.gd _ (getDE_mem (E := E) (k := (E.getD k Ent.zero).j) (by omega))
          rw [← h3] at g2
          exact hfin _ (by omega) (by omega) g2.symm
/-- Every word leads to a pair that is found. -/
theorem OrdG.all (h : OrdG F i s t (E.length * i) E) : ∀ (N : Nat) (u : List Int), u.length ≤ N → Wd i u → ∃ c, c < E.length ∧ (E.getD c Ent.zero).pr = runF F (s, t) u := by
  intro N
  induction N with
  | zero =>
    intro u hN _
    obtain rfl : u = [] := List.eq_nil_of_length_eq_zero (by omega)
    exact ⟨0, h.ne, Prod.ext h.zp.1 h.zp.2⟩
  | succ N ih =>
    intro u hN hu
    rcases List.eq_nil_or_concat u with rfl | ⟨u', y, rfl⟩
    · exact ⟨0, h.ne, Prod.ext h.zp.1 h.zp.2⟩
    · rw [List.concat_eq_append] at hN hu ⊢
      rw [List.length_append] at hN
      have hN : u'.length + 1 ≤ N + 1 := hN
      have hu1 : Wd i u' := fun z hz => hu z (List.mem_append.2 (.inl hz))
      obtain ⟨y', rfl, hy⟩ : ∃ y' : Nat, y = y' ∧ y' < i := by have := hu y (List.mem_append.2 (.inr (by simp))); exact ⟨y.toNat, by omega, by omega⟩
      obtain ⟨a, ha, e⟩ := ih u' (by omega) hu1
      have hlt : a * i + y' < E.length * i := by
        have : (a + 1) * i ≤ E.length * i := Nat.mul_le_mul_right i ha
        rw [Nat.succ_mul] at this
        omega
      obtain ⟨c, hc, c1, _⟩ := h.cl a y' ha hy hlt
      exact ⟨c, hc, by rw [c1, e, runF_app]; rfl⟩
theorem getDE_at {E : List Ent} {k : Nat} (h : k < E.length) : E[k] = E.getD k Ent.zero := by
  rw [List.getD_eq_getElem?_getD, List.getElem?_eq_getElem h]; rfl
/-- The place of a pair. -/
def plE (E : List Ent) (y : Nat × Nat) : Nat := (E.map Ent.pr).idxOf y
theorem plE_pre {E T : List Ent} {y : Nat × Nat} (h : y ∈ E.map Ent.pr) : plE (E ++ T) y = plE E y := by
  unfold plE
  rw [List.map_append, List.idxOf_append, if_pos h]
theorem plE_new {E : List Ent} {e : Ent} (h : ¬ e.pr ∈ E.map Ent.pr) : plE (E ++ [e]) e.pr = E.length := by
  unfold plE
  rw [List.map_append, List.idxOf_append, if_neg h]
  simp
theorem plE_lt {E : List Ent} {y : Nat × Nat} (h : y ∈ E.map Ent.pr) : plE E y < E.length := by
  have := List.idxOf_lt_length_of_mem h
  simpa [plE] using this
theorem plE_at {E : List Ent} {y : Nat × Nat} (h : y ∈ E.map Ent.pr) : (E.getD (plE E y) Ent.zero).pr = y := by
  have h1 := plE_lt h
  have h2 : (E.map Ent.pr)[plE E y]'(by simpa using h1) = y := List.getElem_idxOf (by simpa [plE] using h1)
  rw [List.getElem_map, getDE_at h1] at h2
  exact h2
end
end Go.Proofs.Ytogcecfeofbbnaa
end

section
/- Reach of a machine. -/
namespace Go.Proofs.Ytogcecfeofbbnaa
open Go.RowKit

theorem infob : (Try.prog.info? 4).map (fun i => (i.zero, i.size, i.bytes)) = some (some (.bool false), 1, 1) := by kernel_rfl

/-- The row of the seen states. -/
def Seen (w : World) (g : Nat) (bs : List Bool) : Prop := w.heap[g]? = some (.cells (bs.map Value.bool).toArray 4 (0, 0))
theorem Seen.at_ {w : World} {g : Nat} {bs : List Bool} (h : Seen w g bs) {x : Nat} (hx : x < bs.length) : w.cell? ⟨g, x, none⟩ = some (.bool (bs.getD x false)) ∧ w.frozen? ⟨g, x, none⟩ = false := by
  refine ⟨?_, frozen_of_row w g x _ _ h⟩
  rw [cell_of_row w g x _ _ (0, 0) h]
  simp [List.getD, hx]
theorem Seen.set {w : World} {g : Nat} {bs : List Bool} (h : Seen w g bs) (x : Nat) (b : Bool) : Seen (w.setCell ⟨g, x, none⟩ (.bool b)) g (bs.set x b) := by
  have := heap_setCell_same w g x _ _ (Value.bool b) h
  unfold Seen
  rw [this]
  simp [List.map_set]
theorem Seen.of_below {w w' : World} {g : Nat} {bs : List Bool} (h : Seen w g bs) {b : Nat} (hb : Below b w w') (hg : g < b) : Seen w' g bs := (hb.block g hg).trans h

theorem made_bools (n : Nat) : madeCells (Value.bool false).cells (n * 1) = ((List.replicate n false).map Value.bool).toArray := by
  apply Array.ext'
  rw [show (Value.bool false).cells = #[Value.bool false] from rfl, Nat.mul_one, toList_madeCells_one, List.map_replicate]

/-- make([]bool, n). -/
theorem wpList_make_bools {ops : Array Oper} {rest : List Oper} {o : Oper} {a : Act} {Q : Exit → Act → World → Prop} (w : World) (hg : o.guard = none) (l c : Operand) (hop : o.op = Op.makeSlice 49 l c)
    (kl kc : IntKind) (n : Nat) (hl : a.eval l = .int kl n) (hc : a.eval c = .int kc n) (hn : n ≤ 17592186044416)
    (hK : ∀ w', Seen w' w.heap.size (List.replicate n false) → Below w.heap.size w w' → wpList Try.prog ops Q rest (a.put o.dst (.slice (some ⟨w.heap.size, 0, none⟩) n n)) w') :
    wpList Try.prog ops Q (o :: rest) a w := by
  obtain ⟨i, hi, hz0, hz1, hz2⟩ := info_parts infob
  refine wpList_plain hg fun K hK' => ?_
  have hr := run_make (P := Try.prog) w 49 4 i (.bool false) Try.underlying49 hi hz0 kl kc n n (by omega) (by omega) (by rw [hz2]; omega) (by omega)
  rw [hz1, Int.toNat_natCast, made_bools] at hr
  have hS : Seen (w.alloc (.cells ((List.replicate n false).map Value.bool).toArray 4)) w.heap.size (List.replicate n false) := heap_alloc_new w _
  have hB := alloc_below w (.cells ((List.replicate n false).map Value.bool).toArray 4)
  generalize w.alloc (.cells ((List.replicate n false).map Value.bool).toArray 4) = w' at hr hS hB
  unfold Oper.wp
  simp [execOp, hop, hl, hc, hr, Result.andThen]
  exact hK' _ _ (hK w' hS hB)

set_option maxHeartbeats 4000000 in
set_option maxRecDepth 100000 in
theorem preach_ok (i st n : Nat) (A B : Option Addr) (c d : Nat) (nx ot : List (List Int)) (w : World) (hx : Lists w A n nx) (ho : Lists w B n ot) (hM : Mok i st n nx ot) :
    Calls Try.prog 43 #[.agg #[.int .i64 i, .int .i64 st, .slice A n c, .slice B n d]] w fun e w' => ∃ A' c', e = .returned (.slice A' (rch nx i st).length c') ∧ Owned w' w.heap.size (.slice A' (rch nx i st).length c') (zs (rch nx i st)) ∧ Below w.heap.size w w' := by
  have HV := Lib.hid hM.vld
  have hn := hx.2.1
  have hst := hM.st
  have hn128 := hM.n2
  have hb0 := alloc_below w (.cells #[.int .i64 i, .int .i64 st, .slice A n c, .slice B n d] 24)
  have HZ := Lib.hid (show (w.alloc (.cells #[.int .i64 i, .int .i64 st, .slice A n c, .slice B n d] 24)).heap.size = w.heap.size + 1 by simp)
  obtain ⟨R, hR⟩ : ∃ R, R = rch nx i st := ⟨_, rfl⟩
  have HR := Lib.hid (hR.trans (show rch nx i st = bfs nx i n [st] 0 by unfold rch; rw [hM.nxl]))
  rw [← hR]
  clear hR
  go_enter Try.func43, Try.ntmps43
  go_wp2_with fail
  refine (pvalid _ _ _ _ _ _ _ _ _ _ _ (hx.below hb0) (ho.below hb0)).mono ?_
  rintro e w1 ⟨rfl, b1⟩
  rw [HZ.out] at b1
  rw [HV.out]
  obtain ⟨k0, k1, k2, k3⟩ := box4 b1
  have hl0 : Owned (w1.alloc (.cells #[.int .i64 st] 3)) (w.heap.size + 1) (.slice (some ⟨w1.heap.size, 0, none⟩) 1 1) (zs [st]) := Owned.literal w1 _ [(st : Int)] _ 1 (by have := b1.size; simpa using this) rfl rfl (by simp)
  have hz2 : w.heap.size + 1 ≤ w1.heap.size := by have := b1.size; simpa using this
  have hl1 := alloc_below w1 (.cells #[.int .i64 st] 3)
  have k2a := (hl1.cell (p := ⟨w.heap.size, 2, none⟩) (by show w.heap.size < _; omega)).trans k2
  have hs1 : (w1.alloc (.cells #[.int .i64 st] 3)).heap.size = w1.heap.size + 1 := by simp
  have HS1 := Lib.hid hs1
  have HL0 := Lib.hid hl0
  clear hs1 hl0
  have hz2 : w.heap.size + 1 ≤ w1.heap.size := by have := b1.size; simpa using this
  go_wp2_with (refine wpList_make_bools _ rfl _ _ rfl .i64 .i64 n rfl rfl hn ?_; intro w2 se2 b2; rw [HS1.out] at se2 b2; have b3 := b1.trans ((hl1.mono hz2).trans (b2.mono (Nat.le_succ_of_le hz2))); obtain ⟨k0, k1, k2, k3⟩ := box4 b3; obtain ⟨sc, sf⟩ := se2.at_ (x := st) (by simpa using hst); have SE2 := Lib.hid se2; have B2 := Lib.hid b2; clear se2 b2 b3)
  have b2 := B2.out
  have se2 := SE2.out
  have b3 : Below (w.heap.size + 1) (w.alloc (.cells #[.int .i64 i, .int .i64 st, .slice A n c, .slice B n d] 24)) w2 := b1.trans ((hl1.mono hz2).trans (b2.mono (by omega)))
  have hown2 : Owned w2 (w.heap.size + 1) (.slice (some ⟨w1.heap.size, 0, none⟩) 1 1) (zs [st]) := HL0.out.kept (by rw [HS1.out]; exact b2)
  have se3 := se2.set st true
  rw [← seenOf_nil, seenOf_set] at se3
  have ow3 := hown2.off se2 (by decide) st (.bool true) 0
  have bw3 := b3.setCell (p := ⟨w1.heap.size + 1, st, none⟩) (by show w.heap.size + 1 ≤ w1.heap.size + 1; omega) (.bool true)
  generalize hg : w1.heap.size + 1 = g at se3 ow3 bw3 ⊢
  have hgb : w.heap.size + 1 ≤ g := by omega
  clear se2 b2 hown2 HL0 SE2 B2 b3 sc sf k0 k1 k2 k3 hl1 HS1 k2a
  have hbt : (4 : TypeId) ≠ 3 := by decide
  clear hg b1
  go_loopw [3, 5] (fun v jv wr => ∃ (l : List Nat) (j : Nat) (A' : Option Addr) (c' : Nat), j ≤ l.length ∧ jv = .int .i64 j ∧ v = .slice A' l.length c' ∧ Stt n l ∧ R = bfs nx i n l j ∧ Owned wr (w.heap.size + 1) (.slice A' l.length c') (zs l) ∧ Seen wr g (seenOf n l) ∧ Below (w.heap.size + 1) (w.alloc (.cells #[.int .i64 i, .int .i64 st, .slice A n c, .slice B n d] 24)) wr) (fun _ jv _ => n - (intOf jv).toNat)
  case atStart => exact ⟨[st], 0, _, 1, Nat.zero_le _, rfl, rfl, Stt.one hst, HR.out, ow3, se3, bw3⟩
  case round =>
    obtain ⟨l, j, A', c', hj, rfl, rfl, hS, hB, hown, hseen, hbr⟩ := hrel
    have hbw := hb0.trans (hbr.mono (Nat.le_succ _))
    obtain ⟨k0, k1, k2, k3⟩ := box4 hbr
    have HB := Lib.hid hB
    have HSS := Lib.hid hseen
    clear hB hseen
    have hll := hS.len
    by_cases hlt : j < l.length
    · have hjn : j < n := by omega
      obtain ⟨b1, o1, rfl, hb1, hc1⟩ := (hown.ints (by rw [zs_len]; omega)).at_ (k := j) (by omega)
      rw [zs_at] at hc1
      have hs : l.getD j 0 < n := hS.2 _ (getD_mem hlt)
      have HNX := Lib.hid (bfs_on hM hS hlt)
      generalize l.getD j 0 = s at hc1 hs HNX
      obtain ⟨g1, p1, A1, n1, c1, rfl, hg1, hd1, hr1⟩ := hx.at_ hs
      have hi1 := (hM.row s hs).1
      have hl1 := hr1.1
      obtain rfl : n1 = i := by omega
      have hi64 := hM.i2
      have e1 := (hbw.cell (p := ⟨g1, p1 + s, none⟩) hg1).trans hd1
      clear hl1 hi1 hd1
      have HOW := Lib.hid hown
      clear hown
      go_wp2
      go_quiet (fail)
      go_wp2
      obtain ⟨wo, rfl⟩ : ∃ wo : World, wo = wr := ⟨_, rfl⟩
      have HBR := Lib.hid hbr
      clear hbr hbw k0 k1 k2 k3 hc1 hb1 e1
      go_loopw [3, 37] (fun v av wq => ∃ (a : Nat) (A2 : Option Addr) (c2 : Nat), a ≤ n1 ∧ av = .int .i64 a ∧ v = .slice A2 (addR nx s l a).length c2 ∧ Owned wq (w.heap.size + 1) (.slice A2 (addR nx s l a).length c2) (zs (addR nx s l a)) ∧ Seen wq g (seenOf n (addR nx s l a)) ∧ Below (w.heap.size + 1) (w.alloc (.cells #[.int .i64 n1, .int .i64 st, .slice (some ⟨g1, p1, none⟩) n c, .slice B n d] 24)) wq) (fun _ av _ => n1 - (intOf av).toNat)
      case atStart => exact ⟨0, _, _, Nat.zero_le _, rfl, rfl, HOW.out, HSS.out, below_drewN HBR.out _⟩
      case round =>
        obtain ⟨a, A2, c2, ha, rfl, rfl, hown, hseen, hbr⟩ := hrel
        have hSa := addR_stt hM hS hs a ha
        have hbw := hb0.trans (hbr.mono (Nat.le_succ _))
        by_cases hla : a < n1
        · obtain ⟨g3, p3, rfl, hg3, hy1⟩ := hr1.at_ hla
          rw [hM.nN_eq hs hla] at hy1
          have ht := hM.nN_lt hs hla
          have hIn := Lib.hid (fun h => addR_in (nx := nx) (s := s) (a := a) (l := l) h)
          have hOut := Lib.hid (fun h => addR_out (nx := nx) (s := s) (a := a) (l := l) h)
          generalize nN nx s a = t at hy1 ht hIn hOut
          have e3 := (hbw.cell (p := ⟨g3, p3 + a, none⟩) hg3).trans hy1
          obtain ⟨e4, e5⟩ := hseen.at_ (x := t) (by rw [seenOf_len]; exact ht)
          rw [seenOf_at ht] at e4
          clear hy1
          generalize addR nx s l a = l' at hown hseen hSa hIn hOut e4
          have hll' := hSa.len
          by_cases hm : t ∈ l'
          · rw [decide_eq_true hm] at e4
            have hnx := Lib.hid (hIn.out hm)
            have HOW := Lib.hid hown
            have HSE := Lib.hid hseen
            have HB2 := Lib.hid hbr
            clear hown hseen hbr hbw hIn hOut hm
            go_wp2
            go_roundw
            case rel => exact ⟨a + 1, A2, c2, by omega, by go_num, by rw [hnx.out], by rw [hnx.out]; exact HOW.out, by rw [hnx.out]; exact HSE.out, HB2.out⟩
            case measure => simp [intOf]; omega
          · rw [decide_eq_false hm] at e4
            have hnx := Lib.hid (hOut.out hm)
            have ho1 := hown.off hseen hbt t (.bool true) 0
            have hs1 := hseen.set t true
            rw [seenOf_set] at hs1
            have hb1 := hbr.setCell (p := ⟨g, t, none⟩) hgb (.bool true)
            have ho1 : Owned (wr.setCell ⟨g, t, none⟩ (.bool true)) (w.heap.size + 1) (.slice A2 l'.length c2) (zs l') := ho1
            have hsz : w.heap.size + 1 ≤ (wr.setCell ⟨g, t, none⟩ (.bool true)).heap.size := by have := hb1.size; simpa using this
            clear hown hseen hbr hbw hIn hOut hm
            obtain ⟨A3, c3, w4, hrn, ho4, hb4, hk4⟩ := run_append_one ho1 (t : Int) hsz (by rw [zs_len]; omega)
            have hs4 := Lib.hid (hk4 g _ _ hs1 hbt)
            have hb5 := Lib.hid (hb1.trans hb4)
            rw [zs_len] at hrn ho4
            have hz : zs l' ++ [(t : Int)] = zs (l' ++ [t]) := by rw [zs_append, zs_one]
            rw [hz] at ho4
            have hlen : (l' ++ [t]).length = l'.length + 1 := by simp
            have HL := Lib.hid hlen
            have HO4 := Lib.hid ho4
            clear hk4 hb1 hb4 hs1 ho1 hz hlen ho4
            have hh : (wr.setCell ⟨g, t, none⟩ (.bool true)).heap.size = wr.heap.size := by simp
            rw [hh] at hrn
            clear hh
            go_wp2_with (at_builtin; refine Lib.wpList_append_run _ rfl _ _ _ _ rfl _ _ rfl rfl _ _ hrn ?_)
            go_roundw
            case rel => exact ⟨a + 1, A3, c3, by omega, by go_num, by rw [hnx.out, HL.out], by rw [hnx.out, HL.out]; exact HO4.out, by rw [hnx.out]; exact hs4.out, hb5.out⟩
            case measure => simp [intOf]; omega
        · obtain rfl : a = n1 := by omega
          have hl' := addR_len (nx := nx) (s := s) (l := l) a
          have HX := Lib.hid (HB.out.trans HNX.out.symm)
          generalize addR nx s l a = l' at hown hseen hSa hl' HX
          have HOW := Lib.hid hown
          have HSE := Lib.hid hseen
          clear hown hseen
          go_wp2
          go_roundw
          case rel => exact ⟨l', j + 1, A2, c2, by omega, by go_num, rfl, hSa, HX.out, HOW.out, HSE.out, hbr⟩
          case measure => simp [intOf]; omega
    · have hfin := Lib.hid (HB.out.trans (bfs_end nx i n hlt))
      have HOW := Lib.hid hown
      clear hown
      go_wp2
      go_ret
      exact ⟨A', c', by rw [hfin.out]; rfl, by rw [hfin.out]; exact Owned.lower HOW.out (Nat.le_succ _), hbw⟩

theorem preach_bad (i st : Int) (A B : Option Addr) (n c m d : Nat) (nx ot : List (List Int)) (w : World) (hx : Lists w A n nx) (ho : Lists w B m ot) (hv : ¬ vld i st nx ot = 0) :
    Calls Try.prog 43 #[.agg #[.int .i64 i, .int .i64 st, .slice A n c, .slice B m d]] w fun e w' => e = .returned (.slice none 0 0) ∧ Below w.heap.size w w' := by
  have hb0 := alloc_below w (.cells #[.int .i64 i, .int .i64 st, .slice A n c, .slice B m d] 24)
  have hne : (vld i st nx ot != 0) = true := by simpa using hv
  go_enter Try.func43, Try.ntmps43
  go_wp2_with fail
  refine (pvalid _ _ _ _ _ _ _ _ _ _ _ (hx.below hb0) (ho.below hb0)).mono ?_
  rintro e w1 ⟨rfl, b1⟩
  generalize vld i st nx ot = E at hne hv
  clear hv
  go_wp2
  go_ret
  exact ⟨rfl, bt hb0 b1⟩
end Go.Proofs.Ytogcecfeofbbnaa
end

section
/- The box of an automaton; lists of truth values. -/
namespace Go.Proofs.Ytogcecfeofbbnaa
open Go.RowKit

/-- A list of truth values in memory. -/
def Bools (w : World) (A : Option Addr) (n : Nat) (bs : List Bool) : Prop :=
  bs.length = n ∧ n ≤ 17592186044416 ∧ (0 < n → ∃ b off, A = some ⟨b, off, none⟩ ∧ b < w.heap.size ∧ ∀ j, j < n → w.cell? ⟨b, off + j, none⟩ = some (.bool (bs.getD j false)))
theorem Bools.below {w w' : World} {A : Option Addr} {n : Nat} {bs : List Bool} (h : Bools w A n bs) (hb : Below w.heap.size w w') : Bools w' A n bs :=
  ⟨h.1, h.2.1, fun h0 => by
    obtain ⟨b, off, e, hlt, hc⟩ := h.2.2 h0
    exact ⟨b, off, e, Nat.lt_of_lt_of_le hlt hb.size, fun j hj => (hb.cell (p := ⟨b, off + j, none⟩) hlt).trans (hc j hj)⟩⟩
theorem Bools.at_ {w : World} {A : Option Addr} {n : Nat} {bs : List Bool} (h : Bools w A n bs) {k : Nat} (hk : k < n) :
    ∃ b off, A = some ⟨b, off, none⟩ ∧ b < w.heap.size ∧ w.cell? ⟨b, off + k, none⟩ = some (.bool (bs.getD k false)) := by
  obtain ⟨b, off, e, hlt, hc⟩ := h.2.2 (by omega)
  exact ⟨b, off, e, hlt, hc k hk⟩
end Go.Proofs.Ytogcecfeofbbnaa
end

section
/- The pairs that are found, in memory. -/
namespace Go.Proofs.Ytogcecfeofbbnaa
open Go.RowKit

def cellsL (e : Ent) : List Value := [.int .i64 e.p, .int .i64 e.q]
def cellsO (e : Ent) : List Value := [.int .i64 e.j, .int .i64 e.x]
def keyE (e : Ent) : List Int := [(e.p : Int), (e.q : Int)]
theorem keyE_inj {E : List Ent} {e : Ent} : keyE e ∈ E.map keyE ↔ hasE E e.p e.q := by
  unfold hasE
  simp only [List.mem_map, keyE, Ent.pr]
  constructor
  · rintro ⟨f, hf, h⟩
    simp at h
    exact ⟨f, hf, by simp; omega⟩
  · rintro ⟨f, hf, h⟩
    simp at h
    exact ⟨f, hf, by simp; omega⟩
/-- The place of a pair. -/
def plcE (E : List Ent) (p q : Nat) : Nat := (E.map Ent.pr).idxOf (p, q)
theorem keyE_idx {e : Ent} : ∀ {E : List Ent}, (E.map keyE).idxOf (keyE e) = plcE E e.p e.q
  | [] => rfl
  | f :: E => by
    have ih := keyE_idx (e := e) (E := E)
    unfold plcE at ih ⊢
    rw [List.map_cons, List.map_cons, List.idxOf_cons, List.idxOf_cons, ih]
    by_cases h : f.p = e.p ∧ f.q = e.q
    · have h1 : (keyE f == keyE e) = true := by simp [keyE, h.1, h.2]
      have h2 : (Ent.pr f == (e.p, e.q)) = true := by simp [Ent.pr, h.1, h.2]
      rw [h1, h2]
    · have h1 : (keyE f == keyE e) = false := by
        rw [beq_eq_false_iff_ne]
        intro H
        simp [keyE] at H
        exact h (by omega)
      have h2 : (Ent.pr f == (e.p, e.q)) = false := by
        rw [beq_eq_false_iff_ne]
        intro H
        simp [Ent.pr] at H
        exact h H
      rw [h1, h2]
section
variable {w w' : World} {base g : Nat} {E : List Ent} {A B : Option Addr} {c d gm : Nat}
end
/-- An append leaves the blocks but that of the row; the new row lies there or in a new block. -/
def RowMv (w w1 : World) (v v1 : Value) : Prop := (∀ b, b < w.heap.size → Value.ownBlock v ≠ some b → w1.heap[b]? = w.heap[b]?) ∧ (Value.ownBlock v1 = Value.ownBlock v ∨ ∃ k, Value.ownBlock v1 = some k ∧ w.heap.size ≤ k)
/-- append of one element. -/
theorem run_append_rwsM {w : World} {base s : Nat} {e : TypeId} {v : Value} {L : List (List Value)} {t bytes : Nat} {i : TypeInfo} {z : Value} (ht : Try.prog.underlying t = some (.slice e)) (hi : Try.prog.info? e = some i) (hz0 : i.zero = some z) (hz1 : i.size = s) (hz2 : i.bytes = bytes) (hzc : z.cells.size = s) (hs : 0 < s) (hby : bytes ≤ 64)
    (h : Rws w base e s v L) (l : List Value) (hl : l.length = s) (h1 : ∀ u, u ∈ l → u.oneCell' = true) (hbase : base ≤ w.heap.size) (hn : L.length < 1099511627776) :
    ∃ A c w1, (Builtin.append_ #[t, t] t #[v, .slice (some ⟨w.heap.size, 0, none⟩) 1 1]).run Try.prog (w.alloc (.cells l.toArray e)) = .ok (.slice A (L.length + 1) c) w1 ∧
      Rws w1 base e s (.slice A (L.length + 1) c) (L ++ [l]) ∧ Below base w w1 ∧ (∀ t', t' ≠ e → KeptT t' w w1) ∧ (∀ (g : Nat) (es : Array MapEntry) (ck : _), w.heap[g]? = some (.map es ck) → w1.heap[g]? = some (.map es ck)) ∧ RowMv w w1 v (.slice A (L.length + 1) c) := by
  have hbz := alloc_below w (.cells l.toArray e)
  have ho1 := (h.kept hbz).2
  obtain ⟨v1, w1, hr, h2, h3, _, h5⟩ := run_append_own_at (P := Try.prog) (w.alloc (.cells l.toArray e)) base t t e i z s bytes ht hi hz0 hz1 hz2 hzc hs v _ _ ho1 ⟨w.heap.size, 0, none⟩ 1 1 l (by omega)
    (by
      intro j u hu
      have hg := heap_alloc_new w (.cells l.toArray e)
      have ha : (⟨w.heap.size, 0, none⟩ : Addr).add j = ⟨w.heap.size, 0 + j, none⟩ := by simp [Addr.add]; omega
      rw [ha, cell_of_row _ _ (0 + j) _ _ (0, 0) hg, Nat.zero_add]
      simpa using hu)
    h1 (by unfold maxLen; omega) (Nat.le_trans (Nat.mul_le_mul_left _ hby) (by omega)) (Nat.le_trans hbase hbz.size)
  have hform : ∃ A c, v1 = .slice A (L.length + 1) c := by
    rcases h2.2 with ⟨rfl, h0⟩ | ⟨g, cap, cur, rfl, _⟩
    · omega
    · exact ⟨_, _, rfl⟩
  obtain ⟨A, c, rfl⟩ := hform
  refine ⟨A, c, w1, hr, ⟨fun x hx => ?_, ?_⟩, (hbz.mono hbase).trans ((Below.refl _ _).grown h3 (Nat.le_trans hbase hbz.size) (fun k hk => (World.ownsRow.lt ho1 k hk).1)), fun t' ht' => (KeptT.of_below hbz).trans (KeptT.grown h3 ho1 ht'), fun g es ck hg => (h3.block g (Nat.lt_of_lt_of_le (heap_lt hg) hbz.size) fun e2 => ?_).trans ((hbz.block g (heap_lt hg)).trans hg), ⟨fun b hb hn => (h3.block b (Nat.lt_of_lt_of_le hb hbz.size) (Ne.symm hn)).trans (hbz.block b hb), h5.imp id fun h => ⟨_, h, hbz.size⟩⟩⟩
  · rcases List.mem_append.1 hx with hx | hx
    · exact h.1 x hx
    · simp at hx; rw [hx]; exact hl
  · rw [List.length_append, List.flatten_append]
    simpa using h2
  · rcases h.2.2 with ⟨rfl, _⟩ | ⟨g', cap, cur, rfl, _, hh, _⟩
    · cases e2
    · have : g = g' := by simpa [Value.ownBlock] using e2
      subst this
      rw [hg] at hh
      cases hh
theorem Rws.apartMap {w w' : World} {base s gm : Nat} {e : TypeId} {v : Value} {L : List (List Value)} {k : TypeId} {ks : List (List Int)} (h : Rws w base e s v L) (hN : NumIs k w gm ks) (hg : w.grownBy w' (some gm)) : Rws w' base e s v L := by
  obtain ⟨es, ck, hm⟩ := hN.block
  refine ⟨h.1, h.2.1, ?_⟩
  rcases h.2.2 with h0 | ⟨g, cap, cur, rfl, hbg, hh, r⟩
  · exact .inl h0
  · refine .inr ⟨g, cap, cur, rfl, hbg, (hg.block g (heap_lt hh) fun e2 => ?_).trans hh, r⟩
    have : gm = g := by first | (injection e2 with e2; exact e2.symm) | (injection e2)
    subst this
    rw [hm] at hh
    cases hh
/-- append at a step of a region that draws. -/
theorem step_app {P : Program} {ops : Array Oper} {o : Oper} {a : Act} {w : World} {K : Act → World → Prop} {Q : Exit → Act → World → Prop} {E : Prop} (hgd : o.guard = none) (s x : Operand) (t tn : TypeId)
    (ho : o.op = .call { callee := .builtin .append, args := #[s, x], argTypes := #[t, tn] }) (vs vx : Value) (hs : a.eval s = vs) (hx : a.eval x = vx)
    (v' : Value) (w' : World) (hr : (Builtin.append_ #[t, tn] o.type #[vs, vx]).run P w = .ok v' w') (h : K (a.put o.dst v') w') :
    if Region.wanted o (yielded ops a.tmps) = true then Oper.wp P o a w K Q else E := by
  have hw : Region.wanted o (yielded ops a.tmps) = true := by simp [Region.wanted, hgd]
  rw [if_pos hw]
  exact Lib.wp_append_run w s x t tn ho vs vx hs hx v' w' hr h

/-- A block apart from a discovery. -/
def ShD (w : World) (pb : Nat) (o : Obj) (g gm : Nat) (A B : Option Addr) : Prop := w.heap[pb]? = some o ∧ pb ≠ g ∧ pb ≠ gm ∧ Value.ownBlock (.slice A 0 0) ≠ some pb ∧ Value.ownBlock (.slice B 0 0) ≠ some pb
theorem own_any (A : Option Addr) (a b c d : Nat) : Value.ownBlock (.slice A a b) = Value.ownBlock (.slice A c d) := by cases A <;> rfl
theorem RowMv.ne {w w1 : World} {A A' : Option Addr} {a b c d pb : Nat} (h : RowMv w w1 (.slice A a b) (.slice A' c d)) (hb : pb < w.heap.size) (hn : Value.ownBlock (.slice A 0 0) ≠ some pb) : Value.ownBlock (.slice A' 0 0) ≠ some pb := fun e => by
  rcases h.2 with h2 | ⟨k, h2, h3⟩
  · rw [own_any A' c d 0 0, own_any A a b 0 0] at h2
    exact hn (h2.symm.trans e)
  · rw [own_any A' c d 0 0] at h2
    rw [h2] at e
    injection e with e
    omega
end Go.Proofs.Ytogcecfeofbbnaa
end
