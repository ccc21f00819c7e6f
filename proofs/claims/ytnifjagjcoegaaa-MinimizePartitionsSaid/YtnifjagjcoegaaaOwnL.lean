/- Rows of lists that a call owns: what they read as; append of a list. -/
import Derived.Test.YtnifjagjcoegaaaRunm
import Derived.Test.YtnifjagjcoegaaaJoin
import Derived.Test.YtnifjagjcoegaaaKept
import Derived.Lib.SliceRun
import Derived.Maps.AppendAt
namespace Go.Proofs.Ytnifjagjcoegaaa
open Go.RowKit

/-- The slice value v is a row of lists in blocks from base on, which the call may write. -/
def OwnedL (w : World) (base : Nat) (v : Value) (xss : List (List Int)) : Prop :=
  ∃ vs : List Value, w.ownsRow base 26 1 v xss.length vs ∧ ∀ j, j < xss.length → ∃ A c, vs[j]? = some (.slice A (xss.getD j []).length c) ∧ Owned w base (.slice A (xss.getD j []).length c) (xss.getD j [])

theorem OwnedL.nil (w : World) (base : Nat) : OwnedL w base (.slice none 0 0) [] := ⟨[], World.ownsRow_nil _ _ _ _, fun j h => absurd h (by simp)⟩
theorem OwnedL.form {w : World} {base : Nat} {v : Value} {xss : List (List Int)} (h : OwnedL w base v xss) : ∃ A c, v = .slice A xss.length c := by
  obtain ⟨vs, h, _⟩ := h
  rcases h.2 with ⟨rfl, h0⟩ | ⟨g, cap, cur, rfl, _⟩
  · have : xss.length = 0 := h0
    exact ⟨none, 0, by rw [this]⟩
  · exact ⟨_, _, rfl⟩
theorem OwnedL.keptT {w w' : World} {base : Nat} {v : Value} {xss : List (List Int)} (h : OwnedL w base v xss) (hk : KeptT 3 w w') (hl : KeptT 26 w w') : OwnedL w' base v xss := by
  obtain ⟨vs, h, hr⟩ := h
  refine ⟨vs, ⟨h.1, ?_⟩, fun j hj => ?_⟩
  · rcases h.2 with e | ⟨g, cap, cur, hv, hbg, hg, r⟩
    · exact .inl e
    · exact .inr ⟨g, cap, cur, hv, hbg, hl g cur hg, r⟩
  · obtain ⟨A, c, h1, h2⟩ := hr j hj
    exact ⟨A, c, h1, h2.keptT hk⟩
theorem OwnedL.kept {w w' : World} {base : Nat} {v : Value} {xss : List (List Int)} (h : OwnedL w base v xss) (hb : Below w.heap.size w w') : OwnedL w' base v xss := h.keptT (KeptT.of_below hb) (KeptT.of_below hb)
theorem OwnedL.lower {w : World} {base base' : Nat} {v : Value} {xss : List (List Int)} (h : OwnedL w base v xss) (hb : base' ≤ base) : OwnedL w base' v xss := by
  obtain ⟨vs, h, hr⟩ := h
  refine ⟨vs, ⟨h.1, ?_⟩, fun j hj => ?_⟩
  · rcases h.2 with e | ⟨g, cap, cur, hv, hbg, r⟩
    · exact .inl e
    · exact .inr ⟨g, cap, cur, hv, by omega, r⟩
  · obtain ⟨A, c, h1, h2⟩ := hr j hj
    exact ⟨A, c, h1, h2.lower hb⟩
theorem OwnedL.lists {w : World} {base : Nat} {A : Option Addr} {n c : Nat} {xss : List (List Int)} (h : OwnedL w base (.slice A n c) xss) (hm : xss.length ≤ 17592186044416) (hr : ∀ xs, xs ∈ xss → xs.length ≤ 17592186044416) : Lists w A n xss := by
  have hn : n = xss.length := by obtain ⟨A', c', e⟩ := h.form; cases e; rfl
  subst hn
  obtain ⟨vs, ho, hv⟩ := h
  refine ⟨rfl, hm, fun h0 => ?_⟩
  rcases ho.2 with ⟨e, h1⟩ | ⟨g, cap, cur, e, _, hg, _⟩
  · have : xss.length = 0 := h1
    omega
  · cases e
    refine ⟨g, 0, rfl, heap_lt hg, fun j hj => ?_⟩
    obtain ⟨A, c, h1, h2⟩ := hv j hj
    have h3 := World.ownsRow.cellAt ho j (by omega)
    refine ⟨A, _, c, ?_, h2.ints (hr _ ?_)⟩
    · rw [Nat.zero_add, h3, h1]
    · rw [List.getD_eq_getElem?_getD, List.getElem?_eq_getElem hj]; exact List.getElem_mem _

theorem OwnedL.lt {w : World} {base : Nat} {v : Value} {xss : List (List Int)} (h : OwnedL w base v xss) : ∀ k, v.ownBlock = some k → base ≤ k ∧ k < w.heap.size := by
  obtain ⟨vs, ho, _⟩ := h
  exact World.ownsRow.lt ho
theorem OwnedL.keptB {w w' : World} {base : Nat} {u v : Value} {xss : List (List Int)} (h : OwnedL w base v xss) (hk : KeptB u.ownBlock w w') (ha : Apart u v) (hi : KeptT 3 w w') : OwnedL w' base v xss := by
  obtain ⟨vs, ho, hr⟩ := h
  refine ⟨vs, ⟨ho.1, ?_⟩, fun j hj => ?_⟩
  · rcases ho.2 with e | ⟨g, cap, cur, hv, hbg, hg, r⟩
    · exact .inl e
    · exact .inr ⟨g, cap, cur, hv, hbg, hk g _ hg (fun e => ha g e (by rw [hv]; rfl)), r⟩
  · obtain ⟨A, c, h1, h2⟩ := hr j hj
    exact ⟨A, c, h1, h2.keptT hi⟩
theorem Apart.moved {w : World} {base : Nat} {v v' u : Value} {xss : List (List Int)} (h : Apart v u) (hm : Moved w v v') (hu : OwnedL w base u xss) : Apart v' u := by
  rcases hm with e | ⟨g, hg, e⟩
  · intro k hk; rw [e] at hk; exact h k hk
  · intro k hk h2
    rw [e] at hk
    injection hk with hk
    have := (hu.lt k h2).2
    omega

/-- append of one list to a row of lists. -/
theorem run_append_list {w : World} {base : Nat} {v : Value} {xss : List (List Int)} {B : Option Addr} {m d : Nat} {xs : List Int} (h : OwnedL w base v xss) (hx : Owned w base (.slice B m d) xs) (hbase : base ≤ w.heap.size) (hl : xss.length < 1759218604441) :
    ∃ A c w', (Builtin.append_ #[22, 22] 22 #[v, .slice (some ⟨w.heap.size, 0, none⟩) 1 1]).run Try.prog (w.alloc (.cells #[.slice B m d] 26)) = .ok (.slice A (xss.length + 1) c) w' ∧
      OwnedL w' base (.slice A (xss.length + 1) c) (xss ++ [xs]) ∧ Below base w w' ∧ (∀ t, t ≠ 26 → KeptT t w w') ∧ KeptB v.ownBlock w w' ∧ Moved w v (.slice A (xss.length + 1) c) := by
  obtain ⟨i, hi, hz0, hz1, hz2⟩ := info_parts infol
  obtain ⟨vs, ho, hv⟩ := h
  have hbz := alloc_below w (.cells #[.slice B m d] 26)
  have ho1 : (w.alloc (.cells #[.slice B m d] 26)).ownsRow base 26 1 v xss.length vs := by
    refine ⟨ho.1, ?_⟩
    rcases ho.2 with e | ⟨g, cap, cur, hv, hbg, hg, r⟩
    · exact .inl e
    · exact .inr ⟨g, cap, cur, hv, hbg, (hbz.block g (heap_lt hg)).trans hg, r⟩
  obtain ⟨v', w', hr, h1, h2, _, hmv⟩ := run_append_own_at (P := Try.prog) (w.alloc (.cells #[.slice B m d] 26)) base 22 22 26 i (.slice none 0 0) 1 24 Try.underlying22 hi hz0 hz1 hz2 rfl (by decide) v _ _ ho1 ⟨w.heap.size, 0, none⟩ 1 1 [.slice B m d] (by simp)
    (by
      intro j u hu
      cases j with
      | zero =>
        simp at hu
        subst hu
        simp [Addr.add]
      | succ j => simp at hu)
    (by intro u hu; simp at hu; subst hu; rfl) (by unfold maxLen; omega) (by omega) (Nat.le_trans hbase hbz.size)
  have hs : ∀ t, t ≠ 26 → KeptT t w w' := fun t ht => (KeptT.of_below hbz).trans (KeptT.grown h2 ho1 ht)
  have hform : ∃ A c, v' = .slice A (xss.length + 1) c := by
    rcases h1.2 with ⟨rfl, h0⟩ | ⟨g, cap, cur, rfl, _⟩
    · have := h1.1; rw [h0] at this; simp at this
    · exact ⟨_, _, rfl⟩
  obtain ⟨A, c, rfl⟩ := hform
  have hkb : KeptB v.ownBlock w w' := fun g o e hne => (h2.block g (Nat.lt_of_lt_of_le (heap_lt e) hbz.size) (fun e2 => hne e2.symm)).trans ((hbz.block g (heap_lt e)).trans e)
  have hmoved : Moved w v (.slice A (xss.length + 1) c) := by
    rcases hmv with e | e
    · exact .inl e
    · exact .inr ⟨_, by simp, e⟩
  have hn : m = xs.length := by obtain ⟨A', c', e⟩ := hx.form; cases e; rfl
  subst hn
  refine ⟨A, c, w', hr, ⟨vs ++ [.slice B xs.length d], by rw [List.length_append]; exact h1, fun j hj => ?_⟩, (hbz.mono hbase).trans ((Below.refl _ _).grown h2 (Nat.le_trans hbase hbz.size) (fun k hk => (World.ownsRow.lt ho1 k hk).1)), hs, hkb, hmoved⟩
  have hvl : vs.length = xss.length := by have := ho.1; omega
  by_cases e : j < xss.length
  · obtain ⟨A2, c2, h3, h4⟩ := hv j e
    have hg : (xss ++ [xs]).getD j [] = xss.getD j [] := by rw [List.getD_eq_getElem?_getD, List.getD_eq_getElem?_getD, List.getElem?_append_left e]
    rw [hg]
    exact ⟨A2, c2, by rw [List.getElem?_append_left (by omega)]; exact h3, h4.keptT (hs _ (by decide))⟩
  · have hjl : j = xss.length := by simp at hj; omega
    subst hjl
    have hg : (xss ++ [xs]).getD xss.length [] = xs := by simp
    rw [hg]
    exact ⟨B, d, by rw [List.getElem?_append_right (by omega), hvl]; simp, hx.keptT (hs _ (by decide))⟩

set_option maxHeartbeats 1000000 in
set_option maxRecDepth 100000 in
/-- Clone of a list. -/
theorem sclone (A : Option Addr) (n c : Nat) (xs : List Int) (w : World) (hx : Ints w A n xs) :
    Calls Try.prog 108 #[.slice A n c] w fun e w' => ∃ A' c', e = .returned (.slice A' n c') ∧ Owned w' w.heap.size (.slice A' n c') xs ∧ Below w.heap.size w w' := by
  have L := Lib.hid hx.1
  have hn := hx.2.1
  cases A with
  | none =>
    have h0 : n = 0 := by
      rcases Nat.eq_zero_or_pos n with h | h
      · exact h
      · obtain ⟨b, off, e, _⟩ := hx.2.2 h; cases e
    subst h0
    obtain rfl : xs = [] := List.eq_nil_of_length_eq_zero L.out
    have he := fun W => Lib.run_eql_slice_nil (P := Try.prog) W 26 3 none 0 c 0 0 Try.underlying26
    go_enter Try.func108, Try.ntmps108
    go_wp2
    go_ret
    exact ⟨none, 0, rfl, Owned.nil _ _, Below.refl _ _⟩
  | some a =>
    have hb0 := alloc_below w (.cells #[] 3)
    have ho := Owned.literal w w.heap.size [] #[] 0 (Nat.le_refl _) rfl rfl (by simp)
    obtain ⟨v', w', hr, ho', _, hb'⟩ := run_append_ints _ _ _ _ _ _ _ c ho (hx.below hb0) hb0.size (by rw [List.nil_append, L.out]; exact hn)
    obtain ⟨A', c', rfl⟩ := ho'.form
    rw [List.nil_append, L.out] at hr ho'
    have hB := Lib.hid (hb0.trans hb')
    have HO := Lib.hid ho'
    clear ho hb0 hb' ho'
    have he := fun W => Lib.run_eql_slice_nil (P := Try.prog) W 26 3 (some a) n c 0 0 Try.underlying26
    go_enter Try.func108, Try.ntmps108
    go_wp2_with (at_builtin; refine Lib.wpList_append_run _ rfl _ _ _ _ rfl _ _ rfl rfl _ _ hr ?_)
    go_ret
    exact ⟨A', c', rfl, HO.out, hB.out⟩
end Go.Proofs.Ytnifjagjcoegaaa
