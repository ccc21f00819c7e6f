/- Rows of traces that a call owns. -/
import Derived.Test.YtihahljpfekmbaaOwnL
namespace Go.Proofs.Ytihahljpfekmbaa
open Go.RowKit

theorem infot : (Try.prog.info? 122).map (fun i => (i.zero, i.size, i.bytes)) = some (some (.agg #[.slice none 0 0, .slice none 0 0]), 2, 48) := by kernel_rfl

/-- The slice value v is a row of traces in blocks from base on, which the call may write. -/
def OwnedT (w : World) (base : Nat) (v : Value) (ts : List (List Int × List Int)) : Prop :=
  ∃ vs : List Value, w.ownsRow base 122 2 v ts.length vs ∧ ∀ j, j < ts.length → ∃ A c B d, vs[2 * j]? = some (.slice A (ts.getD j ([], [])).1.length c) ∧ vs[2 * j + 1]? = some (.slice B (ts.getD j ([], [])).2.length d) ∧
    Owned w base (.slice A (ts.getD j ([], [])).1.length c) (ts.getD j ([], [])).1 ∧ Owned w base (.slice B (ts.getD j ([], [])).2.length d) (ts.getD j ([], [])).2
theorem OwnedT.nil (w : World) (base : Nat) : OwnedT w base (.slice none 0 0) [] := ⟨[], World.ownsRow_nil _ _ _ _, fun j h => absurd h (by simp)⟩
theorem OwnedT.form {w : World} {base : Nat} {v : Value} {ts : List (List Int × List Int)} (h : OwnedT w base v ts) : ∃ A c, v = .slice A ts.length c := by
  obtain ⟨vs, h, _⟩ := h
  rcases h.2 with ⟨rfl, h0⟩ | ⟨g, cap, cur, rfl, _⟩
  · have : ts.length = 0 := h0
    exact ⟨none, 0, by rw [this]⟩
  · exact ⟨_, _, rfl⟩
theorem OwnedT.keptT {w w' : World} {base : Nat} {v : Value} {ts : List (List Int × List Int)} (h : OwnedT w base v ts) (hk : KeptT 3 w w') (hl : KeptT 122 w w') : OwnedT w' base v ts := by
  obtain ⟨vs, h, hr⟩ := h
  refine ⟨vs, ⟨h.1, ?_⟩, fun j hj => ?_⟩
  · rcases h.2 with e | ⟨g, cap, cur, hv, hbg, hg, r⟩
    · exact .inl e
    · exact .inr ⟨g, cap, cur, hv, hbg, hl g cur hg, r⟩
  · obtain ⟨A, c, B, d, h1, h2, h3, h4⟩ := hr j hj
    exact ⟨A, c, B, d, h1, h2, h3.keptT hk, h4.keptT hk⟩
theorem OwnedT.kept {w w' : World} {base : Nat} {v : Value} {ts : List (List Int × List Int)} (h : OwnedT w base v ts) (hb : Below w.heap.size w w') : OwnedT w' base v ts := h.keptT (KeptT.of_below hb) (KeptT.of_below hb)
theorem OwnedT.lower {w : World} {base base' : Nat} {v : Value} {ts : List (List Int × List Int)} (h : OwnedT w base v ts) (hb : base' ≤ base) : OwnedT w base' v ts := by
  obtain ⟨vs, h, hr⟩ := h
  refine ⟨vs, ⟨h.1, ?_⟩, fun j hj => ?_⟩
  · rcases h.2 with e | ⟨g, cap, cur, hv, hbg, r⟩
    · exact .inl e
    · exact .inr ⟨g, cap, cur, hv, by omega, r⟩
  · obtain ⟨A, c, B, d, h1, h2, h3, h4⟩ := hr j hj
    exact ⟨A, c, B, d, h1, h2, h3.lower hb, h4.lower hb⟩
theorem OwnedT.drew {w : World} {base : Nat} {v : Value} {ts : List (List Int × List Int)} (h : OwnedT w base v ts) (q : Nat) : OwnedT (w.drewN q) base v ts := h

/-- append of one trace to a row of traces. -/
theorem run_append_trace {w : World} {base : Nat} {v : Value} {ts : List (List Int × List Int)} {A B : Option Addr} {m c n d : Nat} {xs ys : List Int} (h : OwnedT w base v ts) (hx : Owned w base (.slice A m c) xs) (hy : Owned w base (.slice B n d) ys) (hbase : base ≤ w.heap.size) (hl : ts.length < 1000000000) :
    ∃ A' c' w', (Builtin.append_ #[83, 83] 83 #[v, .slice (some ⟨w.heap.size, 0, none⟩) 1 1]).run Try.prog (w.alloc (.cells #[.slice A m c, .slice B n d] 122)) = .ok (.slice A' (ts.length + 1) c') w' ∧
      OwnedT w' base (.slice A' (ts.length + 1) c') (ts ++ [(xs, ys)]) ∧ Below base w w' ∧ ∀ t, t ≠ 122 → KeptT t w w' := by
  obtain ⟨i, hi, hz0, hz1, hz2⟩ := info_parts infot
  obtain ⟨vs, ho, hv⟩ := h
  have hbz := alloc_below w (.cells #[.slice A m c, .slice B n d] 122)
  have ho1 : (w.alloc (.cells #[.slice A m c, .slice B n d] 122)).ownsRow base 122 2 v ts.length vs := by
    refine ⟨ho.1, ?_⟩
    rcases ho.2 with e | ⟨g, cap, cur, hv, hbg, hg, r⟩
    · exact .inl e
    · exact .inr ⟨g, cap, cur, hv, hbg, (hbz.block g (heap_lt hg)).trans hg, r⟩
  obtain ⟨v', w', hr, h1, h2, _, hmv⟩ := run_append_own_at (P := Try.prog) (w.alloc (.cells #[.slice A m c, .slice B n d] 122)) base 83 83 122 i _ 2 48 Try.underlying83 hi hz0 hz1 hz2 rfl (by decide) v _ _ ho1 ⟨w.heap.size, 0, none⟩ 1 1 [.slice A m c, .slice B n d] (by simp)
    (by
      intro j u hu
      match j with
      | 0 =>
        simp at hu
        subst hu
        simp [Addr.add]
      | 1 =>
        simp at hu
        subst hu
        simp [Addr.add]
      | j + 2 => simp at hu)
    (by intro u hu; simp at hu; rcases hu with rfl | rfl <;> rfl) (by unfold maxLen; omega) (by omega) (Nat.le_trans hbase hbz.size)
  have hs : ∀ t, t ≠ 122 → KeptT t w w' := fun t ht => (KeptT.of_below hbz).trans (KeptT.grown h2 ho1 ht)
  have hform : ∃ A c, v' = .slice A (ts.length + 1) c := by
    rcases h1.2 with ⟨rfl, h0⟩ | ⟨g, cap, cur, rfl, _⟩
    · have := h1.1; rw [h0] at this; simp at this
    · exact ⟨_, _, rfl⟩
  obtain ⟨A', c', rfl⟩ := hform
  have hm : m = xs.length := by obtain ⟨A', c', e⟩ := hx.form; cases e; rfl
  have hn : n = ys.length := by obtain ⟨A', c', e⟩ := hy.form; cases e; rfl
  subst hm hn
  refine ⟨A', c', w', hr, ⟨vs ++ [.slice A xs.length c, .slice B ys.length d], by rw [List.length_append]; exact h1, fun j hj => ?_⟩, (hbz.mono hbase).trans ((Below.refl _ _).grown h2 (Nat.le_trans hbase hbz.size) (fun k hk => (World.ownsRow.lt ho1 k hk).1)), hs⟩
  have hvl : vs.length = 2 * ts.length := by have := ho.1; omega
  by_cases e : j < ts.length
  · obtain ⟨A2, c2, B2, d2, h3, h4, h5, h6⟩ := hv j e
    have hg : (ts ++ [(xs, ys)]).getD j ([], []) = ts.getD j ([], []) := by rw [List.getD_eq_getElem?_getD, List.getD_eq_getElem?_getD, List.getElem?_append_left e]
    rw [hg]
    exact ⟨A2, c2, B2, d2, by rw [List.getElem?_append_left (by omega)]; exact h3, by rw [List.getElem?_append_left (by omega)]; exact h4, h5.keptT (hs _ (by decide)), h6.keptT (hs _ (by decide))⟩
  · have hjl : j = ts.length := by simp at hj; omega
    subst hjl
    have hg : (ts ++ [(xs, ys)]).getD ts.length ([], []) = (xs, ys) := by simp
    rw [hg]
    exact ⟨A, c, B, d, by rw [List.getElem?_append_right (by omega), hvl]; simp, by rw [List.getElem?_append_right (by omega), hvl, show 2 * ts.length + 1 - 2 * ts.length = 1 by omega]; rfl, hx.keptT (hs _ (by decide)), hy.keptT (hs _ (by decide))⟩
end Go.Proofs.Ytihahljpfekmbaa
