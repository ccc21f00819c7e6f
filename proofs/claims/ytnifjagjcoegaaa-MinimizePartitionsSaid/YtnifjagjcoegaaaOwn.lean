/- Rows of numbers that a call owns: what they read as; append of a list that reads as numbers. -/
import Derived.Test.YtnifjagjcoegaaaBase
import Derived.Test.YtnifjagjcoegaaaProg
import Derived.Outline
import Derived.WalkLawsBesides
import Derived.WalkSpells
import Derived.Deep.AppendSrc
import Derived.Lib.AppendZeros
namespace Go.Proofs.Ytnifjagjcoegaaa
open Go.RowKit

theorem info3 : (Try.prog.info? 3).map (fun i => (i.zero, i.size, i.bytes)) = some (some (.int .i64 0), 1, 8) := by kernel_rfl

/-- The slice value v is a row of the numbers xs in a block from base on, which the call may write. -/
def Owned (w : World) (base : Nat) (v : Value) (xs : List Int) : Prop := w.ownsRow base 3 1 v xs.length (xs.map (Value.int .i64))

theorem Owned.form {w : World} {base : Nat} {v : Value} {xs : List Int} (h : Owned w base v xs) : ∃ A c, v = .slice A xs.length c := by
  rcases h.2 with ⟨rfl, h0⟩ | ⟨g, cap, cur, rfl, _⟩
  · exact ⟨none, 0, by rw [h0]⟩
  · exact ⟨_, _, rfl⟩

theorem Owned.ints {w : World} {base : Nat} {A : Option Addr} {n c : Nat} {xs : List Int} (h : Owned w base (.slice A n c) xs) (hm : xs.length ≤ 17592186044416) : Ints w A n xs := by
  have hn : n = xs.length := by obtain ⟨A', c', e⟩ := h.form; cases e; rfl
  subst hn
  refine ⟨rfl, hm, fun h0 => ?_⟩
  rcases h.2 with ⟨e, h1⟩ | ⟨g, cap, cur, e, _, hg, _⟩
  · omega
  · cases e
    refine ⟨g, 0, rfl, ?_, fun j hj => ?_⟩
    · rcases Nat.lt_or_ge g w.heap.size with hlt | hge
      · exact hlt
      · rw [Array.getElem?_eq_none hge] at hg; cases hg
    · have := World.ownsRow.cellAt h j (by omega)
      rw [Nat.zero_add, this]
      simp [List.getD, hj]

theorem Owned.nil (w : World) (base : Nat) : Owned w base (.slice none 0 0) [] := World.ownsRow_nil _ _ _ _

/-- An owned row is still owned where only blocks below its base, or new ones, have turned. -/
theorem Owned.kept {w w' : World} {base : Nat} {v : Value} {xs : List Int} (h : Owned w base v xs) (hb : Below w.heap.size w w') : Owned w' base v xs := by
  refine ⟨h.1, ?_⟩
  rcases h.2 with e | ⟨g, cap, cur, hv, hbg, hg, r⟩
  · exact .inl e
  · refine .inr ⟨g, cap, cur, hv, hbg, ?_, r⟩
    rw [hb.block g ?_]
    · exact hg
    · rcases Nat.lt_or_ge g w.heap.size with hlt | hge
      · exact hlt
      · rw [Array.getElem?_eq_none hge] at hg; cases hg

theorem Owned.lower {w : World} {base base' : Nat} {v : Value} {xs : List Int} (h : Owned w base v xs) (hb : base' ≤ base) : Owned w base' v xs := by
  refine ⟨h.1, ?_⟩
  rcases h.2 with e | ⟨g, cap, cur, hv, hbg, r⟩
  · exact .inl e
  · exact .inr ⟨g, cap, cur, hv, by omega, r⟩

theorem run_append_none (w : World) (base c : Nat) (i : TypeInfo) (hi : Try.prog.info? 3 = some i) (v : Value) (xs : List Int) (h : Owned w base v xs) :
    (Builtin.append_ #[26, 26] 26 #[v, .slice none 0 c]).run Try.prog w = .ok v w := by
  rcases h.2 with ⟨rfl, _⟩ | ⟨g, cap, cur, rfl, _, _, hnc, _⟩
  · simp [Builtin.append_, run_underlying Try.underlying26, sizeOf, typeInfo, hi, Builtin.lenOf, Builtin.firstCells]
  · simp [Builtin.append_, run_underlying Try.underlying26, sizeOf, typeInfo, hi, Builtin.lenOf, Builtin.firstCells, hnc, storeCells]

/-- append(v, ys...) onto an owned row. -/
theorem run_append_ints (w : World) (base : Nat) (v : Value) (xs ys : List Int) (A : Option Addr) (m c : Nat) (h : Owned w base v xs) (hy : Ints w A m ys)
    (hbase : base ≤ w.heap.size) (hlen : (xs ++ ys).length ≤ 17592186044416) :
    ∃ v' w', (Builtin.append_ #[26, 26] 26 #[v, .slice A m c]).run Try.prog w = .ok v' w' ∧ Owned w' base v' (xs ++ ys) ∧ w.grownBy w' v.ownBlock ∧ Below base w w' := by
  obtain ⟨i, hi, hz0, hz1, hz2⟩ := info_parts info3
  have hsplit : ∀ k, v.ownBlock = some k → base ≤ k := fun k hk => (World.ownsRow.lt h k hk).1
  rcases Nat.eq_zero_or_pos m with h0 | h0
  · have hys : ys = [] := List.eq_nil_of_length_eq_zero (by rw [hy.1, h0])
    subst h0 hys
    cases A with
    | none => exact ⟨v, w, run_append_none w base c i hi v xs h, by simpa using h, World.grownBy.refl w _, Below.refl _ _⟩
    | some a =>
      obtain ⟨v', w', hr, h1, h2, _⟩ := run_append_own (P := Try.prog) w base 26 26 3 i (.int .i64 0) 1 8 Try.underlying26 hi hz0 hz1 hz2 rfl (by decide) v _ _ h a 0 c [] (by simp) (by simp) (by simp)
        (by have := h.1; simp at hlen; unfold maxLen; omega) (by simp at hlen; omega) hbase
      exact ⟨v', w', hr, by unfold Owned; simpa using h1, h2, (Below.refl _ _).grown h2 hbase hsplit⟩
  · obtain ⟨b, off, rfl, hb, hc⟩ := hy.2.2 h0
    obtain ⟨v', w', hr, h1, h2, _⟩ := run_append_own (P := Try.prog) w base 26 26 3 i (.int .i64 0) 1 8 Try.underlying26 hi hz0 hz1 hz2 rfl (by decide) v _ _ h ⟨b, off, none⟩ m c (ys.map (Value.int .i64))
      (by simp [hy.1])
      (by
        intro j u hu
        have hj : j < ys.length := by
          rcases Nat.lt_or_ge j ys.length with hlt | hge
          · exact hlt
          · rw [List.getElem?_eq_none (by simpa using hge)] at hu; cases hu
        have hcj := hc j (by rw [← hy.1]; exact hj)
        rw [List.getElem?_map, List.getElem?_eq_getElem hj] at hu
        simp only [Option.map_some, Option.some.injEq] at hu
        subst hu
        rw [show (⟨b, off, none⟩ : Addr).add j = ⟨b, off + j, none⟩ by unfold Addr.add; split <;> simp_all]
        rw [hcj]; simp [List.getD, hj])
      (by intro u hu; simp at hu; obtain ⟨a, _, rfl⟩ := hu; rfl)
      (by rw [List.length_append] at hlen; rw [← hy.1]; unfold maxLen; omega) (by rw [List.length_append] at hlen; rw [← hy.1]; omega) hbase
    refine ⟨v', w', hr, ?_, h2, (Below.refl _ _).grown h2 hbase hsplit⟩
    unfold Owned
    rw [List.length_append, List.map_append, hy.1]
    exact h1

theorem Owned.head {w : World} {base n c : Nat} {A : Option Addr} {xs : List Int} (h : Owned w base (.slice A n c) xs) (h0 : 0 < n) :
    ∃ g, A = some ⟨g, 0, none⟩ ∧ base ≤ g ∧ g < w.heap.size ∧ ∀ j, w.frozen? ⟨g, j, none⟩ = false := by
  have h' := h
  obtain ⟨A', c', e⟩ := h'.form
  cases e
  rcases h.2 with ⟨e, h1⟩ | ⟨g, cap, cur, e, hb, hg, _⟩
  · omega
  · cases e
    refine ⟨g, rfl, hb, ?_, fun j => frozen_of_row w g j cur 3 hg⟩
    rcases Nat.lt_or_ge g w.heap.size with hlt | hge
    · exact hlt
    · rw [Array.getElem?_eq_none hge] at hg; cases hg

theorem Owned.stored {w : World} {base g n c : Nat} {xs : List Int} (h : Owned w base (.slice (some ⟨g, 0, none⟩) n c) xs) (j : Nat) (u : Int) :
    Owned (w.setCell ⟨g, j, none⟩ (.int .i64 u)) base (.slice (some ⟨g, 0, none⟩) n c) (xs.set j u) := by
  have hf := h.form
  obtain ⟨A', c', e⟩ := hf
  cases e
  have := (World.ownsRow.stored h j (.int .i64 u)).1
  unfold Owned
  rw [List.length_set, List.map_set]
  exact this

theorem Owned.literal (w : World) (base : Nat) (xs : List Int) (cs : Array Value) (n : Nat) (hb : base ≤ w.heap.size) (hcs : cs = (xs.map (Value.int .i64)).toArray) (hn : n = xs.length) (hm : xs.length ≤ 17592186044416) :
    Owned (w.alloc (.cells cs 3)) base (.slice (some ⟨w.heap.size, 0, none⟩) n n) xs := by
  subst hcs hn
  have := World.ownsRow_lit (e := 3) (size := 1) w (xs.map (Value.int .i64)).toArray xs.length hb (by unfold maxLen; omega) (by simp)
  unfold Owned
  simpa using this

theorem made_ints (n : Nat) : (madeCells (Value.int .i64 0).cells (n * 1)).toList = (List.replicate n (0 : Int)).map (Value.int .i64) := by
  rw [show (Value.int IntKind.i64 0).cells = #[Value.int .i64 0] from rfl, Nat.mul_one, toList_madeCells_one, List.map_replicate]

/-- make([]int, n). -/
theorem wpList_make_ints {ops : Array Oper} {rest : List Oper} {o : Oper} {a : Act} {Q : Exit → Act → World → Prop} (w : World) (hg : o.guard = none) (l c : Operand) (hop : o.op = Op.makeSlice 26 l c)
    (kl kc : IntKind) (n : Nat) (hl : a.eval l = .int kl n) (hc : a.eval c = .int kc n) (hn : n ≤ 17592186044416)
    (hK : ∀ w', Owned w' w.heap.size (.slice (some ⟨w.heap.size, 0, none⟩) n n) (List.replicate n 0) → Below w.heap.size w w' → wpList Try.prog ops Q rest (a.put o.dst (.slice (some ⟨w.heap.size, 0, none⟩) n n)) w') :
    wpList Try.prog ops Q (o :: rest) a w := by
  obtain ⟨i, hi, hz0, hz1, hz2⟩ := info_parts info3
  refine wpList_make_full w hg l c 26 hop w.heap.size 3 i _ 1 Try.underlying26 hi hz0 hz1 kl kc _ _ n hl hc rfl rfl (by rw [hz2]; omega) (by unfold maxLen; omega) (Nat.le_refl _) ?_
  intro w' h1 h2
  refine hK w' ?_ ((Below.refl _ _).grown h2 (Nat.le_refl _) (fun k hk => by cases hk))
  unfold Owned
  rw [← made_ints, List.length_replicate]
  exact h1
end Go.Proofs.Ytnifjagjcoegaaa
