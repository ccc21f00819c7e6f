/- Rows of strings that a call owns: what they read as; append of a list that reads as numbers. -/
import Derived.Test.YtiongejdedhcjaaDoorStrs
import Derived.Test.YtiongejdedhcjaaDoorProg
import Derived.Outline
import Derived.WalkLawsBesides
import Derived.WalkSpells
import Derived.Deep.AppendSrc
import Derived.Lib.AppendZeros
namespace Go.Proofs.YtiongejdedhcjaaDoor
open Go.RowKit

theorem infoS : (Tryd.prog.info? 9).map (fun i => (i.zero, i.size, i.bytes)) = some (some (.string ⟨#[]⟩), 1, 16) := by kernel_rfl

/-- The slice value v is a row of the numbers xs in a block from base on, which the call may write. -/
def OwnedS (w : World) (base : Nat) (v : Value) (xs : List ByteArray) : Prop := w.ownsRow base 9 1 v xs.length (xs.map Value.string)

theorem OwnedS.form {w : World} {base : Nat} {v : Value} {xs : List ByteArray} (h : OwnedS w base v xs) : ∃ A c, v = .slice A xs.length c := by
  rcases h.2 with ⟨rfl, h0⟩ | ⟨g, cap, cur, rfl, _⟩
  · exact ⟨none, 0, by rw [h0]⟩
  · exact ⟨_, _, rfl⟩

theorem OwnedS.strs {w : World} {base : Nat} {A : Option Addr} {n c : Nat} {xs : List ByteArray} (h : OwnedS w base (.slice A n c) xs) (hm : xs.length ≤ 17592186044416) (hz : ∀ x, x ∈ xs → x.size ≤ 17592186044416) : Strs w A n xs := by
  have hn : n = xs.length := by obtain ⟨A', c', e⟩ := h.form; cases e; rfl
  subst hn
  refine ⟨rfl, hm, fun h0 => ?_, fun j hj => hz _ (by simp [List.getD, hj])⟩
  rcases h.2 with ⟨e, h1⟩ | ⟨g, cap, cur, e, _, hg, _⟩
  · omega
  · cases e
    refine ⟨g, 0, rfl, ?_, fun j hj => ?_⟩
    · rcases Nat.lt_or_ge g w.heap.size with hlt | hge
      · exact hlt
      · rw [Array.getElem?_eq_none hge] at hg; cases hg
    · have := World.ownsRow.cellAt h j (by omega)
      rw [Nat.zero_add, this]
      simp [List.getD, hj]

theorem OwnedS.nil (w : World) (base : Nat) : OwnedS w base (.slice none 0 0) [] := World.ownsRow_nil _ _ _ _

/-- An owned row is still owned where only blocks below its base, or new ones, have turned. -/
theorem OwnedS.kept {w w' : World} {base : Nat} {v : Value} {xs : List ByteArray} (h : OwnedS w base v xs) (hb : Below w.heap.size w w') : OwnedS w' base v xs := by
  refine ⟨h.1, ?_⟩
  rcases h.2 with e | ⟨g, cap, cur, hv, hbg, hg, r⟩
  · exact .inl e
  · refine .inr ⟨g, cap, cur, hv, hbg, ?_, r⟩
    rw [hb.block g ?_]
    · exact hg
    · rcases Nat.lt_or_ge g w.heap.size with hlt | hge
      · exact hlt
      · rw [Array.getElem?_eq_none hge] at hg; cases hg

theorem OwnedS.lower {w : World} {base base' : Nat} {v : Value} {xs : List ByteArray} (h : OwnedS w base v xs) (hb : base' ≤ base) : OwnedS w base' v xs := by
  refine ⟨h.1, ?_⟩
  rcases h.2 with e | ⟨g, cap, cur, hv, hbg, r⟩
  · exact .inl e
  · exact .inr ⟨g, cap, cur, hv, by omega, r⟩

theorem run_append_noneS (w : World) (base c : Nat) (i : TypeInfo) (hi : Tryd.prog.info? 9 = some i) (v : Value) (xs : List ByteArray) (h : OwnedS w base v xs) :
    (Builtin.append_ #[22, 22] 22 #[v, .slice none 0 c]).run Tryd.prog w = .ok v w := by
  rcases h.2 with ⟨rfl, _⟩ | ⟨g, cap, cur, rfl, _, _, hnc, _⟩
  · simp [Builtin.append_, run_underlying Tryd.underlying22, sizeOf, typeInfo, hi, Builtin.lenOf, Builtin.firstCells]
  · simp [Builtin.append_, run_underlying Tryd.underlying22, sizeOf, typeInfo, hi, Builtin.lenOf, Builtin.firstCells, hnc, storeCells]

/-- append(v, ys...) onto an owned row. -/
theorem run_append_strs (w : World) (base : Nat) (v : Value) (xs ys : List ByteArray) (A : Option Addr) (m c : Nat) (h : OwnedS w base v xs) (hy : Strs w A m ys)
    (hbase : base ≤ w.heap.size) (hlen : (xs ++ ys).length ≤ 1000000000) :
    ∃ v' w', (Builtin.append_ #[22, 22] 22 #[v, .slice A m c]).run Tryd.prog w = .ok v' w' ∧ OwnedS w' base v' (xs ++ ys) ∧ w.grownBy w' v.ownBlock ∧ Below base w w' := by
  obtain ⟨i, hi, hz0, hz1, hz2⟩ := info_parts infoS
  have hsplit : ∀ k, v.ownBlock = some k → base ≤ k := fun k hk => (World.ownsRow.lt h k hk).1
  rcases Nat.eq_zero_or_pos m with h0 | h0
  · have hys : ys = [] := List.eq_nil_of_length_eq_zero (by rw [hy.1, h0])
    subst h0 hys
    cases A with
    | none => exact ⟨v, w, run_append_noneS w base c i hi v xs h, by simpa using h, World.grownBy.refl w _, Below.refl _ _⟩
    | some a =>
      obtain ⟨v', w', hr, h1, h2, _⟩ := run_append_own (P := Tryd.prog) w base 22 22 9 i (.string ⟨#[]⟩) 1 16 Tryd.underlying22 hi hz0 hz1 hz2 rfl (by decide) v _ _ h a 0 c [] (by simp) (by simp) (by simp)
        (by have := h.1; simp at hlen; unfold maxLen; omega) (by simp at hlen; omega) hbase
      exact ⟨v', w', hr, by unfold OwnedS; simpa using h1, h2, (Below.refl _ _).grown h2 hbase hsplit⟩
  · obtain ⟨b, off, rfl, hb, hc⟩ := hy.2.2.1 h0
    obtain ⟨v', w', hr, h1, h2, _⟩ := run_append_own (P := Tryd.prog) w base 22 22 9 i (.string ⟨#[]⟩) 1 16 Tryd.underlying22 hi hz0 hz1 hz2 rfl (by decide) v _ _ h ⟨b, off, none⟩ m c (ys.map Value.string)
      (by simp [hy.1])
      (by
        intro j u hu
        have hj : j < ys.length := by
          rcases Nat.lt_or_ge j ys.length with hlt | hge
          · exact hlt
          · rw [List.getElem?_eq_none (by simpa using hge)] at hu; cases hu
        have hcj := hc j (by rw [← hy.1]; exact hj)
        rw [List.getElem?_map, List.getElem?_eq_getElem hj] at hu
        simp only [Option.map_some, Option.some.injEq] at hu
        subst hu
        rw [show (⟨b, off, none⟩ : Addr).add j = ⟨b, off + j, none⟩ by unfold Addr.add; split <;> simp_all]
        rw [hcj]; simp [List.getD, hj])
      (by intro u hu; simp at hu; obtain ⟨a, _, rfl⟩ := hu; rfl)
      (by rw [List.length_append] at hlen; rw [← hy.1]; unfold maxLen; omega) (by rw [List.length_append] at hlen; rw [← hy.1]; omega) hbase
    refine ⟨v', w', hr, ?_, h2, (Below.refl _ _).grown h2 hbase hsplit⟩
    unfold OwnedS
    rw [List.length_append, List.map_append, hy.1]
    exact h1

theorem OwnedS.head {w : World} {base n c : Nat} {A : Option Addr} {xs : List ByteArray} (h : OwnedS w base (.slice A n c) xs) (h0 : 0 < n) :
    ∃ g, A = some ⟨g, 0, none⟩ ∧ base ≤ g ∧ g < w.heap.size ∧ ∀ j, w.frozen? ⟨g, j, none⟩ = false := by
  have h' := h
  obtain ⟨A', c', e⟩ := h'.form
  cases e
  rcases h.2 with ⟨e, h1⟩ | ⟨g, cap, cur, e, hb, hg, _⟩
  · omega
  · cases e
    refine ⟨g, rfl, hb, ?_, fun j => frozen_of_row w g j cur 9 hg⟩
    rcases Nat.lt_or_ge g w.heap.size with hlt | hge
    · exact hlt
    · rw [Array.getElem?_eq_none hge] at hg; cases hg

theorem OwnedS.stored {w : World} {base g n c : Nat} {xs : List ByteArray} (h : OwnedS w base (.slice (some ⟨g, 0, none⟩) n c) xs) (j : Nat) (u : ByteArray) :
    OwnedS (w.setCell ⟨g, j, none⟩ (.string u)) base (.slice (some ⟨g, 0, none⟩) n c) (xs.set j u) := by
  have hf := h.form
  obtain ⟨A', c', e⟩ := hf
  cases e
  have := (World.ownsRow.stored h j (.string u)).1
  unfold OwnedS
  rw [List.length_set, List.map_set]
  exact this

theorem OwnedS.literal (w : World) (base : Nat) (xs : List ByteArray) (cs : Array Value) (n : Nat) (hb : base ≤ w.heap.size) (hcs : cs = (xs.map Value.string).toArray) (hn : n = xs.length) (hm : xs.length ≤ 17592186044416) :
    OwnedS (w.alloc (.cells cs 9)) base (.slice (some ⟨w.heap.size, 0, none⟩) n n) xs := by
  subst hcs hn
  have := World.ownsRow_lit (e := 9) (size := 1) w (xs.map Value.string).toArray xs.length hb (by unfold maxLen; omega) (by simp)
  unfold OwnedS
  simpa using this

end Go.Proofs.YtiongejdedhcjaaDoor
