/- Lemmas of the proofs of this seat, of the parts Base, Own, In, Wf, Nums, Join, Openb, Openm, Ord, Ordp, Swp, Lexp, Obp, Obt, Opent, Openr, Same, Lits, Kept, Blo, Arnd, Check, Mp, Agrl, Mach, Vald, Appo, OwnL, OwnT, Hya, Cmpw, Obb, Commw, Obe, Obn, Obc. Conditions: none. -/
import Derived.WalkKit
import Derived.Lib.Hide
import Derived.Laws.Rows
import Derived.Deep.Draws
import Derived.Test.YtkkmcgapbcikiaaProg
import Derived.Outline
import Derived.WalkLawsBesides
import Derived.WalkSpells
import Derived.Deep.AppendSrc
import Derived.Lib.AppendZeros
import Derived.DataShut
import Derived.Deep.Matrix
import Derived.Lib.SmallJoins
import Derived.ProofKit
import Derived.SizedLaws
import Derived.BigQuiet
import Derived.Deep.QuietTactic
import Derived.Laws.Tables
import Derived.Laws.ResultCell
import Derived.Laws.CopyOwn
import Derived.RegionTactic
import Derived.BigRegion
import Derived.Lib.SliceRun
import Derived.Maps.AppendAt
import Derived.Shelf.Abstract
section
/- A slice of ints that reads as a list. -/
namespace Go.Proofs.Ytkkmcgapbcikiaa
open Go.RowKit

/-- The slice '.slice A n _' holds the numbers xs. -/
def Ints (w : World) (A : Option Addr) (n : Nat) (xs : List Int) : Prop :=
  xs.length = n ∧ n ≤ 17592186044416 ∧ (0 < n → ∃ b off, A = some ⟨b, off, none⟩ ∧ b < w.heap.size ∧ ∀ j, j < n → w.cell? ⟨b, off + j, none⟩ = some (.int .i64 (xs.getD j 0)))

theorem Ints.below {w w' : World} {A : Option Addr} {n : Nat} {xs : List Int} (h : Ints w A n xs) (hb : Below w.heap.size w w') : Ints w' A n xs :=
  ⟨h.1, h.2.1, fun hn => by
    obtain ⟨b, off, e, hlt, hc⟩ := h.2.2 hn
    exact ⟨b, off, e, Nat.lt_of_lt_of_le hlt hb.size, fun j hj => (hb.cell hlt).trans (hc j hj)⟩⟩

theorem Ints.drewN {w : World} {A : Option Addr} {n : Nat} {xs : List Int} (h : Ints w A n xs) (d : Nat) : Ints (w.drewN d) A n xs := h

theorem Ints.at_ {w : World} {A : Option Addr} {n : Nat} {xs : List Int} (h : Ints w A n xs) {k : Nat} (hk : k < n) :
    ∃ b off, A = some ⟨b, off, none⟩ ∧ b < w.heap.size ∧ w.cell? ⟨b, off + k, none⟩ = some (.int .i64 (xs.getD k 0)) := by
  obtain ⟨b, off, e, hlt, hc⟩ := h.2.2 (by omega)
  exact ⟨b, off, e, hlt, hc k hk⟩

theorem below_drewN {B : Nat} {w w' : World} (h : Below B w w') (d : Nat) : Below B w (w'.drewN d) := ⟨h.os, h.tape, h.output, h.size, h.block⟩

/-- A slice that a literal makes. -/
theorem Ints.new (w : World) (xs : List Int) (cs : Array Value) (n : Nat) (hcs : cs = (xs.map (Value.int .i64)).toArray) (hn : n = xs.length) (hm : xs.length ≤ 17592186044416) :
    Ints (w.alloc (.cells cs 3)) (some ⟨w.heap.size, 0, none⟩) n xs := by
  subst hcs hn
  refine ⟨rfl, hm, fun _ => ⟨w.heap.size, 0, rfl, by simp, fun j hj => ?_⟩⟩
  have h := cell_of_row (w.alloc (.cells (xs.map (Value.int .i64)).toArray 3)) w.heap.size j (xs.map (Value.int .i64)).toArray 3 (0, 0) (heap_alloc_new w _)
  rw [Nat.zero_add, h]
  simp [List.getD, hj]

theorem ret_int {k : IntKind} {a b : Int} (h : a = b) : Ending.returned (.int k a) = .returned (.int k b) := by rw [h]
end Go.Proofs.Ytkkmcgapbcikiaa
end

section
/- Rows of numbers that a call owns: what they read as; append of a list that reads as numbers. -/
namespace Go.Proofs.Ytkkmcgapbcikiaa
open Go.RowKit

theorem info3 : (Try.prog.info? 3).map (fun i => (i.zero, i.size, i.bytes)) = some (some (.int .i64 0), 1, 8) := by kernel_rfl

/-- The slice value v is a row of the numbers xs in a block from base on, which the call may write. -/
def Owned (w : World) (base : Nat) (v : Value) (xs : List Int) : Prop := w.ownsRow base 3 1 v xs.length (xs.map (Value.int .i64))

theorem Owned.form {w : World} {base : Nat} {v : Value} {xs : List Int} (h : Owned w base v xs) : ∃ A c, v = .slice A xs.length c := by
  rcases h.2 with ⟨rfl, h0⟩ | ⟨g, cap, cur, rfl, _⟩
  · exact ⟨none, 0, by rw [h0]⟩
  · exact ⟨_, _, rfl⟩

theorem Owned.ints {w : World} {base : Nat} {A : Option Addr} {n c : Nat} {xs : List Int} (h : Owned w base (.slice A n c) xs) (hm : xs.length ≤ 17592186044416) : Ints w A n xs := by
  have hn : n = xs.length := by obtain ⟨A', c', e⟩ := h.form; cases e; rfl
  subst hn
  refine ⟨rfl, hm, fun h0 => ?_⟩
  rcases h.2 with ⟨e, h1⟩ | ⟨g, cap, cur, e, _, hg, _⟩
  · omega
  · cases e
    refine ⟨g, 0, rfl, ?_, fun j hj => ?_⟩
    · rcases Nat.lt_or_ge g w.heap.size with hlt | hge
      · exact hlt
      · rw [Array.getElem?_eq_none hge] at hg; cases hg
    · have := World.ownsRow.cellAt h j (by omega)
      rw [Nat.zero_add, this]
      simp [List.getD, hj]

theorem Owned.nil (w : World) (base : Nat) : Owned w base (.slice none 0 0) [] := World.ownsRow_nil _ _ _ _

/-- An owned row is still owned where only blocks below its base, or new ones, have turned. -/
theorem Owned.kept {w w' : World} {base : Nat} {v : Value} {xs : List Int} (h : Owned w base v xs) (hb : Below w.heap.size w w') : Owned w' base v xs := by
  refine ⟨h.1, ?_⟩
  rcases h.2 with e | ⟨g, cap, cur, hv, hbg, hg, r⟩
  · exact .inl e
  · refine .inr ⟨g, cap, cur, hv, hbg, ?_, r⟩
    rw [hb.block g ?_]
    · exact hg
    · rcases Nat.lt_or_ge g w.heap.size with hlt | hge
      · exact hlt
      · rw [Array.getElem?_eq_none hge] at hg; cases hg

theorem Owned.lower {w : World} {base base' : Nat} {v : Value} {xs : List Int} (h : Owned w base v xs) (hb : base' ≤ base) : Owned w base' v xs := by
  refine ⟨h.1, ?_⟩
  rcases h.2 with e | ⟨g, cap, cur, hv, hbg, r⟩
  · exact .inl e
  · exact .inr ⟨g, cap, cur, hv, by omega, r⟩

theorem run_append_none (w : World) (base c : Nat) (i : TypeInfo) (hi : Try.prog.info? 3 = some i) (v : Value) (xs : List Int) (h : Owned w base v xs) :
    (Builtin.append_ #[36, 36] 36 #[v, .slice none 0 c]).run Try.prog w = .ok v w := by
  rcases h.2 with ⟨rfl, _⟩ | ⟨g, cap, cur, rfl, _, _, hnc, _⟩
  · simp [Builtin.append_, run_underlying Try.underlying36, sizeOf, typeInfo, hi, Builtin.lenOf, Builtin.firstCells]
  · simp [Builtin.append_, run_underlying Try.underlying36, sizeOf, typeInfo, hi, Builtin.lenOf, Builtin.firstCells, hnc, storeCells]

/-- append(v, ys...) onto an owned row. -/
theorem run_append_ints (w : World) (base : Nat) (v : Value) (xs ys : List Int) (A : Option Addr) (m c : Nat) (h : Owned w base v xs) (hy : Ints w A m ys)
    (hbase : base ≤ w.heap.size) (hlen : (xs ++ ys).length ≤ 17592186044416) :
    ∃ v' w', (Builtin.append_ #[36, 36] 36 #[v, .slice A m c]).run Try.prog w = .ok v' w' ∧ Owned w' base v' (xs ++ ys) ∧ w.grownBy w' v.ownBlock ∧ Below base w w' := by
  obtain ⟨i, hi, hz0, hz1, hz2⟩ := info_parts info3
  have hsplit : ∀ k, v.ownBlock = some k → base ≤ k := fun k hk => (World.ownsRow.lt h k hk).1
  rcases Nat.eq_zero_or_pos m with h0 | h0
  · have hys : ys = [] := List.eq_nil_of_length_eq_zero (by rw [hy.1, h0])
    subst h0 hys
    cases A with
    | none => exact ⟨v, w, run_append_none w base c i hi v xs h, by simpa using h, World.grownBy.refl w _, Below.refl _ _⟩
    | some a =>
      obtain ⟨v', w', hr, h1, h2, _⟩ := run_append_own (P := Try.prog) w base 36 36 3 i (.int .i64 0) 1 8 Try.underlying36 hi hz0 hz1 hz2 rfl (by decide) v _ _ h a 0 c [] (by simp) (by simp) (by simp)
        (by have := h.1; simp at hlen; unfold maxLen; omega) (by simp at hlen; omega) hbase
      exact ⟨v', w', hr, by unfold Owned; simpa using h1, h2, (Below.refl _ _).grown h2 hbase hsplit⟩
  · obtain ⟨b, off, rfl, hb, hc⟩ := hy.2.2 h0
    obtain ⟨v', w', hr, h1, h2, _⟩ := run_append_own (P := Try.prog) w base 36 36 3 i (.int .i64 0) 1 8 Try.underlying36 hi hz0 hz1 hz2 rfl (by decide) v _ _ h ⟨b, off, none⟩ m c (ys.map (Value.int .i64))
      (by simp [hy.1])
      (by
        intro j u hu
        have hj : j < ys.length := by
          rcases Nat.lt_or_ge j ys.length with hlt | hge
          · exact hlt
          · rw [List.getElem?_eq_none (by simpa using hge)] at hu; cases hu
        have hcj := hc j (by rw [← hy.1]; exact hj)
        rw [List.getElem?_map, List.getElem?_eq_getElem hj] at hu
        simp only [Option.map_some, Option.some.injEq] at hu
        subst hu
        rw [show (⟨b, off, none⟩ : Addr).add j = ⟨b, off + j, none⟩ by unfold Addr.add; split <;> simp_all]
        rw [hcj]; simp [List.getD, hj])
      (by intro u hu; simp at hu; obtain ⟨a, _, rfl⟩ := hu; rfl)
      (by rw [List.length_append] at hlen; rw [← hy.1]; unfold maxLen; omega) (by rw [List.length_append] at hlen; rw [← hy.1]; omega) hbase
    refine ⟨v', w', hr, ?_, h2, (Below.refl _ _).grown h2 hbase hsplit⟩
    unfold Owned
    rw [List.length_append, List.map_append, hy.1]
    exact h1

theorem Owned.head {w : World} {base n c : Nat} {A : Option Addr} {xs : List Int} (h : Owned w base (.slice A n c) xs) (h0 : 0 < n) :
    ∃ g, A = some ⟨g, 0, none⟩ ∧ base ≤ g ∧ g < w.heap.size ∧ ∀ j, w.frozen? ⟨g, j, none⟩ = false := by
  have h' := h
  obtain ⟨A', c', e⟩ := h'.form
  cases e
  rcases h.2 with ⟨e, h1⟩ | ⟨g, cap, cur, e, hb, hg, _⟩
  · omega
  · cases e
    refine ⟨g, rfl, hb, ?_, fun j => frozen_of_row w g j cur 3 hg⟩
    rcases Nat.lt_or_ge g w.heap.size with hlt | hge
    · exact hlt
    · rw [Array.getElem?_eq_none hge] at hg; cases hg

theorem Owned.stored {w : World} {base g n c : Nat} {xs : List Int} (h : Owned w base (.slice (some ⟨g, 0, none⟩) n c) xs) (j : Nat) (u : Int) :
    Owned (w.setCell ⟨g, j, none⟩ (.int .i64 u)) base (.slice (some ⟨g, 0, none⟩) n c) (xs.set j u) := by
  have hf := h.form
  obtain ⟨A', c', e⟩ := hf
  cases e
  have := (World.ownsRow.stored h j (.int .i64 u)).1
  unfold Owned
  rw [List.length_set, List.map_set]
  exact this

theorem Owned.literal (w : World) (base : Nat) (xs : List Int) (cs : Array Value) (n : Nat) (hb : base ≤ w.heap.size) (hcs : cs = (xs.map (Value.int .i64)).toArray) (hn : n = xs.length) (hm : xs.length ≤ 17592186044416) :
    Owned (w.alloc (.cells cs 3)) base (.slice (some ⟨w.heap.size, 0, none⟩) n n) xs := by
  subst hcs hn
  have := World.ownsRow_lit (e := 3) (size := 1) w (xs.map (Value.int .i64)).toArray xs.length hb (by unfold maxLen; omega) (by simp)
  unfold Owned
  simpa using this

theorem made_ints (n : Nat) : (madeCells (Value.int .i64 0).cells (n * 1)).toList = (List.replicate n (0 : Int)).map (Value.int .i64) := by
  rw [show (Value.int IntKind.i64 0).cells = #[Value.int .i64 0] from rfl, Nat.mul_one, toList_madeCells_one, List.map_replicate]

/-- make([]int, n). -/
theorem wpList_make_ints {ops : Array Oper} {rest : List Oper} {o : Oper} {a : Act} {Q : Exit → Act → World → Prop} (w : World) (hg : o.guard = none) (l c : Operand) (hop : o.op = Op.makeSlice 36 l c)
    (kl kc : IntKind) (n : Nat) (hl : a.eval l = .int kl n) (hc : a.eval c = .int kc n) (hn : n ≤ 17592186044416)
    (hK : ∀ w', Owned w' w.heap.size (.slice (some ⟨w.heap.size, 0, none⟩) n n) (List.replicate n 0) → Below w.heap.size w w' → wpList Try.prog ops Q rest (a.put o.dst (.slice (some ⟨w.heap.size, 0, none⟩) n n)) w') :
    wpList Try.prog ops Q (o :: rest) a w := by
  obtain ⟨i, hi, hz0, hz1, hz2⟩ := info_parts info3
  refine wpList_make_full w hg l c 36 hop w.heap.size 3 i _ 1 Try.underlying36 hi hz0 hz1 kl kc _ _ n hl hc rfl rfl (by rw [hz2]; omega) (by unfold maxLen; omega) (Nat.le_refl _) ?_
  intro w' h1 h2
  refine hK w' ?_ ((Below.refl _ _).grown h2 (Nat.le_refl _) (fun k hk => by cases hk))
  unfold Owned
  rw [← made_ints, List.length_replicate]
  exact h1
end Go.Proofs.Ytkkmcgapbcikiaa
end

section
/- What the rows hand over of a slice of numbers, in the words of these proofs. -/
namespace Go.Proofs.Ytkkmcgapbcikiaa
open Go.RowKit

theorem block_lt {w : World} {p : Addr} {v : Value} (h : w.cell? p = some v) : p.block < w.heap.size := by
  rcases Nat.lt_or_ge p.block w.heap.size with hlt | hge
  · exact hlt
  · unfold World.cell? at h
    rw [Array.getElem?_eq_none hge] at h
    simp at h

theorem Ints.of_in {w : World} {A : Option Addr} {n cap : Nat} {zs : List Int} (hn : n ≤ 17592186044416)
    (h : (A = none ∧ n = 0 ∧ cap = 0 ∧ zs = []) ∨
      ∃ x, A = some x ∧ n ≤ cap ∧ cap ≤ maxLen ∧ zs.length = cap ∧ (∀ i, i < zs.length → w.cell? (x.add i) = some (.int .i64 (zs.getD i 0))) ∧ ∀ n ∈ zs, (Lit.int .i64 n).wf = true) :
    Ints w A n (zs.take n) := by
  rcases h with ⟨rfl, rfl, rfl, rfl⟩ | ⟨x, rfl, h1, _, h2, hc, _⟩
  · exact ⟨rfl, by omega, fun h => absurd h (by omega)⟩
  · refine ⟨by rw [List.length_take]; omega, hn, fun h0 => ?_⟩
    obtain ⟨b, off, spot⟩ := x
    have hc0 := hc 0 (by omega)
    have hspot : spot = none := by simpa [Addr.add] using World.cell?_spot hc0
    subst hspot
    refine ⟨b, off, rfl, by have := block_lt hc0; simpa [Addr.add] using this, fun j hj => ?_⟩
    have := hc j (by omega)
    rw [show (⟨b, off, none⟩ : Addr).add j = ⟨b, off + j, none⟩ by unfold Addr.add; split <;> simp_all] at this
    rw [this]
    simp [List.getD, hj]

theorem Owned.look {w : World} {base : Nat} {v : Value} {xs : List Int} (h : Owned w base v xs) (hm : xs.length ≤ 17592186044416) : ∃ A n c, v = .slice A n c ∧ Ints w A n xs := by
  obtain ⟨A, c, rfl⟩ := h.form
  exact ⟨A, _, c, rfl, h.ints hm⟩
end Go.Proofs.Ytkkmcgapbcikiaa
end

section
/- What a well formed number is. -/
namespace Go.Proofs.Ytkkmcgapbcikiaa

theorem u64_nat {a : Int} (h : (Lit.int .u64 a).wf = true) : ∃ s : Nat, a = s ∧ s < 18446744073709551616 := by
  obtain ⟨h1, h2⟩ := (Lit.wf_int_iff _ _).1 h
  simp [IntKind.min, IntKind.max, IntKind.signed, IntKind.bits] at h1 h2
  exact ⟨a.toNat, by omega, by omega⟩
theorem u8_nat {a : Int} (h : (Lit.int .u8 a).wf = true) : ∃ s : Nat, a = s ∧ s < 256 := by
  obtain ⟨h1, h2⟩ := (Lit.wf_int_iff _ _).1 h
  simp [IntKind.min, IntKind.max, IntKind.signed, IntKind.bits] at h1 h2
  exact ⟨a.toNat, by omega, by omega⟩
theorem i64_in {a : Int} (h : (Lit.int .i64 a).wf = true) : -9223372036854775808 ≤ a ∧ a ≤ 9223372036854775807 := by
  obtain ⟨h1, h2⟩ := (Lit.wf_int_iff _ _).1 h
  simp [IntKind.min, IntKind.max, IntKind.signed, IntKind.bits] at h1 h2
  exact ⟨h1, h2⟩
end Go.Proofs.Ytkkmcgapbcikiaa
end

section
/- A slice of numbers of any kind that reads as a list. -/
namespace Go.Proofs.Ytkkmcgapbcikiaa
open Go.RowKit

/-- The slice '.slice A n _' holds the numbers xs of the kind kd, which fit it. -/
def Nums (kd : IntKind) (w : World) (A : Option Addr) (n : Nat) (xs : List Int) : Prop :=
  xs.length = n ∧ n ≤ 17592186044416 ∧ (0 < n → ∃ b off, A = some ⟨b, off, none⟩ ∧ b < w.heap.size ∧ ∀ j, j < n → w.cell? ⟨b, off + j, none⟩ = some (.int kd (xs[j]?.getD 0))) ∧
  ∀ j, j < n → (Lit.int kd (xs[j]?.getD 0)).wf = true

theorem Nums.below {kd : IntKind} {w w' : World} {A : Option Addr} {n : Nat} {xs : List Int} (h : Nums kd w A n xs) (hb : Below w.heap.size w w') : Nums kd w' A n xs :=
  ⟨h.1, h.2.1, fun hn => by
    obtain ⟨b, off, e, hlt, hc⟩ := h.2.2.1 hn
    exact ⟨b, off, e, Nat.lt_of_lt_of_le hlt hb.size, fun j hj => (hb.cell hlt).trans (hc j hj)⟩, h.2.2.2⟩

theorem Nums.at_ {kd : IntKind} {w : World} {A : Option Addr} {n : Nat} {xs : List Int} (h : Nums kd w A n xs) {k : Nat} (hk : k < n) :
    ∃ b off, A = some ⟨b, off, none⟩ ∧ b < w.heap.size ∧ w.cell? ⟨b, off + k, none⟩ = some (.int kd (xs[k]?.getD 0)) := by
  obtain ⟨b, off, e, hlt, hc⟩ := h.2.2.1 (by omega)
  exact ⟨b, off, e, hlt, hc k hk⟩

theorem Nums.of_in {kd : IntKind} {w : World} {A : Option Addr} {n cap : Nat} {zs : List Int} (hn : n ≤ 17592186044416)
    (h : (A = none ∧ n = 0 ∧ cap = 0 ∧ zs = []) ∨
      ∃ x, A = some x ∧ n ≤ cap ∧ cap ≤ maxLen ∧ zs.length = cap ∧ (∀ i, i < zs.length → w.cell? (x.add i) = some (.int kd (zs.getD i 0))) ∧ ∀ n ∈ zs, (Lit.int kd n).wf = true) :
    Nums kd w A n (zs.take n) := by
  rcases h with ⟨rfl, rfl, rfl, rfl⟩ | ⟨x, rfl, h1, _, h2, hc, hw⟩
  · exact ⟨rfl, by omega, fun h => absurd h (by omega), fun j h => absurd h (by omega)⟩
  · refine ⟨by rw [List.length_take]; omega, hn, fun h0 => ?_, fun j hj => ?_⟩
    · obtain ⟨b, off, spot⟩ := x
      have hc0 := hc 0 (by omega)
      have hspot : spot = none := by simpa [Addr.add] using World.cell?_spot hc0
      subst hspot
      refine ⟨b, off, rfl, by have := block_lt hc0; simpa [Addr.add] using this, fun j hj => ?_⟩
      have := hc j (by omega)
      rw [show (⟨b, off, none⟩ : Addr).add j = ⟨b, off + j, none⟩ by unfold Addr.add; split <;> simp_all] at this
      rw [this]
      simp [List.getD, hj]
    · apply hw
      rw [List.getElem?_take, if_pos hj, List.getElem?_eq_getElem (by omega)]
      exact List.getElem_mem _
end Go.Proofs.Ytkkmcgapbcikiaa
end

section
/- Lists of lists, and the reference's Join. -/
namespace Go.Proofs.Ytkkmcgapbcikiaa
open Go.RowKit

/-- The slice '.slice A n _' holds the lists xss. -/
def Lists (w : World) (A : Option Addr) (n : Nat) (xss : List (List Int)) : Prop :=
  xss.length = n ∧ n ≤ 17592186044416 ∧ (0 < n → ∃ b off, A = some ⟨b, off, none⟩ ∧ b < w.heap.size ∧
    ∀ j, j < n → ∃ Aj nj cj, w.cell? ⟨b, off + j, none⟩ = some (.slice Aj nj cj) ∧ Ints w Aj nj (xss.getD j []))

theorem Lists.below {w w' : World} {A : Option Addr} {n : Nat} {xss : List (List Int)} (h : Lists w A n xss) (hb : Below w.heap.size w w') : Lists w' A n xss :=
  ⟨h.1, h.2.1, fun hn => by
    obtain ⟨b, off, e, hlt, hc⟩ := h.2.2 hn
    refine ⟨b, off, e, Nat.lt_of_lt_of_le hlt hb.size, fun j hj => ?_⟩
    obtain ⟨Aj, nj, cj, h1, h2⟩ := hc j hj
    exact ⟨Aj, nj, cj, (hb.cell hlt).trans h1, h2.below hb⟩⟩

theorem Lists.at_ {w : World} {A : Option Addr} {n : Nat} {xss : List (List Int)} (h : Lists w A n xss) {k : Nat} (hk : k < n) :
    ∃ b off Aj nj cj, A = some ⟨b, off, none⟩ ∧ b < w.heap.size ∧ w.cell? ⟨b, off + k, none⟩ = some (.slice Aj nj cj) ∧ Ints w Aj nj (xss.getD k []) := by
  obtain ⟨b, off, e, hlt, hc⟩ := h.2.2 (by omega)
  obtain ⟨Aj, nj, cj, h1, h2⟩ := hc k hk
  exact ⟨b, off, Aj, nj, cj, e, hlt, h1, h2⟩

/-- The first j lists, one after the other. -/
def cat (xss : List (List Int)) (j : Nat) : List Int := (xss.take j).flatten

theorem cat_zero (xss : List (List Int)) : cat xss 0 = [] := by simp [cat]
theorem cat_succ {xss : List (List Int)} {j : Nat} (h : j < xss.length) : cat xss (j + 1) = cat xss j ++ xss.getD j [] := by
  unfold cat
  rw [List.take_succ_eq_append_getElem h, List.flatten_append]
  simp [List.getD, h]
theorem cat_all (xss : List (List Int)) : cat xss xss.length = xss.flatten := by simp [cat]
theorem cat_len (xss : List (List Int)) (j : Nat) : (cat xss j).length ≤ xss.flatten.length := by
  have h : xss.flatten = cat xss j ++ (xss.drop j).flatten := by unfold cat; rw [← List.flatten_append, List.take_append_drop]
  rw [h, List.length_append]; omega


set_option maxHeartbeats 1000000 in
theorem rjoin (A : Option Addr) (n c : Nat) (xss : List (List Int)) (w : World) (h : Lists w A n xss) (hlen : xss.flatten.length ≤ 17592186044416) :
    Calls Try.prog 49 #[.slice A n c] w fun e w' => ∃ v, e = .returned v ∧ Owned w' w.heap.size v xss.flatten ∧ Below w.heap.size w w' := by
  have L := Lib.hid h.1
  have hn := h.2.1
  have hB := Lib.hid hlen
  clear hlen
  have hall := Lib.hid (show cat xss n = xss.flatten by rw [← L.out, cat_all])
  go_enter Try.func49, Try.ntmps49
  go_wp2
  go_loopw [3, 4] (fun v i wr => ∃ k : Nat, k ≤ n ∧ i = .int .i64 k ∧ Owned wr w.heap.size v (cat xss k) ∧ Below w.heap.size w wr) (fun _ i _ => n - (intOf i).toNat)
  case atStart => exact ⟨0, Nat.zero_le _, rfl, by rw [cat_zero]; exact Owned.nil _ _, Below.refl _ _⟩
  case round =>
    obtain ⟨k, hk, rfl, hown, hbr⟩ := hrel
    by_cases hlt : k < n
    · obtain ⟨b, off, Aj, nj, cj, rfl, _, hcell, hI⟩ := (h.below hbr).at_ hlt
      have hs := Lib.hid (cat_succ (xss := xss) (j := k) (by rw [L.out]; exact hlt))
      have hb2 := Nat.le_trans (cat_len xss (k + 1)) hB.out
      rw [hs.out] at hb2
      obtain ⟨v', w', hr, ho', _, hbel'⟩ := run_append_ints _ _ _ _ _ _ _ cj hown hI hbr.size hb2
      rw [← hs.out] at ho'
      clear hb2
      go_wp2_with (at_builtin; refine Lib.wpList_append_run _ rfl _ _ _ _ rfl _ _ rfl rfl _ _ hr ?_)
      go_roundw
      case rel => exact ⟨k + 1, by omega, by go_num, ho', hbr.trans hbel'⟩
      case measure => simp [intOf]; omega
    · obtain rfl : k = n := by omega
      go_wp2
      go_ret
      exact ⟨_, rfl, by rw [← hall.out]; exact hown, hbr⟩
end Go.Proofs.Ytkkmcgapbcikiaa
end

section
/- What the rows hand over: slices of numbers, with the form's reach. -/
namespace Go.Proofs.Ytkkmcgapbcikiaa
open Go.ChangeShapes Go.WideShapes Go.ChangeAt Go.RowKit Go.Joins Go.Deep

theorem bsz {w w' : World} {o : Obj} (h : Below (w.heap.size + 1) (w.alloc o) w') : w.heap.size + 1 ≤ w'.heap.size := by have := h.size; simpa using this

section
variable {H : Type} {enc : TypeId × Value → H}

/-- A change's contract with the reach at hand. -/
theorem handed_sized {C : Checked} {os : Os} {f : FuncId} {fn : Func} {s : ChangeSpec} {conds : List PathCond} {apart fresh handsOn again : Bool}
    (own : ownKnob C.prog.godebug = none) (started : os.Started) (noInit : C.prog.inits.idxOf? f = none) (hfn : C.prog.funcs[f]? = some fn)
    (witness : ∃ (w : World) (tape : Tape) (i : Input), w.os = os ∧ (w.forCall tape i).Shaped C.prog ∧ i.vars = [] ∧ Input.okWide C.prog (w.forCall tape i) .any w.heap.size f i ∧
      s.pre6 enc C.prog fn conds apart (w.forCall tape i).memory i.args ∧ ({} : Assume).holds C.prog (lone (Frame.enter C.prog f i.args .normal) [] (w.forCall tape i)))
    (contract : ∀ (W : World) (base : Nat) (args : Array Value) (ds gs : List (DataW H)) (before : List MemPlace),
      (∀ (j : Nat) t v, fn.params[j]? = some t → args[j]? = some v → Value.okWide C.prog W .any base t v) →
      DataW.Whole enc C.prog fn.params.toList s.vars apart W args.toList ds gs before →
      (DataW.weightsEach C.prog (fn.params.toList ++ s.plain.varTypes C.prog) (ds ++ gs)).all (· ≤ reachBytes) = true →
      Calls C.prog f args W fun e W' => ∃ v, e = .returned v ∧ s.post enc C.prog fn apart fresh handsOn again W args v W') :
    ReturnsInHanded {} C os f .any (s.pre6 enc C.prog fn conds apart) (s.post enc C.prog fn apart fresh handsOn again) := by
  have e : s.pre6 enc C.prog fn conds apart = fun w args => (s.pre enc C.prog fn conds apart w args ∧ True) ∧ sizedMet enc C.prog fn (OpenSpec.ofChange s) apart w args := by
    funext w args
    unfold ChangeSpec.pre6
    rw [and_true]
  rw [e] at witness ⊢
  exact returnsInHanded_of_change_and (X := fun _ _ => True) (fun _ _ _ _ _ => trivial) own started noInit hfn witness (fun W base args ds gs before h1 h2 _ h4 _ _ => contract W base args ds gs before h1 h2 h4)

/-- What a datum weighs is within the reach. -/
def Light (P : Program) (t : TypeId) (d : DataW H) : Prop := ∀ n ∈ d.weights P t, n ≤ reachBytes
theorem light_of {P : Program} {ts : List TypeId} {ds : List (DataW H)} (h : (DataW.weightsEach P ts ds).all (· ≤ reachBytes) = true) {j : Nat} {t : TypeId} {d : DataW H} (ht : ts[j]? = some t) (hd : ds[j]? = some d) : Light P t d := fun n hn => by
  have := List.all_eq_true.1 h _ (DataW.weights_mem_each ht hd n hn)
  simpa using this

theorem add_none {b off k : Nat} : (⟨b, off, none⟩ : Addr).add k = ⟨b, off + k, none⟩ := by unfold Addr.add; split <;> simp_all
theorem reach_num : reachBytes = 140737488351232 := rfl

variable {w : World} {base : Nat} {held : Bool} {fuel : Nat} {cs : List Value} {x : DataW H × List MemPlace}

/-- A slice of ints that came in. -/
theorem open_intsw (hb3 : Try.prog.bytesOf 3 = 8) (h : DataW.trod enc Try.prog w base (fun _ => true) held fuel 36 cs = some x) (hl : Light Try.prog 36 x.1) :
    ∃ A n c zs, cs = [.slice A n c] ∧ n ≤ c ∧ Ints w A n zs ∧ (∀ z, z ∈ zs → (Lit.int .i64 z).wf = true) := by
  rcases open_ints Try.underlying36 Try.underlying3 (by kernel_rfl) h with ⟨hcs, hx⟩ | ⟨a, l, c, zs, hcs, _, hlc, hm, hz, hx, hcell, hwz⟩
  · exact ⟨none, 0, 0, [], hcs, Nat.le_refl _, ⟨rfl, by omega, fun h => absurd h (by omega)⟩, by simp⟩
  · simp only [if_true] at hz
    subst hx
    have := hl (((lits (H := H) .i64 (zs.take l)).length + (lits (H := H) .i64 (zs.drop l)).length) * 8) (by simp [DataW.weights, Try.underlying36, hb3])
    rw [reach_num] at this
    simp only [lits, List.length_map, List.length_take, List.length_drop] at this
    have hb : l ≤ 17592186044416 := by omega
    exact ⟨some a, l, c, zs.take l, hcs, hlc, Ints.of_in (cap := c) hb (.inr ⟨a, rfl, hlc, hm, hz, hcell, hwz⟩), fun z hz => hwz z (List.mem_of_mem_take hz)⟩

theorem weightsAll_mem {P : Program} {e : TypeId} : ∀ {l : List (DataW H)} {d : DataW H} {n : Nat}, d ∈ l → n ∈ d.weights P e → n ∈ DataW.weightsAll P e l
  | [], _, _, h, _ => absurd h (by simp)
  | d0 :: l, d, n, h, hn => by
    rw [DataW.weightsAll, List.mem_append]
    rcases List.mem_cons.1 h with e | h
    · subst e; exact .inl hn
    · exact .inr (weightsAll_mem h hn)
end
end Go.Proofs.Ytkkmcgapbcikiaa
end

section
/- What the rows hand over: slices of lists, machines, with the form's reach. -/
namespace Go.Proofs.Ytkkmcgapbcikiaa
open Go.ChangeShapes Go.WideShapes Go.ChangeAt Go.RowKit Go.Joins Go.Deep

section
variable {H : Type} {enc : TypeId × Value → H} {w : World} {base : Nat} {held : Bool} {fuel : Nat} {cs : List Value} {x : DataW H × List MemPlace}

/-- A slice of slices of ints that came in. -/
theorem open_lists (hb3 : Try.prog.bytesOf 3 = 8) (hb4 : Try.prog.bytesOf 36 = 24) (h : DataW.trod enc Try.prog w base (fun _ => true) held fuel 54 cs = some x) (hl : Light Try.prog 54 x.1) :
    ∃ A n c xss, cs = [.slice A n c] ∧ n ≤ c ∧ Lists w A n xss := by
  rcases open_int_rows Try.underlying54 Try.underlying36 Try.underlying3 (by kernel_rfl) (by kernel_rfl) h with ⟨hcs, hx⟩ | ⟨a, l, c, A, L, C, Z, hcs, _, hlc, hm, hx, hcell⟩
  · exact ⟨none, 0, 0, [], hcs, Nat.le_refl _, ⟨rfl, by omega, fun h => absurd h (by omega)⟩⟩
  · subst hx
    refine ⟨some a, l, c, (List.range l).map fun r => (Z r).take (L r), hcs, hlc, by simp, ?_, fun h0 => ?_⟩
    · have := hl ((((List.range l).map fun r => intRow (H := H) .i64 (A r) (L r) (Z r)).length + ((List.range (c - l)).map fun j => intRow (H := H) .i64 (A (l + j)) (L (l + j)) (Z (l + j))).length) * 24) (by simp [DataW.weights, Try.underlying54, hb4])
      rw [reach_num] at this
      simp only [List.length_map, List.length_range] at this
      omega
    · obtain ⟨b, off, spot⟩ := a
      have hc0 := (hcell 0 (by omega)).1
      have hspot : spot = none := by simpa [Addr.add] using World.cell?_spot hc0
      subst hspot
      refine ⟨b, off, rfl, by have := block_lt hc0; simpa [Addr.add] using this, fun j hj => ?_⟩
      obtain ⟨h1, h2, h3, h4, h5, h6, h7⟩ := hcell j (by omega)
      have e : ((List.range l).map fun r => (Z r).take (L r)).getD j [] = (Z j).take (L j) := by simp [List.getD, hj]
      rw [add_none] at h1
      refine ⟨A j, L j, C j, h1, ?_⟩
      rw [e]
      cases hA : A j with
      | none =>
        have hC := h6 hA
        exact Ints.of_in (cap := C j) (by omega) (.inl ⟨rfl, by omega, hC, List.eq_nil_of_length_eq_zero (by omega)⟩)
      | some y =>
        have hw : Light Try.prog 36 (intRow (H := H) .i64 (A j) (L j) (Z j)) := fun n hn => hl n (by
          simp only [DataW.weights, Try.underlying54]
          exact List.mem_cons_of_mem _ (List.mem_append_left _ (weightsAll_mem (List.mem_map.2 ⟨j, List.mem_range.2 hj, rfl⟩) hn)))
        rw [hA] at hw
        have := hw (((lits (H := H) .i64 ((Z j).take (L j))).length + (lits (H := H) .i64 ((Z j).drop (L j))).length) * 8) (by simp [intRow, DataW.weights, Try.underlying36, hb3])
        rw [reach_num] at this
        simp only [lits, List.length_map, List.length_take, List.length_drop] at this
        exact Ints.of_in (cap := C j) (by omega) (.inr ⟨y, rfl, h2, h3, h4, fun i hi => (h7 y hA).2 i (by omega), h5⟩)

theorem cells_mealy : Try.prog.cellsOf 56 = 4 := by kernel_rfl
set_option maxRecDepth 100000 in
/-- A machine that came in. -/
theorem open_mealy (hb3 : Try.prog.bytesOf 3 = 8) (hb4 : Try.prog.bytesOf 36 = 24) {r : Reach} {b0 : Nat} {v : Value} {d : DataW H} {p : List MemPlace} (hv : Value.okWide Try.prog w r b0 56 v) (h : DataW.Trod enc Try.prog w base (fun _ => true) held 56 v d p) (hl : Light Try.prog 56 d) :
    ∃ i st A n c B m e nx ot, v = .agg #[.int .i64 i, .int .i64 st, .slice A n c, .slice B m e] ∧ Lists w A n nx ∧ Lists w B m ot ∧ (Lit.int .i64 i).wf = true ∧ (Lit.int .i64 st).wf = true := by
  obtain ⟨c0, c1, c2, c3, y0, y1, y2, y3, f, rfl, hd, _, h0, h1, h2, h3⟩ := open_agg4 Try.underlying56 (by kernel_rfl) cells_mealy hv h
  obtain ⟨i, e0, _, w0⟩ := DataW.trod_int Try.underlying3 h0
  obtain ⟨st, e1, _, w1⟩ := DataW.trod_int Try.underlying3 h1
  subst hd
  have hw : ∀ n, n ∈ y2.1.weights Try.prog 54 ∨ n ∈ y3.1.weights Try.prog 54 → n ≤ reachBytes := fun n hn => hl n (by
    simp only [DataW.weights, Try.underlying56]
    rcases hn with hn | hn
    · exact DataW.weights_mem_each (j := 2) rfl rfl n hn
    · exact DataW.weights_mem_each (j := 3) rfl rfl n hn)
  obtain ⟨A, n, c, nx, e2, _, l2⟩ := open_lists hb3 hb4 h2 (fun n hn => hw n (.inl hn))
  obtain ⟨B, m, e, ot, e3, _, l3⟩ := open_lists hb3 hb4 h3 (fun n hn => hw n (.inr hn))
  simp at e0 e1 e2 e3
  subst e0 e1 e2 e3
  exact ⟨i, st, A, n, c, B, m, e, nx, ot, rfl, l2, l3, w0, w1⟩
end
end Go.Proofs.Ytkkmcgapbcikiaa
end

section

/- Plain functions on lists of numbers: the longest common beginning, both orders. No program. -/
namespace Go.Proofs.Ytkkmcgapbcikiaa

/-- The length of the longest list that begins both. -/
def cmn : List Int → List Int → Nat
  | a :: as1, b :: bs => if a = b then cmn as1 bs + 1 else 0
  | _, _ => 0

theorem cmn_le_left (xs ys : List Int) : cmn xs ys ≤ xs.length := by
  induction xs generalizing ys with
  | nil => simp [cmn]
  | cons a as1 ih =>
    cases ys with
    | nil => simp [cmn]
    | cons b bs =>
      rw [cmn]
      split
      · have := ih bs; simp; omega
      · omega

theorem cmn_comm (xs ys : List Int) : cmn xs ys = cmn ys xs := by
  induction xs generalizing ys with
  | nil => cases ys <;> simp [cmn]
  | cons a as1 ih =>
    cases ys with
    | nil => simp [cmn]
    | cons b bs =>
      rw [cmn, cmn, ih bs]
      by_cases h : a = b
      · rw [if_pos h, if_pos h.symm]
      · rw [if_neg h, if_neg fun e => h e.symm]

theorem cmn_le_right (xs ys : List Int) : cmn xs ys ≤ ys.length := by rw [cmn_comm]; exact cmn_le_left ys xs

/-- The first j numbers of both are the same. -/
def Agree (xs ys : List Int) (j : Nat) : Prop := ∀ m, m < j → xs.getD m 0 = ys.getD m 0

theorem Agree.zero (xs ys : List Int) : Agree xs ys 0 := fun m hm => absurd hm (by omega)
theorem Agree.succ {xs ys : List Int} {j : Nat} (h : Agree xs ys j) (e : xs.getD j 0 = ys.getD j 0) : Agree xs ys (j + 1) := fun m hm => by
  by_cases h' : m = j
  · subst h'; exact e
  · exact h m (by omega)

theorem cmn_agree (xs ys : List Int) : Agree xs ys (cmn xs ys) := by
  induction xs generalizing ys with
  | nil => simp [cmn, Agree.zero]
  | cons a as1 ih =>
    cases ys with
    | nil => simp [cmn, Agree.zero]
    | cons b bs =>
      rw [cmn]
      split
      · rename_i h
        intro m hm
        cases m with
        | zero => simpa using h
        | succ m => simpa using ih bs m (by omega)
      · exact Agree.zero _ _

theorem cmn_part (xs ys : List Int) (h1 : cmn xs ys < xs.length) (h2 : cmn xs ys < ys.length) : xs.getD (cmn xs ys) 0 ≠ ys.getD (cmn xs ys) 0 := by
  induction xs generalizing ys with
  | nil => simp at h1
  | cons a as1 ih =>
    cases ys with
    | nil => simp at h2
    | cons b bs =>
      rw [cmn] at h1 h2 ⊢
      split
      · rename_i h
        rw [if_pos h] at h1 h2
        simpa using ih bs (by simpa using h1) (by simpa using h2)
      · rename_i h; simpa using h

theorem cmn_eq {xs ys : List Int} {j : Nat} (h1 : j ≤ xs.length) (h2 : j ≤ ys.length) (ha : Agree xs ys j) (he : j = xs.length ∨ j = ys.length ∨ xs.getD j 0 ≠ ys.getD j 0) : cmn xs ys = j := by
  have l1 := cmn_le_left xs ys
  have l2 := cmn_le_right xs ys
  rcases Nat.lt_trichotomy (cmn xs ys) j with h | h | h
  · exact absurd (ha _ h) (cmn_part xs ys (by omega) (by omega))
  · exact h
  · rcases he with e | e | e
    · omega
    · omega
    · exact absurd (cmn_agree xs ys j h) e

/-- Dictionary order. -/
def lexi (xs ys : List Int) : Int :=
  if cmn xs ys = xs.length ∧ cmn xs ys = ys.length then 0
  else if cmn xs ys = xs.length ∨ (cmn xs ys < ys.length ∧ xs.getD (cmn xs ys) 0 < ys.getD (cmn xs ys) 0) then -1 else 1

/-- The order of two numbers. -/
def cmpI (a b : Int) : Int := if a < b then -1 else if b < a then 1 else 0

/-- Shortlex order. -/
def shlex (xs ys : List Int) : Int :=
  if xs.length < ys.length then -1 else if ys.length < xs.length then 1 else lexi xs ys

theorem lexi_of {xs ys : List Int} {j : Nat} (h1 : j < xs.length) (h2 : j < ys.length) (ha : Agree xs ys j) (he : xs.getD j 0 ≠ ys.getD j 0) : lexi xs ys = cmpI (xs.getD j 0) (ys.getD j 0) := by
  have e := cmn_eq (by omega) (by omega) ha (.inr (.inr he))
  unfold lexi cmpI
  rw [e, if_neg (by omega)]
  by_cases h : xs.getD j 0 < ys.getD j 0
  · rw [if_pos (.inr ⟨h2, h⟩), if_pos h]
  · rw [if_neg (by omega), if_neg h, if_pos (by omega)]

theorem lexi_long {xs ys : List Int} (h : ys.length < xs.length) (ha : Agree xs ys ys.length) : lexi xs ys = 1 := by
  have e := cmn_eq (j := ys.length) (by omega) (by omega) ha (.inr (.inl rfl))
  unfold lexi
  rw [e, if_neg (by omega), if_neg (by omega)]

theorem lexi_short {xs ys : List Int} (h : xs.length < ys.length) (ha : Agree xs ys xs.length) : lexi xs ys = -1 := by
  have e := cmn_eq (j := xs.length) (by omega) (by omega) ha (.inl rfl)
  unfold lexi
  rw [e, if_neg (by omega), if_pos (.inl rfl)]

theorem lexi_same {xs ys : List Int} (h : xs.length = ys.length) (ha : Agree xs ys xs.length) : lexi xs ys = 0 := by
  have e := cmn_eq (j := xs.length) (by omega) (by omega) ha (.inl rfl)
  unfold lexi
  rw [e, if_pos ⟨rfl, h⟩]

theorem cmn_full {xs ys : List Int} (h : xs.length = ys.length) : cmn xs ys = xs.length ↔ xs = ys := by
  constructor
  · intro e
    have ha := cmn_agree xs ys
    rw [e] at ha
    apply List.ext_getElem h
    intro m h1 h2
    have := ha m h1
    simpa [List.getD, h1, h2] using this
  · rintro rfl
    exact cmn_eq (Nat.le_refl _) (Nat.le_refl _) (fun _ _ => rfl) (.inl rfl)
end Go.Proofs.Ytkkmcgapbcikiaa
end

section
/- Plain: both orders are total orders. No program. -/
namespace Go.Proofs.Ytkkmcgapbcikiaa

/-- Dictionary order, symbol by symbol. -/
def lexR : List Int → List Int → Int
  | [], [] => 0
  | [], _ :: _ => -1
  | _ :: _, [] => 1
  | a :: as1, b :: bs => if a < b then -1 else if b < a then 1 else lexR as1 bs

theorem lexi_lexR (xs ys : List Int) : lexi xs ys = lexR xs ys := by
  induction xs generalizing ys with
  | nil => cases ys <;> simp [lexi, lexR, cmn]
  | cons a as1 ih =>
    cases ys with
    | nil => simp [lexi, lexR, cmn]
    | cons b bs =>
      have h := ih bs
      unfold lexi at h ⊢
      rw [lexR, cmn]
      by_cases e : a = b
      · subst e
        rw [if_pos rfl, if_neg (Int.lt_irrefl a), if_neg (Int.lt_irrefl a), ← h]
        simp
      · rw [if_neg e]
        simp only [List.length_cons]
        rw [if_neg (by omega)]
        by_cases h1 : a < b
        · rw [if_pos h1, if_pos (by simp [h1])]
        · have h2 : b < a := by omega
          simp [h1, h2]

theorem lexR_bd (xs ys : List Int) : -1 ≤ lexR xs ys ∧ lexR xs ys ≤ 1 := by
  induction xs generalizing ys with
  | nil => cases ys <;> simp [lexR]
  | cons a as1 ih =>
    cases ys with
    | nil => simp [lexR]
    | cons b bs =>
      rw [lexR]
      split
      · omega
      · split
        · omega
        · exact ih bs

theorem lexR_neg (xs ys : List Int) : lexR ys xs = - lexR xs ys := by
  induction xs generalizing ys with
  | nil => cases ys <;> simp [lexR]
  | cons a as1 ih =>
    cases ys with
    | nil => simp [lexR]
    | cons b bs =>
      rw [lexR, lexR]
      by_cases h1 : a < b
      · rw [if_neg (by omega), if_pos h1, if_pos h1]; rfl
      · by_cases h2 : b < a
        · rw [if_pos h2, if_neg h1, if_pos h2]
        · rw [if_neg h2, if_neg h1, if_neg h1, if_neg h2, ih bs]

theorem lexR_zero (xs ys : List Int) : lexR xs ys = 0 ↔ xs = ys := by
  induction xs generalizing ys with
  | nil => cases ys <;> simp [lexR]
  | cons a as1 ih =>
    cases ys with
    | nil => simp [lexR]
    | cons b bs =>
      rw [lexR]
      by_cases h1 : a < b
      · rw [if_pos h1]; constructor; (intro h; omega); (intro h; cases h; omega)
      · by_cases h2 : b < a
        · rw [if_neg h1, if_pos h2]; constructor; (intro h; omega); (intro h; cases h; omega)
        · rw [if_neg h1, if_neg h2, ih bs]
          have : a = b := by omega
          simp [this]

theorem lexR_trans (xs ys zs : List Int) : (lexR xs ys ≤ 0 → lexR ys zs ≤ 0 → lexR xs zs ≤ 0) ∧ (lexR xs ys < 0 → lexR ys zs ≤ 0 → lexR xs zs < 0) := by
  induction xs generalizing ys zs with
  | nil => cases ys <;> cases zs <;> simp [lexR]
  | cons a as1 ih =>
    cases ys with
    | nil => simp [lexR]
    | cons b bs =>
      cases zs with
      | nil => simp [lexR]
      | cons c cs =>
        have := ih bs cs
        rw [lexR, lexR, lexR]
        repeat' split
        all_goals omega

theorem lexR_join (cs xs ys : List Int) : lexR (cs ++ xs) (cs ++ ys) = lexR xs ys := by
  induction cs with
  | nil => rfl
  | cons c cs ih => rw [List.cons_append, List.cons_append, lexR, if_neg (Int.lt_irrefl c), if_neg (Int.lt_irrefl c), ih]

theorem shlex_def (xs ys : List Int) : shlex xs ys = if xs.length < ys.length then -1 else if ys.length < xs.length then 1 else lexR xs ys := by
  unfold shlex; rw [lexi_lexR]

theorem shlex_bd (xs ys : List Int) : -1 ≤ shlex xs ys ∧ shlex xs ys ≤ 1 := by
  have := lexR_bd xs ys
  rw [shlex_def]; split; omega; split; omega; omega

theorem shlex_neg (xs ys : List Int) : shlex ys xs = - shlex xs ys := by
  rw [shlex_def, shlex_def, lexR_neg xs ys]
  by_cases h1 : xs.length < ys.length
  · rw [if_neg (by omega), if_pos h1, if_pos h1]; rfl
  · by_cases h2 : ys.length < xs.length
    · rw [if_pos h2, if_neg h1, if_pos h2]
    · rw [if_neg h2, if_neg h1, if_neg h1, if_neg h2]

theorem shlex_zero (xs ys : List Int) : shlex xs ys = 0 ↔ xs = ys := by
  rw [shlex_def]
  by_cases h1 : xs.length < ys.length
  · rw [if_pos h1]; constructor; (intro h; omega); (intro h; subst h; omega)
  · by_cases h2 : ys.length < xs.length
    · rw [if_neg h1, if_pos h2]; constructor; (intro h; omega); (intro h; subst h; omega)
    · rw [if_neg h1, if_neg h2, lexR_zero]

theorem shlex_trans (xs ys zs : List Int) : (shlex xs ys ≤ 0 → shlex ys zs ≤ 0 → shlex xs zs ≤ 0) ∧ (shlex xs ys < 0 → shlex ys zs ≤ 0 → shlex xs zs < 0) := by
  have := lexR_trans xs ys zs
  rw [shlex_def, shlex_def, shlex_def]
  repeat' split
  all_goals omega

theorem shlex_join (cs xs ys : List Int) : shlex (cs ++ xs) (cs ++ ys) = shlex xs ys := by
  rw [shlex_def, shlex_def, lexR_join, List.length_append, List.length_append]
  by_cases h1 : xs.length < ys.length
  · rw [if_pos (by omega), if_pos h1]
  · by_cases h2 : ys.length < xs.length
    · rw [if_neg (by omega), if_pos (by omega), if_neg h1, if_pos h2]
    · rw [if_neg (by omega), if_neg (by omega), if_neg h1, if_neg h2]

theorem lexR_prefix (xs ys : List Int) (h : cmn xs ys = ys.length) : 0 ≤ lexR xs ys := by
  rw [← lexi_lexR]
  have := cmn_le_left xs ys
  unfold lexi
  split
  · omega
  · rw [if_neg (by omega)]; omega

theorem shlex_prefix (xs ys : List Int) (h : cmn xs ys = ys.length) : 0 ≤ shlex xs ys := by
  have h1 := lexR_prefix xs ys h
  have := cmn_le_left xs ys
  rw [shlex_def, if_neg (by omega)]
  split <;> omega
end Go.Proofs.Ytkkmcgapbcikiaa
end

section
/- Sets of words: the sorted list of the different words of a list. No program. -/
namespace Go.Proofs.Ytkkmcgapbcikiaa

/-- Ascending by shortlex order. -/
def AscW (l : List (List Int)) : Prop := l.Pairwise fun x y => shlex x y < 0
theorem shlex_lt_trans {x y z : List Int} (h1 : shlex x y < 0) (h2 : shlex y z < 0) : shlex x z < 0 := (shlex_trans x y z).2 h1 (Int.le_of_lt h2)
theorem shlex_irr (x : List Int) : shlex x x = 0 := (shlex_zero x x).2 rfl
theorem shlex_gt' {x y : List Int} (h : ¬ shlex x y < 0) (hne : x ≠ y) : shlex y x < 0 := by
  have h1 := shlex_neg x y
  have h2 : shlex x y ≠ 0 := fun e => hne ((shlex_zero x y).1 e)
  omega

/-- Two ascending lists with the same words are one. -/
theorem ascW_eq {xs ys : List (List Int)} (hx : AscW xs) (hy : AscW ys) (h : ∀ x, x ∈ xs ↔ x ∈ ys) : xs = ys := by
  induction xs generalizing ys with
  | nil =>
    cases ys with
    | nil => rfl
    | cons y ys => exact absurd ((h y).2 List.mem_cons_self) (by simp)
  | cons x xs ih =>
    cases ys with
    | nil => exact absurd ((h x).1 List.mem_cons_self) (by simp)
    | cons y ys =>
      have hx' := List.pairwise_cons.1 hx
      have hy' := List.pairwise_cons.1 hy
      have irr : ∀ a b : List Int, shlex a b < 0 → shlex b a < 0 → False := fun a b h1 h2 => by have := shlex_neg a b; omega
      have irr0 : ∀ a : List Int, ¬ shlex a a < 0 := fun a h1 => by have := shlex_irr a; omega
      have e : x = y := by
        rcases List.mem_cons.1 ((h x).1 List.mem_cons_self) with e | e
        · exact e
        · rcases List.mem_cons.1 ((h y).2 List.mem_cons_self) with e2 | e2
          · exact e2.symm
          · exact (irr _ _ (hy'.1 x e) (hx'.1 y e2)).elim
      subst e
      congr 1
      refine ih hx'.2 hy'.2 fun z => ⟨fun k => ?_, fun k => ?_⟩
      · rcases List.mem_cons.1 ((h z).1 (List.mem_cons_of_mem _ k)) with e | e
        · exact (irr0 x (e ▸ hx'.1 z k)).elim
        · exact e
      · rcases List.mem_cons.1 ((h z).2 (List.mem_cons_of_mem _ k)) with e | e
        · exact (irr0 x (e ▸ hy'.1 z k)).elim
        · exact e

/-- A word put into a sorted list. -/
def wins : List (List Int) → List Int → List (List Int)
  | [], v => [v]
  | x :: l, v => if shlex x v < 0 then x :: wins l v else if x = v then x :: l else v :: x :: l
theorem wins_mem (l : List (List Int)) (v x : List Int) : x ∈ wins l v ↔ x = v ∨ x ∈ l := by
  induction l with
  | nil => simp [wins]
  | cons y l ih =>
    unfold wins
    split
    · rw [List.mem_cons, ih, List.mem_cons]; exact ⟨fun h => h.elim (fun h => .inr (.inl h)) (fun h => h.elim .inl fun h => .inr (.inr h)), fun h => h.elim (fun h => .inr (.inl h)) fun h => h.elim .inl fun h => .inr (.inr h)⟩
    · split
      · rename_i e
        subst e
        exact ⟨.inr, fun h => h.elim (fun h => h ▸ List.mem_cons_self) id⟩
      · simp
theorem wins_asc {l : List (List Int)} {v : List Int} (h : AscW l) : AscW (wins l v) := by
  induction l with
  | nil => simp [wins, AscW]
  | cons y l ih =>
    have h' := List.pairwise_cons.1 h
    unfold wins
    split
    · rename_i hlt
      refine List.pairwise_cons.2 ⟨fun x hx => ?_, ih h'.2⟩
      rcases (wins_mem l v x).1 hx with rfl | hx
      · exact hlt
      · exact h'.1 x hx
    · split
      · exact h
      · rename_i hlt hne
        have hlt2 := shlex_gt' hlt hne
        refine List.pairwise_cons.2 ⟨fun x hx => ?_, h⟩
        rcases List.mem_cons.1 hx with rfl | hx
        · exact hlt2
        · exact shlex_lt_trans hlt2 (h'.1 x hx)

/-- The sorted list of the different words. -/
def swA : List (List Int) → List (List Int) → List (List Int)
  | [], acc => acc
  | x :: r, acc => swA r (wins acc x)
def sw (l : List (List Int)) : List (List Int) := swA l []
theorem swA_asc {l acc : List (List Int)} (h : AscW acc) : AscW (swA l acc) := by
  induction l generalizing acc with
  | nil => exact h
  | cons x l ih => exact ih (wins_asc h)
theorem swA_mem (l acc : List (List Int)) (x : List Int) : x ∈ swA l acc ↔ x ∈ acc ∨ x ∈ l := by
  induction l generalizing acc with
  | nil => simp [swA]
  | cons y l ih =>
    show x ∈ swA l (wins acc y) ↔ _
    rw [ih, wins_mem, List.mem_cons]
    exact ⟨fun h => h.elim (fun h => h.elim (fun h => .inr (.inl h)) .inl) (fun h => .inr (.inr h)), fun h => h.elim (fun h => .inl (.inr h)) fun h => h.elim (fun h => .inl (.inl h)) .inr⟩
theorem sw_asc (l : List (List Int)) : AscW (sw l) := swA_asc List.Pairwise.nil
theorem sw_mem (l : List (List Int)) (x : List Int) : x ∈ sw l ↔ x ∈ l := by unfold sw; rw [swA_mem]; simp
theorem sw_eq {l out : List (List Int)} (h : AscW out) (hm : ∀ x, x ∈ out ↔ x ∈ l) : out = sw l := ascW_eq h (sw_asc l) fun x => (hm x).trans (sw_mem l x).symm
theorem sw_same {l m : List (List Int)} (h : ∀ x, x ∈ l ↔ x ∈ m) : sw l = sw m := sw_eq (sw_asc l) fun x => (sw_mem l x).trans (h x)
theorem sw_sw (l : List (List Int)) : sw (sw l) = sw l := sw_same (sw_mem l)
theorem sw_self {l : List (List Int)} (h : AscW l) : sw l = l := (sw_eq h fun _ => Iff.rfl).symm
theorem swA_drop {l : List (List Int)} {j : Nat} (h : j < l.length) (acc : List (List Int)) : swA (l.drop j) acc = swA (l.drop (j + 1)) (wins acc (l.getD j [])) := by
  rw [List.drop_eq_getElem_cons h, List.getD_eq_getElem?_getD, List.getElem?_eq_getElem h]; rfl
theorem wins_len (l : List (List Int)) (v : List Int) : (wins l v).length ≤ l.length + 1 := by
  induction l with
  | nil => simp [wins]
  | cons x l ih =>
    unfold wins
    split
    · simp; exact ih
    · split <;> simp
theorem swA_len (l acc : List (List Int)) : (swA l acc).length ≤ acc.length + l.length := by
  induction l generalizing acc with
  | nil => exact Nat.le_refl _
  | cons x l ih =>
    have h1 := ih (wins acc x)
    have h2 := wins_len acc x
    show (swA l (wins acc x)).length ≤ _
    rw [List.length_cons]; omega
theorem sw_len (l : List (List Int)) : (sw l).length ≤ l.length := by have := swA_len l []; simpa [sw] using this
end Go.Proofs.Ytkkmcgapbcikiaa
end

section
/- Sets of words in dictionary order: all prefixes, the maximal words. No program. -/
namespace Go.Proofs.Ytkkmcgapbcikiaa

theorem cmn_mono {a b c : List Int} (h1 : lexR a b ≤ 0) (h2 : lexR b c ≤ 0) : cmn a c ≤ cmn b c ∧ cmn a c ≤ cmn a b := by
  induction a generalizing b c with
  | nil => simp [cmn]
  | cons x as1 ih =>
    cases c with
    | nil => simp [cmn]
    | cons z cs =>
      cases b with
      | nil => simp [lexR] at h1
      | cons y bs =>
        rw [lexR] at h1 h2
        rw [cmn, cmn, cmn]
        by_cases hxz : x = z
        · subst hxz
          have hyx : ¬ y < x := by intro h; rw [if_neg (by omega), if_pos h] at h1; omega
          have hxy : ¬ x < y := by intro h; rw [if_neg (by omega), if_pos h] at h2; omega
          have e : x = y := by omega
          subst e
          rw [if_neg (Int.lt_irrefl _), if_neg (Int.lt_irrefl _)] at h1 h2
          have := ih h1 h2
          simp only [if_true]
          omega
        · rw [if_neg hxz]; omega

theorem pre_cmn {x y : List Int} : x <+: y ↔ cmn x y = x.length := by
  induction x generalizing y with
  | nil => simp [cmn]
  | cons a as1 ih =>
    cases y with
    | nil => simp [cmn]
    | cons b bs =>
      rw [cmn, List.cons_prefix_cons, ih]
      by_cases h : a = b
      · simp [h]
      · rw [if_neg h]; simp [h]
theorem pre_cmn' {x y : List Int} : x <+: y ↔ cmn y x = x.length := by rw [cmn_comm]; exact pre_cmn
theorem pre_lex {x y : List Int} (h : x <+: y) (hne : x ≠ y) : lexR x y < 0 := by
  induction x generalizing y with
  | nil =>
    cases y with
    | nil => exact absurd rfl hne
    | cons b bs => simp [lexR]
  | cons a as1 ih =>
    cases y with
    | nil => simp at h
    | cons b bs =>
      rw [List.cons_prefix_cons] at h
      obtain ⟨rfl, h⟩ := h
      rw [lexR, if_neg (Int.lt_irrefl _), if_neg (Int.lt_irrefl _)]
      exact ih h fun e => hne (by rw [e])
theorem pre_min {x a b : List Int} (h1 : x <+: a) (h2 : x <+: b) : x.length ≤ cmn a b := by
  induction x generalizing a b with
  | nil => simp
  | cons z zs ih =>
    cases a with
    | nil => simp at h1
    | cons p as1 =>
      cases b with
      | nil => simp at h2
      | cons q bs =>
        rw [List.cons_prefix_cons] at h1 h2
        obtain ⟨rfl, h1⟩ := h1
        obtain ⟨rfl, h2⟩ := h2
        rw [cmn, if_pos rfl]
        have := ih h1 h2
        simp; omega
theorem pre_take {x y : List Int} {n : Nat} (h : n ≤ cmn x y) : x.take n <+: y := by
  induction n generalizing x y with
  | zero => simp
  | succ n ih =>
    cases x with
    | nil => simp
    | cons a as1 =>
      cases y with
      | nil => simp [cmn] at h
      | cons b bs =>
        rw [cmn] at h
        by_cases e : a = b
        · subst e
          rw [if_pos rfl] at h
          rw [List.take_succ_cons, List.cons_prefix_cons]
          exact ⟨rfl, ih (by omega)⟩
        · rw [if_neg e] at h; omega

/-- Ascending in dictionary order. -/
def AscL (l : List (List Int)) : Prop := l.Pairwise fun x y => lexR x y < 0
theorem AscL.at_ {l : List (List Int)} (h : AscL l) {i j : Nat} (hij : i < j) (hj : j < l.length) : lexR (l.getD i []) (l.getD j []) < 0 := by
  have := List.pairwise_iff_getElem.1 h i j (by omega) hj hij
  simpa [List.getD, List.getElem?_eq_getElem hj, List.getElem?_eq_getElem (show i < l.length by omega)] using this
theorem lexR_irr (x : List Int) : lexR x x = 0 := (lexR_zero x x).2 rfl
theorem AscL.nodup {l : List (List Int)} (h : AscL l) : l.Nodup := List.Pairwise.imp (fun {a b} h e => by subst e; have := lexR_irr a; omega) h
theorem AscW.nodup {l : List (List Int)} (h : AscW l) : l.Nodup := List.Pairwise.imp (fun {a b} h e => by subst e; have := shlex_irr a; omega) h

/-- The prefixes of w with a to b - 1 symbols. -/
def tks (w : List Int) (a b : Nat) : List (List Int) := (List.range' a (b - a)).map fun n => w.take n
theorem tks_none (w : List Int) (a : Nat) : tks w a a = [] := by simp [tks]
theorem tks_succ (w : List Int) {a b : Nat} (h : a ≤ b) : tks w a (b + 1) = tks w a b ++ [w.take b] := by
  unfold tks
  rw [show b + 1 - a = (b - a) + 1 by omega, List.range'_concat, List.map_append]
  simp
  congr 1; omega
theorem tks_len (w : List Int) (a b : Nat) : (tks w a b).length = b - a := by simp [tks]
theorem tks_mem {w x : List Int} {a b : Nat} (hb : b ≤ w.length + 1) : x ∈ tks w a b ↔ x <+: w ∧ a ≤ x.length ∧ x.length < b := by
  unfold tks
  rw [List.mem_map]
  constructor
  · rintro ⟨n, hn, rfl⟩
    rw [List.mem_range'_1] at hn
    refine ⟨List.take_prefix _ _, ?_, ?_⟩ <;> rw [List.length_take] <;> omega
  · rintro ⟨h, h1, h2⟩
    exact ⟨x.length, by rw [List.mem_range'_1]; omega, (List.prefix_iff_eq_take.1 h).symm⟩
theorem tks_nodup {w : List Int} {a b : Nat} (hb : b ≤ w.length + 1) : (tks w a b).Nodup := by
  induction b with
  | zero => simp [tks]
  | succ b ih =>
    by_cases h : a ≤ b
    · rw [tks_succ w h]
      refine List.nodup_append.2 ⟨ih (by omega), by simp, fun x hx y hy e => ?_⟩
      rw [List.mem_singleton] at hy
      subst e
      rw [tks_mem (by omega)] at hx
      have : x.length = b := by rw [hy, List.length_take]; omega
      omega
    · have : tks w a (b + 1) = [] := by unfold tks; rw [show b + 1 - a = 0 by omega]; rfl
      rw [this]; simp

/-- The first length of a prefix of the word i that no earlier word has. -/
def pf (ws : List (List Int)) (i : Nat) : Nat := if i = 0 then 0 else cmn (ws.getD (i - 1) []) (ws.getD i []) + 1
/-- The prefixes that the first i words bring. -/
def prU (ws : List (List Int)) : Nat → List (List Int)
  | 0 => []
  | i + 1 => prU ws i ++ tks (ws.getD i []) (pf ws i) ((ws.getD i []).length + 1)
theorem pf_le (ws : List (List Int)) (i : Nat) : pf ws i ≤ (ws.getD i []).length + 1 := by
  unfold pf
  split
  · omega
  · have := cmn_le_right (ws.getD (i - 1) []) (ws.getD i []); omega
theorem prU_mem {ws : List (List Int)} (i : Nat) (x : List Int) : x ∈ prU ws i ↔ ∃ j, j < i ∧ x <+: ws.getD j [] := by
  induction i generalizing x with
  | zero => simp [prU]
  | succ i ih =>
    rw [prU, List.mem_append, ih, tks_mem (Nat.le_refl _)]
    constructor
    · rintro (⟨j, hj, h⟩ | ⟨h, _⟩)
      · exact ⟨j, by omega, h⟩
      · exact ⟨i, by omega, h⟩
    · rintro ⟨j, hj, h⟩
      by_cases e : j = i
      · subst e
        by_cases hl : pf ws j ≤ x.length
        · have := h.length_le
          exact .inr ⟨h, hl, by omega⟩
        · left
          unfold pf at hl
          split at hl
          · omega
          · rename_i h0
            refine ⟨j - 1, by omega, ?_⟩
            rw [List.prefix_iff_eq_take.1 h]
            refine pre_take ?_
            rw [cmn_comm]; omega
      · exact .inl ⟨j, by omega, h⟩
theorem prU_nodup {ws : List (List Int)} (h : AscL ws) : ∀ i, i ≤ ws.length → (prU ws i).Nodup
  | 0, _ => by simp [prU]
  | i + 1, hi => by
    rw [prU]
    refine List.nodup_append.2 ⟨prU_nodup h i (by omega), tks_nodup (Nat.le_refl _), fun x hx y hy e => ?_⟩
    subst e
    rw [prU_mem] at hx
    rw [tks_mem (Nat.le_refl _)] at hy
    obtain ⟨j, hj, hxj⟩ := hx
    have h1 := pre_min hxj hy.1
    have h2 : cmn (ws.getD j []) (ws.getD i []) ≤ cmn (ws.getD (i - 1) []) (ws.getD i []) := by
      by_cases e : j = i - 1
      · rw [e]; exact Nat.le_refl _
      · exact (cmn_mono (Int.le_of_lt (h.at_ (i := j) (j := i - 1) (by omega) (by omega))) (Int.le_of_lt (h.at_ (i := i - 1) (j := i) (by omega) (by omega)))).1
    have h3 := hy.2.1
    unfold pf at h3
    rw [if_neg (by omega)] at h3
    omega
theorem prU_all {ws : List (List Int)} (x : List Int) : x ∈ prU ws ws.length ↔ ∃ y, y ∈ ws ∧ x <+: y := by
  rw [prU_mem]
  constructor
  · rintro ⟨j, hj, h⟩
    exact ⟨_, by rw [List.getD_eq_getElem?_getD, List.getElem?_eq_getElem hj]; exact List.getElem_mem hj, h⟩
  · rintro ⟨y, hy, h⟩
    obtain ⟨j, hj, rfl⟩ := List.getElem_of_mem hy
    exact ⟨j, hj, by rw [List.getD_eq_getElem?_getD, List.getElem?_eq_getElem hj]; exact h⟩

/-- The words among the first i that are no prefix of the next one. -/
def mxU (ws : List (List Int)) : Nat → List (List Int)
  | 0 => []
  | i + 1 => if i + 1 = ws.length ∨ cmn (ws.getD (i + 1) []) (ws.getD i []) ≠ (ws.getD i []).length then mxU ws i ++ [ws.getD i []] else mxU ws i
/-- A word of l that is no proper prefix of another. -/
def Mx (l : List (List Int)) (x : List Int) : Prop := x ∈ l ∧ ∀ y, y ∈ l → x <+: y → x = y
theorem mxU_mem0 {ws : List (List Int)} (i : Nat) (x : List Int) : x ∈ mxU ws i ↔ ∃ j, j < i ∧ x = ws.getD j [] ∧ (j + 1 = ws.length ∨ ¬ ws.getD j [] <+: ws.getD (j + 1) []) := by
  induction i with
  | zero => simp [mxU]
  | succ i ih =>
    rw [mxU]
    by_cases hc : i + 1 = ws.length ∨ cmn (ws.getD (i + 1) []) (ws.getD i []) ≠ (ws.getD i []).length
    · rw [if_pos hc, List.mem_append, ih, List.mem_singleton]
      constructor
      · rintro (⟨j, hj, h⟩ | rfl)
        · exact ⟨j, by omega, h⟩
        · refine ⟨i, by omega, rfl, hc.imp id fun h => ?_⟩
          rw [pre_cmn']; exact h
      · rintro ⟨j, hj, h⟩
        by_cases e : j = i
        · subst e; exact .inr h.1
        · exact .inl ⟨j, by omega, h⟩
    · rw [if_neg hc, ih]
      constructor
      · rintro ⟨j, hj, h⟩; exact ⟨j, by omega, h⟩
      · rintro ⟨j, hj, h⟩
        by_cases e : j = i
        · subst e
          exact absurd (h.2.imp id fun h => by rw [pre_cmn'] at h; exact h) hc
        · exact ⟨j, by omega, h⟩
theorem mxU_mem {ws : List (List Int)} (h : AscL ws) (x : List Int) : x ∈ mxU ws ws.length ↔ Mx ws x := by
  rw [mxU_mem0]
  constructor
  · rintro ⟨j, hj, rfl, hc⟩
    refine ⟨by rw [List.getD_eq_getElem?_getD, List.getElem?_eq_getElem hj]; exact List.getElem_mem hj, fun y hy hp => ?_⟩
    obtain ⟨k, hk, rfl⟩ := List.getElem_of_mem hy
    have ek : ws[k] = ws.getD k [] := by rw [List.getD_eq_getElem?_getD, List.getElem?_eq_getElem hk]; rfl
    rw [ek] at hp ⊢
    rcases Nat.lt_trichotomy k j with hkj | hkj | hkj
    · have h1 := h.at_ hkj hj
      by_cases e : ws.getD j [] = ws.getD k []
      · exact e
      · have h2 := pre_lex hp e
        have h3 := lexR_neg (ws.getD j []) (ws.getD k [])
        omega
    · rw [hkj]
    · exfalso
      rcases hc with hc | hc
      · omega
      · apply hc
        by_cases e : k = j + 1
        · rw [e] at hp; exact hp
        · have h2 := (cmn_mono (Int.le_of_lt (h.at_ (i := j) (j := j + 1) (by omega) (by omega))) (Int.le_of_lt (h.at_ (i := j + 1) (j := k) (by omega) hk))).2
          rw [pre_cmn] at hp ⊢
          have h3 := cmn_le_left (ws.getD j []) (ws.getD (j + 1) [])
          omega
  · rintro ⟨hx, hm⟩
    obtain ⟨j, hj, rfl⟩ := List.getElem_of_mem hx
    have ej : ws[j] = ws.getD j [] := by rw [List.getD_eq_getElem?_getD, List.getElem?_eq_getElem hj]; rfl
    refine ⟨j, hj, ej, ?_⟩
    by_cases e : j + 1 = ws.length
    · exact .inl e
    · right
      intro hp
      have hj1 : j + 1 < ws.length := by omega
      have h1 := hm (ws.getD (j + 1) []) (by rw [List.getD_eq_getElem?_getD, List.getElem?_eq_getElem hj1]; exact List.getElem_mem hj1) (by rw [ej]; exact hp)
      have h2 := h.at_ (i := j) (j := j + 1) (by omega) hj1
      rw [← h1, ej, lexR_irr] at h2
      omega
theorem mxU_sub (ws : List (List Int)) (i : Nat) : (mxU ws i).Sublist (ws.take i) := by
  induction i with
  | zero => simp [mxU]
  | succ i ih =>
    have hs : (ws.take i).Sublist (ws.take (i + 1)) := by
      have : ws.take i = (ws.take (i + 1)).take i := by rw [List.take_take]; congr 1; omega
      rw [this]; exact List.take_sublist _ _
    rw [mxU]
    split
    · by_cases hi : i < ws.length
      · rw [List.take_succ_eq_append_getElem hi, List.getD_eq_getElem?_getD, List.getElem?_eq_getElem hi]
        exact ih.append (List.Sublist.refl _)
      · rename_i hc
        rcases hc with hc | hc
        · omega
        · exfalso
          apply hc
          rw [List.getD_eq_getElem?_getD, List.getD_eq_getElem?_getD, List.getElem?_eq_none (by omega), List.getElem?_eq_none (by omega)]
          simp [cmn]
    · exact ih.trans hs
theorem mxU_nodup {ws : List (List Int)} (h : AscL ws) : (mxU ws ws.length).Nodup := ((mxU_sub ws ws.length).trans (List.take_sublist _ _)).nodup h.nodup

/-- Lists with the same members and no repetition. -/
theorem perm_of {l m : List (List Int)} (h1 : l.Nodup) (h2 : m.Nodup) (h : ∀ x, x ∈ l ↔ x ∈ m) : l.Perm m := (List.perm_ext_iff_of_nodup h1 h2).2 h

/-- All prefixes, all suffixes, the maximal words. -/
def preS (l : List (List Int)) : List (List Int) := l.flatMap fun w => (List.range (w.length + 1)).map fun n => w.take n
def sufS (l : List (List Int)) : List (List Int) := l.flatMap fun w => (List.range (w.length + 1)).map fun n => w.drop n
def maxS (l : List (List Int)) : List (List Int) := l.filter fun x => l.all fun y => decide (cmn x y = x.length → x = y)
theorem preS_mem (l : List (List Int)) (x : List Int) : x ∈ preS l ↔ ∃ y, y ∈ l ∧ x <+: y := by
  unfold preS
  rw [List.mem_flatMap]
  constructor
  · rintro ⟨y, hy, h⟩
    rw [List.mem_map] at h
    obtain ⟨n, _, rfl⟩ := h
    exact ⟨y, hy, List.take_prefix _ _⟩
  · rintro ⟨y, hy, h⟩
    exact ⟨y, hy, List.mem_map.2 ⟨x.length, by have := h.length_le; simp; omega, (List.prefix_iff_eq_take.1 h).symm⟩⟩
theorem sufS_mem (l : List (List Int)) (x : List Int) : x ∈ sufS l ↔ ∃ y, y ∈ l ∧ x <:+ y := by
  unfold sufS
  rw [List.mem_flatMap]
  constructor
  · rintro ⟨y, hy, h⟩
    rw [List.mem_map] at h
    obtain ⟨n, _, rfl⟩ := h
    exact ⟨y, hy, List.drop_suffix _ _⟩
  · rintro ⟨y, hy, h⟩
    exact ⟨y, hy, List.mem_map.2 ⟨y.length - x.length, by simp; omega, (List.suffix_iff_eq_drop.1 h).symm⟩⟩
theorem maxS_mem (l : List (List Int)) (x : List Int) : x ∈ maxS l ↔ Mx l x := by
  unfold maxS Mx
  rw [List.mem_filter, List.all_eq_true]
  simp only [decide_eq_true_eq, pre_cmn]
theorem Mx.same {l m : List (List Int)} (h : ∀ x, x ∈ l ↔ x ∈ m) (x : List Int) : Mx l x ↔ Mx m x := by
  unfold Mx
  rw [h]
  exact and_congr_right fun _ => forall_congr' fun y => by rw [h]
end Go.Proofs.Ytkkmcgapbcikiaa
end

section
/- What traces know of a word: the longest known beginning, and where the search by lengths finds it. No program. -/
namespace Go.Proofs.Ytkkmcgapbcikiaa

/-- The input word, and the output word, of the trace j. -/
def tIn (ts : List (List Int × List Int)) (j : Nat) : List Int := (ts.getD j ([], [])).1
def tOut (ts : List (List Int × List Int)) (j : Nat) : List Int := (ts.getD j ([], [])).2
/-- The input words are in shortlex order. -/
def Srt (ts : List (List Int × List Int)) : Prop := ∀ i j, i < j → j < ts.length → shlex (tIn ts i) (tIn ts j) < 0
/-- Each trace has an output for each input. -/
def Full (ts : List (List Int × List Int)) : Prop := ∀ j, j < ts.length → (tOut ts j).length = (tIn ts j).length

theorem shlex_len {x y : List Int} (h : shlex x y ≤ 0) : x.length ≤ y.length := by
  rw [shlex_def] at h
  split at h
  · omega
  · split at h <;> omega
theorem shlex_lexR {x y : List Int} (h : x.length = y.length) : shlex x y = lexR x y := by
  rw [shlex_def, if_neg (by omega), if_neg (by omega)]
theorem Srt.len {ts : List (List Int × List Int)} (h : Srt ts) {i j : Nat} (hij : i ≤ j) (hj : j < ts.length) : (tIn ts i).length ≤ (tIn ts j).length := by
  rcases Nat.lt_or_ge i j with hlt | hge
  · exact shlex_len (by have := h i j hlt hj; omega)
  · rw [show i = j by omega]; exact Nat.le_refl _
theorem Srt.lex {ts : List (List Int × List Int)} (h : Srt ts) {i j : Nat} (hij : i ≤ j) (hj : j < ts.length) (he : (tIn ts i).length = (tIn ts j).length) : lexR (tIn ts i) (tIn ts j) ≤ 0 := by
  rcases Nat.lt_or_ge i j with hlt | hge
  · have := h i j hlt hj
    rw [shlex_lexR he] at this
    omega
  · rw [show i = j by omega]; exact Int.le_of_eq (lexR_irr _)

/-- How much of w the first k traces know. -/
def knw (ts : List (List Int × List Int)) (w : List Int) : Nat → Nat
  | 0 => 0
  | k + 1 => max (knw ts w k) (cmn (tIn ts k) w)
theorem knw_ge {ts : List (List Int × List Int)} {w : List Int} {k j : Nat} (h : j < k) : cmn (tIn ts j) w ≤ knw ts w k := by
  induction k with
  | zero => omega
  | succ k ih =>
    rw [knw]
    rcases Nat.lt_or_ge j k with hlt | hge
    · have := ih hlt; omega
    · rw [show j = k by omega]; omega
theorem knw_at {ts : List (List Int × List Int)} {w : List Int} {k : Nat} (h : 0 < knw ts w k) : ∃ j, j < k ∧ cmn (tIn ts j) w = knw ts w k := by
  induction k with
  | zero => simp [knw] at h
  | succ k ih =>
    rw [knw] at h ⊢
    by_cases hc : knw ts w k < cmn (tIn ts k) w
    · exact ⟨k, by omega, by omega⟩
    · obtain ⟨j, hj, e⟩ := ih (by omega)
      exact ⟨j, by omega, by omega⟩
theorem knw_eq {ts : List (List Int × List Int)} {w : List Int} {k m : Nat} (h1 : ∀ j, j < k → cmn (tIn ts j) w ≤ m) (h2 : 0 < m → ∃ j, j < k ∧ cmn (tIn ts j) w = m) : m = knw ts w k := by
  rcases Nat.lt_trichotomy m (knw ts w k) with h | h | h
  · obtain ⟨j, hj, e⟩ := knw_at (ts := ts) (w := w) (k := k) (by omega)
    have := h1 j hj
    omega
  · exact h
  · obtain ⟨j, hj, e⟩ := h2 (by omega)
    have := knw_ge (ts := ts) (w := w) hj
    omega
theorem knw_le {ts : List (List Int × List Int)} {w : List Int} {k : Nat} : knw ts w k ≤ w.length := by
  induction k with
  | zero => simp [knw]
  | succ k ih => rw [knw]; have := cmn_le_right (tIn ts k) w; omega

/-- best and known: no more than what is found so far. -/
def Got (ts : List (List Int × List Int)) (w : List Int) (best known : Nat) : Prop := 0 < known → best < ts.length ∧ cmn (tIn ts best) w = known
/-- The traces from a to before b know no more than known. -/
def Cvd (ts : List (List Int × List Int)) (w : List Int) (a b known : Nat) : Prop := ∀ j, a ≤ j → j < b → cmn (tIn ts j) w ≤ known
theorem Got.zero (ts : List (List Int × List Int)) (w : List Int) : Got ts w 0 0 := fun h => absurd h (by omega)
theorem Cvd.none (ts : List (List Int × List Int)) (w : List Int) (a k : Nat) : Cvd ts w a a k := fun j h1 h2 => absurd h2 (by omega)
theorem Cvd.mono {ts : List (List Int × List Int)} {w : List Int} {a b k k' : Nat} (h : Cvd ts w a b k) (hk : k ≤ k') : Cvd ts w a b k' := fun j h1 h2 => Nat.le_trans (h j h1 h2) hk
theorem Cvd.join {ts : List (List Int × List Int)} {w : List Int} {a b c k : Nat} (h1 : Cvd ts w a b k) (h2 : Cvd ts w b c k) : Cvd ts w a c k := fun j h3 h4 => by
  rcases Nat.lt_or_ge j b with hlt | hge
  · exact h1 j h3 hlt
  · exact h2 j hge h4
theorem Cvd.snoc {ts : List (List Int × List Int)} {w : List Int} {a b k : Nat} (h1 : Cvd ts w a b k) (h2 : cmn (tIn ts b) w ≤ k) : Cvd ts w a (b + 1) k := fun j h3 h4 => by
  rcases Nat.lt_or_ge j b with hlt | hge
  · exact h1 j h3 hlt
  · rw [show j = b by omega]; exact h2
/-- At the end: the traces before e are too short. -/
theorem near_done {ts : List (List Int × List Int)} {w : List Int} {e best known : Nat} (hs : Srt ts) (he : e ≤ ts.length) (hg : Got ts w best known) (hc : Cvd ts w e ts.length known) (hz : e = 0 ∨ (tIn ts (e - 1)).length ≤ known) : known = knw ts w ts.length := by
  refine knw_eq (fun j hj => ?_) (fun h => ⟨best, hg h⟩)
  rcases Nat.lt_or_ge j e with hlt | hge
  · rcases hz with h0 | h1
    · omega
    · have h2 := hs.len (i := j) (j := e - 1) (by omega) (by omega)
      have := cmn_le_left (tIn ts j) w
      omega
  · exact hc j hge hj
/-- A group of one length: what stands beside the place of w covers the group. -/
theorem group_done {ts : List (List Int × List Int)} {w : List Int} {s e p k : Nat} (hs : Srt ts) (he : e ≤ ts.length) (hse : s < e) (hlen : ∀ j, s ≤ j → j < e → (tIn ts j).length = (tIn ts (e - 1)).length)
    (hp : p ≤ e - s) (hlo : ∀ j, j < p → lexR (tIn ts (s + j)) w < 0) (hhi : ∀ j, p ≤ j → j < e - s → 0 ≤ lexR (tIn ts (s + j)) w)
    (hc : Cvd ts w (s + (p - 1)) (s + min (e - s) (p + 1)) k) : Cvd ts w s e k := by
  intro j h1 h2
  by_cases hj : j < s + p
  · refine Nat.le_trans ?_ (hc (s + (p - 1)) (Nat.le_refl _) (by omega))
    have h3 := hs.lex (i := j) (j := s + (p - 1)) (by omega) (by omega) (by rw [hlen j h1 h2, hlen (s + (p - 1)) (by omega) (by omega)])
    exact (cmn_mono h3 (by have := hlo (p - 1) (by omega); omega)).1
  · refine Nat.le_trans ?_ (hc (s + p) (by omega) (by omega))
    have h3 := hs.lex (i := s + p) (j := j) (by omega) (by omega) (by rw [hlen j h1 h2, hlen (s + p) (by omega) (by omega)])
    rw [cmn_comm (tIn ts j), cmn_comm (tIn ts (s + p))]
    exact (cmn_mono (by have := hhi p (Nat.le_refl _) (by omega); have h4 := lexR_neg (tIn ts (s + p)) w; omega) h3).2
/-- The first trace of the length of the last one. -/
theorem group_len {ts : List (List Int × List Int)} {e s L : Nat} (hs : Srt ts) (he : e ≤ ts.length) (h0 : 0 < e) (hL : L = (tIn ts (e - 1)).length) (hlo : ∀ j, j < s → ((tIn ts j).length : Int) - L < 0) (hhi : ∀ j, s ≤ j → j < e → (0 : Int) ≤ ((tIn ts j).length : Int) - L) (hse : s ≤ e) :
    s < e ∧ ∀ j, s ≤ j → j < e → (tIn ts j).length = (tIn ts (e - 1)).length := by
  refine ⟨?_, fun j h1 h2 => ?_⟩
  · rcases Nat.lt_or_ge s e with h | h
    · exact h
    · have := hlo (e - 1) (by omega); omega
  · have h3 := hhi j h1 h2
    have h4 := hs.len (i := j) (j := e - 1) (by omega) (by omega)
    omega
theorem lex_mono {ts : List (List Int × List Int)} {w : List Int} {s e a b : Nat} (hs : Srt ts) (hlen : ∀ j, s ≤ j → j < e → (tIn ts j).length = (tIn ts (e - 1)).length) (he : e ≤ ts.length) (hab : a ≤ b) (hb : b < e - s) (h : lexR (tIn ts (s + b)) w < 0) : lexR (tIn ts (s + a)) w < 0 := by
  have h3 := hs.lex (i := s + a) (j := s + b) (by omega) (by omega) (by rw [hlen (s + a) (by omega) (by omega), hlen (s + b) (by omega) (by omega)])
  rcases Int.lt_or_eq_of_le h3 with h4 | h4
  · exact (lexR_trans _ _ _).2 h4 (by omega)
  · rw [(lexR_zero _ _).1 h4]; exact h
/-- One more trace is examined. -/
theorem got_new {ts : List (List Int × List Int)} {w : List Int} {j : Nat} (hj : j < ts.length) : Got ts w j (cmn (tIn ts j) w) := fun _ => ⟨hj, rfl⟩
end Go.Proofs.Ytkkmcgapbcikiaa
end

section
/- Traces in memory. -/
namespace Go.Proofs.Ytkkmcgapbcikiaa
open Go.RowKit

/-- The slice '.slice A n _' reads as the traces ts. -/
def Trs (w : World) (A : Option Addr) (n : Nat) (ts : List (List Int × List Int)) : Prop :=
  ts.length = n ∧ n ≤ 17592186044416 ∧ (0 < n → ∃ b off, A = some ⟨b, off, none⟩ ∧ b < w.heap.size ∧
    ∀ j, j < n → ∃ A1 n1 c1 A2 n2 c2, w.cell? ⟨b, off + j * 2, none⟩ = some (.slice A1 n1 c1) ∧ w.cell? ⟨b, off + j * 2 + 1, none⟩ = some (.slice A2 n2 c2) ∧ n1 ≤ c1 ∧ n2 ≤ c2 ∧ Ints w A1 n1 (tIn ts j) ∧ Ints w A2 n2 (tOut ts j))
theorem Trs.below {w w' : World} {A : Option Addr} {n : Nat} {ts : List (List Int × List Int)} (h : Trs w A n ts) (hb : Below w.heap.size w w') : Trs w' A n ts :=
  ⟨h.1, h.2.1, fun hn => by
    obtain ⟨b, off, e, hlt, hc⟩ := h.2.2 hn
    refine ⟨b, off, e, Nat.lt_of_lt_of_le hlt hb.size, fun j hj => ?_⟩
    obtain ⟨A1, n1, c1, A2, n2, c2, h1, h2, k1, k2, h3, h4⟩ := hc j hj
    exact ⟨A1, n1, c1, A2, n2, c2, (hb.cell (p := ⟨b, off + j * 2, none⟩) hlt).trans h1, (hb.cell (p := ⟨b, off + j * 2 + 1, none⟩) hlt).trans h2, k1, k2, h3.below hb, h4.below hb⟩⟩
theorem Trs.drewN {w : World} {A : Option Addr} {n : Nat} {ts : List (List Int × List Int)} (h : Trs w A n ts) (q : Nat) : Trs (w.drewN q) A n ts := h
theorem Trs.at_ {w : World} {A : Option Addr} {n : Nat} {ts : List (List Int × List Int)} (h : Trs w A n ts) {k : Nat} (hk : k < n) :
    ∃ b off A1 n1 c1 A2 n2 c2, A = some ⟨b, off, none⟩ ∧ b < w.heap.size ∧ w.cell? ⟨b, off + k * 2, none⟩ = some (.slice A1 n1 c1) ∧ w.cell? ⟨b, off + k * 2 + 1, none⟩ = some (.slice A2 n2 c2) ∧ n1 ≤ c1 ∧ n2 ≤ c2 ∧ Ints w A1 n1 (tIn ts k) ∧ Ints w A2 n2 (tOut ts k) := by
  obtain ⟨b, off, e, hlt, hc⟩ := h.2.2 (by omega)
  obtain ⟨A1, n1, c1, A2, n2, c2, h1, h2, k1, k2, h3, h4⟩ := hc k hk
  exact ⟨b, off, A1, n1, c1, A2, n2, c2, e, hlt, h1, h2, k1, k2, h3, h4⟩
theorem tIn_sub (ts : List (List Int × List Int)) {s m j : Nat} (hj : j < m) : tIn ((ts.drop s).take m) j = tIn ts (s + j) := by
  unfold tIn
  rw [List.getD_eq_getElem?_getD, List.getD_eq_getElem?_getD, List.getElem?_take_of_lt hj, List.getElem?_drop]
theorem tOut_sub (ts : List (List Int × List Int)) {s m j : Nat} (hj : j < m) : tOut ((ts.drop s).take m) j = tOut ts (s + j) := by
  unfold tOut
  rw [List.getD_eq_getElem?_getD, List.getD_eq_getElem?_getD, List.getElem?_take_of_lt hj, List.getElem?_drop]
theorem tIn_take (ts : List (List Int × List Int)) {m j : Nat} (hj : j < m) : tIn (ts.take m) j = tIn ts j := by
  have := tIn_sub ts (s := 0) (m := m) hj
  rwa [List.drop_zero, Nat.zero_add] at this
/-- A part of a slice of traces. -/
theorem Trs.sub {w : World} {b off n : Nat} {ts : List (List Int × List Int)} (h : Trs w (some ⟨b, off, none⟩) n ts) {s m : Nat} (hm : s + m ≤ n) : Trs w (some ⟨b, off + s * 2, none⟩) m ((ts.drop s).take m) := by
  refine ⟨by have := h.1; simp; omega, by have := h.2.1; omega, fun h0 => ?_⟩
  obtain ⟨b', off', e, hlt, hc⟩ := h.2.2 (by omega)
  cases e
  refine ⟨b, off + s * 2, rfl, hlt, fun j hj => ?_⟩
  obtain ⟨A1, n1, c1, A2, n2, c2, h1, h2, k1, k2, h3, h4⟩ := hc (s + j) (by omega)
  rw [tIn_sub ts hj, tOut_sub ts hj]
  exact ⟨A1, n1, c1, A2, n2, c2, by rw [← h1]; congr 2; omega, by rw [← h2]; congr 2; omega, k1, k2, h3, h4⟩
theorem Trs.first {w : World} {A : Option Addr} {n : Nat} {ts : List (List Int × List Int)} (h : Trs w A n ts) {m : Nat} (hm : m ≤ n) : Trs w A m (ts.take m) := by
  refine ⟨by have := h.1; simp; omega, by have := h.2.1; omega, fun h0 => ?_⟩
  obtain ⟨b, off, e, hlt, hc⟩ := h.2.2 (by omega)
  refine ⟨b, off, e, hlt, fun j hj => ?_⟩
  obtain ⟨A1, n1, c1, A2, n2, c2, h1, h2, k1, k2, h3, h4⟩ := hc j (by omega)
  have t1 := tIn_sub ts (s := 0) (m := m) hj
  have t2 := tOut_sub ts (s := 0) (m := m) hj
  rw [List.drop_zero, Nat.zero_add] at t1 t2
  rw [t1, t2]
  exact ⟨A1, n1, c1, A2, n2, c2, h1, h2, k1, k2, h3, h4⟩
end Go.Proofs.Ytkkmcgapbcikiaa
end

section
/- What the rows hand over: traces, observations. -/
namespace Go.Proofs.Ytkkmcgapbcikiaa
open Go.ChangeShapes Go.WideShapes Go.ChangeAt Go.RowKit Go.Joins Go.Deep

theorem arr_2 {α : Type} {cs : Array α} (h : cs.size = 2) : ∃ c0 c1, cs = #[c0, c1] := by
  obtain ⟨l⟩ := cs
  match l, h with
  | [c0, c1], _ => exact ⟨c0, c1, rfl⟩
section
variable {H : Type} {enc : TypeId × Value → H} {w : World} {base : Nat} {held : Bool}
theorem cells_1_1 {P : Program} {t : TypeId} {f0 f1 : Field} {fuel : Nat} {c0 c1 : Value} {x : DataW H × List MemPlace} (hs : P.underlying t = some (.struct #[f0, f1]))
    (hO : [f0.offset, P.cellsOf f0.type, f1.offset, P.cellsOf f1.type] = ([0, 1, 1, 1] : List Nat)) (h : DataW.trod enc P w base (fun _ => true) held fuel t [c0, c1] = some x) :
    ∃ (y0 y1 : DataW H × List MemPlace) (n : Nat), x.1 = .agg [y0.1, y1.1] ∧ DataW.trod enc P w base (fun _ => true) held n f0.type [c0] = some y0 ∧ DataW.trod enc P w base (fun _ => true) held n f1.type [c1] = some y1 := by
  obtain ⟨xs, n, _, rfl, _, hlen, hg⟩ := DataW.trod_struct hs h
  simp only [List.cons.injEq, and_true] at hO
  obtain ⟨o0, k0, o1, k1⟩ := hO
  match xs, hlen, hg with
  | [y0, y1], _, hg =>
    exact ⟨y0, y1, n, rfl, by simpa [o0, k0] using hg 0 f0 rfl, by simpa [o1, k1] using hg 1 f1 rfl⟩

/-- A slice of traces that came in. -/
theorem open_traces (hb3 : Try.prog.bytesOf 3 = 8) (hb4 : Try.prog.bytesOf 38 = 48) {fuel : Nat} {cs : List Value} {x : DataW H × List MemPlace} (h : DataW.trod enc Try.prog w base (fun _ => true) held fuel 22 cs = some x) (hl : Light Try.prog 22 x.1) :
    ∃ A n c ts, cs = [.slice A n c] ∧ n ≤ c ∧ Trs w A n ts := by
  rcases open_slice Try.underlying22 h with ⟨hcs, hx⟩ | ⟨a, l, c, m, fu, D, Pl, hcs, _, hlc, hm, hmm, hx, hcell⟩
  · exact ⟨none, 0, 0, [], hcs, Nat.le_refl _, ⟨rfl, by omega, fun h => absurd h (by omega)⟩⟩
  · simp only [if_true] at hmm
    subst hx
    have each : ∀ i, i < l → ∃ q : (Option Addr × Nat × Nat × List Int) × (Option Addr × Nat × Nat × List Int), w.cell? (a.add (i * 2)) = some (.slice q.1.1 q.1.2.1 q.1.2.2.1) ∧ w.cell? (a.add (i * 2 + 1)) = some (.slice q.2.1 q.2.2.1 q.2.2.2.1) ∧ q.1.2.1 ≤ q.1.2.2.1 ∧ q.2.2.1 ≤ q.2.2.2.1 ∧ Ints w q.1.1 q.1.2.1 q.1.2.2.2 ∧ Ints w q.2.1 q.2.2.1 q.2.2.2.2 := fun i hi => by
      obtain ⟨vs, hv, ht⟩ := hcell i (by omega)
      rw [show Try.prog.cellsOf 38 = 2 from by kernel_rfl] at hv
      obtain ⟨_, hlen, hcl⟩ := World.cells?_some hv
      obtain ⟨v0, v1, rfl⟩ : ∃ v0 v1, vs = [v0, v1] := match vs, hlen with
        | [v0, v1], _ => ⟨v0, v1, rfl⟩
      have g0 := hcl 0 (by omega)
      have g1 := hcl 1 (by omega)
      rw [add_add] at g0 g1
      simp at g0 g1
      obtain ⟨y0, y1, n, hd, h3, h4⟩ := cells_1_1 Try.underlying38 (by kernel_rfl) ht
      dsimp only at hd
      have hw : ∀ n, n ∈ (D i).weights Try.prog 38 → n ≤ reachBytes := fun n hn => hl n (by
        simp only [DataW.weights, Try.underlying22]
        exact List.mem_cons_of_mem _ (List.mem_append_left _ (weightsAll_mem (List.mem_map.2 ⟨i, List.mem_range.2 hi, rfl⟩) hn)))
      rw [hd] at hw
      obtain ⟨A1, n1, c1, z1, e1, q1, i1, _⟩ := open_intsw hb3 h3 (fun n hn => hw n (by simp only [DataW.weights, Try.underlying38]; exact DataW.weights_mem_each (j := 0) rfl rfl n hn))
      obtain ⟨A2, n2, c2, z2, e2, q2, i2, _⟩ := open_intsw hb3 h4 (fun n hn => hw n (by simp only [DataW.weights, Try.underlying38]; exact DataW.weights_mem_each (j := 1) rfl rfl n hn))
      simp only [List.cons.injEq, and_true] at e1 e2
      exact ⟨((A1, n1, c1, z1), (A2, n2, c2, z2)), by rw [g0, e1], by rw [g1, e2], q1, q2, i1, i2⟩
    obtain ⟨q, hq⟩ := choose_lt each
    refine ⟨some a, l, c, (List.range l).map fun i => ((q i).1.2.2.2, (q i).2.2.2.2), hcs, hlc, by simp, ?_, fun h0 => ?_⟩
    · have := hl ((((List.range l).map D).length + ((List.range (m - l)).map fun j => D (l + j)).length) * 48) (by simp [DataW.weights, Try.underlying22, hb4])
      rw [reach_num] at this
      simp only [List.length_map, List.length_range] at this
      omega
    · obtain ⟨b, off, spot⟩ := a
      have hc0 := (hq 0 (by omega)).1
      have hspot : spot = none := by simpa [Addr.add] using World.cell?_spot hc0
      subst hspot
      refine ⟨b, off, rfl, by have := block_lt hc0; simpa [Addr.add] using this, fun j hj => ?_⟩
      obtain ⟨h1, h2, h3, h4, h5, h6⟩ := hq j hj
      rw [add_none] at h1 h2
      have e1 : tIn ((List.range l).map fun i => ((q i).1.2.2.2, (q i).2.2.2.2)) j = (q j).1.2.2.2 := by simp [tIn, List.getD, hj]
      have e2 : tOut ((List.range l).map fun i => ((q i).1.2.2.2, (q i).2.2.2.2)) j = (q j).2.2.2.2 := by simp [tOut, List.getD, hj]
      exact ⟨_, _, _, _, _, _, h1, h2, h3, h4, by rw [e1]; exact h5, by rw [e2]; exact h6⟩

set_option maxRecDepth 100000 in
theorem open_obs {r : Reach} {b0 : Nat} {v : Value} {d : DataW H} {p : List MemPlace} (hv : Value.okWide Try.prog w r b0 24 v) (h : DataW.Trod enc Try.prog w base (fun _ => true) held 24 v d p) (hl : Light Try.prog 24 d) :
    ∃ (a1 : Int) (A2 : Option Addr) (n2 : Nat) (m2 : Nat) (z2 : List (List Int × List Int)), v = .agg #[.int .i64 a1, .slice A2 n2 m2] ∧ (Lit.int .i64 a1).wf = true ∧ n2 ≤ m2 ∧ Trs w A2 n2 z2 := by
  obtain ⟨cs, rfl, hsz⟩ := okWide_struct Try.underlying24 hv
  obtain ⟨c0, c1, rfl⟩ := arr_2 (hsz.trans (by kernel_rfl : Try.prog.cellsOf 24 = 2))
  obtain ⟨fuel, hf⟩ := h
  simp only [Value.cells] at hf
  obtain ⟨uy0, uy1, un, ud, uh0, uh1⟩ := cells_1_1 Try.underlying24 (by kernel_rfl) hf
  dsimp only at ud
  obtain ⟨a1, e1, _, w1⟩ := DataW.trod_int Try.underlying3 uh0
  obtain ⟨A2, n2, m2, z2, e2, q2, l2⟩ := open_traces (by kernel_rfl) (by kernel_rfl) uh1 (fun n hn => hl n (by rw [ud]; simp only [DataW.weights, Try.underlying24]; exact DataW.weights_mem_each (j := 1) rfl rfl n hn))
  simp at e1 e2
  subst e1 e2
  exact ⟨a1, A2, n2, m2, z2, rfl, w1, q2, l2⟩
end
end Go.Proofs.Ytkkmcgapbcikiaa
end

section
/- What the rows hand over: one trace. -/
namespace Go.Proofs.Ytkkmcgapbcikiaa
open Go.ChangeShapes Go.WideShapes Go.ChangeAt Go.RowKit Go.Joins Go.Deep

section
variable {H : Type} {enc : TypeId × Value → H} {w : World} {base : Nat} {held : Bool}
set_option maxRecDepth 100000 in
theorem open_trace {r : Reach} {b0 : Nat} {v : Value} {d : DataW H} {p : List MemPlace} (hv : Value.okWide Try.prog w r b0 38 v) (h : DataW.Trod enc Try.prog w base (fun _ => true) held 38 v d p) (hl : Light Try.prog 38 d) :
    ∃ (A1 : Option Addr) (n1 : Nat) (m1 : Nat) (z1 : List Int) (A2 : Option Addr) (n2 : Nat) (m2 : Nat) (z2 : List Int), v = .agg #[.slice A1 n1 m1, .slice A2 n2 m2] ∧ n1 ≤ m1 ∧ Ints w A1 n1 z1 ∧ n2 ≤ m2 ∧ Ints w A2 n2 z2 := by
  obtain ⟨cs, rfl, hsz⟩ := okWide_struct Try.underlying38 hv
  obtain ⟨c0, c1, rfl⟩ := arr_2 (hsz.trans (by kernel_rfl : Try.prog.cellsOf 38 = 2))
  obtain ⟨fuel, hf⟩ := h
  simp only [Value.cells] at hf
  obtain ⟨uy0, uy1, un, ud, uh0, uh1⟩ := cells_1_1 Try.underlying38 (by kernel_rfl) hf
  dsimp only at ud
  obtain ⟨A1, n1, m1, z1, e1, q1, l1, _⟩ := open_intsw (by kernel_rfl) uh0 (fun n hn => hl n (by rw [ud]; simp only [DataW.weights, Try.underlying38]; exact DataW.weights_mem_each (j := 0) rfl rfl n hn))
  obtain ⟨A2, n2, m2, z2, e2, q2, l2, _⟩ := open_intsw (by kernel_rfl) uh1 (fun n hn => hl n (by rw [ud]; simp only [DataW.weights, Try.underlying38]; exact DataW.weights_mem_each (j := 1) rfl rfl n hn))
  simp at e1 e2
  subst e1 e2
  exact ⟨A1, n1, m1, z1, A2, n2, m2, z2, rfl, q1, l1, q2, l2⟩
end
end Go.Proofs.Ytkkmcgapbcikiaa
end

section
/- The reference: Common and Same. -/
namespace Go.Proofs.Ytkkmcgapbcikiaa
open Go.RowKit

set_option maxHeartbeats 400000 in
theorem rcommon (A B : Option Addr) (n c m d : Nat) (xs ys : List Int) (w : World) (hx : Ints w A n xs) (hy : Ints w B m ys) :
    Calls Try.prog 53 #[.slice A n c, .slice B m d] w fun e w' => e = .returned (.int .i64 (cmn xs ys)) ∧ ∃ q, w' = w.drewN q := by
  have L1 := Lib.hid hx.1
  have L2 := Lib.hid hy.1
  have hn := hx.2.1
  have hm := hy.2.1
  go_enter Try.func53, Try.ntmps53
  go_wp2
  go_loopw [5] (fun i wr => ∃ j : Nat, j ≤ n ∧ j ≤ m ∧ i = .int .i64 j ∧ Agree xs ys j ∧ ∃ q, wr = w.drewN q) (fun i _ => n - (intOf i).toNat)
  case atStart => exact ⟨0, Nat.zero_le _, Nat.zero_le _, rfl, Agree.zero _ _, 0, rfl⟩
  case round =>
    obtain ⟨j, hj1, hj2, rfl, ha, q, rfl⟩ := hrel
    by_cases hl1 : j < n
    · by_cases hl2 : j < m
      · have d1 : decide ((j : Int) < (n : Int)) = true := by simp; omega
        have d2 : decide ((j : Int) < (m : Int)) = true := by simp; omega
        obtain ⟨b1, o1, rfl, _, hc1⟩ := hx.at_ (k := j) (by omega)
        obtain ⟨b2, o2, rfl, _, hc2⟩ := hy.at_ (k := j) (by omega)
        by_cases he : xs[j]?.getD 0 = ys[j]?.getD 0
        · have ha' := Lib.hid (ha.succ (by simpa using he))
          have hb : (xs[j]?.getD 0 == ys[j]?.getD 0) = true := by simp [he]
          have hE := Lib.hid he
          clear he ha
          go_wp2
          go_quiet (fail)
          go_wp2
          go_roundw
          case rel => exact ⟨j + 1, by omega, by omega, by go_num, ha'.out, by first | exact ⟨_, rfl⟩ | exact ⟨_, World.drewN_drewN _ _ _⟩⟩
          case measure => simp [intOf]; omega
        · have hfin := Lib.hid (cmn_eq (j := j) (by rw [L1.out]; omega) (by rw [L2.out]; omega) ha (.inr (.inr (by simpa using he))))
          have hb : (xs[j]?.getD 0 == ys[j]?.getD 0) = false := by simpa using he
          clear he ha
          go_wp2
          go_quiet (fail)
          go_wp2
          go_ret
          exact ⟨ret_int (by rw [hfin.out]), by first | exact ⟨_, rfl⟩ | exact ⟨_, World.drewN_drewN _ _ _⟩⟩
      · have hfin := Lib.hid (cmn_eq (j := j) (by rw [L1.out]; omega) (by rw [L2.out]; omega) ha (by rw [L1.out, L2.out]; omega))
        have d1 : decide ((j : Int) < (n : Int)) = true := by simp; omega
        have d2 : decide ((j : Int) < (m : Int)) = false := by simp; omega
        clear ha
        go_wp2
        go_quiet (fail)
        go_wp2
        go_ret
        exact ⟨ret_int (by rw [hfin.out]), by first | exact ⟨_, rfl⟩ | exact ⟨_, World.drewN_drewN _ _ _⟩⟩
    · have hfin := Lib.hid (cmn_eq (j := j) (by rw [L1.out]; omega) (by rw [L2.out]; omega) ha (by rw [L1.out, L2.out]; omega))
      have d1 : decide ((j : Int) < (n : Int)) = false := by simp; omega
      clear ha
      go_wp2
      go_quiet (fail)
      go_wp2
      go_ret
      exact ⟨ret_int (by rw [hfin.out]), by first | exact ⟨_, rfl⟩ | exact ⟨_, World.drewN_drewN _ _ _⟩⟩

end Go.Proofs.Ytkkmcgapbcikiaa
end

section
/- Literals, and what readers and makers leave. -/
namespace Go.Proofs.Ytkkmcgapbcikiaa
open Go.RowKit

/-- Calls of readers give Below. -/
theorem rd_below {w w' : World} (h : ∃ q, w' = w.drewN q) : Below w.heap.size w w' := by obtain ⟨q, rfl⟩ := h; exact below_drewN (Below.refl _ _) q

theorem alloc_below (w : World) (o : Obj) : Below w.heap.size w (w.alloc o) := (Below.refl _ _).alloc (Nat.le_refl _) _

/-- The list xs as a literal's cells. -/
def lit (xs : List Int) : Array Value := (xs.map (Value.int .i64)).toArray

theorem bt {a b c : World} (h : Below a.heap.size a b) (k : Below b.heap.size b c) : Below a.heap.size a c := h.trans (k.mono h.size)

theorem Ints.none_ (w : World) : Ints w none 0 [] := ⟨rfl, by omega, fun h => absurd h (by omega)⟩

end Go.Proofs.Ytkkmcgapbcikiaa
end

section
/- Blocks that are as they were: of a type, all but one; rows apart. -/
namespace Go.Proofs.Ytkkmcgapbcikiaa
open Go.RowKit

/-- The blocks of a type are as they were. -/
def KeptT (t : TypeId) (w w' : World) : Prop := ∀ (g : Nat) (cs : Array Value), w.heap[g]? = some (.cells cs t (0, 0)) → w'.heap[g]? = some (.cells cs t (0, 0))
theorem heap_lt {w : World} {g : Nat} {o : Obj} (h : w.heap[g]? = some o) : g < w.heap.size := by
  rcases Nat.lt_or_ge g w.heap.size with hlt | hge
  · exact hlt
  · rw [Array.getElem?_eq_none hge] at h; cases h
theorem KeptT.refl (t : TypeId) (w : World) : KeptT t w w := fun _ _ h => h
theorem KeptT.trans {t : TypeId} {a b c : World} (h : KeptT t a b) (k : KeptT t b c) : KeptT t a c := fun g cs e => k g cs (h g cs e)
theorem KeptT.of_below {t : TypeId} {w w' : World} (h : Below w.heap.size w w') : KeptT t w w' := fun g _ e => (h.block g (heap_lt e)).trans e
theorem KeptT.drewN (t : TypeId) (w : World) (q : Nat) : KeptT t w (w.drewN q) := fun _ _ h => h
theorem KeptT.off {t t' : TypeId} {w : World} {g k : Nat} {cs : Array Value} (hg : w.heap[g]? = some (.cells cs t' (0, 0))) (ht : t ≠ t') (u : Value) : KeptT t w (w.setCell ⟨g, k, none⟩ u) := fun g' cs' e => by
  rw [heap_setCell_other _ _ _ _ ?_]
  · exact e
  · show g' ≠ g
    intro e2
    subst e2
    rw [hg] at e
    injection e with e
    injection e with _ h2 _
    exact ht h2.symm
theorem KeptT.grown {t t' : TypeId} {w w' : World} {base size n : Nat} {v : Value} {xs : List Value} (h : w.grownBy w' v.ownBlock) (ho : w.ownsRow base t' size v n xs) (ht : t ≠ t') : KeptT t w w' := fun g cs e => by
  rw [h.block g (heap_lt e) ?_]
  · exact e
  · intro e2
    rcases ho.2 with ⟨rfl, _⟩ | ⟨g', cap, cur, rfl, _, hh, _⟩
    · cases e2
    · have : g = g' := by simpa [Value.ownBlock] using e2
      subst this
      rw [e] at hh
      injection hh with hh
      injection hh with _ h2 _
      exact ht h2

theorem Owned.keptT {w w' : World} {base : Nat} {v : Value} {xs : List Int} (h : Owned w base v xs) (hk : KeptT 3 w w') : Owned w' base v xs := by
  refine ⟨h.1, ?_⟩
  rcases h.2 with e | ⟨g, cap, cur, hv, hbg, hg, r⟩
  · exact .inl e
  · exact .inr ⟨g, cap, cur, hv, hbg, hk g cur hg, r⟩

theorem infol : (Try.prog.info? 36).map (fun i => (i.zero, i.size, i.bytes)) = some (some (.slice none 0 0), 1, 24) := by kernel_rfl

/-- All blocks but one are as they were. -/
def KeptB (r : Option Nat) (w w' : World) : Prop := ∀ (g : Nat) (o : Obj), w.heap[g]? = some o → r ≠ some g → w'.heap[g]? = some o
/-- Two rows lie in different blocks. -/
def Apart (v u : Value) : Prop := ∀ g, v.ownBlock = some g → u.ownBlock ≠ some g
theorem Apart.nil (u : Value) : Apart (.slice none 0 0) u := fun g h => by simp [Value.ownBlock] at h
theorem Apart.symm {v u : Value} (h : Apart v u) : Apart u v := fun g h1 h2 => h g h2 h1
/-- append turns a row's block or makes a new one. -/
def Moved (w : World) (v v' : Value) : Prop := v'.ownBlock = v.ownBlock ∨ ∃ g, w.heap.size ≤ g ∧ v'.ownBlock = some g
end Go.Proofs.Ytkkmcgapbcikiaa
end

section
/- Blocks by their cells. -/
namespace Go.Proofs.Ytkkmcgapbcikiaa
open Go.RowKit

/-- The block g holds the cells cs. -/
def Bx (w : World) (g : Nat) (cs : Array Value) (t : TypeId) : Prop := w.heap[g]? = some (.cells cs t (0, 0))
theorem Bx.cell {w : World} {g : Nat} {cs : Array Value} {t : TypeId} (h : Bx w g cs t) (k : Nat) : w.cell? ⟨g, k, none⟩ = cs[k]? := cell_of_row w g k _ _ (0, 0) h
theorem Bx.free {w : World} {g : Nat} {cs : Array Value} {t : TypeId} (h : Bx w g cs t) (k : Nat) : w.frozen? ⟨g, k, none⟩ = false := frozen_of_row w g k _ _ h
theorem Bx.lt {w : World} {g : Nat} {cs : Array Value} {t : TypeId} (h : Bx w g cs t) : g < w.heap.size := by
  rcases Nat.lt_or_ge g w.heap.size with hlt | hge
  · exact hlt
  · unfold Bx at h; rw [Array.getElem?_eq_none hge] at h; cases h
theorem Bx.kept {w w' : World} {g : Nat} {cs : Array Value} {t : TypeId} (h : Bx w g cs t) {k : Nat} (hb : Below k w w') (hg : g < k) : Bx w' g cs t := (hb.block g hg).trans h
theorem Bx.on {w w' : World} {g : Nat} {cs : Array Value} {t : TypeId} (h : Bx w g cs t) (hb : Below w.heap.size w w') : Bx w' g cs t := h.kept hb h.lt
theorem bx_new (w : World) (cs : Array Value) (t : TypeId) : Bx (w.alloc (.cells cs t)) w.heap.size cs t := heap_alloc_new _ _
theorem Bx.drewN {w : World} {g : Nat} {cs : Array Value} {t : TypeId} (h : Bx w g cs t) (q : Nat) : Bx (w.drewN q) g cs t := h
theorem Bx.set {w : World} {g : Nat} {cs : Array Value} {t : TypeId} (h : Bx w g cs t) (k : Nat) (v : Value) : Bx (w.setCell ⟨g, k, none⟩ v) g (cs.setIfInBounds k v) t := by
  have := heap_setCell_same w g k _ _ v h
  unfold Bx
  rw [this]
theorem Bx.other {w : World} {g g' k : Nat} {cs : Array Value} {t : TypeId} (h : Bx w g cs t) (hg : g ≠ g') (v : Value) : Bx (w.setCell ⟨g', k, none⟩ v) g cs t := by
  unfold Bx
  rw [heap_setCell_other _ _ _ _ hg]
  exact h
theorem Bx.row {w : World} {g : Nat} {cs : Array Value} {t : TypeId} (h : Bx w g cs t) (cs' : Array Value) : Bx (w.setRow g cs') g cs' t := setRow_heap w g _ _ _ _ h
theorem Bx.rowOther {w : World} {g g' : Nat} {cs : Array Value} {t : TypeId} (h : Bx w g cs t) (hg : g ≠ g') (cs' : Array Value) : Bx (w.setRow g' cs') g cs t := by
  unfold Bx
  rw [setRow_other _ _ _ _ hg]
  exact h
theorem Bx.keptRow {w : World} {g : Nat} {cs : Array Value} {t t' : TypeId} (h : Bx w g cs t') (ht : t ≠ t') (cs' : Array Value) : KeptT t w (w.setRow g cs') := fun k cs2 e => by
  rw [setRow_other]
  · exact e
  · intro hk
    subst hk
    unfold Bx at h
    rw [h] at e
    injection e with e
    injection e with _ e _
    exact ht e.symm
theorem Bx.keptSet {w : World} {g k : Nat} {cs : Array Value} {t t' : TypeId} (h : Bx w g cs t') (ht : t ≠ t') (v : Value) : KeptT t w (w.setCell ⟨g, k, none⟩ v) := KeptT.off h ht v
theorem run_load_bx {P : Program} {o : Oper} {a : Act} {w : World} (ty : TypeId) (x : Operand) (ho : o.op = .load ty x)
    (g : Nat) (hx : a.eval x = .pointer (some ⟨g, 0, none⟩)) (t : TypeId) (cs : Array Value) (fr : Nat × Nat) (d : TypeDesc) (hg : w.heap[g]? = some (.cells cs t fr))
    (hu : P.underlying ty = some d) (hd : (match d with | .struct _ | .array _ _ => true | _ => false) = true) (hi : (P.info? ty).map (·.size) = some cs.size) : (execOp a.eval o).run P w = .ok (.value (.agg cs)) w := by
  unfold execOp
  simp only [ho, hx, Instr.loadAt, Instr.sureAddr, Sem.run_bind, Sem.run_pure, Result.andThen_ok, run_loadVar_row w g t ty cs fr d hg hu hd hi]
/-- Two boxes in a row, and three. -/
theorem bxs2 (w : World) (c1 c2 : Array Value) (t1 t2 : TypeId) : ∀ W, W = (w.alloc (.cells c1 t1)).alloc (.cells c2 t2) → Below w.heap.size w W ∧ Bx W w.heap.size c1 t1 ∧ Bx W (w.heap.size + 1) c2 t2 ∧ W.heap.size = w.heap.size + 1 + 1 := by
  rintro W rfl
  have b1 := alloc_below w (.cells c1 t1)
  have b2 := alloc_below (w.alloc (.cells c1 t1)) (.cells c2 t2)
  have h1 := heap_alloc_new w (.cells c1 t1)
  have h2 := heap_alloc_new (w.alloc (.cells c1 t1)) (.cells c2 t2)
  have s1 : (w.alloc (.cells c1 t1)).heap.size = w.heap.size + 1 := by simp
  rw [s1] at b2 h2
  exact ⟨b1.trans (b2.mono (by omega)), (b2.block _ (by omega)).trans h1, h2, by simp⟩
theorem bxs3 (w : World) (c1 c2 c3 : Array Value) (t1 t2 t3 : TypeId) : ∀ W, W = ((w.alloc (.cells c1 t1)).alloc (.cells c2 t2)).alloc (.cells c3 t3) →
    Below w.heap.size w W ∧ Bx W w.heap.size c1 t1 ∧ Bx W (w.heap.size + 1) c2 t2 ∧ Bx W (w.heap.size + 1 + 1) c3 t3 ∧ W.heap.size = w.heap.size + 1 + 1 + 1 := by
  rintro W rfl
  obtain ⟨b, h1, h2, hs⟩ := bxs2 w c1 c2 t1 t2 _ rfl
  generalize (w.alloc (.cells c1 t1)).alloc (.cells c2 t2) = W2 at b h1 h2 hs ⊢
  have b3 := alloc_below W2 (.cells c3 t3)
  have h3 := heap_alloc_new W2 (.cells c3 t3)
  rw [hs] at b3 h3
  exact ⟨b.trans (b3.mono (by omega)), (b3.block _ (by omega)).trans h1, (b3.block _ (by omega)).trans h2, h3, by simp [hs]⟩
end Go.Proofs.Ytkkmcgapbcikiaa
end

section
/- around of the program: the neighbours that share n inputs. -/
namespace Go.Proofs.Ytkkmcgapbcikiaa
open Go.RowKit

/-- The positions from f to before t share k inputs with the one at p. -/
def Arnd (ss : List Int) (m p : Nat) (k : Int) (f t : Nat) : Prop :=
  f ≤ p ∧ p < t ∧ t ≤ m + 1 ∧ (∀ j, f ≤ j → j < p → k ≤ ss.getD j 0) ∧ (∀ j, p ≤ j → j + 1 < t → k ≤ ss.getD j 0) ∧ (f = 0 ∨ ss.getD (f - 1) 0 < k) ∧ (t = m + 1 ∨ ss.getD (t - 1) 0 < k)

set_option maxHeartbeats 4000000 in
set_option maxRecDepth 100000 in
theorem paround (O S : Option Addr) (n c m d p : Nat) (k : Int) (ss : List Int) (w : World) (hS : Ints w S m ss) (hp : p ≤ m) :
    Calls Try.prog 66 #[.agg #[.slice O n c, .slice S m d], .int .i64 p, .int .i64 k] w fun e w' => ∃ f t : Nat, e = .returned (.tuple #[.int .i64 f, .int .i64 t]) ∧ Arnd ss m p k f t ∧ Below w.heap.size w w' := by
  have hb0 := alloc_below w (.cells #[.slice O n c, .slice S m d] 92)
  have k1 := (bx_new w #[.slice O n c, .slice S m d] 92).cell 1
  simp at k1
  have HS := Lib.hid (hS.below hb0)
  have HB := Lib.hid hb0
  have hm := hS.2.1
  clear hS hb0
  go_enter Try.func66, Try.ntmps66
  go_wp2
  go_loopw [8] (fun v8 wr => ∃ f : Nat, v8 = .int .i64 f ∧ f ≤ p ∧ Hid (∀ j, f ≤ j → j < p → k ≤ ss.getD j 0) ∧ wr = w.alloc (.cells #[.slice O n c, .slice S m d] 92)) (fun v8 _ => (intOf v8).toNat)
  case atStart => exact ⟨p, rfl, Nat.le_refl _, Lib.hid (fun j h1 h2 => absurd h2 (by omega)), rfl⟩
  case round =>
    obtain ⟨f, rfl, hf, HF, rfl⟩ := hrel
    have next : ∀ f : Nat, True := fun _ => trivial
    clear next
    by_cases h0 : f = 0 ∨ ss.getD (f - 1) 0 < k
    · have H0 := Lib.hid h0
      have hcase : (f = 0 ∧ True) ∨ (∃ f', f = f' + 1 ∧ ss.getD f' 0 < k) := by
        rcases h0 with h | h
        · exact .inl ⟨h, trivial⟩
        · by_cases hz : f = 0
          · exact .inl ⟨hz, trivial⟩
          · exact .inr ⟨f - 1, by omega, h⟩
      clear h0
      rcases hcase with ⟨hz, _⟩ | ⟨f', hff, hlt⟩
      · subst hz
        go_wp2
        go_loopw [9] (fun v9 wr => ∃ l : Nat, v9 = .int .i64 l ∧ p ≤ l ∧ l ≤ m ∧ Hid (∀ j, p ≤ j → j < l → k ≤ ss.getD j 0) ∧ wr = w.alloc (.cells #[.slice O n c, .slice S m d] 92)) (fun v9 _ => m - (intOf v9).toNat)
        case atStart => exact ⟨p, rfl, Nat.le_refl _, hp, Lib.hid (fun j h1 h2 => absurd h2 (by omega)), rfl⟩
        case round =>
          obtain ⟨l, rfl, hl1, hl2, HL, rfl⟩ := hrel
          by_cases hend : l = m
          · subst hend
            have g4 : ¬ (l : Int) < (l : Int) := by omega
            have w3 : IntKind.i64.wrap ((l : Int) + 1) = ((l + 1 : Nat) : Int) := by rw [IntKind.wrap_i64]; omega
            go_wp2
            go_ret2
            exact ⟨0, l + 1, rfl, ⟨hf, by omega, by omega, HF.out, fun j h1 h2 => HL.out j h1 (by omega), Or.inl rfl, .inl (by omega)⟩, HB.out⟩
          · have g4 : (l : Int) < (m : Int) := by omega
            obtain ⟨b2, o2, eS2, _, hc2⟩ := HS.out.at_ (k := l) (by omega)
            subst eS2
            obtain ⟨z, hz2⟩ : ∃ z, z = ss.getD l 0 := ⟨_, rfl⟩
            rw [← hz2] at hc2
            have HZ := Lib.hid hz2
            clear hz2
            have g5 : (0 : Int) ≤ (l : Int) := by omega
            have w3 : IntKind.i64.wrap ((l : Int) + 1) = ((l + 1 : Nat) : Int) := by rw [IntKind.wrap_i64]; omega
            by_cases hkz : k ≤ z
            · have HL2 := Lib.hid (show ∀ j, p ≤ j → j < l + 1 → k ≤ ss.getD j 0 from fun j h1 h2 => by
                by_cases e : j = l
                · rw [e, ← HZ.out]; exact hkz
                · exact HL.out j h1 (by omega))
              go_wp2
              go_roundw
              case rel => exact ⟨l + 1, rfl, by omega, by omega, HL2, by first | rfl | trivial⟩
              case measure => simp [intOf]; omega
            · have hkz2 : z < k := by omega
              go_wp2
              go_ret2
              exact ⟨0, l + 1, rfl, ⟨hf, by omega, by omega, HF.out, fun j h1 h2 => HL.out j h1 (by omega), Or.inl rfl, .inr (by rw [Nat.add_sub_cancel, ← HZ.out]; exact hkz2)⟩, HB.out⟩
      · subst hff
        obtain ⟨b, o, rfl, _, hc⟩ := HS.out.at_ (k := f') (by omega)
        obtain ⟨y, hy⟩ : ∃ y, y = ss.getD f' 0 := ⟨_, rfl⟩
        rw [← hy] at hc hlt
        have HY := Lib.hid hy
        clear hy
        have hlt' : ¬ k ≤ y := by omega
        have g0 : (0 : Int) < ((f' + 1 : Nat) : Int) := by omega
        have w1 : IntKind.i64.wrap ((f' : Int) + 1 - 1) = (f' : Int) := by rw [IntKind.wrap_i64]; omega
        have w2 : IntKind.i64.wrap (((f' + 1 : Nat) : Int) - 1) = (f' : Int) := by rw [IntKind.wrap_i64]; omega
        have g1 : (0 : Int) ≤ (f' : Int) := by omega
        have g2 : (f' : Int) < (m : Int) := by omega
        go_wp2
        go_loopw [9] (fun v9 wr => ∃ l : Nat, v9 = .int .i64 l ∧ p ≤ l ∧ l ≤ m ∧ Hid (∀ j, p ≤ j → j < l → k ≤ ss.getD j 0) ∧ wr = w.alloc (.cells #[.slice O n c, .slice (some ⟨b, o, none⟩) m d] 92)) (fun v9 _ => m - (intOf v9).toNat)
        case atStart => exact ⟨p, rfl, Nat.le_refl _, hp, Lib.hid (fun j h1 h2 => absurd h2 (by omega)), rfl⟩
        case round =>
          obtain ⟨l, rfl, hl1, hl2, HL, rfl⟩ := hrel
          by_cases hend : l = m
          · subst hend
            have g4 : ¬ (l : Int) < (l : Int) := by omega
            have w3 : IntKind.i64.wrap ((l : Int) + 1) = ((l + 1 : Nat) : Int) := by rw [IntKind.wrap_i64]; omega
            go_wp2
            go_ret2
            exact ⟨f' + 1, l + 1, rfl, ⟨hf, by omega, by omega, HF.out, fun j h1 h2 => HL.out j h1 (by omega), H0.out, .inl (by omega)⟩, HB.out⟩
          · have g4 : (l : Int) < (m : Int) := by omega
            obtain ⟨b2, o2, eS2, _, hc2⟩ := HS.out.at_ (k := l) (by omega)
            cases eS2
            obtain ⟨z, hz2⟩ : ∃ z, z = ss.getD l 0 := ⟨_, rfl⟩
            rw [← hz2] at hc2
            have HZ := Lib.hid hz2
            clear hz2
            have g5 : (0 : Int) ≤ (l : Int) := by omega
            have w3 : IntKind.i64.wrap ((l : Int) + 1) = ((l + 1 : Nat) : Int) := by rw [IntKind.wrap_i64]; omega
            by_cases hkz : k ≤ z
            · have HL2 := Lib.hid (show ∀ j, p ≤ j → j < l + 1 → k ≤ ss.getD j 0 from fun j h1 h2 => by
                by_cases e : j = l
                · rw [e, ← HZ.out]; exact hkz
                · exact HL.out j h1 (by omega))
              go_wp2
              go_roundw
              case rel => exact ⟨l + 1, rfl, by omega, by omega, HL2, by first | rfl | trivial⟩
              case measure => simp [intOf]; omega
            · have hkz2 : z < k := by omega
              go_wp2
              go_ret2
              exact ⟨f' + 1, l + 1, rfl, ⟨hf, by omega, by omega, HF.out, fun j h1 h2 => HL.out j h1 (by omega), H0.out, .inr (by rw [Nat.add_sub_cancel, ← HZ.out]; exact hkz2)⟩, HB.out⟩
    · obtain ⟨f', rfl⟩ : ∃ f', f = f' + 1 := ⟨f - 1, by omega⟩
      obtain ⟨b, o, rfl, _, hc⟩ := HS.out.at_ (k := f') (by omega)
      obtain ⟨y, hy⟩ : ∃ y, y = ss.getD f' 0 := ⟨_, rfl⟩
      rw [← hy] at hc
      have hle : k ≤ y := by rw [hy]; have h2 := (not_or.1 h0).2; rw [Nat.add_sub_cancel] at h2; omega
      have HF2 := Lib.hid (show ∀ j, f' ≤ j → j < p → k ≤ ss.getD j 0 from fun j h1 h2 => by
        by_cases e : j = f'
        · rw [e, ← hy]; exact hle
        · exact HF.out j (by omega) h2)
      clear hy h0
      have g0 : (0 : Int) < ((f' + 1 : Nat) : Int) := by omega
      have w1 : IntKind.i64.wrap ((f' : Int) + 1 - 1) = (f' : Int) := by rw [IntKind.wrap_i64]; omega
      have w2 : IntKind.i64.wrap (((f' + 1 : Nat) : Int) - 1) = (f' : Int) := by rw [IntKind.wrap_i64]; omega
      have g1 : (0 : Int) ≤ (f' : Int) := by omega
      have g2 : (f' : Int) < (m : Int) := by omega
      go_wp2
      go_roundw
      case rel => exact ⟨f', rfl, by omega, HF2, by first | rfl | trivial⟩
      case measure => simp [intOf]
end Go.Proofs.Ytkkmcgapbcikiaa
end

section
/- The walks of Check, by the two texts. -/
namespace Go.Proofs.Ytkkmcgapbcikiaa
open Go.RowKit

/-- The first j numbers are symbols of the size k. -/
def Syms (xs : List Int) (k : Int) (j : Nat) : Prop := ∀ m, m < j → 0 ≤ xs.getD m 0 ∧ xs.getD m 0 < k

instance (xs : List Int) (k : Int) (j : Nat) : Decidable (Syms xs k j) := by unfold Syms; exact inferInstance

theorem Syms.zero (xs : List Int) (k : Int) : Syms xs k 0 := fun m hm => absurd hm (by omega)
theorem Syms.succ {xs : List Int} {k : Int} {j : Nat} (h : Syms xs k j) (h0 : 0 ≤ xs.getD j 0) (h1 : xs.getD j 0 < k) : Syms xs k (j + 1) := fun m hm => by
  by_cases e : m = j
  · subst e; exact ⟨h0, h1⟩
  · exact h m (by omega)

/-- The error of Check. -/
def chk (xs : List Int) (k : Int) : Int :=
  if 1 ≤ k ∧ k ≤ 1024 then (if 1024 < xs.length then 3 else if Syms xs k xs.length then 0 else 1) else 2

theorem chk_range {xs : List Int} {k : Int} (h : ¬ (1 ≤ k ∧ k ≤ 1024)) : chk xs k = 2 := by unfold chk; rw [if_neg h]
theorem chk_long {xs : List Int} {k : Int} (h : 1 ≤ k ∧ k ≤ 1024) (hl : 1024 < xs.length) : chk xs k = 3 := by unfold chk; rw [if_pos h, if_pos hl]
theorem chk_ok {xs : List Int} {k : Int} (h : 1 ≤ k ∧ k ≤ 1024) (hl : ¬ 1024 < xs.length) (hs : Syms xs k xs.length) : chk xs k = 0 := by unfold chk; rw [if_pos h, if_neg hl, if_pos hs]
theorem chk_bad {xs : List Int} {k : Int} (h : 1 ≤ k ∧ k ≤ 1024) (hl : ¬ 1024 < xs.length) {j : Nat} (hj : j < xs.length) (hs : ¬ (0 ≤ xs.getD j 0 ∧ xs.getD j 0 < k)) : chk xs k = 1 := by
  unfold chk; rw [if_pos h, if_neg hl, if_neg fun H => hs (H j hj)]


theorem chk_zero {xs : List Int} {k : Int} (h : chk xs k = 0) : 1 ≤ k ∧ k ≤ 1024 ∧ xs.length ≤ 1024 ∧ Syms xs k xs.length := by
  unfold chk at h
  by_cases h1 : 1 ≤ k ∧ k ≤ 1024
  · rw [if_pos h1] at h
    by_cases h2 : 1024 < xs.length
    · rw [if_pos h2] at h; omega
    · rw [if_neg h2] at h
      by_cases h3 : Syms xs k xs.length
      · exact ⟨h1.1, h1.2, by omega, h3⟩
      · rw [if_neg h3] at h; omega
  · rw [if_neg h1] at h; omega

theorem wperm (k : Int) (b : Bool) (h : b = true ↔ (1 ≤ k ∧ k ≤ 1024)) (w : World) :
    Calls Try.prog 82 #[.int .i64 k] w fun e w' => e = .returned (.bool b) ∧ w = w' := by
  by_cases h1 : 1 ≤ k
  · by_cases h2 : k ≤ 1024
    · obtain rfl : b = true := h.2 ⟨h1, h2⟩
      go_enter Try.func82, Try.ntmps82
      go_wp2
      go_ret
      exact ⟨rfl, rfl⟩
    · obtain rfl : b = false := by cases b; rfl; exact absurd (h.1 rfl).2 h2
      go_enter Try.func82, Try.ntmps82
      go_wp2
      go_ret
      exact ⟨rfl, rfl⟩
  · obtain rfl : b = false := by cases b; rfl; exact absurd (h.1 rfl).1 h1
    go_enter Try.func82, Try.ntmps82
    go_wp2
    go_ret
    exact ⟨rfl, rfl⟩

theorem rsize (k : Int) (b : Bool) (h : b = true ↔ (1 ≤ k ∧ k ≤ 1024)) (w : World) :
    Calls Try.prog 67 #[.int .i64 k] w fun e w' => e = .returned (.bool b) ∧ w = w' := by
  by_cases h1 : 1 ≤ k
  · by_cases h2 : k ≤ 1024
    · obtain rfl : b = true := h.2 ⟨h1, h2⟩
      go_enter Try.func67, Try.ntmps67
      go_wp2
      go_ret
      exact ⟨rfl, rfl⟩
    · obtain rfl : b = false := by cases b; rfl; exact absurd (h.1 rfl).2 h2
      go_enter Try.func67, Try.ntmps67
      go_wp2
      go_ret
      exact ⟨rfl, rfl⟩
  · obtain rfl : b = false := by cases b; rfl; exact absurd (h.1 rfl).1 h1
    go_enter Try.func67, Try.ntmps67
    go_wp2
    go_ret
    exact ⟨rfl, rfl⟩

set_option maxHeartbeats 400000 in
theorem wcheck (A : Option Addr) (n c : Nat) (k : Int) (xs : List Int) (w : World) (h : Ints w A n xs) :
    Calls Try.prog 60 #[.slice A n c, .int .i64 k] w fun e w' => e = .returned (.int .i64 (chk xs k)) ∧ w = w' := by
  have hlen := h.1
  have hn := h.2.1
  by_cases hr : 1 ≤ k ∧ k ≤ 1024
  · have H1 := Lib.hid hr
    obtain ⟨h1, h2⟩ := hr
    by_cases hl : 1024 < n
    · have hfin := Lib.hid (chk_long (xs := xs) ⟨h1, h2⟩ (by omega))
      clear hlen
      go_enter Try.func60, Try.ntmps60
      go_wp2_with (go_at_call 82; refine (wperm k true (by simp; omega) _).mono ?_; rintro e w' ⟨rfl, rfl⟩)
      go_ret
      exact ⟨ret_int hfin.out.symm, rfl⟩
    · have hd : decide ((1024 : Int) < (n : Int)) = false := by simp; omega
      have hL := Lib.hid hlen
      clear hlen
      go_enter Try.func60, Try.ntmps60
      go_wp2_with (go_at_call 82; refine (wperm k true (by simp; omega) _).mono ?_; rintro e w' ⟨rfl, rfl⟩)
      go_loop [15] (fun i => ∃ j : Nat, j ≤ n ∧ i = .int .i64 j ∧ Syms xs k j) (fun i => n - (intOf i).toNat)
      case atStart => exact ⟨0, Nat.zero_le _, rfl, Syms.zero _ _⟩
      case round =>
        obtain ⟨j, hj, rfl, hs⟩ := hrel
        by_cases hlt : j < n
        · obtain ⟨b, off, rfl, hb, hc⟩ := h.at_ hlt
          by_cases hg : 0 ≤ xs[j]?.getD 0 ∧ xs[j]?.getD 0 < k
          · obtain ⟨g1, g2⟩ := hg
            have g3 : ¬ xs[j]?.getD 0 < 0 := by omega
            have hs' := hs.succ (by simpa using g1) (by simpa using g2)
            go_wp2
            go_round
            case rel => exact ⟨j + 1, by omega, by go_num, hs'⟩
            case measure => simp [intOf]; omega
          · have hbad := Lib.hid (chk_bad H1.out (by rw [hL.out]; exact hl) (by rw [hL.out]; exact hlt) (by simpa using hg))
            by_cases g1 : xs[j]?.getD 0 < 0
            · go_wp2
              go_ret
              exact ⟨ret_int hbad.out.symm, rfl⟩
            · have g2 : k ≤ xs[j]?.getD 0 := by omega
              have g0 : 0 ≤ xs[j]?.getD 0 := by omega
              clear hg
              go_wp2
              go_ret
              exact ⟨ret_int hbad.out.symm, rfl⟩
        · have hok := Lib.hid (chk_ok H1.out (by rw [hL.out]; exact hl) (by rw [hL.out]; exact (by omega : j = n) ▸ hs))
          go_wp2
          go_ret
          exact ⟨ret_int hok.out.symm, rfl⟩
  · have hbad := Lib.hid (chk_range (xs := xs) hr)
    go_enter Try.func60, Try.ntmps60
    go_wp2_with (go_at_call 82; refine (wperm k false (by simp; omega) _).mono ?_; rintro e w' ⟨rfl, rfl⟩)
    go_ret
    exact ⟨ret_int hbad.out.symm, rfl⟩

set_option maxHeartbeats 400000 in
theorem rcheck (A : Option Addr) (n c : Nat) (k : Int) (xs : List Int) (w : World) (h : Ints w A n xs) :
    Calls Try.prog 38 #[.slice A n c, .int .i64 k] w fun e w' => e = .returned (.int .i64 (chk xs k)) ∧ w = w' := by
  have hlen := h.1
  have hn := h.2.1
  by_cases hr : 1 ≤ k ∧ k ≤ 1024
  · have H1 := Lib.hid hr
    obtain ⟨h1, h2⟩ := hr
    by_cases hl : 1024 < n
    · have hfin := Lib.hid (chk_long (xs := xs) ⟨h1, h2⟩ (by omega))
      clear hlen
      go_enter Try.func38, Try.ntmps38
      go_wp2_with (go_at_call 67; refine (rsize k true (by simp; omega) _).mono ?_; rintro e w' ⟨rfl, rfl⟩)
      go_ret
      exact ⟨ret_int hfin.out.symm, rfl⟩
    · have hd : decide ((1024 : Int) < (n : Int)) = false := by simp; omega
      have hL := Lib.hid hlen
      clear hlen
      go_enter Try.func38, Try.ntmps38
      go_wp2_with (go_at_call 67; refine (rsize k true (by simp; omega) _).mono ?_; rintro e w' ⟨rfl, rfl⟩)
      go_loop [5] (fun i => ∃ j : Nat, j ≤ n ∧ i = .int .i64 j ∧ Syms xs k j) (fun i => n - (intOf i).toNat)
      case atStart => exact ⟨0, Nat.zero_le _, rfl, Syms.zero _ _⟩
      case round =>
        obtain ⟨j, hj, rfl, hs⟩ := hrel
        by_cases hlt : j < n
        · obtain ⟨b, off, rfl, hb, hc⟩ := h.at_ hlt
          by_cases hg : 0 ≤ xs[j]?.getD 0 ∧ xs[j]?.getD 0 < k
          · obtain ⟨g1, g2⟩ := hg
            have g3 : ¬ xs[j]?.getD 0 < 0 := by omega
            have hs' := hs.succ (by simpa using g1) (by simpa using g2)
            go_wp2
            go_round
            case rel => exact ⟨j + 1, by omega, by go_num, hs'⟩
            case measure => simp [intOf]; omega
          · have hbad := Lib.hid (chk_bad H1.out (by rw [hL.out]; exact hl) (by rw [hL.out]; exact hlt) (by simpa using hg))
            by_cases g1 : xs[j]?.getD 0 < 0
            · go_wp2
              go_ret
              exact ⟨ret_int hbad.out.symm, rfl⟩
            · have g2 : k ≤ xs[j]?.getD 0 := by omega
              have g0 : 0 ≤ xs[j]?.getD 0 := by omega
              clear hg
              go_wp2
              go_ret
              exact ⟨ret_int hbad.out.symm, rfl⟩
        · have hok := Lib.hid (chk_ok H1.out (by rw [hL.out]; exact hl) (by rw [hL.out]; exact (by omega : j = n) ▸ hs))
          go_wp2
          go_ret
          exact ⟨ret_int hok.out.symm, rfl⟩
  · have hbad := Lib.hid (chk_range (xs := xs) hr)
    go_enter Try.func38, Try.ntmps38
    go_wp2_with (go_at_call 67; refine (rsize k false (by simp; omega) _).mono ?_; rintro e w' ⟨rfl, rfl⟩)
    go_ret
    exact ⟨ret_int hbad.out.symm, rfl⟩
end Go.Proofs.Ytkkmcgapbcikiaa
end

section
/- Mealy machines as lists: what is valid, executed, reached. -/
namespace Go.Proofs.Ytkkmcgapbcikiaa

/-- The first number that is not 0 among f 0 .. f (k - 1). -/
def fstE (f : Nat → Int) : Nat → Int
  | 0 => 0
  | k + 1 => if fstE f k = 0 then f k else fstE f k
theorem fstE_ok {f : Nat → Int} : ∀ {k : Nat}, (∀ t, t < k → f t = 0) → fstE f k = 0
  | 0, _ => rfl
  | k + 1, h => by
    unfold fstE
    rw [if_pos (fstE_ok fun t ht => h t (by omega))]
    exact h k (by omega)
theorem fstE_bad {f : Nat → Int} {j : Nat} (h : ∀ t, t < j → f t = 0) (hj : f j ≠ 0) : ∀ {k : Nat}, j < k → fstE f k = f j
  | 0, hk => absurd hk (by omega)
  | k + 1, hk => by
    unfold fstE
    by_cases e : j = k
    · subst e; rw [if_pos (fstE_ok h)]
    · have := fstE_bad h hj (k := k) (by omega)
      rw [this, if_neg hj]
theorem fstE_zero {f : Nat → Int} : ∀ {k : Nat}, fstE f k = 0 → ∀ t, t < k → f t = 0
  | 0, _, t, ht => absurd ht (by omega)
  | k + 1, h, t, ht => by
    unfold fstE at h
    by_cases e : fstE f k = 0
    · rw [if_pos e] at h
      by_cases e2 : t = k
      · subst e2; exact h
      · exact fstE_zero e t (by omega)
    · rw [if_neg e] at h; exact absurd h e

/-- The first k transitions of a row are fine. -/
def RowOk (n : Int) (r o : List Int) (k : Nat) : Prop := ∀ m, m < k → 0 ≤ r.getD m 0 ∧ r.getD m 0 < n ∧ 0 ≤ o.getD m 0 ∧ o.getD m 0 ≤ 1048576
theorem RowOk.zero (n : Int) (r o : List Int) : RowOk n r o 0 := fun m h => absurd h (by omega)
theorem RowOk.succ {n : Int} {r o : List Int} {k : Nat} (h : RowOk n r o k) (h1 : 0 ≤ r.getD k 0) (h2 : r.getD k 0 < n) (h3 : 0 ≤ o.getD k 0) (h4 : o.getD k 0 ≤ 1048576) : RowOk n r o (k + 1) := fun m hm => by
  by_cases e : m = k
  · subst e; exact ⟨h1, h2, h3, h4⟩
  · exact h m (by omega)
instance (n : Int) (r o : List Int) (k : Nat) : Decidable (RowOk n r o k) := by unfold RowOk; exact inferInstance

/-- The error of a row. -/
def rowE (i n : Int) (r o : List Int) : Int :=
  if (r.length : Int) = i ∧ (o.length : Int) = i then (if RowOk n r o r.length then 0 else 2) else 1
theorem rowE_len {i n : Int} {r o : List Int} (h : ¬ ((r.length : Int) = i ∧ (o.length : Int) = i)) : rowE i n r o = 1 := by unfold rowE; rw [if_neg h]
theorem rowE_ok {i n : Int} {r o : List Int} (h : (r.length : Int) = i ∧ (o.length : Int) = i) (h2 : RowOk n r o r.length) : rowE i n r o = 0 := by unfold rowE; rw [if_pos h, if_pos h2]
theorem rowE_bad {i n : Int} {r o : List Int} (h : (r.length : Int) = i ∧ (o.length : Int) = i) {k : Nat} (hk : k < r.length) (h2 : ¬ (0 ≤ r.getD k 0 ∧ r.getD k 0 < n ∧ 0 ≤ o.getD k 0 ∧ o.getD k 0 ≤ 1048576)) : rowE i n r o = 2 := by
  unfold rowE; rw [if_pos h, if_neg fun H => h2 (H k hk)]
theorem rowE_zero {i n : Int} {r o : List Int} (h : rowE i n r o = 0) : (r.length : Int) = i ∧ (o.length : Int) = i ∧ RowOk n r o r.length := by
  unfold rowE at h
  by_cases h1 : (r.length : Int) = i ∧ (o.length : Int) = i
  · rw [if_pos h1] at h
    by_cases h2 : RowOk n r o r.length
    · exact ⟨h1.1, h1.2, h2⟩
    · rw [if_neg h2] at h; omega
  · rw [if_neg h1] at h; omega

/-- The error of the row s of a machine. -/
def rowAt (i : Int) (nx ot : List (List Int)) (s : Nat) : Int := rowE i nx.length (nx.getD s []) (ot.getD s [])

/-- The error of Valid. -/
def vld (i st : Int) (nx ot : List (List Int)) : Int :=
  if 1 ≤ i ∧ i ≤ 64 then
    (if nx.length = 0 then 19 else if 128 < nx.length then 11 else if 0 ≤ st ∧ st < nx.length then (if ot.length = nx.length then fstE (rowAt i nx ot) nx.length else 1) else 2)
  else 2
theorem vld_in {i st : Int} {nx ot : List (List Int)} (h : ¬ (1 ≤ i ∧ i ≤ 64)) : vld i st nx ot = 2 := by unfold vld; rw [if_neg h]
theorem vld_empty {i st : Int} {nx ot : List (List Int)} (h : 1 ≤ i ∧ i ≤ 64) (h0 : nx.length = 0) : vld i st nx ot = 19 := by unfold vld; rw [if_pos h, if_pos h0]
theorem vld_many {i st : Int} {nx ot : List (List Int)} (h : 1 ≤ i ∧ i ≤ 64) (h0 : 128 < nx.length) : vld i st nx ot = 11 := by unfold vld; rw [if_pos h, if_neg (by omega), if_pos h0]
theorem vld_start {i st : Int} {nx ot : List (List Int)} (h : 1 ≤ i ∧ i ≤ 64) (h0 : ¬ nx.length = 0) (h1 : ¬ 128 < nx.length) (h2 : ¬ (0 ≤ st ∧ st < nx.length)) : vld i st nx ot = 2 := by
  unfold vld; rw [if_pos h, if_neg h0, if_neg h1, if_neg h2]
theorem vld_out {i st : Int} {nx ot : List (List Int)} (h : 1 ≤ i ∧ i ≤ 64) (h0 : ¬ nx.length = 0) (h1 : ¬ 128 < nx.length) (h2 : 0 ≤ st ∧ st < nx.length) (h3 : ¬ ot.length = nx.length) : vld i st nx ot = 1 := by
  unfold vld; rw [if_pos h, if_neg h0, if_neg h1, if_pos h2, if_neg h3]
theorem vld_rows {i st : Int} {nx ot : List (List Int)} (h : 1 ≤ i ∧ i ≤ 64) (h0 : ¬ nx.length = 0) (h1 : ¬ 128 < nx.length) (h2 : 0 ≤ st ∧ st < nx.length) (h3 : ot.length = nx.length) : vld i st nx ot = fstE (rowAt i nx ot) nx.length := by
  unfold vld; rw [if_pos h, if_neg h0, if_neg h1, if_pos h2, if_pos h3]

/-- A machine of n states and i inputs is valid. -/
structure Mok (i st n : Nat) (nx ot : List (List Int)) : Prop where
  i1 : 1 ≤ i
  i2 : i ≤ 64
  n1 : 0 < n
  n2 : n ≤ 128
  st : st < n
  nxl : nx.length = n
  otl : ot.length = n
  row : ∀ s, s < n → (nx.getD s []).length = i ∧ (ot.getD s []).length = i ∧ ∀ a, a < i → 0 ≤ (nx.getD s []).getD a 0 ∧ (nx.getD s []).getD a 0 < n ∧ 0 ≤ (ot.getD s []).getD a 0 ∧ (ot.getD s []).getD a 0 ≤ 1048576

theorem vld_zero {i st : Int} {nx ot : List (List Int)} (h : vld i st nx ot = 0) : ∃ i' st' n : Nat, i = i' ∧ st = st' ∧ Mok i' st' n nx ot := by
  unfold vld at h
  by_cases h1 : 1 ≤ i ∧ i ≤ 64
  · rw [if_pos h1] at h
    by_cases h2 : nx.length = 0
    · rw [if_pos h2] at h; omega
    · rw [if_neg h2] at h
      by_cases h3 : 128 < nx.length
      · rw [if_pos h3] at h; omega
      · rw [if_neg h3] at h
        by_cases h4 : 0 ≤ st ∧ st < nx.length
        · rw [if_pos h4] at h
          by_cases h5 : ot.length = nx.length
          · rw [if_pos h5] at h
            refine ⟨i.toNat, st.toNat, nx.length, by omega, by omega, by omega, by omega, by omega, by omega, by omega, rfl, h5, fun s hs => ?_⟩
            obtain ⟨r1, r2, r3⟩ := rowE_zero (fstE_zero h s hs)
            exact ⟨by omega, by omega, fun a ha => r3 a (by omega)⟩
          · rw [if_neg h5] at h; omega
        · rw [if_neg h4] at h; omega
  · rw [if_neg h1] at h; omega

theorem Mok.vld {i st n : Nat} {nx ot : List (List Int)} (h : Mok i st n nx ot) : vld i st nx ot = 0 := by
  have h1 := h.i1; have h2 := h.i2; have h3 := h.n1; have h4 := h.n2; have h5 := h.st; have h6 := h.nxl; have h7 := h.otl
  rw [vld_rows (by omega) (by omega) (by omega) (by omega) (by omega)]
  refine fstE_ok fun t ht => rowE_ok ⟨?_, ?_⟩ fun m hm => ?_
  · have := (h.row t (by omega)).1; omega
  · have := (h.row t (by omega)).2.1; omega
  · have := (h.row t (by omega)).1
    have := (h.row t (by omega)).2.2 m (by omega)
    rw [h6]; exact this

/-- The next state, and the output. -/
def nN (nx : List (List Int)) (s a : Nat) : Nat := ((nx.getD s []).getD a 0).toNat
def oN (ot : List (List Int)) (s a : Nat) : Int := (ot.getD s []).getD a 0
theorem Mok.nN_lt {i st n : Nat} {nx ot : List (List Int)} (h : Mok i st n nx ot) {s a : Nat} (hs : s < n) (ha : a < i) : nN nx s a < n := by
  have := (h.row s hs).2.2 a ha; unfold nN; omega
theorem Mok.nN_eq {i st n : Nat} {nx ot : List (List Int)} (h : Mok i st n nx ot) {s a : Nat} (hs : s < n) (ha : a < i) : (nx.getD s []).getD a 0 = (nN nx s a : Int) := by
  have := (h.row s hs).2.2 a ha; unfold nN; omega

/-- The output word from a state, and the state after it. -/
def runO (nx ot : List (List Int)) : Nat → List Int → List Int
  | _, [] => []
  | s, x :: w => oN ot s x.toNat :: runO nx ot (nN nx s x.toNat) w
def runS (nx : List (List Int)) : Nat → List Int → Nat
  | s, [] => s
  | s, x :: w => runS nx (nN nx s x.toNat) w
theorem runO_append (nx ot : List (List Int)) : ∀ (u v : List Int) (s : Nat), runO nx ot s (u ++ v) = runO nx ot s u ++ runO nx ot (runS nx s u) v
  | [], _, _ => rfl
  | x :: u, v, s => by
    show oN ot s x.toNat :: runO nx ot (nN nx s x.toNat) (u ++ v) = _
    rw [runO_append nx ot u v]; rfl
theorem runS_append (nx : List (List Int)) : ∀ (u v : List Int) (s : Nat), runS nx s (u ++ v) = runS nx (runS nx s u) v
  | [], _, _ => rfl
  | x :: u, v, s => runS_append nx u v (nN nx s x.toNat)
theorem runO_len (nx ot : List (List Int)) : ∀ (u : List Int) (s : Nat), (runO nx ot s u).length = u.length
  | [], _ => rfl
  | x :: u, s => by
    show (runO nx ot (nN nx s x.toNat) u).length + 1 = u.length + 1
    rw [runO_len nx ot u]
theorem take_next {xs : List Int} {j : Nat} (h : j < xs.length) : xs.take (j + 1) = xs.take j ++ [xs[j]?.getD 0] := by
  rw [List.take_succ_eq_append_getElem h, List.getElem?_eq_getElem h]; rfl
theorem runO_next {nx ot : List (List Int)} {s j : Nat} {xs : List Int} (h : j < xs.length) : runO nx ot s (xs.take (j + 1)) = runO nx ot s (xs.take j) ++ [oN ot (runS nx s (xs.take j)) (xs[j]?.getD 0).toNat] := by
  rw [take_next h, runO_append]; rfl
theorem runS_next {nx : List (List Int)} {s j : Nat} {xs : List Int} (h : j < xs.length) : runS nx s (xs.take (j + 1)) = nN nx (runS nx s (xs.take j)) (xs[j]?.getD 0).toNat := by
  rw [take_next h, runS_append]; rfl
theorem Mok.runS_lt {i st n : Nat} {nx ot : List (List Int)} (h : Mok i st n nx ot) : ∀ (u : List Int) (s : Nat), s < n → (∀ x, x ∈ u → 0 ≤ x ∧ x < i) → runS nx s u < n
  | [], _, hs, _ => hs
  | x :: u, s, hs, hu => by
    have hx := hu x (by simp)
    exact h.runS_lt u _ (h.nN_lt hs (by omega)) fun y hy => hu y (by simp [hy])
theorem Syms.mem {xs : List Int} {k : Int} (h : Syms xs k xs.length) : ∀ x, x ∈ xs → 0 ≤ x ∧ x < k := by
  intro x hx
  obtain ⟨j, hj, rfl⟩ := List.getElem_of_mem hx
  have := h j hj
  simpa [List.getD, List.getElem?_eq_getElem hj] using this

/-- One row of a search: what is new is added at the end. -/
def addN (l : List Nat) (x : Nat) : List Nat := if x ∈ l then l else l ++ [x]
def addR (nx : List (List Int)) (s : Nat) (l : List Nat) : Nat → List Nat
  | 0 => l
  | a + 1 => addN (addR nx s l a) (nN nx s a)
/-- The search. -/
def bfs (nx : List (List Int)) (i : Nat) : Nat → List Nat → Nat → List Nat
  | 0, l, _ => l
  | k + 1, l, j => if j < l.length then bfs nx i k (addR nx (l.getD j 0) l i) (j + 1) else l
def rch (nx : List (List Int)) (i st : Nat) : List Nat := bfs nx i nx.length [st] 0

theorem addN_pre (l : List Nat) (x : Nat) : ∃ t, addN l x = l ++ t := by
  unfold addN; split
  · exact ⟨[], by simp⟩
  · exact ⟨[x], rfl⟩
theorem addR_pre (nx : List (List Int)) (s : Nat) (l : List Nat) : ∀ a, ∃ t, addR nx s l a = l ++ t
  | 0 => ⟨[], by simp [addR]⟩
  | a + 1 => by
    obtain ⟨t, ht⟩ := addR_pre nx s l a
    obtain ⟨u, hu⟩ := addN_pre (addR nx s l a) (nN nx s a)
    exact ⟨t ++ u, by show addN _ _ = _; rw [hu, ht, List.append_assoc]⟩
theorem bfs_pre (nx : List (List Int)) (i : Nat) : ∀ (k : Nat) (l : List Nat) (j : Nat), ∃ t, bfs nx i k l j = l ++ t
  | 0, l, _ => ⟨[], by simp [bfs]⟩
  | k + 1, l, j => by
    unfold bfs
    split
    · obtain ⟨t, ht⟩ := addR_pre nx (l.getD j 0) l i
      obtain ⟨u, hu⟩ := bfs_pre nx i k (addR nx (l.getD j 0) l i) (j + 1)
      exact ⟨t ++ u, by rw [hu, ht, List.append_assoc]⟩
    · exact ⟨[], by simp⟩

/-- A list of different states. -/
def Stt (n : Nat) (l : List Nat) : Prop := l.Nodup ∧ ∀ x, x ∈ l → x < n
theorem Stt.len : ∀ {n : Nat} {l : List Nat}, Stt n l → l.length ≤ n
  | 0, l, h => by
    cases l with
    | nil => exact Nat.le_refl _
    | cons x t => exact absurd (h.2 x (by simp)) (by omega)
  | n + 1, l, h => by
    by_cases hm : n ∈ l
    · have h1 : Stt n (l.erase n) := ⟨h.1.erase n, fun x hx => by
        have := (h.1.mem_erase_iff).1 hx
        have := h.2 x this.2
        omega⟩
      have := h1.len
      rw [List.length_erase_of_mem hm] at this
      omega
    · have h1 : Stt n l := ⟨h.1, fun x hx => by
        have := h.2 x hx
        by_cases e : x = n
        · subst e; exact absurd hx hm
        · omega⟩
      have := h1.len
      omega
theorem addN_stt {n : Nat} {l : List Nat} (h : Stt n l) {x : Nat} (hx : x < n) : Stt n (addN l x) := by
  unfold addN
  split
  · exact h
  · rename_i hm
    refine ⟨List.nodup_append.2 ⟨h.1, by simp, ?_⟩, fun y hy => ?_⟩
    · intro a ha b hb; simp at hb; subst hb; intro e; subst e; exact hm ha
    · rw [List.mem_append] at hy
      rcases hy with hy | hy
      · exact h.2 y hy
      · simp at hy; omega
theorem addR_stt {i st n : Nat} {nx ot : List (List Int)} (hm : Mok i st n nx ot) {l : List Nat} (h : Stt n l) {s : Nat} (hs : s < n) : ∀ a, a ≤ i → Stt n (addR nx s l a)
  | 0, _ => h
  | a + 1, ha => addN_stt (addR_stt hm h hs a (by omega)) (hm.nN_lt hs (by omega))
theorem mem_addN (l : List Nat) (x : Nat) : x ∈ addN l x := by
  unfold addN; split
  · assumption
  · simp
theorem addN_mem {l : List Nat} {x y : Nat} (h : y ∈ l) : y ∈ addN l x := by obtain ⟨t, ht⟩ := addN_pre l x; rw [ht]; simp [h]
theorem getD_mem {l : List Nat} {j : Nat} (h : j < l.length) : l.getD j 0 ∈ l := by
  rw [List.getD_eq_getElem?_getD, List.getElem?_eq_getElem h]; exact List.getElem_mem _
theorem getD_pre {l t : List Nat} {j : Nat} (h : j < l.length) : (l ++ t).getD j 0 = l.getD j 0 := by
  rw [List.getD_eq_getElem?_getD, List.getD_eq_getElem?_getD, List.getElem?_append_left h]

/-- More rounds than states turn nothing. -/
theorem bfs_fuel {i st n : Nat} {nx ot : List (List Int)} (hm : Mok i st n nx ot) : ∀ (k : Nat) (l : List Nat) (j : Nat), Stt n l → n ≤ k + j → bfs nx i (k + 1) l j = bfs nx i k l j
  | 0, l, j, h, hk => by
    have := h.len
    unfold bfs
    rw [if_neg (by omega)]
  | k + 1, l, j, h, hk => by
    by_cases hj : j < l.length
    · show (if j < l.length then bfs nx i (k + 1) (addR nx (l.getD j 0) l i) (j + 1) else l) = (if j < l.length then bfs nx i k (addR nx (l.getD j 0) l i) (j + 1) else l)
      rw [if_pos hj, if_pos hj]
      exact bfs_fuel hm k _ _ (addR_stt hm h (h.2 _ (getD_mem hj)) i (Nat.le_refl _)) (by omega)
    · show (if j < l.length then bfs nx i (k + 1) (addR nx (l.getD j 0) l i) (j + 1) else l) = (if j < l.length then bfs nx i k (addR nx (l.getD j 0) l i) (j + 1) else l)
      rw [if_neg hj, if_neg hj]
theorem bfs_on {i st n : Nat} {nx ot : List (List Int)} (hm : Mok i st n nx ot) {l : List Nat} {j : Nat} (h : Stt n l) (hj : j < l.length) :
    bfs nx i n (addR nx (l.getD j 0) l i) (j + 1) = bfs nx i n l j := by
  have hn := hm.n1
  have hx := addR_stt hm h (h.2 _ (getD_mem hj)) i (Nat.le_refl _)
  obtain ⟨k, rfl⟩ : ∃ k, n = k + 1 := ⟨n - 1, by omega⟩
  rw [bfs_fuel hm k _ (j + 1) hx (by omega)]
  show _ = (if j < l.length then bfs nx i k (addR nx (l.getD j 0) l i) (j + 1) else l)
  rw [if_pos hj]
theorem bfs_end (nx : List (List Int)) (i : Nat) (k : Nat) {l : List Nat} {j : Nat} (hj : ¬ j < l.length) : bfs nx i k l j = l := by
  cases k with
  | zero => rfl
  | succ k => unfold bfs; rw [if_neg hj]
end Go.Proofs.Ytkkmcgapbcikiaa
end

section
/- Lists that agree; readers that draw more. -/
namespace Go.Proofs.Ytkkmcgapbcikiaa
open Go.RowKit

/-- Two lists agree on the first j. -/
def AgreeL {α : Type} (d : α) (xs ys : List α) (j : Nat) : Prop := ∀ m, m < j → xs.getD m d = ys.getD m d
theorem AgreeL.zero {α : Type} (d : α) (xs ys : List α) : AgreeL d xs ys 0 := fun m h => absurd h (by omega)
theorem AgreeL.succ {α : Type} {d : α} {xs ys : List α} {j : Nat} (h : AgreeL d xs ys j) (e : xs.getD j d = ys.getD j d) : AgreeL d xs ys (j + 1) := fun m hm => by
  by_cases e2 : m = j
  · subst e2; exact e
  · exact h m (by omega)
theorem AgreeL.all {α : Type} {d : α} {xs ys : List α} {n : Nat} (h : AgreeL d xs ys n) (h1 : xs.length = n) (h2 : ys.length = n) : xs = ys := by
  apply List.ext_getElem (by omega)
  intro m a b
  have := h m (by omega)
  rw [List.getD_eq_getElem?_getD, List.getD_eq_getElem?_getD, List.getElem?_eq_getElem a, List.getElem?_eq_getElem b] at this
  exact this

theorem drew_more {w wr : World} (h : ∃ q, wr = w.drewN q) (n : Nat) : ∃ q, wr.drewN n = w.drewN q := by
  obtain ⟨q, rfl⟩ := h
  exact ⟨_, World.drewN_drewN _ _ _⟩
theorem ret_bool {a b : Bool} (h : a = b) : Ending.returned (.bool a) = .returned (.bool b) := by rw [h]
end Go.Proofs.Ytkkmcgapbcikiaa
end

section
/- A machine in memory: isState, and the error of a row, by the two texts. -/
namespace Go.Proofs.Ytkkmcgapbcikiaa
open Go.RowKit

theorem box_cells {w wr : World} {cs : Array Value} {t : TypeId} (hb : Below (w.heap.size + 1) (w.alloc (.cells cs t)) wr) (k : Nat) : wr.cell? ⟨w.heap.size, k, none⟩ = cs[k]? := by
  rw [hb.cell (by simp)]
  exact cell_of_row (w.alloc (.cells cs t)) w.heap.size k cs t (0, 0) (heap_alloc_new w _)
theorem box4 {w wr : World} {a b c d : Value} {t : TypeId} (hb : Below (w.heap.size + 1) (w.alloc (.cells #[a, b, c, d] t)) wr) :
    wr.cell? ⟨w.heap.size, 0, none⟩ = some a ∧ wr.cell? ⟨w.heap.size, 1, none⟩ = some b ∧ wr.cell? ⟨w.heap.size, 2, none⟩ = some c ∧ wr.cell? ⟨w.heap.size, 3, none⟩ = some d :=
  ⟨box_cells hb 0, box_cells hb 1, box_cells hb 2, box_cells hb 3⟩

theorem pisst (i st : Int) (A B : Option Addr) (n c m d : Nat) (s : Int) (b : Bool) (w : World) (_ : n ≤ 17592186044416) (hb : b = decide (0 ≤ s ∧ s < n)) :
    Calls Try.prog 81 #[.agg #[.int .i64 i, .int .i64 st, .slice A n c, .slice B m d], .int .i64 s] w fun e w' => e = .returned (.bool b) ∧ Below w.heap.size w w' := by
  by_cases h1 : 0 ≤ s
  · by_cases h2 : s < n
    · have hf := Lib.hid (hb.trans (decide_eq_true ⟨h1, h2⟩))
      have d2 : decide (s < (n : Int)) = true := decide_eq_true h2
      clear hb
      go_enter Try.func81, Try.ntmps81
      go_wp2
      go_ret
      exact ⟨ret_bool hf.out.symm, alloc_below _ _⟩
    · have hf := Lib.hid (hb.trans (decide_eq_false (fun H => h2 H.2)))
      have d2 : decide (s < (n : Int)) = false := decide_eq_false h2
      clear hb
      go_enter Try.func81, Try.ntmps81
      go_wp2
      go_ret
      exact ⟨ret_bool hf.out.symm, alloc_below _ _⟩
  · have hf := Lib.hid (hb.trans (decide_eq_false (fun H => h1 H.1)))
    have d2 : decide ((0 : Int) ≤ s) = false := decide_eq_false h1
    clear hb
    go_enter Try.func81, Try.ntmps81
    go_wp2
    go_ret
    exact ⟨ret_bool hf.out.symm, alloc_below _ _⟩

set_option maxHeartbeats 2000000 in
set_option maxRecDepth 100000 in
theorem pvstate (i st : Int) (A B : Option Addr) (n c m d : Nat) (nx ot : List (List Int)) (s : Nat) (w : World) (hx : Lists w A n nx) (ho : Lists w B m ot) (hs1 : s < n) (hs2 : s < m) :
    Calls Try.prog 90 #[.agg #[.int .i64 i, .int .i64 st, .slice A n c, .slice B m d], .int .i64 s] w fun e w' => e = .returned (.int .i64 (rowE i n (nx.getD s []) (ot.getD s []))) ∧ Below w.heap.size w w' := by
  have hn := hx.2.1
  have hm := ho.2.1
  obtain ⟨g1, o1, A1, n1, c1, rfl, hg1, hc1, hr1⟩ := hx.at_ hs1
  obtain ⟨g2, o2, A2, n2, c2, rfl, hg2, hc2, hr2⟩ := ho.at_ hs2
  have hb0 := alloc_below w (.cells #[.int .i64 i, .int .i64 st, .slice (some ⟨g1, o1, none⟩) n c, .slice (some ⟨g2, o2, none⟩) m d] 56)
  have hn1 := hr1.2.1
  have hn2 := hr2.2.1
  have L1 := Lib.hid hr1.1
  have L2 := Lib.hid hr2.1
  generalize nx.getD s [] = r at hr1 L1
  generalize ot.getD s [] = o at hr2 L2
  by_cases e1 : (n1 : Int) = i
  · by_cases e2 : (n2 : Int) = i
    · obtain rfl : n1 = n2 := by omega
      subst e1
      clear e2
      have D1 : ((n1 : Int) != (n1 : Int)) = false := by simp
      go_enter Try.func90, Try.ntmps90
      go_wp2
      go_quiet (fail)
      go_wp2
      clear D1
      go_loopw [34] (fun i wr => ∃ j : Nat, j ≤ n1 ∧ i = .int .i64 j ∧ RowOk n r o j ∧ Below (w.heap.size + 1) (w.alloc (.cells #[.int .i64 n1, .int .i64 st, .slice (some ⟨g1, o1, none⟩) n c, .slice (some ⟨g2, o2, none⟩) m d] 56)) wr) (fun i _ => n1 - (intOf i).toNat)
      case atStart => exact ⟨0, Nat.zero_le _, rfl, RowOk.zero _ _ _, below_drewN (Below.refl _ _) _⟩
      case round =>
        obtain ⟨j, hj, rfl, hok, hbr⟩ := hrel
        have hbw := hb0.trans (hbr.mono (Nat.le_succ _))
        have hsz1 : w.heap.size + 1 ≤ wr.heap.size := by have := hbr.size; simpa using this
        have HK := Lib.hid hok
        clear hok
        by_cases hlt : j < n1
        · obtain ⟨b1, p1, rfl, _, hy1⟩ := (hr1.below hbw).at_ hlt
          obtain ⟨b2, p2, rfl, _, hy2⟩ := (hr2.below hbw).at_ hlt
          have hd1 := (hbw.cell (p := ⟨g1, o1 + s, none⟩) hg1).trans hc1
          have hd2 := (hbw.cell (p := ⟨g2, o2 + s, none⟩) hg2).trans hc2
          obtain ⟨k0, k1, k2, k3⟩ := box4 hbr
          have hsuc := fun h1 h2 h3 h4 => HK.out.succ (k := j) h1 h2 h3 h4
          have hbad := fun h => rowE_bad (i := n1) (n := n) (r := r) (o := o) (k := j) ⟨by rw [L1.out], by rw [L2.out]⟩ (by rw [L1.out]; exact hlt) h
          have HS := Lib.hid hsuc
          have HB := Lib.hid hbad
          clear hsuc hbad
          generalize r.getD j 0 = x at hy1 HS HB
          generalize o.getD j 0 = y at hy2 HS HB
          by_cases hx0 : 0 ≤ x ∧ x < n
          · have hdx : (true : Bool) = decide (0 ≤ x ∧ x < n) := (decide_eq_true hx0).symm
            by_cases hy0 : 0 ≤ y
            · by_cases hy3 : y ≤ 1048576
              · have hnx := Lib.hid (HS.out hx0.1 hx0.2 hy0 hy3)
                have hy4 : ¬ y < 0 := by omega
                have hy5 : ¬ 1048576 < y := by omega
                have HD := Lib.hid hdx
                clear hx0 hdx
                go_wp2_with fail
                refine (pisst _ _ _ _ _ _ _ _ _ _ _ hn HD.out).mono ?_
                rintro e w1 ⟨rfl, b1⟩
                go_wp2
                go_roundw
                case rel => exact ⟨j + 1, by omega, by go_num, hnx.out, hbr.trans (b1.mono hsz1)⟩
                case measure => simp [intOf]; omega
              · have hfin := Lib.hid (HB.out (fun H => hy3 H.2.2.2))
                have hy4 : ¬ y < 0 := by omega
                have hy5 : 1048576 < y := by omega
                have HD := Lib.hid hdx
                clear hx0 hdx
                go_wp2_with fail
                refine (pisst _ _ _ _ _ _ _ _ _ _ _ hn HD.out).mono ?_
                rintro e w1 ⟨rfl, b1⟩
                go_wp2
                go_ret
                exact ⟨ret_int hfin.out.symm, bt hbw b1⟩
            · have hfin := Lib.hid (HB.out (fun H => hy0 H.2.2.1))
              have hy4 : y < 0 := by omega
              have HD := Lib.hid hdx
              clear hx0 hdx
              go_wp2_with fail
              refine (pisst _ _ _ _ _ _ _ _ _ _ _ hn HD.out).mono ?_
              rintro e w1 ⟨rfl, b1⟩
              go_wp2
              go_ret
              exact ⟨ret_int hfin.out.symm, bt hbw b1⟩
          · have hfin := Lib.hid (HB.out (fun H => hx0 ⟨H.1, H.2.1⟩))
            have HD := Lib.hid (show (false : Bool) = decide (0 ≤ x ∧ x < n) from (decide_eq_false hx0).symm)
            clear hx0
            go_wp2_with fail
            refine (pisst _ _ _ _ _ _ _ _ _ _ _ hn HD.out).mono ?_
            rintro e w1 ⟨rfl, b1⟩
            go_wp2
            go_ret
            exact ⟨ret_int hfin.out.symm, bt hbw b1⟩
        · obtain rfl : j = n1 := by omega
          have hfin := Lib.hid (rowE_ok (i := j) (n := n) (r := r) (o := o) ⟨by rw [L1.out], by rw [L2.out]⟩ (by rw [L1.out]; exact HK.out))
          go_wp2
          go_ret
          exact ⟨ret_int hfin.out.symm, hbw⟩
    · have hfin := Lib.hid (rowE_len (i := i) (n := n) (r := r) (o := o) (fun H => e2 (by rw [← L2.out]; exact H.2)))
      have D1 : ((n1 : Int) != i) = false := by simp [e1]
      have D2 : ((n2 : Int) != i) = true := by simp [e2]
      clear e1 e2
      go_enter Try.func90, Try.ntmps90
      go_wp2
      go_quiet (fail)
      go_wp2
      go_ret
      exact ⟨ret_int hfin.out.symm, below_drewN hb0 _⟩
  · have hfin := Lib.hid (rowE_len (i := i) (n := n) (r := r) (o := o) (fun H => e1 (by rw [← L1.out]; exact H.1)))
    have D1 : ((n1 : Int) != i) = true := by simp [e1]
    clear e1
    go_enter Try.func90, Try.ntmps90
    go_wp2
    go_quiet (fail)
    go_wp2
    go_ret
    exact ⟨ret_int hfin.out.symm, below_drewN hb0 _⟩
end Go.Proofs.Ytkkmcgapbcikiaa
end

section
/- Valid of a machine, and the reference's row, by the two texts. -/
namespace Go.Proofs.Ytkkmcgapbcikiaa
open Go.RowKit

set_option maxHeartbeats 2000000 in
set_option maxRecDepth 100000 in
theorem rrow (i st : Int) (A B : Option Addr) (n c m d : Nat) (nx ot : List (List Int)) (s : Nat) (w : World) (hx : Lists w A n nx) (ho : Lists w B m ot) (hs1 : s < n) (hs2 : s < m) :
    Calls Try.prog 92 #[.agg #[.int .i64 i, .int .i64 st, .slice A n c, .slice B m d], .int .i64 s] w fun e w' => e = .returned (.int .i64 (rowE i n (nx.getD s []) (ot.getD s []))) ∧ Below w.heap.size w w' := by
  have hn := hx.2.1
  have hm := ho.2.1
  obtain ⟨g1, o1, A1, n1, c1, rfl, hg1, hc1, hr1⟩ := hx.at_ hs1
  obtain ⟨g2, o2, A2, n2, c2, rfl, hg2, hc2, hr2⟩ := ho.at_ hs2
  have hb0 := alloc_below w (.cells #[.int .i64 i, .int .i64 st, .slice (some ⟨g1, o1, none⟩) n c, .slice (some ⟨g2, o2, none⟩) m d] 56)
  have hn1 := hr1.2.1
  have hn2 := hr2.2.1
  have L1 := Lib.hid hr1.1
  have L2 := Lib.hid hr2.1
  generalize nx.getD s [] = r at hr1 L1
  generalize ot.getD s [] = o at hr2 L2
  by_cases e1 : (n1 : Int) = i
  · by_cases e2 : (n2 : Int) = i
    · obtain rfl : n1 = n2 := by omega
      subst e1
      clear e2
      have D1 : ((n1 : Int) != (n1 : Int)) = false := by simp
      go_enter Try.func92, Try.ntmps92
      go_wp2
      go_quiet (fail)
      go_wp2
      clear D1
      go_loopw [5] (fun i wr => ∃ j : Nat, j ≤ n1 ∧ i = .int .i64 j ∧ RowOk n r o j ∧ Below (w.heap.size + 1) (w.alloc (.cells #[.int .i64 n1, .int .i64 st, .slice (some ⟨g1, o1, none⟩) n c, .slice (some ⟨g2, o2, none⟩) m d] 56)) wr) (fun i _ => n1 - (intOf i).toNat)
      case atStart => exact ⟨0, Nat.zero_le _, rfl, RowOk.zero _ _ _, below_drewN (Below.refl _ _) _⟩
      case round =>
        obtain ⟨j, hj, rfl, hok, hbr⟩ := hrel
        have hbw := hb0.trans (hbr.mono (Nat.le_succ _))
        have hsz1 : w.heap.size + 1 ≤ wr.heap.size := by have := hbr.size; simpa using this
        have HK := Lib.hid hok
        clear hok
        obtain ⟨k0, k1, k2, k3⟩ := box4 hbr
        by_cases hlt : j < n1
        · obtain ⟨b1, p1, rfl, _, hy1⟩ := (hr1.below hbw).at_ hlt
          obtain ⟨b2, p2, rfl, _, hy2⟩ := (hr2.below hbw).at_ hlt
          have hd1 := (hbw.cell (p := ⟨g1, o1 + s, none⟩) hg1).trans hc1
          have hd2 := (hbw.cell (p := ⟨g2, o2 + s, none⟩) hg2).trans hc2
          have HS := Lib.hid (fun h1 h2 h3 h4 => HK.out.succ (k := j) h1 h2 h3 h4)
          have HB := Lib.hid (fun h => rowE_bad (i := n1) (n := n) (r := r) (o := o) (k := j) ⟨by rw [L1.out], by rw [L2.out]⟩ (by rw [L1.out]; exact hlt) h)
          generalize r.getD j 0 = x at hy1 HS HB
          generalize o.getD j 0 = y at hy2 HS HB
          by_cases hx1 : 0 ≤ x
          · have t1 : decide (x < 0) = false := by simpa using hx1
            by_cases hx2 : x < n
            · have t2 : decide ((n : Int) ≤ x) = false := by simpa using hx2
              by_cases hy0 : 0 ≤ y
              · have t3 : decide (y < 0) = false := by simpa using hy0
                by_cases hy3 : y ≤ 1048576
                · have t4 : decide (1048576 < y) = false := by simpa using hy3
                  have hnx := Lib.hid (HS.out hx1 hx2 hy0 hy3)
                  go_wp2
                  go_quiet (fail)
                  go_wp2
                  go_roundw
                  case rel => exact ⟨j + 1, by omega, by go_num, hnx.out, below_drewN hbr _⟩
                  case measure => simp [intOf]; omega
                · have t4 : decide (1048576 < y) = true := by simpa using hy3
                  have hfin := Lib.hid (HB.out (fun H => hy3 H.2.2.2))
                  go_wp2
                  go_quiet (fail)
                  go_wp2
                  go_ret
                  exact ⟨ret_int hfin.out.symm, below_drewN hbw _⟩
              · have t3 : decide (y < 0) = true := by simpa using hy0
                have hfin := Lib.hid (HB.out (fun H => hy0 H.2.2.1))
                go_wp2
                go_quiet (fail)
                go_wp2
                go_ret
                exact ⟨ret_int hfin.out.symm, below_drewN hbw _⟩
            · have t2 : decide ((n : Int) ≤ x) = true := by simpa using hx2
              have hfin := Lib.hid (HB.out (fun H => hx2 H.2.1))
              go_wp2
              go_quiet (fail)
              go_wp2
              go_ret
              exact ⟨ret_int hfin.out.symm, below_drewN hbw _⟩
          · have t1 : decide (x < 0) = true := by simpa using hx1
            have hfin := Lib.hid (HB.out (fun H => hx1 H.1))
            go_wp2
            go_quiet (fail)
            go_wp2
            go_ret
            exact ⟨ret_int hfin.out.symm, below_drewN hbw _⟩
        · obtain rfl : j = n1 := by omega
          have hfin := Lib.hid (rowE_ok (i := j) (n := n) (r := r) (o := o) ⟨by rw [L1.out], by rw [L2.out]⟩ (by rw [L1.out]; exact HK.out))
          go_wp2
          go_ret
          exact ⟨ret_int hfin.out.symm, hbw⟩
    · have hfin := Lib.hid (rowE_len (i := i) (n := n) (r := r) (o := o) (fun H => e2 (by rw [← L2.out]; exact H.2)))
      have D1 : ((n1 : Int) != i) = false := by simp [e1]
      have D2 : ((n2 : Int) != i) = true := by simp [e2]
      clear e1 e2
      go_enter Try.func92, Try.ntmps92
      go_wp2
      go_quiet (fail)
      go_wp2
      go_ret
      exact ⟨ret_int hfin.out.symm, below_drewN hb0 _⟩
  · have hfin := Lib.hid (rowE_len (i := i) (n := n) (r := r) (o := o) (fun H => e1 (by rw [← L1.out]; exact H.1)))
    have D1 : ((n1 : Int) != i) = true := by simp [e1]
    clear e1
    go_enter Try.func92, Try.ntmps92
    go_wp2
    go_quiet (fail)
    go_wp2
    go_ret
    exact ⟨ret_int hfin.out.symm, below_drewN hb0 _⟩

set_option maxHeartbeats 2000000 in
set_option maxRecDepth 100000 in
theorem pvalid (i st : Int) (A B : Option Addr) (n c m d : Nat) (nx ot : List (List Int)) (w : World) (hx : Lists w A n nx) (ho : Lists w B m ot) :
    Calls Try.prog 77 #[.agg #[.int .i64 i, .int .i64 st, .slice A n c, .slice B m d]] w fun e w' => e = .returned (.int .i64 (vld i st nx ot)) ∧ Below w.heap.size w w' := by
  have L1 := Lib.hid hx.1
  have L2 := Lib.hid ho.1
  have hn := hx.2.1
  have hm := ho.2.1
  have hb0 := alloc_below w (.cells #[.int .i64 i, .int .i64 st, .slice A n c, .slice B m d] 56)
  have hsz0 : (w.alloc (.cells #[.int .i64 i, .int .i64 st, .slice A n c, .slice B m d] 56)).heap.size = w.heap.size + 1 := by simp
  have HZ := Lib.hid hsz0
  clear hsz0
  by_cases hi : 1 ≤ i ∧ i ≤ 64
  · have HI := Lib.hid hi
    obtain ⟨hi1, hi2⟩ := hi
    have i1 : decide (i < 1) = false := by simpa using hi1
    have i2 : decide (64 < i) = false := by simpa using hi2
    by_cases h0 : n = 0
    · have hfin := Lib.hid (vld_empty (st := st) (ot := ot) HI.out (by rw [L1.out]; exact h0))
      subst h0
      go_enter Try.func77, Try.ntmps77
      go_wp2
      go_ret
      exact ⟨ret_int hfin.out.symm, hb0⟩
    · have z0 : ((n : Int) == 0) = false := by simp; omega
      by_cases h1 : 128 < n
      · have hfin := Lib.hid (vld_many (st := st) (ot := ot) HI.out (by rw [L1.out]; exact h1))
        clear h0
        go_enter Try.func77, Try.ntmps77
        go_wp2
        go_ret
        exact ⟨ret_int hfin.out.symm, hb0⟩
      · have z1 : decide ((128 : Int) < (n : Int)) = false := by simp; omega
        by_cases h2 : 0 ≤ st ∧ st < n
        · have H2 := Lib.hid h2
          have HT := Lib.hid ((decide_eq_true h2).symm)
          by_cases h3 : m = n
          · subst h3
            have z3 : ((m : Int) != (m : Int)) = false := by simp
            have hrows := Lib.hid (vld_rows (i := i) (st := st) (nx := nx) (ot := ot) HI.out (by rw [L1.out]; exact h0) (by rw [L1.out]; exact h1) (by rw [L1.out]; exact H2.out) (by rw [L1.out, L2.out]))
            clear h0 h2
            go_enter Try.func77, Try.ntmps77
            go_wp2_with fail
            refine (pisst _ _ _ _ _ _ _ _ _ _ _ hn HT.out).mono ?_
            rintro e w1 ⟨rfl, b1⟩
            rw [HZ.out] at b1
            obtain ⟨k0, k1, k2, k3⟩ := box4 b1
            go_wp2
            clear k0 k1 k2 k3
            go_loopw [36] (fun x wr => ∃ j : Nat, j ≤ m ∧ x = .int .i64 j ∧ (∀ t, t < j → rowAt i nx ot t = 0) ∧ Below (w.heap.size + 1) (w.alloc (.cells #[.int .i64 i, .int .i64 st, .slice A m c, .slice B m d] 56)) wr) (fun x _ => m - (intOf x).toNat)
            case atStart => exact ⟨0, Nat.zero_le _, rfl, fun t h => absurd h (by omega), b1⟩
            case round =>
              obtain ⟨j, hj, rfl, hok, hbr⟩ := hrel
              have hbw := hb0.trans (hbr.mono (Nat.le_succ _))
              have hsz1 : w.heap.size + 1 ≤ wr.heap.size := by have := hbr.size; simpa using this
              have HK := Lib.hid hok
              clear hok
              obtain ⟨k0, k1, k2, k3⟩ := box4 hbr
              by_cases hlt : j < m
              · have HV := Lib.hid (show rowAt i nx ot j = rowE i m (nx.getD j []) (ot.getD j []) by unfold rowAt; rw [L1.out])
                by_cases he : rowE i m (nx.getD j []) (ot.getD j []) = 0
                · have hnx := Lib.hid (show ∀ t, t < j + 1 → rowAt i nx ot t = 0 from fun t ht => by
                    by_cases e : t = j
                    · subst e; rw [HV.out]; exact he
                    · exact HK.out t (by omega))
                  have HE := Lib.hid he
                  clear he
                  go_wp2_with fail
                  refine (pvstate _ _ _ _ _ _ _ _ _ _ _ _ (hx.below hbw) (ho.below hbw) hlt hlt).mono ?_
                  rintro e w2 ⟨rfl, b2⟩
                  have b3 := hbr.trans (b2.mono hsz1)
                  rw [HE.out]
                  obtain ⟨k0, k1, k2, k3⟩ := box4 b3
                  go_wp2
                  go_roundw
                  case rel => exact ⟨j + 1, by omega, by go_num, hnx.out, b3⟩
                  case measure => simp [intOf]; omega
                · have hfin := Lib.hid (hrows.out.trans (fstE_bad HK.out (by rw [HV.out]; exact he) (by rw [L1.out]; exact hlt)))
                  have he2 : (rowE i m (nx.getD j []) (ot.getD j []) != 0) = true := by simpa using he
                  go_wp2_with fail
                  refine (pvstate _ _ _ _ _ _ _ _ _ _ _ _ (hx.below hbw) (ho.below hbw) hlt hlt).mono ?_
                  rintro e w2 ⟨rfl, b2⟩
                  have b3 := hbr.trans (b2.mono hsz1)
                  have HF := Lib.hid (hfin.out.trans HV.out)
                  clear hfin HV
                  generalize rowE i m (nx.getD j []) (ot.getD j []) = E at he2 he HF
                  clear he
                  go_wp2
                  go_ret
                  exact ⟨ret_int HF.out.symm, hb0.trans (b3.mono (Nat.le_succ _))⟩
              · obtain rfl : j = m := by omega
                have hfin := Lib.hid (hrows.out.trans (fstE_ok (by rw [L1.out]; exact HK.out)))
                go_wp2
                go_ret
                exact ⟨ret_int hfin.out.symm, hbw⟩
          · have z3 : ((m : Int) != (n : Int)) = true := by simp; omega
            have hfin := Lib.hid (vld_out (i := i) (st := st) (nx := nx) (ot := ot) HI.out (by rw [L1.out]; exact h0) (by rw [L1.out]; exact h1) (by rw [L1.out]; exact H2.out) (by rw [L1.out, L2.out]; exact h3))
            clear h0 h3
            go_enter Try.func77, Try.ntmps77
            go_wp2_with fail
            refine (pisst _ _ _ _ _ _ _ _ _ _ _ hn HT.out).mono ?_
            rintro e w1 ⟨rfl, b1⟩
            rw [HZ.out] at b1
            obtain ⟨k0, k1, k2, k3⟩ := box4 b1
            go_wp2
            go_ret
            exact ⟨ret_int hfin.out.symm, hb0.trans (b1.mono (Nat.le_succ _))⟩
        · have hfin := Lib.hid (vld_start (i := i) (st := st) (nx := nx) (ot := ot) HI.out (by rw [L1.out]; exact h0) (by rw [L1.out]; exact h1) (by rw [L1.out]; exact h2))
          have HT := Lib.hid ((decide_eq_false h2).symm)
          clear h0 h2
          go_enter Try.func77, Try.ntmps77
          go_wp2_with fail
          refine (pisst _ _ _ _ _ _ _ _ _ _ _ hn HT.out).mono ?_
          rintro e w1 ⟨rfl, b1⟩
          go_wp2
          go_ret
          exact ⟨ret_int hfin.out.symm, bt hb0 b1⟩
  · have hfin := Lib.hid (vld_in (st := st) (nx := nx) (ot := ot) hi)
    by_cases hi1 : 1 ≤ i
    · have hi2 : 64 < i := by omega
      have t1 : ¬ i < 1 := by omega
      clear hi
      go_enter Try.func77, Try.ntmps77
      go_wp2
      go_ret
      exact ⟨ret_int hfin.out.symm, hb0⟩
    · have t1 : i < 1 := by omega
      clear hi hi1
      go_enter Try.func77, Try.ntmps77
      go_wp2
      go_ret
      exact ⟨ret_int hfin.out.symm, hb0⟩
end Go.Proofs.Ytkkmcgapbcikiaa
end

section
/- append of one number to a row of one's own. -/
namespace Go.Proofs.Ytkkmcgapbcikiaa
open Go.RowKit

theorem Ints.one (w : World) (x : Int) : Ints (w.alloc (.cells #[.int .i64 x] 3)) (some ⟨w.heap.size, 0, none⟩) 1 [x] := Ints.new w [x] _ 1 rfl rfl (by simp)
/-- append of one number to a row of one's own; the runner's block is another. -/
theorem run_append_one {w : World} {base : Nat} {v : Value} {xs : List Int} (h : Owned w base v xs) (x : Int) (hbase : base ≤ w.heap.size) (hl : xs.length < 17592186044416) :
    ∃ A c w', (Builtin.append_ #[36, 36] 36 #[v, .slice (some ⟨w.heap.size, 0, none⟩) 1 1]).run Try.prog (w.alloc (.cells #[.int .i64 x] 3)) = .ok (.slice A (xs.length + 1) c) w' ∧
      Owned w' base (.slice A (xs.length + 1) c) (xs ++ [x]) ∧ Below base w w' ∧ ∀ (g : Nat) (t : TypeId) (cs : Array Value), w.heap[g]? = some (Obj.cells cs t (0, 0)) → t ≠ 3 → w'.heap[g]? = some (Obj.cells cs t (0, 0)) := by
  have hbz := alloc_below w (.cells #[.int .i64 x] 3)
  obtain ⟨v', w', hr, ho', hg, hbel⟩ := run_append_ints _ _ _ _ _ _ _ 1 (h.kept hbz) (Ints.one w x) (Nat.le_trans hbase hbz.size) (by simp; omega)
  obtain ⟨A, c, rfl⟩ := ho'.form
  rw [List.length_append] at hr ho'
  refine ⟨A, c, w', hr, ho', (hbz.mono hbase).trans hbel, fun g t cs hc ht => ?_⟩
  have hlt : g < w.heap.size := by
    rcases Nat.lt_or_ge g w.heap.size with hlt | hge
    · exact hlt
    · rw [Array.getElem?_eq_none hge] at hc; cases hc
  rw [hg.block g (by simp; omega) ?_, hbz.block g hlt]
  · exact hc
  · intro e
    rcases h.2 with ⟨rfl, _⟩ | ⟨g', cap, cur, rfl, _, hh, _⟩
    · cases e
    · have : g = g' := by simpa [Value.ownBlock] using e
      subst this
      rw [hc] at hh
      injection hh with hh
      injection hh with _ h2 _
      exact ht h2
theorem Owned.off {w : World} {base g : Nat} {v : Value} {xs : List Int} {t : TypeId} {cs : Array Value} (h : Owned w base v xs) (hg : w.heap[g]? = some (.cells cs t (0, 0))) (ht : t ≠ 3) (k : Nat) (u : Value) (q : Nat) : Owned ((w.setCell ⟨g, k, none⟩ u).drewN q) base v xs := by
  refine ⟨h.1, ?_⟩
  rcases h.2 with e | ⟨g', cap, cur, hv, hbg, hh, r⟩
  · exact .inl e
  · refine .inr ⟨g', cap, cur, hv, hbg, ?_, r⟩
    show (w.setCell ⟨g, k, none⟩ u).heap[g']? = _
    rw [heap_setCell_other _ _ _ _ ?_]
    · exact hh
    · show g' ≠ g
      intro e
      subst e
      rw [hg] at hh
      injection hh with hh
      injection hh with _ h2 _
      exact ht h2
end Go.Proofs.Ytkkmcgapbcikiaa
end

section
/- Rows of lists that a call owns: what they read as; append of a list. -/
namespace Go.Proofs.Ytkkmcgapbcikiaa
open Go.RowKit

/-- The slice value v is a row of lists in blocks from base on, which the call may write. -/
def OwnedL (w : World) (base : Nat) (v : Value) (xss : List (List Int)) : Prop :=
  ∃ vs : List Value, w.ownsRow base 36 1 v xss.length vs ∧ ∀ j, j < xss.length → ∃ A c, vs[j]? = some (.slice A (xss.getD j []).length c) ∧ Owned w base (.slice A (xss.getD j []).length c) (xss.getD j [])

theorem OwnedL.nil (w : World) (base : Nat) : OwnedL w base (.slice none 0 0) [] := ⟨[], World.ownsRow_nil _ _ _ _, fun j h => absurd h (by simp)⟩
theorem OwnedL.form {w : World} {base : Nat} {v : Value} {xss : List (List Int)} (h : OwnedL w base v xss) : ∃ A c, v = .slice A xss.length c := by
  obtain ⟨vs, h, _⟩ := h
  rcases h.2 with ⟨rfl, h0⟩ | ⟨g, cap, cur, rfl, _⟩
  · have : xss.length = 0 := h0
    exact ⟨none, 0, by rw [this]⟩
  · exact ⟨_, _, rfl⟩
theorem OwnedL.keptT {w w' : World} {base : Nat} {v : Value} {xss : List (List Int)} (h : OwnedL w base v xss) (hk : KeptT 3 w w') (hl : KeptT 36 w w') : OwnedL w' base v xss := by
  obtain ⟨vs, h, hr⟩ := h
  refine ⟨vs, ⟨h.1, ?_⟩, fun j hj => ?_⟩
  · rcases h.2 with e | ⟨g, cap, cur, hv, hbg, hg, r⟩
    · exact .inl e
    · exact .inr ⟨g, cap, cur, hv, hbg, hl g cur hg, r⟩
  · obtain ⟨A, c, h1, h2⟩ := hr j hj
    exact ⟨A, c, h1, h2.keptT hk⟩
theorem OwnedL.kept {w w' : World} {base : Nat} {v : Value} {xss : List (List Int)} (h : OwnedL w base v xss) (hb : Below w.heap.size w w') : OwnedL w' base v xss := h.keptT (KeptT.of_below hb) (KeptT.of_below hb)
theorem OwnedL.lower {w : World} {base base' : Nat} {v : Value} {xss : List (List Int)} (h : OwnedL w base v xss) (hb : base' ≤ base) : OwnedL w base' v xss := by
  obtain ⟨vs, h, hr⟩ := h
  refine ⟨vs, ⟨h.1, ?_⟩, fun j hj => ?_⟩
  · rcases h.2 with e | ⟨g, cap, cur, hv, hbg, r⟩
    · exact .inl e
    · exact .inr ⟨g, cap, cur, hv, by omega, r⟩
  · obtain ⟨A, c, h1, h2⟩ := hr j hj
    exact ⟨A, c, h1, h2.lower hb⟩
theorem OwnedL.lists {w : World} {base : Nat} {A : Option Addr} {n c : Nat} {xss : List (List Int)} (h : OwnedL w base (.slice A n c) xss) (hm : xss.length ≤ 17592186044416) (hr : ∀ xs, xs ∈ xss → xs.length ≤ 17592186044416) : Lists w A n xss := by
  have hn : n = xss.length := by obtain ⟨A', c', e⟩ := h.form; cases e; rfl
  subst hn
  obtain ⟨vs, ho, hv⟩ := h
  refine ⟨rfl, hm, fun h0 => ?_⟩
  rcases ho.2 with ⟨e, h1⟩ | ⟨g, cap, cur, e, _, hg, _⟩
  · have : xss.length = 0 := h1
    omega
  · cases e
    refine ⟨g, 0, rfl, heap_lt hg, fun j hj => ?_⟩
    obtain ⟨A, c, h1, h2⟩ := hv j hj
    have h3 := World.ownsRow.cellAt ho j (by omega)
    refine ⟨A, _, c, ?_, h2.ints (hr _ ?_)⟩
    · rw [Nat.zero_add, h3, h1]
    · rw [List.getD_eq_getElem?_getD, List.getElem?_eq_getElem hj]; exact List.getElem_mem _

theorem OwnedL.lt {w : World} {base : Nat} {v : Value} {xss : List (List Int)} (h : OwnedL w base v xss) : ∀ k, v.ownBlock = some k → base ≤ k ∧ k < w.heap.size := by
  obtain ⟨vs, ho, _⟩ := h
  exact World.ownsRow.lt ho
theorem OwnedL.keptB {w w' : World} {base : Nat} {u v : Value} {xss : List (List Int)} (h : OwnedL w base v xss) (hk : KeptB u.ownBlock w w') (ha : Apart u v) (hi : KeptT 3 w w') : OwnedL w' base v xss := by
  obtain ⟨vs, ho, hr⟩ := h
  refine ⟨vs, ⟨ho.1, ?_⟩, fun j hj => ?_⟩
  · rcases ho.2 with e | ⟨g, cap, cur, hv, hbg, hg, r⟩
    · exact .inl e
    · exact .inr ⟨g, cap, cur, hv, hbg, hk g _ hg (fun e => ha g e (by rw [hv]; rfl)), r⟩
  · obtain ⟨A, c, h1, h2⟩ := hr j hj
    exact ⟨A, c, h1, h2.keptT hi⟩
theorem Apart.moved {w : World} {base : Nat} {v v' u : Value} {xss : List (List Int)} (h : Apart v u) (hm : Moved w v v') (hu : OwnedL w base u xss) : Apart v' u := by
  rcases hm with e | ⟨g, hg, e⟩
  · intro k hk; rw [e] at hk; exact h k hk
  · intro k hk h2
    rw [e] at hk
    injection hk with hk
    have := (hu.lt k h2).2
    omega

/-- append of one list to a row of lists. -/
theorem run_append_list {w : World} {base : Nat} {v : Value} {xss : List (List Int)} {B : Option Addr} {m d : Nat} {xs : List Int} (h : OwnedL w base v xss) (hx : Owned w base (.slice B m d) xs) (hbase : base ≤ w.heap.size) (hl : xss.length < 1759218604441) :
    ∃ A c w', (Builtin.append_ #[54, 54] 54 #[v, .slice (some ⟨w.heap.size, 0, none⟩) 1 1]).run Try.prog (w.alloc (.cells #[.slice B m d] 36)) = .ok (.slice A (xss.length + 1) c) w' ∧
      OwnedL w' base (.slice A (xss.length + 1) c) (xss ++ [xs]) ∧ Below base w w' ∧ (∀ t, t ≠ 36 → KeptT t w w') ∧ KeptB v.ownBlock w w' ∧ Moved w v (.slice A (xss.length + 1) c) := by
  obtain ⟨i, hi, hz0, hz1, hz2⟩ := info_parts infol
  obtain ⟨vs, ho, hv⟩ := h
  have hbz := alloc_below w (.cells #[.slice B m d] 36)
  have ho1 : (w.alloc (.cells #[.slice B m d] 36)).ownsRow base 36 1 v xss.length vs := by
    refine ⟨ho.1, ?_⟩
    rcases ho.2 with e | ⟨g, cap, cur, hv, hbg, hg, r⟩
    · exact .inl e
    · exact .inr ⟨g, cap, cur, hv, hbg, (hbz.block g (heap_lt hg)).trans hg, r⟩
  obtain ⟨v', w', hr, h1, h2, _, hmv⟩ := run_append_own_at (P := Try.prog) (w.alloc (.cells #[.slice B m d] 36)) base 54 54 36 i (.slice none 0 0) 1 24 Try.underlying54 hi hz0 hz1 hz2 rfl (by decide) v _ _ ho1 ⟨w.heap.size, 0, none⟩ 1 1 [.slice B m d] (by simp)
    (by
      intro j u hu
      cases j with
      | zero =>
        simp at hu
        subst hu
        simp [Addr.add]
      | succ j => simp at hu)
    (by intro u hu; simp at hu; subst hu; rfl) (by unfold maxLen; omega) (by omega) (Nat.le_trans hbase hbz.size)
  have hs : ∀ t, t ≠ 36 → KeptT t w w' := fun t ht => (KeptT.of_below hbz).trans (KeptT.grown h2 ho1 ht)
  have hform : ∃ A c, v' = .slice A (xss.length + 1) c := by
    rcases h1.2 with ⟨rfl, h0⟩ | ⟨g, cap, cur, rfl, _⟩
    · have := h1.1; rw [h0] at this; simp at this
    · exact ⟨_, _, rfl⟩
  obtain ⟨A, c, rfl⟩ := hform
  have hkb : KeptB v.ownBlock w w' := fun g o e hne => (h2.block g (Nat.lt_of_lt_of_le (heap_lt e) hbz.size) (fun e2 => hne e2.symm)).trans ((hbz.block g (heap_lt e)).trans e)
  have hmoved : Moved w v (.slice A (xss.length + 1) c) := by
    rcases hmv with e | e
    · exact .inl e
    · exact .inr ⟨_, by simp, e⟩
  have hn : m = xs.length := by obtain ⟨A', c', e⟩ := hx.form; cases e; rfl
  subst hn
  refine ⟨A, c, w', hr, ⟨vs ++ [.slice B xs.length d], by rw [List.length_append]; exact h1, fun j hj => ?_⟩, (hbz.mono hbase).trans ((Below.refl _ _).grown h2 (Nat.le_trans hbase hbz.size) (fun k hk => (World.ownsRow.lt ho1 k hk).1)), hs, hkb, hmoved⟩
  have hvl : vs.length = xss.length := by have := ho.1; omega
  by_cases e : j < xss.length
  · obtain ⟨A2, c2, h3, h4⟩ := hv j e
    have hg : (xss ++ [xs]).getD j [] = xss.getD j [] := by rw [List.getD_eq_getElem?_getD, List.getD_eq_getElem?_getD, List.getElem?_append_left e]
    rw [hg]
    exact ⟨A2, c2, by rw [List.getElem?_append_left (by omega)]; exact h3, h4.keptT (hs _ (by decide))⟩
  · have hjl : j = xss.length := by simp at hj; omega
    subst hjl
    have hg : (xss ++ [xs]).getD xss.length [] = xs := by simp
    rw [hg]
    exact ⟨B, d, by rw [List.getElem?_append_right (by omega), hvl]; simp, hx.keptT (hs _ (by decide))⟩

set_option maxHeartbeats 1000000 in
set_option maxRecDepth 100000 in
/-- Clone of a list. -/
theorem sclone (A : Option Addr) (n c : Nat) (xs : List Int) (w : World) (hx : Ints w A n xs) :
    Calls Try.prog 47 #[.slice A n c] w fun e w' => ∃ A' c', e = .returned (.slice A' n c') ∧ Owned w' w.heap.size (.slice A' n c') xs ∧ Below w.heap.size w w' := by
  have L := Lib.hid hx.1
  have hn := hx.2.1
  cases A with
  | none =>
    have h0 : n = 0 := by
      rcases Nat.eq_zero_or_pos n with h | h
      · exact h
      · obtain ⟨b, off, e, _⟩ := hx.2.2 h; cases e
    subst h0
    obtain rfl : xs = [] := List.eq_nil_of_length_eq_zero L.out
    have he := fun W => Lib.run_eql_slice_nil (P := Try.prog) W 36 3 none 0 c 0 0 Try.underlying36
    go_enter Try.func47, Try.ntmps47
    go_wp2
    go_ret
    exact ⟨none, 0, rfl, Owned.nil _ _, Below.refl _ _⟩
  | some a =>
    have hb0 := alloc_below w (.cells #[] 3)
    have ho := Owned.literal w w.heap.size [] #[] 0 (Nat.le_refl _) rfl rfl (by simp)
    obtain ⟨v', w', hr, ho', _, hb'⟩ := run_append_ints _ _ _ _ _ _ _ c ho (hx.below hb0) hb0.size (by rw [List.nil_append, L.out]; exact hn)
    obtain ⟨A', c', rfl⟩ := ho'.form
    rw [List.nil_append, L.out] at hr ho'
    have hB := Lib.hid (hb0.trans hb')
    have HO := Lib.hid ho'
    clear ho hb0 hb' ho'
    have he := fun W => Lib.run_eql_slice_nil (P := Try.prog) W 36 3 (some a) n c 0 0 Try.underlying36
    go_enter Try.func47, Try.ntmps47
    go_wp2_with (at_builtin; refine Lib.wpList_append_run _ rfl _ _ _ _ rfl _ _ rfl rfl _ _ hr ?_)
    go_ret
    exact ⟨A', c', rfl, HO.out, hB.out⟩
end Go.Proofs.Ytkkmcgapbcikiaa
end

section
/- Rows of traces that a call owns. -/
namespace Go.Proofs.Ytkkmcgapbcikiaa
open Go.RowKit

theorem infot : (Try.prog.info? 38).map (fun i => (i.zero, i.size, i.bytes)) = some (some (.agg #[.slice none 0 0, .slice none 0 0]), 2, 48) := by kernel_rfl

/-- The slice value v is a row of traces in blocks from base on, which the call may write. -/
def OwnedT (w : World) (base : Nat) (v : Value) (ts : List (List Int × List Int)) : Prop :=
  ∃ vs : List Value, w.ownsRow base 38 2 v ts.length vs ∧ ∀ j, j < ts.length → ∃ A c B d, vs[2 * j]? = some (.slice A (ts.getD j ([], [])).1.length c) ∧ vs[2 * j + 1]? = some (.slice B (ts.getD j ([], [])).2.length d) ∧
    Owned w base (.slice A (ts.getD j ([], [])).1.length c) (ts.getD j ([], [])).1 ∧ Owned w base (.slice B (ts.getD j ([], [])).2.length d) (ts.getD j ([], [])).2
theorem OwnedT.nil (w : World) (base : Nat) : OwnedT w base (.slice none 0 0) [] := ⟨[], World.ownsRow_nil _ _ _ _, fun j h => absurd h (by simp)⟩
theorem OwnedT.form {w : World} {base : Nat} {v : Value} {ts : List (List Int × List Int)} (h : OwnedT w base v ts) : ∃ A c, v = .slice A ts.length c := by
  obtain ⟨vs, h, _⟩ := h
  rcases h.2 with ⟨rfl, h0⟩ | ⟨g, cap, cur, rfl, _⟩
  · have : ts.length = 0 := h0
    exact ⟨none, 0, by rw [this]⟩
  · exact ⟨_, _, rfl⟩
theorem OwnedT.keptT {w w' : World} {base : Nat} {v : Value} {ts : List (List Int × List Int)} (h : OwnedT w base v ts) (hk : KeptT 3 w w') (hl : KeptT 38 w w') : OwnedT w' base v ts := by
  obtain ⟨vs, h, hr⟩ := h
  refine ⟨vs, ⟨h.1, ?_⟩, fun j hj => ?_⟩
  · rcases h.2 with e | ⟨g, cap, cur, hv, hbg, hg, r⟩
    · exact .inl e
    · exact .inr ⟨g, cap, cur, hv, hbg, hl g cur hg, r⟩
  · obtain ⟨A, c, B, d, h1, h2, h3, h4⟩ := hr j hj
    exact ⟨A, c, B, d, h1, h2, h3.keptT hk, h4.keptT hk⟩
theorem OwnedT.kept {w w' : World} {base : Nat} {v : Value} {ts : List (List Int × List Int)} (h : OwnedT w base v ts) (hb : Below w.heap.size w w') : OwnedT w' base v ts := h.keptT (KeptT.of_below hb) (KeptT.of_below hb)
theorem OwnedT.lower {w : World} {base base' : Nat} {v : Value} {ts : List (List Int × List Int)} (h : OwnedT w base v ts) (hb : base' ≤ base) : OwnedT w base' v ts := by
  obtain ⟨vs, h, hr⟩ := h
  refine ⟨vs, ⟨h.1, ?_⟩, fun j hj => ?_⟩
  · rcases h.2 with e | ⟨g, cap, cur, hv, hbg, r⟩
    · exact .inl e
    · exact .inr ⟨g, cap, cur, hv, by omega, r⟩
  · obtain ⟨A, c, B, d, h1, h2, h3, h4⟩ := hr j hj
    exact ⟨A, c, B, d, h1, h2, h3.lower hb, h4.lower hb⟩
theorem OwnedT.drew {w : World} {base : Nat} {v : Value} {ts : List (List Int × List Int)} (h : OwnedT w base v ts) (q : Nat) : OwnedT (w.drewN q) base v ts := h

/-- append of one trace to a row of traces. -/
theorem run_append_trace {w : World} {base : Nat} {v : Value} {ts : List (List Int × List Int)} {A B : Option Addr} {m c n d : Nat} {xs ys : List Int} (h : OwnedT w base v ts) (hx : Owned w base (.slice A m c) xs) (hy : Owned w base (.slice B n d) ys) (hbase : base ≤ w.heap.size) (hl : ts.length < 1000000000) :
    ∃ A' c' w', (Builtin.append_ #[22, 22] 22 #[v, .slice (some ⟨w.heap.size, 0, none⟩) 1 1]).run Try.prog (w.alloc (.cells #[.slice A m c, .slice B n d] 38)) = .ok (.slice A' (ts.length + 1) c') w' ∧
      OwnedT w' base (.slice A' (ts.length + 1) c') (ts ++ [(xs, ys)]) ∧ Below base w w' ∧ ∀ t, t ≠ 38 → KeptT t w w' := by
  obtain ⟨i, hi, hz0, hz1, hz2⟩ := info_parts infot
  obtain ⟨vs, ho, hv⟩ := h
  have hbz := alloc_below w (.cells #[.slice A m c, .slice B n d] 38)
  have ho1 : (w.alloc (.cells #[.slice A m c, .slice B n d] 38)).ownsRow base 38 2 v ts.length vs := by
    refine ⟨ho.1, ?_⟩
    rcases ho.2 with e | ⟨g, cap, cur, hv, hbg, hg, r⟩
    · exact .inl e
    · exact .inr ⟨g, cap, cur, hv, hbg, (hbz.block g (heap_lt hg)).trans hg, r⟩
  obtain ⟨v', w', hr, h1, h2, _, hmv⟩ := run_append_own_at (P := Try.prog) (w.alloc (.cells #[.slice A m c, .slice B n d] 38)) base 22 22 38 i _ 2 48 Try.underlying22 hi hz0 hz1 hz2 rfl (by decide) v _ _ ho1 ⟨w.heap.size, 0, none⟩ 1 1 [.slice A m c, .slice B n d] (by simp)
    (by
      intro j u hu
      match j with
      | 0 =>
        simp at hu
        subst hu
        simp [Addr.add]
      | 1 =>
        simp at hu
        subst hu
        simp [Addr.add]
      | j + 2 => simp at hu)
    (by intro u hu; simp at hu; rcases hu with rfl | rfl <;> rfl) (by unfold maxLen; omega) (by omega) (Nat.le_trans hbase hbz.size)
  have hs : ∀ t, t ≠ 38 → KeptT t w w' := fun t ht => (KeptT.of_below hbz).trans (KeptT.grown h2 ho1 ht)
  have hform : ∃ A c, v' = .slice A (ts.length + 1) c := by
    rcases h1.2 with ⟨rfl, h0⟩ | ⟨g, cap, cur, rfl, _⟩
    · have := h1.1; rw [h0] at this; simp at this
    · exact ⟨_, _, rfl⟩
  obtain ⟨A', c', rfl⟩ := hform
  have hm : m = xs.length := by obtain ⟨A', c', e⟩ := hx.form; cases e; rfl
  have hn : n = ys.length := by obtain ⟨A', c', e⟩ := hy.form; cases e; rfl
  subst hm hn
  refine ⟨A', c', w', hr, ⟨vs ++ [.slice A xs.length c, .slice B ys.length d], by rw [List.length_append]; exact h1, fun j hj => ?_⟩, (hbz.mono hbase).trans ((Below.refl _ _).grown h2 (Nat.le_trans hbase hbz.size) (fun k hk => (World.ownsRow.lt ho1 k hk).1)), hs⟩
  have hvl : vs.length = 2 * ts.length := by have := ho.1; omega
  by_cases e : j < ts.length
  · obtain ⟨A2, c2, B2, d2, h3, h4, h5, h6⟩ := hv j e
    have hg : (ts ++ [(xs, ys)]).getD j ([], []) = ts.getD j ([], []) := by rw [List.getD_eq_getElem?_getD, List.getD_eq_getElem?_getD, List.getElem?_append_left e]
    rw [hg]
    exact ⟨A2, c2, B2, d2, by rw [List.getElem?_append_left (by omega)]; exact h3, by rw [List.getElem?_append_left (by omega)]; exact h4, h5.keptT (hs _ (by decide)), h6.keptT (hs _ (by decide))⟩
  · have hjl : j = ts.length := by simp at hj; omega
    subst hjl
    have hg : (ts ++ [(xs, ys)]).getD ts.length ([], []) = (xs, ys) := by simp
    rw [hg]
    exact ⟨A, c, B, d, by rw [List.getElem?_append_right (by omega), hvl]; simp, by rw [List.getElem?_append_right (by omega), hvl, show 2 * ts.length + 1 - 2 * ts.length = 1 by omega]; rfl, hx.keptT (hs _ (by decide)), hy.keptT (hs _ (by decide))⟩
end Go.Proofs.Ytkkmcgapbcikiaa
end

section
/- What is observed after a word: the list, and a row of headers of traces. -/
namespace Go.Proofs.Ytkkmcgapbcikiaa
open Go.RowKit

theorem tIn_left {l r : List (List Int × List Int)} {j : Nat} (h : j < l.length) : tIn (l ++ r) j = tIn l j := by unfold tIn; rw [List.getD_eq_getElem?_getD, List.getD_eq_getElem?_getD, List.getElem?_append_left h]
theorem tOut_left {l r : List (List Int × List Int)} {j : Nat} (h : j < l.length) : tOut (l ++ r) j = tOut l j := by unfold tOut; rw [List.getD_eq_getElem?_getD, List.getD_eq_getElem?_getD, List.getElem?_append_left h]
theorem tIn_end (l : List (List Int × List Int)) (t : List Int × List Int) : tIn (l ++ [t]) l.length = t.1 := by unfold tIn; simp
theorem tOut_end (l : List (List Int × List Int)) (t : List Int × List Int) : tOut (l ++ [t]) l.length = t.2 := by unfold tOut; simp

/-- What the first k traces say after u. -/
def aftK (ts : List (List Int × List Int)) (u : List Int) : Nat → List (List Int × List Int)
  | 0 => []
  | k + 1 => if u.length < (tIn ts k).length ∧ cmn (tIn ts k) u = u.length then aftK ts u k ++ [((tIn ts k).drop u.length, (tOut ts k).drop u.length)] else aftK ts u k
theorem aftK_len (ts : List (List Int × List Int)) (u : List Int) (k : Nat) : (aftK ts u k).length ≤ k := by
  induction k with
  | zero => simp [aftK]
  | succ k ih =>
    rw [aftK]
    split
    · rw [List.length_append]; simp; omega
    · omega
theorem aftK_yes {ts : List (List Int × List Int)} {u : List Int} {k : Nat} (h1 : u.length < (tIn ts k).length) (h2 : cmn (tIn ts k) u = u.length) : aftK ts u (k + 1) = aftK ts u k ++ [((tIn ts k).drop u.length, (tOut ts k).drop u.length)] := by rw [aftK, if_pos ⟨h1, h2⟩]
theorem aftK_no {ts : List (List Int × List Int)} {u : List Int} {k : Nat} (h : ¬ (u.length < (tIn ts k).length ∧ cmn (tIn ts k) u = u.length)) : aftK ts u (k + 1) = aftK ts u k := by rw [aftK, if_neg h]
/-- Where they come from. -/
theorem aftK_at {ts : List (List Int × List Int)} {u : List Int} (k : Nat) : ∀ j, j < (aftK ts u k).length → ∃ s, s < k ∧ u.length < (tIn ts s).length ∧ cmn (tIn ts s) u = u.length ∧ tIn (aftK ts u k) j = (tIn ts s).drop u.length ∧ tOut (aftK ts u k) j = (tOut ts s).drop u.length := by
  induction k with
  | zero => intro j hj; simp [aftK] at hj
  | succ k ih =>
    intro j hj
    by_cases h : u.length < (tIn ts k).length ∧ cmn (tIn ts k) u = u.length
    · rw [aftK_yes h.1 h.2] at hj ⊢
      rw [List.length_append] at hj
      simp at hj
      rcases Nat.lt_or_ge j (aftK ts u k).length with hlt | hge
      · obtain ⟨s, h1, h2, h3, h4, h5⟩ := ih j hlt
        refine ⟨s, by omega, h2, h3, ?_, ?_⟩
        · rw [tIn_left hlt]; exact h4
        · rw [tOut_left hlt]; exact h5
      · have e : j = (aftK ts u k).length := by omega
        subst e
        exact ⟨k, by omega, h.1, h.2, tIn_end _ _, tOut_end _ _⟩
    · rw [aftK_no h] at hj ⊢
      obtain ⟨s, h1, h2⟩ := ih j hj
      exact ⟨s, by omega, h2⟩
theorem aftK_has {ts : List (List Int × List Int)} {u : List Int} {k s : Nat} (hs : s < k) (h1 : u.length < (tIn ts s).length) (h2 : cmn (tIn ts s) u = u.length) : ∃ j, j < (aftK ts u k).length ∧ tIn (aftK ts u k) j = (tIn ts s).drop u.length ∧ tOut (aftK ts u k) j = (tOut ts s).drop u.length := by
  induction k with
  | zero => omega
  | succ k ih =>
    by_cases h : u.length < (tIn ts k).length ∧ cmn (tIn ts k) u = u.length
    · rw [aftK_yes h.1 h.2]
      rcases Nat.lt_or_ge s k with hlt | hge
      · obtain ⟨j, hj, h4, h5⟩ := ih hlt
        refine ⟨j, by rw [List.length_append]; omega, ?_, ?_⟩
        · rw [tIn_left hj]; exact h4
        · rw [tOut_left hj]; exact h5
      · have e : s = k := by omega
        subst e
        exact ⟨(aftK ts u s).length, by rw [List.length_append]; simp, tIn_end _ _, tOut_end _ _⟩
    · rw [aftK_no h]
      rcases Nat.lt_or_ge s k with hlt | hge
      · exact ih hlt
      · exact absurd (by rw [show k = s by omega]; exact ⟨h1, h2⟩) h
theorem aftK_full {ts : List (List Int × List Int)} {u : List Int} {k : Nat} (hF : Full ts) (hk : k ≤ ts.length) : Full (aftK ts u k) := fun j hj => by
  obtain ⟨s, h1, _, _, h4, h5⟩ := aftK_at k j hj
  rw [h4, h5, List.length_drop, List.length_drop, hF s (by omega)]
theorem cut_pre {x u : List Int} (h : cmn x u = u.length) : u ++ x.drop u.length = x := by
  have h1 : u <+: x := pre_cmn.2 (by rw [cmn_comm]; exact h)
  obtain ⟨r, rfl⟩ := h1
  simp
theorem shlex_drop {x y u : List Int} (hx : cmn x u = u.length) (hy : cmn y u = u.length) : shlex (x.drop u.length) (y.drop u.length) = shlex x y := by
  have := shlex_join u (x.drop u.length) (y.drop u.length)
  rw [cut_pre hx, cut_pre hy] at this
  exact this.symm
theorem aftK_srt {ts : List (List Int × List Int)} {u : List Int} (hS : Srt ts) (k : Nat) (hk : k ≤ ts.length) : Srt (aftK ts u k) := by
  induction k with
  | zero => intro i j _ hj; simp [aftK] at hj
  | succ k ih =>
    by_cases h : u.length < (tIn ts k).length ∧ cmn (tIn ts k) u = u.length
    · intro i j hij hj
      rw [aftK_yes h.1 h.2] at hj ⊢
      rw [List.length_append] at hj
      simp at hj
      have hi : i < (aftK ts u k).length := by omega
      have e1 := tIn_left (r := [((tIn ts k).drop u.length, (tOut ts k).drop u.length)]) hi
      rw [e1]
      rcases Nat.lt_or_ge j (aftK ts u k).length with hlt | hge
      · have e2 := tIn_left (r := [((tIn ts k).drop u.length, (tOut ts k).drop u.length)]) hlt
        rw [e2]
        exact ih (by omega) i j hij hlt
      · have e : j = (aftK ts u k).length := by omega
        subst e
        have e2 := tIn_end (aftK ts u k) ((tIn ts k).drop u.length, (tOut ts k).drop u.length)
        rw [e2]
        show shlex _ ((tIn ts k).drop u.length) < 0
        obtain ⟨s, h1, h2, h3, h4, _⟩ := aftK_at k i hi
        rw [h4, shlex_drop h3 h.2]
        exact hS s k h1 (by omega)
    · rw [aftK_no h]
      exact ih (by omega)

theorem Ints.drop {w : World} {b off n k : Nat} {xs : List Int} (h : Ints w (some ⟨b, off, none⟩) n xs) (hk : k ≤ n) : Ints w (some ⟨b, off + k, none⟩) (n - k) (xs.drop k) := by
  refine ⟨by rw [List.length_drop, h.1], by have := h.2.1; omega, fun h0 => ?_⟩
  obtain ⟨b', o', e, hlt, hc⟩ := h.2.2 (by omega)
  cases e
  refine ⟨b, off + k, rfl, hlt, fun j hj => ?_⟩
  have := hc (k + j) (by omega)
  rw [← Nat.add_assoc] at this
  rw [this]
  congr 2
  rw [List.getD_eq_getElem?_getD, List.getD_eq_getElem?_getD, List.getElem?_drop]

/-- The slice value v is a row of headers of traces in blocks from base on, which the call may write; the numbers lie in the memory of w0. -/
def TrsH (w0 w : World) (base : Nat) (v : Value) (ts : List (List Int × List Int)) : Prop :=
  ∃ vs : List Value, w.ownsRow base 38 2 v ts.length vs ∧ ∀ j, j < ts.length → ∃ A1 n1 c1 A2 n2 c2, vs[2 * j]? = some (.slice A1 n1 c1) ∧ vs[2 * j + 1]? = some (.slice A2 n2 c2) ∧ n1 ≤ c1 ∧ n2 ≤ c2 ∧ Ints w0 A1 n1 (tIn ts j) ∧ Ints w0 A2 n2 (tOut ts j)
theorem TrsH.nil (w0 w : World) (base : Nat) : TrsH w0 w base (.slice none 0 0) [] := ⟨[], World.ownsRow_nil _ _ _ _, fun j h => absurd h (by simp)⟩
theorem TrsH.form {w0 w : World} {base : Nat} {v : Value} {ts : List (List Int × List Int)} (h : TrsH w0 w base v ts) : ∃ A c, v = .slice A ts.length c := by
  obtain ⟨vs, h, _⟩ := h
  rcases h.2 with ⟨rfl, h0⟩ | ⟨g, cap, cur, rfl, _⟩
  · have : ts.length = 0 := h0
    exact ⟨none, 0, by rw [this]⟩
  · exact ⟨_, _, rfl⟩
theorem TrsH.keptT {w0 w w' : World} {base : Nat} {v : Value} {ts : List (List Int × List Int)} (h : TrsH w0 w base v ts) (hl : KeptT 38 w w') : TrsH w0 w' base v ts := by
  obtain ⟨vs, h, hr⟩ := h
  refine ⟨vs, ⟨h.1, ?_⟩, hr⟩
  rcases h.2 with e | ⟨g, cap, cur, hv, hbg, hg, r⟩
  · exact .inl e
  · exact .inr ⟨g, cap, cur, hv, hbg, hl g cur hg, r⟩
theorem TrsH.lower {w0 w : World} {base base' : Nat} {v : Value} {ts : List (List Int × List Int)} (h : TrsH w0 w base v ts) (hb : base' ≤ base) : TrsH w0 w base' v ts := by
  obtain ⟨vs, h, hr⟩ := h
  refine ⟨vs, ⟨h.1, ?_⟩, hr⟩
  rcases h.2 with e | ⟨g, cap, cur, hv, hbg, r⟩
  · exact .inl e
  · exact .inr ⟨g, cap, cur, hv, by omega, r⟩
theorem TrsH.trs {w0 w : World} {base : Nat} {A : Option Addr} {n c : Nat} {ts : List (List Int × List Int)} (h : TrsH w0 w base (.slice A n c) ts) (hb : Below w0.heap.size w0 w) (hm : ts.length ≤ 17592186044416) : Trs w A n ts := by
  have hn : n = ts.length := by obtain ⟨A', c', e⟩ := h.form; cases e; rfl
  subst hn
  refine ⟨rfl, hm, fun h0 => ?_⟩
  obtain ⟨vs, ho, hv⟩ := h
  rcases ho.2 with ⟨e, h0'⟩ | ⟨g, cap, cur, e, _, hg, r⟩
  · omega
  · cases e
    refine ⟨g, 0, rfl, heap_lt hg, fun j hj => ?_⟩
    obtain ⟨A1, n1, c1, A2, n2, c2, h1, h2, k1, k2, h3, h4⟩ := hv j hj
    have hl := ho.1
    refine ⟨A1, n1, c1, A2, n2, c2, ?_, ?_, k1, k2, h3.below hb, h4.below hb⟩
    · rw [Nat.zero_add, World.ownsRow.cellAt ho (j * 2) (by omega), Nat.mul_comm, h1]
    · rw [Nat.zero_add, World.ownsRow.cellAt ho (j * 2 + 1) (by omega), Nat.mul_comm j 2, h2]
theorem TrsH.cap {w0 w : World} {base : Nat} {A : Option Addr} {n c : Nat} {ts : List (List Int × List Int)} (h : TrsH w0 w base (.slice A n c) ts) : n ≤ c := by
  obtain ⟨vs, ho, hv⟩ := h
  rcases ho.2 with ⟨e, h0⟩ | ⟨g, cap, cur, e, _, hg, r⟩
  · cases e; exact Nat.le_refl _
  · cases e; have h1 := ho.1; have h2 := r; omega

theorem TrsH.own {w0 w : World} {base g : Nat} {v : Value} {ts : List (List Int × List Int)} (h : TrsH w0 w base v ts) (hg : v.ownBlock = some g) : g < w.heap.size := by
  obtain ⟨vs, ho, _⟩ := h
  exact (World.ownsRow.lt ho g hg).2
/-- append of one header to a row of headers. -/
theorem run_append_hdr {w0 w : World} {base : Nat} {v : Value} {ts : List (List Int × List Int)} {A B : Option Addr} {m c n d : Nat} {xs ys : List Int} (h : TrsH w0 w base v ts) (hx : Ints w0 A m xs) (hy : Ints w0 B n ys) (hmc : m ≤ c) (hnd : n ≤ d) (hbase : base ≤ w.heap.size) (hl : ts.length < 1000000000) :
    ∃ A' c' w', (Builtin.append_ #[22, 22] 22 #[v, .slice (some ⟨w.heap.size, 0, none⟩) 1 1]).run Try.prog (w.alloc (.cells #[.slice A m c, .slice B n d] 38)) = .ok (.slice A' (ts.length + 1) c') w' ∧
      TrsH w0 w' base (.slice A' (ts.length + 1) c') (ts ++ [(xs, ys)]) ∧ Below base w w' ∧ (∀ t, t ≠ 38 → KeptT t w w') ∧ ∀ g, g < w.heap.size → v.ownBlock ≠ some g → w'.heap[g]? = w.heap[g]? := by
  obtain ⟨i, hi, hz0, hz1, hz2⟩ := info_parts infot
  obtain ⟨vs, ho, hv⟩ := h
  have hbz := alloc_below w (.cells #[.slice A m c, .slice B n d] 38)
  have ho1 : (w.alloc (.cells #[.slice A m c, .slice B n d] 38)).ownsRow base 38 2 v ts.length vs := by
    refine ⟨ho.1, ?_⟩
    rcases ho.2 with e | ⟨g, cap, cur, hv, hbg, hg, r⟩
    · exact .inl e
    · exact .inr ⟨g, cap, cur, hv, hbg, (hbz.block g (heap_lt hg)).trans hg, r⟩
  obtain ⟨v', w', hr, h1, h2, _, hmv⟩ := run_append_own_at (P := Try.prog) (w.alloc (.cells #[.slice A m c, .slice B n d] 38)) base 22 22 38 i _ 2 48 Try.underlying22 hi hz0 hz1 hz2 rfl (by decide) v _ _ ho1 ⟨w.heap.size, 0, none⟩ 1 1 [.slice A m c, .slice B n d] (by simp)
    (by
      intro j u hu
      match j with
      | 0 =>
        simp at hu
        subst hu
        simp [Addr.add]
      | 1 =>
        simp at hu
        subst hu
        simp [Addr.add]
      | j + 2 => simp at hu)
    (by intro u hu; simp at hu; rcases hu with rfl | rfl <;> rfl) (by unfold maxLen; omega) (by omega) (Nat.le_trans hbase hbz.size)
  have hs : ∀ t, t ≠ 38 → KeptT t w w' := fun t ht => (KeptT.of_below hbz).trans (KeptT.grown h2 ho1 ht)
  have hform : ∃ A c, v' = .slice A (ts.length + 1) c := by
    rcases h1.2 with ⟨rfl, h0⟩ | ⟨g, cap, cur, rfl, _⟩
    · have := h1.1; rw [h0] at this; simp at this
    · exact ⟨_, _, rfl⟩
  obtain ⟨A', c', rfl⟩ := hform
  refine ⟨A', c', w', hr, ⟨vs ++ [.slice A m c, .slice B n d], by rw [List.length_append]; exact h1, fun j hj => ?_⟩, (hbz.mono hbase).trans ((Below.refl _ _).grown h2 (Nat.le_trans hbase hbz.size) (fun k hk => (World.ownsRow.lt ho1 k hk).1)), hs, fun g hg hn => (h2.block g (Nat.lt_of_lt_of_le hg hbz.size) (fun e => hn e.symm)).trans (hbz.block g hg)⟩
  have hvl : vs.length = 2 * ts.length := by have := ho.1; omega
  by_cases e : j < ts.length
  · obtain ⟨A2, n2, c2, B2, m2, d2, h3, h4, q1, q2, h5, h6⟩ := hv j e
    have hg1 := tIn_left (r := [(xs, ys)]) e
    have hg2 := tOut_left (r := [(xs, ys)]) e
    rw [hg1, hg2]
    exact ⟨A2, n2, c2, B2, m2, d2, by rw [List.getElem?_append_left (by omega)]; exact h3, by rw [List.getElem?_append_left (by omega)]; exact h4, q1, q2, h5, h6⟩
  · have hjl : j = ts.length := by simp at hj; omega
    subst hjl
    have hg1 := tIn_end ts (xs, ys)
    have hg2 := tOut_end ts (xs, ys)
    rw [hg1, hg2]
    exact ⟨A, m, c, B, n, d, by rw [List.getElem?_append_right (by omega), hvl]; simp, by rw [List.getElem?_append_right (by omega), hvl, show 2 * ts.length + 1 - 2 * ts.length = 1 by omega]; rfl, hmc, hnd, hx, hy⟩
end Go.Proofs.Ytkkmcgapbcikiaa
end

section
/- word.Lex and word.Compare. -/
namespace Go.Proofs.Ytkkmcgapbcikiaa
open Go.RowKit

theorem isnan (k : Int) (w : World) : Calls Try.prog 83 #[.int .i64 k] w fun e w' => e = .returned (.bool false) ∧ w = w' := by
  go_enter Try.func83, Try.ntmps83
  go_wp2
  go_ret
  exact ⟨rfl, rfl⟩

theorem ccmp (a b : Int) (w : World) : Calls Try.prog 62 #[.int .i64 a, .int .i64 b] w fun e w' => e = .returned (.int .i64 (cmpI a b)) ∧ w = w' := by
  by_cases h : a < b
  · have H := Lib.hid (show cmpI a b = -1 by unfold cmpI; rw [if_pos h])
    go_enter Try.func62, Try.ntmps62
    go_wp2_with (go_at_call 83; refine (isnan _ _).mono ?_; rintro e w' ⟨rfl, rfl⟩)
    go_ret
    exact ⟨ret_int H.out.symm, rfl⟩
  · by_cases h' : b < a
    · have H := Lib.hid (show cmpI a b = 1 by unfold cmpI; rw [if_neg h, if_pos h'])
      go_enter Try.func62, Try.ntmps62
      go_wp2_with (go_at_call 83; refine (isnan _ _).mono ?_; rintro e w' ⟨rfl, rfl⟩)
      go_ret
      exact ⟨ret_int H.out.symm, rfl⟩
    · have H := Lib.hid (show cmpI a b = 0 by unfold cmpI; rw [if_neg h, if_neg h'])
      go_enter Try.func62, Try.ntmps62
      go_wp2_with (go_at_call 83; refine (isnan _ _).mono ?_; rintro e w' ⟨rfl, rfl⟩)
      go_ret
      exact ⟨ret_int H.out.symm, rfl⟩

theorem cmpI_zero {a b : Int} (h : a = b) : cmpI a b = 0 := by unfold cmpI; rw [if_neg (by omega), if_neg (by omega)]
theorem cmpI_ne {a b : Int} (h : a ≠ b) : cmpI a b ≠ 0 := by unfold cmpI; split; decide; split; decide; omega

set_option maxHeartbeats 400000 in
theorem scompare (A B : Option Addr) (n c m d : Nat) (xs ys : List Int) (w : World) (hx : Ints w A n xs) (hy : Ints w B m ys) :
    Calls Try.prog 84 #[.slice A n c, .slice B m d] w fun e w' => e = .returned (.int .i64 (lexi xs ys)) ∧ ∃ q, w' = w.drewN q := by
  have L1 := Lib.hid hx.1
  have L2 := Lib.hid hy.1
  have hn := hx.2.1
  have hm := hy.2.1
  go_enter Try.func84, Try.ntmps84
  go_wp2
  go_loopw [11] (fun i wr => ∃ j : Nat, j ≤ n ∧ j ≤ m ∧ i = .int .i64 j ∧ Agree xs ys j ∧ ∃ q, wr = w.drewN q) (fun i _ => n - (intOf i).toNat)
  case atStart => exact ⟨0, Nat.zero_le _, Nat.zero_le _, rfl, Agree.zero _ _, 0, rfl⟩
  case round =>
    obtain ⟨j, hj1, hj2, rfl, ha, q, rfl⟩ := hrel
    by_cases hl1 : j < n
    · obtain ⟨b1, o1, rfl, _, hc1⟩ := hx.at_ (k := j) (by omega)
      by_cases hl2 : j < m
      · obtain ⟨b2, o2, rfl, _, hc2⟩ := hy.at_ (k := j) (by omega)
        by_cases he : xs[j]?.getD 0 = ys[j]?.getD 0
        · have ha' := Lib.hid (ha.succ (by simpa using he))
          have hz := Lib.hid (cmpI_zero he)
          clear he ha
          go_wp2_with (go_at_call 62; refine (ccmp _ _ _).mono ?_; rintro e w' ⟨rfl, rfl⟩; rw [hz.out])
          go_roundw
          case rel => exact ⟨j + 1, by omega, by omega, by go_num, ha'.out, _, rfl⟩
          case measure => simp [intOf]; omega
        · have hfin := Lib.hid (lexi_of (j := j) (by rw [L1.out]; omega) (by rw [L2.out]; omega) ha (by simpa using he))
          have hz : (cmpI (xs[j]?.getD 0) (ys[j]?.getD 0) != 0) = true := by simpa using cmpI_ne he
          clear he ha
          go_wp2_with (go_at_call 62; refine (ccmp _ _ _).mono ?_; rintro e w' ⟨rfl, rfl⟩)
          go_ret
          exact ⟨ret_int (by rw [hfin.out]; simp), _, rfl⟩
      · have hfin := Lib.hid (lexi_long (xs := xs) (ys := ys) (by rw [L1.out, L2.out]; omega) (by rw [L2.out]; exact (by omega : j = m) ▸ ha))
        clear ha
        go_wp2
        go_ret
        exact ⟨ret_int (by rw [hfin.out]), _, rfl⟩
    · by_cases hl2 : n < m
      · have hfin := Lib.hid (lexi_short (xs := xs) (ys := ys) (by rw [L1.out, L2.out]; omega) (by rw [L1.out]; exact (by omega : j = n) ▸ ha))
        clear ha
        go_wp2
        go_ret
        exact ⟨ret_int (by rw [hfin.out]), _, rfl⟩
      · have hfin := Lib.hid (lexi_same (xs := xs) (ys := ys) (by rw [L1.out, L2.out]; omega) (by rw [L1.out]; exact (by omega : j = n) ▸ ha))
        clear ha
        go_wp2
        go_ret
        exact ⟨ret_int (by rw [hfin.out]), _, rfl⟩

theorem wlex (A B : Option Addr) (n c m d : Nat) (xs ys : List Int) (w : World) (hx : Ints w A n xs) (hy : Ints w B m ys) :
    Calls Try.prog 63 #[.slice A n c, .slice B m d] w fun e w' => e = .returned (.int .i64 (lexi xs ys)) ∧ ∃ q, w' = w.drewN q := by
  go_enter Try.func63, Try.ntmps63
  go_wp2_with (go_at_call 84; refine (scompare _ _ _ _ _ _ xs ys _ hx hy).mono ?_; rintro e w' ⟨rfl, q, rfl⟩)
  go_ret
  exact ⟨rfl, _, rfl⟩

theorem shlex_lt {xs ys : List Int} (h : xs.length < ys.length) : shlex xs ys = -1 := by unfold shlex; rw [if_pos h]
theorem shlex_gt {xs ys : List Int} (h : ys.length < xs.length) : shlex xs ys = 1 := by unfold shlex; rw [if_neg (by omega), if_pos h]
theorem shlex_eq {xs ys : List Int} (h : xs.length = ys.length) : shlex xs ys = lexi xs ys := by unfold shlex; rw [if_neg (by omega), if_neg (by omega)]

theorem wcompare (A B : Option Addr) (n c m d : Nat) (xs ys : List Int) (w : World) (hx : Ints w A n xs) (hy : Ints w B m ys) :
    Calls Try.prog 36 #[.slice A n c, .slice B m d] w fun e w' => e = .returned (.int .i64 (shlex xs ys)) ∧ ∃ q, w' = w.drewN q := by
  have L1 := Lib.hid hx.1
  have L2 := Lib.hid hy.1
  by_cases h : n = m
  · subst h
    have hfin := Lib.hid (shlex_eq (xs := xs) (ys := ys) (by rw [L1.out, L2.out]))
    go_enter Try.func36, Try.ntmps36
    go_wp2_with (go_at_call 63; refine (wlex _ _ _ _ _ _ xs ys _ hx hy).mono ?_; rintro e w' ⟨rfl, q, rfl⟩)
    go_ret
    exact ⟨ret_int (by rw [hfin.out]), _, rfl⟩
  · have hd : ((n : Int) != (m : Int)) = true := by simp; omega
    by_cases hlt : n < m
    · have hfin := Lib.hid (shlex_lt (xs := xs) (ys := ys) (by rw [L1.out, L2.out]; exact hlt))
      have hz := Lib.hid (show cmpI (n : Int) (m : Int) = -1 by unfold cmpI; rw [if_pos (by omega)])
      go_enter Try.func36, Try.ntmps36
      go_wp2_with (go_at_call 62; refine (ccmp _ _ _).mono ?_; rintro e w' ⟨rfl, rfl⟩; rw [hz.out])
      go_ret
      exact ⟨ret_int (by rw [hfin.out]), 0, rfl⟩
    · have hfin := Lib.hid (shlex_gt (xs := xs) (ys := ys) (by rw [L1.out, L2.out]; omega))
      have hz := Lib.hid (show cmpI (n : Int) (m : Int) = 1 by unfold cmpI; rw [if_neg (by omega), if_pos (by omega)])
      go_enter Try.func36, Try.ntmps36
      go_wp2_with (go_at_call 62; refine (ccmp _ _ _).mono ?_; rintro e w' ⟨rfl, rfl⟩; rw [hz.out])
      go_ret
      exact ⟨ret_int (by rw [hfin.out]), 0, rfl⟩
end Go.Proofs.Ytkkmcgapbcikiaa
end

section
/- slices.BinarySearchFunc over traces. -/
namespace Go.Proofs.Ytkkmcgapbcikiaa
open Go.RowKit Go.Shelf

set_option maxHeartbeats 1000000 in
theorem pbsi (g : Nat) (tv : Int) (cf : Nat → Int) (A : Option Addr) (n c : Nat) (ts : List (List Int × List Int)) (w : World)
    (eg : ∀ args w, (callFunc g args).run Try.prog w = .ok (.enter g args) w) (h : Trs w A n ts)
    (hcmp : ∀ j, j < n → ∀ A1 n1 c1 A2 n2 c2 W, Below w.heap.size w W → Ints W A1 n1 (tIn ts j) → Calls Try.prog g #[.agg #[.slice A1 n1 c1, .slice A2 n2 c2], .int .i64 tv] W fun e w' => e = .returned (.int .i64 (cf j)) ∧ Below W.heap.size W w')
    (hmono : ∀ a b, a ≤ b → b < n → cf b < 0 → cf a < 0) :
    Calls Try.prog 70 #[.slice A n c, .int .i64 tv, .func (.func g) #[] #[]] w fun e w' => ∃ (i : Nat) (v : Value), e = .returned (.tuple #[.int .i64 i, v]) ∧ i ≤ n ∧ Hid (∀ j, j < i → cf j < 0) ∧ Hid (∀ j, i ≤ j → j < n → 0 ≤ cf j) ∧ Below w.heap.size w w' := by
  have HT := Lib.hid h
  have HC := Lib.hid hcmp
  have HM := Lib.hid hmono
  have hn := h.2.1
  clear h hcmp hmono
  go_enter Try.func70, Try.ntmps70
  go_wp2
  go_loopw [9, 10] (fun s9 s10 wr => ∃ lo hi : Nat, s9 = .int .i64 lo ∧ s10 = .int .i64 hi ∧ lo ≤ hi ∧ hi ≤ n ∧ Hid (∀ j, j < lo → cf j < 0) ∧ Hid (∀ j, hi ≤ j → j < n → 0 ≤ cf j) ∧ Hid (Below w.heap.size w wr)) (fun s9 s10 _ => (intOf s10).toNat - (intOf s9).toNat)
  case atStart => exact ⟨0, n, rfl, rfl, Nat.zero_le _, Nat.le_refl _, Lib.hid (fun j hj => absurd hj (Nat.not_lt_zero _)), Lib.hid (fun j h1 h2 => absurd h2 (by omega)), Lib.hid (Below.refl _ _)⟩
  case round =>
    obtain ⟨lo, hi, rfl, rfl, hlh, hin, H1, H2, HB⟩ := hrel
    by_cases hlt : lo < hi
    · obtain ⟨b, off, A1, n1, c1, A2, n2, c2, rfl, _, k1, k2, _, _, k3, _⟩ := (HT.out.below HB.out).at_ (k := (lo + hi) / 2) (by omega)
      have hc := HC.out ((lo + hi) / 2) (by omega) A1 n1 c1 A2 n2 c2 wr HB.out k3
      have HCA := Lib.hid hc
      clear hc k3
      by_cases hyx : cf ((lo + hi) / 2) < 0
      · have HY := Lib.hid hyx
        obtain ⟨y, hy⟩ : ∃ y, y = cf ((lo + hi) / 2) := ⟨_, rfl⟩
        rw [← hy] at HCA hyx
        have HE := Lib.hid hy
        clear hy
        go_wp2_with (go_at_fn g; refine HCA.out.mono ?_; rintro e w' ⟨rfl, bb⟩)
        have HBB := Lib.hid (bt HB.out bb)
        clear bb
        go_roundw
        case measure => simp [intOf]; omega
        case rel =>
          exact ⟨(lo + hi) / 2 + 1, hi, by rw [show ((lo : Int) + (hi : Int)) / 2 + 1 = (((lo + hi) / 2 + 1 : Nat) : Int) by omega], rfl, by omega, hin, Lib.hid (fun j hj => HM.out j ((lo + hi) / 2) (by omega) (by omega) HY.out), H2, HBB⟩
      · have HY := Lib.hid (show 0 ≤ cf ((lo + hi) / 2) by omega)
        obtain ⟨y, hy⟩ : ∃ y, y = cf ((lo + hi) / 2) := ⟨_, rfl⟩
        rw [← hy] at HCA hyx
        have HE := Lib.hid hy
        clear hy
        go_wp2_with (go_at_fn g; refine HCA.out.mono ?_; rintro e w' ⟨rfl, bb⟩)
        have HBB := Lib.hid (bt HB.out bb)
        clear bb
        go_roundw
        case measure => simp [intOf]; omega
        case rel =>
          exact ⟨lo, (lo + hi) / 2, rfl, by rw [show ((lo : Int) + (hi : Int)) / 2 = (((lo + hi) / 2 : Nat) : Int) by omega], by omega, by omega, H1, Lib.hid (fun j h1 h2 => Int.not_lt.1 fun h3 => absurd (HM.out ((lo + hi) / 2) j h1 h2 h3) (by have := HY.out; omega)), HBB⟩
    · obtain rfl : hi = lo := by omega
      by_cases hn1 : hi < n
      · obtain ⟨b, off, A1, n1, c1, A2, n2, c2, rfl, _, k1, k2, _, _, k3, _⟩ := (HT.out.below HB.out).at_ (k := hi) (by omega)
        have hc := HC.out hi (by omega) A1 n1 c1 A2 n2 c2 wr HB.out k3
        generalize cf hi = y at hc
        have HCA := Lib.hid hc
        clear hc k3
        go_wp2_with (go_at_fn g; refine HCA.out.mono ?_; rintro e w' ⟨rfl, bb⟩)
        have HBB := Lib.hid (bt HB.out bb)
        clear bb
        go_ret2
        exact ⟨hi, _, rfl, hin, H1, H2, HBB.out⟩
      · go_wp2
        go_ret2
        exact ⟨hi, _, rfl, hin, H1, H2, HB.out⟩

set_option maxHeartbeats 1000000 in
theorem pbsw (g : Nat) (T : Option Addr) (tn tc : Nat) (cf : Nat → Int) (A : Option Addr) (n c : Nat) (ts : List (List Int × List Int)) (w : World)
    (eg : ∀ args w, (callFunc g args).run Try.prog w = .ok (.enter g args) w) (h : Trs w A n ts)
    (hcmp : ∀ j, j < n → ∀ A1 n1 c1 A2 n2 c2 W, Below w.heap.size w W → Ints W A1 n1 (tIn ts j) → Calls Try.prog g #[.agg #[.slice A1 n1 c1, .slice A2 n2 c2], .slice T tn tc] W fun e w' => e = .returned (.int .i64 (cf j)) ∧ Below W.heap.size W w')
    (hmono : ∀ a b, a ≤ b → b < n → cf b < 0 → cf a < 0) :
    Calls Try.prog 72 #[.slice A n c, .slice T tn tc, .func (.func g) #[] #[]] w fun e w' => ∃ (i : Nat) (v : Value), e = .returned (.tuple #[.int .i64 i, v]) ∧ i ≤ n ∧ Hid (∀ j, j < i → cf j < 0) ∧ Hid (∀ j, i ≤ j → j < n → 0 ≤ cf j) ∧ Below w.heap.size w w' := by
  have HT := Lib.hid h
  have HC := Lib.hid hcmp
  have HM := Lib.hid hmono
  have hn := h.2.1
  clear h hcmp hmono
  go_enter Try.func72, Try.ntmps72
  go_wp2
  go_loopw [9, 10] (fun s9 s10 wr => ∃ lo hi : Nat, s9 = .int .i64 lo ∧ s10 = .int .i64 hi ∧ lo ≤ hi ∧ hi ≤ n ∧ Hid (∀ j, j < lo → cf j < 0) ∧ Hid (∀ j, hi ≤ j → j < n → 0 ≤ cf j) ∧ Hid (Below w.heap.size w wr)) (fun s9 s10 _ => (intOf s10).toNat - (intOf s9).toNat)
  case atStart => exact ⟨0, n, rfl, rfl, Nat.zero_le _, Nat.le_refl _, Lib.hid (fun j hj => absurd hj (Nat.not_lt_zero _)), Lib.hid (fun j h1 h2 => absurd h2 (by omega)), Lib.hid (Below.refl _ _)⟩
  case round =>
    obtain ⟨lo, hi, rfl, rfl, hlh, hin, H1, H2, HB⟩ := hrel
    by_cases hlt : lo < hi
    · obtain ⟨b, off, A1, n1, c1, A2, n2, c2, rfl, _, k1, k2, _, _, k3, _⟩ := (HT.out.below HB.out).at_ (k := (lo + hi) / 2) (by omega)
      have hc := HC.out ((lo + hi) / 2) (by omega) A1 n1 c1 A2 n2 c2 wr HB.out k3
      have HCA := Lib.hid hc
      clear hc k3
      by_cases hyx : cf ((lo + hi) / 2) < 0
      · have HY := Lib.hid hyx
        obtain ⟨y, hy⟩ : ∃ y, y = cf ((lo + hi) / 2) := ⟨_, rfl⟩
        rw [← hy] at HCA hyx
        have HE := Lib.hid hy
        clear hy
        go_wp2_with (go_at_fn g; refine HCA.out.mono ?_; rintro e w' ⟨rfl, bb⟩)
        have HBB := Lib.hid (bt HB.out bb)
        clear bb
        go_roundw
        case measure => simp [intOf]; omega
        case rel =>
          exact ⟨(lo + hi) / 2 + 1, hi, by rw [show ((lo : Int) + (hi : Int)) / 2 + 1 = (((lo + hi) / 2 + 1 : Nat) : Int) by omega], rfl, by omega, hin, Lib.hid (fun j hj => HM.out j ((lo + hi) / 2) (by omega) (by omega) HY.out), H2, HBB⟩
      · have HY := Lib.hid (show 0 ≤ cf ((lo + hi) / 2) by omega)
        obtain ⟨y, hy⟩ : ∃ y, y = cf ((lo + hi) / 2) := ⟨_, rfl⟩
        rw [← hy] at HCA hyx
        have HE := Lib.hid hy
        clear hy
        go_wp2_with (go_at_fn g; refine HCA.out.mono ?_; rintro e w' ⟨rfl, bb⟩)
        have HBB := Lib.hid (bt HB.out bb)
        clear bb
        go_roundw
        case measure => simp [intOf]; omega
        case rel =>
          exact ⟨lo, (lo + hi) / 2, rfl, by rw [show ((lo : Int) + (hi : Int)) / 2 = (((lo + hi) / 2 : Nat) : Int) by omega], by omega, by omega, H1, Lib.hid (fun j h1 h2 => Int.not_lt.1 fun h3 => absurd (HM.out ((lo + hi) / 2) j h1 h2 h3) (by have := HY.out; omega)), HBB⟩
    · obtain rfl : hi = lo := by omega
      by_cases hn1 : hi < n
      · obtain ⟨b, off, A1, n1, c1, A2, n2, c2, rfl, _, k1, k2, _, _, k3, _⟩ := (HT.out.below HB.out).at_ (k := hi) (by omega)
        have hc := HC.out hi (by omega) A1 n1 c1 A2 n2 c2 wr HB.out k3
        generalize cf hi = y at hc
        have HCA := Lib.hid hc
        clear hc k3
        go_wp2_with (go_at_fn g; refine HCA.out.mono ?_; rintro e w' ⟨rfl, bb⟩)
        have HBB := Lib.hid (bt HB.out bb)
        clear bb
        go_ret2
        exact ⟨hi, _, rfl, hin, H1, H2, HBB.out⟩
      · go_wp2
        go_ret2
        exact ⟨hi, _, rfl, hin, H1, H2, HB.out⟩
end Go.Proofs.Ytkkmcgapbcikiaa
end

section
/- word.Common. -/
namespace Go.Proofs.Ytkkmcgapbcikiaa
open Go.RowKit

set_option maxHeartbeats 400000 in
theorem wcommon (A B : Option Addr) (n c m d : Nat) (xs ys : List Int) (w : World) (hx : Ints w A n xs) (hy : Ints w B m ys) :
    Calls Try.prog 65 #[.slice A n c, .slice B m d] w fun e w' => e = .returned (.int .i64 (cmn xs ys)) ∧ ∃ q, w' = w.drewN q := by
  have L1 := Lib.hid hx.1
  have L2 := Lib.hid hy.1
  have hn := hx.2.1
  have hm := hy.2.1
  by_cases hnm : m < n
  · go_enter Try.func65, Try.ntmps65
    go_wp2
    go_loopw [13] (fun i wr => ∃ j : Nat, j ≤ m ∧ i = .int .i64 j ∧ Agree xs ys j ∧ ∃ q, wr = w.drewN q) (fun i _ => m - (intOf i).toNat)
    case atStart => exact ⟨0, Nat.zero_le _, rfl, Agree.zero _ _, 0, rfl⟩
    case round =>
      obtain ⟨j, hj, rfl, ha, q, rfl⟩ := hrel
      by_cases hlt : j < m
      · obtain ⟨b1, o1, rfl, _, hc1⟩ := hx.at_ (k := j) (by omega)
        obtain ⟨b2, o2, rfl, _, hc2⟩ := hy.at_ (k := j) (by omega)
        by_cases he : xs[j]?.getD 0 = ys[j]?.getD 0
        · have ha' := Lib.hid (ha.succ (by simpa using he))
          have hb : (xs[j]?.getD 0 != ys[j]?.getD 0) = false := by simp [he]
          have hE := Lib.hid he
          clear he ha
          go_wp2
          go_quiet (fail)
          go_wp2
          go_roundw
          case rel => exact ⟨j + 1, by omega, by go_num, ha'.out, by first | exact ⟨_, rfl⟩ | exact ⟨_, World.drewN_drewN _ _ _⟩⟩
          case measure => simp [intOf]; omega
        · have hfin := Lib.hid (cmn_eq (j := j) (by rw [L1.out]; omega) (by rw [L2.out]; omega) ha (.inr (.inr (by simpa using he))))
          have hb : (xs[j]?.getD 0 != ys[j]?.getD 0) = true := by simpa using he
          clear he ha
          go_wp2
          go_quiet (fail)
          go_wp2
          go_ret
          exact ⟨ret_int (by rw [hfin.out] <;> omega), by first | exact ⟨_, rfl⟩ | exact ⟨_, World.drewN_drewN _ _ _⟩⟩
      · have hfin := Lib.hid (cmn_eq (j := m) (by rw [L1.out]; omega) (by rw [L2.out]; omega) ((by omega : j = m) ▸ ha) (by rw [L1.out, L2.out]; omega))
        go_wp2
        go_ret
        exact ⟨ret_int (by rw [hfin.out] <;> omega), by first | exact ⟨_, rfl⟩ | exact ⟨_, World.drewN_drewN _ _ _⟩⟩
  · go_enter Try.func65, Try.ntmps65
    go_wp2
    go_loopw [13] (fun i wr => ∃ j : Nat, j ≤ n ∧ i = .int .i64 j ∧ Agree xs ys j ∧ ∃ q, wr = w.drewN q) (fun i _ => n - (intOf i).toNat)
    case atStart => exact ⟨0, Nat.zero_le _, rfl, Agree.zero _ _, 0, rfl⟩
    case round =>
      obtain ⟨j, hj, rfl, ha, q, rfl⟩ := hrel
      by_cases hlt : j < n
      · obtain ⟨b1, o1, rfl, _, hc1⟩ := hx.at_ (k := j) (by omega)
        obtain ⟨b2, o2, rfl, _, hc2⟩ := hy.at_ (k := j) (by omega)
        by_cases he : xs[j]?.getD 0 = ys[j]?.getD 0
        · have ha' := Lib.hid (ha.succ (by simpa using he))
          have hb : (xs[j]?.getD 0 != ys[j]?.getD 0) = false := by simp [he]
          have hE := Lib.hid he
          clear he ha
          go_wp2
          go_quiet (fail)
          go_wp2
          go_roundw
          case rel => exact ⟨j + 1, by omega, by go_num, ha'.out, by first | exact ⟨_, rfl⟩ | exact ⟨_, World.drewN_drewN _ _ _⟩⟩
          case measure => simp [intOf]; omega
        · have hfin := Lib.hid (cmn_eq (j := j) (by rw [L1.out]; omega) (by rw [L2.out]; omega) ha (.inr (.inr (by simpa using he))))
          have hb : (xs[j]?.getD 0 != ys[j]?.getD 0) = true := by simpa using he
          clear he ha
          go_wp2
          go_quiet (fail)
          go_wp2
          go_ret
          exact ⟨ret_int (by rw [hfin.out] <;> omega), by first | exact ⟨_, rfl⟩ | exact ⟨_, World.drewN_drewN _ _ _⟩⟩
      · have hfin := Lib.hid (cmn_eq (j := n) (by rw [L1.out]; omega) (by rw [L2.out]; omega) ((by omega : j = n) ▸ ha) (by rw [L1.out, L2.out]; omega))
        go_wp2
        go_ret
        exact ⟨ret_int (by rw [hfin.out] <;> omega), by first | exact ⟨_, rfl⟩ | exact ⟨_, World.drewN_drewN _ _ _⟩⟩
end Go.Proofs.Ytkkmcgapbcikiaa
end

section
/- The closures of nearest. -/
namespace Go.Proofs.Ytkkmcgapbcikiaa
open Go.RowKit Go.Shelf

/-- A block of one number. -/
def Num1 (w : World) (g : Nat) (v : Int) : Prop := w.heap[g]? = some (.cells #[.int .i64 v] 3 (0, 0))
theorem Num1.cell {w : World} {g : Nat} {v : Int} (h : Num1 w g v) : w.cell? ⟨g, 0, none⟩ = some (.int .i64 v) ∧ w.frozen? ⟨g, 0, none⟩ = false := ⟨cell_of_row w g 0 _ _ (0, 0) h, frozen_of_row w g 0 _ _ h⟩
theorem Num1.set {w : World} {g : Nat} {v : Int} (h : Num1 w g v) (u : Int) : Num1 (w.setCell ⟨g, 0, none⟩ (.int .i64 u)) g u := heap_setCell_same w g 0 _ _ (Value.int .i64 u) h
theorem Num1.off {w : World} {g g' j : Nat} {v : Int} (h : Num1 w g v) (hn : g ≠ g') (x : Value) : Num1 (w.setCell ⟨g', j, none⟩ x) g v := (heap_setCell_other w ⟨g', j, none⟩ g x hn).trans h
theorem Num1.drewN {w : World} {g : Nat} {v : Int} (h : Num1 w g v) (q : Nat) : Num1 (w.drewN q) g v := h
theorem Num1.below {w w' : World} {g B : Nat} {v : Int} (h : Num1 w g v) (hb : Below B w w') (hg : g < B) : Num1 w' g v := (hb.block g hg).trans h

/-- Four boxes in a row. -/
theorem boxes4 (w : World) (v1 v2 v3 v4 : Value) (t1 t2 t3 t4 : TypeId) : ∀ W, W = ((((w.alloc (.cells #[v1] t1)).alloc (.cells #[v2] t2)).alloc (.cells #[v3] t3)).alloc (.cells #[v4] t4)) →
    Below w.heap.size w W ∧ W.cell? ⟨w.heap.size, 0, none⟩ = some v1 ∧ W.cell? ⟨w.heap.size + 1, 0, none⟩ = some v2 ∧ W.heap[w.heap.size + 1 + 1]? = some (.cells #[v3] t3 (0, 0)) ∧ W.heap[w.heap.size + 1 + 1 + 1]? = some (.cells #[v4] t4 (0, 0)) ∧ W.heap.size = w.heap.size + 4 := by
  rintro W rfl
  have b1 := alloc_below w (.cells #[v1] t1)
  have b2 := alloc_below (w.alloc (.cells #[v1] t1)) (.cells #[v2] t2)
  have b3 := alloc_below ((w.alloc (.cells #[v1] t1)).alloc (.cells #[v2] t2)) (.cells #[v3] t3)
  have b4 := alloc_below (((w.alloc (.cells #[v1] t1)).alloc (.cells #[v2] t2)).alloc (.cells #[v3] t3)) (.cells #[v4] t4)
  have h1 := heap_alloc_new w (.cells #[v1] t1)
  have h2 := heap_alloc_new (w.alloc (.cells #[v1] t1)) (.cells #[v2] t2)
  have h3 := heap_alloc_new ((w.alloc (.cells #[v1] t1)).alloc (.cells #[v2] t2)) (.cells #[v3] t3)
  have h4 := heap_alloc_new (((w.alloc (.cells #[v1] t1)).alloc (.cells #[v2] t2)).alloc (.cells #[v3] t3)) (.cells #[v4] t4)
  have s1 : (w.alloc (.cells #[v1] t1)).heap.size = w.heap.size + 1 := by simp
  have s2 : ((w.alloc (.cells #[v1] t1)).alloc (.cells #[v2] t2)).heap.size = w.heap.size + 1 + 1 := by simp
  have s3 : (((w.alloc (.cells #[v1] t1)).alloc (.cells #[v2] t2)).alloc (.cells #[v3] t3)).heap.size = w.heap.size + 1 + 1 + 1 := by simp
  rw [s1] at b2 h2
  rw [s2] at b3 h3
  rw [s3] at b4 h4
  refine ⟨((b1.trans (b2.mono (by omega))).trans (b3.mono (by omega))).trans (b4.mono (by omega)), ?_, ?_, (b4.block _ (by omega)).trans h3, h4, by simp⟩
  · exact cell_of_row _ w.heap.size 0 _ _ (0, 0) ((b4.block _ (by omega)).trans ((b3.block _ (by omega)).trans ((b2.block _ (by omega)).trans h1)))
  · exact cell_of_row _ (w.heap.size + 1) 0 _ _ (0, 0) ((b4.block _ (by omega)).trans ((b3.block _ (by omega)).trans h2))

theorem entN1 : ∀ args w, (callFunc 69 args).run Try.prog w = .ok (.enter 69 args) w := enters_of Try.func69 (by kernel_rfl) rfl
theorem entN2 : ∀ args w, (callFunc 71 args).run Try.prog w = .ok (.enter 71 args) w := enters_of Try.func71 (by kernel_rfl) rfl
theorem entN3 : ∀ args w, (callFunc 73 args).run Try.prog w = .ok (.enter 73 args) w := enters_of Try.func73 (by kernel_rfl) rfl

theorem pnear2 (A1 A2 : Option Addr) (n1 c1 n2 c2 L : Nat) (xs : List Int) (w : World) (hx : Ints w A1 n1 xs) (hL : L ≤ 17592186044416) :
    Calls Try.prog 71 #[.agg #[.slice A1 n1 c1, .slice A2 n2 c2], .int .i64 L] w fun e w' => e = .returned (.int .i64 ((xs.length : Int) - L)) ∧ Below w.heap.size w w' := by
  have hn := hx.2.1
  obtain rfl : xs.length = n1 := hx.1
  have hb0 := alloc_below w (.cells #[.slice A1 xs.length c1, .slice A2 n2 c2] 38)
  have hw : IntKind.i64.wrap ((xs.length : Int) - (L : Int)) = (xs.length : Int) - L := by rw [IntKind.wrap_i64]; omega
  have HB := Lib.hid hb0
  clear hx hb0
  go_enter Try.func71, Try.ntmps71
  go_wp2
  go_ret
  exact ⟨rfl, HB.out⟩

theorem pnear3 (A1 A2 B : Option Addr) (n1 c1 n2 c2 m d : Nat) (xs ys : List Int) (w : World) (hx : Ints w A1 n1 xs) (hy : Ints w B m ys) :
    Calls Try.prog 73 #[.agg #[.slice A1 n1 c1, .slice A2 n2 c2], .slice B m d] w fun e w' => e = .returned (.int .i64 (lexi xs ys)) ∧ Below w.heap.size w w' := by
  have hb0 := alloc_below w (.cells #[.slice A1 n1 c1, .slice A2 n2 c2] 38)
  have HB := Lib.hid hb0
  have HX := Lib.hid (hx.below hb0)
  have HY := Lib.hid (hy.below hb0)
  clear hx hy hb0
  go_enter Try.func73, Try.ntmps73
  go_wp2_with (go_at_call 63; refine (wlex _ _ _ _ _ _ _ _ _ HX.out HY.out).mono ?_; rintro e w' ⟨rfl, q, rfl⟩)
  go_ret
  exact ⟨rfl, below_drewN HB.out q⟩

set_option maxHeartbeats 1000000 in
theorem pexam (W : World) (Bl Bw Bk Bb base n c m d j known best : Nat) (A Z : Option Addr) (ts : List (List Int × List Int)) (ws : List Int) (hj : j < n)
    (hl : W.cell? ⟨Bl, 0, none⟩ = some (.slice A n c)) (hw : W.cell? ⟨Bw, 0, none⟩ = some (.slice Z m d)) (hk : Num1 W Bk known) (hb : Num1 W Bb best) (hne : Bk ≠ Bb) (hB1 : base ≤ Bk) (hB2 : base ≤ Bb)
    (hT : Trs W A n ts) (hF : (tOut ts j).length = (tIn ts j).length) (hW : Ints W Z m ws) :
    Calls Try.prog 69 #[.int .i64 j, .pointer (some ⟨Bl, 0, none⟩), .pointer (some ⟨Bw, 0, none⟩), .pointer (some ⟨Bk, 0, none⟩), .pointer (some ⟨Bb, 0, none⟩)] W fun e w' => e = .returned (.tuple #[]) ∧ ∃ best' : Nat, Num1 w' Bk (max known (cmn (tIn ts j) ws) : Nat) ∧ Num1 w' Bb best' ∧
      Hid (Got ts ws best known → Got ts ws best' (max known (cmn (tIn ts j) ws))) ∧ Below base W w' := by
  obtain ⟨b, off, A1, n1, c1, A2, n2, c2, rfl, hg, k1, k2, _, _, k3, k4⟩ := hT.at_ hj
  have hn := hT.2.1
  have hlen := hT.1
  have hk2 : n2 = (tIn ts j).length := by rw [← hF]; exact k4.1.symm
  have hjl : j < ts.length := by omega
  have hcm := cmn_le_left (tIn ts j) ws
  have hGN := Lib.hid (got_new (w := ws) hjl)
  obtain ⟨K, hK⟩ : ∃ K, K = cmn (tIn ts j) ws := ⟨_, rfl⟩
  have HKE := Lib.hid hK
  have HK := Lib.hid hk
  have HB := Lib.hid hb
  have HC := Lib.hid (fun q => wcommon A1 Z n1 c1 m d (tIn ts j) ws (W.drewN q) (k3.drewN q) (hW.drewN q))
  obtain ⟨hkc, hkf⟩ := hk.cell
  obtain ⟨hbc, hbf⟩ := hb.cell
  have i0 : (0 : Int) ≤ (j : Int) := by omega
  have i1 : (j : Int) < (n : Int) := by omega
  rw [← hK] at hcm
  rw [← HKE.out] at HC hGN ⊢
  have hkle : (K : Int) ≤ (n2 : Int) := by rw [hk2]; omega
  have HN2 := Lib.hid hk2
  clear hT hF hW k3 k4 hk hb hK hcm hk2 hlen
  by_cases hlt : known < K
  · have hlt' : (known : Int) < (K : Int) := by omega
    go_enter Try.func69, Try.ntmps69
    go_wp2
    go_quiet ((go_at_call 65; exact Calls.quiet_of (HC.out _)))
    go_wp2
    go_end0
    have hmx : max known K = K := by omega
    rw [hmx]
    exact ⟨rfl, j, ((HK.out.drewN _).off hne _).set K, ((HB.out.drewN _).set j).off (Ne.symm hne) _, Lib.hid (fun _ => hGN.out), ((below_drewN (Below.refl _ _) _).setCell (p := ⟨Bb, 0, none⟩) hB2 _).setCell (p := ⟨Bk, 0, none⟩) hB1 _⟩
  · have hlt' : ¬ (known : Int) < (K : Int) := by omega
    go_enter Try.func69, Try.ntmps69
    go_wp2
    go_quiet ((go_at_call 65; exact Calls.quiet_of (HC.out _)))
    go_wp2
    go_end0
    have hmx : max known K = known := by omega
    rw [hmx]
    exact ⟨rfl, best, HK.out.drewN _, HB.out.drewN _, Lib.hid (fun h => h), below_drewN (Below.refl _ _) _⟩
end Go.Proofs.Ytkkmcgapbcikiaa
end

section
/- nearest: the trace that knows most of a word. -/
namespace Go.Proofs.Ytkkmcgapbcikiaa
open Go.RowKit Go.Shelf

/-- The world in a round of nearest: the boxes z + 1 + 1 + 1 and z + 1 + 1 hold known and best, all below is kept. -/
def NearB (z : Nat) (W wr : World) (known best : Nat) : Prop := Below (z + 1 + 1) W wr ∧ Num1 wr (z + 1 + 1 + 1) known ∧ Num1 wr (z + 1 + 1) best

set_option maxHeartbeats 4000000 in
set_option maxRecDepth 100000 in
theorem pnear (A Z : Option Addr) (n c m d : Nat) (ts : List (List Int × List Int)) (ws : List Int) (w : World) (hT : Trs w A n ts) (hW : Ints w Z m ws) (hS : Srt ts) (hF : Full ts) (hc : n ≤ c) :
    Calls Try.prog 46 #[.slice A n c, .slice Z m d] w fun e w' => ∃ best known : Nat, e = .returned (.tuple #[.int .i64 best, .int .i64 known]) ∧ known = knw ts ws n ∧ Hid (Got ts ws best known) ∧ Below w.heap.size w w' := by
  have hn := hT.2.1
  have HLN := Lib.hid hT.1
  have HWL := Lib.hid hW.1
  have HT := Lib.hid hT
  have HW := Lib.hid hW
  have HS := Lib.hid hS
  have HF := Lib.hid hF
  have hcn : (n : Int) ≤ (c : Int) := by omega
  clear hT hW hS hF
  obtain ⟨hb0, hl0, hv0, hx0, hy0, hs0⟩ := boxes4 w (.slice A n c) (.slice Z m d) (.int .i64 0) (.int .i64 0) 22 36 3 3 _ rfl
  go_enter Try.func46, Try.ntmps46
  go_wp2
  generalize (((w.alloc (.cells #[.slice A n c] 22)).alloc (.cells #[.slice Z m d] 36)).alloc (.cells #[.int .i64 0] 3)).alloc (.cells #[.int .i64 0] 3) = W4 at hb0 hl0 hv0 hx0 hy0 hs0 ⊢
  have HB0 := Lib.hid hb0
  have HL0 := Lib.hid hl0
  have HV0 := Lib.hid hv0
  have HS0 := Lib.hid hs0
  have HN0 := Lib.hid (show NearB w.heap.size W4 W4 (0 : Nat) (0 : Nat) from ⟨Below.refl _ _, hy0, hx0⟩)
  clear hb0 hl0 hv0 hx0 hy0 hs0
  go_loopw [9] (fun v9 wr => ∃ e best known : Nat, v9 = .int .i64 e ∧ e ≤ n ∧ known ≤ m ∧ Hid (NearB w.heap.size W4 wr known best) ∧ Hid (Got ts ws best known) ∧ Hid (Cvd ts ws e n known)) (fun v9 _ => (intOf v9).toNat)
  case atStart => exact ⟨n, 0, 0, rfl, Nat.le_refl _, Nat.zero_le _, HN0, Lib.hid (Got.zero _ _), Lib.hid (Cvd.none _ _ _ _)⟩
  case round =>
    obtain ⟨e, best, known, rfl, hen, hkm, HN, HG, HC⟩ := hrel
    obtain ⟨hbr, hkn, hbs⟩ := HN.out
    have hbw : Below w.heap.size w wr := HB0.out.trans (hbr.mono (by omega))
    have HBW := Lib.hid hbw
    have HTr := Lib.hid (HT.out.below hbw)
    have HWr := Lib.hid (HW.out.below hbw)
    have c0 := (hbr.cell (p := ⟨w.heap.size, 0, none⟩) (by show w.heap.size < w.heap.size + 1 + 1; omega)).trans HL0.out
    have c1 := (hbr.cell (p := ⟨w.heap.size + 1, 0, none⟩) (by show w.heap.size + 1 < w.heap.size + 1 + 1; omega)).trans HV0.out
    have c2 := hkn.cell.1
    have c3 := hbs.cell.1
    have hZ : m ≤ 17592186044416 := HW.out.2.1
    by_cases h0 : 0 < e
    · obtain ⟨b, off, A1, n1, c1, A2, n2, c2, rfl, hgb, k1, k2, _, _, k3, k4⟩ := HTr.out.at_ (k := e - 1) (by omega)
      obtain ⟨ep, hep⟩ : ∃ ep, e = ep + 1 := ⟨e - 1, by omega⟩
      have hee : e - 1 = ep := by omega
      rw [hee] at k1 k2 k3 k4
      have hw1 : IntKind.i64.wrap ((e : Int) - 1) = (ep : Int) := by rw [IntKind.wrap_i64]; omega
      have hw2 : (ep : Int) < (n : Int) := by omega
      have hw3 : (0 : Int) ≤ (ep : Int) := by omega
      have HL1 := Lib.hid k3.1
      have hn1 := k3.2.1
      have HE := Lib.hid hep
      clear hep hee k3 k4
      by_cases hk : known < n1
      · have HBR := Lib.hid hbr
        have HKN := Lib.hid hkn
        have HBS := Lib.hid hbs
        clear hbr hkn hbs hbw
        have hz4 : w.heap.size + 4 ≤ wr.heap.size := by have := HBR.out.size; rw [HS0.out] at this; exact this
        have HZ4 := Lib.hid hz4
        have hE2 : (e : Int) ≤ (c : Int) := by omega
        go_wp2
        go_quiet (fail)
        go_wp2_with fail
        refine (pbsi 71 n1 (fun j => ((tIn ts j).length : Int) - n1) (some ⟨b, off, none⟩) e c (ts.take e) _ entN2 ((HTr.out.drewN _).first hen)
          (fun j hj B1 p1 d1 B2 p2 d2 W hbW hI => by rw [tIn_take ts hj] at hI; exact pnear2 B1 B2 p1 d1 p2 d2 n1 _ W hI hn1)
          (fun a b' h1 h2 h3 => by have := HS.out.len h1 (by rw [HLN.out]; omega); have h4 : ((tIn ts b').length : Int) - n1 < 0 := h3; show ((tIn ts a).length : Int) - n1 < 0; omega)).mono ?_
        rintro r w5 ⟨s, v5, rfl, hse, G1, G2, b5⟩
        have b5 : Below wr.heap.size wr w5 := (below_drewN (Below.refl _ wr) _).trans b5
        have HGL := Lib.hid (group_len (L := n1) HS.out (by rw [HLN.out]; exact hen) h0 (by rw [HE.out, Nat.add_sub_cancel, HL1.out]) (fun j hj => G1.out j hj) (fun j h1 h2 => G2.out j h1 h2) hse)
        have hsl := HGL.out.1
        have HN5 := Lib.hid (show NearB w.heap.size W4 w5 known best from ⟨HBR.out.trans (b5.mono (by omega)), HKN.out.below b5 (by omega), HBS.out.below b5 (by omega)⟩)
        have HT5 := Lib.hid (HTr.out.below b5)
        have HW5 := Lib.hid (HWr.out.below b5)
        have hz5 : w.heap.size + 4 ≤ w5.heap.size := Nat.le_trans hz4 b5.size
        have c0 := (HN5.out.1.cell (p := ⟨w.heap.size, 0, none⟩) (by show w.heap.size < w.heap.size + 1 + 1; omega)).trans HL0.out
        have c1 := (HN5.out.1.cell (p := ⟨w.heap.size + 1, 0, none⟩) (by show w.heap.size + 1 < w.heap.size + 1 + 1; omega)).trans HV0.out
        have s1 : (s : Int) ≤ (e : Int) := by omega
        have s2 : (0 : Int) ≤ (s : Int) := by omega
        clear G1 G2 b5
        go_wp2_with fail
        refine (pbsw 73 Z m d (fun j => lexi (tIn ts (s + j)) ws) (some ⟨b, off + s * 2, none⟩) (e - s) (c - s) ((ts.drop s).take (e - s)) w5 entN3 (HT5.out.sub (by omega))
          (fun j hj B1 p1 d1 B2 p2 d2 W hbW hI => by rw [tIn_sub ts hj] at hI; exact pnear3 B1 B2 Z p1 d1 p2 d2 m d _ ws W hI (HW5.out.below hbW))
          (fun a b' h1 h2 h3 => by
            have h4 : lexi (tIn ts (s + b')) ws < 0 := h3
            show lexi (tIn ts (s + a)) ws < 0
            rw [lexi_lexR] at h4 ⊢
            exact lex_mono HS.out HGL.out.2 (by rw [HLN.out]; exact hen) (by omega) (by omega) h4)).mono ?_
        rintro r w6 ⟨p, v6, rfl, hpl, G1, G2, b6⟩
        have HN6 := Lib.hid (show NearB w.heap.size W4 w6 known best from ⟨HN5.out.1.trans (b6.mono (by omega)), HN5.out.2.1.below b6 (by omega), HN5.out.2.2.below b6 (by omega)⟩)
        have HB6 := Lib.hid (show Below w.heap.size w w6 from HB0.out.trans (HN6.out.1.mono (by omega)))
        have HZ6 := Lib.hid (show w.heap.size + 4 ≤ w6.heap.size from Nat.le_trans hz5 b6.size)
        have HLO := Lib.hid (show ∀ j, j < p → lexR (tIn ts (s + j)) ws < 0 from fun j hj => by rw [← lexi_lexR]; exact G1.out j hj)
        have HHI := Lib.hid (show ∀ j, p ≤ j → j < e - s → 0 ≤ lexR (tIn ts (s + j)) ws from fun j h1 h2 => by rw [← lexi_lexR]; exact G2.out j h1 h2)
        clear G1 G2 b6 hz4 hz5
        have hw4 : IntKind.i64.wrap ((p : Int) - 1) = (p : Int) - 1 := by rw [IntKind.wrap_i64]; omega
        have hpe : p ≤ e - s := hpl
        go_wp2
        all_goals
          go_loopw [16] (fun v16 wi => ∃ q best' known' : Nat, v16 = .int .i64 q ∧ p ≤ q + 1 ∧ q ≤ e - s ∧ q ≤ p + 1 ∧ known ≤ known' ∧ known' ≤ m ∧ Hid (NearB w.heap.size W4 wi known' best') ∧ Hid (Got ts ws best' known') ∧ Hid (Cvd ts ws (s + (p - 1)) (s + q) known')) (fun v16 _ => (p + 1) - (intOf v16).toNat)
          case atStart => exact ⟨p - 1, best, known, by congr 1; omega, by omega, by omega, by omega, Nat.le_refl _, hkm, HN6, HG, Lib.hid (Cvd.none _ _ _ _)⟩
          case round =>
            obtain ⟨q, best', known', rfl, hq1, hq2, hq3, hkk, hkm', HN', HG', HC'⟩ := hrel
            have d0 := (HN'.out.1.cell (p := ⟨w.heap.size, 0, none⟩) (by show w.heap.size < w.heap.size + 1 + 1; omega)).trans HL0.out
            have d1 := (HN'.out.1.cell (p := ⟨w.heap.size + 1, 0, none⟩) (by show w.heap.size + 1 < w.heap.size + 1 + 1; omega)).trans HV0.out
            have HBX := Lib.hid (show Below w.heap.size w wr from HB0.out.trans (HN'.out.1.mono (by omega)))
            by_cases hq4 : q < e - s
            · by_cases hq5 : q ≤ p
              · obtain ⟨j, hj⟩ : ∃ j, j = s + q := ⟨_, rfl⟩
                have hjw : IntKind.i64.wrap ((s : Int) + (q : Int)) = (j : Int) := by rw [IntKind.wrap_i64]; omega
                have HJ := Lib.hid hj
                have hjn : j < n := by omega
                clear hj
                have HX := Lib.hid (pexam wr w.heap.size (w.heap.size + 1) (w.heap.size + 1 + 1 + 1) (w.heap.size + 1 + 1) (w.heap.size + 1 + 1) n c m d j known' best' (some ⟨b, off, none⟩) Z ts ws hjn d0 d1 HN'.out.2.1 HN'.out.2.2 (by omega) (by omega) (Nat.le_refl _) (HT.out.below HBX.out) (HF.out j (by rw [HLN.out]; exact hjn)) (HW.out.below HBX.out))
                go_wp2_with fail
                refine HX.out.mono ?_
                rintro r w7 ⟨rfl, best2, hk2, hb2, HG2, hb7⟩
                have HN2 := Lib.hid (show NearB w.heap.size W4 w7 (max known' (cmn (tIn ts j) ws)) best2 from ⟨HN'.out.1.trans hb7, hk2, hb2⟩)
                have HC2 := Lib.hid ((HC'.out.mono (Nat.le_max_left known' (cmn (tIn ts j) ws))).snoc (by rw [← HJ.out]; exact Nat.le_max_right _ _))
                have HLE := Lib.hid (cmn_le_right (tIn ts j) ws)
                clear hk2 hb2 hb7
                go_wp2
                go_roundw
                case rel => exact ⟨q + 1, best2, max known' (cmn (tIn ts j) ws), by go_num, by omega, by omega, by omega, by omega, by have := HLE.out; have := HWL.out; omega, HN2, Lib.hid (HG2.out HG'.out), by rw [← Nat.add_assoc]; exact HC2⟩
                case measure => simp [intOf]; omega
              · have HF2 := Lib.hid (group_done (k := known') HS.out (by rw [HLN.out]; exact hen) hsl HGL.out.2 hpe HLO.out HHI.out (by rw [show min (e - s) (p + 1) = q by omega]; exact HC'.out))
                go_wp2
                go_roundw
                case rel => exact ⟨s, best', known', rfl, by omega, hkm', HN', HG', Lib.hid (HF2.out.join (HC.out.mono hkk))⟩
                case measure => simp [intOf]; omega
            · have HF2 := Lib.hid (group_done (k := known') HS.out (by rw [HLN.out]; exact hen) hsl HGL.out.2 hpe HLO.out HHI.out (by rw [show min (e - s) (p + 1) = q by omega]; exact HC'.out))
              go_wp2
              go_roundw
              case rel => exact ⟨s, best', known', rfl, by omega, hkm', HN', HG', Lib.hid (HF2.out.join (HC.out.mono hkk))⟩
              case measure => simp [intOf]; omega
      · have HK := Lib.hid (near_done (w := ws) (best := best) HS.out (by rw [HLN.out]; exact hen) HG.out (by rw [HLN.out]; exact HC.out) (.inr (by rw [HE.out, Nat.add_sub_cancel, HL1.out]; omega)))
        clear hbr hkn hbs hbw
        go_wp2
        go_quiet (fail)
        go_wp2
        go_quiet (fail)
        go_wp2
        go_ret2
        exact ⟨best, known, rfl, by rw [HK.out, HLN.out], HG, below_drewN (below_drewN HBW.out _) _⟩
    · have HK := Lib.hid (near_done (w := ws) (best := best) HS.out (by rw [HLN.out]; exact hen) HG.out (by rw [HLN.out]; exact HC.out) (.inl (by omega)))
      clear hbr hkn hbs hbw
      go_wp2
      go_quiet (fail)
      go_wp2
      go_quiet (fail)
      go_wp2
      go_ret2
      exact ⟨best, known, rfl, by rw [HK.out, HLN.out], HG, below_drewN (below_drewN HBW.out _) _⟩
end Go.Proofs.Ytkkmcgapbcikiaa
end

section
/- Is a trace proper? How far does it agree with what is known? -/
namespace Go.Proofs.Ytkkmcgapbcikiaa
open Go.RowKit

/-- The error of the outputs of a trace. -/
def ansE (xs ys : List Int) : Int := if ys.length = xs.length then (if ∀ y, y ∈ ys → 0 ≤ y ∧ y ≤ 1048576 then 0 else 2) else 1
/-- The error of a trace. -/
def prpE (xs ys : List Int) (i : Int) : Int := if chk xs i = 0 then ansE xs ys else chk xs i
theorem ansE_len {xs ys : List Int} (h : ¬ ys.length = xs.length) : ansE xs ys = 1 := by unfold ansE; rw [if_neg h]
theorem ansE_ok {xs ys : List Int} (h : ys.length = xs.length) (hv : ∀ y, y ∈ ys → 0 ≤ y ∧ y ≤ 1048576) : ansE xs ys = 0 := by unfold ansE; rw [if_pos h, if_pos hv]
theorem ansE_bad {xs ys : List Int} {k : Nat} (h : ys.length = xs.length) (hk : k < ys.length) (hv : ¬ (0 ≤ ys.getD k 0 ∧ ys.getD k 0 ≤ 1048576)) : ansE xs ys = 2 := by
  unfold ansE
  rw [if_pos h, if_neg]
  intro hall
  apply hv
  rw [List.getD_eq_getElem?_getD, List.getElem?_eq_getElem hk]
  exact hall _ (List.getElem_mem _)
theorem ansE_zero {xs ys : List Int} (h : ansE xs ys = 0) : ys.length = xs.length ∧ ∀ y, y ∈ ys → 0 ≤ y ∧ y ≤ 1048576 := by
  unfold ansE at h
  split at h
  · split at h
    · exact ⟨by assumption, by assumption⟩
    · omega
  · omega
theorem all_snoc {ys : List Int} {k : Nat} (ha : ∀ j, j < k → 0 ≤ ys.getD j 0 ∧ ys.getD j 0 ≤ 1048576) (hv : 0 ≤ ys.getD k 0 ∧ ys.getD k 0 ≤ 1048576) : ∀ j, j < k + 1 → 0 ≤ ys.getD j 0 ∧ ys.getD j 0 ≤ 1048576 := fun j hj => by
  rcases Nat.lt_or_ge j k with h | h
  · exact ha j h
  · rw [show j = k by omega]; exact hv
theorem all_done {ys : List Int} (ha : ∀ j, j < ys.length → 0 ≤ ys.getD j 0 ∧ ys.getD j 0 ≤ 1048576) : ∀ y, y ∈ ys → 0 ≤ y ∧ y ≤ 1048576 := fun y hy => by
  obtain ⟨j, hj, rfl⟩ := List.getElem_of_mem hy
  have := ha j hj
  rwa [List.getD_eq_getElem?_getD, List.getElem?_eq_getElem hj] at this

set_option maxHeartbeats 1000000 in
theorem panswered (A B : Option Addr) (n c m d : Nat) (xs ys : List Int) (w : World) (hx : Ints w A n xs) (hy : Ints w B m ys) :
    Calls Try.prog 61 #[.agg #[.slice A n c, .slice B m d]] w fun e w' => e = .returned (.int .i64 (ansE xs ys)) ∧ Below w.heap.size w w' := by
  have hb0 := alloc_below w (.cells #[.slice A n c, .slice B m d] 38)
  have HY := Lib.hid (hy.below hb0)
  have HB := Lib.hid hb0
  have hn := hx.2.1
  have hm := hy.2.1
  have LX := Lib.hid hx.1
  have LY := Lib.hid hy.1
  have k0 : (w.alloc (.cells #[.slice A n c, .slice B m d] 38)).cell? ⟨w.heap.size, 0, none⟩ = some (.slice A n c) := by simp
  have k1 : (w.alloc (.cells #[.slice A n c, .slice B m d] 38)).cell? ⟨w.heap.size, 1, none⟩ = some (.slice B m d) := by simp
  clear hx hy hb0
  by_cases hl : m = n
  · subst hl
    have HL := Lib.hid (show ys.length = xs.length by rw [LX.out, LY.out])
    go_enter Try.func61, Try.ntmps61
    go_wp2
    go_loopw [15] (fun jv wr => ∃ k : Nat, k ≤ m ∧ jv = .int .i64 k ∧ Hid (∀ j, j < k → 0 ≤ ys.getD j 0 ∧ ys.getD j 0 ≤ 1048576) ∧ ∃ q, wr = (w.alloc (.cells #[.slice A m c, .slice B m d] 38)).drewN q) (fun jv _ => m - (intOf jv).toNat)
    case atStart => exact ⟨0, Nat.zero_le _, rfl, Lib.hid (fun j h => absurd h (by omega)), 0, rfl⟩
    case round =>
      obtain ⟨k, hk, rfl, HA, q, rfl⟩ := hrel
      by_cases hlt : k < m
      · obtain ⟨b, o, rfl, _, hc⟩ := HY.out.at_ hlt
        obtain ⟨y, hyv⟩ : ∃ y, y = ys.getD k 0 := ⟨_, rfl⟩
        rw [← hyv] at hc
        have HV := Lib.hid hyv
        clear hyv
        by_cases h1 : y < 0
        · have HE := Lib.hid (ansE_bad HL.out (by rw [LY.out]; exact hlt) (by rw [← HV.out]; omega))
          go_wp2
          go_ret
          exact ⟨by rw [HE.out]; rfl, below_drewN HB.out _⟩
        · by_cases h2 : 1048576 < y
          · have HE := Lib.hid (ansE_bad HL.out (by rw [LY.out]; exact hlt) (by rw [← HV.out]; omega))
            go_wp2
            go_ret
            exact ⟨by rw [HE.out]; rfl, below_drewN HB.out _⟩
          · have HA2 := Lib.hid (all_snoc HA.out (by rw [← HV.out]; omega))
            go_wp2
            go_roundw
            case rel => exact ⟨k + 1, by omega, by go_num, HA2, q, rfl⟩
            case measure => simp [intOf]; omega
      · obtain rfl : k = m := by omega
        have HE := Lib.hid (ansE_ok HL.out (all_done (by rw [LY.out]; exact HA.out)))
        go_wp2
        go_ret
        exact ⟨by rw [HE.out]; rfl, below_drewN HB.out _⟩
  · have HE := Lib.hid (ansE_len (xs := xs) (ys := ys) (by rw [LX.out, LY.out]; exact hl))
    have hne : ((m : Int) != (n : Int)) = true := by simpa using (by omega : ¬ (m : Int) = n)
    have hl' : ¬ (m : Int) = (n : Int) := by omega
    go_enter Try.func61, Try.ntmps61
    go_wp2
    go_ret
    exact ⟨by rw [HE.out]; rfl, HB.out⟩

set_option maxHeartbeats 1000000 in
theorem pproper (A B : Option Addr) (n c m d : Nat) (i : Int) (xs ys : List Int) (w : World) (hx : Ints w A n xs) (hy : Ints w B m ys) :
    Calls Try.prog 50 #[.agg #[.slice A n c, .slice B m d], .int .i64 i] w fun e w' => e = .returned (.int .i64 (prpE xs ys i)) ∧ Below w.heap.size w w' := by
  have hb0 := alloc_below w (.cells #[.slice A n c, .slice B m d] 38)
  have HX := Lib.hid (hx.below hb0)
  have HY := Lib.hid (hy.below hb0)
  have HB := Lib.hid hb0
  have k0 : (w.alloc (.cells #[.slice A n c, .slice B m d] 38)).cell? ⟨w.heap.size, 0, none⟩ = some (.slice A n c) := by simp
  have k1 : (w.alloc (.cells #[.slice A n c, .slice B m d] 38)).cell? ⟨w.heap.size, 1, none⟩ = some (.slice B m d) := by simp
  clear hx hy hb0
  by_cases hc : chk xs i = 0
  · have HP := Lib.hid (show prpE xs ys i = ansE xs ys by unfold prpE; rw [if_pos hc])
    have HC := Lib.hid hc
    clear hc
    go_enter Try.func50, Try.ntmps50
    go_wp2_with fail
    refine (wcheck _ _ _ _ xs _ HX.out).mono ?_
    rintro e w2 ⟨rfl, rfl⟩
    rw [HC.out]
    go_wp2_with fail
    refine (panswered A B n c m d xs ys _ HX.out HY.out).mono ?_
    rintro e w3 ⟨rfl, b3⟩
    have HB3 := Lib.hid (bt HB.out b3)
    clear b3
    go_wp2
    go_ret
    exact ⟨by rw [HP.out]; rfl, HB3.out⟩
  · have HP := Lib.hid (show prpE xs ys i = chk xs i by unfold prpE; rw [if_neg hc])
    have hne : (chk xs i != 0) = true := by simpa using hc
    go_enter Try.func50, Try.ntmps50
    go_wp2_with fail
    refine (wcheck _ _ _ _ xs _ HX.out).mono ?_
    rintro e w2 ⟨rfl, rfl⟩
    obtain ⟨E, hE⟩ : ∃ E, E = chk xs i := ⟨_, rfl⟩
    have HE := Lib.hid hE
    rw [← hE] at hne hc ⊢
    clear hE
    go_wp2
    go_ret
    exact ⟨by rw [HP.out, ← HE.out]; rfl, HB.out⟩

/-- How many of the known outputs agree. -/
def agrN (ts : List (List Int × List Int)) (best known : Nat) (ys : List Int) : Nat := if known = 0 then 0 else cmn ((tOut ts best).take known) ys

set_option maxHeartbeats 1000000 in
theorem pagreed (L A B : Option Addr) (l lc n c m d best known : Nat) (ts : List (List Int × List Int)) (ys : List Int) (w : World) (hT : Trs w L l ts) (hy : Ints w B m ys)
    (hb : 0 < known → best < l ∧ known ≤ (tOut ts best).length) :
    Calls Try.prog 51 #[.slice L l lc, .int .i64 best, .int .i64 known, .agg #[.slice A n c, .slice B m d]] w fun e w' => e = .returned (.int .i64 (agrN ts best known ys)) ∧ Below w.heap.size w w' := by
  have hb0 := alloc_below w (.cells #[.slice A n c, .slice B m d] 38)
  have HT := Lib.hid (hT.below hb0)
  have HY := Lib.hid (hy.below hb0)
  have HB := Lib.hid hb0
  have k0 : (w.alloc (.cells #[.slice A n c, .slice B m d] 38)).cell? ⟨w.heap.size, 0, none⟩ = some (.slice A n c) := by simp
  have k1 : (w.alloc (.cells #[.slice A n c, .slice B m d] 38)).cell? ⟨w.heap.size, 1, none⟩ = some (.slice B m d) := by simp
  have hl := hT.2.1
  clear hT hy hb0
  by_cases h0 : known = 0
  · subst h0
    go_enter Try.func51, Try.ntmps51
    go_wp2
    go_ret
    exact ⟨rfl, HB.out⟩
  · obtain ⟨hbl, hkl⟩ := hb (by omega)
    have HN := Lib.hid (show agrN ts best known ys = cmn ((tOut ts best).take known) ys by unfold agrN; rw [if_neg h0])
    obtain ⟨b, off, A1, n1, c1, A2, n2, c2, rfl, hg, j1, j2, q1, q2, j3, j4⟩ := HT.out.at_ hbl
    have hn2 : n2 = (tOut ts best).length := j4.1.symm
    have hz : ((known : Int) == 0) = false := by simpa using h0
    have h1 : (known : Int) ≤ (c2 : Int) := by omega
    have h2 : (0 : Int) ≤ (known : Int) := by omega
    have h3 : (best : Int) < (l : Int) := by omega
    have h4 : (0 : Int) ≤ (best : Int) := by omega
    have j5 : Ints (w.alloc (.cells #[.slice A n c, .slice B m d] 38)) A2 known ((tOut ts best).take known) := by
      have h6 := j4.2.1
      refine ⟨by simp; omega, by omega, fun h => ?_⟩
      obtain ⟨b', o', e, hlt, hc⟩ := j4.2.2 (by omega)
      refine ⟨b', o', e, hlt, fun j hj => ?_⟩
      rw [hc j (by omega)]
      congr 2
      rw [List.getD_eq_getElem?_getD, List.getD_eq_getElem?_getD, List.getElem?_take_of_lt hj]
    have HC := Lib.hid (fun q => wcommon A2 B known c2 m d _ ys ((w.alloc (.cells #[.slice A n c, .slice B m d] 38)).drewN q) (j5.drewN q) (HY.out.drewN q))
    have hbi := Lib.hid hb
    clear hb j3 j4 j5 hn2 h0
    go_enter Try.func51, Try.ntmps51
    go_wp2
    go_quiet ((go_at_call 65; exact Calls.quiet_of (HC.out _)))
    go_wp2
    go_ret
    exact ⟨by rw [HN.out]; rfl, below_drewN HB.out _⟩
end Go.Proofs.Ytkkmcgapbcikiaa
end
