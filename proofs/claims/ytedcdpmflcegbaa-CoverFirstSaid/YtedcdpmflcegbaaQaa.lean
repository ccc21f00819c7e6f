/- Lemmas of the proofs of this seat, of the parts Base, Own, In, Wf, Nums, Join, Openb, Openm, Growi, Conci, Joinw, Check, Mp, Reachp, Dstp, Covp, Skp, Agrl, Ord, Same, Lits, Mach. Conditions: none. -/
import Derived.WalkKit
import Derived.Lib.Hide
import Derived.Laws.Rows
import Derived.Deep.Draws
import Derived.Test.YtedcdpmflcegbaaProg
import Derived.Outline
import Derived.WalkLawsBesides
import Derived.WalkSpells
import Derived.Deep.AppendSrc
import Derived.Lib.AppendZeros
import Derived.DataShut
import Derived.Deep.Matrix
import Derived.Lib.SmallJoins
import Derived.ProofKit
import Derived.SizedLaws
import Derived.BigQuiet
import Derived.Deep.QuietTactic
section
/- A slice of ints that reads as a list. -/
namespace Go.Proofs.Ytedcdpmflcegbaa
open Go.RowKit

/-- The slice '.slice A n _' holds the numbers xs. -/
def Ints (w : World) (A : Option Addr) (n : Nat) (xs : List Int) : Prop :=
  xs.length = n ∧ n ≤ 17592186044416 ∧ (0 < n → ∃ b off, A = some ⟨b, off, none⟩ ∧ b < w.heap.size ∧ ∀ j, j < n → w.cell? ⟨b, off + j, none⟩ = some (.int .i64 (xs.getD j 0)))

theorem Ints.below {w w' : World} {A : Option Addr} {n : Nat} {xs : List Int} (h : Ints w A n xs) (hb : Below w.heap.size w w') : Ints w' A n xs :=
  ⟨h.1, h.2.1, fun hn => by
    obtain ⟨b, off, e, hlt, hc⟩ := h.2.2 hn
    exact ⟨b, off, e, Nat.lt_of_lt_of_le hlt hb.size, fun j hj => (hb.cell hlt).trans (hc j hj)⟩⟩

theorem Ints.drewN {w : World} {A : Option Addr} {n : Nat} {xs : List Int} (h : Ints w A n xs) (d : Nat) : Ints (w.drewN d) A n xs := h

theorem Ints.at_ {w : World} {A : Option Addr} {n : Nat} {xs : List Int} (h : Ints w A n xs) {k : Nat} (hk : k < n) :
    ∃ b off, A = some ⟨b, off, none⟩ ∧ b < w.heap.size ∧ w.cell? ⟨b, off + k, none⟩ = some (.int .i64 (xs.getD k 0)) := by
  obtain ⟨b, off, e, hlt, hc⟩ := h.2.2 (by omega)
  exact ⟨b, off, e, hlt, hc k hk⟩

theorem below_drewN {B : Nat} {w w' : World} (h : Below B w w') (d : Nat) : Below B w (w'.drewN d) := ⟨h.os, h.tape, h.output, h.size, h.block⟩

/-- A slice that a literal makes. -/
theorem Ints.new (w : World) (xs : List Int) (cs : Array Value) (n : Nat) (hcs : cs = (xs.map (Value.int .i64)).toArray) (hn : n = xs.length) (hm : xs.length ≤ 17592186044416) :
    Ints (w.alloc (.cells cs 3)) (some ⟨w.heap.size, 0, none⟩) n xs := by
  subst hcs hn
  refine ⟨rfl, hm, fun _ => ⟨w.heap.size, 0, rfl, by simp, fun j hj => ?_⟩⟩
  have h := cell_of_row (w.alloc (.cells (xs.map (Value.int .i64)).toArray 3)) w.heap.size j (xs.map (Value.int .i64)).toArray 3 (0, 0) (heap_alloc_new w _)
  rw [Nat.zero_add, h]
  simp [List.getD, hj]

theorem ret_int {k : IntKind} {a b : Int} (h : a = b) : Ending.returned (.int k a) = .returned (.int k b) := by rw [h]
end Go.Proofs.Ytedcdpmflcegbaa
end

section
/- Rows of numbers that a call owns: what they read as; append of a list that reads as numbers. -/
namespace Go.Proofs.Ytedcdpmflcegbaa
open Go.RowKit

theorem info3 : (Try.prog.info? 3).map (fun i => (i.zero, i.size, i.bytes)) = some (some (.int .i64 0), 1, 8) := by kernel_rfl

/-- The slice value v is a row of the numbers xs in a block from base on, which the call may write. -/
def Owned (w : World) (base : Nat) (v : Value) (xs : List Int) : Prop := w.ownsRow base 3 1 v xs.length (xs.map (Value.int .i64))

theorem Owned.form {w : World} {base : Nat} {v : Value} {xs : List Int} (h : Owned w base v xs) : ∃ A c, v = .slice A xs.length c := by
  rcases h.2 with ⟨rfl, h0⟩ | ⟨g, cap, cur, rfl, _⟩
  · exact ⟨none, 0, by rw [h0]⟩
  · exact ⟨_, _, rfl⟩

theorem Owned.ints {w : World} {base : Nat} {A : Option Addr} {n c : Nat} {xs : List Int} (h : Owned w base (.slice A n c) xs) (hm : xs.length ≤ 17592186044416) : Ints w A n xs := by
  have hn : n = xs.length := by obtain ⟨A', c', e⟩ := h.form; cases e; rfl
  subst hn
  refine ⟨rfl, hm, fun h0 => ?_⟩
  rcases h.2 with ⟨e, h1⟩ | ⟨g, cap, cur, e, _, hg, _⟩
  · omega
  · cases e
    refine ⟨g, 0, rfl, ?_, fun j hj => ?_⟩
    · rcases Nat.lt_or_ge g w.heap.size with hlt | hge
      · exact hlt
      · rw [Array.getElem?_eq_none hge] at hg; cases hg
    · have := World.ownsRow.cellAt h j (by omega)
      rw [Nat.zero_add, this]
      simp [List.getD, hj]

theorem Owned.nil (w : World) (base : Nat) : Owned w base (.slice none 0 0) [] := World.ownsRow_nil _ _ _ _

/-- An owned row is still owned where only blocks below its base, or new ones, have turned. -/
theorem Owned.kept {w w' : World} {base : Nat} {v : Value} {xs : List Int} (h : Owned w base v xs) (hb : Below w.heap.size w w') : Owned w' base v xs := by
  refine ⟨h.1, ?_⟩
  rcases h.2 with e | ⟨g, cap, cur, hv, hbg, hg, r⟩
  · exact .inl e
  · refine .inr ⟨g, cap, cur, hv, hbg, ?_, r⟩
    rw [hb.block g ?_]
    · exact hg
    · rcases Nat.lt_or_ge g w.heap.size with hlt | hge
      · exact hlt
      · rw [Array.getElem?_eq_none hge] at hg; cases hg

theorem Owned.lower {w : World} {base base' : Nat} {v : Value} {xs : List Int} (h : Owned w base v xs) (hb : base' ≤ base) : Owned w base' v xs := by
  refine ⟨h.1, ?_⟩
  rcases h.2 with e | ⟨g, cap, cur, hv, hbg, r⟩
  · exact .inl e
  · exact .inr ⟨g, cap, cur, hv, by omega, r⟩

theorem run_append_none (w : World) (base c : Nat) (i : TypeInfo) (hi : Try.prog.info? 3 = some i) (v : Value) (xs : List Int) (h : Owned w base v xs) :
    (Builtin.append_ #[27, 27] 27 #[v, .slice none 0 c]).run Try.prog w = .ok v w := by
  rcases h.2 with ⟨rfl, _⟩ | ⟨g, cap, cur, rfl, _, _, hnc, _⟩
  · simp [Builtin.append_, run_underlying Try.underlying27, sizeOf, typeInfo, hi, Builtin.lenOf, Builtin.firstCells]
  · simp [Builtin.append_, run_underlying Try.underlying27, sizeOf, typeInfo, hi, Builtin.lenOf, Builtin.firstCells, hnc, storeCells]

/-- append(v, ys...) onto an owned row. -/
theorem run_append_ints (w : World) (base : Nat) (v : Value) (xs ys : List Int) (A : Option Addr) (m c : Nat) (h : Owned w base v xs) (hy : Ints w A m ys)
    (hbase : base ≤ w.heap.size) (hlen : (xs ++ ys).length ≤ 17592186044416) :
    ∃ v' w', (Builtin.append_ #[27, 27] 27 #[v, .slice A m c]).run Try.prog w = .ok v' w' ∧ Owned w' base v' (xs ++ ys) ∧ w.grownBy w' v.ownBlock ∧ Below base w w' := by
  obtain ⟨i, hi, hz0, hz1, hz2⟩ := info_parts info3
  have hsplit : ∀ k, v.ownBlock = some k → base ≤ k := fun k hk => (World.ownsRow.lt h k hk).1
  rcases Nat.eq_zero_or_pos m with h0 | h0
  · have hys : ys = [] := List.eq_nil_of_length_eq_zero (by rw [hy.1, h0])
    subst h0 hys
    cases A with
    | none => exact ⟨v, w, run_append_none w base c i hi v xs h, by simpa using h, World.grownBy.refl w _, Below.refl _ _⟩
    | some a =>
      obtain ⟨v', w', hr, h1, h2, _⟩ := run_append_own (P := Try.prog) w base 27 27 3 i (.int .i64 0) 1 8 Try.underlying27 hi hz0 hz1 hz2 rfl (by decide) v _ _ h a 0 c [] (by simp) (by simp) (by simp)
        (by have := h.1; simp at hlen; unfold maxLen; omega) (by simp at hlen; omega) hbase
      exact ⟨v', w', hr, by unfold Owned; simpa using h1, h2, (Below.refl _ _).grown h2 hbase hsplit⟩
  · obtain ⟨b, off, rfl, hb, hc⟩ := hy.2.2 h0
    obtain ⟨v', w', hr, h1, h2, _⟩ := run_append_own (P := Try.prog) w base 27 27 3 i (.int .i64 0) 1 8 Try.underlying27 hi hz0 hz1 hz2 rfl (by decide) v _ _ h ⟨b, off, none⟩ m c (ys.map (Value.int .i64))
      (by simp [hy.1])
      (by
        intro j u hu
        have hj : j < ys.length := by
          rcases Nat.lt_or_ge j ys.length with hlt | hge
          · exact hlt
          · rw [List.getElem?_eq_none (by simpa using hge)] at hu; cases hu
        have hcj := hc j (by rw [← hy.1]; exact hj)
        rw [List.getElem?_map, List.getElem?_eq_getElem hj] at hu
        simp only [Option.map_some, Option.some.injEq] at hu
        subst hu
        rw [show (⟨b, off, none⟩ : Addr).add j = ⟨b, off + j, none⟩ by unfold Addr.add; split <;> simp_all]
        rw [hcj]; simp [List.getD, hj])
      (by intro u hu; simp at hu; obtain ⟨a, _, rfl⟩ := hu; rfl)
      (by rw [List.length_append] at hlen; rw [← hy.1]; unfold maxLen; omega) (by rw [List.length_append] at hlen; rw [← hy.1]; omega) hbase
    refine ⟨v', w', hr, ?_, h2, (Below.refl _ _).grown h2 hbase hsplit⟩
    unfold Owned
    rw [List.length_append, List.map_append, hy.1]
    exact h1

theorem Owned.head {w : World} {base n c : Nat} {A : Option Addr} {xs : List Int} (h : Owned w base (.slice A n c) xs) (h0 : 0 < n) :
    ∃ g, A = some ⟨g, 0, none⟩ ∧ base ≤ g ∧ g < w.heap.size ∧ ∀ j, w.frozen? ⟨g, j, none⟩ = false := by
  have h' := h
  obtain ⟨A', c', e⟩ := h'.form
  cases e
  rcases h.2 with ⟨e, h1⟩ | ⟨g, cap, cur, e, hb, hg, _⟩
  · omega
  · cases e
    refine ⟨g, rfl, hb, ?_, fun j => frozen_of_row w g j cur 3 hg⟩
    rcases Nat.lt_or_ge g w.heap.size with hlt | hge
    · exact hlt
    · rw [Array.getElem?_eq_none hge] at hg; cases hg

theorem Owned.stored {w : World} {base g n c : Nat} {xs : List Int} (h : Owned w base (.slice (some ⟨g, 0, none⟩) n c) xs) (j : Nat) (u : Int) :
    Owned (w.setCell ⟨g, j, none⟩ (.int .i64 u)) base (.slice (some ⟨g, 0, none⟩) n c) (xs.set j u) := by
  have hf := h.form
  obtain ⟨A', c', e⟩ := hf
  cases e
  have := (World.ownsRow.stored h j (.int .i64 u)).1
  unfold Owned
  rw [List.length_set, List.map_set]
  exact this

theorem Owned.literal (w : World) (base : Nat) (xs : List Int) (cs : Array Value) (n : Nat) (hb : base ≤ w.heap.size) (hcs : cs = (xs.map (Value.int .i64)).toArray) (hn : n = xs.length) (hm : xs.length ≤ 17592186044416) :
    Owned (w.alloc (.cells cs 3)) base (.slice (some ⟨w.heap.size, 0, none⟩) n n) xs := by
  subst hcs hn
  have := World.ownsRow_lit (e := 3) (size := 1) w (xs.map (Value.int .i64)).toArray xs.length hb (by unfold maxLen; omega) (by simp)
  unfold Owned
  simpa using this

theorem made_ints (n : Nat) : (madeCells (Value.int .i64 0).cells (n * 1)).toList = (List.replicate n (0 : Int)).map (Value.int .i64) := by
  rw [show (Value.int IntKind.i64 0).cells = #[Value.int .i64 0] from rfl, Nat.mul_one, toList_madeCells_one, List.map_replicate]

/-- make([]int, n). -/
theorem wpList_make_ints {ops : Array Oper} {rest : List Oper} {o : Oper} {a : Act} {Q : Exit → Act → World → Prop} (w : World) (hg : o.guard = none) (l c : Operand) (hop : o.op = Op.makeSlice 27 l c)
    (kl kc : IntKind) (n : Nat) (hl : a.eval l = .int kl n) (hc : a.eval c = .int kc n) (hn : n ≤ 17592186044416)
    (hK : ∀ w', Owned w' w.heap.size (.slice (some ⟨w.heap.size, 0, none⟩) n n) (List.replicate n 0) → Below w.heap.size w w' → wpList Try.prog ops Q rest (a.put o.dst (.slice (some ⟨w.heap.size, 0, none⟩) n n)) w') :
    wpList Try.prog ops Q (o :: rest) a w := by
  obtain ⟨i, hi, hz0, hz1, hz2⟩ := info_parts info3
  refine wpList_make_full w hg l c 27 hop w.heap.size 3 i _ 1 Try.underlying27 hi hz0 hz1 kl kc _ _ n hl hc rfl rfl (by rw [hz2]; omega) (by unfold maxLen; omega) (Nat.le_refl _) ?_
  intro w' h1 h2
  refine hK w' ?_ ((Below.refl _ _).grown h2 (Nat.le_refl _) (fun k hk => by cases hk))
  unfold Owned
  rw [← made_ints, List.length_replicate]
  exact h1
end Go.Proofs.Ytedcdpmflcegbaa
end

section
/- What the rows hand over of a slice of numbers, in the words of these proofs. -/
namespace Go.Proofs.Ytedcdpmflcegbaa
open Go.RowKit

theorem block_lt {w : World} {p : Addr} {v : Value} (h : w.cell? p = some v) : p.block < w.heap.size := by
  rcases Nat.lt_or_ge p.block w.heap.size with hlt | hge
  · exact hlt
  · unfold World.cell? at h
    rw [Array.getElem?_eq_none hge] at h
    simp at h

theorem Ints.of_in {w : World} {A : Option Addr} {n cap : Nat} {zs : List Int} (hn : n ≤ 17592186044416)
    (h : (A = none ∧ n = 0 ∧ cap = 0 ∧ zs = []) ∨
      ∃ x, A = some x ∧ n ≤ cap ∧ cap ≤ maxLen ∧ zs.length = cap ∧ (∀ i, i < zs.length → w.cell? (x.add i) = some (.int .i64 (zs.getD i 0))) ∧ ∀ n ∈ zs, (Lit.int .i64 n).wf = true) :
    Ints w A n (zs.take n) := by
  rcases h with ⟨rfl, rfl, rfl, rfl⟩ | ⟨x, rfl, h1, _, h2, hc, _⟩
  · exact ⟨rfl, by omega, fun h => absurd h (by omega)⟩
  · refine ⟨by rw [List.length_take]; omega, hn, fun h0 => ?_⟩
    obtain ⟨b, off, spot⟩ := x
    have hc0 := hc 0 (by omega)
    have hspot : spot = none := by simpa [Addr.add] using World.cell?_spot hc0
    subst hspot
    refine ⟨b, off, rfl, by have := block_lt hc0; simpa [Addr.add] using this, fun j hj => ?_⟩
    have := hc j (by omega)
    rw [show (⟨b, off, none⟩ : Addr).add j = ⟨b, off + j, none⟩ by unfold Addr.add; split <;> simp_all] at this
    rw [this]
    simp [List.getD, hj]

theorem Owned.look {w : World} {base : Nat} {v : Value} {xs : List Int} (h : Owned w base v xs) (hm : xs.length ≤ 17592186044416) : ∃ A n c, v = .slice A n c ∧ Ints w A n xs := by
  obtain ⟨A, c, rfl⟩ := h.form
  exact ⟨A, _, c, rfl, h.ints hm⟩
end Go.Proofs.Ytedcdpmflcegbaa
end

section
/- What a well formed number is. -/
namespace Go.Proofs.Ytedcdpmflcegbaa

theorem u64_nat {a : Int} (h : (Lit.int .u64 a).wf = true) : ∃ s : Nat, a = s ∧ s < 18446744073709551616 := by
  obtain ⟨h1, h2⟩ := (Lit.wf_int_iff _ _).1 h
  simp [IntKind.min, IntKind.max, IntKind.signed, IntKind.bits] at h1 h2
  exact ⟨a.toNat, by omega, by omega⟩
theorem u8_nat {a : Int} (h : (Lit.int .u8 a).wf = true) : ∃ s : Nat, a = s ∧ s < 256 := by
  obtain ⟨h1, h2⟩ := (Lit.wf_int_iff _ _).1 h
  simp [IntKind.min, IntKind.max, IntKind.signed, IntKind.bits] at h1 h2
  exact ⟨a.toNat, by omega, by omega⟩
theorem i64_in {a : Int} (h : (Lit.int .i64 a).wf = true) : -9223372036854775808 ≤ a ∧ a ≤ 9223372036854775807 := by
  obtain ⟨h1, h2⟩ := (Lit.wf_int_iff _ _).1 h
  simp [IntKind.min, IntKind.max, IntKind.signed, IntKind.bits] at h1 h2
  exact ⟨h1, h2⟩
end Go.Proofs.Ytedcdpmflcegbaa
end

section
/- A slice of numbers of any kind that reads as a list. -/
namespace Go.Proofs.Ytedcdpmflcegbaa
open Go.RowKit

/-- The slice '.slice A n _' holds the numbers xs of the kind kd, which fit it. -/
def Nums (kd : IntKind) (w : World) (A : Option Addr) (n : Nat) (xs : List Int) : Prop :=
  xs.length = n ∧ n ≤ 17592186044416 ∧ (0 < n → ∃ b off, A = some ⟨b, off, none⟩ ∧ b < w.heap.size ∧ ∀ j, j < n → w.cell? ⟨b, off + j, none⟩ = some (.int kd (xs[j]?.getD 0))) ∧
  ∀ j, j < n → (Lit.int kd (xs[j]?.getD 0)).wf = true

theorem Nums.below {kd : IntKind} {w w' : World} {A : Option Addr} {n : Nat} {xs : List Int} (h : Nums kd w A n xs) (hb : Below w.heap.size w w') : Nums kd w' A n xs :=
  ⟨h.1, h.2.1, fun hn => by
    obtain ⟨b, off, e, hlt, hc⟩ := h.2.2.1 hn
    exact ⟨b, off, e, Nat.lt_of_lt_of_le hlt hb.size, fun j hj => (hb.cell hlt).trans (hc j hj)⟩, h.2.2.2⟩

theorem Nums.at_ {kd : IntKind} {w : World} {A : Option Addr} {n : Nat} {xs : List Int} (h : Nums kd w A n xs) {k : Nat} (hk : k < n) :
    ∃ b off, A = some ⟨b, off, none⟩ ∧ b < w.heap.size ∧ w.cell? ⟨b, off + k, none⟩ = some (.int kd (xs[k]?.getD 0)) := by
  obtain ⟨b, off, e, hlt, hc⟩ := h.2.2.1 (by omega)
  exact ⟨b, off, e, hlt, hc k hk⟩

theorem Nums.of_in {kd : IntKind} {w : World} {A : Option Addr} {n cap : Nat} {zs : List Int} (hn : n ≤ 17592186044416)
    (h : (A = none ∧ n = 0 ∧ cap = 0 ∧ zs = []) ∨
      ∃ x, A = some x ∧ n ≤ cap ∧ cap ≤ maxLen ∧ zs.length = cap ∧ (∀ i, i < zs.length → w.cell? (x.add i) = some (.int kd (zs.getD i 0))) ∧ ∀ n ∈ zs, (Lit.int kd n).wf = true) :
    Nums kd w A n (zs.take n) := by
  rcases h with ⟨rfl, rfl, rfl, rfl⟩ | ⟨x, rfl, h1, _, h2, hc, hw⟩
  · exact ⟨rfl, by omega, fun h => absurd h (by omega), fun j h => absurd h (by omega)⟩
  · refine ⟨by rw [List.length_take]; omega, hn, fun h0 => ?_, fun j hj => ?_⟩
    · obtain ⟨b, off, spot⟩ := x
      have hc0 := hc 0 (by omega)
      have hspot : spot = none := by simpa [Addr.add] using World.cell?_spot hc0
      subst hspot
      refine ⟨b, off, rfl, by have := block_lt hc0; simpa [Addr.add] using this, fun j hj => ?_⟩
      have := hc j (by omega)
      rw [show (⟨b, off, none⟩ : Addr).add j = ⟨b, off + j, none⟩ by unfold Addr.add; split <;> simp_all] at this
      rw [this]
      simp [List.getD, hj]
    · apply hw
      rw [List.getElem?_take, if_pos hj, List.getElem?_eq_getElem (by omega)]
      exact List.getElem_mem _
end Go.Proofs.Ytedcdpmflcegbaa
end

section
/- Lists of lists, and the reference's Join. -/
namespace Go.Proofs.Ytedcdpmflcegbaa
open Go.RowKit

/-- The slice '.slice A n _' holds the lists xss. -/
def Lists (w : World) (A : Option Addr) (n : Nat) (xss : List (List Int)) : Prop :=
  xss.length = n ∧ n ≤ 17592186044416 ∧ (0 < n → ∃ b off, A = some ⟨b, off, none⟩ ∧ b < w.heap.size ∧
    ∀ j, j < n → ∃ Aj nj cj, w.cell? ⟨b, off + j, none⟩ = some (.slice Aj nj cj) ∧ Ints w Aj nj (xss.getD j []))

theorem Lists.below {w w' : World} {A : Option Addr} {n : Nat} {xss : List (List Int)} (h : Lists w A n xss) (hb : Below w.heap.size w w') : Lists w' A n xss :=
  ⟨h.1, h.2.1, fun hn => by
    obtain ⟨b, off, e, hlt, hc⟩ := h.2.2 hn
    refine ⟨b, off, e, Nat.lt_of_lt_of_le hlt hb.size, fun j hj => ?_⟩
    obtain ⟨Aj, nj, cj, h1, h2⟩ := hc j hj
    exact ⟨Aj, nj, cj, (hb.cell hlt).trans h1, h2.below hb⟩⟩

theorem Lists.at_ {w : World} {A : Option Addr} {n : Nat} {xss : List (List Int)} (h : Lists w A n xss) {k : Nat} (hk : k < n) :
    ∃ b off Aj nj cj, A = some ⟨b, off, none⟩ ∧ b < w.heap.size ∧ w.cell? ⟨b, off + k, none⟩ = some (.slice Aj nj cj) ∧ Ints w Aj nj (xss.getD k []) := by
  obtain ⟨b, off, e, hlt, hc⟩ := h.2.2 (by omega)
  obtain ⟨Aj, nj, cj, h1, h2⟩ := hc k hk
  exact ⟨b, off, Aj, nj, cj, e, hlt, h1, h2⟩

/-- The first j lists, one after the other. -/
def cat (xss : List (List Int)) (j : Nat) : List Int := (xss.take j).flatten

theorem cat_zero (xss : List (List Int)) : cat xss 0 = [] := by simp [cat]
theorem cat_succ {xss : List (List Int)} {j : Nat} (h : j < xss.length) : cat xss (j + 1) = cat xss j ++ xss.getD j [] := by
  unfold cat
  rw [List.take_succ_eq_append_getElem h, List.flatten_append]
  simp [List.getD, h]
theorem cat_all (xss : List (List Int)) : cat xss xss.length = xss.flatten := by simp [cat]
theorem cat_len (xss : List (List Int)) (j : Nat) : (cat xss j).length ≤ xss.flatten.length := by
  have h : xss.flatten = cat xss j ++ (xss.drop j).flatten := by unfold cat; rw [← List.flatten_append, List.take_append_drop]
  rw [h, List.length_append]; omega


end Go.Proofs.Ytedcdpmflcegbaa
end

section
/- What the rows hand over: slices of numbers, with the form's reach. -/
namespace Go.Proofs.Ytedcdpmflcegbaa
open Go.ChangeShapes Go.WideShapes Go.ChangeAt Go.RowKit Go.Joins Go.Deep

theorem bsz {w w' : World} {o : Obj} (h : Below (w.heap.size + 1) (w.alloc o) w') : w.heap.size + 1 ≤ w'.heap.size := by have := h.size; simpa using this

section
variable {H : Type} {enc : TypeId × Value → H}

/-- A change's contract with the reach at hand. -/
theorem handed_sized {C : Checked} {os : Os} {f : FuncId} {fn : Func} {s : ChangeSpec} {conds : List PathCond} {apart fresh handsOn again : Bool}
    (own : ownKnob C.prog.godebug = none) (started : os.Started) (noInit : C.prog.inits.idxOf? f = none) (hfn : C.prog.funcs[f]? = some fn)
    (witness : ∃ (w : World) (tape : Tape) (i : Input), w.os = os ∧ (w.forCall tape i).Shaped C.prog ∧ i.vars = [] ∧ Input.okWide C.prog (w.forCall tape i) .any w.heap.size f i ∧
      s.pre6 enc C.prog fn conds apart (w.forCall tape i).memory i.args ∧ ({} : Assume).holds C.prog (lone (Frame.enter C.prog f i.args .normal) [] (w.forCall tape i)))
    (contract : ∀ (W : World) (base : Nat) (args : Array Value) (ds gs : List (DataW H)) (before : List MemPlace),
      (∀ (j : Nat) t v, fn.params[j]? = some t → args[j]? = some v → Value.okWide C.prog W .any base t v) →
      DataW.Whole enc C.prog fn.params.toList s.vars apart W args.toList ds gs before →
      (DataW.weightsEach C.prog (fn.params.toList ++ s.plain.varTypes C.prog) (ds ++ gs)).all (· ≤ reachBytes) = true →
      Calls C.prog f args W fun e W' => ∃ v, e = .returned v ∧ s.post enc C.prog fn apart fresh handsOn again W args v W') :
    ReturnsInHanded {} C os f .any (s.pre6 enc C.prog fn conds apart) (s.post enc C.prog fn apart fresh handsOn again) := by
  have e : s.pre6 enc C.prog fn conds apart = fun w args => (s.pre enc C.prog fn conds apart w args ∧ True) ∧ sizedMet enc C.prog fn (OpenSpec.ofChange s) apart w args := by
    funext w args
    unfold ChangeSpec.pre6
    rw [and_true]
  rw [e] at witness ⊢
  exact returnsInHanded_of_change_and (X := fun _ _ => True) (fun _ _ _ _ _ => trivial) own started noInit hfn witness (fun W base args ds gs before h1 h2 _ h4 _ _ => contract W base args ds gs before h1 h2 h4)

/-- What a datum weighs is within the reach. -/
def Light (P : Program) (t : TypeId) (d : DataW H) : Prop := ∀ n ∈ d.weights P t, n ≤ reachBytes
theorem light_of {P : Program} {ts : List TypeId} {ds : List (DataW H)} (h : (DataW.weightsEach P ts ds).all (· ≤ reachBytes) = true) {j : Nat} {t : TypeId} {d : DataW H} (ht : ts[j]? = some t) (hd : ds[j]? = some d) : Light P t d := fun n hn => by
  have := List.all_eq_true.1 h _ (DataW.weights_mem_each ht hd n hn)
  simpa using this

theorem add_none {b off k : Nat} : (⟨b, off, none⟩ : Addr).add k = ⟨b, off + k, none⟩ := by unfold Addr.add; split <;> simp_all
theorem reach_num : reachBytes = 140737488351232 := rfl

variable {w : World} {base : Nat} {held : Bool} {fuel : Nat} {cs : List Value} {x : DataW H × List MemPlace}

/-- A slice of ints that came in. -/
theorem open_intsw (hb3 : Try.prog.bytesOf 3 = 8) (h : DataW.trod enc Try.prog w base (fun _ => true) held fuel 27 cs = some x) (hl : Light Try.prog 27 x.1) :
    ∃ A n c zs, cs = [.slice A n c] ∧ n ≤ c ∧ Ints w A n zs ∧ (∀ z, z ∈ zs → (Lit.int .i64 z).wf = true) := by
  rcases open_ints Try.underlying27 Try.underlying3 (by kernel_rfl) h with ⟨hcs, hx⟩ | ⟨a, l, c, zs, hcs, _, hlc, hm, hz, hx, hcell, hwz⟩
  · exact ⟨none, 0, 0, [], hcs, Nat.le_refl _, ⟨rfl, by omega, fun h => absurd h (by omega)⟩, by simp⟩
  · simp only [if_true] at hz
    subst hx
    have := hl (((lits (H := H) .i64 (zs.take l)).length + (lits (H := H) .i64 (zs.drop l)).length) * 8) (by simp [DataW.weights, Try.underlying27, hb3])
    rw [reach_num] at this
    simp only [lits, List.length_map, List.length_take, List.length_drop] at this
    have hb : l ≤ 17592186044416 := by omega
    exact ⟨some a, l, c, zs.take l, hcs, hlc, Ints.of_in (cap := c) hb (.inr ⟨a, rfl, hlc, hm, hz, hcell, hwz⟩), fun z hz => hwz z (List.mem_of_mem_take hz)⟩

theorem weightsAll_mem {P : Program} {e : TypeId} : ∀ {l : List (DataW H)} {d : DataW H} {n : Nat}, d ∈ l → n ∈ d.weights P e → n ∈ DataW.weightsAll P e l
  | [], _, _, h, _ => absurd h (by simp)
  | d0 :: l, d, n, h, hn => by
    rw [DataW.weightsAll, List.mem_append]
    rcases List.mem_cons.1 h with e | h
    · subst e; exact .inl hn
    · exact .inr (weightsAll_mem h hn)
end
end Go.Proofs.Ytedcdpmflcegbaa
end

section
/- What the rows hand over: slices of lists, machines, with the form's reach. -/
namespace Go.Proofs.Ytedcdpmflcegbaa
open Go.ChangeShapes Go.WideShapes Go.ChangeAt Go.RowKit Go.Joins Go.Deep

section
variable {H : Type} {enc : TypeId × Value → H} {w : World} {base : Nat} {held : Bool} {fuel : Nat} {cs : List Value} {x : DataW H × List MemPlace}

/-- A slice of slices of ints that came in. -/
theorem open_lists (hb3 : Try.prog.bytesOf 3 = 8) (hb4 : Try.prog.bytesOf 27 = 24) (h : DataW.trod enc Try.prog w base (fun _ => true) held fuel 22 cs = some x) (hl : Light Try.prog 22 x.1) :
    ∃ A n c xss, cs = [.slice A n c] ∧ n ≤ c ∧ Lists w A n xss := by
  rcases open_int_rows Try.underlying22 Try.underlying27 Try.underlying3 (by kernel_rfl) (by kernel_rfl) h with ⟨hcs, hx⟩ | ⟨a, l, c, A, L, C, Z, hcs, _, hlc, hm, hx, hcell⟩
  · exact ⟨none, 0, 0, [], hcs, Nat.le_refl _, ⟨rfl, by omega, fun h => absurd h (by omega)⟩⟩
  · subst hx
    refine ⟨some a, l, c, (List.range l).map fun r => (Z r).take (L r), hcs, hlc, by simp, ?_, fun h0 => ?_⟩
    · have := hl ((((List.range l).map fun r => intRow (H := H) .i64 (A r) (L r) (Z r)).length + ((List.range (c - l)).map fun j => intRow (H := H) .i64 (A (l + j)) (L (l + j)) (Z (l + j))).length) * 24) (by simp [DataW.weights, Try.underlying22, hb4])
      rw [reach_num] at this
      simp only [List.length_map, List.length_range] at this
      omega
    · obtain ⟨b, off, spot⟩ := a
      have hc0 := (hcell 0 (by omega)).1
      have hspot : spot = none := by simpa [Addr.add] using World.cell?_spot hc0
      subst hspot
      refine ⟨b, off, rfl, by have := block_lt hc0; simpa [Addr.add] using this, fun j hj => ?_⟩
      obtain ⟨h1, h2, h3, h4, h5, h6, h7⟩ := hcell j (by omega)
      have e : ((List.range l).map fun r => (Z r).take (L r)).getD j [] = (Z j).take (L j) := by simp [List.getD, hj]
      rw [add_none] at h1
      refine ⟨A j, L j, C j, h1, ?_⟩
      rw [e]
      cases hA : A j with
      | none =>
        have hC := h6 hA
        exact Ints.of_in (cap := C j) (by omega) (.inl ⟨rfl, by omega, hC, List.eq_nil_of_length_eq_zero (by omega)⟩)
      | some y =>
        have hw : Light Try.prog 27 (intRow (H := H) .i64 (A j) (L j) (Z j)) := fun n hn => hl n (by
          simp only [DataW.weights, Try.underlying22]
          exact List.mem_cons_of_mem _ (List.mem_append_left _ (weightsAll_mem (List.mem_map.2 ⟨j, List.mem_range.2 hj, rfl⟩) hn)))
        rw [hA] at hw
        have := hw (((lits (H := H) .i64 ((Z j).take (L j))).length + (lits (H := H) .i64 ((Z j).drop (L j))).length) * 8) (by simp [intRow, DataW.weights, Try.underlying27, hb3])
        rw [reach_num] at this
        simp only [lits, List.length_map, List.length_take, List.length_drop] at this
        exact Ints.of_in (cap := C j) (by omega) (.inr ⟨y, rfl, h2, h3, h4, fun i hi => (h7 y hA).2 i (by omega), h5⟩)

theorem cells_mealy : Try.prog.cellsOf 24 = 4 := by kernel_rfl
set_option maxRecDepth 100000 in
/-- A machine that came in. -/
theorem open_mealy (hb3 : Try.prog.bytesOf 3 = 8) (hb4 : Try.prog.bytesOf 27 = 24) {r : Reach} {b0 : Nat} {v : Value} {d : DataW H} {p : List MemPlace} (hv : Value.okWide Try.prog w r b0 24 v) (h : DataW.Trod enc Try.prog w base (fun _ => true) held 24 v d p) (hl : Light Try.prog 24 d) :
    ∃ i st A n c B m e nx ot, v = .agg #[.int .i64 i, .int .i64 st, .slice A n c, .slice B m e] ∧ Lists w A n nx ∧ Lists w B m ot ∧ (Lit.int .i64 i).wf = true ∧ (Lit.int .i64 st).wf = true := by
  obtain ⟨c0, c1, c2, c3, y0, y1, y2, y3, f, rfl, hd, _, h0, h1, h2, h3⟩ := open_agg4 Try.underlying24 (by kernel_rfl) cells_mealy hv h
  obtain ⟨i, e0, _, w0⟩ := DataW.trod_int Try.underlying3 h0
  obtain ⟨st, e1, _, w1⟩ := DataW.trod_int Try.underlying3 h1
  subst hd
  have hw : ∀ n, n ∈ y2.1.weights Try.prog 22 ∨ n ∈ y3.1.weights Try.prog 22 → n ≤ reachBytes := fun n hn => hl n (by
    simp only [DataW.weights, Try.underlying24]
    rcases hn with hn | hn
    · exact DataW.weights_mem_each (j := 2) rfl rfl n hn
    · exact DataW.weights_mem_each (j := 3) rfl rfl n hn)
  obtain ⟨A, n, c, nx, e2, _, l2⟩ := open_lists hb3 hb4 h2 (fun n hn => hw n (.inl hn))
  obtain ⟨B, m, e, ot, e3, _, l3⟩ := open_lists hb3 hb4 h3 (fun n hn => hw n (.inr hn))
  simp at e0 e1 e2 e3
  subst e0 e1 e2 e3
  exact ⟨i, st, A, n, c, B, m, e, nx, ot, rfl, l2, l3, w0, w1⟩
end
end Go.Proofs.Ytedcdpmflcegbaa
end

section
/- The walk of slices.Grow of a nil slice. -/
namespace Go.Proofs.Ytedcdpmflcegbaa
open Go.RowKit

set_option maxHeartbeats 1000000 in
set_option maxRecDepth 100000 in
theorem grow_nil (N : Nat) (hN : N ≤ 17592186044416) (w : World) :
    Calls Try.prog 69 #[.slice none 0 0, .int .i64 N] w fun e w' => ∃ v, e = .returned v ∧ w'.ownsRow w.heap.size 3 1 v 0 [] ∧ Below w.heap.size w w' := by
  obtain ⟨i0, hi, hz0, hz1, hz2⟩ := info_parts info3
  by_cases h0 : N = 0
  · subst h0
    go_enter Try.func69, Try.ntmps69
    go_wp2
    go_ret
    exact ⟨_, rfl, World.ownsRow_nil _ _ _ _, Below.refl _ _⟩
  · have happ := Lib.run_append_nil_zeros (P := Try.prog) w 27 3 27 3 i0 (.int .i64 0) .i64 .i64 Try.underlying27 Try.underlying3 hi hz0 N (by omega) (by omega) (by omega) (by rw [hz2]; omega)
    have hge := grownCap_ge w N 0 3
    have hcm := grownCap_le_maxLen w N 0 3 (by unfold maxLen; omega)
    generalize grownCap w N 0 3 = cap at happ hge hcm
    generalize hZ : (Builtin.zeroCells (Value.int .i64 0).cells N ++ Builtin.zeroCells (Value.int .i64 0).cells (cap - N)) = Z at happ
    have hZs : Z.size = cap := by rw [← hZ]; simp [size_zeroCells, Value.cells]; omega
    have hp : (0 : Int) < N := by omega
    have HZ := Lib.hid hZs
    clear hZ hZs
    have hmx : cap ≤ 9223372036854775807 := by unfold maxLen at hcm; omega
    go_enter Try.func69, Try.ntmps69
    go_wp2_with (at_builtin; refine Lib.wpList_append_run _ rfl _ _ _ _ rfl _ _ rfl rfl _ _ happ ?_)
    go_ret
    refine ⟨_, rfl, ?_, (Below.refl _ _).drew.alloc (Nat.le_refl _) _⟩
    refine ⟨by simp, .inr ⟨w.heap.size, cap, Z, rfl, Nat.le_refl _, heap_alloc_new w _, Nat.zero_le _, hcm, by rw [HZ.out]; simp, by simp⟩⟩
end Go.Proofs.Ytedcdpmflcegbaa
end

section
/- slices.Concat of lists of numbers. -/
namespace Go.Proofs.Ytedcdpmflcegbaa
open Go.RowKit

set_option maxHeartbeats 1000000 in
set_option maxRecDepth 100000 in
theorem sconcat (A : Option Addr) (n c : Nat) (xss : List (List Int)) (w : World) (h : Lists w A n xss) (hlen : xss.flatten.length ≤ 17592186044416) :
    Calls Try.prog 58 #[.slice A n c] w fun e w' => ∃ A' c', e = .returned (.slice A' xss.flatten.length c') ∧ Owned w' w.heap.size (.slice A' xss.flatten.length c') xss.flatten ∧ Below w.heap.size w w' := by
  have L := Lib.hid h.1
  have hn := h.2.1
  have hall := Lib.hid (show cat xss n = xss.flatten by rw [← L.out, cat_all])
  have hcl := Lib.hid (fun j => Nat.le_trans (cat_len xss j) hlen)
  clear hlen
  go_enter Try.func58, Try.ntmps58
  go_wp2
  go_loop [3, 11] (fun s i => ∃ k : Nat, k ≤ n ∧ i = .int .i64 k ∧ s = .int .i64 (cat xss k).length) (fun _ i => n - (intOf i).toNat)
  case atStart => exact ⟨0, Nat.zero_le _, rfl, by rw [cat_zero]; rfl⟩
  case round =>
    obtain ⟨k, hk, rfl, rfl⟩ := hrel
    by_cases hlt : k < n
    · obtain ⟨b, off, Aj, nj, cj, rfl, _, hcell, hI⟩ := h.at_ hlt
      have hs : (cat xss (k + 1)).length = (cat xss k).length + nj := by rw [cat_succ (by rw [L.out]; exact hlt), List.length_append, hI.1]
      have hc1 := hcl.out (k + 1)
      generalize (cat xss k).length = a at hs
      generalize hz : (cat xss (k + 1)).length = z at hs hc1
      have HZ := Lib.hid hz
      have u1 : ((a : Int) + (nj : Int)) = (z : Int) := by omega
      have d1 : decide (((z : Nat) : Int) < 0) = false := by simp
      clear hI hz hs
      go_wp2
      go_round
      case rel => exact ⟨k + 1, by omega, by go_num, by rw [HZ.out]⟩
      case measure => simp [intOf]; omega
    · obtain rfl : k = n := by omega
      rw [hall.out]
      have hf := hcl.out k
      rw [hall.out] at hf
      obtain ⟨F, hF⟩ : ∃ F : Nat, F = xss.flatten.length := ⟨_, rfl⟩
      rw [← hF] at hf ⊢
      have HF := Lib.hid hF
      clear hF
      go_wp2_with fail
      refine (grow_nil F hf _).mono ?_
      rintro e w1 ⟨v1, rfl, o1, b1⟩
      have O1 := Lib.hid (show Owned w1 w.heap.size v1 [] from o1)
      clear o1
      go_wp2
      go_loopw [6, 27] (fun v i wr => ∃ q : Nat, q ≤ k ∧ i = .int .i64 q ∧ Owned wr w.heap.size v (cat xss q) ∧ Below w.heap.size w wr) (fun _ i _ => k - (intOf i).toNat)
      case atStart => exact ⟨0, Nat.zero_le _, rfl, by rw [cat_zero]; exact O1.out, b1⟩
      case round =>
        obtain ⟨q, hq, rfl, hown, hbr⟩ := hrel
        by_cases hlt : q < k
        · obtain ⟨b, off, Aj, nj, cj, rfl, _, hcell, hI⟩ := (h.below hbr).at_ hlt
          have hs := Lib.hid (cat_succ (xss := xss) (j := q) (by rw [L.out]; exact hlt))
          have hb2 := hcl.out (q + 1)
          rw [hs.out] at hb2
          obtain ⟨v', w', hr, ho', _, hbel'⟩ := run_append_ints _ _ _ _ _ _ _ cj hown hI hbr.size hb2
          rw [← hs.out] at ho'
          have O2 := Lib.hid ho'
          have B2 := Lib.hid (hbr.trans hbel')
          clear hb2 hI hown hbr ho' hbel'
          go_wp2_with (at_builtin; refine Lib.wpList_append_run _ rfl _ _ _ _ rfl _ _ rfl rfl _ _ hr ?_)
          go_roundw
          case rel => exact ⟨q + 1, by omega, by go_num, O2.out, B2.out⟩
          case measure => simp [intOf]; omega
        · obtain rfl : q = k := by omega
          rw [hall.out] at hown
          have hf2 := hown.form
          obtain ⟨A2, c2, rfl⟩ := hf2
          have O2 := Lib.hid hown
          clear hown
          go_wp2
          go_ret
          exact ⟨A2, c2, rfl, O2.out, hbr⟩
end Go.Proofs.Ytedcdpmflcegbaa
end

section
/- word.Join. -/
namespace Go.Proofs.Ytedcdpmflcegbaa
open Go.RowKit

theorem wjoin (A : Option Addr) (n c : Nat) (xss : List (List Int)) (w : World) (h : Lists w A n xss) (hlen : xss.flatten.length ≤ 17592186044416) :
    Calls Try.prog 35 #[.slice A n c] w fun e w' => ∃ v, e = .returned v ∧ Owned w' w.heap.size v xss.flatten ∧ Below w.heap.size w w' := by
  go_enter Try.func35, Try.ntmps35
  go_wp2_with fail
  refine (sconcat A n c xss _ h hlen).mono ?_
  rintro e w' ⟨A', c', rfl, h1, h2⟩
  generalize Value.slice A' xss.flatten.length c' = v at h1 ⊢
  go_wp2
  go_ret
  exact ⟨_, rfl, h1, h2⟩

/-- A list of one list, as a literal makes it. -/
theorem Lists.one (w : World) (A : Option Addr) (n c : Nat) (xs : List Int) (h : Ints w A n xs) :
    Lists (w.alloc (.cells #[.slice A n c] 27)) (some ⟨w.heap.size, 0, none⟩) 1 [xs] := by
  have hb : Below w.heap.size w (w.alloc (.cells #[.slice A n c] 27)) := (Below.refl _ _).alloc (Nat.le_refl _) _
  refine ⟨rfl, by omega, fun _ => ⟨w.heap.size, 0, rfl, by simp, fun j hj => ?_⟩⟩
  obtain rfl : j = 0 := by omega
  refine ⟨A, n, c, ?_, h.below hb⟩
  have := cell_of_row (w.alloc (.cells #[.slice A n c] 27)) w.heap.size 0 #[.slice A n c] 27 (0, 0) (heap_alloc_new w _)
  rw [Nat.zero_add, this]; rfl

/-- Join of one word. -/
theorem wjoin1 (A : Option Addr) (n c : Nat) (xs : List Int) (w : World) (h : Ints w A n xs) :
    Calls Try.prog 35 #[.slice (some ⟨w.heap.size, 0, none⟩) 1 1] (w.alloc (.cells #[.slice A n c] 27)) fun e w' => ∃ A' c', e = .returned (.slice A' n c') ∧ Owned w' w.heap.size (.slice A' n c') xs ∧ Below w.heap.size w w' := by
  refine (wjoin _ _ _ [xs] _ (Lists.one w A n c xs h) (by simp; rw [h.1]; exact h.2.1)).mono ?_
  rintro e w' ⟨v, rfl, hv, hb⟩
  rw [show ([xs] : List (List Int)).flatten = xs by simp] at hv
  obtain ⟨A', c', e⟩ := hv.form
  rw [h.1] at e
  subst e
  refine ⟨A', c', rfl, hv.lower (by simp), ((Below.refl _ _).alloc (Nat.le_refl _) _).trans (hb.mono (by simp))⟩
end Go.Proofs.Ytedcdpmflcegbaa
end

section
/- The walks of Check, by the two texts. -/
namespace Go.Proofs.Ytedcdpmflcegbaa
open Go.RowKit

/-- The first j numbers are symbols of the size k. -/
def Syms (xs : List Int) (k : Int) (j : Nat) : Prop := ∀ m, m < j → 0 ≤ xs.getD m 0 ∧ xs.getD m 0 < k

instance (xs : List Int) (k : Int) (j : Nat) : Decidable (Syms xs k j) := by unfold Syms; exact inferInstance

theorem Syms.zero (xs : List Int) (k : Int) : Syms xs k 0 := fun m hm => absurd hm (by omega)
theorem Syms.succ {xs : List Int} {k : Int} {j : Nat} (h : Syms xs k j) (h0 : 0 ≤ xs.getD j 0) (h1 : xs.getD j 0 < k) : Syms xs k (j + 1) := fun m hm => by
  by_cases e : m = j
  · subst e; exact ⟨h0, h1⟩
  · exact h m (by omega)

/-- The error of Check. -/
def chk (xs : List Int) (k : Int) : Int :=
  if 1 ≤ k ∧ k ≤ 1024 then (if 1024 < xs.length then 3 else if Syms xs k xs.length then 0 else 1) else 2

theorem chk_range {xs : List Int} {k : Int} (h : ¬ (1 ≤ k ∧ k ≤ 1024)) : chk xs k = 2 := by unfold chk; rw [if_neg h]
theorem chk_long {xs : List Int} {k : Int} (h : 1 ≤ k ∧ k ≤ 1024) (hl : 1024 < xs.length) : chk xs k = 3 := by unfold chk; rw [if_pos h, if_pos hl]
theorem chk_ok {xs : List Int} {k : Int} (h : 1 ≤ k ∧ k ≤ 1024) (hl : ¬ 1024 < xs.length) (hs : Syms xs k xs.length) : chk xs k = 0 := by unfold chk; rw [if_pos h, if_neg hl, if_pos hs]
theorem chk_bad {xs : List Int} {k : Int} (h : 1 ≤ k ∧ k ≤ 1024) (hl : ¬ 1024 < xs.length) {j : Nat} (hj : j < xs.length) (hs : ¬ (0 ≤ xs.getD j 0 ∧ xs.getD j 0 < k)) : chk xs k = 1 := by
  unfold chk; rw [if_pos h, if_neg hl, if_neg fun H => hs (H j hj)]


theorem chk_zero {xs : List Int} {k : Int} (h : chk xs k = 0) : 1 ≤ k ∧ k ≤ 1024 ∧ xs.length ≤ 1024 ∧ Syms xs k xs.length := by
  unfold chk at h
  by_cases h1 : 1 ≤ k ∧ k ≤ 1024
  · rw [if_pos h1] at h
    by_cases h2 : 1024 < xs.length
    · rw [if_pos h2] at h; omega
    · rw [if_neg h2] at h
      by_cases h3 : Syms xs k xs.length
      · exact ⟨h1.1, h1.2, by omega, h3⟩
      · rw [if_neg h3] at h; omega
  · rw [if_neg h1] at h; omega

theorem wperm (k : Int) (b : Bool) (h : b = true ↔ (1 ≤ k ∧ k ≤ 1024)) (w : World) :
    Calls Try.prog 60 #[.int .i64 k] w fun e w' => e = .returned (.bool b) ∧ w = w' := by
  by_cases h1 : 1 ≤ k
  · by_cases h2 : k ≤ 1024
    · obtain rfl : b = true := h.2 ⟨h1, h2⟩
      go_enter Try.func60, Try.ntmps60
      go_wp2
      go_ret
      exact ⟨rfl, rfl⟩
    · obtain rfl : b = false := by cases b; rfl; exact absurd (h.1 rfl).2 h2
      go_enter Try.func60, Try.ntmps60
      go_wp2
      go_ret
      exact ⟨rfl, rfl⟩
  · obtain rfl : b = false := by cases b; rfl; exact absurd (h.1 rfl).1 h1
    go_enter Try.func60, Try.ntmps60
    go_wp2
    go_ret
    exact ⟨rfl, rfl⟩

theorem rsize (k : Int) (b : Bool) (h : b = true ↔ (1 ≤ k ∧ k ≤ 1024)) (w : World) :
    Calls Try.prog 61 #[.int .i64 k] w fun e w' => e = .returned (.bool b) ∧ w = w' := by
  by_cases h1 : 1 ≤ k
  · by_cases h2 : k ≤ 1024
    · obtain rfl : b = true := h.2 ⟨h1, h2⟩
      go_enter Try.func61, Try.ntmps61
      go_wp2
      go_ret
      exact ⟨rfl, rfl⟩
    · obtain rfl : b = false := by cases b; rfl; exact absurd (h.1 rfl).2 h2
      go_enter Try.func61, Try.ntmps61
      go_wp2
      go_ret
      exact ⟨rfl, rfl⟩
  · obtain rfl : b = false := by cases b; rfl; exact absurd (h.1 rfl).1 h1
    go_enter Try.func61, Try.ntmps61
    go_wp2
    go_ret
    exact ⟨rfl, rfl⟩

set_option maxHeartbeats 400000 in
theorem wcheck (A : Option Addr) (n c : Nat) (k : Int) (xs : List Int) (w : World) (h : Ints w A n xs) :
    Calls Try.prog 43 #[.slice A n c, .int .i64 k] w fun e w' => e = .returned (.int .i64 (chk xs k)) ∧ w = w' := by
  have hlen := h.1
  have hn := h.2.1
  by_cases hr : 1 ≤ k ∧ k ≤ 1024
  · have H1 := Lib.hid hr
    obtain ⟨h1, h2⟩ := hr
    by_cases hl : 1024 < n
    · have hfin := Lib.hid (chk_long (xs := xs) ⟨h1, h2⟩ (by omega))
      clear hlen
      go_enter Try.func43, Try.ntmps43
      go_wp2_with (go_at_call 60; refine (wperm k true (by simp; omega) _).mono ?_; rintro e w' ⟨rfl, rfl⟩)
      go_ret
      exact ⟨ret_int hfin.out.symm, rfl⟩
    · have hd : decide ((1024 : Int) < (n : Int)) = false := by simp; omega
      have hL := Lib.hid hlen
      clear hlen
      go_enter Try.func43, Try.ntmps43
      go_wp2_with (go_at_call 60; refine (wperm k true (by simp; omega) _).mono ?_; rintro e w' ⟨rfl, rfl⟩)
      go_loop [15] (fun i => ∃ j : Nat, j ≤ n ∧ i = .int .i64 j ∧ Syms xs k j) (fun i => n - (intOf i).toNat)
      case atStart => exact ⟨0, Nat.zero_le _, rfl, Syms.zero _ _⟩
      case round =>
        obtain ⟨j, hj, rfl, hs⟩ := hrel
        by_cases hlt : j < n
        · obtain ⟨b, off, rfl, hb, hc⟩ := h.at_ hlt
          by_cases hg : 0 ≤ xs[j]?.getD 0 ∧ xs[j]?.getD 0 < k
          · obtain ⟨g1, g2⟩ := hg
            have g3 : ¬ xs[j]?.getD 0 < 0 := by omega
            have hs' := hs.succ (by simpa using g1) (by simpa using g2)
            go_wp2
            go_round
            case rel => exact ⟨j + 1, by omega, by go_num, hs'⟩
            case measure => simp [intOf]; omega
          · have hbad := Lib.hid (chk_bad H1.out (by rw [hL.out]; exact hl) (by rw [hL.out]; exact hlt) (by simpa using hg))
            by_cases g1 : xs[j]?.getD 0 < 0
            · go_wp2
              go_ret
              exact ⟨ret_int hbad.out.symm, rfl⟩
            · have g2 : k ≤ xs[j]?.getD 0 := by omega
              have g0 : 0 ≤ xs[j]?.getD 0 := by omega
              clear hg
              go_wp2
              go_ret
              exact ⟨ret_int hbad.out.symm, rfl⟩
        · have hok := Lib.hid (chk_ok H1.out (by rw [hL.out]; exact hl) (by rw [hL.out]; exact (by omega : j = n) ▸ hs))
          go_wp2
          go_ret
          exact ⟨ret_int hok.out.symm, rfl⟩
  · have hbad := Lib.hid (chk_range (xs := xs) hr)
    go_enter Try.func43, Try.ntmps43
    go_wp2_with (go_at_call 60; refine (wperm k false (by simp; omega) _).mono ?_; rintro e w' ⟨rfl, rfl⟩)
    go_ret
    exact ⟨ret_int hbad.out.symm, rfl⟩

set_option maxHeartbeats 400000 in
theorem rcheck (A : Option Addr) (n c : Nat) (k : Int) (xs : List Int) (w : World) (h : Ints w A n xs) :
    Calls Try.prog 45 #[.slice A n c, .int .i64 k] w fun e w' => e = .returned (.int .i64 (chk xs k)) ∧ w = w' := by
  have hlen := h.1
  have hn := h.2.1
  by_cases hr : 1 ≤ k ∧ k ≤ 1024
  · have H1 := Lib.hid hr
    obtain ⟨h1, h2⟩ := hr
    by_cases hl : 1024 < n
    · have hfin := Lib.hid (chk_long (xs := xs) ⟨h1, h2⟩ (by omega))
      clear hlen
      go_enter Try.func45, Try.ntmps45
      go_wp2_with (go_at_call 61; refine (rsize k true (by simp; omega) _).mono ?_; rintro e w' ⟨rfl, rfl⟩)
      go_ret
      exact ⟨ret_int hfin.out.symm, rfl⟩
    · have hd : decide ((1024 : Int) < (n : Int)) = false := by simp; omega
      have hL := Lib.hid hlen
      clear hlen
      go_enter Try.func45, Try.ntmps45
      go_wp2_with (go_at_call 61; refine (rsize k true (by simp; omega) _).mono ?_; rintro e w' ⟨rfl, rfl⟩)
      go_loop [5] (fun i => ∃ j : Nat, j ≤ n ∧ i = .int .i64 j ∧ Syms xs k j) (fun i => n - (intOf i).toNat)
      case atStart => exact ⟨0, Nat.zero_le _, rfl, Syms.zero _ _⟩
      case round =>
        obtain ⟨j, hj, rfl, hs⟩ := hrel
        by_cases hlt : j < n
        · obtain ⟨b, off, rfl, hb, hc⟩ := h.at_ hlt
          by_cases hg : 0 ≤ xs[j]?.getD 0 ∧ xs[j]?.getD 0 < k
          · obtain ⟨g1, g2⟩ := hg
            have g3 : ¬ xs[j]?.getD 0 < 0 := by omega
            have hs' := hs.succ (by simpa using g1) (by simpa using g2)
            go_wp2
            go_round
            case rel => exact ⟨j + 1, by omega, by go_num, hs'⟩
            case measure => simp [intOf]; omega
          · have hbad := Lib.hid (chk_bad H1.out (by rw [hL.out]; exact hl) (by rw [hL.out]; exact hlt) (by simpa using hg))
            by_cases g1 : xs[j]?.getD 0 < 0
            · go_wp2
              go_ret
              exact ⟨ret_int hbad.out.symm, rfl⟩
            · have g2 : k ≤ xs[j]?.getD 0 := by omega
              have g0 : 0 ≤ xs[j]?.getD 0 := by omega
              clear hg
              go_wp2
              go_ret
              exact ⟨ret_int hbad.out.symm, rfl⟩
        · have hok := Lib.hid (chk_ok H1.out (by rw [hL.out]; exact hl) (by rw [hL.out]; exact (by omega : j = n) ▸ hs))
          go_wp2
          go_ret
          exact ⟨ret_int hok.out.symm, rfl⟩
  · have hbad := Lib.hid (chk_range (xs := xs) hr)
    go_enter Try.func45, Try.ntmps45
    go_wp2_with (go_at_call 61; refine (rsize k false (by simp; omega) _).mono ?_; rintro e w' ⟨rfl, rfl⟩)
    go_ret
    exact ⟨ret_int hbad.out.symm, rfl⟩
end Go.Proofs.Ytedcdpmflcegbaa
end

section
/- Mealy machines as lists: what is valid, executed, reached. -/
namespace Go.Proofs.Ytedcdpmflcegbaa

/-- The first number that is not 0 among f 0 .. f (k - 1). -/
def fstE (f : Nat → Int) : Nat → Int
  | 0 => 0
  | k + 1 => if fstE f k = 0 then f k else fstE f k
theorem fstE_ok {f : Nat → Int} : ∀ {k : Nat}, (∀ t, t < k → f t = 0) → fstE f k = 0
  | 0, _ => rfl
  | k + 1, h => by
    unfold fstE
    rw [if_pos (fstE_ok fun t ht => h t (by omega))]
    exact h k (by omega)
theorem fstE_bad {f : Nat → Int} {j : Nat} (h : ∀ t, t < j → f t = 0) (hj : f j ≠ 0) : ∀ {k : Nat}, j < k → fstE f k = f j
  | 0, hk => absurd hk (by omega)
  | k + 1, hk => by
    unfold fstE
    by_cases e : j = k
    · subst e; rw [if_pos (fstE_ok h)]
    · have := fstE_bad h hj (k := k) (by omega)
      rw [this, if_neg hj]
theorem fstE_zero {f : Nat → Int} : ∀ {k : Nat}, fstE f k = 0 → ∀ t, t < k → f t = 0
  | 0, _, t, ht => absurd ht (by omega)
  | k + 1, h, t, ht => by
    unfold fstE at h
    by_cases e : fstE f k = 0
    · rw [if_pos e] at h
      by_cases e2 : t = k
      · subst e2; exact h
      · exact fstE_zero e t (by omega)
    · rw [if_neg e] at h; exact absurd h e

/-- The first k transitions of a row are fine. -/
def RowOk (n : Int) (r o : List Int) (k : Nat) : Prop := ∀ m, m < k → 0 ≤ r.getD m 0 ∧ r.getD m 0 < n ∧ 0 ≤ o.getD m 0 ∧ o.getD m 0 ≤ 1048576
theorem RowOk.zero (n : Int) (r o : List Int) : RowOk n r o 0 := fun m h => absurd h (by omega)
theorem RowOk.succ {n : Int} {r o : List Int} {k : Nat} (h : RowOk n r o k) (h1 : 0 ≤ r.getD k 0) (h2 : r.getD k 0 < n) (h3 : 0 ≤ o.getD k 0) (h4 : o.getD k 0 ≤ 1048576) : RowOk n r o (k + 1) := fun m hm => by
  by_cases e : m = k
  · subst e; exact ⟨h1, h2, h3, h4⟩
  · exact h m (by omega)
instance (n : Int) (r o : List Int) (k : Nat) : Decidable (RowOk n r o k) := by unfold RowOk; exact inferInstance

/-- The error of a row. -/
def rowE (i n : Int) (r o : List Int) : Int :=
  if (r.length : Int) = i ∧ (o.length : Int) = i then (if RowOk n r o r.length then 0 else 2) else 1
theorem rowE_len {i n : Int} {r o : List Int} (h : ¬ ((r.length : Int) = i ∧ (o.length : Int) = i)) : rowE i n r o = 1 := by unfold rowE; rw [if_neg h]
theorem rowE_ok {i n : Int} {r o : List Int} (h : (r.length : Int) = i ∧ (o.length : Int) = i) (h2 : RowOk n r o r.length) : rowE i n r o = 0 := by unfold rowE; rw [if_pos h, if_pos h2]
theorem rowE_bad {i n : Int} {r o : List Int} (h : (r.length : Int) = i ∧ (o.length : Int) = i) {k : Nat} (hk : k < r.length) (h2 : ¬ (0 ≤ r.getD k 0 ∧ r.getD k 0 < n ∧ 0 ≤ o.getD k 0 ∧ o.getD k 0 ≤ 1048576)) : rowE i n r o = 2 := by
  unfold rowE; rw [if_pos h, if_neg fun H => h2 (H k hk)]
theorem rowE_zero {i n : Int} {r o : List Int} (h : rowE i n r o = 0) : (r.length : Int) = i ∧ (o.length : Int) = i ∧ RowOk n r o r.length := by
  unfold rowE at h
  by_cases h1 : (r.length : Int) = i ∧ (o.length : Int) = i
  · rw [if_pos h1] at h
    by_cases h2 : RowOk n r o r.length
    · exact ⟨h1.1, h1.2, h2⟩
    · rw [if_neg h2] at h; omega
  · rw [if_neg h1] at h; omega

/-- The error of the row s of a machine. -/
def rowAt (i : Int) (nx ot : List (List Int)) (s : Nat) : Int := rowE i nx.length (nx.getD s []) (ot.getD s [])

/-- The error of Valid. -/
def vld (i st : Int) (nx ot : List (List Int)) : Int :=
  if 1 ≤ i ∧ i ≤ 64 then
    (if nx.length = 0 then 19 else if 128 < nx.length then 11 else if 0 ≤ st ∧ st < nx.length then (if ot.length = nx.length then fstE (rowAt i nx ot) nx.length else 1) else 2)
  else 2
theorem vld_in {i st : Int} {nx ot : List (List Int)} (h : ¬ (1 ≤ i ∧ i ≤ 64)) : vld i st nx ot = 2 := by unfold vld; rw [if_neg h]
theorem vld_empty {i st : Int} {nx ot : List (List Int)} (h : 1 ≤ i ∧ i ≤ 64) (h0 : nx.length = 0) : vld i st nx ot = 19 := by unfold vld; rw [if_pos h, if_pos h0]
theorem vld_many {i st : Int} {nx ot : List (List Int)} (h : 1 ≤ i ∧ i ≤ 64) (h0 : 128 < nx.length) : vld i st nx ot = 11 := by unfold vld; rw [if_pos h, if_neg (by omega), if_pos h0]
theorem vld_start {i st : Int} {nx ot : List (List Int)} (h : 1 ≤ i ∧ i ≤ 64) (h0 : ¬ nx.length = 0) (h1 : ¬ 128 < nx.length) (h2 : ¬ (0 ≤ st ∧ st < nx.length)) : vld i st nx ot = 2 := by
  unfold vld; rw [if_pos h, if_neg h0, if_neg h1, if_neg h2]
theorem vld_out {i st : Int} {nx ot : List (List Int)} (h : 1 ≤ i ∧ i ≤ 64) (h0 : ¬ nx.length = 0) (h1 : ¬ 128 < nx.length) (h2 : 0 ≤ st ∧ st < nx.length) (h3 : ¬ ot.length = nx.length) : vld i st nx ot = 1 := by
  unfold vld; rw [if_pos h, if_neg h0, if_neg h1, if_pos h2, if_neg h3]
theorem vld_rows {i st : Int} {nx ot : List (List Int)} (h : 1 ≤ i ∧ i ≤ 64) (h0 : ¬ nx.length = 0) (h1 : ¬ 128 < nx.length) (h2 : 0 ≤ st ∧ st < nx.length) (h3 : ot.length = nx.length) : vld i st nx ot = fstE (rowAt i nx ot) nx.length := by
  unfold vld; rw [if_pos h, if_neg h0, if_neg h1, if_pos h2, if_pos h3]

/-- A machine of n states and i inputs is valid. -/
structure Mok (i st n : Nat) (nx ot : List (List Int)) : Prop where
  i1 : 1 ≤ i
  i2 : i ≤ 64
  n1 : 0 < n
  n2 : n ≤ 128
  st : st < n
  nxl : nx.length = n
  otl : ot.length = n
  row : ∀ s, s < n → (nx.getD s []).length = i ∧ (ot.getD s []).length = i ∧ ∀ a, a < i → 0 ≤ (nx.getD s []).getD a 0 ∧ (nx.getD s []).getD a 0 < n ∧ 0 ≤ (ot.getD s []).getD a 0 ∧ (ot.getD s []).getD a 0 ≤ 1048576

theorem vld_zero {i st : Int} {nx ot : List (List Int)} (h : vld i st nx ot = 0) : ∃ i' st' n : Nat, i = i' ∧ st = st' ∧ Mok i' st' n nx ot := by
  unfold vld at h
  by_cases h1 : 1 ≤ i ∧ i ≤ 64
  · rw [if_pos h1] at h
    by_cases h2 : nx.length = 0
    · rw [if_pos h2] at h; omega
    · rw [if_neg h2] at h
      by_cases h3 : 128 < nx.length
      · rw [if_pos h3] at h; omega
      · rw [if_neg h3] at h
        by_cases h4 : 0 ≤ st ∧ st < nx.length
        · rw [if_pos h4] at h
          by_cases h5 : ot.length = nx.length
          · rw [if_pos h5] at h
            refine ⟨i.toNat, st.toNat, nx.length, by omega, by omega, by omega, by omega, by omega, by omega, by omega, rfl, h5, fun s hs => ?_⟩
            obtain ⟨r1, r2, r3⟩ := rowE_zero (fstE_zero h s hs)
            exact ⟨by omega, by omega, fun a ha => r3 a (by omega)⟩
          · rw [if_neg h5] at h; omega
        · rw [if_neg h4] at h; omega
  · rw [if_neg h1] at h; omega

theorem Mok.vld {i st n : Nat} {nx ot : List (List Int)} (h : Mok i st n nx ot) : vld i st nx ot = 0 := by
  have h1 := h.i1; have h2 := h.i2; have h3 := h.n1; have h4 := h.n2; have h5 := h.st; have h6 := h.nxl; have h7 := h.otl
  rw [vld_rows (by omega) (by omega) (by omega) (by omega) (by omega)]
  refine fstE_ok fun t ht => rowE_ok ⟨?_, ?_⟩ fun m hm => ?_
  · have := (h.row t (by omega)).1; omega
  · have := (h.row t (by omega)).2.1; omega
  · have := (h.row t (by omega)).1
    have := (h.row t (by omega)).2.2 m (by omega)
    rw [h6]; exact this

/-- The next state, and the output. -/
def nN (nx : List (List Int)) (s a : Nat) : Nat := ((nx.getD s []).getD a 0).toNat
def oN (ot : List (List Int)) (s a : Nat) : Int := (ot.getD s []).getD a 0
theorem Mok.nN_lt {i st n : Nat} {nx ot : List (List Int)} (h : Mok i st n nx ot) {s a : Nat} (hs : s < n) (ha : a < i) : nN nx s a < n := by
  have := (h.row s hs).2.2 a ha; unfold nN; omega
theorem Mok.nN_eq {i st n : Nat} {nx ot : List (List Int)} (h : Mok i st n nx ot) {s a : Nat} (hs : s < n) (ha : a < i) : (nx.getD s []).getD a 0 = (nN nx s a : Int) := by
  have := (h.row s hs).2.2 a ha; unfold nN; omega

/-- The output word from a state, and the state after it. -/
def runO (nx ot : List (List Int)) : Nat → List Int → List Int
  | _, [] => []
  | s, x :: w => oN ot s x.toNat :: runO nx ot (nN nx s x.toNat) w
def runS (nx : List (List Int)) : Nat → List Int → Nat
  | s, [] => s
  | s, x :: w => runS nx (nN nx s x.toNat) w
theorem runO_append (nx ot : List (List Int)) : ∀ (u v : List Int) (s : Nat), runO nx ot s (u ++ v) = runO nx ot s u ++ runO nx ot (runS nx s u) v
  | [], _, _ => rfl
  | x :: u, v, s => by
    show oN ot s x.toNat :: runO nx ot (nN nx s x.toNat) (u ++ v) = _
    rw [runO_append nx ot u v]; rfl
theorem runS_append (nx : List (List Int)) : ∀ (u v : List Int) (s : Nat), runS nx s (u ++ v) = runS nx (runS nx s u) v
  | [], _, _ => rfl
  | x :: u, v, s => runS_append nx u v (nN nx s x.toNat)
theorem runO_len (nx ot : List (List Int)) : ∀ (u : List Int) (s : Nat), (runO nx ot s u).length = u.length
  | [], _ => rfl
  | x :: u, s => by
    show (runO nx ot (nN nx s x.toNat) u).length + 1 = u.length + 1
    rw [runO_len nx ot u]
theorem take_next {xs : List Int} {j : Nat} (h : j < xs.length) : xs.take (j + 1) = xs.take j ++ [xs[j]?.getD 0] := by
  rw [List.take_succ_eq_append_getElem h, List.getElem?_eq_getElem h]; rfl
theorem runO_next {nx ot : List (List Int)} {s j : Nat} {xs : List Int} (h : j < xs.length) : runO nx ot s (xs.take (j + 1)) = runO nx ot s (xs.take j) ++ [oN ot (runS nx s (xs.take j)) (xs[j]?.getD 0).toNat] := by
  rw [take_next h, runO_append]; rfl
theorem runS_next {nx : List (List Int)} {s j : Nat} {xs : List Int} (h : j < xs.length) : runS nx s (xs.take (j + 1)) = nN nx (runS nx s (xs.take j)) (xs[j]?.getD 0).toNat := by
  rw [take_next h, runS_append]; rfl
theorem Mok.runS_lt {i st n : Nat} {nx ot : List (List Int)} (h : Mok i st n nx ot) : ∀ (u : List Int) (s : Nat), s < n → (∀ x, x ∈ u → 0 ≤ x ∧ x < i) → runS nx s u < n
  | [], _, hs, _ => hs
  | x :: u, s, hs, hu => by
    have hx := hu x (by simp)
    exact h.runS_lt u _ (h.nN_lt hs (by omega)) fun y hy => hu y (by simp [hy])
theorem Syms.mem {xs : List Int} {k : Int} (h : Syms xs k xs.length) : ∀ x, x ∈ xs → 0 ≤ x ∧ x < k := by
  intro x hx
  obtain ⟨j, hj, rfl⟩ := List.getElem_of_mem hx
  have := h j hj
  simpa [List.getD, List.getElem?_eq_getElem hj] using this

/-- One row of a search: what is new is added at the end. -/
def addN (l : List Nat) (x : Nat) : List Nat := if x ∈ l then l else l ++ [x]
def addR (nx : List (List Int)) (s : Nat) (l : List Nat) : Nat → List Nat
  | 0 => l
  | a + 1 => addN (addR nx s l a) (nN nx s a)
/-- The search. -/
def bfs (nx : List (List Int)) (i : Nat) : Nat → List Nat → Nat → List Nat
  | 0, l, _ => l
  | k + 1, l, j => if j < l.length then bfs nx i k (addR nx (l.getD j 0) l i) (j + 1) else l
def rch (nx : List (List Int)) (i st : Nat) : List Nat := bfs nx i nx.length [st] 0

theorem addN_pre (l : List Nat) (x : Nat) : ∃ t, addN l x = l ++ t := by
  unfold addN; split
  · exact ⟨[], by simp⟩
  · exact ⟨[x], rfl⟩
theorem addR_pre (nx : List (List Int)) (s : Nat) (l : List Nat) : ∀ a, ∃ t, addR nx s l a = l ++ t
  | 0 => ⟨[], by simp [addR]⟩
  | a + 1 => by
    obtain ⟨t, ht⟩ := addR_pre nx s l a
    obtain ⟨u, hu⟩ := addN_pre (addR nx s l a) (nN nx s a)
    exact ⟨t ++ u, by show addN _ _ = _; rw [hu, ht, List.append_assoc]⟩
theorem bfs_pre (nx : List (List Int)) (i : Nat) : ∀ (k : Nat) (l : List Nat) (j : Nat), ∃ t, bfs nx i k l j = l ++ t
  | 0, l, _ => ⟨[], by simp [bfs]⟩
  | k + 1, l, j => by
    unfold bfs
    split
    · obtain ⟨t, ht⟩ := addR_pre nx (l.getD j 0) l i
      obtain ⟨u, hu⟩ := bfs_pre nx i k (addR nx (l.getD j 0) l i) (j + 1)
      exact ⟨t ++ u, by rw [hu, ht, List.append_assoc]⟩
    · exact ⟨[], by simp⟩

/-- A list of different states. -/
def Stt (n : Nat) (l : List Nat) : Prop := l.Nodup ∧ ∀ x, x ∈ l → x < n
theorem Stt.len : ∀ {n : Nat} {l : List Nat}, Stt n l → l.length ≤ n
  | 0, l, h => by
    cases l with
    | nil => exact Nat.le_refl _
    | cons x t => exact absurd (h.2 x (by simp)) (by omega)
  | n + 1, l, h => by
    by_cases hm : n ∈ l
    · have h1 : Stt n (l.erase n) := ⟨h.1.erase n, fun x hx => by
        have := (h.1.mem_erase_iff).1 hx
        have := h.2 x this.2
        omega⟩
      have := h1.len
      rw [List.length_erase_of_mem hm] at this
      omega
    · have h1 : Stt n l := ⟨h.1, fun x hx => by
        have := h.2 x hx
        by_cases e : x = n
        · subst e; exact absurd hx hm
        · omega⟩
      have := h1.len
      omega
theorem addN_stt {n : Nat} {l : List Nat} (h : Stt n l) {x : Nat} (hx : x < n) : Stt n (addN l x) := by
  unfold addN
  split
  · exact h
  · rename_i hm
    refine ⟨List.nodup_append.2 ⟨h.1, by simp, ?_⟩, fun y hy => ?_⟩
    · intro a ha b hb; simp at hb; subst hb; intro e; subst e; exact hm ha
    · rw [List.mem_append] at hy
      rcases hy with hy | hy
      · exact h.2 y hy
      · simp at hy; omega
theorem addR_stt {i st n : Nat} {nx ot : List (List Int)} (hm : Mok i st n nx ot) {l : List Nat} (h : Stt n l) {s : Nat} (hs : s < n) : ∀ a, a ≤ i → Stt n (addR nx s l a)
  | 0, _ => h
  | a + 1, ha => addN_stt (addR_stt hm h hs a (by omega)) (hm.nN_lt hs (by omega))
theorem mem_addN (l : List Nat) (x : Nat) : x ∈ addN l x := by
  unfold addN; split
  · assumption
  · simp
theorem addN_mem {l : List Nat} {x y : Nat} (h : y ∈ l) : y ∈ addN l x := by obtain ⟨t, ht⟩ := addN_pre l x; rw [ht]; simp [h]
theorem getD_mem {l : List Nat} {j : Nat} (h : j < l.length) : l.getD j 0 ∈ l := by
  rw [List.getD_eq_getElem?_getD, List.getElem?_eq_getElem h]; exact List.getElem_mem _
theorem getD_pre {l t : List Nat} {j : Nat} (h : j < l.length) : (l ++ t).getD j 0 = l.getD j 0 := by
  rw [List.getD_eq_getElem?_getD, List.getD_eq_getElem?_getD, List.getElem?_append_left h]

/-- More rounds than states turn nothing. -/
theorem bfs_fuel {i st n : Nat} {nx ot : List (List Int)} (hm : Mok i st n nx ot) : ∀ (k : Nat) (l : List Nat) (j : Nat), Stt n l → n ≤ k + j → bfs nx i (k + 1) l j = bfs nx i k l j
  | 0, l, j, h, hk => by
    have := h.len
    unfold bfs
    rw [if_neg (by omega)]
  | k + 1, l, j, h, hk => by
    by_cases hj : j < l.length
    · show (if j < l.length then bfs nx i (k + 1) (addR nx (l.getD j 0) l i) (j + 1) else l) = (if j < l.length then bfs nx i k (addR nx (l.getD j 0) l i) (j + 1) else l)
      rw [if_pos hj, if_pos hj]
      exact bfs_fuel hm k _ _ (addR_stt hm h (h.2 _ (getD_mem hj)) i (Nat.le_refl _)) (by omega)
    · show (if j < l.length then bfs nx i (k + 1) (addR nx (l.getD j 0) l i) (j + 1) else l) = (if j < l.length then bfs nx i k (addR nx (l.getD j 0) l i) (j + 1) else l)
      rw [if_neg hj, if_neg hj]
theorem bfs_on {i st n : Nat} {nx ot : List (List Int)} (hm : Mok i st n nx ot) {l : List Nat} {j : Nat} (h : Stt n l) (hj : j < l.length) :
    bfs nx i n (addR nx (l.getD j 0) l i) (j + 1) = bfs nx i n l j := by
  have hn := hm.n1
  have hx := addR_stt hm h (h.2 _ (getD_mem hj)) i (Nat.le_refl _)
  obtain ⟨k, rfl⟩ : ∃ k, n = k + 1 := ⟨n - 1, by omega⟩
  rw [bfs_fuel hm k _ (j + 1) hx (by omega)]
  show _ = (if j < l.length then bfs nx i k (addR nx (l.getD j 0) l i) (j + 1) else l)
  rw [if_pos hj]
theorem bfs_end (nx : List (List Int)) (i : Nat) (k : Nat) {l : List Nat} {j : Nat} (hj : ¬ j < l.length) : bfs nx i k l j = l := by
  cases k with
  | zero => rfl
  | succ k => unfold bfs; rw [if_neg hj]
end Go.Proofs.Ytedcdpmflcegbaa
end

section
/- The search, step by step. -/
namespace Go.Proofs.Ytedcdpmflcegbaa

/-- Which states a search has seen. -/
def seenOf (n : Nat) (l : List Nat) : List Bool := (List.range n).map fun x => decide (x ∈ l)
theorem seenOf_len (n : Nat) (l : List Nat) : (seenOf n l).length = n := by simp [seenOf]
theorem seenOf_at {n : Nat} {l : List Nat} {x : Nat} (hx : x < n) : (seenOf n l).getD x false = decide (x ∈ l) := by
  unfold seenOf; simp [List.getD, hx]
theorem seenOf_set {n : Nat} {l : List Nat} {x : Nat} : (seenOf n l).set x true = seenOf n (l ++ [x]) := by
  apply List.ext_getElem
  · simp [seenOf]
  · intro m h1 h2
    have hm : m < n := by simpa [seenOf] using h2
    rw [List.getElem_set]
    by_cases e : x = m
    · subst e; simp [seenOf]
    · rw [if_neg e]; simp [seenOf, show ¬ m = x from fun h => e h.symm]
theorem seenOf_nil (n : Nat) : seenOf n [] = List.replicate n false := by
  apply List.ext_getElem
  · simp [seenOf]
  · intro m h1 h2; simp [seenOf]

/-- A list of states as numbers. -/
def zs (l : List Nat) : List Int := l.map fun x : Nat => (x : Int)
theorem zs_len (l : List Nat) : (zs l).length = l.length := by simp [zs]
theorem zs_at (l : List Nat) (j : Nat) : (zs l).getD j 0 = ((l.getD j 0 : Nat) : Int) := by
  unfold zs
  rw [List.getD_eq_getElem?_getD, List.getD_eq_getElem?_getD, List.getElem?_map]
  cases l[j]? <;> rfl
theorem zs_append (l t : List Nat) : zs (l ++ t) = zs l ++ zs t := by simp [zs]
theorem zs_one (x : Nat) : zs [x] = [(x : Int)] := rfl
theorem zs_inj {l t : List Nat} (h : zs l = zs t) : l = t := by
  induction l generalizing t with
  | nil => cases t with
    | nil => rfl
    | cons => simp [zs] at h
  | cons x l ih => cases t with
    | nil => simp [zs] at h
    | cons y t =>
      simp only [zs, List.map_cons, List.cons.injEq] at h
      rw [ih (by simpa [zs] using h.2), show x = y by omega]
theorem mem_zs {l : List Nat} {x : Nat} : ((x : Int) ∈ zs l) ↔ x ∈ l := by
  simp only [zs, List.mem_map]
  exact ⟨fun ⟨a, h, e⟩ => by rw [show x = a by omega]; exact h, fun h => ⟨x, h, rfl⟩⟩

theorem addR_in {nx : List (List Int)} {s a : Nat} {l : List Nat} (h : nN nx s a ∈ addR nx s l a) : addR nx s l (a + 1) = addR nx s l a := by
  show addN _ _ = _; unfold addN; rw [if_pos h]
theorem addR_out {nx : List (List Int)} {s a : Nat} {l : List Nat} (h : ¬ nN nx s a ∈ addR nx s l a) : addR nx s l (a + 1) = addR nx s l a ++ [nN nx s a] := by
  show addN _ _ = _; unfold addN; rw [if_neg h]
theorem Stt.one {n s : Nat} (h : s < n) : Stt n [s] := ⟨by simp, fun x hx => by simp at hx; omega⟩
theorem addR_at {nx : List (List Int)} {s : Nat} {l : List Nat} {j : Nat} (h : j < l.length) (a : Nat) : (addR nx s l a).getD j 0 = l.getD j 0 := by
  obtain ⟨t, ht⟩ := addR_pre nx s l a
  rw [ht]; exact getD_pre h
theorem addR_len {nx : List (List Int)} {s : Nat} {l : List Nat} (a : Nat) : l.length ≤ (addR nx s l a).length := by
  obtain ⟨t, ht⟩ := addR_pre nx s l a
  rw [ht, List.length_append]; omega
end Go.Proofs.Ytedcdpmflcegbaa
end

section
/- The search for a distinguishing word: pairs of states in the order of the words that reach them. -/
namespace Go.Proofs.Ytedcdpmflcegbaa

/-- A pair that was found: the pair, the place of the one before it, the input from there, and the word. -/
structure Ent where
  p : Nat
  q : Nat
  j : Nat
  x : Nat
  w : List Int
instance : Inhabited Ent := ⟨⟨0, 0, 0, 0, []⟩⟩
def Ent.zero : Ent := ⟨0, 0, 0, 0, []⟩
def Ent.pr (e : Ent) : Nat × Nat := (e.p, e.q)
/-- Is a pair among those that were found? -/
def hasE (E : List Ent) (p q : Nat) : Prop := (p, q) ∈ E.map Ent.pr
instance (E : List Ent) (p q : Nat) : Decidable (hasE E p q) := inferInstanceAs (Decidable ((p, q) ∈ E.map Ent.pr))
def addE (E : List Ent) (e : Ent) : List Ent := if hasE E e.p e.q then E else E ++ [e]
section
variable (nx1 nx2 ot1 ot2 : List (List Int))
/-- The pair behind an entry and an input. -/
def nxE (j : Nat) (e : Ent) (x : Nat) : Ent := ⟨nN nx1 e.p x, nN nx2 e.q x, j, x, e.w ++ [(x : Int)]⟩
def addS (j : Nat) (e : Ent) (E : List Ent) : Nat → List Ent
  | 0 => E
  | x + 1 => addE (addS j e E x) (nxE nx1 nx2 j e x)
/-- Do the outputs of a pair differ at an input below the given one? The first such input. -/
def fD (e : Ent) : Nat → Option Nat
  | 0 => none
  | x + 1 => match fD e x with
    | some y => some y
    | none => if oN ot1 e.p x = oN ot2 e.q x then none else some x
def srch (i : Nat) : Nat → List Ent → Nat → Option (List Int)
  | 0, _, _ => none
  | k + 1, E, j => if j < E.length then
      match fD ot1 ot2 (E.getD j Ent.zero) i with
      | some x => some ((E.getD j Ent.zero).w ++ [(x : Int)])
      | none => srch i k (addS nx1 nx2 j (E.getD j Ent.zero) E i) (j + 1)
    else none
end
/-- The first distinguishing word of two states. -/
def dst (nx1 ot1 nx2 ot2 : List (List Int)) (i n m s t : Nat) : Option (List Int) := srch nx1 nx2 ot1 ot2 i (n * m) [⟨s, t, 0, 0, []⟩] 0

/-- What the entries keep. -/
structure Ens (n m s t : Nat) (E : List Ent) : Prop where
  lt : ∀ e, e ∈ E → e.p < n ∧ e.q < m
  nd : (E.map Ent.pr).Nodup
  ne : 0 < E.length
  z : (E.getD 0 Ent.zero).p = s ∧ (E.getD 0 Ent.zero).q = t ∧ (E.getD 0 Ent.zero).w = []
  bk : ∀ k, 0 < k → k < E.length → (E.getD k Ent.zero).j < k ∧ (E.getD k Ent.zero).w = (E.getD (E.getD k Ent.zero).j Ent.zero).w ++ [((E.getD k Ent.zero).x : Int)]
  wl : ∀ k, k < E.length → (E.getD k Ent.zero).w.length ≤ k

theorem getDE_mem {E : List Ent} {k : Nat} (h : k < E.length) : E.getD k Ent.zero ∈ E := by
  rw [List.getD_eq_getElem?_getD, List.getElem?_eq_getElem h]; exact List.getElem_mem h
theorem getDE_pre {E T : List Ent} {k : Nat} (h : k < E.length) : (E ++ T).getD k Ent.zero = E.getD k Ent.zero := by
  rw [List.getD_eq_getElem?_getD, List.getD_eq_getElem?_getD, List.getElem?_append_left h]
theorem getDE_last {E : List Ent} {e : Ent} : (E ++ [e]).getD E.length Ent.zero = e := by
  rw [List.getD_eq_getElem?_getD, List.getElem?_append_right (Nat.le_refl _)]; simp
theorem nodup_pairs {m : Nat} : ∀ {L : List (Nat × Nat)}, L.Nodup → (∀ x, x ∈ L → x.2 < m) → (L.map fun x => x.1 * m + x.2).Nodup
  | [], _, _ => by simp
  | x :: L, h, hb => by
    rw [List.nodup_cons] at h
    simp only [List.map_cons, List.nodup_cons]
    refine ⟨fun hm => ?_, nodup_pairs h.2 fun y hy => hb y (List.mem_cons_of_mem _ hy)⟩
    obtain ⟨y, hy, e⟩ := List.mem_map.1 hm
    have h1 := hb x (List.mem_cons_self ..)
    have h2 := hb y (List.mem_cons_of_mem _ hy)
    have e1 : x.2 = y.2 := by
      have := congrArg (· % m) e
      simp only [Nat.mul_add_mod_self_right, Nat.mod_eq_of_lt h1, Nat.mod_eq_of_lt h2] at this
      exact this.symm
    have e2 : x.1 = y.1 := by
      have hm : 0 < m := by omega
      have h3 : y.1 * m = x.1 * m := by omega
      exact (Nat.eq_of_mul_eq_mul_right hm h3).symm
    exact h.1 (by rw [show x = y from Prod.ext e2 e1]; exact hy)
section
variable {n m s t : Nat} {E : List Ent}
theorem Ens.len (h : Ens n m s t E) : E.length ≤ n * m := by
  have h1 := nodup_pairs (m := m) h.nd fun x hx => by
    obtain ⟨e, he, rfl⟩ := List.mem_map.1 hx
    exact (h.lt e he).2
  have h2 : Stt (n * m) ((E.map Ent.pr).map fun x => x.1 * m + x.2) := ⟨h1, fun y hy => by
    obtain ⟨x, hx, rfl⟩ := List.mem_map.1 hy
    obtain ⟨e, he, rfl⟩ := List.mem_map.1 hx
    obtain ⟨h3, h4⟩ := h.lt e he
    show e.p * m + e.q < n * m
    have : (e.p + 1) * m ≤ n * m := Nat.mul_le_mul_right m h3
    rw [Nat.add_mul, Nat.one_mul] at this
    omega⟩
  have := h2.len
  simpa using this
theorem Ens.one (hs : s < n) (ht : t < m) : Ens n m s t [⟨s, t, 0, 0, []⟩] where
  lt := fun e he => by simp at he; subst he; exact ⟨hs, ht⟩
  nd := by simp
  ne := by simp
  z := ⟨rfl, rfl, rfl⟩
  bk := fun k h1 h2 => by simp at h2; omega
  wl := fun k h => by simp at h; subst h; exact Nat.zero_le _
theorem Ens.add (h : Ens n m s t E) {e : Ent} (he : e.p < n ∧ e.q < m) (hj : e.j < E.length) (hw : e.w = (E.getD e.j Ent.zero).w ++ [(e.x : Int)]) (hn : ¬ hasE E e.p e.q) : Ens n m s t (E ++ [e]) where
  lt := fun x hx => by
    rcases List.mem_append.1 hx with hx | hx
    · exact h.lt x hx
    · simp at hx; subst hx; exact he
  nd := by
    rw [List.map_append, List.nodup_append]
    refine ⟨h.nd, by simp, fun a ha b hb e2 => ?_⟩
    simp at hb
    subst hb
    subst e2
    exact hn ha
  ne := by simp
  z := by rw [getDE_pre h.ne]; exact h.z
  bk := fun k h1 h2 => by
    rw [List.length_append] at h2
    have h2 : k < E.length + 1 := h2
    by_cases hk : k < E.length
    · rw [getDE_pre hk]
      obtain ⟨a, b⟩ := h.bk k h1 hk
      exact ⟨a, by rw [getDE_pre (by omega)]; exact b⟩
    · obtain rfl : k = E.length := by omega
      rw [getDE_last]
      exact ⟨hj, by rw [getDE_pre hj]; exact hw⟩
  wl := fun k h2 => by
    rw [List.length_append] at h2
    have h2 : k < E.length + 1 := h2
    by_cases hk : k < E.length
    · rw [getDE_pre hk]; exact h.wl k hk
    · obtain rfl : k = E.length := by omega
      have h3 := h.wl e.j hj
      rw [getDE_last, hw, List.length_append]
      show _ + 1 ≤ _
      omega
end
section
variable {nx1 nx2 ot1 ot2 : List (List Int)} {i n m s t j : Nat} {E : List Ent} {e : Ent}
theorem addE_in {E : List Ent} {e : Ent} (h : hasE E e.p e.q) : addE E e = E := by unfold addE; rw [if_pos h]
theorem addE_out {E : List Ent} {e : Ent} (h : ¬ hasE E e.p e.q) : addE E e = E ++ [e] := by unfold addE; rw [if_neg h]
theorem addS_pre {nx1 nx2 : List (List Int)} (j : Nat) (e : Ent) (E : List Ent) : ∀ x, ∃ T, addS nx1 nx2 j e E x = E ++ T
  | 0 => ⟨[], by simp [addS]⟩
  | x + 1 => by
    obtain ⟨T, hT⟩ := addS_pre (nx1 := nx1) (nx2 := nx2) j e E x
    show ∃ T, addE (addS nx1 nx2 j e E x) _ = E ++ T
    unfold addE
    split
    · exact ⟨T, hT⟩
    · exact ⟨T ++ [nxE nx1 nx2 j e x], by rw [hT, List.append_assoc]⟩
/-- One step of the inner loop. -/
theorem addS_ens {st1 st2 : Nat} (hM : Mok i st1 n nx1 ot1) (hN : Mok i st2 m nx2 ot2) (h : Ens n m s t E) (hj : j < E.length) :
    ∀ x, x ≤ i → Ens n m s t (addS nx1 nx2 j (E.getD j Ent.zero) E x)
  | 0, _ => h
  | x + 1, hx => by
    have ih := addS_ens hM hN h hj x (by omega)
    obtain ⟨T, hT⟩ := addS_pre (nx1 := nx1) (nx2 := nx2) j (E.getD j Ent.zero) E x
    obtain ⟨h1, h2⟩ := h.lt _ (getDE_mem hj)
    show Ens n m s t (addE (addS nx1 nx2 j (E.getD j Ent.zero) E x) _)
    by_cases hh : hasE (addS nx1 nx2 j (E.getD j Ent.zero) E x) (nxE nx1 nx2 j (E.getD j Ent.zero) x).p (nxE nx1 nx2 j (E.getD j Ent.zero) x).q
    · rw [addE_in hh]; exact ih
    · rw [addE_out hh]
      refine ih.add ⟨hM.nN_lt h1 (by omega), hN.nN_lt h2 (by omega)⟩ ?_ ?_ hh
      · rw [hT, List.length_append]; show j < _; omega
      · show _ = ((addS nx1 nx2 j (E.getD j Ent.zero) E x).getD j Ent.zero).w ++ _
        rw [hT, getDE_pre hj]; rfl
theorem srch_fuel {st1 st2 : Nat} (hM : Mok i st1 n nx1 ot1) (hN : Mok i st2 m nx2 ot2) : ∀ (k : Nat) (E : List Ent) (j : Nat), Ens n m s t E → n * m ≤ k + j → srch nx1 nx2 ot1 ot2 i (k + 1) E j = srch nx1 nx2 ot1 ot2 i k E j
  | 0, E, j, h, hk => by
    have := h.len
    unfold srch
    rw [if_neg (by omega)]
  | k + 1, E, j, h, hk => by
    rw [srch]
    conv => rhs; rw [srch]
    by_cases hj : j < E.length
    · rw [if_pos hj, if_pos hj]
      cases fD ot1 ot2 (E.getD j Ent.zero) i with
      | some x => rfl
      | none => exact srch_fuel hM hN k _ _ (addS_ens hM hN h hj i (Nat.le_refl _)) (by omega)
    · rw [if_neg hj, if_neg hj]
/-- The search stands at place j. -/
theorem srch_on {st1 st2 : Nat} (hM : Mok i st1 n nx1 ot1) (hN : Mok i st2 m nx2 ot2) (h : Ens n m s t E) (hj : j < E.length) (hd : fD ot1 ot2 (E.getD j Ent.zero) i = none) :
    srch nx1 nx2 ot1 ot2 i (n * m) (addS nx1 nx2 j (E.getD j Ent.zero) E i) (j + 1) = srch nx1 nx2 ot1 ot2 i (n * m) E j := by
  have h1 := h.len
  obtain ⟨k, hk⟩ : ∃ k, n * m = k + 1 := ⟨n * m - 1, by omega⟩
  rw [hk]
  conv => rhs; rw [srch]
  rw [if_pos hj, hd]
  exact srch_fuel hM hN k _ _ (addS_ens hM hN h hj i (Nat.le_refl _)) (by omega)
theorem srch_hit {st1 st2 : Nat} (_hM : Mok i st1 n nx1 ot1) (_hN : Mok i st2 m nx2 ot2) (h : Ens n m s t E) (hj : j < E.length) {x : Nat} (hd : fD ot1 ot2 (E.getD j Ent.zero) i = some x) :
    srch nx1 nx2 ot1 ot2 i (n * m) E j = some ((E.getD j Ent.zero).w ++ [(x : Int)]) := by
  have h1 := h.len
  obtain ⟨k, hk⟩ : ∃ k, n * m = k + 1 := ⟨n * m - 1, by omega⟩
  rw [hk, srch, if_pos hj, hd]
theorem srch_end {k : Nat} (hj : ¬ j < E.length) : srch nx1 nx2 ot1 ot2 i k E j = none := by
  cases k with
  | zero => rfl
  | succ k => rw [srch, if_neg hj]
theorem fD_none : ∀ {x : Nat}, fD ot1 ot2 e x = none → ∀ a, a < x → oN ot1 e.p a = oN ot2 e.q a
  | 0, _, a, ha => absurd ha (by omega)
  | x + 1, h, a, ha => by
    rw [fD] at h
    cases h1 : fD ot1 ot2 e x with
    | some y => rw [h1] at h; exact absurd h (by simp)
    | none =>
      rw [h1] at h
      by_cases h2 : oN ot1 e.p x = oN ot2 e.q x
      · by_cases h3 : a = x
        · subst h3; exact h2
        · exact fD_none h1 a (by omega)
      · simp [h2] at h
theorem fD_step (h : fD ot1 ot2 e j = none) (ho : oN ot1 e.p j = oN ot2 e.q j) : fD ot1 ot2 e (j + 1) = none := by rw [fD, h]; simp [ho]
theorem fD_mono {y : Nat} : ∀ {x : Nat} (d : Nat), fD ot1 ot2 e x = some y → fD ot1 ot2 e (x + d) = some y
  | x, 0, h => h
  | x, d + 1, h => by
    have := fD_mono d h
    show fD ot1 ot2 e (x + d + 1) = _
    rw [fD, this]
theorem fD_hit (h : fD ot1 ot2 e j = none) (ho : ¬ oN ot1 e.p j = oN ot2 e.q j) (hj : j < i) : fD ot1 ot2 e i = some j := by
  have h1 : fD ot1 ot2 e (j + 1) = some j := by rw [fD, h]; simp [ho]
  have := fD_mono (i - (j + 1)) h1
  rwa [show j + 1 + (i - (j + 1)) = i by omega] at this
end
end Go.Proofs.Ytedcdpmflcegbaa
end

section
/- The search of states, as one of pairs with a machine of one state. -/
namespace Go.Proofs.Ytedcdpmflcegbaa

/-- The machine of one state. -/
def oneN (i : Nat) : List (List Int) := [List.replicate i 0]
theorem one_ok {i st n : Nat} {nx ot : List (List Int)} (hM : Mok i st n nx ot) : Mok i 0 1 (oneN i) (oneN i) where
  i1 := hM.i1
  i2 := hM.i2
  n1 := by decide
  n2 := by decide
  st := by decide
  nxl := rfl
  otl := rfl
  row := fun s hs => by
    obtain rfl : s = 0 := by omega
    refine ⟨by simp [oneN], by simp [oneN], fun a ha => ?_⟩
    have e : ((oneN i).getD 0 []).getD a 0 = 0 := by simp [oneN, List.getD, ha]
    rw [e]
    omega
/-- All that is found from the entries E, from place j on. -/
def xpl (nx : List (List Int)) (i : Nat) : Nat → List Ent → Nat → List Ent
  | 0, E, _ => E
  | k + 1, E, j => if j < E.length then xpl nx i k (addS nx (oneN i) j (E.getD j Ent.zero) E i) (j + 1) else E
/-- What explore finds. -/
def exs (nx : List (List Int)) (i n s : Nat) : List Ent := xpl nx i n [⟨s, 0, 0, 0, []⟩] 0
section
variable {nx ot : List (List Int)} {i st n s j : Nat} {E : List Ent}
theorem xpl_fuel (hM : Mok i st n nx ot) : ∀ (k : Nat) (E : List Ent) (j : Nat), Ens n 1 s 0 E → n ≤ k + j → xpl nx i (k + 1) E j = xpl nx i k E j
  | 0, E, j, h, hk => by
    have := h.len
    unfold xpl
    rw [if_neg (by omega)]
  | k + 1, E, j, h, hk => by
    rw [xpl]
    conv => rhs; rw [xpl]
    by_cases hj : j < E.length
    · rw [if_pos hj, if_pos hj]
      exact xpl_fuel hM k _ _ (addS_ens hM (one_ok hM) h hj i (Nat.le_refl _)) (by omega)
    · rw [if_neg hj, if_neg hj]
theorem xpl_on (hM : Mok i st n nx ot) (h : Ens n 1 s 0 E) (hj : j < E.length) : xpl nx i n (addS nx (oneN i) j (E.getD j Ent.zero) E i) (j + 1) = xpl nx i n E j := by
  have h1 := h.len
  obtain ⟨k, hk⟩ : ∃ k, n = k + 1 := ⟨n - 1, by omega⟩
  have h2 : xpl nx i (k + 1) E j = xpl nx i k (addS nx (oneN i) j (E.getD j Ent.zero) E i) (j + 1) := by rw [xpl, if_pos hj]
  rw [hk, h2]
  exact xpl_fuel hM k _ _ (addS_ens hM (one_ok hM) h hj i (Nat.le_refl _)) (by omega)
theorem xpl_end {k : Nat} (hj : ¬ j < E.length) : xpl nx i k E j = E := by
  cases k with
  | zero => rfl
  | succ k => rw [xpl, if_neg hj]
theorem xpl_ens (hM : Mok i st n nx ot) : ∀ (k : Nat) (E : List Ent) (j : Nat), Ens n 1 s 0 E → Ens n 1 s 0 (xpl nx i k E j)
  | 0, _, _, h => h
  | k + 1, E, j, h => by
    rw [xpl]
    by_cases hj : j < E.length
    · rw [if_pos hj]; exact xpl_ens hM k _ _ (addS_ens hM (one_ok hM) h hj i (Nat.le_refl _))
    · rw [if_neg hj]; exact h
theorem exs_ens (hM : Mok i st n nx ot) (hs : s < n) : Ens n 1 s 0 (exs nx i n s) := xpl_ens hM _ _ _ (Ens.one hs (by decide))
theorem nxE_q {e : Ent} {x : Nat} (hx : x < i) : (nxE nx (oneN i) j e x).q = 0 := by
  show nN (oneN i) e.q x = 0
  unfold nN oneN
  cases e.q with
  | zero => simp [List.getD, hx]
  | succ q => simp [List.getD]
end
end Go.Proofs.Ytedcdpmflcegbaa
end

section
/- The search that ends with the first transition that is wanted. -/
namespace Go.Proofs.Ytedcdpmflcegbaa

/-- The first wanted input of an entry, below the given one. -/
def fH (h : Nat → Nat → Bool) (e : Ent) : Nat → Option Nat
  | 0 => none
  | x + 1 => match fH h e x with
    | some y => some y
    | none => if h e.p x then some x else none
def sk (nx : List (List Int)) (h : Nat → Nat → Bool) (i : Nat) : Nat → List Ent → Nat → List Ent × Bool
  | 0, E, _ => (E, false)
  | k + 1, E, j => if j < E.length then
      match fH h (E.getD j Ent.zero) i with
      | some x => (addS nx (oneN i) j (E.getD j Ent.zero) E x ++ [nxE nx (oneN i) j (E.getD j Ent.zero) x], true)
      | none => sk nx h i k (addS nx (oneN i) j (E.getD j Ent.zero) E i) (j + 1)
    else (E, false)
/-- What seek finds. -/
def seekE (nx : List (List Int)) (h : Nat → Nat → Bool) (i n s : Nat) : List Ent × Bool := sk nx h i n [⟨s, 0, 0, 0, []⟩] 0
/-- The first wanted transition of a list of entries: its word. -/
def frs (h : Nat → Nat → Bool) (i : Nat) : List Ent → Option (Ent × Nat)
  | [] => none
  | e :: l => match fH h e i with
    | some x => some (e, x)
    | none => frs h i l
/-- What the words of a list of arrivals need. -/
structure Chn (E : List Ent) : Prop where
  ne : 0 < E.length
  z : (E.getD 0 Ent.zero).w = []
  bk : ∀ k, 0 < k → k < E.length → (E.getD k Ent.zero).j < k ∧ (E.getD k Ent.zero).w = (E.getD (E.getD k Ent.zero).j Ent.zero).w ++ [((E.getD k Ent.zero).x : Int)]
  wl : ∀ k, k < E.length → (E.getD k Ent.zero).w.length ≤ k
theorem getDE_get {E : List Ent} {k : Nat} (h : k < E.length) : E[k] = E.getD k Ent.zero := by
  rw [List.getD_eq_getElem?_getD, List.getElem?_eq_getElem h]; rfl
theorem Ens.chn {n m s t : Nat} {E : List Ent} (h : Ens n m s t E) : Chn E := ⟨h.ne, h.z.2.2, h.bk, h.wl⟩
theorem Chn.add {E : List Ent} (h : Chn E) {e : Ent} (hj : e.j < E.length) (hw : e.w = (E.getD e.j Ent.zero).w ++ [(e.x : Int)]) : Chn (E ++ [e]) where
  ne := by simp
  z := by rw [getDE_pre h.ne]; exact h.z
  bk := fun k h1 h2 => by
    rw [List.length_append] at h2
    have h2 : k < E.length + 1 := h2
    by_cases hk : k < E.length
    · rw [getDE_pre hk]
      obtain ⟨a, b⟩ := h.bk k h1 hk
      exact ⟨a, by rw [getDE_pre (by omega)]; exact b⟩
    · obtain rfl : k = E.length := by omega
      rw [getDE_last]
      exact ⟨hj, by rw [getDE_pre hj]; exact hw⟩
  wl := fun k h2 => by
    rw [List.length_append] at h2
    have h2 : k < E.length + 1 := h2
    by_cases hk : k < E.length
    · rw [getDE_pre hk]; exact h.wl k hk
    · obtain rfl : k = E.length := by omega
      have h3 := h.wl e.j hj
      rw [getDE_last, hw, List.length_append]
      show _ + 1 ≤ _
      omega
section
variable {nx ot : List (List Int)} {h : Nat → Nat → Bool} {i st n s j x : Nat} {E : List Ent} {e : Ent}
theorem fH_none : ∀ {x : Nat}, fH h e x = none → ∀ a, a < x → h e.p a = false
  | 0, _, a, ha => absurd ha (by omega)
  | x + 1, hn, a, ha => by
    rw [fH] at hn
    cases h1 : fH h e x with
    | some y => rw [h1] at hn; exact absurd hn (by simp)
    | none =>
      rw [h1] at hn
      cases h2 : h e.p x with
      | true => simp [h2] at hn
      | false =>
        by_cases h3 : a = x
        · subst h3; exact h2
        · exact fH_none h1 a (by omega)
theorem fH_some : ∀ {x y : Nat}, fH h e x = some y → y < x ∧ h e.p y = true ∧ ∀ a, a < y → h e.p a = false
  | 0, _, hs => absurd hs (by simp [fH])
  | x + 1, y, hs => by
    rw [fH] at hs
    cases h1 : fH h e x with
    | some z =>
      rw [h1] at hs
      obtain rfl : z = y := by simpa using hs
      obtain ⟨a, b⟩ := fH_some h1
      exact ⟨by omega, b⟩
    | none =>
      rw [h1] at hs
      cases h2 : h e.p x with
      | false => simp [h2] at hs
      | true =>
        obtain rfl : x = y := by simpa [h2] using hs
        exact ⟨by omega, h2, fH_none h1⟩
theorem fH_off : ∀ {x : Nat}, (∀ a, a < x → h e.p a = false) → fH h e x = none
  | 0, _ => rfl
  | x + 1, ha => by
    rw [fH, fH_off fun a h1 => ha a (by omega)]
    simp [ha x (by omega)]
theorem fH_step (hn : fH h e x = none) (ho : h e.p x = false) : fH h e (x + 1) = none := by rw [fH, hn]; simp [ho]
theorem fH_mono {y : Nat} : ∀ {x : Nat} (d : Nat), fH h e x = some y → fH h e (x + d) = some y
  | x, 0, hs => hs
  | x, d + 1, hs => by
    have := fH_mono d hs
    show fH h e (x + d + 1) = _
    rw [fH, this]
theorem fH_hit (hn : fH h e x = none) (ho : h e.p x = true) (hx : x < i) : fH h e i = some x := by
  have h1 : fH h e (x + 1) = some x := by rw [fH, hn]; simp [ho]
  have := fH_mono (i - (x + 1)) h1
  rwa [show x + 1 + (i - (x + 1)) = i by omega] at this
theorem sk_fuel (hM : Mok i st n nx ot) : ∀ (k : Nat) (E : List Ent) (j : Nat), Ens n 1 s 0 E → n ≤ k + j → sk nx h i (k + 1) E j = sk nx h i k E j
  | 0, E, j, hE, hk => by
    have := hE.len
    unfold sk
    rw [if_neg (by omega)]
  | k + 1, E, j, hE, hk => by
    rw [sk]
    conv => rhs; rw [sk]
    by_cases hj : j < E.length
    · rw [if_pos hj, if_pos hj]
      cases fH h (E.getD j Ent.zero) i with
      | some x => rfl
      | none => exact sk_fuel hM k _ _ (addS_ens hM (one_ok hM) hE hj i (Nat.le_refl _)) (by omega)
    · rw [if_neg hj, if_neg hj]
theorem sk_on (hM : Mok i st n nx ot) (hE : Ens n 1 s 0 E) (hj : j < E.length) (hd : fH h (E.getD j Ent.zero) i = none) :
    sk nx h i n (addS nx (oneN i) j (E.getD j Ent.zero) E i) (j + 1) = sk nx h i n E j := by
  have h1 := hE.len
  obtain ⟨k, hk⟩ : ∃ k, n = k + 1 := ⟨n - 1, by omega⟩
  have h2 : sk nx h i (k + 1) E j = sk nx h i k (addS nx (oneN i) j (E.getD j Ent.zero) E i) (j + 1) := by rw [sk, if_pos hj, hd]
  rw [hk, h2]
  exact sk_fuel hM k _ _ (addS_ens hM (one_ok hM) hE hj i (Nat.le_refl _)) (by omega)
theorem sk_hit (hE : Ens n 1 s 0 E) (hj : j < E.length) (hd : fH h (E.getD j Ent.zero) i = some x) :
    sk nx h i n E j = (addS nx (oneN i) j (E.getD j Ent.zero) E x ++ [nxE nx (oneN i) j (E.getD j Ent.zero) x], true) := by
  have h1 := hE.len
  obtain ⟨k, hk⟩ : ∃ k, n = k + 1 := ⟨n - 1, by omega⟩
  rw [hk, sk, if_pos hj, hd]
theorem sk_end {k : Nat} (hj : ¬ j < E.length) : sk nx h i k E j = (E, false) := by
  cases k with
  | zero => rfl
  | succ k => rw [sk, if_neg hj]
theorem xpl_pre (nx : List (List Int)) (i : Nat) : ∀ (k : Nat) (E : List Ent) (j : Nat), ∃ T, xpl nx i k E j = E ++ T
  | 0, E, _ => ⟨[], by simp [xpl]⟩
  | k + 1, E, j => by
    rw [xpl]
    by_cases hj : j < E.length
    · rw [if_pos hj]
      obtain ⟨T, hT⟩ := addS_pre (nx1 := nx) (nx2 := oneN i) j (E.getD j Ent.zero) E i
      obtain ⟨U, hU⟩ := xpl_pre nx i k (addS nx (oneN i) j (E.getD j Ent.zero) E i) (j + 1)
      exact ⟨T ++ U, by rw [hU, hT, List.append_assoc]⟩
    · rw [if_neg hj]; exact ⟨[], by simp⟩
/-- The search by its list: the first wanted transition of all that explore finds. -/
theorem sk_frs : ∀ (k : Nat) (E : List Ent) (j : Nat), (E.length ≤ j ∨ (xpl nx i k E j).length ≤ k + j) → match frs h i ((xpl nx i k E j).drop j) with
    | none => sk nx h i k E j = (xpl nx i k E j, false)
    | some (e, x) => ∃ F a, sk nx h i k E j = (F ++ [nxE nx (oneN i) a e x], true)
  | 0, E, j, hk => by
    have : (xpl nx i 0 E j) = E := rfl
    rw [this] at hk ⊢
    rw [List.drop_eq_nil_of_le (by omega)]
    rfl
  | k + 1, E, j, hk => by
    rw [xpl] at hk ⊢
    by_cases hj : j < E.length
    · rw [if_pos hj] at hk ⊢
      rw [sk, if_pos hj]
      obtain ⟨T, hT⟩ := addS_pre (nx1 := nx) (nx2 := oneN i) j (E.getD j Ent.zero) E i
      obtain ⟨U, hU⟩ := xpl_pre nx i k (addS nx (oneN i) j (E.getD j Ent.zero) E i) (j + 1)
      have e1 : (xpl nx i k (addS nx (oneN i) j (E.getD j Ent.zero) E i) (j + 1)).drop j = E.getD j Ent.zero :: (xpl nx i k (addS nx (oneN i) j (E.getD j Ent.zero) E i) (j + 1)).drop (j + 1) := by
        rw [List.drop_eq_getElem_cons (by rw [hU, hT, List.length_append, List.length_append]; omega)]
        congr 1
        have h2 : j < (xpl nx i k (addS nx (oneN i) j (E.getD j Ent.zero) E i) (j + 1)).length := by rw [hU, hT, List.length_append, List.length_append]; omega
        have h3 : (xpl nx i k (addS nx (oneN i) j (E.getD j Ent.zero) E i) (j + 1)).getD j Ent.zero = E.getD j Ent.zero := by rw [hU, hT, List.append_assoc, getDE_pre hj]
        exact (getDE_get h2).trans h3
      rw [e1, frs]
      cases hf : fH h (E.getD j Ent.zero) i with
      | some x => exact ⟨_, j, rfl⟩
      | none =>
        exact sk_frs k _ _ (hk.elim (fun hk => absurd hj (by omega)) (fun hk => .inr (by omega)))
    · rw [if_neg hj] at hk ⊢
      rw [List.drop_eq_nil_of_le (by omega), frs]
      show sk nx h i (k + 1) E j = (E, false)
      rw [sk, if_neg hj]
theorem seekE_frs (hM : Mok i st n nx ot) (hs : s < n) : match frs h i (exs nx i n s) with
    | none => seekE nx h i n s = (exs nx i n s, false)
    | some (e, x) => ∃ F a, seekE nx h i n s = (F ++ [nxE nx (oneN i) a e x], true) := by
  have h1 := (exs_ens (i := i) hM hs).len
  have := sk_frs (nx := nx) (h := h) (i := i) n [⟨s, 0, 0, 0, []⟩] 0 (.inr (by show (exs nx i n s).length ≤ _; omega))
  rw [List.drop_zero] at this
  exact this
theorem frs_off (hh : ∀ p a, h p a = false) : ∀ l, frs h i l = none
  | [] => rfl
  | e :: l => by rw [frs, fH_off fun a _ => hh e.p a]; exact frs_off hh l
theorem frs_some {a : Nat} : ∀ {l : List Ent}, frs h i l = some (e, a) → ∃ k, k < l.length ∧ l.getD k Ent.zero = e ∧ fH h e i = some a ∧ ∀ c, c < k → fH h (l.getD c Ent.zero) i = none
  | [], hs => absurd hs (by simp [frs])
  | y :: l, hs => by
    rw [frs] at hs
    cases h1 : fH h y i with
    | some z =>
      rw [h1] at hs
      obtain ⟨rfl, rfl⟩ : y = e ∧ z = a := by simpa using hs
      exact ⟨0, by simp, rfl, h1, fun c hc => absurd hc (by omega)⟩
    | none =>
      rw [h1] at hs
      obtain ⟨k, a1, a2, a3, a4⟩ := frs_some (l := l) hs
      refine ⟨k + 1, by simpa using a1, a2, a3, fun c hc => ?_⟩
      cases c with
      | zero => exact h1
      | succ c => exact a4 c (by omega)
theorem frs_none : ∀ {l : List Ent}, frs h i l = none → ∀ k, k < l.length → fH h (l.getD k Ent.zero) i = none
  | [], _, k, hk => absurd hk (by simp)
  | y :: l, hs, k, hk => by
    rw [frs] at hs
    cases h1 : fH h y i with
    | some z => rw [h1] at hs; exact absurd hs (by simp)
    | none =>
      rw [h1] at hs
      cases k with
      | zero => exact h1
      | succ k => exact frs_none (l := l) hs k (by simpa using hk)
/-- Explore is the search without a wish. -/
theorem seekE_off (hM : Mok i st n nx ot) (hs : s < n) : seekE nx (fun _ _ => false) i n s = (exs nx i n s, false) := by
  have := seekE_frs (h := fun _ _ => false) hM hs
  rw [frs_off (fun _ _ => rfl)] at this
  exact this
end
end Go.Proofs.Ytedcdpmflcegbaa
end

section
/- Lists that agree; readers that draw more. -/
namespace Go.Proofs.Ytedcdpmflcegbaa
open Go.RowKit

/-- Two lists agree on the first j. -/
def AgreeL {α : Type} (d : α) (xs ys : List α) (j : Nat) : Prop := ∀ m, m < j → xs.getD m d = ys.getD m d
theorem AgreeL.zero {α : Type} (d : α) (xs ys : List α) : AgreeL d xs ys 0 := fun m h => absurd h (by omega)
theorem AgreeL.succ {α : Type} {d : α} {xs ys : List α} {j : Nat} (h : AgreeL d xs ys j) (e : xs.getD j d = ys.getD j d) : AgreeL d xs ys (j + 1) := fun m hm => by
  by_cases e2 : m = j
  · subst e2; exact e
  · exact h m (by omega)
theorem AgreeL.all {α : Type} {d : α} {xs ys : List α} {n : Nat} (h : AgreeL d xs ys n) (h1 : xs.length = n) (h2 : ys.length = n) : xs = ys := by
  apply List.ext_getElem (by omega)
  intro m a b
  have := h m (by omega)
  rw [List.getD_eq_getElem?_getD, List.getD_eq_getElem?_getD, List.getElem?_eq_getElem a, List.getElem?_eq_getElem b] at this
  exact this

theorem drew_more {w wr : World} (h : ∃ q, wr = w.drewN q) (n : Nat) : ∃ q, wr.drewN n = w.drewN q := by
  obtain ⟨q, rfl⟩ := h
  exact ⟨_, World.drewN_drewN _ _ _⟩
theorem ret_bool {a b : Bool} (h : a = b) : Ending.returned (.bool a) = .returned (.bool b) := by rw [h]
end Go.Proofs.Ytedcdpmflcegbaa
end

section

/- Plain functions on lists of numbers: the longest common beginning, both orders. No program. -/
namespace Go.Proofs.Ytedcdpmflcegbaa

/-- The length of the longest list that begins both. -/
def cmn : List Int → List Int → Nat
  | a :: as1, b :: bs => if a = b then cmn as1 bs + 1 else 0
  | _, _ => 0

theorem cmn_le_left (xs ys : List Int) : cmn xs ys ≤ xs.length := by
  induction xs generalizing ys with
  | nil => simp [cmn]
  | cons a as1 ih =>
    cases ys with
    | nil => simp [cmn]
    | cons b bs =>
      rw [cmn]
      split
      · have := ih bs; simp; omega
      · omega

theorem cmn_comm (xs ys : List Int) : cmn xs ys = cmn ys xs := by
  induction xs generalizing ys with
  | nil => cases ys <;> simp [cmn]
  | cons a as1 ih =>
    cases ys with
    | nil => simp [cmn]
    | cons b bs =>
      rw [cmn, cmn, ih bs]
      by_cases h : a = b
      · rw [if_pos h, if_pos h.symm]
      · rw [if_neg h, if_neg fun e => h e.symm]

theorem cmn_le_right (xs ys : List Int) : cmn xs ys ≤ ys.length := by rw [cmn_comm]; exact cmn_le_left ys xs

/-- The first j numbers of both are the same. -/
def Agree (xs ys : List Int) (j : Nat) : Prop := ∀ m, m < j → xs.getD m 0 = ys.getD m 0

theorem Agree.zero (xs ys : List Int) : Agree xs ys 0 := fun m hm => absurd hm (by omega)
theorem Agree.succ {xs ys : List Int} {j : Nat} (h : Agree xs ys j) (e : xs.getD j 0 = ys.getD j 0) : Agree xs ys (j + 1) := fun m hm => by
  by_cases h' : m = j
  · subst h'; exact e
  · exact h m (by omega)

theorem cmn_agree (xs ys : List Int) : Agree xs ys (cmn xs ys) := by
  induction xs generalizing ys with
  | nil => simp [cmn, Agree.zero]
  | cons a as1 ih =>
    cases ys with
    | nil => simp [cmn, Agree.zero]
    | cons b bs =>
      rw [cmn]
      split
      · rename_i h
        intro m hm
        cases m with
        | zero => simpa using h
        | succ m => simpa using ih bs m (by omega)
      · exact Agree.zero _ _

theorem cmn_part (xs ys : List Int) (h1 : cmn xs ys < xs.length) (h2 : cmn xs ys < ys.length) : xs.getD (cmn xs ys) 0 ≠ ys.getD (cmn xs ys) 0 := by
  induction xs generalizing ys with
  | nil => simp at h1
  | cons a as1 ih =>
    cases ys with
    | nil => simp at h2
    | cons b bs =>
      rw [cmn] at h1 h2 ⊢
      split
      · rename_i h
        rw [if_pos h] at h1 h2
        simpa using ih bs (by simpa using h1) (by simpa using h2)
      · rename_i h; simpa using h

theorem cmn_eq {xs ys : List Int} {j : Nat} (h1 : j ≤ xs.length) (h2 : j ≤ ys.length) (ha : Agree xs ys j) (he : j = xs.length ∨ j = ys.length ∨ xs.getD j 0 ≠ ys.getD j 0) : cmn xs ys = j := by
  have l1 := cmn_le_left xs ys
  have l2 := cmn_le_right xs ys
  rcases Nat.lt_trichotomy (cmn xs ys) j with h | h | h
  · exact absurd (ha _ h) (cmn_part xs ys (by omega) (by omega))
  · exact h
  · rcases he with e | e | e
    · omega
    · omega
    · exact absurd (cmn_agree xs ys j h) e

/-- Dictionary order. -/
def lexi (xs ys : List Int) : Int :=
  if cmn xs ys = xs.length ∧ cmn xs ys = ys.length then 0
  else if cmn xs ys = xs.length ∨ (cmn xs ys < ys.length ∧ xs.getD (cmn xs ys) 0 < ys.getD (cmn xs ys) 0) then -1 else 1

/-- The order of two numbers. -/
def cmpI (a b : Int) : Int := if a < b then -1 else if b < a then 1 else 0

/-- Shortlex order. -/
def shlex (xs ys : List Int) : Int :=
  if xs.length < ys.length then -1 else if ys.length < xs.length then 1 else lexi xs ys

theorem lexi_of {xs ys : List Int} {j : Nat} (h1 : j < xs.length) (h2 : j < ys.length) (ha : Agree xs ys j) (he : xs.getD j 0 ≠ ys.getD j 0) : lexi xs ys = cmpI (xs.getD j 0) (ys.getD j 0) := by
  have e := cmn_eq (by omega) (by omega) ha (.inr (.inr he))
  unfold lexi cmpI
  rw [e, if_neg (by omega)]
  by_cases h : xs.getD j 0 < ys.getD j 0
  · rw [if_pos (.inr ⟨h2, h⟩), if_pos h]
  · rw [if_neg (by omega), if_neg h, if_pos (by omega)]

theorem lexi_long {xs ys : List Int} (h : ys.length < xs.length) (ha : Agree xs ys ys.length) : lexi xs ys = 1 := by
  have e := cmn_eq (j := ys.length) (by omega) (by omega) ha (.inr (.inl rfl))
  unfold lexi
  rw [e, if_neg (by omega), if_neg (by omega)]

theorem lexi_short {xs ys : List Int} (h : xs.length < ys.length) (ha : Agree xs ys xs.length) : lexi xs ys = -1 := by
  have e := cmn_eq (j := xs.length) (by omega) (by omega) ha (.inl rfl)
  unfold lexi
  rw [e, if_neg (by omega), if_pos (.inl rfl)]

theorem lexi_same {xs ys : List Int} (h : xs.length = ys.length) (ha : Agree xs ys xs.length) : lexi xs ys = 0 := by
  have e := cmn_eq (j := xs.length) (by omega) (by omega) ha (.inl rfl)
  unfold lexi
  rw [e, if_pos ⟨rfl, h⟩]

theorem cmn_full {xs ys : List Int} (h : xs.length = ys.length) : cmn xs ys = xs.length ↔ xs = ys := by
  constructor
  · intro e
    have ha := cmn_agree xs ys
    rw [e] at ha
    apply List.ext_getElem h
    intro m h1 h2
    have := ha m h1
    simpa [List.getD, h1, h2] using this
  · rintro rfl
    exact cmn_eq (Nat.le_refl _) (Nat.le_refl _) (fun _ _ => rfl) (.inl rfl)
end Go.Proofs.Ytedcdpmflcegbaa
end

section
/- The reference: Common and Same. -/
namespace Go.Proofs.Ytedcdpmflcegbaa
open Go.RowKit

end Go.Proofs.Ytedcdpmflcegbaa
end

section
/- Literals, and what readers and makers leave. -/
namespace Go.Proofs.Ytedcdpmflcegbaa
open Go.RowKit

/-- Calls of readers give Below. -/
theorem rd_below {w w' : World} (h : ∃ q, w' = w.drewN q) : Below w.heap.size w w' := by obtain ⟨q, rfl⟩ := h; exact below_drewN (Below.refl _ _) q

theorem alloc_below (w : World) (o : Obj) : Below w.heap.size w (w.alloc o) := (Below.refl _ _).alloc (Nat.le_refl _) _

/-- The list xs as a literal's cells. -/
def lit (xs : List Int) : Array Value := (xs.map (Value.int .i64)).toArray

theorem bt {a b c : World} (h : Below a.heap.size a b) (k : Below b.heap.size b c) : Below a.heap.size a c := h.trans (k.mono h.size)

theorem Ints.none_ (w : World) : Ints w none 0 [] := ⟨rfl, by omega, fun h => absurd h (by omega)⟩

end Go.Proofs.Ytedcdpmflcegbaa
end

section
/- A machine in memory: isState, and the error of a row, by the two texts. -/
namespace Go.Proofs.Ytedcdpmflcegbaa
open Go.RowKit

theorem box_cells {w wr : World} {cs : Array Value} {t : TypeId} (hb : Below (w.heap.size + 1) (w.alloc (.cells cs t)) wr) (k : Nat) : wr.cell? ⟨w.heap.size, k, none⟩ = cs[k]? := by
  rw [hb.cell (by simp)]
  exact cell_of_row (w.alloc (.cells cs t)) w.heap.size k cs t (0, 0) (heap_alloc_new w _)
theorem box4 {w wr : World} {a b c d : Value} {t : TypeId} (hb : Below (w.heap.size + 1) (w.alloc (.cells #[a, b, c, d] t)) wr) :
    wr.cell? ⟨w.heap.size, 0, none⟩ = some a ∧ wr.cell? ⟨w.heap.size, 1, none⟩ = some b ∧ wr.cell? ⟨w.heap.size, 2, none⟩ = some c ∧ wr.cell? ⟨w.heap.size, 3, none⟩ = some d :=
  ⟨box_cells hb 0, box_cells hb 1, box_cells hb 2, box_cells hb 3⟩

theorem pisst (i st : Int) (A B : Option Addr) (n c m d : Nat) (s : Int) (b : Bool) (w : World) (_ : n ≤ 17592186044416) (hb : b = decide (0 ≤ s ∧ s < n)) :
    Calls Try.prog 53 #[.agg #[.int .i64 i, .int .i64 st, .slice A n c, .slice B m d], .int .i64 s] w fun e w' => e = .returned (.bool b) ∧ Below w.heap.size w w' := by
  by_cases h1 : 0 ≤ s
  · by_cases h2 : s < n
    · have hf := Lib.hid (hb.trans (decide_eq_true ⟨h1, h2⟩))
      have d2 : decide (s < (n : Int)) = true := decide_eq_true h2
      clear hb
      go_enter Try.func53, Try.ntmps53
      go_wp2
      go_ret
      exact ⟨ret_bool hf.out.symm, alloc_below _ _⟩
    · have hf := Lib.hid (hb.trans (decide_eq_false (fun H => h2 H.2)))
      have d2 : decide (s < (n : Int)) = false := decide_eq_false h2
      clear hb
      go_enter Try.func53, Try.ntmps53
      go_wp2
      go_ret
      exact ⟨ret_bool hf.out.symm, alloc_below _ _⟩
  · have hf := Lib.hid (hb.trans (decide_eq_false (fun H => h1 H.1)))
    have d2 : decide ((0 : Int) ≤ s) = false := decide_eq_false h1
    clear hb
    go_enter Try.func53, Try.ntmps53
    go_wp2
    go_ret
    exact ⟨ret_bool hf.out.symm, alloc_below _ _⟩

set_option maxHeartbeats 2000000 in
set_option maxRecDepth 100000 in
theorem pvstate (i st : Int) (A B : Option Addr) (n c m d : Nat) (nx ot : List (List Int)) (s : Nat) (w : World) (hx : Lists w A n nx) (ho : Lists w B m ot) (hs1 : s < n) (hs2 : s < m) :
    Calls Try.prog 54 #[.agg #[.int .i64 i, .int .i64 st, .slice A n c, .slice B m d], .int .i64 s] w fun e w' => e = .returned (.int .i64 (rowE i n (nx.getD s []) (ot.getD s []))) ∧ Below w.heap.size w w' := by
  have hn := hx.2.1
  have hm := ho.2.1
  obtain ⟨g1, o1, A1, n1, c1, rfl, hg1, hc1, hr1⟩ := hx.at_ hs1
  obtain ⟨g2, o2, A2, n2, c2, rfl, hg2, hc2, hr2⟩ := ho.at_ hs2
  have hb0 := alloc_below w (.cells #[.int .i64 i, .int .i64 st, .slice (some ⟨g1, o1, none⟩) n c, .slice (some ⟨g2, o2, none⟩) m d] 24)
  have hn1 := hr1.2.1
  have hn2 := hr2.2.1
  have L1 := Lib.hid hr1.1
  have L2 := Lib.hid hr2.1
  generalize nx.getD s [] = r at hr1 L1
  generalize ot.getD s [] = o at hr2 L2
  by_cases e1 : (n1 : Int) = i
  · by_cases e2 : (n2 : Int) = i
    · obtain rfl : n1 = n2 := by omega
      subst e1
      clear e2
      have D1 : ((n1 : Int) != (n1 : Int)) = false := by simp
      go_enter Try.func54, Try.ntmps54
      go_wp2
      go_quiet (fail)
      go_wp2
      clear D1
      go_loopw [34] (fun i wr => ∃ j : Nat, j ≤ n1 ∧ i = .int .i64 j ∧ RowOk n r o j ∧ Below (w.heap.size + 1) (w.alloc (.cells #[.int .i64 n1, .int .i64 st, .slice (some ⟨g1, o1, none⟩) n c, .slice (some ⟨g2, o2, none⟩) m d] 24)) wr) (fun i _ => n1 - (intOf i).toNat)
      case atStart => exact ⟨0, Nat.zero_le _, rfl, RowOk.zero _ _ _, below_drewN (Below.refl _ _) _⟩
      case round =>
        obtain ⟨j, hj, rfl, hok, hbr⟩ := hrel
        have hbw := hb0.trans (hbr.mono (Nat.le_succ _))
        have hsz1 : w.heap.size + 1 ≤ wr.heap.size := by have := hbr.size; simpa using this
        have HK := Lib.hid hok
        clear hok
        by_cases hlt : j < n1
        · obtain ⟨b1, p1, rfl, _, hy1⟩ := (hr1.below hbw).at_ hlt
          obtain ⟨b2, p2, rfl, _, hy2⟩ := (hr2.below hbw).at_ hlt
          have hd1 := (hbw.cell (p := ⟨g1, o1 + s, none⟩) hg1).trans hc1
          have hd2 := (hbw.cell (p := ⟨g2, o2 + s, none⟩) hg2).trans hc2
          obtain ⟨k0, k1, k2, k3⟩ := box4 hbr
          have hsuc := fun h1 h2 h3 h4 => HK.out.succ (k := j) h1 h2 h3 h4
          have hbad := fun h => rowE_bad (i := n1) (n := n) (r := r) (o := o) (k := j) ⟨by rw [L1.out], by rw [L2.out]⟩ (by rw [L1.out]; exact hlt) h
          have HS := Lib.hid hsuc
          have HB := Lib.hid hbad
          clear hsuc hbad
          generalize r.getD j 0 = x at hy1 HS HB
          generalize o.getD j 0 = y at hy2 HS HB
          by_cases hx0 : 0 ≤ x ∧ x < n
          · have hdx : (true : Bool) = decide (0 ≤ x ∧ x < n) := (decide_eq_true hx0).symm
            by_cases hy0 : 0 ≤ y
            · by_cases hy3 : y ≤ 1048576
              · have hnx := Lib.hid (HS.out hx0.1 hx0.2 hy0 hy3)
                have hy4 : ¬ y < 0 := by omega
                have hy5 : ¬ 1048576 < y := by omega
                have HD := Lib.hid hdx
                clear hx0 hdx
                go_wp2_with fail
                refine (pisst _ _ _ _ _ _ _ _ _ _ _ hn HD.out).mono ?_
                rintro e w1 ⟨rfl, b1⟩
                go_wp2
                go_roundw
                case rel => exact ⟨j + 1, by omega, by go_num, hnx.out, hbr.trans (b1.mono hsz1)⟩
                case measure => simp [intOf]; omega
              · have hfin := Lib.hid (HB.out (fun H => hy3 H.2.2.2))
                have hy4 : ¬ y < 0 := by omega
                have hy5 : 1048576 < y := by omega
                have HD := Lib.hid hdx
                clear hx0 hdx
                go_wp2_with fail
                refine (pisst _ _ _ _ _ _ _ _ _ _ _ hn HD.out).mono ?_
                rintro e w1 ⟨rfl, b1⟩
                go_wp2
                go_ret
                exact ⟨ret_int hfin.out.symm, bt hbw b1⟩
            · have hfin := Lib.hid (HB.out (fun H => hy0 H.2.2.1))
              have hy4 : y < 0 := by omega
              have HD := Lib.hid hdx
              clear hx0 hdx
              go_wp2_with fail
              refine (pisst _ _ _ _ _ _ _ _ _ _ _ hn HD.out).mono ?_
              rintro e w1 ⟨rfl, b1⟩
              go_wp2
              go_ret
              exact ⟨ret_int hfin.out.symm, bt hbw b1⟩
          · have hfin := Lib.hid (HB.out (fun H => hx0 ⟨H.1, H.2.1⟩))
            have HD := Lib.hid (show (false : Bool) = decide (0 ≤ x ∧ x < n) from (decide_eq_false hx0).symm)
            clear hx0
            go_wp2_with fail
            refine (pisst _ _ _ _ _ _ _ _ _ _ _ hn HD.out).mono ?_
            rintro e w1 ⟨rfl, b1⟩
            go_wp2
            go_ret
            exact ⟨ret_int hfin.out.symm, bt hbw b1⟩
        · obtain rfl : j = n1 := by omega
          have hfin := Lib.hid (rowE_ok (i := j) (n := n) (r := r) (o := o) ⟨by rw [L1.out], by rw [L2.out]⟩ (by rw [L1.out]; exact HK.out))
          go_wp2
          go_ret
          exact ⟨ret_int hfin.out.symm, hbw⟩
    · have hfin := Lib.hid (rowE_len (i := i) (n := n) (r := r) (o := o) (fun H => e2 (by rw [← L2.out]; exact H.2)))
      have D1 : ((n1 : Int) != i) = false := by simp [e1]
      have D2 : ((n2 : Int) != i) = true := by simp [e2]
      clear e1 e2
      go_enter Try.func54, Try.ntmps54
      go_wp2
      go_quiet (fail)
      go_wp2
      go_ret
      exact ⟨ret_int hfin.out.symm, below_drewN hb0 _⟩
  · have hfin := Lib.hid (rowE_len (i := i) (n := n) (r := r) (o := o) (fun H => e1 (by rw [← L1.out]; exact H.1)))
    have D1 : ((n1 : Int) != i) = true := by simp [e1]
    clear e1
    go_enter Try.func54, Try.ntmps54
    go_wp2
    go_quiet (fail)
    go_wp2
    go_ret
    exact ⟨ret_int hfin.out.symm, below_drewN hb0 _⟩
end Go.Proofs.Ytedcdpmflcegbaa
end
