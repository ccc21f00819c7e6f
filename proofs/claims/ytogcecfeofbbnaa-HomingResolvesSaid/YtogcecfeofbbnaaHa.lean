/- Lemmas of the proofs of this seat, of the parts Base, Own, Sorti, Hset, Hcmp, In, Ord, Same, Lits, Hdel, Check, Mp, Join, Agrl, Mach, Vald, Appo, Stepm. Conditions: none. -/
import Derived.WalkKit
import Derived.Lib.Hide
import Derived.Laws.Rows
import Derived.Deep.Draws
import Derived.Test.YtogcecfeofbbnaaProg
import Derived.Outline
import Derived.WalkLawsBesides
import Derived.WalkSpells
import Derived.Deep.AppendSrc
import Derived.Lib.AppendZeros
import Derived.Test.YtogcecfeofbbnaaShelf
import Derived.Lib.OwnBridge
import Derived.Sort.OwnSortedInts
import Derived.Lib.SliceRun
import Derived.BigQuiet
import Derived.Deep.QuietTactic
import Derived.RegionTactic
import Derived.BigRegion
section
/- A slice of ints that reads as a list. -/
namespace Go.Proofs.Ytogcecfeofbbnaa
open Go.RowKit

/-- The slice '.slice A n _' holds the numbers xs. -/
def Ints (w : World) (A : Option Addr) (n : Nat) (xs : List Int) : Prop :=
  xs.length = n ∧ n ≤ 17592186044416 ∧ (0 < n → ∃ b off, A = some ⟨b, off, none⟩ ∧ b < w.heap.size ∧ ∀ j, j < n → w.cell? ⟨b, off + j, none⟩ = some (.int .i64 (xs.getD j 0)))

theorem Ints.below {w w' : World} {A : Option Addr} {n : Nat} {xs : List Int} (h : Ints w A n xs) (hb : Below w.heap.size w w') : Ints w' A n xs :=
  ⟨h.1, h.2.1, fun hn => by
    obtain ⟨b, off, e, hlt, hc⟩ := h.2.2 hn
    exact ⟨b, off, e, Nat.lt_of_lt_of_le hlt hb.size, fun j hj => (hb.cell hlt).trans (hc j hj)⟩⟩

theorem Ints.drewN {w : World} {A : Option Addr} {n : Nat} {xs : List Int} (h : Ints w A n xs) (d : Nat) : Ints (w.drewN d) A n xs := h

theorem Ints.at_ {w : World} {A : Option Addr} {n : Nat} {xs : List Int} (h : Ints w A n xs) {k : Nat} (hk : k < n) :
    ∃ b off, A = some ⟨b, off, none⟩ ∧ b < w.heap.size ∧ w.cell? ⟨b, off + k, none⟩ = some (.int .i64 (xs.getD k 0)) := by
  obtain ⟨b, off, e, hlt, hc⟩ := h.2.2 (by omega)
  exact ⟨b, off, e, hlt, hc k hk⟩

theorem below_drewN {B : Nat} {w w' : World} (h : Below B w w') (d : Nat) : Below B w (w'.drewN d) := ⟨h.os, h.tape, h.output, h.size, h.block⟩

/-- A slice that a literal makes. -/
theorem Ints.new (w : World) (xs : List Int) (cs : Array Value) (n : Nat) (hcs : cs = (xs.map (Value.int .i64)).toArray) (hn : n = xs.length) (hm : xs.length ≤ 17592186044416) :
    Ints (w.alloc (.cells cs 3)) (some ⟨w.heap.size, 0, none⟩) n xs := by
  subst hcs hn
  refine ⟨rfl, hm, fun _ => ⟨w.heap.size, 0, rfl, by simp, fun j hj => ?_⟩⟩
  have h := cell_of_row (w.alloc (.cells (xs.map (Value.int .i64)).toArray 3)) w.heap.size j (xs.map (Value.int .i64)).toArray 3 (0, 0) (heap_alloc_new w _)
  rw [Nat.zero_add, h]
  simp [List.getD, hj]

theorem ret_int {k : IntKind} {a b : Int} (h : a = b) : Ending.returned (.int k a) = .returned (.int k b) := by rw [h]
end Go.Proofs.Ytogcecfeofbbnaa
end

section
/- Rows of numbers that a call owns: what they read as; append of a list that reads as numbers. -/
namespace Go.Proofs.Ytogcecfeofbbnaa
open Go.RowKit

theorem info3 : (Try.prog.info? 3).map (fun i => (i.zero, i.size, i.bytes)) = some (some (.int .i64 0), 1, 8) := by kernel_rfl

/-- The slice value v is a row of the numbers xs in a block from base on, which the call may write. -/
def Owned (w : World) (base : Nat) (v : Value) (xs : List Int) : Prop := w.ownsRow base 3 1 v xs.length (xs.map (Value.int .i64))

theorem Owned.form {w : World} {base : Nat} {v : Value} {xs : List Int} (h : Owned w base v xs) : ∃ A c, v = .slice A xs.length c := by
  rcases h.2 with ⟨rfl, h0⟩ | ⟨g, cap, cur, rfl, _⟩
  · exact ⟨none, 0, by rw [h0]⟩
  · exact ⟨_, _, rfl⟩

theorem Owned.ints {w : World} {base : Nat} {A : Option Addr} {n c : Nat} {xs : List Int} (h : Owned w base (.slice A n c) xs) (hm : xs.length ≤ 17592186044416) : Ints w A n xs := by
  have hn : n = xs.length := by obtain ⟨A', c', e⟩ := h.form; cases e; rfl
  subst hn
  refine ⟨rfl, hm, fun h0 => ?_⟩
  rcases h.2 with ⟨e, h1⟩ | ⟨g, cap, cur, e, _, hg, _⟩
  · omega
  · cases e
    refine ⟨g, 0, rfl, ?_, fun j hj => ?_⟩
    · rcases Nat.lt_or_ge g w.heap.size with hlt | hge
      · exact hlt
      · rw [Array.getElem?_eq_none hge] at hg; cases hg
    · have := World.ownsRow.cellAt h j (by omega)
      rw [Nat.zero_add, this]
      simp [List.getD, hj]

theorem Owned.nil (w : World) (base : Nat) : Owned w base (.slice none 0 0) [] := World.ownsRow_nil _ _ _ _

/-- An owned row is still owned where only blocks below its base, or new ones, have turned. -/
theorem Owned.kept {w w' : World} {base : Nat} {v : Value} {xs : List Int} (h : Owned w base v xs) (hb : Below w.heap.size w w') : Owned w' base v xs := by
  refine ⟨h.1, ?_⟩
  rcases h.2 with e | ⟨g, cap, cur, hv, hbg, hg, r⟩
  · exact .inl e
  · refine .inr ⟨g, cap, cur, hv, hbg, ?_, r⟩
    rw [hb.block g ?_]
    · exact hg
    · rcases Nat.lt_or_ge g w.heap.size with hlt | hge
      · exact hlt
      · rw [Array.getElem?_eq_none hge] at hg; cases hg

theorem Owned.lower {w : World} {base base' : Nat} {v : Value} {xs : List Int} (h : Owned w base v xs) (hb : base' ≤ base) : Owned w base' v xs := by
  refine ⟨h.1, ?_⟩
  rcases h.2 with e | ⟨g, cap, cur, hv, hbg, r⟩
  · exact .inl e
  · exact .inr ⟨g, cap, cur, hv, by omega, r⟩

theorem run_append_none (w : World) (base c : Nat) (i : TypeInfo) (hi : Try.prog.info? 3 = some i) (v : Value) (xs : List Int) (h : Owned w base v xs) :
    (Builtin.append_ #[27, 27] 27 #[v, .slice none 0 c]).run Try.prog w = .ok v w := by
  rcases h.2 with ⟨rfl, _⟩ | ⟨g, cap, cur, rfl, _, _, hnc, _⟩
  · simp [Builtin.append_, run_underlying Try.underlying27, sizeOf, typeInfo, hi, Builtin.lenOf, Builtin.firstCells]
  · simp [Builtin.append_, run_underlying Try.underlying27, sizeOf, typeInfo, hi, Builtin.lenOf, Builtin.firstCells, hnc, storeCells]

/-- append(v, ys...) onto an owned row. -/
theorem run_append_ints (w : World) (base : Nat) (v : Value) (xs ys : List Int) (A : Option Addr) (m c : Nat) (h : Owned w base v xs) (hy : Ints w A m ys)
    (hbase : base ≤ w.heap.size) (hlen : (xs ++ ys).length ≤ 17592186044416) :
    ∃ v' w', (Builtin.append_ #[27, 27] 27 #[v, .slice A m c]).run Try.prog w = .ok v' w' ∧ Owned w' base v' (xs ++ ys) ∧ w.grownBy w' v.ownBlock ∧ Below base w w' := by
  obtain ⟨i, hi, hz0, hz1, hz2⟩ := info_parts info3
  have hsplit : ∀ k, v.ownBlock = some k → base ≤ k := fun k hk => (World.ownsRow.lt h k hk).1
  rcases Nat.eq_zero_or_pos m with h0 | h0
  · have hys : ys = [] := List.eq_nil_of_length_eq_zero (by rw [hy.1, h0])
    subst h0 hys
    cases A with
    | none => exact ⟨v, w, run_append_none w base c i hi v xs h, by simpa using h, World.grownBy.refl w _, Below.refl _ _⟩
    | some a =>
      obtain ⟨v', w', hr, h1, h2, _⟩ := run_append_own (P := Try.prog) w base 27 27 3 i (.int .i64 0) 1 8 Try.underlying27 hi hz0 hz1 hz2 rfl (by decide) v _ _ h a 0 c [] (by simp) (by simp) (by simp)
        (by have := h.1; simp at hlen; unfold maxLen; omega) (by simp at hlen; omega) hbase
      exact ⟨v', w', hr, by unfold Owned; simpa using h1, h2, (Below.refl _ _).grown h2 hbase hsplit⟩
  · obtain ⟨b, off, rfl, hb, hc⟩ := hy.2.2 h0
    obtain ⟨v', w', hr, h1, h2, _⟩ := run_append_own (P := Try.prog) w base 27 27 3 i (.int .i64 0) 1 8 Try.underlying27 hi hz0 hz1 hz2 rfl (by decide) v _ _ h ⟨b, off, none⟩ m c (ys.map (Value.int .i64))
      (by simp [hy.1])
      (by
        intro j u hu
        have hj : j < ys.length := by
          rcases Nat.lt_or_ge j ys.length with hlt | hge
          · exact hlt
          · rw [List.getElem?_eq_none (by simpa using hge)] at hu; cases hu
        have hcj := hc j (by rw [← hy.1]; exact hj)
        rw [List.getElem?_map, List.getElem?_eq_getElem hj] at hu
        simp only [Option.map_some, Option.some.injEq] at hu
        subst hu
        rw [show (⟨b, off, none⟩ : Addr).add j = ⟨b, off + j, none⟩ by unfold Addr.add; split <;> simp_all]
        rw [hcj]; simp [List.getD, hj])
      (by intro u hu; simp at hu; obtain ⟨a, _, rfl⟩ := hu; rfl)
      (by rw [List.length_append] at hlen; rw [← hy.1]; unfold maxLen; omega) (by rw [List.length_append] at hlen; rw [← hy.1]; omega) hbase
    refine ⟨v', w', hr, ?_, h2, (Below.refl _ _).grown h2 hbase hsplit⟩
    unfold Owned
    rw [List.length_append, List.map_append, hy.1]
    exact h1

theorem Owned.head {w : World} {base n c : Nat} {A : Option Addr} {xs : List Int} (h : Owned w base (.slice A n c) xs) (h0 : 0 < n) :
    ∃ g, A = some ⟨g, 0, none⟩ ∧ base ≤ g ∧ g < w.heap.size ∧ ∀ j, w.frozen? ⟨g, j, none⟩ = false := by
  have h' := h
  obtain ⟨A', c', e⟩ := h'.form
  cases e
  rcases h.2 with ⟨e, h1⟩ | ⟨g, cap, cur, e, hb, hg, _⟩
  · omega
  · cases e
    refine ⟨g, rfl, hb, ?_, fun j => frozen_of_row w g j cur 3 hg⟩
    rcases Nat.lt_or_ge g w.heap.size with hlt | hge
    · exact hlt
    · rw [Array.getElem?_eq_none hge] at hg; cases hg

theorem Owned.stored {w : World} {base g n c : Nat} {xs : List Int} (h : Owned w base (.slice (some ⟨g, 0, none⟩) n c) xs) (j : Nat) (u : Int) :
    Owned (w.setCell ⟨g, j, none⟩ (.int .i64 u)) base (.slice (some ⟨g, 0, none⟩) n c) (xs.set j u) := by
  have hf := h.form
  obtain ⟨A', c', e⟩ := hf
  cases e
  have := (World.ownsRow.stored h j (.int .i64 u)).1
  unfold Owned
  rw [List.length_set, List.map_set]
  exact this

theorem Owned.literal (w : World) (base : Nat) (xs : List Int) (cs : Array Value) (n : Nat) (hb : base ≤ w.heap.size) (hcs : cs = (xs.map (Value.int .i64)).toArray) (hn : n = xs.length) (hm : xs.length ≤ 17592186044416) :
    Owned (w.alloc (.cells cs 3)) base (.slice (some ⟨w.heap.size, 0, none⟩) n n) xs := by
  subst hcs hn
  have := World.ownsRow_lit (e := 3) (size := 1) w (xs.map (Value.int .i64)).toArray xs.length hb (by unfold maxLen; omega) (by simp)
  unfold Owned
  simpa using this

theorem made_ints (n : Nat) : (madeCells (Value.int .i64 0).cells (n * 1)).toList = (List.replicate n (0 : Int)).map (Value.int .i64) := by
  rw [show (Value.int IntKind.i64 0).cells = #[Value.int .i64 0] from rfl, Nat.mul_one, toList_madeCells_one, List.map_replicate]

/-- make([]int, n). -/
theorem wpList_make_ints {ops : Array Oper} {rest : List Oper} {o : Oper} {a : Act} {Q : Exit → Act → World → Prop} (w : World) (hg : o.guard = none) (l c : Operand) (hop : o.op = Op.makeSlice 27 l c)
    (kl kc : IntKind) (n : Nat) (hl : a.eval l = .int kl n) (hc : a.eval c = .int kc n) (hn : n ≤ 17592186044416)
    (hK : ∀ w', Owned w' w.heap.size (.slice (some ⟨w.heap.size, 0, none⟩) n n) (List.replicate n 0) → Below w.heap.size w w' → wpList Try.prog ops Q rest (a.put o.dst (.slice (some ⟨w.heap.size, 0, none⟩) n n)) w') :
    wpList Try.prog ops Q (o :: rest) a w := by
  obtain ⟨i, hi, hz0, hz1, hz2⟩ := info_parts info3
  refine wpList_make_full w hg l c 27 hop w.heap.size 3 i _ 1 Try.underlying27 hi hz0 hz1 kl kc _ _ n hl hc rfl rfl (by rw [hz2]; omega) (by unfold maxLen; omega) (Nat.le_refl _) ?_
  intro w' h1 h2
  refine hK w' ?_ ((Below.refl _ _).grown h2 (Nat.le_refl _) (fun k hk => by cases hk))
  unfold Owned
  rw [← made_ints, List.length_replicate]
  exact h1
end Go.Proofs.Ytogcecfeofbbnaa
end

section
/- slices.Sort and slices.Compact at a row of one's own. -/
namespace Go.Proofs.Ytogcecfeofbbnaa
open Go.RowKit Go.Sort

theorem psorti (A : Option Addr) (n c : Nat) (xs : List Int) (base : Nat) (w : World) (ho : Owned w base (.slice A n c) xs) (hb : base ≤ w.heap.size) (hn : n ≤ 17592186044416) :
    Calls Try.prog 109 #[.slice A n c] w fun e w' => e = .returned (.tuple #[]) ∧ Owned w' base (.slice A n c) (xs.mergeSort fun x y => decide (x ≤ y)) ∧ Below base w w' := by
  have hl : xs.length = n := by obtain ⟨A', c', e⟩ := ho.form; cases e; rfl
  subst hl
  rcases ho.2 with ⟨e, h0⟩ | ⟨g, cap, cur, e, hbg, hg, h1, h2, h3, h4⟩
  · have hx : xs = [] := List.eq_nil_of_length_eq_zero h0
    subst hx
    refine (Try.slices_Sort_int_none A c w).mono ?_
    rintro e w' ⟨rfl, rfl⟩
    exact ⟨rfl, by rw [List.mergeSort_nil]; exact ho, Below.refl _ _⟩
  · cases e
    have hH := holds_of_blockI hg (by rw [Nat.mul_one] at h4; exact h4)
    refine (Try.slices_Sort_int g 0 c xs w hH (by
      rcases Nat.lt_or_ge g w.heap.size with hlt | hge
      · exact hlt
      · rw [Array.getElem?_eq_none hge] at hg; cases hg) (by omega)).mono ?_
    rintro e w' ⟨rfl, m, os, rfl⟩
    refine ⟨rfl, ?_, (Below.refl _ _).grown (grownBy_sortedI _) hb (fun k hk => by cases hk; exact hbg)⟩
    have := ownsRow_sortedI (n := m) (os := os) (ts := xs.mergeSort fun x y => decide (x ≤ y)) (ss := xs) (List.length_mergeSort xs) hbg hg h1 h2 h3
    unfold Owned
    rw [List.length_mergeSort]
    exact this

theorem pcompacti (A : Option Addr) (n c : Nat) (xs : List Int) (base : Nat) (w : World) (ho : Owned w base (.slice A n c) xs) (hb : base ≤ w.heap.size) (hn : n ≤ 17592186044416) :
    Calls Try.prog 110 #[.slice A n c] w fun e w' => ∃ A' c', e = .returned (.slice A' (Lib.compact xs).length c') ∧ Owned w' base (.slice A' (Lib.compact xs).length c') (Lib.compact xs) ∧ Below base w w' := by
  have hl : xs.length = n := by obtain ⟨A', c', e⟩ := ho.form; cases e; rfl
  subst hl
  rcases ho.2 with ⟨e, h0⟩ | ⟨g, cap, cur, e, hbg, hg, h1, h2, h3, h4⟩
  · have hx : xs = [] := List.eq_nil_of_length_eq_zero h0
    subst hx
    refine (Try.slices_Compact_int_empty A c w).mono ?_
    rintro e w' ⟨rfl, rfl⟩
    exact ⟨A, c, rfl, ho, Below.refl _ _⟩
  · cases e
    have hH := holds_of_blockI hg (by rw [Nat.mul_one] at h4; exact h4)
    refine (Try.slices_Compact_int g 0 c xs w hH (by omega) h1).mono ?_
    rintro e w' ⟨rfl, q, rfl⟩
    have hle := Lib.compact_length_le xs
    have hc := Lib.ownsRow_putRow (enc := Value.int .i64) (q := q) (k := (Lib.compact xs).length) (ys := Lib.compact xs ++ List.replicate (xs.length - (Lib.compact xs).length) 0) ho (by simp; omega) hle
    rw [List.take_left] at hc
    exact ⟨some ⟨g, 0, none⟩, c, rfl, hc, Lib.below_putRow (Below.refl _ _) hbg⟩
end Go.Proofs.Ytogcecfeofbbnaa
end

section
/- slices.Sort and slices.Compact of a set of states. -/
namespace Go.Proofs.Ytogcecfeofbbnaa
open Go.RowKit Go.Sort

theorem plen (n : Nat) (w : World) (hn : n < 4611686018427387904) : Calls Try.prog 121 #[.int .u64 (n : Int)] w fun e w' => e = .returned (.int .i64 (bitsLen n : Nat)) ∧ w' = w :=
  calls_of_every_depth fun D => Any.lenWalkInAll (P := Try.prog) (ρ := Try.lays189_ren) { Try.lays189 with } D n w hn
theorem ppdq (blk off cap : Nat) (zs : List Int) (w : World) (hH : Holds (Value.int .i64) w blk off zs.toArray) (hblk : blk < w.heap.size) (hsz : zs.length < 4611686018427387904) :
    Calls Try.prog 120 #[.slice (some ⟨blk, off, none⟩) zs.length cap, .int .i64 0, .int .i64 zs.length, .int .i64 (bitsLen zs.length : Nat)] w fun e w' =>
      e = .returned (.tuple #[]) ∧ ∃ n os, w' = grow (putRow (Value.int .i64) (Sort.ahead w n) blk off (zs.mergeSort fun x y => decide (x ≤ y)).toArray) os := by
  have hk : bitsLen zs.length ≤ 62 := (bitsLen_le_iff zs.length 62).2 (by omega)
  have hdp := pdqDepth_le_59 ltInt zs.toArray 0 zs.length (bitsLen zs.length) true true (by omega)
  have h := calls_of_every_depth fun D => (Any.pdqWalkInInt (P := Try.prog) (ρ := Try.lays189_ren) { Try.lays189 with } D) 65 blk off cap 0 zs.length (bitsLen zs.length) zs.toArray w (by omega) hH hblk (Nat.zero_le _) (by simp) (by simpa using hsz) (by omega) (Or.inl rfl)
  refine h.mono ?_
  rintro e w' ⟨rfl, n, os, rfl⟩
  refine ⟨rfl, n, os, ?_⟩
  rw [← Any.sort_int_eqD]
  rfl

theorem sort_set (blk off cap : Nat) (zs : List Int) (w : World) (hH : Holds (Value.int .i64) w blk off zs.toArray) (hblk : blk < w.heap.size) (hsz : zs.length < 4611686018427387904) :
    Calls Try.prog 98 #[.slice (some ⟨blk, off, none⟩) zs.length cap] w fun e w' =>
      e = .returned (.tuple #[]) ∧ ∃ n os, w' = grow (putRow (Value.int .i64) (Sort.ahead w n) blk off (zs.mergeSort fun x y => decide (x ≤ y)).toArray) os := by
  have HP := Lib.hid (ppdq blk off cap zs w hH hblk hsz)
  have hk : bitsLen zs.length ≤ 62 := (bitsLen_le_iff zs.length 62).2 (by omega)
  have HL := Lib.hid (plen zs.length w hsz)
  clear hH hblk
  generalize bitsLen zs.length = b at HP HL hk
  generalize zs.length = n at HP HL hsz
  go_enter Try.func98, Try.ntmps98
  go_wp2_with fail
  refine HL.out.mono ?_
  rintro e w1 ⟨rfl, rfl⟩
  go_wp2_with fail
  refine HP.out.mono ?_
  rintro e w' ⟨rfl, m, os, rfl⟩
  go_wp2
  go_end0
  exact ⟨rfl, m, os, rfl⟩

theorem sort_set_none (A : Option Addr) (c : Nat) (w : World) :
    Calls Try.prog 98 #[.slice A 0 c] w fun e w' => e = .returned (.tuple #[]) ∧ w' = w := by
  have HP := Lib.hid (calls_of_every_depth fun D => AnyS.pdqsort_int_none_in (P := Try.prog) (ρ := Try.lays189_ren) { Try.lays189 with } D A c w)
  have HL := Lib.hid (plen 0 w (by omega))
  go_enter Try.func98, Try.ntmps98
  go_wp2_with fail
  refine HL.out.mono ?_
  rintro e w1 ⟨rfl, rfl⟩
  go_wp2_with fail
  refine HP.out.mono ?_
  rintro e w' ⟨rfl, rfl⟩
  go_wp2
  go_end0
  exact ⟨rfl, rfl⟩

theorem psorts (A : Option Addr) (n c : Nat) (xs : List Int) (base : Nat) (w : World) (ho : Owned w base (.slice A n c) xs) (hb : base ≤ w.heap.size) (hn : n ≤ 17592186044416) :
    Calls Try.prog 98 #[.slice A n c] w fun e w' => e = .returned (.tuple #[]) ∧ Owned w' base (.slice A n c) (xs.mergeSort fun x y => decide (x ≤ y)) ∧ Below base w w' := by
  have hl : xs.length = n := by obtain ⟨A', c', e⟩ := ho.form; cases e; rfl
  subst hl
  rcases ho.2 with ⟨e, h0⟩ | ⟨g, cap, cur, e, hbg, hg, h1, h2, h3, h4⟩
  · have hx : xs = [] := List.eq_nil_of_length_eq_zero h0
    subst hx
    refine (sort_set_none A c w).mono ?_
    rintro e w' ⟨rfl, rfl⟩
    exact ⟨rfl, by rw [List.mergeSort_nil]; exact ho, Below.refl _ _⟩
  · cases e
    have hH := holds_of_blockI hg (by rw [Nat.mul_one] at h4; exact h4)
    refine (sort_set g 0 c xs w hH (by
      rcases Nat.lt_or_ge g w.heap.size with hlt | hge
      · exact hlt
      · rw [Array.getElem?_eq_none hge] at hg; cases hg) (by omega)).mono ?_
    rintro e w' ⟨rfl, m, os, rfl⟩
    refine ⟨rfl, ?_, (Below.refl _ _).grown (grownBy_sortedI _) hb (fun k hk => by cases hk; exact hbg)⟩
    have := ownsRow_sortedI (n := m) (os := os) (ts := xs.mergeSort fun x y => decide (x ≤ y)) (ss := xs) (List.length_mergeSort xs) hbg hg h1 h2 h3
    unfold Owned
    rw [List.length_mergeSort]
    exact this
end Go.Proofs.Ytogcecfeofbbnaa
end

section
/- slices.Compact of a set of states. -/
namespace Go.Proofs.Ytogcecfeofbbnaa
open Go.RowKit

theorem arr_getD (xs : List Int) (m : Nat) : (xs.toArray)[m]! = xs.getD m 0 := by
  rw [List.getD_eq_getElem?_getD]
  simp [getElem!_def]
  cases xs[m]? <;> rfl

/-- What is kept of the first m numbers. -/
def cpU (xs : List Int) (m : Nat) : List Int := Lib.compactUpTo xs.toArray m
theorem cpU_keep {xs : List Int} {m : Nat} (hne : ¬ xs.getD m 0 = xs.getD (m - 1) 0) : cpU xs (m + 1) = cpU xs m ++ [xs.getD m 0] := by
  unfold cpU
  have hk : Lib.keeps xs.toArray m = true := decide_eq_true (.inr (by rw [arr_getD, arr_getD]; exact hne))
  rw [Lib.compactUpTo_succ, if_pos hk, arr_getD]
theorem cpU_skip {xs : List Int} {m : Nat} (h1 : m ≠ 0) (he : xs.getD m 0 = xs.getD (m - 1) 0) : cpU xs (m + 1) = cpU xs m := by
  unfold cpU
  have hk : ¬ Lib.keeps xs.toArray m = true := fun h => by
    rcases of_decide_eq_true h with h | h
    · exact h1 h
    · rw [arr_getD, arr_getD] at h; exact h he
  rw [Lib.compactUpTo_succ, if_neg hk, List.append_nil]
theorem cpU_one {xs : List Int} (h : 0 < xs.length) : cpU xs 1 = xs.take 1 := by
  unfold cpU
  have hk : Lib.keeps xs.toArray 0 = true := decide_eq_true (.inl rfl)
  rw [Lib.compactUpTo_succ, if_pos hk, arr_getD]
  cases xs with
  | nil => simp at h
  | cons x xs => rfl
theorem cpU_len (xs : List Int) : ∀ m, (cpU xs m).length ≤ m
  | 0 => Nat.le_refl _
  | m + 1 => by
    have ih := cpU_len xs m
    unfold cpU at ih ⊢
    rw [Lib.compactUpTo_succ, List.length_append]
    split <;> simp <;> omega
theorem cpU_all (xs : List Int) : cpU xs xs.length = Lib.compact xs := rfl

/-- The numbers when the first m have been looked at. -/
def cpr (xs : List Int) (m : Nat) : List Int := cpU xs m ++ xs.drop (cpU xs m).length
theorem cpr_len {xs : List Int} {m : Nat} (h : m ≤ xs.length) : (cpr xs m).length = xs.length := by
  have := cpU_len xs m
  unfold cpr
  rw [List.length_append, List.length_drop]
  omega
theorem cpr_keep {xs : List Int} {m : Nat} (hm : m < xs.length) (hne : ¬ xs.getD m 0 = xs.getD (m - 1) 0) : (cpr xs m).set (cpU xs m).length (xs.getD m 0) = cpr xs (m + 1) := by
  have hl := cpU_len xs m
  unfold cpr
  rw [cpU_keep hne, List.set_append_right _ _ (Nat.le_refl _), Nat.sub_self, List.length_append, List.length_singleton]
  rw [List.drop_eq_getElem_cons (show (cpU xs m).length < xs.length by omega), List.set_cons_zero, List.append_assoc]
  rfl
theorem cpr_skip {xs : List Int} {m : Nat} (h1 : m ≠ 0) (he : xs.getD m 0 = xs.getD (m - 1) 0) : cpr xs (m + 1) = cpr xs m := by unfold cpr; rw [cpU_skip h1 he]
theorem cpr_high {xs : List Int} {m j : Nat} (h : (cpU xs m).length ≤ j) : (cpr xs m).getD j 0 = xs.getD j 0 := by
  unfold cpr
  rw [List.getD_eq_getElem?_getD, List.getElem?_append_right h, List.getElem?_drop, List.getD_eq_getElem?_getD]
  congr 2
  omega
theorem cpr_first {xs : List Int} {m : Nat} (h : cpU xs m = xs.take m) (hm : m ≤ xs.length) : cpr xs m = xs := by
  unfold cpr
  rw [h, List.length_take, Nat.min_eq_left hm, List.take_append_drop]
theorem cpr_take (xs : List Int) (m : Nat) : (cpr xs m).take (cpU xs m).length = cpU xs m := by unfold cpr; exact List.take_left

theorem Owned.drew1 {w : World} {base : Nat} {v : Value} {xs : List Int} (h : Owned w base v xs) : Owned w.drew base v xs := h.kept (Below.refl _ _).drew
theorem Owned.cut {w : World} {base g n c k : Nat} {xs : List Int} (h : Owned w base (.slice (some ⟨g, 0, none⟩) n c) xs) (hk : k ≤ n) : Owned w base (.slice (some ⟨g, 0, none⟩) k c) (xs.take k) := by
  obtain ⟨A', c', e⟩ := h.form
  cases e
  have h0 := h
  rcases h.2 with ⟨e, h1⟩ | ⟨g', cap, cur, e, hb, hg, h1, h2, h3, h4⟩
  · have hx := List.eq_nil_of_length_eq_zero h1
    subst hx
    obtain rfl : k = 0 := by simpa using hk
    exact h0
  · cases e
    have hH := holds_of_blockI hg (by rw [Nat.mul_one] at h4; exact h4)
    have := Lib.ownsRow_putRow (enc := Value.int .i64) (q := 0) (k := k) (ys := xs) h0 rfl hk
    rw [Sort.putRow_self _ _ _ _ _ (Sort.holds_ahead _ w 0 g 0 _ hH)] at this
    unfold Owned
    rw [List.length_take, Nat.min_eq_left hk]
    exact this
theorem Owned.zeros {base g n c : Nat} : ∀ (t : Nat) {w : World} {xs : List Int} {o : Nat}, Owned w base (.slice (some ⟨g, 0, none⟩) n c) xs → ∃ ys : List Int, Owned (w.setCells g o (List.replicate t (.int .i64 0))) base (.slice (some ⟨g, 0, none⟩) n c) ys ∧ ys.take o = xs.take o
  | 0, w, xs, o, h => ⟨xs, h, rfl⟩
  | t + 1, w, xs, o, h => by
    obtain ⟨ys, h1, h2⟩ := Owned.zeros t (o := o + 1) (h.stored o 0)
    refine ⟨ys, h1, ?_⟩
    have h3 : (ys.take (o + 1)).take o = ((xs.set o 0).take (o + 1)).take o := by rw [h2]
    rw [List.take_take, List.take_take, Nat.min_eq_left (Nat.le_succ o)] at h3
    rw [h3, List.take_set_of_le (Nat.le_refl o)]
theorem below_cells {base g : Nat} {w : World} (hg : base ≤ g) : ∀ (l : List Value) {W : World} {o : Nat}, Below base w W → Below base w (W.setCells g o l)
  | [], _, _, h => h
  | x :: l, _, o, h => below_cells hg l (h.setCell (show base ≤ (⟨g, o, none⟩ : Addr).block from hg) x)

set_option maxHeartbeats 4000000 in
set_option maxRecDepth 100000 in
theorem pcompacts (A : Option Addr) (n c : Nat) (xs : List Int) (base : Nat) (w : World) (ho : Owned w base (.slice A n c) xs) (hn : n ≤ 17592186044416) :
    Calls Try.prog 99 #[.slice A n c] w fun e w' => ∃ A' c', e = .returned (.slice A' (Lib.compact xs).length c') ∧ Owned w' base (.slice A' (Lib.compact xs).length c') (Lib.compact xs) ∧ Below base w w' := by
  have hl : xs.length = n := by obtain ⟨A', c', e⟩ := ho.form; cases e; rfl
  have L := Lib.hid hl
  by_cases h2 : n < 2
  · have he : Hid (Lib.compact xs = xs) := by
      refine Lib.hid ?_
      rw [← cpU_all, hl]
      by_cases h0 : n = 0
      · subst h0
        rw [List.eq_nil_of_length_eq_zero hl]; rfl
      · obtain rfl : n = 1 := by omega
        rw [cpU_one (by omega), ← hl, List.take_length]
    have HO := Lib.hid ho
    clear ho hl
    go_enter Try.func99, Try.ntmps99
    go_wp2
    go_ret
    rw [he.out, L.out]
    exact ⟨A, c, rfl, HO.out, Below.refl _ _⟩
  · obtain ⟨g, rfl, hbg, hg2, hfr⟩ := ho.head (by omega)
    have hnc : n ≤ c := by
      rcases ho.2 with ⟨e, h0⟩ | ⟨g', cap, cur, e, hbg, hg, h1, _⟩
      · omega
      · cases e; omega
    have HB := Lib.hid hbg
    have HO := Lib.hid ho
    clear hl hfr hg2 ho
    go_enter Try.func99, Try.ntmps99
    go_wp2
    go_loopw [3] (fun kv wr => ∃ k : Nat, 1 ≤ k ∧ k ≤ n ∧ kv = .int .i64 k ∧ Owned wr base (.slice (some ⟨g, 0, none⟩) n c) xs ∧ Below base w wr ∧ cpU xs k = xs.take k) (fun kv _ => n - (intOf kv).toNat)
    case atStart => exact ⟨1, Nat.le_refl _, by omega, rfl, HO.out, Below.refl _ _, cpU_one (by have := L.out; omega)⟩
    case round =>
      obtain ⟨k, hk1, hk, rfl, ho, hbr, hU⟩ := hrel
      have HU := Lib.hid hU
      have HBR := Lib.hid hbr
      have HO2 := Lib.hid ho
      clear hU hbr
      by_cases hlt : k < n
      · have hI := ho.ints (by rw [L.out]; exact hn)
        obtain ⟨g', o', e, _, c1⟩ := hI.at_ (k := k) (by omega)
        cases e
        obtain ⟨g', o', e, _, c0⟩ := hI.at_ (k := k - 1) (by omega)
        cases e
        rw [Nat.zero_add] at c1 c0
        clear hI ho
        obtain ⟨x, hx⟩ : ∃ x, x = xs.getD k 0 := ⟨_, rfl⟩
        obtain ⟨y, hy⟩ : ∃ y, y = xs.getD (k - 1) 0 := ⟨_, rfl⟩
        rw [← hx] at c1
        rw [← hy] at c0
        have HX := Lib.hid hx
        have HY := Lib.hid hy
        clear hx hy
        by_cases hxy : x = y
        · have hU1 : Hid (cpU xs (k + 1) = xs.take k) := by
            refine Lib.hid ?_
            rw [cpU_skip (by omega) (by rw [← HX.out, ← HY.out]; exact hxy)]
            exact HU.out
          subst hxy
          go_wp2_with fail
          go_region
          go_wp2
          clear c0 c1
          have HC : Hid (cpr xs (k + 1) = xs) := by
            refine Lib.hid ?_
            rw [cpr_skip (by omega) (by rw [← HX.out, ← HY.out])]
            exact cpr_first HU.out (by have := L.out; omega)
          have hkl : Hid ((cpU xs (k + 1)).length = k) := by
            refine Lib.hid ?_
            rw [hU1.out, List.length_take, L.out]
            omega
          go_loopw [3, 5] (fun kv k2v wr => ∃ kk k2 : Nat, kv = .int .i64 kk ∧ k2v = .int .i64 k2 ∧ 1 ≤ k2 ∧ k + k2 ≤ n ∧ kk = (cpU xs (k + k2)).length ∧ kk < k + k2 ∧ Owned wr base (.slice (some ⟨g, 0, none⟩) n c) (cpr xs (k + k2)) ∧ Below base w wr) (fun _ k2v _ => n - k - (intOf k2v).toNat)
          case atStart => exact ⟨k, 1, rfl, rfl, Nat.le_refl _, by omega, hkl.out.symm, by omega, by rw [HC.out]; exact HO2.out.drew1, HBR.out.drew⟩
          case round =>
            clear HO2 HBR HU
            obtain ⟨kk, k2, rfl, rfl, h1, hle, hkk, hlt2, ho, hbr⟩ := hrel
            have HKK := Lib.hid hkk
            have HBR := Lib.hid hbr
            have HO2 := Lib.hid ho
            clear hkk hbr
            by_cases hm : k + k2 < n
            · have hI := ho.ints (by rw [cpr_len (by have := L.out; omega), L.out]; exact hn)
              have hlen : (cpr xs (k + k2)).length = n := by rw [cpr_len (by have := L.out; omega), L.out]
              obtain ⟨g', o', e, _, c1⟩ := hI.at_ (k := k + k2) (by omega)
              cases e
              obtain ⟨g', o', e, _, c0⟩ := hI.at_ (k := k + k2 - 1) (by omega)
              cases e
              obtain ⟨g', o', e, _, ck⟩ := hI.at_ (k := kk) (by omega)
              cases e
              obtain ⟨g', e, _, _, hfr⟩ := ho.head (by omega)
              cases e
              have fk := hfr kk
              rw [cpr_high (by have := HKK.out; omega)] at c0 c1
              rw [Nat.zero_add] at c1 c0 ck
              rw [show k + k2 - 1 = k + (k2 - 1) by omega] at c0
              clear hI hfr hlen ho
              obtain ⟨x, hx⟩ : ∃ x, x = xs.getD (k + k2) 0 := ⟨_, rfl⟩
              obtain ⟨y, hy⟩ : ∃ y, y = xs.getD (k + (k2 - 1)) 0 := ⟨_, rfl⟩
              rw [← hx] at c1
              rw [← hy] at c0
              generalize (cpr xs (k + k2)).getD kk 0 = old at ck
              have HX2 := Lib.hid hx
              have HY2 : Hid (y = xs.getD (k + k2 - 1) 0) := Lib.hid (by rw [hy, show k + k2 - 1 = k + (k2 - 1) by omega])
              clear hx hy
              by_cases hxy : x = y
              · subst hxy
                go_wp2_with fail
                go_region
                go_wp2
                go_roundw
                case rel =>
                  have e1 := cpU_skip (xs := xs) (m := k + k2) (by omega) (by rw [← HX2.out, ← HY2.out])
                  have e2 := cpr_skip (xs := xs) (m := k + k2) (by omega) (by rw [← HX2.out, ← HY2.out])
                  refine ⟨kk, k2 + 1, rfl, by go_num, by omega, by omega, ?_, by omega, ?_, HBR.out.drew⟩
                  · rw [show k + (k2 + 1) = k + k2 + 1 by omega, e1]; exact HKK.out
                  · rw [show k + (k2 + 1) = k + k2 + 1 by omega, e2]; exact HO2.out.drew1
                case measure => simp [intOf]; omega
              · go_wp2_with fail
                go_region
                go_wp2
                go_roundw
                case rel =>
                  have hd : ¬ xs.getD (k + k2) 0 = xs.getD (k + k2 - 1) 0 := by rw [← HX2.out, ← HY2.out]; exact hxy
                  have e1 := cpU_keep (xs := xs) (m := k + k2) hd
                  have e2 := cpr_keep (xs := xs) (m := k + k2) (by have := L.out; omega) hd
                  refine ⟨kk + 1, k2 + 1, by go_num, by go_num, by omega, by omega, ?_, by omega, ?_, ?_⟩
                  · rw [show k + (k2 + 1) = k + k2 + 1 by omega, e1, List.length_append, ← HKK.out]; rfl
                  · rw [show k + (k2 + 1) = k + k2 + 1 by omega, ← e2, ← HKK.out, ← HX2.out]; exact (HO2.out.stored kk x).drew1
                  · exact (HBR.out.setCell (show base ≤ (⟨g, kk, none⟩ : Addr).block from HB.out) _).drew
                case measure => simp [intOf]; omega
            · have hend : k + k2 = n := by omega
              have hlen : (cpr xs (k + k2)).length = n := by rw [cpr_len (by have := L.out; omega), L.out]
              have hI := ho.ints (by rw [hlen]; exact hn)
              obtain ⟨g', e, _, _, hfr⟩ := ho.head (by omega)
              cases e
              have hcl : ∀ ty, (Builtin.clear_ #[71] ty #[.slice (some ⟨g, kk, none⟩) (n - kk) (c - kk)]).run Try.prog wr = .ok (.tuple #[]) (wr.setCells g kk (List.replicate (n - kk) (.int .i64 0))) :=
                fun ty => Lib.run_clear_slice wr _ _ ty _ Try.underlying71 Try.zeroValue3 rfl rfl g kk _ _ (by omega) (fun j hj => by
                  obtain ⟨g', o', e, _, ck⟩ := hI.at_ (k := kk + j) (by omega)
                  cases e
                  rw [Nat.zero_add] at ck
                  rw [ck]; rfl) (fun j hj => hfr _)
              clear hI hfr ho hlen
              go_wp2
              go_ret
              have hkn : kk = (Lib.compact xs).length := by rw [← cpU_all, L.out, ← hend]; exact HKK.out
              obtain ⟨ys, hy1, hy2⟩ := Owned.zeros (n - kk) (o := kk) HO2.out
              have hc2 := hy1.cut (k := kk) (by omega)
              rw [hy2] at hc2
              have hyk : (cpr xs (k + k2)).take kk = Lib.compact xs := by
                rw [← cpU_all, L.out, ← hend, HKK.out]; exact cpr_take xs (k + k2)
              rw [hyk] at hc2
              rw [← hkn]
              exact ⟨some ⟨g, 0, none⟩, c, rfl, hc2, below_cells HB.out _ HBR.out⟩
        · have hU1 : Hid (cpU xs (k + 1) = xs.take (k + 1)) := by
            refine Lib.hid ?_
            rw [cpU_keep (by rw [← HX.out, ← HY.out]; exact hxy), HU.out, List.take_succ_eq_append_getElem (show k < xs.length by rw [L.out]; exact hlt), List.getD_eq_getElem?_getD, List.getElem?_eq_getElem (show k < xs.length by rw [L.out]; exact hlt)]
            rfl
          go_wp2_with fail
          go_region
          go_wp2
          go_roundw
          case rel => exact ⟨k + 1, by omega, by omega, by go_num, HO2.out.drew1, HBR.out.drew, hU1.out⟩
          case measure => simp [intOf]; omega
      · obtain rfl : k = n := by omega
        clear ho
        go_wp2
        go_ret
        have he : Lib.compact xs = xs := by rw [← cpU_all, L.out, HU.out, ← L.out, List.take_length]
        rw [he, L.out]
        exact ⟨some ⟨g, 0, none⟩, c, rfl, HO2.out, HBR.out⟩
end Go.Proofs.Ytogcecfeofbbnaa
end

section
/- What the rows hand over of a slice of numbers, in the words of these proofs. -/
namespace Go.Proofs.Ytogcecfeofbbnaa
open Go.RowKit

theorem block_lt {w : World} {p : Addr} {v : Value} (h : w.cell? p = some v) : p.block < w.heap.size := by
  rcases Nat.lt_or_ge p.block w.heap.size with hlt | hge
  · exact hlt
  · unfold World.cell? at h
    rw [Array.getElem?_eq_none hge] at h
    simp at h

theorem Ints.of_in {w : World} {A : Option Addr} {n cap : Nat} {zs : List Int} (hn : n ≤ 17592186044416)
    (h : (A = none ∧ n = 0 ∧ cap = 0 ∧ zs = []) ∨
      ∃ x, A = some x ∧ n ≤ cap ∧ cap ≤ maxLen ∧ zs.length = cap ∧ (∀ i, i < zs.length → w.cell? (x.add i) = some (.int .i64 (zs.getD i 0))) ∧ ∀ n ∈ zs, (Lit.int .i64 n).wf = true) :
    Ints w A n (zs.take n) := by
  rcases h with ⟨rfl, rfl, rfl, rfl⟩ | ⟨x, rfl, h1, _, h2, hc, _⟩
  · exact ⟨rfl, by omega, fun h => absurd h (by omega)⟩
  · refine ⟨by rw [List.length_take]; omega, hn, fun h0 => ?_⟩
    obtain ⟨b, off, spot⟩ := x
    have hc0 := hc 0 (by omega)
    have hspot : spot = none := by simpa [Addr.add] using World.cell?_spot hc0
    subst hspot
    refine ⟨b, off, rfl, by have := block_lt hc0; simpa [Addr.add] using this, fun j hj => ?_⟩
    have := hc j (by omega)
    rw [show (⟨b, off, none⟩ : Addr).add j = ⟨b, off + j, none⟩ by unfold Addr.add; split <;> simp_all] at this
    rw [this]
    simp [List.getD, hj]

theorem Owned.look {w : World} {base : Nat} {v : Value} {xs : List Int} (h : Owned w base v xs) (hm : xs.length ≤ 17592186044416) : ∃ A n c, v = .slice A n c ∧ Ints w A n xs := by
  obtain ⟨A, c, rfl⟩ := h.form
  exact ⟨A, _, c, rfl, h.ints hm⟩
end Go.Proofs.Ytogcecfeofbbnaa
end

section

/- Plain functions on lists of numbers: the longest common beginning, both orders. No program. -/
namespace Go.Proofs.Ytogcecfeofbbnaa

/-- The length of the longest list that begins both. -/
def cmn : List Int → List Int → Nat
  | a :: as1, b :: bs => if a = b then cmn as1 bs + 1 else 0
  | _, _ => 0

theorem cmn_le_left (xs ys : List Int) : cmn xs ys ≤ xs.length := by
  induction xs generalizing ys with
  | nil => simp [cmn]
  | cons a as1 ih =>
    cases ys with
    | nil => simp [cmn]
    | cons b bs =>
      rw [cmn]
      split
      · have := ih bs; simp; omega
      · omega

theorem cmn_comm (xs ys : List Int) : cmn xs ys = cmn ys xs := by
  induction xs generalizing ys with
  | nil => cases ys <;> simp [cmn]
  | cons a as1 ih =>
    cases ys with
    | nil => simp [cmn]
    | cons b bs =>
      rw [cmn, cmn, ih bs]
      by_cases h : a = b
      · rw [if_pos h, if_pos h.symm]
      · rw [if_neg h, if_neg fun e => h e.symm]

theorem cmn_le_right (xs ys : List Int) : cmn xs ys ≤ ys.length := by rw [cmn_comm]; exact cmn_le_left ys xs

/-- The first j numbers of both are the same. -/
def Agree (xs ys : List Int) (j : Nat) : Prop := ∀ m, m < j → xs.getD m 0 = ys.getD m 0

theorem Agree.zero (xs ys : List Int) : Agree xs ys 0 := fun m hm => absurd hm (by omega)
theorem Agree.succ {xs ys : List Int} {j : Nat} (h : Agree xs ys j) (e : xs.getD j 0 = ys.getD j 0) : Agree xs ys (j + 1) := fun m hm => by
  by_cases h' : m = j
  · subst h'; exact e
  · exact h m (by omega)

theorem cmn_agree (xs ys : List Int) : Agree xs ys (cmn xs ys) := by
  induction xs generalizing ys with
  | nil => simp [cmn, Agree.zero]
  | cons a as1 ih =>
    cases ys with
    | nil => simp [cmn, Agree.zero]
    | cons b bs =>
      rw [cmn]
      split
      · rename_i h
        intro m hm
        cases m with
        | zero => simpa using h
        | succ m => simpa using ih bs m (by omega)
      · exact Agree.zero _ _

theorem cmn_part (xs ys : List Int) (h1 : cmn xs ys < xs.length) (h2 : cmn xs ys < ys.length) : xs.getD (cmn xs ys) 0 ≠ ys.getD (cmn xs ys) 0 := by
  induction xs generalizing ys with
  | nil => simp at h1
  | cons a as1 ih =>
    cases ys with
    | nil => simp at h2
    | cons b bs =>
      rw [cmn] at h1 h2 ⊢
      split
      · rename_i h
        rw [if_pos h] at h1 h2
        simpa using ih bs (by simpa using h1) (by simpa using h2)
      · rename_i h; simpa using h

theorem cmn_eq {xs ys : List Int} {j : Nat} (h1 : j ≤ xs.length) (h2 : j ≤ ys.length) (ha : Agree xs ys j) (he : j = xs.length ∨ j = ys.length ∨ xs.getD j 0 ≠ ys.getD j 0) : cmn xs ys = j := by
  have l1 := cmn_le_left xs ys
  have l2 := cmn_le_right xs ys
  rcases Nat.lt_trichotomy (cmn xs ys) j with h | h | h
  · exact absurd (ha _ h) (cmn_part xs ys (by omega) (by omega))
  · exact h
  · rcases he with e | e | e
    · omega
    · omega
    · exact absurd (cmn_agree xs ys j h) e

/-- Dictionary order. -/
def lexi (xs ys : List Int) : Int :=
  if cmn xs ys = xs.length ∧ cmn xs ys = ys.length then 0
  else if cmn xs ys = xs.length ∨ (cmn xs ys < ys.length ∧ xs.getD (cmn xs ys) 0 < ys.getD (cmn xs ys) 0) then -1 else 1

/-- The order of two numbers. -/
def cmpI (a b : Int) : Int := if a < b then -1 else if b < a then 1 else 0

/-- Shortlex order. -/
def shlex (xs ys : List Int) : Int :=
  if xs.length < ys.length then -1 else if ys.length < xs.length then 1 else lexi xs ys

theorem lexi_of {xs ys : List Int} {j : Nat} (h1 : j < xs.length) (h2 : j < ys.length) (ha : Agree xs ys j) (he : xs.getD j 0 ≠ ys.getD j 0) : lexi xs ys = cmpI (xs.getD j 0) (ys.getD j 0) := by
  have e := cmn_eq (by omega) (by omega) ha (.inr (.inr he))
  unfold lexi cmpI
  rw [e, if_neg (by omega)]
  by_cases h : xs.getD j 0 < ys.getD j 0
  · rw [if_pos (.inr ⟨h2, h⟩), if_pos h]
  · rw [if_neg (by omega), if_neg h, if_pos (by omega)]

theorem lexi_long {xs ys : List Int} (h : ys.length < xs.length) (ha : Agree xs ys ys.length) : lexi xs ys = 1 := by
  have e := cmn_eq (j := ys.length) (by omega) (by omega) ha (.inr (.inl rfl))
  unfold lexi
  rw [e, if_neg (by omega), if_neg (by omega)]

theorem lexi_short {xs ys : List Int} (h : xs.length < ys.length) (ha : Agree xs ys xs.length) : lexi xs ys = -1 := by
  have e := cmn_eq (j := xs.length) (by omega) (by omega) ha (.inl rfl)
  unfold lexi
  rw [e, if_neg (by omega), if_pos (.inl rfl)]

theorem lexi_same {xs ys : List Int} (h : xs.length = ys.length) (ha : Agree xs ys xs.length) : lexi xs ys = 0 := by
  have e := cmn_eq (j := xs.length) (by omega) (by omega) ha (.inl rfl)
  unfold lexi
  rw [e, if_pos ⟨rfl, h⟩]

theorem cmn_full {xs ys : List Int} (h : xs.length = ys.length) : cmn xs ys = xs.length ↔ xs = ys := by
  constructor
  · intro e
    have ha := cmn_agree xs ys
    rw [e] at ha
    apply List.ext_getElem h
    intro m h1 h2
    have := ha m h1
    simpa [List.getD, h1, h2] using this
  · rintro rfl
    exact cmn_eq (Nat.le_refl _) (Nat.le_refl _) (fun _ _ => rfl) (.inl rfl)
end Go.Proofs.Ytogcecfeofbbnaa
end

section
/- The reference: Common and Same. -/
namespace Go.Proofs.Ytogcecfeofbbnaa
open Go.RowKit

set_option maxHeartbeats 400000 in
theorem rcommon (A B : Option Addr) (n c m d : Nat) (xs ys : List Int) (w : World) (hx : Ints w A n xs) (hy : Ints w B m ys) :
    Calls Try.prog 116 #[.slice A n c, .slice B m d] w fun e w' => e = .returned (.int .i64 (cmn xs ys)) ∧ ∃ q, w' = w.drewN q := by
  have L1 := Lib.hid hx.1
  have L2 := Lib.hid hy.1
  have hn := hx.2.1
  have hm := hy.2.1
  go_enter Try.func116, Try.ntmps116
  go_wp2
  go_loopw [5] (fun i wr => ∃ j : Nat, j ≤ n ∧ j ≤ m ∧ i = .int .i64 j ∧ Agree xs ys j ∧ ∃ q, wr = w.drewN q) (fun i _ => n - (intOf i).toNat)
  case atStart => exact ⟨0, Nat.zero_le _, Nat.zero_le _, rfl, Agree.zero _ _, 0, rfl⟩
  case round =>
    obtain ⟨j, hj1, hj2, rfl, ha, q, rfl⟩ := hrel
    by_cases hl1 : j < n
    · by_cases hl2 : j < m
      · have d1 : decide ((j : Int) < (n : Int)) = true := by simp; omega
        have d2 : decide ((j : Int) < (m : Int)) = true := by simp; omega
        obtain ⟨b1, o1, rfl, _, hc1⟩ := hx.at_ (k := j) (by omega)
        obtain ⟨b2, o2, rfl, _, hc2⟩ := hy.at_ (k := j) (by omega)
        by_cases he : xs[j]?.getD 0 = ys[j]?.getD 0
        · have ha' := Lib.hid (ha.succ (by simpa using he))
          have hb : (xs[j]?.getD 0 == ys[j]?.getD 0) = true := by simp [he]
          have hE := Lib.hid he
          clear he ha
          go_wp2
          go_quiet (fail)
          go_wp2
          go_roundw
          case rel => exact ⟨j + 1, by omega, by omega, by go_num, ha'.out, by first | exact ⟨_, rfl⟩ | exact ⟨_, World.drewN_drewN _ _ _⟩⟩
          case measure => simp [intOf]; omega
        · have hfin := Lib.hid (cmn_eq (j := j) (by rw [L1.out]; omega) (by rw [L2.out]; omega) ha (.inr (.inr (by simpa using he))))
          have hb : (xs[j]?.getD 0 == ys[j]?.getD 0) = false := by simpa using he
          clear he ha
          go_wp2
          go_quiet (fail)
          go_wp2
          go_ret
          exact ⟨ret_int (by rw [hfin.out]), by first | exact ⟨_, rfl⟩ | exact ⟨_, World.drewN_drewN _ _ _⟩⟩
      · have hfin := Lib.hid (cmn_eq (j := j) (by rw [L1.out]; omega) (by rw [L2.out]; omega) ha (by rw [L1.out, L2.out]; omega))
        have d1 : decide ((j : Int) < (n : Int)) = true := by simp; omega
        have d2 : decide ((j : Int) < (m : Int)) = false := by simp; omega
        clear ha
        go_wp2
        go_quiet (fail)
        go_wp2
        go_ret
        exact ⟨ret_int (by rw [hfin.out]), by first | exact ⟨_, rfl⟩ | exact ⟨_, World.drewN_drewN _ _ _⟩⟩
    · have hfin := Lib.hid (cmn_eq (j := j) (by rw [L1.out]; omega) (by rw [L2.out]; omega) ha (by rw [L1.out, L2.out]; omega))
      have d1 : decide ((j : Int) < (n : Int)) = false := by simp; omega
      clear ha
      go_wp2
      go_quiet (fail)
      go_wp2
      go_ret
      exact ⟨ret_int (by rw [hfin.out]), by first | exact ⟨_, rfl⟩ | exact ⟨_, World.drewN_drewN _ _ _⟩⟩

end Go.Proofs.Ytogcecfeofbbnaa
end

section
/- Literals, and what readers and makers leave. -/
namespace Go.Proofs.Ytogcecfeofbbnaa
open Go.RowKit

/-- Calls of readers give Below. -/
theorem rd_below {w w' : World} (h : ∃ q, w' = w.drewN q) : Below w.heap.size w w' := by obtain ⟨q, rfl⟩ := h; exact below_drewN (Below.refl _ _) q

theorem alloc_below (w : World) (o : Obj) : Below w.heap.size w (w.alloc o) := (Below.refl _ _).alloc (Nat.le_refl _) _

/-- The list xs as a literal's cells. -/
def lit (xs : List Int) : Array Value := (xs.map (Value.int .i64)).toArray

theorem bt {a b c : World} (h : Below a.heap.size a b) (k : Below b.heap.size b c) : Below a.heap.size a c := h.trans (k.mono h.size)

theorem Ints.none_ (w : World) : Ints w none 0 [] := ⟨rfl, by omega, fun h => absurd h (by omega)⟩

end Go.Proofs.Ytogcecfeofbbnaa
end

section
/- slices.IndexFunc and slices.DeleteFunc of a set of states. -/
namespace Go.Proofs.Ytogcecfeofbbnaa
open Go.RowKit Go.Shelf

/-- What a closure on numbers does. -/
def DelC (f : Nat) (caps : Array Value) (p : Int → Bool) (xs : List Int) (base : Nat) (w : World) : Prop :=
  (∀ args w, (callFunc f args).run Try.prog w = .ok (.enter f args) w) ∧ ∀ W, Below base w W → ∀ x, x ∈ xs →
    Calls Try.prog f (#[.int .i64 x] ++ caps) W fun e w' => e = .returned (.bool (p x)) ∧ Below W.heap.size W w'
theorem DelC.below {f : Nat} {caps : Array Value} {p : Int → Bool} {xs : List Int} {base : Nat} {w w' : World} (h : DelC f caps p xs base w) (hb : Below base w w') : DelC f caps p xs base w' := ⟨h.1, fun W hW => h.2 W (hb.trans hW)⟩
theorem getD_in {xs : List Int} {k : Nat} (h : k < xs.length) : xs.getD k 0 ∈ xs := by
  rw [List.getD_eq_getElem?_getD, List.getElem?_eq_getElem h]; exact List.getElem_mem _

set_option maxHeartbeats 2000000 in
theorem pindexf (f : Nat) (caps : Array Value) (p : Int → Bool) (A : Option Addr) (n c : Nat) (xs : List Int) (base : Nat) (w : World) (ho : Owned w base (.slice A n c) xs) (hb : base ≤ w.heap.size) (hn : n ≤ 17592186044416) (hd : DelC f caps p xs base w) :
    Calls Try.prog 119 #[.slice A n c, .func (.func f) #[] caps] w fun e w' => ∃ r : Int, e = .returned (.int .i64 r) ∧ Below w.heap.size w w' ∧
      ((r = -1 ∧ ∀ j, j < n → p (xs.getD j 0) = false) ∨ ∃ k : Nat, r = k ∧ k < n ∧ p (xs.getD k 0) = true ∧ ∀ j, j < k → p (xs.getD j 0) = false) := by
  have hl : xs.length = n := by obtain ⟨A', c', e⟩ := ho.form; cases e; rfl
  have L := Lib.hid hl
  have hI := ho.ints (by omega)
  have ef := hd.1
  have HD := Lib.hid hd
  have HI := Lib.hid hI
  have HBS := Lib.hid hb
  clear hl ho hd hI hb
  go_enter Try.func119, Try.ntmps119
  go_wp2
  go_loopw [8] (fun kv wr => ∃ k : Nat, k ≤ n ∧ kv = .int .i64 k ∧ Below w.heap.size w wr ∧ ∀ j, j < k → p (xs.getD j 0) = false) (fun kv _ => n - (intOf kv).toNat)
  case atStart => exact ⟨0, Nat.zero_le _, rfl, Below.refl _ _, fun j hj => absurd hj (Nat.not_lt_zero _)⟩
  case round =>
    obtain ⟨k, hk, rfl, hbr, hall⟩ := hrel
    have HALL := Lib.hid hall
    have HBR := Lib.hid hbr
    clear hall
    by_cases hlt : k < n
    · obtain ⟨b1, o1, rfl, _, c1⟩ := (HI.out.below hbr).at_ (k := k) hlt
      have HC := Lib.hid (HD.out.2 wr (hbr.mono HBS.out) (xs.getD k 0) (getD_in (by rw [L.out]; exact hlt)))
      generalize hx : xs.getD k 0 = x at c1 HC
      have HX := Lib.hid hx
      clear hx hbr
      by_cases hp : p x = true
      · have HP := Lib.hid hp
        rw [hp] at HC
        clear hp
        go_wp2_with (first | (go_at_fn f; fail))
        refine HC.out.mono ?_
        rintro e w1 ⟨rfl, b1⟩
        have HB1 := Lib.hid b1
        clear b1 c1
        go_wp2
        go_ret
        exact ⟨k, rfl, bt HBR.out HB1.out, .inr ⟨k, rfl, hlt, by rw [HX.out]; exact HP.out, HALL.out⟩⟩
      · have hp : p x = false := by simpa using hp
        have HP := Lib.hid hp
        rw [hp] at HC
        clear hp
        go_wp2_with (first | (go_at_fn f; fail))
        refine HC.out.mono ?_
        rintro e w1 ⟨rfl, b1⟩
        have HB1 := Lib.hid b1
        clear b1 c1
        go_wp2
        go_roundw
        case rel =>
          refine ⟨k + 1, by omega, by go_num, bt HBR.out HB1.out, fun j hj => ?_⟩
          by_cases e : j = k
          · subst e; rw [HX.out]; exact HP.out
          · exact HALL.out j (by omega)
        case measure => simp [intOf]; omega
    · obtain rfl : k = n := by omega
      clear hbr
      go_wp2
      go_ret
      exact ⟨-1, rfl, HBR.out, .inl ⟨rfl, HALL.out⟩⟩

/-- What stays of the first m numbers, and all numbers then. -/
def dlU (p : Int → Bool) (xs : List Int) (m : Nat) : List Int := (xs.take m).filter fun x => !p x
theorem dlU_next {p : Int → Bool} {xs : List Int} {m : Nat} (hm : m < xs.length) : dlU p xs (m + 1) = if p (xs.getD m 0) = true then dlU p xs m else dlU p xs m ++ [xs.getD m 0] := by
  unfold dlU
  rw [List.take_succ_eq_append_getElem hm, List.filter_append, List.getD_eq_getElem?_getD, List.getElem?_eq_getElem hm]
  show _ ++ List.filter _ [xs[m]] = if p xs[m] = true then _ else _ ++ [xs[m]]
  cases h : p xs[m] with
  | true => simp [h]
  | false => simp [h]
theorem dlU_len (p : Int → Bool) (xs : List Int) (m : Nat) : (dlU p xs m).length ≤ m := by
  unfold dlU
  exact Nat.le_trans (List.length_filter_le _ _) (by rw [List.length_take]; omega)
theorem dlU_all (p : Int → Bool) (xs : List Int) : dlU p xs xs.length = xs.filter fun x => !p x := by unfold dlU; rw [List.take_length]
theorem dlU_first {p : Int → Bool} {xs : List Int} : ∀ {m : Nat}, m ≤ xs.length → (∀ j, j < m → p (xs.getD j 0) = false) → dlU p xs m = xs.take m
  | 0, _, _ => by simp [dlU]
  | m + 1, hm, h => by
    rw [dlU_next (by omega), if_neg (by rw [h m (by omega)]; simp), dlU_first (by omega) fun j hj => h j (by omega), List.take_succ_eq_append_getElem (by omega), List.getD_eq_getElem?_getD, List.getElem?_eq_getElem (by omega)]
    rfl
def dlr (p : Int → Bool) (xs : List Int) (m : Nat) : List Int := dlU p xs m ++ xs.drop (dlU p xs m).length
theorem dlr_len {p : Int → Bool} {xs : List Int} {m : Nat} (h : m ≤ xs.length) : (dlr p xs m).length = xs.length := by
  have := dlU_len p xs m
  unfold dlr
  rw [List.length_append, List.length_drop]
  omega
theorem dlr_keep {p : Int → Bool} {xs : List Int} {m : Nat} (hm : m < xs.length) (hp : p (xs.getD m 0) = false) : (dlr p xs m).set (dlU p xs m).length (xs.getD m 0) = dlr p xs (m + 1) := by
  have hl := dlU_len p xs m
  unfold dlr
  rw [dlU_next hm, if_neg (by rw [hp]; simp), List.set_append_right _ _ (Nat.le_refl _), Nat.sub_self, List.length_append, List.length_singleton]
  rw [List.drop_eq_getElem_cons (show (dlU p xs m).length < xs.length by omega), List.set_cons_zero, List.append_assoc]
  rfl
theorem dlr_skip {p : Int → Bool} {xs : List Int} {m : Nat} (hm : m < xs.length) (hp : p (xs.getD m 0) = true) : dlr p xs (m + 1) = dlr p xs m := by unfold dlr; rw [dlU_next hm, if_pos hp]
theorem dlr_high {p : Int → Bool} {xs : List Int} {m j : Nat} (h : (dlU p xs m).length ≤ j) : (dlr p xs m).getD j 0 = xs.getD j 0 := by
  unfold dlr
  rw [List.getD_eq_getElem?_getD, List.getElem?_append_right h, List.getElem?_drop, List.getD_eq_getElem?_getD]
  congr 2
  omega
theorem dlr_take (p : Int → Bool) (xs : List Int) (m : Nat) : (dlr p xs m).take (dlU p xs m).length = dlU p xs m := by unfold dlr; exact List.take_left

set_option maxHeartbeats 4000000 in
set_option maxRecDepth 100000 in
theorem pdelete (f : Nat) (caps : Array Value) (p : Int → Bool) (A : Option Addr) (n c : Nat) (xs ys : List Int) (base : Nat) (w : World) (ho : Owned w base (.slice A n c) xs) (hb : base ≤ w.heap.size) (hn : n ≤ 17592186044416) (hd : DelC f caps p xs base w) (hy : ys = xs.filter fun x => !p x) :
    Calls Try.prog 96 #[.slice A n c, .func (.func f) #[] caps] w fun e w' => ∃ A' c', e = .returned (.slice A' ys.length c') ∧ Owned w' base (.slice A' ys.length c') ys ∧ Below base w w' := by
  have hl : xs.length = n := by obtain ⟨A', c', e⟩ := ho.form; cases e; rfl
  have L := Lib.hid hl
  have HP := Lib.hid (pindexf f caps p A n c xs base w ho hb hn hd)
  have ef := hd.1
  have HD := Lib.hid hd
  have HO := Lib.hid ho
  have HBS := Lib.hid hb
  have HY := Lib.hid hy
  clear hl ho hd hb hy
  go_enter Try.func96, Try.ntmps96
  go_wp2_with fail
  refine HP.out.mono ?_
  rintro e w1 ⟨r, rfl, hb1, hr⟩
  have HB1 := Lib.hid (hb1.mono HBS.out)
  have HO1 := Lib.hid (HO.out.kept hb1)
  clear hb1
  rcases hr with ⟨rfl, hall⟩ | ⟨k, rfl, hk, hpk, hall⟩
  · have he : Hid (ys = xs) := by
      refine Lib.hid ?_
      rw [HY.out, ← dlU_all, dlU_first (Nat.le_refl _) (by rw [L.out]; exact hall), List.take_length]
    clear hall
    go_wp2
    go_ret
    rw [he.out, L.out]
    exact ⟨A, c, rfl, HO1.out, HB1.out⟩
  · obtain ⟨g, rfl, hbg, hg2, hfr⟩ := HO1.out.head (by omega)
    have hnc : n ≤ c := by
      have hL := L.out
      rcases HO1.out.2 with ⟨e, h0⟩ | ⟨g', cap, cur, e, hbg, hg, h1, _⟩
      · omega
      · cases e; omega
    have HB := Lib.hid hbg
    have hU0 := dlU_first (p := p) (xs := xs) (m := k) (by have := L.out; omega) hall
    have hU1 : Hid (dlU p xs (k + 1) = xs.take k) := by
      refine Lib.hid ?_
      rw [dlU_next (by have := L.out; omega), if_pos hpk, hU0]
    have hR1 : Hid (dlr p xs (k + 1) = xs) := by
      refine Lib.hid ?_
      unfold dlr
      have hkl : (xs.take k).length = k := by rw [List.length_take, L.out]; omega
      rw [hU1.out, hkl, List.take_append_drop]
    have hkl : Hid ((dlU p xs (k + 1)).length = k) := by
      refine Lib.hid ?_
      rw [hU1.out, List.length_take, L.out]
      omega
    clear hU0 hall hpk hfr hg2
    have hkm : ((k : Int) == -1) = false := by rw [beq_eq_false_iff_ne]; omega
    go_wp2
    clear hkm
    go_loopw [5, 6] (fun kv jv wr => ∃ kk j : Nat, kv = .int .i64 kk ∧ jv = .int .i64 j ∧ j ≤ n ∧ kk = (dlU p xs j).length ∧ kk < j ∧ Owned wr base (.slice (some ⟨g, 0, none⟩) n c) (dlr p xs j) ∧ Below base w wr) (fun _ jv _ => n - (intOf jv).toNat)
    case atStart => exact ⟨k, k + 1, rfl, by go_num, by omega, hkl.out.symm, by omega, by rw [hR1.out]; exact HO1.out, HB1.out⟩
    case round =>
      clear HO1 HB1 hU1 hR1 hkl
      obtain ⟨kk, j, rfl, rfl, hj, hkk, hkj, ho, hbr⟩ := hrel
      have HKK := Lib.hid hkk
      have HBR := Lib.hid hbr
      have HO2 := Lib.hid ho
      clear hkk hbr
      have hlen : (dlr p xs j).length = n := by rw [dlr_len (by have := L.out; omega), L.out]
      have hI := ho.ints (by omega)
      obtain ⟨g', e, _, _, hfr⟩ := ho.head (by omega)
      cases e
      by_cases hlt : j < n
      · obtain ⟨g', o', e, _, c1⟩ := hI.at_ (k := j) (by omega)
        cases e
        obtain ⟨g', o', e, _, ck⟩ := hI.at_ (k := kk) (by omega)
        cases e
        have fk := hfr kk
        rw [dlr_high (by have := HKK.out; omega)] at c1
        rw [Nat.zero_add] at c1 ck
        have HC := Lib.hid (HD.out.2 wr HBR.out (xs.getD j 0) (getD_in (by rw [L.out]; exact hlt)))
        have HCK := Lib.hid ck
        have HCF := Lib.hid hfr
        clear hI hfr hlen ho ck fk
        obtain ⟨x, hx⟩ : ∃ x, x = xs.getD j 0 := ⟨_, rfl⟩
        rw [← hx] at c1 HC
        have HX := Lib.hid hx
        clear hx
        by_cases hp : p x = true
        · have HPX := Lib.hid hp
          rw [hp] at HC
          clear hp
          go_wp2_with (first | (go_at_fn f; fail))
          refine HC.out.mono ?_
          rintro e w2 ⟨rfl, b2⟩
          have HB2 := Lib.hid b2
          clear b2 c1
          go_wp2
          go_roundw
          case rel =>
            have hp' : p (xs.getD j 0) = true := by rw [← HX.out]; exact HPX.out
            refine ⟨kk, j + 1, rfl, by go_num, by omega, ?_, by omega, ?_, HBR.out.trans (HB2.out.mono (by have := HBR.out.size; have := HBS.out; have := HO2.out; omega))⟩
            · rw [dlU_next (by rw [L.out]; exact hlt), if_pos hp']; exact HKK.out
            · rw [dlr_skip (by rw [L.out]; exact hlt) hp']; exact HO2.out.kept HB2.out
          case measure => simp [intOf]; omega
        · have hp : p x = false := by simpa using hp
          have HPX := Lib.hid hp
          rw [hp] at HC
          clear hp
          go_wp2_with (first | (go_at_fn f; fail))
          refine HC.out.mono ?_
          rintro e w2 ⟨rfl, b2⟩
          have hgl : g < wr.heap.size := by
            obtain ⟨g', e, _, h9, _⟩ := HO2.out.head (by omega)
            cases e; exact h9
          have ck := (b2.cell (p := ⟨g, kk, none⟩) hgl).trans HCK.out
          have fk : w2.frozen? ⟨g, kk, none⟩ = false := by
            obtain ⟨g', e, _, _, h9⟩ := (HO2.out.kept b2).head (by omega)
            cases e; exact h9 kk
          have HB2 := Lib.hid b2
          clear b2 c1
          generalize (dlr p xs j).getD kk 0 = old at ck
          go_wp2
          go_roundw
          case rel =>
            have hp' : p (xs.getD j 0) = false := by rw [← HX.out]; exact HPX.out
            refine ⟨kk + 1, j + 1, by go_num, by go_num, by omega, ?_, by omega, ?_, ?_⟩
            · rw [dlU_next (by rw [L.out]; exact hlt), if_neg (by rw [hp']; simp), List.length_append, ← HKK.out]; rfl
            · rw [← dlr_keep (by rw [L.out]; exact hlt) hp', ← HKK.out, ← HX.out]; exact (HO2.out.kept HB2.out).stored kk x
            · exact (HBR.out.trans (HB2.out.mono (by have := HBR.out.size; have := HBS.out; omega))).setCell (show base ≤ (⟨g, kk, none⟩ : Addr).block from HB.out) _
          case measure => simp [intOf]; omega
      · obtain rfl : j = n := by omega
        have hcl : ∀ ty, (Builtin.clear_ #[71] ty #[.slice (some ⟨g, kk, none⟩) (j - kk) (c - kk)]).run Try.prog wr = .ok (.tuple #[]) (wr.setCells g kk (List.replicate (j - kk) (.int .i64 0))) :=
          fun ty => Lib.run_clear_slice wr _ _ ty _ Try.underlying71 Try.zeroValue3 rfl rfl g kk _ _ (by omega) (fun t ht => by
            obtain ⟨g', o', e, _, ck⟩ := hI.at_ (k := kk + t) (by omega)
            cases e
            rw [Nat.zero_add] at ck
            rw [ck]; rfl) (fun t ht => hfr _)
        clear hI hfr ho hlen
        go_wp2
        go_ret
        have hkn : kk = ys.length := by rw [HY.out, ← dlU_all, L.out]; exact HKK.out
        obtain ⟨zs, hz1, hz2⟩ := Owned.zeros (j - kk) (o := kk) HO2.out
        have hc2 := hz1.cut (k := kk) (by omega)
        rw [hz2] at hc2
        have hyk : (dlr p xs j).take kk = ys := by
          rw [HY.out, ← dlU_all, L.out, HKK.out]; exact dlr_take p xs j
        rw [hyk] at hc2
        rw [← hkn]
        exact ⟨some ⟨g, 0, none⟩, c, rfl, hc2, below_cells HB.out _ HBR.out⟩
end Go.Proofs.Ytogcecfeofbbnaa
end

section
/- The walks of Check, by the two texts. -/
namespace Go.Proofs.Ytogcecfeofbbnaa
open Go.RowKit

/-- The first j numbers are symbols of the size k. -/
def Syms (xs : List Int) (k : Int) (j : Nat) : Prop := ∀ m, m < j → 0 ≤ xs.getD m 0 ∧ xs.getD m 0 < k

instance (xs : List Int) (k : Int) (j : Nat) : Decidable (Syms xs k j) := by unfold Syms; exact inferInstance

theorem Syms.zero (xs : List Int) (k : Int) : Syms xs k 0 := fun m hm => absurd hm (by omega)
theorem Syms.succ {xs : List Int} {k : Int} {j : Nat} (h : Syms xs k j) (h0 : 0 ≤ xs.getD j 0) (h1 : xs.getD j 0 < k) : Syms xs k (j + 1) := fun m hm => by
  by_cases e : m = j
  · subst e; exact ⟨h0, h1⟩
  · exact h m (by omega)

/-- The error of Check. -/
def chk (xs : List Int) (k : Int) : Int :=
  if 1 ≤ k ∧ k ≤ 1024 then (if 1024 < xs.length then 3 else if Syms xs k xs.length then 0 else 1) else 2

theorem chk_range {xs : List Int} {k : Int} (h : ¬ (1 ≤ k ∧ k ≤ 1024)) : chk xs k = 2 := by unfold chk; rw [if_neg h]
theorem chk_long {xs : List Int} {k : Int} (h : 1 ≤ k ∧ k ≤ 1024) (hl : 1024 < xs.length) : chk xs k = 3 := by unfold chk; rw [if_pos h, if_pos hl]
theorem chk_ok {xs : List Int} {k : Int} (h : 1 ≤ k ∧ k ≤ 1024) (hl : ¬ 1024 < xs.length) (hs : Syms xs k xs.length) : chk xs k = 0 := by unfold chk; rw [if_pos h, if_neg hl, if_pos hs]
theorem chk_bad {xs : List Int} {k : Int} (h : 1 ≤ k ∧ k ≤ 1024) (hl : ¬ 1024 < xs.length) {j : Nat} (hj : j < xs.length) (hs : ¬ (0 ≤ xs.getD j 0 ∧ xs.getD j 0 < k)) : chk xs k = 1 := by
  unfold chk; rw [if_pos h, if_neg hl, if_neg fun H => hs (H j hj)]


theorem chk_zero {xs : List Int} {k : Int} (h : chk xs k = 0) : 1 ≤ k ∧ k ≤ 1024 ∧ xs.length ≤ 1024 ∧ Syms xs k xs.length := by
  unfold chk at h
  by_cases h1 : 1 ≤ k ∧ k ≤ 1024
  · rw [if_pos h1] at h
    by_cases h2 : 1024 < xs.length
    · rw [if_pos h2] at h; omega
    · rw [if_neg h2] at h
      by_cases h3 : Syms xs k xs.length
      · exact ⟨h1.1, h1.2, by omega, h3⟩
      · rw [if_neg h3] at h; omega
  · rw [if_neg h1] at h; omega

theorem wperm (k : Int) (b : Bool) (h : b = true ↔ (1 ≤ k ∧ k ≤ 1024)) (w : World) :
    Calls Try.prog 102 #[.int .i64 k] w fun e w' => e = .returned (.bool b) ∧ w = w' := by
  by_cases h1 : 1 ≤ k
  · by_cases h2 : k ≤ 1024
    · obtain rfl : b = true := h.2 ⟨h1, h2⟩
      go_enter Try.func102, Try.ntmps102
      go_wp2
      go_ret
      exact ⟨rfl, rfl⟩
    · obtain rfl : b = false := by cases b; rfl; exact absurd (h.1 rfl).2 h2
      go_enter Try.func102, Try.ntmps102
      go_wp2
      go_ret
      exact ⟨rfl, rfl⟩
  · obtain rfl : b = false := by cases b; rfl; exact absurd (h.1 rfl).1 h1
    go_enter Try.func102, Try.ntmps102
    go_wp2
    go_ret
    exact ⟨rfl, rfl⟩

theorem rsize (k : Int) (b : Bool) (h : b = true ↔ (1 ≤ k ∧ k ≤ 1024)) (w : World) :
    Calls Try.prog 118 #[.int .i64 k] w fun e w' => e = .returned (.bool b) ∧ w = w' := by
  by_cases h1 : 1 ≤ k
  · by_cases h2 : k ≤ 1024
    · obtain rfl : b = true := h.2 ⟨h1, h2⟩
      go_enter Try.func118, Try.ntmps118
      go_wp2
      go_ret
      exact ⟨rfl, rfl⟩
    · obtain rfl : b = false := by cases b; rfl; exact absurd (h.1 rfl).2 h2
      go_enter Try.func118, Try.ntmps118
      go_wp2
      go_ret
      exact ⟨rfl, rfl⟩
  · obtain rfl : b = false := by cases b; rfl; exact absurd (h.1 rfl).1 h1
    go_enter Try.func118, Try.ntmps118
    go_wp2
    go_ret
    exact ⟨rfl, rfl⟩

set_option maxHeartbeats 400000 in
theorem wcheck (A : Option Addr) (n c : Nat) (k : Int) (xs : List Int) (w : World) (h : Ints w A n xs) :
    Calls Try.prog 62 #[.slice A n c, .int .i64 k] w fun e w' => e = .returned (.int .i64 (chk xs k)) ∧ w = w' := by
  have hlen := h.1
  have hn := h.2.1
  by_cases hr : 1 ≤ k ∧ k ≤ 1024
  · have H1 := Lib.hid hr
    obtain ⟨h1, h2⟩ := hr
    by_cases hl : 1024 < n
    · have hfin := Lib.hid (chk_long (xs := xs) ⟨h1, h2⟩ (by omega))
      clear hlen
      go_enter Try.func62, Try.ntmps62
      go_wp2_with (go_at_call 102; refine (wperm k true (by simp; omega) _).mono ?_; rintro e w' ⟨rfl, rfl⟩)
      go_ret
      exact ⟨ret_int hfin.out.symm, rfl⟩
    · have hd : decide ((1024 : Int) < (n : Int)) = false := by simp; omega
      have hL := Lib.hid hlen
      clear hlen
      go_enter Try.func62, Try.ntmps62
      go_wp2_with (go_at_call 102; refine (wperm k true (by simp; omega) _).mono ?_; rintro e w' ⟨rfl, rfl⟩)
      go_loop [15] (fun i => ∃ j : Nat, j ≤ n ∧ i = .int .i64 j ∧ Syms xs k j) (fun i => n - (intOf i).toNat)
      case atStart => exact ⟨0, Nat.zero_le _, rfl, Syms.zero _ _⟩
      case round =>
        obtain ⟨j, hj, rfl, hs⟩ := hrel
        by_cases hlt : j < n
        · obtain ⟨b, off, rfl, hb, hc⟩ := h.at_ hlt
          by_cases hg : 0 ≤ xs[j]?.getD 0 ∧ xs[j]?.getD 0 < k
          · obtain ⟨g1, g2⟩ := hg
            have g3 : ¬ xs[j]?.getD 0 < 0 := by omega
            have hs' := hs.succ (by simpa using g1) (by simpa using g2)
            go_wp2
            go_round
            case rel => exact ⟨j + 1, by omega, by go_num, hs'⟩
            case measure => simp [intOf]; omega
          · have hbad := Lib.hid (chk_bad H1.out (by rw [hL.out]; exact hl) (by rw [hL.out]; exact hlt) (by simpa using hg))
            by_cases g1 : xs[j]?.getD 0 < 0
            · go_wp2
              go_ret
              exact ⟨ret_int hbad.out.symm, rfl⟩
            · have g2 : k ≤ xs[j]?.getD 0 := by omega
              have g0 : 0 ≤ xs[j]?.getD 0 := by omega
              clear hg
              go_wp2
              go_ret
              exact ⟨ret_int hbad.out.symm, rfl⟩
        · have hok := Lib.hid (chk_ok H1.out (by rw [hL.out]; exact hl) (by rw [hL.out]; exact (by omega : j = n) ▸ hs))
          go_wp2
          go_ret
          exact ⟨ret_int hok.out.symm, rfl⟩
  · have hbad := Lib.hid (chk_range (xs := xs) hr)
    go_enter Try.func62, Try.ntmps62
    go_wp2_with (go_at_call 102; refine (wperm k false (by simp; omega) _).mono ?_; rintro e w' ⟨rfl, rfl⟩)
    go_ret
    exact ⟨ret_int hbad.out.symm, rfl⟩

set_option maxHeartbeats 400000 in
theorem rcheck (A : Option Addr) (n c : Nat) (k : Int) (xs : List Int) (w : World) (h : Ints w A n xs) :
    Calls Try.prog 95 #[.slice A n c, .int .i64 k] w fun e w' => e = .returned (.int .i64 (chk xs k)) ∧ w = w' := by
  have hlen := h.1
  have hn := h.2.1
  by_cases hr : 1 ≤ k ∧ k ≤ 1024
  · have H1 := Lib.hid hr
    obtain ⟨h1, h2⟩ := hr
    by_cases hl : 1024 < n
    · have hfin := Lib.hid (chk_long (xs := xs) ⟨h1, h2⟩ (by omega))
      clear hlen
      go_enter Try.func95, Try.ntmps95
      go_wp2_with (go_at_call 118; refine (rsize k true (by simp; omega) _).mono ?_; rintro e w' ⟨rfl, rfl⟩)
      go_ret
      exact ⟨ret_int hfin.out.symm, rfl⟩
    · have hd : decide ((1024 : Int) < (n : Int)) = false := by simp; omega
      have hL := Lib.hid hlen
      clear hlen
      go_enter Try.func95, Try.ntmps95
      go_wp2_with (go_at_call 118; refine (rsize k true (by simp; omega) _).mono ?_; rintro e w' ⟨rfl, rfl⟩)
      go_loop [5] (fun i => ∃ j : Nat, j ≤ n ∧ i = .int .i64 j ∧ Syms xs k j) (fun i => n - (intOf i).toNat)
      case atStart => exact ⟨0, Nat.zero_le _, rfl, Syms.zero _ _⟩
      case round =>
        obtain ⟨j, hj, rfl, hs⟩ := hrel
        by_cases hlt : j < n
        · obtain ⟨b, off, rfl, hb, hc⟩ := h.at_ hlt
          by_cases hg : 0 ≤ xs[j]?.getD 0 ∧ xs[j]?.getD 0 < k
          · obtain ⟨g1, g2⟩ := hg
            have g3 : ¬ xs[j]?.getD 0 < 0 := by omega
            have hs' := hs.succ (by simpa using g1) (by simpa using g2)
            go_wp2
            go_round
            case rel => exact ⟨j + 1, by omega, by go_num, hs'⟩
            case measure => simp [intOf]; omega
          · have hbad := Lib.hid (chk_bad H1.out (by rw [hL.out]; exact hl) (by rw [hL.out]; exact hlt) (by simpa using hg))
            by_cases g1 : xs[j]?.getD 0 < 0
            · go_wp2
              go_ret
              exact ⟨ret_int hbad.out.symm, rfl⟩
            · have g2 : k ≤ xs[j]?.getD 0 := by omega
              have g0 : 0 ≤ xs[j]?.getD 0 := by omega
              clear hg
              go_wp2
              go_ret
              exact ⟨ret_int hbad.out.symm, rfl⟩
        · have hok := Lib.hid (chk_ok H1.out (by rw [hL.out]; exact hl) (by rw [hL.out]; exact (by omega : j = n) ▸ hs))
          go_wp2
          go_ret
          exact ⟨ret_int hok.out.symm, rfl⟩
  · have hbad := Lib.hid (chk_range (xs := xs) hr)
    go_enter Try.func95, Try.ntmps95
    go_wp2_with (go_at_call 118; refine (rsize k false (by simp; omega) _).mono ?_; rintro e w' ⟨rfl, rfl⟩)
    go_ret
    exact ⟨ret_int hbad.out.symm, rfl⟩
end Go.Proofs.Ytogcecfeofbbnaa
end

section
/- Mealy machines as lists: what is valid, executed, reached. -/
namespace Go.Proofs.Ytogcecfeofbbnaa

/-- The first number that is not 0 among f 0 .. f (k - 1). -/
def fstE (f : Nat → Int) : Nat → Int
  | 0 => 0
  | k + 1 => if fstE f k = 0 then f k else fstE f k
theorem fstE_ok {f : Nat → Int} : ∀ {k : Nat}, (∀ t, t < k → f t = 0) → fstE f k = 0
  | 0, _ => rfl
  | k + 1, h => by
    unfold fstE
    rw [if_pos (fstE_ok fun t ht => h t (by omega))]
    exact h k (by omega)
theorem fstE_bad {f : Nat → Int} {j : Nat} (h : ∀ t, t < j → f t = 0) (hj : f j ≠ 0) : ∀ {k : Nat}, j < k → fstE f k = f j
  | 0, hk => absurd hk (by omega)
  | k + 1, hk => by
    unfold fstE
    by_cases e : j = k
    · subst e; rw [if_pos (fstE_ok h)]
    · have := fstE_bad h hj (k := k) (by omega)
      rw [this, if_neg hj]
theorem fstE_zero {f : Nat → Int} : ∀ {k : Nat}, fstE f k = 0 → ∀ t, t < k → f t = 0
  | 0, _, t, ht => absurd ht (by omega)
  | k + 1, h, t, ht => by
    unfold fstE at h
    by_cases e : fstE f k = 0
    · rw [if_pos e] at h
      by_cases e2 : t = k
      · subst e2; exact h
      · exact fstE_zero e t (by omega)
    · rw [if_neg e] at h; exact absurd h e

/-- The first k transitions of a row are fine. -/
def RowOk (n : Int) (r o : List Int) (k : Nat) : Prop := ∀ m, m < k → 0 ≤ r.getD m 0 ∧ r.getD m 0 < n ∧ 0 ≤ o.getD m 0 ∧ o.getD m 0 ≤ 1048576
theorem RowOk.zero (n : Int) (r o : List Int) : RowOk n r o 0 := fun m h => absurd h (by omega)
theorem RowOk.succ {n : Int} {r o : List Int} {k : Nat} (h : RowOk n r o k) (h1 : 0 ≤ r.getD k 0) (h2 : r.getD k 0 < n) (h3 : 0 ≤ o.getD k 0) (h4 : o.getD k 0 ≤ 1048576) : RowOk n r o (k + 1) := fun m hm => by
  by_cases e : m = k
  · subst e; exact ⟨h1, h2, h3, h4⟩
  · exact h m (by omega)
instance (n : Int) (r o : List Int) (k : Nat) : Decidable (RowOk n r o k) := by unfold RowOk; exact inferInstance

/-- The error of a row. -/
def rowE (i n : Int) (r o : List Int) : Int :=
  if (r.length : Int) = i ∧ (o.length : Int) = i then (if RowOk n r o r.length then 0 else 2) else 1
theorem rowE_len {i n : Int} {r o : List Int} (h : ¬ ((r.length : Int) = i ∧ (o.length : Int) = i)) : rowE i n r o = 1 := by unfold rowE; rw [if_neg h]
theorem rowE_ok {i n : Int} {r o : List Int} (h : (r.length : Int) = i ∧ (o.length : Int) = i) (h2 : RowOk n r o r.length) : rowE i n r o = 0 := by unfold rowE; rw [if_pos h, if_pos h2]
theorem rowE_bad {i n : Int} {r o : List Int} (h : (r.length : Int) = i ∧ (o.length : Int) = i) {k : Nat} (hk : k < r.length) (h2 : ¬ (0 ≤ r.getD k 0 ∧ r.getD k 0 < n ∧ 0 ≤ o.getD k 0 ∧ o.getD k 0 ≤ 1048576)) : rowE i n r o = 2 := by
  unfold rowE; rw [if_pos h, if_neg fun H => h2 (H k hk)]
theorem rowE_zero {i n : Int} {r o : List Int} (h : rowE i n r o = 0) : (r.length : Int) = i ∧ (o.length : Int) = i ∧ RowOk n r o r.length := by
  unfold rowE at h
  by_cases h1 : (r.length : Int) = i ∧ (o.length : Int) = i
  · rw [if_pos h1] at h
    by_cases h2 : RowOk n r o r.length
    · exact ⟨h1.1, h1.2, h2⟩
    · rw [if_neg h2] at h; omega
  · rw [if_neg h1] at h; omega

/-- The error of the row s of a machine. -/
def rowAt (i : Int) (nx ot : List (List Int)) (s : Nat) : Int := rowE i nx.length (nx.getD s []) (ot.getD s [])

/-- The error of Valid. -/
def vld (i st : Int) (nx ot : List (List Int)) : Int :=
  if 1 ≤ i ∧ i ≤ 64 then
    (if nx.length = 0 then 19 else if 128 < nx.length then 11 else if 0 ≤ st ∧ st < nx.length then (if ot.length = nx.length then fstE (rowAt i nx ot) nx.length else 1) else 2)
  else 2
theorem vld_in {i st : Int} {nx ot : List (List Int)} (h : ¬ (1 ≤ i ∧ i ≤ 64)) : vld i st nx ot = 2 := by unfold vld; rw [if_neg h]
theorem vld_empty {i st : Int} {nx ot : List (List Int)} (h : 1 ≤ i ∧ i ≤ 64) (h0 : nx.length = 0) : vld i st nx ot = 19 := by unfold vld; rw [if_pos h, if_pos h0]
theorem vld_many {i st : Int} {nx ot : List (List Int)} (h : 1 ≤ i ∧ i ≤ 64) (h0 : 128 < nx.length) : vld i st nx ot = 11 := by unfold vld; rw [if_pos h, if_neg (by omega), if_pos h0]
theorem vld_start {i st : Int} {nx ot : List (List Int)} (h : 1 ≤ i ∧ i ≤ 64) (h0 : ¬ nx.length = 0) (h1 : ¬ 128 < nx.length) (h2 : ¬ (0 ≤ st ∧ st < nx.length)) : vld i st nx ot = 2 := by
  unfold vld; rw [if_pos h, if_neg h0, if_neg h1, if_neg h2]
theorem vld_out {i st : Int} {nx ot : List (List Int)} (h : 1 ≤ i ∧ i ≤ 64) (h0 : ¬ nx.length = 0) (h1 : ¬ 128 < nx.length) (h2 : 0 ≤ st ∧ st < nx.length) (h3 : ¬ ot.length = nx.length) : vld i st nx ot = 1 := by
  unfold vld; rw [if_pos h, if_neg h0, if_neg h1, if_pos h2, if_neg h3]
theorem vld_rows {i st : Int} {nx ot : List (List Int)} (h : 1 ≤ i ∧ i ≤ 64) (h0 : ¬ nx.length = 0) (h1 : ¬ 128 < nx.length) (h2 : 0 ≤ st ∧ st < nx.length) (h3 : ot.length = nx.length) : vld i st nx ot = fstE (rowAt i nx ot) nx.length := by
  unfold vld; rw [if_pos h, if_neg h0, if_neg h1, if_pos h2, if_pos h3]

/-- A machine of n states and i inputs is valid. -/
structure Mok (i st n : Nat) (nx ot : List (List Int)) : Prop where
  i1 : 1 ≤ i
  i2 : i ≤ 64
  n1 : 0 < n
  n2 : n ≤ 128
  st : st < n
  nxl : nx.length = n
  otl : ot.length = n
  row : ∀ s, s < n → (nx.getD s []).length = i ∧ (ot.getD s []).length = i ∧ ∀ a, a < i → 0 ≤ (nx.getD s []).getD a 0 ∧ (nx.getD s []).getD a 0 < n ∧ 0 ≤ (ot.getD s []).getD a 0 ∧ (ot.getD s []).getD a 0 ≤ 1048576

theorem vld_zero {i st : Int} {nx ot : List (List Int)} (h : vld i st nx ot = 0) : ∃ i' st' n : Nat, i = i' ∧ st = st' ∧ Mok i' st' n nx ot := by
  unfold vld at h
  by_cases h1 : 1 ≤ i ∧ i ≤ 64
  · rw [if_pos h1] at h
    by_cases h2 : nx.length = 0
    · rw [if_pos h2] at h; omega
    · rw [if_neg h2] at h
      by_cases h3 : 128 < nx.length
      · rw [if_pos h3] at h; omega
      · rw [if_neg h3] at h
        by_cases h4 : 0 ≤ st ∧ st < nx.length
        · rw [if_pos h4] at h
          by_cases h5 : ot.length = nx.length
          · rw [if_pos h5] at h
            refine ⟨i.toNat, st.toNat, nx.length, by omega, by omega, by omega, by omega, by omega, by omega, by omega, rfl, h5, fun s hs => ?_⟩
            obtain ⟨r1, r2, r3⟩ := rowE_zero (fstE_zero h s hs)
            exact ⟨by omega, by omega, fun a ha => r3 a (by omega)⟩
          · rw [if_neg h5] at h; omega
        · rw [if_neg h4] at h; omega
  · rw [if_neg h1] at h; omega

theorem Mok.vld {i st n : Nat} {nx ot : List (List Int)} (h : Mok i st n nx ot) : vld i st nx ot = 0 := by
  have h1 := h.i1; have h2 := h.i2; have h3 := h.n1; have h4 := h.n2; have h5 := h.st; have h6 := h.nxl; have h7 := h.otl
  rw [vld_rows (by omega) (by omega) (by omega) (by omega) (by omega)]
  refine fstE_ok fun t ht => rowE_ok ⟨?_, ?_⟩ fun m hm => ?_
  · have := (h.row t (by omega)).1; omega
  · have := (h.row t (by omega)).2.1; omega
  · have := (h.row t (by omega)).1
    have := (h.row t (by omega)).2.2 m (by omega)
    rw [h6]; exact this

/-- The next state, and the output. -/
def nN (nx : List (List Int)) (s a : Nat) : Nat := ((nx.getD s []).getD a 0).toNat
def oN (ot : List (List Int)) (s a : Nat) : Int := (ot.getD s []).getD a 0
theorem Mok.nN_lt {i st n : Nat} {nx ot : List (List Int)} (h : Mok i st n nx ot) {s a : Nat} (hs : s < n) (ha : a < i) : nN nx s a < n := by
  have := (h.row s hs).2.2 a ha; unfold nN; omega
theorem Mok.nN_eq {i st n : Nat} {nx ot : List (List Int)} (h : Mok i st n nx ot) {s a : Nat} (hs : s < n) (ha : a < i) : (nx.getD s []).getD a 0 = (nN nx s a : Int) := by
  have := (h.row s hs).2.2 a ha; unfold nN; omega

/-- The output word from a state, and the state after it. -/
def runO (nx ot : List (List Int)) : Nat → List Int → List Int
  | _, [] => []
  | s, x :: w => oN ot s x.toNat :: runO nx ot (nN nx s x.toNat) w
def runS (nx : List (List Int)) : Nat → List Int → Nat
  | s, [] => s
  | s, x :: w => runS nx (nN nx s x.toNat) w
theorem runO_append (nx ot : List (List Int)) : ∀ (u v : List Int) (s : Nat), runO nx ot s (u ++ v) = runO nx ot s u ++ runO nx ot (runS nx s u) v
  | [], _, _ => rfl
  | x :: u, v, s => by
    show oN ot s x.toNat :: runO nx ot (nN nx s x.toNat) (u ++ v) = _
    rw [runO_append nx ot u v]; rfl
theorem runS_append (nx : List (List Int)) : ∀ (u v : List Int) (s : Nat), runS nx s (u ++ v) = runS nx (runS nx s u) v
  | [], _, _ => rfl
  | x :: u, v, s => runS_append nx u v (nN nx s x.toNat)
theorem runO_len (nx ot : List (List Int)) : ∀ (u : List Int) (s : Nat), (runO nx ot s u).length = u.length
  | [], _ => rfl
  | x :: u, s => by
    show (runO nx ot (nN nx s x.toNat) u).length + 1 = u.length + 1
    rw [runO_len nx ot u]
theorem take_next {xs : List Int} {j : Nat} (h : j < xs.length) : xs.take (j + 1) = xs.take j ++ [xs[j]?.getD 0] := by
  rw [List.take_succ_eq_append_getElem h, List.getElem?_eq_getElem h]; rfl
theorem runO_next {nx ot : List (List Int)} {s j : Nat} {xs : List Int} (h : j < xs.length) : runO nx ot s (xs.take (j + 1)) = runO nx ot s (xs.take j) ++ [oN ot (runS nx s (xs.take j)) (xs[j]?.getD 0).toNat] := by
  rw [take_next h, runO_append]; rfl
theorem runS_next {nx : List (List Int)} {s j : Nat} {xs : List Int} (h : j < xs.length) : runS nx s (xs.take (j + 1)) = nN nx (runS nx s (xs.take j)) (xs[j]?.getD 0).toNat := by
  rw [take_next h, runS_append]; rfl
theorem Mok.runS_lt {i st n : Nat} {nx ot : List (List Int)} (h : Mok i st n nx ot) : ∀ (u : List Int) (s : Nat), s < n → (∀ x, x ∈ u → 0 ≤ x ∧ x < i) → runS nx s u < n
  | [], _, hs, _ => hs
  | x :: u, s, hs, hu => by
    have hx := hu x (by simp)
    exact h.runS_lt u _ (h.nN_lt hs (by omega)) fun y hy => hu y (by simp [hy])
theorem Syms.mem {xs : List Int} {k : Int} (h : Syms xs k xs.length) : ∀ x, x ∈ xs → 0 ≤ x ∧ x < k := by
  intro x hx
  obtain ⟨j, hj, rfl⟩ := List.getElem_of_mem hx
  have := h j hj
  simpa [List.getD, List.getElem?_eq_getElem hj] using this

/-- One row of a search: what is new is added at the end. -/
def addN (l : List Nat) (x : Nat) : List Nat := if x ∈ l then l else l ++ [x]
def addR (nx : List (List Int)) (s : Nat) (l : List Nat) : Nat → List Nat
  | 0 => l
  | a + 1 => addN (addR nx s l a) (nN nx s a)
/-- The search. -/
def bfs (nx : List (List Int)) (i : Nat) : Nat → List Nat → Nat → List Nat
  | 0, l, _ => l
  | k + 1, l, j => if j < l.length then bfs nx i k (addR nx (l.getD j 0) l i) (j + 1) else l
def rch (nx : List (List Int)) (i st : Nat) : List Nat := bfs nx i nx.length [st] 0

theorem addN_pre (l : List Nat) (x : Nat) : ∃ t, addN l x = l ++ t := by
  unfold addN; split
  · exact ⟨[], by simp⟩
  · exact ⟨[x], rfl⟩
theorem addR_pre (nx : List (List Int)) (s : Nat) (l : List Nat) : ∀ a, ∃ t, addR nx s l a = l ++ t
  | 0 => ⟨[], by simp [addR]⟩
  | a + 1 => by
    obtain ⟨t, ht⟩ := addR_pre nx s l a
    obtain ⟨u, hu⟩ := addN_pre (addR nx s l a) (nN nx s a)
    exact ⟨t ++ u, by show addN _ _ = _; rw [hu, ht, List.append_assoc]⟩
theorem bfs_pre (nx : List (List Int)) (i : Nat) : ∀ (k : Nat) (l : List Nat) (j : Nat), ∃ t, bfs nx i k l j = l ++ t
  | 0, l, _ => ⟨[], by simp [bfs]⟩
  | k + 1, l, j => by
    unfold bfs
    split
    · obtain ⟨t, ht⟩ := addR_pre nx (l.getD j 0) l i
      obtain ⟨u, hu⟩ := bfs_pre nx i k (addR nx (l.getD j 0) l i) (j + 1)
      exact ⟨t ++ u, by rw [hu, ht, List.append_assoc]⟩
    · exact ⟨[], by simp⟩

/-- A list of different states. -/
def Stt (n : Nat) (l : List Nat) : Prop := l.Nodup ∧ ∀ x, x ∈ l → x < n
theorem Stt.len : ∀ {n : Nat} {l : List Nat}, Stt n l → l.length ≤ n
  | 0, l, h => by
    cases l with
    | nil => exact Nat.le_refl _
    | cons x t => exact absurd (h.2 x (by simp)) (by omega)
  | n + 1, l, h => by
    by_cases hm : n ∈ l
    · have h1 : Stt n (l.erase n) := ⟨h.1.erase n, fun x hx => by
        have := (h.1.mem_erase_iff).1 hx
        have := h.2 x this.2
        omega⟩
      have := h1.len
      rw [List.length_erase_of_mem hm] at this
      omega
    · have h1 : Stt n l := ⟨h.1, fun x hx => by
        have := h.2 x hx
        by_cases e : x = n
        · subst e; exact absurd hx hm
        · omega⟩
      have := h1.len
      omega
theorem addN_stt {n : Nat} {l : List Nat} (h : Stt n l) {x : Nat} (hx : x < n) : Stt n (addN l x) := by
  unfold addN
  split
  · exact h
  · rename_i hm
    refine ⟨List.nodup_append.2 ⟨h.1, by simp, ?_⟩, fun y hy => ?_⟩
    · intro a ha b hb; simp at hb; subst hb; intro e; subst e; exact hm ha
    · rw [List.mem_append] at hy
      rcases hy with hy | hy
      · exact h.2 y hy
      · simp at hy; omega
theorem addR_stt {i st n : Nat} {nx ot : List (List Int)} (hm : Mok i st n nx ot) {l : List Nat} (h : Stt n l) {s : Nat} (hs : s < n) : ∀ a, a ≤ i → Stt n (addR nx s l a)
  | 0, _ => h
  | a + 1, ha => addN_stt (addR_stt hm h hs a (by omega)) (hm.nN_lt hs (by omega))
theorem mem_addN (l : List Nat) (x : Nat) : x ∈ addN l x := by
  unfold addN; split
  · assumption
  · simp
theorem addN_mem {l : List Nat} {x y : Nat} (h : y ∈ l) : y ∈ addN l x := by obtain ⟨t, ht⟩ := addN_pre l x; rw [ht]; simp [h]
theorem getD_mem {l : List Nat} {j : Nat} (h : j < l.length) : l.getD j 0 ∈ l := by
  rw [List.getD_eq_getElem?_getD, List.getElem?_eq_getElem h]; exact List.getElem_mem _
theorem getD_pre {l t : List Nat} {j : Nat} (h : j < l.length) : (l ++ t).getD j 0 = l.getD j 0 := by
  rw [List.getD_eq_getElem?_getD, List.getD_eq_getElem?_getD, List.getElem?_append_left h]

/-- More rounds than states turn nothing. -/
theorem bfs_fuel {i st n : Nat} {nx ot : List (List Int)} (hm : Mok i st n nx ot) : ∀ (k : Nat) (l : List Nat) (j : Nat), Stt n l → n ≤ k + j → bfs nx i (k + 1) l j = bfs nx i k l j
  | 0, l, j, h, hk => by
    have := h.len
    unfold bfs
    rw [if_neg (by omega)]
  | k + 1, l, j, h, hk => by
    by_cases hj : j < l.length
    · show (if j < l.length then bfs nx i (k + 1) (addR nx (l.getD j 0) l i) (j + 1) else l) = (if j < l.length then bfs nx i k (addR nx (l.getD j 0) l i) (j + 1) else l)
      rw [if_pos hj, if_pos hj]
      exact bfs_fuel hm k _ _ (addR_stt hm h (h.2 _ (getD_mem hj)) i (Nat.le_refl _)) (by omega)
    · show (if j < l.length then bfs nx i (k + 1) (addR nx (l.getD j 0) l i) (j + 1) else l) = (if j < l.length then bfs nx i k (addR nx (l.getD j 0) l i) (j + 1) else l)
      rw [if_neg hj, if_neg hj]
theorem bfs_on {i st n : Nat} {nx ot : List (List Int)} (hm : Mok i st n nx ot) {l : List Nat} {j : Nat} (h : Stt n l) (hj : j < l.length) :
    bfs nx i n (addR nx (l.getD j 0) l i) (j + 1) = bfs nx i n l j := by
  have hn := hm.n1
  have hx := addR_stt hm h (h.2 _ (getD_mem hj)) i (Nat.le_refl _)
  obtain ⟨k, rfl⟩ : ∃ k, n = k + 1 := ⟨n - 1, by omega⟩
  rw [bfs_fuel hm k _ (j + 1) hx (by omega)]
  show _ = (if j < l.length then bfs nx i k (addR nx (l.getD j 0) l i) (j + 1) else l)
  rw [if_pos hj]
theorem bfs_end (nx : List (List Int)) (i : Nat) (k : Nat) {l : List Nat} {j : Nat} (hj : ¬ j < l.length) : bfs nx i k l j = l := by
  cases k with
  | zero => rfl
  | succ k => unfold bfs; rw [if_neg hj]
end Go.Proofs.Ytogcecfeofbbnaa
end

section
/- Lists of lists, and the reference's Join. -/
namespace Go.Proofs.Ytogcecfeofbbnaa
open Go.RowKit

/-- The slice '.slice A n _' holds the lists xss. -/
def Lists (w : World) (A : Option Addr) (n : Nat) (xss : List (List Int)) : Prop :=
  xss.length = n ∧ n ≤ 17592186044416 ∧ (0 < n → ∃ b off, A = some ⟨b, off, none⟩ ∧ b < w.heap.size ∧
    ∀ j, j < n → ∃ Aj nj cj, w.cell? ⟨b, off + j, none⟩ = some (.slice Aj nj cj) ∧ Ints w Aj nj (xss.getD j []))

theorem Lists.below {w w' : World} {A : Option Addr} {n : Nat} {xss : List (List Int)} (h : Lists w A n xss) (hb : Below w.heap.size w w') : Lists w' A n xss :=
  ⟨h.1, h.2.1, fun hn => by
    obtain ⟨b, off, e, hlt, hc⟩ := h.2.2 hn
    refine ⟨b, off, e, Nat.lt_of_lt_of_le hlt hb.size, fun j hj => ?_⟩
    obtain ⟨Aj, nj, cj, h1, h2⟩ := hc j hj
    exact ⟨Aj, nj, cj, (hb.cell hlt).trans h1, h2.below hb⟩⟩

theorem Lists.at_ {w : World} {A : Option Addr} {n : Nat} {xss : List (List Int)} (h : Lists w A n xss) {k : Nat} (hk : k < n) :
    ∃ b off Aj nj cj, A = some ⟨b, off, none⟩ ∧ b < w.heap.size ∧ w.cell? ⟨b, off + k, none⟩ = some (.slice Aj nj cj) ∧ Ints w Aj nj (xss.getD k []) := by
  obtain ⟨b, off, e, hlt, hc⟩ := h.2.2 (by omega)
  obtain ⟨Aj, nj, cj, h1, h2⟩ := hc k hk
  exact ⟨b, off, Aj, nj, cj, e, hlt, h1, h2⟩

/-- The first j lists, one after the other. -/
def cat (xss : List (List Int)) (j : Nat) : List Int := (xss.take j).flatten

theorem cat_zero (xss : List (List Int)) : cat xss 0 = [] := by simp [cat]
theorem cat_succ {xss : List (List Int)} {j : Nat} (h : j < xss.length) : cat xss (j + 1) = cat xss j ++ xss.getD j [] := by
  unfold cat
  rw [List.take_succ_eq_append_getElem h, List.flatten_append]
  simp [List.getD, h]
theorem cat_all (xss : List (List Int)) : cat xss xss.length = xss.flatten := by simp [cat]
theorem cat_len (xss : List (List Int)) (j : Nat) : (cat xss j).length ≤ xss.flatten.length := by
  have h : xss.flatten = cat xss j ++ (xss.drop j).flatten := by unfold cat; rw [← List.flatten_append, List.take_append_drop]
  rw [h, List.length_append]; omega


end Go.Proofs.Ytogcecfeofbbnaa
end

section
/- Lists that agree; readers that draw more. -/
namespace Go.Proofs.Ytogcecfeofbbnaa
open Go.RowKit

/-- Two lists agree on the first j. -/
def AgreeL {α : Type} (d : α) (xs ys : List α) (j : Nat) : Prop := ∀ m, m < j → xs.getD m d = ys.getD m d
theorem AgreeL.zero {α : Type} (d : α) (xs ys : List α) : AgreeL d xs ys 0 := fun m h => absurd h (by omega)
theorem AgreeL.succ {α : Type} {d : α} {xs ys : List α} {j : Nat} (h : AgreeL d xs ys j) (e : xs.getD j d = ys.getD j d) : AgreeL d xs ys (j + 1) := fun m hm => by
  by_cases e2 : m = j
  · subst e2; exact e
  · exact h m (by omega)
theorem AgreeL.all {α : Type} {d : α} {xs ys : List α} {n : Nat} (h : AgreeL d xs ys n) (h1 : xs.length = n) (h2 : ys.length = n) : xs = ys := by
  apply List.ext_getElem (by omega)
  intro m a b
  have := h m (by omega)
  rw [List.getD_eq_getElem?_getD, List.getD_eq_getElem?_getD, List.getElem?_eq_getElem a, List.getElem?_eq_getElem b] at this
  exact this

theorem drew_more {w wr : World} (h : ∃ q, wr = w.drewN q) (n : Nat) : ∃ q, wr.drewN n = w.drewN q := by
  obtain ⟨q, rfl⟩ := h
  exact ⟨_, World.drewN_drewN _ _ _⟩
theorem ret_bool {a b : Bool} (h : a = b) : Ending.returned (.bool a) = .returned (.bool b) := by rw [h]
end Go.Proofs.Ytogcecfeofbbnaa
end

section
/- A machine in memory: isState, and the error of a row, by the two texts. -/
namespace Go.Proofs.Ytogcecfeofbbnaa
open Go.RowKit

theorem box_cells {w wr : World} {cs : Array Value} {t : TypeId} (hb : Below (w.heap.size + 1) (w.alloc (.cells cs t)) wr) (k : Nat) : wr.cell? ⟨w.heap.size, k, none⟩ = cs[k]? := by
  rw [hb.cell (by simp)]
  exact cell_of_row (w.alloc (.cells cs t)) w.heap.size k cs t (0, 0) (heap_alloc_new w _)
theorem box4 {w wr : World} {a b c d : Value} {t : TypeId} (hb : Below (w.heap.size + 1) (w.alloc (.cells #[a, b, c, d] t)) wr) :
    wr.cell? ⟨w.heap.size, 0, none⟩ = some a ∧ wr.cell? ⟨w.heap.size, 1, none⟩ = some b ∧ wr.cell? ⟨w.heap.size, 2, none⟩ = some c ∧ wr.cell? ⟨w.heap.size, 3, none⟩ = some d :=
  ⟨box_cells hb 0, box_cells hb 1, box_cells hb 2, box_cells hb 3⟩

theorem pisst (i st : Int) (A B : Option Addr) (n c m d : Nat) (s : Int) (b : Bool) (w : World) (_ : n ≤ 17592186044416) (hb : b = decide (0 ≤ s ∧ s < n)) :
    Calls Try.prog 61 #[.agg #[.int .i64 i, .int .i64 st, .slice A n c, .slice B m d], .int .i64 s] w fun e w' => e = .returned (.bool b) ∧ Below w.heap.size w w' := by
  by_cases h1 : 0 ≤ s
  · by_cases h2 : s < n
    · have hf := Lib.hid (hb.trans (decide_eq_true ⟨h1, h2⟩))
      have d2 : decide (s < (n : Int)) = true := decide_eq_true h2
      clear hb
      go_enter Try.func61, Try.ntmps61
      go_wp2
      go_ret
      exact ⟨ret_bool hf.out.symm, alloc_below _ _⟩
    · have hf := Lib.hid (hb.trans (decide_eq_false (fun H => h2 H.2)))
      have d2 : decide (s < (n : Int)) = false := decide_eq_false h2
      clear hb
      go_enter Try.func61, Try.ntmps61
      go_wp2
      go_ret
      exact ⟨ret_bool hf.out.symm, alloc_below _ _⟩
  · have hf := Lib.hid (hb.trans (decide_eq_false (fun H => h1 H.1)))
    have d2 : decide ((0 : Int) ≤ s) = false := decide_eq_false h1
    clear hb
    go_enter Try.func61, Try.ntmps61
    go_wp2
    go_ret
    exact ⟨ret_bool hf.out.symm, alloc_below _ _⟩

set_option maxHeartbeats 2000000 in
set_option maxRecDepth 100000 in
theorem pvstate (i st : Int) (A B : Option Addr) (n c m d : Nat) (nx ot : List (List Int)) (s : Nat) (w : World) (hx : Lists w A n nx) (ho : Lists w B m ot) (hs1 : s < n) (hs2 : s < m) :
    Calls Try.prog 86 #[.agg #[.int .i64 i, .int .i64 st, .slice A n c, .slice B m d], .int .i64 s] w fun e w' => e = .returned (.int .i64 (rowE i n (nx.getD s []) (ot.getD s []))) ∧ Below w.heap.size w w' := by
  have hn := hx.2.1
  have hm := ho.2.1
  obtain ⟨g1, o1, A1, n1, c1, rfl, hg1, hc1, hr1⟩ := hx.at_ hs1
  obtain ⟨g2, o2, A2, n2, c2, rfl, hg2, hc2, hr2⟩ := ho.at_ hs2
  have hb0 := alloc_below w (.cells #[.int .i64 i, .int .i64 st, .slice (some ⟨g1, o1, none⟩) n c, .slice (some ⟨g2, o2, none⟩) m d] 24)
  have hn1 := hr1.2.1
  have hn2 := hr2.2.1
  have L1 := Lib.hid hr1.1
  have L2 := Lib.hid hr2.1
  generalize nx.getD s [] = r at hr1 L1
  generalize ot.getD s [] = o at hr2 L2
  by_cases e1 : (n1 : Int) = i
  · by_cases e2 : (n2 : Int) = i
    · obtain rfl : n1 = n2 := by omega
      subst e1
      clear e2
      have D1 : ((n1 : Int) != (n1 : Int)) = false := by simp
      go_enter Try.func86, Try.ntmps86
      go_wp2
      go_quiet (fail)
      go_wp2
      clear D1
      go_loopw [34] (fun i wr => ∃ j : Nat, j ≤ n1 ∧ i = .int .i64 j ∧ RowOk n r o j ∧ Below (w.heap.size + 1) (w.alloc (.cells #[.int .i64 n1, .int .i64 st, .slice (some ⟨g1, o1, none⟩) n c, .slice (some ⟨g2, o2, none⟩) m d] 24)) wr) (fun i _ => n1 - (intOf i).toNat)
      case atStart => exact ⟨0, Nat.zero_le _, rfl, RowOk.zero _ _ _, below_drewN (Below.refl _ _) _⟩
      case round =>
        obtain ⟨j, hj, rfl, hok, hbr⟩ := hrel
        have hbw := hb0.trans (hbr.mono (Nat.le_succ _))
        have hsz1 : w.heap.size + 1 ≤ wr.heap.size := by have := hbr.size; simpa using this
        have HK := Lib.hid hok
        clear hok
        by_cases hlt : j < n1
        · obtain ⟨b1, p1, rfl, _, hy1⟩ := (hr1.below hbw).at_ hlt
          obtain ⟨b2, p2, rfl, _, hy2⟩ := (hr2.below hbw).at_ hlt
          have hd1 := (hbw.cell (p := ⟨g1, o1 + s, none⟩) hg1).trans hc1
          have hd2 := (hbw.cell (p := ⟨g2, o2 + s, none⟩) hg2).trans hc2
          obtain ⟨k0, k1, k2, k3⟩ := box4 hbr
          have hsuc := fun h1 h2 h3 h4 => HK.out.succ (k := j) h1 h2 h3 h4
          have hbad := fun h => rowE_bad (i := n1) (n := n) (r := r) (o := o) (k := j) ⟨by rw [L1.out], by rw [L2.out]⟩ (by rw [L1.out]; exact hlt) h
          have HS := Lib.hid hsuc
          have HB := Lib.hid hbad
          clear hsuc hbad
          generalize r.getD j 0 = x at hy1 HS HB
          generalize o.getD j 0 = y at hy2 HS HB
          by_cases hx0 : 0 ≤ x ∧ x < n
          · have hdx : (true : Bool) = decide (0 ≤ x ∧ x < n) := (decide_eq_true hx0).symm
            by_cases hy0 : 0 ≤ y
            · by_cases hy3 : y ≤ 1048576
              · have hnx := Lib.hid (HS.out hx0.1 hx0.2 hy0 hy3)
                have hy4 : ¬ y < 0 := by omega
                have hy5 : ¬ 1048576 < y := by omega
                have HD := Lib.hid hdx
                clear hx0 hdx
                go_wp2_with fail
                refine (pisst _ _ _ _ _ _ _ _ _ _ _ hn HD.out).mono ?_
                rintro e w1 ⟨rfl, b1⟩
                go_wp2
                go_roundw
                case rel => exact ⟨j + 1, by omega, by go_num, hnx.out, hbr.trans (b1.mono hsz1)⟩
                case measure => simp [intOf]; omega
              · have hfin := Lib.hid (HB.out (fun H => hy3 H.2.2.2))
                have hy4 : ¬ y < 0 := by omega
                have hy5 : 1048576 < y := by omega
                have HD := Lib.hid hdx
                clear hx0 hdx
                go_wp2_with fail
                refine (pisst _ _ _ _ _ _ _ _ _ _ _ hn HD.out).mono ?_
                rintro e w1 ⟨rfl, b1⟩
                go_wp2
                go_ret
                exact ⟨ret_int hfin.out.symm, bt hbw b1⟩
            · have hfin := Lib.hid (HB.out (fun H => hy0 H.2.2.1))
              have hy4 : y < 0 := by omega
              have HD := Lib.hid hdx
              clear hx0 hdx
              go_wp2_with fail
              refine (pisst _ _ _ _ _ _ _ _ _ _ _ hn HD.out).mono ?_
              rintro e w1 ⟨rfl, b1⟩
              go_wp2
              go_ret
              exact ⟨ret_int hfin.out.symm, bt hbw b1⟩
          · have hfin := Lib.hid (HB.out (fun H => hx0 ⟨H.1, H.2.1⟩))
            have HD := Lib.hid (show (false : Bool) = decide (0 ≤ x ∧ x < n) from (decide_eq_false hx0).symm)
            clear hx0
            go_wp2_with fail
            refine (pisst _ _ _ _ _ _ _ _ _ _ _ hn HD.out).mono ?_
            rintro e w1 ⟨rfl, b1⟩
            go_wp2
            go_ret
            exact ⟨ret_int hfin.out.symm, bt hbw b1⟩
        · obtain rfl : j = n1 := by omega
          have hfin := Lib.hid (rowE_ok (i := j) (n := n) (r := r) (o := o) ⟨by rw [L1.out], by rw [L2.out]⟩ (by rw [L1.out]; exact HK.out))
          go_wp2
          go_ret
          exact ⟨ret_int hfin.out.symm, hbw⟩
    · have hfin := Lib.hid (rowE_len (i := i) (n := n) (r := r) (o := o) (fun H => e2 (by rw [← L2.out]; exact H.2)))
      have D1 : ((n1 : Int) != i) = false := by simp [e1]
      have D2 : ((n2 : Int) != i) = true := by simp [e2]
      clear e1 e2
      go_enter Try.func86, Try.ntmps86
      go_wp2
      go_quiet (fail)
      go_wp2
      go_ret
      exact ⟨ret_int hfin.out.symm, below_drewN hb0 _⟩
  · have hfin := Lib.hid (rowE_len (i := i) (n := n) (r := r) (o := o) (fun H => e1 (by rw [← L1.out]; exact H.1)))
    have D1 : ((n1 : Int) != i) = true := by simp [e1]
    clear e1
    go_enter Try.func86, Try.ntmps86
    go_wp2
    go_quiet (fail)
    go_wp2
    go_ret
    exact ⟨ret_int hfin.out.symm, below_drewN hb0 _⟩
end Go.Proofs.Ytogcecfeofbbnaa
end

section
/- Valid of a machine, and the reference's row, by the two texts. -/
namespace Go.Proofs.Ytogcecfeofbbnaa
open Go.RowKit

set_option maxHeartbeats 2000000 in
set_option maxRecDepth 100000 in
theorem rrow (i st : Int) (A B : Option Addr) (n c m d : Nat) (nx ot : List (List Int)) (s : Nat) (w : World) (hx : Lists w A n nx) (ho : Lists w B m ot) (hs1 : s < n) (hs2 : s < m) :
    Calls Try.prog 64 #[.agg #[.int .i64 i, .int .i64 st, .slice A n c, .slice B m d], .int .i64 s] w fun e w' => e = .returned (.int .i64 (rowE i n (nx.getD s []) (ot.getD s []))) ∧ Below w.heap.size w w' := by
  have hn := hx.2.1
  have hm := ho.2.1
  obtain ⟨g1, o1, A1, n1, c1, rfl, hg1, hc1, hr1⟩ := hx.at_ hs1
  obtain ⟨g2, o2, A2, n2, c2, rfl, hg2, hc2, hr2⟩ := ho.at_ hs2
  have hb0 := alloc_below w (.cells #[.int .i64 i, .int .i64 st, .slice (some ⟨g1, o1, none⟩) n c, .slice (some ⟨g2, o2, none⟩) m d] 24)
  have hn1 := hr1.2.1
  have hn2 := hr2.2.1
  have L1 := Lib.hid hr1.1
  have L2 := Lib.hid hr2.1
  generalize nx.getD s [] = r at hr1 L1
  generalize ot.getD s [] = o at hr2 L2
  by_cases e1 : (n1 : Int) = i
  · by_cases e2 : (n2 : Int) = i
    · obtain rfl : n1 = n2 := by omega
      subst e1
      clear e2
      have D1 : ((n1 : Int) != (n1 : Int)) = false := by simp
      go_enter Try.func64, Try.ntmps64
      go_wp2
      go_quiet (fail)
      go_wp2
      clear D1
      go_loopw [5] (fun i wr => ∃ j : Nat, j ≤ n1 ∧ i = .int .i64 j ∧ RowOk n r o j ∧ Below (w.heap.size + 1) (w.alloc (.cells #[.int .i64 n1, .int .i64 st, .slice (some ⟨g1, o1, none⟩) n c, .slice (some ⟨g2, o2, none⟩) m d] 24)) wr) (fun i _ => n1 - (intOf i).toNat)
      case atStart => exact ⟨0, Nat.zero_le _, rfl, RowOk.zero _ _ _, below_drewN (Below.refl _ _) _⟩
      case round =>
        obtain ⟨j, hj, rfl, hok, hbr⟩ := hrel
        have hbw := hb0.trans (hbr.mono (Nat.le_succ _))
        have hsz1 : w.heap.size + 1 ≤ wr.heap.size := by have := hbr.size; simpa using this
        have HK := Lib.hid hok
        clear hok
        obtain ⟨k0, k1, k2, k3⟩ := box4 hbr
        by_cases hlt : j < n1
        · obtain ⟨b1, p1, rfl, _, hy1⟩ := (hr1.below hbw).at_ hlt
          obtain ⟨b2, p2, rfl, _, hy2⟩ := (hr2.below hbw).at_ hlt
          have hd1 := (hbw.cell (p := ⟨g1, o1 + s, none⟩) hg1).trans hc1
          have hd2 := (hbw.cell (p := ⟨g2, o2 + s, none⟩) hg2).trans hc2
          have HS := Lib.hid (fun h1 h2 h3 h4 => HK.out.succ (k := j) h1 h2 h3 h4)
          have HB := Lib.hid (fun h => rowE_bad (i := n1) (n := n) (r := r) (o := o) (k := j) ⟨by rw [L1.out], by rw [L2.out]⟩ (by rw [L1.out]; exact hlt) h)
          generalize r.getD j 0 = x at hy1 HS HB
          generalize o.getD j 0 = y at hy2 HS HB
          by_cases hx1 : 0 ≤ x
          · have t1 : decide (x < 0) = false := by simpa using hx1
            by_cases hx2 : x < n
            · have t2 : decide ((n : Int) ≤ x) = false := by simpa using hx2
              by_cases hy0 : 0 ≤ y
              · have t3 : decide (y < 0) = false := by simpa using hy0
                by_cases hy3 : y ≤ 1048576
                · have t4 : decide (1048576 < y) = false := by simpa using hy3
                  have hnx := Lib.hid (HS.out hx1 hx2 hy0 hy3)
                  go_wp2
                  go_quiet (fail)
                  go_wp2
                  go_roundw
                  case rel => exact ⟨j + 1, by omega, by go_num, hnx.out, below_drewN hbr _⟩
                  case measure => simp [intOf]; omega
                · have t4 : decide (1048576 < y) = true := by simpa using hy3
                  have hfin := Lib.hid (HB.out (fun H => hy3 H.2.2.2))
                  go_wp2
                  go_quiet (fail)
                  go_wp2
                  go_ret
                  exact ⟨ret_int hfin.out.symm, below_drewN hbw _⟩
              · have t3 : decide (y < 0) = true := by simpa using hy0
                have hfin := Lib.hid (HB.out (fun H => hy0 H.2.2.1))
                go_wp2
                go_quiet (fail)
                go_wp2
                go_ret
                exact ⟨ret_int hfin.out.symm, below_drewN hbw _⟩
            · have t2 : decide ((n : Int) ≤ x) = true := by simpa using hx2
              have hfin := Lib.hid (HB.out (fun H => hx2 H.2.1))
              go_wp2
              go_quiet (fail)
              go_wp2
              go_ret
              exact ⟨ret_int hfin.out.symm, below_drewN hbw _⟩
          · have t1 : decide (x < 0) = true := by simpa using hx1
            have hfin := Lib.hid (HB.out (fun H => hx1 H.1))
            go_wp2
            go_quiet (fail)
            go_wp2
            go_ret
            exact ⟨ret_int hfin.out.symm, below_drewN hbw _⟩
        · obtain rfl : j = n1 := by omega
          have hfin := Lib.hid (rowE_ok (i := j) (n := n) (r := r) (o := o) ⟨by rw [L1.out], by rw [L2.out]⟩ (by rw [L1.out]; exact HK.out))
          go_wp2
          go_ret
          exact ⟨ret_int hfin.out.symm, hbw⟩
    · have hfin := Lib.hid (rowE_len (i := i) (n := n) (r := r) (o := o) (fun H => e2 (by rw [← L2.out]; exact H.2)))
      have D1 : ((n1 : Int) != i) = false := by simp [e1]
      have D2 : ((n2 : Int) != i) = true := by simp [e2]
      clear e1 e2
      go_enter Try.func64, Try.ntmps64
      go_wp2
      go_quiet (fail)
      go_wp2
      go_ret
      exact ⟨ret_int hfin.out.symm, below_drewN hb0 _⟩
  · have hfin := Lib.hid (rowE_len (i := i) (n := n) (r := r) (o := o) (fun H => e1 (by rw [← L1.out]; exact H.1)))
    have D1 : ((n1 : Int) != i) = true := by simp [e1]
    clear e1
    go_enter Try.func64, Try.ntmps64
    go_wp2
    go_quiet (fail)
    go_wp2
    go_ret
    exact ⟨ret_int hfin.out.symm, below_drewN hb0 _⟩

set_option maxHeartbeats 2000000 in
set_option maxRecDepth 100000 in
theorem pvalid (i st : Int) (A B : Option Addr) (n c m d : Nat) (nx ot : List (List Int)) (w : World) (hx : Lists w A n nx) (ho : Lists w B m ot) :
    Calls Try.prog 47 #[.agg #[.int .i64 i, .int .i64 st, .slice A n c, .slice B m d]] w fun e w' => e = .returned (.int .i64 (vld i st nx ot)) ∧ Below w.heap.size w w' := by
  have L1 := Lib.hid hx.1
  have L2 := Lib.hid ho.1
  have hn := hx.2.1
  have hm := ho.2.1
  have hb0 := alloc_below w (.cells #[.int .i64 i, .int .i64 st, .slice A n c, .slice B m d] 24)
  have hsz0 : (w.alloc (.cells #[.int .i64 i, .int .i64 st, .slice A n c, .slice B m d] 24)).heap.size = w.heap.size + 1 := by simp
  have HZ := Lib.hid hsz0
  clear hsz0
  by_cases hi : 1 ≤ i ∧ i ≤ 64
  · have HI := Lib.hid hi
    obtain ⟨hi1, hi2⟩ := hi
    have i1 : decide (i < 1) = false := by simpa using hi1
    have i2 : decide (64 < i) = false := by simpa using hi2
    by_cases h0 : n = 0
    · have hfin := Lib.hid (vld_empty (st := st) (ot := ot) HI.out (by rw [L1.out]; exact h0))
      subst h0
      go_enter Try.func47, Try.ntmps47
      go_wp2
      go_ret
      exact ⟨ret_int hfin.out.symm, hb0⟩
    · have z0 : ((n : Int) == 0) = false := by simp; omega
      by_cases h1 : 128 < n
      · have hfin := Lib.hid (vld_many (st := st) (ot := ot) HI.out (by rw [L1.out]; exact h1))
        clear h0
        go_enter Try.func47, Try.ntmps47
        go_wp2
        go_ret
        exact ⟨ret_int hfin.out.symm, hb0⟩
      · have z1 : decide ((128 : Int) < (n : Int)) = false := by simp; omega
        by_cases h2 : 0 ≤ st ∧ st < n
        · have H2 := Lib.hid h2
          have HT := Lib.hid ((decide_eq_true h2).symm)
          by_cases h3 : m = n
          · subst h3
            have z3 : ((m : Int) != (m : Int)) = false := by simp
            have hrows := Lib.hid (vld_rows (i := i) (st := st) (nx := nx) (ot := ot) HI.out (by rw [L1.out]; exact h0) (by rw [L1.out]; exact h1) (by rw [L1.out]; exact H2.out) (by rw [L1.out, L2.out]))
            clear h0 h2
            go_enter Try.func47, Try.ntmps47
            go_wp2_with fail
            refine (pisst _ _ _ _ _ _ _ _ _ _ _ hn HT.out).mono ?_
            rintro e w1 ⟨rfl, b1⟩
            rw [HZ.out] at b1
            obtain ⟨k0, k1, k2, k3⟩ := box4 b1
            go_wp2
            clear k0 k1 k2 k3
            go_loopw [36] (fun x wr => ∃ j : Nat, j ≤ m ∧ x = .int .i64 j ∧ (∀ t, t < j → rowAt i nx ot t = 0) ∧ Below (w.heap.size + 1) (w.alloc (.cells #[.int .i64 i, .int .i64 st, .slice A m c, .slice B m d] 24)) wr) (fun x _ => m - (intOf x).toNat)
            case atStart => exact ⟨0, Nat.zero_le _, rfl, fun t h => absurd h (by omega), b1⟩
            case round =>
              obtain ⟨j, hj, rfl, hok, hbr⟩ := hrel
              have hbw := hb0.trans (hbr.mono (Nat.le_succ _))
              have hsz1 : w.heap.size + 1 ≤ wr.heap.size := by have := hbr.size; simpa using this
              have HK := Lib.hid hok
              clear hok
              obtain ⟨k0, k1, k2, k3⟩ := box4 hbr
              by_cases hlt : j < m
              · have HV := Lib.hid (show rowAt i nx ot j = rowE i m (nx.getD j []) (ot.getD j []) by unfold rowAt; rw [L1.out])
                by_cases he : rowE i m (nx.getD j []) (ot.getD j []) = 0
                · have hnx := Lib.hid (show ∀ t, t < j + 1 → rowAt i nx ot t = 0 from fun t ht => by
                    by_cases e : t = j
                    · subst e; rw [HV.out]; exact he
                    · exact HK.out t (by omega))
                  have HE := Lib.hid he
                  clear he
                  go_wp2_with fail
                  refine (pvstate _ _ _ _ _ _ _ _ _ _ _ _ (hx.below hbw) (ho.below hbw) hlt hlt).mono ?_
                  rintro e w2 ⟨rfl, b2⟩
                  have b3 := hbr.trans (b2.mono hsz1)
                  rw [HE.out]
                  obtain ⟨k0, k1, k2, k3⟩ := box4 b3
                  go_wp2
                  go_roundw
                  case rel => exact ⟨j + 1, by omega, by go_num, hnx.out, b3⟩
                  case measure => simp [intOf]; omega
                · have hfin := Lib.hid (hrows.out.trans (fstE_bad HK.out (by rw [HV.out]; exact he) (by rw [L1.out]; exact hlt)))
                  have he2 : (rowE i m (nx.getD j []) (ot.getD j []) != 0) = true := by simpa using he
                  go_wp2_with fail
                  refine (pvstate _ _ _ _ _ _ _ _ _ _ _ _ (hx.below hbw) (ho.below hbw) hlt hlt).mono ?_
                  rintro e w2 ⟨rfl, b2⟩
                  have b3 := hbr.trans (b2.mono hsz1)
                  have HF := Lib.hid (hfin.out.trans HV.out)
                  clear hfin HV
                  generalize rowE i m (nx.getD j []) (ot.getD j []) = E at he2 he HF
                  clear he
                  go_wp2
                  go_ret
                  exact ⟨ret_int HF.out.symm, hb0.trans (b3.mono (Nat.le_succ _))⟩
              · obtain rfl : j = m := by omega
                have hfin := Lib.hid (hrows.out.trans (fstE_ok (by rw [L1.out]; exact HK.out)))
                go_wp2
                go_ret
                exact ⟨ret_int hfin.out.symm, hbw⟩
          · have z3 : ((m : Int) != (n : Int)) = true := by simp; omega
            have hfin := Lib.hid (vld_out (i := i) (st := st) (nx := nx) (ot := ot) HI.out (by rw [L1.out]; exact h0) (by rw [L1.out]; exact h1) (by rw [L1.out]; exact H2.out) (by rw [L1.out, L2.out]; exact h3))
            clear h0 h3
            go_enter Try.func47, Try.ntmps47
            go_wp2_with fail
            refine (pisst _ _ _ _ _ _ _ _ _ _ _ hn HT.out).mono ?_
            rintro e w1 ⟨rfl, b1⟩
            rw [HZ.out] at b1
            obtain ⟨k0, k1, k2, k3⟩ := box4 b1
            go_wp2
            go_ret
            exact ⟨ret_int hfin.out.symm, hb0.trans (b1.mono (Nat.le_succ _))⟩
        · have hfin := Lib.hid (vld_start (i := i) (st := st) (nx := nx) (ot := ot) HI.out (by rw [L1.out]; exact h0) (by rw [L1.out]; exact h1) (by rw [L1.out]; exact h2))
          have HT := Lib.hid ((decide_eq_false h2).symm)
          clear h0 h2
          go_enter Try.func47, Try.ntmps47
          go_wp2_with fail
          refine (pisst _ _ _ _ _ _ _ _ _ _ _ hn HT.out).mono ?_
          rintro e w1 ⟨rfl, b1⟩
          go_wp2
          go_ret
          exact ⟨ret_int hfin.out.symm, bt hb0 b1⟩
  · have hfin := Lib.hid (vld_in (st := st) (nx := nx) (ot := ot) hi)
    by_cases hi1 : 1 ≤ i
    · have hi2 : 64 < i := by omega
      have t1 : ¬ i < 1 := by omega
      clear hi
      go_enter Try.func47, Try.ntmps47
      go_wp2
      go_ret
      exact ⟨ret_int hfin.out.symm, hb0⟩
    · have t1 : i < 1 := by omega
      clear hi hi1
      go_enter Try.func47, Try.ntmps47
      go_wp2
      go_ret
      exact ⟨ret_int hfin.out.symm, hb0⟩
end Go.Proofs.Ytogcecfeofbbnaa
end

section
/- append of one number to a row of one's own. -/
namespace Go.Proofs.Ytogcecfeofbbnaa
open Go.RowKit

theorem Ints.one (w : World) (x : Int) : Ints (w.alloc (.cells #[.int .i64 x] 3)) (some ⟨w.heap.size, 0, none⟩) 1 [x] := Ints.new w [x] _ 1 rfl rfl (by simp)
/-- append of one number to a row of one's own; the runner's block is another. -/
theorem run_append_one {w : World} {base : Nat} {v : Value} {xs : List Int} (h : Owned w base v xs) (x : Int) (hbase : base ≤ w.heap.size) (hl : xs.length < 17592186044416) :
    ∃ A c w', (Builtin.append_ #[27, 27] 27 #[v, .slice (some ⟨w.heap.size, 0, none⟩) 1 1]).run Try.prog (w.alloc (.cells #[.int .i64 x] 3)) = .ok (.slice A (xs.length + 1) c) w' ∧
      Owned w' base (.slice A (xs.length + 1) c) (xs ++ [x]) ∧ Below base w w' ∧ ∀ (g : Nat) (t : TypeId) (cs : Array Value), w.heap[g]? = some (Obj.cells cs t (0, 0)) → t ≠ 3 → w'.heap[g]? = some (Obj.cells cs t (0, 0)) := by
  have hbz := alloc_below w (.cells #[.int .i64 x] 3)
  obtain ⟨v', w', hr, ho', hg, hbel⟩ := run_append_ints _ _ _ _ _ _ _ 1 (h.kept hbz) (Ints.one w x) (Nat.le_trans hbase hbz.size) (by simp; omega)
  obtain ⟨A, c, rfl⟩ := ho'.form
  rw [List.length_append] at hr ho'
  refine ⟨A, c, w', hr, ho', (hbz.mono hbase).trans hbel, fun g t cs hc ht => ?_⟩
  have hlt : g < w.heap.size := by
    rcases Nat.lt_or_ge g w.heap.size with hlt | hge
    · exact hlt
    · rw [Array.getElem?_eq_none hge] at hc; cases hc
  rw [hg.block g (by simp; omega) ?_, hbz.block g hlt]
  · exact hc
  · intro e
    rcases h.2 with ⟨rfl, _⟩ | ⟨g', cap, cur, rfl, _, hh, _⟩
    · cases e
    · have : g = g' := by simpa [Value.ownBlock] using e
      subst this
      rw [hc] at hh
      injection hh with hh
      injection hh with _ h2 _
      exact ht h2
theorem Owned.off {w : World} {base g : Nat} {v : Value} {xs : List Int} {t : TypeId} {cs : Array Value} (h : Owned w base v xs) (hg : w.heap[g]? = some (.cells cs t (0, 0))) (ht : t ≠ 3) (k : Nat) (u : Value) (q : Nat) : Owned ((w.setCell ⟨g, k, none⟩ u).drewN q) base v xs := by
  refine ⟨h.1, ?_⟩
  rcases h.2 with e | ⟨g', cap, cur, hv, hbg, hh, r⟩
  · exact .inl e
  · refine .inr ⟨g', cap, cur, hv, hbg, ?_, r⟩
    show (w.setCell ⟨g, k, none⟩ u).heap[g']? = _
    rw [heap_setCell_other _ _ _ _ ?_]
    · exact hh
    · show g' ≠ g
      intro e
      subst e
      rw [hg] at hh
      injection hh with hh
      injection hh with _ h2 _
      exact ht h2
end Go.Proofs.Ytogcecfeofbbnaa
end

section
/- A runner: step and run. -/
namespace Go.Proofs.Ytogcecfeofbbnaa
open Go.RowKit

/-- The block of a runner. -/
def Rnr (w : World) (g : Nat) (i st : Int) (A : Option Addr) (n c : Nat) (B : Option Addr) (m d : Nat) (s : Nat) : Prop :=
  w.heap[g]? = some (.cells #[.int .i64 i, .int .i64 st, .slice A n c, .slice B m d, .int .i64 s] 85 (0, 0))

theorem Rnr.cells {w : World} {g : Nat} {i st : Int} {A B : Option Addr} {n c m d s : Nat} (h : Rnr w g i st A n c B m d s) :
    w.cell? ⟨g, 2, none⟩ = some (.slice A n c) ∧ w.cell? ⟨g, 3, none⟩ = some (.slice B m d) ∧ w.cell? ⟨g, 4, none⟩ = some (.int .i64 s) ∧ w.frozen? ⟨g, 4, none⟩ = false :=
  ⟨cell_of_row w g 2 _ _ (0, 0) h, cell_of_row w g 3 _ _ (0, 0) h, cell_of_row w g 4 _ _ (0, 0) h, frozen_of_row w g 4 _ _ h⟩

set_option maxHeartbeats 2000000 in
set_option maxRecDepth 100000 in
theorem pstep {W w : World} {g : Nat} {i st n : Nat} {A B : Option Addr} {c d s a : Nat} {nx ot : List (List Int)} (hM : Mok i st n nx ot) (hx : Lists W A n nx) (ho : Lists W B n ot) (hb : Below W.heap.size W w)
    (hR : Rnr w g i st A n c B n d s) (hs : s < n) (ha : a < i) :
    Calls Try.prog 103 #[.pointer (some ⟨g, 0, none⟩), .int .i64 a] w fun e w' => e = .returned (.int .i64 (oN ot s a)) ∧ ∃ q, w' = (w.setCell ⟨g, 4, none⟩ (.int .i64 (nN nx s a))).drewN q := by
  obtain ⟨c2, c3, c4, f4⟩ := hR.cells
  obtain ⟨g1, o1, A1, n1, c1, rfl, hg1, hc1, hr1⟩ := (hx.below hb).at_ hs
  obtain ⟨g2, o2, A2, n2, c2', rfl, hg2, hc2, hr2⟩ := (ho.below hb).at_ hs
  have hi1 := (hM.row s hs).1
  have hi2 := (hM.row s hs).2.1
  have hl1 := hr1.1
  have hl2 := hr2.1
  obtain rfl : n1 = i := by omega
  obtain rfl : n2 = n1 := by omega
  obtain ⟨b1, p1, rfl, _, hy1⟩ := hr1.at_ ha
  obtain ⟨b2, p2, rfl, _, hy2⟩ := hr2.at_ ha
  rw [hM.nN_eq hs ha] at hy1
  change w.cell? _ = some (.int .i64 (oN ot s a)) at hy2
  have hn := hr1.2.1
  have hN := hx.2.1
  clear hl1 hl2 hi1 hi2
  go_enter Try.func103, Try.ntmps103
  go_wp2
  go_quiet (fail)
  go_wp2
  go_region
  all_goals
    go_wp2
    go_ret
    exact ⟨rfl, by first | exact ⟨_, rfl⟩ | exact ⟨_, World.drewN_drewN _ _ _⟩⟩
end Go.Proofs.Ytogcecfeofbbnaa
end
