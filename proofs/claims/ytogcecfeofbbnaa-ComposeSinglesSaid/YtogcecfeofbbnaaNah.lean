/- Lemmas of the proofs of this seat, of the parts Hrow, Litl, Awak14, Gr10, Rgt14, Wf, Nums, Openb, Openm. Conditions: none. -/
import Derived.Test.YtogcecfeofbbnaaNaa
import Derived.Lib.SliceRun
import Derived.Maps.AppendAt
import Derived.Test.YtogcecfeofbbnaaNag
import Derived.Test.YtogcecfeofbbnaaNad
import Derived.WalkKit
import Derived.DataShut
import Derived.Deep.Matrix
import Derived.Lib.SmallJoins
import Derived.ProofKit
import Derived.SizedLaws
section
/- Rows of headers that a call owns, each with what it reads as; append of headers. -/
namespace Go.Proofs.Ytogcecfeofbbnaa
open Go.RowKit

/-- A header and the list that it reads as. -/
abbrev HL := Value × List Int
/-- The slice value v is a row of the headers of ps in a block from base on, which the call may write. -/
def HRow (w : World) (base : Nat) (v : Value) (ps : List HL) : Prop := w.ownsRow base 27 1 v ps.length (ps.map Prod.fst) ∧ ∀ p, p ∈ ps → ∃ A n c, p.1 = .slice A n c
/-- The header p reads as its list, in a block below top. -/
def InAt (w : World) (top : Nat) (p : HL) : Prop := ∃ A n c, p.1 = .slice A n c ∧ Ints w A n p.2 ∧ n ≤ c ∧ ∀ a, A = some a → 0 < n → a.block < top
/-- The slice '.slice A n _' holds the headers of ps. -/
def Hds (w : World) (A : Option Addr) (n : Nat) (ps : List HL) : Prop :=
  ps.length = n ∧ n ≤ 17592186044416 ∧ (0 < n → ∃ b off, A = some ⟨b, off, none⟩ ∧ b < w.heap.size ∧ ∀ j p, ps[j]? = some p → w.cell? ⟨b, off + j, none⟩ = some p.1) ∧ ∀ p, p ∈ ps → ∃ A n c, p.1 = .slice A n c

theorem InAt.below {w w' : World} {top : Nat} {p : HL} (h : InAt w top p) (hb : Below w.heap.size w w') : InAt w' top p := by
  obtain ⟨A, n, c, e, hi, hc, ht⟩ := h
  exact ⟨A, n, c, e, hi.below hb, hc, ht⟩
theorem InAt.mono {w : World} {top top' : Nat} {p : HL} (h : InAt w top p) (hb : top ≤ top') : InAt w top' p := by
  obtain ⟨A, n, c, e, hi, hc, ht⟩ := h
  exact ⟨A, n, c, e, hi, hc, fun a ha hn => Nat.lt_of_lt_of_le (ht a ha hn) hb⟩
/-- What lies below top reads as before where what lies there is as before. -/
theorem InAt.on {w w' : World} {top : Nat} {p : HL} (h : InAt w top p) (hb : Below top w w') : InAt w' top p := by
  obtain ⟨A, n, c, e, hi, hnc, ht⟩ := h
  refine ⟨A, n, c, e, ⟨hi.1, hi.2.1, fun hn => ?_⟩, hnc, ht⟩
  obtain ⟨b, off, rfl, hlt, hc⟩ := hi.2.2 hn
  have hbt : b < top := ht _ rfl hn
  refine ⟨b, off, rfl, ?_, fun j hj => (hb.cell (p := ⟨b, off + j, none⟩) hbt).trans (hc j hj)⟩
  have h0 := (hb.cell (p := ⟨b, off + 0, none⟩) hbt).trans (hc 0 hn)
  exact block_lt h0
theorem Hds.below {w w' : World} {A : Option Addr} {n : Nat} {ps : List HL} (h : Hds w A n ps) (hb : Below w.heap.size w w') : Hds w' A n ps :=
  ⟨h.1, h.2.1, fun hn => by
    obtain ⟨b, off, e, hlt, hc⟩ := h.2.2.1 hn
    exact ⟨b, off, e, Nat.lt_of_lt_of_le hlt hb.size, fun j p hp => (hb.cell hlt).trans (hc j p hp)⟩, h.2.2.2⟩
theorem Hds.at_ {w : World} {A : Option Addr} {n : Nat} {ps : List HL} (h : Hds w A n ps) {k : Nat} (hk : k < n) :
    ∃ b off B m d xs, A = some ⟨b, off, none⟩ ∧ b < w.heap.size ∧ ps[k]? = some (.slice B m d, xs) ∧ w.cell? ⟨b, off + k, none⟩ = some (.slice B m d) := by
  obtain ⟨b, off, e, hlt, hc⟩ := h.2.2.1 (by omega)
  have hl := h.1
  have hp : ps[k]? = some ps[k] := List.getElem?_eq_getElem (by omega)
  obtain ⟨B, m, d, e2⟩ := h.2.2.2 ps[k] (List.getElem_mem _)
  refine ⟨b, off, B, m, d, ps[k].2, e, hlt, ?_, ?_⟩
  · rw [hp, ← e2]
  · rw [hc k _ hp, e2]
/-- The slice '.slice A n _' holds the lists xss, none longer than its capacity. -/
def ListsC (w : World) (A : Option Addr) (n : Nat) (xss : List (List Int)) : Prop :=
  xss.length = n ∧ n ≤ 17592186044416 ∧ (0 < n → ∃ b off, A = some ⟨b, off, none⟩ ∧ b < w.heap.size ∧
    ∀ j, j < n → ∃ Aj nj cj, w.cell? ⟨b, off + j, none⟩ = some (.slice Aj nj cj) ∧ nj ≤ cj ∧ Ints w Aj nj (xss.getD j []))
theorem ListsC.lists {w : World} {A : Option Addr} {n : Nat} {xss : List (List Int)} (h : ListsC w A n xss) : Lists w A n xss :=
  ⟨h.1, h.2.1, fun hn => by
    obtain ⟨b, off, e, hlt, hc⟩ := h.2.2 hn
    refine ⟨b, off, e, hlt, fun j hj => ?_⟩
    obtain ⟨Aj, nj, cj, h1, _, h2⟩ := hc j hj
    exact ⟨Aj, nj, cj, h1, h2⟩⟩
theorem ListsC.below {w w' : World} {A : Option Addr} {n : Nat} {xss : List (List Int)} (h : ListsC w A n xss) (hb : Below w.heap.size w w') : ListsC w' A n xss :=
  ⟨h.1, h.2.1, fun hn => by
    obtain ⟨b, off, e, hlt, hc⟩ := h.2.2 hn
    refine ⟨b, off, e, Nat.lt_of_lt_of_le hlt hb.size, fun j hj => ?_⟩
    obtain ⟨Aj, nj, cj, h1, h0, h2⟩ := hc j hj
    exact ⟨Aj, nj, cj, (hb.cell hlt).trans h1, h0, h2.below hb⟩⟩
theorem ListsC.at_ {w : World} {A : Option Addr} {n : Nat} {xss : List (List Int)} (h : ListsC w A n xss) {k : Nat} (hk : k < n) :
    ∃ b off Aj nj cj, A = some ⟨b, off, none⟩ ∧ b < w.heap.size ∧ w.cell? ⟨b, off + k, none⟩ = some (.slice Aj nj cj) ∧ nj ≤ cj ∧ Ints w Aj nj (xss.getD k []) := by
  obtain ⟨b, off, e, hlt, hc⟩ := h.2.2 (by omega)
  obtain ⟨Aj, nj, cj, h1, h0, h2⟩ := hc k hk
  exact ⟨b, off, Aj, nj, cj, e, hlt, h1, h0, h2⟩
theorem ListsC.len {w : World} {A : Option Addr} {n : Nat} {xss : List (List Int)} (h : ListsC w A n xss) : ∀ x, x ∈ xss → x.length ≤ 17592186044416 := fun x hx => by
  obtain ⟨j, hj, rfl⟩ := List.getElem_of_mem hx
  obtain ⟨_, _, Aj, nj, cj, _, _, _, _, hi⟩ := h.at_ (k := j) (by rw [← h.1]; exact hj)
  have e : xss.getD j [] = xss[j] := by rw [List.getD_eq_getElem?_getD, List.getElem?_eq_getElem hj]; rfl
  rw [e] at hi
  rw [hi.1]; exact hi.2.1
/-- The headers of a list of lists. -/
theorem ListsC.hds {w : World} {A : Option Addr} {n : Nat} {xss : List (List Int)} (h : ListsC w A n xss) : ∃ ps : List HL, ps.map Prod.snd = xss ∧ Hds w A n ps ∧ ∀ p, p ∈ ps → InAt w w.heap.size p := by
  rcases Nat.eq_zero_or_pos n with h0 | h0
  · have hx : xss = [] := List.eq_nil_of_length_eq_zero (by rw [h.1, h0])
    subst hx
    exact ⟨[], rfl, ⟨by simp [h0], h.2.1, fun hn => absurd hn (by omega), fun p hp => absurd hp (by simp)⟩, fun p hp => absurd hp (by simp)⟩
  · obtain ⟨b, off, e, hlt, hc⟩ := h.2.2 h0
    have hex : ∀ j, ∃ p : HL, j < n → p.2 = xss.getD j [] ∧ w.cell? ⟨b, off + j, none⟩ = some p.1 ∧ InAt w w.heap.size p := fun j => by
      by_cases hj : j < n
      · obtain ⟨Aj, nj, cj, h1, h0, h2⟩ := hc j hj
        refine ⟨(.slice Aj nj cj, xss.getD j []), fun _ => ⟨rfl, h1, Aj, nj, cj, rfl, h2, h0, fun a ha hn => ?_⟩⟩
        obtain ⟨b', o', e', hlt', _⟩ := h2.2.2 hn
        rw [ha] at e'
        cases e'
        exact hlt'
      · exact ⟨default, fun h => absurd h hj⟩
    have hex2 := hex
    obtain ⟨f, hf⟩ : ∃ f : Nat → HL, ∀ j, j < n → (f j).2 = xss.getD j [] ∧ w.cell? ⟨b, off + j, none⟩ = some (f j).1 ∧ InAt w w.heap.size (f j) :=
      ⟨fun j => Classical.choose (hex2 j), fun j => Classical.choose_spec (hex2 j)⟩
    have hget : ∀ j p, ((List.range n).map f)[j]? = some p → j < n ∧ p = f j := fun j p hp => by
      rw [List.getElem?_map] at hp
      cases hr : (List.range n)[j]? with
      | none => rw [hr] at hp; simp at hp
      | some q =>
        rw [hr] at hp
        have hq := List.getElem?_eq_some_iff.1 hr
        obtain ⟨hq1, hq2⟩ := hq
        simp at hq1 hq2
        subst hq2
        simp at hp
        exact ⟨hq1, hp.symm⟩
    have hmem : ∀ p, p ∈ (List.range n).map f → ∃ j, j < n ∧ p = f j := fun p hp => by
      obtain ⟨j, hj, rfl⟩ := List.mem_map.1 hp
      exact ⟨j, List.mem_range.1 hj, rfl⟩
    refine ⟨(List.range n).map f, ?_, ⟨by simp, h.2.1, fun _ => ⟨b, off, e, hlt, fun j p hp => ?_⟩, fun p hp => ?_⟩, fun p hp => ?_⟩
    · apply List.ext_getElem
      · simp [h.1]
      · intro j h1 h2
        simp at h1
        have := (hf j h1).1
        simp [this, List.getD, List.getElem?_eq_getElem h2]
    · obtain ⟨hj, rfl⟩ := hget j p hp
      exact (hf j hj).2.1
    · obtain ⟨j, hj, rfl⟩ := hmem p hp
      obtain ⟨A, n, c, e, _⟩ := (hf j hj).2.2
      exact ⟨A, n, c, e⟩
    · obtain ⟨j, hj, rfl⟩ := hmem p hp
      exact (hf j hj).2.2

theorem HRow.nil (w : World) (base : Nat) : HRow w base (.slice none 0 0) [] := ⟨World.ownsRow_nil _ _ _ _, fun p hp => absurd hp (by simp)⟩
theorem HRow.form {w : World} {base : Nat} {v : Value} {ps : List HL} (h : HRow w base v ps) : ∃ A c, v = .slice A ps.length c := by
  rcases h.1.2 with ⟨rfl, h0⟩ | ⟨g, cap, cur, rfl, _⟩
  · exact ⟨none, 0, by rw [h0]⟩
  · exact ⟨_, _, rfl⟩
theorem HRow.lt {w : World} {base : Nat} {v : Value} {ps : List HL} (h : HRow w base v ps) : ∀ k, v.ownBlock = some k → base ≤ k ∧ k < w.heap.size := World.ownsRow.lt h.1
theorem HRow.kept {w w' : World} {base : Nat} {v : Value} {ps : List HL} (h : HRow w base v ps) (hb : Below w.heap.size w w') : HRow w' base v ps := by
  refine ⟨⟨h.1.1, ?_⟩, h.2⟩
  rcases h.1.2 with e | ⟨g, cap, cur, hv, hbg, hg, r⟩
  · exact .inl e
  · exact .inr ⟨g, cap, cur, hv, hbg, (hb.block g (heap_lt hg)).trans hg, r⟩
theorem HRow.lower {w : World} {base base' : Nat} {v : Value} {ps : List HL} (h : HRow w base v ps) (hb : base' ≤ base) : HRow w base' v ps := by
  refine ⟨⟨h.1.1, ?_⟩, h.2⟩
  rcases h.1.2 with e | ⟨g, cap, cur, hv, hbg, r⟩
  · exact .inl e
  · exact .inr ⟨g, cap, cur, hv, by omega, r⟩
theorem HRow.hds {w : World} {base : Nat} {A : Option Addr} {n c : Nat} {ps : List HL} (h : HRow w base (.slice A n c) ps) (hm : ps.length ≤ 17592186044416) : Hds w A n ps := by
  have hn : n = ps.length := by obtain ⟨A', c', e⟩ := h.form; cases e; rfl
  subst hn
  refine ⟨rfl, hm, fun h0 => ?_, h.2⟩
  rcases h.1.2 with ⟨e, h1⟩ | ⟨g, cap, cur, e, _, hg, _⟩
  · omega
  · cases e
    refine ⟨g, 0, rfl, heap_lt hg, fun j p hp => ?_⟩
    have hj : j < ps.length := (List.getElem?_eq_some_iff.1 hp).1
    have h3 := World.ownsRow.cellAt h.1 j (by omega)
    rw [Nat.zero_add, h3, List.getElem?_map, hp]; rfl
/-- A row of headers whose rows read as lists is a list of lists. -/
theorem Hds.lists {w : World} {top : Nat} {A : Option Addr} {n : Nat} {ps : List HL} (h : Hds w A n ps) (hi : ∀ p, p ∈ ps → InAt w top p) : ListsC w A n (ps.map Prod.snd) := by
  refine ⟨by rw [List.length_map]; exact h.1, h.2.1, fun h0 => ?_⟩
  obtain ⟨b, off, e, hlt, hc⟩ := h.2.2.1 h0
  refine ⟨b, off, e, hlt, fun j hj => ?_⟩
  have hl := h.1
  have hp : ps[j]? = some ps[j] := List.getElem?_eq_getElem (by omega)
  obtain ⟨B, m, d, e2, h2, h0, _⟩ := hi ps[j] (List.getElem_mem _)
  refine ⟨B, m, d, by rw [hc j _ hp, e2], h0, ?_⟩
  have : (ps.map Prod.snd).getD j [] = ps[j].2 := by rw [List.getD_eq_getElem?_getD, List.getElem?_map, hp]; rfl
  rw [this]; exact h2
theorem Hds.in_at {w : World} {A : Option Addr} {n : Nat} {ps : List HL} (h : Hds w A n ps) {top : Nat} (hi : ∀ p, p ∈ ps → InAt w top p) {k : Nat} (hk : k < n) :
    ∃ b off B m d, A = some ⟨b, off, none⟩ ∧ b < w.heap.size ∧ ps[k]? = some (.slice B m d, (ps.map Prod.snd).getD k []) ∧ w.cell? ⟨b, off + k, none⟩ = some (.slice B m d) ∧ m ≤ d ∧ Ints w B m ((ps.map Prod.snd).getD k []) ∧ InAt w top (.slice B m d, (ps.map Prod.snd).getD k []) := by
  obtain ⟨b, off, B, m, d, xs, e, hlt, hp, hc⟩ := h.at_ hk
  have hx : (ps.map Prod.snd).getD k [] = xs := by rw [List.getD_eq_getElem?_getD, List.getElem?_map, hp]; rfl
  rw [hx]
  have hin := hi _ (List.mem_of_getElem? hp)
  have h3 := hin
  obtain ⟨B', m', d', e2, h2, h0, _⟩ := h3
  cases e2
  exact ⟨b, off, B, m, d, e, hlt, hp, hc, h0, h2, hin⟩

/-- append(v, ys...) of headers onto a row of headers. -/
theorem run_append_heads {w : World} {base : Nat} {v : Value} {ps qs : List HL} {A : Option Addr} {m c : Nat} (h : HRow w base v ps) (hy : Hds w A m qs) (hbase : base ≤ w.heap.size) (hlen : (ps ++ qs).length ≤ 1759218604441) :
    ∃ v' w', (Builtin.append_ #[22, 22] 22 #[v, .slice A m c]).run Try.prog w = .ok v' w' ∧ HRow w' base v' (ps ++ qs) ∧ w.grownBy w' v.ownBlock ∧ Below base w w' := by
  obtain ⟨i, hi, hz0, hz1, hz2⟩ := info_parts infol
  have hsplit : ∀ k, v.ownBlock = some k → base ≤ k := fun k hk => (h.lt k hk).1
  have hforms : ∀ p, p ∈ ps ++ qs → ∃ A n c, p.1 = .slice A n c := fun p hp => by
    rcases List.mem_append.1 hp with hp | hp
    · exact h.2 p hp
    · exact hy.2.2.2 p hp
  rcases Nat.eq_zero_or_pos m with h0 | h0
  · have hys : qs = [] := List.eq_nil_of_length_eq_zero (by rw [hy.1, h0])
    subst h0 hys
    cases A with
    | none =>
      refine ⟨v, w, ?_, by simpa using h, World.grownBy.refl w _, Below.refl _ _⟩
      rcases h.1.2 with ⟨rfl, _⟩ | ⟨g, cap, cur, rfl, _, _, hnc, _⟩
      · simp [Builtin.append_, run_underlying Try.underlying22, sizeOf, typeInfo, hi, Builtin.lenOf, Builtin.firstCells]
      · simp [Builtin.append_, run_underlying Try.underlying22, sizeOf, typeInfo, hi, Builtin.lenOf, Builtin.firstCells, hnc, storeCells]
    | some a =>
      obtain ⟨v', w', hr, h1, h2, _⟩ := run_append_own (P := Try.prog) w base 22 22 27 i (.slice none 0 0) 1 24 Try.underlying22 hi hz0 hz1 hz2 rfl (by decide) v _ _ h.1 a 0 c [] (by simp) (by simp) (by simp)
        (by simp at hlen; unfold maxLen; omega) (by simp at hlen; omega) hbase
      exact ⟨v', w', hr, ⟨by simpa using h1, hforms⟩, h2, (Below.refl _ _).grown h2 hbase hsplit⟩
  · obtain ⟨b, off, rfl, hb, hc⟩ := hy.2.2.1 h0
    have hql := hy.1
    obtain ⟨v', w', hr, h1, h2, _⟩ := run_append_own (P := Try.prog) w base 22 22 27 i (.slice none 0 0) 1 24 Try.underlying22 hi hz0 hz1 hz2 rfl (by decide) v _ _ h.1 ⟨b, off, none⟩ m c (qs.map Prod.fst)
      (by simp [hql])
      (by
        intro j u hu
        rw [List.getElem?_map] at hu
        cases hq : qs[j]? with
        | none => rw [hq] at hu; simp at hu
        | some p =>
          rw [hq] at hu
          simp at hu
          subst hu
          rw [show (⟨b, off, none⟩ : Addr).add j = ⟨b, off + j, none⟩ by unfold Addr.add; split <;> simp_all]
          exact hc j p hq)
      (by
        intro u hu
        obtain ⟨p, hp, rfl⟩ := List.mem_map.1 hu
        obtain ⟨A, n, c, e⟩ := hy.2.2.2 p hp
        rw [e]; rfl)
      (by rw [List.length_append] at hlen; rw [← hql]; unfold maxLen; omega) (by rw [List.length_append] at hlen; rw [← hql]; omega) hbase
    refine ⟨v', w', hr, ⟨?_, hforms⟩, h2, (Below.refl _ _).grown h2 hbase hsplit⟩
    rw [List.length_append, List.map_append, hql]
    exact h1

/-- append(v, x) of one header. -/
theorem run_append_head {w : World} {base : Nat} {v : Value} {ps : List HL} {B : Option Addr} {m d : Nat} (h : HRow w base v ps) (xs : List Int) (hbase : base ≤ w.heap.size) (hl : ps.length < 1759218604441) :
    ∃ A c w', (Builtin.append_ #[22, 22] 22 #[v, .slice (some ⟨w.heap.size, 0, none⟩) 1 1]).run Try.prog (w.alloc (.cells #[.slice B m d] 27)) = .ok (.slice A (ps.length + 1) c) w' ∧
      HRow w' base (.slice A (ps.length + 1) c) (ps ++ [(.slice B m d, xs)]) ∧ w.grownBy w' v.ownBlock ∧ Below base w w' := by
  have hbz := alloc_below w (.cells #[.slice B m d] 27)
  have hd : Hds (w.alloc (.cells #[.slice B m d] 27)) (some ⟨w.heap.size, 0, none⟩) 1 [(.slice B m d, xs)] := by
    refine ⟨rfl, by omega, fun _ => ⟨w.heap.size, 0, rfl, by simp, fun j p hp => ?_⟩, fun p hp => ?_⟩
    · cases j with
      | zero =>
        simp at hp
        subst hp
        have := cell_of_row (w.alloc (.cells #[.slice B m d] 27)) w.heap.size 0 #[.slice B m d] 27 (0, 0) (heap_alloc_new w _)
        rw [Nat.zero_add, this]; rfl
      | succ j => simp at hp
    · simp at hp; subst hp; exact ⟨B, m, d, rfl⟩
  obtain ⟨v', w', hr, h1, h2, h3⟩ := run_append_heads (c := 1) (h.kept hbz) hd (Nat.le_trans hbase hbz.size) (by simp; omega)
  obtain ⟨A, c, e⟩ := h1.form
  rw [List.length_append] at e
  subst e
  refine ⟨A, c, w', hr, h1, ?_, (hbz.mono hbase).trans h3⟩
  exact ⟨h2.os, h2.tape, h2.output, Nat.le_trans hbz.size h2.size, fun k hk hne => (h2.block k (Nat.lt_of_lt_of_le hk hbz.size) hne).trans (hbz.block k hk)⟩
end Go.Proofs.Ytogcecfeofbbnaa
end

section
/- Lists of words that literals make. -/
namespace Go.Proofs.Ytogcecfeofbbnaa
open Go.RowKit

/-- The words' cells, one block each. -/
def litA (W : World) : List (List Int) → World
  | [] => W
  | x :: r => litA (W.alloc (.cells (lit x) 3)) r
/-- Their headers, from block b on. -/
def litH (b : Nat) : List (List Int) → List Value
  | [] => []
  | x :: r => .slice (some ⟨b, 0, none⟩) x.length x.length :: litH (b + 1) r
/-- The world with the list's own cells. -/
def litL (W : World) (b : Nat) (xss : List (List Int)) : World := (litA W xss).alloc (.cells (litH b xss).toArray 27)
theorem litA_below (W : World) (xss : List (List Int)) : Below W.heap.size W (litA W xss) := by
  induction xss generalizing W with
  | nil => exact Below.refl _ _
  | cons x r ih => exact (alloc_below W _).trans ((ih _).mono (by simp))
theorem litA_size (W : World) (xss : List (List Int)) : (litA W xss).heap.size = W.heap.size + xss.length := by
  induction xss generalizing W with
  | nil => rfl
  | cons x r ih =>
    show (litA (W.alloc (.cells (lit x) 3)) r).heap.size = _
    rw [ih]; simp; omega
theorem litH_len (b : Nat) (xss : List (List Int)) : (litH b xss).length = xss.length := by
  induction xss generalizing b with
  | nil => rfl
  | cons x r ih => simp [litH, ih]
theorem litH_get (b : Nat) (xss : List (List Int)) (j : Nat) (hj : j < xss.length) : (litH b xss)[j]? = some (.slice (some ⟨b + j, 0, none⟩) (xss.getD j []).length (xss.getD j []).length) := by
  induction xss generalizing b j with
  | nil => simp at hj
  | cons x r ih =>
    cases j with
    | zero => simp [litH]
    | succ j =>
      have := ih (b + 1) j (by simpa using hj)
      simp only [litH, List.getElem?_cons_succ, this]
      rw [show b + 1 + j = b + (j + 1) by omega]
      simp
theorem litA_ints (W : World) (xss : List (List Int)) (j : Nat) (hj : j < xss.length) (hl : ∀ x, x ∈ xss → x.length ≤ 1000) : Ints (litA W xss) (some ⟨W.heap.size + j, 0, none⟩) (xss.getD j []).length (xss.getD j []) := by
  induction xss generalizing W j with
  | nil => simp at hj
  | cons x r ih =>
    cases j with
    | zero =>
      have h := Ints.new W x (lit x) x.length rfl rfl (by have := hl x List.mem_cons_self; omega)
      have hb := litA_below (W.alloc (.cells (lit x) 3)) r
      exact h.below hb
    | succ j =>
      have := ih (W.alloc (.cells (lit x) 3)) j (by simpa using hj) (fun y hy => hl y (List.mem_cons_of_mem _ hy))
      have e : (W.alloc (.cells (lit x) 3)).heap.size + j = W.heap.size + (j + 1) := by simp; omega
      rw [e] at this
      show Ints (litA (W.alloc (.cells (lit x) 3)) r) _ ((x :: r).getD (j + 1) []).length ((x :: r).getD (j + 1) [])
      simpa using this
theorem litL_below (W : World) (b : Nat) (xss : List (List Int)) : Below W.heap.size W (litL W b xss) := (litA_below W xss).trans ((alloc_below _ _).mono (litA_below W xss).size)
theorem litL_size (W : World) (b : Nat) (xss : List (List Int)) : (litL W b xss).heap.size = W.heap.size + xss.length + 1 := by
  show ((litA W xss).alloc _).heap.size = _
  simp [litA_size]
theorem litL_lists (W : World) (b : Nat) (xss : List (List Int)) (n : Nat) (hb : W.heap.size = b) (hn : n = xss.length) (hl : ∀ x, x ∈ xss → x.length ≤ 1000) (hm : xss.length ≤ 1000) : ListsC (litL W b xss) (some ⟨b + n, 0, none⟩) n xss := by
  subst hn hb
  have hb := alloc_below (litA W xss) (.cells (litH W.heap.size xss).toArray 27)
  refine ⟨rfl, by omega, fun _ => ⟨W.heap.size + xss.length, 0, rfl, ?_, fun j hj => ?_⟩⟩
  · show W.heap.size + xss.length < ((litA W xss).alloc _).heap.size
    simp [litA_size]
  · refine ⟨_, _, _, ?_, Nat.le_refl _, (litA_ints W xss j hj hl).below hb⟩
    have := cell_of_row (litL W W.heap.size xss) (W.heap.size + xss.length) j (litH W.heap.size xss).toArray 27 (0, 0) (by
      have := heap_alloc_new (litA W xss) (.cells (litH W.heap.size xss).toArray 27)
      rw [litA_size] at this
      exact this)
    rw [Nat.zero_add, this]
    simpa using litH_get W.heap.size xss j hj
end Go.Proofs.Ytogcecfeofbbnaa
end

section
/- The examples of compose. -/
namespace Go.Proofs.Ytogcecfeofbbnaa
open Go.RowKit

def e14N : List (List Int) := [[1], [0]]
def e14O : List (List Int) := [[0], [1]]
def f14N : List (List Int) := [[0]]
def f14O : List (List Int) := [[2]]
def g14N : List (List Int) := [[0, 0]]
def g14O : List (List Int) := [[3, 4]]
def p14O : List (List Int) := [[2], [5]]
def q14N : List (List Int) := [[1, 0], [0, 1]]
def q14O : List (List Int) := [[0, 4], [1, 4]]
def m14O : List (List Int) := [[7], [5]]
def c14O : List (List Int) := [[3], [4]]
theorem e14_ok : Mok 1 0 2 e14N e14O := by
  refine ⟨by decide, by decide, by decide, by decide, by decide, rfl, rfl, fun s hs => ?_⟩
  match s, hs with
  | 0, _ => exact ⟨rfl, rfl, by decide⟩
  | 1, _ => exact ⟨rfl, rfl, by decide⟩
theorem f14_ok : Mok 1 0 1 f14N f14O := by
  refine ⟨by decide, by decide, by decide, by decide, by decide, rfl, rfl, fun s hs => ?_⟩
  match s, hs with
  | 0, _ => exact ⟨rfl, rfl, by decide⟩
theorem g14_ok : Mok 2 0 1 g14N g14O := by
  refine ⟨by decide, by decide, by decide, by decide, by decide, rfl, rfl, fun s hs => ?_⟩
  match s, hs with
  | 0, _ => exact ⟨rfl, rfl, by decide⟩
theorem e14_p1 : autN (prF e14N f14N) 1 (fdG (prF e14N f14N) 1 2 1 0 0) = e14N := by decide +kernel
theorem e14_p2 : outN (prO e14O f14O (grt f14O)) 1 (fdG (prF e14N f14N) 1 2 1 0 0) = p14O := by decide +kernel
theorem e14_p3 : (fdG (prF e14N f14N) 1 2 1 0 0).length = 2 := by decide +kernel
theorem e14_p4 : Fits (prO e14O f14O (grt f14O)) 1 (fdG (prF e14N f14N) 1 2 1 0 0) := by decide +kernel
theorem e14_q1 : autN (paF 1 e14N f14N) 2 (fdG (paF 1 e14N f14N) 2 2 1 0 0) = q14N := by decide +kernel
theorem e14_q2 : outN (paO 1 e14O f14O (grt e14O)) 2 (fdG (paF 1 e14N f14N) 2 2 1 0 0) = q14O := by decide +kernel
theorem e14_q3 : (fdG (paF 1 e14N f14N) 2 2 1 0 0).length = 2 := by decide +kernel
theorem e14_q4 : Fits (paO 1 e14O f14O (grt e14O)) 2 (fdG (paF 1 e14N f14N) 2 2 1 0 0) := by decide +kernel
theorem e14_g : ¬ grt f14O < 1 := by decide +kernel
theorem e14_h : grt e14O < 2 := by decide +kernel
theorem e14_c1 : autN (caF e14N e14O g14N) 1 (fdG (caF e14N e14O g14N) 1 2 1 0 0) = e14N := by decide +kernel
theorem e14_c2 : outN (caO e14O g14O) 1 (fdG (caF e14N e14O g14N) 1 2 1 0 0) = c14O := by decide +kernel
theorem e14_c3 : (fdG (caF e14N e14O g14N) 1 2 1 0 0).length = 2 := by decide +kernel
theorem e14_c4 : Fits (caO e14O g14O) 1 (fdG (caF e14N e14O g14N) 1 2 1 0 0) := by decide +kernel
theorem e14_m1 : trN e14N 1 (rch e14N 1 0) = e14N := by decide +kernel
theorem e14_m2 : trO (mpO [7, 5] e14O) (rch e14N 1 0) = m14O := by decide +kernel
theorem e14_m3 : (rch e14N 1 0).length = 2 := by decide +kernel
theorem e14_m4 : AllO [7, 5] e14O := by
  intro x hx
  have : x = 0 ∨ x = 1 := by simpa [e14O] using hx
  rcases this with rfl | rfl
  · exact ⟨by decide, by decide, by decide⟩
  · exact ⟨by decide, by decide, by decide⟩
theorem e14_m5 : ¬ AllO [7] e14O := fun h => by
  have := (h 1 (by simp [e14O])).1
  exact absurd this (by decide)
/-- A machine in a box, and its lists. -/
def MacB (W : World) (g i n : Nat) (N T : List (List Int)) : Prop := ∃ A c B d, Mblk W g (.int .i64 i) (.int .i64 0) (.slice A n c) (.slice B n d) ∧ Lists W A n N ∧ Lists W B n T
theorem MacB.below {W W' : World} {g i n : Nat} {N T : List (List Int)} (h : MacB W g i n N T) (hb : Below W.heap.size W W') : MacB W' g i n N T := by
  obtain ⟨A, c, B, d, h1, h2, h3⟩ := h
  exact ⟨A, c, B, d, h1.on hb, h2.below hb, h3.below hb⟩
theorem MacB.new {w : World} {base i n : Nat} {A B : Option Addr} {c d : Nat} {N T : List (List Int)} (h1 : OwnedL w base (.slice A n c) N) (h2 : OwnedL w base (.slice B n d) T) (hN : N.length ≤ 1000) (hT : T.length ≤ 1000) (rN : ∀ x, x ∈ N → x.length ≤ 1000) (rT : ∀ x, x ∈ T → x.length ≤ 1000) :
    MacB (w.alloc (.cells #[.int .i64 i, .int .i64 0, .slice A n c, .slice B n d] 24)) w.heap.size i n N T :=
  ⟨A, c, B, d, mealy_box w _ _ _ _, (h1.lists (by omega) (fun x hx => by have := rN x hx; omega)).below (alloc_below _ _), (h2.lists (by omega) (fun x hx => by have := rT x hx; omega)).below (alloc_below _ _)⟩
theorem MacP.good {base i n : Nat} {N T : List (List Int)} {ok : Prop} {e : Ending} {w' : World} (h : MacP base i N T n ok e w') (hk : ok) : ∃ A c B d, e = .returned (.tuple #[.agg #[.int .i64 i, .int .i64 0, .slice A n c, .slice B n d], .int .i64 0]) ∧ OwnedL w' base (.slice A n c) N ∧ OwnedL w' base (.slice B n d) T := by
  rcases h with ⟨_, h⟩ | ⟨h, _⟩
  · exact h
  · exact absurd hk h
set_option maxHeartbeats 4000000 in
set_option maxRecDepth 100000 in
theorem awake14 (w : World) : Calls Try.prog 31 #[] w fun e w' => e = .returned (.bool true) ∧ Below w.heap.size w w' := by
  have zw : w.heap.size = w.heap.size := rfl
  obtain ⟨La, hLa⟩ : ∃ La, La = (((w.alloc (.cells #[.int .i64 1] 3)).alloc (.cells #[.int .i64 0] 3)).alloc (.cells #[.slice (some ⟨w.heap.size, 0, none⟩) 1 1, .slice (some ⟨w.heap.size + 1, 0, none⟩) 1 1] 27)) := ⟨_, rfl⟩
  have fLa : Lists La (some ⟨w.heap.size + 1 + 1, 0, none⟩) 2 e14N ∧ Below w.heap.size w La ∧ La.heap.size = w.heap.size + 1 + 1 + 1 := by
    rw [hLa]
    exact ⟨(litL_lists w (w.heap.size) e14N 2 zw rfl (by decide) (by decide)).lists, litL_below w (w.heap.size) e14N, (litL_size w (w.heap.size) e14N).trans (by rw [zw]; rfl)⟩
  obtain ⟨la, ba, zLa⟩ := fLa
  obtain ⟨Lb, hLb⟩ : ∃ Lb, Lb = (((La.alloc (.cells #[.int .i64 0] 3)).alloc (.cells #[.int .i64 1] 3)).alloc (.cells #[.slice (some ⟨w.heap.size + 1 + 1 + 1, 0, none⟩) 1 1, .slice (some ⟨w.heap.size + 1 + 1 + 1 + 1, 0, none⟩) 1 1] 27)) := ⟨_, rfl⟩
  have fLb : Lists Lb (some ⟨w.heap.size + 1 + 1 + 1 + 1 + 1, 0, none⟩) 2 e14O ∧ Below La.heap.size La Lb ∧ Lb.heap.size = w.heap.size + 1 + 1 + 1 + 1 + 1 + 1 := by
    rw [hLb]
    exact ⟨(litL_lists La (w.heap.size + 1 + 1 + 1) e14O 2 zLa rfl (by decide) (by decide)).lists, litL_below La (w.heap.size + 1 + 1 + 1) e14O, (litL_size La (w.heap.size + 1 + 1 + 1) e14O).trans (by rw [zLa]; rfl)⟩
  obtain ⟨lb, bb, zLb⟩ := fLb
  obtain ⟨Xa, hXa⟩ : ∃ Xa, Xa = Lb.alloc (.cells #[.int .i64 1, .int .i64 0, .slice (some ⟨w.heap.size + 1 + 1, 0, none⟩) 2 2, .slice (some ⟨w.heap.size + 1 + 1 + 1 + 1 + 1, 0, none⟩) 2 2] 24) := ⟨_, rfl⟩
  have bxa : Below Lb.heap.size Lb Xa := by rw [hXa]; exact alloc_below _ _
  have zXa : Xa.heap.size = w.heap.size + 1 + 1 + 1 + 1 + 1 + 1 + 1 := by rw [hXa]; simp [zLb]
  obtain ⟨Lc, hLc⟩ : ∃ Lc, Lc = ((Xa.alloc (.cells #[.int .i64 0] 3)).alloc (.cells #[.slice (some ⟨w.heap.size + 1 + 1 + 1 + 1 + 1 + 1 + 1, 0, none⟩) 1 1] 27)) := ⟨_, rfl⟩
  have fLc : Lists Lc (some ⟨w.heap.size + 1 + 1 + 1 + 1 + 1 + 1 + 1 + 1, 0, none⟩) 1 f14N ∧ Below Xa.heap.size Xa Lc ∧ Lc.heap.size = w.heap.size + 1 + 1 + 1 + 1 + 1 + 1 + 1 + 1 + 1 := by
    rw [hLc]
    exact ⟨(litL_lists Xa (w.heap.size + 1 + 1 + 1 + 1 + 1 + 1 + 1) f14N 1 zXa rfl (by decide) (by decide)).lists, litL_below Xa (w.heap.size + 1 + 1 + 1 + 1 + 1 + 1 + 1) f14N, (litL_size Xa (w.heap.size + 1 + 1 + 1 + 1 + 1 + 1 + 1) f14N).trans (by rw [zXa]; rfl)⟩
  obtain ⟨lc, bc, zLc⟩ := fLc
  obtain ⟨Ld, hLd⟩ : ∃ Ld, Ld = ((Lc.alloc (.cells #[.int .i64 2] 3)).alloc (.cells #[.slice (some ⟨w.heap.size + 1 + 1 + 1 + 1 + 1 + 1 + 1 + 1 + 1, 0, none⟩) 1 1] 27)) := ⟨_, rfl⟩
  have fLd : Lists Ld (some ⟨w.heap.size + 1 + 1 + 1 + 1 + 1 + 1 + 1 + 1 + 1 + 1, 0, none⟩) 1 f14O ∧ Below Lc.heap.size Lc Ld ∧ Ld.heap.size = w.heap.size + 1 + 1 + 1 + 1 + 1 + 1 + 1 + 1 + 1 + 1 + 1 := by
    rw [hLd]
    exact ⟨(litL_lists Lc (w.heap.size + 1 + 1 + 1 + 1 + 1 + 1 + 1 + 1 + 1) f14O 1 zLc rfl (by decide) (by decide)).lists, litL_below Lc (w.heap.size + 1 + 1 + 1 + 1 + 1 + 1 + 1 + 1 + 1) f14O, (litL_size Lc (w.heap.size + 1 + 1 + 1 + 1 + 1 + 1 + 1 + 1 + 1) f14O).trans (by rw [zLc]; rfl)⟩
  obtain ⟨ld, bd, zLd⟩ := fLd
  obtain ⟨Xb, hXb⟩ : ∃ Xb, Xb = Ld.alloc (.cells #[.int .i64 1, .int .i64 0, .slice (some ⟨w.heap.size + 1 + 1 + 1 + 1 + 1 + 1 + 1 + 1, 0, none⟩) 1 1, .slice (some ⟨w.heap.size + 1 + 1 + 1 + 1 + 1 + 1 + 1 + 1 + 1 + 1, 0, none⟩) 1 1] 24) := ⟨_, rfl⟩
  have bxb : Below Ld.heap.size Ld Xb := by rw [hXb]; exact alloc_below _ _
  have zXb : Xb.heap.size = w.heap.size + 1 + 1 + 1 + 1 + 1 + 1 + 1 + 1 + 1 + 1 + 1 + 1 := by rw [hXb]; simp [zLd]
  have HA0 : MacB Xa (w.heap.size + 1 + 1 + 1 + 1 + 1 + 1) 1 2 e14N e14O := ⟨_, 2, _, 2, by rw [hXa, ← zLb]; exact mealy_box Lb _ _ _ _, (la.below bb).below bxa, lb.below bxa⟩
  have b1 := bt bc (bt bd bxb)
  have HA1 := HA0.below b1
  have HB1 : MacB Xb (w.heap.size + 1 + 1 + 1 + 1 + 1 + 1 + 1 + 1 + 1 + 1 + 1) 1 1 f14N f14O := ⟨_, 1, _, 1, by rw [hXb, ← zLd]; exact mealy_box Ld _ _ _ _, (lc.below bd).below bxb, ld.below bxb⟩
  have b0 : Below w.heap.size w Xb := bt ba (bt bb (bt bxa b1))
  have HW : Hid (Xb = ((((((((((((w.alloc (.cells #[.int .i64 1] 3)).alloc (.cells #[.int .i64 0] 3)).alloc (.cells #[.slice (some ⟨w.heap.size, 0, none⟩) 1 1, .slice (some ⟨w.heap.size + 1, 0, none⟩) 1 1] 27)).alloc (.cells #[.int .i64 0] 3)).alloc (.cells #[.int .i64 1] 3)).alloc (.cells #[.slice (some ⟨w.heap.size + 1 + 1 + 1, 0, none⟩) 1 1, .slice (some ⟨w.heap.size + 1 + 1 + 1 + 1, 0, none⟩) 1 1] 27)).alloc (.cells #[.int .i64 1, .int .i64 0, .slice (some ⟨w.heap.size + 1 + 1, 0, none⟩) 2 2, .slice (some ⟨w.heap.size + 1 + 1 + 1 + 1 + 1, 0, none⟩) 2 2] 24)).alloc (.cells #[.int .i64 0] 3)).alloc (.cells #[.slice (some ⟨w.heap.size + 1 + 1 + 1 + 1 + 1 + 1 + 1, 0, none⟩) 1 1] 27)).alloc (.cells #[.int .i64 2] 3)).alloc (.cells #[.slice (some ⟨w.heap.size + 1 + 1 + 1 + 1 + 1 + 1 + 1 + 1 + 1, 0, none⟩) 1 1] 27)).alloc (.cells #[.int .i64 1, .int .i64 0, .slice (some ⟨w.heap.size + 1 + 1 + 1 + 1 + 1 + 1 + 1 + 1, 0, none⟩) 1 1, .slice (some ⟨w.heap.size + 1 + 1 + 1 + 1 + 1 + 1 + 1 + 1 + 1 + 1, 0, none⟩) 1 1] 24))) := Lib.hid (by rw [hXb, hLd, hLc, hXa, hLb, hLa])
  have HA := Lib.hid HA1
  have HB := Lib.hid HB1
  have HBC := Lib.hid b0
  obtain ⟨Aa, ca, Ba, da, ma, na, oa⟩ := HA1
  obtain ⟨Ab, cb, Bb, db, mb, nb, ob⟩ := HB1
  obtain ⟨p0, p1, p2, p3, _⟩ := ma.cells
  obtain ⟨r0, r1, r2, r3, _⟩ := mb.cells
  rw [HW.out] at p0 p1 p2 p3 r0 r1 r2 r3
  clear hXb hLd hLc hXa hLb hLa la lb lc ld ba bb bc bd bxa bxb b1 b0 HA0 zLa zLb zXa zLc zLd zXb zw ma mb
  go_enter Try.func31, Try.ntmps31
  go_wp2_with fail
  rw [← HW.out]
  refine (pproduct 1 0 2 0 1 Aa Ba Ab Bb ca da cb db e14N e14O f14N f14O Xb na oa nb ob e14_ok f14_ok).mono ?_
  rintro e w3 ⟨h3, b3⟩
  obtain ⟨A3, c3, B3, d3, rfl, o3, t3⟩ := h3.good e14_p4
  rw [e14_p1, e14_p3] at o3
  rw [e14_p2, e14_p3] at t3
  rw [e14_p3]
  clear p0 p1 p2 p3 r0 r1 r2 r3
  obtain ⟨X3, hX3⟩ : ∃ X, X = w3.alloc (.cells #[.int .i64 1, .int .i64 0, .slice A3 2 c3, .slice B3 2 d3] 24) := ⟨_, rfl⟩
  have bx3 : Below w3.heap.size w3 X3 := by rw [hX3]; exact alloc_below _ _
  have zX3 : X3.heap.size = w3.heap.size + 1 := by rw [hX3]; simp
  have HP := Lib.hid (show MacB X3 w3.heap.size 1 2 e14N p14O by rw [hX3]; exact MacB.new o3 t3 (by decide) (by decide) (by decide) (by decide))
  have bb3 := bt b3 bx3
  have HA := Lib.hid (HA.out.below bb3)
  have HB := Lib.hid (HB.out.below bb3)
  have HBC := Lib.hid (bt HBC.out bb3)
  clear na oa nb ob
  obtain ⟨Aa, ca, Ba, da, ma, na, oa⟩ := HA.out
  obtain ⟨p0, p1, p2, p3, _⟩ := ma.cells
  obtain ⟨Ab, cb, Bb, db, mb, nb, ob⟩ := HB.out
  obtain ⟨r0, r1, r2, r3, _⟩ := mb.cells
  have HX3 := Lib.hid hX3
  rw [hX3] at p0 p1 p2 p3 r0 r1 r2 r3
  clear hX3 bx3 zX3 bb3 b3 o3 t3 h3 ma mb
  go_wp2_with fail
  rw [← HX3.out]
  refine (pparallel 1 0 2 1 0 1 2 Aa Ba Ab Bb ca da cb db e14N e14O f14N f14O X3 na oa nb ob e14_ok f14_ok rfl (by decide)).mono ?_
  rintro e w4 ⟨h4, b4⟩
  obtain ⟨A4, c4, B4, d4, rfl, o4, t4⟩ := h4.good e14_q4
  rw [e14_q1, e14_q3] at o4
  rw [e14_q2, e14_q3] at t4
  rw [e14_q3]
  clear p0 p1 p2 p3 r0 r1 r2 r3
  obtain ⟨X4, hX4⟩ : ∃ X, X = w4.alloc (.cells #[.int .i64 2, .int .i64 0, .slice A4 2 c4, .slice B4 2 d4] 24) := ⟨_, rfl⟩
  have bx4 : Below w4.heap.size w4 X4 := by rw [hX4]; exact alloc_below _ _
  have zX4 : X4.heap.size = w4.heap.size + 1 := by rw [hX4]; simp
  have HQ := Lib.hid (show MacB X4 w4.heap.size 2 2 q14N q14O by rw [hX4]; exact MacB.new o4 t4 (by decide) (by decide) (by decide) (by decide))
  have bb4 := bt b4 bx4
  have HA := Lib.hid (HA.out.below bb4)
  have HB := Lib.hid (HB.out.below bb4)
  have HP := Lib.hid (HP.out.below bb4)
  have HBC := Lib.hid (bt HBC.out bb4)
  clear na oa nb ob
  obtain ⟨Aa, ca, Ba, da, ma, na, oa⟩ := HA.out
  obtain ⟨p0, p1, p2, p3, _⟩ := ma.cells
  obtain ⟨Ab, cb, Bb, db, mb, nb, ob⟩ := HB.out
  obtain ⟨r0, r1, r2, r3, _⟩ := mb.cells
  have HX4 := Lib.hid hX4
  rw [hX4] at p0 p1 p2 p3 r0 r1 r2 r3
  clear hX4 bx4 zX4 bb4 b4 o4 t4 h4 ma mb
  go_wp2_with fail
  rw [← HX4.out]
  refine (pcascade_bad2 1 0 1 1 0 2 Ab Bb Aa Ba cb db ca da f14N f14O e14N e14O X4 nb ob na oa f14_ok e14_ok e14_g).mono ?_
  rintro e w5 ⟨rfl, b5⟩
  unfold NoM
  clear p0 p1 p2 p3 r0 r1 r2 r3
  obtain ⟨X5, hX5⟩ : ∃ X, X = w5.alloc (.cells #[.int .i64 0, .int .i64 0, .slice none 0 0, .slice none 0 0] 24) := ⟨_, rfl⟩
  have bx5 : Below w5.heap.size w5 X5 := by rw [hX5]; exact alloc_below _ _
  have zX5 : X5.heap.size = w5.heap.size + 1 := by rw [hX5]; simp
  have bb5 := bt b5 bx5
  have HA := Lib.hid (HA.out.below bb5)
  have HP := Lib.hid (HP.out.below bb5)
  have HQ := Lib.hid (HQ.out.below bb5)
  have HBC := Lib.hid (bt HBC.out bb5)
  clear na oa nb ob
  obtain ⟨Aa, ca, Ba, da, ma, na, oa⟩ := HA.out
  obtain ⟨p0, p1, p2, p3, _⟩ := ma.cells
  obtain ⟨L5, hL5⟩ : ∃ L5, L5 = X5.alloc (.cells #[.int .i64 7, .int .i64 5] 3) := ⟨_, rfl⟩
  have bl5 : Below X5.heap.size X5 L5 := by rw [hL5]; exact alloc_below _ _
  have i5 : Ints L5 (some ⟨w5.heap.size + 1, 0, none⟩) 2 [7, 5] := by rw [hL5, ← zX5]; exact Ints.new X5 [7, 5] _ 2 rfl rfl (by decide)
  have HL5 := Lib.hid hL5
  have HX5 := Lib.hid hX5
  rw [hX5] at p0 p1 p2 p3
  clear hX5 bx5 zX5 bb5 b5 ma hL5
  go_wp2_with fail
  rw [← HX5.out, ← HL5.out]
  refine (pmap 1 0 2 Aa Ba (some ⟨w5.heap.size + 1, 0, none⟩) ca da 2 2 e14N e14O [7, 5] L5 (na.below bl5) (oa.below bl5) i5 e14_ok).mono ?_
  rintro e w6 ⟨h6, b6⟩
  obtain ⟨A6, c6, B6, d6, rfl, o6, t6⟩ : TrmP L5.heap.size 1 (trN e14N 1 (rch e14N 1 0)) (trO (mpO [7, 5] e14O) (rch e14N 1 0)) (rch e14N 1 0).length e w6 := by
    rcases h6 with ⟨_, h⟩ | ⟨h, _⟩
    · exact h
    · exact absurd e14_m4 h
  rw [e14_m1, e14_m3] at o6
  rw [e14_m2, e14_m3] at t6
  rw [e14_m3]
  clear p0 p1 p2 p3
  obtain ⟨X6, hX6⟩ : ∃ X, X = w6.alloc (.cells #[.int .i64 1, .int .i64 0, .slice A6 2 c6, .slice B6 2 d6] 24) := ⟨_, rfl⟩
  have bx6 : Below w6.heap.size w6 X6 := by rw [hX6]; exact alloc_below _ _
  have zX6 : X6.heap.size = w6.heap.size + 1 := by rw [hX6]; simp
  have HM := Lib.hid (show MacB X6 w6.heap.size 1 2 e14N m14O by rw [hX6]; exact MacB.new o6 t6 (by decide) (by decide) (by decide) (by decide))
  have bb6 := bt b6 bx6
  have bb6 := bt bl5 bb6
  have HA := Lib.hid (HA.out.below bb6)
  have HP := Lib.hid (HP.out.below bb6)
  have HQ := Lib.hid (HQ.out.below bb6)
  have HBC := Lib.hid (bt HBC.out bb6)
  clear na oa i5
  obtain ⟨Aa, ca, Ba, da, ma, na, oa⟩ := HA.out
  obtain ⟨p0, p1, p2, p3, _⟩ := ma.cells
  obtain ⟨L6, hL6⟩ : ∃ L6, L6 = X6.alloc (.cells #[.int .i64 7] 3) := ⟨_, rfl⟩
  have bl6 : Below X6.heap.size X6 L6 := by rw [hL6]; exact alloc_below _ _
  have i6 : Ints L6 (some ⟨w6.heap.size + 1, 0, none⟩) 1 [7] := by rw [hL6, ← zX6]; exact Ints.new X6 [7] _ 1 rfl rfl (by decide)
  have HL6 := Lib.hid hL6
  have HX6 := Lib.hid hX6
  rw [hX6] at p0 p1 p2 p3
  clear hX6 bx6 zX6 bb6 b6 ma hL6 o6 t6 h6 bl5
  go_wp2_with fail
  rw [← HX6.out, ← HL6.out]
  refine (pmap 1 0 2 Aa Ba (some ⟨w6.heap.size + 1, 0, none⟩) ca da 1 1 e14N e14O [7] L6 (na.below bl6) (oa.below bl6) i6 e14_ok).mono ?_
  rintro e w7 ⟨h7, b7⟩
  obtain rfl : e = NoM 2 := by
    rcases h7 with ⟨h, _⟩ | ⟨_, h⟩
    · exact absurd h e14_m5
    · exact h
  unfold NoM
  clear p0 p1 p2 p3
  obtain ⟨X7, hX7⟩ : ∃ X, X = w7.alloc (.cells #[.int .i64 0, .int .i64 0, .slice none 0 0, .slice none 0 0] 24) := ⟨_, rfl⟩
  have bx7 : Below w7.heap.size w7 X7 := by rw [hX7]; exact alloc_below _ _
  have zX7 : X7.heap.size = w7.heap.size + 1 := by rw [hX7]; simp
  have bb7 := bt b7 bx7
  have bb7 := bt bl6 bb7
  have HA := Lib.hid (HA.out.below bb7)
  have HP := Lib.hid (HP.out.below bb7)
  have HQ := Lib.hid (HQ.out.below bb7)
  have HM := Lib.hid (HM.out.below bb7)
  have HBC := Lib.hid (bt HBC.out bb7)
  clear na oa i6
  obtain ⟨Aa, ca, Ba, da, ma, na, oa⟩ := HA.out
  obtain ⟨p0, p1, p2, p3, _⟩ := ma.cells
  have HX7 := Lib.hid hX7
  rw [hX7] at p0 p1 p2 p3
  clear hX7 bx7 zX7 bb7 b7 ma h7 bl6
  go_wp2_with fail
  rw [← HX7.out]
  refine (prestrict_empty 1 0 2 Aa Ba none ca da 0 e14N e14O X7 na oa e14_ok).mono ?_
  rintro e w8 ⟨rfl, b8⟩
  unfold NoM
  clear p0 p1 p2 p3
  obtain ⟨X8, hX8⟩ : ∃ X, X = w8.alloc (.cells #[.int .i64 0, .int .i64 0, .slice none 0 0, .slice none 0 0] 24) := ⟨_, rfl⟩
  have bx8 : Below w8.heap.size w8 X8 := by rw [hX8]; exact alloc_below _ _
  have zX8 : X8.heap.size = w8.heap.size + 1 := by rw [hX8]; simp
  have bb8 := bt b8 bx8
  have HA := Lib.hid (HA.out.below bb8)
  have HP := Lib.hid (HP.out.below bb8)
  have HQ := Lib.hid (HQ.out.below bb8)
  have HM := Lib.hid (HM.out.below bb8)
  have HBC := Lib.hid (bt HBC.out bb8)
  clear na oa
  obtain ⟨Aa, ca, Ba, da, ma, na, oa⟩ := HA.out
  obtain ⟨p0, p1, p2, p3, _⟩ := ma.cells
  obtain ⟨Lg, hLg⟩ : ∃ Lg, Lg = ((X8.alloc (.cells #[.int .i64 0, .int .i64 0] 3)).alloc (.cells #[.slice (some ⟨w8.heap.size + 1, 0, none⟩) 2 2] 27)) := ⟨_, rfl⟩
  have fLg : Lists Lg (some ⟨w8.heap.size + 1 + 1, 0, none⟩) 1 g14N ∧ Below X8.heap.size X8 Lg ∧ Lg.heap.size = w8.heap.size + 1 + 1 + 1 := by
    rw [hLg]
    exact ⟨(litL_lists X8 (w8.heap.size + 1) g14N 1 zX8 rfl (by decide) (by decide)).lists, litL_below X8 (w8.heap.size + 1) g14N, (litL_size X8 (w8.heap.size + 1) g14N).trans (by rw [zX8]; rfl)⟩
  obtain ⟨lg, bg, zLg⟩ := fLg
  obtain ⟨Lh, hLh⟩ : ∃ Lh, Lh = ((Lg.alloc (.cells #[.int .i64 3, .int .i64 4] 3)).alloc (.cells #[.slice (some ⟨w8.heap.size + 1 + 1 + 1, 0, none⟩) 2 2] 27)) := ⟨_, rfl⟩
  have fLh : Lists Lh (some ⟨w8.heap.size + 1 + 1 + 1 + 1, 0, none⟩) 1 g14O ∧ Below Lg.heap.size Lg Lh ∧ Lh.heap.size = w8.heap.size + 1 + 1 + 1 + 1 + 1 := by
    rw [hLh]
    exact ⟨(litL_lists Lg (w8.heap.size + 1 + 1 + 1) g14O 1 zLg rfl (by decide) (by decide)).lists, litL_below Lg (w8.heap.size + 1 + 1 + 1) g14O, (litL_size Lg (w8.heap.size + 1 + 1 + 1) g14O).trans (by rw [zLg]; rfl)⟩
  obtain ⟨lh, bh, zLh⟩ := fLh
  have HLG := Lib.hid hLg
  have HLH := Lib.hid hLh
  have lgh := lg.below bh
  have bgh := bt bg bh
  have HX8 := Lib.hid hX8
  rw [hX8] at p0 p1 p2 p3
  clear hX8 bx8 zX8 bb8 b8 ma hLg hLh zLg zLh lg bg bh
  go_wp2_with fail
  rw [← HX8.out, ← HLG.out, ← HLH.out]
  refine (pcascade 1 0 2 2 0 1 Aa Ba (some ⟨w8.heap.size + 1 + 1, 0, none⟩) (some ⟨w8.heap.size + 1 + 1 + 1 + 1, 0, none⟩) ca da 1 1 e14N e14O g14N g14O Lh (na.below bgh) (oa.below bgh) lgh lh e14_ok g14_ok e14_h).mono ?_
  rintro e w9 ⟨h9, b9⟩
  obtain ⟨A9, c9, B9, d9, rfl, o9, t9⟩ := h9.good e14_c4
  rw [e14_c1, e14_c3] at o9
  rw [e14_c2, e14_c3] at t9
  rw [e14_c3]
  clear p0 p1 p2 p3
  obtain ⟨X9, hX9⟩ : ∃ X, X = w9.alloc (.cells #[.int .i64 1, .int .i64 0, .slice A9 2 c9, .slice B9 2 d9] 24) := ⟨_, rfl⟩
  have bx9 : Below w9.heap.size w9 X9 := by rw [hX9]; exact alloc_below _ _
  have zX9 : X9.heap.size = w9.heap.size + 1 := by rw [hX9]; simp
  have HC := Lib.hid (show MacB X9 w9.heap.size 1 2 e14N c14O by rw [hX9]; exact MacB.new o9 t9 (by decide) (by decide) (by decide) (by decide))
  have bb9 := bt b9 bx9
  have bb9 := bt bgh bb9
  have HP := Lib.hid (HP.out.below bb9)
  have HQ := Lib.hid (HQ.out.below bb9)
  have HM := Lib.hid (HM.out.below bb9)
  have HBC := Lib.hid (bt HBC.out bb9)
  clear na oa lgh lh
  obtain ⟨Lt, hLt⟩ : ∃ Lt, Lt = (((X9.alloc (.cells #[.int .i64 1] 3)).alloc (.cells #[.int .i64 0] 3)).alloc (.cells #[.slice (some ⟨w9.heap.size + 1, 0, none⟩) 1 1, .slice (some ⟨w9.heap.size + 1 + 1, 0, none⟩) 1 1] 27)) := ⟨_, rfl⟩
  have fLt : Lists Lt (some ⟨w9.heap.size + 1 + 1 + 1, 0, none⟩) 2 e14N ∧ Below X9.heap.size X9 Lt ∧ Lt.heap.size = w9.heap.size + 1 + 1 + 1 + 1 := by
    rw [hLt]
    exact ⟨(litL_lists X9 (w9.heap.size + 1) e14N 2 zX9 rfl (by decide) (by decide)).lists, litL_below X9 (w9.heap.size + 1) e14N, (litL_size X9 (w9.heap.size + 1) e14N).trans (by rw [zX9]; rfl)⟩
  obtain ⟨lt, btt, zLt⟩ := fLt
  obtain ⟨Lu, hLu⟩ : ∃ Lu, Lu = (((Lt.alloc (.cells #[.int .i64 2] 3)).alloc (.cells #[.int .i64 5] 3)).alloc (.cells #[.slice (some ⟨w9.heap.size + 1 + 1 + 1 + 1, 0, none⟩) 1 1, .slice (some ⟨w9.heap.size + 1 + 1 + 1 + 1 + 1, 0, none⟩) 1 1] 27)) := ⟨_, rfl⟩
  have fLu : Lists Lu (some ⟨w9.heap.size + 1 + 1 + 1 + 1 + 1 + 1, 0, none⟩) 2 p14O ∧ Below Lt.heap.size Lt Lu ∧ Lu.heap.size = w9.heap.size + 1 + 1 + 1 + 1 + 1 + 1 + 1 := by
    rw [hLu]
    exact ⟨(litL_lists Lt (w9.heap.size + 1 + 1 + 1 + 1) p14O 2 zLt rfl (by decide) (by decide)).lists, litL_below Lt (w9.heap.size + 1 + 1 + 1 + 1) p14O, (litL_size Lt (w9.heap.size + 1 + 1 + 1 + 1) p14O).trans (by rw [zLt]; rfl)⟩
  obtain ⟨lu, bu, zLu⟩ := fLu
  have HLT := Lib.hid hLt
  have HLU := Lib.hid hLu
  have HPT := Lib.hid (HP.out.below btt)
  obtain ⟨Ap, cp, Bp, dp, mp, np, op⟩ := HPT.out
  obtain ⟨p0, p1, p2, p3, _⟩ := mp.cells
  have np := np.below bu
  have op := op.below bu
  have HTW := Lib.hid (lt.below bu)
  have bt9 := bt btt bu
  have HQ := Lib.hid (HQ.out.below bt9)
  have HM := Lib.hid (HM.out.below bt9)
  have HC := Lib.hid (HC.out.below bt9)
  have HBC := Lib.hid (bt HBC.out bt9)
  have HX9 := Lib.hid hX9
  rw [hLt, hX9] at p0 p1 p2 p3
  clear hX9 bx9 zX9 bb9 b9 o9 t9 h9 hLt hLu zLt zLu lt btt bu bt9 mp bgh
  go_wp2_with fail
  rw [← HX9.out, ← HLT.out, ← HLU.out]
  refine (rsamem 1 0 1 0 Ap Bp (some ⟨w9.heap.size + 1 + 1 + 1, 0, none⟩) (some ⟨w9.heap.size + 1 + 1 + 1 + 1 + 1 + 1, 0, none⟩) 2 cp 2 dp 2 2 2 2 e14N p14O e14N p14O true Lu np op HTW.out lu (by simp)).mono ?_
  rintro e wa ⟨rfl, ba⟩
  clear p0 p1 p2 p3 np op lu
  have HQ := Lib.hid (HQ.out.below ba)
  have HM := Lib.hid (HM.out.below ba)
  have HC := Lib.hid (HC.out.below ba)
  have HTW := Lib.hid (HTW.out.below ba)
  have HBC := Lib.hid (bt HBC.out ba)
  obtain ⟨Aq, cq, Bq, dq, mq, nq, oq⟩ := HQ.out
  obtain ⟨p0, p1, p2, p3, _⟩ := mq.cells
  have zwa : wa.heap.size = wa.heap.size := rfl
  obtain ⟨Lb0, hLb0⟩ : ∃ Lb0, Lb0 = (((wa.alloc (.cells #[.int .i64 1, .int .i64 0] 3)).alloc (.cells #[.int .i64 0, .int .i64 1] 3)).alloc (.cells #[.slice (some ⟨wa.heap.size, 0, none⟩) 2 2, .slice (some ⟨wa.heap.size + 1, 0, none⟩) 2 2] 27)) := ⟨_, rfl⟩
  have fLb0 : Lists Lb0 (some ⟨wa.heap.size + 1 + 1, 0, none⟩) 2 q14N ∧ Below wa.heap.size wa Lb0 ∧ Lb0.heap.size = wa.heap.size + 1 + 1 + 1 := by
    rw [hLb0]
    exact ⟨(litL_lists wa (wa.heap.size) q14N 2 zwa rfl (by decide) (by decide)).lists, litL_below wa (wa.heap.size) q14N, (litL_size wa (wa.heap.size) q14N).trans (by rw [zwa]; rfl)⟩
  obtain ⟨lLb0, bLb0, zLb0⟩ := fLb0
  have HLb0 := Lib.hid hLb0
  obtain ⟨Lb1, hLb1⟩ : ∃ Lb1, Lb1 = (((Lb0.alloc (.cells #[.int .i64 0, .int .i64 4] 3)).alloc (.cells #[.int .i64 1, .int .i64 4] 3)).alloc (.cells #[.slice (some ⟨wa.heap.size + 1 + 1 + 1, 0, none⟩) 2 2, .slice (some ⟨wa.heap.size + 1 + 1 + 1 + 1, 0, none⟩) 2 2] 27)) := ⟨_, rfl⟩
  have fLb1 : Lists Lb1 (some ⟨wa.heap.size + 1 + 1 + 1 + 1 + 1, 0, none⟩) 2 q14O ∧ Below Lb0.heap.size Lb0 Lb1 ∧ Lb1.heap.size = wa.heap.size + 1 + 1 + 1 + 1 + 1 + 1 := by
    rw [hLb1]
    exact ⟨(litL_lists Lb0 (wa.heap.size + 1 + 1 + 1) q14O 2 zLb0 rfl (by decide) (by decide)).lists, litL_below Lb0 (wa.heap.size + 1 + 1 + 1) q14O, (litL_size Lb0 (wa.heap.size + 1 + 1 + 1) q14O).trans (by rw [zLb0]; rfl)⟩
  obtain ⟨lLb1, bLb1, zLb1⟩ := fLb1
  have HLb1 := Lib.hid hLb1
  have lLb0 := lLb0.below bLb1
  have bz := bt bLb0 bLb1
  have nq := nq.below bz
  have oq := oq.below bz
  have HQ := Lib.hid (HQ.out.below bz)
  have HM := Lib.hid (HM.out.below bz)
  have HC := Lib.hid (HC.out.below bz)
  have HTW := Lib.hid (HTW.out.below bz)
  have HBC := Lib.hid (bt HBC.out bz)
  clear hLb0 zLb0 bLb0 hLb1 zLb1 bLb1 mq bz ba zwa
  go_wp2_with fail
  rw [← HLb0.out, ← HLb1.out]
  refine (rsamem 2 0 2 0 Aq Bq (some ⟨wa.heap.size + 1 + 1, 0, none⟩) (some ⟨wa.heap.size + 1 + 1 + 1 + 1 + 1, 0, none⟩) 2 cq 2 dq 2 2 2 2 q14N q14O q14N q14O true Lb1 nq oq lLb0 lLb1 (by simp)).mono ?_
  rintro e wb ⟨rfl, bb⟩
  clear p0 p1 p2 p3 nq oq lLb0 lLb1
  have HQ := Lib.hid (HQ.out.below bb)
  have HM := Lib.hid (HM.out.below bb)
  have HC := Lib.hid (HC.out.below bb)
  have HTW := Lib.hid (HTW.out.below bb)
  have HBC := Lib.hid (bt HBC.out bb)
  obtain ⟨Am, cm, Bm, dm, mm, nm, om⟩ := HM.out
  obtain ⟨p0, p1, p2, p3, _⟩ := mm.cells
  have zwb : wb.heap.size = wb.heap.size := rfl
  obtain ⟨Lc0, hLc0⟩ : ∃ Lc0, Lc0 = (((wb.alloc (.cells #[.int .i64 7] 3)).alloc (.cells #[.int .i64 5] 3)).alloc (.cells #[.slice (some ⟨wb.heap.size, 0, none⟩) 1 1, .slice (some ⟨wb.heap.size + 1, 0, none⟩) 1 1] 27)) := ⟨_, rfl⟩
  have fLc0 : Lists Lc0 (some ⟨wb.heap.size + 1 + 1, 0, none⟩) 2 m14O ∧ Below wb.heap.size wb Lc0 ∧ Lc0.heap.size = wb.heap.size + 1 + 1 + 1 := by
    rw [hLc0]
    exact ⟨(litL_lists wb (wb.heap.size) m14O 2 zwb rfl (by decide) (by decide)).lists, litL_below wb (wb.heap.size) m14O, (litL_size wb (wb.heap.size) m14O).trans (by rw [zwb]; rfl)⟩
  obtain ⟨lLc0, bLc0, zLc0⟩ := fLc0
  have HLc0 := Lib.hid hLc0
  have bz := bLc0
  have nm := nm.below bz
  have om := om.below bz
  have HQ := Lib.hid (HQ.out.below bz)
  have HM := Lib.hid (HM.out.below bz)
  have HC := Lib.hid (HC.out.below bz)
  have HTW := Lib.hid (HTW.out.below bz)
  have HBC := Lib.hid (bt HBC.out bz)
  clear hLc0 zLc0 bLc0 mm bz bb zwb
  go_wp2_with fail
  rw [← HLc0.out]
  refine (rsamem 1 0 1 0 Am Bm (some ⟨w9.heap.size + 1 + 1 + 1, 0, none⟩) (some ⟨wb.heap.size + 1 + 1, 0, none⟩) 2 cm 2 dm 2 2 2 2 e14N m14O e14N m14O true Lc0 nm om HTW.out lLc0 (by simp)).mono ?_
  rintro e wc ⟨rfl, bc⟩
  clear p0 p1 p2 p3 nm om lLc0
  have HQ := Lib.hid (HQ.out.below bc)
  have HM := Lib.hid (HM.out.below bc)
  have HC := Lib.hid (HC.out.below bc)
  have HTW := Lib.hid (HTW.out.below bc)
  have HBC := Lib.hid (bt HBC.out bc)
  obtain ⟨Ac, cc, Bc, dc, mc, nc, oc⟩ := HC.out
  obtain ⟨p0, p1, p2, p3, _⟩ := mc.cells
  have zwc : wc.heap.size = wc.heap.size := rfl
  obtain ⟨Ld0, hLd0⟩ : ∃ Ld0, Ld0 = (((wc.alloc (.cells #[.int .i64 3] 3)).alloc (.cells #[.int .i64 4] 3)).alloc (.cells #[.slice (some ⟨wc.heap.size, 0, none⟩) 1 1, .slice (some ⟨wc.heap.size + 1, 0, none⟩) 1 1] 27)) := ⟨_, rfl⟩
  have fLd0 : Lists Ld0 (some ⟨wc.heap.size + 1 + 1, 0, none⟩) 2 c14O ∧ Below wc.heap.size wc Ld0 ∧ Ld0.heap.size = wc.heap.size + 1 + 1 + 1 := by
    rw [hLd0]
    exact ⟨(litL_lists wc (wc.heap.size) c14O 2 zwc rfl (by decide) (by decide)).lists, litL_below wc (wc.heap.size) c14O, (litL_size wc (wc.heap.size) c14O).trans (by rw [zwc]; rfl)⟩
  obtain ⟨lLd0, bLd0, zLd0⟩ := fLd0
  have HLd0 := Lib.hid hLd0
  have bz := bLd0
  have nc := nc.below bz
  have oc := oc.below bz
  have HQ := Lib.hid (HQ.out.below bz)
  have HM := Lib.hid (HM.out.below bz)
  have HC := Lib.hid (HC.out.below bz)
  have HTW := Lib.hid (HTW.out.below bz)
  have HBC := Lib.hid (bt HBC.out bz)
  clear hLd0 zLd0 bLd0 mc bz bc zwc
  go_wp2_with fail
  rw [← HLd0.out]
  refine (rsamem 1 0 1 0 Ac Bc (some ⟨w9.heap.size + 1 + 1 + 1, 0, none⟩) (some ⟨wc.heap.size + 1 + 1, 0, none⟩) 2 cc 2 dc 2 2 2 2 e14N c14O e14N c14O true Ld0 nc oc HTW.out lLd0 (by simp)).mono ?_
  rintro e wd ⟨rfl, bd⟩
  clear p0 p1 p2 p3 nc oc lLd0
  go_wp2_with fail
  go_ret
  exact ⟨rfl, bt HBC.out bd⟩
end Go.Proofs.Ytogcecfeofbbnaa
end

section
/- Great of the laws of minimize, with what it says of the numbers of states and inputs. -/
namespace Go.Proofs.Ytogcecfeofbbnaa
open Go.RowKit

def SomeNI (n : Nat) (i : Int) (w : World) (e : Ending) (w' : World) : Prop := ∃ b : Bool, e = .returned (.bool b) ∧ (b = false → n ≤ 12 ∧ i ≤ 6) ∧ Below w.heap.size w w'
set_option maxHeartbeats 1000000 in
theorem rgreat10 (i st : Int) (A B : Option Addr) (n c m d : Nat) (nx ot : List (List Int)) (w : World) (hx : Lists w A n nx) (ho : Lists w B m ot) :
    Calls Try.prog 30 #[.agg #[.int .i64 i, .int .i64 st, .slice A n c, .slice B m d]] w (SomeNI n i w) := by
  have hb0 := alloc_below w (.cells #[.int .i64 i, .int .i64 st, .slice A n c, .slice B m d] 24)
  have hB := mealy_box w (.int .i64 i) (.int .i64 st) (.slice A n c) (.slice B m d)
  have hn := hx.2.1
  have hm := ho.2.1
  by_cases h1 : 12 < n
  · have d1 : decide ((12 : Int) < (n : Int)) = true := by simp; omega
    go_enter Try.func30, Try.ntmps30
    go_wp2
    go_ret
    exact ⟨true, rfl, (fun h => absurd h (by decide)), hb0⟩
  · have d1 : decide ((12 : Int) < (n : Int)) = false := by simp; omega
    have hn12 : n ≤ 12 := by omega
    by_cases h2 : 12 < m
    · have d2 : decide ((12 : Int) < (m : Int)) = true := by simp; omega
      go_enter Try.func30, Try.ntmps30
      go_wp2
      go_ret
      exact ⟨true, rfl, (fun h => absurd h (by decide)), hb0⟩
    · have d2 : decide ((12 : Int) < (m : Int)) = false := by simp; omega
      by_cases h3 : 6 < i
      · have d3 : decide ((6 : Int) < i) = true := by simpa using h3
        go_enter Try.func30, Try.ntmps30
        go_wp2
        go_ret
        exact ⟨true, rfl, (fun h => absurd h (by decide)), hb0⟩
      · have hi6 : i ≤ 6 := by omega
        have d3 : decide ((6 : Int) < i) = false := by simpa using h3
        go_enter Try.func30, Try.ntmps30
        go_wp2
        generalize w.alloc (.cells #[.int .i64 i, .int .i64 st, .slice A n c, .slice B m d] 24) = w1 at hb0 hB ⊢
        obtain ⟨k0, k1, k2, k3, _⟩ := hB.cells
        clear hB d1 d2 d3
        go_loop [23] (fun kv => ∃ k : Nat, k ≤ n ∧ kv = .int .i64 k) (fun kv => n - (intOf kv).toNat)
        case atStart => exact ⟨0, Nat.zero_le _, rfl⟩
        case round =>
          obtain ⟨k, hk, rfl⟩ := hrel
          by_cases hlt : k < n
          · obtain ⟨g1, o1, A1, n1, c1, rfl, hg1, hd1, hr1⟩ := hx.at_ hlt
            have e1 := (hb0.cell (p := ⟨g1, o1 + k, none⟩) hg1).trans hd1
            clear hd1
            go_wp2
            · go_ret
              exact ⟨_, rfl, fun _ => ⟨hn12, hi6⟩, hb0⟩
            · go_round
              case rel => exact ⟨k + 1, by omega, by go_num⟩
              case measure => simp [intOf]; omega
          · go_wp2
            go_loop [37] (fun kv => ∃ k : Nat, k ≤ m ∧ kv = .int .i64 k) (fun kv => m - (intOf kv).toNat)
            case atStart => exact ⟨0, Nat.zero_le _, rfl⟩
            case round =>
              obtain ⟨k, hk, rfl⟩ := hrel
              by_cases hlt : k < m
              · obtain ⟨g1, o1, A1, n1, c1, rfl, hg1, hd1, hr1⟩ := ho.at_ hlt
                have e1 := (hb0.cell (p := ⟨g1, o1 + k, none⟩) hg1).trans hd1
                clear hd1
                go_wp2
                · go_ret
                  exact ⟨_, rfl, fun _ => ⟨hn12, hi6⟩, hb0⟩
                · go_round
                  case rel => exact ⟨k + 1, by omega, by go_num⟩
                  case measure => simp [intOf]; omega
              · go_wp2
                go_ret
                exact ⟨_, rfl, fun _ => ⟨hn12, hi6⟩, hb0⟩
end Go.Proofs.Ytogcecfeofbbnaa
end

section
/- Greatest of the reference of compose. -/
namespace Go.Proofs.Ytogcecfeofbbnaa
open Go.RowKit

/-- The greatest output of the first s rows; and of a symbols of the next one. -/
def grS (ot : List (List Int)) (s : Nat) : Nat := ((ot.take s).flatten.map Int.toNat).foldl max 0
def grA (ot : List (List Int)) (s a : Nat) : Nat := (((ot.getD s []).take a).map Int.toNat).foldl max (grS ot s)
theorem grA_zero (ot : List (List Int)) (s : Nat) : grA ot s 0 = grS ot s := by simp [grA]
theorem grA_next {i st n : Nat} {nx ot : List (List Int)} (hM : Mok i st n nx ot) {s a : Nat} (hs : s < n) (ha : a < i) : grA ot s (a + 1) = max (grA ot s a) (oM ot s a) := by
  unfold grA
  have h1 : a < (ot.getD s []).length := by rw [(hM.row s hs).2.1]; exact ha
  rw [List.take_succ_eq_append_getElem h1, List.map_append, List.foldl_append]
  show max _ ((ot.getD s [])[a]).toNat = max _ ((ot.getD s []).getD a 0).toNat
  rw [List.getD_eq_getElem?_getD (l := ot.getD s []), List.getElem?_eq_getElem h1]; rfl
theorem grA_all {i st n : Nat} {nx ot : List (List Int)} (hM : Mok i st n nx ot) {s : Nat} (hs : s < n) : grA ot s i = grS ot (s + 1) := by
  unfold grA grS
  have h1 : s < ot.length := by rw [hM.otl]; exact hs
  rw [show (ot.getD s []).take i = ot.getD s [] from List.take_of_length_le (by rw [(hM.row s hs).2.1]; exact Nat.le_refl _), List.take_succ_eq_append_getElem h1, List.flatten_append, List.map_append, List.foldl_append, List.getD_eq_getElem?_getD, List.getElem?_eq_getElem h1]
  simp
theorem grS_all {i st n : Nat} {nx ot : List (List Int)} (hM : Mok i st n nx ot) : grS ot n = grt ot := by
  unfold grS grt
  rw [List.take_of_length_le (by rw [hM.otl]; exact Nat.le_refl _)]
theorem grA_le {i st n : Nat} {nx ot : List (List Int)} (hM : Mok i st n nx ot) : ∀ (s : Nat), s < n → ∀ a, a ≤ i → grA ot s a ≤ 1048576 := by
  intro s
  induction s with
  | zero =>
    intro hs a
    induction a with
    | zero => intro _; rw [grA_zero]; simp [grS]
    | succ a ih =>
      intro ha
      rw [grA_next hM hs (by omega)]
      have := ih (by omega)
      have := hM.oM_le hs (show a < i by omega)
      omega
  | succ s ihs =>
    intro hs a
    induction a with
    | zero =>
      intro _
      rw [grA_zero, ← grA_all hM (by omega)]
      exact ihs (by omega) i (Nat.le_refl _)
    | succ a ih =>
      intro ha
      rw [grA_next hM hs (by omega)]
      have := ih (by omega)
      have := hM.oM_le hs (show a < i by omega)
      omega
set_option maxHeartbeats 1000000 in
theorem rgreatest (i st n : Nat) (A B : Option Addr) (c d : Nat) (nx ot : List (List Int)) (w : World) (_ : Lists w A n nx) (ho : Lists w B n ot) (hM : Mok i st n nx ot) :
    Calls Try.prog 44 #[.agg #[.int .i64 i, .int .i64 st, .slice A n c, .slice B n d]] w fun e w' => e = .returned (.int .i64 (grt ot : Nat)) ∧ Below w.heap.size w w' := by
  have hb0 := alloc_below w (.cells #[.int .i64 i, .int .i64 st, .slice A n c, .slice B n d] 24)
  have hB := mealy_box w (.int .i64 i) (.int .i64 st) (.slice A n c) (.slice B n d)
  have HM := Lib.hid hM
  have hn := hM.n2
  have hi := hM.i2
  have HO := Lib.hid ho
  have HA := Lib.hid (grS_all hM)
  clear ho hM
  go_enter Try.func44, Try.ntmps44
  go_wp2
  generalize w.alloc (.cells #[.int .i64 i, .int .i64 st, .slice A n c, .slice B n d] 24) = w1 at hb0 hB ⊢
  obtain ⟨k0, k1, k2, k3, _⟩ := hB.cells
  clear hB
  go_loop [3, 4] (fun v3 v4 => ∃ s : Nat, s ≤ n ∧ v4 = .int .i64 s ∧ v3 = .int .i64 (grS ot s : Nat)) (fun _ v4 => n - (intOf v4).toNat)
  case atStart => exact ⟨0, Nat.zero_le _, rfl, by simp [grS]⟩
  case round =>
    obtain ⟨s, hs, rfl, rfl⟩ := hrel
    by_cases hlt : s < n
    · obtain ⟨g1, o1, A1, n1, c1, rfl, hg1, hd1, hr1⟩ := HO.out.at_ hlt
      obtain rfl : i = n1 := by rw [← hr1.1]; exact (HM.out.row s hlt).2.1.symm
      have e1 := (hb0.cell (p := ⟨g1, o1 + s, none⟩) hg1).trans hd1
      have HR1 := Lib.hid hr1
      have HZ := Lib.hid (grA_zero ot s)
      have HAL := Lib.hid (grA_all HM.out hlt)
      clear hd1 hr1
      go_wp2
      go_loop [3, 5] (fun v3 v5 => ∃ a : Nat, a ≤ i ∧ v5 = .int .i64 a ∧ v3 = .int .i64 (grA ot s a : Nat)) (fun _ v5 => i - (intOf v5).toNat)
      case atStart => exact ⟨0, Nat.zero_le _, rfl, by rw [HZ.out]⟩
      case round =>
        obtain ⟨a, ha, rfl, rfl⟩ := hrel
        by_cases hlt2 : a < i
        · obtain ⟨g2, o2, rfl, hg2, hd2⟩ := HR1.out.at_ hlt2
          have e2 := (hb0.cell (p := ⟨g2, o2 + a, none⟩) hg2).trans hd2
          rw [show (ot.getD s []).getD a 0 = (oM ot s a : Int) from HM.out.oM_eq hlt hlt2] at e2
          have HN := Lib.hid (grA_next HM.out hlt hlt2)
          obtain ⟨x, hx⟩ : ∃ x, x = oM ot s a := ⟨_, rfl⟩
          obtain ⟨y, hy⟩ : ∃ y, y = grA ot s a := ⟨_, rfl⟩
          have hyl : y ≤ 1048576 := by rw [hy]; exact grA_le HM.out s hlt a ha
          have hxl : x ≤ 1048576 := by rw [hx]; exact HM.out.oM_le hlt hlt2
          rw [← hx, ← hy] at HN
          rw [← hx] at e2
          rw [← hy]
          obtain ⟨z, hz⟩ : ∃ z : Nat, z = max y x := ⟨_, rfl⟩
          have hzi : max (y : Int) (x : Int) = (z : Int) := by rw [hz]; omega
          have HZZ := Lib.hid hz
          clear hx hy hz hd2
          go_wp2
          go_round
          case rel => exact ⟨a + 1, by omega, by go_num, by rw [HN.out]; first | (congr 1; split <;> omega) | (rw [HZZ.out]; done) | (congr 1; omega) | (congr 2; omega) | (simp; omega) | (rw [hzi, HZZ.out])⟩
          case measure => simp [intOf]; omega
        · have HAI := Lib.hid (show a = i by omega)
          go_wp2
          go_round
          case rel => exact ⟨s + 1, by omega, by go_num, by rw [HAI.out, HAL.out]⟩
          case measure => simp [intOf]; omega
    · have HSN := Lib.hid (show s = n by omega)
      go_wp2
      go_ret
      exact ⟨by rw [HSN.out, HA.out]; rfl, hb0⟩
end Go.Proofs.Ytogcecfeofbbnaa
end

section
/- What a well formed number is. -/
namespace Go.Proofs.Ytogcecfeofbbnaa

theorem u64_nat {a : Int} (h : (Lit.int .u64 a).wf = true) : ∃ s : Nat, a = s ∧ s < 18446744073709551616 := by
  obtain ⟨h1, h2⟩ := (Lit.wf_int_iff _ _).1 h
  simp [IntKind.min, IntKind.max, IntKind.signed, IntKind.bits] at h1 h2
  exact ⟨a.toNat, by omega, by omega⟩
theorem u8_nat {a : Int} (h : (Lit.int .u8 a).wf = true) : ∃ s : Nat, a = s ∧ s < 256 := by
  obtain ⟨h1, h2⟩ := (Lit.wf_int_iff _ _).1 h
  simp [IntKind.min, IntKind.max, IntKind.signed, IntKind.bits] at h1 h2
  exact ⟨a.toNat, by omega, by omega⟩
theorem i64_in {a : Int} (h : (Lit.int .i64 a).wf = true) : -9223372036854775808 ≤ a ∧ a ≤ 9223372036854775807 := by
  obtain ⟨h1, h2⟩ := (Lit.wf_int_iff _ _).1 h
  simp [IntKind.min, IntKind.max, IntKind.signed, IntKind.bits] at h1 h2
  exact ⟨h1, h2⟩
end Go.Proofs.Ytogcecfeofbbnaa
end

section
/- A slice of numbers of any kind that reads as a list. -/
namespace Go.Proofs.Ytogcecfeofbbnaa
open Go.RowKit

/-- The slice '.slice A n _' holds the numbers xs of the kind kd, which fit it. -/
def Nums (kd : IntKind) (w : World) (A : Option Addr) (n : Nat) (xs : List Int) : Prop :=
  xs.length = n ∧ n ≤ 17592186044416 ∧ (0 < n → ∃ b off, A = some ⟨b, off, none⟩ ∧ b < w.heap.size ∧ ∀ j, j < n → w.cell? ⟨b, off + j, none⟩ = some (.int kd (xs[j]?.getD 0))) ∧
  ∀ j, j < n → (Lit.int kd (xs[j]?.getD 0)).wf = true

theorem Nums.below {kd : IntKind} {w w' : World} {A : Option Addr} {n : Nat} {xs : List Int} (h : Nums kd w A n xs) (hb : Below w.heap.size w w') : Nums kd w' A n xs :=
  ⟨h.1, h.2.1, fun hn => by
    obtain ⟨b, off, e, hlt, hc⟩ := h.2.2.1 hn
    exact ⟨b, off, e, Nat.lt_of_lt_of_le hlt hb.size, fun j hj => (hb.cell hlt).trans (hc j hj)⟩, h.2.2.2⟩

theorem Nums.at_ {kd : IntKind} {w : World} {A : Option Addr} {n : Nat} {xs : List Int} (h : Nums kd w A n xs) {k : Nat} (hk : k < n) :
    ∃ b off, A = some ⟨b, off, none⟩ ∧ b < w.heap.size ∧ w.cell? ⟨b, off + k, none⟩ = some (.int kd (xs[k]?.getD 0)) := by
  obtain ⟨b, off, e, hlt, hc⟩ := h.2.2.1 (by omega)
  exact ⟨b, off, e, hlt, hc k hk⟩

theorem Nums.of_in {kd : IntKind} {w : World} {A : Option Addr} {n cap : Nat} {zs : List Int} (hn : n ≤ 17592186044416)
    (h : (A = none ∧ n = 0 ∧ cap = 0 ∧ zs = []) ∨
      ∃ x, A = some x ∧ n ≤ cap ∧ cap ≤ maxLen ∧ zs.length = cap ∧ (∀ i, i < zs.length → w.cell? (x.add i) = some (.int kd (zs.getD i 0))) ∧ ∀ n ∈ zs, (Lit.int kd n).wf = true) :
    Nums kd w A n (zs.take n) := by
  rcases h with ⟨rfl, rfl, rfl, rfl⟩ | ⟨x, rfl, h1, _, h2, hc, hw⟩
  · exact ⟨rfl, by omega, fun h => absurd h (by omega), fun j h => absurd h (by omega)⟩
  · refine ⟨by rw [List.length_take]; omega, hn, fun h0 => ?_, fun j hj => ?_⟩
    · obtain ⟨b, off, spot⟩ := x
      have hc0 := hc 0 (by omega)
      have hspot : spot = none := by simpa [Addr.add] using World.cell?_spot hc0
      subst hspot
      refine ⟨b, off, rfl, by have := block_lt hc0; simpa [Addr.add] using this, fun j hj => ?_⟩
      have := hc j (by omega)
      rw [show (⟨b, off, none⟩ : Addr).add j = ⟨b, off + j, none⟩ by unfold Addr.add; split <;> simp_all] at this
      rw [this]
      simp [List.getD, hj]
    · apply hw
      rw [List.getElem?_take, if_pos hj, List.getElem?_eq_getElem (by omega)]
      exact List.getElem_mem _
end Go.Proofs.Ytogcecfeofbbnaa
end

section
/- What the rows hand over: slices of numbers, with the form's reach. -/
namespace Go.Proofs.Ytogcecfeofbbnaa
open Go.ChangeShapes Go.WideShapes Go.ChangeAt Go.RowKit Go.Joins Go.Deep

theorem bsz {w w' : World} {o : Obj} (h : Below (w.heap.size + 1) (w.alloc o) w') : w.heap.size + 1 ≤ w'.heap.size := by have := h.size; simpa using this

section
variable {H : Type} {enc : TypeId × Value → H}

/-- A change's contract with the reach at hand. -/
theorem handed_sized {C : Checked} {os : Os} {f : FuncId} {fn : Func} {s : ChangeSpec} {conds : List PathCond} {apart fresh handsOn again : Bool}
    (own : ownKnob C.prog.godebug = none) (started : os.Started) (noInit : C.prog.inits.idxOf? f = none) (hfn : C.prog.funcs[f]? = some fn)
    (witness : ∃ (w : World) (tape : Tape) (i : Input), w.os = os ∧ (w.forCall tape i).Shaped C.prog ∧ i.vars = [] ∧ Input.okWide C.prog (w.forCall tape i) .any w.heap.size f i ∧
      s.pre6 enc C.prog fn conds apart (w.forCall tape i).memory i.args ∧ ({} : Assume).holds C.prog (lone (Frame.enter C.prog f i.args .normal) [] (w.forCall tape i)))
    (contract : ∀ (W : World) (base : Nat) (args : Array Value) (ds gs : List (DataW H)) (before : List MemPlace),
      (∀ (j : Nat) t v, fn.params[j]? = some t → args[j]? = some v → Value.okWide C.prog W .any base t v) →
      DataW.Whole enc C.prog fn.params.toList s.vars apart W args.toList ds gs before →
      (DataW.weightsEach C.prog (fn.params.toList ++ s.plain.varTypes C.prog) (ds ++ gs)).all (· ≤ reachBytes) = true →
      Calls C.prog f args W fun e W' => ∃ v, e = .returned v ∧ s.post enc C.prog fn apart fresh handsOn again W args v W') :
    ReturnsInHanded {} C os f .any (s.pre6 enc C.prog fn conds apart) (s.post enc C.prog fn apart fresh handsOn again) := by
  have e : s.pre6 enc C.prog fn conds apart = fun w args => (s.pre enc C.prog fn conds apart w args ∧ True) ∧ sizedMet enc C.prog fn (OpenSpec.ofChange s) apart w args := by
    funext w args
    unfold ChangeSpec.pre6
    rw [and_true]
  rw [e] at witness ⊢
  exact returnsInHanded_of_change_and (X := fun _ _ => True) (fun _ _ _ _ _ => trivial) own started noInit hfn witness (fun W base args ds gs before h1 h2 _ h4 _ _ => contract W base args ds gs before h1 h2 h4)

/-- What a datum weighs is within the reach. -/
def Light (P : Program) (t : TypeId) (d : DataW H) : Prop := ∀ n ∈ d.weights P t, n ≤ reachBytes
theorem light_of {P : Program} {ts : List TypeId} {ds : List (DataW H)} (h : (DataW.weightsEach P ts ds).all (· ≤ reachBytes) = true) {j : Nat} {t : TypeId} {d : DataW H} (ht : ts[j]? = some t) (hd : ds[j]? = some d) : Light P t d := fun n hn => by
  have := List.all_eq_true.1 h _ (DataW.weights_mem_each ht hd n hn)
  simpa using this

theorem add_none {b off k : Nat} : (⟨b, off, none⟩ : Addr).add k = ⟨b, off + k, none⟩ := by unfold Addr.add; split <;> simp_all
theorem reach_num : reachBytes = 140737488351232 := rfl

variable {w : World} {base : Nat} {held : Bool} {fuel : Nat} {cs : List Value} {x : DataW H × List MemPlace}

/-- A slice of ints that came in. -/
theorem open_intsw (hb3 : Try.prog.bytesOf 3 = 8) (h : DataW.trod enc Try.prog w base (fun _ => true) held fuel 27 cs = some x) (hl : Light Try.prog 27 x.1) :
    ∃ A n c zs, cs = [.slice A n c] ∧ n ≤ c ∧ Ints w A n zs ∧ (∀ z, z ∈ zs → (Lit.int .i64 z).wf = true) := by
  rcases open_ints Try.underlying27 Try.underlying3 (by kernel_rfl) h with ⟨hcs, hx⟩ | ⟨a, l, c, zs, hcs, _, hlc, hm, hz, hx, hcell, hwz⟩
  · exact ⟨none, 0, 0, [], hcs, Nat.le_refl _, ⟨rfl, by omega, fun h => absurd h (by omega)⟩, by simp⟩
  · simp only [if_true] at hz
    subst hx
    have := hl (((lits (H := H) .i64 (zs.take l)).length + (lits (H := H) .i64 (zs.drop l)).length) * 8) (by simp [DataW.weights, Try.underlying27, hb3])
    rw [reach_num] at this
    simp only [lits, List.length_map, List.length_take, List.length_drop] at this
    have hb : l ≤ 17592186044416 := by omega
    exact ⟨some a, l, c, zs.take l, hcs, hlc, Ints.of_in (cap := c) hb (.inr ⟨a, rfl, hlc, hm, hz, hcell, hwz⟩), fun z hz => hwz z (List.mem_of_mem_take hz)⟩

theorem weightsAll_mem {P : Program} {e : TypeId} : ∀ {l : List (DataW H)} {d : DataW H} {n : Nat}, d ∈ l → n ∈ d.weights P e → n ∈ DataW.weightsAll P e l
  | [], _, _, h, _ => absurd h (by simp)
  | d0 :: l, d, n, h, hn => by
    rw [DataW.weightsAll, List.mem_append]
    rcases List.mem_cons.1 h with e | h
    · subst e; exact .inl hn
    · exact .inr (weightsAll_mem h hn)
end
end Go.Proofs.Ytogcecfeofbbnaa
end

section
/- What the rows hand over: slices of lists, machines, with the form's reach. -/
namespace Go.Proofs.Ytogcecfeofbbnaa
open Go.ChangeShapes Go.WideShapes Go.ChangeAt Go.RowKit Go.Joins Go.Deep

section
variable {H : Type} {enc : TypeId × Value → H} {w : World} {base : Nat} {held : Bool} {fuel : Nat} {cs : List Value} {x : DataW H × List MemPlace}

/-- A slice of slices of ints that came in. -/
theorem open_lists (hb3 : Try.prog.bytesOf 3 = 8) (hb4 : Try.prog.bytesOf 27 = 24) (h : DataW.trod enc Try.prog w base (fun _ => true) held fuel 22 cs = some x) (hl : Light Try.prog 22 x.1) :
    ∃ A n c xss, cs = [.slice A n c] ∧ n ≤ c ∧ Lists w A n xss := by
  rcases open_int_rows Try.underlying22 Try.underlying27 Try.underlying3 (by kernel_rfl) (by kernel_rfl) h with ⟨hcs, hx⟩ | ⟨a, l, c, A, L, C, Z, hcs, _, hlc, hm, hx, hcell⟩
  · exact ⟨none, 0, 0, [], hcs, Nat.le_refl _, ⟨rfl, by omega, fun h => absurd h (by omega)⟩⟩
  · subst hx
    refine ⟨some a, l, c, (List.range l).map fun r => (Z r).take (L r), hcs, hlc, by simp, ?_, fun h0 => ?_⟩
    · have := hl ((((List.range l).map fun r => intRow (H := H) .i64 (A r) (L r) (Z r)).length + ((List.range (c - l)).map fun j => intRow (H := H) .i64 (A (l + j)) (L (l + j)) (Z (l + j))).length) * 24) (by simp [DataW.weights, Try.underlying22, hb4])
      rw [reach_num] at this
      simp only [List.length_map, List.length_range] at this
      omega
    · obtain ⟨b, off, spot⟩ := a
      have hc0 := (hcell 0 (by omega)).1
      have hspot : spot = none := by simpa [Addr.add] using World.cell?_spot hc0
      subst hspot
      refine ⟨b, off, rfl, by have := block_lt hc0; simpa [Addr.add] using this, fun j hj => ?_⟩
      obtain ⟨h1, h2, h3, h4, h5, h6, h7⟩ := hcell j (by omega)
      have e : ((List.range l).map fun r => (Z r).take (L r)).getD j [] = (Z j).take (L j) := by simp [List.getD, hj]
      rw [add_none] at h1
      refine ⟨A j, L j, C j, h1, ?_⟩
      rw [e]
      cases hA : A j with
      | none =>
        have hC := h6 hA
        exact Ints.of_in (cap := C j) (by omega) (.inl ⟨rfl, by omega, hC, List.eq_nil_of_length_eq_zero (by omega)⟩)
      | some y =>
        have hw : Light Try.prog 27 (intRow (H := H) .i64 (A j) (L j) (Z j)) := fun n hn => hl n (by
          simp only [DataW.weights, Try.underlying22]
          exact List.mem_cons_of_mem _ (List.mem_append_left _ (weightsAll_mem (List.mem_map.2 ⟨j, List.mem_range.2 hj, rfl⟩) hn)))
        rw [hA] at hw
        have := hw (((lits (H := H) .i64 ((Z j).take (L j))).length + (lits (H := H) .i64 ((Z j).drop (L j))).length) * 8) (by simp [intRow, DataW.weights, Try.underlying27, hb3])
        rw [reach_num] at this
        simp only [lits, List.length_map, List.length_take, List.length_drop] at this
        exact Ints.of_in (cap := C j) (by omega) (.inr ⟨y, rfl, h2, h3, h4, fun i hi => (h7 y hA).2 i (by omega), h5⟩)

theorem cells_mealy : Try.prog.cellsOf 24 = 4 := by kernel_rfl
set_option maxRecDepth 100000 in
/-- A machine that came in. -/
theorem open_mealy (hb3 : Try.prog.bytesOf 3 = 8) (hb4 : Try.prog.bytesOf 27 = 24) {r : Reach} {b0 : Nat} {v : Value} {d : DataW H} {p : List MemPlace} (hv : Value.okWide Try.prog w r b0 24 v) (h : DataW.Trod enc Try.prog w base (fun _ => true) held 24 v d p) (hl : Light Try.prog 24 d) :
    ∃ i st A n c B m e nx ot, v = .agg #[.int .i64 i, .int .i64 st, .slice A n c, .slice B m e] ∧ Lists w A n nx ∧ Lists w B m ot ∧ (Lit.int .i64 i).wf = true ∧ (Lit.int .i64 st).wf = true := by
  obtain ⟨c0, c1, c2, c3, y0, y1, y2, y3, f, rfl, hd, _, h0, h1, h2, h3⟩ := open_agg4 Try.underlying24 (by kernel_rfl) cells_mealy hv h
  obtain ⟨i, e0, _, w0⟩ := DataW.trod_int Try.underlying3 h0
  obtain ⟨st, e1, _, w1⟩ := DataW.trod_int Try.underlying3 h1
  subst hd
  have hw : ∀ n, n ∈ y2.1.weights Try.prog 22 ∨ n ∈ y3.1.weights Try.prog 22 → n ≤ reachBytes := fun n hn => hl n (by
    simp only [DataW.weights, Try.underlying24]
    rcases hn with hn | hn
    · exact DataW.weights_mem_each (j := 2) rfl rfl n hn
    · exact DataW.weights_mem_each (j := 3) rfl rfl n hn)
  obtain ⟨A, n, c, nx, e2, _, l2⟩ := open_lists hb3 hb4 h2 (fun n hn => hw n (.inl hn))
  obtain ⟨B, m, e, ot, e3, _, l3⟩ := open_lists hb3 hb4 h3 (fun n hn => hw n (.inr hn))
  simp at e0 e1 e2 e3
  subst e0 e1 e2 e3
  exact ⟨i, st, A, n, c, B, m, e, nx, ot, rfl, l2, l3, w0, w1⟩
end
end Go.Proofs.Ytogcecfeofbbnaa
end
