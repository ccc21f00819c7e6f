/- Lemmas of the proofs of this seat, of the parts Hrow, Litl, Awak8, Gr8, M8a, M8b, M8c, Sep8, Sepw, M8p, M8d. Conditions: none. -/
import Derived.Test.YtnifjagjcoegaaaMaa
import Derived.Test.YtnifjagjcoegaaaMab
import Derived.Lib.SliceRun
import Derived.Maps.AppendAt
import Derived.Test.YtnifjagjcoegaaaMad
import Derived.StillTailTactics
section
/- Rows of headers that a call owns, each with what it reads as; append of headers. -/
namespace Go.Proofs.Ytnifjagjcoegaaa
open Go.RowKit

/-- A header and the list that it reads as. -/
abbrev HL := Value × List Int
/-- The slice value v is a row of the headers of ps in a block from base on, which the call may write. -/
def HRow (w : World) (base : Nat) (v : Value) (ps : List HL) : Prop := w.ownsRow base 26 1 v ps.length (ps.map Prod.fst) ∧ ∀ p, p ∈ ps → ∃ A n c, p.1 = .slice A n c
/-- The header p reads as its list, in a block below top. -/
def InAt (w : World) (top : Nat) (p : HL) : Prop := ∃ A n c, p.1 = .slice A n c ∧ Ints w A n p.2 ∧ n ≤ c ∧ ∀ a, A = some a → 0 < n → a.block < top
/-- The slice '.slice A n _' holds the headers of ps. -/
def Hds (w : World) (A : Option Addr) (n : Nat) (ps : List HL) : Prop :=
  ps.length = n ∧ n ≤ 17592186044416 ∧ (0 < n → ∃ b off, A = some ⟨b, off, none⟩ ∧ b < w.heap.size ∧ ∀ j p, ps[j]? = some p → w.cell? ⟨b, off + j, none⟩ = some p.1) ∧ ∀ p, p ∈ ps → ∃ A n c, p.1 = .slice A n c

theorem InAt.below {w w' : World} {top : Nat} {p : HL} (h : InAt w top p) (hb : Below w.heap.size w w') : InAt w' top p := by
  obtain ⟨A, n, c, e, hi, hc, ht⟩ := h
  exact ⟨A, n, c, e, hi.below hb, hc, ht⟩
theorem InAt.mono {w : World} {top top' : Nat} {p : HL} (h : InAt w top p) (hb : top ≤ top') : InAt w top' p := by
  obtain ⟨A, n, c, e, hi, hc, ht⟩ := h
  exact ⟨A, n, c, e, hi, hc, fun a ha hn => Nat.lt_of_lt_of_le (ht a ha hn) hb⟩
/-- What lies below top reads as before where what lies there is as before. -/
theorem InAt.on {w w' : World} {top : Nat} {p : HL} (h : InAt w top p) (hb : Below top w w') : InAt w' top p := by
  obtain ⟨A, n, c, e, hi, hnc, ht⟩ := h
  refine ⟨A, n, c, e, ⟨hi.1, hi.2.1, fun hn => ?_⟩, hnc, ht⟩
  obtain ⟨b, off, rfl, hlt, hc⟩ := hi.2.2 hn
  have hbt : b < top := ht _ rfl hn
  refine ⟨b, off, rfl, ?_, fun j hj => (hb.cell (p := ⟨b, off + j, none⟩) hbt).trans (hc j hj)⟩
  have h0 := (hb.cell (p := ⟨b, off + 0, none⟩) hbt).trans (hc 0 hn)
  exact block_lt h0
theorem Hds.below {w w' : World} {A : Option Addr} {n : Nat} {ps : List HL} (h : Hds w A n ps) (hb : Below w.heap.size w w') : Hds w' A n ps :=
  ⟨h.1, h.2.1, fun hn => by
    obtain ⟨b, off, e, hlt, hc⟩ := h.2.2.1 hn
    exact ⟨b, off, e, Nat.lt_of_lt_of_le hlt hb.size, fun j p hp => (hb.cell hlt).trans (hc j p hp)⟩, h.2.2.2⟩
theorem Hds.at_ {w : World} {A : Option Addr} {n : Nat} {ps : List HL} (h : Hds w A n ps) {k : Nat} (hk : k < n) :
    ∃ b off B m d xs, A = some ⟨b, off, none⟩ ∧ b < w.heap.size ∧ ps[k]? = some (.slice B m d, xs) ∧ w.cell? ⟨b, off + k, none⟩ = some (.slice B m d) := by
  obtain ⟨b, off, e, hlt, hc⟩ := h.2.2.1 (by omega)
  have hl := h.1
  have hp : ps[k]? = some ps[k] := List.getElem?_eq_getElem (by omega)
  obtain ⟨B, m, d, e2⟩ := h.2.2.2 ps[k] (List.getElem_mem _)
  refine ⟨b, off, B, m, d, ps[k].2, e, hlt, ?_, ?_⟩
  · rw [hp, ← e2]
  · rw [hc k _ hp, e2]
/-- The slice '.slice A n _' holds the lists xss, none longer than its capacity. -/
def ListsC (w : World) (A : Option Addr) (n : Nat) (xss : List (List Int)) : Prop :=
  xss.length = n ∧ n ≤ 17592186044416 ∧ (0 < n → ∃ b off, A = some ⟨b, off, none⟩ ∧ b < w.heap.size ∧
    ∀ j, j < n → ∃ Aj nj cj, w.cell? ⟨b, off + j, none⟩ = some (.slice Aj nj cj) ∧ nj ≤ cj ∧ Ints w Aj nj (xss.getD j []))
theorem ListsC.lists {w : World} {A : Option Addr} {n : Nat} {xss : List (List Int)} (h : ListsC w A n xss) : Lists w A n xss :=
  ⟨h.1, h.2.1, fun hn => by
    obtain ⟨b, off, e, hlt, hc⟩ := h.2.2 hn
    refine ⟨b, off, e, hlt, fun j hj => ?_⟩
    obtain ⟨Aj, nj, cj, h1, _, h2⟩ := hc j hj
    exact ⟨Aj, nj, cj, h1, h2⟩⟩
theorem ListsC.below {w w' : World} {A : Option Addr} {n : Nat} {xss : List (List Int)} (h : ListsC w A n xss) (hb : Below w.heap.size w w') : ListsC w' A n xss :=
  ⟨h.1, h.2.1, fun hn => by
    obtain ⟨b, off, e, hlt, hc⟩ := h.2.2 hn
    refine ⟨b, off, e, Nat.lt_of_lt_of_le hlt hb.size, fun j hj => ?_⟩
    obtain ⟨Aj, nj, cj, h1, h0, h2⟩ := hc j hj
    exact ⟨Aj, nj, cj, (hb.cell hlt).trans h1, h0, h2.below hb⟩⟩
theorem ListsC.at_ {w : World} {A : Option Addr} {n : Nat} {xss : List (List Int)} (h : ListsC w A n xss) {k : Nat} (hk : k < n) :
    ∃ b off Aj nj cj, A = some ⟨b, off, none⟩ ∧ b < w.heap.size ∧ w.cell? ⟨b, off + k, none⟩ = some (.slice Aj nj cj) ∧ nj ≤ cj ∧ Ints w Aj nj (xss.getD k []) := by
  obtain ⟨b, off, e, hlt, hc⟩ := h.2.2 (by omega)
  obtain ⟨Aj, nj, cj, h1, h0, h2⟩ := hc k hk
  exact ⟨b, off, Aj, nj, cj, e, hlt, h1, h0, h2⟩
theorem ListsC.len {w : World} {A : Option Addr} {n : Nat} {xss : List (List Int)} (h : ListsC w A n xss) : ∀ x, x ∈ xss → x.length ≤ 17592186044416 := fun x hx => by
  obtain ⟨j, hj, rfl⟩ := List.getElem_of_mem hx
  obtain ⟨_, _, Aj, nj, cj, _, _, _, _, hi⟩ := h.at_ (k := j) (by rw [← h.1]; exact hj)
  have e : xss.getD j [] = xss[j] := by rw [List.getD_eq_getElem?_getD, List.getElem?_eq_getElem hj]; rfl
  rw [e] at hi
  rw [hi.1]; exact hi.2.1
/-- The headers of a list of lists. -/
theorem ListsC.hds {w : World} {A : Option Addr} {n : Nat} {xss : List (List Int)} (h : ListsC w A n xss) : ∃ ps : List HL, ps.map Prod.snd = xss ∧ Hds w A n ps ∧ ∀ p, p ∈ ps → InAt w w.heap.size p := by
  rcases Nat.eq_zero_or_pos n with h0 | h0
  · have hx : xss = [] := List.eq_nil_of_length_eq_zero (by rw [h.1, h0])
    subst hx
    exact ⟨[], rfl, ⟨by simp [h0], h.2.1, fun hn => absurd hn (by omega), fun p hp => absurd hp (by simp)⟩, fun p hp => absurd hp (by simp)⟩
  · obtain ⟨b, off, e, hlt, hc⟩ := h.2.2 h0
    have hex : ∀ j, ∃ p : HL, j < n → p.2 = xss.getD j [] ∧ w.cell? ⟨b, off + j, none⟩ = some p.1 ∧ InAt w w.heap.size p := fun j => by
      by_cases hj : j < n
      · obtain ⟨Aj, nj, cj, h1, h0, h2⟩ := hc j hj
        refine ⟨(.slice Aj nj cj, xss.getD j []), fun _ => ⟨rfl, h1, Aj, nj, cj, rfl, h2, h0, fun a ha hn => ?_⟩⟩
        obtain ⟨b', o', e', hlt', _⟩ := h2.2.2 hn
        rw [ha] at e'
        cases e'
        exact hlt'
      · exact ⟨default, fun h => absurd h hj⟩
    have hex2 := hex
    obtain ⟨f, hf⟩ : ∃ f : Nat → HL, ∀ j, j < n → (f j).2 = xss.getD j [] ∧ w.cell? ⟨b, off + j, none⟩ = some (f j).1 ∧ InAt w w.heap.size (f j) :=
      ⟨fun j => Classical.choose (hex2 j), fun j => Classical.choose_spec (hex2 j)⟩
    have hget : ∀ j p, ((List.range n).map f)[j]? = some p → j < n ∧ p = f j := fun j p hp => by
      rw [List.getElem?_map] at hp
      cases hr : (List.range n)[j]? with
      | none => rw [hr] at hp; simp at hp
      | some q =>
        rw [hr] at hp
        have hq := List.getElem?_eq_some_iff.1 hr
        obtain ⟨hq1, hq2⟩ := hq
        simp at hq1 hq2
        subst hq2
        simp at hp
        exact ⟨hq1, hp.symm⟩
    have hmem : ∀ p, p ∈ (List.range n).map f → ∃ j, j < n ∧ p = f j := fun p hp => by
      obtain ⟨j, hj, rfl⟩ := List.mem_map.1 hp
      exact ⟨j, List.mem_range.1 hj, rfl⟩
    refine ⟨(List.range n).map f, ?_, ⟨by simp, h.2.1, fun _ => ⟨b, off, e, hlt, fun j p hp => ?_⟩, fun p hp => ?_⟩, fun p hp => ?_⟩
    · apply List.ext_getElem
      · simp [h.1]
      · intro j h1 h2
        simp at h1
        have := (hf j h1).1
        simp [this, List.getD, List.getElem?_eq_getElem h2]
    · obtain ⟨hj, rfl⟩ := hget j p hp
      exact (hf j hj).2.1
    · obtain ⟨j, hj, rfl⟩ := hmem p hp
      obtain ⟨A, n, c, e, _⟩ := (hf j hj).2.2
      exact ⟨A, n, c, e⟩
    · obtain ⟨j, hj, rfl⟩ := hmem p hp
      exact (hf j hj).2.2

theorem HRow.nil (w : World) (base : Nat) : HRow w base (.slice none 0 0) [] := ⟨World.ownsRow_nil _ _ _ _, fun p hp => absurd hp (by simp)⟩
theorem HRow.form {w : World} {base : Nat} {v : Value} {ps : List HL} (h : HRow w base v ps) : ∃ A c, v = .slice A ps.length c := by
  rcases h.1.2 with ⟨rfl, h0⟩ | ⟨g, cap, cur, rfl, _⟩
  · exact ⟨none, 0, by rw [h0]⟩
  · exact ⟨_, _, rfl⟩
theorem HRow.lt {w : World} {base : Nat} {v : Value} {ps : List HL} (h : HRow w base v ps) : ∀ k, v.ownBlock = some k → base ≤ k ∧ k < w.heap.size := World.ownsRow.lt h.1
theorem HRow.kept {w w' : World} {base : Nat} {v : Value} {ps : List HL} (h : HRow w base v ps) (hb : Below w.heap.size w w') : HRow w' base v ps := by
  refine ⟨⟨h.1.1, ?_⟩, h.2⟩
  rcases h.1.2 with e | ⟨g, cap, cur, hv, hbg, hg, r⟩
  · exact .inl e
  · exact .inr ⟨g, cap, cur, hv, hbg, (hb.block g (heap_lt hg)).trans hg, r⟩
theorem HRow.lower {w : World} {base base' : Nat} {v : Value} {ps : List HL} (h : HRow w base v ps) (hb : base' ≤ base) : HRow w base' v ps := by
  refine ⟨⟨h.1.1, ?_⟩, h.2⟩
  rcases h.1.2 with e | ⟨g, cap, cur, hv, hbg, r⟩
  · exact .inl e
  · exact .inr ⟨g, cap, cur, hv, by omega, r⟩
theorem HRow.hds {w : World} {base : Nat} {A : Option Addr} {n c : Nat} {ps : List HL} (h : HRow w base (.slice A n c) ps) (hm : ps.length ≤ 17592186044416) : Hds w A n ps := by
  have hn : n = ps.length := by obtain ⟨A', c', e⟩ := h.form; cases e; rfl
  subst hn
  refine ⟨rfl, hm, fun h0 => ?_, h.2⟩
  rcases h.1.2 with ⟨e, h1⟩ | ⟨g, cap, cur, e, _, hg, _⟩
  · omega
  · cases e
    refine ⟨g, 0, rfl, heap_lt hg, fun j p hp => ?_⟩
    have hj : j < ps.length := (List.getElem?_eq_some_iff.1 hp).1
    have h3 := World.ownsRow.cellAt h.1 j (by omega)
    rw [Nat.zero_add, h3, List.getElem?_map, hp]; rfl
/-- A row of headers whose rows read as lists is a list of lists. -/
theorem Hds.lists {w : World} {top : Nat} {A : Option Addr} {n : Nat} {ps : List HL} (h : Hds w A n ps) (hi : ∀ p, p ∈ ps → InAt w top p) : ListsC w A n (ps.map Prod.snd) := by
  refine ⟨by rw [List.length_map]; exact h.1, h.2.1, fun h0 => ?_⟩
  obtain ⟨b, off, e, hlt, hc⟩ := h.2.2.1 h0
  refine ⟨b, off, e, hlt, fun j hj => ?_⟩
  have hl := h.1
  have hp : ps[j]? = some ps[j] := List.getElem?_eq_getElem (by omega)
  obtain ⟨B, m, d, e2, h2, h0, _⟩ := hi ps[j] (List.getElem_mem _)
  refine ⟨B, m, d, by rw [hc j _ hp, e2], h0, ?_⟩
  have : (ps.map Prod.snd).getD j [] = ps[j].2 := by rw [List.getD_eq_getElem?_getD, List.getElem?_map, hp]; rfl
  rw [this]; exact h2
theorem Hds.in_at {w : World} {A : Option Addr} {n : Nat} {ps : List HL} (h : Hds w A n ps) {top : Nat} (hi : ∀ p, p ∈ ps → InAt w top p) {k : Nat} (hk : k < n) :
    ∃ b off B m d, A = some ⟨b, off, none⟩ ∧ b < w.heap.size ∧ ps[k]? = some (.slice B m d, (ps.map Prod.snd).getD k []) ∧ w.cell? ⟨b, off + k, none⟩ = some (.slice B m d) ∧ m ≤ d ∧ Ints w B m ((ps.map Prod.snd).getD k []) ∧ InAt w top (.slice B m d, (ps.map Prod.snd).getD k []) := by
  obtain ⟨b, off, B, m, d, xs, e, hlt, hp, hc⟩ := h.at_ hk
  have hx : (ps.map Prod.snd).getD k [] = xs := by rw [List.getD_eq_getElem?_getD, List.getElem?_map, hp]; rfl
  rw [hx]
  have hin := hi _ (List.mem_of_getElem? hp)
  have h3 := hin
  obtain ⟨B', m', d', e2, h2, h0, _⟩ := h3
  cases e2
  exact ⟨b, off, B, m, d, e, hlt, hp, hc, h0, h2, hin⟩

/-- append(v, ys...) of headers onto a row of headers. -/
theorem run_append_heads {w : World} {base : Nat} {v : Value} {ps qs : List HL} {A : Option Addr} {m c : Nat} (h : HRow w base v ps) (hy : Hds w A m qs) (hbase : base ≤ w.heap.size) (hlen : (ps ++ qs).length ≤ 1759218604441) :
    ∃ v' w', (Builtin.append_ #[22, 22] 22 #[v, .slice A m c]).run Try.prog w = .ok v' w' ∧ HRow w' base v' (ps ++ qs) ∧ w.grownBy w' v.ownBlock ∧ Below base w w' := by
  obtain ⟨i, hi, hz0, hz1, hz2⟩ := info_parts infol
  have hsplit : ∀ k, v.ownBlock = some k → base ≤ k := fun k hk => (h.lt k hk).1
  have hforms : ∀ p, p ∈ ps ++ qs → ∃ A n c, p.1 = .slice A n c := fun p hp => by
    rcases List.mem_append.1 hp with hp | hp
    · exact h.2 p hp
    · exact hy.2.2.2 p hp
  rcases Nat.eq_zero_or_pos m with h0 | h0
  · have hys : qs = [] := List.eq_nil_of_length_eq_zero (by rw [hy.1, h0])
    subst h0 hys
    cases A with
    | none =>
      refine ⟨v, w, ?_, by simpa using h, World.grownBy.refl w _, Below.refl _ _⟩
      rcases h.1.2 with ⟨rfl, _⟩ | ⟨g, cap, cur, rfl, _, _, hnc, _⟩
      · simp [Builtin.append_, run_underlying Try.underlying22, sizeOf, typeInfo, hi, Builtin.lenOf, Builtin.firstCells]
      · simp [Builtin.append_, run_underlying Try.underlying22, sizeOf, typeInfo, hi, Builtin.lenOf, Builtin.firstCells, hnc, storeCells]
    | some a =>
      obtain ⟨v', w', hr, h1, h2, _⟩ := run_append_own (P := Try.prog) w base 22 22 26 i (.slice none 0 0) 1 24 Try.underlying22 hi hz0 hz1 hz2 rfl (by decide) v _ _ h.1 a 0 c [] (by simp) (by simp) (by simp)
        (by simp at hlen; unfold maxLen; omega) (by simp at hlen; omega) hbase
      exact ⟨v', w', hr, ⟨by simpa using h1, hforms⟩, h2, (Below.refl _ _).grown h2 hbase hsplit⟩
  · obtain ⟨b, off, rfl, hb, hc⟩ := hy.2.2.1 h0
    have hql := hy.1
    obtain ⟨v', w', hr, h1, h2, _⟩ := run_append_own (P := Try.prog) w base 22 22 26 i (.slice none 0 0) 1 24 Try.underlying22 hi hz0 hz1 hz2 rfl (by decide) v _ _ h.1 ⟨b, off, none⟩ m c (qs.map Prod.fst)
      (by simp [hql])
      (by
        intro j u hu
        rw [List.getElem?_map] at hu
        cases hq : qs[j]? with
        | none => rw [hq] at hu; simp at hu
        | some p =>
          rw [hq] at hu
          simp at hu
          subst hu
          rw [show (⟨b, off, none⟩ : Addr).add j = ⟨b, off + j, none⟩ by unfold Addr.add; split <;> simp_all]
          exact hc j p hq)
      (by
        intro u hu
        obtain ⟨p, hp, rfl⟩ := List.mem_map.1 hu
        obtain ⟨A, n, c, e⟩ := hy.2.2.2 p hp
        rw [e]; rfl)
      (by rw [List.length_append] at hlen; rw [← hql]; unfold maxLen; omega) (by rw [List.length_append] at hlen; rw [← hql]; omega) hbase
    refine ⟨v', w', hr, ⟨?_, hforms⟩, h2, (Below.refl _ _).grown h2 hbase hsplit⟩
    rw [List.length_append, List.map_append, hql]
    exact h1

/-- append(v, x) of one header. -/
theorem run_append_head {w : World} {base : Nat} {v : Value} {ps : List HL} {B : Option Addr} {m d : Nat} (h : HRow w base v ps) (xs : List Int) (hbase : base ≤ w.heap.size) (hl : ps.length < 1759218604441) :
    ∃ A c w', (Builtin.append_ #[22, 22] 22 #[v, .slice (some ⟨w.heap.size, 0, none⟩) 1 1]).run Try.prog (w.alloc (.cells #[.slice B m d] 26)) = .ok (.slice A (ps.length + 1) c) w' ∧
      HRow w' base (.slice A (ps.length + 1) c) (ps ++ [(.slice B m d, xs)]) ∧ w.grownBy w' v.ownBlock ∧ Below base w w' := by
  have hbz := alloc_below w (.cells #[.slice B m d] 26)
  have hd : Hds (w.alloc (.cells #[.slice B m d] 26)) (some ⟨w.heap.size, 0, none⟩) 1 [(.slice B m d, xs)] := by
    refine ⟨rfl, by omega, fun _ => ⟨w.heap.size, 0, rfl, by simp, fun j p hp => ?_⟩, fun p hp => ?_⟩
    · cases j with
      | zero =>
        simp at hp
        subst hp
        have := cell_of_row (w.alloc (.cells #[.slice B m d] 26)) w.heap.size 0 #[.slice B m d] 26 (0, 0) (heap_alloc_new w _)
        rw [Nat.zero_add, this]; rfl
      | succ j => simp at hp
    · simp at hp; subst hp; exact ⟨B, m, d, rfl⟩
  obtain ⟨v', w', hr, h1, h2, h3⟩ := run_append_heads (c := 1) (h.kept hbz) hd (Nat.le_trans hbase hbz.size) (by simp; omega)
  obtain ⟨A, c, e⟩ := h1.form
  rw [List.length_append] at e
  subst e
  refine ⟨A, c, w', hr, h1, ?_, (hbz.mono hbase).trans h3⟩
  exact ⟨h2.os, h2.tape, h2.output, Nat.le_trans hbz.size h2.size, fun k hk hne => (h2.block k (Nat.lt_of_lt_of_le hk hbz.size) hne).trans (hbz.block k hk)⟩
end Go.Proofs.Ytnifjagjcoegaaa
end

section
/- Lists of words that literals make. -/
namespace Go.Proofs.Ytnifjagjcoegaaa
open Go.RowKit

/-- The words' cells, one block each. -/
def litA (W : World) : List (List Int) → World
  | [] => W
  | x :: r => litA (W.alloc (.cells (lit x) 3)) r
/-- Their headers, from block b on. -/
def litH (b : Nat) : List (List Int) → List Value
  | [] => []
  | x :: r => .slice (some ⟨b, 0, none⟩) x.length x.length :: litH (b + 1) r
/-- The world with the list's own cells. -/
def litL (W : World) (b : Nat) (xss : List (List Int)) : World := (litA W xss).alloc (.cells (litH b xss).toArray 26)
theorem litA_below (W : World) (xss : List (List Int)) : Below W.heap.size W (litA W xss) := by
  induction xss generalizing W with
  | nil => exact Below.refl _ _
  | cons x r ih => exact (alloc_below W _).trans ((ih _).mono (by simp))
theorem litA_size (W : World) (xss : List (List Int)) : (litA W xss).heap.size = W.heap.size + xss.length := by
  induction xss generalizing W with
  | nil => rfl
  | cons x r ih =>
    show (litA (W.alloc (.cells (lit x) 3)) r).heap.size = _
    rw [ih]; simp; omega
theorem litH_len (b : Nat) (xss : List (List Int)) : (litH b xss).length = xss.length := by
  induction xss generalizing b with
  | nil => rfl
  | cons x r ih => simp [litH, ih]
theorem litH_get (b : Nat) (xss : List (List Int)) (j : Nat) (hj : j < xss.length) : (litH b xss)[j]? = some (.slice (some ⟨b + j, 0, none⟩) (xss.getD j []).length (xss.getD j []).length) := by
  induction xss generalizing b j with
  | nil => simp at hj
  | cons x r ih =>
    cases j with
    | zero => simp [litH]
    | succ j =>
      have := ih (b + 1) j (by simpa using hj)
      simp only [litH, List.getElem?_cons_succ, this]
      rw [show b + 1 + j = b + (j + 1) by omega]
      simp
theorem litA_ints (W : World) (xss : List (List Int)) (j : Nat) (hj : j < xss.length) (hl : ∀ x, x ∈ xss → x.length ≤ 1000) : Ints (litA W xss) (some ⟨W.heap.size + j, 0, none⟩) (xss.getD j []).length (xss.getD j []) := by
  induction xss generalizing W j with
  | nil => simp at hj
  | cons x r ih =>
    cases j with
    | zero =>
      have h := Ints.new W x (lit x) x.length rfl rfl (by have := hl x List.mem_cons_self; omega)
      have hb := litA_below (W.alloc (.cells (lit x) 3)) r
      exact h.below hb
    | succ j =>
      have := ih (W.alloc (.cells (lit x) 3)) j (by simpa using hj) (fun y hy => hl y (List.mem_cons_of_mem _ hy))
      have e : (W.alloc (.cells (lit x) 3)).heap.size + j = W.heap.size + (j + 1) := by simp; omega
      rw [e] at this
      show Ints (litA (W.alloc (.cells (lit x) 3)) r) _ ((x :: r).getD (j + 1) []).length ((x :: r).getD (j + 1) [])
      simpa using this
theorem litL_below (W : World) (b : Nat) (xss : List (List Int)) : Below W.heap.size W (litL W b xss) := (litA_below W xss).trans ((alloc_below _ _).mono (litA_below W xss).size)
theorem litL_size (W : World) (b : Nat) (xss : List (List Int)) : (litL W b xss).heap.size = W.heap.size + xss.length + 1 := by
  show ((litA W xss).alloc _).heap.size = _
  simp [litA_size]
theorem litL_lists (W : World) (b : Nat) (xss : List (List Int)) (n : Nat) (hb : W.heap.size = b) (hn : n = xss.length) (hl : ∀ x, x ∈ xss → x.length ≤ 1000) (hm : xss.length ≤ 1000) : ListsC (litL W b xss) (some ⟨b + n, 0, none⟩) n xss := by
  subst hn hb
  have hb := alloc_below (litA W xss) (.cells (litH W.heap.size xss).toArray 26)
  refine ⟨rfl, by omega, fun _ => ⟨W.heap.size + xss.length, 0, rfl, ?_, fun j hj => ?_⟩⟩
  · show W.heap.size + xss.length < ((litA W xss).alloc _).heap.size
    simp [litA_size]
  · refine ⟨_, _, _, ?_, Nat.le_refl _, (litA_ints W xss j hj hl).below hb⟩
    have := cell_of_row (litL W W.heap.size xss) (W.heap.size + xss.length) j (litH W.heap.size xss).toArray 26 (0, 0) (by
      have := heap_alloc_new (litA W xss) (.cells (litH W.heap.size xss).toArray 26)
      rw [litA_size] at this
      exact this)
    rw [Nat.zero_add, this]
    simpa using litH_get W.heap.size xss j hj
end Go.Proofs.Ytnifjagjcoegaaa
end

section
/- The examples of minimize. -/
namespace Go.Proofs.Ytnifjagjcoegaaa
open Go.RowKit

def e8N : List (List Int) := [[1], [2], [3], [1]]
def e8O : List (List Int) := [[0], [0], [1], [0]]
def e9N : List (List Int) := [[1], [2], [0]]
def e9O : List (List Int) := [[0], [0], [1]]
theorem e8_ok : Mok 1 0 4 e8N e8O := by
  refine ⟨by decide, by decide, by decide, by decide, by decide, rfl, rfl, fun s hs => ?_⟩
  match s, hs with
  | 0, _ => exact ⟨rfl, rfl, by decide⟩
  | 1, _ => exact ⟨rfl, rfl, by decide⟩
  | 2, _ => exact ⟨rfl, rfl, by decide⟩
  | 3, _ => exact ⟨rfl, rfl, by decide⟩
theorem e9_ok : Mok 1 0 3 e9N e9O := by
  refine ⟨by decide, by decide, by decide, by decide, by decide, rfl, rfl, fun s hs => ?_⟩
  match s, hs with
  | 0, _ => exact ⟨rfl, rfl, by decide⟩
  | 1, _ => exact ⟨rfl, rfl, by decide⟩
  | 2, _ => exact ⟨rfl, rfl, by decide⟩
theorem e8_1 : zs (pt e8N e8O 1 4 (rounds_ e8N e8O 1 4 1)) = [0, 0, 1, 0] := by decide +kernel
theorem e8_2 : zs (pt e8N e8O 1 4 (dep e8N e8O 1 4)) = [0, 1, 2, 0] := by decide +kernel
theorem e8_3 : dep e8N e8O 1 4 = 2 := by decide +kernel
theorem e8_4 : (mnR e8N e8O 1 0 4).length = 3 := by decide +kernel
theorem e8_5 : mnN e8N e8O 1 0 4 = e9N := by decide +kernel
theorem e8_6 : mnO e8N e8O 1 0 4 = e9O := by decide +kernel
theorem e9_1 : (mnR e9N e9O 1 0 3).length = 3 := by decide +kernel

/-- Equal of a list and a literal that is equal to it. -/
theorem equal_lit (w : World) (A : Option Addr) (n c : Nat) (cs : Array Value) (m : Nat) (xs : List Int) (h : Ints w A n xs) (h1 : cs = lit xs) (h2 : m = xs.length) (l1 : xs.length ≤ 1000) :
    Calls Try.prog 49 #[.slice A n c, .slice (some ⟨w.heap.size, 0, none⟩) m m] (w.alloc (.cells cs 3)) fun e w' => e = .returned (.bool true) ∧ Below w.heap.size w w' := by
  refine (requal _ _ _ _ _ _ xs xs true _ (h.below (alloc_below w _)) (Ints.new w xs cs m h1 h2 (by omega)) (by simp)).mono ?_
  rintro e w' ⟨rfl, hq⟩
  exact ⟨rfl, (alloc_below w _).trans ((rd_below hq).mono (by simp))⟩

set_option maxHeartbeats 2000000 in
set_option maxRecDepth 100000 in
theorem awake8 (w : World) : Calls Try.prog 46 #[] w fun e w' => e = .returned (.bool true) ∧ Below w.heap.size w w' := by
  have zw : w.heap.size = w.heap.size := rfl
  obtain ⟨W1, hW1⟩ : ∃ W1, W1 = (((((w.alloc (.cells #[.int .i64 1] 3)).alloc (.cells #[.int .i64 2] 3)).alloc (.cells #[.int .i64 3] 3)).alloc (.cells #[.int .i64 1] 3)).alloc (.cells #[.slice (some ⟨w.heap.size, 0, none⟩) 1 1, .slice (some ⟨w.heap.size + 1, 0, none⟩) 1 1, .slice (some ⟨w.heap.size + 1 + 1, 0, none⟩) 1 1, .slice (some ⟨w.heap.size + 1 + 1 + 1, 0, none⟩) 1 1] 26)) := ⟨_, rfl⟩
  have fW1 : Lists W1 (some ⟨w.heap.size + 1 + 1 + 1 + 1, 0, none⟩) 4 e8N ∧ Below w.heap.size w W1 ∧ W1.heap.size = w.heap.size + 1 + 1 + 1 + 1 + 1 := by
    rw [hW1]
    exact ⟨(litL_lists w (w.heap.size) e8N 4 zw rfl (by decide) (by decide)).lists, litL_below w (w.heap.size) e8N, (litL_size w (w.heap.size) e8N).trans (by rw [zw]; rfl)⟩
  obtain ⟨n1, b1, zW1⟩ := fW1
  obtain ⟨W2, hW2⟩ : ∃ W2, W2 = (((((W1.alloc (.cells #[.int .i64 0] 3)).alloc (.cells #[.int .i64 0] 3)).alloc (.cells #[.int .i64 1] 3)).alloc (.cells #[.int .i64 0] 3)).alloc (.cells #[.slice (some ⟨w.heap.size + 1 + 1 + 1 + 1 + 1, 0, none⟩) 1 1, .slice (some ⟨w.heap.size + 1 + 1 + 1 + 1 + 1 + 1, 0, none⟩) 1 1, .slice (some ⟨w.heap.size + 1 + 1 + 1 + 1 + 1 + 1 + 1, 0, none⟩) 1 1, .slice (some ⟨w.heap.size + 1 + 1 + 1 + 1 + 1 + 1 + 1 + 1, 0, none⟩) 1 1] 26)) := ⟨_, rfl⟩
  have fW2 : Lists W2 (some ⟨w.heap.size + 1 + 1 + 1 + 1 + 1 + 1 + 1 + 1 + 1, 0, none⟩) 4 e8O ∧ Below W1.heap.size W1 W2 ∧ W2.heap.size = w.heap.size + 1 + 1 + 1 + 1 + 1 + 1 + 1 + 1 + 1 + 1 := by
    rw [hW2]
    exact ⟨(litL_lists W1 (w.heap.size + 1 + 1 + 1 + 1 + 1) e8O 4 zW1 rfl (by decide) (by decide)).lists, litL_below W1 (w.heap.size + 1 + 1 + 1 + 1 + 1) e8O, (litL_size W1 (w.heap.size + 1 + 1 + 1 + 1 + 1) e8O).trans (by rw [zW1]; rfl)⟩
  obtain ⟨o2, b2, zW2⟩ := fW2
  have n2 := n1.below b2
  have b2 := bt b1 b2
  obtain ⟨W3, hW3⟩ : ∃ W3, W3 = W2.alloc (.cells #[.int .i64 1, .int .i64 0, .slice (some ⟨w.heap.size + 1 + 1 + 1 + 1, 0, none⟩) 4 4, .slice (some ⟨w.heap.size + 1 + 1 + 1 + 1 + 1 + 1 + 1 + 1 + 1, 0, none⟩) 4 4] 58) := ⟨_, rfl⟩
  have l3 := alloc_below W2 (.cells #[.int .i64 1, .int .i64 0, .slice (some ⟨w.heap.size + 1 + 1 + 1 + 1, 0, none⟩) 4 4, .slice (some ⟨w.heap.size + 1 + 1 + 1 + 1 + 1 + 1 + 1 + 1 + 1, 0, none⟩) 4 4] 58)
  have X3 := mealy_box W2 (.int .i64 1) (.int .i64 0) (.slice (some ⟨w.heap.size + 1 + 1 + 1 + 1, 0, none⟩) 4 4) (.slice (some ⟨w.heap.size + 1 + 1 + 1 + 1 + 1 + 1 + 1 + 1 + 1, 0, none⟩) 4 4)
  rw [← hW3] at l3 X3
  rw [zW2] at X3
  have n3 := n2.below l3
  have o3 := o2.below l3
  have b3 := bt b2 l3
  have HW : Hid (W3 = (((((((((((w.alloc (.cells #[.int .i64 1] 3)).alloc (.cells #[.int .i64 2] 3)).alloc (.cells #[.int .i64 3] 3)).alloc (.cells #[.int .i64 1] 3)).alloc (.cells #[.slice (some ⟨w.heap.size, 0, none⟩) 1 1, .slice (some ⟨w.heap.size + 1, 0, none⟩) 1 1, .slice (some ⟨w.heap.size + 1 + 1, 0, none⟩) 1 1, .slice (some ⟨w.heap.size + 1 + 1 + 1, 0, none⟩) 1 1] 26)).alloc (.cells #[.int .i64 0] 3)).alloc (.cells #[.int .i64 0] 3)).alloc (.cells #[.int .i64 1] 3)).alloc (.cells #[.int .i64 0] 3)).alloc (.cells #[.slice (some ⟨w.heap.size + 1 + 1 + 1 + 1 + 1, 0, none⟩) 1 1, .slice (some ⟨w.heap.size + 1 + 1 + 1 + 1 + 1 + 1, 0, none⟩) 1 1, .slice (some ⟨w.heap.size + 1 + 1 + 1 + 1 + 1 + 1 + 1, 0, none⟩) 1 1, .slice (some ⟨w.heap.size + 1 + 1 + 1 + 1 + 1 + 1 + 1 + 1, 0, none⟩) 1 1] 26))).alloc (.cells #[.int .i64 1, .int .i64 0, .slice (some ⟨w.heap.size + 1 + 1 + 1 + 1, 0, none⟩) 4 4, .slice (some ⟨w.heap.size + 1 + 1 + 1 + 1 + 1 + 1 + 1 + 1 + 1, 0, none⟩) 4 4] 58)) := Lib.hid (by rw [hW3, hW2, hW1])
  have HX := Lib.hid X3
  clear hW1 hW2 hW3 zW1 zW2 zw b1 b2 l3 X3 n1 n2 o2
  go_enter Try.func46, Try.ntmps46
  go_wp2_with fail
  rw [← HW.out]
  refine (ppart_ok 1 0 4 _ _ 4 4 e8N e8O 1 _ n3 o3 e8_ok (by decide)).mono ?_
  rintro e w4 ⟨A4, c4, rfl, h4, b4⟩
  rw [e8_1] at h4
  have h4 := Owned.ints h4 (by simp)
  have X4 := HX.out.kept b4 (heap_lt HX.out)
  have HX := Lib.hid X4
  obtain ⟨x0, x1, x2, x3, _⟩ := X4.cells
  have n4 := n3.below b4
  have o4 := o3.below b4
  have b4 := bt b3 b4
  clear X4 n3 o3 b3
  go_wp2_with fail
  refine (pcls_ok 1 0 4 _ _ 4 4 e8N e8O _ n4 o4 e8_ok).mono ?_
  rintro e w5 ⟨A5, c5, rfl, h5, b5⟩
  rw [e8_2] at h5
  have h5 := Owned.ints h5 (by simp)
  have X5 := HX.out.kept b5 (heap_lt HX.out)
  have HX := Lib.hid X5
  obtain ⟨x0, x1, x2, x3, _⟩ := X5.cells
  have n5 := n4.below b5
  have o5 := o4.below b5
  have h4 := h4.below b5
  have b5 := bt b4 b5
  clear X5 n4 o4 b4
  go_wp2_with fail
  refine (pdep_ok 1 0 4 _ _ 4 4 e8N e8O _ n5 o5 e8_ok).mono ?_
  rintro e w6 ⟨rfl, b6⟩
  rw [e8_3]
  have X6 := HX.out.kept b6 (heap_lt HX.out)
  have HX := Lib.hid X6
  obtain ⟨x0, x1, x2, x3, _⟩ := X6.cells
  have n6 := n5.below b6
  have o6 := o5.below b6
  have h4 := h4.below b6
  have h5 := h5.below b6
  have b6 := bt b5 b6
  clear X6 n5 o5 b5
  go_wp2_with fail
  refine (pmin_ok 1 0 4 _ _ 4 4 e8N e8O _ n6 o6 e8_ok).mono ?_
  rintro e w7 ⟨A7, c7, B7, d7, rfl, hN, hO, b7⟩
  rw [e8_4] at hN hO ⊢
  rw [e8_5] at hN
  rw [e8_6] at hO
  have n8 := lists_ownedM e9_ok hN
  have o8 := lists_ownedO e9_ok hO
  have X7 := HX.out.kept b7 (heap_lt HX.out)
  have HX := Lib.hid X7
  have n7 := n6.below b7
  have o7 := o6.below b7
  have h4 := h4.below b7
  have h5 := h5.below b7
  have b7 := bt b6 b7
  clear X7 n6 o6 b6 hN hO
  obtain ⟨w8, hw8⟩ : ∃ w8, w8 = w7.alloc (.cells #[.int .i64 1, .int .i64 0, .slice A7 3 c7, .slice B7 3 d7] 58) := ⟨_, rfl⟩
  have l8 := alloc_below w7 (.cells #[.int .i64 1, .int .i64 0, .slice A7 3 c7, .slice B7 3 d7] 58)
  have Y8 := mealy_box w7 (.int .i64 1) (.int .i64 0) (.slice A7 3 c7) (.slice B7 3 d7)
  rw [← hw8] at l8 Y8
  have X8 := HX.out.kept l8 (heap_lt HX.out)
  have n7 := n7.below l8
  have o7 := o7.below l8
  have n8 := n8.below l8
  have o8 := o8.below l8
  have h4 := h4.below l8
  have h5 := h5.below l8
  have b8 := bt b7 l8
  have HW8 := Lib.hid hw8
  have HX := Lib.hid X8
  have HY := Lib.hid Y8
  clear hw8 X8 Y8 l8 b7
  have hbad : ¬ vld 0 0 [] [] = 0 := by decide
  have hbe : vld 0 0 [] [] = 2 := by decide
  have HBE := Lib.hid hbe
  clear hbe
  go_wp2_with fail
  try rw [← HW8.out]
  refine (pcls_bad 0 0 none none 0 0 0 0 [] [] _ ⟨rfl, by omega, fun h => absurd h (by omega)⟩ ⟨rfl, by omega, fun h => absurd h (by omega)⟩ hbad).mono ?_
  rintro e w9 ⟨rfl, b9⟩
  rw [HBE.out]
  clear hbad
  have HX := Lib.hid (HX.out.kept b9 (heap_lt HX.out))
  have HY := Lib.hid (HY.out.kept b9 (heap_lt HY.out))
  have n9 := n7.below b9
  have o9 := o7.below b9
  have n8 := n8.below b9
  have o8 := o8.below b9
  have h4 := h4.below b9
  have h5 := h5.below b9
  have b9 := bt b8 b9
  clear b8 n7 o7
  go_wp2_with fail
  refine (equal_lit _ _ _ _ _ 4 [0, 0, 1, 0] h4 rfl rfl (by decide)).mono ?_
  rintro e w10 ⟨rfl, b10⟩
  have h5 := h5.below b10
  go_wp2_with fail
  refine (equal_lit _ _ _ _ _ 4 [0, 1, 2, 0] h5 rfl rfl (by decide)).mono ?_
  rintro e w11 ⟨rfl, b11⟩
  have b1011 := bt b10 b11
  have HX := Lib.hid (HX.out.kept b1011 (heap_lt HX.out))
  have HY := Lib.hid (HY.out.kept b1011 (heap_lt HY.out))
  have n11 := n9.below b1011
  have o11 := o9.below b1011
  have n8 := n8.below b1011
  have o8 := o8.below b1011
  have b11 := bt b9 b1011
  clear b9 b10 n9 o9 h4 h5 b1011
  obtain ⟨y0, y1, y2, y3, _⟩ := HY.out.cells
  have zw11 : w11.heap.size = w11.heap.size := rfl
  obtain ⟨V1, hV1⟩ : ∃ V1, V1 = ((((w11.alloc (.cells #[.int .i64 1] 3)).alloc (.cells #[.int .i64 2] 3)).alloc (.cells #[.int .i64 0] 3)).alloc (.cells #[.slice (some ⟨w11.heap.size, 0, none⟩) 1 1, .slice (some ⟨w11.heap.size + 1, 0, none⟩) 1 1, .slice (some ⟨w11.heap.size + 1 + 1, 0, none⟩) 1 1] 26)) := ⟨_, rfl⟩
  have fV1 : Lists V1 (some ⟨w11.heap.size + 1 + 1 + 1, 0, none⟩) 3 e9N ∧ Below w11.heap.size w11 V1 ∧ V1.heap.size = w11.heap.size + 1 + 1 + 1 + 1 := by
    rw [hV1]
    exact ⟨(litL_lists w11 (w11.heap.size) e9N 3 zw11 rfl (by decide) (by decide)).lists, litL_below w11 (w11.heap.size) e9N, (litL_size w11 (w11.heap.size) e9N).trans (by rw [zw11]; rfl)⟩
  obtain ⟨n12, b12, zV1⟩ := fV1
  obtain ⟨V2, hV2⟩ : ∃ V2, V2 = ((((V1.alloc (.cells #[.int .i64 0] 3)).alloc (.cells #[.int .i64 0] 3)).alloc (.cells #[.int .i64 1] 3)).alloc (.cells #[.slice (some ⟨w11.heap.size + 1 + 1 + 1 + 1, 0, none⟩) 1 1, .slice (some ⟨w11.heap.size + 1 + 1 + 1 + 1 + 1, 0, none⟩) 1 1, .slice (some ⟨w11.heap.size + 1 + 1 + 1 + 1 + 1 + 1, 0, none⟩) 1 1] 26)) := ⟨_, rfl⟩
  have fV2 : Lists V2 (some ⟨w11.heap.size + 1 + 1 + 1 + 1 + 1 + 1 + 1, 0, none⟩) 3 e9O ∧ Below V1.heap.size V1 V2 ∧ V2.heap.size = w11.heap.size + 1 + 1 + 1 + 1 + 1 + 1 + 1 + 1 := by
    rw [hV2]
    exact ⟨(litL_lists V1 (w11.heap.size + 1 + 1 + 1 + 1) e9O 3 zV1 rfl (by decide) (by decide)).lists, litL_below V1 (w11.heap.size + 1 + 1 + 1 + 1) e9O, (litL_size V1 (w11.heap.size + 1 + 1 + 1 + 1) e9O).trans (by rw [zV1]; rfl)⟩
  obtain ⟨o13, b13, zV2⟩ := fV2
  have n13 := n12.below b13
  have bl := bt b12 b13
  have HX := Lib.hid (HX.out.kept bl (heap_lt HX.out))
  have HY := Lib.hid (HY.out.kept bl (heap_lt HY.out))
  have n14 := n11.below bl
  have o14 := o11.below bl
  have n8 := n8.below bl
  have o8 := o8.below bl
  have b13 := bt b11 bl
  have HV : Hid (V2 = ((((((((w11.alloc (.cells #[.int .i64 1] 3)).alloc (.cells #[.int .i64 2] 3)).alloc (.cells #[.int .i64 0] 3)).alloc (.cells #[.slice (some ⟨w11.heap.size, 0, none⟩) 1 1, .slice (some ⟨w11.heap.size + 1, 0, none⟩) 1 1, .slice (some ⟨w11.heap.size + 1 + 1, 0, none⟩) 1 1] 26)).alloc (.cells #[.int .i64 0] 3)).alloc (.cells #[.int .i64 0] 3)).alloc (.cells #[.int .i64 1] 3)).alloc (.cells #[.slice (some ⟨w11.heap.size + 1 + 1 + 1 + 1, 0, none⟩) 1 1, .slice (some ⟨w11.heap.size + 1 + 1 + 1 + 1 + 1, 0, none⟩) 1 1, .slice (some ⟨w11.heap.size + 1 + 1 + 1 + 1 + 1 + 1, 0, none⟩) 1 1] 26))) := Lib.hid (by rw [hV2, hV1])
  clear hV1 hV2 zV1 zV2 zw11 b12 bl n12 n11 o11 b11
  go_wp2_with fail
  rw [← HV.out]
  refine (rsamem _ _ _ _ _ _ _ _ _ _ _ _ _ _ _ _ _ _ _ _ true _ n8 o8 n13 o13 (by simp)).mono ?_
  rintro e w14 ⟨rfl, b14⟩
  have HX := Lib.hid (HX.out.kept b14 (heap_lt HX.out))
  have HY := Lib.hid (HY.out.kept b14 (heap_lt HY.out))
  have n14 := n14.below b14
  have o14 := o14.below b14
  have n8 := n8.below b14
  have o8 := o8.below b14
  have b14 := bt b13 b14
  clear b13 y0 y1 y2 y3 n13 o13
  obtain ⟨y0, y1, y2, y3, _⟩ := HY.out.cells
  go_wp2_with fail
  refine (pminl_ok 1 0 3 _ _ _ _ e9N e9O true _ n8 o8 e9_ok (by rw [e9_1]; rfl)).mono ?_
  rintro e w15 ⟨rfl, b15⟩
  have HX := Lib.hid (HX.out.kept b15 (heap_lt HX.out))
  have n15 := n14.below b15
  have o15 := o14.below b15
  have b15 := bt b14 b15
  clear b14 y0 y1 y2 y3 n14 o14 n8 o8
  obtain ⟨x0, x1, x2, x3, _⟩ := HX.out.cells
  go_wp2_with fail
  refine (pminl_ok 1 0 4 _ _ _ _ e8N e8O false _ n15 o15 e8_ok (by rw [e8_4]; rfl)).mono ?_
  rintro e w16 ⟨rfl, b16⟩
  go_wp2
  go_ret
  exact ⟨rfl, bt b15 b16⟩
end Go.Proofs.Ytnifjagjcoegaaa
end

section
/- Great of the laws of minimize. -/
namespace Go.Proofs.Ytnifjagjcoegaaa
open Go.RowKit

def SomeB (w : World) (e : Ending) (w' : World) : Prop := ∃ b : Bool, e = .returned (.bool b) ∧ Below w.heap.size w w'
set_option maxHeartbeats 1000000 in
theorem rgreat8 (i st : Int) (A B : Option Addr) (n c m d : Nat) (nx ot : List (List Int)) (w : World) (hx : Lists w A n nx) (ho : Lists w B m ot) :
    Calls Try.prog 45 #[.agg #[.int .i64 i, .int .i64 st, .slice A n c, .slice B m d]] w (SomeB w) := by
  have hb0 := alloc_below w (.cells #[.int .i64 i, .int .i64 st, .slice A n c, .slice B m d] 58)
  have hB := mealy_box w (.int .i64 i) (.int .i64 st) (.slice A n c) (.slice B m d)
  have hn := hx.2.1
  have hm := ho.2.1
  by_cases h1 : 12 < n
  · have d1 : decide ((12 : Int) < (n : Int)) = true := by simp; omega
    go_enter Try.func45, Try.ntmps45
    go_wp2
    go_ret
    exact ⟨_, rfl, hb0⟩
  · have d1 : decide ((12 : Int) < (n : Int)) = false := by simp; omega
    by_cases h2 : 12 < m
    · have d2 : decide ((12 : Int) < (m : Int)) = true := by simp; omega
      go_enter Try.func45, Try.ntmps45
      go_wp2
      go_ret
      exact ⟨_, rfl, hb0⟩
    · have d2 : decide ((12 : Int) < (m : Int)) = false := by simp; omega
      by_cases h3 : 6 < i
      · have d3 : decide ((6 : Int) < i) = true := by simpa using h3
        go_enter Try.func45, Try.ntmps45
        go_wp2
        go_ret
        exact ⟨_, rfl, hb0⟩
      · have d3 : decide ((6 : Int) < i) = false := by simpa using h3
        go_enter Try.func45, Try.ntmps45
        go_wp2
        generalize w.alloc (.cells #[.int .i64 i, .int .i64 st, .slice A n c, .slice B m d] 58) = w1 at hb0 hB ⊢
        obtain ⟨k0, k1, k2, k3, _⟩ := hB.cells
        clear hB d1 d2 d3
        go_loop [23] (fun kv => ∃ k : Nat, k ≤ n ∧ kv = .int .i64 k) (fun kv => n - (intOf kv).toNat)
        case atStart => exact ⟨0, Nat.zero_le _, rfl⟩
        case round =>
          obtain ⟨k, hk, rfl⟩ := hrel
          by_cases hlt : k < n
          · obtain ⟨g1, o1, A1, n1, c1, rfl, hg1, hd1, hr1⟩ := hx.at_ hlt
            have e1 := (hb0.cell (p := ⟨g1, o1 + k, none⟩) hg1).trans hd1
            clear hd1
            go_wp2
            · go_ret
              exact ⟨_, rfl, hb0⟩
            · go_round
              case rel => exact ⟨k + 1, by omega, by go_num⟩
              case measure => simp [intOf]; omega
          · go_wp2
            go_loop [37] (fun kv => ∃ k : Nat, k ≤ m ∧ kv = .int .i64 k) (fun kv => m - (intOf kv).toNat)
            case atStart => exact ⟨0, Nat.zero_le _, rfl⟩
            case round =>
              obtain ⟨k, hk, rfl⟩ := hrel
              by_cases hlt : k < m
              · obtain ⟨g1, o1, A1, n1, c1, rfl, hg1, hd1, hr1⟩ := ho.at_ hlt
                have e1 := (hb0.cell (p := ⟨g1, o1 + k, none⟩) hg1).trans hd1
                clear hd1
                go_wp2
                · go_ret
                  exact ⟨_, rfl, hb0⟩
                · go_round
                  case rel => exact ⟨k + 1, by omega, by go_num⟩
                  case measure => simp [intOf]; omega
              · go_wp2
                go_ret
                exact ⟨_, rfl, hb0⟩
end Go.Proofs.Ytnifjagjcoegaaa
end

section
/- The laws MinimizePartitions and MinimizeClasses: the walks. -/
namespace Go.Proofs.Ytnifjagjcoegaaa
open Go.RowKit

theorem Mblk.on {w w' : World} {g : Nat} {a b c d : Value} (h : Mblk w g a b c d) (hb : Below w.heap.size w w') : Mblk w' g a b c d := h.kept hb (heap_lt h)

set_option maxHeartbeats 2000000 in
set_option maxRecDepth 100000 in
theorem parts8_walk (i st : Int) (A B : Option Addr) (n c m d : Nat) (nx ot : List (List Int)) (k : Int) (w : World) (hx : Lists w A n nx) (ho : Lists w B m ot) (hk : k ≤ 9223372036854775807) :
    Calls Try.prog 10 #[.agg #[.int .i64 i, .int .i64 st, .slice A n c, .slice B m d], .int .i64 k] w fun e w' => e = .returned (.bool true) ∧ Below w.heap.size w w' := by
  have hb0 := alloc_below w (.cells #[.int .i64 i, .int .i64 st, .slice A n c, .slice B m d] 58)
  have HB0 := Lib.hid (mealy_box w (.int .i64 i) (.int .i64 st) (.slice A n c) (.slice B m d))
  have hx0 := hx.below hb0
  have ho0 := ho.below hb0
  go_enter Try.func10, Try.ntmps10
  go_wp2_with fail
  refine (rgreat8 _ _ _ _ _ _ _ _ _ _ _ hx0 ho0).mono ?_
  rintro e w1 ⟨b, rfl, a1⟩
  have HB1 := Lib.hid (HB0.out.on a1)
  obtain ⟨k0, k1, k2, k3, _⟩ := HB1.out.cells
  have hx1 := hx0.below a1
  have ho1 := ho0.below a1
  have b1 := bt hb0 a1
  clear a1
  clear hx0 ho0 hb0 HB0
  cases b
  · by_cases hv : vld i st nx ot = 0
    · obtain ⟨i', st', n', rfl, rfl, hM⟩ := vld_zero hv
      have e1 := hx.1
      have e2 := ho.1
      have e3 := hM.nxl
      have e4 := hM.otl
      obtain rfl : n = n' := by omega
      obtain rfl : n = m := by omega
      clear e1 e2 e3 e4 hv
      have hn := hx.2.1
      go_wp2_with fail
      refine (ppart_ok _ _ _ _ _ _ _ _ _ _ _ hx1 ho1 hM hk).mono ?_
      rintro e w2 ⟨A2, c2, rfl, hO2, b2⟩
      have hI2 := Owned.ints hO2 (by rw [zs_len, pt_len]; exact hn)
      have HB2 := Lib.hid (HB1.out.on b2)
      have hx2 := hx1.below b2
      have ho2 := ho1.below b2
      have b2 := bt b1 b2
      clear hO2 k0 k1 k2 k3 hx1 ho1 b1
      obtain ⟨k0, k1, k2, k3, _⟩ := HB2.out.cells
      go_wp2_with fail
      refine (rpart_ok _ _ _ _ _ _ _ _ _ _ _ hx2 ho2 hM).mono ?_
      rintro e w3 ⟨A3, c3, rfl, hO3, b3⟩
      have hI3 := Owned.ints hO3 (by rw [zs_len, pt_len]; exact hn)
      have hI2 := hI2.below b3
      have b3 := bt b2 b3
      clear hO3 k0 k1 k2 k3 b2
      go_wp2_with fail
      refine (requal _ _ _ _ _ _ _ _ true _ hI2 hI3 (by simp)).mono ?_
      rintro e w4 ⟨rfl, q, rfl⟩
      have b4 := below_drewN b3 q
      go_wp2_with fail
      refine (awake8 _).mono ?_
      rintro e w5 ⟨rfl, b5⟩
      have b5 := bt b4 b5
      go_wp2
      go_ret
      exact ⟨rfl, b5⟩
    · go_wp2_with fail
      refine (ppart_bad _ _ _ _ _ _ _ _ _ _ _ _ hx1 ho1 hv).mono ?_
      rintro e w2 ⟨rfl, b2⟩
      have HB2 := Lib.hid (HB1.out.on b2)
      have hx2 := hx1.below b2
      have ho2 := ho1.below b2
      have b2 := bt b1 b2
      clear k0 k1 k2 k3 hx1 ho1 b1
      obtain ⟨k0, k1, k2, k3, _⟩ := HB2.out.cells
      go_wp2_with fail
      refine (rpart_bad _ _ _ _ _ _ _ _ _ _ _ _ hx2 ho2 hv).mono ?_
      rintro e w3 ⟨rfl, b3⟩
      have b3 := bt b2 b3
      clear k0 k1 k2 k3 b2
      go_wp2_with fail
      refine (requal none none 0 0 0 0 [] [] true _ (Ints.none_ _) (Ints.none_ _) (by simp)).mono ?_
      rintro e w4 ⟨rfl, q, rfl⟩
      have b4 := below_drewN b3 q
      have hee : (vld i st nx ot == vld i st nx ot) = true := by simp
      generalize vld i st nx ot = E at hee ⊢
      clear hv
      go_wp2_with fail
      refine (awake8 _).mono ?_
      rintro e w5 ⟨rfl, b5⟩
      have b5 := bt b4 b5
      go_wp2
      go_ret
      exact ⟨rfl, b5⟩
  · go_wp2_with fail
    refine (awake8 _).mono ?_
    rintro e w2 ⟨rfl, b2⟩
    have b2 := bt b1 b2
    go_wp2
    go_ret
    exact ⟨rfl, b2⟩
end Go.Proofs.Ytnifjagjcoegaaa
end

section
/- The law MinimizeClasses: the walk. -/
namespace Go.Proofs.Ytnifjagjcoegaaa
open Go.RowKit

set_option maxHeartbeats 2000000 in
set_option maxRecDepth 100000 in
theorem cls8_walk (i st : Int) (A B : Option Addr) (n c m d : Nat) (nx ot : List (List Int)) (w : World) (hx : Lists w A n nx) (ho : Lists w B m ot) :
    Calls Try.prog 11 #[.agg #[.int .i64 i, .int .i64 st, .slice A n c, .slice B m d]] w fun e w' => e = .returned (.bool true) ∧ Below w.heap.size w w' := by
  have hb0 := alloc_below w (.cells #[.int .i64 i, .int .i64 st, .slice A n c, .slice B m d] 58)
  have HB0 := Lib.hid (mealy_box w (.int .i64 i) (.int .i64 st) (.slice A n c) (.slice B m d))
  have hx0 := hx.below hb0
  have ho0 := ho.below hb0
  go_enter Try.func11, Try.ntmps11
  go_wp2_with fail
  refine (rgreat8 _ _ _ _ _ _ _ _ _ _ _ hx0 ho0).mono ?_
  rintro e w1 ⟨b, rfl, a1⟩
  have HB1 := Lib.hid (HB0.out.on a1)
  obtain ⟨k0, k1, k2, k3, _⟩ := HB1.out.cells
  have hx1 := hx0.below a1
  have ho1 := ho0.below a1
  have b1 := bt hb0 a1
  clear hx0 ho0 hb0 HB0 a1
  cases b
  · by_cases hv : vld i st nx ot = 0
    · obtain ⟨i', st', n', rfl, rfl, hM⟩ := vld_zero hv
      have e1 := hx.1
      have e2 := ho.1
      have e3 := hM.nxl
      have e4 := hM.otl
      obtain rfl : n = n' := by omega
      obtain rfl : n = m := by omega
      clear e1 e2 e3 e4 hv
      have hn := hx.2.1
      go_wp2_with fail
      refine (pcls_ok _ _ _ _ _ _ _ _ _ _ hx1 ho1 hM).mono ?_
      rintro e w2 ⟨A2, c2, rfl, hO2, a2⟩
      have hI2 := Owned.ints hO2 (by rw [zs_len, pt_len]; exact hn)
      have HB2 := Lib.hid (HB1.out.on a2)
      have hx2 := hx1.below a2
      have ho2 := ho1.below a2
      have b2 := bt b1 a2
      clear hO2 k0 k1 k2 k3 hx1 ho1 b1 a2
      obtain ⟨k0, k1, k2, k3, _⟩ := HB2.out.cells
      go_wp2_with fail
      refine (rcls_ok _ _ _ _ _ _ _ _ _ _ hx2 ho2 hM).mono ?_
      rintro e w3 ⟨A3, c3, rfl, hO3, a3⟩
      have hI3 := Owned.ints hO3 (by rw [zs_len, pt_len]; exact hn)
      have hI2 := hI2.below a3
      have HB3 := Lib.hid (HB2.out.on a3)
      have hx3 := hx2.below a3
      have ho3 := ho2.below a3
      have b3 := bt b2 a3
      clear hO3 k0 k1 k2 k3 hx2 ho2 b2 a3
      obtain ⟨k0, k1, k2, k3, _⟩ := HB3.out.cells
      go_wp2_with fail
      refine (pdep_ok _ _ _ _ _ _ _ _ _ _ hx3 ho3 hM).mono ?_
      rintro e w4 ⟨rfl, a4⟩
      have hI2 := hI2.below a4
      have hI3 := hI3.below a4
      have HB4 := Lib.hid (HB3.out.on a4)
      have hx4 := hx3.below a4
      have ho4 := ho3.below a4
      have b4 := bt b3 a4
      clear k0 k1 k2 k3 hx3 ho3 b3 a4
      obtain ⟨k0, k1, k2, k3, _⟩ := HB4.out.cells
      go_wp2_with fail
      refine (rdep_ok _ _ _ _ _ _ _ _ _ _ hx4 ho4 hM).mono ?_
      rintro e w5 ⟨rfl, a5⟩
      have hI2 := hI2.below a5
      have hI3 := hI3.below a5
      have b5 := bt b4 a5
      clear k0 k1 k2 k3 hx4 ho4 b4 a5
      have hd2 := hM.dep_lt
      generalize dep nx ot i' n = D at hd2 hI2 hI3 ⊢
      go_wp2_with fail
      refine (requal _ _ _ _ _ _ _ _ true _ hI2 hI3 (by simp)).mono ?_
      rintro e w6 ⟨rfl, q, rfl⟩
      have b6 := below_drewN b5 q
      go_wp2_with fail
      refine (awake8 _).mono ?_
      rintro e w7 ⟨rfl, a7⟩
      have b7 := bt b6 a7
      go_wp2
      go_ret
      exact ⟨rfl, b7⟩
    · go_wp2_with fail
      refine (pcls_bad _ _ _ _ _ _ _ _ _ _ _ hx1 ho1 hv).mono ?_
      rintro e w2 ⟨rfl, a2⟩
      have HB2 := Lib.hid (HB1.out.on a2)
      have hx2 := hx1.below a2
      have ho2 := ho1.below a2
      have b2 := bt b1 a2
      clear k0 k1 k2 k3 hx1 ho1 b1 a2
      obtain ⟨k0, k1, k2, k3, _⟩ := HB2.out.cells
      go_wp2_with fail
      refine (rcls_bad _ _ _ _ _ _ _ _ _ _ _ hx2 ho2 hv).mono ?_
      rintro e w3 ⟨rfl, a3⟩
      have HB3 := Lib.hid (HB2.out.on a3)
      have hx3 := hx2.below a3
      have ho3 := ho2.below a3
      have b3 := bt b2 a3
      clear k0 k1 k2 k3 hx2 ho2 b2 a3
      obtain ⟨k0, k1, k2, k3, _⟩ := HB3.out.cells
      go_wp2_with fail
      refine (pdep_bad _ _ _ _ _ _ _ _ _ _ _ hx3 ho3 hv).mono ?_
      rintro e w4 ⟨rfl, a4⟩
      have HB4 := Lib.hid (HB3.out.on a4)
      have hx4 := hx3.below a4
      have ho4 := ho3.below a4
      have b4 := bt b3 a4
      clear k0 k1 k2 k3 hx3 ho3 b3 a4
      obtain ⟨k0, k1, k2, k3, _⟩ := HB4.out.cells
      go_wp2_with fail
      refine (rdep_bad _ _ _ _ _ _ _ _ _ _ _ hx4 ho4 hv).mono ?_
      rintro e w5 ⟨rfl, a5⟩
      have b5 := bt b4 a5
      clear k0 k1 k2 k3 hx4 ho4 b4 a5
      go_wp2_with fail
      refine (requal none none 0 0 0 0 [] [] true _ (Ints.none_ _) (Ints.none_ _) (by simp)).mono ?_
      rintro e w6 ⟨rfl, q, rfl⟩
      have b6 := below_drewN b5 q
      have hee : (vld i st nx ot == vld i st nx ot) = true := by simp
      generalize vld i st nx ot = E at hee ⊢
      clear hv
      go_wp2_with fail
      refine (awake8 _).mono ?_
      rintro e w7 ⟨rfl, a7⟩
      have b7 := bt b6 a7
      go_wp2
      go_ret
      exact ⟨rfl, b7⟩
  · go_wp2_with fail
    refine (awake8 _).mono ?_
    rintro e w2 ⟨rfl, b2⟩
    have b2 := bt b1 b2
    go_wp2
    go_ret
    exact ⟨rfl, b2⟩
end Go.Proofs.Ytnifjagjcoegaaa
end

section
/- The law MinimizeFiner: the walk. -/
namespace Go.Proofs.Ytnifjagjcoegaaa
open Go.RowKit

theorem Mok.pt_roundsN {i st n : Nat} {nx ot : List (List Int)} (hM : Mok i st n nx ot) (k : Nat) : pt nx ot i n (rounds_ nx ot i n (k : Int)) = pt nx ot i n k := by
  unfold rounds_
  split
  · rw [Int.toNat_natCast]
  · exact (hM.pt_all (by omega)).symm
theorem zs_pt_at (nx ot : List (List Int)) (i n k s : Nat) : (zs (pt nx ot i n k)).getD s 0 = ((cN nx ot i n k s : Nat) : Int) := zs_at _ _

set_option maxHeartbeats 4000000 in
set_option maxRecDepth 100000 in
theorem finer8_walk (i st : Int) (A B : Option Addr) (n c m d : Nat) (nx ot : List (List Int)) (K : Nat) (w : World) (hx : Lists w A n nx) (ho : Lists w B m ot) (hK : K ≤ 255) :
    Calls Try.prog 14 #[.agg #[.int .i64 i, .int .i64 st, .slice A n c, .slice B m d], .int .u8 K] w fun e w' => e = .returned (.bool true) ∧ Below w.heap.size w w' := by
  have hb0 := alloc_below w (.cells #[.int .i64 i, .int .i64 st, .slice A n c, .slice B m d] 58)
  have HB0 := Lib.hid (mealy_box w (.int .i64 i) (.int .i64 st) (.slice A n c) (.slice B m d))
  have hx0 := hx.below hb0
  have ho0 := ho.below hb0
  by_cases h20 : 20 < K
  · have hd : decide ((20 : Int) < (K : Int)) = true := by simp; omega
    go_enter Try.func14, Try.ntmps14
    go_wp2_with fail
    refine (rgreat8 _ _ _ _ _ _ _ _ _ _ _ hx0 ho0).mono ?_
    rintro e w1 ⟨b, rfl, a1⟩
    have b1 := bt hb0 a1
    cases b
    all_goals
      go_wp2_with fail
      refine (awake8 _).mono ?_
      rintro e w2 ⟨rfl, b2⟩
      have b2 := bt b1 b2
      go_wp2
      go_ret
      exact ⟨rfl, b2⟩
  have hd : decide ((20 : Int) < (K : Int)) = false := by simp; omega
  go_enter Try.func14, Try.ntmps14
  go_wp2_with fail
  refine (rgreat8 _ _ _ _ _ _ _ _ _ _ _ hx0 ho0).mono ?_
  rintro e w1 ⟨b, rfl, a1⟩
  have HB1 := Lib.hid (HB0.out.on a1)
  obtain ⟨k0, k1, k2, k3, _⟩ := HB1.out.cells
  have hx1 := hx0.below a1
  have ho1 := ho0.below a1
  have b1 := bt hb0 a1
  clear hx0 ho0 hb0 HB0 a1
  cases b
  · by_cases hv : vld i st nx ot = 0
    · obtain ⟨i', st', n', rfl, rfl, hM⟩ := vld_zero hv
      have e1 := hx.1
      have e2 := ho.1
      have e3 := hM.nxl
      have e4 := hM.otl
      obtain rfl : n = n' := by omega
      obtain rfl : n = m := by omega
      clear e1 e2 e3 e4 hv
      have hn := hx.2.1
      have hn1 := hM.n1
      have hn2 := hM.n2
      go_wp2_with fail
      refine (pdep_ok _ _ _ _ _ _ _ _ _ _ hx1 ho1 hM).mono ?_
      rintro e w2 ⟨rfl, a2⟩
      have HB2 := Lib.hid (HB1.out.on a2)
      have hx2 := hx1.below a2
      have ho2 := ho1.below a2
      have b2 := bt b1 a2
      clear k0 k1 k2 k3 hx1 ho1 b1 a2
      obtain ⟨k0, k1, k2, k3, _⟩ := HB2.out.cells
      go_wp2_with fail
      refine (pcls_ok _ _ _ _ _ _ _ _ _ _ hx2 ho2 hM).mono ?_
      rintro e w3 ⟨A3, c3, rfl, hO3, a3⟩
      have hI3 := Owned.ints hO3 (by rw [zs_len, pt_len]; exact hn)
      have HB3 := Lib.hid (HB2.out.on a3)
      have hx3 := hx2.below a3
      have ho3 := ho2.below a3
      have b3 := bt b2 a3
      clear hO3 k0 k1 k2 k3 hx2 ho2 b2 a3
      obtain ⟨k0, k1, k2, k3, _⟩ := HB3.out.cells
      go_wp2_with fail
      refine (ppart_ok _ _ _ _ _ _ _ _ _ _ _ hx3 ho3 hM (by omega)).mono ?_
      rintro e w4 ⟨A4, c4, rfl, hO4, a4⟩
      have hI4 := Owned.ints hO4 (by rw [zs_len, pt_len]; exact hn)
      rw [hM.pt_roundsN] at hI4
      have hI3 := hI3.below a4
      have HB4 := Lib.hid (HB3.out.on a4)
      have hx4 := hx3.below a4
      have ho4 := ho3.below a4
      have b4 := bt b3 a4
      clear hO4 k0 k1 k2 k3 hx3 ho3 b3 a4
      obtain ⟨k0, k1, k2, k3, _⟩ := HB4.out.cells
      go_wp2_with fail
      refine (ppart_ok _ _ _ _ _ _ _ _ _ _ _ hx4 ho4 hM (by omega)).mono ?_
      rintro e w5 ⟨A5, c5, rfl, hO5, a5⟩
      have hI5 := Owned.ints hO5 (by rw [zs_len, pt_len]; exact hn)
      rw [show (K : Int) + 1 = ((K + 1 : Nat) : Int) from rfl, hM.pt_roundsN] at hI5
      have hI3 := hI3.below a5
      have hI4 := hI4.below a5
      have HB5 := Lib.hid (HB4.out.on a5)
      have b5 := bt b4 a5
      clear hO5 k0 k1 k2 k3 hx4 ho4 b4 a5
      obtain ⟨k0, k1, k2, k3, _⟩ := HB5.out.cells
      have hdl := hM.dep_lt
      have HEQ := Lib.hid (show (dep nx ot i' n ≤ K → zs (pt nx ot i' n K) = zs (pt nx ot i' n (dep nx ot i' n))) ∧ (¬ dep nx ot i' n ≤ K → ¬ zs (pt nx ot i' n K) = zs (pt nx ot i' n (dep nx ot i' n))) from
        ⟨fun h => by rw [hM.pt_all h], fun h H => h (hM.pt_eq_all.1 (zs_inj H))⟩)
      have HI3 := Lib.hid hI3
      have HI4 := Lib.hid hI4
      have HI5 := Lib.hid hI5
      have HFN := Lib.hid (fun (s t : Nat) (hs : s < n) (ht : t < n) => hM.cN_fine (k := K) hs ht)
      clear hI3 hI4 hI5
      generalize dep nx ot i' n = D at hdl HEQ HI3 ⊢
      have hm1 : ¬ (n : Int) ≤ (D : Int) := by omega
      go_wp2
      all_goals
        go_loopw [105] (fun v wr => ∃ s : Nat, s ≤ n ∧ v = .int .i64 s ∧ ∃ q, wr = w5.drewN q) (fun v _ => n - (intOf v).toNat)
        case atStart => exact ⟨0, Nat.zero_le _, rfl, 0, rfl⟩
        case round =>
          obtain ⟨s, hs, rfl, q, rfl⟩ := hrel
          by_cases hlt : s < n
          · go_wp2
            go_loopw [109] (fun v wr => ∃ t : Nat, t ≤ s ∧ v = .int .i64 t ∧ ∃ q, wr = w5.drewN q) (fun v _ => s - (intOf v).toNat)
            case atStart => exact ⟨0, Nat.zero_le _, rfl, q, rfl⟩
            case round =>
              obtain ⟨t, ht, rfl, q, rfl⟩ := hrel
              by_cases hlt2 : t < s
              · have htn : t < n := by omega
                obtain ⟨g4, o4, rfl, hg4, hc4⟩ := HI4.out.at_ hlt
                obtain ⟨_, _, e, _, hd4⟩ := HI4.out.at_ htn
                cases e
                obtain ⟨g5, o5, rfl, hg5, hc5⟩ := HI5.out.at_ hlt
                obtain ⟨_, _, e, _, hd5⟩ := HI5.out.at_ htn
                cases e
                rw [zs_pt_at] at hc4 hd4 hc5 hd5
                have hf := HFN.out s t hlt htn
                have j0 : (0 : Int) ≤ (s : Int) := by omega
                have j1 : (s : Int) < (n : Int) := by omega
                have j2 : (0 : Int) ≤ (t : Int) := by omega
                have j3 : (t : Int) < (n : Int) := by omega
                by_cases he : cN nx ot i' n (K + 1) s = cN nx ot i' n (K + 1) t
                · have hq1 : (((cN nx ot i' n (K + 1) s : Nat) : Int) == ((cN nx ot i' n (K + 1) t : Nat) : Int)) = true := by rw [he]; simp
                  have hq2 : (((cN nx ot i' n K s : Nat) : Int) != ((cN nx ot i' n K t : Nat) : Int)) = false := by rw [hf he]; simp
                  clear hf he
                  generalize ((cN nx ot i' n (K + 1) s : Nat) : Int) = x1 at hc5 hq1
                  generalize ((cN nx ot i' n (K + 1) t : Nat) : Int) = x2 at hd5 hq1
                  generalize ((cN nx ot i' n K s : Nat) : Int) = x3 at hc4 hq2
                  generalize ((cN nx ot i' n K t : Nat) : Int) = x4 at hd4 hq2
                  go_wp2
                  go_quiet (fail)
                  go_wp2
                  go_roundw
                  case rel => exact ⟨t + 1, by omega, by go_num, by first | exact ⟨_, rfl⟩ | exact ⟨_, World.drewN_drewN _ _ _⟩⟩
                  case measure => simp [intOf]; omega
                · have hq1 : (((cN nx ot i' n (K + 1) s : Nat) : Int) == ((cN nx ot i' n (K + 1) t : Nat) : Int)) = false := by rw [beq_eq_false_iff_ne]; omega
                  clear hf he
                  generalize ((cN nx ot i' n (K + 1) s : Nat) : Int) = x1 at hc5 hq1
                  generalize ((cN nx ot i' n (K + 1) t : Nat) : Int) = x2 at hd5 hq1
                  generalize ((cN nx ot i' n K s : Nat) : Int) = x3 at hc4
                  generalize ((cN nx ot i' n K t : Nat) : Int) = x4 at hd4
                  go_wp2
                  go_quiet (fail)
                  go_wp2
                  go_roundw
                  case rel => exact ⟨t + 1, by omega, by go_num, by first | exact ⟨_, rfl⟩ | exact ⟨_, World.drewN_drewN _ _ _⟩⟩
                  case measure => simp [intOf]; omega
              · go_wp2
                go_roundw
                case rel => exact ⟨s + 1, by omega, by go_num, q, rfl⟩
                case measure => simp [intOf]; omega
          · clear k0 k1 k2 k3
            by_cases hDK : D ≤ K
            · have hq := Lib.hid (HEQ.out.1 hDK)
              go_wp2_with fail
              refine (requal _ _ _ _ _ _ _ _ true _ (HI4.out.drewN q) (HI3.out.drewN q) (by rw [hq.out]; simp)).mono ?_
              rintro e w6 ⟨rfl, q2, rfl⟩
              have b6 := below_drewN b5 (q + q2)
              go_wp2_with fail
              refine (awake8 _).mono ?_
              rintro e w7 ⟨rfl, a7⟩
              have b7 := bt b6 a7
              go_wp2
              go_ret
              exact ⟨rfl, b7⟩
            · have hq := Lib.hid (HEQ.out.2 hDK)
              go_wp2_with fail
              refine (requal _ _ _ _ _ _ _ _ false _ (HI4.out.drewN q) (HI3.out.drewN q) (decide_eq_false hq.out).symm).mono ?_
              rintro e w6 ⟨rfl, q2, rfl⟩
              have b6 := below_drewN b5 (q + q2)
              have hd1 : decide ((D : Int) ≤ (K : Int)) = false := by simp; omega
              go_wp2_with fail
              refine (awake8 _).mono ?_
              rintro e w7 ⟨rfl, a7⟩
              have b7 := bt b6 a7
              go_wp2
              go_ret
              exact ⟨rfl, b7⟩
    · go_wp2_with fail
      refine (pdep_bad _ _ _ _ _ _ _ _ _ _ _ hx1 ho1 hv).mono ?_
      rintro e w2 ⟨rfl, a2⟩
      have HB2 := Lib.hid (HB1.out.on a2)
      have hx2 := hx1.below a2
      have ho2 := ho1.below a2
      have b2 := bt b1 a2
      clear k0 k1 k2 k3 hx1 ho1 b1 a2
      obtain ⟨k0, k1, k2, k3, _⟩ := HB2.out.cells
      go_wp2_with fail
      refine (pcls_bad _ _ _ _ _ _ _ _ _ _ _ hx2 ho2 hv).mono ?_
      rintro e w3 ⟨rfl, a3⟩
      have HB3 := Lib.hid (HB2.out.on a3)
      have hx3 := hx2.below a3
      have ho3 := ho2.below a3
      have b3 := bt b2 a3
      clear k0 k1 k2 k3 hx2 ho2 b2 a3
      obtain ⟨k0, k1, k2, k3, _⟩ := HB3.out.cells
      go_wp2_with fail
      refine (ppart_bad _ _ _ _ _ _ _ _ _ _ _ _ hx3 ho3 hv).mono ?_
      rintro e w4 ⟨rfl, a4⟩
      have HB4 := Lib.hid (HB3.out.on a4)
      have hx4 := hx3.below a4
      have ho4 := ho3.below a4
      have b4 := bt b3 a4
      clear k0 k1 k2 k3 hx3 ho3 b3 a4
      obtain ⟨k0, k1, k2, k3, _⟩ := HB4.out.cells
      go_wp2_with fail
      refine (ppart_bad _ _ _ _ _ _ _ _ _ _ _ _ hx4 ho4 hv).mono ?_
      rintro e w5 ⟨rfl, a5⟩
      have b5 := bt b4 a5
      clear k0 k1 k2 k3 hx4 ho4 b4 a5
      have hne : (vld i st nx ot != 0) = true := by simpa using hv
      have hee : (vld i st nx ot == vld i st nx ot) = true := by simp
      generalize vld i st nx ot = E at hee hne ⊢
      clear hv
      go_wp2_with fail
      refine (awake8 _).mono ?_
      rintro e w7 ⟨rfl, a7⟩
      have b7 := bt b5 a7
      go_wp2
      go_ret
      exact ⟨rfl, b7⟩
  · go_wp2_with fail
    refine (awake8 _).mono ?_
    rintro e w2 ⟨rfl, b2⟩
    have b2 := bt b1 b2
    go_wp2
    go_ret
    exact ⟨rfl, b2⟩
end Go.Proofs.Ytnifjagjcoegaaa
end

section
/- separated, of the laws of minimize. -/
namespace Go.Proofs.Ytnifjagjcoegaaa
open Go.RowKit

/-- The first a inputs do not tell s and t apart, nor the words of k symbols behind them. -/
def SepOk (nx ot : List (List Int)) (i n k s t a : Nat) : Prop := ∀ b, b < a → oN ot s b = oN ot t b ∧ cN nx ot i n k (nN nx s b) = cN nx ot i n k (nN nx t b)
theorem SepOk.zero (nx ot : List (List Int)) (i n k s t : Nat) : SepOk nx ot i n k s t 0 := fun b h => absurd h (by omega)
theorem SepOk.succ {nx ot : List (List Int)} {i n k s t a : Nat} (h : SepOk nx ot i n k s t a) (h1 : oN ot s a = oN ot t a) (h2 : cN nx ot i n k (nN nx s a) = cN nx ot i n k (nN nx t a)) : SepOk nx ot i n k s t (a + 1) := fun b hb => by
  by_cases e : b = a
  · subst e; exact ⟨h1, h2⟩
  · exact h b (by omega)
theorem Mok.sep_yes {i st n : Nat} {nx ot : List (List Int)} (hM : Mok i st n nx ot) {k s t : Nat} (hs : s < n) (ht : t < n) (h : SepOk nx ot i n k s t i) : decide (cN nx ot i n (k + 1) s ≠ cN nx ot i n (k + 1) t) = false :=
  decide_eq_false fun H => H ((hM.cN_succ hs ht).2 h)
theorem Mok.sep_no1 {i st n : Nat} {nx ot : List (List Int)} (hM : Mok i st n nx ot) {k s t a : Nat} (hs : s < n) (ht : t < n) (ha : a < i) (h : oN ot s a ≠ oN ot t a) : decide (cN nx ot i n (k + 1) s ≠ cN nx ot i n (k + 1) t) = true :=
  decide_eq_true fun H => h ((hM.cN_succ hs ht).1 H a ha).1
theorem Mok.sep_no2 {i st n : Nat} {nx ot : List (List Int)} (hM : Mok i st n nx ot) {k s t a : Nat} (hs : s < n) (ht : t < n) (ha : a < i) (h : cN nx ot i n k (nN nx s a) ≠ cN nx ot i n k (nN nx t a)) : decide (cN nx ot i n (k + 1) s ≠ cN nx ot i n (k + 1) t) = true :=
  decide_eq_true fun H => h ((hM.cN_succ hs ht).1 H a ha).2
end Go.Proofs.Ytnifjagjcoegaaa
end

section
/- separated: the walk. -/
namespace Go.Proofs.Ytnifjagjcoegaaa
open Go.RowKit

set_option maxHeartbeats 4000000 in
set_option maxRecDepth 100000 in
theorem sepw (i st n : Nat) (A B : Option Addr) (c d : Nat) (nx ot : List (List Int)) (hM : Mok i st n nx ot) : ∀ (k : Nat) (s t : Nat) (w : World) (b : Bool), k ≤ 255 → Lists w A n nx → Lists w B n ot → s < n → t < n → b = decide (cN nx ot i n k s ≠ cN nx ot i n k t) →
    Calls Try.prog 59 #[.agg #[.int .i64 i, .int .i64 st, .slice A n c, .slice B n d], .int .i64 s, .int .i64 t, .int .i64 k] w fun e w' => e = .returned (.bool b) ∧ Below w.heap.size w w'
  | 0, s, t, w, b, _, hx, ho, hs, ht, hb => by
    have hb0 := alloc_below w (.cells #[.int .i64 i, .int .i64 st, .slice A n c, .slice B n d] 58)
    have hf := Lib.hid (show b = false by rw [hb, cN_zero hs, cN_zero ht]; simp)
    clear hb
    go_enter Try.func59, Try.ntmps59
    go_wp2
    go_ret
    exact ⟨ret_bool hf.out.symm, hb0⟩
  | k + 1, s, t, w, b, hk, hx, ho, hs, ht, hb => by
    have hb0 := alloc_below w (.cells #[.int .i64 i, .int .i64 st, .slice A n c, .slice B n d] 58)
    have HB0 := Lib.hid (mealy_box w (.int .i64 i) (.int .i64 st) (.slice A n c) (.slice B n d))
    have HREC := Lib.hid (fun (s t : Nat) (w : World) (b : Bool) => sepw i st n A B c d nx ot hM k s t w b (by omega))
    have HB := Lib.hid hb
    have hn := hx.2.1
    have hi64 := hM.i2
    have hlo := Lib.hid ho
    obtain ⟨K, hK⟩ : ∃ K, K = k + 1 := ⟨_, rfl⟩
    have hk0 : ((K : Int) == 0) = false := by rw [beq_eq_false_iff_ne]; omega
    have hK1 : 1 ≤ K := by omega
    have hK2 : K ≤ 255 := by omega
    have HKK := Lib.hid (show IntKind.i64.wrap ((K : Int) - 1) = (k : Int) by
      rw [show (K : Int) - 1 = (k : Int) by omega]
      exact IntWalk.i64_in _ (by omega))
    have HK9 := Lib.hid (show (K : Int) - 1 = (k : Int) by omega)
    rw [← hK]
    clear hK
    obtain ⟨w0, hw0⟩ : ∃ w0, w0 = w.alloc (.cells #[.int .i64 i, .int .i64 st, .slice A n c, .slice B n d] 58) := ⟨_, rfl⟩
    have HW := Lib.hid hw0
    have hz0 : w0.heap.size = w.heap.size + 1 := by rw [hw0]; simp
    have HZ := Lib.hid hz0
    rw [← hw0] at hb0
    have HB0 := Lib.hid (show Mblk w0 w.heap.size (.int .i64 i) (.int .i64 st) (.slice A n c) (.slice B n d) by rw [hw0]; exact HB0.out)
    clear hb hw0 hz0
    go_enter Try.func59, Try.ntmps59
    go_wp2_with fail
    try rw [← HW.out]
    have hbx := HB0.out
    obtain ⟨k0, k1, k2, k3, _⟩ := hbx.cells
    clear hbx
    go_wp2
    clear k0 k1 k2 k3
    go_loopw [14] (fun v wr => ∃ a : Nat, a ≤ i ∧ v = .int .i64 a ∧ SepOk nx ot i n k s t a ∧ Below w0.heap.size w0 wr) (fun v _ => i - (intOf v).toNat)
    case atStart => exact ⟨0, Nat.zero_le _, rfl, SepOk.zero _ _ _ _ _ _ _, Below.refl _ _⟩
    case round =>
      obtain ⟨a, ha, rfl, hok, hbr⟩ := hrel
      have HOK := Lib.hid hok
      have hzr := hbr.size
      have hbW : Below w.heap.size w wr := bt hb0 hbr
      have hbx := HB0.out.on hbr
      have HBX := Lib.hid hbx
      obtain ⟨k0, k1, k2, k3, _⟩ := hbx.cells
      clear hok hbx
      by_cases hla : a < i
      · obtain ⟨g2, o2, eA2, n2, c2, rfl, hg2, hd2, hr2⟩ := hlo.out.at_ hs
        obtain ⟨g2', o2', eA3, n3, c3, e, _, hd3, hr3⟩ := hlo.out.at_ ht
        cases e
        obtain ⟨g1, o1, eA4, n4, c4, rfl, hg1, hd4, hr4⟩ := hx.at_ hs
        obtain ⟨g1', o1', eA5, n5, c5, e, _, hd5, hr5⟩ := hx.at_ ht
        cases e
        have l2 := hr2.1
        have l3 := hr3.1
        have l4 := hr4.1
        have l5 := hr5.1
        have m2 := (hM.row s hs).2.1
        have m3 := (hM.row t ht).2.1
        have m4 := (hM.row s hs).1
        have m5 := (hM.row t ht).1
        obtain rfl : n2 = i := by omega
        obtain rfl : n3 = n2 := by omega
        obtain rfl : n4 = n3 := by omega
        obtain rfl : n5 = n4 := by omega
        clear l2 l3 l4 l5 m2 m3 m4 m5
        obtain ⟨b2, p2, rfl, hb2, hv2⟩ := hr2.at_ hla
        obtain ⟨b3, p3, rfl, hb3, hv3⟩ := hr3.at_ hla
        obtain ⟨b4, p4, rfl, hb4, hv4⟩ := hr4.at_ hla
        obtain ⟨b5, p5, rfl, hb5, hv5⟩ := hr5.at_ hla
        rw [hM.nN_eq hs hla] at hv4
        rw [hM.nN_eq ht hla] at hv5
        have q1 := hM.nN_lt hs hla
        have q3 := hM.nN_lt ht hla
        have tr : ∀ (gg oo : Nat) (u : Value), gg < w.heap.size → w.cell? ⟨gg, oo, none⟩ = some u → wr.cell? ⟨gg, oo, none⟩ = some u := fun gg oo u h h2 => (hbW.cell (p := ⟨gg, oo, none⟩) h).trans h2
        have hd2 := tr _ _ _ hg2 hd2
        have hd3 := tr _ _ _ hg2 hd3
        have hd4 := tr _ _ _ hg1 hd4
        have hd5 := tr _ _ _ hg1 hd5
        have hv2 := tr _ _ _ hb2 hv2
        have hv3 := tr _ _ _ hb3 hv3
        have hv4 := tr _ _ _ hb4 hv4
        have hv5 := tr _ _ _ hb5 hv5
        have r2 : (ot.getD s []).getD a 0 = oN ot s a := rfl
        have r3 : (ot.getD t []).getD a 0 = oN ot t a := rfl
        rw [r2] at hv2
        rw [r3] at hv3
        have j1 : (0 : Int) ≤ (a : Int) := by omega
        have j2 : (a : Int) < (n5 : Int) := by omega
        have j3 : (0 : Int) ≤ (s : Int) := by omega
        have j4 : (s : Int) < (n : Int) := by omega
        have j5 : (0 : Int) ≤ (t : Int) := by omega
        have j6 : (t : Int) < (n : Int) := by omega
        clear tr r2 r3 hb2 hb3 hb4 hb5 hg1 hg2
        by_cases ho1 : oN ot s a = oN ot t a
        · have hq : (oN ot s a != oN ot t a) = false := by simp [ho1]
          have HO1 := Lib.hid ho1
          obtain ⟨b9, hb9⟩ : ∃ b9, b9 = decide (cN nx ot n5 n k (nN nx s a) ≠ cN nx ot n5 n k (nN nx t a)) := ⟨_, rfl⟩
          have HB9 := Lib.hid hb9
          have HC := Lib.hid (fun W h1 h2 => HREC.out (nN nx s a) (nN nx t a) W b9 h1 h2 q1 q3 hb9)
          have HN := Lib.hid (show b9 = true → b = true from fun h => by
            rw [HB.out]
            refine hM.sep_no2 hs ht hla ?_
            rw [h] at hb9
            exact of_decide_eq_true hb9.symm)
          have HY := Lib.hid (show b9 = false → SepOk nx ot n5 n k s t (a + 1) from fun h => HOK.out.succ ho1 (by
            rw [h] at hb9
            exact Classical.byContradiction fun H => of_decide_eq_false hb9.symm H))
          have hki := HKK.out
          have hk9 := HK9.out
          clear ho1 hb9
          generalize nN nx s a = u1 at hv4 q1 HC
          generalize nN nx t a = u2 at hv5 q3 HC
          generalize oN ot s a = z1 at hv2 hq
          generalize oN ot t a = z2 at hv3 hq
          have HS := Lib.hid (show ∀ W : World, Below wr.heap.size wr W → W.cell? ⟨w.heap.size, 0, none⟩ = some (.int .i64 n5) ∧ W.cell? ⟨w.heap.size, 1, none⟩ = some (.int .i64 st) ∧ W.cell? ⟨w.heap.size, 2, none⟩ = some (.slice (some ⟨g1, o1, none⟩) n c) ∧ W.cell? ⟨w.heap.size, 3, none⟩ = some (.slice (some ⟨g2, o2, none⟩) n d) ∧ W.cell? ⟨g2, o2 + s, none⟩ = some (.slice (some ⟨b2, p2, none⟩) n5 c2) ∧ W.cell? ⟨g2, o2 + t, none⟩ = some (.slice (some ⟨b3, p3, none⟩) n5 c3) ∧ W.cell? ⟨g1, o1 + s, none⟩ = some (.slice (some ⟨b4, p4, none⟩) n5 c4) ∧ W.cell? ⟨g1, o1 + t, none⟩ = some (.slice (some ⟨b5, p5, none⟩) n5 c5) ∧ W.cell? ⟨b2, p2 + a, none⟩ = some (.int .i64 z1) ∧ W.cell? ⟨b3, p3 + a, none⟩ = some (.int .i64 z2) ∧ W.cell? ⟨b4, p4 + a, none⟩ = some (.int .i64 u1) ∧ W.cell? ⟨b5, p5 + a, none⟩ = some (.int .i64 u2) from fun W h => ⟨(h.cell (p := ⟨w.heap.size, 0, none⟩) (block_lt k0)).trans k0, (h.cell (p := ⟨w.heap.size, 1, none⟩) (block_lt k1)).trans k1, (h.cell (p := ⟨w.heap.size, 2, none⟩) (block_lt k2)).trans k2, (h.cell (p := ⟨w.heap.size, 3, none⟩) (block_lt k3)).trans k3, (h.cell (p := ⟨g2, o2 + s, none⟩) (block_lt hd2)).trans hd2, (h.cell (p := ⟨g2, o2 + t, none⟩) (block_lt hd3)).trans hd3, (h.cell (p := ⟨g1, o1 + s, none⟩) (block_lt hd4)).trans hd4, (h.cell (p := ⟨g1, o1 + t, none⟩) (block_lt hd5)).trans hd5, (h.cell (p := ⟨b2, p2 + a, none⟩) (block_lt hv2)).trans hv2, (h.cell (p := ⟨b3, p3 + a, none⟩) (block_lt hv3)).trans hv3, (h.cell (p := ⟨b4, p4 + a, none⟩) (block_lt hv4)).trans hv4, (h.cell (p := ⟨b5, p5 + a, none⟩) (block_lt hv5)).trans hv5⟩)
          have HX2 := Lib.hid (fun W h => hx.below (bt (a := w) (b := wr) (c := W) hbW h))
          have HO2 := Lib.hid (fun W h => hlo.out.below (bt (a := w) (b := wr) (c := W) hbW h))
          have HLA := Lib.hid (show a + 1 ≤ n5 from Nat.succ_le_of_lt hla)
          have hbc : Below wr.heap.size wr wr.drew := below_drewN (Below.refl _ _) 1
          cases b9
          · have HYY := Lib.hid (HY.out rfl)
            go_wp2
            go_still_tail 37, (by kernel_rfl)
            go_wp2_with (go_at_call 59; refine (HC.out _ (HX2.out _ hbc) (HO2.out _ hbc)).mono ?_; rintro e w9 ⟨rfl, b9⟩)
            go_wp2
            go_roundw
            case rel => exact ⟨a + 1, HLA.out, by go_num, HYY.out, hbr.trans ((bt hbc b9).mono hzr)⟩
            case measure => simp [intOf]; omega
          · have HYY := Lib.hid (HN.out rfl)
            go_wp2
            go_still_tail 37, (by kernel_rfl)
            go_wp2_with (go_at_call 59; refine (HC.out _ (HX2.out _ hbc) (HO2.out _ hbc)).mono ?_; rintro e w9 ⟨rfl, b9⟩)
            go_wp2
            go_ret
            exact ⟨ret_bool HYY.out.symm, bt hbW (bt hbc b9)⟩
        · have hq : (oN ot s a != oN ot t a) = true := by simp [ho1]
          have hfin := Lib.hid (show b = true by rw [HB.out]; exact hM.sep_no1 hs ht hla ho1)
          clear ho1
          generalize nN nx s a = u1 at hv4 q1
          generalize nN nx t a = u2 at hv5 q3
          generalize oN ot s a = z1 at hv2 hq
          generalize oN ot t a = z2 at hv3 hq
          go_wp2
          go_quiet (fail)
          go_wp2
          go_ret
          exact ⟨ret_bool hfin.out.symm, below_drewN hbW _⟩
      · obtain rfl : a = i := by omega
        have hfin := Lib.hid (show b = false by rw [HB.out]; exact hM.sep_yes hs ht HOK.out)
        go_wp2
        go_ret
        exact ⟨ret_bool hfin.out.symm, hbW⟩
end Go.Proofs.Ytnifjagjcoegaaa
end

section
/- Words of at most k symbols do not separate states of one class. -/
namespace Go.Proofs.Ytnifjagjcoegaaa

theorem Mok.cN_runO {i st n : Nat} {nx ot : List (List Int)} (hM : Mok i st n nx ot) : ∀ (k : Nat) (u : List Int) (s t : Nat), s < n → t < n → u.length ≤ k → (∀ x, x ∈ u → 0 ≤ x ∧ x < i) → cN nx ot i n k s = cN nx ot i n k t → runO nx ot s u = runO nx ot t u
  | _, [], _, _, _, _, _, _, _ => rfl
  | 0, x :: u, _, _, _, _, h, _, _ => absurd h (by simp)
  | k + 1, x :: u, s, t, hs, ht, hl, hu, h => by
    have hx := hu x (by simp)
    obtain ⟨h1, h2⟩ := (hM.cN_succ hs ht).1 h x.toNat (by omega)
    show oN ot s x.toNat :: runO nx ot (nN nx s x.toNat) u = oN ot t x.toNat :: runO nx ot (nN nx t x.toNat) u
    rw [h1, hM.cN_runO k u _ _ (hM.nN_lt hs (by omega)) (hM.nN_lt ht (by omega)) (by simpa using hl) (fun y hy => hu y (by simp [hy])) h2]
/-- Whatever From returns for a word of at most k symbols it returns for both states of one class. -/
theorem Mok.frm_same {i st n : Nat} {nx ot : List (List Int)} (hM : Mok i st n nx ot) {k s t : Nat} {u : List Int} (hs : s < n) (ht : t < n) (hl : u.length ≤ k) (h : cN nx ot i n k s = cN nx ot i n k t) (h0 : (_root_.Go.Proofs.Ytnifjagjcoegaaa.frm i st nx ot s u).2.2 = 0) :
    (_root_.Go.Proofs.Ytnifjagjcoegaaa.frm i st nx ot s u).1 = (_root_.Go.Proofs.Ytnifjagjcoegaaa.frm i st nx ot t u).1 := by
  obtain ⟨_, _, _, _, hi, _, _, _, _, hc⟩ := frm_zero h0
  obtain rfl : i = _ := by exact_mod_cast hi
  have h1 := hM.frm hs hc
  have h2 := hM.frm ht hc
  rw [h1, h2]
  obtain ⟨c1, c2, c3, c4⟩ := chk_zero hc
  exact hM.cN_runO k u s t hs ht hl (Syms.mem c4) h
theorem Mok.frm_err {i st n : Nat} {nx ot : List (List Int)} (hM : Mok i st n nx ot) {s t : Nat} {u : List Int} (hs : s < n) (ht : t < n) : (_root_.Go.Proofs.Ytnifjagjcoegaaa.frm i st nx ot s u).2.2 = (_root_.Go.Proofs.Ytnifjagjcoegaaa.frm i st nx ot t u).2.2 := by
  by_cases hc : chk u i = 0
  · rw [hM.frm hs hc, hM.frm ht hc]
  · rw [frm_word hM.vld (by rw [hM.nxl]; omega) hc, frm_word hM.vld (by rw [hM.nxl]; omega) hc]
end Go.Proofs.Ytnifjagjcoegaaa
end

section
/- The law MinimizeWords: the walk. -/
namespace Go.Proofs.Ytnifjagjcoegaaa
open Go.RowKit

set_option maxHeartbeats 8000000 in
set_option maxRecDepth 100000 in
theorem words8_walk (i st : Int) (A B : Option Addr) (n c m d : Nat) (nx ot : List (List Int)) (K : Nat) (D : Option Addr) (nd ed : Nat) (us : List Int) (w : World) (hx : Lists w A n nx) (ho : Lists w B m ot) (hK : K ≤ 255) (hD : Ints w D nd us) :
    Calls Try.prog 13 #[.agg #[.int .i64 i, .int .i64 st, .slice A n c, .slice B m d], .int .u8 K, .slice D nd ed] w fun e w' => e = .returned (.bool true) ∧ Below w.heap.size w w' := by
  have hb0 := alloc_below w (.cells #[.int .i64 i, .int .i64 st, .slice A n c, .slice B m d] 58)
  have HB0 := Lib.hid (mealy_box w (.int .i64 i) (.int .i64 st) (.slice A n c) (.slice B m d))
  have hx0 := hx.below hb0
  have ho0 := ho.below hb0
  have HD0 := Lib.hid hD
  clear hD
  go_enter Try.func13, Try.ntmps13
  go_wp2_with fail
  refine (rgreat8 _ _ _ _ _ _ _ _ _ _ _ hx0 ho0).mono ?_
  rintro e w1 ⟨b, rfl, a1⟩
  have HB1 := Lib.hid (HB0.out.on a1)
  obtain ⟨k0, k1, k2, k3, _⟩ := HB1.out.cells
  have hx1 := hx0.below a1
  have ho1 := ho0.below a1
  have b1 := bt hb0 a1
  clear hx0 ho0 hb0 HB0 a1
  cases b
  · by_cases h6 : 6 < n
    · have d6 : decide ((6 : Int) < (n : Int)) = true := by simp; omega
      go_wp2_with fail
      refine (awake8 _).mono ?_
      rintro e w9 ⟨rfl, a9⟩
      have b9 := bt b1 a9
      go_wp2
      go_ret
      exact ⟨rfl, b9⟩
    have d6 : decide ((6 : Int) < (n : Int)) = false := by simp; omega
    by_cases h2 : 2 < i
    · have d2 : decide ((2 : Int) < i) = true := by simpa using h2
      go_wp2_with fail
      refine (awake8 _).mono ?_
      rintro e w9 ⟨rfl, a9⟩
      have b9 := bt b1 a9
      go_wp2
      go_ret
      exact ⟨rfl, b9⟩
    have d2 : decide ((2 : Int) < i) = false := by simpa using h2
    by_cases h4 : 4 < K
    · have d4 : decide ((4 : Int) < (K : Int)) = true := by simp; omega
      go_wp2_with fail
      refine (awake8 _).mono ?_
      rintro e w9 ⟨rfl, a9⟩
      have b9 := bt b1 a9
      go_wp2
      go_ret
      exact ⟨rfl, b9⟩
    have d4 : decide ((4 : Int) < (K : Int)) = false := by simp; omega
    by_cases hv : vld i st nx ot = 0
    · have HV := Lib.hid hv
      go_wp2_with fail
      refine (rvalid _ _ _ _ _ _ _ _ _ _ _ hx1 ho1).mono ?_
      rintro e w2 ⟨rfl, a2⟩
      rw [HV.out]
      have HB2 := Lib.hid (HB1.out.on a2)
      have hx2 := hx1.below a2
      have ho2 := ho1.below a2
      have b2 := bt b1 a2
      clear k0 k1 k2 k3 hx1 ho1 b1 a2 HV
      obtain ⟨i', st', n', rfl, rfl, hM⟩ := vld_zero hv
      have e1 := hx.1
      have e2 := ho.1
      have e3 := hM.nxl
      have e4 := hM.otl
      obtain rfl : n = n' := by omega
      obtain rfl : n = m := by omega
      clear e1 e2 e3 e4 hv
      have hn := hx.2.1
      have hn2 := hM.n2
      obtain ⟨k0, k1, k2, k3, _⟩ := HB2.out.cells
      go_wp2_with fail
      refine (ppart_ok _ _ _ _ _ _ _ _ _ _ _ hx2 ho2 hM (by omega)).mono ?_
      rintro e w3 ⟨A3, c3, rfl, hO3, a3⟩
      have hI3 := Owned.ints hO3 (by rw [zs_len, pt_len]; exact hn)
      rw [hM.pt_roundsN] at hI3
      have HI3 := Lib.hid hI3
      have HB3 := Lib.hid (HB2.out.on a3)
      have hx3 := hx2.below a3
      have ho3 := ho2.below a3
      have b3 := bt b2 a3
      have HX3 := Lib.hid hx3
      have HO3 := Lib.hid ho3
      clear hO3 k0 k1 k2 k3 hx2 ho2 b2 a3 hI3 hx3 ho3
      obtain ⟨k0, k1, k2, k3, _⟩ := HB3.out.cells
      have HD3 := Lib.hid (HD0.out.below b3)
      have hnd := HD0.out.1
      have hnd2 := HD0.out.2.1
      have HND := Lib.hid hnd
      clear hnd
      go_wp2
      clear k0 k1 k2 k3
      go_loopw [59] (fun v wr => ∃ s : Nat, s ≤ n ∧ v = .int .i64 s ∧ Below w3.heap.size w3 wr) (fun v _ => n - (intOf v).toNat)
      case atStart => exact ⟨0, Nat.zero_le _, rfl, Below.refl _ _⟩
      case round =>
        obtain ⟨s, hs, rfl, hbr⟩ := hrel
        by_cases hlt : s < n
        · go_wp2
          obtain ⟨wo, hwo⟩ : ∃ wo : World, wo = wr := ⟨_, rfl⟩
          rw [← hwo] at hbr ⊢
          clear hwo
          go_loopw [63] (fun v wr => ∃ t : Nat, t ≤ s ∧ v = .int .i64 t ∧ Below w3.heap.size w3 wr) (fun v _ => s - (intOf v).toNat)
          case atStart => exact ⟨0, Nat.zero_le _, rfl, hbr⟩
          case round =>
            obtain ⟨t, ht, rfl, hbr⟩ := hrel
            by_cases hlt2 : t < s
            · have htn : t < n := by omega
              have hzr := hbr.size
              have hbx := HB3.out.on hbr
              obtain ⟨k0, k1, k2, k3, _⟩ := hbx.cells
              obtain ⟨g4, o4, rfl, hg4, hc4⟩ := HI3.out.at_ hlt
              obtain ⟨_, _, e, _, hd4⟩ := HI3.out.at_ htn
              cases e
              rw [zs_pt_at] at hc4 hd4
              have hc4 := (hbr.cell (p := ⟨g4, o4 + s, none⟩) hg4).trans hc4
              have hd4 := (hbr.cell (p := ⟨g4, o4 + t, none⟩) hg4).trans hd4
              have j0 : (0 : Int) ≤ (s : Int) := by omega
              have j1 : (s : Int) < (n : Int) := by omega
              have j2 : (0 : Int) ≤ (t : Int) := by omega
              have j3 : (t : Int) < (n : Int) := by omega
              have j4 : (0 : Int) ≤ (K : Int) := by omega
              have j5 : (K : Int) ≤ 255 := by omega
              have hwk : IntKind.i64.wrap (K : Int) = (K : Int) := IntWalk.i64_in _ (by omega)
              have HBX := Lib.hid hbx
              obtain ⟨bs, hbs⟩ : ∃ bs, bs = decide (cN nx ot i' n K s ≠ cN nx ot i' n K t) := ⟨_, rfl⟩
              have hq1 : (((cN nx ot i' n K s : Nat) : Int) == ((cN nx ot i' n K t : Nat) : Int)) = !bs := by
                rw [hbs]
                by_cases e : cN nx ot i' n K s = cN nx ot i' n K t
                · rw [e]; simp
                · rw [decide_eq_true e]; simp; omega
              have HSEP := Lib.hid (fun W h1 h2 => sepw i' st' n A B c d nx ot hM K s t W bs hK h1 h2 hlt htn hbs)
              have HBS := Lib.hid hbs
              have HXR := Lib.hid (fun W h => HX3.out.below (bt (a := w3) (b := wr) (c := W) hbr h))
              have HOR := Lib.hid (fun W h => HO3.out.below (bt (a := w3) (b := wr) (c := W) hbr h))
              have HDR := Lib.hid (fun W h => HD3.out.below (bt (a := w3) (b := wr) (c := W) hbr h))
              have HIR := Lib.hid (fun W h => HI3.out.below (bt (a := w3) (b := wr) (c := W) hbr h))
              have HSE := Lib.hid (fun (h : bs = false) => show cN nx ot i' n K s = cN nx ot i' n K t from Classical.byContradiction fun H => by rw [HBS.out] at h; exact of_decide_eq_false h H)
              have HFE := Lib.hid (fun (u : List Int) => hM.frm_err (u := u) hlt htn)
              have HFS := Lib.hid (fun (u : List Int) (hl : u.length ≤ K) (h : bs = false) (h0 : (frm i' st' nx ot s u).2.2 = 0) => hM.frm_same hlt htn hl (HSE.out h) h0)
              have hbc : Below wr.heap.size wr wr.drew := below_drewN (Below.refl _ _) 1
              have HS := Lib.hid (show ∀ W : World, Below wr.heap.size wr W → W.cell? ⟨g4, o4 + s, none⟩ = some (.int .i64 (cN nx ot i' n K s : Nat)) ∧ W.cell? ⟨g4, o4 + t, none⟩ = some (.int .i64 (cN nx ot i' n K t : Nat)) ∧ W.cell? ⟨w.heap.size, 0, none⟩ = some (.int .i64 i') ∧ W.cell? ⟨w.heap.size, 1, none⟩ = some (.int .i64 st') ∧ W.cell? ⟨w.heap.size, 2, none⟩ = some (.slice A n c) ∧ W.cell? ⟨w.heap.size, 3, none⟩ = some (.slice B n d) from fun W h =>
                ⟨(h.cell (p := ⟨g4, o4 + s, none⟩) (block_lt hc4)).trans hc4, (h.cell (p := ⟨g4, o4 + t, none⟩) (block_lt hd4)).trans hd4, (h.cell (p := ⟨w.heap.size, 0, none⟩) (block_lt k0)).trans k0, (h.cell (p := ⟨w.heap.size, 1, none⟩) (block_lt k1)).trans k1, (h.cell (p := ⟨w.heap.size, 2, none⟩) (block_lt k2)).trans k2, (h.cell (p := ⟨w.heap.size, 3, none⟩) (block_lt k3)).trans k3⟩)
              clear hbs hbx
              generalize ((cN nx ot i' n K s : Nat) : Int) = x1 at hc4 hq1 HS
              generalize ((cN nx ot i' n K t : Nat) : Int) = x2 at hd4 hq1 HS
              have hq2 : ((!bs) == bs) = false := by cases bs <;> rfl
              go_wp2
              go_region_held3 (fun W => W.cell? ⟨g4, o4 + s, none⟩ = some (.int .i64 x1) ∧ W.cell? ⟨g4, o4 + t, none⟩ = some (.int .i64 x2) ∧ W.cell? ⟨w.heap.size, 0, none⟩ = some (.int .i64 i') ∧ W.cell? ⟨w.heap.size, 1, none⟩ = some (.int .i64 st') ∧ W.cell? ⟨w.heap.size, 2, none⟩ = some (.slice A n c) ∧ W.cell? ⟨w.heap.size, 3, none⟩ = some (.slice B n d)) (first | exact HS.out _ hbc) (first | (go_at_call 59; refine (HSEP.out _ (HXR.out _ hbc) (HOR.out _ hbc)).mono ?_; rintro e w' ⟨rfl, b'⟩; have hbc := bt hbc b'))
              clear hwk HSEP
              have hk9 := HS.out _ hbc
              obtain ⟨_, _, k0, k1, k2, k3⟩ := hk9
              go_wp2_with fail
              refine (pfrom _ _ _ _ _ _ _ _ _ _ _ _ _ _ us _ (HXR.out _ hbc) (HOR.out _ hbc) (HDR.out _ hbc)).mono ?_
              rintro e w5 ⟨A5, c5, rfl, hO5, a5⟩
              have hI5 := Owned.ints hO5 (by have := frm_len (i := i') (st := st') (nx := nx) (ot := ot) (s := s) (xs := us); omega)
              have h5 := bt hbc a5
              have hk9 := HS.out _ h5
              clear hO5 hc4 hd4 k0 k1 k2 k3
              obtain ⟨_, _, k0, k1, k2, k3⟩ := hk9
              go_wp2_with fail
              refine (pfrom _ _ _ _ _ _ _ _ _ _ _ _ _ _ us _ (HXR.out _ h5) (HOR.out _ h5) (HDR.out _ h5)).mono ?_
              rintro e w6 ⟨A6, c6, rfl, hO6, a6⟩
              have hI6 := Owned.ints hO6 (by have := frm_len (i := i') (st := st') (nx := nx) (ot := ot) (s := t) (xs := us); omega)
              have hI5 := hI5.below a6
              have h6 := bt h5 a6
              obtain ⟨hc4, hd4, _⟩ := HS.out _ h6
              have HR6 := Lib.hid (fun q => show Below w3.heap.size w3 (w6.drewN q) from below_drewN (hbr.trans (h6.mono hzr)) q)
              have hfe := HFE.out us
              have hfs := HFS.out us
              rw [HND.out] at hfs
              clear hO6 k0 k1 k2 k3 HS HXR HOR HDR HIR HFE HFS hbc h5 a5 a6
              have hwk : IntKind.i64.wrap (K : Int) = (K : Int) := IntWalk.i64_in _ (by omega)
              generalize frm i' st' nx ot s us = F1 at hI5 hfe hfs ⊢
              generalize frm i' st' nx ot t us = F2 at hI6 hfe hfs ⊢
              obtain ⟨l1, e1, f1⟩ := F1
              obtain ⟨l2, e2, f2⟩ := F2
              have hI5 : Ints w6 A5 l1.length l1 := hI5
              have hI6 : Ints w6 A6 l2.length l2 := hI6
              obtain rfl : f1 = f2 := hfe
              by_cases hf0 : f1 = 0
              · have hfs := fun h1 h2 => hfs h1 h2 hf0
                subst hf0
                by_cases hlen : nd ≤ K
                · have dl : decide ((nd : Int) ≤ (K : Int)) = true := by simp; exact hlen
                  have hWK := Lib.hid hwk
                  cases bs
                  · have hq3 : (x1 == x2) = true := hq1
                    obtain rfl : l1 = l2 := hfs hlen rfl
                    clear hfs hq1 hq2
                    go_wp2
                    go_quiet ((go_at_call 49; exact Calls.quiet_of (requal A5 A6 l1.length c5 l1.length c6 l1 l1 true (w6.drewN _) (hI5.drewN _) (hI6.drewN _) (by simp))))
                    go_wp2
                    go_roundw
                    case rel => exact ⟨t + 1, by omega, by go_num, HR6.out _⟩
                    case measure => simp [intOf]; omega
                  · have hq3 : (x1 == x2) = false := hq1
                    clear hfs hq1 hq2
                    go_wp2
                    go_quiet (fail)
                    go_wp2
                    go_roundw
                    case rel => exact ⟨t + 1, by omega, by go_num, HR6.out _⟩
                    case measure => simp [intOf]; omega
                · have dl : decide ((nd : Int) ≤ (K : Int)) = false := by simp; omega
                  clear hfs hq1 hq2
                  go_wp2
                  go_quiet (fail)
                  go_wp2
                  go_roundw
                  case rel => exact ⟨t + 1, by omega, by go_num, HR6.out _⟩
                  case measure => simp [intOf]; omega
              · have hf1 : (f1 == 0) = false := by rw [beq_eq_false_iff_ne]; exact hf0
                clear hfs hq1 hq2 hf0
                go_wp2
                go_quiet (fail)
                go_wp2
                go_roundw
                case rel => exact ⟨t + 1, by omega, by go_num, HR6.out _⟩
                case measure => simp [intOf]; omega
            · go_wp2
              go_roundw
              case rel => exact ⟨s + 1, by omega, by go_num, hbr⟩
              case measure => simp [intOf]; omega
        · have b4 := bt b3 hbr
          go_wp2_with fail
          refine (awake8 _).mono ?_
          rintro e w9 ⟨rfl, a9⟩
          have b9 := bt b4 a9
          go_wp2
          go_ret
          exact ⟨rfl, b9⟩
    · have hne : (vld i st nx ot != 0) = true := by simpa using hv
      go_wp2_with fail
      refine (rvalid _ _ _ _ _ _ _ _ _ _ _ hx1 ho1).mono ?_
      rintro e w2 ⟨rfl, a2⟩
      have b2 := bt b1 a2
      generalize vld i st nx ot = E at hne ⊢
      clear hv
      go_wp2_with fail
      refine (awake8 _).mono ?_
      rintro e w9 ⟨rfl, a9⟩
      have b9 := bt b2 a9
      go_wp2
      go_ret
      exact ⟨rfl, b9⟩
  · go_wp2_with fail
    refine (awake8 _).mono ?_
    rintro e w9 ⟨rfl, a9⟩
    have b9 := bt b1 a9
    go_wp2
    go_ret
    exact ⟨rfl, b9⟩
end Go.Proofs.Ytnifjagjcoegaaa
end
