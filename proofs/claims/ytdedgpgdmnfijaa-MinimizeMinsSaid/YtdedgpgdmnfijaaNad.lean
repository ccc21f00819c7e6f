/- Lemmas of the proofs of this seat, of the parts Samem, Hrow, Litl, Awak8, Gr8, M8a, Trimq, Canp, Rmnp, Rowsp, Reachr, Pairi, Rmni. Conditions: none. -/
import Derived.Test.YtdedgpgdmnfijaaNac
import Derived.Test.YtdedgpgdmnfijaaNaa
import Derived.Test.YtdedgpgdmnfijaaNab
import Derived.Lib.SliceRun
import Derived.Maps.AppendAt
section
/- Same of two machines by the two texts. -/
namespace Go.Proofs.Ytdedgpgdmnfijaa
open Go.RowKit

set_option maxHeartbeats 1000000 in
set_option maxRecDepth 100000 in
theorem psame (i st i2 st2 : Int) (A B C D : Option Addr) (n c m d p e q f : Nat) (nx ot nx2 ot2 : List (List Int)) (b : Bool) (w : World) (hx : Lists w A n nx) (ho : Lists w B m ot) (hx2 : Lists w C p nx2) (ho2 : Lists w D q ot2)
    (hb : b = decide (i = i2 ∧ st = st2 ∧ nx = nx2 ∧ ot = ot2)) :
    Calls Try.prog 35 #[.agg #[.int .i64 i, .int .i64 st, .slice A n c, .slice B m d], .agg #[.int .i64 i2, .int .i64 st2, .slice C p e, .slice D q f]] w fun e w' => e = .returned (.bool b) ∧ Below w.heap.size w w' := by
  have hb0 := alloc_below w (.cells #[.int .i64 i, .int .i64 st, .slice A n c, .slice B m d] 24)
  have hb1 := bt hb0 (alloc_below (w.alloc (.cells #[.int .i64 i, .int .i64 st, .slice A n c, .slice B m d] 24)) (.cells #[.int .i64 i2, .int .i64 st2, .slice C p e, .slice D q f] 24))
  by_cases h1 : i = i2
  · by_cases h2 : st = st2
    · by_cases h3 : nx = nx2
      · have z1 : (i == i2) = true := by simpa using h1
        have z2 : (st == st2) = true := by simpa using h2
        have H3 := Lib.hid ((decide_eq_true h3).symm)
        have hfin : Hid (b = decide (ot = ot2)) := Lib.hid (by rw [hb, decide_eq_decide]; exact ⟨fun H => H.2.2.2, fun H => ⟨h1, h2, h3, H⟩⟩)
        clear hb h1 h2 h3
        go_enter Try.func35, Try.ntmps35
        go_wp2_with fail
        refine (pequal _ _ _ _ _ _ _ _ _ _ (hx.below hb1) (hx2.below hb1) H3.out).mono ?_
        rintro e w1 ⟨rfl, q1, rfl⟩
        go_wp2_with fail
        refine (pequal _ _ _ _ _ _ _ _ _ _ (ho.below (below_drewN hb1 q1)) (ho2.below (below_drewN hb1 q1)) hfin.out).mono ?_
        rintro e w1 ⟨rfl, q2, rfl⟩
        go_wp2
        go_ret
        exact ⟨rfl, below_drewN hb1 _⟩
      · have z1 : (i == i2) = true := by simpa using h1
        have z2 : (st == st2) = true := by simpa using h2
        have H3 := Lib.hid ((decide_eq_false h3).symm)
        have hfin : Hid (b = false) := Lib.hid (hb.trans (decide_eq_false fun H => h3 H.2.2.1))
        clear hb h1 h2 h3
        go_enter Try.func35, Try.ntmps35
        go_wp2_with fail
        refine (pequal _ _ _ _ _ _ _ _ _ _ (hx.below hb1) (hx2.below hb1) H3.out).mono ?_
        rintro e w1 ⟨rfl, q1, rfl⟩
        go_wp2
        go_ret
        exact ⟨ret_bool hfin.out.symm, below_drewN hb1 q1⟩
    · have z1 : (i == i2) = true := by simpa using h1
      have z2 : (st == st2) = false := by simpa using h2
      have hfin : Hid (b = false) := Lib.hid (hb.trans (decide_eq_false fun H => h2 H.2.1))
      clear hb h1 h2
      go_enter Try.func35, Try.ntmps35
      go_wp2
      go_ret
      exact ⟨ret_bool hfin.out.symm, hb1⟩
  · have z1 : (i == i2) = false := by simpa using h1
    have hfin : Hid (b = false) := Lib.hid (hb.trans (decide_eq_false fun H => h1 H.1))
    clear hb h1
    go_enter Try.func35, Try.ntmps35
    go_wp2
    go_ret
    exact ⟨ret_bool hfin.out.symm, hb1⟩

set_option maxHeartbeats 1000000 in
set_option maxRecDepth 100000 in
theorem rsamem (i st i2 st2 : Int) (A B C D : Option Addr) (n c m d p e q f : Nat) (nx ot nx2 ot2 : List (List Int)) (b : Bool) (w : World) (hx : Lists w A n nx) (ho : Lists w B m ot) (hx2 : Lists w C p nx2) (ho2 : Lists w D q ot2)
    (hb : b = decide (i = i2 ∧ st = st2 ∧ nx = nx2 ∧ ot = ot2)) :
    Calls Try.prog 16 #[.agg #[.int .i64 i, .int .i64 st, .slice A n c, .slice B m d], .agg #[.int .i64 i2, .int .i64 st2, .slice C p e, .slice D q f]] w fun e w' => e = .returned (.bool b) ∧ Below w.heap.size w w' := by
  have hb0 := alloc_below w (.cells #[.int .i64 i, .int .i64 st, .slice A n c, .slice B m d] 24)
  have hb1 := bt hb0 (alloc_below (w.alloc (.cells #[.int .i64 i, .int .i64 st, .slice A n c, .slice B m d] 24)) (.cells #[.int .i64 i2, .int .i64 st2, .slice C p e, .slice D q f] 24))
  by_cases h1 : i = i2
  · by_cases h2 : st = st2
    · by_cases h3 : nx = nx2
      · have z1 : (i == i2) = true := by simpa using h1
        have z2 : (st == st2) = true := by simpa using h2
        have H3 := Lib.hid ((decide_eq_true h3).symm)
        have hfin : Hid (b = decide (ot = ot2)) := Lib.hid (by rw [hb, decide_eq_decide]; exact ⟨fun H => H.2.2.2, fun H => ⟨h1, h2, h3, H⟩⟩)
        clear hb h1 h2 h3
        go_enter Try.func16, Try.ntmps16
        go_wp2_with fail
        refine (rlists _ _ _ _ _ _ _ _ _ _ (hx.below hb1) (hx2.below hb1) H3.out).mono ?_
        rintro e w1 ⟨rfl, q1, rfl⟩
        go_wp2_with fail
        refine (rlists _ _ _ _ _ _ _ _ _ _ (ho.below (below_drewN hb1 q1)) (ho2.below (below_drewN hb1 q1)) hfin.out).mono ?_
        rintro e w1 ⟨rfl, q2, rfl⟩
        go_wp2
        go_ret
        exact ⟨rfl, below_drewN hb1 _⟩
      · have z1 : (i == i2) = true := by simpa using h1
        have z2 : (st == st2) = true := by simpa using h2
        have H3 := Lib.hid ((decide_eq_false h3).symm)
        have hfin : Hid (b = false) := Lib.hid (hb.trans (decide_eq_false fun H => h3 H.2.2.1))
        clear hb h1 h2 h3
        go_enter Try.func16, Try.ntmps16
        go_wp2_with fail
        refine (rlists _ _ _ _ _ _ _ _ _ _ (hx.below hb1) (hx2.below hb1) H3.out).mono ?_
        rintro e w1 ⟨rfl, q1, rfl⟩
        go_wp2
        go_ret
        exact ⟨ret_bool hfin.out.symm, below_drewN hb1 q1⟩
    · have z1 : (i == i2) = true := by simpa using h1
      have z2 : (st == st2) = false := by simpa using h2
      have hfin : Hid (b = false) := Lib.hid (hb.trans (decide_eq_false fun H => h2 H.2.1))
      clear hb h1 h2
      go_enter Try.func16, Try.ntmps16
      go_wp2
      go_ret
      exact ⟨ret_bool hfin.out.symm, hb1⟩
  · have z1 : (i == i2) = false := by simpa using h1
    have hfin : Hid (b = false) := Lib.hid (hb.trans (decide_eq_false fun H => h1 H.1))
    clear hb h1
    go_enter Try.func16, Try.ntmps16
    go_wp2
    go_ret
    exact ⟨ret_bool hfin.out.symm, hb1⟩

end Go.Proofs.Ytdedgpgdmnfijaa
end

section
/- Rows of headers that a call owns, each with what it reads as; append of headers. -/
namespace Go.Proofs.Ytdedgpgdmnfijaa
open Go.RowKit

/-- A header and the list that it reads as. -/
abbrev HL := Value × List Int
/-- The slice value v is a row of the headers of ps in a block from base on, which the call may write. -/
def HRow (w : World) (base : Nat) (v : Value) (ps : List HL) : Prop := w.ownsRow base 33 1 v ps.length (ps.map Prod.fst) ∧ ∀ p, p ∈ ps → ∃ A n c, p.1 = .slice A n c
/-- The header p reads as its list, in a block below top. -/
def InAt (w : World) (top : Nat) (p : HL) : Prop := ∃ A n c, p.1 = .slice A n c ∧ Ints w A n p.2 ∧ n ≤ c ∧ ∀ a, A = some a → 0 < n → a.block < top
/-- The slice '.slice A n _' holds the headers of ps. -/
def Hds (w : World) (A : Option Addr) (n : Nat) (ps : List HL) : Prop :=
  ps.length = n ∧ n ≤ 17592186044416 ∧ (0 < n → ∃ b off, A = some ⟨b, off, none⟩ ∧ b < w.heap.size ∧ ∀ j p, ps[j]? = some p → w.cell? ⟨b, off + j, none⟩ = some p.1) ∧ ∀ p, p ∈ ps → ∃ A n c, p.1 = .slice A n c

theorem InAt.below {w w' : World} {top : Nat} {p : HL} (h : InAt w top p) (hb : Below w.heap.size w w') : InAt w' top p := by
  obtain ⟨A, n, c, e, hi, hc, ht⟩ := h
  exact ⟨A, n, c, e, hi.below hb, hc, ht⟩
theorem InAt.mono {w : World} {top top' : Nat} {p : HL} (h : InAt w top p) (hb : top ≤ top') : InAt w top' p := by
  obtain ⟨A, n, c, e, hi, hc, ht⟩ := h
  exact ⟨A, n, c, e, hi, hc, fun a ha hn => Nat.lt_of_lt_of_le (ht a ha hn) hb⟩
/-- What lies below top reads as before where what lies there is as before. -/
theorem InAt.on {w w' : World} {top : Nat} {p : HL} (h : InAt w top p) (hb : Below top w w') : InAt w' top p := by
  obtain ⟨A, n, c, e, hi, hnc, ht⟩ := h
  refine ⟨A, n, c, e, ⟨hi.1, hi.2.1, fun hn => ?_⟩, hnc, ht⟩
  obtain ⟨b, off, rfl, hlt, hc⟩ := hi.2.2 hn
  have hbt : b < top := ht _ rfl hn
  refine ⟨b, off, rfl, ?_, fun j hj => (hb.cell (p := ⟨b, off + j, none⟩) hbt).trans (hc j hj)⟩
  have h0 := (hb.cell (p := ⟨b, off + 0, none⟩) hbt).trans (hc 0 hn)
  exact block_lt h0
theorem Hds.below {w w' : World} {A : Option Addr} {n : Nat} {ps : List HL} (h : Hds w A n ps) (hb : Below w.heap.size w w') : Hds w' A n ps :=
  ⟨h.1, h.2.1, fun hn => by
    obtain ⟨b, off, e, hlt, hc⟩ := h.2.2.1 hn
    exact ⟨b, off, e, Nat.lt_of_lt_of_le hlt hb.size, fun j p hp => (hb.cell hlt).trans (hc j p hp)⟩, h.2.2.2⟩
theorem Hds.at_ {w : World} {A : Option Addr} {n : Nat} {ps : List HL} (h : Hds w A n ps) {k : Nat} (hk : k < n) :
    ∃ b off B m d xs, A = some ⟨b, off, none⟩ ∧ b < w.heap.size ∧ ps[k]? = some (.slice B m d, xs) ∧ w.cell? ⟨b, off + k, none⟩ = some (.slice B m d) := by
  obtain ⟨b, off, e, hlt, hc⟩ := h.2.2.1 (by omega)
  have hl := h.1
  have hp : ps[k]? = some ps[k] := List.getElem?_eq_getElem (by omega)
  obtain ⟨B, m, d, e2⟩ := h.2.2.2 ps[k] (List.getElem_mem _)
  refine ⟨b, off, B, m, d, ps[k].2, e, hlt, ?_, ?_⟩
  · rw [hp, ← e2]
  · rw [hc k _ hp, e2]
/-- The slice '.slice A n _' holds the lists xss, none longer than its capacity. -/
def ListsC (w : World) (A : Option Addr) (n : Nat) (xss : List (List Int)) : Prop :=
  xss.length = n ∧ n ≤ 17592186044416 ∧ (0 < n → ∃ b off, A = some ⟨b, off, none⟩ ∧ b < w.heap.size ∧
    ∀ j, j < n → ∃ Aj nj cj, w.cell? ⟨b, off + j, none⟩ = some (.slice Aj nj cj) ∧ nj ≤ cj ∧ Ints w Aj nj (xss.getD j []))
theorem ListsC.lists {w : World} {A : Option Addr} {n : Nat} {xss : List (List Int)} (h : ListsC w A n xss) : Lists w A n xss :=
  ⟨h.1, h.2.1, fun hn => by
    obtain ⟨b, off, e, hlt, hc⟩ := h.2.2 hn
    refine ⟨b, off, e, hlt, fun j hj => ?_⟩
    obtain ⟨Aj, nj, cj, h1, _, h2⟩ := hc j hj
    exact ⟨Aj, nj, cj, h1, h2⟩⟩
theorem ListsC.below {w w' : World} {A : Option Addr} {n : Nat} {xss : List (List Int)} (h : ListsC w A n xss) (hb : Below w.heap.size w w') : ListsC w' A n xss :=
  ⟨h.1, h.2.1, fun hn => by
    obtain ⟨b, off, e, hlt, hc⟩ := h.2.2 hn
    refine ⟨b, off, e, Nat.lt_of_lt_of_le hlt hb.size, fun j hj => ?_⟩
    obtain ⟨Aj, nj, cj, h1, h0, h2⟩ := hc j hj
    exact ⟨Aj, nj, cj, (hb.cell hlt).trans h1, h0, h2.below hb⟩⟩
theorem ListsC.at_ {w : World} {A : Option Addr} {n : Nat} {xss : List (List Int)} (h : ListsC w A n xss) {k : Nat} (hk : k < n) :
    ∃ b off Aj nj cj, A = some ⟨b, off, none⟩ ∧ b < w.heap.size ∧ w.cell? ⟨b, off + k, none⟩ = some (.slice Aj nj cj) ∧ nj ≤ cj ∧ Ints w Aj nj (xss.getD k []) := by
  obtain ⟨b, off, e, hlt, hc⟩ := h.2.2 (by omega)
  obtain ⟨Aj, nj, cj, h1, h0, h2⟩ := hc k hk
  exact ⟨b, off, Aj, nj, cj, e, hlt, h1, h0, h2⟩
theorem ListsC.len {w : World} {A : Option Addr} {n : Nat} {xss : List (List Int)} (h : ListsC w A n xss) : ∀ x, x ∈ xss → x.length ≤ 17592186044416 := fun x hx => by
  obtain ⟨j, hj, rfl⟩ := List.getElem_of_mem hx
  obtain ⟨_, _, Aj, nj, cj, _, _, _, _, hi⟩ := h.at_ (k := j) (by rw [← h.1]; exact hj)
  have e : xss.getD j [] = xss[j] := by rw [List.getD_eq_getElem?_getD, List.getElem?_eq_getElem hj]; rfl
  rw [e] at hi
  rw [hi.1]; exact hi.2.1
/-- The headers of a list of lists. -/
theorem ListsC.hds {w : World} {A : Option Addr} {n : Nat} {xss : List (List Int)} (h : ListsC w A n xss) : ∃ ps : List HL, ps.map Prod.snd = xss ∧ Hds w A n ps ∧ ∀ p, p ∈ ps → InAt w w.heap.size p := by
  rcases Nat.eq_zero_or_pos n with h0 | h0
  · have hx : xss = [] := List.eq_nil_of_length_eq_zero (by rw [h.1, h0])
    subst hx
    exact ⟨[], rfl, ⟨by simp [h0], h.2.1, fun hn => absurd hn (by omega), fun p hp => absurd hp (by simp)⟩, fun p hp => absurd hp (by simp)⟩
  · obtain ⟨b, off, e, hlt, hc⟩ := h.2.2 h0
    have hex : ∀ j, ∃ p : HL, j < n → p.2 = xss.getD j [] ∧ w.cell? ⟨b, off + j, none⟩ = some p.1 ∧ InAt w w.heap.size p := fun j => by
      by_cases hj : j < n
      · obtain ⟨Aj, nj, cj, h1, h0, h2⟩ := hc j hj
        refine ⟨(.slice Aj nj cj, xss.getD j []), fun _ => ⟨rfl, h1, Aj, nj, cj, rfl, h2, h0, fun a ha hn => ?_⟩⟩
        obtain ⟨b', o', e', hlt', _⟩ := h2.2.2 hn
        rw [ha] at e'
        cases e'
        exact hlt'
      · exact ⟨default, fun h => absurd h hj⟩
    have hex2 := hex
    obtain ⟨f, hf⟩ : ∃ f : Nat → HL, ∀ j, j < n → (f j).2 = xss.getD j [] ∧ w.cell? ⟨b, off + j, none⟩ = some (f j).1 ∧ InAt w w.heap.size (f j) :=
      ⟨fun j => Classical.choose (hex2 j), fun j => Classical.choose_spec (hex2 j)⟩
    have hget : ∀ j p, ((List.range n).map f)[j]? = some p → j < n ∧ p = f j := fun j p hp => by
      rw [List.getElem?_map] at hp
      cases hr : (List.range n)[j]? with
      | none => rw [hr] at hp; simp at hp
      | some q =>
        rw [hr] at hp
        have hq := List.getElem?_eq_some_iff.1 hr
        obtain ⟨hq1, hq2⟩ := hq
        simp at hq1 hq2
        subst hq2
        simp at hp
        exact ⟨hq1, hp.symm⟩
    have hmem : ∀ p, p ∈ (List.range n).map f → ∃ j, j < n ∧ p = f j := fun p hp => by
      obtain ⟨j, hj, rfl⟩ := List.mem_map.1 hp
      exact ⟨j, List.mem_range.1 hj, rfl⟩
    refine ⟨(List.range n).map f, ?_, ⟨by simp, h.2.1, fun _ => ⟨b, off, e, hlt, fun j p hp => ?_⟩, fun p hp => ?_⟩, fun p hp => ?_⟩
    · apply List.ext_getElem
      · simp [h.1]
      · intro j h1 h2
        simp at h1
        have := (hf j h1).1
        simp [this, List.getD, List.getElem?_eq_getElem h2]
    · obtain ⟨hj, rfl⟩ := hget j p hp
      exact (hf j hj).2.1
    · obtain ⟨j, hj, rfl⟩ := hmem p hp
      obtain ⟨A, n, c, e, _⟩ := (hf j hj).2.2
      exact ⟨A, n, c, e⟩
    · obtain ⟨j, hj, rfl⟩ := hmem p hp
      exact (hf j hj).2.2

theorem HRow.nil (w : World) (base : Nat) : HRow w base (.slice none 0 0) [] := ⟨World.ownsRow_nil _ _ _ _, fun p hp => absurd hp (by simp)⟩
theorem HRow.form {w : World} {base : Nat} {v : Value} {ps : List HL} (h : HRow w base v ps) : ∃ A c, v = .slice A ps.length c := by
  rcases h.1.2 with ⟨rfl, h0⟩ | ⟨g, cap, cur, rfl, _⟩
  · exact ⟨none, 0, by rw [h0]⟩
  · exact ⟨_, _, rfl⟩
theorem HRow.lt {w : World} {base : Nat} {v : Value} {ps : List HL} (h : HRow w base v ps) : ∀ k, v.ownBlock = some k → base ≤ k ∧ k < w.heap.size := World.ownsRow.lt h.1
theorem HRow.kept {w w' : World} {base : Nat} {v : Value} {ps : List HL} (h : HRow w base v ps) (hb : Below w.heap.size w w') : HRow w' base v ps := by
  refine ⟨⟨h.1.1, ?_⟩, h.2⟩
  rcases h.1.2 with e | ⟨g, cap, cur, hv, hbg, hg, r⟩
  · exact .inl e
  · exact .inr ⟨g, cap, cur, hv, hbg, (hb.block g (heap_lt hg)).trans hg, r⟩
theorem HRow.lower {w : World} {base base' : Nat} {v : Value} {ps : List HL} (h : HRow w base v ps) (hb : base' ≤ base) : HRow w base' v ps := by
  refine ⟨⟨h.1.1, ?_⟩, h.2⟩
  rcases h.1.2 with e | ⟨g, cap, cur, hv, hbg, r⟩
  · exact .inl e
  · exact .inr ⟨g, cap, cur, hv, by omega, r⟩
theorem HRow.hds {w : World} {base : Nat} {A : Option Addr} {n c : Nat} {ps : List HL} (h : HRow w base (.slice A n c) ps) (hm : ps.length ≤ 17592186044416) : Hds w A n ps := by
  have hn : n = ps.length := by obtain ⟨A', c', e⟩ := h.form; cases e; rfl
  subst hn
  refine ⟨rfl, hm, fun h0 => ?_, h.2⟩
  rcases h.1.2 with ⟨e, h1⟩ | ⟨g, cap, cur, e, _, hg, _⟩
  · omega
  · cases e
    refine ⟨g, 0, rfl, heap_lt hg, fun j p hp => ?_⟩
    have hj : j < ps.length := (List.getElem?_eq_some_iff.1 hp).1
    have h3 := World.ownsRow.cellAt h.1 j (by omega)
    rw [Nat.zero_add, h3, List.getElem?_map, hp]; rfl
/-- A row of headers whose rows read as lists is a list of lists. -/
theorem Hds.lists {w : World} {top : Nat} {A : Option Addr} {n : Nat} {ps : List HL} (h : Hds w A n ps) (hi : ∀ p, p ∈ ps → InAt w top p) : ListsC w A n (ps.map Prod.snd) := by
  refine ⟨by rw [List.length_map]; exact h.1, h.2.1, fun h0 => ?_⟩
  obtain ⟨b, off, e, hlt, hc⟩ := h.2.2.1 h0
  refine ⟨b, off, e, hlt, fun j hj => ?_⟩
  have hl := h.1
  have hp : ps[j]? = some ps[j] := List.getElem?_eq_getElem (by omega)
  obtain ⟨B, m, d, e2, h2, h0, _⟩ := hi ps[j] (List.getElem_mem _)
  refine ⟨B, m, d, by rw [hc j _ hp, e2], h0, ?_⟩
  have : (ps.map Prod.snd).getD j [] = ps[j].2 := by rw [List.getD_eq_getElem?_getD, List.getElem?_map, hp]; rfl
  rw [this]; exact h2
theorem Hds.in_at {w : World} {A : Option Addr} {n : Nat} {ps : List HL} (h : Hds w A n ps) {top : Nat} (hi : ∀ p, p ∈ ps → InAt w top p) {k : Nat} (hk : k < n) :
    ∃ b off B m d, A = some ⟨b, off, none⟩ ∧ b < w.heap.size ∧ ps[k]? = some (.slice B m d, (ps.map Prod.snd).getD k []) ∧ w.cell? ⟨b, off + k, none⟩ = some (.slice B m d) ∧ m ≤ d ∧ Ints w B m ((ps.map Prod.snd).getD k []) ∧ InAt w top (.slice B m d, (ps.map Prod.snd).getD k []) := by
  obtain ⟨b, off, B, m, d, xs, e, hlt, hp, hc⟩ := h.at_ hk
  have hx : (ps.map Prod.snd).getD k [] = xs := by rw [List.getD_eq_getElem?_getD, List.getElem?_map, hp]; rfl
  rw [hx]
  have hin := hi _ (List.mem_of_getElem? hp)
  have h3 := hin
  obtain ⟨B', m', d', e2, h2, h0, _⟩ := h3
  cases e2
  exact ⟨b, off, B, m, d, e, hlt, hp, hc, h0, h2, hin⟩

/-- append(v, ys...) of headers onto a row of headers. -/
theorem run_append_heads {w : World} {base : Nat} {v : Value} {ps qs : List HL} {A : Option Addr} {m c : Nat} (h : HRow w base v ps) (hy : Hds w A m qs) (hbase : base ≤ w.heap.size) (hlen : (ps ++ qs).length ≤ 1759218604441) :
    ∃ v' w', (Builtin.append_ #[22, 22] 22 #[v, .slice A m c]).run Try.prog w = .ok v' w' ∧ HRow w' base v' (ps ++ qs) ∧ w.grownBy w' v.ownBlock ∧ Below base w w' := by
  obtain ⟨i, hi, hz0, hz1, hz2⟩ := info_parts infol
  have hsplit : ∀ k, v.ownBlock = some k → base ≤ k := fun k hk => (h.lt k hk).1
  have hforms : ∀ p, p ∈ ps ++ qs → ∃ A n c, p.1 = .slice A n c := fun p hp => by
    rcases List.mem_append.1 hp with hp | hp
    · exact h.2 p hp
    · exact hy.2.2.2 p hp
  rcases Nat.eq_zero_or_pos m with h0 | h0
  · have hys : qs = [] := List.eq_nil_of_length_eq_zero (by rw [hy.1, h0])
    subst h0 hys
    cases A with
    | none =>
      refine ⟨v, w, ?_, by simpa using h, World.grownBy.refl w _, Below.refl _ _⟩
      rcases h.1.2 with ⟨rfl, _⟩ | ⟨g, cap, cur, rfl, _, _, hnc, _⟩
      · simp [Builtin.append_, run_underlying Try.underlying22, sizeOf, typeInfo, hi, Builtin.lenOf, Builtin.firstCells]
      · simp [Builtin.append_, run_underlying Try.underlying22, sizeOf, typeInfo, hi, Builtin.lenOf, Builtin.firstCells, hnc, storeCells]
    | some a =>
      obtain ⟨v', w', hr, h1, h2, _⟩ := run_append_own (P := Try.prog) w base 22 22 33 i (.slice none 0 0) 1 24 Try.underlying22 hi hz0 hz1 hz2 rfl (by decide) v _ _ h.1 a 0 c [] (by simp) (by simp) (by simp)
        (by simp at hlen; unfold maxLen; omega) (by simp at hlen; omega) hbase
      exact ⟨v', w', hr, ⟨by simpa using h1, hforms⟩, h2, (Below.refl _ _).grown h2 hbase hsplit⟩
  · obtain ⟨b, off, rfl, hb, hc⟩ := hy.2.2.1 h0
    have hql := hy.1
    obtain ⟨v', w', hr, h1, h2, _⟩ := run_append_own (P := Try.prog) w base 22 22 33 i (.slice none 0 0) 1 24 Try.underlying22 hi hz0 hz1 hz2 rfl (by decide) v _ _ h.1 ⟨b, off, none⟩ m c (qs.map Prod.fst)
      (by simp [hql])
      (by
        intro j u hu
        rw [List.getElem?_map] at hu
        cases hq : qs[j]? with
        | none => rw [hq] at hu; simp at hu
        | some p =>
          rw [hq] at hu
          simp at hu
          subst hu
          rw [show (⟨b, off, none⟩ : Addr).add j = ⟨b, off + j, none⟩ by unfold Addr.add; split <;> simp_all]
          exact hc j p hq)
      (by
        intro u hu
        obtain ⟨p, hp, rfl⟩ := List.mem_map.1 hu
        obtain ⟨A, n, c, e⟩ := hy.2.2.2 p hp
        rw [e]; rfl)
      (by rw [List.length_append] at hlen; rw [← hql]; unfold maxLen; omega) (by rw [List.length_append] at hlen; rw [← hql]; omega) hbase
    refine ⟨v', w', hr, ⟨?_, hforms⟩, h2, (Below.refl _ _).grown h2 hbase hsplit⟩
    rw [List.length_append, List.map_append, hql]
    exact h1

/-- append(v, x) of one header. -/
theorem run_append_head {w : World} {base : Nat} {v : Value} {ps : List HL} {B : Option Addr} {m d : Nat} (h : HRow w base v ps) (xs : List Int) (hbase : base ≤ w.heap.size) (hl : ps.length < 1759218604441) :
    ∃ A c w', (Builtin.append_ #[22, 22] 22 #[v, .slice (some ⟨w.heap.size, 0, none⟩) 1 1]).run Try.prog (w.alloc (.cells #[.slice B m d] 33)) = .ok (.slice A (ps.length + 1) c) w' ∧
      HRow w' base (.slice A (ps.length + 1) c) (ps ++ [(.slice B m d, xs)]) ∧ w.grownBy w' v.ownBlock ∧ Below base w w' := by
  have hbz := alloc_below w (.cells #[.slice B m d] 33)
  have hd : Hds (w.alloc (.cells #[.slice B m d] 33)) (some ⟨w.heap.size, 0, none⟩) 1 [(.slice B m d, xs)] := by
    refine ⟨rfl, by omega, fun _ => ⟨w.heap.size, 0, rfl, by simp, fun j p hp => ?_⟩, fun p hp => ?_⟩
    · cases j with
      | zero =>
        simp at hp
        subst hp
        have := cell_of_row (w.alloc (.cells #[.slice B m d] 33)) w.heap.size 0 #[.slice B m d] 33 (0, 0) (heap_alloc_new w _)
        rw [Nat.zero_add, this]; rfl
      | succ j => simp at hp
    · simp at hp; subst hp; exact ⟨B, m, d, rfl⟩
  obtain ⟨v', w', hr, h1, h2, h3⟩ := run_append_heads (c := 1) (h.kept hbz) hd (Nat.le_trans hbase hbz.size) (by simp; omega)
  obtain ⟨A, c, e⟩ := h1.form
  rw [List.length_append] at e
  subst e
  refine ⟨A, c, w', hr, h1, ?_, (hbz.mono hbase).trans h3⟩
  exact ⟨h2.os, h2.tape, h2.output, Nat.le_trans hbz.size h2.size, fun k hk hne => (h2.block k (Nat.lt_of_lt_of_le hk hbz.size) hne).trans (hbz.block k hk)⟩
end Go.Proofs.Ytdedgpgdmnfijaa
end

section
/- Lists of words that literals make. -/
namespace Go.Proofs.Ytdedgpgdmnfijaa
open Go.RowKit

/-- The words' cells, one block each. -/
def litA (W : World) : List (List Int) → World
  | [] => W
  | x :: r => litA (W.alloc (.cells (lit x) 3)) r
/-- Their headers, from block b on. -/
def litH (b : Nat) : List (List Int) → List Value
  | [] => []
  | x :: r => .slice (some ⟨b, 0, none⟩) x.length x.length :: litH (b + 1) r
/-- The world with the list's own cells. -/
def litL (W : World) (b : Nat) (xss : List (List Int)) : World := (litA W xss).alloc (.cells (litH b xss).toArray 33)
theorem litA_below (W : World) (xss : List (List Int)) : Below W.heap.size W (litA W xss) := by
  induction xss generalizing W with
  | nil => exact Below.refl _ _
  | cons x r ih => exact (alloc_below W _).trans ((ih _).mono (by simp))
theorem litA_size (W : World) (xss : List (List Int)) : (litA W xss).heap.size = W.heap.size + xss.length := by
  induction xss generalizing W with
  | nil => rfl
  | cons x r ih =>
    show (litA (W.alloc (.cells (lit x) 3)) r).heap.size = _
    rw [ih]; simp; omega
theorem litH_len (b : Nat) (xss : List (List Int)) : (litH b xss).length = xss.length := by
  induction xss generalizing b with
  | nil => rfl
  | cons x r ih => simp [litH, ih]
theorem litH_get (b : Nat) (xss : List (List Int)) (j : Nat) (hj : j < xss.length) : (litH b xss)[j]? = some (.slice (some ⟨b + j, 0, none⟩) (xss.getD j []).length (xss.getD j []).length) := by
  induction xss generalizing b j with
  | nil => simp at hj
  | cons x r ih =>
    cases j with
    | zero => simp [litH]
    | succ j =>
      have := ih (b + 1) j (by simpa using hj)
      simp only [litH, List.getElem?_cons_succ, this]
      rw [show b + 1 + j = b + (j + 1) by omega]
      simp
theorem litA_ints (W : World) (xss : List (List Int)) (j : Nat) (hj : j < xss.length) (hl : ∀ x, x ∈ xss → x.length ≤ 1000) : Ints (litA W xss) (some ⟨W.heap.size + j, 0, none⟩) (xss.getD j []).length (xss.getD j []) := by
  induction xss generalizing W j with
  | nil => simp at hj
  | cons x r ih =>
    cases j with
    | zero =>
      have h := Ints.new W x (lit x) x.length rfl rfl (by have := hl x List.mem_cons_self; omega)
      have hb := litA_below (W.alloc (.cells (lit x) 3)) r
      exact h.below hb
    | succ j =>
      have := ih (W.alloc (.cells (lit x) 3)) j (by simpa using hj) (fun y hy => hl y (List.mem_cons_of_mem _ hy))
      have e : (W.alloc (.cells (lit x) 3)).heap.size + j = W.heap.size + (j + 1) := by simp; omega
      rw [e] at this
      show Ints (litA (W.alloc (.cells (lit x) 3)) r) _ ((x :: r).getD (j + 1) []).length ((x :: r).getD (j + 1) [])
      simpa using this
theorem litL_below (W : World) (b : Nat) (xss : List (List Int)) : Below W.heap.size W (litL W b xss) := (litA_below W xss).trans ((alloc_below _ _).mono (litA_below W xss).size)
theorem litL_size (W : World) (b : Nat) (xss : List (List Int)) : (litL W b xss).heap.size = W.heap.size + xss.length + 1 := by
  show ((litA W xss).alloc _).heap.size = _
  simp [litA_size]
theorem litL_lists (W : World) (b : Nat) (xss : List (List Int)) (n : Nat) (hb : W.heap.size = b) (hn : n = xss.length) (hl : ∀ x, x ∈ xss → x.length ≤ 1000) (hm : xss.length ≤ 1000) : ListsC (litL W b xss) (some ⟨b + n, 0, none⟩) n xss := by
  subst hn hb
  have hb := alloc_below (litA W xss) (.cells (litH W.heap.size xss).toArray 33)
  refine ⟨rfl, by omega, fun _ => ⟨W.heap.size + xss.length, 0, rfl, ?_, fun j hj => ?_⟩⟩
  · show W.heap.size + xss.length < ((litA W xss).alloc _).heap.size
    simp [litA_size]
  · refine ⟨_, _, _, ?_, Nat.le_refl _, (litA_ints W xss j hj hl).below hb⟩
    have := cell_of_row (litL W W.heap.size xss) (W.heap.size + xss.length) j (litH W.heap.size xss).toArray 33 (0, 0) (by
      have := heap_alloc_new (litA W xss) (.cells (litH W.heap.size xss).toArray 33)
      rw [litA_size] at this
      exact this)
    rw [Nat.zero_add, this]
    simpa using litH_get W.heap.size xss j hj
end Go.Proofs.Ytdedgpgdmnfijaa
end

section
/- The examples of minimize. -/
namespace Go.Proofs.Ytdedgpgdmnfijaa
open Go.RowKit

def e8N : List (List Int) := [[1], [2], [3], [1]]
def e8O : List (List Int) := [[0], [0], [1], [0]]
def e9N : List (List Int) := [[1], [2], [0]]
def e9O : List (List Int) := [[0], [0], [1]]
theorem e8_ok : Mok 1 0 4 e8N e8O := by
  refine ⟨by decide, by decide, by decide, by decide, by decide, rfl, rfl, fun s hs => ?_⟩
  match s, hs with
  | 0, _ => exact ⟨rfl, rfl, by decide⟩
  | 1, _ => exact ⟨rfl, rfl, by decide⟩
  | 2, _ => exact ⟨rfl, rfl, by decide⟩
  | 3, _ => exact ⟨rfl, rfl, by decide⟩
theorem e9_ok : Mok 1 0 3 e9N e9O := by
  refine ⟨by decide, by decide, by decide, by decide, by decide, rfl, rfl, fun s hs => ?_⟩
  match s, hs with
  | 0, _ => exact ⟨rfl, rfl, by decide⟩
  | 1, _ => exact ⟨rfl, rfl, by decide⟩
  | 2, _ => exact ⟨rfl, rfl, by decide⟩
theorem e8_1 : zs (pt e8N e8O 1 4 (rounds_ e8N e8O 1 4 1)) = [0, 0, 1, 0] := by decide +kernel
theorem e8_2 : zs (pt e8N e8O 1 4 (dep e8N e8O 1 4)) = [0, 1, 2, 0] := by decide +kernel
theorem e8_3 : dep e8N e8O 1 4 = 2 := by decide +kernel
theorem e8_4 : (mnR e8N e8O 1 0 4).length = 3 := by decide +kernel
theorem e8_5 : mnN e8N e8O 1 0 4 = e9N := by decide +kernel
theorem e8_6 : mnO e8N e8O 1 0 4 = e9O := by decide +kernel
theorem e9_1 : (mnR e9N e9O 1 0 3).length = 3 := by decide +kernel

/-- Equal of a list and a literal that is equal to it. -/
theorem equal_lit (w : World) (A : Option Addr) (n c : Nat) (cs : Array Value) (m : Nat) (xs : List Int) (h : Ints w A n xs) (h1 : cs = lit xs) (h2 : m = xs.length) (l1 : xs.length ≤ 1000) :
    Calls Try.prog 24 #[.slice A n c, .slice (some ⟨w.heap.size, 0, none⟩) m m] (w.alloc (.cells cs 3)) fun e w' => e = .returned (.bool true) ∧ Below w.heap.size w w' := by
  refine (requal _ _ _ _ _ _ xs xs true _ (h.below (alloc_below w _)) (Ints.new w xs cs m h1 h2 (by omega)) (by simp)).mono ?_
  rintro e w' ⟨rfl, hq⟩
  exact ⟨rfl, (alloc_below w _).trans ((rd_below hq).mono (by simp))⟩

set_option maxHeartbeats 2000000 in
set_option maxRecDepth 100000 in
theorem awake8 (w : World) : Calls Try.prog 13 #[] w fun e w' => e = .returned (.bool true) ∧ Below w.heap.size w w' := by
  have zw : w.heap.size = w.heap.size := rfl
  obtain ⟨W1, hW1⟩ : ∃ W1, W1 = (((((w.alloc (.cells #[.int .i64 1] 3)).alloc (.cells #[.int .i64 2] 3)).alloc (.cells #[.int .i64 3] 3)).alloc (.cells #[.int .i64 1] 3)).alloc (.cells #[.slice (some ⟨w.heap.size, 0, none⟩) 1 1, .slice (some ⟨w.heap.size + 1, 0, none⟩) 1 1, .slice (some ⟨w.heap.size + 1 + 1, 0, none⟩) 1 1, .slice (some ⟨w.heap.size + 1 + 1 + 1, 0, none⟩) 1 1] 33)) := ⟨_, rfl⟩
  have fW1 : Lists W1 (some ⟨w.heap.size + 1 + 1 + 1 + 1, 0, none⟩) 4 e8N ∧ Below w.heap.size w W1 ∧ W1.heap.size = w.heap.size + 1 + 1 + 1 + 1 + 1 := by
    rw [hW1]
    exact ⟨(litL_lists w (w.heap.size) e8N 4 zw rfl (by decide) (by decide)).lists, litL_below w (w.heap.size) e8N, (litL_size w (w.heap.size) e8N).trans (by rw [zw]; rfl)⟩
  obtain ⟨n1, b1, zW1⟩ := fW1
  obtain ⟨W2, hW2⟩ : ∃ W2, W2 = (((((W1.alloc (.cells #[.int .i64 0] 3)).alloc (.cells #[.int .i64 0] 3)).alloc (.cells #[.int .i64 1] 3)).alloc (.cells #[.int .i64 0] 3)).alloc (.cells #[.slice (some ⟨w.heap.size + 1 + 1 + 1 + 1 + 1, 0, none⟩) 1 1, .slice (some ⟨w.heap.size + 1 + 1 + 1 + 1 + 1 + 1, 0, none⟩) 1 1, .slice (some ⟨w.heap.size + 1 + 1 + 1 + 1 + 1 + 1 + 1, 0, none⟩) 1 1, .slice (some ⟨w.heap.size + 1 + 1 + 1 + 1 + 1 + 1 + 1 + 1, 0, none⟩) 1 1] 33)) := ⟨_, rfl⟩
  have fW2 : Lists W2 (some ⟨w.heap.size + 1 + 1 + 1 + 1 + 1 + 1 + 1 + 1 + 1, 0, none⟩) 4 e8O ∧ Below W1.heap.size W1 W2 ∧ W2.heap.size = w.heap.size + 1 + 1 + 1 + 1 + 1 + 1 + 1 + 1 + 1 + 1 := by
    rw [hW2]
    exact ⟨(litL_lists W1 (w.heap.size + 1 + 1 + 1 + 1 + 1) e8O 4 zW1 rfl (by decide) (by decide)).lists, litL_below W1 (w.heap.size + 1 + 1 + 1 + 1 + 1) e8O, (litL_size W1 (w.heap.size + 1 + 1 + 1 + 1 + 1) e8O).trans (by rw [zW1]; rfl)⟩
  obtain ⟨o2, b2, zW2⟩ := fW2
  have n2 := n1.below b2
  have b2 := bt b1 b2
  obtain ⟨W3, hW3⟩ : ∃ W3, W3 = W2.alloc (.cells #[.int .i64 1, .int .i64 0, .slice (some ⟨w.heap.size + 1 + 1 + 1 + 1, 0, none⟩) 4 4, .slice (some ⟨w.heap.size + 1 + 1 + 1 + 1 + 1 + 1 + 1 + 1 + 1, 0, none⟩) 4 4] 24) := ⟨_, rfl⟩
  have l3 := alloc_below W2 (.cells #[.int .i64 1, .int .i64 0, .slice (some ⟨w.heap.size + 1 + 1 + 1 + 1, 0, none⟩) 4 4, .slice (some ⟨w.heap.size + 1 + 1 + 1 + 1 + 1 + 1 + 1 + 1 + 1, 0, none⟩) 4 4] 24)
  have X3 := mealy_box W2 (.int .i64 1) (.int .i64 0) (.slice (some ⟨w.heap.size + 1 + 1 + 1 + 1, 0, none⟩) 4 4) (.slice (some ⟨w.heap.size + 1 + 1 + 1 + 1 + 1 + 1 + 1 + 1 + 1, 0, none⟩) 4 4)
  rw [← hW3] at l3 X3
  rw [zW2] at X3
  have n3 := n2.below l3
  have o3 := o2.below l3
  have b3 := bt b2 l3
  have HW : Hid (W3 = (((((((((((w.alloc (.cells #[.int .i64 1] 3)).alloc (.cells #[.int .i64 2] 3)).alloc (.cells #[.int .i64 3] 3)).alloc (.cells #[.int .i64 1] 3)).alloc (.cells #[.slice (some ⟨w.heap.size, 0, none⟩) 1 1, .slice (some ⟨w.heap.size + 1, 0, none⟩) 1 1, .slice (some ⟨w.heap.size + 1 + 1, 0, none⟩) 1 1, .slice (some ⟨w.heap.size + 1 + 1 + 1, 0, none⟩) 1 1] 33)).alloc (.cells #[.int .i64 0] 3)).alloc (.cells #[.int .i64 0] 3)).alloc (.cells #[.int .i64 1] 3)).alloc (.cells #[.int .i64 0] 3)).alloc (.cells #[.slice (some ⟨w.heap.size + 1 + 1 + 1 + 1 + 1, 0, none⟩) 1 1, .slice (some ⟨w.heap.size + 1 + 1 + 1 + 1 + 1 + 1, 0, none⟩) 1 1, .slice (some ⟨w.heap.size + 1 + 1 + 1 + 1 + 1 + 1 + 1, 0, none⟩) 1 1, .slice (some ⟨w.heap.size + 1 + 1 + 1 + 1 + 1 + 1 + 1 + 1, 0, none⟩) 1 1] 33))).alloc (.cells #[.int .i64 1, .int .i64 0, .slice (some ⟨w.heap.size + 1 + 1 + 1 + 1, 0, none⟩) 4 4, .slice (some ⟨w.heap.size + 1 + 1 + 1 + 1 + 1 + 1 + 1 + 1 + 1, 0, none⟩) 4 4] 24)) := Lib.hid (by rw [hW3, hW2, hW1])
  have HX := Lib.hid X3
  clear hW1 hW2 hW3 zW1 zW2 zw b1 b2 l3 X3 n1 n2 o2
  go_enter Try.func13, Try.ntmps13
  go_wp2_with fail
  rw [← HW.out]
  refine (ppart_ok 1 0 4 _ _ 4 4 e8N e8O 1 _ n3 o3 e8_ok (by decide)).mono ?_
  rintro e w4 ⟨A4, c4, rfl, h4, b4⟩
  rw [e8_1] at h4
  have h4 := Owned.ints h4 (by simp)
  have X4 := HX.out.kept b4 (heap_lt HX.out)
  have HX := Lib.hid X4
  obtain ⟨x0, x1, x2, x3, _⟩ := X4.cells
  have n4 := n3.below b4
  have o4 := o3.below b4
  have b4 := bt b3 b4
  clear X4 n3 o3 b3
  go_wp2_with fail
  refine (pcls_ok 1 0 4 _ _ 4 4 e8N e8O _ n4 o4 e8_ok).mono ?_
  rintro e w5 ⟨A5, c5, rfl, h5, b5⟩
  rw [e8_2] at h5
  have h5 := Owned.ints h5 (by simp)
  have X5 := HX.out.kept b5 (heap_lt HX.out)
  have HX := Lib.hid X5
  obtain ⟨x0, x1, x2, x3, _⟩ := X5.cells
  have n5 := n4.below b5
  have o5 := o4.below b5
  have h4 := h4.below b5
  have b5 := bt b4 b5
  clear X5 n4 o4 b4
  go_wp2_with fail
  refine (pdep_ok 1 0 4 _ _ 4 4 e8N e8O _ n5 o5 e8_ok).mono ?_
  rintro e w6 ⟨rfl, b6⟩
  rw [e8_3]
  have X6 := HX.out.kept b6 (heap_lt HX.out)
  have HX := Lib.hid X6
  obtain ⟨x0, x1, x2, x3, _⟩ := X6.cells
  have n6 := n5.below b6
  have o6 := o5.below b6
  have h4 := h4.below b6
  have h5 := h5.below b6
  have b6 := bt b5 b6
  clear X6 n5 o5 b5
  go_wp2_with fail
  refine (pmin_ok 1 0 4 _ _ 4 4 e8N e8O _ n6 o6 e8_ok).mono ?_
  rintro e w7 ⟨A7, c7, B7, d7, rfl, hN, hO, b7⟩
  rw [e8_4] at hN hO ⊢
  rw [e8_5] at hN
  rw [e8_6] at hO
  have n8 := lists_ownedM e9_ok hN
  have o8 := lists_ownedO e9_ok hO
  have X7 := HX.out.kept b7 (heap_lt HX.out)
  have HX := Lib.hid X7
  have n7 := n6.below b7
  have o7 := o6.below b7
  have h4 := h4.below b7
  have h5 := h5.below b7
  have b7 := bt b6 b7
  clear X7 n6 o6 b6 hN hO
  obtain ⟨w8, hw8⟩ : ∃ w8, w8 = w7.alloc (.cells #[.int .i64 1, .int .i64 0, .slice A7 3 c7, .slice B7 3 d7] 24) := ⟨_, rfl⟩
  have l8 := alloc_below w7 (.cells #[.int .i64 1, .int .i64 0, .slice A7 3 c7, .slice B7 3 d7] 24)
  have Y8 := mealy_box w7 (.int .i64 1) (.int .i64 0) (.slice A7 3 c7) (.slice B7 3 d7)
  rw [← hw8] at l8 Y8
  have X8 := HX.out.kept l8 (heap_lt HX.out)
  have n7 := n7.below l8
  have o7 := o7.below l8
  have n8 := n8.below l8
  have o8 := o8.below l8
  have h4 := h4.below l8
  have h5 := h5.below l8
  have b8 := bt b7 l8
  have HW8 := Lib.hid hw8
  have HX := Lib.hid X8
  have HY := Lib.hid Y8
  clear hw8 X8 Y8 l8 b7
  have hbad : ¬ vld 0 0 [] [] = 0 := by decide
  have hbe : vld 0 0 [] [] = 2 := by decide
  have HBE := Lib.hid hbe
  clear hbe
  go_wp2_with fail
  try rw [← HW8.out]
  refine (pcls_bad 0 0 none none 0 0 0 0 [] [] _ ⟨rfl, by omega, fun h => absurd h (by omega)⟩ ⟨rfl, by omega, fun h => absurd h (by omega)⟩ hbad).mono ?_
  rintro e w9 ⟨rfl, b9⟩
  rw [HBE.out]
  clear hbad
  have HX := Lib.hid (HX.out.kept b9 (heap_lt HX.out))
  have HY := Lib.hid (HY.out.kept b9 (heap_lt HY.out))
  have n9 := n7.below b9
  have o9 := o7.below b9
  have n8 := n8.below b9
  have o8 := o8.below b9
  have h4 := h4.below b9
  have h5 := h5.below b9
  have b9 := bt b8 b9
  clear b8 n7 o7
  go_wp2_with fail
  refine (equal_lit _ _ _ _ _ 4 [0, 0, 1, 0] h4 rfl rfl (by decide)).mono ?_
  rintro e w10 ⟨rfl, b10⟩
  have h5 := h5.below b10
  go_wp2_with fail
  refine (equal_lit _ _ _ _ _ 4 [0, 1, 2, 0] h5 rfl rfl (by decide)).mono ?_
  rintro e w11 ⟨rfl, b11⟩
  have b1011 := bt b10 b11
  have HX := Lib.hid (HX.out.kept b1011 (heap_lt HX.out))
  have HY := Lib.hid (HY.out.kept b1011 (heap_lt HY.out))
  have n11 := n9.below b1011
  have o11 := o9.below b1011
  have n8 := n8.below b1011
  have o8 := o8.below b1011
  have b11 := bt b9 b1011
  clear b9 b10 n9 o9 h4 h5 b1011
  obtain ⟨y0, y1, y2, y3, _⟩ := HY.out.cells
  have zw11 : w11.heap.size = w11.heap.size := rfl
  obtain ⟨V1, hV1⟩ : ∃ V1, V1 = ((((w11.alloc (.cells #[.int .i64 1] 3)).alloc (.cells #[.int .i64 2] 3)).alloc (.cells #[.int .i64 0] 3)).alloc (.cells #[.slice (some ⟨w11.heap.size, 0, none⟩) 1 1, .slice (some ⟨w11.heap.size + 1, 0, none⟩) 1 1, .slice (some ⟨w11.heap.size + 1 + 1, 0, none⟩) 1 1] 33)) := ⟨_, rfl⟩
  have fV1 : Lists V1 (some ⟨w11.heap.size + 1 + 1 + 1, 0, none⟩) 3 e9N ∧ Below w11.heap.size w11 V1 ∧ V1.heap.size = w11.heap.size + 1 + 1 + 1 + 1 := by
    rw [hV1]
    exact ⟨(litL_lists w11 (w11.heap.size) e9N 3 zw11 rfl (by decide) (by decide)).lists, litL_below w11 (w11.heap.size) e9N, (litL_size w11 (w11.heap.size) e9N).trans (by rw [zw11]; rfl)⟩
  obtain ⟨n12, b12, zV1⟩ := fV1
  obtain ⟨V2, hV2⟩ : ∃ V2, V2 = ((((V1.alloc (.cells #[.int .i64 0] 3)).alloc (.cells #[.int .i64 0] 3)).alloc (.cells #[.int .i64 1] 3)).alloc (.cells #[.slice (some ⟨w11.heap.size + 1 + 1 + 1 + 1, 0, none⟩) 1 1, .slice (some ⟨w11.heap.size + 1 + 1 + 1 + 1 + 1, 0, none⟩) 1 1, .slice (some ⟨w11.heap.size + 1 + 1 + 1 + 1 + 1 + 1, 0, none⟩) 1 1] 33)) := ⟨_, rfl⟩
  have fV2 : Lists V2 (some ⟨w11.heap.size + 1 + 1 + 1 + 1 + 1 + 1 + 1, 0, none⟩) 3 e9O ∧ Below V1.heap.size V1 V2 ∧ V2.heap.size = w11.heap.size + 1 + 1 + 1 + 1 + 1 + 1 + 1 + 1 := by
    rw [hV2]
    exact ⟨(litL_lists V1 (w11.heap.size + 1 + 1 + 1 + 1) e9O 3 zV1 rfl (by decide) (by decide)).lists, litL_below V1 (w11.heap.size + 1 + 1 + 1 + 1) e9O, (litL_size V1 (w11.heap.size + 1 + 1 + 1 + 1) e9O).trans (by rw [zV1]; rfl)⟩
  obtain ⟨o13, b13, zV2⟩ := fV2
  have n13 := n12.below b13
  have bl := bt b12 b13
  have HX := Lib.hid (HX.out.kept bl (heap_lt HX.out))
  have HY := Lib.hid (HY.out.kept bl (heap_lt HY.out))
  have n14 := n11.below bl
  have o14 := o11.below bl
  have n8 := n8.below bl
  have o8 := o8.below bl
  have b13 := bt b11 bl
  have HV : Hid (V2 = ((((((((w11.alloc (.cells #[.int .i64 1] 3)).alloc (.cells #[.int .i64 2] 3)).alloc (.cells #[.int .i64 0] 3)).alloc (.cells #[.slice (some ⟨w11.heap.size, 0, none⟩) 1 1, .slice (some ⟨w11.heap.size + 1, 0, none⟩) 1 1, .slice (some ⟨w11.heap.size + 1 + 1, 0, none⟩) 1 1] 33)).alloc (.cells #[.int .i64 0] 3)).alloc (.cells #[.int .i64 0] 3)).alloc (.cells #[.int .i64 1] 3)).alloc (.cells #[.slice (some ⟨w11.heap.size + 1 + 1 + 1 + 1, 0, none⟩) 1 1, .slice (some ⟨w11.heap.size + 1 + 1 + 1 + 1 + 1, 0, none⟩) 1 1, .slice (some ⟨w11.heap.size + 1 + 1 + 1 + 1 + 1 + 1, 0, none⟩) 1 1] 33))) := Lib.hid (by rw [hV2, hV1])
  clear hV1 hV2 zV1 zV2 zw11 b12 bl n12 n11 o11 b11
  go_wp2_with fail
  rw [← HV.out]
  refine (rsamem _ _ _ _ _ _ _ _ _ _ _ _ _ _ _ _ _ _ _ _ true _ n8 o8 n13 o13 (by simp)).mono ?_
  rintro e w14 ⟨rfl, b14⟩
  have HX := Lib.hid (HX.out.kept b14 (heap_lt HX.out))
  have HY := Lib.hid (HY.out.kept b14 (heap_lt HY.out))
  have n14 := n14.below b14
  have o14 := o14.below b14
  have n8 := n8.below b14
  have o8 := o8.below b14
  have b14 := bt b13 b14
  clear b13 y0 y1 y2 y3 n13 o13
  obtain ⟨y0, y1, y2, y3, _⟩ := HY.out.cells
  go_wp2_with fail
  refine (pminl_ok 1 0 3 _ _ _ _ e9N e9O true _ n8 o8 e9_ok (by rw [e9_1]; rfl)).mono ?_
  rintro e w15 ⟨rfl, b15⟩
  have HX := Lib.hid (HX.out.kept b15 (heap_lt HX.out))
  have n15 := n14.below b15
  have o15 := o14.below b15
  have b15 := bt b14 b15
  clear b14 y0 y1 y2 y3 n14 o14 n8 o8
  obtain ⟨x0, x1, x2, x3, _⟩ := HX.out.cells
  go_wp2_with fail
  refine (pminl_ok 1 0 4 _ _ _ _ e8N e8O false _ n15 o15 e8_ok (by rw [e8_4]; rfl)).mono ?_
  rintro e w16 ⟨rfl, b16⟩
  go_wp2
  go_ret
  exact ⟨rfl, bt b15 b16⟩
end Go.Proofs.Ytdedgpgdmnfijaa
end

section
/- Great of the laws of minimize. -/
namespace Go.Proofs.Ytdedgpgdmnfijaa
open Go.RowKit

def SomeB (w : World) (e : Ending) (w' : World) : Prop := ∃ b : Bool, e = .returned (.bool b) ∧ Below w.heap.size w w'
set_option maxHeartbeats 1000000 in
theorem rgreat8 (i st : Int) (A B : Option Addr) (n c m d : Nat) (nx ot : List (List Int)) (w : World) (hx : Lists w A n nx) (ho : Lists w B m ot) :
    Calls Try.prog 12 #[.agg #[.int .i64 i, .int .i64 st, .slice A n c, .slice B m d]] w (SomeB w) := by
  have hb0 := alloc_below w (.cells #[.int .i64 i, .int .i64 st, .slice A n c, .slice B m d] 24)
  have hB := mealy_box w (.int .i64 i) (.int .i64 st) (.slice A n c) (.slice B m d)
  have hn := hx.2.1
  have hm := ho.2.1
  by_cases h1 : 12 < n
  · have d1 : decide ((12 : Int) < (n : Int)) = true := by simp; omega
    go_enter Try.func12, Try.ntmps12
    go_wp2
    go_ret
    exact ⟨_, rfl, hb0⟩
  · have d1 : decide ((12 : Int) < (n : Int)) = false := by simp; omega
    by_cases h2 : 12 < m
    · have d2 : decide ((12 : Int) < (m : Int)) = true := by simp; omega
      go_enter Try.func12, Try.ntmps12
      go_wp2
      go_ret
      exact ⟨_, rfl, hb0⟩
    · have d2 : decide ((12 : Int) < (m : Int)) = false := by simp; omega
      by_cases h3 : 6 < i
      · have d3 : decide ((6 : Int) < i) = true := by simpa using h3
        go_enter Try.func12, Try.ntmps12
        go_wp2
        go_ret
        exact ⟨_, rfl, hb0⟩
      · have d3 : decide ((6 : Int) < i) = false := by simpa using h3
        go_enter Try.func12, Try.ntmps12
        go_wp2
        generalize w.alloc (.cells #[.int .i64 i, .int .i64 st, .slice A n c, .slice B m d] 24) = w1 at hb0 hB ⊢
        obtain ⟨k0, k1, k2, k3, _⟩ := hB.cells
        clear hB d1 d2 d3
        go_loop [23] (fun kv => ∃ k : Nat, k ≤ n ∧ kv = .int .i64 k) (fun kv => n - (intOf kv).toNat)
        case atStart => exact ⟨0, Nat.zero_le _, rfl⟩
        case round =>
          obtain ⟨k, hk, rfl⟩ := hrel
          by_cases hlt : k < n
          · obtain ⟨g1, o1, A1, n1, c1, rfl, hg1, hd1, hr1⟩ := hx.at_ hlt
            have e1 := (hb0.cell (p := ⟨g1, o1 + k, none⟩) hg1).trans hd1
            clear hd1
            go_wp2
            · go_ret
              exact ⟨_, rfl, hb0⟩
            · go_round
              case rel => exact ⟨k + 1, by omega, by go_num⟩
              case measure => simp [intOf]; omega
          · go_wp2
            go_loop [37] (fun kv => ∃ k : Nat, k ≤ m ∧ kv = .int .i64 k) (fun kv => m - (intOf kv).toNat)
            case atStart => exact ⟨0, Nat.zero_le _, rfl⟩
            case round =>
              obtain ⟨k, hk, rfl⟩ := hrel
              by_cases hlt : k < m
              · obtain ⟨g1, o1, A1, n1, c1, rfl, hg1, hd1, hr1⟩ := ho.at_ hlt
                have e1 := (hb0.cell (p := ⟨g1, o1 + k, none⟩) hg1).trans hd1
                clear hd1
                go_wp2
                · go_ret
                  exact ⟨_, rfl, hb0⟩
                · go_round
                  case rel => exact ⟨k + 1, by omega, by go_num⟩
                  case measure => simp [intOf]; omega
              · go_wp2
                go_ret
                exact ⟨_, rfl, hb0⟩
end Go.Proofs.Ytdedgpgdmnfijaa
end

section
/- The laws MinimizePartitions and MinimizeClasses: the walks. -/
namespace Go.Proofs.Ytdedgpgdmnfijaa
open Go.RowKit

theorem Mblk.on {w w' : World} {g : Nat} {a b c d : Value} (h : Mblk w g a b c d) (hb : Below w.heap.size w w') : Mblk w' g a b c d := h.kept hb (heap_lt h)

end Go.Proofs.Ytdedgpgdmnfijaa
end

section
/- What trimming keeps. -/
namespace Go.Proofs.Ytdedgpgdmnfijaa

section
variable {i st n : Nat} {nx ot : List (List Int)}

theorem tr_row {R : List Nat} {j : Nat} (hj : j < R.length) : (trN nx i R).getD j [] = trR nx i R (R.getD j 0) := by
  unfold trN; rw [List.getD_eq_getElem?_getD, List.getElem?_map, List.getElem?_eq_getElem hj, List.getD_eq_getElem?_getD, List.getElem?_eq_getElem hj]; rfl
theorem tr_out {R : List Nat} {j : Nat} (hj : j < R.length) : (trO ot R).getD j [] = ot.getD (R.getD j 0) [] := by
  unfold trO; rw [List.getD_eq_getElem?_getD, List.getElem?_map, List.getElem?_eq_getElem hj, List.getD_eq_getElem?_getD (l := R), List.getElem?_eq_getElem hj]; rfl
theorem tr_nN {R : List Nat} {j a : Nat} (hj : j < R.length) (ha : a < i) : nN (trN nx i R) j a = ixN R (nN nx (R.getD j 0) a) := by
  unfold nN; rw [tr_row hj, trR_at ha]; unfold nN; simp
theorem tr_oN {R : List Nat} {j a : Nat} (hj : j < R.length) : oN (trO ot R) j a = oN ot (R.getD j 0) a := by
  unfold oN; rw [tr_out hj]

theorem Mok.tr (hM : Mok i st n nx ot) : Mok i 0 (rch nx i st).length (trN nx i (rch nx i st)) (trO ot (rch nx i st)) := by
  have hs := hM.rch_stt
  have hl := hs.len
  have h0 : 0 < (rch nx i st).length := by obtain ⟨t, ht⟩ := rch_pre nx i st; rw [ht]; simp
  refine ⟨hM.i1, hM.i2, h0, by have := hM.n2; omega, h0, by simp [trN], by simp [trO], fun s h => ?_⟩
  have hm := getD_mem h
  have hr := hM.row _ (hs.2 _ hm)
  rw [tr_row h, tr_out h]
  refine ⟨trR_len _ _ _ _, hr.2.1, fun a ha => ?_⟩
  rw [trR_at ha]
  have := ixN_lt (hM.rch_in hm ha)
  exact ⟨by omega, by omega, (hr.2.2 a ha).2.2⟩

theorem tr_run (hM : Mok i st n nx ot) : ∀ (u : List Int) (s : Nat), s ∈ rch nx i st → (∀ x, x ∈ u → 0 ≤ x ∧ x < i) → runO (trN nx i (rch nx i st)) (trO ot (rch nx i st)) (ixN (rch nx i st) s) u = runO nx ot s u
  | [], _, _, _ => rfl
  | x :: u, s, hs, hu => by
    have hx := hu x (by simp)
    have ha : x.toNat < i := by omega
    show oN _ (ixN (rch nx i st) s) x.toNat :: runO _ _ (nN _ (ixN (rch nx i st) s) x.toNat) u = oN ot s x.toNat :: runO nx ot (nN nx s x.toNat) u
    rw [tr_oN (ixN_lt hs), tr_nN (ixN_lt hs) ha, ixN_at hs, tr_run hM u _ (hM.rch_in hs ha) fun y hy => hu y (by simp [hy])]

theorem ixN_st (nx : List (List Int)) (i st : Nat) : ixN (rch nx i st) st = 0 := by
  obtain ⟨t, ht⟩ := rch_pre nx i st
  rw [ht]; unfold ixN; simp
theorem st_mem (nx : List (List Int)) (i st : Nat) : st ∈ rch nx i st := by obtain ⟨t, ht⟩ := rch_pre nx i st; rw [ht]; simp

theorem addN_map {R : List Nat} {l : List Nat} {x : Nat} (hl : ∀ y, y ∈ l → y ∈ R) (hx : x ∈ R) : addN (l.map (ixN R)) (ixN R x) = (addN l x).map (ixN R) := by
  have h : ixN R x ∈ l.map (ixN R) ↔ x ∈ l := by
    rw [List.mem_map]
    constructor
    · rintro ⟨y, hy, e⟩
      have := congrArg (fun j => R.getD j 0) e
      simp only [ixN_at (hl y hy), ixN_at hx] at this
      rw [← this]; exact hy
    · intro h; exact ⟨x, h, rfl⟩
  unfold addN
  by_cases hm : x ∈ l
  · rw [if_pos (h.2 hm), if_pos hm]
  · rw [if_neg (fun H => hm (h.1 H)), if_neg hm, List.map_append]; rfl
theorem addN_sub {R l : List Nat} {x : Nat} (hl : ∀ y, y ∈ l → y ∈ R) (hx : x ∈ R) : ∀ y, y ∈ addN l x → y ∈ R := by
  unfold addN; split
  · exact hl
  · intro y hy; rw [List.mem_append] at hy
    rcases hy with hy | hy
    · exact hl y hy
    · simp at hy; subst hy; exact hx
theorem addR_map (hM : Mok i st n nx ot) {l : List Nat} {s : Nat} (hl : ∀ y, y ∈ l → y ∈ rch nx i st) (hs : s ∈ rch nx i st) : ∀ a, a ≤ i →
    addR (trN nx i (rch nx i st)) (ixN (rch nx i st) s) (l.map (ixN (rch nx i st))) a = (addR nx s l a).map (ixN (rch nx i st)) ∧ ∀ y, y ∈ addR nx s l a → y ∈ rch nx i st
  | 0, _ => ⟨rfl, hl⟩
  | a + 1, h => by
    obtain ⟨h1, h2⟩ := addR_map hM hl hs a (by omega)
    have hin := hM.rch_in hs (show a < i by omega)
    refine ⟨?_, addN_sub h2 hin⟩
    show addN (addR _ _ _ a) (nN _ _ a) = (addN _ _).map _
    rw [h1, tr_nN (ixN_lt hs) (by omega), ixN_at hs, addN_map h2 hin]
theorem bfs_map (hM : Mok i st n nx ot) : ∀ (k : Nat) (l : List Nat) (j : Nat), (∀ y, y ∈ l → y ∈ rch nx i st) →
    bfs (trN nx i (rch nx i st)) i k (l.map (ixN (rch nx i st))) j = (bfs nx i k l j).map (ixN (rch nx i st))
  | 0, _, _, _ => rfl
  | k + 1, l, j, hl => by
    show (if j < (l.map _).length then _ else _) = List.map _ (if j < l.length then _ else _)
    rw [List.length_map]
    by_cases hj : j < l.length
    · have hm := getD_mem hj
      obtain ⟨h1, h2⟩ := addR_map hM hl (hl _ hm) i (Nat.le_refl _)
      have e : (l.map (ixN (rch nx i st))).getD j 0 = ixN (rch nx i st) (l.getD j 0) := by
        rw [List.getD_eq_getElem?_getD, List.getElem?_map, List.getElem?_eq_getElem hj, List.getD_eq_getElem?_getD, List.getElem?_eq_getElem hj]; rfl
      rw [if_pos hj, if_pos hj, e, h1]
      exact bfs_map hM k _ _ h2
    · rw [if_neg hj, if_neg hj]

theorem bfs_more (hM : Mok i st n nx ot) {l : List Nat} {j : Nat} (h : Stt n l) : ∀ k, bfs nx i (n + k) l j = bfs nx i n l j
  | 0 => rfl
  | k + 1 => by rw [← Nat.add_assoc, bfs_fuel hM (n + k) l j h (by omega), bfs_more hM h k]

theorem map_ixN {R : List Nat} (hR : R.Nodup) : R.map (ixN R) = List.range R.length := by
  apply List.ext_getElem
  · simp
  · intro m h1 h2
    have hm : m < R.length := by simpa using h1
    rw [List.getElem_map, List.getElem_range]
    have := ixN_of hR hm
    rw [List.getD_eq_getElem?_getD, List.getElem?_eq_getElem hm] at this
    exact this

theorem tr_rch (hM : Mok i st n nx ot) : rch (trN nx i (rch nx i st)) i 0 = List.range (rch nx i st).length := by
  have hT := hM.tr
  have hl := hM.rch_stt.len
  have h := bfs_map hM nx.length [st] 0 (fun y hy => by simp at hy; subst hy; exact st_mem nx i y)
  rw [show [st].map (ixN (rch nx i st)) = [0] by show [ixN _ _] = _; rw [ixN_st]] at h
  show bfs _ i (trN nx i (rch nx i st)).length [0] 0 = _
  rw [hT.nxl]
  have hm := bfs_more hT (j := 0) (Stt.one hT.n1) (n - (rch nx i st).length)
  rw [show (rch nx i st).length + (n - (rch nx i st).length) = n by omega] at hm
  rw [← hm, ← hM.nxl, h]
  exact map_ixN hM.rch_stt.1

theorem ixN_range {k x : Nat} (h : x < k) : ixN (List.range k) x = x := by
  have hm : x ∈ List.range k := List.mem_range.2 h
  have h1 := ixN_at hm
  have h2 := ixN_lt hm
  rw [List.length_range] at h2
  rw [List.getD_eq_getElem?_getD, List.getElem?_eq_getElem (by rw [List.length_range]; exact h2), List.getElem_range] at h1
  exact h1
theorem getD_range {k j : Nat} (h : j < k) : (List.range k).getD j 0 = j := by
  rw [List.getD_eq_getElem?_getD, List.getElem?_eq_getElem (by rw [List.length_range]; exact h), List.getElem_range]; rfl

theorem tr_again (hM : Mok i st n nx ot) : trN (trN nx i (rch nx i st)) i (List.range (rch nx i st).length) = trN nx i (rch nx i st) := by
  have hT := hM.tr
  apply List.ext_getElem
  · simp [trN]
  · intro m h1 h2
    have hm : m < (rch nx i st).length := by simpa [trN] using h2
    have e1 := tr_row (nx := trN nx i (rch nx i st)) (i := i) (R := List.range (rch nx i st).length) (j := m) (by simpa using hm)
    have e2 := tr_row (nx := nx) (i := i) hm
    rw [List.getD_eq_getElem?_getD, List.getElem?_eq_getElem h1, getD_range hm] at e1
    rw [List.getD_eq_getElem?_getD, List.getElem?_eq_getElem h2] at e2
    have e1 : (trN (trN nx i (rch nx i st)) i (List.range (rch nx i st).length))[m] = _ := e1
    have e2 : (trN nx i (rch nx i st))[m] = _ := e2
    rw [e1, e2]
    unfold trR
    apply List.map_congr_left
    intro a ha
    have ha : a < i := List.mem_range.1 ha
    have hlt := hT.nN_lt hm ha
    rw [ixN_range hlt, tr_nN hm ha]
theorem tr_again_out (ot : List (List Int)) (R : List Nat) : trO (trO ot R) (List.range R.length) = trO ot R := by
  apply List.ext_getElem
  · simp [trO]
  · intro m h1 h2
    have hm : m < R.length := by simpa [trO] using h2
    have e1 := tr_out (ot := trO ot R) (R := List.range R.length) (j := m) (by simpa using hm)
    rw [List.getD_eq_getElem?_getD, List.getElem?_eq_getElem h1, getD_range hm, List.getD_eq_getElem?_getD, List.getElem?_eq_getElem h2] at e1
    exact e1
end
end Go.Proofs.Ytdedgpgdmnfijaa
end

section
/- The minimal machine is the same for machines with the same outputs. -/
namespace Go.Proofs.Ytdedgpgdmnfijaa

/-- A word over i symbols. -/
def Wd (i : Nat) (u : List Int) : Prop := ∀ x, x ∈ u → 0 ≤ x ∧ x < i
theorem Wd.nil (i : Nat) : Wd i [] := fun x h => by simp at h
theorem Wd.cons {i a : Nat} {u : List Int} (ha : a < i) (h : Wd i u) : Wd i ((a : Int) :: u) := fun x hx => by
  rcases List.mem_cons.1 hx with rfl | hx
  · omega
  · exact h x hx
theorem Wd.tail {i : Nat} {x : Int} {u : List Int} (h : Wd i (x :: u)) : Wd i u := fun y hy => h y (by simp [hy])
theorem Wd.head {i : Nat} {x : Int} {u : List Int} (h : Wd i (x :: u)) : ∃ a : Nat, x = a ∧ a < i := ⟨x.toNat, by have := h x (by simp); omega, by have := h x (by simp); omega⟩

/-- Two states have the same outputs for all words. -/
def Bis (i : Nat) (nx ot : List (List Int)) (s : Nat) (mx mt : List (List Int)) (t : Nat) : Prop := ∀ u, Wd i u → runO nx ot s u = runO mx mt t u
section
variable {i : Nat} {nx ot mx mt lx lt : List (List Int)} {s t r a : Nat}
theorem Bis.refl (i : Nat) (nx ot : List (List Int)) (s : Nat) : Bis i nx ot s nx ot s := fun _ _ => rfl
theorem Bis.symm (h : Bis i nx ot s mx mt t) : Bis i mx mt t nx ot s := fun u hu => (h u hu).symm
theorem Bis.trans (h : Bis i nx ot s mx mt t) (k : Bis i mx mt t lx lt r) : Bis i nx ot s lx lt r := fun u hu => (h u hu).trans (k u hu)
theorem Bis.out (h : Bis i nx ot s mx mt t) (ha : a < i) : oN ot s a = oN mt t a := by
  have := h [(a : Int)] ((Wd.nil i).cons ha)
  simpa [runO] using this
theorem Bis.next (h : Bis i nx ot s mx mt t) (ha : a < i) : Bis i nx ot (nN nx s a) mx mt (nN mx t a) := fun u hu => by
  have := h ((a : Int) :: u) (hu.cons ha)
  simp only [runO, Int.toNat_natCast, List.cons.injEq] at this
  exact this.2
end

theorem Mok.bis_cN {i st n : Nat} {nx ot : List (List Int)} (hM : Mok i st n nx ot) : ∀ (k : Nat) {s t : Nat}, s < n → t < n → Bis i nx ot s nx ot t → cN nx ot i n k s = cN nx ot i n k t
  | 0, s, t, hs, ht, _ => by rw [cN_zero hs, cN_zero ht]
  | k + 1, s, t, hs, ht, h => (hM.cN_succ hs ht).2 fun a ha => ⟨h.out ha, hM.bis_cN k (hM.nN_lt hs ha) (hM.nN_lt ht ha) (h.next ha)⟩
theorem Mok.eqc_step {i st n : Nat} {nx ot : List (List Int)} (hM : Mok i st n nx ot) {s t : Nat} (hs : s < n) (ht : t < n) (h : eqc nx ot i n s = eqc nx ot i n t) {a : Nat} (ha : a < i) :
    oN ot s a = oN ot t a ∧ eqc nx ot i n (nN nx s a) = eqc nx ot i n (nN nx t a) := by
  refine (hM.cN_succ hs ht).1 ?_ a ha
  unfold cN
  rw [hM.dep_stay]
  exact h
theorem Mok.eqc_bis {i st n : Nat} {nx ot : List (List Int)} (hM : Mok i st n nx ot) {s t : Nat} (hs : s < n) (ht : t < n) : eqc nx ot i n s = eqc nx ot i n t ↔ Bis i nx ot s nx ot t := by
  constructor
  · intro h u
    induction u generalizing s t with
    | nil => intro _; rfl
    | cons x u ih =>
      intro hu
      obtain ⟨a, rfl, ha⟩ := hu.head
      obtain ⟨h1, h2⟩ := hM.eqc_step hs ht h ha
      simp only [runO, Int.toNat_natCast]
      rw [h1, ih (hM.nN_lt hs ha) (hM.nN_lt ht ha) h2 hu.tail]
  · intro h
    exact hM.bis_cN _ hs ht h

/-- The machine of classes: its states have the outputs of those of the machine. -/
theorem Mok.quot_bis {i st n : Nat} {nx ot : List (List Int)} (hM : Mok i st n nx ot) {s : Nat} (hs : s < n) :
    Bis i (qN nx i (eqc nx ot i n) n) (qO ot (eqc nx ot i n) n) (nmb (eqc nx ot i n) s) nx ot s := by
  intro u
  induction u generalizing s with
  | nil => intro _; rfl
  | cons x u ih =>
    intro hu
    obtain ⟨a, rfl, ha⟩ := hu.head
    have hl := nmb_lt_reps (eqc nx ot i n) hs
    have hr := reps_get_lt (eqc nx ot i n) hl
    have hf := reps_at (eqc nx ot i n) hs
    obtain ⟨h1, h2⟩ := hM.eqc_step hr hs hf ha
    have e1 : oN (qO ot (eqc nx ot i n) n) (nmb (eqc nx ot i n) s) a = oN ot s a := by
      rw [← h1]; unfold oN; rw [qO_row _ _ hl]
    have e2 : nN (qN nx i (eqc nx ot i n) n) (nmb (eqc nx ot i n) s) a = nmb (eqc nx ot i n) (nN nx s a) := by
      have h3 := (nmb_eq (eqc nx ot i n)).2 h2
      rw [← h3]
      show (((qN nx i (eqc nx ot i n) n).getD _ []).getD a 0).toNat = _
      rw [qN_row _ _ _ hl, qR_at ha]
      exact Int.toNat_natCast _
    simp only [runO, Int.toNat_natCast]
    rw [e1, e2, ih (hM.nN_lt hs ha) hu.tail]
/-- Different states of the machine of classes have different outputs for a word. -/
theorem Mok.quot_red {i st n : Nat} {nx ot : List (List Int)} (hM : Mok i st n nx ot) {p q : Nat} (hp : p < (reps (eqc nx ot i n) n).length) (hq : q < (reps (eqc nx ot i n) n).length)
    (h : Bis i (qN nx i (eqc nx ot i n) n) (qO ot (eqc nx ot i n) n) p (qN nx i (eqc nx ot i n) n) (qO ot (eqc nx ot i n) n) q) : p = q := by
  have e1 := nmb_reps (eqc nx ot i n) hp
  have e2 := nmb_reps (eqc nx ot i n) hq
  have hr := reps_get_lt (eqc nx ot i n) hp
  have hs := reps_get_lt (eqc nx ot i n) hq
  have b1 := hM.quot_bis hr
  have b2 := hM.quot_bis hs
  rw [e1] at b1
  rw [e2] at b2
  have h2 := (hM.eqc_bis hr hs).2 ((b1.symm.trans h).trans b2)
  have h3 := (nmb_eq (eqc nx ot i n)).2 h2
  rw [e1, e2] at h3
  exact h3

/-- Lists of states of two machines, place by place with the same outputs. -/
def Par (i : Nat) (nx ot mx mt : List (List Int)) (l k : List Nat) : Prop := l.length = k.length ∧ ∀ j, j < l.length → Bis i nx ot (l.getD j 0) mx mt (k.getD j 0)
section
variable {i s1 s2 n m : Nat} {nx ot mx mt : List (List Int)}
theorem par_mem {l k : List Nat} (h : Par i nx ot mx mt l k) (hk : ∀ y, y ∈ k → y < m) (hR : ∀ p q, p < m → q < m → Bis i mx mt p mx mt q → p = q) {x y : Nat} (hb : Bis i nx ot x mx mt y) (hy : y < m) (hx : x ∈ l) : ∃ j, j < l.length ∧ l.getD j 0 = x ∧ k.getD j 0 = y := by
  obtain ⟨j, hj, rfl⟩ := List.getElem_of_mem hx
  have e : l.getD j 0 = l[j] := by rw [List.getD_eq_getElem?_getD, List.getElem?_eq_getElem hj]; rfl
  have h1 := h.2 j hj
  rw [e] at h1
  have hkj : k.getD j 0 ∈ k := getD_mem (by rw [← h.1]; exact hj)
  exact ⟨j, hj, e, hR _ _ (hk _ hkj) hy (h1.symm.trans hb)⟩
theorem Par.symm {l k : List Nat} (h : Par i nx ot mx mt l k) : Par i mx mt nx ot k l := ⟨h.1.symm, fun j hj => (h.2 j (by rw [h.1]; exact hj)).symm⟩
theorem par_addN (hR1 : ∀ p q, p < n → q < n → Bis i nx ot p nx ot q → p = q) (hR2 : ∀ p q, p < m → q < m → Bis i mx mt p mx mt q → p = q) {l k : List Nat} (h : Par i nx ot mx mt l k) (hl : ∀ y, y ∈ l → y < n) (hk : ∀ y, y ∈ k → y < m) {x y : Nat} (hx : x < n) (hy : y < m) (hb : Bis i nx ot x mx mt y) :
    Par i nx ot mx mt (addN l x) (addN k y) := by
  have hin : x ∈ l ↔ y ∈ k := by
    constructor
    · intro h1
      obtain ⟨j, hj, _, e⟩ := par_mem h hk hR2 hb hy h1
      rw [← e]; exact getD_mem (by rw [← h.1]; exact hj)
    · intro h1
      obtain ⟨j, hj, _, e⟩ := par_mem h.symm hl hR1 hb.symm hx h1
      rw [← e]; exact getD_mem (by rw [h.1]; exact hj)
  unfold addN
  by_cases h1 : x ∈ l
  · rw [if_pos h1, if_pos (hin.1 h1)]; exact h
  · rw [if_neg h1, if_neg (fun H => h1 (hin.2 H))]
    refine ⟨by rw [List.length_append, List.length_append, h.1]; rfl, fun j hj => ?_⟩
    rw [List.length_append] at hj
    by_cases e : j < l.length
    · rw [getD_pre e, getD_pre (by rw [← h.1]; exact e)]; exact h.2 j e
    · have ej : j = l.length := by simp at hj; omega
      subst ej
      have g1 : (l ++ [x]).getD l.length 0 = x := by simp [List.getD]
      have g2 : (k ++ [y]).getD l.length 0 = y := by rw [h.1]; simp [List.getD]
      rw [g1, g2]; exact hb
theorem par_addR (hM : Mok i s1 n nx ot) (hN : Mok i s2 m mx mt) (hR1 : ∀ p q, p < n → q < n → Bis i nx ot p nx ot q → p = q) (hR2 : ∀ p q, p < m → q < m → Bis i mx mt p mx mt q → p = q) {l k : List Nat} (h : Par i nx ot mx mt l k) (hl : Stt n l) (hk : Stt m k) {x y : Nat} (hx : x < n) (hy : y < m) (hb : Bis i nx ot x mx mt y) :
    ∀ a, a ≤ i → Par i nx ot mx mt (addR nx x l a) (addR mx y k a)
  | 0, _ => h
  | a + 1, ha => par_addN hR1 hR2 (par_addR hM hN hR1 hR2 h hl hk hx hy hb a (by omega)) (addR_stt hM hl hx a (by omega)).2 (addR_stt hN hk hy a (by omega)).2 (hM.nN_lt hx (by omega)) (hN.nN_lt hy (by omega)) (hb.next (by omega))
theorem par_bfs (hM : Mok i s1 n nx ot) (hN : Mok i s2 m mx mt) (hR1 : ∀ p q, p < n → q < n → Bis i nx ot p nx ot q → p = q) (hR2 : ∀ p q, p < m → q < m → Bis i mx mt p mx mt q → p = q) : ∀ (f : Nat) (l k : List Nat) (j : Nat), Par i nx ot mx mt l k → Stt n l → Stt m k →
    Par i nx ot mx mt (bfs nx i f l j) (bfs mx i f k j)
  | 0, _, _, _, h, _, _ => h
  | f + 1, l, k, j, h, hl, hk => by
    unfold bfs
    by_cases hj : j < l.length
    · rw [if_pos hj, if_pos (by rw [← h.1]; exact hj)]
      have hx := hl.2 _ (getD_mem hj)
      have hy := hk.2 _ (getD_mem (show j < k.length by rw [← h.1]; exact hj))
      exact par_bfs hM hN hR1 hR2 f _ _ (j + 1) (par_addR hM hN hR1 hR2 h hl hk hx hy (h.2 j hj) i (Nat.le_refl _)) (addR_stt hM hl hx i (Nat.le_refl _)) (addR_stt hN hk hy i (Nat.le_refl _))
    · rw [if_neg hj, if_neg (by rw [← h.1]; exact hj)]; exact h
theorem par_rch (hM : Mok i s1 n nx ot) (hN : Mok i s2 m mx mt) (hR1 : ∀ p q, p < n → q < n → Bis i nx ot p nx ot q → p = q) (hR2 : ∀ p q, p < m → q < m → Bis i mx mt p mx mt q → p = q) (hb : Bis i nx ot s1 mx mt s2) : Par i nx ot mx mt (rch nx i s1) (rch mx i s2) := by
  unfold rch
  rw [hM.nxl, hN.nxl, ← bfs_more hM (Stt.one hM.st) m, ← bfs_more hN (Stt.one hN.st) n, Nat.add_comm m n]
  refine par_bfs hM hN hR1 hR2 _ _ _ _ ⟨rfl, fun j hj => ?_⟩ (Stt.one hM.st) (Stt.one hN.st)
  have : j = 0 := by simp at hj; omega
  subst this; exact hb
theorem par_ix (hR2 : ∀ p q, p < m → q < m → Bis i mx mt p mx mt q → p = q) {l k : List Nat} (h : Par i nx ot mx mt l k) (hl : Stt n l) (hk : Stt m k) {x y : Nat} (hx : x ∈ l) (hy : y < m) (hb : Bis i nx ot x mx mt y) : ixN l x = ixN k y := by
  obtain ⟨j, hj, e1, e2⟩ := par_mem h hk.2 hR2 hb hy hx
  rw [← e1, ← e2, ixN_of hl.1 hj, ixN_of hk.1 (by rw [← h.1]; exact hj)]
theorem list_ext_rows {β : Type} {l k : List β} (d : β) (h1 : l.length = k.length) (h : ∀ s, s < l.length → l.getD s d = k.getD s d) : l = k := by
  apply List.ext_getElem h1
  intro s hs ht
  have := h s hs
  rw [List.getD_eq_getElem?_getD, List.getD_eq_getElem?_getD, List.getElem?_eq_getElem hs, List.getElem?_eq_getElem ht] at this
  exact this
/-- Reduced machines with the same outputs have the same trimmed machine. -/
theorem par_tr (hM : Mok i s1 n nx ot) (hN : Mok i s2 m mx mt) (hR1 : ∀ p q, p < n → q < n → Bis i nx ot p nx ot q → p = q) (hR2 : ∀ p q, p < m → q < m → Bis i mx mt p mx mt q → p = q) (hb : Bis i nx ot s1 mx mt s2) :
    trN nx i (rch nx i s1) = trN mx i (rch mx i s2) ∧ trO ot (rch nx i s1) = trO mt (rch mx i s2) := by
  have hP := par_rch hM hN hR1 hR2 hb
  have hl := hM.rch_stt
  have hk := hN.rch_stt
  constructor
  · refine list_ext_rows [] (by simp [trN, hP.1]) fun j hj => ?_
    have hj1 : j < (rch nx i s1).length := by simpa [trN] using hj
    have hj2 : j < (rch mx i s2).length := by rw [← hP.1]; exact hj1
    rw [tr_row hj1, tr_row hj2]
    unfold trR
    refine List.map_congr_left fun a ha => ?_
    rw [List.mem_range] at ha
    have m1 := hl.2 _ (getD_mem hj1)
    have m2 := hk.2 _ (getD_mem hj2)
    rw [par_ix hR2 hP hl hk (hM.rch_in (getD_mem hj1) ha) (hN.nN_lt m2 ha) ((hP.2 j hj1).next ha)]
  · refine list_ext_rows [] (by simp [trO, hP.1]) fun j hj => ?_
    have hj1 : j < (rch nx i s1).length := by simpa [trO] using hj
    have hj2 : j < (rch mx i s2).length := by rw [← hP.1]; exact hj1
    rw [tr_out hj1, tr_out hj2]
    have m1 := hM.row _ (hl.2 _ (getD_mem hj1))
    have m2 := hN.row _ (hk.2 _ (getD_mem hj2))
    refine list_ext_rows 0 (by rw [m1.2.1, m2.2.1]) fun a ha => ?_
    exact (hP.2 j hj1).out (by rw [← m1.2.1]; exact ha)
end

/-- The minimal machine is valid. -/
theorem Mok.mn {i st n : Nat} {nx ot : List (List Int)} (hM : Mok i st n nx ot) : Mok i 0 (mnR nx ot i st n).length (mnN nx ot i st n) (mnO nx ot i st n) := (hM.quot (eqc nx ot i n)).tr
/-- The minimal machine has the outputs of the machine. -/
theorem Mok.mn_bis {i st n : Nat} {nx ot : List (List Int)} (hM : Mok i st n nx ot) : Bis i (mnN nx ot i st n) (mnO nx ot i st n) 0 nx ot st := by
  intro u hu
  have hQ := hM.quot (eqc nx ot i n)
  have h1 := tr_run hQ u _ (st_mem _ _ _) hu
  rw [ixN_st] at h1
  exact h1.trans (hM.quot_bis hM.st u hu)
/-- Machines with the same outputs have the same minimal machine. -/
theorem mn_same {i s1 s2 n m : Nat} {nx ot mx mt : List (List Int)} (hM : Mok i s1 n nx ot) (hN : Mok i s2 m mx mt) (hb : Bis i nx ot s1 mx mt s2) : mnN nx ot i s1 n = mnN mx mt i s2 m ∧ mnO nx ot i s1 n = mnO mx mt i s2 m :=
  par_tr (hM.quot _) (hN.quot _) (fun _ _ hp hq h => hM.quot_red hp hq h) (fun _ _ hp hq h => hN.quot_red hp hq h) ((hM.quot_bis hM.st).trans (hb.trans (hN.quot_bis hN.st).symm))
theorem mnN_len (nx ot : List (List Int)) (i st n : Nat) : (mnN nx ot i st n).length = (mnR nx ot i st n).length := by unfold mnN trN; rw [List.length_map]
theorem mn_same_len {i s1 s2 n m : Nat} {nx ot mx mt : List (List Int)} (hM : Mok i s1 n nx ot) (hN : Mok i s2 m mx mt) (hb : Bis i nx ot s1 mx mt s2) : (mnR nx ot i s1 n).length = (mnR mx mt i s2 m).length := by
  rw [← mnN_len, ← mnN_len, (mn_same hM hN hb).1]
end Go.Proofs.Ytdedgpgdmnfijaa
end

section
/- The reference's minimal machine: a search over states whose classes are numbered. -/
namespace Go.Proofs.Ytdedgpgdmnfijaa

/-- The class of a state. -/
def clq (nx ot : List (List Int)) (i n s : Nat) : Nat := nmb (eqc nx ot i n) s
theorem Mok.clq_at {i st n : Nat} {nx ot : List (List Int)} (hM : Mok i st n nx ot) {s : Nat} (hs : s < n) : (pt nx ot i n (dep nx ot i n)).getD s 0 = clq nx ot i n s := by
  rw [pt_num hM, num_at _ hs]; rfl
theorem clq_lt (nx ot : List (List Int)) (i : Nat) {n s : Nat} (hs : s < n) : clq nx ot i n s < (reps (eqc nx ot i n) n).length := nmb_lt_reps _ hs
theorem clq_ltn (nx ot : List (List Int)) (i : Nat) {n s : Nat} (hs : s < n) : clq nx ot i n s < n := by have := clq_lt nx ot i hs; have := reps_le (eqc nx ot i n) n; omega
theorem Mok.quot_step {i st n : Nat} {nx ot : List (List Int)} (hM : Mok i st n nx ot) {s a : Nat} (hs : s < n) (ha : a < i) :
    oN (qO ot (eqc nx ot i n) n) (clq nx ot i n s) a = oN ot s a ∧ nN (qN nx i (eqc nx ot i n) n) (clq nx ot i n s) a = clq nx ot i n (nN nx s a) := by
  have hl := clq_lt nx ot i hs
  have hr := reps_get_lt (eqc nx ot i n) hl
  have hf := reps_at (eqc nx ot i n) hs
  obtain ⟨h1, h2⟩ := hM.eqc_step hr hs hf ha
  constructor
  · rw [← h1]; unfold oN; rw [qO_row _ _ hl]
  · have h3 := (nmb_eq (eqc nx ot i n)).2 h2
    show _ = nmb (eqc nx ot i n) (nN nx s a)
    rw [← h3]
    show (((qN nx i (eqc nx ot i n) n).getD _ []).getD a 0).toNat = _
    rw [qN_row _ _ _ hl, qR_at ha]
    exact Int.toNat_natCast _
/-- The states that are found behind s, as far as a inputs are tried. -/
def oA (nx ot : List (List Int)) (i n s : Nat) (l : List Nat) : Nat → List Nat
  | 0 => l
  | a + 1 => if clq nx ot i n (nN nx s a) ∈ (oA nx ot i n s l a).map (clq nx ot i n) then oA nx ot i n s l a else oA nx ot i n s l a ++ [nN nx s a]
theorem oA_in {nx ot : List (List Int)} {i n s a : Nat} {l : List Nat} (h : clq nx ot i n (nN nx s a) ∈ (oA nx ot i n s l a).map (clq nx ot i n)) : oA nx ot i n s l (a + 1) = oA nx ot i n s l a := by
  show (if _ then _ else _) = _; rw [if_pos h]
theorem oA_out {nx ot : List (List Int)} {i n s a : Nat} {l : List Nat} (h : ¬ clq nx ot i n (nN nx s a) ∈ (oA nx ot i n s l a).map (clq nx ot i n)) : oA nx ot i n s l (a + 1) = oA nx ot i n s l a ++ [nN nx s a] := by
  show (if _ then _ else _) = _; rw [if_neg h]
theorem Mok.oA_map {i st n : Nat} {nx ot : List (List Int)} (hM : Mok i st n nx ot) {s : Nat} (hs : s < n) {l : List Nat} : ∀ {a : Nat}, a ≤ i → (oA nx ot i n s l a).map (clq nx ot i n) = addR (qN nx i (eqc nx ot i n) n) (clq nx ot i n s) (l.map (clq nx ot i n)) a
  | 0, _ => rfl
  | a + 1, ha => by
    have ih := hM.oA_map hs (l := l) (a := a) (by omega)
    have h2 := (hM.quot_step hs (show a < i by omega)).2
    show _ = addN (addR _ _ _ a) (nN _ _ a)
    rw [h2, ← ih]
    unfold addN
    by_cases h : clq nx ot i n (nN nx s a) ∈ (oA nx ot i n s l a).map (clq nx ot i n)
    · rw [oA_in h, if_pos h]
    · rw [oA_out h, if_neg h, List.map_append]; rfl
theorem Mok.oA_lt {i st n : Nat} {nx ot : List (List Int)} (hM : Mok i st n nx ot) {s : Nat} (hs : s < n) {l : List Nat} (hl : ∀ x, x ∈ l → x < n) : ∀ {a : Nat}, a ≤ i → ∀ x, x ∈ oA nx ot i n s l a → x < n
  | 0, _, x, hx => hl x hx
  | a + 1, ha, x, hx => by
    by_cases h : clq nx ot i n (nN nx s a) ∈ (oA nx ot i n s l a).map (clq nx ot i n)
    · rw [oA_in h] at hx; exact hM.oA_lt hs hl (by omega) x hx
    · rw [oA_out h] at hx
      rcases List.mem_append.1 hx with hx | hx
      · exact hM.oA_lt hs hl (by omega) x hx
      · simp at hx; subst hx; exact hM.nN_lt hs (by omega)
theorem oA_pre (nx ot : List (List Int)) (i n s : Nat) (l : List Nat) : ∀ a, ∃ t, oA nx ot i n s l a = l ++ t
  | 0 => ⟨[], by simp [oA]⟩
  | a + 1 => by
    obtain ⟨t, ht⟩ := oA_pre nx ot i n s l a
    by_cases h : clq nx ot i n (nN nx s a) ∈ (oA nx ot i n s l a).map (clq nx ot i n)
    · exact ⟨t, by rw [oA_in h, ht]⟩
    · exact ⟨t ++ [nN nx s a], by rw [oA_out h, ht, List.append_assoc]⟩
/-- The numbers of classes, -1 for those that are not found yet. -/
def nbr (n : Nat) (L : List Nat) : List Int := (List.range n).map fun c => if c ∈ L then ((ixN L c : Nat) : Int) else -1
theorem nbr_len (n : Nat) (L : List Nat) : (nbr n L).length = n := by simp [nbr]
theorem nbr_at {n c : Nat} {L : List Nat} (h : c < n) : (nbr n L).getD c 0 = if c ∈ L then ((ixN L c : Nat) : Int) else -1 := by unfold nbr; simp [List.getD, h]
theorem nbr_nil (n : Nat) : nbr n [] = List.replicate n (-1) := by
  apply List.ext_getElem
  · simp [nbr]
  · intro c h1 h2; simp [nbr]
theorem nbr_set {n c : Nat} {L : List Nat} (hc : ¬ c ∈ L) : (nbr n L).set c ((L.length : Nat) : Int) = nbr n (L ++ [c]) := by
  apply List.ext_getElem
  · simp [nbr]
  · intro m h1 h2
    have hm : m < n := by simpa [nbr] using h2
    rw [List.getElem_set]
    by_cases e : c = m
    · subst e
      have h3 : ixN (L ++ [c]) c = L.length := by unfold ixN; exact idxOf_new hc
      rw [if_pos rfl]
      simp [nbr, h3]
    · rw [if_neg e]
      by_cases hin : m ∈ L
      · have h3 : ixN (L ++ [c]) m = ixN L m := by unfold ixN; exact idxOf_pre hin
        simp [nbr, hin, h3]
      · simp [nbr, hin, show ¬ m = c from fun h => e h.symm]
theorem ixN_pre {L t : List Nat} {x : Nat} (h : x ∈ L) : ixN (L ++ t) x = ixN L x := by unfold ixN; exact idxOf_pre h
/-- The rows of the minimal machine, by a state of the class. -/
theorem Mok.mn_rowN {i st n : Nat} {nx ot : List (List Int)} (hM : Mok i st n nx ot) {j s : Nat} (hj : j < (mnR nx ot i st n).length) (hs : s < n) (h : (mnR nx ot i st n).getD j 0 = clq nx ot i n s) :
    (mnN nx ot i st n).getD j [] = (List.range i).map fun a => ((ixN (mnR nx ot i st n) (clq nx ot i n (nN nx s a)) : Nat) : Int) := by
  unfold mnN
  rw [tr_row hj, h]
  unfold trR
  refine List.map_congr_left fun a ha => ?_
  rw [List.mem_range] at ha
  rw [(hM.quot_step hs ha).2]
theorem Mok.mn_rowO {i st n : Nat} {nx ot : List (List Int)} (hM : Mok i st n nx ot) {j s : Nat} (hj : j < (mnR nx ot i st n).length) (hs : s < n) (h : (mnR nx ot i st n).getD j 0 = clq nx ot i n s) :
    (mnO nx ot i st n).getD j [] = (List.range i).map fun a => oN ot s a := by
  unfold mnO
  rw [tr_out hj, h]
  have hl := clq_lt nx ot i hs
  have hlen := ((hM.quot (eqc nx ot i n)).row _ hl).2.1
  refine list_ext_rows 0 (by rw [hlen]; simp) fun a ha => ?_
  rw [hlen] at ha
  have h1 := (hM.quot_step hs ha).1
  unfold oN at h1
  rw [h1]
  simp [List.getD, ha, oN]

/-- The search stands at place j of the states l. -/
structure Srch (nx ot : List (List Int)) (i st n j : Nat) (l : List Nat) : Prop where
  run : bfs (qN nx i (eqc nx ot i n) n) i (reps (eqc nx ot i n) n).length (l.map (clq nx ot i n)) j = mnR nx ot i st n
  stt : Stt (reps (eqc nx ot i n) n).length (l.map (clq nx ot i n))
  lt : ∀ x, x ∈ l → x < n
  le : j ≤ l.length
section
variable {nx ot : List (List Int)} {i st n j : Nat} {l : List Nat}
theorem Srch.start (hM : Mok i st n nx ot) : Srch nx ot i st n 0 [st] := by
  have hQ := hM.quot (eqc nx ot i n)
  refine ⟨?_, Stt.one (clq_lt nx ot i hM.st), fun x hx => by simp at hx; subst hx; exact hM.st, Nat.zero_le _⟩
  show bfs _ i _ [nmb (eqc nx ot i n) st] 0 = rch _ i _
  unfold rch
  rw [hQ.nxl]
theorem Srch.pre (h : Srch nx ot i st n j l) : ∃ t, mnR nx ot i st n = l.map (clq nx ot i n) ++ t := by
  obtain ⟨t, ht⟩ := bfs_pre (qN nx i (eqc nx ot i n) n) i (reps (eqc nx ot i n) n).length (l.map (clq nx ot i n)) j
  exact ⟨t, by rw [← h.run]; exact ht⟩
theorem getD_map0 (f : Nat → Nat) (l : List Nat) {j : Nat} (h : j < l.length) : (l.map f).getD j 0 = f (l.getD j 0) := getD_map f l 0 0 h
theorem Srch.at_ (h : Srch nx ot i st n j l) (hj : j < l.length) : j < (mnR nx ot i st n).length ∧ (mnR nx ot i st n).getD j 0 = clq nx ot i n (l.getD j 0) := by
  obtain ⟨t, ht⟩ := h.pre
  have hl : j < (l.map (clq nx ot i n)).length := by rw [List.length_map]; exact hj
  rw [ht]
  exact ⟨by rw [List.length_append]; omega, by rw [getD_pre hl, getD_map0 _ _ hj]⟩
theorem Srch.step (hM : Mok i st n nx ot) (h : Srch nx ot i st n j l) (hj : j < l.length) : Srch nx ot i st n (j + 1) (oA nx ot i n (l.getD j 0) l i) := by
  have hQ := hM.quot (eqc nx ot i n)
  have hs := h.lt _ (getD_mem hj)
  have hmap := hM.oA_map hs (l := l) (Nat.le_refl i)
  have hjl : j < (l.map (clq nx ot i n)).length := by rw [List.length_map]; exact hj
  have hg := getD_map0 (clq nx ot i n) l hj
  obtain ⟨t, ht⟩ := oA_pre nx ot i n (l.getD j 0) l i
  refine ⟨?_, ?_, hM.oA_lt hs h.lt (Nat.le_refl i), ?_⟩
  · rw [hmap, ← hg, bfs_on hQ h.stt hjl]; exact h.run
  · rw [hmap]; exact addR_stt hQ h.stt (clq_lt nx ot i hs) i (Nat.le_refl i)
  · rw [ht, List.length_append]; omega
theorem Srch.end_ (h : Srch nx ot i st n j l) (hj : ¬ j < l.length) : l.map (clq nx ot i n) = mnR nx ot i st n := by
  rw [← h.run, bfs_end _ _ _ (by rw [List.length_map]; exact hj)]
theorem Srch.len (h : Srch nx ot i st n j l) : l.length ≤ n := by
  have h1 := h.stt.len
  have h2 := reps_le (eqc nx ot i n) n
  rw [List.length_map] at h1
  omega
theorem oA_mono (nx ot : List (List Int)) (i n s : Nat) (l : List Nat) (a : Nat) : ∀ d, ∃ t, oA nx ot i n s l (a + d) = oA nx ot i n s l a ++ t
  | 0 => ⟨[], by simp⟩
  | d + 1 => by
    obtain ⟨t, ht⟩ := oA_mono nx ot i n s l a d
    by_cases h : clq nx ot i n (nN nx s (a + d)) ∈ (oA nx ot i n s l (a + d)).map (clq nx ot i n)
    · exact ⟨t, by rw [show a + (d + 1) = (a + d) + 1 by omega, oA_in h, ht]⟩
    · exact ⟨t ++ [nN nx s (a + d)], by rw [show a + (d + 1) = (a + d) + 1 by omega, oA_out h, ht, List.append_assoc]⟩
theorem oA_has {s a : Nat} : clq nx ot i n (nN nx s a) ∈ (oA nx ot i n s l (a + 1)).map (clq nx ot i n) := by
  by_cases h : clq nx ot i n (nN nx s a) ∈ (oA nx ot i n s l a).map (clq nx ot i n)
  · rw [oA_in h]; exact h
  · rw [oA_out h]; simp
theorem Srch.rowN (hM : Mok i st n nx ot) (h : Srch nx ot i st n j l) (hj : j < l.length) {a : Nat} (ha : a < i) :
    ((mnN nx ot i st n).getD j []).take (a + 1) = ((mnN nx ot i st n).getD j []).take a ++ [((ixN ((oA nx ot i n (l.getD j 0) l (a + 1)).map (clq nx ot i n)) (clq nx ot i n (nN nx (l.getD j 0) a)) : Nat) : Int)] := by
  obtain ⟨h1, h2⟩ := h.at_ hj
  have hs := h.lt _ (getD_mem hj)
  rw [hM.mn_rowN h1 hs h2, take_next (by simpa using ha)]
  obtain ⟨t, ht⟩ := (h.step hM hj).pre
  obtain ⟨u, hu⟩ := oA_mono nx ot i n (l.getD j 0) l (a + 1) (i - (a + 1))
  rw [show a + 1 + (i - (a + 1)) = i by omega] at hu
  have e : ixN (mnR nx ot i st n) (clq nx ot i n (nN nx (l.getD j 0) a)) = ixN ((oA nx ot i n (l.getD j 0) l (a + 1)).map (clq nx ot i n)) (clq nx ot i n (nN nx (l.getD j 0) a)) := by
    rw [ht, hu, List.map_append, List.append_assoc]
    exact ixN_pre oA_has
  rw [← e]
  simp [ha]
theorem Srch.rowO (hM : Mok i st n nx ot) (h : Srch nx ot i st n j l) (hj : j < l.length) {a : Nat} (ha : a < i) :
    ((mnO nx ot i st n).getD j []).take (a + 1) = ((mnO nx ot i st n).getD j []).take a ++ [oN ot (l.getD j 0) a] := by
  obtain ⟨h1, h2⟩ := h.at_ hj
  have hs := h.lt _ (getD_mem hj)
  rw [hM.mn_rowO h1 hs h2, take_next (by simpa using ha)]
  simp [ha]
theorem Srch.lens (hM : Mok i st n nx ot) (h : Srch nx ot i st n j l) (hj : j < l.length) : ((mnN nx ot i st n).getD j []).length = i ∧ ((mnO nx ot i st n).getD j []).length = i := by
  obtain ⟨h1, h2⟩ := h.at_ hj
  have hs := h.lt _ (getD_mem hj)
  rw [hM.mn_rowN h1 hs h2, hM.mn_rowO h1 hs h2]
  exact ⟨by simp, by simp⟩
end
end Go.Proofs.Ytdedgpgdmnfijaa
end

section
/- Rows of lists in blocks of a kind: they stay where other blocks turn. -/
namespace Go.Proofs.Ytdedgpgdmnfijaa
open Go.RowKit

/-- The slice value v is a row of lists in blocks from base on of which P holds. -/
def RowsP (w : World) (base : Nat) (v : Value) (xss : List (List Int)) (P : Nat → Prop) : Prop :=
  ∃ vs : List Value, w.ownsRow base 33 1 v xss.length vs ∧ (∀ g, v.ownBlock = some g → P g) ∧
    ∀ j, j < xss.length → ∃ A c, vs[j]? = some (.slice A (xss.getD j []).length c) ∧ Owned w base (.slice A (xss.getD j []).length c) (xss.getD j []) ∧ ∀ g, (Value.slice A (xss.getD j []).length c).ownBlock = some g → P g
theorem RowsP.own {w : World} {base : Nat} {v : Value} {xss : List (List Int)} {P : Nat → Prop} (h : RowsP w base v xss P) : OwnedL w base v xss := by
  obtain ⟨vs, h1, _, h3⟩ := h
  exact ⟨vs, h1, fun j hj => by obtain ⟨A, c, a1, a2, _⟩ := h3 j hj; exact ⟨A, c, a1, a2⟩⟩
theorem RowsP.nil (w : World) (base : Nat) (P : Nat → Prop) : RowsP w base (.slice none 0 0) [] P := ⟨[], World.ownsRow_nil _ _ _ _, fun g h => by simp [Value.ownBlock] at h, fun j h => absurd h (by simp)⟩
theorem RowsP.kept {w w' : World} {base : Nat} {v : Value} {xss : List (List Int)} {P P' : Nat → Prop} (h : RowsP w base v xss P) (hk : ∀ g o, w.heap[g]? = some o → base ≤ g → P g → w'.heap[g]? = some o) (hP : ∀ g, g < w.heap.size → P g → P' g) : RowsP w' base v xss P' := by
  obtain ⟨vs, h1, h2, h3⟩ := h
  refine ⟨vs, ⟨h1.1, ?_⟩, fun g hg => hP g (World.ownsRow.lt h1 g hg).2 (h2 g hg), fun j hj => ?_⟩
  · rcases h1.2 with e | ⟨g, cap, cur, hv, hbg, hg, r⟩
    · exact .inl e
    · exact .inr ⟨g, cap, cur, hv, hbg, hk g _ hg hbg (h2 g (by rw [hv]; rfl)), r⟩
  · obtain ⟨A, c, a1, a2, a3⟩ := h3 j hj
    refine ⟨A, c, a1, ⟨a2.1, ?_⟩, fun g hg => hP g (World.ownsRow.lt a2 g hg).2 (a3 g hg)⟩
    rcases a2.2 with e | ⟨g, cap, cur, hv, hbg, hg, r⟩
    · exact .inl e
    · exact .inr ⟨g, cap, cur, hv, hbg, hk g _ hg hbg (a3 g (by rw [hv]; rfl)), r⟩
/-- append of one list to a row of lists. -/
theorem run_append_rows {w : World} {base : Nat} {v : Value} {xss : List (List Int)} {P : Nat → Prop} {B : Option Addr} {m d : Nat} {xs : List Int} (h : RowsP w base v xss P) (hx : Owned w base (.slice B m d) xs) (hxP : ∀ g, (Value.slice B m d).ownBlock = some g → P g) (hnew : ∀ g, w.heap.size ≤ g → P g) (hbase : base ≤ w.heap.size) (hl : xss.length < 1759218604441) :
    ∃ A c w', (Builtin.append_ #[22, 22] 22 #[v, .slice (some ⟨w.heap.size, 0, none⟩) 1 1]).run Try.prog (w.alloc (.cells #[.slice B m d] 33)) = .ok (.slice A (xss.length + 1) c) w' ∧
      RowsP w' base (.slice A (xss.length + 1) c) (xss ++ [xs]) P ∧ Below base w w' ∧ (∀ t, t ≠ 33 → KeptT t w w') ∧ KeptB v.ownBlock w w' ∧ Moved w v (.slice A (xss.length + 1) c) := by
  obtain ⟨i, hi, hz0, hz1, hz2⟩ := info_parts infol
  obtain ⟨vs, ho, hvP, hv⟩ := h
  have hbz := alloc_below w (.cells #[.slice B m d] 33)
  have ho1 : (w.alloc (.cells #[.slice B m d] 33)).ownsRow base 33 1 v xss.length vs := by
    refine ⟨ho.1, ?_⟩
    rcases ho.2 with e | ⟨g, cap, cur, hv, hbg, hg, r⟩
    · exact .inl e
    · exact .inr ⟨g, cap, cur, hv, hbg, (hbz.block g (heap_lt hg)).trans hg, r⟩
  obtain ⟨v', w', hr, h1, h2, _, hmv⟩ := run_append_own_at (P := Try.prog) (w.alloc (.cells #[.slice B m d] 33)) base 22 22 33 i (.slice none 0 0) 1 24 Try.underlying22 hi hz0 hz1 hz2 rfl (by decide) v _ _ ho1 ⟨w.heap.size, 0, none⟩ 1 1 [.slice B m d] (by simp)
    (by
      intro j u hu
      cases j with
      | zero =>
        simp at hu
        subst hu
        simp [Addr.add]
      | succ j => simp at hu)
    (by intro u hu; simp at hu; subst hu; rfl) (by unfold maxLen; omega) (by omega) (Nat.le_trans hbase hbz.size)
  have hs : ∀ t, t ≠ 33 → KeptT t w w' := fun t ht => (KeptT.of_below hbz).trans (KeptT.grown h2 ho1 ht)
  have hform : ∃ A c, v' = .slice A (xss.length + 1) c := by
    rcases h1.2 with ⟨rfl, h0⟩ | ⟨g, cap, cur, rfl, _⟩
    · have := h1.1; rw [h0] at this; simp at this
    · exact ⟨_, _, rfl⟩
  obtain ⟨A, c, rfl⟩ := hform
  have hkb : KeptB v.ownBlock w w' := fun g o e hne => (h2.block g (Nat.lt_of_lt_of_le (heap_lt e) hbz.size) (fun e2 => hne e2.symm)).trans ((hbz.block g (heap_lt e)).trans e)
  have hmoved : Moved w v (.slice A (xss.length + 1) c) := by
    rcases hmv with e | e
    · exact .inl e
    · exact .inr ⟨_, by simp, e⟩
  have hn : m = xs.length := by obtain ⟨A', c', e⟩ := hx.form; cases e; rfl
  subst hn
  have hP' : ∀ g, (Value.slice A (xss.length + 1) c).ownBlock = some g → P g := fun g hg => by
    rcases hmoved with e | ⟨g', hg', e⟩
    · exact hvP g (by rw [← e]; exact hg)
    · rw [e] at hg; injection hg with hg; subst hg; exact hnew _ hg'
  refine ⟨A, c, w', hr, ⟨vs ++ [.slice B xs.length d], by rw [List.length_append]; exact h1, hP', fun j hj => ?_⟩, (hbz.mono hbase).trans ((Below.refl _ _).grown h2 (Nat.le_trans hbase hbz.size) (fun k hk => (World.ownsRow.lt ho1 k hk).1)), hs, hkb, hmoved⟩
  have hvl : vs.length = xss.length := by have := ho.1; omega
  by_cases e : j < xss.length
  · obtain ⟨A2, c2, h3, h4, h5⟩ := hv j e
    have hg : (xss ++ [xs]).getD j [] = xss.getD j [] := by rw [List.getD_eq_getElem?_getD, List.getD_eq_getElem?_getD, List.getElem?_append_left e]
    rw [hg]
    exact ⟨A2, c2, by rw [List.getElem?_append_left (by omega)]; exact h3, h4.keptT (hs _ (by decide)), h5⟩
  · have hjl : j = xss.length := by simp at hj; omega
    subst hjl
    have hg : (xss ++ [xs]).getD xss.length [] = xs := by simp
    rw [hg]
    exact ⟨B, d, by rw [List.getElem?_append_right (by omega), hvl]; simp, hx.keptT (hs _ (by decide)), hxP⟩
/-- They stay, too, where a row of lists beside them grows. -/
theorem RowsP.beside {w w' : World} {base : Nat} {v u : Value} {xss : List (List Int)} {P : Nat → Prop} (h : RowsP w base v xss P) (hT : KeptT 3 w w') (hB : KeptB u.ownBlock w w') (ha : Apart u v) : RowsP w' base v xss P := by
  obtain ⟨vs, h1, h2, h3⟩ := h
  refine ⟨vs, ⟨h1.1, ?_⟩, h2, fun j hj => ?_⟩
  · rcases h1.2 with e | ⟨g, cap, cur, hv, hbg, hg, r⟩
    · exact .inl e
    · exact .inr ⟨g, cap, cur, hv, hbg, hB g _ hg (fun e => ha g e (by rw [hv]; rfl)), r⟩
  · obtain ⟨A, c, a1, a2, a3⟩ := h3 j hj
    refine ⟨A, c, a1, ⟨a2.1, ?_⟩, a3⟩
    rcases a2.2 with e | ⟨g, cap, cur, hv, hbg, hg, r⟩
    · exact .inl e
    · exact .inr ⟨g, cap, cur, hv, hbg, hT g _ hg, r⟩
end Go.Proofs.Ytdedgpgdmnfijaa
end

section
/- The reference: has, index, Reach. -/
namespace Go.Proofs.Ytdedgpgdmnfijaa
open Go.RowKit

theorem mem_take_succ {xs : List Int} {j : Nat} {v : Int} (h : ∀ m, m < j → xs.getD m 0 ≠ v) (h2 : xs.getD j 0 ≠ v) : ∀ m, m < j + 1 → xs.getD m 0 ≠ v := fun m hm => by
  by_cases e : m = j
  · subst e; exact h2
  · exact h m (by omega)

set_option maxRecDepth 100000 in
theorem rhas (A : Option Addr) (n c : Nat) (xs : List Int) (v : Int) (b : Bool) (w : World) (hx : Ints w A n xs) (hb : b = decide (v ∈ xs)) :
    Calls Try.prog 55 #[.slice A n c, .int .i64 v] w fun e w' => e = .returned (.bool b) ∧ ∃ q, w' = w.drewN q := by
  have L := Lib.hid hx.1
  have hn := hx.2.1
  have HB := Lib.hid hb
  clear hb
  go_enter Try.func55, Try.ntmps55
  go_wp2
  go_loop [5] (fun jv => ∃ j : Nat, j ≤ n ∧ jv = .int .i64 j ∧ ∀ m, m < j → xs.getD m 0 ≠ v) (fun jv => n - (intOf jv).toNat)
  case atStart => exact ⟨0, Nat.zero_le _, rfl, fun m h => absurd h (by omega)⟩
  case round =>
    obtain ⟨j, hj, rfl, hall⟩ := hrel
    have HA := Lib.hid hall
    clear hall
    by_cases hlt : j < n
    · obtain ⟨g, o, rfl, _, hcell⟩ := hx.at_ (k := j) hlt
      by_cases he : xs.getD j 0 = v
      · have hfin := Lib.hid (HB.out.trans (decide_eq_true (show v ∈ xs by rw [← he, List.getD_eq_getElem?_getD, List.getElem?_eq_getElem (by rw [L.out]; exact hlt)]; exact List.getElem_mem _)))
        rw [he] at hcell
        clear he
        go_wp2
        go_ret
        exact ⟨ret_bool hfin.out.symm, 0, rfl⟩
      · have hnx := Lib.hid (mem_take_succ HA.out he)
        have hd : (xs.getD j 0 == v) = false := beq_false_of_ne he
        generalize xs.getD j 0 = x at hcell hd
        clear he
        go_wp2
        go_round
        case rel => exact ⟨j + 1, by omega, by go_num, hnx.out⟩
        case measure => simp [intOf]; omega
    · obtain rfl : j = n := by omega
      have hfin := Lib.hid (HB.out.trans (decide_eq_false (fun hm => by
        obtain ⟨m, hm, e⟩ := List.getElem_of_mem hm
        exact HA.out m (by rw [← L.out]; exact hm) (by rw [List.getD_eq_getElem?_getD, List.getElem?_eq_getElem hm]; exact e))))
      go_wp2
      go_ret
      exact ⟨ret_bool hfin.out.symm, 0, rfl⟩

theorem rreach_bad (i st : Int) (A B : Option Addr) (n c m d : Nat) (nx ot : List (List Int)) (w : World) (hx : Lists w A n nx) (ho : Lists w B m ot) (hv : ¬ vld i st nx ot = 0) :
    Calls Try.prog 36 #[.agg #[.int .i64 i, .int .i64 st, .slice A n c, .slice B m d]] w fun e w' => e = .returned (.slice none 0 0) ∧ Below w.heap.size w w' := by
  have hb0 := alloc_below w (.cells #[.int .i64 i, .int .i64 st, .slice A n c, .slice B m d] 24)
  have hne : (vld i st nx ot != 0) = true := by simpa using hv
  go_enter Try.func36, Try.ntmps36
  go_wp2_with fail
  refine (rvalid _ _ _ _ _ _ _ _ _ _ _ (hx.below hb0) (ho.below hb0)).mono ?_
  rintro e w1 ⟨rfl, b1⟩
  have hbb := bt hb0 b1
  generalize vld i st nx ot = V at hne
  clear hb0 b1
  go_wp2
  go_ret
  exact ⟨rfl, hbb⟩

set_option maxHeartbeats 4000000 in
set_option maxRecDepth 100000 in
theorem rreach_ok (i st n : Nat) (A B : Option Addr) (c d : Nat) (nx ot : List (List Int)) (w : World) (hx : Lists w A n nx) (ho : Lists w B n ot) (hM : Mok i st n nx ot) :
    Calls Try.prog 36 #[.agg #[.int .i64 i, .int .i64 st, .slice A n c, .slice B n d]] w fun e w' => ∃ A' c', e = .returned (.slice A' (rch nx i st).length c') ∧ Owned w' w.heap.size (.slice A' (rch nx i st).length c') (zs (rch nx i st)) ∧ Below w.heap.size w w' := by
  have HV := Lib.hid hM.vld
  have hn := hx.2.1
  have hst := hM.st
  have hn128 := hM.n2
  have hb0 := alloc_below w (.cells #[.int .i64 i, .int .i64 st, .slice A n c, .slice B n d] 24)
  have HZ := Lib.hid (show (w.alloc (.cells #[.int .i64 i, .int .i64 st, .slice A n c, .slice B n d] 24)).heap.size = w.heap.size + 1 by simp)
  obtain ⟨R, hR⟩ : ∃ R, R = rch nx i st := ⟨_, rfl⟩
  have HR := Lib.hid (hR.trans (show rch nx i st = bfs nx i n [st] 0 by unfold rch; rw [hM.nxl]))
  rw [← hR]
  clear hR
  go_enter Try.func36, Try.ntmps36
  go_wp2_with fail
  refine (rvalid _ _ _ _ _ _ _ _ _ _ _ (hx.below hb0) (ho.below hb0)).mono ?_
  rintro e w1 ⟨rfl, b1⟩
  rw [HZ.out] at b1
  rw [HV.out]
  obtain ⟨k0, k1, k2, k3⟩ := box4 b1
  have hl0 : Owned (w1.alloc (.cells #[.int .i64 st] 3)) (w.heap.size + 1) (.slice (some ⟨w1.heap.size, 0, none⟩) 1 1) (zs [st]) := Owned.literal w1 _ [(st : Int)] _ 1 (by have := b1.size; simpa using this) rfl rfl (by simp)
  have hz2 : w.heap.size + 1 ≤ w1.heap.size := by have := b1.size; simpa using this
  have bw1 := b1.trans ((alloc_below w1 (.cells #[.int .i64 st] 3)).mono hz2)
  have HL0 := Lib.hid hl0
  clear hl0 b1
  go_wp2
  clear k0 k1 k2 k3
  generalize w1.alloc (.cells #[.int .i64 st] 3) = w2 at HL0 bw1 ⊢
  go_loopw [3, 4] (fun v jv wr => ∃ (l : List Nat) (j : Nat) (A' : Option Addr) (c' : Nat), j ≤ l.length ∧ jv = .int .i64 j ∧ v = .slice A' l.length c' ∧ Stt n l ∧ R = bfs nx i n l j ∧ Owned wr (w.heap.size + 1) (.slice A' l.length c') (zs l) ∧ Below (w.heap.size + 1) (w.alloc (.cells #[.int .i64 i, .int .i64 st, .slice A n c, .slice B n d] 24)) wr) (fun _ jv _ => n - (intOf jv).toNat)
  case atStart => exact ⟨[st], 0, _, 1, Nat.zero_le _, rfl, rfl, Stt.one hst, HR.out, HL0.out, bw1⟩
  case round =>
    obtain ⟨l, j, A', c', hj, rfl, rfl, hS, hB, hown, hbr⟩ := hrel
    have HB := Lib.hid hB
    clear hB
    have hll := hS.len
    by_cases hlt : j < l.length
    · have hjn : j < n := by omega
      have hs : l.getD j 0 < n := hS.2 _ (getD_mem hlt)
      have HNX := Lib.hid (bfs_on hM hS hlt)
      have HAT := Lib.hid (fun a => addR_at (nx := nx) (s := l.getD j 0) hlt a)
      generalize l.getD j 0 = s at hs HNX HAT
      obtain ⟨g1, p1, A1, n1, c1, rfl, hg1, hd1, hr1⟩ := hx.at_ hs
      have hi1 := (hM.row s hs).1
      have hl1 := hr1.1
      obtain rfl : n1 = i := by omega
      have hi64 := hM.i2
      clear hl1 hi1
      have HOW := Lib.hid hown
      have HBR := Lib.hid hbr
      clear hown hbr
      go_wp2
      obtain ⟨wo, rfl⟩ : ∃ wo : World, wo = wr := ⟨_, rfl⟩
      go_loopw [3, 5] (fun v av wq => ∃ (a : Nat) (A2 : Option Addr) (c2 : Nat), a ≤ n1 ∧ av = .int .i64 a ∧ v = .slice A2 (addR nx s l a).length c2 ∧ Owned wq (w.heap.size + 1) (.slice A2 (addR nx s l a).length c2) (zs (addR nx s l a)) ∧ Below (w.heap.size + 1) (w.alloc (.cells #[.int .i64 n1, .int .i64 st, .slice (some ⟨g1, p1, none⟩) n c, .slice B n d] 24)) wq) (fun _ av _ => n1 - (intOf av).toNat)
      case atStart => exact ⟨0, _, _, Nat.zero_le _, rfl, rfl, HOW.out, HBR.out⟩
      case round =>
        obtain ⟨a, A2, c2, ha, rfl, rfl, hown, hbr⟩ := hrel
        have hSa := addR_stt hM hS hs a ha
        have hbw := hb0.trans (hbr.mono (Nat.le_succ _))
        have hal := addR_len (nx := nx) (s := s) (l := l) a
        obtain ⟨k0, k1, k2, k3⟩ := box4 hbr
        have hj2 := HAT.out a
        by_cases hla : a < n1
        · obtain ⟨g3, p3, rfl, hg3, hy1⟩ := hr1.at_ hla
          rw [hM.nN_eq hs hla] at hy1
          have ht := hM.nN_lt hs hla
          have hIn := Lib.hid (fun h => addR_in (nx := nx) (s := s) (a := a) (l := l) h)
          have hOut := Lib.hid (fun h => addR_out (nx := nx) (s := s) (a := a) (l := l) h)
          generalize nN nx s a = t at hy1 ht hIn hOut
          have e1 := (hbw.cell (p := ⟨g1, p1 + s, none⟩) hg1).trans hd1
          have e3 := (hbw.cell (p := ⟨g3, p3 + a, none⟩) hg3).trans hy1
          clear hy1
          generalize addR nx s l a = l' at hown hSa hIn hOut hal hj2
          have hll' := hSa.len
          have hint := hown.ints (by rw [zs_len]; omega)
          have hjl : j < l'.length := by omega
          have hjl2 : (j : Int) < (l'.length : Int) := by omega
          obtain ⟨b4, o4, rfl, hb4, hc4⟩ := hint.at_ (k := j) (by omega)
          rw [zs_at, hj2] at hc4
          have HOW := Lib.hid hown
          have HBR := Lib.hid hbr
          clear hown
          by_cases hm : t ∈ l'
          · have hnx := Lib.hid (hIn.out hm)
            have HH := Lib.hid (show true = decide ((t : Int) ∈ zs l') from (decide_eq_true (mem_zs.2 hm)).symm)
            clear hIn hOut hm hbr
            go_wp2
            go_quiet ((go_at_call 55; exact Calls.quiet_of (rhas _ _ _ _ _ _ _ hint HH.out)))
            go_wp2
            go_roundw
            case rel => exact ⟨a + 1, _, c2, by omega, by go_num, by rw [hnx.out], by rw [hnx.out]; exact HOW.out, below_drewN HBR.out _⟩
            case measure => simp [intOf]; omega
          · have hnx := Lib.hid (hOut.out hm)
            have HH := Lib.hid (show false = decide ((t : Int) ∈ zs l') from (decide_eq_false (fun h => hm (mem_zs.1 h))).symm)
            have hsz : w.heap.size + 1 ≤ wr.heap.size := by have := hbr.size; simpa using this
            obtain ⟨F, hF⟩ := app_all HOW.out (t : Int) hsz (by rw [zs_len]; omega)
            have hz : zs l' ++ [(t : Int)] = zs (l' ++ [t]) := by rw [zs_append, zs_one]
            rw [hz] at hF
            have HF := Lib.hid hF
            have HL := Lib.hid (show (l' ++ [t]).length = l'.length + 1 by simp)
            clear hIn hOut hm hbr hF hz
            go_wp2
            go_quiet ((go_at_call 55; exact Calls.quiet_of (rhas _ _ _ _ _ _ _ hint HH.out)))
            go_wp2
            go_region_law (refine step_append_run rfl _ _ _ _ rfl _ _ rfl rfl _ _ (HF.out _).1 ?_)
            all_goals
              go_wp2
              go_roundw
              case rel => exact ⟨a + 1, _, _, by omega, by go_num, by rw [hnx.out, HL.out], by rw [hnx.out, HL.out]; exact (HF.out _).2.1, HBR.out.trans (HF.out _).2.2⟩
              case measure => simp [intOf]; omega
        · obtain rfl : a = n1 := by omega
          have HX := Lib.hid (HB.out.trans HNX.out.symm)
          generalize addR nx s l a = l' at hown hSa hal hj2 HX
          have HOW := Lib.hid hown
          clear hown hj2
          go_wp2
          go_roundw
          case rel => exact ⟨l', j + 1, A2, c2, by omega, by go_num, rfl, hSa, HX.out, HOW.out, hbr⟩
          case measure => simp [intOf]; omega
    · have hfin := Lib.hid (HB.out.trans (bfs_end nx i n hlt))
      have HOW := Lib.hid hown
      have hbw := hb0.trans (hbr.mono (Nat.le_succ _))
      clear hown
      go_wp2
      go_ret
      exact ⟨A', c', by rw [hfin.out]; rfl, by rw [hfin.out]; exact Owned.lower HOW.out (Nat.le_succ _), hbw⟩
end Go.Proofs.Ytdedgpgdmnfijaa
end

section
/- Two rows of numbers that grow side by side. -/
namespace Go.Proofs.Ytdedgpgdmnfijaa
open Go.RowKit

theorem Owned.lt {w : World} {base : Nat} {v : Value} {xs : List Int} (h : Owned w base v xs) : ∀ k, v.ownBlock = some k → base ≤ k ∧ k < w.heap.size := World.ownsRow.lt h
theorem Owned.keptB {w w' : World} {base : Nat} {u v : Value} {xs : List Int} (h : Owned w base v xs) (hk : KeptB u.ownBlock w w') (ha : Apart u v) : Owned w' base v xs := by
  refine ⟨h.1, ?_⟩
  rcases h.2 with e | ⟨g, cap, cur, hv, hbg, hg, r⟩
  · exact .inl e
  · exact .inr ⟨g, cap, cur, hv, hbg, hk g _ hg (fun e => ha g e (by rw [hv]; rfl)), r⟩
theorem Apart.movedI {w : World} {base : Nat} {v v' u : Value} {xs : List Int} (h : Apart v u) (hm : Moved w v v') (hu : Owned w base u xs) : Apart v' u := by
  rcases hm with e | ⟨g, hg, e⟩
  · intro k hk; rw [e] at hk; exact h k hk
  · intro k hk h2
    rw [e] at hk
    injection hk with hk
    have := (hu.lt k h2).2
    omega

/-- append of one number; every other block is as it was. -/
theorem run_append_onek {w : World} {base : Nat} {v : Value} {xs : List Int} (h : Owned w base v xs) (x : Int) (hbase : base ≤ w.heap.size) (hl : xs.length < 17592186044416) :
    ∃ A c w', (Builtin.append_ #[33, 33] 33 #[v, .slice (some ⟨w.heap.size, 0, none⟩) 1 1]).run Try.prog (w.alloc (.cells #[.int .i64 x] 3)) = .ok (.slice A (xs.length + 1) c) w' ∧
      Owned w' base (.slice A (xs.length + 1) c) (xs ++ [x]) ∧ Below base w w' ∧ KeptB v.ownBlock w w' ∧ Moved w v (.slice A (xs.length + 1) c) := by
  obtain ⟨i, hi, hz0, hz1, hz2⟩ := info_parts info3
  have hbz := alloc_below w (.cells #[.int .i64 x] 3)
  have ho1 : (w.alloc (.cells #[.int .i64 x] 3)).ownsRow base 3 1 v xs.length (xs.map (Value.int .i64)) := h.kept hbz
  obtain ⟨v', w', hr, h1, h2, _, hmv⟩ := run_append_own_at (P := Try.prog) (w.alloc (.cells #[.int .i64 x] 3)) base 33 33 3 i (.int .i64 0) 1 8 Try.underlying33 hi hz0 hz1 hz2 rfl (by decide) v _ _ ho1 ⟨w.heap.size, 0, none⟩ 1 1 [.int .i64 x] (by simp)
    (by
      intro j u hu
      cases j with
      | zero =>
        simp at hu
        subst hu
        simp [Addr.add]
      | succ j => simp at hu)
    (by intro u hu; simp at hu; subst hu; rfl) (by unfold maxLen; omega) (by omega) (Nat.le_trans hbase hbz.size)
  have hown : Owned w' base v' (xs ++ [x]) := by
    unfold Owned
    rw [List.length_append, List.map_append]
    exact h1
  obtain ⟨A, c, rfl⟩ := hown.form
  rw [List.length_append] at hr hown
  have hkb : KeptB v.ownBlock w w' := fun g o e hne => (h2.block g (Nat.lt_of_lt_of_le (heap_lt e) hbz.size) (fun e2 => hne e2.symm)).trans ((hbz.block g (heap_lt e)).trans e)
  refine ⟨A, c, w', hr, hown, (hbz.mono hbase).trans ((Below.refl _ _).grown h2 (Nat.le_trans hbase hbz.size) (fun k hk => (World.ownsRow.lt ho1 k hk).1)), hkb, ?_⟩
  rcases hmv with e | e
  · exact .inl (by rw [List.length_append] at e; exact e)
  · exact .inr ⟨(w.alloc (.cells #[.int .i64 x] 3)).heap.size, by simp, by rw [List.length_append] at e; exact e⟩

/-- append to one of two rows, behind any number of draws. -/
theorem pair_app {wr : World} {base q : Nat} {A : Option Addr} {c : Nat} {u : Value} {xs ys : List Int} (h : Owned wr base (.slice A q c) xs) (hu : Owned wr base u ys) (ha : Apart (.slice A q c) u) (x : Int) (hbase : base ≤ wr.heap.size) (hl : xs.length < 17592186044416) :
    ∃ F : Nat → (Option Addr × Nat) × World, ∀ k, (Builtin.append_ #[33, 33] 33 #[.slice A q c, .slice (some ⟨wr.heap.size, 0, none⟩) 1 1]).run Try.prog ((wr.drewN k).alloc (.cells #[.int .i64 x] 3)) = .ok (.slice (F k).1.1 (q + 1) (F k).1.2) (F k).2 ∧
      Owned (F k).2 base (.slice (F k).1.1 (q + 1) (F k).1.2) (xs ++ [x]) ∧ Owned (F k).2 base u ys ∧ Apart (.slice (F k).1.1 (q + 1) (F k).1.2) u ∧ Below base wr (F k).2 := by
  have hq : q = xs.length := by obtain ⟨A', c', e⟩ := h.form; cases e; rfl
  refine skol (p := fun k (r : (Option Addr × Nat) × World) => (Builtin.append_ #[33, 33] 33 #[.slice A q c, .slice (some ⟨wr.heap.size, 0, none⟩) 1 1]).run Try.prog ((wr.drewN k).alloc (.cells #[.int .i64 x] 3)) = .ok (.slice r.1.1 (q + 1) r.1.2) r.2 ∧
      Owned r.2 base (.slice r.1.1 (q + 1) r.1.2) (xs ++ [x]) ∧ Owned r.2 base u ys ∧ Apart (.slice r.1.1 (q + 1) r.1.2) u ∧ Below base wr r.2) fun k => ?_
  obtain ⟨A', c', w', h1, h2, h3, h4, h5⟩ := run_append_onek (h.drew k) x hbase hl
  rw [← hq] at h1 h2 h5
  exact ⟨((A', c'), w'), h1, h2, (hu.drew k).keptB h4 ha, ha.movedI h5 (hu.drew k), (below_drewN (Below.refl _ _) k).trans h3⟩
end Go.Proofs.Ytdedgpgdmnfijaa
end

section
/- The reference's minimal machine: what holds of the rows that a round writes. -/
namespace Go.Proofs.Ytdedgpgdmnfijaa
open Go.RowKit

/-- Within a round: order, numbers, and the two rows that are made; everything else of the round's start stands. -/
structure Rnd (w2 wo : World) (bo gn n : Nat) (vo0 : Value) (W : World) (vo vx vy : Value) (L N X Y : List Int) : Prop where
  ord : Owned W bo vo L
  num : Owned W gn (.slice (some ⟨gn, 0, none⟩) n n) N
  ong : vo.ownBlock ≠ some gn
  nxt : Owned W wo.heap.size vx X
  out : Owned W wo.heap.size vy Y
  axy : Apart vx vy
  aox : Apart vo vx
  aoy : Apart vo vy
  kx : ∀ g o, wo.heap[g]? = some o → g ≠ gn → vo0.ownBlock ≠ some g → W.heap[g]? = some o
  mv : Moved wo vo0 vo
  bel : Below bo w2 W
  size : wo.heap.size ≤ W.heap.size
section
variable {w2 wo W : World} {bo gn n : Nat} {vo0 vo vx vy : Value} {L N X Y : List Int}
theorem Rnd.drew (h : Rnd w2 wo bo gn n vo0 W vo vx vy L N X Y) (k : Nat) : Rnd w2 wo bo gn n vo0 (W.drewN k) vo vx vy L N X Y :=
  ⟨h.ord, h.num, h.ong, h.nxt, h.out, h.axy, h.aox, h.aoy, h.kx, h.mv, below_drewN h.bel k, h.size⟩
theorem not_own_of_ge {w : World} {base g : Nat} {v : Value} {xs : List Int} (h : Owned w base v xs) (hg : g < base) : v.ownBlock ≠ some g := fun e => by have := (h.lt g e).1; omega
/-- number[c] = x. -/
theorem Rnd.store (h : Rnd w2 wo bo gn n vo0 W vo vx vy L N X Y) (hb : bo ≤ gn) (hg : gn < wo.heap.size) (c : Nat) (x : Int) : Rnd w2 wo bo gn n vo0 (W.setCell ⟨gn, c, none⟩ (.int .i64 x)) vo vx vy L (N.set c x) X Y := by
  have hk : KeptB (some gn) W (W.setCell ⟨gn, c, none⟩ (.int .i64 x)) := fun g o e hne => (heap_setCell_other W ⟨gn, c, none⟩ g _ (fun H => hne (by rw [H]))).trans e
  have ap : ∀ v : Value, v.ownBlock ≠ some gn → Apart (.slice (some ⟨gn, 0, none⟩) n n) v := fun v hv g h1 h2 => by
    have : gn = g := by simpa [Value.ownBlock] using h1
    subst this; exact hv h2
  have e : (Value.slice (some ⟨gn, 0, none⟩) n n).ownBlock = some gn := rfl
  rw [← e] at hk
  refine ⟨h.ord.keptB hk (ap _ h.ong), h.num.stored c x, h.ong, h.nxt.keptB hk (ap _ (not_own_of_ge h.nxt hg)), h.out.keptB hk (ap _ (not_own_of_ge h.out hg)), h.axy, h.aox, h.aoy, fun g o e1 e2 e3 => ?_, h.mv, h.bel.setCell (p := ⟨gn, c, none⟩) hb _, ?_⟩
  · exact (heap_setCell_other W ⟨gn, c, none⟩ g _ e2).trans (h.kx g o e1 e2 e3)
  · have := h.size; simpa using this
/-- append(order, x). -/
theorem Rnd.push (h : Rnd w2 wo bo gn n vo0 W vo vx vy L N X Y) (hb : bo ≤ wo.heap.size) (hg : gn < wo.heap.size) (x : Int) (hl : L.length < 17592186044416) :
    ∃ A c W', (Builtin.append_ #[33, 33] 33 #[vo, .slice (some ⟨W.heap.size, 0, none⟩) 1 1]).run Try.prog (W.alloc (.cells #[.int .i64 x] 3)) = .ok (.slice A (L.length + 1) c) W' ∧ Rnd w2 wo bo gn n vo0 W' (.slice A (L.length + 1) c) vx vy (L ++ [x]) N X Y := by
  have hs := h.size
  obtain ⟨A, c, W', h1, h2, h3, h4, h5⟩ := run_append_onek h.ord x (by omega) hl
  have hzW : W.heap.size ≤ W'.heap.size := h3.size
  refine ⟨A, c, W', h1, h2, h.num.keptB h4 ?_, ?_, h.nxt.keptB h4 h.aox, h.out.keptB h4 h.aoy, h.axy, h.aox.movedI h5 h.nxt, h.aoy.movedI h5 h.out, fun g o e1 e2 e3 => ?_, ?_, h.bel.trans h3, by omega⟩
  · intro g e1 e2
    have : gn = g := by simpa [Value.ownBlock] using e2
    subst this; exact h.ong e1
  · rcases h5 with e | ⟨g, hg2, e⟩
    · rw [e]; exact h.ong
    · rw [e]; intro H; injection H with H; omega
  · have hW := h.kx g o e1 e2 e3
    refine h4 g o hW fun e => ?_
    rcases h.mv with e4 | ⟨g', hg', e4⟩
    · rw [e4] at e; exact e3 e
    · rw [e4] at e; injection e with e; have := heap_lt e1; omega
  · rcases h5 with e | ⟨g, hg2, e⟩
    · rcases h.mv with e4 | ⟨g', hg', e4⟩
      · exact .inl (e.trans e4)
      · exact .inr ⟨g', hg', e.trans e4⟩
    · exact .inr ⟨g, by omega, e⟩
/-- append(next, x). -/
theorem Rnd.next (h : Rnd w2 wo bo gn n vo0 W vo vx vy L N X Y) (hb : bo ≤ wo.heap.size) (hg : gn < wo.heap.size) (x : Int) (hl : X.length < 17592186044416) :
    ∃ A c W', (Builtin.append_ #[33, 33] 33 #[vx, .slice (some ⟨W.heap.size, 0, none⟩) 1 1]).run Try.prog (W.alloc (.cells #[.int .i64 x] 3)) = .ok (.slice A (X.length + 1) c) W' ∧ Rnd w2 wo bo gn n vo0 W' vo (.slice A (X.length + 1) c) vy L N (X ++ [x]) Y := by
  have hs := h.size
  obtain ⟨A, c, W', h1, h2, h3, h4, h5⟩ := run_append_onek h.nxt x hs hl
  have hzW : W.heap.size ≤ W'.heap.size := h3.size
  refine ⟨A, c, W', h1, h.ord.keptB h4 h.aox.symm, h.num.keptB h4 ?_, h.ong, h2, h.out.keptB h4 h.axy, h.axy.movedI h5 h.out, (h.aox.symm.movedI h5 h.ord).symm, h.aoy, fun g o e1 e2 e3 => ?_, h.mv, h.bel.trans (h3.mono hb), by omega⟩
  · intro g e1 e2
    have : gn = g := by simpa [Value.ownBlock] using e2
    subst this; exact not_own_of_ge h.nxt hg e1
  · exact h4 g o (h.kx g o e1 e2 e3) (not_own_of_ge h.nxt (heap_lt e1))
/-- append(outs, y), behind any number of draws. -/
theorem Rnd.outs (h : Rnd w2 wo bo gn n vo0 W vo vx vy L N X Y) (hb : bo ≤ wo.heap.size) (hg : gn < wo.heap.size) (y : Int) (hl : Y.length < 17592186044416) :
    ∃ F : Nat → (Option Addr × Nat) × World, ∀ k, (Builtin.append_ #[33, 33] 33 #[vy, .slice (some ⟨W.heap.size, 0, none⟩) 1 1]).run Try.prog ((W.drewN k).alloc (.cells #[.int .i64 y] 3)) = .ok (.slice (F k).1.1 (Y.length + 1) (F k).1.2) (F k).2 ∧ Rnd w2 wo bo gn n vo0 (F k).2 vo vx (.slice (F k).1.1 (Y.length + 1) (F k).1.2) L N X (Y ++ [y]) ∧ Below bo W (F k).2 := by
  refine skol (p := fun k (r : (Option Addr × Nat) × World) => (Builtin.append_ #[33, 33] 33 #[vy, .slice (some ⟨W.heap.size, 0, none⟩) 1 1]).run Try.prog ((W.drewN k).alloc (.cells #[.int .i64 y] 3)) = .ok (.slice r.1.1 (Y.length + 1) r.1.2) r.2 ∧ Rnd w2 wo bo gn n vo0 r.2 vo vx (.slice r.1.1 (Y.length + 1) r.1.2) L N X (Y ++ [y]) ∧ Below bo W r.2) fun k => ?_
  have h := h.drew k
  have hs := h.size
  obtain ⟨A, c, W', h1, h2, h3, h4, h5⟩ := run_append_onek h.out y hs hl
  have hzW : (W.drewN k).heap.size ≤ W'.heap.size := h3.size
  refine ⟨((A, c), W'), h1, ⟨h.ord.keptB h4 h.aoy.symm, h.num.keptB h4 ?_, h.ong, h.nxt.keptB h4 h.axy.symm, h2, (h.axy.symm.movedI h5 h.nxt).symm, h.aox, (h.aoy.symm.movedI h5 h.ord).symm, fun g o e1 e2 e3 => ?_, h.mv, h.bel.trans (h3.mono hb), Nat.le_trans hs hzW⟩, (below_drewN (Below.refl _ _) k).trans (h3.mono hb)⟩
  · intro g e1 e2
    have : gn = g := by simpa [Value.ownBlock] using e2
    subst this; exact not_own_of_ge h.out hg e1
  · exact h4 g o (h.kx g o e1 e2 e3) (not_own_of_ge h.out (heap_lt e1))
end
end Go.Proofs.Ytdedgpgdmnfijaa
end
