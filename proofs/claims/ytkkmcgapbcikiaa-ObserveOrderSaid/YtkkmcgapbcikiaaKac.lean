/- Lemmas of the proofs of this seat, of the parts Hyx, Obg, Insw, Wthw, Dictw, Reachm, Hyd. Conditions: none. -/
import Derived.Test.YtkkmcgapbcikiaaKab
import Derived.Test.YtkkmcgapbcikiaaKaa
section
/- Refuted: what it looks for; a row of headers of words. -/
namespace Go.Proofs.Ytkkmcgapbcikiaa
open Go.RowKit

/-- Where the outputs of the machine for the trace j stop to be those of the trace. -/
def dfN (nx ot : List (List Int)) (st : Nat) (ts : List (List Int × List Int)) (j : Nat) : Nat := cmn (runO nx ot st (tIn ts j)) (tOut ts j)
/-- One of the first k traces refutes by x. -/
def Rf (nx ot : List (List Int)) (st : Nat) (ts : List (List Int × List Int)) (k : Nat) (x : List Int) : Prop := ∃ j, j < k ∧ dfN nx ot st ts j < (tIn ts j).length ∧ x = (tIn ts j).take (dfN nx ot st ts j + 1)
theorem fst1_skip {p q : List Int → Prop} {o : List Int} (h : Fst1 p o) (e : ∀ x, q x ↔ p x) : Fst1 q o := h.congr fun x => (e x).symm
theorem fst1_new {p q : List Int → Prop} {o z : List Int} (h : Fst1 p o) (hz : 0 < z.length) (e : ∀ x, q x ↔ p x ∨ x = z) (hc : o = [] ∨ shlex z o < 0) : Fst1 q z := by
  refine .inr ⟨(e z).2 (.inr rfl), hz, fun x hx => ?_⟩
  rcases (e x).1 hx with h1 | rfl
  · rcases h with ⟨rfl, h4⟩ | ⟨h4, h5, h6⟩
    · exact absurd h1 (h4 x)
    · rcases hc with rfl | hc
      · simp at h5
      · have := (shlex_trans z o x).2 hc (h6 x h1); omega
  · exact Int.le_of_eq ((shlex_zero x x).2 rfl)
theorem fst1_old {p q : List Int → Prop} {o z : List Int} (h : Fst1 p o) (e : ∀ x, q x ↔ p x ∨ x = z) (ho : ¬ o = []) (hc : ¬ shlex z o < 0) : Fst1 q o := by
  rcases h with ⟨h4, _⟩ | ⟨h4, h5, h6⟩
  · exact absurd h4 ho
  · refine .inr ⟨(e o).2 (.inl h4), h5, fun x hx => ?_⟩
    rcases (e x).1 hx with h1 | rfl
    · exact h6 x h1
    · have := shlex_neg x o; omega
theorem Rf.zero (nx ot : List (List Int)) (st : Nat) (ts : List (List Int × List Int)) : Fst1 (Rf nx ot st ts 0) [] := .inl ⟨rfl, fun _ ⟨j, h, _⟩ => absurd h (Nat.not_lt_zero j)⟩
theorem rf_no {nx ot : List (List Int)} {st k : Nat} {ts : List (List Int × List Int)} (h : ¬ dfN nx ot st ts k < (tIn ts k).length) (x : List Int) : Rf nx ot st ts (k + 1) x ↔ Rf nx ot st ts k x :=
  ⟨fun ⟨j, h1, h2, h3⟩ => ⟨j, by rcases Nat.lt_or_ge j k with h4 | h4; exact h4; rw [show j = k by omega] at h2; exact absurd h2 h, h2, h3⟩, fun ⟨j, h1, h2⟩ => ⟨j, by omega, h2⟩⟩
theorem rf_yes {nx ot : List (List Int)} {st k : Nat} {ts : List (List Int × List Int)} (h : dfN nx ot st ts k < (tIn ts k).length) (x : List Int) : Rf nx ot st ts (k + 1) x ↔ Rf nx ot st ts k x ∨ x = (tIn ts k).take (dfN nx ot st ts k + 1) := by
  constructor
  · rintro ⟨j, h1, h2, h3⟩
    rcases Nat.lt_or_ge j k with h4 | h4
    · exact .inl ⟨j, h4, h2, h3⟩
    · rw [show j = k by omega] at h3; exact .inr h3
  · rintro (⟨j, h1, h2⟩ | h1)
    · exact ⟨j, by omega, h2⟩
    · exact ⟨k, by omega, h, h1⟩
/-- The result of Refuted. -/
def Ref3 (p : List Int → Prop) (w : World) (r : Ending) (w' : World) : Prop :=
  ∃ (A' : Option Addr) (n' c' : Nat) (xs : List Int) (b : Bool), r = .returned (.tuple #[.slice A' n' c', .bool b, .int .i64 0]) ∧ Fst1 p xs ∧ Ints w' A' n' xs ∧ (b = true ↔ ¬ xs = []) ∧ Below w.heap.size w w'

/-- The slice value v is a row of headers of words in blocks from base on, which the call may write; the numbers lie in the memory of w0. -/
def LsH (w0 w : World) (base : Nat) (v : Value) (ws : List (List Int)) : Prop :=
  ∃ vs : List Value, w.ownsRow base 36 1 v ws.length vs ∧ ∀ j, j < ws.length → ∃ A1 n1 c1, vs[j]? = some (.slice A1 n1 c1) ∧ Ints w0 A1 n1 (ws.getD j [])
theorem LsH.nil (w0 w : World) (base : Nat) : LsH w0 w base (.slice none 0 0) [] := ⟨[], World.ownsRow_nil _ _ _ _, fun j h => absurd h (by simp)⟩
theorem LsH.form {w0 w : World} {base : Nat} {v : Value} {ws : List (List Int)} (h : LsH w0 w base v ws) : ∃ A c, v = .slice A ws.length c := by
  obtain ⟨vs, h, _⟩ := h
  rcases h.2 with ⟨rfl, h0⟩ | ⟨g, cap, cur, rfl, _⟩
  · have : ws.length = 0 := h0
    exact ⟨none, 0, by rw [this]⟩
  · exact ⟨_, _, rfl⟩
theorem LsH.keptT {w0 w w' : World} {base : Nat} {v : Value} {ws : List (List Int)} (h : LsH w0 w base v ws) (hl : KeptT 36 w w') : LsH w0 w' base v ws := by
  obtain ⟨vs, h, hr⟩ := h
  refine ⟨vs, ⟨h.1, ?_⟩, hr⟩
  rcases h.2 with e | ⟨g, cap, cur, hv, hbg, hg, r⟩
  · exact .inl e
  · exact .inr ⟨g, cap, cur, hv, hbg, hl g cur hg, r⟩
theorem LsH.lists {w0 w : World} {base : Nat} {A : Option Addr} {n c : Nat} {ws : List (List Int)} (h : LsH w0 w base (.slice A n c) ws) (hb : Below w0.heap.size w0 w) (hm : ws.length ≤ 17592186044416) : Lists w A n ws := by
  have hn : n = ws.length := by obtain ⟨A', c', e⟩ := h.form; cases e; rfl
  subst hn
  refine ⟨rfl, hm, fun h0 => ?_⟩
  obtain ⟨vs, ho, hv⟩ := h
  rcases ho.2 with ⟨e, h0'⟩ | ⟨g, cap, cur, e, _, hg, r⟩
  · omega
  · cases e
    refine ⟨g, 0, rfl, heap_lt hg, fun j hj => ?_⟩
    obtain ⟨A1, n1, c1, h1, h2⟩ := hv j hj
    have hl := ho.1
    refine ⟨A1, n1, c1, ?_, h2.below hb⟩
    rw [Nat.zero_add, World.ownsRow.cellAt ho j (by omega), h1]
/-- append of one header. -/
theorem run_append_lsh {w0 w : World} {base : Nat} {v : Value} {ws : List (List Int)} {A : Option Addr} {m c : Nat} {xs : List Int} (h : LsH w0 w base v ws) (hx : Ints w0 A m xs) (hbase : base ≤ w.heap.size) (hl : ws.length < 1000000000) :
    ∃ A' c' w', (Builtin.append_ #[54, 54] 54 #[v, .slice (some ⟨w.heap.size, 0, none⟩) 1 1]).run Try.prog (w.alloc (.cells #[.slice A m c] 36)) = .ok (.slice A' (ws.length + 1) c') w' ∧
      LsH w0 w' base (.slice A' (ws.length + 1) c') (ws ++ [xs]) ∧ Below base w w' := by
  obtain ⟨i, hi, hz0, hz1, hz2⟩ := info_parts infol
  obtain ⟨vs, ho, hv⟩ := h
  have hbz := alloc_below w (.cells #[.slice A m c] 36)
  have ho1 : (w.alloc (.cells #[.slice A m c] 36)).ownsRow base 36 1 v ws.length vs := by
    refine ⟨ho.1, ?_⟩
    rcases ho.2 with e | ⟨g, cap, cur, hv, hbg, hg, r⟩
    · exact .inl e
    · exact .inr ⟨g, cap, cur, hv, hbg, (hbz.block g (heap_lt hg)).trans hg, r⟩
  obtain ⟨v', w', hr, h1, h2, _, hmv⟩ := run_append_own_at (P := Try.prog) (w.alloc (.cells #[.slice A m c] 36)) base 54 54 36 i _ 1 24 Try.underlying54 hi hz0 hz1 hz2 rfl (by decide) v _ _ ho1 ⟨w.heap.size, 0, none⟩ 1 1 [.slice A m c] (by simp)
    (by
      intro j u hu
      match j with
      | 0 =>
        simp at hu
        subst hu
        simp [Addr.add]
      | j + 1 => simp at hu)
    (by intro u hu; simp at hu; rcases hu with rfl; rfl) (by unfold maxLen; omega) (by omega) (Nat.le_trans hbase hbz.size)
  have hform : ∃ A c, v' = .slice A (ws.length + 1) c := by
    rcases h1.2 with ⟨rfl, h0⟩ | ⟨g, cap, cur, rfl, _⟩
    · have := h1.1; rw [h0] at this; simp at this
    · exact ⟨_, _, rfl⟩
  obtain ⟨A', c', rfl⟩ := hform
  refine ⟨A', c', w', hr, ⟨vs ++ [.slice A m c], by rw [List.length_append]; exact h1, fun j hj => ?_⟩, (hbz.mono hbase).trans ((Below.refl _ _).grown h2 (Nat.le_trans hbase hbz.size) (fun k hk => (World.ownsRow.lt ho1 k hk).1))⟩
  have hvl : vs.length = ws.length := by have := ho.1; omega
  by_cases e : j < ws.length
  · obtain ⟨A2, n2, c2, h3, h4⟩ := hv j e
    have hg : (ws ++ [xs]).getD j [] = ws.getD j [] := by rw [List.getD_eq_getElem?_getD, List.getD_eq_getElem?_getD, List.getElem?_append_left e]
    rw [hg]
    exact ⟨A2, n2, c2, by rw [List.getElem?_append_left (by omega)]; exact h3, h4⟩
  · have hjl : j = ws.length := by simp at hj; omega
    subst hjl
    have hg : (ws ++ [xs]).getD ws.length [] = xs := by simp
    rw [hg]
    exact ⟨A, m, c, by rw [List.getElem?_append_right (by omega), hvl]; simp, hx⟩

/-- The words of the first k traces. -/
def insK (ts : List (List Int × List Int)) : Nat → List (List Int)
  | 0 => []
  | k + 1 => insK ts k ++ [tIn ts k]
theorem insK_len (ts : List (List Int × List Int)) (k : Nat) : (insK ts k).length = k := by
  induction k with
  | zero => rfl
  | succ k ih => rw [insK, List.length_append, ih]; rfl
theorem insK_at (ts : List (List Int × List Int)) {k j : Nat} (hj : j < k) : (insK ts k).getD j [] = tIn ts j := by
  induction k with
  | zero => omega
  | succ k ih =>
    rw [insK]
    rcases Nat.lt_or_ge j k with h | h
    · rw [List.getD_eq_getElem?_getD, List.getElem?_append_left (by rw [insK_len]; exact h), ← List.getD_eq_getElem?_getD]
      exact ih h
    · obtain rfl : j = k := by omega
      rw [List.getD_eq_getElem?_getD, List.getElem?_append_right (by rw [insK_len]; exact Nat.le_refl _), insK_len]
      simp
/-- The traces of the machine for words without an error. -/
theorem trs_map {i st : Nat} {nx ot : List (List Int)} : ∀ (ws : List (List Int)) (l : List (List Int × List Int)), (∀ x, x ∈ ws → chk x i = 0) → trs i st nx ot ws l = (l ++ ws.map (fun w => (w, runO nx ot st w)), 0)
  | [], l, _ => by simp [trs]
  | w :: r, l, h => by
    rw [trs, if_pos (h w (by simp)), trs_map r _ fun x hx => h x (by simp [hx])]
    simp
theorem map_tIn {f : List Int → List Int} {ws : List (List Int)} {j : Nat} (hj : j < ws.length) : tIn (ws.map fun w => (w, f w)) j = ws.getD j [] ∧ tOut (ws.map fun w => (w, f w)) j = f (ws.getD j []) := by
  unfold tIn tOut
  rw [List.getD_eq_getElem?_getD, List.getD_eq_getElem?_getD, List.getElem?_map, List.getElem?_eq_getElem hj]
  exact ⟨rfl, rfl⟩
theorem Owned.cap22 {w : World} {base n c : Nat} {A : Option Addr} {xs : List Int} (h : Owned w base (.slice A n c) xs) : n ≤ c := by
  have hn : n = xs.length := by obtain ⟨A', c', e⟩ := h.form; cases e; rfl
  have h1 := h.1
  simp at h1
  rcases h.2 with ⟨e, h0⟩ | ⟨g, cap, cur, e, _, hg, r⟩
  · cases e; omega
  · cases e; omega
theorem OwnedT.trs {w : World} {base : Nat} {A : Option Addr} {n c : Nat} {ts : List (List Int × List Int)} (h : OwnedT w base (.slice A n c) ts) (hm : ts.length ≤ 17592186044416) (hr : ∀ j, j < ts.length → (tIn ts j).length ≤ 17592186044416 ∧ (tOut ts j).length ≤ 17592186044416) : Trs w A n ts := by
  have hn : n = ts.length := by obtain ⟨A', c', e⟩ := h.form; cases e; rfl
  subst hn
  refine ⟨rfl, hm, fun h0 => ?_⟩
  obtain ⟨vs, ho, hv⟩ := h
  rcases ho.2 with ⟨e, h0'⟩ | ⟨g, cap, cur, e, _, hg, r⟩
  · omega
  · cases e
    refine ⟨g, 0, rfl, heap_lt hg, fun j hj => ?_⟩
    obtain ⟨A1, c1, A2, c2, h1, h2, h3, h4⟩ := hv j hj
    have hl := ho.1
    refine ⟨A1, _, c1, A2, _, c2, ?_, ?_, h3.cap22, h4.cap22, h3.ints (hr j hj).1, h4.ints (hr j hj).2⟩
    · rw [Nat.zero_add, World.ownsRow.cellAt ho (j * 2) (by omega), Nat.mul_comm, h1]
    · rw [Nat.zero_add, World.ownsRow.cellAt ho (j * 2 + 1) (by omega), Nat.mul_comm j 2, h2]
theorem Ints.takeX {w : World} {A : Option Addr} {n t : Nat} {xs : List Int} (h : Ints w A n xs) (ht : t ≤ n) : Ints w A t (xs.take t) := by
  refine ⟨by rw [List.length_take, h.1]; omega, by have := h.2.1; omega, fun h0 => ?_⟩
  obtain ⟨b', o', e, hlt, hc⟩ := h.2.2 (by omega)
  refine ⟨b', o', e, hlt, fun j hj => ?_⟩
  rw [hc j (by omega)]
  congr 2
  rw [List.getD_eq_getElem?_getD, List.getD_eq_getElem?_getD, List.getElem?_take_of_lt hj]
end Go.Proofs.Ytkkmcgapbcikiaa
end

section
/- observe.Answer of the program. -/
namespace Go.Proofs.Ytkkmcgapbcikiaa
open Go.RowKit

/-- The result of Answer: what the traces say, for any word. -/
def AnsP (ts : List (List Int × List Int)) (ws : List Int) (n : Nat) (w : World) (r : Ending) (w' : World) : Prop :=
  Below w.heap.size w w' ∧ ((r = .returned (.tuple #[.slice none 0 0, .bool false]) ∧ knw ts ws ts.length < n) ∨ (r = .returned (.tuple #[.slice none 0 0, .bool true]) ∧ n = 0) ∨
    ∃ (a : Nat) (A' : Option Addr) (c' : Nat), 0 < n ∧ a < ts.length ∧ cmn (tIn ts a) ws = n ∧ r = .returned (.tuple #[.slice A' n c', .bool true]) ∧ ((tOut ts a).take n).length = n ∧ Owned w' w.heap.size (.slice A' n c') ((tOut ts a).take n))

set_option linter.unusedSimpArgs false in
set_option linter.unusedVariables false in
set_option maxHeartbeats 8000000 in
set_option maxRecDepth 100000 in
theorem panswer16 (i : Int) (T A : Option Addr) (tn tc n c : Nat) (ts : List (List Int × List Int)) (ws : List Int) (w : World) (hT : Trs w T tn ts) (htc : tn ≤ tc) (hA : Ints w A n ws) (hS : Srt ts) (hF : Full ts) :
    Calls Try.prog 19 #[.agg #[.int .i64 i, .slice T tn tc], .slice A n c] w fun r w' => AnsP ts ws n w r w' := by
  obtain ⟨w0, hw0⟩ : ∃ w0, w0 = w.alloc (.cells #[.int .i64 i, .slice T tn tc] 24) := ⟨_, rfl⟩
  have hb0 : Below w.heap.size w w0 := by rw [hw0]; exact alloc_below _ _
  have m0 : Bx w0 w.heap.size #[.int .i64 i, .slice T tn tc] 24 := by rw [hw0]; exact bx_new _ _ _
  have HM := Lib.hid (fun (W : World) (h : Below w0.heap.size w0 W) => m0.on h)
  have HT := Lib.hid (fun (W : World) (h : Below w0.heap.size w0 W) => (hT.below hb0).below h)
  have HA := Lib.hid (fun (W : World) (h : Below w0.heap.size w0 W) => (hA.below hb0).below h)
  have HB0 := Lib.hid hb0
  have HW0 := Lib.hid hw0
  have HLT := Lib.hid hT.1
  have HLA := Lib.hid hA.1
  have HFF := Lib.hid hF
  have HSS := Lib.hid hS
  have hn := hT.2.1
  have hnb := hA.2.1
  have hbc := Below.refl w0.heap.size w0
  have k1 := m0.cell 1
  simp at k1
  rw [hw0] at k1
  clear hw0 hb0 m0 hT hA hF hS
  go_enter Try.func19, Try.ntmps19
  go_wp2_with fail
  rw [← HW0.out]
  refine (pnear T A tn tc n c ts ws _ (HT.out _ hbc) (HA.out _ hbc) HSS.out HFF.out htc).mono ?_
  rintro e w2 ⟨best, kn, rfl, hkn, HG, a2⟩
  have hbc := bt hbc a2
  clear a2 k1
  have hkx : kn ≤ n := by rw [hkn, ← HLA.out]; exact knw_le
  rw [← HLT.out] at hkn
  have HKN := Lib.hid hkn
  clear hkn
  have HBC := Lib.hid (bt HB0.out hbc)
  by_cases hlt : kn < n
  · have hltI : (kn : Int) < (n : Int) := by omega
    go_wp2
    go_ret2
    exact ⟨HBC.out, .inl ⟨rfl, by rw [← HKN.out]; exact hlt⟩⟩
  · obtain rfl : kn = n := by omega
    by_cases h0 : kn = 0
    · have hz : ((kn : Int) == 0) = true := by rw [h0]; rfl
      have HZ := Lib.hid h0
      clear h0
      go_wp2
      go_ret2
      exact ⟨HBC.out, .inr (.inl ⟨rfl, HZ.out⟩)⟩
    · have hz : ((kn : Int) == 0) = false := by rw [beq_eq_false_iff_ne]; omega
      obtain ⟨hb1, hb2⟩ := HG.out (by omega)
      have HB1 := Lib.hid hb1
      have HB2 := Lib.hid hb2
      rw [HLT.out] at hb1
      obtain ⟨b, off, A1, n1, c1, A2, n2, c2, rfl, hgb, j1, j2, q1, q2, j3, j4⟩ := (HT.out _ hbc).at_ hb1
      have k1 := (HM.out _ hbc).cell 1
      simp at k1
      have hbI : (best : Int) < (tn : Int) := by omega
      have hb0 : (0 : Int) ≤ (best : Int) := by omega
      have hkn2 : kn ≤ n2 := by
        have l1 := j4.1
        have l2 := HFF.out best HB1.out
        have l3 := cmn_le_left (tIn ts best) ws
        rw [HB2.out] at l3
        omega
      have i1' : (kn : Int) ≤ (c2 : Int) := by omega
      have i2' : (0 : Int) ≤ (kn : Int) := by omega
      have hzl : ((tOut ts best).take kn).length = kn := by rw [List.length_take, j4.1]; omega
      have HZL := Lib.hid hzl
      have HCL := Lib.hid (sclone A2 kn c2 _ w2 (j4.takeX (t := kn) hkn2))
      clear hzl hgb j1 j3 j4 hb2 q1 q2 hkn2
      go_wp2_with fail
      refine HCL.out.mono ?_
      rintro r w3 ⟨A3, c3, rfl, o3, a3⟩
      have HO3 := Lib.hid (o3.lower (base' := w.heap.size) HBC.out.size)
      have HB3 := Lib.hid (bt HBC.out a3)
      clear o3 a3
      go_wp2_with fail
      go_ret2
      exact ⟨HB3.out, .inr (.inr ⟨best, A3, c3, by omega, HB1.out, HB2.out, rfl, HZL.out, HO3.out⟩)⟩
end Go.Proofs.Ytkkmcgapbcikiaa
end

section
/- insert of the program. -/
namespace Go.Proofs.Ytkkmcgapbcikiaa
open Go.RowKit Go.Shelf Go.Lib

/-- The result of insert: the box gx leads to the block g, which now holds the new traces. -/
def InsE (i : Int) (gx g N base z : Nat) (ts : List (List Int × List Int)) (xs ys : List Int) (w : World) (r : Ending) (w' : World) : Prop :=
  ∃ (e : Int) (ts' : List (List Int × List Int)), r = .returned (.int .i64 e) ∧ InsR ts xs ys i e ts' ∧ Below z w w' ∧
    (e = 0 → ∃ cur', Bx w' gx #[.int .i64 i, .slice (some ⟨g, 0, none⟩) ts'.length N] 24 ∧ TrO w' base g N cur' ts')
theorem obs_ne_trace {w : World} {gx g : Nat} {a b : Array Value} (h1 : Bx w gx a 24) (h2 : Bx w g b 38) : gx ≠ g := by
  rintro rfl
  unfold Bx at h1 h2
  rw [h1] at h2
  injection h2 with h2
  injection h2 with _ h2
  exact absurd h2 (by decide)
theorem Bx.on1 {w : World} {g : Nat} {a b : Value} {t : TypeId} (h : Bx w g #[a, b] t) (v : Value) : Bx (w.setCell ⟨g, 1, none⟩ v) g #[a, v] t := by
  have := h.set 1 v
  simpa using this
/-- The header in the box is written. -/
theorem TrO.boxed {w : World} {base g N gx : Nat} {cur cs : Array Value} {ts : List (List Int × List Int)} (h : TrO w base g N cur ts) (hx : Bx w gx cs 24) (v : Value) : TrO (w.setCell ⟨gx, 1, none⟩ v) base g N cur ts :=
  h.kept (h.bx.other (obs_ne_trace hx h.bx).symm v) (hx.keptSet (by decide) v)
theorem below_cells {w0 w : World} {z g : Nat} (hb : Below z w0 w) (hg : z ≤ g) (o : Nat) (vs : List Value) : Below z w0 (w.setCells g o vs) := by
  induction vs generalizing w o with
  | nil => exact hb
  | cons v r ih => exact ih (hb.setCell (p := ⟨g, o, none⟩) hg v) (o + 1)
theorem bx_cells {w : World} {gx g : Nat} {cs : Array Value} {t : TypeId} (h : Bx w gx cs t) (hne : gx ≠ g) (o : Nat) (vs : List Value) : Bx (w.setCells g o vs) gx cs t := by
  induction vs generalizing w o with
  | nil => exact h
  | cons v r ih => exact ih (h.other hne v) (o + 1)

set_option linter.unusedSimpArgs false in
set_option linter.unusedVariables false in
set_option maxHeartbeats 16000000 in
set_option maxRecDepth 100000 in
theorem pinsert (i : Int) (A B : Option Addr) (n c m d gx g N base z : Nat) (cur : Array Value) (ts : List (List Int × List Int)) (xs ys : List Int) (w : World)
    (hX : Bx w gx #[.int .i64 i, .slice (some ⟨g, 0, none⟩) ts.length N] 24) (hT : TrO w base g N cur ts) (hx : ∀ W, Below z w W → Ints W A n xs) (hnc : n ≤ c) (hy : ∀ W, Below z w W → Ints W B m ys) (hmd : m ≤ d) (hS : Srt ts) (hF : Full ts)
    (hroom : ts.length + 1 ≤ N) (hz1 : z ≤ gx) (hz2 : z ≤ g) (hbz : base ≤ z) :
    Calls Try.prog 75 #[.pointer (some ⟨gx, 0, none⟩), .agg #[.slice A n c, .slice B m d]] w fun r w' => InsE i gx g N base z ts xs ys w r w' := by
  have HXZ := Lib.hid hx
  have HYZ := Lib.hid hy
  have hx := hx w (Below.refl _ _)
  have hy := hy w (Below.refl _ _)
  have HGN := Lib.hid (show w.heap.size ≠ g from fun e => by have := hT.bx.lt; omega)
  have HGX := Lib.hid (show w.heap.size ≠ gx from fun e => by have := hX.lt; omega)
  obtain ⟨w0, hw0⟩ : ∃ w0, w0 = w.alloc (.cells #[.slice A n c, .slice B m d] 38) := ⟨_, rfl⟩
  obtain ⟨q, hq⟩ : ∃ q, q = ts.length := ⟨_, rfl⟩
  rw [← hq] at hX hroom
  have hb0 : Below w.heap.size w w0 := by rw [hw0]; exact alloc_below _ _
  have mt0 : Bx w0 w.heap.size #[.slice A n c, .slice B m d] 38 := by rw [hw0]; exact bx_new _ _ _
  have mx0 := hX.on hb0
  have hT0 := hT.below hb0
  have hzs : z ≤ w.heap.size := Nat.le_trans hz1 (Nat.le_of_lt hX.lt)
  have hbs : base ≤ w0.heap.size := Nat.le_trans (Nat.le_trans hbz hzs) hb0.size
  have HB0 := Lib.hid (hb0.mono hzs)
  have HX := Lib.hid (fun (W : World) (h : Below w0.heap.size w0 W) => (hx.below hb0).below h)
  have HY := Lib.hid (fun (W : World) (h : Below w0.heap.size w0 W) => (hy.below hb0).below h)
  have HMT := Lib.hid (fun (W : World) (h : Below w0.heap.size w0 W) => mt0.on h)
  have HMX := Lib.hid (fun (W : World) (h : Below w0.heap.size w0 W) => mx0.on h)
  have HTT := Lib.hid (fun (W : World) (h : Below w0.heap.size w0 W) => hT0.below h)
  have HW0 := Lib.hid hw0
  have HQ := Lib.hid hq
  have HLX := Lib.hid hx.1
  have HLY := Lib.hid hy.1
  have hxm := hx.2.1
  have hym := hy.2.1
  have hcapN := hT.cap
  have HSS := Lib.hid hS
  have HFF := Lib.hid hF
  have HBS := Lib.hid hbs
  have hlt1 : w.heap.size < w0.heap.size := mt0.lt
  have HLT1 := Lib.hid hlt1
  have HG0 := Lib.hid hT0.bx.lt
  have HS := Lib.hid (show ∀ W, Below w0.heap.size w0 W → Bx W w.heap.size #[.slice A n c, .slice B m d] 38 ∧ W.cell? ⟨gx, 0, none⟩ = some (.int .i64 i) ∧ W.cell? ⟨gx, 1, none⟩ = some (.slice (some ⟨g, 0, none⟩) q N) ∧ W.cell? ⟨w.heap.size, 0, none⟩ = some (.slice A n c) from fun W h => ⟨(mt0).on h, by have := ((mx0).on h).cell 0; simpa using this, by have := ((mx0).on h).cell 1; simpa using this, by have := ((mt0).on h).cell 0; simpa using this⟩)
  have hbf := Below.refl w0.heap.size w0
  clear hw0 hb0 mt0 mx0 hT0 hX hT hx hy hS hF hq hzs hbs hlt1
  go_enter Try.func75, Try.ntmps75
  go_upto_region 1 with fail
  rw [← HW0.out]
  have hbf : Below w0.heap.size w0 w0.drew := below_drewN (Below.refl _ _) 1
  refine wp_region_heldX (X := fun k => ([] : List Nat).contains k) (S := fun W => Bx W w.heap.size #[.slice A n c, .slice B m d] 38 ∧ W.cell? ⟨gx, 0, none⟩ = some (.int .i64 i) ∧ W.cell? ⟨gx, 1, none⟩ = some (.slice (some ⟨g, 0, none⟩) q N) ∧ W.cell? ⟨w.heap.size, 0, none⟩ = some (.slice A n c)) (by kernel_rfl) ?_
  generalize w0.drew = wkd at hbf ⊢
  refine wpAnyX_takeL (L := []) (i := 0) (v := .agg (#[.slice A n c, .slice B m d])) rfl (by kernel_rfl) (by kernel_rfl) (by kernel_rfl) (by kernel_rfl) (fun _ _ _ h => h) (Or.inl ⟨by rfl, fun W hSW => run_load_bx 38 _ rfl (w.heap.size) rfl 38 (#[.slice A n c, .slice B m d]) (0, 0) _ (hSW.1) Try.underlying38 rfl (by kernel_rfl)⟩) (HS.out _ hbf) ?_
  (try simp only [Act.put, List.getElem_toArray, List.getElem_cons_zero, List.getElem_cons_succ, List.setIfInBounds_toArray, List.set_cons_zero, List.set_cons_succ])
  refine wpAnyX_pure (i := 1) (v := ?_) rfl (by kernel_rfl) (by kernel_rfl) (by kernel_rfl) (fun _ _ _ h => h) (Or.inl ⟨by rfl, ?_⟩) ?_
  rotate_left
  · (intro W _; go_simp; try with_reducible rfl)
  (try simp only [Act.put, List.getElem_toArray, List.getElem_cons_zero, List.getElem_cons_succ, List.setIfInBounds_toArray, List.set_cons_zero, List.set_cons_succ])
  refine wpAnyX_pure (i := 2) (v := ?_) rfl (by kernel_rfl) (by kernel_rfl) (by kernel_rfl) (fun _ _ _ h => h) (Or.inl ⟨by rfl, ?_⟩) ?_
  rotate_left
  · (intro W _; go_simp; try with_reducible rfl)
  (try simp only [Act.put, List.getElem_toArray, List.getElem_cons_zero, List.getElem_cons_succ, List.setIfInBounds_toArray, List.set_cons_zero, List.set_cons_succ])
  refine wpAnyX_pure (i := 3) (v := ?_) rfl (by kernel_rfl) (by kernel_rfl) (by kernel_rfl) (fun _ _ _ h => h) (Or.inl ⟨by rfl, ?_⟩) ?_
  rotate_left
  · (intro W _; go_simp; try with_reducible rfl)
  (try simp only [Act.put, List.getElem_toArray, List.getElem_cons_zero, List.getElem_cons_succ, List.setIfInBounds_toArray, List.set_cons_zero, List.set_cons_succ])
  refine wpAnyX_takeL (L := []) (i := 4) (v := ?_) rfl (by kernel_rfl) (by kernel_rfl) (by kernel_rfl) (by kernel_rfl) (fun _ _ _ h => h) (Or.inl ⟨by rfl, ?_⟩) (HS.out _ hbf) ?_
  rotate_left
  · (intro W hSW; (try dsimp only at hSW); obtain ⟨z0, z1, z2, z3⟩ := hSW; go_simp; try with_reducible rfl)
  (try simp only [Act.put, List.getElem_toArray, List.getElem_cons_zero, List.getElem_cons_succ, List.setIfInBounds_toArray, List.set_cons_zero, List.set_cons_succ])
  refine wpAnyX_one (i := 5) rfl (by kernel_rfl) (fun K hK => ?_)
  go_simp
  go_at_call 50
  refine (pproper A B n c m d i xs ys _ (HX.out _ hbf) (HY.out _ hbf)).mono ?_
  rintro r w2 ⟨rfl, b9⟩
  have hbf := bt hbf b9
  clear b9
  refine hK.out _ _ (fun _ _ => HS.out _ hbf) ?_
  (try simp only [Act.put, List.getElem_toArray, List.getElem_cons_zero, List.getElem_cons_succ, List.setIfInBounds_toArray, List.set_cons_zero, List.set_cons_succ])
  refine wpAnyX_pure (i := 6) (v := ?_) rfl (by kernel_rfl) (by kernel_rfl) (by kernel_rfl) (fun _ _ _ h => h) (Or.inl ⟨by rfl, ?_⟩) ?_
  rotate_left
  · (intro W _; go_simp; try with_reducible rfl)
  (try simp only [Act.put, List.getElem_toArray, List.getElem_cons_zero, List.getElem_cons_succ, List.setIfInBounds_toArray, List.set_cons_zero, List.set_cons_succ])
  refine wpAnyX_done (by kernel_rfl) ?_ _
  by_cases hpr : prpE xs ys i = 0
  case neg =>
    obtain ⟨E, hE⟩ : ∃ E, E = prpE xs ys i := ⟨_, rfl⟩
    have HE := Lib.hid hE
    have hne : (E != 0) = true := by rw [hE]; simpa using hpr
    have HPR := Lib.hid hpr
    rw [← hE]
    have HBF := Lib.hid hbf
    clear hE hbf hpr
    go_wp2_with fail
    go_ret
    obtain ⟨b, hb⟩ := got_any ts xs
    exact ⟨E, [], rfl, ⟨b, hb, .inl ⟨HPR.out, HE.out⟩⟩, HB0.out.trans (HBF.out.mono (Nat.le_trans hz1 (Nat.le_of_lt (HMX.out _ (Below.refl _ _)).lt))), fun h => absurd (HE.out.symm.trans h) HPR.out⟩
  rw [hpr]
  have HPR := Lib.hid hpr
  clear hpr
  go_upto_region 4 with fail
  have hbf : Below w0.heap.size w0 w2.drew := below_drewN hbf 1
  refine wp_region_heldX (X := fun k => ([] : List Nat).contains k) (S := fun W => Bx W w.heap.size #[.slice A n c, .slice B m d] 38 ∧ W.cell? ⟨gx, 0, none⟩ = some (.int .i64 i) ∧ W.cell? ⟨gx, 1, none⟩ = some (.slice (some ⟨g, 0, none⟩) q N) ∧ W.cell? ⟨w.heap.size, 0, none⟩ = some (.slice A n c)) (by kernel_rfl) ?_
  generalize w2.drew = wkd at hbf ⊢
  refine wpAnyX_pure (i := 0) (v := ?_) rfl (by kernel_rfl) (by kernel_rfl) (by kernel_rfl) (fun _ _ _ h => h) (Or.inl ⟨by rfl, ?_⟩) ?_
  rotate_left
  · (intro W _; go_simp; try with_reducible rfl)
  (try simp only [Act.put, List.getElem_toArray, List.getElem_cons_zero, List.getElem_cons_succ, List.setIfInBounds_toArray, List.set_cons_zero, List.set_cons_succ])
  refine wpAnyX_pure (i := 1) (v := ?_) rfl (by kernel_rfl) (by kernel_rfl) (by kernel_rfl) (fun _ _ _ h => h) (Or.inl ⟨by rfl, ?_⟩) ?_
  rotate_left
  · (intro W _; go_simp; try with_reducible rfl)
  (try simp only [Act.put, List.getElem_toArray, List.getElem_cons_zero, List.getElem_cons_succ, List.setIfInBounds_toArray, List.set_cons_zero, List.set_cons_succ])
  refine wpAnyX_pure (i := 2) (v := ?_) rfl (by kernel_rfl) (by kernel_rfl) (by kernel_rfl) (fun _ _ _ h => h) (Or.inl ⟨by rfl, ?_⟩) ?_
  rotate_left
  · (intro W _; go_simp; try with_reducible rfl)
  (try simp only [Act.put, List.getElem_toArray, List.getElem_cons_zero, List.getElem_cons_succ, List.setIfInBounds_toArray, List.set_cons_zero, List.set_cons_succ])
  refine wpAnyX_takeL (L := []) (i := 3) (v := ?_) rfl (by kernel_rfl) (by kernel_rfl) (by kernel_rfl) (by kernel_rfl) (fun _ _ _ h => h) (Or.inl ⟨by rfl, ?_⟩) (HS.out _ hbf) ?_
  rotate_left
  · (intro W hSW; (try dsimp only at hSW); obtain ⟨z0, z1, z2, z3⟩ := hSW; go_simp; try with_reducible rfl)
  (try simp only [Act.put, List.getElem_toArray, List.getElem_cons_zero, List.getElem_cons_succ, List.setIfInBounds_toArray, List.set_cons_zero, List.set_cons_succ])
  refine wpAnyX_pure (i := 4) (v := ?_) rfl (by kernel_rfl) (by kernel_rfl) (by kernel_rfl) (fun _ _ _ h => h) (Or.inl ⟨by rfl, ?_⟩) ?_
  rotate_left
  · (intro W _; go_simp; try with_reducible rfl)
  (try simp only [Act.put, List.getElem_toArray, List.getElem_cons_zero, List.getElem_cons_succ, List.setIfInBounds_toArray, List.set_cons_zero, List.set_cons_succ])
  refine wpAnyX_takeL (L := []) (i := 5) (v := ?_) rfl (by kernel_rfl) (by kernel_rfl) (by kernel_rfl) (by kernel_rfl) (fun _ _ _ h => h) (Or.inl ⟨by rfl, ?_⟩) (HS.out _ hbf) ?_
  rotate_left
  · (intro W hSW; (try dsimp only at hSW); obtain ⟨z0, z1, z2, z3⟩ := hSW; go_simp; try with_reducible rfl)
  (try simp only [Act.put, List.getElem_toArray, List.getElem_cons_zero, List.getElem_cons_succ, List.setIfInBounds_toArray, List.set_cons_zero, List.set_cons_succ])
  refine wpAnyX_one (i := 6) rfl (by kernel_rfl) (fun K hK => ?_)
  go_simp
  go_at_call 46
  refine (pnear (some ⟨g, 0, none⟩) A q N n c ts xs _ (by rw [HQ.out]; exact (HTT.out _ hbf).trs) (HX.out _ hbf) HSS.out HFF.out (by omega)).mono ?_
  rintro r w3 ⟨best, kn, rfl, hkn, HG, b9⟩
  have hkx : kn ≤ n := by rw [hkn, ← HLX.out]; exact knw_le
  have HKN := Lib.hid (show kn = knw ts xs ts.length by rw [hkn, HQ.out])
  clear hkn
  have hbf := bt hbf b9
  clear b9
  refine hK.out _ _ (fun _ _ => HS.out _ hbf) ?_
  (try simp only [Act.put, List.getElem_toArray, List.getElem_cons_zero, List.getElem_cons_succ, List.setIfInBounds_toArray, List.set_cons_zero, List.set_cons_succ])
  refine wpAnyX_pure (i := 7) (v := ?_) rfl (by kernel_rfl) (by kernel_rfl) (by kernel_rfl) (fun _ _ _ h => h) (Or.inl ⟨by rfl, ?_⟩) ?_
  rotate_left
  · (intro W _; go_simp; try with_reducible rfl)
  (try simp only [Act.put, List.getElem_toArray, List.getElem_cons_zero, List.getElem_cons_succ, List.setIfInBounds_toArray, List.set_cons_zero, List.set_cons_succ])
  refine wpAnyX_pure (i := 8) (v := ?_) rfl (by kernel_rfl) (by kernel_rfl) (by kernel_rfl) (fun _ _ _ h => h) (Or.inl ⟨by rfl, ?_⟩) ?_
  rotate_left
  · (intro W _; go_simp; try with_reducible rfl)
  (try simp only [Act.put, List.getElem_toArray, List.getElem_cons_zero, List.getElem_cons_succ, List.setIfInBounds_toArray, List.set_cons_zero, List.set_cons_succ])
  refine wpAnyX_pure (i := 9) (v := ?_) rfl (by kernel_rfl) (by kernel_rfl) (by kernel_rfl) (fun _ _ _ h => h) (Or.inl ⟨by rfl, ?_⟩) ?_
  rotate_left
  · (intro W _; go_simp; try with_reducible rfl)
  (try simp only [Act.put, List.getElem_toArray, List.getElem_cons_zero, List.getElem_cons_succ, List.setIfInBounds_toArray, List.set_cons_zero, List.set_cons_succ])
  refine wpAnyX_pure (i := 10) (v := ?_) rfl (by kernel_rfl) (by kernel_rfl) (by kernel_rfl) (fun _ _ _ h => h) (Or.inl ⟨by rfl, ?_⟩) ?_
  rotate_left
  · (intro W _; go_simp; try with_reducible rfl)
  (try simp only [Act.put, List.getElem_toArray, List.getElem_cons_zero, List.getElem_cons_succ, List.setIfInBounds_toArray, List.set_cons_zero, List.set_cons_succ])
  refine wpAnyX_pure (i := 11) (v := ?_) rfl (by kernel_rfl) (by kernel_rfl) (by kernel_rfl) (fun _ _ _ h => h) (Or.inl ⟨by rfl, ?_⟩) ?_
  rotate_left
  · (intro W _; go_simp; try with_reducible rfl)
  (try simp only [Act.put, List.getElem_toArray, List.getElem_cons_zero, List.getElem_cons_succ, List.setIfInBounds_toArray, List.set_cons_zero, List.set_cons_succ])
  refine wpAnyX_done (by kernel_rfl) ?_ _
  have HBB := Lib.hid (show 0 < kn → best < q ∧ kn ≤ (tOut ts best).length from fun h => by
    obtain ⟨g1, g2⟩ := HG.out h
    refine ⟨by rw [HQ.out]; exact g1, ?_⟩
    have l2 := HFF.out best g1
    have l3 := cmn_le_left (tIn ts best) xs
    omega)
  go_upto_region 5 with fail
  have hbf : Below w0.heap.size w0 w3.drew := below_drewN hbf 1
  refine wp_region_heldX (X := fun k => ([] : List Nat).contains k) (S := fun W => Bx W w.heap.size #[.slice A n c, .slice B m d] 38 ∧ W.cell? ⟨gx, 0, none⟩ = some (.int .i64 i) ∧ W.cell? ⟨gx, 1, none⟩ = some (.slice (some ⟨g, 0, none⟩) q N) ∧ W.cell? ⟨w.heap.size, 0, none⟩ = some (.slice A n c)) (by kernel_rfl) ?_
  generalize w3.drew = wkd at hbf ⊢
  refine wpAnyX_pure (i := 0) (v := ?_) rfl (by kernel_rfl) (by kernel_rfl) (by kernel_rfl) (fun _ _ _ h => h) (Or.inl ⟨by rfl, ?_⟩) ?_
  rotate_left
  · (intro W _; go_simp; try with_reducible rfl)
  (try simp only [Act.put, List.getElem_toArray, List.getElem_cons_zero, List.getElem_cons_succ, List.setIfInBounds_toArray, List.set_cons_zero, List.set_cons_succ])
  refine wpAnyX_pure (i := 1) (v := ?_) rfl (by kernel_rfl) (by kernel_rfl) (by kernel_rfl) (fun _ _ _ h => h) (Or.inl ⟨by rfl, ?_⟩) ?_
  rotate_left
  · (intro W _; go_simp; try with_reducible rfl)
  (try simp only [Act.put, List.getElem_toArray, List.getElem_cons_zero, List.getElem_cons_succ, List.setIfInBounds_toArray, List.set_cons_zero, List.set_cons_succ])
  refine wpAnyX_pure (i := 2) (v := ?_) rfl (by kernel_rfl) (by kernel_rfl) (by kernel_rfl) (fun _ _ _ h => h) (Or.inl ⟨by rfl, ?_⟩) ?_
  rotate_left
  · (intro W _; go_simp; try with_reducible rfl)
  (try simp only [Act.put, List.getElem_toArray, List.getElem_cons_zero, List.getElem_cons_succ, List.setIfInBounds_toArray, List.set_cons_zero, List.set_cons_succ])
  refine wpAnyX_takeL (L := []) (i := 3) (v := ?_) rfl (by kernel_rfl) (by kernel_rfl) (by kernel_rfl) (by kernel_rfl) (fun _ _ _ h => h) (Or.inl ⟨by rfl, ?_⟩) (HS.out _ hbf) ?_
  rotate_left
  · (intro W hSW; (try dsimp only at hSW); obtain ⟨z0, z1, z2, z3⟩ := hSW; go_simp; try with_reducible rfl)
  (try simp only [Act.put, List.getElem_toArray, List.getElem_cons_zero, List.getElem_cons_succ, List.setIfInBounds_toArray, List.set_cons_zero, List.set_cons_succ])
  refine wpAnyX_pure (i := 4) (v := ?_) rfl (by kernel_rfl) (by kernel_rfl) (by kernel_rfl) (fun _ _ _ h => h) (Or.inl ⟨by rfl, ?_⟩) ?_
  rotate_left
  · (intro W _; go_simp; try with_reducible rfl)
  (try simp only [Act.put, List.getElem_toArray, List.getElem_cons_zero, List.getElem_cons_succ, List.setIfInBounds_toArray, List.set_cons_zero, List.set_cons_succ])
  refine wpAnyX_pure (i := 5) (v := ?_) rfl (by kernel_rfl) (by kernel_rfl) (by kernel_rfl) (fun _ _ _ h => h) (Or.inl ⟨by rfl, ?_⟩) ?_
  rotate_left
  · (intro W _; go_simp; try with_reducible rfl)
  (try simp only [Act.put, List.getElem_toArray, List.getElem_cons_zero, List.getElem_cons_succ, List.setIfInBounds_toArray, List.set_cons_zero, List.set_cons_succ])
  refine wpAnyX_takeL (L := []) (i := 6) (v := .agg (#[.slice A n c, .slice B m d])) rfl (by kernel_rfl) (by kernel_rfl) (by kernel_rfl) (by kernel_rfl) (fun _ _ _ h => h) (Or.inl ⟨by rfl, fun W hSW => run_load_bx 38 _ rfl (w.heap.size) rfl 38 (#[.slice A n c, .slice B m d]) (0, 0) _ (hSW.1) Try.underlying38 rfl (by kernel_rfl)⟩) (HS.out _ hbf) ?_
  (try simp only [Act.put, List.getElem_toArray, List.getElem_cons_zero, List.getElem_cons_succ, List.setIfInBounds_toArray, List.set_cons_zero, List.set_cons_succ])
  refine wpAnyX_pure (i := 8) (v := ?_) rfl (by kernel_rfl) (by kernel_rfl) (by kernel_rfl) (fun _ _ _ h => h) (Or.inl ⟨by rfl, ?_⟩) ?_
  rotate_left
  · (intro W _; go_simp; try with_reducible rfl)
  (try simp only [Act.put, List.getElem_toArray, List.getElem_cons_zero, List.getElem_cons_succ, List.setIfInBounds_toArray, List.set_cons_zero, List.set_cons_succ])
  refine wpAnyX_one (i := 7) rfl (by kernel_rfl) (fun K hK => ?_)
  go_simp
  go_at_call 51
  refine (pagreed (some ⟨g, 0, none⟩) A B q N n c m d best kn ts ys _ (by rw [HQ.out]; exact (HTT.out _ hbf).trs) (HY.out _ hbf) HBB.out).mono ?_
  rintro r w4 ⟨rfl, b9⟩
  have hbf := bt hbf b9
  clear b9
  obtain ⟨a, ha⟩ : ∃ a, a = agrN ts best kn ys := ⟨_, rfl⟩
  have hal : a ≤ kn := by rw [ha]; exact agrN_le _ _ _ _
  rw [← ha]
  have HA := Lib.hid ha
  clear ha
  refine hK.out _ _ (fun _ _ => HS.out _ hbf) ?_
  (try simp only [Act.put, List.getElem_toArray, List.getElem_cons_zero, List.getElem_cons_succ, List.setIfInBounds_toArray, List.set_cons_zero, List.set_cons_succ])
  refine wpAnyX_pure (i := 9) (v := ?_) rfl (by kernel_rfl) (by kernel_rfl) (by kernel_rfl) (fun _ _ _ h => h) (Or.inl ⟨by rfl, ?_⟩) ?_
  rotate_left
  · (intro W _; go_simp; try with_reducible rfl)
  (try simp only [Act.put, List.getElem_toArray, List.getElem_cons_zero, List.getElem_cons_succ, List.setIfInBounds_toArray, List.set_cons_zero, List.set_cons_succ])
  refine wpAnyX_done (by kernel_rfl) ?_ _
  have HBW := Lib.hid (HB0.out.trans (hbf.mono (Nat.le_trans hz1 (Nat.le_of_lt (HMX.out _ (Below.refl _ _)).lt))))
  by_cases hag : a < kn
  · have hagI : (a : Int) < (kn : Int) := by omega
    go_wp2_with fail
    go_ret
    exact ⟨13, [], rfl, ⟨best, by rw [← HKN.out]; exact HG.out, .inr (.inl ⟨HPR.out, by rw [← HKN.out, ← HA.out]; exact hag, rfl⟩)⟩, HBW.out, fun h => absurd h (by decide)⟩
  obtain rfl : a = kn := by omega
  have hagI : ¬ ((a : Int) < (a : Int)) := by omega
  have k0 := ((HS.out _ hbf).2.2.2)
  have HAG := Lib.hid (show agrN ts best (knw ts xs ts.length) ys = knw ts xs ts.length by rw [← HKN.out, ← HA.out])
  by_cases hfull : a = n
  · have hfI : ((a : Int) == (n : Int)) = true := by simp; omega
    have HFU := Lib.hid (show knw ts xs ts.length = xs.length by rw [← HKN.out, HLX.out, hfull])
    have HMXf := Lib.hid (HMX.out _ hbf)
    have HTTf := Lib.hid (HTT.out _ hbf)
    clear hbf hagI hal hkx
    go_wp2_with fail
    go_ret
    exact ⟨0, ts, rfl, ⟨best, by rw [← HKN.out]; exact HG.out, .inr (.inr (.inl ⟨HPR.out, HAG.out, HFU.out, rfl, rfl⟩))⟩, HBW.out, fun _ => ⟨cur, by rw [← HQ.out]; exact HMXf.out, HTTf.out⟩⟩
  have hfI : ((a : Int) == (n : Int)) = false := by simp; omega
  have HLT := Lib.hid (show knw ts xs ts.length < xs.length by rw [← HKN.out, HLX.out]; omega)
  by_cases hdel : 0 < a ∧ a = (tIn ts best).length
  case neg =>
    have trkq : q = ts.length := HQ.out
    have HBO := Lib.hid (fun h : 0 < a => (HBB.out h).1)
    obtain ⟨cuk, hcuk⟩ : ∃ cuk, cuk = cur := ⟨_, rfl⟩
    rw [← hcuk] at HTT
    clear hcuk
    have hdl : ts = InsD ts best (knw ts xs ts.length) := by unfold InsD; rw [← HKN.out, if_neg hdel]
    have trf := HTT.out _ hbf
    by_cases ha0 : 0 < a
    · obtain ⟨A1, q1, A2, q2, e1, e2, p1, p2⟩ := trf.hd best (by rw [← HQ.out]; exact HBO.out ha0)
      have ha0I : (0 : Int) < (a : Int) := by omega
      have hbI : (best : Int) < (q : Int) := by have := HBO.out ha0; omega
      have hbI0 : (0 : Int) ≤ (best : Int) := by omega
      have hneL : ((a : Int) == ((tIn ts best).length : Int)) = false := by
        rw [beq_eq_false_iff_ne]
        intro h
        exact hdel ⟨ha0, by omega⟩
      have kb : w4.cell? ⟨g, best * 2, none⟩ = some (.slice A1 (tIn ts best).length q1) := by rw [trf.bx.cell]; exact e1
      have k1' := (HMX.out _ hbf).cell 1
      simp at k1'
      have HMXf := Lib.hid (HMX.out _ hbf)
      have HMTf := Lib.hid (HMT.out _ hbf)
      have HTTf := Lib.hid (HTT.out _ hbf)
      have HXf := Lib.hid (HX.out _ hbf)
      have HYf := Lib.hid (HY.out _ hbf)
      have HDL := Lib.hid hdl
      clear e1 e2 p1 p2 trf hdel hdl hbf
      go_upto_region 11 with fail
      clear kb hneL k1'
      have mxk := HMXf.out
      have mtk := HMTf.out
      have trk := HTTf.out
      have hik := HXf.out
      have hjk := HYf.out
      have BWK := Lib.hid (HBW.out)
      have HD := Lib.hid (HDL.out)
      have HQD := Lib.hid (show q = (ts).length from trkq)
      clear trkq
      have HSD := Lib.hid (InsD.srt HSS.out best (knw ts xs ts.length))
      rw [← HD.out] at HSD
      have k1 := mxk.cell 1
      simp at k1
      by_cases hlim : 10000 ≤ q
      · have hlI : (10000 : Int) ≤ (q : Int) := by omega
        clear mxk mtk trk hik hjk
        go_wp2_with fail
        go_ret
        exact ⟨11, [], rfl, ⟨best, by rw [← HKN.out]; exact HG.out, .inr (.inr (.inr (.inl ⟨HPR.out, HAG.out, HLT.out, by rw [← HD.out, ← HQD.out]; exact hlim, rfl⟩)))⟩, BWK.out, fun h => absurd h (by decide)⟩
      have hlI : ¬ (10000 : Int) ≤ (q : Int) := by omega
      have HS := Lib.hid (show ∀ W, Below w4.heap.size w4 W → Bx W w.heap.size #[.slice A n c, .slice B m d] 38 ∧ W.cell? ⟨gx, 0, none⟩ = some (.int .i64 i) ∧ W.cell? ⟨gx, 1, none⟩ = some (.slice (some ⟨g, 0, none⟩) q N) ∧ W.cell? ⟨w.heap.size, 0, none⟩ = some (.slice A n c) from fun W h => ⟨(mtk).on h, by have := ((mxk).on h).cell 0; simpa using this, by have := ((mxk).on h).cell 1; simpa using this, by have := ((mtk).on h).cell 0; simpa using this⟩)
      have HIK := Lib.hid (fun (W : World) (h : Below w4.heap.size w4 W) => hik.below h)
      have HJK := Lib.hid (fun (W : World) (h : Below w4.heap.size w4 W) => hjk.below h)
      have HTK := Lib.hid (fun (W : World) (h : Below w4.heap.size w4 W) => trk.below h)
      have HXK := Lib.hid (fun (W : World) (h : Below w4.heap.size w4 W) => mxk.on h)
      have hzk : z ≤ w4.heap.size := Nat.le_trans hz1 (Nat.le_of_lt mxk.lt)
      have hgk : g < w4.heap.size := trk.bx.lt
      have hszk := Lib.hid trk.sz
      have honek := Lib.hid trk.one
      have HNE := Lib.hid (obs_ne_trace mxk trk.bx)
      clear mxk mtk trk hik hjk
      go_upto_region 13 with fail
      have hbf : Below w4.heap.size w4 w4.drew := below_drewN (Below.refl _ _) 1
      refine wp_region_heldX (X := fun k => ([] : List Nat).contains k) (S := fun W => Bx W w.heap.size #[.slice A n c, .slice B m d] 38 ∧ W.cell? ⟨gx, 0, none⟩ = some (.int .i64 i) ∧ W.cell? ⟨gx, 1, none⟩ = some (.slice (some ⟨g, 0, none⟩) q N) ∧ W.cell? ⟨w.heap.size, 0, none⟩ = some (.slice A n c)) (by kernel_rfl) ?_
      generalize w4.drew = wkd at hbf ⊢
      refine wpAnyX_pure (i := 0) (v := ?_) rfl (by kernel_rfl) (by kernel_rfl) (by kernel_rfl) (fun _ _ _ h => h) (Or.inl ⟨by rfl, ?_⟩) ?_
      rotate_left
      · (intro W _; go_simp; try with_reducible rfl)
      (try simp only [Act.put, List.getElem_toArray, List.getElem_cons_zero, List.getElem_cons_succ, List.setIfInBounds_toArray, List.set_cons_zero, List.set_cons_succ])
      refine wpAnyX_pure (i := 1) (v := ?_) rfl (by kernel_rfl) (by kernel_rfl) (by kernel_rfl) (fun _ _ _ h => h) (Or.inl ⟨by rfl, ?_⟩) ?_
      rotate_left
      · (intro W _; go_simp; try with_reducible rfl)
      (try simp only [Act.put, List.getElem_toArray, List.getElem_cons_zero, List.getElem_cons_succ, List.setIfInBounds_toArray, List.set_cons_zero, List.set_cons_succ])
      refine wpAnyX_pure (i := 2) (v := ?_) rfl (by kernel_rfl) (by kernel_rfl) (by kernel_rfl) (fun _ _ _ h => h) (Or.inl ⟨by rfl, ?_⟩) ?_
      rotate_left
      · (intro W _; go_simp; try with_reducible rfl)
      (try simp only [Act.put, List.getElem_toArray, List.getElem_cons_zero, List.getElem_cons_succ, List.setIfInBounds_toArray, List.set_cons_zero, List.set_cons_succ])
      refine wpAnyX_takeL (L := []) (i := 3) (v := ?_) rfl (by kernel_rfl) (by kernel_rfl) (by kernel_rfl) (by kernel_rfl) (fun _ _ _ h => h) (Or.inl ⟨by rfl, ?_⟩) (HS.out _ hbf) ?_
      rotate_left
      · (intro W hSW; (try dsimp only at hSW); obtain ⟨z0, z1, z2, z3⟩ := hSW; go_simp; try with_reducible rfl)
      (try simp only [Act.put, List.getElem_toArray, List.getElem_cons_zero, List.getElem_cons_succ, List.setIfInBounds_toArray, List.set_cons_zero, List.set_cons_succ])
      refine wpAnyX_pure (i := 4) (v := ?_) rfl (by kernel_rfl) (by kernel_rfl) (by kernel_rfl) (fun _ _ _ h => h) (Or.inl ⟨by rfl, ?_⟩) ?_
      rotate_left
      · (intro W _; go_simp; try with_reducible rfl)
      (try simp only [Act.put, List.getElem_toArray, List.getElem_cons_zero, List.getElem_cons_succ, List.setIfInBounds_toArray, List.set_cons_zero, List.set_cons_succ])
      refine wpAnyX_takeL (L := []) (i := 5) (v := ?_) rfl (by kernel_rfl) (by kernel_rfl) (by kernel_rfl) (by kernel_rfl) (fun _ _ _ h => h) (Or.inl ⟨by rfl, ?_⟩) (HS.out _ hbf) ?_
      rotate_left
      · (intro W hSW; (try dsimp only at hSW); obtain ⟨z0, z1, z2, z3⟩ := hSW; go_simp; try with_reducible rfl)
      (try simp only [Act.put, List.getElem_toArray, List.getElem_cons_zero, List.getElem_cons_succ, List.setIfInBounds_toArray, List.set_cons_zero, List.set_cons_succ])
      refine wpAnyX_one (i := 6) rfl (by kernel_rfl) (fun K hK => ?_)
      go_simp
      go_at_call 72
      refine (pplace (some ⟨g, 0, none⟩) A q N n c (ts) xs _ (by rw [HQD.out]; exact (HTK.out _ hbf).trs) (HIK.out _ hbf) HSD.out).mono ?_
      rintro r w8 ⟨p, pv, rfl, hpq, HLO, HHI, b9⟩
      have hbf := bt hbf b9
      clear b9
      refine hK.out _ _ (fun _ _ => HS.out _ hbf) ?_
      (try simp only [Act.put, List.getElem_toArray, List.getElem_cons_zero, List.getElem_cons_succ, List.setIfInBounds_toArray, List.set_cons_zero, List.set_cons_succ])
      refine wpAnyX_pure (i := 7) (v := ?_) rfl (by kernel_rfl) (by kernel_rfl) (by kernel_rfl) (fun _ _ _ h => h) (Or.inl ⟨by rfl, ?_⟩) ?_
      rotate_left
      · (intro W _; go_simp; try with_reducible rfl)
      (try simp only [Act.put, List.getElem_toArray, List.getElem_cons_zero, List.getElem_cons_succ, List.setIfInBounds_toArray, List.set_cons_zero, List.set_cons_succ])
      refine wpAnyX_pure (i := 8) (v := ?_) rfl (by kernel_rfl) (by kernel_rfl) (by kernel_rfl) (fun _ _ _ h => h) (Or.inl ⟨by rfl, ?_⟩) ?_
      rotate_left
      · (intro W _; go_simp; try with_reducible rfl)
      (try simp only [Act.put, List.getElem_toArray, List.getElem_cons_zero, List.getElem_cons_succ, List.setIfInBounds_toArray, List.set_cons_zero, List.set_cons_succ])
      refine wpAnyX_pure (i := 9) (v := ?_) rfl (by kernel_rfl) (by kernel_rfl) (by kernel_rfl) (fun _ _ _ h => h) (Or.inl ⟨by rfl, ?_⟩) ?_
      rotate_left
      · (intro W _; go_simp; try with_reducible rfl)
      (try simp only [Act.put, List.getElem_toArray, List.getElem_cons_zero, List.getElem_cons_succ, List.setIfInBounds_toArray, List.set_cons_zero, List.set_cons_succ])
      refine wpAnyX_pure (i := 10) (v := ?_) rfl (by kernel_rfl) (by kernel_rfl) (by kernel_rfl) (fun _ _ _ h => h) (Or.inl ⟨by rfl, ?_⟩) ?_
      rotate_left
      · (intro W _; go_simp; try with_reducible rfl)
      (try simp only [Act.put, List.getElem_toArray, List.getElem_cons_zero, List.getElem_cons_succ, List.setIfInBounds_toArray, List.set_cons_zero, List.set_cons_succ])
      refine wpAnyX_pure (i := 11) (v := ?_) rfl (by kernel_rfl) (by kernel_rfl) (by kernel_rfl) (fun _ _ _ h => h) (Or.inl ⟨by rfl, ?_⟩) ?_
      rotate_left
      · (intro W _; go_simp; try with_reducible rfl)
      (try simp only [Act.put, List.getElem_toArray, List.getElem_cons_zero, List.getElem_cons_succ, List.setIfInBounds_toArray, List.set_cons_zero, List.set_cons_succ])
      refine wpAnyX_done (by kernel_rfl) ?_ _
      go_upto_region 14 with fail
      have hbf : Below w4.heap.size w4 w8.drew := below_drewN hbf 1
      refine wp_region_heldX (X := fun k => ([12] : List Nat).contains k) (S := fun W => Bx W w.heap.size #[.slice A n c, .slice B m d] 38 ∧ W.cell? ⟨gx, 0, none⟩ = some (.int .i64 i) ∧ W.cell? ⟨gx, 1, none⟩ = some (.slice (some ⟨g, 0, none⟩) q N) ∧ W.cell? ⟨w.heap.size, 0, none⟩ = some (.slice A n c)) (by kernel_rfl) ?_
      generalize w8.drew = wkd at hbf ⊢
      refine wpAnyX_pure (i := 0) (v := ?_) rfl (by kernel_rfl) (by kernel_rfl) (by kernel_rfl) (fun _ _ _ h => h) (Or.inl ⟨by rfl, ?_⟩) ?_
      rotate_left
      · (intro W _; go_simp; try with_reducible rfl)
      (try simp only [Act.put, List.getElem_toArray, List.getElem_cons_zero, List.getElem_cons_succ, List.setIfInBounds_toArray, List.set_cons_zero, List.set_cons_succ])
      refine wpAnyX_pure (i := 1) (v := ?_) rfl (by kernel_rfl) (by kernel_rfl) (by kernel_rfl) (fun _ _ _ h => h) (Or.inl ⟨by rfl, ?_⟩) ?_
      rotate_left
      · (intro W _; go_simp; try with_reducible rfl)
      (try simp only [Act.put, List.getElem_toArray, List.getElem_cons_zero, List.getElem_cons_succ, List.setIfInBounds_toArray, List.set_cons_zero, List.set_cons_succ])
      refine wpAnyX_pure (i := 2) (v := ?_) rfl (by kernel_rfl) (by kernel_rfl) (by kernel_rfl) (fun _ _ _ h => h) (Or.inl ⟨by rfl, ?_⟩) ?_
      rotate_left
      · (intro W _; go_simp; try with_reducible rfl)
      (try simp only [Act.put, List.getElem_toArray, List.getElem_cons_zero, List.getElem_cons_succ, List.setIfInBounds_toArray, List.set_cons_zero, List.set_cons_succ])
      refine wpAnyX_pure (i := 3) (v := ?_) rfl (by kernel_rfl) (by kernel_rfl) (by kernel_rfl) (fun _ _ _ h => h) (Or.inl ⟨by rfl, ?_⟩) ?_
      rotate_left
      · (intro W _; go_simp; try with_reducible rfl)
      (try simp only [Act.put, List.getElem_toArray, List.getElem_cons_zero, List.getElem_cons_succ, List.setIfInBounds_toArray, List.set_cons_zero, List.set_cons_succ])
      refine wpAnyX_takeL (L := [12]) (i := 4) (v := ?_) rfl (by kernel_rfl) (by kernel_rfl) (by kernel_rfl) (by kernel_rfl) (fun _ _ _ h => h) (Or.inl ⟨by rfl, ?_⟩) (HS.out _ hbf) ?_
      rotate_left
      · (intro W hSW; (try dsimp only at hSW); obtain ⟨z0, z1, z2, z3⟩ := hSW; go_simp; try with_reducible rfl)
      (try simp only [Act.put, List.getElem_toArray, List.getElem_cons_zero, List.getElem_cons_succ, List.setIfInBounds_toArray, List.set_cons_zero, List.set_cons_succ])
      refine wpAnyX_pure (i := 5) (v := ?_) rfl (by kernel_rfl) (by kernel_rfl) (by kernel_rfl) (fun _ _ _ h => h) (Or.inl ⟨by rfl, ?_⟩) ?_
      rotate_left
      · (intro W _; go_simp; try with_reducible rfl)
      (try simp only [Act.put, List.getElem_toArray, List.getElem_cons_zero, List.getElem_cons_succ, List.setIfInBounds_toArray, List.set_cons_zero, List.set_cons_succ])
      refine wpAnyX_takeL (L := [12]) (i := 6) (v := .agg (#[.slice A n c, .slice B m d])) rfl (by kernel_rfl) (by kernel_rfl) (by kernel_rfl) (by kernel_rfl) (fun _ _ _ h => h) (Or.inl ⟨by rfl, fun W hSW => run_load_bx 38 _ rfl (w.heap.size) rfl 38 (#[.slice A n c, .slice B m d]) (0, 0) _ (hSW.1) Try.underlying38 rfl (by kernel_rfl)⟩) (HS.out _ hbf) ?_
      (try simp only [Act.put, List.getElem_toArray, List.getElem_cons_zero, List.getElem_cons_succ, List.setIfInBounds_toArray, List.set_cons_zero, List.set_cons_succ])
      refine wpAnyX_one (i := 7) rfl (by kernel_rfl) (fun K hK => ?_)
      go_simp
      go_at_call 74
      refine (pcopied16 A B n c m d xs ys _ (HIK.out _ hbf) (HJK.out _ hbf)).mono ?_
      rintro r w9 ⟨B1, B2, d1, d2, rfl, o1, o2, b9⟩
      have o1 := o1.lower (base' := base) (Nat.le_trans (Nat.le_trans hbz hzk) hbf.size)
      have o2 := o2.lower (base' := base) (Nat.le_trans (Nat.le_trans hbz hzk) hbf.size)
      have hbf := bt hbf b9
      clear b9
      refine hK.out _ _ (fun _ _ => HS.out _ hbf) ?_
      (try simp only [Act.put, List.getElem_toArray, List.getElem_cons_zero, List.getElem_cons_succ, List.setIfInBounds_toArray, List.set_cons_zero, List.set_cons_succ])
      refine wpAnyX_one (i := 8) rfl (by kernel_rfl) (fun K hK => ?_)
      go_simp
      have l9 := alloc_below w9 (.cells #[.slice B1 n d1, .slice B2 m d2] 38)
      have hv9 := bx_new w9 #[.slice B1 n d1, .slice B2 m d2] 38
      obtain ⟨wa, hwa⟩ : ∃ wa, wa = w9.alloc (.cells #[.slice B1 n d1, .slice B2 m d2] 38) := ⟨_, rfl⟩
      rw [← hwa] at l9 hv9 ⊢
      have o1 := o1.kept l9
      have o2 := o2.kept l9
      have hgv : w9.heap.size ≠ g := by have := hbf.size; omega
      have hbf := bt hbf l9
      clear l9 hwa
      refine hK.out _ _ (fun _ _ => HS.out _ hbf) ?_
      (try simp only [Act.put, List.getElem_toArray, List.getElem_cons_zero, List.getElem_cons_succ, List.setIfInBounds_toArray, List.set_cons_zero, List.set_cons_succ])
      refine wpAnyX_one (i := 9) rfl (by kernel_rfl) (fun K hK => ?_)
      by_cases hpe : p < q
      · go_simp
        go_at_call 89
        refine (pins_shift g q N p w9.heap.size cuk _ _ wa (HTK.out _ hbf).bx hv9 hgv (by omega) (by omega) hcapN hszk.out honek.out rfl rfl).mono ?_
        rintro r wb ⟨rfl, hwb⟩
        obtain ⟨cur', htr⟩ := TrO.shifted (w1 := wb) (HTK.out _ hbf) (p := p) (by rw [← HQD.out]; exact hpq) (by rw [← HQD.out]; omega) (xs := xs) (ys := ys) (B1 := B1) (B2 := B2) (d1 := d1) (d2 := d2) (by rw [HLX.out]; exact o1) (by rw [HLY.out]; exact o2) (by rw [HLX.out]; exact hxm) (by rw [HLY.out]; exact hym) (by rw [← HQD.out, HLX.out, HLY.out]; exact hwb)
        have hBb : Below z w wb := by rw [hwb]; exact below_cells (below_cells (below_drewN (BWK.out.trans (hbf.mono hzk)) 1) hz2 _ _) hz2 _ _
        have hMb : Bx wb gx #[.int .i64 i, .slice (some ⟨g, 0, none⟩) q N] 24 := by rw [hwb]; exact bx_cells (bx_cells ((HXK.out _ hbf).drewN 1) HNE.out _ _) HNE.out _ _
        have hTb : Bx wb w.heap.size #[.slice A n c, .slice B m d] 38 := by rw [hwb]; exact bx_cells (bx_cells (((HS.out _ hbf).1).drewN 1) HGN.out _ _) HGN.out _ _
        have hSb : Bx wb w.heap.size #[.slice A n c, .slice B m d] 38 ∧ wb.cell? ⟨gx, 0, none⟩ = some (.int .i64 i) ∧ wb.cell? ⟨gx, 1, none⟩ = some (.slice (some ⟨g, 0, none⟩) q N) ∧ wb.cell? ⟨w.heap.size, 0, none⟩ = some (.slice A n c) := ⟨hTb, by have := hMb.cell 0; simpa using this, by have := hMb.cell 1; simpa using this, by have := hTb.cell 0; simpa using this⟩
        refine hK.out _ _ (fun _ _ => hSb) ?_
        clear hSb hTb
        (try simp only [Act.put, List.getElem_toArray, List.getElem_cons_zero, List.getElem_cons_succ, List.setIfInBounds_toArray, List.set_cons_zero, List.set_cons_succ])
        have kx1 := hMb.cell 1
        clear hwb
        have kf1 := hMb.free 1
        simp at kx1
        refine wpAnyX_pure (i := 10) (v := ?_) rfl (by kernel_rfl) (by kernel_rfl) (by kernel_rfl) (fun _ _ _ h => h) (Or.inl ⟨by rfl, ?_⟩) ?_
        rotate_left
        · (intro W _; go_simp; try with_reducible rfl)
        (try simp only [Act.put, List.getElem_toArray, List.getElem_cons_zero, List.getElem_cons_succ, List.setIfInBounds_toArray, List.set_cons_zero, List.set_cons_succ])
        refine wpAnyX_pure (i := 11) (v := ?_) rfl (by kernel_rfl) (by kernel_rfl) (by kernel_rfl) (fun _ _ _ h => h) (Or.inl ⟨by rfl, ?_⟩) ?_
        rotate_left
        · (intro W _; go_simp; try with_reducible rfl)
        (try simp only [Act.put, List.getElem_toArray, List.getElem_cons_zero, List.getElem_cons_succ, List.setIfInBounds_toArray, List.set_cons_zero, List.set_cons_succ])
        refine wpAnyX_one (i := 12) rfl (by kernel_rfl) (fun K hK => ?_)
        go_simp
        refine hK.out _ _ (fun h => absurd h (by decide)) ?_
        (try simp only [Act.put, List.getElem_toArray, List.getElem_cons_zero, List.getElem_cons_succ, List.setIfInBounds_toArray, List.set_cons_zero, List.set_cons_succ])
        refine wpAnyX_done (by kernel_rfl) ?_ _
        have HRES := Lib.hid (TrO.boxed htr hMb (.slice (some ⟨g, 0, none⟩) (q + 1) N))
        have HMF := Lib.hid (hMb.on1 (.slice (some ⟨g, 0, none⟩) (q + 1) N))
        have HBF := Lib.hid (hBb.setCell (p := ⟨gx, 1, none⟩) hz1 (.slice (some ⟨g, 0, none⟩) (q + 1) N))
        clear hbf o1 o2 hv9 htr hMb hBb
        go_wp2_with fail
        go_ret
        exact ⟨0, _, rfl, ⟨best, by rw [← HKN.out]; exact HG.out, .inr (.inr (.inr (.inr ⟨HPR.out, HAG.out, HLT.out, by rw [← HD.out, ← HQD.out]; omega, rfl, p, by rw [← HD.out, ← HQD.out]; exact hpq, by rw [← HD.out]; exact HLO.out, by rw [← HD.out, ← HQD.out]; exact HHI.out, rfl⟩)))⟩, HBF.out, fun _ => ⟨cur', by rw [← HD.out, ins_len (by rw [← HQD.out]; exact hpq), ← HQD.out]; exact HMF.out, by rw [← HD.out]; exact HRES.out⟩⟩
      obtain rfl : q = p := by omega
      go_simp
      go_at_call 89
      refine (pins_end g q N w9.heap.size cuk _ _ wa (HTK.out _ hbf).bx hv9 (by omega) hcapN hszk.out rfl rfl).mono ?_
      rintro r wb ⟨rfl, hwb⟩
      obtain ⟨cur', htr⟩ := TrO.pushed (w1 := wb) (HTK.out _ hbf) (by rw [← HQD.out]; omega) (xs := xs) (ys := ys) (B1 := B1) (B2 := B2) (d1 := d1) (d2 := d2) (by rw [HLX.out]; exact o1) (by rw [HLY.out]; exact o2) (by rw [HLX.out]; exact hxm) (by rw [HLY.out]; exact hym) (by rw [← HQD.out, HLX.out, HLY.out]; exact hwb)
      have htr : TrO wb base g N cur' ((ts).take q ++ (xs, ys) :: (ts).drop q) := by rw [List.take_of_length_le (by rw [← HQD.out]; omega), List.drop_eq_nil_of_le (by rw [← HQD.out]; omega)]; exact htr
      have hBb : Below z w wb := by rw [hwb]; exact below_setRow (BWK.out.trans (hbf.mono hzk)) hz2 _
      have hMb : Bx wb gx #[.int .i64 i, .slice (some ⟨g, 0, none⟩) q N] 24 := by rw [hwb]; exact (HXK.out _ hbf).rowOther HNE.out _
      have hTb : Bx wb w.heap.size #[.slice A n c, .slice B m d] 38 := by rw [hwb]; exact ((HS.out _ hbf).1).rowOther HGN.out _
      have hSb : Bx wb w.heap.size #[.slice A n c, .slice B m d] 38 ∧ wb.cell? ⟨gx, 0, none⟩ = some (.int .i64 i) ∧ wb.cell? ⟨gx, 1, none⟩ = some (.slice (some ⟨g, 0, none⟩) q N) ∧ wb.cell? ⟨w.heap.size, 0, none⟩ = some (.slice A n c) := ⟨hTb, by have := hMb.cell 0; simpa using this, by have := hMb.cell 1; simpa using this, by have := hTb.cell 0; simpa using this⟩
      refine hK.out _ _ (fun _ _ => hSb) ?_
      clear hSb hTb
      (try simp only [Act.put, List.getElem_toArray, List.getElem_cons_zero, List.getElem_cons_succ, List.setIfInBounds_toArray, List.set_cons_zero, List.set_cons_succ])
      have kx1 := hMb.cell 1
      clear hwb
      have kf1 := hMb.free 1
      simp at kx1
      refine wpAnyX_pure (i := 10) (v := ?_) rfl (by kernel_rfl) (by kernel_rfl) (by kernel_rfl) (fun _ _ _ h => h) (Or.inl ⟨by rfl, ?_⟩) ?_
      rotate_left
      · (intro W _; go_simp; try with_reducible rfl)
      (try simp only [Act.put, List.getElem_toArray, List.getElem_cons_zero, List.getElem_cons_succ, List.setIfInBounds_toArray, List.set_cons_zero, List.set_cons_succ])
      refine wpAnyX_pure (i := 11) (v := ?_) rfl (by kernel_rfl) (by kernel_rfl) (by kernel_rfl) (fun _ _ _ h => h) (Or.inl ⟨by rfl, ?_⟩) ?_
      rotate_left
      · (intro W _; go_simp; try with_reducible rfl)
      (try simp only [Act.put, List.getElem_toArray, List.getElem_cons_zero, List.getElem_cons_succ, List.setIfInBounds_toArray, List.set_cons_zero, List.set_cons_succ])
      refine wpAnyX_one (i := 12) rfl (by kernel_rfl) (fun K hK => ?_)
      go_simp
      refine hK.out _ _ (fun h => absurd h (by decide)) ?_
      (try simp only [Act.put, List.getElem_toArray, List.getElem_cons_zero, List.getElem_cons_succ, List.setIfInBounds_toArray, List.set_cons_zero, List.set_cons_succ])
      refine wpAnyX_done (by kernel_rfl) ?_ _
      have HRES := Lib.hid (TrO.boxed htr hMb (.slice (some ⟨g, 0, none⟩) (q + 1) N))
      have HMF := Lib.hid (hMb.on1 (.slice (some ⟨g, 0, none⟩) (q + 1) N))
      have HBF := Lib.hid (hBb.setCell (p := ⟨gx, 1, none⟩) hz1 (.slice (some ⟨g, 0, none⟩) (q + 1) N))
      clear hbf o1 o2 hv9 htr hMb hBb
      go_wp2_with fail
      go_ret
      exact ⟨0, _, rfl, ⟨best, by rw [← HKN.out]; exact HG.out, .inr (.inr (.inr (.inr ⟨HPR.out, HAG.out, HLT.out, by rw [← HD.out, ← HQD.out]; omega, rfl, q, by rw [← HD.out, ← HQD.out]; exact hpq, by rw [← HD.out]; exact HLO.out, by rw [← HD.out, ← HQD.out]; exact HHI.out, rfl⟩)))⟩, HBF.out, fun _ => ⟨cur', by rw [← HD.out, ins_len (by rw [← HQD.out]; exact hpq), ← HQD.out]; exact HMF.out, by rw [← HD.out]; exact HRES.out⟩⟩
    · have ha0I : ¬ (0 : Int) < (a : Int) := by omega
      have k1' := (HMX.out _ hbf).cell 1
      simp at k1'
      have HMXf := Lib.hid (HMX.out _ hbf)
      have HMTf := Lib.hid (HMT.out _ hbf)
      have HTTf := Lib.hid (HTT.out _ hbf)
      have HXf := Lib.hid (HX.out _ hbf)
      have HYf := Lib.hid (HY.out _ hbf)
      have HDL := Lib.hid hdl
      clear trf hdel hdl hbf
      go_upto_region 11 with fail
      clear k1'
      have mxk := HMXf.out
      have mtk := HMTf.out
      have trk := HTTf.out
      have hik := HXf.out
      have hjk := HYf.out
      have BWK := Lib.hid (HBW.out)
      have HD := Lib.hid (HDL.out)
      have HQD := Lib.hid (show q = (ts).length from trkq)
      clear trkq
      have HSD := Lib.hid (InsD.srt HSS.out best (knw ts xs ts.length))
      rw [← HD.out] at HSD
      have k1 := mxk.cell 1
      simp at k1
      by_cases hlim : 10000 ≤ q
      · have hlI : (10000 : Int) ≤ (q : Int) := by omega
        clear mxk mtk trk hik hjk
        go_wp2_with fail
        go_ret
        exact ⟨11, [], rfl, ⟨best, by rw [← HKN.out]; exact HG.out, .inr (.inr (.inr (.inl ⟨HPR.out, HAG.out, HLT.out, by rw [← HD.out, ← HQD.out]; exact hlim, rfl⟩)))⟩, BWK.out, fun h => absurd h (by decide)⟩
      have hlI : ¬ (10000 : Int) ≤ (q : Int) := by omega
      have HS := Lib.hid (show ∀ W, Below w4.heap.size w4 W → Bx W w.heap.size #[.slice A n c, .slice B m d] 38 ∧ W.cell? ⟨gx, 0, none⟩ = some (.int .i64 i) ∧ W.cell? ⟨gx, 1, none⟩ = some (.slice (some ⟨g, 0, none⟩) q N) ∧ W.cell? ⟨w.heap.size, 0, none⟩ = some (.slice A n c) from fun W h => ⟨(mtk).on h, by have := ((mxk).on h).cell 0; simpa using this, by have := ((mxk).on h).cell 1; simpa using this, by have := ((mtk).on h).cell 0; simpa using this⟩)
      have HIK := Lib.hid (fun (W : World) (h : Below w4.heap.size w4 W) => hik.below h)
      have HJK := Lib.hid (fun (W : World) (h : Below w4.heap.size w4 W) => hjk.below h)
      have HTK := Lib.hid (fun (W : World) (h : Below w4.heap.size w4 W) => trk.below h)
      have HXK := Lib.hid (fun (W : World) (h : Below w4.heap.size w4 W) => mxk.on h)
      have hzk : z ≤ w4.heap.size := Nat.le_trans hz1 (Nat.le_of_lt mxk.lt)
      have hgk : g < w4.heap.size := trk.bx.lt
      have hszk := Lib.hid trk.sz
      have honek := Lib.hid trk.one
      have HNE := Lib.hid (obs_ne_trace mxk trk.bx)
      clear mxk mtk trk hik hjk
      go_upto_region 13 with fail
      have hbf : Below w4.heap.size w4 w4.drew := below_drewN (Below.refl _ _) 1
      refine wp_region_heldX (X := fun k => ([] : List Nat).contains k) (S := fun W => Bx W w.heap.size #[.slice A n c, .slice B m d] 38 ∧ W.cell? ⟨gx, 0, none⟩ = some (.int .i64 i) ∧ W.cell? ⟨gx, 1, none⟩ = some (.slice (some ⟨g, 0, none⟩) q N) ∧ W.cell? ⟨w.heap.size, 0, none⟩ = some (.slice A n c)) (by kernel_rfl) ?_
      generalize w4.drew = wkd at hbf ⊢
      refine wpAnyX_pure (i := 0) (v := ?_) rfl (by kernel_rfl) (by kernel_rfl) (by kernel_rfl) (fun _ _ _ h => h) (Or.inl ⟨by rfl, ?_⟩) ?_
      rotate_left
      · (intro W _; go_simp; try with_reducible rfl)
      (try simp only [Act.put, List.getElem_toArray, List.getElem_cons_zero, List.getElem_cons_succ, List.setIfInBounds_toArray, List.set_cons_zero, List.set_cons_succ])
      refine wpAnyX_pure (i := 1) (v := ?_) rfl (by kernel_rfl) (by kernel_rfl) (by kernel_rfl) (fun _ _ _ h => h) (Or.inl ⟨by rfl, ?_⟩) ?_
      rotate_left
      · (intro W _; go_simp; try with_reducible rfl)
      (try simp only [Act.put, List.getElem_toArray, List.getElem_cons_zero, List.getElem_cons_succ, List.setIfInBounds_toArray, List.set_cons_zero, List.set_cons_succ])
      refine wpAnyX_pure (i := 2) (v := ?_) rfl (by kernel_rfl) (by kernel_rfl) (by kernel_rfl) (fun _ _ _ h => h) (Or.inl ⟨by rfl, ?_⟩) ?_
      rotate_left
      · (intro W _; go_simp; try with_reducible rfl)
      (try simp only [Act.put, List.getElem_toArray, List.getElem_cons_zero, List.getElem_cons_succ, List.setIfInBounds_toArray, List.set_cons_zero, List.set_cons_succ])
      refine wpAnyX_takeL (L := []) (i := 3) (v := ?_) rfl (by kernel_rfl) (by kernel_rfl) (by kernel_rfl) (by kernel_rfl) (fun _ _ _ h => h) (Or.inl ⟨by rfl, ?_⟩) (HS.out _ hbf) ?_
      rotate_left
      · (intro W hSW; (try dsimp only at hSW); obtain ⟨z0, z1, z2, z3⟩ := hSW; go_simp; try with_reducible rfl)
      (try simp only [Act.put, List.getElem_toArray, List.getElem_cons_zero, List.getElem_cons_succ, List.setIfInBounds_toArray, List.set_cons_zero, List.set_cons_succ])
      refine wpAnyX_pure (i := 4) (v := ?_) rfl (by kernel_rfl) (by kernel_rfl) (by kernel_rfl) (fun _ _ _ h => h) (Or.inl ⟨by rfl, ?_⟩) ?_
      rotate_left
      · (intro W _; go_simp; try with_reducible rfl)
      (try simp only [Act.put, List.getElem_toArray, List.getElem_cons_zero, List.getElem_cons_succ, List.setIfInBounds_toArray, List.set_cons_zero, List.set_cons_succ])
      refine wpAnyX_takeL (L := []) (i := 5) (v := ?_) rfl (by kernel_rfl) (by kernel_rfl) (by kernel_rfl) (by kernel_rfl) (fun _ _ _ h => h) (Or.inl ⟨by rfl, ?_⟩) (HS.out _ hbf) ?_
      rotate_left
      · (intro W hSW; (try dsimp only at hSW); obtain ⟨z0, z1, z2, z3⟩ := hSW; go_simp; try with_reducible rfl)
      (try simp only [Act.put, List.getElem_toArray, List.getElem_cons_zero, List.getElem_cons_succ, List.setIfInBounds_toArray, List.set_cons_zero, List.set_cons_succ])
      refine wpAnyX_one (i := 6) rfl (by kernel_rfl) (fun K hK => ?_)
      go_simp
      go_at_call 72
      refine (pplace (some ⟨g, 0, none⟩) A q N n c (ts) xs _ (by rw [HQD.out]; exact (HTK.out _ hbf).trs) (HIK.out _ hbf) HSD.out).mono ?_
      rintro r w8 ⟨p, pv, rfl, hpq, HLO, HHI, b9⟩
      have hbf := bt hbf b9
      clear b9
      refine hK.out _ _ (fun _ _ => HS.out _ hbf) ?_
      (try simp only [Act.put, List.getElem_toArray, List.getElem_cons_zero, List.getElem_cons_succ, List.setIfInBounds_toArray, List.set_cons_zero, List.set_cons_succ])
      refine wpAnyX_pure (i := 7) (v := ?_) rfl (by kernel_rfl) (by kernel_rfl) (by kernel_rfl) (fun _ _ _ h => h) (Or.inl ⟨by rfl, ?_⟩) ?_
      rotate_left
      · (intro W _; go_simp; try with_reducible rfl)
      (try simp only [Act.put, List.getElem_toArray, List.getElem_cons_zero, List.getElem_cons_succ, List.setIfInBounds_toArray, List.set_cons_zero, List.set_cons_succ])
      refine wpAnyX_pure (i := 8) (v := ?_) rfl (by kernel_rfl) (by kernel_rfl) (by kernel_rfl) (fun _ _ _ h => h) (Or.inl ⟨by rfl, ?_⟩) ?_
      rotate_left
      · (intro W _; go_simp; try with_reducible rfl)
      (try simp only [Act.put, List.getElem_toArray, List.getElem_cons_zero, List.getElem_cons_succ, List.setIfInBounds_toArray, List.set_cons_zero, List.set_cons_succ])
      refine wpAnyX_pure (i := 9) (v := ?_) rfl (by kernel_rfl) (by kernel_rfl) (by kernel_rfl) (fun _ _ _ h => h) (Or.inl ⟨by rfl, ?_⟩) ?_
      rotate_left
      · (intro W _; go_simp; try with_reducible rfl)
      (try simp only [Act.put, List.getElem_toArray, List.getElem_cons_zero, List.getElem_cons_succ, List.setIfInBounds_toArray, List.set_cons_zero, List.set_cons_succ])
      refine wpAnyX_pure (i := 10) (v := ?_) rfl (by kernel_rfl) (by kernel_rfl) (by kernel_rfl) (fun _ _ _ h => h) (Or.inl ⟨by rfl, ?_⟩) ?_
      rotate_left
      · (intro W _; go_simp; try with_reducible rfl)
      (try simp only [Act.put, List.getElem_toArray, List.getElem_cons_zero, List.getElem_cons_succ, List.setIfInBounds_toArray, List.set_cons_zero, List.set_cons_succ])
      refine wpAnyX_pure (i := 11) (v := ?_) rfl (by kernel_rfl) (by kernel_rfl) (by kernel_rfl) (fun _ _ _ h => h) (Or.inl ⟨by rfl, ?_⟩) ?_
      rotate_left
      · (intro W _; go_simp; try with_reducible rfl)
      (try simp only [Act.put, List.getElem_toArray, List.getElem_cons_zero, List.getElem_cons_succ, List.setIfInBounds_toArray, List.set_cons_zero, List.set_cons_succ])
      refine wpAnyX_done (by kernel_rfl) ?_ _
      go_upto_region 14 with fail
      have hbf : Below w4.heap.size w4 w8.drew := below_drewN hbf 1
      refine wp_region_heldX (X := fun k => ([12] : List Nat).contains k) (S := fun W => Bx W w.heap.size #[.slice A n c, .slice B m d] 38 ∧ W.cell? ⟨gx, 0, none⟩ = some (.int .i64 i) ∧ W.cell? ⟨gx, 1, none⟩ = some (.slice (some ⟨g, 0, none⟩) q N) ∧ W.cell? ⟨w.heap.size, 0, none⟩ = some (.slice A n c)) (by kernel_rfl) ?_
      generalize w8.drew = wkd at hbf ⊢
      refine wpAnyX_pure (i := 0) (v := ?_) rfl (by kernel_rfl) (by kernel_rfl) (by kernel_rfl) (fun _ _ _ h => h) (Or.inl ⟨by rfl, ?_⟩) ?_
      rotate_left
      · (intro W _; go_simp; try with_reducible rfl)
      (try simp only [Act.put, List.getElem_toArray, List.getElem_cons_zero, List.getElem_cons_succ, List.setIfInBounds_toArray, List.set_cons_zero, List.set_cons_succ])
      refine wpAnyX_pure (i := 1) (v := ?_) rfl (by kernel_rfl) (by kernel_rfl) (by kernel_rfl) (fun _ _ _ h => h) (Or.inl ⟨by rfl, ?_⟩) ?_
      rotate_left
      · (intro W _; go_simp; try with_reducible rfl)
      (try simp only [Act.put, List.getElem_toArray, List.getElem_cons_zero, List.getElem_cons_succ, List.setIfInBounds_toArray, List.set_cons_zero, List.set_cons_succ])
      refine wpAnyX_pure (i := 2) (v := ?_) rfl (by kernel_rfl) (by kernel_rfl) (by kernel_rfl) (fun _ _ _ h => h) (Or.inl ⟨by rfl, ?_⟩) ?_
      rotate_left
      · (intro W _; go_simp; try with_reducible rfl)
      (try simp only [Act.put, List.getElem_toArray, List.getElem_cons_zero, List.getElem_cons_succ, List.setIfInBounds_toArray, List.set_cons_zero, List.set_cons_succ])
      refine wpAnyX_pure (i := 3) (v := ?_) rfl (by kernel_rfl) (by kernel_rfl) (by kernel_rfl) (fun _ _ _ h => h) (Or.inl ⟨by rfl, ?_⟩) ?_
      rotate_left
      · (intro W _; go_simp; try with_reducible rfl)
      (try simp only [Act.put, List.getElem_toArray, List.getElem_cons_zero, List.getElem_cons_succ, List.setIfInBounds_toArray, List.set_cons_zero, List.set_cons_succ])
      refine wpAnyX_takeL (L := [12]) (i := 4) (v := ?_) rfl (by kernel_rfl) (by kernel_rfl) (by kernel_rfl) (by kernel_rfl) (fun _ _ _ h => h) (Or.inl ⟨by rfl, ?_⟩) (HS.out _ hbf) ?_
      rotate_left
      · (intro W hSW; (try dsimp only at hSW); obtain ⟨z0, z1, z2, z3⟩ := hSW; go_simp; try with_reducible rfl)
      (try simp only [Act.put, List.getElem_toArray, List.getElem_cons_zero, List.getElem_cons_succ, List.setIfInBounds_toArray, List.set_cons_zero, List.set_cons_succ])
      refine wpAnyX_pure (i := 5) (v := ?_) rfl (by kernel_rfl) (by kernel_rfl) (by kernel_rfl) (fun _ _ _ h => h) (Or.inl ⟨by rfl, ?_⟩) ?_
      rotate_left
      · (intro W _; go_simp; try with_reducible rfl)
      (try simp only [Act.put, List.getElem_toArray, List.getElem_cons_zero, List.getElem_cons_succ, List.setIfInBounds_toArray, List.set_cons_zero, List.set_cons_succ])
      refine wpAnyX_takeL (L := [12]) (i := 6) (v := .agg (#[.slice A n c, .slice B m d])) rfl (by kernel_rfl) (by kernel_rfl) (by kernel_rfl) (by kernel_rfl) (fun _ _ _ h => h) (Or.inl ⟨by rfl, fun W hSW => run_load_bx 38 _ rfl (w.heap.size) rfl 38 (#[.slice A n c, .slice B m d]) (0, 0) _ (hSW.1) Try.underlying38 rfl (by kernel_rfl)⟩) (HS.out _ hbf) ?_
      (try simp only [Act.put, List.getElem_toArray, List.getElem_cons_zero, List.getElem_cons_succ, List.setIfInBounds_toArray, List.set_cons_zero, List.set_cons_succ])
      refine wpAnyX_one (i := 7) rfl (by kernel_rfl) (fun K hK => ?_)
      go_simp
      go_at_call 74
      refine (pcopied16 A B n c m d xs ys _ (HIK.out _ hbf) (HJK.out _ hbf)).mono ?_
      rintro r w9 ⟨B1, B2, d1, d2, rfl, o1, o2, b9⟩
      have o1 := o1.lower (base' := base) (Nat.le_trans (Nat.le_trans hbz hzk) hbf.size)
      have o2 := o2.lower (base' := base) (Nat.le_trans (Nat.le_trans hbz hzk) hbf.size)
      have hbf := bt hbf b9
      clear b9
      refine hK.out _ _ (fun _ _ => HS.out _ hbf) ?_
      (try simp only [Act.put, List.getElem_toArray, List.getElem_cons_zero, List.getElem_cons_succ, List.setIfInBounds_toArray, List.set_cons_zero, List.set_cons_succ])
      refine wpAnyX_one (i := 8) rfl (by kernel_rfl) (fun K hK => ?_)
      go_simp
      have l9 := alloc_below w9 (.cells #[.slice B1 n d1, .slice B2 m d2] 38)
      have hv9 := bx_new w9 #[.slice B1 n d1, .slice B2 m d2] 38
      obtain ⟨wa, hwa⟩ : ∃ wa, wa = w9.alloc (.cells #[.slice B1 n d1, .slice B2 m d2] 38) := ⟨_, rfl⟩
      rw [← hwa] at l9 hv9 ⊢
      have o1 := o1.kept l9
      have o2 := o2.kept l9
      have hgv : w9.heap.size ≠ g := by have := hbf.size; omega
      have hbf := bt hbf l9
      clear l9 hwa
      refine hK.out _ _ (fun _ _ => HS.out _ hbf) ?_
      (try simp only [Act.put, List.getElem_toArray, List.getElem_cons_zero, List.getElem_cons_succ, List.setIfInBounds_toArray, List.set_cons_zero, List.set_cons_succ])
      refine wpAnyX_one (i := 9) rfl (by kernel_rfl) (fun K hK => ?_)
      by_cases hpe : p < q
      · go_simp
        go_at_call 89
        refine (pins_shift g q N p w9.heap.size cuk _ _ wa (HTK.out _ hbf).bx hv9 hgv (by omega) (by omega) hcapN hszk.out honek.out rfl rfl).mono ?_
        rintro r wb ⟨rfl, hwb⟩
        obtain ⟨cur', htr⟩ := TrO.shifted (w1 := wb) (HTK.out _ hbf) (p := p) (by rw [← HQD.out]; exact hpq) (by rw [← HQD.out]; omega) (xs := xs) (ys := ys) (B1 := B1) (B2 := B2) (d1 := d1) (d2 := d2) (by rw [HLX.out]; exact o1) (by rw [HLY.out]; exact o2) (by rw [HLX.out]; exact hxm) (by rw [HLY.out]; exact hym) (by rw [← HQD.out, HLX.out, HLY.out]; exact hwb)
        have hBb : Below z w wb := by rw [hwb]; exact below_cells (below_cells (below_drewN (BWK.out.trans (hbf.mono hzk)) 1) hz2 _ _) hz2 _ _
        have hMb : Bx wb gx #[.int .i64 i, .slice (some ⟨g, 0, none⟩) q N] 24 := by rw [hwb]; exact bx_cells (bx_cells ((HXK.out _ hbf).drewN 1) HNE.out _ _) HNE.out _ _
        have hTb : Bx wb w.heap.size #[.slice A n c, .slice B m d] 38 := by rw [hwb]; exact bx_cells (bx_cells (((HS.out _ hbf).1).drewN 1) HGN.out _ _) HGN.out _ _
        have hSb : Bx wb w.heap.size #[.slice A n c, .slice B m d] 38 ∧ wb.cell? ⟨gx, 0, none⟩ = some (.int .i64 i) ∧ wb.cell? ⟨gx, 1, none⟩ = some (.slice (some ⟨g, 0, none⟩) q N) ∧ wb.cell? ⟨w.heap.size, 0, none⟩ = some (.slice A n c) := ⟨hTb, by have := hMb.cell 0; simpa using this, by have := hMb.cell 1; simpa using this, by have := hTb.cell 0; simpa using this⟩
        refine hK.out _ _ (fun _ _ => hSb) ?_
        clear hSb hTb
        (try simp only [Act.put, List.getElem_toArray, List.getElem_cons_zero, List.getElem_cons_succ, List.setIfInBounds_toArray, List.set_cons_zero, List.set_cons_succ])
        have kx1 := hMb.cell 1
        clear hwb
        have kf1 := hMb.free 1
        simp at kx1
        refine wpAnyX_pure (i := 10) (v := ?_) rfl (by kernel_rfl) (by kernel_rfl) (by kernel_rfl) (fun _ _ _ h => h) (Or.inl ⟨by rfl, ?_⟩) ?_
        rotate_left
        · (intro W _; go_simp; try with_reducible rfl)
        (try simp only [Act.put, List.getElem_toArray, List.getElem_cons_zero, List.getElem_cons_succ, List.setIfInBounds_toArray, List.set_cons_zero, List.set_cons_succ])
        refine wpAnyX_pure (i := 11) (v := ?_) rfl (by kernel_rfl) (by kernel_rfl) (by kernel_rfl) (fun _ _ _ h => h) (Or.inl ⟨by rfl, ?_⟩) ?_
        rotate_left
        · (intro W _; go_simp; try with_reducible rfl)
        (try simp only [Act.put, List.getElem_toArray, List.getElem_cons_zero, List.getElem_cons_succ, List.setIfInBounds_toArray, List.set_cons_zero, List.set_cons_succ])
        refine wpAnyX_one (i := 12) rfl (by kernel_rfl) (fun K hK => ?_)
        go_simp
        refine hK.out _ _ (fun h => absurd h (by decide)) ?_
        (try simp only [Act.put, List.getElem_toArray, List.getElem_cons_zero, List.getElem_cons_succ, List.setIfInBounds_toArray, List.set_cons_zero, List.set_cons_succ])
        refine wpAnyX_done (by kernel_rfl) ?_ _
        have HRES := Lib.hid (TrO.boxed htr hMb (.slice (some ⟨g, 0, none⟩) (q + 1) N))
        have HMF := Lib.hid (hMb.on1 (.slice (some ⟨g, 0, none⟩) (q + 1) N))
        have HBF := Lib.hid (hBb.setCell (p := ⟨gx, 1, none⟩) hz1 (.slice (some ⟨g, 0, none⟩) (q + 1) N))
        clear hbf o1 o2 hv9 htr hMb hBb
        go_wp2_with fail
        go_ret
        exact ⟨0, _, rfl, ⟨best, by rw [← HKN.out]; exact HG.out, .inr (.inr (.inr (.inr ⟨HPR.out, HAG.out, HLT.out, by rw [← HD.out, ← HQD.out]; omega, rfl, p, by rw [← HD.out, ← HQD.out]; exact hpq, by rw [← HD.out]; exact HLO.out, by rw [← HD.out, ← HQD.out]; exact HHI.out, rfl⟩)))⟩, HBF.out, fun _ => ⟨cur', by rw [← HD.out, ins_len (by rw [← HQD.out]; exact hpq), ← HQD.out]; exact HMF.out, by rw [← HD.out]; exact HRES.out⟩⟩
      obtain rfl : q = p := by omega
      go_simp
      go_at_call 89
      refine (pins_end g q N w9.heap.size cuk _ _ wa (HTK.out _ hbf).bx hv9 (by omega) hcapN hszk.out rfl rfl).mono ?_
      rintro r wb ⟨rfl, hwb⟩
      obtain ⟨cur', htr⟩ := TrO.pushed (w1 := wb) (HTK.out _ hbf) (by rw [← HQD.out]; omega) (xs := xs) (ys := ys) (B1 := B1) (B2 := B2) (d1 := d1) (d2 := d2) (by rw [HLX.out]; exact o1) (by rw [HLY.out]; exact o2) (by rw [HLX.out]; exact hxm) (by rw [HLY.out]; exact hym) (by rw [← HQD.out, HLX.out, HLY.out]; exact hwb)
      have htr : TrO wb base g N cur' ((ts).take q ++ (xs, ys) :: (ts).drop q) := by rw [List.take_of_length_le (by rw [← HQD.out]; omega), List.drop_eq_nil_of_le (by rw [← HQD.out]; omega)]; exact htr
      have hBb : Below z w wb := by rw [hwb]; exact below_setRow (BWK.out.trans (hbf.mono hzk)) hz2 _
      have hMb : Bx wb gx #[.int .i64 i, .slice (some ⟨g, 0, none⟩) q N] 24 := by rw [hwb]; exact (HXK.out _ hbf).rowOther HNE.out _
      have hTb : Bx wb w.heap.size #[.slice A n c, .slice B m d] 38 := by rw [hwb]; exact ((HS.out _ hbf).1).rowOther HGN.out _
      have hSb : Bx wb w.heap.size #[.slice A n c, .slice B m d] 38 ∧ wb.cell? ⟨gx, 0, none⟩ = some (.int .i64 i) ∧ wb.cell? ⟨gx, 1, none⟩ = some (.slice (some ⟨g, 0, none⟩) q N) ∧ wb.cell? ⟨w.heap.size, 0, none⟩ = some (.slice A n c) := ⟨hTb, by have := hMb.cell 0; simpa using this, by have := hMb.cell 1; simpa using this, by have := hTb.cell 0; simpa using this⟩
      refine hK.out _ _ (fun _ _ => hSb) ?_
      clear hSb hTb
      (try simp only [Act.put, List.getElem_toArray, List.getElem_cons_zero, List.getElem_cons_succ, List.setIfInBounds_toArray, List.set_cons_zero, List.set_cons_succ])
      have kx1 := hMb.cell 1
      clear hwb
      have kf1 := hMb.free 1
      simp at kx1
      refine wpAnyX_pure (i := 10) (v := ?_) rfl (by kernel_rfl) (by kernel_rfl) (by kernel_rfl) (fun _ _ _ h => h) (Or.inl ⟨by rfl, ?_⟩) ?_
      rotate_left
      · (intro W _; go_simp; try with_reducible rfl)
      (try simp only [Act.put, List.getElem_toArray, List.getElem_cons_zero, List.getElem_cons_succ, List.setIfInBounds_toArray, List.set_cons_zero, List.set_cons_succ])
      refine wpAnyX_pure (i := 11) (v := ?_) rfl (by kernel_rfl) (by kernel_rfl) (by kernel_rfl) (fun _ _ _ h => h) (Or.inl ⟨by rfl, ?_⟩) ?_
      rotate_left
      · (intro W _; go_simp; try with_reducible rfl)
      (try simp only [Act.put, List.getElem_toArray, List.getElem_cons_zero, List.getElem_cons_succ, List.setIfInBounds_toArray, List.set_cons_zero, List.set_cons_succ])
      refine wpAnyX_one (i := 12) rfl (by kernel_rfl) (fun K hK => ?_)
      go_simp
      refine hK.out _ _ (fun h => absurd h (by decide)) ?_
      (try simp only [Act.put, List.getElem_toArray, List.getElem_cons_zero, List.getElem_cons_succ, List.setIfInBounds_toArray, List.set_cons_zero, List.set_cons_succ])
      refine wpAnyX_done (by kernel_rfl) ?_ _
      have HRES := Lib.hid (TrO.boxed htr hMb (.slice (some ⟨g, 0, none⟩) (q + 1) N))
      have HMF := Lib.hid (hMb.on1 (.slice (some ⟨g, 0, none⟩) (q + 1) N))
      have HBF := Lib.hid (hBb.setCell (p := ⟨gx, 1, none⟩) hz1 (.slice (some ⟨g, 0, none⟩) (q + 1) N))
      clear hbf o1 o2 hv9 htr hMb hBb
      go_wp2_with fail
      go_ret
      exact ⟨0, _, rfl, ⟨best, by rw [← HKN.out]; exact HG.out, .inr (.inr (.inr (.inr ⟨HPR.out, HAG.out, HLT.out, by rw [← HD.out, ← HQD.out]; omega, rfl, q, by rw [← HD.out, ← HQD.out]; exact hpq, by rw [← HD.out]; exact HLO.out, by rw [← HD.out, ← HQD.out]; exact HHI.out, rfl⟩)))⟩, HBF.out, fun _ => ⟨cur', by rw [← HD.out, ins_len (by rw [← HQD.out]; exact hpq), ← HQD.out]; exact HMF.out, by rw [← HD.out]; exact HRES.out⟩⟩
  obtain ⟨ha0, hal2⟩ := hdel
  have hbq : best < q := (HBB.out ha0).1
  obtain ⟨qd, rfl⟩ : ∃ qd, q = qd + 1 := ⟨q - 1, by omega⟩
  obtain ⟨dd, hdd⟩ : ∃ dd, dd = ts.eraseIdx best := ⟨_, rfl⟩
  have HDL := Lib.hid (show dd = InsD ts best (knw ts xs ts.length) by rw [hdd]; unfold InsD; rw [← HKN.out, if_pos ⟨ha0, hal2⟩])
  have HDD := Lib.hid hdd
  clear hdd
  have trf := HTT.out _ hbf
  obtain ⟨A1, q1, A2, q2, e1, e2, p1, p2⟩ := trf.hd best (by rw [← HQ.out]; exact hbq)
  have ha0I : (0 : Int) < (a : Int) := by omega
  have hbI : (best : Int) < ((qd + 1 : Nat) : Int) := by omega
  have hbI0 : (0 : Int) ≤ (best : Int) := by omega
  have heqL : ((a : Int) == ((tIn ts best).length : Int)) = true := by simp; omega
  have kb : w4.cell? ⟨g, best * 2, none⟩ = some (.slice A1 (tIn ts best).length q1) := by rw [trf.bx.cell]; exact e1
  have k1' := (HMX.out _ hbf).cell 1
  simp at k1'
  have HDE := Lib.hid (pdel16 g (qd + 1) N best cur w4 trf.bx hbq (by omega) hcapN trf.sz trf.one)
  have HMXf := Lib.hid (HMX.out _ hbf)
  have HMTf := Lib.hid (HMT.out _ hbf)
  have HTTf := Lib.hid (HTT.out _ hbf)
  have HALE := Lib.hid hal2
  have HBQ := Lib.hid hbq
  have wb1 : IntKind.i64.wrap ((best : Int) + 1) = ((best + 1 : Nat) : Int) := by rw [IntKind.wrap_i64]; omega
  clear e1 e2 p1 p2 trf hal2 hbf
  go_wp2_with fail
  refine HDE.out.mono ?_
  rintro r w5 ⟨rfl, hw5⟩
  obtain ⟨cuk, trd⟩ := TrO.deleted (w1 := w5) HTTf.out (p := best) (by rw [← HQ.out]; exact HBQ.out) (by rw [← HQ.out]; exact hw5)
  rw [← HDD.out] at trd
  have hM5 : Bx w5 gx #[.int .i64 i, .slice (some ⟨g, 0, none⟩) (qd + 1) N] 24 := by rw [hw5]; exact bx_cells (bx_cells (HMXf.out.drewN 1) (obs_ne_trace HMXf.out HTTf.out.bx) _ _) (obs_ne_trace HMXf.out HTTf.out.bx) _ _
  have hT5 : Bx w5 w.heap.size #[.slice A n c, .slice B m d] 38 := by rw [hw5]; exact bx_cells (bx_cells (HMTf.out.drewN 1) HGN.out _ _) HGN.out _ _
  have hB5 : Below z w w5 := by rw [hw5]; exact below_cells (below_cells (below_drewN HBW.out 1) hz2 _ _) hz2 _ _
  have hM6 := hM5.on1 (.slice (some ⟨g, 0, none⟩) qd N)
  have hT6 := hT5.other (k := 1) HGX.out (.slice (some ⟨g, 0, none⟩) qd N)
  have hB6 := hB5.setCell (p := ⟨gx, 1, none⟩) hz1 (.slice (some ⟨g, 0, none⟩) qd N)
  have trd6 := trd.boxed hM5 (.slice (some ⟨g, 0, none⟩) qd N)
  obtain ⟨w6, hw6⟩ : ∃ w6, w6 = w5.setCell ⟨gx, 1, none⟩ (.slice (some ⟨g, 0, none⟩) qd N) := ⟨_, rfl⟩
  rw [← hw6] at hM6 hT6 hB6 trd6
  have trkq : qd = dd.length := by rw [HDD.out, List.length_eraseIdx, if_pos (by rw [← HQ.out]; exact HBQ.out), ← HQ.out]; rfl
  have HM6 := Lib.hid hM6
  have HT6 := Lib.hid hT6
  have HB6 := Lib.hid hB6
  have HTD6 := Lib.hid trd6
  have HW6 := Lib.hid hw6
  have HTRK := Lib.hid trkq
  have HXf := Lib.hid (HXZ.out _ hB6)
  have HYf := Lib.hid (HYZ.out _ hB6)
  have kx5 := hM5.cell 1
  have kf5 := hM5.free 1
  simp at kx5
  have hq1 : qd + 1 - 1 = qd := by omega
  rw [hq1]
  have hroom' : qd + 1 ≤ N := by omega
  clear hM6 hT6 hB6 trd6 hM5 hT5 hB5 hw6 hw5 trd trkq hq1 kb heqL hroom k0 k1'
  go_upto_region 11 with fail
  rw [← HW6.out]
  clear kx5 kf5
  have trkq := HTRK.out
  have mxk := HM6.out
  have mtk := HT6.out
  have trk := HTD6.out
  have hik := HXf.out
  have hjk := HYf.out
  have BWK := Lib.hid (HB6.out)
  have HD := Lib.hid (HDL.out)
  have HQD := Lib.hid (show qd = (dd).length from trkq)
  clear trkq
  have HSD := Lib.hid (InsD.srt HSS.out best (knw ts xs ts.length))
  rw [← HD.out] at HSD
  have k1 := mxk.cell 1
  simp at k1
  by_cases hlim : 10000 ≤ qd
  · have hlI : (10000 : Int) ≤ (qd : Int) := by omega
    clear mxk mtk trk hik hjk
    go_wp2_with fail
    go_ret
    exact ⟨11, [], rfl, ⟨best, by rw [← HKN.out]; exact HG.out, .inr (.inr (.inr (.inl ⟨HPR.out, HAG.out, HLT.out, by rw [← HD.out, ← HQD.out]; exact hlim, rfl⟩)))⟩, BWK.out, fun h => absurd h (by decide)⟩
  have hlI : ¬ (10000 : Int) ≤ (qd : Int) := by omega
  have HS := Lib.hid (show ∀ W, Below w6.heap.size w6 W → Bx W w.heap.size #[.slice A n c, .slice B m d] 38 ∧ W.cell? ⟨gx, 0, none⟩ = some (.int .i64 i) ∧ W.cell? ⟨gx, 1, none⟩ = some (.slice (some ⟨g, 0, none⟩) qd N) ∧ W.cell? ⟨w.heap.size, 0, none⟩ = some (.slice A n c) from fun W h => ⟨(mtk).on h, by have := ((mxk).on h).cell 0; simpa using this, by have := ((mxk).on h).cell 1; simpa using this, by have := ((mtk).on h).cell 0; simpa using this⟩)
  have HIK := Lib.hid (fun (W : World) (h : Below w6.heap.size w6 W) => hik.below h)
  have HJK := Lib.hid (fun (W : World) (h : Below w6.heap.size w6 W) => hjk.below h)
  have HTK := Lib.hid (fun (W : World) (h : Below w6.heap.size w6 W) => trk.below h)
  have HXK := Lib.hid (fun (W : World) (h : Below w6.heap.size w6 W) => mxk.on h)
  have hzk : z ≤ w6.heap.size := Nat.le_trans hz1 (Nat.le_of_lt mxk.lt)
  have hgk : g < w6.heap.size := trk.bx.lt
  have hszk := Lib.hid trk.sz
  have honek := Lib.hid trk.one
  have HNE := Lib.hid (obs_ne_trace mxk trk.bx)
  clear mxk mtk trk hik hjk
  go_upto_region 13 with fail
  have hbf : Below w6.heap.size w6 w6.drew := below_drewN (Below.refl _ _) 1
  refine wp_region_heldX (X := fun k => ([] : List Nat).contains k) (S := fun W => Bx W w.heap.size #[.slice A n c, .slice B m d] 38 ∧ W.cell? ⟨gx, 0, none⟩ = some (.int .i64 i) ∧ W.cell? ⟨gx, 1, none⟩ = some (.slice (some ⟨g, 0, none⟩) qd N) ∧ W.cell? ⟨w.heap.size, 0, none⟩ = some (.slice A n c)) (by kernel_rfl) ?_
  generalize w6.drew = wkd at hbf ⊢
  refine wpAnyX_pure (i := 0) (v := ?_) rfl (by kernel_rfl) (by kernel_rfl) (by kernel_rfl) (fun _ _ _ h => h) (Or.inl ⟨by rfl, ?_⟩) ?_
  rotate_left
  · (intro W _; go_simp; try with_reducible rfl)
  (try simp only [Act.put, List.getElem_toArray, List.getElem_cons_zero, List.getElem_cons_succ, List.setIfInBounds_toArray, List.set_cons_zero, List.set_cons_succ])
  refine wpAnyX_pure (i := 1) (v := ?_) rfl (by kernel_rfl) (by kernel_rfl) (by kernel_rfl) (fun _ _ _ h => h) (Or.inl ⟨by rfl, ?_⟩) ?_
  rotate_left
  · (intro W _; go_simp; try with_reducible rfl)
  (try simp only [Act.put, List.getElem_toArray, List.getElem_cons_zero, List.getElem_cons_succ, List.setIfInBounds_toArray, List.set_cons_zero, List.set_cons_succ])
  refine wpAnyX_pure (i := 2) (v := ?_) rfl (by kernel_rfl) (by kernel_rfl) (by kernel_rfl) (fun _ _ _ h => h) (Or.inl ⟨by rfl, ?_⟩) ?_
  rotate_left
  · (intro W _; go_simp; try with_reducible rfl)
  (try simp only [Act.put, List.getElem_toArray, List.getElem_cons_zero, List.getElem_cons_succ, List.setIfInBounds_toArray, List.set_cons_zero, List.set_cons_succ])
  refine wpAnyX_takeL (L := []) (i := 3) (v := ?_) rfl (by kernel_rfl) (by kernel_rfl) (by kernel_rfl) (by kernel_rfl) (fun _ _ _ h => h) (Or.inl ⟨by rfl, ?_⟩) (HS.out _ hbf) ?_
  rotate_left
  · (intro W hSW; (try dsimp only at hSW); obtain ⟨z0, z1, z2, z3⟩ := hSW; go_simp; try with_reducible rfl)
  (try simp only [Act.put, List.getElem_toArray, List.getElem_cons_zero, List.getElem_cons_succ, List.setIfInBounds_toArray, List.set_cons_zero, List.set_cons_succ])
  refine wpAnyX_pure (i := 4) (v := ?_) rfl (by kernel_rfl) (by kernel_rfl) (by kernel_rfl) (fun _ _ _ h => h) (Or.inl ⟨by rfl, ?_⟩) ?_
  rotate_left
  · (intro W _; go_simp; try with_reducible rfl)
  (try simp only [Act.put, List.getElem_toArray, List.getElem_cons_zero, List.getElem_cons_succ, List.setIfInBounds_toArray, List.set_cons_zero, List.set_cons_succ])
  refine wpAnyX_takeL (L := []) (i := 5) (v := ?_) rfl (by kernel_rfl) (by kernel_rfl) (by kernel_rfl) (by kernel_rfl) (fun _ _ _ h => h) (Or.inl ⟨by rfl, ?_⟩) (HS.out _ hbf) ?_
  rotate_left
  · (intro W hSW; (try dsimp only at hSW); obtain ⟨z0, z1, z2, z3⟩ := hSW; go_simp; try with_reducible rfl)
  (try simp only [Act.put, List.getElem_toArray, List.getElem_cons_zero, List.getElem_cons_succ, List.setIfInBounds_toArray, List.set_cons_zero, List.set_cons_succ])
  refine wpAnyX_one (i := 6) rfl (by kernel_rfl) (fun K hK => ?_)
  go_simp
  go_at_call 72
  refine (pplace (some ⟨g, 0, none⟩) A qd N n c (dd) xs _ (by rw [HQD.out]; exact (HTK.out _ hbf).trs) (HIK.out _ hbf) HSD.out).mono ?_
  rintro r w8 ⟨p, pv, rfl, hpq, HLO, HHI, b9⟩
  have hbf := bt hbf b9
  clear b9
  refine hK.out _ _ (fun _ _ => HS.out _ hbf) ?_
  (try simp only [Act.put, List.getElem_toArray, List.getElem_cons_zero, List.getElem_cons_succ, List.setIfInBounds_toArray, List.set_cons_zero, List.set_cons_succ])
  refine wpAnyX_pure (i := 7) (v := ?_) rfl (by kernel_rfl) (by kernel_rfl) (by kernel_rfl) (fun _ _ _ h => h) (Or.inl ⟨by rfl, ?_⟩) ?_
  rotate_left
  · (intro W _; go_simp; try with_reducible rfl)
  (try simp only [Act.put, List.getElem_toArray, List.getElem_cons_zero, List.getElem_cons_succ, List.setIfInBounds_toArray, List.set_cons_zero, List.set_cons_succ])
  refine wpAnyX_pure (i := 8) (v := ?_) rfl (by kernel_rfl) (by kernel_rfl) (by kernel_rfl) (fun _ _ _ h => h) (Or.inl ⟨by rfl, ?_⟩) ?_
  rotate_left
  · (intro W _; go_simp; try with_reducible rfl)
  (try simp only [Act.put, List.getElem_toArray, List.getElem_cons_zero, List.getElem_cons_succ, List.setIfInBounds_toArray, List.set_cons_zero, List.set_cons_succ])
  refine wpAnyX_pure (i := 9) (v := ?_) rfl (by kernel_rfl) (by kernel_rfl) (by kernel_rfl) (fun _ _ _ h => h) (Or.inl ⟨by rfl, ?_⟩) ?_
  rotate_left
  · (intro W _; go_simp; try with_reducible rfl)
  (try simp only [Act.put, List.getElem_toArray, List.getElem_cons_zero, List.getElem_cons_succ, List.setIfInBounds_toArray, List.set_cons_zero, List.set_cons_succ])
  refine wpAnyX_pure (i := 10) (v := ?_) rfl (by kernel_rfl) (by kernel_rfl) (by kernel_rfl) (fun _ _ _ h => h) (Or.inl ⟨by rfl, ?_⟩) ?_
  rotate_left
  · (intro W _; go_simp; try with_reducible rfl)
  (try simp only [Act.put, List.getElem_toArray, List.getElem_cons_zero, List.getElem_cons_succ, List.setIfInBounds_toArray, List.set_cons_zero, List.set_cons_succ])
  refine wpAnyX_pure (i := 11) (v := ?_) rfl (by kernel_rfl) (by kernel_rfl) (by kernel_rfl) (fun _ _ _ h => h) (Or.inl ⟨by rfl, ?_⟩) ?_
  rotate_left
  · (intro W _; go_simp; try with_reducible rfl)
  (try simp only [Act.put, List.getElem_toArray, List.getElem_cons_zero, List.getElem_cons_succ, List.setIfInBounds_toArray, List.set_cons_zero, List.set_cons_succ])
  refine wpAnyX_done (by kernel_rfl) ?_ _
  go_upto_region 14 with fail
  have hbf : Below w6.heap.size w6 w8.drew := below_drewN hbf 1
  refine wp_region_heldX (X := fun k => ([12] : List Nat).contains k) (S := fun W => Bx W w.heap.size #[.slice A n c, .slice B m d] 38 ∧ W.cell? ⟨gx, 0, none⟩ = some (.int .i64 i) ∧ W.cell? ⟨gx, 1, none⟩ = some (.slice (some ⟨g, 0, none⟩) qd N) ∧ W.cell? ⟨w.heap.size, 0, none⟩ = some (.slice A n c)) (by kernel_rfl) ?_
  generalize w8.drew = wkd at hbf ⊢
  refine wpAnyX_pure (i := 0) (v := ?_) rfl (by kernel_rfl) (by kernel_rfl) (by kernel_rfl) (fun _ _ _ h => h) (Or.inl ⟨by rfl, ?_⟩) ?_
  rotate_left
  · (intro W _; go_simp; try with_reducible rfl)
  (try simp only [Act.put, List.getElem_toArray, List.getElem_cons_zero, List.getElem_cons_succ, List.setIfInBounds_toArray, List.set_cons_zero, List.set_cons_succ])
  refine wpAnyX_pure (i := 1) (v := ?_) rfl (by kernel_rfl) (by kernel_rfl) (by kernel_rfl) (fun _ _ _ h => h) (Or.inl ⟨by rfl, ?_⟩) ?_
  rotate_left
  · (intro W _; go_simp; try with_reducible rfl)
  (try simp only [Act.put, List.getElem_toArray, List.getElem_cons_zero, List.getElem_cons_succ, List.setIfInBounds_toArray, List.set_cons_zero, List.set_cons_succ])
  refine wpAnyX_pure (i := 2) (v := ?_) rfl (by kernel_rfl) (by kernel_rfl) (by kernel_rfl) (fun _ _ _ h => h) (Or.inl ⟨by rfl, ?_⟩) ?_
  rotate_left
  · (intro W _; go_simp; try with_reducible rfl)
  (try simp only [Act.put, List.getElem_toArray, List.getElem_cons_zero, List.getElem_cons_succ, List.setIfInBounds_toArray, List.set_cons_zero, List.set_cons_succ])
  refine wpAnyX_pure (i := 3) (v := ?_) rfl (by kernel_rfl) (by kernel_rfl) (by kernel_rfl) (fun _ _ _ h => h) (Or.inl ⟨by rfl, ?_⟩) ?_
  rotate_left
  · (intro W _; go_simp; try with_reducible rfl)
  (try simp only [Act.put, List.getElem_toArray, List.getElem_cons_zero, List.getElem_cons_succ, List.setIfInBounds_toArray, List.set_cons_zero, List.set_cons_succ])
  refine wpAnyX_takeL (L := [12]) (i := 4) (v := ?_) rfl (by kernel_rfl) (by kernel_rfl) (by kernel_rfl) (by kernel_rfl) (fun _ _ _ h => h) (Or.inl ⟨by rfl, ?_⟩) (HS.out _ hbf) ?_
  rotate_left
  · (intro W hSW; (try dsimp only at hSW); obtain ⟨z0, z1, z2, z3⟩ := hSW; go_simp; try with_reducible rfl)
  (try simp only [Act.put, List.getElem_toArray, List.getElem_cons_zero, List.getElem_cons_succ, List.setIfInBounds_toArray, List.set_cons_zero, List.set_cons_succ])
  refine wpAnyX_pure (i := 5) (v := ?_) rfl (by kernel_rfl) (by kernel_rfl) (by kernel_rfl) (fun _ _ _ h => h) (Or.inl ⟨by rfl, ?_⟩) ?_
  rotate_left
  · (intro W _; go_simp; try with_reducible rfl)
  (try simp only [Act.put, List.getElem_toArray, List.getElem_cons_zero, List.getElem_cons_succ, List.setIfInBounds_toArray, List.set_cons_zero, List.set_cons_succ])
  refine wpAnyX_takeL (L := [12]) (i := 6) (v := .agg (#[.slice A n c, .slice B m d])) rfl (by kernel_rfl) (by kernel_rfl) (by kernel_rfl) (by kernel_rfl) (fun _ _ _ h => h) (Or.inl ⟨by rfl, fun W hSW => run_load_bx 38 _ rfl (w.heap.size) rfl 38 (#[.slice A n c, .slice B m d]) (0, 0) _ (hSW.1) Try.underlying38 rfl (by kernel_rfl)⟩) (HS.out _ hbf) ?_
  (try simp only [Act.put, List.getElem_toArray, List.getElem_cons_zero, List.getElem_cons_succ, List.setIfInBounds_toArray, List.set_cons_zero, List.set_cons_succ])
  refine wpAnyX_one (i := 7) rfl (by kernel_rfl) (fun K hK => ?_)
  go_simp
  go_at_call 74
  refine (pcopied16 A B n c m d xs ys _ (HIK.out _ hbf) (HJK.out _ hbf)).mono ?_
  rintro r w9 ⟨B1, B2, d1, d2, rfl, o1, o2, b9⟩
  have o1 := o1.lower (base' := base) (Nat.le_trans (Nat.le_trans hbz hzk) hbf.size)
  have o2 := o2.lower (base' := base) (Nat.le_trans (Nat.le_trans hbz hzk) hbf.size)
  have hbf := bt hbf b9
  clear b9
  refine hK.out _ _ (fun _ _ => HS.out _ hbf) ?_
  (try simp only [Act.put, List.getElem_toArray, List.getElem_cons_zero, List.getElem_cons_succ, List.setIfInBounds_toArray, List.set_cons_zero, List.set_cons_succ])
  refine wpAnyX_one (i := 8) rfl (by kernel_rfl) (fun K hK => ?_)
  go_simp
  have l9 := alloc_below w9 (.cells #[.slice B1 n d1, .slice B2 m d2] 38)
  have hv9 := bx_new w9 #[.slice B1 n d1, .slice B2 m d2] 38
  obtain ⟨wa, hwa⟩ : ∃ wa, wa = w9.alloc (.cells #[.slice B1 n d1, .slice B2 m d2] 38) := ⟨_, rfl⟩
  rw [← hwa] at l9 hv9 ⊢
  have o1 := o1.kept l9
  have o2 := o2.kept l9
  have hgv : w9.heap.size ≠ g := by have := hbf.size; omega
  have hbf := bt hbf l9
  clear l9 hwa
  refine hK.out _ _ (fun _ _ => HS.out _ hbf) ?_
  (try simp only [Act.put, List.getElem_toArray, List.getElem_cons_zero, List.getElem_cons_succ, List.setIfInBounds_toArray, List.set_cons_zero, List.set_cons_succ])
  refine wpAnyX_one (i := 9) rfl (by kernel_rfl) (fun K hK => ?_)
  by_cases hpe : p < qd
  · go_simp
    go_at_call 89
    refine (pins_shift g qd N p w9.heap.size cuk _ _ wa (HTK.out _ hbf).bx hv9 hgv (by omega) (by omega) hcapN hszk.out honek.out rfl rfl).mono ?_
    rintro r wb ⟨rfl, hwb⟩
    obtain ⟨cur', htr⟩ := TrO.shifted (w1 := wb) (HTK.out _ hbf) (p := p) (by rw [← HQD.out]; exact hpq) (by rw [← HQD.out]; omega) (xs := xs) (ys := ys) (B1 := B1) (B2 := B2) (d1 := d1) (d2 := d2) (by rw [HLX.out]; exact o1) (by rw [HLY.out]; exact o2) (by rw [HLX.out]; exact hxm) (by rw [HLY.out]; exact hym) (by rw [← HQD.out, HLX.out, HLY.out]; exact hwb)
    have hBb : Below z w wb := by rw [hwb]; exact below_cells (below_cells (below_drewN (BWK.out.trans (hbf.mono hzk)) 1) hz2 _ _) hz2 _ _
    have hMb : Bx wb gx #[.int .i64 i, .slice (some ⟨g, 0, none⟩) qd N] 24 := by rw [hwb]; exact bx_cells (bx_cells ((HXK.out _ hbf).drewN 1) HNE.out _ _) HNE.out _ _
    have hTb : Bx wb w.heap.size #[.slice A n c, .slice B m d] 38 := by rw [hwb]; exact bx_cells (bx_cells (((HS.out _ hbf).1).drewN 1) HGN.out _ _) HGN.out _ _
    have hSb : Bx wb w.heap.size #[.slice A n c, .slice B m d] 38 ∧ wb.cell? ⟨gx, 0, none⟩ = some (.int .i64 i) ∧ wb.cell? ⟨gx, 1, none⟩ = some (.slice (some ⟨g, 0, none⟩) qd N) ∧ wb.cell? ⟨w.heap.size, 0, none⟩ = some (.slice A n c) := ⟨hTb, by have := hMb.cell 0; simpa using this, by have := hMb.cell 1; simpa using this, by have := hTb.cell 0; simpa using this⟩
    refine hK.out _ _ (fun _ _ => hSb) ?_
    clear hSb hTb
    (try simp only [Act.put, List.getElem_toArray, List.getElem_cons_zero, List.getElem_cons_succ, List.setIfInBounds_toArray, List.set_cons_zero, List.set_cons_succ])
    have kx1 := hMb.cell 1
    clear hwb
    have kf1 := hMb.free 1
    simp at kx1
    refine wpAnyX_pure (i := 10) (v := ?_) rfl (by kernel_rfl) (by kernel_rfl) (by kernel_rfl) (fun _ _ _ h => h) (Or.inl ⟨by rfl, ?_⟩) ?_
    rotate_left
    · (intro W _; go_simp; try with_reducible rfl)
    (try simp only [Act.put, List.getElem_toArray, List.getElem_cons_zero, List.getElem_cons_succ, List.setIfInBounds_toArray, List.set_cons_zero, List.set_cons_succ])
    refine wpAnyX_pure (i := 11) (v := ?_) rfl (by kernel_rfl) (by kernel_rfl) (by kernel_rfl) (fun _ _ _ h => h) (Or.inl ⟨by rfl, ?_⟩) ?_
    rotate_left
    · (intro W _; go_simp; try with_reducible rfl)
    (try simp only [Act.put, List.getElem_toArray, List.getElem_cons_zero, List.getElem_cons_succ, List.setIfInBounds_toArray, List.set_cons_zero, List.set_cons_succ])
    refine wpAnyX_one (i := 12) rfl (by kernel_rfl) (fun K hK => ?_)
    go_simp
    refine hK.out _ _ (fun h => absurd h (by decide)) ?_
    (try simp only [Act.put, List.getElem_toArray, List.getElem_cons_zero, List.getElem_cons_succ, List.setIfInBounds_toArray, List.set_cons_zero, List.set_cons_succ])
    refine wpAnyX_done (by kernel_rfl) ?_ _
    have HRES := Lib.hid (TrO.boxed htr hMb (.slice (some ⟨g, 0, none⟩) (qd + 1) N))
    have HMF := Lib.hid (hMb.on1 (.slice (some ⟨g, 0, none⟩) (qd + 1) N))
    have HBF := Lib.hid (hBb.setCell (p := ⟨gx, 1, none⟩) hz1 (.slice (some ⟨g, 0, none⟩) (qd + 1) N))
    clear hbf o1 o2 hv9 htr hMb hBb
    go_wp2_with fail
    go_ret
    exact ⟨0, _, rfl, ⟨best, by rw [← HKN.out]; exact HG.out, .inr (.inr (.inr (.inr ⟨HPR.out, HAG.out, HLT.out, by rw [← HD.out, ← HQD.out]; omega, rfl, p, by rw [← HD.out, ← HQD.out]; exact hpq, by rw [← HD.out]; exact HLO.out, by rw [← HD.out, ← HQD.out]; exact HHI.out, rfl⟩)))⟩, HBF.out, fun _ => ⟨cur', by rw [← HD.out, ins_len (by rw [← HQD.out]; exact hpq), ← HQD.out]; exact HMF.out, by rw [← HD.out]; exact HRES.out⟩⟩
  obtain rfl : qd = p := by omega
  go_simp
  go_at_call 89
  refine (pins_end g qd N w9.heap.size cuk _ _ wa (HTK.out _ hbf).bx hv9 (by omega) hcapN hszk.out rfl rfl).mono ?_
  rintro r wb ⟨rfl, hwb⟩
  obtain ⟨cur', htr⟩ := TrO.pushed (w1 := wb) (HTK.out _ hbf) (by rw [← HQD.out]; omega) (xs := xs) (ys := ys) (B1 := B1) (B2 := B2) (d1 := d1) (d2 := d2) (by rw [HLX.out]; exact o1) (by rw [HLY.out]; exact o2) (by rw [HLX.out]; exact hxm) (by rw [HLY.out]; exact hym) (by rw [← HQD.out, HLX.out, HLY.out]; exact hwb)
  have htr : TrO wb base g N cur' ((dd).take qd ++ (xs, ys) :: (dd).drop qd) := by rw [List.take_of_length_le (by rw [← HQD.out]; omega), List.drop_eq_nil_of_le (by rw [← HQD.out]; omega)]; exact htr
  have hBb : Below z w wb := by rw [hwb]; exact below_setRow (BWK.out.trans (hbf.mono hzk)) hz2 _
  have hMb : Bx wb gx #[.int .i64 i, .slice (some ⟨g, 0, none⟩) qd N] 24 := by rw [hwb]; exact (HXK.out _ hbf).rowOther HNE.out _
  have hTb : Bx wb w.heap.size #[.slice A n c, .slice B m d] 38 := by rw [hwb]; exact ((HS.out _ hbf).1).rowOther HGN.out _
  have hSb : Bx wb w.heap.size #[.slice A n c, .slice B m d] 38 ∧ wb.cell? ⟨gx, 0, none⟩ = some (.int .i64 i) ∧ wb.cell? ⟨gx, 1, none⟩ = some (.slice (some ⟨g, 0, none⟩) qd N) ∧ wb.cell? ⟨w.heap.size, 0, none⟩ = some (.slice A n c) := ⟨hTb, by have := hMb.cell 0; simpa using this, by have := hMb.cell 1; simpa using this, by have := hTb.cell 0; simpa using this⟩
  refine hK.out _ _ (fun _ _ => hSb) ?_
  clear hSb hTb
  (try simp only [Act.put, List.getElem_toArray, List.getElem_cons_zero, List.getElem_cons_succ, List.setIfInBounds_toArray, List.set_cons_zero, List.set_cons_succ])
  have kx1 := hMb.cell 1
  clear hwb
  have kf1 := hMb.free 1
  simp at kx1
  refine wpAnyX_pure (i := 10) (v := ?_) rfl (by kernel_rfl) (by kernel_rfl) (by kernel_rfl) (fun _ _ _ h => h) (Or.inl ⟨by rfl, ?_⟩) ?_
  rotate_left
  · (intro W _; go_simp; try with_reducible rfl)
  (try simp only [Act.put, List.getElem_toArray, List.getElem_cons_zero, List.getElem_cons_succ, List.setIfInBounds_toArray, List.set_cons_zero, List.set_cons_succ])
  refine wpAnyX_pure (i := 11) (v := ?_) rfl (by kernel_rfl) (by kernel_rfl) (by kernel_rfl) (fun _ _ _ h => h) (Or.inl ⟨by rfl, ?_⟩) ?_
  rotate_left
  · (intro W _; go_simp; try with_reducible rfl)
  (try simp only [Act.put, List.getElem_toArray, List.getElem_cons_zero, List.getElem_cons_succ, List.setIfInBounds_toArray, List.set_cons_zero, List.set_cons_succ])
  refine wpAnyX_one (i := 12) rfl (by kernel_rfl) (fun K hK => ?_)
  go_simp
  refine hK.out _ _ (fun h => absurd h (by decide)) ?_
  (try simp only [Act.put, List.getElem_toArray, List.getElem_cons_zero, List.getElem_cons_succ, List.setIfInBounds_toArray, List.set_cons_zero, List.set_cons_succ])
  refine wpAnyX_done (by kernel_rfl) ?_ _
  have HRES := Lib.hid (TrO.boxed htr hMb (.slice (some ⟨g, 0, none⟩) (qd + 1) N))
  have HMF := Lib.hid (hMb.on1 (.slice (some ⟨g, 0, none⟩) (qd + 1) N))
  have HBF := Lib.hid (hBb.setCell (p := ⟨gx, 1, none⟩) hz1 (.slice (some ⟨g, 0, none⟩) (qd + 1) N))
  clear hbf o1 o2 hv9 htr hMb hBb
  go_wp2_with fail
  go_ret
  exact ⟨0, _, rfl, ⟨best, by rw [← HKN.out]; exact HG.out, .inr (.inr (.inr (.inr ⟨HPR.out, HAG.out, HLT.out, by rw [← HD.out, ← HQD.out]; omega, rfl, qd, by rw [← HD.out, ← HQD.out]; exact hpq, by rw [← HD.out]; exact HLO.out, by rw [← HD.out, ← HQD.out]; exact HHI.out, rfl⟩)))⟩, HBF.out, fun _ => ⟨cur', by rw [← HD.out, ins_len (by rw [← HQD.out]; exact hpq), ← HQD.out]; exact HMF.out, by rw [← HD.out]; exact HRES.out⟩⟩
end Go.Proofs.Ytkkmcgapbcikiaa
end

section
/- with of the program. -/
namespace Go.Proofs.Ytkkmcgapbcikiaa
open Go.RowKit Go.Shelf

/-- The result of with: the traces added in order, in memory of its own, or the observations unchanged with the first error. -/
def WthE (i : Int) (T : Option Addr) (tn tc : Nat) (ts us : List (List Int × List Int)) (w : World) (r : Ending) (w' : World) : Prop :=
  Below w.heap.size w w' ∧ ∃ (e : Int) (ts' : List (List Int × List Int)), AddsR i us ts e ts' ∧
    ((¬ e = 0 ∧ r = .returned (.tuple #[.agg #[.int .i64 i, .slice T tn tc], .int .i64 e])) ∨
     (e = 0 ∧ ∃ (g N : Nat) (cur' : Array Value), r = .returned (.tuple #[.agg #[.int .i64 i, .slice (some ⟨g, 0, none⟩) ts'.length N], .int .i64 0]) ∧ TrO w' w.heap.size g N cur' ts'))
theorem results_obs_tmp {fn : Func} {p u : Tmp} (h : fn.results = #[.cell p 24, .tmp u]) (tmps : Array Value) (w : World) (g : Nat) (v1 v2 : Value)
    (hp : tmps.getD p undef = .pointer (some ⟨g, 0, none⟩)) (hg : Bx w g #[v1, v2] 24) :
    (results fn tmps).run Try.prog w = .ok (.tuple #[.agg #[v1, v2], tmps.getD u undef]) w := by
  rw [results_cell_tmp h, hp]
  have hl := run_loadVar_row (P := Try.prog) w g 24 24 #[v1, v2] (0, 0) _ hg Try.underlying24 rfl (by kernel_rfl)
  simp [asAddr, hl]
theorem Bx.set2 {w : World} {g : Nat} {a b : Value} {t : TypeId} (h : Bx w g #[a, b] t) (x y : Value) : Bx ((w.setCell ⟨g, 0, none⟩ x).setCell ⟨g, 1, none⟩ y) g #[x, y] t := by
  have := (h.set 0 x).set 1 y
  simpa using this
theorem set2B {w0 w : World} {z g : Nat} (hb : Below z w0 w) (hg : z ≤ g) (x y : Value) : Below z w0 ((w.setCell ⟨g, 0, none⟩ x).setCell ⟨g, 1, none⟩ y) :=
  (hb.setCell (p := ⟨g, 0, none⟩) hg x).setCell (p := ⟨g, 1, none⟩) hg y
theorem TrO.set2 {w : World} {base g N gx : Nat} {cur cs : Array Value} {ts : List (List Int × List Int)} (h : TrO w base g N cur ts) (hx : Bx w gx cs 24) (x y : Value) : TrO ((w.setCell ⟨gx, 0, none⟩ x).setCell ⟨gx, 1, none⟩ y) base g N cur ts := by
  have h0 : TrO (w.setCell ⟨gx, 0, none⟩ x) base g N cur ts := h.kept (h.bx.other (obs_ne_trace hx h.bx).symm x) (hx.keptSet (by decide) x)
  exact h0.boxed (hx.set 0 x) y
theorem wp_make_tr {ops : Array Oper} {o : Oper} {a : Act} {w : World} {K : Act → World → Prop} {Q : Exit → Act → World → Prop} {E : Prop} (hgd : o.guard = none) (l c : Operand) (ho : o.op = Op.makeSlice 22 l c)
    (kl kc : IntKind) (N : Nat) (hl : a.eval l = .int kl 0) (hc : a.eval c = .int kc N) (hN : N ≤ 1000000)
    (h : K (a.put o.dst (.slice (some ⟨w.heap.size, 0, none⟩) 0 N)) (w.alloc (.cells (madeCells #[.slice none 0 0, .slice none 0 0] (N * 2)) 38))) :
    if Region.wanted o (yielded ops a.tmps) = true then Oper.wp Try.prog o a w K Q else E := by
  obtain ⟨i, hi, hz0, hz1, hz2⟩ := info_parts infot
  have hw : Region.wanted o (yielded ops a.tmps) = true := by simp [Region.wanted, hgd]
  rw [if_pos hw]
  have hrun := run_make (P := Try.prog) w 22 38 i _ Try.underlying22 hi hz0 kl kc 0 (N : Int) (Int.le_refl _) (by omega) (by rw [hz2]; omega) (by omega)
  rw [hz1] at hrun
  simp only [Int.toNat_zero, Int.toNat_natCast] at hrun
  unfold Oper.wp
  simp [execOp, ho, hl, hc, hrun, Result.andThen]
  exact h
theorem step_appE {P : Program} {ops : Array Oper} {o : Oper} {a : Act} {w : World} {K : Act → World → Prop} {Q : Exit → Act → World → Prop} {E : Prop} (hgd : o.guard = none) (s x : Operand) (t tn : TypeId)
    (ho : o.op = .call { callee := .builtin .append, args := #[s, x], argTypes := #[t, tn] }) (vs vx : Value) (hs : a.eval s = vs) (hx : a.eval x = vx) (r : Value) (w' : World)
    (hr : (Builtin.append_ #[t, tn] o.type #[vs, vx]).run P w = .ok r w') (h : K (a.put o.dst r) w') :
    if Region.wanted o (yielded ops a.tmps) = true then Oper.wp P o a w K Q else E := by
  have hw : Region.wanted o (yielded ops a.tmps) = true := by simp [Region.wanted, hgd]
  rw [if_pos hw]
  exact Lib.wp_append_run w s x t tn ho vs vx hs hx _ w' hr h
/-- append of one trace where there is room. -/
theorem TrO.push_run {w : World} {base g N : Nat} {cur : Array Value} {ts : List (List Int × List Int)} (h : TrO w base g N cur ts) (hroom : ts.length + 1 ≤ N) {vb : Nat} {x1 x2 : Value} (hv : Bx w vb #[x1, x2] 38) (h1 : x1.oneCell' = true) (h2 : x2.oneCell' = true) (ty : TypeId) :
    (Builtin.append_ #[22, 22] ty #[.slice (some ⟨g, 0, none⟩) ts.length N, .slice (some ⟨vb, 0, none⟩) 1 1]).run Try.prog w = .ok (.slice (some ⟨g, 0, none⟩) (ts.length + 1) N) (w.setRow g (cur.toList.take (ts.length * 2) ++ x1 :: x2 :: cur.toList.drop (ts.length * 2 + 2)).toArray) := by
  obtain ⟨i, hi, hz0, hz1, hz2⟩ := info_parts infot
  have hrn := run_append_room (P := Try.prog) (w := w) 22 ty 38 i Try.underlying22 hi g ts.length N cur h.bx ⟨vb, 0, none⟩ 1 1 [x1, x2] (by rw [hz1]; rfl)
    (fun j u hj => by
      rw [Addr.add_lit, Nat.zero_add]
      refine (hv.cell j).trans ?_
      rw [← hj]; simp) (by simp [h1, h2]) hroom (by rw [hz1, h.sz]; simp; omega)
  rw [hz1, List.append_assoc] at hrn
  exact hrn
theorem made_one (N : Nat) : ∀ v, v ∈ (madeCells #[Value.slice none 0 0, .slice none 0 0] (N * 2)).toList → v.oneCell' = true := by
  intro v hv
  unfold madeCells at hv
  simp only [Array.toList_map, List.mem_map] at hv
  obtain ⟨k, _, rfl⟩ := hv
  have : k % 2 = 0 ∨ k % 2 = 1 := by omega
  rcases this with h | h <;> simp [h, Value.oneCell']
theorem take_snoc {ts : List (List Int × List Int)} {k : Nat} (h : k < ts.length) : ts.take k ++ [(tIn ts k, tOut ts k)] = ts.take (k + 1) := by
  rw [List.take_add_one, List.getElem?_eq_getElem h]
  unfold tIn tOut
  rw [List.getD_eq_getElem?_getD, List.getElem?_eq_getElem h]
  rfl
theorem drop_cons {ts : List (List Int × List Int)} {k : Nat} (h : k < ts.length) : ts.drop k = (tIn ts k, tOut ts k) :: ts.drop (k + 1) := by
  rw [List.drop_eq_getElem_cons h]
  unfold tIn tOut
  rw [List.getD_eq_getElem?_getD, List.getElem?_eq_getElem h]
  rfl

set_option linter.unusedSimpArgs false in
set_option linter.unusedVariables false in
set_option maxHeartbeats 16000000 in
set_option maxRecDepth 100000 in
theorem pwith (i : Int) (T U : Option Addr) (tn tc un uc : Nat) (ts us : List (List Int × List Int)) (w : World) (hT : Trs w T tn ts) (hU : Trs w U un us) (hS : Srt ts) (hF : Full ts) (htn : tn ≤ 500000) (hun : un ≤ 500000) :
    Calls Try.prog 54 #[.agg #[.int .i64 i, .slice T tn tc], .slice U un uc] w fun r w' => WthE i T tn tc ts us w r w' := by
  obtain ⟨w1, hw1⟩ : ∃ w1, w1 = (w.alloc (.cells #[.int .i64 i, .slice T tn tc] 24)).alloc (.cells #[.int .i64 0, .slice none 0 0] 24) := ⟨_, rfl⟩
  obtain ⟨hb0, m1, m2, hs0⟩ := bxs2 w #[.int .i64 i, .slice T tn tc] #[.int .i64 0, .slice none 0 0] 24 24 w1 hw1
  obtain ⟨N, hN⟩ : ∃ N : Nat, N = tn + un := ⟨_, rfl⟩
  have HT := Lib.hid (hT.below hb0)
  have HU := Lib.hid (hU.below hb0)
  have HM1 := Lib.hid (fun (W : World) (h : Below w1.heap.size w1 W) => m1.on h)
  have HM2 := Lib.hid (fun (W : World) (h : Below w1.heap.size w1 W) => m2.on h)
  have HB0 := Lib.hid hb0
  have HW1 := Lib.hid hw1
  have HZ1 := Lib.hid hs0
  have HSS := Lib.hid hS
  have HFF := Lib.hid hF
  have HLT := Lib.hid hT.1
  have HLU := Lib.hid hU.1
  have hwN : IntKind.i64.wrap ((tn : Int) + (un : Int)) = (N : Int) := by rw [IntKind.wrap_i64]; omega
  have hN2 : N ≤ 1000000 := by omega
  have hN0 : (0 : Int) ≤ (N : Int) := by omega
  have HN := Lib.hid hN
  have HS := Lib.hid (show ∀ W, Below w1.heap.size w1 W → W.cell? ⟨w.heap.size, 0, none⟩ = some (.int .i64 i) ∧ W.cell? ⟨w.heap.size, 1, none⟩ = some (.slice T tn tc) from fun W h => ⟨by have := (m1.on h).cell 0; simpa using this, by have := (m1.on h).cell 1; simpa using this⟩)
  clear hw1 hb0 m1 m2 hs0 hT hU hS hF hN
  go_enter Try.func54, Try.ntmps54
  go_upto_region 1 with fail
  rw [← HW1.out]
  have hbf : Below w1.heap.size w1 w1.drew := below_drewN (Below.refl _ _) 1
  refine wp_region_heldX (X := fun k => ([11] : List Nat).contains k) (S := fun W => W.cell? ⟨w.heap.size, 0, none⟩ = some (.int .i64 i) ∧ W.cell? ⟨w.heap.size, 1, none⟩ = some (.slice T tn tc)) (by kernel_rfl) ?_
  generalize w1.drew = wkd at hbf ⊢
  refine wpAnyX_pure (i := 0) (v := ?_) rfl (by kernel_rfl) (by kernel_rfl) (by kernel_rfl) (fun _ _ _ h => h) (Or.inl ⟨by rfl, ?_⟩) ?_
  rotate_left
  · (intro W _; go_simp; try with_reducible rfl)
  (try simp only [Act.put, List.getElem_toArray, List.getElem_cons_zero, List.getElem_cons_succ, List.setIfInBounds_toArray, List.set_cons_zero, List.set_cons_succ])
  refine wpAnyX_takeL (L := [11]) (i := 1) (v := ?_) rfl (by kernel_rfl) (by kernel_rfl) (by kernel_rfl) (by kernel_rfl) (fun _ _ _ h => h) (Or.inl ⟨by rfl, ?_⟩) (HS.out _ hbf) ?_
  rotate_left
  · (intro W hSW; (try dsimp only at hSW); obtain ⟨z0, z1⟩ := hSW; go_simp; try with_reducible rfl)
  (try simp only [Act.put, List.getElem_toArray, List.getElem_cons_zero, List.getElem_cons_succ, List.setIfInBounds_toArray, List.set_cons_zero, List.set_cons_succ])
  refine wpAnyX_pure (i := 2) (v := ?_) rfl (by kernel_rfl) (by kernel_rfl) (by kernel_rfl) (fun _ _ _ h => h) (Or.inl ⟨by rfl, ?_⟩) ?_
  rotate_left
  · (intro W _; go_simp; try with_reducible rfl)
  (try simp only [Act.put, List.getElem_toArray, List.getElem_cons_zero, List.getElem_cons_succ, List.setIfInBounds_toArray, List.set_cons_zero, List.set_cons_succ])
  refine wpAnyX_takeL (L := [11]) (i := 3) (v := ?_) rfl (by kernel_rfl) (by kernel_rfl) (by kernel_rfl) (by kernel_rfl) (fun _ _ _ h => h) (Or.inl ⟨by rfl, ?_⟩) (HS.out _ hbf) ?_
  rotate_left
  · (intro W hSW; (try dsimp only at hSW); obtain ⟨z0, z1⟩ := hSW; go_simp; try with_reducible rfl)
  (try simp only [Act.put, List.getElem_toArray, List.getElem_cons_zero, List.getElem_cons_succ, List.setIfInBounds_toArray, List.set_cons_zero, List.set_cons_succ])
  refine wpAnyX_pure (i := 4) (v := ?_) rfl (by kernel_rfl) (by kernel_rfl) (by kernel_rfl) (fun _ _ _ h => h) (Or.inl ⟨by rfl, ?_⟩) ?_
  rotate_left
  · (intro W _; go_simp; try with_reducible rfl)
  (try simp only [Act.put, List.getElem_toArray, List.getElem_cons_zero, List.getElem_cons_succ, List.setIfInBounds_toArray, List.set_cons_zero, List.set_cons_succ])
  refine wpAnyX_pure (i := 5) (v := ?_) rfl (by kernel_rfl) (by kernel_rfl) (by kernel_rfl) (fun _ _ _ h => h) (Or.inl ⟨by rfl, ?_⟩) ?_
  rotate_left
  · (intro W _; go_simp; try with_reducible rfl)
  (try simp only [Act.put, List.getElem_toArray, List.getElem_cons_zero, List.getElem_cons_succ, List.setIfInBounds_toArray, List.set_cons_zero, List.set_cons_succ])
  refine wpAnyX_pure (i := 6) (v := ?_) rfl (by kernel_rfl) (by kernel_rfl) (by kernel_rfl) (fun _ _ _ h => h) (Or.inl ⟨by rfl, ?_⟩) ?_
  rotate_left
  · (intro W _; go_simp; try with_reducible rfl)
  (try simp only [Act.put, List.getElem_toArray, List.getElem_cons_zero, List.getElem_cons_succ, List.setIfInBounds_toArray, List.set_cons_zero, List.set_cons_succ])
  refine wpAnyX_pure (i := 7) (v := ?_) rfl (by kernel_rfl) (by kernel_rfl) (by kernel_rfl) (fun _ _ _ h => h) (Or.inl ⟨by rfl, ?_⟩) ?_
  rotate_left
  · (intro W _; go_simp; try with_reducible rfl)
  (try simp only [Act.put, List.getElem_toArray, List.getElem_cons_zero, List.getElem_cons_succ, List.setIfInBounds_toArray, List.set_cons_zero, List.set_cons_succ])
  refine wpAnyX_two (i := 8) (j := 10) rfl rfl (by kernel_rfl) (fun K hK => ?_) (fun K hK => ?_)
  · refine wp_make_tr rfl _ _ rfl _ _ N rfl rfl hN2 (hK.out _ _ (fun _ _ => HS.out _ (bt hbf (alloc_below _ _))) ?_)
    (try simp only [Act.put, List.getElem_toArray, List.getElem_cons_zero, List.getElem_cons_succ, List.setIfInBounds_toArray, List.set_cons_zero, List.set_cons_succ])
    have hal := alloc_below wkd (.cells (madeCells #[.slice none 0 0, .slice none 0 0] (N * 2)) 38)
    have hg := bx_new wkd (madeCells #[.slice none 0 0, .slice none 0 0] (N * 2)) 38
    have hgz : w1.heap.size ≤ wkd.heap.size := hbf.size
    obtain ⟨g, eqg⟩ : ∃ g, g = wkd.heap.size := ⟨_, rfl⟩
    have hbf := bt hbf hal
    generalize wkd.alloc (.cells (madeCells #[.slice none 0 0, .slice none 0 0] (N * 2)) 38) = wk1 at hal hbf hg ⊢
    rw [← eqg] at hg hgz ⊢
    clear eqg hal
    refine wpAnyX_pure (i := 9) (v := ?_) rfl (by kernel_rfl) (by kernel_rfl) (by kernel_rfl) (fun _ _ _ h => h) (Or.inl ⟨by rfl, ?_⟩) ?_
    rotate_left
    · (intro W _; go_simp; try with_reducible rfl)
    (try simp only [Act.put, List.getElem_toArray, List.getElem_cons_zero, List.getElem_cons_succ, List.setIfInBounds_toArray, List.set_cons_zero, List.set_cons_succ])
    refine wpAnyX_one (i := 10) rfl (by kernel_rfl) (fun K hK => ?_)
    go_simp
    refine hK.out _ _ (fun _ _ => HS.out _ (bt hbf (alloc_below _ _))) ?_
    (try simp only [Act.put, List.getElem_toArray, List.getElem_cons_zero, List.getElem_cons_succ, List.setIfInBounds_toArray, List.set_cons_zero, List.set_cons_succ])
    have hal := alloc_below wk1 (.cells #[.int .i64 0, .slice none 0 0] 24)
    have hx := bx_new wk1 #[.int .i64 0, .slice none 0 0] 24
    have hxz : w1.heap.size ≤ wk1.heap.size := hbf.size
    have hg := hg.on hal
    obtain ⟨gx, eqgx⟩ : ∃ gx, gx = wk1.heap.size := ⟨_, rfl⟩
    have hbf := bt hbf hal
    generalize wk1.alloc (.cells #[.int .i64 0, .slice none 0 0] 24) = wk2 at hal hbf hg hx ⊢
    rw [← eqgx] at hx hxz ⊢
    clear eqgx hal
    refine wpAnyX_one (i := 11) rfl (by kernel_rfl) (fun K hK => ?_)
    refine wp_store_row 24 _ _ rfl gx (#[.int .i64 i, .slice (some ⟨g, 0, none⟩) 0 N]) rfl rfl 24 (#[.int .i64 0, .slice none 0 0]) hx (by kernel_rfl) (by rfl) (by simp [Value.oneCell']) (hK.out _ _ (fun h => absurd h (by decide)) ?_)
    (try simp only [Act.put, List.getElem_toArray, List.getElem_cons_zero, List.getElem_cons_succ, List.setIfInBounds_toArray, List.set_cons_zero, List.set_cons_succ])
    refine wpAnyX_done (by kernel_rfl) ?_ _
    have hX0 := hx.row #[.int .i64 i, .slice (some ⟨g, 0, none⟩) 0 N]
    have hT0 : TrO (wk2.setRow gx #[.int .i64 i, .slice (some ⟨g, 0, none⟩) 0 N]) w.heap.size g N _ [] := TrO.start (hg.rowOther (obs_ne_trace hx hg).symm _) (by have := HZ1.out; omega) (size_madeCells _ _) hN2 (made_one N)
    have hBA := below_setRow hbf hxz #[.int .i64 i, .slice (some ⟨g, 0, none⟩) 0 N]
    have HXA := Lib.hid hX0
    have HTA := Lib.hid hT0
    have HBA := Lib.hid hBA
    have t1 := (HM1.out _ hBA).cell 1
    simp at t1
    generalize wk2.setRow gx #[.int .i64 i, .slice (some ⟨g, 0, none⟩) 0 N] = wA at HXA HTA HBA t1 ⊢
    clear hX0 hT0 hBA hx hg hbf
    go_upto_region 3 with fail
    clear t1
    go_loopw [25] (fun v25 wr => ∃ (k : Nat) (cur : Array Value), v25 = .int .i64 k ∧ k ≤ tn ∧ Hid (Bx wr gx #[.int .i64 i, .slice (some ⟨g, 0, none⟩) k N] 24) ∧ Hid (TrO wr w.heap.size g N cur (ts.take k)) ∧ Hid (Below w1.heap.size w1 wr)) (fun v25 _ => tn - (intOf v25).toNat)
    case atStart => exact ⟨0, _, rfl, Nat.zero_le _, HXA, Lib.hid (by rw [List.take_zero]; exact HTA.out), HBA⟩
    case round =>
      obtain ⟨k, cur, rfl, hk, HX, HTk, HBR⟩ := hrel
      by_cases hlt : k < tn
      · obtain ⟨b, off, A1, n1, c1, A2, n2, c2, eT, hgb, j1, j2, q1, q2, j3, j4⟩ := (HT.out.below HBR.out).at_ hlt
        subst eT
        have hkI : (k : Int) < (tn : Int) := by omega
        have hk0 : (0 : Int) ≤ (k : Int) := by omega
        have hl7 := alloc_below wr (.cells #[.slice A1 n1 c1, .slice A2 n2 c2] 38)
        have hm7 := bx_new wr #[.slice A1 n1 c1, .slice A2 n2 c2] 38
        have HI1 := Lib.hid (j3.below hl7)
        have HI2 := Lib.hid (j4.below hl7)
        have HN1 := Lib.hid j3.1
        have HN2 := Lib.hid j4.1
        have hn1 := j3.2.1
        have hn2 := j4.2.1
        have HX7 := Lib.hid (HX.out.on hl7)
        have HT7 := Lib.hid (HTk.out.below hl7)
        have HB7 := Lib.hid (HBR.out.trans (hl7.mono HBR.out.size))
        have HM7 := Lib.hid hm7
        have hlk : (ts.take k).length = k := by rw [List.length_take, HLT.out]; omega
        have HLK := Lib.hid hlk
        have hszw : w.heap.size ≤ wr.heap.size := Nat.le_trans HB0.out.size HBR.out.size
        have hgr : g < wr.heap.size := HTk.out.bx.lt
        clear hm7 j3 j4 q1 q2 hgb hlk
        go_upto_region 5 with fail
        generalize wr.alloc (.cells #[.slice A1 n1 c1, .slice A2 n2 c2] 38) = w7 at hl7 HI1 HI2 HX7 HT7 HB7 HM7 ⊢
        have hw7 : w.heap.size ≤ w7.heap.size := Nat.le_trans hszw hl7.size
        clear j1 j2 hl7
        have HS := Lib.hid (show ∀ W, Below w7.heap.size w7 W → Bx W wr.heap.size #[.slice A1 n1 c1, .slice A2 n2 c2] 38 ∧ W.cell? ⟨gx, 1, none⟩ = some (.slice (some ⟨g, 0, none⟩) k N) from fun W h => ⟨HM7.out.on h, by have := (HX7.out.on h).cell 1; simpa using this⟩)
        have hbf : Below w7.heap.size w7 w7.drew := below_drewN (Below.refl _ _) 1
        refine wp_region_heldX (X := fun k => ([7] : List Nat).contains k) (S := fun W => Bx W wr.heap.size #[.slice A1 n1 c1, .slice A2 n2 c2] 38 ∧ W.cell? ⟨gx, 1, none⟩ = some (.slice (some ⟨g, 0, none⟩) k N)) (by kernel_rfl) ?_
        generalize w7.drew = wkd at hbf ⊢
        refine wpAnyX_pure (i := 0) (v := ?_) rfl (by kernel_rfl) (by kernel_rfl) (by kernel_rfl) (fun _ _ _ h => h) (Or.inl ⟨by rfl, ?_⟩) ?_
        rotate_left
        · (intro W _; go_simp; try with_reducible rfl)
        (try simp only [Act.put, List.getElem_toArray, List.getElem_cons_zero, List.getElem_cons_succ, List.setIfInBounds_toArray, List.set_cons_zero, List.set_cons_succ])
        refine wpAnyX_takeL (L := [7]) (i := 1) (v := ?_) rfl (by kernel_rfl) (by kernel_rfl) (by kernel_rfl) (by kernel_rfl) (fun _ _ _ h => h) (Or.inl ⟨by rfl, ?_⟩) (HS.out _ hbf) ?_
        rotate_left
        · (intro W hSW; (try dsimp only at hSW); obtain ⟨z0, z1⟩ := hSW; go_simp; try with_reducible rfl)
        (try simp only [Act.put, List.getElem_toArray, List.getElem_cons_zero, List.getElem_cons_succ, List.setIfInBounds_toArray, List.set_cons_zero, List.set_cons_succ])
        refine wpAnyX_takeL (L := [7]) (i := 2) (v := .agg (#[.slice A1 n1 c1, .slice A2 n2 c2])) rfl (by kernel_rfl) (by kernel_rfl) (by kernel_rfl) (by kernel_rfl) (fun _ _ _ h => h) (Or.inl ⟨by rfl, fun W hSW => run_load_bx 38 _ rfl (wr.heap.size) rfl 38 (#[.slice A1 n1 c1, .slice A2 n2 c2]) (0, 0) _ (hSW.1) Try.underlying38 rfl (by kernel_rfl)⟩) (HS.out _ hbf) ?_
        (try simp only [Act.put, List.getElem_toArray, List.getElem_cons_zero, List.getElem_cons_succ, List.setIfInBounds_toArray, List.set_cons_zero, List.set_cons_succ])
        refine wpAnyX_one (i := 3) rfl (by kernel_rfl) (fun K hK => ?_)
        go_simp
        go_at_call 74
        refine (pcopied16 A1 A2 n1 c1 n2 c2 (tIn ts k) (tOut ts k) _ (HI1.out.below hbf) (HI2.out.below hbf)).mono ?_
        rintro r w9 ⟨B1, B2, d1, d2, rfl, o1, o2, b9⟩
        have o1 := o1.lower (base' := w.heap.size) (Nat.le_trans hw7 hbf.size)
        have o2 := o2.lower (base' := w.heap.size) (Nat.le_trans hw7 hbf.size)
        have hbf := bt hbf b9
        clear b9
        refine hK.out _ _ (fun _ _ => HS.out _ hbf) ?_
        (try simp only [Act.put, List.getElem_toArray, List.getElem_cons_zero, List.getElem_cons_succ, List.setIfInBounds_toArray, List.set_cons_zero, List.set_cons_succ])
        refine wpAnyX_one (i := 4) rfl (by kernel_rfl) (fun K hK => ?_)
        go_simp
        have l9 := alloc_below w9 (.cells #[.slice B1 n1 d1, .slice B2 n2 d2] 38)
        have hv9 := bx_new w9 #[.slice B1 n1 d1, .slice B2 n2 d2] 38
        obtain ⟨wa, hwa⟩ : ∃ wa, wa = w9.alloc (.cells #[.slice B1 n1 d1, .slice B2 n2 d2] 38) := ⟨_, rfl⟩
        rw [← hwa] at l9 hv9 ⊢
        have o1 := o1.kept l9
        have o2 := o2.kept l9
        have hbf := bt hbf l9
        clear l9 hwa
        refine hK.out _ _ (fun _ _ => HS.out _ hbf) ?_
        (try simp only [Act.put, List.getElem_toArray, List.getElem_cons_zero, List.getElem_cons_succ, List.setIfInBounds_toArray, List.set_cons_zero, List.set_cons_succ])
        refine wpAnyX_one (i := 5) rfl (by kernel_rfl) (fun K hK => ?_)
        have hta := HT7.out.below hbf
        have hrn := hta.push_run (by rw [HLK.out]; have := HN.out; omega) hv9 rfl rfl 22
        rw [HLK.out] at hrn
        refine step_appE rfl _ _ _ _ rfl _ _ rfl rfl _ _ hrn (hK.out _ _ (fun _ _ => ?_) ?_)
        · exact ⟨(HS.out _ hbf).1.rowOther (by have := HX7.out.lt; have := hgr; omega) _, by have := ((HX7.out.on hbf).rowOther (obs_ne_trace (HX7.out.on hbf) hta.bx) (cur.toList.take (k * 2) ++ Value.slice B1 n1 d1 :: Value.slice B2 n2 d2 :: cur.toList.drop (k * 2 + 2)).toArray).cell 1; simpa using this⟩
        (try simp only [Act.put, List.getElem_toArray, List.getElem_cons_zero, List.getElem_cons_succ, List.setIfInBounds_toArray, List.set_cons_zero, List.set_cons_succ])
        obtain ⟨wb, hwb⟩ : ∃ wb, wb = wa.setRow g (cur.toList.take (k * 2) ++ Value.slice B1 n1 d1 :: Value.slice B2 n2 d2 :: cur.toList.drop (k * 2 + 2)).toArray := ⟨_, rfl⟩
        rw [← hwb]
        obtain ⟨cur', htr⟩ := TrO.pushed (w1 := wb) hta (by rw [HLK.out]; have := HN.out; omega) (xs := tIn ts k) (ys := tOut ts k) (B1 := B1) (B2 := B2) (d1 := d1) (d2 := d2) (by rw [HN1.out]; exact o1) (by rw [HN2.out]; exact o2) (by rw [HN1.out]; exact hn1) (by rw [HN2.out]; exact hn2) (by rw [HLK.out, HN1.out, HN2.out]; exact hwb)
        rw [take_snoc (by rw [HLT.out]; exact hlt)] at htr
        have hMb : Bx wb gx #[.int .i64 i, .slice (some ⟨g, 0, none⟩) k N] 24 := by rw [hwb]; exact (HX7.out.on hbf).rowOther (obs_ne_trace (HX7.out.on hbf) hta.bx) _
        have hBb : Below w1.heap.size w1 wb := by rw [hwb]; exact below_setRow (HB7.out.trans (hbf.mono HB7.out.size)) hgz _
        have kx1 := hMb.cell 1
        have kf1 := hMb.free 1
        simp at kx1
        clear hwb hrn hta
        refine wpAnyX_pure (i := 6) (v := ?_) rfl (by kernel_rfl) (by kernel_rfl) (by kernel_rfl) (fun _ _ _ h => h) (Or.inl ⟨by rfl, ?_⟩) ?_
        rotate_left
        · (intro W _; go_simp; try with_reducible rfl)
        (try simp only [Act.put, List.getElem_toArray, List.getElem_cons_zero, List.getElem_cons_succ, List.setIfInBounds_toArray, List.set_cons_zero, List.set_cons_succ])
        refine wpAnyX_one (i := 7) rfl (by kernel_rfl) (fun K hK => ?_)
        go_simp
        refine hK.out _ _ (fun h => absurd h (by decide)) ?_
        (try simp only [Act.put, List.getElem_toArray, List.getElem_cons_zero, List.getElem_cons_succ, List.setIfInBounds_toArray, List.set_cons_zero, List.set_cons_succ])
        refine wpAnyX_done (by kernel_rfl) ?_ _
        have HXn := Lib.hid (hMb.on1 (.slice (some ⟨g, 0, none⟩) (k + 1) N))
        have HTn := Lib.hid (htr.boxed hMb (.slice (some ⟨g, 0, none⟩) (k + 1) N))
        have HBn := Lib.hid (hBb.setCell (p := ⟨gx, 1, none⟩) hxz (.slice (some ⟨g, 0, none⟩) (k + 1) N))
        have wk1 : IntKind.i64.wrap ((k : Int) + 1) = ((k + 1 : Nat) : Int) := by rw [IntKind.wrap_i64]; omega
        clear hMb htr hBb kx1 kf1 hbf o1 o2 hv9
        go_wp2_with fail
        go_roundw
        case measure => simp [intOf]; omega
        case rel => exact ⟨k + 1, cur', rfl, by omega, HXn, HTn, HBn⟩
      obtain rfl : k = tn := by omega
      have hkI : ¬ (k : Int) < (k : Int) := by omega
      have HTk : Hid (TrO wr w.heap.size g N cur ts) := Lib.hid (by have := HTk.out; rwa [List.take_of_length_le (by rw [HLT.out]; exact Nat.le_refl _)] at this)
      go_wp2_with fail
      go_loopw [39] (fun v39 wr => ∃ (k2 q : Nat) (cur2 : Array Value) (tsk : List (List Int × List Int)), v39 = .int .i64 k2 ∧ k2 ≤ un ∧ Hid (q = tsk.length) ∧ q ≤ k + k2 ∧ Hid (Bx wr gx #[.int .i64 i, .slice (some ⟨g, 0, none⟩) q N] 24) ∧ Hid (TrO wr w.heap.size g N cur2 tsk) ∧ Hid (Below w1.heap.size w1 wr) ∧ Hid (Srt tsk) ∧ Hid (Full tsk) ∧ Hid (∀ e ts', AddsR i (us.drop k2) tsk e ts' → AddsR i us ts e ts')) (fun v39 _ => un - (intOf v39).toNat)
      case atStart => exact ⟨0, k, cur, ts, rfl, Nat.zero_le _, Lib.hid HLT.out.symm, Nat.le_refl _, HX, HTk, HBR, HSS, HFF, Lib.hid (fun e ts' h => by rwa [List.drop_zero] at h)⟩
      case round =>
        clear HX HTk HBR
        rename_i wr0
        obtain ⟨k2, q, cur2, tsk, rfl, hk2, HQ, hqk, HX, HTk, HBR, HSk, HFk, HAd⟩ := hrel
        by_cases hlt2 : k2 < un
        · obtain ⟨b, off, A1, n1, c1, A2, n2, c2, eU, hgb, j1, j2, q1, q2, j3, j4⟩ := (HU.out.below HBR.out).at_ hlt2
          subst eU
          obtain ⟨_, _, B1, p1, d1, B2, p2, d2, eU, _, i1, i2, _, _, i3, i4⟩ := HU.out.at_ hlt2
          cases eU
          have HI1 := Lib.hid (show Ints w1 A1 n1 (tIn us k2) by
            have e1 := (HBR.out.cell (p := ⟨b, off + k2 * 2, none⟩) (by assumption)).trans i1
            rw [j1] at e1; cases e1; exact i3)
          have HI2 := Lib.hid (show Ints w1 A2 n2 (tOut us k2) by
            have e1 := (HBR.out.cell (p := ⟨b, off + k2 * 2 + 1, none⟩) (by assumption)).trans i2
            rw [j2] at e1; cases e1; exact i4)
          have hkI2 : (k2 : Int) < (un : Int) := by omega
          have hk02 : (0 : Int) ≤ (k2 : Int) := by omega
          have hl7 := alloc_below wr (.cells #[.slice A1 n1 c1, .slice A2 n2 c2] 38)
          have hm7 := bx_new wr #[.slice A1 n1 c1, .slice A2 n2 c2] 38
          have hB7 := HBR.out.trans (hl7.mono HBR.out.size)
          have HIN := Lib.hid (pinsert i A1 A2 n1 c1 n2 c2 gx g N w.heap.size w1.heap.size cur2 tsk (tIn us k2) (tOut us k2) _ (by rw [← HQ.out]; exact HX.out.on hl7) (HTk.out.below hl7) (fun W h => HI1.out.below (hB7.trans h)) q1 (fun W h => HI2.out.below (hB7.trans h)) q2 HSk.out HFk.out (by rw [← HQ.out]; have := HN.out; omega) hxz hgz HB0.out.size)
          have HB7 := Lib.hid hB7
          have t0 := hm7.cell 0
          have t1 := hm7.cell 1
          simp at t0 t1
          have HUD := Lib.hid (drop_cons (ts := us) (k := k2) (by rw [HLU.out]; exact hlt2))
          clear hm7 hl7 hB7 i1 i2 i3 i4 j3 j4 q1 q2 hgb
          go_wp2_with fail
          refine HIN.out.mono ?_
          clear j1 j2 t0 t1
          rintro r w9 ⟨e, ts', rfl, HR, hB9, hok⟩
          have HRR := Lib.hid HR
          clear HR
          have hbw := HB7.out.trans hB9
          by_cases he : e = 0
          · subst he
            obtain ⟨cur', hX', hT'⟩ := hok rfl
            have HXn := Lib.hid hX'
            have HTn := Lib.hid hT'
            have HBn := Lib.hid hbw
            have hl' := HRR.out.len
            have wk1 : IntKind.i64.wrap ((k2 : Int) + 1) = ((k2 + 1 : Nat) : Int) := by rw [IntKind.wrap_i64]; omega
            have HQ2 : Hid (ts'.length ≤ k + (k2 + 1)) := Lib.hid (by have := HQ.out; omega)
            clear hX' hT' hok hbw hB9 hl'
            go_wp2_with fail
            go_roundw
            case measure => simp [intOf]; omega
            case rel =>
              exact ⟨k2 + 1, ts'.length, cur', ts', rfl, by omega, Lib.hid rfl, HQ2.out, HXn, HTn, HBn, Lib.hid (HRR.out.srt HSk.out), Lib.hid (HRR.out.full HFk.out), Lib.hid (fun e ts2 h => HAd.out e ts2 (by rw [HUD.out]; exact AddsR.step HRR.out h))⟩
          · have hne : (e != 0) = true := by simpa using he
            have HE := Lib.hid he
            have m1 := HM1.out _ hbw
            have m2 := HM2.out _ hbw
            have p0 := m1.cell 0
            have p1 := m1.cell 1
            have f0 := m2.free 0
            have f1 := m2.free 1
            have r0 := m2.cell 0
            have r1 := m2.cell 1
            simp at p0 p1 r0 r1
            have HR2 := Lib.hid (m2.set2 (.int .i64 i) (.slice T k tc))
            have HBF := Lib.hid (set2B (g := w.heap.size + 1) (HB0.out.trans (hbw.mono HB0.out.size)) (by omega) (.int .i64 i) (.slice T k tc))
            clear m1 m2 hok hbw hB9 he
            go_wp2_with fail
            (try rw [Exit.noGoto_ret])
            refine bodyPost_ret (results_obs_tmp rfl _ _ (w.heap.size + 1) (.int .i64 i) (.slice T k tc) rfl HR2.out) rfl ?_
            exact ⟨HBF.out, e, ts', HAd.out e ts' (by rw [HUD.out]; exact AddsR.stop HRR.out HE.out ts'), .inl ⟨HE.out, rfl⟩⟩
        · obtain rfl : k2 = un := by omega
          have hkI2 : ¬ (k2 : Int) < (k2 : Int) := by omega
          have m2 := HM2.out _ HBR.out
          have mx := HX.out
          have p0 := mx.cell 0
          have p1 := mx.cell 1
          have f0 := m2.free 0
          have f1 := m2.free 1
          have r0 := m2.cell 0
          have r1 := m2.cell 1
          simp at p0 p1 r0 r1
          have HR2 := Lib.hid (m2.set2 (.int .i64 i) (.slice (some ⟨g, 0, none⟩) q N))
          have HTF := Lib.hid (HTk.out.set2 m2 (.int .i64 i) (.slice (some ⟨g, 0, none⟩) q N))
          have HBF := Lib.hid (set2B (g := w.heap.size + 1) (HB0.out.trans (HBR.out.mono HB0.out.size)) (by omega) (.int .i64 i) (.slice (some ⟨g, 0, none⟩) q N))
          clear m2 mx
          go_wp2_with fail
          (try rw [Exit.noGoto_ret])
          refine bodyPost_ret (results_obs_tmp rfl _ _ (w.heap.size + 1) (.int .i64 i) (.slice (some ⟨g, 0, none⟩) q N) rfl HR2.out) rfl ?_
          exact ⟨HBF.out, 0, tsk, HAd.out 0 tsk (by rw [List.drop_eq_nil_of_le (by rw [HLU.out]; exact Nat.le_refl _)]; exact AddsR.nil tsk), .inr ⟨rfl, g, N, cur2, by rw [← HQ.out]; rfl, HTF.out⟩⟩
  · go_simp
    refine hK.out _ _ (fun _ _ => HS.out _ (bt hbf (alloc_below _ _))) ?_
    (try simp only [Act.put, List.getElem_toArray, List.getElem_cons_zero, List.getElem_cons_succ, List.setIfInBounds_toArray, List.set_cons_zero, List.set_cons_succ])
    have hal := alloc_below wkd (.cells #[.int .i64 0, .slice none 0 0] 24)
    have hx := bx_new wkd #[.int .i64 0, .slice none 0 0] 24
    have hxz : w1.heap.size ≤ wkd.heap.size := hbf.size
    obtain ⟨gx, eqgx⟩ : ∃ gx, gx = wkd.heap.size := ⟨_, rfl⟩
    have hbf := bt hbf hal
    generalize wkd.alloc (.cells #[.int .i64 0, .slice none 0 0] 24) = wk1 at hal hbf hx ⊢
    rw [← eqgx] at hx hxz ⊢
    clear eqgx hal
    refine wpAnyX_one (i := 8) rfl (by kernel_rfl) (fun K hK => ?_)
    refine wp_make_tr rfl _ _ rfl _ _ N rfl rfl hN2 (hK.out _ _ (fun _ _ => HS.out _ (bt hbf (alloc_below _ _))) ?_)
    (try simp only [Act.put, List.getElem_toArray, List.getElem_cons_zero, List.getElem_cons_succ, List.setIfInBounds_toArray, List.set_cons_zero, List.set_cons_succ])
    have hal := alloc_below wk1 (.cells (madeCells #[.slice none 0 0, .slice none 0 0] (N * 2)) 38)
    have hg := bx_new wk1 (madeCells #[.slice none 0 0, .slice none 0 0] (N * 2)) 38
    have hgz : w1.heap.size ≤ wk1.heap.size := hbf.size
    have hx := hx.on hal
    obtain ⟨g, eqg⟩ : ∃ g, g = wk1.heap.size := ⟨_, rfl⟩
    have hbf := bt hbf hal
    generalize wk1.alloc (.cells (madeCells #[.slice none 0 0, .slice none 0 0] (N * 2)) 38) = wk2 at hal hbf hg hx ⊢
    rw [← eqg] at hg hgz ⊢
    clear eqg hal
    refine wpAnyX_pure (i := 9) (v := ?_) rfl (by kernel_rfl) (by kernel_rfl) (by kernel_rfl) (fun _ _ _ h => h) (Or.inl ⟨by rfl, ?_⟩) ?_
    rotate_left
    · (intro W _; go_simp; try with_reducible rfl)
    (try simp only [Act.put, List.getElem_toArray, List.getElem_cons_zero, List.getElem_cons_succ, List.setIfInBounds_toArray, List.set_cons_zero, List.set_cons_succ])
    refine wpAnyX_one (i := 11) rfl (by kernel_rfl) (fun K hK => ?_)
    refine wp_store_row 24 _ _ rfl gx (#[.int .i64 i, .slice (some ⟨g, 0, none⟩) 0 N]) rfl rfl 24 (#[.int .i64 0, .slice none 0 0]) hx (by kernel_rfl) (by rfl) (by simp [Value.oneCell']) (hK.out _ _ (fun h => absurd h (by decide)) ?_)
    (try simp only [Act.put, List.getElem_toArray, List.getElem_cons_zero, List.getElem_cons_succ, List.setIfInBounds_toArray, List.set_cons_zero, List.set_cons_succ])
    refine wpAnyX_done (by kernel_rfl) ?_ _
    have hX0 := hx.row #[.int .i64 i, .slice (some ⟨g, 0, none⟩) 0 N]
    have hT0 : TrO (wk2.setRow gx #[.int .i64 i, .slice (some ⟨g, 0, none⟩) 0 N]) w.heap.size g N _ [] := TrO.start (hg.rowOther (obs_ne_trace hx hg).symm _) (by have := HZ1.out; omega) (size_madeCells _ _) hN2 (made_one N)
    have hBA := below_setRow hbf hxz #[.int .i64 i, .slice (some ⟨g, 0, none⟩) 0 N]
    have HXA := Lib.hid hX0
    have HTA := Lib.hid hT0
    have HBA := Lib.hid hBA
    have t1 := (HM1.out _ hBA).cell 1
    simp at t1
    generalize wk2.setRow gx #[.int .i64 i, .slice (some ⟨g, 0, none⟩) 0 N] = wA at HXA HTA HBA t1 ⊢
    clear hX0 hT0 hBA hx hg hbf
    go_upto_region 3 with fail
    clear t1
    go_loopw [25] (fun v25 wr => ∃ (k : Nat) (cur : Array Value), v25 = .int .i64 k ∧ k ≤ tn ∧ Hid (Bx wr gx #[.int .i64 i, .slice (some ⟨g, 0, none⟩) k N] 24) ∧ Hid (TrO wr w.heap.size g N cur (ts.take k)) ∧ Hid (Below w1.heap.size w1 wr)) (fun v25 _ => tn - (intOf v25).toNat)
    case atStart => exact ⟨0, _, rfl, Nat.zero_le _, HXA, Lib.hid (by rw [List.take_zero]; exact HTA.out), HBA⟩
    case round =>
      obtain ⟨k, cur, rfl, hk, HX, HTk, HBR⟩ := hrel
      by_cases hlt : k < tn
      · obtain ⟨b, off, A1, n1, c1, A2, n2, c2, eT, hgb, j1, j2, q1, q2, j3, j4⟩ := (HT.out.below HBR.out).at_ hlt
        subst eT
        have hkI : (k : Int) < (tn : Int) := by omega
        have hk0 : (0 : Int) ≤ (k : Int) := by omega
        have hl7 := alloc_below wr (.cells #[.slice A1 n1 c1, .slice A2 n2 c2] 38)
        have hm7 := bx_new wr #[.slice A1 n1 c1, .slice A2 n2 c2] 38
        have HI1 := Lib.hid (j3.below hl7)
        have HI2 := Lib.hid (j4.below hl7)
        have HN1 := Lib.hid j3.1
        have HN2 := Lib.hid j4.1
        have hn1 := j3.2.1
        have hn2 := j4.2.1
        have HX7 := Lib.hid (HX.out.on hl7)
        have HT7 := Lib.hid (HTk.out.below hl7)
        have HB7 := Lib.hid (HBR.out.trans (hl7.mono HBR.out.size))
        have HM7 := Lib.hid hm7
        have hlk : (ts.take k).length = k := by rw [List.length_take, HLT.out]; omega
        have HLK := Lib.hid hlk
        have hszw : w.heap.size ≤ wr.heap.size := Nat.le_trans HB0.out.size HBR.out.size
        have hgr : g < wr.heap.size := HTk.out.bx.lt
        clear hm7 j3 j4 q1 q2 hgb hlk
        go_upto_region 5 with fail
        generalize wr.alloc (.cells #[.slice A1 n1 c1, .slice A2 n2 c2] 38) = w7 at hl7 HI1 HI2 HX7 HT7 HB7 HM7 ⊢
        have hw7 : w.heap.size ≤ w7.heap.size := Nat.le_trans hszw hl7.size
        clear j1 j2 hl7
        have HS := Lib.hid (show ∀ W, Below w7.heap.size w7 W → Bx W wr.heap.size #[.slice A1 n1 c1, .slice A2 n2 c2] 38 ∧ W.cell? ⟨gx, 1, none⟩ = some (.slice (some ⟨g, 0, none⟩) k N) from fun W h => ⟨HM7.out.on h, by have := (HX7.out.on h).cell 1; simpa using this⟩)
        have hbf : Below w7.heap.size w7 w7.drew := below_drewN (Below.refl _ _) 1
        refine wp_region_heldX (X := fun k => ([7] : List Nat).contains k) (S := fun W => Bx W wr.heap.size #[.slice A1 n1 c1, .slice A2 n2 c2] 38 ∧ W.cell? ⟨gx, 1, none⟩ = some (.slice (some ⟨g, 0, none⟩) k N)) (by kernel_rfl) ?_
        generalize w7.drew = wkd at hbf ⊢
        refine wpAnyX_pure (i := 0) (v := ?_) rfl (by kernel_rfl) (by kernel_rfl) (by kernel_rfl) (fun _ _ _ h => h) (Or.inl ⟨by rfl, ?_⟩) ?_
        rotate_left
        · (intro W _; go_simp; try with_reducible rfl)
        (try simp only [Act.put, List.getElem_toArray, List.getElem_cons_zero, List.getElem_cons_succ, List.setIfInBounds_toArray, List.set_cons_zero, List.set_cons_succ])
        refine wpAnyX_takeL (L := [7]) (i := 1) (v := ?_) rfl (by kernel_rfl) (by kernel_rfl) (by kernel_rfl) (by kernel_rfl) (fun _ _ _ h => h) (Or.inl ⟨by rfl, ?_⟩) (HS.out _ hbf) ?_
        rotate_left
        · (intro W hSW; (try dsimp only at hSW); obtain ⟨z0, z1⟩ := hSW; go_simp; try with_reducible rfl)
        (try simp only [Act.put, List.getElem_toArray, List.getElem_cons_zero, List.getElem_cons_succ, List.setIfInBounds_toArray, List.set_cons_zero, List.set_cons_succ])
        refine wpAnyX_takeL (L := [7]) (i := 2) (v := .agg (#[.slice A1 n1 c1, .slice A2 n2 c2])) rfl (by kernel_rfl) (by kernel_rfl) (by kernel_rfl) (by kernel_rfl) (fun _ _ _ h => h) (Or.inl ⟨by rfl, fun W hSW => run_load_bx 38 _ rfl (wr.heap.size) rfl 38 (#[.slice A1 n1 c1, .slice A2 n2 c2]) (0, 0) _ (hSW.1) Try.underlying38 rfl (by kernel_rfl)⟩) (HS.out _ hbf) ?_
        (try simp only [Act.put, List.getElem_toArray, List.getElem_cons_zero, List.getElem_cons_succ, List.setIfInBounds_toArray, List.set_cons_zero, List.set_cons_succ])
        refine wpAnyX_one (i := 3) rfl (by kernel_rfl) (fun K hK => ?_)
        go_simp
        go_at_call 74
        refine (pcopied16 A1 A2 n1 c1 n2 c2 (tIn ts k) (tOut ts k) _ (HI1.out.below hbf) (HI2.out.below hbf)).mono ?_
        rintro r w9 ⟨B1, B2, d1, d2, rfl, o1, o2, b9⟩
        have o1 := o1.lower (base' := w.heap.size) (Nat.le_trans hw7 hbf.size)
        have o2 := o2.lower (base' := w.heap.size) (Nat.le_trans hw7 hbf.size)
        have hbf := bt hbf b9
        clear b9
        refine hK.out _ _ (fun _ _ => HS.out _ hbf) ?_
        (try simp only [Act.put, List.getElem_toArray, List.getElem_cons_zero, List.getElem_cons_succ, List.setIfInBounds_toArray, List.set_cons_zero, List.set_cons_succ])
        refine wpAnyX_one (i := 4) rfl (by kernel_rfl) (fun K hK => ?_)
        go_simp
        have l9 := alloc_below w9 (.cells #[.slice B1 n1 d1, .slice B2 n2 d2] 38)
        have hv9 := bx_new w9 #[.slice B1 n1 d1, .slice B2 n2 d2] 38
        obtain ⟨wa, hwa⟩ : ∃ wa, wa = w9.alloc (.cells #[.slice B1 n1 d1, .slice B2 n2 d2] 38) := ⟨_, rfl⟩
        rw [← hwa] at l9 hv9 ⊢
        have o1 := o1.kept l9
        have o2 := o2.kept l9
        have hbf := bt hbf l9
        clear l9 hwa
        refine hK.out _ _ (fun _ _ => HS.out _ hbf) ?_
        (try simp only [Act.put, List.getElem_toArray, List.getElem_cons_zero, List.getElem_cons_succ, List.setIfInBounds_toArray, List.set_cons_zero, List.set_cons_succ])
        refine wpAnyX_one (i := 5) rfl (by kernel_rfl) (fun K hK => ?_)
        have hta := HT7.out.below hbf
        have hrn := hta.push_run (by rw [HLK.out]; have := HN.out; omega) hv9 rfl rfl 22
        rw [HLK.out] at hrn
        refine step_appE rfl _ _ _ _ rfl _ _ rfl rfl _ _ hrn (hK.out _ _ (fun _ _ => ?_) ?_)
        · exact ⟨(HS.out _ hbf).1.rowOther (by have := HX7.out.lt; have := hgr; omega) _, by have := ((HX7.out.on hbf).rowOther (obs_ne_trace (HX7.out.on hbf) hta.bx) (cur.toList.take (k * 2) ++ Value.slice B1 n1 d1 :: Value.slice B2 n2 d2 :: cur.toList.drop (k * 2 + 2)).toArray).cell 1; simpa using this⟩
        (try simp only [Act.put, List.getElem_toArray, List.getElem_cons_zero, List.getElem_cons_succ, List.setIfInBounds_toArray, List.set_cons_zero, List.set_cons_succ])
        obtain ⟨wb, hwb⟩ : ∃ wb, wb = wa.setRow g (cur.toList.take (k * 2) ++ Value.slice B1 n1 d1 :: Value.slice B2 n2 d2 :: cur.toList.drop (k * 2 + 2)).toArray := ⟨_, rfl⟩
        rw [← hwb]
        obtain ⟨cur', htr⟩ := TrO.pushed (w1 := wb) hta (by rw [HLK.out]; have := HN.out; omega) (xs := tIn ts k) (ys := tOut ts k) (B1 := B1) (B2 := B2) (d1 := d1) (d2 := d2) (by rw [HN1.out]; exact o1) (by rw [HN2.out]; exact o2) (by rw [HN1.out]; exact hn1) (by rw [HN2.out]; exact hn2) (by rw [HLK.out, HN1.out, HN2.out]; exact hwb)
        rw [take_snoc (by rw [HLT.out]; exact hlt)] at htr
        have hMb : Bx wb gx #[.int .i64 i, .slice (some ⟨g, 0, none⟩) k N] 24 := by rw [hwb]; exact (HX7.out.on hbf).rowOther (obs_ne_trace (HX7.out.on hbf) hta.bx) _
        have hBb : Below w1.heap.size w1 wb := by rw [hwb]; exact below_setRow (HB7.out.trans (hbf.mono HB7.out.size)) hgz _
        have kx1 := hMb.cell 1
        have kf1 := hMb.free 1
        simp at kx1
        clear hwb hrn hta
        refine wpAnyX_pure (i := 6) (v := ?_) rfl (by kernel_rfl) (by kernel_rfl) (by kernel_rfl) (fun _ _ _ h => h) (Or.inl ⟨by rfl, ?_⟩) ?_
        rotate_left
        · (intro W _; go_simp; try with_reducible rfl)
        (try simp only [Act.put, List.getElem_toArray, List.getElem_cons_zero, List.getElem_cons_succ, List.setIfInBounds_toArray, List.set_cons_zero, List.set_cons_succ])
        refine wpAnyX_one (i := 7) rfl (by kernel_rfl) (fun K hK => ?_)
        go_simp
        refine hK.out _ _ (fun h => absurd h (by decide)) ?_
        (try simp only [Act.put, List.getElem_toArray, List.getElem_cons_zero, List.getElem_cons_succ, List.setIfInBounds_toArray, List.set_cons_zero, List.set_cons_succ])
        refine wpAnyX_done (by kernel_rfl) ?_ _
        have HXn := Lib.hid (hMb.on1 (.slice (some ⟨g, 0, none⟩) (k + 1) N))
        have HTn := Lib.hid (htr.boxed hMb (.slice (some ⟨g, 0, none⟩) (k + 1) N))
        have HBn := Lib.hid (hBb.setCell (p := ⟨gx, 1, none⟩) hxz (.slice (some ⟨g, 0, none⟩) (k + 1) N))
        have wk1 : IntKind.i64.wrap ((k : Int) + 1) = ((k + 1 : Nat) : Int) := by rw [IntKind.wrap_i64]; omega
        clear hMb htr hBb kx1 kf1 hbf o1 o2 hv9
        go_wp2_with fail
        go_roundw
        case measure => simp [intOf]; omega
        case rel => exact ⟨k + 1, cur', rfl, by omega, HXn, HTn, HBn⟩
      obtain rfl : k = tn := by omega
      have hkI : ¬ (k : Int) < (k : Int) := by omega
      have HTk : Hid (TrO wr w.heap.size g N cur ts) := Lib.hid (by have := HTk.out; rwa [List.take_of_length_le (by rw [HLT.out]; exact Nat.le_refl _)] at this)
      go_wp2_with fail
      go_loopw [39] (fun v39 wr => ∃ (k2 q : Nat) (cur2 : Array Value) (tsk : List (List Int × List Int)), v39 = .int .i64 k2 ∧ k2 ≤ un ∧ Hid (q = tsk.length) ∧ q ≤ k + k2 ∧ Hid (Bx wr gx #[.int .i64 i, .slice (some ⟨g, 0, none⟩) q N] 24) ∧ Hid (TrO wr w.heap.size g N cur2 tsk) ∧ Hid (Below w1.heap.size w1 wr) ∧ Hid (Srt tsk) ∧ Hid (Full tsk) ∧ Hid (∀ e ts', AddsR i (us.drop k2) tsk e ts' → AddsR i us ts e ts')) (fun v39 _ => un - (intOf v39).toNat)
      case atStart => exact ⟨0, k, cur, ts, rfl, Nat.zero_le _, Lib.hid HLT.out.symm, Nat.le_refl _, HX, HTk, HBR, HSS, HFF, Lib.hid (fun e ts' h => by rwa [List.drop_zero] at h)⟩
      case round =>
        clear HX HTk HBR
        rename_i wr0
        obtain ⟨k2, q, cur2, tsk, rfl, hk2, HQ, hqk, HX, HTk, HBR, HSk, HFk, HAd⟩ := hrel
        by_cases hlt2 : k2 < un
        · obtain ⟨b, off, A1, n1, c1, A2, n2, c2, eU, hgb, j1, j2, q1, q2, j3, j4⟩ := (HU.out.below HBR.out).at_ hlt2
          subst eU
          obtain ⟨_, _, B1, p1, d1, B2, p2, d2, eU, _, i1, i2, _, _, i3, i4⟩ := HU.out.at_ hlt2
          cases eU
          have HI1 := Lib.hid (show Ints w1 A1 n1 (tIn us k2) by
            have e1 := (HBR.out.cell (p := ⟨b, off + k2 * 2, none⟩) (by assumption)).trans i1
            rw [j1] at e1; cases e1; exact i3)
          have HI2 := Lib.hid (show Ints w1 A2 n2 (tOut us k2) by
            have e1 := (HBR.out.cell (p := ⟨b, off + k2 * 2 + 1, none⟩) (by assumption)).trans i2
            rw [j2] at e1; cases e1; exact i4)
          have hkI2 : (k2 : Int) < (un : Int) := by omega
          have hk02 : (0 : Int) ≤ (k2 : Int) := by omega
          have hl7 := alloc_below wr (.cells #[.slice A1 n1 c1, .slice A2 n2 c2] 38)
          have hm7 := bx_new wr #[.slice A1 n1 c1, .slice A2 n2 c2] 38
          have hB7 := HBR.out.trans (hl7.mono HBR.out.size)
          have HIN := Lib.hid (pinsert i A1 A2 n1 c1 n2 c2 gx g N w.heap.size w1.heap.size cur2 tsk (tIn us k2) (tOut us k2) _ (by rw [← HQ.out]; exact HX.out.on hl7) (HTk.out.below hl7) (fun W h => HI1.out.below (hB7.trans h)) q1 (fun W h => HI2.out.below (hB7.trans h)) q2 HSk.out HFk.out (by rw [← HQ.out]; have := HN.out; omega) hxz hgz HB0.out.size)
          have HB7 := Lib.hid hB7
          have t0 := hm7.cell 0
          have t1 := hm7.cell 1
          simp at t0 t1
          have HUD := Lib.hid (drop_cons (ts := us) (k := k2) (by rw [HLU.out]; exact hlt2))
          clear hm7 hl7 hB7 i1 i2 i3 i4 j3 j4 q1 q2 hgb
          go_wp2_with fail
          refine HIN.out.mono ?_
          clear j1 j2 t0 t1
          rintro r w9 ⟨e, ts', rfl, HR, hB9, hok⟩
          have HRR := Lib.hid HR
          clear HR
          have hbw := HB7.out.trans hB9
          by_cases he : e = 0
          · subst he
            obtain ⟨cur', hX', hT'⟩ := hok rfl
            have HXn := Lib.hid hX'
            have HTn := Lib.hid hT'
            have HBn := Lib.hid hbw
            have hl' := HRR.out.len
            have wk1 : IntKind.i64.wrap ((k2 : Int) + 1) = ((k2 + 1 : Nat) : Int) := by rw [IntKind.wrap_i64]; omega
            have HQ2 : Hid (ts'.length ≤ k + (k2 + 1)) := Lib.hid (by have := HQ.out; omega)
            clear hX' hT' hok hbw hB9 hl'
            go_wp2_with fail
            go_roundw
            case measure => simp [intOf]; omega
            case rel =>
              exact ⟨k2 + 1, ts'.length, cur', ts', rfl, by omega, Lib.hid rfl, HQ2.out, HXn, HTn, HBn, Lib.hid (HRR.out.srt HSk.out), Lib.hid (HRR.out.full HFk.out), Lib.hid (fun e ts2 h => HAd.out e ts2 (by rw [HUD.out]; exact AddsR.step HRR.out h))⟩
          · have hne : (e != 0) = true := by simpa using he
            have HE := Lib.hid he
            have m1 := HM1.out _ hbw
            have m2 := HM2.out _ hbw
            have p0 := m1.cell 0
            have p1 := m1.cell 1
            have f0 := m2.free 0
            have f1 := m2.free 1
            have r0 := m2.cell 0
            have r1 := m2.cell 1
            simp at p0 p1 r0 r1
            have HR2 := Lib.hid (m2.set2 (.int .i64 i) (.slice T k tc))
            have HBF := Lib.hid (set2B (g := w.heap.size + 1) (HB0.out.trans (hbw.mono HB0.out.size)) (by omega) (.int .i64 i) (.slice T k tc))
            clear m1 m2 hok hbw hB9 he
            go_wp2_with fail
            (try rw [Exit.noGoto_ret])
            refine bodyPost_ret (results_obs_tmp rfl _ _ (w.heap.size + 1) (.int .i64 i) (.slice T k tc) rfl HR2.out) rfl ?_
            exact ⟨HBF.out, e, ts', HAd.out e ts' (by rw [HUD.out]; exact AddsR.stop HRR.out HE.out ts'), .inl ⟨HE.out, rfl⟩⟩
        · obtain rfl : k2 = un := by omega
          have hkI2 : ¬ (k2 : Int) < (k2 : Int) := by omega
          have m2 := HM2.out _ HBR.out
          have mx := HX.out
          have p0 := mx.cell 0
          have p1 := mx.cell 1
          have f0 := m2.free 0
          have f1 := m2.free 1
          have r0 := m2.cell 0
          have r1 := m2.cell 1
          simp at p0 p1 r0 r1
          have HR2 := Lib.hid (m2.set2 (.int .i64 i) (.slice (some ⟨g, 0, none⟩) q N))
          have HTF := Lib.hid (HTk.out.set2 m2 (.int .i64 i) (.slice (some ⟨g, 0, none⟩) q N))
          have HBF := Lib.hid (set2B (g := w.heap.size + 1) (HB0.out.trans (HBR.out.mono HB0.out.size)) (by omega) (.int .i64 i) (.slice (some ⟨g, 0, none⟩) q N))
          clear m2 mx
          go_wp2_with fail
          (try rw [Exit.noGoto_ret])
          refine bodyPost_ret (results_obs_tmp rfl _ _ (w.heap.size + 1) (.int .i64 i) (.slice (some ⟨g, 0, none⟩) q N) rfl HR2.out) rfl ?_
          exact ⟨HBF.out, 0, tsk, HAd.out 0 tsk (by rw [List.drop_eq_nil_of_le (by rw [HLU.out]; exact Nat.le_refl _)]; exact AddsR.nil tsk), .inr ⟨rfl, g, N, cur2, by rw [← HQ.out]; rfl, HTF.out⟩⟩
end Go.Proofs.Ytkkmcgapbcikiaa
end

section
/- dictionary of the program. -/
namespace Go.Proofs.Ytkkmcgapbcikiaa
open Go.RowKit

/-- The numbers from 0 on. -/
def upI (k : Nat) : List Int := (List.range k).map fun j => ((j : Nat) : Int)
theorem upI_succ (k : Nat) : upI (k + 1) = upI k ++ [(k : Int)] := by unfold upI; rw [List.range_succ, List.map_append]; rfl
theorem upI_len (k : Nat) : (upI k).length = k := by simp [upI]
theorem results_srt {fn : Func} {p : Tmp} (h : fn.results = #[.cell p 92]) (tmps : Array Value) (w : World) (g : Nat) (v1 v2 : Value)
    (hp : tmps.getD p undef = .pointer (some ⟨g, 0, none⟩)) (hg : Bx w g #[v1, v2] 92) :
    (results fn tmps).run Try.prog w = .ok (.agg #[v1, v2]) w := results_cell_row h _ _ g 92 _ (0, 0) _ hp hg Try.underlying92 rfl (by kernel_rfl)
theorem Bx.on0 {w : World} {g : Nat} {a b : Value} {t : TypeId} (h : Bx w g #[a, b] t) (v : Value) : Bx (w.setCell ⟨g, 0, none⟩ v) g #[v, b] t := by
  have := h.set 0 v
  simpa using this
theorem Bx.onI {w w' : World} {g : Nat} {cs : Array Value} {t : TypeId} (h : Bx w g cs t) (hk : ∀ (g : Nat) (t : TypeId) (cs : Array Value), w.heap[g]? = some (Obj.cells cs t (0, 0)) → t ≠ 3 → w'.heap[g]? = some (Obj.cells cs t (0, 0))) (ht : t ≠ 3) : Bx w' g cs t := hk g t cs h ht
theorem Owned.keptK {w w' : World} {base k g n c : Nat} {xs : List Int} (h : Owned w base (.slice (some ⟨g, 0, none⟩) n c) xs) (hb : Below k w w') (hg : g < k) : Owned w' base (.slice (some ⟨g, 0, none⟩) n c) xs := by
  refine ⟨h.1, ?_⟩
  rcases h.2 with ⟨e, h0⟩ | ⟨g', cap, cur, e, hbg, hg', r⟩
  · cases e
  · refine .inr ⟨g', cap, cur, e, hbg, ?_, r⟩
    injection e with e1
    injection e1 with e1
    injection e1 with e1
    subst e1
    exact (hb.block g hg).trans hg'
theorem Ints.none0 (A : Option Addr) (w : World) : Ints w A 0 [] := ⟨rfl, by omega, fun h => absurd h (by omega)⟩
/-- Up to P neighbours are compared. -/
def ShP (ts : List (List Int × List Int)) (os : List Int) (P : Nat) (ss : List Int) : Prop := ss.length = P ∧ ∀ p, p < P → ss.getD p 0 = cmn (tIn ts (opo os p)) (tIn ts (opo os (p + 1)))
theorem ShP.snoc {ts : List (List Int × List Int)} {os ss : List Int} {P : Nat} (h : ShP ts os P ss) : ShP ts os (P + 1) (ss ++ [(cmn (tIn ts (opo os P)) (tIn ts (opo os (P + 1))) : Int)]) := by
  refine ⟨by simp [h.1], fun p hp => ?_⟩
  rcases Nat.lt_or_ge p P with hlt | hge
  · rw [← h.2 p hlt, List.getD_eq_getElem?_getD, List.getD_eq_getElem?_getD, List.getElem?_append_left (by rw [h.1]; exact hlt)]
  · obtain rfl : p = P := by omega
    rw [List.getD_eq_getElem?_getD, List.getElem?_append_right (by rw [h.1]; exact Nat.le_refl _), h.1, Nat.sub_self]
    rfl
theorem dict_none : Dict [] [] [] := ⟨rfl, fun p h => absurd h (by simp), fun p h => absurd h (by simp), fun p q h => absurd h (by simp), fun p q _ h => absurd h (by simp), rfl, fun p h => absurd h (by simp)⟩

set_option linter.unusedSimpArgs false in
set_option linter.unusedVariables false in
set_option maxHeartbeats 16000000 in
set_option maxRecDepth 100000 in
theorem pdict (L : Option Addr) (n c : Nat) (ts : List (List Int × List Int)) (w : World) (hT : Trs w L n ts) (hn : n ≤ 10000) :
    Calls Try.prog 64 #[.slice L n c] w (DictE ts n w) := by
  obtain ⟨w0, hw0⟩ : ∃ w0, w0 = ((w.alloc (.cells #[.slice L n c] 22)).alloc (.cells #[.slice none 0 0, .slice none 0 0] 92)).alloc (.cells #[.slice none 0 0, .slice none 0 0] 92) := ⟨_, rfl⟩
  obtain ⟨hb0, m1, m2, m3, hs0⟩ := bxs3 w #[.slice L n c] #[.slice none 0 0, .slice none 0 0] #[.slice none 0 0, .slice none 0 0] 22 92 92 w0 hw0
  obtain ⟨bl, hbl⟩ : ∃ bl, bl = w.heap.size := ⟨_, rfl⟩
  obtain ⟨bd, hbd⟩ : ∃ bd, bd = w.heap.size + 1 + 1 := ⟨_, rfl⟩
  obtain ⟨z, hz⟩ : ∃ z, z = w0.heap.size := ⟨_, rfl⟩
  have HM1 := Lib.hid (fun (W : World) (h : Below bd w0 W) => m1.kept h (by omega))
  have HM2 := Lib.hid (fun (W : World) (h : Below bd w0 W) => m2.kept h (by omega))
  rw [← hbd] at m3
  have HM3 := Lib.hid m3
  have HT := Lib.hid (fun (W : World) (h : Below bd w0 W) => hT.below (hb0.trans (h.mono (by omega))))
  have HB0 := Lib.hid hb0
  have HW0 := Lib.hid hw0
  have HLT := Lib.hid hT.1
  have HBD := Lib.hid hbd
  have hbz : bd + 1 = w0.heap.size := by omega
  have HBZ := Lib.hid hbz
  have l1 := m1.cell 0
  simp at l1
  rw [hw0] at l1
  clear hw0 hb0 m1 m2 m3 hs0 hT hbl hbd hz hbz
  go_enter Try.func64, Try.ntmps64
  go_upto_region 3 with fail
  rw [← HW0.out]
  clear l1
  go_loopw [8] (fun v8 wr => ∃ (k : Nat) (O : Option Addr) (cO : Nat), v8 = .int .i64 k ∧ k ≤ n ∧ Hid (Bx wr (w.heap.size + 1 + 1) #[.slice O k cO, .slice none 0 0] 92) ∧ Hid (Owned wr w0.heap.size (.slice O k cO) (upI k)) ∧ Hid (Below bd w0 wr) ∧ Hid (w0.heap.size ≤ wr.heap.size)) (fun v8 _ => n - (intOf v8).toNat)
  case atStart => exact ⟨0, none, 0, rfl, Nat.zero_le _, Lib.hid (by rw [← HBD.out]; exact HM3.out), Lib.hid (Owned.nil _ _), Lib.hid (Below.refl _ _), Lib.hid (Nat.le_refl _)⟩
  case round =>
    obtain ⟨k, O, cO, rfl, hk, HX, HO, HBR, HZR⟩ := hrel
    by_cases hlt : k < n
    · have hkI : (k : Int) < (n : Int) := by omega
      have hx0 := HX.out.cell 0
      simp at hx0
      obtain ⟨O2, cO2, w2, hr, ho2, hb2, hk2⟩ := run_append_one HO.out (k : Int) HZR.out (by rw [upI_len]; omega)
      rw [upI_len] at hr ho2
      rw [← upI_succ] at ho2
      have hX2 := HX.out.onI hk2 (by decide)
      have hx2 := hX2.cell 0
      have hf2 := hX2.free 0
      simp at hx2
      have HXn := Lib.hid (hX2.on0 (.slice O2 (k + 1) cO2))
      have HOn := Lib.hid (ho2.keptT (hX2.keptSet (t := 3) (k := 0) (by decide) (.slice O2 (k + 1) cO2)))
      have hb3 := (hb2.mono (by have := HBZ.out; omega : bd ≤ w0.heap.size)).setCell (p := ⟨w.heap.size + 1 + 1, 0, none⟩) (by have := HBD.out; omega : bd ≤ w.heap.size + 1 + 1) (.slice O2 (k + 1) cO2)
      have HBn := Lib.hid (HBR.out.trans hb3)
      have HZn := Lib.hid (Nat.le_trans HZR.out hb3.size)
      have wk1 : IntKind.i64.wrap ((k : Int) + 1) = ((k + 1 : Nat) : Int) := by rw [IntKind.wrap_i64]; omega
      clear ho2 hb2 hk2 hX2 hb3
      go_wp2_with (at_builtin; refine Lib.wpList_append_run _ rfl _ _ _ _ rfl _ _ rfl rfl _ _ hr ?_)
      go_roundw
      case rel => exact ⟨k + 1, O2, cO2, rfl, by omega, HXn, HOn, HBn, HZn⟩
      case measure => simp [intOf]; omega
    obtain rfl : k = n := by omega
    have hkI : ¬ (k : Int) < (k : Int) := by omega
    have hx0 := HX.out.cell 0
    simp at hx0
    by_cases h0 : k = 0
    · subst h0
      obtain rfl : ts = [] := List.eq_nil_of_length_eq_zero HLT.out
      obtain ⟨g0, hg0⟩ : ∃ g0, g0 = O := ⟨_, rfl⟩
      have hnone := fun W => AnyF.slices_SortFunc_none (P := Try.prog) (ρ := Try.sortF_ren) { Try.sortF with } O cO (.func (.func 86) #[] #[.pointer (some ⟨w.heap.size, 0, none⟩)]) W
      have HNO := Lib.hid (show ∀ W, Calls Try.prog 85 #[.slice O 0 cO, .func (.func 86) #[] #[.pointer (some ⟨w.heap.size, 0, none⟩)]] W fun e w' => e = .returned (.tuple #[]) ∧ w' = W from hnone)
      have t1 := (HM1.out _ HBR.out).cell 0
      simp at t1
      have hx1 := HX.out.cell 1
      simp at hx1
      have m2 := HM2.out _ HBR.out
      have f0 := m2.free 0
      have f1 := m2.free 1
      have r0 := m2.cell 0
      have r1 := m2.cell 1
      simp at r0 r1
      have HR2 := Lib.hid (m2.set2 (.slice O 0 cO) (.slice none 0 0))
      have HBF := Lib.hid (set2B (g := w.heap.size + 1) (HB0.out.trans (HBR.out.mono (by have := HBD.out; omega))) (by omega) (.slice O 0 cO) (.slice none 0 0))
      clear hnone m2
      go_wp2_with fail
      refine (HNO.out _).mono ?_
      rintro r w5 ⟨rfl, rfl⟩
      go_wp2_with fail
      refine wp_loop_rounds 1 ?_
      rw [rounds_succ]
      go_wp2_with fail
      (try rw [Exit.noGoto_ret])
      refine bodyPost_ret (results_srt rfl _ _ (w.heap.size + 1) (.slice O 0 cO) (.slice none 0 0) rfl HR2.out) rfl ?_
      exact ⟨O, none, 0, cO, 0, [], [], rfl, dict_none, Ints.none0 O _, Ints.none0 none _, Nat.zero_le _, Nat.le_refl _, HBF.out⟩
    · obtain ⟨M, rfl⟩ : ∃ M, k = M + 1 := ⟨k - 1, by omega⟩
      obtain ⟨g, eO⟩ : ∃ g, O = some ⟨g, 0, none⟩ := by
        rcases HO.out.2 with ⟨e, h1⟩ | ⟨g, cap, cur, e, _⟩
        · rw [upI_len] at h1; omega
        · injection e with e1; exact ⟨g, e1⟩
      subst eO
      have HSO := Lib.hid (psortF M L c w.heap.size g cO w0.heap.size ts wr (fun W h => ⟨HT.out _ (HBR.out.trans (h.mono (by have := HBZ.out; omega))), by have := (HM1.out _ (HBR.out.trans (h.mono (by have := HBZ.out; omega)))).cell 0; simpa using this⟩) HO.out HZR.out (by omega))
      go_wp2_with fail
      refine HSO.out.mono ?_
      rintro r w5 ⟨rfl, b5, d', hp, hsd, o5⟩
      have hsz5 : d'.size = M + 1 := by rw [hp.1]; simp [allF]
      obtain ⟨os, hos⟩ : ∃ os, os = (toI d').toList := ⟨_, rfl⟩
      have HD5 := Lib.hid (show ∀ ss, ShP ts os M ss → Dict ts os ss from fun ss h => by rw [hos]; exact dict_of hp hsd HLT.out h.1 (by rw [← hos]; exact h.2))
      have HDP := Lib.hid (show ∀ p, p < M + 1 → 0 ≤ os.getD p 0 ∧ opo os p < M + 1 by
        intro p hp'
        have hv : os.getD p 0 = ((d'[p]!).val : Int) := by
          rw [hos, ← toI_get d' (by rw [hsz5]; exact hp'), List.getD_eq_getElem?_getD, Array.getElem?_toList, getElem!_pos _ p (by simpa [toI, hsz5] using hp'), Array.getElem?_eq_getElem (by simpa [toI, hsz5] using hp')]
          rfl
        unfold opo
        rw [hv]
        have := (d'[p]!).isLt
        omega)
      rw [← hos] at o5
      have HO5 := Lib.hid o5
      have hg5 : g < w5.heap.size := by
        rcases o5.2 with ⟨e, h1⟩ | ⟨g', cap, cur, e, _, hh, _⟩
        · cases e
        · injection e with e1
          injection e1 with e1
          injection e1 with e1
          subst e1
          exact heap_lt hh
      have hcO5 : M + 1 ≤ cO := by
        rcases o5.2 with ⟨e, h1⟩ | ⟨g', cap, cur, e, _, hh, hle, _⟩
        · cases e
        · injection e with _ e2 e3
          omega
      have HX5 := Lib.hid (HX.out.kept b5 (by have := HBZ.out; have := HBD.out; omega))
      have HB5 := Lib.hid (HBR.out.trans (b5.mono (by have := HBZ.out; omega)))
      have hz5 : w0.heap.size ≤ w5.heap.size := Nat.le_trans HZR.out b5.size
      clear hos hp hsd o5 b5 hsz5 HSO HO HX HBR
      go_wp2_with fail
      go_loopw [5] (fun v5 wq => ∃ (P : Nat) (S : Option Addr) (cS : Nat) (ss : List Int), v5 = .int .i64 ((P + 1 : Nat) : Int) ∧ P ≤ M ∧ Hid (Bx wq (w.heap.size + 1 + 1) #[.slice (some ⟨g, 0, none⟩) (M + 1) cO, .slice S P cS] 92) ∧ Hid (Owned wq w5.heap.size (.slice S P cS) ss) ∧ Hid (Owned wq w0.heap.size (.slice (some ⟨g, 0, none⟩) (M + 1) cO) os) ∧ Hid (ShP ts os P ss) ∧ Hid (Below bd w0 wq) ∧ Hid (w5.heap.size ≤ wq.heap.size)) (fun v5 _ => M + 1 - (intOf v5).toNat)
      case atStart => exact ⟨0, none, 0, [], rfl, Nat.zero_le _, HX5, Lib.hid (Owned.nil _ _), HO5, Lib.hid ⟨rfl, fun p h => absurd h (by omega)⟩, HB5, Lib.hid (Nat.le_refl _)⟩
      case round =>
        rename_i wr0
        clear HX5 HB5 HO5
        obtain ⟨P, S, cS, ss, rfl, hPM, HX, HSq, HOq, HSH, HBR, HZQ⟩ := hrel
        have t1 := (HM1.out _ HBR.out).cell 0
        simp at t1
        by_cases hlt : P < M
        · obtain ⟨o1, ho1⟩ : ∃ o1, o1 = opo os P := ⟨_, rfl⟩
          obtain ⟨o2, ho2⟩ : ∃ o2, o2 = opo os (P + 1) := ⟨_, rfl⟩
          have hr1 := HDP.out P (by omega)
          have hr2 := HDP.out (P + 1) (by omega)
          have ho1I : os.getD P 0 = (o1 : Int) := by rw [ho1]; unfold opo; omega
          have ho2I : os.getD (P + 1) 0 = (o2 : Int) := by rw [ho2]; unfold opo; omega
          have ho1n : o1 < M + 1 := by rw [ho1]; exact hr1.2
          have ho2n : o2 < M + 1 := by rw [ho2]; exact hr2.2
          have hosl : os.length = M + 1 := by obtain ⟨A', c', e⟩ := HOq.out.form; injection e with _ e2; exact e2.symm
          have hoi := HOq.out.ints (by rw [hosl]; omega)
          obtain ⟨_, _, eg, _, rO1⟩ := hoi.at_ (k := P) (by omega)
          cases eg
          obtain ⟨_, _, eg, _, rO2⟩ := hoi.at_ (k := P + 1) (by omega)
          cases eg
          rw [ho1I, Nat.zero_add] at rO1
          rw [ho2I, Nat.zero_add] at rO2
          obtain ⟨bT, oT, A1, n1, c1, A2, n2, c2, eT, hgT, j1, _, _, _, j3, _⟩ := (HT.out _ HBR.out).at_ ho1n
          subst eT
          obtain ⟨_, _, B1, m1, d1, B2, m2, d2, eT, _, i1, _, _, _, i3, _⟩ := (HT.out _ HBR.out).at_ ho2n
          cases eT
          obtain ⟨_, _, _, _, _, _, _, _, eX, hgX, _⟩ := (HT.out w0 (Below.refl _ _)).at_ ho1n
          cases eX
          have HTB := Lib.hid (Nat.lt_of_lt_of_le hgX hz5)
          clear hgX
          have HO1 := Lib.hid ho1
          have HO2 := Lib.hid ho2
          have HJ := Lib.hid (fun (W : World) (h : Below wr.heap.size wr W) => j3.below h)
          have HI := Lib.hid (fun (W : World) (h : Below wr.heap.size wr W) => i3.below h)
          have hx0 := HX.out.cell 0
          have hx1 := HX.out.cell 1
          simp at hx0 hx1
          have hxl := HX.out.lt
          have hgl : g < wr.heap.size := Nat.lt_of_lt_of_le hg5 HZQ.out
          have hwl := (HM1.out _ HBR.out).lt
          have HS := Lib.hid (show ∀ W, Below wr.heap.size wr W → W.cell? ⟨w.heap.size + 1 + 1, 1, none⟩ = some (.slice S P cS) ∧ W.cell? ⟨w.heap.size, 0, none⟩ = some (.slice (some ⟨bT, oT, none⟩) (M + 1) c) ∧ W.cell? ⟨w.heap.size + 1 + 1, 0, none⟩ = some (.slice (some ⟨g, 0, none⟩) (M + 1) cO) ∧ W.cell? ⟨g, P, none⟩ = some (.int .i64 o1) ∧ W.cell? ⟨g, P + 1, none⟩ = some (.int .i64 o2) ∧ W.cell? ⟨bT, oT + o1 * 2, none⟩ = some (.slice A1 n1 c1) ∧ W.cell? ⟨bT, oT + o2 * 2, none⟩ = some (.slice B1 m1 d1) from fun W h => ⟨(h.cell (p := ⟨w.heap.size + 1 + 1, 1, none⟩) hxl).trans hx1, (h.cell (p := ⟨w.heap.size, 0, none⟩) hwl).trans t1, (h.cell (p := ⟨w.heap.size + 1 + 1, 0, none⟩) hxl).trans hx0, (h.cell (p := ⟨g, P, none⟩) hgl).trans rO1, (h.cell (p := ⟨g, P + 1, none⟩) hgl).trans rO2, (h.cell (p := ⟨bT, oT + o1 * 2, none⟩) hgT).trans j1, (h.cell (p := ⟨bT, oT + o2 * 2, none⟩) hgT).trans i1⟩)
          have hsl : ss.length = P := HSH.out.1
          have HSL := Lib.hid hsl
          have hPI : ((P + 1 : Nat) : Int) < ((M + 1 : Nat) : Int) := by omega
          have hPI' : (P : Int) < (M : Int) := by omega
          have g0 : (0 : Int) ≤ (P : Int) := by omega
          have g1 : (P : Int) < (M : Int) + 1 := by omega
          have g2 : (0 : Int) ≤ (P : Int) + 1 := by omega
          have g3 : (P : Int) + 1 < (M : Int) + 1 := by omega
          have g4 : (0 : Int) ≤ (o1 : Int) := by omega
          have g5 : (o1 : Int) < (M : Int) + 1 := by omega
          have g6 : (0 : Int) ≤ (o2 : Int) := by omega
          have g7 : (o2 : Int) < (M : Int) + 1 := by omega
          have wP0 : IntKind.i64.wrap ((P : Int) + 1 - 1) = (P : Int) := by rw [IntKind.wrap_i64]; omega
          have wP0' : IntKind.i64.wrap (P : Int) = (P : Int) := by rw [IntKind.wrap_i64]; omega
          have wP1 : IntKind.i64.wrap ((P : Int) + 1 + 1) = ((P + 1 + 1 : Nat) : Int) := by rw [IntKind.wrap_i64]; omega
          clear ho1 ho2 hr1 hr2 ho1I ho2I hoi rO1 rO2 j1 j3 i1 i3 hgT hosl hsl
          go_upto_region 11 with fail
          clear hx0 hx1 t1
          have hbf : Below wr.heap.size wr wr.drew := below_drewN (Below.refl _ _) 1
          refine wp_region_heldX (X := fun k => ([25] : List Nat).contains k) (S := fun W => W.cell? ⟨w.heap.size + 1 + 1, 1, none⟩ = some (.slice S P cS) ∧ W.cell? ⟨w.heap.size, 0, none⟩ = some (.slice (some ⟨bT, oT, none⟩) (M + 1) c) ∧ W.cell? ⟨w.heap.size + 1 + 1, 0, none⟩ = some (.slice (some ⟨g, 0, none⟩) (M + 1) cO) ∧ W.cell? ⟨g, P, none⟩ = some (.int .i64 o1) ∧ W.cell? ⟨g, P + 1, none⟩ = some (.int .i64 o2) ∧ W.cell? ⟨bT, oT + o1 * 2, none⟩ = some (.slice A1 n1 c1) ∧ W.cell? ⟨bT, oT + o2 * 2, none⟩ = some (.slice B1 m1 d1)) (by kernel_rfl) ?_
          generalize wr.drew = wkd at hbf ⊢
          refine wpAnyX_pure (i := 0) (v := ?_) rfl (by kernel_rfl) (by kernel_rfl) (by kernel_rfl) (fun _ _ _ h => h) (Or.inl ⟨by rfl, ?_⟩) ?_
          rotate_left
          · (intro W _; go_simp; try with_reducible rfl)
          (try simp only [Act.put, List.getElem_toArray, List.getElem_cons_zero, List.getElem_cons_succ, List.setIfInBounds_toArray, List.set_cons_zero, List.set_cons_succ])
          refine wpAnyX_takeL (L := [25]) (i := 1) (v := ?_) rfl (by kernel_rfl) (by kernel_rfl) (by kernel_rfl) (by kernel_rfl) (fun _ _ _ h => h) (Or.inl ⟨by rfl, ?_⟩) (HS.out _ hbf) ?_
          rotate_left
          · (intro W hSW; (try dsimp only at hSW); obtain ⟨z0, z1, z2, z3, z4, z5, z6⟩ := hSW; go_simp; try with_reducible rfl)
          (try simp only [Act.put, List.getElem_toArray, List.getElem_cons_zero, List.getElem_cons_succ, List.setIfInBounds_toArray, List.set_cons_zero, List.set_cons_succ])
          refine wpAnyX_takeL (L := [25]) (i := 2) (v := ?_) rfl (by kernel_rfl) (by kernel_rfl) (by kernel_rfl) (by kernel_rfl) (fun _ _ _ h => h) (Or.inl ⟨by rfl, ?_⟩) (HS.out _ hbf) ?_
          rotate_left
          · (intro W hSW; (try dsimp only at hSW); obtain ⟨z0, z1, z2, z3, z4, z5, z6⟩ := hSW; go_simp; try with_reducible rfl)
          (try simp only [Act.put, List.getElem_toArray, List.getElem_cons_zero, List.getElem_cons_succ, List.setIfInBounds_toArray, List.set_cons_zero, List.set_cons_succ])
          refine wpAnyX_pure (i := 3) (v := ?_) rfl (by kernel_rfl) (by kernel_rfl) (by kernel_rfl) (fun _ _ _ h => h) (Or.inl ⟨by rfl, ?_⟩) ?_
          rotate_left
          · (intro W _; go_simp; try with_reducible rfl)
          (try simp only [Act.put, List.getElem_toArray, List.getElem_cons_zero, List.getElem_cons_succ, List.setIfInBounds_toArray, List.set_cons_zero, List.set_cons_succ])
          refine wpAnyX_takeL (L := [25]) (i := 4) (v := ?_) rfl (by kernel_rfl) (by kernel_rfl) (by kernel_rfl) (by kernel_rfl) (fun _ _ _ h => h) (Or.inl ⟨by rfl, ?_⟩) (HS.out _ hbf) ?_
          rotate_left
          · (intro W hSW; (try dsimp only at hSW); obtain ⟨z0, z1, z2, z3, z4, z5, z6⟩ := hSW; go_simp; try with_reducible rfl)
          (try simp only [Act.put, List.getElem_toArray, List.getElem_cons_zero, List.getElem_cons_succ, List.setIfInBounds_toArray, List.set_cons_zero, List.set_cons_succ])
          refine wpAnyX_pure (i := 5) (v := ?_) rfl (by kernel_rfl) (by kernel_rfl) (by kernel_rfl) (fun _ _ _ h => h) (Or.inl ⟨by rfl, ?_⟩) ?_
          rotate_left
          · (intro W _; go_simp; try with_reducible rfl)
          (try simp only [Act.put, List.getElem_toArray, List.getElem_cons_zero, List.getElem_cons_succ, List.setIfInBounds_toArray, List.set_cons_zero, List.set_cons_succ])
          refine wpAnyX_pure (i := 6) (v := ?_) rfl (by kernel_rfl) (by kernel_rfl) (by kernel_rfl) (fun _ _ _ h => h) (Or.inl ⟨by rfl, ?_⟩) ?_
          rotate_left
          · (intro W _; go_simp; try with_reducible rfl)
          (try simp only [Act.put, List.getElem_toArray, List.getElem_cons_zero, List.getElem_cons_succ, List.setIfInBounds_toArray, List.set_cons_zero, List.set_cons_succ])
          refine wpAnyX_pure (i := 7) (v := ?_) rfl (by kernel_rfl) (by kernel_rfl) (by kernel_rfl) (fun _ _ _ h => h) (Or.inl ⟨by rfl, ?_⟩) ?_
          rotate_left
          · (intro W _; go_simp; try with_reducible rfl)
          (try simp only [Act.put, List.getElem_toArray, List.getElem_cons_zero, List.getElem_cons_succ, List.setIfInBounds_toArray, List.set_cons_zero, List.set_cons_succ])
          refine wpAnyX_takeL (L := [25]) (i := 8) (v := ?_) rfl (by kernel_rfl) (by kernel_rfl) (by kernel_rfl) (by kernel_rfl) (fun _ _ _ h => h) (Or.inl ⟨by rfl, ?_⟩) (HS.out _ hbf) ?_
          rotate_left
          · (intro W hSW; (try dsimp only at hSW); obtain ⟨z0, z1, z2, z3, z4, z5, z6⟩ := hSW; go_simp; try with_reducible rfl)
          (try simp only [Act.put, List.getElem_toArray, List.getElem_cons_zero, List.getElem_cons_succ, List.setIfInBounds_toArray, List.set_cons_zero, List.set_cons_succ])
          refine wpAnyX_pure (i := 9) (v := ?_) rfl (by kernel_rfl) (by kernel_rfl) (by kernel_rfl) (fun _ _ _ h => h) (Or.inl ⟨by rfl, ?_⟩) ?_
          rotate_left
          · (intro W _; go_simp; try with_reducible rfl)
          (try simp only [Act.put, List.getElem_toArray, List.getElem_cons_zero, List.getElem_cons_succ, List.setIfInBounds_toArray, List.set_cons_zero, List.set_cons_succ])
          refine wpAnyX_pure (i := 10) (v := ?_) rfl (by kernel_rfl) (by kernel_rfl) (by kernel_rfl) (fun _ _ _ h => h) (Or.inl ⟨by rfl, ?_⟩) ?_
          rotate_left
          · (intro W _; go_simp; try with_reducible rfl)
          (try simp only [Act.put, List.getElem_toArray, List.getElem_cons_zero, List.getElem_cons_succ, List.setIfInBounds_toArray, List.set_cons_zero, List.set_cons_succ])
          refine wpAnyX_takeL (L := [25]) (i := 11) (v := ?_) rfl (by kernel_rfl) (by kernel_rfl) (by kernel_rfl) (by kernel_rfl) (fun _ _ _ h => h) (Or.inl ⟨by rfl, ?_⟩) (HS.out _ hbf) ?_
          rotate_left
          · (intro W hSW; (try dsimp only at hSW); obtain ⟨z0, z1, z2, z3, z4, z5, z6⟩ := hSW; go_simp; try with_reducible rfl)
          (try simp only [Act.put, List.getElem_toArray, List.getElem_cons_zero, List.getElem_cons_succ, List.setIfInBounds_toArray, List.set_cons_zero, List.set_cons_succ])
          refine wpAnyX_takeL (L := [25]) (i := 12) (v := ?_) rfl (by kernel_rfl) (by kernel_rfl) (by kernel_rfl) (by kernel_rfl) (fun _ _ _ h => h) (Or.inl ⟨by rfl, ?_⟩) (HS.out _ hbf) ?_
          rotate_left
          · (intro W hSW; (try dsimp only at hSW); obtain ⟨z0, z1, z2, z3, z4, z5, z6⟩ := hSW; go_simp; try with_reducible rfl)
          (try simp only [Act.put, List.getElem_toArray, List.getElem_cons_zero, List.getElem_cons_succ, List.setIfInBounds_toArray, List.set_cons_zero, List.set_cons_succ])
          refine wpAnyX_pure (i := 13) (v := ?_) rfl (by kernel_rfl) (by kernel_rfl) (by kernel_rfl) (fun _ _ _ h => h) (Or.inl ⟨by rfl, ?_⟩) ?_
          rotate_left
          · (intro W _; go_simp; try with_reducible rfl)
          (try simp only [Act.put, List.getElem_toArray, List.getElem_cons_zero, List.getElem_cons_succ, List.setIfInBounds_toArray, List.set_cons_zero, List.set_cons_succ])
          refine wpAnyX_takeL (L := [25]) (i := 14) (v := ?_) rfl (by kernel_rfl) (by kernel_rfl) (by kernel_rfl) (by kernel_rfl) (fun _ _ _ h => h) (Or.inl ⟨by rfl, ?_⟩) (HS.out _ hbf) ?_
          rotate_left
          · (intro W hSW; (try dsimp only at hSW); obtain ⟨z0, z1, z2, z3, z4, z5, z6⟩ := hSW; go_simp; try with_reducible rfl)
          (try simp only [Act.put, List.getElem_toArray, List.getElem_cons_zero, List.getElem_cons_succ, List.setIfInBounds_toArray, List.set_cons_zero, List.set_cons_succ])
          refine wpAnyX_pure (i := 15) (v := ?_) rfl (by kernel_rfl) (by kernel_rfl) (by kernel_rfl) (fun _ _ _ h => h) (Or.inl ⟨by rfl, ?_⟩) ?_
          rotate_left
          · (intro W _; go_simp; try with_reducible rfl)
          (try simp only [Act.put, List.getElem_toArray, List.getElem_cons_zero, List.getElem_cons_succ, List.setIfInBounds_toArray, List.set_cons_zero, List.set_cons_succ])
          refine wpAnyX_pure (i := 16) (v := ?_) rfl (by kernel_rfl) (by kernel_rfl) (by kernel_rfl) (fun _ _ _ h => h) (Or.inl ⟨by rfl, ?_⟩) ?_
          rotate_left
          · (intro W _; go_simp; try with_reducible rfl)
          (try simp only [Act.put, List.getElem_toArray, List.getElem_cons_zero, List.getElem_cons_succ, List.setIfInBounds_toArray, List.set_cons_zero, List.set_cons_succ])
          refine wpAnyX_takeL (L := [25]) (i := 17) (v := ?_) rfl (by kernel_rfl) (by kernel_rfl) (by kernel_rfl) (by kernel_rfl) (fun _ _ _ h => h) (Or.inl ⟨by rfl, ?_⟩) (HS.out _ hbf) ?_
          rotate_left
          · (intro W hSW; (try dsimp only at hSW); obtain ⟨z0, z1, z2, z3, z4, z5, z6⟩ := hSW; go_simp; try with_reducible rfl)
          (try simp only [Act.put, List.getElem_toArray, List.getElem_cons_zero, List.getElem_cons_succ, List.setIfInBounds_toArray, List.set_cons_zero, List.set_cons_succ])
          refine wpAnyX_pure (i := 18) (v := ?_) rfl (by kernel_rfl) (by kernel_rfl) (by kernel_rfl) (fun _ _ _ h => h) (Or.inl ⟨by rfl, ?_⟩) ?_
          rotate_left
          · (intro W _; go_simp; try with_reducible rfl)
          (try simp only [Act.put, List.getElem_toArray, List.getElem_cons_zero, List.getElem_cons_succ, List.setIfInBounds_toArray, List.set_cons_zero, List.set_cons_succ])
          refine wpAnyX_pure (i := 19) (v := ?_) rfl (by kernel_rfl) (by kernel_rfl) (by kernel_rfl) (fun _ _ _ h => h) (Or.inl ⟨by rfl, ?_⟩) ?_
          rotate_left
          · (intro W _; go_simp; try with_reducible rfl)
          (try simp only [Act.put, List.getElem_toArray, List.getElem_cons_zero, List.getElem_cons_succ, List.setIfInBounds_toArray, List.set_cons_zero, List.set_cons_succ])
          refine wpAnyX_takeL (L := [25]) (i := 20) (v := ?_) rfl (by kernel_rfl) (by kernel_rfl) (by kernel_rfl) (by kernel_rfl) (fun _ _ _ h => h) (Or.inl ⟨by rfl, ?_⟩) (HS.out _ hbf) ?_
          rotate_left
          · (intro W hSW; (try dsimp only at hSW); obtain ⟨z0, z1, z2, z3, z4, z5, z6⟩ := hSW; go_simp; try with_reducible rfl)
          (try simp only [Act.put, List.getElem_toArray, List.getElem_cons_zero, List.getElem_cons_succ, List.setIfInBounds_toArray, List.set_cons_zero, List.set_cons_succ])
          refine wpAnyX_one (i := 21) rfl (by kernel_rfl) (fun K hK => ?_)
          go_simp
          go_at_call 65
          refine (wcommon A1 B1 n1 c1 m1 d1 (tIn ts o1) (tIn ts o2) _ (HJ.out _ hbf) (HI.out _ hbf)).mono ?_
          rintro r w6 ⟨rfl, q6, rfl⟩
          have hbf := below_drewN hbf q6
          generalize wkd.drewN q6 = wk6 at hbf ⊢
          obtain ⟨x, hx⟩ : ∃ x, x = cmn (tIn ts o1) (tIn ts o2) := ⟨_, rfl⟩
          rw [← hx]
          have HXV := Lib.hid hx
          clear hx
          refine hK.out _ _ (fun _ _ => HS.out _ hbf) ?_
          (try simp only [Act.put, List.getElem_toArray, List.getElem_cons_zero, List.getElem_cons_succ, List.setIfInBounds_toArray, List.set_cons_zero, List.set_cons_succ])
          refine wpAnyX_one (i := 22) rfl (by kernel_rfl) (fun K hK => ?_)
          go_simp
          refine hK.out _ _ (fun _ _ => HS.out _ (bt hbf (alloc_below _ _))) ?_
          (try simp only [Act.put, List.getElem_toArray, List.getElem_cons_zero, List.getElem_cons_succ, List.setIfInBounds_toArray, List.set_cons_zero, List.set_cons_succ])
          refine wpAnyX_one (i := 23) rfl (by kernel_rfl) (fun K hK => ?_)
          obtain ⟨S2, cS2, w7, hr, oS2, bS2, hkS2⟩ := run_append_one (HSq.out.kept hbf) (x : Int) (Nat.le_trans HZQ.out hbf.size) (by rw [HSL.out]; omega)
          rw [HSL.out] at hr oS2
          have hX7 := (HX.out.on hbf).onI hkS2 (by decide)
          have hO7 := (HOq.out.kept hbf).keptK bS2 hg5
          have hB7 := (HBR.out.trans (hbf.mono (by have := HBR.out.size; have := HBZ.out; omega))).trans (bS2.mono (by have := HBZ.out; omega))
          have hM7 := hX7.cell 1
          have hf7 := hX7.free 1
          simp at hM7
          refine step_appE rfl _ _ _ _ rfl _ _ rfl rfl _ _ hr (hK.out _ _ (fun _ _ => ?_) ?_)
          · obtain ⟨y1, y2, y3, y4, y5, y6, y7⟩ := HS.out _ hbf
            have hgw := hg5
            refine ⟨hM7, ?_, ?_, ?_, ?_, ?_, ?_⟩
            · exact (bS2.cell (p := ⟨w.heap.size, 0, none⟩) (by show w.heap.size < _; have := HBZ.out; have := HBD.out; omega)).trans y2
            · exact (bS2.cell (p := ⟨w.heap.size + 1 + 1, 0, none⟩) (by show w.heap.size + 1 + 1 < _; have := HBZ.out; have := HBD.out; omega)).trans y3
            · exact (bS2.cell (p := ⟨g, P, none⟩) hg5).trans y4
            · exact (bS2.cell (p := ⟨g, P + 1, none⟩) hg5).trans y5
            · exact (bS2.cell (p := ⟨bT, oT + o1 * 2, none⟩) HTB.out).trans y6
            · exact (bS2.cell (p := ⟨bT, oT + o2 * 2, none⟩) HTB.out).trans y7
          (try simp only [Act.put, List.getElem_toArray, List.getElem_cons_zero, List.getElem_cons_succ, List.setIfInBounds_toArray, List.set_cons_zero, List.set_cons_succ])
          refine wpAnyX_pure (i := 24) (v := ?_) rfl (by kernel_rfl) (by kernel_rfl) (by kernel_rfl) (fun _ _ _ h => h) (Or.inl ⟨by rfl, ?_⟩) ?_
          rotate_left
          · (intro W _; go_simp; try with_reducible rfl)
          (try simp only [Act.put, List.getElem_toArray, List.getElem_cons_zero, List.getElem_cons_succ, List.setIfInBounds_toArray, List.set_cons_zero, List.set_cons_succ])
          refine wpAnyX_one (i := 25) rfl (by kernel_rfl) (fun K hK => ?_)
          go_simp
          refine hK.out _ _ (fun h => absurd h (by decide)) ?_
          (try simp only [Act.put, List.getElem_toArray, List.getElem_cons_zero, List.getElem_cons_succ, List.setIfInBounds_toArray, List.set_cons_zero, List.set_cons_succ])
          refine wpAnyX_done (by kernel_rfl) ?_ _
          have HXn := Lib.hid (hX7.on1 (.slice S2 (P + 1) cS2))
          have hks := hX7.keptSet (t := 3) (k := 1) (by decide) (.slice S2 (P + 1) cS2)
          have HSn := Lib.hid (oS2.keptT hks)
          have HOn := Lib.hid (hO7.keptT hks)
          have HSHn := Lib.hid (by have := HSH.out.snoc; rw [← HO1.out, ← HO2.out, ← HXV.out] at this; exact this)
          have hb8 := hB7.setCell (p := ⟨w.heap.size + 1 + 1, 1, none⟩) (by have := HBD.out; show bd ≤ w.heap.size + 1 + 1; omega) (.slice S2 (P + 1) cS2)
          have HBn := Lib.hid hb8
          have HZn := Lib.hid (show w5.heap.size ≤ (w7.setCell ⟨w.heap.size + 1 + 1, 1, none⟩ (.slice S2 (P + 1) cS2)).heap.size by rw [World.size_setCell]; exact Nat.le_trans HZQ.out (Nat.le_trans hbf.size bS2.size))
          clear hX7 oS2 hO7 hks hb8 hB7 bS2 hkS2 hM7 hf7 hbf
          have wdone := trivial
          go_wp2_with fail
          go_roundw
          case rel => exact ⟨P + 1, S2, cS2, _, by first | rfl | exact congrArg _ (by omega), by omega, HXn, HSn, HOn, HSHn, HBn, HZn⟩
          case measure => simp [intOf]; omega
        · obtain rfl : P = M := by omega
          have hPI : ¬ ((P + 1 : Nat) : Int) < ((P + 1 : Nat) : Int) := by omega
          have hPI' : ¬ (P : Int) < (P : Int) := by omega
          have hx0 := HX.out.cell 0
          have hx1 := HX.out.cell 1
          simp at hx0 hx1
          have m2 := HM2.out _ HBR.out
          have f0 := m2.free 0
          have f1 := m2.free 1
          have r0 := m2.cell 0
          have r1 := m2.cell 1
          simp at r0 r1
          have HR2 := Lib.hid (m2.set2 (.slice (some ⟨g, 0, none⟩) (P + 1) cO) (.slice S P cS))
          have HBF := Lib.hid (set2B (g := w.heap.size + 1) (HB0.out.trans (HBR.out.mono (by have := HBD.out; omega))) (by omega) (.slice (some ⟨g, 0, none⟩) (P + 1) cO) (.slice S P cS))
          have hk1 := m2.keptSet (t := 3) (k := 0) (by decide) (.slice (some ⟨g, 0, none⟩) (P + 1) cO)
          have hk2 := (m2.set 0 (.slice (some ⟨g, 0, none⟩) (P + 1) cO)).keptSet (t := 3) (k := 1) (by decide) (.slice S P cS)
          have HOF := Lib.hid (((HOq.out.keptT hk1).keptT hk2).ints (by have := (HD5.out ss HSH.out).ol; rw [this, HLT.out]; omega))
          have HSF := Lib.hid (((HSq.out.keptT hk1).keptT hk2).ints (by rw [HSH.out.1]; omega))
          have hcS := HSq.out.cap22
          clear m2 hk1 hk2
          go_wp2_with fail
          (try rw [Exit.noGoto_ret])
          refine bodyPost_ret (results_srt rfl _ _ (w.heap.size + 1) (.slice (some ⟨g, 0, none⟩) (P + 1) cO) (.slice S P cS) rfl HR2.out) rfl ?_
          exact ⟨some ⟨g, 0, none⟩, S, P, cO, cS, os, ss, rfl, HD5.out ss HSH.out, HOF.out, HSF.out, hcO5, hcS, HBF.out⟩
end Go.Proofs.Ytkkmcgapbcikiaa
end

section
/- Reach of a machine. -/
namespace Go.Proofs.Ytkkmcgapbcikiaa
open Go.RowKit

theorem infob : (Try.prog.info? 4).map (fun i => (i.zero, i.size, i.bytes)) = some (some (.bool false), 1, 1) := by kernel_rfl

/-- The row of the seen states. -/
def Seen (w : World) (g : Nat) (bs : List Bool) : Prop := w.heap[g]? = some (.cells (bs.map Value.bool).toArray 4 (0, 0))
theorem Seen.at_ {w : World} {g : Nat} {bs : List Bool} (h : Seen w g bs) {x : Nat} (hx : x < bs.length) : w.cell? ⟨g, x, none⟩ = some (.bool (bs.getD x false)) ∧ w.frozen? ⟨g, x, none⟩ = false := by
  refine ⟨?_, frozen_of_row w g x _ _ h⟩
  rw [cell_of_row w g x _ _ (0, 0) h]
  simp [List.getD, hx]
theorem Seen.set {w : World} {g : Nat} {bs : List Bool} (h : Seen w g bs) (x : Nat) (b : Bool) : Seen (w.setCell ⟨g, x, none⟩ (.bool b)) g (bs.set x b) := by
  have := heap_setCell_same w g x _ _ (Value.bool b) h
  unfold Seen
  rw [this]
  simp [List.map_set]
theorem Seen.of_below {w w' : World} {g : Nat} {bs : List Bool} (h : Seen w g bs) {b : Nat} (hb : Below b w w') (hg : g < b) : Seen w' g bs := (hb.block g hg).trans h

theorem made_bools (n : Nat) : madeCells (Value.bool false).cells (n * 1) = ((List.replicate n false).map Value.bool).toArray := by
  apply Array.ext'
  rw [show (Value.bool false).cells = #[Value.bool false] from rfl, Nat.mul_one, toList_madeCells_one, List.map_replicate]

/-- make([]bool, n). -/
theorem wpList_make_bools {ops : Array Oper} {rest : List Oper} {o : Oper} {a : Act} {Q : Exit → Act → World → Prop} (w : World) (hg : o.guard = none) (l c : Operand) (hop : o.op = Op.makeSlice 94 l c)
    (kl kc : IntKind) (n : Nat) (hl : a.eval l = .int kl n) (hc : a.eval c = .int kc n) (hn : n ≤ 17592186044416)
    (hK : ∀ w', Seen w' w.heap.size (List.replicate n false) → Below w.heap.size w w' → wpList Try.prog ops Q rest (a.put o.dst (.slice (some ⟨w.heap.size, 0, none⟩) n n)) w') :
    wpList Try.prog ops Q (o :: rest) a w := by
  obtain ⟨i, hi, hz0, hz1, hz2⟩ := info_parts infob
  refine wpList_plain hg fun K hK' => ?_
  have hr := run_make (P := Try.prog) w 94 4 i (.bool false) Try.underlying94 hi hz0 kl kc n n (by omega) (by omega) (by rw [hz2]; omega) (by omega)
  rw [hz1, Int.toNat_natCast, made_bools] at hr
  have hS : Seen (w.alloc (.cells ((List.replicate n false).map Value.bool).toArray 4)) w.heap.size (List.replicate n false) := heap_alloc_new w _
  have hB := alloc_below w (.cells ((List.replicate n false).map Value.bool).toArray 4)
  generalize w.alloc (.cells ((List.replicate n false).map Value.bool).toArray 4) = w' at hr hS hB
  unfold Oper.wp
  simp [execOp, hop, hl, hc, hr, Result.andThen]
  exact hK' _ _ (hK w' hS hB)

end Go.Proofs.Ytkkmcgapbcikiaa
end

section
/- Apart: the first word that shows that two words are apart. -/
namespace Go.Proofs.Ytkkmcgapbcikiaa
open Go.RowKit Go.Shelf

theorem wpAnyX_three {P : Program} {md : Region.Mode} {ops : Array Oper} {Q : Exit → Act → World → Prop} {S : World → Prop} {X : Nat → Bool} {i j k : Nat} {o u v : Oper} {fuel : Nat} {listed : Array Bool} {a : Act} {w : World} (ho : ops[i]? = some o) (hu : ops[j]? = some u) (hv : ops[k]? = some v) (hr : Region.ready md ops listed = [i, j, k])
    (h : ∀ K' : Act → World → Prop, Shut (∀ a w', (X i = false → S w → S w') → wpAnyX P md ops Q S X fuel (listed.setIfInBounds i true) a w' → K' a w') → if Region.wanted o (yielded ops a.tmps) = true then Oper.wp P o a w K' Q else K' (a.put o.dst undef) w)
    (h2 : ∀ K' : Act → World → Prop, Shut (∀ a w', (X j = false → S w → S w') → wpAnyX P md ops Q S X fuel (listed.setIfInBounds j true) a w' → K' a w') → if Region.wanted u (yielded ops a.tmps) = true then Oper.wp P u a w K' Q else K' (a.put u.dst undef) w)
    (h3 : ∀ K' : Act → World → Prop, Shut (∀ a w', (X k = false → S w → S w') → wpAnyX P md ops Q S X fuel (listed.setIfInBounds k true) a w' → K' a w') → if Region.wanted v (yielded ops a.tmps) = true then Oper.wp P v a w K' Q else K' (a.put v.dst undef) w) : wpAnyX P md ops Q S X (fuel + 1) listed a w := by
  refine ⟨fun h0 => ?_, fun l hl => ?_⟩
  · rw [hr] at h0; cases h0
  · rw [hr] at hl
    rcases List.mem_cons.1 hl with rfl | hl
    · exact wpOp_step ho (fun K' hK => h K' (fun a w hS hW => hK a w ⟨hS, hW⟩))
    · rcases List.mem_cons.1 hl with rfl | hl
      · exact wpOp_step hu (fun K' hK => h2 K' (fun a w hS hW => hK a w ⟨hS, hW⟩))
      · obtain rfl := List.mem_singleton.1 hl
        exact wpOp_step hv (fun K' hK => h3 K' (fun a w hS hW => hK a w ⟨hS, hW⟩))

/-- The two boxes behind the first statement. -/
def ApR (w1 : World) (i : Int) (F M : List (List Int × List Int)) (v9 v10 : Value) (wx : World) : Prop :=
  ∃ (g9 g10 : Nat) (A B : Option Addr) (c d : Nat), v9 = .pointer (some ⟨g9, 0, none⟩) ∧ v10 = .pointer (some ⟨g10, 0, none⟩) ∧ Bx wx g9 #[.int .i64 i, .slice A F.length c] 24 ∧ Bx wx g10 #[.int .i64 i, .slice B M.length d] 24 ∧
    Trs wx A F.length F ∧ Trs wx B M.length M ∧ M.length ≤ d ∧ Below w1.heap.size w1 wx
/-- The result of Apart. -/
def ApE (P Q : List (List Int × List Int)) (w : World) (r : Ending) (w' : World) : Prop :=
  ∃ (A' : Option Addr) (n' c' : Nat) (xs : List Int), r = .returned (.tuple #[.slice A' n' c', .bool (!A'.isNone)]) ∧ Fst1 (ShK P Q P.length) xs ∧ Ints w' A' n' xs ∧ (A' = none ↔ xs = []) ∧ Below w.heap.size w w'

end Go.Proofs.Ytkkmcgapbcikiaa
end
