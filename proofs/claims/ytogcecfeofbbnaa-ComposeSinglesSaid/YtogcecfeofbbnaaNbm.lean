/- Lemmas of the proofs of this seat, of the parts Gcw, Rst14, Rpr14, Gcx. Conditions: none. -/
import Derived.Test.YtogcecfeofbbnaaNad
import Derived.Test.YtogcecfeofbbnaaNac
import Derived.Test.YtogcecfeofbbnaaNah
import Derived.BigRegion
import Derived.Deep.RegionHeld3
import Derived.WalkMore
import Derived.Test.YtogcecfeofbbnaaNbf
import Derived.Test.YtogcecfeofbbnaaNag
import Derived.BigQuiet
import Derived.Deep.QuietTactic
section
/- Four rows of numbers that grow apart from one another; the lengths of what Parallel's law takes apart. -/
namespace Go.Proofs.Ytogcecfeofbbnaa
open Go.RowKit

theorem Apart.movedO {w : World} {base : Nat} {v v' u : Value} {xs : List Int} (h : Apart v u) (hm : Moved w v v') (hu : Owned w base u xs) : Apart v' u := by
  rcases hm with e | ⟨g, hg, e⟩
  · intro k hk; rw [e] at hk; exact h k hk
  · intro k hk h2
    rw [e] at hk
    injection hk with hk
    have := (hu.lt k h2).2
    omega
structure Four (W : World) (base : Nat) (a b c d : Value) (xa xb xc xd : List Int) : Prop where
  oa : Owned W base a xa
  ob : Owned W base b xb
  oc : Owned W base c xc
  od : Owned W base d xd
  ab : Apart a b
  ac : Apart a c
  ad : Apart a d
  bc : Apart b c
  bd : Apart b d
  cd : Apart c d
section
variable {W W' : World} {base : Nat} {a b c d : Value} {xa xb xc xd : List Int}
theorem Four.nil (W : World) (base : Nat) : Four W base (.slice none 0 0) (.slice none 0 0) (.slice none 0 0) (.slice none 0 0) [] [] [] [] :=
  ⟨Owned.nil _ _, Owned.nil _ _, Owned.nil _ _, Owned.nil _ _, Apart.nil _, Apart.nil _, Apart.nil _, Apart.nil _, Apart.nil _, Apart.nil _⟩
theorem Four.kept (h : Four W base a b c d xa xb xc xd) (hb : Below W.heap.size W W') : Four W' base a b c d xa xb xc xd :=
  ⟨h.oa.kept hb, h.ob.kept hb, h.oc.kept hb, h.od.kept hb, h.ab, h.ac, h.ad, h.bc, h.bd, h.cd⟩
theorem Four.swapB (h : Four W base a b c d xa xb xc xd) : Four W base b a c d xb xa xc xd := ⟨h.ob, h.oa, h.oc, h.od, h.ab.symm, h.bc, h.bd, h.ac, h.ad, h.cd⟩
theorem Four.swapC (h : Four W base a b c d xa xb xc xd) : Four W base c b a d xc xb xa xd := ⟨h.oc, h.ob, h.oa, h.od, h.bc.symm, h.ac.symm, h.cd, h.ab.symm, h.bd, h.ad⟩
theorem Four.swapD (h : Four W base a b c d xa xb xc xd) : Four W base d b c a xd xb xc xa := ⟨h.od, h.ob, h.oc, h.oa, h.bd.symm, h.cd.symm, h.ad.symm, h.bc, h.ab.symm, h.ac.symm⟩
theorem Four.app (h : Four W base a b c d xa xb xc xd) (x : Int) (hbase : base ≤ W.heap.size) (hl : xa.length < 1759218604441) :
    ∃ A k w', (Builtin.append_ #[27, 27] 27 #[a, .slice (some ⟨W.heap.size, 0, none⟩) 1 1]).run Try.prog (W.alloc (.cells #[.int .i64 x] 3)) = .ok (.slice A (xa.length + 1) k) w' ∧
      Four w' base (.slice A (xa.length + 1) k) b c d (xa ++ [x]) xb xc xd ∧ Below base W w' := by
  obtain ⟨A, k, w', hr, o, hb, _, hk, hm⟩ := run_append_oneB h.oa x hbase hl
  exact ⟨A, k, w', hr, ⟨o, h.ob.keptB hk h.ab, h.oc.keptB hk h.ac, h.od.keptB hk h.ad, h.ab.movedO hm h.ob, h.ac.movedO hm h.oc, h.ad.movedO hm h.od, h.bc, h.bd, h.cd⟩, hb⟩
end
theorem paU_len (i : Nat) (w : List Int) : (paU i w).length ≤ w.length := List.length_filter_le _ _
theorem paV_len (i : Nat) : ∀ w : List Int, (paV i w).length ≤ w.length
  | [] => Nat.le_refl _
  | x :: w => by
    have := paV_len i w
    show (if x < (i : Int) then paV i w else (x - i) :: paV i w).length ≤ w.length + 1
    split <;> (first | (simp only [List.length_cons]; omega) | omega)
theorem paA_len (i : Nat) : ∀ w z : List Int, (paA i w z).length ≤ w.length
  | [], [] => Nat.le_refl _
  | [], _ :: _ => Nat.le_refl _
  | _ :: _, [] => Nat.zero_le _
  | x :: w, y :: z => by
    have := paA_len i w z
    show (if x < (i : Int) then y :: paA i w z else paA i w z).length ≤ w.length + 1
    split <;> (first | (simp only [List.length_cons]; omega) | omega)
theorem paB_len (i g : Nat) : ∀ w z : List Int, (paB i g w z).length ≤ w.length
  | [], [] => Nat.le_refl _
  | [], _ :: _ => Nat.le_refl _
  | _ :: _, [] => Nat.zero_le _
  | x :: w, y :: z => by
    have := paB_len i g w z
    show (if x < (i : Int) then paB i g w z else (y - 1 - g) :: paB i g w z).length ≤ w.length + 1
    split <;> (first | (simp only [List.length_cons]; omega) | omega)
/-- One symbol more. -/
theorem pa_next {i g j : Nat} {xs z : List Int} (hj : j < xs.length) (hz : xs.length = z.length) :
    paU i (xs.take (j + 1)) = (if xs.getD j 0 < (i : Int) then paU i (xs.take j) ++ [xs.getD j 0] else paU i (xs.take j)) ∧
    paV i (xs.take (j + 1)) = (if xs.getD j 0 < (i : Int) then paV i (xs.take j) else paV i (xs.take j) ++ [xs.getD j 0 - i]) ∧
    paA i (xs.take (j + 1)) (z.take (j + 1)) = (if xs.getD j 0 < (i : Int) then paA i (xs.take j) (z.take j) ++ [z.getD j 0] else paA i (xs.take j) (z.take j)) ∧
    paB i g (xs.take (j + 1)) (z.take (j + 1)) = (if xs.getD j 0 < (i : Int) then paB i g (xs.take j) (z.take j) else paB i g (xs.take j) (z.take j) ++ [z.getD j 0 - 1 - g]) := by
  have e1 : xs.take (j + 1) = xs.take j ++ [xs.getD j 0] := by rw [take_next hj, List.getD_eq_getElem?_getD]
  have e2 : z.take (j + 1) = z.take j ++ [z.getD j 0] := by rw [take_next (show j < z.length by omega), List.getD_eq_getElem?_getD]
  have hl : (xs.take j).length = (z.take j).length := by rw [List.length_take, List.length_take, hz]
  rw [e1, e2]
  exact ⟨paU_app _ _, paV_app _ _, paA_app _ _ _ _ hl, paB_app _ _ _ _ hl⟩
end Go.Proofs.Ytogcecfeofbbnaa
end

section
/- step of the reference. -/
namespace Go.Proofs.Ytogcecfeofbbnaa
open Go.RowKit

/-- A number in a table. -/
theorem Lists.two {w : World} {A : Option Addr} {n s i a : Nat} {xss : List (List Int)} (h : Lists w A n xss) (hs : s < n) (hr : (xss.getD s []).length = i) (ha : a < i) :
    ∃ g o h k c, A = some ⟨g, o, none⟩ ∧ g < w.heap.size ∧ w.cell? ⟨g, o + s, none⟩ = some (.slice (some ⟨h, k, none⟩) i c) ∧ h < w.heap.size ∧ w.cell? ⟨h, k + a, none⟩ = some (.int .i64 ((xss.getD s []).getD a 0)) := by
  obtain ⟨g, o, A1, n1, c1, rfl, l1, hd1, hr1⟩ := h.at_ hs
  obtain rfl : i = n1 := by rw [← hr1.1]; exact hr.symm
  obtain ⟨h1, k1, rfl, l2, hd2⟩ := hr1.at_ ha
  exact ⟨g, o, h1, k1, c1, rfl, l1, hd1, l2, hd2⟩
def stpV (y : Nat × Nat) (z : Nat) : Value := .agg #[.int .i64 (y.1 : Nat), .int .i64 (y.2 : Nat), .int .i64 z]
theorem set3_blk {W : World} {g : Nat} {x y z : Value} {t : TypeId} (h : W.heap[g]? = some (.cells #[x, y, z] t (0, 0))) (a b c : Value) : (((W.setCell ⟨g, 0, none⟩ a).setCell ⟨g, 1, none⟩ b).setCell ⟨g, 2, none⟩ c).heap[g]? = some (.cells #[a, b, c] t (0, 0)) :=
  heap_setCell_same _ g 2 _ _ c (heap_setCell_same _ g 1 _ _ b (heap_setCell_same W g 0 _ _ a h))
theorem below_sv3 {z g : Nat} {w W : World} {a b c : Value} (hz : z ≤ g) (h : Below z w W) : Below z w (((W.setCell ⟨g, 0, none⟩ a).setCell ⟨g, 1, none⟩ b).setCell ⟨g, 2, none⟩ c) :=
  ((h.setCell (p := ⟨g, 0, none⟩) hz a).setCell (p := ⟨g, 1, none⟩) hz b).setCell (p := ⟨g, 2, none⟩) hz c
set_option linter.unusedSimpArgs false in
set_option linter.unusedVariables false in
set_option maxHeartbeats 8000000 in
set_option maxRecDepth 100000 in
theorem rstepP (i st n i' st' n' p q x : Nat) (A B A' B' : Option Addr) (c d c' d' : Nat) (nx ot nx' ot' : List (List Int)) (w : World) (hx : Lists w A n nx) (ho : Lists w B n ot) (hx' : Lists w A' n' nx') (ho' : Lists w B' n' ot') (hM : Mok i st n nx ot) (hM' : Mok i' st' n' nx' ot') (hp : p < n) (hq : q < n') (hxi : x < i) (hxb : x < i') :
    Calls Try.prog 105 #[.agg #[.int .i64 i, .int .i64 st, .slice A n c, .slice B n d], .agg #[.int .i64 i', .int .i64 st', .slice A' n' c', .slice B' n' d'], .int .i64 1, .int .i64 p, .int .i64 q, .int .i64 x] w fun e w' => e = .returned (stpV (nN nx p x, nN nx' q x) (oM ot p x * (1 + grt ot') + oM ot' q x)) ∧ Below w.heap.size w w' := by
  show Calls _ _ _ _ fun e w' => e = .returned (.agg #[.int .i64 (nN nx p x : Nat), .int .i64 (nN nx' q x : Nat), .int .i64 (oM ot p x * (1 + grt ot') + oM ot' q x : Nat)]) ∧ Below w.heap.size w w'
  obtain ⟨w0, hw0, hb0, hG, hG', hz0⟩ := pair_boxesM w i st i' st' A B A' B' n c n d n' c' n' d'
  obtain ⟨ga, oa, ha, ka, ca, rfl, la, da, ma, va⟩ := hx.two (s := p) (a := x) hp (hM.row p hp).1 hxi
  have va : w.cell? ⟨ha, ka + x, none⟩ = some (.int .i64 (nN nx p x : Nat)) := by rw [va, hM.nN_eq hp hxi]
  obtain ⟨gb, ob, hb, kb, cb, rfl, lb, db, mb, vb⟩ := ho.two (s := p) (a := x) hp (hM.row p hp).2.1 hxi
  have vb : w.cell? ⟨hb, kb + x, none⟩ = some (.int .i64 (oM ot p x : Nat)) := vb.trans (by rw [show (ot.getD p []).getD x 0 = (oM ot p x : Int) from hM.oM_eq hp hxi])
  obtain ⟨gc, oc, hc, kc, cc, rfl, lc, dc, mc, vc⟩ := hx'.two (s := q) (a := x) hq (hM'.row q hq).1 hxb
  have vc : w.cell? ⟨hc, kc + x, none⟩ = some (.int .i64 (nN nx' q x : Nat)) := by rw [vc, hM'.nN_eq hq hxb]
  obtain ⟨gd, od, hd, kd, cd, rfl, ld, dd, md, vd⟩ := ho'.two (s := q) (a := x) hq (hM'.row q hq).2.1 hxb
  have vd : w.cell? ⟨hd, kd + x, none⟩ = some (.int .i64 (oM ot' q x : Nat)) := vd.trans (by rw [show (ot'.getD q []).getD x 0 = (oM ot' q x : Int) from hM'.oM_eq hq hxb])
  have HS := Lib.hid (show ∀ W : World, Below w0.heap.size w0 W → W.cell? ⟨w.heap.size, 2, none⟩ = some (.slice (some ⟨ga, oa, none⟩) n c) ∧ W.cell? ⟨w.heap.size, 3, none⟩ = some (.slice (some ⟨gb, ob, none⟩) n d) ∧ W.cell? ⟨w.heap.size + 1, 0, none⟩ = some (.int .i64 i') ∧ W.cell? ⟨w.heap.size + 1, 1, none⟩ = some (.int .i64 st') ∧ W.cell? ⟨w.heap.size + 1, 2, none⟩ = some (.slice (some ⟨gc, oc, none⟩) n' c') ∧ W.cell? ⟨w.heap.size + 1, 3, none⟩ = some (.slice (some ⟨gd, od, none⟩) n' d') ∧ W.cell? ⟨ga, oa + p, none⟩ = some (.slice (some ⟨ha, ka, none⟩) i ca) ∧ W.cell? ⟨ha, ka + x, none⟩ = some (.int .i64 (nN nx p x : Nat)) ∧ W.cell? ⟨gb, ob + p, none⟩ = some (.slice (some ⟨hb, kb, none⟩) i cb) ∧ W.cell? ⟨hb, kb + x, none⟩ = some (.int .i64 (oM ot p x : Nat)) ∧ W.cell? ⟨gc, oc + q, none⟩ = some (.slice (some ⟨hc, kc, none⟩) i' cc) ∧ W.cell? ⟨hc, kc + x, none⟩ = some (.int .i64 (nN nx' q x : Nat)) ∧ W.cell? ⟨gd, od + q, none⟩ = some (.slice (some ⟨hd, kd, none⟩) i' cd) ∧ W.cell? ⟨hd, kd + x, none⟩ = some (.int .i64 (oM ot' q x : Nat)) from fun W h => by
    obtain ⟨b0, b1, b2, b3, _⟩ := (hG.on h).cells
    obtain ⟨e0, e1, e2, e3, _⟩ := (hG'.on h).cells
    exact ⟨b2, b3, e0, e1, e2, e3, ((hb0.trans (h.mono hb0.size)).cell (p := ⟨ga, oa + p, none⟩) la).trans da, ((hb0.trans (h.mono hb0.size)).cell (p := ⟨ha, ka + x, none⟩) ma).trans va, ((hb0.trans (h.mono hb0.size)).cell (p := ⟨gb, ob + p, none⟩) lb).trans db, ((hb0.trans (h.mono hb0.size)).cell (p := ⟨hb, kb + x, none⟩) mb).trans vb, ((hb0.trans (h.mono hb0.size)).cell (p := ⟨gc, oc + q, none⟩) lc).trans dc, ((hb0.trans (h.mono hb0.size)).cell (p := ⟨hc, kc + x, none⟩) mc).trans vc, ((hb0.trans (h.mono hb0.size)).cell (p := ⟨gd, od + q, none⟩) ld).trans dd, ((hb0.trans (h.mono hb0.size)).cell (p := ⟨hd, kd + x, none⟩) md).trans vd⟩)
  obtain ⟨w1, hw1⟩ : ∃ w1, w1 = w0.alloc (.cells #[.int .i64 0, .int .i64 0, .int .i64 0] 131) := ⟨_, rfl⟩
  have hb1 : Below w0.heap.size w0 w1 := by rw [hw1]; exact alloc_below _ _
  have hR : w1.heap[w.heap.size + 2]? = some (.cells #[.int .i64 0, .int .i64 0, .int .i64 0] 131 (0, 0)) := by
    rw [hw1, ← hz0]; exact heap_alloc_new w0 _
  have HZ0 := Lib.hid hz0
  have HB0 := Lib.hid hb0
  have HB1 := Lib.hid hb1
  have HRc := Lib.hid (show ∀ W : World, Below w1.heap.size w1 W → W.heap[w.heap.size + 2]? = some (.cells #[.int .i64 0, .int .i64 0, .int .i64 0] 131 (0, 0)) from fun W h => (h.block _ (heap_lt hR)).trans hR)
  have HW1 := Lib.hid (hw1.trans (by rw [hw0]))
  have HX := Lib.hid (fun (W : World) (h : Below w0.heap.size w0 W) => (hx'.below hb0).below h)
  have HO := Lib.hid (fun (W : World) (h : Below w0.heap.size w0 W) => (ho'.below hb0).below h)
  have HXa := Lib.hid (fun (W : World) (h : Below w0.heap.size w0 W) => (hx.below hb0).below h)
  have HOa := Lib.hid (fun (W : World) (h : Below w0.heap.size w0 W) => (ho.below hb0).below h)
  have HM := Lib.hid hM
  have HM' := Lib.hid hM'
  obtain ⟨G, hG9⟩ : ∃ G, G = grt ot' := ⟨_, rfl⟩
  have hGl : G ≤ 1048576 := by rw [hG9]; exact hM'.grt_le
  have HG9 := Lib.hid hG9
  obtain ⟨a1, ha1⟩ : ∃ a1, a1 = nN nx p x := ⟨_, rfl⟩
  obtain ⟨o1, ho1⟩ : ∃ o1, o1 = oM ot p x := ⟨_, rfl⟩
  obtain ⟨a2, ha2⟩ : ∃ a2, a2 = nN nx' q x := ⟨_, rfl⟩
  obtain ⟨o2, ho2⟩ : ∃ o2, o2 = oM ot' q x := ⟨_, rfl⟩
  have lo1 : o1 ≤ 1048576 := by rw [ho1]; exact hM.oM_le hp hxi
  have lo2 : o2 ≤ 1048576 := by rw [ho2]; exact hM'.oM_le hq hxb
  rw [← ha1, ← ho1, ← ha2, ← ho2] at HS ⊢
  rw [← hG9]
  obtain ⟨wd, hwd⟩ : ∃ wd, wd = 1 + G := ⟨_, rfl⟩
  obtain ⟨m, hm⟩ : ∃ m, m = o1 * wd := ⟨_, rfl⟩
  have hml : m ≤ 1048576 * 1048577 := by rw [hm]; exact Nat.mul_le_mul lo1 (by omega)
  obtain ⟨z, hz⟩ : ∃ z, z = m + o2 := ⟨_, rfl⟩
  rw [← hwd, ← hm, ← hz]
  have w1' : IntKind.i64.wrap (1 + (G : Int)) = (wd : Int) := by rw [show (1 : Int) + (G : Int) = (wd : Int) by omega]; exact IntWalk.i64_in _ (by omega)
  have w2' : IntKind.i64.wrap ((o1 : Int) * (wd : Int)) = (m : Int) := by
    have : (o1 : Int) * (wd : Int) = (m : Int) := by rw [hm]; exact (Int.natCast_mul o1 wd).symm
    rw [this]; exact IntWalk.i64_in _ (by omega)
  have w3' : IntKind.i64.wrap ((m : Int) + (o2 : Int)) = (z : Int) := by
    have : (m : Int) + (o2 : Int) = (z : Int) := by omega
    rw [this]; exact IntWalk.i64_in _ (by omega)
  have u0 : (0 : Int) ≤ (p : Int) := by omega
  have u1 : (p : Int) < (n : Int) := by omega
  have u2 : (0 : Int) ≤ (q : Int) := by omega
  have u3 : (q : Int) < (n' : Int) := by omega
  have u4 : (0 : Int) ≤ (x : Int) := by omega
  have u5 : (x : Int) < (i : Int) := by omega
  have u6 : (0 : Int) ≤ (x : Int) := by omega
  have u7 : (x : Int) < (i' : Int) := by omega
  clear ha1 ho1 ha2 ho2 hwd hm hz hG9 hml lo1 lo2
  obtain ⟨s0, s1, s2, s3, s4, s5, s6, s7, s8, s9, s10, s11, s12, s13⟩ := HS.out _ hb1
  rw [HW1.out] at s0 s1 s2 s3 s4 s5 s6 s7 s8 s9 s10 s11 s12 s13
  have hbc : Below w0.heap.size w0 w1.drew := below_drewN hb1 1
  have hbd : Below w1.heap.size w1 w1.drew := below_drewN (Below.refl _ _) 1
  clear hw0 hG hG' hw1 hb1 hR hx ho hx' ho' hM hM' hb0 hz0 da la ma va db lb mb vb dc lc mc vc dd ld md vd
  go_enter Try.func105, Try.ntmps105
  go_wp2_with fail
  rw [← HW1.out]
  clear s0 s1 s2 s3 s4 s5 s6 s7 s8 s9 s10 s11 s12 s13
  go_region_held3 (fun W => W.cell? ⟨w.heap.size, 2, none⟩ = some (.slice (some ⟨ga, oa, none⟩) n c) ∧ W.cell? ⟨w.heap.size, 3, none⟩ = some (.slice (some ⟨gb, ob, none⟩) n d) ∧ W.cell? ⟨w.heap.size + 1, 0, none⟩ = some (.int .i64 i') ∧ W.cell? ⟨w.heap.size + 1, 1, none⟩ = some (.int .i64 st') ∧ W.cell? ⟨w.heap.size + 1, 2, none⟩ = some (.slice (some ⟨gc, oc, none⟩) n' c') ∧ W.cell? ⟨w.heap.size + 1, 3, none⟩ = some (.slice (some ⟨gd, od, none⟩) n' d') ∧ W.cell? ⟨ga, oa + p, none⟩ = some (.slice (some ⟨ha, ka, none⟩) i ca) ∧ W.cell? ⟨ha, ka + x, none⟩ = some (.int .i64 (a1 : Nat)) ∧ W.cell? ⟨gb, ob + p, none⟩ = some (.slice (some ⟨hb, kb, none⟩) i cb) ∧ W.cell? ⟨hb, kb + x, none⟩ = some (.int .i64 (o1 : Nat)) ∧ W.cell? ⟨gc, oc + q, none⟩ = some (.slice (some ⟨hc, kc, none⟩) i' cc) ∧ W.cell? ⟨hc, kc + x, none⟩ = some (.int .i64 (a2 : Nat)) ∧ W.cell? ⟨gd, od + q, none⟩ = some (.slice (some ⟨hd, kd, none⟩) i' cd) ∧ W.cell? ⟨hd, kd + x, none⟩ = some (.int .i64 (o2 : Nat)))
    (first | exact HS.out _ hbc | exact HS.out _ (below_sv3 (by have := HZ0.out; omega) hbc))
    ((go_at_call 44; refine (rgreatest i' st' n' (some ⟨gc, oc, none⟩) (some ⟨gd, od, none⟩) c' d' nx' ot' _ (HX.out _ hbc) (HO.out _ hbc) HM'.out).mono ?_; rintro e w9 ⟨rfl, b9⟩; rw [← HG9.out]; have hbc := bt hbc b9; have hbd := bt hbd b9; have hq := HRc.out _ hbd; have y0 := cell_of_row _ (w.heap.size + 2) 0 _ _ (0, 0) hq; have y1 := cell_of_row _ (w.heap.size + 2) 1 _ _ (0, 0) hq; have y2 := cell_of_row _ (w.heap.size + 2) 2 _ _ (0, 0) hq; have z0 := frozen_of_row _ (w.heap.size + 2) 0 _ _ hq; have z1 := frozen_of_row _ (w.heap.size + 2) 1 _ _ hq; have z2 := frozen_of_row _ (w.heap.size + 2) 2 _ _ hq))
  have h3 := set3_blk hq (.int .i64 (a1 : Nat)) (.int .i64 (a2 : Nat)) (.int .i64 (z : Nat))
  have hb4 := below_sv3 (g := w.heap.size + 2) (a := .int .i64 (a1 : Nat)) (b := .int .i64 (a2 : Nat)) (c := .int .i64 (z : Nat)) (by omega) (bt HB0.out hbc)
  clear y0 y1 y2 z0 z1 z2 hq
  go_wp2_with fail
  refine bodyPost_ret (results_cell_row (by rfl) _ _ (w.heap.size + 2) 131 _ (0, 0) _ rfl h3 Try.underlying131 rfl (by kernel_rfl)) rfl ?_
  exact ⟨rfl, hb4⟩
set_option linter.unusedSimpArgs false in
set_option linter.unusedVariables false in
set_option maxHeartbeats 8000000 in
set_option maxRecDepth 100000 in
theorem rstepL (i st n i' st' n' p q x : Nat) (A B A' B' : Option Addr) (c d c' d' : Nat) (nx ot nx' ot' : List (List Int)) (w : World) (hx : Lists w A n nx) (ho : Lists w B n ot) (hx' : Lists w A' n' nx') (ho' : Lists w B' n' ot') (hM : Mok i st n nx ot) (hM' : Mok i' st' n' nx' ot') (hp : p < n) (hq : q < n') (hxi : x < i) :
    Calls Try.prog 105 #[.agg #[.int .i64 i, .int .i64 st, .slice A n c, .slice B n d], .agg #[.int .i64 i', .int .i64 st', .slice A' n' c', .slice B' n' d'], .int .i64 2, .int .i64 p, .int .i64 q, .int .i64 x] w fun e w' => e = .returned (stpV (nN nx p x, q) (oM ot p x)) ∧ Below w.heap.size w w' := by
  show Calls _ _ _ _ fun e w' => e = .returned (.agg #[.int .i64 (nN nx p x : Nat), .int .i64 (q : Nat), .int .i64 (oM ot p x : Nat)]) ∧ Below w.heap.size w w'
  obtain ⟨w0, hw0, hb0, hG, hG', hz0⟩ := pair_boxesM w i st i' st' A B A' B' n c n d n' c' n' d'
  obtain ⟨ga, oa, ha, ka, ca, rfl, la, da, ma, va⟩ := hx.two (s := p) (a := x) hp (hM.row p hp).1 hxi
  have va : w.cell? ⟨ha, ka + x, none⟩ = some (.int .i64 (nN nx p x : Nat)) := by rw [va, hM.nN_eq hp hxi]
  obtain ⟨gb, ob, hb, kb, cb, rfl, lb, db, mb, vb⟩ := ho.two (s := p) (a := x) hp (hM.row p hp).2.1 hxi
  have vb : w.cell? ⟨hb, kb + x, none⟩ = some (.int .i64 (oM ot p x : Nat)) := vb.trans (by rw [show (ot.getD p []).getD x 0 = (oM ot p x : Int) from hM.oM_eq hp hxi])
  have HS := Lib.hid (show ∀ W : World, Below w0.heap.size w0 W → W.cell? ⟨w.heap.size, 0, none⟩ = some (.int .i64 i) ∧ W.cell? ⟨w.heap.size, 2, none⟩ = some (.slice (some ⟨ga, oa, none⟩) n c) ∧ W.cell? ⟨w.heap.size, 3, none⟩ = some (.slice (some ⟨gb, ob, none⟩) n d) ∧ W.cell? ⟨ga, oa + p, none⟩ = some (.slice (some ⟨ha, ka, none⟩) i ca) ∧ W.cell? ⟨ha, ka + x, none⟩ = some (.int .i64 (nN nx p x : Nat)) ∧ W.cell? ⟨gb, ob + p, none⟩ = some (.slice (some ⟨hb, kb, none⟩) i cb) ∧ W.cell? ⟨hb, kb + x, none⟩ = some (.int .i64 (oM ot p x : Nat)) from fun W h => by
    obtain ⟨b0, b1, b2, b3, _⟩ := (hG.on h).cells
    obtain ⟨e0, e1, e2, e3, _⟩ := (hG'.on h).cells
    exact ⟨b0, b2, b3, ((hb0.trans (h.mono hb0.size)).cell (p := ⟨ga, oa + p, none⟩) la).trans da, ((hb0.trans (h.mono hb0.size)).cell (p := ⟨ha, ka + x, none⟩) ma).trans va, ((hb0.trans (h.mono hb0.size)).cell (p := ⟨gb, ob + p, none⟩) lb).trans db, ((hb0.trans (h.mono hb0.size)).cell (p := ⟨hb, kb + x, none⟩) mb).trans vb⟩)
  obtain ⟨w1, hw1⟩ : ∃ w1, w1 = w0.alloc (.cells #[.int .i64 0, .int .i64 0, .int .i64 0] 131) := ⟨_, rfl⟩
  have hb1 : Below w0.heap.size w0 w1 := by rw [hw1]; exact alloc_below _ _
  have hR : w1.heap[w.heap.size + 2]? = some (.cells #[.int .i64 0, .int .i64 0, .int .i64 0] 131 (0, 0)) := by
    rw [hw1, ← hz0]; exact heap_alloc_new w0 _
  have HZ0 := Lib.hid hz0
  have HB0 := Lib.hid hb0
  have HB1 := Lib.hid hb1
  have HRc := Lib.hid (show ∀ W : World, Below w1.heap.size w1 W → W.heap[w.heap.size + 2]? = some (.cells #[.int .i64 0, .int .i64 0, .int .i64 0] 131 (0, 0)) from fun W h => (h.block _ (heap_lt hR)).trans hR)
  have HW1 := Lib.hid (hw1.trans (by rw [hw0]))
  have HX := Lib.hid (fun (W : World) (h : Below w0.heap.size w0 W) => (hx'.below hb0).below h)
  have HO := Lib.hid (fun (W : World) (h : Below w0.heap.size w0 W) => (ho'.below hb0).below h)
  have HXa := Lib.hid (fun (W : World) (h : Below w0.heap.size w0 W) => (hx.below hb0).below h)
  have HOa := Lib.hid (fun (W : World) (h : Below w0.heap.size w0 W) => (ho.below hb0).below h)
  have HM := Lib.hid hM
  have HM' := Lib.hid hM'
  obtain ⟨a1, ha1⟩ : ∃ a1, a1 = nN nx p x := ⟨_, rfl⟩
  obtain ⟨o1, ho1⟩ : ∃ o1, o1 = oM ot p x := ⟨_, rfl⟩
  rw [← ha1, ← ho1] at HS ⊢
  have t1 : decide ((x : Int) < (i : Int)) = true := by simp; omega
  have t2 : decide (x < i) = true := by simp; omega
  have u0 : (0 : Int) ≤ (p : Int) := by omega
  have u1 : (p : Int) < (n : Int) := by omega
  have u2 : (0 : Int) ≤ (x : Int) := by omega
  have u3 : (x : Int) < (i : Int) := by omega
  clear ha1 ho1
  obtain ⟨s0, s1, s2, s3, s4, s5, s6⟩ := HS.out _ hb1
  rw [HW1.out] at s0 s1 s2 s3 s4 s5 s6
  have hbc : Below w0.heap.size w0 w1.drew := below_drewN hb1 1
  have hbd : Below w1.heap.size w1 w1.drew := below_drewN (Below.refl _ _) 1
  clear hw0 hG hG' hw1 hb1 hR hx ho hx' ho' hM hM' hb0 hz0 da la ma va db lb mb vb
  go_enter Try.func105, Try.ntmps105
  go_wp2_with fail
  rw [← HW1.out]
  clear s0 s1 s2 s3 s4 s5 s6
  have hq := HRc.out _ (Below.refl _ _)
  have y0 := cell_of_row _ (w.heap.size + 2) 0 _ _ (0, 0) hq
  have y1 := cell_of_row _ (w.heap.size + 2) 1 _ _ (0, 0) hq
  have y2 := cell_of_row _ (w.heap.size + 2) 2 _ _ (0, 0) hq
  have z0 := frozen_of_row _ (w.heap.size + 2) 0 _ _ hq
  have z1 := frozen_of_row _ (w.heap.size + 2) 1 _ _ hq
  have z2 := frozen_of_row _ (w.heap.size + 2) 2 _ _ hq
  go_region_held3 (fun W => W.cell? ⟨w.heap.size, 0, none⟩ = some (.int .i64 i) ∧ W.cell? ⟨w.heap.size, 2, none⟩ = some (.slice (some ⟨ga, oa, none⟩) n c) ∧ W.cell? ⟨w.heap.size, 3, none⟩ = some (.slice (some ⟨gb, ob, none⟩) n d) ∧ W.cell? ⟨ga, oa + p, none⟩ = some (.slice (some ⟨ha, ka, none⟩) i ca) ∧ W.cell? ⟨ha, ka + x, none⟩ = some (.int .i64 (a1 : Nat)) ∧ W.cell? ⟨gb, ob + p, none⟩ = some (.slice (some ⟨hb, kb, none⟩) i cb) ∧ W.cell? ⟨hb, kb + x, none⟩ = some (.int .i64 (o1 : Nat)))
    (first | exact HS.out _ hbc | exact HS.out _ (below_sv3 (by have := HZ0.out; omega) hbc))
    (fail)
  have h3 := set3_blk hq (.int .i64 (a1 : Nat)) (.int .i64 (q : Nat)) (.int .i64 (o1 : Nat))
  have hb4 := below_sv3 (g := w.heap.size + 2) (a := .int .i64 (a1 : Nat)) (b := .int .i64 (q : Nat)) (c := .int .i64 (o1 : Nat)) (by omega) (bt HB0.out HB1.out)
  obtain ⟨wx, hwx⟩ : ∃ wx, wx = ((w1.setCell ⟨w.heap.size + 2, 0, none⟩ (.int .i64 (a1 : Nat))).setCell ⟨w.heap.size + 2, 1, none⟩ (.int .i64 (q : Nat))).setCell ⟨w.heap.size + 2, 2, none⟩ (.int .i64 (o1 : Nat)) := ⟨_, rfl⟩
  rw [← hwx] at h3 hb4 ⊢
  have h3 : wx.drew.heap[w.heap.size + 2]? = some (.cells #[.int .i64 (a1 : Nat), .int .i64 (q : Nat), .int .i64 (o1 : Nat)] 131 (0, 0)) := h3
  have hb4 : Below w.heap.size w wx.drew := below_drewN hb4 1
  clear y0 y1 y2 z0 z1 z2 hq hwx
  go_wp2_with fail
  refine bodyPost_ret (results_cell_row (by rfl) _ _ (w.heap.size + 2) 131 _ (0, 0) _ rfl h3 Try.underlying131 rfl (by kernel_rfl)) rfl ?_
  exact ⟨rfl, hb4⟩
set_option linter.unusedSimpArgs false in
set_option linter.unusedVariables false in
set_option maxHeartbeats 8000000 in
set_option maxRecDepth 100000 in
theorem rstepR (i st n i' st' n' p q x : Nat) (A B A' B' : Option Addr) (c d c' d' : Nat) (nx ot nx' ot' : List (List Int)) (w : World) (hx : Lists w A n nx) (ho : Lists w B n ot) (hx' : Lists w A' n' nx') (ho' : Lists w B' n' ot') (hM : Mok i st n nx ot) (hM' : Mok i' st' n' nx' ot') (hp : p < n) (hq : q < n') (y : Nat) (hxy : x = i + y) (hxb : y < i') :
    Calls Try.prog 105 #[.agg #[.int .i64 i, .int .i64 st, .slice A n c, .slice B n d], .agg #[.int .i64 i', .int .i64 st', .slice A' n' c', .slice B' n' d'], .int .i64 2, .int .i64 p, .int .i64 q, .int .i64 x] w fun e w' => e = .returned (stpV (p, nN nx' q y) (1 + grt ot + oM ot' q y)) ∧ Below w.heap.size w w' := by
  show Calls _ _ _ _ fun e w' => e = .returned (.agg #[.int .i64 (p : Nat), .int .i64 (nN nx' q y : Nat), .int .i64 (1 + grt ot + oM ot' q y : Nat)]) ∧ Below w.heap.size w w'
  obtain ⟨w0, hw0, hb0, hG, hG', hz0⟩ := pair_boxesM w i st i' st' A B A' B' n c n d n' c' n' d'
  obtain ⟨gc, oc, hc, kc, cc, rfl, lc, dc, mc, vc⟩ := hx'.two (s := q) (a := y) hq (hM'.row q hq).1 hxb
  have vc : w.cell? ⟨hc, kc + y, none⟩ = some (.int .i64 (nN nx' q y : Nat)) := by rw [vc, hM'.nN_eq hq hxb]
  obtain ⟨gd, od, hd, kd, cd, rfl, ld, dd, md, vd⟩ := ho'.two (s := q) (a := y) hq (hM'.row q hq).2.1 hxb
  have vd : w.cell? ⟨hd, kd + y, none⟩ = some (.int .i64 (oM ot' q y : Nat)) := vd.trans (by rw [show (ot'.getD q []).getD y 0 = (oM ot' q y : Int) from hM'.oM_eq hq hxb])
  have HS := Lib.hid (show ∀ W : World, Below w0.heap.size w0 W → W.cell? ⟨w.heap.size, 0, none⟩ = some (.int .i64 i) ∧ W.cell? ⟨w.heap.size, 1, none⟩ = some (.int .i64 st) ∧ W.cell? ⟨w.heap.size, 2, none⟩ = some (.slice A n c) ∧ W.cell? ⟨w.heap.size, 3, none⟩ = some (.slice B n d) ∧ W.cell? ⟨w.heap.size + 1, 2, none⟩ = some (.slice (some ⟨gc, oc, none⟩) n' c') ∧ W.cell? ⟨w.heap.size + 1, 3, none⟩ = some (.slice (some ⟨gd, od, none⟩) n' d') ∧ W.cell? ⟨gc, oc + q, none⟩ = some (.slice (some ⟨hc, kc, none⟩) i' cc) ∧ W.cell? ⟨hc, kc + y, none⟩ = some (.int .i64 (nN nx' q y : Nat)) ∧ W.cell? ⟨gd, od + q, none⟩ = some (.slice (some ⟨hd, kd, none⟩) i' cd) ∧ W.cell? ⟨hd, kd + y, none⟩ = some (.int .i64 (oM ot' q y : Nat)) from fun W h => by
    obtain ⟨b0, b1, b2, b3, _⟩ := (hG.on h).cells
    obtain ⟨e0, e1, e2, e3, _⟩ := (hG'.on h).cells
    exact ⟨b0, b1, b2, b3, e2, e3, ((hb0.trans (h.mono hb0.size)).cell (p := ⟨gc, oc + q, none⟩) lc).trans dc, ((hb0.trans (h.mono hb0.size)).cell (p := ⟨hc, kc + y, none⟩) mc).trans vc, ((hb0.trans (h.mono hb0.size)).cell (p := ⟨gd, od + q, none⟩) ld).trans dd, ((hb0.trans (h.mono hb0.size)).cell (p := ⟨hd, kd + y, none⟩) md).trans vd⟩)
  obtain ⟨w1, hw1⟩ : ∃ w1, w1 = w0.alloc (.cells #[.int .i64 0, .int .i64 0, .int .i64 0] 131) := ⟨_, rfl⟩
  have hb1 : Below w0.heap.size w0 w1 := by rw [hw1]; exact alloc_below _ _
  have hR : w1.heap[w.heap.size + 2]? = some (.cells #[.int .i64 0, .int .i64 0, .int .i64 0] 131 (0, 0)) := by
    rw [hw1, ← hz0]; exact heap_alloc_new w0 _
  have HZ0 := Lib.hid hz0
  have HB0 := Lib.hid hb0
  have HB1 := Lib.hid hb1
  have HRc := Lib.hid (show ∀ W : World, Below w1.heap.size w1 W → W.heap[w.heap.size + 2]? = some (.cells #[.int .i64 0, .int .i64 0, .int .i64 0] 131 (0, 0)) from fun W h => (h.block _ (heap_lt hR)).trans hR)
  have HW1 := Lib.hid (hw1.trans (by rw [hw0]))
  have HX := Lib.hid (fun (W : World) (h : Below w0.heap.size w0 W) => (hx'.below hb0).below h)
  have HO := Lib.hid (fun (W : World) (h : Below w0.heap.size w0 W) => (ho'.below hb0).below h)
  have HXa := Lib.hid (fun (W : World) (h : Below w0.heap.size w0 W) => (hx.below hb0).below h)
  have HOa := Lib.hid (fun (W : World) (h : Below w0.heap.size w0 W) => (ho.below hb0).below h)
  have HM := Lib.hid hM
  have HM' := Lib.hid hM'
  obtain ⟨G, hG9⟩ : ∃ G, G = grt ot := ⟨_, rfl⟩
  have hGl : G ≤ 1048576 := by rw [hG9]; exact hM.grt_le
  have HG9 := Lib.hid hG9
  obtain ⟨a2, ha2⟩ : ∃ a2, a2 = nN nx' q y := ⟨_, rfl⟩
  obtain ⟨o2, ho2⟩ : ∃ o2, o2 = oM ot' q y := ⟨_, rfl⟩
  have lo2 : o2 ≤ 1048576 := by rw [ho2]; exact hM'.oM_le hq hxb
  have hi2 := hM.i2
  have hi2' := hM'.i2
  rw [← ha2, ← ho2] at HS ⊢
  rw [← hG9]
  obtain ⟨z, hz⟩ : ∃ z, z = 1 + G + o2 := ⟨_, rfl⟩
  obtain ⟨z1, hz1⟩ : ∃ z1, z1 = o2 + 1 := ⟨_, rfl⟩
  rw [← hz]
  have w1' : IntKind.i64.wrap ((x : Int) - (i : Int)) = (y : Int) := by rw [show (x : Int) - (i : Int) = (y : Int) by omega]; exact IntWalk.i64_in _ (by omega)
  have w2' : IntKind.i64.wrap ((o2 : Int) + 1) = (z1 : Int) := by rw [show (o2 : Int) + 1 = (z1 : Int) by omega]; exact IntWalk.i64_in _ (by omega)
  have w3' : IntKind.i64.wrap ((z1 : Int) + (G : Int)) = (z : Int) := by rw [show (z1 : Int) + (G : Int) = (z : Int) by omega]; exact IntWalk.i64_in _ (by omega)
  have t1 : decide ((x : Int) < (i : Int)) = false := by simp; omega
  have t2 : decide (x < i) = false := by simp; omega
  have u0 : (0 : Int) ≤ (q : Int) := by omega
  have u1 : (q : Int) < (n' : Int) := by omega
  have u2 : (0 : Int) ≤ (y : Int) := by omega
  have u3 : (y : Int) < (i' : Int) := by omega
  clear ha2 ho2 hz hz1 hG9 lo2 hi2 hi2' hxy
  obtain ⟨s0, s1, s2, s3, s4, s5, s6, s7, s8, s9⟩ := HS.out _ hb1
  rw [HW1.out] at s0 s1 s2 s3 s4 s5 s6 s7 s8 s9
  have hbc : Below w0.heap.size w0 w1.drew := below_drewN hb1 1
  have hbd : Below w1.heap.size w1 w1.drew := below_drewN (Below.refl _ _) 1
  clear hw0 hG hG' hw1 hb1 hR hx ho hx' ho' hM hM' hb0 hz0 dc lc mc vc dd ld md vd
  go_enter Try.func105, Try.ntmps105
  go_wp2_with fail
  rw [← HW1.out]
  clear s0 s1 s2 s3 s4 s5 s6 s7 s8 s9
  go_region_held3 (fun W => W.cell? ⟨w.heap.size, 0, none⟩ = some (.int .i64 i) ∧ W.cell? ⟨w.heap.size, 1, none⟩ = some (.int .i64 st) ∧ W.cell? ⟨w.heap.size, 2, none⟩ = some (.slice A n c) ∧ W.cell? ⟨w.heap.size, 3, none⟩ = some (.slice B n d) ∧ W.cell? ⟨w.heap.size + 1, 2, none⟩ = some (.slice (some ⟨gc, oc, none⟩) n' c') ∧ W.cell? ⟨w.heap.size + 1, 3, none⟩ = some (.slice (some ⟨gd, od, none⟩) n' d') ∧ W.cell? ⟨gc, oc + q, none⟩ = some (.slice (some ⟨hc, kc, none⟩) i' cc) ∧ W.cell? ⟨hc, kc + y, none⟩ = some (.int .i64 (a2 : Nat)) ∧ W.cell? ⟨gd, od + q, none⟩ = some (.slice (some ⟨hd, kd, none⟩) i' cd) ∧ W.cell? ⟨hd, kd + y, none⟩ = some (.int .i64 (o2 : Nat)))
    (first | exact HS.out _ hbc | exact HS.out _ (below_sv3 (by have := HZ0.out; omega) hbc))
    ((go_at_call 44; refine (rgreatest i st n A B c d nx ot _ (HXa.out _ hbc) (HOa.out _ hbc) HM.out).mono ?_; rintro e w9 ⟨rfl, b9⟩; rw [← HG9.out]; have hbc := bt hbc b9; have hbd := bt hbd b9; have hq := HRc.out _ hbd; have y0 := cell_of_row _ (w.heap.size + 2) 0 _ _ (0, 0) hq; have y1 := cell_of_row _ (w.heap.size + 2) 1 _ _ (0, 0) hq; have y2 := cell_of_row _ (w.heap.size + 2) 2 _ _ (0, 0) hq; have z0 := frozen_of_row _ (w.heap.size + 2) 0 _ _ hq; have z1 := frozen_of_row _ (w.heap.size + 2) 1 _ _ hq; have z2 := frozen_of_row _ (w.heap.size + 2) 2 _ _ hq))
  have h3 := set3_blk hq (.int .i64 (p : Nat)) (.int .i64 (a2 : Nat)) (.int .i64 (z : Nat))
  have hb4 := below_sv3 (g := w.heap.size + 2) (a := .int .i64 (p : Nat)) (b := .int .i64 (a2 : Nat)) (c := .int .i64 (z : Nat)) (by omega) (bt HB0.out hbc)
  clear y0 y1 y2 z0 z1 z2 hq
  go_wp2_with fail
  refine bodyPost_ret (results_cell_row (by rfl) _ _ (w.heap.size + 2) 131 _ (0, 0) _ rfl h3 Try.underlying131 rfl (by kernel_rfl)) rfl ?_
  exact ⟨rfl, hb4⟩
set_option linter.unusedSimpArgs false in
set_option linter.unusedVariables false in
set_option maxHeartbeats 8000000 in
set_option maxRecDepth 100000 in
theorem rstepC (i st n i' st' n' p q x : Nat) (A B A' B' : Option Addr) (c d c' d' : Nat) (nx ot nx' ot' : List (List Int)) (w : World) (hx : Lists w A n nx) (ho : Lists w B n ot) (hx' : Lists w A' n' nx') (ho' : Lists w B' n' ot') (hM : Mok i st n nx ot) (hM' : Mok i' st' n' nx' ot') (hp : p < n) (hq : q < n') (y : Nat) (hxi : x < i) (hy : y = oM ot p x) (hxb : y < i') :
    Calls Try.prog 105 #[.agg #[.int .i64 i, .int .i64 st, .slice A n c, .slice B n d], .agg #[.int .i64 i', .int .i64 st', .slice A' n' c', .slice B' n' d'], .int .i64 3, .int .i64 p, .int .i64 q, .int .i64 x] w fun e w' => e = .returned (stpV (nN nx p x, nN nx' q y) (oM ot' q y)) ∧ Below w.heap.size w w' := by
  show Calls _ _ _ _ fun e w' => e = .returned (.agg #[.int .i64 (nN nx p x : Nat), .int .i64 (nN nx' q y : Nat), .int .i64 (oM ot' q y : Nat)]) ∧ Below w.heap.size w w'
  obtain ⟨w0, hw0, hb0, hG, hG', hz0⟩ := pair_boxesM w i st i' st' A B A' B' n c n d n' c' n' d'
  obtain ⟨ga, oa, ha, ka, ca, rfl, la, da, ma, va⟩ := hx.two (s := p) (a := x) hp (hM.row p hp).1 hxi
  have va : w.cell? ⟨ha, ka + x, none⟩ = some (.int .i64 (nN nx p x : Nat)) := by rw [va, hM.nN_eq hp hxi]
  obtain ⟨gb, ob, hb, kb, cb, rfl, lb, db, mb, vb⟩ := ho.two (s := p) (a := x) hp (hM.row p hp).2.1 hxi
  have vb : w.cell? ⟨hb, kb + x, none⟩ = some (.int .i64 (oM ot p x : Nat)) := vb.trans (by rw [show (ot.getD p []).getD x 0 = (oM ot p x : Int) from hM.oM_eq hp hxi])
  obtain ⟨gc, oc, hc, kc, cc, rfl, lc, dc, mc, vc⟩ := hx'.two (s := q) (a := y) hq (hM'.row q hq).1 hxb
  have vc : w.cell? ⟨hc, kc + y, none⟩ = some (.int .i64 (nN nx' q y : Nat)) := by rw [vc, hM'.nN_eq hq hxb]
  obtain ⟨gd, od, hd, kd, cd, rfl, ld, dd, md, vd⟩ := ho'.two (s := q) (a := y) hq (hM'.row q hq).2.1 hxb
  have vd : w.cell? ⟨hd, kd + y, none⟩ = some (.int .i64 (oM ot' q y : Nat)) := vd.trans (by rw [show (ot'.getD q []).getD y 0 = (oM ot' q y : Int) from hM'.oM_eq hq hxb])
  have HS := Lib.hid (show ∀ W : World, Below w0.heap.size w0 W → W.cell? ⟨w.heap.size, 2, none⟩ = some (.slice (some ⟨ga, oa, none⟩) n c) ∧ W.cell? ⟨w.heap.size, 3, none⟩ = some (.slice (some ⟨gb, ob, none⟩) n d) ∧ W.cell? ⟨w.heap.size + 1, 2, none⟩ = some (.slice (some ⟨gc, oc, none⟩) n' c') ∧ W.cell? ⟨w.heap.size + 1, 3, none⟩ = some (.slice (some ⟨gd, od, none⟩) n' d') ∧ W.cell? ⟨ga, oa + p, none⟩ = some (.slice (some ⟨ha, ka, none⟩) i ca) ∧ W.cell? ⟨ha, ka + x, none⟩ = some (.int .i64 (nN nx p x : Nat)) ∧ W.cell? ⟨gb, ob + p, none⟩ = some (.slice (some ⟨hb, kb, none⟩) i cb) ∧ W.cell? ⟨hb, kb + x, none⟩ = some (.int .i64 (oM ot p x : Nat)) ∧ W.cell? ⟨gc, oc + q, none⟩ = some (.slice (some ⟨hc, kc, none⟩) i' cc) ∧ W.cell? ⟨hc, kc + y, none⟩ = some (.int .i64 (nN nx' q y : Nat)) ∧ W.cell? ⟨gd, od + q, none⟩ = some (.slice (some ⟨hd, kd, none⟩) i' cd) ∧ W.cell? ⟨hd, kd + y, none⟩ = some (.int .i64 (oM ot' q y : Nat)) from fun W h => by
    obtain ⟨b0, b1, b2, b3, _⟩ := (hG.on h).cells
    obtain ⟨e0, e1, e2, e3, _⟩ := (hG'.on h).cells
    exact ⟨b2, b3, e2, e3, ((hb0.trans (h.mono hb0.size)).cell (p := ⟨ga, oa + p, none⟩) la).trans da, ((hb0.trans (h.mono hb0.size)).cell (p := ⟨ha, ka + x, none⟩) ma).trans va, ((hb0.trans (h.mono hb0.size)).cell (p := ⟨gb, ob + p, none⟩) lb).trans db, ((hb0.trans (h.mono hb0.size)).cell (p := ⟨hb, kb + x, none⟩) mb).trans vb, ((hb0.trans (h.mono hb0.size)).cell (p := ⟨gc, oc + q, none⟩) lc).trans dc, ((hb0.trans (h.mono hb0.size)).cell (p := ⟨hc, kc + y, none⟩) mc).trans vc, ((hb0.trans (h.mono hb0.size)).cell (p := ⟨gd, od + q, none⟩) ld).trans dd, ((hb0.trans (h.mono hb0.size)).cell (p := ⟨hd, kd + y, none⟩) md).trans vd⟩)
  obtain ⟨w1, hw1⟩ : ∃ w1, w1 = w0.alloc (.cells #[.int .i64 0, .int .i64 0, .int .i64 0] 131) := ⟨_, rfl⟩
  have hb1 : Below w0.heap.size w0 w1 := by rw [hw1]; exact alloc_below _ _
  have hR : w1.heap[w.heap.size + 2]? = some (.cells #[.int .i64 0, .int .i64 0, .int .i64 0] 131 (0, 0)) := by
    rw [hw1, ← hz0]; exact heap_alloc_new w0 _
  have HZ0 := Lib.hid hz0
  have HB0 := Lib.hid hb0
  have HB1 := Lib.hid hb1
  have HRc := Lib.hid (show ∀ W : World, Below w1.heap.size w1 W → W.heap[w.heap.size + 2]? = some (.cells #[.int .i64 0, .int .i64 0, .int .i64 0] 131 (0, 0)) from fun W h => (h.block _ (heap_lt hR)).trans hR)
  have HW1 := Lib.hid (hw1.trans (by rw [hw0]))
  have HX := Lib.hid (fun (W : World) (h : Below w0.heap.size w0 W) => (hx'.below hb0).below h)
  have HO := Lib.hid (fun (W : World) (h : Below w0.heap.size w0 W) => (ho'.below hb0).below h)
  have HXa := Lib.hid (fun (W : World) (h : Below w0.heap.size w0 W) => (hx.below hb0).below h)
  have HOa := Lib.hid (fun (W : World) (h : Below w0.heap.size w0 W) => (ho.below hb0).below h)
  have HM := Lib.hid hM
  have HM' := Lib.hid hM'
  obtain ⟨a1, ha1⟩ : ∃ a1, a1 = nN nx p x := ⟨_, rfl⟩
  obtain ⟨a2, ha2⟩ : ∃ a2, a2 = nN nx' q y := ⟨_, rfl⟩
  obtain ⟨o2, ho2⟩ : ∃ o2, o2 = oM ot' q y := ⟨_, rfl⟩
  have HY := Lib.hid hy
  rw [← ha1, ← ha2, ← ho2, ← hy] at HS
  rw [← ha1, ← ha2, ← ho2]
  have u0 : (0 : Int) ≤ (p : Int) := by omega
  have u1 : (p : Int) < (n : Int) := by omega
  have u2 : (0 : Int) ≤ (q : Int) := by omega
  have u3 : (q : Int) < (n' : Int) := by omega
  have u4 : (0 : Int) ≤ (x : Int) := by omega
  have u5 : (x : Int) < (i : Int) := by omega
  have u6 : (0 : Int) ≤ (y : Int) := by omega
  have u7 : (y : Int) < (i' : Int) := by omega
  clear ha1 ha2 ho2 hy
  obtain ⟨s0, s1, s2, s3, s4, s5, s6, s7, s8, s9, s10, s11⟩ := HS.out _ hb1
  rw [HW1.out] at s0 s1 s2 s3 s4 s5 s6 s7 s8 s9 s10 s11
  have hbc : Below w0.heap.size w0 w1.drew := below_drewN hb1 1
  have hbd : Below w1.heap.size w1 w1.drew := below_drewN (Below.refl _ _) 1
  clear hw0 hG hG' hw1 hb1 hR hx ho hx' ho' hM hM' hb0 hz0 da la ma va db lb mb vb dc lc mc vc dd ld md vd
  go_enter Try.func105, Try.ntmps105
  go_wp2_with fail
  rw [← HW1.out]
  clear s0 s1 s2 s3 s4 s5 s6 s7 s8 s9 s10 s11
  have hq := HRc.out _ (Below.refl _ _)
  have y0 := cell_of_row _ (w.heap.size + 2) 0 _ _ (0, 0) hq
  have y1 := cell_of_row _ (w.heap.size + 2) 1 _ _ (0, 0) hq
  have y2 := cell_of_row _ (w.heap.size + 2) 2 _ _ (0, 0) hq
  have z0 := frozen_of_row _ (w.heap.size + 2) 0 _ _ hq
  have z1 := frozen_of_row _ (w.heap.size + 2) 1 _ _ hq
  have z2 := frozen_of_row _ (w.heap.size + 2) 2 _ _ hq
  go_region_held3 (fun W => W.cell? ⟨w.heap.size, 2, none⟩ = some (.slice (some ⟨ga, oa, none⟩) n c) ∧ W.cell? ⟨w.heap.size, 3, none⟩ = some (.slice (some ⟨gb, ob, none⟩) n d) ∧ W.cell? ⟨w.heap.size + 1, 2, none⟩ = some (.slice (some ⟨gc, oc, none⟩) n' c') ∧ W.cell? ⟨w.heap.size + 1, 3, none⟩ = some (.slice (some ⟨gd, od, none⟩) n' d') ∧ W.cell? ⟨ga, oa + p, none⟩ = some (.slice (some ⟨ha, ka, none⟩) i ca) ∧ W.cell? ⟨ha, ka + x, none⟩ = some (.int .i64 (a1 : Nat)) ∧ W.cell? ⟨gb, ob + p, none⟩ = some (.slice (some ⟨hb, kb, none⟩) i cb) ∧ W.cell? ⟨hb, kb + x, none⟩ = some (.int .i64 (y : Nat)) ∧ W.cell? ⟨gc, oc + q, none⟩ = some (.slice (some ⟨hc, kc, none⟩) i' cc) ∧ W.cell? ⟨hc, kc + y, none⟩ = some (.int .i64 (a2 : Nat)) ∧ W.cell? ⟨gd, od + q, none⟩ = some (.slice (some ⟨hd, kd, none⟩) i' cd) ∧ W.cell? ⟨hd, kd + y, none⟩ = some (.int .i64 (o2 : Nat)))
    (first | exact HS.out _ hbc | exact HS.out _ (below_sv3 (by have := HZ0.out; omega) hbc))
    (fail)
  have h3 := set3_blk hq (.int .i64 (a1 : Nat)) (.int .i64 (a2 : Nat)) (.int .i64 (o2 : Nat))
  have hb4 := below_sv3 (g := w.heap.size + 2) (a := .int .i64 (a1 : Nat)) (b := .int .i64 (a2 : Nat)) (c := .int .i64 (o2 : Nat)) (by omega) (bt HB0.out HB1.out)
  obtain ⟨wx, hwx⟩ : ∃ wx, wx = ((w1.setCell ⟨w.heap.size + 2, 0, none⟩ (.int .i64 (a1 : Nat))).setCell ⟨w.heap.size + 2, 1, none⟩ (.int .i64 (a2 : Nat))).setCell ⟨w.heap.size + 2, 2, none⟩ (.int .i64 (o2 : Nat)) := ⟨_, rfl⟩
  rw [← hwx] at h3 hb4 ⊢
  have h3 : wx.drew.heap[w.heap.size + 2]? = some (.cells #[.int .i64 (a1 : Nat), .int .i64 (a2 : Nat), .int .i64 (o2 : Nat)] 131 (0, 0)) := h3
  have hb4 : Below w.heap.size w wx.drew := below_drewN hb4 1
  clear y0 y1 y2 z0 z1 z2 hq hwx
  go_wp2_with fail
  refine bodyPost_ret (results_cell_row (by rfl) _ _ (w.heap.size + 2) 131 _ (0, 0) _ rfl h3 Try.underlying131 rfl (by kernel_rfl)) rfl ?_
  exact ⟨rfl, hb4⟩
end Go.Proofs.Ytogcecfeofbbnaa
end

section
/- The reference's machine of the pairs. -/
namespace Go.Proofs.Ytogcecfeofbbnaa
open Go.RowKit

/-- Two rows of numbers that grow apart from one another. -/
structure Two (W : World) (base : Nat) (a b : Value) (xa xb : List Int) : Prop where
  oa : Owned W base a xa
  ob : Owned W base b xb
  ab : Apart a b
section
variable {W W' : World} {base : Nat} {a b : Value} {xa xb : List Int}
theorem Two.nil (W : World) (base : Nat) : Two W base (.slice none 0 0) (.slice none 0 0) [] [] := ⟨Owned.nil _ _, Owned.nil _ _, Apart.nil _⟩
theorem Two.kept (h : Two W base a b xa xb) (hb : Below W.heap.size W W') : Two W' base a b xa xb := ⟨h.oa.kept hb, h.ob.kept hb, h.ab⟩
theorem Two.keptT (h : Two W base a b xa xb) (k : KeptT 3 W W') : Two W' base a b xa xb := ⟨h.oa.keptT k, h.ob.keptT k, h.ab⟩
theorem Two.appA (h : Two W base a b xa xb) (x : Int) (hbase : base ≤ W.heap.size) (hl : xa.length < 1759218604441) :
    ∃ A k w', (Builtin.append_ #[27, 27] 27 #[a, .slice (some ⟨W.heap.size, 0, none⟩) 1 1]).run Try.prog (W.alloc (.cells #[.int .i64 x] 3)) = .ok (.slice A (xa.length + 1) k) w' ∧
      Two w' base (.slice A (xa.length + 1) k) b (xa ++ [x]) xb ∧ Below base W w' ∧ ∀ t, t ≠ 3 → KeptT t W w' := by
  obtain ⟨A, k, w', hr, o, hb, kt, hk, hm⟩ := run_append_oneB h.oa x hbase hl
  exact ⟨A, k, w', hr, ⟨o, h.ob.keptB hk h.ab, h.ab.movedO hm h.ob⟩, hb, kt⟩
theorem Two.appB (h : Two W base a b xa xb) (x : Int) (hbase : base ≤ W.heap.size) (hl : xb.length < 1759218604441) :
    ∃ A k w', (Builtin.append_ #[27, 27] 27 #[b, .slice (some ⟨W.heap.size, 0, none⟩) 1 1]).run Try.prog (W.alloc (.cells #[.int .i64 x] 3)) = .ok (.slice A (xb.length + 1) k) w' ∧
      Two w' base a (.slice A (xb.length + 1) k) xa (xb ++ [x]) ∧ Below base W w' ∧ ∀ t, t ≠ 3 → KeptT t W w' := by
  obtain ⟨A, k, w', hr, o, hb, kt, hk, hm⟩ := run_append_oneB h.ob x hbase hl
  exact ⟨A, k, w', hr, ⟨h.oa.keptB hk h.ab.symm, o, (h.ab.symm.movedO hm h.oa).symm⟩, hb, kt⟩
end
theorem infoS : (Try.prog.info? 131).map (fun i => (i.zero, i.size, i.bytes)) = some (some (.agg #[.int .i64 0, .int .i64 0, .int .i64 0]), 3, 24) := by kernel_rfl
/-- The rows of the pairs found; the third cell is any number. -/
def StL (E : List Ent) (L : List (List Value)) : Prop := L.length = E.length ∧ ∀ k, k < E.length → ∃ z : Nat, L.getD k [] = [.int .i64 ((E.getD k Ent.zero).p : Nat), .int .i64 ((E.getD k Ent.zero).q : Nat), .int .i64 z]
def Lst (W : World) (base : Nat) (v : Value) (E : List Ent) : Prop := ∃ L, StL E L ∧ Rws W base 131 3 v L
section
variable {W W' : World} {base n c : Nat} {v : Value} {A : Option Addr} {E : List Ent}
theorem Lst.keptT (h : Lst W base v E) (k : KeptT 131 W W') : Lst W' base v E := by
  obtain ⟨L, h1, h2⟩ := h
  exact ⟨L, h1, h2.keptT k⟩
theorem Lst.kept (h : Lst W base v E) (hb : Below W.heap.size W W') : Lst W' base v E := h.keptT (KeptT.of_below hb)
theorem Lst.one (w : World) (base s t : Nat) (hb : base ≤ w.heap.size) : Lst (w.alloc (.cells #[.int .i64 (s : Nat), .int .i64 (t : Nat), .int .i64 0] 131)) base (.slice (some ⟨w.heap.size, 0, none⟩) 1 1) [⟨s, t, 0, 0, []⟩] :=
  ⟨[[.int .i64 (s : Nat), .int .i64 (t : Nat), .int .i64 0]], ⟨rfl, fun k hk => by
    obtain rfl : k = 0 := by simpa using hk
    exact ⟨0, rfl⟩⟩, Rws.one w base 131 [.int .i64 (s : Nat), .int .i64 (t : Nat), .int .i64 0] hb⟩
theorem Lst.at_ (h : Lst W base (.slice A n c) E) (h0 : 0 < E.length) : ∃ g, A = some ⟨g, 0, none⟩ ∧ n = E.length ∧ g < W.heap.size ∧ ∀ k, k < E.length → W.cell? ⟨g, k * 3, none⟩ = some (.int .i64 ((E.getD k Ent.zero).p : Nat)) ∧ W.cell? ⟨g, k * 3 + 1, none⟩ = some (.int .i64 ((E.getD k Ent.zero).q : Nat)) := by
  obtain ⟨L, ⟨h1, h2⟩, h3⟩ := h
  obtain ⟨g, c', e, _, hg, _, hc⟩ := h3.at_ (by omega)
  cases e
  refine ⟨g, rfl, h1, hg, fun k hk => ?_⟩
  obtain ⟨z, hz⟩ := h2 k hk
  have a0 := hc k 0 (by omega) (by omega)
  have a1 := hc k 1 (by omega) (by omega)
  rw [hz] at a0 a1
  rw [Nat.add_zero] at a0
  exact ⟨a0, a1⟩
theorem Lst.push (h : Lst W base v E) (e : Ent) (z : Nat) (hbase : base ≤ W.heap.size) (hn : E.length < 1099511627776) :
    ∃ A c w1, (Builtin.append_ #[132, 132] 132 #[v, .slice (some ⟨W.heap.size, 0, none⟩) 1 1]).run Try.prog (W.alloc (.cells #[.int .i64 (e.p : Nat), .int .i64 (e.q : Nat), .int .i64 (z : Nat)] 131)) = .ok (.slice A (E.length + 1) c) w1 ∧
      Lst w1 base (.slice A (E.length + 1) c) (E ++ [e]) ∧ Below base W w1 ∧ (∀ t', t' ≠ 131 → KeptT t' W w1) ∧ (∀ b, b < W.heap.size → Value.ownBlock v ≠ some b → w1.heap[b]? = W.heap[b]?) := by
  obtain ⟨i, hi, hz0, hz1, hz2⟩ := info_parts infoS
  obtain ⟨L, ⟨h1, h2⟩, h3⟩ := h
  obtain ⟨A, c, w1, r1, r2, r3, r4, _, r5⟩ := run_append_rwsM Try.underlying132 hi hz0 hz1 hz2 rfl (by decide) (by decide) h3 [.int .i64 (e.p : Nat), .int .i64 (e.q : Nat), .int .i64 (z : Nat)] rfl (fun u hu => by simp at hu; rcases hu with rfl | rfl | rfl <;> rfl) hbase (by omega)
  rw [h1] at r1 r2
  refine ⟨A, c, w1, r1, ⟨_, ⟨by simp [h1], fun k hk => ?_⟩, r2⟩, r3, r4, r5.1⟩
  by_cases hl : k < E.length
  · obtain ⟨y, hy⟩ := h2 k hl
    refine ⟨y, ?_⟩
    rw [getDE_pre hl, List.getD_eq_getElem?_getD, List.getElem?_append_left (by omega), ← List.getD_eq_getElem?_getD]
    exact hy
  · obtain rfl : k = E.length := by simp at hk; omega
    refine ⟨z, ?_⟩
    rw [getDE_last, List.getD_eq_getElem?_getD, List.getElem?_append_right (by omega), h1]
    simp
end
theorem KeptT.low {wo W W' : World} {ty : TypeId} (h : KeptT ty wo W) (hb : Below wo.heap.size W W') : KeptT ty wo W' := fun g cs e => (hb.block g (heap_lt e)).trans (h g cs e)
/-- A row of numbers by a function. -/
def rowO (f : Nat → Int) (x : Nat) : List Int := (List.range x).map f
theorem rowO_len (f : Nat → Int) (x : Nat) : (rowO f x).length = x := by simp [rowO]
theorem rowO_succ (f : Nat → Int) (x : Nat) : rowO f (x + 1) = rowO f x ++ [f x] := by unfold rowO; rw [List.range_succ, List.map_append]; rfl
theorem OkTo.fits {O : Nat × Nat → Nat → Nat} {i : Nat} {R : List Ent} (h : OkTo O i R R.length) (hl : R.length ≤ 128) : Fits O i R := ⟨hl, h⟩
/-- None of the first k is this one. -/
def NoE (E : List Ent) (y : Nat × Nat) (k : Nat) : Prop := ∀ t, t < k → (E.getD t Ent.zero).pr ≠ y
theorem NoE.zero (E : List Ent) (y : Nat × Nat) : NoE E y 0 := fun _ h => absurd h (by omega)
theorem NoE.succ {E : List Ent} {y : Nat × Nat} {k : Nat} (h : NoE E y k) (h1 : (E.getD k Ent.zero).pr ≠ y) : NoE E y (k + 1) := fun t ht => by
  by_cases e : t = k
  · subst e; exact h1
  · exact h t (by omega)
theorem NoE.not {E : List Ent} {y : Nat × Nat} (h : NoE E y E.length) : ¬ y ∈ E.map Ent.pr := fun hm => by
  obtain ⟨a, ha, e1⟩ := List.getElem_of_mem hm
  have ha2 : a < E.length := by simpa using ha
  refine h a ha2 ?_
  rw [← e1, List.getElem_map, getDE_at ha2]
theorem Ens.at_pl {n m s t : Nat} {E R : List Ent} (h : Ens n m s t E) {k : Nat} (hk : k < E.length) {y : Nat × Nat} (he : (E.getD k Ent.zero).pr = y) (hR : ∃ T, R = E ++ T) : plE R y = k := by
  rw [plE_finC hR (by rw [← he]; exact List.mem_map.2 ⟨_, getDE_mem hk, rfl⟩), ← he]
  exact h.pl hk
theorem plE_newR {E R : List Ent} {e : Ent} (h : ¬ e.pr ∈ E.map Ent.pr) (hR : ∃ T, R = (E ++ [e]) ++ T) : plE R e.pr = E.length := by
  rw [plE_finC hR (by rw [List.map_append]; simp), plE_new h]
theorem Fits.at_ {O : Nat × Nat → Nat → Nat} {i : Nat} {R E : List Ent} (h : Fits O i R) (hR : ∃ T, R = E ++ T) {j : Nat} (hj : j < E.length) {e : Ent} (he : E.getD j Ent.zero = e) {x : Nat} (hx : x < i) : O e.pr x ≤ 1048576 := by
  obtain ⟨T, rfl⟩ := hR
  have := h.2 j (by rw [List.length_append]; omega) x hx
  rw [getDE_pre hj, he] at this
  exact this
theorem Fits.len_ {O : Nat × Nat → Nat → Nat} {i : Nat} {R E : List Ent} (h : Fits O i R) (hR : ∃ T, R = E ++ T) : E.length ≤ 128 := by
  obtain ⟨T, rfl⟩ := hR
  have := h.1
  rw [List.length_append] at this
  omega
end Go.Proofs.Ytogcecfeofbbnaa
end

section
/- What Product, Parallel and Cascade answer, valid or not. -/
namespace Go.Proofs.Ytogcecfeofbbnaa
open Go.RowKit

/-- A machine with Start 0, and an error. -/
abbrev RsX := Nat × List (List Int) × List (List Int) × Int
def RsP (X : RsX) (e : Ending) (w' : World) : Prop := ∃ A c B d, e = .returned (.tuple #[.agg #[.int .i64 X.1, .int .i64 0, .slice A X.2.1.length c, .slice B X.2.2.1.length d], .int .i64 X.2.2.2]) ∧ Lists w' A X.2.1.length X.2.1 ∧ Lists w' B X.2.2.1.length X.2.2.1
def cmpX (F : Nat × Nat → Nat → Nat × Nat) (O : Nat × Nat → Nat → Nat) (i n m s t : Nat) : RsX := if Fits O i (fdG F i n m s t) then (i, autN F i (fdG F i n m s t), outN O i (fdG F i n m s t), 0) else (0, [], [], 11)
def noX (v : Int) : RsX := (0, [], [], v)
theorem Lists.none (w : World) : Lists w none 0 [] := ⟨rfl, by omega, fun h => absurd h (by omega)⟩
theorem NoM.rs (v : Int) (w' : World) : RsP (noX v) (NoM v) w' := ⟨none, 0, none, 0, rfl, Lists.none _, Lists.none _⟩
theorem MacP.rs {base i n m s t : Nat} {F : Nat × Nat → Nat → Nat × Nat} {O : Nat × Nat → Nat → Nat} {e : Ending} {w' : World} (hF : Stp F i n m) (hs : s < n) (ht : t < m) (hi1 : 1 ≤ i) (hi : i ≤ 64)
    (h : MacP base i (autN F i (fdG F i n m s t)) (outN O i (fdG F i n m s t)) (fdG F i n m s t).length (Fits O i (fdG F i n m s t)) e w') : RsP (cmpX F O i n m s t) e w' := by
  unfold cmpX
  rcases h with ⟨hok, A, c, B, d, rfl, o1, o2⟩ | ⟨hok, rfl⟩
  · rw [if_pos hok]
    have hM := fdG_mok hF hs ht hi1 hi rfl hok
    refine ⟨A, c, B, d, ?_, ?_, ?_⟩
    · show _ = Ending.returned (.tuple #[.agg #[_, _, .slice A (autN F i (fdG F i n m s t)).length c, .slice B (outN O i (fdG F i n m s t)).length d], _])
      rw [autN_len, outN_len]
    · show Lists w' A (autN F i (fdG F i n m s t)).length (autN F i (fdG F i n m s t))
      rw [autN_len]; exact lists_ownedM hM o1
    · show Lists w' B (outN O i (fdG F i n m s t)).length (outN O i (fdG F i n m s t))
      rw [outN_len]; exact lists_ownedO hM o2
  · rw [if_neg hok]
    exact NoM.rs 11 w'
def prX (i1 st1 : Int) (nx ot : List (List Int)) (i2 st2 : Int) (nx' ot' : List (List Int)) : RsX :=
  if vld2m i1 st1 nx ot i2 st2 nx' ot' = 0 then (if i1 = i2 then cmpX (prF nx nx') (prO ot ot' (grt ot')) i1.toNat nx.length nx'.length st1.toNat st2.toNat else noX 15) else noX (vld2m i1 st1 nx ot i2 st2 nx' ot')
def paX (i1 st1 : Int) (nx ot : List (List Int)) (i2 st2 : Int) (nx' ot' : List (List Int)) : RsX :=
  if vld2m i1 st1 nx ot i2 st2 nx' ot' = 0 then (if i1 + i2 ≤ 64 then cmpX (paF i1.toNat nx nx') (paO i1.toNat ot ot' (grt ot)) (i1.toNat + i2.toNat) nx.length nx'.length st1.toNat st2.toNat else noX 2) else noX (vld2m i1 st1 nx ot i2 st2 nx' ot')
def caX (i1 st1 : Int) (nx ot : List (List Int)) (i2 st2 : Int) (nx' ot' : List (List Int)) : RsX :=
  if vld2m i1 st1 nx ot i2 st2 nx' ot' = 0 then (if (grt ot : Int) < i2 then cmpX (caF nx ot nx') (caO ot ot') i1.toNat nx.length nx'.length st1.toNat st2.toNat else noX 2) else noX (vld2m i1 st1 nx ot i2 st2 nx' ot')
section
variable {i st n i' st' n' : Nat} {nx ot nx' ot' : List (List Int)}
theorem vld2m_ok (hM : Mok i st n nx ot) (hM' : Mok i' st' n' nx' ot') : vld2m i st nx ot i' st' nx' ot' = 0 := by unfold vld2m; rw [if_pos hM.vld]; exact hM'.vld
theorem vld2m_zero {i1 st1 i2 st2 : Int} (h : vld2m i1 st1 nx ot i2 st2 nx' ot' = 0) : ∃ i st n i' st' n' : Nat, i1 = i ∧ st1 = st ∧ i2 = i' ∧ st2 = st' ∧ Mok i st n nx ot ∧ Mok i' st' n' nx' ot' := by
  unfold vld2m at h
  by_cases h1 : vld i1 st1 nx ot = 0
  · rw [if_pos h1] at h
    obtain ⟨i, st, n, e1, e2, hM⟩ := vld_zero h1
    obtain ⟨i', st', n', e3, e4, hM'⟩ := vld_zero h
    exact ⟨i, st, n, i', st', n', e1, e2, e3, e4, hM, hM'⟩
  · rw [if_neg h1] at h; exact absurd h h1
theorem prX_ok (hM : Mok i st n nx ot) (hM' : Mok i st' n' nx' ot') : prX i st nx ot i st' nx' ot' = cmpX (prF nx nx') (prO ot ot' (grt ot')) i n n' st st' := by
  unfold prX; rw [if_pos (vld2m_ok hM hM'), if_pos rfl, hM.nxl, hM'.nxl]; simp only [Int.toNat_natCast]
theorem prX_no (hM : Mok i st n nx ot) (hM' : Mok i' st' n' nx' ot') (h : ¬ i = i') : prX i st nx ot i' st' nx' ot' = noX 15 := by
  unfold prX; rw [if_pos (vld2m_ok hM hM'), if_neg (by omega)]
theorem paX_ok (hM : Mok i st n nx ot) (hM' : Mok i' st' n' nx' ot') (h : i + i' ≤ 64) : paX i st nx ot i' st' nx' ot' = cmpX (paF i nx nx') (paO i ot ot' (grt ot)) (i + i') n n' st st' := by
  unfold paX; rw [if_pos (vld2m_ok hM hM'), if_pos (by omega), hM.nxl, hM'.nxl]; simp only [Int.toNat_natCast]
theorem paX_no (hM : Mok i st n nx ot) (hM' : Mok i' st' n' nx' ot') (h : ¬ i + i' ≤ 64) : paX i st nx ot i' st' nx' ot' = noX 2 := by
  unfold paX; rw [if_pos (vld2m_ok hM hM'), if_neg (by omega)]
theorem caX_ok (hM : Mok i st n nx ot) (hM' : Mok i' st' n' nx' ot') (h : grt ot < i') : caX i st nx ot i' st' nx' ot' = cmpX (caF nx ot nx') (caO ot ot') i n n' st st' := by
  unfold caX; rw [if_pos (vld2m_ok hM hM'), if_pos (by omega), hM.nxl, hM'.nxl]; simp only [Int.toNat_natCast]
theorem caX_no (hM : Mok i st n nx ot) (hM' : Mok i' st' n' nx' ot') (h : ¬ grt ot < i') : caX i st nx ot i' st' nx' ot' = noX 2 := by
  unfold caX; rw [if_pos (vld2m_ok hM hM'), if_neg (by omega)]
theorem xX_bad {i1 st1 i2 st2 : Int} (h : ¬ vld2m i1 st1 nx ot i2 st2 nx' ot' = 0) : prX i1 st1 nx ot i2 st2 nx' ot' = noX (vld2m i1 st1 nx ot i2 st2 nx' ot') ∧ paX i1 st1 nx ot i2 st2 nx' ot' = noX (vld2m i1 st1 nx ot i2 st2 nx' ot') ∧ caX i1 st1 nx ot i2 st2 nx' ot' = noX (vld2m i1 st1 nx ot i2 st2 nx' ot') := by
  unfold prX paX caX; rw [if_neg h, if_neg h, if_neg h]; exact ⟨rfl, rfl, rfl⟩
end
section
variable (i1 st1 i2 st2 : Int) (A B A' B' : Option Addr) (n c m d n2 c2 m2 d2 : Nat) (nx ot nx' ot' : List (List Int)) (w : World)
theorem pproduct_all (hx : Lists w A n nx) (ho : Lists w B m ot) (hx' : Lists w A' n2 nx') (ho' : Lists w B' m2 ot') :
    Calls Try.prog 32 #[.agg #[.int .i64 i1, .int .i64 st1, .slice A n c, .slice B m d], .agg #[.int .i64 i2, .int .i64 st2, .slice A' n2 c2, .slice B' m2 d2]] w fun e w' => RsP (prX i1 st1 nx ot i2 st2 nx' ot') e w' ∧ Below w.heap.size w w' := by
  by_cases hv : vld2m i1 st1 nx ot i2 st2 nx' ot' = 0
  · obtain ⟨i, st, k, i', st', k', rfl, rfl, rfl, rfl, hM, hM'⟩ := vld2m_zero hv
    obtain rfl : n = k := by rw [← hM.nxl]; exact hx.1.symm
    obtain rfl : n = m := by rw [← hM.otl]; exact ho.1
    obtain rfl : n2 = k' := by rw [← hM'.nxl]; exact hx'.1.symm
    obtain rfl : n2 = m2 := by rw [← hM'.otl]; exact ho'.1
    by_cases h : i = i'
    · subst h
      refine (pproduct i st n st' n2 A B A' B' c d c2 d2 nx ot nx' ot' w hx ho hx' ho' hM hM').mono ?_
      rintro e w' ⟨h1, h2⟩
      rw [prX_ok hM hM']
      exact ⟨h1.rs (pr_stp hM hM') hM.st hM'.st hM.i1 hM.i2, h2⟩
    · refine (pproduct_con i st n i' st' n2 A B A' B' c d c2 d2 nx ot nx' ot' w hx ho hx' ho' hM hM' h).mono ?_
      rintro e w' ⟨rfl, h2⟩
      rw [prX_no hM hM' h]
      exact ⟨NoM.rs _ _, h2⟩
  · refine (pproduct_bad i1 st1 i2 st2 n m n2 m2 A B A' B' c d c2 d2 nx ot nx' ot' w hx ho hx' ho' hv).mono ?_
    rintro e w' ⟨rfl, h2⟩
    rw [(xX_bad hv).1]
    exact ⟨NoM.rs _ _, h2⟩
theorem pparallel_all (hx : Lists w A n nx) (ho : Lists w B m ot) (hx' : Lists w A' n2 nx') (ho' : Lists w B' m2 ot') :
    Calls Try.prog 34 #[.agg #[.int .i64 i1, .int .i64 st1, .slice A n c, .slice B m d], .agg #[.int .i64 i2, .int .i64 st2, .slice A' n2 c2, .slice B' m2 d2]] w fun e w' => RsP (paX i1 st1 nx ot i2 st2 nx' ot') e w' ∧ Below w.heap.size w w' := by
  by_cases hv : vld2m i1 st1 nx ot i2 st2 nx' ot' = 0
  · obtain ⟨i, st, k, i', st', k', rfl, rfl, rfl, rfl, hM, hM'⟩ := vld2m_zero hv
    obtain rfl : n = k := by rw [← hM.nxl]; exact hx.1.symm
    obtain rfl : n = m := by rw [← hM.otl]; exact ho.1
    obtain rfl : n2 = k' := by rw [← hM'.nxl]; exact hx'.1.symm
    obtain rfl : n2 = m2 := by rw [← hM'.otl]; exact ho'.1
    by_cases h : i + i' ≤ 64
    · refine (pparallel i st n i' st' n2 (i + i') A B A' B' c d c2 d2 nx ot nx' ot' w hx ho hx' ho' hM hM' rfl h).mono ?_
      rintro e w' ⟨h1, h2⟩
      rw [paX_ok hM hM' h]
      exact ⟨h1.rs (pa_stp hM hM') hM.st hM'.st (by have := hM.i1; omega) h, h2⟩
    · refine (pparallel_big i st n i' st' n2 A B A' B' c d c2 d2 nx ot nx' ot' w hx ho hx' ho' hM hM' (by omega)).mono ?_
      rintro e w' ⟨rfl, h2⟩
      rw [paX_no hM hM' h]
      exact ⟨NoM.rs _ _, h2⟩
  · refine (pparallel_bad i1 st1 i2 st2 n m n2 m2 A B A' B' c d c2 d2 nx ot nx' ot' w hx ho hx' ho' hv).mono ?_
    rintro e w' ⟨rfl, h2⟩
    rw [(xX_bad hv).2.1]
    exact ⟨NoM.rs _ _, h2⟩
theorem pcascade_all (hx : Lists w A n nx) (ho : Lists w B m ot) (hx' : Lists w A' n2 nx') (ho' : Lists w B' m2 ot') :
    Calls Try.prog 36 #[.agg #[.int .i64 i1, .int .i64 st1, .slice A n c, .slice B m d], .agg #[.int .i64 i2, .int .i64 st2, .slice A' n2 c2, .slice B' m2 d2]] w fun e w' => RsP (caX i1 st1 nx ot i2 st2 nx' ot') e w' ∧ Below w.heap.size w w' := by
  by_cases hv : vld2m i1 st1 nx ot i2 st2 nx' ot' = 0
  · obtain ⟨i, st, k, i', st', k', rfl, rfl, rfl, rfl, hM, hM'⟩ := vld2m_zero hv
    obtain rfl : n = k := by rw [← hM.nxl]; exact hx.1.symm
    obtain rfl : n = m := by rw [← hM.otl]; exact ho.1
    obtain rfl : n2 = k' := by rw [← hM'.nxl]; exact hx'.1.symm
    obtain rfl : n2 = m2 := by rw [← hM'.otl]; exact ho'.1
    by_cases h : grt ot < i'
    · refine (pcascade i st n i' st' n2 A B A' B' c d c2 d2 nx ot nx' ot' w hx ho hx' ho' hM hM' h).mono ?_
      rintro e w' ⟨h1, h2⟩
      rw [caX_ok hM hM' h]
      exact ⟨h1.rs (ca_stp hM hM' fun s a hs ha => Nat.lt_of_le_of_lt (hM.oM_grt hs ha) h) hM.st hM'.st hM.i1 hM.i2, h2⟩
    · refine (pcascade_bad2 i st n i' st' n2 A B A' B' c d c2 d2 nx ot nx' ot' w hx ho hx' ho' hM hM' h).mono ?_
      rintro e w' ⟨rfl, h2⟩
      rw [caX_no hM hM' h]
      exact ⟨NoM.rs _ _, h2⟩
  · refine (pcascade_bad i1 st1 i2 st2 n m n2 m2 A B A' B' c d c2 d2 nx ot nx' ot' w hx ho hx' ho' hv).mono ?_
    rintro e w' ⟨rfl, h2⟩
    rw [(xX_bad hv).2.2]
    exact ⟨NoM.rs _ _, h2⟩
end
end Go.Proofs.Ytogcecfeofbbnaa
end
