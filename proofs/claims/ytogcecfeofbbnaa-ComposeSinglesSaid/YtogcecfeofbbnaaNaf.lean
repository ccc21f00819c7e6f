/- Lemmas of the proofs of this seat, of the parts Gce, Gcf, Gcg, Growi, Conci, Sorti, Valr, Reachr, Outpr, Outpo, Cmpi, Outpp, Gcr. Conditions: none. -/
import Derived.Test.YtogcecfeofbbnaaNae
import Derived.Test.YtogcecfeofbbnaaProg
import Derived.Test.YtogcecfeofbbnaaNaa
import Derived.WalkSpells
import Derived.WalkLawsBesides
import Derived.Outline
import Derived.Lib.AppendZeros
import Derived.Test.YtogcecfeofbbnaaShelf
import Derived.Lib.OwnBridge
import Derived.Sort.OwnSortedInts
import Derived.Test.YtogcecfeofbbnaaNad
import Derived.Test.YtogcecfeofbbnaaNab
import Derived.Test.YtogcecfeofbbnaaNac
import Derived.Lib.SlicesCompact
section
/- The closures of Cascade. -/
namespace Go.Proofs.Ytogcecfeofbbnaa
open Go.RowKit

set_option maxHeartbeats 4000000 in
set_option maxRecDepth 100000 in
theorem cstep1 (g g' i st n i' st' n' : Nat) (A B A' B' : Option Addr) (c d c' d' : Nat) (nx ot nx' ot' : List (List Int)) (p q a : Nat) (w : World) (hM : Mok i st n nx ot) (hM' : Mok i' st' n' nx' ot')
    (hg : Mblk w g (.int .i64 i) (.int .i64 st) (.slice A n c) (.slice B n d)) (hg' : Mblk w g' (.int .i64 i') (.int .i64 st') (.slice A' n' c') (.slice B' n' d'))
    (hx : Lists w A n nx) (ho : Lists w B n ot) (hx' : Lists w A' n' nx') (ho' : Lists w B' n' ot') (hp : p < n) (hq : q < n') (ha : a < i) (ha' : oM ot p a < i') :
    Calls Try.prog 75 #[.agg #[.int .i64 p, .int .i64 q], .int .i64 a, .pointer (some ⟨g, 0, none⟩), .pointer (some ⟨g', 0, none⟩)] w fun e w' => e = .returned (.tuple #[.agg #[.int .i64 (nN nx p a : Nat), .int .i64 (nN nx' q (oM ot p a) : Nat)], .agg #[.bool true, .int .i64 (oM ot p a : Nat), .bool true, .int .i64 (oM ot' q (oM ot p a) : Nat)]]) ∧ Below w.heap.size w w' := by
  obtain ⟨w0, hw0, hb0, p1, p2, p3, hz0⟩ := step_boxes w p q
  have HW0 := Lib.hid hw0
  have HX := Lib.hid (fun (W : World) (h : Below w0.heap.size w0 W) => (hx.below hb0).below h)
  have HO := Lib.hid (fun (W : World) (h : Below w0.heap.size w0 W) => (ho.below hb0).below h)
  have HX' := Lib.hid (fun (W : World) (h : Below w0.heap.size w0 W) => (hx'.below hb0).below h)
  have HO' := Lib.hid (fun (W : World) (h : Below w0.heap.size w0 W) => (ho'.below hb0).below h)
  have hg0 := hg.on hb0
  have hg0' := hg'.on hb0
  obtain ⟨k0, k1, k2, k3, _⟩ := hg0.cells
  have c0 := cell_of_row w0 w.heap.size 0 _ _ (0, 0) p1
  have HG := Lib.hid hg0
  have HG' := Lib.hid hg0'
  have HP1 := Lib.hid p1
  have HP2 := Lib.hid p2
  have HP3 := Lib.hid p3
  have HB0 := Lib.hid hb0
  have HZ := Lib.hid hz0
  have HM := Lib.hid hM
  have HM' := Lib.hid hM'
  clear hw0 hb0 p1 p2 p3 hz0 hg hg' hg0 hg0' hx ho hx' ho' hM hM'
  rw [HW0.out] at k0 k1 k2 k3 c0
  go_enter Try.func75, Try.ntmps75
  go_wp2_with fail
  rw [← HW0.out]
  go_wp2_with fail
  refine (panswer i st n A B c d nx ot p a _ HM.out (HX.out _ (Below.refl _ _)) (HO.out _ (Below.refl _ _)) hp ha).mono ?_
  rintro e w1 ⟨rfl, b1⟩
  obtain ⟨w2, hw2⟩ : ∃ w2, w2 = w1.alloc (.cells #[.bool true, .int .i64 (oM ot p a : Nat)] 92) := ⟨_, rfl⟩
  have b12 : Below w1.heap.size w1 w2 := by rw [hw2]; exact alloc_below _ _
  have b02 := bt b1 b12
  have q2 : w2.heap[w1.heap.size]? = some (.cells #[.bool true, .int .i64 (oM ot p a : Nat)] 92 (0, 0)) := by rw [hw2]; exact heap_alloc_new _ _
  clear k0 k1 k2 k3 c0
  have p1 := (b02.block _ (heap_lt HP1.out)).trans HP1.out
  have c1 := cell_of_row w2 w.heap.size 1 _ _ (0, 0) p1
  obtain ⟨k0, k1, k2, k3, _⟩ := (HG'.out.on b02).cells
  have HW2 := Lib.hid hw2
  have HB2 := Lib.hid b02
  have HQ2 := Lib.hid q2
  have c2 := cell_of_row w2 w1.heap.size 1 _ _ (0, 0) q2
  rw [hw2] at k0 k1 k2 k3 c1 c2
  clear p1 b12 b02 hw2 q2
  have HZ1 := Lib.hid b1.size
  clear b1
  go_wp2_with fail
  rw [← HW2.out]
  refine (panswer i' st' n' A' B' c' d' nx' ot' q (oM ot p a) _ HM'.out (HX'.out _ HB2.out) (HO'.out _ HB2.out) hq ha').mono ?_
  rintro e w3 ⟨rfl, b3⟩
  clear k0 k1 k2 k3 c1 c2
  obtain ⟨w4, hw4⟩ : ∃ w4, w4 = w3.alloc (.cells #[.bool true, .int .i64 (oM ot' q (oM ot p a) : Nat)] 92) := ⟨_, rfl⟩
  have b34 : Below w3.heap.size w3 w4 := by rw [hw4]; exact alloc_below _ _
  have b24 := bt b3 b34
  have b04 := bt HB2.out b24
  have q4 : w4.heap[w3.heap.size]? = some (.cells #[.bool true, .int .i64 (oM ot' q (oM ot p a) : Nat)] 92 (0, 0)) := by rw [hw4]; exact heap_alloc_new _ _
  have q2 := (b24.block _ (heap_lt HQ2.out)).trans HQ2.out
  have r1 := (b04.block _ (heap_lt HP2.out)).trans HP2.out
  have r2 := (b04.block _ (heap_lt HP3.out)).trans HP3.out
  have s1 := cell_of_row w4 w1.heap.size 0 _ _ (0, 0) q2
  have s2 := cell_of_row w4 w1.heap.size 1 _ _ (0, 0) q2
  have s3 := cell_of_row w4 w3.heap.size 0 _ _ (0, 0) q4
  have s4 := cell_of_row w4 w3.heap.size 1 _ _ (0, 0) q4
  have u0 := cell_of_row w4 (w.heap.size + 1) 0 _ _ (0, 0) r1
  have u1 := cell_of_row w4 (w.heap.size + 1) 1 _ _ (0, 0) r1
  have v0 := cell_of_row w4 (w.heap.size + 2) 0 _ _ (0, 0) r2
  have v1 := cell_of_row w4 (w.heap.size + 2) 1 _ _ (0, 0) r2
  have v2 := cell_of_row w4 (w.heap.size + 2) 2 _ _ (0, 0) r2
  have v3 := cell_of_row w4 (w.heap.size + 2) 3 _ _ (0, 0) r2
  have f0 := frozen_of_row w4 (w.heap.size + 1) 0 _ _ r1
  have f1 := frozen_of_row w4 (w.heap.size + 1) 1 _ _ r1
  have g0 := frozen_of_row w4 (w.heap.size + 2) 0 _ _ r2
  have g1 := frozen_of_row w4 (w.heap.size + 2) 1 _ _ r2
  have g2 := frozen_of_row w4 (w.heap.size + 2) 2 _ _ r2
  have g3 := frozen_of_row w4 (w.heap.size + 2) 3 _ _ r2
  have HW4 := Lib.hid hw4
  have HB4 := Lib.hid (bt HB0.out b04)
  have HR1 := Lib.hid r1
  have HR2 := Lib.hid r2
  have hz2 := (bt HB0.out HB2.out).size
  have hz4 := HB4.out.size
  have hz1 : w.heap.size + 3 ≤ w1.heap.size := by rw [← HZ.out]; exact HZ1.out
  have hz3 : w.heap.size + 3 ≤ w3.heap.size := by have := b3.size; have := HB2.out.size; rw [HZ.out] at this; omega
  clear b3 b34 b24 b04 q4 q2 r1 r2 hw4
  have n1 : w1.heap.size ≠ w.heap.size + 1 := by omega
  have n2 : w1.heap.size ≠ w.heap.size + 2 := by omega
  have n3 : w3.heap.size ≠ w.heap.size + 1 := by omega
  have n4 : w3.heap.size ≠ w.heap.size + 2 := by omega
  go_wp2_with fail
  rw [← HW4.out]
  have KEY := Lib.hid (fun (W : World) (h : Q4 w1.heap.size w3.heap.size (.bool true) (.int .i64 (oM ot p a : Nat)) (.bool true) (.int .i64 (oM ot' q (oM ot p a) : Nat)) W) => show W.cell? ⟨w1.heap.size, 0, none⟩ = some (.bool true) ∧ W.cell? ⟨w1.heap.size, 1, none⟩ = some (.int .i64 (oM ot p a : Nat)) ∧ W.cell? ⟨w3.heap.size, 0, none⟩ = some (.bool true) ∧ W.cell? ⟨w3.heap.size, 1, none⟩ = some (.int .i64 (oM ot' q (oM ot p a) : Nat)) from h)
  have KZ := Lib.hid (show Q4 w1.heap.size w3.heap.size (.bool true) (.int .i64 (oM ot p a : Nat)) (.bool true) (.int .i64 (oM ot' q (oM ot p a) : Nat)) w4 from ⟨s1, s2, s3, s4⟩)
  go_region_held3 (fun w' => w'.cell? ⟨w1.heap.size, 0, none⟩ = some (.bool true) ∧ w'.cell? ⟨w1.heap.size, 1, none⟩ = some (.int .i64 (oM ot p a : Nat)) ∧ w'.cell? ⟨w3.heap.size, 0, none⟩ = some (.bool true) ∧ w'.cell? ⟨w3.heap.size, 1, none⟩ = some (.int .i64 (oM ot' q (oM ot p a) : Nat)))
    ((refine KEY.out _ ?_; repeat (first | (with_reducible exact KZ.out) | (with_reducible apply Q4.drew) | (with_reducible apply Q4.set _ (by omega) (by omega))))) (fail)
  obtain ⟨W, hW, e1, e2, e3⟩ := six_sets HR1.out HR2.out HB4.out (.int .i64 (nN nx p a : Nat)) (.int .i64 (nN nx' q (oM ot p a) : Nat)) (.bool true) (.int .i64 (oM ot p a : Nat)) (.bool true) (.int .i64 (oM ot' q (oM ot p a) : Nat))
  rw [hW]
  clear hW s1 s2 s3 s4 u0 u1 v0 v1 v2 v3 f0 f1 g0 g1 g2 g3
  go_wp2
  (try simp only [Exit.inBlock, Exit.then])
  refine bodyPost_ret (results_two_rows (by rfl) _ _ (w.heap.size + 1) (w.heap.size + 1 + 1) _ _ rfl (load_pairc e1) rfl (load_outputs e2)) rfl ?_
  exact ⟨rfl, e3⟩
end Go.Proofs.Ytogcecfeofbbnaa
end

section
/- The closures of Parallel. -/
namespace Go.Proofs.Ytogcecfeofbbnaa
open Go.RowKit
set_option linter.unusedVariables false

set_option maxHeartbeats 4000000 in
set_option maxRecDepth 100000 in
theorem astep1 (g g' i st n i' st' n' : Nat) (A B A' B' : Option Addr) (c d c' d' : Nat) (nx ot nx' ot' : List (List Int)) (p q a : Nat) (w : World) (hM : Mok i st n nx ot) (hM' : Mok i' st' n' nx' ot')
    (hg : Mblk w g (.int .i64 i) (.int .i64 st) (.slice A n c) (.slice B n d)) (hg' : Mblk w g' (.int .i64 i') (.int .i64 st') (.slice A' n' c') (.slice B' n' d'))
    (hx : Lists w A n nx) (ho : Lists w B n ot) (hx' : Lists w A' n' nx') (ho' : Lists w B' n' ot') (hp : p < n) (hq : q < n') (ha : a < i) :
    Calls Try.prog 73 #[.agg #[.int .i64 p, .int .i64 q], .int .i64 a, .pointer (some ⟨g, 0, none⟩), .pointer (some ⟨g', 0, none⟩)] w fun e w' => e = .returned (.tuple #[.agg #[.int .i64 (nN nx p a : Nat), .int .i64 (q : Nat)], .agg #[.bool true, .int .i64 (oM ot p a : Nat), .bool false, .int .i64 0]]) ∧ Below w.heap.size w w' := by
  obtain ⟨w0, hw0, hb0, p1, p2, p3, hz0⟩ := step_boxes w p q
  have HW0 := Lib.hid hw0
  have HX := Lib.hid (fun (W : World) (h : Below w0.heap.size w0 W) => (hx.below hb0).below h)
  have HO := Lib.hid (fun (W : World) (h : Below w0.heap.size w0 W) => (ho.below hb0).below h)
  have hg0 := hg.on hb0
  have hg0' := hg'.on hb0
  obtain ⟨k0, k1, k2, k3, _⟩ := hg0.cells
  obtain ⟨j0, j1, j2, j3, _⟩ := hg0'.cells
  have c0 := cell_of_row w0 w.heap.size 0 _ _ (0, 0) p1
  have c1 := cell_of_row w0 w.heap.size 1 _ _ (0, 0) p1
  have HP1 := Lib.hid p1
  have HP2 := Lib.hid p2
  have HP3 := Lib.hid p3
  have HB0 := Lib.hid hb0
  have HZ := Lib.hid hz0
  have hi1 := hM.i2
  have t1 : decide (a < i) = true := by simpa using ha
  have HM := Lib.hid hM
  clear hw0 hb0 p1 p2 p3 hz0 hg hg' hg0 hg0' hx ho hx' ho' hM hM'
  rw [HW0.out] at k0 k1 k2 k3 j0 j1 j2 j3 c0 c1
  go_enter Try.func73, Try.ntmps73
  go_wp2_with fail
  rw [← HW0.out]
  refine (panswer i st n A B c d nx ot p a _ HM.out (HX.out _ (Below.refl _ _)) (HO.out _ (Below.refl _ _)) hp ha).mono ?_
  rintro e w1 ⟨rfl, b1⟩
  obtain ⟨w4, hw4⟩ : ∃ w4, w4 = w1.alloc (.cells #[.bool true, .int .i64 (oM ot p a : Nat)] 92) := ⟨_, rfl⟩
  have b14 : Below w1.heap.size w1 w4 := by rw [hw4]; exact alloc_below _ _
  have b04 := bt b1 b14
  have q4 : w4.heap[w1.heap.size]? = some (.cells #[.bool true, .int .i64 (oM ot p a : Nat)] 92 (0, 0)) := by rw [hw4]; exact heap_alloc_new _ _
  have q2 := (b04.block _ (heap_lt HP1.out)).trans HP1.out
  have r1 := (b04.block _ (heap_lt HP2.out)).trans HP2.out
  have r2 := (b04.block _ (heap_lt HP3.out)).trans HP3.out
  have s1 := cell_of_row w4 w1.heap.size 0 _ _ (0, 0) q4
  have s2 := cell_of_row w4 w1.heap.size 1 _ _ (0, 0) q4
  have s3 := cell_of_row w4 w.heap.size 0 _ _ (0, 0) q2
  have s4 := cell_of_row w4 w.heap.size 1 _ _ (0, 0) q2
  have u0 := cell_of_row w4 (w.heap.size + 1) 0 _ _ (0, 0) r1
  have u1 := cell_of_row w4 (w.heap.size + 1) 1 _ _ (0, 0) r1
  have v0 := cell_of_row w4 (w.heap.size + 2) 0 _ _ (0, 0) r2
  have v1 := cell_of_row w4 (w.heap.size + 2) 1 _ _ (0, 0) r2
  have v2 := cell_of_row w4 (w.heap.size + 2) 2 _ _ (0, 0) r2
  have v3 := cell_of_row w4 (w.heap.size + 2) 3 _ _ (0, 0) r2
  have f0 := frozen_of_row w4 (w.heap.size + 1) 0 _ _ r1
  have f1 := frozen_of_row w4 (w.heap.size + 1) 1 _ _ r1
  have g0 := frozen_of_row w4 (w.heap.size + 2) 0 _ _ r2
  have g1 := frozen_of_row w4 (w.heap.size + 2) 1 _ _ r2
  have g2 := frozen_of_row w4 (w.heap.size + 2) 2 _ _ r2
  have g3 := frozen_of_row w4 (w.heap.size + 2) 3 _ _ r2
  have HW4 := Lib.hid hw4
  have HB4 := Lib.hid (bt HB0.out b04)
  have HR1 := Lib.hid r1
  have HR2 := Lib.hid r2
  have hz4 := HB4.out.size
  have hz1 : w.heap.size + 3 ≤ w1.heap.size := by rw [← HZ.out]; exact b1.size
  clear b1 b14 b04 q4 q2 r1 r2 hw4 k0 k1 k2 k3 j0 j1 j2 j3 c0 c1
  have n1 : w1.heap.size ≠ w.heap.size + 1 := by omega
  have n2 : w1.heap.size ≠ w.heap.size + 2 := by omega
  have n3 : w.heap.size ≠ w.heap.size + 1 := by omega
  have n4 : w.heap.size ≠ w.heap.size + 2 := by omega
  go_wp2_with fail
  rw [← HW4.out]
  have KEY := Lib.hid (fun (W : World) (h : Q4 w1.heap.size w.heap.size (.bool true) (.int .i64 (oM ot p a : Nat)) (.int .i64 p) (.int .i64 q) W) => show W.cell? ⟨w1.heap.size, 0, none⟩ = some (.bool true) ∧ W.cell? ⟨w1.heap.size, 1, none⟩ = some (.int .i64 (oM ot p a : Nat)) ∧ W.cell? ⟨w.heap.size, 0, none⟩ = some (.int .i64 p) ∧ W.cell? ⟨w.heap.size, 1, none⟩ = some (.int .i64 q) from h)
  have KZ := Lib.hid (show Q4 w1.heap.size w.heap.size (.bool true) (.int .i64 (oM ot p a : Nat)) (.int .i64 p) (.int .i64 q) w4 from ⟨s1, s2, s3, s4⟩)
  go_region_held3 (fun w' => w'.cell? ⟨w1.heap.size, 0, none⟩ = some (.bool true) ∧ w'.cell? ⟨w1.heap.size, 1, none⟩ = some (.int .i64 (oM ot p a : Nat)) ∧ w'.cell? ⟨w.heap.size, 0, none⟩ = some (.int .i64 p) ∧ w'.cell? ⟨w.heap.size, 1, none⟩ = some (.int .i64 q))
    ((refine KEY.out _ ?_; repeat (first | (with_reducible exact KZ.out) | (with_reducible apply Q4.drew) | (with_reducible apply Q4.set _ (by omega) (by omega))))) (fail)
  obtain ⟨W, hW, e1, e2, e3⟩ := six_sets HR1.out HR2.out HB4.out (.int .i64 (nN nx p a : Nat)) (.int .i64 (q : Nat)) (.bool true) (.int .i64 (oM ot p a : Nat)) (.bool false) (.int .i64 0)
  rw [hW]
  clear hW s1 s2 s3 s4 u0 u1 v0 v1 v2 v3 f0 f1 g0 g1 g2 g3
  go_wp2
  (try simp only [Exit.inBlock, Exit.then])
  refine bodyPost_ret (results_two_rows (by rfl) _ _ (w.heap.size + 1) (w.heap.size + 1 + 1) _ _ rfl (load_pairc e1) rfl (load_outputs e2)) rfl ?_
  exact ⟨rfl, e3⟩
set_option maxHeartbeats 4000000 in
set_option maxRecDepth 100000 in
theorem astep2 (g g' i st n i' st' n' : Nat) (A B A' B' : Option Addr) (c d c' d' : Nat) (nx ot nx' ot' : List (List Int)) (p q a : Nat) (w : World) (hM : Mok i st n nx ot) (hM' : Mok i' st' n' nx' ot')
    (hg : Mblk w g (.int .i64 i) (.int .i64 st) (.slice A n c) (.slice B n d)) (hg' : Mblk w g' (.int .i64 i') (.int .i64 st') (.slice A' n' c') (.slice B' n' d'))
    (hx : Lists w A n nx) (ho : Lists w B n ot) (hx' : Lists w A' n' nx') (ho' : Lists w B' n' ot') (hp : p < n) (hq : q < n') (ha : ¬ a < i) (ha' : a - i < i') (ha64 : a ≤ 128) :
    Calls Try.prog 73 #[.agg #[.int .i64 p, .int .i64 q], .int .i64 a, .pointer (some ⟨g, 0, none⟩), .pointer (some ⟨g', 0, none⟩)] w fun e w' => e = .returned (.tuple #[.agg #[.int .i64 (p : Nat), .int .i64 (nN nx' q (a - i) : Nat)], .agg #[.bool false, .int .i64 0, .bool true, .int .i64 (oM ot' q (a - i) : Nat)]]) ∧ Below w.heap.size w w' := by
  obtain ⟨w0, hw0, hb0, p1, p2, p3, hz0⟩ := step_boxes w p q
  have HW0 := Lib.hid hw0
  have HX := Lib.hid (fun (W : World) (h : Below w0.heap.size w0 W) => (hx'.below hb0).below h)
  have HO := Lib.hid (fun (W : World) (h : Below w0.heap.size w0 W) => (ho'.below hb0).below h)
  have hg0 := hg.on hb0
  have hg0' := hg'.on hb0
  obtain ⟨k0, k1, k2, k3, _⟩ := hg0.cells
  obtain ⟨j0, j1, j2, j3, _⟩ := hg0'.cells
  have c0 := cell_of_row w0 w.heap.size 0 _ _ (0, 0) p1
  have c1 := cell_of_row w0 w.heap.size 1 _ _ (0, 0) p1
  have HP1 := Lib.hid p1
  have HP2 := Lib.hid p2
  have HP3 := Lib.hid p3
  have HB0 := Lib.hid hb0
  have HZ := Lib.hid hz0
  have hi1 := hM.i2
  have t1 : decide (a < i) = false := by simpa using ha
  have t2 : (a : Int) - (i : Int) = ((a - i : Nat) : Int) := by omega
  have HM := Lib.hid hM'
  clear hw0 hb0 p1 p2 p3 hz0 hg hg' hg0 hg0' hx ho hx' ho' hM hM'
  rw [HW0.out] at k0 k1 k2 k3 j0 j1 j2 j3 c0 c1
  go_enter Try.func73, Try.ntmps73
  go_wp2_with fail
  rw [← HW0.out]
  refine (panswer i' st' n' A' B' c' d' nx' ot' q (a - i) _ HM.out (HX.out _ (Below.refl _ _)) (HO.out _ (Below.refl _ _)) hq ha').mono ?_
  rintro e w1 ⟨rfl, b1⟩
  obtain ⟨w4, hw4⟩ : ∃ w4, w4 = w1.alloc (.cells #[.bool true, .int .i64 (oM ot' q (a - i) : Nat)] 92) := ⟨_, rfl⟩
  have b14 : Below w1.heap.size w1 w4 := by rw [hw4]; exact alloc_below _ _
  have b04 := bt b1 b14
  have q4 : w4.heap[w1.heap.size]? = some (.cells #[.bool true, .int .i64 (oM ot' q (a - i) : Nat)] 92 (0, 0)) := by rw [hw4]; exact heap_alloc_new _ _
  have q2 := (b04.block _ (heap_lt HP1.out)).trans HP1.out
  have r1 := (b04.block _ (heap_lt HP2.out)).trans HP2.out
  have r2 := (b04.block _ (heap_lt HP3.out)).trans HP3.out
  have s1 := cell_of_row w4 w1.heap.size 0 _ _ (0, 0) q4
  have s2 := cell_of_row w4 w1.heap.size 1 _ _ (0, 0) q4
  have s3 := cell_of_row w4 w.heap.size 0 _ _ (0, 0) q2
  have s4 := cell_of_row w4 w.heap.size 1 _ _ (0, 0) q2
  have u0 := cell_of_row w4 (w.heap.size + 1) 0 _ _ (0, 0) r1
  have u1 := cell_of_row w4 (w.heap.size + 1) 1 _ _ (0, 0) r1
  have v0 := cell_of_row w4 (w.heap.size + 2) 0 _ _ (0, 0) r2
  have v1 := cell_of_row w4 (w.heap.size + 2) 1 _ _ (0, 0) r2
  have v2 := cell_of_row w4 (w.heap.size + 2) 2 _ _ (0, 0) r2
  have v3 := cell_of_row w4 (w.heap.size + 2) 3 _ _ (0, 0) r2
  have f0 := frozen_of_row w4 (w.heap.size + 1) 0 _ _ r1
  have f1 := frozen_of_row w4 (w.heap.size + 1) 1 _ _ r1
  have g0 := frozen_of_row w4 (w.heap.size + 2) 0 _ _ r2
  have g1 := frozen_of_row w4 (w.heap.size + 2) 1 _ _ r2
  have g2 := frozen_of_row w4 (w.heap.size + 2) 2 _ _ r2
  have g3 := frozen_of_row w4 (w.heap.size + 2) 3 _ _ r2
  have HW4 := Lib.hid hw4
  have HB4 := Lib.hid (bt HB0.out b04)
  have HR1 := Lib.hid r1
  have HR2 := Lib.hid r2
  have hz4 := HB4.out.size
  have hz1 : w.heap.size + 3 ≤ w1.heap.size := by rw [← HZ.out]; exact b1.size
  clear b1 b14 b04 q4 q2 r1 r2 hw4 k0 k1 k2 k3 j0 j1 j2 j3 c0 c1
  have n1 : w1.heap.size ≠ w.heap.size + 1 := by omega
  have n2 : w1.heap.size ≠ w.heap.size + 2 := by omega
  have n3 : w.heap.size ≠ w.heap.size + 1 := by omega
  have n4 : w.heap.size ≠ w.heap.size + 2 := by omega
  go_wp2_with fail
  rw [← HW4.out]
  have KEY := Lib.hid (fun (W : World) (h : Q4 w1.heap.size w.heap.size (.bool true) (.int .i64 (oM ot' q (a - i) : Nat)) (.int .i64 p) (.int .i64 q) W) => show W.cell? ⟨w1.heap.size, 0, none⟩ = some (.bool true) ∧ W.cell? ⟨w1.heap.size, 1, none⟩ = some (.int .i64 (oM ot' q (a - i) : Nat)) ∧ W.cell? ⟨w.heap.size, 0, none⟩ = some (.int .i64 p) ∧ W.cell? ⟨w.heap.size, 1, none⟩ = some (.int .i64 q) from h)
  have KZ := Lib.hid (show Q4 w1.heap.size w.heap.size (.bool true) (.int .i64 (oM ot' q (a - i) : Nat)) (.int .i64 p) (.int .i64 q) w4 from ⟨s1, s2, s3, s4⟩)
  go_region_held3 (fun w' => w'.cell? ⟨w1.heap.size, 0, none⟩ = some (.bool true) ∧ w'.cell? ⟨w1.heap.size, 1, none⟩ = some (.int .i64 (oM ot' q (a - i) : Nat)) ∧ w'.cell? ⟨w.heap.size, 0, none⟩ = some (.int .i64 p) ∧ w'.cell? ⟨w.heap.size, 1, none⟩ = some (.int .i64 q))
    ((refine KEY.out _ ?_; repeat (first | (with_reducible exact KZ.out) | (with_reducible apply Q4.drew) | (with_reducible apply Q4.set _ (by omega) (by omega))))) (fail)
  obtain ⟨W, hW, e1, e2, e3⟩ := six_sets HR1.out HR2.out HB4.out (.int .i64 (p : Nat)) (.int .i64 (nN nx' q (a - i) : Nat)) (.bool false) (.int .i64 0) (.bool true) (.int .i64 (oM ot' q (a - i) : Nat))
  rw [hW]
  clear hW s1 s2 s3 s4 u0 u1 v0 v1 v2 v3 f0 f1 g0 g1 g2 g3
  go_wp2
  (try simp only [Exit.inBlock, Exit.then])
  refine bodyPost_ret (results_two_rows (by rfl) _ _ (w.heap.size + 1) (w.heap.size + 1 + 1) _ _ rfl (load_pairc e1) rfl (load_outputs e2)) rfl ?_
  exact ⟨rfl, e3⟩
end Go.Proofs.Ytogcecfeofbbnaa
end

section
/- The closures that number the outputs. -/
namespace Go.Proofs.Ytogcecfeofbbnaa
open Go.RowKit

theorem ret_int14 {a b : Int} (h : a = b) : Ending.returned (.int .i64 a) = .returned (.int .i64 b) := by rw [h]
set_option maxRecDepth 100000 in
theorem pnumber (g x y wd : Nat) (u v : Bool) (w : World) (hg : w.cell? ⟨g, 0, none⟩ = some (.int .i64 wd)) (hx : x ≤ 1048576) (hy : y ≤ 1048576) (hw : wd ≤ 1048577) :
    Calls Try.prog 69 #[.agg #[.bool u, .int .i64 x, .bool v, .int .i64 y], .pointer (some ⟨g, 0, none⟩)] w fun e w' => e = .returned (.int .i64 (x * wd + y : Nat)) ∧ Below w.heap.size w w' := by
  have hb0 := alloc_below w (.cells #[.bool u, .int .i64 x, .bool v, .int .i64 y] 94)
  have hgn := ((hb0.cell (p := ⟨g, 0, none⟩) (World.block_lt_of_cell? w _ hg))).trans hg
  have hm : x * wd ≤ 1048576 * 1048577 := Nat.mul_le_mul hx hw
  obtain ⟨m, hm2⟩ : ∃ m, m = x * wd := ⟨_, rfl⟩
  have e1 : (x : Int) * (wd : Int) = (m : Int) := by rw [hm2]; exact (Int.natCast_mul x wd).symm
  rw [← hm2] at hm ⊢
  clear hm2 hg
  go_enter Try.func69, Try.ntmps69
  go_wp2
  go_ret
  exact ⟨ret_int14 (by omega), hb0⟩
set_option maxRecDepth 100000 in
theorem anumber1 (g x f : Nat) (u : Bool) (w : World) (hg : w.cell? ⟨g, 0, none⟩ = some (.int .i64 f)) :
    Calls Try.prog 74 #[.agg #[.bool u, .int .i64 x, .bool false, .int .i64 0], .pointer (some ⟨g, 0, none⟩)] w fun e w' => e = .returned (.int .i64 x) ∧ Below w.heap.size w w' := by
  have hb0 := alloc_below w (.cells #[.bool u, .int .i64 x, .bool false, .int .i64 0] 94)
  have hgn := ((hb0.cell (p := ⟨g, 0, none⟩) (World.block_lt_of_cell? w _ hg))).trans hg
  clear hg
  go_enter Try.func74, Try.ntmps74
  go_wp2
  go_ret
  exact ⟨rfl, hb0.alloc (by simp) _⟩
set_option maxRecDepth 100000 in
theorem anumber2 (g y f : Nat) (w : World) (hg : w.cell? ⟨g, 0, none⟩ = some (.int .i64 f)) (hy : y ≤ 1048576) (hf : f ≤ 1048577) :
    Calls Try.prog 74 #[.agg #[.bool false, .int .i64 0, .bool true, .int .i64 y], .pointer (some ⟨g, 0, none⟩)] w fun e w' => e = .returned (.int .i64 (f + y : Nat)) ∧ Below w.heap.size w w' := by
  have hb0 := alloc_below w (.cells #[.bool false, .int .i64 0, .bool true, .int .i64 y] 94)
  have hb1 := hb0.alloc (by simp) (.cells #[.bool false, .int .i64 0] 92)
  have hgn := ((hb1.cell (p := ⟨g, 0, none⟩) (World.block_lt_of_cell? w _ hg))).trans hg
  clear hg hb0
  go_enter Try.func74, Try.ntmps74
  go_wp2
  go_ret
  exact ⟨ret_int14 (by omega), hb1⟩
set_option maxRecDepth 100000 in
theorem cnumber (x y : Nat) (u v : Bool) (w : World) :
    Calls Try.prog 76 #[.agg #[.bool u, .int .i64 x, .bool v, .int .i64 y]] w fun e w' => e = .returned (.int .i64 y) ∧ Below w.heap.size w w' := by
  have hb0 := alloc_below w (.cells #[.bool u, .int .i64 x, .bool v, .int .i64 y] 94)
  go_enter Try.func76, Try.ntmps76
  go_wp2
  go_ret
  exact ⟨rfl, hb0⟩
end Go.Proofs.Ytogcecfeofbbnaa
end

section
/- The walk of slices.Grow of a nil slice. -/
namespace Go.Proofs.Ytogcecfeofbbnaa
open Go.RowKit

set_option maxHeartbeats 1000000 in
set_option maxRecDepth 100000 in
theorem grow_nil (N : Nat) (hN : N ≤ 17592186044416) (w : World) :
    Calls Try.prog 114 #[.slice none 0 0, .int .i64 N] w fun e w' => ∃ v, e = .returned v ∧ w'.ownsRow w.heap.size 3 1 v 0 [] ∧ Below w.heap.size w w' := by
  obtain ⟨i0, hi, hz0, hz1, hz2⟩ := info_parts info3
  by_cases h0 : N = 0
  · subst h0
    go_enter Try.func114, Try.ntmps114
    go_wp2
    go_ret
    exact ⟨_, rfl, World.ownsRow_nil _ _ _ _, Below.refl _ _⟩
  · have happ := Lib.run_append_nil_zeros (P := Try.prog) w 27 3 27 3 i0 (.int .i64 0) .i64 .i64 Try.underlying27 Try.underlying3 hi hz0 N (by omega) (by omega) (by omega) (by rw [hz2]; omega)
    have hge := grownCap_ge w N 0 3
    have hcm := grownCap_le_maxLen w N 0 3 (by unfold maxLen; omega)
    generalize grownCap w N 0 3 = cap at happ hge hcm
    generalize hZ : (Builtin.zeroCells (Value.int .i64 0).cells N ++ Builtin.zeroCells (Value.int .i64 0).cells (cap - N)) = Z at happ
    have hZs : Z.size = cap := by rw [← hZ]; simp [size_zeroCells, Value.cells]; omega
    have hp : (0 : Int) < N := by omega
    have HZ := Lib.hid hZs
    clear hZ hZs
    have hmx : cap ≤ 9223372036854775807 := by unfold maxLen at hcm; omega
    go_enter Try.func114, Try.ntmps114
    go_wp2_with (at_builtin; refine Lib.wpList_append_run _ rfl _ _ _ _ rfl _ _ rfl rfl _ _ happ ?_)
    go_ret
    refine ⟨_, rfl, ?_, (Below.refl _ _).drew.alloc (Nat.le_refl _) _⟩
    refine ⟨by simp, .inr ⟨w.heap.size, cap, Z, rfl, Nat.le_refl _, heap_alloc_new w _, Nat.zero_le _, hcm, by rw [HZ.out]; simp, by simp⟩⟩
end Go.Proofs.Ytogcecfeofbbnaa
end

section
/- slices.Concat of lists of numbers. -/
namespace Go.Proofs.Ytogcecfeofbbnaa
open Go.RowKit

set_option maxHeartbeats 1000000 in
set_option maxRecDepth 100000 in
theorem sconcat (A : Option Addr) (n c : Nat) (xss : List (List Int)) (w : World) (h : Lists w A n xss) (hlen : xss.flatten.length ≤ 17592186044416) :
    Calls Try.prog 90 #[.slice A n c] w fun e w' => ∃ A' c', e = .returned (.slice A' xss.flatten.length c') ∧ Owned w' w.heap.size (.slice A' xss.flatten.length c') xss.flatten ∧ Below w.heap.size w w' := by
  have L := Lib.hid h.1
  have hn := h.2.1
  have hall := Lib.hid (show cat xss n = xss.flatten by rw [← L.out, cat_all])
  have hcl := Lib.hid (fun j => Nat.le_trans (cat_len xss j) hlen)
  clear hlen
  go_enter Try.func90, Try.ntmps90
  go_wp2
  go_loop [3, 11] (fun s i => ∃ k : Nat, k ≤ n ∧ i = .int .i64 k ∧ s = .int .i64 (cat xss k).length) (fun _ i => n - (intOf i).toNat)
  case atStart => exact ⟨0, Nat.zero_le _, rfl, by rw [cat_zero]; rfl⟩
  case round =>
    obtain ⟨k, hk, rfl, rfl⟩ := hrel
    by_cases hlt : k < n
    · obtain ⟨b, off, Aj, nj, cj, rfl, _, hcell, hI⟩ := h.at_ hlt
      have hs : (cat xss (k + 1)).length = (cat xss k).length + nj := by rw [cat_succ (by rw [L.out]; exact hlt), List.length_append, hI.1]
      have hc1 := hcl.out (k + 1)
      generalize (cat xss k).length = a at hs
      generalize hz : (cat xss (k + 1)).length = z at hs hc1
      have HZ := Lib.hid hz
      have u1 : ((a : Int) + (nj : Int)) = (z : Int) := by omega
      have d1 : decide (((z : Nat) : Int) < 0) = false := by simp
      clear hI hz hs
      go_wp2
      go_round
      case rel => exact ⟨k + 1, by omega, by go_num, by rw [HZ.out]⟩
      case measure => simp [intOf]; omega
    · obtain rfl : k = n := by omega
      rw [hall.out]
      have hf := hcl.out k
      rw [hall.out] at hf
      obtain ⟨F, hF⟩ : ∃ F : Nat, F = xss.flatten.length := ⟨_, rfl⟩
      rw [← hF] at hf ⊢
      have HF := Lib.hid hF
      clear hF
      go_wp2_with fail
      refine (grow_nil F hf _).mono ?_
      rintro e w1 ⟨v1, rfl, o1, b1⟩
      have O1 := Lib.hid (show Owned w1 w.heap.size v1 [] from o1)
      clear o1
      go_wp2
      go_loopw [6, 27] (fun v i wr => ∃ q : Nat, q ≤ k ∧ i = .int .i64 q ∧ Owned wr w.heap.size v (cat xss q) ∧ Below w.heap.size w wr) (fun _ i _ => k - (intOf i).toNat)
      case atStart => exact ⟨0, Nat.zero_le _, rfl, by rw [cat_zero]; exact O1.out, b1⟩
      case round =>
        obtain ⟨q, hq, rfl, hown, hbr⟩ := hrel
        by_cases hlt : q < k
        · obtain ⟨b, off, Aj, nj, cj, rfl, _, hcell, hI⟩ := (h.below hbr).at_ hlt
          have hs := Lib.hid (cat_succ (xss := xss) (j := q) (by rw [L.out]; exact hlt))
          have hb2 := hcl.out (q + 1)
          rw [hs.out] at hb2
          obtain ⟨v', w', hr, ho', _, hbel'⟩ := run_append_ints _ _ _ _ _ _ _ cj hown hI hbr.size hb2
          rw [← hs.out] at ho'
          have O2 := Lib.hid ho'
          have B2 := Lib.hid (hbr.trans hbel')
          clear hb2 hI hown hbr ho' hbel'
          go_wp2_with (at_builtin; refine Lib.wpList_append_run _ rfl _ _ _ _ rfl _ _ rfl rfl _ _ hr ?_)
          go_roundw
          case rel => exact ⟨q + 1, by omega, by go_num, O2.out, B2.out⟩
          case measure => simp [intOf]; omega
        · obtain rfl : q = k := by omega
          rw [hall.out] at hown
          have hf2 := hown.form
          obtain ⟨A2, c2, rfl⟩ := hf2
          have O2 := Lib.hid hown
          clear hown
          go_wp2
          go_ret
          exact ⟨A2, c2, rfl, O2.out, hbr⟩
end Go.Proofs.Ytogcecfeofbbnaa
end

section
/- slices.Sort and slices.Compact at a row of one's own. -/
namespace Go.Proofs.Ytogcecfeofbbnaa
open Go.RowKit Go.Sort

theorem psorti (A : Option Addr) (n c : Nat) (xs : List Int) (base : Nat) (w : World) (ho : Owned w base (.slice A n c) xs) (hb : base ≤ w.heap.size) (hn : n ≤ 17592186044416) :
    Calls Try.prog 109 #[.slice A n c] w fun e w' => e = .returned (.tuple #[]) ∧ Owned w' base (.slice A n c) (xs.mergeSort fun x y => decide (x ≤ y)) ∧ Below base w w' := by
  have hl : xs.length = n := by obtain ⟨A', c', e⟩ := ho.form; cases e; rfl
  subst hl
  rcases ho.2 with ⟨e, h0⟩ | ⟨g, cap, cur, e, hbg, hg, h1, h2, h3, h4⟩
  · have hx : xs = [] := List.eq_nil_of_length_eq_zero h0
    subst hx
    refine (Try.slices_Sort_int_none A c w).mono ?_
    rintro e w' ⟨rfl, rfl⟩
    exact ⟨rfl, by rw [List.mergeSort_nil]; exact ho, Below.refl _ _⟩
  · cases e
    have hH := holds_of_blockI hg (by rw [Nat.mul_one] at h4; exact h4)
    refine (Try.slices_Sort_int g 0 c xs w hH (by
      rcases Nat.lt_or_ge g w.heap.size with hlt | hge
      · exact hlt
      · rw [Array.getElem?_eq_none hge] at hg; cases hg) (by omega)).mono ?_
    rintro e w' ⟨rfl, m, os, rfl⟩
    refine ⟨rfl, ?_, (Below.refl _ _).grown (grownBy_sortedI _) hb (fun k hk => by cases hk; exact hbg)⟩
    have := ownsRow_sortedI (n := m) (os := os) (ts := xs.mergeSort fun x y => decide (x ≤ y)) (ss := xs) (List.length_mergeSort xs) hbg hg h1 h2 h3
    unfold Owned
    rw [List.length_mergeSort]
    exact this

theorem pcompacti (A : Option Addr) (n c : Nat) (xs : List Int) (base : Nat) (w : World) (ho : Owned w base (.slice A n c) xs) (hb : base ≤ w.heap.size) (hn : n ≤ 17592186044416) :
    Calls Try.prog 110 #[.slice A n c] w fun e w' => ∃ A' c', e = .returned (.slice A' (Lib.compact xs).length c') ∧ Owned w' base (.slice A' (Lib.compact xs).length c') (Lib.compact xs) ∧ Below base w w' := by
  have hl : xs.length = n := by obtain ⟨A', c', e⟩ := ho.form; cases e; rfl
  subst hl
  rcases ho.2 with ⟨e, h0⟩ | ⟨g, cap, cur, e, hbg, hg, h1, h2, h3, h4⟩
  · have hx : xs = [] := List.eq_nil_of_length_eq_zero h0
    subst hx
    refine (Try.slices_Compact_int_empty A c w).mono ?_
    rintro e w' ⟨rfl, rfl⟩
    exact ⟨A, c, rfl, ho, Below.refl _ _⟩
  · cases e
    have hH := holds_of_blockI hg (by rw [Nat.mul_one] at h4; exact h4)
    refine (Try.slices_Compact_int g 0 c xs w hH (by omega) h1).mono ?_
    rintro e w' ⟨rfl, q, rfl⟩
    have hle := Lib.compact_length_le xs
    have hc := Lib.ownsRow_putRow (enc := Value.int .i64) (q := q) (k := (Lib.compact xs).length) (ys := Lib.compact xs ++ List.replicate (xs.length - (Lib.compact xs).length) 0) ho (by simp; omega) hle
    rw [List.take_left] at hc
    exact ⟨some ⟨g, 0, none⟩, c, rfl, hc, Lib.below_putRow (Below.refl _ _) hbg⟩
end Go.Proofs.Ytogcecfeofbbnaa
end

section
/- Valid of a machine by the reference. -/
namespace Go.Proofs.Ytogcecfeofbbnaa
open Go.RowKit

set_option maxHeartbeats 2000000 in
set_option maxRecDepth 100000 in
theorem rvalid (i st : Int) (A B : Option Addr) (n c m d : Nat) (nx ot : List (List Int)) (w : World) (hx : Lists w A n nx) (ho : Lists w B m ot) :
    Calls Try.prog 28 #[.agg #[.int .i64 i, .int .i64 st, .slice A n c, .slice B m d]] w fun e w' => e = .returned (.int .i64 (vld i st nx ot)) ∧ Below w.heap.size w w' := by
  have L1 := Lib.hid hx.1
  have L2 := Lib.hid ho.1
  have hn := hx.2.1
  have hm := ho.2.1
  have hb0 := alloc_below w (.cells #[.int .i64 i, .int .i64 st, .slice A n c, .slice B m d] 24)
  have hsz0 : (w.alloc (.cells #[.int .i64 i, .int .i64 st, .slice A n c, .slice B m d] 24)).heap.size = w.heap.size + 1 := by simp
  have HZ := Lib.hid hsz0
  clear hsz0
  by_cases hi : 1 ≤ i ∧ i ≤ 64
  · have HI := Lib.hid hi
    obtain ⟨hi1, hi2⟩ := hi
    have i1 : decide (i < 1) = false := by simpa using hi1
    have i2 : decide (64 < i) = false := by simpa using hi2
    by_cases h0 : n = 0
    · have hfin := Lib.hid (vld_empty (st := st) (ot := ot) HI.out (by rw [L1.out]; exact h0))
      subst h0
      go_enter Try.func28, Try.ntmps28
      go_wp2
      go_ret
      exact ⟨ret_int hfin.out.symm, hb0⟩
    · have z0 : ((n : Int) == 0) = false := by simp; omega
      by_cases h1 : 128 < n
      · have hfin := Lib.hid (vld_many (st := st) (ot := ot) HI.out (by rw [L1.out]; exact h1))
        clear h0
        go_enter Try.func28, Try.ntmps28
        go_wp2
        go_ret
        exact ⟨ret_int hfin.out.symm, hb0⟩
      · have z1 : decide ((128 : Int) < (n : Int)) = false := by simp; omega
        by_cases h2 : 0 ≤ st ∧ st < n
        · have H2 := Lib.hid h2
          have s1 : decide (st < 0) = false := by simpa using h2.1
          have s2 : decide ((n : Int) ≤ st) = false := by simpa using h2.2
          by_cases h3 : m = n
          · subst h3
            have z3 : ((m : Int) != (m : Int)) = false := by simp
            have hrows := Lib.hid (vld_rows (i := i) (st := st) (nx := nx) (ot := ot) HI.out (by rw [L1.out]; exact h0) (by rw [L1.out]; exact h1) (by rw [L1.out]; exact H2.out) (by rw [L1.out, L2.out]))
            clear h0 h2
            go_enter Try.func28, Try.ntmps28
            go_wp2
            go_loopw [3] (fun x wr => ∃ j : Nat, j ≤ m ∧ x = .int .i64 j ∧ (∀ t, t < j → rowAt i nx ot t = 0) ∧ Below (w.heap.size + 1) (w.alloc (.cells #[.int .i64 i, .int .i64 st, .slice A m c, .slice B m d] 24)) wr) (fun x _ => m - (intOf x).toNat)
            case atStart => exact ⟨0, Nat.zero_le _, rfl, fun t h => absurd h (by omega), Below.refl _ _⟩
            case round =>
              obtain ⟨j, hj, rfl, hok, hbr⟩ := hrel
              have hbw := hb0.trans (hbr.mono (Nat.le_succ _))
              have hsz1 : w.heap.size + 1 ≤ wr.heap.size := by have := hbr.size; simpa using this
              have HK := Lib.hid hok
              clear hok
              obtain ⟨k0, k1, k2, k3⟩ := box4 hbr
              by_cases hlt : j < m
              · have HV := Lib.hid (show rowAt i nx ot j = rowE i m (nx.getD j []) (ot.getD j []) by unfold rowAt; rw [L1.out])
                by_cases he : rowE i m (nx.getD j []) (ot.getD j []) = 0
                · have hnx := Lib.hid (show ∀ t, t < j + 1 → rowAt i nx ot t = 0 from fun t ht => by
                    by_cases e : t = j
                    · subst e; rw [HV.out]; exact he
                    · exact HK.out t (by omega))
                  have HE := Lib.hid he
                  clear he
                  go_wp2_with fail
                  refine (rrow _ _ _ _ _ _ _ _ _ _ _ _ (hx.below hbw) (ho.below hbw) hlt hlt).mono ?_
                  rintro e w2 ⟨rfl, b2⟩
                  have b3 := hbr.trans (b2.mono hsz1)
                  rw [HE.out]
                  obtain ⟨k0, k1, k2, k3⟩ := box4 b3
                  go_wp2
                  go_roundw
                  case rel => exact ⟨j + 1, by omega, by go_num, hnx.out, b3⟩
                  case measure => simp [intOf]; omega
                · have hfin := Lib.hid (hrows.out.trans (fstE_bad HK.out (by rw [HV.out]; exact he) (by rw [L1.out]; exact hlt)))
                  have he2 : (rowE i m (nx.getD j []) (ot.getD j []) != 0) = true := by simpa using he
                  go_wp2_with fail
                  refine (rrow _ _ _ _ _ _ _ _ _ _ _ _ (hx.below hbw) (ho.below hbw) hlt hlt).mono ?_
                  rintro e w2 ⟨rfl, b2⟩
                  have b3 := hbr.trans (b2.mono hsz1)
                  have HF := Lib.hid (hfin.out.trans HV.out)
                  clear hfin HV
                  generalize rowE i m (nx.getD j []) (ot.getD j []) = E at he2 he HF
                  clear he
                  go_wp2
                  go_ret
                  exact ⟨ret_int HF.out.symm, hb0.trans (b3.mono (Nat.le_succ _))⟩
              · obtain rfl : j = m := by omega
                have hfin := Lib.hid (hrows.out.trans (fstE_ok (by rw [L1.out]; exact HK.out)))
                go_wp2
                go_ret
                exact ⟨ret_int hfin.out.symm, hbw⟩
          · have z3 : ((m : Int) != (n : Int)) = true := by simp; omega
            have hfin := Lib.hid (vld_out (i := i) (st := st) (nx := nx) (ot := ot) HI.out (by rw [L1.out]; exact h0) (by rw [L1.out]; exact h1) (by rw [L1.out]; exact H2.out) (by rw [L1.out, L2.out]; exact h3))
            clear h0 h3
            go_enter Try.func28, Try.ntmps28
            go_wp2
            go_ret
            exact ⟨ret_int hfin.out.symm, hb0⟩
        · have hfin := Lib.hid (vld_start (i := i) (st := st) (nx := nx) (ot := ot) HI.out (by rw [L1.out]; exact h0) (by rw [L1.out]; exact h1) (by rw [L1.out]; exact h2))
          by_cases h3 : 0 ≤ st
          · have s1 : decide (st < 0) = false := by simpa using h3
            have s2 : decide ((n : Int) ≤ st) = true := by simp; omega
            clear h0 h2
            go_enter Try.func28, Try.ntmps28
            go_wp2
            go_ret
            exact ⟨ret_int hfin.out.symm, hb0⟩
          · have s1 : decide (st < 0) = true := by simpa using h3
            clear h0 h2
            go_enter Try.func28, Try.ntmps28
            go_wp2
            go_ret
            exact ⟨ret_int hfin.out.symm, hb0⟩
  · have hfin := Lib.hid (vld_in (st := st) (nx := nx) (ot := ot) hi)
    by_cases hi1 : 1 ≤ i
    · have hi2 : 64 < i := by omega
      have t1 : ¬ i < 1 := by omega
      clear hi
      go_enter Try.func28, Try.ntmps28
      go_wp2
      go_ret
      exact ⟨ret_int hfin.out.symm, hb0⟩
    · have t1 : i < 1 := by omega
      clear hi hi1
      go_enter Try.func28, Try.ntmps28
      go_wp2
      go_ret
      exact ⟨ret_int hfin.out.symm, hb0⟩
end Go.Proofs.Ytogcecfeofbbnaa
end

section
/- The reference: has, index, Reach. -/
namespace Go.Proofs.Ytogcecfeofbbnaa
open Go.RowKit

theorem mem_take_succ {xs : List Int} {j : Nat} {v : Int} (h : ∀ m, m < j → xs.getD m 0 ≠ v) (h2 : xs.getD j 0 ≠ v) : ∀ m, m < j + 1 → xs.getD m 0 ≠ v := fun m hm => by
  by_cases e : m = j
  · subst e; exact h2
  · exact h m (by omega)

set_option maxRecDepth 100000 in
theorem rhas (A : Option Addr) (n c : Nat) (xs : List Int) (v : Int) (b : Bool) (w : World) (hx : Ints w A n xs) (hb : b = decide (v ∈ xs)) :
    Calls Try.prog 123 #[.slice A n c, .int .i64 v] w fun e w' => e = .returned (.bool b) ∧ ∃ q, w' = w.drewN q := by
  have L := Lib.hid hx.1
  have hn := hx.2.1
  have HB := Lib.hid hb
  clear hb
  go_enter Try.func123, Try.ntmps123
  go_wp2
  go_loop [5] (fun jv => ∃ j : Nat, j ≤ n ∧ jv = .int .i64 j ∧ ∀ m, m < j → xs.getD m 0 ≠ v) (fun jv => n - (intOf jv).toNat)
  case atStart => exact ⟨0, Nat.zero_le _, rfl, fun m h => absurd h (by omega)⟩
  case round =>
    obtain ⟨j, hj, rfl, hall⟩ := hrel
    have HA := Lib.hid hall
    clear hall
    by_cases hlt : j < n
    · obtain ⟨g, o, rfl, _, hcell⟩ := hx.at_ (k := j) hlt
      by_cases he : xs.getD j 0 = v
      · have hfin := Lib.hid (HB.out.trans (decide_eq_true (show v ∈ xs by rw [← he, List.getD_eq_getElem?_getD, List.getElem?_eq_getElem (by rw [L.out]; exact hlt)]; exact List.getElem_mem _)))
        rw [he] at hcell
        clear he
        go_wp2
        go_ret
        exact ⟨ret_bool hfin.out.symm, 0, rfl⟩
      · have hnx := Lib.hid (mem_take_succ HA.out he)
        have hd : (xs.getD j 0 == v) = false := beq_false_of_ne he
        generalize xs.getD j 0 = x at hcell hd
        clear he
        go_wp2
        go_round
        case rel => exact ⟨j + 1, by omega, by go_num, hnx.out⟩
        case measure => simp [intOf]; omega
    · obtain rfl : j = n := by omega
      have hfin := Lib.hid (HB.out.trans (decide_eq_false (fun hm => by
        obtain ⟨m, hm, e⟩ := List.getElem_of_mem hm
        exact HA.out m (by rw [← L.out]; exact hm) (by rw [List.getD_eq_getElem?_getD, List.getElem?_eq_getElem hm]; exact e))))
      go_wp2
      go_ret
      exact ⟨ret_bool hfin.out.symm, 0, rfl⟩

set_option maxRecDepth 100000 in
theorem rindex (A : Option Addr) (n c : Nat) (l : List Nat) (x : Nat) (w : World) (hx : Ints w A n (zs l)) (hm : x ∈ l) :
    Calls Try.prog 108 #[.slice A n c, .int .i64 x] w fun e w' => e = .returned (.int .i64 (ixN l x)) ∧ ∃ q, w' = w.drewN q := by
  have hl := hx.1
  rw [zs_len] at hl
  have L := Lib.hid hl
  have hn := hx.2.1
  have hi := ixN_lt hm
  rw [hl] at hi
  have ha := Lib.hid (ixN_at hm)
  have HN := Lib.hid (show ∀ j, j < ixN l x → ¬ l.getD j 0 = x from fun j hj => by
    have h1 : j < l.length := by rw [hl]; omega
    have := List.not_of_lt_findIdx (p := fun y => y == x) (xs := l) hj
    rw [List.getD_eq_getElem?_getD, List.getElem?_eq_getElem h1]
    simpa using this)
  generalize ixN l x = k at hi ha HN
  clear hl hm
  go_enter Try.func108, Try.ntmps108
  go_wp2
  go_loop [5] (fun jv => ∃ j : Nat, j ≤ k ∧ jv = .int .i64 j) (fun jv => n - (intOf jv).toNat)
  case atStart => exact ⟨0, Nat.zero_le _, rfl⟩
  case round =>
    obtain ⟨j, hj, rfl⟩ := hrel
    have hlt : j < n := by omega
    obtain ⟨g, o, rfl, _, hcell⟩ := hx.at_ (k := j) hlt
    rw [zs_at] at hcell
    by_cases he : j = k
    · subst he
      rw [ha.out] at hcell
      go_wp2
      go_ret
      exact ⟨rfl, 0, rfl⟩
    · have hne := HN.out j (by omega)
      generalize l.getD j 0 = y at hcell hne
      have hd : ((y : Int) == (x : Int)) = false := beq_false_of_ne (by omega)
      go_wp2
      go_round
      case rel => exact ⟨j + 1, by omega, by go_num⟩
      case measure => simp [intOf]; omega

theorem rreach_bad (i st : Int) (A B : Option Addr) (n c m d : Nat) (nx ot : List (List Int)) (w : World) (hx : Lists w A n nx) (ho : Lists w B m ot) (hv : ¬ vld i st nx ot = 0) :
    Calls Try.prog 107 #[.agg #[.int .i64 i, .int .i64 st, .slice A n c, .slice B m d]] w fun e w' => e = .returned (.slice none 0 0) ∧ Below w.heap.size w w' := by
  have hb0 := alloc_below w (.cells #[.int .i64 i, .int .i64 st, .slice A n c, .slice B m d] 24)
  have hne : (vld i st nx ot != 0) = true := by simpa using hv
  go_enter Try.func107, Try.ntmps107
  go_wp2_with fail
  refine (rvalid _ _ _ _ _ _ _ _ _ _ _ (hx.below hb0) (ho.below hb0)).mono ?_
  rintro e w1 ⟨rfl, b1⟩
  have hbb := bt hb0 b1
  generalize vld i st nx ot = V at hne
  clear hb0 b1
  go_wp2
  go_ret
  exact ⟨rfl, hbb⟩

set_option maxHeartbeats 4000000 in
set_option maxRecDepth 100000 in
theorem rreach_ok (i st n : Nat) (A B : Option Addr) (c d : Nat) (nx ot : List (List Int)) (w : World) (hx : Lists w A n nx) (ho : Lists w B n ot) (hM : Mok i st n nx ot) :
    Calls Try.prog 107 #[.agg #[.int .i64 i, .int .i64 st, .slice A n c, .slice B n d]] w fun e w' => ∃ A' c', e = .returned (.slice A' (rch nx i st).length c') ∧ Owned w' w.heap.size (.slice A' (rch nx i st).length c') (zs (rch nx i st)) ∧ Below w.heap.size w w' := by
  have HV := Lib.hid hM.vld
  have hn := hx.2.1
  have hst := hM.st
  have hn128 := hM.n2
  have hb0 := alloc_below w (.cells #[.int .i64 i, .int .i64 st, .slice A n c, .slice B n d] 24)
  have HZ := Lib.hid (show (w.alloc (.cells #[.int .i64 i, .int .i64 st, .slice A n c, .slice B n d] 24)).heap.size = w.heap.size + 1 by simp)
  obtain ⟨R, hR⟩ : ∃ R, R = rch nx i st := ⟨_, rfl⟩
  have HR := Lib.hid (hR.trans (show rch nx i st = bfs nx i n [st] 0 by unfold rch; rw [hM.nxl]))
  rw [← hR]
  clear hR
  go_enter Try.func107, Try.ntmps107
  go_wp2_with fail
  refine (rvalid _ _ _ _ _ _ _ _ _ _ _ (hx.below hb0) (ho.below hb0)).mono ?_
  rintro e w1 ⟨rfl, b1⟩
  rw [HZ.out] at b1
  rw [HV.out]
  obtain ⟨k0, k1, k2, k3⟩ := box4 b1
  have hl0 : Owned (w1.alloc (.cells #[.int .i64 st] 3)) (w.heap.size + 1) (.slice (some ⟨w1.heap.size, 0, none⟩) 1 1) (zs [st]) := Owned.literal w1 _ [(st : Int)] _ 1 (by have := b1.size; simpa using this) rfl rfl (by simp)
  have hz2 : w.heap.size + 1 ≤ w1.heap.size := by have := b1.size; simpa using this
  have bw1 := b1.trans ((alloc_below w1 (.cells #[.int .i64 st] 3)).mono hz2)
  have HL0 := Lib.hid hl0
  clear hl0 b1
  go_wp2
  clear k0 k1 k2 k3
  generalize w1.alloc (.cells #[.int .i64 st] 3) = w2 at HL0 bw1 ⊢
  go_loopw [3, 4] (fun v jv wr => ∃ (l : List Nat) (j : Nat) (A' : Option Addr) (c' : Nat), j ≤ l.length ∧ jv = .int .i64 j ∧ v = .slice A' l.length c' ∧ Stt n l ∧ R = bfs nx i n l j ∧ Owned wr (w.heap.size + 1) (.slice A' l.length c') (zs l) ∧ Below (w.heap.size + 1) (w.alloc (.cells #[.int .i64 i, .int .i64 st, .slice A n c, .slice B n d] 24)) wr) (fun _ jv _ => n - (intOf jv).toNat)
  case atStart => exact ⟨[st], 0, _, 1, Nat.zero_le _, rfl, rfl, Stt.one hst, HR.out, HL0.out, bw1⟩
  case round =>
    obtain ⟨l, j, A', c', hj, rfl, rfl, hS, hB, hown, hbr⟩ := hrel
    have HB := Lib.hid hB
    clear hB
    have hll := hS.len
    by_cases hlt : j < l.length
    · have hjn : j < n := by omega
      have hs : l.getD j 0 < n := hS.2 _ (getD_mem hlt)
      have HNX := Lib.hid (bfs_on hM hS hlt)
      have HAT := Lib.hid (fun a => addR_at (nx := nx) (s := l.getD j 0) hlt a)
      generalize l.getD j 0 = s at hs HNX HAT
      obtain ⟨g1, p1, A1, n1, c1, rfl, hg1, hd1, hr1⟩ := hx.at_ hs
      have hi1 := (hM.row s hs).1
      have hl1 := hr1.1
      obtain rfl : n1 = i := by omega
      have hi64 := hM.i2
      clear hl1 hi1
      have HOW := Lib.hid hown
      have HBR := Lib.hid hbr
      clear hown hbr
      go_wp2
      obtain ⟨wo, rfl⟩ : ∃ wo : World, wo = wr := ⟨_, rfl⟩
      go_loopw [3, 5] (fun v av wq => ∃ (a : Nat) (A2 : Option Addr) (c2 : Nat), a ≤ n1 ∧ av = .int .i64 a ∧ v = .slice A2 (addR nx s l a).length c2 ∧ Owned wq (w.heap.size + 1) (.slice A2 (addR nx s l a).length c2) (zs (addR nx s l a)) ∧ Below (w.heap.size + 1) (w.alloc (.cells #[.int .i64 n1, .int .i64 st, .slice (some ⟨g1, p1, none⟩) n c, .slice B n d] 24)) wq) (fun _ av _ => n1 - (intOf av).toNat)
      case atStart => exact ⟨0, _, _, Nat.zero_le _, rfl, rfl, HOW.out, HBR.out⟩
      case round =>
        obtain ⟨a, A2, c2, ha, rfl, rfl, hown, hbr⟩ := hrel
        have hSa := addR_stt hM hS hs a ha
        have hbw := hb0.trans (hbr.mono (Nat.le_succ _))
        have hal := addR_len (nx := nx) (s := s) (l := l) a
        obtain ⟨k0, k1, k2, k3⟩ := box4 hbr
        have hj2 := HAT.out a
        by_cases hla : a < n1
        · obtain ⟨g3, p3, rfl, hg3, hy1⟩ := hr1.at_ hla
          rw [hM.nN_eq hs hla] at hy1
          have ht := hM.nN_lt hs hla
          have hIn := Lib.hid (fun h => addR_in (nx := nx) (s := s) (a := a) (l := l) h)
          have hOut := Lib.hid (fun h => addR_out (nx := nx) (s := s) (a := a) (l := l) h)
          generalize nN nx s a = t at hy1 ht hIn hOut
          have e1 := (hbw.cell (p := ⟨g1, p1 + s, none⟩) hg1).trans hd1
          have e3 := (hbw.cell (p := ⟨g3, p3 + a, none⟩) hg3).trans hy1
          clear hy1
          generalize addR nx s l a = l' at hown hSa hIn hOut hal hj2
          have hll' := hSa.len
          have hint := hown.ints (by rw [zs_len]; omega)
          have hjl : j < l'.length := by omega
          have hjl2 : (j : Int) < (l'.length : Int) := by omega
          obtain ⟨b4, o4, rfl, hb4, hc4⟩ := hint.at_ (k := j) (by omega)
          rw [zs_at, hj2] at hc4
          have HOW := Lib.hid hown
          have HBR := Lib.hid hbr
          clear hown
          by_cases hm : t ∈ l'
          · have hnx := Lib.hid (hIn.out hm)
            have HH := Lib.hid (show true = decide ((t : Int) ∈ zs l') from (decide_eq_true (mem_zs.2 hm)).symm)
            clear hIn hOut hm hbr
            go_wp2
            go_quiet ((go_at_call 123; exact Calls.quiet_of (rhas _ _ _ _ _ _ _ hint HH.out)))
            go_wp2
            go_roundw
            case rel => exact ⟨a + 1, _, c2, by omega, by go_num, by rw [hnx.out], by rw [hnx.out]; exact HOW.out, below_drewN HBR.out _⟩
            case measure => simp [intOf]; omega
          · have hnx := Lib.hid (hOut.out hm)
            have HH := Lib.hid (show false = decide ((t : Int) ∈ zs l') from (decide_eq_false (fun h => hm (mem_zs.1 h))).symm)
            have hsz : w.heap.size + 1 ≤ wr.heap.size := by have := hbr.size; simpa using this
            obtain ⟨F, hF⟩ := app_all HOW.out (t : Int) hsz (by rw [zs_len]; omega)
            have hz : zs l' ++ [(t : Int)] = zs (l' ++ [t]) := by rw [zs_append, zs_one]
            rw [hz] at hF
            have HF := Lib.hid hF
            have HL := Lib.hid (show (l' ++ [t]).length = l'.length + 1 by simp)
            clear hIn hOut hm hbr hF hz
            go_wp2
            go_quiet ((go_at_call 123; exact Calls.quiet_of (rhas _ _ _ _ _ _ _ hint HH.out)))
            go_wp2
            go_region_law (refine step_append_run rfl _ _ _ _ rfl _ _ rfl rfl _ _ (HF.out _).1 ?_)
            all_goals
              go_wp2
              go_roundw
              case rel => exact ⟨a + 1, _, _, by omega, by go_num, by rw [hnx.out, HL.out], by rw [hnx.out, HL.out]; exact (HF.out _).2.1, HBR.out.trans (HF.out _).2.2⟩
              case measure => simp [intOf]; omega
        · obtain rfl : a = n1 := by omega
          have HX := Lib.hid (HB.out.trans HNX.out.symm)
          generalize addR nx s l a = l' at hown hSa hal hj2 HX
          have HOW := Lib.hid hown
          clear hown hj2
          go_wp2
          go_roundw
          case rel => exact ⟨l', j + 1, A2, c2, by omega, by go_num, rfl, hSa, HX.out, HOW.out, hbr⟩
          case measure => simp [intOf]; omega
    · have hfin := Lib.hid (HB.out.trans (bfs_end nx i n hlt))
      have HOW := Lib.hid hown
      have hbw := hb0.trans (hbr.mono (Nat.le_succ _))
      clear hown
      go_wp2
      go_ret
      exact ⟨A', c', by rw [hfin.out]; rfl, by rw [hfin.out]; exact Owned.lower HOW.out (Nat.le_succ _), hbw⟩
end Go.Proofs.Ytogcecfeofbbnaa
end

section
/- The reference: insert and Outputs. -/
namespace Go.Proofs.Ytogcecfeofbbnaa
open Go.RowKit

/-- A number put into a list, ahead of the first greater one. -/
def ins : List Int → Int → List Int
  | [], v => [v]
  | x :: l, v => if v < x then v :: x :: l else x :: ins l v
def insS (l : List Int) (v : Int) : List Int := if v ∈ l then l else ins l v
theorem ins_len : ∀ (l : List Int) (v : Int), (ins l v).length = l.length + 1
  | [], _ => rfl
  | x :: l, v => by
    unfold ins
    split
    · rfl
    · rw [List.length_cons, ins_len l v]; rfl
theorem insS_len (l : List Int) (v : Int) : (insS l v).length ≤ l.length + 1 := by
  unfold insS
  split
  · omega
  · rw [ins_len]; exact Nat.le_refl _
theorem ins_now {xs : List Int} {j : Nat} {v : Int} (h : j < xs.length) (hv : v < xs.getD j 0) : ins (xs.drop j) v = v :: xs.drop j := by
  rw [List.drop_eq_getElem_cons h]
  rw [List.getD_eq_getElem?_getD, List.getElem?_eq_getElem h] at hv
  show (if v < xs[j] then _ else _) = _
  exact if_pos hv
theorem ins_on {xs : List Int} {j : Nat} {v : Int} (h : j < xs.length) (hv : ¬ v < xs.getD j 0) : ins (xs.drop j) v = xs.getD j 0 :: ins (xs.drop (j + 1)) v := by
  rw [List.drop_eq_getElem_cons h]
  rw [List.getD_eq_getElem?_getD, List.getElem?_eq_getElem h] at hv ⊢
  show (if v < xs[j] then _ else _) = _
  exact if_neg hv
theorem drop_on {xs : List Int} {j : Nat} (h : j < xs.length) : xs.drop j = xs.getD j 0 :: xs.drop (j + 1) := by
  rw [List.drop_eq_getElem_cons h, List.getD_eq_getElem?_getD, List.getElem?_eq_getElem h]; rfl
def restI (dn : Bool) (l : List Int) (v : Int) : List Int := if dn then l else ins l v

end Go.Proofs.Ytogcecfeofbbnaa
end

section
/- The reference: Outputs. -/
namespace Go.Proofs.Ytogcecfeofbbnaa
open Go.RowKit

/-- All outputs, row by row, put into one list. -/
def outR : List Int → List Int → List Int
  | [], acc => acc
  | x :: r, acc => outR r (insS acc x)
def outL : List (List Int) → List Int → List Int
  | [], acc => acc
  | r :: t, acc => outL t (outR r acc)
theorem outR_drop {r : List Int} {a : Nat} (h : a < r.length) (acc : List Int) : outR (r.drop a) acc = outR (r.drop (a + 1)) (insS acc (r.getD a 0)) := by
  rw [drop_on h]; rfl
theorem outL_drop {t : List (List Int)} {j : Nat} (h : j < t.length) (acc : List Int) : outL (t.drop j) acc = outL (t.drop (j + 1)) (outR (t.getD j []) acc) := by
  rw [List.drop_eq_getElem_cons h, List.getD_eq_getElem?_getD, List.getElem?_eq_getElem h]; rfl

end Go.Proofs.Ytogcecfeofbbnaa
end

section
/- The reference's outputs are the sorted and compacted ones. -/
namespace Go.Proofs.Ytogcecfeofbbnaa
open Go.RowKit

theorem outR_app (a b : List Int) (acc : List Int) : outR (a ++ b) acc = outR b (outR a acc) := by
  induction a generalizing acc with
  | nil => rfl
  | cons x a ih => exact ih _
theorem outL_flat (t : List (List Int)) (acc : List Int) : outL t acc = outR t.flatten acc := by
  induction t generalizing acc with
  | nil => rfl
  | cons r t ih => rw [List.flatten_cons, outR_app]; exact ih _

theorem ins_mem (l : List Int) (v x : Int) : x ∈ ins l v ↔ x = v ∨ x ∈ l := by
  induction l with
  | nil => simp [ins]
  | cons y l ih =>
    unfold ins
    split
    · simp
    · rw [List.mem_cons, ih, List.mem_cons]; exact ⟨fun h => h.elim (fun h => .inr (.inl h)) (fun h => h.elim .inl fun h => .inr (.inr h)), fun h => h.elim (fun h => .inr (.inl h)) fun h => h.elim .inl fun h => .inr (.inr h)⟩
theorem insS_mem (l : List Int) (v x : Int) : x ∈ insS l v ↔ x = v ∨ x ∈ l := by
  unfold insS
  split
  · rename_i h
    exact ⟨.inr, fun k => k.elim (fun k => k ▸ h) id⟩
  · exact ins_mem l v x
theorem ins_asc {l : List Int} {v : Int} (h : l.Pairwise (· < ·)) (hv : v ∉ l) : (ins l v).Pairwise (· < ·) := by
  induction l with
  | nil => simp [ins]
  | cons y l ih =>
    have h' := List.pairwise_cons.1 h
    unfold ins
    split
    · rename_i hlt
      refine List.pairwise_cons.2 ⟨fun x hx => ?_, h⟩
      rcases List.mem_cons.1 hx with rfl | hx
      · exact hlt
      · have := h'.1 x hx; omega
    · rename_i hlt
      refine List.pairwise_cons.2 ⟨fun x hx => ?_, ih h'.2 fun k => hv (List.mem_cons_of_mem _ k)⟩
      rcases (ins_mem l v x).1 hx with rfl | hx
      · have : x ≠ y := fun e => hv (e ▸ List.mem_cons_self)
        omega
      · exact h'.1 x hx
theorem insS_asc {l : List Int} {v : Int} (h : l.Pairwise (· < ·)) : (insS l v).Pairwise (· < ·) := by
  unfold insS
  split
  · exact h
  · rename_i hv; exact ins_asc h hv
theorem outR_asc {xs acc : List Int} (h : acc.Pairwise (· < ·)) : (outR xs acc).Pairwise (· < ·) := by
  induction xs generalizing acc with
  | nil => exact h
  | cons x xs ih => exact ih (insS_asc h)
theorem outR_mem (xs acc : List Int) (x : Int) : x ∈ outR xs acc ↔ x ∈ acc ∨ x ∈ xs := by
  induction xs generalizing acc with
  | nil => simp [outR]
  | cons y xs ih =>
    show x ∈ outR xs (insS acc y) ↔ _
    rw [ih, insS_mem, List.mem_cons]
    exact ⟨fun h => h.elim (fun h => h.elim (fun h => .inr (.inl h)) .inl) (fun h => .inr (.inr h)), fun h => h.elim (fun h => .inl (.inr h)) fun h => h.elim (fun h => .inl (.inl h)) .inr⟩

/-- Two ascending lists with the same members are one. -/
theorem asc_eq {xs ys : List Int} (hx : xs.Pairwise (· < ·)) (hy : ys.Pairwise (· < ·)) (h : ∀ x, x ∈ xs ↔ x ∈ ys) : xs = ys := by
  induction xs generalizing ys with
  | nil =>
    cases ys with
    | nil => rfl
    | cons y ys => exact absurd ((h y).2 List.mem_cons_self) (by simp)
  | cons x xs ih =>
    cases ys with
    | nil => exact absurd ((h x).1 List.mem_cons_self) (by simp)
    | cons y ys =>
      have hx' := List.pairwise_cons.1 hx
      have hy' := List.pairwise_cons.1 hy
      have e : x = y := by
        rcases List.mem_cons.1 ((h x).1 List.mem_cons_self) with e | e
        · exact e
        · rcases List.mem_cons.1 ((h y).2 List.mem_cons_self) with e2 | e2
          · exact e2.symm
          · have := hy'.1 x e; have := hx'.1 y e2; omega
      subst e
      congr 1
      refine ih hx'.2 hy'.2 fun z => ⟨fun k => ?_, fun k => ?_⟩
      · rcases List.mem_cons.1 ((h z).1 (List.mem_cons_of_mem _ k)) with e | e
        · have := hx'.1 z k; omega
        · exact e
      · rcases List.mem_cons.1 ((h z).2 (List.mem_cons_of_mem _ k)) with e | e
        · have := hy'.1 z k; omega
        · exact e

theorem compactUpTo_asc (d : Array Int) (hs : ∀ i j, i ≤ j → j < d.size → d[i]! ≤ d[j]!) : ∀ m, m ≤ d.size → (Lib.compactUpTo d m).Pairwise (· < ·) ∧ ∀ x, x ∈ Lib.compactUpTo d m ↔ ∃ j, j < m ∧ d[j]! = x := by
  intro m
  induction m with
  | zero => intro _; exact ⟨by simp [Lib.compactUpTo], fun x => by simp [Lib.compactUpTo]⟩
  | succ m ih =>
    intro hm
    obtain ⟨h1, h2⟩ := ih (by omega)
    rw [Lib.compactUpTo_succ]
    by_cases hk : Lib.keeps d m = true
    · rw [if_pos hk]
      refine ⟨List.pairwise_append.2 ⟨h1, by simp, fun x hx y hy => ?_⟩, fun x => ?_⟩
      · rw [List.mem_singleton] at hy
        subst hy
        obtain ⟨j, hj, rfl⟩ := (h2 x).1 hx
        have hne : d[m]! ≠ d[m - 1]! := by
          have := of_decide_eq_true hk
          rcases this with e | e
          · omega
          · exact e
        have a := hs j (m - 1) (by omega) (by omega)
        have b := hs (m - 1) m (by omega) (by omega)
        omega
      · rw [List.mem_append, List.mem_singleton, h2]
        refine ⟨fun h => h.elim (fun ⟨j, hj, e⟩ => ⟨j, by omega, e⟩) (fun e => ⟨m, by omega, e.symm⟩), fun ⟨j, hj, e⟩ => ?_⟩
        by_cases hjm : j = m
        · subst hjm; exact .inr e.symm
        · exact .inl ⟨j, by omega, e⟩
    · rw [if_neg hk, List.append_nil]
      refine ⟨h1, fun x => (h2 x).trans ⟨fun ⟨j, hj, e⟩ => ⟨j, by omega, e⟩, fun ⟨j, hj, e⟩ => ?_⟩⟩
      by_cases hjm : j = m
      · subst hjm
        have hk' : ¬ (j = 0 ∨ d[j]! ≠ d[j - 1]!) := fun h => hk (decide_eq_true h)
        have h0 : j ≠ 0 := fun h => hk' (.inl h)
        have h3 : d[j]! = d[j - 1]! := Classical.byContradiction fun h => hk' (.inr h)
        exact ⟨j - 1, by omega, by rw [← h3]; exact e⟩
      · exact ⟨j, by omega, e⟩

theorem compact_asc {zs : List Int} (hs : zs.Pairwise (· ≤ ·)) : (Lib.compact zs).Pairwise (· < ·) ∧ ∀ x, x ∈ Lib.compact zs ↔ x ∈ zs := by
  obtain ⟨h1, h2⟩ := compactUpTo_asc zs.toArray (fun i j hij hj => by
    have hj' : j < zs.length := by simpa using hj
    rw [getElem!_pos zs.toArray i (by simpa using Nat.lt_of_le_of_lt hij hj'), getElem!_pos zs.toArray j hj]
    simp only [List.getElem_toArray]
    rcases Nat.lt_or_ge i j with h | h
    · exact List.pairwise_iff_getElem.1 hs i j _ _ h
    · obtain rfl : i = j := by omega
      exact Int.le_refl _) zs.length (by simp)
  refine ⟨h1, fun x => (h2 x).trans ⟨fun ⟨j, hj, e⟩ => ?_, fun h => ?_⟩⟩
  · rw [getElem!_pos zs.toArray j (by simpa using hj)] at e
    simp only [List.getElem_toArray] at e
    exact e ▸ List.getElem_mem _
  · obtain ⟨j, hj, e⟩ := List.getElem_of_mem h
    refine ⟨j, hj, ?_⟩
    rw [getElem!_pos zs.toArray j (by simpa using hj)]
    simpa using e

theorem sort_asc (xs : List Int) : (xs.mergeSort fun x y => decide (x ≤ y)).Pairwise (· ≤ ·) := by
  have := List.pairwise_mergeSort (le := fun (x y : Int) => decide (x ≤ y)) (fun a b c h1 h2 => by simp at *; omega) (fun a b => by simp; omega) xs
  exact this.imp fun h => of_decide_eq_true h

theorem out_eq (t : List (List Int)) : Lib.compact (t.flatten.mergeSort fun x y => decide (x ≤ y)) = outL t [] := by
  obtain ⟨h1, h2⟩ := compact_asc (sort_asc t.flatten)
  rw [outL_flat]
  refine asc_eq h1 (outR_asc List.Pairwise.nil) fun x => ?_
  rw [h2, outR_mem]
  simp [List.mem_mergeSort]
end Go.Proofs.Ytogcecfeofbbnaa
end

section
/- The program: Outputs. -/
namespace Go.Proofs.Ytogcecfeofbbnaa
open Go.RowKit

theorem poutputs_bad (i st : Int) (A B : Option Addr) (n c m d : Nat) (nx ot : List (List Int)) (w : World) (hx : Lists w A n nx) (ho : Lists w B m ot) (hv : ¬ vld i st nx ot = 0) :
    Calls Try.prog 82 #[.agg #[.int .i64 i, .int .i64 st, .slice A n c, .slice B m d]] w fun e w' => e = .returned (.slice none 0 0) ∧ Below w.heap.size w w' := by
  have hb0 := alloc_below w (.cells #[.int .i64 i, .int .i64 st, .slice A n c, .slice B m d] 24)
  have hne : (vld i st nx ot != 0) = true := by simpa using hv
  go_enter Try.func82, Try.ntmps82
  go_wp2_with fail
  refine (pvalid _ _ _ _ _ _ _ _ _ _ _ (hx.below hb0) (ho.below hb0)).mono ?_
  rintro e w1 ⟨rfl, b1⟩
  have hbb := bt hb0 b1
  generalize vld i st nx ot = V at hne hv
  clear hb0 b1 hv
  go_wp2
  go_ret
  exact ⟨rfl, hbb⟩

set_option maxHeartbeats 2000000 in
set_option maxRecDepth 100000 in
theorem poutputs_ok (i st n : Nat) (A B : Option Addr) (c d : Nat) (nx ot : List (List Int)) (w : World) (hx : Lists w A n nx) (ho : Lists w B n ot) (hM : Mok i st n nx ot) :
    Calls Try.prog 82 #[.agg #[.int .i64 i, .int .i64 st, .slice A n c, .slice B n d]] w fun e w' => ∃ A' c', e = .returned (.slice A' (outL ot []).length c') ∧ Owned w' w.heap.size (.slice A' (outL ot []).length c') (outL ot []) ∧ Below w.heap.size w w' := by
  have HV := Lib.hid hM.vld
  have hF : ot.flatten.length ≤ 100000 := by
    have hn128 := hM.n2
    have hi64 := hM.i2
    have hrow : ∀ l, l ∈ ot → l.length ≤ 64 := fun l hl => by
      obtain ⟨j, hj, rfl⟩ := List.getElem_of_mem hl
      have h1 := (hM.row j (by rw [← hM.otl]; exact hj)).2.1
      rw [List.getD_eq_getElem?_getD, List.getElem?_eq_getElem hj] at h1
      have h2 : (ot[j]).length = i := h1
      omega
    have hlen : ∀ (t : List (List Int)), (∀ l, l ∈ t → l.length ≤ 64) → t.flatten.length ≤ 64 * t.length := by
      intro t
      induction t with
      | nil => intro _; simp
      | cons r t ih =>
        intro h
        have h1 := h r List.mem_cons_self
        have h2 := ih fun l hl => h l (List.mem_cons_of_mem _ hl)
        rw [List.flatten_cons, List.length_append, List.length_cons]
        omega
    have h3 := hlen ot hrow
    have h4 := hM.otl
    omega
  have HE := Lib.hid (out_eq ot)
  have HL := Lib.hid (show (ot.flatten.mergeSort fun x y => decide (x ≤ y)).length = ot.flatten.length from List.length_mergeSort _)
  have hb0 := alloc_below w (.cells #[.int .i64 i, .int .i64 st, .slice A n c, .slice B n d] 24)
  have HZ := Lib.hid (show (w.alloc (.cells #[.int .i64 i, .int .i64 st, .slice A n c, .slice B n d] 24)).heap.size = w.heap.size + 1 by simp)
  go_enter Try.func82, Try.ntmps82
  go_wp2_with fail
  refine (pvalid _ _ _ _ _ _ _ _ _ _ _ (hx.below hb0) (ho.below hb0)).mono ?_
  rintro e w1 ⟨rfl, b1⟩
  rw [HZ.out] at b1
  rw [HV.out]
  obtain ⟨k0, k1, k2, k3⟩ := box4 b1
  have hb1 := hb0.trans (b1.mono (Nat.le_succ _))
  have B1 := Lib.hid hb1
  have HC := Lib.hid (sconcat B n d ot w1 (ho.below hb1) (by omega))
  clear hb0 b1 hb1
  generalize ot.flatten = fl at HC HE HL hF
  go_wp2_with fail
  refine HC.out.mono ?_
  rintro e w2 ⟨A2, c2, rfl, o2, b2⟩
  have B2 := Lib.hid (bt B1.out b2)
  have HS := Lib.hid (psorti A2 fl.length c2 fl w.heap.size w2 (o2.lower B1.out.size) B2.out.size (by omega))
  clear b2 o2 k0 k1 k2 k3
  go_wp2_with fail
  refine HS.out.mono ?_
  rintro e w3 ⟨rfl, o3, b3⟩
  have B3 := Lib.hid (B2.out.trans b3)
  have HP := Lib.hid (pcompacti A2 fl.length c2 _ w.heap.size w3 o3 B3.out.size (by omega))
  clear b3 o3
  go_wp2_with fail
  refine HP.out.mono ?_
  rintro e w4 ⟨A4, c4, rfl, o4, b4⟩
  rw [HE.out] at o4 ⊢
  have O4 := Lib.hid o4
  have B4 := Lib.hid (B3.out.trans b4)
  clear o4 b4
  go_wp2
  go_ret
  exact ⟨A4, c4, rfl, O4.out, B4.out⟩
end Go.Proofs.Ytogcecfeofbbnaa
end

section
/- greatest, Product, Parallel, Cascade of the program. -/
namespace Go.Proofs.Ytogcecfeofbbnaa
open Go.RowKit Go.Shelf
theorem run_storeFn {P : Program} {w : World} {a : Addr} (fn : Fn) (first captured : Array Value) {m : Mode} : (store a (.func fn first captured) m).run P w = stored P w a (.func fn first captured) m := run_store P w a _ m rfl
attribute [local go_sem] run_storeFn

theorem foldl_maxI (xs : List Int) (a : Int) : a ≤ xs.foldl max a ∧ (∀ x ∈ xs, x ≤ xs.foldl max a) ∧ (xs.foldl max a = a ∨ xs.foldl max a ∈ xs) := by
  induction xs generalizing a with
  | nil => simp
  | cons x xs ih =>
    obtain ⟨h1, h2, h3⟩ := ih (max a x)
    rw [List.foldl_cons]
    refine ⟨by omega, fun y hy => ?_, ?_⟩
    · rcases List.mem_cons.1 hy with rfl | hy
      · omega
      · exact h2 y hy
    · rcases h3 with h3 | h3
      · by_cases h : a ≤ x
        · exact .inr (by rw [h3, Int.max_eq_right h]; simp)
        · exact .inl (by rw [h3]; omega)
      · exact .inr (List.mem_cons_of_mem _ h3)
theorem outL_memC (ot : List (List Int)) (x : Int) : x ∈ outL ot [] ↔ x ∈ ot.flatten := by rw [outL_flat, outR_mem]; simp
section
variable {i st n : Nat} {nx ot : List (List Int)}
theorem Mok.outL_pos (h : Mok i st n nx ot) : 0 < (outL ot []).length := List.length_pos_of_mem ((outL_memC ot _).2 (h.in_flat h.n1 h.i1))
theorem maxOf_mem {xs : List Int} (h : 0 < xs.length) : Lib.maxOf xs ∈ xs ∧ ∀ x ∈ xs, x ≤ Lib.maxOf xs := by
  cases xs with
  | nil => simp at h
  | cons x xs =>
    have := foldl_maxI (x :: xs) x
    refine ⟨?_, this.2.1⟩
    rcases this.2.2 with h1 | h1
    · show (x :: xs).foldl max x ∈ _; rw [h1]; simp
    · exact h1
theorem Mok.maxOf_grt (h : Mok i st n nx ot) : Lib.maxOf (outL ot []) = (grt ot : Int) := by
  obtain ⟨h1, h2⟩ := maxOf_mem h.outL_pos
  have h3 := (outL_memC ot _).1 h1
  obtain ⟨s, a, hs, ha, e⟩ := h.flat_at h3
  obtain ⟨s', a', hs', ha', e'⟩ := h.grt_at
  have h4 := h2 _ ((outL_memC ot _).2 (h.in_flat hs' ha'))
  rw [h.oM_eq hs' ha', e'] at h4
  have h5 := h.oM_grt hs ha
  rw [e, h.oM_eq hs ha] at h4 ⊢
  omega
end
theorem pmax1c (A : Option Addr) (n c : Nat) (xs : List Int) (w : World) (hx : Ints w A n xs) (h0 : 0 < n) :
    Calls Try.prog 104 #[.slice A n c] w fun e w' => e = .returned (.int .i64 (Lib.maxOf xs)) ∧ w' = w := by
  obtain ⟨b, off, rfl, _, hc⟩ := hx.2.2 h0
  have hl := hx.1
  have := Try.slices_Max_int b off n c xs w h0 (by omega) (by have := hx.2.1; omega) (fun j hj => hc j (by omega))
  rw [List.take_of_length_le (by omega)] at this
  exact this
theorem outR_lenC (xs acc : List Int) : (outR xs acc).length ≤ acc.length + xs.length := by
  induction xs generalizing acc with
  | nil => simp [outR]
  | cons x xs ih =>
    have h1 := ih (insS acc x)
    have h2 : (insS acc x).length ≤ acc.length + 1 := by
      unfold insS
      split
      · omega
      · rw [ins_len]; omega
    show (outR xs (insS acc x)).length ≤ _
    rw [List.length_cons]
    omega
theorem outL_le {i st n : Nat} {nx ot : List (List Int)} (h : Mok i st n nx ot) : (outL ot []).length ≤ 17592186044416 := by
  have hrow : ∀ l, l ∈ ot → l.length ≤ 64 := fun l hl => by
    obtain ⟨j, hj, rfl⟩ := List.getElem_of_mem hl
    have h1 := (h.row j (by rw [← h.otl]; exact hj)).2.1
    rw [List.getD_eq_getElem?_getD, List.getElem?_eq_getElem hj] at h1
    have h2 : (ot[j]).length = i := h1
    have := h.i2
    omega
  have hlen : ∀ (t : List (List Int)), (∀ l, l ∈ t → l.length ≤ 64) → t.flatten.length ≤ 64 * t.length := by
    intro t
    induction t with
    | nil => intro _; simp
    | cons r t ih =>
      intro h
      have h1 := h r List.mem_cons_self
      have h2 := ih fun l hl => h l (List.mem_cons_of_mem _ hl)
      rw [List.flatten_cons, List.length_append, List.length_cons]
      omega
  have h3 := hlen ot hrow
  have h4 := h.otl
  have h5 := h.n2
  have h6 := outR_lenC ot.flatten []
  rw [outL_flat]
  have h7 : ([] : List Int).length = 0 := rfl
  omega
set_option maxRecDepth 100000 in
theorem pgreatest (i st n : Nat) (A B : Option Addr) (c d : Nat) (nx ot : List (List Int)) (w : World) (hx : Lists w A n nx) (ho : Lists w B n ot) (hM : Mok i st n nx ot) :
    Calls Try.prog 68 #[.agg #[.int .i64 i, .int .i64 st, .slice A n c, .slice B n d]] w fun e w' => e = .returned (.int .i64 (grt ot : Nat)) ∧ Below w.heap.size w w' := by
  have hb0 := alloc_below w (.cells #[.int .i64 i, .int .i64 st, .slice A n c, .slice B n d] 24)
  obtain ⟨k0, k1, k2, k3, _⟩ := (mealy_box w (.int .i64 i) (.int .i64 st) (.slice A n c) (.slice B n d)).cells
  have HG := Lib.hid hM.maxOf_grt
  have hpos := hM.outL_pos
  have hle := outL_le hM
  go_enter Try.func68, Try.ntmps68
  go_wp2_with fail
  refine (poutputs_ok i st n A B c d nx ot _ (hx.below hb0) (ho.below hb0) hM).mono ?_
  rintro e w1 ⟨A1, c1, rfl, o1, b1⟩
  have HP := Lib.hid (pmax1c A1 _ c1 _ w1 (o1.ints hle) hpos)
  have HB := Lib.hid (bt hb0 b1)
  clear o1 b1 hb0 k0 k1 k2 k3
  go_wp2_with fail
  refine HP.out.mono ?_
  rintro e w2 ⟨rfl, rfl⟩
  rw [HG.out]
  go_wp2
  go_ret
  exact ⟨rfl, HB.out⟩
end Go.Proofs.Ytogcecfeofbbnaa
end
