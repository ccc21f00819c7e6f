/- Lemmas of the proofs of this seat, of the parts L13a. Conditions: none. -/
import Derived.Test.YtogcecfeofbbnaaHh
section
/- The law HomingWords: the walk. -/
namespace Go.Proofs.Ytogcecfeofbbnaa
open Go.RowKit

set_option linter.unusedSimpArgs false in
set_option linter.unusedVariables false in
set_option maxHeartbeats 8000000 in
set_option maxRecDepth 100000 in
theorem words13_walk (i1 st1 : Int) (A B : Option Addr) (n c m d : Nat) (nx ot : List (List Int)) (w : World) (hx1 : Lists w A n nx) (ho1 : Lists w B m ot) :
    Calls Try.prog 3 #[.agg #[.int .i64 i1, .int .i64 st1, .slice A n c, .slice B m d]] w fun e w' => e = .returned (.bool true) ∧ Below w.heap.size w w' := by
  obtain ⟨w0, hw0⟩ : ∃ w0, w0 = w.alloc (.cells #[.int .i64 i1, .int .i64 st1, .slice A n c, .slice B m d] 24) := ⟨_, rfl⟩
  have hb0 : Below w.heap.size w w0 := by rw [hw0]; exact alloc_below _ _
  have hG : Mblk w0 w.heap.size (.int .i64 i1) (.int .i64 st1) (.slice A n c) (.slice B m d) := by rw [hw0]; exact mealy_box w _ _ _ _
  have HW0 := Lib.hid hw0
  have HB0 := Lib.hid hb0
  have HX := Lib.hid (fun (W : World) (h : Below w0.heap.size w0 W) => (hx1.below hb0).below h)
  have HO := Lib.hid (fun (W : World) (h : Below w0.heap.size w0 W) => (ho1.below hb0).below h)
  have hz0 : w0.heap.size = w.heap.size + 1 := by rw [hw0]; simp
  have HG := Lib.hid (fun (W : World) (h : Below w0.heap.size w0 W) => hG.kept h (show w.heap.size < w0.heap.size by omega))
  have hbc := Below.refl w0.heap.size w0
  obtain ⟨k0, k1, k2, k3, _⟩ := hG.cells
  rw [HW0.out] at k0 k1 k2 k3
  clear hw0 hb0 hG hz0 hx1 ho1
  go_enter Try.func3, Try.ntmps3
  go_wp2_with fail
  rw [← HW0.out]
  refine (lsmall _ _ _ _ _ _ _ _ _ _ _ (HX.out _ hbc) (HO.out _ hbc)).mono ?_
  rintro e w1 ⟨b1, rfl, hs1, a1⟩
  have hbc := bt hbc a1
  clear k0 k1 k2 k3 a1
  clear hs1
  cases b1 with
  | false =>
    go_wp2_with fail
    refine (awake13 _).mono ?_
    rintro e w9 ⟨rfl, a9⟩
    go_wp2
    go_ret
    exact ⟨rfl, bt HB0.out (bt hbc a9)⟩
  | true =>
    obtain ⟨r, er, hR, hrl⟩ := HomR.ex i1 st1 nx ot
    have HR := Lib.hid hR
    clear hR
    obtain ⟨k0, k1, k2, k3, _⟩ := (HG.out _ hbc).cells
    go_wp2_with fail
    refine (pword13 _ _ _ _ _ _ _ _ _ _ _ _ _ (HX.out _ hbc) (HO.out _ hbc) HR.out).mono ?_
    rintro e w2 ⟨A2, c2, rfl, o2, a2⟩
    have h2 := o2.ints (by omega)
    have hbc := bt hbc a2
    clear k0 k1 k2 k3 a2 o2
    obtain ⟨k0, k1, k2, k3, _⟩ := (HG.out _ hbc).cells
    go_wp2_with fail
    refine (rword13 _ _ _ _ _ _ _ _ _ _ _ _ _ (HX.out _ hbc) (HO.out _ hbc) HR.out).mono ?_
    rintro e w3 ⟨A3, c3, rfl, o3, a3⟩
    have h3 := o3.ints (by omega)
    have h2 := h2.below a3
    have hbc := bt hbc a3
    have HE := Lib.hid (requal A2 A3 r.length c2 r.length c3 r r true w3 h2 h3 (by simp))
    clear k0 k1 k2 k3 a3 o3 h2 h3 hrl
    go_wp2_with fail
    refine HE.out.mono ?_
    rintro e w4 ⟨rfl, hq⟩
    have hbc := bt hbc (rd_below hq)
    clear hq
    go_wp2_with fail
    refine (awake13 _).mono ?_
    rintro e w9 ⟨rfl, a9⟩
    go_wp2
    go_ret
    exact ⟨rfl, bt HB0.out (bt hbc a9)⟩
end Go.Proofs.Ytogcecfeofbbnaa
end
