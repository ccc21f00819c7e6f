/- Same of two machines by the two texts. -/
import Derived.Test.YtnifjagjcoegaaaEqm
namespace Go.Proofs.Ytnifjagjcoegaaa
open Go.RowKit

set_option maxHeartbeats 1000000 in
set_option maxRecDepth 100000 in
theorem psame (i st i2 st2 : Int) (A B C D : Option Addr) (n c m d p e q f : Nat) (nx ot nx2 ot2 : List (List Int)) (b : Bool) (w : World) (hx : Lists w A n nx) (ho : Lists w B m ot) (hx2 : Lists w C p nx2) (ho2 : Lists w D q ot2)
    (hb : b = decide (i = i2 ∧ st = st2 ∧ nx = nx2 ∧ ot = ot2)) :
    Calls Try.prog 62 #[.agg #[.int .i64 i, .int .i64 st, .slice A n c, .slice B m d], .agg #[.int .i64 i2, .int .i64 st2, .slice C p e, .slice D q f]] w fun e w' => e = .returned (.bool b) ∧ Below w.heap.size w w' := by
  have hb0 := alloc_below w (.cells #[.int .i64 i, .int .i64 st, .slice A n c, .slice B m d] 58)
  have hb1 := bt hb0 (alloc_below (w.alloc (.cells #[.int .i64 i, .int .i64 st, .slice A n c, .slice B m d] 58)) (.cells #[.int .i64 i2, .int .i64 st2, .slice C p e, .slice D q f] 58))
  by_cases h1 : i = i2
  · by_cases h2 : st = st2
    · by_cases h3 : nx = nx2
      · have z1 : (i == i2) = true := by simpa using h1
        have z2 : (st == st2) = true := by simpa using h2
        have H3 := Lib.hid ((decide_eq_true h3).symm)
        have hfin : Hid (b = decide (ot = ot2)) := Lib.hid (by rw [hb, decide_eq_decide]; exact ⟨fun H => H.2.2.2, fun H => ⟨h1, h2, h3, H⟩⟩)
        clear hb h1 h2 h3
        go_enter Try.func62, Try.ntmps62
        go_wp2_with fail
        refine (pequal _ _ _ _ _ _ _ _ _ _ (hx.below hb1) (hx2.below hb1) H3.out).mono ?_
        rintro e w1 ⟨rfl, q1, rfl⟩
        go_wp2_with fail
        refine (pequal _ _ _ _ _ _ _ _ _ _ (ho.below (below_drewN hb1 q1)) (ho2.below (below_drewN hb1 q1)) hfin.out).mono ?_
        rintro e w1 ⟨rfl, q2, rfl⟩
        go_wp2
        go_ret
        exact ⟨rfl, below_drewN hb1 _⟩
      · have z1 : (i == i2) = true := by simpa using h1
        have z2 : (st == st2) = true := by simpa using h2
        have H3 := Lib.hid ((decide_eq_false h3).symm)
        have hfin : Hid (b = false) := Lib.hid (hb.trans (decide_eq_false fun H => h3 H.2.2.1))
        clear hb h1 h2 h3
        go_enter Try.func62, Try.ntmps62
        go_wp2_with fail
        refine (pequal _ _ _ _ _ _ _ _ _ _ (hx.below hb1) (hx2.below hb1) H3.out).mono ?_
        rintro e w1 ⟨rfl, q1, rfl⟩
        go_wp2
        go_ret
        exact ⟨ret_bool hfin.out.symm, below_drewN hb1 q1⟩
    · have z1 : (i == i2) = true := by simpa using h1
      have z2 : (st == st2) = false := by simpa using h2
      have hfin : Hid (b = false) := Lib.hid (hb.trans (decide_eq_false fun H => h2 H.2.1))
      clear hb h1 h2
      go_enter Try.func62, Try.ntmps62
      go_wp2
      go_ret
      exact ⟨ret_bool hfin.out.symm, hb1⟩
  · have z1 : (i == i2) = false := by simpa using h1
    have hfin : Hid (b = false) := Lib.hid (hb.trans (decide_eq_false fun H => h1 H.1))
    clear hb h1
    go_enter Try.func62, Try.ntmps62
    go_wp2
    go_ret
    exact ⟨ret_bool hfin.out.symm, hb1⟩

set_option maxHeartbeats 1000000 in
set_option maxRecDepth 100000 in
theorem rsamem (i st i2 st2 : Int) (A B C D : Option Addr) (n c m d p e q f : Nat) (nx ot nx2 ot2 : List (List Int)) (b : Bool) (w : World) (hx : Lists w A n nx) (ho : Lists w B m ot) (hx2 : Lists w C p nx2) (ho2 : Lists w D q ot2)
    (hb : b = decide (i = i2 ∧ st = st2 ∧ nx = nx2 ∧ ot = ot2)) :
    Calls Try.prog 41 #[.agg #[.int .i64 i, .int .i64 st, .slice A n c, .slice B m d], .agg #[.int .i64 i2, .int .i64 st2, .slice C p e, .slice D q f]] w fun e w' => e = .returned (.bool b) ∧ Below w.heap.size w w' := by
  have hb0 := alloc_below w (.cells #[.int .i64 i, .int .i64 st, .slice A n c, .slice B m d] 58)
  have hb1 := bt hb0 (alloc_below (w.alloc (.cells #[.int .i64 i, .int .i64 st, .slice A n c, .slice B m d] 58)) (.cells #[.int .i64 i2, .int .i64 st2, .slice C p e, .slice D q f] 58))
  by_cases h1 : i = i2
  · by_cases h2 : st = st2
    · by_cases h3 : nx = nx2
      · have z1 : (i == i2) = true := by simpa using h1
        have z2 : (st == st2) = true := by simpa using h2
        have H3 := Lib.hid ((decide_eq_true h3).symm)
        have hfin : Hid (b = decide (ot = ot2)) := Lib.hid (by rw [hb, decide_eq_decide]; exact ⟨fun H => H.2.2.2, fun H => ⟨h1, h2, h3, H⟩⟩)
        clear hb h1 h2 h3
        go_enter Try.func41, Try.ntmps41
        go_wp2_with fail
        refine (rlists _ _ _ _ _ _ _ _ _ _ (hx.below hb1) (hx2.below hb1) H3.out).mono ?_
        rintro e w1 ⟨rfl, q1, rfl⟩
        go_wp2_with fail
        refine (rlists _ _ _ _ _ _ _ _ _ _ (ho.below (below_drewN hb1 q1)) (ho2.below (below_drewN hb1 q1)) hfin.out).mono ?_
        rintro e w1 ⟨rfl, q2, rfl⟩
        go_wp2
        go_ret
        exact ⟨rfl, below_drewN hb1 _⟩
      · have z1 : (i == i2) = true := by simpa using h1
        have z2 : (st == st2) = true := by simpa using h2
        have H3 := Lib.hid ((decide_eq_false h3).symm)
        have hfin : Hid (b = false) := Lib.hid (hb.trans (decide_eq_false fun H => h3 H.2.2.1))
        clear hb h1 h2 h3
        go_enter Try.func41, Try.ntmps41
        go_wp2_with fail
        refine (rlists _ _ _ _ _ _ _ _ _ _ (hx.below hb1) (hx2.below hb1) H3.out).mono ?_
        rintro e w1 ⟨rfl, q1, rfl⟩
        go_wp2
        go_ret
        exact ⟨ret_bool hfin.out.symm, below_drewN hb1 q1⟩
    · have z1 : (i == i2) = true := by simpa using h1
      have z2 : (st == st2) = false := by simpa using h2
      have hfin : Hid (b = false) := Lib.hid (hb.trans (decide_eq_false fun H => h2 H.2.1))
      clear hb h1 h2
      go_enter Try.func41, Try.ntmps41
      go_wp2
      go_ret
      exact ⟨ret_bool hfin.out.symm, hb1⟩
  · have z1 : (i == i2) = false := by simpa using h1
    have hfin : Hid (b = false) := Lib.hid (hb.trans (decide_eq_false fun H => h1 H.1))
    clear hb h1
    go_enter Try.func41, Try.ntmps41
    go_wp2
    go_ret
    exact ⟨ret_bool hfin.out.symm, hb1⟩

end Go.Proofs.Ytnifjagjcoegaaa
