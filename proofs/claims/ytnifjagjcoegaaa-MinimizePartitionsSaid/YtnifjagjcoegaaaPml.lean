/- Minimal. -/
import Derived.Test.YtnifjagjcoegaaaPmm
namespace Go.Proofs.Ytnifjagjcoegaaa
open Go.RowKit

theorem pminl_bad (i st : Int) (A B : Option Addr) (n c m d : Nat) (nx ot : List (List Int)) (w : World) (hx : Lists w A n nx) (ho : Lists w B m ot) (hv : ¬ vld i st nx ot = 0) :
    Calls Try.prog 56 #[.agg #[.int .i64 i, .int .i64 st, .slice A n c, .slice B m d]] w fun e w' => e = .returned (.bool false) ∧ Below w.heap.size w w' := by
  have hb0 := alloc_below w (.cells #[.int .i64 i, .int .i64 st, .slice A n c, .slice B m d] 58)
  have hne : (vld i st nx ot == 0) = false := by simpa using hv
  go_enter Try.func56, Try.ntmps56
  go_wp2_with fail
  refine (pmin_bad _ _ _ _ _ _ _ _ _ _ _ (hx.below hb0) (ho.below hb0) hv).mono ?_
  rintro e w1 ⟨rfl, b1⟩
  have b1 := bt hb0 b1
  generalize hE : vld i st nx ot = E at hne hv
  have HE := Lib.hid hE
  clear hv hE
  go_wp2
  go_ret
  exact ⟨rfl, bt b1 (alloc_below _ _)⟩
set_option maxHeartbeats 1000000 in
theorem pminl_ok (i st n : Nat) (A B : Option Addr) (c d : Nat) (nx ot : List (List Int)) (b : Bool) (w : World) (hx : Lists w A n nx) (ho : Lists w B n ot) (hM : Mok i st n nx ot) (hb : b = decide ((mnR nx ot i st n).length = n)) :
    Calls Try.prog 56 #[.agg #[.int .i64 i, .int .i64 st, .slice A n c, .slice B n d]] w fun e w' => e = .returned (.bool b) ∧ Below w.heap.size w w' := by
  have hb0 := alloc_below w (.cells #[.int .i64 i, .int .i64 st, .slice A n c, .slice B n d] 58)
  have HBX := Lib.hid (mealy_box w (.int .i64 i) (.int .i64 st) (.slice A n c) (.slice B n d))
  obtain ⟨L, hL⟩ : ∃ L, L = (mnR nx ot i st n).length := ⟨_, rfl⟩
  have HL := Lib.hid hL
  rw [← hL] at hb
  have HB := Lib.hid hb
  have hd : ((L : Int) == (n : Int)) = b := by
    rw [HB.out]
    by_cases e : L = n
    · subst e; simp
    · rw [decide_eq_false e, beq_eq_false_iff_ne]; omega
  clear hL hb
  go_enter Try.func56, Try.ntmps56
  go_wp2_with fail
  refine (pmin_ok _ _ _ _ _ _ _ _ _ _ (hx.below hb0) (ho.below hb0) hM).mono ?_
  rintro e w1 ⟨A1, c1, B1, d1, rfl, hN, hO, b1⟩
  rw [← HL.out]
  have hB2 := (HBX.out.kept b1 (by simp)).kept (alloc_below w1 (.cells #[.int .i64 i, .int .i64 0, .slice A1 L c1, .slice B1 L d1] 58)) (by have := heap_lt (HBX.out.kept b1 (by simp)); exact this)
  obtain ⟨k0, k1, k2, k3, _⟩ := hB2.cells
  have b1 := bt hb0 b1
  have HD := Lib.hid hd
  clear hN hO hd
  cases b
  all_goals
    have hd := HD.out
    clear HD
    go_wp2
    go_ret
    exact ⟨rfl, bt b1 (alloc_below _ _)⟩
end Go.Proofs.Ytnifjagjcoegaaa
