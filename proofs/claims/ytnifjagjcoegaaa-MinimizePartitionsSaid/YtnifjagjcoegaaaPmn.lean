/- Partition, Classes, Depth. -/
import Derived.Test.YtnifjagjcoegaaaPtnw
import Derived.Test.YtnifjagjcoegaaaQtw
namespace Go.Proofs.Ytnifjagjcoegaaa
open Go.RowKit

theorem vld_i64 (i st : Int) (nx ot : List (List Int)) (_ : ¬ vld i st nx ot = 0) : (vld i st nx ot != 0) = true := by simpa
set_option maxHeartbeats 1000000 in
theorem ppart_bad (i st : Int) (A B : Option Addr) (n c m d : Nat) (nx ot : List (List Int)) (k : Int) (w : World) (hx : Lists w A n nx) (ho : Lists w B m ot) (hv : ¬ vld i st nx ot = 0) :
    Calls Try.prog 47 #[.agg #[.int .i64 i, .int .i64 st, .slice A n c, .slice B m d], .int .i64 k] w fun e w' => e = .returned (.tuple #[.slice none 0 0, .int .i64 (vld i st nx ot)]) ∧ Below w.heap.size w w' := by
  have hb0 := alloc_below w (.cells #[.int .i64 i, .int .i64 st, .slice A n c, .slice B m d] 58)
  have hne : (vld i st nx ot != 0) = true := by simpa using hv
  go_enter Try.func47, Try.ntmps47
  go_wp2_with fail
  refine (pvalid _ _ _ _ _ _ _ _ _ _ _ (hx.below hb0) (ho.below hb0)).mono ?_
  rintro e w1 ⟨rfl, b1⟩
  have b1 := bt hb0 b1
  generalize hE : vld i st nx ot = E at hne hv
  have HE := Lib.hid hE
  clear hv hE
  go_wp2
  go_ret2
  exact ⟨by rw [HE.out]; rfl, b1⟩
set_option maxHeartbeats 1000000 in
theorem pdep_bad (i st : Int) (A B : Option Addr) (n c m d : Nat) (nx ot : List (List Int)) (w : World) (hx : Lists w A n nx) (ho : Lists w B m ot) (hv : ¬ vld i st nx ot = 0) :
    Calls Try.prog 52 #[.agg #[.int .i64 i, .int .i64 st, .slice A n c, .slice B m d]] w fun e w' => e = .returned (.tuple #[.int .i64 0, .int .i64 (vld i st nx ot)]) ∧ Below w.heap.size w w' := by
  have hb0 := alloc_below w (.cells #[.int .i64 i, .int .i64 st, .slice A n c, .slice B m d] 58)
  have hne : (vld i st nx ot != 0) = true := by simpa using hv
  go_enter Try.func52, Try.ntmps52
  go_wp2_with fail
  refine (pvalid _ _ _ _ _ _ _ _ _ _ _ (hx.below hb0) (ho.below hb0)).mono ?_
  rintro e w1 ⟨rfl, b1⟩
  have b1 := bt hb0 b1
  generalize hE : vld i st nx ot = E at hne hv
  have HE := Lib.hid hE
  clear hv hE
  go_wp2
  go_ret2
  exact ⟨by rw [HE.out]; rfl, b1⟩
theorem mealy_box (w : World) (a b c d : Value) : Mblk (w.alloc (.cells #[a, b, c, d] 58)) w.heap.size a b c d := heap_alloc_new _ _
set_option maxHeartbeats 1000000 in
theorem ppart_ok (i st n : Nat) (A B : Option Addr) (c d : Nat) (nx ot : List (List Int)) (k : Int) (w : World) (hx : Lists w A n nx) (ho : Lists w B n ot) (hM : Mok i st n nx ot) (hk : k ≤ 9223372036854775807) :
    Calls Try.prog 47 #[.agg #[.int .i64 i, .int .i64 st, .slice A n c, .slice B n d], .int .i64 k] w fun e w' => ∃ A' c', e = .returned (.tuple #[.slice A' n c', .int .i64 0]) ∧ Owned w' w.heap.size (.slice A' n c') (zs (pt nx ot i n (rounds_ nx ot i n k))) ∧ Below w.heap.size w w' := by
  have hb0 := alloc_below w (.cells #[.int .i64 i, .int .i64 st, .slice A n c, .slice B n d] 58)
  have hB := mealy_box w (.int .i64 i) (.int .i64 st) (.slice A n c) (.slice B n d)
  have HB := Lib.hid hB
  have HV := Lib.hid hM.vld
  clear hB
  go_enter Try.func47, Try.ntmps47
  go_wp2_with fail
  refine (pvalid _ _ _ _ _ _ _ _ _ _ _ (hx.below hb0) (ho.below hb0)).mono ?_
  rintro e w1 ⟨rfl, b1⟩
  rw [HV.out]
  obtain ⟨k0, k1, k2, k3, _⟩ := (HB.out.kept b1 (by simp)).cells
  have b1 := bt hb0 b1
  go_wp2_with fail
  refine (ppartn i st n A B c d nx ot k _ (hx.below b1) (ho.below b1) hM hk).mono ?_
  rintro e w2 ⟨A', c', rfl, hO, b2⟩
  have HO := Lib.hid (hO.lower (base' := w.heap.size) b1.size)
  have b2 := bt b1 b2
  clear k0 k1 k2 k3 hO
  go_wp2
  go_ret2
  exact ⟨A', c', rfl, HO.out, b2⟩
theorem rounds_max {i st n : Nat} {nx ot : List (List Int)} (hM : Mok i st n nx ot) : rounds_ nx ot i n 9223372036854775807 = dep nx ot i n := by
  have h1 := hM.dep_lt
  have h2 := hM.n2
  unfold rounds_
  rw [if_neg (by omega)]
set_option maxHeartbeats 1000000 in
theorem pdep_ok (i st n : Nat) (A B : Option Addr) (c d : Nat) (nx ot : List (List Int)) (w : World) (hx : Lists w A n nx) (ho : Lists w B n ot) (hM : Mok i st n nx ot) :
    Calls Try.prog 52 #[.agg #[.int .i64 i, .int .i64 st, .slice A n c, .slice B n d]] w fun e w' => e = .returned (.tuple #[.int .i64 (dep nx ot i n : Nat), .int .i64 0]) ∧ Below w.heap.size w w' := by
  have hb0 := alloc_below w (.cells #[.int .i64 i, .int .i64 st, .slice A n c, .slice B n d] 58)
  have hB := mealy_box w (.int .i64 i) (.int .i64 st) (.slice A n c) (.slice B n d)
  have HB := Lib.hid hB
  have HV := Lib.hid hM.vld
  have HR := Lib.hid (rounds_max hM)
  clear hB
  go_enter Try.func52, Try.ntmps52
  go_wp2_with fail
  refine (pvalid _ _ _ _ _ _ _ _ _ _ _ (hx.below hb0) (ho.below hb0)).mono ?_
  rintro e w1 ⟨rfl, b1⟩
  rw [HV.out]
  obtain ⟨k0, k1, k2, k3, _⟩ := (HB.out.kept b1 (by simp)).cells
  have b1 := bt hb0 b1
  go_wp2_with fail
  refine (ppartn i st n A B c d nx ot _ _ (hx.below b1) (ho.below b1) hM (by omega)).mono ?_
  rintro e w2 ⟨A', c', rfl, hO, b2⟩
  rw [HR.out]
  have b2 := bt b1 b2
  clear k0 k1 k2 k3 hO
  go_wp2
  go_ret2
  exact ⟨rfl, b2⟩
set_option maxHeartbeats 1000000 in
theorem pcls_bad (i st : Int) (A B : Option Addr) (n c m d : Nat) (nx ot : List (List Int)) (w : World) (hx : Lists w A n nx) (ho : Lists w B m ot) (hv : ¬ vld i st nx ot = 0) :
    Calls Try.prog 50 #[.agg #[.int .i64 i, .int .i64 st, .slice A n c, .slice B m d]] w fun e w' => e = .returned (.tuple #[.slice none 0 0, .int .i64 (vld i st nx ot)]) ∧ Below w.heap.size w w' := by
  have hb0 := alloc_below w (.cells #[.int .i64 i, .int .i64 st, .slice A n c, .slice B m d] 58)
  go_enter Try.func50, Try.ntmps50
  go_wp2_with fail
  refine (ppart_bad _ _ _ _ _ _ _ _ _ _ _ _ (hx.below hb0) (ho.below hb0) hv).mono ?_
  rintro e w1 ⟨rfl, b1⟩
  have b1 := bt hb0 b1
  generalize hE : vld i st nx ot = E at hv
  have HE := Lib.hid hE
  clear hv hE
  go_wp2
  go_ret2
  exact ⟨by rw [HE.out]; rfl, b1⟩
set_option maxHeartbeats 1000000 in
theorem pcls_ok (i st n : Nat) (A B : Option Addr) (c d : Nat) (nx ot : List (List Int)) (w : World) (hx : Lists w A n nx) (ho : Lists w B n ot) (hM : Mok i st n nx ot) :
    Calls Try.prog 50 #[.agg #[.int .i64 i, .int .i64 st, .slice A n c, .slice B n d]] w fun e w' => ∃ A' c', e = .returned (.tuple #[.slice A' n c', .int .i64 0]) ∧ Owned w' w.heap.size (.slice A' n c') (zs (pt nx ot i n (dep nx ot i n))) ∧ Below w.heap.size w w' := by
  have hb0 := alloc_below w (.cells #[.int .i64 i, .int .i64 st, .slice A n c, .slice B n d] 58)
  have HR := Lib.hid (rounds_max hM)
  go_enter Try.func50, Try.ntmps50
  go_wp2_with fail
  refine (ppart_ok i st n A B c d nx ot _ _ (hx.below hb0) (ho.below hb0) hM (by omega)).mono ?_
  rintro e w1 ⟨A', c', rfl, hO, b1⟩
  rw [HR.out] at hO
  have HO := Lib.hid (hO.lower (base' := w.heap.size) hb0.size)
  have b1 := bt hb0 b1
  clear hO
  go_wp2
  go_ret2
  exact ⟨A', c', rfl, HO.out, b1⟩
end Go.Proofs.Ytnifjagjcoegaaa
