/- The examples of minimize. -/
import Derived.Test.YtnifjagjcoegaaaRcl
import Derived.Test.YtnifjagjcoegaaaPml
import Derived.Test.YtnifjagjcoegaaaSamem
import Derived.Test.YtnifjagjcoegaaaLitl
namespace Go.Proofs.Ytnifjagjcoegaaa
open Go.RowKit

def e8N : List (List Int) := [[1], [2], [3], [1]]
def e8O : List (List Int) := [[0], [0], [1], [0]]
def e9N : List (List Int) := [[1], [2], [0]]
def e9O : List (List Int) := [[0], [0], [1]]
theorem e8_ok : Mok 1 0 4 e8N e8O := by
  refine ⟨by decide, by decide, by decide, by decide, by decide, rfl, rfl, fun s hs => ?_⟩
  match s, hs with
  | 0, _ => exact ⟨rfl, rfl, by decide⟩
  | 1, _ => exact ⟨rfl, rfl, by decide⟩
  | 2, _ => exact ⟨rfl, rfl, by decide⟩
  | 3, _ => exact ⟨rfl, rfl, by decide⟩
theorem e9_ok : Mok 1 0 3 e9N e9O := by
  refine ⟨by decide, by decide, by decide, by decide, by decide, rfl, rfl, fun s hs => ?_⟩
  match s, hs with
  | 0, _ => exact ⟨rfl, rfl, by decide⟩
  | 1, _ => exact ⟨rfl, rfl, by decide⟩
  | 2, _ => exact ⟨rfl, rfl, by decide⟩
theorem e8_1 : zs (pt e8N e8O 1 4 (rounds_ e8N e8O 1 4 1)) = [0, 0, 1, 0] := by decide +kernel
theorem e8_2 : zs (pt e8N e8O 1 4 (dep e8N e8O 1 4)) = [0, 1, 2, 0] := by decide +kernel
theorem e8_3 : dep e8N e8O 1 4 = 2 := by decide +kernel
theorem e8_4 : (mnR e8N e8O 1 0 4).length = 3 := by decide +kernel
theorem e8_5 : mnN e8N e8O 1 0 4 = e9N := by decide +kernel
theorem e8_6 : mnO e8N e8O 1 0 4 = e9O := by decide +kernel
theorem e9_1 : (mnR e9N e9O 1 0 3).length = 3 := by decide +kernel

/-- Equal of a list and a literal that is equal to it. -/
theorem equal_lit (w : World) (A : Option Addr) (n c : Nat) (cs : Array Value) (m : Nat) (xs : List Int) (h : Ints w A n xs) (h1 : cs = lit xs) (h2 : m = xs.length) (l1 : xs.length ≤ 1000) :
    Calls Try.prog 49 #[.slice A n c, .slice (some ⟨w.heap.size, 0, none⟩) m m] (w.alloc (.cells cs 3)) fun e w' => e = .returned (.bool true) ∧ Below w.heap.size w w' := by
  refine (requal _ _ _ _ _ _ xs xs true _ (h.below (alloc_below w _)) (Ints.new w xs cs m h1 h2 (by omega)) (by simp)).mono ?_
  rintro e w' ⟨rfl, hq⟩
  exact ⟨rfl, (alloc_below w _).trans ((rd_below hq).mono (by simp))⟩

set_option maxHeartbeats 2000000 in
set_option maxRecDepth 100000 in
theorem awake8 (w : World) : Calls Try.prog 46 #[] w fun e w' => e = .returned (.bool true) ∧ Below w.heap.size w w' := by
  have zw : w.heap.size = w.heap.size := rfl
  obtain ⟨W1, hW1⟩ : ∃ W1, W1 = (((((w.alloc (.cells #[.int .i64 1] 3)).alloc (.cells #[.int .i64 2] 3)).alloc (.cells #[.int .i64 3] 3)).alloc (.cells #[.int .i64 1] 3)).alloc (.cells #[.slice (some ⟨w.heap.size, 0, none⟩) 1 1, .slice (some ⟨w.heap.size + 1, 0, none⟩) 1 1, .slice (some ⟨w.heap.size + 1 + 1, 0, none⟩) 1 1, .slice (some ⟨w.heap.size + 1 + 1 + 1, 0, none⟩) 1 1] 26)) := ⟨_, rfl⟩
  have fW1 : Lists W1 (some ⟨w.heap.size + 1 + 1 + 1 + 1, 0, none⟩) 4 e8N ∧ Below w.heap.size w W1 ∧ W1.heap.size = w.heap.size + 1 + 1 + 1 + 1 + 1 := by
    rw [hW1]
    exact ⟨(litL_lists w (w.heap.size) e8N 4 zw rfl (by decide) (by decide)).lists, litL_below w (w.heap.size) e8N, (litL_size w (w.heap.size) e8N).trans (by rw [zw]; rfl)⟩
  obtain ⟨n1, b1, zW1⟩ := fW1
  obtain ⟨W2, hW2⟩ : ∃ W2, W2 = (((((W1.alloc (.cells #[.int .i64 0] 3)).alloc (.cells #[.int .i64 0] 3)).alloc (.cells #[.int .i64 1] 3)).alloc (.cells #[.int .i64 0] 3)).alloc (.cells #[.slice (some ⟨w.heap.size + 1 + 1 + 1 + 1 + 1, 0, none⟩) 1 1, .slice (some ⟨w.heap.size + 1 + 1 + 1 + 1 + 1 + 1, 0, none⟩) 1 1, .slice (some ⟨w.heap.size + 1 + 1 + 1 + 1 + 1 + 1 + 1, 0, none⟩) 1 1, .slice (some ⟨w.heap.size + 1 + 1 + 1 + 1 + 1 + 1 + 1 + 1, 0, none⟩) 1 1] 26)) := ⟨_, rfl⟩
  have fW2 : Lists W2 (some ⟨w.heap.size + 1 + 1 + 1 + 1 + 1 + 1 + 1 + 1 + 1, 0, none⟩) 4 e8O ∧ Below W1.heap.size W1 W2 ∧ W2.heap.size = w.heap.size + 1 + 1 + 1 + 1 + 1 + 1 + 1 + 1 + 1 + 1 := by
    rw [hW2]
    exact ⟨(litL_lists W1 (w.heap.size + 1 + 1 + 1 + 1 + 1) e8O 4 zW1 rfl (by decide) (by decide)).lists, litL_below W1 (w.heap.size + 1 + 1 + 1 + 1 + 1) e8O, (litL_size W1 (w.heap.size + 1 + 1 + 1 + 1 + 1) e8O).trans (by rw [zW1]; rfl)⟩
  obtain ⟨o2, b2, zW2⟩ := fW2
  have n2 := n1.below b2
  have b2 := bt b1 b2
  obtain ⟨W3, hW3⟩ : ∃ W3, W3 = W2.alloc (.cells #[.int .i64 1, .int .i64 0, .slice (some ⟨w.heap.size + 1 + 1 + 1 + 1, 0, none⟩) 4 4, .slice (some ⟨w.heap.size + 1 + 1 + 1 + 1 + 1 + 1 + 1 + 1 + 1, 0, none⟩) 4 4] 58) := ⟨_, rfl⟩
  have l3 := alloc_below W2 (.cells #[.int .i64 1, .int .i64 0, .slice (some ⟨w.heap.size + 1 + 1 + 1 + 1, 0, none⟩) 4 4, .slice (some ⟨w.heap.size + 1 + 1 + 1 + 1 + 1 + 1 + 1 + 1 + 1, 0, none⟩) 4 4] 58)
  have X3 := mealy_box W2 (.int .i64 1) (.int .i64 0) (.slice (some ⟨w.heap.size + 1 + 1 + 1 + 1, 0, none⟩) 4 4) (.slice (some ⟨w.heap.size + 1 + 1 + 1 + 1 + 1 + 1 + 1 + 1 + 1, 0, none⟩) 4 4)
  rw [← hW3] at l3 X3
  rw [zW2] at X3
  have n3 := n2.below l3
  have o3 := o2.below l3
  have b3 := bt b2 l3
  have HW : Hid (W3 = (((((((((((w.alloc (.cells #[.int .i64 1] 3)).alloc (.cells #[.int .i64 2] 3)).alloc (.cells #[.int .i64 3] 3)).alloc (.cells #[.int .i64 1] 3)).alloc (.cells #[.slice (some ⟨w.heap.size, 0, none⟩) 1 1, .slice (some ⟨w.heap.size + 1, 0, none⟩) 1 1, .slice (some ⟨w.heap.size + 1 + 1, 0, none⟩) 1 1, .slice (some ⟨w.heap.size + 1 + 1 + 1, 0, none⟩) 1 1] 26)).alloc (.cells #[.int .i64 0] 3)).alloc (.cells #[.int .i64 0] 3)).alloc (.cells #[.int .i64 1] 3)).alloc (.cells #[.int .i64 0] 3)).alloc (.cells #[.slice (some ⟨w.heap.size + 1 + 1 + 1 + 1 + 1, 0, none⟩) 1 1, .slice (some ⟨w.heap.size + 1 + 1 + 1 + 1 + 1 + 1, 0, none⟩) 1 1, .slice (some ⟨w.heap.size + 1 + 1 + 1 + 1 + 1 + 1 + 1, 0, none⟩) 1 1, .slice (some ⟨w.heap.size + 1 + 1 + 1 + 1 + 1 + 1 + 1 + 1, 0, none⟩) 1 1] 26))).alloc (.cells #[.int .i64 1, .int .i64 0, .slice (some ⟨w.heap.size + 1 + 1 + 1 + 1, 0, none⟩) 4 4, .slice (some ⟨w.heap.size + 1 + 1 + 1 + 1 + 1 + 1 + 1 + 1 + 1, 0, none⟩) 4 4] 58)) := Lib.hid (by rw [hW3, hW2, hW1])
  have HX := Lib.hid X3
  clear hW1 hW2 hW3 zW1 zW2 zw b1 b2 l3 X3 n1 n2 o2
  go_enter Try.func46, Try.ntmps46
  go_wp2_with fail
  rw [← HW.out]
  refine (ppart_ok 1 0 4 _ _ 4 4 e8N e8O 1 _ n3 o3 e8_ok (by decide)).mono ?_
  rintro e w4 ⟨A4, c4, rfl, h4, b4⟩
  rw [e8_1] at h4
  have h4 := Owned.ints h4 (by simp)
  have X4 := HX.out.kept b4 (heap_lt HX.out)
  have HX := Lib.hid X4
  obtain ⟨x0, x1, x2, x3, _⟩ := X4.cells
  have n4 := n3.below b4
  have o4 := o3.below b4
  have b4 := bt b3 b4
  clear X4 n3 o3 b3
  go_wp2_with fail
  refine (pcls_ok 1 0 4 _ _ 4 4 e8N e8O _ n4 o4 e8_ok).mono ?_
  rintro e w5 ⟨A5, c5, rfl, h5, b5⟩
  rw [e8_2] at h5
  have h5 := Owned.ints h5 (by simp)
  have X5 := HX.out.kept b5 (heap_lt HX.out)
  have HX := Lib.hid X5
  obtain ⟨x0, x1, x2, x3, _⟩ := X5.cells
  have n5 := n4.below b5
  have o5 := o4.below b5
  have h4 := h4.below b5
  have b5 := bt b4 b5
  clear X5 n4 o4 b4
  go_wp2_with fail
  refine (pdep_ok 1 0 4 _ _ 4 4 e8N e8O _ n5 o5 e8_ok).mono ?_
  rintro e w6 ⟨rfl, b6⟩
  rw [e8_3]
  have X6 := HX.out.kept b6 (heap_lt HX.out)
  have HX := Lib.hid X6
  obtain ⟨x0, x1, x2, x3, _⟩ := X6.cells
  have n6 := n5.below b6
  have o6 := o5.below b6
  have h4 := h4.below b6
  have h5 := h5.below b6
  have b6 := bt b5 b6
  clear X6 n5 o5 b5
  go_wp2_with fail
  refine (pmin_ok 1 0 4 _ _ 4 4 e8N e8O _ n6 o6 e8_ok).mono ?_
  rintro e w7 ⟨A7, c7, B7, d7, rfl, hN, hO, b7⟩
  rw [e8_4] at hN hO ⊢
  rw [e8_5] at hN
  rw [e8_6] at hO
  have n8 := lists_ownedM e9_ok hN
  have o8 := lists_ownedO e9_ok hO
  have X7 := HX.out.kept b7 (heap_lt HX.out)
  have HX := Lib.hid X7
  have n7 := n6.below b7
  have o7 := o6.below b7
  have h4 := h4.below b7
  have h5 := h5.below b7
  have b7 := bt b6 b7
  clear X7 n6 o6 b6 hN hO
  obtain ⟨w8, hw8⟩ : ∃ w8, w8 = w7.alloc (.cells #[.int .i64 1, .int .i64 0, .slice A7 3 c7, .slice B7 3 d7] 58) := ⟨_, rfl⟩
  have l8 := alloc_below w7 (.cells #[.int .i64 1, .int .i64 0, .slice A7 3 c7, .slice B7 3 d7] 58)
  have Y8 := mealy_box w7 (.int .i64 1) (.int .i64 0) (.slice A7 3 c7) (.slice B7 3 d7)
  rw [← hw8] at l8 Y8
  have X8 := HX.out.kept l8 (heap_lt HX.out)
  have n7 := n7.below l8
  have o7 := o7.below l8
  have n8 := n8.below l8
  have o8 := o8.below l8
  have h4 := h4.below l8
  have h5 := h5.below l8
  have b8 := bt b7 l8
  have HW8 := Lib.hid hw8
  have HX := Lib.hid X8
  have HY := Lib.hid Y8
  clear hw8 X8 Y8 l8 b7
  have hbad : ¬ vld 0 0 [] [] = 0 := by decide
  have hbe : vld 0 0 [] [] = 2 := by decide
  have HBE := Lib.hid hbe
  clear hbe
  go_wp2_with fail
  try rw [← HW8.out]
  refine (pcls_bad 0 0 none none 0 0 0 0 [] [] _ ⟨rfl, by omega, fun h => absurd h (by omega)⟩ ⟨rfl, by omega, fun h => absurd h (by omega)⟩ hbad).mono ?_
  rintro e w9 ⟨rfl, b9⟩
  rw [HBE.out]
  clear hbad
  have HX := Lib.hid (HX.out.kept b9 (heap_lt HX.out))
  have HY := Lib.hid (HY.out.kept b9 (heap_lt HY.out))
  have n9 := n7.below b9
  have o9 := o7.below b9
  have n8 := n8.below b9
  have o8 := o8.below b9
  have h4 := h4.below b9
  have h5 := h5.below b9
  have b9 := bt b8 b9
  clear b8 n7 o7
  go_wp2_with fail
  refine (equal_lit _ _ _ _ _ 4 [0, 0, 1, 0] h4 rfl rfl (by decide)).mono ?_
  rintro e w10 ⟨rfl, b10⟩
  have h5 := h5.below b10
  go_wp2_with fail
  refine (equal_lit _ _ _ _ _ 4 [0, 1, 2, 0] h5 rfl rfl (by decide)).mono ?_
  rintro e w11 ⟨rfl, b11⟩
  have b1011 := bt b10 b11
  have HX := Lib.hid (HX.out.kept b1011 (heap_lt HX.out))
  have HY := Lib.hid (HY.out.kept b1011 (heap_lt HY.out))
  have n11 := n9.below b1011
  have o11 := o9.below b1011
  have n8 := n8.below b1011
  have o8 := o8.below b1011
  have b11 := bt b9 b1011
  clear b9 b10 n9 o9 h4 h5 b1011
  obtain ⟨y0, y1, y2, y3, _⟩ := HY.out.cells
  have zw11 : w11.heap.size = w11.heap.size := rfl
  obtain ⟨V1, hV1⟩ : ∃ V1, V1 = ((((w11.alloc (.cells #[.int .i64 1] 3)).alloc (.cells #[.int .i64 2] 3)).alloc (.cells #[.int .i64 0] 3)).alloc (.cells #[.slice (some ⟨w11.heap.size, 0, none⟩) 1 1, .slice (some ⟨w11.heap.size + 1, 0, none⟩) 1 1, .slice (some ⟨w11.heap.size + 1 + 1, 0, none⟩) 1 1] 26)) := ⟨_, rfl⟩
  have fV1 : Lists V1 (some ⟨w11.heap.size + 1 + 1 + 1, 0, none⟩) 3 e9N ∧ Below w11.heap.size w11 V1 ∧ V1.heap.size = w11.heap.size + 1 + 1 + 1 + 1 := by
    rw [hV1]
    exact ⟨(litL_lists w11 (w11.heap.size) e9N 3 zw11 rfl (by decide) (by decide)).lists, litL_below w11 (w11.heap.size) e9N, (litL_size w11 (w11.heap.size) e9N).trans (by rw [zw11]; rfl)⟩
  obtain ⟨n12, b12, zV1⟩ := fV1
  obtain ⟨V2, hV2⟩ : ∃ V2, V2 = ((((V1.alloc (.cells #[.int .i64 0] 3)).alloc (.cells #[.int .i64 0] 3)).alloc (.cells #[.int .i64 1] 3)).alloc (.cells #[.slice (some ⟨w11.heap.size + 1 + 1 + 1 + 1, 0, none⟩) 1 1, .slice (some ⟨w11.heap.size + 1 + 1 + 1 + 1 + 1, 0, none⟩) 1 1, .slice (some ⟨w11.heap.size + 1 + 1 + 1 + 1 + 1 + 1, 0, none⟩) 1 1] 26)) := ⟨_, rfl⟩
  have fV2 : Lists V2 (some ⟨w11.heap.size + 1 + 1 + 1 + 1 + 1 + 1 + 1, 0, none⟩) 3 e9O ∧ Below V1.heap.size V1 V2 ∧ V2.heap.size = w11.heap.size + 1 + 1 + 1 + 1 + 1 + 1 + 1 + 1 := by
    rw [hV2]
    exact ⟨(litL_lists V1 (w11.heap.size + 1 + 1 + 1 + 1) e9O 3 zV1 rfl (by decide) (by decide)).lists, litL_below V1 (w11.heap.size + 1 + 1 + 1 + 1) e9O, (litL_size V1 (w11.heap.size + 1 + 1 + 1 + 1) e9O).trans (by rw [zV1]; rfl)⟩
  obtain ⟨o13, b13, zV2⟩ := fV2
  have n13 := n12.below b13
  have bl := bt b12 b13
  have HX := Lib.hid (HX.out.kept bl (heap_lt HX.out))
  have HY := Lib.hid (HY.out.kept bl (heap_lt HY.out))
  have n14 := n11.below bl
  have o14 := o11.below bl
  have n8 := n8.below bl
  have o8 := o8.below bl
  have b13 := bt b11 bl
  have HV : Hid (V2 = ((((((((w11.alloc (.cells #[.int .i64 1] 3)).alloc (.cells #[.int .i64 2] 3)).alloc (.cells #[.int .i64 0] 3)).alloc (.cells #[.slice (some ⟨w11.heap.size, 0, none⟩) 1 1, .slice (some ⟨w11.heap.size + 1, 0, none⟩) 1 1, .slice (some ⟨w11.heap.size + 1 + 1, 0, none⟩) 1 1] 26)).alloc (.cells #[.int .i64 0] 3)).alloc (.cells #[.int .i64 0] 3)).alloc (.cells #[.int .i64 1] 3)).alloc (.cells #[.slice (some ⟨w11.heap.size + 1 + 1 + 1 + 1, 0, none⟩) 1 1, .slice (some ⟨w11.heap.size + 1 + 1 + 1 + 1 + 1, 0, none⟩) 1 1, .slice (some ⟨w11.heap.size + 1 + 1 + 1 + 1 + 1 + 1, 0, none⟩) 1 1] 26))) := Lib.hid (by rw [hV2, hV1])
  clear hV1 hV2 zV1 zV2 zw11 b12 bl n12 n11 o11 b11
  go_wp2_with fail
  rw [← HV.out]
  refine (rsamem _ _ _ _ _ _ _ _ _ _ _ _ _ _ _ _ _ _ _ _ true _ n8 o8 n13 o13 (by simp)).mono ?_
  rintro e w14 ⟨rfl, b14⟩
  have HX := Lib.hid (HX.out.kept b14 (heap_lt HX.out))
  have HY := Lib.hid (HY.out.kept b14 (heap_lt HY.out))
  have n14 := n14.below b14
  have o14 := o14.below b14
  have n8 := n8.below b14
  have o8 := o8.below b14
  have b14 := bt b13 b14
  clear b13 y0 y1 y2 y3 n13 o13
  obtain ⟨y0, y1, y2, y3, _⟩ := HY.out.cells
  go_wp2_with fail
  refine (pminl_ok 1 0 3 _ _ _ _ e9N e9O true _ n8 o8 e9_ok (by rw [e9_1]; rfl)).mono ?_
  rintro e w15 ⟨rfl, b15⟩
  have HX := Lib.hid (HX.out.kept b15 (heap_lt HX.out))
  have n15 := n14.below b15
  have o15 := o14.below b15
  have b15 := bt b14 b15
  clear b14 y0 y1 y2 y3 n14 o14 n8 o8
  obtain ⟨x0, x1, x2, x3, _⟩ := HX.out.cells
  go_wp2_with fail
  refine (pminl_ok 1 0 4 _ _ _ _ e8N e8O false _ n15 o15 e8_ok (by rw [e8_4]; rfl)).mono ?_
  rintro e w16 ⟨rfl, b16⟩
  go_wp2
  go_ret
  exact ⟨rfl, bt b15 b16⟩
end Go.Proofs.Ytnifjagjcoegaaa
