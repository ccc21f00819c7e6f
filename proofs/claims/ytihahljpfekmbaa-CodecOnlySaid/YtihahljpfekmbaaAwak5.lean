/- awake of the codec's laws. -/
import Derived.Test.YtihahljpfekmbaaTakj
import Derived.Test.YtihahljpfekmbaaPutr
import Derived.Test.YtihahljpfekmbaaSamw
import Derived.Test.YtihahljpfekmbaaCrcm
import Derived.Lib.SlBytesConst
namespace Go.Proofs.Ytihahljpfekmbaa
open Go.RowKit

theorem Byts.new (w : World) (bs : List Nat) (cs : Array Value) (n : Nat) (fr : Nat × Nat) (h1 : cs = (yv bs).toArray) (h2 : n = bs.length) (h3 : bs.length ≤ 1000) (h4 : ∀ b, b ∈ bs → b < 256) : Byts (w.alloc (.cells cs 5 fr)) (some ⟨w.heap.size, 0, none⟩) n bs := by
  subst h1 h2
  refine ⟨rfl, by omega, fun _ => ⟨w.heap.size, 0, rfl, by simp, fun j hj => ?_⟩, h4⟩
  have hc := cell_of_row (w.alloc (.cells (yv bs).toArray 5 fr)) w.heap.size j _ 5 fr (heap_alloc_new w _)
  rw [Nat.zero_add, hc]
  simp [yv, List.getD, hj]

theorem str_lit (bs : List Nat) : (sob bs).toList = bs.map fun n => UInt8.ofNat n := by
  rw [ByteArray.toList_eq]
  unfold sob
  rw [strOfNums_data, List.map_map]
  rfl

/-- A literal of one empty word. -/
theorem one_empty (w : World) : Lists ((w.alloc (.cells #[] 3)).alloc (.cells #[.slice (some ⟨w.heap.size, 0, none⟩) 0 0] 32)) (some ⟨w.heap.size + 1, 0, none⟩) 1 [[]] ∧
    Below w.heap.size w ((w.alloc (.cells #[] 3)).alloc (.cells #[.slice (some ⟨w.heap.size, 0, none⟩) 0 0] 32)) := by
  have h1 := Ints.new w [] #[] 0 rfl rfl (by simp)
  have hb0 := alloc_below w (.cells #[] 3)
  have e1 : (w.alloc (.cells #[] 3)).heap.size = w.heap.size + 1 := by simp
  generalize w.alloc (.cells #[] 3) = w1 at h1 hb0 e1 ⊢
  have hb := alloc_below w1 (.cells #[.slice (some ⟨w.heap.size, 0, none⟩) 0 0] 32)
  refine ⟨⟨rfl, by omega, fun _ => ⟨w1.heap.size, 0, by rw [e1], by simp, fun j hj => ?_⟩⟩, bt hb0 hb⟩
  obtain rfl : j = 0 := by omega
  have hc := cell_of_row (w1.alloc (.cells #[.slice (some ⟨w.heap.size, 0, none⟩) 0 0] 32)) w1.heap.size 0 _ 32 (0, 0) (heap_alloc_new w1 _)
  exact ⟨_, 0, 0, hc, h1.below hb⟩

set_option maxHeartbeats 2000000 in
set_option maxRecDepth 100000 in
theorem awake5 (w : World) : Calls Try.prog 14 #[] w fun e w' => e = .returned (.bool true) ∧ Below w.heap.size w w' := by
  have kc := fun (w : World) (C : Array Value) (n c : Nat) => Lib.run_convert_bytes_const (P := Try.prog) w 22 5 C n c Try.underlying22 Try.underlying5
  go_enter Try.func14, Try.ntmps14
  go_wp2_with fail
  have l1 := alloc_below w (.cells #[.int .u8 128, .int .u8 1, .int .u8 9] 5)
  refine (ptakeInt _ 3 3 [128, 1, 9] _ (Byts.new w [128, 1, 9] _ 3 (0, 0) rfl rfl (by simp) (by decide)) (by omega)).mono ?_
  rintro e w1 ⟨rfl, b1⟩
  rw [show nmA [128, 1, 9] 0 = (64, 2, 0) by decide +kernel]
  have b1 := bt l1 b1
  clear l1
  go_wp2_with fail
  have l2 := alloc_below w1 (.cells #[.int .u8 128, .int .u8 0] 5)
  refine (ptakeInt _ 2 2 [128, 0] _ (Byts.new w1 [128, 0] _ 2 (0, 0) rfl rfl (by simp) (by decide)) (by omega)).mono ?_
  rintro e w2 ⟨rfl, b2⟩
  rw [show nmA [128, 0] 0 = (0, 0, 5) by decide +kernel]
  have b2 := bt b1 (bt l2 b2)
  clear l2 b1
  go_wp2_with fail
  have l3 := alloc_below w2 (.cells #[.int .u8 128] 5)
  refine (ptakeInt _ 1 1 [128] _ (Byts.new w2 [128] _ 1 (0, 0) rfl rfl (by simp) (by decide)) (by omega)).mono ?_
  rintro e w3 ⟨rfl, b3⟩
  rw [show nmA [128] 0 = (0, 0, 4) by decide +kernel]
  have b3 := bt b2 (bt l3 b3)
  clear l3 b2
  go_wp2_with fail
  have l4 := alloc_below w3 (.cells #[.int .u8 2, .int .u8 2, .int .u8 1, .int .u8 5] 5)
  refine (ptakeInts _ 4 4 [2, 2, 1, 5] _ (Byts.new w3 [2, 2, 1, 5] _ 4 (0, 0) rfl rfl (by simp) (by decide)) (by omega) (by omega)).mono ?_
  rintro e w4 ⟨B4, d4, rfl, h4, b4⟩
  rw [show lisA [2, 2, 1, 5] 0 = ([1], 2, 0) by decide +kernel] at h4 ⊢
  have h4 := Owned.ints h4 (by simp)
  have b4 := bt b3 (bt l4 b4)
  clear l4 b3
  go_wp2_with fail
  have l5 := alloc_below w4 (.cells #[.int .u8 2, .int .u8 0, .int .u8 1, .int .u8 0] 5)
  refine (ptakeWords _ 4 4 [2, 0, 1, 0] _ (Byts.new w4 [2, 0, 1, 0] _ 4 (0, 0) rfl rfl (by simp) (by decide)) (by omega) (by omega)).mono ?_
  rintro e w5 ⟨B5, d5, rfl, h5, b5⟩
  rw [show worA [2, 0, 1, 0] 0 = ([[]], 2, 0) by decide +kernel] at h5 ⊢
  have h5 := OwnedL.lists h5 (by simp) (by simp)
  have h4 := (h4.below l5).below b5
  have b5 := bt b4 (bt l5 b5)
  clear l5 b4
  go_wp2_with fail
  refine (pputInt (-1) _ (by omega) (by omega)).mono ?_
  rintro e w6 ⟨v6, rfl, h6, b6⟩
  rw [show enc (zig (-1)) = [1] by decide +kernel] at h6
  obtain ⟨A6, c6, rfl⟩ := h6.form
  have k6 := run_conv (n := 1) (h6.byts (by simp) (by simp)) c6
  have s6 : (sob [1]).toList = [1] := str_lit [1]
  have h4 := h4.below b6
  have h5 := h5.below b6
  have b6 := bt b5 b6
  clear b5 h6
  go_wp2_with fail
  refine (pputInt 64 _ (by omega) (by omega)).mono ?_
  rintro e w7 ⟨v7, rfl, h7, b7⟩
  rw [show enc (zig 64) = [128, 1] by decide +kernel] at h7
  obtain ⟨A7, c7, rfl⟩ := h7.form
  have k7 := run_conv (n := 2) (h7.byts (by simp) (by simp)) c7
  have s7 : (sob [128, 1]).toList = [128, 1] := str_lit [128, 1]
  have h4 := h4.below b7
  have h5 := h5.below b7
  have b7 := bt b6 b7
  clear b6 h7 k6
  go_wp2_with fail
  have l8 := alloc_below w7 (.cells #[.int .i64 1] 3)
  refine (rsameD _ _ _ _ _ _ [1] [1] true _ (h4.below l8) (Ints.new w7 [1] _ 1 rfl rfl (by simp)) (by simp)).mono ?_
  rintro e w8 ⟨rfl, q8⟩
  have h5 := (h5.below l8).below ((rd_below q8).mono (by simp))
  have b8 := bt b7 (bt l8 (rd_below q8))
  clear b7 h4 l8 k7 q8
  go_wp2_with fail
  obtain ⟨n9, l9⟩ := one_empty w8
  refine (rsameWords _ _ 1 _ 1 _ [[]] [[]] true _ (h5.below l9) n9 (by simp)).mono ?_
  rintro e w9 ⟨rfl, q9⟩
  have b9 := bt b8 (l9.trans ((rd_below q9).mono l9.size))
  clear b8 h5 l9 q9 n9
  go_wp2_with fail
  have l10 := alloc_below w9 (.cells #[.int .u8 49, .int .u8 50, .int .u8 51, .int .u8 52, .int .u8 53, .int .u8 54, .int .u8 55, .int .u8 56, .int .u8 57] 5 (9, 10))
  refine (psum _ 9 9 [49, 50, 51, 52, 53, 54, 55, 56, 57] _ (Byts.new w9 [49, 50, 51, 52, 53, 54, 55, 56, 57] _ 9 (9, 10) rfl rfl (by simp) (by decide))).mono ?_
  rintro e w10 ⟨rfl, rfl⟩
  rw [show crcZ [49, 50, 51, 52, 53, 54, 55, 56, 57] = 3421780262 by decide +kernel]
  have b10 := bt b9 l10
  clear l10 b9
  go_wp2
  go_ret
  exact ⟨rfl, b10⟩
end Go.Proofs.Ytihahljpfekmbaa
