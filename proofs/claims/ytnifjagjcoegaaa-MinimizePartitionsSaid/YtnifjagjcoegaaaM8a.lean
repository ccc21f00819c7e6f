/- The laws MinimizePartitions and MinimizeClasses: the walks. -/
import Derived.Test.YtnifjagjcoegaaaGr8
namespace Go.Proofs.Ytnifjagjcoegaaa
open Go.RowKit

theorem Mblk.on {w w' : World} {g : Nat} {a b c d : Value} (h : Mblk w g a b c d) (hb : Below w.heap.size w w') : Mblk w' g a b c d := h.kept hb (heap_lt h)

set_option maxHeartbeats 2000000 in
set_option maxRecDepth 100000 in
theorem parts8_walk (i st : Int) (A B : Option Addr) (n c m d : Nat) (nx ot : List (List Int)) (k : Int) (w : World) (hx : Lists w A n nx) (ho : Lists w B m ot) (hk : k ≤ 9223372036854775807) :
    Calls Try.prog 10 #[.agg #[.int .i64 i, .int .i64 st, .slice A n c, .slice B m d], .int .i64 k] w fun e w' => e = .returned (.bool true) ∧ Below w.heap.size w w' := by
  have hb0 := alloc_below w (.cells #[.int .i64 i, .int .i64 st, .slice A n c, .slice B m d] 58)
  have HB0 := Lib.hid (mealy_box w (.int .i64 i) (.int .i64 st) (.slice A n c) (.slice B m d))
  have hx0 := hx.below hb0
  have ho0 := ho.below hb0
  go_enter Try.func10, Try.ntmps10
  go_wp2_with fail
  refine (rgreat8 _ _ _ _ _ _ _ _ _ _ _ hx0 ho0).mono ?_
  rintro e w1 ⟨b, rfl, a1⟩
  have HB1 := Lib.hid (HB0.out.on a1)
  obtain ⟨k0, k1, k2, k3, _⟩ := HB1.out.cells
  have hx1 := hx0.below a1
  have ho1 := ho0.below a1
  have b1 := bt hb0 a1
  clear a1
  clear hx0 ho0 hb0 HB0
  cases b
  · by_cases hv : vld i st nx ot = 0
    · obtain ⟨i', st', n', rfl, rfl, hM⟩ := vld_zero hv
      have e1 := hx.1
      have e2 := ho.1
      have e3 := hM.nxl
      have e4 := hM.otl
      obtain rfl : n = n' := by omega
      obtain rfl : n = m := by omega
      clear e1 e2 e3 e4 hv
      have hn := hx.2.1
      go_wp2_with fail
      refine (ppart_ok _ _ _ _ _ _ _ _ _ _ _ hx1 ho1 hM hk).mono ?_
      rintro e w2 ⟨A2, c2, rfl, hO2, b2⟩
      have hI2 := Owned.ints hO2 (by rw [zs_len, pt_len]; exact hn)
      have HB2 := Lib.hid (HB1.out.on b2)
      have hx2 := hx1.below b2
      have ho2 := ho1.below b2
      have b2 := bt b1 b2
      clear hO2 k0 k1 k2 k3 hx1 ho1 b1
      obtain ⟨k0, k1, k2, k3, _⟩ := HB2.out.cells
      go_wp2_with fail
      refine (rpart_ok _ _ _ _ _ _ _ _ _ _ _ hx2 ho2 hM).mono ?_
      rintro e w3 ⟨A3, c3, rfl, hO3, b3⟩
      have hI3 := Owned.ints hO3 (by rw [zs_len, pt_len]; exact hn)
      have hI2 := hI2.below b3
      have b3 := bt b2 b3
      clear hO3 k0 k1 k2 k3 b2
      go_wp2_with fail
      refine (requal _ _ _ _ _ _ _ _ true _ hI2 hI3 (by simp)).mono ?_
      rintro e w4 ⟨rfl, q, rfl⟩
      have b4 := below_drewN b3 q
      go_wp2_with fail
      refine (awake8 _).mono ?_
      rintro e w5 ⟨rfl, b5⟩
      have b5 := bt b4 b5
      go_wp2
      go_ret
      exact ⟨rfl, b5⟩
    · go_wp2_with fail
      refine (ppart_bad _ _ _ _ _ _ _ _ _ _ _ _ hx1 ho1 hv).mono ?_
      rintro e w2 ⟨rfl, b2⟩
      have HB2 := Lib.hid (HB1.out.on b2)
      have hx2 := hx1.below b2
      have ho2 := ho1.below b2
      have b2 := bt b1 b2
      clear k0 k1 k2 k3 hx1 ho1 b1
      obtain ⟨k0, k1, k2, k3, _⟩ := HB2.out.cells
      go_wp2_with fail
      refine (rpart_bad _ _ _ _ _ _ _ _ _ _ _ _ hx2 ho2 hv).mono ?_
      rintro e w3 ⟨rfl, b3⟩
      have b3 := bt b2 b3
      clear k0 k1 k2 k3 b2
      go_wp2_with fail
      refine (requal none none 0 0 0 0 [] [] true _ (Ints.none_ _) (Ints.none_ _) (by simp)).mono ?_
      rintro e w4 ⟨rfl, q, rfl⟩
      have b4 := below_drewN b3 q
      have hee : (vld i st nx ot == vld i st nx ot) = true := by simp
      generalize vld i st nx ot = E at hee ⊢
      clear hv
      go_wp2_with fail
      refine (awake8 _).mono ?_
      rintro e w5 ⟨rfl, b5⟩
      have b5 := bt b4 b5
      go_wp2
      go_ret
      exact ⟨rfl, b5⟩
  · go_wp2_with fail
    refine (awake8 _).mono ?_
    rintro e w2 ⟨rfl, b2⟩
    have b2 := bt b1 b2
    go_wp2
    go_ret
    exact ⟨rfl, b2⟩
end Go.Proofs.Ytnifjagjcoegaaa
