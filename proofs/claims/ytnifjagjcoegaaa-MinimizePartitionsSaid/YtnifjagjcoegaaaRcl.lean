/- The reference: Classes, Depth. -/
import Derived.Test.YtnifjagjcoegaaaRpt
namespace Go.Proofs.Ytnifjagjcoegaaa
open Go.RowKit

theorem rounds_n {i st n : Nat} {nx ot : List (List Int)} (hM : Mok i st n nx ot) : rounds_ nx ot i n (n : Int) = dep nx ot i n := by
  have h1 := hM.dep_lt
  unfold rounds_
  rw [if_neg (by omega)]
theorem rounds_le {nx ot : List (List Int)} {i n k : Nat} (h : k ≤ dep nx ot i n) : rounds_ nx ot i n (k : Int) = k := by
  unfold rounds_
  rw [if_pos (by omega)]; omega
theorem rcls_bad (i st : Int) (A B : Option Addr) (n c m d : Nat) (nx ot : List (List Int)) (w : World) (hx : Lists w A n nx) (ho : Lists w B m ot) (hv : ¬ vld i st nx ot = 0) :
    Calls Try.prog 51 #[.agg #[.int .i64 i, .int .i64 st, .slice A n c, .slice B m d]] w fun e w' => e = .returned (.tuple #[.slice none 0 0, .int .i64 (vld i st nx ot)]) ∧ Below w.heap.size w w' := by
  have hb0 := alloc_below w (.cells #[.int .i64 i, .int .i64 st, .slice A n c, .slice B m d] 58)
  go_enter Try.func51, Try.ntmps51
  go_wp2_with fail
  refine (rpart_bad _ _ _ _ _ _ _ _ _ _ _ _ (hx.below hb0) (ho.below hb0) hv).mono ?_
  rintro e w1 ⟨rfl, b1⟩
  have b1 := bt hb0 b1
  generalize hE : vld i st nx ot = E at hv
  have HE := Lib.hid hE
  clear hv hE
  go_wp2
  go_ret2
  exact ⟨by rw [HE.out]; rfl, b1⟩
set_option maxHeartbeats 1000000 in
theorem rcls_ok (i st n : Nat) (A B : Option Addr) (c d : Nat) (nx ot : List (List Int)) (w : World) (hx : Lists w A n nx) (ho : Lists w B n ot) (hM : Mok i st n nx ot) :
    Calls Try.prog 51 #[.agg #[.int .i64 i, .int .i64 st, .slice A n c, .slice B n d]] w fun e w' => ∃ A' c', e = .returned (.tuple #[.slice A' n c', .int .i64 0]) ∧ Owned w' w.heap.size (.slice A' n c') (zs (pt nx ot i n (dep nx ot i n))) ∧ Below w.heap.size w w' := by
  have hb0 := alloc_below w (.cells #[.int .i64 i, .int .i64 st, .slice A n c, .slice B n d] 58)
  have HR := Lib.hid (rounds_n hM)
  go_enter Try.func51, Try.ntmps51
  go_wp2_with fail
  refine (rpart_ok i st n A B c d nx ot _ _ (hx.below hb0) (ho.below hb0) hM).mono ?_
  rintro e w1 ⟨A', c', rfl, hO, b1⟩
  rw [HR.out] at hO
  have HO := Lib.hid (hO.lower (base' := w.heap.size) hb0.size)
  have b1 := bt hb0 b1
  clear hO
  go_wp2
  go_ret2
  exact ⟨A', c', rfl, HO.out, b1⟩
theorem rdep_bad (i st : Int) (A B : Option Addr) (n c m d : Nat) (nx ot : List (List Int)) (w : World) (hx : Lists w A n nx) (ho : Lists w B m ot) (hv : ¬ vld i st nx ot = 0) :
    Calls Try.prog 53 #[.agg #[.int .i64 i, .int .i64 st, .slice A n c, .slice B m d]] w fun e w' => e = .returned (.tuple #[.int .i64 0, .int .i64 (vld i st nx ot)]) ∧ Below w.heap.size w w' := by
  have hb0 := alloc_below w (.cells #[.int .i64 i, .int .i64 st, .slice A n c, .slice B m d] 58)
  have hne : (vld i st nx ot != 0) = true := by simpa using hv
  go_enter Try.func53, Try.ntmps53
  go_wp2_with fail
  refine (rcls_bad _ _ _ _ _ _ _ _ _ _ _ (hx.below hb0) (ho.below hb0) hv).mono ?_
  rintro e w1 ⟨rfl, b1⟩
  have b1 := bt hb0 b1
  generalize hE : vld i st nx ot = E at hne hv
  have HE := Lib.hid hE
  clear hv hE
  go_wp2
  go_ret2
  exact ⟨by rw [HE.out]; rfl, b1⟩
set_option maxHeartbeats 1000000 in
theorem rdep_ok (i st n : Nat) (A B : Option Addr) (c d : Nat) (nx ot : List (List Int)) (w : World) (hx : Lists w A n nx) (ho : Lists w B n ot) (hM : Mok i st n nx ot) :
    Calls Try.prog 53 #[.agg #[.int .i64 i, .int .i64 st, .slice A n c, .slice B n d]] w fun e w' => e = .returned (.tuple #[.int .i64 (dep nx ot i n : Nat), .int .i64 0]) ∧ Below w.heap.size w w' := by
  have hn := hx.2.1
  have hb0 := alloc_below w (.cells #[.int .i64 i, .int .i64 st, .slice A n c, .slice B n d] 58)
  have hB := mealy_box w (.int .i64 i) (.int .i64 st) (.slice A n c) (.slice B n d)
  have HB := Lib.hid hB
  have hdl := hM.dep_lt
  have hdn := hM.n2
  obtain ⟨D, hD⟩ : ∃ D, D = dep nx ot i n := ⟨_, rfl⟩
  have HEQ := Lib.hid (show ∀ k, k ≤ D → (zs (pt nx ot i n k) = zs (pt nx ot i n D) ↔ k = D) from fun k hk => by
    constructor
    · intro h
      have h2 := zs_inj h
      rw [hD] at h2 hk ⊢
      have := hM.pt_eq_all.1 h2
      omega
    · intro h; rw [h])
  have HRK := Lib.hid (show ∀ k : Nat, k ≤ D → rounds_ nx ot i n (k : Int) = k from fun k hk => rounds_le (by rw [← hD]; exact hk))
  rw [← hD] at hdl ⊢
  have HD := Lib.hid hD
  clear hB hD
  go_enter Try.func53, Try.ntmps53
  go_wp2_with fail
  refine (rcls_ok _ _ _ _ _ _ _ _ _ _ (hx.below hb0) (ho.below hb0) hM).mono ?_
  rintro e w1 ⟨A1, c1, rfl, hO, b1⟩
  rw [← HD.out] at hO
  have HB1 := Lib.hid (HB.out.kept b1 (by simp))
  have hz1 := heap_lt HB1.out
  have b1 := bt hb0 b1
  have hI := Owned.ints hO (by rw [zs_len, pt_len]; exact hn)
  have HI := Lib.hid hI
  clear hO hI HB
  go_wp2
  go_loopw [6] (fun v6 wr => ∃ k : Nat, k ≤ D ∧ v6 = .int .i64 k ∧ Below w1.heap.size w1 wr) (fun v6 _ => D - (intOf v6).toNat)
  case atStart => exact ⟨0, Nat.zero_le _, rfl, Below.refl _ _⟩
  case round =>
    obtain ⟨k, hk, rfl, hbr⟩ := hrel
    have hzr := hbr.size
    have hbW : Below w.heap.size w wr := b1.trans (hbr.mono (by omega))
    obtain ⟨k0, k1, k2, k3, _⟩ := (HB1.out.kept hbr hz1).cells
    have HRR := Lib.hid (HRK.out k hk)
    by_cases hkd : k = D
    · have HQ := Lib.hid (show (true : Bool) = decide (zs (pt nx ot i n k) = zs (pt nx ot i n D)) from (decide_eq_true ((HEQ.out k hk).2 hkd)).symm)
      have HKD := Lib.hid hkd
      clear hkd
      go_wp2_with fail
      refine (rpart_ok i st n A B c d nx ot _ _ (hx.below hbW) (ho.below hbW) hM).mono ?_
      rintro e w2 ⟨A2, c2, rfl, hO2, b2⟩
      rw [HRR.out] at hO2
      have hI2 := Owned.ints hO2 (by rw [zs_len, pt_len]; exact hn)
      have hI9 := (HI.out.below hbr).below b2
      clear hO2 k0 k1 k2 k3
      go_wp2_with fail
      refine (requal _ _ _ _ _ _ _ _ _ _ hI2 hI9 HQ.out).mono ?_
      rintro e w3 ⟨rfl, q, rfl⟩
      clear hI2 hI9
      go_wp2
      go_ret2
      exact ⟨by rw [HKD.out]; rfl, below_drewN (bt hbW b2) q⟩
    · have HQ := Lib.hid (show (false : Bool) = decide (zs (pt nx ot i n k) = zs (pt nx ot i n D)) from (decide_eq_false (fun H => hkd ((HEQ.out k hk).1 H))).symm)
      have hk2 : k < D := by omega
      clear hkd
      go_wp2_with fail
      refine (rpart_ok i st n A B c d nx ot _ _ (hx.below hbW) (ho.below hbW) hM).mono ?_
      rintro e w2 ⟨A2, c2, rfl, hO2, b2⟩
      rw [HRR.out] at hO2
      have hI2 := Owned.ints hO2 (by rw [zs_len, pt_len]; exact hn)
      have hI9 := (HI.out.below hbr).below b2
      clear hO2 k0 k1 k2 k3
      go_wp2_with fail
      refine (requal _ _ _ _ _ _ _ _ _ _ hI2 hI9 HQ.out).mono ?_
      rintro e w3 ⟨rfl, q, rfl⟩
      have HB9 := Lib.hid (show Below w1.heap.size w1 (w2.drewN q) from below_drewN (hbr.trans (b2.mono hzr)) q)
      clear hI2 hI9
      go_wp2
      go_roundw
      case rel => exact ⟨k + 1, by omega, by go_num, HB9.out⟩
      case measure => simp [intOf]; omega
end Go.Proofs.Ytnifjagjcoegaaa
