/- From, Run and Step by the reference. -/
import Derived.Test.YtihahljpfekmbaaOutsr
import Derived.Test.YtihahljpfekmbaaValr
namespace Go.Proofs.Ytihahljpfekmbaa
open Go.RowKit

set_option maxHeartbeats 2000000 in
set_option maxRecDepth 100000 in
theorem rfrom (i st : Int) (A B D : Option Addr) (n c m d k e : Nat) (nx ot : List (List Int)) (s : Int) (xs : List Int) (w : World) (hx : Lists w A n nx) (ho : Lists w B m ot) (hD : Ints w D k xs) :
    Calls Try.prog 44 #[.agg #[.int .i64 i, .int .i64 st, .slice A n c, .slice B m d], .int .i64 s, .slice D k e] w fun e w' => ∃ A' c',
      e = .returned (.tuple #[.slice A' (frm i st nx ot s xs).1.length c', .int .i64 (frm i st nx ot s xs).2.1, .int .i64 (frm i st nx ot s xs).2.2]) ∧ Owned w' w.heap.size (.slice A' (frm i st nx ot s xs).1.length c') (frm i st nx ot s xs).1 ∧ Below w.heap.size w w' := by
  have L1 := Lib.hid hx.1
  have LD := Lib.hid hD.1
  have hn := hx.2.1
  have hk := hD.2.1
  have hb0 := alloc_below w (.cells #[.int .i64 i, .int .i64 st, .slice A n c, .slice B m d] 65)
  have HZ := Lib.hid (show (w.alloc (.cells #[.int .i64 i, .int .i64 st, .slice A n c, .slice B m d] 65)).heap.size = w.heap.size + 1 by simp)
  by_cases hv : vld i st nx ot = 0
  · have HV := Lib.hid hv
    obtain ⟨i, st, n', rfl, rfl, hM⟩ := vld_zero hv
    obtain rfl : n = n' := by have := hM.nxl; rw [L1.out] at this; exact this
    obtain rfl : m = n := by have := hM.otl; rw [ho.1] at this; exact this
    clear hv
    by_cases hs : 0 ≤ s ∧ s < m
    · have HS := Lib.hid hs
      have s1 : decide (s < 0) = false := by simpa using hs.1
      have s2 : decide ((m : Int) ≤ s) = false := by simpa using hs.2
      by_cases hc : chk xs i = 0
      · obtain ⟨s, rfl⟩ : ∃ t : Nat, s = t := ⟨s.toNat, by omega⟩
        have hfin := Lib.hid (frm_ok (s := s) HV.out (by rw [L1.out]; omega) hc)
        have s3 : decide (m ≤ s) = false := by simp; omega
        have HC := Lib.hid hc
        clear hs hc
        go_enter Try.func44, Try.ntmps44
        go_wp2_with fail
        refine (rvalid _ _ _ _ _ _ _ _ _ _ _ (hx.below hb0) (ho.below hb0)).mono ?_
        rintro e w1 ⟨rfl, b1⟩
        rw [HZ.out] at b1
        rw [HV.out]
        obtain ⟨k0, k1, k2, k3⟩ := box4 b1
        have bw := hb0.trans (b1.mono (Nat.le_succ _))
        go_wp2_with fail
        refine (rcheck _ _ _ _ _ _ (hD.below bw)).mono ?_
        rintro e w3 ⟨rfl, rfl⟩
        rw [HC.out]
        have hsy := Lib.hid (chk_zero HC.out).2.2.2.mem
        have hsn : s < m := by have := HS.out; omega
        go_wp2_with fail
        refine (routs _ _ _ _ _ _ _ _ _ _ _ _ _ _ _ hM (hx.below bw) (ho.below bw) hsn (hD.below bw) hsy.out).mono ?_
        rintro e w4 ⟨A4, c4, rfl, ho4, b4⟩
        have ho4 := Lib.hid (ho4.lower bw.size)
        have b4 := Lib.hid (bt bw b4)
        go_wp2
        go_ret3
        have hlen : (runO nx ot s xs).length = k := by rw [runO_len, LD.out]
        exact ⟨A4, c4, by rw [hfin.out]; exact ret_from hlen.symm rfl rfl, by rw [hfin.out]; show Owned _ _ (.slice A4 (runO nx ot s xs).length c4) _; rw [hlen]; exact ho4.out, b4.out⟩
      · have hfin := Lib.hid (frm_word HV.out (by rw [L1.out]; exact HS.out) hc)
        have hne : (chk xs i != 0) = true := by simpa using hc
        clear hs
        go_enter Try.func44, Try.ntmps44
        go_wp2_with fail
        refine (rvalid _ _ _ _ _ _ _ _ _ _ _ (hx.below hb0) (ho.below hb0)).mono ?_
        rintro e w1 ⟨rfl, b1⟩
        rw [HZ.out] at b1
        rw [HV.out]
        obtain ⟨k0, k1, k2, k3⟩ := box4 b1
        have bw := hb0.trans (b1.mono (Nat.le_succ _))
        go_wp2_with fail
        refine (rcheck _ _ _ _ _ _ (hD.below bw)).mono ?_
        rintro e w3 ⟨rfl, rfl⟩
        generalize chk xs i = E at hne hfin hc
        clear hc
        go_wp2
        go_ret3
        exact ⟨none, 0, by rw [hfin.out]; rfl, by rw [hfin.out]; exact Owned.nil _ _, bw⟩
    · have hfin := Lib.hid (frm_state (xs := xs) HV.out (by rw [L1.out]; exact hs))
      have hor : s < 0 ∨ (0 ≤ s ∧ (m : Int) ≤ s) := by omega
      clear hs
      rcases hor with h1 | ⟨h1, h2⟩
      · have t1 : decide (s < 0) = true := decide_eq_true h1
        go_enter Try.func44, Try.ntmps44
        go_wp2_with fail
        refine (rvalid _ _ _ _ _ _ _ _ _ _ _ (hx.below hb0) (ho.below hb0)).mono ?_
        rintro e w1 ⟨rfl, b1⟩
        rw [HZ.out] at b1
        rw [HV.out]
        obtain ⟨k0, k1, k2, k3⟩ := box4 b1
        have bw := hb0.trans (b1.mono (Nat.le_succ _))
        go_wp2
        go_ret3
        exact ⟨none, 0, by rw [hfin.out]; rfl, by rw [hfin.out]; exact Owned.nil _ _, bw⟩
      · have t1 : decide (s < 0) = false := by simpa using h1
        have t2 : decide ((m : Int) ≤ s) = true := decide_eq_true h2
        go_enter Try.func44, Try.ntmps44
        go_wp2_with fail
        refine (rvalid _ _ _ _ _ _ _ _ _ _ _ (hx.below hb0) (ho.below hb0)).mono ?_
        rintro e w1 ⟨rfl, b1⟩
        rw [HZ.out] at b1
        rw [HV.out]
        obtain ⟨k0, k1, k2, k3⟩ := box4 b1
        have bw := hb0.trans (b1.mono (Nat.le_succ _))
        go_wp2
        go_ret3
        exact ⟨none, 0, by rw [hfin.out]; rfl, by rw [hfin.out]; exact Owned.nil _ _, bw⟩
  · have hfin := Lib.hid (frm_bad (s := s) (xs := xs) hv)
    have hne : (vld i st nx ot != 0) = true := by simpa using hv
    go_enter Try.func44, Try.ntmps44
    go_wp2_with fail
    refine (rvalid _ _ _ _ _ _ _ _ _ _ _ (hx.below hb0) (ho.below hb0)).mono ?_
    rintro e w1 ⟨rfl, b1⟩
    generalize vld i st nx ot = E at hne hfin hv
    clear hv
    go_wp2
    go_ret3
    exact ⟨none, 0, by rw [hfin.out]; rfl, by rw [hfin.out]; exact Owned.nil _ _, bt hb0 b1⟩

set_option maxHeartbeats 1000000 in
set_option maxRecDepth 100000 in
theorem rrunw (i st : Int) (A B D : Option Addr) (n c m d k e : Nat) (nx ot : List (List Int)) (xs : List Int) (w : World) (hx : Lists w A n nx) (ho : Lists w B m ot) (hD : Ints w D k xs) :
    Calls Try.prog 47 #[.agg #[.int .i64 i, .int .i64 st, .slice A n c, .slice B m d], .slice D k e] w fun e w' => ∃ A' c',
      e = .returned (.tuple #[.slice A' (frm i st nx ot st xs).1.length c', .int .i64 (frm i st nx ot st xs).2.2]) ∧ Owned w' w.heap.size (.slice A' (frm i st nx ot st xs).1.length c') (frm i st nx ot st xs).1 ∧ Below w.heap.size w w' := by
  have hb0 := alloc_below w (.cells #[.int .i64 i, .int .i64 st, .slice A n c, .slice B m d] 65)
  go_enter Try.func47, Try.ntmps47
  go_wp2_with fail
  refine (rfrom _ _ _ _ _ _ _ _ _ _ _ _ _ _ _ _ (hx.below hb0) (ho.below hb0) (hD.below hb0)).mono ?_
  rintro e w1 ⟨A1, c1, rfl, h1, b1⟩
  have h2 := Lib.hid (h1.lower (base' := w.heap.size) hb0.size)
  have b2 := Lib.hid (bt hb0 b1)
  clear h1 b1
  go_wp2
  go_ret2
  exact ⟨A1, c1, rfl, h2.out, b2.out⟩

set_option maxHeartbeats 2000000 in
set_option maxRecDepth 100000 in
theorem rstepm (i st : Int) (A B : Option Addr) (n c m d : Nat) (nx ot : List (List Int)) (s a : Int) (w : World) (hx : Lists w A n nx) (ho : Lists w B m ot) :
    Calls Try.prog 42 #[.agg #[.int .i64 i, .int .i64 st, .slice A n c, .slice B m d], .int .i64 s, .int .i64 a] w fun e w' =>
      e = .returned (.tuple #[.int .i64 (stp i st nx ot s a).1, .int .i64 (stp i st nx ot s a).2.1, .int .i64 (stp i st nx ot s a).2.2]) ∧ Below w.heap.size w w' := by
  have L1 := Lib.hid hx.1
  have hn := hx.2.1
  have hb0 := alloc_below w (.cells #[.int .i64 i, .int .i64 st, .slice A n c, .slice B m d] 65)
  have HZ := Lib.hid (show (w.alloc (.cells #[.int .i64 i, .int .i64 st, .slice A n c, .slice B m d] 65)).heap.size = w.heap.size + 1 by simp)
  by_cases hv : vld i st nx ot = 0
  · have HV := Lib.hid hv
    obtain ⟨i, st, n', rfl, rfl, hM⟩ := vld_zero hv
    obtain rfl : n = n' := by have := hM.nxl; rw [L1.out] at this; exact this
    obtain rfl : m = n := by have := hM.otl; rw [ho.1] at this; exact this
    clear hv
    by_cases hs : 0 ≤ s ∧ s < m
    · have HS := Lib.hid hs
      have s1 : decide (s < 0) = false := by simpa using hs.1
      have s2 : decide ((m : Int) ≤ s) = false := by simpa using hs.2
      by_cases ha : 0 ≤ a ∧ a < i
      · obtain ⟨s, rfl⟩ : ∃ t : Nat, s = t := ⟨s.toNat, by omega⟩
        obtain ⟨a, rfl⟩ : ∃ t : Nat, a = t := ⟨a.toNat, by omega⟩
        have hfin := Lib.hid (stp_ok (s := s) (a := a) HV.out (by rw [L1.out]; omega) ha.2)
        have hsn : s < m := by omega
        have s3 : decide (m ≤ s) = false := by simp; omega
        have s4 : decide (i ≤ a) = false := by simp; omega
        have han : a < i := by omega
        have t1 : decide ((a : Int) < 0) = false := by simp
        have t2 : decide ((i : Int) ≤ (a : Int)) = false := by simp; omega
        clear hs ha
        go_enter Try.func42, Try.ntmps42
        go_wp2_with fail
        refine (rvalid _ _ _ _ _ _ _ _ _ _ _ (hx.below hb0) (ho.below hb0)).mono ?_
        rintro e w1 ⟨rfl, b1⟩
        rw [HZ.out] at b1
        rw [HV.out]
        obtain ⟨k0, k1, k2, k3⟩ := box4 b1
        have bw := hb0.trans (b1.mono (Nat.le_succ _))
        obtain ⟨g1, o1, A1, n1, c1, rfl, hg1, hc1, hr1⟩ := (hx.below bw).at_ hsn
        obtain ⟨g2, o2, A2, n2, c2', rfl, hg2, hc2, hr2⟩ := (ho.below bw).at_ hsn
        have hi1 := (hM.row s hsn).1
        have hi2 := (hM.row s hsn).2.1
        have hl1 := hr1.1
        have hl2 := hr2.1
        obtain rfl : n1 = i := by omega
        obtain rfl : n2 = n1 := by omega
        obtain ⟨g3, p1, rfl, _, hy1⟩ := hr1.at_ han
        obtain ⟨g4, p2, rfl, _, hy2⟩ := hr2.at_ han
        rw [hM.nN_eq hsn han] at hy1
        change w1.cell? _ = some (.int .i64 (oN ot s a)) at hy2
        have hn1 := hr1.2.1
        clear hl1 hl2 hi1 hi2
        go_wp2
        go_quiet (fail)
        go_wp2
        go_ret3
        exact ⟨ret_three (by rw [hfin.out]) (by rw [hfin.out]) (by rw [hfin.out]), below_drewN bw _⟩
      · have hfin := Lib.hid (stp_state (s := s) (a := a) HV.out (fun H => ha H.2))
        clear hs
        have hor : a < 0 ∨ (0 ≤ a ∧ (i : Int) ≤ a) := by omega
        clear ha
        rcases hor with h1 | ⟨h1, h2⟩
        · have t1 : decide (a < 0) = true := decide_eq_true h1
          go_enter Try.func42, Try.ntmps42
          go_wp2_with fail
          refine (rvalid _ _ _ _ _ _ _ _ _ _ _ (hx.below hb0) (ho.below hb0)).mono ?_
          rintro e w1 ⟨rfl, b1⟩
          rw [HZ.out] at b1
          rw [HV.out]
          obtain ⟨k0, k1, k2, k3⟩ := box4 b1
          have bw := hb0.trans (b1.mono (Nat.le_succ _))
          go_wp2
          go_ret3
          exact ⟨ret_three (by rw [hfin.out]) (by rw [hfin.out]) (by rw [hfin.out]), bw⟩
        · have t1 : decide (a < 0) = false := by simp; omega
          have t2 : decide ((i : Int) ≤ a) = true := decide_eq_true h2
          go_enter Try.func42, Try.ntmps42
          go_wp2_with fail
          refine (rvalid _ _ _ _ _ _ _ _ _ _ _ (hx.below hb0) (ho.below hb0)).mono ?_
          rintro e w1 ⟨rfl, b1⟩
          rw [HZ.out] at b1
          rw [HV.out]
          obtain ⟨k0, k1, k2, k3⟩ := box4 b1
          have bw := hb0.trans (b1.mono (Nat.le_succ _))
          go_wp2
          go_ret3
          exact ⟨ret_three (by rw [hfin.out]) (by rw [hfin.out]) (by rw [hfin.out]), bw⟩
    · have hfin := Lib.hid (stp_state (a := a) HV.out (fun H => hs (by rw [← L1.out]; exact H.1)))
      have hor : s < 0 ∨ (0 ≤ s ∧ (m : Int) ≤ s) := by omega
      clear hs
      rcases hor with h1 | ⟨h1, h2⟩
      · have t1 : decide (s < 0) = true := decide_eq_true h1
        go_enter Try.func42, Try.ntmps42
        go_wp2_with fail
        refine (rvalid _ _ _ _ _ _ _ _ _ _ _ (hx.below hb0) (ho.below hb0)).mono ?_
        rintro e w1 ⟨rfl, b1⟩
        rw [HZ.out] at b1
        rw [HV.out]
        obtain ⟨k0, k1, k2, k3⟩ := box4 b1
        have bw := hb0.trans (b1.mono (Nat.le_succ _))
        go_wp2
        go_ret3
        exact ⟨ret_three (by rw [hfin.out]) (by rw [hfin.out]) (by rw [hfin.out]), bw⟩
      · have t1 : decide (s < 0) = false := by simpa using h1
        have t2 : decide ((m : Int) ≤ s) = true := decide_eq_true h2
        go_enter Try.func42, Try.ntmps42
        go_wp2_with fail
        refine (rvalid _ _ _ _ _ _ _ _ _ _ _ (hx.below hb0) (ho.below hb0)).mono ?_
        rintro e w1 ⟨rfl, b1⟩
        rw [HZ.out] at b1
        rw [HV.out]
        obtain ⟨k0, k1, k2, k3⟩ := box4 b1
        have bw := hb0.trans (b1.mono (Nat.le_succ _))
        go_wp2
        go_ret3
        exact ⟨ret_three (by rw [hfin.out]) (by rw [hfin.out]) (by rw [hfin.out]), bw⟩
  · have hfin := Lib.hid (stp_bad (s := s) (a := a) hv)
    have hne : (vld i st nx ot != 0) = true := by simpa using hv
    go_enter Try.func42, Try.ntmps42
    go_wp2_with fail
    refine (rvalid _ _ _ _ _ _ _ _ _ _ _ (hx.below hb0) (ho.below hb0)).mono ?_
    rintro e w1 ⟨rfl, b1⟩
    generalize vld i st nx ot = E at hne hfin hv
    clear hv
    go_wp2
    go_ret3
    exact ⟨ret_three (by rw [hfin.out]) (by rw [hfin.out]) (by rw [hfin.out]), bt hb0 b1⟩
end Go.Proofs.Ytihahljpfekmbaa
