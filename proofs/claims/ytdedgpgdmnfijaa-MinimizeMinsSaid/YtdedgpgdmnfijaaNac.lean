/- Lemmas of the proofs of this seat, of the parts Eqm, Eqr, Valr, Sgn, Rfn, Rfnw, Ptnw, Qtp, Qtw, Pmn, Rpt, Rcl, Mnp, Pmm, Pml. Conditions: none. -/
import Derived.Test.YtdedgpgdmnfijaaNaa
import Derived.Test.YtdedgpgdmnfijaaNab
import Derived.Deep.RegionHeld3
section
/- Lists and machines that are equal: Equal, EqualFunc, equal, Same; the reference's Ints, Lists, Same. -/
namespace Go.Proofs.Ytdedgpgdmnfijaa
open Go.RowKit

set_option maxHeartbeats 1000000 in
theorem rints (A B : Option Addr) (n c m d : Nat) (xs ys : List Int) (b : Bool) (w : World) (hx : Ints w A n xs) (hy : Ints w B m ys) (hb : b = decide (xs = ys)) :
    Calls Try.prog 61 #[.slice A n c, .slice B m d] w fun e w' => e = .returned (.bool b) ∧ ∃ q, w' = w.drewN q := by
  have L1 := Lib.hid hx.1
  have L2 := Lib.hid hy.1
  have hn := hx.2.1
  have hm := hy.2.1
  by_cases hnm : n = m
  · subst hnm
    have HB := Lib.hid hb
    clear hb
    go_enter Try.func61, Try.ntmps61
    go_wp2
    go_loopw [5] (fun i wr => ∃ j q : Nat, j ≤ n ∧ i = .int .i64 j ∧ AgreeL 0 xs ys j ∧ wr = w.drewN q) (fun i _ => n - (intOf i).toNat)
    case atStart => exact ⟨0, 0, Nat.zero_le _, rfl, AgreeL.zero _ _ _, rfl⟩
    case round =>
      obtain ⟨j, q, hj, rfl, heq, rfl⟩ := hrel
      have HE := Lib.hid heq
      clear heq
      by_cases hlt : j < n
      · obtain ⟨g1, o1, rfl, _, hc1⟩ := hx.at_ hlt
        obtain ⟨g2, o2, rfl, _, hc2⟩ := hy.at_ hlt
        by_cases he : xs.getD j 0 = ys.getD j 0
        · have hnx := Lib.hid (HE.out.succ he)
          rw [← he] at hc2
          generalize xs.getD j 0 = y at hc1 hc2
          clear he
          go_wp2
          go_quiet (fail)
          go_wp2
          go_roundw
          case rel => exact ⟨j + 1, _, by omega, by go_num, hnx.out, rfl⟩
          case measure => simp [intOf]; omega
        · have hfin : Hid (b = false) := Lib.hid (HB.out.trans (decide_eq_false fun e => he (by rw [e])))
          have hne : (xs.getD j 0 != ys.getD j 0) = true := by simpa using he
          generalize xs.getD j 0 = y at hc1 hne
          generalize ys.getD j 0 = z at hc2 hne
          clear he
          go_wp2
          go_quiet (fail)
          go_wp2
          go_ret
          exact ⟨ret_bool hfin.out.symm, by first | exact ⟨_, rfl⟩ | exact ⟨_, World.drewN_drewN _ _ _⟩⟩
      · obtain rfl : j = n := by omega
        have hfin : Hid (b = true) := Lib.hid (HB.out.trans (decide_eq_true (HE.out.all L1.out L2.out)))
        go_wp2
        go_ret
        exact ⟨ret_bool hfin.out.symm, by first | exact ⟨_, rfl⟩ | exact ⟨_, World.drewN_drewN _ _ _⟩⟩
  · have hfin : Hid (b = false) := Lib.hid (hb.trans (decide_eq_false fun e => hnm (by rw [← L1.out, ← L2.out, e])))
    have hd : ((n : Int) != (m : Int)) = true := by simp; omega
    clear hnm hb
    go_enter Try.func61, Try.ntmps61
    go_wp2
    go_ret
    exact ⟨ret_bool hfin.out.symm, 0, rfl⟩

set_option maxHeartbeats 1000000 in
theorem sequal (A B : Option Addr) (n c m d : Nat) (xs ys : List Int) (b : Bool) (w : World) (hx : Ints w A n xs) (hy : Ints w B m ys) (hb : b = decide (xs = ys)) :
    Calls Try.prog 72 #[.slice A n c, .slice B m d] w fun e w' => e = .returned (.bool b) ∧ ∃ q, w' = w.drewN q := by
  have L1 := Lib.hid hx.1
  have L2 := Lib.hid hy.1
  have hn := hx.2.1
  have hm := hy.2.1
  by_cases hnm : n = m
  · subst hnm
    have HB := Lib.hid hb
    clear hb
    go_enter Try.func72, Try.ntmps72
    go_wp2
    go_loopw [13] (fun i wr => ∃ j q : Nat, j ≤ n ∧ i = .int .i64 j ∧ AgreeL 0 xs ys j ∧ wr = w.drewN q) (fun i _ => n - (intOf i).toNat)
    case atStart => exact ⟨0, 0, Nat.zero_le _, rfl, AgreeL.zero _ _ _, rfl⟩
    case round =>
      obtain ⟨j, q, hj, rfl, heq, rfl⟩ := hrel
      have HE := Lib.hid heq
      clear heq
      by_cases hlt : j < n
      · obtain ⟨g1, o1, rfl, _, hc1⟩ := hx.at_ hlt
        obtain ⟨g2, o2, rfl, _, hc2⟩ := hy.at_ hlt
        by_cases he : xs.getD j 0 = ys.getD j 0
        · have hnx := Lib.hid (HE.out.succ he)
          rw [← he] at hc2
          generalize xs.getD j 0 = y at hc1 hc2
          clear he
          go_wp2
          go_quiet (fail)
          go_wp2
          go_roundw
          case rel => exact ⟨j + 1, _, by omega, by go_num, hnx.out, rfl⟩
          case measure => simp [intOf]; omega
        · have hfin : Hid (b = false) := Lib.hid (HB.out.trans (decide_eq_false fun e => he (by rw [e])))
          have hne : (xs.getD j 0 != ys.getD j 0) = true := by simpa using he
          generalize xs.getD j 0 = y at hc1 hne
          generalize ys.getD j 0 = z at hc2 hne
          clear he
          go_wp2
          go_quiet (fail)
          go_wp2
          go_ret
          exact ⟨ret_bool hfin.out.symm, by first | exact ⟨_, rfl⟩ | exact ⟨_, World.drewN_drewN _ _ _⟩⟩
      · obtain rfl : j = n := by omega
        have hfin : Hid (b = true) := Lib.hid (HB.out.trans (decide_eq_true (HE.out.all L1.out L2.out)))
        go_wp2
        go_ret
        exact ⟨ret_bool hfin.out.symm, by first | exact ⟨_, rfl⟩ | exact ⟨_, World.drewN_drewN _ _ _⟩⟩
  · have hfin : Hid (b = false) := Lib.hid (hb.trans (decide_eq_false fun e => hnm (by rw [← L1.out, ← L2.out, e])))
    have hd : ((n : Int) != (m : Int)) = true := by simp; omega
    clear hnm hb
    go_enter Try.func72, Try.ntmps72
    go_wp2
    go_ret
    exact ⟨ret_bool hfin.out.symm, 0, rfl⟩

theorem drew_trans {w wr w2 : World} (h : ∃ q, wr = w.drewN q) (h2 : ∃ q, w2 = wr.drewN q) : ∃ q, w2 = w.drewN q := by
  obtain ⟨q, rfl⟩ := h2
  exact drew_more h q

set_option maxHeartbeats 1000000 in
theorem rlists (A B : Option Addr) (n c m d : Nat) (xs ys : List (List Int)) (b : Bool) (w : World) (hx : Lists w A n xs) (hy : Lists w B m ys) (hb : b = decide (xs = ys)) :
    Calls Try.prog 43 #[.slice A n c, .slice B m d] w fun e w' => e = .returned (.bool b) ∧ ∃ q, w' = w.drewN q := by
  have L1 := Lib.hid hx.1
  have L2 := Lib.hid hy.1
  have hn := hx.2.1
  have hm := hy.2.1
  by_cases hnm : n = m
  · subst hnm
    have HB := Lib.hid hb
    clear hb
    go_enter Try.func43, Try.ntmps43
    go_wp2
    go_loopw [5] (fun i wr => ∃ j : Nat, j ≤ n ∧ i = .int .i64 j ∧ AgreeL [] xs ys j ∧ ∃ q, wr = w.drewN q) (fun i _ => n - (intOf i).toNat)
    case atStart => exact ⟨0, Nat.zero_le _, rfl, AgreeL.zero _ _ _, 0, rfl⟩
    case round =>
      obtain ⟨j, hj, rfl, heq, hw⟩ := hrel
      have hx' : Lists wr A n xs := by obtain ⟨q, rfl⟩ := hw; exact hx
      have hy' : Lists wr B n ys := by obtain ⟨q, rfl⟩ := hw; exact hy
      have HW := Lib.hid hw
      clear hw
      have HE := Lib.hid heq
      clear heq
      by_cases hlt : j < n
      · obtain ⟨g1, o1, A1, n1, c1, rfl, _, hc1, hi1⟩ := hx'.at_ hlt
        obtain ⟨g2, o2, A2, n2, c2, rfl, _, hc2, hi2⟩ := hy'.at_ hlt
        by_cases he : xs.getD j [] = ys.getD j []
        · have hnx := Lib.hid (HE.out.succ he)
          have hd := Lib.hid ((decide_eq_true he).symm)
          clear he
          go_wp2
          go_quiet ((go_at_call 61; exact Calls.quiet_of (rints _ _ _ _ _ _ _ _ _ _ hi1 hi2 hd.out)))
          go_wp2
          go_roundw
          case rel => exact ⟨j + 1, by omega, by go_num, hnx.out, drew_more HW.out _⟩
          case measure => simp [intOf]; omega
        · have hfin : Hid (b = false) := Lib.hid (HB.out.trans (decide_eq_false fun e => he (by rw [e])))
          have hd := Lib.hid ((decide_eq_false he).symm)
          clear he
          go_wp2
          go_quiet ((go_at_call 61; exact Calls.quiet_of (rints _ _ _ _ _ _ _ _ _ _ hi1 hi2 hd.out)))
          go_wp2
          go_ret
          exact ⟨ret_bool hfin.out.symm, by first | exact drew_more HW.out _ | exact HW.out⟩
      · obtain rfl : j = n := by omega
        have hfin : Hid (b = true) := Lib.hid (HB.out.trans (decide_eq_true (HE.out.all L1.out L2.out)))
        go_wp2
        go_ret
        exact ⟨ret_bool hfin.out.symm, by first | exact drew_more HW.out _ | exact HW.out⟩
  · have hfin : Hid (b = false) := Lib.hid (hb.trans (decide_eq_false fun e => hnm (by rw [← L1.out, ← L2.out, e])))
    have hd : ((n : Int) != (m : Int)) = true := by simp; omega
    clear hnm hb
    go_enter Try.func43, Try.ntmps43
    go_wp2
    go_ret
    exact ⟨ret_bool hfin.out.symm, 0, rfl⟩

set_option maxHeartbeats 1000000 in
theorem sequalf (A B : Option Addr) (n c m d : Nat) (xs ys : List (List Int)) (b : Bool) (w : World) (hx : Lists w A n xs) (hy : Lists w B m ys) (hb : b = decide (xs = ys)) :
    Calls Try.prog 71 #[.slice A n c, .slice B m d, .func (.func 72) #[] #[]] w fun e w' => e = .returned (.bool b) ∧ ∃ q, w' = w.drewN q := by
  have L1 := Lib.hid hx.1
  have L2 := Lib.hid hy.1
  have hn := hx.2.1
  have hm := hy.2.1
  by_cases hnm : n = m
  · subst hnm
    have HB := Lib.hid hb
    clear hb
    go_enter Try.func71, Try.ntmps71
    go_wp2
    go_loopw [17] (fun i wr => ∃ j : Nat, j ≤ n ∧ i = .int .i64 j ∧ AgreeL [] xs ys j ∧ ∃ q, wr = w.drewN q) (fun i _ => n - (intOf i).toNat)
    case atStart => exact ⟨0, Nat.zero_le _, rfl, AgreeL.zero _ _ _, 0, rfl⟩
    case round =>
      obtain ⟨j, hj, rfl, heq, hw⟩ := hrel
      have hx' : Lists wr A n xs := by obtain ⟨q, rfl⟩ := hw; exact hx
      have hy' : Lists wr B n ys := by obtain ⟨q, rfl⟩ := hw; exact hy
      have HW := Lib.hid hw
      clear hw
      have HE := Lib.hid heq
      clear heq
      by_cases hlt : j < n
      · obtain ⟨g1, o1, A1, n1, c1, rfl, _, hc1, hi1⟩ := hx'.at_ hlt
        obtain ⟨g2, o2, A2, n2, c2, rfl, _, hc2, hi2⟩ := hy'.at_ hlt
        by_cases he : xs.getD j [] = ys.getD j []
        · have hnx := Lib.hid (HE.out.succ he)
          have hd := Lib.hid ((decide_eq_true he).symm)
          clear he
          go_wp2_with fail
          refine (sequal _ _ _ _ _ _ _ _ _ _ hi1 hi2 hd.out).mono ?_
          rintro e w' ⟨rfl, q, rfl⟩
          go_wp2
          go_roundw
          case rel => exact ⟨j + 1, by omega, by go_num, hnx.out, drew_more HW.out _⟩
          case measure => simp [intOf]; omega
        · have hfin : Hid (b = false) := Lib.hid (HB.out.trans (decide_eq_false fun e => he (by rw [e])))
          have hd := Lib.hid ((decide_eq_false he).symm)
          clear he
          go_wp2_with fail
          refine (sequal _ _ _ _ _ _ _ _ _ _ hi1 hi2 hd.out).mono ?_
          rintro e w' ⟨rfl, q, rfl⟩
          go_wp2
          go_ret
          exact ⟨ret_bool hfin.out.symm, by first | exact drew_more HW.out _ | exact HW.out⟩
      · obtain rfl : j = n := by omega
        have hfin : Hid (b = true) := Lib.hid (HB.out.trans (decide_eq_true (HE.out.all L1.out L2.out)))
        go_wp2
        go_ret
        exact ⟨ret_bool hfin.out.symm, by first | exact drew_more HW.out _ | exact HW.out⟩
  · have hfin : Hid (b = false) := Lib.hid (hb.trans (decide_eq_false fun e => hnm (by rw [← L1.out, ← L2.out, e])))
    have hd : ((n : Int) != (m : Int)) = true := by simp; omega
    clear hnm hb
    go_enter Try.func71, Try.ntmps71
    go_wp2
    go_ret
    exact ⟨ret_bool hfin.out.symm, 0, rfl⟩

set_option maxHeartbeats 1000000 in
theorem pequal (A B : Option Addr) (n c m d : Nat) (xs ys : List (List Int)) (b : Bool) (w : World) (hx : Lists w A n xs) (hy : Lists w B m ys) (hb : b = decide (xs = ys)) :
    Calls Try.prog 54 #[.slice A n c, .slice B m d] w fun e w' => e = .returned (.bool b) ∧ ∃ q, w' = w.drewN q := by
  have HB := Lib.hid hb
  clear hb
  go_enter Try.func54, Try.ntmps54
  go_wp2_with fail
  refine (sequalf _ _ _ _ _ _ _ _ _ _ hx hy HB.out).mono ?_
  rintro e w' ⟨rfl, q, rfl⟩
  go_wp2
  go_ret
  exact ⟨rfl, q, rfl⟩
end Go.Proofs.Ytdedgpgdmnfijaa
end

section
/- The reference: Equal. -/
namespace Go.Proofs.Ytdedgpgdmnfijaa
open Go.RowKit

set_option maxHeartbeats 1000000 in
theorem requal (A B : Option Addr) (n c m d : Nat) (xs ys : List Int) (b : Bool) (w : World) (hx : Ints w A n xs) (hy : Ints w B m ys) (hb : b = decide (xs = ys)) :
    Calls Try.prog 24 #[.slice A n c, .slice B m d] w fun e w' => e = .returned (.bool b) ∧ ∃ q, w' = w.drewN q := by
  have L1 := Lib.hid hx.1
  have L2 := Lib.hid hy.1
  have hn := hx.2.1
  have hm := hy.2.1
  by_cases hnm : n = m
  · subst hnm
    have HB := Lib.hid hb
    clear hb
    go_enter Try.func24, Try.ntmps24
    go_wp2
    go_loopw [5] (fun i wr => ∃ j q : Nat, j ≤ n ∧ i = .int .i64 j ∧ AgreeL 0 xs ys j ∧ wr = w.drewN q) (fun i _ => n - (intOf i).toNat)
    case atStart => exact ⟨0, 0, Nat.zero_le _, rfl, AgreeL.zero _ _ _, rfl⟩
    case round =>
      obtain ⟨j, q, hj, rfl, heq, rfl⟩ := hrel
      have HE := Lib.hid heq
      clear heq
      by_cases hlt : j < n
      · obtain ⟨g1, o1, rfl, _, hc1⟩ := hx.at_ hlt
        obtain ⟨g2, o2, rfl, _, hc2⟩ := hy.at_ hlt
        by_cases he : xs.getD j 0 = ys.getD j 0
        · have hnx := Lib.hid (HE.out.succ he)
          rw [← he] at hc2
          generalize xs.getD j 0 = y at hc1 hc2
          clear he
          go_wp2
          go_quiet (fail)
          go_wp2
          go_roundw
          case rel => exact ⟨j + 1, _, by omega, by go_num, hnx.out, rfl⟩
          case measure => simp [intOf]; omega
        · have hfin : Hid (b = false) := Lib.hid (HB.out.trans (decide_eq_false fun e => he (by rw [e])))
          have hne : (xs.getD j 0 != ys.getD j 0) = true := by simpa using he
          generalize xs.getD j 0 = y at hc1 hne
          generalize ys.getD j 0 = z at hc2 hne
          clear he
          go_wp2
          go_quiet (fail)
          go_wp2
          go_ret
          exact ⟨ret_bool hfin.out.symm, by first | exact ⟨_, rfl⟩ | exact ⟨_, World.drewN_drewN _ _ _⟩⟩
      · obtain rfl : j = n := by omega
        have hfin : Hid (b = true) := Lib.hid (HB.out.trans (decide_eq_true (HE.out.all L1.out L2.out)))
        go_wp2
        go_ret
        exact ⟨ret_bool hfin.out.symm, by first | exact ⟨_, rfl⟩ | exact ⟨_, World.drewN_drewN _ _ _⟩⟩
  · have hfin : Hid (b = false) := Lib.hid (hb.trans (decide_eq_false fun e => hnm (by rw [← L1.out, ← L2.out, e])))
    have hd : ((n : Int) != (m : Int)) = true := by simp; omega
    clear hnm hb
    go_enter Try.func24, Try.ntmps24
    go_wp2
    go_ret
    exact ⟨ret_bool hfin.out.symm, 0, rfl⟩

end Go.Proofs.Ytdedgpgdmnfijaa
end

section
/- Valid of a machine by the reference. -/
namespace Go.Proofs.Ytdedgpgdmnfijaa
open Go.RowKit

set_option maxHeartbeats 2000000 in
set_option maxRecDepth 100000 in
theorem rvalid (i st : Int) (A B : Option Addr) (n c m d : Nat) (nx ot : List (List Int)) (w : World) (hx : Lists w A n nx) (ho : Lists w B m ot) :
    Calls Try.prog 49 #[.agg #[.int .i64 i, .int .i64 st, .slice A n c, .slice B m d]] w fun e w' => e = .returned (.int .i64 (vld i st nx ot)) ∧ Below w.heap.size w w' := by
  have L1 := Lib.hid hx.1
  have L2 := Lib.hid ho.1
  have hn := hx.2.1
  have hm := ho.2.1
  have hb0 := alloc_below w (.cells #[.int .i64 i, .int .i64 st, .slice A n c, .slice B m d] 24)
  have hsz0 : (w.alloc (.cells #[.int .i64 i, .int .i64 st, .slice A n c, .slice B m d] 24)).heap.size = w.heap.size + 1 := by simp
  have HZ := Lib.hid hsz0
  clear hsz0
  by_cases hi : 1 ≤ i ∧ i ≤ 64
  · have HI := Lib.hid hi
    obtain ⟨hi1, hi2⟩ := hi
    have i1 : decide (i < 1) = false := by simpa using hi1
    have i2 : decide (64 < i) = false := by simpa using hi2
    by_cases h0 : n = 0
    · have hfin := Lib.hid (vld_empty (st := st) (ot := ot) HI.out (by rw [L1.out]; exact h0))
      subst h0
      go_enter Try.func49, Try.ntmps49
      go_wp2
      go_ret
      exact ⟨ret_int hfin.out.symm, hb0⟩
    · have z0 : ((n : Int) == 0) = false := by simp; omega
      by_cases h1 : 128 < n
      · have hfin := Lib.hid (vld_many (st := st) (ot := ot) HI.out (by rw [L1.out]; exact h1))
        clear h0
        go_enter Try.func49, Try.ntmps49
        go_wp2
        go_ret
        exact ⟨ret_int hfin.out.symm, hb0⟩
      · have z1 : decide ((128 : Int) < (n : Int)) = false := by simp; omega
        by_cases h2 : 0 ≤ st ∧ st < n
        · have H2 := Lib.hid h2
          have s1 : decide (st < 0) = false := by simpa using h2.1
          have s2 : decide ((n : Int) ≤ st) = false := by simpa using h2.2
          by_cases h3 : m = n
          · subst h3
            have z3 : ((m : Int) != (m : Int)) = false := by simp
            have hrows := Lib.hid (vld_rows (i := i) (st := st) (nx := nx) (ot := ot) HI.out (by rw [L1.out]; exact h0) (by rw [L1.out]; exact h1) (by rw [L1.out]; exact H2.out) (by rw [L1.out, L2.out]))
            clear h0 h2
            go_enter Try.func49, Try.ntmps49
            go_wp2
            go_loopw [3] (fun x wr => ∃ j : Nat, j ≤ m ∧ x = .int .i64 j ∧ (∀ t, t < j → rowAt i nx ot t = 0) ∧ Below (w.heap.size + 1) (w.alloc (.cells #[.int .i64 i, .int .i64 st, .slice A m c, .slice B m d] 24)) wr) (fun x _ => m - (intOf x).toNat)
            case atStart => exact ⟨0, Nat.zero_le _, rfl, fun t h => absurd h (by omega), Below.refl _ _⟩
            case round =>
              obtain ⟨j, hj, rfl, hok, hbr⟩ := hrel
              have hbw := hb0.trans (hbr.mono (Nat.le_succ _))
              have hsz1 : w.heap.size + 1 ≤ wr.heap.size := by have := hbr.size; simpa using this
              have HK := Lib.hid hok
              clear hok
              obtain ⟨k0, k1, k2, k3⟩ := box4 hbr
              by_cases hlt : j < m
              · have HV := Lib.hid (show rowAt i nx ot j = rowE i m (nx.getD j []) (ot.getD j []) by unfold rowAt; rw [L1.out])
                by_cases he : rowE i m (nx.getD j []) (ot.getD j []) = 0
                · have hnx := Lib.hid (show ∀ t, t < j + 1 → rowAt i nx ot t = 0 from fun t ht => by
                    by_cases e : t = j
                    · subst e; rw [HV.out]; exact he
                    · exact HK.out t (by omega))
                  have HE := Lib.hid he
                  clear he
                  go_wp2_with fail
                  refine (rrow _ _ _ _ _ _ _ _ _ _ _ _ (hx.below hbw) (ho.below hbw) hlt hlt).mono ?_
                  rintro e w2 ⟨rfl, b2⟩
                  have b3 := hbr.trans (b2.mono hsz1)
                  rw [HE.out]
                  obtain ⟨k0, k1, k2, k3⟩ := box4 b3
                  go_wp2
                  go_roundw
                  case rel => exact ⟨j + 1, by omega, by go_num, hnx.out, b3⟩
                  case measure => simp [intOf]; omega
                · have hfin := Lib.hid (hrows.out.trans (fstE_bad HK.out (by rw [HV.out]; exact he) (by rw [L1.out]; exact hlt)))
                  have he2 : (rowE i m (nx.getD j []) (ot.getD j []) != 0) = true := by simpa using he
                  go_wp2_with fail
                  refine (rrow _ _ _ _ _ _ _ _ _ _ _ _ (hx.below hbw) (ho.below hbw) hlt hlt).mono ?_
                  rintro e w2 ⟨rfl, b2⟩
                  have b3 := hbr.trans (b2.mono hsz1)
                  have HF := Lib.hid (hfin.out.trans HV.out)
                  clear hfin HV
                  generalize rowE i m (nx.getD j []) (ot.getD j []) = E at he2 he HF
                  clear he
                  go_wp2
                  go_ret
                  exact ⟨ret_int HF.out.symm, hb0.trans (b3.mono (Nat.le_succ _))⟩
              · obtain rfl : j = m := by omega
                have hfin := Lib.hid (hrows.out.trans (fstE_ok (by rw [L1.out]; exact HK.out)))
                go_wp2
                go_ret
                exact ⟨ret_int hfin.out.symm, hbw⟩
          · have z3 : ((m : Int) != (n : Int)) = true := by simp; omega
            have hfin := Lib.hid (vld_out (i := i) (st := st) (nx := nx) (ot := ot) HI.out (by rw [L1.out]; exact h0) (by rw [L1.out]; exact h1) (by rw [L1.out]; exact H2.out) (by rw [L1.out, L2.out]; exact h3))
            clear h0 h3
            go_enter Try.func49, Try.ntmps49
            go_wp2
            go_ret
            exact ⟨ret_int hfin.out.symm, hb0⟩
        · have hfin := Lib.hid (vld_start (i := i) (st := st) (nx := nx) (ot := ot) HI.out (by rw [L1.out]; exact h0) (by rw [L1.out]; exact h1) (by rw [L1.out]; exact h2))
          by_cases h3 : 0 ≤ st
          · have s1 : decide (st < 0) = false := by simpa using h3
            have s2 : decide ((n : Int) ≤ st) = true := by simp; omega
            clear h0 h2
            go_enter Try.func49, Try.ntmps49
            go_wp2
            go_ret
            exact ⟨ret_int hfin.out.symm, hb0⟩
          · have s1 : decide (st < 0) = true := by simpa using h3
            clear h0 h2
            go_enter Try.func49, Try.ntmps49
            go_wp2
            go_ret
            exact ⟨ret_int hfin.out.symm, hb0⟩
  · have hfin := Lib.hid (vld_in (st := st) (nx := nx) (ot := ot) hi)
    by_cases hi1 : 1 ≤ i
    · have hi2 : 64 < i := by omega
      have t1 : ¬ i < 1 := by omega
      clear hi
      go_enter Try.func49, Try.ntmps49
      go_wp2
      go_ret
      exact ⟨ret_int hfin.out.symm, hb0⟩
    · have t1 : i < 1 := by omega
      clear hi hi1
      go_enter Try.func49, Try.ntmps49
      go_wp2
      go_ret
      exact ⟨ret_int hfin.out.symm, hb0⟩
end Go.Proofs.Ytdedgpgdmnfijaa
end

section
/- The signature of a state: the walk. -/
namespace Go.Proofs.Ytdedgpgdmnfijaa
open Go.RowKit

set_option maxHeartbeats 4000000 in
set_option maxRecDepth 100000 in
theorem psign (i st n s : Nat) (A B C : Option Addr) (c d cc : Nat) (nx ot : List (List Int)) (cl : List Nat) (w : World) (hx : Lists w A n nx) (ho : Lists w B n ot) (hM : Mok i st n nx ot) (hc : Ints w C n (zs cl)) (hs : s < n) :
    Calls Try.prog 78 #[.agg #[.int .i64 i, .int .i64 st, .slice A n c, .slice B n d], .slice C n cc, .int .i64 s] w fun e w' => e = .returned (kv (sgm nx ot cl s i)) ∧ Below w.heap.size w w' := by
  have hn := hx.2.1
  have hn2 := hM.n2
  have hi64 := hM.i2
  obtain ⟨g1, o1, A1, n1, c1, rfl, hg1, hd1, hr1⟩ := hx.at_ hs
  obtain ⟨g2, o2, A2, n2, c2, rfl, hg2, hd2, hr2⟩ := ho.at_ hs
  have hl1 := hr1.1
  have hl2 := hr2.1
  have hi1 := (hM.row s hs).1
  have hi2 := (hM.row s hs).2.1
  obtain rfl : n1 = i := by omega
  obtain rfl : n1 = n2 := by omega
  clear hl1 hl2 hi1 hi2
  obtain ⟨g, hg⟩ : ∃ g, g = w.heap.size := ⟨_, rfl⟩
  obtain ⟨w1, hw1⟩ : ∃ w1, w1 = w.alloc (.cells #[.int .i64 n1, .int .i64 st, .slice (some ⟨g1, o1, none⟩) n c, .slice (some ⟨g2, o2, none⟩) n d] 24) := ⟨_, rfl⟩
  have hb1 : Below w.heap.size w w1 := by rw [hw1]; exact alloc_below _ _
  have hz1 : w1.heap.size = g + 1 := by rw [hw1, hg]; simp
  have hB1 : Mblk w1 g (.int .i64 n1) (.int .i64 st) (.slice (some ⟨g1, o1, none⟩) n c) (.slice (some ⟨g2, o2, none⟩) n d) := by rw [hw1, hg]; exact heap_alloc_new _ _
  obtain ⟨w2, hw2⟩ : ∃ w2, w2 = w1.alloc (.cells Try.zeroCells106 106) := ⟨_, rfl⟩
  have hb2 : Below w1.heap.size w1 w2 := by rw [hw2]; exact alloc_below _ _
  have hz2 : w2.heap.size = g + 2 := by rw [hw2]; simp; omega
  have hR2 : Zblk w2 (g + 1) 106 (List.replicate 128 0) := by rw [hw2, ← hz1, zero128]; exact heap_alloc_new _ _
  obtain ⟨w3, hw3⟩ : ∃ w3, w3 = w2.alloc (.cells Try.zeroCells106 106) := ⟨_, rfl⟩
  have hb3 : Below w2.heap.size w2 w3 := by rw [hw3]; exact alloc_below _ _
  have hz3 : w3.heap.size = g + 3 := by rw [hw3]; simp; omega
  have hS3 : Zblk w3 (g + 2) 106 (List.replicate 128 0) := by rw [hw3, ← hz2, zero128]; exact heap_alloc_new _ _
  have hbw3 : Below w.heap.size w w3 := bt hb1 (hb2.trans (hb3.mono (by omega)))
  have hB3 := hB1.kept (hb2.trans (hb3.mono (by omega))) (show g < w1.heap.size by omega)
  have hR3 := hR2.kept hb3 (by omega)
  have e1 := (hbw3.cell (p := ⟨g1, o1 + s, none⟩) hg1).trans hd1
  have HW : Hid (w3 = ((w.alloc (.cells #[.int .i64 n1, .int .i64 st, .slice (some ⟨g1, o1, none⟩) n c, .slice (some ⟨g2, o2, none⟩) n d] 24)).alloc (.cells Try.zeroCells106 106)).alloc (.cells Try.zeroCells106 106)) := Lib.hid (by rw [hw3, hw2, hw1])
  have HG := Lib.hid hg
  rw [hw3, hw2, hw1] at e1
  have HZ3 := Lib.hid hz3
  have HR3 := Lib.hid hR3
  have HB3 := Lib.hid hB3
  have HS3 := Lib.hid hS3
  have hs0 : (0 : Int) ≤ (s : Int) := by omega
  clear hw1 hw2 hw3 hz1 hz2 hz3 hb1 hb2 hb3 hB1 hR2 hg hB3 hR3 hS3
  go_enter Try.func78, Try.ntmps78
  go_wp2
  rw [← HW.out]
  try rw [← HG.out]
  clear e1
  go_loopw [16] (fun kv wr => ∃ a : Nat, a ≤ n1 ∧ kv = .int .i64 a ∧ Zblk wr (g + 2) 106 (sgm nx ot cl s a) ∧ Below (g + 2) w3 wr) (fun kv _ => n1 - (intOf kv).toNat)
  case atStart => exact ⟨0, Nat.zero_le _, rfl, by rw [sgm_zero]; exact HS3.out, Below.refl _ _⟩
  case round =>
    obtain ⟨a, ha, rfl, hS, hbr⟩ := hrel
    have hbW : Below w.heap.size w wr := hbw3.trans (hbr.mono (by have := hg1; rw [← HG.out]; omega))
    have hbox := HB3.out.kept hbr (show g < g + 2 by omega)
    obtain ⟨k0, k1, k2, k3, _⟩ := hbox.cells
    have hzr := hbr.size
    have hzr3 : g + 2 < wr.heap.size := by rw [HZ3.out] at hzr; omega
    by_cases hlt : a < n1
    · obtain ⟨b1, p1, rfl, hb1, hc1⟩ := hr1.at_ hlt
      have hc1 := (hbW.cell (p := ⟨b1, p1 + a, none⟩) hb1).trans hc1
      obtain ⟨b2, p2, rfl, hb2, hc2⟩ := hr2.at_ hlt
      have hc2 := (hbW.cell (p := ⟨b2, p2 + a, none⟩) hb2).trans hc2
      have e2 := (hbW.cell (p := ⟨g2, o2 + s, none⟩) hg2).trans hd2
      rw [hM.nN_eq hs hlt] at hc1
      have ht := hM.nN_lt hs hlt
      obtain ⟨b3, p3, rfl, hb3, hc3⟩ := hc.at_ ht
      have hc3 := (hbW.cell (p := ⟨b3, _, none⟩) hb3).trans hc3
      rw [zs_at] at hc3
      have lb : b2 < g + 2 ∧ b3 < g + 2 ∧ g2 < g + 2 := by have := HG.out; omega
      obtain ⟨lb2, lb3, lg2⟩ := lb
      have hnx := Lib.hid (sgm_succ nx ot cl s a)
      have hy : (ot.getD s []).getD a 0 = oN ot s a := rfl
      rw [hy] at hc2
      obtain ⟨q1, f1⟩ := hS.at_ (j := 2 * a) (by rw [sgm_len]; omega)
      obtain ⟨q2, f2⟩ := hS.at_ (j := 2 * a + 1) (by rw [sgm_len]; omega)
      have HS := Lib.hid hS
      generalize (sgm nx ot cl s a).getD (2 * a) 0 = u1 at q1
      generalize (sgm nx ot cl s a).getD (2 * a + 1) 0 = u2 at q2
      generalize oN ot s a = y at hc2 hnx
      generalize nN nx s a = t at hc1 ht hc3 hnx
      generalize cl.getD t 0 = z at hc3 hnx
      rw [Nat.mul_comm] at q1 f1 q2 f2
      have HY := Lib.hid hy
      clear hy hS hd1 hd2
      have j0 : (0 : Int) ≤ (a : Int) := by omega
      have j1 : (0 : Int) ≤ (t : Int) := by omega
      have j2 : (t : Int) < (n : Int) := by omega
      have j3 : (s : Int) < (n : Int) := by omega
      have j4 : (a : Int) < (n1 : Int) := by omega
      have j5 : (a : Int) < 64 := by omega
      have HK : Hid (∀ u v, ((wr.setCell ⟨g + 1 + 1, a * 2, none⟩ u).setCell ⟨g + 1 + 1, a * 2 + 1, none⟩ v).drew.cell? ⟨g, 3, none⟩ = some (.slice (some ⟨g2, o2, none⟩) n d) ∧ ((wr.setCell ⟨g + 1 + 1, a * 2, none⟩ u).setCell ⟨g + 1 + 1, a * 2 + 1, none⟩ v).drew.cell? ⟨g2, o2 + s, none⟩ = some (.slice (some ⟨b2, p2, none⟩) n1 c2) ∧ ((wr.setCell ⟨g + 1 + 1, a * 2, none⟩ u).setCell ⟨g + 1 + 1, a * 2 + 1, none⟩ v).drew.cell? ⟨b2, p2 + a, none⟩ = some (.int .i64 y) ∧ ((wr.setCell ⟨g + 1 + 1, a * 2, none⟩ u).setCell ⟨g + 1 + 1, a * 2 + 1, none⟩ v).drew.cell? ⟨b3, p3 + t, none⟩ = some (.int .i64 z)) := Lib.hid fun u v => by
        have h1 : Below (g + 2) wr (wr.setCell ⟨g + 1 + 1, a * 2, none⟩ u) := (Below.refl (g + 2) wr).setCell (p := ⟨g + 1 + 1, a * 2, none⟩) (Nat.le_refl (g + 2)) u
        have h2 : Below (g + 2) wr ((wr.setCell ⟨g + 1 + 1, a * 2, none⟩ u).setCell ⟨g + 1 + 1, a * 2 + 1, none⟩ v) := h1.setCell (p := ⟨g + 1 + 1, a * 2 + 1, none⟩) (Nat.le_refl (g + 2)) v
        have hk : Below (g + 2) wr (((wr.setCell ⟨g + 1 + 1, a * 2, none⟩ u).setCell ⟨g + 1 + 1, a * 2 + 1, none⟩ v).drew) := below_drewN h2 1
        exact ⟨(hk.cell (p := ⟨g, 3, none⟩) (show g < g + 2 by omega)).trans k3, (hk.cell (p := ⟨g2, o2 + s, none⟩) lg2).trans e2, (hk.cell (p := ⟨b2, p2 + a, none⟩) lb2).trans hc2, (hk.cell (p := ⟨b3, p3 + t, none⟩) lb3).trans hc3⟩
      go_wp2
      go_region_held3 (fun w' => w'.cell? ⟨g, 3, none⟩ = some (.slice (some ⟨g2, o2, none⟩) n d) ∧ w'.cell? ⟨g2, o2 + s, none⟩ = some (.slice (some ⟨b2, p2, none⟩) n1 c2) ∧ w'.cell? ⟨b2, p2 + a, none⟩ = some (.int .i64 y) ∧ w'.cell? ⟨b3, p3 + t, none⟩ = some (.int .i64 z)) (first | exact HK.out _ _ | exact ⟨k3, e2, hc2, hc3⟩ | go_keep) (fail)
      have hq1 := (HS.out.set (2 * a) y).set (2 * a + 1) (z : Int)
      rw [hnx.out] at hq1
      have hq2 : Below (g + 2) w3 ((wr.setCell ⟨g + 2, 2 * a, none⟩ (.int .i64 y)).setCell ⟨g + 2, 2 * a + 1, none⟩ (.int .i64 z)) := (hbr.setCell (p := ⟨g + 2, 2 * a, none⟩) (Nat.le_refl (g + 2)) _).setCell (p := ⟨g + 2, 2 * a + 1, none⟩) (Nat.le_refl (g + 2)) _
      rw [Nat.mul_comm 2 a] at hq1 hq2
      have HQ := Lib.hid (And.intro hq1 hq2)
      clear hq1 hq2
      go_wp2
      go_roundw
      case rel => exact ⟨a + 1, by omega, by go_num, HQ.out.1, below_drewN HQ.out.2 1⟩
      case measure => simp [intOf]; omega
    · obtain rfl : a = n1 := by omega
      have hR := HR3.out.kept hbr (show g + 1 < g + 2 by omega)
      have HS := Lib.hid hS
      have HR := Lib.hid hR
      have hWS := Lib.hid ((HR.out.whole (sgm nx ot cl s a) (by rw [sgm_len]; simp)))
      have hT := Lib.hid (HR.out.there 128 (by simp))
      have hBW := Lib.hid (hbW.trans (below_setCells w.heap.size (g + 1) (by rw [← HG.out]; omega) ((sgm nx ot cl s a).map (Value.int .i64)) 0 wr))
      have hsz : ((sgm nx ot cl s a).map (Value.int .i64)).toArray.size = 128 := by simp [sgm_len]
      have hone : ((sgm nx ot cl s a).map (Value.int .i64)).toArray.all (·.oneCell') = true := all_oneCell_toArray (fun v hv => by obtain ⟨x, _, rfl⟩ := List.mem_map.1 hv; rfl)
      have HSZ := Lib.hid hsz
      have HONE := Lib.hid hone
      clear hS hR hsz hone
      generalize hL : ((sgm nx ot cl s a).map (Value.int .i64)).toArray = cs at HSZ HONE
      have hS9 : wr.heap[g + 2]? = some (.cells cs 106 (0, 0)) := by rw [← hL]; exact HS.out
      have hL2 : cs.toList = (sgm nx ot cl s a).map (Value.int .i64) := by rw [← hL]
      have HL := Lib.hid hL
      have HL2 := Lib.hid hL2
      have HS9 := Lib.hid hS9
      clear hL hL2 hS9 k0 k1 k2 k3
      go_wp2_with (first
        | (refine wpList_load_row rfl 106 _ rfl (g + 2) rfl 106 cs (0, 0) _ HS9.out Try.underlying106 rfl (by rw [HSZ.out]; kernel_rfl) ?_)
        | (refine wpList_store_mid rfl 106 _ _ rfl (g + 1) 0 cs rfl rfl (by rw [HSZ.out]; exact hT.out) (by rw [HSZ.out]; kernel_rfl) HONE.out ?_))
      rw [HL2.out]
      refine bodyPost_ret (results_cell_row (by rfl) _ _ (g + 1) 106 _ (0, 0) _ rfl hWS.out Try.underlying106 rfl (by rw [List.size_toArray, List.length_map, sgm_len]; kernel_rfl)) rfl ⟨rfl, hBW.out⟩
end Go.Proofs.Ytdedgpgdmnfijaa
end

section
/- One refinement of classes: the walk. -/
namespace Go.Proofs.Ytdedgpgdmnfijaa
open Go.RowKit

theorem sigT : KeyT 103 106 := ⟨Try.underlying103, Go.Maps.Keyed.of_law (deep_law_laid laidOutB_ (m := 3) (by omega) (of_decide_eq_true (by kernel_rfl)) (by kernel_rfl) (by rw [Try.underlying106]))⟩

theorem sigK {x : List Int} (hl : x.length = 128) (hx : ∀ a, a ∈ x → I64 a) : IsK 106 x := by
  have c1 : Try.prog.cellsOf 106 = 128 := by kernel_rfl
  have c2 : Try.prog.cellsOf 104 = 2 := by kernel_rfl
  refine keyOf_arr Try.underlying106 (fun x hl hx => ?_) (by kernel_rfl) (by rw [c1, hl]) hx
  refine keyLits_arr Try.underlying106 (by simp [hl]) fun j hj => ?_
  rw [c2, ← List.map_drop, ← List.map_take]
  have e : Try.prog.types.size = (Try.prog.types.size - 2) + 2 := by kernel_rfl
  rw [e]
  refine keyLits_row Try.underlying104 c2 ?_ fun a ha => hx a (List.mem_of_mem_drop (List.mem_of_mem_take ha))
  rw [List.length_take, List.length_drop, hl, c1]; omega
theorem sgmK {i st n : Nat} {nx ot : List (List Int)} (hM : Mok i st n nx ot) {cl : List Nat} (hcl : ∀ t, t < n → cl.getD t 0 ≤ n) {s : Nat} (hs : s < n) : IsK 106 (sgm nx ot cl s i) := by
  refine sigK (sgm_len _ _ _ _ _) fun a ha => ?_
  obtain ⟨j, hj, rfl⟩ := List.getElem_of_mem ha
  rw [sgm_len] at hj
  have h := sgm_get nx ot cl s i j hj
  rw [List.getElem?_eq_getElem (by rw [sgm_len]; exact hj)] at h
  simp only [Option.some.injEq] at h
  rw [h]
  have hn := hM.n2
  by_cases e : j / 2 < i
  · rw [if_pos e]
    by_cases e2 : j % 2 = 0
    · rw [if_pos e2]
      have := (hM.row s hs).2.2 _ e
      unfold oN
      exact I64.mk (by omega) (by omega)
    · rw [if_neg e2]
      have := hcl _ (hM.nN_lt hs e)
      exact I64.mk (by omega) (by omega)
  · rw [if_neg e]; exact I64.mk (by omega) (by omega)
end Go.Proofs.Ytdedgpgdmnfijaa
end

section
/- One refinement of classes: the walk. -/
namespace Go.Proofs.Ytdedgpgdmnfijaa
open Go.RowKit

theorem Owned.apartMap {w w' : World} {base g n c b : Nat} {xs : List Int} (h : Owned w base (.slice (some ⟨g, 0, none⟩) n c) xs) (hg : w.grownBy w' (some b)) (hne : b ≠ g) : Owned w' base (.slice (some ⟨g, 0, none⟩) n c) xs :=
  World.ownsRow.kept h hg (.inr (by simp [Value.ownBlock]; exact fun e => hne e.symm))
/-- The key laid in a new block. -/
theorem sig_laid (w : World) (xs : List Int) (hl : xs.length = 128) (W : World) (hW : W = (w.alloc (.cells Try.zeroCells106 106)).setCells w.heap.size 0 (xs.map (Value.int .i64))) :
    Zblk W w.heap.size 106 xs ∧ Below w.heap.size w W ∧ w.heap.size < W.heap.size ∧ (w.alloc (.cells Try.zeroCells106 106)).there w.heap.size 0 128 := by
  have h1 : Zblk (w.alloc (.cells Try.zeroCells106 106)) w.heap.size 106 (List.replicate 128 0) := by rw [zero128]; exact heap_alloc_new _ _
  have h2 := h1.whole xs (by simp [hl])
  have h3 := below_setCells w.heap.size w.heap.size (Nat.le_refl _) (xs.map (Value.int .i64)) 0 (w.alloc (.cells Try.zeroCells106 106))
  rw [← hW] at h2 h3
  have h4 := h3.size
  simp at h4
  exact ⟨h2, (alloc_below _ _).trans h3, h4, h1.there 128 (by simp)⟩
theorem mid_set (l : List Int) (n k : Nat) (x : Int) (hl : l.length = n) (hk : k < n) (hx : l[k]? = some x) : (l.take k ++ List.replicate (n - k) 0).set k x = l.take (k + 1) ++ List.replicate (n - (k + 1)) 0 := by
  apply List.ext_getElem?
  intro j
  have h1 : (l.take k).length = k := by rw [List.length_take]; omega
  have h2 : (l.take (k + 1)).length = k + 1 := by rw [List.length_take]; omega
  rw [List.getElem?_set, List.length_append, h1, List.length_replicate]
  by_cases e : k = j
  · subst e
    rw [if_pos rfl, if_pos (by omega), List.getElem?_append_left (by omega), List.getElem?_take, if_pos (by omega), hx]
  · rw [if_neg e]
    by_cases e2 : j < k
    · rw [List.getElem?_append_left (by omega), List.getElem?_append_left (by omega), List.getElem?_take, List.getElem?_take, if_pos e2, if_pos (by omega)]
    · rw [List.getElem?_append_right (by omega), List.getElem?_append_right (by omega), h1, h2, List.getElem?_replicate, List.getElem?_replicate]
      by_cases e3 : j < n
      · rw [if_pos (by omega), if_pos (by omega)]
      · rw [if_neg (by omega), if_neg (by omega)]
theorem mid_len (l : List Int) (n k : Nat) (hl : l.length = n) (hk : k ≤ n) : (l.take k ++ List.replicate (n - k) 0).length = n := by
  rw [List.length_append, List.length_take, List.length_replicate]; omega

set_option maxHeartbeats 4000000 in
set_option maxRecDepth 100000 in
theorem prefine (i st n : Nat) (A B C : Option Addr) (c d cc : Nat) (nx ot : List (List Int)) (cl : List Nat) (w : World) (hx : Lists w A n nx) (ho : Lists w B n ot) (hM : Mok i st n nx ot) (hc : Ints w C n (zs cl)) (hcl : ∀ t, t < n → cl.getD t 0 ≤ n) :
    Calls Try.prog 73 #[.agg #[.int .i64 i, .int .i64 st, .slice A n c, .slice B n d], .slice C n cc] w fun e w' => ∃ A' c', e = .returned (.slice A' n c') ∧ Owned w' w.heap.size (.slice A' n c') (zs (num (fun s => sgm nx ot cl s i) n)) ∧ Below w.heap.size w w' := by
  have hn := hx.2.1
  have hn2 := hM.n2
  have hn1 := hM.n1
  have hlo := Lib.hid ho
  obtain ⟨g, hg⟩ : ∃ g, g = w.heap.size := ⟨_, rfl⟩
  obtain ⟨w1, hw1⟩ : ∃ w1, w1 = w.alloc (.cells #[.int .i64 i, .int .i64 st, .slice A n c, .slice B n d] 24) := ⟨_, rfl⟩
  have hb1 : Below w.heap.size w w1 := by rw [hw1]; exact alloc_below _ _
  have hz1 : w1.heap.size = g + 1 := by rw [hw1, hg]; simp
  have hB1 : Mblk w1 g (.int .i64 i) (.int .i64 st) (.slice A n c) (.slice B n d) := by rw [hw1, hg]; exact heap_alloc_new _ _
  obtain ⟨w2, hw2⟩ : ∃ w2, w2 = w1.alloc (.map #[] 0) := ⟨_, rfl⟩
  have hb2 : Below w1.heap.size w1 w2 := by rw [hw2]; exact alloc_below _ _
  have hz2 : w2.heap.size = g + 2 := by rw [hw2]; simp; omega
  have hN2 : NumIs 106 w2 (g + 1) [] := by rw [hw2, ← hz1]; exact NumIs.made _ _
  have hbw2 : Below w.heap.size w w2 := bt hb1 hb2
  have hB2 := hB1.kept hb2 (show g < w1.heap.size by omega)
  have HW : Hid (w2 = (w.alloc (.cells #[.int .i64 i, .int .i64 st, .slice A n c, .slice B n d] 24)).alloc (.map #[] 0)) := Lib.hid (by rw [hw2, hw1])
  have HG := Lib.hid hg
  have HB2 := Lib.hid hB2
  have HN2 := Lib.hid hN2
  have HZ2 := Lib.hid hz2
  have hmm := @run_makeMap Try.prog
  obtain ⟨f, hf⟩ : ∃ f : Nat → List Int, f = fun s => sgm nx ot cl s i := ⟨_, rfl⟩
  have HK := Lib.hid (show ∀ s, s < n → IsK 106 (f s) from fun s hs => by rw [hf]; exact sgmK hM hcl hs)
  have HL := Lib.hid (show ∀ s, (f s).length = 128 from fun s => by rw [hf]; exact sgm_len _ _ _ _ _)
  have HF := Lib.hid (show ∀ s, sgm nx ot cl s i = f s from fun s => by rw [hf])
  rw [← hf]
  clear hf
  clear hw1 hw2 hz1 hb1 hb2 hB1 hg hB2 hN2 hz2
  go_enter Try.func73, Try.ntmps73
  go_wp2_with (refine wpList_make_ints _ rfl _ _ rfl .i64 .i64 n rfl rfl hn ?_; intro w3 ho3 b3)
  clear hmm
  rw [← HW.out] at ho3 b3
  rw [HZ2.out] at ho3 b3
  try rw [← HW.out]
  try rw [HZ2.out]
  go_wp2
  try rw [← HG.out]
  have hB3 := (HB2.out.kept b3 (by omega))
  have hN3 := (HN2.out.below b3 (by omega))
  have HB3 := Lib.hid hB3
  have HN3 := Lib.hid hN3
  have HO3 := Lib.hid ho3
  have hz3 := b3.size
  rw [HZ2.out] at hz3
  have hbw3 : Below w.heap.size w w3 := hbw2.trans (b3.mono (by rw [← HG.out]; omega))
  clear hB3 hN3 ho3 HB2 HN2 b3
  go_loopw [17] (fun kv wr => ∃ s : Nat, s ≤ n ∧ kv = .int .i64 s ∧ NumIs 106 wr (g + 1) (grp f s) ∧ Owned wr (g + 2) (.slice (some ⟨g + 2, 0, none⟩) n n) (zs ((num f n).take s) ++ List.replicate (n - s) 0) ∧ Below (g + 1) w3 wr ∧ w3.heap.size ≤ wr.heap.size) (fun kv _ => n - (intOf kv).toNat)
  case atStart => exact ⟨0, Nat.zero_le _, rfl, HN3.out, by simpa [zs] using HO3.out, Below.refl _ _, Nat.le_refl _⟩
  case round =>
    obtain ⟨s, hs, rfl, hN, hO, hbr, hzr⟩ := hrel
    have hbW : Below w.heap.size w wr := hbw3.trans (hbr.mono (by rw [← HG.out]; omega))
    have hbox := HB3.out.kept hbr (show g < g + 1 by omega)
    obtain ⟨k0, k1, k2, k3, _⟩ := hbox.cells
    have HN := Lib.hid hN
    have HO := Lib.hid hO
    have HBR := Lib.hid hbr
    clear hN hO hbr
    by_cases hlt : s < n
    · go_wp2_with fail
      refine (psign _ _ _ _ _ _ _ _ _ _ _ _ cl _ (hx.below hbW) (hlo.out.below hbW) hM (hc.below hbW) hlt).mono ?_
      rintro e w4 ⟨rfl, b4⟩
      have hz4 := b4.size
      obtain ⟨W, hW⟩ : ∃ W, W = (w4.alloc (.cells Try.zeroCells106 106)).setCells w4.heap.size 0 ((sgm nx ot cl s i).map (Value.int .i64)) := ⟨_, rfl⟩
      obtain ⟨hZ, bW, hzW, hth⟩ := sig_laid w4 _ (sgm_len nx ot cl s i) W hW
      rw [HF.out s] at hZ hW ⊢
      have hK := HK.out s hlt
      have hl := HL.out s
      have hone : ((f s).map (Value.int .i64)).toArray.all (·.oneCell') = true := all_oneCell_toArray (fun v hv => by obtain ⟨x, _, rfl⟩ := List.mem_map.1 hv; rfl)
      have hsz : ((f s).map (Value.int .i64)).toArray.size = 128 := by simp [hl]
      have hbw4 : Below wr.heap.size wr W := bt b4 bW
      have hNW := HN.out.below hbw4 HN.out.lt
      have hOW := HO.out.kept hbw4
      have hkv : kv (f s) = .agg ((f s).map (Value.int .i64)).toArray := rfl
      rw [hkv]
      obtain ⟨cs, hcs⟩ : ∃ cs, cs = ((f s).map (Value.int .i64)).toArray := ⟨_, rfl⟩
      have hZ : W.heap[w4.heap.size]? = some (.cells cs 106 (0, 0)) := by rw [hcs]; exact hZ
      have hW2 : W = (w4.alloc (.cells Try.zeroCells106 106)).setCells w4.heap.size 0 cs.toList := by rw [hW, hcs]
      rw [← hcs] at hone hsz hkv ⊢
      have HKV := Lib.hid hkv
      have HZ := Lib.hid hZ
      have HW2 := Lib.hid hW2
      have HONE := Lib.hid hone
      have HSZ := Lib.hid hsz
      have HTH := Lib.hid hth
      have HCS := Lib.hid hcs
      have HNW := Lib.hid hNW
      have HOW := Lib.hid hOW
      have HBW := Lib.hid hbw4
      have hzW := bW.size
      have hbW9 : Below (g + 1) w3 W := HBR.out.trans (hbw4.mono (by omega))
      have hwl : (zs (num f n)).length = n := by rw [zs_len, num_len]
      have hnm : (zs (num f n))[s]? = some ((nmb f s : Nat) : Int) := by
        have := zs_at (num f n) s
        rw [num_at f hlt, List.getD_eq_getElem?_getD, List.getElem?_eq_getElem (by rw [hwl]; exact hlt)] at this
        rw [List.getElem?_eq_getElem (by rw [hwl]; exact hlt)]
        exact congrArg some this
      have htk : zs ((num f n).take s) = (zs (num f n)).take s := by simp [zs]
      have htk1 : zs ((num f n).take (s + 1)) = (zs (num f n)).take (s + 1) := by simp [zs]
      rw [htk] at hOW
      have hst := mid_set (zs (num f n)) n s _ hwl hlt hnm
      have hml := mid_len (zs (num f n)) n s hwl (by omega)
      have HST := Lib.hid hst
      have HML := Lib.hid hml
      have HTK := Lib.hid htk1
      generalize (zs (num f n)).take s ++ List.replicate (n - s) 0 = mid at hOW HST HML
      have HNW := Lib.hid hNW
      have HOW := Lib.hid hOW
      have HBW9 := Lib.hid hbW9
      clear hZ hW hW2 hone hsz hth hcs hkv hNW hOW hbw4 b4 k0 k1 k2 k3 hl hst hml htk1 htk hnm hwl hbW9 bW
      have hs0 : (0 : Int) ≤ (s : Int) := by omega
      have hz5 : wr.heap.size ≤ W.heap.size := by omega
      by_cases hin : f s ∈ grp f s
      · have hrun := HNW.out.look_in sigT hin
        rw [HKV.out, ← nmb_old f hin] at hrun
        have hg1 : grp f (s + 1) = grp f s := addK_in hin
        have HG1 := Lib.hid hg1
        have hO2 := HOW.out.stored s ((nmb f s : Nat) : Int)
        obtain ⟨bq, oq, eq, hbq, hcq⟩ := (HOW.out.ints (by rw [HML.out]; omega)).at_ hlt
        cases eq
        obtain ⟨gq, eg, _, _, hfz⟩ := HOW.out.head (by omega)
        cases eg
        have hfz := hfz s
        rw [Nat.zero_add] at hcq
        have hN2 := HNW.out.setCell (a := ⟨g + 2, s, none⟩) (by simp) (.int .i64 ((nmb f s : Nat) : Int))
        have hB2 := HBW9.out.setCell (p := ⟨g + 2, s, none⟩) (by simp) (.int .i64 ((nmb f s : Nat) : Int))
        have HR := Lib.hid (And.intro hO2 (And.intro hN2 hB2))
        clear hO2 hN2 hB2 hg1 hin hbq
        generalize nmb f s = v at hrun HR HST
        go_wp2_with (first
          | (refine wpList_store_mid rfl 106 _ _ rfl w4.heap.size 0 cs rfl rfl (by rw [HSZ.out]; exact HTH.out) (by rw [HSZ.out]; kernel_rfl) HONE.out ?_; rw [← HW2.out])
          | (refine wpList_load_row rfl 106 _ rfl w4.heap.size rfl 106 cs (0, 0) _ HZ.out Try.underlying106 rfl (by rw [HSZ.out]; kernel_rfl) ?_))
        go_roundw
        case rel => exact ⟨s + 1, by omega, by go_num, by rw [HG1.out]; exact HR.out.2.1, by rw [HTK.out, ← HST.out]; exact HR.out.1, HR.out.2.2, by simp; omega⟩
        case measure => simp [intOf]; omega
      · have hrun := HNW.out.look_out sigT hK hin
        have hlen := HNW.out.len sigT 3
        obtain ⟨w6, hup, hN6, hgr⟩ := HNW.out.put sigT hK hin (by have := grp_len f s; omega)
        rw [HKV.out] at hrun hup
        rw [← nmb_new f hin] at hlen hup
        have hg1 : grp f (s + 1) = grp f s ++ [f s] := addK_out hin
        have HG1 := Lib.hid hg1
        have hO6 := HOW.out.apartMap hgr (by omega)
        have hO2 := hO6.stored s ((nmb f s : Nat) : Int)
        obtain ⟨bq, oq, eq, hbq, hcq⟩ := (hO6.ints (by rw [HML.out]; omega)).at_ hlt
        cases eq
        obtain ⟨gq, eg, _, _, hfz⟩ := hO6.head (by omega)
        cases eg
        have hfz := hfz s
        rw [Nat.zero_add] at hcq
        have hN2 := hN6.setCell (a := ⟨g + 2, s, none⟩) (by simp) (.int .i64 ((nmb f s : Nat) : Int))
        have hB6 := HBW9.out.grown hgr (by omega) (fun k hk => by cases hk; omega)
        have hB2 := hB6.setCell (p := ⟨g + 2, s, none⟩) (by simp) (.int .i64 ((nmb f s : Nat) : Int))
        have HR := Lib.hid (And.intro hO2 (And.intro hN2 hB2))
        have hz6 := hgr.size
        clear hO2 hN2 hB2 hg1 hin hbq hO6 hN6 hgr hB6
        generalize nmb f s = v at hlen hup HR HST
        go_wp2_with (first
          | (refine wpList_store_mid rfl 106 _ _ rfl w4.heap.size 0 cs rfl rfl (by rw [HSZ.out]; exact HTH.out) (by rw [HSZ.out]; kernel_rfl) HONE.out ?_; rw [← HW2.out])
          | (refine wpList_load_row rfl 106 _ rfl w4.heap.size rfl 106 cs (0, 0) _ HZ.out Try.underlying106 rfl (by rw [HSZ.out]; kernel_rfl) ?_))
        go_roundw
        case rel => exact ⟨s + 1, by omega, by go_num, by rw [HG1.out]; exact HR.out.2.1, by rw [HTK.out, ← HST.out]; exact HR.out.1, HR.out.2.2, by simp; omega⟩
        case measure => simp [intOf]; omega
    · obtain rfl : s = n := by omega
      have hO := HO.out
      rw [List.take_of_length_le (by rw [num_len]; exact Nat.le_refl _), Nat.sub_self, List.replicate_zero, List.append_nil] at hO
      have HO2 := Lib.hid (hO.lower (base' := w.heap.size) (by rw [← HG.out]; omega))
      clear hO
      go_wp2
      go_ret
      exact ⟨_, _, rfl, HO2.out, hbW⟩
end Go.Proofs.Ytdedgpgdmnfijaa
end

section
/- The classes for k: the walk. -/
namespace Go.Proofs.Ytdedgpgdmnfijaa
open Go.RowKit

theorem Mok.pt_bd {i st n : Nat} {nx ot : List (List Int)} (_ : Mok i st n nx ot) (k : Nat) : ∀ t, t < n → (pt nx ot i n k).getD t 0 ≤ n := fun t ht => by
  have := cN_le (nx := nx) (ot := ot) (i := i) (k := k) ht
  unfold cN at this
  omega
/-- After how many rounds the program stops. -/
def rounds_ (nx ot : List (List Int)) (i n : Nat) (k : Int) : Nat := if k ≤ (dep nx ot i n : Int) then k.toNat else dep nx ot i n

set_option maxHeartbeats 4000000 in
set_option maxRecDepth 100000 in
theorem ppartn (i st n : Nat) (A B : Option Addr) (c d : Nat) (nx ot : List (List Int)) (k : Int) (w : World) (hx : Lists w A n nx) (ho : Lists w B n ot) (hM : Mok i st n nx ot) (hk : k ≤ 9223372036854775807) :
    Calls Try.prog 58 #[.agg #[.int .i64 i, .int .i64 st, .slice A n c, .slice B n d], .int .i64 k] w fun e w' => ∃ A' c', e = .returned (.tuple #[.slice A' n c', .int .i64 (rounds_ nx ot i n k : Nat)]) ∧ Owned w' w.heap.size (.slice A' n c') (zs (pt nx ot i n (rounds_ nx ot i n k))) ∧ Below w.heap.size w w' := by
  have hn := hx.2.1
  have hn2 := hM.n2
  have hn1 := hM.n1
  have hlo := Lib.hid ho
  obtain ⟨g, hg⟩ : ∃ g, g = w.heap.size := ⟨_, rfl⟩
  obtain ⟨w1, hw1⟩ : ∃ w1, w1 = w.alloc (.cells #[.int .i64 i, .int .i64 st, .slice A n c, .slice B n d] 24) := ⟨_, rfl⟩
  have hb1 : Below w.heap.size w w1 := by rw [hw1]; exact alloc_below _ _
  have hz1 : w1.heap.size = g + 1 := by rw [hw1, hg]; simp
  have hB1 : Mblk w1 g (.int .i64 i) (.int .i64 st) (.slice A n c) (.slice B n d) := by rw [hw1, hg]; exact heap_alloc_new _ _
  have HW := Lib.hid hw1
  have HG := Lib.hid hg
  have HB1 := Lib.hid hB1
  have HZ1 := Lib.hid hz1
  obtain ⟨R, hR⟩ : ∃ R, R = rounds_ nx ot i n k := ⟨_, rfl⟩
  have HR := Lib.hid hR
  have HS := Lib.hid (show ∀ j : Nat, (∀ m, m < j → pt nx ot i n (m + 1) ≠ pt nx ot i n m) → (j : Int) < k → pt nx ot i n (j + 1) = pt nx ot i n j → j = R from fun j h1 h2 h3 => by
    have h4 := hM.dep_eq h1 h3
    rw [hR]; unfold rounds_
    split
    · omega
    · exact h4)
  have HE := Lib.hid (show ∀ j : Nat, (∀ m, m < j → pt nx ot i n (m + 1) ≠ pt nx ot i n m) → (j : Int) ≤ max k 0 → ¬ (j : Int) < k → j = R ∧ max k 0 = (R : Int) from fun j h1 h2 h3 => by
    have h4 := hM.dep_le h1
    rw [hR]; unfold rounds_
    rw [if_pos (by omega)]
    omega)
  have HD := Lib.hid (show ∀ j : Nat, (∀ m, m < j → pt nx ot i n (m + 1) ≠ pt nx ot i n m) → j < n from fun j h1 => by
    have h4 := hM.dep_le h1
    have := hM.dep_lt
    omega)
  rw [← hR]
  clear hw1 hz1 hg hB1 hR
  go_enter Try.func58, Try.ntmps58
  have k2 := HB1.out.cells.2.2.1
  rw [HW.out] at k2
  try rw [HG.out] at k2
  go_wp2_with (refine wpList_make_ints _ rfl _ _ rfl .i64 .i64 n rfl rfl hn ?_; intro w3 ho3 b3)
  clear k2
  rw [← HW.out] at ho3 b3
  rw [HZ1.out] at ho3 b3
  try rw [← HW.out]
  try rw [HZ1.out]
  try rw [← HG.out]
  have hB3 := (HB1.out.kept b3 (by omega))
  have HB3 := Lib.hid hB3
  have hbw3 : Below w.heap.size w w3 := hb1.trans (b3.mono (by rw [← HG.out]; omega))
  have hO3 := Lib.hid (ho3.lower (base' := g) (by omega))
  have hz3 := b3.size
  rw [HZ1.out] at hz3
  clear hB3 ho3 b3
  go_wp2
  go_loopw [6, 7] (fun v6 v7 wr => ∃ (j : Nat) (A' : Option Addr) (c' : Nat), v7 = .int .i64 j ∧ v6 = .slice A' n c' ∧ Owned wr g (.slice A' n c') (zs (pt nx ot i n j)) ∧ Below w3.heap.size w3 wr ∧ (∀ m, m < j → pt nx ot i n (m + 1) ≠ pt nx ot i n m) ∧ (j : Int) ≤ max k 0) (fun _ v7 _ => n - (intOf v7).toNat)
  case atStart => exact ⟨0, _, _, rfl, rfl, by show Owned _ _ _ (zs (List.replicate n 0)); simpa [zs] using hO3.out, Below.refl _ _, fun m hm => absurd hm (by omega), by omega⟩
  case round =>
    obtain ⟨j, C, cc, rfl, rfl, hO, hbr, hbef, hjk⟩ := hrel
    have hzr := hbr.size
    have hbW : Below w.heap.size w wr := hbw3.trans (hbr.mono (by rw [← HG.out]; omega))
    have hbox := HB3.out.kept hbr (show g < w3.heap.size by omega)
    obtain ⟨k0, k1, k2, k3, _⟩ := hbox.cells
    have hI := Owned.ints hO (by rw [zs_len, pt_len]; exact hn)
    have hjn := HD.out j hbef
    have HO := Lib.hid hO
    have HBR := Lib.hid hbr
    have HBF := Lib.hid hbef
    clear hO hbr
    by_cases hlt : (j : Int) < k
    · have HRF := prefine i st n A B C c d cc nx ot (pt nx ot i n j) wr (hx.below hbW) (hlo.out.below hbW) hM hI (hM.pt_bd j)
      have e1 : zs (num (fun s => sgm nx ot (pt nx ot i n j) s i) n) = zs (pt nx ot i n (j + 1)) := rfl
      rw [e1] at HRF
      have hRF := Lib.hid HRF
      have hS := Lib.hid (HS.out j hbef hlt)
      have hN := Lib.hid (fun H : pt nx ot i n (j + 1) ≠ pt nx ot i n j => show ∀ m, m < j + 1 → pt nx ot i n (m + 1) ≠ pt nx ot i n m from fun m hm => by
        by_cases e2 : m = j
        · subst e2; exact H
        · exact hbef m (by omega))
      clear HRF e1 hbef
      by_cases heq : pt nx ot i n (j + 1) = pt nx ot i n j
      · have hjR := Lib.hid (hS.out heq)
        have HQ := Lib.hid (show (true : Bool) = decide (zs (pt nx ot i n (j + 1)) = zs (pt nx ot i n j)) by rw [heq]; simp)
        clear heq
        go_wp2_with fail
        refine hRF.out.mono ?_
        rintro e w4 ⟨A4, c4, rfl, hO4, b4⟩
        have hI4 := Owned.ints hO4 (by rw [zs_len, pt_len]; exact hn)
        have hI9 := hI.below b4
        have HO4 := Lib.hid hO4
        clear hO4
        go_wp2_with fail
        refine (sequal _ _ _ _ _ _ _ _ _ _ hI4 hI9 HQ.out).mono ?_
        rintro e w5 ⟨rfl, q, rfl⟩
        have HO9 := Lib.hid (show Owned (w4.drewN q) w.heap.size (.slice C n cc) (zs (pt nx ot i n R)) by have h9 := HO.out.kept b4; rw [← hjR.out, ← HG.out]; exact h9)
        clear k0 k1 k2 k3 hI hI4 hI9
        go_wp2
        go_ret2
        exact ⟨_, _, by rw [hjR.out]; rfl, HO9.out, below_drewN (bt hbW b4) q⟩
      · have HQ := Lib.hid (show (false : Bool) = decide (zs (pt nx ot i n (j + 1)) = zs (pt nx ot i n j)) from (decide_eq_false fun H => heq (zs_inj H)).symm)
        have hN1 := Lib.hid (hN.out heq)
        clear heq
        go_wp2_with fail
        refine hRF.out.mono ?_
        rintro e w4 ⟨A4, c4, rfl, hO4, b4⟩
        have hI4 := Owned.ints hO4 (by rw [zs_len, pt_len]; exact hn)
        have hI9 := hI.below b4
        have HO4 := Lib.hid hO4
        clear hO4
        go_wp2_with fail
        refine (sequal _ _ _ _ _ _ _ _ _ _ hI4 hI9 HQ.out).mono ?_
        rintro e w5 ⟨rfl, q, rfl⟩
        have HO9 := Lib.hid (show Owned (w4.drewN q) g (.slice A4 n c4) (zs (pt nx ot i n (j + 1))) from HO4.out.lower (by omega))
        have HB9 := Lib.hid (show Below w3.heap.size w3 (w4.drewN q) from below_drewN (HBR.out.trans (b4.mono hzr)) q)
        clear k0 k1 k2 k3 hI hI4 hI9
        go_wp2
        go_roundw
        case rel => exact ⟨j + 1, A4, c4, by go_num, rfl, HO9.out, HB9.out, hN1.out, by omega⟩
        case measure => simp [intOf]; omega
    · obtain ⟨hjR, hmx⟩ := HE.out j hbef hjk (by omega)
      have HO9 := Lib.hid (show Owned wr w.heap.size (.slice C n cc) (zs (pt nx ot i n R)) by rw [← hjR, ← HG.out]; exact HO.out)
      have HMX := Lib.hid hmx
      clear hjR hmx k0 k1 k2 k3 hI hbef
      go_wp2
      all_goals
        go_ret2
        have hmx := HMX.out
        exact ⟨_, _, by simp; omega, HO9.out, hbW⟩
end Go.Proofs.Ytdedgpgdmnfijaa
end

section
/- The machine of classes: which rows it has. -/
namespace Go.Proofs.Ytdedgpgdmnfijaa

/-- The least states of the classes among the first s. -/
def reps (f : Nat → Nat) : Nat → List Nat
  | 0 => []
  | s + 1 => if f s ∈ grp f s then reps f s else reps f s ++ [s]
theorem reps_in {f : Nat → Nat} {s : Nat} (h : f s ∈ grp f s) : reps f (s + 1) = reps f s := by
  show (if _ then _ else _) = _; rw [if_pos h]
theorem reps_out {f : Nat → Nat} {s : Nat} (h : ¬ f s ∈ grp f s) : reps f (s + 1) = reps f s ++ [s] := by
  show (if _ then _ else _) = _; rw [if_neg h]
theorem reps_map (f : Nat → Nat) : ∀ s, (reps f s).map f = grp f s
  | 0 => rfl
  | s + 1 => by
    by_cases h : f s ∈ grp f s
    · rw [reps_in h, show grp f (s + 1) = grp f s from addK_in h]; exact reps_map f s
    · rw [reps_out h, show grp f (s + 1) = grp f s ++ [f s] from addK_out h, List.map_append, reps_map f s]; rfl
theorem reps_len (f : Nat → Nat) (s : Nat) : (reps f s).length = (grp f s).length := by rw [← reps_map, List.length_map]
theorem reps_lt (f : Nat → Nat) : ∀ (n : Nat) {r : Nat}, r ∈ reps f n → r < n
  | 0, r, h => by simp [reps] at h
  | n + 1, r, h => by
    by_cases e : f n ∈ grp f n
    · rw [reps_in e] at h; have := reps_lt f n h; omega
    · rw [reps_out e] at h
      rcases List.mem_append.1 h with h | h
      · have := reps_lt f n h; omega
      · simp at h; omega
/-- A class that is not there yet has the next number. -/
theorem nmb_skip (f : Nat → Nat) (s : Nat) : nmb f s < (reps f s).length ↔ f s ∈ grp f s := by
  rw [reps_len]
  constructor
  · intro h
    exact Classical.byContradiction fun H => by rw [nmb_new f H] at h; omega
  · intro h
    rw [nmb_old f h]
    exact List.idxOf_lt_length_of_mem h
theorem reps_at (f : Nat → Nat) {n s : Nat} (h : s < n) : f ((reps f n).getD (nmb f s) 0) = f s := by
  have h1 := nmb_lt f h
  rw [← reps_len] at h1
  have h2 : ((reps f n).map f).getD (nmb f s) (f 0) = f s := by
    rw [reps_map, nmb_in f h]; exact getD_idxOf (grp_has f h)
  rw [List.getD_eq_getElem?_getD, List.getElem?_map, List.getElem?_eq_getElem h1] at h2
  rw [List.getD_eq_getElem?_getD, List.getElem?_eq_getElem h1]
  exact h2
theorem nmb_reps (f : Nat → Nat) {n j : Nat} (h : j < (reps f n).length) : nmb f ((reps f n).getD j 0) = j := by
  have hm : (reps f n).getD j 0 ∈ reps f n := getD_mem h
  rw [nmb_in f (reps_lt f n hm)]
  have hj : j < (grp f n).length := by rw [← reps_len]; exact h
  have h2 : (grp f n)[j] = f ((reps f n).getD j 0) := by
    have h3 : (grp f n)[j]? = some (f ((reps f n).getD j 0)) := by
      rw [← reps_map, List.getElem?_map, List.getD_eq_getElem?_getD, List.getElem?_eq_getElem h]; rfl
    rw [List.getElem?_eq_getElem hj] at h3
    exact Option.some.inj h3
  rw [← h2]
  have h4 := List.getElem_idxOf (x := (grp f n)[j]) (xs := grp f n) (List.idxOf_lt_length_of_mem (List.getElem_mem hj))
  exact (List.getElem_inj (grp_nodup f n)).1 h4

/-- The rows of the machine of classes. -/
def qR (nx : List (List Int)) (i : Nat) (f : Nat → Nat) (s : Nat) : List Int := (List.range i).map fun a => ((nmb f (nN nx s a) : Nat) : Int)
theorem qR_len (nx : List (List Int)) (i : Nat) (f : Nat → Nat) (s : Nat) : (qR nx i f s).length = i := by simp [qR]
theorem qR_at {nx : List (List Int)} {i : Nat} {f : Nat → Nat} {s a : Nat} (ha : a < i) : (qR nx i f s).getD a 0 = ((nmb f (nN nx s a) : Nat) : Int) := by
  unfold qR; simp [List.getD, ha]
/-- A row while it is renumbered. -/
def qmid (nx : List (List Int)) (i : Nat) (f : Nat → Nat) (s a : Nat) : List Int := (qR nx i f s).take a ++ (nx.getD s []).drop a
theorem qmid_zero (nx : List (List Int)) (i : Nat) (f : Nat → Nat) (s : Nat) : qmid nx i f s 0 = nx.getD s [] := by simp [qmid]
theorem qmid_all {nx : List (List Int)} {i : Nat} {f : Nat → Nat} {s : Nat} (h : (nx.getD s []).length = i) : qmid nx i f s i = qR nx i f s := by
  unfold qmid; rw [List.take_of_length_le (by rw [qR_len]; exact Nat.le_refl _), List.drop_eq_nil_of_le (by omega), List.append_nil]
theorem qmid_len {nx : List (List Int)} {i : Nat} {f : Nat → Nat} {s a : Nat} (h : (nx.getD s []).length = i) (ha : a ≤ i) : (qmid nx i f s a).length = i := by
  unfold qmid; rw [List.length_append, List.length_take, List.length_drop, qR_len, h]; omega
theorem qmid_get {nx : List (List Int)} {i : Nat} {f : Nat → Nat} {s a m : Nat} (ha : a ≤ i) : (qmid nx i f s a)[m]? = if m < a then (qR nx i f s)[m]? else (nx.getD s [])[m]? := by
  unfold qmid
  have hl : ((qR nx i f s).take a).length = a := by rw [List.length_take, qR_len]; omega
  by_cases h : m < a
  · rw [if_pos h, List.getElem?_append_left (by omega), List.getElem?_take, if_pos h]
  · rw [if_neg h, List.getElem?_append_right (by omega), List.getElem?_drop, hl, show a + (m - a) = m by omega]
theorem qmid_at {nx : List (List Int)} {i : Nat} {f : Nat → Nat} {s a : Nat} (ha : a < i) : (qmid nx i f s a).getD a 0 = (nx.getD s []).getD a 0 := by
  rw [List.getD_eq_getElem?_getD, qmid_get (by omega), if_neg (by omega), ← List.getD_eq_getElem?_getD]
theorem qmid_set {nx : List (List Int)} {i : Nat} {f : Nat → Nat} {s a : Nat} (h : (nx.getD s []).length = i) (ha : a < i) : (qmid nx i f s a).set a ((nmb f (nN nx s a) : Nat) : Int) = qmid nx i f s (a + 1) := by
  apply List.ext_getElem?
  intro m
  have ht : (qR nx i f s)[a]? = some ((nmb f (nN nx s a) : Nat) : Int) := by
    have := qR_at (nx := nx) (f := f) (s := s) ha
    rw [List.getD_eq_getElem?_getD, List.getElem?_eq_getElem (by rw [qR_len]; exact ha)] at this
    rw [List.getElem?_eq_getElem (by rw [qR_len]; exact ha)]
    exact congrArg some this
  rw [List.getElem?_set, qmid_get (by omega), qmid_get (by omega), qmid_len h (by omega)]
  by_cases e : a = m
  · subst e
    rw [if_pos rfl, if_pos ha, if_pos (by omega), ht]
  · rw [if_neg e]
    by_cases e2 : m < a
    · rw [if_pos e2, if_pos (by omega)]
    · rw [if_neg e2, if_neg (by omega)]
/-- The tables of the machine of classes. -/
def qN (nx : List (List Int)) (i : Nat) (f : Nat → Nat) (s : Nat) : List (List Int) := (reps f s).map (qR nx i f)
def qO (ot : List (List Int)) (f : Nat → Nat) (s : Nat) : List (List Int) := (reps f s).map fun s => ot.getD s []
theorem qN_in {nx : List (List Int)} {i : Nat} {f : Nat → Nat} {s : Nat} (h : f s ∈ grp f s) : qN nx i f (s + 1) = qN nx i f s := by unfold qN; rw [reps_in h]
theorem qO_in {ot : List (List Int)} {f : Nat → Nat} {s : Nat} (h : f s ∈ grp f s) : qO ot f (s + 1) = qO ot f s := by unfold qO; rw [reps_in h]
theorem qN_out {nx : List (List Int)} {i : Nat} {f : Nat → Nat} {s : Nat} (h : ¬ f s ∈ grp f s) : qN nx i f (s + 1) = qN nx i f s ++ [qR nx i f s] := by unfold qN; rw [reps_out h, List.map_append]; rfl
theorem qO_out {ot : List (List Int)} {f : Nat → Nat} {s : Nat} (h : ¬ f s ∈ grp f s) : qO ot f (s + 1) = qO ot f s ++ [ot.getD s []] := by unfold qO; rw [reps_out h, List.map_append]; rfl
theorem qN_len (nx : List (List Int)) (i : Nat) (f : Nat → Nat) (s : Nat) : (qN nx i f s).length = (reps f s).length := by simp [qN]
theorem qO_len (ot : List (List Int)) (f : Nat → Nat) (s : Nat) : (qO ot f s).length = (reps f s).length := by simp [qO]
theorem reps_le (f : Nat → Nat) (s : Nat) : (reps f s).length ≤ s := by rw [reps_len]; exact grp_len f s
end Go.Proofs.Ytdedgpgdmnfijaa
end

section
/- The machine of classes: the walk. -/
namespace Go.Proofs.Ytdedgpgdmnfijaa
open Go.RowKit

set_option maxHeartbeats 4000000 in
set_option maxRecDepth 100000 in
theorem pquot (i st n : Nat) (A B C : Option Addr) (c d cc : Nat) (nx ot : List (List Int)) (f : Nat → Nat) (w : World) (hx : Lists w A n nx) (ho : Lists w B n ot) (hM : Mok i st n nx ot) (hc : Ints w C n (zs (num f n))) :
    Calls Try.prog 41 #[.agg #[.int .i64 i, .int .i64 st, .slice A n c, .slice B n d], .slice C n cc] w fun e w' => ∃ A' c' B' d',
      e = .returned (.agg #[.int .i64 i, .int .i64 (nmb f st : Nat), .slice A' (reps f n).length c', .slice B' (reps f n).length d']) ∧
      OwnedL w' w.heap.size (.slice A' (reps f n).length c') (qN nx i f n) ∧ OwnedL w' w.heap.size (.slice B' (reps f n).length d') (qO ot f n) ∧ Below w.heap.size w w' := by
  have hn := hx.2.1
  have hn128 := hM.n2
  have hst := hM.st
  have hlo := Lib.hid ho
  obtain ⟨g, hg⟩ : ∃ g, g = w.heap.size := ⟨_, rfl⟩
  obtain ⟨w1, hw1⟩ : ∃ w1, w1 = w.alloc (.cells #[.int .i64 i, .int .i64 st, .slice A n c, .slice B n d] 24) := ⟨_, rfl⟩
  have hb1 : Below w.heap.size w w1 := by rw [hw1]; exact alloc_below _ _
  have hz1 : w1.heap.size = g + 1 := by rw [hw1, hg]; simp
  have hB1 : Mblk w1 g (.int .i64 i) (.int .i64 st) (.slice A n c) (.slice B n d) := by rw [hw1, hg]; exact heap_alloc_new _ _
  obtain ⟨w2, hw2⟩ : ∃ w2, w2 = w1.alloc (.cells #[.int .i64 0, .int .i64 0, .slice none 0 0, .slice none 0 0] 24) := ⟨_, rfl⟩
  have hb2 : Below w1.heap.size w1 w2 := by rw [hw2]; exact alloc_below _ _
  have hz2 : w2.heap.size = g + 2 := by rw [hw2]; simp; omega
  have hR2 : Mblk w2 (g + 1) (.int .i64 0) (.int .i64 0) (.slice none 0 0) (.slice none 0 0) := by rw [hw2, ← hz1]; exact heap_alloc_new _ _
  have hB2 := hB1.kept hb2 (show g < w1.heap.size by omega)
  have hbw2 : Below w.heap.size w w2 := bt hb1 hb2
  have HW : Hid (w2 = (w.alloc (.cells #[.int .i64 i, .int .i64 st, .slice A n c, .slice B n d] 24)).alloc (.cells #[.int .i64 0, .int .i64 0, .slice none 0 0, .slice none 0 0] 24)) := Lib.hid (by rw [hw2, hw1])
  have HG := Lib.hid hg
  have HZ2 := Lib.hid hz2
  have HB2 := Lib.hid hB2
  have HR2 := Lib.hid hR2
  obtain ⟨bc, oc, rfl, hbc, hcc⟩ := hc.at_ hst
  rw [zs_at, num_at f hst] at hcc
  have hcs := (hbw2.cell (p := ⟨bc, oc + st, none⟩) hbc).trans hcc
  obtain ⟨k0, k1, k2, k3, _⟩ := hB2.cells
  have j0 : (0 : Int) ≤ (st : Int) := by omega
  have j1 : (st : Int) < (n : Int) := by omega
  clear hw1 hw2 hz1 hb1 hb2 hB1 hR2 hg hB2 hcc hz2
  go_enter Try.func41, Try.ntmps41
  go_wp2_with fail
  rw [← HW.out]
  try rw [← HG.out]
  have n1 := World.new_ne w2 _ k0
  have n2 := World.new_ne w2 _ hcs
  go_region_held3 (fun w' => w'.cell? ⟨g, 0, none⟩ = some (.int .i64 i) ∧ w'.cell? ⟨g, 1, none⟩ = some (.int .i64 st) ∧ w'.cell? ⟨bc, oc + st, none⟩ = some (.int .i64 (nmb f st : Nat))) (go_keep) (fail)
  go_wp2
  obtain ⟨gT, hgT⟩ : ∃ gT, gT = w2.heap.size := ⟨_, rfl⟩
  have HT0 := Lib.hid (show Mblk ((w2.alloc (.cells #[.int .i64 i, .int .i64 (nmb f st : Nat), .slice none 0 0, .slice none 0 0] 24)).drew) gT (.int .i64 i) (.int .i64 (nmb f st : Nat)) (.slice none 0 0) (.slice none 0 0) by rw [hgT]; exact heap_alloc_new w2 _)
  have HL0 := Lib.hid (show Below gT w2 ((w2.alloc (.cells #[.int .i64 i, .int .i64 (nmb f st : Nat), .slice none 0 0, .slice none 0 0] 24)).drew) by rw [hgT]; exact below_drewN (alloc_below w2 _) 1)
  have hgT2 : g + 2 ≤ gT := by rw [hgT, HZ2.out]; exact Nat.le_refl _
  rw [← hgT]
  have HT := Lib.hid hgT
  obtain ⟨y0, hy0⟩ : ∃ y : Int, y = (nmb f st : Nat) := ⟨_, rfl⟩
  have HY0 := Lib.hid hy0
  rw [← hy0] at HT0 HL0 ⊢
  clear hgT n1 n2 k0 k1 k2 k3 hcs hy0
  go_loopw [20] (fun kv wr => ∃ (s : Nat) (AN AO : Option Addr) (cN cO : Nat), s ≤ n ∧ kv = .int .i64 s ∧ Below gT w2 wr ∧ Mblk wr gT (.int .i64 i) (.int .i64 y0) (.slice AN (reps f s).length cN) (.slice AO (reps f s).length cO) ∧
    OwnedL wr gT (.slice AN (reps f s).length cN) (qN nx i f s) ∧ OwnedL wr gT (.slice AO (reps f s).length cO) (qO ot f s) ∧ Apart (.slice AN (reps f s).length cN) (.slice AO (reps f s).length cO)) (fun kv _ => n - (intOf kv).toNat)
  case atStart => exact ⟨0, none, none, 0, 0, Nat.zero_le _, rfl, HL0.out, HT0.out, OwnedL.nil _ _, OwnedL.nil _ _, Apart.nil _⟩
  case round =>
    obtain ⟨s, AN, AO, cN, cO, hs, rfl, hbr, hT, hLN, hLO, hap⟩ := hrel
    have hbW : Below w.heap.size w wr := hbw2.trans (hbr.mono (by rw [← HG.out]; omega))
    have hzo : gT + 1 ≤ wr.heap.size := heap_lt hT
    have hbox := HB2.out.kept hbr (show g < gT by omega)
    have hkl := reps_le f s
    have HTT := Lib.hid hT
    have HLN := Lib.hid hLN
    have HLO := Lib.hid hLO
    have HAP := Lib.hid hap
    have HBR := Lib.hid hbr
    have HBX := Lib.hid hbox
    clear hT hLN hLO hap hbr hbox
    by_cases hlt : s < n
    · have hcw := hc.at_ hlt
      obtain ⟨bc', oc', e, hbc', hcc⟩ := hcw
      cases e
      rw [zs_at, num_at f hlt] at hcc
      have hcs := (hbW.cell (p := ⟨bc, oc + s, none⟩) hbc).trans hcc
      obtain ⟨c0, c1', c2', c3', f0, f1, f2, f3⟩ := HTT.out.cells
      have hsk := nmb_skip f s
      by_cases hin : f s ∈ grp f s
      · have hlt2 := hsk.2 hin
        have HQ1 := Lib.hid (qN_in (nx := nx) (i := i) hin)
        have HQ2 := Lib.hid (qO_in (ot := ot) hin)
        have HQ3 := Lib.hid (reps_in hin)
        clear hsk hin hcc
        generalize nmb f s = v at hcs hlt2
        go_wp2
        go_roundw
        case rel => exact ⟨s + 1, AN, AO, cN, cO, by omega, by go_num, HBR.out, by rw [HQ3.out]; exact HTT.out, by rw [HQ3.out, HQ1.out]; exact HLN.out, by rw [HQ3.out, HQ2.out]; exact HLO.out, by rw [HQ3.out]; exact HAP.out⟩
        case measure => simp [intOf]; omega
      · have hlt2 : ¬ nmb f s < (reps f s).length := fun H => hin (hsk.1 H)
        have HQ1 := Lib.hid (qN_out (nx := nx) (i := i) hin)
        have HQ2 := Lib.hid (qO_out (ot := ot) hin)
        have HQ3 := Lib.hid (show (reps f (s + 1)).length = (reps f s).length + 1 by rw [reps_out hin, List.length_append]; rfl)
        clear hsk hin hcc
        generalize nmb f s = v at hcs hlt2
        have hm1 : (reps f s).length < 1759218604441 := by omega
        generalize hm0 : (reps f s).length = m at *
        have HM0 := Lib.hid hm0
        clear hm0
        obtain ⟨g1, p1, A3, n1, c3, rfl, hg1, hd1, hr1⟩ := hx.at_ hlt
        obtain ⟨g2, p2, A4, n2, c4, rfl, hg2, hd2, hr2⟩ := hlo.out.at_ hlt
        have hi1 := (hM.row s hlt).1
        have hi2 := (hM.row s hlt).2.1
        have hl1 := hr1.1
        have hl2 := hr2.1
        obtain rfl : n1 = i := by omega
        obtain rfl : n1 = n2 := by omega
        have e1 := (hbW.cell (p := ⟨g1, p1 + s, none⟩) hg1).trans hd1
        have hi64 := hM.i2
        obtain ⟨k0, k1, k2, k3, _⟩ := HBX.out.cells
        clear hl1 hl2 hi2 hd1
        have HI1 := Lib.hid hi1
        clear hi1
        go_wp2_with fail
        refine (sclone _ _ _ _ _ (hr1.below hbW)).mono ?_
        rintro e w5 ⟨A5, c5, rfl, ho5, b5⟩
        have HO5 := Lib.hid ho5
        have HB5 := Lib.hid b5
        clear ho5 b5
        go_wp2
        obtain ⟨wc, rfl⟩ : ∃ wc : World, wc = wr := ⟨_, rfl⟩
        clear k0 k1 k2 k3 e1 c0 c1' c2' c3' f0 f1 f2 f3 hcs
        go_loopw [38] (fun av wq => ∃ a : Nat, a ≤ n1 ∧ av = .int .i64 a ∧ Owned wq wc.heap.size (.slice A5 n1 c5) (qmid nx n1 f s a) ∧ Below wc.heap.size wc wq) (fun av _ => n1 - (intOf av).toNat)
        case atStart => exact ⟨0, Nat.zero_le _, rfl, by rw [qmid_zero]; exact HO5.out, HB5.out⟩
        case round =>
          obtain ⟨a, ha, rfl, ho6, b6⟩ := hrel
          by_cases hla : a < n1
          · have hset := Lib.hid (qmid_set (f := f) HI1.out hla)
            have hat := Lib.hid ((qmid_at (nx := nx) (f := f) (s := s) hla).trans (hM.nN_eq hlt hla))
            have hml := Lib.hid (qmid_len (nx := nx) (f := f) (s := s) HI1.out (Nat.le_of_lt hla))
            have hmi : (qmid nx n1 f s a).length ≤ 17592186044416 := by rw [hml.out]; omega
            obtain ⟨g5, e5, hg5, hg5', hfz5⟩ := ho6.head (by omega)
            subst e5
            obtain ⟨bq, oq, eq, hbq, hcq⟩ := (ho6.ints hmi).at_ hla
            cases eq
            rw [hat.out, Nat.zero_add] at hcq
            have ht := hM.nN_lt hlt hla
            obtain ⟨bn, on, en, hbn, hcn⟩ := hc.at_ ht
            cases en
            rw [zs_at, num_at f ht] at hcn
            have hcn := ((hbW.trans (b6.mono (by have := hbW.size; exact this))).cell (p := ⟨bc, oc + nN nx s a, none⟩) hbc).trans hcn
            have hst := ho6.stored a ((nmb f (nN nx s a) : Nat) : Int)
            rw [hset.out] at hst
            have hbs := Lib.hid (b6.setCell (p := ⟨g5, a, none⟩) hg5 (.int .i64 ((nmb f (nN nx s a) : Nat) : Int)))
            have HSTT := Lib.hid hst
            have hf := hfz5 a
            clear hst ho6 b6 hfz5
            generalize nN nx s a = t at hcq ht hcn hset hbs HSTT
            generalize ((nmb f t : Nat) : Int) = tv at hcn hbs HSTT
            go_wp2
            go_roundw
            case rel => exact ⟨a + 1, by omega, by go_num, HSTT.out, hbs.out⟩
            case measure => simp [intOf]; omega
          · obtain rfl : a = n1 := by omega
            rw [qmid_all HI1.out] at ho6
            have hTq := HTT.out.kept b6 (heap_lt HTT.out)
            obtain ⟨c0, c1', c2', c3', f0, f1, f2, f3⟩ := hTq.cells
            have hLq := HLN.out.kept b6
            have hLOq := HLO.out.kept b6
            have ho6 := ho6.lower (base' := gT) (by omega)
            have hzq := b6.size
            have hgq : gT ≤ wr.heap.size := by omega
            have hkN : (qN nx a f s).length = m := by rw [qN_len]; exact HM0.out
            have hkO : (qO ot f s).length = m := by rw [qO_len]; exact HM0.out
            obtain ⟨AN2, cN2, w7, hrn, hLN7, b7, hk7, hkb7, hmv7⟩ := run_append_list hLq ho6 hgq (by rw [hkN]; omega)
            rw [hkN] at hrn hLN7 hmv7
            rw [← HQ1.out] at hLN7
            have hT7 := hTq.keptT (hk7 _ (by decide))
            obtain ⟨y0, y1, y2, y3, z0, z1, z2, z3⟩ := hT7.cells
            have hLO7 := hLOq.keptB hkb7 HAP.out (hk7 _ (by decide))
            have hAP7 := HAP.out.moved hmv7 hLOq
            have hb7 : Below gT w2 w7 := HBR.out.trans ((b6.mono (by omega)).trans b7)
            have hw8 := fun (u : Value) => hb7.setCell (p := ⟨gT, 2, none⟩) (Nat.le_refl _) u
            have h81 := hT7.set2 (.slice AN2 (m + 1) cN2)
            have h82 := hLN7.offM (j := 2) hT7 (.slice AN2 (m + 1) cN2)
            have h83 := hLO7.offM (j := 2) hT7 (.slice AN2 (m + 1) cN2)
            have h84 := hw8 (.slice AN2 (m + 1) cN2)
            have e2 := (hbW.cell (p := ⟨g2, p2 + s, none⟩) hg2).trans hd2
            have HH := Lib.hid (And.intro h81 (And.intro h82 (And.intro h83 h84)))
            clear hT7 hLN7 hLO7 hb7 hw8 h81 h82 h83 h84 hTq hLq hLOq ho6 hk7 hkb7 hmv7 b7 b6 e2 hkN
            go_wp2_with (at_builtin; refine Lib.wpList_append_run _ rfl _ _ _ _ rfl _ _ rfl rfl _ _ hrn ?_)
            obtain ⟨h81, h82, h83, h84⟩ := HH.out
            generalize w7.setCell ⟨gT, 2, none⟩ (.slice AN2 (m + 1) cN2) = w8 at h81 h82 h83 h84 ⊢
            clear HH y0 y1 y2 y3 z0 z1 z2 z3 hrn c0 c1' c2' c3' f0 f1 f2 f3
            obtain ⟨c0, c1', c2', c3', f0, f1, f2, f3⟩ := h81.cells
            have hbox8 := HB2.out.kept h84 (show g < gT by omega)
            obtain ⟨k0, k1, k2, k3, _⟩ := hbox8.cells
            have hbW8 : Below w.heap.size w w8 := hbw2.trans (h84.mono (by rw [← HG.out]; omega))
            have e2 := (hbW8.cell (p := ⟨g2, p2 + s, none⟩) hg2).trans hd2
            have hg8 : gT < w8.heap.size := heap_lt h81
            have H81 := Lib.hid h81
            have H82 := Lib.hid h82
            have H83 := Lib.hid h83
            have H84 := Lib.hid h84
            have HAP7 := Lib.hid hAP7
            clear h81 h82 h83 h84 hAP7
            go_region_law (first
              | (refine step_append_run rfl _ _ _ _ rfl _ _ rfl rfl _ _ (HF.out 0).1 ?_)
              | (go_simp; go_at_call 59; refine (sclone _ _ _ _ _ (hr2.below (below_drewN hbW8 _))).mono ?_; rintro e w9 ⟨A9, c9, rfl, ho9, b9⟩; obtain ⟨hT9, F, hF⟩ := trim_step H84.out H81.out H82.out H83.out HAP7.out _ b9 ho9 (by omega) hg8; obtain ⟨c0, c1', c2', c3', f0, f1, f2, f3⟩ := hT9.cells; have ca := ((alloc_below w9 (.cells #[.slice A9 a c9] 33)).cell (p := ⟨gT, 3, none⟩) (heap_lt hT9)).trans c3'; have HF := Lib.hid hF; have cF := fun q => (hF q).2.1.cells.2.2.2.1; have fF := fun q => (hF q).2.1.cells.2.2.2.2.2.2.2; clear hT9 hF ho9 b9))
            all_goals
              go_wp2
              go_roundw
              case rel => exact ⟨s + 1, AN2, (F 0).1.1, cN2, (F 0).1.2, by omega, by go_num, (HF.out 0).2.2.2.2.2.setCell (p := ⟨gT, 3, none⟩) (Nat.le_refl _) _, by rw [HQ3.out]; exact (HF.out 0).2.1.set3 _, by rw [HQ3.out]; exact (HF.out 0).2.2.1.offM (HF.out 0).2.1 _, by rw [HQ2.out, HQ3.out]; exact (HF.out 0).2.2.2.1.offM (HF.out 0).2.1 _, by rw [HQ3.out]; exact (HF.out 0).2.2.2.2.1⟩
              case measure => simp [intOf]; omega
    · obtain rfl : s = n := by omega
      obtain ⟨c0, c1', c2', c3', _⟩ := HTT.out.cells
      have hRr := HR2.out.kept HBR.out (show g + 1 < gT by omega)
      obtain ⟨ya, y1, y2, y3, z0, z1, z2, z3⟩ := hRr.cells
      have hN9 := HLN.out
      have hO9 := HLO.out
      have hl : ∀ k, w.heap.size ≤ (⟨g + 1, k, none⟩ : Addr).block := fun k => by rw [← HG.out]; exact Nat.le_succ _
      have hfb := Lib.hid (((((hbW.setCell (hl 0) (.int .i64 i)).setCell (hl 1) (.int .i64 y0)).setCell (hl 2) (.slice AN (reps f s).length cN)).setCell (hl 3) (.slice AO (reps f s).length cO)))
      have hR4 := Lib.hid (hRr.set4 (.int .i64 i) (.int .i64 y0) (.slice AN (reps f s).length cN) (.slice AO (reps f s).length cO))
      have hq1 := hRr
      have hq2 : Mblk (wr.setCell ⟨g + 1, 0, none⟩ (.int .i64 i)) (g + 1) _ _ _ _ := heap_setCell_same wr _ 0 _ _ _ hq1
      have hq3 : Mblk ((wr.setCell ⟨g + 1, 0, none⟩ (.int .i64 i)).setCell ⟨g + 1, 1, none⟩ (.int .i64 y0)) (g + 1) _ _ _ _ := heap_setCell_same _ _ 1 _ _ _ hq2
      have hq4 : Mblk (((wr.setCell ⟨g + 1, 0, none⟩ (.int .i64 i)).setCell ⟨g + 1, 1, none⟩ (.int .i64 y0)).setCell ⟨g + 1, 2, none⟩ (.slice AN (reps f s).length cN)) (g + 1) _ _ _ _ := heap_setCell_same _ _ 2 _ _ _ hq3
      have hN10 := Lib.hid (((((hN9.offM hq1 (.int .i64 i) (j := 0)).offM hq2 (.int .i64 y0) (j := 1)).offM hq3 (.slice AN (reps f s).length cN) (j := 2)).offM hq4 (.slice AO (reps f s).length cO) (j := 3)).lower (base' := w.heap.size) (by rw [← HG.out]; omega))
      have hO10 := Lib.hid (((((hO9.offM hq1 (.int .i64 i) (j := 0)).offM hq2 (.int .i64 y0) (j := 1)).offM hq3 (.slice AN (reps f s).length cN) (j := 2)).offM hq4 (.slice AO (reps f s).length cO) (j := 3)).lower (base' := w.heap.size) (by rw [← HG.out]; omega))
      clear hRr hq1 hq2 hq3 hq4 hN9 hO9 hl hbW
      go_wp2
      (try simp only [Exit.inBlock, Exit.then])
      refine bodyPost_ret (results_cell_row (by rfl) _ _ (g + 1) 24 _ (0, 0) _ rfl hR4.out Try.underlying24 rfl (by kernel_rfl)) rfl ?_
      exact ⟨AN, cN, AO, cO, by rw [HY0.out], hN10.out, hO10.out, hfb.out⟩
end Go.Proofs.Ytdedgpgdmnfijaa
end

section
/- Partition, Classes, Depth. -/
namespace Go.Proofs.Ytdedgpgdmnfijaa
open Go.RowKit

theorem vld_i64 (i st : Int) (nx ot : List (List Int)) (_ : ¬ vld i st nx ot = 0) : (vld i st nx ot != 0) = true := by simpa
set_option maxHeartbeats 1000000 in
theorem ppart_bad (i st : Int) (A B : Option Addr) (n c m d : Nat) (nx ot : List (List Int)) (k : Int) (w : World) (hx : Lists w A n nx) (ho : Lists w B m ot) (hv : ¬ vld i st nx ot = 0) :
    Calls Try.prog 38 #[.agg #[.int .i64 i, .int .i64 st, .slice A n c, .slice B m d], .int .i64 k] w fun e w' => e = .returned (.tuple #[.slice none 0 0, .int .i64 (vld i st nx ot)]) ∧ Below w.heap.size w w' := by
  have hb0 := alloc_below w (.cells #[.int .i64 i, .int .i64 st, .slice A n c, .slice B m d] 24)
  have hne : (vld i st nx ot != 0) = true := by simpa using hv
  go_enter Try.func38, Try.ntmps38
  go_wp2_with fail
  refine (pvalid _ _ _ _ _ _ _ _ _ _ _ (hx.below hb0) (ho.below hb0)).mono ?_
  rintro e w1 ⟨rfl, b1⟩
  have b1 := bt hb0 b1
  generalize hE : vld i st nx ot = E at hne hv
  have HE := Lib.hid hE
  clear hv hE
  go_wp2
  go_ret2
  exact ⟨by rw [HE.out]; rfl, b1⟩
set_option maxHeartbeats 1000000 in
theorem pdep_bad (i st : Int) (A B : Option Addr) (n c m d : Nat) (nx ot : List (List Int)) (w : World) (hx : Lists w A n nx) (ho : Lists w B m ot) (hv : ¬ vld i st nx ot = 0) :
    Calls Try.prog 39 #[.agg #[.int .i64 i, .int .i64 st, .slice A n c, .slice B m d]] w fun e w' => e = .returned (.tuple #[.int .i64 0, .int .i64 (vld i st nx ot)]) ∧ Below w.heap.size w w' := by
  have hb0 := alloc_below w (.cells #[.int .i64 i, .int .i64 st, .slice A n c, .slice B m d] 24)
  have hne : (vld i st nx ot != 0) = true := by simpa using hv
  go_enter Try.func39, Try.ntmps39
  go_wp2_with fail
  refine (pvalid _ _ _ _ _ _ _ _ _ _ _ (hx.below hb0) (ho.below hb0)).mono ?_
  rintro e w1 ⟨rfl, b1⟩
  have b1 := bt hb0 b1
  generalize hE : vld i st nx ot = E at hne hv
  have HE := Lib.hid hE
  clear hv hE
  go_wp2
  go_ret2
  exact ⟨by rw [HE.out]; rfl, b1⟩
theorem mealy_box (w : World) (a b c d : Value) : Mblk (w.alloc (.cells #[a, b, c, d] 24)) w.heap.size a b c d := heap_alloc_new _ _
set_option maxHeartbeats 1000000 in
theorem ppart_ok (i st n : Nat) (A B : Option Addr) (c d : Nat) (nx ot : List (List Int)) (k : Int) (w : World) (hx : Lists w A n nx) (ho : Lists w B n ot) (hM : Mok i st n nx ot) (hk : k ≤ 9223372036854775807) :
    Calls Try.prog 38 #[.agg #[.int .i64 i, .int .i64 st, .slice A n c, .slice B n d], .int .i64 k] w fun e w' => ∃ A' c', e = .returned (.tuple #[.slice A' n c', .int .i64 0]) ∧ Owned w' w.heap.size (.slice A' n c') (zs (pt nx ot i n (rounds_ nx ot i n k))) ∧ Below w.heap.size w w' := by
  have hb0 := alloc_below w (.cells #[.int .i64 i, .int .i64 st, .slice A n c, .slice B n d] 24)
  have hB := mealy_box w (.int .i64 i) (.int .i64 st) (.slice A n c) (.slice B n d)
  have HB := Lib.hid hB
  have HV := Lib.hid hM.vld
  clear hB
  go_enter Try.func38, Try.ntmps38
  go_wp2_with fail
  refine (pvalid _ _ _ _ _ _ _ _ _ _ _ (hx.below hb0) (ho.below hb0)).mono ?_
  rintro e w1 ⟨rfl, b1⟩
  rw [HV.out]
  obtain ⟨k0, k1, k2, k3, _⟩ := (HB.out.kept b1 (by simp)).cells
  have b1 := bt hb0 b1
  go_wp2_with fail
  refine (ppartn i st n A B c d nx ot k _ (hx.below b1) (ho.below b1) hM hk).mono ?_
  rintro e w2 ⟨A', c', rfl, hO, b2⟩
  have HO := Lib.hid (hO.lower (base' := w.heap.size) b1.size)
  have b2 := bt b1 b2
  clear k0 k1 k2 k3 hO
  go_wp2
  go_ret2
  exact ⟨A', c', rfl, HO.out, b2⟩
theorem rounds_max {i st n : Nat} {nx ot : List (List Int)} (hM : Mok i st n nx ot) : rounds_ nx ot i n 9223372036854775807 = dep nx ot i n := by
  have h1 := hM.dep_lt
  have h2 := hM.n2
  unfold rounds_
  rw [if_neg (by omega)]
set_option maxHeartbeats 1000000 in
theorem pdep_ok (i st n : Nat) (A B : Option Addr) (c d : Nat) (nx ot : List (List Int)) (w : World) (hx : Lists w A n nx) (ho : Lists w B n ot) (hM : Mok i st n nx ot) :
    Calls Try.prog 39 #[.agg #[.int .i64 i, .int .i64 st, .slice A n c, .slice B n d]] w fun e w' => e = .returned (.tuple #[.int .i64 (dep nx ot i n : Nat), .int .i64 0]) ∧ Below w.heap.size w w' := by
  have hb0 := alloc_below w (.cells #[.int .i64 i, .int .i64 st, .slice A n c, .slice B n d] 24)
  have hB := mealy_box w (.int .i64 i) (.int .i64 st) (.slice A n c) (.slice B n d)
  have HB := Lib.hid hB
  have HV := Lib.hid hM.vld
  have HR := Lib.hid (rounds_max hM)
  clear hB
  go_enter Try.func39, Try.ntmps39
  go_wp2_with fail
  refine (pvalid _ _ _ _ _ _ _ _ _ _ _ (hx.below hb0) (ho.below hb0)).mono ?_
  rintro e w1 ⟨rfl, b1⟩
  rw [HV.out]
  obtain ⟨k0, k1, k2, k3, _⟩ := (HB.out.kept b1 (by simp)).cells
  have b1 := bt hb0 b1
  go_wp2_with fail
  refine (ppartn i st n A B c d nx ot _ _ (hx.below b1) (ho.below b1) hM (by omega)).mono ?_
  rintro e w2 ⟨A', c', rfl, hO, b2⟩
  rw [HR.out]
  have b2 := bt b1 b2
  clear k0 k1 k2 k3 hO
  go_wp2
  go_ret2
  exact ⟨rfl, b2⟩
set_option maxHeartbeats 1000000 in
theorem pcls_bad (i st : Int) (A B : Option Addr) (n c m d : Nat) (nx ot : List (List Int)) (w : World) (hx : Lists w A n nx) (ho : Lists w B m ot) (hv : ¬ vld i st nx ot = 0) :
    Calls Try.prog 34 #[.agg #[.int .i64 i, .int .i64 st, .slice A n c, .slice B m d]] w fun e w' => e = .returned (.tuple #[.slice none 0 0, .int .i64 (vld i st nx ot)]) ∧ Below w.heap.size w w' := by
  have hb0 := alloc_below w (.cells #[.int .i64 i, .int .i64 st, .slice A n c, .slice B m d] 24)
  go_enter Try.func34, Try.ntmps34
  go_wp2_with fail
  refine (ppart_bad _ _ _ _ _ _ _ _ _ _ _ _ (hx.below hb0) (ho.below hb0) hv).mono ?_
  rintro e w1 ⟨rfl, b1⟩
  have b1 := bt hb0 b1
  generalize hE : vld i st nx ot = E at hv
  have HE := Lib.hid hE
  clear hv hE
  go_wp2
  go_ret2
  exact ⟨by rw [HE.out]; rfl, b1⟩
set_option maxHeartbeats 1000000 in
theorem pcls_ok (i st n : Nat) (A B : Option Addr) (c d : Nat) (nx ot : List (List Int)) (w : World) (hx : Lists w A n nx) (ho : Lists w B n ot) (hM : Mok i st n nx ot) :
    Calls Try.prog 34 #[.agg #[.int .i64 i, .int .i64 st, .slice A n c, .slice B n d]] w fun e w' => ∃ A' c', e = .returned (.tuple #[.slice A' n c', .int .i64 0]) ∧ Owned w' w.heap.size (.slice A' n c') (zs (pt nx ot i n (dep nx ot i n))) ∧ Below w.heap.size w w' := by
  have hb0 := alloc_below w (.cells #[.int .i64 i, .int .i64 st, .slice A n c, .slice B n d] 24)
  have HR := Lib.hid (rounds_max hM)
  go_enter Try.func34, Try.ntmps34
  go_wp2_with fail
  refine (ppart_ok i st n A B c d nx ot _ _ (hx.below hb0) (ho.below hb0) hM (by omega)).mono ?_
  rintro e w1 ⟨A', c', rfl, hO, b1⟩
  rw [HR.out] at hO
  have HO := Lib.hid (hO.lower (base' := w.heap.size) hb0.size)
  have b1 := bt hb0 b1
  clear hO
  go_wp2
  go_ret2
  exact ⟨A', c', rfl, HO.out, b1⟩
end Go.Proofs.Ytdedgpgdmnfijaa
end

section
/- The reference: Partition, Classes, Depth. -/
namespace Go.Proofs.Ytdedgpgdmnfijaa
open Go.RowKit

theorem Mok.rkey_num {i st n : Nat} {nx ot : List (List Int)} (hM : Mok i st n nx ot) (k : Nat) : num (rkey nx ot (pt nx ot i n k) i) n = pt nx ot i n (k + 1) := by
  refine num_congr fun s t hs ht => ?_
  unfold rkey
  constructor
  · intro h; exact (List.cons.inj h).2
  · intro h
    have h2 : cN nx ot i n (k + 1) s = cN nx ot i n (k + 1) t := by
      unfold cN
      show (num _ n).getD s 0 = (num _ n).getD t 0
      rw [num_at _ hs, num_at _ ht, nmb_eq]; exact h
    have h3 := hM.cN_fine hs ht h2
    unfold cN at h3
    rw [h3, h]
theorem Mok.pt_rounds {i st n : Nat} {nx ot : List (List Int)} (hM : Mok i st n nx ot) {k : Int} {j : Nat} (h1 : (j : Int) ≤ max k 0) (h2 : j ≤ n) (h3 : ¬ ((j : Int) < k ∧ j < n)) : pt nx ot i n j = pt nx ot i n (rounds_ nx ot i n k) := by
  have hd := hM.dep_lt
  unfold rounds_
  split
  · rw [show j = k.toNat by omega]
  · exact hM.pt_all (by omega)
theorem rpart_bad (i st : Int) (A B : Option Addr) (n c m d : Nat) (nx ot : List (List Int)) (k : Int) (w : World) (hx : Lists w A n nx) (ho : Lists w B m ot) (hv : ¬ vld i st nx ot = 0) :
    Calls Try.prog 60 #[.agg #[.int .i64 i, .int .i64 st, .slice A n c, .slice B m d], .int .i64 k] w fun e w' => e = .returned (.tuple #[.slice none 0 0, .int .i64 (vld i st nx ot)]) ∧ Below w.heap.size w w' := by
  have hb0 := alloc_below w (.cells #[.int .i64 i, .int .i64 st, .slice A n c, .slice B m d] 24)
  have hne : (vld i st nx ot != 0) = true := by simpa using hv
  go_enter Try.func60, Try.ntmps60
  go_wp2_with fail
  refine (rvalid _ _ _ _ _ _ _ _ _ _ _ (hx.below hb0) (ho.below hb0)).mono ?_
  rintro e w1 ⟨rfl, b1⟩
  have b1 := bt hb0 b1
  generalize hE : vld i st nx ot = E at hne hv
  have HE := Lib.hid hE
  clear hv hE
  go_wp2
  go_ret2
  exact ⟨by rw [HE.out]; rfl, b1⟩
set_option maxHeartbeats 2000000 in
theorem rpart_ok (i st n : Nat) (A B : Option Addr) (c d : Nat) (nx ot : List (List Int)) (k : Int) (w : World) (hx : Lists w A n nx) (ho : Lists w B n ot) (hM : Mok i st n nx ot) :
    Calls Try.prog 60 #[.agg #[.int .i64 i, .int .i64 st, .slice A n c, .slice B n d], .int .i64 k] w fun e w' => ∃ A' c', e = .returned (.tuple #[.slice A' n c', .int .i64 0]) ∧ Owned w' w.heap.size (.slice A' n c') (zs (pt nx ot i n (rounds_ nx ot i n k))) ∧ Below w.heap.size w w' := by
  have hn := hx.2.1
  have hn2 := hM.n2
  have hb0 := alloc_below w (.cells #[.int .i64 i, .int .i64 st, .slice A n c, .slice B n d] 24)
  have hB := mealy_box w (.int .i64 i) (.int .i64 st) (.slice A n c) (.slice B n d)
  have HB := Lib.hid hB
  have HV := Lib.hid hM.vld
  obtain ⟨R, hR⟩ : ∃ R, R = rounds_ nx ot i n k := ⟨_, rfl⟩
  have HR := Lib.hid (show ∀ j : Nat, (j : Int) ≤ max k 0 → j ≤ n → ¬ ((j : Int) < k ∧ j < n) → pt nx ot i n j = pt nx ot i n R from fun j h1 h2 h3 => by rw [hR]; exact hM.pt_rounds h1 h2 h3)
  rw [← hR]
  clear hB hR
  go_enter Try.func60, Try.ntmps60
  go_wp2_with fail
  refine (rvalid _ _ _ _ _ _ _ _ _ _ _ (hx.below hb0) (ho.below hb0)).mono ?_
  rintro e w1 ⟨rfl, b1⟩
  rw [HV.out]
  have HB1 := Lib.hid (HB.out.kept b1 (by simp))
  obtain ⟨k0, k1, k2, k3, _⟩ := HB1.out.cells
  have hz1 := heap_lt HB1.out
  have b1 := bt hb0 b1
  go_wp2_with (refine wpList_make_ints _ rfl _ _ rfl .i64 .i64 n rfl rfl hn ?_; intro w3 ho3 b3)
  clear k0 k1 k2 k3
  have HB3 := Lib.hid (HB1.out.kept b3 (by omega))
  have hO3 := Lib.hid (ho3.lower (base' := w.heap.size) (by omega))
  have hb3 := bt b1 b3
  have hz3 := b3.size
  clear ho3 b3 HB HB1
  go_wp2
  go_loopw [7, 8] (fun v7 v8 wr => ∃ (j : Nat) (A' : Option Addr) (c' : Nat), v8 = .int .i64 j ∧ v7 = .slice A' n c' ∧ Owned wr w.heap.size (.slice A' n c') (zs (pt nx ot i n j)) ∧ Below w3.heap.size w3 wr ∧ (j : Int) ≤ max k 0 ∧ j ≤ n) (fun _ v8 _ => n - (intOf v8).toNat)
  case atStart => exact ⟨0, _, _, rfl, rfl, by show Owned _ _ _ (zs (List.replicate n 0)); simpa [zs] using hO3.out, Below.refl _ _, by omega, by omega⟩
  case round =>
    obtain ⟨j, C, cc, rfl, rfl, hO, hbr, hjk, hjn⟩ := hrel
    have hzr := hbr.size
    have hbW : Below w.heap.size w wr := hb3.trans (hbr.mono (by omega))
    obtain ⟨k0, k1, k2, k3, _⟩ := (HB3.out.kept hbr (show w.heap.size < w3.heap.size by omega)).cells
    have hI := Owned.ints hO (by rw [zs_len, pt_len]; exact hn)
    have HO := Lib.hid hO
    have HBR := Lib.hid hbr
    clear hO hbr
    by_cases hlt : (j : Int) < k
    · by_cases hjl : j < n
      · have HRF := rfiner i st n A B C c d cc nx ot (pt nx ot i n j) wr (hx.below hbW) (ho.below hbW) hM hI
        rw [hM.rkey_num] at HRF
        have hRF := Lib.hid HRF
        clear HRF
        go_wp2_with fail
        refine hRF.out.mono ?_
        rintro e w4 ⟨A4, c4, rfl, hO4, b4⟩
        have HO4 := Lib.hid (hO4.lower (base' := w.heap.size) (by omega))
        have HB4 := Lib.hid (HBR.out.trans (b4.mono hzr))
        clear hO4 b4 k0 k1 k2 k3 hI
        go_wp2
        go_roundw
        case rel => exact ⟨j + 1, A4, c4, by go_num, rfl, HO4.out, HB4.out, by omega, by omega⟩
        case measure => simp [intOf]; omega
      · have HE := Lib.hid (HR.out j hjk hjn (fun H => hjl H.2))
        have HO9 := Lib.hid (show Owned wr w.heap.size (.slice C n cc) (zs (pt nx ot i n R)) by rw [← HE.out]; exact HO.out)
        clear hI
        go_wp2
        go_ret2
        exact ⟨_, _, rfl, HO9.out, hbW⟩
    · have HE := Lib.hid (HR.out j hjk hjn (fun H => hlt H.1))
      have HO9 := Lib.hid (show Owned wr w.heap.size (.slice C n cc) (zs (pt nx ot i n R)) by rw [← HE.out]; exact HO.out)
      clear hI
      go_wp2
      go_ret2
      exact ⟨_, _, rfl, HO9.out, hbW⟩
end Go.Proofs.Ytdedgpgdmnfijaa
end

section
/- The reference: Classes, Depth. -/
namespace Go.Proofs.Ytdedgpgdmnfijaa
open Go.RowKit

theorem rounds_n {i st n : Nat} {nx ot : List (List Int)} (hM : Mok i st n nx ot) : rounds_ nx ot i n (n : Int) = dep nx ot i n := by
  have h1 := hM.dep_lt
  unfold rounds_
  rw [if_neg (by omega)]
theorem rounds_le {nx ot : List (List Int)} {i n k : Nat} (h : k ≤ dep nx ot i n) : rounds_ nx ot i n (k : Int) = k := by
  unfold rounds_
  rw [if_pos (by omega)]; omega
theorem rcls_bad (i st : Int) (A B : Option Addr) (n c m d : Nat) (nx ot : List (List Int)) (w : World) (hx : Lists w A n nx) (ho : Lists w B m ot) (hv : ¬ vld i st nx ot = 0) :
    Calls Try.prog 42 #[.agg #[.int .i64 i, .int .i64 st, .slice A n c, .slice B m d]] w fun e w' => e = .returned (.tuple #[.slice none 0 0, .int .i64 (vld i st nx ot)]) ∧ Below w.heap.size w w' := by
  have hb0 := alloc_below w (.cells #[.int .i64 i, .int .i64 st, .slice A n c, .slice B m d] 24)
  go_enter Try.func42, Try.ntmps42
  go_wp2_with fail
  refine (rpart_bad _ _ _ _ _ _ _ _ _ _ _ _ (hx.below hb0) (ho.below hb0) hv).mono ?_
  rintro e w1 ⟨rfl, b1⟩
  have b1 := bt hb0 b1
  generalize hE : vld i st nx ot = E at hv
  have HE := Lib.hid hE
  clear hv hE
  go_wp2
  go_ret2
  exact ⟨by rw [HE.out]; rfl, b1⟩
set_option maxHeartbeats 1000000 in
theorem rcls_ok (i st n : Nat) (A B : Option Addr) (c d : Nat) (nx ot : List (List Int)) (w : World) (hx : Lists w A n nx) (ho : Lists w B n ot) (hM : Mok i st n nx ot) :
    Calls Try.prog 42 #[.agg #[.int .i64 i, .int .i64 st, .slice A n c, .slice B n d]] w fun e w' => ∃ A' c', e = .returned (.tuple #[.slice A' n c', .int .i64 0]) ∧ Owned w' w.heap.size (.slice A' n c') (zs (pt nx ot i n (dep nx ot i n))) ∧ Below w.heap.size w w' := by
  have hb0 := alloc_below w (.cells #[.int .i64 i, .int .i64 st, .slice A n c, .slice B n d] 24)
  have HR := Lib.hid (rounds_n hM)
  go_enter Try.func42, Try.ntmps42
  go_wp2_with fail
  refine (rpart_ok i st n A B c d nx ot _ _ (hx.below hb0) (ho.below hb0) hM).mono ?_
  rintro e w1 ⟨A', c', rfl, hO, b1⟩
  rw [HR.out] at hO
  have HO := Lib.hid (hO.lower (base' := w.heap.size) hb0.size)
  have b1 := bt hb0 b1
  clear hO
  go_wp2
  go_ret2
  exact ⟨A', c', rfl, HO.out, b1⟩
end Go.Proofs.Ytdedgpgdmnfijaa
end

section
/- The minimal machine. -/
namespace Go.Proofs.Ytdedgpgdmnfijaa

theorem getD_map {α β : Type} (g : α → β) (l : List α) (d : α) (e : β) {j : Nat} (h : j < l.length) : (l.map g).getD j e = g (l.getD j d) := by
  rw [List.getD_eq_getElem?_getD, List.getElem?_map, List.getD_eq_getElem?_getD, List.getElem?_eq_getElem h]; rfl
theorem qN_row (nx : List (List Int)) (i : Nat) (f : Nat → Nat) {n j : Nat} (h : j < (reps f n).length) : (qN nx i f n).getD j [] = qR nx i f ((reps f n).getD j 0) := getD_map _ _ 0 _ h
theorem qO_row (ot : List (List Int)) (f : Nat → Nat) {n j : Nat} (h : j < (reps f n).length) : (qO ot f n).getD j [] = ot.getD ((reps f n).getD j 0) [] := by unfold qO; exact getD_map _ _ 0 _ h
theorem reps_get_lt (f : Nat → Nat) {n j : Nat} (h : j < (reps f n).length) : (reps f n).getD j 0 < n := reps_lt f n (getD_mem h)
theorem nmb_lt_reps (f : Nat → Nat) {n s : Nat} (h : s < n) : nmb f s < (reps f n).length := by rw [reps_len]; exact nmb_lt f h
theorem Mok.quot {i st n : Nat} {nx ot : List (List Int)} (hM : Mok i st n nx ot) (f : Nat → Nat) : Mok i (nmb f st) (reps f n).length (qN nx i f n) (qO ot f n) where
  i1 := hM.i1
  i2 := hM.i2
  n1 := by have := nmb_lt_reps f hM.st; omega
  n2 := by have := reps_le f n; have := hM.n2; omega
  st := nmb_lt_reps f hM.st
  nxl := qN_len _ _ _ _
  otl := qO_len _ _ _
  row := fun s hs => by
    have hr := reps_get_lt f hs
    rw [qN_row _ _ _ hs, qO_row _ _ hs]
    obtain ⟨h1, h2, h3⟩ := hM.row _ hr
    refine ⟨qR_len _ _ _ _, h2, fun a ha => ?_⟩
    rw [qR_at ha]
    have h4 := nmb_lt_reps f (hM.nN_lt hr ha)
    have h5 := h3 a ha
    exact ⟨by omega, by omega, h5.2.2.1, h5.2.2.2⟩
/-- The classes of equivalent states. -/
def eqc (nx ot : List (List Int)) (i n : Nat) : Nat → Nat := cN nx ot i n (dep nx ot i n)
/-- The tables of the minimal machine, and the states of the machine of classes that it has. -/
def mnR (nx ot : List (List Int)) (i st n : Nat) : List Nat := rch (qN nx i (eqc nx ot i n) n) i (nmb (eqc nx ot i n) st)
def mnN (nx ot : List (List Int)) (i st n : Nat) : List (List Int) := trN (qN nx i (eqc nx ot i n) n) i (mnR nx ot i st n)
def mnO (nx ot : List (List Int)) (i st n : Nat) : List (List Int) := trO (qO ot (eqc nx ot i n) n) (mnR nx ot i st n)
theorem Mok.mnR_len {i st n : Nat} {nx ot : List (List Int)} (hM : Mok i st n nx ot) : (mnR nx ot i st n).length ≤ n := by
  have h1 := (hM.quot (eqc nx ot i n)).rch_stt.len
  have h2 := reps_le (eqc nx ot i n) n
  unfold mnR
  omega
end Go.Proofs.Ytdedgpgdmnfijaa
end

section
/- Min and Minimal. -/
namespace Go.Proofs.Ytdedgpgdmnfijaa
open Go.RowKit

theorem lists_ownedM {w : World} {base : Nat} {A : Option Addr} {n c i st : Nat} {nx ot : List (List Int)} (hM : Mok i st n nx ot) (h : OwnedL w base (.slice A n c) nx) : Lists w A n nx :=
  h.lists (by rw [hM.nxl]; have := hM.n2; omega) fun xs hxs => by
    obtain ⟨s, hs, rfl⟩ := List.getElem_of_mem hxs
    have h1 := (hM.row s (by rw [← hM.nxl]; exact hs)).1
    rw [List.getD_eq_getElem?_getD, List.getElem?_eq_getElem hs] at h1
    have := hM.i2
    have h1 : nx[s].length = i := h1
    omega
theorem lists_ownedO {w : World} {base : Nat} {A : Option Addr} {n c i st : Nat} {nx ot : List (List Int)} (hM : Mok i st n nx ot) (h : OwnedL w base (.slice A n c) ot) : Lists w A n ot :=
  h.lists (by rw [hM.otl]; have := hM.n2; omega) fun xs hxs => by
    obtain ⟨s, hs, rfl⟩ := List.getElem_of_mem hxs
    have h1 := (hM.row s (by rw [← hM.otl]; exact hs)).2.1
    rw [List.getD_eq_getElem?_getD, List.getElem?_eq_getElem hs] at h1
    have := hM.i2
    have h1 : ot[s].length = i := h1
    omega
set_option maxHeartbeats 2000000 in
theorem pmin_bad (i st : Int) (A B : Option Addr) (n c m d : Nat) (nx ot : List (List Int)) (w : World) (hx : Lists w A n nx) (ho : Lists w B m ot) (hv : ¬ vld i st nx ot = 0) :
    Calls Try.prog 14 #[.agg #[.int .i64 i, .int .i64 st, .slice A n c, .slice B m d]] w fun e w' => e = .returned (.tuple #[.agg #[.int .i64 0, .int .i64 0, .slice none 0 0, .slice none 0 0], .int .i64 (vld i st nx ot)]) ∧ Below w.heap.size w w' := by
  have hb0 := alloc_below w (.cells #[.int .i64 i, .int .i64 st, .slice A n c, .slice B m d] 24)
  have hb1 := bt hb0 (alloc_below (w.alloc (.cells #[.int .i64 i, .int .i64 st, .slice A n c, .slice B m d] 24)) (.cells #[.int .i64 0, .int .i64 0, .slice none 0 0, .slice none 0 0] 24))
  have hne : (vld i st nx ot != 0) = true := by simpa using hv
  go_enter Try.func14, Try.ntmps14
  go_wp2_with fail
  refine (pcls_bad _ _ _ _ _ _ _ _ _ _ _ (hx.below hb1) (ho.below hb1) hv).mono ?_
  rintro e w1 ⟨rfl, b1⟩
  have hR : Mblk w1 (w.heap.size + 1) (.int .i64 0) (.int .i64 0) (.slice none 0 0) (.slice none 0 0) := by
    refine Mblk.kept ?_ b1 (by simp)
    have := heap_alloc_new (w.alloc (.cells #[.int .i64 i, .int .i64 st, .slice A n c, .slice B m d] 24)) (.cells #[.int .i64 0, .int .i64 0, .slice none 0 0, .slice none 0 0] 24)
    simpa [Mblk] using this
  obtain ⟨c0, c1, c2, c3, f0, f1, f2, f3⟩ := hR.cells
  have HR := Lib.hid hR
  generalize hE : vld i st nx ot = E at hne hv
  have HE := Lib.hid hE
  clear hv hR hE
  go_wp2
  (try simp only [Exit.inBlock, Exit.then])
  refine bodyPost_ret (results_mealy rfl _ _ (w.heap.size + 1) (.int .i64 0) (.int .i64 0) (.slice none 0 0) (.slice none 0 0) rfl (HR.out.set4 _ _ _ _)) rfl ?_
  have hl : ∀ k, w.heap.size ≤ (⟨w.heap.size + 1, k, none⟩ : Addr).block := fun k => Nat.le_succ _
  exact ⟨by rw [HE.out]; rfl, (((((bt hb1 b1).setCell (hl 0) _).setCell (hl 1) _).setCell (hl 2) _).setCell (hl 3) _)⟩
set_option maxHeartbeats 2000000 in
theorem pmin_ok (i st n : Nat) (A B : Option Addr) (c d : Nat) (nx ot : List (List Int)) (w : World) (hx : Lists w A n nx) (ho : Lists w B n ot) (hM : Mok i st n nx ot) :
    Calls Try.prog 14 #[.agg #[.int .i64 i, .int .i64 st, .slice A n c, .slice B n d]] w fun e w' => ∃ A' c' B' d',
      e = .returned (.tuple #[.agg #[.int .i64 i, .int .i64 0, .slice A' (mnR nx ot i st n).length c', .slice B' (mnR nx ot i st n).length d'], .int .i64 0]) ∧
      OwnedL w' w.heap.size (.slice A' (mnR nx ot i st n).length c') (mnN nx ot i st n) ∧ OwnedL w' w.heap.size (.slice B' (mnR nx ot i st n).length d') (mnO nx ot i st n) ∧ Below w.heap.size w w' := by
  have hb0 := alloc_below w (.cells #[.int .i64 i, .int .i64 st, .slice A n c, .slice B n d] 24)
  have hb1 := bt hb0 (alloc_below (w.alloc (.cells #[.int .i64 i, .int .i64 st, .slice A n c, .slice B n d] 24)) (.cells #[.int .i64 0, .int .i64 0, .slice none 0 0, .slice none 0 0] 24))
  have hB := (mealy_box w (.int .i64 i) (.int .i64 st) (.slice A n c) (.slice B n d)).kept (alloc_below (w.alloc (.cells #[.int .i64 i, .int .i64 st, .slice A n c, .slice B n d] 24)) (.cells #[.int .i64 0, .int .i64 0, .slice none 0 0, .slice none 0 0] 24)) (by simp)
  have hR : Mblk ((w.alloc (.cells #[.int .i64 i, .int .i64 st, .slice A n c, .slice B n d] 24)).alloc (.cells #[.int .i64 0, .int .i64 0, .slice none 0 0, .slice none 0 0] 24)) (w.heap.size + 1) (.int .i64 0) (.int .i64 0) (.slice none 0 0) (.slice none 0 0) := by
    have := mealy_box (w.alloc (.cells #[.int .i64 i, .int .i64 st, .slice A n c, .slice B n d] 24)) (.int .i64 0) (.int .i64 0) (.slice none 0 0) (.slice none 0 0)
    simpa using this
  have HB := Lib.hid hB
  have HR := Lib.hid hR
  have HP := Lib.hid (show zs (pt nx ot i n (dep nx ot i n)) = zs (num (eqc nx ot i n) n) by rw [pt_num hM]; rfl)
  have hMq := hM.quot (eqc nx ot i n)
  have HE1 := Lib.hid (show mnR nx ot i st n = rch (qN nx i (eqc nx ot i n) n) i (nmb (eqc nx ot i n) st) from rfl)
  have HE2 := Lib.hid (show mnN nx ot i st n = trN (qN nx i (eqc nx ot i n) n) i (mnR nx ot i st n) from rfl)
  have HE3 := Lib.hid (show mnO nx ot i st n = trO (qO ot (eqc nx ot i n) n) (mnR nx ot i st n) from rfl)
  generalize eqc nx ot i n = f at HP hMq HE1 HE2 HE3
  clear hB hR
  go_enter Try.func14, Try.ntmps14
  go_wp2_with fail
  refine (pcls_ok _ _ _ _ _ _ _ _ _ _ (hx.below hb1) (ho.below hb1) hM).mono ?_
  rintro e w1 ⟨A1, c1, rfl, hO, b1⟩
  rw [HP.out] at hO
  have hI := Owned.ints hO (by rw [zs_len, num_len]; have := hM.n2; omega)
  obtain ⟨k0, k1, k2, k3, _⟩ := (HB.out.kept b1 (by simp; omega)).cells
  have HR1 := Lib.hid (HR.out.kept b1 (by simp))
  have b1 := bt hb1 b1
  clear hO
  go_wp2_with fail
  refine (pquot _ _ _ _ _ _ _ _ _ _ _ f _ (hx.below b1) (ho.below b1) hM hI).mono ?_
  rintro e w2 ⟨A2, c2, B2, d2, rfl, hN, hO, b2⟩
  have hLN := lists_ownedM hMq hN
  have hLO := lists_ownedO hMq hO
  have HR2 := Lib.hid (HR1.out.kept b2 (by have := b1.size; have h := heap_lt HR1.out; omega))
  have b2 := bt b1 b2
  clear k0 k1 k2 k3 hN hO hI
  go_wp2_with fail
  refine (ptrim_ok _ _ _ _ _ _ _ _ _ _ hLN hLO hMq).mono ?_
  rintro e w3 ⟨A3, c3, B3, d3, rfl, hN, hO, b3⟩
  rw [← HE1.out] at hN hO ⊢
  rw [← HE2.out] at hN
  rw [← HE3.out] at hO
  have hR3 := HR2.out.kept b3 (by have h := heap_lt HR2.out; omega)
  have hz2 := b2.size
  have b3 := bt b2 b3
  obtain ⟨y0, y1, y2, y3, z0, z1, z2, z3⟩ := hR3.cells
  have hl : ∀ k, w.heap.size ≤ (⟨w.heap.size + 1, k, none⟩ : Addr).block := fun k => Nat.le_succ _
  obtain ⟨L, hL⟩ : ∃ L, L = (mnR nx ot i st n).length := ⟨_, rfl⟩
  rw [← hL] at hN hO ⊢
  have HL := Lib.hid hL
  clear hL
  have hfb := Lib.hid (((((b3.setCell (hl 0) (.int .i64 i)).setCell (hl 1) (.int .i64 0)).setCell (hl 2) (.slice A3 L c3)).setCell (hl 3) (.slice B3 L d3)))
  have hR4 := Lib.hid (hR3.set4 (.int .i64 i) (.int .i64 0) (.slice A3 L c3) (.slice B3 L d3))
  have hq1 := hR3
  have hq2 : Mblk (w3.setCell ⟨w.heap.size + 1, 0, none⟩ (.int .i64 i)) (w.heap.size + 1) _ _ _ _ := heap_setCell_same w3 _ 0 _ _ _ hq1
  have hq3 : Mblk ((w3.setCell ⟨w.heap.size + 1, 0, none⟩ (.int .i64 i)).setCell ⟨w.heap.size + 1, 1, none⟩ (.int .i64 0)) (w.heap.size + 1) _ _ _ _ := heap_setCell_same _ _ 1 _ _ _ hq2
  have hq4 : Mblk (((w3.setCell ⟨w.heap.size + 1, 0, none⟩ (.int .i64 i)).setCell ⟨w.heap.size + 1, 1, none⟩ (.int .i64 0)).setCell ⟨w.heap.size + 1, 2, none⟩ (.slice A3 L c3)) (w.heap.size + 1) _ _ _ _ := heap_setCell_same _ _ 2 _ _ _ hq3
  have hN10 := Lib.hid (((((hN.offM hq1 (.int .i64 i) (j := 0)).offM hq2 (.int .i64 0) (j := 1)).offM hq3 (.slice A3 L c3) (j := 2)).offM hq4 (.slice B3 L d3) (j := 3)).lower (base' := w.heap.size) hz2)
  have hO10 := Lib.hid (((((hO.offM hq1 (.int .i64 i) (j := 0)).offM hq2 (.int .i64 0) (j := 1)).offM hq3 (.slice A3 L c3) (j := 2)).offM hq4 (.slice B3 L d3) (j := 3)).lower (base' := w.heap.size) hz2)
  clear hR3 hq1 hq2 hq3 hq4 hN hO hl
  go_wp2
  (try simp only [Exit.inBlock, Exit.then])
  refine bodyPost_ret (results_mealy rfl _ _ (w.heap.size + 1) _ _ _ _ rfl hR4.out) rfl ?_
  rw [← HL.out]
  exact ⟨A3, c3, B3, d3, rfl, hN10.out, hO10.out, hfb.out⟩
end Go.Proofs.Ytdedgpgdmnfijaa
end

section
/- Minimal. -/
namespace Go.Proofs.Ytdedgpgdmnfijaa
open Go.RowKit

theorem pminl_bad (i st : Int) (A B : Option Addr) (n c m d : Nat) (nx ot : List (List Int)) (w : World) (hx : Lists w A n nx) (ho : Lists w B m ot) (hv : ¬ vld i st nx ot = 0) :
    Calls Try.prog 17 #[.agg #[.int .i64 i, .int .i64 st, .slice A n c, .slice B m d]] w fun e w' => e = .returned (.bool false) ∧ Below w.heap.size w w' := by
  have hb0 := alloc_below w (.cells #[.int .i64 i, .int .i64 st, .slice A n c, .slice B m d] 24)
  have hne : (vld i st nx ot == 0) = false := by simpa using hv
  go_enter Try.func17, Try.ntmps17
  go_wp2_with fail
  refine (pmin_bad _ _ _ _ _ _ _ _ _ _ _ (hx.below hb0) (ho.below hb0) hv).mono ?_
  rintro e w1 ⟨rfl, b1⟩
  have b1 := bt hb0 b1
  generalize hE : vld i st nx ot = E at hne hv
  have HE := Lib.hid hE
  clear hv hE
  go_wp2
  go_ret
  exact ⟨rfl, bt b1 (alloc_below _ _)⟩
set_option maxHeartbeats 1000000 in
theorem pminl_ok (i st n : Nat) (A B : Option Addr) (c d : Nat) (nx ot : List (List Int)) (b : Bool) (w : World) (hx : Lists w A n nx) (ho : Lists w B n ot) (hM : Mok i st n nx ot) (hb : b = decide ((mnR nx ot i st n).length = n)) :
    Calls Try.prog 17 #[.agg #[.int .i64 i, .int .i64 st, .slice A n c, .slice B n d]] w fun e w' => e = .returned (.bool b) ∧ Below w.heap.size w w' := by
  have hb0 := alloc_below w (.cells #[.int .i64 i, .int .i64 st, .slice A n c, .slice B n d] 24)
  have HBX := Lib.hid (mealy_box w (.int .i64 i) (.int .i64 st) (.slice A n c) (.slice B n d))
  obtain ⟨L, hL⟩ : ∃ L, L = (mnR nx ot i st n).length := ⟨_, rfl⟩
  have HL := Lib.hid hL
  rw [← hL] at hb
  have HB := Lib.hid hb
  have hd : ((L : Int) == (n : Int)) = b := by
    rw [HB.out]
    by_cases e : L = n
    · subst e; simp
    · rw [decide_eq_false e, beq_eq_false_iff_ne]; omega
  clear hL hb
  go_enter Try.func17, Try.ntmps17
  go_wp2_with fail
  refine (pmin_ok _ _ _ _ _ _ _ _ _ _ (hx.below hb0) (ho.below hb0) hM).mono ?_
  rintro e w1 ⟨A1, c1, B1, d1, rfl, hN, hO, b1⟩
  rw [← HL.out]
  have hB2 := (HBX.out.kept b1 (by simp)).kept (alloc_below w1 (.cells #[.int .i64 i, .int .i64 0, .slice A1 L c1, .slice B1 L d1] 24)) (by have := heap_lt (HBX.out.kept b1 (by simp)); exact this)
  obtain ⟨k0, k1, k2, k3, _⟩ := hB2.cells
  have b1 := bt hb0 b1
  have HD := Lib.hid hd
  clear hN hO hd
  cases b
  all_goals
    have hd := HD.out
    clear HD
    go_wp2
    go_ret
    exact ⟨rfl, bt b1 (alloc_below _ _)⟩
end Go.Proofs.Ytdedgpgdmnfijaa
end
