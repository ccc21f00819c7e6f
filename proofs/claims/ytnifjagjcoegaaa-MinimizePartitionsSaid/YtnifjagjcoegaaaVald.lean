/- Valid of a machine, and the reference's row, by the two texts. -/
import Derived.Test.YtnifjagjcoegaaaMach
namespace Go.Proofs.Ytnifjagjcoegaaa
open Go.RowKit

set_option maxHeartbeats 2000000 in
set_option maxRecDepth 100000 in
theorem rrow (i st : Int) (A B : Option Addr) (n c m d : Nat) (nx ot : List (List Int)) (s : Nat) (w : World) (hx : Lists w A n nx) (ho : Lists w B m ot) (hs1 : s < n) (hs2 : s < m) :
    Calls Try.prog 103 #[.agg #[.int .i64 i, .int .i64 st, .slice A n c, .slice B m d], .int .i64 s] w fun e w' => e = .returned (.int .i64 (rowE i n (nx.getD s []) (ot.getD s []))) ∧ Below w.heap.size w w' := by
  have hn := hx.2.1
  have hm := ho.2.1
  obtain ⟨g1, o1, A1, n1, c1, rfl, hg1, hc1, hr1⟩ := hx.at_ hs1
  obtain ⟨g2, o2, A2, n2, c2, rfl, hg2, hc2, hr2⟩ := ho.at_ hs2
  have hb0 := alloc_below w (.cells #[.int .i64 i, .int .i64 st, .slice (some ⟨g1, o1, none⟩) n c, .slice (some ⟨g2, o2, none⟩) m d] 58)
  have hn1 := hr1.2.1
  have hn2 := hr2.2.1
  have L1 := Lib.hid hr1.1
  have L2 := Lib.hid hr2.1
  generalize nx.getD s [] = r at hr1 L1
  generalize ot.getD s [] = o at hr2 L2
  by_cases e1 : (n1 : Int) = i
  · by_cases e2 : (n2 : Int) = i
    · obtain rfl : n1 = n2 := by omega
      subst e1
      clear e2
      have D1 : ((n1 : Int) != (n1 : Int)) = false := by simp
      go_enter Try.func103, Try.ntmps103
      go_wp2
      go_quiet (fail)
      go_wp2
      clear D1
      go_loopw [5] (fun i wr => ∃ j : Nat, j ≤ n1 ∧ i = .int .i64 j ∧ RowOk n r o j ∧ Below (w.heap.size + 1) (w.alloc (.cells #[.int .i64 n1, .int .i64 st, .slice (some ⟨g1, o1, none⟩) n c, .slice (some ⟨g2, o2, none⟩) m d] 58)) wr) (fun i _ => n1 - (intOf i).toNat)
      case atStart => exact ⟨0, Nat.zero_le _, rfl, RowOk.zero _ _ _, below_drewN (Below.refl _ _) _⟩
      case round =>
        obtain ⟨j, hj, rfl, hok, hbr⟩ := hrel
        have hbw := hb0.trans (hbr.mono (Nat.le_succ _))
        have hsz1 : w.heap.size + 1 ≤ wr.heap.size := by have := hbr.size; simpa using this
        have HK := Lib.hid hok
        clear hok
        obtain ⟨k0, k1, k2, k3⟩ := box4 hbr
        by_cases hlt : j < n1
        · obtain ⟨b1, p1, rfl, _, hy1⟩ := (hr1.below hbw).at_ hlt
          obtain ⟨b2, p2, rfl, _, hy2⟩ := (hr2.below hbw).at_ hlt
          have hd1 := (hbw.cell (p := ⟨g1, o1 + s, none⟩) hg1).trans hc1
          have hd2 := (hbw.cell (p := ⟨g2, o2 + s, none⟩) hg2).trans hc2
          have HS := Lib.hid (fun h1 h2 h3 h4 => HK.out.succ (k := j) h1 h2 h3 h4)
          have HB := Lib.hid (fun h => rowE_bad (i := n1) (n := n) (r := r) (o := o) (k := j) ⟨by rw [L1.out], by rw [L2.out]⟩ (by rw [L1.out]; exact hlt) h)
          generalize r.getD j 0 = x at hy1 HS HB
          generalize o.getD j 0 = y at hy2 HS HB
          by_cases hx1 : 0 ≤ x
          · have t1 : decide (x < 0) = false := by simpa using hx1
            by_cases hx2 : x < n
            · have t2 : decide ((n : Int) ≤ x) = false := by simpa using hx2
              by_cases hy0 : 0 ≤ y
              · have t3 : decide (y < 0) = false := by simpa using hy0
                by_cases hy3 : y ≤ 1048576
                · have t4 : decide (1048576 < y) = false := by simpa using hy3
                  have hnx := Lib.hid (HS.out hx1 hx2 hy0 hy3)
                  go_wp2
                  go_quiet (fail)
                  go_wp2
                  go_roundw
                  case rel => exact ⟨j + 1, by omega, by go_num, hnx.out, below_drewN hbr _⟩
                  case measure => simp [intOf]; omega
                · have t4 : decide (1048576 < y) = true := by simpa using hy3
                  have hfin := Lib.hid (HB.out (fun H => hy3 H.2.2.2))
                  go_wp2
                  go_quiet (fail)
                  go_wp2
                  go_ret
                  exact ⟨ret_int hfin.out.symm, below_drewN hbw _⟩
              · have t3 : decide (y < 0) = true := by simpa using hy0
                have hfin := Lib.hid (HB.out (fun H => hy0 H.2.2.1))
                go_wp2
                go_quiet (fail)
                go_wp2
                go_ret
                exact ⟨ret_int hfin.out.symm, below_drewN hbw _⟩
            · have t2 : decide ((n : Int) ≤ x) = true := by simpa using hx2
              have hfin := Lib.hid (HB.out (fun H => hx2 H.2.1))
              go_wp2
              go_quiet (fail)
              go_wp2
              go_ret
              exact ⟨ret_int hfin.out.symm, below_drewN hbw _⟩
          · have t1 : decide (x < 0) = true := by simpa using hx1
            have hfin := Lib.hid (HB.out (fun H => hx1 H.1))
            go_wp2
            go_quiet (fail)
            go_wp2
            go_ret
            exact ⟨ret_int hfin.out.symm, below_drewN hbw _⟩
        · obtain rfl : j = n1 := by omega
          have hfin := Lib.hid (rowE_ok (i := j) (n := n) (r := r) (o := o) ⟨by rw [L1.out], by rw [L2.out]⟩ (by rw [L1.out]; exact HK.out))
          go_wp2
          go_ret
          exact ⟨ret_int hfin.out.symm, hbw⟩
    · have hfin := Lib.hid (rowE_len (i := i) (n := n) (r := r) (o := o) (fun H => e2 (by rw [← L2.out]; exact H.2)))
      have D1 : ((n1 : Int) != i) = false := by simp [e1]
      have D2 : ((n2 : Int) != i) = true := by simp [e2]
      clear e1 e2
      go_enter Try.func103, Try.ntmps103
      go_wp2
      go_quiet (fail)
      go_wp2
      go_ret
      exact ⟨ret_int hfin.out.symm, below_drewN hb0 _⟩
  · have hfin := Lib.hid (rowE_len (i := i) (n := n) (r := r) (o := o) (fun H => e1 (by rw [← L1.out]; exact H.1)))
    have D1 : ((n1 : Int) != i) = true := by simp [e1]
    clear e1
    go_enter Try.func103, Try.ntmps103
    go_wp2
    go_quiet (fail)
    go_wp2
    go_ret
    exact ⟨ret_int hfin.out.symm, below_drewN hb0 _⟩

set_option maxHeartbeats 2000000 in
set_option maxRecDepth 100000 in
theorem pvalid (i st : Int) (A B : Option Addr) (n c m d : Nat) (nx ot : List (List Int)) (w : World) (hx : Lists w A n nx) (ho : Lists w B m ot) :
    Calls Try.prog 91 #[.agg #[.int .i64 i, .int .i64 st, .slice A n c, .slice B m d]] w fun e w' => e = .returned (.int .i64 (vld i st nx ot)) ∧ Below w.heap.size w w' := by
  have L1 := Lib.hid hx.1
  have L2 := Lib.hid ho.1
  have hn := hx.2.1
  have hm := ho.2.1
  have hb0 := alloc_below w (.cells #[.int .i64 i, .int .i64 st, .slice A n c, .slice B m d] 58)
  have hsz0 : (w.alloc (.cells #[.int .i64 i, .int .i64 st, .slice A n c, .slice B m d] 58)).heap.size = w.heap.size + 1 := by simp
  have HZ := Lib.hid hsz0
  clear hsz0
  by_cases hi : 1 ≤ i ∧ i ≤ 64
  · have HI := Lib.hid hi
    obtain ⟨hi1, hi2⟩ := hi
    have i1 : decide (i < 1) = false := by simpa using hi1
    have i2 : decide (64 < i) = false := by simpa using hi2
    by_cases h0 : n = 0
    · have hfin := Lib.hid (vld_empty (st := st) (ot := ot) HI.out (by rw [L1.out]; exact h0))
      subst h0
      go_enter Try.func91, Try.ntmps91
      go_wp2
      go_ret
      exact ⟨ret_int hfin.out.symm, hb0⟩
    · have z0 : ((n : Int) == 0) = false := by simp; omega
      by_cases h1 : 128 < n
      · have hfin := Lib.hid (vld_many (st := st) (ot := ot) HI.out (by rw [L1.out]; exact h1))
        clear h0
        go_enter Try.func91, Try.ntmps91
        go_wp2
        go_ret
        exact ⟨ret_int hfin.out.symm, hb0⟩
      · have z1 : decide ((128 : Int) < (n : Int)) = false := by simp; omega
        by_cases h2 : 0 ≤ st ∧ st < n
        · have H2 := Lib.hid h2
          have HT := Lib.hid ((decide_eq_true h2).symm)
          by_cases h3 : m = n
          · subst h3
            have z3 : ((m : Int) != (m : Int)) = false := by simp
            have hrows := Lib.hid (vld_rows (i := i) (st := st) (nx := nx) (ot := ot) HI.out (by rw [L1.out]; exact h0) (by rw [L1.out]; exact h1) (by rw [L1.out]; exact H2.out) (by rw [L1.out, L2.out]))
            clear h0 h2
            go_enter Try.func91, Try.ntmps91
            go_wp2_with fail
            refine (pisst _ _ _ _ _ _ _ _ _ _ _ hn HT.out).mono ?_
            rintro e w1 ⟨rfl, b1⟩
            rw [HZ.out] at b1
            obtain ⟨k0, k1, k2, k3⟩ := box4 b1
            go_wp2
            clear k0 k1 k2 k3
            go_loopw [36] (fun x wr => ∃ j : Nat, j ≤ m ∧ x = .int .i64 j ∧ (∀ t, t < j → rowAt i nx ot t = 0) ∧ Below (w.heap.size + 1) (w.alloc (.cells #[.int .i64 i, .int .i64 st, .slice A m c, .slice B m d] 58)) wr) (fun x _ => m - (intOf x).toNat)
            case atStart => exact ⟨0, Nat.zero_le _, rfl, fun t h => absurd h (by omega), b1⟩
            case round =>
              obtain ⟨j, hj, rfl, hok, hbr⟩ := hrel
              have hbw := hb0.trans (hbr.mono (Nat.le_succ _))
              have hsz1 : w.heap.size + 1 ≤ wr.heap.size := by have := hbr.size; simpa using this
              have HK := Lib.hid hok
              clear hok
              obtain ⟨k0, k1, k2, k3⟩ := box4 hbr
              by_cases hlt : j < m
              · have HV := Lib.hid (show rowAt i nx ot j = rowE i m (nx.getD j []) (ot.getD j []) by unfold rowAt; rw [L1.out])
                by_cases he : rowE i m (nx.getD j []) (ot.getD j []) = 0
                · have hnx := Lib.hid (show ∀ t, t < j + 1 → rowAt i nx ot t = 0 from fun t ht => by
                    by_cases e : t = j
                    · subst e; rw [HV.out]; exact he
                    · exact HK.out t (by omega))
                  have HE := Lib.hid he
                  clear he
                  go_wp2_with fail
                  refine (pvstate _ _ _ _ _ _ _ _ _ _ _ _ (hx.below hbw) (ho.below hbw) hlt hlt).mono ?_
                  rintro e w2 ⟨rfl, b2⟩
                  have b3 := hbr.trans (b2.mono hsz1)
                  rw [HE.out]
                  obtain ⟨k0, k1, k2, k3⟩ := box4 b3
                  go_wp2
                  go_roundw
                  case rel => exact ⟨j + 1, by omega, by go_num, hnx.out, b3⟩
                  case measure => simp [intOf]; omega
                · have hfin := Lib.hid (hrows.out.trans (fstE_bad HK.out (by rw [HV.out]; exact he) (by rw [L1.out]; exact hlt)))
                  have he2 : (rowE i m (nx.getD j []) (ot.getD j []) != 0) = true := by simpa using he
                  go_wp2_with fail
                  refine (pvstate _ _ _ _ _ _ _ _ _ _ _ _ (hx.below hbw) (ho.below hbw) hlt hlt).mono ?_
                  rintro e w2 ⟨rfl, b2⟩
                  have b3 := hbr.trans (b2.mono hsz1)
                  have HF := Lib.hid (hfin.out.trans HV.out)
                  clear hfin HV
                  generalize rowE i m (nx.getD j []) (ot.getD j []) = E at he2 he HF
                  clear he
                  go_wp2
                  go_ret
                  exact ⟨ret_int HF.out.symm, hb0.trans (b3.mono (Nat.le_succ _))⟩
              · obtain rfl : j = m := by omega
                have hfin := Lib.hid (hrows.out.trans (fstE_ok (by rw [L1.out]; exact HK.out)))
                go_wp2
                go_ret
                exact ⟨ret_int hfin.out.symm, hbw⟩
          · have z3 : ((m : Int) != (n : Int)) = true := by simp; omega
            have hfin := Lib.hid (vld_out (i := i) (st := st) (nx := nx) (ot := ot) HI.out (by rw [L1.out]; exact h0) (by rw [L1.out]; exact h1) (by rw [L1.out]; exact H2.out) (by rw [L1.out, L2.out]; exact h3))
            clear h0 h3
            go_enter Try.func91, Try.ntmps91
            go_wp2_with fail
            refine (pisst _ _ _ _ _ _ _ _ _ _ _ hn HT.out).mono ?_
            rintro e w1 ⟨rfl, b1⟩
            rw [HZ.out] at b1
            obtain ⟨k0, k1, k2, k3⟩ := box4 b1
            go_wp2
            go_ret
            exact ⟨ret_int hfin.out.symm, hb0.trans (b1.mono (Nat.le_succ _))⟩
        · have hfin := Lib.hid (vld_start (i := i) (st := st) (nx := nx) (ot := ot) HI.out (by rw [L1.out]; exact h0) (by rw [L1.out]; exact h1) (by rw [L1.out]; exact h2))
          have HT := Lib.hid ((decide_eq_false h2).symm)
          clear h0 h2
          go_enter Try.func91, Try.ntmps91
          go_wp2_with fail
          refine (pisst _ _ _ _ _ _ _ _ _ _ _ hn HT.out).mono ?_
          rintro e w1 ⟨rfl, b1⟩
          go_wp2
          go_ret
          exact ⟨ret_int hfin.out.symm, bt hb0 b1⟩
  · have hfin := Lib.hid (vld_in (st := st) (nx := nx) (ot := ot) hi)
    by_cases hi1 : 1 ≤ i
    · have hi2 : 64 < i := by omega
      have t1 : ¬ i < 1 := by omega
      clear hi
      go_enter Try.func91, Try.ntmps91
      go_wp2
      go_ret
      exact ⟨ret_int hfin.out.symm, hb0⟩
    · have t1 : i < 1 := by omega
      clear hi hi1
      go_enter Try.func91, Try.ntmps91
      go_wp2
      go_ret
      exact ⟨ret_int hfin.out.symm, hb0⟩
end Go.Proofs.Ytnifjagjcoegaaa
