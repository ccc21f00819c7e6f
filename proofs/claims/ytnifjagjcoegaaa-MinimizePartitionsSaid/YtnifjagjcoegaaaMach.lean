/- A machine in memory: isState, and the error of a row, by the two texts. -/
import Derived.Test.YtnifjagjcoegaaaMp
import Derived.Test.YtnifjagjcoegaaaJoin
import Derived.Test.YtnifjagjcoegaaaAgrl
import Derived.Test.YtnifjagjcoegaaaLits
import Derived.BigQuiet
import Derived.Deep.QuietTactic
namespace Go.Proofs.Ytnifjagjcoegaaa
open Go.RowKit

theorem box_cells {w wr : World} {cs : Array Value} {t : TypeId} (hb : Below (w.heap.size + 1) (w.alloc (.cells cs t)) wr) (k : Nat) : wr.cell? ⟨w.heap.size, k, none⟩ = cs[k]? := by
  rw [hb.cell (by simp)]
  exact cell_of_row (w.alloc (.cells cs t)) w.heap.size k cs t (0, 0) (heap_alloc_new w _)
theorem box4 {w wr : World} {a b c d : Value} {t : TypeId} (hb : Below (w.heap.size + 1) (w.alloc (.cells #[a, b, c, d] t)) wr) :
    wr.cell? ⟨w.heap.size, 0, none⟩ = some a ∧ wr.cell? ⟨w.heap.size, 1, none⟩ = some b ∧ wr.cell? ⟨w.heap.size, 2, none⟩ = some c ∧ wr.cell? ⟨w.heap.size, 3, none⟩ = some d :=
  ⟨box_cells hb 0, box_cells hb 1, box_cells hb 2, box_cells hb 3⟩

theorem pisst (i st : Int) (A B : Option Addr) (n c m d : Nat) (s : Int) (b : Bool) (w : World) (_ : n ≤ 17592186044416) (hb : b = decide (0 ≤ s ∧ s < n)) :
    Calls Try.prog 104 #[.agg #[.int .i64 i, .int .i64 st, .slice A n c, .slice B m d], .int .i64 s] w fun e w' => e = .returned (.bool b) ∧ Below w.heap.size w w' := by
  by_cases h1 : 0 ≤ s
  · by_cases h2 : s < n
    · have hf := Lib.hid (hb.trans (decide_eq_true ⟨h1, h2⟩))
      have d2 : decide (s < (n : Int)) = true := decide_eq_true h2
      clear hb
      go_enter Try.func104, Try.ntmps104
      go_wp2
      go_ret
      exact ⟨ret_bool hf.out.symm, alloc_below _ _⟩
    · have hf := Lib.hid (hb.trans (decide_eq_false (fun H => h2 H.2)))
      have d2 : decide (s < (n : Int)) = false := decide_eq_false h2
      clear hb
      go_enter Try.func104, Try.ntmps104
      go_wp2
      go_ret
      exact ⟨ret_bool hf.out.symm, alloc_below _ _⟩
  · have hf := Lib.hid (hb.trans (decide_eq_false (fun H => h1 H.1)))
    have d2 : decide ((0 : Int) ≤ s) = false := decide_eq_false h1
    clear hb
    go_enter Try.func104, Try.ntmps104
    go_wp2
    go_ret
    exact ⟨ret_bool hf.out.symm, alloc_below _ _⟩

set_option maxHeartbeats 2000000 in
set_option maxRecDepth 100000 in
theorem pvstate (i st : Int) (A B : Option Addr) (n c m d : Nat) (nx ot : List (List Int)) (s : Nat) (w : World) (hx : Lists w A n nx) (ho : Lists w B m ot) (hs1 : s < n) (hs2 : s < m) :
    Calls Try.prog 115 #[.agg #[.int .i64 i, .int .i64 st, .slice A n c, .slice B m d], .int .i64 s] w fun e w' => e = .returned (.int .i64 (rowE i n (nx.getD s []) (ot.getD s []))) ∧ Below w.heap.size w w' := by
  have hn := hx.2.1
  have hm := ho.2.1
  obtain ⟨g1, o1, A1, n1, c1, rfl, hg1, hc1, hr1⟩ := hx.at_ hs1
  obtain ⟨g2, o2, A2, n2, c2, rfl, hg2, hc2, hr2⟩ := ho.at_ hs2
  have hb0 := alloc_below w (.cells #[.int .i64 i, .int .i64 st, .slice (some ⟨g1, o1, none⟩) n c, .slice (some ⟨g2, o2, none⟩) m d] 58)
  have hn1 := hr1.2.1
  have hn2 := hr2.2.1
  have L1 := Lib.hid hr1.1
  have L2 := Lib.hid hr2.1
  generalize nx.getD s [] = r at hr1 L1
  generalize ot.getD s [] = o at hr2 L2
  by_cases e1 : (n1 : Int) = i
  · by_cases e2 : (n2 : Int) = i
    · obtain rfl : n1 = n2 := by omega
      subst e1
      clear e2
      have D1 : ((n1 : Int) != (n1 : Int)) = false := by simp
      go_enter Try.func115, Try.ntmps115
      go_wp2
      go_quiet (fail)
      go_wp2
      clear D1
      go_loopw [34] (fun i wr => ∃ j : Nat, j ≤ n1 ∧ i = .int .i64 j ∧ RowOk n r o j ∧ Below (w.heap.size + 1) (w.alloc (.cells #[.int .i64 n1, .int .i64 st, .slice (some ⟨g1, o1, none⟩) n c, .slice (some ⟨g2, o2, none⟩) m d] 58)) wr) (fun i _ => n1 - (intOf i).toNat)
      case atStart => exact ⟨0, Nat.zero_le _, rfl, RowOk.zero _ _ _, below_drewN (Below.refl _ _) _⟩
      case round =>
        obtain ⟨j, hj, rfl, hok, hbr⟩ := hrel
        have hbw := hb0.trans (hbr.mono (Nat.le_succ _))
        have hsz1 : w.heap.size + 1 ≤ wr.heap.size := by have := hbr.size; simpa using this
        have HK := Lib.hid hok
        clear hok
        by_cases hlt : j < n1
        · obtain ⟨b1, p1, rfl, _, hy1⟩ := (hr1.below hbw).at_ hlt
          obtain ⟨b2, p2, rfl, _, hy2⟩ := (hr2.below hbw).at_ hlt
          have hd1 := (hbw.cell (p := ⟨g1, o1 + s, none⟩) hg1).trans hc1
          have hd2 := (hbw.cell (p := ⟨g2, o2 + s, none⟩) hg2).trans hc2
          obtain ⟨k0, k1, k2, k3⟩ := box4 hbr
          have hsuc := fun h1 h2 h3 h4 => HK.out.succ (k := j) h1 h2 h3 h4
          have hbad := fun h => rowE_bad (i := n1) (n := n) (r := r) (o := o) (k := j) ⟨by rw [L1.out], by rw [L2.out]⟩ (by rw [L1.out]; exact hlt) h
          have HS := Lib.hid hsuc
          have HB := Lib.hid hbad
          clear hsuc hbad
          generalize r.getD j 0 = x at hy1 HS HB
          generalize o.getD j 0 = y at hy2 HS HB
          by_cases hx0 : 0 ≤ x ∧ x < n
          · have hdx : (true : Bool) = decide (0 ≤ x ∧ x < n) := (decide_eq_true hx0).symm
            by_cases hy0 : 0 ≤ y
            · by_cases hy3 : y ≤ 1048576
              · have hnx := Lib.hid (HS.out hx0.1 hx0.2 hy0 hy3)
                have hy4 : ¬ y < 0 := by omega
                have hy5 : ¬ 1048576 < y := by omega
                have HD := Lib.hid hdx
                clear hx0 hdx
                go_wp2_with fail
                refine (pisst _ _ _ _ _ _ _ _ _ _ _ hn HD.out).mono ?_
                rintro e w1 ⟨rfl, b1⟩
                go_wp2
                go_roundw
                case rel => exact ⟨j + 1, by omega, by go_num, hnx.out, hbr.trans (b1.mono hsz1)⟩
                case measure => simp [intOf]; omega
              · have hfin := Lib.hid (HB.out (fun H => hy3 H.2.2.2))
                have hy4 : ¬ y < 0 := by omega
                have hy5 : 1048576 < y := by omega
                have HD := Lib.hid hdx
                clear hx0 hdx
                go_wp2_with fail
                refine (pisst _ _ _ _ _ _ _ _ _ _ _ hn HD.out).mono ?_
                rintro e w1 ⟨rfl, b1⟩
                go_wp2
                go_ret
                exact ⟨ret_int hfin.out.symm, bt hbw b1⟩
            · have hfin := Lib.hid (HB.out (fun H => hy0 H.2.2.1))
              have hy4 : y < 0 := by omega
              have HD := Lib.hid hdx
              clear hx0 hdx
              go_wp2_with fail
              refine (pisst _ _ _ _ _ _ _ _ _ _ _ hn HD.out).mono ?_
              rintro e w1 ⟨rfl, b1⟩
              go_wp2
              go_ret
              exact ⟨ret_int hfin.out.symm, bt hbw b1⟩
          · have hfin := Lib.hid (HB.out (fun H => hx0 ⟨H.1, H.2.1⟩))
            have HD := Lib.hid (show (false : Bool) = decide (0 ≤ x ∧ x < n) from (decide_eq_false hx0).symm)
            clear hx0
            go_wp2_with fail
            refine (pisst _ _ _ _ _ _ _ _ _ _ _ hn HD.out).mono ?_
            rintro e w1 ⟨rfl, b1⟩
            go_wp2
            go_ret
            exact ⟨ret_int hfin.out.symm, bt hbw b1⟩
        · obtain rfl : j = n1 := by omega
          have hfin := Lib.hid (rowE_ok (i := j) (n := n) (r := r) (o := o) ⟨by rw [L1.out], by rw [L2.out]⟩ (by rw [L1.out]; exact HK.out))
          go_wp2
          go_ret
          exact ⟨ret_int hfin.out.symm, hbw⟩
    · have hfin := Lib.hid (rowE_len (i := i) (n := n) (r := r) (o := o) (fun H => e2 (by rw [← L2.out]; exact H.2)))
      have D1 : ((n1 : Int) != i) = false := by simp [e1]
      have D2 : ((n2 : Int) != i) = true := by simp [e2]
      clear e1 e2
      go_enter Try.func115, Try.ntmps115
      go_wp2
      go_quiet (fail)
      go_wp2
      go_ret
      exact ⟨ret_int hfin.out.symm, below_drewN hb0 _⟩
  · have hfin := Lib.hid (rowE_len (i := i) (n := n) (r := r) (o := o) (fun H => e1 (by rw [← L1.out]; exact H.1)))
    have D1 : ((n1 : Int) != i) = true := by simp [e1]
    clear e1
    go_enter Try.func115, Try.ntmps115
    go_wp2
    go_quiet (fail)
    go_wp2
    go_ret
    exact ⟨ret_int hfin.out.symm, below_drewN hb0 _⟩
end Go.Proofs.Ytnifjagjcoegaaa
