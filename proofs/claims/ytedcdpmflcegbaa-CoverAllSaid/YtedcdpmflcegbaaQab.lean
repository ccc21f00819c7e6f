/- Lemmas of the proofs of this seat, of the parts Vald, Stepm, Runm, Kept, OwnL, Rwsm, Revi, Covm, Reachm, Lnm, Trimp, Fromp, Fromm, Outsr, Trimm, Boxm. Conditions: none. -/
import Derived.Test.YtedcdpmflcegbaaQaa
import Derived.RegionTactic
import Derived.BigRegion
import Derived.Lib.SliceRun
import Derived.Maps.AppendAt
import Derived.ChangeAlike
import Derived.Deep.RegionLaw
section
/- Valid of a machine, and the reference's row, by the two texts. -/
namespace Go.Proofs.Ytedcdpmflcegbaa
open Go.RowKit

set_option maxHeartbeats 2000000 in
set_option maxRecDepth 100000 in
theorem rrow (i st : Int) (A B : Option Addr) (n c m d : Nat) (nx ot : List (List Int)) (s : Nat) (w : World) (hx : Lists w A n nx) (ho : Lists w B m ot) (hs1 : s < n) (hs2 : s < m) :
    Calls Try.prog 46 #[.agg #[.int .i64 i, .int .i64 st, .slice A n c, .slice B m d], .int .i64 s] w fun e w' => e = .returned (.int .i64 (rowE i n (nx.getD s []) (ot.getD s []))) ∧ Below w.heap.size w w' := by
  have hn := hx.2.1
  have hm := ho.2.1
  obtain ⟨g1, o1, A1, n1, c1, rfl, hg1, hc1, hr1⟩ := hx.at_ hs1
  obtain ⟨g2, o2, A2, n2, c2, rfl, hg2, hc2, hr2⟩ := ho.at_ hs2
  have hb0 := alloc_below w (.cells #[.int .i64 i, .int .i64 st, .slice (some ⟨g1, o1, none⟩) n c, .slice (some ⟨g2, o2, none⟩) m d] 24)
  have hn1 := hr1.2.1
  have hn2 := hr2.2.1
  have L1 := Lib.hid hr1.1
  have L2 := Lib.hid hr2.1
  generalize nx.getD s [] = r at hr1 L1
  generalize ot.getD s [] = o at hr2 L2
  by_cases e1 : (n1 : Int) = i
  · by_cases e2 : (n2 : Int) = i
    · obtain rfl : n1 = n2 := by omega
      subst e1
      clear e2
      have D1 : ((n1 : Int) != (n1 : Int)) = false := by simp
      go_enter Try.func46, Try.ntmps46
      go_wp2
      go_quiet (fail)
      go_wp2
      clear D1
      go_loopw [5] (fun i wr => ∃ j : Nat, j ≤ n1 ∧ i = .int .i64 j ∧ RowOk n r o j ∧ Below (w.heap.size + 1) (w.alloc (.cells #[.int .i64 n1, .int .i64 st, .slice (some ⟨g1, o1, none⟩) n c, .slice (some ⟨g2, o2, none⟩) m d] 24)) wr) (fun i _ => n1 - (intOf i).toNat)
      case atStart => exact ⟨0, Nat.zero_le _, rfl, RowOk.zero _ _ _, below_drewN (Below.refl _ _) _⟩
      case round =>
        obtain ⟨j, hj, rfl, hok, hbr⟩ := hrel
        have hbw := hb0.trans (hbr.mono (Nat.le_succ _))
        have hsz1 : w.heap.size + 1 ≤ wr.heap.size := by have := hbr.size; simpa using this
        have HK := Lib.hid hok
        clear hok
        obtain ⟨k0, k1, k2, k3⟩ := box4 hbr
        by_cases hlt : j < n1
        · obtain ⟨b1, p1, rfl, _, hy1⟩ := (hr1.below hbw).at_ hlt
          obtain ⟨b2, p2, rfl, _, hy2⟩ := (hr2.below hbw).at_ hlt
          have hd1 := (hbw.cell (p := ⟨g1, o1 + s, none⟩) hg1).trans hc1
          have hd2 := (hbw.cell (p := ⟨g2, o2 + s, none⟩) hg2).trans hc2
          have HS := Lib.hid (fun h1 h2 h3 h4 => HK.out.succ (k := j) h1 h2 h3 h4)
          have HB := Lib.hid (fun h => rowE_bad (i := n1) (n := n) (r := r) (o := o) (k := j) ⟨by rw [L1.out], by rw [L2.out]⟩ (by rw [L1.out]; exact hlt) h)
          generalize r.getD j 0 = x at hy1 HS HB
          generalize o.getD j 0 = y at hy2 HS HB
          by_cases hx1 : 0 ≤ x
          · have t1 : decide (x < 0) = false := by simpa using hx1
            by_cases hx2 : x < n
            · have t2 : decide ((n : Int) ≤ x) = false := by simpa using hx2
              by_cases hy0 : 0 ≤ y
              · have t3 : decide (y < 0) = false := by simpa using hy0
                by_cases hy3 : y ≤ 1048576
                · have t4 : decide (1048576 < y) = false := by simpa using hy3
                  have hnx := Lib.hid (HS.out hx1 hx2 hy0 hy3)
                  go_wp2
                  go_quiet (fail)
                  go_wp2
                  go_roundw
                  case rel => exact ⟨j + 1, by omega, by go_num, hnx.out, below_drewN hbr _⟩
                  case measure => simp [intOf]; omega
                · have t4 : decide (1048576 < y) = true := by simpa using hy3
                  have hfin := Lib.hid (HB.out (fun H => hy3 H.2.2.2))
                  go_wp2
                  go_quiet (fail)
                  go_wp2
                  go_ret
                  exact ⟨ret_int hfin.out.symm, below_drewN hbw _⟩
              · have t3 : decide (y < 0) = true := by simpa using hy0
                have hfin := Lib.hid (HB.out (fun H => hy0 H.2.2.1))
                go_wp2
                go_quiet (fail)
                go_wp2
                go_ret
                exact ⟨ret_int hfin.out.symm, below_drewN hbw _⟩
            · have t2 : decide ((n : Int) ≤ x) = true := by simpa using hx2
              have hfin := Lib.hid (HB.out (fun H => hx2 H.2.1))
              go_wp2
              go_quiet (fail)
              go_wp2
              go_ret
              exact ⟨ret_int hfin.out.symm, below_drewN hbw _⟩
          · have t1 : decide (x < 0) = true := by simpa using hx1
            have hfin := Lib.hid (HB.out (fun H => hx1 H.1))
            go_wp2
            go_quiet (fail)
            go_wp2
            go_ret
            exact ⟨ret_int hfin.out.symm, below_drewN hbw _⟩
        · obtain rfl : j = n1 := by omega
          have hfin := Lib.hid (rowE_ok (i := j) (n := n) (r := r) (o := o) ⟨by rw [L1.out], by rw [L2.out]⟩ (by rw [L1.out]; exact HK.out))
          go_wp2
          go_ret
          exact ⟨ret_int hfin.out.symm, hbw⟩
    · have hfin := Lib.hid (rowE_len (i := i) (n := n) (r := r) (o := o) (fun H => e2 (by rw [← L2.out]; exact H.2)))
      have D1 : ((n1 : Int) != i) = false := by simp [e1]
      have D2 : ((n2 : Int) != i) = true := by simp [e2]
      clear e1 e2
      go_enter Try.func46, Try.ntmps46
      go_wp2
      go_quiet (fail)
      go_wp2
      go_ret
      exact ⟨ret_int hfin.out.symm, below_drewN hb0 _⟩
  · have hfin := Lib.hid (rowE_len (i := i) (n := n) (r := r) (o := o) (fun H => e1 (by rw [← L1.out]; exact H.1)))
    have D1 : ((n1 : Int) != i) = true := by simp [e1]
    clear e1
    go_enter Try.func46, Try.ntmps46
    go_wp2
    go_quiet (fail)
    go_wp2
    go_ret
    exact ⟨ret_int hfin.out.symm, below_drewN hb0 _⟩

set_option maxHeartbeats 2000000 in
set_option maxRecDepth 100000 in
theorem pvalid (i st : Int) (A B : Option Addr) (n c m d : Nat) (nx ot : List (List Int)) (w : World) (hx : Lists w A n nx) (ho : Lists w B m ot) :
    Calls Try.prog 29 #[.agg #[.int .i64 i, .int .i64 st, .slice A n c, .slice B m d]] w fun e w' => e = .returned (.int .i64 (vld i st nx ot)) ∧ Below w.heap.size w w' := by
  have L1 := Lib.hid hx.1
  have L2 := Lib.hid ho.1
  have hn := hx.2.1
  have hm := ho.2.1
  have hb0 := alloc_below w (.cells #[.int .i64 i, .int .i64 st, .slice A n c, .slice B m d] 24)
  have hsz0 : (w.alloc (.cells #[.int .i64 i, .int .i64 st, .slice A n c, .slice B m d] 24)).heap.size = w.heap.size + 1 := by simp
  have HZ := Lib.hid hsz0
  clear hsz0
  by_cases hi : 1 ≤ i ∧ i ≤ 64
  · have HI := Lib.hid hi
    obtain ⟨hi1, hi2⟩ := hi
    have i1 : decide (i < 1) = false := by simpa using hi1
    have i2 : decide (64 < i) = false := by simpa using hi2
    by_cases h0 : n = 0
    · have hfin := Lib.hid (vld_empty (st := st) (ot := ot) HI.out (by rw [L1.out]; exact h0))
      subst h0
      go_enter Try.func29, Try.ntmps29
      go_wp2
      go_ret
      exact ⟨ret_int hfin.out.symm, hb0⟩
    · have z0 : ((n : Int) == 0) = false := by simp; omega
      by_cases h1 : 128 < n
      · have hfin := Lib.hid (vld_many (st := st) (ot := ot) HI.out (by rw [L1.out]; exact h1))
        clear h0
        go_enter Try.func29, Try.ntmps29
        go_wp2
        go_ret
        exact ⟨ret_int hfin.out.symm, hb0⟩
      · have z1 : decide ((128 : Int) < (n : Int)) = false := by simp; omega
        by_cases h2 : 0 ≤ st ∧ st < n
        · have H2 := Lib.hid h2
          have HT := Lib.hid ((decide_eq_true h2).symm)
          by_cases h3 : m = n
          · subst h3
            have z3 : ((m : Int) != (m : Int)) = false := by simp
            have hrows := Lib.hid (vld_rows (i := i) (st := st) (nx := nx) (ot := ot) HI.out (by rw [L1.out]; exact h0) (by rw [L1.out]; exact h1) (by rw [L1.out]; exact H2.out) (by rw [L1.out, L2.out]))
            clear h0 h2
            go_enter Try.func29, Try.ntmps29
            go_wp2_with fail
            refine (pisst _ _ _ _ _ _ _ _ _ _ _ hn HT.out).mono ?_
            rintro e w1 ⟨rfl, b1⟩
            rw [HZ.out] at b1
            obtain ⟨k0, k1, k2, k3⟩ := box4 b1
            go_wp2
            clear k0 k1 k2 k3
            go_loopw [36] (fun x wr => ∃ j : Nat, j ≤ m ∧ x = .int .i64 j ∧ (∀ t, t < j → rowAt i nx ot t = 0) ∧ Below (w.heap.size + 1) (w.alloc (.cells #[.int .i64 i, .int .i64 st, .slice A m c, .slice B m d] 24)) wr) (fun x _ => m - (intOf x).toNat)
            case atStart => exact ⟨0, Nat.zero_le _, rfl, fun t h => absurd h (by omega), b1⟩
            case round =>
              obtain ⟨j, hj, rfl, hok, hbr⟩ := hrel
              have hbw := hb0.trans (hbr.mono (Nat.le_succ _))
              have hsz1 : w.heap.size + 1 ≤ wr.heap.size := by have := hbr.size; simpa using this
              have HK := Lib.hid hok
              clear hok
              obtain ⟨k0, k1, k2, k3⟩ := box4 hbr
              by_cases hlt : j < m
              · have HV := Lib.hid (show rowAt i nx ot j = rowE i m (nx.getD j []) (ot.getD j []) by unfold rowAt; rw [L1.out])
                by_cases he : rowE i m (nx.getD j []) (ot.getD j []) = 0
                · have hnx := Lib.hid (show ∀ t, t < j + 1 → rowAt i nx ot t = 0 from fun t ht => by
                    by_cases e : t = j
                    · subst e; rw [HV.out]; exact he
                    · exact HK.out t (by omega))
                  have HE := Lib.hid he
                  clear he
                  go_wp2_with fail
                  refine (pvstate _ _ _ _ _ _ _ _ _ _ _ _ (hx.below hbw) (ho.below hbw) hlt hlt).mono ?_
                  rintro e w2 ⟨rfl, b2⟩
                  have b3 := hbr.trans (b2.mono hsz1)
                  rw [HE.out]
                  obtain ⟨k0, k1, k2, k3⟩ := box4 b3
                  go_wp2
                  go_roundw
                  case rel => exact ⟨j + 1, by omega, by go_num, hnx.out, b3⟩
                  case measure => simp [intOf]; omega
                · have hfin := Lib.hid (hrows.out.trans (fstE_bad HK.out (by rw [HV.out]; exact he) (by rw [L1.out]; exact hlt)))
                  have he2 : (rowE i m (nx.getD j []) (ot.getD j []) != 0) = true := by simpa using he
                  go_wp2_with fail
                  refine (pvstate _ _ _ _ _ _ _ _ _ _ _ _ (hx.below hbw) (ho.below hbw) hlt hlt).mono ?_
                  rintro e w2 ⟨rfl, b2⟩
                  have b3 := hbr.trans (b2.mono hsz1)
                  have HF := Lib.hid (hfin.out.trans HV.out)
                  clear hfin HV
                  generalize rowE i m (nx.getD j []) (ot.getD j []) = E at he2 he HF
                  clear he
                  go_wp2
                  go_ret
                  exact ⟨ret_int HF.out.symm, hb0.trans (b3.mono (Nat.le_succ _))⟩
              · obtain rfl : j = m := by omega
                have hfin := Lib.hid (hrows.out.trans (fstE_ok (by rw [L1.out]; exact HK.out)))
                go_wp2
                go_ret
                exact ⟨ret_int hfin.out.symm, hbw⟩
          · have z3 : ((m : Int) != (n : Int)) = true := by simp; omega
            have hfin := Lib.hid (vld_out (i := i) (st := st) (nx := nx) (ot := ot) HI.out (by rw [L1.out]; exact h0) (by rw [L1.out]; exact h1) (by rw [L1.out]; exact H2.out) (by rw [L1.out, L2.out]; exact h3))
            clear h0 h3
            go_enter Try.func29, Try.ntmps29
            go_wp2_with fail
            refine (pisst _ _ _ _ _ _ _ _ _ _ _ hn HT.out).mono ?_
            rintro e w1 ⟨rfl, b1⟩
            rw [HZ.out] at b1
            obtain ⟨k0, k1, k2, k3⟩ := box4 b1
            go_wp2
            go_ret
            exact ⟨ret_int hfin.out.symm, hb0.trans (b1.mono (Nat.le_succ _))⟩
        · have hfin := Lib.hid (vld_start (i := i) (st := st) (nx := nx) (ot := ot) HI.out (by rw [L1.out]; exact h0) (by rw [L1.out]; exact h1) (by rw [L1.out]; exact h2))
          have HT := Lib.hid ((decide_eq_false h2).symm)
          clear h0 h2
          go_enter Try.func29, Try.ntmps29
          go_wp2_with fail
          refine (pisst _ _ _ _ _ _ _ _ _ _ _ hn HT.out).mono ?_
          rintro e w1 ⟨rfl, b1⟩
          go_wp2
          go_ret
          exact ⟨ret_int hfin.out.symm, bt hb0 b1⟩
  · have hfin := Lib.hid (vld_in (st := st) (nx := nx) (ot := ot) hi)
    by_cases hi1 : 1 ≤ i
    · have hi2 : 64 < i := by omega
      have t1 : ¬ i < 1 := by omega
      clear hi
      go_enter Try.func29, Try.ntmps29
      go_wp2
      go_ret
      exact ⟨ret_int hfin.out.symm, hb0⟩
    · have t1 : i < 1 := by omega
      clear hi hi1
      go_enter Try.func29, Try.ntmps29
      go_wp2
      go_ret
      exact ⟨ret_int hfin.out.symm, hb0⟩
end Go.Proofs.Ytedcdpmflcegbaa
end

section
/- A runner: step and run. -/
namespace Go.Proofs.Ytedcdpmflcegbaa
open Go.RowKit

/-- The block of a runner. -/
def Rnr (w : World) (g : Nat) (i st : Int) (A : Option Addr) (n c : Nat) (B : Option Addr) (m d : Nat) (s : Nat) : Prop :=
  w.heap[g]? = some (.cells #[.int .i64 i, .int .i64 st, .slice A n c, .slice B m d, .int .i64 s] 101 (0, 0))

theorem Rnr.cells {w : World} {g : Nat} {i st : Int} {A B : Option Addr} {n c m d s : Nat} (h : Rnr w g i st A n c B m d s) :
    w.cell? ⟨g, 2, none⟩ = some (.slice A n c) ∧ w.cell? ⟨g, 3, none⟩ = some (.slice B m d) ∧ w.cell? ⟨g, 4, none⟩ = some (.int .i64 s) ∧ w.frozen? ⟨g, 4, none⟩ = false :=
  ⟨cell_of_row w g 2 _ _ (0, 0) h, cell_of_row w g 3 _ _ (0, 0) h, cell_of_row w g 4 _ _ (0, 0) h, frozen_of_row w g 4 _ _ h⟩

set_option maxHeartbeats 2000000 in
set_option maxRecDepth 100000 in
theorem pstep {W w : World} {g : Nat} {i st n : Nat} {A B : Option Addr} {c d s a : Nat} {nx ot : List (List Int)} (hM : Mok i st n nx ot) (hx : Lists W A n nx) (ho : Lists W B n ot) (hb : Below W.heap.size W w)
    (hR : Rnr w g i st A n c B n d s) (hs : s < n) (ha : a < i) :
    Calls Try.prog 78 #[.pointer (some ⟨g, 0, none⟩), .int .i64 a] w fun e w' => e = .returned (.int .i64 (oN ot s a)) ∧ ∃ q, w' = (w.setCell ⟨g, 4, none⟩ (.int .i64 (nN nx s a))).drewN q := by
  obtain ⟨c2, c3, c4, f4⟩ := hR.cells
  obtain ⟨g1, o1, A1, n1, c1, rfl, hg1, hc1, hr1⟩ := (hx.below hb).at_ hs
  obtain ⟨g2, o2, A2, n2, c2', rfl, hg2, hc2, hr2⟩ := (ho.below hb).at_ hs
  have hi1 := (hM.row s hs).1
  have hi2 := (hM.row s hs).2.1
  have hl1 := hr1.1
  have hl2 := hr2.1
  obtain rfl : n1 = i := by omega
  obtain rfl : n2 = n1 := by omega
  obtain ⟨b1, p1, rfl, _, hy1⟩ := hr1.at_ ha
  obtain ⟨b2, p2, rfl, _, hy2⟩ := hr2.at_ ha
  rw [hM.nN_eq hs ha] at hy1
  change w.cell? _ = some (.int .i64 (oN ot s a)) at hy2
  have hn := hr1.2.1
  have hN := hx.2.1
  clear hl1 hl2 hi1 hi2
  go_enter Try.func78, Try.ntmps78
  go_wp2
  go_quiet (fail)
  go_wp2
  go_region
  all_goals
    go_wp2
    go_ret
    exact ⟨rfl, by first | exact ⟨_, rfl⟩ | exact ⟨_, World.drewN_drewN _ _ _⟩⟩
end Go.Proofs.Ytedcdpmflcegbaa
end

section
/- run, From, Run and Step of a machine. -/
namespace Go.Proofs.Ytedcdpmflcegbaa
open Go.RowKit

theorem Ints.one (w : World) (x : Int) : Ints (w.alloc (.cells #[.int .i64 x] 3)) (some ⟨w.heap.size, 0, none⟩) 1 [x] := Ints.new w [x] _ 1 rfl rfl (by simp)

theorem Rnr.kept {w w' : World} {g : Nat} {i st : Int} {A B : Option Addr} {n c m d s : Nat} (h : Rnr w g i st A n c B m d s) {b : Nat} (hb : Below b w w') (hg : g < b) : Rnr w' g i st A n c B m d s := (hb.block g hg).trans h

/-- append of one number to a row of one's own; the runner's block is another. -/
theorem run_append_one {w : World} {base : Nat} {v : Value} {xs : List Int} (h : Owned w base v xs) (x : Int) (hbase : base ≤ w.heap.size) (hl : xs.length < 17592186044416) :
    ∃ A c w', (Builtin.append_ #[27, 27] 27 #[v, .slice (some ⟨w.heap.size, 0, none⟩) 1 1]).run Try.prog (w.alloc (.cells #[.int .i64 x] 3)) = .ok (.slice A (xs.length + 1) c) w' ∧
      Owned w' base (.slice A (xs.length + 1) c) (xs ++ [x]) ∧ Below base w w' ∧ ∀ (g : Nat) (t : TypeId) (cs : Array Value), w.heap[g]? = some (Obj.cells cs t (0, 0)) → t ≠ 3 → w'.heap[g]? = some (Obj.cells cs t (0, 0)) := by
  have hbz := alloc_below w (.cells #[.int .i64 x] 3)
  obtain ⟨v', w', hr, ho', hg, hbel⟩ := run_append_ints _ _ _ _ _ _ _ 1 (h.kept hbz) (Ints.one w x) (Nat.le_trans hbase hbz.size) (by simp; omega)
  obtain ⟨A, c, rfl⟩ := ho'.form
  rw [List.length_append] at hr ho'
  refine ⟨A, c, w', hr, ho', (hbz.mono hbase).trans hbel, fun g t cs hc ht => ?_⟩
  have hlt : g < w.heap.size := by
    rcases Nat.lt_or_ge g w.heap.size with hlt | hge
    · exact hlt
    · rw [Array.getElem?_eq_none hge] at hc; cases hc
  rw [hg.block g (by simp; omega) ?_, hbz.block g hlt]
  · exact hc
  · intro e
    rcases h.2 with ⟨rfl, _⟩ | ⟨g', cap, cur, rfl, _, hh, _⟩
    · cases e
    · have : g = g' := by simpa [Value.ownBlock] using e
      subst this
      rw [hc] at hh
      injection hh with hh
      injection hh with _ h2 _
      exact ht h2

theorem Rnr.set {w : World} {g : Nat} {i st : Int} {A B : Option Addr} {n c m d s : Nat} (h : Rnr w g i st A n c B m d s) (t q : Nat) : Rnr ((w.setCell ⟨g, 4, none⟩ (.int .i64 t)).drewN q) g i st A n c B m d t := by
  have := heap_setCell_same w g 4 _ _ (Value.int .i64 t) h
  exact this
theorem Owned.off {w : World} {base g : Nat} {v : Value} {xs : List Int} {t : TypeId} {cs : Array Value} (h : Owned w base v xs) (hg : w.heap[g]? = some (.cells cs t (0, 0))) (ht : t ≠ 3) (k : Nat) (u : Value) (q : Nat) : Owned ((w.setCell ⟨g, k, none⟩ u).drewN q) base v xs := by
  refine ⟨h.1, ?_⟩
  rcases h.2 with e | ⟨g', cap, cur, hv, hbg, hh, r⟩
  · exact .inl e
  · refine .inr ⟨g', cap, cur, hv, hbg, ?_, r⟩
    show (w.setCell ⟨g, k, none⟩ u).heap[g']? = _
    rw [heap_setCell_other _ _ _ _ ?_]
    · exact hh
    · show g' ≠ g
      intro e
      subst e
      rw [hg] at hh
      injection hh with hh
      injection hh with _ h2 _
      exact ht h2

set_option maxHeartbeats 2000000 in
set_option maxRecDepth 100000 in
theorem prun {W w : World} {g : Nat} {i st n : Nat} {A B D : Option Addr} {c d s k e : Nat} {nx ot : List (List Int)} {xs : List Int} (hM : Mok i st n nx ot) (hx : Lists W A n nx) (ho : Lists W B n ot) (hb : Below W.heap.size W w)
    (hR : Rnr w g i st A n c B n d s) (hg : W.heap.size ≤ g) (hs : s < n) (hD : Ints W D k xs) (hS : ∀ x, x ∈ xs → 0 ≤ x ∧ x < i) :
    Calls Try.prog 66 #[.pointer (some ⟨g, 0, none⟩), .slice D k e] w fun e w' => ∃ A' c', e = .returned (.slice A' k c') ∧ Owned w' W.heap.size (.slice A' k c') (runO nx ot s xs) ∧ Below W.heap.size W w' ∧ Rnr w' g i st A n c B n d (runS nx s xs) := by
  have L := Lib.hid hD.1
  have hk := hD.2.1
  have HS := Lib.hid hS
  have HR := Lib.hid hR
  clear hS hR
  have hrn : (101 : TypeId) ≠ 3 := by decide
  go_enter Try.func66, Try.ntmps66
  go_wp2
  go_loopw [5, 10] (fun v j wr => ∃ (q : Nat) (A' : Option Addr) (c' : Nat), q ≤ k ∧ j = .int .i64 q ∧ v = .slice A' q c' ∧ Owned wr W.heap.size (.slice A' q c') (runO nx ot s (xs.take q)) ∧ Below W.heap.size W wr ∧ Rnr wr g i st A n c B n d (runS nx s (xs.take q))) (fun _ j _ => k - (intOf j).toNat)
  case atStart => exact ⟨0, none, 0, Nat.zero_le _, rfl, rfl, Owned.nil _ _, hb, HR.out⟩
  case round =>
    obtain ⟨q, A', c', hq, rfl, rfl, hown, hbr, hR⟩ := hrel
    by_cases hlt : q < k
    · obtain ⟨b1, o1, rfl, _, hc1⟩ := (hD.below hbr).at_ hlt
      have hxm := HS.out (xs.getD q 0) (by rw [List.getD_eq_getElem?_getD, List.getElem?_eq_getElem (by rw [L.out]; exact hlt)]; exact List.getElem_mem _)
      have hO := Lib.hid (runO_next (nx := nx) (ot := ot) (s := s) (j := q) (xs := xs) (by rw [L.out]; exact hlt))
      have hT := Lib.hid (runS_next (nx := nx) (s := s) (j := q) (xs := xs) (by rw [L.out]; exact hlt))
      rw [show xs[q]?.getD 0 = xs.getD q 0 by simp] at hO hT
      generalize xs.getD q 0 = x at hc1 hxm hO hT
      obtain ⟨a, rfl⟩ : ∃ a : Nat, x = a := ⟨x.toNat, by omega⟩
      have ha : a < i := by omega
      rw [Int.toNat_natCast] at hO hT
      have hlast := hM.runS_lt (xs.take q) s hs (fun x hx => HS.out x (List.mem_of_mem_take hx))
      generalize hss : runS nx s (xs.take q) = s' at hR hO hT hlast
      have hlen : (runO nx ot s (xs.take q)).length = q := by rw [runO_len, List.length_take, L.out]; omega
      generalize runO nx ot s (xs.take q) = os at hown hO hlen
      have HL := Lib.hid hlen
      have HSS := Lib.hid hss
      have HRR := Lib.hid hR
      clear hss hlen
      have hset : ∀ q', Rnr ((wr.setCell ⟨g, 4, none⟩ (.int .i64 (nN nx s' a))).drewN q') g i st A n c B n d (nN nx s' a) := fun q' => hR.set (nN nx s' a) q'
      have HSET := Lib.hid hset
      have hoff : ∀ q', Owned ((wr.setCell ⟨g, 4, none⟩ (.int .i64 (nN nx s' a))).drewN q') W.heap.size (.slice A' q c') os := fun q' => hown.off hR hrn 4 _ q'
      have HOFF := Lib.hid hoff
      have hbs : ∀ q', Below W.heap.size W ((wr.setCell ⟨g, 4, none⟩ (.int .i64 (nN nx s' a))).drewN q') := fun q' => below_drewN (hbr.setCell (p := ⟨g, 4, none⟩) hg _) q'
      have HBS := Lib.hid hbs
      clear hset hoff hbs hR
      go_wp2_with fail
      refine (pstep hM hx ho hbr HRR.out hlast ha).mono ?_
      rintro e w1 ⟨rfl, q1, rfl⟩
      have h1 := HOFF.out q1
      have h2 := HBS.out q1
      have h3 := HSET.out q1
      clear HOFF HBS HSET
      generalize (wr.setCell ⟨g, 4, none⟩ (.int .i64 (nN nx s' a))).drewN q1 = w1 at h1 h2 h3 ⊢
      obtain ⟨A2, c2, w2, hr, ho2, hb2, hk2⟩ := run_append_one h1 (oN ot s' a) h2.size (by rw [HL.out]; omega)
      rw [← hO.out] at ho2
      rw [HL.out] at hr ho2
      have h4 := Lib.hid (hk2 g _ _ h3 hrn)
      clear hk2
      go_wp2_with (at_builtin; refine Lib.wpList_append_run _ rfl _ _ _ _ rfl _ _ rfl rfl _ _ hr ?_)
      go_roundw
      case rel => exact ⟨q + 1, A2, c2, by omega, by go_num, rfl, ho2, h2.trans hb2, by rw [hT.out]; exact h4.out⟩
      case measure => simp [intOf]; omega
    · obtain rfl : q = k := by omega
      have hall := Lib.hid (List.take_of_length_le (l := xs) (i := q) (by rw [L.out]; exact Nat.le_refl _))
      go_wp2
      go_ret
      rw [hall.out] at hown hR
      exact ⟨_, _, rfl, hown, hbr, hR⟩
end Go.Proofs.Ytedcdpmflcegbaa
end

section
/- Blocks that are as they were: of a type, all but one; rows apart. -/
namespace Go.Proofs.Ytedcdpmflcegbaa
open Go.RowKit

/-- The blocks of a type are as they were. -/
def KeptT (t : TypeId) (w w' : World) : Prop := ∀ (g : Nat) (cs : Array Value), w.heap[g]? = some (.cells cs t (0, 0)) → w'.heap[g]? = some (.cells cs t (0, 0))
theorem heap_lt {w : World} {g : Nat} {o : Obj} (h : w.heap[g]? = some o) : g < w.heap.size := by
  rcases Nat.lt_or_ge g w.heap.size with hlt | hge
  · exact hlt
  · rw [Array.getElem?_eq_none hge] at h; cases h
theorem KeptT.refl (t : TypeId) (w : World) : KeptT t w w := fun _ _ h => h
theorem KeptT.trans {t : TypeId} {a b c : World} (h : KeptT t a b) (k : KeptT t b c) : KeptT t a c := fun g cs e => k g cs (h g cs e)
theorem KeptT.of_below {t : TypeId} {w w' : World} (h : Below w.heap.size w w') : KeptT t w w' := fun g _ e => (h.block g (heap_lt e)).trans e
theorem KeptT.drewN (t : TypeId) (w : World) (q : Nat) : KeptT t w (w.drewN q) := fun _ _ h => h
theorem KeptT.off {t t' : TypeId} {w : World} {g k : Nat} {cs : Array Value} (hg : w.heap[g]? = some (.cells cs t' (0, 0))) (ht : t ≠ t') (u : Value) : KeptT t w (w.setCell ⟨g, k, none⟩ u) := fun g' cs' e => by
  rw [heap_setCell_other _ _ _ _ ?_]
  · exact e
  · show g' ≠ g
    intro e2
    subst e2
    rw [hg] at e
    injection e with e
    injection e with _ h2 _
    exact ht h2.symm
theorem KeptT.grown {t t' : TypeId} {w w' : World} {base size n : Nat} {v : Value} {xs : List Value} (h : w.grownBy w' v.ownBlock) (ho : w.ownsRow base t' size v n xs) (ht : t ≠ t') : KeptT t w w' := fun g cs e => by
  rw [h.block g (heap_lt e) ?_]
  · exact e
  · intro e2
    rcases ho.2 with ⟨rfl, _⟩ | ⟨g', cap, cur, rfl, _, hh, _⟩
    · cases e2
    · have : g = g' := by simpa [Value.ownBlock] using e2
      subst this
      rw [e] at hh
      injection hh with hh
      injection hh with _ h2 _
      exact ht h2

theorem Owned.keptT {w w' : World} {base : Nat} {v : Value} {xs : List Int} (h : Owned w base v xs) (hk : KeptT 3 w w') : Owned w' base v xs := by
  refine ⟨h.1, ?_⟩
  rcases h.2 with e | ⟨g, cap, cur, hv, hbg, hg, r⟩
  · exact .inl e
  · exact .inr ⟨g, cap, cur, hv, hbg, hk g cur hg, r⟩

theorem infol : (Try.prog.info? 27).map (fun i => (i.zero, i.size, i.bytes)) = some (some (.slice none 0 0), 1, 24) := by kernel_rfl

/-- All blocks but one are as they were. -/
def KeptB (r : Option Nat) (w w' : World) : Prop := ∀ (g : Nat) (o : Obj), w.heap[g]? = some o → r ≠ some g → w'.heap[g]? = some o
/-- Two rows lie in different blocks. -/
def Apart (v u : Value) : Prop := ∀ g, v.ownBlock = some g → u.ownBlock ≠ some g
theorem Apart.nil (u : Value) : Apart (.slice none 0 0) u := fun g h => by simp [Value.ownBlock] at h
theorem Apart.symm {v u : Value} (h : Apart v u) : Apart u v := fun g h1 h2 => h g h2 h1
/-- append turns a row's block or makes a new one. -/
def Moved (w : World) (v v' : Value) : Prop := v'.ownBlock = v.ownBlock ∨ ∃ g, w.heap.size ≤ g ∧ v'.ownBlock = some g
end Go.Proofs.Ytedcdpmflcegbaa
end

section
/- Rows of lists that a call owns: what they read as; append of a list. -/
namespace Go.Proofs.Ytedcdpmflcegbaa
open Go.RowKit

/-- The slice value v is a row of lists in blocks from base on, which the call may write. -/
def OwnedL (w : World) (base : Nat) (v : Value) (xss : List (List Int)) : Prop :=
  ∃ vs : List Value, w.ownsRow base 27 1 v xss.length vs ∧ ∀ j, j < xss.length → ∃ A c, vs[j]? = some (.slice A (xss.getD j []).length c) ∧ Owned w base (.slice A (xss.getD j []).length c) (xss.getD j [])

theorem OwnedL.nil (w : World) (base : Nat) : OwnedL w base (.slice none 0 0) [] := ⟨[], World.ownsRow_nil _ _ _ _, fun j h => absurd h (by simp)⟩
theorem OwnedL.form {w : World} {base : Nat} {v : Value} {xss : List (List Int)} (h : OwnedL w base v xss) : ∃ A c, v = .slice A xss.length c := by
  obtain ⟨vs, h, _⟩ := h
  rcases h.2 with ⟨rfl, h0⟩ | ⟨g, cap, cur, rfl, _⟩
  · have : xss.length = 0 := h0
    exact ⟨none, 0, by rw [this]⟩
  · exact ⟨_, _, rfl⟩
theorem OwnedL.keptT {w w' : World} {base : Nat} {v : Value} {xss : List (List Int)} (h : OwnedL w base v xss) (hk : KeptT 3 w w') (hl : KeptT 27 w w') : OwnedL w' base v xss := by
  obtain ⟨vs, h, hr⟩ := h
  refine ⟨vs, ⟨h.1, ?_⟩, fun j hj => ?_⟩
  · rcases h.2 with e | ⟨g, cap, cur, hv, hbg, hg, r⟩
    · exact .inl e
    · exact .inr ⟨g, cap, cur, hv, hbg, hl g cur hg, r⟩
  · obtain ⟨A, c, h1, h2⟩ := hr j hj
    exact ⟨A, c, h1, h2.keptT hk⟩
theorem OwnedL.kept {w w' : World} {base : Nat} {v : Value} {xss : List (List Int)} (h : OwnedL w base v xss) (hb : Below w.heap.size w w') : OwnedL w' base v xss := h.keptT (KeptT.of_below hb) (KeptT.of_below hb)
theorem OwnedL.lower {w : World} {base base' : Nat} {v : Value} {xss : List (List Int)} (h : OwnedL w base v xss) (hb : base' ≤ base) : OwnedL w base' v xss := by
  obtain ⟨vs, h, hr⟩ := h
  refine ⟨vs, ⟨h.1, ?_⟩, fun j hj => ?_⟩
  · rcases h.2 with e | ⟨g, cap, cur, hv, hbg, r⟩
    · exact .inl e
    · exact .inr ⟨g, cap, cur, hv, by omega, r⟩
  · obtain ⟨A, c, h1, h2⟩ := hr j hj
    exact ⟨A, c, h1, h2.lower hb⟩
theorem OwnedL.lists {w : World} {base : Nat} {A : Option Addr} {n c : Nat} {xss : List (List Int)} (h : OwnedL w base (.slice A n c) xss) (hm : xss.length ≤ 17592186044416) (hr : ∀ xs, xs ∈ xss → xs.length ≤ 17592186044416) : Lists w A n xss := by
  have hn : n = xss.length := by obtain ⟨A', c', e⟩ := h.form; cases e; rfl
  subst hn
  obtain ⟨vs, ho, hv⟩ := h
  refine ⟨rfl, hm, fun h0 => ?_⟩
  rcases ho.2 with ⟨e, h1⟩ | ⟨g, cap, cur, e, _, hg, _⟩
  · have : xss.length = 0 := h1
    omega
  · cases e
    refine ⟨g, 0, rfl, heap_lt hg, fun j hj => ?_⟩
    obtain ⟨A, c, h1, h2⟩ := hv j hj
    have h3 := World.ownsRow.cellAt ho j (by omega)
    refine ⟨A, _, c, ?_, h2.ints (hr _ ?_)⟩
    · rw [Nat.zero_add, h3, h1]
    · rw [List.getD_eq_getElem?_getD, List.getElem?_eq_getElem hj]; exact List.getElem_mem _

theorem OwnedL.lt {w : World} {base : Nat} {v : Value} {xss : List (List Int)} (h : OwnedL w base v xss) : ∀ k, v.ownBlock = some k → base ≤ k ∧ k < w.heap.size := by
  obtain ⟨vs, ho, _⟩ := h
  exact World.ownsRow.lt ho
theorem OwnedL.keptB {w w' : World} {base : Nat} {u v : Value} {xss : List (List Int)} (h : OwnedL w base v xss) (hk : KeptB u.ownBlock w w') (ha : Apart u v) (hi : KeptT 3 w w') : OwnedL w' base v xss := by
  obtain ⟨vs, ho, hr⟩ := h
  refine ⟨vs, ⟨ho.1, ?_⟩, fun j hj => ?_⟩
  · rcases ho.2 with e | ⟨g, cap, cur, hv, hbg, hg, r⟩
    · exact .inl e
    · exact .inr ⟨g, cap, cur, hv, hbg, hk g _ hg (fun e => ha g e (by rw [hv]; rfl)), r⟩
  · obtain ⟨A, c, h1, h2⟩ := hr j hj
    exact ⟨A, c, h1, h2.keptT hi⟩
theorem Apart.moved {w : World} {base : Nat} {v v' u : Value} {xss : List (List Int)} (h : Apart v u) (hm : Moved w v v') (hu : OwnedL w base u xss) : Apart v' u := by
  rcases hm with e | ⟨g, hg, e⟩
  · intro k hk; rw [e] at hk; exact h k hk
  · intro k hk h2
    rw [e] at hk
    injection hk with hk
    have := (hu.lt k h2).2
    omega

/-- append of one list to a row of lists. -/
theorem run_append_list {w : World} {base : Nat} {v : Value} {xss : List (List Int)} {B : Option Addr} {m d : Nat} {xs : List Int} (h : OwnedL w base v xss) (hx : Owned w base (.slice B m d) xs) (hbase : base ≤ w.heap.size) (hl : xss.length < 1759218604441) :
    ∃ A c w', (Builtin.append_ #[22, 22] 22 #[v, .slice (some ⟨w.heap.size, 0, none⟩) 1 1]).run Try.prog (w.alloc (.cells #[.slice B m d] 27)) = .ok (.slice A (xss.length + 1) c) w' ∧
      OwnedL w' base (.slice A (xss.length + 1) c) (xss ++ [xs]) ∧ Below base w w' ∧ (∀ t, t ≠ 27 → KeptT t w w') ∧ KeptB v.ownBlock w w' ∧ Moved w v (.slice A (xss.length + 1) c) := by
  obtain ⟨i, hi, hz0, hz1, hz2⟩ := info_parts infol
  obtain ⟨vs, ho, hv⟩ := h
  have hbz := alloc_below w (.cells #[.slice B m d] 27)
  have ho1 : (w.alloc (.cells #[.slice B m d] 27)).ownsRow base 27 1 v xss.length vs := by
    refine ⟨ho.1, ?_⟩
    rcases ho.2 with e | ⟨g, cap, cur, hv, hbg, hg, r⟩
    · exact .inl e
    · exact .inr ⟨g, cap, cur, hv, hbg, (hbz.block g (heap_lt hg)).trans hg, r⟩
  obtain ⟨v', w', hr, h1, h2, _, hmv⟩ := run_append_own_at (P := Try.prog) (w.alloc (.cells #[.slice B m d] 27)) base 22 22 27 i (.slice none 0 0) 1 24 Try.underlying22 hi hz0 hz1 hz2 rfl (by decide) v _ _ ho1 ⟨w.heap.size, 0, none⟩ 1 1 [.slice B m d] (by simp)
    (by
      intro j u hu
      cases j with
      | zero =>
        simp at hu
        subst hu
        simp [Addr.add]
      | succ j => simp at hu)
    (by intro u hu; simp at hu; subst hu; rfl) (by unfold maxLen; omega) (by omega) (Nat.le_trans hbase hbz.size)
  have hs : ∀ t, t ≠ 27 → KeptT t w w' := fun t ht => (KeptT.of_below hbz).trans (KeptT.grown h2 ho1 ht)
  have hform : ∃ A c, v' = .slice A (xss.length + 1) c := by
    rcases h1.2 with ⟨rfl, h0⟩ | ⟨g, cap, cur, rfl, _⟩
    · have := h1.1; rw [h0] at this; simp at this
    · exact ⟨_, _, rfl⟩
  obtain ⟨A, c, rfl⟩ := hform
  have hkb : KeptB v.ownBlock w w' := fun g o e hne => (h2.block g (Nat.lt_of_lt_of_le (heap_lt e) hbz.size) (fun e2 => hne e2.symm)).trans ((hbz.block g (heap_lt e)).trans e)
  have hmoved : Moved w v (.slice A (xss.length + 1) c) := by
    rcases hmv with e | e
    · exact .inl e
    · exact .inr ⟨_, by simp, e⟩
  have hn : m = xs.length := by obtain ⟨A', c', e⟩ := hx.form; cases e; rfl
  subst hn
  refine ⟨A, c, w', hr, ⟨vs ++ [.slice B xs.length d], by rw [List.length_append]; exact h1, fun j hj => ?_⟩, (hbz.mono hbase).trans ((Below.refl _ _).grown h2 (Nat.le_trans hbase hbz.size) (fun k hk => (World.ownsRow.lt ho1 k hk).1)), hs, hkb, hmoved⟩
  have hvl : vs.length = xss.length := by have := ho.1; omega
  by_cases e : j < xss.length
  · obtain ⟨A2, c2, h3, h4⟩ := hv j e
    have hg : (xss ++ [xs]).getD j [] = xss.getD j [] := by rw [List.getD_eq_getElem?_getD, List.getD_eq_getElem?_getD, List.getElem?_append_left e]
    rw [hg]
    exact ⟨A2, c2, by rw [List.getElem?_append_left (by omega)]; exact h3, h4.keptT (hs _ (by decide))⟩
  · have hjl : j = xss.length := by simp at hj; omega
    subst hjl
    have hg : (xss ++ [xs]).getD xss.length [] = xs := by simp
    rw [hg]
    exact ⟨B, d, by rw [List.getElem?_append_right (by omega), hvl]; simp, hx.keptT (hs _ (by decide))⟩

end Go.Proofs.Ytedcdpmflcegbaa
end

section
/- Rows of structs: each element some cells. -/
namespace Go.Proofs.Ytedcdpmflcegbaa
open Go.RowKit

/-- The slice value v is a row of elements of s cells each, of type e, which the call owns. -/
def Rws (w : World) (base : Nat) (e : TypeId) (s : Nat) (v : Value) (L : List (List Value)) : Prop := (∀ l, l ∈ L → l.length = s) ∧ w.ownsRow base e s v L.length L.flatten
theorem flat_at {s : Nat} : ∀ {L : List (List Value)}, (∀ l, l ∈ L → l.length = s) → ∀ {k r : Nat}, r < s → k < L.length → L.flatten[k * s + r]? = (L.getD k [])[r]?
  | [], _, k, r, _, h => absurd h (by simp)
  | l :: L, hl, 0, r, hr, _ => by
    have h1 := hl l (List.mem_cons_self ..)
    rw [List.flatten_cons, Nat.zero_mul, Nat.zero_add, List.getElem?_append_left (by omega)]
    rfl
  | l :: L, hl, k + 1, r, hr, h => by
    have h1 := hl l (List.mem_cons_self ..)
    have h2 : (k + 1) * s = k * s + s := Nat.succ_mul k s
    rw [List.flatten_cons, List.getElem?_append_right (by omega), h1, show (k + 1) * s + r - s = k * s + r by omega]
    exact flat_at (fun x hx => hl x (List.mem_cons_of_mem _ hx)) hr (by simpa using h)
section
variable {w w' : World} {base s : Nat} {e : TypeId} {v : Value} {L : List (List Value)}
theorem Rws.form (h : Rws w base e s v L) : ∃ A c, v = .slice A L.length c := by
  rcases h.2.2 with ⟨rfl, h0⟩ | ⟨g, cap, cur, rfl, _⟩
  · exact ⟨none, 0, by rw [h0]⟩
  · exact ⟨_, _, rfl⟩
theorem Rws.at_ (h : Rws w base e s v L) (hL : 0 < L.length) : ∃ g c, v = .slice (some ⟨g, 0, none⟩) L.length c ∧ base ≤ g ∧ g < w.heap.size ∧ L.length ≤ c ∧ ∀ k r, k < L.length → r < s → w.cell? ⟨g, k * s + r, none⟩ = (L.getD k [])[r]? := by
  rcases h.2.2 with ⟨_, h0⟩ | ⟨g, cap, cur, rfl, hbg, hg, hn, hm, hs, ht⟩
  · omega
  · refine ⟨g, cap, rfl, hbg, heap_lt hg, hn, fun k r hk hr => ?_⟩
    rw [cell_of_row w g (k * s + r) _ _ (0, 0) hg, ← flat_at h.1 hr hk, ← ht]
    have h3 : (k + 1) * s ≤ L.length * s := Nat.mul_le_mul_right s hk
    rw [Nat.succ_mul] at h3
    rw [List.getElem?_take_of_lt (by omega)]
    simp
theorem Rws.keptT (h : Rws w base e s v L) (hk : KeptT e w w') : Rws w' base e s v L := by
  refine ⟨h.1, h.2.1, ?_⟩
  rcases h.2.2 with h0 | ⟨g, cap, cur, rfl, hbg, hg, r⟩
  · exact .inl h0
  · exact .inr ⟨g, cap, cur, rfl, hbg, hk g _ hg, r⟩
theorem Rws.kept (h : Rws w base e s v L) (hb : Below w.heap.size w w') : Rws w' base e s v L := h.keptT (KeptT.of_below hb)
theorem Rws.nil (w : World) (base s : Nat) (e : TypeId) : Rws w base e s (.slice none 0 0) [] := ⟨fun _ h => absurd h (by simp), World.ownsRow_nil _ _ _ _⟩
/-- A literal of one element. -/
theorem Rws.one (w : World) (base : Nat) (e : TypeId) (l : List Value) (hb : base ≤ w.heap.size) : Rws (w.alloc (.cells l.toArray e)) base e l.length (.slice (some ⟨w.heap.size, 0, none⟩) 1 1) [l] := by
  refine ⟨fun x hx => by simp at hx; rw [hx], by simp, .inr ⟨w.heap.size, 1, l.toArray, rfl, hb, heap_alloc_new w _, by simp, by decide, by simp, by simp⟩⟩
/-- append of one element. -/
theorem run_append_rws {t bytes : Nat} {i : TypeInfo} {z : Value} (ht : Try.prog.underlying t = some (.slice e)) (hi : Try.prog.info? e = some i) (hz0 : i.zero = some z) (hz1 : i.size = s) (hz2 : i.bytes = bytes) (hzc : z.cells.size = s) (hs : 0 < s) (hby : bytes ≤ 64)
    (h : Rws w base e s v L) (l : List Value) (hl : l.length = s) (h1 : ∀ u, u ∈ l → u.oneCell' = true) (hbase : base ≤ w.heap.size) (hn : L.length < 1099511627776) :
    ∃ A c w1, (Builtin.append_ #[t, t] t #[v, .slice (some ⟨w.heap.size, 0, none⟩) 1 1]).run Try.prog (w.alloc (.cells l.toArray e)) = .ok (.slice A (L.length + 1) c) w1 ∧
      Rws w1 base e s (.slice A (L.length + 1) c) (L ++ [l]) ∧ Below base w w1 ∧ ∀ t', t' ≠ e → KeptT t' w w1 := by
  have hbz := alloc_below w (.cells l.toArray e)
  have ho1 := (h.kept hbz).2
  obtain ⟨v1, w1, hr, h2, h3, _⟩ := run_append_own (P := Try.prog) (w.alloc (.cells l.toArray e)) base t t e i z s bytes ht hi hz0 hz1 hz2 hzc hs v _ _ ho1 ⟨w.heap.size, 0, none⟩ 1 1 l (by omega)
    (by
      intro j u hu
      have hg := heap_alloc_new w (.cells l.toArray e)
      have ha : (⟨w.heap.size, 0, none⟩ : Addr).add j = ⟨w.heap.size, 0 + j, none⟩ := by simp [Addr.add]; omega
      rw [ha, cell_of_row _ _ (0 + j) _ _ (0, 0) hg, Nat.zero_add]
      simpa using hu)
    h1 (by unfold maxLen; omega) (Nat.le_trans (Nat.mul_le_mul_left _ hby) (by omega)) (Nat.le_trans hbase hbz.size)
  have hform : ∃ A c, v1 = .slice A (L.length + 1) c := by
    rcases h2.2 with ⟨rfl, h0⟩ | ⟨g, cap, cur, rfl, _⟩
    · omega
    · exact ⟨_, _, rfl⟩
  obtain ⟨A, c, rfl⟩ := hform
  refine ⟨A, c, w1, hr, ⟨fun x hx => ?_, ?_⟩, (hbz.mono hbase).trans ((Below.refl _ _).grown h3 (Nat.le_trans hbase hbz.size) (fun k hk => (World.ownsRow.lt ho1 k hk).1)), fun t' ht' => (KeptT.of_below hbz).trans (KeptT.grown h3 ho1 ht')⟩
  · rcases List.mem_append.1 hx with hx | hx
    · exact h.1 x hx
    · simp at hx; rw [hx]; exact hl
  · rw [List.length_append, List.flatten_append]
    simpa using h2
end
end Go.Proofs.Ytedcdpmflcegbaa
end

section
/- slices.Reverse of an owned row. -/
namespace Go.Proofs.Ytedcdpmflcegbaa
open Go.RowKit

/-- The list when t numbers from each end have been exchanged. -/
def rv (xs : List Int) (t : Nat) : List Int := (List.range xs.length).map fun m => if m < t ∨ xs.length ≤ m + t then xs.getD (xs.length - 1 - m) 0 else xs.getD m 0

theorem rv_len (xs : List Int) (t : Nat) : (rv xs t).length = xs.length := by unfold rv; simp
theorem rv_get (xs : List Int) (t m : Nat) (h : m < xs.length) : (rv xs t)[m]? = some (if m < t ∨ xs.length ≤ m + t then xs.getD (xs.length - 1 - m) 0 else xs.getD m 0) := by
  unfold rv; simp [h]
theorem rv_zero (xs : List Int) : rv xs 0 = xs := by
  apply List.ext_getElem?
  intro m
  rcases Nat.lt_or_ge m xs.length with h | h
  · rw [rv_get xs 0 m h, if_neg (by omega)]; simp [List.getD, h]
  · rw [List.getElem?_eq_none (by rw [rv_len]; exact h), List.getElem?_eq_none h]
theorem rv_end (xs : List Int) (t : Nat) (ht : xs.length ≤ 2 * t + 1) : rv xs t = xs.reverse := by
  apply List.ext_getElem?
  intro m
  rcases Nat.lt_or_ge m xs.length with h | h
  · rw [rv_get xs t m h, List.getElem?_reverse h]
    have h1 : xs.length - 1 - m < xs.length := by omega
    by_cases hc : m < t ∨ xs.length ≤ m + t
    · rw [if_pos hc]; simp [List.getD, h1]
    · rw [if_neg hc]
      have : xs.length - 1 - m = m := by omega
      rw [this]; simp [List.getD, h]
  · rw [List.getElem?_eq_none (by rw [rv_len]; exact h), List.getElem?_eq_none (by simpa using h)]
theorem rv_lo (xs : List Int) (t : Nat) (h : 2 * t + 1 < xs.length) : (rv xs t).getD t 0 = xs[t]?.getD 0 := by
  rw [List.getD, rv_get xs t t (by omega), if_neg (by omega)]; simp
theorem rv_hi (xs : List Int) (t : Nat) (h : 2 * t + 1 < xs.length) : (rv xs t).getD (xs.length - 1 - t) 0 = xs[xs.length - 1 - t]?.getD 0 := by
  rw [List.getD, rv_get xs t _ (by omega), if_neg (by omega)]; simp
theorem rv_step (xs : List Int) (t : Nat) (h : 2 * t + 1 < xs.length) : ((rv xs t).set t (xs[xs.length - 1 - t]?.getD 0)).set (xs.length - 1 - t) (xs[t]?.getD 0) = rv xs (t + 1) := by
  apply List.ext_getElem?
  intro m
  rcases Nat.lt_or_ge m xs.length with hm | hm
  · rw [rv_get xs (t + 1) m hm, List.getElem?_set, List.getElem?_set, rv_get xs t m hm]
    simp only [List.length_set, rv_len]
    by_cases h1 : xs.length - 1 - t = m
    · rw [if_pos h1, if_pos (by omega), if_pos (by omega)]
      have : xs.length - 1 - m = t := by omega
      rw [this]; simp
    · rw [if_neg h1]
      by_cases h2 : t = m
      · rw [if_pos h2, if_pos (by omega), if_pos (by omega), h2]; simp
      · rw [if_neg h2]
        by_cases h3 : m < t ∨ xs.length ≤ m + t
        · rw [if_pos h3, if_pos (by omega)]
        · rw [if_neg h3, if_neg (by omega)]
  · rw [List.getElem?_eq_none (by simpa [rv_len] using hm), List.getElem?_eq_none (by rw [rv_len]; exact hm)]

set_option maxHeartbeats 1000000 in
theorem reverse (A : Option Addr) (n c base : Nat) (xs : List Int) (w : World) (hm : n ≤ 17592186044416) (h : Owned w base (.slice A n c) xs) :
    Calls Try.prog 57 #[.slice A n c] w fun e w' => e = .returned (.tuple #[]) ∧ Owned w' base (.slice A n c) xs.reverse ∧ Below base w w' := by
  have hn : xs.length = n := by obtain ⟨A', c', e⟩ := h.form; cases e; rfl
  have L := Lib.hid hn
  rw [← rv_zero xs] at h
  clear hn
  go_enter Try.func57, Try.ntmps57
  go_wp2
  go_loopw [2, 3] (fun i j wr => ∃ (t : Nat) (jj : Int), (2 * t ≤ n + 1) ∧ i = .int .i64 t ∧ jj = (n : Int) - 1 - t ∧ j = .int .i64 jj ∧ Owned wr base (.slice A n c) (rv xs t) ∧ Below base w wr) (fun i _ _ => n - (intOf i).toNat)
  case atStart => exact ⟨0, _, by omega, rfl, by simp, rfl, h, Below.refl _ _⟩
  case round =>
    clear h
    obtain ⟨t, jj, ht, rfl, hjj, rfl, hown, hbr⟩ := hrel
    by_cases hlt : 2 * t + 1 < n
    · obtain ⟨q, hq⟩ : ∃ q : Nat, q = n - 1 - t := ⟨_, rfl⟩
      obtain rfl : jj = (q : Int) := by omega
      have hqn : q < n := by omega
      have htq : t < q := by omega
      have htn : t < n := by omega
      obtain ⟨g, hA, hg1, hg2, hfr⟩ := hown.head (by omega)
      subst hA
      have hI := hown.ints (by rw [rv_len, L.out]; exact hm)
      obtain ⟨g', o', e, _, hc1⟩ := hI.at_ (k := t) (by omega)
      cases e
      obtain ⟨g', o', e, _, hc2⟩ := hI.at_ (k := q) (by omega)
      cases e
      have hst := (hown.stored t (xs[q]?.getD 0)).stored q (xs[t]?.getD 0)
      have hstep := rv_step xs t (by rw [L.out]; exact hlt)
      have h1 := rv_lo xs t (by rw [L.out]; exact hlt)
      have h2 := rv_hi xs t (by rw [L.out]; exact hlt)
      rw [L.out, ← hq] at hstep h2
      rw [h1, Nat.zero_add] at hc1
      rw [h2, Nat.zero_add] at hc2
      rw [hstep] at hst
      have HST := Lib.hid hst
      have HQ := Lib.hid hq
      have f1 := hfr t
      have f2 := hfr q
      clear hstep h1 h2 hI hfr hst hq hjj hown
      go_wp2
      go_region
      go_wp2
      go_roundw
      case rel => exact ⟨t + 1, _, by omega, by go_num, by have := HQ.out; omega, rfl, HST.out, ((hbr.setCell (by exact hg1) _).setCell (by exact hg1) _).drew⟩
      case measure => simp [intOf]; omega
    · have hend := Lib.hid (rv_end xs t (by rw [L.out]; omega))
      have hge : jj ≤ (t : Int) := by omega
      clear hjj
      go_wp2
      go_end0
      exact ⟨rfl, by rw [← hend.out]; exact hown, hbr⟩
end Go.Proofs.Ytedcdpmflcegbaa
end

section
/- cover: words and states of a search. -/
namespace Go.Proofs.Ytedcdpmflcegbaa
open Go.RowKit

theorem infoca : (Try.prog.info? 95).map (fun i => (i.zero, i.size, i.bytes)) = some (some (.agg #[.int .i64 0, .int .i64 0, .int .i64 0]), 3, 24) := by kernel_rfl
def cellsC (e : Ent) : List Value := [.int .i64 e.p, .int .i64 e.j, .int .i64 e.x]
theorem cellsC_at {E : List Ent} {k : Nat} (hk : k < E.length) : (E.map cellsC).getD k [] = cellsC (E.getD k Ent.zero) := by
  rw [List.getD_eq_getElem?_getD, List.getD_eq_getElem?_getD, List.getElem?_map, List.getElem?_eq_getElem hk]; rfl
/-- A row of arrivals in its block, to be read. -/
def Crv (w : World) (g : Nat) (E : List Ent) : Prop := g < w.heap.size ∧ ∀ k, k < E.length → w.cell? ⟨g, k * 3, none⟩ = some (.int .i64 (E.getD k Ent.zero).p) ∧ w.cell? ⟨g, k * 3 + 1, none⟩ = some (.int .i64 (E.getD k Ent.zero).j) ∧ w.cell? ⟨g, k * 3 + 2, none⟩ = some (.int .i64 (E.getD k Ent.zero).x)
theorem Crv.below {w w' : World} {g : Nat} {E : List Ent} (h : Crv w g E) (hb : Below w.heap.size w w') : Crv w' g E := by
  refine ⟨Nat.lt_of_lt_of_le h.1 hb.size, fun k hk => ?_⟩
  obtain ⟨a, b, c⟩ := h.2 k hk
  exact ⟨(hb.cell (block_lt a)).trans a, (hb.cell (block_lt b)).trans b, (hb.cell (block_lt c)).trans c⟩
theorem Rws.crv {w : World} {base : Nat} {v : Value} {E : List Ent} (h : Rws w base 95 3 v (E.map cellsC)) (hE : 0 < E.length) : ∃ g c, v = .slice (some ⟨g, 0, none⟩) E.length c ∧ base ≤ g ∧ Crv w g E := by
  obtain ⟨g, c, rfl, hb, hg, _, hc⟩ := h.at_ (by rw [List.length_map]; exact hE)
  rw [List.length_map] at hc ⊢
  refine ⟨g, c, rfl, hb, hg, fun k hk => ?_⟩
  have h0 := hc k 0 hk (by decide)
  have h1 := hc k 1 hk (by decide)
  have h2 := hc k 2 hk (by decide)
  rw [cellsC_at hk] at h0 h1 h2
  exact ⟨h0, h1, h2⟩

set_option maxHeartbeats 4000000 in
set_option maxRecDepth 100000 in
theorem pword (g c k : Nat) (E : List Ent) (w : World) (hR : Crv w g E) (hE : Chn E) (hk : k < E.length) (hl : E.length ≤ 1048576) :
    Calls Try.prog 31 #[.slice (some ⟨g, 0, none⟩) E.length c, .int .i64 k] w fun e w' => ∃ A' c', e = .returned (.slice A' (E.getD k Ent.zero).w.length c') ∧ Owned w' w.heap.size (.slice A' (E.getD k Ent.zero).w.length c') (E.getD k Ent.zero).w ∧ Below w.heap.size w w' := by
  have z2 := hE.z
  obtain ⟨W, hW⟩ : ∃ W, W = (E.getD k Ent.zero).w := ⟨_, rfl⟩
  have HWW := Lib.hid hW
  rw [← hW]
  clear hW
  have HWL := Lib.hid (show W.length ≤ 1048576 by rw [HWW.out]; have := hE.wl k hk; omega)
  have hwl := HWL.out
  have HR := Lib.hid hR
  have HE := Lib.hid hE
  have HZ2 := Lib.hid z2
  clear hR hE z2
  go_enter Try.func31, Try.ntmps31
  go_wp2
  go_loopw [1, 5] (fun v1 v5 wr => ∃ (j : Nat) (L : List Int) (A2 : Option Addr) (c2 : Nat), v1 = .int .i64 j ∧ v5 = .slice A2 L.length c2 ∧ j < E.length ∧ W = (E.getD j Ent.zero).w ++ L.reverse ∧ Owned wr w.heap.size (.slice A2 L.length c2) L ∧ Below w.heap.size w wr) (fun v1 _ _ => (intOf v1).toNat)
  case atStart => exact ⟨k, [], none, 0, rfl, rfl, hk, by rw [HWW.out]; simp, World.ownsRow_nil _ _ _ _, Below.refl _ _⟩
  case round =>
    obtain ⟨j, L, A2, c2, rfl, rfl, hj, hW, hO, hbr⟩ := hrel
    obtain ⟨a0, a1, a2⟩ := (HR.out.below hbr).2 j hj
    have hLW : L.length ≤ W.length := by rw [hW, List.length_append, List.length_reverse]; omega
    have HW := Lib.hid hW
    have HO := Lib.hid hO
    have HBR := Lib.hid hbr
    clear hW hO hbr
    by_cases hj0 : j = 0
    · subst hj0
      have hWL : W = L.reverse := by rw [HW.out, HZ2.out]; rfl
      have HWL2 := Lib.hid hWL
      clear hWL a0 a1 a2
      go_wp2_with fail
      refine (reverse A2 L.length c2 w.heap.size L _ (by omega) HO.out).mono ?_
      rintro e w2 ⟨rfl, hO2, hb2⟩
      rw [← HWL2.out] at hO2
      have hbb := HBR.out.trans hb2
      have hll : L.length = W.length := by rw [HWL2.out, List.length_reverse]
      go_wp2
      go_ret
      exact ⟨A2, c2, by rw [← hll]; rfl, by rw [← hll]; exact hO2, hbb⟩
    · obtain ⟨hb1, hb2⟩ := HE.out.bk j (by omega) hj
      have HB1 := Lib.hid hb1
      have HB2 := Lib.hid hb2
      clear hb1 hb2
      have hd : decide ((0 : Int) < (j : Int)) = true := decide_eq_true (by omega)
      generalize hX : (E.getD j Ent.zero).x = x at a2 HB2
      generalize hJ : (E.getD j Ent.zero).j = jj at a1 HB1 HB2
      have HJ := Lib.hid hJ
      clear hX hJ a0
      have hlj : jj < E.length := by have := HB1.out; omega
      have HLJ := Lib.hid hlj
      clear hlj
      obtain ⟨A3, c3, w3, hr, hO3, hb3, _⟩ := run_append_one HO.out (x : Int) HBR.out.size (by omega)
      have HO3 := Lib.hid hO3
      have hbr3 := HBR.out.trans hb3
      obtain ⟨_, d1, _⟩ := (HR.out.below hbr3).2 j hj
      rw [HJ.out] at d1
      have HBR3 := Lib.hid hbr3
      clear hO3 hb3 hbr3
      go_wp2_with (at_builtin; refine Lib.wpList_append_run _ rfl _ _ _ _ rfl _ _ rfl rfl _ _ hr ?_)
      clear hr a1 a2
      go_wp2
      go_roundw
      case rel => exact ⟨jj, L ++ [(x : Int)], A3, c3, by go_num, by rw [List.length_append]; rfl, HLJ.out, by rw [HW.out, HB2.out, List.reverse_append, List.append_assoc]; rfl, by rw [List.length_append]; exact HO3.out, HBR3.out⟩
      case measure => have := HB1.out; simp [intOf]; omega
end Go.Proofs.Ytedcdpmflcegbaa
end

section
/- Reach of a machine. -/
namespace Go.Proofs.Ytedcdpmflcegbaa
open Go.RowKit

theorem infob : (Try.prog.info? 4).map (fun i => (i.zero, i.size, i.bytes)) = some (some (.bool false), 1, 1) := by kernel_rfl

/-- The row of the seen states. -/
def Seen (w : World) (g : Nat) (bs : List Bool) : Prop := w.heap[g]? = some (.cells (bs.map Value.bool).toArray 4 (0, 0))
theorem Seen.at_ {w : World} {g : Nat} {bs : List Bool} (h : Seen w g bs) {x : Nat} (hx : x < bs.length) : w.cell? ⟨g, x, none⟩ = some (.bool (bs.getD x false)) ∧ w.frozen? ⟨g, x, none⟩ = false := by
  refine ⟨?_, frozen_of_row w g x _ _ h⟩
  rw [cell_of_row w g x _ _ (0, 0) h]
  simp [List.getD, hx]
theorem Seen.set {w : World} {g : Nat} {bs : List Bool} (h : Seen w g bs) (x : Nat) (b : Bool) : Seen (w.setCell ⟨g, x, none⟩ (.bool b)) g (bs.set x b) := by
  have := heap_setCell_same w g x _ _ (Value.bool b) h
  unfold Seen
  rw [this]
  simp [List.map_set]
theorem Seen.of_below {w w' : World} {g : Nat} {bs : List Bool} (h : Seen w g bs) {b : Nat} (hb : Below b w w') (hg : g < b) : Seen w' g bs := (hb.block g hg).trans h

theorem made_bools (n : Nat) : madeCells (Value.bool false).cells (n * 1) = ((List.replicate n false).map Value.bool).toArray := by
  apply Array.ext'
  rw [show (Value.bool false).cells = #[Value.bool false] from rfl, Nat.mul_one, toList_madeCells_one, List.map_replicate]

/-- make([]bool, n). -/
theorem wpList_make_bools {ops : Array Oper} {rest : List Oper} {o : Oper} {a : Act} {Q : Exit → Act → World → Prop} (w : World) (hg : o.guard = none) (l c : Operand) (hop : o.op = Op.makeSlice 83 l c)
    (kl kc : IntKind) (n : Nat) (hl : a.eval l = .int kl n) (hc : a.eval c = .int kc n) (hn : n ≤ 17592186044416)
    (hK : ∀ w', Seen w' w.heap.size (List.replicate n false) → Below w.heap.size w w' → wpList Try.prog ops Q rest (a.put o.dst (.slice (some ⟨w.heap.size, 0, none⟩) n n)) w') :
    wpList Try.prog ops Q (o :: rest) a w := by
  obtain ⟨i, hi, hz0, hz1, hz2⟩ := info_parts infob
  refine wpList_plain hg fun K hK' => ?_
  have hr := run_make (P := Try.prog) w 83 4 i (.bool false) Try.underlying83 hi hz0 kl kc n n (by omega) (by omega) (by rw [hz2]; omega) (by omega)
  rw [hz1, Int.toNat_natCast, made_bools] at hr
  have hS : Seen (w.alloc (.cells ((List.replicate n false).map Value.bool).toArray 4)) w.heap.size (List.replicate n false) := heap_alloc_new w _
  have hB := alloc_below w (.cells ((List.replicate n false).map Value.bool).toArray 4)
  generalize w.alloc (.cells ((List.replicate n false).map Value.bool).toArray 4) = w' at hr hS hB
  unfold Oper.wp
  simp [execOp, hop, hl, hc, hr, Result.andThen]
  exact hK' _ _ (hK w' hS hB)

set_option maxHeartbeats 4000000 in
set_option maxRecDepth 100000 in
theorem preach_ok (i st n : Nat) (A B : Option Addr) (c d : Nat) (nx ot : List (List Int)) (w : World) (hx : Lists w A n nx) (ho : Lists w B n ot) (hM : Mok i st n nx ot) :
    Calls Try.prog 38 #[.agg #[.int .i64 i, .int .i64 st, .slice A n c, .slice B n d]] w fun e w' => ∃ A' c', e = .returned (.slice A' (rch nx i st).length c') ∧ Owned w' w.heap.size (.slice A' (rch nx i st).length c') (zs (rch nx i st)) ∧ Below w.heap.size w w' := by
  have HV := Lib.hid hM.vld
  have hn := hx.2.1
  have hst := hM.st
  have hn128 := hM.n2
  have hb0 := alloc_below w (.cells #[.int .i64 i, .int .i64 st, .slice A n c, .slice B n d] 24)
  have HZ := Lib.hid (show (w.alloc (.cells #[.int .i64 i, .int .i64 st, .slice A n c, .slice B n d] 24)).heap.size = w.heap.size + 1 by simp)
  obtain ⟨R, hR⟩ : ∃ R, R = rch nx i st := ⟨_, rfl⟩
  have HR := Lib.hid (hR.trans (show rch nx i st = bfs nx i n [st] 0 by unfold rch; rw [hM.nxl]))
  rw [← hR]
  clear hR
  go_enter Try.func38, Try.ntmps38
  go_wp2_with fail
  refine (pvalid _ _ _ _ _ _ _ _ _ _ _ (hx.below hb0) (ho.below hb0)).mono ?_
  rintro e w1 ⟨rfl, b1⟩
  rw [HZ.out] at b1
  rw [HV.out]
  obtain ⟨k0, k1, k2, k3⟩ := box4 b1
  have hl0 : Owned (w1.alloc (.cells #[.int .i64 st] 3)) (w.heap.size + 1) (.slice (some ⟨w1.heap.size, 0, none⟩) 1 1) (zs [st]) := Owned.literal w1 _ [(st : Int)] _ 1 (by have := b1.size; simpa using this) rfl rfl (by simp)
  have hz2 : w.heap.size + 1 ≤ w1.heap.size := by have := b1.size; simpa using this
  have hl1 := alloc_below w1 (.cells #[.int .i64 st] 3)
  have k2a := (hl1.cell (p := ⟨w.heap.size, 2, none⟩) (by show w.heap.size < _; omega)).trans k2
  have hs1 : (w1.alloc (.cells #[.int .i64 st] 3)).heap.size = w1.heap.size + 1 := by simp
  have HS1 := Lib.hid hs1
  have HL0 := Lib.hid hl0
  clear hs1 hl0
  have hz2 : w.heap.size + 1 ≤ w1.heap.size := by have := b1.size; simpa using this
  go_wp2_with (refine wpList_make_bools _ rfl _ _ rfl .i64 .i64 n rfl rfl hn ?_; intro w2 se2 b2; rw [HS1.out] at se2 b2; have b3 := b1.trans ((hl1.mono hz2).trans (b2.mono (Nat.le_succ_of_le hz2))); obtain ⟨k0, k1, k2, k3⟩ := box4 b3; obtain ⟨sc, sf⟩ := se2.at_ (x := st) (by simpa using hst); have SE2 := Lib.hid se2; have B2 := Lib.hid b2; clear se2 b2 b3)
  have b2 := B2.out
  have se2 := SE2.out
  have b3 : Below (w.heap.size + 1) (w.alloc (.cells #[.int .i64 i, .int .i64 st, .slice A n c, .slice B n d] 24)) w2 := b1.trans ((hl1.mono hz2).trans (b2.mono (by omega)))
  have hown2 : Owned w2 (w.heap.size + 1) (.slice (some ⟨w1.heap.size, 0, none⟩) 1 1) (zs [st]) := HL0.out.kept (by rw [HS1.out]; exact b2)
  have se3 := se2.set st true
  rw [← seenOf_nil, seenOf_set] at se3
  have ow3 := hown2.off se2 (by decide) st (.bool true) 0
  have bw3 := b3.setCell (p := ⟨w1.heap.size + 1, st, none⟩) (by show w.heap.size + 1 ≤ w1.heap.size + 1; omega) (.bool true)
  generalize hg : w1.heap.size + 1 = g at se3 ow3 bw3 ⊢
  have hgb : w.heap.size + 1 ≤ g := by omega
  clear se2 b2 hown2 HL0 SE2 B2 b3 sc sf k0 k1 k2 k3 hl1 HS1 k2a
  have hbt : (4 : TypeId) ≠ 3 := by decide
  clear hg b1
  go_loopw [3, 5] (fun v jv wr => ∃ (l : List Nat) (j : Nat) (A' : Option Addr) (c' : Nat), j ≤ l.length ∧ jv = .int .i64 j ∧ v = .slice A' l.length c' ∧ Stt n l ∧ R = bfs nx i n l j ∧ Owned wr (w.heap.size + 1) (.slice A' l.length c') (zs l) ∧ Seen wr g (seenOf n l) ∧ Below (w.heap.size + 1) (w.alloc (.cells #[.int .i64 i, .int .i64 st, .slice A n c, .slice B n d] 24)) wr) (fun _ jv _ => n - (intOf jv).toNat)
  case atStart => exact ⟨[st], 0, _, 1, Nat.zero_le _, rfl, rfl, Stt.one hst, HR.out, ow3, se3, bw3⟩
  case round =>
    obtain ⟨l, j, A', c', hj, rfl, rfl, hS, hB, hown, hseen, hbr⟩ := hrel
    have hbw := hb0.trans (hbr.mono (Nat.le_succ _))
    obtain ⟨k0, k1, k2, k3⟩ := box4 hbr
    have HB := Lib.hid hB
    have HSS := Lib.hid hseen
    clear hB hseen
    have hll := hS.len
    by_cases hlt : j < l.length
    · have hjn : j < n := by omega
      obtain ⟨b1, o1, rfl, hb1, hc1⟩ := (hown.ints (by rw [zs_len]; omega)).at_ (k := j) (by omega)
      rw [zs_at] at hc1
      have hs : l.getD j 0 < n := hS.2 _ (getD_mem hlt)
      have HNX := Lib.hid (bfs_on hM hS hlt)
      generalize l.getD j 0 = s at hc1 hs HNX
      obtain ⟨g1, p1, A1, n1, c1, rfl, hg1, hd1, hr1⟩ := hx.at_ hs
      have hi1 := (hM.row s hs).1
      have hl1 := hr1.1
      obtain rfl : n1 = i := by omega
      have hi64 := hM.i2
      have e1 := (hbw.cell (p := ⟨g1, p1 + s, none⟩) hg1).trans hd1
      clear hl1 hi1 hd1
      have HOW := Lib.hid hown
      clear hown
      go_wp2
      go_quiet (fail)
      go_wp2
      obtain ⟨wo, rfl⟩ : ∃ wo : World, wo = wr := ⟨_, rfl⟩
      have HBR := Lib.hid hbr
      clear hbr hbw k0 k1 k2 k3 hc1 hb1 e1
      go_loopw [3, 37] (fun v av wq => ∃ (a : Nat) (A2 : Option Addr) (c2 : Nat), a ≤ n1 ∧ av = .int .i64 a ∧ v = .slice A2 (addR nx s l a).length c2 ∧ Owned wq (w.heap.size + 1) (.slice A2 (addR nx s l a).length c2) (zs (addR nx s l a)) ∧ Seen wq g (seenOf n (addR nx s l a)) ∧ Below (w.heap.size + 1) (w.alloc (.cells #[.int .i64 n1, .int .i64 st, .slice (some ⟨g1, p1, none⟩) n c, .slice B n d] 24)) wq) (fun _ av _ => n1 - (intOf av).toNat)
      case atStart => exact ⟨0, _, _, Nat.zero_le _, rfl, rfl, HOW.out, HSS.out, below_drewN HBR.out _⟩
      case round =>
        obtain ⟨a, A2, c2, ha, rfl, rfl, hown, hseen, hbr⟩ := hrel
        have hSa := addR_stt hM hS hs a ha
        have hbw := hb0.trans (hbr.mono (Nat.le_succ _))
        by_cases hla : a < n1
        · obtain ⟨g3, p3, rfl, hg3, hy1⟩ := hr1.at_ hla
          rw [hM.nN_eq hs hla] at hy1
          have ht := hM.nN_lt hs hla
          have hIn := Lib.hid (fun h => addR_in (nx := nx) (s := s) (a := a) (l := l) h)
          have hOut := Lib.hid (fun h => addR_out (nx := nx) (s := s) (a := a) (l := l) h)
          generalize nN nx s a = t at hy1 ht hIn hOut
          have e3 := (hbw.cell (p := ⟨g3, p3 + a, none⟩) hg3).trans hy1
          obtain ⟨e4, e5⟩ := hseen.at_ (x := t) (by rw [seenOf_len]; exact ht)
          rw [seenOf_at ht] at e4
          clear hy1
          generalize addR nx s l a = l' at hown hseen hSa hIn hOut e4
          have hll' := hSa.len
          by_cases hm : t ∈ l'
          · rw [decide_eq_true hm] at e4
            have hnx := Lib.hid (hIn.out hm)
            have HOW := Lib.hid hown
            have HSE := Lib.hid hseen
            have HB2 := Lib.hid hbr
            clear hown hseen hbr hbw hIn hOut hm
            go_wp2
            go_roundw
            case rel => exact ⟨a + 1, A2, c2, by omega, by go_num, by rw [hnx.out], by rw [hnx.out]; exact HOW.out, by rw [hnx.out]; exact HSE.out, HB2.out⟩
            case measure => simp [intOf]; omega
          · rw [decide_eq_false hm] at e4
            have hnx := Lib.hid (hOut.out hm)
            have ho1 := hown.off hseen hbt t (.bool true) 0
            have hs1 := hseen.set t true
            rw [seenOf_set] at hs1
            have hb1 := hbr.setCell (p := ⟨g, t, none⟩) hgb (.bool true)
            have ho1 : Owned (wr.setCell ⟨g, t, none⟩ (.bool true)) (w.heap.size + 1) (.slice A2 l'.length c2) (zs l') := ho1
            have hsz : w.heap.size + 1 ≤ (wr.setCell ⟨g, t, none⟩ (.bool true)).heap.size := by have := hb1.size; simpa using this
            clear hown hseen hbr hbw hIn hOut hm
            obtain ⟨A3, c3, w4, hrn, ho4, hb4, hk4⟩ := run_append_one ho1 (t : Int) hsz (by rw [zs_len]; omega)
            have hs4 := Lib.hid (hk4 g _ _ hs1 hbt)
            have hb5 := Lib.hid (hb1.trans hb4)
            rw [zs_len] at hrn ho4
            have hz : zs l' ++ [(t : Int)] = zs (l' ++ [t]) := by rw [zs_append, zs_one]
            rw [hz] at ho4
            have hlen : (l' ++ [t]).length = l'.length + 1 := by simp
            have HL := Lib.hid hlen
            have HO4 := Lib.hid ho4
            clear hk4 hb1 hb4 hs1 ho1 hz hlen ho4
            have hh : (wr.setCell ⟨g, t, none⟩ (.bool true)).heap.size = wr.heap.size := by simp
            rw [hh] at hrn
            clear hh
            go_wp2_with (at_builtin; refine Lib.wpList_append_run _ rfl _ _ _ _ rfl _ _ rfl rfl _ _ hrn ?_)
            go_roundw
            case rel => exact ⟨a + 1, A3, c3, by omega, by go_num, by rw [hnx.out, HL.out], by rw [hnx.out, HL.out]; exact HO4.out, by rw [hnx.out]; exact hs4.out, hb5.out⟩
            case measure => simp [intOf]; omega
        · obtain rfl : a = n1 := by omega
          have hl' := addR_len (nx := nx) (s := s) (l := l) a
          have HX := Lib.hid (HB.out.trans HNX.out.symm)
          generalize addR nx s l a = l' at hown hseen hSa hl' HX
          have HOW := Lib.hid hown
          have HSE := Lib.hid hseen
          clear hown hseen
          go_wp2
          go_roundw
          case rel => exact ⟨l', j + 1, A2, c2, by omega, by go_num, rfl, hSa, HX.out, HOW.out, HSE.out, hbr⟩
          case measure => simp [intOf]; omega
    · have hfin := Lib.hid (HB.out.trans (bfs_end nx i n hlt))
      have HOW := Lib.hid hown
      clear hown
      go_wp2
      go_ret
      exact ⟨A', c', by rw [hfin.out]; rfl, by rw [hfin.out]; exact Owned.lower HOW.out (Nat.le_succ _), hbw⟩

theorem preach_bad (i st : Int) (A B : Option Addr) (n c m d : Nat) (nx ot : List (List Int)) (w : World) (hx : Lists w A n nx) (ho : Lists w B m ot) (hv : ¬ vld i st nx ot = 0) :
    Calls Try.prog 38 #[.agg #[.int .i64 i, .int .i64 st, .slice A n c, .slice B m d]] w fun e w' => e = .returned (.slice none 0 0) ∧ Below w.heap.size w w' := by
  have hb0 := alloc_below w (.cells #[.int .i64 i, .int .i64 st, .slice A n c, .slice B m d] 24)
  have hne : (vld i st nx ot != 0) = true := by simpa using hv
  go_enter Try.func38, Try.ntmps38
  go_wp2_with fail
  refine (pvalid _ _ _ _ _ _ _ _ _ _ _ (hx.below hb0) (ho.below hb0)).mono ?_
  rintro e w1 ⟨rfl, b1⟩
  generalize vld i st nx ot = E at hne hv
  clear hv
  go_wp2
  go_ret
  exact ⟨rfl, bt hb0 b1⟩
end Go.Proofs.Ytedcdpmflcegbaa
end

section
/- The line of seen states. -/
namespace Go.Proofs.Ytedcdpmflcegbaa
open Go.RowKit

def isF : Value → Bool
  | .bool b => !b
  | _ => false
def allF : List Value → Bool
  | [] => true
  | v :: l => match isF v with
    | true => allF l
    | false => false
theorem allF_eq : ∀ {l : List Value}, allF l = true → l = List.replicate l.length (Value.bool false)
  | [], _ => rfl
  | v :: l, h => by
    unfold allF at h
    cases hv : isF v with
    | false => rw [hv] at h; exact absurd h (by simp)
    | true =>
      rw [hv] at h
      have h1 := allF_eq (l := l) h
      cases v with
      | bool b => cases b with
        | false => rw [List.length_cons, List.replicate_succ, ← h1]
        | true => simp [isF] at hv
      | _ => simp [isF] at hv
theorem ln_all : allF Try.zeroCells70.toList = true := by kernel_rfl
theorem ln_zero : Try.zeroCells70 = ((List.replicate 128 false).map Value.bool).toArray := by
  apply Array.ext'
  have h := allF_eq ln_all
  rw [Array.length_toList, Try.zeroCells70_size] at h
  rw [h, List.map_replicate]
/-- A line of truth values as cells. -/
def lnOf (f : Nat → Bool) : List Bool := (List.range 128).map f
theorem lnOf_len (f : Nat → Bool) : (lnOf f).length = 128 := by simp [lnOf]
theorem lnOf_at (f : Nat → Bool) {p : Nat} (hp : p < 128) : (lnOf f)[p]? = some (f p) := by
  unfold lnOf
  rw [List.getElem?_map, List.getElem?_range hp]; rfl
theorem lnOf_set (f : Nat → Bool) (p : Nat) : (lnOf f).set p true = lnOf fun a => f a || a == p := by
  apply List.ext_getElem
  · simp [lnOf]
  · intro k h1 h2
    rw [List.getElem_set]
    by_cases e : p = k
    · subst e; simp [lnOf]
    · rw [if_neg e]
      have e2 : ¬ k = p := fun h => e h.symm
      simp [lnOf, e2]
/-- The block of the seen states. -/
def Ln (w : World) (g : Nat) (f : Nat → Bool) : Prop := w.heap[g]? = some (.cells ((lnOf f).map Value.bool).toArray 70 (0, 0))
section
variable {w w' : World} {g : Nat} {f : Nat → Bool}
theorem Ln.at_ (h : Ln w g f) {p : Nat} (hp : p < 128) : w.cell? ⟨g, p, none⟩ = some (.bool (f p)) ∧ w.frozen? ⟨g, p, none⟩ = false := by
  refine ⟨?_, frozen_of_row w g _ _ _ h⟩
  rw [cell_of_row w g p _ _ (0, 0) h]
  simp [lnOf_at f hp]
theorem Ln.set (h : Ln w g f) (p : Nat) : Ln (w.setCell ⟨g, p, none⟩ (.bool true)) g fun a => f a || a == p := by
  have := heap_setCell_same w g p _ _ (Value.bool true) h
  unfold Ln
  rw [this, ← lnOf_set f p]
  simp [List.map_set]
theorem Ln.kept (h : Ln w g f) (hb : Below w.heap.size w w') : Ln w' g f := (hb.block g (heap_lt h)).trans h
theorem Ln.keptT (h : Ln w g f) (hk : KeptT 70 w w') : Ln w' g f := hk g _ h
end
theorem seenL {E : List Ent} {e : Ent} (p : Nat) (h1 : e.p = p) (h2 : e.q = 0) : (fun a => decide (hasE E a 0) || a == p) = fun a => decide (hasE (E ++ [e]) a 0) := by
  funext a
  have : hasE (E ++ [e]) a 0 ↔ hasE E a 0 ∨ a = p := by
    unfold hasE
    rw [List.map_append, List.mem_append]
    constructor
    · rintro (h | h)
      · exact .inl h
      · simp [Ent.pr, h1, h2] at h; exact .inr h
    · rintro (h | rfl)
      · exact .inl h
      · exact .inr (by simp [Ent.pr, h1, h2])
  by_cases h3 : hasE E a 0
  · simp [h3, this]
  · by_cases h4 : a = p
    · subst h4; simp [this]
    · have h5 : ¬ hasE (E ++ [e]) a 0 := fun h => (this.1 h).elim h3 h4
      rw [decide_eq_false h3, decide_eq_false h5, Bool.false_or]
      simp [h4]
theorem ln_nil : (fun (_ : Nat) => false) = fun a => decide (hasE [] a 0) := by
  funext a; simp [hasE]
theorem Ln.new (w : World) : Ln (w.alloc (.cells Try.zeroCells70 70)) w.heap.size (fun _ => false) := by
  have := heap_alloc_new w (.cells Try.zeroCells70 70)
  unfold Ln
  rw [this, ln_zero]
  have e : lnOf (fun _ => false) = List.replicate 128 false := by
    unfold lnOf
    rw [List.map_const', List.length_range]
  rw [e]
end Go.Proofs.Ytedcdpmflcegbaa
end

section
/- The trimmed machine. -/
namespace Go.Proofs.Ytedcdpmflcegbaa

theorem addR_has {nx : List (List Int)} {s : Nat} {l : List Nat} : ∀ {b : Nat}, ∀ a, a < b → nN nx s a ∈ addR nx s l b
  | 0, a, h => absurd h (by omega)
  | b + 1, a, h => by
    by_cases e : a = b
    · subst e; exact mem_addN _ _
    · exact addN_mem (addR_has a (by omega))
theorem addR_mem {nx : List (List Int)} {s : Nat} {l : List Nat} {x : Nat} (h : x ∈ l) (a : Nat) : x ∈ addR nx s l a := by obtain ⟨t, ht⟩ := addR_pre nx s l a; rw [ht]; simp [h]

theorem bfs_closed {i st n : Nat} {nx ot : List (List Int)} (hM : Mok i st n nx ot) : ∀ (k : Nat) (l : List Nat) (j : Nat), Stt n l → n ≤ k + j → (∀ m, m < j → m < l.length → ∀ a, a < i → nN nx (l.getD m 0) a ∈ l) →
    Stt n (bfs nx i k l j) ∧ ∀ m, m < (bfs nx i k l j).length → ∀ a, a < i → nN nx ((bfs nx i k l j).getD m 0) a ∈ bfs nx i k l j
  | 0, l, j, hS, hk, h => ⟨hS, fun m hm a ha => h m (by have := hS.len; have hm : m < l.length := hm; omega) hm a ha⟩
  | k + 1, l, j, hS, hk, h => by
    by_cases hj : j < l.length
    · have e : bfs nx i (k + 1) l j = bfs nx i k (addR nx (l.getD j 0) l i) (j + 1) := by
        show (if j < l.length then _ else _) = _; rw [if_pos hj]
      rw [e]
      refine bfs_closed hM k _ _ (addR_stt hM hS (hS.2 _ (getD_mem hj)) i (Nat.le_refl _)) (by omega) fun m hm hml a ha => ?_
      by_cases e2 : m = j
      · subst e2; rw [addR_at hj]; exact addR_has a ha
      · rw [addR_at (by omega)]; exact addR_mem (h m (by omega) (by omega) a ha) i
    · rw [bfs_end nx i (k + 1) hj]
      exact ⟨hS, fun m hm a ha => h m (by omega) hm a ha⟩

theorem Mok.rch_stt {i st n : Nat} {nx ot : List (List Int)} (hM : Mok i st n nx ot) : Stt n (rch nx i st) :=
  (bfs_closed hM _ _ _ (Stt.one hM.st) (by rw [hM.nxl]; omega) (fun m hm => absurd hm (by omega))).1
theorem Mok.rch_in {i st n : Nat} {nx ot : List (List Int)} (hM : Mok i st n nx ot) {s a : Nat} (hs : s ∈ rch nx i st) (ha : a < i) : nN nx s a ∈ rch nx i st := by
  obtain ⟨m, hm, rfl⟩ := List.getElem_of_mem hs
  have := (bfs_closed hM nx.length [st] 0 (Stt.one hM.st) (by rw [hM.nxl]; omega) (fun m hm => absurd hm (by omega))).2 m hm a ha
  rw [show (bfs nx i nx.length [st] 0).getD m 0 = (rch nx i st)[m] by rw [List.getD_eq_getElem?_getD]; show (rch nx i st)[m]?.getD 0 = _; rw [List.getElem?_eq_getElem hm]; rfl] at this
  exact this
theorem rch_pre (nx : List (List Int)) (i st : Nat) : ∃ t, rch nx i st = st :: t := by
  obtain ⟨t, ht⟩ := bfs_pre nx i nx.length [st] 0
  exact ⟨t, ht⟩

/-- The place of a state. -/
def ixN (R : List Nat) (x : Nat) : Nat := R.idxOf x
theorem ixN_lt {R : List Nat} {x : Nat} (h : x ∈ R) : ixN R x < R.length := List.idxOf_lt_length_of_mem h
theorem ixN_at {R : List Nat} {x : Nat} (h : x ∈ R) : R.getD (ixN R x) 0 = x := by
  rw [List.getD_eq_getElem?_getD, List.getElem?_eq_getElem (ixN_lt h)]
  exact List.getElem_idxOf (ixN_lt h)
theorem ixN_of {R : List Nat} (hR : R.Nodup) {j : Nat} (hj : j < R.length) : ixN R (R.getD j 0) = j := by
  have hm : R.getD j 0 ∈ R := getD_mem hj
  have h1 := ixN_at hm
  have h2 := ixN_lt hm
  rw [List.getD_eq_getElem?_getD, List.getD_eq_getElem?_getD, List.getElem?_eq_getElem hj, List.getElem?_eq_getElem (by rw [List.getD_eq_getElem?_getD, List.getElem?_eq_getElem hj] at h2; exact h2)] at h1
  rw [List.getD_eq_getElem?_getD, List.getElem?_eq_getElem hj] at h2 ⊢
  exact (List.getElem_inj hR).1 h1

/-- The rows of the trimmed machine. -/
def trR (nx : List (List Int)) (i : Nat) (R : List Nat) (s : Nat) : List Int := (List.range i).map fun a => ((ixN R (nN nx s a) : Nat) : Int)
def trN (nx : List (List Int)) (i : Nat) (R : List Nat) : List (List Int) := R.map (trR nx i R)
def trO (ot : List (List Int)) (R : List Nat) : List (List Int) := R.map fun s => ot.getD s []
theorem trR_len (nx : List (List Int)) (i : Nat) (R : List Nat) (s : Nat) : (trR nx i R s).length = i := by simp [trR]
theorem trR_at {nx : List (List Int)} {i : Nat} {R : List Nat} {s a : Nat} (ha : a < i) : (trR nx i R s).getD a 0 = ((ixN R (nN nx s a) : Nat) : Int) := by
  unfold trR; simp [List.getD, ha]
/-- A row while it is renumbered. -/
def midR (nx : List (List Int)) (i : Nat) (R : List Nat) (s a : Nat) : List Int := (trR nx i R s).take a ++ (nx.getD s []).drop a
theorem midR_zero (nx : List (List Int)) (i : Nat) (R : List Nat) (s : Nat) : midR nx i R s 0 = nx.getD s [] := by simp [midR]
theorem midR_all {nx : List (List Int)} {i : Nat} {R : List Nat} {s : Nat} (h : (nx.getD s []).length = i) : midR nx i R s i = trR nx i R s := by
  unfold midR; rw [List.take_of_length_le (by rw [trR_len]; exact Nat.le_refl _), List.drop_eq_nil_of_le (by omega), List.append_nil]
theorem midR_len {nx : List (List Int)} {i : Nat} {R : List Nat} {s a : Nat} (h : (nx.getD s []).length = i) (ha : a ≤ i) : (midR nx i R s a).length = i := by
  unfold midR; rw [List.length_append, List.length_take, List.length_drop, trR_len, h]; omega
theorem midR_get {nx : List (List Int)} {i : Nat} {R : List Nat} {s a m : Nat} (ha : a ≤ i) : (midR nx i R s a)[m]? = if m < a then (trR nx i R s)[m]? else (nx.getD s [])[m]? := by
  unfold midR
  have hl : ((trR nx i R s).take a).length = a := by rw [List.length_take, trR_len]; omega
  by_cases h : m < a
  · rw [if_pos h, List.getElem?_append_left (by omega), List.getElem?_take, if_pos h]
  · rw [if_neg h, List.getElem?_append_right (by omega), List.getElem?_drop, hl, show a + (m - a) = m by omega]
theorem midR_at {nx : List (List Int)} {i : Nat} {R : List Nat} {s a : Nat} (ha : a < i) : (midR nx i R s a).getD a 0 = (nx.getD s []).getD a 0 := by
  rw [List.getD_eq_getElem?_getD, midR_get (by omega), if_neg (by omega), ← List.getD_eq_getElem?_getD]
theorem midR_set {nx : List (List Int)} {i : Nat} {R : List Nat} {s a : Nat} (h : (nx.getD s []).length = i) (ha : a < i) : (midR nx i R s a).set a ((ixN R (nN nx s a) : Nat) : Int) = midR nx i R s (a + 1) := by
  apply List.ext_getElem?
  intro m
  have ht : (trR nx i R s)[a]? = some ((ixN R (nN nx s a) : Nat) : Int) := by
    have := trR_at (nx := nx) (R := R) (s := s) ha
    rw [List.getD_eq_getElem?_getD, List.getElem?_eq_getElem (by rw [trR_len]; exact ha)] at this
    rw [List.getElem?_eq_getElem (by rw [trR_len]; exact ha)]
    exact congrArg some this
  rw [List.getElem?_set, midR_get (by omega), midR_get (by omega), midR_len h (by omega)]
  by_cases e : a = m
  · subst e
    rw [if_pos rfl, if_pos ha, if_pos (by omega), ht]
  · rw [if_neg e]
    by_cases e2 : m < a
    · rw [if_pos e2, if_pos (by omega)]
    · rw [if_neg e2, if_neg (by omega)]
theorem map_take_succ {α β : Type} (f : α → β) (l : List α) (d : α) {k : Nat} (h : k < l.length) : (l.take (k + 1)).map f = (l.take k).map f ++ [f (l.getD k d)] := by
  rw [List.take_succ_eq_append_getElem h, List.map_append, List.getD_eq_getElem?_getD, List.getElem?_eq_getElem h]; rfl
end Go.Proofs.Ytedcdpmflcegbaa
end

section
/- What From, Run and Step return. -/
namespace Go.Proofs.Ytedcdpmflcegbaa

/-- What From returns. -/
def frm (i st : Int) (nx ot : List (List Int)) (s : Int) (xs : List Int) : List Int × Int × Int :=
  if vld i st nx ot = 0 then (if 0 ≤ s ∧ s < nx.length then (if chk xs i = 0 then (runO nx ot s.toNat xs, (runS nx s.toNat xs : Int), 0) else ([], 0, chk xs i)) else ([], 0, 2)) else ([], 0, vld i st nx ot)
theorem frm_bad {i st : Int} {nx ot : List (List Int)} {s : Int} {xs : List Int} (h : ¬ vld i st nx ot = 0) : frm i st nx ot s xs = ([], 0, vld i st nx ot) := by unfold frm; rw [if_neg h]
theorem frm_state {i st : Int} {nx ot : List (List Int)} {s : Int} {xs : List Int} (h : vld i st nx ot = 0) (h1 : ¬ (0 ≤ s ∧ s < nx.length)) : frm i st nx ot s xs = ([], 0, 2) := by unfold frm; rw [if_pos h, if_neg h1]
theorem frm_word {i st : Int} {nx ot : List (List Int)} {s : Int} {xs : List Int} (h : vld i st nx ot = 0) (h1 : 0 ≤ s ∧ s < nx.length) (h2 : ¬ chk xs i = 0) : frm i st nx ot s xs = ([], 0, chk xs i) := by unfold frm; rw [if_pos h, if_pos h1, if_neg h2]
theorem frm_ok {i st : Int} {nx ot : List (List Int)} {s : Nat} {xs : List Int} (h : vld i st nx ot = 0) (h1 : s < nx.length) (h2 : chk xs i = 0) : frm i st nx ot s xs = (runO nx ot s xs, (runS nx s xs : Int), 0) := by
  unfold frm; rw [if_pos h, if_pos (by omega), if_pos h2]; rfl
theorem frm_len {i st : Int} {nx ot : List (List Int)} {s : Int} {xs : List Int} : (frm i st nx ot s xs).1.length ≤ 1024 := by
  by_cases h : vld i st nx ot = 0
  · by_cases h1 : 0 ≤ s ∧ s < nx.length
    · by_cases h2 : chk xs i = 0
      · obtain ⟨t, rfl⟩ : ∃ t : Nat, s = t := ⟨s.toNat, by omega⟩
        rw [frm_ok h (by omega) h2]
        show (runO nx ot t xs).length ≤ 1024
        rw [runO_len]
        exact (chk_zero h2).2.2.1
      · rw [frm_word h h1 h2]; simp
    · rw [frm_state h h1]; simp
  · rw [frm_bad h]; simp
theorem frm_zero {i st : Int} {nx ot : List (List Int)} {s : Int} {xs : List Int} (h : (frm i st nx ot s xs).2.2 = 0) : ∃ i' st' n t : Nat, i = i' ∧ st = st' ∧ s = t ∧ t < n ∧ Mok i' st' n nx ot ∧ chk xs i = 0 := by
  by_cases h0 : vld i st nx ot = 0
  · obtain ⟨i', st', n, rfl, rfl, hM⟩ := vld_zero h0
    by_cases h1 : 0 ≤ s ∧ s < nx.length
    · by_cases h2 : chk xs i' = 0
      · exact ⟨i', st', n, s.toNat, rfl, rfl, by omega, by have := hM.nxl; omega, hM, h2⟩
      · rw [frm_word h0 h1 h2] at h; exact absurd h h2
    · rw [frm_state h0 h1] at h; exact absurd h (by show ¬ (2 : Int) = 0; omega)
  · rw [frm_bad h0] at h; exact absurd h h0
theorem Mok.frm {i st n : Nat} {nx ot : List (List Int)} (hM : Mok i st n nx ot) {s : Nat} (hs : s < n) {xs : List Int} (h : chk xs i = 0) : frm i st nx ot s xs = (runO nx ot s xs, (runS nx s xs : Int), 0) :=
  frm_ok hM.vld (by rw [hM.nxl]; exact hs) h

/-- What Step returns. -/
def stp (i st : Int) (nx ot : List (List Int)) (s a : Int) : Int × Int × Int :=
  if vld i st nx ot = 0 then (if (0 ≤ s ∧ s < nx.length) ∧ 0 ≤ a ∧ a < i then ((nN nx s.toNat a.toNat : Int), oN ot s.toNat a.toNat, 0) else (0, 0, 2)) else (0, 0, vld i st nx ot)
theorem stp_bad {i st : Int} {nx ot : List (List Int)} {s a : Int} (h : ¬ vld i st nx ot = 0) : stp i st nx ot s a = (0, 0, vld i st nx ot) := by unfold stp; rw [if_neg h]
theorem stp_state {i st : Int} {nx ot : List (List Int)} {s a : Int} (h : vld i st nx ot = 0) (h1 : ¬ ((0 ≤ s ∧ s < nx.length) ∧ 0 ≤ a ∧ a < i)) : stp i st nx ot s a = (0, 0, 2) := by unfold stp; rw [if_pos h, if_neg h1]
theorem stp_ok {i st : Int} {nx ot : List (List Int)} {s a : Nat} (h : vld i st nx ot = 0) (h1 : s < nx.length) (h2 : (a : Int) < i) : stp i st nx ot s a = ((nN nx s a : Int), oN ot s a, 0) := by unfold stp; rw [if_pos h, if_pos (by omega)]; rfl
end Go.Proofs.Ytedcdpmflcegbaa
end

section
/- From, Run and Step of a machine. -/
namespace Go.Proofs.Ytedcdpmflcegbaa
open Go.RowKit

theorem ret_from {A : Option Addr} {l l' c : Nat} {x x' y y' : Int} (h1 : l = l') (h2 : x = x') (h3 : y = y') : Ending.returned (.tuple #[.slice A l c, .int .i64 x, .int .i64 y]) = .returned (.tuple #[.slice A l' c, .int .i64 x', .int .i64 y']) := by rw [h1, h2, h3]
theorem ret_run {A : Option Addr} {l l' c : Nat} {y y' : Int} (h1 : l = l') (h3 : y = y') : Ending.returned (.tuple #[.slice A l c, .int .i64 y]) = .returned (.tuple #[.slice A l' c, .int .i64 y']) := by rw [h1, h3]
theorem ret_three {k k' k'' : IntKind} {a b c a' b' c' : Int} (h1 : a = a') (h2 : b = b') (h3 : c = c') : Ending.returned (.tuple #[.int k a, .int k' b, .int k'' c]) = .returned (.tuple #[.int k a', .int k' b', .int k'' c']) := by rw [h1, h2, h3]

set_option maxHeartbeats 2000000 in
set_option maxRecDepth 100000 in
theorem pfrom (i st : Int) (A B D : Option Addr) (n c m d k e : Nat) (nx ot : List (List Int)) (s : Int) (xs : List Int) (w : World) (hx : Lists w A n nx) (ho : Lists w B m ot) (hD : Ints w D k xs) :
    Calls Try.prog 50 #[.agg #[.int .i64 i, .int .i64 st, .slice A n c, .slice B m d], .int .i64 s, .slice D k e] w fun e w' => ∃ A' c',
      e = .returned (.tuple #[.slice A' (frm i st nx ot s xs).1.length c', .int .i64 (frm i st nx ot s xs).2.1, .int .i64 (frm i st nx ot s xs).2.2]) ∧ Owned w' w.heap.size (.slice A' (frm i st nx ot s xs).1.length c') (frm i st nx ot s xs).1 ∧ Below w.heap.size w w' := by
  have L1 := Lib.hid hx.1
  have LD := Lib.hid hD.1
  have hn := hx.2.1
  have hk := hD.2.1
  have hb0 := alloc_below w (.cells #[.int .i64 i, .int .i64 st, .slice A n c, .slice B m d] 24)
  have HZ := Lib.hid (show (w.alloc (.cells #[.int .i64 i, .int .i64 st, .slice A n c, .slice B m d] 24)).heap.size = w.heap.size + 1 by simp)
  by_cases hv : vld i st nx ot = 0
  · have HV := Lib.hid hv
    obtain ⟨i, st, n', rfl, rfl, hM⟩ := vld_zero hv
    obtain rfl : n = n' := by have := hM.nxl; rw [L1.out] at this; exact this
    obtain rfl : m = n := by have := hM.otl; rw [ho.1] at this; exact this
    clear hv
    by_cases hs : 0 ≤ s ∧ s < m
    · have HS := Lib.hid hs
      have HT := Lib.hid ((decide_eq_true hs).symm)
      by_cases hc : chk xs i = 0
      · obtain ⟨s, rfl⟩ : ∃ t : Nat, s = t := ⟨s.toNat, by omega⟩
        have hfin := Lib.hid (frm_ok (s := s) HV.out (by rw [L1.out]; omega) hc)
        have HC := Lib.hid hc
        clear hs hc
        go_enter Try.func50, Try.ntmps50
        go_wp2_with fail
        refine (pvalid _ _ _ _ _ _ _ _ _ _ _ (hx.below hb0) (ho.below hb0)).mono ?_
        rintro e w1 ⟨rfl, b1⟩
        rw [HZ.out] at b1
        rw [HV.out]
        obtain ⟨k0, k1, k2, k3⟩ := box4 b1
        go_wp2_with fail
        refine (pisst _ _ _ _ _ _ _ _ _ _ _ hn HT.out).mono ?_
        rintro e w2 ⟨rfl, b2⟩
        have b2 := b1.trans (b2.mono (by have := b1.size; simpa using this))
        obtain ⟨k0, k1, k2, k3⟩ := box4 b2
        have bw := hb0.trans (b2.mono (Nat.le_succ _))
        go_wp2_with fail
        refine (wcheck _ _ _ _ _ _ (hD.below bw)).mono ?_
        rintro e w3 ⟨rfl, rfl⟩
        rw [HC.out]
        have ba := alloc_below w2 (.cells #[.int .i64 i, .int .i64 st, .slice A m c, .slice B m d, .int .i64 s] 101)
        have hR : Rnr (w2.alloc (.cells #[.int .i64 i, .int .i64 st, .slice A m c, .slice B m d, .int .i64 s] 101)) w2.heap.size i st A m c B m d s := heap_alloc_new w2 _
        have HR := Lib.hid hR
        have hsy := Lib.hid (chk_zero HC.out).2.2.2.mem
        have hg := bw.size
        have bwa := bw.trans (ba.mono hg)
        have hsn : s < m := by have := HS.out; omega
        clear hR ba
        go_wp2_with fail
        refine (prun hM hx ho bwa HR.out hg hsn hD hsy.out).mono ?_
        rintro e w4 ⟨A4, c4, rfl, ho4, b4, hR4⟩
        obtain ⟨d2, d3, d4, _⟩ := hR4.cells
        have HR4 := Lib.hid hR4
        have ho4 := Lib.hid ho4
        clear hR4
        go_wp2
        go_quiet (fail)
        go_wp2
        go_ret3
        have hlen : (runO nx ot s xs).length = k := by rw [runO_len, LD.out]
        exact ⟨A4, c4, by rw [hfin.out]; exact ret_from hlen.symm rfl rfl, by rw [hfin.out]; show Owned _ _ (.slice A4 (runO nx ot s xs).length c4) _; rw [hlen]; exact ho4.out, below_drewN b4 _⟩
      · have hfin := Lib.hid (frm_word HV.out (by rw [L1.out]; exact HS.out) hc)
        have hne : (chk xs i != 0) = true := by simpa using hc
        clear hs
        go_enter Try.func50, Try.ntmps50
        go_wp2_with fail
        refine (pvalid _ _ _ _ _ _ _ _ _ _ _ (hx.below hb0) (ho.below hb0)).mono ?_
        rintro e w1 ⟨rfl, b1⟩
        rw [HZ.out] at b1
        rw [HV.out]
        obtain ⟨k0, k1, k2, k3⟩ := box4 b1
        go_wp2_with fail
        refine (pisst _ _ _ _ _ _ _ _ _ _ _ hn HT.out).mono ?_
        rintro e w2 ⟨rfl, b2⟩
        have b2 := b1.trans (b2.mono (by have := b1.size; simpa using this))
        obtain ⟨k0, k1, k2, k3⟩ := box4 b2
        have bw := hb0.trans (b2.mono (Nat.le_succ _))
        go_wp2_with fail
        refine (wcheck _ _ _ _ _ _ (hD.below bw)).mono ?_
        rintro e w3 ⟨rfl, rfl⟩
        generalize chk xs i = E at hne hfin hc
        clear hc
        go_wp2
        go_ret3
        exact ⟨none, 0, by rw [hfin.out]; rfl, by rw [hfin.out]; exact Owned.nil _ _, bw⟩
    · have hfin := Lib.hid (frm_state (xs := xs) HV.out (by rw [L1.out]; exact hs))
      have HT := Lib.hid ((decide_eq_false hs).symm)
      clear hs
      go_enter Try.func50, Try.ntmps50
      go_wp2_with fail
      refine (pvalid _ _ _ _ _ _ _ _ _ _ _ (hx.below hb0) (ho.below hb0)).mono ?_
      rintro e w1 ⟨rfl, b1⟩
      rw [HZ.out] at b1
      rw [HV.out]
      obtain ⟨k0, k1, k2, k3⟩ := box4 b1
      go_wp2_with fail
      refine (pisst _ _ _ _ _ _ _ _ _ _ _ hn HT.out).mono ?_
      rintro e w2 ⟨rfl, b2⟩
      have b2 := b1.trans (b2.mono (by have := b1.size; simpa using this))
      have bw := hb0.trans (b2.mono (Nat.le_succ _))
      go_wp2
      go_ret3
      exact ⟨none, 0, by rw [hfin.out]; rfl, by rw [hfin.out]; exact Owned.nil _ _, bw⟩
  · have hfin := Lib.hid (frm_bad (s := s) (xs := xs) hv)
    have hne : (vld i st nx ot != 0) = true := by simpa using hv
    go_enter Try.func50, Try.ntmps50
    go_wp2_with fail
    refine (pvalid _ _ _ _ _ _ _ _ _ _ _ (hx.below hb0) (ho.below hb0)).mono ?_
    rintro e w1 ⟨rfl, b1⟩
    generalize vld i st nx ot = E at hne hfin hv
    clear hv
    go_wp2
    go_ret3
    exact ⟨none, 0, by rw [hfin.out]; rfl, by rw [hfin.out]; exact Owned.nil _ _, bt hb0 b1⟩

end Go.Proofs.Ytedcdpmflcegbaa
end

section
/- The reference: Outs. -/
namespace Go.Proofs.Ytedcdpmflcegbaa
open Go.RowKit

theorem skol {α : Sort _} {p : Nat → α → Prop} (h : ∀ k, ∃ x, p k x) : ∃ F : Nat → α, ∀ k, p k (F k) := ⟨fun k => Classical.choose (h k), fun k => Classical.choose_spec (h k)⟩

/-- append at a step of a region that draws. -/
theorem step_append_run {P : Program} {ops : Array Oper} {o : Oper} {a : Act} {w : World} {K : Act → World → Prop} {Q : Exit → Act → World → Prop} {E : Prop} (hgd : o.guard = none) (s x : Operand) (t tn : TypeId)
    (ho : o.op = .call { callee := .builtin .append, args := #[s, x], argTypes := #[t, tn] }) (vs vx : Value) (hs : a.eval s = vs) (hx : a.eval x = vx)
    (v' : Value) (w' : World) (hr : (Builtin.append_ #[t, tn] o.type #[vs, vx]).run P w = .ok v' w') (h : K (a.put o.dst v') w') :
    if Region.wanted o (yielded ops a.tmps) = true then Oper.wp P o a w K Q else E := by
  have hw : Region.wanted o (yielded ops a.tmps) = true := by simp [Region.wanted, hgd]
  rw [if_pos hw]
  exact Lib.wp_append_run w s x t tn ho vs vx hs hx v' w' hr h

theorem Owned.drew {w : World} {base : Nat} {v : Value} {xs : List Int} (h : Owned w base v xs) (k : Nat) : Owned (w.drewN k) base v xs := h

/-- append of one number, behind any number of draws. -/
theorem app_all {wr : World} {base q : Nat} {A : Option Addr} {c : Nat} {xs : List Int} (h : Owned wr base (.slice A q c) xs) (x : Int) (hbase : base ≤ wr.heap.size) (hl : xs.length < 17592186044416) :
    ∃ F : Nat → (Option Addr × Nat) × World, ∀ k, (Builtin.append_ #[27, 27] 27 #[.slice A q c, .slice (some ⟨wr.heap.size, 0, none⟩) 1 1]).run Try.prog ((wr.drewN k).alloc (.cells #[.int .i64 x] 3)) = .ok (.slice (F k).1.1 (q + 1) (F k).1.2) (F k).2 ∧
      Owned (F k).2 base (.slice (F k).1.1 (q + 1) (F k).1.2) (xs ++ [x]) ∧ Below base wr (F k).2 := by
  have hq : q = xs.length := by obtain ⟨A', c', e⟩ := h.form; cases e; rfl
  refine skol (p := fun k (r : (Option Addr × Nat) × World) => (Builtin.append_ #[27, 27] 27 #[.slice A q c, .slice (some ⟨wr.heap.size, 0, none⟩) 1 1]).run Try.prog ((wr.drewN k).alloc (.cells #[.int .i64 x] 3)) = .ok (.slice r.1.1 (q + 1) r.1.2) r.2 ∧
      Owned r.2 base (.slice r.1.1 (q + 1) r.1.2) (xs ++ [x]) ∧ Below base wr r.2) fun k => ?_
  obtain ⟨A', c', w', h1, h2, h3, _⟩ := run_append_one (h.drew k) x hbase hl
  rw [← hq] at h1 h2
  exact ⟨((A', c'), w'), h1, h2, (below_drewN (Below.refl _ _) k).trans h3⟩

end Go.Proofs.Ytedcdpmflcegbaa
end

section
/- Trim of a machine. -/
namespace Go.Proofs.Ytedcdpmflcegbaa
open Go.RowKit

/-- A block of a machine. -/
def Mblk (w : World) (g : Nat) (a b c d : Value) : Prop := w.heap[g]? = some (.cells #[a, b, c, d] 24 (0, 0))
theorem Mblk.cells {w : World} {g : Nat} {a b c d : Value} (h : Mblk w g a b c d) :
    w.cell? ⟨g, 0, none⟩ = some a ∧ w.cell? ⟨g, 1, none⟩ = some b ∧ w.cell? ⟨g, 2, none⟩ = some c ∧ w.cell? ⟨g, 3, none⟩ = some d ∧ w.frozen? ⟨g, 0, none⟩ = false ∧ w.frozen? ⟨g, 1, none⟩ = false ∧ w.frozen? ⟨g, 2, none⟩ = false ∧ w.frozen? ⟨g, 3, none⟩ = false :=
  ⟨cell_of_row w g 0 _ _ (0, 0) h, cell_of_row w g 1 _ _ (0, 0) h, cell_of_row w g 2 _ _ (0, 0) h, cell_of_row w g 3 _ _ (0, 0) h, frozen_of_row w g 0 _ _ h, frozen_of_row w g 1 _ _ h, frozen_of_row w g 2 _ _ h, frozen_of_row w g 3 _ _ h⟩
theorem Mblk.kept {w w' : World} {g : Nat} {a b c d : Value} (h : Mblk w g a b c d) {k : Nat} (hb : Below k w w') (hg : g < k) : Mblk w' g a b c d := (hb.block g hg).trans h
theorem Mblk.keptT {w w' : World} {g : Nat} {a b c d : Value} (h : Mblk w g a b c d) (hb : KeptT 24 w w') : Mblk w' g a b c d := hb g _ h

/-- A result that lies in memory, a machine, and one more. -/
theorem results_mealy {fn : Func} {p u : Tmp} (h : fn.results = #[.cell p 24, .tmp u]) (tmps : Array Value) (w : World) (g : Nat) (a b c d : Value)
    (hp : tmps.getD p undef = .pointer (some ⟨g, 0, none⟩)) (hg : Mblk w g a b c d) :
    (results fn tmps).run Try.prog w = .ok (.tuple #[.agg #[a, b, c, d], tmps.getD u undef]) w := by
  rw [results_cell_tmp h, hp]
  have hl := run_loadVar_row (P := Try.prog) w g 24 24 #[a, b, c, d] (0, 0) _ hg Try.underlying24 rfl (by kernel_rfl)
  simp [asAddr, hl]
theorem Mblk.set4 {w : World} {g : Nat} {a b c d : Value} (h : Mblk w g a b c d) (a' b' c' d' : Value) :
    Mblk ((((w.setCell ⟨g, 0, none⟩ a').setCell ⟨g, 1, none⟩ b').setCell ⟨g, 2, none⟩ c').setCell ⟨g, 3, none⟩ d') g a' b' c' d' := by
  have h1 := heap_setCell_same w g 0 _ _ a' h
  have h2 := heap_setCell_same _ g 1 _ _ b' h1
  have h3 := heap_setCell_same _ g 2 _ _ c' h2
  have h4 := heap_setCell_same _ g 3 _ _ d' h3
  exact h4

theorem OwnedL.drew {w : World} {base : Nat} {v : Value} {xss : List (List Int)} (h : OwnedL w base v xss) (q : Nat) : OwnedL (w.drewN q) base v xss := h
theorem Mblk.set2 {w : World} {g : Nat} {a b c d : Value} (h : Mblk w g a b c d) (v : Value) : Mblk (w.setCell ⟨g, 2, none⟩ v) g a b v d := heap_setCell_same w g 2 _ _ v h
theorem Mblk.set3 {w : World} {g : Nat} {a b c d : Value} (h : Mblk w g a b c d) (v : Value) : Mblk (w.setCell ⟨g, 3, none⟩ v) g a b c v := heap_setCell_same w g 3 _ _ v h
theorem OwnedL.offM {w : World} {base g j : Nat} {v : Value} {xss : List (List Int)} {a b c d : Value} (h : OwnedL w base v xss) (hM : Mblk w g a b c d) (u : Value) : OwnedL (w.setCell ⟨g, j, none⟩ u) base v xss :=
  h.keptT (KeptT.off hM (by decide) u) (KeptT.off hM (by decide) u)

/-- What a row of lists in a machine's block is behind a call and an append. -/
theorem trim_step {wo w8 w9 : World} {gT k m c9 : Nat} {x y u : Value} {AO A9 : Option Addr} {cO : Nat} {xss yss : List (List Int)} {xs : List Int} (b8 : Below gT wo w8) (hT : Mblk w8 gT x y u (.slice AO k cO)) (hN : OwnedL w8 gT u xss) (hO : OwnedL w8 gT (.slice AO k cO) yss) (hA : Apart u (.slice AO k cO))
    (q8 : Nat) (b9 : Below (w8.drewN q8).heap.size (w8.drewN q8) w9) (ho : Owned w9 (w8.drewN q8).heap.size (.slice A9 m c9) xs) (hk : k < 1759218604441) (hg : gT < w8.heap.size) :
    Mblk w9 gT x y u (.slice AO k cO) ∧ ∃ F : Nat → (Option Addr × Nat) × World, ∀ q, (Builtin.append_ #[22, 22] 22 #[.slice AO k cO, .slice (some ⟨w9.heap.size, 0, none⟩) 1 1]).run Try.prog ((w9.drewN q).alloc (.cells #[.slice A9 m c9] 27)) = .ok (.slice (F q).1.1 (k + 1) (F q).1.2) (F q).2 ∧
      Mblk (F q).2 gT x y u (.slice AO k cO) ∧ OwnedL (F q).2 gT u xss ∧ OwnedL (F q).2 gT (.slice (F q).1.1 (k + 1) (F q).1.2) (yss ++ [xs]) ∧ Apart u (.slice (F q).1.1 (k + 1) (F q).1.2) ∧ Below gT wo (F q).2 := by
  have b9' : Below w8.heap.size w8 w9 := (below_drewN (Below.refl _ _) q8).trans b9
  have hT9 := hT.kept b9' hg
  have hyl : yss.length = k := by obtain ⟨A', c', e⟩ := hO.form; cases e; rfl
  refine ⟨hT9, skol (p := fun q (r : (Option Addr × Nat) × World) => (Builtin.append_ #[22, 22] 22 #[.slice AO k cO, .slice (some ⟨w9.heap.size, 0, none⟩) 1 1]).run Try.prog ((w9.drewN q).alloc (.cells #[.slice A9 m c9] 27)) = .ok (.slice r.1.1 (k + 1) r.1.2) r.2 ∧
      Mblk r.2 gT x y u (.slice AO k cO) ∧ OwnedL r.2 gT u xss ∧ OwnedL r.2 gT (.slice r.1.1 (k + 1) r.1.2) (yss ++ [xs]) ∧ Apart u (.slice r.1.1 (k + 1) r.1.2) ∧ Below gT wo r.2) fun q => ?_⟩
  have hN9 := hN.kept b9'
  obtain ⟨A', c', w', h1, h2, h3, h4, h5, h6⟩ := run_append_list ((hO.kept b9').drew q) ((ho.lower (base' := gT) (Nat.le_of_lt hg)).drew q) (by have := b9'.size; show gT ≤ w9.heap.size; omega) (by omega)
  rw [hyl] at h1 h2 h6
  have hT9q : Mblk (w9.drewN q) gT x y u (.slice AO k cO) := hT9
  exact ⟨((A', c'), w'), h1, hT9q.keptT (h4 _ (by decide)), (hN9.drew q).keptB h5 hA.symm (h4 _ (by decide)), h2, (hA.symm.moved h6 (hN9.drew q)).symm, b8.trans ((b9'.mono (Nat.le_of_lt hg)).trans ((below_drewN (Below.refl _ _) q).trans h3))⟩

end Go.Proofs.Ytedcdpmflcegbaa
end

section
/- Boxes of machines; rows that a call owns, as lists. -/
namespace Go.Proofs.Ytedcdpmflcegbaa
open Go.RowKit

theorem mealy_box (w : World) (a b c d : Value) : Mblk (w.alloc (.cells #[a, b, c, d] 24)) w.heap.size a b c d := heap_alloc_new _ _
theorem lists_ownedM {w : World} {base : Nat} {A : Option Addr} {n c i st : Nat} {nx ot : List (List Int)} (hM : Mok i st n nx ot) (h : OwnedL w base (.slice A n c) nx) : Lists w A n nx :=
  h.lists (by rw [hM.nxl]; have := hM.n2; omega) fun xs hxs => by
    obtain ⟨s, hs, rfl⟩ := List.getElem_of_mem hxs
    have h1 := (hM.row s (by rw [← hM.nxl]; exact hs)).1
    rw [List.getD_eq_getElem?_getD, List.getElem?_eq_getElem hs] at h1
    have := hM.i2
    have h1 : nx[s].length = i := h1
    omega
theorem lists_ownedO {w : World} {base : Nat} {A : Option Addr} {n c i st : Nat} {nx ot : List (List Int)} (hM : Mok i st n nx ot) (h : OwnedL w base (.slice A n c) ot) : Lists w A n ot :=
  h.lists (by rw [hM.otl]; have := hM.n2; omega) fun xs hxs => by
    obtain ⟨s, hs, rfl⟩ := List.getElem_of_mem hxs
    have h1 := (hM.row s (by rw [← hM.otl]; exact hs)).2.1
    rw [List.getD_eq_getElem?_getD, List.getElem?_eq_getElem hs] at h1
    have := hM.i2
    have h1 : ot[s].length = i := h1
    omega
end Go.Proofs.Ytedcdpmflcegbaa
end
