/- The walk of the reference's Valid. -/
import Derived.Test.YtiongejdedhcjaaDoorIdx
import Derived.Deep.RegionWith
import Derived.BigRegion
namespace Go.Proofs.YtiongejdedhcjaaDoor
open Go.RowKit

theorem least {ss : List ByteArray} {y : ByteArray} : ∀ m, (∃ i, i ≤ m ∧ ss.getD i ByteArray.empty = y) → ∃ k, k ≤ m ∧ ss.getD k ByteArray.empty = y ∧ ∀ i, i < k → ss.getD i ByteArray.empty ≠ y := by
  intro m
  induction m with
  | zero => rintro ⟨i, hi, h⟩; obtain rfl : i = 0 := by omega
            exact ⟨0, Nat.le_refl _, h, fun i hi => absurd hi (by omega)⟩
  | succ m ih =>
    rintro ⟨i, hi, h⟩
    by_cases hm : ∃ i, i ≤ m ∧ ss.getD i ByteArray.empty = y
    · obtain ⟨k, h1, h2⟩ := ih hm
      exact ⟨k, by omega, h2⟩
    · refine ⟨i, hi, h, fun q hq e => hm ⟨q, by omega, e⟩⟩

theorem dup_iff {ss : List ByteArray} {j : Nat} (hj : j < ss.length) {y : ByteArray} (hy : ss.getD j ByteArray.empty = y) : decide ((ixV ss y).1 < (j : Int)) = Lib.containsS (ss.take j) y := by
  rw [Bool.eq_iff_iff, decide_eq_true_eq, Lib.containsS_iff]
  obtain ⟨k, h1, h2, h3⟩ := least j ⟨j, Nat.le_refl _, hy⟩
  rw [idx_hit (by omega) h2 h3]
  constructor
  · intro h
    have hk : k < j := by simpa using h
    rw [← h2, List.mem_take_iff_getElem]
    exact ⟨k, by omega, by simp [List.getD, show k < ss.length by omega]⟩
  · intro h
    rw [List.mem_take_iff_getElem] at h
    obtain ⟨m, hm, e⟩ := h
    have hmj : m < j := by omega
    rcases Nat.lt_or_ge m k with h4 | h4
    · exact absurd (by rw [← e]; simp [List.getD, show m < ss.length by omega]) (h3 m h4)
    · show (k : Int) < j; omega

set_option maxHeartbeats 1000000 in
set_option maxRecDepth 100000 in
theorem rvalid (A : Option Addr) (n c : Nat) (ss : List ByteArray) (w : World) (h : Strs w A n ss) :
    Calls Tryd.prog 14 #[.agg #[.slice A n c]] w fun e w' => e = .returned (.int .i64 (valV ss)) ∧ Below w.heap.size w w' := by
  have L := Lib.hid h.1
  have hn := h.2.1
  have hb0 := alloc_below w (.cells #[.slice A n c] 24)
  by_cases h0 : n = 0
  · have hf := Lib.hid (valV_empty (by rw [L.out]; exact h0))
    subst h0
    go_enter Tryd.func14, Tryd.ntmps14
    go_wp2
    go_ret
    exact ⟨ret_int hf.out.symm, hb0⟩
  · have hz : ((n : Int) == 0) = false := by simp; omega
    by_cases h1 : 64 < n
    · have hf := Lib.hid (valV_long (ss := ss) (by rw [L.out]; exact h1))
      clear h0
      go_enter Tryd.func14, Tryd.ntmps14
      go_wp2
      go_ret
      exact ⟨ret_int hf.out.symm, hb0⟩
    · have hf := Lib.hid (valV_go L.out h0 h1)
      clear h0
      go_enter Tryd.func14, Tryd.ntmps14
      go_wp2
      go_loopw [3] (fun i wr => ∃ j : Nat, j ≤ n ∧ i = .int .i64 j ∧ vGo ss (n - j) j = vGo ss n 0 ∧ Below (w.heap.size + 1) (w.alloc (.cells #[.slice A n c] 24)) wr) (fun i _ => n - (intOf i).toNat)
      case atStart => exact ⟨0, Nat.zero_le _, rfl, rfl, Below.refl _ _⟩
      case round =>
        obtain ⟨j, hj, rfl, hgo, hbr⟩ := hrel
        have HG := Lib.hid hgo
        clear hgo
        have hbw := hb0.trans (hbr.mono (Nat.le_succ _))
        have hbox := box_cell w (.slice A n c) 24 hbr
        have hS := h.below hbw
        by_cases hlt : j < n
        · obtain ⟨b, off, hA, _, hcell⟩ := hS.at_ hlt
          have hsz := h.2.2.2 j hlt
          have hsz1 : w.heap.size + 1 ≤ wr.heap.size := by have := hbr.size; simpa using this
          by_cases hN : Nam (ss.getD j ByteArray.empty)
          · have hNd : decide (Nam (ss.getD j ByteArray.empty)) = true := decide_eq_true hN
            have hdi := Lib.hid (dup_iff (by rw [L.out]; exact hlt) (rfl : ss.getD j ByteArray.empty = _))
            by_cases hd : Lib.containsS (ss.take j) (ss.getD j ByteArray.empty) = true
            · have hfin := Lib.hid (hf.out.trans (HG.out.symm.trans (vGo_dup hlt hN hd)))
              generalize ss.getD j ByteArray.empty = y at hcell hsz hNd hd hN hdi
              rw [hd] at hdi
              clear hN hd
              subst hA
              go_wp2_with (go_at_call 16; refine (rname y hsz _).mono ?_; rintro e w1 ⟨rfl, rfl⟩)
              go_region_with (go_at_call 12; refine (rindex _ n c ss y _ (hS.below (below_drewN (Below.refl _ _) 1))).mono ?_; rintro e w1 ⟨rfl, b1⟩)
              all_goals
                have hdi' := hdi.out
                go_wp2
                go_ret
                exact ⟨ret_int hfin.out.symm, bt (bt hbw (below_drewN (Below.refl _ _) 1)) b1⟩
            · have hnx := Lib.hid ((vGo_next hlt hN hd).symm.trans HG.out)
              have hd : Lib.containsS (ss.take j) (ss.getD j ByteArray.empty) = false := by simpa using hd
              generalize ss.getD j ByteArray.empty = y at hcell hsz hNd hd hN hdi
              rw [hd] at hdi
              clear hN hd
              subst hA
              go_wp2_with (go_at_call 16; refine (rname y hsz _).mono ?_; rintro e w1 ⟨rfl, rfl⟩)
              go_region_with (go_at_call 12; refine (rindex _ n c ss y _ (hS.below (below_drewN (Below.refl _ _) 1))).mono ?_; rintro e w1 ⟨rfl, b1⟩)
              all_goals
                have hdi' := hdi.out
                have hbr1 := hbr.trans (((below_drewN (Below.refl _ _) 1).trans b1).mono hsz1)
                go_wp2
                go_roundw
                case rel => exact ⟨j + 1, by omega, by go_num, hnx.out, hbr1⟩
                case measure => simp [intOf]; omega
          · have hNd : decide (Nam (ss.getD j ByteArray.empty)) = false := decide_eq_false hN
            have hfin := Lib.hid (hf.out.trans (HG.out.symm.trans (vGo_name hlt hN)))
            generalize ss.getD j ByteArray.empty = y at hcell hsz hNd hN
            clear hN
            subst hA
            go_wp2_with (go_at_call 16; refine (rname y hsz _).mono ?_; rintro e w1 ⟨rfl, rfl⟩)
            go_ret
            exact ⟨ret_int hfin.out.symm, hbw⟩
        · have hfin : Hid (valV ss = 0) := Lib.hid (by rw [hf.out, ← HG.out, show n - j = 0 by omega]; rfl)
          go_wp2
          go_ret
          exact ⟨ret_int hfin.out.symm, hbw⟩
end Go.Proofs.YtiongejdedhcjaaDoor
