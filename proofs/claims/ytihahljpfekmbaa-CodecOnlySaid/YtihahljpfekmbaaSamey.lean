/- Equal and Clone of bytes. -/
import Derived.Test.YtihahljpfekmbaaJoiny
import Derived.Test.YtihahljpfekmbaaEqm
namespace Go.Proofs.Ytihahljpfekmbaa
open Go.RowKit

set_option maxHeartbeats 1000000 in
theorem sequaly (A B : Option Addr) (n c m d : Nat) (xs ys : List Nat) (b : Bool) (w : World) (hx : Byts w A n xs) (hy : Byts w B m ys) (hb : b = decide (xs = ys)) :
    Calls Try.prog 96 #[.slice A n c, .slice B m d] w fun e w' => e = .returned (.bool b) ∧ ∃ q, w' = w.drewN q := by
  have L1 := Lib.hid hx.1
  have L2 := Lib.hid hy.1
  have hn := hx.2.1
  have hm := hy.2.1
  by_cases hnm : n = m
  · subst hnm
    have HB := Lib.hid hb
    clear hb
    go_enter Try.func96, Try.ntmps96
    go_wp2
    go_loopw [13] (fun i wr => ∃ j q : Nat, j ≤ n ∧ i = .int .i64 j ∧ AgreeL 0 xs ys j ∧ wr = w.drewN q) (fun i _ => n - (intOf i).toNat)
    case atStart => exact ⟨0, 0, Nat.zero_le _, rfl, AgreeL.zero _ _ _, rfl⟩
    case round =>
      obtain ⟨j, q, hj, rfl, heq, rfl⟩ := hrel
      have HE := Lib.hid heq
      clear heq
      by_cases hlt : j < n
      · obtain ⟨g1, o1, rfl, _, hc1, _⟩ := hx.at_ hlt
        obtain ⟨g2, o2, rfl, _, hc2, _⟩ := hy.at_ hlt
        by_cases he : xs.getD j 0 = ys.getD j 0
        · have hnx := Lib.hid (HE.out.succ he)
          rw [← he] at hc2
          generalize xs.getD j 0 = y at hc1 hc2
          clear he
          go_wp2
          go_quiet (fail)
          go_wp2
          go_roundw
          case rel => exact ⟨j + 1, _, by omega, by go_num, hnx.out, rfl⟩
          case measure => simp [intOf]; omega
        · have hfin : Hid (b = false) := Lib.hid (HB.out.trans (decide_eq_false fun e => he (by rw [e])))
          have hne : (((xs.getD j 0 : Nat) : Int) != ((ys.getD j 0 : Nat) : Int)) = true := bne_iff_ne.2 (fun e => he (by omega))
          generalize xs.getD j 0 = y at hc1 hne
          generalize ys.getD j 0 = z at hc2 hne
          clear he
          go_wp2
          go_quiet (fail)
          go_wp2
          go_ret
          exact ⟨ret_bool hfin.out.symm, by first | exact ⟨_, rfl⟩ | exact ⟨_, World.drewN_drewN _ _ _⟩⟩
      · obtain rfl : j = n := by omega
        have hfin : Hid (b = true) := Lib.hid (HB.out.trans (decide_eq_true (HE.out.all L1.out L2.out)))
        go_wp2
        go_ret
        exact ⟨ret_bool hfin.out.symm, by first | exact ⟨_, rfl⟩ | exact ⟨_, World.drewN_drewN _ _ _⟩⟩
  · have hfin : Hid (b = false) := Lib.hid (hb.trans (decide_eq_false fun e => hnm (by rw [← L1.out, ← L2.out, e])))
    have hd : ((n : Int) != (m : Int)) = true := by simp; omega
    clear hnm hb
    go_enter Try.func96, Try.ntmps96
    go_wp2
    go_ret
    exact ⟨ret_bool hfin.out.symm, 0, rfl⟩

set_option maxHeartbeats 1000000 in
set_option maxRecDepth 100000 in
/-- Clone of a list. -/
theorem scloney (A : Option Addr) (n c : Nat) (xs : List Nat) (w : World) (hx : Byts w A n xs) (hn2 : n ≤ 1000000) :
    Calls Try.prog 97 #[.slice A n c] w fun e w' => ∃ A' c', e = .returned (.slice A' n c') ∧ OwnedY w' w.heap.size (.slice A' n c') xs ∧ Below w.heap.size w w' := by
  have L := Lib.hid hx.1
  have hn := hx.2.1
  cases A with
  | none =>
    have h0 : n = 0 := by
      rcases Nat.eq_zero_or_pos n with h | h
      · exact h
      · obtain ⟨b, off, e, _⟩ := hx.2.2.1 h; cases e
    subst h0
    obtain rfl : xs = [] := List.eq_nil_of_length_eq_zero L.out
    have he := fun W => Lib.run_eql_slice_nil (P := Try.prog) W 22 5 none 0 c 0 0 Try.underlying22
    go_enter Try.func97, Try.ntmps97
    go_wp2
    go_ret
    exact ⟨none, 0, rfl, OwnedY.nil _ _, Below.refl _ _⟩
  | some a =>
    have hb0 := alloc_below w (.cells #[] 5)
    have ho := OwnedY.literal w w.heap.size [] #[] 0 (Nat.le_refl _) rfl rfl (by simp)
    obtain ⟨v', w', hr, ho', hb'⟩ := run_append_bytes _ _ _ _ _ _ _ c ho (hx.below hb0) hb0.size (by rw [List.nil_append, L.out]; omega)
    obtain ⟨A', c', rfl⟩ := ho'.form
    rw [List.nil_append, L.out] at hr ho'
    have hB := Lib.hid (hb0.trans hb')
    have HO := Lib.hid ho'
    clear ho hb0 hb' ho'
    have he := fun W => Lib.run_eql_slice_nil (P := Try.prog) W 22 5 (some a) n c 0 0 Try.underlying22
    go_enter Try.func97, Try.ntmps97
    go_wp2_with (at_builtin; refine Lib.wpList_append_run _ rfl _ _ _ _ rfl _ _ rfl rfl _ _ hr ?_)
    go_ret
    exact ⟨A', c', rfl, HO.out, hB.out⟩
end Go.Proofs.Ytihahljpfekmbaa
