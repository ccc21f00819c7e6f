/- The walk of the reference's Unrank. -/
import Derived.Test.YteaejkobahpgcaaUnrankp
namespace Go.Proofs.Yteaejkobahpgcaa
open Go.RowKit

set_option maxHeartbeats 1000000 in
theorem runrank (m k : Int) (w : World) (hm : m ≤ 9223372036854775807) :
    Calls Try.prog 28 #[.int .i64 m, .int .i64 k] w fun e w' => ∃ v, e = .returned (.tuple #[v, .int .i64 (unrankV m k).2]) ∧ Owned w' w.heap.size v (unrankV m k).1 ∧ Below w.heap.size w w' := by
  by_cases hr : 0 ≤ m ∧ 1 ≤ k ∧ k ≤ 1024
  · obtain ⟨h0, k1, k2⟩ := hr
    go_enter Try.func28, Try.ntmps28
    go_wp2_with (go_at_call 30; refine (rsize k true (by simp; omega) _).mono ?_; rintro e w' ⟨rfl, rfl⟩)
    go_loopw [0, 6] (fun q v wr => ∃ (m' : Int) (ys : List Int) (A : Option Addr) (c : Nat), 0 ≤ m' ∧ m' ≤ 9223372036854775807 ∧ q = .int .i64 m' ∧ v = .slice A ys.length c ∧ ys.length ≤ 1024 ∧ Owned wr w.heap.size (.slice A ys.length c) ys ∧ Below w.heap.size w wr ∧
        back k 1025 m = ys ++ back k (1025 - ys.length) m') (fun q _ _ => (intOf q).toNat)
    case atStart => exact ⟨m, [], none, 0, h0, hm, rfl, rfl, by simp, Owned.nil _ _, Below.refl _ _, rfl⟩
    case round =>
      obtain ⟨m', ys, A, c, q1, q2, rfl, rfl, hl, hown, hbr, hb⟩ := hrel
      have HB := Lib.hid hb
      clear hb
      by_cases hp : 0 < m'
      · obtain ⟨d1, d2⟩ := quo_bd hp k1
        by_cases hf : ys.length = 1024
        · have hfin := Lib.hid (unrankV_long h0 k1 k2 hf hp HB.out)
          have hq : ((ys.length : Int) == 1024) = true := by simp; omega
          clear hf
          go_wp2
          go_ret2
          refine ⟨.slice none 0 0, ?_, ?_, hbr⟩
          · rw [hfin.out]; rfl
          · rw [hfin.out]; exact Owned.nil _ _
        · have hstep := Lib.hid (back_step (by omega) hp HB.out)
          have hq : ((ys.length : Int) == 1024) = false := by simp; omega
          have hbz : Below wr.heap.size wr (wr.alloc (.cells #[.int .i64 ((m' - 1) % k)] 3)) := (Below.refl _ _).alloc (Nat.le_refl _) _
          obtain ⟨v', w', hr, ho', _, hbel'⟩ := run_append_ints _ _ _ _ _ _ _ 1 (hown.kept hbz) (Ints.one wr ((m' - 1) % k)) (Nat.le_trans hbr.size hbz.size) (by simp; omega)
          obtain ⟨A', c', e⟩ := ho'.form
          subst e
          have hbel2 := (hbr.trans (hbz.mono hbr.size)).trans hbel'
          have hl' : (ys ++ [(m' - 1) % k]).length ≤ 1024 := by simp; omega
          generalize hys : ys ++ [(m' - 1) % k] = zs at hstep ho' hr hl'
          have HY := Lib.hid hys
          clear hf hbz hbel' hys hown
          go_wp2_with (at_builtin; refine Lib.wpList_append_run _ rfl _ _ _ _ rfl _ _ rfl rfl _ _ hr ?_)
          go_roundw
          case rel => exact ⟨_, zs, A', c', d1, by omega, rfl, rfl, hl', ho', hbel2, hstep.out⟩
          case measure => simp [intOf]; omega
      · obtain rfl : m' = 0 := by omega
        have hfin := Lib.hid (unrankV_ok h0 k1 k2 hl HB.out)
        go_wp2
        clear HB
        obtain ⟨wo, rfl⟩ : ∃ wo : World, wo = wr := ⟨_, rfl⟩
        go_loopw [7, 8] (fun v i wr => ∃ (j q : Nat) (i0 : Int) (A' : Option Addr) (c' : Nat), j ≤ ys.length ∧ q = ys.length - j ∧ i0 = (j : Int) - 1 ∧ i = .int .i64 i0 ∧ v = .slice A' q c' ∧ Owned wr wo.heap.size (.slice A' q c') (ys.drop j).reverse ∧ Below wo.heap.size wo wr) (fun _ i _ => (intOf i + 1).toNat)
        case atStart => exact ⟨ys.length, 0, _, none, 0, Nat.le_refl _, by omega, rfl, rfl, rfl, by simpa using Owned.nil _ _, Below.refl _ _⟩
        case round =>
          obtain ⟨j, q, i0, A', c', hj, hq, hi0, rfl, rfl, ho, hb2⟩ := hrel
          have HQ := Lib.hid hq
          clear hq
          cases j with
          | zero =>
            obtain rfl : i0 = -1 := by omega
            clear hi0
            go_wp2
            go_ret2
            refine ⟨.slice A' q c', ?_, ?_, hbr.trans (hb2.mono hbr.size)⟩
            · rw [hfin.out]; rfl
            · rw [hfin.out]; exact (by simpa using ho.lower hbr.size)
          | succ j =>
            obtain rfl : i0 = (j : Int) := by omega
            clear hi0
            have hI := (hown.ints (by omega)).below hb2
            obtain ⟨g, o, rfl, _, hcell⟩ := hI.at_ (k := j) (by omega)
            have hrev : (ys.drop (j + 1)).reverse ++ [ys.getD j 0] = (ys.drop j).reverse := by rw [drop_at ys j (by omega), List.reverse_cons]; simp
            have hlen : ((ys.drop (j + 1)).reverse ++ [ys.getD j 0]).length ≤ 17592186044416 := by simp; omega
            generalize ys.getD j 0 = x at hcell hrev hlen
            have hbz : Below wr.heap.size wr (wr.alloc (.cells #[.int .i64 x] 3)) := (Below.refl _ _).alloc (Nat.le_refl _) _
            obtain ⟨v', w', hr, ho', _, hbel'⟩ := run_append_ints _ _ _ _ _ _ _ 1 (ho.kept hbz) (Ints.one wr x) (Nat.le_trans hb2.size hbz.size) hlen
            rw [hrev] at ho'
            obtain ⟨A2, c2, e⟩ := ho'.form
            have hql : (ys.drop j).reverse.length = q + 1 := by have := HQ.out; simp; omega
            rw [hql] at e
            subst e
            have hbel2 := (hb2.trans (hbz.mono hb2.size)).trans hbel'
            have hjl : j < ys.length := by omega
            clear hrev hbz hbel' hlen ho hI hql
            go_wp2_with (at_builtin; refine Lib.wpList_append_run _ rfl _ _ _ _ rfl _ _ rfl rfl _ _ hr ?_)
            go_roundw
            case rel => exact ⟨j, q + 1, _, A2, c2, by omega, by have := HQ.out; omega, rfl, rfl, rfl, ho', hbel2⟩
            case measure => simp [intOf]
  · have hfin := Lib.hid (unrankV_range hr)
    by_cases hneg : m < 0
    · clear hr
      go_enter Try.func28, Try.ntmps28
      go_wp2
      go_ret2
      refine ⟨.slice none 0 0, ?_, ?_, Below.refl _ _⟩
      · rw [hfin.out]; rfl
      · rw [hfin.out]; exact Owned.nil _ _
    · have hk : false = true ↔ (1 ≤ k ∧ k ≤ 1024) := by constructor; (intro h; cases h); (intro h; exact absurd ⟨by omega, h⟩ hr)
      have HK := Lib.hid hk
      clear hr hk
      go_enter Try.func28, Try.ntmps28
      go_wp2_with (go_at_call 30; refine (rsize k false HK.out _).mono ?_; rintro e w' ⟨rfl, rfl⟩)
      go_ret2
      refine ⟨.slice none 0 0, ?_, ?_, Below.refl _ _⟩
      · rw [hfin.out]; rfl
      · rw [hfin.out]; exact Owned.nil _ _
end Go.Proofs.Yteaejkobahpgcaa
