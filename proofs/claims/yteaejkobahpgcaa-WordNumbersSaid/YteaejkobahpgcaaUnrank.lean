/- The walk of the program's Unrank. -/
import Derived.Test.YteaejkobahpgcaaUnrankp
namespace Go.Proofs.Yteaejkobahpgcaa
open Go.RowKit

set_option maxHeartbeats 1000000 in
theorem wunrank (m k : Int) (w : World) (hm : m ≤ 9223372036854775807) :
    Calls Try.prog 27 #[.int .i64 m, .int .i64 k] w fun e w' => ∃ v, e = .returned (.tuple #[v, .int .i64 (unrankV m k).2]) ∧ Owned w' w.heap.size v (unrankV m k).1 ∧ Below w.heap.size w w' := by
  by_cases hr : 0 ≤ m ∧ 1 ≤ k ∧ k ≤ 1024
  · obtain ⟨h0, k1, k2⟩ := hr
    go_enter Try.func27, Try.ntmps27
    go_wp2_with (go_at_call 29; refine (wperm k true (by simp; omega) _).mono ?_; rintro e w' ⟨rfl, rfl⟩)
    go_loopw [0, 6] (fun q v wr => ∃ (m' : Int) (ys : List Int) (A : Option Addr) (c : Nat), 0 ≤ m' ∧ m' ≤ 9223372036854775807 ∧ q = .int .i64 m' ∧ v = .slice A ys.length c ∧ ys.length ≤ 1024 ∧ Owned wr w.heap.size (.slice A ys.length c) ys ∧ Below w.heap.size w wr ∧
        back k 1025 m = ys ++ back k (1025 - ys.length) m') (fun q _ _ => (intOf q).toNat)
    case atStart => exact ⟨m, [], none, 0, h0, hm, rfl, rfl, by simp, Owned.nil _ _, Below.refl _ _, rfl⟩
    case round =>
      obtain ⟨m', ys, A, c, q1, q2, rfl, rfl, hl, hown, hbr, hb⟩ := hrel
      have HB := Lib.hid hb
      clear hb
      by_cases hp : 0 < m'
      · obtain ⟨d1, d2⟩ := quo_bd hp k1
        by_cases hf : ys.length = 1024
        · have hfin := Lib.hid (unrankV_long h0 k1 k2 hf hp HB.out)
          have hq : ((ys.length : Int) == 1024) = true := by simp; omega
          clear hf
          go_wp2
          go_ret2
          refine ⟨.slice none 0 0, ?_, ?_, hbr⟩
          · rw [hfin.out]; rfl
          · rw [hfin.out]; exact Owned.nil _ _
        · have hstep := Lib.hid (back_step (by omega) hp HB.out)
          have hq : ((ys.length : Int) == 1024) = false := by simp; omega
          have hbz : Below wr.heap.size wr (wr.alloc (.cells #[.int .i64 ((m' - 1) % k)] 3)) := (Below.refl _ _).alloc (Nat.le_refl _) _
          obtain ⟨v', w', hr, ho', _, hbel'⟩ := run_append_ints _ _ _ _ _ _ _ 1 (hown.kept hbz) (Ints.one wr ((m' - 1) % k)) (Nat.le_trans hbr.size hbz.size) (by simp; omega)
          obtain ⟨A', c', e⟩ := ho'.form
          subst e
          have hbel2 := (hbr.trans (hbz.mono hbr.size)).trans hbel'
          have hl' : (ys ++ [(m' - 1) % k]).length ≤ 1024 := by simp; omega
          generalize hys : ys ++ [(m' - 1) % k] = zs at hstep ho' hr hl'
          have HY := Lib.hid hys
          clear hf hbz hbel' hys hown
          go_wp2_with (at_builtin; refine Lib.wpList_append_run _ rfl _ _ _ _ rfl _ _ rfl rfl _ _ hr ?_)
          go_roundw
          case rel => exact ⟨_, zs, A', c', d1, by omega, rfl, rfl, hl', ho', hbel2, hstep.out⟩
          case measure => simp [intOf]; omega
      · obtain rfl : m' = 0 := by omega
        have hfin := Lib.hid (unrankV_ok h0 k1 k2 hl HB.out)
        go_wp2_with (go_at_call 34; refine (reverse _ _ _ _ _ _ (by omega) hown).mono ?_; rintro e w2 ⟨rfl, ho2, hb2⟩)
        go_wp2
        go_ret2
        refine ⟨.slice A ys.length c, ?_, ?_, hbr.trans hb2⟩
        · rw [hfin.out]; rfl
        · rw [hfin.out]; exact ho2
  · have hfin := Lib.hid (unrankV_range hr)
    by_cases hneg : m < 0
    · clear hr
      go_enter Try.func27, Try.ntmps27
      go_wp2
      go_ret2
      refine ⟨.slice none 0 0, ?_, ?_, Below.refl _ _⟩
      · rw [hfin.out]; rfl
      · rw [hfin.out]; exact Owned.nil _ _
    · have hk : false = true ↔ (1 ≤ k ∧ k ≤ 1024) := by constructor; (intro h; cases h); (intro h; exact absurd ⟨by omega, h⟩ hr)
      have HK := Lib.hid hk
      clear hr hk
      go_enter Try.func27, Try.ntmps27
      go_wp2_with (go_at_call 29; refine (wperm k false HK.out _).mono ?_; rintro e w' ⟨rfl, rfl⟩)
      go_ret2
      refine ⟨.slice none 0 0, ?_, ?_, Below.refl _ _⟩
      · rw [hfin.out]; rfl
      · rw [hfin.out]; exact Owned.nil _ _
end Go.Proofs.Yteaejkobahpgcaa
