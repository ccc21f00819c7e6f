/- The walks of Common, by the two texts. -/
import Derived.Test.YteaejkobahpgcaaProg
import Derived.Test.YteaejkobahpgcaaBase
import Derived.Test.YteaejkobahpgcaaOrd
import Derived.WalkSpells
import Derived.WalkLawsBesides
import Derived.Outline
import Derived.Deep.QuietTactic
import Derived.BigQuiet
namespace Go.Proofs.Yteaejkobahpgcaa
open Go.RowKit

set_option maxHeartbeats 400000 in
theorem wcommon (A B : Option Addr) (n c m d : Nat) (xs ys : List Int) (w : World) (hx : Ints w A n xs) (hy : Ints w B m ys) :
    Calls Try.prog 18 #[.slice A n c, .slice B m d] w fun e w' => e = .returned (.int .i64 (cmn xs ys)) ∧ ∃ q, w' = w.drewN q := by
  have L1 := Lib.hid hx.1
  have L2 := Lib.hid hy.1
  have hn := hx.2.1
  have hm := hy.2.1
  by_cases hnm : m < n
  · go_enter Try.func18, Try.ntmps18
    go_wp2
    go_loopw [13] (fun i wr => ∃ j : Nat, j ≤ m ∧ i = .int .i64 j ∧ Agree xs ys j ∧ ∃ q, wr = w.drewN q) (fun i _ => m - (intOf i).toNat)
    case atStart => exact ⟨0, Nat.zero_le _, rfl, Agree.zero _ _, 0, rfl⟩
    case round =>
      obtain ⟨j, hj, rfl, ha, q, rfl⟩ := hrel
      by_cases hlt : j < m
      · obtain ⟨b1, o1, rfl, _, hc1⟩ := hx.at_ (k := j) (by omega)
        obtain ⟨b2, o2, rfl, _, hc2⟩ := hy.at_ (k := j) (by omega)
        by_cases he : xs[j]?.getD 0 = ys[j]?.getD 0
        · have ha' := Lib.hid (ha.succ (by simpa using he))
          have hb : (xs[j]?.getD 0 != ys[j]?.getD 0) = false := by simp [he]
          have hE := Lib.hid he
          clear he ha
          go_wp2
          go_quiet (fail)
          go_wp2
          go_roundw
          case rel => exact ⟨j + 1, by omega, by go_num, ha'.out, by first | exact ⟨_, rfl⟩ | exact ⟨_, World.drewN_drewN _ _ _⟩⟩
          case measure => simp [intOf]; omega
        · have hfin := Lib.hid (cmn_eq (j := j) (by rw [L1.out]; omega) (by rw [L2.out]; omega) ha (.inr (.inr (by simpa using he))))
          have hb : (xs[j]?.getD 0 != ys[j]?.getD 0) = true := by simpa using he
          clear he ha
          go_wp2
          go_quiet (fail)
          go_wp2
          go_ret
          exact ⟨ret_int (by rw [hfin.out]), by first | exact ⟨_, rfl⟩ | exact ⟨_, World.drewN_drewN _ _ _⟩⟩
      · have hfin := Lib.hid (cmn_eq (j := m) (by rw [L1.out]; omega) (by rw [L2.out]; omega) ((by omega : j = m) ▸ ha) (by rw [L1.out, L2.out]; omega))
        go_wp2
        go_ret
        exact ⟨ret_int (by rw [hfin.out]), by first | exact ⟨_, rfl⟩ | exact ⟨_, World.drewN_drewN _ _ _⟩⟩
  · go_enter Try.func18, Try.ntmps18
    go_wp2
    go_loopw [13] (fun i wr => ∃ j : Nat, j ≤ n ∧ i = .int .i64 j ∧ Agree xs ys j ∧ ∃ q, wr = w.drewN q) (fun i _ => n - (intOf i).toNat)
    case atStart => exact ⟨0, Nat.zero_le _, rfl, Agree.zero _ _, 0, rfl⟩
    case round =>
      obtain ⟨j, hj, rfl, ha, q, rfl⟩ := hrel
      by_cases hlt : j < n
      · obtain ⟨b1, o1, rfl, _, hc1⟩ := hx.at_ (k := j) (by omega)
        obtain ⟨b2, o2, rfl, _, hc2⟩ := hy.at_ (k := j) (by omega)
        by_cases he : xs[j]?.getD 0 = ys[j]?.getD 0
        · have ha' := Lib.hid (ha.succ (by simpa using he))
          have hb : (xs[j]?.getD 0 != ys[j]?.getD 0) = false := by simp [he]
          have hE := Lib.hid he
          clear he ha
          go_wp2
          go_quiet (fail)
          go_wp2
          go_roundw
          case rel => exact ⟨j + 1, by omega, by go_num, ha'.out, by first | exact ⟨_, rfl⟩ | exact ⟨_, World.drewN_drewN _ _ _⟩⟩
          case measure => simp [intOf]; omega
        · have hfin := Lib.hid (cmn_eq (j := j) (by rw [L1.out]; omega) (by rw [L2.out]; omega) ha (.inr (.inr (by simpa using he))))
          have hb : (xs[j]?.getD 0 != ys[j]?.getD 0) = true := by simpa using he
          clear he ha
          go_wp2
          go_quiet (fail)
          go_wp2
          go_ret
          exact ⟨ret_int (by rw [hfin.out]), by first | exact ⟨_, rfl⟩ | exact ⟨_, World.drewN_drewN _ _ _⟩⟩
      · have hfin := Lib.hid (cmn_eq (j := n) (by rw [L1.out]; omega) (by rw [L2.out]; omega) ((by omega : j = n) ▸ ha) (by rw [L1.out, L2.out]; omega))
        go_wp2
        go_ret
        exact ⟨ret_int (by rw [hfin.out]), by first | exact ⟨_, rfl⟩ | exact ⟨_, World.drewN_drewN _ _ _⟩⟩

end Go.Proofs.Yteaejkobahpgcaa
