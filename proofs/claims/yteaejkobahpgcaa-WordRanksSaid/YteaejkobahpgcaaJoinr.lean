/- The walks of Join: the program's and the reference's. -/
import Derived.Test.YteaejkobahpgcaaJoin
namespace Go.Proofs.Yteaejkobahpgcaa
open Go.RowKit

theorem wjoin (A : Option Addr) (n c : Nat) (xss : List (List Int)) (w : World) (h : Lists w A n xss) (hlen : xss.flatten.length ≤ 17592186044416) :
    Calls Try.prog 21 #[.slice A n c] w fun e w' => ∃ v, e = .returned v ∧ Owned w' w.heap.size v xss.flatten ∧ Below w.heap.size w w' := by
  have hB := Lib.hid hlen
  clear hlen
  go_enter Try.func21, Try.ntmps21
  go_wp2_with (go_at_call 33; refine (concat _ _ _ xss _ h hB.out).mono ?_; rintro e w1 ⟨v, rfl, hv, hbel⟩)
  go_ret
  exact ⟨_, rfl, hv, hbel⟩

set_option maxHeartbeats 1000000 in
theorem rjoin (A : Option Addr) (n c : Nat) (xss : List (List Int)) (w : World) (h : Lists w A n xss) (hlen : xss.flatten.length ≤ 17592186044416) :
    Calls Try.prog 20 #[.slice A n c] w fun e w' => ∃ v, e = .returned v ∧ Owned w' w.heap.size v xss.flatten ∧ Below w.heap.size w w' := by
  have L := Lib.hid h.1
  have hn := h.2.1
  have hB := Lib.hid hlen
  clear hlen
  have hall := Lib.hid (show cat xss n = xss.flatten by rw [← L.out, cat_all])
  go_enter Try.func20, Try.ntmps20
  go_wp2
  go_loopw [3, 4] (fun v i wr => ∃ k : Nat, k ≤ n ∧ i = .int .i64 k ∧ Owned wr w.heap.size v (cat xss k) ∧ Below w.heap.size w wr) (fun _ i _ => n - (intOf i).toNat)
  case atStart => exact ⟨0, Nat.zero_le _, rfl, by rw [cat_zero]; exact Owned.nil _ _, Below.refl _ _⟩
  case round =>
    obtain ⟨k, hk, rfl, hown, hbr⟩ := hrel
    by_cases hlt : k < n
    · obtain ⟨b, off, Aj, nj, cj, rfl, _, hcell, hI⟩ := (h.below hbr).at_ hlt
      have hs := Lib.hid (cat_succ (xss := xss) (j := k) (by rw [L.out]; exact hlt))
      have hb2 := Nat.le_trans (cat_len xss (k + 1)) hB.out
      rw [hs.out] at hb2
      obtain ⟨v', w', hr, ho', _, hbel'⟩ := run_append_ints _ _ _ _ _ _ _ cj hown hI hbr.size hb2
      rw [← hs.out] at ho'
      clear hb2
      go_wp2_with (at_builtin; refine Lib.wpList_append_run _ rfl _ _ _ _ rfl _ _ rfl rfl _ _ hr ?_)
      go_roundw
      case rel => exact ⟨k + 1, by omega, by go_num, ho', hbr.trans hbel'⟩
      case measure => simp [intOf]; omega
    · obtain rfl : k = n := by omega
      go_wp2
      go_ret
      exact ⟨_, rfl, by rw [← hall.out]; exact hown, hbr⟩
end Go.Proofs.Yteaejkobahpgcaa
