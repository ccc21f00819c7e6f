/- The classes for k: the walk. -/
import Derived.Test.YtnifjagjcoegaaaRfnw
import Derived.Test.YtnifjagjcoegaaaPtp
import Derived.Test.YtnifjagjcoegaaaEqli
namespace Go.Proofs.Ytnifjagjcoegaaa
open Go.RowKit

theorem Mok.pt_bd {i st n : Nat} {nx ot : List (List Int)} (_ : Mok i st n nx ot) (k : Nat) : ∀ t, t < n → (pt nx ot i n k).getD t 0 ≤ n := fun t ht => by
  have := cN_le (nx := nx) (ot := ot) (i := i) (k := k) ht
  unfold cN at this
  omega
/-- After how many rounds the program stops. -/
def rounds_ (nx ot : List (List Int)) (i n : Nat) (k : Int) : Nat := if k ≤ (dep nx ot i n : Int) then k.toNat else dep nx ot i n

set_option maxHeartbeats 4000000 in
set_option maxRecDepth 100000 in
theorem ppartn (i st n : Nat) (A B : Option Addr) (c d : Nat) (nx ot : List (List Int)) (k : Int) (w : World) (hx : Lists w A n nx) (ho : Lists w B n ot) (hM : Mok i st n nx ot) (hk : k ≤ 9223372036854775807) :
    Calls Try.prog 99 #[.agg #[.int .i64 i, .int .i64 st, .slice A n c, .slice B n d], .int .i64 k] w fun e w' => ∃ A' c', e = .returned (.tuple #[.slice A' n c', .int .i64 (rounds_ nx ot i n k : Nat)]) ∧ Owned w' w.heap.size (.slice A' n c') (zs (pt nx ot i n (rounds_ nx ot i n k))) ∧ Below w.heap.size w w' := by
  have hn := hx.2.1
  have hn2 := hM.n2
  have hn1 := hM.n1
  have hlo := Lib.hid ho
  obtain ⟨g, hg⟩ : ∃ g, g = w.heap.size := ⟨_, rfl⟩
  obtain ⟨w1, hw1⟩ : ∃ w1, w1 = w.alloc (.cells #[.int .i64 i, .int .i64 st, .slice A n c, .slice B n d] 58) := ⟨_, rfl⟩
  have hb1 : Below w.heap.size w w1 := by rw [hw1]; exact alloc_below _ _
  have hz1 : w1.heap.size = g + 1 := by rw [hw1, hg]; simp
  have hB1 : Mblk w1 g (.int .i64 i) (.int .i64 st) (.slice A n c) (.slice B n d) := by rw [hw1, hg]; exact heap_alloc_new _ _
  have HW := Lib.hid hw1
  have HG := Lib.hid hg
  have HB1 := Lib.hid hB1
  have HZ1 := Lib.hid hz1
  obtain ⟨R, hR⟩ : ∃ R, R = rounds_ nx ot i n k := ⟨_, rfl⟩
  have HR := Lib.hid hR
  have HS := Lib.hid (show ∀ j : Nat, (∀ m, m < j → pt nx ot i n (m + 1) ≠ pt nx ot i n m) → (j : Int) < k → pt nx ot i n (j + 1) = pt nx ot i n j → j = R from fun j h1 h2 h3 => by
    have h4 := hM.dep_eq h1 h3
    rw [hR]; unfold rounds_
    split
    · omega
    · exact h4)
  have HE := Lib.hid (show ∀ j : Nat, (∀ m, m < j → pt nx ot i n (m + 1) ≠ pt nx ot i n m) → (j : Int) ≤ max k 0 → ¬ (j : Int) < k → j = R ∧ max k 0 = (R : Int) from fun j h1 h2 h3 => by
    have h4 := hM.dep_le h1
    rw [hR]; unfold rounds_
    rw [if_pos (by omega)]
    omega)
  have HD := Lib.hid (show ∀ j : Nat, (∀ m, m < j → pt nx ot i n (m + 1) ≠ pt nx ot i n m) → j < n from fun j h1 => by
    have h4 := hM.dep_le h1
    have := hM.dep_lt
    omega)
  rw [← hR]
  clear hw1 hz1 hg hB1 hR
  go_enter Try.func99, Try.ntmps99
  have k2 := HB1.out.cells.2.2.1
  rw [HW.out] at k2
  try rw [HG.out] at k2
  go_wp2_with (refine wpList_make_ints _ rfl _ _ rfl .i64 .i64 n rfl rfl hn ?_; intro w3 ho3 b3)
  clear k2
  rw [← HW.out] at ho3 b3
  rw [HZ1.out] at ho3 b3
  try rw [← HW.out]
  try rw [HZ1.out]
  try rw [← HG.out]
  have hB3 := (HB1.out.kept b3 (by omega))
  have HB3 := Lib.hid hB3
  have hbw3 : Below w.heap.size w w3 := hb1.trans (b3.mono (by rw [← HG.out]; omega))
  have hO3 := Lib.hid (ho3.lower (base' := g) (by omega))
  have hz3 := b3.size
  rw [HZ1.out] at hz3
  clear hB3 ho3 b3
  go_wp2
  go_loopw [6, 7] (fun v6 v7 wr => ∃ (j : Nat) (A' : Option Addr) (c' : Nat), v7 = .int .i64 j ∧ v6 = .slice A' n c' ∧ Owned wr g (.slice A' n c') (zs (pt nx ot i n j)) ∧ Below w3.heap.size w3 wr ∧ (∀ m, m < j → pt nx ot i n (m + 1) ≠ pt nx ot i n m) ∧ (j : Int) ≤ max k 0) (fun _ v7 _ => n - (intOf v7).toNat)
  case atStart => exact ⟨0, _, _, rfl, rfl, by show Owned _ _ _ (zs (List.replicate n 0)); simpa [zs] using hO3.out, Below.refl _ _, fun m hm => absurd hm (by omega), by omega⟩
  case round =>
    obtain ⟨j, C, cc, rfl, rfl, hO, hbr, hbef, hjk⟩ := hrel
    have hzr := hbr.size
    have hbW : Below w.heap.size w wr := hbw3.trans (hbr.mono (by rw [← HG.out]; omega))
    have hbox := HB3.out.kept hbr (show g < w3.heap.size by omega)
    obtain ⟨k0, k1, k2, k3, _⟩ := hbox.cells
    have hI := Owned.ints hO (by rw [zs_len, pt_len]; exact hn)
    have hjn := HD.out j hbef
    have HO := Lib.hid hO
    have HBR := Lib.hid hbr
    have HBF := Lib.hid hbef
    clear hO hbr
    by_cases hlt : (j : Int) < k
    · have HRF := prefine i st n A B C c d cc nx ot (pt nx ot i n j) wr (hx.below hbW) (hlo.out.below hbW) hM hI (hM.pt_bd j)
      have e1 : zs (num (fun s => sgm nx ot (pt nx ot i n j) s i) n) = zs (pt nx ot i n (j + 1)) := rfl
      rw [e1] at HRF
      have hRF := Lib.hid HRF
      have hS := Lib.hid (HS.out j hbef hlt)
      have hN := Lib.hid (fun H : pt nx ot i n (j + 1) ≠ pt nx ot i n j => show ∀ m, m < j + 1 → pt nx ot i n (m + 1) ≠ pt nx ot i n m from fun m hm => by
        by_cases e2 : m = j
        · subst e2; exact H
        · exact hbef m (by omega))
      clear HRF e1 hbef
      by_cases heq : pt nx ot i n (j + 1) = pt nx ot i n j
      · have hjR := Lib.hid (hS.out heq)
        have HQ := Lib.hid (show (true : Bool) = decide (zs (pt nx ot i n (j + 1)) = zs (pt nx ot i n j)) by rw [heq]; simp)
        clear heq
        go_wp2_with fail
        refine hRF.out.mono ?_
        rintro e w4 ⟨A4, c4, rfl, hO4, b4⟩
        have hI4 := Owned.ints hO4 (by rw [zs_len, pt_len]; exact hn)
        have hI9 := hI.below b4
        have HO4 := Lib.hid hO4
        clear hO4
        go_wp2_with fail
        refine (sequal _ _ _ _ _ _ _ _ _ _ hI4 hI9 HQ.out).mono ?_
        rintro e w5 ⟨rfl, q, rfl⟩
        have HO9 := Lib.hid (show Owned (w4.drewN q) w.heap.size (.slice C n cc) (zs (pt nx ot i n R)) by have h9 := HO.out.kept b4; rw [← hjR.out, ← HG.out]; exact h9)
        clear k0 k1 k2 k3 hI hI4 hI9
        go_wp2
        go_ret2
        exact ⟨_, _, by rw [hjR.out]; rfl, HO9.out, below_drewN (bt hbW b4) q⟩
      · have HQ := Lib.hid (show (false : Bool) = decide (zs (pt nx ot i n (j + 1)) = zs (pt nx ot i n j)) from (decide_eq_false fun H => heq (zs_inj H)).symm)
        have hN1 := Lib.hid (hN.out heq)
        clear heq
        go_wp2_with fail
        refine hRF.out.mono ?_
        rintro e w4 ⟨A4, c4, rfl, hO4, b4⟩
        have hI4 := Owned.ints hO4 (by rw [zs_len, pt_len]; exact hn)
        have hI9 := hI.below b4
        have HO4 := Lib.hid hO4
        clear hO4
        go_wp2_with fail
        refine (sequal _ _ _ _ _ _ _ _ _ _ hI4 hI9 HQ.out).mono ?_
        rintro e w5 ⟨rfl, q, rfl⟩
        have HO9 := Lib.hid (show Owned (w4.drewN q) g (.slice A4 n c4) (zs (pt nx ot i n (j + 1))) from HO4.out.lower (by omega))
        have HB9 := Lib.hid (show Below w3.heap.size w3 (w4.drewN q) from below_drewN (HBR.out.trans (b4.mono hzr)) q)
        clear k0 k1 k2 k3 hI hI4 hI9
        go_wp2
        go_roundw
        case rel => exact ⟨j + 1, A4, c4, by go_num, rfl, HO9.out, HB9.out, hN1.out, by omega⟩
        case measure => simp [intOf]; omega
    · obtain ⟨hjR, hmx⟩ := HE.out j hbef hjk (by omega)
      have HO9 := Lib.hid (show Owned wr w.heap.size (.slice C n cc) (zs (pt nx ot i n R)) by rw [← hjR, ← HG.out]; exact HO.out)
      have HMX := Lib.hid hmx
      clear hjR hmx k0 k1 k2 k3 hI hbef
      go_wp2
      all_goals
        go_ret2
        have hmx := HMX.out
        exact ⟨_, _, by simp; omega, HO9.out, hbW⟩
end Go.Proofs.Ytnifjagjcoegaaa
