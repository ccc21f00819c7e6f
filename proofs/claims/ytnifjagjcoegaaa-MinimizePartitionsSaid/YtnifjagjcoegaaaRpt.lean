/- The reference: Partition, Classes, Depth. -/
import Derived.Test.YtnifjagjcoegaaaRfin
import Derived.Test.YtnifjagjcoegaaaEqr
import Derived.Test.YtnifjagjcoegaaaValr
import Derived.Test.YtnifjagjcoegaaaPmn
namespace Go.Proofs.Ytnifjagjcoegaaa
open Go.RowKit

theorem Mok.rkey_num {i st n : Nat} {nx ot : List (List Int)} (hM : Mok i st n nx ot) (k : Nat) : num (rkey nx ot (pt nx ot i n k) i) n = pt nx ot i n (k + 1) := by
  refine num_congr fun s t hs ht => ?_
  unfold rkey
  constructor
  · intro h; exact (List.cons.inj h).2
  · intro h
    have h2 : cN nx ot i n (k + 1) s = cN nx ot i n (k + 1) t := by
      unfold cN
      show (num _ n).getD s 0 = (num _ n).getD t 0
      rw [num_at _ hs, num_at _ ht, nmb_eq]; exact h
    have h3 := hM.cN_fine hs ht h2
    unfold cN at h3
    rw [h3, h]
theorem Mok.pt_rounds {i st n : Nat} {nx ot : List (List Int)} (hM : Mok i st n nx ot) {k : Int} {j : Nat} (h1 : (j : Int) ≤ max k 0) (h2 : j ≤ n) (h3 : ¬ ((j : Int) < k ∧ j < n)) : pt nx ot i n j = pt nx ot i n (rounds_ nx ot i n k) := by
  have hd := hM.dep_lt
  unfold rounds_
  split
  · rw [show j = k.toNat by omega]
  · exact hM.pt_all (by omega)
theorem rpart_bad (i st : Int) (A B : Option Addr) (n c m d : Nat) (nx ot : List (List Int)) (k : Int) (w : World) (hx : Lists w A n nx) (ho : Lists w B m ot) (hv : ¬ vld i st nx ot = 0) :
    Calls Try.prog 48 #[.agg #[.int .i64 i, .int .i64 st, .slice A n c, .slice B m d], .int .i64 k] w fun e w' => e = .returned (.tuple #[.slice none 0 0, .int .i64 (vld i st nx ot)]) ∧ Below w.heap.size w w' := by
  have hb0 := alloc_below w (.cells #[.int .i64 i, .int .i64 st, .slice A n c, .slice B m d] 58)
  have hne : (vld i st nx ot != 0) = true := by simpa using hv
  go_enter Try.func48, Try.ntmps48
  go_wp2_with fail
  refine (rvalid _ _ _ _ _ _ _ _ _ _ _ (hx.below hb0) (ho.below hb0)).mono ?_
  rintro e w1 ⟨rfl, b1⟩
  have b1 := bt hb0 b1
  generalize hE : vld i st nx ot = E at hne hv
  have HE := Lib.hid hE
  clear hv hE
  go_wp2
  go_ret2
  exact ⟨by rw [HE.out]; rfl, b1⟩
set_option maxHeartbeats 2000000 in
theorem rpart_ok (i st n : Nat) (A B : Option Addr) (c d : Nat) (nx ot : List (List Int)) (k : Int) (w : World) (hx : Lists w A n nx) (ho : Lists w B n ot) (hM : Mok i st n nx ot) :
    Calls Try.prog 48 #[.agg #[.int .i64 i, .int .i64 st, .slice A n c, .slice B n d], .int .i64 k] w fun e w' => ∃ A' c', e = .returned (.tuple #[.slice A' n c', .int .i64 0]) ∧ Owned w' w.heap.size (.slice A' n c') (zs (pt nx ot i n (rounds_ nx ot i n k))) ∧ Below w.heap.size w w' := by
  have hn := hx.2.1
  have hn2 := hM.n2
  have hb0 := alloc_below w (.cells #[.int .i64 i, .int .i64 st, .slice A n c, .slice B n d] 58)
  have hB := mealy_box w (.int .i64 i) (.int .i64 st) (.slice A n c) (.slice B n d)
  have HB := Lib.hid hB
  have HV := Lib.hid hM.vld
  obtain ⟨R, hR⟩ : ∃ R, R = rounds_ nx ot i n k := ⟨_, rfl⟩
  have HR := Lib.hid (show ∀ j : Nat, (j : Int) ≤ max k 0 → j ≤ n → ¬ ((j : Int) < k ∧ j < n) → pt nx ot i n j = pt nx ot i n R from fun j h1 h2 h3 => by rw [hR]; exact hM.pt_rounds h1 h2 h3)
  rw [← hR]
  clear hB hR
  go_enter Try.func48, Try.ntmps48
  go_wp2_with fail
  refine (rvalid _ _ _ _ _ _ _ _ _ _ _ (hx.below hb0) (ho.below hb0)).mono ?_
  rintro e w1 ⟨rfl, b1⟩
  rw [HV.out]
  have HB1 := Lib.hid (HB.out.kept b1 (by simp))
  obtain ⟨k0, k1, k2, k3, _⟩ := HB1.out.cells
  have hz1 := heap_lt HB1.out
  have b1 := bt hb0 b1
  go_wp2_with (refine wpList_make_ints _ rfl _ _ rfl .i64 .i64 n rfl rfl hn ?_; intro w3 ho3 b3)
  clear k0 k1 k2 k3
  have HB3 := Lib.hid (HB1.out.kept b3 (by omega))
  have hO3 := Lib.hid (ho3.lower (base' := w.heap.size) (by omega))
  have hb3 := bt b1 b3
  have hz3 := b3.size
  clear ho3 b3 HB HB1
  go_wp2
  go_loopw [7, 8] (fun v7 v8 wr => ∃ (j : Nat) (A' : Option Addr) (c' : Nat), v8 = .int .i64 j ∧ v7 = .slice A' n c' ∧ Owned wr w.heap.size (.slice A' n c') (zs (pt nx ot i n j)) ∧ Below w3.heap.size w3 wr ∧ (j : Int) ≤ max k 0 ∧ j ≤ n) (fun _ v8 _ => n - (intOf v8).toNat)
  case atStart => exact ⟨0, _, _, rfl, rfl, by show Owned _ _ _ (zs (List.replicate n 0)); simpa [zs] using hO3.out, Below.refl _ _, by omega, by omega⟩
  case round =>
    obtain ⟨j, C, cc, rfl, rfl, hO, hbr, hjk, hjn⟩ := hrel
    have hzr := hbr.size
    have hbW : Below w.heap.size w wr := hb3.trans (hbr.mono (by omega))
    obtain ⟨k0, k1, k2, k3, _⟩ := (HB3.out.kept hbr (show w.heap.size < w3.heap.size by omega)).cells
    have hI := Owned.ints hO (by rw [zs_len, pt_len]; exact hn)
    have HO := Lib.hid hO
    have HBR := Lib.hid hbr
    clear hO hbr
    by_cases hlt : (j : Int) < k
    · by_cases hjl : j < n
      · have HRF := rfiner i st n A B C c d cc nx ot (pt nx ot i n j) wr (hx.below hbW) (ho.below hbW) hM hI
        rw [hM.rkey_num] at HRF
        have hRF := Lib.hid HRF
        clear HRF
        go_wp2_with fail
        refine hRF.out.mono ?_
        rintro e w4 ⟨A4, c4, rfl, hO4, b4⟩
        have HO4 := Lib.hid (hO4.lower (base' := w.heap.size) (by omega))
        have HB4 := Lib.hid (HBR.out.trans (b4.mono hzr))
        clear hO4 b4 k0 k1 k2 k3 hI
        go_wp2
        go_roundw
        case rel => exact ⟨j + 1, A4, c4, by go_num, rfl, HO4.out, HB4.out, by omega, by omega⟩
        case measure => simp [intOf]; omega
      · have HE := Lib.hid (HR.out j hjk hjn (fun H => hjl H.2))
        have HO9 := Lib.hid (show Owned wr w.heap.size (.slice C n cc) (zs (pt nx ot i n R)) by rw [← HE.out]; exact HO.out)
        clear hI
        go_wp2
        go_ret2
        exact ⟨_, _, rfl, HO9.out, hbW⟩
    · have HE := Lib.hid (HR.out j hjk hjn (fun H => hlt H.1))
      have HO9 := Lib.hid (show Owned wr w.heap.size (.slice C n cc) (zs (pt nx ot i n R)) by rw [← HE.out]; exact HO.out)
      clear hI
      go_wp2
      go_ret2
      exact ⟨_, _, rfl, HO9.out, hbW⟩
end Go.Proofs.Ytnifjagjcoegaaa
