/- A decoder: number. -/
import Derived.Test.YtihahljpfekmbaaDecr
import Derived.Test.YtihahljpfekmbaaPut
import Derived.Deep.RegionLaw
import Derived.Laws.BitsAllLaws
namespace Go.Proofs.Ytihahljpfekmbaa
open Go.RowKit

/-- What a call that reads bytes at u finds. -/
theorem byts_rst {W w : World} {A : Option Addr} {n c u : Nat} {bs : List Nat} (h : Byts W A n bs) (hb : Below W.heap.size W w) (hu : u ≤ n) (hc : n ≤ c) : Byts w (rst A c u) (n - u) (bs.drop u) := (h.below hb).tail hu hc

theorem scn_val : ∀ (bs : List Nat) (k : Nat), k ≤ 9 → (scn k bs).2 = 0 → val (bs.take ((scn k bs).1 - k)) < 2 * 128 ^ (9 - k)
  | [], k, hk, h => by
    rw [scn_end] at h
    have h : (if k < 10 then (4 : Int) else 5) = 0 := h
    rw [if_pos (by omega)] at h; omega
  | b :: bs, k, hk, h => by
    have h0 : ¬ k = 10 := by omega
    by_cases h1 : 128 ≤ b
    · rw [scn_on h0 h1] at h ⊢
      by_cases h9 : k = 9
      · subst h9; rw [scn_ten] at h; exact absurd h (by simp)
      · have ih := scn_val bs (k + 1) (by omega) h
        have hs := scn_size bs (k + 1) (by omega) h
        rw [show (scn (k + 1) bs).1 - k = ((scn (k + 1) bs).1 - (k + 1)) + 1 by omega, List.take_succ_cons]
        show b % 128 + 128 * val _ < _
        rw [show 9 - k = (9 - (k + 1)) + 1 by omega, Nat.pow_succ]
        omega
    · by_cases h2 : (0 < k ∧ b = 0) ∨ (k = 9 ∧ 1 < b)
      · rw [scn_bad h0 h1 h2] at h; exact absurd h (by simp)
      · rw [scn_ok h0 h1 h2]
        rw [show k + 1 - k = 1 by omega]
        show b % 128 + 128 * val (bs.take 0) < _
        rw [List.take_zero]
        show b % 128 + 128 * 0 < _
        by_cases h9 : k = 9
        · subst h9; have : ¬ 1 < b := fun e => h2 (.inr ⟨rfl, e⟩); simp; omega
        · have : 128 ^ 1 ≤ 128 ^ (9 - k) := Nat.pow_le_pow_right (by omega) (by omega)
          omega
theorem val_next {T : List Nat} {j : Nat} (h : j < T.length) : val (T.take (j + 1)) = val (T.take j) + 128 ^ j * (T.getD j 0 % 128) := by
  rw [List.take_succ_eq_append_getElem h, val_append, List.length_take, Nat.min_eq_left (by omega), List.getD_eq_getElem?_getD, List.getElem?_eq_getElem h]
  simp [val]
theorem val_take_lt (T : List Nat) (j : Nat) : val (T.take j) < 128 ^ j := by
  have h1 := val_lt (T.take j)
  have h2 : (T.take j).length ≤ j := List.length_take_le _ _
  exact Nat.lt_of_lt_of_le h1 (Nat.pow_le_pow_right (by omega) h2)
theorem val_take_le : ∀ (T : List Nat) (j : Nat), val (T.take j) ≤ val T
  | [], j => by simp
  | b :: T, 0 => by simp [val]
  | b :: T, j + 1 => by
    have := val_take_le T j
    show b % 128 + 128 * val (T.take j) ≤ b % 128 + 128 * val T
    omega
theorem or_step {acc x j : Nat} (ha : acc < 128 ^ j) (hx : acc + 128 ^ j * (x % 128) < 18446744073709551616) :
    bits .or .u64 (acc : Int) (IntKind.u64.wrap ((x : Int) % 128 * 2 ^ (7 * j))) = ((acc + 128 ^ j * (x % 128) : Nat) : Int) := by
  have e1 : ((x : Int) % 128 * 2 ^ (7 * j)) = ((128 ^ j * (x % 128) : Nat) : Int) := by
    rw [Int.natCast_mul, Int.mul_comm]
    congr 1
    rw [Int.pow_mul, Int.natCast_pow]
    rfl
  have e2 : IntKind.u64.wrap ((128 ^ j * (x % 128) : Nat) : Int) = ((128 ^ j * (x % 128) : Nat) : Int) := by rw [IntKind.wrap_u64]; omega
  rw [e1, e2, u64_or_nat _ _ (by omega) (by omega)]
  congr 1
  have e3 : 128 ^ j = 2 ^ (7 * j) := by rw [Nat.pow_mul]
  rw [e3] at ha ⊢
  have := Nat.two_pow_add_eq_or_of_lt ha (x % 128)
  rw [Nat.or_comm, ← this, Nat.add_comm]

theorem zag_odd {V : Nat} (hV : V < 18446744073709551616) (h : V % 2 = 1) : wrap64 (bits .xor .u64 IntKind.u64.max ((V : Int) / 2)) = zag V := by
  rw [show ((V : Int) / 2) = ((V / 2 : Nat) : Int) by omega, show IntKind.u64.max = ((18446744073709551615 : Nat) : Int) from rfl, u64_xor_nat _ _ (by omega) (by omega), nat_not _ (by omega)]
  unfold zag wrap64
  rw [if_pos h]
  omega
theorem zag_even {V : Nat} (h : ¬ V % 2 = 1) : (V : Int) / 2 = zag V := by
  unfold zag
  rw [if_neg h]
  omega

set_option maxHeartbeats 2000000 in
set_option maxRecDepth 100000 in
theorem pnumber_ok {W : World} (g : Nat) (A : Option Addr) (n c u : Nat) (bs : List Nat) (w : World) (h : Byts W A n bs) (hb : Below W.heap.size W w) (hg : W.heap.size ≤ g) (hD : Dec w g A n c u) (hu : u ≤ n) (hc : n ≤ c) (hs : (scn 0 (bs.drop u)).2 = 0) :
    Calls Try.prog 64 #[.pointer (some ⟨g, 0, none⟩)] w fun e w' => e = .returned (.int .i64 (zag (val ((bs.drop u).take (scn 0 (bs.drop u)).1)))) ∧ ∃ q, w' = (w.setCell ⟨g, 1, none⟩ (.int .i64 ((u + (scn 0 (bs.drop u)).1 : Nat) : Int))).drewN q := by
  have hn := h.2.1
  obtain ⟨c0, c1, f1⟩ := hD.cells
  have hsl := fun W => run_rest A n c u hu W
  have hy := byts_rst h hb hu hc
  have hsz := (scn_size (bs.drop u) 0 (by omega) hs)
  have hv := scn_val (bs.drop u) 0 (by omega) hs
  rw [Nat.sub_zero] at hv
  obtain ⟨z, hz⟩ : ∃ z, z = (scn 0 (bs.drop u)).1 := ⟨_, rfl⟩
  rw [← hz] at hsz hv ⊢
  have hl : (bs.drop u).length = n - u := hy.1
  have HNS := Lib.hid (fun q => (pnumsize (rst A c u) (n - u) (c - u) (bs.drop u) (w.drewN q) hy (by omega)).mono (fun e w' H => (⟨by rw [hz]; exact H.1 hs, H.2.2⟩ : e = .returned (.int .i64 z) ∧ w.drewN q = w')))
  have HTK := Lib.hid (fun q => ptake g A n c u z (w.drewN q) hD hu hc hn (by omega))
  have HT := Lib.hid (hy.head (p := z) (by omega))
  clear hz hs hD
  go_enter Try.func64, Try.ntmps64
  go_wp2
  go_region_law (first
    | (go_simp; go_at_call 94; refine (HNS.out _).mono ?_; rintro e w' ⟨rfl, rfl⟩)
    | (go_simp; go_at_call 93; refine (HTK.out _).mono ?_; rintro e w' ⟨rfl, q, rfl⟩))
  all_goals
    go_simp
    go_wp2
    have hB1 : Below W.heap.size W ((((w.drewN 1).setCell ⟨g, 1, none⟩ (.int .i64 ((u : Int) + (z : Int)))).drewN q)) := below_drewN ((below_drewN hb 1).setCell hg _) q
    have hW1 : ∃ q', ((((w.drewN 1).setCell ⟨g, 1, none⟩ (.int .i64 ((u : Int) + (z : Int)))).drewN q)) = (w.setCell ⟨g, 1, none⟩ (.int .i64 ((u + z : Nat) : Int))).drewN q' := ⟨1 + q, by rw [← World.drewN_drewN]; rfl⟩
    have HW1 := Lib.hid hW1
    clear hW1
    generalize (((w.drewN 1).setCell ⟨g, 1, none⟩ (.int .i64 ((u : Int) + (z : Int)))).drewN q) = w1 at hB1 HW1 ⊢
    have hT := (byts_rst h hB1 hu hc).head (p := z) (by omega)
    clear hsl
    go_loop [3, 19] (fun uv jv => ∃ j : Nat, j ≤ z ∧ jv = .int .i64 j ∧ uv = .int .u64 (val (((bs.drop u).take z).take j))) (fun _ jv => z - (intOf jv).toNat)
    case atStart => exact ⟨0, Nat.zero_le _, rfl, rfl⟩
    case round =>
      obtain ⟨j, hj, rfl, rfl⟩ := hrel
      by_cases hlt : j < z
      · obtain ⟨b1, o1, e1, _, hc1, h256⟩ := hT.at_ hlt
        have hvn := val_next (T := (bs.drop u).take z) (j := j) (by rw [hT.1]; exact hlt)
        have hva := val_take_lt ((bs.drop u).take z) j
        have hvl := val_take_le ((bs.drop u).take z) (j + 1)
        rw [hvn] at hvl
        have hvb : val ((bs.drop u).take z) < 18446744073709551616 := by omega
        have HVN := Lib.hid hvn
        clear hvn
        generalize ((bs.drop u).take z).getD j 0 = x at hc1 h256 hvl HVN
        generalize val (((bs.drop u).take z).take j) = acc at hva hvl HVN
        have hos := Lib.hid (or_step (x := x) hva (by omega))
        have hz10 : z ≤ 10 := hsz.2.2
        go_wp2
        go_round
        case rel => exact ⟨j + 1, by omega, by go_num, by rw [hos.out, HVN.out]⟩
        case measure => simp [intOf]; omega
      · obtain rfl : j = z := by omega
        rw [List.take_take, Nat.min_self]
        have hvb : val ((bs.drop u).take j) < 18446744073709551616 := by omega
        generalize hVV : val ((bs.drop u).take j) = V at hvb
        have HV := Lib.hid hVV
        clear hVV
        by_cases hodd : V % 2 = 1
        · have d1 : ((V : Int) % 2 == 1) = true := by simp; omega
          have HZ := Lib.hid (zag_odd hvb hodd)
          go_wp2
          go_ret
          exact ⟨ret_int (by rw [HV.out]; exact HZ.out), HW1.out⟩
        · have d1 : ((V : Int) % 2 == 1) = false := by simp; omega
          have HZ := Lib.hid (zag_even hodd)
          go_wp2
          go_ret
          exact ⟨ret_int (by rw [HV.out]; exact HZ.out), HW1.out⟩

set_option maxHeartbeats 2000000 in
set_option maxRecDepth 100000 in
theorem pnumber_bad {W : World} (g : Nat) (A : Option Addr) (n c u : Nat) (bs : List Nat) (w : World) (h : Byts W A n bs) (hb : Below W.heap.size W w) (hD : Dec w g A n c u) (hu : u ≤ n) (hc : n ≤ c) (hs : ¬ (scn 0 (bs.drop u)).2 = 0) :
    Calls Try.prog 64 #[.pointer (some ⟨g, 0, none⟩)] w fun e w' => e = pan (scn 0 (bs.drop u)).2 ∧ ∃ q, w' = w.drewN q := by
  obtain ⟨c0, c1, f1⟩ := hD.cells
  have hsl := fun W => run_rest A n c u hu W
  have hy := byts_rst h hb hu hc
  have HNS := Lib.hid (fun q => (pnumsize (rst A c u) (n - u) (c - u) (bs.drop u) (w.drewN q) hy (by omega)).mono (fun e w' H => (⟨H.2.1 hs, H.2.2⟩ : e = pan (scn 0 (bs.drop u)).2 ∧ w.drewN q = w')))
  generalize (scn 0 (bs.drop u)).2 = E at HNS
  clear hD hs
  go_enter Try.func64, Try.ntmps64
  go_wp2
  go_region_with (go_at_call 94; refine (HNS.out _).mono ?_; rintro e w' ⟨rfl, rfl⟩; refine (fun (_ : wpAny Try.prog .any #[] (fun _ _ _ => True) 0 #[] { tmps := #[], defers := [] } w) => ⟨rfl, rfl, _, rfl⟩) ?_)
  all_goals trivial
end Go.Proofs.Ytihahljpfekmbaa
