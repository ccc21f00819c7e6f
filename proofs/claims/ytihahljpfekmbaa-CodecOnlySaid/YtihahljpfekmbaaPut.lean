/- appendInt and PutInt. -/
import Derived.Test.YtihahljpfekmbaaByts
import Derived.Laws.BitsAllLaws
namespace Go.Proofs.Ytihahljpfekmbaa
open Go.RowKit

theorem nat_not (x : Nat) (hx : x < 18446744073709551616) : 18446744073709551615 ^^^ x = 18446744073709551615 - x := by
  have h := congrArg BitVec.toNat (BitVec.allOnes_xor (x := BitVec.ofNat 64 x))
  rw [BitVec.toNat_xor, BitVec.toNat_not, BitVec.toNat_allOnes, BitVec.toNat_ofNat, Nat.mod_eq_of_lt (by omega)] at h
  have e : (2 : Nat) ^ 64 - 1 = 18446744073709551615 := by decide
  rw [e] at h
  exact h
theorem zig_neg {n : Int} (h1 : -9223372036854775808 ≤ n) (h : n < 0) : bits .xor .u64 IntKind.u64.max (IntKind.u64.wrap (IntKind.u64.wrap n * 2)) = ((zig n : Nat) : Int) := by
  have e : IntKind.u64.wrap (IntKind.u64.wrap n * 2) = ((18446744073709551616 + 2 * n).toNat : Int) := by
    rw [IntKind.wrap_u64, IntKind.wrap_u64]; omega
  rw [e, show IntKind.u64.max = ((18446744073709551615 : Nat) : Int) from rfl, u64_xor_nat _ _ (by omega) (by omega), nat_not _ (by omega)]
  unfold zig
  rw [if_neg (by omega)]
  omega
theorem zig_pos {n : Int} (h : 0 ≤ n) : n * 2 = ((zig n : Nat) : Int) := by unfold zig; rw [if_pos h]; omega

set_option maxHeartbeats 1000000 in
set_option maxRecDepth 100000 in
theorem pappendInt (n : Int) (v : Value) (pre : List Nat) (base : Nat) (w : World) (h1 : -9223372036854775808 ≤ n) (h2 : n ≤ 9223372036854775807) (hv : OwnedY w base v pre) (hb : base ≤ w.heap.size) (hl : pre.length ≤ 17000000000000) :
    Calls Try.prog 65 #[v, .int .i64 n] w fun e w' => ∃ v', e = .returned v' ∧ OwnedY w' base v' (pre ++ enc (zig n)) ∧ Below base w w' := by
  have hz := zig_lt h1 h2
  have HN := Lib.hid (zig_neg (n := n) h1)
  have HP := Lib.hid (zig_pos (n := n))
  obtain ⟨R, hR⟩ : ∃ R, R = pre ++ enc (zig n) := ⟨_, rfl⟩
  rw [← hR]
  have HR := Lib.hid hR
  clear hR
  have hor : n < 0 ∨ 0 ≤ n := by omega
  rcases hor with hn | hn
  all_goals
    go_enter Try.func65, Try.ntmps65
    go_wp2
    go_loopw [0, 5] (fun v uv wr => ∃ (u k : Nat) (p : List Nat), uv = .int .u64 u ∧ u < 128 ^ k * 2 ∧ k ≤ 9 ∧ u < 18446744073709551616 ∧ OwnedY wr base v p ∧ p.length + k ≤ pre.length + 9 ∧ R = p ++ encF k u ∧ Below base w wr) (fun _ uv _ => (intOf uv).toNat)
    case atStart => exact ⟨zig n, 9, pre, by first | rw [HN.out hn] | rw [HP.out hn], by omega, by omega, hz, hv, by omega, HR.out, Below.refl _ _⟩
    case round =>
      obtain ⟨u, k, p, rfl, hk1, hk, hu, hown, hpl, hR, hbr⟩ := hrel
      have HR := Lib.hid hR
      clear hR
      by_cases hlt : 128 ≤ u
      · have hd : decide ((128 : Int) ≤ (u : Int)) = true := by simp; omega
        obtain ⟨k, rfl⟩ : ∃ k', k = k' + 1 := ⟨k - 1, by
          rcases Nat.eq_zero_or_pos k with h | h
          · subst h; omega
          · omega⟩
        obtain ⟨A2, c2, w2, hr, ho2, hb2⟩ := run_append_byte hown (u % 128 + 128) (Nat.le_trans hb hbr.size) (by omega)
        rw [show ((u % 128 + 128 : Nat) : Int) = (u : Int) % 128 + 128 by omega] at hr
        have HR2 := Lib.hid (HR.out.trans (show p ++ encF (k + 1) u = (p ++ [u % 128 + 128]) ++ encF k (u / 128) by rw [encF_next (by omega)]; simp))
        have HB := Lib.hid (hbr.trans hb2)
        have HO := Lib.hid ho2
        have hq : u / 128 < 128 ^ k * 2 := by rw [Nat.pow_succ] at hk1; omega
        clear hb2 ho2 hown hbr hk1
        go_wp2_with (at_builtin; refine Lib.wpList_append_run _ rfl _ _ _ _ rfl _ _ rfl rfl _ _ hr ?_)
        go_roundw
        case rel => exact ⟨u / 128, k, p ++ [u % 128 + 128], by rw [show ((u / 128 : Nat) : Int) = (u : Int) / 128 by omega], hq, by omega, by omega, HO.out, by rw [List.length_append]; simp; omega, HR2.out, HB.out⟩
        case measure => simp [intOf]; omega
      · have hd : decide ((128 : Int) ≤ (u : Int)) = false := by simp; omega
        obtain ⟨A2, c2, w2, hr, ho2, hb2⟩ := run_append_byte hown u (Nat.le_trans hb hbr.size) (by omega)
        have HR2 := Lib.hid (HR.out.trans (show p ++ encF k u = p ++ [u] by rw [encF_small (by omega)]))
        have HB := Lib.hid (hbr.trans hb2)
        have HO := Lib.hid ho2
        clear hb2 ho2 hown hbr hk1
        go_wp2_with (at_builtin; refine Lib.wpList_append_run _ rfl _ _ _ _ rfl _ _ rfl rfl _ _ hr ?_)
        go_ret
        exact ⟨_, rfl, by rw [HR2.out]; exact HO.out, HB.out⟩

theorem pputInt (n : Int) (w : World) (h1 : -9223372036854775808 ≤ n) (h2 : n ≤ 9223372036854775807) :
    Calls Try.prog 18 #[.int .i64 n] w fun e w' => ∃ v', e = .returned v' ∧ OwnedY w' w.heap.size v' (enc (zig n)) ∧ Below w.heap.size w w' := by
  go_enter Try.func18, Try.ntmps18
  go_wp2_with fail
  refine (pappendInt n _ [] w.heap.size _ h1 h2 (OwnedY.nil _ _) (Nat.le_refl _) (by simp)).mono ?_
  rintro e w1 ⟨v, rfl, h, hb⟩
  rw [List.nil_append] at h
  have H := Lib.hid h
  clear h
  go_wp2
  go_ret
  exact ⟨v, rfl, H.out, hb⟩

set_option maxHeartbeats 1000000 in
set_option maxRecDepth 100000 in
theorem rputInt (n : Int) (w : World) (h1 : -9223372036854775808 ≤ n) (h2 : n ≤ 9223372036854775807) :
    Calls Try.prog 19 #[.int .i64 n] w fun e w' => ∃ v', e = .returned v' ∧ OwnedY w' w.heap.size v' (enc (zig n)) ∧ Below w.heap.size w w' := by
  have hz := zig_lt h1 h2
  have HN := Lib.hid (zig_neg (n := n) h1)
  have HP := Lib.hid (zig_pos (n := n))
  obtain ⟨R, hR⟩ : ∃ R, R = enc (zig n) := ⟨_, rfl⟩
  rw [← hR]
  have HR := Lib.hid hR
  clear hR
  have hor : n < 0 ∨ 0 ≤ n := by omega
  rcases hor with hn | hn
  all_goals
    go_enter Try.func19, Try.ntmps19
    go_wp2
    go_loopw [4, 3] (fun v uv wr => ∃ (u k : Nat) (p : List Nat), uv = .int .u64 u ∧ u < 128 ^ k * 2 ∧ k ≤ 9 ∧ u < 18446744073709551616 ∧ OwnedY wr w.heap.size v p ∧ p.length + k ≤ 9 ∧ R = p ++ encF k u ∧ Below w.heap.size w wr) (fun _ uv _ => (intOf uv).toNat)
    case atStart => exact ⟨zig n, 9, [], by first | rw [HN.out hn] | rw [HP.out hn], by omega, by omega, hz, OwnedY.nil _ _, by simp, HR.out, Below.refl _ _⟩
    case round =>
      obtain ⟨u, k, p, rfl, hk1, hk, hu, hown, hpl, hR, hbr⟩ := hrel
      have HR := Lib.hid hR
      clear hR
      by_cases hlt : 128 ≤ u
      · have hd : decide ((128 : Int) ≤ (u : Int)) = true := by simp; omega
        obtain ⟨k, rfl⟩ : ∃ k', k = k' + 1 := ⟨k - 1, by
          rcases Nat.eq_zero_or_pos k with h | h
          · subst h; omega
          · omega⟩
        obtain ⟨A2, c2, w2, hr, ho2, hb2⟩ := run_append_byte hown (u % 128 + 128) hbr.size (by omega)
        rw [show ((u % 128 + 128 : Nat) : Int) = (u : Int) % 128 + 128 by omega] at hr
        have HR2 := Lib.hid (HR.out.trans (show p ++ encF (k + 1) u = (p ++ [u % 128 + 128]) ++ encF k (u / 128) by rw [encF_next (by omega)]; simp))
        have HB := Lib.hid (hbr.trans hb2)
        have HO := Lib.hid ho2
        have hq : u / 128 < 128 ^ k * 2 := by rw [Nat.pow_succ] at hk1; omega
        clear hb2 ho2 hown hbr hk1
        go_wp2_with (at_builtin; refine Lib.wpList_append_run _ rfl _ _ _ _ rfl _ _ rfl rfl _ _ hr ?_)
        go_roundw
        case rel => exact ⟨u / 128, k, p ++ [u % 128 + 128], by rw [show ((u / 128 : Nat) : Int) = (u : Int) / 128 by omega], hq, by omega, by omega, HO.out, by rw [List.length_append]; simp; omega, HR2.out, HB.out⟩
        case measure => simp [intOf]; omega
      · have hd : decide ((128 : Int) ≤ (u : Int)) = false := by simp; omega
        obtain ⟨A2, c2, w2, hr, ho2, hb2⟩ := run_append_byte hown u hbr.size (by omega)
        have HR2 := Lib.hid (HR.out.trans (show p ++ encF k u = p ++ [u] by rw [encF_small (by omega)]))
        have HB := Lib.hid (hbr.trans hb2)
        have HO := Lib.hid ho2
        clear hb2 ho2 hown hbr hk1
        go_wp2_with (at_builtin; refine Lib.wpList_append_run _ rfl _ _ _ _ rfl _ _ rfl rfl _ _ hr ?_)
        go_ret
        exact ⟨_, rfl, by rw [HR2.out]; exact HO.out, HB.out⟩
end Go.Proofs.Ytihahljpfekmbaa
