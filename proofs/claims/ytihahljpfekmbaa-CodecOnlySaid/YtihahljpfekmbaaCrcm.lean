/- checksum and Sum of both. -/
import Derived.Test.YtihahljpfekmbaaCrcp
import Derived.Test.YtihahljpfekmbaaBytr
import Derived.Test.YtihahljpfekmbaaSize
namespace Go.Proofs.Ytihahljpfekmbaa
open Go.RowKit

theorem crcS_at {bs : List Nat} {j c : Nat} (h : j < bs.length) : crcS c (bs.drop j) = crcS (crcK 8 (c ^^^ bs.getD j 0)) (bs.drop (j + 1)) := by rw [drop_at h]; rfl
theorem and_one {c : Nat} (h : c < 4294967296) : bits .and .u32 (c : Int) 1 = ((c % 2 : Nat) : Int) := by
  rw [show (1 : Int) = ((1 : Nat) : Int) from rfl, u32_and_nat _ _ h (by decide), nat_mask1]
theorem xor_poly {c : Nat} (h : c < 4294967296) : bits .xor .u32 ((c : Int) / 2) 3988292384 = ((c / 2 ^^^ 3988292384 : Nat) : Int) := by
  rw [show ((c : Int) / 2) = ((c / 2 : Nat) : Int) by omega, show (3988292384 : Int) = ((3988292384 : Nat) : Int) from rfl, u32_xor_nat _ _ (by omega) (by decide)]
theorem xor_all {c : Nat} (h : c < 4294967296) : bits .xor .u32 (c : Int) 4294967295 = ((c ^^^ 4294967295 : Nat) : Int) := by
  rw [show (4294967295 : Int) = ((4294967295 : Nat) : Int) from rfl, u32_xor_nat _ _ h (by decide)]
theorem xor_all' {c : Nat} (h : c < 4294967296) : bits .xor .u32 IntKind.u32.max (c : Int) = ((c ^^^ 4294967295 : Nat) : Int) := by
  rw [show IntKind.u32.max = ((4294967295 : Nat) : Int) from rfl, u32_xor_nat _ _ (by decide) h, Nat.xor_comm]

set_option maxHeartbeats 2000000 in
set_option maxRecDepth 100000 in
theorem pchecksum (A : Option Addr) (n c : Nat) (bs : List Nat) (w : World) (h : Byts w A n bs) :
    Calls Try.prog 74 #[.slice A n c] w fun e w' => e = .returned (.int .u32 (crcZ bs)) ∧ w = w' := by
  have L := Lib.hid h.1
  have hn := h.2.1
  obtain ⟨R, hR⟩ : ∃ R, R = crcS 4294967295 bs := ⟨_, rfl⟩
  have hZ := Lib.hid (show crcZ bs = R ^^^ 4294967295 by rw [hR]; rfl)
  have hRl : R < 4294967296 := by rw [hR]; exact crcS_lt bs (by decide) h.2.2.2
  have HR := Lib.hid (show R = crcS 4294967295 (bs.drop 0) by rw [List.drop_zero]; exact hR)
  clear hR
  have hxa := Lib.hid (xor_all' hRl)
  go_enter Try.func74, Try.ntmps74
  go_wp2
  go_loop [3, 9] (fun cv jv => ∃ j r : Nat, j ≤ n ∧ jv = .int .i64 j ∧ cv = .int .u32 r ∧ r < 4294967296 ∧ R = crcS r (bs.drop j)) (fun _ jv => n - (intOf jv).toNat)
  case atStart => exact ⟨0, 4294967295, Nat.zero_le _, rfl, rfl, by decide, HR.out⟩
  case round =>
    obtain ⟨j, r, hj, rfl, rfl, hr, hR⟩ := hrel
    have HJ := Lib.hid hR
    clear hR
    by_cases hlt : j < n
    · obtain ⟨g, o, rfl, _, hcell, h256⟩ := h.at_ (k := j) hlt
      have HN := Lib.hid (HJ.out.trans (crcS_at (by rw [L.out]; exact hlt)))
      generalize bs.getD j 0 = b at hcell h256 HN
      have hx := u32_xor_nat r b hr (by omega)
      have hd := xor32 hr (show b < 4294967296 by omega)
      generalize r ^^^ b = d at HN hx hd
      obtain ⟨S, hS⟩ : ∃ S, S = crcK 8 d := ⟨_, rfl⟩
      have HS := Lib.hid hS
      have hSl : S < 4294967296 := by rw [hS]; exact crcK_lt 8 hd
      rw [← hS] at HN
      clear hS
      go_wp2
      clear hx
      go_loop [3, 17] (fun cv kv => ∃ k t : Nat, k ≤ 8 ∧ kv = .int .i64 k ∧ cv = .int .u32 t ∧ t < 4294967296 ∧ S = crcK (8 - k) t) (fun _ kv => 8 - (intOf kv).toNat)
      case atStart => exact ⟨0, d, by omega, rfl, rfl, hd, HS.out⟩
      case round =>
        obtain ⟨k, t, hk, rfl, rfl, ht, hS⟩ := hrel
        have HK := Lib.hid hS
        clear hS
        by_cases hk8 : k < 8
        · obtain ⟨m, hm⟩ : ∃ m, 8 - k = m + 1 := ⟨7 - k, by omega⟩
          have hm2 : 8 - (k + 1) = m := by omega
          rw [hm] at HK
          have ha := and_one ht
          by_cases ho : t % 2 = 1
          · have ht2 := xor32 (show t / 2 < 4294967296 by omega) (show 3988292384 < 4294967296 by decide)
            have hp := xor_poly ht
            have HK := Lib.hid (HK.out.trans (show crcK (m + 1) t = crcK m (t / 2 ^^^ 3988292384) by show crcK m (crcB t) = _; unfold crcB; rw [if_pos ho]))
            rw [ho] at ha
            generalize t / 2 ^^^ 3988292384 = t2 at HK hp ht2
            go_wp2
            go_round
            case rel => exact ⟨k + 1, t2, by omega, by go_num, rfl, ht2, by rw [hm2]; exact HK.out⟩
            case measure => simp [intOf]; omega
          · have HK := Lib.hid (HK.out.trans (show crcK (m + 1) t = crcK m (t / 2) by show crcK m (crcB t) = _; unfold crcB; rw [if_neg ho]))
            rw [show t % 2 = 0 by omega] at ha
            go_wp2
            go_round
            case rel => exact ⟨k + 1, t / 2, by omega, by go_num, by go_num, by omega, by rw [hm2]; exact HK.out⟩
            case measure => simp [intOf]; omega
        · obtain rfl : k = 8 := by omega
          have HK := Lib.hid (HK.out.trans (show crcK (8 - 8) t = t from rfl))
          obtain rfl := HK.out
          go_wp2
          go_round
          case rel => exact ⟨j + 1, S, by omega, by go_num, rfl, hSl, HN.out⟩
          case measure => simp [intOf]; omega
    · obtain rfl : j = n := by omega
      have HN := Lib.hid (HJ.out.trans (show crcS r (bs.drop j) = r by rw [List.drop_eq_nil_of_le (by rw [L.out]; exact Nat.le_refl _)]; rfl))
      obtain rfl := HN.out
      have hxa := hxa.out
      go_wp2
      go_ret
      exact ⟨by rw [hZ.out]; rfl, rfl⟩

theorem psum (A : Option Addr) (n c : Nat) (bs : List Nat) (w : World) (h : Byts w A n bs) :
    Calls Try.prog 33 #[.slice A n c] w fun e w' => e = .returned (.int .i64 (crcZ bs)) ∧ w = w' := by
  have HP := Lib.hid (pchecksum A n c bs w h)
  have hl := crcZ_lt h.2.2.2
  generalize crcZ bs = z at HP hl
  go_enter Try.func33, Try.ntmps33
  go_wp2_with fail
  refine HP.out.mono ?_
  rintro e w' ⟨rfl, rfl⟩
  go_wp2
  go_ret
  exact ⟨rfl, rfl⟩

set_option maxHeartbeats 2000000 in
set_option maxRecDepth 100000 in
theorem rsum (A : Option Addr) (n c : Nat) (bs : List Nat) (w : World) (h : Byts w A n bs) :
    Calls Try.prog 34 #[.slice A n c] w fun e w' => e = .returned (.int .i64 (crcZ bs)) ∧ w = w' := by
  have L := Lib.hid h.1
  have hn := h.2.1
  obtain ⟨R, hR⟩ : ∃ R, R = crcS 4294967295 bs := ⟨_, rfl⟩
  have hZ := Lib.hid (show crcZ bs = R ^^^ 4294967295 by rw [hR]; rfl)
  have hRl : R < 4294967296 := by rw [hR]; exact crcS_lt bs (by decide) h.2.2.2
  have HR := Lib.hid (show R = crcS 4294967295 (bs.drop 0) by rw [List.drop_zero]; exact hR)
  clear hR
  have hxa := Lib.hid (xor_all hRl)
  go_enter Try.func34, Try.ntmps34
  go_wp2
  go_loop [3, 4] (fun cv jv => ∃ j r : Nat, j ≤ n ∧ jv = .int .i64 j ∧ cv = .int .u32 r ∧ r < 4294967296 ∧ R = crcS r (bs.drop j)) (fun _ jv => n - (intOf jv).toNat)
  case atStart => exact ⟨0, 4294967295, Nat.zero_le _, rfl, rfl, by decide, HR.out⟩
  case round =>
    obtain ⟨j, r, hj, rfl, rfl, hr, hR⟩ := hrel
    have HJ := Lib.hid hR
    clear hR
    by_cases hlt : j < n
    · obtain ⟨g, o, rfl, _, hcell, h256⟩ := h.at_ (k := j) hlt
      have HN := Lib.hid (HJ.out.trans (crcS_at (by rw [L.out]; exact hlt)))
      generalize bs.getD j 0 = b at hcell h256 HN
      have hx := u32_xor_nat r b hr (by omega)
      have hd := xor32 hr (show b < 4294967296 by omega)
      generalize r ^^^ b = d at HN hx hd
      obtain ⟨S, hS⟩ : ∃ S, S = crcK 8 d := ⟨_, rfl⟩
      have HS := Lib.hid hS
      have hSl : S < 4294967296 := by rw [hS]; exact crcK_lt 8 hd
      rw [← hS] at HN
      clear hS
      go_wp2
      clear hx
      go_loop [3, 5] (fun cv kv => ∃ k t : Nat, k ≤ 8 ∧ kv = .int .i64 k ∧ cv = .int .u32 t ∧ t < 4294967296 ∧ S = crcK (8 - k) t) (fun _ kv => 8 - (intOf kv).toNat)
      case atStart => exact ⟨0, d, by omega, rfl, rfl, hd, HS.out⟩
      case round =>
        obtain ⟨k, t, hk, rfl, rfl, ht, hS⟩ := hrel
        have HK := Lib.hid hS
        clear hS
        by_cases hk8 : k < 8
        · obtain ⟨m, hm⟩ : ∃ m, 8 - k = m + 1 := ⟨7 - k, by omega⟩
          have hm2 : 8 - (k + 1) = m := by omega
          rw [hm] at HK
          by_cases ho : t % 2 = 1
          · have ht2 := xor32 (show t / 2 < 4294967296 by omega) (show 3988292384 < 4294967296 by decide)
            have hp := xor_poly ht
            have HK := Lib.hid (HK.out.trans (show crcK (m + 1) t = crcK m (t / 2 ^^^ 3988292384) by show crcK m (crcB t) = _; unfold crcB; rw [if_pos ho]))
            have hq : ((t : Int) % 2 == 1) = true := by simp; omega
            generalize t / 2 ^^^ 3988292384 = t2 at HK hp ht2
            go_wp2
            go_round
            case rel => exact ⟨k + 1, t2, by omega, by go_num, rfl, ht2, by rw [hm2]; exact HK.out⟩
            case measure => simp [intOf]; omega
          · have HK := Lib.hid (HK.out.trans (show crcK (m + 1) t = crcK m (t / 2) by show crcK m (crcB t) = _; unfold crcB; rw [if_neg ho]))
            have hq : ((t : Int) % 2 == 1) = false := by simp; omega
            go_wp2
            go_round
            case rel => exact ⟨k + 1, t / 2, by omega, by go_num, by go_num, by omega, by rw [hm2]; exact HK.out⟩
            case measure => simp [intOf]; omega
        · obtain rfl : k = 8 := by omega
          have HK := Lib.hid (HK.out.trans (show crcK (8 - 8) t = t from rfl))
          obtain rfl := HK.out
          go_wp2
          go_round
          case rel => exact ⟨j + 1, S, by omega, by go_num, rfl, hSl, HN.out⟩
          case measure => simp [intOf]; omega
    · obtain rfl : j = n := by omega
      have HN := Lib.hid (HJ.out.trans (show crcS r (bs.drop j) = r by rw [List.drop_eq_nil_of_le (by rw [L.out]; exact Nat.le_refl _)]; rfl))
      obtain rfl := HN.out
      have hxa := hxa.out
      have hl2 := xor32 hRl (show 4294967295 < 4294967296 by decide)
      generalize R ^^^ 4294967295 = z at hZ hxa hl2
      go_wp2
      go_ret
      exact ⟨by rw [hZ.out]; rfl, rfl⟩
end Go.Proofs.Ytihahljpfekmbaa
