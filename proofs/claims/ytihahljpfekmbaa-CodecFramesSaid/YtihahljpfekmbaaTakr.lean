/- The reference's TakeInt. -/
import Derived.Test.YtihahljpfekmbaaTaki
import Derived.Test.YtihahljpfekmbaaBytr
import Derived.Lib.SmallJoins
namespace Go.Proofs.Ytihahljpfekmbaa
open Go.RowKit

theorem or_low {u x : Nat} (hu : u * 128 + x % 128 < 18446744073709551616) : bits .or .u64 ((u : Int) * 128) ((x : Int) % 128) = ((u * 128 + x % 128 : Nat) : Int) := by
  obtain ⟨y, hy⟩ : ∃ y, y = x % 128 := ⟨_, rfl⟩
  have hx : y < 128 := by omega
  rw [show ((x : Int) % 128) = ((x % 128 : Nat) : Int) by omega]
  rw [← hy] at hu ⊢
  clear hy
  have e2 : (u : Int) * 128 = ((u * 128 : Nat) : Int) := by omega
  rw [e2, u64_or_nat _ _ (by omega) (by omega)]
  congr 1
  have := Nat.two_pow_add_eq_or_of_lt (i := 7) (b := y) hx u
  rw [show u * 128 = 2 ^ 7 * u by omega, ← this]
theorem zag_o {V : Nat} (h : V % 2 = 1) : zag V = -((V : Int) / 2) - 1 := by
  unfold zag
  rw [if_pos h]
  omega
theorem val_drop_le : ∀ (T : List Nat) (j : Nat), val (T.drop j) ≤ val T
  | [], j => by simp
  | b :: T, 0 => by simp
  | b :: T, j + 1 => by
    have := val_drop_le T j
    show val (T.drop j) ≤ b % 128 + 128 * val T
    omega
theorem val_drop {T : List Nat} {j : Nat} (h : j < T.length) : val (T.drop j) = val (T.drop (j + 1)) * 128 + T.getD j 0 % 128 := by
  rw [drop_at h]
  show T.getD j 0 % 128 + 128 * val (T.drop (j + 1)) = _
  omega

set_option maxHeartbeats 2000000 in
set_option maxRecDepth 100000 in
theorem rtakeInt (A : Option Addr) (n c : Nat) (bs : List Nat) (w : World) (h : Byts w A n bs) (hc : n ≤ c) :
    Calls Try.prog 16 #[.slice A n c] w fun e w' => e = .returned (.tuple #[.int .i64 (nmA bs 0).1, .int .i64 (nmA bs 0).2.1, .int .i64 (nmA bs 0).2.2]) ∧ w = w' := by
  have L := Lib.hid h.1
  have hn := h.2.1
  obtain ⟨R, hR⟩ : ∃ R, R = scn 0 bs := ⟨_, rfl⟩
  have HR := Lib.hid hR
  have hbad : ∀ k : Int, R = (0, k) → ¬ k = 0 → nmA bs 0 = (0, 0, k) := fun k e h0 => by
    have e1 : erA bs 0 = k := by unfold erA; rw [List.drop_zero, ← hR, e]
    rw [nmA_bad (by rw [e1]; exact h0), e1]
  have hok : ∀ z : Nat, R = (z, 0) → nmA bs 0 = (zag (val (bs.take z)), z, 0) ∧ val (bs.take z) < 18446744073709551616 := fun z e => by
    have e1 : erA bs 0 = 0 := by unfold erA; rw [List.drop_zero, ← hR, e]
    have e2 : szA bs 0 = z := by unfold szA; rw [List.drop_zero, ← hR, e]
    have hv := scn_val bs 0 (by omega) (by rw [← hR, e])
    rw [← hR, e, Nat.sub_zero] at hv
    refine ⟨?_, by omega⟩
    rw [nmA_ok e1, e2]
    unfold nuA
    rw [e2, List.drop_zero]
  have HB := Lib.hid hbad
  have HK := Lib.hid hok
  clear hbad hok hR
  generalize nmA bs 0 = X at HB HK ⊢
  go_enter Try.func16, Try.ntmps16
  go_wp2
  go_loop [5] (fun jv => ∃ j : Nat, j ≤ n ∧ j ≤ 10 ∧ jv = .int .i64 j ∧ R = scn j (bs.drop j)) (fun jv => n - (intOf jv).toNat)
  case atStart => exact ⟨0, Nat.zero_le _, by omega, rfl, HR.out⟩
  case round =>
    obtain ⟨j, hj, hj10, rfl, hR⟩ := hrel
    have HJ := Lib.hid hR
    clear hR
    by_cases hlt : j < n
    · by_cases h10 : j = 10
      · subst h10
        have hfin := Lib.hid (HB.out 5 (HJ.out.trans (scn_ten _)) (by decide))
        go_wp2
        go_ret3
        exact ⟨by rw [hfin.out]; rfl, rfl⟩
      · have d10 : decide ((j : Int) < 10) = true := by simp; omega
        have e10 : ((j : Int) == 10) = false := by simp; omega
        have en : ((j : Int) == n) = false := by simp; omega
        obtain ⟨g, o, rfl, _, hcell, h256⟩ := h.at_ (k := j) hlt
        have HD := Lib.hid (HJ.out.trans (by rw [drop_at (by rw [L.out]; exact hlt)]))
        generalize bs.getD j 0 = b at hcell h256 HD
        by_cases hb : 128 ≤ b
        · have hd : decide ((128 : Int) ≤ (b : Int)) = true := by simp; omega
          have hnx := Lib.hid (HD.out.trans (scn_on h10 hb))
          go_wp2
          go_round
          case rel => exact ⟨j + 1, by omega, by omega, by go_num, hnx.out⟩
          case measure => simp [intOf]; omega
        · have hd : decide ((128 : Int) ≤ (b : Int)) = false := by simp; omega
          by_cases h2 : (0 < j ∧ b = 0) ∨ (j = 9 ∧ 1 < b)
          · have hfin := Lib.hid (HB.out 5 (HD.out.trans (scn_bad h10 hb h2)) (by decide))
            rcases h2 with ⟨h3, rfl⟩ | ⟨rfl, h3⟩
            · have d1 : decide ((0 : Int) < (j : Int)) = true := by simp; omega
              by_cases h9 : j = 9
              · subst h9
                go_wp2
                go_ret3
                exact ⟨by rw [hfin.out]; rfl, rfl⟩
              · have d2 : ((j : Int) == 9) = false := by simp; omega
                go_wp2
                go_ret3
                exact ⟨by rw [hfin.out]; rfl, rfl⟩
            · have d2 : decide ((1 : Int) < (b : Int)) = true := by simp; omega
              go_wp2
              go_ret3
              exact ⟨by rw [hfin.out]; rfl, rfl⟩
          · obtain ⟨hX, hV⟩ := HK.out (j + 1) (HD.out.trans (scn_ok h10 hb h2))
            have HX := Lib.hid hX
            have HV := Lib.hid hV
            have hcase : (j = 0) ∨ (0 < j ∧ j ≠ 9 ∧ b ≠ 0) ∨ (j = 9 ∧ b ≠ 0 ∧ ¬ 1 < b) := by omega
            have HT := Lib.hid (h.head (p := j + 1) (by omega))
            have hTl : (bs.take (j + 1)).length = j + 1 := HT.out.1
            generalize bs.take (j + 1) = T at HX HV HT hTl
            clear hX hV HD HJ HB HK HR h2
            rcases hcase with rfl | ⟨h0, h9, hb0⟩ | ⟨rfl, hb0, hb1⟩
            · rw [Nat.add_zero] at hcell
              go_wp2
              go_loop [6, 7] (fun uv iv => ∃ m : Nat, m ≤ 0 + 1 ∧ iv = .int .i64 ((m : Int) - 1) ∧ uv = .int .u64 (val (T.drop m))) (fun _ iv => ((intOf iv) + 1).toNat)
              case atStart => exact ⟨0 + 1, Nat.le_refl _, by first | rfl | (congr 1; omega), by rw [List.drop_eq_nil_of_le (by omega)]; rfl⟩
              case round =>
                obtain ⟨m, hm, rfl, rfl⟩ := hrel
                by_cases h00 : 0 < m
                · obtain ⟨q, rfl⟩ : ∃ q, m = q + 1 := ⟨m - 1, by omega⟩
                  rw [show (((q + 1 : Nat) : Int) - 1) = (q : Int) by omega]
                  obtain ⟨g2, o2, e2, _, hc2, hx⟩ := HT.out.at_ (k := q) (by omega)
                  cases e2
                  have hvd := val_drop (T := T) (j := q) (by omega)
                  have hvl := val_drop_le T q
                  rw [hvd] at hvl
                  have hvb := HV.out
                  have HVD := Lib.hid hvd
                  clear hvd
                  generalize T.getD q 0 = x at hc2 hx hvl HVD
                  generalize val (T.drop (q + 1)) = acc at hvl HVD
                  have hos := Lib.hid (or_low (u := acc) (x := x) (by omega))
                  go_wp2
                  go_round
                  case rel => exact ⟨q, by omega, by go_num, by rw [HVD.out, ← hos.out]⟩
                  case measure => first | (simp [intOf]; done) | (simp [intOf]; omega)
                · obtain rfl : m = 0 := by omega
                  rw [List.drop_zero]
                  rw [show (((0 : Nat) : Int) - 1) = -1 by omega]
                  generalize val T = V at HX HV
                  have hvb := HV.out
                  by_cases ho : V % 2 = 1
                  · have dv : ((V : Int) % 2 == 1) = true := by simp; omega
                    have HZ := Lib.hid (zag_o ho)
                    clear ho
                    go_wp2
                    go_ret3
                    exact ⟨by rw [HX.out, HZ.out]; rfl, rfl⟩
                  · have dv : ((V : Int) % 2 == 1) = false := by simp; omega
                    have HZ := Lib.hid (zag_even ho)
                    clear ho
                    go_wp2
                    go_ret3
                    exact ⟨by rw [HX.out, ← HZ.out]; rfl, rfl⟩
            · have d1 : decide ((0 : Int) < (j : Int)) = true := by simp; omega
              have d2 : ((j : Int) == 9) = false := by simp; omega
              have d3 : ((b : Int) == 0) = false := by simp; omega
              go_wp2
              go_loop [6, 7] (fun uv iv => ∃ m : Nat, m ≤ j + 1 ∧ iv = .int .i64 ((m : Int) - 1) ∧ uv = .int .u64 (val (T.drop m))) (fun _ iv => ((intOf iv) + 1).toNat)
              case atStart => exact ⟨j + 1, Nat.le_refl _, by first | rfl | (congr 1; omega), by rw [List.drop_eq_nil_of_le (by omega)]; rfl⟩
              case round =>
                obtain ⟨m, hm, rfl, rfl⟩ := hrel
                by_cases h00 : 0 < m
                · obtain ⟨q, rfl⟩ : ∃ q, m = q + 1 := ⟨m - 1, by omega⟩
                  rw [show (((q + 1 : Nat) : Int) - 1) = (q : Int) by omega]
                  obtain ⟨g2, o2, e2, _, hc2, hx⟩ := HT.out.at_ (k := q) (by omega)
                  cases e2
                  have hvd := val_drop (T := T) (j := q) (by omega)
                  have hvl := val_drop_le T q
                  rw [hvd] at hvl
                  have hvb := HV.out
                  have HVD := Lib.hid hvd
                  clear hvd
                  generalize T.getD q 0 = x at hc2 hx hvl HVD
                  generalize val (T.drop (q + 1)) = acc at hvl HVD
                  have hos := Lib.hid (or_low (u := acc) (x := x) (by omega))
                  go_wp2
                  go_round
                  case rel => exact ⟨q, by omega, by go_num, by rw [HVD.out, ← hos.out]⟩
                  case measure => first | (simp [intOf]; done) | (simp [intOf]; omega)
                · obtain rfl : m = 0 := by omega
                  rw [List.drop_zero]
                  rw [show (((0 : Nat) : Int) - 1) = -1 by omega]
                  generalize val T = V at HX HV
                  have hvb := HV.out
                  by_cases ho : V % 2 = 1
                  · have dv : ((V : Int) % 2 == 1) = true := by simp; omega
                    have HZ := Lib.hid (zag_o ho)
                    clear ho
                    go_wp2
                    go_ret3
                    exact ⟨by rw [HX.out, HZ.out]; rfl, rfl⟩
                  · have dv : ((V : Int) % 2 == 1) = false := by simp; omega
                    have HZ := Lib.hid (zag_even ho)
                    clear ho
                    go_wp2
                    go_ret3
                    exact ⟨by rw [HX.out, ← HZ.out]; rfl, rfl⟩
            · have d3 : ((b : Int) == 0) = false := by simp; omega
              have d4 : decide ((1 : Int) < (b : Int)) = false := by simp; omega
              go_wp2
              go_loop [6, 7] (fun uv iv => ∃ m : Nat, m ≤ 9 + 1 ∧ iv = .int .i64 ((m : Int) - 1) ∧ uv = .int .u64 (val (T.drop m))) (fun _ iv => ((intOf iv) + 1).toNat)
              case atStart => exact ⟨9 + 1, Nat.le_refl _, by first | rfl | (congr 1; omega), by rw [List.drop_eq_nil_of_le (by omega)]; rfl⟩
              case round =>
                obtain ⟨m, hm, rfl, rfl⟩ := hrel
                by_cases h00 : 0 < m
                · obtain ⟨q, rfl⟩ : ∃ q, m = q + 1 := ⟨m - 1, by omega⟩
                  rw [show (((q + 1 : Nat) : Int) - 1) = (q : Int) by omega]
                  obtain ⟨g2, o2, e2, _, hc2, hx⟩ := HT.out.at_ (k := q) (by omega)
                  cases e2
                  have hvd := val_drop (T := T) (j := q) (by omega)
                  have hvl := val_drop_le T q
                  rw [hvd] at hvl
                  have hvb := HV.out
                  have HVD := Lib.hid hvd
                  clear hvd
                  generalize T.getD q 0 = x at hc2 hx hvl HVD
                  generalize val (T.drop (q + 1)) = acc at hvl HVD
                  have hos := Lib.hid (or_low (u := acc) (x := x) (by omega))
                  go_wp2
                  go_round
                  case rel => exact ⟨q, by omega, by go_num, by rw [HVD.out, ← hos.out]⟩
                  case measure => first | (simp [intOf]; done) | (simp [intOf]; omega)
                · obtain rfl : m = 0 := by omega
                  rw [List.drop_zero]
                  rw [show (((0 : Nat) : Int) - 1) = -1 by omega]
                  generalize val T = V at HX HV
                  have hvb := HV.out
                  by_cases ho : V % 2 = 1
                  · have dv : ((V : Int) % 2 == 1) = true := by simp; omega
                    have HZ := Lib.hid (zag_o ho)
                    clear ho
                    go_wp2
                    go_ret3
                    exact ⟨by rw [HX.out, HZ.out]; rfl, rfl⟩
                  · have dv : ((V : Int) % 2 == 1) = false := by simp; omega
                    have HZ := Lib.hid (zag_even ho)
                    clear ho
                    go_wp2
                    go_ret3
                    exact ⟨by rw [HX.out, ← HZ.out]; rfl, rfl⟩
    · obtain rfl : j = n := by omega
      by_cases h10 : j = 10
      · subst h10
        have hfin := Lib.hid (HB.out 5 (HJ.out.trans (scn_ten _)) (by decide))
        go_wp2
        go_ret3
        exact ⟨by rw [hfin.out]; rfl, rfl⟩
      · have e10 : ((j : Int) == 10) = false := by simp; omega
        have hfin := Lib.hid (HB.out 4 (HJ.out.trans (by rw [List.drop_eq_nil_of_le (by rw [L.out]; exact Nat.le_refl _), scn_end, if_pos (by omega)])) (by decide))
        go_wp2
        go_ret3
        exact ⟨by rw [hfin.out]; rfl, rfl⟩
end Go.Proofs.Ytihahljpfekmbaa
