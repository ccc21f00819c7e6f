/- The walks of Choose, by the two texts. -/
import Derived.Test.YtiongejdedhcjaaWords
import Derived.Test.YtiongejdedhcjaaChoop
namespace Go.Proofs.Ytiongejdedhcjaa
open Go.RowKit

theorem Ints.cell_ {w : World} {A : Option Addr} {n : Nat} {xs : List Int} (h : Ints w A n xs) {k : Nat} (hk : k < n) :
    ∃ b off, A = some ⟨b, off, none⟩ ∧ b < w.heap.size ∧ w.cell? ⟨b, off + k, none⟩ = some (.int .i64 (xs[k]?.getD 0)) := by
  obtain ⟨b, off, e, hb, hc⟩ := h.at_ hk
  exact ⟨b, off, e, hb, by simpa [List.getD] using hc⟩

/-- The capped sum. -/
def cap (t : Int) : Int := if t ≤ 2147483649 then t else 2147483649
theorem cap_can (t : Int) : decide (Can (cap t)) = decide (Can t) := by
  rw [decide_eq_decide]; unfold cap Can; split <;> omega
theorem cap_of {t : Int} (h : t ≤ 2147483648) : cap t = t := by unfold cap; rw [if_pos (by omega)]

theorem cap_step {p x q : Int} (hq : q = cap p) (hp : 0 ≤ p) (hx : 0 ≤ x) : (if 2147483649 < q + (if 2147483649 < x then 2147483649 else x) then 2147483649 else q + (if 2147483649 < x then 2147483649 else x)) = cap (p + x) := by
  subst hq; unfold cap; repeat' split
  all_goals omega
theorem cap_in {p x q : Int} (hq : q = cap p) (hp : 0 ≤ p) (hx : 0 ≤ x) : 0 ≤ (if 2147483649 < q + (if 2147483649 < x then 2147483649 else x) then 2147483649 else q + (if 2147483649 < x then 2147483649 else x)) ∧ (if 2147483649 < q + (if 2147483649 < x then 2147483649 else x) then 2147483649 else q + (if 2147483649 < x then 2147483649 else x)) ≤ 2147483649 := by
  subst hq; unfold cap; repeat' split
  all_goals omega

set_option maxHeartbeats 400000 in
theorem psumw (A : Option Addr) (n c : Nat) (xs : List Int) (w : World) (h : Ints w A n xs) (hp : NoNeg xs n) :
    Calls Try.prog 26 #[.slice A n c] w fun e w' => e = .returned (.int .i64 (cap (psum xs n))) ∧ w = w' := by
  have L := Lib.hid h.1
  have hn := h.2.1
  have HP := Lib.hid hp
  clear hp
  go_enter Try.func26, Try.ntmps26
  go_wp2
  go_loop [3, 8] (fun t i => ∃ (j : Nat) (q : Int), j ≤ n ∧ i = .int .i64 j ∧ t = .int .i64 q ∧ q = cap (psum xs j) ∧ 0 ≤ q ∧ q ≤ 2147483649) (fun _ i => n - (intOf i).toNat)
  case atStart => exact ⟨0, 0, Nat.zero_le _, rfl, rfl, rfl, by omega, by omega⟩
  case round =>
    obtain ⟨j, q, hj, rfl, rfl, hq, q0, q1⟩ := hrel
    have HQ := Lib.hid hq
    clear hq
    by_cases hlt : j < n
    · obtain ⟨b, off, rfl, _, hcell⟩ := h.cell_ hlt
      have hx := HP.out j hlt
      have hs0 := Lib.hid (psum_nonneg HP.out hj)
      have hst := Lib.hid (cap_step HQ.out hs0.out hx)
      go_wp2
      go_round
      case rel => exact ⟨j + 1, _, by omega, by go_num, rfl, hst.out, (cap_in HQ.out hs0.out hx).1, (cap_in HQ.out hs0.out hx).2⟩
      case measure => simp [intOf]; omega
    · obtain rfl : j = n := by omega
      go_wp2
      go_ret
      exact ⟨by rw [← HQ.out]; rfl, rfl⟩

set_option maxHeartbeats 2000000 in
theorem pchoose (s : Nat) (A : Option Addr) (n c : Nat) (xs : List Int) (hs : s < 18446744073709551616) (w : World) (h : Ints w A n xs) :
    Calls Try.prog 19 #[.int .u64 s, .slice A n c] w fun e w' => e = .returned (.tuple #[.int .i64 (choV s xs).1, .int .u64 (choV s xs).2.1, .int .i64 (choV s xs).2.2]) ∧ w = w' := by
  have L := Lib.hid h.1
  have hn := h.2.1
  go_enter Try.func19, Try.ntmps19
  go_wp2
  go_loop [15] (fun i => ∃ j : Nat, j ≤ n ∧ i = .int .i64 j ∧ NoNeg xs j) (fun i => n - (intOf i).toNat)
  case atStart => exact ⟨0, Nat.zero_le _, rfl, NoNeg.zero _⟩
  case round =>
    obtain ⟨j, hj, rfl, hq⟩ := hrel
    have HQ := Lib.hid hq
    clear hq
    by_cases hlt : j < n
    · obtain ⟨b, off, rfl, _, hcell⟩ := h.cell_ hlt
      by_cases hx : xs[j]?.getD 0 < 0
      · have hfin := Lib.hid (choV_neg L.out hlt hx s)
        go_wp2
        go_ret3
        exact ⟨ret_trip hfin.out rfl rfl rfl, rfl⟩
      · have hnx := Lib.hid (HQ.out.succ (by omega))
        go_wp2
        go_round
        case rel => exact ⟨j + 1, by omega, by go_num, hnx.out⟩
        case measure => simp [intOf]; omega
    · obtain rfl : j = n := by omega
      by_cases hc : Can (psum xs j)
      · obtain ⟨t, ht⟩ : ∃ t : Nat, psum xs j = t := ⟨(psum xs j).toNat, by have := hc.1; omega⟩
        have hdr : Drawable t := ⟨by have := hc.1; omega, by have := hc.2; omega⟩
        have hcap := Lib.hid ((cap_of hc.2).trans ht)
        have hcan : decide (Can (t : Int)) = true := decide_eq_true (by rw [← ht]; exact hc)
        have hfin := Lib.hid (choV_ok L.out HQ.out ht hdr s)
        have HD := Lib.hid hdr
        have HT := Lib.hid ht
        have hX : Drx s t < t := Drx_lt hdr
        have ht2 := hdr.2
        clear hc ht hdr
        go_wp2_with (first
          | (go_at_call 26; refine (psumw _ _ _ xs _ h HQ.out).mono ?_; rintro e w' ⟨rfl, rfl⟩; rw [hcap.out])
          | (go_at_call 22; refine (pdrawable _ _).mono ?_; rintro e w' ⟨rfl, rfl⟩)
          | (go_at_call 23; refine (pdraw _ _ hs HD.out _).mono ?_; rintro e w' ⟨rfl, rfl⟩))
        go_loop [10, 12] (fun x i => ∃ (q : Nat) (y : Int), q ≤ j ∧ i = .int .i64 q ∧ x = .int .i64 y ∧ y = (Drx s t : Int) - psum xs q ∧ 0 ≤ y ∧ y ≤ 2147483648 ∧ pck xs j (Drx s t) (j - q) q = pck xs j (Drx s t) j 0) (fun _ i => j - (intOf i).toNat)
        case atStart => exact ⟨0, _, Nat.zero_le _, rfl, rfl, by simp [psum], by omega, by omega, rfl⟩
        case round =>
          obtain ⟨q, y, hq, rfl, rfl, hy, y0, y1, hgo⟩ := hrel
          have HG := Lib.hid hgo
          have hqj : q < j := by
            rcases Nat.lt_or_ge q j with h1 | h1
            · exact h1
            · exfalso
              obtain rfl : q = j := by omega
              have := HT.out
              omega
          obtain ⟨b, off, rfl, _, hcell⟩ := h.cell_ hqj
          have hw := HQ.out q hqj
          have hs1 : Hid (psum xs (q + 1) = psum xs q + xs[q]?.getD 0) := Lib.hid rfl
          by_cases hlt : y < xs[q]?.getD 0
          · have hh := Lib.hid (HG.out.symm.trans (pck_here (xs := xs) (x := (Drx s t : Int)) hqj (by rw [hs1.out]; omega)))
            clear hy hgo
            go_wp2
            go_ret3
            exact ⟨ret_trip hfin.out (by rw [hh.out]) rfl rfl, rfl⟩
          · have hh := Lib.hid (pck_next (xs := xs) (x := (Drx s t : Int)) hqj (by rw [hs1.out]; omega))
            have hy2 : Hid (y - xs[q]?.getD 0 = (Drx s t : Int) - psum xs (q + 1)) := Lib.hid (by rw [hs1.out]; omega)
            clear hy hgo
            go_wp2
            go_round
            case rel => exact ⟨q + 1, _, by omega, by go_num, rfl, hy2.out, by omega, by omega, by rw [← hh.out, HG.out]⟩
            case measure => simp [intOf]; omega
      · have hcan : decide (Can (cap (psum xs j))) = false := by rw [cap_can]; exact decide_eq_false hc
        have hfin := Lib.hid (choV_range L.out HQ.out hc s)
        clear hc
        go_wp2_with (first
          | (go_at_call 26; refine (psumw _ _ _ xs _ h HQ.out).mono ?_; rintro e w' ⟨rfl, rfl⟩)
          | (go_at_call 22; refine (pdrawable _ _).mono ?_; rintro e w' ⟨rfl, rfl⟩))
        go_ret3
        exact ⟨ret_trip hfin.out rfl rfl rfl, rfl⟩

theorem over_range {xs : List Int} {n q : Nat} (h : NoNeg xs n) (hq : q + 1 ≤ n) (ho : 2147483648 < psum xs (q + 1)) : ¬ (1 ≤ psum xs n ∧ psum xs n ≤ 2147483648) := by
  have := psum_mono h hq (Nat.le_refl _); omega

set_option maxHeartbeats 2000000 in
theorem rchoose (s : Nat) (A : Option Addr) (n c : Nat) (xs : List Int) (hs : s < 18446744073709551616) (w : World) (h : Ints w A n xs) :
    Calls Try.prog 20 #[.int .u64 s, .slice A n c] w fun e w' => e = .returned (.tuple #[.int .i64 (choV s xs).1, .int .u64 (choV s xs).2.1, .int .i64 (choV s xs).2.2]) ∧ w = w' := by
  have L := Lib.hid h.1
  have hn := h.2.1
  go_enter Try.func20, Try.ntmps20
  go_wp2
  go_loop [8] (fun i => ∃ j : Nat, j ≤ n ∧ i = .int .i64 j ∧ NoNeg xs j) (fun i => n - (intOf i).toNat)
  case atStart => exact ⟨0, Nat.zero_le _, rfl, NoNeg.zero _⟩
  case round =>
    obtain ⟨j, hj, rfl, hq⟩ := hrel
    have HQ := Lib.hid hq
    clear hq
    by_cases hlt : j < n
    · obtain ⟨b, off, rfl, _, hcell⟩ := h.cell_ hlt
      by_cases hx : xs[j]?.getD 0 < 0
      · have hfin := Lib.hid (choV_neg L.out hlt hx s)
        go_wp2
        go_ret3
        exact ⟨ret_trip hfin.out rfl rfl rfl, rfl⟩
      · have hnx := Lib.hid (HQ.out.succ (by omega))
        go_wp2
        go_round
        case rel => exact ⟨j + 1, by omega, by go_num, hnx.out⟩
        case measure => simp [intOf]; omega
    · obtain rfl : j = n := by omega
      go_wp2
      go_loop [7, 9] (fun t i => ∃ (q : Nat) (y : Int), q ≤ j ∧ i = .int .i64 q ∧ t = .int .i64 y ∧ y = psum xs q ∧ 0 ≤ y ∧ y ≤ 2147483648) (fun _ i => j - (intOf i).toNat)
      case atStart => exact ⟨0, _, Nat.zero_le _, rfl, rfl, rfl, by omega, by omega⟩
      case round =>
        obtain ⟨q, y, hq, rfl, rfl, hy, y0, y1⟩ := hrel
        have HY := Lib.hid hy
        clear hy
        by_cases hlt : q < j
        · obtain ⟨b, off, rfl, _, hcell⟩ := h.cell_ hlt
          have hw := HQ.out q hlt
          have hs1 : Hid (psum xs (q + 1) = psum xs q + xs[q]?.getD 0) := Lib.hid rfl
          by_cases hov : 2147483648 - y < xs[q]?.getD 0
          · have hfin := Lib.hid (choV_range L.out HQ.out (over_range HQ.out hlt (by rw [hs1.out, ← HY.out]; omega)) s)
            go_wp2
            go_ret3
            exact ⟨ret_trip hfin.out rfl rfl rfl, rfl⟩
          · have hst : Hid (y + xs[q]?.getD 0 = psum xs (q + 1)) := Lib.hid (by rw [hs1.out, ← HY.out])
            go_wp2
            go_round
            case rel => exact ⟨q + 1, _, by omega, by go_num, rfl, hst.out, by omega, by omega⟩
            case measure => simp [intOf]; omega
        · obtain rfl : q = j := by omega
          by_cases h0 : y = 0
          · have hfin := Lib.hid (choV_range L.out HQ.out (by rw [← HY.out]; omega) s)
            subst h0
            go_wp2
            go_ret3
            exact ⟨ret_trip hfin.out rfl rfl rfl, rfl⟩
          · obtain ⟨t, rfl⟩ : ∃ t : Nat, y = t := ⟨y.toNat, by omega⟩
            have hdr : Drawable t := ⟨by omega, by omega⟩
            have hfin := Lib.hid (choV_ok L.out HQ.out HY.out.symm hdr s)
            have HD := Lib.hid hdr
            have hX : Drx s t < t := Drx_lt hdr
            have ht2 := hdr.2
            have hne : ((t : Int) == 0) = false := by simp; omega
            clear hdr
            go_wp2_with (go_at_call 24; refine (rdraw _ _ hs HD.out _).mono ?_; rintro e w' ⟨rfl, rfl⟩)
            go_loop [10, 12] (fun x i => ∃ (p : Nat) (y : Int), p ≤ q ∧ i = .int .i64 p ∧ x = .int .i64 y ∧ y = (Drx s t : Int) - psum xs p ∧ 0 ≤ y ∧ y ≤ 2147483648 ∧ pck xs q (Drx s t) (q - p) p = pck xs q (Drx s t) q 0) (fun _ i => q - (intOf i).toNat)
            case atStart => exact ⟨0, _, Nat.zero_le _, rfl, rfl, by simp [psum], by omega, by omega, rfl⟩
            case round =>
              obtain ⟨p, y, hp, rfl, rfl, hy, y0', y1', hgo⟩ := hrel
              have HG := Lib.hid hgo
              have hpq : p < q := by
                rcases Nat.lt_or_ge p q with h1 | h1
                · exact h1
                · exfalso
                  obtain rfl : p = q := by omega
                  have := HY.out
                  omega
              obtain ⟨b, off, rfl, _, hcell⟩ := h.cell_ hpq
              have hw := HQ.out p hpq
              have hs1 : Hid (psum xs (p + 1) = psum xs p + xs[p]?.getD 0) := Lib.hid rfl
              by_cases hlt : y < xs[p]?.getD 0
              · have hh := Lib.hid (HG.out.symm.trans (pck_here (xs := xs) (x := (Drx s t : Int)) hpq (by rw [hs1.out]; omega)))
                clear hy hgo
                go_wp2
                go_ret3
                exact ⟨ret_trip hfin.out (by rw [hh.out]) rfl rfl, rfl⟩
              · have hh := Lib.hid (pck_next (xs := xs) (x := (Drx s t : Int)) hpq (by rw [hs1.out]; omega))
                have hy2 : Hid (y - xs[p]?.getD 0 = (Drx s t : Int) - psum xs (p + 1)) := Lib.hid (by rw [hs1.out]; omega)
                clear hy hgo
                go_wp2
                go_round
                case rel => exact ⟨p + 1, _, by omega, by go_num, rfl, hy2.out, by omega, by omega, by rw [← hh.out, HG.out]⟩
                case measure => simp [intOf]; omega
end Go.Proofs.Ytiongejdedhcjaa
