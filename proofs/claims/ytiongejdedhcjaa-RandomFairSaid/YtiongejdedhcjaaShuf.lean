/- The walks of Shuffle, by the two texts. -/
import Derived.Test.YtiongejdedhcjaaWords
import Derived.Test.YtiongejdedhcjaaShufp
import Derived.RegionTactic
import Derived.ChangeAlike
namespace Go.Proofs.Ytiongejdedhcjaa
open Go.RowKit

noncomputable def shuV (s : Nat) (n : Int) : List Int × Int × Int := if 0 ≤ n ∧ n ≤ 10000 then ((shl n.toNat s (n.toNat - 1)).1, ((shl n.toNat s (n.toNat - 1)).2 : Int), 0) else ([], 0, 2)
theorem shuV_ok (s n : Nat) (h : n ≤ 10000) : shuV s n = ((shl n s (n - 1)).1, ((shl n s (n - 1)).2 : Int), 0) := by
  unfold shuV; rw [if_pos (by omega)]; rfl
theorem shuV_bad {n : Int} (h : ¬ (0 ≤ n ∧ n ≤ 10000)) (s : Nat) : shuV s n = ([], 0, 2) := by unfold shuV; rw [if_neg h]

theorem Owned.cell_ {w : World} {base g n c : Nat} {xs : List Int} (h : Owned w base (.slice (some ⟨g, 0, none⟩) n c) xs) (hm : n ≤ 17592186044416) {k : Nat} (hk : k < n) :
    w.cell? ⟨g, k, none⟩ = some (.int .i64 (xs[k]?.getD 0)) := by
  have hn : xs.length = n := by obtain ⟨A', c', e⟩ := h.form; cases e; rfl
  obtain ⟨g', o', e, _, hc⟩ := (h.ints (by omega)).at_ hk
  cases e
  rw [Nat.zero_add] at hc
  simpa [List.getD] using hc

theorem pdraw1 (s i : Nat) (hs : s < 18446744073709551616) (hn : Drawable (i + 1)) (w : World) :
    Calls Try.prog 23 #[.int .u64 s, .int .i64 (i + 1)] w fun e w' => e = .returned (.tuple #[.int .i64 (Drx s (i + 1)), .int .u64 (Drs s (i + 1))]) ∧ w = w' :=
  pdraw s (i + 1) hs hn w
theorem rdraw1 (s i : Nat) (hs : s < 18446744073709551616) (hn : Drawable (i + 1)) (w : World) :
    Calls Try.prog 24 #[.int .u64 s, .int .i64 (i + 1)] w fun e w' => e = .returned (.tuple #[.int .i64 (Drx s (i + 1)), .int .u64 (Drs s (i + 1))]) ∧ w = w' :=
  rdraw s (i + 1) hs hn w

set_option maxHeartbeats 2000000 in
theorem pshuffle (s : Nat) (n : Int) (hs : s < 18446744073709551616) (w : World) :
    Calls Try.prog 17 #[.int .u64 s, .int .i64 n] w fun e w' => ∃ v, e = .returned (.tuple #[v, .int .u64 (shuV s n).2.1, .int .i64 (shuV s n).2.2]) ∧ Owned w' w.heap.size v (shuV s n).1 ∧ Below w.heap.size w w' := by
  by_cases h : 0 ≤ n ∧ n ≤ 10000
  · obtain ⟨n, rfl⟩ : ∃ m : Nat, n = m := ⟨n.toNat, by omega⟩
    have hn : n ≤ 10000 := by omega
    have H := Lib.hid (shuV_ok s n hn)
    clear h
    go_enter Try.func17, Try.ntmps17
    go_wp2_with (refine wpList_make_ints _ rfl _ _ rfl .i64 .i64 n rfl rfl (by omega) ?_; intro w1 hown1 hbel1)
    go_loopw [20] (fun i wr => ∃ j : Nat, j ≤ n ∧ i = .int .i64 j ∧ Owned wr w.heap.size (.slice (some ⟨w.heap.size, 0, none⟩) n n) (iot j ++ List.replicate (n - j) 0) ∧ Below w.heap.size w wr) (fun i _ => n - (intOf i).toNat)
    case atStart => exact ⟨0, Nat.zero_le _, rfl, hown1, hbel1⟩
    case round =>
      clear hown1 hbel1
      obtain ⟨j, hj, rfl, hown, hbr⟩ := hrel
      by_cases hlt : j < n
      · obtain ⟨g, hA, hg1, hg2, hfr⟩ := hown.head (by omega)
        cases hA
        have hcell := hown.cell_ (by omega) hlt
        have hst := hown.stored j (j : Int)
        rw [iot_set j n hlt] at hst
        have hfm := hfr j
        clear hfr
        go_wp2
        go_roundw
        case rel => exact ⟨j + 1, by omega, by go_num, hst, hbr.setCell (by exact hg1) _⟩
        case measure => simp [intOf]; omega
      · obtain rfl : j = n := by omega
        rw [Nat.sub_self, List.replicate_zero, List.append_nil] at hown
        go_wp2
        go_loopw [0, 9] (fun t i wr2 => ∃ (q : Nat) (ii : Int), q ≤ j ∧ (q = j → j = 0) ∧ ii = (j : Int) - 1 - q ∧ i = .int .i64 ii ∧ t = .int .u64 (shl j s q).2 ∧ Owned wr2 w.heap.size (.slice (some ⟨w.heap.size, 0, none⟩) j j) (shl j s q).1 ∧ Below w.heap.size w wr2) (fun _ i _ => (intOf i).toNat)
        case atStart => exact ⟨0, _, by omega, by omega, by simp, rfl, rfl, hown, hbr⟩
        case round =>
          clear hown hbr
          obtain ⟨q, ii, hq, hq0, hii, rfl, rfl, hown, hbr⟩ := hrel
          by_cases hlt : q + 1 < j
          · obtain ⟨i, hi⟩ : ∃ i : Nat, i = j - 1 - q := ⟨_, rfl⟩
            obtain rfl : ii = (i : Int) := by omega
            have hnq : j - q = i + 1 := by omega
            have hdr : Drawable (i + 1) := ⟨by omega, by omega⟩
            have hk : Drx (shl j s q).2 (i + 1) < i + 1 := Drx_lt hdr
            obtain ⟨k, hkk⟩ : ∃ k, k = Drx (shl j s q).2 (i + 1) := ⟨_, rfl⟩
            rw [← hkk] at hk
            have hs2 : (shl j s (q + 1)) = (swp (shl j s q).1 i k, Drs (shl j s q).2 (i + 1)) := by rw [shl, hkk, hi, show j - q = j - 1 - q + 1 by omega]
            have PD := Lib.hid (pdraw1 (shl j s q).2 i (shl_lt hs q) hdr)
            rw [← hkk] at PD
            have H2 := Lib.hid hs2
            have hin : i < j := by omega
            have hpos : 0 < i := by omega
            obtain ⟨g, hA, hg1, hg2, hfr⟩ := hown.head (by omega)
            cases hA
            have c1 := hown.cell_ (by omega) hin
            have c2 := hown.cell_ (by omega) (k := k) (by omega)
            have hst := Lib.hid ((hown.stored i ((shl j s q).1[k]?.getD 0)).stored k ((shl j s q).1[i]?.getD 0))
            have f1 := hfr i
            have f2 := hfr k
            have HI := Lib.hid hi
            clear hfr hkk hs2 hi hnq hii hown
            rcases Nat.lt_or_ge k i with hki | hki
            · go_wp2_with (go_at_call 23; refine (PD.out _).mono ?_; rintro e w' ⟨rfl, rfl⟩)
              go_region
              go_wp2
              go_roundw
              case rel => refine ⟨q + 1, (i : Int) - 1, by omega, by omega, by have := HI.out; omega, rfl, by rw [H2.out], by rw [H2.out]; exact hst.out, ((hbr.setCell (by exact hg1) _).setCell (by exact hg1) _).drew⟩
              case measure => simp [intOf]; omega
            · obtain rfl : k = i := by omega
              go_wp2_with (go_at_call 23; refine (PD.out _).mono ?_; rintro e w' ⟨rfl, rfl⟩)
              go_region
              go_wp2
              go_roundw
              case rel => refine ⟨q + 1, (k : Int) - 1, by omega, by omega, by have := HI.out; omega, rfl, by rw [H2.out], by rw [H2.out]; exact hst.out, ((hbr.setCell (by exact hg1) _).setCell (by exact hg1) _).drew⟩
              case measure => simp [intOf]; omega
          · have hfin : q = j - 1 := by omega
            have hle : ii ≤ 0 := by omega
            subst hfin
            clear hii
            go_wp2
            go_ret3
            refine ⟨_, ret_row H.out rfl rfl, ?_, hbr⟩
            rw [H.out]
            exact hown
  · have H := Lib.hid (shuV_bad h s)
    have hor : n < 0 ∨ (0 ≤ n ∧ 10000 < n) := by omega
    clear h
    rcases hor with h | ⟨h, h'⟩
    all_goals
      go_enter Try.func17, Try.ntmps17
      go_wp2
      go_ret3
      exact ⟨_, ret_row H.out rfl rfl, by rw [H.out]; exact Owned.nil _ _, Below.refl _ _⟩
set_option maxHeartbeats 2000000 in
theorem rshuffle (s : Nat) (n : Int) (hs : s < 18446744073709551616) (w : World) :
    Calls Try.prog 18 #[.int .u64 s, .int .i64 n] w fun e w' => ∃ v, e = .returned (.tuple #[v, .int .u64 (shuV s n).2.1, .int .i64 (shuV s n).2.2]) ∧ Owned w' w.heap.size v (shuV s n).1 ∧ Below w.heap.size w w' := by
  by_cases h : 0 ≤ n ∧ n ≤ 10000
  · obtain ⟨n, rfl⟩ : ∃ m : Nat, n = m := ⟨n.toNat, by omega⟩
    have hn : n ≤ 10000 := by omega
    have H := Lib.hid (shuV_ok s n hn)
    clear h
    go_enter Try.func18, Try.ntmps18
    go_wp2_with (refine wpList_make_ints _ rfl _ _ rfl .i64 .i64 n rfl rfl (by omega) ?_; intro w1 hown1 hbel1)
    go_loopw [8] (fun i wr => ∃ j : Nat, j ≤ n ∧ i = .int .i64 j ∧ Owned wr w.heap.size (.slice (some ⟨w.heap.size, 0, none⟩) n n) (iot j ++ List.replicate (n - j) 0) ∧ Below w.heap.size w wr) (fun i _ => n - (intOf i).toNat)
    case atStart => exact ⟨0, Nat.zero_le _, rfl, hown1, hbel1⟩
    case round =>
      clear hown1 hbel1
      obtain ⟨j, hj, rfl, hown, hbr⟩ := hrel
      by_cases hlt : j < n
      · obtain ⟨g, hA, hg1, hg2, hfr⟩ := hown.head (by omega)
        cases hA
        have hcell := hown.cell_ (by omega) hlt
        have hst := hown.stored j (j : Int)
        rw [iot_set j n hlt] at hst
        have hfm := hfr j
        clear hfr
        go_wp2
        go_roundw
        case rel => exact ⟨j + 1, by omega, by go_num, hst, hbr.setCell (by exact hg1) _⟩
        case measure => simp [intOf]; omega
      · obtain rfl : j = n := by omega
        rw [Nat.sub_self, List.replicate_zero, List.append_nil] at hown
        go_wp2
        go_loopw [0, 9] (fun t i wr2 => ∃ (q : Nat) (ii : Int), q ≤ j ∧ (q = j → j = 0) ∧ ii = (j : Int) - 1 - q ∧ i = .int .i64 ii ∧ t = .int .u64 (shl j s q).2 ∧ Owned wr2 w.heap.size (.slice (some ⟨w.heap.size, 0, none⟩) j j) (shl j s q).1 ∧ Below w.heap.size w wr2) (fun _ i _ => (intOf i).toNat)
        case atStart => exact ⟨0, _, by omega, by omega, by simp, rfl, rfl, hown, hbr⟩
        case round =>
          clear hown hbr
          obtain ⟨q, ii, hq, hq0, hii, rfl, rfl, hown, hbr⟩ := hrel
          by_cases hlt : q + 1 < j
          · obtain ⟨i, hi⟩ : ∃ i : Nat, i = j - 1 - q := ⟨_, rfl⟩
            obtain rfl : ii = (i : Int) := by omega
            have hnq : j - q = i + 1 := by omega
            have hdr : Drawable (i + 1) := ⟨by omega, by omega⟩
            have hk : Drx (shl j s q).2 (i + 1) < i + 1 := Drx_lt hdr
            obtain ⟨k, hkk⟩ : ∃ k, k = Drx (shl j s q).2 (i + 1) := ⟨_, rfl⟩
            rw [← hkk] at hk
            have hs2 : (shl j s (q + 1)) = (swp (shl j s q).1 i k, Drs (shl j s q).2 (i + 1)) := by rw [shl, hkk, hi, show j - q = j - 1 - q + 1 by omega]
            have PD := Lib.hid (rdraw1 (shl j s q).2 i (shl_lt hs q) hdr)
            rw [← hkk] at PD
            have H2 := Lib.hid hs2
            have hin : i < j := by omega
            have hpos : 0 < i := by omega
            obtain ⟨g, hA, hg1, hg2, hfr⟩ := hown.head (by omega)
            cases hA
            have c1 := hown.cell_ (by omega) hin
            have c2 := hown.cell_ (by omega) (k := k) (by omega)
            have hst := Lib.hid ((hown.stored i ((shl j s q).1[k]?.getD 0)).stored k ((shl j s q).1[i]?.getD 0))
            have f1 := hfr i
            have f2 := hfr k
            have HI := Lib.hid hi
            clear hfr hkk hs2 hi hnq hii hown
            rcases Nat.lt_or_ge k i with hki | hki
            · go_wp2_with (go_at_call 24; refine (PD.out _).mono ?_; rintro e w' ⟨rfl, rfl⟩)
              go_region
              go_wp2
              go_roundw
              case rel => refine ⟨q + 1, (i : Int) - 1, by omega, by omega, by have := HI.out; omega, rfl, by rw [H2.out], by rw [H2.out]; exact hst.out, ((hbr.setCell (by exact hg1) _).setCell (by exact hg1) _).drew⟩
              case measure => simp [intOf]; omega
            · obtain rfl : k = i := by omega
              go_wp2_with (go_at_call 24; refine (PD.out _).mono ?_; rintro e w' ⟨rfl, rfl⟩)
              go_region
              go_wp2
              go_roundw
              case rel => refine ⟨q + 1, (k : Int) - 1, by omega, by omega, by have := HI.out; omega, rfl, by rw [H2.out], by rw [H2.out]; exact hst.out, ((hbr.setCell (by exact hg1) _).setCell (by exact hg1) _).drew⟩
              case measure => simp [intOf]; omega
          · have hfin : q = j - 1 := by omega
            have hle : ii < 1 := by omega
            subst hfin
            clear hii
            go_wp2
            go_ret3
            refine ⟨_, ret_row H.out rfl rfl, ?_, hbr⟩
            rw [H.out]
            exact hown
  · have H := Lib.hid (shuV_bad h s)
    have hor : n < 0 ∨ (0 ≤ n ∧ 10000 < n) := by omega
    clear h
    rcases hor with h | ⟨h, h'⟩
    all_goals
      go_enter Try.func18, Try.ntmps18
      go_wp2
      go_ret3
      exact ⟨_, ret_row H.out rfl rfl, by rw [H.out]; exact Owned.nil _ _, Below.refl _ _⟩
end Go.Proofs.Ytiongejdedhcjaa
