/- The reference's TakeInts and TakeWords. -/
import Derived.Test.YtihahljpfekmbaaTakr
import Derived.Test.YtihahljpfekmbaaTakj
namespace Go.Proofs.Ytihahljpfekmbaa
open Go.RowKit

theorem erA_drop (bs : List Nat) (d u : Nat) : erA (bs.drop d) u = erA bs (d + u) := by unfold erA; rw [List.drop_drop]
theorem szA_drop (bs : List Nat) (d u : Nat) : szA (bs.drop d) u = szA bs (d + u) := by unfold szA; rw [List.drop_drop]
theorem nuA_drop (bs : List Nat) (d u : Nat) : nuA (bs.drop d) u = nuA bs (d + u) := by unfold nuA; rw [szA_drop, List.drop_drop]
theorem nmA_drop (bs : List Nat) (u : Nat) : nmA (bs.drop u) 0 = nmA bs u := by unfold nmA; rw [erA_drop, szA_drop, nuA_drop, Nat.add_zero]
/-- A result of a list, d bytes on. -/
def shf {α : Type} (d : Nat) (r : List α × Nat × Int) : List α × Nat × Int := if r.2.2 = 0 then (r.1, d + r.2.1, 0) else ([], 0, r.2.2)
theorem shf_ok {α : Type} {d : Nat} {r : List α × Nat × Int} (h : r.2.2 = 0) : shf d r = (r.1, d + r.2.1, 0) := by unfold shf; rw [if_pos h]
theorem shf_bad {α : Type} {d : Nat} {r : List α × Nat × Int} (h : ¬ r.2.2 = 0) : shf d r = ([], 0, r.2.2) := by unfold shf; rw [if_neg h]
theorem numsR_shf (bs : List Nat) (d : Nat) : ∀ (k u : Nat) (acc : List Int), numsR bs k (d + u) acc = shf d (numsR (bs.drop d) k u acc)
  | 0, u, acc => by rw [shf_ok (by rfl)]; rfl
  | k + 1, u, acc => by
    by_cases he : erA bs (d + u) = 0
    · rw [numsR_ok he, numsR_ok (by rw [erA_drop]; exact he), szA_drop, nuA_drop, Nat.add_assoc]
      exact numsR_shf bs d k _ _
    · have h2 : ¬ erA (bs.drop d) u = 0 := by rw [erA_drop]; exact he
      rw [numsR_bad he, numsR_bad h2, shf_bad h2, erA_drop]
theorem lisA_shf (bs : List Nat) (d : Nat) : lisA bs d = shf d (lisA (bs.drop d) 0) := by
  have e0 : erA (bs.drop d) 0 = erA bs d := by rw [erA_drop, Nat.add_zero]
  have e1 : szA (bs.drop d) 0 = szA bs d := by rw [szA_drop, Nat.add_zero]
  have e2 : nuA (bs.drop d) 0 = nuA bs d := by rw [nuA_drop, Nat.add_zero]
  by_cases he : erA bs d = 0
  · by_cases hn : nuA bs d < 0
    · rw [lisA_neg he hn, lisA_neg (by rw [e0]; exact he) (by rw [e2]; exact hn), shf_bad (by simp)]
    · obtain ⟨k, hk⟩ : ∃ k : Nat, nuA bs d = k := ⟨(nuA bs d).toNat, by omega⟩
      rw [lisA_ok he hk, lisA_ok (by rw [e0]; exact he) (by rw [e2]; exact hk), e1, Nat.zero_add]
      exact numsR_shf bs d k _ _
  · rw [lisA_err he, lisA_err (by rw [e0]; exact he), e0, shf_bad he]

set_option maxHeartbeats 2000000 in
set_option maxRecDepth 100000 in
theorem rtakeInts (A : Option Addr) (n c : Nat) (bs : List Nat) (w : World) (h : Byts w A n bs) (hc : n ≤ c) (hn : n ≤ 1000000) :
    Calls Try.prog 22 #[.slice A n c] w fun e w' => ∃ B d, e = .returned (.tuple #[.slice B (lisA bs 0).1.length d, .int .i64 (lisA bs 0).2.1, .int .i64 (lisA bs 0).2.2]) ∧ Owned w' w.heap.size (.slice B (lisA bs 0).1.length d) (lisA bs 0).1 ∧ Below w.heap.size w w' := by
  have L := Lib.hid h.1
  have HF := Lib.hid (rtakeInt A n c bs w h hc)
  by_cases he : erA bs 0 = 0
  · rw [nmA_ok he] at HF
    by_cases h0 : nuA bs 0 < 0
    · have HV := Lib.hid (lisA_neg he h0)
      generalize lisA bs 0 = V at HV ⊢
      generalize nuA bs 0 = v at HF h0
      generalize szA bs 0 = s at HF
      have dv : decide (v < 0) = true := decide_eq_true h0
      clear he
      go_enter Try.func22, Try.ntmps22
      go_wp2_with fail
      refine HF.out.mono ?_
      rintro e w1 ⟨rfl, rfl⟩
      go_wp2
      go_ret3
      rw [HV.out]
      exact ⟨none, 0, rfl, Owned.nil _ _, Below.refl _ _⟩
    · obtain ⟨K, hK⟩ : ∃ k : Nat, nuA bs 0 = k := ⟨(nuA bs 0).toNat, by omega⟩
      have hsz := szA_bd (Nat.zero_le _) he
      rw [L.out, Nat.zero_add] at hsz
      have HV := Lib.hid (lisA_ok he hK)
      rw [Nat.zero_add] at HV
      rw [hK] at HF
      have hKm : K ≤ 9223372036854775807 := by
        have hv := scn_val (bs.drop 0) 0 (by omega) he
        rw [Nat.sub_zero] at hv
        have hV : val ((bs.drop 0).take (szA bs 0)) < 18446744073709551616 := by unfold szA; omega
        unfold nuA zag at hK
        split at hK <;> omega
      generalize lisA bs 0 = V at HV ⊢
      generalize szA bs 0 = u1 at HF hsz HV
      clear hK he h0
      have dv : decide ((K : Int) < 0) = false := by simp
      go_enter Try.func22, Try.ntmps22
      go_wp2_with fail
      refine HF.out.mono ?_
      rintro e w1 ⟨rfl, rfl⟩
      go_wp2
      go_loopw [8, 6] (fun v uv wr => ∃ (j u' : Nat) (acc : List Int) (A' : Option Addr) (c' : Nat), j ≤ K ∧ acc.length = j ∧ uv = .int .i64 u' ∧ v = .slice A' j c' ∧ u' ≤ n ∧ j ≤ u' ∧ V = numsR bs (K - j) u' acc ∧ Owned wr w.heap.size (.slice A' j c') acc ∧ Below w.heap.size w wr) (fun _ uv _ => n - (intOf uv).toNat)
      case atStart => exact ⟨0, u1, [], none, 0, Nat.zero_le _, rfl, rfl, rfl, hsz.2, Nat.zero_le _, HV.out, Owned.nil _ _, Below.refl _ _⟩
      case round =>
        obtain ⟨j, u', acc, A', c', hj, hlen, rfl, rfl, hu', hal, hV, hown, hbr⟩ := hrel
        have HV := Lib.hid hV
        have HO := Lib.hid hown
        have HLN := Lib.hid hlen
        clear hV hown hlen
        by_cases hlt : j < K
        · have dj : decide ((j : Int) < (K : Int)) = true := by simp; omega
          obtain ⟨m, hm⟩ : ∃ m, K - j = m + 1 := ⟨K - j - 1, by omega⟩
          have hm2 : K - (j + 1) = m := by omega
          rw [hm] at HV
          have hsl := fun W => run_taily A n c u' hu' W
          have hy := (h.below hbr).tail hu' hc
          have HN := Lib.hid (rtakeInt _ _ (c - u') _ wr hy (by omega))
          rw [nmA_drop] at HN
          generalize (if c = u' then A else A.map (·.add u')) = R at hsl HN
          clear hy
          by_cases he : erA bs u' = 0
          · have hs2 := szA_bd (by rw [L.out]; exact hu') he
            rw [L.out] at hs2
            have HV2 := Lib.hid (HV.out.trans (numsR_ok he))
            rw [nmA_ok he] at HN
            generalize nuA bs u' = x at HV2 HN
            generalize szA bs u' = s at hs2 HV2 HN
            clear he HV
            go_wp2_with fail
            refine HN.out.mono ?_
            rintro e w2 ⟨rfl, rfl⟩
            obtain ⟨A3, c3, w3, hr, ho3, hb3, _⟩ := run_append_one HO.out x hbr.size (by rw [HLN.out]; omega)
            rw [HLN.out] at hr ho3
            have B2 := Lib.hid (hbr.trans hb3)
            have B3 := Lib.hid ho3
            clear hb3 ho3
            go_wp2_with (at_builtin; refine Lib.wpList_append_run _ rfl _ _ _ _ rfl _ _ rfl rfl _ _ hr ?_)
            go_roundw
            case rel => exact ⟨j + 1, u' + s, acc ++ [x], A3, c3, by omega, by rw [List.length_append, HLN.out]; rfl, by go_num, rfl, hs2.2, by omega, by rw [hm2]; exact HV2.out, B3.out, B2.out⟩
            case measure => simp [intOf]; omega
          · have HV2 := Lib.hid (HV.out.trans (numsR_bad he))
            rw [nmA_bad he] at HN
            generalize erA bs u' = k at HV2 HN he
            have dk : (k != 0) = true := by simp; exact he
            clear HV
            go_wp2_with fail
            refine HN.out.mono ?_
            rintro e w2 ⟨rfl, rfl⟩
            go_wp2
            go_ret3
            rw [HV2.out]
            exact ⟨none, 0, rfl, Owned.nil _ _, hbr⟩
        · obtain rfl : j = K := by omega
          have dj : decide ((j : Int) < (j : Int)) = false := by simp
          rw [Nat.sub_self] at HV
          go_wp2
          go_ret3
          rw [HV.out]
          have e : numsR bs 0 u' acc = (acc, u', 0) := rfl
          rw [e]
          show ∃ B d, _ = Ending.returned (.tuple #[.slice B acc.length d, _, _]) ∧ Owned _ _ (.slice B acc.length d) acc ∧ _
          rw [HLN.out]
          exact ⟨A', c', rfl, HO.out, hbr⟩
  · have HV := Lib.hid (lisA_err he)
    rw [nmA_bad he] at HF
    generalize lisA bs 0 = V at HV ⊢
    generalize erA bs 0 = k at HF HV he
    have dk : (k != 0) = true := by simp; exact he
    have dk2 : (k == 0) = false := by simp; exact he
    go_enter Try.func22, Try.ntmps22
    go_wp2_with fail
    refine HF.out.mono ?_
    rintro e w1 ⟨rfl, rfl⟩
    go_wp2
    go_ret3
    rw [HV.out]
    exact ⟨none, 0, rfl, Owned.nil _ _, Below.refl _ _⟩
end Go.Proofs.Ytihahljpfekmbaa
