/- The reference's TakeWords. -/
import Derived.Test.YtihahljpfekmbaaTaks
namespace Go.Proofs.Ytihahljpfekmbaa
open Go.RowKit

set_option maxHeartbeats 2000000 in
set_option maxRecDepth 100000 in
theorem rtakeWords (A : Option Addr) (n c : Nat) (bs : List Nat) (w : World) (h : Byts w A n bs) (hc : n ≤ c) (hn : n ≤ 1000000) :
    Calls Try.prog 24 #[.slice A n c] w fun e w' => ∃ B d, e = .returned (.tuple #[.slice B (worA bs 0).1.length d, .int .i64 (worA bs 0).2.1, .int .i64 (worA bs 0).2.2]) ∧ OwnedL w' w.heap.size (.slice B (worA bs 0).1.length d) (worA bs 0).1 ∧ Below w.heap.size w w' := by
  have L := Lib.hid h.1
  have HF := Lib.hid (rtakeInt A n c bs w h hc)
  by_cases he : erA bs 0 = 0
  · rw [nmA_ok he] at HF
    by_cases h0 : nuA bs 0 < 0
    · have HV := Lib.hid (worA_neg he h0)
      generalize worA bs 0 = V at HV ⊢
      generalize nuA bs 0 = v at HF h0
      generalize szA bs 0 = s at HF
      have dv : decide (v < 0) = true := decide_eq_true h0
      clear he
      go_enter Try.func24, Try.ntmps24
      go_wp2_with fail
      refine HF.out.mono ?_
      rintro e w1 ⟨rfl, rfl⟩
      go_wp2
      go_ret3
      rw [HV.out]
      exact ⟨none, 0, rfl, OwnedL.nil _ _, Below.refl _ _⟩
    · obtain ⟨K, hK⟩ : ∃ k : Nat, nuA bs 0 = k := ⟨(nuA bs 0).toNat, by omega⟩
      have hsz := szA_bd (Nat.zero_le _) he
      rw [L.out, Nat.zero_add] at hsz
      have HV := Lib.hid (worA_ok he hK)
      rw [Nat.zero_add] at HV
      rw [hK] at HF
      have hKm : K ≤ 9223372036854775807 := by
        have hv := scn_val (bs.drop 0) 0 (by omega) he
        rw [Nat.sub_zero] at hv
        have hV : val ((bs.drop 0).take (szA bs 0)) < 18446744073709551616 := by unfold szA; omega
        unfold nuA zag at hK
        split at hK <;> omega
      generalize worA bs 0 = V at HV ⊢
      generalize szA bs 0 = u1 at HF hsz HV
      clear hK he h0
      have dv : decide ((K : Int) < 0) = false := by simp
      go_enter Try.func24, Try.ntmps24
      go_wp2_with fail
      refine HF.out.mono ?_
      rintro e w1 ⟨rfl, rfl⟩
      go_wp2
      go_loopw [8, 6] (fun v uv wr => ∃ (j u' : Nat) (acc : List (List Int)) (A' : Option Addr) (c' : Nat), j ≤ K ∧ acc.length = j ∧ uv = .int .i64 u' ∧ v = .slice A' j c' ∧ u' ≤ n ∧ j ≤ u' ∧ V = wrdsR bs (K - j) u' acc ∧ OwnedL wr w.heap.size (.slice A' j c') acc ∧ Below w.heap.size w wr) (fun _ uv _ => n - (intOf uv).toNat)
      case atStart => exact ⟨0, u1, [], none, 0, Nat.zero_le _, rfl, rfl, rfl, hsz.2, Nat.zero_le _, HV.out, OwnedL.nil _ _, Below.refl _ _⟩
      case round =>
        obtain ⟨j, u', acc, A', c', hj, hlen, rfl, rfl, hu', hal, hV, hown, hbr⟩ := hrel
        have HV := Lib.hid hV
        have HO := Lib.hid hown
        have HLN := Lib.hid hlen
        clear hV hown hlen
        by_cases hlt : j < K
        · have dj : decide ((j : Int) < (K : Int)) = true := by simp; omega
          obtain ⟨m, hm⟩ : ∃ m, K - j = m + 1 := ⟨K - j - 1, by omega⟩
          have hm2 : K - (j + 1) = m := by omega
          rw [hm] at HV
          have hsl := fun W => run_taily A n c u' hu' W
          have hy := (h.below hbr).tail hu' hc
          have HN := Lib.hid (rtakeInts _ _ (c - u') _ wr hy (by omega) (by omega))
          have HSH := Lib.hid (lisA_shf bs u')
          generalize (if c = u' then A else A.map (·.add u')) = R at hsl HN
          clear hy
          by_cases he : (lisA (bs.drop u') 0).2.2 = 0
          · have hs2 := lisA_fit (by rw [L.out]; exact hu') (show (lisA bs u').2.2 = 0 by rw [HSH.out, shf_ok he])
            have HV2 := Lib.hid (HV.out.trans (wrdsR_ok (by rw [HSH.out, shf_ok he])))
            rw [HSH.out, shf_ok he, L.out] at hs2
            rw [HSH.out, shf_ok he] at HV2
            have HE := Lib.hid he
            clear he HV HSH
            generalize lisA (bs.drop u') 0 = X at HN hs2 HV2 HE
            obtain ⟨x1, s, x3⟩ := X
            obtain rfl : x3 = 0 := HE.out
            have hs2 : u' < u' + s ∧ u' + s ≤ n ∧ x1.length ≤ u' + s := hs2
            have HV2 : Hid (V = wrdsR bs m (u' + s) (acc ++ [x1])) := HV2
            go_wp2_with fail
            refine HN.out.mono ?_
            rintro e w2 ⟨A5, c5, he5, ho5, hb5⟩
            have he5 : e = .returned (.tuple #[.slice A5 x1.length c5, .int .i64 s, .int .i64 0]) := he5
            have ho5 : Owned w2 wr.heap.size (.slice A5 x1.length c5) x1 := ho5
            subst he5
            have hb6 := hbr.trans (hb5.mono hbr.size)
            obtain ⟨A3, c3, w3, hr, ho3, hb3, _, _, _⟩ := run_append_list (HO.out.kept hb5) (ho5.lower hbr.size) hb6.size (by rw [HLN.out]; omega)
            rw [HLN.out] at hr ho3
            have B2 := Lib.hid (hb6.trans hb3)
            have B3 := Lib.hid ho3
            clear hb3 ho3 ho5 hb5 HN
            go_wp2_with (at_builtin; refine Lib.wpList_append_run _ rfl _ _ _ _ rfl _ _ rfl rfl _ _ hr ?_)
            go_roundw
            case rel => exact ⟨j + 1, u' + s, acc ++ [x1], A3, c3, by omega, by rw [List.length_append, HLN.out]; rfl, by go_num, rfl, hs2.2.1, by omega, by rw [hm2]; exact HV2.out, B3.out, B2.out⟩
            case measure => simp [intOf]; omega
          · have HV2 := Lib.hid (HV.out.trans (wrdsR_bad (by rw [HSH.out, shf_bad he]; exact he)))
            rw [HSH.out, shf_bad he] at HV2
            have HFM := Lib.hid (lisA_form he)
            clear HV HSH
            generalize lisA (bs.drop u') 0 = X at HN HV2 he HFM
            obtain ⟨x1, s, k⟩ := X
            have hx : x1 = [] ∧ s = 0 := by
              have := HFM.out
              simp at this
              exact this
            obtain ⟨rfl, rfl⟩ := hx
            have he : ¬ k = 0 := he
            have HV2 : Hid (V = ([], 0, k)) := HV2
            have dk : (k != 0) = true := by simp; exact he
            clear HFM
            go_wp2_with fail
            refine HN.out.mono ?_
            rintro e w2 ⟨A5, c5, he5, ho5, hb5⟩
            have he5 : e = .returned (.tuple #[.slice A5 0 c5, .int .i64 0, .int .i64 k]) := he5
            subst he5
            have hb6 := hbr.trans (hb5.mono hbr.size)
            clear ho5 HN hb5
            go_wp2
            go_ret3
            rw [HV2.out]
            exact ⟨none, 0, rfl, OwnedL.nil _ _, hb6⟩
        · obtain rfl : j = K := by omega
          have dj : decide ((j : Int) < (j : Int)) = false := by simp
          rw [Nat.sub_self] at HV
          go_wp2
          go_ret3
          rw [HV.out]
          have e : wrdsR bs 0 u' acc = (acc, u', 0) := rfl
          rw [e]
          show ∃ B d, _ = Ending.returned (.tuple #[.slice B acc.length d, _, _]) ∧ OwnedL _ _ (.slice B acc.length d) acc ∧ _
          rw [HLN.out]
          exact ⟨A', c', rfl, HO.out, hbr⟩
  · have HV := Lib.hid (worA_err he)
    rw [nmA_bad he] at HF
    generalize worA bs 0 = V at HV ⊢
    generalize erA bs 0 = k at HF HV he
    have dk : (k != 0) = true := by simp; exact he
    have dk2 : (k == 0) = false := by simp; exact he
    go_enter Try.func24, Try.ntmps24
    go_wp2_with fail
    refine HF.out.mono ?_
    rintro e w1 ⟨rfl, rfl⟩
    go_wp2
    go_ret3
    rw [HV.out]
    exact ⟨none, 0, rfl, OwnedL.nil _ _, Below.refl _ _⟩
end Go.Proofs.Ytihahljpfekmbaa
