/- A decoder: numbers. -/
import Derived.Test.YtihahljpfekmbaaTakd
namespace Go.Proofs.Ytihahljpfekmbaa
open Go.RowKit

/-- What numbers leaves, by its result. -/
def NumsPost (w : World) (g : Nat) (A : Option Addr) (n c : Nat) (V : List Int × Nat × Int) (e : Ending) (w' : World) : Prop :=
  (V.2.2 = 0 → ∃ A' c', e = .returned (.slice A' V.1.length c') ∧ Owned w' w.heap.size (.slice A' V.1.length c') V.1 ∧ Dec w' g A n c V.2.1) ∧ (¬ V.2.2 = 0 → e = pan V.2.2) ∧ w.grownBy w' (some g)

theorem dec_ne_int : (97 : TypeId) ≠ 3 := by decide

set_option maxHeartbeats 2000000 in
set_option maxRecDepth 100000 in
theorem dnumbers {W : World} (g : Nat) (A : Option Addr) (n c u : Nat) (bs : List Nat) (w : World) (h : Byts W A n bs) (hb : Below W.heap.size W w) (hg : W.heap.size ≤ g) (hD : Dec w g A n c u) (hu : u ≤ n) (hc : n ≤ c) (hn : n ≤ 1000000) :
    Calls Try.prog 67 #[.pointer (some ⟨g, 0, none⟩)] w (NumsPost w g A n c (lisA bs u)) := by
  have L := Lib.hid h.1
  by_cases he : erA bs u = 0
  · by_cases h0 : nuA bs u < 0
    · have HE := Lib.hid (lisA_neg he h0)
      have HL := Lib.hid (dlength_bad g A n c u bs w h hb hg hD hu hc 5 (.inr ⟨he, h0, rfl⟩))
      clear hD he h0
      go_enter Try.func67, Try.ntmps67
      go_wp2_with fail
      refine HL.out.mono ?_
      rintro e w1 ⟨rfl, hgr⟩
      exact ⟨rfl, fun H => by rw [HE.out] at H; exact absurd H (by simp), fun _ => by rw [HE.out]; rfl, hgr⟩
    · obtain ⟨K, hK⟩ : ∃ k : Nat, nuA bs u = k := ⟨(nuA bs u).toNat, by omega⟩
      have hsz := szA_bd (by rw [L.out]; exact hu) he
      rw [L.out] at hsz
      have HV := Lib.hid (lisA_ok he hK)
      have HL := Lib.hid (dlength g A n c u bs w h hb hg hD hu hc he (by omega))
      have hKm : K ≤ 9223372036854775807 := by
        have hv := scn_val (bs.drop u) 0 (by omega) he
        rw [Nat.sub_zero] at hv
        have hV : val ((bs.drop u).take (szA bs u)) < 18446744073709551616 := by unfold szA; omega
        unfold nuA zag at hK
        split at hK <;> omega
      rw [hK] at HL
      obtain ⟨V, hV⟩ : ∃ V, V = lisA bs u := ⟨_, rfl⟩
      rw [← hV] at HV ⊢
      have hD1 := Lib.hid (fun q => (hD.set (u + szA bs u)).drew q)
      have hG1 := Lib.hid (fun q => only_drewN (only_setCell (World.grownBy.refl w (some g)) 1 (.int .i64 ((u + szA bs u : Nat) : Int))) q)
      generalize u + szA bs u = u1 at hsz HV HL hD1 hG1
      clear hV hD hK h0 he
      have hu1 : u1 ≤ n := hsz.2
      go_enter Try.func67, Try.ntmps67
      go_wp2_with fail
      refine HL.out.mono ?_
      rintro e w1 ⟨rfl, q, rfl⟩
      have d1 := hD1.out q
      have g1 := hG1.out q
      generalize (w.setCell ⟨g, 1, none⟩ (.int .i64 (u1 : Int))).drewN q = w1 at d1 g1 ⊢
      have D1 := Lib.hid d1
      have G1 := Lib.hid g1
      clear d1 g1 hD1 hG1
      go_wp2
      go_loopw [3, 6] (fun v jv wr => ∃ (j u' : Nat) (acc : List Int) (A' : Option Addr) (c' : Nat), j ≤ K ∧ jv = .int .i64 j ∧ v = .slice A' acc.length c' ∧ u' ≤ n ∧ acc.length ≤ u' ∧ V = numsR bs (K - j) u' acc ∧ Owned wr w.heap.size (.slice A' acc.length c') acc ∧ Dec wr g A n c u' ∧ w.grownBy wr (some g)) (fun _ jv _ => K - (intOf jv).toNat)
      case atStart => exact ⟨0, u1, [], none, 0, Nat.zero_le _, rfl, rfl, hu1, by simp, HV.out, Owned.nil _ _, D1.out, G1.out⟩
      case round =>
        obtain ⟨j, u', acc, A', c', hj, rfl, rfl, hu', hal, hV, hown, hD, hgr⟩ := hrel
        have HV := Lib.hid hV
        have HD := Lib.hid hD
        have HG := Lib.hid hgr
        have HO := Lib.hid hown
        have hbr := below_only hb hg hgr
        clear hV hD hgr hown
        by_cases hlt : j < K
        · obtain ⟨m, hm⟩ : ∃ m, K - j = m + 1 := ⟨K - j - 1, by omega⟩
          have hm2 : K - (j + 1) = m := by omega
          rw [hm] at HV
          by_cases he : erA bs u' = 0
          · have hs2 := szA_bd (by rw [L.out]; exact hu') he
            rw [L.out] at hs2
            have HV2 := Lib.hid (HV.out.trans (numsR_ok he))
            have HNU := Lib.hid (dnumber g A n c u' bs wr h hbr hg HD.out hu' hc he)
            have hd2 := Lib.hid (fun q => (HD.out.set (u' + szA bs u')).drew q)
            have hg2 := Lib.hid (fun q => only_drewN (only_setCell HG.out 1 (.int .i64 ((u' + szA bs u' : Nat) : Int))) q)
            have ho2 := Lib.hid (fun q => HO.out.off HD.out dec_ne_int 1 (.int .i64 ((u' + szA bs u' : Nat) : Int)) q)
            have hal2 : acc.length + 1 ≤ u' + szA bs u' := by omega
            generalize u' + szA bs u' = u2 at hs2 HV2 HNU hd2 hg2 ho2 hal2
            generalize nuA bs u' = v at HV2 HNU
            clear he HV
            go_wp2_with fail
            refine HNU.out.mono ?_
            rintro e w2 ⟨rfl, q2, rfl⟩
            have a1 := hd2.out q2
            have a2 := hg2.out q2
            have a3 := ho2.out q2
            generalize (wr.setCell ⟨g, 1, none⟩ (.int .i64 (u2 : Int))).drewN q2 = w2 at a1 a2 a3 ⊢
            clear hd2 hg2 ho2
            obtain ⟨A3, c3, w3, hr, ho3, hb3, hk3⟩ := run_append_one a3 v a2.size (by omega)
            have B1 := Lib.hid (hk3 g _ _ a1 dec_ne_int)
            have B2 := Lib.hid (only_below a2 hb3)
            have B3 := Lib.hid ho3
            have hlen := Lib.hid (show (acc ++ [v]).length = acc.length + 1 by simp)
            clear a1 a2 a3 hk3 hb3 ho3
            go_wp2_with (at_builtin; refine Lib.wpList_append_run _ rfl _ _ _ _ rfl _ _ rfl rfl _ _ hr ?_)
            go_roundw
            case rel => exact ⟨j + 1, u2, acc ++ [v], A3, c3, by omega, by go_num, by rw [hlen.out], hs2.2, by rw [hlen.out]; exact hal2, by rw [hm2]; exact HV2.out, by rw [hlen.out]; exact B3.out, B1.out, B2.out⟩
            case measure => simp [intOf]; omega
          · have HV2 := Lib.hid (HV.out.trans (numsR_bad he))
            have HNU := Lib.hid (dnumber_bad g A n c u' bs wr h hbr HD.out hu' hc he)
            have HE := Lib.hid he
            clear he HV
            go_wp2_with fail
            refine HNU.out.mono ?_
            rintro e w2 ⟨rfl, q2, rfl⟩
            exact ⟨rfl, fun H => by rw [HV2.out] at H; exact absurd H HE.out, fun _ => by rw [HV2.out]; rfl, only_drewN HG.out _⟩
        · obtain rfl : j = K := by omega
          rw [Nat.sub_self] at HV
          go_wp2
          go_ret
          exact ⟨fun _ => by rw [HV.out]; exact ⟨A', c', rfl, HO.out, HD.out⟩, fun H => absurd (by rw [HV.out]; rfl) H, HG.out⟩
  · have HE := Lib.hid (lisA_err he)
    have HL := Lib.hid (dlength_bad g A n c u bs w h hb hg hD hu hc (erA bs u) (.inl ⟨he, rfl⟩))
    have HEE := Lib.hid he
    clear hD he
    go_enter Try.func67, Try.ntmps67
    go_wp2_with fail
    refine HL.out.mono ?_
    rintro e w1 ⟨rfl, hgr⟩
    exact ⟨rfl, fun H => by rw [HE.out] at H; exact absurd H HEE.out, fun _ => by rw [HE.out]; rfl, hgr⟩
end Go.Proofs.Ytihahljpfekmbaa
