/- A decoder: words. -/
import Derived.Test.YtihahljpfekmbaaTakn
namespace Go.Proofs.Ytihahljpfekmbaa
open Go.RowKit

theorem KeptT.only {w w' : World} {g : Nat} {A : Option Addr} {n c u : Nat} (h : w.grownBy w' (some g)) (hD : Dec w g A n c u) {t : TypeId} (ht : 97 ≠ t) : KeptT t w w' := fun g' cs e => by
  rw [h.block g' (heap_lt e) ?_]
  · exact e
  · intro e2
    injection e2 with e2
    have hD : w.heap[g]? = _ := hD
    rw [← e2, e] at hD
    injection hD with hD
    injection hD with _ h2 _
    exact ht h2.symm
theorem only_trans {a w w' : World} {g : Nat} (h : a.grownBy w (some g)) (k : w.grownBy w' (some g)) : a.grownBy w' (some g) :=
  ⟨k.os.trans h.os, k.tape.trans h.tape, k.output.trans h.output, Nat.le_trans h.size k.size, fun i hi hne => (k.block i (Nat.lt_of_lt_of_le hi h.size) hne).trans (h.block i hi hne)⟩
theorem dec_ne_list : (97 : TypeId) ≠ 32 := by decide

theorem wrdsR_fit {bs : List Nat} : ∀ (k u : Nat) (acc : List (List Int)), u ≤ bs.length → acc.length ≤ u → (∀ xs, xs ∈ acc → xs.length ≤ bs.length) → (wrdsR bs k u acc).2.2 = 0 →
    u ≤ (wrdsR bs k u acc).2.1 ∧ (wrdsR bs k u acc).2.1 ≤ bs.length ∧ (wrdsR bs k u acc).1.length ≤ (wrdsR bs k u acc).2.1 ∧ ∀ xs, xs ∈ (wrdsR bs k u acc).1 → xs.length ≤ bs.length
  | 0, u, acc, hu, ha, hx, _ => ⟨Nat.le_refl _, hu, ha, hx⟩
  | k + 1, u, acc, hu, ha, hx, h => by
    by_cases he : (lisA bs u).2.2 = 0
    · rw [wrdsR_ok he] at h ⊢
      have hb := lisA_fit hu he
      have := wrdsR_fit k (lisA bs u).2.1 (acc ++ [(lisA bs u).1]) hb.2.1 (by rw [List.length_append]; simp; omega) (by
        intro xs hm
        rcases List.mem_append.1 hm with hm | hm
        · exact hx xs hm
        · simp at hm; subst hm; omega) h
      exact ⟨by omega, this.2.1, this.2.2.1, this.2.2.2⟩
    · rw [wrdsR_bad he] at h; exact absurd h he
theorem worA_fit {bs : List Nat} {u : Nat} (hu : u ≤ bs.length) (h : (worA bs u).2.2 = 0) : u < (worA bs u).2.1 ∧ (worA bs u).2.1 ≤ bs.length ∧ (worA bs u).1.length ≤ (worA bs u).2.1 ∧ ∀ xs, xs ∈ (worA bs u).1 → xs.length ≤ bs.length := by
  by_cases he : erA bs u = 0
  · by_cases hn : nuA bs u < 0
    · rw [worA_neg he hn] at h; exact absurd h (by simp)
    · obtain ⟨k, hk⟩ : ∃ k : Nat, nuA bs u = k := ⟨(nuA bs u).toNat, by omega⟩
      rw [worA_ok he hk] at h ⊢
      have hb := szA_bd hu he
      have := wrdsR_fit k (u + szA bs u) [] hb.2 (by simp) (by simp) h
      exact ⟨by omega, this.2⟩
  · rw [worA_err he] at h; exact absurd h he

/-- What words leaves, by its result. -/
def WordsPost (w : World) (g : Nat) (A : Option Addr) (n c : Nat) (V : List (List Int) × Nat × Int) (e : Ending) (w' : World) : Prop :=
  (V.2.2 = 0 → ∃ A' c', e = .returned (.slice A' V.1.length c') ∧ OwnedL w' w.heap.size (.slice A' V.1.length c') V.1 ∧ Dec w' g A n c V.2.1) ∧ (¬ V.2.2 = 0 → e = pan V.2.2) ∧ w.grownBy w' (some g)

set_option maxHeartbeats 2000000 in
set_option maxRecDepth 100000 in
theorem dwords {W : World} (g : Nat) (A : Option Addr) (n c u : Nat) (bs : List Nat) (w : World) (h : Byts W A n bs) (hb : Below W.heap.size W w) (hg : W.heap.size ≤ g) (hD : Dec w g A n c u) (hu : u ≤ n) (hc : n ≤ c) (hn : n ≤ 1000000) :
    Calls Try.prog 69 #[.pointer (some ⟨g, 0, none⟩)] w (WordsPost w g A n c (worA bs u)) := by
  have L := Lib.hid h.1
  by_cases he : erA bs u = 0
  · by_cases h0 : nuA bs u < 0
    · have HE := Lib.hid (worA_neg he h0)
      have HL := Lib.hid (dlength_bad g A n c u bs w h hb hg hD hu hc 5 (.inr ⟨he, h0, rfl⟩))
      clear hD he h0
      go_enter Try.func69, Try.ntmps69
      go_wp2_with fail
      refine HL.out.mono ?_
      rintro e w1 ⟨rfl, hgr⟩
      exact ⟨rfl, fun H => by rw [HE.out] at H; exact absurd H (by simp), fun _ => by rw [HE.out]; rfl, hgr⟩
    · obtain ⟨K, hK⟩ : ∃ k : Nat, nuA bs u = k := ⟨(nuA bs u).toNat, by omega⟩
      have hsz := szA_bd (by rw [L.out]; exact hu) he
      rw [L.out] at hsz
      have HV := Lib.hid (worA_ok he hK)
      have HL := Lib.hid (dlength g A n c u bs w h hb hg hD hu hc he (by omega))
      have hKm : K ≤ 9223372036854775807 := by
        have hv := scn_val (bs.drop u) 0 (by omega) he
        rw [Nat.sub_zero] at hv
        have hV : val ((bs.drop u).take (szA bs u)) < 18446744073709551616 := by unfold szA; omega
        unfold nuA zag at hK
        split at hK <;> omega
      rw [hK] at HL
      obtain ⟨V, hV⟩ : ∃ V, V = worA bs u := ⟨_, rfl⟩
      rw [← hV] at HV ⊢
      have hD1 := Lib.hid (fun q => (hD.set (u + szA bs u)).drew q)
      have hG1 := Lib.hid (fun q => only_drewN (only_setCell (World.grownBy.refl w (some g)) 1 (.int .i64 ((u + szA bs u : Nat) : Int))) q)
      generalize u + szA bs u = u1 at hsz HV HL hD1 hG1
      clear hV hD hK h0 he
      have hu1 : u1 ≤ n := hsz.2
      go_enter Try.func69, Try.ntmps69
      go_wp2_with fail
      refine HL.out.mono ?_
      rintro e w1 ⟨rfl, q, rfl⟩
      have d1 := hD1.out q
      have g1 := hG1.out q
      generalize (w.setCell ⟨g, 1, none⟩ (.int .i64 (u1 : Int))).drewN q = w1 at d1 g1 ⊢
      have D1 := Lib.hid d1
      have G1 := Lib.hid g1
      clear d1 g1 hD1 hG1
      go_wp2
      go_loopw [3, 6] (fun v jv wr => ∃ (j u' : Nat) (acc : List (List Int)) (A' : Option Addr) (c' : Nat), j ≤ K ∧ jv = .int .i64 j ∧ v = .slice A' acc.length c' ∧ u' ≤ n ∧ acc.length ≤ u' ∧ V = wrdsR bs (K - j) u' acc ∧ OwnedL wr w.heap.size (.slice A' acc.length c') acc ∧ Dec wr g A n c u' ∧ w.grownBy wr (some g)) (fun _ jv _ => K - (intOf jv).toNat)
      case atStart => exact ⟨0, u1, [], none, 0, Nat.zero_le _, rfl, rfl, hu1, by simp, HV.out, OwnedL.nil _ _, D1.out, G1.out⟩
      case round =>
        obtain ⟨j, u', acc, A', c', hj, rfl, rfl, hu', hal, hV, hown, hD, hgr⟩ := hrel
        have HV := Lib.hid hV
        have HD := Lib.hid hD
        have HG := Lib.hid hgr
        have HO := Lib.hid hown
        have hbr := below_only hb hg hgr
        clear hV hD hgr hown
        by_cases hlt : j < K
        · obtain ⟨m, hm⟩ : ∃ m, K - j = m + 1 := ⟨K - j - 1, by omega⟩
          have hm2 : K - (j + 1) = m := by omega
          rw [hm] at HV
          have HNU := Lib.hid (dnumbers g A n c u' bs wr h hbr hg HD.out hu' hc hn)
          by_cases he : (lisA bs u').2.2 = 0
          · have hs2 := lisA_fit (by rw [L.out]; exact hu') he
            rw [L.out] at hs2
            have HV2 := Lib.hid (HV.out.trans (wrdsR_ok he))
            have HE := Lib.hid he
            clear he HV
            generalize lisA bs u' = X at HNU hs2 HV2 HE
            obtain ⟨x1, u2, x3⟩ := X
            have HE : Hid (x3 = 0) := HE
            have hs2 : u' < u2 ∧ u2 ≤ n ∧ x1.length ≤ u2 := hs2
            have HV2 : Hid (V = wrdsR bs m u2 (acc ++ [x1])) := HV2
            go_wp2_with fail
            refine HNU.out.mono ?_
            rintro e w2 ⟨hp1, _, hp3⟩
            obtain ⟨A5, c5, he5, ho5, hd5⟩ := hp1 HE.out
            have he5 : e = .returned (.slice A5 x1.length c5) := he5
            subst he5
            have hd5 : Dec w2 g A n c u2 := hd5
            have a2 := only_trans HG.out hp3
            have a3 := HO.out.keptT (KeptT.only hp3 HD.out dec_ne_int) (KeptT.only hp3 HD.out dec_ne_list)
            have a4 : Owned w2 w.heap.size (.slice A5 x1.length c5) x1 := ho5.lower HG.out.size
            clear hp1 hp3 ho5 HNU
            obtain ⟨A3, c3, w3, hr, ho3, hb3, hk3, _, _⟩ := run_append_list a3 a4 a2.size (by omega)
            have B1 := Lib.hid (hk3 _ dec_ne_list g _ hd5)
            have B2 := Lib.hid (only_below a2 hb3)
            have B3 := Lib.hid ho3
            have hlen := Lib.hid (show (acc ++ [x1]).length = acc.length + 1 by simp)
            clear a2 a3 a4 hk3 hb3 ho3 hd5
            go_wp2_with (at_builtin; refine Lib.wpList_append_run _ rfl _ _ _ _ rfl _ _ rfl rfl _ _ hr ?_)
            go_roundw
            case rel => exact ⟨j + 1, u2, acc ++ [x1], A3, c3, by omega, by go_num, by rw [hlen.out], hs2.2.1, by rw [hlen.out]; omega, by rw [hm2]; exact HV2.out, by rw [hlen.out]; exact B3.out, B1.out, B2.out⟩
            case measure => simp [intOf]; omega
          · have HV2 := Lib.hid (HV.out.trans (wrdsR_bad he))
            have HE := Lib.hid he
            clear he HV
            go_wp2_with fail
            refine HNU.out.mono ?_
            rintro e w2 ⟨_, hp2, hp3⟩
            obtain rfl := hp2 HE.out
            exact ⟨rfl, fun H => by rw [HV2.out] at H; exact absurd H HE.out, fun _ => by rw [HV2.out]; rfl, only_trans HG.out hp3⟩
        · obtain rfl : j = K := by omega
          rw [Nat.sub_self] at HV
          go_wp2
          go_ret
          exact ⟨fun _ => by rw [HV.out]; exact ⟨A', c', rfl, HO.out, HD.out⟩, fun H => absurd (by rw [HV.out]; rfl) H, HG.out⟩
  · have HE := Lib.hid (worA_err he)
    have HL := Lib.hid (dlength_bad g A n c u bs w h hb hg hD hu hc (erA bs u) (.inl ⟨he, rfl⟩))
    have HEE := Lib.hid he
    clear hD he
    go_enter Try.func69, Try.ntmps69
    go_wp2_with fail
    refine HL.out.mono ?_
    rintro e w1 ⟨rfl, hgr⟩
    exact ⟨rfl, fun H => by rw [HE.out] at H; exact absurd H HEE.out, fun _ => by rw [HE.out]; rfl, hgr⟩
end Go.Proofs.Ytihahljpfekmbaa
