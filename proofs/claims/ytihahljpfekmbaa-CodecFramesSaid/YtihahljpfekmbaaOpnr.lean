/- Open of the reference. -/
import Derived.Test.YtihahljpfekmbaaFram
import Derived.Test.YtihahljpfekmbaaTaks
import Derived.Test.YtihahljpfekmbaaEncr
import Derived.Test.YtihahljpfekmbaaPutr
import Derived.Deep.RegionLaw
namespace Go.Proofs.Ytihahljpfekmbaa
open Go.RowKit

theorem results_four {fn : Func} {a b c d : Tmp} (h : fn.results = #[.tmp a, .tmp b, .tmp c, .tmp d]) (tmps : Array Value) (P : Program) (w : World) :
    (results fn tmps).run P w = .ok (.tuple #[tmps.getD a undef, tmps.getD b undef, tmps.getD c undef, tmps.getD d undef]) w := by
  simp [results, h]
theorem run_winy (A : Option Addr) (n c l q : Nat) (hl : l ≤ q) (hq : q ≤ c) (w : World) : (Instr.slice 22 (.slice A n c) (some (.int .i64 l)) (some (.int .i64 q)) none).run Try.prog w = .ok (.slice (rst A c l) (q - l) (c - l)) w := by
  obtain ⟨i, hi, hz0, hz1, hz2⟩ := info_parts infoy
  have he : Try.prog.elem 22 = 5 := by kernel_rfl
  rw [run_slice_lh (P := Try.prog) w 22 A n c (by rw [he]; exact Try.underlying22) .i64 .i64 l q (by omega) (by omega) (by omega), he]
  simp [sizeOf, typeInfo, hi, sliced, hz1, rst]

/-- A frame's bytes ahead of the checksum. -/
theorem seal_take {bs : List Nat} {m : Nat} (hb : ∀ b, b ∈ bs → b < 256) (h0 : ¬ bs.length = 0) (h1 : erA bs 1 = 0) (h2 : nuA bs 1 = m) (h3 : 1 + szA bs 1 + m ≤ bs.length) :
    sealP (bs.getD 0 0) ((bs.drop (1 + szA bs 1)).take m) = bs.take (1 + szA bs 1 + m) := by
  have hl : ((bs.drop (1 + szA bs 1)).take m).length = m := by rw [List.length_take, List.length_drop]; omega
  unfold sealP
  rw [hl, ← h2, enc_at hb h1, List.take_add, List.take_add]
  congr 1
  congr 1
  cases bs with
  | nil => exact absurd rfl h0
  | cons b bs => rfl
theorem seal_same {bs : List Nat} {m : Nat} (hb : ∀ b, b ∈ bs → b < 256) (h0 : ¬ bs.length = 0) (h1 : erA bs 1 = 0) (h2 : nuA bs 1 = m) (h3 : 1 + szA bs 1 + m + 4 ≤ bs.length) :
    (sealF (bs.getD 0 0) ((bs.drop (1 + szA bs 1)).take m) = bs.take (1 + szA bs 1 + m + 4)) ↔ (bs.drop (1 + szA bs 1 + m)).take 4 = four (crcZ (bs.take (1 + szA bs 1 + m))) := by
  unfold sealF
  rw [seal_take hb h0 h1 h2 (by omega), List.take_add (i := 1 + szA bs 1 + m) (j := 4)]
  constructor
  · intro e
    exact (List.append_cancel_left e).symm
  · intro e
    rw [e]

set_option maxHeartbeats 2000000 in
set_option maxRecDepth 100000 in
theorem rOpen (A : Option Addr) (n c : Nat) (bs : List Nat) (w : World) (h : Byts w A n bs) (hc : n ≤ c) (hn : n ≤ 1000000) :
    Calls Try.prog 32 #[.slice A n c] w fun e w' => ∃ B d, e = .returned (.tuple #[.int .i64 (opR bs).1, .slice B (opR bs).2.1.length d, .int .i64 (opR bs).2.2.1, .int .i64 (opR bs).2.2.2]) ∧ OwnedY w' w.heap.size (.slice B (opR bs).2.1.length d) (opR bs).2.1 ∧ Below w.heap.size w w' := by
  have L := Lib.hid h.1
  obtain ⟨V, hV⟩ : ∃ V, V = opR bs := ⟨_, rfl⟩
  rw [← hV]
  have HX := Lib.hid hV
  clear hV
  by_cases h0 : n = 0
  · have HV := Lib.hid (HX.out.trans (opR_nil (bs := bs) (by rw [L.out]; exact h0)))
    subst h0
    go_enter Try.func32, Try.ntmps32
    go_wp2
    (try simp only [Exit.inBlock, Exit.then]); refine bodyPost_ret (results_four rfl _ _ _) rfl ?_
    rw [HV.out]
    exact ⟨none, 0, rfl, OwnedY.nil _ _, Below.refl _ _⟩
  · have hne := Lib.hid (show ¬ bs.length = 0 by rw [L.out]; exact h0)
    have hz : ((n : Int) == 0) = false := by simp; omega
    have hsl : ∀ W, (Instr.slice 22 (.slice A n c) (some (.int .i64 1)) none none).run Try.prog W = .ok (.slice (if c = 1 then A else A.map (·.add 1)) (n - 1) (c - 1)) W := fun W => run_taily A n c 1 (by omega) W
    have hy := h.tail (p := 1) (by omega) hc
    have HN := Lib.hid (rtakeInt _ _ (c - 1) _ w hy (by omega))
    rw [nmA_drop] at HN
    generalize (if c = 1 then A else A.map (·.add 1)) = R1 at hsl HN
    clear hy
    by_cases he : erA bs 1 = 0
    · rw [nmA_ok he] at HN
      by_cases hneg : nuA bs 1 < 0
      · have HV := Lib.hid (HX.out.trans (opR_neg hne.out he hneg))
        have dv : decide (nuA bs 1 < 0) = true := decide_eq_true hneg
        generalize nuA bs 1 = v at dv HN
        generalize szA bs 1 = s at HN
        clear he hneg
        go_enter Try.func32, Try.ntmps32
        go_wp2_with fail
        refine HN.out.mono ?_
        rintro e w1 ⟨rfl, rfl⟩
        go_wp2
        (try simp only [Exit.inBlock, Exit.then]); refine bodyPost_ret (results_four rfl _ _ _) rfl ?_
        rw [HV.out]
        exact ⟨none, 0, rfl, OwnedY.nil _ _, Below.refl _ _⟩
      · obtain ⟨m, hm⟩ : ∃ m : Nat, nuA bs 1 = m := ⟨(nuA bs 1).toNat, by omega⟩
        have hsz := szA_bd (bs := bs) (u := 1) (by rw [L.out]; omega) he
        rw [L.out] at hsz
        have hmr : m ≤ 9223372036854775807 := by
          have hv := scn_val (bs.drop 1) 0 (by omega) he
          rw [Nat.sub_zero] at hv
          have hV : val ((bs.drop 1).take (szA bs 1)) < 18446744073709551616 := by unfold szA; omega
          unfold nuA zag at hm
          split at hm <;> omega
        have V1 := opR_cut (m := m) hne.out he hm
        have V2 := opR_cut2 (m := m) hne.out he hm
        have V3 := opR_sum (m := m) hne.out he hm
        have V4 := opR_ok (m := m) hne.out he hm
        have S1 := seal_same (m := m) h.2.2.2 hne.out he hm
        rw [hm] at HN
        have dv : decide ((m : Int) < 0) = false := by simp
        by_cases hcut : n < 1 + szA bs 1 + m + 4
        · have HV : Hid (V = opE 4) := Lib.hid (HX.out.trans (by
            by_cases h3 : bs.length - (1 + szA bs 1) < m
            · exact V1 h3
            · exact V2 h3 (by rw [L.out] at h3 ⊢; omega)))
          clear V1 V2 V3 V4 S1
          generalize szA bs 1 = s at HN hsz hcut
          have dc : decide ((n : Int) - 1 - s - 4 < m) = true := by simp; omega
          clear he hneg hm
          go_enter Try.func32, Try.ntmps32
          go_wp2_with fail
          refine HN.out.mono ?_
          rintro e w1 ⟨rfl, rfl⟩
          go_wp2
          (try simp only [Exit.inBlock, Exit.then]); refine bodyPost_ret (results_four rfl _ _ _) rfl ?_
          rw [HV.out]
          exact ⟨none, 0, rfl, OwnedY.nil _ _, Below.refl _ _⟩
        · have V3 := V3 (by rw [L.out]; omega) (by rw [L.out]; omega)
          have V4 := V4 (by rw [L.out]; omega) (by rw [L.out]; omega)
          have S1 := S1 (by rw [L.out]; omega)
          rw [← HX.out] at V3 V4
          generalize szA bs 1 = s at HN hsz hcut V3 V4 S1
          have dc : decide ((n : Int) - 1 - s - 4 < m) = false := by simp; omega
          obtain ⟨u1, hu1⟩ : ∃ u1, u1 = 1 + s := ⟨_, rfl⟩
          obtain ⟨u2, hu2⟩ : ∃ u2, u2 = u1 + m := ⟨_, rfl⟩
          obtain ⟨u3, hu3⟩ : ∃ u3, u3 = u2 + 4 := ⟨_, rfl⟩
          rw [← hu1, ← hu2, ← hu3] at V4 S1
          rw [← hu1, ← hu2] at V3
          have e1 : 1 + (s : Int) = (u1 : Int) := by omega
          have e2 : (u1 : Int) + (m : Int) = (u2 : Int) := by omega
          have e3 : (u2 : Int) + 4 = (u3 : Int) := by omega
          have l3 : u3 ≤ n := by omega
          have l2 : u2 - u1 = m := by omega
          have l1 : u1 ≤ u2 := by omega
          have hw1 := fun W => run_winy A n c u1 u2 l1 (by omega) W
          rw [l2] at hw1
          have hy2 : Byts w (rst A c u1) m ((bs.drop u1).take m) := (h.tail (by omega) hc).head (by omega)
          have hh := fun W => run_heady A n c u3 l3 hc W
          have hyu := h.head l3
          clear hu1 hu2 hu3
          obtain ⟨b0, o0, rfl, hbl, hcell, hk256⟩ := h.at_ (k := 0) (by omega)
          rw [Nat.add_zero] at hcell
          generalize bs.getD 0 0 = kd at hcell hk256 V4 S1
          generalize (bs.drop u1).take m = ct at hy2 V4 S1
          generalize rst (some ⟨b0, o0, none⟩) c u1 = R2 at hw1 hy2
          have hb0 := alloc_below w (.cells #[] 5)
          obtain ⟨v2, w2, r2, o2, b2⟩ := run_append_bytes _ w.heap.size _ [] ct R2 m (c - u1) (OwnedY.literal w w.heap.size [] #[] 0 (Nat.le_refl _) rfl rfl (by simp)) (hy2.below hb0) hb0.size (by rw [List.nil_append, hy2.1]; omega)
          rw [List.nil_append] at o2
          obtain ⟨A2, c2, rfl⟩ := o2.form
          have b2 := hb0.trans b2
          have hcl := hy2.1
          rw [hcl] at r2 o2
          go_enter Try.func32, Try.ntmps32
          go_wp2_with fail
          refine HN.out.mono ?_
          rintro e w1 ⟨rfl, rfl⟩
          go_wp2_with (at_builtin; refine Lib.wpList_append_run _ rfl _ _ _ _ rfl _ _ rfl rfl _ _ r2 ?_)
          have y2 := o2.byts (by rw [hcl]; omega) (by have := hy2.2.2.2; exact this)
          have HS := Lib.hid (rSeal kd A2 m c2 ct w2.drew y2 (by omega))
          rw [cl_mid (by omega)] at HS
          have hsl5 : (sealF kd ct).length ≤ m + 15 := by rw [sealF_len]; have := sealP_len kd ct; rw [hcl] at this; omega
          have HBS := Lib.hid (sealF_byte hk256 (by rw [hcl]; omega) hy2.2.2.2)
          generalize sealF kd ct = sf at S1 HS hsl5 HBS
          have hcell2 := (b2.cell hbl).trans hcell
          have hbl2 : b0 < w2.heap.size := Nat.lt_of_lt_of_le hbl b2.size
          have HU := Lib.hid (show Byts w2.drew _ u3 (bs.take u3) from hyu.below b2.drew)
          have HO := Lib.hid (show OwnedY w2.drew w.heap.size (.slice A2 m c2) ct from o2)
          have hbd : Below w.heap.size w w2.drew := b2.drew
          have HCL := Lib.hid (show w2.drew.cell? ⟨b0, o0, none⟩ = some (.int .u8 (kd : Int)) from hcell2)
          have S1 := Lib.hid S1
          have V3 := Lib.hid V3
          have V4 := Lib.hid V4
          have hn0 : 0 < n := by omega
          have hwk : IntKind.i64.wrap (kd : Int) = (kd : Int) := by rw [IntKind.wrap_i64]; omega
          clear V1 V2 y2 hyu hy2 hcell hw1 r2 o2 he hm hneg HN
          by_cases hq : sf = bs.take u3
          · have HV := Lib.hid (V4.out (S1.out.1 hq))
            have hd : decide (sf = bs.take u3) = true := decide_eq_true hq
            have HQ := Lib.hid hq
            clear hq V3 V4 S1
            go_region_law (first
                | (go_simp; go_at_call 36; refine HS.out.mono ?_; rintro e w5 ⟨v5, rfl, o5, b5⟩; obtain ⟨A5, c5, rfl⟩ := o5.form; have y5 := o5.byts (by omega) HBS.out; have hyu5 := HU.out.below b5; have b55 := hbd.trans (b5.mono hbd.size); have h55 := (b5.cell hbl2).trans HCL.out; have o55 := HO.out.kept b5)
                | (go_simp; go_at_call 17; refine (rsameBytes _ _ _ _ _ _ _ _ _ y5 hyu5).mono ?_; rintro e w6 ⟨rfl, rfl⟩; rw [hd]))
            all_goals
                go_simp
                go_wp2
                (try simp only [Exit.inBlock, Exit.then]); refine bodyPost_ret (results_four rfl _ _ _) rfl ?_
                rw [HV.out]
                show ∃ B d, _ = Ending.returned (.tuple #[_, .slice B ct.length d, _, _]) ∧ OwnedY _ _ (.slice B ct.length d) ct ∧ _
                rw [hcl]
                exact ⟨A2, c2, rfl, o55, b55⟩
          · have HV := Lib.hid (V3.out (fun e => hq (S1.out.2 e)))
            have hd : decide (sf = bs.take u3) = false := decide_eq_false hq
            clear hq V3 V4 S1
            go_region_law (first
                | (go_simp; go_at_call 36; refine HS.out.mono ?_; rintro e w5 ⟨v5, rfl, o5, b5⟩; obtain ⟨A5, c5, rfl⟩ := o5.form; have y5 := o5.byts (by omega) HBS.out; have hyu5 := HU.out.below b5; have b55 := hbd.trans (b5.mono hbd.size); have h55 := (b5.cell hbl2).trans HCL.out; have o55 := HO.out.kept b5)
                | (go_simp; go_at_call 17; refine (rsameBytes _ _ _ _ _ _ _ _ _ y5 hyu5).mono ?_; rintro e w6 ⟨rfl, rfl⟩; rw [hd]))
            all_goals
                go_simp
                go_wp2
                (try simp only [Exit.inBlock, Exit.then]); refine bodyPost_ret (results_four rfl _ _ _) rfl ?_
                rw [HV.out]
                exact ⟨none, 0, rfl, OwnedY.nil _ _, b55⟩
    · have HV := Lib.hid (HX.out.trans (opR_err hne.out he))
      rw [nmA_bad he] at HN
      generalize erA bs 1 = k at HN he HV
      have dk : (k != 0) = true := by simp; exact he
      have dk2 : (k == 0) = false := by simp; exact he
      go_enter Try.func32, Try.ntmps32
      go_wp2_with fail
      refine HN.out.mono ?_
      rintro e w1 ⟨rfl, rfl⟩
      go_wp2
      (try simp only [Exit.inBlock, Exit.then]); refine bodyPost_ret (results_four rfl _ _ _) rfl ?_
      rw [HV.out]
      exact ⟨none, 0, rfl, OwnedY.nil _ _, Below.refl _ _⟩
end Go.Proofs.Ytihahljpfekmbaa
