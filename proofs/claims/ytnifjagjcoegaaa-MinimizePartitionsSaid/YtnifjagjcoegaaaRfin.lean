/- The reference's refinement: the walk. -/
import Derived.Test.YtnifjagjcoegaaaRfp
import Derived.Test.YtnifjagjcoegaaaSgnm
namespace Go.Proofs.Ytnifjagjcoegaaa
open Go.RowKit

set_option maxHeartbeats 4000000 in
set_option maxRecDepth 100000 in
theorem rfiner (i st n : Nat) (A B C : Option Addr) (c d cc : Nat) (nx ot : List (List Int)) (cl : List Nat) (w : World) (hx : Lists w A n nx) (ho : Lists w B n ot) (hM : Mok i st n nx ot) (hc : Ints w C n (zs cl)) :
    Calls Try.prog 100 #[.agg #[.int .i64 i, .int .i64 st, .slice A n c, .slice B n d], .slice C n cc] w fun e w' => ∃ A' c', e = .returned (.slice A' n c') ∧ Owned w' w.heap.size (.slice A' n c') (zs (num (rkey nx ot cl i) n)) ∧ Below w.heap.size w w' := by
  have hn := hx.2.1
  have hn2 := hM.n2
  have hn1 := hM.n1
  have hi64 := hM.i2
  have hlo := Lib.hid ho
  obtain ⟨g0, hg⟩ : ∃ g, g = w.heap.size := ⟨_, rfl⟩
  obtain ⟨w1, hw1⟩ : ∃ w1, w1 = w.alloc (.cells #[.int .i64 i, .int .i64 st, .slice A n c, .slice B n d] 58) := ⟨_, rfl⟩
  have hb1 : Below w.heap.size w w1 := by rw [hw1]; exact alloc_below _ _
  have hz1 : w1.heap.size = g0 + 1 := by rw [hw1, hg]; simp
  have hB1 : Mblk w1 g0 (.int .i64 i) (.int .i64 st) (.slice A n c) (.slice B n d) := by rw [hw1, hg]; exact heap_alloc_new _ _
  have HW := Lib.hid hw1
  have HG := Lib.hid hg
  have HB1 := Lib.hid hB1
  have HZ1 := Lib.hid hz1
  obtain ⟨g, hgd⟩ : ∃ g : Nat → List Int, g = rkey nx ot cl i := ⟨_, rfl⟩
  have HKY := Lib.hid (show ∀ s t, g s = g t ↔ smB nx ot cl s t i = true from fun s t => by rw [hgd]; exact rkey_iff hi64)
  rw [← hgd]
  clear hw1 hz1 hg hB1 hgd
  go_enter Try.func100, Try.ntmps100
  go_wp2
  rw [← HW.out]
  try rw [← HG.out]
  go_loopw [5, 6, 7] (fun v5 v6 v7 wr => ∃ (s : Nat) (A' : Option Addr) (c' : Nat), s ≤ n ∧ v7 = .int .i64 s ∧ v6 = .int .i64 ((grp g s).length : Nat) ∧ v5 = .slice A' s c' ∧ Owned wr (g0 + 1) (.slice A' s c') (zs (num g s)) ∧ Below (g0 + 1) w1 wr) (fun _ _ v7 _ => n - (intOf v7).toNat)
  case atStart => exact ⟨0, none, 0, Nat.zero_le _, rfl, rfl, rfl, Owned.nil _ _, Below.refl _ _⟩
  case round =>
    obtain ⟨s, A', c', hs, rfl, rfl, rfl, hO, hbr⟩ := hrel
    have hbW : Below w.heap.size w wr := hb1.trans (hbr.mono (by rw [← HG.out]; omega))
    have hzr := hbr.size
    rw [HZ1.out] at hzr
    have hbox := HB1.out.kept hbr (show g0 < g0 + 1 by omega)
    have HBX := Lib.hid hbox
    have HO := Lib.hid hO
    have HBR := Lib.hid hbr
    have hcnt := grp_len g s
    clear hO hbr hbox
    by_cases hlt : s < n
    · go_wp2
      obtain ⟨wo, hwo⟩ : ∃ wo : World, wo = wr := ⟨_, rfl⟩
      rw [← hwo] at HO HBR HBX hbW hzr ⊢
      clear hwo
      go_loopw [8, 9] (fun v8 v9 wq => ∃ (t : Nat) (v : Int), t ≤ s ∧ v9 = .int .i64 ((t : Int) - 1) ∧ v8 = .int .i64 v ∧ Fnd g s t v ∧ ∃ q, wq = wo.drewN q) (fun _ v9 _ => ((intOf v9) + 1).toNat)
      case atStart => exact ⟨s, -1, Nat.le_refl _, rfl, rfl, Fnd.start s, 0, rfl⟩
      case round =>
        obtain ⟨t, v, ht, rfl, rfl, hF, q, rfl⟩ := hrel
        have HFD := Lib.hid hF
        clear hF
        by_cases h0 : 0 < t
        · obtain ⟨t, rfl⟩ : ∃ t1, t = t1 + 1 := ⟨t - 1, by omega⟩
          rw [show ((t + 1 : Nat) : Int) - 1 = (t : Int) by omega]
          have hts : t < s := by omega
          have htn : t < n := by omega
          clear h0 ht
          obtain ⟨bs, os_, rfl, hbs, hcs⟩ := hc.at_ hlt
          obtain ⟨bt_, ot_, e, hbt, hct⟩ := hc.at_ htn
          cases e
          rw [zs_at] at hcs hct
          have hcs := (hbW.cell (p := ⟨bs, os_ + s, none⟩) hbs).trans hcs
          have hct := (hbW.cell (p := ⟨bs, os_ + t, none⟩) hbs).trans hct
          obtain ⟨b0, hb0⟩ : ∃ b0, b0 = smB nx ot cl s t 0 := ⟨_, rfl⟩
          have hxy : (((cl.getD s 0 : Nat) : Int) == ((cl.getD t 0 : Nat) : Int)) = b0 := by
            rw [hb0]; unfold smB
            by_cases e : cl.getD s 0 = cl.getD t 0
            · rw [e]; simp
            · rw [decide_eq_false e, beq_eq_false_iff_ne]; omega
          have HB0 := Lib.hid hb0
          generalize ((cl.getD s 0 : Nat) : Int) = x at hcs hxy
          generalize ((cl.getD t 0 : Nat) : Int) = y at hct hxy
          have i1 : (0 : Int) ≤ (s : Int) := by omega
          have i2 : (s : Int) < (n : Int) := by omega
          have i3 : (0 : Int) ≤ (t : Int) := by omega
          have i4 : (t : Int) < (n : Int) := by omega
          clear hb0 hbt
          go_wp2
          go_quiet (fail)
          go_wp2
          clear hxy hcs hct
          go_loopw [10, 11] (fun v10 v11 wq => ∃ (a : Nat) (b : Bool), a ≤ i ∧ v11 = .int .i64 a ∧ v10 = .bool b ∧ b = smB nx ot cl s t a ∧ ∃ q, wq = wo.drewN q) (fun _ v11 _ => i - (intOf v11).toNat)
          case atStart => exact ⟨0, _, Nat.zero_le _, rfl, rfl, HB0.out, by first | exact ⟨_, rfl⟩ | exact ⟨_, World.drewN_drewN _ _ _⟩⟩
          case round =>
            obtain ⟨a, b, ha, rfl, rfl, hb, q2, rfl⟩ := hrel
            have HB := Lib.hid hb
            clear hb
            obtain ⟨k0, k1, k2, k3, _⟩ := HBX.out.cells
            cases b
            · have HM := Lib.hid (HFD.out.miss (fun e => by have h1 := (HKY.out s t).1 e.symm; rw [smB_false HB.out.symm ha] at h1; cases h1))
              have hia : (a : Int) ≤ (i : Int) := by omega
              clear HFD
              by_cases hla : a < i
              all_goals
                go_wp2
                go_roundw
                case rel => exact ⟨t, v, by omega, rfl, rfl, HM.out, _, rfl⟩
                case measure => simp [intOf]
            · by_cases hla : a < i
              · obtain ⟨g2, o2, eA2, n2, c2, rfl, hg2, hd2, hr2⟩ := hlo.out.at_ hlt
                obtain ⟨g2', o2', eA3, n3, c3, e, _, hd3, hr3⟩ := hlo.out.at_ htn
                cases e
                obtain ⟨g1, o1, eA4, n4, c4, rfl, hg1, hd4, hr4⟩ := hx.at_ hlt
                obtain ⟨g1', o1', eA5, n5, c5, e, _, hd5, hr5⟩ := hx.at_ htn
                cases e
                have l2 := hr2.1
                have l3 := hr3.1
                have l4 := hr4.1
                have l5 := hr5.1
                have m2 := (hM.row s hlt).2.1
                have m3 := (hM.row t htn).2.1
                have m4 := (hM.row s hlt).1
                have m5 := (hM.row t htn).1
                obtain rfl : n2 = i := by omega
                obtain rfl : n3 = n2 := by omega
                obtain rfl : n4 = n3 := by omega
                obtain rfl : n5 = n4 := by omega
                clear l2 l3 l4 l5 m2 m3 m4 m5
                obtain ⟨b2, p2, rfl, hb2, hv2⟩ := hr2.at_ hla
                obtain ⟨b3, p3, rfl, hb3, hv3⟩ := hr3.at_ hla
                obtain ⟨b4, p4, rfl, hb4, hv4⟩ := hr4.at_ hla
                obtain ⟨b5, p5, rfl, hb5, hv5⟩ := hr5.at_ hla
                rw [hM.nN_eq hlt hla] at hv4
                rw [hM.nN_eq htn hla] at hv5
                have q1 := hM.nN_lt hlt hla
                have q3 := hM.nN_lt htn hla
                obtain ⟨bq, oq, e, hbq, hv6⟩ := hc.at_ q1
                cases e
                obtain ⟨bq, oq, e, _, hv7⟩ := hc.at_ q3
                cases e
                rw [zs_at] at hv6 hv7
                have tr : ∀ (gg oo : Nat) (u : Value), gg < w.heap.size → w.cell? ⟨gg, oo, none⟩ = some u → wo.cell? ⟨gg, oo, none⟩ = some u := fun gg oo u h h2 => (hbW.cell (p := ⟨gg, oo, none⟩) h).trans h2
                have hd2 := tr _ _ _ hg2 hd2
                have hd3 := tr _ _ _ hg2 hd3
                have hd4 := tr _ _ _ hg1 hd4
                have hd5 := tr _ _ _ hg1 hd5
                have hv2 := tr _ _ _ hb2 hv2
                have hv3 := tr _ _ _ hb3 hv3
                have hv4 := tr _ _ _ hb4 hv4
                have hv5 := tr _ _ _ hb5 hv5
                have hv6 := tr _ _ _ hbq hv6
                have hv7 := tr _ _ _ hbq hv7
                have r2 : (ot.getD s []).getD a 0 = oN ot s a := rfl
                have r3 : (ot.getD t []).getD a 0 = oN ot t a := rfl
                rw [r2] at hv2
                rw [r3] at hv3
                have j1 : (0 : Int) ≤ (a : Int) := by omega
                have j2 : (a : Int) < (n5 : Int) := by omega
                have j3 : (0 : Int) ≤ ((nN nx s a : Nat) : Int) := by omega
                have j4 : ((nN nx s a : Nat) : Int) < (n : Int) := by omega
                have j5 : (0 : Int) ≤ ((nN nx t a : Nat) : Int) := by omega
                have j6 : ((nN nx t a : Nat) : Int) < (n : Int) := by omega
                clear tr r2 r3 hb2 hb3 hb4 hb5 hg1 hg2
                by_cases ho1 : oN ot s a = oN ot t a
                · obtain ⟨b9, hb9⟩ : ∃ b9, b9 = smB nx ot cl s t (a + 1) := ⟨_, rfl⟩
                  have hxy : (((cl.getD (nN nx s a) 0 : Nat) : Int) == ((cl.getD (nN nx t a) 0 : Nat) : Int)) = b9 := by
                    rw [hb9]; unfold smB
                    rw [← HB.out, decide_eq_true ho1]
                    by_cases e : cl.getD (nN nx s a) 0 = cl.getD (nN nx t a) 0
                    · rw [e]; simp
                    · rw [decide_eq_false e, Bool.true_and, Bool.true_and, beq_eq_false_iff_ne]; omega
                  have HB9 := Lib.hid hb9
                  have hq : (oN ot s a == oN ot t a) = true := by simp [ho1]
                  clear hb9 ho1
                  generalize ((cl.getD (nN nx s a) 0 : Nat) : Int) = x at hv6 hxy
                  generalize ((cl.getD (nN nx t a) 0 : Nat) : Int) = y at hv7 hxy
                  generalize nN nx s a = u1 at hv4 hv6 q1 j3 j4
                  generalize nN nx t a = u2 at hv5 hv7 q3 j5 j6
                  generalize oN ot s a = z1 at hv2 hq
                  generalize oN ot t a = z2 at hv3 hq
                  go_wp2
                  go_quiet (fail)
                  go_wp2
                  go_roundw
                  case rel => exact ⟨a + 1, b9, by omega, by go_num, rfl, HB9.out, by first | exact ⟨_, rfl⟩ | exact ⟨_, World.drewN_drewN _ _ _⟩⟩
                  case measure => simp [intOf]; omega
                · have HB9 := Lib.hid (smB_no1 (nx := nx) (cl := cl) ho1)
                  have hq : (oN ot s a == oN ot t a) = false := by simp [ho1]
                  clear ho1
                  generalize nN nx s a = u1 at hv4 hv6 q1 j3 j4
                  generalize nN nx t a = u2 at hv5 hv7 q3 j5 j6
                  generalize oN ot s a = z1 at hv2 hq
                  generalize oN ot t a = z2 at hv3 hq
                  go_wp2
                  go_quiet (fail)
                  go_wp2
                  go_roundw
                  case rel => exact ⟨a + 1, false, by omega, by go_num, rfl, HB9.out.symm, by first | exact ⟨_, rfl⟩ | exact ⟨_, World.drewN_drewN _ _ _⟩⟩
                  case measure => simp [intOf]; omega
              · obtain rfl : a = i := by omega
                have hkk := (HKY.out s t).2 HB.out.symm
                have HM := Lib.hid (Fnd.hit hts hkk.symm)
                have hio := Owned.ints HO.out (by rw [zs_len, num_len]; omega)
                obtain ⟨b9, o9, rfl, hb9, hc9⟩ := hio.at_ hts
                rw [zs_at, num_at g hts] at hc9
                clear hkk hio
                generalize ((nmb g t : Nat) : Int) = y at hc9 HM
                go_wp2
                go_roundw
                case rel => exact ⟨t, y, by omega, rfl, rfl, HM.out, _, rfl⟩
                case measure => simp [intOf]
        · obtain rfl : t = 0 := by omega
          rw [show ((0 : Nat) : Int) - 1 = -1 from rfl]
          have hzo : g0 + 1 ≤ (wo.drewN q).heap.size := hzr
          obtain ⟨A2, c2, w2, hrn, hO2, hb2, _⟩ := run_append_one (HO.out.drew q) (nmb g s : Nat) hzo (by rw [zs_len, num_len]; omega)
          rw [zs_len, num_len] at hrn hO2
          have hO3 := Lib.hid (show Owned w2 (g0 + 1) (.slice A2 (s + 1) c2) (zs (num g (s + 1))) by rw [num_succ, zs_append]; exact hO2)
          have hb3 := Lib.hid (show Below (g0 + 1) w1 w2 from (below_drewN HBR.out q).trans hb2)
          clear hO2 hb2
          by_cases hin : g s ∈ grp g s
          · obtain rfl := HFD.out.yes hin
            have HG1 := Lib.hid (show (grp g (s + 1)).length = (grp g s).length by rw [show grp g (s + 1) = grp g s from addK_in hin])
            have v0 : (0 : Int) ≤ (nmb g s : Nat) := by omega
            have v1 : ((nmb g s : Nat) : Int) ≤ n := by have := nmb_le g s; omega
            clear hin HFD
            generalize ((nmb g s : Nat) : Int) = y at hrn v0 v1 ⊢
            generalize (grp g s).length = cnt0 at hcnt HG1 ⊢
            go_wp2_with (at_builtin; refine Lib.wpList_append_run _ rfl _ _ _ _ rfl _ _ rfl rfl _ _ hrn ?_)
            go_roundw
            case rel => exact ⟨s + 1, A2, c2, by omega, by go_num, by rw [HG1.out], rfl, hO3.out, hb3.out⟩
            case measure => simp [intOf]; omega
          · obtain rfl := HFD.out.no hin
            have hg1 := Lib.hid (show (grp g (s + 1)).length = (grp g s).length + 1 by rw [show grp g (s + 1) = grp g s ++ [g s] from addK_out hin, List.length_append]; rfl)
            rw [nmb_new g hin] at hrn
            clear hin HFD
            generalize (grp g s).length = cnt0 at hcnt hg1 hrn ⊢
            go_wp2_with (at_builtin; refine Lib.wpList_append_run _ rfl _ _ _ _ rfl _ _ rfl rfl _ _ hrn ?_)
            go_roundw
            case rel => exact ⟨s + 1, A2, c2, by omega, by go_num, by rw [hg1.out]; go_num, rfl, hO3.out, hb3.out⟩
            case measure => simp [intOf]; omega
    · obtain rfl : s = n := by omega
      have HO2 := Lib.hid (HO.out.lower (base' := w.heap.size) (by rw [← HG.out]; omega))
      go_wp2
      go_ret
      exact ⟨_, _, rfl, HO2.out, hbW⟩
end Go.Proofs.Ytnifjagjcoegaaa
