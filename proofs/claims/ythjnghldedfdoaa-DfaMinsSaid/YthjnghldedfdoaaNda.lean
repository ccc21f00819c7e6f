/- Lemmas of the proofs of this seat, of the parts Rtm7, Rfm7, Rfb7, Dunm. Conditions: none. -/
import Derived.Test.YthjnghldedfdoaaNca
import Derived.Test.YthjnghldedfdoaaNag
import Derived.Test.YthjnghldedfdoaaNaf
import Derived.Deep.CutRange
import Derived.Test.YthjnghldedfdoaaNbt
section
/- The reference's ToMealy. -/
namespace Go.Proofs.Ythjnghldedfdoaa
open Go.RowKit

theorem rowm_same {f : Nat → Int} {i x : Nat} (h : f x = 0) : rowm f i (x + 1) = rowm f i x := by
  unfold rowm
  apply List.map_congr_left
  intro a _
  by_cases e : a = x
  · subst e; rw [if_pos (Nat.lt_succ_self _), if_neg (Nat.lt_irrefl _), h]
  · by_cases l : a < x
    · rw [if_pos (by omega), if_pos l]
    · rw [if_neg (by omega), if_neg l]
theorem rowm_get {f : Nat → Int} {i x a : Nat} (h : a < i) : (rowm f i x).getD a 0 = if a < x then f a else 0 := by
  unfold rowm
  rw [List.getD_eq_getElem?_getD, List.getElem?_map, List.getElem?_range h]; rfl
theorem tomO_take (nx : List (List Int)) (ac : List Bool) (i n : Nat) {s : Nat} (hs : s < n) : (tomO nx ac i n).take s ++ [rowm (tomR nx ac s) i i] = (tomO nx ac i n).take (s + 1) := by
  have h1 : s < (tomO nx ac i n).length := by simp [tomO]; exact hs
  rw [List.take_succ_eq_append_getElem h1, rowm_all]
  simp [tomO]
set_option maxHeartbeats 4000000 in
set_option maxRecDepth 100000 in
theorem rtom7_bad (i st : Int) (A B : Option Addr) (n c m d : Nat) (nx : List (List Int)) (ac : List Bool) (w : World) (hx : Lists w A n nx) (ha : Bools w B m ac) (hv : ¬ tomE i st nx ac = 0) :
    Calls Try.prog 32 #[.agg #[.int .i64 i, .int .i64 st, .slice A n c, .slice B m d]] w fun e w' => e = .returned (.tuple #[.agg #[.int .i64 0, .int .i64 0, .slice none 0 0, .slice none 0 0], .int .i64 (tomE i st nx ac)]) ∧ Below w.heap.size w w' := by
  obtain ⟨w0, hw0, hb0, hB, hR, hz0⟩ := tom_boxes w i st A B n c m d
  obtain ⟨k0, k1, k2, k3, _⟩ := hB.cells
  have HW0 := Lib.hid hw0
  have HX := Lib.hid (hx.below hb0)
  have HLA := Lib.hid ha.1
  have hm := ha.2.1
  have HB0 := Lib.hid hb0
  have HB := Lib.hid hB
  have HR := Lib.hid hR
  have HZ := Lib.hid hz0
  obtain ⟨x, hxe⟩ : ∃ x, vldD i st nx ac = x := ⟨_, rfl⟩
  have HXE := Lib.hid hxe
  clear hw0 hB hb0 hR hz0
  rw [HW0.out] at k0 k1 k2 k3
  by_cases hx0 : x = 0
  · have h64 : ¬ i ≤ 64 := fun h => hv (by unfold tomE; rw [if_pos (hxe.trans hx0), if_pos h])
    have HE := Lib.hid (show tomE i st nx ac = 2 by unfold tomE; rw [if_pos (hxe.trans hx0), if_neg h64])
    have d1 : decide ((64 : Int) < i) = true := decide_eq_true (by omega)
    subst hx0
    clear hv hxe h64
    go_enter Try.func32, Try.ntmps32
    go_wp2_with fail
    rw [← HW0.out]
    refine (rval7 _ _ _ _ _ _ _ _ _ _ _ HX.out HLA.out hm).mono ?_
    rintro e w1 ⟨rfl, b1⟩
    rw [HXE.out]
    have HB1 := Lib.hid b1
    clear k0 k1 k2 k3
    obtain ⟨k0, k1, k2, k3, _⟩ := (HB.out.on9 b1).cells
    have hzz := HZ.out
    have HRr := Lib.hid (HR.out.kept b1 (show w.heap.size + 1 < w0.heap.size by omega))
    obtain ⟨q0, q1, q2, q3, z0, z1, z2, z3⟩ := HRr.out.cells
    clear b1 hzz
    go_wp2_with fail
    refine bodyPost_ret (results_mly rfl _ _ (w.heap.size + 1) (.int .i64 0) (.int .i64 0) (.slice none 0 0) (.slice none 0 0) rfl (HRr.out.set4 _ _ _ _)) rfl ?_
    exact ⟨by rw [HE.out]; rfl, below_set4 (Nat.le_succ _) (bt HB0.out HB1.out) _ _ _ _⟩
  · have HE := Lib.hid (show tomE i st nx ac = x by unfold tomE; rw [if_neg (by rw [hxe]; exact hx0)]; exact hxe)
    have t1 : (x != 0) = true := by simpa using hx0
    clear hv hxe
    go_enter Try.func32, Try.ntmps32
    go_wp2_with fail
    rw [← HW0.out]
    refine (rval7 _ _ _ _ _ _ _ _ _ _ _ HX.out HLA.out hm).mono ?_
    rintro e w1 ⟨rfl, b1⟩
    rw [HXE.out]
    have HB1 := Lib.hid b1
    clear k0 k1 k2 k3
    obtain ⟨k0, k1, k2, k3, _⟩ := (HB.out.on9 b1).cells
    clear b1
    go_wp2_with fail
    refine (rval7 _ _ _ _ _ _ _ _ _ _ _ (HX.out.below HB1.out) HLA.out hm).mono ?_
    rintro e w2 ⟨rfl, b2⟩
    rw [HXE.out]
    have hzz := HZ.out
    have HRr := Lib.hid (HR.out.kept (bt HB1.out b2) (show w.heap.size + 1 < w0.heap.size by omega))
    obtain ⟨q0, q1, q2, q3, z0, z1, z2, z3⟩ := HRr.out.cells
    clear hzz k0 k1 k2 k3
    go_wp2_with fail
    refine bodyPost_ret (results_mly rfl _ _ (w.heap.size + 1) (.int .i64 0) (.int .i64 0) (.slice none 0 0) (.slice none 0 0) rfl (HRr.out.set4 _ _ _ _)) rfl ?_
    exact ⟨by rw [HE.out]; rfl, below_set4 (Nat.le_succ _) (bt HB0.out (bt HB1.out b2)) _ _ _ _⟩
set_option maxHeartbeats 8000000 in
set_option maxRecDepth 100000 in
theorem rtom7 (i st n : Nat) (A B : Option Addr) (c d : Nat) (nx : List (List Int)) (ac : List Bool) (w : World) (hx : Lists w A n nx) (ha : Bools w B n ac) (hM : Dok i st n nx ac) (h64 : i ≤ 64) :
    Calls Try.prog 32 #[.agg #[.int .i64 i, .int .i64 st, .slice A n c, .slice B n d]] w fun e w' => ∃ A' c' B' d',
      e = .returned (.tuple #[.agg #[.int .i64 i, .int .i64 st, .slice A' n c', .slice B' n d'], .int .i64 0]) ∧ OwnedL w' w.heap.size (.slice A' n c') nx ∧ OwnedL w' w.heap.size (.slice B' n d') (tomO nx ac i n) ∧ Below w.heap.size w w' := by
  obtain ⟨w0, hw0, hb0, hB, hR, hz0⟩ := tom_boxes w i st A B n c n d
  obtain ⟨k0, k1, k2, k3, _⟩ := hB.cells
  have hn := hM.n2
  have h0 := hM.n1
  have hi := hM.i1
  have HV := Lib.hid hM.vld
  have HW0 := Lib.hid hw0
  have HX := Lib.hid (hx.below hb0)
  have HA := Lib.hid (ha.below hb0)
  have HB0 := Lib.hid hb0
  have HB := Lib.hid hB
  have HR := Lib.hid hR
  have HZ := Lib.hid hz0
  have HM := Lib.hid hM
  have d1 : decide ((64 : Int) < (i : Int)) = false := decide_eq_false (by omega)
  clear hw0 hB hb0 hR hM hz0
  rw [HW0.out] at k0 k1 k2 k3
  go_enter Try.func32, Try.ntmps32
  go_wp2_with fail
  rw [← HW0.out]
  refine (rval7 _ _ _ _ _ _ _ _ _ _ _ HX.out HA.out.1 HA.out.2.1).mono ?_
  rintro e w1 ⟨rfl, b1⟩
  rw [HV.out]
  clear k0 k1 k2 k3
  obtain ⟨k0, k1, k2, k3, _⟩ := (HB.out.on9 b1).cells
  have HB1 := Lib.hid b1
  have HCL := Lib.hid (fun (W : World) (h : Below w1.heap.size w1 W) => And.intro (HX.out.below (bt b1 h)) (And.intro (HA.out.below (bt b1 h)) ((HB.out.on9 b1).on9 h).cells))
  have hz1 := b1.size
  clear b1
  have hfd : ∀ (x1 x2 x3 x4 : Value) (W : World), (Instr.field 25 (.agg #[x1, x2, x3, x4]) 2).run Try.prog W = .ok x3 W := fun _ _ _ _ _ => by kernel_rfl
  go_upto_region 5 with fail
  go_cut [4] from 18 to 25 (fun v4 wx => ∃ (g : Nat) (A2 : Option Addr) (c2 : Nat), v4 = .pointer (some ⟨g, 0, none⟩) ∧ w1.heap.size ≤ g ∧ Yblk wx g (.int .i64 i) (.int .i64 st) (.slice A2 n c2) (.slice none 0 0) ∧ OwnedL wx w1.heap.size (.slice A2 n c2) nx ∧ Below w1.heap.size w1 wx)
  case first =>
    go_region_held3 (fun w' => w'.cell? ⟨w.heap.size, 0, none⟩ = some (.int .i64 i) ∧ w'.cell? ⟨w.heap.size, 1, none⟩ = some (.int .i64 st) ∧ w'.cell? ⟨w.heap.size, 2, none⟩ = some (.slice A n c) ∧ w'.cell? ⟨w.heap.size, 3, none⟩ = some (.slice B n d))
      (first
        | (refine ⟨(HCL.out _ ?_).2.2.1, (HCL.out _ ?_).2.2.2.1, (HCL.out _ ?_).2.2.2.2.1, (HCL.out _ ?_).2.2.2.2.2.1⟩ <;> (first | exact below_drewN (Below.refl _ _) 1 | exact below_drewN (alloc_below _ _) 1 | exact hb2 | exact hb2.alloc hb2.size _ | exact below_set4 (Nat.le_refl _) hb2 _ _ _ _))
        | go_keep)
      ((go_at_call 44; refine (rcopied7 i st n A B c d nx ac _ (HCL.out _ (by first | exact below_drewN (Below.refl _ _) 1 | exact below_drewN (alloc_below _ _) 1)).1 (HCL.out _ (by first | exact below_drewN (Below.refl _ _) 1 | exact below_drewN (alloc_below _ _) 1)).2.1 h0 hn (fun s hs => by rw [(HM.out.row s hs).1]; exact HM.out.i2)).mono ?_; rintro e w2 ⟨A2, c2, B2, d2, rfl, o2, _, b2⟩; have hb2 : Below w1.heap.size w1 w2 := (by first | exact bt (below_drewN (Below.refl _ _) 1) b2 | exact bt (below_drewN (alloc_below _ _) 1) b2); (try (have hq := ((show Yblk ((w1.alloc (.cells #[.int .i64 0, .int .i64 0, .slice none 0 0, .slice none 0 0] 58)).drew) w1.heap.size (.int .i64 0) (.int .i64 0) (.slice none 0 0) (.slice none 0 0) from heap_alloc_new w1 _).kept b2 (by simp)); obtain ⟨q0, q1, q2, q3, g0, g1, g2, g3⟩ := hq.cells))))
    all_goals
      have HO2 := Lib.hid (o2.lower (base' := w1.heap.size) (by simp))
      go_wp2_with fail
      go_meet
      first
        | ((with_reducible refine ⟨w2.heap.size, A2, c2, rfl, hb2.size, ?_, ?_, ?_⟩); exact yblk_new w2 _ _ _ _; exact HO2.out.kept (alloc_below w2 _); exact hb2.alloc hb2.size _)
        | ((with_reducible refine ⟨w1.heap.size, A2, c2, rfl, Nat.le_refl _, ?_, ?_, ?_⟩); exact hq.set4 _ _ _ _; exact HO2.out.keptT (hq.off4 _ _ _ _ (by decide)) (hq.off4 _ _ _ _ (by decide)); exact below_set4 (Nat.le_refl _) hb2 _ _ _ _)
  case rest =>
    obtain ⟨g, A2, c2, rfl, hg, hY, hO2, hb⟩ := hcut
    clear k0 k1 k2 k3 hfd
    have HP := Lib.hid (And.intro hY (And.intro hO2 hb))
    clear hY hO2 hb
    go_wp2_with fail
    go_loopw [5, 6, 7] (fun v5 _ _ wr => ∃ (s : Nat) (A3 : Option Addr) (c3 : Nat), v5 = .int .i64 s ∧ s ≤ n ∧ Yblk wr g (.int .i64 i) (.int .i64 st) (.slice A2 n c2) (.slice A3 s c3) ∧ OwnedL wr w1.heap.size (.slice A2 n c2) nx ∧ OwnedL wr w1.heap.size (.slice A3 s c3) ((tomO nx ac i n).take s) ∧ Apart (.slice A3 s c3) (.slice A2 n c2) ∧ Below w1.heap.size w1 wr) (fun v5 _ _ _ => n - (intOf v5).toNat)
    case atStart => exact ⟨0, none, 0, rfl, Nat.zero_le _, HP.out.1, HP.out.2.1, OwnedL.nil _ _, Apart.nil _, HP.out.2.2⟩
    case round =>
      obtain ⟨s, A3, c3, rfl, hs, hY, hO2, hO3, hap, hbr⟩ := hrel
      have hol : ((tomO nx ac i n).take s).length = s := by rw [List.length_take]; simp [tomO]; omega
      obtain ⟨hLx, hLa, k0, k1, k2, k3, _⟩ := HCL.out _ hbr
      have HH := Lib.hid (And.intro hY (And.intro hO2 (And.intro hO3 (And.intro hap hbr))))
      by_cases hlt : s < n
      · clear hY hO2 hO3 hap hbr hLx hLa
        have hzr := HH.out.2.2.2.2.size
        go_wp2_with (refine wpList_make_ints _ rfl _ _ rfl .i64 .i64 i rfl rfl (by omega) ?_; intro w3 ho3 b3)
        obtain ⟨wo, hwo⟩ : ∃ wo : World, wo = wr := ⟨_, rfl⟩
        rw [← hwo] at HH ho3 b3 hzr ⊢
        obtain ⟨gr, hgr⟩ : ∃ gr, gr = wo.heap.size := ⟨_, rfl⟩
        have HO3 := Lib.hid ho3
        rw [← hgr] at HO3
        rw [← hgr]
        have HB3 := Lib.hid b3
        have HGR := Lib.hid hgr
        clear hwo k0 k1 k2 k3 ho3 b3 hgr
        go_wp2_with fail
        go_loopw [7] (fun v7 wz => ∃ (a : Nat), v7 = .int .i64 a ∧ a ≤ i ∧ Owned wz wo.heap.size (.slice (some ⟨gr, 0, none⟩) i i) (rowm (tomR nx ac s) i a) ∧ Below wo.heap.size wo wz) (fun v7 _ => i - (intOf v7).toNat)
        case atStart => exact ⟨0, rfl, Nat.zero_le _, by rw [rowm_zero, HGR.out]; rw [HGR.out] at HO3; exact HO3.out, HB3.out⟩
        case round =>
          obtain ⟨a, rfl, hai, hOr, hbz⟩ := hrel
          have hb1z := HH.out.2.2.2.2.trans (hbz.mono hzr)
          obtain ⟨hLx, hLa, k0, k1, k2, k3, _⟩ := HCL.out _ hb1z
          by_cases hla : a < i
          · obtain ⟨gA, oA, A1, nA, cA, eA, _, hdA, hrA⟩ := hLx.at_ hlt
            subst eA
            have hnA : nA = i := by rw [← hrA.1]; exact (HM.out.row s hlt).1
            subst hnA
            obtain ⟨gR, oR, eR, _, xR⟩ := hrA.at_ hla
            subst eR
            rw [HM.out.nN_eq hlt hla] at xR
            have hul := HM.out.nN_lt hlt hla
            obtain ⟨gB, oB, eB, _, xB⟩ := hLa.at_ hul
            subst eB
            replace xB : wr.cell? ⟨gB, oB + nN nx s a, none⟩ = some (.bool (aN ac (nN nx s a))) := xB
            have htr : tomR nx ac s a = if aN ac (nN nx s a) then 1 else 0 := rfl
            have HST := Lib.hid (fun (h : tomR nx ac s a = 1) => And.intro (show Owned (wr.setCell ⟨gr, a, none⟩ (.int .i64 1)) wo.heap.size (.slice (some ⟨gr, 0, none⟩) nA nA) (rowm (tomR nx ac s) nA (a + 1)) by
              have h2 := hOr.stored a 1
              rw [show (rowm (tomR nx ac s) nA a).set a 1 = rowm (tomR nx ac s) nA (a + 1) by rw [← h, rowm_set]] at h2
              exact h2) (hbz.setCell (p := ⟨gr, a, none⟩) (by show wo.heap.size ≤ gr; rw [HGR.out]; exact Nat.le_refl _) (.int .i64 1)))
            have HSM := Lib.hid (fun (h : tomR nx ac s a = 0) => show Owned wr wo.heap.size (.slice (some ⟨gr, 0, none⟩) nA nA) (rowm (tomR nx ac s) nA (a + 1)) by rw [rowm_same h]; exact hOr)
            obtain ⟨bq, oq, eq, _, xq⟩ := (hOr.ints (by rw [rowm_len]; omega)).at_ hla
            cases eq
            obtain ⟨g9, e9, _, _, hf9⟩ := hOr.head hi
            cases e9
            have hf := hf9 a
            rw [rowm_get hla, if_neg (Nat.lt_irrefl a), Nat.zero_add] at xq
            generalize nN nx s a = u at xR hul xB htr
            have b1 : (0 : Int) ≤ (s : Int) := by omega
            have b2 : (s : Int) < (n : Int) := by omega
            have b3 : (0 : Int) ≤ (a : Int) := by omega
            have b4 : (a : Int) < (nA : Int) := by omega
            have b5 : (0 : Int) ≤ (u : Int) := by omega
            have b6 : (u : Int) < (n : Int) := by omega
            have HBZ := Lib.hid hbz
            clear hLx hLa hb1z hOr hbz hrA hf9
            cases hx9 : aN ac u with
            | true =>
              rw [hx9] at xB htr
              have HF := Lib.hid (HST.out htr)
              clear htr hx9 HST HSM
              go_wp2_with fail
              go_quiet (fail)
              go_wp2_with fail
              go_roundw
              case rel => exact ⟨a + 1, by go_num, by omega, HF.out.1, (below_drewN HBZ.out _).setCell (p := ⟨gr, a, none⟩) (by show wo.heap.size ≤ gr; rw [HGR.out]; exact Nat.le_refl _) _⟩
              case measure => simp [intOf]; omega
            | false =>
              rw [hx9] at xB htr
              have HF := Lib.hid (HSM.out htr)
              clear htr hx9 HST HSM
              go_wp2_with fail
              go_quiet (fail)
              go_wp2_with fail
              go_roundw
              case rel => exact ⟨a + 1, by go_num, by omega, HF.out.kept (below_drewN (Below.refl _ _) _), below_drewN HBZ.out _⟩
              case measure => simp [intOf]; omega
          · obtain rfl : a = i := by omega
            obtain ⟨hY, hO2, hO3, hap, hbr⟩ := HH.out
            have hY := hY.kept hbz (heap_lt hY)
            have hO2 := hO2.kept hbz
            have hO3 := hO3.kept hbz
            have hzz := hb1z.size
            obtain ⟨A4, c4, w4, hr4, hO4, hb4, hk4, hkb4, hmv⟩ := run_append_list hO3 (show Owned wr w1.heap.size (.slice (some ⟨gr, 0, none⟩) a a) (rowm (tomR nx ac s) a a) from hOr.lower hzr) hzz (by rw [hol]; omega)
            rw [hol] at hr4 hO4 hmv
            rw [tomO_take nx ac a n hlt] at hO4
            have hY4 := hY.keptT (hk4 _ (by decide))
            have hO24 := hO2.keptB hkb4 hap (hk4 _ (by decide))
            have hap4 := hap.moved hmv hO2
            obtain ⟨_, _, _, y3, _, _, _, f3⟩ := hY.cells
            obtain ⟨_, _, _, y3', _, _, _, f3'⟩ := hY4.cells
            have HF := Lib.hid (And.intro (show Yblk (w4.setCell ⟨g, 3, none⟩ (.slice A4 (s + 1) c4)) g (.int .i64 a) (.int .i64 st) (.slice A2 n c2) (.slice A4 (s + 1) c4) from heap_setCell_same w4 g 3 _ _ _ hY4) (And.intro (hO24.keptT (KeptT.off (k := 3) hY4 (by decide) (.slice A4 (s + 1) c4)) (KeptT.off (k := 3) hY4 (by decide) (.slice A4 (s + 1) c4))) (And.intro (hO4.keptT (KeptT.off (k := 3) hY4 (by decide) (.slice A4 (s + 1) c4)) (KeptT.off (k := 3) hY4 (by decide) (.slice A4 (s + 1) c4))) (And.intro hap4 ((hb1z.trans hb4).setCell (p := ⟨g, 3, none⟩) hg (.slice A4 (s + 1) c4))))))
            clear hLx hLa hb1z hOr hbz hY hO2 hO3 hap hbr hO4 hb4 hk4 hkb4 hmv hY4 hO24 hap4
            go_wp2_with (at_builtin; refine Lib.wpList_append_run _ rfl _ _ _ _ rfl _ _ rfl rfl _ _ hr4 ?_)
            go_roundw
            case rel => exact ⟨s + 1, A4, c4, by go_num, by omega, HF.out.1, HF.out.2.1, HF.out.2.2.1, HF.out.2.2.2.1, HF.out.2.2.2.2⟩
            case measure => simp [intOf]; omega
      · obtain rfl : s = n := by omega
        have HT := Lib.hid (show (tomO nx ac i s).take s = tomO nx ac i s from List.take_of_length_le (by simp [tomO]))
        obtain ⟨y0, y1, y2, y3, _⟩ := hY.cells
        have hzz := HZ.out
        have HRr := Lib.hid (HR.out.kept (bt HB1.out hbr) (show w.heap.size + 1 < w0.heap.size by omega))
        obtain ⟨q0, q1, q2, q3, z0, z1, z2, z3⟩ := HRr.out.cells
        have HZ1 := Lib.hid (bt HB0.out HB1.out).size
        have HBR := Lib.hid (bt HB0.out (bt HB1.out hbr))
        clear hzz hY hO2 hO3 hap hbr hLx hLa
        go_wp2_with fail
        refine bodyPost_ret (results_mly rfl _ _ (w.heap.size + 1) _ _ _ _ rfl (HRr.out.set4 _ _ _ _)) rfl ?_
        refine ⟨A2, c2, A3, c3, rfl, ?_, ?_, below_set4 (Nat.le_succ _) HBR.out _ _ _ _⟩
        · exact (HH.out.2.1.keptT (HRr.out.off4 _ _ _ _ (by decide)) (HRr.out.off4 _ _ _ _ (by decide))).lower HZ1.out
        · have h9 := HH.out.2.2.1
          rw [HT.out] at h9
          exact (h9.keptT (HRr.out.off4 _ _ _ _ (by decide)) (HRr.out.off4 _ _ _ _ (by decide))).lower HZ1.out
end Go.Proofs.Ythjnghldedfdoaa
end

section
/- The reference's FromMealy. -/
namespace Go.Proofs.Ythjnghldedfdoaa
open Go.RowKit

theorem ixP_idx : ∀ (L : List (Nat × Nat)) (y : Nat × Nat), ixP L y = L.idxOf y
  | [], _ => rfl
  | z :: L, y => by
    unfold ixP
    rw [List.idxOf_cons]
    by_cases e : z = y
    · rw [if_pos e]; subst e; simp
    · rw [if_neg e, ixP_idx L y]
      have : (z == y) = false := by simpa using e
      rw [this]; rfl
theorem row_take {F : Nat × Nat → Nat → Nat × Nat} {i j x k : Nat} {R : List Ent} (hj : j < R.length) (hx : x < i) (hk : k = plE R (F (R.getD j Ent.zero).pr x)) :
    ((autN F i R).getD j []).take x ++ [(k : Int)] = ((autN F i R).getD j []).take (x + 1) := by
  have hl : ((autN F i R).getD j []).length = i := by rw [autN_row F i hj]; simp
  have hv := autN_at (F := F) hj hx
  rw [List.take_succ_eq_append_getElem (by rw [hl]; exact hx)]
  rw [List.getD_eq_getElem?_getD, List.getElem?_eq_getElem (by rw [hl]; exact hx)] at hv
  rw [hk, ← hv]; rfl
set_option maxHeartbeats 8000000 in
set_option maxRecDepth 100000 in
theorem rfm7 (i st n : Nat) (A B : Option Addr) (c d : Nat) (nx ot : List (List Int)) (b : Bool) (w : World) (hx : Lists w A n nx) (ho : Lists w B n ot) (hM : Mok i st n nx ot) (hbin : Bin ot) :
    Calls Try.prog 34 #[.agg #[.int .i64 i, .int .i64 st, .slice A n c, .slice B n d], .bool b] w fun e w' =>
      AutP w.heap.size i (autN (fmF nx ot) i (fmR i st n nx ot b)) (autA fmA (fmR i st n nx ot b)) (fmR i st n nx ot b).length e w' ∧ Below w.heap.size w w' := by
  obtain ⟨w0, hw0, hb0, hB, hR, hz0⟩ := frm_boxes w i st A B n c n d
  obtain ⟨k0, k1, k2, k3, _⟩ := hB.cells
  have hF := fm_stp hM hbin
  have hn := hM.n2
  have hi := hM.i2
  have HV := Lib.hid hM.vld
  have HW0 := Lib.hid hw0
  have HX := Lib.hid (fun (W : World) (h : Below w0.heap.size w0 W) => And.intro ((hx.below hb0).below h) ((ho.below hb0).below h))
  have HB0 := Lib.hid hb0
  have HB := Lib.hid (fun (W : World) (h : Below w0.heap.size w0 W) => (hB.on9 h).cells)
  have HR := Lib.hid hR
  have HZ := Lib.hid hz0
  have HM := Lib.hid hM
  have HBIN := Lib.hid hbin
  have HF := Lib.hid hF
  have HST := Lib.hid hM.st
  obtain ⟨R, hR9⟩ : ∃ R, R = fmR i st n nx ot b := ⟨_, rfl⟩
  rw [← hR9]
  have HRR := Lib.hid (show exG (fmF nx ot) i (n * 2) [⟨st, b.toNat, 0, 0, []⟩] 0 = R from hR9.symm)
  clear hw0 hB hb0 hR hz0 hM hbin hF hR9
  rw [HW0.out] at k0 k1 k2 k3
  go_enter Try.func34, Try.ntmps34
  go_wp2_with fail
  rw [← HW0.out]
  refine (rvalid _ _ _ _ _ _ _ _ _ _ _ (HX.out _ (Below.refl _ _)).1 (HX.out _ (Below.refl _ _)).2).mono ?_
  rintro e w1 ⟨rfl, b1⟩
  rw [HV.out]
  have HB1 := Lib.hid b1
  clear k0 k1 k2 k3
  obtain ⟨k0, k1, k2, k3, _⟩ := HB.out _ b1
  clear b1
  go_wp2_with fail
  clear k0 k1 k2 k3
  go_loopw [7, 8] (fun v7 _ wr => ∃ s : Nat, v7 = .int .i64 s ∧ s ≤ n ∧ Below w1.heap.size w1 wr) (fun v7 _ _ => n - (intOf v7).toNat)
  case atStart => exact ⟨0, rfl, Nat.zero_le _, Below.refl _ _⟩
  case round =>
    obtain ⟨s, rfl, hs, hbr⟩ := hrel
    have HBR := Lib.hid hbr
    by_cases hlt : s < n
    · clear hbr
      go_wp2_with fail
      obtain ⟨wo, hwo⟩ : ∃ wo : World, wo = wr := ⟨_, rfl⟩
      rw [← hwo] at HBR ⊢
      clear hwo
      go_loopw [8] (fun v8 wz => ∃ a : Nat, v8 = .int .i64 a ∧ a ≤ i ∧ Below w1.heap.size w1 wz) (fun v8 _ => i - (intOf v8).toNat)
      case atStart => exact ⟨0, rfl, Nat.zero_le _, HBR.out⟩
      case round =>
        obtain ⟨a, rfl, ha, hbz⟩ := hrel
        have HBZ := Lib.hid hbz
        obtain ⟨k0, k1, k2, k3, _⟩ := HB.out _ (bt HB1.out hbz)
        by_cases hla : a < i
        · obtain ⟨gB, oB, B1, nB, cB, eB, _, hdB, hrB⟩ := (HX.out _ (bt HB1.out hbz)).2.at_ hlt
          subst eB
          have hnB : nB = i := by rw [← hrB.1]; exact (HM.out.row s hlt).2.1
          subst hnB
          obtain ⟨hB2, iB2, eB2, _, vB⟩ := hrB.at_ hla
          subst eB2
          rw [HM.out.o2_eq hlt hla] at vB
          have h2 := HM.out.o2 HBIN.out hlt hla
          generalize nN ot s a = u at vB h2
          have d1 : decide ((1 : Int) < (u : Int)) = false := decide_eq_false (by omega)
          have d2 : decide (1 < u) = false := decide_eq_false (by omega)
          clear hbz hrB
          go_wp2_with fail
          go_roundw
          case rel => exact ⟨a + 1, by go_num, by omega, HBZ.out⟩
          case measure => simp [intOf]; omega
        · obtain rfl : a = i := by omega
          clear hbz
          go_wp2_with fail
          go_roundw
          case rel => exact ⟨s + 1, by go_num, by omega, HBZ.out⟩
          case measure => simp [intOf]; omega
    · obtain rfl : n = s := by omega
      obtain ⟨k0, k1, k2, k3, _⟩ := HB.out _ (bt HB1.out hbr)
      clear hbr
      go_upto_if 50 with fail
      go_cut [] from 51 to 53 (fun wx => Rws wx wr.heap.size 93 2 (.slice (some ⟨wr.heap.size, 0, none⟩) 1 1) [[.int .i64 (st : Int), .int .i64 (b.toNat : Int)]] ∧ Below wr.heap.size wr wx)
      case first =>
        cases b with
        | true =>
          go_wp2_with fail
          go_meet
          exact ⟨Rws.one wr wr.heap.size 93 [.int .i64 (st : Int), .int .i64 (1 : Int)] (Nat.le_refl _), alloc_below _ _⟩
        | false =>
          go_wp2_with fail
          go_meet
          exact ⟨Rws.one wr wr.heap.size 93 [.int .i64 (st : Int), .int .i64 (0 : Int)] (Nat.le_refl _), alloc_below _ _⟩
      case rest =>
        obtain ⟨hL, hbl⟩ := hcut
        clear k0 k1 k2 k3
        obtain ⟨zb, hzb⟩ : ∃ zb, zb = w1.heap.size := ⟨_, rfl⟩
        have hzr : zb ≤ wr.heap.size := by rw [hzb]; exact HBR.out.size
        have hb1c : Below zb w1 wc := by rw [hzb]; exact bt HBR.out hbl
        have HCL := Lib.hid (fun (W : World) (h : Below zb w1 W) => And.intro (HX.out W (bt HB1.out (by rw [← hzb]; exact h))) (HB.out W (bt HB1.out (by rw [← hzb]; exact h))))
        have HZB := Lib.hid hzb
        obtain ⟨gl, hgl⟩ : ∃ gl, gl = wr.heap.size := ⟨_, rfl⟩
        rw [← hgl] at hL ⊢
        obtain ⟨w2, hw2⟩ : ∃ w2, w2 = wc.alloc (.cells #[.int .i64 i, .int .i64 0, .slice none 0 0, .slice none 0 0] 25) := ⟨_, rfl⟩
        have D2 : Dres w2 zb wc.heap.size i 0 [] [] none none 0 0 := by rw [hw2]; exact ⟨dfa_box _ _ _ _ _, OwnedL.nil _ _, Rws.nil _ _ _ _⟩
        have hb2 : Below zb w1 w2 := by rw [hw2]; exact hb1c.alloc (by have := hbl.size; omega) _
        have L2 : Rws w2 zb 93 2 (.slice (some ⟨gl, 0, none⟩) 1 1) ([(⟨st, b.toNat, 0, 0, []⟩ : Ent)].map cellsL) := by rw [hw2]; exact (hL.kept (alloc_below _ _)).lower (by rw [hgl]; exact hzr)
        have HP2 := Lib.hid (And.intro D2 (And.intro hb2 L2))
        have HW2 := Lib.hid hw2
        have hgD : zb ≤ wc.heap.size := by have := hbl.size; omega
        obtain ⟨k0, k1, k2, k3, _⟩ := HB.out wc (bt HB1.out (bt HBR.out hbl))
        obtain ⟨gD, hgD2⟩ : ∃ gD, gD = wc.heap.size := ⟨_, rfl⟩
        clear hL hbl hzb hb1c hw2 D2 hb2 L2 HX HBR hgl
        go_wp2_with fail
        rw [← HW2.out]
        try rw [← hgD2]
        rw [← hgD2] at HP2 hgD
        clear k0 k1 k2 k3 HW2 hgD2
        go_loopw [9, 11, 12, 13, 14, 15] (fun v9 v11 _ _ _ _ wr => ∃ (j : Nat) (E : List Ent) (N : List (List Int)) (bs : List Bool) (A6 : Option Addr) (c6 : Nat) (AN AA : Option Addr) (cN cA : Nat), v11 = .int .i64 j ∧ v9 = .slice A6 E.length c6 ∧ j ≤ E.length ∧ Ens n 2 st b.toNat E ∧ exG (fmF nx ot) i (n * 2) E j = R ∧
          Rws wr zb 93 2 (.slice A6 E.length c6) (E.map cellsL) ∧ N = (autN (fmF nx ot) i R).take j ∧ bs = (autA fmA R).take j ∧ Dres wr zb gD i 0 N bs AN AA cN cA ∧ Below zb w1 wr) (fun _ v11 _ _ _ _ _ => n * 2 - (intOf v11).toNat)
        case atStart => exact ⟨0, [⟨st, b.toNat, 0, 0, []⟩], [], [], _, 1, none, none, 0, 0, rfl, rfl, Nat.zero_le _, Ens.one HST.out (by cases b <;> decide), HRR.out, HP2.out.2.2, rfl, rfl, HP2.out.1, HP2.out.2.1⟩
        case round =>
          obtain ⟨j, E, N, bs, A6, c6, AN, AA, cN, cA, rfl, rfl, hjl, hE, hXR, hL, hNe, hBe, hD, hbr⟩ := hrel
          have HE := Lib.hid hE
          have HEX := Lib.hid hXR
          have HH := Lib.hid (And.intro hL (And.intro hD hbr))
          have hlen := hE.len
          by_cases hlt : j < E.length
          · have d1 : decide ((j : Int) < (E.length : Int)) = true := decide_eq_true (by omega)
            have d1n : decide (j < E.length) = true := decide_eq_true hlt
            obtain ⟨e, he⟩ : ∃ e, e = E.getD j Ent.zero := ⟨_, rfl⟩
            have hpq := hE.lt _ (getDE_mem hlt)
            rw [← he] at hpq
            have HI := Lib.hid (show ∀ x, x ≤ i → Ens n 2 st b.toNat (adG (fmF nx ot) j e E x) by rw [he]; exact adG_ens HF.out hE hlt)
            have HFIN := Lib.hid (show ∀ x, x ≤ i → ∃ T, R = adG (fmF nx ot) j e E x ++ T by rw [he]; exact fun x hx => adG_fin HF.out hE hlt hXR hx)
            have HEE := Lib.hid he
            have HJ := Lib.hid hlt
            have HON := Lib.hid (show exG (fmF nx ot) i (n * 2) (adG (fmF nx ot) j e E i) (j + 1) = R by rw [he, exG_on HF.out hE hlt]; exact hXR)
            have HNE := Lib.hid hNe
            have HBE := Lib.hid hBe
            have hjR : j < R.length := by
              obtain ⟨T, hT⟩ := HFIN.out 0 (Nat.zero_le _)
              rw [hT, List.length_append]
              show j < E.length + _
              omega
            have HJR := Lib.hid hjR
            have HRJ := Lib.hid (show R.getD j Ent.zero = e by
              obtain ⟨T, hT⟩ := HFIN.out 0 (Nat.zero_le _)
              rw [hT]
              show (E ++ T).getD j Ent.zero = e
              rw [getDE_pre hlt, he])
            have HNL := Lib.hid (show N.length = j by rw [hNe, List.length_take]; simp [autN]; omega)
            have HBL := Lib.hid (show bs.length = j by rw [hBe, List.length_take]; simp [autA]; omega)
            clear hE hXR hL hD hbr he hlt hNe hBe hjR
            go_wp2_with fail
            obtain ⟨wo, hwo⟩ : ∃ wo : World, wo = wr := ⟨_, rfl⟩
            rw [← hwo] at HH ⊢
            clear hwo
            have hzo : zb ≤ wo.heap.size := by have := heap_lt HH.out.2.1.1; omega
            go_loopw [9, 12, 13, 14, 15] (fun v9 v12 v13 _ _ wq => ∃ (x : Nat) (A8 A12 : Option Addr) (c8 c12 : Nat), x ≤ i ∧ v13 = .int .i64 x ∧ v9 = .slice A8 (adG (fmF nx ot) j e E x).length c8 ∧ v12 = .slice A12 x c12 ∧
              Rws wq zb 93 2 (.slice A8 (adG (fmF nx ot) j e E x).length c8) ((adG (fmF nx ot) j e E x).map cellsL) ∧ Owned wq wo.heap.size (.slice A12 x c12) (((autN (fmF nx ot) i R).getD j []).take x) ∧ (∀ t, t ≠ 93 → KeptT t wo wq) ∧ Below zb w1 wq ∧ wo.heap.size ≤ wq.heap.size) (fun _ _ v13 _ _ _ => i - (intOf v13).toNat)
            case atStart => exact ⟨0, A6, none, c6, 0, Nat.zero_le _, rfl, rfl, rfl, HH.out.1, Owned.nil _ _, fun t _ g o e => e, HH.out.2.2, Nat.le_refl _⟩
            case round =>
              obtain ⟨x, A8, A12, c8, c12, hxl, rfl, rfl, rfl, hL2, hO2, hKT, hb2, hzq⟩ := hrel
              have hE2 := HI.out x hxl
              have hlen2 := hE2.len
              obtain ⟨T, hT⟩ := adG_pre (fmF nx ot) j e E x
              have hj2 : j < (adG (fmF nx ot) j e E x).length := by rw [hT, List.length_append]; have := HJ.out; omega
              have he2 : (adG (fmF nx ot) j e E x).getD j Ent.zero = e := by rw [hT, getDE_pre HJ.out]; exact HEE.out.symm
              have HE2 := Lib.hid hE2
              have He2 := Lib.hid he2
              have HQ2 := Lib.hid (And.intro hL2 (And.intro hO2 (And.intro hKT hb2)))
              obtain ⟨⟨hLx, hLo⟩, k0, k1, k2, k3, _⟩ := HCL.out _ hb2
              obtain ⟨g6, c6', e6, _, hg6, _, hc6⟩ := hL2.at_ (by rw [List.length_map]; omega)
              have x6 := hc6 j 0 (by rw [List.length_map]; exact hj2) (by omega)
              have y6 := hc6 j 1 (by rw [List.length_map]; exact hj2) (by omega)
              rw [getD_mapL hj2, he2] at x6 y6
              rw [Nat.add_zero] at x6
              replace x6 : wr.cell? ⟨g6, j * 2, none⟩ = some (.int .i64 e.p) := x6
              replace y6 : wr.cell? ⟨g6, j * 2 + 1, none⟩ = some (.int .i64 e.q) := y6
              obtain rfl : A8 = some ⟨g6, 0, none⟩ := by injection e6
              clear e6
              have b1 : (0 : Int) ≤ (j : Int) := by omega
              have b2 : (j : Int) < ((adG (fmF nx ot) j e E x).length : Int) := by omega
              by_cases hxi : x < i
              · obtain ⟨gA, oA, A1, nA, cA9, eA, hgA, hdA, hrA⟩ := hLx.at_ hpq.1
                have w1' := (HM.out.row e.p hpq.1).1
                obtain rfl : i = nA := by rw [← hrA.1]; exact w1'.symm
                subst eA
                obtain ⟨hA2, iA2, eA2, lA, vA⟩ := hrA.at_ hxi
                subst eA2
                rw [HM.out.nN_eq hpq.1 hxi] at vA
                obtain ⟨gB, oB, B1, nB, cB9, eB, hgB, hdB, hrB⟩ := hLo.at_ hpq.1
                have w2' := (HM.out.row e.p hpq.1).2.1
                obtain rfl : i = nB := by rw [← hrB.1]; exact w2'.symm
                subst eB
                obtain ⟨hB2, iB2, eB2, lB, vB⟩ := hrB.at_ hxi
                subst eB2
                rw [HM.out.o2_eq hpq.1 hxi] at vB
                obtain ⟨e', hE'⟩ : ∃ e', e' = nxG (fmF nx ot) j e x := ⟨_, rfl⟩
                have f1 : nN nx e.p x = e'.p := by rw [hE']; rfl
                have f2 : nN ot e.p x = e'.q := by rw [hE']; rfl
                have HST2 := Lib.hid (show adG (fmF nx ot) j e E (x + 1) = addE (adG (fmF nx ot) j e E x) e' by rw [hE']; rfl)
                have HPR2 := Lib.hid (show fmF nx ot (R.getD j Ent.zero).pr x = e'.pr by rw [HRJ.out, hE']; rfl)
                have HPL := Lib.hid (fun (k : Nat) (hk : k = plE (addE (adG (fmF nx ot) j e E x) e') e'.pr) => row_take (F := fmF nx ot) HJR.out hxi (show k = plE R (fmF nx ot (R.getD j Ent.zero).pr x) by
                  rw [HPR2.out, hk]
                  refine (plE_fin ?_ (addE_mem _ e')).symm
                  rw [← HST2.out]
                  exact HFIN.out (x + 1) hxi))
                rw [f1] at vA
                rw [f2] at vB
                have HS := Lib.hid (fun (W : World) (h : Below wr.heap.size wr W) => show W.cell? ⟨w.heap.size, 2, none⟩ = some (.slice (some ⟨gA, oA, none⟩) n c) ∧ W.cell? ⟨w.heap.size, 3, none⟩ = some (.slice (some ⟨gB, oB, none⟩) n d) ∧
                  W.cell? ⟨g6, j * 2, none⟩ = some (.int .i64 e.p) ∧ W.cell? ⟨gA, oA + e.p, none⟩ = some (.slice (some ⟨hA2, iA2, none⟩) i cA9) ∧ W.cell? ⟨hA2, iA2 + x, none⟩ = some (.int .i64 e'.p) ∧
                  W.cell? ⟨gB, oB + e.p, none⟩ = some (.slice (some ⟨hB2, iB2, none⟩) i cB9) ∧ W.cell? ⟨hB2, iB2 + x, none⟩ = some (.int .i64 e'.q) from
                  ⟨(h.cell (p := ⟨w.heap.size, 2, none⟩) (World.block_lt_of_cell? wr _ k2)).trans k2, (h.cell (p := ⟨w.heap.size, 3, none⟩) (World.block_lt_of_cell? wr _ k3)).trans k3, (h.cell (p := ⟨g6, j * 2, none⟩) hg6).trans x6,
                   (h.cell (p := ⟨gA, oA + e.p, none⟩) hgA).trans hdA, (h.cell (p := ⟨hA2, iA2 + x, none⟩) lA).trans vA, (h.cell (p := ⟨gB, oB + e.p, none⟩) hgB).trans hdB, (h.cell (p := ⟨hB2, iB2 + x, none⟩) lB).trans vB⟩)
                have b3 : (0 : Int) ≤ (e.p : Int) := by omega
                have b4 : (e.p : Int) < (n : Int) := by omega
                have b7 : (0 : Int) ≤ (x : Int) := by omega
                have b8 : (x : Int) < (i : Int) := by omega
                clear hL2 hO2 hKT hb2 he2 hT hE2 w1' w2' hrA hrB hc6 hE' f1 f2 hLx hLo k1 hdA hdB vA vB x6 y6
                go_wp2_with fail
                go_region_held3 (fun w' => w'.cell? ⟨w.heap.size, 2, none⟩ = some (.slice (some ⟨gA, oA, none⟩) n c) ∧ w'.cell? ⟨w.heap.size, 3, none⟩ = some (.slice (some ⟨gB, oB, none⟩) n d) ∧
                  w'.cell? ⟨g6, j * 2, none⟩ = some (.int .i64 e.p) ∧ w'.cell? ⟨gA, oA + e.p, none⟩ = some (.slice (some ⟨hA2, iA2, none⟩) i cA9) ∧ w'.cell? ⟨hA2, iA2 + x, none⟩ = some (.int .i64 e'.p) ∧
                  w'.cell? ⟨gB, oB + e.p, none⟩ = some (.slice (some ⟨hB2, iB2, none⟩) i cB9) ∧ w'.cell? ⟨hB2, iB2 + x, none⟩ = some (.int .i64 e'.q))
                  (first | exact HS.out _ (below_drewN (Below.refl _ _) 1) | exact HS.out _ (below_drewN (alloc_below _ _) 1) | exact HS.out _ (alloc_below _ _)) (fail)
                obtain ⟨w3, hw3⟩ : ∃ w3, w3 = (wr.alloc (.cells #[.int .i64 e'.p, .int .i64 e'.q] 93)).drew := ⟨_, rfl⟩
                have hb3 : Below wr.heap.size wr w3 := by rw [hw3]; exact below_drewN (alloc_below _ _) 1
                have p3 : w3.heap[wr.heap.size]? = some (.cells #[.int .i64 e'.p, .int .i64 e'.q] 93 (0, 0)) := by rw [hw3]; exact heap_alloc_new wr _
                obtain ⟨gp, hgp⟩ : ∃ gp, gp = wr.heap.size := ⟨_, rfl⟩
                rw [← hw3, ← hgp]
                rw [← hgp] at p3
                have hgl2 : gp < w3.heap.size := heap_lt p3
                have q0 := cell_of_row w3 gp 0 _ _ (0, 0) p3
                have q1 := cell_of_row w3 gp 1 _ _ (0, 0) p3
                obtain ⟨hL2, hO2, hKT, hb2⟩ := HQ2.out
                have HQ3 := Lib.hid (And.intro (hL2.kept hb3) (And.intro (hO2.kept hb3) (And.intro (fun t (ht : t ≠ 93) => (hKT t ht).trans (KeptT.of_below hb3)) (And.intro (hb2.trans (hb3.mono (show zb ≤ wr.heap.size by omega))) (show wo.heap.size ≤ w3.heap.size by have := hb3.size; omega)))))
                have HPR := Lib.hid ((hL2.kept hb3).pr7 (n := (adG (fmF nx ot) j e E x).length) rfl (by omega))
                clear hw3 hgp k2 k3 p3 hb3 hL2 hO2 hKT hb2
                generalize hEx : adG (fmF nx ot) j e E x = Ex at HE2 He2 HST2 HPR HQ3 HPL hj2 hlen2 b2 ⊢
                clear hEx HQ2
                by_cases hh : hasE Ex e'.p e'.q
                · have HAE := Lib.hid (addE_in hh)
                  have hix := ixP_in (L := Ex.map Ent.pr) (x := (e'.p, e'.q)) hh
                  rw [List.length_map] at hix
                  obtain ⟨k, hk⟩ : ∃ k, k = ixP (Ex.map Ent.pr) (e'.p, e'.q) := ⟨_, rfl⟩
                  rw [← hk] at hix
                  have HK := Lib.hid hk
                  have HTK := Lib.hid (HPL.out k (by rw [HAE.out, hk, ixP_idx]; rfl))
                  have f1 : ((k : Int) == (Ex.length : Int)) = false := by rw [beq_eq_false_iff_ne]; omega
                  have f2 : (k == Ex.length) = false := by rw [beq_eq_false_iff_ne]; omega
                  have f3 : decide (k = Ex.length) = false := decide_eq_false (by omega)
                  clear hh hk
                  go_wp2_with fail
                  refine (rplace7 _ _ _ _ e'.p e'.q _ HPR.out).mono ?_
                  rintro r w4 ⟨rfl, b4⟩
                  rw [← HK.out]
                  obtain ⟨hL3, hO3, hKT3, hb3, hz3⟩ := HQ3.out
                  have hz4 : wo.heap.size ≤ w4.heap.size := Nat.le_trans hz3 b4.size
                  have htl : (((autN (fmF nx ot) i R).getD j []).take x).length = x := by rw [List.length_take, autN_row _ _ HJR.out]; simp; omega
                  obtain ⟨A13, c13, w5, hr5, hO5, hb5, hk5, _⟩ := run_append_oneB (hO3.kept b4) (k : Int) hz4 (by rw [htl]; omega)
                  rw [htl] at hr5 hO5
                  rw [HTK.out] at hO5
                  have HF5 := Lib.hid (And.intro ((hL3.kept b4).keptT (hk5 _ (by decide))) (And.intro hO5 (And.intro (fun t (ht : t ≠ 93) => show KeptT t wo w5 from fun g o e9 => (hb5.block g (heap_lt e9)).trans (((hKT3 t ht).trans (KeptT.of_below b4)) g o e9)) (And.intro ((hb3.trans (b4.mono (Nat.le_trans hzo hz3))).trans (hb5.mono hzo)) (show wo.heap.size ≤ w5.heap.size from Nat.le_trans hz4 hb5.size)))))
                  clear hL3 hO3 hKT3 hb3 hz3 hO5 hb5 hk5 htl b4 q0 q1
                  go_wp2_with (at_builtin; refine Lib.wpList_append_run _ rfl _ _ _ _ rfl _ _ rfl rfl _ _ hr5 ?_)
                  go_roundw
                  case rel => exact ⟨x + 1, _, A13, c8, c13, by omega, by go_num, by rw [HST2.out, HAE.out], rfl, by rw [HST2.out, HAE.out]; exact HF5.out.1, HF5.out.2.1, HF5.out.2.2.1, HF5.out.2.2.2.1, HF5.out.2.2.2.2⟩
                  case measure => simp [intOf]; omega
                · have HAE := Lib.hid (addE_out hh)
                  have HIX := Lib.hid (show ixP (Ex.map Ent.pr) (e'.p, e'.q) = Ex.length by rw [ixP_out hh, List.length_map])
                  have HTK := Lib.hid (HPL.out Ex.length (by rw [HAE.out]; exact (plE_new hh).symm))
                  have f1 : ((Ex.length : Int) == (Ex.length : Int)) = true := by simp
                  clear hh
                  go_wp2_with fail
                  refine (rplace7 _ _ _ _ e'.p e'.q _ HPR.out).mono ?_
                  rintro r w4 ⟨rfl, b4⟩
                  rw [HIX.out]
                  obtain ⟨hL3, hO3, hKT3, hb3, hz3⟩ := HQ3.out
                  have r0 := (b4.cell (p := ⟨gp, 0, none⟩) hgl2).trans q0
                  have r1 := (b4.cell (p := ⟨gp, 1, none⟩) hgl2).trans q1
                  have hz4 : wo.heap.size ≤ w4.heap.size := Nat.le_trans hz3 b4.size
                  obtain ⟨A9, c9, w5, hr5, hL5, hb5, hk5⟩ := run_append_q (hL3.kept b4) e' (Nat.le_trans hzo hz4) (by omega)
                  have hz5 : wo.heap.size ≤ w5.heap.size := Nat.le_trans hz4 (hb5.size)
                  have htl : (((autN (fmF nx ot) i R).getD j []).take x).length = x := by rw [List.length_take, autN_row _ _ HJR.out]; simp; omega
                  obtain ⟨A13, c13, w6, hr6, hO6, hb6, hk6, _⟩ := run_append_oneB ((hO3.kept b4).keptT (hk5 _ (by decide))) (Ex.length : Int) hz5 (by rw [htl]; omega)
                  rw [htl] at hr6 hO6
                  rw [HTK.out] at hO6
                  have HF5 := Lib.hid (And.intro (hL5.keptT (hk6 _ (by decide))) (And.intro hO6 (And.intro (fun t (ht : t ≠ 93) => show KeptT t wo w6 from fun g o e9 => (hb6.block g (heap_lt e9)).trans ((((hKT3 t ht).trans (KeptT.of_below b4)).trans (hk5 t ht)) g o e9)) (And.intro (((hb3.trans (b4.mono (Nat.le_trans hzo hz3))).trans hb5).trans (hb6.mono hzo)) (show wo.heap.size ≤ w6.heap.size from Nat.le_trans hz5 hb6.size)))))
                  have HL9 := Lib.hid (show (adG (fmF nx ot) j e E (x + 1)).length = Ex.length + 1 by rw [HST2.out, HAE.out, List.length_append]; rfl)
                  have HEQ := Lib.hid (show adG (fmF nx ot) j e E (x + 1) = Ex ++ [e'] by rw [HST2.out, HAE.out])
                  clear hL3 hO3 hKT3 hb3 hz3 hL5 hb5 hk5 hO6 hb6 hk6 htl b4 q0 q1
                  go_wp2_with (at_builtin; first | (refine Lib.wpList_append_run _ rfl _ _ _ _ rfl _ _ rfl rfl _ _ hr5 ?_; clear hr5) | (refine Lib.wpList_append_run _ rfl _ _ _ _ rfl _ _ rfl rfl _ _ hr6 ?_; clear hr6))
                  go_roundw
                  case rel => exact ⟨x + 1, A9, A13, c9, c13, by omega, by go_num, by rw [HL9.out], rfl, by rw [HL9.out, HEQ.out]; exact HF5.out.1, HF5.out.2.1, HF5.out.2.2.1, HF5.out.2.2.2.1, HF5.out.2.2.2.2⟩
                  case measure => simp [intOf]; omega
              · obtain rfl : x = i := by omega
                obtain ⟨hL2, hO2, hKT, hb2⟩ := HQ2.out
                have hD2 := HH.out.2.1.keptT (hKT _ (by decide)) (hKT _ (by decide)) (hKT _ (by decide)) (hKT _ (by decide))
                have hzb : zb ≤ wr.heap.size := by omega
                have hrl : ((autN (fmF nx ot) x R).getD j []).length = x := by rw [autN_row _ _ HJR.out]; simp
                have hOr : Owned wr zb (.slice A12 x c12) ((autN (fmF nx ot) x R).getD j []) := by
                  have h := hO2.lower hzo
                  rw [List.take_of_length_le (by rw [hrl]; exact Nat.le_refl _)] at h
                  exact h
                obtain ⟨A7, c7, w7, hr7, hK7, hR8, hB8, hT8, _⟩ := hD2.push_row hOr hzb hgD (by rw [HNL.out]; omega)
                obtain ⟨y0, y1, y2, y3, f0, f1, f2, f3⟩ := hD2.1.cells
                obtain ⟨y0', y1', y2', y3', f0', f1', f2', f3'⟩ := hK7.cells
                have hL8 := hL2.keptT (hT8 _ (by decide) (by decide))
                have HN1 := Lib.hid (show N ++ [(autN (fmF nx ot) x R).getD j []] = (autN (fmF nx ot) x R).take (j + 1) by
                  rw [HNE.out, List.take_succ_eq_append_getElem (by simp [autN]; exact HJR.out), List.getD_eq_getElem?_getD, List.getElem?_eq_getElem (by simp [autN]; exact HJR.out)]; rfl)
                have HB1' := Lib.hid (show bs ++ [fmA e.pr] = (autA fmA R).take (j + 1) by
                  rw [HBE.out, List.take_succ_eq_append_getElem (by simp [autA]; exact HJR.out)]
                  congr 1
                  have := autA_at (E := R) fmA HJR.out
                  rw [HRJ.out, List.getD_eq_getElem?_getD, List.getElem?_eq_getElem (by simp [autA]; exact HJR.out)] at this
                  rw [← this]; rfl)
                have HH7 := Lib.hid (And.intro hR8 (And.intro (hb2.trans hB8) hL8))
                clear hL2 hO2 hKT hb2 hD2 hOr hK7 hR8 hB8 hT8 hL8 hE2 he2 hT hLx hLo x6 y6 hg6 hc6 k1 k2 k3
                go_wp2_with (at_builtin; refine Lib.wpList_append_run _ rfl _ _ _ _ rfl _ _ rfl rfl _ _ hr7 ?_)
                obtain ⟨hR8, hB8, hL8⟩ := HH7.out
                generalize w7.setCell ⟨gD, 2, none⟩ (.slice A7 (N.length + 1) c7) = w8 at hR8 hB8 hL8 ⊢
                clear HH7 y0 y1 y2 y3 f0 f1 f2 f3 y0' y1' y2' y3' f0' f1' f2' f3' hr7 k0
                have hz8 : zb ≤ w8.heap.size := by have := heap_lt hR8.1; omega
                obtain ⟨_, _, _, c3', _, _, _, f3⟩ := hR8.1.cells
                obtain ⟨g8, c8', e8, _, _, _, hc8⟩ := hL8.at_ (by rw [List.length_map]; omega)
                have y8 := hc8 j 1 (by rw [List.length_map]; exact hj2) (by omega)
                obtain rfl : g6 = g8 := by injection e8 with e8; injection e8 with e8; injection e8
                clear e8 hc8
                rw [getD_mapL hj2, He2.out] at y8
                replace y8 : w8.cell? ⟨g6, j * 2 + 1, none⟩ = some (.int .i64 e.q) := y8
                have hbl : bs.length < 1099511627776 := by rw [HBL.out]; omega
                have hR8d : Dres w8.drew zb gD x 0 (N ++ [(autN (fmF nx ot) x R).getD j []]) bs A7 AA c7 cA := hR8.kept (below_drewN (Below.refl _ w8) 1)
                have hfa : fmA e.pr = decide (e.q = 1) := rfl
                obtain ⟨X, hX⟩ : ∃ X, X = fmA e.pr := ⟨_, rfl⟩
                rw [← hX] at HB1'
                obtain ⟨A9, c9, w9, hr9, hK9, hR10, hB10, hT10, _⟩ := hR8d.push_bool X (show zb ≤ w8.drew.heap.size from hz8) hgD hbl
                obtain ⟨_, _, _, v3, _, _, _, g3⟩ := hK9.cells
                have ca := ((alloc_below w8 (.cells #[.bool X] 4)).cell (p := ⟨gD, 3, none⟩) (heap_lt hR8.1)).trans c3'
                have HFN := Lib.hid (And.intro hR10 (And.intro ((below_drewN hB8 1).trans hB10) ((hL8.kept (below_drewN (Below.refl _ w8) 1)).keptT (hT10 _ (by decide) (by decide)))))
                have Hj2 := Lib.hid hj2
                rw [← hX] at hfa
                clear hR8 hB8 hL8 hR8d hK9 hR10 hB10 hT10 hX hbl hj2
                generalize e.q = q at y8 hfa
                by_cases hq : q = 1
                · subst hq
                  replace y8 : w8.cell? ⟨g6, j * 2 + 1, none⟩ = some (.int .i64 1) := y8
                  obtain rfl : X = true := hfa
                  go_region_law (first | (refine step_app rfl _ _ _ _ rfl _ _ rfl rfl _ _ hr9 ?_))
                  all_goals
                    clear c3' f3 y8 ca hr9 v3 g3
                    go_wp2_with fail
                    go_roundw
                    case rel => exact ⟨j + 1, adG (fmF nx ot) j e E x, N ++ [(autN (fmF nx ot) x R).getD j []], bs ++ [true], some ⟨g6, 0, none⟩, c8, A7, A9, c7, c9, by go_num, rfl, Hj2.out, HE2.out, HON.out, HFN.out.2.2, HN1.out, HB1'.out, HFN.out.1, HFN.out.2.1⟩
                    case measure => simp [intOf]; omega
                · have f1 : ((q : Int) == 1) = false := by rw [beq_eq_false_iff_ne]; omega
                  obtain rfl : X = false := by rw [hfa]; exact decide_eq_false hq
                  clear hfa hq
                  go_region_law (first | (refine step_app rfl _ _ _ _ rfl _ _ rfl rfl _ _ hr9 ?_))
                  all_goals
                    clear c3' f3 y8 ca hr9 v3 g3
                    go_wp2_with fail
                    go_roundw
                    case rel => exact ⟨j + 1, adG (fmF nx ot) j e E x, N ++ [(autN (fmF nx ot) x R).getD j []], bs ++ [false], some ⟨g6, 0, none⟩, c8, A7, A9, c7, c9, by go_num, rfl, Hj2.out, HE2.out, HON.out, HFN.out.2.2, HN1.out, HB1'.out, HFN.out.1, HFN.out.2.1⟩
                    case measure => simp [intOf]; omega
          · obtain rfl : j = E.length := by omega
            have d1 : decide ((E.length : Int) < (E.length : Int)) = false := decide_eq_false (by omega)
            have hRE : E = R := by rw [← HEX.out, exG_end (by omega)]
            subst hRE
            have hDl := hD
            rw [hNe, hBe, List.take_of_length_le (by simp [autN]), List.take_of_length_le (by simp [autA])] at hDl
            have hzz := HZ.out
            have HRr := Lib.hid (HR.out.kept (bt HB1.out (by rw [← HZB.out]; exact hbr)) (show w.heap.size + 1 < w0.heap.size by omega))
            obtain ⟨q0, q1, q2, q3, z0, z1, z2, z3⟩ := HRr.out.cells
            have hnl : (autN (fmF nx ot) i E).length = E.length := by simp [autN]
            have hal : (autA fmA E).length = E.length := by simp [autA]
            rw [Dres, hnl, hal] at hDl
            obtain ⟨y0, y1, y2, y3, _⟩ := hDl.1.cells
            have HDL := Lib.hid hDl
            have HBR2 := Lib.hid (bt HB0.out (bt HB1.out (by rw [← HZB.out]; exact hbr)))
            have HZ1 := Lib.hid (show w.heap.size ≤ zb by rw [HZB.out]; exact (bt HB0.out HB1.out).size)
            clear hE hXR hL hD hbr hzz hDl hnl hal hNe hBe
            by_cases hbig : 128 < E.length
            · have d2 : decide ((128 : Int) < (E.length : Int)) = true := decide_eq_true (by omega)
              clear y0 y1 y2 y3
              have HBG := Lib.hid hbig
              clear hbig
              go_wp2_with fail
              refine bodyPost_ret (results_dfa rfl _ _ (w.heap.size + 1) (.int .i64 0) (.int .i64 0) (.slice none 0 0) (.slice none 0 0) rfl (HRr.out.set4 _ _ _ _)) rfl ?_
              exact ⟨AutP.bad HBG.out, below_set4 (Nat.le_succ _) HBR2.out _ _ _ _⟩
            · have d2 : decide ((128 : Int) < (E.length : Int)) = false := decide_eq_false (by omega)
              have HBG := Lib.hid (show E.length ≤ 128 by omega)
              clear hbig
              go_wp2_with fail
              refine bodyPost_ret (results_dfa rfl _ _ (w.heap.size + 1) _ _ _ _ rfl (HRr.out.set4 _ _ _ _)) rfl ?_
              refine ⟨AutP.ok HBG.out ⟨AN, cN, AA, cA, rfl, ?_, ?_⟩, below_set4 (Nat.le_succ _) HBR2.out _ _ _ _⟩
              · exact (HDL.out.2.1.keptT (HRr.out.off4 _ _ _ _ (by decide)) (HRr.out.off4 _ _ _ _ (by decide))).lower HZ1.out
              · exact (HDL.out.2.2.keptT (HRr.out.off4 _ _ _ _ (by decide))).lower HZ1.out
end Go.Proofs.Ythjnghldedfdoaa
end

section
/- The reference's FromMealy of a bad machine. -/
namespace Go.Proofs.Ythjnghldedfdoaa
open Go.RowKit

theorem Mok.not_bin {i st n : Nat} {nx ot : List (List Int)} (h : Mok i st n nx ot) (hb : ¬ Bin ot) : ¬ ∀ s a, s < n → a < i → ¬ 1 < nN ot s a := fun H => hb fun x hx h1 => by
  rw [List.mem_flatten] at hx
  obtain ⟨l, hl, hxl⟩ := hx
  obtain ⟨s, hs, rfl⟩ := List.getElem_of_mem hl
  obtain ⟨a, ha, rfl⟩ := List.getElem_of_mem hxl
  have hs2 : s < n := by rw [← h.otl]; exact hs
  have h2 := (h.row s hs2).2.1
  have e1 : ot.getD s [] = ot[s] := by rw [List.getD_eq_getElem?_getD, List.getElem?_eq_getElem hs]; rfl
  rw [e1] at h2
  have e2 := h.o2_eq hs2 (show a < i by omega)
  rw [e1, List.getD_eq_getElem?_getD, List.getElem?_eq_getElem ha] at e2
  have e3 : (ot[s])[a] = (nN ot s a : Int) := e2
  have := H s a hs2 (by omega)
  omega
set_option maxHeartbeats 4000000 in
set_option maxRecDepth 100000 in
theorem rfm7_bad (i st : Int) (A B : Option Addr) (n c m d : Nat) (nx ot : List (List Int)) (b : Bool) (w : World) (hx : Lists w A n nx) (ho : Lists w B m ot) (hv : ¬ fmE i st nx ot = 0) :
    Calls Try.prog 34 #[.agg #[.int .i64 i, .int .i64 st, .slice A n c, .slice B m d], .bool b] w fun e w' => e = .returned (.tuple #[.agg #[.int .i64 0, .int .i64 0, .slice none 0 0, .slice none 0 0], .int .i64 (fmE i st nx ot)]) ∧ Below w.heap.size w w' := by
  obtain ⟨w0, hw0, hb0, hB, hR, hz0⟩ := frm_boxes w i st A B n c m d
  obtain ⟨k0, k1, k2, k3, _⟩ := hB.cells
  have HW0 := Lib.hid hw0
  have HX := Lib.hid (fun (W : World) (h : Below w0.heap.size w0 W) => And.intro ((hx.below hb0).below h) ((ho.below hb0).below h))
  have HB0 := Lib.hid hb0
  have HB := Lib.hid (fun (W : World) (h : Below w0.heap.size w0 W) => (hB.on9 h).cells)
  have HR := Lib.hid hR
  have HZ := Lib.hid hz0
  clear hw0 hB hb0 hR hz0
  rw [HW0.out] at k0 k1 k2 k3
  by_cases h1 : vld i st nx ot = 0
  · have h2 : ¬ Lib.maxOf (outL ot []) ≤ 1 := fun h => hv (by unfold fmE; rw [if_pos h1, if_pos h])
    have HE := Lib.hid (show fmE i st nx ot = 1 by unfold fmE; rw [if_pos h1, if_neg h2])
    obtain ⟨i', st', n', rfl, rfl, hM⟩ := vld_zero h1
    obtain rfl : n = n' := by rw [← hx.1]; exact hM.nxl
    obtain rfl : m = n := by rw [← ho.1]; exact hM.otl
    have HNB := Lib.hid (hM.not_bin (hM.bin.2 (by omega)))
    have HV := Lib.hid h1
    have HM := Lib.hid hM
    have hi := hM.i2
    have hm := hM.n2
    clear hv h1 h2 hM
    go_enter Try.func34, Try.ntmps34
    go_wp2_with fail
    rw [← HW0.out]
    refine (rvalid _ _ _ _ _ _ _ _ _ _ _ (HX.out _ (Below.refl _ _)).1 (HX.out _ (Below.refl _ _)).2).mono ?_
    rintro e w1 ⟨rfl, b1⟩
    rw [HV.out]
    have HB1 := Lib.hid b1
    clear k0 k1 k2 k3
    obtain ⟨k0, k1, k2, k3, _⟩ := HB.out _ b1
    clear b1
    go_wp2_with fail
    clear k0 k1 k2 k3
    go_loopw [7, 8] (fun v7 _ wr => ∃ s : Nat, v7 = .int .i64 s ∧ s ≤ m ∧ (∀ t a, t < s → a < i' → ¬ 1 < nN ot t a) ∧ Below w1.heap.size w1 wr) (fun v7 _ _ => m - (intOf v7).toNat)
    case atStart => exact ⟨0, rfl, Nat.zero_le _, fun t a h => absurd h (by omega), Below.refl _ _⟩
    case round =>
      obtain ⟨s, rfl, hs, hall, hbr⟩ := hrel
      have HBR := Lib.hid hbr
      have HALL := Lib.hid hall
      by_cases hlt : s < m
      · clear hbr hall
        go_wp2_with fail
        obtain ⟨wo, hwo⟩ : ∃ wo : World, wo = wr := ⟨_, rfl⟩
        rw [← hwo] at HBR ⊢
        clear hwo
        go_loopw [8] (fun v8 wz => ∃ a : Nat, v8 = .int .i64 a ∧ a ≤ i' ∧ (∀ a', a' < a → ¬ 1 < nN ot s a') ∧ Below w1.heap.size w1 wz) (fun v8 _ => i' - (intOf v8).toNat)
        case atStart => exact ⟨0, rfl, Nat.zero_le _, fun a h => absurd h (by omega), HBR.out⟩
        case round =>
          obtain ⟨a, rfl, ha, halla, hbz⟩ := hrel
          have HBZ := Lib.hid hbz
          have HALA := Lib.hid halla
          obtain ⟨k0, k1, k2, k3, _⟩ := HB.out _ (bt HB1.out hbz)
          by_cases hla : a < i'
          · obtain ⟨gB, oB, B1, nB, cB, eB, _, hdB, hrB⟩ := (HX.out _ (bt HB1.out hbz)).2.at_ hlt
            subst eB
            have hnB : nB = i' := by rw [← hrB.1]; exact (HM.out.row s hlt).2.1
            subst hnB
            obtain ⟨hB2, iB2, eB2, _, vB⟩ := hrB.at_ hla
            subst eB2
            rw [HM.out.o2_eq hlt hla] at vB
            have HNX := Lib.hid (fun (h : ¬ 1 < nN ot s a) a' (h' : a' < a + 1) => show ¬ 1 < nN ot s a' by
              by_cases e : a' = a
              · subst e; exact h
              · exact HALA.out a' (by omega))
            generalize nN ot s a = u at vB HNX
            clear hrB halla
            by_cases hu : 1 < u
            · have d1 : decide ((1 : Int) < (u : Int)) = true := decide_eq_true (by omega)
              have d2 : decide (1 < u) = true := decide_eq_true hu
              have hzz := HZ.out
              have HRr := Lib.hid (HR.out.kept (bt HB1.out hbz) (show w.heap.size + 1 < w0.heap.size by omega))
              obtain ⟨q0, q1, q2, q3, z0, z1, z2, z3⟩ := HRr.out.cells
              clear hbz hzz hu HNX
              go_wp2_with fail
              refine bodyPost_ret (results_dfa rfl _ _ (w.heap.size + 1) (.int .i64 0) (.int .i64 0) (.slice none 0 0) (.slice none 0 0) rfl (HRr.out.set4 _ _ _ _)) rfl ?_
              exact ⟨by rw [HE.out]; rfl, below_set4 (Nat.le_succ _) (bt HB0.out (bt HB1.out HBZ.out)) _ _ _ _⟩
            · have d1 : decide ((1 : Int) < (u : Int)) = false := decide_eq_false (by omega)
              have d2 : decide (1 < u) = false := decide_eq_false hu
              have HN2 := Lib.hid (HNX.out hu)
              clear hbz HNX hu
              go_wp2_with fail
              go_roundw
              case rel => exact ⟨a + 1, by go_num, by omega, HN2.out, HBZ.out⟩
              case measure => simp [intOf]; omega
          · obtain rfl : a = i' := by omega
            have HN2 := Lib.hid (fun t a' (ht : t < s + 1) (h' : a' < a) => show ¬ 1 < nN ot t a' by
              by_cases e : t = s
              · subst e; exact HALA.out a' h'
              · exact HALL.out t a' (by omega) h')
            clear hbz halla
            go_wp2_with fail
            go_roundw
            case rel => exact ⟨s + 1, by go_num, by omega, HN2.out, HBZ.out⟩
            case measure => simp [intOf]; omega
      · exact absurd (fun t a ht h' => hall t a (by omega) h') HNB.out
  · obtain ⟨x, hxe⟩ : ∃ x, vld i st nx ot = x := ⟨_, rfl⟩
    have HXE := Lib.hid hxe
    have HE := Lib.hid (show fmE i st nx ot = x by unfold fmE; rw [if_neg h1]; exact hxe)
    have t1 : (x != 0) = true := by rw [← hxe]; simpa using h1
    clear hv h1 hxe
    go_enter Try.func34, Try.ntmps34
    go_wp2_with fail
    rw [← HW0.out]
    refine (rvalid _ _ _ _ _ _ _ _ _ _ _ (HX.out _ (Below.refl _ _)).1 (HX.out _ (Below.refl _ _)).2).mono ?_
    rintro e w1 ⟨rfl, b1⟩
    rw [HXE.out]
    have HB1 := Lib.hid b1
    clear k0 k1 k2 k3
    obtain ⟨k0, k1, k2, k3, _⟩ := HB.out _ b1
    clear b1
    go_wp2_with fail
    refine (rvalid _ _ _ _ _ _ _ _ _ _ _ (HX.out _ HB1.out).1 (HX.out _ HB1.out).2).mono ?_
    rintro e w2 ⟨rfl, b2⟩
    rw [HXE.out]
    have hzz := HZ.out
    have HRr := Lib.hid (HR.out.kept (bt HB1.out b2) (show w.heap.size + 1 < w0.heap.size by omega))
    obtain ⟨q0, q1, q2, q3, z0, z1, z2, z3⟩ := HRr.out.cells
    clear hzz k0 k1 k2 k3
    go_wp2_with fail
    refine bodyPost_ret (results_dfa rfl _ _ (w.heap.size + 1) (.int .i64 0) (.int .i64 0) (.slice none 0 0) (.slice none 0 0) rfl (HRr.out.set4 _ _ _ _)) rfl ?_
    exact ⟨by rw [HE.out]; rfl, below_set4 (Nat.le_succ _) (bt HB0.out (bt HB1.out b2)) _ _ _ _⟩
end Go.Proofs.Ythjnghldedfdoaa
end

section
/- Both sides' results of dfa, ToMealy and FromMealy, in one form. -/
namespace Go.Proofs.Ythjnghldedfdoaa
open Go.RowKit

/-- A result: a machine and a number. -/
def MlyR (V : (Int × Int × List (List Int) × List (List Int)) × Int) (w : World) (e : Ending) (w' : World) : Prop :=
  ∃ (A : Option Addr) (c : Nat) (B : Option Addr) (d : Nat), e = .returned (.tuple #[.agg #[.int .i64 V.1.1, .int .i64 V.1.2.1, .slice A V.1.2.2.1.length c, .slice B V.1.2.2.2.length d], .int .i64 V.2]) ∧
    Lists w' A V.1.2.2.1.length V.1.2.2.1 ∧ Lists w' B V.1.2.2.2.length V.1.2.2.2 ∧ Below w.heap.size w w'
theorem MlyR.bad {x : Int} {w w' : World} (hb : Below w.heap.size w w') : MlyR ((0, 0, [], []), x) w (.returned (.tuple #[.agg #[.int .i64 0, .int .i64 0, .slice none 0 0, .slice none 0 0], .int .i64 x])) w' :=
  ⟨none, 0, none, 0, rfl, lists_none7 _, lists_none7 _, hb⟩
theorem MlyR.mk {i n : Nat} {st : Int} {N O : List (List Int)} {A B : Option Addr} {c d : Nat} {w w' : World} (hN : N.length = n) (hO : O.length = n) (hn : n ≤ 128) (hi : i ≤ 1024) (hr : ∀ s, s < n → (N.getD s []).length = i) (hr2 : ∀ s, s < n → (O.getD s []).length = i) (h1 : OwnedL w' w.heap.size (.slice A n c) N) (h2 : OwnedL w' w.heap.size (.slice B n d) O) (hb : Below w.heap.size w w') :
    MlyR ((i, st, N, O), 0) w (.returned (.tuple #[.agg #[.int .i64 i, .int .i64 st, .slice A n c, .slice B n d], .int .i64 0])) w' := by
  refine ⟨A, c, B, d, by simp only [hN, hO], ?_, ?_, hb⟩
  · rw [← hN] at h1
    exact h1.lists_of (i := i) (by omega) hi (by rw [hN]; exact hr)
  · rw [← hO] at h2
    exact h2.lists_of (i := i) (by omega) hi (by rw [hO]; exact hr2)
def tomV (i st : Int) (nx : List (List Int)) (ac : List Bool) : (Int × Int × List (List Int) × List (List Int)) × Int := if tomE i st nx ac = 0 then ((i, st, nx, tomO nx ac i.toNat nx.length), 0) else ((0, 0, [], []), tomE i st nx ac)
theorem tomE_zero {i st : Int} {nx : List (List Int)} {ac : List Bool} (h : tomE i st nx ac = 0) : vldD i st nx ac = 0 ∧ i ≤ 64 := by
  unfold tomE at h
  by_cases h1 : vldD i st nx ac = 0
  · rw [if_pos h1] at h
    by_cases h2 : i ≤ 64
    · exact ⟨h1, h2⟩
    · rw [if_neg h2] at h; omega
  · rw [if_neg h1] at h; exact absurd h h1
section
variable (i st : Int) (A B : Option Addr) (n c m d : Nat) (nx : List (List Int)) (ac : List Bool) (w : World) (hx : Lists w A n nx) (ha : Bools w B m ac)
include hx ha
theorem ptomR : Calls Try.prog 31 #[.agg #[.int .i64 i, .int .i64 st, .slice A n c, .slice B m d]] w (MlyR (tomV i st nx ac) w) := by
  by_cases hv : tomE i st nx ac = 0
  · obtain ⟨hv1, h64⟩ := tomE_zero hv
    obtain ⟨i', st', n', rfl, rfl, hM⟩ := vldD_zero hv1
    obtain rfl : n = n' := by rw [← hx.1]; exact hM.nxl
    obtain rfl : n = m := by rw [← ha.1]; exact hM.acl.symm
    refine (dtom i' st' n A B c d nx ac w hx ha hM (by omega)).mono ?_
    rintro e w' ⟨A', c', B', d', rfl, h1, h2, h3⟩
    rw [show tomV (i' : Int) st' nx ac = (((i' : Int), (st' : Int), nx, tomO nx ac i' n), 0) by unfold tomV; rw [if_pos hv, hx.1, Int.toNat_natCast]]
    exact MlyR.mk hM.nxl (by simp [tomO]) hM.n2 hM.i2 (fun s hs => (hM.row s hs).1) (fun s hs => by rw [tomO_row hs]; simp) h1 h2 h3
  · refine (dtom_bad i st A B n c m d nx ac w hx ha hv).mono ?_
    rintro e w' ⟨rfl, h3⟩
    rw [show tomV i st nx ac = ((0, 0, [], []), tomE i st nx ac) from if_neg hv]
    exact MlyR.bad h3
theorem rtomR : Calls Try.prog 32 #[.agg #[.int .i64 i, .int .i64 st, .slice A n c, .slice B m d]] w (MlyR (tomV i st nx ac) w) := by
  by_cases hv : tomE i st nx ac = 0
  · obtain ⟨hv1, h64⟩ := tomE_zero hv
    obtain ⟨i', st', n', rfl, rfl, hM⟩ := vldD_zero hv1
    obtain rfl : n = n' := by rw [← hx.1]; exact hM.nxl
    obtain rfl : n = m := by rw [← ha.1]; exact hM.acl.symm
    refine (rtom7 i' st' n A B c d nx ac w hx ha hM (by omega)).mono ?_
    rintro e w' ⟨A', c', B', d', rfl, h1, h2, h3⟩
    rw [show tomV (i' : Int) st' nx ac = (((i' : Int), (st' : Int), nx, tomO nx ac i' n), 0) by unfold tomV; rw [if_pos hv, hx.1, Int.toNat_natCast]]
    exact MlyR.mk hM.nxl (by simp [tomO]) hM.n2 hM.i2 (fun s hs => (hM.row s hs).1) (fun s hs => by rw [tomO_row hs]; simp) h1 h2 h3
  · refine (rtom7_bad i st A B n c m d nx ac w hx ha hv).mono ?_
    rintro e w' ⟨rfl, h3⟩
    rw [show tomV i st nx ac = ((0, 0, [], []), tomE i st nx ac) from if_neg hv]
    exact MlyR.bad h3
end
/-- What automata of searches say, in the one form. -/
theorem AutP.toR {i : Nat} {F : Nat × Nat → Nat → Nat × Nat} {acc : Nat × Nat → Bool} {R : List Ent} {e : Ending} {w w' : World} (hi : i ≤ 1024) (h : AutP w.heap.size i (autN F i R) (autA acc R) R.length e w') (hb : Below w.heap.size w w') :
    AutR (if R.length ≤ 128 then (((i : Int), (0 : Int), autN F i R, autA acc R), 0) else ((0, 0, [], []), 11)) w e w' := by
  unfold AutP at h
  by_cases hl : R.length ≤ 128
  · rw [if_pos hl] at h ⊢
    obtain ⟨A', c', B', d', rfl, h1, h2⟩ := h
    exact AutR.mk (st := 0) (by simp [autN]) (by simp [autA]) hl hi (fun s hs => by rw [autN_row F i hs]; simp) h1 h2 hb
  · rw [if_neg hl] at h ⊢
    subst h
    exact AutR.bad hb
def fmV (i st : Int) (nx ot : List (List Int)) (b : Bool) : (Int × Int × List (List Int) × List Bool) × Int :=
  if fmE i st nx ot = 0 then (if (fmR i.toNat st.toNat nx.length nx ot b).length ≤ 128 then (((i.toNat : Int), (0 : Int), autN (fmF nx ot) i.toNat (fmR i.toNat st.toNat nx.length nx ot b), autA fmA (fmR i.toNat st.toNat nx.length nx ot b)), 0) else ((0, 0, [], []), 11)) else ((0, 0, [], []), fmE i st nx ot)
theorem fmE_zero {i st : Int} {nx ot : List (List Int)} (h : fmE i st nx ot = 0) : ∃ i' st' n : Nat, i = i' ∧ st = st' ∧ Mok i' st' n nx ot ∧ Bin ot := by
  unfold fmE at h
  by_cases h1 : vld i st nx ot = 0
  · rw [if_pos h1] at h
    obtain ⟨i', st', n, rfl, rfl, hM⟩ := vld_zero h1
    refine ⟨i', st', n, rfl, rfl, hM, ?_⟩
    by_cases h2 : Lib.maxOf (outL ot []) ≤ 1
    · exact Classical.not_not.mp fun hb => by have := hM.bin.1 hb; omega
    · rw [if_neg h2] at h; omega
  · rw [if_neg h1] at h; exact absurd h h1
section
variable (i st : Int) (A B : Option Addr) (n c m d : Nat) (nx ot : List (List Int)) (b : Bool) (w : World) (hx : Lists w A n nx) (ho : Lists w B m ot)
include hx ho
theorem pfmR : Calls Try.prog 33 #[.agg #[.int .i64 i, .int .i64 st, .slice A n c, .slice B m d], .bool b] w (AutR (fmV i st nx ot b) w) := by
  by_cases hv : fmE i st nx ot = 0
  · obtain ⟨i', st', n', rfl, rfl, hM, hb⟩ := fmE_zero hv
    obtain rfl : n = n' := by rw [← hx.1]; exact hM.nxl
    obtain rfl : m = n := by rw [← ho.1]; exact hM.otl
    refine (dfromm i' st' m A B c d nx ot b w hx ho hM hb).mono ?_
    rintro e w' ⟨h1, h2⟩
    unfold fmV
    rw [if_pos hv, hx.1, Int.toNat_natCast, Int.toNat_natCast]
    exact AutP.toR (by have := hM.i2; omega) h1 h2
  · refine (dfromm_bad i st A B n c m d nx ot b w hx ho hv).mono ?_
    rintro e w' ⟨rfl, h3⟩
    rw [show fmV i st nx ot b = ((0, 0, [], []), fmE i st nx ot) from if_neg hv]
    exact AutR.bad h3
theorem rfmR : Calls Try.prog 34 #[.agg #[.int .i64 i, .int .i64 st, .slice A n c, .slice B m d], .bool b] w (AutR (fmV i st nx ot b) w) := by
  by_cases hv : fmE i st nx ot = 0
  · obtain ⟨i', st', n', rfl, rfl, hM, hb⟩ := fmE_zero hv
    obtain rfl : n = n' := by rw [← hx.1]; exact hM.nxl
    obtain rfl : m = n := by rw [← ho.1]; exact hM.otl
    refine (rfm7 i' st' m A B c d nx ot b w hx ho hM hb).mono ?_
    rintro e w' ⟨h1, h2⟩
    unfold fmV
    rw [if_pos hv, hx.1, Int.toNat_natCast, Int.toNat_natCast]
    exact AutP.toR (by have := hM.i2; omega) h1 h2
  · refine (rfm7_bad i st A B n c m d nx ot b w hx ho hv).mono ?_
    rintro e w' ⟨rfl, h3⟩
    rw [show fmV i st nx ot b = ((0, 0, [], []), fmE i st nx ot) from if_neg hv]
    exact AutR.bad h3
end
end Go.Proofs.Ythjnghldedfdoaa
end
