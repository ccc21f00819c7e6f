/- Lemmas of the proofs of this seat, of the parts Rmp14, L14h. Conditions: none. -/
import Derived.Test.YtogcecfeofbbnaaNbn
import Derived.Test.YtogcecfeofbbnaaNah
import Derived.Test.YtogcecfeofbbnaaNbf
import Derived.Test.YtogcecfeofbbnaaNag
section
/- Map of the reference. -/
namespace Go.Proofs.Ytogcecfeofbbnaa
open Go.RowKit

instance (outs : List Int) (ot : List (List Int)) : Decidable (AllO outs ot) := by unfold AllO GoodO; exact inferInstance
def mpX (i1 st1 : Int) (nx ot : List (List Int)) (outs : List Int) : RsX :=
  if vld i1 st1 nx ot = 0 then (if AllO outs ot then (i1.toNat, trN nx i1.toNat (rch nx i1.toNat st1.toNat), trO (mpO outs ot) (rch nx i1.toNat st1.toNat), 0) else noX 2) else noX (vld i1 st1 nx ot)
theorem mpX_bad {i1 st1 : Int} {nx ot : List (List Int)} (outs : List Int) (h : ¬ vld i1 st1 nx ot = 0) : mpX i1 st1 nx ot outs = noX (vld i1 st1 nx ot) := by unfold mpX; rw [if_neg h]
/-- The outputs of the first rows, and of one row up to an input, are replaced. -/
def UpR (outs : List Int) (ot : List (List Int)) (i k : Nat) : Prop := ∀ s, s < k → ∀ a, a < i → GoodO outs (oN ot s a)
def UpA (outs : List Int) (ot : List (List Int)) (k x : Nat) : Prop := ∀ a, a < x → GoodO outs (oN ot k a)
theorem UpR.zero (outs : List Int) (ot : List (List Int)) (i : Nat) : UpR outs ot i 0 := fun _ h => absurd h (by omega)
theorem UpA.zero (outs : List Int) (ot : List (List Int)) (k : Nat) : UpA outs ot k 0 := fun _ h => absurd h (by omega)
theorem UpA.succ {outs : List Int} {ot : List (List Int)} {k x : Nat} (h : UpA outs ot k x) (h1 : GoodO outs (oN ot k x)) : UpA outs ot k (x + 1) := fun a ha => by
  by_cases e : a = x
  · subst e; exact h1
  · exact h a (by omega)
theorem UpR.succ {outs : List Int} {ot : List (List Int)} {i k : Nat} (h : UpR outs ot i k) (h1 : UpA outs ot k i) : UpR outs ot i (k + 1) := fun s hs => by
  by_cases e : s = k
  · subst e; exact h1
  · exact h s (by omega)
section
variable {i st n : Nat} {nx ot : List (List Int)} {outs : List Int}
theorem UpR.all (hM : Mok i st n nx ot) (h : UpR outs ot i n) : AllO outs ot := fun x hx => by
  obtain ⟨s, a, hs, ha, rfl⟩ := hM.flat_at hx
  exact h s hs a ha
theorem mpX_no (hM : Mok i st n nx ot) {s a : Nat} (hs : s < n) (ha : a < i) (h : ¬ GoodO outs (oN ot s a)) : mpX i st nx ot outs = noX 2 := by
  unfold mpX; rw [if_pos hM.vld, if_neg fun h9 => h (h9 _ (hM.in_flat hs ha))]
theorem mpX_ok (hM : Mok i st n nx ot) (h : AllO outs ot) : mpX i st nx ot outs = (i, trN nx i (rch nx i st), trO (mpO outs ot) (rch nx i st), 0) := by
  unfold mpX; rw [if_pos hM.vld, if_pos h, Int.toNat_natCast, Int.toNat_natCast]
end
set_option linter.unusedSimpArgs false in
set_option linter.unusedVariables false in
set_option maxHeartbeats 8000000 in
set_option maxRecDepth 100000 in
theorem rmap_all (i1 st1 : Int) (A B C : Option Addr) (n c m d L e : Nat) (nx ot : List (List Int)) (outs : List Int) (w : World) (hx : Lists w A n nx) (ho : Lists w B m ot) (hC : Ints w C L outs) :
    Calls Try.prog 42 #[.agg #[.int .i64 i1, .int .i64 st1, .slice A n c, .slice B m d], .slice C L e] w fun e w' => RsP (mpX i1 st1 nx ot outs) e w' ∧ Below w.heap.size w w' := by
  obtain ⟨w0, hw0, hb0, hG, hR, hz0⟩ := two_boxesR w i1 st1 A B n c m d
  obtain ⟨k0, k1, k2, k3, _⟩ := hG.cells
  have HX := Lib.hid (fun (W : World) (h : Below w0.heap.size w0 W) => (hx.below hb0).below h)
  have HO := Lib.hid (fun (W : World) (h : Below w0.heap.size w0 W) => (ho.below hb0).below h)
  have HC := Lib.hid (fun (W : World) (h : Below w0.heap.size w0 W) => (hC.below hb0).below h)
  have HL := Lib.hid hC.1
  have HW0 := Lib.hid hw0
  have HB0 := Lib.hid hb0
  have HG := Lib.hid hG
  have HR := Lib.hid hR
  have HZ := Lib.hid hz0
  clear hw0 hb0 hG hR hz0 hx ho hC
  rw [HW0.out] at k0 k1 k2 k3
  go_enter Try.func42, Try.ntmps42
  go_wp2_with fail
  rw [← HW0.out]
  refine (rvalid _ _ _ _ _ _ _ _ _ _ _ (HX.out _ (Below.refl _ _)) (HO.out _ (Below.refl _ _))).mono ?_
  rintro e1 w1 ⟨rfl, hbc⟩
  clear k0 k1 k2 k3
  by_cases hv : vld i1 st1 nx ot = 0
  case neg =>
    obtain ⟨x, hx0, hxe⟩ : ∃ x, ¬ x = 0 ∧ vld i1 st1 nx ot = x := ⟨_, hv, rfl⟩
    have HE := Lib.hid (show mpX i1 st1 nx ot outs = noX x by rw [mpX_bad outs hv, hxe])
    have t1 : (x != 0) = true := by simpa using hx0
    rw [hxe]
    clear hv hxe
    have HRr := Lib.hid (HR.out.on hbc)
    obtain ⟨q0, q1, q2, q3, z0, z1, z2, z3⟩ := HRr.out.cells
    have HBC := Lib.hid hbc
    clear hbc
    go_wp2_with fail
    (try rw [Exit.noGoto_ret])
    refine bodyPost_ret (results_mealy rfl _ _ (w.heap.size + 1) (.int .i64 0) (.int .i64 0) (.slice none 0 0) (.slice none 0 0) rfl (HRr.out.set4 _ _ _ _)) rfl ?_
    exact ⟨by rw [HE.out]; exact NoM.rs _ _, below_set4 (by omega) (bt HB0.out HBC.out) _ _ _ _⟩
  obtain ⟨i, st, k, rfl, rfl, hM⟩ := vld_zero hv
  obtain rfl : n = k := by rw [← hM.nxl]; exact (HX.out _ (Below.refl _ _)).1.symm
  obtain rfl : n = m := by rw [← hM.otl]; exact (HO.out _ (Below.refl _ _)).1
  rw [hv]
  have hi1 := hM.i1
  have hi2 := hM.i2
  have hn2 := hM.n2
  have hotl := hM.otl
  have HM := Lib.hid hM
  clear hv hM
  obtain ⟨wx, hwx⟩ : ∃ wx, wx = w1.alloc (.cells #[.int .i64 (i : Nat), .int .i64 (st : Nat), .slice A n c, .slice none 0 0] 24) := ⟨_, rfl⟩
  obtain ⟨gX, hgX⟩ : ∃ gX, gX = w1.heap.size := ⟨_, rfl⟩
  have hBX : Mblk wx gX (.int .i64 (i : Nat)) (.int .i64 (st : Nat)) (.slice A n c) (.slice none 0 0) := by rw [hwx, hgX]; exact mealy_box w1 _ _ _ _
  have hX0 : Below w0.heap.size w0 wx := by rw [hwx]; exact bt hbc (alloc_below _ _)
  have HBX := Lib.hid hBX
  have HX0 := Lib.hid hX0
  have HGX := Lib.hid (show w0.heap.size ≤ gX by rw [hgX]; exact hbc.size)
  have HGE := Lib.hid hgX
  have HWX := Lib.hid hwx
  obtain ⟨k0, k1, k2, k3, _⟩ := (HG.out.on hbc).cells
  obtain ⟨y0, y1, y2, y3, _⟩ := (HG.out.on hX0).cells
  rw [hwx] at y0 y1 y2 y3
  clear hwx hgX hBX hX0 hbc
  go_wp2_with fail
  rw [← HWX.out, ← HGE.out]
  clear k0 k1 k2 k3 y0 y1 y2 y3
  go_loopw [8] (fun v8 wr => ∃ (k : Nat) (AT : Option Addr) (cT : Nat), v8 = .int .i64 k ∧ k ≤ n ∧ Mblk wr gX (.int .i64 (i : Nat)) (.int .i64 (st : Nat)) (.slice A n c) (.slice AT k cT) ∧ OwnedL wr w0.heap.size (.slice AT k cT) ((mpO outs ot).take k) ∧ UpR outs ot i k ∧ Below w0.heap.size w0 wr) (fun v8 _ => n - (intOf v8).toNat)
  case atStart => exact ⟨0, none, 0, rfl, Nat.zero_le _, HBX.out, by simpa using OwnedL.nil _ _, UpR.zero _ _ _, HX0.out⟩
  case round =>
    obtain ⟨k, AT, cT, rfl, hk, hBk, hLk, hup, hbr⟩ := hrel
    obtain ⟨b0, b1, b2, b3, _⟩ := (HG.out.on hbr).cells
    have hmpl : (mpO outs ot).length = n := by unfold mpO; rw [List.length_map]; exact hotl
    have HUP := Lib.hid hup
    have HBK := Lib.hid hBk
    have HLK := Lib.hid hLk
    have HBW := Lib.hid hbr
    by_cases hkn : k < n
    · have d1 : decide ((k : Int) < (n : Int)) = true := decide_eq_true (by omega)
      have d1' : decide (k < n) = true := decide_eq_true hkn
      have hTk : ((mpO outs ot).take k).length = k := by rw [List.length_take]; omega
      have HTk := Lib.hid hTk
      obtain ⟨gT, oT', A3, n3, c3, rfl, lT, hdT, hrT⟩ := (HO.out _ (Below.refl _ _)).at_ hkn
      have hrow := HM.out.row k hkn
      obtain rfl : i = n3 := by rw [← hrT.1]; exact hrow.2.1.symm
      have HDT := Lib.hid hdT
      have HRT := Lib.hid hrT
      have HRL := Lib.hid hrow.2.1
      clear hBk hLk hup hbr hrow hdT hrT b0 b1 b2 hotl hmpl hTk
      go_wp2_with fail
      clear b3
      obtain ⟨wo, hwo⟩ : ∃ wo : World, wo = wr := ⟨_, rfl⟩
      rw [← hwo] at HBK HLK HBW ⊢
      clear hwo
      go_loopw [9, 10] (fun v9 v10 wr => ∃ (x : Nat) (A5 : Option Addr) (c5 : Nat), v10 = .int .i64 x ∧ x ≤ i ∧ v9 = .slice A5 x c5 ∧ Owned wr wo.heap.size (.slice A5 x c5) (pickL outs ((ot.getD k []).take x)) ∧ UpA outs ot k x ∧ Below wo.heap.size wo wr) (fun _ v10 _ => i - (intOf v10).toNat)
      case atStart => exact ⟨0, none, 0, rfl, Nat.zero_le _, rfl, by rw [pickL_zero]; exact Owned.nil _ _, UpA.zero _ _ _, Below.refl _ _⟩
      case round =>
        obtain ⟨x, A5, c5, rfl, hxj, rfl, hO, hua, hbr⟩ := hrel
        have hbc := bt HBW.out hbr
        obtain ⟨b0, b1, b2, b3, _⟩ := (HG.out.on hbc).cells
        have HOX := Lib.hid hO
        have HUA := Lib.hid hua
        have HBR2 := Lib.hid hbr
        by_cases hxl : x < i
        · have d2 : decide ((x : Int) < (i : Int)) = true := decide_eq_true (by omega)
          have d2' : decide (x < i) = true := decide_eq_true hxl
          obtain ⟨hT, kT, rfl, lhT, hvT⟩ := HRT.out.at_ hxl
          rw [show (ot.getD k []).getD x 0 = (oM ot k x : Int) from HM.out.oM_eq hkn hxl] at hvT
          have hzl := HM.out.oM_le hkn hxl
          obtain ⟨z, hz⟩ : ∃ z, z = oM ot k x := ⟨_, rfl⟩
          rw [← hz] at hvT hzl
          have HZZ := Lib.hid (show oN ot k x = (z : Int) by rw [hz]; exact HM.out.oM_eq hkn hxl)
          have y1 := (hbc.cell (p := ⟨gT, oT' + k, none⟩) lT).trans HDT.out
          have y2 := (hbc.cell (p := ⟨hT, kT + x, none⟩) lhT).trans hvT
          have u0 : (0 : Int) ≤ (k : Int) := by omega
          have u1 : (k : Int) < (n : Int) := by omega
          have u2 : (0 : Int) ≤ (x : Int) := by omega
          have u3 : (x : Int) < (i : Int) := by omega
          have hLn := HL.out
          clear hz hvT lhT
          by_cases hzL : z < L
          case neg =>
            have d3 : decide ((L : Int) ≤ (z : Int)) = true := by simp; omega
            have d3' : decide (L ≤ z) = true := by simp; omega
            have HE := Lib.hid (show mpX i st nx ot outs = noX 2 from mpX_no HM.out hkn hxl fun h => by have := h.1; rw [HZZ.out] at this; omega)
            clear hO hua hbr hzL
            have HRr := Lib.hid (HR.out.on hbc)
            obtain ⟨r0, r1, r2, r3, z0, z1, z2, z3⟩ := HRr.out.cells
            have HBC := Lib.hid hbc
            clear hbc
            go_wp2_with fail
            (try rw [Exit.noGoto_ret])
            refine bodyPost_ret (results_mealy rfl _ _ (w.heap.size + 1) (.int .i64 0) (.int .i64 0) (.slice none 0 0) (.slice none 0 0) rfl (HRr.out.set4 _ _ _ _)) rfl ?_
            exact ⟨by rw [HE.out]; exact NoM.rs _ _, below_set4 (by omega) (bt HB0.out HBC.out) _ _ _ _⟩
          obtain ⟨gC, oC, rfl, hgC, hcC⟩ := (HC.out _ (Below.refl _ _)).at_ hzL
          obtain ⟨y, hy⟩ : ∃ y, y = outs.getD z 0 := ⟨_, rfl⟩
          rw [← hy] at hcC
          have y3 := (hbc.cell (p := ⟨gC, oC + z, none⟩) hgC).trans hcC
          have HYY := Lib.hid hy
          have d3 : decide ((L : Int) ≤ (z : Int)) = false := by simp; omega
          have d3' : decide (L ≤ z) = false := by simp; omega
          have u4 : (0 : Int) ≤ (z : Int) := by omega
          have u5 : (z : Int) < (L : Int) := by omega
          clear hy hcC
          by_cases hy0 : y < 0
          · have d4 : decide (y < 0) = true := by simpa using hy0
            have HE := Lib.hid (show mpX i st nx ot outs = noX 2 from mpX_no HM.out hkn hxl fun h => by have := h.2.1; rw [HZZ.out, Int.toNat_natCast, ← HYY.out] at this; omega)
            clear hO hua hbr hzL hy0
            have HRr := Lib.hid (HR.out.on hbc)
            obtain ⟨r0, r1, r2, r3, z0, z1, z2, z3⟩ := HRr.out.cells
            have HBC := Lib.hid hbc
            clear hbc
            go_wp2_with fail
            (try rw [Exit.noGoto_ret])
            refine bodyPost_ret (results_mealy rfl _ _ (w.heap.size + 1) (.int .i64 0) (.int .i64 0) (.slice none 0 0) (.slice none 0 0) rfl (HRr.out.set4 _ _ _ _)) rfl ?_
            exact ⟨by rw [HE.out]; exact NoM.rs _ _, below_set4 (by omega) (bt HB0.out HBC.out) _ _ _ _⟩
          have d4 : decide (y < 0) = false := by simpa using hy0
          by_cases hy9 : 1048576 < y
          · have d5 : decide (1048576 < y) = true := by simpa using hy9
            have HE := Lib.hid (show mpX i st nx ot outs = noX 2 from mpX_no HM.out hkn hxl fun h => by have := h.2.2; rw [HZZ.out, Int.toNat_natCast, ← HYY.out] at this; omega)
            clear hO hua hbr hzL hy0 hy9
            have HRr := Lib.hid (HR.out.on hbc)
            obtain ⟨r0, r1, r2, r3, z0, z1, z2, z3⟩ := HRr.out.cells
            have HBC := Lib.hid hbc
            clear hbc
            go_wp2_with fail
            (try rw [Exit.noGoto_ret])
            refine bodyPost_ret (results_mealy rfl _ _ (w.heap.size + 1) (.int .i64 0) (.int .i64 0) (.slice none 0 0) (.slice none 0 0) rfl (HRr.out.set4 _ _ _ _)) rfl ?_
            exact ⟨by rw [HE.out]; exact NoM.rs _ _, below_set4 (by omega) (bt HB0.out HBC.out) _ _ _ _⟩
          have d5 : decide (1048576 < y) = false := by simpa using hy9
          have HUA2 := Lib.hid (hua.succ (show GoodO outs (oN ot k x) by rw [HZZ.out]; exact ⟨by omega, by rw [Int.toNat_natCast, ← HYY.out]; omega, by rw [Int.toNat_natCast, ← HYY.out]; omega⟩))
          have hxl3 : x < (ot.getD k []).length := by rw [HRL.out]; exact hxl
          obtain ⟨A7, c7, W1, r1, h24, bW1, _⟩ := run_append_oneB hO y hbr.size (by rw [pickL_takeLen (by omega)]; omega)
          rw [pickL_takeLen (by omega)] at r1 h24
          have HO2 := Lib.hid (show Owned W1 wo.heap.size (.slice A7 (x + 1) c7) (pickL outs ((ot.getD k []).take (x + 1))) by
            rw [← pickL_next hxl3, show (ot.getD k []).getD x 0 = (z : Int) from HZZ.out, Int.toNat_natCast, ← HYY.out]; exact h24)
          have HB2 := Lib.hid (hbr.trans bW1)
          clear hO hua hbr hzL hy0 hy9 h24 bW1 hbc
          go_wp2_with (at_builtin; refine Lib.wpList_append_run _ rfl _ _ _ _ rfl _ _ rfl rfl _ _ r1 ?_; clear r1)
          go_roundw
          case rel => exact ⟨x + 1, A7, c7, by go_num, by omega, rfl, HO2.out, HUA2.out, HB2.out⟩
          case measure => simp [intOf]; omega
        · obtain rfl : x = i := by omega
          have d2 : decide ((x : Int) < (x : Int)) = false := decide_eq_false (by omega)
          have d2' : decide (x < x) = false := decide_eq_false (by omega)
          have hall : (ot.getD k []).take x = ot.getD k [] := List.take_of_length_le (by rw [HRL.out]; exact Nat.le_refl _)
          rw [hall] at hO
          have hw0 := HBW.out.size
          have hB1 := HBK.out.on hbr
          have hL1 := HLK.out.kept hbr
          obtain ⟨AT2, cT2, W2, r2, o2, b2', kt, _, _⟩ := run_append_list hL1 (hO.lower hw0) hbc.size (by rw [HTk.out]; omega)
          rw [HTk.out] at r2 o2
          have hB2 := hB1.keptT (kt _ (by decide))
          obtain ⟨_, _, _, l3, _, _, _, f3⟩ := hB2.cells
          obtain ⟨_, _, _, m3, _⟩ := hB1.cells
          have HFN := Lib.hid (show Mblk (W2.setCell ⟨gX, 3, none⟩ (.slice AT2 (k + 1) cT2)) gX (.int .i64 (x : Nat)) (.int .i64 (st : Nat)) (.slice A n c) (.slice AT2 (k + 1) cT2) ∧ OwnedL (W2.setCell ⟨gX, 3, none⟩ (.slice AT2 (k + 1) cT2)) w0.heap.size (.slice AT2 (k + 1) cT2) ((mpO outs ot).take (k + 1)) ∧ Below w0.heap.size w0 (W2.setCell ⟨gX, 3, none⟩ (.slice AT2 (k + 1) cT2)) from
            ⟨hB2.set3 _, by
              have h1 := o2.keptT (KeptT.off (k := 3) hB2 (by decide) (.slice AT2 (k + 1) cT2)) (KeptT.off hB2 (by decide) _)
              rw [mpO_next (by rw [HM.out.otl]; exact hkn)] at h1
              exact h1, below_st HGX.out (hbc.trans b2')⟩)
          have HUR := Lib.hid (HUP.out.succ HUA.out)
          clear hO hua hbr hall hB1 hL1 o2 b2' kt hB2 hbc
          go_wp2_with (at_builtin; refine Lib.wpList_append_run _ rfl _ _ _ _ rfl _ _ rfl rfl _ _ r2 ?_; clear r2)
          go_roundw
          case rel => exact ⟨k + 1, AT2, cT2, by go_num, by omega, HFN.out.1, HFN.out.2.1, HUR.out, HFN.out.2.2⟩
          case measure => simp [intOf]; omega
    · obtain rfl : k = n := by omega
      have d1 : decide ((k : Int) < (k : Int)) = false := decide_eq_false (by omega)
      have d1' : decide (k < k) = false := decide_eq_false (by omega)
      have hAll := hup.all HM.out
      have HE := Lib.hid (mpX_ok HM.out hAll)
      rw [List.take_of_length_le (by omega)] at hLk
      have HMP := Lib.hid (HM.out.mpO hAll)
      have hlT := lists_ownedO HMP.out hLk
      have HT := Lib.hid (rtrim_ok i st k A AT c cT nx (mpO outs ot) wr (HX.out _ hbr) hlT HMP.out)
      obtain ⟨k0, k1, k2, k3, _⟩ := hBk.cells
      clear hBk hLk hup hbr hlT hAll hmpl hotl
      go_wp2_with fail
      refine HT.out.mono ?_
      rintro e5 w5 ⟨A5, c5, B5, d5, rfl, o5, p5, b5⟩
      have b05 := bt HBW.out b5
      have hzz := HZ.out
      have HR5 := Lib.hid (HR.out.on b05)
      obtain ⟨q0, q1, q2, q3, z0, z1, z2, z3⟩ := HR5.out.cells
      have HB05 := Lib.hid (bt HB0.out b05)
      have HO5 := Lib.hid o5
      have HP5 := Lib.hid p5
      clear b5 b05 o5 p5 k0 k1 k2 k3 b0 b1 b2 b3
      go_wp2_with fail
      refine bodyPost_ret (results_mealy rfl _ _ (w.heap.size + 1) _ _ _ _ rfl (HR5.out.set4 _ _ _ _)) rfl ?_
      refine ⟨?_, below_set4 (by omega) HB05.out _ _ _ _⟩
      rw [HE.out]
      exact TrmP.rs HMP.out ⟨A5, c5, B5, d5, rfl, HO5.out.keptT (HR5.out.set4' _ _ _ _ (by decide)) (HR5.out.set4' _ _ _ _ (by decide)), HP5.out.keptT (HR5.out.set4' _ _ _ _ (by decide)) (HR5.out.set4' _ _ _ _ (by decide))⟩
end Go.Proofs.Ytogcecfeofbbnaa
end

section
/- The law ComposeSingles: the walk. -/
namespace Go.Proofs.Ytogcecfeofbbnaa
open Go.RowKit

section
variable (i1 st1 : Int) (A B C : Option Addr) (n c m d L e : Nat) (nx ot : List (List Int)) (l : List Int) (w : World)
theorem prestrict_all (hx : Lists w A n nx) (ho : Lists w B m ot) (hC : Ints w C L l) :
    Calls Try.prog 39 #[.agg #[.int .i64 i1, .int .i64 st1, .slice A n c, .slice B m d], .slice C L e] w fun e w' => RsP (reX i1 st1 nx ot l) e w' ∧ Below w.heap.size w w' := by
  by_cases hv : vld i1 st1 nx ot = 0
  · obtain ⟨i, st, k, rfl, rfl, hM⟩ := vld_zero hv
    obtain rfl : n = k := by rw [← hM.nxl]; exact hx.1.symm
    obtain rfl : n = m := by rw [← hM.otl]; exact ho.1
    by_cases h : chcE i l = 0
    · refine (prestrict i st n A B C c d L e nx ot l w hx ho hC hM h).mono ?_
      rintro r w' ⟨h1, h2⟩
      rw [reX_ok hM h]
      obtain ⟨h3, h4⟩ := chcE_zero h
      exact ⟨h1.rs (hM.rs h3 h4), h2⟩
    · refine (prestrict_no i st n A B C c d L e nx ot l w hx ho hC hM h).mono ?_
      rintro r w' ⟨rfl, h2⟩
      rw [reX_no hM h]
      exact ⟨NoM.rs _ _, h2⟩
  · refine (prestrict_bad i1 st1 A B C n c m d L e nx ot w hx ho hv).mono ?_
    rintro r w' ⟨rfl, h2⟩
    rw [reX_bad l hv]
    exact ⟨NoM.rs _ _, h2⟩
theorem pmap_all (hx : Lists w A n nx) (ho : Lists w B m ot) (hC : Ints w C L l) :
    Calls Try.prog 41 #[.agg #[.int .i64 i1, .int .i64 st1, .slice A n c, .slice B m d], .slice C L e] w fun e w' => RsP (mpX i1 st1 nx ot l) e w' ∧ Below w.heap.size w w' := by
  by_cases hv : vld i1 st1 nx ot = 0
  · obtain ⟨i, st, k, rfl, rfl, hM⟩ := vld_zero hv
    obtain rfl : n = k := by rw [← hM.nxl]; exact hx.1.symm
    obtain rfl : n = m := by rw [← hM.otl]; exact ho.1
    refine (pmap i st n A B C c d L e nx ot l w hx ho hC hM).mono ?_
    rintro r w' ⟨h1, h2⟩
    rcases h1 with ⟨hA, h1⟩ | ⟨hA, rfl⟩
    · rw [mpX_ok hM hA]
      exact ⟨h1.rs (hM.mpO hA), h2⟩
    · rw [show mpX i st nx ot l = noX 2 by unfold mpX; rw [if_pos hM.vld, if_neg hA]]
      exact ⟨NoM.rs _ _, h2⟩
  · refine (pmap_bad i1 st1 A B C n c m d L e nx ot w hx ho hv).mono ?_
    rintro r w' ⟨rfl, h2⟩
    rw [mpX_bad l hv]
    exact ⟨NoM.rs _ _, h2⟩
end
set_option linter.unusedSimpArgs false in
set_option linter.unusedVariables false in
set_option maxHeartbeats 8000000 in
set_option maxRecDepth 100000 in
theorem singles14_walk (i1 st1 : Int) (A B : Option Addr) (n c m d : Nat) (nx ot : List (List Int)) (C0 C1 : Option Addr) (n0 c0 n1 c1 : Nat) (l0 l1 : List Int) (w : World) (hx1 : Lists w A n nx) (ho1 : Lists w B m ot) (hC0 : Ints w C0 n0 l0) (hC1 : Ints w C1 n1 l1) :
    Calls Try.prog 9 #[.agg #[.int .i64 i1, .int .i64 st1, .slice A n c, .slice B m d], .slice C0 n0 c0, .slice C1 n1 c1] w fun e w' => e = .returned (.bool true) ∧ Below w.heap.size w w' := by
  obtain ⟨w0, hw0⟩ : ∃ w0, w0 = w.alloc (.cells #[.int .i64 i1, .int .i64 st1, .slice A n c, .slice B m d] 24) := ⟨_, rfl⟩
  have hb0 : Below w.heap.size w w0 := by rw [hw0]; exact alloc_below _ _
  have hG : Mblk w0 w.heap.size (.int .i64 i1) (.int .i64 st1) (.slice A n c) (.slice B m d) := by rw [hw0]; exact mealy_box w _ _ _ _
  have HW0 := Lib.hid hw0
  have HB0 := Lib.hid hb0
  have HX := Lib.hid (fun (W : World) (h : Below w0.heap.size w0 W) => (hx1.below hb0).below h)
  have HO := Lib.hid (fun (W : World) (h : Below w0.heap.size w0 W) => (ho1.below hb0).below h)
  have HC0 := Lib.hid (fun (W : World) (h : Below w0.heap.size w0 W) => (hC0.below hb0).below h)
  have HC1 := Lib.hid (fun (W : World) (h : Below w0.heap.size w0 W) => (hC1.below hb0).below h)
  have hz0 : w0.heap.size = w.heap.size + 1 := by rw [hw0]; simp
  have HG := Lib.hid (fun (W : World) (h : Below w0.heap.size w0 W) => hG.kept h (show w.heap.size < w0.heap.size by omega))
  have hbc := Below.refl w0.heap.size w0
  obtain ⟨k0, k1, k2, k3, _⟩ := hG.cells
  rw [HW0.out] at k0 k1 k2 k3
  clear hw0 hb0 hG hz0 hx1 ho1 hC0 hC1
  go_enter Try.func9, Try.ntmps9
  go_wp2_with fail
  rw [← HW0.out]
  refine (rgreat10 _ _ _ _ _ _ _ _ _ _ _ (HX.out _ hbc) (HO.out _ hbc)).mono ?_
  rintro e w1 ⟨b1, rfl, hs1, a1⟩
  have hbc := bt hbc a1
  clear k0 k1 k2 k3 a1 hs1
  cases b1
  case true =>
    go_wp2_with fail
    refine (awake14 _).mono ?_
    rintro e wz ⟨rfl, az⟩
    have hbz := bt HB0.out (bt hbc az)
    go_wp2_with fail
    go_ret
    exact ⟨rfl, hbz⟩
  by_cases hn0 : 100 < n0
  case pos =>
    have t1 : decide ((100 : Int) < (n0 : Int)) = true := by simp; omega
    have t2 : decide (100 < n0) = true := by simp; omega
    go_wp2_with fail
    refine (awake14 _).mono ?_
    rintro e wz ⟨rfl, az⟩
    have hbz := bt HB0.out (bt hbc az)
    go_wp2_with fail
    go_ret
    exact ⟨rfl, hbz⟩
  have t1 : decide ((100 : Int) < (n0 : Int)) = false := by simp; omega
  have t2 : decide (100 < n0) = false := by simp; omega
  by_cases hn1 : 100 < n1
  case pos =>
    have t3 : decide ((100 : Int) < (n1 : Int)) = true := by simp; omega
    have t4 : decide (100 < n1) = true := by simp; omega
    go_wp2_with fail
    refine (awake14 _).mono ?_
    rintro e wz ⟨rfl, az⟩
    have hbz := bt HB0.out (bt hbc az)
    go_wp2_with fail
    go_ret
    exact ⟨rfl, hbz⟩
  have t3 : decide ((100 : Int) < (n1 : Int)) = false := by simp; omega
  have t4 : decide (100 < n1) = false := by simp; omega
  obtain ⟨k0, k1, k2, k3, _⟩ := (HG.out _ hbc).cells
  go_wp2_with fail
  clear k0 k1 k2 k3 t1 t2 t3 t4
  obtain ⟨⟨pi, pN, pT, pv⟩, hP⟩ : ∃ P, P = reX i1 st1 nx ot l0 := ⟨_, rfl⟩
  obtain ⟨⟨qi, qN, qT, qv⟩, hQ⟩ : ∃ P, P = mpX i1 st1 nx ot l1 := ⟨_, rfl⟩
  have HP := Lib.hid hP
  have HQ := Lib.hid hQ
  have t1 : (pv == pv) = true := by simp
  have t2 : (qv == qv) = true := by simp
  clear hP hQ
  refine (prestrict_all i1 st1 A B C0 n c m d n0 c0 nx ot l0 w1 (HX.out _ hbc) (HO.out _ hbc) (HC0.out _ hbc)).mono ?_
  rintro e v5 ⟨hr, a5⟩
  rw [← HP.out] at hr
  obtain ⟨A5, c5, B5, d5, rfl, lN, lT⟩ := hr
  dsimp only at lN lT ⊢
  obtain ⟨X5, hX⟩ : ∃ X, X = v5.alloc (.cells #[.int .i64 pi, .int .i64 0, .slice A5 pN.length c5, .slice B5 pT.length d5] 24) := ⟨_, rfl⟩
  have bx : Below v5.heap.size v5 X5 := by rw [hX]; exact alloc_below _ _
  have HM5 := Lib.hid (show Mblk X5 v5.heap.size (.int .i64 pi) (.int .i64 0) (.slice A5 pN.length c5) (.slice B5 pT.length d5) by rw [hX]; exact mealy_box v5 _ _ _ _)
  have HN5 := Lib.hid (lN.below bx)
  have HT5 := Lib.hid (lT.below bx)
  have hbc := bt (bt hbc a5) bx
  have hb5 := Below.refl X5.heap.size X5
  have HX5 := Lib.hid hX
  obtain ⟨k0, k1, k2, k3, _⟩ := (HG.out _ hbc).cells
  rw [hX] at k0 k1 k2 k3
  clear hX a5 lN lT bx
  go_wp2_with fail
  rw [← HX5.out]
  clear k0 k1 k2 k3
  refine (rrestrict_all i1 st1 A B C0 n c m d n0 c0 nx ot l0 X5 (HX.out _ hbc) (HO.out _ hbc) (HC0.out _ hbc) (by omega)).mono ?_
  rintro e v6 ⟨hr, a6⟩
  rw [← HP.out] at hr
  obtain ⟨A6, c6, B6, d6, rfl, lN, lT⟩ := hr
  dsimp only at lN lT ⊢
  obtain ⟨X6, hX⟩ : ∃ X, X = v6.alloc (.cells #[.int .i64 pi, .int .i64 0, .slice A6 pN.length c6, .slice B6 pT.length d6] 24) := ⟨_, rfl⟩
  have bx : Below v6.heap.size v6 X6 := by rw [hX]; exact alloc_below _ _
  have HM6 := Lib.hid (show Mblk X6 v6.heap.size (.int .i64 pi) (.int .i64 0) (.slice A6 pN.length c6) (.slice B6 pT.length d6) by rw [hX]; exact mealy_box v6 _ _ _ _)
  have HN6 := Lib.hid (lN.below bx)
  have HT6 := Lib.hid (lT.below bx)
  have hbc := bt (bt hbc a6) bx
  have hb5 := bt (bt hb5 a6) bx
  have hb6 := Below.refl X6.heap.size X6
  have HX6 := Lib.hid hX
  obtain ⟨k0, k1, k2, k3, _⟩ := (HG.out _ hbc).cells
  rw [hX] at k0 k1 k2 k3
  clear hX a6 lN lT bx
  go_wp2_with fail
  rw [← HX6.out]
  clear k0 k1 k2 k3
  refine (pmap_all i1 st1 A B C1 n c m d n1 c1 nx ot l1 X6 (HX.out _ hbc) (HO.out _ hbc) (HC1.out _ hbc)).mono ?_
  rintro e v7 ⟨hr, a7⟩
  rw [← HQ.out] at hr
  obtain ⟨A7, c7, B7, d7, rfl, lN, lT⟩ := hr
  dsimp only at lN lT ⊢
  obtain ⟨X7, hX⟩ : ∃ X, X = v7.alloc (.cells #[.int .i64 qi, .int .i64 0, .slice A7 qN.length c7, .slice B7 qT.length d7] 24) := ⟨_, rfl⟩
  have bx : Below v7.heap.size v7 X7 := by rw [hX]; exact alloc_below _ _
  have HM7 := Lib.hid (show Mblk X7 v7.heap.size (.int .i64 qi) (.int .i64 0) (.slice A7 qN.length c7) (.slice B7 qT.length d7) by rw [hX]; exact mealy_box v7 _ _ _ _)
  have HN7 := Lib.hid (lN.below bx)
  have HT7 := Lib.hid (lT.below bx)
  have hbc := bt (bt hbc a7) bx
  have hb5 := bt (bt hb5 a7) bx
  have hb6 := bt (bt hb6 a7) bx
  have hb7 := Below.refl X7.heap.size X7
  have HX7 := Lib.hid hX
  obtain ⟨k0, k1, k2, k3, _⟩ := (HG.out _ hbc).cells
  rw [hX] at k0 k1 k2 k3
  clear hX a7 lN lT bx
  go_wp2_with fail
  rw [← HX7.out]
  clear k0 k1 k2 k3
  refine (rmap_all i1 st1 A B C1 n c m d n1 c1 nx ot l1 X7 (HX.out _ hbc) (HO.out _ hbc) (HC1.out _ hbc)).mono ?_
  rintro e v8 ⟨hr, a8⟩
  rw [← HQ.out] at hr
  obtain ⟨A8, c8, B8, d8, rfl, lN, lT⟩ := hr
  dsimp only at lN lT ⊢
  obtain ⟨X8, hX⟩ : ∃ X, X = v8.alloc (.cells #[.int .i64 qi, .int .i64 0, .slice A8 qN.length c8, .slice B8 qT.length d8] 24) := ⟨_, rfl⟩
  have bx : Below v8.heap.size v8 X8 := by rw [hX]; exact alloc_below _ _
  have HM8 := Lib.hid (show Mblk X8 v8.heap.size (.int .i64 qi) (.int .i64 0) (.slice A8 qN.length c8) (.slice B8 qT.length d8) by rw [hX]; exact mealy_box v8 _ _ _ _)
  have HN8 := Lib.hid (lN.below bx)
  have HT8 := Lib.hid (lT.below bx)
  have hbc := bt (bt hbc a8) bx
  have hb5 := bt (bt hb5 a8) bx
  have hb6 := bt (bt hb6 a8) bx
  have hb7 := bt (bt hb7 a8) bx
  have hb8 := Below.refl X8.heap.size X8
  have HX8 := Lib.hid hX
  obtain ⟨k0, k1, k2, k3, _⟩ := (HM5.out.on hb5).cells
  obtain ⟨l0', l1', l2', l3', _⟩ := (HM6.out.on hb6).cells
  rw [hX] at k0 k1 k2 k3 l0' l1' l2' l3'
  clear hX a8 lN lT bx
  go_wp2_with fail
  rw [← HX8.out]
  clear k0 k1 k2 k3
  clear l0' l1' l2' l3'
  refine (rsamem pi 0 pi 0 A5 B5 A6 B6 pN.length c5 pT.length d5 pN.length c6 pT.length d6 pN pT pN pT true X8 (HN5.out.below hb5) (HT5.out.below hb5) (HN6.out.below hb6) (HT6.out.below hb6) (by simp)).mono ?_
  rintro e y0 ⟨rfl, a0⟩
  have hbc := bt hbc a0
  have hb7 := bt hb7 a0
  have hb8 := bt hb8 a0
  obtain ⟨k0, k1, k2, k3, _⟩ := (HM7.out.on hb7).cells
  obtain ⟨l0', l1', l2', l3', _⟩ := (HM8.out.on hb8).cells
  clear a0
  go_wp2_with fail
  clear k0 k1 k2 k3 l0' l1' l2' l3'
  refine (rsamem qi 0 qi 0 A7 B7 A8 B8 qN.length c7 qT.length d7 qN.length c8 qT.length d8 qN qT qN qT true y0 (HN7.out.below hb7) (HT7.out.below hb7) (HN8.out.below hb8) (HT8.out.below hb8) (by simp)).mono ?_
  rintro e y1 ⟨rfl, a1⟩
  have hbc := bt hbc a1
  clear a1
  go_wp2_with fail
  refine (awake14 _).mono ?_
  rintro e wz ⟨rfl, az⟩
  have hbz := bt HB0.out (bt hbc az)
  go_wp2_with fail
  go_ret
  exact ⟨rfl, hbz⟩
end Go.Proofs.Ytogcecfeofbbnaa
end
