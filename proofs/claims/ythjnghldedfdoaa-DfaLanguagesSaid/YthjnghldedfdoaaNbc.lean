/- Lemmas of the proofs of this seat, of the parts Dcow. Conditions: none. -/
import Derived.Test.YthjnghldedfdoaaNbw
import Derived.Test.YthjnghldedfdoaaNah
import Derived.Test.YthjnghldedfdoaaNai
section
/- The law DfaCounts. -/
namespace Go.Proofs.Ythjnghldedfdoaa
open Go.RowKit

/-- The first number below k for which P holds, or -1. -/
def Fst7 (P : Nat → Prop) (k : Nat) (f : Int) : Prop := (f = -1 ∧ ∀ j, j < k → ¬ P j) ∨ ∃ g : Nat, f = g ∧ g < k ∧ P g ∧ ∀ j, j < g → ¬ P j
theorem Fst7.zero (P : Nat → Prop) : Fst7 P 0 (-1) := .inl ⟨rfl, fun j h => absurd h (by omega)⟩
theorem Fst7.skip {P : Nat → Prop} {k : Nat} {f : Int} (h : Fst7 P k f) (hk : ¬ P k) : Fst7 P (k + 1) f := by
  rcases h with ⟨e, h⟩ | ⟨g, e, h1, h2, h3⟩
  · exact .inl ⟨e, fun j hj => by
      by_cases ej : j = k
      · subst ej; exact hk
      · exact h j (by omega)⟩
  · exact .inr ⟨g, e, by omega, h2, h3⟩
theorem Fst7.take {P : Nat → Prop} {k : Nat} (h : Fst7 P k (-1)) (hk : P k) : Fst7 P (k + 1) k := by
  rcases h with ⟨_, h⟩ | ⟨g, e, _⟩
  · exact .inr ⟨k, rfl, by omega, hk, h⟩
  · omega
theorem Fst7.keep {P : Nat → Prop} {k : Nat} {f : Int} (h : Fst7 P k f) (hf : 0 ≤ f) : Fst7 P (k + 1) f := by
  rcases h with ⟨e, _⟩ | ⟨g, e, h1, h2, h3⟩
  · omega
  · exact .inr ⟨g, e, by omega, h2, h3⟩
def cnP (i st n : Nat) (nx : List (List Int)) (ac : List Bool) (k : Nat) : Prop := 0 < (cnts nx ac i n k).getD st 0
theorem cnt_small {i st n : Nat} {nx : List (List Int)} {ac : List Bool} (h : Dok i st n nx ac) (hi : i ≤ 3) {k : Nat} (hk : k ≤ 30) :
    ∃ x y : Nat, cntR nx ac i n st k = ((x : Int), 0) ∧ cntR nx (ac.map fun b => !b) i n st k = ((y : Int), 0) ∧ x + y = i ^ k ∧ i ^ k ≤ 617673396283947 / 3 ∧ (0 < x ↔ cnP i st n nx ac k) := by
  have h1 := cnts_sum h hi k st (by omega) h.st
  have h2 : i ^ k ≤ 205891132094649 := Nat.le_trans (Nat.pow_le_pow_left hi k) (Nat.le_trans (Nat.pow_le_pow_right (by decide) hk) (by decide))
  refine ⟨(cnts nx ac i n k).getD st 0, (cnts nx (ac.map fun b => !b) i n k).getD st 0, ?_, ?_, h1, by omega, Iff.rfl⟩
  · unfold cntR
    rw [if_pos ⟨by omega, by omega⟩, Int.toNat_natCast, if_pos (by omega)]
  · unfold cntR
    rw [if_pos ⟨by omega, by omega⟩, Int.toNat_natCast, if_pos (by omega)]
/-- The shortest accepted word and the first length with an accepted word. -/
theorem short_first {i st n : Nat} {nx : List (List Int)} {ac : List Bool} (h : Dok i st n nx ac) {m : Nat} {f : Int} (hf : Fst7 (cnP i st n nx ac) m f) :
    (fwR (fun p => aN ac p.1) (cmE i st n st n nx nx) = ([], false) ∧ f = -1) ∨
    ∃ w, fwR (fun p => aN ac p.1) (cmE i st n st n nx nx) = (w, true) ∧ Wd i w ∧ w.length ≤ 128 ∧ aN ac (runS nx st w) = true ∧ (0 ≤ f → (w.length : Int) = f) := by
  have hrun : ∀ u, (runF (bothF nx nx) (st, st) u).1 = runS nx st u := fun u => by rw [both_run]
  rcases fw_ways (cm_ord h h) (fun p => aN ac p.1) with ⟨h1, h2⟩ | ⟨w, h1, h2, h3, h4, h5⟩
  · refine .inl ⟨h1, ?_⟩
    rcases hf with ⟨e, _⟩ | ⟨g, _, _, hg, _⟩
    · exact e
    · obtain ⟨u, hu, _, ha⟩ := (cnts_pos h g st h.st).mp hg
      have := h2 u hu
      rw [hrun] at this
      rw [this] at ha
      exact absurd ha (by decide)
  · rw [hrun] at h4
    have hl := diag_len h
    have hn := h.n2
    refine .inr ⟨w, h1, h2, by omega, h4, fun h0 => ?_⟩
    rcases hf with ⟨e, _⟩ | ⟨g, e, _, hg, hmin⟩
    · omega
    · obtain ⟨u, hu, hul, ha⟩ := (cnts_pos h g st h.st).mp hg
      have h6 := h5 u hu (by rw [hrun]; exact ha)
      have h7 : ¬ u.length < w.length := fun hlt => h6 (.inl hlt)
      have h8 : ¬ w.length < g := fun hlt => hmin _ hlt ((cnts_pos h w.length st h.st).mpr ⟨w, h2, rfl, h4⟩)
      omega
theorem acc_word {i st n : Nat} {nx : List (List Int)} {ac : List Bool} (h : Dok i st n nx ac) {u : List Int} (hu : Wd i u) (hl : u.length ≤ 1024) : accD i st nx ac u = (aN ac (runS nx st u), 0) := by
  have h1 := h.i1
  have h2 := h.i2
  have hc : chk u i = 0 := chk_ok ⟨by omega, by omega⟩ (by omega) fun m hm => by
    rw [List.getD_eq_getElem?_getD, List.getElem?_eq_getElem hm]
    exact hu _ (List.getElem_mem hm)
  unfold accD
  rw [if_pos h.vld, if_pos hc, Int.toNat_natCast]
theorem Dok.compl {i st n : Nat} {nx : List (List Int)} {ac : List Bool} (h : Dok i st n nx ac) : Dok i st n nx (ac.map fun b => !b) := ⟨h.i1, h.i2, h.n1, h.n2, h.st, h.nxl, by rw [List.length_map]; exact h.acl, h.row⟩
set_option maxHeartbeats 8000000 in
set_option maxRecDepth 100000 in
theorem counts7_walk (i0 st0 : Int) (A0 B0 : Option Addr) (n0 c0 m0 e0 : Nat) (nx0 : List (List Int)) (ac0 : List Bool) (v : Nat) (w : World) (wn0 : Lists w A0 n0 nx0) (wo0 : BoolsL w B0 m0 ac0) (hv255 : v ≤ 255) :
    Calls Try.prog 8 #[.agg #[.int .i64 i0, .int .i64 st0, .slice A0 n0 c0, .slice B0 m0 e0], .int .u8 v] w fun e w' => e = .returned (.bool true) ∧ Below w.heap.size w w' := by
  obtain ⟨w0, hw0⟩ : ∃ w0, w0 = w.alloc (.cells #[.int .i64 i0, .int .i64 st0, .slice A0 n0 c0, .slice B0 m0 e0] 25) := ⟨_, rfl⟩
  have hb0 : Below w.heap.size w w0 := by rw [hw0]; exact alloc_below _ _
  have hB : Dblk w0 w.heap.size (.int .i64 i0) (.int .i64 st0) (.slice A0 n0 c0) (.slice B0 m0 e0) := by rw [hw0]; exact dfa_box _ _ _ _ _
  obtain ⟨k0, k1, k2, k3, _⟩ := hB.cells
  have HW0 := Lib.hid hw0
  have HBX := Lib.hid (fun (W : World) (h : Below w0.heap.size w0 W) => hB.on9 h)
  have HX := Lib.hid (fun (W : World) (h : Below w0.heap.size w0 W) => (wn0.below hb0).below h)
  have HBA := Lib.hid (fun (W : World) (h : Below w0.heap.size w0 W) (hm : m0 ≤ 20) => ((wo0.bools hm).below hb0).below h)
  have HB0 := Lib.hid hb0
  have hm47 := wo0.2.1
  have HLA := Lib.hid wo0.1
  clear hw0 hB hb0
  rw [HW0.out] at k0 k1 k2 k3
  go_enter Try.func8, Try.ntmps8
  go_wp2_with fail
  rw [← HW0.out]
  refine (rgreat7 _ _ _ _ _ _ _ _ _ _ (HX.out _ (Below.refl _ _)) hm47).mono ?_
  rintro e wa ⟨b, rfl, hgr, ba⟩
  have HBa := Lib.hid ba
  clear k0 k1 k2 k3
  obtain ⟨k0, k1, k2, k3, _⟩ := (HBX.out _ ba).cells
  clear ba
  cases b with
  | true =>
    clear hgr
    go_wp2_with fail
    refine (awake7 _).mono ?_
    rintro e wz ⟨rfl, bz⟩
    go_wp2_with fail
    go_ret
    exact ⟨rfl, bt HB0.out (bt HBa.out bz)⟩
  | false =>
    obtain ⟨hn12, hm20, _⟩ := hgr rfl
    clear hgr
    by_cases hl : 3 < i0
    · have d1 : decide ((3 : Int) < i0) = true := decide_eq_true (by omega)
      clear hl
      go_wp2_with fail
      refine (awake7 _).mono ?_
      rintro e wz ⟨rfl, bz⟩
      go_wp2_with fail
      go_ret
      exact ⟨rfl, bt HB0.out (bt HBa.out bz)⟩
    · have d1 : decide ((3 : Int) < i0) = false := decide_eq_false (by omega)
      go_wp2_with fail
      refine (pvalD _ _ _ _ _ _ _ _ _ _ _ (HX.out _ HBa.out) HLA.out (by omega)).mono ?_
      rintro e wb ⟨rfl, bb⟩
      have HBb := Lib.hid (bt HBa.out bb)
      clear k0 k1 k2 k3 bb
      obtain ⟨k0, k1, k2, k3, _⟩ := (HBX.out _ HBb.out).cells
      by_cases hv : vldD i0 st0 nx0 ac0 = 0
      · rw [hv]
        obtain ⟨i, st, n, rfl, rfl, hM⟩ := vldD_zero hv
        obtain rfl : n0 = n := by rw [← wn0.1]; exact hM.nxl
        obtain rfl : n0 = m0 := by rw [← wo0.1]; exact hM.acl.symm
        have HM := Lib.hid hM
        have hi3 : i ≤ 3 := by omega
        have hst := hM.st
        have hi1 := hM.i1
        clear hv hM d1 hl
        go_wp2_with fail
        refine (dcompl i st n0 _ _ _ _ nx0 ac0 _ (HX.out _ HBb.out) (HBA.out _ HBb.out hm20) HM.out).mono ?_
        rintro e wd ⟨Ad, cd, Bd, dd, rfl, xd, ad, bd⟩
        have xd := xd.lists_of (i := i) (by rw [HM.out.nxl]; omega) (by omega) (fun s hs => (HM.out.row s (by rw [HM.out.nxl] at hs; exact hs)).1)
        have ad := ad.bools HM.out.compl.acl (by omega)
        obtain ⟨W5, hW5⟩ : ∃ W5, W5 = wd.alloc (.cells #[.int .i64 i, .int .i64 st, .slice Ad n0 cd, .slice Bd n0 dd] 25) := ⟨_, rfl⟩
        have b5 : Below wd.heap.size wd W5 := by rw [hW5]; exact alloc_below _ _
        have m5 : AutB W5 wd.heap.size i st Ad n0 cd Bd dd nx0 (ac0.map fun b => !b) := by rw [hW5]; exact AutB.new xd ad
        have hb5 := bt (bt HBb.out bd) b5
        have HB5 := Lib.hid hb5
        have HH5 := Lib.hid hW5
        have HM5 := Lib.hid (fun (W : World) (h : Below W5.heap.size W5 W) => m5.on h)
        have hmod : v % 31 ≤ 30 := by omega
        clear k0 k1 k2 k3 hW5 b5 m5 hb5 bd xd ad
        go_wp2_with fail
        rw [← HH5.out]
        go_loopw [7, 8, 9, 10, 11, 12, 13] (fun v7 v8 v9 _ _ _ _ wr => ∃ (k : Nat) (f : Int), k ≤ v % 31 + 1 ∧ v7 = .int .i64 (i ^ k : Nat) ∧ v8 = .int .i64 f ∧ v9 = .int .i64 k ∧ Fst7 (cnP i st n0 nx0 ac0) k f ∧ -1 ≤ f ∧ f ≤ 31 ∧ Below W5.heap.size W5 wr) (fun _ _ v9 _ _ _ _ _ => 31 - (intOf v9).toNat)
        case atStart => exact ⟨0, -1, by omega, by simp, rfl, rfl, Fst7.zero _, by omega, by omega, Below.refl _ _⟩
        case round =>
          obtain ⟨k, f, hk, rfl, rfl, rfl, hf, hf1, hf2, hbr⟩ := hrel
          have HF := Lib.hid hf
          have HBR := Lib.hid hbr
          have hbw := bt HB5.out hbr
          have HBW := Lib.hid hbw
          obtain ⟨k0, k1, k2, k3, _⟩ := (HBX.out _ hbw).cells
          obtain ⟨j0, j1, j2, j3, _⟩ := (HM5.out _ hbr).1.cells
          clear hf hbr hbw
          by_cases hlt : k ≤ v % 31
          · obtain ⟨x, y, hx, hy, hxy, hp, hpos⟩ := cnt_small HM.out hi3 (show k ≤ 30 by omega)
            have HXE := Lib.hid hx
            have HYE := Lib.hid hy
            have HPOS := Lib.hid hpos
            have HPS := Lib.hid (show i ^ (k + 1) = i ^ k * i by rw [Nat.pow_succ])
            obtain ⟨r, hr⟩ : ∃ r, r = i ^ k * i := ⟨_, rfl⟩
            have hr2 : r ≤ 617673396283947 := by
              rw [hr]
              have := Nat.mul_le_mul hp hi3
              omega
            rw [← hr] at HPS
            have hmul : ((i ^ k : Nat) : Int) * (i : Int) = (r : Int) := by rw [hr, Int.natCast_mul]
            clear hx hy hpos hr
            generalize i ^ k = p at *
            have hx9 : x ≤ 205891132094649 := by omega
            have hy9 : y ≤ 205891132094649 := by omega
            have d1 : decide ((1125899906842624 : Int) < (x : Int)) = false := decide_eq_false (by omega)
            have d2 : decide ((1125899906842624 : Int) < (y : Int)) = false := decide_eq_false (by omega)
            have d3 : (((x : Int) + (y : Int)) != (p : Int)) = false := by
              rw [show (x : Int) + (y : Int) = (p : Int) by omega]; simp
            have HXY := Lib.hid hxy
            clear hxy
            go_wp2_with fail
            refine (dcount i st n0 k _ _ _ _ nx0 ac0 _ (HX.out _ HBW.out) (HBA.out _ HBW.out hm20) HM.out).mono ?_
            rintro e we ⟨rfl, b7⟩
            rw [HXE.out]
            have hb7 := bt HBW.out b7
            have hb7' := bt HBR.out b7
            have m5 := HM5.out _ hb7'
            have HB7 := Lib.hid hb7
            have HB7' := Lib.hid hb7'
            clear k0 k1 k2 k3 j0 j1 j2 j3 b7
            obtain ⟨k0, k1, k2, k3, _⟩ := (HBX.out _ hb7).cells
            obtain ⟨j0, j1, j2, j3, _⟩ := m5.1.cells
            clear hb7 hb7'
            go_wp2_with fail
            refine (dcount i st n0 k _ _ _ _ nx0 _ _ m5.2.1 m5.2.2 HM.out.compl).mono ?_
            rintro e wf ⟨rfl, b8⟩
            rw [HYE.out]
            have hb8 := bt HB7.out b8
            have HB8 := Lib.hid hb8
            have HB8' := Lib.hid (bt HB7'.out b8)
            clear k0 k1 k2 k3 j0 j1 j2 j3 b8 m5
            obtain ⟨k0, k1, k2, k3, _⟩ := (HBX.out _ hb8).cells
            clear hb8
            by_cases hx0 : 0 < x
            · have t1 : decide ((0 : Int) < (x : Int)) = true := decide_eq_true (by omega)
              have HP := Lib.hid (HPOS.out.mp hx0)
              by_cases hf0 : f < 0
              · have t2 : decide (f < 0) = true := decide_eq_true hf0
                obtain rfl : f = -1 := by omega
                have HFN := Lib.hid (HF.out.take HP.out)
                go_wp2_with fail
                go_roundw
                case rel => exact ⟨k + 1, k, by omega, by rw [HPS.out], rfl, by go_num, HFN.out, by omega, by omega, HB8'.out⟩
                case measure => simp [intOf]; omega
              · have t2 : decide (f < 0) = false := decide_eq_false hf0
                have HFN := Lib.hid (HF.out.keep (by omega))
                go_wp2_with fail
                go_roundw
                case rel => exact ⟨k + 1, f, by omega, by rw [HPS.out], rfl, by go_num, HFN.out, by omega, by omega, HB8'.out⟩
                case measure => simp [intOf]; omega
            · have t1 : decide ((0 : Int) < (x : Int)) = false := decide_eq_false (by omega)
              have HFN := Lib.hid (HF.out.skip fun h => hx0 (HPOS.out.mpr h))
              go_wp2_with fail
              go_roundw
              case rel => exact ⟨k + 1, f, by omega, by rw [HPS.out], rfl, by go_num, HFN.out, by omega, by omega, HB8'.out⟩
              case measure => simp [intOf]; omega
          · go_wp2_with fail
            refine (dshortest i st n0 _ _ _ _ nx0 ac0 _ (HX.out _ HBW.out) (HBA.out _ HBW.out hm20) HM.out).mono ?_
            rintro e we ⟨A7, c7, rfl, o7, b7⟩
            have hb7 := bt HBW.out b7
            have HB7 := Lib.hid hb7
            clear k0 k1 k2 k3 j0 j1 j2 j3 b7
            obtain ⟨k0, k1, k2, k3, _⟩ := (HBX.out _ hb7).cells
            rcases short_first HM.out HF.out with ⟨h1, rfl⟩ | ⟨u, h1, hu, hul, hua, huf⟩
            · rw [h1] at o7 ⊢
              clear o7 hb7
              go_wp2_with fail
              refine (awake7 _).mono ?_
              rintro e wz ⟨rfl, bz⟩
              go_wp2_with fail
              go_ret
              exact ⟨rfl, bt HB0.out (bt HB7.out bz)⟩
            · rw [h1] at o7 ⊢
              have i7 := o7.ints (show u.length ≤ 17592186044416 by omega)
              have HAC := Lib.hid (acc_word HM.out hu (by omega))
              have HUA := Lib.hid hua
              have HU := Lib.hid i7
              clear o7 hb7 h1 hu hua i7
              by_cases hf0 : 0 ≤ f
              · have t2 : decide ((0 : Int) ≤ f) = true := decide_eq_true hf0
                have t3 : ((u.length : Int) != f) = false := by rw [huf hf0]; simp
                have hlu := huf hf0
                clear huf
                go_wp2_with fail
                refine (pacceptsD _ _ _ _ _ _ _ _ _ _ _ nx0 ac0 u _ (HX.out _ HB7.out) (HBA.out _ HB7.out hm20) HU.out).mono ?_
                rintro e wg ⟨rfl, b9⟩
                rw [HAC.out, HUA.out]
                have HB9 := Lib.hid (bt HB7.out b9)
                clear k0 k1 k2 k3 b9
                go_wp2_with fail
                refine (awake7 _).mono ?_
                rintro e wz ⟨rfl, bz⟩
                go_wp2_with fail
                go_ret
                exact ⟨rfl, bt HB0.out (bt HB9.out bz)⟩
              · have t2 : decide ((0 : Int) ≤ f) = false := decide_eq_false hf0
                clear huf
                go_wp2_with fail
                refine (pacceptsD _ _ _ _ _ _ _ _ _ _ _ nx0 ac0 u _ (HX.out _ HB7.out) (HBA.out _ HB7.out hm20) HU.out).mono ?_
                rintro e wg ⟨rfl, b9⟩
                rw [HAC.out, HUA.out]
                have HB9 := Lib.hid (bt HB7.out b9)
                clear k0 k1 k2 k3 b9
                go_wp2_with fail
                refine (awake7 _).mono ?_
                rintro e wz ⟨rfl, bz⟩
                go_wp2_with fail
                go_ret
                exact ⟨rfl, bt HB0.out (bt HB9.out bz)⟩
      · have t1 : (vldD i0 st0 nx0 ac0 != 0) = true := by simpa using hv
        generalize vldD i0 st0 nx0 ac0 = V at t1
        clear hv
        go_wp2_with fail
        refine (awake7 _).mono ?_
        rintro e wz ⟨rfl, bz⟩
        go_wp2_with fail
        go_ret
        exact ⟨rfl, bt HB0.out (bt HBb.out bz)⟩
end Go.Proofs.Ythjnghldedfdoaa
end
