/- Lemmas of the proofs of this seat, of the parts Rac7, Dwdw. Conditions: none. -/
import Derived.Test.YthjnghldedfdoaaNca
import Derived.Test.YthjnghldedfdoaaNaf
import Derived.Test.YthjnghldedfdoaaNbt
import Derived.Test.YthjnghldedfdoaaNah
import Derived.Test.YthjnghldedfdoaaNai
import Derived.Test.YthjnghldedfdoaaNaa
import Derived.Deep.RegionHeld3
section
/- Accepts of an automaton by the reference. -/
namespace Go.Proofs.Ythjnghldedfdoaa
open Go.RowKit

theorem syms_wd9 {xs : List Int} {i : Nat} (h : Syms xs i xs.length) : Wd i xs := fun x hx => by
  obtain ⟨m, hm, rfl⟩ := List.getElem_of_mem hx
  have := h m hm
  rw [List.getD_eq_getElem?_getD, List.getElem?_eq_getElem hm] at this
  exact this
set_option maxHeartbeats 2000000 in
set_option maxRecDepth 100000 in
theorem rend7 (i st n : Nat) (A B D : Option Addr) (c m d k e : Nat) (nx : List (List Int)) (ac : List Bool) (u : List Int) (w : World) (hx : Lists w A n nx) (hu : Ints w D k u) (hM : Dok i st n nx ac) (hw : Wd i u) :
    Calls Try.prog 42 #[.agg #[.int .i64 i, .int .i64 st, .slice A n c, .slice B m d], .slice D k e] w fun e w' => e = .returned (.int .i64 (runS nx st u : Nat)) ∧ Below w.heap.size w w' := by
  have hb0 := alloc_below w (.cells #[.int .i64 i, .int .i64 st, .slice A n c, .slice B m d] 25)
  have hB := dfa_box w (.int .i64 i) (.int .i64 st) (.slice A n c) (.slice B m d)
  obtain ⟨w0, hw0⟩ : ∃ w0, w0 = w.alloc (.cells #[.int .i64 i, .int .i64 st, .slice A n c, .slice B m d] 25) := ⟨_, rfl⟩
  rw [← hw0] at hb0 hB
  have HW0 := Lib.hid hw0
  have HBX := Lib.hid (fun (W : World) (h : Below w0.heap.size w0 W) => hB.on9 h)
  have HX := Lib.hid (fun (W : World) (h : Below w0.heap.size w0 W) => And.intro ((hx.below hb0).below h) ((hu.below hb0).below h))
  have HB0 := Lib.hid hb0
  have HM := Lib.hid hM
  have HWD := Lib.hid hw
  have HLU := Lib.hid hu.1
  have hk := hu.2.1
  have hn2 := hM.n2
  obtain ⟨k0, k1, k2, k3, _⟩ := hB.cells
  rw [HW0.out] at k0 k1 k2 k3
  clear hw0 hB hb0 hM hw hx hu
  go_enter Try.func42, Try.ntmps42
  go_wp2_with fail
  rw [← HW0.out]
  clear k0 k1 k2 k3
  go_loopw [5, 6] (fun v5 v6 wr => ∃ j : Nat, j ≤ k ∧ v5 = .int .i64 (runS nx st (u.take j) : Nat) ∧ v6 = .int .i64 j ∧ Below w0.heap.size w0 wr) (fun _ v6 _ => k - (intOf v6).toNat)
  case atStart => exact ⟨0, Nat.zero_le _, rfl, rfl, Below.refl _ _⟩
  case round =>
    obtain ⟨j, hj, rfl, rfl, hbr⟩ := hrel
    have HBR := Lib.hid hbr
    by_cases hlt : j < k
    · obtain ⟨k0, k1, k2, k3, _⟩ := (HBX.out _ hbr).cells
      obtain ⟨hxl, hul⟩ := HX.out _ hbr
      have hlu : j < u.length := by rw [HLU.out]; exact hlt
      have hmem : u.getD j 0 ∈ u := by rw [List.getD_eq_getElem?_getD, List.getElem?_eq_getElem hlu]; exact List.getElem_mem _
      obtain ⟨a, hae⟩ : ∃ a : Nat, u.getD j 0 = a := ⟨(u.getD j 0).toNat, by have := HWD.out _ hmem; omega⟩
      have ha : a < i := by have := HWD.out _ hmem; omega
      have HSN := Lib.hid (runS_snoc nx u st j hlu)
      rw [hae, Int.toNat_natCast] at HSN
      have hs := HM.out.runS_lt (u.take j) st HM.out.st (fun x hx => HWD.out x (List.mem_of_mem_take hx))
      have hq := HM.out.nN_eq hs ha
      have hrl := (HM.out.row _ hs).1
      generalize runS nx st (u.take j) = s at hs hq hrl HSN
      obtain ⟨gA, oA, A1, nA, cA, eA, _, hdA, hrA⟩ := hxl.at_ hs
      subst eA
      obtain ⟨gU, oU, eU, _, xU⟩ := hul.at_ hlt
      subst eU
      rw [hae] at xU
      have hnA : nA = i := by rw [← hrA.1]; exact hrl
      subst hnA
      obtain ⟨gR, oR, eR, _, xR⟩ := hrA.at_ ha
      subst eR
      rw [hq] at xR
      generalize nN nx s a = t at xR HSN
      clear hbr hxl hul hmem hae hq hrl hrA
      go_wp2_with fail
      go_region
      go_wp2_with fail
      go_roundw
      case rel => exact ⟨j + 1, by omega, by rw [HSN.out], by go_num, below_drewN HBR.out 1⟩
      case measure => simp [intOf]; omega
    · obtain rfl : j = k := by omega
      have HT := Lib.hid (show u.take j = u from List.take_of_length_le (by rw [HLU.out]; exact Nat.le_refl _))
      clear hbr
      go_wp2_with fail
      go_ret
      exact ⟨by rw [HT.out]; rfl, bt HB0.out HBR.out⟩
set_option maxHeartbeats 4000000 in
set_option maxRecDepth 100000 in
theorem racc7 (i st : Int) (A B D : Option Addr) (n c m d k e : Nat) (nx : List (List Int)) (ac : List Bool) (u : List Int) (w : World) (hx : Lists w A n nx) (ha : Bools w B m ac) (hu : Ints w D k u) :
    Calls Try.prog 13 #[.agg #[.int .i64 i, .int .i64 st, .slice A n c, .slice B m d], .slice D k e] w fun e w' => e = .returned (.tuple #[.bool (accD i st nx ac u).1, .int .i64 (accD i st nx ac u).2]) ∧ Below w.heap.size w w' := by
  have hb0 := alloc_below w (.cells #[.int .i64 i, .int .i64 st, .slice A n c, .slice B m d] 25)
  have hB := dfa_box w (.int .i64 i) (.int .i64 st) (.slice A n c) (.slice B m d)
  obtain ⟨w0, hw0⟩ : ∃ w0, w0 = w.alloc (.cells #[.int .i64 i, .int .i64 st, .slice A n c, .slice B m d] 25) := ⟨_, rfl⟩
  rw [← hw0] at hb0 hB
  have HW0 := Lib.hid hw0
  have HBX := Lib.hid (fun (W : World) (h : Below w0.heap.size w0 W) => (hB.on9 h).cells)
  have HX := Lib.hid (fun (W : World) (h : Below w0.heap.size w0 W) => And.intro ((hx.below hb0).below h) (And.intro ((ha.below hb0).below h) ((hu.below hb0).below h)))
  have HB0 := Lib.hid hb0
  have HLA := Lib.hid ha.1
  have hm := ha.2.1
  obtain ⟨k0, k1, k2, k3, _⟩ := hB.cells
  rw [HW0.out] at k0 k1 k2 k3
  have hxl := hx.1
  clear hw0 hB hb0
  by_cases hv : vldD i st nx ac = 0
  · have HV := Lib.hid hv
    go_enter Try.func13, Try.ntmps13
    go_wp2_with fail
    rw [← HW0.out]
    refine (rval7 _ _ _ _ _ _ _ _ _ _ _ (HX.out _ (Below.refl _ _)).1 HLA.out hm).mono ?_
    rintro e w1 ⟨rfl, b1⟩
    rw [HV.out]
    have HB1 := Lib.hid b1
    clear k0 k1 k2 k3
    obtain ⟨k0, k1, k2, k3, _⟩ := HBX.out _ b1
    clear b1
    go_wp2_with fail
    refine (rcheck _ _ _ _ _ _ (HX.out _ HB1.out).2.2).mono ?_
    rintro e w2 ⟨rfl, rfl⟩
    by_cases hc : chk u i = 0
    · have HF := Lib.hid (show accD i st nx ac u = (aN ac (runS nx st.toNat u), 0) by unfold accD; rw [if_pos hv, if_pos hc])
      obtain ⟨i', st', n', rfl, rfl, hM⟩ := vldD_zero hv
      obtain rfl : n = n' := by rw [← hxl]; exact hM.nxl
      obtain rfl : n = m := by rw [← HLA.out]; exact hM.acl.symm
      have HM := Lib.hid hM
      have HWD := Lib.hid (syms_wd9 (chk_zero hc).2.2.2)
      rw [hc]
      have hs := hM.runS_lt u st' hM.st HWD.out
      rw [Int.toNat_natCast] at HF
      obtain ⟨gB, oB, eB, lB, xB⟩ := (HX.out _ HB1.out).2.1.at_ hs
      have HXB := Lib.hid (fun (W : World) (h : Below w1.heap.size w1 W) => (h.cell (p := ⟨gB, oB + runS nx st' u, none⟩) lB).trans xB)
      have HS := Lib.hid (fun (W : World) (h : Below w1.heap.size w1 W) => And.intro (HX.out _ (bt HB1.out h)).1 (HX.out _ (bt HB1.out h)).2.2)
      have HCL := Lib.hid (fun (W : World) (h : Below w1.heap.size w1 W) => HBX.out _ (bt HB1.out h))
      subst eB
      clear hc hv hM lB
      go_upto_region 6 with fail
      go_region_held3 (fun w' => w'.cell? ⟨w.heap.size, 0, none⟩ = some (.int .i64 i') ∧ w'.cell? ⟨w.heap.size, 1, none⟩ = some (.int .i64 st') ∧ w'.cell? ⟨w.heap.size, 2, none⟩ = some (.slice A n c) ∧ w'.cell? ⟨w.heap.size, 3, none⟩ = some (.slice (some ⟨gB, oB, none⟩) n d) ∧ w'.cell? ⟨gB, oB + runS nx st' u, none⟩ = some (.bool (ac.getD (runS nx st' u) false)))
        (first
          | (have hS : ∀ W, Below w1.heap.size w1 W → _ := fun W h => And.intro (HCL.out W h).1 (And.intro (HCL.out W h).2.1 (And.intro (HCL.out W h).2.2.1 (And.intro (HCL.out W h).2.2.2.1 (HXB.out W h)))); exact hS _ (by first | exact below_drewN (Below.refl _ _) 1 | exact hb3 | exact below_drewN hb3 1))
          | go_keep)
        (first
          | (go_at_call 42; refine (rend7 i' st' n _ _ _ _ _ _ _ _ nx ac u _ (HS.out _ (below_drewN (Below.refl _ _) 1)).1 (HS.out _ (below_drewN (Below.refl _ _) 1)).2 HM.out HWD.out).mono ?_; rintro e w3 ⟨rfl, b3⟩; have hb3 : Below w1.heap.size w1 w3 := bt (below_drewN (Below.refl _ _) 1) b3))
      all_goals
        have HB3 := Lib.hid (bt HB0.out (bt HB1.out hb3))
        go_wp2_with fail
        go_ret2
        exact ⟨by rw [HF.out]; rfl, HB3.out⟩
    · have HF := Lib.hid (show accD i st nx ac u = (false, chk u i) by unfold accD; rw [if_pos hv, if_neg hc])
      have t1 : (chk u i != 0) = true := by simpa using hc
      generalize chk u i = C at t1 HF
      clear hc hv
      go_wp2_with fail
      go_ret2
      exact ⟨by rw [HF.out]; rfl, bt HB0.out HB1.out⟩
  · have HF := Lib.hid (show accD i st nx ac u = (false, vldD i st nx ac) by unfold accD; rw [if_neg hv])
    have t1 : (vldD i st nx ac != 0) = true := by simpa using hv
    obtain ⟨V, hV⟩ : ∃ V, vldD i st nx ac = V := ⟨_, rfl⟩
    have HV := Lib.hid hV
    rw [hV] at t1
    clear hv hV
    go_enter Try.func13, Try.ntmps13
    go_wp2_with fail
    rw [← HW0.out]
    refine (rval7 _ _ _ _ _ _ _ _ _ _ _ (HX.out _ (Below.refl _ _)).1 HLA.out hm).mono ?_
    rintro e w1 ⟨rfl, b1⟩
    rw [HV.out]
    have HB1 := Lib.hid b1
    clear k0 k1 k2 k3
    obtain ⟨k0, k1, k2, k3, _⟩ := HBX.out _ b1
    clear b1
    go_wp2_with fail
    refine (rval7 _ _ _ _ _ _ _ _ _ _ _ (HX.out _ HB1.out).1 HLA.out hm).mono ?_
    rintro e w2 ⟨rfl, b2⟩
    rw [HV.out]
    go_wp2_with fail
    go_ret2
    exact ⟨by rw [HF.out, HV.out]; rfl, bt HB0.out (bt HB1.out b2)⟩
end Go.Proofs.Ythjnghldedfdoaa
end

section
/- The law DfaWords. -/
namespace Go.Proofs.Ythjnghldedfdoaa
open Go.RowKit

set_option maxHeartbeats 8000000 in
set_option maxRecDepth 100000 in
theorem words7_walk (i0 st0 : Int) (A0 B0 : Option Addr) (n0 c0 m0 e0 : Nat) (nx0 : List (List Int)) (ac0 : List Bool) (a1 : Option Addr) (len1 cap1 : Nat) (z1 : List Int) (w : World) (wn0 : Lists w A0 n0 nx0) (wo0 : BoolsL w B0 m0 ac0) (w1 : Ints w a1 len1 z1) :
    Calls Try.prog 3 #[.agg #[.int .i64 i0, .int .i64 st0, .slice A0 n0 c0, .slice B0 m0 e0], .slice a1 len1 cap1] w fun e w' => e = .returned (.bool true) ∧ Below w.heap.size w w' := by
  obtain ⟨w0, hw0⟩ : ∃ w0, w0 = w.alloc (.cells #[.int .i64 i0, .int .i64 st0, .slice A0 n0 c0, .slice B0 m0 e0] 25) := ⟨_, rfl⟩
  have hb0 : Below w.heap.size w w0 := by rw [hw0]; exact alloc_below _ _
  have hB : Dblk w0 w.heap.size (.int .i64 i0) (.int .i64 st0) (.slice A0 n0 c0) (.slice B0 m0 e0) := by rw [hw0]; exact dfa_box _ _ _ _ _
  obtain ⟨k0, k1, k2, k3, _⟩ := hB.cells
  have HW0 := Lib.hid hw0
  have HBX := Lib.hid (fun (W : World) (h : Below w0.heap.size w0 W) => hB.on9 h)
  have HX := Lib.hid (fun (W : World) (h : Below w0.heap.size w0 W) => (wn0.below hb0).below h)
  have HU := Lib.hid (fun (W : World) (h : Below w0.heap.size w0 W) => (w1.below hb0).below h)
  have HBA := Lib.hid (fun (W : World) (h : Below w0.heap.size w0 W) (hm : m0 ≤ 20) => ((wo0.bools hm).below hb0).below h)
  have HB0 := Lib.hid hb0
  have hm47 := wo0.2.1
  have HLA := Lib.hid wo0.1
  have hlen := w1.2.1
  obtain ⟨⟨x1, x2⟩, hX⟩ : ∃ V, accD i0 st0 nx0 ac0 z1 = V := ⟨_, rfl⟩
  obtain ⟨⟨⟨ci, cst, cN, cA⟩, cE⟩, hV⟩ : ∃ V, cplV i0 st0 nx0 ac0 = V := ⟨_, rfl⟩
  obtain ⟨⟨⟨su, sb⟩, sE⟩, hU⟩ : ∃ V, shV i0 st0 nx0 ac0 = V := ⟨_, rfl⟩
  have HACC := Lib.hid hX
  have HCPL := Lib.hid hV
  have HSH := Lib.hid hU
  clear hw0 hB hb0 hX hV hU
  rw [HW0.out] at k0 k1 k2 k3
  go_enter Try.func3, Try.ntmps3
  go_wp2_with fail
  rw [← HW0.out]
  refine (rgreat7 _ _ _ _ _ _ _ _ _ _ (HX.out _ (Below.refl _ _)) hm47).mono ?_
  rintro e wa ⟨b, rfl, hgr, ba⟩
  have HBa := Lib.hid ba
  clear k0 k1 k2 k3
  obtain ⟨k0, k1, k2, k3, _⟩ := (HBX.out _ ba).cells
  clear ba
  cases b with
  | true =>
    clear hgr
    go_wp2_with fail
    refine (awake7 _).mono ?_
    rintro e wz ⟨rfl, bz⟩
    go_wp2_with fail
    go_ret
    exact ⟨rfl, bt HB0.out (bt HBa.out bz)⟩
  | false =>
    obtain ⟨hn12, hm20, _⟩ := hgr rfl
    clear hgr
    by_cases hl : 1100 < len1
    · have d1 : decide ((1100 : Int) < (len1 : Int)) = true := decide_eq_true (by omega)
      clear hl
      go_wp2_with fail
      refine (awake7 _).mono ?_
      rintro e wz ⟨rfl, bz⟩
      go_wp2_with fail
      go_ret
      exact ⟨rfl, bt HB0.out (bt HBa.out bz)⟩
    · have d1 : decide ((1100 : Int) < (len1 : Int)) = false := decide_eq_false (by omega)
      clear hl
      go_wp2_with fail
      refine (pacceptsD _ _ _ _ _ _ _ _ _ _ _ _ _ _ _ (HX.out _ HBa.out) (HBA.out _ HBa.out hm20) (HU.out _ HBa.out)).mono ?_
      rintro e wb ⟨rfl, bb⟩
      rw [HACC.out]
      have HBb := Lib.hid (bt HBa.out bb)
      clear k0 k1 k2 k3 bb
      obtain ⟨k0, k1, k2, k3, _⟩ := (HBX.out _ HBb.out).cells
      go_wp2_with fail
      refine (racc7 _ _ _ _ _ _ _ _ _ _ _ _ _ _ _ (HX.out _ HBb.out) (HBA.out _ HBb.out hm20) (HU.out _ HBb.out)).mono ?_
      rintro e wc ⟨rfl, bc⟩
      rw [HACC.out]
      have HBc := Lib.hid (bt HBb.out bc)
      clear k0 k1 k2 k3 bc
      obtain ⟨k0, k1, k2, k3, _⟩ := (HBX.out _ HBc.out).cells
      go_wp2_with fail
      refine (pcplR _ _ _ _ _ _ _ _ _ _ _ (HX.out _ HBc.out) (HBA.out _ HBc.out hm20)).mono ?_
      rintro e wd hA
      rw [HCPL.out] at hA
      obtain ⟨Ac, cc, Bc, dc, he, xc, yc, bd⟩ := hA
      replace he : e = .returned (.tuple #[.agg #[.int .i64 ci, .int .i64 cst, .slice Ac cN.length cc, .slice Bc cA.length dc], .int .i64 cE]) := he
      subst he
      replace xc : Lists wd Ac cN.length cN := xc
      replace yc : Bools wd Bc cA.length cA := yc
      have HBd := Lib.hid (bt HBc.out bd)
      obtain ⟨w5, hw5⟩ : ∃ w5, w5 = wd.alloc (.cells #[.int .i64 ci, .int .i64 cst, .slice Ac cN.length cc, .slice Bc cA.length dc] 25) := ⟨_, rfl⟩
      have b5 : Below wd.heap.size wd w5 := by rw [hw5]; exact alloc_below _ _
      have D5 : Dblk w5 wd.heap.size (.int .i64 ci) (.int .i64 cst) (.slice Ac cN.length cc) (.slice Bc cA.length dc) := by rw [hw5]; exact dfa_box _ _ _ _ _
      have HW5 := Lib.hid hw5
      have HB5 := Lib.hid (bt HBd.out b5)
      have HD5 := Lib.hid (fun (W : World) (h : Below w5.heap.size w5 W) => And.intro (D5.on9 h) (And.intro ((xc.below b5).below h) ((yc.below b5).below h)))
      clear k0 k1 k2 k3 bd xc yc b5 D5 hw5
      obtain ⟨k0, k1, k2, k3, _⟩ := (HBX.out _ HB5.out).cells
      rw [HW5.out] at k0 k1 k2 k3
      go_wp2_with fail
      rw [← HW5.out]
      refine (rcplR _ _ _ _ _ _ _ _ _ _ _ (HX.out _ HB5.out) (HBA.out _ HB5.out hm20)).mono ?_
      rintro e wf hA
      rw [HCPL.out] at hA
      obtain ⟨Af, cf, Bf, df, he, xf, yf, bf⟩ := hA
      replace he : e = .returned (.tuple #[.agg #[.int .i64 ci, .int .i64 cst, .slice Af cN.length cf, .slice Bf cA.length df], .int .i64 cE]) := he
      subst he
      replace xf : Lists wf Af cN.length cN := xf
      replace yf : Bools wf Bf cA.length cA := yf
      obtain ⟨w6, hw6⟩ : ∃ w6, w6 = wf.alloc (.cells #[.int .i64 ci, .int .i64 cst, .slice Af cN.length cf, .slice Bf cA.length df] 25) := ⟨_, rfl⟩
      have b6 : Below wf.heap.size wf w6 := by rw [hw6]; exact alloc_below _ _
      have D6 : Dblk w6 wf.heap.size (.int .i64 ci) (.int .i64 cst) (.slice Af cN.length cf) (.slice Bf cA.length df) := by rw [hw6]; exact dfa_box _ _ _ _ _
      have HW6 := Lib.hid hw6
      have HB56 := Lib.hid (bt bf b6)
      have HB6 := Lib.hid (bt HB5.out (bt bf b6))
      have HD6 := Lib.hid (fun (W : World) (h : Below w6.heap.size w6 W) => And.intro (D6.on9 h) (And.intro ((xf.below b6).below h) ((yf.below b6).below h)))
      clear k0 k1 k2 k3 bf xf yf b6 D6 hw6
      obtain ⟨k0, k1, k2, k3, _⟩ := (HBX.out _ HB6.out).cells
      rw [HW6.out] at k0 k1 k2 k3
      go_wp2_with fail
      rw [← HW6.out]
      refine (pshR _ _ _ _ _ _ _ _ _ _ _ (HX.out _ HB6.out) (HBA.out _ HB6.out hm20)).mono ?_
      rintro e wg hA
      rw [HSH.out] at hA
      obtain ⟨Ag, cg, he, xg, bg⟩ := hA
      replace he : e = .returned (.tuple #[.slice Ag su.length cg, .bool sb, .int .i64 sE]) := he
      subst he
      replace xg : Ints wg Ag su.length su := xg
      have HB6g := Lib.hid bg
      have HBg := Lib.hid (bt HB6.out bg)
      clear k0 k1 k2 k3 bg
      obtain ⟨k0, k1, k2, k3, _⟩ := (HBX.out _ HBg.out).cells
      go_wp2_with fail
      refine (rshR _ _ _ _ _ _ _ _ _ _ _ (HX.out _ HBg.out) (HBA.out _ HBg.out hm20)).mono ?_
      rintro e wh hA
      rw [HSH.out] at hA
      obtain ⟨Ah, ch, he, xh, bh⟩ := hA
      replace he : e = .returned (.tuple #[.slice Ah su.length ch, .bool sb, .int .i64 sE]) := he
      subst he
      replace xh : Ints wh Ah su.length su := xh
      have HBh := Lib.hid (bt HBg.out bh)
      have HG := Lib.hid (fun (W : World) (h : Below wh.heap.size wh W) => And.intro ((xg.below bh).below h) (xh.below h))
      have HL := Lib.hid (fun (W : World) (h : Below wh.heap.size wh W) => And.intro (HD5.out W (bt (bt HB56.out HB6g.out) (bt bh h))) (HD6.out W (bt HB6g.out (bt bh h))))
      have HS := Lib.hid (fun (W : World) (h : Below wh.heap.size wh W) => show W.cell? ⟨w.heap.size, 0, none⟩ = some (.int .i64 i0) ∧ W.cell? ⟨w.heap.size, 1, none⟩ = some (.int .i64 st0) ∧ W.cell? ⟨w.heap.size, 2, none⟩ = some (.slice A0 n0 c0) ∧ W.cell? ⟨w.heap.size, 3, none⟩ = some (.slice B0 m0 e0) ∧
          W.cell? ⟨wd.heap.size, 0, none⟩ = some (.int .i64 ci) ∧ W.cell? ⟨wd.heap.size, 1, none⟩ = some (.int .i64 cst) ∧ W.cell? ⟨wd.heap.size, 2, none⟩ = some (.slice Ac cN.length cc) ∧ W.cell? ⟨wd.heap.size, 3, none⟩ = some (.slice Bc cA.length dc) ∧
          W.cell? ⟨wf.heap.size, 0, none⟩ = some (.int .i64 ci) ∧ W.cell? ⟨wf.heap.size, 1, none⟩ = some (.int .i64 cst) ∧ W.cell? ⟨wf.heap.size, 2, none⟩ = some (.slice Af cN.length cf) ∧ W.cell? ⟨wf.heap.size, 3, none⟩ = some (.slice Bf cA.length df) from by
        obtain ⟨k0, k1, k2, k3, _⟩ := (HBX.out W (bt HBh.out h)).cells
        obtain ⟨y0, y1, y2, y3, _⟩ := (HL.out W h).1.1.cells
        obtain ⟨z0, z1, z2, z3, _⟩ := (HL.out W h).2.1.cells
        exact ⟨k0, k1, k2, k3, y0, y1, y2, y3, z0, z1, z2, z3⟩)
      have hbc : Below wh.heap.size wh wh.drew := (Below.refl _ wh).drew
      have t1 : (vldD i0 st0 nx0 ac0 == vldD i0 st0 nx0 ac0) = true := by simp
      have t2 : (x1 == x1) = true := by simp
      have t3 : (x2 == x2) = true := by simp
      have t4 : (cE == cE) = true := by simp
      have t5 : (sb == sb) = true := by simp
      have t6 : (sE == sE) = true := by simp
      clear k0 k1 k2 k3 xg xh bh
      go_wp2_with fail
      go_region_held3 (fun W => W.cell? ⟨w.heap.size, 0, none⟩ = some (.int .i64 i0) ∧ W.cell? ⟨w.heap.size, 1, none⟩ = some (.int .i64 st0) ∧ W.cell? ⟨w.heap.size, 2, none⟩ = some (.slice A0 n0 c0) ∧ W.cell? ⟨w.heap.size, 3, none⟩ = some (.slice B0 m0 e0) ∧
          W.cell? ⟨wd.heap.size, 0, none⟩ = some (.int .i64 ci) ∧ W.cell? ⟨wd.heap.size, 1, none⟩ = some (.int .i64 cst) ∧ W.cell? ⟨wd.heap.size, 2, none⟩ = some (.slice Ac cN.length cc) ∧ W.cell? ⟨wd.heap.size, 3, none⟩ = some (.slice Bc cA.length dc) ∧
          W.cell? ⟨wf.heap.size, 0, none⟩ = some (.int .i64 ci) ∧ W.cell? ⟨wf.heap.size, 1, none⟩ = some (.int .i64 cst) ∧ W.cell? ⟨wf.heap.size, 2, none⟩ = some (.slice Af cN.length cf) ∧ W.cell? ⟨wf.heap.size, 3, none⟩ = some (.slice Bf cA.length df))
        (first | exact HS.out _ hbc)
        (first
          | (go_at_call 18; refine (pvalD i0 st0 A0 B0 n0 c0 m0 e0 nx0 ac0 _ (HX.out _ (bt HBh.out hbc)) HLA.out (by omega)).mono ?_; rintro e w' ⟨rfl, b'⟩; have hbc := bt hbc b')
          | (go_at_call 19; refine (rval7 i0 st0 A0 B0 n0 c0 m0 e0 nx0 ac0 _ (HX.out _ (bt HBh.out hbc)) HLA.out (by omega)).mono ?_; rintro e w' ⟨rfl, b'⟩; have hbc := bt hbc b')
          | (go_at_call 20; refine (rsame7 ci cst ci cst Ac Bc Af Bf cN.length cc cA.length dc cN.length cf cA.length df cN cN cA cA true _ (HL.out _ hbc).1.2.1 (HL.out _ hbc).1.2.2 (HL.out _ hbc).2.2.1 (HL.out _ hbc).2.2.2 (by simp)).mono ?_; rintro e w' ⟨rfl, b'⟩; have hbc := bt hbc b')
          | (go_at_call 21; refine (rsame Ag Ah su.length cg su.length ch su su true _ (HG.out _ hbc).1 (HG.out _ hbc).2 (by simp)).mono ?_; rintro e w' ⟨rfl, q', rfl⟩; have hbc := below_drewN hbc q')
          | (go_at_call 11; refine (awake7 _).mono ?_; rintro e w' ⟨rfl, b'⟩; have hbc := bt hbc b'))
      all_goals
        go_wp2_with fail
        go_ret
        exact ⟨rfl, bt HB0.out (bt HBh.out hbc)⟩
end Go.Proofs.Ythjnghldedfdoaa
end
