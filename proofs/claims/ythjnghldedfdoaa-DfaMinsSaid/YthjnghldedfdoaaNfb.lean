/- Lemmas of the proofs of this seat, of the parts Dunn, Dmnw. Conditions: none. -/
import Derived.Test.YthjnghldedfdoaaNfa
import Derived.Test.YthjnghldedfdoaaNah
import Derived.Test.YthjnghldedfdoaaNai
section
/- Both sides' Min of dfa in one form. -/
namespace Go.Proofs.Ythjnghldedfdoaa
open Go.RowKit

def mnV (i st : Int) (nx : List (List Int)) (ac : List Bool) : (Int × Int × List (List Int) × List Bool) × Int :=
  if vldD i st nx ac = 0 then (((i.toNat : Int), (0 : Int), mmN i.toNat st.toNat nx.length nx ac, mmA i.toNat st.toNat nx.length nx ac), 0) else ((0, 0, [], []), vldD i st nx ac)
section
variable (i st : Int) (A B : Option Addr) (n c m d : Nat) (nx : List (List Int)) (ac : List Bool) (w : World) (hx : Lists w A n nx) (ha : Bools w B m ac)
include hx ha
theorem pminR : Calls Try.prog 26 #[.agg #[.int .i64 i, .int .i64 st, .slice A n c, .slice B m d]] w (AutR (mnV i st nx ac) w) := by
  by_cases hv : vldD i st nx ac = 0
  · obtain ⟨i', st', n', rfl, rfl, hM⟩ := vldD_zero hv
    obtain rfl : n = n' := by rw [← hx.1]; exact hM.nxl
    obtain rfl : n = m := by rw [← ha.1]; exact hM.acl.symm
    refine (dmin i' st' n A B c d nx ac w hx ha hM).mono ?_
    rintro e w' ⟨⟨N, bs, A', c', B', d', rfl, hmn, hd, hl, h1, h2⟩, h3⟩
    obtain ⟨rfl, rfl⟩ := hmn.uniq (mm_mn hM) (fun u _ => rfl)
    rw [show mnV (i' : Int) st' nx ac = (((i' : Int), (0 : Int), mmN i' st' n nx ac, mmA i' st' n nx ac), 0) by unfold mnV; rw [if_pos hv, hx.1]; simp only [Int.toNat_natCast]]
    exact AutR.mk (st := 0) rfl hd.acl hd.n2 hd.i2 (fun s hs => (hd.row s hs).1) h1 h2 h3
  · refine (dmin_bad i st A B n c m d nx ac w hx ha hv).mono ?_
    rintro e w' ⟨rfl, h3⟩
    rw [show mnV i st nx ac = ((0, 0, [], []), vldD i st nx ac) from if_neg hv]
    exact AutR.bad h3
theorem rminR : Calls Try.prog 27 #[.agg #[.int .i64 i, .int .i64 st, .slice A n c, .slice B m d]] w (AutR (mnV i st nx ac) w) := by
  by_cases hv : vldD i st nx ac = 0
  · obtain ⟨i', st', n', rfl, rfl, hM⟩ := vldD_zero hv
    obtain rfl : n = n' := by rw [← hx.1]; exact hM.nxl
    obtain rfl : n = m := by rw [← ha.1]; exact hM.acl.symm
    refine (rmin7 i' st' n A B c d nx ac w hx ha hM).mono ?_
    rintro e w' ⟨A', c', B', d', rfl, h1, h2, h3⟩
    have hd := (mm_dok hM).quot (mmC i' st' n nx ac (mmE i' st' n nx).length)
    have hl1 : (mmN i' st' n nx ac).length = (reps (mmC i' st' n nx ac (mmE i' st' n nx).length) (mmE i' st' n nx).length).length := qN_len _ _ _ _
    have hl2 : (mmA i' st' n nx ac).length = (reps (mmC i' st' n nx ac (mmE i' st' n nx).length) (mmE i' st' n nx).length).length := qA_len _ _ _
    rw [show mnV (i' : Int) st' nx ac = (((i' : Int), (0 : Int), mmN i' st' n nx ac, mmA i' st' n nx ac), 0) by unfold mnV; rw [if_pos hv, hx.1]; simp only [Int.toNat_natCast]]
    exact AutR.mk (st := 0) rfl (hl2.trans hl1.symm) (by rw [hl1]; exact hd.n2) hM.i2 (fun s hs => (hd.row s (by rw [← hl1]; exact hs)).1) h1 h2 h3
  · refine (rmin7_bad i st A B n c m d nx ac w hx ha hv).mono ?_
    rintro e w' ⟨rfl, h3⟩
    rw [show mnV i st nx ac = ((0, 0, [], []), vldD i st nx ac) from if_neg hv]
    exact AutR.bad h3
end
end Go.Proofs.Ythjnghldedfdoaa
end

section
/- The law DfaMins. -/
namespace Go.Proofs.Ythjnghldedfdoaa
open Go.RowKit

set_option maxHeartbeats 8000000 in
set_option maxRecDepth 100000 in
theorem mins7_walk (i0 st0 : Int) (A0 B0 : Option Addr) (n0 c0 m0 e0 : Nat) (nx0 : List (List Int)) (ac0 : List Bool) (k : Int) (w : World) (wn0 : Lists w A0 n0 nx0) (wo0 : BoolsL w B0 m0 ac0) :
    Calls Try.prog 5 #[.agg #[.int .i64 i0, .int .i64 st0, .slice A0 n0 c0, .slice B0 m0 e0], .int .i64 k] w fun e w' => e = .returned (.bool true) ∧ Below w.heap.size w w' := by
  obtain ⟨w0, hw0⟩ : ∃ w0, w0 = w.alloc (.cells #[.int .i64 i0, .int .i64 st0, .slice A0 n0 c0, .slice B0 m0 e0] 25) := ⟨_, rfl⟩
  have hb0 : Below w.heap.size w w0 := by rw [hw0]; exact alloc_below _ _
  have hB : Dblk w0 w.heap.size (.int .i64 i0) (.int .i64 st0) (.slice A0 n0 c0) (.slice B0 m0 e0) := by rw [hw0]; exact dfa_box _ _ _ _ _
  obtain ⟨k0, k1, k2, k3, _⟩ := hB.cells
  have HW0 := Lib.hid hw0
  have HBX := Lib.hid (fun (W : World) (h : Below w0.heap.size w0 W) => (hB.on9 h).cells)
  have HX := Lib.hid (fun (W : World) (h : Below w0.heap.size w0 W) => (wn0.below hb0).below h)
  have HBA := Lib.hid (fun (W : World) (h : Below w0.heap.size w0 W) (hm : m0 ≤ 20) => ((wo0.bools hm).below hb0).below h)
  have HB0 := Lib.hid hb0
  have hm47 := wo0.2.1
  obtain ⟨⟨⟨ti, tst, tN, tA⟩, tE⟩, hT⟩ : ∃ V, mnV i0 st0 nx0 ac0 = V := ⟨_, rfl⟩
  obtain ⟨⟨u1, u2⟩, hU⟩ : ∃ V, cntV i0 st0 nx0 ac0 k = V := ⟨_, rfl⟩
  have HT := Lib.hid hT
  have HU := Lib.hid hU
  clear hw0 hB hb0 hT hU
  rw [HW0.out] at k0 k1 k2 k3
  go_enter Try.func5, Try.ntmps5
  go_wp2_with fail
  rw [← HW0.out]
  refine (rgreat7 _ _ _ _ _ _ _ _ _ _ (HX.out _ (Below.refl _ _)) hm47).mono ?_
  rintro e wa ⟨g1, rfl, hgr, ba⟩
  have HBa := Lib.hid ba
  clear k0 k1 k2 k3
  obtain ⟨k0, k1, k2, k3, _⟩ := HBX.out _ ba
  clear ba
  cases g1 with
  | true =>
    clear hgr
    go_wp2_with fail
    refine (awake7 _).mono ?_
    rintro e wz ⟨rfl, bz⟩
    go_wp2_with fail
    go_ret
    exact ⟨rfl, bt HB0.out (bt HBa.out bz)⟩
  | false =>
    obtain ⟨_, hm20, _⟩ := hgr rfl
    clear hgr
    by_cases hk : (100 : Int) < k ∧ k ≤ 1024
    · have d1 : decide ((100 : Int) < k) = true := decide_eq_true hk.1
      have d2 : decide (k ≤ (1024 : Int)) = true := decide_eq_true hk.2
      clear hk
      go_wp2_with fail
      refine (awake7 _).mono ?_
      rintro e wz ⟨rfl, bz⟩
      go_wp2_with fail
      go_ret
      exact ⟨rfl, bt HB0.out (bt HBa.out bz)⟩
    · have hk2 : (decide ((100 : Int) < k) = false) ∨ (decide ((100 : Int) < k) = true ∧ decide (k ≤ (1024 : Int)) = false) := by
        by_cases h1 : (100 : Int) < k
        · exact .inr ⟨decide_eq_true h1, decide_eq_false (fun h => hk ⟨h1, h⟩)⟩
        · exact .inl (decide_eq_false h1)
      clear hk
      have HX1 := HBa
      rcases hk2 with d1 | ⟨d1, d2⟩
      all_goals
        go_wp2_with fail
        refine (pminR _ _ _ _ _ _ _ _ _ _ _ (HX.out _ HBa.out) (HBA.out _ HBa.out hm20)).mono ?_
        rintro e wc hA
        rw [HT.out] at hA
        obtain ⟨Ac, cc, Bc, dc, he, xc, yc, bc⟩ := hA
        replace he : e = .returned (.tuple #[.agg #[.int .i64 ti, .int .i64 tst, .slice Ac tN.length cc, .slice Bc tA.length dc], .int .i64 tE]) := he
        subst he
        replace xc : Lists wc Ac tN.length tN := xc
        replace yc : Bools wc Bc tA.length tA := yc
        obtain ⟨w3, hw3⟩ : ∃ w3, w3 = wc.alloc (.cells #[.int .i64 ti, .int .i64 tst, .slice Ac tN.length cc, .slice Bc tA.length dc] 25) := ⟨_, rfl⟩
        have b3 : Below wc.heap.size wc w3 := by rw [hw3]; exact alloc_below _ _
        have D3 : Dblk w3 wc.heap.size (.int .i64 ti) (.int .i64 tst) (.slice Ac tN.length cc) (.slice Bc tA.length dc) := by rw [hw3]; exact dfa_box _ _ _ _ _
        have HW3 := Lib.hid hw3
        have HB3 := Lib.hid (bt HBa.out (bt bc b3))
        have HD3 := Lib.hid (fun (W : World) (h : Below w3.heap.size w3 W) => And.intro (D3.on9 h).cells (And.intro ((xc.below b3).below h) ((yc.below b3).below h)))
        clear k0 k1 k2 k3 bc xc yc b3 D3 hw3
        obtain ⟨k0, k1, k2, k3, _⟩ := HBX.out _ HB3.out
        rw [HW3.out] at k0 k1 k2 k3
        go_wp2_with fail
        rw [← HW3.out]
        refine (rminR _ _ _ _ _ _ _ _ _ _ _ (HX.out _ HB3.out) (HBA.out _ HB3.out hm20)).mono ?_
        rintro e wd hA
        rw [HT.out] at hA
        obtain ⟨Ad, cd, Bd, dd, he, xd, yd, bd⟩ := hA
        replace he : e = .returned (.tuple #[.agg #[.int .i64 ti, .int .i64 tst, .slice Ad tN.length cd, .slice Bd tA.length dd], .int .i64 tE]) := he
        subst he
        replace xd : Lists wd Ad tN.length tN := xd
        replace yd : Bools wd Bd tA.length tA := yd
        obtain ⟨w4, hw4⟩ : ∃ w4, w4 = wd.alloc (.cells #[.int .i64 ti, .int .i64 tst, .slice Ad tN.length cd, .slice Bd tA.length dd] 25) := ⟨_, rfl⟩
        have b4 : Below wd.heap.size wd w4 := by rw [hw4]; exact alloc_below _ _
        have D4 : Dblk w4 wd.heap.size (.int .i64 ti) (.int .i64 tst) (.slice Ad tN.length cd) (.slice Bd tA.length dd) := by rw [hw4]; exact dfa_box _ _ _ _ _
        have HW4 := Lib.hid hw4
        have HB34 := Lib.hid (bt bd b4)
        have HB4 := Lib.hid (bt HB3.out (bt bd b4))
        have HD4 := Lib.hid (fun (W : World) (h : Below w4.heap.size w4 W) => And.intro (D4.on9 h).cells (And.intro ((xd.below b4).below h) ((yd.below b4).below h)))
        clear k0 k1 k2 k3 bd xd yd b4 D4 hw4
        obtain ⟨k0, k1, k2, k3, _⟩ := HBX.out _ HB4.out
        rw [HW4.out] at k0 k1 k2 k3
        go_wp2_with fail
        rw [← HW4.out]
        refine (pcntR _ _ _ _ _ _ _ _ _ _ _ _ (HX.out _ HB4.out) (HBA.out _ HB4.out hm20)).mono ?_
        rintro e wg ⟨he, bg⟩
        rw [HU.out] at he
        replace he : e = .returned (.tuple #[.int .i64 u1, .int .i64 u2]) := he
        subst he
        have HB4g := Lib.hid bg
        have HBg := Lib.hid (bt HB4.out bg)
        clear k0 k1 k2 k3 bg
        obtain ⟨k0, k1, k2, k3, _⟩ := HBX.out _ HBg.out
        go_wp2_with fail
        refine (rcntR _ _ _ _ _ _ _ _ _ _ _ _ (HX.out _ HBg.out) (HBA.out _ HBg.out hm20)).mono ?_
        rintro e wh ⟨he, bh⟩
        rw [HU.out] at he
        replace he : e = .returned (.tuple #[.int .i64 u1, .int .i64 u2]) := he
        subst he
        have HBh := Lib.hid (bt HBg.out bh)
        obtain ⟨⟨y0, y1, y2, y3, _⟩, xt, yt⟩ := HD3.out _ (bt HB34.out (bt HB4g.out bh))
        obtain ⟨⟨z0, z1, z2, z3, _⟩, xu, yu⟩ := HD4.out _ (bt HB4g.out bh)
        have t1 : (tE == tE) = true := by simp
        have t2 : (u1 == u1) = true := by simp
        have t3 : (u2 == u2) = true := by simp
        clear k0 k1 k2 k3 bh
        go_wp2_with fail
        refine (rsame7 ti tst ti tst Ac Bc Ad Bd tN.length cc tA.length dc tN.length cd tA.length dd tN tN tA tA true _ xt yt xu yu (by simp)).mono ?_
        rintro e w7 ⟨rfl, b7⟩
        have HB7 := Lib.hid (bt HBh.out b7)
        clear y0 y1 y2 y3 z0 z1 z2 z3 xt yt xu yu b7
        go_wp2_with fail
        refine (awake7 _).mono ?_
        rintro e wz ⟨rfl, bz⟩
        go_wp2_with fail
        go_ret
        exact ⟨rfl, bt HB0.out (bt HB7.out bz)⟩
end Go.Proofs.Ythjnghldedfdoaa
end
