/- Lemmas of the proofs of this seat, of the parts Eqm, Samem, Dmaw. Conditions: none. -/
import Derived.Test.YthjnghldedfdoaaNaa
import Derived.Test.YthjnghldedfdoaaNda
import Derived.Test.YthjnghldedfdoaaNah
import Derived.Test.YthjnghldedfdoaaNai
section
/- Lists and machines that are equal: Equal, EqualFunc, equal, Same; the reference's Ints, Lists, Same. -/
namespace Go.Proofs.Ythjnghldedfdoaa
open Go.RowKit

set_option maxHeartbeats 1000000 in
theorem rints (A B : Option Addr) (n c m d : Nat) (xs ys : List Int) (b : Bool) (w : World) (hx : Ints w A n xs) (hy : Ints w B m ys) (hb : b = decide (xs = ys)) :
    Calls Try.prog 89 #[.slice A n c, .slice B m d] w fun e w' => e = .returned (.bool b) ∧ ∃ q, w' = w.drewN q := by
  have L1 := Lib.hid hx.1
  have L2 := Lib.hid hy.1
  have hn := hx.2.1
  have hm := hy.2.1
  by_cases hnm : n = m
  · subst hnm
    have HB := Lib.hid hb
    clear hb
    go_enter Try.func89, Try.ntmps89
    go_wp2
    go_loopw [5] (fun i wr => ∃ j q : Nat, j ≤ n ∧ i = .int .i64 j ∧ AgreeL 0 xs ys j ∧ wr = w.drewN q) (fun i _ => n - (intOf i).toNat)
    case atStart => exact ⟨0, 0, Nat.zero_le _, rfl, AgreeL.zero _ _ _, rfl⟩
    case round =>
      obtain ⟨j, q, hj, rfl, heq, rfl⟩ := hrel
      have HE := Lib.hid heq
      clear heq
      by_cases hlt : j < n
      · obtain ⟨g1, o1, rfl, _, hc1⟩ := hx.at_ hlt
        obtain ⟨g2, o2, rfl, _, hc2⟩ := hy.at_ hlt
        by_cases he : xs.getD j 0 = ys.getD j 0
        · have hnx := Lib.hid (HE.out.succ he)
          rw [← he] at hc2
          generalize xs.getD j 0 = y at hc1 hc2
          clear he
          go_wp2
          go_quiet (fail)
          go_wp2
          go_roundw
          case rel => exact ⟨j + 1, _, by omega, by go_num, hnx.out, rfl⟩
          case measure => simp [intOf]; omega
        · have hfin : Hid (b = false) := Lib.hid (HB.out.trans (decide_eq_false fun e => he (by rw [e])))
          have hne : (xs.getD j 0 != ys.getD j 0) = true := by simpa using he
          generalize xs.getD j 0 = y at hc1 hne
          generalize ys.getD j 0 = z at hc2 hne
          clear he
          go_wp2
          go_quiet (fail)
          go_wp2
          go_ret
          exact ⟨ret_bool hfin.out.symm, by first | exact ⟨_, rfl⟩ | exact ⟨_, World.drewN_drewN _ _ _⟩⟩
      · obtain rfl : j = n := by omega
        have hfin : Hid (b = true) := Lib.hid (HB.out.trans (decide_eq_true (HE.out.all L1.out L2.out)))
        go_wp2
        go_ret
        exact ⟨ret_bool hfin.out.symm, by first | exact ⟨_, rfl⟩ | exact ⟨_, World.drewN_drewN _ _ _⟩⟩
  · have hfin : Hid (b = false) := Lib.hid (hb.trans (decide_eq_false fun e => hnm (by rw [← L1.out, ← L2.out, e])))
    have hd : ((n : Int) != (m : Int)) = true := by simp; omega
    clear hnm hb
    go_enter Try.func89, Try.ntmps89
    go_wp2
    go_ret
    exact ⟨ret_bool hfin.out.symm, 0, rfl⟩

theorem drew_trans {w wr w2 : World} (h : ∃ q, wr = w.drewN q) (h2 : ∃ q, w2 = wr.drewN q) : ∃ q, w2 = w.drewN q := by
  obtain ⟨q, rfl⟩ := h2
  exact drew_more h q

set_option maxHeartbeats 1000000 in
theorem rlists (A B : Option Addr) (n c m d : Nat) (xs ys : List (List Int)) (b : Bool) (w : World) (hx : Lists w A n xs) (hy : Lists w B m ys) (hb : b = decide (xs = ys)) :
    Calls Try.prog 72 #[.slice A n c, .slice B m d] w fun e w' => e = .returned (.bool b) ∧ ∃ q, w' = w.drewN q := by
  have L1 := Lib.hid hx.1
  have L2 := Lib.hid hy.1
  have hn := hx.2.1
  have hm := hy.2.1
  by_cases hnm : n = m
  · subst hnm
    have HB := Lib.hid hb
    clear hb
    go_enter Try.func72, Try.ntmps72
    go_wp2
    go_loopw [5] (fun i wr => ∃ j : Nat, j ≤ n ∧ i = .int .i64 j ∧ AgreeL [] xs ys j ∧ ∃ q, wr = w.drewN q) (fun i _ => n - (intOf i).toNat)
    case atStart => exact ⟨0, Nat.zero_le _, rfl, AgreeL.zero _ _ _, 0, rfl⟩
    case round =>
      obtain ⟨j, hj, rfl, heq, hw⟩ := hrel
      have hx' : Lists wr A n xs := by obtain ⟨q, rfl⟩ := hw; exact hx
      have hy' : Lists wr B n ys := by obtain ⟨q, rfl⟩ := hw; exact hy
      have HW := Lib.hid hw
      clear hw
      have HE := Lib.hid heq
      clear heq
      by_cases hlt : j < n
      · obtain ⟨g1, o1, A1, n1, c1, rfl, _, hc1, hi1⟩ := hx'.at_ hlt
        obtain ⟨g2, o2, A2, n2, c2, rfl, _, hc2, hi2⟩ := hy'.at_ hlt
        by_cases he : xs.getD j [] = ys.getD j []
        · have hnx := Lib.hid (HE.out.succ he)
          have hd := Lib.hid ((decide_eq_true he).symm)
          clear he
          go_wp2
          go_quiet ((go_at_call 89; exact Calls.quiet_of (rints _ _ _ _ _ _ _ _ _ _ hi1 hi2 hd.out)))
          go_wp2
          go_roundw
          case rel => exact ⟨j + 1, by omega, by go_num, hnx.out, drew_more HW.out _⟩
          case measure => simp [intOf]; omega
        · have hfin : Hid (b = false) := Lib.hid (HB.out.trans (decide_eq_false fun e => he (by rw [e])))
          have hd := Lib.hid ((decide_eq_false he).symm)
          clear he
          go_wp2
          go_quiet ((go_at_call 89; exact Calls.quiet_of (rints _ _ _ _ _ _ _ _ _ _ hi1 hi2 hd.out)))
          go_wp2
          go_ret
          exact ⟨ret_bool hfin.out.symm, by first | exact drew_more HW.out _ | exact HW.out⟩
      · obtain rfl : j = n := by omega
        have hfin : Hid (b = true) := Lib.hid (HB.out.trans (decide_eq_true (HE.out.all L1.out L2.out)))
        go_wp2
        go_ret
        exact ⟨ret_bool hfin.out.symm, by first | exact drew_more HW.out _ | exact HW.out⟩
  · have hfin : Hid (b = false) := Lib.hid (hb.trans (decide_eq_false fun e => hnm (by rw [← L1.out, ← L2.out, e])))
    have hd : ((n : Int) != (m : Int)) = true := by simp; omega
    clear hnm hb
    go_enter Try.func72, Try.ntmps72
    go_wp2
    go_ret
    exact ⟨ret_bool hfin.out.symm, 0, rfl⟩

end Go.Proofs.Ythjnghldedfdoaa
end

section
/- Same of two machines by the two texts. -/
namespace Go.Proofs.Ythjnghldedfdoaa
open Go.RowKit

set_option maxHeartbeats 1000000 in
set_option maxRecDepth 100000 in
theorem rsamem (i st i2 st2 : Int) (A B C D : Option Addr) (n c m d p e q f : Nat) (nx ot nx2 ot2 : List (List Int)) (b : Bool) (w : World) (hx : Lists w A n nx) (ho : Lists w B m ot) (hx2 : Lists w C p nx2) (ho2 : Lists w D q ot2)
    (hb : b = decide (i = i2 ∧ st = st2 ∧ nx = nx2 ∧ ot = ot2)) :
    Calls Try.prog 35 #[.agg #[.int .i64 i, .int .i64 st, .slice A n c, .slice B m d], .agg #[.int .i64 i2, .int .i64 st2, .slice C p e, .slice D q f]] w fun e w' => e = .returned (.bool b) ∧ Below w.heap.size w w' := by
  have hb0 := alloc_below w (.cells #[.int .i64 i, .int .i64 st, .slice A n c, .slice B m d] 58)
  have hb1 := bt hb0 (alloc_below (w.alloc (.cells #[.int .i64 i, .int .i64 st, .slice A n c, .slice B m d] 58)) (.cells #[.int .i64 i2, .int .i64 st2, .slice C p e, .slice D q f] 58))
  by_cases h1 : i = i2
  · by_cases h2 : st = st2
    · by_cases h3 : nx = nx2
      · have z1 : (i == i2) = true := by simpa using h1
        have z2 : (st == st2) = true := by simpa using h2
        have H3 := Lib.hid ((decide_eq_true h3).symm)
        have hfin : Hid (b = decide (ot = ot2)) := Lib.hid (by rw [hb, decide_eq_decide]; exact ⟨fun H => H.2.2.2, fun H => ⟨h1, h2, h3, H⟩⟩)
        clear hb h1 h2 h3
        go_enter Try.func35, Try.ntmps35
        go_wp2_with fail
        refine (rlists _ _ _ _ _ _ _ _ _ _ (hx.below hb1) (hx2.below hb1) H3.out).mono ?_
        rintro e w1 ⟨rfl, q1, rfl⟩
        go_wp2_with fail
        refine (rlists _ _ _ _ _ _ _ _ _ _ (ho.below (below_drewN hb1 q1)) (ho2.below (below_drewN hb1 q1)) hfin.out).mono ?_
        rintro e w1 ⟨rfl, q2, rfl⟩
        go_wp2
        go_ret
        exact ⟨rfl, below_drewN hb1 _⟩
      · have z1 : (i == i2) = true := by simpa using h1
        have z2 : (st == st2) = true := by simpa using h2
        have H3 := Lib.hid ((decide_eq_false h3).symm)
        have hfin : Hid (b = false) := Lib.hid (hb.trans (decide_eq_false fun H => h3 H.2.2.1))
        clear hb h1 h2 h3
        go_enter Try.func35, Try.ntmps35
        go_wp2_with fail
        refine (rlists _ _ _ _ _ _ _ _ _ _ (hx.below hb1) (hx2.below hb1) H3.out).mono ?_
        rintro e w1 ⟨rfl, q1, rfl⟩
        go_wp2
        go_ret
        exact ⟨ret_bool hfin.out.symm, below_drewN hb1 q1⟩
    · have z1 : (i == i2) = true := by simpa using h1
      have z2 : (st == st2) = false := by simpa using h2
      have hfin : Hid (b = false) := Lib.hid (hb.trans (decide_eq_false fun H => h2 H.2.1))
      clear hb h1 h2
      go_enter Try.func35, Try.ntmps35
      go_wp2
      go_ret
      exact ⟨ret_bool hfin.out.symm, hb1⟩
  · have z1 : (i == i2) = false := by simpa using h1
    have hfin : Hid (b = false) := Lib.hid (hb.trans (decide_eq_false fun H => h1 H.1))
    clear hb h1
    go_enter Try.func35, Try.ntmps35
    go_wp2
    go_ret
    exact ⟨ret_bool hfin.out.symm, hb1⟩

end Go.Proofs.Ythjnghldedfdoaa
end

section
/- The law DfaMachines. -/
namespace Go.Proofs.Ythjnghldedfdoaa
open Go.RowKit

theorem mac_boxes (w : World) (i st i' st' : Int) (A B A' B' : Option Addr) (n c m d n' c' m' d' : Nat) : ∃ w1, w1 = (w.alloc (.cells #[.int .i64 i, .int .i64 st, .slice A n c, .slice B m d] 25)).alloc (.cells #[.int .i64 i', .int .i64 st', .slice A' n' c', .slice B' m' d'] 58) ∧
    Below w.heap.size w w1 ∧ Dblk w1 w.heap.size (.int .i64 i) (.int .i64 st) (.slice A n c) (.slice B m d) ∧ Yblk w1 (w.heap.size + 1) (.int .i64 i') (.int .i64 st') (.slice A' n' c') (.slice B' m' d') := by
  refine ⟨_, rfl, (alloc_below _ _).alloc (by simp) _, (dfa_box w (.int .i64 i) (.int .i64 st) (.slice A n c) (.slice B m d)).kept (alloc_below _ _) (by simp), ?_⟩
  have := yblk_new (w.alloc (.cells #[.int .i64 i, .int .i64 st, .slice A n c, .slice B m d] 25)) (.int .i64 i') (.int .i64 st') (.slice A' n' c') (.slice B' m' d')
  simpa using this
set_option maxHeartbeats 8000000 in
set_option maxRecDepth 100000 in
theorem mach7_walk (i0 st0 : Int) (A0 B0 : Option Addr) (n0 c0 m0 e0 : Nat) (nx0 : List (List Int)) (ac0 : List Bool) (i1 st1 : Int) (A1 B1 : Option Addr) (n1 c1 m1 e1 : Nat) (nx1 ot1 : List (List Int)) (b : Bool) (w : World) (wn0 : Lists w A0 n0 nx0) (wo0 : BoolsL w B0 m0 ac0) (wn1 : Lists w A1 n1 nx1) (wo1 : Lists w B1 m1 ot1) :
    Calls Try.prog 6 #[.agg #[.int .i64 i0, .int .i64 st0, .slice A0 n0 c0, .slice B0 m0 e0], .agg #[.int .i64 i1, .int .i64 st1, .slice A1 n1 c1, .slice B1 m1 e1], .bool b] w fun e w' => e = .returned (.bool true) ∧ Below w.heap.size w w' := by
  obtain ⟨w0, hw0, hb0, hB, hB'⟩ := mac_boxes w i0 st0 i1 st1 A0 B0 A1 B1 n0 c0 m0 e0 n1 c1 m1 e1
  obtain ⟨k0, k1, k2, k3, _⟩ := hB.cells
  obtain ⟨j0, j1, j2, j3, _⟩ := hB'.cells
  have HW0 := Lib.hid hw0
  have HBX := Lib.hid (fun (W : World) (h : Below w0.heap.size w0 W) => And.intro (hB.on9 h).cells (hB'.on9 h).cells)
  have HX := Lib.hid (fun (W : World) (h : Below w0.heap.size w0 W) => And.intro ((wn0.below hb0).below h) (And.intro ((wn1.below hb0).below h) ((wo1.below hb0).below h)))
  have HBA := Lib.hid (fun (W : World) (h : Below w0.heap.size w0 W) (hm : m0 ≤ 20) => ((wo0.bools hm).below hb0).below h)
  have HB0 := Lib.hid hb0
  have hm47 := wo0.2.1
  obtain ⟨⟨⟨ti, tst, tN, tO⟩, tE⟩, hT⟩ : ∃ V, tomV i0 st0 nx0 ac0 = V := ⟨_, rfl⟩
  obtain ⟨⟨⟨fi, fst, fN, fA⟩, fE⟩, hF⟩ : ∃ V, fmV i1 st1 nx1 ot1 b = V := ⟨_, rfl⟩
  have HT := Lib.hid hT
  have HF := Lib.hid hF
  clear hw0 hB hB' hb0 hT hF
  rw [HW0.out] at k0 k1 k2 k3 j0 j1 j2 j3
  go_enter Try.func6, Try.ntmps6
  go_wp2_with fail
  rw [← HW0.out]
  refine (rgreat7 _ _ _ _ _ _ _ _ _ _ (HX.out _ (Below.refl _ _)).1 hm47).mono ?_
  rintro e wa ⟨g1, rfl, hgr, ba⟩
  have HBa := Lib.hid ba
  clear k0 k1 k2 k3 j0 j1 j2 j3
  obtain ⟨⟨k0, k1, k2, k3, _⟩, ⟨j0, j1, j2, j3, _⟩⟩ := HBX.out _ ba
  clear ba
  cases g1 with
  | true =>
    clear hgr
    go_wp2_with fail
    refine (awake7 _).mono ?_
    rintro e wz ⟨rfl, bz⟩
    go_wp2_with fail
    go_ret
    exact ⟨rfl, bt HB0.out (bt HBa.out bz)⟩
  | false =>
    obtain ⟨_, hm20, _⟩ := hgr rfl
    clear hgr
    go_wp2_with fail
    refine (rgreat7m _ _ _ _ _ _ _ _ _ _ _ (HX.out _ HBa.out).2.1 (HX.out _ HBa.out).2.2).mono ?_
    rintro e wb ⟨g2, rfl, _, bb⟩
    have HBb := Lib.hid (bt HBa.out bb)
    clear k0 k1 k2 k3 j0 j1 j2 j3 bb
    obtain ⟨⟨k0, k1, k2, k3, _⟩, ⟨j0, j1, j2, j3, _⟩⟩ := HBX.out _ HBb.out
    cases g2 with
    | true =>
      go_wp2_with fail
      refine (awake7 _).mono ?_
      rintro e wz ⟨rfl, bz⟩
      go_wp2_with fail
      go_ret
      exact ⟨rfl, bt HB0.out (bt HBb.out bz)⟩
    | false =>
      go_wp2_with fail
      refine (ptomR _ _ _ _ _ _ _ _ _ _ _ (HX.out _ HBb.out).1 (HBA.out _ HBb.out hm20)).mono ?_
      rintro e wc hA
      rw [HT.out] at hA
      obtain ⟨Ac, cc, Bc, dc, he, xc, yc, bc⟩ := hA
      replace he : e = .returned (.tuple #[.agg #[.int .i64 ti, .int .i64 tst, .slice Ac tN.length cc, .slice Bc tO.length dc], .int .i64 tE]) := he
      subst he
      replace xc : Lists wc Ac tN.length tN := xc
      replace yc : Lists wc Bc tO.length tO := yc
      obtain ⟨w3, hw3⟩ : ∃ w3, w3 = wc.alloc (.cells #[.int .i64 ti, .int .i64 tst, .slice Ac tN.length cc, .slice Bc tO.length dc] 58) := ⟨_, rfl⟩
      have b3 : Below wc.heap.size wc w3 := by rw [hw3]; exact alloc_below _ _
      have D3 : Yblk w3 wc.heap.size (.int .i64 ti) (.int .i64 tst) (.slice Ac tN.length cc) (.slice Bc tO.length dc) := by rw [hw3]; exact yblk_new _ _ _ _ _
      have HW3 := Lib.hid hw3
      have HB3 := Lib.hid (bt HBb.out (bt bc b3))
      have HD3 := Lib.hid (fun (W : World) (h : Below w3.heap.size w3 W) => And.intro (D3.on9 h).cells (And.intro ((xc.below b3).below h) ((yc.below b3).below h)))
      clear k0 k1 k2 k3 j0 j1 j2 j3 bc xc yc b3 D3 hw3
      obtain ⟨⟨k0, k1, k2, k3, _⟩, ⟨j0, j1, j2, j3, _⟩⟩ := HBX.out _ HB3.out
      rw [HW3.out] at k0 k1 k2 k3 j0 j1 j2 j3
      go_wp2_with fail
      rw [← HW3.out]
      refine (rtomR _ _ _ _ _ _ _ _ _ _ _ (HX.out _ HB3.out).1 (HBA.out _ HB3.out hm20)).mono ?_
      rintro e wd hA
      rw [HT.out] at hA
      obtain ⟨Ad, cd, Bd, dd, he, xd, yd, bd⟩ := hA
      replace he : e = .returned (.tuple #[.agg #[.int .i64 ti, .int .i64 tst, .slice Ad tN.length cd, .slice Bd tO.length dd], .int .i64 tE]) := he
      subst he
      replace xd : Lists wd Ad tN.length tN := xd
      replace yd : Lists wd Bd tO.length tO := yd
      obtain ⟨w4, hw4⟩ : ∃ w4, w4 = wd.alloc (.cells #[.int .i64 ti, .int .i64 tst, .slice Ad tN.length cd, .slice Bd tO.length dd] 58) := ⟨_, rfl⟩
      have b4 : Below wd.heap.size wd w4 := by rw [hw4]; exact alloc_below _ _
      have D4 : Yblk w4 wd.heap.size (.int .i64 ti) (.int .i64 tst) (.slice Ad tN.length cd) (.slice Bd tO.length dd) := by rw [hw4]; exact yblk_new _ _ _ _ _
      have HW4 := Lib.hid hw4
      have HB34 := Lib.hid (bt bd b4)
      have HB4 := Lib.hid (bt HB3.out (bt bd b4))
      have HD4 := Lib.hid (fun (W : World) (h : Below w4.heap.size w4 W) => And.intro (D4.on9 h).cells (And.intro ((xd.below b4).below h) ((yd.below b4).below h)))
      clear k0 k1 k2 k3 j0 j1 j2 j3 bd xd yd b4 D4 hw4
      obtain ⟨⟨k0, k1, k2, k3, _⟩, ⟨j0, j1, j2, j3, _⟩⟩ := HBX.out _ HB4.out
      rw [HW4.out] at k0 k1 k2 k3 j0 j1 j2 j3
      go_wp2_with fail
      rw [← HW4.out]
      refine (pfmR _ _ _ _ _ _ _ _ _ _ _ _ (HX.out _ HB4.out).2.1 (HX.out _ HB4.out).2.2).mono ?_
      rintro e wf hA
      rw [HF.out] at hA
      obtain ⟨Af, cf, Bf, df, he, xf, yf, bf⟩ := hA
      replace he : e = .returned (.tuple #[.agg #[.int .i64 fi, .int .i64 fst, .slice Af fN.length cf, .slice Bf fA.length df], .int .i64 fE]) := he
      subst he
      replace xf : Lists wf Af fN.length fN := xf
      replace yf : Bools wf Bf fA.length fA := yf
      obtain ⟨w5, hw5⟩ : ∃ w5, w5 = wf.alloc (.cells #[.int .i64 fi, .int .i64 fst, .slice Af fN.length cf, .slice Bf fA.length df] 25) := ⟨_, rfl⟩
      have b5 : Below wf.heap.size wf w5 := by rw [hw5]; exact alloc_below _ _
      have D5 : Dblk w5 wf.heap.size (.int .i64 fi) (.int .i64 fst) (.slice Af fN.length cf) (.slice Bf fA.length df) := by rw [hw5]; exact dfa_box _ _ _ _ _
      have HW5 := Lib.hid hw5
      have HB45 := Lib.hid (bt bf b5)
      have HB5 := Lib.hid (bt HB4.out (bt bf b5))
      have HD5 := Lib.hid (fun (W : World) (h : Below w5.heap.size w5 W) => And.intro (D5.on9 h).cells (And.intro ((xf.below b5).below h) ((yf.below b5).below h)))
      clear k0 k1 k2 k3 j0 j1 j2 j3 bf xf yf b5 D5 hw5
      obtain ⟨⟨k0, k1, k2, k3, _⟩, ⟨j0, j1, j2, j3, _⟩⟩ := HBX.out _ HB5.out
      rw [HW5.out] at k0 k1 k2 k3 j0 j1 j2 j3
      go_wp2_with fail
      rw [← HW5.out]
      refine (rfmR _ _ _ _ _ _ _ _ _ _ _ _ (HX.out _ HB5.out).2.1 (HX.out _ HB5.out).2.2).mono ?_
      rintro e wg hA
      rw [HF.out] at hA
      obtain ⟨Ag, cg, Bg, dg, he, xg, yg, bg⟩ := hA
      replace he : e = .returned (.tuple #[.agg #[.int .i64 fi, .int .i64 fst, .slice Ag fN.length cg, .slice Bg fA.length dg], .int .i64 fE]) := he
      subst he
      replace xg : Lists wg Ag fN.length fN := xg
      replace yg : Bools wg Bg fA.length fA := yg
      obtain ⟨w6, hw6⟩ : ∃ w6, w6 = wg.alloc (.cells #[.int .i64 fi, .int .i64 fst, .slice Ag fN.length cg, .slice Bg fA.length dg] 25) := ⟨_, rfl⟩
      have b6 : Below wg.heap.size wg w6 := by rw [hw6]; exact alloc_below _ _
      have D6 : Dblk w6 wg.heap.size (.int .i64 fi) (.int .i64 fst) (.slice Ag fN.length cg) (.slice Bg fA.length dg) := by rw [hw6]; exact dfa_box _ _ _ _ _
      have HW6 := Lib.hid hw6
      have HB56 := Lib.hid (bt bg b6)
      have HB6 := Lib.hid (bt HB5.out (bt bg b6))
      have HD6 := Lib.hid (fun (W : World) (h : Below w6.heap.size w6 W) => And.intro (D6.on9 h).cells (And.intro ((xg.below b6).below h) ((yg.below b6).below h)))
      have b36 := bt HB34.out (bt HB45.out HB56.out)
      have b46 := bt HB45.out HB56.out
      clear k0 k1 k2 k3 j0 j1 j2 j3 bg xg yg b6 D6 hw6
      obtain ⟨⟨k0, k1, k2, k3, _⟩, xt, yt⟩ := HD3.out _ b36
      obtain ⟨⟨j0, j1, j2, j3, _⟩, xu, yu⟩ := HD4.out _ b46
      rw [HW6.out] at k0 k1 k2 k3 j0 j1 j2 j3
      have t1 : (tE == tE) = true := by simp
      have t2 : (fE == fE) = true := by simp
      go_wp2_with fail
      rw [← HW6.out]
      refine (rsamem ti tst ti tst Ac Bc Ad Bd tN.length cc tO.length dc tN.length cd tO.length dd tN tO tN tO true _ xt yt xu yu (by simp)).mono ?_
      rintro e w7 ⟨rfl, b7⟩
      clear k0 k1 k2 k3 j0 j1 j2 j3 xt yt xu yu
      obtain ⟨⟨k0, k1, k2, k3, _⟩, xt, yt⟩ := HD5.out _ (bt HB56.out b7)
      obtain ⟨⟨j0, j1, j2, j3, _⟩, xu, yu⟩ := HD6.out _ b7
      have HB7 := Lib.hid (bt HB6.out b7)
      clear b7 b36 b46
      go_wp2_with fail
      refine (rsame7 fi fst fi fst Af Bf Ag Bg fN.length cf fA.length df fN.length cg fA.length dg fN fN fA fA true _ xt yt xu yu (by simp)).mono ?_
      rintro e w8 ⟨rfl, b8⟩
      have HB8 := Lib.hid (bt HB7.out b8)
      clear k0 k1 k2 k3 j0 j1 j2 j3 xt yt xu yu b8
      go_wp2_with fail
      refine (awake7 _).mono ?_
      rintro e wz ⟨rfl, bz⟩
      go_wp2_with fail
      go_ret
      exact ⟨rfl, bt HB0.out (bt HB8.out bz)⟩
end Go.Proofs.Ythjnghldedfdoaa
end
