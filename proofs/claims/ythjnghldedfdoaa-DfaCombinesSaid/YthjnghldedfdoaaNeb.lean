/- Lemmas of the proofs of this seat, of the parts Dunc, Dcbw. Conditions: none. -/
import Derived.Test.YthjnghldedfdoaaNda
import Derived.Test.YthjnghldedfdoaaNea
import Derived.Test.YthjnghldedfdoaaNag
import Derived.Test.YthjnghldedfdoaaNah
import Derived.Test.YthjnghldedfdoaaNai
import Derived.Test.YthjnghldedfdoaaNaa
section
/- Both sides' results of dfa, Combine and Differ, in one form. -/
namespace Go.Proofs.Ythjnghldedfdoaa
open Go.RowKit

theorem vld2_zero {i st : Int} {nx : List (List Int)} {ac : List Bool} {i' st' : Int} {nx' : List (List Int)} {ac' : List Bool} (h : vld2 i st nx ac i' st' nx' ac' = 0) :
    ∃ I s t n n' : Nat, i = I ∧ st = s ∧ i' = I ∧ st' = t ∧ Dok I s n nx ac ∧ Dok I t n' nx' ac' := by
  unfold vld2 at h
  by_cases h1 : vldD i st nx ac = 0
  · rw [if_pos h1] at h
    by_cases h2 : vldD i' st' nx' ac' = 0
    · rw [if_pos h2] at h
      by_cases h3 : i = i'
      · subst h3
        obtain ⟨I, s, n, e1, rfl, hM⟩ := vldD_zero h1
        obtain ⟨J, t, n', e2, rfl, hM'⟩ := vldD_zero h2
        obtain rfl : I = J := by omega
        exact ⟨I, s, t, n, n', e1, rfl, e1, rfl, hM, hM'⟩
      · rw [if_neg h3] at h; omega
    · rw [if_neg h2] at h; exact absurd h h2
  · rw [if_neg h1] at h; exact absurd h h1
def cmbV (op i st : Int) (nx : List (List Int)) (ac : List Bool) (i' st' : Int) (nx' : List (List Int)) (ac' : List Bool) : (Int × Int × List (List Int) × List Bool) × Int :=
  if 0 ≤ op ∧ op < 4 then (if vld2 i st nx ac i' st' nx' ac' = 0 then
    (if (cmE i.toNat st.toNat nx.length st'.toNat nx'.length nx nx').length ≤ 128 then (((i.toNat : Int), (0 : Int), autN (bothF nx nx') i.toNat (cmE i.toNat st.toNat nx.length st'.toNat nx'.length nx nx'), autA (opA op.toNat ac ac') (cmE i.toNat st.toNat nx.length st'.toNat nx'.length nx nx')), 0) else ((0, 0, [], []), 11))
    else ((0, 0, [], []), vld2 i st nx ac i' st' nx' ac')) else ((0, 0, [], []), 2)
def difV (i st : Int) (nx : List (List Int)) (ac : List Bool) (i' st' : Int) (nx' : List (List Int)) (ac' : List Bool) : (List Int × Bool) × Int :=
  if vld2 i st nx ac i' st' nx' ac' = 0 then (fwR (fun p => aN ac p.1 != aN ac' p.2) (cmE i.toNat st.toNat nx.length st'.toNat nx'.length nx nx'), 0) else (([], false), vld2 i st nx ac i' st' nx' ac')
section
variable (op i st i' st' : Int) (A B A' B' : Option Addr) (n c m d n' c' m' d' : Nat) (nx nx' : List (List Int)) (ac ac' : List Bool) (w : World) (hx : Lists w A n nx) (ha : Bools w B m ac) (hx' : Lists w A' n' nx') (ha' : Bools w B' m' ac')
include hx ha hx' ha'
theorem pcmbR : Calls Try.prog 22 #[.int .i64 op, .agg #[.int .i64 i, .int .i64 st, .slice A n c, .slice B m d], .agg #[.int .i64 i', .int .i64 st', .slice A' n' c', .slice B' m' d']] w (AutR (cmbV op i st nx ac i' st' nx' ac') w) := by
  by_cases ho : 0 ≤ op ∧ op < 4
  · by_cases hv : vld2 i st nx ac i' st' nx' ac' = 0
    · have hV : cmbV op i st nx ac i' st' nx' ac' = (if (cmE i.toNat st.toNat nx.length st'.toNat nx'.length nx nx').length ≤ 128 then (((i.toNat : Int), (0 : Int), autN (bothF nx nx') i.toNat (cmE i.toNat st.toNat nx.length st'.toNat nx'.length nx nx'), autA (opA op.toNat ac ac') (cmE i.toNat st.toNat nx.length st'.toNat nx'.length nx nx')), 0) else ((0, 0, [], []), 11)) := by unfold cmbV; rw [if_pos ho, if_pos hv]
      obtain ⟨I, s, t, N, N', rfl, rfl, rfl, rfl, hM, hM'⟩ := vld2_zero hv
      obtain ⟨k, rfl⟩ : ∃ k : Nat, op = k := ⟨op.toNat, by omega⟩
      obtain rfl : n = N := by rw [← hx.1]; exact hM.nxl
      obtain rfl : n = m := by rw [← ha.1]; exact hM.acl.symm
      obtain rfl : n' = N' := by rw [← hx'.1]; exact hM'.nxl
      obtain rfl : n' = m' := by rw [← ha'.1]; exact hM'.acl.symm
      refine (dcombine k I s t n n' (by omega) A B A' B' c d c' d' nx nx' ac ac' w hx ha hx' ha' hM hM').mono ?_
      rintro e w' ⟨h1, h2⟩
      rw [hV, hx.1, hx'.1]
      simp only [Int.toNat_natCast]
      exact AutP.toR (by have := hM.i2; omega) h1 h2
    · refine (dcombine_bad op i st i' st' A B A' B' n c m d n' c' m' d' nx nx' ac ac' w ho hx ha hx' ha' hv).mono ?_
      rintro e w' ⟨rfl, h3⟩
      rw [show cmbV op i st nx ac i' st' nx' ac' = ((0, 0, [], []), vld2 i st nx ac i' st' nx' ac') by unfold cmbV; rw [if_pos ho, if_neg hv]]
      exact AutR.bad h3
  · refine (dcombine_op op i st i' st' A B A' B' n c m d n' c' m' d' w ho).mono ?_
    rintro e w' ⟨rfl, h3⟩
    rw [show cmbV op i st nx ac i' st' nx' ac' = ((0, 0, [], []), 2) from if_neg ho]
    exact AutR.bad h3
theorem rcmbR : Calls Try.prog 23 #[.int .i64 op, .agg #[.int .i64 i, .int .i64 st, .slice A n c, .slice B m d], .agg #[.int .i64 i', .int .i64 st', .slice A' n' c', .slice B' m' d']] w (AutR (cmbV op i st nx ac i' st' nx' ac') w) := by
  by_cases ho : 0 ≤ op ∧ op < 4
  · by_cases hv : vld2 i st nx ac i' st' nx' ac' = 0
    · have hV : cmbV op i st nx ac i' st' nx' ac' = (if (cmE i.toNat st.toNat nx.length st'.toNat nx'.length nx nx').length ≤ 128 then (((i.toNat : Int), (0 : Int), autN (bothF nx nx') i.toNat (cmE i.toNat st.toNat nx.length st'.toNat nx'.length nx nx'), autA (opA op.toNat ac ac') (cmE i.toNat st.toNat nx.length st'.toNat nx'.length nx nx')), 0) else ((0, 0, [], []), 11)) := by unfold cmbV; rw [if_pos ho, if_pos hv]
      obtain ⟨I, s, t, N, N', rfl, rfl, rfl, rfl, hM, hM'⟩ := vld2_zero hv
      obtain ⟨k, rfl⟩ : ∃ k : Nat, op = k := ⟨op.toNat, by omega⟩
      obtain rfl : n = N := by rw [← hx.1]; exact hM.nxl
      obtain rfl : n = m := by rw [← ha.1]; exact hM.acl.symm
      obtain rfl : n' = N' := by rw [← hx'.1]; exact hM'.nxl
      obtain rfl : n' = m' := by rw [← ha'.1]; exact hM'.acl.symm
      refine (rcomb7 k I s t n n' (by omega) A B A' B' c d c' d' nx nx' ac ac' w hx ha hx' ha' hM hM').mono ?_
      rintro e w' ⟨h1, h2⟩
      rw [hV, hx.1, hx'.1]
      simp only [Int.toNat_natCast]
      exact AutP.toR (by have := hM.i2; omega) h1 h2
    · refine (rcomb7_bad op i st i' st' A B A' B' n c m d n' c' m' d' nx nx' ac ac' w ho hx ha hx' ha' hv).mono ?_
      rintro e w' ⟨rfl, h3⟩
      rw [show cmbV op i st nx ac i' st' nx' ac' = ((0, 0, [], []), vld2 i st nx ac i' st' nx' ac') by unfold cmbV; rw [if_pos ho, if_neg hv]]
      exact AutR.bad h3
  · refine (rcomb7_op op i st i' st' A B A' B' n c m d n' c' m' d' w ho).mono ?_
    rintro e w' ⟨rfl, h3⟩
    rw [show cmbV op i st nx ac i' st' nx' ac' = ((0, 0, [], []), 2) from if_neg ho]
    exact AutR.bad h3
theorem pdifR : Calls Try.prog 24 #[.agg #[.int .i64 i, .int .i64 st, .slice A n c, .slice B m d], .agg #[.int .i64 i', .int .i64 st', .slice A' n' c', .slice B' m' d']] w (WrdR (difV i st nx ac i' st' nx' ac') w) := by
  by_cases hv : vld2 i st nx ac i' st' nx' ac' = 0
  · have hV : difV i st nx ac i' st' nx' ac' = (fwR (fun p => aN ac p.1 != aN ac' p.2) (cmE i.toNat st.toNat nx.length st'.toNat nx'.length nx nx'), 0) := if_pos hv
    obtain ⟨I, s, t, N, N', rfl, rfl, rfl, rfl, hM, hM'⟩ := vld2_zero hv
    obtain rfl : n = N := by rw [← hx.1]; exact hM.nxl
    obtain rfl : n = m := by rw [← ha.1]; exact hM.acl.symm
    obtain rfl : n' = N' := by rw [← hx'.1]; exact hM'.nxl
    obtain rfl : n' = m' := by rw [← ha'.1]; exact hM'.acl.symm
    refine (ddiffer I s t n n' A B A' B' c d c' d' nx nx' ac ac' w hx ha hx' ha' hM hM').mono ?_
    rintro e w' ⟨A3, c3, rfl, h1, h3⟩
    rw [hV, hx.1, hx'.1]
    simp only [Int.toNat_natCast]
    refine ⟨A3, c3, rfl, h1.ints ?_, h3⟩
    have hl := (cm_ens hM hM').len
    have := hM.n2
    have := hM'.n2
    have hnn : n * n' ≤ 128 * 128 := Nat.mul_le_mul hM.n2 hM'.n2
    rcases fw_len (cm_ens hM hM') (fun p => aN ac p.1 != aN ac' p.2) with h | h <;> omega
  · refine (ddiffer_bad i st i' st' A B A' B' n c m d n' c' m' d' nx nx' ac ac' w hx ha hx' ha' hv).mono ?_
    rintro e w' ⟨rfl, h3⟩
    rw [show difV i st nx ac i' st' nx' ac' = (([], false), vld2 i st nx ac i' st' nx' ac') from if_neg hv]
    exact ⟨none, 0, rfl, ints_none7 _, h3⟩
theorem rdifR : Calls Try.prog 25 #[.agg #[.int .i64 i, .int .i64 st, .slice A n c, .slice B m d], .agg #[.int .i64 i', .int .i64 st', .slice A' n' c', .slice B' m' d']] w (WrdR (difV i st nx ac i' st' nx' ac') w) := by
  by_cases hv : vld2 i st nx ac i' st' nx' ac' = 0
  · have hV : difV i st nx ac i' st' nx' ac' = (fwR (fun p => aN ac p.1 != aN ac' p.2) (cmE i.toNat st.toNat nx.length st'.toNat nx'.length nx nx'), 0) := if_pos hv
    obtain ⟨I, s, t, N, N', rfl, rfl, rfl, rfl, hM, hM'⟩ := vld2_zero hv
    obtain rfl : n = N := by rw [← hx.1]; exact hM.nxl
    obtain rfl : n = m := by rw [← ha.1]; exact hM.acl.symm
    obtain rfl : n' = N' := by rw [← hx'.1]; exact hM'.nxl
    obtain rfl : n' = m' := by rw [← ha'.1]; exact hM'.acl.symm
    refine (rdiff7 I s t n n' A B A' B' c d c' d' nx nx' ac ac' w hx ha hx' ha' hM hM').mono ?_
    rintro e w' ⟨A3, c3, rfl, h1, h3⟩
    rw [hV, hx.1, hx'.1]
    simp only [Int.toNat_natCast]
    exact ⟨A3, c3, rfl, h1, h3⟩
  · refine (rdiff7_bad i st i' st' A B A' B' n c m d n' c' m' d' nx nx' ac ac' w hx ha hx' ha' hv).mono ?_
    rintro e w' ⟨rfl, h3⟩
    rw [show difV i st nx ac i' st' nx' ac' = (([], false), vld2 i st nx ac i' st' nx' ac') from if_neg hv]
    exact ⟨none, 0, rfl, ints_none7 _, h3⟩
end
end Go.Proofs.Ythjnghldedfdoaa
end

section
/- The law DfaCombines. -/
namespace Go.Proofs.Ythjnghldedfdoaa
open Go.RowKit

theorem aut_boxes (w : World) (i st i' st' : Int) (A B A' B' : Option Addr) (n c m d n' c' m' d' : Nat) : ∃ w1, w1 = (w.alloc (.cells #[.int .i64 i, .int .i64 st, .slice A n c, .slice B m d] 25)).alloc (.cells #[.int .i64 i', .int .i64 st', .slice A' n' c', .slice B' m' d'] 25) ∧
    Below w.heap.size w w1 ∧ Dblk w1 w.heap.size (.int .i64 i) (.int .i64 st) (.slice A n c) (.slice B m d) ∧ Dblk w1 (w.heap.size + 1) (.int .i64 i') (.int .i64 st') (.slice A' n' c') (.slice B' m' d') := by
  refine ⟨_, rfl, (alloc_below _ _).alloc (by simp) _, (dfa_box w (.int .i64 i) (.int .i64 st) (.slice A n c) (.slice B m d)).kept (alloc_below _ _) (by simp), ?_⟩
  have := dfa_box (w.alloc (.cells #[.int .i64 i, .int .i64 st, .slice A n c, .slice B m d] 25)) (.int .i64 i') (.int .i64 st') (.slice A' n' c') (.slice B' m' d')
  simpa using this
set_option maxHeartbeats 8000000 in
set_option maxRecDepth 100000 in
theorem comb7_walk (op i0 st0 : Int) (A0 B0 : Option Addr) (n0 c0 m0 e0 : Nat) (nx0 : List (List Int)) (ac0 : List Bool) (i1 st1 : Int) (A1 B1 : Option Addr) (n1 c1 m1 e1 : Nat) (nx1 : List (List Int)) (ac1 : List Bool) (w : World) (wn0 : Lists w A0 n0 nx0) (wo0 : BoolsL w B0 m0 ac0) (wn1 : Lists w A1 n1 nx1) (wo1 : BoolsL w B1 m1 ac1) :
    Calls Try.prog 4 #[.int .i64 op, .agg #[.int .i64 i0, .int .i64 st0, .slice A0 n0 c0, .slice B0 m0 e0], .agg #[.int .i64 i1, .int .i64 st1, .slice A1 n1 c1, .slice B1 m1 e1]] w fun e w' => e = .returned (.bool true) ∧ Below w.heap.size w w' := by
  obtain ⟨w0, hw0, hb0, hB, hB'⟩ := aut_boxes w i0 st0 i1 st1 A0 B0 A1 B1 n0 c0 m0 e0 n1 c1 m1 e1
  obtain ⟨k0, k1, k2, k3, _⟩ := hB.cells
  obtain ⟨j0, j1, j2, j3, _⟩ := hB'.cells
  have HW0 := Lib.hid hw0
  have HBX := Lib.hid (fun (W : World) (h : Below w0.heap.size w0 W) => And.intro (hB.on9 h).cells (hB'.on9 h).cells)
  have HX := Lib.hid (fun (W : World) (h : Below w0.heap.size w0 W) => And.intro ((wn0.below hb0).below h) ((wn1.below hb0).below h))
  have HBA := Lib.hid (fun (W : World) (h : Below w0.heap.size w0 W) (hm : m0 ≤ 20) => ((wo0.bools hm).below hb0).below h)
  have HBB := Lib.hid (fun (W : World) (h : Below w0.heap.size w0 W) (hm : m1 ≤ 20) => ((wo1.bools hm).below hb0).below h)
  have HB0 := Lib.hid hb0
  have hm47 := wo0.2.1
  have hm48 := wo1.2.1
  obtain ⟨⟨⟨ti, tst, tN, tA⟩, tE⟩, hT⟩ : ∃ V, cmbV op i0 st0 nx0 ac0 i1 st1 nx1 ac1 = V := ⟨_, rfl⟩
  obtain ⟨⟨⟨su, sb⟩, sE⟩, hU⟩ : ∃ V, difV i0 st0 nx0 ac0 i1 st1 nx1 ac1 = V := ⟨_, rfl⟩
  have HT := Lib.hid hT
  have HU := Lib.hid hU
  clear hw0 hB hB' hb0 hT hU
  rw [HW0.out] at k0 k1 k2 k3 j0 j1 j2 j3
  go_enter Try.func4, Try.ntmps4
  go_wp2_with fail
  rw [← HW0.out]
  refine (rgreat7 _ _ _ _ _ _ _ _ _ _ (HX.out _ (Below.refl _ _)).1 hm47).mono ?_
  rintro e wa ⟨g1, rfl, hgr, ba⟩
  have HBa := Lib.hid ba
  clear k0 k1 k2 k3 j0 j1 j2 j3
  obtain ⟨⟨k0, k1, k2, k3, _⟩, ⟨j0, j1, j2, j3, _⟩⟩ := HBX.out _ ba
  clear ba
  cases g1 with
  | true =>
    clear hgr
    go_wp2_with fail
    refine (awake7 _).mono ?_
    rintro e wz ⟨rfl, bz⟩
    go_wp2_with fail
    go_ret
    exact ⟨rfl, bt HB0.out (bt HBa.out bz)⟩
  | false =>
    obtain ⟨_, hm20, _⟩ := hgr rfl
    clear hgr
    go_wp2_with fail
    refine (rgreat7 _ _ _ _ _ _ _ _ _ _ (HX.out _ HBa.out).2 hm48).mono ?_
    rintro e wb ⟨g2, rfl, hgr, bb⟩
    have HBb := Lib.hid (bt HBa.out bb)
    clear k0 k1 k2 k3 j0 j1 j2 j3 bb
    obtain ⟨⟨k0, k1, k2, k3, _⟩, ⟨j0, j1, j2, j3, _⟩⟩ := HBX.out _ HBb.out
    cases g2 with
    | true =>
      clear hgr
      go_wp2_with fail
      refine (awake7 _).mono ?_
      rintro e wz ⟨rfl, bz⟩
      go_wp2_with fail
      go_ret
      exact ⟨rfl, bt HB0.out (bt HBb.out bz)⟩
    | false =>
      obtain ⟨_, hm21, _⟩ := hgr rfl
      clear hgr
      go_wp2_with fail
      refine (pcmbR _ _ _ _ _ _ _ _ _ _ _ _ _ _ _ _ _ _ _ _ _ _ (HX.out _ HBb.out).1 (HBA.out _ HBb.out hm20) (HX.out _ HBb.out).2 (HBB.out _ HBb.out hm21)).mono ?_
      rintro e wc hA
      rw [HT.out] at hA
      obtain ⟨Ac, cc, Bc, dc, he, xc, yc, bc⟩ := hA
      replace he : e = .returned (.tuple #[.agg #[.int .i64 ti, .int .i64 tst, .slice Ac tN.length cc, .slice Bc tA.length dc], .int .i64 tE]) := he
      subst he
      replace xc : Lists wc Ac tN.length tN := xc
      replace yc : Bools wc Bc tA.length tA := yc
      obtain ⟨w3, hw3⟩ : ∃ w3, w3 = wc.alloc (.cells #[.int .i64 ti, .int .i64 tst, .slice Ac tN.length cc, .slice Bc tA.length dc] 25) := ⟨_, rfl⟩
      have b3 : Below wc.heap.size wc w3 := by rw [hw3]; exact alloc_below _ _
      have D3 : Dblk w3 wc.heap.size (.int .i64 ti) (.int .i64 tst) (.slice Ac tN.length cc) (.slice Bc tA.length dc) := by rw [hw3]; exact dfa_box _ _ _ _ _
      have HW3 := Lib.hid hw3
      have HB3 := Lib.hid (bt HBb.out (bt bc b3))
      have HD3 := Lib.hid (fun (W : World) (h : Below w3.heap.size w3 W) => And.intro (D3.on9 h).cells (And.intro ((xc.below b3).below h) ((yc.below b3).below h)))
      clear k0 k1 k2 k3 j0 j1 j2 j3 bc xc yc b3 D3 hw3
      obtain ⟨⟨k0, k1, k2, k3, _⟩, ⟨j0, j1, j2, j3, _⟩⟩ := HBX.out _ HB3.out
      rw [HW3.out] at k0 k1 k2 k3 j0 j1 j2 j3
      go_wp2_with fail
      rw [← HW3.out]
      refine (rcmbR _ _ _ _ _ _ _ _ _ _ _ _ _ _ _ _ _ _ _ _ _ _ (HX.out _ HB3.out).1 (HBA.out _ HB3.out hm20) (HX.out _ HB3.out).2 (HBB.out _ HB3.out hm21)).mono ?_
      rintro e wd hA
      rw [HT.out] at hA
      obtain ⟨Ad, cd, Bd, dd, he, xd, yd, bd⟩ := hA
      replace he : e = .returned (.tuple #[.agg #[.int .i64 ti, .int .i64 tst, .slice Ad tN.length cd, .slice Bd tA.length dd], .int .i64 tE]) := he
      subst he
      replace xd : Lists wd Ad tN.length tN := xd
      replace yd : Bools wd Bd tA.length tA := yd
      obtain ⟨w4, hw4⟩ : ∃ w4, w4 = wd.alloc (.cells #[.int .i64 ti, .int .i64 tst, .slice Ad tN.length cd, .slice Bd tA.length dd] 25) := ⟨_, rfl⟩
      have b4 : Below wd.heap.size wd w4 := by rw [hw4]; exact alloc_below _ _
      have D4 : Dblk w4 wd.heap.size (.int .i64 ti) (.int .i64 tst) (.slice Ad tN.length cd) (.slice Bd tA.length dd) := by rw [hw4]; exact dfa_box _ _ _ _ _
      have HW4 := Lib.hid hw4
      have HB34 := Lib.hid (bt bd b4)
      have HB4 := Lib.hid (bt HB3.out (bt bd b4))
      have HD4 := Lib.hid (fun (W : World) (h : Below w4.heap.size w4 W) => And.intro (D4.on9 h).cells (And.intro ((xd.below b4).below h) ((yd.below b4).below h)))
      clear k0 k1 k2 k3 j0 j1 j2 j3 bd xd yd b4 D4 hw4
      obtain ⟨⟨k0, k1, k2, k3, _⟩, ⟨j0, j1, j2, j3, _⟩⟩ := HBX.out _ HB4.out
      rw [HW4.out] at k0 k1 k2 k3 j0 j1 j2 j3
      go_wp2_with fail
      rw [← HW4.out]
      refine (pdifR _ _ _ _ _ _ _ _ _ _ _ _ _ _ _ _ _ _ _ _ _ (HX.out _ HB4.out).1 (HBA.out _ HB4.out hm20) (HX.out _ HB4.out).2 (HBB.out _ HB4.out hm21)).mono ?_
      rintro e wg hA
      rw [HU.out] at hA
      obtain ⟨Ag, cg, he, xg, bg⟩ := hA
      replace he : e = .returned (.tuple #[.slice Ag su.length cg, .bool sb, .int .i64 sE]) := he
      subst he
      replace xg : Ints wg Ag su.length su := xg
      have HB4g := Lib.hid bg
      have HBg := Lib.hid (bt HB4.out bg)
      clear k0 k1 k2 k3 j0 j1 j2 j3 bg
      obtain ⟨⟨k0, k1, k2, k3, _⟩, ⟨j0, j1, j2, j3, _⟩⟩ := HBX.out _ HBg.out
      go_wp2_with fail
      refine (rdifR _ _ _ _ _ _ _ _ _ _ _ _ _ _ _ _ _ _ _ _ _ (HX.out _ HBg.out).1 (HBA.out _ HBg.out hm20) (HX.out _ HBg.out).2 (HBB.out _ HBg.out hm21)).mono ?_
      rintro e wh hA
      rw [HU.out] at hA
      obtain ⟨Ah, ch, he, xh, bh⟩ := hA
      replace he : e = .returned (.tuple #[.slice Ah su.length ch, .bool sb, .int .i64 sE]) := he
      subst he
      replace xh : Ints wh Ah su.length su := xh
      have HBh := Lib.hid (bt HBg.out bh)
      have HG := Lib.hid (fun (W : World) (h : Below wh.heap.size wh W) => And.intro ((xg.below bh).below h) (xh.below h))
      obtain ⟨⟨y0, y1, y2, y3, _⟩, xt, yt⟩ := HD3.out _ (bt HB34.out (bt HB4g.out bh))
      obtain ⟨⟨z0, z1, z2, z3, _⟩, xu, yu⟩ := HD4.out _ (bt HB4g.out bh)
      have t1 : (tE == tE) = true := by simp
      have t2 : (sb == sb) = true := by simp
      have t3 : (sE == sE) = true := by simp
      clear k0 k1 k2 k3 j0 j1 j2 j3 xg xh bh
      go_wp2_with fail
      refine (rsame7 ti tst ti tst Ac Bc Ad Bd tN.length cc tA.length dc tN.length cd tA.length dd tN tN tA tA true _ xt yt xu yu (by simp)).mono ?_
      rintro e w7 ⟨rfl, b7⟩
      have HB7 := Lib.hid (bt HBh.out b7)
      clear y0 y1 y2 y3 z0 z1 z2 z3 xt yt xu yu
      obtain ⟨xg, xh⟩ := HG.out _ b7
      clear b7
      go_wp2_with fail
      refine (rsame Ag Ah su.length cg su.length ch su su true _ xg xh (by simp)).mono ?_
      rintro e w8 ⟨rfl, q', rfl⟩
      have HB8 := Lib.hid (below_drewN HB7.out q')
      clear xg xh
      go_wp2_with fail
      refine (awake7 _).mono ?_
      rintro e wz ⟨rfl, bz⟩
      go_wp2_with fail
      go_ret
      exact ⟨rfl, bt HB0.out (bt HB8.out bz)⟩
end Go.Proofs.Ythjnghldedfdoaa
end
