/- Lemmas of the proofs of this seat, of the parts L16p. Conditions: none. -/
import Derived.Test.YtkkmcgapbcikiaaKad
import Derived.Test.YtkkmcgapbcikiaaKae
import Derived.Test.YtkkmcgapbcikiaaKaf
section
/- The law ObserveAdds: the walk. -/
namespace Go.Proofs.Ytkkmcgapbcikiaa
open Go.RowKit

set_option linter.unusedSimpArgs false in
set_option linter.unusedVariables false in
set_option maxHeartbeats 16000000 in
set_option maxRecDepth 100000 in
theorem adds16_walk (i : Int) (T C D : Option Addr) (tn tc m e k f : Nat) (ts : TSr) (xs ys : List Int) (w : World) (hT : Trs w T tn ts) (htc : tn ≤ tc) (hX : Ints w C m xs) (hme : m ≤ e) (hY : Ints w D k ys) (hkf : k ≤ f) :
    Calls Try.prog 5 #[.agg #[.int .i64 i, .slice T tn tc], .agg #[.slice C m e, .slice D k f]] w fun r w' => r = .returned (.bool true) ∧ Below w.heap.size w w' := by
  obtain ⟨w0, hw0⟩ : ∃ w0, w0 = (w.alloc (.cells #[.int .i64 i, .slice T tn tc] 24)).alloc (.cells #[.slice C m e, .slice D k f] 38) := ⟨_, rfl⟩
  obtain ⟨hb0, m1, m2, hs0⟩ := bxs2 w #[.int .i64 i, .slice T tn tc] #[.slice C m e, .slice D k f] 24 38 w0 hw0
  have HM1 := Lib.hid (fun (W : World) (h : Below w0.heap.size w0 W) => m1.on h)
  have HM2 := Lib.hid (fun (W : World) (h : Below w0.heap.size w0 W) => m2.on h)
  have HT := Lib.hid (fun (W : World) (h : Below w0.heap.size w0 W) => (hT.below hb0).below h)
  have HX := Lib.hid (fun (W : World) (h : Below w0.heap.size w0 W) => (hX.below hb0).below h)
  have HY := Lib.hid (fun (W : World) (h : Below w0.heap.size w0 W) => (hY.below hb0).below h)
  have HB0 := Lib.hid hb0
  have HW0 := Lib.hid hw0
  have HLT := Lib.hid hT.1
  have HLX := Lib.hid (show xs.length ≤ 17592186044416 by have := hX.1; have := hX.2.1; omega)
  have HLY := Lib.hid (show ys.length ≤ 17592186044416 by have := hY.1; have := hY.2.1; omega)
  have hbc := Below.refl w0.heap.size w0
  have k0 := (HM1.out _ hbc).cell 0
  have k1 := (HM1.out _ hbc).cell 1
  have l0 := (HM2.out _ hbc).cell 0
  have l1 := (HM2.out _ hbc).cell 1
  simp at k0 k1 l0 l1
  rw [HW0.out] at k0 k1 l0 l1
  clear hw0 hb0 m1 m2 hs0 hT hX hY
  go_enter Try.func5, Try.ntmps5
  go_wp2_with fail
  rw [← HW0.out]
  refine (rgreat16 i T tn tc ts w0 (HT.out _ hbc)).mono ?_
  rintro r w1 ⟨b1, rfl, hg1, a1⟩
  have hbc := bt hbc a1
  clear a1 k0 k1 l0 l1
  cases b1
  case true =>
    clear hg1
    go_wp2_with fail
    refine (awake16 _).mono ?_
    rintro r w9 ⟨rfl, a9⟩
    go_wp2
    go_ret
    exact ⟨rfl, bt HB0.out (bt hbc a9)⟩
  have hn60 : tn ≤ 60 := (hg1 rfl).1
  clear hg1
  have k0 := (HM1.out _ hbc).cell 0
  have k1 := (HM1.out _ hbc).cell 1
  have l0 := (HM2.out _ hbc).cell 0
  have l1 := (HM2.out _ hbc).cell 1
  simp at k0 k1 l0 l1
  go_wp2_with fail
  refine (rlong16 C D m e k f w1).mono ?_
  rintro r w2 ⟨rfl, a2⟩
  have hbc := bt hbc a2
  clear a2 k0 k1 l0 l1
  by_cases hlg : 1100 < m ∨ 1100 < k
  · rw [decide_eq_true hlg]
    go_wp2_with fail
    refine (awake16 _).mono ?_
    rintro r w9 ⟨rfl, a9⟩
    go_wp2
    go_ret
    exact ⟨rfl, bt HB0.out (bt hbc a9)⟩
  rw [decide_eq_false hlg]
  clear hlg
  have k0 := (HM1.out _ hbc).cell 0
  have k1 := (HM1.out _ hbc).cell 1
  have l0 := (HM2.out _ hbc).cell 0
  have l1 := (HM2.out _ hbc).cell 1
  simp at k0 k1 l0 l1
  go_wp2_with fail
  refine (pvalid16 i T tn tc ts w2 (HT.out _ hbc) htc).mono ?_
  rintro r w3 ⟨v, rfl, hv, a3⟩
  have hbc := bt hbc a3
  clear a3 k0 k1 l0 l1
  by_cases hv0 : v = 0
  case neg =>
    have hne : (v != 0) = true := by simpa using hv0
    clear hv hv0
    go_wp2_with fail
    refine (awake16 _).mono ?_
    rintro r w9 ⟨rfl, a9⟩
    go_wp2
    go_ret
    exact ⟨rfl, bt HB0.out (bt hbc a9)⟩
  subst hv0
  obtain ⟨_, _, _, hS, hF, hP, h0, hPF, hC⟩ := vld16_ok hv
  have HO := Lib.hid (show Okt i ts from ⟨hS, hF, hP, h0, hPF, hC⟩)
  have HTL := Lib.hid (show ts.length < 10000 by rw [HLT.out]; omega)
  clear hv hS hF hC hP h0 hPF
  have k0 := (HM1.out _ hbc).cell 0
  have k1 := (HM1.out _ hbc).cell 1
  have l0 := (HM2.out _ hbc).cell 0
  have l1 := (HM2.out _ hbc).cell 1
  simp at k0 k1 l0 l1
  go_wp2_with fail
  refine (padd16 i T C D tn tc m e k f ts xs ys w3 (HT.out _ hbc) (HX.out _ hbc) hme (HY.out _ hbc) hkf HO.out.1 HO.out.2.1 (by omega)).mono ?_
  rintro r w4 h4
  obtain ⟨e4, u4, hu4, A4, n4, c4, rfl, t4, a4⟩ := h4.res (HT.out _ hbc) HO.out HTL.out
  have hbc := bt hbc a4
  have HU4 := Lib.hid hu4
  obtain ⟨w5, hw5⟩ : ∃ w5, w5 = w4.alloc (.cells #[.int .i64 i, .slice A4 n4 c4] 24) := ⟨_, rfl⟩
  obtain ⟨g5, hg5⟩ : ∃ g5, g5 = w4.heap.size := ⟨_, rfl⟩
  have hal : Below w4.heap.size w4 w5 := by rw [hw5]; exact alloc_below _ _
  have m5 : Bx w5 g5 #[.int .i64 i, .slice A4 n4 c4] 24 := by rw [hw5, hg5]; exact bx_new _ _ _
  have hbc5 := bt hbc hal
  have HM5 := Lib.hid (fun (W : World) (h : Below w5.heap.size w5 W) => m5.on h)
  have HT4 := Lib.hid (fun (W : World) (h : Below w5.heap.size w5 W) => (t4.below hal).below h)
  have HW5 := Lib.hid hw5
  have HG5 := Lib.hid hg5
  clear a4 t4 h4 hu4 k0 k1 l0 l1 hw5 hg5 hal m5 hbc
  have hbc := hbc5
  clear hbc5
  have k0 := (HM1.out _ hbc).cell 0
  have k1 := (HM1.out _ hbc).cell 1
  have l0 := (HM2.out _ hbc).cell 0
  have l1 := (HM2.out _ hbc).cell 1
  simp at k0 k1 l0 l1
  rw [HW5.out] at k0 k1 l0 l1
  go_wp2_with fail
  rw [← HW5.out, ← HG5.out]
  refine (rAdd16 i T C D tn tc m e k f ts xs ys w5 (HT.out _ hbc) (HX.out _ hbc) (HY.out _ hbc) HO.out.2.1 (by have := radR_len ts xs ys; have := HTL.out; omega) (fun W hW => radd16 i T C D tn tc m e k f ts xs ys W (HT.out _ (bt hbc hW)) (HX.out _ (bt hbc hW)) (HY.out _ (bt hbc hW)) (by omega))).mono ?_
  rintro r w6 h6
  obtain ⟨e6, u6, hu6, A6, n6, c6, rfl, t6, a6⟩ := h6.res (HT.out _ hbc) HLX.out HLY.out HTL.out
  obtain ⟨rfl, rfl⟩ := HU4.out.uniq hu6
  have hbc := bt hbc a6
  obtain ⟨w7, hw7⟩ : ∃ w7, w7 = w6.alloc (.cells #[.int .i64 i, .slice A6 n6 c6] 24) := ⟨_, rfl⟩
  obtain ⟨g7, hg7⟩ : ∃ g7, g7 = w6.heap.size := ⟨_, rfl⟩
  have hal : Below w6.heap.size w6 w7 := by rw [hw7]; exact alloc_below _ _
  have m7 : Bx w7 g7 #[.int .i64 i, .slice A6 n6 c6] 24 := by rw [hw7, hg7]; exact bx_new _ _ _
  have h57 := bt a6 hal
  have HSM := Lib.hid (rsame_eq16 i A4 A6 n4 c4 n6 c6 u4 w7 (HT4.out _ h57) (t6.below hal))
  have HBC := Lib.hid (bt hbc hal)
  have HW7 := Lib.hid hw7
  have HG7 := Lib.hid hg7
  have p0 := (HM5.out _ h57).cell 0
  have p1 := (HM5.out _ h57).cell 1
  have r0 := m7.cell 0
  have r1 := m7.cell 1
  simp at p0 p1 r0 r1
  rw [HW7.out] at p0 p1 r0 r1
  rw [HG7.out] at r0 r1
  clear a6 t6 h6 hu6 k0 k1 l0 l1 hw7 hg7 hal m7 hbc h57
  go_wp2_with fail
  rw [← HW7.out, ← HG7.out]
  refine HSM.out.mono ?_
  rintro r w8 ⟨rfl, a8⟩
  have hbc := bt HBC.out a8
  clear a8 p0 p1 r0 r1
  go_wp2_with fail
  refine (awake16 _).mono ?_
  rintro r w9 ⟨rfl, a9⟩
  go_wp2
  go_ret
  exact ⟨rfl, bt HB0.out (bt hbc a9)⟩
end Go.Proofs.Ytkkmcgapbcikiaa
end
