/- Lemmas of the proofs of this seat, of the parts L10a, L10b, L10c, L10d. Conditions: none. -/
import Derived.Test.YtedcdpmflcegbaaNad
import Derived.Test.YtedcdpmflcegbaaNae
import Derived.Test.YtedcdpmflcegbaaNaf
section
/- The law CoverAccess: the walk. -/
namespace Go.Proofs.Ytedcdpmflcegbaa
open Go.RowKit

set_option maxHeartbeats 8000000 in
set_option maxRecDepth 100000 in
theorem acc10_walk (i st : Int) (A B : Option Addr) (n c m d : Nat) (nx ot : List (List Int)) (w : World) (hx : Lists w A n nx) (ho : Lists w B m ot) :
    Calls Try.prog 3 #[.agg #[.int .i64 i, .int .i64 st, .slice A n c, .slice B m d]] w fun e w' => e = .returned (.bool true) ∧ Below w.heap.size w w' := by
  have hb0 := alloc_below w (.cells #[.int .i64 i, .int .i64 st, .slice A n c, .slice B m d] 24)
  have hB0 := mealy_box w (.int .i64 i) (.int .i64 st) (.slice A n c) (.slice B m d)
  obtain ⟨w0, hw0⟩ : ∃ w0, w0 = w.alloc (.cells #[.int .i64 i, .int .i64 st, .slice A n c, .slice B m d] 24) := ⟨_, rfl⟩
  rw [← hw0] at hb0 hB0
  have HW0 := Lib.hid hw0
  have HX := Lib.hid (fun (W : World) (h : Below w0.heap.size w0 W) => (hx.below hb0).below h)
  have HO := Lib.hid (fun (W : World) (h : Below w0.heap.size w0 W) => (ho.below hb0).below h)
  have HB := Lib.hid (fun (W : World) (h : Below w0.heap.size w0 W) => hB0.on9 h)
  have hbc := Below.refl w0.heap.size w0
  clear hw0 hB0 hx ho
  go_enter Try.func3, Try.ntmps3
  go_wp2_with fail
  rw [← HW0.out]
  refine (rgreat8 _ _ _ _ _ _ _ _ _ _ _ (HX.out _ hbc) (HO.out _ hbc)).mono ?_
  rintro e w1 ⟨g1, rfl, a1⟩
  have hbc := bt hbc a1
  clear a1
  cases g1
  · obtain ⟨D0, hD0⟩ : ∃ D0, D0 = accR i st nx ot := ⟨_, rfl⟩
    have HD1 := Lib.hid (show D0.1.length ≤ 128 by rw [hD0]; exact accR_len _ _ _ _)
    have HD2 := Lib.hid (show ∀ x, x ∈ wsL D0.1 → x.length ≤ 128 by rw [hD0]; exact accR_row _ _ _ _)
    have HD0 := Lib.hid hD0
    obtain ⟨T0, hT0⟩ : ∃ T0, T0 = trnR i st nx ot := ⟨_, rfl⟩
    have HT1 := Lib.hid (show T0.length ≤ 8192 by rw [hT0]; exact trnR_len _ _ _ _)
    have HT2 := Lib.hid (show ∀ x, x ∈ T0 → x.length ≤ 129 by rw [hT0]; exact trnR_row _ _ _ _)
    have HT0 := Lib.hid hT0
    clear hD0 hT0
    obtain ⟨k0, k1, k2, k3, _⟩ := (HB.out _ hbc).cells
    go_wp2_with fail
    refine (pacc _ _ _ _ _ _ _ _ _ _ _ (HX.out _ hbc) (HO.out _ hbc)).mono ?_
    rintro e w2 ⟨P1, d1, L1, e1, rfl, p1, l1, a2⟩
    rw [← HD0.out] at p1 l1 ⊢
    have p1 := Owned.ints p1 (by rw [psL_len]; have := HD1.out; omega)
    have l1 := l1.lists (by rw [wsL_len]; have := HD1.out; omega) (fun x h => by have := HD2.out x h; omega)
    have hbc := bt hbc a2
    clear k0 k1 k2 k3 a2
    obtain ⟨k0, k1, k2, k3, _⟩ := (HB.out _ hbc).cells
    go_wp2_with fail
    refine (racc _ _ _ _ _ _ _ _ _ _ _ (HX.out _ hbc) (HO.out _ hbc)).mono ?_
    rintro e w3 ⟨P2, d2, L2, e2, rfl, p2, l2, a3⟩
    rw [← HD0.out] at p2 l2 ⊢
    have p2 := Owned.ints p2 (by rw [psL_len]; have := HD1.out; omega)
    have l2 := l2.lists (by rw [wsL_len]; have := HD1.out; omega) (fun x h => by have := HD2.out x h; omega)
    have p1 := p1.below a3
    have l1 := l1.below a3
    have hbc := bt hbc a3
    clear k0 k1 k2 k3 a3
    obtain ⟨k0, k1, k2, k3, _⟩ := (HB.out _ hbc).cells
    go_wp2_with fail
    refine (pscov _ _ _ _ _ _ _ _ _ _ _ (HX.out _ hbc) (HO.out _ hbc)).mono ?_
    rintro e w4 ⟨L3, e3, rfl, l3, a4⟩
    rw [← HD0.out] at l3 ⊢
    have l3 := l3.lists (by rw [wsL_len]; have := HD1.out; omega) (fun x h => by have := HD2.out x h; omega)
    have p1 := p1.below a4
    have l1 := l1.below a4
    have p2 := p2.below a4
    have l2 := l2.below a4
    have hbc := bt hbc a4
    clear k0 k1 k2 k3 a4
    obtain ⟨k0, k1, k2, k3, _⟩ := (HB.out _ hbc).cells
    go_wp2_with fail
    refine (rscov _ _ _ _ _ _ _ _ _ _ _ (HX.out _ hbc) (HO.out _ hbc)).mono ?_
    rintro e w5 ⟨L4, e4, rfl, l4, a5⟩
    rw [← HD0.out] at l4 ⊢
    have l4 := l4.lists (by rw [wsL_len]; have := HD1.out; omega) (fun x h => by have := HD2.out x h; omega)
    have p1 := p1.below a5
    have l1 := l1.below a5
    have p2 := p2.below a5
    have l2 := l2.below a5
    have l3 := l3.below a5
    have hbc := bt hbc a5
    clear k0 k1 k2 k3 a5
    obtain ⟨k0, k1, k2, k3, _⟩ := (HB.out _ hbc).cells
    go_wp2_with fail
    refine (ptrans _ _ _ _ _ _ _ _ _ _ _ (HX.out _ hbc) (HO.out _ hbc)).mono ?_
    rintro e w6 ⟨L5, e5, rfl, l5, a6⟩
    rw [← HT0.out] at l5 ⊢
    rw [← HD0.out]
    have l5 := l5.lists (by have := HT1.out; omega) (fun x h => by have := HT2.out x h; omega)
    have p1 := p1.below a6
    have l1 := l1.below a6
    have p2 := p2.below a6
    have l2 := l2.below a6
    have l3 := l3.below a6
    have l4 := l4.below a6
    have hbc := bt hbc a6
    clear k0 k1 k2 k3 a6
    obtain ⟨k0, k1, k2, k3, _⟩ := (HB.out _ hbc).cells
    go_wp2_with fail
    refine (rtrans _ _ _ _ _ _ _ _ _ _ _ (HX.out _ hbc) (HO.out _ hbc)).mono ?_
    rintro e w7 ⟨L6, e6, rfl, l6, a7⟩
    rw [← HT0.out] at l6 ⊢
    rw [← HD0.out]
    have l6 := l6.lists (by have := HT1.out; omega) (fun x h => by have := HT2.out x h; omega)
    have p1 := p1.below a7
    have l1 := l1.below a7
    have p2 := p2.below a7
    have l2 := l2.below a7
    have l3 := l3.below a7
    have l4 := l4.below a7
    have l5 := l5.below a7
    have hbc := bt hbc a7
    clear k0 k1 k2 k3 a7
    clear HD0 HD1 HD2 HT0 HT1 HT2
    obtain ⟨D, E⟩ := D0
    have t1 : (E == E) = true := by simp
    go_wp2_with fail
    refine (requal _ _ _ _ _ _ (psL D) (psL D) true _ p1 p2 (by simp)).mono ?_
    rintro e w10 ⟨rfl, hq⟩
    have b10 := rd_below hq
    have l1 := l1.below b10
    have l2 := l2.below b10
    have l3 := l3.below b10
    have l4 := l4.below b10
    have l5 := l5.below b10
    have l6 := l6.below b10
    have hbc := bt hbc b10
    clear b10 hq p1 p2
    go_wp2_with fail
    refine (rsame10 _ _ _ _ _ _ (wsL D) (wsL D) true _ l1 l2 (by simp)).mono ?_
    rintro e w11 ⟨rfl, hq⟩
    have b10 := rd_below hq
    have l3 := l3.below b10
    have l4 := l4.below b10
    have l5 := l5.below b10
    have l6 := l6.below b10
    have hbc := bt hbc b10
    clear b10 hq l1 l2
    go_wp2_with fail
    refine (rsame10 _ _ _ _ _ _ (wsL D) (wsL D) true _ l3 l4 (by simp)).mono ?_
    rintro e w12 ⟨rfl, hq⟩
    have b10 := rd_below hq
    have l5 := l5.below b10
    have l6 := l6.below b10
    have hbc := bt hbc b10
    clear b10 hq l3 l4
    go_wp2_with fail
    refine (rsame10 _ _ _ _ _ _ T0 T0 true _ l5 l6 (by simp)).mono ?_
    rintro e w13 ⟨rfl, hq⟩
    have b10 := rd_below hq
    have hbc := bt hbc b10
    clear b10 hq l5 l6
    go_wp2_with fail
    refine (awake10 _).mono ?_
    rintro e w9 ⟨rfl, a9⟩
    have hbc := bt hbc a9
    go_wp2
    go_ret
    exact ⟨rfl, bt hb0 hbc⟩
  · go_wp2_with fail
    refine (awake10 _).mono ?_
    rintro e w9 ⟨rfl, a9⟩
    have hbc := bt hbc a9
    go_wp2
    go_ret
    exact ⟨rfl, bt hb0 hbc⟩
end Go.Proofs.Ytedcdpmflcegbaa
end

section
/- The law CoverPaths: the walk. -/
namespace Go.Proofs.Ytedcdpmflcegbaa
open Go.RowKit

set_option maxHeartbeats 8000000 in
set_option maxRecDepth 100000 in
theorem paths10_walk (i st : Int) (A B : Option Addr) (n c m d : Nat) (nx ot : List (List Int)) (s t : Int) (w : World) (hx : Lists w A n nx) (ho : Lists w B m ot) :
    Calls Try.prog 4 #[.agg #[.int .i64 i, .int .i64 st, .slice A n c, .slice B m d], .int .i64 s, .int .i64 t] w fun e w' => e = .returned (.bool true) ∧ Below w.heap.size w w' := by
  have hb0 := alloc_below w (.cells #[.int .i64 i, .int .i64 st, .slice A n c, .slice B m d] 24)
  have hB0 := mealy_box w (.int .i64 i) (.int .i64 st) (.slice A n c) (.slice B m d)
  obtain ⟨w0, hw0⟩ : ∃ w0, w0 = w.alloc (.cells #[.int .i64 i, .int .i64 st, .slice A n c, .slice B m d] 24) := ⟨_, rfl⟩
  rw [← hw0] at hb0 hB0
  have HW0 := Lib.hid hw0
  have HX := Lib.hid (fun (W : World) (h : Below w0.heap.size w0 W) => (hx.below hb0).below h)
  have HO := Lib.hid (fun (W : World) (h : Below w0.heap.size w0 W) => (ho.below hb0).below h)
  have HB := Lib.hid (fun (W : World) (h : Below w0.heap.size w0 W) => hB0.on9 h)
  have hbc := Below.refl w0.heap.size w0
  clear hw0 hB0 hx ho
  go_enter Try.func4, Try.ntmps4
  go_wp2_with fail
  rw [← HW0.out]
  refine (rgreat8 _ _ _ _ _ _ _ _ _ _ _ (HX.out _ hbc) (HO.out _ hbc)).mono ?_
  rintro e w1 ⟨g1, rfl, a1⟩
  have hbc := bt hbc a1
  clear a1
  cases g1
  · obtain ⟨D0, hD0⟩ : ∃ D0, D0 = pthR i st nx ot s t := ⟨_, rfl⟩
    have HDL := Lib.hid (show (D0.1.getD []).length ≤ 16384 by rw [hD0]; have := pthR_len i st nx ot s t; omega)
    have HD0 := Lib.hid hD0
    clear hD0
    obtain ⟨k0, k1, k2, k3, _⟩ := (HB.out _ hbc).cells
    go_wp2_with fail
    refine (ppath _ _ _ _ _ _ _ _ _ _ _ _ _ (HX.out _ hbc) (HO.out _ hbc)).mono ?_
    rintro e w3 ⟨A3, c3, rfl, h3, a3⟩
    rw [← HD0.out] at h3 ⊢
    have h3 := Owned.ints h3 (by have := HDL.out; omega)
    have hbc := bt hbc a3
    clear k0 k1 k2 k3 a3
    obtain ⟨k0, k1, k2, k3, _⟩ := (HB.out _ hbc).cells
    go_wp2_with fail
    refine (rpath _ _ _ _ _ _ _ _ _ _ _ _ _ (HX.out _ hbc) (HO.out _ hbc)).mono ?_
    rintro e w4 ⟨A4, c4, rfl, h4, a4⟩
    rw [← HD0.out] at h4 ⊢
    have h4 := Owned.ints h4 (by have := HDL.out; omega)
    have h3 := h3.below a4
    have hbc := bt hbc a4
    clear k0 k1 k2 k3 a4
    clear HD0 HDL
    obtain ⟨o, E⟩ := D0
    have t1 : (E == E) = true := by simp
    have t2 : (o.isSome == o.isSome) = true := by simp
    go_wp2_with fail
    refine (requal _ _ _ _ _ _ (o.getD []) (o.getD []) true _ h3 h4 (by simp)).mono ?_
    rintro e w7 ⟨rfl, hq⟩
    have hbc := bt hbc (rd_below hq)
    clear hq h3 h4
    go_wp2_with fail
    refine (awake10 _).mono ?_
    rintro e w9 ⟨rfl, a9⟩
    have hbc := bt hbc a9
    go_wp2
    go_ret
    exact ⟨rfl, bt hb0 hbc⟩
  · go_wp2_with fail
    refine (awake10 _).mono ?_
    rintro e w9 ⟨rfl, a9⟩
    have hbc := bt hbc a9
    go_wp2
    go_ret
    exact ⟨rfl, bt hb0 hbc⟩
end Go.Proofs.Ytedcdpmflcegbaa
end

section
/- The law CoverTours: the walk. -/
namespace Go.Proofs.Ytedcdpmflcegbaa
open Go.RowKit

set_option maxHeartbeats 8000000 in
set_option maxRecDepth 100000 in
theorem tours10_walk (i st : Int) (A B : Option Addr) (n c m d : Nat) (nx ot : List (List Int)) (w : World) (hx : Lists w A n nx) (ho : Lists w B m ot) :
    Calls Try.prog 5 #[.agg #[.int .i64 i, .int .i64 st, .slice A n c, .slice B m d]] w fun e w' => e = .returned (.bool true) ∧ Below w.heap.size w w' := by
  have hb0 := alloc_below w (.cells #[.int .i64 i, .int .i64 st, .slice A n c, .slice B m d] 24)
  have hB0 := mealy_box w (.int .i64 i) (.int .i64 st) (.slice A n c) (.slice B m d)
  obtain ⟨w0, hw0⟩ : ∃ w0, w0 = w.alloc (.cells #[.int .i64 i, .int .i64 st, .slice A n c, .slice B m d] 24) := ⟨_, rfl⟩
  rw [← hw0] at hb0 hB0
  have HW0 := Lib.hid hw0
  have HX := Lib.hid (fun (W : World) (h : Below w0.heap.size w0 W) => (hx.below hb0).below h)
  have HO := Lib.hid (fun (W : World) (h : Below w0.heap.size w0 W) => (ho.below hb0).below h)
  have HB := Lib.hid (fun (W : World) (h : Below w0.heap.size w0 W) => hB0.on9 h)
  have hbc := Below.refl w0.heap.size w0
  clear hw0 hB0 hx ho
  go_enter Try.func5, Try.ntmps5
  go_wp2_with fail
  rw [← HW0.out]
  refine (rgreat10 _ _ _ _ _ _ _ _ _ _ _ (HX.out _ hbc) (HO.out _ hbc)).mono ?_
  rintro e w1 ⟨g1, rfl, hg, a1⟩
  have hbc := bt hbc a1
  clear a1
  have HG := Lib.hid hg
  clear hg
  cases g1
  · obtain ⟨D0, hD0⟩ : ∃ D0, D0 = tourR i st nx ot := ⟨_, rfl⟩
    have HDL := Lib.hid (show (D0.1.getD []).length ≤ 16384 by rw [hD0]; have := tourR_len i st nx ot; omega)
    have HD0 := Lib.hid hD0
    clear hD0
    obtain ⟨k0, k1, k2, k3, _⟩ := (HB.out _ hbc).cells
    go_wp2_with fail
    refine (ptour _ _ _ _ _ _ _ _ _ _ _ (HX.out _ hbc) (HO.out _ hbc)).mono ?_
    rintro e w3 ⟨A3, c3, rfl, h3, a3⟩
    rw [← HD0.out] at h3 ⊢
    have h3 := Owned.ints h3 (by have := HDL.out; omega)
    have hbc := bt hbc a3
    clear k0 k1 k2 k3 a3
    obtain ⟨k0, k1, k2, k3, _⟩ := (HB.out _ hbc).cells
    go_wp2_with fail
    refine (rtourq (HG.out trivial).1 (HG.out trivial).2 _ _ _ _ _ _ _ _ _ (HX.out _ hbc) (HO.out _ hbc)).mono ?_
    rintro e w4 ⟨A4, c4, rfl, h4, a4⟩
    rw [← HD0.out] at h4 ⊢
    have h4 := Owned.ints h4 (by have := HDL.out; omega)
    have h3 := h3.below a4
    have hbc := bt hbc a4
    clear k0 k1 k2 k3 a4
    clear HD0 HDL
    obtain ⟨o, E⟩ := D0
    have t1 : (E == E) = true := by simp
    go_wp2_with fail
    refine (requal _ _ _ _ _ _ (o.getD []) (o.getD []) true _ h3 h4 (by simp)).mono ?_
    rintro e w7 ⟨rfl, hq⟩
    have hbc := bt hbc (rd_below hq)
    clear hq h3 h4
    go_wp2_with fail
    refine (awake10 _).mono ?_
    rintro e w9 ⟨rfl, a9⟩
    have hbc := bt hbc a9
    go_wp2
    go_ret
    exact ⟨rfl, bt hb0 hbc⟩
  · go_wp2_with fail
    refine (awake10 _).mono ?_
    rintro e w9 ⟨rfl, a9⟩
    have hbc := bt hbc a9
    go_wp2
    go_ret
    exact ⟨rfl, bt hb0 hbc⟩
end Go.Proofs.Ytedcdpmflcegbaa
end

section
/- The law CoverCounts: the walk. -/
namespace Go.Proofs.Ytedcdpmflcegbaa
open Go.RowKit

set_option maxHeartbeats 8000000 in
set_option maxRecDepth 100000 in
theorem counts10_walk (i st : Int) (A B : Option Addr) (n c m d : Nat) (nx ot : List (List Int)) (D : Option Addr) (k e : Nat) (ws : List (List Int)) (w : World) (hx : Lists w A n nx) (ho : Lists w B m ot) (hw : Lists w D k ws) :
    Calls Try.prog 6 #[.agg #[.int .i64 i, .int .i64 st, .slice A n c, .slice B m d], .slice D k e] w fun e w' => e = .returned (.bool true) ∧ Below w.heap.size w w' := by
  have hb0 := alloc_below w (.cells #[.int .i64 i, .int .i64 st, .slice A n c, .slice B m d] 24)
  have hB0 := mealy_box w (.int .i64 i) (.int .i64 st) (.slice A n c) (.slice B m d)
  obtain ⟨w0, hw0⟩ : ∃ w0, w0 = w.alloc (.cells #[.int .i64 i, .int .i64 st, .slice A n c, .slice B m d] 24) := ⟨_, rfl⟩
  rw [← hw0] at hb0 hB0
  have HW0 := Lib.hid hw0
  have HX := Lib.hid (fun (W : World) (h : Below w0.heap.size w0 W) => (hx.below hb0).below h)
  have HO := Lib.hid (fun (W : World) (h : Below w0.heap.size w0 W) => (ho.below hb0).below h)
  have HB := Lib.hid (fun (W : World) (h : Below w0.heap.size w0 W) => hB0.on9 h)
  have hbc := Below.refl w0.heap.size w0
  have HWS := Lib.hid (fun (W : World) (h : Below w0.heap.size w0 W) => (hw.below hb0).below h)
  clear hw
  clear hw0 hB0 hx ho
  go_enter Try.func6, Try.ntmps6
  go_wp2_with fail
  rw [← HW0.out]
  refine (rgreat8 _ _ _ _ _ _ _ _ _ _ _ (HX.out _ hbc) (HO.out _ hbc)).mono ?_
  rintro e w1 ⟨g1, rfl, a1⟩
  have hbc := bt hbc a1
  clear a1
  cases g1
  · have hkb := (HWS.out _ hbc).2.1
    by_cases hk : 50 < k
    · have d1 : decide ((50 : Int) < (k : Int)) = true := decide_eq_true (by omega)
      clear hk
      go_wp2_with fail
      refine (awake10 _).mono ?_
      rintro e w9 ⟨rfl, a9⟩
      have hbc := bt hbc a9
      go_wp2
      go_ret
      exact ⟨rfl, bt hb0 hbc⟩
    · have d1 : decide ((50 : Int) < (k : Int)) = false := decide_eq_false (by omega)
      have HBC := Lib.hid hbc
      go_wp2
      clear d1
      go_loop [22] (fun v => ∃ j : Nat, j ≤ k ∧ v = .int .i64 j) (fun v => k - (intOf v).toNat)
      case atStart => exact ⟨0, Nat.zero_le _, rfl⟩
      case round =>
        obtain ⟨j, hj, rfl⟩ := hrel
        by_cases hlt : j < k
        · obtain ⟨gD, oD, D3, nD, cD, eD, hgD, hdD, hrD⟩ := (HWS.out _ hbc).at_ hlt
          subst eD
          by_cases hl : 100 < nD
          · have d2 : decide ((100 : Int) < (nD : Int)) = true := decide_eq_true (by omega)
            clear hl hrD
            go_wp2_with fail
            refine (awake10 _).mono ?_
            rintro e w9 ⟨rfl, a9⟩
            have hbc := bt hbc a9
            go_wp2
            go_ret
            exact ⟨rfl, bt hb0 hbc⟩
          · have d2 : decide ((100 : Int) < (nD : Int)) = false := decide_eq_false (by omega)
            clear hl hrD
            go_wp2
            go_round
            case rel => exact ⟨j + 1, by omega, by go_num⟩
            case measure => simp [intOf]; omega
        · obtain ⟨D0, hD0⟩ : ∃ D0, D0 = covR i st nx ot ws := ⟨_, rfl⟩
          have HD0 := Lib.hid hD0
          clear hD0
          obtain ⟨k0, k1, k2, k3, _⟩ := (HB.out _ hbc).cells
          go_wp2_with fail
          refine (pcov _ _ _ _ _ _ _ _ _ _ _ _ _ _ _ (HX.out _ hbc) (HO.out _ hbc) (HWS.out _ hbc) (by omega)).mono ?_
          rintro e w2 ⟨rfl, a2⟩
          rw [← HD0.out]
          have hbc := bt hbc a2
          clear k0 k1 k2 k3 a2
          obtain ⟨k0, k1, k2, k3, _⟩ := (HB.out _ hbc).cells
          go_wp2_with fail
          refine (rcov _ _ _ _ _ _ _ _ _ _ _ _ _ _ _ (HX.out _ hbc) (HO.out _ hbc) (HWS.out _ hbc) (by omega)).mono ?_
          rintro e w3 ⟨rfl, a3⟩
          rw [← HD0.out]
          have hbc := bt hbc a3
          clear k0 k1 k2 k3 a3 HD0
          obtain ⟨E1, E2, E3⟩ := D0
          have t1 : (E1 == E1) = true := by simp
          have t2 : (E2 == E2) = true := by simp
          have t3 : (E3 == E3) = true := by simp
          go_wp2_with fail
          refine (awake10 _).mono ?_
          rintro e w9 ⟨rfl, a9⟩
          have hbc := bt hbc a9
          go_wp2
          go_ret
          exact ⟨rfl, bt hb0 hbc⟩
  · go_wp2_with fail
    refine (awake10 _).mono ?_
    rintro e w9 ⟨rfl, a9⟩
    have hbc := bt hbc a9
    go_wp2
    go_ret
    exact ⟨rfl, bt hb0 hbc⟩
end Go.Proofs.Ytedcdpmflcegbaa
end
