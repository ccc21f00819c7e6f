/- Lemmas of the proofs of this seat, of the parts L9a, L9b, L9c. Conditions: none. -/
import Derived.Test.YtdedgpgdmnfijaaNbd
section
/- The law EquivDistinguishes: the walk. -/
namespace Go.Proofs.Ytdedgpgdmnfijaa
open Go.RowKit

set_option maxHeartbeats 8000000 in
set_option maxRecDepth 100000 in
theorem dist9_walk (i1 st1 i2 st2 : Int) (A B C D : Option Addr) (n c m d n2 c2 m2 d2 : Nat) (nx1 ot1 nx2 ot2 : List (List Int)) (w : World) (hx1 : Lists w A n nx1) (ho1 : Lists w B m ot1) (hx2 : Lists w C n2 nx2) (ho2 : Lists w D m2 ot2) :
    Calls Try.prog 4 #[.agg #[.int .i64 i1, .int .i64 st1, .slice A n c, .slice B m d], .agg #[.int .i64 i2, .int .i64 st2, .slice C n2 c2, .slice D m2 d2]] w fun e w' => e = .returned (.bool true) ∧ Below w.heap.size w w' := by
  obtain ⟨hb0, hB1, hB2⟩ := pair_boxes w i1 st1 i2 st2 A B C D n c m d n2 c2 m2 d2
  obtain ⟨w0, hw0⟩ : ∃ w0, w0 = (w.alloc (.cells #[.int .i64 i1, .int .i64 st1, .slice A n c, .slice B m d] 24)).alloc (.cells #[.int .i64 i2, .int .i64 st2, .slice C n2 c2, .slice D m2 d2] 24) := ⟨_, rfl⟩
  rw [← hw0] at hb0 hB1 hB2
  have HW0 := Lib.hid hw0
  have HX1 := Lib.hid (fun (W : World) (h : Below w0.heap.size w0 W) => (hx1.below hb0).below h)
  have HO1 := Lib.hid (fun (W : World) (h : Below w0.heap.size w0 W) => (ho1.below hb0).below h)
  have HX2 := Lib.hid (fun (W : World) (h : Below w0.heap.size w0 W) => (hx2.below hb0).below h)
  have HO2 := Lib.hid (fun (W : World) (h : Below w0.heap.size w0 W) => (ho2.below hb0).below h)
  have HB1 := Lib.hid (fun (W : World) (h : Below w0.heap.size w0 W) => hB1.on9 h)
  have HB2 := Lib.hid (fun (W : World) (h : Below w0.heap.size w0 W) => hB2.on9 h)
  have hbc := Below.refl w0.heap.size w0
  obtain ⟨k0, k1, k2, k3, _⟩ := hB1.cells
  rw [HW0.out] at k0 k1 k2 k3
  clear hw0 hB1 hB2 hx1 ho1 hx2 ho2
  go_enter Try.func4, Try.ntmps4
  go_wp2_with fail
  rw [← HW0.out]
  refine (rgreat8 _ _ _ _ _ _ _ _ _ _ _ (HX1.out _ hbc) (HO1.out _ hbc)).mono ?_
  rintro e w1 ⟨g1, rfl, a1⟩
  have hbc := bt hbc a1
  clear k0 k1 k2 k3 a1
  cases g1
  · obtain ⟨l0, l1, l2, l3, _⟩ := (HB2.out _ hbc).cells
    go_wp2_with fail
    refine (rgreat8 _ _ _ _ _ _ _ _ _ _ _ (HX2.out _ hbc) (HO2.out _ hbc)).mono ?_
    rintro e w2 ⟨g2, rfl, a2⟩
    have hbc := bt hbc a2
    clear l0 l1 l2 l3 a2
    cases g2
    · obtain ⟨k0, k1, k2, k3, _⟩ := (HB1.out _ hbc).cells
      obtain ⟨l0, l1, l2, l3, _⟩ := (HB2.out _ hbc).cells
      obtain ⟨D0, hD0⟩ : ∃ D0, D0 = dres i1 st1 nx1 ot1 i2 st2 nx2 ot2 := ⟨_, rfl⟩
      have HDL := Lib.hid (show (D0.1.getD []).length ≤ 16384 by rw [hD0]; exact dres_len _ _ _ _ _ _ _ _)
      have HD0 := Lib.hid hD0
      clear hD0
      go_wp2_with fail
      refine (pdist _ _ _ _ _ _ _ _ _ _ _ _ _ _ _ _ _ _ _ _ _ (HX1.out _ hbc) (HO1.out _ hbc) (HX2.out _ hbc) (HO2.out _ hbc)).mono ?_
      rintro e w3 ⟨A3, c3, rfl, h3, a3⟩
      rw [← HD0.out] at h3 ⊢
      have h3 := Owned.ints h3 (by have := HDL.out; omega)
      have hbc := bt hbc a3
      clear k0 k1 k2 k3 l0 l1 l2 l3 a3
      obtain ⟨k0, k1, k2, k3, _⟩ := (HB1.out _ hbc).cells
      obtain ⟨l0, l1, l2, l3, _⟩ := (HB2.out _ hbc).cells
      go_wp2_with fail
      refine (rdist _ _ _ _ _ _ _ _ _ _ _ _ _ _ _ _ _ _ _ _ _ (HX1.out _ hbc) (HO1.out _ hbc) (HX2.out _ hbc) (HO2.out _ hbc)).mono ?_
      rintro e w4 ⟨A4, c4, rfl, h4, a4⟩
      rw [← HD0.out] at h4 ⊢
      have h4 := Owned.ints h4 (by have := HDL.out; omega)
      have h3 := h3.below a4
      have hbc := bt hbc a4
      clear k0 k1 k2 k3 l0 l1 l2 l3 a4
      obtain ⟨k0, k1, k2, k3, _⟩ := (HB1.out _ hbc).cells
      obtain ⟨l0, l1, l2, l3, _⟩ := (HB2.out _ hbc).cells
      go_wp2_with fail
      refine (pequ _ _ _ _ _ _ _ _ _ _ _ _ _ _ _ _ _ _ _ _ _ (HX1.out _ hbc) (HO1.out _ hbc) (HX2.out _ hbc) (HO2.out _ hbc)).mono ?_
      rintro e w5 ⟨rfl, a5⟩
      rw [← HD0.out]
      have h3 := h3.below a5
      have h4 := h4.below a5
      have hbc := bt hbc a5
      clear k0 k1 k2 k3 l0 l1 l2 l3 a5
      obtain ⟨k0, k1, k2, k3, _⟩ := (HB1.out _ hbc).cells
      obtain ⟨l0, l1, l2, l3, _⟩ := (HB2.out _ hbc).cells
      go_wp2_with fail
      refine (requ _ _ _ _ _ _ _ _ _ _ _ _ _ _ _ _ _ _ _ _ _ (HX1.out _ hbc) (HO1.out _ hbc) (HX2.out _ hbc) (HO2.out _ hbc)).mono ?_
      rintro e w6 ⟨rfl, a6⟩
      rw [← HD0.out]
      have h3 := h3.below a6
      have h4 := h4.below a6
      have hbc := bt hbc a6
      clear k0 k1 k2 k3 l0 l1 l2 l3 a6
      clear HD0 HDL
      generalize eqb D0 = q0
      obtain ⟨o, E⟩ := D0
      have t1 : (E == E) = true := by simp
      have t2 : (o.isSome == o.isSome) = true := by simp
      have t3 : (q0 == q0) = true := by simp
      go_wp2_with fail
      refine (requal _ _ _ _ _ _ (o.getD []) (o.getD []) true _ h3 h4 (by simp)).mono ?_
      rintro e w7 ⟨rfl, hq⟩
      have hbc := bt hbc (rd_below hq)
      go_wp2_with fail
      refine (awake9 _).mono ?_
      rintro e w9 ⟨rfl, a9⟩
      have hbc := bt hbc a9
      go_wp2
      go_ret
      exact ⟨rfl, bt hb0 hbc⟩
    · go_wp2_with fail
      refine (awake9 _).mono ?_
      rintro e w9 ⟨rfl, a9⟩
      have hbc := bt hbc a9
      go_wp2
      go_ret
      exact ⟨rfl, bt hb0 hbc⟩
  · go_wp2_with fail
    refine (awake9 _).mono ?_
    rintro e w9 ⟨rfl, a9⟩
    have hbc := bt hbc a9
    go_wp2
    go_ret
    exact ⟨rfl, bt hb0 hbc⟩
end Go.Proofs.Ytdedgpgdmnfijaa
end

section
/- The law EquivStates: the walk. -/
namespace Go.Proofs.Ytdedgpgdmnfijaa
open Go.RowKit

set_option maxHeartbeats 8000000 in
set_option maxRecDepth 100000 in
theorem stat9_walk (i st : Int) (A B : Option Addr) (n c m d : Nat) (nx ot : List (List Int)) (s t : Int) (w : World) (hx : Lists w A n nx) (ho : Lists w B m ot) :
    Calls Try.prog 5 #[.agg #[.int .i64 i, .int .i64 st, .slice A n c, .slice B m d], .int .i64 s, .int .i64 t] w fun e w' => e = .returned (.bool true) ∧ Below w.heap.size w w' := by
  have hb0 := alloc_below w (.cells #[.int .i64 i, .int .i64 st, .slice A n c, .slice B m d] 24)
  have hB0 := mealy_box w (.int .i64 i) (.int .i64 st) (.slice A n c) (.slice B m d)
  obtain ⟨w0, hw0⟩ : ∃ w0, w0 = w.alloc (.cells #[.int .i64 i, .int .i64 st, .slice A n c, .slice B m d] 24) := ⟨_, rfl⟩
  rw [← hw0] at hb0 hB0
  have HW0 := Lib.hid hw0
  have HX := Lib.hid (fun (W : World) (h : Below w0.heap.size w0 W) => (hx.below hb0).below h)
  have HO := Lib.hid (fun (W : World) (h : Below w0.heap.size w0 W) => (ho.below hb0).below h)
  have HB := Lib.hid (fun (W : World) (h : Below w0.heap.size w0 W) => hB0.on9 h)
  have hbc := Below.refl w0.heap.size w0
  clear hw0 hB0 hx ho
  go_enter Try.func5, Try.ntmps5
  go_wp2_with fail
  rw [← HW0.out]
  refine (rgreat8 _ _ _ _ _ _ _ _ _ _ _ (HX.out _ hbc) (HO.out _ hbc)).mono ?_
  rintro e w1 ⟨g1, rfl, a1⟩
  have hbc := bt hbc a1
  clear a1
  cases g1
  · obtain ⟨k0, k1, k2, k3, _⟩ := (HB.out _ hbc).cells
    obtain ⟨D0, hD0⟩ : ∃ D0, D0 = sres i st nx ot s t := ⟨_, rfl⟩
    have HDL := Lib.hid (show (D0.1.getD []).length ≤ 16384 by rw [hD0]; exact sres_len _ _ _ _ _ _)
    have HD0 := Lib.hid hD0
    clear hD0
    go_wp2_with fail
    refine (pstates _ _ _ _ _ _ _ _ _ _ _ _ _ (HX.out _ hbc) (HO.out _ hbc)).mono ?_
    rintro e w3 ⟨A3, c3, rfl, h3, a3⟩
    rw [← HD0.out] at h3 ⊢
    have h3 := Owned.ints h3 (by have := HDL.out; omega)
    have hbc := bt hbc a3
    clear k0 k1 k2 k3 a3
    obtain ⟨k0, k1, k2, k3, _⟩ := (HB.out _ hbc).cells
    go_wp2_with fail
    refine (rstates _ _ _ _ _ _ _ _ _ _ _ _ _ (HX.out _ hbc) (HO.out _ hbc)).mono ?_
    rintro e w4 ⟨A4, c4, rfl, h4, a4⟩
    rw [← HD0.out] at h4 ⊢
    have h4 := Owned.ints h4 (by have := HDL.out; omega)
    have h3 := h3.below a4
    have hbc := bt hbc a4
    clear k0 k1 k2 k3 a4 HD0 HDL
    obtain ⟨o, E⟩ := D0
    have t1 : (E == E) = true := by simp
    have t2 : (o.isSome == o.isSome) = true := by simp
    go_wp2_with fail
    refine (requal _ _ _ _ _ _ (o.getD []) (o.getD []) true _ h3 h4 (by simp)).mono ?_
    rintro e w7 ⟨rfl, hq⟩
    have hbc := bt hbc (rd_below hq)
    go_wp2_with fail
    refine (awake9 _).mono ?_
    rintro e w9 ⟨rfl, a9⟩
    have hbc := bt hbc a9
    go_wp2
    go_ret
    exact ⟨rfl, bt hb0 hbc⟩
  · go_wp2_with fail
    refine (awake9 _).mono ?_
    rintro e w9 ⟨rfl, a9⟩
    have hbc := bt hbc a9
    go_wp2
    go_ret
    exact ⟨rfl, bt hb0 hbc⟩
end Go.Proofs.Ytdedgpgdmnfijaa
end

section
/- The law EquivBounds: the walk. -/
namespace Go.Proofs.Ytdedgpgdmnfijaa
open Go.RowKit

set_option maxHeartbeats 8000000 in
set_option maxRecDepth 100000 in
theorem bnd9_walk (i1 st1 i2 st2 : Int) (A B C D : Option Addr) (n c m d n2 c2 m2 d2 : Nat) (nx1 ot1 nx2 ot2 : List (List Int)) (k : Int) (w : World) (hx1 : Lists w A n nx1) (ho1 : Lists w B m ot1) (hx2 : Lists w C n2 nx2) (ho2 : Lists w D m2 ot2) :
    Calls Try.prog 8 #[.agg #[.int .i64 i1, .int .i64 st1, .slice A n c, .slice B m d], .agg #[.int .i64 i2, .int .i64 st2, .slice C n2 c2, .slice D m2 d2], .int .i64 k] w fun e w' => e = .returned (.bool true) ∧ Below w.heap.size w w' := by
  obtain ⟨hb0, hB1, hB2⟩ := pair_boxes w i1 st1 i2 st2 A B C D n c m d n2 c2 m2 d2
  obtain ⟨w0, hw0⟩ : ∃ w0, w0 = (w.alloc (.cells #[.int .i64 i1, .int .i64 st1, .slice A n c, .slice B m d] 24)).alloc (.cells #[.int .i64 i2, .int .i64 st2, .slice C n2 c2, .slice D m2 d2] 24) := ⟨_, rfl⟩
  rw [← hw0] at hb0 hB1 hB2
  have HW0 := Lib.hid hw0
  have HX1 := Lib.hid (fun (W : World) (h : Below w0.heap.size w0 W) => (hx1.below hb0).below h)
  have HO1 := Lib.hid (fun (W : World) (h : Below w0.heap.size w0 W) => (ho1.below hb0).below h)
  have HX2 := Lib.hid (fun (W : World) (h : Below w0.heap.size w0 W) => (hx2.below hb0).below h)
  have HO2 := Lib.hid (fun (W : World) (h : Below w0.heap.size w0 W) => (ho2.below hb0).below h)
  have HB1 := Lib.hid (fun (W : World) (h : Below w0.heap.size w0 W) => hB1.on9 h)
  have HB2 := Lib.hid (fun (W : World) (h : Below w0.heap.size w0 W) => hB2.on9 h)
  have hbc := Below.refl w0.heap.size w0
  obtain ⟨k0, k1, k2, k3, _⟩ := hB1.cells
  rw [HW0.out] at k0 k1 k2 k3
  clear hw0 hB1 hB2 hx1 ho1 hx2 ho2
  go_enter Try.func8, Try.ntmps8
  go_wp2_with fail
  rw [← HW0.out]
  refine (rgreat8 _ _ _ _ _ _ _ _ _ _ _ (HX1.out _ hbc) (HO1.out _ hbc)).mono ?_
  rintro e w1 ⟨g1, rfl, a1⟩
  have hbc := bt hbc a1
  clear k0 k1 k2 k3 a1
  cases g1
  · obtain ⟨l0, l1, l2, l3, _⟩ := (HB2.out _ hbc).cells
    go_wp2_with fail
    refine (rgreat8 _ _ _ _ _ _ _ _ _ _ _ (HX2.out _ hbc) (HO2.out _ hbc)).mono ?_
    rintro e w2 ⟨g2, rfl, a2⟩
    have hbc := bt hbc a2
    clear l0 l1 l2 l3 a2
    cases g2
    · obtain ⟨k0, k1, k2, k3, _⟩ := (HB1.out _ hbc).cells
      obtain ⟨l0, l1, l2, l3, _⟩ := (HB2.out _ hbc).cells
      obtain ⟨D0, hD0⟩ : ∃ D0, D0 = dres i1 st1 nx1 ot1 i2 st2 nx2 ot2 := ⟨_, rfl⟩
      have HDL := Lib.hid (show (D0.1.getD []).length ≤ 16384 by rw [hD0]; exact dres_len _ _ _ _ _ _ _ _)
      have HD0 := Lib.hid hD0
      clear hD0
      go_wp2_with fail
      refine (pdist _ _ _ _ _ _ _ _ _ _ _ _ _ _ _ _ _ _ _ _ _ (HX1.out _ hbc) (HO1.out _ hbc) (HX2.out _ hbc) (HO2.out _ hbc)).mono ?_
      rintro e w3 ⟨A3, c3, rfl, h3, a3⟩
      rw [← HD0.out] at h3 ⊢
      have h3 := Owned.ints h3 (by have := HDL.out; omega)
      have hbc := bt hbc a3
      clear k0 k1 k2 k3 l0 l1 l2 l3 a3
      obtain ⟨k0, k1, k2, k3, _⟩ := (HB1.out _ hbc).cells
      obtain ⟨l0, l1, l2, l3, _⟩ := (HB2.out _ hbc).cells
      go_wp2_with fail
      refine (pupto _ _ _ _ _ _ _ _ _ _ _ _ _ _ _ _ _ _ _ _ _ _ (HX1.out _ hbc) (HO1.out _ hbc) (HX2.out _ hbc) (HO2.out _ hbc)).mono ?_
      rintro e w4 ⟨rfl, a4⟩
      rw [← HD0.out]
      have h3 := h3.below a4
      have hbc := bt hbc a4
      clear k0 k1 k2 k3 l0 l1 l2 l3 a4
      obtain ⟨k0, k1, k2, k3, _⟩ := (HB1.out _ hbc).cells
      obtain ⟨l0, l1, l2, l3, _⟩ := (HB2.out _ hbc).cells
      go_wp2_with fail
      refine (pequ _ _ _ _ _ _ _ _ _ _ _ _ _ _ _ _ _ _ _ _ _ (HX1.out _ hbc) (HO1.out _ hbc) (HX2.out _ hbc) (HO2.out _ hbc)).mono ?_
      rintro e w5 ⟨rfl, a5⟩
      rw [← HD0.out]
      have hbc := bt hbc a5
      clear k0 k1 k2 k3 l0 l1 l2 l3 a5
      clear HD0 HDL h3
      obtain ⟨o, E⟩ := D0
      by_cases hE : E = 0
      · subst hE
        cases o with
        | none =>
          rw [show upb (none, 0) k = true from rfl, show eqb (none, 0) = true from rfl]
          go_wp2_with fail
          refine (awake9 _).mono ?_
          rintro e w9 ⟨rfl, a9⟩
          have hbc := bt hbc a9
          go_wp2
          go_ret
          exact ⟨rfl, bt hb0 hbc⟩
        | some u =>
          rw [show upb (some u, 0) k = decide (k < (u.length : Int)) from rfl, show eqb (some u, 0) = false from rfl]
          by_cases hk : k < (u.length : Int)
          · have hd : decide (k < (u.length : Int)) = true := decide_eq_true hk
            rw [hd]
            clear hk
            go_wp2_with fail
            refine (awake9 _).mono ?_
            rintro e w9 ⟨rfl, a9⟩
            have hbc := bt hbc a9
            go_wp2
            go_ret
            exact ⟨rfl, bt hb0 hbc⟩
          · have hd : decide (k < (u.length : Int)) = false := decide_eq_false hk
            rw [hd]
            clear hk
            go_wp2_with fail
            refine (awake9 _).mono ?_
            rintro e w9 ⟨rfl, a9⟩
            have hbc := bt hbc a9
            go_wp2
            go_ret
            exact ⟨rfl, bt hb0 hbc⟩
      · have hc : (E == 0) = false := by simpa using hE
        have hc2 : (E != 0) = true := by simpa using hE
        have t1 : (E == E) = true := by simp
        rw [show upb (o, E) k = false by unfold upb; rw [hc]; rfl, show eqb (o, E) = false by unfold eqb; rw [hc]; rfl]
        clear hE
        go_wp2_with fail
        refine (awake9 _).mono ?_
        rintro e w9 ⟨rfl, a9⟩
        have hbc := bt hbc a9
        go_wp2
        go_ret
        exact ⟨rfl, bt hb0 hbc⟩
    · go_wp2_with fail
      refine (awake9 _).mono ?_
      rintro e w9 ⟨rfl, a9⟩
      have hbc := bt hbc a9
      go_wp2
      go_ret
      exact ⟨rfl, bt hb0 hbc⟩
  · go_wp2_with fail
    refine (awake9 _).mono ?_
    rintro e w9 ⟨rfl, a9⟩
    have hbc := bt hbc a9
    go_wp2
    go_ret
    exact ⟨rfl, bt hb0 hbc⟩
end Go.Proofs.Ytdedgpgdmnfijaa
end
