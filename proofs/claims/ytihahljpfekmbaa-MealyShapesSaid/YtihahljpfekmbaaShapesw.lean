/- The walk of MealyShapes. -/
import Derived.Test.YtihahljpfekmbaaShapep
import Derived.Deep.RegionHeld3
namespace Go.Proofs.Ytihahljpfekmbaa
open Go.RowKit

set_option maxHeartbeats 4000000 in
set_option maxRecDepth 100000 in
theorem shapes_walk (i0 st0 : Int) (A0 : Option Addr) (n0 c0 : Nat) (B0 : Option Addr) (m0 e0 : Nat) (nx0 ot0 : List (List Int)) (i1 st1 : Int) (A1 : Option Addr) (n1 c1 : Nat) (B1 : Option Addr) (m1 e1 : Nat) (nx1 ot1 : List (List Int)) (C : Option Addr) (p e : Nat) (ws : List (List Int)) (w : World)
    (wn0 : Lists w A0 n0 nx0) (wo0 : Lists w B0 m0 ot0) (wn1 : Lists w A1 n1 nx1) (wo1 : Lists w B1 m1 ot1) (wc : Lists w C p ws) :
    Calls Try.prog 11 #[.agg #[.int .i64 i0, .int .i64 st0, .slice A0 n0 c0, .slice B0 m0 e0], .agg #[.int .i64 i1, .int .i64 st1, .slice A1 n1 c1, .slice B1 m1 e1], .slice C p e] w fun e w' => e = .returned (.bool true) ∧ Below w.heap.size w w' := by
  have hb0 := alloc_below w (.cells #[.int .i64 i0, .int .i64 st0, .slice A0 n0 c0, .slice B0 m0 e0] 65)
  have hb1 := alloc_below (w.alloc (.cells #[.int .i64 i0, .int .i64 st0, .slice A0 n0 c0, .slice B0 m0 e0] 65)) (.cells #[.int .i64 i1, .int .i64 st1, .slice A1 n1 c1, .slice B1 m1 e1] 65)
  have hs0 : (w.alloc (.cells #[.int .i64 i0, .int .i64 st0, .slice A0 n0 c0, .slice B0 m0 e0] 65)).heap.size = w.heap.size + 1 := by simp
  obtain ⟨P, hP⟩ : ∃ P : World → Prop, P = fun W => Below (w.heap.size + 1 + 1) ((w.alloc (.cells #[.int .i64 i0, .int .i64 st0, .slice A0 n0 c0, .slice B0 m0 e0] 65)).alloc (.cells #[.int .i64 i1, .int .i64 st1, .slice A1 n1 c1, .slice B1 m1 e1] 65)) W := ⟨_, rfl⟩
  have PU := Lib.hid (show ∀ W W' : World, P W → Below W.heap.size W W' → P W' from fun W W' h hb => by
    rw [hP] at h ⊢
    exact h.trans (hb.mono (by have := h.size; simpa using this)))
  have PG := Lib.hid (show ∀ W : World, P W → (W.cell? ⟨w.heap.size, 0, none⟩ = some (.int .i64 i0) ∧ W.cell? ⟨w.heap.size, 1, none⟩ = some (.int .i64 st0) ∧ W.cell? ⟨w.heap.size, 2, none⟩ = some (.slice A0 n0 c0) ∧ W.cell? ⟨w.heap.size, 3, none⟩ = some (.slice B0 m0 e0)) ∧
      (W.cell? ⟨w.heap.size + 1, 0, none⟩ = some (.int .i64 i1) ∧ W.cell? ⟨w.heap.size + 1, 1, none⟩ = some (.int .i64 st1) ∧ W.cell? ⟨w.heap.size + 1, 2, none⟩ = some (.slice A1 n1 c1) ∧ W.cell? ⟨w.heap.size + 1, 3, none⟩ = some (.slice B1 m1 e1)) from fun W h => by
    rw [hP] at h
    have h2 := box4 (w := w.alloc (.cells #[.int .i64 i0, .int .i64 st0, .slice A0 n0 c0, .slice B0 m0 e0] 65)) (wr := W) (t := 65) (by rw [hs0]; exact h)
    rw [hs0] at h2
    refine ⟨box4 ((show Below (w.heap.size + 1) _ _ from by rw [← hs0]; exact hb1).trans (h.mono (Nat.le_succ _))), h2⟩)
  have PL := Lib.hid (show ∀ W : World, P W → (Lists W A0 n0 nx0 ∧ Lists W B0 m0 ot0) ∧ (Lists W A1 n1 nx1 ∧ Lists W B1 m1 ot1) ∧ Lists W C p ws ∧ Below w.heap.size w W from fun W h => by
    rw [hP] at h
    have b : Below w.heap.size w W := (bt hb0 hb1).trans (h.mono (by omega))
    exact ⟨⟨wn0.below b, wo0.below b⟩, ⟨wn1.below b, wo1.below b⟩, wc.below b, b⟩)
  have p0 : P ((w.alloc (.cells #[.int .i64 i0, .int .i64 st0, .slice A0 n0 c0, .slice B0 m0 e0] 65)).alloc (.cells #[.int .i64 i1, .int .i64 st1, .slice A1 n1 c1, .slice B1 m1 e1] 65)) := by rw [hP]; exact Below.refl _ _
  obtain ⟨i2, s2, E2, N, O, hT1, hT2⟩ := trim_both i0 st0 A0 B0 n0 c0 m0 e0 nx0 ot0 wn0.1 wo0.1
  obtain ⟨rs, hR1, hR2⟩ := reach_both i0 st0 A0 B0 n0 c0 m0 e0 nx0 ot0 wn0.1 wo0.1
  obtain ⟨os, hO1, hO2⟩ := outputs_both i0 st0 A0 B0 n0 c0 m0 e0 nx0 ot0 wn0.1 wo0.1
  have HT1 := Lib.hid hT1
  have HT2 := Lib.hid hT2
  have HR1 := Lib.hid hR1
  have HR2 := Lib.hid hR2
  have HO1 := Lib.hid hO1
  have HO2 := Lib.hid hO2
  have HTB := Lib.hid (fun hp => traces_both i0 st0 A0 B0 C n0 c0 m0 e0 p e nx0 ot0 ws wn0.1 wo0.1 wc.1 hp)
  obtain ⟨g, hg⟩ : ∃ g, g = decide (40 < n0 ∨ 40 < m0 ∨ 20 < i0) := ⟨_, rfl⟩
  have HG := Lib.hid hg
  obtain ⟨sb, hsb⟩ : ∃ b, b = decide (i0 = i1 ∧ st0 = st1 ∧ nx0 = nx1 ∧ ot0 = ot1) := ⟨_, rfl⟩
  have HSB := Lib.hid hsb
  clear hP hb0 hb1 hs0 wn0 wo0 wn1 wo1 wc hT1 hT2 hR1 hR2 hO1 hO2 hg hsb
  go_enter Try.func11, Try.ntmps11
  go_wp2_with fail
  refine (rgreatm _ _ _ _ _ _ _ _ _ _ HG.out).mono ?_
  rintro e u1 ⟨rfl, b1⟩
  have p1 := PU.out _ _ p0 b1
  clear p0 b1
  cases g with
  | true =>
    go_wp2_with fail
    refine (awakem _).mono ?_
    rintro e u2 ⟨rfl, b2⟩
    have hfin := Lib.hid (PL.out _ (PU.out _ _ p1 b2)).2.2.2
    clear b2
    go_wp2
    go_ret
    exact ⟨rfl, hfin.out⟩
  | false =>
    obtain ⟨⟨k0, k1, k2, k3⟩, _⟩ := PG.out _ p1
    go_wp2_with fail
    refine (plong _ _ _ ws _ (PL.out _ p1).2.2.1).mono ?_
    rintro e u2 ⟨⟨b, rfl, hlp⟩, rfl⟩
    cases b with
    | true =>
      clear hlp
      go_wp2_with fail
      refine (awakem _).mono ?_
      rintro e u2 ⟨rfl, b2⟩
      have hfin := Lib.hid (PL.out _ (PU.out _ _ p1 b2)).2.2.2
      clear b2
      go_wp2
      go_ret
      exact ⟨rfl, hfin.out⟩
    | false =>
      obtain ⟨ts, E3, hC1, hC2⟩ := HTB.out (by have := (hlp rfl).1; omega)
      have HC1 := Lib.hid hC1
      have HC2 := Lib.hid hC2
      clear hlp hC1 hC2 HTB
      go_wp2_with fail
      refine (HT1.out _ (PL.out _ p1).1.1 (PL.out _ p1).1.2).mono ?_
      rintro e u2 ⟨A2, n2, c2, B2, m2, d2, rfl, ln, lo, b2⟩
      have p2 := PU.out _ _ p1 b2
      clear k0 k1 k2 k3 p1 b2
      have ba := alloc_below u2 (.cells #[.int .i64 i2, .int .i64 s2, .slice A2 n2 c2, .slice B2 m2 d2] 65)
      have hT : Mblk (u2.alloc (.cells #[.int .i64 i2, .int .i64 s2, .slice A2 n2 c2, .slice B2 m2 d2] 65)) u2.heap.size (.int .i64 i2) (.int .i64 s2) (.slice A2 n2 c2) (.slice B2 m2 d2) := heap_alloc_new u2 _
      obtain ⟨gT, hgT⟩ : ∃ g, g = u2.heap.size := ⟨_, rfl⟩
      obtain ⟨u3, hu3⟩ : ∃ u, u = u2.alloc (.cells #[.int .i64 i2, .int .i64 s2, .slice A2 n2 c2, .slice B2 m2 d2] 65) := ⟨_, rfl⟩
      have ln' := ln.below ba
      have lo' := lo.below ba
      rw [← hu3] at ba hT ln' lo'
      rw [← hgT] at hT
      have p3 := PU.out _ _ p2 ba
      have HU := Lib.hid hu3
      have HGT := Lib.hid hgT
      have MgT : Hid (∀ W : World, Below u3.heap.size u3 W → (W.cell? ⟨gT, 0, none⟩ = some (.int .i64 i2) ∧ W.cell? ⟨gT, 1, none⟩ = some (.int .i64 s2) ∧ W.cell? ⟨gT, 2, none⟩ = some (.slice A2 n2 c2) ∧ W.cell? ⟨gT, 3, none⟩ = some (.slice B2 m2 d2)) ∧ Lists W A2 n2 N ∧ Lists W B2 m2 O) := Lib.hid fun W h => by
        have hT2 := hT.upd h
        obtain ⟨a, b, c, d, _⟩ := hT2.cells
        exact ⟨⟨a, b, c, d⟩, ln'.below h, lo'.below h⟩
      clear hu3 hgT hT ln lo ln' lo'
      clear ba p2
      obtain ⟨⟨k0, k1, k2, k3⟩, _⟩ := PG.out _ p3
      rw [HU.out] at k0 k1 k2 k3
      go_wp2_with fail
      rw [← HU.out]
      rw [← HGT.out]
      refine (HT2.out _ (PL.out _ p3).1.1 (PL.out _ p3).1.2).mono ?_
      rintro e u4 ⟨A4, n4, c4, B4, m4, d4, rfl, ln, lo, b4⟩
      have p4 := PU.out _ _ p3 b4
      clear k0 k1 k2 k3 p3 HU HGT
      have ba := alloc_below u4 (.cells #[.int .i64 i2, .int .i64 s2, .slice A4 n4 c4, .slice B4 m4 d4] 65)
      have hT : Mblk (u4.alloc (.cells #[.int .i64 i2, .int .i64 s2, .slice A4 n4 c4, .slice B4 m4 d4] 65)) u4.heap.size (.int .i64 i2) (.int .i64 s2) (.slice A4 n4 c4) (.slice B4 m4 d4) := heap_alloc_new u4 _
      obtain ⟨gU, hgU⟩ : ∃ g, g = u4.heap.size := ⟨_, rfl⟩
      obtain ⟨u5, hu5⟩ : ∃ u, u = u4.alloc (.cells #[.int .i64 i2, .int .i64 s2, .slice A4 n4 c4, .slice B4 m4 d4] 65) := ⟨_, rfl⟩
      have ln' := ln.below ba
      have lo' := lo.below ba
      rw [← hu5] at ba hT ln' lo'
      rw [← hgU] at hT
      have p5 := PU.out _ _ p4 ba
      have b5 := bt b4 ba
      have HU := Lib.hid hu5
      have HGT := Lib.hid hgU
      have MgU : Hid (∀ W : World, Below u5.heap.size u5 W → (W.cell? ⟨gU, 0, none⟩ = some (.int .i64 i2) ∧ W.cell? ⟨gU, 1, none⟩ = some (.int .i64 s2) ∧ W.cell? ⟨gU, 2, none⟩ = some (.slice A4 n4 c4) ∧ W.cell? ⟨gU, 3, none⟩ = some (.slice B4 m4 d4)) ∧ Lists W A4 n4 N ∧ Lists W B4 m4 O) := Lib.hid fun W h => by
        have hT2 := hT.upd h
        obtain ⟨a, b, c, d, _⟩ := hT2.cells
        exact ⟨⟨a, b, c, d⟩, ln'.below h, lo'.below h⟩
      clear hu5 hgU hT ln lo ln' lo'
      clear ba b4 p4
      obtain ⟨⟨k0, k1, k2, k3⟩, _⟩ := PG.out _ p5
      rw [HU.out] at k0 k1 k2 k3
      go_wp2_with fail
      rw [← HU.out]
      rw [← HGT.out]
      refine (HC1.out _ (PL.out _ p5).1.1 (PL.out _ p5).1.2 (PL.out _ p5).2.2.1).mono ?_
      rintro e u6 ⟨A6, c6, rfl, tr6, b6⟩
      have p6 := PU.out _ _ p5 b6
      clear k0 k1 k2 k3 p5 HU HGT
      obtain ⟨⟨k0, k1, k2, k3⟩, _⟩ := PG.out _ p6
      go_wp2_with fail
      refine (HC2.out _ (PL.out _ p6).1.1 (PL.out _ p6).1.2 (PL.out _ p6).2.2.1).mono ?_
      rintro e u7 ⟨A7, c7, rfl, tr7, b7⟩
      have p7 := PU.out _ _ p6 b7
      obtain ⟨⟨x0, x1, x2, x3⟩, xn, xo⟩ := MgT.out _ (bt (bt b5 b6) b7)
      obtain ⟨⟨y0, y1, y2, y3⟩, yn, yo⟩ := MgU.out _ (bt b6 b7)
      have TR6 := Lib.hid (tr6.below b7)
      have TR7 := Lib.hid tr7
      have HSM := Lib.hid (rsamem i2 s2 i2 s2 A2 B2 A4 B4 n2 c2 m2 d2 n4 c4 m4 d4 N O N O true u7 xn xo yn yo (by simp))
      have hlts := Lib.hid tr7.2.1
      clear k0 k1 k2 k3 p6 b5 b6 b7 tr6 tr7 xn xo yn yo
      go_wp2_with fail
      refine HSM.out.mono ?_
      rintro e u8 ⟨rfl, b8⟩
      have p8 := PU.out _ _ p7 b8
      have HST := Lib.hid (rsamet A6 A7 ts.length c6 c7 ts u8 (TR6.out.below b8) (TR7.out.below b8))
      clear p7 b8 x0 x1 x2 x3 y0 y1 y2 y3
      go_wp2_with fail
      refine HST.out.mono ?_
      rintro e u9 ⟨rfl, b9⟩
      have p9 := PU.out _ _ p8 (rd_below b9)
      clear p8 b9
      have hp := PU.out _ _ p9 (Below.refl _ _).drew
      have hxc := PG.out _ hp
      clear p9
      go_wp2
      have HS1 : Hid (∀ W, Lists W A0 n0 nx0 → Lists W B0 m0 ot0 → Lists W A1 n1 nx1 → Lists W B1 m1 ot1 → Calls Try.prog 60 #[.agg #[.int .i64 i0, .int .i64 st0, .slice A0 n0 c0, .slice B0 m0 e0], .agg #[.int .i64 i1, .int .i64 st1, .slice A1 n1 c1, .slice B1 m1 e1]] W fun e w' => e = .returned (.bool sb) ∧ Below W.heap.size W w') := Lib.hid fun W a b c d => psame _ _ _ _ _ _ _ _ _ _ _ _ _ _ _ _ nx0 ot0 nx1 ot1 sb W a b c d HSB.out
      have HS2 : Hid (∀ W, Lists W A0 n0 nx0 → Lists W B0 m0 ot0 → Calls Try.prog 60 #[.agg #[.int .i64 i0, .int .i64 st0, .slice A0 n0 c0, .slice B0 m0 e0], .agg #[.int .i64 i0, .int .i64 st0, .slice A0 n0 c0, .slice B0 m0 e0]] W fun e w' => e = .returned (.bool true) ∧ Below W.heap.size W w') := Lib.hid fun W a b => psame _ _ _ _ _ _ _ _ _ _ _ _ _ _ _ _ nx0 ot0 nx0 ot0 true W a b a b (by simp)
      go_region_held3 (fun W => (W.cell? ⟨w.heap.size, 0, none⟩ = some (.int .i64 i0) ∧ W.cell? ⟨w.heap.size, 1, none⟩ = some (.int .i64 st0) ∧ W.cell? ⟨w.heap.size, 2, none⟩ = some (.slice A0 n0 c0) ∧ W.cell? ⟨w.heap.size, 3, none⟩ = some (.slice B0 m0 e0)) ∧
      (W.cell? ⟨w.heap.size + 1, 0, none⟩ = some (.int .i64 i1) ∧ W.cell? ⟨w.heap.size + 1, 1, none⟩ = some (.int .i64 st1) ∧ W.cell? ⟨w.heap.size + 1, 2, none⟩ = some (.slice A1 n1 c1) ∧ W.cell? ⟨w.heap.size + 1, 3, none⟩ = some (.slice B1 m1 e1))) (first | exact hxc | (simpa using hxc)) (first
        | (go_at_call 56
           refine (HR1.out _ (PL.out _ hp).1.1 (PL.out _ hp).1.2).mono ?_
           rintro e u ⟨A, n, c, rfl, h, b'⟩
           have HA := Lib.hid h
           have hp := PU.out _ _ hp b'
           have hxc := PG.out _ hp)
        | (go_at_call 57
           refine (HR2.out _ (PL.out _ hp).1.1 (PL.out _ hp).1.2).mono ?_
           rintro e u ⟨A, n, c, rfl, h, b'⟩
           have HA := Lib.hid (HA.out.below b')
           have HB := Lib.hid h
           have hp := PU.out _ _ hp b'
           have hxc := PG.out _ hp)
        | (go_at_call 58
           refine (HO1.out _ (PL.out _ hp).1.1 (PL.out _ hp).1.2).mono ?_
           rintro e u ⟨A, n, c, rfl, h, b'⟩
           have HA := Lib.hid h
           have hp := PU.out _ _ hp b'
           have hxc := PG.out _ hp)
        | (go_at_call 59
           refine (HO2.out _ (PL.out _ hp).1.1 (PL.out _ hp).1.2).mono ?_
           rintro e u ⟨A, n, c, rfl, h, b'⟩
           have HA := Lib.hid (HA.out.below b')
           have HB := Lib.hid h
           have hp := PU.out _ _ hp b'
           have hxc := PG.out _ hp)
        | (go_at_call 45
           refine (ints_same _ _ _ _ _ _ _ _ HA.out HB.out).mono ?_
           rintro e u ⟨rfl, b'⟩
           have hp := PU.out _ _ hp b'
           have hxc := PG.out _ hp)
        | (go_at_call 54
           refine (rsamem _ _ _ _ _ _ _ _ _ _ _ _ _ _ _ _ nx0 ot0 nx1 ot1 _ _ (PL.out _ hp).1.1 (PL.out _ hp).1.2 (PL.out _ hp).2.1.1 (PL.out _ hp).2.1.2 HSB.out).mono ?_
           rintro e u ⟨rfl, b'⟩
           have hp := PU.out _ _ hp b'
           have hxc := PG.out _ hp)
        | (go_at_call 40
           refine (awakem _).mono ?_
           rintro e u ⟨rfl, b'⟩
           have hp := PU.out _ _ hp b'
           have hxc := PG.out _ hp)
        | (go_at_call 60
           first
             | (with_reducible refine Calls.mono (HS1.out _ (PL.out _ hp).1.1 (PL.out _ hp).1.2 (PL.out _ hp).2.1.1 (PL.out _ hp).2.1.2) ?_)
             | (with_reducible refine Calls.mono (HS2.out _ (PL.out _ hp).1.1 (PL.out _ hp).1.2) ?_)
           rintro e u ⟨rfl, b'⟩
           have hp := PU.out _ _ hp b'
           have hxc := PG.out _ hp))
      all_goals
        have hfin := Lib.hid (PL.out _ hp).2.2.2
        go_wp2
        go_ret
        exact ⟨rfl, hfin.out⟩
end Go.Proofs.Ytihahljpfekmbaa
