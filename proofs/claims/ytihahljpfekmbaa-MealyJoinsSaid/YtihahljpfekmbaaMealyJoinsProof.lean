/-
  PROVED: for every machine and all words u and v, the law MealyJoins returns true and its arguments read as before (the outputs of u followed by v are those of u and then those of v from the state after u). Conditions: none.
-/
import Derived.Test.YtihahljpfekmbaaRows
import Derived.WalkKit
import Derived.ProofKit
import Derived.OpenShut
import Derived.ShutString
import Derived.ChangeOld
import Derived.Below
import Derived.Test.YtihahljpfekmbaaOpenm
import Derived.Test.YtihahljpfekmbaaCutm
import Derived.Deep.RegionHeld3
namespace Go.Proofs.Ytihahljpfekmbaa.mealyJoins
open Go.ChangeShapes Go.WideShapes Go.ChangeAt Go.RowKit
set_option linter.unusedVariables false

theorem own : ownKnob Try.prog.godebug = none := by kernel_rfl
theorem laidOut : laidOutB Try.prog = true := by kernel_rfl

set_option maxHeartbeats 2000000 in
set_option maxRecDepth 100000 in
theorem walk (i0 st0 : Int) (A0 : Option Addr) (n0 c0 : Nat) (B0 : Option Addr) (m0 e0 : Nat) (nx0 ot0 : List (List Int)) (a1 : Option Addr) (len1 cap1 : Nat) (z1 : List Int) (a2 : Option Addr) (len2 cap2 : Nat) (z2 : List Int) (w : World) (wn0 : Lists w A0 n0 nx0) (wo0 : Lists w B0 m0 ot0) (wi0 : (Lit.int .i64 i0).wf = true) (ws0 : (Lit.int .i64 st0).wf = true) (cc1 : len1 ≤ cap1) (w1 : Ints w a1 len1 z1) (cc2 : len2 ≤ cap2) (w2 : Ints w a2 len2 z2) :
    Calls Try.prog 12 #[.agg #[.int .i64 i0, .int .i64 st0, .slice A0 n0 c0, .slice B0 m0 e0], .slice a1 len1 cap1, .slice a2 len2 cap2] w fun e w' => e = .returned (.bool true) ∧ Below w.heap.size w w' := by
  have hb0 := alloc_below w (.cells #[.int .i64 i0, .int .i64 st0, .slice A0 n0 c0, .slice B0 m0 e0] 65)
  have hbr := Below.refl (w.heap.size + 1) (w.alloc (.cells #[.int .i64 i0, .int .i64 st0, .slice A0 n0 c0, .slice B0 m0 e0] 65))
  have T : Hid (∀ W : World, Below (w.heap.size + 1) (w.alloc (.cells #[.int .i64 i0, .int .i64 st0, .slice A0 n0 c0, .slice B0 m0 e0] 65)) W → Lists W A0 n0 nx0 ∧ Lists W B0 m0 ot0 ∧ Ints W a1 len1 z1 ∧ Ints W a2 len2 z2 ∧ Below w.heap.size w W) := Lib.hid fun W h =>
    have b := hb0.trans (h.mono (Nat.le_succ _))
    ⟨wn0.below b, wo0.below b, w1.below b, w2.below b, b⟩
  have l1 := Lib.hid w1.1
  have l2 := Lib.hid w2.1
  have hk1 := w1.2.1
  have hk2 := w2.2.1
  have hln : n0 = nx0.length := wn0.1.symm
  have hlm : m0 = ot0.length := wo0.1.symm
  have HLN := Lib.hid hln
  have HLM := Lib.hid hlm
  clear wn0 wo0 w1 w2 hln hlm wi0 ws0
  by_cases hg : 1024 < len1 + len2
  · have t1 : decide ((1024 : Int) < (len1 : Int) + (len2 : Int)) = true := by simp; omega
    go_enter Try.func12, Try.ntmps12
    go_wp2_with fail
    refine (awakem _).mono ?_
    rintro e u1 ⟨rfl, b1⟩
    go_wp2
    go_ret
    exact ⟨rfl, bt hb0 b1⟩
  · have t1 : decide ((1024 : Int) < (len1 : Int) + (len2 : Int)) = false := by simp; omega
    by_cases ha : (frm i0 st0 nx0 ot0 st0 z1).2.2 = 0
    · obtain ⟨i, st, n, s, rfl, rfl, es, hs, hM, hc1⟩ := frm_zero ha
      obtain rfl : st = s := by omega
      obtain rfl : n0 = n := by rw [HLN.out]; exact hM.nxl
      obtain rfl : m0 = n0 := by rw [HLM.out]; exact hM.otl
      clear ha es
      have hS := hM.runS_lt z1 st hs (chk_zero hc1).2.2.2.mem
      by_cases hb : chk z2 i = 0
      · have hcc := chk_append hc1 hb (by rw [l1.out, l2.out]; omega)
        have HC1 := Lib.hid hc1
        have HB := Lib.hid hb
        have HCC := Lib.hid hcc
        have HRO := Lib.hid (runO_append nx0 ot0 z1 z2 st)
        have HRS := Lib.hid (runS_append nx0 z1 z2 st)
        have LJ := Lib.hid (show (z1 ++ z2).length = len1 + len2 by rw [List.length_append, l1.out, l2.out])
        have LO := Lib.hid (show (runO nx0 ot0 st z1).length = len1 by rw [runO_len, l1.out])
        have LF := Lib.hid (show [z1, z2].flatten = z1 ++ z2 by simp)
        clear hb hc1 hcc
        go_enter Try.func12, Try.ntmps12
        go_wp2_with fail
        refine (pfrom_ok i st m0 _ _ _ _ _ len1 _ st nx0 ot0 z1 _ hM (T.out _ hbr).1 (T.out _ hbr).2.1 (T.out _ hbr).2.2.1 hs HC1.out).mono ?_
        rintro e u1 ⟨A1, f1, rfl, h1, _, b1⟩
        have hbr1 := hbr.trans (b1.mono (bsz hbr))
        obtain ⟨k0, k1, k2, k3⟩ := box4 hbr1
        go_wp2_with fail
        refine (pfrom_ok i st m0 _ _ _ _ _ len2 _ _ nx0 ot0 z2 _ hM (T.out _ hbr1).1 (T.out _ hbr1).2.1 (T.out _ hbr1).2.2.2.1 hS HB.out).mono ?_
        rintro e u2 ⟨A2, f2, rfl, h2, _, b2⟩
        have h1 := h1.below b2
        have hbr2 := hbr1.trans (b2.mono (bsz hbr1))
        clear k0 k1 k2 k3
        obtain ⟨k0, k1, k2, k3⟩ := box4 hbr2
        have hbc := hbr2.drew
        have hxc := box4 hbc
        have H1 := Lib.hid (h1.drewN 1)
        have H2 := Lib.hid (h2.drewN 1)
        clear b1 b2 hbr hbr1 h1 h2
        go_wp2
        go_region_held3 (fun w' => w'.cell? ⟨w.heap.size, 0, none⟩ = some (.int .i64 i) ∧ w'.cell? ⟨w.heap.size, 1, none⟩ = some (.int .i64 st) ∧ w'.cell? ⟨w.heap.size, 2, none⟩ = some (.slice A0 m0 c0) ∧ w'.cell? ⟨w.heap.size, 3, none⟩ = some (.slice B0 m0 e0)) (first | exact hxc | (simpa using hxc) | exact box4 (hbc.trans ((alloc_below _ _).mono (bsz hbc)))) (first
          | (go_at_call 61; refine (join_two (T.out _ hbc).2.2.1 (T.out _ hbc).2.2.2.1 (by omega)).mono ?_; rintro e w' ⟨Aj, cj, rfl, hj, b'⟩; have H1 := Lib.hid (Ints.below (w := _) H1.out b'); have H2 := Lib.hid (Ints.below (w := _) H2.out b'); have hbc := hbc.trans (b'.mono (bsz hbc)); have hxc := box4 hbc)
          | (go_at_call 43; refine (pfrom_ok i st m0 _ _ _ _ _ (len1 + len2) _ st nx0 ot0 (z1 ++ z2) _ hM (T.out _ hbc).1 (T.out _ hbc).2.1 hj hs HCC.out).mono ?_; rintro e w' ⟨A3, f3, rfl, h3, h4, b'⟩; rw [HRS.out]; rw [HRO.out] at h3; have H1 := Lib.hid (H1.out.below b'); have H2 := Lib.hid (H2.out.below b'); have hbc := hbc.trans (b'.mono (bsz hbc)); have hxc := box4 hbc))
        all_goals
          have hhd := fun W => run_head A3 (len1 + len2) f3 len1 (by omega) h4 W
          have htl := fun W => run_tail A3 (len1 + len2) f3 len1 (by omega) W
          have D1 : (((len1 + len2 : Nat) : Int) != (len1 : Int) + (len2 : Int)) = false := by simp
          have i1 := h3.head (p := len1) (by omega)
          have i2 := h3.tail (c := f3) (p := len1) (by omega) h4
          rw [List.take_left' LO.out] at i1
          rw [List.drop_left' LO.out, Nat.add_sub_cancel_left] at i2
          simp only [Nat.add_sub_cancel_left] at htl
          have I1 := Lib.hid i1
          have I2 := Lib.hid i2
          have hbw := (T.out _ hbc).2.2.2.2
          have H4 := Lib.hid h4
          clear i1 i2 h3 hxc h4
          generalize (if f3 = len1 then A3 else A3.map (·.add len1)) = At at htl I2
          go_wp2_with fail
          refine (ints_same _ _ _ _ _ _ _ _ I1.out H1.out).mono ?_
          rintro e u5 ⟨rfl, b5⟩
          go_wp2_with fail
          refine (ints_same _ _ _ _ _ _ _ _ (I2.out.below b5) (H2.out.below b5)).mono ?_
          rintro e u6 ⟨rfl, b6⟩
          go_wp2_with fail
          refine (awakem _).mono ?_
          rintro e u7 ⟨rfl, b7⟩
          go_wp2
          go_ret
          exact ⟨rfl, bt (bt (bt hbw b5) b6) b7⟩
      · have HC1 := Lib.hid hc1
        have hbad := Lib.hid (frm_word (st := st) hM.vld (show 0 ≤ ((runS nx0 st z1 : Nat) : Int) ∧ ((runS nx0 st z1 : Nat) : Int) < nx0.length by rw [hM.nxl]; omega) hb)
        have hne : (chk z2 i != 0) = true := by simpa using hb
        clear hc1
        go_enter Try.func12, Try.ntmps12
        go_wp2_with fail
        refine (pfrom_ok i st m0 _ _ _ _ _ len1 _ st nx0 ot0 z1 _ hM (T.out _ hbr).1 (T.out _ hbr).2.1 (T.out _ hbr).2.2.1 hs HC1.out).mono ?_
        rintro e u1 ⟨A1, f1, rfl, h1, _, b1⟩
        have hbr1 := hbr.trans (b1.mono (bsz hbr))
        obtain ⟨k0, k1, k2, k3⟩ := box4 hbr1
        go_wp2_with fail
        refine (pfrom_law _ _ _ _ _ _ _ _ _ _ _ nx0 ot0 _ z2 _ (T.out _ hbr1).1 (T.out _ hbr1).2.1 (T.out _ hbr1).2.2.2.1).mono ?_
        rintro e u2 ⟨A2, f2, rfl, _, b2⟩
        rw [hbad.out]
        have hbr2 := hbr1.trans (b2.mono (bsz hbr1))
        generalize chk z2 i = E at hne
        clear k0 k1 k2 k3 hb
        go_wp2_with fail
        refine (awakem _).mono ?_
        rintro e u7 ⟨rfl, b7⟩
        go_wp2
        go_ret
        exact ⟨rfl, bt (T.out _ hbr2).2.2.2.2 b7⟩
    · have hne : ((frm i0 st0 nx0 ot0 st0 z1).2.2 != 0) = true := by simpa using ha
      go_enter Try.func12, Try.ntmps12
      go_wp2_with fail
      refine (pfrom_law _ _ _ _ _ _ _ _ _ _ _ nx0 ot0 _ z1 _ (T.out _ hbr).1 (T.out _ hbr).2.1 (T.out _ hbr).2.2.1).mono ?_
      rintro e u1 ⟨A1, f1, rfl, _, b1⟩
      have hbr1 := hbr.trans (b1.mono (bsz hbr))
      obtain ⟨k0, k1, k2, k3⟩ := box4 hbr1
      generalize frm i0 st0 nx0 ot0 st0 z1 = r at hne
      go_wp2_with fail
      refine (pfrom_law _ _ _ _ _ _ _ _ _ _ _ nx0 ot0 _ z2 _ (T.out _ hbr1).1 (T.out _ hbr1).2.1 (T.out _ hbr1).2.2.2.1).mono ?_
      rintro e u2 ⟨A2, f2, rfl, _, b2⟩
      have hbr2 := hbr1.trans (b2.mono (bsz hbr1))
      clear k0 k1 k2 k3 ha
      go_wp2_with fail
      refine (awakem _).mono ?_
      rintro e u7 ⟨rfl, b7⟩
      go_wp2
      go_ret
      exact ⟨rfl, bt (T.out _ hbr2).2.2.2.2 b7⟩

set_option maxRecDepth 100000 in
theorem lifted (os : Os) (started : os.Started) (H : Type) (enc : TypeId × Value → H) :
    ReturnsInHanded {} Try.checked os 12 .any (Rows.mealyJoinsSpec.pre6 enc Try.prog Try.f12 Rows.mealyJoinsRow.domain false) (Rows.mealyJoinsSpec.post enc Try.prog Try.f12 false true false false) := by
  refine handed_sized (C := Try.checked) own started (by kernel_rfl) Try.func12
    (ChangeSpec.witness6 (enc := enc) (C := Try.checked) false ⟨#[], #[.agg #[.int .i64 0, .int .i64 0, .slice none 0 0, .slice none 0 0], .slice none 0 0, .slice none 0 0], []⟩ 8 (by kernel_rfl) (by kernel_rfl) (by kernel_rfl) (by kernel_rfl)) ?_
  intro W base args ds gs before hval0 hW hwt
  have hval : ∀ (j : Nat) t v, Try.f12.params[j]? = some t → args[j]? = some v → Value.okWide Try.prog W .any base t v := hval0
  have hW' := hW
  obtain ⟨p, q, hA0, hV, rfl, hfz, hnd⟩ := hW
  have hA : DataW.TrodAll enc Try.prog W 0 (fun _ => true) true Try.f12.params.toList args.toList ds p := hA0
  rw [Try.params12] at hA hval
  obtain ⟨v0, vs0, d0, ds0, p0, q0, hargs, rfl, rfl, h0, r0⟩ := trodAll_cons hA
  obtain ⟨v1, vs1, d1, ds1, p1, q1, rfl, rfl, rfl, h1, r1⟩ := trodAll_cons r0
  obtain ⟨v2, vs2, d2, ds2, p2, q2, rfl, rfl, rfl, h2, r2⟩ := trodAll_cons r1
  obtain ⟨rfl, rfl, rfl⟩ := trodAll_nil r2
  obtain rfl : args = #[v0, v1, v2] := by cases args; simp_all
  obtain ⟨rfl, rfl⟩ := trodVars_none hV
  have hwt : (DataW.weightsEach Try.prog [65, 32, 32] [d0, d1, d2]).all (· ≤ reachBytes) = true := hwt
  have k0 := h0
  have lt0 : ∀ x ∈ p0, x.block < W.heap.size := by obtain ⟨m, hm⟩ := k0; exact DataW.trod_lt m _ _ _ hm
  have l0 := light_of (j := 0) hwt rfl rfl
  obtain ⟨i0, st0, A0, n0, c0, B0, m0, e0, nx0, ot0, rfl, wn0, wo0, wi0, ws0⟩ := open_mealy (by kernel_rfl) (by kernel_rfl) (hval 0 65 v0 rfl rfl) h0 l0
  have k1 := h1
  have lt1 : ∀ x ∈ p1, x.block < W.heap.size := by obtain ⟨m, hm⟩ := k1; exact DataW.trod_lt m _ _ _ hm
  have l1 := light_of (j := 1) hwt rfl rfl
  obtain ⟨a1, len1, cap1, rfl⟩ := okWide_slice Try.underlying32 (hval 1 32 v1 rfl rfl)
  obtain ⟨z1, cc1, w1⟩ : ∃ z, len1 ≤ cap1 ∧ Ints W a1 len1 z := by
    obtain ⟨fuel, hf⟩ := h1
    obtain ⟨A', n', c', z', e', q', o', _⟩ := open_intsw (by kernel_rfl) hf l1
    simp [Value.cells] at e'
    obtain ⟨rfl, rfl, rfl⟩ := e'
    exact ⟨z', q', o'⟩
  have k2 := h2
  have lt2 : ∀ x ∈ p2, x.block < W.heap.size := by obtain ⟨m, hm⟩ := k2; exact DataW.trod_lt m _ _ _ hm
  have l2 := light_of (j := 2) hwt rfl rfl
  obtain ⟨a2, len2, cap2, rfl⟩ := okWide_slice Try.underlying32 (hval 2 32 v2 rfl rfl)
  obtain ⟨z2, cc2, w2⟩ : ∃ z, len2 ≤ cap2 ∧ Ints W a2 len2 z := by
    obtain ⟨fuel, hf⟩ := h2
    obtain ⟨A', n', c', z', e', q', o', _⟩ := open_intsw (by kernel_rfl) hf l2
    simp [Value.cells] at e'
    obtain ⟨rfl, rfl, rfl⟩ := e'
    exact ⟨z', q', o'⟩
  clear hA0 hval0
  refine (walk i0 st0 A0 n0 c0 B0 m0 e0 nx0 ot0 a1 len1 cap1 z1 a2 len2 cap2 z2 W wn0 wo0 wi0 ws0 cc1 w1 cc2 w2).mono fun e W' ⟨he, bel⟩ => ?_
  subst he
  exact ⟨_, rfl, _, _, _, [], _, [], hW', trodAll_mk1 (shut_bool Try.underlying4 _), (trodAll_cons_mk (Below.trod laidOut (by kernel_rfl) (of_decide_eq_true (by kernel_rfl)) k0 bel lt0) (trodAll_cons_mk (Below.trod laidOut (by kernel_rfl) (of_decide_eq_true (by kernel_rfl)) k1 bel lt1) (trodAll_cons_mk (Below.trod laidOut (by kernel_rfl) (of_decide_eq_true (by kernel_rfl)) k2 bel lt2) trodAll_mk0))), rfl, bel.frame _, fun h => by cases h⟩

theorem over : Rows.mealyJoinsRow.holds Try.pinned (OpenSpec.ofChange Rows.mealyJoinsSpec) :=
  OpenClaim.holds_of_wide 12 Try.f12 rfl rfl rfl rfl rfl rfl rfl ⟨rfl, rfl, rfl, rfl, rfl⟩ rfl rfl rfl rfl rfl (by kernel_rfl) Try.func12 (by kernel_rfl)
    (of_decide_eq_true (by kernel_rfl)) (by unfold Func.isWrapper; first | (rw [if_pos (by decide +kernel)]; kernel_rfl) | (rw [if_neg (by decide +kernel)]; exact ⟨rfl, rfl⟩))
    (fun os started H enc _ => lifted os started H enc)

/-- ████ THE STATEMENT ████ -/
theorem proved : Rows.MealyJoinsSaid := over
#print axioms proved
end Go.Proofs.Ytihahljpfekmbaa.mealyJoins
