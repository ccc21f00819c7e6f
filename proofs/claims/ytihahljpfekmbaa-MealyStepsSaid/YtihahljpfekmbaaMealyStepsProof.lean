/-
  PROVED: for every machine, state and word, the law MealySteps returns true and its arguments read as before (Step, From and Run are those of the reference). Conditions: none.
-/
import Derived.Test.YtihahljpfekmbaaRows
import Derived.WalkKit
import Derived.ProofKit
import Derived.OpenShut
import Derived.ShutString
import Derived.ChangeOld
import Derived.Below
import Derived.Test.YtihahljpfekmbaaOpenm
import Derived.Test.YtihahljpfekmbaaMlaw
namespace Go.Proofs.Ytihahljpfekmbaa.mealySteps
open Go.ChangeShapes Go.WideShapes Go.ChangeAt Go.RowKit
set_option linter.unusedVariables false

theorem own : ownKnob Try.prog.godebug = none := by kernel_rfl
theorem laidOut : laidOutB Try.prog = true := by kernel_rfl

set_option maxHeartbeats 2000000 in
set_option maxRecDepth 100000 in
theorem walk (i0 st0 : Int) (A0 : Option Addr) (n0 c0 : Nat) (B0 : Option Addr) (m0 e0 : Nat) (nx0 ot0 : List (List Int)) (a1 : Int) (a2 : Option Addr) (len2 cap2 : Nat) (z2 : List Int) (w : World) (wn0 : Lists w A0 n0 nx0) (wo0 : Lists w B0 m0 ot0) (wi0 : (Lit.int .i64 i0).wf = true) (ws0 : (Lit.int .i64 st0).wf = true) (w1 : (Lit.int .i64 a1).wf = true) (cc2 : len2 ≤ cap2) (w2 : Ints w a2 len2 z2) :
    Calls Try.prog 10 #[.agg #[.int .i64 i0, .int .i64 st0, .slice A0 n0 c0, .slice B0 m0 e0], .int .i64 a1, .slice a2 len2 cap2] w fun e w' => e = .returned (.bool true) ∧ Below w.heap.size w w' := by
  have hb0 := alloc_below w (.cells #[.int .i64 i0, .int .i64 st0, .slice A0 n0 c0, .slice B0 m0 e0] 65)
  have hbc := Below.refl (w.heap.size + 1) (w.alloc (.cells #[.int .i64 i0, .int .i64 st0, .slice A0 n0 c0, .slice B0 m0 e0] 65))
  have hk := w2.2.1
  have hcell : 0 < len2 → ∃ b off, a2 = some ⟨b, off, none⟩ ∧ (w.alloc (.cells #[.int .i64 i0, .int .i64 st0, .slice A0 n0 c0, .slice B0 m0 e0] 65)).cell? ⟨b, off, none⟩ = some (.int .i64 (z2.getD 0 0)) := fun h => by
    obtain ⟨b, off, h1, _, h3⟩ := (w2.below hb0).at_ h
    exact ⟨b, off, h1, h3⟩
  have main : ∃ av : Int, (len2 = 0 ∧ av = 0) ∨ (0 < len2 ∧ av = z2.getD 0 0) := by
    rcases Nat.eq_zero_or_pos len2 with h | h
    · exact ⟨0, .inl ⟨h, rfl⟩⟩
    · exact ⟨_, .inr ⟨h, rfl⟩⟩
  obtain ⟨av, hav⟩ := main
  have fin : ∀ av : Int, Hid (∀ W : World, Below (w.heap.size + 1) (w.alloc (.cells #[.int .i64 i0, .int .i64 st0, .slice A0 n0 c0, .slice B0 m0 e0] 65)) W → Lists W A0 n0 nx0 ∧ Lists W B0 m0 ot0 ∧ Ints W a2 len2 z2 ∧ Below w.heap.size w W) := fun _ => Lib.hid fun W h =>
    have b := hb0.trans (h.mono (Nat.le_succ _))
    ⟨wn0.below b, wo0.below b, w2.below b, b⟩
  have T := fin 0
  clear fin
  rcases hav with ⟨h0, h1⟩ | ⟨h0, h1⟩
  · subst h0 h1
    clear hcell
    go_enter Try.func10, Try.ntmps10
    go_wp2_with fail
    refine (pstepm _ _ _ _ _ _ _ _ nx0 ot0 _ _ _ (T.out _ hbc).1 (T.out _ hbc).2.1).mono ?_
    rintro e u1 ⟨rfl, b1⟩
    have hbc := hbc.trans (b1.mono (bsz hbc))
    obtain ⟨k0, k1, k2, k3⟩ := box4 hbc
    go_wp2_with fail
    refine (rstepm _ _ _ _ _ _ _ _ nx0 ot0 _ _ _ (T.out _ hbc).1 (T.out _ hbc).2.1).mono ?_
    rintro e u2 ⟨rfl, b2⟩
    have hbc := hbc.trans (b2.mono (bsz hbc))
    clear k0 k1 k2 k3 b1 b2
    obtain ⟨k0, k1, k2, k3⟩ := box4 hbc
    go_wp2_with fail
    refine (pfrom_law _ _ _ _ _ _ _ _ _ _ _ nx0 ot0 _ z2 _ (T.out _ hbc).1 (T.out _ hbc).2.1 (T.out _ hbc).2.2.1).mono ?_
    rintro e u3 ⟨A3, c3, rfl, h3, b3⟩
    have hbc := hbc.trans (b3.mono (bsz hbc))
    clear k0 k1 k2 k3
    obtain ⟨k0, k1, k2, k3⟩ := box4 hbc
    go_wp2_with fail
    refine (rfrom_law _ _ _ _ _ _ _ _ _ _ _ nx0 ot0 _ z2 _ (T.out _ hbc).1 (T.out _ hbc).2.1 (T.out _ hbc).2.2.1).mono ?_
    rintro e u4 ⟨A4, c4, rfl, h4, b4⟩
    have hbc := hbc.trans (b4.mono (bsz hbc))
    clear k0 k1 k2 k3
    obtain ⟨k0, k1, k2, k3⟩ := box4 hbc
    go_wp2_with fail
    refine (ints_same _ _ _ _ _ _ _ _ (h3.below b4) h4).mono ?_
    rintro e u5 ⟨rfl, b5⟩
    have hbc := hbc.trans (b5.mono (bsz hbc))
    clear k0 k1 k2 k3 h3 h4 b3 b4 b5
    obtain ⟨k0, k1, k2, k3⟩ := box4 hbc
    go_wp2_with fail
    refine (prun_law _ _ _ _ _ _ _ _ _ _ _ nx0 ot0 z2 _ (T.out _ hbc).1 (T.out _ hbc).2.1 (T.out _ hbc).2.2.1).mono ?_
    rintro e u6 ⟨A6, c6, rfl, h6, b6⟩
    have hbc := hbc.trans (b6.mono (bsz hbc))
    clear k0 k1 k2 k3
    obtain ⟨k0, k1, k2, k3⟩ := box4 hbc
    go_wp2_with fail
    refine (rrun_law _ _ _ _ _ _ _ _ _ _ _ nx0 ot0 z2 _ (T.out _ hbc).1 (T.out _ hbc).2.1 (T.out _ hbc).2.2.1).mono ?_
    rintro e u7 ⟨A7, c7, rfl, h7, b7⟩
    have hbc := hbc.trans (b7.mono (bsz hbc))
    clear k0 k1 k2 k3
    go_wp2_with fail
    refine (ints_same _ _ _ _ _ _ _ _ (h6.below b7) h7).mono ?_
    rintro e u8 ⟨rfl, b8⟩
    have hbc := hbc.trans (b8.mono (bsz hbc))
    clear h6 h7 b6 b7 b8
    go_wp2_with fail
    refine (awakem _).mono ?_
    rintro e u9 ⟨rfl, b9⟩
    have hbc := hbc.trans (b9.mono (bsz hbc))
    go_wp2
    go_ret
    exact ⟨rfl, (T.out _ hbc).2.2.2⟩
  · obtain ⟨b, off, rfl, hc⟩ := hcell h0
    rw [← h1] at hc
    have HC := Lib.hid h1
    clear h1
    go_enter Try.func10, Try.ntmps10
    go_wp2_with fail
    refine (pstepm _ _ _ _ _ _ _ _ nx0 ot0 _ _ _ (T.out _ hbc).1 (T.out _ hbc).2.1).mono ?_
    rintro e u1 ⟨rfl, b1⟩
    have hbc := hbc.trans (b1.mono (bsz hbc))
    obtain ⟨k0, k1, k2, k3⟩ := box4 hbc
    go_wp2_with fail
    refine (rstepm _ _ _ _ _ _ _ _ nx0 ot0 _ _ _ (T.out _ hbc).1 (T.out _ hbc).2.1).mono ?_
    rintro e u2 ⟨rfl, b2⟩
    have hbc := hbc.trans (b2.mono (bsz hbc))
    clear k0 k1 k2 k3 b1 b2
    obtain ⟨k0, k1, k2, k3⟩ := box4 hbc
    go_wp2_with fail
    refine (pfrom_law _ _ _ _ _ _ _ _ _ _ _ nx0 ot0 _ z2 _ (T.out _ hbc).1 (T.out _ hbc).2.1 (T.out _ hbc).2.2.1).mono ?_
    rintro e u3 ⟨A3, c3, rfl, h3, b3⟩
    have hbc := hbc.trans (b3.mono (bsz hbc))
    clear k0 k1 k2 k3
    obtain ⟨k0, k1, k2, k3⟩ := box4 hbc
    go_wp2_with fail
    refine (rfrom_law _ _ _ _ _ _ _ _ _ _ _ nx0 ot0 _ z2 _ (T.out _ hbc).1 (T.out _ hbc).2.1 (T.out _ hbc).2.2.1).mono ?_
    rintro e u4 ⟨A4, c4, rfl, h4, b4⟩
    have hbc := hbc.trans (b4.mono (bsz hbc))
    clear k0 k1 k2 k3
    obtain ⟨k0, k1, k2, k3⟩ := box4 hbc
    go_wp2_with fail
    refine (ints_same _ _ _ _ _ _ _ _ (h3.below b4) h4).mono ?_
    rintro e u5 ⟨rfl, b5⟩
    have hbc := hbc.trans (b5.mono (bsz hbc))
    clear k0 k1 k2 k3 h3 h4 b3 b4 b5
    obtain ⟨k0, k1, k2, k3⟩ := box4 hbc
    go_wp2_with fail
    refine (prun_law _ _ _ _ _ _ _ _ _ _ _ nx0 ot0 z2 _ (T.out _ hbc).1 (T.out _ hbc).2.1 (T.out _ hbc).2.2.1).mono ?_
    rintro e u6 ⟨A6, c6, rfl, h6, b6⟩
    have hbc := hbc.trans (b6.mono (bsz hbc))
    clear k0 k1 k2 k3
    obtain ⟨k0, k1, k2, k3⟩ := box4 hbc
    go_wp2_with fail
    refine (rrun_law _ _ _ _ _ _ _ _ _ _ _ nx0 ot0 z2 _ (T.out _ hbc).1 (T.out _ hbc).2.1 (T.out _ hbc).2.2.1).mono ?_
    rintro e u7 ⟨A7, c7, rfl, h7, b7⟩
    have hbc := hbc.trans (b7.mono (bsz hbc))
    clear k0 k1 k2 k3
    go_wp2_with fail
    refine (ints_same _ _ _ _ _ _ _ _ (h6.below b7) h7).mono ?_
    rintro e u8 ⟨rfl, b8⟩
    have hbc := hbc.trans (b8.mono (bsz hbc))
    clear h6 h7 b6 b7 b8
    go_wp2_with fail
    refine (awakem _).mono ?_
    rintro e u9 ⟨rfl, b9⟩
    have hbc := hbc.trans (b9.mono (bsz hbc))
    go_wp2
    go_ret
    exact ⟨rfl, (T.out _ hbc).2.2.2⟩

set_option maxRecDepth 100000 in
theorem lifted (os : Os) (started : os.Started) (H : Type) (enc : TypeId × Value → H) :
    ReturnsInHanded {} Try.checked os 10 .any (Rows.mealyStepsSpec.pre6 enc Try.prog Try.f10 Rows.mealyStepsRow.domain false) (Rows.mealyStepsSpec.post enc Try.prog Try.f10 false true false false) := by
  refine handed_sized (C := Try.checked) own started (by kernel_rfl) Try.func10
    (ChangeSpec.witness6 (enc := enc) (C := Try.checked) false ⟨#[], #[.agg #[.int .i64 0, .int .i64 0, .slice none 0 0, .slice none 0 0], .int .i64 0, .slice none 0 0], []⟩ 8 (by kernel_rfl) (by kernel_rfl) (by kernel_rfl) (by kernel_rfl)) ?_
  intro W base args ds gs before hval0 hW hwt
  have hval : ∀ (j : Nat) t v, Try.f10.params[j]? = some t → args[j]? = some v → Value.okWide Try.prog W .any base t v := hval0
  have hW' := hW
  obtain ⟨p, q, hA0, hV, rfl, hfz, hnd⟩ := hW
  have hA : DataW.TrodAll enc Try.prog W 0 (fun _ => true) true Try.f10.params.toList args.toList ds p := hA0
  rw [Try.params10] at hA hval
  obtain ⟨v0, vs0, d0, ds0, p0, q0, hargs, rfl, rfl, h0, r0⟩ := trodAll_cons hA
  obtain ⟨v1, vs1, d1, ds1, p1, q1, rfl, rfl, rfl, h1, r1⟩ := trodAll_cons r0
  obtain ⟨v2, vs2, d2, ds2, p2, q2, rfl, rfl, rfl, h2, r2⟩ := trodAll_cons r1
  obtain ⟨rfl, rfl, rfl⟩ := trodAll_nil r2
  obtain rfl : args = #[v0, v1, v2] := by cases args; simp_all
  obtain ⟨rfl, rfl⟩ := trodVars_none hV
  have hwt : (DataW.weightsEach Try.prog [65, 3, 32] [d0, d1, d2]).all (· ≤ reachBytes) = true := hwt
  have k0 := h0
  have lt0 : ∀ x ∈ p0, x.block < W.heap.size := by obtain ⟨m, hm⟩ := k0; exact DataW.trod_lt m _ _ _ hm
  have l0 := light_of (j := 0) hwt rfl rfl
  obtain ⟨i0, st0, A0, n0, c0, B0, m0, e0, nx0, ot0, rfl, wn0, wo0, wi0, ws0⟩ := open_mealy (by kernel_rfl) (by kernel_rfl) (hval 0 65 v0 rfl rfl) h0 l0
  obtain ⟨a1, rfl, rfl, rfl, w1⟩ := open_int Try.underlying3 (hval 1 3 v1 rfl rfl) h1
  have k2 := h2
  have lt2 : ∀ x ∈ p2, x.block < W.heap.size := by obtain ⟨m, hm⟩ := k2; exact DataW.trod_lt m _ _ _ hm
  have l2 := light_of (j := 2) hwt rfl rfl
  obtain ⟨a2, len2, cap2, rfl⟩ := okWide_slice Try.underlying32 (hval 2 32 v2 rfl rfl)
  obtain ⟨z2, cc2, w2⟩ : ∃ z, len2 ≤ cap2 ∧ Ints W a2 len2 z := by
    obtain ⟨fuel, hf⟩ := h2
    obtain ⟨A', n', c', z', e', q', o', _⟩ := open_intsw (by kernel_rfl) hf l2
    simp [Value.cells] at e'
    obtain ⟨rfl, rfl, rfl⟩ := e'
    exact ⟨z', q', o'⟩
  clear hA0 hval0
  refine (walk i0 st0 A0 n0 c0 B0 m0 e0 nx0 ot0 a1 a2 len2 cap2 z2 W wn0 wo0 wi0 ws0 w1 cc2 w2).mono fun e W' ⟨he, bel⟩ => ?_
  subst he
  exact ⟨_, rfl, _, _, _, [], _, [], hW', trodAll_mk1 (shut_bool Try.underlying4 _), (trodAll_cons_mk (Below.trod laidOut (by kernel_rfl) (of_decide_eq_true (by kernel_rfl)) k0 bel lt0) (trodAll_cons_mk (shut_int Try.underlying3 w1) (trodAll_cons_mk (Below.trod laidOut (by kernel_rfl) (of_decide_eq_true (by kernel_rfl)) k2 bel lt2) trodAll_mk0))), rfl, bel.frame _, fun h => by cases h⟩

theorem over : Rows.mealyStepsRow.holds Try.pinned (OpenSpec.ofChange Rows.mealyStepsSpec) :=
  OpenClaim.holds_of_wide 10 Try.f10 rfl rfl rfl rfl rfl rfl rfl ⟨rfl, rfl, rfl, rfl, rfl⟩ rfl rfl rfl rfl rfl (by kernel_rfl) Try.func10 (by kernel_rfl)
    (of_decide_eq_true (by kernel_rfl)) (by unfold Func.isWrapper; first | (rw [if_pos (by decide +kernel)]; kernel_rfl) | (rw [if_neg (by decide +kernel)]; exact ⟨rfl, rfl⟩))
    (fun os started H enc _ => lifted os started H enc)

/-- ████ THE STATEMENT ████ -/
theorem proved : Rows.MealyStepsSaid := over
#print axioms proved
end Go.Proofs.Ytihahljpfekmbaa.mealySteps
