/-
  PROVED: hypothesis.Refuted returns false, with no trace, for a hypothesis of an invalid size or where the observations do not fit, and for valid ones the first trace that refutes it, as the reference does; the law returns true for any arguments. Conditions: those of the given statement.
-/
import Derived.Test.YtaiifmckmjlgjaaRows
import Derived.WalkKit
import Derived.ProofKit
import Derived.OpenShut
import Derived.ShutString
import Derived.ChangeOld
import Derived.Below
import Derived.Test.YtaiifmckmjlgjaaHa
import Derived.Test.YtaiifmckmjlgjaaHe
namespace Go.Proofs.Ytaiifmckmjlgjaa.hypothesisRefuted
open Go.ChangeShapes Go.WideShapes Go.ChangeAt Go.RowKit
set_option linter.unusedVariables false

theorem own : ownKnob Try.prog.godebug = none := by kernel_rfl
theorem laidOut : laidOutB Try.prog = true := by kernel_rfl

set_option maxHeartbeats 2000000 in
set_option maxRecDepth 100000 in
theorem walk (a1_0 : Int) (a2_0 : Int) (A3_0 : Option Addr) (n3_0 : Nat) (m3_0 : Nat) (z3_0 : List (List Int)) (A4_0 : Option Addr) (n4_0 : Nat) (m4_0 : Nat) (z4_0 : List (List Int)) (A5_0 : Option Addr) (n5_0 : Nat) (m5_0 : Nat) (z5_0 : List (List Int)) (a1_1 : Int) (A2_1 : Option Addr) (n2_1 : Nat) (m2_1 : Nat) (z2_1 : List (List Int × List Int)) (a2 : Option Addr) (len2 cap2 : Nat) (z2 : List Int) (w : World) (f0_0 : (Lit.int .i64 a1_0).wf = true) (f1_0 : (Lit.int .i64 a2_0).wf = true) (f2_0 : Lists w A3_0 n3_0 z3_0) (f3_0 : Lists w A4_0 n4_0 z4_0) (f4_0 : Lists w A5_0 n5_0 z5_0) (f0_1 : (Lit.int .i64 a1_1).wf = true) (f1_1 : n2_1 ≤ m2_1) (f2_1 : Trs w A2_1 n2_1 z2_1) (cc2 : len2 ≤ cap2) (w2 : Ints w a2 len2 z2) :
    Calls Try.prog 4 #[.agg #[.int .i64 a1_0, .int .i64 a2_0, .slice A3_0 n3_0 m3_0, .slice A4_0 n4_0 m4_0, .slice A5_0 n5_0 m5_0], .agg #[.int .i64 a1_1, .slice A2_1 n2_1 m2_1], .slice a2 len2 cap2] w fun e w' => e = .returned (.bool true) ∧ Below w.heap.size w w' := by
  exact refuted22_walk a1_0 a2_0 a1_1 A3_0 A4_0 A5_0 A2_1 a2 n3_0 m3_0 n4_0 m4_0 n5_0 m5_0 n2_1 m2_1 len2 cap2 z3_0 z4_0 z5_0 z2_1 z2 w f2_0 f3_0 f4_0 f2_1 f1_1 w2

set_option maxRecDepth 100000 in
theorem lifted (os : Os) (started : os.Started) (H : Type) (enc : TypeId × Value → H) :
    ReturnsInHanded {} Try.checked os 4 .any (Rows.hypothesisRefutedSpec.pre6 enc Try.prog Try.f4 Rows.hypothesisRefutedRow.domain false) (Rows.hypothesisRefutedSpec.post enc Try.prog Try.f4 false true false false) := by
  refine handed_sized (C := Try.checked) own started (by kernel_rfl) Try.func4
    (ChangeSpec.witness6 (enc := enc) (C := Try.checked) false ⟨#[], #[.agg #[.int .i64 0, .int .i64 0, .slice none 0 0, .slice none 0 0, .slice none 0 0], .agg #[.int .i64 0, .slice none 0 0], .slice none 0 0], []⟩ 8 (by kernel_rfl) (by kernel_rfl) (by kernel_rfl) (by kernel_rfl)) ?_
  intro W base args ds gs before hval0 hW hwt
  have hval : ∀ (j : Nat) t v, Try.f4.params[j]? = some t → args[j]? = some v → Value.okWide Try.prog W .any base t v := hval0
  have hW' := hW
  obtain ⟨p, q, hA0, hV, rfl, hfz, hnd⟩ := hW
  have hA : DataW.TrodAll enc Try.prog W 0 (fun _ => true) true Try.f4.params.toList args.toList ds p := hA0
  rw [Try.params4] at hA hval
  obtain ⟨v0, vs0, d0, ds0, p0, q0, hargs, rfl, rfl, h0, r0⟩ := trodAll_cons hA
  obtain ⟨v1, vs1, d1, ds1, p1, q1, rfl, rfl, rfl, h1, r1⟩ := trodAll_cons r0
  obtain ⟨v2, vs2, d2, ds2, p2, q2, rfl, rfl, rfl, h2, r2⟩ := trodAll_cons r1
  obtain ⟨rfl, rfl, rfl⟩ := trodAll_nil r2
  obtain rfl : args = #[v0, v1, v2] := by cases args; simp_all
  obtain ⟨rfl, rfl⟩ := trodVars_none hV
  have hwt : (DataW.weightsEach Try.prog [26, 34, 35] [d0, d1, d2]).all (· ≤ reachBytes) = true := hwt
  have k0 := h0
  have lt0 : ∀ x ∈ p0, x.block < W.heap.size := by obtain ⟨m, hm⟩ := k0; exact DataW.trod_lt m _ _ _ hm
  have l0 := light_of (j := 0) hwt rfl rfl
  obtain ⟨a1_0, a2_0, A3_0, n3_0, m3_0, z3_0, A4_0, n4_0, m4_0, z4_0, A5_0, n5_0, m5_0, z5_0, rfl, f0_0, f1_0, f2_0, f3_0, f4_0⟩ := open_hyp (hval 0 26 v0 rfl rfl) h0 l0
  have k1 := h1
  have lt1 : ∀ x ∈ p1, x.block < W.heap.size := by obtain ⟨m, hm⟩ := k1; exact DataW.trod_lt m _ _ _ hm
  have l1 := light_of (j := 1) hwt rfl rfl
  obtain ⟨a1_1, A2_1, n2_1, m2_1, z2_1, rfl, f0_1, f1_1, f2_1⟩ := open_obs (hval 1 34 v1 rfl rfl) h1 l1
  have k2 := h2
  have lt2 : ∀ x ∈ p2, x.block < W.heap.size := by obtain ⟨m, hm⟩ := k2; exact DataW.trod_lt m _ _ _ hm
  have l2 := light_of (j := 2) hwt rfl rfl
  obtain ⟨a2, len2, cap2, rfl⟩ := okWide_slice Try.underlying35 (hval 2 35 v2 rfl rfl)
  obtain ⟨z2, cc2, w2⟩ : ∃ z, len2 ≤ cap2 ∧ Ints W a2 len2 z := by
    obtain ⟨fuel, hf⟩ := h2
    obtain ⟨A', n', c', z', e', q', o', _⟩ := open_intsw (by kernel_rfl) hf l2
    simp [Value.cells] at e'
    obtain ⟨rfl, rfl, rfl⟩ := e'
    exact ⟨z', q', o'⟩
  clear hA0 hval0
  refine (walk a1_0 a2_0 A3_0 n3_0 m3_0 z3_0 A4_0 n4_0 m4_0 z4_0 A5_0 n5_0 m5_0 z5_0 a1_1 A2_1 n2_1 m2_1 z2_1 a2 len2 cap2 z2 W f0_0 f1_0 f2_0 f3_0 f4_0 f0_1 f1_1 f2_1 cc2 w2).mono fun e W' ⟨he, bel⟩ => ?_
  subst he
  exact ⟨_, rfl, _, _, _, [], _, [], hW', trodAll_mk1 (shut_bool Try.underlying4 _), (trodAll_cons_mk (Below.trod laidOut (by kernel_rfl) (of_decide_eq_true (by kernel_rfl)) k0 bel lt0) (trodAll_cons_mk (Below.trod laidOut (by kernel_rfl) (of_decide_eq_true (by kernel_rfl)) k1 bel lt1) (trodAll_cons_mk (Below.trod laidOut (by kernel_rfl) (of_decide_eq_true (by kernel_rfl)) k2 bel lt2) trodAll_mk0))), rfl, bel.frame _, fun h => by cases h⟩

theorem over : Rows.hypothesisRefutedRow.holds Try.pinned (OpenSpec.ofChange Rows.hypothesisRefutedSpec) :=
  OpenClaim.holds_of_wide 4 Try.f4 rfl rfl rfl rfl rfl rfl rfl ⟨rfl, rfl, rfl, rfl, rfl⟩ rfl rfl rfl rfl rfl (by kernel_rfl) Try.func4 (by kernel_rfl)
    (of_decide_eq_true (by kernel_rfl)) (by unfold Func.isWrapper; first | (rw [if_pos (by decide +kernel)]; kernel_rfl) | (rw [if_neg (by decide +kernel)]; exact ⟨rfl, rfl⟩))
    (fun os started H enc _ => lifted os started H enc)

/-- ████ THE STATEMENT ████ -/
theorem proved : Rows.HypothesisRefutedSaid := over
#print axioms proved
end Go.Proofs.Ytaiifmckmjlgjaa.hypothesisRefuted
