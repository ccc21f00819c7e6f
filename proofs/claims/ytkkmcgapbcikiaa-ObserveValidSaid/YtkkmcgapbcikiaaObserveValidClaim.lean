/-
  PROVED: the error of any observations, and whether any two observations are the same, agree with the reference of the document, and observations without traces have no error for a permitted number of inputs; the law returns true for any arguments. Conditions: at most 60 traces of at most 100 symbols each; beyond them the law holds by its own guard.
-/
import Derived.Test.YtkkmcgapbcikiaaRows
import Derived.WalkKit
import Derived.ProofKit
import Derived.OpenShut
import Derived.ShutString
import Derived.ChangeOld
import Derived.Below
import Derived.Test.YtkkmcgapbcikiaaKaa
import Derived.Test.YtkkmcgapbcikiaaKaj
namespace Go.Proofs.Ytkkmcgapbcikiaa.observeValid
open Go.ChangeShapes Go.WideShapes Go.ChangeAt Go.RowKit
set_option linter.unusedVariables false

theorem own : ownKnob Try.prog.godebug = none := by kernel_rfl
theorem laidOut : laidOutB Try.prog = true := by kernel_rfl

set_option maxHeartbeats 2000000 in
set_option maxRecDepth 100000 in
theorem walk (a1_0 : Int) (A2_0 : Option Addr) (n2_0 : Nat) (m2_0 : Nat) (z2_0 : List (List Int × List Int)) (a1_1 : Int) (A2_1 : Option Addr) (n2_1 : Nat) (m2_1 : Nat) (z2_1 : List (List Int × List Int)) (a2 : Int) (w : World) (f0_0 : (Lit.int .i64 a1_0).wf = true) (f1_0 : n2_0 ≤ m2_0) (f2_0 : Trs w A2_0 n2_0 z2_0) (f0_1 : (Lit.int .i64 a1_1).wf = true) (f1_1 : n2_1 ≤ m2_1) (f2_1 : Trs w A2_1 n2_1 z2_1) (w2 : (Lit.int .i64 a2).wf = true) :
    Calls Try.prog 3 #[.agg #[.int .i64 a1_0, .slice A2_0 n2_0 m2_0], .agg #[.int .i64 a1_1, .slice A2_1 n2_1 m2_1], .int .i64 a2] w fun e w' => e = .returned (.bool true) ∧ Below w.heap.size w w' := by
  exact valid16_walk a1_0 a1_1 a2 A2_0 A2_1 n2_0 m2_0 n2_1 m2_1 z2_0 z2_1 w f2_0 f1_0 f2_1 f1_1

set_option maxRecDepth 100000 in
theorem lifted (os : Os) (started : os.Started) (H : Type) (enc : TypeId × Value → H) :
    ReturnsInHanded {} Try.checked os 3 .any (Rows.observeValidSpec.pre6 enc Try.prog Try.f3 Rows.observeValidRow.domain false) (Rows.observeValidSpec.post enc Try.prog Try.f3 false true false false) := by
  refine handed_sized (C := Try.checked) own started (by kernel_rfl) Try.func3
    (ChangeSpec.witness6 (enc := enc) (C := Try.checked) false ⟨#[], #[.agg #[.int .i64 0, .slice none 0 0], .agg #[.int .i64 0, .slice none 0 0], .int .i64 0], []⟩ 8 (by kernel_rfl) (by kernel_rfl) (by kernel_rfl) (by kernel_rfl)) ?_
  intro W base args ds gs before hval0 hW hwt
  have hval : ∀ (j : Nat) t v, Try.f3.params[j]? = some t → args[j]? = some v → Value.okWide Try.prog W .any base t v := hval0
  have hW' := hW
  obtain ⟨p, q, hA0, hV, rfl, hfz, hnd⟩ := hW
  have hA : DataW.TrodAll enc Try.prog W 0 (fun _ => true) true Try.f3.params.toList args.toList ds p := hA0
  rw [Try.params3] at hA hval
  obtain ⟨v0, vs0, d0, ds0, p0, q0, hargs, rfl, rfl, h0, r0⟩ := trodAll_cons hA
  obtain ⟨v1, vs1, d1, ds1, p1, q1, rfl, rfl, rfl, h1, r1⟩ := trodAll_cons r0
  obtain ⟨v2, vs2, d2, ds2, p2, q2, rfl, rfl, rfl, h2, r2⟩ := trodAll_cons r1
  obtain ⟨rfl, rfl, rfl⟩ := trodAll_nil r2
  obtain rfl : args = #[v0, v1, v2] := by cases args; simp_all
  obtain ⟨rfl, rfl⟩ := trodVars_none hV
  have hwt : (DataW.weightsEach Try.prog [24, 24, 3] [d0, d1, d2]).all (· ≤ reachBytes) = true := hwt
  have k0 := h0
  have lt0 : ∀ x ∈ p0, x.block < W.heap.size := by obtain ⟨m, hm⟩ := k0; exact DataW.trod_lt m _ _ _ hm
  have l0 := light_of (j := 0) hwt rfl rfl
  obtain ⟨a1_0, A2_0, n2_0, m2_0, z2_0, rfl, f0_0, f1_0, f2_0⟩ := open_obs (hval 0 24 v0 rfl rfl) h0 l0
  have k1 := h1
  have lt1 : ∀ x ∈ p1, x.block < W.heap.size := by obtain ⟨m, hm⟩ := k1; exact DataW.trod_lt m _ _ _ hm
  have l1 := light_of (j := 1) hwt rfl rfl
  obtain ⟨a1_1, A2_1, n2_1, m2_1, z2_1, rfl, f0_1, f1_1, f2_1⟩ := open_obs (hval 1 24 v1 rfl rfl) h1 l1
  obtain ⟨a2, rfl, rfl, rfl, w2⟩ := open_int Try.underlying3 (hval 2 3 v2 rfl rfl) h2
  clear hA0 hval0
  refine (walk a1_0 A2_0 n2_0 m2_0 z2_0 a1_1 A2_1 n2_1 m2_1 z2_1 a2 W f0_0 f1_0 f2_0 f0_1 f1_1 f2_1 w2).mono fun e W' ⟨he, bel⟩ => ?_
  subst he
  exact ⟨_, rfl, _, _, _, [], _, [], hW', trodAll_mk1 (shut_bool Try.underlying4 _), (trodAll_cons_mk (Below.trod laidOut (by kernel_rfl) (of_decide_eq_true (by kernel_rfl)) k0 bel lt0) (trodAll_cons_mk (Below.trod laidOut (by kernel_rfl) (of_decide_eq_true (by kernel_rfl)) k1 bel lt1) (trodAll_cons_mk (shut_int Try.underlying3 w2) trodAll_mk0))), rfl, bel.frame _, fun h => by cases h⟩

theorem over : Rows.observeValidRow.holds Try.pinned (OpenSpec.ofChange Rows.observeValidSpec) :=
  OpenClaim.holds_of_wide 3 Try.f3 rfl rfl rfl rfl rfl rfl rfl ⟨rfl, rfl, rfl, rfl, rfl⟩ rfl rfl rfl rfl rfl (by kernel_rfl) Try.func3 (by kernel_rfl)
    (of_decide_eq_true (by kernel_rfl)) (by unfold Func.isWrapper; first | (rw [if_pos (by decide +kernel)]; kernel_rfl) | (rw [if_neg (by decide +kernel)]; exact ⟨rfl, rfl⟩))
    (fun os started H enc _ => lifted os started H enc)

/-- ████ THE STATEMENT ████ -/
theorem proved : Rows.ObserveValidSaid := over
#print axioms proved
end Go.Proofs.Ytkkmcgapbcikiaa.observeValid
