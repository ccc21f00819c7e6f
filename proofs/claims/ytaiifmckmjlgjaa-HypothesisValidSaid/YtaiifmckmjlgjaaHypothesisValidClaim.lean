/-
  PROVED: hypothesis.Valid returns the error that the reference returns, for any hypothesis. Conditions: those of the given statement.
-/
import Derived.Test.YtaiifmckmjlgjaaRows
import Derived.WalkKit
import Derived.ProofKit
import Derived.OpenShut
import Derived.ShutString
import Derived.ChangeOld
import Derived.Below
import Derived.Test.YtaiifmckmjlgjaaHa
import Derived.Test.YtaiifmckmjlgjaaHd
namespace Go.Proofs.Ytaiifmckmjlgjaa.hypothesisValid
open Go.ChangeShapes Go.WideShapes Go.ChangeAt Go.RowKit
set_option linter.unusedVariables false

theorem own : ownKnob Try.prog.godebug = none := by kernel_rfl
theorem laidOut : laidOutB Try.prog = true := by kernel_rfl

set_option maxHeartbeats 2000000 in
set_option maxRecDepth 100000 in
theorem walk (a1_0 : Int) (a2_0 : Int) (A3_0 : Option Addr) (n3_0 : Nat) (m3_0 : Nat) (z3_0 : List (List Int)) (A4_0 : Option Addr) (n4_0 : Nat) (m4_0 : Nat) (z4_0 : List (List Int)) (A5_0 : Option Addr) (n5_0 : Nat) (m5_0 : Nat) (z5_0 : List (List Int)) (w : World) (f0_0 : (Lit.int .i64 a1_0).wf = true) (f1_0 : (Lit.int .i64 a2_0).wf = true) (f2_0 : Lists w A3_0 n3_0 z3_0) (f3_0 : Lists w A4_0 n4_0 z4_0) (f4_0 : Lists w A5_0 n5_0 z5_0) :
    Calls Try.prog 3 #[.agg #[.int .i64 a1_0, .int .i64 a2_0, .slice A3_0 n3_0 m3_0, .slice A4_0 n4_0 m4_0, .slice A5_0 n5_0 m5_0]] w fun e w' => e = .returned (.bool true) ∧ Below w.heap.size w w' := by
  exact valid22_walk a1_0 a2_0 A3_0 A4_0 A5_0 n3_0 m3_0 n4_0 m4_0 n5_0 m5_0 z3_0 z4_0 z5_0 w f2_0 f3_0 f4_0

set_option maxRecDepth 100000 in
theorem lifted (os : Os) (started : os.Started) (H : Type) (enc : TypeId × Value → H) :
    ReturnsInHanded {} Try.checked os 3 .any (Rows.hypothesisValidSpec.pre6 enc Try.prog Try.f3 Rows.hypothesisValidRow.domain false) (Rows.hypothesisValidSpec.post enc Try.prog Try.f3 false true false false) := by
  refine handed_sized (C := Try.checked) own started (by kernel_rfl) Try.func3
    (ChangeSpec.witness6 (enc := enc) (C := Try.checked) false ⟨#[], #[.agg #[.int .i64 0, .int .i64 0, .slice none 0 0, .slice none 0 0, .slice none 0 0]], []⟩ 8 (by kernel_rfl) (by kernel_rfl) (by kernel_rfl) (by kernel_rfl)) ?_
  intro W base args ds gs before hval0 hW hwt
  have hval : ∀ (j : Nat) t v, Try.f3.params[j]? = some t → args[j]? = some v → Value.okWide Try.prog W .any base t v := hval0
  have hW' := hW
  obtain ⟨p, q, hA0, hV, rfl, hfz, hnd⟩ := hW
  have hA : DataW.TrodAll enc Try.prog W 0 (fun _ => true) true Try.f3.params.toList args.toList ds p := hA0
  rw [Try.params3] at hA hval
  obtain ⟨v0, vs0, d0, ds0, p0, q0, hargs, rfl, rfl, h0, r0⟩ := trodAll_cons hA
  obtain ⟨rfl, rfl, rfl⟩ := trodAll_nil r0
  obtain rfl : args = #[v0] := by cases args; simp_all
  obtain ⟨rfl, rfl⟩ := trodVars_none hV
  have hwt : (DataW.weightsEach Try.prog [26] [d0]).all (· ≤ reachBytes) = true := hwt
  have k0 := h0
  have lt0 : ∀ x ∈ p0, x.block < W.heap.size := by obtain ⟨m, hm⟩ := k0; exact DataW.trod_lt m _ _ _ hm
  have l0 := light_of (j := 0) hwt rfl rfl
  obtain ⟨a1_0, a2_0, A3_0, n3_0, m3_0, z3_0, A4_0, n4_0, m4_0, z4_0, A5_0, n5_0, m5_0, z5_0, rfl, f0_0, f1_0, f2_0, f3_0, f4_0⟩ := open_hyp (hval 0 26 v0 rfl rfl) h0 l0
  clear hA0 hval0
  refine (walk a1_0 a2_0 A3_0 n3_0 m3_0 z3_0 A4_0 n4_0 m4_0 z4_0 A5_0 n5_0 m5_0 z5_0 W f0_0 f1_0 f2_0 f3_0 f4_0).mono fun e W' ⟨he, bel⟩ => ?_
  subst he
  exact ⟨_, rfl, _, _, _, [], _, [], hW', trodAll_mk1 (shut_bool Try.underlying4 _), (trodAll_cons_mk (Below.trod laidOut (by kernel_rfl) (of_decide_eq_true (by kernel_rfl)) k0 bel lt0) trodAll_mk0), rfl, bel.frame _, fun h => by cases h⟩

theorem over : Rows.hypothesisValidRow.holds Try.pinned (OpenSpec.ofChange Rows.hypothesisValidSpec) :=
  OpenClaim.holds_of_wide 3 Try.f3 rfl rfl rfl rfl rfl rfl rfl ⟨rfl, rfl, rfl, rfl, rfl⟩ rfl rfl rfl rfl rfl (by kernel_rfl) Try.func3 (by kernel_rfl)
    (of_decide_eq_true (by kernel_rfl)) (by unfold Func.isWrapper; first | (rw [if_pos (by decide +kernel)]; kernel_rfl) | (rw [if_neg (by decide +kernel)]; exact ⟨rfl, rfl⟩))
    (fun os started H enc _ => lifted os started H enc)

/-- ████ THE STATEMENT ████ -/
theorem proved : Rows.HypothesisValidSaid := over
#print axioms proved
end Go.Proofs.Ytaiifmckmjlgjaa.hypothesisValid
