/-
  PROVED: whatever the faults of a device are, its machine takes its transitions, an output is right or wrong by one, a query is the reset and the steps one by one, and a device answers the same query twice in the same way. Conditions: those of the given statement.
-/
import Derived.Test.YtcoihbpadbnilaaRows
import Derived.WalkKit
import Derived.ProofKit
import Derived.OpenShut
import Derived.ShutString
import Derived.ChangeOld
import Derived.Below
import Derived.Test.YtcoihbpadbnilaaDc
import Derived.Test.YtcoihbpadbnilaaDw
namespace Go.Proofs.Ytcoihbpadbnilaa.deviceErrors
open Go.ChangeShapes Go.WideShapes Go.ChangeAt Go.RowKit
set_option linter.unusedVariables false

theorem own : ownKnob Try.prog.godebug = none := by kernel_rfl
theorem laidOut : laidOutB Try.prog = true := by kernel_rfl

set_option maxHeartbeats 2000000 in
set_option maxRecDepth 100000 in
theorem walk (a1_0 : Int) (a2_0 : Int) (A3_0 : Option Addr) (n3_0 : Nat) (m3_0 : Nat) (z3_0 : List (List Int)) (A4_0 : Option Addr) (n4_0 : Nat) (m4_0 : Nat) (z4_0 : List (List Int)) (A5_0 : Option Addr) (n5_0 : Nat) (m5_0 : Nat) (z5_0 : List Int) (a6_0 : Int) (a7_0 : Int) (a8_0 : Int) (a9_0 : Int) (a10_0 : Int) (A11_0 : Option Addr) (n11_0 : Nat) (m11_0 : Nat) (z11_0 : List Int) (w : World) (f0_0 : (Lit.int .i64 a1_0).wf = true) (f1_0 : (Lit.int .i64 a2_0).wf = true) (f2_0 : Lists w A3_0 n3_0 z3_0) (f3_0 : Lists w A4_0 n4_0 z4_0) (f4_0 : Ints w A5_0 n5_0 z5_0) (f5_0 : (Lit.int .i64 a6_0).wf = true) (f6_0 : (Lit.int .i64 a7_0).wf = true) (f7_0 : (Lit.int .i64 a8_0).wf = true) (f8_0 : (Lit.int .i64 a9_0).wf = true) (f9_0 : (Lit.int .u64 a10_0).wf = true) (f10_0 : Ints w A11_0 n11_0 z11_0) :
    Calls Try.prog 7 #[.agg #[.int .i64 a1_0, .int .i64 a2_0, .slice A3_0 n3_0 m3_0, .slice A4_0 n4_0 m4_0, .slice A5_0 n5_0 m5_0, .int .i64 a6_0, .int .i64 a7_0, .int .i64 a8_0, .int .i64 a9_0, .int .u64 a10_0, .slice A11_0 n11_0 m11_0]] w fun e w' => e = .returned (.bool true) ∧ Below w.heap.size w w' := by
  have h := f9_0
  unfold Lit.wf at h
  have h2 : IntKind.u64.max = 18446744073709551615 := by decide
  have h3 : IntKind.u64.min = 0 := by decide
  simp at h
  obtain ⟨s, rfl⟩ : ∃ s : Nat, a10_0 = s := ⟨a10_0.toNat, by omega⟩
  exact errors19_walk a1_0 a2_0 A3_0 A4_0 n3_0 m3_0 n4_0 m4_0 z3_0 z4_0 A5_0 n5_0 m5_0 z5_0 a6_0 a7_0 a8_0 a9_0 s A11_0 n11_0 m11_0 z11_0 w f2_0 f3_0 f4_0 f10_0 (by omega)

set_option maxRecDepth 100000 in
theorem lifted (os : Os) (started : os.Started) (H : Type) (enc : TypeId × Value → H) :
    ReturnsInHanded {} Try.checked os 7 .any (Rows.deviceErrorsSpec.pre6 enc Try.prog Try.f7 Rows.deviceErrorsRow.domain false) (Rows.deviceErrorsSpec.post enc Try.prog Try.f7 false true false false) := by
  refine handed_sized (C := Try.checked) own started (by kernel_rfl) Try.func7
    (ChangeSpec.witness6 (enc := enc) (C := Try.checked) false ⟨#[], #[.agg #[.int .i64 0, .int .i64 0, .slice none 0 0, .slice none 0 0, .slice none 0 0, .int .i64 0, .int .i64 0, .int .i64 0, .int .i64 0, .int .u64 0, .slice none 0 0]], []⟩ 8 (by kernel_rfl) (by kernel_rfl) (by kernel_rfl) (by kernel_rfl)) ?_
  intro W base args ds gs before hval0 hW hwt
  have hval : ∀ (j : Nat) t v, Try.f7.params[j]? = some t → args[j]? = some v → Value.okWide Try.prog W .any base t v := hval0
  have hW' := hW
  obtain ⟨p, q, hA0, hV, rfl, hfz, hnd⟩ := hW
  have hA : DataW.TrodAll enc Try.prog W 0 (fun _ => true) true Try.f7.params.toList args.toList ds p := hA0
  rw [Try.params7] at hA hval
  obtain ⟨v0, vs0, d0, ds0, p0, q0, hargs, rfl, rfl, h0, r0⟩ := trodAll_cons hA
  obtain ⟨rfl, rfl, rfl⟩ := trodAll_nil r0
  obtain rfl : args = #[v0] := by cases args; simp_all
  obtain ⟨rfl, rfl⟩ := trodVars_none hV
  have hwt : (DataW.weightsEach Try.prog [70] [d0]).all (· ≤ reachBytes) = true := hwt
  have k0 := h0
  have lt0 : ∀ x ∈ p0, x.block < W.heap.size := by obtain ⟨m, hm⟩ := k0; exact DataW.trod_lt m _ _ _ hm
  have l0 := light_of (j := 0) hwt rfl rfl
  obtain ⟨a1_0, a2_0, A3_0, n3_0, m3_0, z3_0, A4_0, n4_0, m4_0, z4_0, A5_0, n5_0, m5_0, z5_0, a6_0, a7_0, a8_0, a9_0, a10_0, A11_0, n11_0, m11_0, z11_0, rfl, f0_0, f1_0, f2_0, f3_0, f4_0, f5_0, f6_0, f7_0, f8_0, f9_0, f10_0⟩ := open_errors (hval 0 70 v0 rfl rfl) h0 l0
  clear hA0 hval0
  refine (walk a1_0 a2_0 A3_0 n3_0 m3_0 z3_0 A4_0 n4_0 m4_0 z4_0 A5_0 n5_0 m5_0 z5_0 a6_0 a7_0 a8_0 a9_0 a10_0 A11_0 n11_0 m11_0 z11_0 W f0_0 f1_0 f2_0 f3_0 f4_0 f5_0 f6_0 f7_0 f8_0 f9_0 f10_0).mono fun e W' ⟨he, bel⟩ => ?_
  subst he
  exact ⟨_, rfl, _, _, _, [], _, [], hW', trodAll_mk1 (shut_bool Try.underlying4 _), (trodAll_cons_mk (Below.trod laidOut (by kernel_rfl) (of_decide_eq_true (by kernel_rfl)) k0 bel lt0) trodAll_mk0), rfl, bel.frame _, fun h => by cases h⟩

theorem over : Rows.deviceErrorsRow.holds Try.pinned (OpenSpec.ofChange Rows.deviceErrorsSpec) :=
  OpenClaim.holds_of_wide 7 Try.f7 rfl rfl rfl rfl rfl rfl rfl ⟨rfl, rfl, rfl, rfl, rfl⟩ rfl rfl rfl rfl rfl (by kernel_rfl) Try.func7 (by kernel_rfl)
    (of_decide_eq_true (by kernel_rfl)) (by unfold Func.isWrapper; first | (rw [if_pos (by decide +kernel)]; kernel_rfl) | (rw [if_neg (by decide +kernel)]; exact ⟨rfl, rfl⟩))
    (fun os started H enc _ => lifted os started H enc)

/-- ████ THE STATEMENT ████ -/
theorem proved : Rows.DeviceErrorsSaid := over
#print axioms proved
end Go.Proofs.Ytcoihbpadbnilaa.deviceErrors
