/-
  PROVED: without faults two queries of a device return the output words of the machine, and need exactly the time and the steps that they cost, for machines of at most 12 states and 6 inputs and words of at most 60 symbols. Conditions: those of the given statement.
-/
import Derived.Test.YtcoihbpadbnilaaRows
import Derived.WalkKit
import Derived.ProofKit
import Derived.OpenShut
import Derived.ShutString
import Derived.ChangeOld
import Derived.Below
import Derived.Test.YtcoihbpadbnilaaDc
import Derived.Test.YtcoihbpadbnilaaDx
namespace Go.Proofs.Ytcoihbpadbnilaa.deviceFaithful
open Go.ChangeShapes Go.WideShapes Go.ChangeAt Go.RowKit
set_option linter.unusedVariables false

theorem own : ownKnob Try.prog.godebug = none := by kernel_rfl
theorem laidOut : laidOutB Try.prog = true := by kernel_rfl

set_option maxHeartbeats 2000000 in
set_option maxRecDepth 100000 in
theorem walk (a1_0 : Int) (a2_0 : Int) (A3_0 : Option Addr) (n3_0 : Nat) (m3_0 : Nat) (z3_0 : List (List Int)) (A4_0 : Option Addr) (n4_0 : Nat) (m4_0 : Nat) (z4_0 : List (List Int)) (A5_0 : Option Addr) (n5_0 : Nat) (m5_0 : Nat) (z5_0 : List Int) (a6_0 : Int) (a7_0 : Int) (A8_0 : Option Addr) (n8_0 : Nat) (m8_0 : Nat) (z8_0 : List Int) (A9_0 : Option Addr) (n9_0 : Nat) (m9_0 : Nat) (z9_0 : List Int) (w : World) (f0_0 : (Lit.int .i64 a1_0).wf = true) (f1_0 : (Lit.int .i64 a2_0).wf = true) (f2_0 : Lists w A3_0 n3_0 z3_0) (f3_0 : Lists w A4_0 n4_0 z4_0) (f4_0 : Ints w A5_0 n5_0 z5_0) (f5_0 : (Lit.int .i64 a6_0).wf = true) (f6_0 : (Lit.int .u64 a7_0).wf = true) (f7_0 : Ints w A8_0 n8_0 z8_0) (f8_0 : Ints w A9_0 n9_0 z9_0) :
    Calls Try.prog 6 #[.agg #[.int .i64 a1_0, .int .i64 a2_0, .slice A3_0 n3_0 m3_0, .slice A4_0 n4_0 m4_0, .slice A5_0 n5_0 m5_0, .int .i64 a6_0, .int .u64 a7_0, .slice A8_0 n8_0 m8_0, .slice A9_0 n9_0 m9_0]] w fun e w' => e = .returned (.bool true) ∧ Below w.heap.size w w' := by
  have h := f6_0
  unfold Lit.wf at h
  have h2 : IntKind.u64.max = 18446744073709551615 := by decide
  have h3 : IntKind.u64.min = 0 := by decide
  simp at h
  obtain ⟨s, rfl⟩ : ∃ s : Nat, a7_0 = s := ⟨a7_0.toNat, by omega⟩
  exact faithful19_walk a1_0 a2_0 A3_0 A4_0 n3_0 m3_0 n4_0 m4_0 z3_0 z4_0 A5_0 n5_0 m5_0 z5_0 a6_0 s A8_0 n8_0 m8_0 z8_0 A9_0 n9_0 m9_0 z9_0 w f2_0 f3_0 f4_0 f7_0 f8_0 (by omega)

set_option maxRecDepth 100000 in
theorem lifted (os : Os) (started : os.Started) (H : Type) (enc : TypeId × Value → H) :
    ReturnsInHanded {} Try.checked os 6 .any (Rows.deviceFaithfulSpec.pre6 enc Try.prog Try.f6 Rows.deviceFaithfulRow.domain false) (Rows.deviceFaithfulSpec.post enc Try.prog Try.f6 false true false false) := by
  refine handed_sized (C := Try.checked) own started (by kernel_rfl) Try.func6
    (ChangeSpec.witness6 (enc := enc) (C := Try.checked) false ⟨#[], #[.agg #[.int .i64 0, .int .i64 0, .slice none 0 0, .slice none 0 0, .slice none 0 0, .int .i64 0, .int .u64 0, .slice none 0 0, .slice none 0 0]], []⟩ 8 (by kernel_rfl) (by kernel_rfl) (by kernel_rfl) (by kernel_rfl)) ?_
  intro W base args ds gs before hval0 hW hwt
  have hval : ∀ (j : Nat) t v, Try.f6.params[j]? = some t → args[j]? = some v → Value.okWide Try.prog W .any base t v := hval0
  have hW' := hW
  obtain ⟨p, q, hA0, hV, rfl, hfz, hnd⟩ := hW
  have hA : DataW.TrodAll enc Try.prog W 0 (fun _ => true) true Try.f6.params.toList args.toList ds p := hA0
  rw [Try.params6] at hA hval
  obtain ⟨v0, vs0, d0, ds0, p0, q0, hargs, rfl, rfl, h0, r0⟩ := trodAll_cons hA
  obtain ⟨rfl, rfl, rfl⟩ := trodAll_nil r0
  obtain rfl : args = #[v0] := by cases args; simp_all
  obtain ⟨rfl, rfl⟩ := trodVars_none hV
  have hwt : (DataW.weightsEach Try.prog [60] [d0]).all (· ≤ reachBytes) = true := hwt
  have k0 := h0
  have lt0 : ∀ x ∈ p0, x.block < W.heap.size := by obtain ⟨m, hm⟩ := k0; exact DataW.trod_lt m _ _ _ hm
  have l0 := light_of (j := 0) hwt rfl rfl
  obtain ⟨a1_0, a2_0, A3_0, n3_0, m3_0, z3_0, A4_0, n4_0, m4_0, z4_0, A5_0, n5_0, m5_0, z5_0, a6_0, a7_0, A8_0, n8_0, m8_0, z8_0, A9_0, n9_0, m9_0, z9_0, rfl, f0_0, f1_0, f2_0, f3_0, f4_0, f5_0, f6_0, f7_0, f8_0⟩ := open_faithful (hval 0 60 v0 rfl rfl) h0 l0
  clear hA0 hval0
  refine (walk a1_0 a2_0 A3_0 n3_0 m3_0 z3_0 A4_0 n4_0 m4_0 z4_0 A5_0 n5_0 m5_0 z5_0 a6_0 a7_0 A8_0 n8_0 m8_0 z8_0 A9_0 n9_0 m9_0 z9_0 W f0_0 f1_0 f2_0 f3_0 f4_0 f5_0 f6_0 f7_0 f8_0).mono fun e W' ⟨he, bel⟩ => ?_
  subst he
  exact ⟨_, rfl, _, _, _, [], _, [], hW', trodAll_mk1 (shut_bool Try.underlying4 _), (trodAll_cons_mk (Below.trod laidOut (by kernel_rfl) (of_decide_eq_true (by kernel_rfl)) k0 bel lt0) trodAll_mk0), rfl, bel.frame _, fun h => by cases h⟩

theorem over : Rows.deviceFaithfulRow.holds Try.pinned (OpenSpec.ofChange Rows.deviceFaithfulSpec) :=
  OpenClaim.holds_of_wide 6 Try.f6 rfl rfl rfl rfl rfl rfl rfl ⟨rfl, rfl, rfl, rfl, rfl⟩ rfl rfl rfl rfl rfl (by kernel_rfl) Try.func6 (by kernel_rfl)
    (of_decide_eq_true (by kernel_rfl)) (by unfold Func.isWrapper; first | (rw [if_pos (by decide +kernel)]; kernel_rfl) | (rw [if_neg (by decide +kernel)]; exact ⟨rfl, rfl⟩))
    (fun os started H enc _ => lifted os started H enc)

/-- ████ THE STATEMENT ████ -/
theorem proved : Rows.DeviceFaithfulSaid := over
#print axioms proved
end Go.Proofs.Ytcoihbpadbnilaa.deviceFaithful
