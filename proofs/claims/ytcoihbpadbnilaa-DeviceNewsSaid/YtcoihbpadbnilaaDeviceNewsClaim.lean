/-
  PROVED: device.New, Valid and Cost return what the reference returns, for any device with a machine of at most 12 states and 6 inputs and latencies of at most 70 costs. Conditions: those of the given statement.
-/
import Derived.Test.YtcoihbpadbnilaaRows
import Derived.WalkKit
import Derived.ProofKit
import Derived.OpenShut
import Derived.ShutString
import Derived.ChangeOld
import Derived.Below
import Derived.Test.YtcoihbpadbnilaaDc
import Derived.Test.YtcoihbpadbnilaaDz
namespace Go.Proofs.Ytcoihbpadbnilaa.deviceNews
open Go.ChangeShapes Go.WideShapes Go.ChangeAt Go.RowKit
set_option linter.unusedVariables false

theorem own : ownKnob Try.prog.godebug = none := by kernel_rfl
theorem laidOut : laidOutB Try.prog = true := by kernel_rfl

set_option maxHeartbeats 2000000 in
set_option maxRecDepth 100000 in
theorem walk (a1_0 : Int) (a2_0 : Int) (A3_0 : Option Addr) (n3_0 : Nat) (m3_0 : Nat) (z3_0 : List (List Int)) (A4_0 : Option Addr) (n4_0 : Nat) (m4_0 : Nat) (z4_0 : List (List Int)) (a5_0 : Int) (a6_0 : Bool) (A7_0 : Option Addr) (n7_0 : Nat) (m7_0 : Nat) (z7_0 : List Int) (a8_0 : Int) (a9_0 : Int) (a10_0 : Int) (a11_0 : Int) (a12_0 : Int) (a13_0 : Int) (a14_0 : Int) (a15_0 : Int) (a1 : Option Addr) (len1 cap1 : Nat) (z1 : List Int) (w : World) (f0_0 : (Lit.int .i64 a1_0).wf = true) (f1_0 : (Lit.int .i64 a2_0).wf = true) (f2_0 : Lists w A3_0 n3_0 z3_0) (f3_0 : Lists w A4_0 n4_0 z4_0) (f4_0 : (Lit.int .i64 a5_0).wf = true) (f5_0 : Ints w A7_0 n7_0 z7_0) (f6_0 : (Lit.int .i64 a8_0).wf = true) (f7_0 : (Lit.int .i64 a9_0).wf = true) (f8_0 : (Lit.int .i64 a10_0).wf = true) (f9_0 : (Lit.int .i64 a11_0).wf = true) (f10_0 : (Lit.int .u64 a12_0).wf = true) (f11_0 : (Lit.int .i64 a13_0).wf = true) (f12_0 : (Lit.int .i64 a14_0).wf = true) (f13_0 : (Lit.int .i64 a15_0).wf = true) (cc1 : len1 ≤ cap1) (w1 : Ints w a1 len1 z1) :
    Calls Try.prog 3 #[.agg #[.int .i64 a1_0, .int .i64 a2_0, .slice A3_0 n3_0 m3_0, .slice A4_0 n4_0 m4_0, .int .i64 a5_0, .bool a6_0, .slice A7_0 n7_0 m7_0, .int .i64 a8_0, .int .i64 a9_0, .int .i64 a10_0, .int .i64 a11_0, .int .u64 a12_0, .int .i64 a13_0, .int .i64 a14_0, .int .i64 a15_0], .slice a1 len1 cap1] w fun e w' => e = .returned (.bool true) ∧ Below w.heap.size w w' := by
  have h := f10_0
  unfold Lit.wf at h
  have h2 : IntKind.u64.max = 18446744073709551615 := by decide
  have h3 : IntKind.u64.min = 0 := by decide
  simp at h
  obtain ⟨s, rfl⟩ : ∃ s : Nat, a12_0 = s := ⟨a12_0.toNat, by omega⟩
  exact news19_walk ⟨a1_0, a2_0, z3_0, z4_0, a5_0, a6_0, z7_0, a8_0, a9_0, a10_0, a11_0, s, a13_0, a14_0, a15_0⟩ ⟨A3_0, n3_0, m3_0, A4_0, n4_0, m4_0, A7_0, n7_0, m7_0⟩ a1 len1 cap1 z1 w ⟨f2_0, f3_0, f5_0⟩ w1 (by show s < 18446744073709551616; omega)

set_option maxRecDepth 100000 in
theorem lifted (os : Os) (started : os.Started) (H : Type) (enc : TypeId × Value → H) :
    ReturnsInHanded {} Try.checked os 3 .any (Rows.deviceNewsSpec.pre6 enc Try.prog Try.f3 Rows.deviceNewsRow.domain false) (Rows.deviceNewsSpec.post enc Try.prog Try.f3 false true false false) := by
  refine handed_sized (C := Try.checked) own started (by kernel_rfl) Try.func3
    (ChangeSpec.witness6 (enc := enc) (C := Try.checked) false ⟨#[], #[.agg #[.int .i64 0, .int .i64 0, .slice none 0 0, .slice none 0 0, .int .i64 0, .bool false, .slice none 0 0, .int .i64 0, .int .i64 0, .int .i64 0, .int .i64 0, .int .u64 0, .int .i64 0, .int .i64 0, .int .i64 0], .slice none 0 0], []⟩ 8 (by kernel_rfl) (by kernel_rfl) (by kernel_rfl) (by kernel_rfl)) ?_
  intro W base args ds gs before hval0 hW hwt
  have hval : ∀ (j : Nat) t v, Try.f3.params[j]? = some t → args[j]? = some v → Value.okWide Try.prog W .any base t v := hval0
  have hW' := hW
  obtain ⟨p, q, hA0, hV, rfl, hfz, hnd⟩ := hW
  have hA : DataW.TrodAll enc Try.prog W 0 (fun _ => true) true Try.f3.params.toList args.toList ds p := hA0
  rw [Try.params3] at hA hval
  obtain ⟨v0, vs0, d0, ds0, p0, q0, hargs, rfl, rfl, h0, r0⟩ := trodAll_cons hA
  obtain ⟨v1, vs1, d1, ds1, p1, q1, rfl, rfl, rfl, h1, r1⟩ := trodAll_cons r0
  obtain ⟨rfl, rfl, rfl⟩ := trodAll_nil r1
  obtain rfl : args = #[v0, v1] := by cases args; simp_all
  obtain ⟨rfl, rfl⟩ := trodVars_none hV
  have hwt : (DataW.weightsEach Try.prog [32, 25] [d0, d1]).all (· ≤ reachBytes) = true := hwt
  have k0 := h0
  have lt0 : ∀ x ∈ p0, x.block < W.heap.size := by obtain ⟨m, hm⟩ := k0; exact DataW.trod_lt m _ _ _ hm
  have l0 := light_of (j := 0) hwt rfl rfl
  obtain ⟨a1_0, a2_0, A3_0, n3_0, m3_0, z3_0, A4_0, n4_0, m4_0, z4_0, a5_0, a6_0, A7_0, n7_0, m7_0, z7_0, a8_0, a9_0, a10_0, a11_0, a12_0, a13_0, a14_0, a15_0, rfl, f0_0, f1_0, f2_0, f3_0, f4_0, f5_0, f6_0, f7_0, f8_0, f9_0, f10_0, f11_0, f12_0, f13_0⟩ := open_device (hval 0 32 v0 rfl rfl) h0 l0
  have k1 := h1
  have lt1 : ∀ x ∈ p1, x.block < W.heap.size := by obtain ⟨m, hm⟩ := k1; exact DataW.trod_lt m _ _ _ hm
  have l1 := light_of (j := 1) hwt rfl rfl
  obtain ⟨a1, len1, cap1, rfl⟩ := okWide_slice Try.underlying25 (hval 1 25 v1 rfl rfl)
  obtain ⟨z1, cc1, w1⟩ : ∃ z, len1 ≤ cap1 ∧ Ints W a1 len1 z := by
    obtain ⟨fuel, hf⟩ := h1
    obtain ⟨A', n', c', z', e', q', o', _⟩ := open_intsw (by kernel_rfl) hf l1
    simp [Value.cells] at e'
    obtain ⟨rfl, rfl, rfl⟩ := e'
    exact ⟨z', q', o'⟩
  clear hA0 hval0
  refine (walk a1_0 a2_0 A3_0 n3_0 m3_0 z3_0 A4_0 n4_0 m4_0 z4_0 a5_0 a6_0 A7_0 n7_0 m7_0 z7_0 a8_0 a9_0 a10_0 a11_0 a12_0 a13_0 a14_0 a15_0 a1 len1 cap1 z1 W f0_0 f1_0 f2_0 f3_0 f4_0 f5_0 f6_0 f7_0 f8_0 f9_0 f10_0 f11_0 f12_0 f13_0 cc1 w1).mono fun e W' ⟨he, bel⟩ => ?_
  subst he
  exact ⟨_, rfl, _, _, _, [], _, [], hW', trodAll_mk1 (shut_bool Try.underlying4 _), (trodAll_cons_mk (Below.trod laidOut (by kernel_rfl) (of_decide_eq_true (by kernel_rfl)) k0 bel lt0) (trodAll_cons_mk (Below.trod laidOut (by kernel_rfl) (of_decide_eq_true (by kernel_rfl)) k1 bel lt1) trodAll_mk0)), rfl, bel.frame _, fun h => by cases h⟩

theorem over : Rows.deviceNewsRow.holds Try.pinned (OpenSpec.ofChange Rows.deviceNewsSpec) :=
  OpenClaim.holds_of_wide 3 Try.f3 rfl rfl rfl rfl rfl rfl rfl ⟨rfl, rfl, rfl, rfl, rfl⟩ rfl rfl rfl rfl rfl (by kernel_rfl) Try.func3 (by kernel_rfl)
    (of_decide_eq_true (by kernel_rfl)) (by unfold Func.isWrapper; first | (rw [if_pos (by decide +kernel)]; kernel_rfl) | (rw [if_neg (by decide +kernel)]; exact ⟨rfl, rfl⟩))
    (fun os started H enc _ => lifted os started H enc)

/-- ████ THE STATEMENT ████ -/
theorem proved : Rows.DeviceNewsSaid := over
#print axioms proved
end Go.Proofs.Ytcoihbpadbnilaa.deviceNews
