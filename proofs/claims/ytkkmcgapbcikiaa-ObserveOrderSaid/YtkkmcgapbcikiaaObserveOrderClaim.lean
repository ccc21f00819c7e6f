/-
  PROVED: for valid observations the result of adding two traces does not depend on their order, adding one again changes nothing, both are contained then, and what was contained before is; the law returns true for any arguments. Conditions: at most 60 traces of at most 100 symbols, and two traces of at most 1100 symbols; beyond them, or where observations are not valid or a trace is refused, the law holds by its own guard.
-/
import Derived.Test.YtkkmcgapbcikiaaRows
import Derived.WalkKit
import Derived.ProofKit
import Derived.OpenShut
import Derived.ShutString
import Derived.ChangeOld
import Derived.Below
import Derived.Test.YtkkmcgapbcikiaaKaa
import Derived.Test.YtkkmcgapbcikiaaKal
namespace Go.Proofs.Ytkkmcgapbcikiaa.observeOrder
open Go.ChangeShapes Go.WideShapes Go.ChangeAt Go.RowKit
set_option linter.unusedVariables false

theorem own : ownKnob Try.prog.godebug = none := by kernel_rfl
theorem laidOut : laidOutB Try.prog = true := by kernel_rfl

set_option maxHeartbeats 2000000 in
set_option maxRecDepth 100000 in
theorem walk (a1_0 : Int) (A2_0 : Option Addr) (n2_0 : Nat) (m2_0 : Nat) (z2_0 : List (List Int × List Int)) (A1_1 : Option Addr) (n1_1 : Nat) (m1_1 : Nat) (z1_1 : List Int) (A2_1 : Option Addr) (n2_1 : Nat) (m2_1 : Nat) (z2_1 : List Int) (A1_2 : Option Addr) (n1_2 : Nat) (m1_2 : Nat) (z1_2 : List Int) (A2_2 : Option Addr) (n2_2 : Nat) (m2_2 : Nat) (z2_2 : List Int) (w : World) (f0_0 : (Lit.int .i64 a1_0).wf = true) (f1_0 : n2_0 ≤ m2_0) (f2_0 : Trs w A2_0 n2_0 z2_0) (f0_1 : n1_1 ≤ m1_1) (f1_1 : Ints w A1_1 n1_1 z1_1) (f2_1 : n2_1 ≤ m2_1) (f3_1 : Ints w A2_1 n2_1 z2_1) (f0_2 : n1_2 ≤ m1_2) (f1_2 : Ints w A1_2 n1_2 z1_2) (f2_2 : n2_2 ≤ m2_2) (f3_2 : Ints w A2_2 n2_2 z2_2) :
    Calls Try.prog 8 #[.agg #[.int .i64 a1_0, .slice A2_0 n2_0 m2_0], .agg #[.slice A1_1 n1_1 m1_1, .slice A2_1 n2_1 m2_1], .agg #[.slice A1_2 n1_2 m1_2, .slice A2_2 n2_2 m2_2]] w fun e w' => e = .returned (.bool true) ∧ Below w.heap.size w w' := by
  exact order16_walk a1_0 A2_0 A1_1 A2_1 A1_2 A2_2 n2_0 m2_0 n1_1 m1_1 n2_1 m2_1 n1_2 m1_2 n2_2 m2_2 z2_0 z1_1 z2_1 z1_2 z2_2 w f2_0 f1_0 f1_1 f0_1 f3_1 f2_1 f1_2 f0_2 f3_2 f2_2

set_option maxRecDepth 100000 in
theorem lifted (os : Os) (started : os.Started) (H : Type) (enc : TypeId × Value → H) :
    ReturnsInHanded {} Try.checked os 8 .any (Rows.observeOrderSpec.pre6 enc Try.prog Try.f8 Rows.observeOrderRow.domain false) (Rows.observeOrderSpec.post enc Try.prog Try.f8 false true false false) := by
  refine handed_sized (C := Try.checked) own started (by kernel_rfl) Try.func8
    (ChangeSpec.witness6 (enc := enc) (C := Try.checked) false ⟨#[], #[.agg #[.int .i64 0, .slice none 0 0], .agg #[.slice none 0 0, .slice none 0 0], .agg #[.slice none 0 0, .slice none 0 0]], []⟩ 8 (by kernel_rfl) (by kernel_rfl) (by kernel_rfl) (by kernel_rfl)) ?_
  intro W base args ds gs before hval0 hW hwt
  have hval : ∀ (j : Nat) t v, Try.f8.params[j]? = some t → args[j]? = some v → Value.okWide Try.prog W .any base t v := hval0
  have hW' := hW
  obtain ⟨p, q, hA0, hV, rfl, hfz, hnd⟩ := hW
  have hA : DataW.TrodAll enc Try.prog W 0 (fun _ => true) true Try.f8.params.toList args.toList ds p := hA0
  rw [Try.params8] at hA hval
  obtain ⟨v0, vs0, d0, ds0, p0, q0, hargs, rfl, rfl, h0, r0⟩ := trodAll_cons hA
  obtain ⟨v1, vs1, d1, ds1, p1, q1, rfl, rfl, rfl, h1, r1⟩ := trodAll_cons r0
  obtain ⟨v2, vs2, d2, ds2, p2, q2, rfl, rfl, rfl, h2, r2⟩ := trodAll_cons r1
  obtain ⟨rfl, rfl, rfl⟩ := trodAll_nil r2
  obtain rfl : args = #[v0, v1, v2] := by cases args; simp_all
  obtain ⟨rfl, rfl⟩ := trodVars_none hV
  have hwt : (DataW.weightsEach Try.prog [24, 38, 38] [d0, d1, d2]).all (· ≤ reachBytes) = true := hwt
  have k0 := h0
  have lt0 : ∀ x ∈ p0, x.block < W.heap.size := by obtain ⟨m, hm⟩ := k0; exact DataW.trod_lt m _ _ _ hm
  have l0 := light_of (j := 0) hwt rfl rfl
  obtain ⟨a1_0, A2_0, n2_0, m2_0, z2_0, rfl, f0_0, f1_0, f2_0⟩ := open_obs (hval 0 24 v0 rfl rfl) h0 l0
  have k1 := h1
  have lt1 : ∀ x ∈ p1, x.block < W.heap.size := by obtain ⟨m, hm⟩ := k1; exact DataW.trod_lt m _ _ _ hm
  have l1 := light_of (j := 1) hwt rfl rfl
  obtain ⟨A1_1, n1_1, m1_1, z1_1, A2_1, n2_1, m2_1, z2_1, rfl, f0_1, f1_1, f2_1, f3_1⟩ := open_trace (hval 1 38 v1 rfl rfl) h1 l1
  have k2 := h2
  have lt2 : ∀ x ∈ p2, x.block < W.heap.size := by obtain ⟨m, hm⟩ := k2; exact DataW.trod_lt m _ _ _ hm
  have l2 := light_of (j := 2) hwt rfl rfl
  obtain ⟨A1_2, n1_2, m1_2, z1_2, A2_2, n2_2, m2_2, z2_2, rfl, f0_2, f1_2, f2_2, f3_2⟩ := open_trace (hval 2 38 v2 rfl rfl) h2 l2
  clear hA0 hval0
  refine (walk a1_0 A2_0 n2_0 m2_0 z2_0 A1_1 n1_1 m1_1 z1_1 A2_1 n2_1 m2_1 z2_1 A1_2 n1_2 m1_2 z1_2 A2_2 n2_2 m2_2 z2_2 W f0_0 f1_0 f2_0 f0_1 f1_1 f2_1 f3_1 f0_2 f1_2 f2_2 f3_2).mono fun e W' ⟨he, bel⟩ => ?_
  subst he
  exact ⟨_, rfl, _, _, _, [], _, [], hW', trodAll_mk1 (shut_bool Try.underlying4 _), (trodAll_cons_mk (Below.trod laidOut (by kernel_rfl) (of_decide_eq_true (by kernel_rfl)) k0 bel lt0) (trodAll_cons_mk (Below.trod laidOut (by kernel_rfl) (of_decide_eq_true (by kernel_rfl)) k1 bel lt1) (trodAll_cons_mk (Below.trod laidOut (by kernel_rfl) (of_decide_eq_true (by kernel_rfl)) k2 bel lt2) trodAll_mk0))), rfl, bel.frame _, fun h => by cases h⟩

theorem over : Rows.observeOrderRow.holds Try.pinned (OpenSpec.ofChange Rows.observeOrderSpec) :=
  OpenClaim.holds_of_wide 8 Try.f8 rfl rfl rfl rfl rfl rfl rfl ⟨rfl, rfl, rfl, rfl, rfl⟩ rfl rfl rfl rfl rfl (by kernel_rfl) Try.func8 (by kernel_rfl)
    (of_decide_eq_true (by kernel_rfl)) (by unfold Func.isWrapper; first | (rw [if_pos (by decide +kernel)]; kernel_rfl) | (rw [if_neg (by decide +kernel)]; exact ⟨rfl, rfl⟩))
    (fun os started H enc _ => lifted os started H enc)

/-- ████ THE STATEMENT ████ -/
theorem proved : Rows.ObserveOrderSaid := over
#print axioms proved
end Go.Proofs.Ytkkmcgapbcikiaa.observeOrder
