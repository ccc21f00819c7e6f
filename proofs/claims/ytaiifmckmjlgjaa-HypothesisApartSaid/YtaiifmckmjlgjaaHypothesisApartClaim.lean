/-
  PROVED: hypothesis.Apart and hypothesis.Lower return what the reference returns, for valid observations and at most twelve words of at most 200 symbols; the law returns true for any arguments. Conditions: those of the given statement.
-/
import Derived.Test.YtaiifmckmjlgjaaRows
import Derived.WalkKit
import Derived.ProofKit
import Derived.OpenShut
import Derived.ShutString
import Derived.ChangeOld
import Derived.Below
import Derived.Test.YtaiifmckmjlgjaaHa
import Derived.Test.YtaiifmckmjlgjaaHf
import Derived.Test.YtaiifmckmjlgjaaHe
namespace Go.Proofs.Ytaiifmckmjlgjaa.hypothesisApart
open Go.ChangeShapes Go.WideShapes Go.ChangeAt Go.RowKit
set_option linter.unusedVariables false

theorem own : ownKnob Try.prog.godebug = none := by kernel_rfl
theorem laidOut : laidOutB Try.prog = true := by kernel_rfl

set_option maxHeartbeats 2000000 in
set_option maxRecDepth 100000 in
theorem walk (a1_0 : Int) (A2_0 : Option Addr) (n2_0 : Nat) (m2_0 : Nat) (z2_0 : List (List Int × List Int)) (a1 : Option Addr) (len1 cap1 : Nat) (z1 : List (List Int)) (w : World) (f0_0 : (Lit.int .i64 a1_0).wf = true) (f1_0 : n2_0 ≤ m2_0) (f2_0 : Trs w A2_0 n2_0 z2_0) (cc1 : len1 ≤ cap1) (w1 : Lists w a1 len1 z1) :
    Calls Try.prog 5 #[.agg #[.int .i64 a1_0, .slice A2_0 n2_0 m2_0], .slice a1 len1 cap1] w fun e w' => e = .returned (.bool true) ∧ Below w.heap.size w w' := by
  exact apart22_walk a1_0 A2_0 a1 n2_0 m2_0 len1 cap1 z2_0 z1 w f2_0 f1_0 w1

set_option maxRecDepth 100000 in
theorem lifted (os : Os) (started : os.Started) (H : Type) (enc : TypeId × Value → H) :
    ReturnsInHanded {} Try.checked os 5 .any (Rows.hypothesisApartSpec.pre6 enc Try.prog Try.f5 Rows.hypothesisApartRow.domain false) (Rows.hypothesisApartSpec.post enc Try.prog Try.f5 false true false false) := by
  refine handed_sized (C := Try.checked) own started (by kernel_rfl) Try.func5
    (ChangeSpec.witness6 (enc := enc) (C := Try.checked) false ⟨#[], #[.agg #[.int .i64 0, .slice none 0 0], .slice none 0 0], []⟩ 8 (by kernel_rfl) (by kernel_rfl) (by kernel_rfl) (by kernel_rfl)) ?_
  intro W base args ds gs before hval0 hW hwt
  have hval : ∀ (j : Nat) t v, Try.f5.params[j]? = some t → args[j]? = some v → Value.okWide Try.prog W .any base t v := hval0
  have hW' := hW
  obtain ⟨p, q, hA0, hV, rfl, hfz, hnd⟩ := hW
  have hA : DataW.TrodAll enc Try.prog W 0 (fun _ => true) true Try.f5.params.toList args.toList ds p := hA0
  rw [Try.params5] at hA hval
  obtain ⟨v0, vs0, d0, ds0, p0, q0, hargs, rfl, rfl, h0, r0⟩ := trodAll_cons hA
  obtain ⟨v1, vs1, d1, ds1, p1, q1, rfl, rfl, rfl, h1, r1⟩ := trodAll_cons r0
  obtain ⟨rfl, rfl, rfl⟩ := trodAll_nil r1
  obtain rfl : args = #[v0, v1] := by cases args; simp_all
  obtain ⟨rfl, rfl⟩ := trodVars_none hV
  have hwt : (DataW.weightsEach Try.prog [34, 22] [d0, d1]).all (· ≤ reachBytes) = true := hwt
  have k0 := h0
  have lt0 : ∀ x ∈ p0, x.block < W.heap.size := by obtain ⟨m, hm⟩ := k0; exact DataW.trod_lt m _ _ _ hm
  have l0 := light_of (j := 0) hwt rfl rfl
  obtain ⟨a1_0, A2_0, n2_0, m2_0, z2_0, rfl, f0_0, f1_0, f2_0⟩ := open_obs (hval 0 34 v0 rfl rfl) h0 l0
  have k1 := h1
  have lt1 : ∀ x ∈ p1, x.block < W.heap.size := by obtain ⟨m, hm⟩ := k1; exact DataW.trod_lt m _ _ _ hm
  have l1 := light_of (j := 1) hwt rfl rfl
  obtain ⟨a1, len1, cap1, rfl⟩ := okWide_slice Try.underlying22 (hval 1 22 v1 rfl rfl)
  obtain ⟨z1, cc1, w1⟩ : ∃ z, len1 ≤ cap1 ∧ Lists W a1 len1 z := by
    obtain ⟨fuel, hf⟩ := h1
    obtain ⟨A', n', c', z', e', q', o'⟩ := open_lists (by kernel_rfl) (by kernel_rfl) hf l1
    simp [Value.cells] at e'
    obtain ⟨rfl, rfl, rfl⟩ := e'
    exact ⟨z', q', o'⟩
  clear hA0 hval0
  refine (walk a1_0 A2_0 n2_0 m2_0 z2_0 a1 len1 cap1 z1 W f0_0 f1_0 f2_0 cc1 w1).mono fun e W' ⟨he, bel⟩ => ?_
  subst he
  exact ⟨_, rfl, _, _, _, [], _, [], hW', trodAll_mk1 (shut_bool Try.underlying4 _), (trodAll_cons_mk (Below.trod laidOut (by kernel_rfl) (of_decide_eq_true (by kernel_rfl)) k0 bel lt0) (trodAll_cons_mk (Below.trod laidOut (by kernel_rfl) (of_decide_eq_true (by kernel_rfl)) k1 bel lt1) trodAll_mk0)), rfl, bel.frame _, fun h => by cases h⟩

theorem over : Rows.hypothesisApartRow.holds Try.pinned (OpenSpec.ofChange Rows.hypothesisApartSpec) :=
  OpenClaim.holds_of_wide 5 Try.f5 rfl rfl rfl rfl rfl rfl rfl ⟨rfl, rfl, rfl, rfl, rfl⟩ rfl rfl rfl rfl rfl (by kernel_rfl) Try.func5 (by kernel_rfl)
    (of_decide_eq_true (by kernel_rfl)) (by unfold Func.isWrapper; first | (rw [if_pos (by decide +kernel)]; kernel_rfl) | (rw [if_neg (by decide +kernel)]; exact ⟨rfl, rfl⟩))
    (fun os started H enc _ => lifted os started H enc)

/-- ████ THE STATEMENT ████ -/
theorem proved : Rows.HypothesisApartSaid := over
#print axioms proved
end Go.Proofs.Ytaiifmckmjlgjaa.hypothesisApart
