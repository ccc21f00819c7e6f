/-
  PROVED: for every operation and two automata, the law DfaCombines returns true and its arguments read as before (Combine and Differ agree with the reference). No conditions beside the form's.
-/
import Derived.Test.YthjnghldedfdoaaRows
import Derived.WalkKit
import Derived.ProofKit
import Derived.OpenShut
import Derived.ShutString
import Derived.ChangeOld
import Derived.Below
import Derived.Test.YthjnghldedfdoaaNai
import Derived.Test.YthjnghldedfdoaaNeb
namespace Go.Proofs.Ythjnghldedfdoaa.dfaCombines
open Go.ChangeShapes Go.WideShapes Go.ChangeAt Go.RowKit
set_option linter.unusedVariables false

theorem own : ownKnob Try.prog.godebug = none := by kernel_rfl
theorem laidOut : laidOutB Try.prog = true := by kernel_rfl

set_option maxHeartbeats 2000000 in
set_option maxRecDepth 100000 in
theorem walk (a0 : Int) (i1 st1 : Int) (A1 : Option Addr) (n1 c1 : Nat) (B1 : Option Addr) (m1 e1 : Nat) (nx1 : List (List Int)) (ac1 : List Bool) (i2 st2 : Int) (A2 : Option Addr) (n2 c2 : Nat) (B2 : Option Addr) (m2 e2 : Nat) (nx2 : List (List Int)) (ac2 : List Bool) (w : World) (w0 : (Lit.int .i64 a0).wf = true) (wn1 : Lists w A1 n1 nx1) (wo1 : BoolsL w B1 m1 ac1) (wi1 : (Lit.int .i64 i1).wf = true) (ws1 : (Lit.int .i64 st1).wf = true) (wn2 : Lists w A2 n2 nx2) (wo2 : BoolsL w B2 m2 ac2) (wi2 : (Lit.int .i64 i2).wf = true) (ws2 : (Lit.int .i64 st2).wf = true) :
    Calls Try.prog 4 #[.int .i64 a0, .agg #[.int .i64 i1, .int .i64 st1, .slice A1 n1 c1, .slice B1 m1 e1], .agg #[.int .i64 i2, .int .i64 st2, .slice A2 n2 c2, .slice B2 m2 e2]] w fun e w' => e = .returned (.bool true) ∧ Below w.heap.size w w' := by
  exact comb7_walk a0 i1 st1 A1 B1 n1 c1 m1 e1 nx1 ac1 i2 st2 A2 B2 n2 c2 m2 e2 nx2 ac2 w wn1 wo1 wn2 wo2

set_option maxRecDepth 100000 in
theorem lifted (os : Os) (started : os.Started) (H : Type) (enc : TypeId × Value → H) :
    ReturnsInHanded {} Try.checked os 4 .any (Rows.dfaCombinesSpec.pre6 enc Try.prog Try.f4 Rows.dfaCombinesRow.domain false) (Rows.dfaCombinesSpec.post enc Try.prog Try.f4 false true false false) := by
  refine handed_sized (C := Try.checked) own started (by kernel_rfl) Try.func4
    (ChangeSpec.witness6 (enc := enc) (C := Try.checked) false ⟨#[], #[.int .i64 0, .agg #[.int .i64 0, .int .i64 0, .slice none 0 0, .slice none 0 0], .agg #[.int .i64 0, .int .i64 0, .slice none 0 0, .slice none 0 0]], []⟩ 8 (by kernel_rfl) (by kernel_rfl) (by kernel_rfl) (by kernel_rfl)) ?_
  intro W base args ds gs before hval0 hW hwt
  have hval : ∀ (j : Nat) t v, Try.f4.params[j]? = some t → args[j]? = some v → Value.okWide Try.prog W .any base t v := hval0
  have hW' := hW
  obtain ⟨p, q, hA0, hV, rfl, hfz, hnd⟩ := hW
  have hA : DataW.TrodAll enc Try.prog W 0 (fun _ => true) true Try.f4.params.toList args.toList ds p := hA0
  rw [Try.params4] at hA hval
  obtain ⟨v0, vs0, d0, ds0, p0, q0, hargs, rfl, rfl, h0, r0⟩ := trodAll_cons hA
  obtain ⟨v1, vs1, d1, ds1, p1, q1, rfl, rfl, rfl, h1, r1⟩ := trodAll_cons r0
  obtain ⟨v2, vs2, d2, ds2, p2, q2, rfl, rfl, rfl, h2, r2⟩ := trodAll_cons r1
  obtain ⟨rfl, rfl, rfl⟩ := trodAll_nil r2
  obtain rfl : args = #[v0, v1, v2] := by cases args; simp_all
  obtain ⟨rfl, rfl⟩ := trodVars_none hV
  have hwt : (DataW.weightsEach Try.prog [3, 25, 25] [d0, d1, d2]).all (· ≤ reachBytes) = true := hwt
  obtain ⟨a0, rfl, rfl, rfl, w0⟩ := open_int Try.underlying3 (hval 0 3 v0 rfl rfl) h0
  have k1 := h1
  have lt1 : ∀ x ∈ p1, x.block < W.heap.size := by obtain ⟨m, hm⟩ := k1; exact DataW.trod_lt m _ _ _ hm
  have l1 := light_of (j := 1) hwt rfl rfl
  obtain ⟨i1, st1, A1, n1, c1, B1, m1, e1, nx1, ac1, rfl, wn1, wo1, wi1, ws1⟩ := open_dfa (by kernel_rfl) (by kernel_rfl) (by kernel_rfl) (hval 1 25 v1 rfl rfl) h1 l1
  have k2 := h2
  have lt2 : ∀ x ∈ p2, x.block < W.heap.size := by obtain ⟨m, hm⟩ := k2; exact DataW.trod_lt m _ _ _ hm
  have l2 := light_of (j := 2) hwt rfl rfl
  obtain ⟨i2, st2, A2, n2, c2, B2, m2, e2, nx2, ac2, rfl, wn2, wo2, wi2, ws2⟩ := open_dfa (by kernel_rfl) (by kernel_rfl) (by kernel_rfl) (hval 2 25 v2 rfl rfl) h2 l2
  clear hA0 hval0
  refine (walk a0 i1 st1 A1 n1 c1 B1 m1 e1 nx1 ac1 i2 st2 A2 n2 c2 B2 m2 e2 nx2 ac2 W w0 wn1 wo1 wi1 ws1 wn2 wo2 wi2 ws2).mono fun e W' ⟨he, bel⟩ => ?_
  subst he
  exact ⟨_, rfl, _, _, _, [], _, [], hW', trodAll_mk1 (shut_bool Try.underlying4 _), (trodAll_cons_mk (shut_int Try.underlying3 w0) (trodAll_cons_mk (Below.trod laidOut (by kernel_rfl) (of_decide_eq_true (by kernel_rfl)) k1 bel lt1) (trodAll_cons_mk (Below.trod laidOut (by kernel_rfl) (of_decide_eq_true (by kernel_rfl)) k2 bel lt2) trodAll_mk0))), rfl, bel.frame _, fun h => by cases h⟩

theorem over : Rows.dfaCombinesRow.holds Try.pinned (OpenSpec.ofChange Rows.dfaCombinesSpec) :=
  OpenClaim.holds_of_wide 4 Try.f4 rfl rfl rfl rfl rfl rfl rfl ⟨rfl, rfl, rfl, rfl, rfl⟩ rfl rfl rfl rfl rfl (by kernel_rfl) Try.func4 (by kernel_rfl)
    (of_decide_eq_true (by kernel_rfl)) (by unfold Func.isWrapper; first | (rw [if_pos (by decide +kernel)]; kernel_rfl) | (rw [if_neg (by decide +kernel)]; exact ⟨rfl, rfl⟩))
    (fun os started H enc _ => lifted os started H enc)

/-- ████ THE STATEMENT ████ -/
theorem proved : Rows.DfaCombinesSaid := over
#print axioms proved
end Go.Proofs.Ythjnghldedfdoaa.dfaCombines
