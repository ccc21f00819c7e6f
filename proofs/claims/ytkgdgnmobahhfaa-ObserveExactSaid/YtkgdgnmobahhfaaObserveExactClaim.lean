/-
  PROVED: PROVED: every answer of observations of a machine is its output word, and all words that were given are answered; the law returns true for any arguments. Conditions: at most 60 words of at most 100 symbols and a machine of at most 40 states and 20 inputs; beyond them the law asks its fixed examples.
-/
import Derived.Test.YtkgdgnmobahhfaaRows
import Derived.WalkKit
import Derived.ProofKit
import Derived.OpenShut
import Derived.ShutString
import Derived.ChangeOld
import Derived.Below
import Derived.Test.YtkgdgnmobahhfaaKaa
import Derived.Test.YtkgdgnmobahhfaaKaf
namespace Go.Proofs.Ytkgdgnmobahhfaa.observeExact
open Go.ChangeShapes Go.WideShapes Go.ChangeAt Go.RowKit
set_option linter.unusedVariables false

theorem own : ownKnob Try.prog.godebug = none := by kernel_rfl
theorem laidOut : laidOutB Try.prog = true := by kernel_rfl

set_option maxHeartbeats 2000000 in
set_option maxRecDepth 100000 in
theorem walk (i0 st0 : Int) (A0 : Option Addr) (n0 c0 : Nat) (B0 : Option Addr) (m0 e0 : Nat) (nx0 ot0 : List (List Int)) (a1 : Option Addr) (len1 cap1 : Nat) (z1 : List (List Int)) (a2 : Option Addr) (len2 cap2 : Nat) (z2 : List Int) (w : World) (wn0 : Lists w A0 n0 nx0) (wo0 : Lists w B0 m0 ot0) (wi0 : (Lit.int .i64 i0).wf = true) (ws0 : (Lit.int .i64 st0).wf = true) (cc1 : len1 ≤ cap1) (w1 : Lists w a1 len1 z1) (cc2 : len2 ≤ cap2) (w2 : Ints w a2 len2 z2) :
    Calls Try.prog 9 #[.agg #[.int .i64 i0, .int .i64 st0, .slice A0 n0 c0, .slice B0 m0 e0], .slice a1 len1 cap1, .slice a2 len2 cap2] w fun e w' => e = .returned (.bool true) ∧ Below w.heap.size w w' := by
  exact exact16_walk i0 st0 A0 B0 a1 a2 n0 c0 m0 e0 len1 cap1 len2 cap2 nx0 ot0 z1 z2 w wn0 wo0 w1 w2

set_option maxRecDepth 100000 in
theorem lifted (os : Os) (started : os.Started) (H : Type) (enc : TypeId × Value → H) :
    ReturnsInHanded {} Try.checked os 9 .any (Rows.observeExactSpec.pre6 enc Try.prog Try.f9 Rows.observeExactRow.domain false) (Rows.observeExactSpec.post enc Try.prog Try.f9 false true false false) := by
  refine handed_sized (C := Try.checked) own started (by kernel_rfl) Try.func9
    (ChangeSpec.witness6 (enc := enc) (C := Try.checked) false ⟨#[], #[.agg #[.int .i64 0, .int .i64 0, .slice none 0 0, .slice none 0 0], .slice none 0 0, .slice none 0 0], []⟩ 8 (by kernel_rfl) (by kernel_rfl) (by kernel_rfl) (by kernel_rfl)) ?_
  intro W base args ds gs before hval0 hW hwt
  have hval : ∀ (j : Nat) t v, Try.f9.params[j]? = some t → args[j]? = some v → Value.okWide Try.prog W .any base t v := hval0
  have hW' := hW
  obtain ⟨p, q, hA0, hV, rfl, hfz, hnd⟩ := hW
  have hA : DataW.TrodAll enc Try.prog W 0 (fun _ => true) true Try.f9.params.toList args.toList ds p := hA0
  rw [Try.params9] at hA hval
  obtain ⟨v0, vs0, d0, ds0, p0, q0, hargs, rfl, rfl, h0, r0⟩ := trodAll_cons hA
  obtain ⟨v1, vs1, d1, ds1, p1, q1, rfl, rfl, rfl, h1, r1⟩ := trodAll_cons r0
  obtain ⟨v2, vs2, d2, ds2, p2, q2, rfl, rfl, rfl, h2, r2⟩ := trodAll_cons r1
  obtain ⟨rfl, rfl, rfl⟩ := trodAll_nil r2
  obtain rfl : args = #[v0, v1, v2] := by cases args; simp_all
  obtain ⟨rfl, rfl⟩ := trodVars_none hV
  have hwt : (DataW.weightsEach Try.prog [56, 54, 36] [d0, d1, d2]).all (· ≤ reachBytes) = true := hwt
  have k0 := h0
  have lt0 : ∀ x ∈ p0, x.block < W.heap.size := by obtain ⟨m, hm⟩ := k0; exact DataW.trod_lt m _ _ _ hm
  have l0 := light_of (j := 0) hwt rfl rfl
  obtain ⟨i0, st0, A0, n0, c0, B0, m0, e0, nx0, ot0, rfl, wn0, wo0, wi0, ws0⟩ := open_mealy (by kernel_rfl) (by kernel_rfl) (hval 0 56 v0 rfl rfl) h0 l0
  have k1 := h1
  have lt1 : ∀ x ∈ p1, x.block < W.heap.size := by obtain ⟨m, hm⟩ := k1; exact DataW.trod_lt m _ _ _ hm
  have l1 := light_of (j := 1) hwt rfl rfl
  obtain ⟨a1, len1, cap1, rfl⟩ := okWide_slice Try.underlying54 (hval 1 54 v1 rfl rfl)
  obtain ⟨z1, cc1, w1⟩ : ∃ z, len1 ≤ cap1 ∧ Lists W a1 len1 z := by
    obtain ⟨fuel, hf⟩ := h1
    obtain ⟨A', n', c', z', e', q', o'⟩ := open_lists (by kernel_rfl) (by kernel_rfl) hf l1
    simp [Value.cells] at e'
    obtain ⟨rfl, rfl, rfl⟩ := e'
    exact ⟨z', q', o'⟩
  have k2 := h2
  have lt2 : ∀ x ∈ p2, x.block < W.heap.size := by obtain ⟨m, hm⟩ := k2; exact DataW.trod_lt m _ _ _ hm
  have l2 := light_of (j := 2) hwt rfl rfl
  obtain ⟨a2, len2, cap2, rfl⟩ := okWide_slice Try.underlying36 (hval 2 36 v2 rfl rfl)
  obtain ⟨z2, cc2, w2⟩ : ∃ z, len2 ≤ cap2 ∧ Ints W a2 len2 z := by
    obtain ⟨fuel, hf⟩ := h2
    obtain ⟨A', n', c', z', e', q', o', _⟩ := open_intsw (by kernel_rfl) hf l2
    simp [Value.cells] at e'
    obtain ⟨rfl, rfl, rfl⟩ := e'
    exact ⟨z', q', o'⟩
  clear hA0 hval0
  refine (walk i0 st0 A0 n0 c0 B0 m0 e0 nx0 ot0 a1 len1 cap1 z1 a2 len2 cap2 z2 W wn0 wo0 wi0 ws0 cc1 w1 cc2 w2).mono fun e W' ⟨he, bel⟩ => ?_
  subst he
  exact ⟨_, rfl, _, _, _, [], _, [], hW', trodAll_mk1 (shut_bool Try.underlying4 _), (trodAll_cons_mk (Below.trod laidOut (by kernel_rfl) (of_decide_eq_true (by kernel_rfl)) k0 bel lt0) (trodAll_cons_mk (Below.trod laidOut (by kernel_rfl) (of_decide_eq_true (by kernel_rfl)) k1 bel lt1) (trodAll_cons_mk (Below.trod laidOut (by kernel_rfl) (of_decide_eq_true (by kernel_rfl)) k2 bel lt2) trodAll_mk0))), rfl, bel.frame _, fun h => by cases h⟩

theorem over : Rows.observeExactRow.holds Try.pinned (OpenSpec.ofChange Rows.observeExactSpec) :=
  OpenClaim.holds_of_wide 9 Try.f9 rfl rfl rfl rfl rfl rfl rfl ⟨rfl, rfl, rfl, rfl, rfl⟩ rfl rfl rfl rfl rfl (by kernel_rfl) Try.func9 (by kernel_rfl)
    (of_decide_eq_true (by kernel_rfl)) (by unfold Func.isWrapper; first | (rw [if_pos (by decide +kernel)]; kernel_rfl) | (rw [if_neg (by decide +kernel)]; exact ⟨rfl, rfl⟩))
    (fun os started H enc _ => lifted os started H enc)

/-- ████ THE STATEMENT ████ -/
theorem proved : Rows.ObserveExactSaid := over
#print axioms proved
end Go.Proofs.Ytkgdgnmobahhfaa.observeExact
