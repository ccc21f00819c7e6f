/-
  PROVED: The law CodecSeals of the codec holds for every kind, every content, every rest and every change of a byte: a frame is opened again, one that is cut off is not accepted, one that was changed is not accepted with its length; no further condition.
-/
import Derived.Test.YtihahljpfekmbaaRows
import Derived.WalkKit
import Derived.ProofKit
import Derived.OpenShut
import Derived.ShutString
import Derived.ChangeOld
import Derived.Below
import Derived.Test.YtihahljpfekmbaaOpenm
import Derived.Test.YtihahljpfekmbaaOpenf
import Derived.Test.YtihahljpfekmbaaCsea
namespace Go.Proofs.Ytihahljpfekmbaa.codecSeals
open Go.ChangeShapes Go.WideShapes Go.ChangeAt Go.RowKit
set_option linter.unusedVariables false

theorem own : ownKnob Try.prog.godebug = none := by kernel_rfl
theorem laidOut : laidOutB Try.prog = true := by kernel_rfl

set_option maxHeartbeats 2000000 in
set_option maxRecDepth 100000 in
theorem walk (k0x : Int) (A0 : Option Addr) (m0 c0 : Nat) (x0 : List Nat) (B0 : Option Addr) (n0x e0 : Nat) (y0 : List Nat) (t0 b0 : Int) (w : World) (w0 : (Lit.int .u8 k0x).wf = true) (o0 : m0 ≤ c0) (a0 : Byts w A0 m0 x0) (s0 : n0x ≤ e0) (z0 : Byts w B0 n0x y0) (u0 : (Lit.int .u16 t0).wf = true) (g0 : (Lit.int .u8 b0).wf = true) :
    Calls Try.prog 8 #[.agg #[.int .u8 k0x, .slice A0 m0 c0, .slice B0 n0x e0, .int .u16 t0, .int .u8 b0]] w fun e w' => e = .returned (.bool true) ∧ Below w.heap.size w w' := by
  obtain ⟨kd, rfl, hk⟩ := u8_nat w0
  obtain ⟨by_, rfl, hb⟩ := u8_nat g0
  obtain ⟨t, rfl, ht⟩ : ∃ t : Nat, t0 = t ∧ t < 65536 := by
    obtain ⟨h1, h2⟩ := (Lit.wf_int_iff _ _).1 u0
    simp [IntKind.min, IntKind.max, IntKind.signed, IntKind.bits] at h1 h2
    exact ⟨t0.toNat, by omega, by omega⟩
  exact seals_walk kd t by_ A0 B0 m0 c0 n0x e0 x0 y0 w hk ht hb a0 z0

set_option maxRecDepth 100000 in
theorem lifted (os : Os) (started : os.Started) (H : Type) (enc : TypeId × Value → H) :
    ReturnsInHanded {} Try.checked os 8 .any (Rows.codecSealsSpec.pre6 enc Try.prog Try.f8 Rows.codecSealsRow.domain false) (Rows.codecSealsSpec.post enc Try.prog Try.f8 false true false false) := by
  refine handed_sized (C := Try.checked) own started (by kernel_rfl) Try.func8
    (ChangeSpec.witness6 (enc := enc) (C := Try.checked) false ⟨#[], #[.agg #[.int .u8 0, .slice none 0 0, .slice none 0 0, .int .u16 0, .int .u8 0]], []⟩ 8 (by kernel_rfl) (by kernel_rfl) (by kernel_rfl) (by kernel_rfl)) ?_
  intro W base args ds gs before hval0 hW hwt
  have hval : ∀ (j : Nat) t v, Try.f8.params[j]? = some t → args[j]? = some v → Value.okWide Try.prog W .any base t v := hval0
  have hW' := hW
  obtain ⟨p, q, hA0, hV, rfl, hfz, hnd⟩ := hW
  have hA : DataW.TrodAll enc Try.prog W 0 (fun _ => true) true Try.f8.params.toList args.toList ds p := hA0
  rw [Try.params8] at hA hval
  obtain ⟨v0, vs0, d0, ds0, p0, q0, hargs, rfl, rfl, h0, r0⟩ := trodAll_cons hA
  obtain ⟨rfl, rfl, rfl⟩ := trodAll_nil r0
  obtain rfl : args = #[v0] := by cases args; simp_all
  obtain ⟨rfl, rfl⟩ := trodVars_none hV
  have hwt : (DataW.weightsEach Try.prog [62] [d0]).all (· ≤ reachBytes) = true := hwt
  have k0 := h0
  have lt0 : ∀ x ∈ p0, x.block < W.heap.size := by obtain ⟨m, hm⟩ := k0; exact DataW.trod_lt m _ _ _ hm
  have l0 := light_of (j := 0) hwt rfl rfl
  obtain ⟨k0x, A0, m0, c0, x0, B0, n0x, e0, y0, t0, b0, rfl, w0, o0, a0, s0, z0, u0, g0⟩ := open_seals (hval 0 62 v0 rfl rfl) h0 l0
  clear hA0 hval0
  refine (walk k0x A0 m0 c0 x0 B0 n0x e0 y0 t0 b0 W w0 o0 a0 s0 z0 u0 g0).mono fun e W' ⟨he, bel⟩ => ?_
  subst he
  exact ⟨_, rfl, _, _, _, [], _, [], hW', trodAll_mk1 (shut_bool Try.underlying4 _), (trodAll_cons_mk (Below.trod laidOut (by kernel_rfl) (of_decide_eq_true (by kernel_rfl)) k0 bel lt0) trodAll_mk0), rfl, bel.frame _, fun h => by cases h⟩

theorem over : Rows.codecSealsRow.holds Try.pinned (OpenSpec.ofChange Rows.codecSealsSpec) :=
  OpenClaim.holds_of_wide 8 Try.f8 rfl rfl rfl rfl rfl rfl rfl ⟨rfl, rfl, rfl, rfl, rfl⟩ rfl rfl rfl rfl rfl (by kernel_rfl) Try.func8 (by kernel_rfl)
    (of_decide_eq_true (by kernel_rfl)) (by unfold Func.isWrapper; first | (rw [if_pos (by decide +kernel)]; kernel_rfl) | (rw [if_neg (by decide +kernel)]; exact ⟨rfl, rfl⟩))
    (fun os started H enc _ => lifted os started H enc)

/-- ████ THE STATEMENT ████ -/
theorem proved : Rows.CodecSealsSaid := over
#print axioms proved
end Go.Proofs.Ytihahljpfekmbaa.codecSeals
