/-
  PROVED: The law CodecTrips of the codec holds for every number, every lists and every cut: what was put is taken back, whatever follows, and nothing that is cut off is accepted; no further condition.
-/
import Derived.Test.YtihahljpfekmbaaRows
import Derived.WalkKit
import Derived.ProofKit
import Derived.OpenShut
import Derived.ShutString
import Derived.ChangeOld
import Derived.Below
import Derived.Test.YtihahljpfekmbaaOpenm
import Derived.Test.YtihahljpfekmbaaOpenf
import Derived.Test.YtihahljpfekmbaaCtrp
namespace Go.Proofs.Ytihahljpfekmbaa.codecTrips
open Go.ChangeShapes Go.WideShapes Go.ChangeAt Go.RowKit
set_option linter.unusedVariables false

theorem own : ownKnob Try.prog.godebug = none := by kernel_rfl
theorem laidOut : laidOutB Try.prog = true := by kernel_rfl

set_option maxHeartbeats 2000000 in
set_option maxRecDepth 100000 in
theorem walk (n0 : Int) (A0 : Option Addr) (m0 c0 : Nat) (x0 : List Int) (B0 : Option Addr) (k0x e0 : Nat) (y0 : List (List Int)) (D0 : Option Addr) (q0x f0 : Nat) (b0 : List Nat) (t0 : Int) (w : World) (w0 : (Lit.int .i64 n0).wf = true) (a0 : Ints w A0 m0 x0) (r0x : RL x0) (s0 : Lists w B0 k0x y0) (g0 : ∀ l, l ∈ y0 → RL l) (o0 : q0x ≤ f0) (z0 : Byts w D0 q0x b0) (u0 : (Lit.int .u16 t0).wf = true) :
    Calls Try.prog 6 #[.agg #[.int .i64 n0, .slice A0 m0 c0, .slice B0 k0x e0, .slice D0 q0x f0, .int .u16 t0]] w fun e w' => e = .returned (.bool true) ∧ Below w.heap.size w w' := by
  obtain ⟨t, rfl, ht⟩ : ∃ t : Nat, t0 = t ∧ t < 65536 := by
    obtain ⟨h1, h2⟩ := (Lit.wf_int_iff _ _).1 u0
    simp [IntKind.min, IntKind.max, IntKind.signed, IntKind.bits] at h1 h2
    exact ⟨t0.toNat, by omega, by omega⟩
  exact trips5_walk n0 A0 B0 D0 m0 c0 k0x e0 q0x f0 t x0 y0 b0 w (i64_in w0) a0 r0x s0 g0 z0 ht

set_option maxRecDepth 100000 in
theorem lifted (os : Os) (started : os.Started) (H : Type) (enc : TypeId × Value → H) :
    ReturnsInHanded {} Try.checked os 6 .any (Rows.codecTripsSpec.pre6 enc Try.prog Try.f6 Rows.codecTripsRow.domain false) (Rows.codecTripsSpec.post enc Try.prog Try.f6 false true false false) := by
  refine handed_sized (C := Try.checked) own started (by kernel_rfl) Try.func6
    (ChangeSpec.witness6 (enc := enc) (C := Try.checked) false ⟨#[], #[.agg #[.int .i64 0, .slice none 0 0, .slice none 0 0, .slice none 0 0, .int .u16 0]], []⟩ 8 (by kernel_rfl) (by kernel_rfl) (by kernel_rfl) (by kernel_rfl)) ?_
  intro W base args ds gs before hval0 hW hwt
  have hval : ∀ (j : Nat) t v, Try.f6.params[j]? = some t → args[j]? = some v → Value.okWide Try.prog W .any base t v := hval0
  have hW' := hW
  obtain ⟨p, q, hA0, hV, rfl, hfz, hnd⟩ := hW
  have hA : DataW.TrodAll enc Try.prog W 0 (fun _ => true) true Try.f6.params.toList args.toList ds p := hA0
  rw [Try.params6] at hA hval
  obtain ⟨v0, vs0, d0, ds0, p0, q0, hargs, rfl, rfl, h0, r0⟩ := trodAll_cons hA
  obtain ⟨rfl, rfl, rfl⟩ := trodAll_nil r0
  obtain rfl : args = #[v0] := by cases args; simp_all
  obtain ⟨rfl, rfl⟩ := trodVars_none hV
  have hwt : (DataW.weightsEach Try.prog [57] [d0]).all (· ≤ reachBytes) = true := hwt
  have k0 := h0
  have lt0 : ∀ x ∈ p0, x.block < W.heap.size := by obtain ⟨m, hm⟩ := k0; exact DataW.trod_lt m _ _ _ hm
  have l0 := light_of (j := 0) hwt rfl rfl
  obtain ⟨n0, A0, m0, c0, x0, B0, k0x, e0, y0, D0, q0x, f0, b0, t0, rfl, w0, a0, r0x, s0, g0, o0, z0, u0⟩ := open_trips (hval 0 57 v0 rfl rfl) h0 l0
  clear hA0 hval0
  refine (walk n0 A0 m0 c0 x0 B0 k0x e0 y0 D0 q0x f0 b0 t0 W w0 a0 r0x s0 g0 o0 z0 u0).mono fun e W' ⟨he, bel⟩ => ?_
  subst he
  exact ⟨_, rfl, _, _, _, [], _, [], hW', trodAll_mk1 (shut_bool Try.underlying4 _), (trodAll_cons_mk (Below.trod laidOut (by kernel_rfl) (of_decide_eq_true (by kernel_rfl)) k0 bel lt0) trodAll_mk0), rfl, bel.frame _, fun h => by cases h⟩

theorem over : Rows.codecTripsRow.holds Try.pinned (OpenSpec.ofChange Rows.codecTripsSpec) :=
  OpenClaim.holds_of_wide 6 Try.f6 rfl rfl rfl rfl rfl rfl rfl ⟨rfl, rfl, rfl, rfl, rfl⟩ rfl rfl rfl rfl rfl (by kernel_rfl) Try.func6 (by kernel_rfl)
    (of_decide_eq_true (by kernel_rfl)) (by unfold Func.isWrapper; first | (rw [if_pos (by decide +kernel)]; kernel_rfl) | (rw [if_neg (by decide +kernel)]; exact ⟨rfl, rfl⟩))
    (fun os started H enc _ => lifted os started H enc)

/-- ████ THE STATEMENT ████ -/
theorem proved : Rows.CodecTripsSaid := over
#print axioms proved
end Go.Proofs.Ytihahljpfekmbaa.codecTrips
