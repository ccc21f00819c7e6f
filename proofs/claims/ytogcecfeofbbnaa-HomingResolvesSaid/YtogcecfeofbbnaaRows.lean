/-
  No cell of these rows narrows 'for every input' (looked for: loops, veiled, ifaces, maps, wideKeys, modest, calm, conditions, laid).
  DERIVED. THE GIVEN ROWS OF THIS SEAT. 12 by the template 'for every input the law returns true; each argument reads behind the call as it read before'; 0 by the template 'total and deterministic' (their statements: YtogcecfeofbbnaaTotals.lean).
  GIVEN WITH THE SEED: the statements are not yours to turn. If you find one false, say at which input.
  Laid BY PROGRAM, IN A SANDBOX (cutbox-rows.mjs): the forced cells as the released guide's own fill.sh prints them over the translation 4e6f2042c8cb1faa… (all of the seat's roots in one cut). By AI agents, Wed Nov 11 2026. No macro, syntax, notation, axiom, sorry.
-/
import Derived.Test.YtogcecfeofbbnaaChecked
import GoSem.Claim
import GoSem.ClaimJoined
import GoSem.ClaimMapViews
import Derived.JoinedTies
import Derived.KernelRfl
namespace Go.Proofs.Ytogcecfeofbbnaa
/- THE CELL 'sum', in the pinned program and in every row, IS THE sha256 OF THE DUMP (.gsa) THAT YtogcecfeofbbnaaProg.lean LOADS. Nothing in Lean hashes anything: it is a label: what it is worth is what the hold of that sum in a sandbox is worth. -/
noncomputable def Try.pinned : Pinned := { name := "ytogcecfeofbbnaa", sum := "4e6f2042c8cb1faaea0eb1a929f2f4701e6402382937ad0754247deb407f7eff", checked := Try.checked }
namespace Rows
def none {H : Type} : Left H := { results := [], args := [] }

/-- 'learnerlaw13.HomingWords': WHATEVER THE INPUT: true; the input reads as it did. -/
def homingWordsSpec : ChangeSpec := { name := "homingWords", fn := fun _ => fun
  | [d] => { results := [.lit (.bool true)], args := [d] }
  | _ => none }
def homingWordsRow : OpenClaim := { program := "ytogcecfeofbbnaa", sum := "4e6f2042c8cb1faaea0eb1a929f2f4701e6402382937ad0754247deb407f7eff", func := "learner/learnerlaw13.HomingWords", spec := "homingWords", unfollowed := true, recurses := true, plainKeys := false, apart := false }
def HomingWordsSaid : Prop := homingWordsRow.holds Try.pinned (OpenSpec.ofChange homingWordsSpec)

/-- ITS FALSE NEIGHBOUR: 'it returns false'. Refute it at one input. -/
def homingWordsWrong : ChangeSpec := { name := "homingWords", fn := fun _ => fun
  | [d] => { results := [.lit (.bool false)], args := [d] }
  | _ => none }
def HomingWordsWrongFalsely : Prop := homingWordsRow.holds Try.pinned (OpenSpec.ofChange homingWordsWrong)

/-- 'learnerlaw13.HomingTraces': WHATEVER THE INPUT: true; the input reads as it did. -/
def homingTracesSpec : ChangeSpec := { name := "homingTraces", fn := fun _ => fun
  | [d1, d2, d3] => { results := [.lit (.bool true)], args := [d1, d2, d3] }
  | _ => none }
def homingTracesRow : OpenClaim := { program := "ytogcecfeofbbnaa", sum := "4e6f2042c8cb1faaea0eb1a929f2f4701e6402382937ad0754247deb407f7eff", func := "learner/learnerlaw13.HomingTraces", spec := "homingTraces", unfollowed := true, recurses := true, plainKeys := false, apart := false }
def HomingTracesSaid : Prop := homingTracesRow.holds Try.pinned (OpenSpec.ofChange homingTracesSpec)

/-- ITS FALSE NEIGHBOUR: 'it returns false'. Refute it at one input. -/
def homingTracesWrong : ChangeSpec := { name := "homingTraces", fn := fun _ => fun
  | [d1, d2, d3] => { results := [.lit (.bool false)], args := [d1, d2, d3] }
  | _ => none }
def HomingTracesWrongFalsely : Prop := homingTracesRow.holds Try.pinned (OpenSpec.ofChange homingTracesWrong)

/-- 'learnerlaw13.HomingKnown': WHATEVER THE INPUT: true; the input reads as it did. -/
def homingKnownSpec : ChangeSpec := { name := "homingKnown", fn := fun _ => fun
  | [d1, d2, d3] => { results := [.lit (.bool true)], args := [d1, d2, d3] }
  | _ => none }
def homingKnownRow : OpenClaim := { program := "ytogcecfeofbbnaa", sum := "4e6f2042c8cb1faaea0eb1a929f2f4701e6402382937ad0754247deb407f7eff", func := "learner/learnerlaw13.HomingKnown", spec := "homingKnown", unfollowed := true, recurses := true, plainKeys := false, apart := false }
def HomingKnownSaid : Prop := homingKnownRow.holds Try.pinned (OpenSpec.ofChange homingKnownSpec)

/-- ITS FALSE NEIGHBOUR: 'it returns false'. Refute it at one input. -/
def homingKnownWrong : ChangeSpec := { name := "homingKnown", fn := fun _ => fun
  | [d1, d2, d3] => { results := [.lit (.bool false)], args := [d1, d2, d3] }
  | _ => none }
def HomingKnownWrongFalsely : Prop := homingKnownRow.holds Try.pinned (OpenSpec.ofChange homingKnownWrong)

/-- 'learnerlaw13.HomingSteps': WHATEVER THE INPUT: true; the input reads as it did. -/
def homingStepsSpec : ChangeSpec := { name := "homingSteps", fn := fun _ => fun
  | [d1, d2, d3] => { results := [.lit (.bool true)], args := [d1, d2, d3] }
  | _ => none }
def homingStepsRow : OpenClaim := { program := "ytogcecfeofbbnaa", sum := "4e6f2042c8cb1faaea0eb1a929f2f4701e6402382937ad0754247deb407f7eff", func := "learner/learnerlaw13.HomingSteps", spec := "homingSteps", unfollowed := true, recurses := true, plainKeys := false, apart := false }
def HomingStepsSaid : Prop := homingStepsRow.holds Try.pinned (OpenSpec.ofChange homingStepsSpec)

/-- ITS FALSE NEIGHBOUR: 'it returns false'. Refute it at one input. -/
def homingStepsWrong : ChangeSpec := { name := "homingSteps", fn := fun _ => fun
  | [d1, d2, d3] => { results := [.lit (.bool false)], args := [d1, d2, d3] }
  | _ => none }
def HomingStepsWrongFalsely : Prop := homingStepsRow.holds Try.pinned (OpenSpec.ofChange homingStepsWrong)

/-- 'learnerlaw13.HomingResolves': WHATEVER THE INPUT: true; the input reads as it did. -/
def homingResolvesSpec : ChangeSpec := { name := "homingResolves", fn := fun _ => fun
  | [d1, d2] => { results := [.lit (.bool true)], args := [d1, d2] }
  | _ => none }
def homingResolvesRow : OpenClaim := { program := "ytogcecfeofbbnaa", sum := "4e6f2042c8cb1faaea0eb1a929f2f4701e6402382937ad0754247deb407f7eff", func := "learner/learnerlaw13.HomingResolves", spec := "homingResolves", unfollowed := true, recurses := true, plainKeys := false, apart := false }
def HomingResolvesSaid : Prop := homingResolvesRow.holds Try.pinned (OpenSpec.ofChange homingResolvesSpec)

/-- ITS FALSE NEIGHBOUR: 'it returns false'. Refute it at one input. -/
def homingResolvesWrong : ChangeSpec := { name := "homingResolves", fn := fun _ => fun
  | [d1, d2] => { results := [.lit (.bool false)], args := [d1, d2] }
  | _ => none }
def HomingResolvesWrongFalsely : Prop := homingResolvesRow.holds Try.pinned (OpenSpec.ofChange homingResolvesWrong)

/-- 'learnerlaw14.ComposePairs': WHATEVER THE INPUT: true; the input reads as it did. -/
def composePairsSpec : ChangeSpec := { name := "composePairs", fn := fun _ => fun
  | [d1, d2] => { results := [.lit (.bool true)], args := [d1, d2] }
  | _ => none }
def composePairsRow : OpenClaim := { program := "ytogcecfeofbbnaa", sum := "4e6f2042c8cb1faaea0eb1a929f2f4701e6402382937ad0754247deb407f7eff", func := "learner/learnerlaw14.ComposePairs", spec := "composePairs", unfollowed := true, recurses := true, plainKeys := false, apart := false }
def ComposePairsSaid : Prop := composePairsRow.holds Try.pinned (OpenSpec.ofChange composePairsSpec)

/-- ITS FALSE NEIGHBOUR: 'it returns false'. Refute it at one input. -/
def composePairsWrong : ChangeSpec := { name := "composePairs", fn := fun _ => fun
  | [d1, d2] => { results := [.lit (.bool false)], args := [d1, d2] }
  | _ => none }
def ComposePairsWrongFalsely : Prop := composePairsRow.holds Try.pinned (OpenSpec.ofChange composePairsWrong)

/-- 'learnerlaw14.ComposeSingles': WHATEVER THE INPUT: true; the input reads as it did. -/
def composeSinglesSpec : ChangeSpec := { name := "composeSingles", fn := fun _ => fun
  | [d1, d2, d3] => { results := [.lit (.bool true)], args := [d1, d2, d3] }
  | _ => none }
def composeSinglesRow : OpenClaim := { program := "ytogcecfeofbbnaa", sum := "4e6f2042c8cb1faaea0eb1a929f2f4701e6402382937ad0754247deb407f7eff", func := "learner/learnerlaw14.ComposeSingles", spec := "composeSingles", unfollowed := true, recurses := true, plainKeys := false, apart := false }
def ComposeSinglesSaid : Prop := composeSinglesRow.holds Try.pinned (OpenSpec.ofChange composeSinglesSpec)

/-- ITS FALSE NEIGHBOUR: 'it returns false'. Refute it at one input. -/
def composeSinglesWrong : ChangeSpec := { name := "composeSingles", fn := fun _ => fun
  | [d1, d2, d3] => { results := [.lit (.bool false)], args := [d1, d2, d3] }
  | _ => none }
def ComposeSinglesWrongFalsely : Prop := composeSinglesRow.holds Try.pinned (OpenSpec.ofChange composeSinglesWrong)

/-- 'learnerlaw14.ComposeProduct': WHATEVER THE INPUT: true; the input reads as it did. -/
def composeProductSpec : ChangeSpec := { name := "composeProduct", fn := fun _ => fun
  | [d1, d2, d3] => { results := [.lit (.bool true)], args := [d1, d2, d3] }
  | _ => none }
def composeProductRow : OpenClaim := { program := "ytogcecfeofbbnaa", sum := "4e6f2042c8cb1faaea0eb1a929f2f4701e6402382937ad0754247deb407f7eff", func := "learner/learnerlaw14.ComposeProduct", spec := "composeProduct", unfollowed := true, recurses := true, plainKeys := false, apart := false }
def ComposeProductSaid : Prop := composeProductRow.holds Try.pinned (OpenSpec.ofChange composeProductSpec)

/-- ITS FALSE NEIGHBOUR: 'it returns false'. Refute it at one input. -/
def composeProductWrong : ChangeSpec := { name := "composeProduct", fn := fun _ => fun
  | [d1, d2, d3] => { results := [.lit (.bool false)], args := [d1, d2, d3] }
  | _ => none }
def ComposeProductWrongFalsely : Prop := composeProductRow.holds Try.pinned (OpenSpec.ofChange composeProductWrong)

/-- 'learnerlaw14.ComposeCascade': WHATEVER THE INPUT: true; the input reads as it did. -/
def composeCascadeSpec : ChangeSpec := { name := "composeCascade", fn := fun _ => fun
  | [d1, d2, d3] => { results := [.lit (.bool true)], args := [d1, d2, d3] }
  | _ => none }
def composeCascadeRow : OpenClaim := { program := "ytogcecfeofbbnaa", sum := "4e6f2042c8cb1faaea0eb1a929f2f4701e6402382937ad0754247deb407f7eff", func := "learner/learnerlaw14.ComposeCascade", spec := "composeCascade", unfollowed := true, recurses := true, plainKeys := false, apart := false }
def ComposeCascadeSaid : Prop := composeCascadeRow.holds Try.pinned (OpenSpec.ofChange composeCascadeSpec)

/-- ITS FALSE NEIGHBOUR: 'it returns false'. Refute it at one input. -/
def composeCascadeWrong : ChangeSpec := { name := "composeCascade", fn := fun _ => fun
  | [d1, d2, d3] => { results := [.lit (.bool false)], args := [d1, d2, d3] }
  | _ => none }
def ComposeCascadeWrongFalsely : Prop := composeCascadeRow.holds Try.pinned (OpenSpec.ofChange composeCascadeWrong)

/-- 'learnerlaw14.ComposeParallel': WHATEVER THE INPUT: true; the input reads as it did. -/
def composeParallelSpec : ChangeSpec := { name := "composeParallel", fn := fun _ => fun
  | [d1, d2, d3] => { results := [.lit (.bool true)], args := [d1, d2, d3] }
  | _ => none }
def composeParallelRow : OpenClaim := { program := "ytogcecfeofbbnaa", sum := "4e6f2042c8cb1faaea0eb1a929f2f4701e6402382937ad0754247deb407f7eff", func := "learner/learnerlaw14.ComposeParallel", spec := "composeParallel", unfollowed := true, recurses := true, plainKeys := false, apart := false }
def ComposeParallelSaid : Prop := composeParallelRow.holds Try.pinned (OpenSpec.ofChange composeParallelSpec)

/-- ITS FALSE NEIGHBOUR: 'it returns false'. Refute it at one input. -/
def composeParallelWrong : ChangeSpec := { name := "composeParallel", fn := fun _ => fun
  | [d1, d2, d3] => { results := [.lit (.bool false)], args := [d1, d2, d3] }
  | _ => none }
def ComposeParallelWrongFalsely : Prop := composeParallelRow.holds Try.pinned (OpenSpec.ofChange composeParallelWrong)

/-- 'learnerlaw14.ComposeChanged': WHATEVER THE INPUT: true; the input reads as it did. -/
def composeChangedSpec : ChangeSpec := { name := "composeChanged", fn := fun _ => fun
  | [d1, d2, d3] => { results := [.lit (.bool true)], args := [d1, d2, d3] }
  | _ => none }
def composeChangedRow : OpenClaim := { program := "ytogcecfeofbbnaa", sum := "4e6f2042c8cb1faaea0eb1a929f2f4701e6402382937ad0754247deb407f7eff", func := "learner/learnerlaw14.ComposeChanged", spec := "composeChanged", unfollowed := true, recurses := true, plainKeys := false, apart := false }
def ComposeChangedSaid : Prop := composeChangedRow.holds Try.pinned (OpenSpec.ofChange composeChangedSpec)

/-- ITS FALSE NEIGHBOUR: 'it returns false'. Refute it at one input. -/
def composeChangedWrong : ChangeSpec := { name := "composeChanged", fn := fun _ => fun
  | [d1, d2, d3] => { results := [.lit (.bool false)], args := [d1, d2, d3] }
  | _ => none }
def ComposeChangedWrongFalsely : Prop := composeChangedRow.holds Try.pinned (OpenSpec.ofChange composeChangedWrong)

/-- 'learnerlaw14.ComposeEquivalent': WHATEVER THE INPUT: true; the input reads as it did. -/
def composeEquivalentSpec : ChangeSpec := { name := "composeEquivalent", fn := fun _ => fun
  | [d1, d2] => { results := [.lit (.bool true)], args := [d1, d2] }
  | _ => none }
def composeEquivalentRow : OpenClaim := { program := "ytogcecfeofbbnaa", sum := "4e6f2042c8cb1faaea0eb1a929f2f4701e6402382937ad0754247deb407f7eff", func := "learner/learnerlaw14.ComposeEquivalent", spec := "composeEquivalent", unfollowed := true, recurses := true, plainKeys := false, apart := false }
def ComposeEquivalentSaid : Prop := composeEquivalentRow.holds Try.pinned (OpenSpec.ofChange composeEquivalentSpec)

/-- ITS FALSE NEIGHBOUR: 'it returns false'. Refute it at one input. -/
def composeEquivalentWrong : ChangeSpec := { name := "composeEquivalent", fn := fun _ => fun
  | [d1, d2] => { results := [.lit (.bool false)], args := [d1, d2] }
  | _ => none }
def ComposeEquivalentWrongFalsely : Prop := composeEquivalentRow.holds Try.pinned (OpenSpec.ofChange composeEquivalentWrong)

/- THE SECOND FORM. 'bulk': how many values and letters a reading holds, each counted each time it is reached (what is shared counts as often as it is met; a slice's spare places count too). A statement '..UptoSaid' is the law's where the arguments, and the package variables that the reading takes, are together of bulk at most 1048576: NARROWER than '..Said'. Prove '..Said' where nothing that the law and all that it calls make is longer than what came in: it says more and counts as full. Else prove '..UptoSaid'. A law counts once. -/
mutual
def uptoBulk {H : Type} : DataW H → Nat
  | .lit (.string bytes) => bytes.length + 1
  | .lit _ => 1
  | .nil => 1
  | .ptr d => uptoBulk d + 1
  | .slice elems spare => uptoBulkAll elems + uptoBulkAll spare + 1
  | .agg parts => uptoBulkAll parts + 1
  | .iface _ d => uptoBulk d + 1
  | .map entries => uptoBulkEntries entries + 1
  | .held _ => 1
def uptoBulkAll {H : Type} : List (DataW H) → Nat
  | [] => 0
  | d :: r => uptoBulk d + uptoBulkAll r
def uptoBulkEntries {H : Type} : List (Lit × DataW H) → Nat
  | [] => 0
  | x :: r => uptoBulkEntry x + uptoBulkEntries r
def uptoBulkEntry {H : Type} : Lit × DataW H → Nat
  | (.string bytes, d) => bytes.length + uptoBulk d + 1
  | (_, d) => uptoBulk d + 1
 end
def uptoSmall : (H : Type) → List (DataW H) → Bool := fun _ ds => decide (uptoBulkAll ds ≤ 1048576)
def OpenSpec.upto (s : _root_.Go.ChangeSpec) : _root_.Go.OpenSpec := { _root_.Go.OpenSpec.ofChange s with cond := some uptoSmall }

/-- 'learnerlaw13.HomingWords', WHERE WHAT IT READS IS OF BULK AT MOST 1048576: true; the input reads as it did. -/
def homingWordsUptoRow : OpenClaim := { program := "ytogcecfeofbbnaa", sum := "4e6f2042c8cb1faaea0eb1a929f2f4701e6402382937ad0754247deb407f7eff", func := "learner/learnerlaw13.HomingWords", spec := "homingWords", unfollowed := true, recurses := true, plainKeys := false, apart := false, narrowed := true }
def HomingWordsUptoSaid : Prop := homingWordsUptoRow.holds Try.pinned (OpenSpec.upto homingWordsSpec)

/-- 'learnerlaw13.HomingTraces', WHERE WHAT IT READS IS OF BULK AT MOST 1048576: true; the input reads as it did. -/
def homingTracesUptoRow : OpenClaim := { program := "ytogcecfeofbbnaa", sum := "4e6f2042c8cb1faaea0eb1a929f2f4701e6402382937ad0754247deb407f7eff", func := "learner/learnerlaw13.HomingTraces", spec := "homingTraces", unfollowed := true, recurses := true, plainKeys := false, apart := false, narrowed := true }
def HomingTracesUptoSaid : Prop := homingTracesUptoRow.holds Try.pinned (OpenSpec.upto homingTracesSpec)

/-- 'learnerlaw13.HomingKnown', WHERE WHAT IT READS IS OF BULK AT MOST 1048576: true; the input reads as it did. -/
def homingKnownUptoRow : OpenClaim := { program := "ytogcecfeofbbnaa", sum := "4e6f2042c8cb1faaea0eb1a929f2f4701e6402382937ad0754247deb407f7eff", func := "learner/learnerlaw13.HomingKnown", spec := "homingKnown", unfollowed := true, recurses := true, plainKeys := false, apart := false, narrowed := true }
def HomingKnownUptoSaid : Prop := homingKnownUptoRow.holds Try.pinned (OpenSpec.upto homingKnownSpec)

/-- 'learnerlaw13.HomingSteps', WHERE WHAT IT READS IS OF BULK AT MOST 1048576: true; the input reads as it did. -/
def homingStepsUptoRow : OpenClaim := { program := "ytogcecfeofbbnaa", sum := "4e6f2042c8cb1faaea0eb1a929f2f4701e6402382937ad0754247deb407f7eff", func := "learner/learnerlaw13.HomingSteps", spec := "homingSteps", unfollowed := true, recurses := true, plainKeys := false, apart := false, narrowed := true }
def HomingStepsUptoSaid : Prop := homingStepsUptoRow.holds Try.pinned (OpenSpec.upto homingStepsSpec)

/-- 'learnerlaw13.HomingResolves', WHERE WHAT IT READS IS OF BULK AT MOST 1048576: true; the input reads as it did. -/
def homingResolvesUptoRow : OpenClaim := { program := "ytogcecfeofbbnaa", sum := "4e6f2042c8cb1faaea0eb1a929f2f4701e6402382937ad0754247deb407f7eff", func := "learner/learnerlaw13.HomingResolves", spec := "homingResolves", unfollowed := true, recurses := true, plainKeys := false, apart := false, narrowed := true }
def HomingResolvesUptoSaid : Prop := homingResolvesUptoRow.holds Try.pinned (OpenSpec.upto homingResolvesSpec)

/-- 'learnerlaw14.ComposePairs', WHERE WHAT IT READS IS OF BULK AT MOST 1048576: true; the input reads as it did. -/
def composePairsUptoRow : OpenClaim := { program := "ytogcecfeofbbnaa", sum := "4e6f2042c8cb1faaea0eb1a929f2f4701e6402382937ad0754247deb407f7eff", func := "learner/learnerlaw14.ComposePairs", spec := "composePairs", unfollowed := true, recurses := true, plainKeys := false, apart := false, narrowed := true }
def ComposePairsUptoSaid : Prop := composePairsUptoRow.holds Try.pinned (OpenSpec.upto composePairsSpec)

/-- 'learnerlaw14.ComposeSingles', WHERE WHAT IT READS IS OF BULK AT MOST 1048576: true; the input reads as it did. -/
def composeSinglesUptoRow : OpenClaim := { program := "ytogcecfeofbbnaa", sum := "4e6f2042c8cb1faaea0eb1a929f2f4701e6402382937ad0754247deb407f7eff", func := "learner/learnerlaw14.ComposeSingles", spec := "composeSingles", unfollowed := true, recurses := true, plainKeys := false, apart := false, narrowed := true }
def ComposeSinglesUptoSaid : Prop := composeSinglesUptoRow.holds Try.pinned (OpenSpec.upto composeSinglesSpec)

/-- 'learnerlaw14.ComposeProduct', WHERE WHAT IT READS IS OF BULK AT MOST 1048576: true; the input reads as it did. -/
def composeProductUptoRow : OpenClaim := { program := "ytogcecfeofbbnaa", sum := "4e6f2042c8cb1faaea0eb1a929f2f4701e6402382937ad0754247deb407f7eff", func := "learner/learnerlaw14.ComposeProduct", spec := "composeProduct", unfollowed := true, recurses := true, plainKeys := false, apart := false, narrowed := true }
def ComposeProductUptoSaid : Prop := composeProductUptoRow.holds Try.pinned (OpenSpec.upto composeProductSpec)

/-- 'learnerlaw14.ComposeCascade', WHERE WHAT IT READS IS OF BULK AT MOST 1048576: true; the input reads as it did. -/
def composeCascadeUptoRow : OpenClaim := { program := "ytogcecfeofbbnaa", sum := "4e6f2042c8cb1faaea0eb1a929f2f4701e6402382937ad0754247deb407f7eff", func := "learner/learnerlaw14.ComposeCascade", spec := "composeCascade", unfollowed := true, recurses := true, plainKeys := false, apart := false, narrowed := true }
def ComposeCascadeUptoSaid : Prop := composeCascadeUptoRow.holds Try.pinned (OpenSpec.upto composeCascadeSpec)

/-- 'learnerlaw14.ComposeParallel', WHERE WHAT IT READS IS OF BULK AT MOST 1048576: true; the input reads as it did. -/
def composeParallelUptoRow : OpenClaim := { program := "ytogcecfeofbbnaa", sum := "4e6f2042c8cb1faaea0eb1a929f2f4701e6402382937ad0754247deb407f7eff", func := "learner/learnerlaw14.ComposeParallel", spec := "composeParallel", unfollowed := true, recurses := true, plainKeys := false, apart := false, narrowed := true }
def ComposeParallelUptoSaid : Prop := composeParallelUptoRow.holds Try.pinned (OpenSpec.upto composeParallelSpec)

/-- 'learnerlaw14.ComposeChanged', WHERE WHAT IT READS IS OF BULK AT MOST 1048576: true; the input reads as it did. -/
def composeChangedUptoRow : OpenClaim := { program := "ytogcecfeofbbnaa", sum := "4e6f2042c8cb1faaea0eb1a929f2f4701e6402382937ad0754247deb407f7eff", func := "learner/learnerlaw14.ComposeChanged", spec := "composeChanged", unfollowed := true, recurses := true, plainKeys := false, apart := false, narrowed := true }
def ComposeChangedUptoSaid : Prop := composeChangedUptoRow.holds Try.pinned (OpenSpec.upto composeChangedSpec)

/-- 'learnerlaw14.ComposeEquivalent', WHERE WHAT IT READS IS OF BULK AT MOST 1048576: true; the input reads as it did. -/
def composeEquivalentUptoRow : OpenClaim := { program := "ytogcecfeofbbnaa", sum := "4e6f2042c8cb1faaea0eb1a929f2f4701e6402382937ad0754247deb407f7eff", func := "learner/learnerlaw14.ComposeEquivalent", spec := "composeEquivalent", unfollowed := true, recurses := true, plainKeys := false, apart := false, narrowed := true }
def ComposeEquivalentUptoSaid : Prop := composeEquivalentUptoRow.holds Try.pinned (OpenSpec.upto composeEquivalentSpec)

end Rows
end Go.Proofs.Ytogcecfeofbbnaa
