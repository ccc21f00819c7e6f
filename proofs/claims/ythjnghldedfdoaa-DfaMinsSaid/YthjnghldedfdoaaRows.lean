/-
  No cell of these rows narrows 'for every input' (looked for: loops, veiled, ifaces, maps, wideKeys, modest, calm, conditions, laid).
  DERIVED. THE GIVEN ROWS OF THIS SEAT. 7 by the template 'for every input the law returns true; each argument reads behind the call as it read before'; 0 by the template 'total and deterministic' (their statements: YthjnghldedfdoaaTotals.lean).
  GIVEN WITH THE SEED: the statements are not yours to turn. If you find one false, say at which input.
  Laid BY PROGRAM, IN A SANDBOX (cutbox-rows.mjs): the forced cells as the released guide's own fill.sh prints them over the translation 6c235e205ddafec8… (all of the seat's roots in one cut). By AI agents, Wed Nov 11 2026. No macro, syntax, notation, axiom, sorry.
-/
import Derived.Test.YthjnghldedfdoaaChecked
import GoSem.Claim
import GoSem.ClaimJoined
import GoSem.ClaimMapViews
import Derived.JoinedTies
import Derived.KernelRfl
namespace Go.Proofs.Ythjnghldedfdoaa
/- THE CELL 'sum', in the pinned program and in every row, IS THE sha256 OF THE DUMP (.gsa) THAT YthjnghldedfdoaaProg.lean LOADS. Nothing in Lean hashes anything: it is a label: what it is worth is what the hold of that sum in a sandbox is worth. -/
noncomputable def Try.pinned : Pinned := { name := "ythjnghldedfdoaa", sum := "6c235e205ddafec83c60db3c6fe21169252c7f6062afb107c5291d83624a7e61", checked := Try.checked }
namespace Rows
def none {H : Type} : Left H := { results := [], args := [] }

/-- 'learnerlaw07.DfaWords': WHATEVER THE INPUT: true; the input reads as it did. -/
def dfaWordsSpec : ChangeSpec := { name := "dfaWords", fn := fun _ => fun
  | [d1, d2] => { results := [.lit (.bool true)], args := [d1, d2] }
  | _ => none }
def dfaWordsRow : OpenClaim := { program := "ythjnghldedfdoaa", sum := "6c235e205ddafec83c60db3c6fe21169252c7f6062afb107c5291d83624a7e61", func := "learner/learnerlaw07.DfaWords", spec := "dfaWords", unfollowed := true, recurses := true, plainKeys := false, apart := false }
def DfaWordsSaid : Prop := dfaWordsRow.holds Try.pinned (OpenSpec.ofChange dfaWordsSpec)

/-- ITS FALSE NEIGHBOUR: 'it returns false'. Refute it at one input. -/
def dfaWordsWrong : ChangeSpec := { name := "dfaWords", fn := fun _ => fun
  | [d1, d2] => { results := [.lit (.bool false)], args := [d1, d2] }
  | _ => none }
def DfaWordsWrongFalsely : Prop := dfaWordsRow.holds Try.pinned (OpenSpec.ofChange dfaWordsWrong)

/-- 'learnerlaw07.DfaCombines': WHATEVER THE INPUT: true; the input reads as it did. -/
def dfaCombinesSpec : ChangeSpec := { name := "dfaCombines", fn := fun _ => fun
  | [d1, d2, d3] => { results := [.lit (.bool true)], args := [d1, d2, d3] }
  | _ => none }
def dfaCombinesRow : OpenClaim := { program := "ythjnghldedfdoaa", sum := "6c235e205ddafec83c60db3c6fe21169252c7f6062afb107c5291d83624a7e61", func := "learner/learnerlaw07.DfaCombines", spec := "dfaCombines", unfollowed := true, recurses := true, plainKeys := false, apart := false }
def DfaCombinesSaid : Prop := dfaCombinesRow.holds Try.pinned (OpenSpec.ofChange dfaCombinesSpec)

/-- ITS FALSE NEIGHBOUR: 'it returns false'. Refute it at one input. -/
def dfaCombinesWrong : ChangeSpec := { name := "dfaCombines", fn := fun _ => fun
  | [d1, d2, d3] => { results := [.lit (.bool false)], args := [d1, d2, d3] }
  | _ => none }
def DfaCombinesWrongFalsely : Prop := dfaCombinesRow.holds Try.pinned (OpenSpec.ofChange dfaCombinesWrong)

/-- 'learnerlaw07.DfaMins': WHATEVER THE INPUT: true; the input reads as it did. -/
def dfaMinsSpec : ChangeSpec := { name := "dfaMins", fn := fun _ => fun
  | [d1, d2] => { results := [.lit (.bool true)], args := [d1, d2] }
  | _ => none }
def dfaMinsRow : OpenClaim := { program := "ythjnghldedfdoaa", sum := "6c235e205ddafec83c60db3c6fe21169252c7f6062afb107c5291d83624a7e61", func := "learner/learnerlaw07.DfaMins", spec := "dfaMins", unfollowed := true, recurses := true, plainKeys := false, apart := false }
def DfaMinsSaid : Prop := dfaMinsRow.holds Try.pinned (OpenSpec.ofChange dfaMinsSpec)

/-- ITS FALSE NEIGHBOUR: 'it returns false'. Refute it at one input. -/
def dfaMinsWrong : ChangeSpec := { name := "dfaMins", fn := fun _ => fun
  | [d1, d2] => { results := [.lit (.bool false)], args := [d1, d2] }
  | _ => none }
def DfaMinsWrongFalsely : Prop := dfaMinsRow.holds Try.pinned (OpenSpec.ofChange dfaMinsWrong)

/-- 'learnerlaw07.DfaMachines': WHATEVER THE INPUT: true; the input reads as it did. -/
def dfaMachinesSpec : ChangeSpec := { name := "dfaMachines", fn := fun _ => fun
  | [d1, d2, d3] => { results := [.lit (.bool true)], args := [d1, d2, d3] }
  | _ => none }
def dfaMachinesRow : OpenClaim := { program := "ythjnghldedfdoaa", sum := "6c235e205ddafec83c60db3c6fe21169252c7f6062afb107c5291d83624a7e61", func := "learner/learnerlaw07.DfaMachines", spec := "dfaMachines", unfollowed := true, recurses := true, plainKeys := false, apart := false }
def DfaMachinesSaid : Prop := dfaMachinesRow.holds Try.pinned (OpenSpec.ofChange dfaMachinesSpec)

/-- ITS FALSE NEIGHBOUR: 'it returns false'. Refute it at one input. -/
def dfaMachinesWrong : ChangeSpec := { name := "dfaMachines", fn := fun _ => fun
  | [d1, d2, d3] => { results := [.lit (.bool false)], args := [d1, d2, d3] }
  | _ => none }
def DfaMachinesWrongFalsely : Prop := dfaMachinesRow.holds Try.pinned (OpenSpec.ofChange dfaMachinesWrong)

/-- 'learnerlaw07.DfaLanguages': WHATEVER THE INPUT: true; the input reads as it did. -/
def dfaLanguagesSpec : ChangeSpec := { name := "dfaLanguages", fn := fun _ => fun
  | [d1, d2, d3] => { results := [.lit (.bool true)], args := [d1, d2, d3] }
  | _ => none }
def dfaLanguagesRow : OpenClaim := { program := "ythjnghldedfdoaa", sum := "6c235e205ddafec83c60db3c6fe21169252c7f6062afb107c5291d83624a7e61", func := "learner/learnerlaw07.DfaLanguages", spec := "dfaLanguages", unfollowed := true, recurses := true, plainKeys := false, apart := false }
def DfaLanguagesSaid : Prop := dfaLanguagesRow.holds Try.pinned (OpenSpec.ofChange dfaLanguagesSpec)

/-- ITS FALSE NEIGHBOUR: 'it returns false'. Refute it at one input. -/
def dfaLanguagesWrong : ChangeSpec := { name := "dfaLanguages", fn := fun _ => fun
  | [d1, d2, d3] => { results := [.lit (.bool false)], args := [d1, d2, d3] }
  | _ => none }
def DfaLanguagesWrongFalsely : Prop := dfaLanguagesRow.holds Try.pinned (OpenSpec.ofChange dfaLanguagesWrong)

/-- 'learnerlaw07.DfaCounts': WHATEVER THE INPUT: true; the input reads as it did. -/
def dfaCountsSpec : ChangeSpec := { name := "dfaCounts", fn := fun _ => fun
  | [d1, d2] => { results := [.lit (.bool true)], args := [d1, d2] }
  | _ => none }
def dfaCountsRow : OpenClaim := { program := "ythjnghldedfdoaa", sum := "6c235e205ddafec83c60db3c6fe21169252c7f6062afb107c5291d83624a7e61", func := "learner/learnerlaw07.DfaCounts", spec := "dfaCounts", unfollowed := true, recurses := true, plainKeys := false, apart := false }
def DfaCountsSaid : Prop := dfaCountsRow.holds Try.pinned (OpenSpec.ofChange dfaCountsSpec)

/-- ITS FALSE NEIGHBOUR: 'it returns false'. Refute it at one input. -/
def dfaCountsWrong : ChangeSpec := { name := "dfaCounts", fn := fun _ => fun
  | [d1, d2] => { results := [.lit (.bool false)], args := [d1, d2] }
  | _ => none }
def DfaCountsWrongFalsely : Prop := dfaCountsRow.holds Try.pinned (OpenSpec.ofChange dfaCountsWrong)

/-- 'learnerlaw07.DfaTrips': WHATEVER THE INPUT: true; the input reads as it did. -/
def dfaTripsSpec : ChangeSpec := { name := "dfaTrips", fn := fun _ => fun
  | [d1, d2] => { results := [.lit (.bool true)], args := [d1, d2] }
  | _ => none }
def dfaTripsRow : OpenClaim := { program := "ythjnghldedfdoaa", sum := "6c235e205ddafec83c60db3c6fe21169252c7f6062afb107c5291d83624a7e61", func := "learner/learnerlaw07.DfaTrips", spec := "dfaTrips", unfollowed := true, recurses := true, plainKeys := false, apart := false }
def DfaTripsSaid : Prop := dfaTripsRow.holds Try.pinned (OpenSpec.ofChange dfaTripsSpec)

/-- ITS FALSE NEIGHBOUR: 'it returns false'. Refute it at one input. -/
def dfaTripsWrong : ChangeSpec := { name := "dfaTrips", fn := fun _ => fun
  | [d1, d2] => { results := [.lit (.bool false)], args := [d1, d2] }
  | _ => none }
def DfaTripsWrongFalsely : Prop := dfaTripsRow.holds Try.pinned (OpenSpec.ofChange dfaTripsWrong)

/- THE SECOND FORM. 'bulk': how many values and letters a reading holds, each counted each time it is reached (what is shared counts as often as it is met; a slice's spare places count too). A statement '..UptoSaid' is the law's where the arguments, and the package variables that the reading takes, are together of bulk at most 1048576: NARROWER than '..Said'. Prove '..Said' where nothing that the law and all that it calls make is longer than what came in: it says more and counts as full. Else prove '..UptoSaid'. A law counts once. -/
mutual
def uptoBulk {H : Type} : DataW H → Nat
  | .lit (.string bytes) => bytes.length + 1
  | .lit _ => 1
  | .nil => 1
  | .ptr d => uptoBulk d + 1
  | .slice elems spare => uptoBulkAll elems + uptoBulkAll spare + 1
  | .agg parts => uptoBulkAll parts + 1
  | .iface _ d => uptoBulk d + 1
  | .map entries => uptoBulkEntries entries + 1
  | .held _ => 1
def uptoBulkAll {H : Type} : List (DataW H) → Nat
  | [] => 0
  | d :: r => uptoBulk d + uptoBulkAll r
def uptoBulkEntries {H : Type} : List (Lit × DataW H) → Nat
  | [] => 0
  | x :: r => uptoBulkEntry x + uptoBulkEntries r
def uptoBulkEntry {H : Type} : Lit × DataW H → Nat
  | (.string bytes, d) => bytes.length + uptoBulk d + 1
  | (_, d) => uptoBulk d + 1
 end
def uptoSmall : (H : Type) → List (DataW H) → Bool := fun _ ds => decide (uptoBulkAll ds ≤ 1048576)
def OpenSpec.upto (s : _root_.Go.ChangeSpec) : _root_.Go.OpenSpec := { _root_.Go.OpenSpec.ofChange s with cond := some uptoSmall }

/-- 'learnerlaw07.DfaWords', WHERE WHAT IT READS IS OF BULK AT MOST 1048576: true; the input reads as it did. -/
def dfaWordsUptoRow : OpenClaim := { program := "ythjnghldedfdoaa", sum := "6c235e205ddafec83c60db3c6fe21169252c7f6062afb107c5291d83624a7e61", func := "learner/learnerlaw07.DfaWords", spec := "dfaWords", unfollowed := true, recurses := true, plainKeys := false, apart := false, narrowed := true }
def DfaWordsUptoSaid : Prop := dfaWordsUptoRow.holds Try.pinned (OpenSpec.upto dfaWordsSpec)

/-- 'learnerlaw07.DfaCombines', WHERE WHAT IT READS IS OF BULK AT MOST 1048576: true; the input reads as it did. -/
def dfaCombinesUptoRow : OpenClaim := { program := "ythjnghldedfdoaa", sum := "6c235e205ddafec83c60db3c6fe21169252c7f6062afb107c5291d83624a7e61", func := "learner/learnerlaw07.DfaCombines", spec := "dfaCombines", unfollowed := true, recurses := true, plainKeys := false, apart := false, narrowed := true }
def DfaCombinesUptoSaid : Prop := dfaCombinesUptoRow.holds Try.pinned (OpenSpec.upto dfaCombinesSpec)

/-- 'learnerlaw07.DfaMins', WHERE WHAT IT READS IS OF BULK AT MOST 1048576: true; the input reads as it did. -/
def dfaMinsUptoRow : OpenClaim := { program := "ythjnghldedfdoaa", sum := "6c235e205ddafec83c60db3c6fe21169252c7f6062afb107c5291d83624a7e61", func := "learner/learnerlaw07.DfaMins", spec := "dfaMins", unfollowed := true, recurses := true, plainKeys := false, apart := false, narrowed := true }
def DfaMinsUptoSaid : Prop := dfaMinsUptoRow.holds Try.pinned (OpenSpec.upto dfaMinsSpec)

/-- 'learnerlaw07.DfaMachines', WHERE WHAT IT READS IS OF BULK AT MOST 1048576: true; the input reads as it did. -/
def dfaMachinesUptoRow : OpenClaim := { program := "ythjnghldedfdoaa", sum := "6c235e205ddafec83c60db3c6fe21169252c7f6062afb107c5291d83624a7e61", func := "learner/learnerlaw07.DfaMachines", spec := "dfaMachines", unfollowed := true, recurses := true, plainKeys := false, apart := false, narrowed := true }
def DfaMachinesUptoSaid : Prop := dfaMachinesUptoRow.holds Try.pinned (OpenSpec.upto dfaMachinesSpec)

/-- 'learnerlaw07.DfaLanguages', WHERE WHAT IT READS IS OF BULK AT MOST 1048576: true; the input reads as it did. -/
def dfaLanguagesUptoRow : OpenClaim := { program := "ythjnghldedfdoaa", sum := "6c235e205ddafec83c60db3c6fe21169252c7f6062afb107c5291d83624a7e61", func := "learner/learnerlaw07.DfaLanguages", spec := "dfaLanguages", unfollowed := true, recurses := true, plainKeys := false, apart := false, narrowed := true }
def DfaLanguagesUptoSaid : Prop := dfaLanguagesUptoRow.holds Try.pinned (OpenSpec.upto dfaLanguagesSpec)

/-- 'learnerlaw07.DfaCounts', WHERE WHAT IT READS IS OF BULK AT MOST 1048576: true; the input reads as it did. -/
def dfaCountsUptoRow : OpenClaim := { program := "ythjnghldedfdoaa", sum := "6c235e205ddafec83c60db3c6fe21169252c7f6062afb107c5291d83624a7e61", func := "learner/learnerlaw07.DfaCounts", spec := "dfaCounts", unfollowed := true, recurses := true, plainKeys := false, apart := false, narrowed := true }
def DfaCountsUptoSaid : Prop := dfaCountsUptoRow.holds Try.pinned (OpenSpec.upto dfaCountsSpec)

/-- 'learnerlaw07.DfaTrips', WHERE WHAT IT READS IS OF BULK AT MOST 1048576: true; the input reads as it did. -/
def dfaTripsUptoRow : OpenClaim := { program := "ythjnghldedfdoaa", sum := "6c235e205ddafec83c60db3c6fe21169252c7f6062afb107c5291d83624a7e61", func := "learner/learnerlaw07.DfaTrips", spec := "dfaTrips", unfollowed := true, recurses := true, plainKeys := false, apart := false, narrowed := true }
def DfaTripsUptoSaid : Prop := dfaTripsUptoRow.holds Try.pinned (OpenSpec.upto dfaTripsSpec)

end Rows
end Go.Proofs.Ythjnghldedfdoaa
