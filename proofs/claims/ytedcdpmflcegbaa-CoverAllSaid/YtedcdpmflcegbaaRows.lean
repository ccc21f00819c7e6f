/-
  No cell of these rows narrows 'for every input' (looked for: loops, veiled, ifaces, maps, wideKeys, modest, calm, conditions, laid).
  DERIVED. THE GIVEN ROWS OF THIS SEAT. 6 by the template 'for every input the law returns true; each argument reads behind the call as it read before'; 0 by the template 'total and deterministic' (their statements: YtedcdpmflcegbaaTotals.lean).
  GIVEN WITH THE SEED: the statements are not yours to turn. If you find one false, say at which input.
  Laid BY PROGRAM, IN A SANDBOX (cutbox-rows.mjs): the forced cells as the released guide's own fill.sh prints them over the translation d4234fcdfe4a55e3… (all of the seat's roots in one cut). By AI agents, Wed Nov 11 2026. No macro, syntax, notation, axiom, sorry.
-/
import Derived.Test.YtedcdpmflcegbaaChecked
import GoSem.Claim
import GoSem.ClaimJoined
import GoSem.ClaimMapViews
import Derived.JoinedTies
import Derived.KernelRfl
namespace Go.Proofs.Ytedcdpmflcegbaa
/- THE CELL 'sum', in the pinned program and in every row, IS THE sha256 OF THE DUMP (.gsa) THAT YtedcdpmflcegbaaProg.lean LOADS. Nothing in Lean hashes anything: it is a label: what it is worth is what the hold of that sum in a sandbox is worth. -/
noncomputable def Try.pinned : Pinned := { name := "ytedcdpmflcegbaa", sum := "d4234fcdfe4a55e30aa485f93b3334bf9313eb93aff4918adfd731983ae2b5cf", checked := Try.checked }
namespace Rows
def none {H : Type} : Left H := { results := [], args := [] }

/-- 'learnerlaw10.CoverAccess': WHATEVER THE INPUT: true; the input reads as it did. -/
def coverAccessSpec : ChangeSpec := { name := "coverAccess", fn := fun _ => fun
  | [d] => { results := [.lit (.bool true)], args := [d] }
  | _ => none }
def coverAccessRow : OpenClaim := { program := "ytedcdpmflcegbaa", sum := "d4234fcdfe4a55e30aa485f93b3334bf9313eb93aff4918adfd731983ae2b5cf", func := "learner/learnerlaw10.CoverAccess", spec := "coverAccess", unfollowed := true, recurses := true, apart := false }
def CoverAccessSaid : Prop := coverAccessRow.holds Try.pinned (OpenSpec.ofChange coverAccessSpec)

/-- ITS FALSE NEIGHBOUR: 'it returns false'. Refute it at one input. -/
def coverAccessWrong : ChangeSpec := { name := "coverAccess", fn := fun _ => fun
  | [d] => { results := [.lit (.bool false)], args := [d] }
  | _ => none }
def CoverAccessWrongFalsely : Prop := coverAccessRow.holds Try.pinned (OpenSpec.ofChange coverAccessWrong)

/-- 'learnerlaw10.CoverPaths': WHATEVER THE INPUT: true; the input reads as it did. -/
def coverPathsSpec : ChangeSpec := { name := "coverPaths", fn := fun _ => fun
  | [d1, d2, d3] => { results := [.lit (.bool true)], args := [d1, d2, d3] }
  | _ => none }
def coverPathsRow : OpenClaim := { program := "ytedcdpmflcegbaa", sum := "d4234fcdfe4a55e30aa485f93b3334bf9313eb93aff4918adfd731983ae2b5cf", func := "learner/learnerlaw10.CoverPaths", spec := "coverPaths", unfollowed := true, recurses := true, apart := false }
def CoverPathsSaid : Prop := coverPathsRow.holds Try.pinned (OpenSpec.ofChange coverPathsSpec)

/-- ITS FALSE NEIGHBOUR: 'it returns false'. Refute it at one input. -/
def coverPathsWrong : ChangeSpec := { name := "coverPaths", fn := fun _ => fun
  | [d1, d2, d3] => { results := [.lit (.bool false)], args := [d1, d2, d3] }
  | _ => none }
def CoverPathsWrongFalsely : Prop := coverPathsRow.holds Try.pinned (OpenSpec.ofChange coverPathsWrong)

/-- 'learnerlaw10.CoverTours': WHATEVER THE INPUT: true; the input reads as it did. -/
def coverToursSpec : ChangeSpec := { name := "coverTours", fn := fun _ => fun
  | [d] => { results := [.lit (.bool true)], args := [d] }
  | _ => none }
def coverToursRow : OpenClaim := { program := "ytedcdpmflcegbaa", sum := "d4234fcdfe4a55e30aa485f93b3334bf9313eb93aff4918adfd731983ae2b5cf", func := "learner/learnerlaw10.CoverTours", spec := "coverTours", unfollowed := true, recurses := true, apart := false }
def CoverToursSaid : Prop := coverToursRow.holds Try.pinned (OpenSpec.ofChange coverToursSpec)

/-- ITS FALSE NEIGHBOUR: 'it returns false'. Refute it at one input. -/
def coverToursWrong : ChangeSpec := { name := "coverTours", fn := fun _ => fun
  | [d] => { results := [.lit (.bool false)], args := [d] }
  | _ => none }
def CoverToursWrongFalsely : Prop := coverToursRow.holds Try.pinned (OpenSpec.ofChange coverToursWrong)

/-- 'learnerlaw10.CoverCounts': WHATEVER THE INPUT: true; the input reads as it did. -/
def coverCountsSpec : ChangeSpec := { name := "coverCounts", fn := fun _ => fun
  | [d1, d2] => { results := [.lit (.bool true)], args := [d1, d2] }
  | _ => none }
def coverCountsRow : OpenClaim := { program := "ytedcdpmflcegbaa", sum := "d4234fcdfe4a55e30aa485f93b3334bf9313eb93aff4918adfd731983ae2b5cf", func := "learner/learnerlaw10.CoverCounts", spec := "coverCounts", unfollowed := true, recurses := true, apart := false }
def CoverCountsSaid : Prop := coverCountsRow.holds Try.pinned (OpenSpec.ofChange coverCountsSpec)

/-- ITS FALSE NEIGHBOUR: 'it returns false'. Refute it at one input. -/
def coverCountsWrong : ChangeSpec := { name := "coverCounts", fn := fun _ => fun
  | [d1, d2] => { results := [.lit (.bool false)], args := [d1, d2] }
  | _ => none }
def CoverCountsWrongFalsely : Prop := coverCountsRow.holds Try.pinned (OpenSpec.ofChange coverCountsWrong)

/-- 'learnerlaw10.CoverFirst': WHATEVER THE INPUT: true; the input reads as it did. -/
def coverFirstSpec : ChangeSpec := { name := "coverFirst", fn := fun _ => fun
  | [d1, d2] => { results := [.lit (.bool true)], args := [d1, d2] }
  | _ => none }
def coverFirstRow : OpenClaim := { program := "ytedcdpmflcegbaa", sum := "d4234fcdfe4a55e30aa485f93b3334bf9313eb93aff4918adfd731983ae2b5cf", func := "learner/learnerlaw10.CoverFirst", spec := "coverFirst", inPlace := ["internal/reflectlite.ValueOf", "internal/reflectlite.Swapper", "(internal/reflectlite.Value).Len"], unfollowed := true, recurses := true, apart := false }
def CoverFirstSaid : Prop := coverFirstRow.holds Try.pinned (OpenSpec.ofChange coverFirstSpec)

/-- ITS FALSE NEIGHBOUR: 'it returns false'. Refute it at one input. -/
def coverFirstWrong : ChangeSpec := { name := "coverFirst", fn := fun _ => fun
  | [d1, d2] => { results := [.lit (.bool false)], args := [d1, d2] }
  | _ => none }
def CoverFirstWrongFalsely : Prop := coverFirstRow.holds Try.pinned (OpenSpec.ofChange coverFirstWrong)

/-- 'learnerlaw10.CoverAll': WHATEVER THE INPUT: true; the input reads as it did. -/
def coverAllSpec : ChangeSpec := { name := "coverAll", fn := fun _ => fun
  | [d] => { results := [.lit (.bool true)], args := [d] }
  | _ => none }
def coverAllRow : OpenClaim := { program := "ytedcdpmflcegbaa", sum := "d4234fcdfe4a55e30aa485f93b3334bf9313eb93aff4918adfd731983ae2b5cf", func := "learner/learnerlaw10.CoverAll", spec := "coverAll", unfollowed := true, recurses := true, apart := false }
def CoverAllSaid : Prop := coverAllRow.holds Try.pinned (OpenSpec.ofChange coverAllSpec)

/-- ITS FALSE NEIGHBOUR: 'it returns false'. Refute it at one input. -/
def coverAllWrong : ChangeSpec := { name := "coverAll", fn := fun _ => fun
  | [d] => { results := [.lit (.bool false)], args := [d] }
  | _ => none }
def CoverAllWrongFalsely : Prop := coverAllRow.holds Try.pinned (OpenSpec.ofChange coverAllWrong)

/- THE SECOND FORM. 'bulk': how many values and letters a reading holds, each counted each time it is reached (what is shared counts as often as it is met; a slice's spare places count too). A statement '..UptoSaid' is the law's where the arguments, and the package variables that the reading takes, are together of bulk at most 1048576: NARROWER than '..Said'. Prove '..Said' where nothing that the law and all that it calls make is longer than what came in: it says more and counts as full. Else prove '..UptoSaid'. A law counts once. -/
mutual
def uptoBulk {H : Type} : DataW H → Nat
  | .lit (.string bytes) => bytes.length + 1
  | .lit _ => 1
  | .nil => 1
  | .ptr d => uptoBulk d + 1
  | .slice elems spare => uptoBulkAll elems + uptoBulkAll spare + 1
  | .agg parts => uptoBulkAll parts + 1
  | .iface _ d => uptoBulk d + 1
  | .map entries => uptoBulkEntries entries + 1
  | .held _ => 1
def uptoBulkAll {H : Type} : List (DataW H) → Nat
  | [] => 0
  | d :: r => uptoBulk d + uptoBulkAll r
def uptoBulkEntries {H : Type} : List (Lit × DataW H) → Nat
  | [] => 0
  | x :: r => uptoBulkEntry x + uptoBulkEntries r
def uptoBulkEntry {H : Type} : Lit × DataW H → Nat
  | (.string bytes, d) => bytes.length + uptoBulk d + 1
  | (_, d) => uptoBulk d + 1
 end
def uptoSmall : (H : Type) → List (DataW H) → Bool := fun _ ds => decide (uptoBulkAll ds ≤ 1048576)
def OpenSpec.upto (s : _root_.Go.ChangeSpec) : _root_.Go.OpenSpec := { _root_.Go.OpenSpec.ofChange s with cond := some uptoSmall }

/-- 'learnerlaw10.CoverAccess', WHERE WHAT IT READS IS OF BULK AT MOST 1048576: true; the input reads as it did. -/
def coverAccessUptoRow : OpenClaim := { program := "ytedcdpmflcegbaa", sum := "d4234fcdfe4a55e30aa485f93b3334bf9313eb93aff4918adfd731983ae2b5cf", func := "learner/learnerlaw10.CoverAccess", spec := "coverAccess", unfollowed := true, recurses := true, apart := false, narrowed := true }
def CoverAccessUptoSaid : Prop := coverAccessUptoRow.holds Try.pinned (OpenSpec.upto coverAccessSpec)

/-- 'learnerlaw10.CoverPaths', WHERE WHAT IT READS IS OF BULK AT MOST 1048576: true; the input reads as it did. -/
def coverPathsUptoRow : OpenClaim := { program := "ytedcdpmflcegbaa", sum := "d4234fcdfe4a55e30aa485f93b3334bf9313eb93aff4918adfd731983ae2b5cf", func := "learner/learnerlaw10.CoverPaths", spec := "coverPaths", unfollowed := true, recurses := true, apart := false, narrowed := true }
def CoverPathsUptoSaid : Prop := coverPathsUptoRow.holds Try.pinned (OpenSpec.upto coverPathsSpec)

/-- 'learnerlaw10.CoverTours', WHERE WHAT IT READS IS OF BULK AT MOST 1048576: true; the input reads as it did. -/
def coverToursUptoRow : OpenClaim := { program := "ytedcdpmflcegbaa", sum := "d4234fcdfe4a55e30aa485f93b3334bf9313eb93aff4918adfd731983ae2b5cf", func := "learner/learnerlaw10.CoverTours", spec := "coverTours", unfollowed := true, recurses := true, apart := false, narrowed := true }
def CoverToursUptoSaid : Prop := coverToursUptoRow.holds Try.pinned (OpenSpec.upto coverToursSpec)

/-- 'learnerlaw10.CoverCounts', WHERE WHAT IT READS IS OF BULK AT MOST 1048576: true; the input reads as it did. -/
def coverCountsUptoRow : OpenClaim := { program := "ytedcdpmflcegbaa", sum := "d4234fcdfe4a55e30aa485f93b3334bf9313eb93aff4918adfd731983ae2b5cf", func := "learner/learnerlaw10.CoverCounts", spec := "coverCounts", unfollowed := true, recurses := true, apart := false, narrowed := true }
def CoverCountsUptoSaid : Prop := coverCountsUptoRow.holds Try.pinned (OpenSpec.upto coverCountsSpec)

/-- 'learnerlaw10.CoverFirst', WHERE WHAT IT READS IS OF BULK AT MOST 1048576: true; the input reads as it did. -/
def coverFirstUptoRow : OpenClaim := { program := "ytedcdpmflcegbaa", sum := "d4234fcdfe4a55e30aa485f93b3334bf9313eb93aff4918adfd731983ae2b5cf", func := "learner/learnerlaw10.CoverFirst", spec := "coverFirst", inPlace := ["internal/reflectlite.ValueOf", "internal/reflectlite.Swapper", "(internal/reflectlite.Value).Len"], unfollowed := true, recurses := true, apart := false, narrowed := true }
def CoverFirstUptoSaid : Prop := coverFirstUptoRow.holds Try.pinned (OpenSpec.upto coverFirstSpec)

/-- 'learnerlaw10.CoverAll', WHERE WHAT IT READS IS OF BULK AT MOST 1048576: true; the input reads as it did. -/
def coverAllUptoRow : OpenClaim := { program := "ytedcdpmflcegbaa", sum := "d4234fcdfe4a55e30aa485f93b3334bf9313eb93aff4918adfd731983ae2b5cf", func := "learner/learnerlaw10.CoverAll", spec := "coverAll", unfollowed := true, recurses := true, apart := false, narrowed := true }
def CoverAllUptoSaid : Prop := coverAllUptoRow.holds Try.pinned (OpenSpec.upto coverAllSpec)

end Rows
end Go.Proofs.Ytedcdpmflcegbaa
