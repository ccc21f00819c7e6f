/-
  No cell of these rows narrows 'for every input' (looked for: loops, veiled, ifaces, maps, wideKeys, modest, calm, conditions, laid).
  DERIVED. THE GIVEN ROWS OF THIS SEAT. 9 by the template 'for every input the law returns true; each argument reads behind the call as it read before'; 0 by the template 'total and deterministic' (their statements: YtdedgpgdmnfijaaTotals.lean).
  GIVEN WITH THE SEED: the statements are not yours to turn. If you find one false, say at which input.
  Laid BY PROGRAM, IN A SANDBOX (cutbox-rows.mjs): the forced cells as the released guide's own fill.sh prints them over the translation 39cf3111ce5a3710… (all of the seat's roots in one cut). By AI agents, Wed Nov 11 2026. No macro, syntax, notation, axiom, sorry.
-/
import Derived.Test.YtdedgpgdmnfijaaChecked
import GoSem.Claim
import GoSem.ClaimJoined
import GoSem.ClaimMapViews
import Derived.JoinedTies
import Derived.KernelRfl
namespace Go.Proofs.Ytdedgpgdmnfijaa
/- THE CELL 'sum', in the pinned program and in every row, IS THE sha256 OF THE DUMP (.gsa) THAT YtdedgpgdmnfijaaProg.lean LOADS. Nothing in Lean hashes anything: it is a label: what it is worth is what the hold of that sum in a sandbox is worth. -/
noncomputable def Try.pinned : Pinned := { name := "ytdedgpgdmnfijaa", sum := "39cf3111ce5a3710d9769ae9e4c266c091d3d30cc8661935e2372bc013712b09", checked := Try.checked }
namespace Rows
def none {H : Type} : Left H := { results := [], args := [] }

/-- 'learnerlaw08.MinimizeMins': WHATEVER THE INPUT: true; the input reads as it did. -/
def minimizeMinsSpec : ChangeSpec := { name := "minimizeMins", fn := fun _ => fun
  | [d] => { results := [.lit (.bool true)], args := [d] }
  | _ => none }
def minimizeMinsRow : OpenClaim := { program := "ytdedgpgdmnfijaa", sum := "39cf3111ce5a3710d9769ae9e4c266c091d3d30cc8661935e2372bc013712b09", func := "learner/learnerlaw08.MinimizeMins", spec := "minimizeMins", plainKeys := false, apart := false }
def MinimizeMinsSaid : Prop := minimizeMinsRow.holds Try.pinned (OpenSpec.ofChange minimizeMinsSpec)

/-- ITS FALSE NEIGHBOUR: 'it returns false'. Refute it at one input. -/
def minimizeMinsWrong : ChangeSpec := { name := "minimizeMins", fn := fun _ => fun
  | [d] => { results := [.lit (.bool false)], args := [d] }
  | _ => none }
def MinimizeMinsWrongFalsely : Prop := minimizeMinsRow.holds Try.pinned (OpenSpec.ofChange minimizeMinsWrong)

/-- 'learnerlaw09.EquivDistinguishes': WHATEVER THE INPUT: true; the input reads as it did. -/
def equivDistinguishesSpec : ChangeSpec := { name := "equivDistinguishes", fn := fun _ => fun
  | [d1, d2] => { results := [.lit (.bool true)], args := [d1, d2] }
  | _ => none }
def equivDistinguishesRow : OpenClaim := { program := "ytdedgpgdmnfijaa", sum := "39cf3111ce5a3710d9769ae9e4c266c091d3d30cc8661935e2372bc013712b09", func := "learner/learnerlaw09.EquivDistinguishes", spec := "equivDistinguishes", unfollowed := true, recurses := true, plainKeys := false, apart := false }
def EquivDistinguishesSaid : Prop := equivDistinguishesRow.holds Try.pinned (OpenSpec.ofChange equivDistinguishesSpec)

/-- ITS FALSE NEIGHBOUR: 'it returns false'. Refute it at one input. -/
def equivDistinguishesWrong : ChangeSpec := { name := "equivDistinguishes", fn := fun _ => fun
  | [d1, d2] => { results := [.lit (.bool false)], args := [d1, d2] }
  | _ => none }
def EquivDistinguishesWrongFalsely : Prop := equivDistinguishesRow.holds Try.pinned (OpenSpec.ofChange equivDistinguishesWrong)

/-- 'learnerlaw09.EquivStates': WHATEVER THE INPUT: true; the input reads as it did. -/
def equivStatesSpec : ChangeSpec := { name := "equivStates", fn := fun _ => fun
  | [d1, d2, d3] => { results := [.lit (.bool true)], args := [d1, d2, d3] }
  | _ => none }
def equivStatesRow : OpenClaim := { program := "ytdedgpgdmnfijaa", sum := "39cf3111ce5a3710d9769ae9e4c266c091d3d30cc8661935e2372bc013712b09", func := "learner/learnerlaw09.EquivStates", spec := "equivStates", unfollowed := true, recurses := true, plainKeys := false, apart := false }
def EquivStatesSaid : Prop := equivStatesRow.holds Try.pinned (OpenSpec.ofChange equivStatesSpec)

/-- ITS FALSE NEIGHBOUR: 'it returns false'. Refute it at one input. -/
def equivStatesWrong : ChangeSpec := { name := "equivStates", fn := fun _ => fun
  | [d1, d2, d3] => { results := [.lit (.bool false)], args := [d1, d2, d3] }
  | _ => none }
def EquivStatesWrongFalsely : Prop := equivStatesRow.holds Try.pinned (OpenSpec.ofChange equivStatesWrong)

/-- 'learnerlaw09.EquivIsos': WHATEVER THE INPUT: true; the input reads as it did. -/
def equivIsosSpec : ChangeSpec := { name := "equivIsos", fn := fun _ => fun
  | [d1, d2, d3] => { results := [.lit (.bool true)], args := [d1, d2, d3] }
  | _ => none }
def equivIsosRow : OpenClaim := { program := "ytdedgpgdmnfijaa", sum := "39cf3111ce5a3710d9769ae9e4c266c091d3d30cc8661935e2372bc013712b09", func := "learner/learnerlaw09.EquivIsos", spec := "equivIsos", unfollowed := true, recurses := true, plainKeys := false, apart := false }
def EquivIsosSaid : Prop := equivIsosRow.holds Try.pinned (OpenSpec.ofChange equivIsosSpec)

/-- ITS FALSE NEIGHBOUR: 'it returns false'. Refute it at one input. -/
def equivIsosWrong : ChangeSpec := { name := "equivIsos", fn := fun _ => fun
  | [d1, d2, d3] => { results := [.lit (.bool false)], args := [d1, d2, d3] }
  | _ => none }
def EquivIsosWrongFalsely : Prop := equivIsosRow.holds Try.pinned (OpenSpec.ofChange equivIsosWrong)

/-- 'learnerlaw09.EquivFirst': WHATEVER THE INPUT: true; the input reads as it did. -/
def equivFirstSpec : ChangeSpec := { name := "equivFirst", fn := fun _ => fun
  | [d1, d2, d3] => { results := [.lit (.bool true)], args := [d1, d2, d3] }
  | _ => none }
def equivFirstRow : OpenClaim := { program := "ytdedgpgdmnfijaa", sum := "39cf3111ce5a3710d9769ae9e4c266c091d3d30cc8661935e2372bc013712b09", func := "learner/learnerlaw09.EquivFirst", spec := "equivFirst", unfollowed := true, recurses := true, plainKeys := false, apart := false }
def EquivFirstSaid : Prop := equivFirstRow.holds Try.pinned (OpenSpec.ofChange equivFirstSpec)

/-- ITS FALSE NEIGHBOUR: 'it returns false'. Refute it at one input. -/
def equivFirstWrong : ChangeSpec := { name := "equivFirst", fn := fun _ => fun
  | [d1, d2, d3] => { results := [.lit (.bool false)], args := [d1, d2, d3] }
  | _ => none }
def EquivFirstWrongFalsely : Prop := equivFirstRow.holds Try.pinned (OpenSpec.ofChange equivFirstWrong)

/-- 'learnerlaw09.EquivBounds': WHATEVER THE INPUT: true; the input reads as it did. -/
def equivBoundsSpec : ChangeSpec := { name := "equivBounds", fn := fun _ => fun
  | [d1, d2, d3] => { results := [.lit (.bool true)], args := [d1, d2, d3] }
  | _ => none }
def equivBoundsRow : OpenClaim := { program := "ytdedgpgdmnfijaa", sum := "39cf3111ce5a3710d9769ae9e4c266c091d3d30cc8661935e2372bc013712b09", func := "learner/learnerlaw09.EquivBounds", spec := "equivBounds", unfollowed := true, recurses := true, plainKeys := false, apart := false }
def EquivBoundsSaid : Prop := equivBoundsRow.holds Try.pinned (OpenSpec.ofChange equivBoundsSpec)

/-- ITS FALSE NEIGHBOUR: 'it returns false'. Refute it at one input. -/
def equivBoundsWrong : ChangeSpec := { name := "equivBounds", fn := fun _ => fun
  | [d1, d2, d3] => { results := [.lit (.bool false)], args := [d1, d2, d3] }
  | _ => none }
def EquivBoundsWrongFalsely : Prop := equivBoundsRow.holds Try.pinned (OpenSpec.ofChange equivBoundsWrong)

/-- 'learnerlaw09.EquivMinimal': WHATEVER THE INPUT: true; the input reads as it did. -/
def equivMinimalSpec : ChangeSpec := { name := "equivMinimal", fn := fun _ => fun
  | [d1, d2, d3] => { results := [.lit (.bool true)], args := [d1, d2, d3] }
  | _ => none }
def equivMinimalRow : OpenClaim := { program := "ytdedgpgdmnfijaa", sum := "39cf3111ce5a3710d9769ae9e4c266c091d3d30cc8661935e2372bc013712b09", func := "learner/learnerlaw09.EquivMinimal", spec := "equivMinimal", unfollowed := true, recurses := true, plainKeys := false, apart := false }
def EquivMinimalSaid : Prop := equivMinimalRow.holds Try.pinned (OpenSpec.ofChange equivMinimalSpec)

/-- ITS FALSE NEIGHBOUR: 'it returns false'. Refute it at one input. -/
def equivMinimalWrong : ChangeSpec := { name := "equivMinimal", fn := fun _ => fun
  | [d1, d2, d3] => { results := [.lit (.bool false)], args := [d1, d2, d3] }
  | _ => none }
def EquivMinimalWrongFalsely : Prop := equivMinimalRow.holds Try.pinned (OpenSpec.ofChange equivMinimalWrong)

/-- 'learnerlaw09.EquivMaps': WHATEVER THE INPUT: true; the input reads as it did. -/
def equivMapsSpec : ChangeSpec := { name := "equivMaps", fn := fun _ => fun
  | [d1, d2] => { results := [.lit (.bool true)], args := [d1, d2] }
  | _ => none }
def equivMapsRow : OpenClaim := { program := "ytdedgpgdmnfijaa", sum := "39cf3111ce5a3710d9769ae9e4c266c091d3d30cc8661935e2372bc013712b09", func := "learner/learnerlaw09.EquivMaps", spec := "equivMaps", unfollowed := true, recurses := true, plainKeys := false, apart := false }
def EquivMapsSaid : Prop := equivMapsRow.holds Try.pinned (OpenSpec.ofChange equivMapsSpec)

/-- ITS FALSE NEIGHBOUR: 'it returns false'. Refute it at one input. -/
def equivMapsWrong : ChangeSpec := { name := "equivMaps", fn := fun _ => fun
  | [d1, d2] => { results := [.lit (.bool false)], args := [d1, d2] }
  | _ => none }
def EquivMapsWrongFalsely : Prop := equivMapsRow.holds Try.pinned (OpenSpec.ofChange equivMapsWrong)

/-- 'learnertop.TopCanonical': WHATEVER THE INPUT: true; the input reads as it did. -/
def topCanonicalSpec : ChangeSpec := { name := "topCanonical", fn := fun _ => fun
  | [d1, d2] => { results := [.lit (.bool true)], args := [d1, d2] }
  | _ => none }
def topCanonicalRow : OpenClaim := { program := "ytdedgpgdmnfijaa", sum := "39cf3111ce5a3710d9769ae9e4c266c091d3d30cc8661935e2372bc013712b09", func := "learner/learnertop.TopCanonical", spec := "topCanonical", unfollowed := true, recurses := true, plainKeys := false, apart := false }
def TopCanonicalSaid : Prop := topCanonicalRow.holds Try.pinned (OpenSpec.ofChange topCanonicalSpec)

/-- ITS FALSE NEIGHBOUR: 'it returns false'. Refute it at one input. -/
def topCanonicalWrong : ChangeSpec := { name := "topCanonical", fn := fun _ => fun
  | [d1, d2] => { results := [.lit (.bool false)], args := [d1, d2] }
  | _ => none }
def TopCanonicalWrongFalsely : Prop := topCanonicalRow.holds Try.pinned (OpenSpec.ofChange topCanonicalWrong)

/- THE SECOND FORM. 'bulk': how many values and letters a reading holds, each counted each time it is reached (what is shared counts as often as it is met; a slice's spare places count too). A statement '..UptoSaid' is the law's where the arguments, and the package variables that the reading takes, are together of bulk at most 1048576: NARROWER than '..Said'. Prove '..Said' where nothing that the law and all that it calls make is longer than what came in: it says more and counts as full. Else prove '..UptoSaid'. A law counts once. -/
mutual
def uptoBulk {H : Type} : DataW H → Nat
  | .lit (.string bytes) => bytes.length + 1
  | .lit _ => 1
  | .nil => 1
  | .ptr d => uptoBulk d + 1
  | .slice elems spare => uptoBulkAll elems + uptoBulkAll spare + 1
  | .agg parts => uptoBulkAll parts + 1
  | .iface _ d => uptoBulk d + 1
  | .map entries => uptoBulkEntries entries + 1
  | .held _ => 1
def uptoBulkAll {H : Type} : List (DataW H) → Nat
  | [] => 0
  | d :: r => uptoBulk d + uptoBulkAll r
def uptoBulkEntries {H : Type} : List (Lit × DataW H) → Nat
  | [] => 0
  | x :: r => uptoBulkEntry x + uptoBulkEntries r
def uptoBulkEntry {H : Type} : Lit × DataW H → Nat
  | (.string bytes, d) => bytes.length + uptoBulk d + 1
  | (_, d) => uptoBulk d + 1
 end
def uptoSmall : (H : Type) → List (DataW H) → Bool := fun _ ds => decide (uptoBulkAll ds ≤ 1048576)
def OpenSpec.upto (s : _root_.Go.ChangeSpec) : _root_.Go.OpenSpec := { _root_.Go.OpenSpec.ofChange s with cond := some uptoSmall }

/-- 'learnerlaw08.MinimizeMins', WHERE WHAT IT READS IS OF BULK AT MOST 1048576: true; the input reads as it did. -/
def minimizeMinsUptoRow : OpenClaim := { program := "ytdedgpgdmnfijaa", sum := "39cf3111ce5a3710d9769ae9e4c266c091d3d30cc8661935e2372bc013712b09", func := "learner/learnerlaw08.MinimizeMins", spec := "minimizeMins", plainKeys := false, apart := false, narrowed := true }
def MinimizeMinsUptoSaid : Prop := minimizeMinsUptoRow.holds Try.pinned (OpenSpec.upto minimizeMinsSpec)

/-- 'learnerlaw09.EquivDistinguishes', WHERE WHAT IT READS IS OF BULK AT MOST 1048576: true; the input reads as it did. -/
def equivDistinguishesUptoRow : OpenClaim := { program := "ytdedgpgdmnfijaa", sum := "39cf3111ce5a3710d9769ae9e4c266c091d3d30cc8661935e2372bc013712b09", func := "learner/learnerlaw09.EquivDistinguishes", spec := "equivDistinguishes", unfollowed := true, recurses := true, plainKeys := false, apart := false, narrowed := true }
def EquivDistinguishesUptoSaid : Prop := equivDistinguishesUptoRow.holds Try.pinned (OpenSpec.upto equivDistinguishesSpec)

/-- 'learnerlaw09.EquivStates', WHERE WHAT IT READS IS OF BULK AT MOST 1048576: true; the input reads as it did. -/
def equivStatesUptoRow : OpenClaim := { program := "ytdedgpgdmnfijaa", sum := "39cf3111ce5a3710d9769ae9e4c266c091d3d30cc8661935e2372bc013712b09", func := "learner/learnerlaw09.EquivStates", spec := "equivStates", unfollowed := true, recurses := true, plainKeys := false, apart := false, narrowed := true }
def EquivStatesUptoSaid : Prop := equivStatesUptoRow.holds Try.pinned (OpenSpec.upto equivStatesSpec)

/-- 'learnerlaw09.EquivIsos', WHERE WHAT IT READS IS OF BULK AT MOST 1048576: true; the input reads as it did. -/
def equivIsosUptoRow : OpenClaim := { program := "ytdedgpgdmnfijaa", sum := "39cf3111ce5a3710d9769ae9e4c266c091d3d30cc8661935e2372bc013712b09", func := "learner/learnerlaw09.EquivIsos", spec := "equivIsos", unfollowed := true, recurses := true, plainKeys := false, apart := false, narrowed := true }
def EquivIsosUptoSaid : Prop := equivIsosUptoRow.holds Try.pinned (OpenSpec.upto equivIsosSpec)

/-- 'learnerlaw09.EquivFirst', WHERE WHAT IT READS IS OF BULK AT MOST 1048576: true; the input reads as it did. -/
def equivFirstUptoRow : OpenClaim := { program := "ytdedgpgdmnfijaa", sum := "39cf3111ce5a3710d9769ae9e4c266c091d3d30cc8661935e2372bc013712b09", func := "learner/learnerlaw09.EquivFirst", spec := "equivFirst", unfollowed := true, recurses := true, plainKeys := false, apart := false, narrowed := true }
def EquivFirstUptoSaid : Prop := equivFirstUptoRow.holds Try.pinned (OpenSpec.upto equivFirstSpec)

/-- 'learnerlaw09.EquivBounds', WHERE WHAT IT READS IS OF BULK AT MOST 1048576: true; the input reads as it did. -/
def equivBoundsUptoRow : OpenClaim := { program := "ytdedgpgdmnfijaa", sum := "39cf3111ce5a3710d9769ae9e4c266c091d3d30cc8661935e2372bc013712b09", func := "learner/learnerlaw09.EquivBounds", spec := "equivBounds", unfollowed := true, recurses := true, plainKeys := false, apart := false, narrowed := true }
def EquivBoundsUptoSaid : Prop := equivBoundsUptoRow.holds Try.pinned (OpenSpec.upto equivBoundsSpec)

/-- 'learnerlaw09.EquivMinimal', WHERE WHAT IT READS IS OF BULK AT MOST 1048576: true; the input reads as it did. -/
def equivMinimalUptoRow : OpenClaim := { program := "ytdedgpgdmnfijaa", sum := "39cf3111ce5a3710d9769ae9e4c266c091d3d30cc8661935e2372bc013712b09", func := "learner/learnerlaw09.EquivMinimal", spec := "equivMinimal", unfollowed := true, recurses := true, plainKeys := false, apart := false, narrowed := true }
def EquivMinimalUptoSaid : Prop := equivMinimalUptoRow.holds Try.pinned (OpenSpec.upto equivMinimalSpec)

/-- 'learnerlaw09.EquivMaps', WHERE WHAT IT READS IS OF BULK AT MOST 1048576: true; the input reads as it did. -/
def equivMapsUptoRow : OpenClaim := { program := "ytdedgpgdmnfijaa", sum := "39cf3111ce5a3710d9769ae9e4c266c091d3d30cc8661935e2372bc013712b09", func := "learner/learnerlaw09.EquivMaps", spec := "equivMaps", unfollowed := true, recurses := true, plainKeys := false, apart := false, narrowed := true }
def EquivMapsUptoSaid : Prop := equivMapsUptoRow.holds Try.pinned (OpenSpec.upto equivMapsSpec)

/-- 'learnertop.TopCanonical', WHERE WHAT IT READS IS OF BULK AT MOST 1048576: true; the input reads as it did. -/
def topCanonicalUptoRow : OpenClaim := { program := "ytdedgpgdmnfijaa", sum := "39cf3111ce5a3710d9769ae9e4c266c091d3d30cc8661935e2372bc013712b09", func := "learner/learnertop.TopCanonical", spec := "topCanonical", unfollowed := true, recurses := true, plainKeys := false, apart := false, narrowed := true }
def TopCanonicalUptoSaid : Prop := topCanonicalUptoRow.holds Try.pinned (OpenSpec.upto topCanonicalSpec)

end Rows
end Go.Proofs.Ytdedgpgdmnfijaa
