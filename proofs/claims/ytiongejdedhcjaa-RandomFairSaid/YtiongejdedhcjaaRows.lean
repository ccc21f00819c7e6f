/-
  No cell of these rows narrows 'for every input' (looked for: loops, veiled, ifaces, maps, wideKeys, modest, calm, conditions, laid).
  DERIVED. THE GIVEN ROWS OF THIS SEAT. 6 by the template 'for every input the law returns true; each argument reads behind the call as it read before'; 0 by the template 'total and deterministic' (their statements: YtiongejdedhcjaaTotals.lean).
  GIVEN WITH THE SEED: the statements are not yours to turn. If you find one false, say at which input.
  Laid BY PROGRAM, IN A SANDBOX (cutbox-rows.mjs): the forced cells as the released guide's own fill.sh prints them over the translation 7156d6131745450e… (all of the seat's roots in one cut). By AI agents, Wed Nov 11 2026. No macro, syntax, notation, axiom, sorry.
-/
import Derived.Test.YtiongejdedhcjaaChecked
import GoSem.Claim
import GoSem.ClaimJoined
import GoSem.ClaimMapViews
import Derived.JoinedTies
import Derived.KernelRfl
namespace Go.Proofs.Ytiongejdedhcjaa
/- THE CELL 'sum', in the pinned program and in every row, IS THE sha256 OF THE DUMP (.gsa) THAT YtiongejdedhcjaaProg.lean LOADS. Nothing in Lean hashes anything: it is a label: what it is worth is what the hold of that sum in a sandbox is worth. -/
noncomputable def Try.pinned : Pinned := { name := "ytiongejdedhcjaa", sum := "7156d6131745450e1bb1741ed651f57dedd7041146db77177b658b9f942b1ab0", checked := Try.checked }
namespace Rows
def none {H : Type} : Left H := { results := [], args := [] }

/-- 'learnerlaw04.RandomNumbers': WHATEVER THE INPUT: true; the input reads as it did. -/
def randomNumbersSpec : ChangeSpec := { name := "randomNumbers", fn := fun _ => fun
  | [d1, d2] => { results := [.lit (.bool true)], args := [d1, d2] }
  | _ => none }
def randomNumbersRow : OpenClaim := { program := "ytiongejdedhcjaa", sum := "7156d6131745450e1bb1741ed651f57dedd7041146db77177b658b9f942b1ab0", func := "learner/learnerlaw04.RandomNumbers", spec := "randomNumbers", apart := false }
def RandomNumbersSaid : Prop := randomNumbersRow.holds Try.pinned (OpenSpec.ofChange randomNumbersSpec)

/-- ITS FALSE NEIGHBOUR: 'it returns false'. Refute it at one input. -/
def randomNumbersWrong : ChangeSpec := { name := "randomNumbers", fn := fun _ => fun
  | [d1, d2] => { results := [.lit (.bool false)], args := [d1, d2] }
  | _ => none }
def RandomNumbersWrongFalsely : Prop := randomNumbersRow.holds Try.pinned (OpenSpec.ofChange randomNumbersWrong)

/-- 'learnerlaw04.RandomWords': WHATEVER THE INPUT: true; the input reads as it did. -/
def randomWordsSpec : ChangeSpec := { name := "randomWords", fn := fun _ => fun
  | [d1, d2, d3] => { results := [.lit (.bool true)], args := [d1, d2, d3] }
  | _ => none }
def randomWordsRow : OpenClaim := { program := "ytiongejdedhcjaa", sum := "7156d6131745450e1bb1741ed651f57dedd7041146db77177b658b9f942b1ab0", func := "learner/learnerlaw04.RandomWords", spec := "randomWords", apart := false }
def RandomWordsSaid : Prop := randomWordsRow.holds Try.pinned (OpenSpec.ofChange randomWordsSpec)

/-- ITS FALSE NEIGHBOUR: 'it returns false'. Refute it at one input. -/
def randomWordsWrong : ChangeSpec := { name := "randomWords", fn := fun _ => fun
  | [d1, d2, d3] => { results := [.lit (.bool false)], args := [d1, d2, d3] }
  | _ => none }
def RandomWordsWrongFalsely : Prop := randomWordsRow.holds Try.pinned (OpenSpec.ofChange randomWordsWrong)

/-- 'learnerlaw04.RandomShuffles': WHATEVER THE INPUT: true; the input reads as it did. -/
def randomShufflesSpec : ChangeSpec := { name := "randomShuffles", fn := fun _ => fun
  | [d1, d2] => { results := [.lit (.bool true)], args := [d1, d2] }
  | _ => none }
def randomShufflesRow : OpenClaim := { program := "ytiongejdedhcjaa", sum := "7156d6131745450e1bb1741ed651f57dedd7041146db77177b658b9f942b1ab0", func := "learner/learnerlaw04.RandomShuffles", spec := "randomShuffles", apart := false }
def RandomShufflesSaid : Prop := randomShufflesRow.holds Try.pinned (OpenSpec.ofChange randomShufflesSpec)

/-- ITS FALSE NEIGHBOUR: 'it returns false'. Refute it at one input. -/
def randomShufflesWrong : ChangeSpec := { name := "randomShuffles", fn := fun _ => fun
  | [d1, d2] => { results := [.lit (.bool false)], args := [d1, d2] }
  | _ => none }
def RandomShufflesWrongFalsely : Prop := randomShufflesRow.holds Try.pinned (OpenSpec.ofChange randomShufflesWrong)

/-- 'learnerlaw04.RandomChoices': WHATEVER THE INPUT: true; the input reads as it did. -/
def randomChoicesSpec : ChangeSpec := { name := "randomChoices", fn := fun _ => fun
  | [d1, d2] => { results := [.lit (.bool true)], args := [d1, d2] }
  | _ => none }
def randomChoicesRow : OpenClaim := { program := "ytiongejdedhcjaa", sum := "7156d6131745450e1bb1741ed651f57dedd7041146db77177b658b9f942b1ab0", func := "learner/learnerlaw04.RandomChoices", spec := "randomChoices", apart := false }
def RandomChoicesSaid : Prop := randomChoicesRow.holds Try.pinned (OpenSpec.ofChange randomChoicesSpec)

/-- ITS FALSE NEIGHBOUR: 'it returns false'. Refute it at one input. -/
def randomChoicesWrong : ChangeSpec := { name := "randomChoices", fn := fun _ => fun
  | [d1, d2] => { results := [.lit (.bool false)], args := [d1, d2] }
  | _ => none }
def RandomChoicesWrongFalsely : Prop := randomChoicesRow.holds Try.pinned (OpenSpec.ofChange randomChoicesWrong)

/-- 'learnerlaw04.RandomParts': WHATEVER THE INPUT: true; the input reads as it did. -/
def randomPartsSpec : ChangeSpec := { name := "randomParts", fn := fun _ => fun
  | [d] => { results := [.lit (.bool true)], args := [d] }
  | _ => none }
def randomPartsRow : OpenClaim := { program := "ytiongejdedhcjaa", sum := "7156d6131745450e1bb1741ed651f57dedd7041146db77177b658b9f942b1ab0", func := "learner/learnerlaw04.RandomParts", spec := "randomParts", apart := false }
def RandomPartsSaid : Prop := randomPartsRow.holds Try.pinned (OpenSpec.ofChange randomPartsSpec)

/-- ITS FALSE NEIGHBOUR: 'it returns false'. Refute it at one input. -/
def randomPartsWrong : ChangeSpec := { name := "randomParts", fn := fun _ => fun
  | [d] => { results := [.lit (.bool false)], args := [d] }
  | _ => none }
def RandomPartsWrongFalsely : Prop := randomPartsRow.holds Try.pinned (OpenSpec.ofChange randomPartsWrong)

/-- 'learnerlaw04.RandomFair': WHATEVER THE INPUT: true; the input reads as it did. -/
def randomFairSpec : ChangeSpec := { name := "randomFair", fn := fun _ => fun
  | [d1, d2, d3] => { results := [.lit (.bool true)], args := [d1, d2, d3] }
  | _ => none }
def randomFairRow : OpenClaim := { program := "ytiongejdedhcjaa", sum := "7156d6131745450e1bb1741ed651f57dedd7041146db77177b658b9f942b1ab0", func := "learner/learnerlaw04.RandomFair", spec := "randomFair", apart := false }
def RandomFairSaid : Prop := randomFairRow.holds Try.pinned (OpenSpec.ofChange randomFairSpec)

/-- ITS FALSE NEIGHBOUR: 'it returns false'. Refute it at one input. -/
def randomFairWrong : ChangeSpec := { name := "randomFair", fn := fun _ => fun
  | [d1, d2, d3] => { results := [.lit (.bool false)], args := [d1, d2, d3] }
  | _ => none }
def RandomFairWrongFalsely : Prop := randomFairRow.holds Try.pinned (OpenSpec.ofChange randomFairWrong)

/- THE SECOND FORM. 'bulk': how many values and letters a reading holds, each counted each time it is reached (what is shared counts as often as it is met; a slice's spare places count too). A statement '..UptoSaid' is the law's where the arguments, and the package variables that the reading takes, are together of bulk at most 1048576: NARROWER than '..Said'. Prove '..Said' where nothing that the law and all that it calls make is longer than what came in: it says more and counts as full. Else prove '..UptoSaid'. A law counts once. -/
mutual
def uptoBulk {H : Type} : DataW H → Nat
  | .lit (.string bytes) => bytes.length + 1
  | .lit _ => 1
  | .nil => 1
  | .ptr d => uptoBulk d + 1
  | .slice elems spare => uptoBulkAll elems + uptoBulkAll spare + 1
  | .agg parts => uptoBulkAll parts + 1
  | .iface _ d => uptoBulk d + 1
  | .map entries => uptoBulkEntries entries + 1
  | .held _ => 1
def uptoBulkAll {H : Type} : List (DataW H) → Nat
  | [] => 0
  | d :: r => uptoBulk d + uptoBulkAll r
def uptoBulkEntries {H : Type} : List (Lit × DataW H) → Nat
  | [] => 0
  | x :: r => uptoBulkEntry x + uptoBulkEntries r
def uptoBulkEntry {H : Type} : Lit × DataW H → Nat
  | (.string bytes, d) => bytes.length + uptoBulk d + 1
  | (_, d) => uptoBulk d + 1
 end
def uptoSmall : (H : Type) → List (DataW H) → Bool := fun _ ds => decide (uptoBulkAll ds ≤ 1048576)
def OpenSpec.upto (s : _root_.Go.ChangeSpec) : _root_.Go.OpenSpec := { _root_.Go.OpenSpec.ofChange s with cond := some uptoSmall }

/-- 'learnerlaw04.RandomNumbers', WHERE WHAT IT READS IS OF BULK AT MOST 1048576: true; the input reads as it did. -/
def randomNumbersUptoRow : OpenClaim := { program := "ytiongejdedhcjaa", sum := "7156d6131745450e1bb1741ed651f57dedd7041146db77177b658b9f942b1ab0", func := "learner/learnerlaw04.RandomNumbers", spec := "randomNumbers", apart := false, narrowed := true }
def RandomNumbersUptoSaid : Prop := randomNumbersUptoRow.holds Try.pinned (OpenSpec.upto randomNumbersSpec)

/-- 'learnerlaw04.RandomWords', WHERE WHAT IT READS IS OF BULK AT MOST 1048576: true; the input reads as it did. -/
def randomWordsUptoRow : OpenClaim := { program := "ytiongejdedhcjaa", sum := "7156d6131745450e1bb1741ed651f57dedd7041146db77177b658b9f942b1ab0", func := "learner/learnerlaw04.RandomWords", spec := "randomWords", apart := false, narrowed := true }
def RandomWordsUptoSaid : Prop := randomWordsUptoRow.holds Try.pinned (OpenSpec.upto randomWordsSpec)

/-- 'learnerlaw04.RandomShuffles', WHERE WHAT IT READS IS OF BULK AT MOST 1048576: true; the input reads as it did. -/
def randomShufflesUptoRow : OpenClaim := { program := "ytiongejdedhcjaa", sum := "7156d6131745450e1bb1741ed651f57dedd7041146db77177b658b9f942b1ab0", func := "learner/learnerlaw04.RandomShuffles", spec := "randomShuffles", apart := false, narrowed := true }
def RandomShufflesUptoSaid : Prop := randomShufflesUptoRow.holds Try.pinned (OpenSpec.upto randomShufflesSpec)

/-- 'learnerlaw04.RandomChoices', WHERE WHAT IT READS IS OF BULK AT MOST 1048576: true; the input reads as it did. -/
def randomChoicesUptoRow : OpenClaim := { program := "ytiongejdedhcjaa", sum := "7156d6131745450e1bb1741ed651f57dedd7041146db77177b658b9f942b1ab0", func := "learner/learnerlaw04.RandomChoices", spec := "randomChoices", apart := false, narrowed := true }
def RandomChoicesUptoSaid : Prop := randomChoicesUptoRow.holds Try.pinned (OpenSpec.upto randomChoicesSpec)

/-- 'learnerlaw04.RandomParts', WHERE WHAT IT READS IS OF BULK AT MOST 1048576: true; the input reads as it did. -/
def randomPartsUptoRow : OpenClaim := { program := "ytiongejdedhcjaa", sum := "7156d6131745450e1bb1741ed651f57dedd7041146db77177b658b9f942b1ab0", func := "learner/learnerlaw04.RandomParts", spec := "randomParts", apart := false, narrowed := true }
def RandomPartsUptoSaid : Prop := randomPartsUptoRow.holds Try.pinned (OpenSpec.upto randomPartsSpec)

/-- 'learnerlaw04.RandomFair', WHERE WHAT IT READS IS OF BULK AT MOST 1048576: true; the input reads as it did. -/
def randomFairUptoRow : OpenClaim := { program := "ytiongejdedhcjaa", sum := "7156d6131745450e1bb1741ed651f57dedd7041146db77177b658b9f942b1ab0", func := "learner/learnerlaw04.RandomFair", spec := "randomFair", apart := false, narrowed := true }
def RandomFairUptoSaid : Prop := randomFairUptoRow.holds Try.pinned (OpenSpec.upto randomFairSpec)

end Rows
end Go.Proofs.Ytiongejdedhcjaa
