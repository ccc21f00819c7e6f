/-
  DERIVED. GIVEN WITH THE SEED: THE CARDS: each row of YtakhphhpjcpphaaGreatDoorRows.lean that lists a variable, with what it lists TIED to the program's text (the seventh form; the later family's looks); each row that meets fmt, with fmt's text TOLD by the authors' own Lean function (tested against real Go, not proved from fmt's source: count such statements apart). THE CARD IS WHAT COUNTS. Prove the row's statement (the work); the ties are given (YtakhphhpjcpphaaGreatDoorTie.lean); close each card by the builder's one call (the guide's Derived/Test/ToyasCard.lean, 'card_holds'). Laid BY PROGRAM, IN A SANDBOX (cutbox-door.mjs). By AI agents, Wed Nov 11 2026. No macro, syntax, notation, axiom, sorry.
-/
import Derived.Test.YtakhphhpjcpphaaGreatDoorRows
import GoSem.ClaimSeven
namespace Go.Proofs.YtakhphhpjcpphaaGreatDoor
namespace Rows

/-- THE TIED CARD OF 'learnerlaw02.WordsetLists'. -/
def wordsetListsCard : Claim7 := { stood := { row := wordsetListsRow, standIns := [], harness := (true, "58bd84d61d675f9918792f88398c0de8efd5349e5f0ab0570c5f4244d3f52204"), looks := false }, kinds := [], alts := [], laidByText := true, laidKinds := [.data, .data, .data], laidTests := true, laidLooks := .later }
def WordsetListsCardSaid : Prop := Claim7.holds Tryz.pinned (.plain (OpenSpec.ofChange wordsetListsSpec)) wordsetListsCard

/-- THE SECOND FORM's CARD OF 'learnerlaw02.WordsetLists'. -/
def wordsetListsUptoCard : Claim7 := { stood := { row := wordsetListsUptoRow, standIns := [], harness := (true, "58bd84d61d675f9918792f88398c0de8efd5349e5f0ab0570c5f4244d3f52204"), looks := false }, kinds := [], alts := [], laidByText := true, laidKinds := [.data, .data, .data], laidTests := true, laidLooks := .later }
def WordsetListsUptoCardSaid : Prop := Claim7.holds Tryz.pinned (.plain (OpenSpec.upto wordsetListsSpec)) wordsetListsUptoCard
end Rows
end Go.Proofs.YtakhphhpjcpphaaGreatDoor
