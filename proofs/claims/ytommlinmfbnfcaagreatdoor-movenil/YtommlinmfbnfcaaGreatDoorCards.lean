/-
  DERIVED. GIVEN WITH THE SEED: THE CARDS: each row of YtommlinmfbnfcaaGreatDoorRows.lean that lists a variable, with what it lists TIED to the program's text (the seventh form; the later family's looks); each row that meets fmt, with fmt's text TOLD by the authors' own Lean function (tested against real Go, not proved from fmt's source: count such statements apart). THE CARD IS WHAT COUNTS. Prove the row's statement (the work); the ties are given (YtommlinmfbnfcaaGreatDoorTie.lean); close each card by the builder's one call (the guide's Derived/Test/ToyasCard.lean, 'card_holds'). Laid BY PROGRAM, IN A SANDBOX (cutbox-door.mjs). By AI agents, Wed Nov 11 2026. No macro, syntax, notation, axiom, sorry.
-/
import Derived.Test.YtommlinmfbnfcaaGreatDoorRows
import GoSem.ClaimSeven
namespace Go.Proofs.YtommlinmfbnfcaaGreatDoor
namespace Rows

/-- THE TIED CARD OF 'leveelaw21.MoveNil'. -/
def moveNilCard : Claim7 := { stood := { row := moveNilRow, standIns := [], harness := (true, "abc18d9d310a4666cb9b930133c6d44d9d3cc23212e8888dd14489efab09c77d"), looks := false }, kinds := [], alts := [], laidByText := true, laidKinds := [.data, .data, .pinned], laidTests := true, laidLooks := .later }
def MoveNilCardSaid : Prop := Claim7.holds Tryz.pinned (.plain (OpenSpec.ofChange moveNilSpec)) moveNilCard

/-- THE SECOND FORM's CARD OF 'leveelaw21.MoveNil'. -/
def moveNilUptoCard : Claim7 := { stood := { row := moveNilUptoRow, standIns := [], harness := (true, "abc18d9d310a4666cb9b930133c6d44d9d3cc23212e8888dd14489efab09c77d"), looks := false }, kinds := [], alts := [], laidByText := true, laidKinds := [.data, .data, .pinned], laidTests := true, laidLooks := .later }
def MoveNilUptoCardSaid : Prop := Claim7.holds Tryz.pinned (.plain (OpenSpec.upto moveNilSpec)) moveNilUptoCard
end Rows
end Go.Proofs.YtommlinmfbnfcaaGreatDoor
