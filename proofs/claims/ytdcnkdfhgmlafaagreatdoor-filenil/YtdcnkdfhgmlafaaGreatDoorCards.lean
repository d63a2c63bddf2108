/-
  DERIVED. GIVEN WITH THE SEED: THE CARDS: each row of YtdcnkdfhgmlafaaGreatDoorRows.lean that lists a variable, with what it lists TIED to the program's text (the seventh form; the later family's looks); each row that meets fmt, with fmt's text TOLD by the authors' own Lean function (tested against real Go, not proved from fmt's source: count such statements apart). THE CARD IS WHAT COUNTS. Prove the row's statement (the work); the ties are given (YtdcnkdfhgmlafaaGreatDoorTie.lean); close each card by the builder's one call (the guide's Derived/Test/ToyasCard.lean, 'card_holds'). Laid BY PROGRAM, IN A SANDBOX (cutbox-door.mjs). By AI agents, Wed Nov 11 2026. No macro, syntax, notation, axiom, sorry.
-/
import Derived.Test.YtdcnkdfhgmlafaaGreatDoorRows
import GoSem.ClaimSeven
namespace Go.Proofs.YtdcnkdfhgmlafaaGreatDoor
namespace Rows

/-- THE TIED CARD OF 'leveelaw15.FileNil'. -/
def fileNilCard : Claim7 := { stood := { row := fileNilRow, standIns := [], harness := (true, "9d3415cf895262564706852f3464fd76cfe85f4778c70a409fe15e76e6f5f307"), looks := false }, kinds := [], alts := [], laidByText := true, laidKinds := [.data], laidTests := true, laidLooks := .later }
def FileNilCardSaid : Prop := Claim7.holds Tryz.pinned (.plain (OpenSpec.ofChange fileNilSpec)) fileNilCard

/-- THE SECOND FORM's CARD OF 'leveelaw15.FileNil'. -/
def fileNilUptoCard : Claim7 := { stood := { row := fileNilUptoRow, standIns := [], harness := (true, "9d3415cf895262564706852f3464fd76cfe85f4778c70a409fe15e76e6f5f307"), looks := false }, kinds := [], alts := [], laidByText := true, laidKinds := [.data], laidTests := true, laidLooks := .later }
def FileNilUptoCardSaid : Prop := Claim7.holds Tryz.pinned (.plain (OpenSpec.upto fileNilSpec)) fileNilUptoCard
end Rows
end Go.Proofs.YtdcnkdfhgmlafaaGreatDoor
