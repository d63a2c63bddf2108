/-
  DERIVED. GIVEN WITH THE SEED: THE CARDS: each row of YtpmaokkjgmhinaaGreatDoorRows.lean that lists a variable, with what it lists TIED to the program's text (the seventh form; the later family's looks); each row that meets fmt, with fmt's text TOLD by the authors' own Lean function (tested against real Go, not proved from fmt's source: count such statements apart). THE CARD IS WHAT COUNTS. Prove the row's statement (the work); the ties are given (YtpmaokkjgmhinaaGreatDoorTie.lean); close each card by the builder's one call (the guide's Derived/Test/ToyasCard.lean, 'card_holds'). Laid BY PROGRAM, IN A SANDBOX (cutbox-door.mjs). By AI agents, Wed Nov 11 2026. No macro, syntax, notation, axiom, sorry.
-/
import Derived.Test.YtpmaokkjgmhinaaGreatDoorRows
import GoSem.ClaimSeven
namespace Go.Proofs.YtpmaokkjgmhinaaGreatDoor
namespace Rows

/-- THE TIED CARD OF 'leveelaw23.GrowNil'. -/
def growNilCard : Claim7 := { stood := { row := growNilRow, standIns := [], harness := (true, "e2b28a71c15d36335f5cf2fd4da49888235460a0900223a1baa658d4041c6e25"), looks := false }, kinds := [], alts := [], laidByText := true, laidKinds := [.data], laidTests := true, laidLooks := .later }
def GrowNilCardSaid : Prop := Claim7.holds Tryz.pinned (.plain (OpenSpec.ofChange growNilSpec)) growNilCard

/-- THE SECOND FORM's CARD OF 'leveelaw23.GrowNil'. -/
def growNilUptoCard : Claim7 := { stood := { row := growNilUptoRow, standIns := [], harness := (true, "e2b28a71c15d36335f5cf2fd4da49888235460a0900223a1baa658d4041c6e25"), looks := false }, kinds := [], alts := [], laidByText := true, laidKinds := [.data], laidTests := true, laidLooks := .later }
def GrowNilUptoCardSaid : Prop := Claim7.holds Tryz.pinned (.plain (OpenSpec.upto growNilSpec)) growNilUptoCard
end Rows
end Go.Proofs.YtpmaokkjgmhinaaGreatDoor
