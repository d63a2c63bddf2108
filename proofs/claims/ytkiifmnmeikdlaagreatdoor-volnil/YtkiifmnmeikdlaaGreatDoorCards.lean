/-
  DERIVED. GIVEN WITH THE SEED: THE CARDS: each row of YtkiifmnmeikdlaaGreatDoorRows.lean that lists a variable, with what it lists TIED to the program's text (the seventh form; the later family's looks); each row that meets fmt, with fmt's text TOLD by the authors' own Lean function (tested against real Go, not proved from fmt's source: count such statements apart). THE CARD IS WHAT COUNTS. Prove the row's statement (the work); the ties are given (YtkiifmnmeikdlaaGreatDoorTie.lean); close each card by the builder's one call (the guide's Derived/Test/ToyasCard.lean, 'card_holds'). Laid BY PROGRAM, IN A SANDBOX (cutbox-door.mjs). By AI agents, Wed Nov 11 2026. No macro, syntax, notation, axiom, sorry.
-/
import Derived.Test.YtkiifmnmeikdlaaGreatDoorRows
import GoSem.ClaimSeven
namespace Go.Proofs.YtkiifmnmeikdlaaGreatDoor
namespace Rows

/-- THE TIED CARD OF 'leveelaw13.VolNil'. -/
def volNilCard : Claim7 := { stood := { row := volNilRow, standIns := [], harness := (true, "1108cd4ea87af1e8a5e6d7b39d990db5434f63c6b3bfc8563c4fa3078a4e8eea"), looks := false }, kinds := [], alts := [], laidByText := true, laidKinds := [.data], laidTests := true, laidLooks := .later }
def VolNilCardSaid : Prop := Claim7.holds Tryz.pinned (.plain (OpenSpec.ofChange volNilSpec)) volNilCard

/-- THE SECOND FORM's CARD OF 'leveelaw13.VolNil'. -/
def volNilUptoCard : Claim7 := { stood := { row := volNilUptoRow, standIns := [], harness := (true, "1108cd4ea87af1e8a5e6d7b39d990db5434f63c6b3bfc8563c4fa3078a4e8eea"), looks := false }, kinds := [], alts := [], laidByText := true, laidKinds := [.data], laidTests := true, laidLooks := .later }
def VolNilUptoCardSaid : Prop := Claim7.holds Tryz.pinned (.plain (OpenSpec.upto volNilSpec)) volNilUptoCard
end Rows
end Go.Proofs.YtkiifmnmeikdlaaGreatDoor
