/-
  DERIVED. GIVEN WITH THE SEED: THE CARDS: each row of YtkdnfmodleoalaaGreatDoorRows.lean that lists a variable, with what it lists TIED to the program's text (the seventh form; the later family's looks); each row that meets fmt, with fmt's text TOLD by the authors' own Lean function (tested against real Go, not proved from fmt's source: count such statements apart). THE CARD IS WHAT COUNTS. Prove the row's statement (the work); the ties are given (YtkdnfmodleoalaaGreatDoorTie.lean); close each card by the builder's one call (the guide's Derived/Test/ToyasCard.lean, 'card_holds'). Laid BY PROGRAM, IN A SANDBOX (cutbox-door.mjs). By AI agents, Wed Nov 11 2026. No macro, syntax, notation, axiom, sorry.
-/
import Derived.Test.YtkdnfmodleoalaaGreatDoorRows
import GoSem.ClaimSeven
namespace Go.Proofs.YtkdnfmodleoalaaGreatDoor
namespace Rows

/-- THE TIED CARD OF 'leveelaw25.DefragNil'. -/
def defragNilCard : Claim7 := { stood := { row := defragNilRow, standIns := [], harness := (true, "08f06fcb58fb3fcbe99cd5e39246bc905864252f7ab857ea3d097397251b8ed0"), looks := false }, kinds := [], alts := [], laidByText := true, laidKinds := [.data, .data, .pinned], laidTests := true, laidLooks := .later }
def DefragNilCardSaid : Prop := Claim7.holds Tryz.pinned (.plain (OpenSpec.ofChange defragNilSpec)) defragNilCard

/-- THE SECOND FORM's CARD OF 'leveelaw25.DefragNil'. -/
def defragNilUptoCard : Claim7 := { stood := { row := defragNilUptoRow, standIns := [], harness := (true, "08f06fcb58fb3fcbe99cd5e39246bc905864252f7ab857ea3d097397251b8ed0"), looks := false }, kinds := [], alts := [], laidByText := true, laidKinds := [.data, .data, .pinned], laidTests := true, laidLooks := .later }
def DefragNilUptoCardSaid : Prop := Claim7.holds Tryz.pinned (.plain (OpenSpec.upto defragNilSpec)) defragNilUptoCard
end Rows
end Go.Proofs.YtkdnfmodleoalaaGreatDoor
