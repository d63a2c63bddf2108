/-
  DERIVED. GIVEN WITH THE SEED: THE CARDS: each row of YtipkmcgamkoncaaGreatDoorRows.lean that lists a variable, with what it lists TIED to the program's text (the seventh form; the later family's looks); each row that meets fmt, with fmt's text TOLD by the authors' own Lean function (tested against real Go, not proved from fmt's source: count such statements apart). THE CARD IS WHAT COUNTS. Prove the row's statement (the work); the ties are given (YtipkmcgamkoncaaGreatDoorTie.lean); close each card by the builder's one call (the guide's Derived/Test/ToyasCard.lean, 'card_holds'). Laid BY PROGRAM, IN A SANDBOX (cutbox-door.mjs). By AI agents, Wed Nov 11 2026. No macro, syntax, notation, axiom, sorry.
-/
import Derived.Test.YtipkmcgamkoncaaGreatDoorRows
import GoSem.ClaimSeven
namespace Go.Proofs.YtipkmcgamkoncaaGreatDoor
namespace Rows

/-- THE TIED CARD OF 'leveelaw19.FsNil'. -/
def fsNilCard : Claim7 := { stood := { row := fsNilRow, standIns := [], harness := (true, "2670a00394892d43f45b58051e3d5ea97c2527f5c60cd8f4c55ab7042b70845f"), looks := false }, kinds := [], alts := [], laidByText := true, laidKinds := [.data, .data, .pinned], laidTests := true, laidLooks := .later }
def FsNilCardSaid : Prop := Claim7.holds Tryz.pinned (.plain (OpenSpec.ofChange fsNilSpec)) fsNilCard

/-- THE SECOND FORM's CARD OF 'leveelaw19.FsNil'. -/
def fsNilUptoCard : Claim7 := { stood := { row := fsNilUptoRow, standIns := [], harness := (true, "2670a00394892d43f45b58051e3d5ea97c2527f5c60cd8f4c55ab7042b70845f"), looks := false }, kinds := [], alts := [], laidByText := true, laidKinds := [.data, .data, .pinned], laidTests := true, laidLooks := .later }
def FsNilUptoCardSaid : Prop := Claim7.holds Tryz.pinned (.plain (OpenSpec.upto fsNilSpec)) fsNilUptoCard
end Rows
end Go.Proofs.YtipkmcgamkoncaaGreatDoor
