/-
  DERIVED. GIVEN WITH THE SEED: THE CARDS: each row of YtkimkmbpekajdaaGreatDoorRows.lean that lists a variable, with what it lists TIED to the program's text (the seventh form; the later family's looks); each row that meets fmt, with fmt's text TOLD by the authors' own Lean function (tested against real Go, not proved from fmt's source: count such statements apart). THE CARD IS WHAT COUNTS. Prove the row's statement (the work); the ties are given (YtkimkmbpekajdaaGreatDoorTie.lean); close each card by the builder's one call (the guide's Derived/Test/ToyasCard.lean, 'card_holds'). Laid BY PROGRAM, IN A SANDBOX (cutbox-door.mjs). By AI agents, Wed Nov 11 2026. No macro, syntax, notation, axiom, sorry.
-/
import Derived.Test.YtkimkmbpekajdaaGreatDoorRows
import GoSem.ClaimSeven
namespace Go.Proofs.YtkimkmbpekajdaaGreatDoor
namespace Rows

/-- THE TIED CARD OF 'leveelaw16.DirNil'. -/
def dirNilCard : Claim7 := { stood := { row := dirNilRow, standIns := [], harness := (true, "87dc4ef8dbbf1a7a8b12d39bdf916394abff40822951bbc43dbf74b1ce223f81"), looks := false }, kinds := [], alts := [], laidByText := true, laidKinds := [.data], laidTests := true, laidLooks := .later }
def DirNilCardSaid : Prop := Claim7.holds Tryz.pinned (.plain (OpenSpec.ofChange dirNilSpec)) dirNilCard

/-- THE SECOND FORM's CARD OF 'leveelaw16.DirNil'. -/
def dirNilUptoCard : Claim7 := { stood := { row := dirNilUptoRow, standIns := [], harness := (true, "87dc4ef8dbbf1a7a8b12d39bdf916394abff40822951bbc43dbf74b1ce223f81"), looks := false }, kinds := [], alts := [], laidByText := true, laidKinds := [.data], laidTests := true, laidLooks := .later }
def DirNilUptoCardSaid : Prop := Claim7.holds Tryz.pinned (.plain (OpenSpec.upto dirNilSpec)) dirNilUptoCard
end Rows
end Go.Proofs.YtkimkmbpekajdaaGreatDoor
