/-
  DERIVED. GIVEN WITH THE SEED: THE CARDS: each row of YtjdfkbpadhndlaaDoorRows.lean that lists a variable, with what it lists TIED to the program's text (the seventh form; the later family's looks); each row that meets fmt, with fmt's text TOLD by the authors' own Lean function (tested against real Go, not proved from fmt's source: count such statements apart). THE CARD IS WHAT COUNTS. Prove the row's statement (the work); the ties are given (YtjdfkbpadhndlaaDoorTie.lean); close each card by the builder's one call (the guide's Derived/Test/ToyasCard.lean, 'card_holds'). Laid BY PROGRAM, IN A SANDBOX (cutbox-door.mjs). By AI agents, Wed Nov 11 2026. No macro, syntax, notation, axiom, sorry.
-/
import Derived.Test.YtjdfkbpadhndlaaDoorRows
import GoSem.ClaimSeven
namespace Go.Proofs.YtjdfkbpadhndlaaDoor
namespace Rows

/-- THE TIED CARD OF 'leveelaw04.SuperBytes'. -/
def superBytesCard : Claim7 := { stood := { row := superBytesRow, standIns := [], harness := (true, "3964e9848b64c653b78cd814bfdf1393b5a17a3af25e0884fac4136936474a97"), looks := false }, kinds := [], alts := [], laidByText := true, laidKinds := [.data], laidTests := true, laidLooks := .later }
def SuperBytesCardSaid : Prop := Claim7.holds Tryd.pinned (.plain (OpenSpec.ofChange superBytesSpec)) superBytesCard

/-- THE TIED CARD OF 'leveelaw04.SuperChooses'. -/
def superChoosesCard : Claim7 := { stood := { row := superChoosesRow, standIns := [], harness := (true, "3964e9848b64c653b78cd814bfdf1393b5a17a3af25e0884fac4136936474a97"), looks := false }, kinds := [], alts := [], laidByText := true, laidKinds := [.data], laidTests := true, laidLooks := .later }
def SuperChoosesCardSaid : Prop := Claim7.holds Tryd.pinned (.plain (OpenSpec.ofChange superChoosesSpec)) superChoosesCard

/-- THE TIED CARD OF 'leveelaw04.SuperTurned'. -/
def superTurnedCard : Claim7 := { stood := { row := superTurnedRow, standIns := [], harness := (true, "3964e9848b64c653b78cd814bfdf1393b5a17a3af25e0884fac4136936474a97"), looks := false }, kinds := [], alts := [], laidByText := true, laidKinds := [.data], laidTests := true, laidLooks := .later }
def SuperTurnedCardSaid : Prop := Claim7.holds Tryd.pinned (.plain (OpenSpec.ofChange superTurnedSpec)) superTurnedCard

/-- THE TIED CARD OF 'leveelaw04.SuperNext'. -/
def superNextCard : Claim7 := { stood := { row := superNextRow, standIns := [], harness := (true, "3964e9848b64c653b78cd814bfdf1393b5a17a3af25e0884fac4136936474a97"), looks := false }, kinds := [], alts := [], laidByText := true, laidKinds := [.data], laidTests := true, laidLooks := .later }
def SuperNextCardSaid : Prop := Claim7.holds Tryd.pinned (.plain (OpenSpec.ofChange superNextSpec)) superNextCard

/-- THE SECOND FORM's CARD OF 'leveelaw04.SuperBytes'. -/
def superBytesUptoCard : Claim7 := { stood := { row := superBytesUptoRow, standIns := [], harness := (true, "3964e9848b64c653b78cd814bfdf1393b5a17a3af25e0884fac4136936474a97"), looks := false }, kinds := [], alts := [], laidByText := true, laidKinds := [.data], laidTests := true, laidLooks := .later }
def SuperBytesUptoCardSaid : Prop := Claim7.holds Tryd.pinned (.plain (OpenSpec.upto superBytesSpec)) superBytesUptoCard

/-- THE SECOND FORM's CARD OF 'leveelaw04.SuperChooses'. -/
def superChoosesUptoCard : Claim7 := { stood := { row := superChoosesUptoRow, standIns := [], harness := (true, "3964e9848b64c653b78cd814bfdf1393b5a17a3af25e0884fac4136936474a97"), looks := false }, kinds := [], alts := [], laidByText := true, laidKinds := [.data], laidTests := true, laidLooks := .later }
def SuperChoosesUptoCardSaid : Prop := Claim7.holds Tryd.pinned (.plain (OpenSpec.upto superChoosesSpec)) superChoosesUptoCard

/-- THE SECOND FORM's CARD OF 'leveelaw04.SuperTurned'. -/
def superTurnedUptoCard : Claim7 := { stood := { row := superTurnedUptoRow, standIns := [], harness := (true, "3964e9848b64c653b78cd814bfdf1393b5a17a3af25e0884fac4136936474a97"), looks := false }, kinds := [], alts := [], laidByText := true, laidKinds := [.data], laidTests := true, laidLooks := .later }
def SuperTurnedUptoCardSaid : Prop := Claim7.holds Tryd.pinned (.plain (OpenSpec.upto superTurnedSpec)) superTurnedUptoCard

/-- THE SECOND FORM's CARD OF 'leveelaw04.SuperNext'. -/
def superNextUptoCard : Claim7 := { stood := { row := superNextUptoRow, standIns := [], harness := (true, "3964e9848b64c653b78cd814bfdf1393b5a17a3af25e0884fac4136936474a97"), looks := false }, kinds := [], alts := [], laidByText := true, laidKinds := [.data], laidTests := true, laidLooks := .later }
def SuperNextUptoCardSaid : Prop := Claim7.holds Tryd.pinned (.plain (OpenSpec.upto superNextSpec)) superNextUptoCard
end Rows
end Go.Proofs.YtjdfkbpadhndlaaDoor
