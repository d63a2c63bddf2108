/-
  NARROWER THAN 'FOR EVERY INPUT', by the rows' own cells (each row's printed sentence says how): SuperBytes: laid · SuperChooses: laid · SuperTurned: laid · SuperNext: laid.
  DERIVED. THE GIVEN ROWS OF THIS SEAT. 4 by the template 'for every input the law returns true; each argument reads behind the call as it read before'; 0 by the template 'total and deterministic' (their statements: YtjdfkbpadhndlaaDoorTotals.lean).
  GIVEN WITH THE SEED: the statements are not yours to turn. If you find one false, say at which input.
  Laid BY PROGRAM, IN A SANDBOX (cutbox-rows.mjs): the forced cells as the released guide's own fill.sh prints them over the translation 68660e1be091429d… (all of the seat's roots in one cut). By AI agents, Wed Nov 11 2026. No macro, syntax, notation, axiom, sorry.
-/
import Derived.Test.YtjdfkbpadhndlaaDoorChecked
import GoSem.Claim
import GoSem.ClaimJoined
import GoSem.ClaimMapViews
import Derived.JoinedTies
import Derived.KernelRfl
namespace Go.Proofs.YtjdfkbpadhndlaaDoor
/- THE CELL 'sum', in the pinned program and in every row, IS THE sha256 OF THE DUMP (.gsa) THAT YtjdfkbpadhndlaaDoorProg.lean LOADS. Nothing in Lean hashes anything: it is a label: what it is worth is what the hold of that sum in a sandbox is worth. -/
noncomputable def Tryd.pinned : Pinned := { name := "ytjdfkbpadhndlaadoor", sum := "68660e1be091429d823bfcb0772d5643157b1179824f6ae49a06343270f9387c", checked := Tryd.checked }
namespace Rows
def none {H : Type} : Left H := { results := [], args := [] }

/- WHAT THE LISTED PACKAGE-LEVEL VARIABLES READ AS WHEN THE CALL BEGINS. Each datum BY PROGRAM (the guide's laid-datum.mjs) off the statement by which the dump's own 'gosem.cut.vars' lays the variable. In a bare row this is a premise. The card (YtjdfkbpadhndlaaDoorCards.lean) ties it to the program's text. -/
def laid_levee_num_quarters {H : Type} : DataW H := .agg [.lit (.int .u32 0), .lit (.int .u32 498536548), .lit (.int .u32 997073096), .lit (.int .u32 651767980), .lit (.int .u32 1994146192), .lit (.int .u32 1802195444), .lit (.int .u32 1303535960), .lit (.int .u32 1342533948), .lit (.int .u32 3988292384), .lit (.int .u32 4027552580), .lit (.int .u32 3604390888), .lit (.int .u32 3412177804), .lit (.int .u32 2607071920), .lit (.int .u32 2262029012), .lit (.int .u32 2685067896), .lit (.int .u32 3183342108)]

/-- 'leveelaw04.SuperBytes': WHATEVER THE INPUT: true; the input reads as it did. -/
def superBytesSpec : ChangeSpec := { name := "superBytes", fn := fun _ => fun
  | [d1, d2] => { results := [.lit (.bool true)], args := [d1, d2] }
  | _ => none }
def superBytesRow : OpenClaim := { program := "ytjdfkbpadhndlaadoor", sum := "68660e1be091429d823bfcb0772d5643157b1179824f6ae49a06343270f9387c", func := "levee/leveelaw04.SuperBytes", spec := "superBytes", named := ["levee/num.quarters"], apart := false, laid := [("levee/num.quarters", laid_levee_num_quarters)] }
def SuperBytesSaid : Prop := superBytesRow.holds Tryd.pinned (OpenSpec.ofChange superBytesSpec)

/-- ITS FALSE NEIGHBOUR: 'it returns false'. Refute it at one input. -/
def superBytesWrong : ChangeSpec := { name := "superBytes", fn := fun _ => fun
  | [d1, d2] => { results := [.lit (.bool false)], args := [d1, d2] }
  | _ => none }
def SuperBytesWrongFalsely : Prop := superBytesRow.holds Tryd.pinned (OpenSpec.ofChange superBytesWrong)

/-- 'leveelaw04.SuperChooses': WHATEVER THE INPUT: true; the input reads as it did. -/
def superChoosesSpec : ChangeSpec := { name := "superChooses", fn := fun _ => fun
  | [d1, d2, d3, d4, d5] => { results := [.lit (.bool true)], args := [d1, d2, d3, d4, d5] }
  | _ => none }
def superChoosesRow : OpenClaim := { program := "ytjdfkbpadhndlaadoor", sum := "68660e1be091429d823bfcb0772d5643157b1179824f6ae49a06343270f9387c", func := "levee/leveelaw04.SuperChooses", spec := "superChooses", named := ["levee/num.quarters"], apart := false, laid := [("levee/num.quarters", laid_levee_num_quarters)] }
def SuperChoosesSaid : Prop := superChoosesRow.holds Tryd.pinned (OpenSpec.ofChange superChoosesSpec)

/-- ITS FALSE NEIGHBOUR: 'it returns false'. Refute it at one input. -/
def superChoosesWrong : ChangeSpec := { name := "superChooses", fn := fun _ => fun
  | [d1, d2, d3, d4, d5] => { results := [.lit (.bool false)], args := [d1, d2, d3, d4, d5] }
  | _ => none }
def SuperChoosesWrongFalsely : Prop := superChoosesRow.holds Tryd.pinned (OpenSpec.ofChange superChoosesWrong)

/-- 'leveelaw04.SuperTurned': WHATEVER THE INPUT: true; the input reads as it did. -/
def superTurnedSpec : ChangeSpec := { name := "superTurned", fn := fun _ => fun
  | [d1, d2, d3] => { results := [.lit (.bool true)], args := [d1, d2, d3] }
  | _ => none }
def superTurnedRow : OpenClaim := { program := "ytjdfkbpadhndlaadoor", sum := "68660e1be091429d823bfcb0772d5643157b1179824f6ae49a06343270f9387c", func := "levee/leveelaw04.SuperTurned", spec := "superTurned", named := ["levee/num.quarters"], apart := false, laid := [("levee/num.quarters", laid_levee_num_quarters)] }
def SuperTurnedSaid : Prop := superTurnedRow.holds Tryd.pinned (OpenSpec.ofChange superTurnedSpec)

/-- ITS FALSE NEIGHBOUR: 'it returns false'. Refute it at one input. -/
def superTurnedWrong : ChangeSpec := { name := "superTurned", fn := fun _ => fun
  | [d1, d2, d3] => { results := [.lit (.bool false)], args := [d1, d2, d3] }
  | _ => none }
def SuperTurnedWrongFalsely : Prop := superTurnedRow.holds Tryd.pinned (OpenSpec.ofChange superTurnedWrong)

/-- 'leveelaw04.SuperNext': WHATEVER THE INPUT: true; the input reads as it did. -/
def superNextSpec : ChangeSpec := { name := "superNext", fn := fun _ => fun
  | [d1, d2, d3, d4] => { results := [.lit (.bool true)], args := [d1, d2, d3, d4] }
  | _ => none }
def superNextRow : OpenClaim := { program := "ytjdfkbpadhndlaadoor", sum := "68660e1be091429d823bfcb0772d5643157b1179824f6ae49a06343270f9387c", func := "levee/leveelaw04.SuperNext", spec := "superNext", named := ["levee/num.quarters"], apart := false, laid := [("levee/num.quarters", laid_levee_num_quarters)] }
def SuperNextSaid : Prop := superNextRow.holds Tryd.pinned (OpenSpec.ofChange superNextSpec)

/-- ITS FALSE NEIGHBOUR: 'it returns false'. Refute it at one input. -/
def superNextWrong : ChangeSpec := { name := "superNext", fn := fun _ => fun
  | [d1, d2, d3, d4] => { results := [.lit (.bool false)], args := [d1, d2, d3, d4] }
  | _ => none }
def SuperNextWrongFalsely : Prop := superNextRow.holds Tryd.pinned (OpenSpec.ofChange superNextWrong)

/- THE SECOND FORM. 'bulk': how many values and letters a reading holds, each counted each time it is reached (what is shared counts as often as it is met; a slice's spare places count too). A statement '..UptoSaid' is the law's where the arguments, and the package variables that the reading takes, are together of bulk at most 1048576: NARROWER than '..Said'. Prove '..Said' where nothing that the law and all that it calls make is longer than what came in: it says more and counts as full. Else prove '..UptoSaid'. A law counts once. -/
mutual
def uptoBulk {H : Type} : DataW H → Nat
  | .lit (.string bytes) => bytes.length + 1
  | .lit _ => 1
  | .nil => 1
  | .ptr d => uptoBulk d + 1
  | .slice elems spare => uptoBulkAll elems + uptoBulkAll spare + 1
  | .agg parts => uptoBulkAll parts + 1
  | .iface _ d => uptoBulk d + 1
  | .map entries => uptoBulkEntries entries + 1
  | .held _ => 1
def uptoBulkAll {H : Type} : List (DataW H) → Nat
  | [] => 0
  | d :: r => uptoBulk d + uptoBulkAll r
def uptoBulkEntries {H : Type} : List (Lit × DataW H) → Nat
  | [] => 0
  | x :: r => uptoBulkEntry x + uptoBulkEntries r
def uptoBulkEntry {H : Type} : Lit × DataW H → Nat
  | (.string bytes, d) => bytes.length + uptoBulk d + 1
  | (_, d) => uptoBulk d + 1
 end
def uptoSmall : (H : Type) → List (DataW H) → Bool := fun _ ds => decide (uptoBulkAll ds ≤ 1048576)
def OpenSpec.upto (s : _root_.Go.ChangeSpec) : _root_.Go.OpenSpec := { _root_.Go.OpenSpec.ofChange s with cond := some uptoSmall }

/-- 'leveelaw04.SuperBytes', WHERE WHAT IT READS IS OF BULK AT MOST 1048576: true; the input reads as it did. -/
def superBytesUptoRow : OpenClaim := { program := "ytjdfkbpadhndlaadoor", sum := "68660e1be091429d823bfcb0772d5643157b1179824f6ae49a06343270f9387c", func := "levee/leveelaw04.SuperBytes", spec := "superBytes", named := ["levee/num.quarters"], apart := false, laid := [("levee/num.quarters", laid_levee_num_quarters)], narrowed := true }
def SuperBytesUptoSaid : Prop := superBytesUptoRow.holds Tryd.pinned (OpenSpec.upto superBytesSpec)

/-- 'leveelaw04.SuperChooses', WHERE WHAT IT READS IS OF BULK AT MOST 1048576: true; the input reads as it did. -/
def superChoosesUptoRow : OpenClaim := { program := "ytjdfkbpadhndlaadoor", sum := "68660e1be091429d823bfcb0772d5643157b1179824f6ae49a06343270f9387c", func := "levee/leveelaw04.SuperChooses", spec := "superChooses", named := ["levee/num.quarters"], apart := false, laid := [("levee/num.quarters", laid_levee_num_quarters)], narrowed := true }
def SuperChoosesUptoSaid : Prop := superChoosesUptoRow.holds Tryd.pinned (OpenSpec.upto superChoosesSpec)

/-- 'leveelaw04.SuperTurned', WHERE WHAT IT READS IS OF BULK AT MOST 1048576: true; the input reads as it did. -/
def superTurnedUptoRow : OpenClaim := { program := "ytjdfkbpadhndlaadoor", sum := "68660e1be091429d823bfcb0772d5643157b1179824f6ae49a06343270f9387c", func := "levee/leveelaw04.SuperTurned", spec := "superTurned", named := ["levee/num.quarters"], apart := false, laid := [("levee/num.quarters", laid_levee_num_quarters)], narrowed := true }
def SuperTurnedUptoSaid : Prop := superTurnedUptoRow.holds Tryd.pinned (OpenSpec.upto superTurnedSpec)

/-- 'leveelaw04.SuperNext', WHERE WHAT IT READS IS OF BULK AT MOST 1048576: true; the input reads as it did. -/
def superNextUptoRow : OpenClaim := { program := "ytjdfkbpadhndlaadoor", sum := "68660e1be091429d823bfcb0772d5643157b1179824f6ae49a06343270f9387c", func := "levee/leveelaw04.SuperNext", spec := "superNext", named := ["levee/num.quarters"], apart := false, laid := [("levee/num.quarters", laid_levee_num_quarters)], narrowed := true }
def SuperNextUptoSaid : Prop := superNextUptoRow.holds Tryd.pinned (OpenSpec.upto superNextSpec)

end Rows
end Go.Proofs.YtjdfkbpadhndlaaDoor
