/-
  NARROWER THAN 'FOR EVERY INPUT', by the rows' own cells (each row's printed sentence says how): NumBytes: laid · NumParts: laid · NumBack: laid · NumLaid: laid · NumSums: laid.
  DERIVED. THE GIVEN ROWS OF THIS SEAT. 5 by the template 'for every input the law returns true; each argument reads behind the call as it read before'; 0 by the template 'total and deterministic' (their statements: YtmedfjodkeplfaaDoorTotals.lean).
  GIVEN WITH THE SEED: the statements are not yours to turn. If you find one false, say at which input.
  Laid BY PROGRAM, IN A SANDBOX (cutbox-rows.mjs): the forced cells as the released guide's own fill.sh prints them over the translation f57e5eb19347e648… (all of the seat's roots in one cut). By AI agents, Wed Nov 11 2026. No macro, syntax, notation, axiom, sorry.
-/
import Derived.Test.YtmedfjodkeplfaaDoorChecked
import GoSem.Claim
import GoSem.ClaimJoined
import GoSem.ClaimMapViews
import Derived.JoinedTies
import Derived.KernelRfl
namespace Go.Proofs.YtmedfjodkeplfaaDoor
/- THE CELL 'sum', in the pinned program and in every row, IS THE sha256 OF THE DUMP (.gsa) THAT YtmedfjodkeplfaaDoorProg.lean LOADS. Nothing in Lean hashes anything: it is a label: what it is worth is what the hold of that sum in a sandbox is worth. -/
noncomputable def Tryd.pinned : Pinned := { name := "ytmedfjodkeplfaadoor", sum := "f57e5eb19347e648639091aa486c0445502875c64f16833fc576f54121573a4c", checked := Tryd.checked }
namespace Rows
def none {H : Type} : Left H := { results := [], args := [] }

/- WHAT THE LISTED PACKAGE-LEVEL VARIABLES READ AS WHEN THE CALL BEGINS. Each datum BY PROGRAM (the guide's laid-datum.mjs) off the statement by which the dump's own 'gosem.cut.vars' lays the variable. In a bare row this is a premise. The card (YtmedfjodkeplfaaDoorCards.lean) ties it to the program's text. -/
def laid_levee_num_quarters {H : Type} : DataW H := .agg [.lit (.int .u32 0), .lit (.int .u32 498536548), .lit (.int .u32 997073096), .lit (.int .u32 651767980), .lit (.int .u32 1994146192), .lit (.int .u32 1802195444), .lit (.int .u32 1303535960), .lit (.int .u32 1342533948), .lit (.int .u32 3988292384), .lit (.int .u32 4027552580), .lit (.int .u32 3604390888), .lit (.int .u32 3412177804), .lit (.int .u32 2607071920), .lit (.int .u32 2262029012), .lit (.int .u32 2685067896), .lit (.int .u32 3183342108)]

/-- 'leveelaw01.NumBytes': WHATEVER THE INPUT: true; the input reads as it did. -/
def numBytesSpec : ChangeSpec := { name := "numBytes", fn := fun _ => fun
  | [d1, d2, d3] => { results := [.lit (.bool true)], args := [d1, d2, d3] }
  | _ => none }
def numBytesRow : OpenClaim := { program := "ytmedfjodkeplfaadoor", sum := "f57e5eb19347e648639091aa486c0445502875c64f16833fc576f54121573a4c", func := "levee/leveelaw01.NumBytes", spec := "numBytes", named := ["levee/num.quarters"], apart := false, laid := [("levee/num.quarters", laid_levee_num_quarters)] }
def NumBytesSaid : Prop := numBytesRow.holds Tryd.pinned (OpenSpec.ofChange numBytesSpec)

/-- ITS FALSE NEIGHBOUR: 'it returns false'. Refute it at one input. -/
def numBytesWrong : ChangeSpec := { name := "numBytes", fn := fun _ => fun
  | [d1, d2, d3] => { results := [.lit (.bool false)], args := [d1, d2, d3] }
  | _ => none }
def NumBytesWrongFalsely : Prop := numBytesRow.holds Tryd.pinned (OpenSpec.ofChange numBytesWrong)

/-- 'leveelaw01.NumParts': WHATEVER THE INPUT: true; the input reads as it did. -/
def numPartsSpec : ChangeSpec := { name := "numParts", fn := fun _ => fun
  | [d1, d2, d3, d4] => { results := [.lit (.bool true)], args := [d1, d2, d3, d4] }
  | _ => none }
def numPartsRow : OpenClaim := { program := "ytmedfjodkeplfaadoor", sum := "f57e5eb19347e648639091aa486c0445502875c64f16833fc576f54121573a4c", func := "levee/leveelaw01.NumParts", spec := "numParts", named := ["levee/num.quarters"], apart := false, laid := [("levee/num.quarters", laid_levee_num_quarters)] }
def NumPartsSaid : Prop := numPartsRow.holds Tryd.pinned (OpenSpec.ofChange numPartsSpec)

/-- ITS FALSE NEIGHBOUR: 'it returns false'. Refute it at one input. -/
def numPartsWrong : ChangeSpec := { name := "numParts", fn := fun _ => fun
  | [d1, d2, d3, d4] => { results := [.lit (.bool false)], args := [d1, d2, d3, d4] }
  | _ => none }
def NumPartsWrongFalsely : Prop := numPartsRow.holds Tryd.pinned (OpenSpec.ofChange numPartsWrong)

/-- 'leveelaw01.NumBack': WHATEVER THE INPUT: true; the input reads as it did. -/
def numBackSpec : ChangeSpec := { name := "numBack", fn := fun _ => fun
  | [d] => { results := [.lit (.bool true)], args := [d] }
  | _ => none }
def numBackRow : OpenClaim := { program := "ytmedfjodkeplfaadoor", sum := "f57e5eb19347e648639091aa486c0445502875c64f16833fc576f54121573a4c", func := "levee/leveelaw01.NumBack", spec := "numBack", named := ["levee/num.quarters"], apart := false, laid := [("levee/num.quarters", laid_levee_num_quarters)] }
def NumBackSaid : Prop := numBackRow.holds Tryd.pinned (OpenSpec.ofChange numBackSpec)

/-- ITS FALSE NEIGHBOUR: 'it returns false'. Refute it at one input. -/
def numBackWrong : ChangeSpec := { name := "numBack", fn := fun _ => fun
  | [d] => { results := [.lit (.bool false)], args := [d] }
  | _ => none }
def NumBackWrongFalsely : Prop := numBackRow.holds Tryd.pinned (OpenSpec.ofChange numBackWrong)

/-- 'leveelaw01.NumLaid': WHATEVER THE INPUT: true; the input reads as it did. -/
def numLaidSpec : ChangeSpec := { name := "numLaid", fn := fun _ => fun
  | [d1, d2, d3] => { results := [.lit (.bool true)], args := [d1, d2, d3] }
  | _ => none }
def numLaidRow : OpenClaim := { program := "ytmedfjodkeplfaadoor", sum := "f57e5eb19347e648639091aa486c0445502875c64f16833fc576f54121573a4c", func := "levee/leveelaw01.NumLaid", spec := "numLaid", named := ["levee/num.quarters"], apart := false, laid := [("levee/num.quarters", laid_levee_num_quarters)] }
def NumLaidSaid : Prop := numLaidRow.holds Tryd.pinned (OpenSpec.ofChange numLaidSpec)

/-- ITS FALSE NEIGHBOUR: 'it returns false'. Refute it at one input. -/
def numLaidWrong : ChangeSpec := { name := "numLaid", fn := fun _ => fun
  | [d1, d2, d3] => { results := [.lit (.bool false)], args := [d1, d2, d3] }
  | _ => none }
def NumLaidWrongFalsely : Prop := numLaidRow.holds Tryd.pinned (OpenSpec.ofChange numLaidWrong)

/-- 'leveelaw01.NumSums': WHATEVER THE INPUT: true; the input reads as it did. -/
def numSumsSpec : ChangeSpec := { name := "numSums", fn := fun _ => fun
  | [d1, d2] => { results := [.lit (.bool true)], args := [d1, d2] }
  | _ => none }
def numSumsRow : OpenClaim := { program := "ytmedfjodkeplfaadoor", sum := "f57e5eb19347e648639091aa486c0445502875c64f16833fc576f54121573a4c", func := "levee/leveelaw01.NumSums", spec := "numSums", named := ["levee/num.quarters"], apart := false, laid := [("levee/num.quarters", laid_levee_num_quarters)] }
def NumSumsSaid : Prop := numSumsRow.holds Tryd.pinned (OpenSpec.ofChange numSumsSpec)

/-- ITS FALSE NEIGHBOUR: 'it returns false'. Refute it at one input. -/
def numSumsWrong : ChangeSpec := { name := "numSums", fn := fun _ => fun
  | [d1, d2] => { results := [.lit (.bool false)], args := [d1, d2] }
  | _ => none }
def NumSumsWrongFalsely : Prop := numSumsRow.holds Tryd.pinned (OpenSpec.ofChange numSumsWrong)

/- THE SECOND FORM. 'bulk': how many values and letters a reading holds, each counted each time it is reached (what is shared counts as often as it is met; a slice's spare places count too). A statement '..UptoSaid' is the law's where the arguments, and the package variables that the reading takes, are together of bulk at most 1048576: NARROWER than '..Said'. Prove '..Said' where nothing that the law and all that it calls make is longer than what came in: it says more and counts as full. Else prove '..UptoSaid'. A law counts once. -/
mutual
def uptoBulk {H : Type} : DataW H → Nat
  | .lit (.string bytes) => bytes.length + 1
  | .lit _ => 1
  | .nil => 1
  | .ptr d => uptoBulk d + 1
  | .slice elems spare => uptoBulkAll elems + uptoBulkAll spare + 1
  | .agg parts => uptoBulkAll parts + 1
  | .iface _ d => uptoBulk d + 1
  | .map entries => uptoBulkEntries entries + 1
  | .held _ => 1
def uptoBulkAll {H : Type} : List (DataW H) → Nat
  | [] => 0
  | d :: r => uptoBulk d + uptoBulkAll r
def uptoBulkEntries {H : Type} : List (Lit × DataW H) → Nat
  | [] => 0
  | x :: r => uptoBulkEntry x + uptoBulkEntries r
def uptoBulkEntry {H : Type} : Lit × DataW H → Nat
  | (.string bytes, d) => bytes.length + uptoBulk d + 1
  | (_, d) => uptoBulk d + 1
 end
def uptoSmall : (H : Type) → List (DataW H) → Bool := fun _ ds => decide (uptoBulkAll ds ≤ 1048576)
def OpenSpec.upto (s : _root_.Go.ChangeSpec) : _root_.Go.OpenSpec := { _root_.Go.OpenSpec.ofChange s with cond := some uptoSmall }

/-- 'leveelaw01.NumBytes', WHERE WHAT IT READS IS OF BULK AT MOST 1048576: true; the input reads as it did. -/
def numBytesUptoRow : OpenClaim := { program := "ytmedfjodkeplfaadoor", sum := "f57e5eb19347e648639091aa486c0445502875c64f16833fc576f54121573a4c", func := "levee/leveelaw01.NumBytes", spec := "numBytes", named := ["levee/num.quarters"], apart := false, laid := [("levee/num.quarters", laid_levee_num_quarters)], narrowed := true }
def NumBytesUptoSaid : Prop := numBytesUptoRow.holds Tryd.pinned (OpenSpec.upto numBytesSpec)

/-- 'leveelaw01.NumParts', WHERE WHAT IT READS IS OF BULK AT MOST 1048576: true; the input reads as it did. -/
def numPartsUptoRow : OpenClaim := { program := "ytmedfjodkeplfaadoor", sum := "f57e5eb19347e648639091aa486c0445502875c64f16833fc576f54121573a4c", func := "levee/leveelaw01.NumParts", spec := "numParts", named := ["levee/num.quarters"], apart := false, laid := [("levee/num.quarters", laid_levee_num_quarters)], narrowed := true }
def NumPartsUptoSaid : Prop := numPartsUptoRow.holds Tryd.pinned (OpenSpec.upto numPartsSpec)

/-- 'leveelaw01.NumBack', WHERE WHAT IT READS IS OF BULK AT MOST 1048576: true; the input reads as it did. -/
def numBackUptoRow : OpenClaim := { program := "ytmedfjodkeplfaadoor", sum := "f57e5eb19347e648639091aa486c0445502875c64f16833fc576f54121573a4c", func := "levee/leveelaw01.NumBack", spec := "numBack", named := ["levee/num.quarters"], apart := false, laid := [("levee/num.quarters", laid_levee_num_quarters)], narrowed := true }
def NumBackUptoSaid : Prop := numBackUptoRow.holds Tryd.pinned (OpenSpec.upto numBackSpec)

/-- 'leveelaw01.NumLaid', WHERE WHAT IT READS IS OF BULK AT MOST 1048576: true; the input reads as it did. -/
def numLaidUptoRow : OpenClaim := { program := "ytmedfjodkeplfaadoor", sum := "f57e5eb19347e648639091aa486c0445502875c64f16833fc576f54121573a4c", func := "levee/leveelaw01.NumLaid", spec := "numLaid", named := ["levee/num.quarters"], apart := false, laid := [("levee/num.quarters", laid_levee_num_quarters)], narrowed := true }
def NumLaidUptoSaid : Prop := numLaidUptoRow.holds Tryd.pinned (OpenSpec.upto numLaidSpec)

/-- 'leveelaw01.NumSums', WHERE WHAT IT READS IS OF BULK AT MOST 1048576: true; the input reads as it did. -/
def numSumsUptoRow : OpenClaim := { program := "ytmedfjodkeplfaadoor", sum := "f57e5eb19347e648639091aa486c0445502875c64f16833fc576f54121573a4c", func := "levee/leveelaw01.NumSums", spec := "numSums", named := ["levee/num.quarters"], apart := false, laid := [("levee/num.quarters", laid_levee_num_quarters)], narrowed := true }
def NumSumsUptoSaid : Prop := numSumsUptoRow.holds Tryd.pinned (OpenSpec.upto numSumsSpec)

end Rows
end Go.Proofs.YtmedfjodkeplfaaDoor
