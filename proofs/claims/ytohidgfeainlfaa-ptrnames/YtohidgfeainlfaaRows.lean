/-
  No cell of these rows narrows 'for every input' (looked for: loops, veiled, ifaces, maps, wideKeys, modest, calm, conditions, laid).
  DERIVED. THE GIVEN ROWS OF THIS SEAT. 3 by the template 'for every input the law returns true; each argument reads behind the call as it read before'; 0 by the template 'total and deterministic' (their statements: YtohidgfeainlfaaTotals.lean).
  GIVEN WITH THE SEED: the statements are not yours to turn. If you find one false, say at which input.
  Laid BY PROGRAM, IN A SANDBOX (cutbox-rows.mjs): the forced cells as the released guide's own fill.sh prints them over the translation 639a30400a8c8a12… (all of the seat's roots in one cut). By AI agents, Wed Nov 11 2026. No macro, syntax, notation, axiom, sorry.
-/
import Derived.Test.YtohidgfeainlfaaChecked
import GoSem.Claim
import GoSem.ClaimJoined
import GoSem.ClaimMapViews
import Derived.JoinedTies
import Derived.KernelRfl
namespace Go.Proofs.Ytohidgfeainlfaa
/- THE CELL 'sum', in the pinned program and in every row, IS THE sha256 OF THE DUMP (.gsa) THAT YtohidgfeainlfaaProg.lean LOADS. Nothing in Lean hashes anything: it is a label: what it is worth is what the hold of that sum in a sandbox is worth. -/
noncomputable def Try.pinned : Pinned := { name := "ytohidgfeainlfaa", sum := "639a30400a8c8a120784c6e2cb9943343597e00b3db65792aa5b64d37f717822", checked := Try.checked }
namespace Rows
def none {H : Type} : Left H := { results := [], args := [] }

/-- 'leveelaw09.PtrWays': WHATEVER THE INPUT: true; the input reads as it did. -/
def ptrWaysSpec : ChangeSpec := { name := "ptrWays", fn := fun _ => fun
  | [d1, d2, d3, d4] => { results := [.lit (.bool true)], args := [d1, d2, d3, d4] }
  | _ => none }
def ptrWaysRow : OpenClaim := { program := "ytohidgfeainlfaa", sum := "639a30400a8c8a120784c6e2cb9943343597e00b3db65792aa5b64d37f717822", func := "levee/leveelaw09.PtrWays", spec := "ptrWays", apart := false }
def PtrWaysSaid : Prop := ptrWaysRow.holds Try.pinned (OpenSpec.ofChange ptrWaysSpec)

/-- ITS FALSE NEIGHBOUR: 'it returns false'. Refute it at one input. -/
def ptrWaysWrong : ChangeSpec := { name := "ptrWays", fn := fun _ => fun
  | [d1, d2, d3, d4] => { results := [.lit (.bool false)], args := [d1, d2, d3, d4] }
  | _ => none }
def PtrWaysWrongFalsely : Prop := ptrWaysRow.holds Try.pinned (OpenSpec.ofChange ptrWaysWrong)

/-- 'leveelaw09.PtrNames': WHATEVER THE INPUT: true; the input reads as it did. -/
def ptrNamesSpec : ChangeSpec := { name := "ptrNames", fn := fun _ => fun
  | [d1, d2, d3] => { results := [.lit (.bool true)], args := [d1, d2, d3] }
  | _ => none }
def ptrNamesRow : OpenClaim := { program := "ytohidgfeainlfaa", sum := "639a30400a8c8a120784c6e2cb9943343597e00b3db65792aa5b64d37f717822", func := "levee/leveelaw09.PtrNames", spec := "ptrNames", apart := false }
def PtrNamesSaid : Prop := ptrNamesRow.holds Try.pinned (OpenSpec.ofChange ptrNamesSpec)

/-- ITS FALSE NEIGHBOUR: 'it returns false'. Refute it at one input. -/
def ptrNamesWrong : ChangeSpec := { name := "ptrNames", fn := fun _ => fun
  | [d1, d2, d3] => { results := [.lit (.bool false)], args := [d1, d2, d3] }
  | _ => none }
def PtrNamesWrongFalsely : Prop := ptrNamesRow.holds Try.pinned (OpenSpec.ofChange ptrNamesWrong)

/-- 'leveelaw09.PtrBack': WHATEVER THE INPUT: true; the input reads as it did. -/
def ptrBackSpec : ChangeSpec := { name := "ptrBack", fn := fun _ => fun
  | [d1, d2] => { results := [.lit (.bool true)], args := [d1, d2] }
  | _ => none }
def ptrBackRow : OpenClaim := { program := "ytohidgfeainlfaa", sum := "639a30400a8c8a120784c6e2cb9943343597e00b3db65792aa5b64d37f717822", func := "levee/leveelaw09.PtrBack", spec := "ptrBack", apart := false }
def PtrBackSaid : Prop := ptrBackRow.holds Try.pinned (OpenSpec.ofChange ptrBackSpec)

/-- ITS FALSE NEIGHBOUR: 'it returns false'. Refute it at one input. -/
def ptrBackWrong : ChangeSpec := { name := "ptrBack", fn := fun _ => fun
  | [d1, d2] => { results := [.lit (.bool false)], args := [d1, d2] }
  | _ => none }
def PtrBackWrongFalsely : Prop := ptrBackRow.holds Try.pinned (OpenSpec.ofChange ptrBackWrong)

/- THE SECOND FORM. 'bulk': how many values and letters a reading holds, each counted each time it is reached (what is shared counts as often as it is met; a slice's spare places count too). A statement '..UptoSaid' is the law's where the arguments, and the package variables that the reading takes, are together of bulk at most 1048576: NARROWER than '..Said'. Prove '..Said' where nothing that the law and all that it calls make is longer than what came in: it says more and counts as full. Else prove '..UptoSaid'. A law counts once. -/
mutual
def uptoBulk {H : Type} : DataW H → Nat
  | .lit (.string bytes) => bytes.length + 1
  | .lit _ => 1
  | .nil => 1
  | .ptr d => uptoBulk d + 1
  | .slice elems spare => uptoBulkAll elems + uptoBulkAll spare + 1
  | .agg parts => uptoBulkAll parts + 1
  | .iface _ d => uptoBulk d + 1
  | .map entries => uptoBulkEntries entries + 1
  | .held _ => 1
def uptoBulkAll {H : Type} : List (DataW H) → Nat
  | [] => 0
  | d :: r => uptoBulk d + uptoBulkAll r
def uptoBulkEntries {H : Type} : List (Lit × DataW H) → Nat
  | [] => 0
  | x :: r => uptoBulkEntry x + uptoBulkEntries r
def uptoBulkEntry {H : Type} : Lit × DataW H → Nat
  | (.string bytes, d) => bytes.length + uptoBulk d + 1
  | (_, d) => uptoBulk d + 1
 end
def uptoSmall : (H : Type) → List (DataW H) → Bool := fun _ ds => decide (uptoBulkAll ds ≤ 1048576)
def OpenSpec.upto (s : _root_.Go.ChangeSpec) : _root_.Go.OpenSpec := { _root_.Go.OpenSpec.ofChange s with cond := some uptoSmall }

/-- 'leveelaw09.PtrWays', WHERE WHAT IT READS IS OF BULK AT MOST 1048576: true; the input reads as it did. -/
def ptrWaysUptoRow : OpenClaim := { program := "ytohidgfeainlfaa", sum := "639a30400a8c8a120784c6e2cb9943343597e00b3db65792aa5b64d37f717822", func := "levee/leveelaw09.PtrWays", spec := "ptrWays", apart := false, narrowed := true }
def PtrWaysUptoSaid : Prop := ptrWaysUptoRow.holds Try.pinned (OpenSpec.upto ptrWaysSpec)

/-- 'leveelaw09.PtrNames', WHERE WHAT IT READS IS OF BULK AT MOST 1048576: true; the input reads as it did. -/
def ptrNamesUptoRow : OpenClaim := { program := "ytohidgfeainlfaa", sum := "639a30400a8c8a120784c6e2cb9943343597e00b3db65792aa5b64d37f717822", func := "levee/leveelaw09.PtrNames", spec := "ptrNames", apart := false, narrowed := true }
def PtrNamesUptoSaid : Prop := ptrNamesUptoRow.holds Try.pinned (OpenSpec.upto ptrNamesSpec)

/-- 'leveelaw09.PtrBack', WHERE WHAT IT READS IS OF BULK AT MOST 1048576: true; the input reads as it did. -/
def ptrBackUptoRow : OpenClaim := { program := "ytohidgfeainlfaa", sum := "639a30400a8c8a120784c6e2cb9943343597e00b3db65792aa5b64d37f717822", func := "levee/leveelaw09.PtrBack", spec := "ptrBack", apart := false, narrowed := true }
def PtrBackUptoSaid : Prop := ptrBackUptoRow.holds Try.pinned (OpenSpec.upto ptrBackSpec)

end Rows
end Go.Proofs.Ytohidgfeainlfaa
