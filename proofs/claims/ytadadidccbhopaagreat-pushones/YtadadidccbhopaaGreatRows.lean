/-
  No cell of these rows narrows 'for every input' (looked for: loops, veiled, ifaces, maps, wideKeys, modest, calm, conditions, laid).
  DERIVED. THE GIVEN ROWS OF THIS SEAT. 6 by the template 'for every input the law returns true; each argument reads behind the call as it read before'; 0 by the template 'total and deterministic' (their statements: YtadadidccbhopaaGreatTotals.lean).
  GIVEN WITH THE SEED: the statements are not yours to turn. If you find one false, say at which input.
  Laid BY PROGRAM, IN A SANDBOX (cutbox-rows.mjs): the forced cells as the released guide's own fill.sh prints them over the translation f581ae8af1edc8db… (all of the seat's roots in one cut). By AI agents, Wed Nov 11 2026. No macro, syntax, notation, axiom, sorry.
-/
import Derived.Test.YtadadidccbhopaaGreatChecked
import GoSem.Claim
import GoSem.ClaimJoined
import GoSem.ClaimMapViews
import Derived.JoinedTies
import Derived.KernelRfl
namespace Go.Proofs.YtadadidccbhopaaGreat
/- THE CELL 'sum', in the pinned program and in every row, IS THE sha256 OF THE DUMP (.gsa) THAT YtadadidccbhopaaGreatProg.lean LOADS. Nothing in Lean hashes anything: it is a label: what it is worth is what the hold of that sum in a sandbox is worth. -/
noncomputable def Tryz.pinned : Pinned := { name := "ytadadidccbhopaagreat", sum := "f581ae8af1edc8db4b3de19bd2bc318a3ca9260486c6204b0b242405acda9f57", checked := Tryz.checked }
namespace Rows
def none {H : Type} : Left H := { results := [], args := [] }

/-- 'leveelaw11.PatchPlays': WHATEVER THE INPUT: true; the input reads as it did. -/
def patchPlaysSpec : ChangeSpec := { name := "patchPlays", fn := fun _ => fun
  | [d] => { results := [.lit (.bool true)], args := [d] }
  | _ => none }
def patchPlaysRow : OpenClaim := { program := "ytadadidccbhopaagreat", sum := "f581ae8af1edc8db4b3de19bd2bc318a3ca9260486c6204b0b242405acda9f57", func := "levee/leveelaw11.PatchPlays", spec := "patchPlays", unfollowed := true, recurses := true, apart := false }
def PatchPlaysSaid : Prop := patchPlaysRow.holds Tryz.pinned (OpenSpec.ofChange patchPlaysSpec)

/-- ITS FALSE NEIGHBOUR: 'it returns false'. Refute it at one input. -/
def patchPlaysWrong : ChangeSpec := { name := "patchPlays", fn := fun _ => fun
  | [d] => { results := [.lit (.bool false)], args := [d] }
  | _ => none }
def PatchPlaysWrongFalsely : Prop := patchPlaysRow.holds Tryz.pinned (OpenSpec.ofChange patchPlaysWrong)

/-- 'leveelaw11.PatchOrder': WHATEVER THE INPUT: true; the input reads as it did. -/
def patchOrderSpec : ChangeSpec := { name := "patchOrder", fn := fun _ => fun
  | [d1, d2] => { results := [.lit (.bool true)], args := [d1, d2] }
  | _ => none }
def patchOrderRow : OpenClaim := { program := "ytadadidccbhopaagreat", sum := "f581ae8af1edc8db4b3de19bd2bc318a3ca9260486c6204b0b242405acda9f57", func := "levee/leveelaw11.PatchOrder", spec := "patchOrder", unfollowed := true, recurses := true, apart := false }
def PatchOrderSaid : Prop := patchOrderRow.holds Tryz.pinned (OpenSpec.ofChange patchOrderSpec)

/-- ITS FALSE NEIGHBOUR: 'it returns false'. Refute it at one input. -/
def patchOrderWrong : ChangeSpec := { name := "patchOrder", fn := fun _ => fun
  | [d1, d2] => { results := [.lit (.bool false)], args := [d1, d2] }
  | _ => none }
def PatchOrderWrongFalsely : Prop := patchOrderRow.holds Tryz.pinned (OpenSpec.ofChange patchOrderWrong)

/-- 'leveelaw11.PatchGoes': WHATEVER THE INPUT: true; the input reads as it did. -/
def patchGoesSpec : ChangeSpec := { name := "patchGoes", fn := fun _ => fun
  | [d] => { results := [.lit (.bool true)], args := [d] }
  | _ => none }
def patchGoesRow : OpenClaim := { program := "ytadadidccbhopaagreat", sum := "f581ae8af1edc8db4b3de19bd2bc318a3ca9260486c6204b0b242405acda9f57", func := "levee/leveelaw11.PatchGoes", spec := "patchGoes", unfollowed := true, recurses := true, apart := false }
def PatchGoesSaid : Prop := patchGoesRow.holds Tryz.pinned (OpenSpec.ofChange patchGoesSpec)

/-- ITS FALSE NEIGHBOUR: 'it returns false'. Refute it at one input. -/
def patchGoesWrong : ChangeSpec := { name := "patchGoes", fn := fun _ => fun
  | [d] => { results := [.lit (.bool false)], args := [d] }
  | _ => none }
def PatchGoesWrongFalsely : Prop := patchGoesRow.holds Tryz.pinned (OpenSpec.ofChange patchGoesWrong)

/-- 'leveelaw12.PushOnes': WHATEVER THE INPUT: true; the input reads as it did. -/
def pushOnesSpec : ChangeSpec := { name := "pushOnes", fn := fun _ => fun
  | [d1, d2, d3, d4] => { results := [.lit (.bool true)], args := [d1, d2, d3, d4] }
  | _ => none }
def pushOnesRow : OpenClaim := { program := "ytadadidccbhopaagreat", sum := "f581ae8af1edc8db4b3de19bd2bc318a3ca9260486c6204b0b242405acda9f57", func := "levee/leveelaw12.PushOnes", spec := "pushOnes", unfollowed := true, recurses := true, apart := false }
def PushOnesSaid : Prop := pushOnesRow.holds Tryz.pinned (OpenSpec.ofChange pushOnesSpec)

/-- ITS FALSE NEIGHBOUR: 'it returns false'. Refute it at one input. -/
def pushOnesWrong : ChangeSpec := { name := "pushOnes", fn := fun _ => fun
  | [d1, d2, d3, d4] => { results := [.lit (.bool false)], args := [d1, d2, d3, d4] }
  | _ => none }
def PushOnesWrongFalsely : Prop := pushOnesRow.holds Tryz.pinned (OpenSpec.ofChange pushOnesWrong)

/-- 'leveelaw12.PushSafe': WHATEVER THE INPUT: true; the input reads as it did. -/
def pushSafeSpec : ChangeSpec := { name := "pushSafe", fn := fun _ => fun
  | [d1, d2] => { results := [.lit (.bool true)], args := [d1, d2] }
  | _ => none }
def pushSafeRow : OpenClaim := { program := "ytadadidccbhopaagreat", sum := "f581ae8af1edc8db4b3de19bd2bc318a3ca9260486c6204b0b242405acda9f57", func := "levee/leveelaw12.PushSafe", spec := "pushSafe", unfollowed := true, recurses := true, apart := false }
def PushSafeSaid : Prop := pushSafeRow.holds Tryz.pinned (OpenSpec.ofChange pushSafeSpec)

/-- ITS FALSE NEIGHBOUR: 'it returns false'. Refute it at one input. -/
def pushSafeWrong : ChangeSpec := { name := "pushSafe", fn := fun _ => fun
  | [d1, d2] => { results := [.lit (.bool false)], args := [d1, d2] }
  | _ => none }
def PushSafeWrongFalsely : Prop := pushSafeRow.holds Tryz.pinned (OpenSpec.ofChange pushSafeWrong)

/-- 'leveelaw12.PushWork': WHATEVER THE INPUT: true; the input reads as it did. -/
def pushWorkSpec : ChangeSpec := { name := "pushWork", fn := fun _ => fun
  | [d1, d2] => { results := [.lit (.bool true)], args := [d1, d2] }
  | _ => none }
def pushWorkRow : OpenClaim := { program := "ytadadidccbhopaagreat", sum := "f581ae8af1edc8db4b3de19bd2bc318a3ca9260486c6204b0b242405acda9f57", func := "levee/leveelaw12.PushWork", spec := "pushWork", unfollowed := true, recurses := true, apart := false }
def PushWorkSaid : Prop := pushWorkRow.holds Tryz.pinned (OpenSpec.ofChange pushWorkSpec)

/-- ITS FALSE NEIGHBOUR: 'it returns false'. Refute it at one input. -/
def pushWorkWrong : ChangeSpec := { name := "pushWork", fn := fun _ => fun
  | [d1, d2] => { results := [.lit (.bool false)], args := [d1, d2] }
  | _ => none }
def PushWorkWrongFalsely : Prop := pushWorkRow.holds Tryz.pinned (OpenSpec.ofChange pushWorkWrong)

/- THE SECOND FORM. 'bulk': how many values and letters a reading holds, each counted each time it is reached (what is shared counts as often as it is met; a slice's spare places count too). A statement '..UptoSaid' is the law's where the arguments, and the package variables that the reading takes, are together of bulk at most 1048576: NARROWER than '..Said'. Prove '..Said' where nothing that the law and all that it calls make is longer than what came in: it says more and counts as full. Else prove '..UptoSaid'. A law counts once. -/
mutual
def uptoBulk {H : Type} : DataW H → Nat
  | .lit (.string bytes) => bytes.length + 1
  | .lit _ => 1
  | .nil => 1
  | .ptr d => uptoBulk d + 1
  | .slice elems spare => uptoBulkAll elems + uptoBulkAll spare + 1
  | .agg parts => uptoBulkAll parts + 1
  | .iface _ d => uptoBulk d + 1
  | .map entries => uptoBulkEntries entries + 1
  | .held _ => 1
def uptoBulkAll {H : Type} : List (DataW H) → Nat
  | [] => 0
  | d :: r => uptoBulk d + uptoBulkAll r
def uptoBulkEntries {H : Type} : List (Lit × DataW H) → Nat
  | [] => 0
  | x :: r => uptoBulkEntry x + uptoBulkEntries r
def uptoBulkEntry {H : Type} : Lit × DataW H → Nat
  | (.string bytes, d) => bytes.length + uptoBulk d + 1
  | (_, d) => uptoBulk d + 1
 end
def uptoSmall : (H : Type) → List (DataW H) → Bool := fun _ ds => decide (uptoBulkAll ds ≤ 1048576)
def OpenSpec.upto (s : _root_.Go.ChangeSpec) : _root_.Go.OpenSpec := { _root_.Go.OpenSpec.ofChange s with cond := some uptoSmall }

/-- 'leveelaw11.PatchPlays', WHERE WHAT IT READS IS OF BULK AT MOST 1048576: true; the input reads as it did. -/
def patchPlaysUptoRow : OpenClaim := { program := "ytadadidccbhopaagreat", sum := "f581ae8af1edc8db4b3de19bd2bc318a3ca9260486c6204b0b242405acda9f57", func := "levee/leveelaw11.PatchPlays", spec := "patchPlays", unfollowed := true, recurses := true, apart := false, narrowed := true }
def PatchPlaysUptoSaid : Prop := patchPlaysUptoRow.holds Tryz.pinned (OpenSpec.upto patchPlaysSpec)

/-- 'leveelaw11.PatchOrder', WHERE WHAT IT READS IS OF BULK AT MOST 1048576: true; the input reads as it did. -/
def patchOrderUptoRow : OpenClaim := { program := "ytadadidccbhopaagreat", sum := "f581ae8af1edc8db4b3de19bd2bc318a3ca9260486c6204b0b242405acda9f57", func := "levee/leveelaw11.PatchOrder", spec := "patchOrder", unfollowed := true, recurses := true, apart := false, narrowed := true }
def PatchOrderUptoSaid : Prop := patchOrderUptoRow.holds Tryz.pinned (OpenSpec.upto patchOrderSpec)

/-- 'leveelaw11.PatchGoes', WHERE WHAT IT READS IS OF BULK AT MOST 1048576: true; the input reads as it did. -/
def patchGoesUptoRow : OpenClaim := { program := "ytadadidccbhopaagreat", sum := "f581ae8af1edc8db4b3de19bd2bc318a3ca9260486c6204b0b242405acda9f57", func := "levee/leveelaw11.PatchGoes", spec := "patchGoes", unfollowed := true, recurses := true, apart := false, narrowed := true }
def PatchGoesUptoSaid : Prop := patchGoesUptoRow.holds Tryz.pinned (OpenSpec.upto patchGoesSpec)

/-- 'leveelaw12.PushOnes', WHERE WHAT IT READS IS OF BULK AT MOST 1048576: true; the input reads as it did. -/
def pushOnesUptoRow : OpenClaim := { program := "ytadadidccbhopaagreat", sum := "f581ae8af1edc8db4b3de19bd2bc318a3ca9260486c6204b0b242405acda9f57", func := "levee/leveelaw12.PushOnes", spec := "pushOnes", unfollowed := true, recurses := true, apart := false, narrowed := true }
def PushOnesUptoSaid : Prop := pushOnesUptoRow.holds Tryz.pinned (OpenSpec.upto pushOnesSpec)

/-- 'leveelaw12.PushSafe', WHERE WHAT IT READS IS OF BULK AT MOST 1048576: true; the input reads as it did. -/
def pushSafeUptoRow : OpenClaim := { program := "ytadadidccbhopaagreat", sum := "f581ae8af1edc8db4b3de19bd2bc318a3ca9260486c6204b0b242405acda9f57", func := "levee/leveelaw12.PushSafe", spec := "pushSafe", unfollowed := true, recurses := true, apart := false, narrowed := true }
def PushSafeUptoSaid : Prop := pushSafeUptoRow.holds Tryz.pinned (OpenSpec.upto pushSafeSpec)

/-- 'leveelaw12.PushWork', WHERE WHAT IT READS IS OF BULK AT MOST 1048576: true; the input reads as it did. -/
def pushWorkUptoRow : OpenClaim := { program := "ytadadidccbhopaagreat", sum := "f581ae8af1edc8db4b3de19bd2bc318a3ca9260486c6204b0b242405acda9f57", func := "levee/leveelaw12.PushWork", spec := "pushWork", unfollowed := true, recurses := true, apart := false, narrowed := true }
def PushWorkUptoSaid : Prop := pushWorkUptoRow.holds Tryz.pinned (OpenSpec.upto pushWorkSpec)

end Rows
end Go.Proofs.YtadadidccbhopaaGreat
