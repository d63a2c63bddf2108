/- The row of marks of leveelaw11.PatchOrder. -/
import Derived.Test.YtadadidccbhopaaGreatKPallow
namespace Go.Proofs.YtadadidccbhopaaGreat
open Go.RowKit
set_option maxRecDepth 100000
/-- A mark: a block, a place, and where the numbers lie that it waits for. -/
structure Mk where
  b : Nat
  k : Nat
  sp : Option Addr
  A : List Int
  c : Nat
end Go.Proofs.YtadadidccbhopaaGreat
