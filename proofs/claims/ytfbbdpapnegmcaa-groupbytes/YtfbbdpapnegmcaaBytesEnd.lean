/- leveelaw06.GroupBytes, whatever it is called with. -/
import Derived.Test.YtfbbdpapnegmcaaBytes
namespace Go.Proofs.Ytfbbdpapnegmcaa
open Go.RowKit
theorem groupBytes_all (a i n no : Int) (s1 : Option Addr) (c1 : Nat) (l1 : List UInt8) (s2 : Option Addr) (c2 : Nat) (l2 : List UInt8) (s3 : Option Addr) (c3 : Nat) (l3 : List UInt8) (w : World) (h1 : Arg w s1 c1 l1) (h2 : Arg w s2 c2 l2) (h3 : Arg w s3 c3 l3) :
    Calls Try.prog 3 #[.agg #[.int .i64 a, .int .i64 i, .int .i64 n], .int .i64 no, .slice s1 l1.length c1, .slice s2 l2.length c2, .slice s3 l3.length c3] w fun e w' => e = .returned (.bool true) ∧ Below w.heap.size w w' := groupBytes_any a i n no s1 s2 c1 c2 l1 l2 s3 c3 l3 w h1 h2 h3
end Go.Proofs.Ytfbbdpapnegmcaa
