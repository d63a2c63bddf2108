/- leveelaw06.GroupPlays, whatever it is called with. -/
import Derived.Test.YtfbbdpapnegmcaaPlays
namespace Go.Proofs.Ytfbbdpapnegmcaa
open Go.RowKit
theorem groupPlays_all (a i n no : Int) (sp : Option Addr) (m cap : Nat) (A : Acts) (fr : Int) (w : World) (harg : m ≤ cap ∧ (cap : Int) ≤ 9223372036854775807 ∧ ActsAt w sp m A) (hfr : fr ≤ 9223372036854775807) :
    Calls Try.prog 4 #[.agg #[.int .i64 a, .int .i64 i, .int .i64 n], .int .i64 no, .slice sp m cap, .int .i64 fr] w fun e w' => e = .returned (.bool true) ∧ Below w.heap.size w w' := groupPlays_any a i n no sp m cap A fr hfr w harg
end Go.Proofs.Ytfbbdpapnegmcaa
