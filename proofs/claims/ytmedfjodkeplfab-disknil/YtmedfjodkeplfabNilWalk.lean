/- leveelaw02.DiskNil. -/
import Derived.Test.YtmedfjodkeplfabNil
namespace Go.Proofs.Ytmedfjodkeplfab
open Go.RowKit
set_option maxHeartbeats 4000000 in
theorem diskNil_any (w : World) (b : Int) (v : Value) : Calls Try.prog 5 #[.int .i64 b, v] w fun e w' => e = .returned (.bool true) ∧ Below w.heap.size w w' := by
  have RD := read_nil w b
  have SF := safe_nil w b
  have CR := crash_nil w (.slice none 0 0)
  have ST := stop_nil w b
  have SD := stopped_nil w
  have WR := write_nil w b v
  have FL := flush_nil w
  have LN := len_nil w
  have OP := open_nil w
  have WS := writes_nil w b
  have CP := copy_nil w
  have BY := bytes_nil w
  go_enter Try.func5, Try.ntmps5
  go_wp2_with (first | (go_at_call 19; refine RD.mono ?_; rintro e w1 ⟨rfl, rfl⟩) | (go_at_call 20; refine SF.mono ?_; rintro e w1 ⟨rfl, rfl⟩) | (go_at_call 12; refine CR.mono ?_; rintro e w1 ⟨rfl, rfl⟩) | (go_at_call 21; refine ST.mono ?_; rintro e w1 ⟨rfl, rfl⟩) | (go_at_call 22; refine SD.mono ?_; rintro e w1 ⟨rfl, rfl⟩) | (go_at_call 16; refine WR.mono ?_; rintro e w1 ⟨rfl, rfl⟩) | (go_at_call 18; refine FL.mono ?_; rintro e w1 ⟨rfl, rfl⟩) | (go_at_call 23; refine LN.mono ?_; rintro e w1 ⟨rfl, rfl⟩) | (go_at_call 24; refine OP.mono ?_; rintro e w1 ⟨rfl, rfl⟩) | (go_at_call 25; refine WS.mono ?_; rintro e w1 ⟨rfl, rfl⟩) | (go_at_call 26; refine CP.mono ?_; rintro e w1 ⟨rfl, rfl⟩) | (go_at_call 13; refine BY.mono ?_; rintro e w1 ⟨⟨sp, c, rfl⟩, hb1⟩) | (go_at_call 6; refine (known_any _).mono ?_; rintro e w2 ⟨rfl, hb2⟩))
  go_ret
  exact ⟨rfl, hb1.trans (hb2.mono hb1.size)⟩
end Go.Proofs.Ytmedfjodkeplfab
