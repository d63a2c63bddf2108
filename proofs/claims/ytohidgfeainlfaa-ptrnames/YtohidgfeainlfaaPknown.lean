/- leveelaw09.known. -/
import Derived.Test.YtohidgfeainlfaaRback
import Derived.Test.YtohidgfeainlfaaSpan
import Derived.Test.YtohidgfeainlfaaPLay
namespace Go.Proofs.Ytohidgfeainlfaa
open Go.RowKit
theorem k_len : (layAt (zerB 256) (4 * 1) (leB 4 258)).length = 256 := by decide +kernel
theorem k_nm : (nms (layAt (zerB 256) (4 * 1) (leB 4 258))).getD 1 0 = 258 := by decide +kernel
set_option maxRecDepth 100000 in
set_option maxHeartbeats 2000000 in
theorem pknown_any (w : World) : Calls Try.prog 16 #[] w fun e w' => e = .returned (.bool true) ∧ Below w.heap.size w w' := by
  have OF := of_any 200
  rw [show ofD 200 = 2 by decide, show ofA 200 = 0 by decide, show ofB 200 = 2 by decide, show ofC 200 = 2 by decide, show ofE 200 = 0 by decide] at OF
  have BK := back_any 1 0 0 0
  rw [show bkV 1 0 0 0 = 6 by decide, show bkE 1 0 0 0 = 0 by decide] at BK
  have ND := need_any 0 300
  rw [show ndV 0 300 = 5 by decide] at ND
  go_enter Try.func16, Try.ntmps16
  go_wp2_with fail
  refine (OF _).mono ?_
  clear OF
  rintro e w1 ⟨rfl, hb1⟩
  have HL1 : Hid (LiesW w w1.heap.size 2 0 2 2 (w1.alloc (.cells (wayA 2 0 2 2) 24))) := by
    have h := liesW_new w1 2 0 2 2 24
    exact ⟨h.c0, h.c1, h.c2, h.c3, hb1.alloc hb1.size _⟩
  clear hb1
  go_wp2_with fail
  refine (BK _).mono ?_
  clear BK
  rintro e w2 ⟨rfl, hb2⟩
  have HL2 : Hid (LiesW w w1.heap.size 2 0 2 2 w2) := HL1.out.up hb2
  clear HL1 hb2
  have hmk : (Instr.makeSlice 40 (.int .i64 256) (.int .i64 256)).run Try.prog w2 = .ok (.slice (some ⟨w2.heap.size, 0, none⟩) 256 256) (w2.alloc (.cells (bvs (zerB 256)).toArray 5)) := make_any w2 256 256 (by omega) (by omega)
  have hr0 : Blk (w2.alloc (.cells (bvs (zerB 256)).toArray 5)) w2.heap.size 5 (zerB 256) := heap_alloc_new _ _
  have PL := play_ok w2.heap.size 0 256 (zerB 256) 1 258 (by simp [zerB]) (by omega) (by omega) _ hr0.src
  rw [show ((1 : Nat) : Int) = 1 from rfl, show ((258 : Nat) : Int) = 258 from rfl] at PL
  have HL3 : Hid (LiesW w w1.heap.size 2 0 2 2 (w2.alloc (.cells (bvs (zerB 256)).toArray 5))) := HL2.out.alloc _
  clear hr0 HL2
  generalize w2.alloc (.cells (bvs (zerB 256)).toArray 5) = w3 at *
  go_wp2_with fail
  refine PL.mono ?_
  clear PL hmk
  rintro e w4 ⟨g, rfl, hg, hge, hb4⟩
  have HL4 : Hid (LiesW w w1.heap.size 2 0 2 2 w4) := HL3.out.up hb4
  clear HL3 hb4
  have HK1 : Hid _ := k_len
  have HK2 : Hid _ := k_nm
  obtain ⟨X, hX⟩ : ∃ X, X = layAt (zerB 256) (4 * 1) (leB 4 258) := ⟨_, rfl⟩
  rw [← hX] at hg HK1 HK2
  clear hX
  have NM := names_ok g 0 256 X HK1.out (by omega) w4 hg.src
  clear hg hge
  go_wp2_with fail
  refine NM.mono ?_
  clear NM
  rintro e w5 ⟨q, rfl, hq, hqe, hb5⟩
  have HL5 : Hid (LiesW w w1.heap.size 2 0 2 2 w5) := HL4.out.up hb5
  have hc1 : w5.cell? ⟨q, 1, none⟩ = some (.int .i64 258) := (hq.cell 1 (by rw [nms_length]; omega)).trans (by rw [HK2.out])
  clear HL4 hb5 hq hqe HK1 HK2
  have c0 := HL5.out.c0
  have c2 := HL5.out.c2
  have c3 := HL5.out.c3
  go_wp2_with (first | (go_at_call 14; refine (ND _).mono ?_; rintro e w6 ⟨rfl, rfl⟩))
  go_ret
  exact ⟨rfl, HL5.out.b⟩
end Go.Proofs.Ytohidgfeainlfaa
