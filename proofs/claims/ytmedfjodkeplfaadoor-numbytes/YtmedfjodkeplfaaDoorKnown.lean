/- leveelaw01.known: the fixed calls answer as the law asks. -/
import Derived.Test.YtmedfjodkeplfaaDoorGet
import Derived.Test.YtmedfjodkeplfaaDoorPut
import Derived.Test.YtmedfjodkeplfaaDoorSum
import Derived.Test.YtmedfjodkeplfaaDoorDiff
import Derived.Laws.BytesArg
namespace Go.Proofs.YtmedfjodkeplfaaDoor
open Go.RowKit
def ka : List UInt8 := [97, 98, 99, 100]
def kb : List UInt8 := [97, 120, 99, 121]
theorem knownDiff : Ending.returned (.tuple #[.int .i64 (difFirst ka kb (max ka.length kb.length)), .int .i64 (difLast ka kb (max ka.length kb.length))]) = .returned (.tuple #[.int .i64 1, .int .i64 4]) := by
  have d1 : difFirst ka kb (max ka.length kb.length) = 1 := by decide
  have d2 : difLast ka kb (max ka.length kb.length) = 4 := by decide
  rw [d1, d2]
def k9 : List UInt8 := [49, 50, 51, 52, 53, 54, 55, 56, 57]
theorem knownSum : sumN k9 = 3421780262 := by decide +kernel
set_option maxHeartbeats 1000000 in
theorem known_any (w : World) (ht : Tab w) :
    Calls Tryd.prog 8 #[] w fun e w' => e = .returned (.bool true) ∧ Below w.heap.size w w' := by
  have hw0 : 0 < w.heap.size := block_lt_of_cell (ht 0 (by omega))
  have hb0 : Below w.heap.size w (w.alloc (.cells #[.int .u8 9, .int .u8 9] 5)) := (Below.refl _ _).alloc (Nat.le_refl _) _
  have hg0 : Blk (w.alloc (.cells #[.int .u8 9, .int .u8 9] 5)) w.heap.size 5 [9, 9] := heap_alloc_new _ _
  have hcv := conv_const
  have hcv2 := conv_const2
  go_enter Tryd.func8, Tryd.ntmps8
  go_wp2_with fail
  refine (put_any w.heap.size 5 [9, 9] 2 258 (by omega) _ hg0 (by simp) (by simp)).mono ?_
  rintro e w1 ⟨rfl, hg1, hb1⟩
  have hw1 : w.heap.size < w1.heap.size := hg1.lt
  replace hb1 := hb0.trans hb1
  have hz : (w1.alloc (Obj.cells #[Value.int IntKind.u8 97, Value.int IntKind.u8 98, Value.int IntKind.u8 99, Value.int IntKind.u8 100] 5 (4, 5))).heap.size = w1.heap.size + 1 := by show (w1.heap.push _).size = _; simp
  have hbb : Below w1.heap.size w1 ((w1.alloc (Obj.cells #[Value.int IntKind.u8 97, Value.int IntKind.u8 98, Value.int IntKind.u8 99, Value.int IntKind.u8 100] 5 (4, 5))).alloc (Obj.cells #[Value.int IntKind.u8 97, Value.int IntKind.u8 120, Value.int IntKind.u8 99, Value.int IntKind.u8 121] 5 (4, 5))) := ((Below.refl _ _).alloc (Nat.le_refl _) _).alloc (by omega) _
  have s1 : Src ((w1.alloc (Obj.cells #[Value.int IntKind.u8 97, Value.int IntKind.u8 98, Value.int IntKind.u8 99, Value.int IntKind.u8 100] 5 (4, 5))).alloc (Obj.cells #[Value.int IntKind.u8 97, Value.int IntKind.u8 120, Value.int IntKind.u8 99, Value.int IntKind.u8 121] 5 (4, 5))) (some ⟨w1.heap.size, 0, none⟩) ka := src_row (heap_alloc2_old _ _ _)
  have s2 : Src ((w1.alloc (Obj.cells #[Value.int IntKind.u8 97, Value.int IntKind.u8 98, Value.int IntKind.u8 99, Value.int IntKind.u8 100] 5 (4, 5))).alloc (Obj.cells #[Value.int IntKind.u8 97, Value.int IntKind.u8 120, Value.int IntKind.u8 99, Value.int IntKind.u8 121] 5 (4, 5))) (some ⟨w1.heap.size + 1, 0, none⟩) kb := src_row (heap_alloc2_new _ _ _)
  clear hz
  go_wp2_with fail
  refine (diff_any _ _ ka kb 4 4 _ s1 s2 (by decide) (by decide)).mono ?_
  rintro e w2 ⟨he, hb2⟩
  rw [knownDiff] at he
  subst he
  clear s1 s2
  have hb3 : Below w1.heap.size w1 w2 := hbb.trans (hb2.mono (by have := hbb.size; omega))
  have hg2 : Blk w2 w.heap.size 5 (leB [9, 9].length 258) := hg1.below hb3 hw1
  rw [show leB [9, 9].length 258 = [2, 1] from by decide] at hg2
  have hst : (convert 23 9 (.slice (some ⟨w.heap.size, 0, none⟩) 2 2)).run Tryd.prog w2 = .ok (.string ⟨#[2, 1]⟩) w2 := conv_str hg2.src 2 2 rfl
  clear hb2 hbb
  go_wp2_with fail
  refine (get_any _ [2, 1] 2 _ hg2.src).mono ?_
  rintro e w3 ⟨he, hb4⟩
  rw [show getNum [2, 1] = 258 from by decide] at he
  subst he
  have hb5 : Below w.heap.size w (w3.alloc (Obj.cells (bvs k9).toArray 5 (9, 10))) := ((hb1.trans (hb3.mono (by omega))).trans (hb4.mono (by have := hb3.size; omega))).alloc (by have := hb3.size; have := hb4.size; omega) _
  have ht5 := ht.below hb5 hw0
  have s5 : Src (w3.alloc (Obj.cells (bvs k9).toArray 5 (9, 10))) (some ⟨w3.heap.size, 0, none⟩) k9 := src_row (heap_alloc_new _ _)
  go_wp2_with fail
  refine (sum_any _ k9 9 _ s5 ht5 (by decide)).mono ?_
  rintro e w4 ⟨he, rfl⟩
  rw [knownSum] at he
  subst he
  clear s5 ht5
  go_wp2_with fail
  go_ret
  exact ⟨rfl, hb5⟩
end Go.Proofs.YtmedfjodkeplfaaDoor
