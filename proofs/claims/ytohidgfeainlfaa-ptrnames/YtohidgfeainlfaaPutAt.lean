/- num.Put, into a part of a block of at most eight bytes. -/
import Derived.Test.YtohidgfeainlfaaNPut
namespace Go.Proofs.Ytohidgfeainlfaa
open Go.RowKit
/-- Bytes laid over others from the place o on. -/
def layAt (cur : List UInt8) (o : Nat) (x : List UInt8) : List UInt8 := cur.take o ++ x ++ cur.drop (o + x.length)
theorem layAt_length (cur : List UInt8) (o : Nat) (x : List UInt8) (h : o + x.length ≤ cur.length) : (layAt cur o x).length = cur.length := by
  simp [layAt]; omega
theorem putAt_copy (g : Nat) (t : TypeId) (cur : List UInt8) (o L cap : Nat) (n : Nat) (h1 : (n : Int) < 18446744073709551616) (hL1 : 1 ≤ L) (hL : L ≤ 8) (ho : o + L ≤ cur.length) (w : World) (hg : Blk w g t cur) :
    ∃ w1, Sem.run Try.prog (Builtin.copy_ #[40, 40] 3 #[.slice (some ⟨g, o, none⟩) L cap, .slice (some ⟨w.heap.size, 0, none⟩) 8 8]) (w.alloc (Obj.cells #[Value.int IntKind.u8 ((n : Int) % 256), Value.int IntKind.u8 ((n : Int) / 256 % 256), Value.int IntKind.u8 ((n : Int) / 65536 % 256), Value.int IntKind.u8 ((n : Int) / 16777216 % 256), Value.int IntKind.u8 ((n : Int) / 4294967296 % 256), Value.int IntKind.u8 ((n : Int) / 1099511627776 % 256), Value.int IntKind.u8 ((n : Int) / 281474976710656 % 256), Value.int IntKind.u8 ((n : Int) / 72057594037927936)] 60)) = .ok (.int .i64 (L : Nat)) w1 ∧
      Blk w1 g t (layAt cur o (leB L n)) ∧ Below g w w1 := by
  have hgl := hg.lt
  rw [eight_row n h1]
  have hnew : Blk (w.alloc (Obj.cells (bvs (leB 8 n)).toArray 60)) w.heap.size 60 (leB 8 n) := heap_alloc_new _ _
  have hold : Blk (w.alloc (Obj.cells (bvs (leB 8 n)).toArray 60)) g t cur := (Below.heap_alloc _ _ _ hgl).trans hg
  have hlen : (leB L n).length = L := leB_length _ _
  have hk := leB_take L 8 n hL
  have hsrc := (hnew.src).pos L
  rw [hk] at hsrc
  obtain ⟨ad, had, hcs⟩ := hsrc (by rw [bvs_length, hlen]; omega)
  cases had
  have hrun := run_copy_row (P := Try.prog) _ 40 40 3 5 g o L cap ⟨w.heap.size, 0, none⟩ 8 8 (bvs cur).toArray t (bvs (leB L n)) Try.underlying40 Try.elem1 hold (by rw [bvs_length, hlen]; exact (Nat.min_eq_right hL).symm) hcs (by simp only [bvs_length, hlen, List.size_toArray]; omega) (bvs_one _)
  rw [bvs_length, hlen] at hrun
  refine ⟨_, hrun, ?_, below_setRow ((Below.refl _ _).alloc (by omega) _) (Nat.le_refl _) _⟩
  have := setRow_heap _ g _ ((bvs cur).toArray.toList.take o ++ bvs (leB L n) ++ (bvs cur).toArray.toList.drop (o + L)).toArray t _ hold
  rw [Blk, this]
  congr 3
  simp [layAt, bvs_append, bvs_drop, bvs_take, hlen]
set_option maxHeartbeats 2000000 in
theorem putAt_any (g : Nat) (t : TypeId) (cur : List UInt8) (o L cap : Nat) (n : Nat) (h1 : (n : Int) < 18446744073709551616) (hL1 : 1 ≤ L) (hL : L ≤ 8) (ho : o + L ≤ cur.length) (w : World) (hg : Blk w g t cur) (hcap : (L : Int) ≤ cap) (hm : (cap : Int) ≤ 9223372036854775807) :
    Calls Try.prog 30 #[.slice (some ⟨g, o, none⟩) L cap, .int .u64 (n : Int)] w fun e w' => e = .returned (.tuple #[]) ∧ Blk w' g t (layAt cur o (leB L n)) ∧ Below g w w' := by
  have h0 : (0 : Int) ≤ n := by omega
  have hgl := hg.lt
  obtain ⟨w1, hrun, hG, hb⟩ := putAt_copy g t cur o L cap n h1 hL1 hL ho w hg
  have hcl := fun sp c wx => run_clear_none (P := Try.prog) 40 0 5 Try.underlying40 sp c wx
  rcases (show (L : Int) = cap ∨ (L : Int) < cap by omega) with hc | hc
  · obtain rfl : L = cap := by omega
    clear hc hcap hg ho
    go_enter Try.func30, Try.ntmps30
    go_wp2
    refine wp_loop_rounds 9 ?_
    iterate 9 (rw [rounds_succ]; go_wp2)
    go_end0
    exact ⟨rfl, hG, hb⟩
  · clear hg ho
    go_enter Try.func30, Try.ntmps30
    go_wp2
    refine wp_loop_rounds 9 ?_
    iterate 9 (rw [rounds_succ]; go_wp2)
    go_end0
    exact ⟨rfl, hG, hb⟩
end Go.Proofs.Ytohidgfeainlfaa
