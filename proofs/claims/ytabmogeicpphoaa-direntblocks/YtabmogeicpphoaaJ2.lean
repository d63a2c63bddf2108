/- num.Put, into a slice that is a whole block; a law for the builtin clear. -/
import Derived.Test.YtabmogeicpphoaaKBase
namespace Go.Proofs.Ytabmogeicpphoaa
open Go.RowKit

/-- 'clear' of a slice without elements. -/
theorem run_clear_none {P : Program} (dT ty elem : TypeId) (hu : P.underlying dT = some (.slice elem)) (dp : Option Addr) (dCap : Nat) (w : World) :
    (Builtin.clear_ #[dT] ty #[.slice dp 0 dCap]).run P w = .ok (.tuple #[]) w := by
  cases dp <;> simp [Builtin.clear_, run_underlying hu]

theorem zeroCells_one (v : Value) (n : Nat) : (Builtin.zeroCells #[v] n).toList = List.replicate n v := by
  simp only [Builtin.zeroCells]
  apply List.ext_getElem
  · simp
  · intro i h1 h2
    simp [Nat.mod_one]

/-- 'clear' of the end of a block of bytes. -/
theorem run_clear_row {P : Program} {w : World} (dT ty elem : TypeId) (hu : P.underlying dT = some (.slice elem)) (hz : (P.info? elem).map (·.zero) = some (some (.int .u8 0)))
    (g off n dCap : Nat) (t : TypeId) (cur : List UInt8) (hg : Blk w g t cur) (hn : off + n = cur.length) (hpos : 0 < n) :
    ∃ w', (Builtin.clear_ #[dT] ty #[.slice (some ⟨g, off, none⟩) n dCap]).run P w = .ok (.tuple #[]) w' ∧ Blk w' g t (cur.take off ++ List.replicate n 0) ∧ Below g w w' := by
  have hst := run_storeCells_at P g off t (List.replicate n (Value.int .u8 0)) 0 (bvs cur).toArray w hg (by simp [bvs_length]; omega) (fun v hv => by rw [(List.mem_replicate.1 hv).2]; rfl)
  have hzv : (zeroValue elem).run P w = .ok (.int .u8 0) w := by
    cases hq : P.info? elem with
    | none => simp [hq] at hz
    | some i =>
      have hi : i.zero = some (.int .u8 0) := by simpa [hq] using hz
      simp [zeroValue, typeInfo, hq, hi]
  have e : (Builtin.zeroCells (Value.int IntKind.u8 0).cells n).toList = List.replicate n (Value.int .u8 0) := zeroCells_one _ _
  have hrow : List.take (off + 0) (bvs cur).toArray.toList ++ List.replicate n (Value.int .u8 0) ++ List.drop (off + 0 + (List.replicate n (Value.int .u8 0)).length) (bvs cur).toArray.toList = bvs (cur.take off ++ List.replicate n 0) := by
    rw [bvs_append, bvs_rep, bvs_take]
    have : List.drop (off + 0 + (List.replicate n (Value.int .u8 0)).length) (bvs cur).toArray.toList = [] := by
      apply List.drop_eq_nil_of_le; simp [bvs_length]; omega
    rw [this]; simp
  rw [hrow] at hst
  refine ⟨_, ?_, setRow_heap w g _ _ t _ hg, below_setRow (Below.refl _ _) (Nat.le_refl _) _⟩
  obtain ⟨m, rfl⟩ : ∃ m, n = m + 1 := ⟨n - 1, by omega⟩
  simp [Builtin.clear_, run_underlying hu, hzv, e, hst]

theorem Try.zero5 : (Try.prog.info? 5).map (·.zero) = some (some (.int .u8 0)) := by kernel_rfl

/-- The bytes of n, the lowest first, so many. -/
def leB : Nat → Nat → List UInt8
  | 0, _ => []
  | k + 1, n => UInt8.ofNat (n % 256) :: leB k (n / 256)
theorem leB_length : ∀ k n, (leB k n).length = k
  | 0, _ => rfl
  | k + 1, n => by simp [leB, leB_length k]
theorem leB_zero : ∀ k, leB k 0 = List.replicate k 0
  | 0 => rfl
  | k + 1 => by simp [leB, leB_zero k, List.replicate_succ]
theorem leB_take : ∀ k m n, k ≤ m → (leB m n).take k = leB k n
  | 0, _, _, _ => by simp [leB]
  | k + 1, 0, _, h => by omega
  | k + 1, m + 1, n, h => by simp [leB, leB_take k m (n / 256) (by omega)]
theorem leB_more : ∀ j m n, n < 256 ^ j → leB (j + m) n = leB j n ++ List.replicate m 0
  | 0, m, n, h => by
    have : n = 0 := by simpa using h
    subst this; simp [leB, leB_zero]
  | j + 1, m, n, h => by
    rw [show j + 1 + m = (j + m) + 1 by omega]
    simp only [leB, List.cons_append]
    rw [leB_more j m (n / 256) (by rw [Nat.pow_succ] at h; omega)]
theorem byte_ofNat (n : Nat) : bv (UInt8.ofNat (n % 256)) = .int .u8 ((n : Int) % 256) := by
  simp [bv]
theorem eight_row (n : Nat) (h1 : (n : Int) < 18446744073709551616) : (#[Value.int IntKind.u8 ((n : Int) % 256), Value.int IntKind.u8 ((n : Int) / 256 % 256), Value.int IntKind.u8 ((n : Int) / 65536 % 256), Value.int IntKind.u8 ((n : Int) / 16777216 % 256), Value.int IntKind.u8 ((n : Int) / 4294967296 % 256), Value.int IntKind.u8 ((n : Int) / 1099511627776 % 256), Value.int IntKind.u8 ((n : Int) / 281474976710656 % 256), Value.int IntKind.u8 ((n : Int) / 72057594037927936)] : Array Value) = (bvs (leB 8 n)).toArray := by
  simp only [leB, bvs, List.map_cons, List.map_nil, byte_ofNat]
  congr 2
  refine List.cons_eq_cons.2 ⟨by congr 1, ?_⟩
  refine List.cons_eq_cons.2 ⟨by congr 1; omega, ?_⟩
  refine List.cons_eq_cons.2 ⟨by congr 1; omega, ?_⟩
  refine List.cons_eq_cons.2 ⟨by congr 1; omega, ?_⟩
  refine List.cons_eq_cons.2 ⟨by congr 1; omega, ?_⟩
  refine List.cons_eq_cons.2 ⟨by congr 1; omega, ?_⟩
  refine List.cons_eq_cons.2 ⟨by congr 1; omega, ?_⟩
  rfl
theorem splice_all (l : List UInt8) (cs : List UInt8) : splice (bvs l) 0 (bvs cs) = bvs (cs ++ l.drop cs.length) := by
  simp [splice, bvs_append, bvs_drop, bvs_length]

theorem put_copy (g : Nat) (t : TypeId) (l : List UInt8) (cap : Nat) (n : Nat) (h1 : (n : Int) < 18446744073709551616) (w : World) (hg : Blk w g t l) :
    ∃ w1, Sem.run Try.prog (Builtin.copy_ #[25, 25] 3 #[.slice (some ⟨g, 0, none⟩) l.length cap, .slice (some ⟨w.heap.size, 0, none⟩) 8 8]) (w.alloc (Obj.cells #[Value.int IntKind.u8 ((n : Int) % 256), Value.int IntKind.u8 ((n : Int) / 256 % 256), Value.int IntKind.u8 ((n : Int) / 65536 % 256), Value.int IntKind.u8 ((n : Int) / 16777216 % 256), Value.int IntKind.u8 ((n : Int) / 4294967296 % 256), Value.int IntKind.u8 ((n : Int) / 1099511627776 % 256), Value.int IntKind.u8 ((n : Int) / 281474976710656 % 256), Value.int IntKind.u8 ((n : Int) / 72057594037927936)] 97)) = .ok (.int .i64 (min 8 l.length : Nat)) w1 ∧
      Blk w1 g t (leB (min 8 l.length) n ++ l.drop 8) ∧ Below g w w1 := by
  have hgl := hg.lt
  rw [eight_row n h1]
  have hnew : Blk (w.alloc (Obj.cells (bvs (leB 8 n)).toArray 97)) w.heap.size 97 (leB 8 n) := heap_alloc_new _ _
  have hold : Blk (w.alloc (Obj.cells (bvs (leB 8 n)).toArray 97)) g t l := (Below.heap_alloc _ _ _ hgl).trans hg
  have hlen : (leB (min 8 l.length) n).length = min 8 l.length := leB_length _ _
  have hk := leB_take (min 8 l.length) 8 n (by omega)
  have hsrc := (hnew.src).pos (min 8 l.length)
  rw [hk] at hsrc
  by_cases h0 : l.length = 0
  · obtain rfl : l = [] := List.eq_nil_of_length_eq_zero h0
    refine ⟨_, run_copy_none (P := Try.prog) _ 25 25 3 5 _ _ _ _ _ _ Try.underlying25 Try.elem1 (by simp), ?_, ?_⟩
    · simpa [leB] using hold
    · exact (Below.refl _ _).alloc (by omega) _
  · obtain ⟨ad, had, hcs⟩ := hsrc (by rw [bvs_length, hlen]; omega)
    cases had
    have hrun := run_copy_row (P := Try.prog) _ 25 25 3 5 g 0 l.length cap ⟨w.heap.size, 0, none⟩ 8 8 (bvs l).toArray t (bvs (leB (min 8 l.length) n)) Try.underlying25 Try.elem1 hold (by rw [bvs_length, hlen]) hcs (by simp only [bvs_length, hlen, List.size_toArray]; omega) (bvs_one _)
    rw [bvs_length, hlen] at hrun
    refine ⟨_, hrun, ?_, ?_⟩
    · have := setRow_heap _ g _ ((bvs l).toArray.toList.take 0 ++ bvs (leB (min 8 l.length) n) ++ (bvs l).toArray.toList.drop (0 + min 8 l.length)).toArray t _ hold
      rw [Blk, this]
      congr 3
      simp only [List.take_zero, List.nil_append, bvs_append, bvs_drop, Nat.zero_add]
      congr 1
      by_cases h8 : 8 ≤ l.length
      · rw [Nat.min_eq_left h8]
      · rw [List.drop_eq_nil_of_le (by simp [bvs_length]; omega), List.drop_eq_nil_of_le (by simp [bvs_length]; omega)]
    · exact below_setRow ((Below.refl _ _).alloc (by omega) _) (Nat.le_refl _) _

set_option maxHeartbeats 2000000 in
theorem put_any (g : Nat) (t : TypeId) (l : List UInt8) (cap : Nat) (n : Nat) (h1 : (n : Int) < 18446744073709551616) (w : World) (hg : Blk w g t l) (hcap : (l.length : Int) ≤ cap) (hm : (cap : Int) ≤ 9223372036854775807) :
    Calls Try.prog 70 #[.slice (some ⟨g, 0, none⟩) l.length cap, .int .u64 (n : Int)] w fun e w' => e = .returned (.tuple #[]) ∧ Blk w' g t (leB l.length n) ∧ Below g w w' := by
  have h0 : (0 : Int) ≤ n := by omega
  have hgl := hg.lt
  obtain ⟨w1, hrun, hG, hb⟩ := put_copy g t l cap n h1 w hg
  have hcl := fun sp c wx => run_clear_none (P := Try.prog) 25 0 5 Try.underlying25 sp c wx
  by_cases h8 : l.length ≤ 8
  · rw [Nat.min_eq_right h8] at hrun hG
    have hG' : Blk w1 g t (leB l.length n) := by rw [List.drop_eq_nil_of_le (by omega), List.append_nil] at hG; exact hG
    clear hG
    rcases (show (l.length : Int) = cap ∨ (l.length : Int) < cap by omega) with hc | hc
    · obtain rfl : l.length = cap := by omega
      clear hc hcap
      go_enter Try.func70, Try.ntmps70
      go_wp2
      refine wp_loop_rounds 9 ?_
      iterate 9 (rw [rounds_succ]; go_wp2)
      go_end0
      exact ⟨rfl, hG', hb⟩
    · go_enter Try.func70, Try.ntmps70
      go_wp2
      refine wp_loop_rounds 9 ?_
      iterate 9 (rw [rounds_succ]; go_wp2)
      go_end0
      exact ⟨rfl, hG', hb⟩
  · rw [Nat.min_eq_left (by omega)] at hrun hG
    obtain ⟨w2, hrun2, hG2, hb2⟩ := run_clear_row (P := Try.prog) 25 0 5 Try.underlying25 Try.zero5 g 8 (l.length - 8) (cap - 8) t _ hG (by simp [leB_length]) (by omega)
    have hG3 : Blk w2 g t (leB l.length n) := by
      rw [List.take_left' (leB_length _ _), ← leB_more 8 (l.length - 8) n (by omega)] at hG2
      rwa [show 8 + (l.length - 8) = l.length by omega] at hG2
    clear hG hG2
    go_enter Try.func70, Try.ntmps70
    go_wp2
    refine wp_loop_rounds 9 ?_
    iterate 9 (rw [rounds_succ]; go_wp2)
    go_end0
    exact ⟨rfl, hG3, hb.trans hb2⟩
end Go.Proofs.Ytabmogeicpphoaa
/- num.Put, into a part of a block of at most eight bytes. -/
namespace Go.Proofs.Ytabmogeicpphoaa
open Go.RowKit
/-- Bytes laid over others from the place o on. -/
def layAt (cur : List UInt8) (o : Nat) (x : List UInt8) : List UInt8 := cur.take o ++ x ++ cur.drop (o + x.length)
theorem layAt_length (cur : List UInt8) (o : Nat) (x : List UInt8) (h : o + x.length ≤ cur.length) : (layAt cur o x).length = cur.length := by
  simp [layAt]; omega
theorem putAt_copy (g : Nat) (t : TypeId) (cur : List UInt8) (o L cap : Nat) (n : Nat) (h1 : (n : Int) < 18446744073709551616) (hL1 : 1 ≤ L) (hL : L ≤ 8) (ho : o + L ≤ cur.length) (w : World) (hg : Blk w g t cur) :
    ∃ w1, Sem.run Try.prog (Builtin.copy_ #[25, 25] 3 #[.slice (some ⟨g, o, none⟩) L cap, .slice (some ⟨w.heap.size, 0, none⟩) 8 8]) (w.alloc (Obj.cells #[Value.int IntKind.u8 ((n : Int) % 256), Value.int IntKind.u8 ((n : Int) / 256 % 256), Value.int IntKind.u8 ((n : Int) / 65536 % 256), Value.int IntKind.u8 ((n : Int) / 16777216 % 256), Value.int IntKind.u8 ((n : Int) / 4294967296 % 256), Value.int IntKind.u8 ((n : Int) / 1099511627776 % 256), Value.int IntKind.u8 ((n : Int) / 281474976710656 % 256), Value.int IntKind.u8 ((n : Int) / 72057594037927936)] 97)) = .ok (.int .i64 (L : Nat)) w1 ∧
      Blk w1 g t (layAt cur o (leB L n)) ∧ Below g w w1 := by
  have hgl := hg.lt
  rw [eight_row n h1]
  have hnew : Blk (w.alloc (Obj.cells (bvs (leB 8 n)).toArray 97)) w.heap.size 97 (leB 8 n) := heap_alloc_new _ _
  have hold : Blk (w.alloc (Obj.cells (bvs (leB 8 n)).toArray 97)) g t cur := (Below.heap_alloc _ _ _ hgl).trans hg
  have hlen : (leB L n).length = L := leB_length _ _
  have hk := leB_take L 8 n hL
  have hsrc := (hnew.src).pos L
  rw [hk] at hsrc
  obtain ⟨ad, had, hcs⟩ := hsrc (by rw [bvs_length, hlen]; omega)
  cases had
  have hrun := run_copy_row (P := Try.prog) _ 25 25 3 5 g o L cap ⟨w.heap.size, 0, none⟩ 8 8 (bvs cur).toArray t (bvs (leB L n)) Try.underlying25 Try.elem1 hold (by rw [bvs_length, hlen]; exact (Nat.min_eq_right hL).symm) hcs (by simp only [bvs_length, hlen, List.size_toArray]; omega) (bvs_one _)
  rw [bvs_length, hlen] at hrun
  refine ⟨_, hrun, ?_, below_setRow ((Below.refl _ _).alloc (by omega) _) (Nat.le_refl _) _⟩
  have := setRow_heap _ g _ ((bvs cur).toArray.toList.take o ++ bvs (leB L n) ++ (bvs cur).toArray.toList.drop (o + L)).toArray t _ hold
  rw [Blk, this]
  congr 3
  simp [layAt, bvs_append, bvs_drop, bvs_take, hlen]
set_option maxHeartbeats 2000000 in
theorem putAt_any (g : Nat) (t : TypeId) (cur : List UInt8) (o L cap : Nat) (n : Nat) (h1 : (n : Int) < 18446744073709551616) (hL1 : 1 ≤ L) (hL : L ≤ 8) (ho : o + L ≤ cur.length) (w : World) (hg : Blk w g t cur) (hcap : (L : Int) ≤ cap) (hm : (cap : Int) ≤ 9223372036854775807) :
    Calls Try.prog 70 #[.slice (some ⟨g, o, none⟩) L cap, .int .u64 (n : Int)] w fun e w' => e = .returned (.tuple #[]) ∧ Blk w' g t (layAt cur o (leB L n)) ∧ Below g w w' := by
  have h0 : (0 : Int) ≤ n := by omega
  have hgl := hg.lt
  obtain ⟨w1, hrun, hG, hb⟩ := putAt_copy g t cur o L cap n h1 hL1 hL ho w hg
  have hcl := fun sp c wx => run_clear_none (P := Try.prog) 25 0 5 Try.underlying25 sp c wx
  rcases (show (L : Int) = cap ∨ (L : Int) < cap by omega) with hc | hc
  · obtain rfl : L = cap := by omega
    clear hc hcap hg ho
    go_enter Try.func70, Try.ntmps70
    go_wp2
    refine wp_loop_rounds 9 ?_
    iterate 9 (rw [rounds_succ]; go_wp2)
    go_end0
    exact ⟨rfl, hG, hb⟩
  · clear hg ho
    go_enter Try.func70, Try.ntmps70
    go_wp2
    refine wp_loop_rounds 9 ?_
    iterate 9 (rw [rounds_succ]; go_wp2)
    go_end0
    exact ⟨rfl, hG, hb⟩
end Go.Proofs.Ytabmogeicpphoaa
