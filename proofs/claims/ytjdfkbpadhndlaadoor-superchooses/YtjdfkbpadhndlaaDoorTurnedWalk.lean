/- The walk of leveelaw04.SuperTurned. -/
import Derived.Test.YtjdfkbpadhndlaaDoorSknown
namespace Go.Proofs.YtjdfkbpadhndlaaDoor
open Go.RowKit
set_option maxHeartbeats 1000000 in
theorem count_any (k n : Int) (w : World) (hk : -9223372036854775808 ≤ k ∧ k ≤ 9223372036854775807) (h1 : 1 ≤ n) (h2 : n ≤ 8000) :
    Calls Tryd.prog 20 #[.int .i64 k, .int .i64 n] w fun e w' => ∃ m : Nat, e = .returned (.int .i64 m) ∧ (m : Int) < n ∧ w' = w := by
  have e1 : k.tmod n = if 0 ≤ k then k % n else -((-k) % n) := by
    split
    · rw [Int.tmod_eq_emod_of_nonneg (by assumption)]
    · rw [← Int.tmod_eq_emod_of_nonneg (by omega), Int.neg_tmod, Int.neg_neg]
  have hb1 := Int.emod_nonneg k (show n ≠ 0 by omega)
  have hb2 := Int.emod_lt_of_pos k (show 0 < n by omega)
  have hb3 := Int.emod_nonneg (-k) (show n ≠ 0 by omega)
  have hb4 := Int.emod_lt_of_pos (-k) (show 0 < n by omega)
  have hr1 : -n < k.tmod n := by rw [e1]; split <;> omega
  have hr2 : k.tmod n < n := by rw [e1]; split <;> omega
  clear e1 hb1 hb2 hb3 hb4
  by_cases hneg : k.tmod n < 0
  · go_enter Tryd.func20, Tryd.ntmps20
    go_wp2
    go_ret
    exact ⟨(k.tmod n + n).toNat, by rw [Int.toNat_of_nonneg (by omega)]; rfl, by omega, rfl⟩
  · go_enter Tryd.func20, Tryd.ntmps20
    go_wp2
    go_ret
    exact ⟨(k.tmod n).toNat, by rw [Int.toNat_of_nonneg (by omega)]; rfl, by omega, rfl⟩

set_option maxRecDepth 100000 in
set_option maxHeartbeats 4000000 in
theorem turned_no (g a i n k c : Int) (w : World) (ht : Tab w) (hok : okS g a i n = false) :
    Calls Tryd.prog 5 #[.agg #[.int .i64 g, .int .i64 a, .int .i64 i, .int .i64 n], .int .i64 k, .int .u8 c] w fun e w' => e = .returned (.bool true) ∧ Below w.heap.size w w' := by
  have hw0 : 0 < w.heap.size := block_lt_of_cell (ht 0 (by omega))
  have GV := given_any g a i n
  have PT := fun W => sput_no g a i n W hok
  have hb0 : Below w.heap.size w (w.alloc (.cells #[.int .i64 g, .int .i64 a, .int .i64 i, .int .i64 n] 25)) := (Below.refl _ _).alloc (Nat.le_refl _) _
  go_enter Tryd.func5, Tryd.ntmps5
  go_wp2_with fail
  refine (GV _).mono ?_
  rintro e w1 ⟨rfl, hb1⟩
  have hB1 : Below w.heap.size w w1 := hb0.trans (hb1.mono hb0.size)
  go_wp2_with fail
  refine (PT _).mono ?_
  rintro e w2 ⟨rfl, hb2⟩
  have hB2 : Below w.heap.size w w2 := hB1.trans (hb2.mono hB1.size)
  have KN := sknown_any w2 (ht.below hB2 hw0)
  go_wp2_with fail
  refine KN.mono ?_
  rintro e w3 ⟨rfl, hb3⟩
  go_wp2
  go_ret
  exact ⟨rfl, hB2.trans (hb3.mono hB2.size)⟩
theorem getX_zero {v : Int} {l : List UInt8} (h : getE l ≠ 0) : getX v l = 0 := if_neg h
set_option maxRecDepth 100000 in
set_option maxHeartbeats 4000000 in
theorem turned_ok (g a i n : Nat) (k : Int) (c : UInt8) (w : World) (ht : Tab w) (hk : -9223372036854775808 ≤ k ∧ k ≤ 9223372036854775807) (hok : okS g a i n = true) :
    Calls Tryd.prog 5 #[.agg #[.int .i64 (g : Int), .int .i64 (a : Int), .int .i64 (i : Int), .int .i64 (n : Int)], .int .i64 k, .int .u8 (c.toNat : Int)] w fun e w' => e = .returned (.bool true) ∧ Below w.heap.size w w' := by
  have hw0 : 0 < w.heap.size := block_lt_of_cell (ht 0 (by omega))
  have GV := given_any g a i n
  have hb0 : Below w.heap.size w (w.alloc (.cells #[.int .i64 (g : Int), .int .i64 (a : Int), .int .i64 (i : Int), .int .i64 (n : Int)] 25)) := (Below.refl _ _).alloc (Nat.le_refl _) _
  go_enter Tryd.func5, Tryd.ntmps5
  go_wp2_with fail
  refine (GV _).mono ?_
  rintro e w1 ⟨rfl, hb1⟩
  have hB1 : Below w.heap.size w w1 := hb0.trans (hb1.mono hb0.size)
  have PT := sput_ok g a i n w1 (ht.below hB1 hw0) hok
  clear GV hb0 hb1
  go_wp2_with fail
  refine PT.mono ?_
  rintro e w2 ⟨G, rfl, hG, hGl, hb2⟩
  have hB2 : Below w.heap.size w w2 := hB1.trans (hb2.mono hB1.size)
  have hGb : w.heap.size ≤ G := by have := hB1.size; omega
  have HG2 : Hid (Blk w2 G 55 (putL g a i n)) := hG
  have CN := count_any k 256 w2 hk (by omega) (by omega)
  clear PT hG hGl hb2 hB1
  go_wp2_with fail
  refine CN.mono ?_
  rintro e w3 ⟨m, rfl, hm, rfl⟩
  clear CN
  have hm' : m < (putL g a i n).length := by rw [putL_length]; omega
  have hcell : w3.cell? ⟨G, m, none⟩ = some (.int .u8 (nth (putL g a i n) m)) := (HG2.out.cell m hm').trans (by rw [bv_nth])
  have hfro := HG2.out.frozen m
  have hm0 : (0 : Int) ≤ m := by omega
  by_cases hc : (putL g a i n)[m] = c
  · have hv : nth (putL g a i n) m = (c.toNat : Int) := by rw [← hc]; simp [nth, hm']
    rw [hv] at hcell
    have KN := sknown_any w3 (ht.below hB2 hw0)
    clear hv hc hm'
    go_wp2_with fail
    refine KN.mono ?_
    rintro e w4 ⟨rfl, hb4⟩
    go_wp2
    go_ret
    exact ⟨rfl, hB2.trans (hb4.mono hB2.size)⟩
  · have hv : nth (putL g a i n) m ≠ (c.toNat : Int) := by
      intro h; apply hc; apply UInt8.toNat_inj.1
      have h2 : nth (putL g a i n) m = (((putL g a i n)[m]).toNat : Int) := by simp [nth, hm']
      rw [h2] at h; omega
    have hv1 : (nth (putL g a i n) m == (c.toNat : Int)) = false := beq_eq_false_iff_ne.2 hv
    have HH := HG2.out.store m c
    have hB3 : Below w.heap.size w (w3.setCell ⟨G, m, none⟩ (bv c)) := hB2.setCell (p := ⟨G, m, none⟩) hGb _
    have hT3 := ht.below hB3 hw0
    have SG := HH.says (by rw [List.length_set, putL_length]) hT3 _ (Below.refl _ _)
    have hE := put_turned g a i n m c (by omega) hc
    have hE0 : getE ((putL g a i n).set m c) ≠ 0 := by rcases hE with h | h <;> rw [h] <;> omega
    rw [getX_zero hE0, getX_zero hE0, getX_zero hE0, getX_zero hE0] at SG
    generalize nth (putL g a i n) m = N at *
    generalize getE ((putL g a i n).set m c) = E at *
    clear HH HG2 hT3 hv hc hm' hE0
    obtain ⟨w5, HW5⟩ : ∃ w5, Hid (w5 = w3.setCell ⟨G, m, none⟩ (bv c)) := ⟨_, rfl⟩
    rw [← HW5.out] at SG hB3
    have HB3 : Hid (Below w.heap.size w w5) := hB3
    clear hB3 hB2
    go_upto_region 8 with fail
    rw [show w3.setCell ⟨G, m, none⟩ (.int .u8 (c.toNat : Int)) = w5 from HW5.out.symm]
    go_wp2_with fail
    refine SG.mono ?_
    rintro e w6 ⟨rfl, hb6⟩
    clear SG
    have hB7 : Below w.heap.size w (w6.alloc (.cells #[.int .i64 0, .int .i64 0, .int .i64 0, .int .i64 0] 30)) := HB3.out.trans ((hb6.alloc hb6.size _).mono HB3.out.size)
    have KN := sknown_any _ (ht.below hB7 hw0)
    have HB7 : Hid _ := hB7
    clear hB7 hb6 hcell hfro HW5
    rcases hE with rfl | rfl
    · go_wp2_with fail
      refine KN.mono ?_
      rintro e w8 ⟨rfl, hb8⟩
      go_wp2
      go_ret
      exact ⟨rfl, HB7.out.trans (hb8.mono HB7.out.size)⟩
    · go_wp2_with fail
      refine KN.mono ?_
      rintro e w8 ⟨rfl, hb8⟩
      go_wp2
      go_ret
      exact ⟨rfl, HB7.out.trans (hb8.mono HB7.out.size)⟩
theorem turned_walk (g a i n k : Int) (c : UInt8) (w : World) (ht : Tab w) (hk : -9223372036854775808 ≤ k ∧ k ≤ 9223372036854775807) :
    Calls Tryd.prog 5 #[.agg #[.int .i64 g, .int .i64 a, .int .i64 i, .int .i64 n], .int .i64 k, .int .u8 (c.toNat : Int)] w fun e w' => e = .returned (.bool true) ∧ Below w.heap.size w w' := by
  cases hok : okS g a i n
  · exact turned_no g a i n k _ w ht hok
  · obtain ⟨h1, h2, h3⟩ := okS_iff.1 hok
    have hb := h3.box
    have hn := (okG_iff.1 h3).2.2.2.2.2.1
    obtain ⟨g', rfl⟩ := Int.eq_ofNat_of_zero_le (show 0 ≤ g by omega)
    obtain ⟨a', rfl⟩ := Int.eq_ofNat_of_zero_le (show 0 ≤ a by omega)
    obtain ⟨i', rfl⟩ := Int.eq_ofNat_of_zero_le (show 0 ≤ i by omega)
    obtain ⟨n', rfl⟩ := Int.eq_ofNat_of_zero_le (show 0 ≤ n by omega)
    exact turned_ok g' a' i' n' k c w ht hk hok
end Go.Proofs.YtjdfkbpadhndlaaDoor
