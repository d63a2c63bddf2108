/- The document's disk (leveeref02.Disk) in memory, and its readers. -/
import Derived.Test.YtcmkgcdjjplgdaaLoad
import Derived.Lib.ConvBytes
namespace Go.Proofs.Ytcmkgcdjjplgdaa
open Go.RowKit
theorem str_bytes (w : World) (l : List UInt8) : ∃ c w', (convert 9 31 (.string (str l))).run Try.prog w = .ok (.slice (some ⟨w.heap.size, 0, none⟩) l.length c) w' ∧ Src w' (some ⟨w.heap.size, 0, none⟩) l ∧ Below w.heap.size w w' := by
  have hsz : (str l).size = l.length := by simp [str, ByteArray.size]
  have h := Lib.run_convert_string_bytes (P := Try.prog) w 9 31 5 (str l) Try.underlying9 Try.underlying31 Try.underlying5
  rw [hsz] at h
  refine ⟨_, _, h, ?_, ⟨rfl, rfl, rfl, by rw [Lib.bytesWorld_size]; omega, fun k hk => Lib.bytesWorld_at_old w 5 (str l) k hk⟩⟩
  by_cases h0 : l = []
  · exact .inl h0
  · refine .inr ⟨_, _, rfl, by rw [Lib.bytesWorld_size]; omega, fun j hj => ?_⟩
    rw [Nat.zero_add, Lib.bytesWorld_cell w 5 (str l) j (by rw [hsz]; exact hj)]
    simp [str, bv, hj]
/-- The document's disk at block r: of block i the versions ver i, the safe one first. -/
structure RefAt (w : World) (base r n : Nat) (held : Bool) (left : Int) (ver : Nat → List (List UInt8)) (gb cb : Nat) (va vc : Nat → Nat) : Prop where
  nn : n ≤ 4096
  c0 : w.cell? ⟨r, 0, none⟩ = some (.slice (some ⟨gb, 0, none⟩) n cb)
  c1 : w.cell? ⟨r, 1, none⟩ = some (.bool held)
  c2 : w.cell? ⟨r, 2, none⟩ = some (.int .i64 left)
  rb : base ≤ r
  gl : gb < w.heap.size
  cl : n ≤ cb ∧ (cb : Int) ≤ 9223372036854775807
  row : ∀ i, i < n → w.cell? ⟨gb, i, none⟩ = some (.slice (some ⟨va i, 0, none⟩) (ver i).length (vc i)) ∧ va i < w.heap.size ∧ 1 ≤ (ver i).length ∧ (ver i).length ≤ 1000000 ∧ (ver i).length ≤ vc i ∧ (vc i : Int) ≤ 9223372036854775807
  vers : ∀ i, i < n → ∀ j, (h : j < (ver i).length) → w.cell? ⟨va i, j, none⟩ = some (.string (str (ver i)[j]))
section
variable {w : World} {base r n : Nat} {held : Bool} {left : Int} {ver : Nat → List (List UInt8)} {gb cb : Nat} {va vc : Nat → Nat}
theorem RefAt.below (h : RefAt w base r n held left ver gb cb va vc) {w' : World} {B : Nat} (hb : Below B w w') (hB : w.heap.size ≤ B) : RefAt w' base r n held left ver gb cb va vc := by
  have hr : r < w.heap.size := block_lt_of_cell h.c0
  have hg := h.gl
  have hs := hb.size
  exact {
    nn := h.nn, rb := h.rb, gl := by omega, cl := h.cl,
    c0 := (hb.cell (p := ⟨r, 0, none⟩) (show r < B by omega)).trans h.c0,
    c1 := (hb.cell (p := ⟨r, 1, none⟩) (show r < B by omega)).trans h.c1,
    c2 := (hb.cell (p := ⟨r, 2, none⟩) (show r < B by omega)).trans h.c2,
    row := fun i hi => ⟨(hb.cell (p := ⟨gb, i, none⟩) (show gb < B by omega)).trans (h.row i hi).1, by have := (h.row i hi).2.1; omega, (h.row i hi).2.2⟩,
    vers := fun i hi j hj => (hb.cell (p := ⟨va i, j, none⟩) (show va i < B by have := (h.row i hi).2.1; omega)).trans (h.vers i hi j hj) }
set_option maxHeartbeats 1000000 in
theorem there_in (h : RefAt w base r n held left ver gb cb va vc) (i : Nat) (hi : i < n) :
    Calls Try.prog 48 #[.pointer (some ⟨r, 0, none⟩), .int .i64 (i : Int)] w fun e w' => e = .returned (.bool true) ∧ w' = w := by
  have c0 := h.c0
  have hi' : (i : Int) < n := by omega
  have hi0 : (0 : Int) ≤ i := by omega
  clear h
  go_enter Try.func48, Try.ntmps48
  go_wp2
  go_ret
  exact ⟨rfl, rfl⟩
set_option maxHeartbeats 1000000 in
theorem there_out (h : RefAt w base r n held left ver gb cb va vc) (b : Int) (hb : b < 0 ∨ (n : Int) ≤ b) :
    Calls Try.prog 48 #[.pointer (some ⟨r, 0, none⟩), .int .i64 b] w fun e w' => e = .returned (.bool false) ∧ w' = w := by
  have c0 := h.c0
  clear h
  rcases hb with hb | hb
  · have hb0 : ¬ (0 : Int) ≤ b := by omega
    go_enter Try.func48, Try.ntmps48
    go_wp2
    go_ret
    exact ⟨rfl, rfl⟩
  · have hb0 : (0 : Int) ≤ b := by omega
    have hb1 : ¬ b < (n : Int) := by omega
    go_enter Try.func48, Try.ntmps48
    go_wp2
    go_ret
    exact ⟨rfl, rfl⟩
set_option maxHeartbeats 1000000 in
theorem rwrites_in (h : RefAt w base r n held left ver gb cb va vc) (i : Nat) (hi : i < n) :
    Calls Try.prog 45 #[.pointer (some ⟨r, 0, none⟩), .int .i64 (i : Int)] w fun e w' => e = .returned (.int .i64 (((ver i).length : Int) - 1)) ∧ w' = w := by
  have TH := there_in h i hi
  have c0 := h.c0
  have hi' : (i : Int) < n := by omega
  have hn := h.nn
  have hn' : (n : Int) ≤ 4096 := by omega
  obtain ⟨cr, _, hv1, hv2, _, _⟩ := h.row i hi
  have hv1' : (1 : Int) ≤ (ver i).length := by omega
  have hv2' : ((ver i).length : Int) ≤ 1000000 := by omega
  clear h
  go_enter Try.func45, Try.ntmps45
  go_wp2_with fail
  refine TH.mono ?_
  rintro e w1 ⟨rfl, rfl⟩
  clear TH
  go_wp2
  go_ret
  exact ⟨by go_num, rfl⟩
set_option maxHeartbeats 1000000 in
theorem rwrites_out (h : RefAt w base r n held left ver gb cb va vc) (b : Int) (hb : b < 0 ∨ (n : Int) ≤ b) :
    Calls Try.prog 45 #[.pointer (some ⟨r, 0, none⟩), .int .i64 b] w fun e w' => e = .returned (.int .i64 0) ∧ w' = w := by
  have TH := there_out h b hb
  clear h
  go_enter Try.func45, Try.ntmps45
  go_wp2_with fail
  refine TH.mono ?_
  rintro e w1 ⟨rfl, rfl⟩
  clear TH
  go_wp2
  go_ret
  exact ⟨rfl, rfl⟩
set_option maxHeartbeats 1000000 in
theorem rstopped_any (h : RefAt w base r n held left ver gb cb va vc) :
    Calls Try.prog 46 #[.pointer (some ⟨r, 0, none⟩)] w fun e w' => e = .returned (.bool (held && (left == 0))) ∧ w' = w := by
  have c1 := h.c1
  have c2 := h.c2
  clear h
  cases held with
  | false =>
    go_enter Try.func46, Try.ntmps46
    go_wp2
    go_ret
    exact ⟨rfl, rfl⟩
  | true =>
    go_enter Try.func46, Try.ntmps46
    go_wp2
    go_ret
    exact ⟨rfl, rfl⟩
set_option maxHeartbeats 1000000 in
theorem rread_out (h : RefAt w base r n held left ver gb cb va vc) (b : Int) (hb : b < 0 ∨ (n : Int) ≤ b) :
    Calls Try.prog 41 #[.pointer (some ⟨r, 0, none⟩), .int .i64 b] w fun e w' => e = .returned (.tuple #[.slice none 0 0, .int .i64 3]) ∧ w' = w := by
  have TH := there_out h b hb
  clear h
  go_enter Try.func41, Try.ntmps41
  go_wp2_with fail
  refine TH.mono ?_
  rintro e w1 ⟨rfl, rfl⟩
  clear TH
  go_wp2
  go_ret2
  exact ⟨rfl, rfl⟩
set_option maxHeartbeats 1000000 in
theorem rsafe_out (h : RefAt w base r n held left ver gb cb va vc) (b : Int) (hb : b < 0 ∨ (n : Int) ≤ b) :
    Calls Try.prog 42 #[.pointer (some ⟨r, 0, none⟩), .int .i64 b] w fun e w' => e = .returned (.tuple #[.slice none 0 0, .int .i64 3]) ∧ w' = w := by
  have TH := there_out h b hb
  clear h
  go_enter Try.func42, Try.ntmps42
  go_wp2_with fail
  refine TH.mono ?_
  rintro e w1 ⟨rfl, rfl⟩
  clear TH
  go_wp2
  go_ret2
  exact ⟨rfl, rfl⟩
set_option maxHeartbeats 1000000 in
theorem rsafe_in (h : RefAt w base r n held left ver gb cb va vc) (i : Nat) (hi : i < n) (y : List UInt8) (hy : (ver i)[0]? = some y) :
    Calls Try.prog 42 #[.pointer (some ⟨r, 0, none⟩), .int .i64 (i : Int)] w fun e w' => ∃ g c, e = .returned (.tuple #[.slice (some ⟨g, 0, none⟩) y.length c, .int .i64 0]) ∧ Src w' (some ⟨g, 0, none⟩) y ∧ Below w.heap.size w w' := by
  have TH := there_in h i hi
  have c0 := h.c0
  have hi' : (i : Int) < n := by omega
  have hn := h.nn
  have hn' : (n : Int) ≤ 4096 := by omega
  obtain ⟨cr, _, hv1, hv2, _, _⟩ := h.row i hi
  have hv1' : (0 : Int) < (ver i).length := by omega
  have cv := h.vers i hi 0 (by omega)
  rw [show (ver i)[0] = y from by rw [List.getElem?_eq_getElem (by omega)] at hy; exact Option.some.inj hy] at cv
  obtain ⟨c, w2, hcv, hsv, hbv⟩ := str_bytes w y
  clear h
  go_enter Try.func42, Try.ntmps42
  go_wp2_with fail
  refine TH.mono ?_
  rintro e w1 ⟨rfl, rfl⟩
  clear TH
  go_wp2
  go_ret2
  exact ⟨_, _, rfl, hsv, hbv⟩
set_option maxHeartbeats 1000000 in
theorem rread_in (h : RefAt w base r n held left ver gb cb va vc) (i : Nat) (hi : i < n) (m : Nat) (y : List UInt8) (hm : (ver i).length = m + 1) (hy : (ver i)[m]? = some y) :
    Calls Try.prog 41 #[.pointer (some ⟨r, 0, none⟩), .int .i64 (i : Int)] w fun e w' => ∃ g c, e = .returned (.tuple #[.slice (some ⟨g, 0, none⟩) y.length c, .int .i64 0]) ∧ Src w' (some ⟨g, 0, none⟩) y ∧ Below w.heap.size w w' := by
  have TH := there_in h i hi
  have c0 := h.c0
  have hi' : (i : Int) < n := by omega
  have hn := h.nn
  have hn' : (n : Int) ≤ 4096 := by omega
  obtain ⟨cr, _, hv1, hv2, _, _⟩ := h.row i hi
  have cv := h.vers i hi m (by omega)
  rw [show (ver i)[m] = y from by rw [List.getElem?_eq_getElem (by omega)] at hy; exact Option.some.inj hy] at cv
  rw [hm] at cr hv2
  have hm2 : (m : Int) + 1 ≤ 1000000 := by omega
  obtain ⟨c, w2, hcv, hsv, hbv⟩ := str_bytes w y
  clear h hm hy hv1
  go_enter Try.func41, Try.ntmps41
  go_wp2_with fail
  refine TH.mono ?_
  rintro e w1 ⟨rfl, rfl⟩
  clear TH
  go_wp2
  go_ret2
  exact ⟨_, _, rfl, hsv, hbv⟩
end
end Go.Proofs.Ytcmkgcdjjplgdaa
