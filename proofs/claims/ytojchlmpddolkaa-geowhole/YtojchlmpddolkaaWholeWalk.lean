/- The walk of leveelaw03.GeoWhole. -/
import Derived.Test.YtojchlmpddolkaaRfit
namespace Go.Proofs.Ytojchlmpddolkaa
open Go.RowKit
theorem Lies.under {w0 w w' : World} {p : Nat} {a i n : Int} (hL : Lies w0 p a i n w) (h2 : Below w.heap.size w w') : Lies w0 p a i n w' :=
  ⟨(h2.cell (p := ⟨p, 0, none⟩) (block_lt_of_cell hL.1)).trans hL.1, (h2.cell (p := ⟨p, 1, none⟩) (block_lt_of_cell hL.2.1)).trans hL.2.1, (h2.cell (p := ⟨p, 2, none⟩) (block_lt_of_cell hL.2.2.1)).trans hL.2.2.1, hL.2.2.2.trans (h2.mono hL.2.2.2.size)⟩
/-- How many blocks of each kind there are ahead of block b. -/
def Cnt (a t s b x1 x2 x3 x4 : Int) : Prop :=
  (0 ≤ b ∧ b ≤ 1 ∧ x1 = b ∧ x2 = 0 ∧ x3 = 0 ∧ x4 = 0) ∨
  (x1 = 2 ∧ ∃ q r, 0 ≤ q ∧ 0 ≤ r ∧ r < a ∧ b = 2 + q * a + r ∧
    ((r = 0 ∧ x2 = q ∧ x3 = q * t ∧ x4 = q * s) ∨ (1 ≤ r ∧ r ≤ t + 1 ∧ x2 = q + 1 ∧ x3 = q * t + (r - 1) ∧ x4 = q * s) ∨ (t + 1 ≤ r ∧ x2 = q + 1 ∧ x3 = q * t + t ∧ x4 = q * s + (r - 1 - t))))
theorem Cnt.nonneg {a t s b x1 x2 x3 x4 : Int} (h : Cnt a t s b x1 x2 x3 x4) (ht : 0 ≤ t) (hs : 0 ≤ s) : 0 ≤ x1 ∧ 0 ≤ x2 ∧ 0 ≤ x3 ∧ 0 ≤ x4 := by
  rcases h with h | ⟨h1, q, r, h2, h3, h4, h5, h6⟩
  · omega
  · have e1 := Int.mul_nonneg h2 ht
    have e2 := Int.mul_nonneg h2 hs
    omega
/-- The sum of all is b. -/
theorem Cnt.sum {a t s b x1 x2 x3 x4 : Int} (h : Cnt a t s b x1 x2 x3 x4) (hs : s = a - 1 - t) : x1 + x2 + x3 + x4 = b := by
  rcases h with h | ⟨h1, q, r, h2, h3, h4, h5, h6⟩
  · omega
  · have e : q * s = q * a - q - q * t := by rw [hs, Int.mul_sub, Int.mul_sub, Int.mul_one]
    omega
/-- One block more. -/
theorem Cnt.super {a t s b x1 x2 x3 x4 : Int} (h : Cnt a t s b x1 x2 x3 x4) (ha : 16 ≤ a) (hb : b < 2) : Cnt a t s (b + 1) (x1 + 1) x2 x3 x4 := by
  rcases h with h | ⟨h1, q, r, h2, h3, h4, h5, h6⟩
  · by_cases h0 : b = 0
    · exact .inl (by omega)
    · exact .inr ⟨by omega, 0, 0, by omega, by omega, by omega, by omega, .inl ⟨rfl, by omega, by omega, by omega⟩⟩
  · have := Int.mul_nonneg h2 (show 0 ≤ a by omega); omega
/-- Its group, and its place there. -/
theorem Cnt.parts {a t s b x1 x2 x3 x4 : Int} (h : Cnt a t s b x1 x2 x3 x4) (ha : 16 ≤ a) (hb : 2 ≤ b) : x1 = 2 ∧ ∃ q r, (b - 2) / a = q ∧ (b - 2) % a = r ∧ 0 ≤ q ∧ 0 ≤ r ∧ r < a ∧ b = 2 + q * a + r ∧
    ((r = 0 ∧ x2 = q ∧ x3 = q * t ∧ x4 = q * s) ∨ (1 ≤ r ∧ r ≤ t + 1 ∧ x2 = q + 1 ∧ x3 = q * t + (r - 1) ∧ x4 = q * s) ∨ (t + 1 ≤ r ∧ x2 = q + 1 ∧ x3 = q * t + t ∧ x4 = q * s + (r - 1 - t))) := by
  rcases h with h | ⟨h1, q, r, h2, h3, h4, h5, h6⟩
  · omega
  · obtain ⟨e1, e2⟩ := (Int.ediv_emod_unique (a := b - 2) (b := a) (q := q) (r := r) (by omega)).2 ⟨by rw [Int.mul_comm a]; omega, h3, h4⟩
    exact ⟨h1, q, r, e1, e2, h2, h3, h4, h5, h6⟩
theorem Cnt.header {a t s b x1 x2 x3 x4 : Int} (h : Cnt a t s b x1 x2 x3 x4) (ha : 16 ≤ a) (hb : 2 ≤ b) (ht : 1 ≤ t) (hr : (b - 2) % a = 0) : Cnt a t s (b + 1) x1 (x2 + 1) x3 x4 := by
  obtain ⟨h1, q, r, h2, h3, h4, h5, h6, h7, h8⟩ := h.parts ha hb
  exact .inr ⟨h1, q, 1, h4, by omega, by omega, by omega, .inr (.inl (by omega))⟩
theorem Cnt.table {a t s b x1 x2 x3 x4 : Int} (h : Cnt a t s b x1 x2 x3 x4) (ha : 16 ≤ a) (hb : 2 ≤ b) (hs : t + 5 ≤ a) (hr : (b - 2) % a ≠ 0) (hr2 : (b - 2) % a ≤ t) : Cnt a t s (b + 1) x1 x2 (x3 + 1) x4 := by
  obtain ⟨h1, q, r, h2, h3, h4, h5, h6, h7, h8⟩ := h.parts ha hb
  exact .inr ⟨h1, q, r + 1, h4, by omega, by omega, by omega, .inr (.inl (by omega))⟩
theorem Cnt.data {a t s b x1 x2 x3 x4 : Int} (h : Cnt a t s b x1 x2 x3 x4) (ha : 16 ≤ a) (hb : 2 ≤ b) (ht : 0 ≤ t) (hs : s = a - 1 - t) (hr2 : ¬ (b - 2) % a ≤ t) : Cnt a t s (b + 1) x1 x2 x3 (x4 + 1) := by
  obtain ⟨h1, q, r, h2, h3, h4, h5, h6, h7, h8⟩ := h.parts ha hb
  by_cases hl : r + 1 = a
  · have e1 : (q + 1) * a = q * a + a := by rw [Int.add_mul, Int.one_mul]
    have e2 : (q + 1) * t = q * t + t := by rw [Int.add_mul, Int.one_mul]
    have e3 : (q + 1) * s = q * s + s := by rw [Int.add_mul, Int.one_mul]
    exact .inr ⟨h1, q + 1, 0, by omega, by omega, by omega, by omega, .inl (by omega)⟩
  · exact .inr ⟨h1, q, r + 1, h4, by omega, by omega, by omega, .inr (.inr (by omega))⟩
theorem Cnt.all {a t s n x1 x2 x3 x4 : Int} (h : Cnt a t s (2 + n * a) x1 x2 x3 x4) (ha : 16 ≤ a) (hn : 1 ≤ n) (ht : 0 ≤ t) : x1 = 2 ∧ x2 = n ∧ x3 = n * t ∧ x4 = n * s := by
  have hp : 0 ≤ n * a := Int.mul_nonneg (by omega) (by omega)
  obtain ⟨h1, q, r, h2, h3, h4, h5, h6, h7, h8⟩ := h.parts ha (by omega)
  have e : 2 + n * a - 2 = n * a := by omega
  rw [e, Int.mul_ediv_cancel _ (by omega)] at h2
  rw [e, Int.mul_emod_left] at h3
  subst h2; subst h3
  rcases h8 with h8 | h8 | h8
  · exact ⟨h1, h8.2⟩
  · omega
  · exfalso; omega
structure Whole (w0 : World) (p : Nat) (a i n x1 x2 x3 x4 : Int) (w : World) : Prop where
  l : Lies w0 w0.heap.size a i n w
  r : w.heap[p]? = some (.cells #[.int .i64 0, .int .i64 x1, .int .i64 x2, .int .i64 x3, .int .i64 x4] 3)
  pb : w0.heap.size < p
theorem Whole.below {w0 w w' : World} {p : Nat} {a i n x1 x2 x3 x4 : Int} (h : Whole w0 p a i n x1 x2 x3 x4 w) (hb : Below w.heap.size w w') : Whole w0 p a i n x1 x2 x3 x4 w' :=
  ⟨Lies.under h.l hb, (hb.block p (Array.getElem?_eq_some_iff.1 h.r).1).trans h.r, h.pb⟩
theorem Whole.cell {w0 w : World} {p : Nat} {a i n x1 x2 x3 x4 : Int} (h : Whole w0 p a i n x1 x2 x3 x4 w) (j : Nat) : w.cell? ⟨p, j, none⟩ = #[.int .i64 0, .int .i64 x1, .int .i64 x2, .int .i64 x3, .int .i64 x4][j]? := cell_of_row w p j _ _ _ h.r
theorem Whole.fr {w0 w : World} {p : Nat} {a i n x1 x2 x3 x4 : Int} (h : Whole w0 p a i n x1 x2 x3 x4 w) (j : Nat) : w.frozen? ⟨p, j, none⟩ = false := frozen_of_row w p j _ _ h.r
theorem Lies.put {w0 w : World} {p g j : Nat} {a i n : Int} (hL : Lies w0 g a i n w) (hb : w0.heap.size ≤ p) (hne : p ≠ g) (v : Value) : Lies w0 g a i n (w.setCell ⟨p, j, none⟩ v) :=
  ⟨(World.cell?_setCell_other _ _ _ _ (fun c => hne (congrArg Addr.block c))).trans hL.1, (World.cell?_setCell_other _ _ _ _ (fun c => hne (congrArg Addr.block c))).trans hL.2.1, (World.cell?_setCell_other _ _ _ _ (fun c => hne (congrArg Addr.block c))).trans hL.2.2.1, hL.2.2.2.setCell hb _⟩
theorem Whole.put1 {w0 w : World} {p : Nat} {a i n x1 x2 x3 x4 : Int} (h : Whole w0 p a i n x1 x2 x3 x4 w) : Whole w0 p a i n (x1 + 1) x2 x3 x4 (w.setCell ⟨p, 1, none⟩ (.int .i64 (x1 + 1))) :=
  ⟨Lies.put h.l (by have := h.pb; omega) (by have := h.pb; omega) _, (heap_setCell_same w p 1 _ _ _ h.r).trans rfl, h.pb⟩
theorem Whole.put2 {w0 w : World} {p : Nat} {a i n x1 x2 x3 x4 : Int} (h : Whole w0 p a i n x1 x2 x3 x4 w) : Whole w0 p a i n x1 (x2 + 1) x3 x4 (w.setCell ⟨p, 2, none⟩ (.int .i64 (x2 + 1))) :=
  ⟨Lies.put h.l (by have := h.pb; omega) (by have := h.pb; omega) _, (heap_setCell_same w p 2 _ _ _ h.r).trans rfl, h.pb⟩
theorem Whole.put3 {w0 w : World} {p : Nat} {a i n x1 x2 x3 x4 : Int} (h : Whole w0 p a i n x1 x2 x3 x4 w) : Whole w0 p a i n x1 x2 (x3 + 1) x4 (w.setCell ⟨p, 3, none⟩ (.int .i64 (x3 + 1))) :=
  ⟨Lies.put h.l (by have := h.pb; omega) (by have := h.pb; omega) _, (heap_setCell_same w p 3 _ _ _ h.r).trans rfl, h.pb⟩
theorem Whole.put4 {w0 w : World} {p : Nat} {a i n x1 x2 x3 x4 : Int} (h : Whole w0 p a i n x1 x2 x3 x4 w) : Whole w0 p a i n x1 x2 x3 (x4 + 1) (w.setCell ⟨p, 4, none⟩ (.int .i64 (x4 + 1))) :=
  ⟨Lies.put h.l (by have := h.pb; omega) (by have := h.pb; omega) _, (heap_setCell_same w p 4 _ _ _ h.r).trans rfl, h.pb⟩
theorem tables_ok {a i n : Int} (h : okG a i n) (w : World) : Calls Try.prog 19 #[.agg #[.int .i64 a, .int .i64 i, .int .i64 n]] w fun e w' => e = .returned (.int .i64 (i / 4)) ∧ Below w.heap.size w w' := by
  have := tables_any a i n w; rw [if_pos h] at this; exact this
theorem Try.info3 : (Try.prog.info? 3).map (fun i => (i.zero, i.size, i.bytes)) = some (some (.int .i64 0), 1, 8) := by kernel_rfl
theorem info3_parts : ∃ i : TypeInfo, Try.prog.info? 3 = some i ∧ i.zero = some (.int .i64 0) ∧ i.size = 1 ∧ i.bytes = 8 := by
  have h := Try.info3
  cases hi : Try.prog.info? 3 with
  | none => rw [hi] at h; cases h
  | some i => rw [hi] at h; simp at h; exact ⟨i, rfl, h⟩
theorem make5 (w : World) : (Instr.makeSlice 41 (.int .i64 5) (.int .i64 5)).run Try.prog w = .ok (.slice (some ⟨w.heap.size, 0, none⟩) 5 5) (w.alloc (.cells #[.int .i64 0, .int .i64 0, .int .i64 0, .int .i64 0, .int .i64 0] 3)) := by
  obtain ⟨i0, hi, hz0, hz1, hz2⟩ := info3_parts
  have h := run_make (P := Try.prog) w 41 3 i0 _ Try.underlying41 hi hz0 .i64 .i64 5 5 (by omega) (by omega) (by rw [hz2]; omega) (by omega)
  rw [h, hz1]
  have e : madeCells (Value.int IntKind.i64 0).cells ((5 : Int).toNat * 1) = #[.int .i64 0, .int .i64 0, .int .i64 0, .int .i64 0, .int .i64 0] := by
    apply Array.toList_inj.1
    exact toList_madeCells_one _ _
  rw [e]
  rfl
attribute [local go_sem] wrapI decF decT
set_option maxHeartbeats 4000000 in
theorem whole_walk (a i n : Int) (w : World) :
    Calls Try.prog 6 #[.agg #[.int .i64 a, .int .i64 i, .int .i64 n]] w fun e w' => e = .returned (.bool true) ∧ Below w.heap.size w w' := by
  have hb : Below w.heap.size w (w.alloc (.cells #[.int .i64 a, .int .i64 i, .int .i64 n] 23)) := (Below.refl _ _).alloc (Nat.le_refl _) _
  have L0 : Lies w w.heap.size a i n (w.alloc (.cells #[.int .i64 a, .int .i64 i, .int .i64 n] 23)) := ⟨by go_simp, by go_simp, by go_simp, hb⟩
  have KN := known_any
  by_cases hok : okG a i n
  · have RR := rright_ok hok
    have hp := hok.prod
    have hq0 := hok.box
    go_enter Try.func6, Try.ntmps6
    go_wp2_with (first | (go_at_call 14; refine (keep3 w.heap.size a i n w ?_ (RR _)).mono ?_; (first | exact L0 | exact ⟨k0, k1, k2, kb⟩); (try clear k0 k1 k2 kb); rintro e w1 ⟨rfl, k0, k1, k2, kb⟩))
    have HL : Hid (Lies w w.heap.size a i n w1) := ⟨k0, k1, k2, kb⟩
    have hlw : w.heap.size < w1.heap.size := block_lt_of_cell k0
    have hal : Below w1.heap.size w1 (w1.alloc (.cells #[.int .i64 0, .int .i64 0, .int .i64 0, .int .i64 0, .int .i64 0] 3)) := (Below.refl _ _).alloc (Nat.le_refl _) _
    have HW0 : Hid (Whole w w1.heap.size a i n 0 0 0 0 (w1.alloc (.cells #[.int .i64 0, .int .i64 0, .int .i64 0, .int .i64 0, .int .i64 0] 3))) := ⟨Lies.under HL.out hal, heap_alloc_new _ _, hlw⟩
    clear k0 k1 k2 kb hal L0 hb HL hlw
    rw [show Sem.run Try.prog (Instr.makeSlice 41 (.int .i64 5) (.int .i64 5)) w1 = _ from make5 w1]
    go_wp2
    generalize w1.heap.size = p at HW0 ⊢
    generalize (w1.alloc (.cells #[.int .i64 0, .int .i64 0, .int .i64 0, .int .i64 0, .int .i64 0] 3)) = W0 at HW0 ⊢
    have SZ := size_ok hok
    have hn1 : 1 ≤ n := (okG_iff.1 hok).2.2.2.2.2.1
    have hn2 := (okG_iff.1 hok).2.2.2.2.2.2.2
    have hi4 := (okG_iff.1 hok).2.2.2.2.1
    go_loopw [4] (fun v wr => ∃ b x1 x2 x3 x4 : Int, v = .int .i64 b ∧ b ≤ 2 + n * a ∧ Cnt a (i / 4) (a - 1 - i / 4) b x1 x2 x3 x4 ∧ Whole w p a i n x1 x2 x3 x4 wr) (fun v _ => (2 + n * a - intOf v).toNat)
    case atStart => exact ⟨0, 0, 0, 0, 0, rfl, by omega, .inl (by omega), HW0.out⟩
    case round =>
      obtain ⟨b, x1, x2, x3, x4, rfl, hbl, hC, hW⟩ := hrel
      have hnn := hC.nonneg (by omega) (by omega)
      have hsm := hC.sum rfl
      have HC : Hid (Cnt a (i / 4) (a - 1 - i / 4) b x1 x2 x3 x4) := hC
      have HW : Hid (Whole w p a i n x1 x2 x3 x4 wr) := hW
      obtain ⟨k0, k1, k2, _⟩ := hW.l
      clear hC hW HW0
      by_cases hlt : b < 2 + n * a
      · have hin : okG a i n ∧ 0 ≤ b ∧ b < 2 + n * a := ⟨hok, by omega, hlt⟩
        have KD := kind_any a i n b
        by_cases hb2 : b < 2
        · have RG := range_any a i n (-1)
          rw [← fromV_out (a := a) (i := i) (n := n) (k := -1) (by omega), ← toV_out (a := a) (i := i) (n := n) (k := -1) (by omega)] at RG
          rw [← kindV_one hin hb2, ← kindG_one hb2] at KD
          clear hin
          go_wp2_with fail
          refine (SZ _).mono ?_
          rintro e w2 ⟨rfl, hb3⟩
          have HW2 : Hid (Whole w p a i n x1 x2 x3 x4 w2) := HW.out.below hb3
          clear k0 k1 k2
          obtain ⟨k0, k1, k2, _⟩ := HW2.out.l
          go_wp2_with fail
          refine (KD _).mono ?_
          rintro e w3 ⟨rfl, hb4⟩
          have HW3 : Hid (Whole w p a i n x1 x2 x3 x4 w3) := HW2.out.below hb4
          clear k0 k1 k2
          obtain ⟨k0, k1, k2, _⟩ := HW3.out.l
          have cx : w3.cell? ⟨p, 1, none⟩ = some (.int .i64 x1) := HW3.out.cell 1
          have fx := HW3.out.fr 1
          have HW4 : Hid (Whole w p a i n (x1 + 1) x2 x3 x4 (w3.setCell ⟨p, 1, none⟩ (.int .i64 (x1 + 1)))) := HW3.out.put1
          obtain ⟨j0, j1, j2, _⟩ := HW4.out.l
          go_wp2_with fail
          refine (RG _).mono ?_
          rintro e w5 ⟨rfl, hb6⟩
          have HW5 : Hid (Whole w p a i n (x1 + 1) x2 x3 x4 w5) := HW4.out.below hb6
          clear k0 k1 k2 j0 j1 j2 cx fx
          go_wp2
          go_roundw
          case rel => exact ⟨b + 1, (x1 + 1), x2, x3, x4, rfl, by omega, HC.out.super hq0.1 hb2, HW5.out⟩
          case measure => simp [intOf]; omega
        obtain ⟨q, r, hq, hr, hqr, hr2, hr3, hq1, hq2⟩ := parts (a := a) (n := n) (x := b - 2) hq0.1 (by omega) (by omega)
        have RG := range_any a i n q
        rw [← fromV_in hok hq1 hq2, ← toV_in hok hq1 hq2] at RG
        rw [kindV_in hin (by omega) hr, ← kindG_in hin (by omega) hq] at KD
        have hgl := grp_le hok hq1 hq2
        clear hin
        by_cases hz0 : r = 0
        · rw [if_pos hz0] at KD
          have hz : (b - 2) % a = 0 := by omega
          have hF : b < 2 + q * a + (1 + i / 4) := by omega
          clear hr hq
          go_wp2_with fail
          refine (SZ _).mono ?_
          rintro e w2 ⟨rfl, hb3⟩
          have HW2 : Hid (Whole w p a i n x1 x2 x3 x4 w2) := HW.out.below hb3
          clear k0 k1 k2
          obtain ⟨k0, k1, k2, _⟩ := HW2.out.l
          go_wp2_with fail
          refine (KD _).mono ?_
          rintro e w3 ⟨rfl, hb4⟩
          have HW3 : Hid (Whole w p a i n x1 x2 x3 x4 w3) := HW2.out.below hb4
          clear k0 k1 k2
          obtain ⟨k0, k1, k2, _⟩ := HW3.out.l
          have cx : w3.cell? ⟨p, 2, none⟩ = some (.int .i64 x2) := HW3.out.cell 2
          have fx := HW3.out.fr 2
          have HW4 : Hid (Whole w p a i n x1 (x2 + 1) x3 x4 (w3.setCell ⟨p, 2, none⟩ (.int .i64 (x2 + 1)))) := HW3.out.put2
          obtain ⟨j0, j1, j2, _⟩ := HW4.out.l
          go_wp2_with fail
          refine (RG _).mono ?_
          rintro e w5 ⟨rfl, hb6⟩
          have HW5 : Hid (Whole w p a i n x1 (x2 + 1) x3 x4 w5) := HW4.out.below hb6
          clear k0 k1 k2 j0 j1 j2 cx fx
          go_wp2
          go_roundw
          case rel => exact ⟨b + 1, x1, (x2 + 1), x3, x4, rfl, by omega, HC.out.header hq0.1 (by omega) (by omega) hz, HW5.out⟩
          case measure => simp [intOf]; omega
        rw [if_neg hz0] at KD
        have hz : (b - 2) % a ≠ 0 := by omega
        by_cases hz3 : r ≤ i / 4
        · rw [if_pos hz3] at KD
          have hz2 : (b - 2) % a ≤ i / 4 := by omega
          have hF : b < 2 + q * a + (1 + i / 4) := by omega
          clear hr hq
          go_wp2_with fail
          refine (SZ _).mono ?_
          rintro e w2 ⟨rfl, hb3⟩
          have HW2 : Hid (Whole w p a i n x1 x2 x3 x4 w2) := HW.out.below hb3
          clear k0 k1 k2
          obtain ⟨k0, k1, k2, _⟩ := HW2.out.l
          go_wp2_with fail
          refine (KD _).mono ?_
          rintro e w3 ⟨rfl, hb4⟩
          have HW3 : Hid (Whole w p a i n x1 x2 x3 x4 w3) := HW2.out.below hb4
          clear k0 k1 k2
          obtain ⟨k0, k1, k2, _⟩ := HW3.out.l
          have cx : w3.cell? ⟨p, 3, none⟩ = some (.int .i64 x3) := HW3.out.cell 3
          have fx := HW3.out.fr 3
          have HW4 : Hid (Whole w p a i n x1 x2 (x3 + 1) x4 (w3.setCell ⟨p, 3, none⟩ (.int .i64 (x3 + 1)))) := HW3.out.put3
          obtain ⟨j0, j1, j2, _⟩ := HW4.out.l
          go_wp2_with fail
          refine (RG _).mono ?_
          rintro e w5 ⟨rfl, hb6⟩
          have HW5 : Hid (Whole w p a i n x1 x2 (x3 + 1) x4 w5) := HW4.out.below hb6
          clear k0 k1 k2 j0 j1 j2 cx fx
          go_wp2
          go_roundw
          case rel => exact ⟨b + 1, x1, x2, (x3 + 1), x4, rfl, by omega, HC.out.table hq0.1 (by omega) (by omega) hz hz2, HW5.out⟩
          case measure => simp [intOf]; omega
        rw [if_neg hz3] at KD
        have hz2 : ¬ (b - 2) % a ≤ i / 4 := by omega
        have hF : 2 + q * a + (1 + i / 4) ≤ b := by omega
        have hT : b < 2 + q * a + a := by omega
        clear hr hq
        go_wp2_with fail
        refine (SZ _).mono ?_
        rintro e w2 ⟨rfl, hb3⟩
        have HW2 : Hid (Whole w p a i n x1 x2 x3 x4 w2) := HW.out.below hb3
        clear k0 k1 k2
        obtain ⟨k0, k1, k2, _⟩ := HW2.out.l
        go_wp2_with fail
        refine (KD _).mono ?_
        rintro e w3 ⟨rfl, hb4⟩
        have HW3 : Hid (Whole w p a i n x1 x2 x3 x4 w3) := HW2.out.below hb4
        clear k0 k1 k2
        obtain ⟨k0, k1, k2, _⟩ := HW3.out.l
        have cx : w3.cell? ⟨p, 4, none⟩ = some (.int .i64 x4) := HW3.out.cell 4
        have fx := HW3.out.fr 4
        have HW4 : Hid (Whole w p a i n x1 x2 x3 (x4 + 1) (w3.setCell ⟨p, 4, none⟩ (.int .i64 (x4 + 1)))) := HW3.out.put4
        obtain ⟨j0, j1, j2, _⟩ := HW4.out.l
        go_wp2_with fail
        refine (RG _).mono ?_
        rintro e w5 ⟨rfl, hb6⟩
        have HW5 : Hid (Whole w p a i n x1 x2 x3 (x4 + 1) w5) := HW4.out.below hb6
        clear k0 k1 k2 j0 j1 j2 cx fx
        go_wp2
        go_roundw
        case rel => exact ⟨b + 1, x1, x2, x3, (x4 + 1), rfl, by omega, HC.out.data hq0.1 (by omega) (by omega) rfl (by omega), HW5.out⟩
        case measure => simp [intOf]; omega
      · obtain rfl : b = 2 + n * a := by omega
        obtain ⟨e1, e2, e3, e4⟩ := HC.out.all hq0.1 hn1 (by omega)
        have HW2 : Hid (Whole w p a i n 2 n (n * (i / 4)) (n * (a - 1 - i / 4)) wr) := by have := HW.out; rw [e1, e2, e3, e4] at this; exact this
        clear e1 e2 e3 e4 HC HW hnn hsm
        go_wp2_with fail
        refine (SZ _).mono ?_
        rintro e w2 ⟨rfl, hb3⟩
        have hbd : Whole w p a i n 2 n (n * (i / 4)) (n * (a - 1 - i / 4)) w2.drew := (HW2.out.below hb3).below (Below.refl _ _).drew
        clear k0 k1 k2 HW2 hb3
        have h43 : 4 * (n * (i / 4)) = n * i := by
          rw [Int.mul_left_comm]; congr 1; omega
        have hp2 := hok.prod2
        have hp3 : 0 ≤ n * (a - 1 - i / 4) := Int.mul_nonneg (by omega) (by omega)
        have hp4 : n * (a - 1 - i / 4) ≤ n * a := Int.mul_le_mul_of_nonneg_left (by omega) (by omega)
        have i1 : In64 (n * i) := ⟨by omega⟩
        have i2 : In64 (a - 1) := ⟨by omega⟩
        have i3 : In64 (a - 1 - i / 4) := ⟨by omega⟩
        have i4 : In64 (n * (a - 1 - i / 4)) := ⟨by omega⟩
        have SL := slots_ok hok
        have TB := tables_ok hok
        go_wp2_with fail
        refine wp_region_held_drew (S := (fun w' => Whole w p a i n 2 n (n * (i / 4)) (n * (a - 1 - i / 4)) w')) (by kernel_rfl) hbd (fun hH => ?_)
        refine takeH (i := 0) (dst := some 60) (v := ?v1) rfl rfl (by kernel_rfl) (by kernel_rfl) (by kernel_rfl) (fun _ _ _ h => h) rfl ?hy1 hH rfl ?rest1
        case hy1 => (intro W hW; have q0 := hW.l.1; have q1 := hW.l.2.1; have q2 := hW.l.2.2.1; have y1 : W.cell? ⟨p, 1, none⟩ = some (.int .i64 2) := hW.cell 1; have y2 : W.cell? ⟨p, 2, none⟩ = some (.int .i64 n) := hW.cell 2; have y3 : W.cell? ⟨p, 3, none⟩ = some (.int .i64 (n * (i / 4))) := hW.cell 3; have y4 : W.cell? ⟨p, 4, none⟩ = some (.int .i64 (n * (a - 1 - i / 4))) := hW.cell 4; clear hW; go_simp; try with_reducible rfl)
        (try simp only [Act.put, List.setIfInBounds_toArray, List.set_cons_zero, List.set_cons_succ])
        refine takeH (i := 1) (dst := some 61) (v := ?v2) rfl rfl (by kernel_rfl) (by kernel_rfl) (by kernel_rfl) (fun _ _ _ h => h) rfl ?hy2 hH rfl ?rest2
        case hy2 => (intro W hW; have q0 := hW.l.1; have q1 := hW.l.2.1; have q2 := hW.l.2.2.1; have y1 : W.cell? ⟨p, 1, none⟩ = some (.int .i64 2) := hW.cell 1; have y2 : W.cell? ⟨p, 2, none⟩ = some (.int .i64 n) := hW.cell 2; have y3 : W.cell? ⟨p, 3, none⟩ = some (.int .i64 (n * (i / 4))) := hW.cell 3; have y4 : W.cell? ⟨p, 4, none⟩ = some (.int .i64 (n * (a - 1 - i / 4))) := hW.cell 4; clear hW; go_simp; try with_reducible rfl)
        (try simp only [Act.put, List.setIfInBounds_toArray, List.set_cons_zero, List.set_cons_succ])
        refine takeH (i := 2) (dst := some 62) (v := ?v3) rfl rfl (by kernel_rfl) (by kernel_rfl) (by kernel_rfl) (fun _ _ _ h => h) rfl ?hy3 hH rfl ?rest3
        case hy3 => (intro W hW; have q0 := hW.l.1; have q1 := hW.l.2.1; have q2 := hW.l.2.2.1; have y1 : W.cell? ⟨p, 1, none⟩ = some (.int .i64 2) := hW.cell 1; have y2 : W.cell? ⟨p, 2, none⟩ = some (.int .i64 n) := hW.cell 2; have y3 : W.cell? ⟨p, 3, none⟩ = some (.int .i64 (n * (i / 4))) := hW.cell 3; have y4 : W.cell? ⟨p, 4, none⟩ = some (.int .i64 (n * (a - 1 - i / 4))) := hW.cell 4; clear hW; go_simp; try with_reducible rfl)
        (try simp only [Act.put, List.setIfInBounds_toArray, List.set_cons_zero, List.set_cons_succ])
        refine takeH (i := 3) (dst := some 63) (v := ?v4) rfl rfl (by kernel_rfl) (by kernel_rfl) (by kernel_rfl) (fun _ _ _ h => h) rfl ?hy4 hH rfl ?rest4
        case hy4 => (intro W hW; have q0 := hW.l.1; have q1 := hW.l.2.1; have q2 := hW.l.2.2.1; have y1 : W.cell? ⟨p, 1, none⟩ = some (.int .i64 2) := hW.cell 1; have y2 : W.cell? ⟨p, 2, none⟩ = some (.int .i64 n) := hW.cell 2; have y3 : W.cell? ⟨p, 3, none⟩ = some (.int .i64 (n * (i / 4))) := hW.cell 3; have y4 : W.cell? ⟨p, 4, none⟩ = some (.int .i64 (n * (a - 1 - i / 4))) := hW.cell 4; clear hW; go_simp; try with_reducible rfl)
        (try simp only [Act.put, List.setIfInBounds_toArray, List.set_cons_zero, List.set_cons_succ])
        refine takeH (i := 4) (dst := some 64) (v := ?v5) rfl rfl (by kernel_rfl) (by kernel_rfl) (by kernel_rfl) (fun _ _ _ h => h) rfl ?hy5 hH rfl ?rest5
        case hy5 => (intro W hW; have q0 := hW.l.1; have q1 := hW.l.2.1; have q2 := hW.l.2.2.1; have y1 : W.cell? ⟨p, 1, none⟩ = some (.int .i64 2) := hW.cell 1; have y2 : W.cell? ⟨p, 2, none⟩ = some (.int .i64 n) := hW.cell 2; have y3 : W.cell? ⟨p, 3, none⟩ = some (.int .i64 (n * (i / 4))) := hW.cell 3; have y4 : W.cell? ⟨p, 4, none⟩ = some (.int .i64 (n * (a - 1 - i / 4))) := hW.cell 4; clear hW; go_simp; try with_reducible rfl)
        (try simp only [Act.put, List.setIfInBounds_toArray, List.set_cons_zero, List.set_cons_succ])
        refine takeH (i := 5) (dst := some 65) (v := ?v6) rfl rfl (by kernel_rfl) (by kernel_rfl) (by kernel_rfl) (fun _ _ _ h => h) rfl ?hy6 hH rfl ?rest6
        case hy6 => (intro W hW; have q0 := hW.l.1; have q1 := hW.l.2.1; have q2 := hW.l.2.2.1; have y1 : W.cell? ⟨p, 1, none⟩ = some (.int .i64 2) := hW.cell 1; have y2 : W.cell? ⟨p, 2, none⟩ = some (.int .i64 n) := hW.cell 2; have y3 : W.cell? ⟨p, 3, none⟩ = some (.int .i64 (n * (i / 4))) := hW.cell 3; have y4 : W.cell? ⟨p, 4, none⟩ = some (.int .i64 (n * (a - 1 - i / 4))) := hW.cell 4; clear hW; go_simp; try with_reducible rfl)
        (try simp only [Act.put, List.setIfInBounds_toArray, List.set_cons_zero, List.set_cons_succ])
        refine takeH (i := 6) (dst := some 66) (v := ?v7) rfl rfl (by kernel_rfl) (by kernel_rfl) (by kernel_rfl) (fun _ _ _ h => h) rfl ?hy7 hH rfl ?rest7
        case hy7 => (intro W hW; have q0 := hW.l.1; have q1 := hW.l.2.1; have q2 := hW.l.2.2.1; have y1 : W.cell? ⟨p, 1, none⟩ = some (.int .i64 2) := hW.cell 1; have y2 : W.cell? ⟨p, 2, none⟩ = some (.int .i64 n) := hW.cell 2; have y3 : W.cell? ⟨p, 3, none⟩ = some (.int .i64 (n * (i / 4))) := hW.cell 3; have y4 : W.cell? ⟨p, 4, none⟩ = some (.int .i64 (n * (a - 1 - i / 4))) := hW.cell 4; clear hW; go_simp; try with_reducible rfl)
        (try simp only [Act.put, List.setIfInBounds_toArray, List.set_cons_zero, List.set_cons_succ])
        refine takeH (i := 7) (dst := some 67) (v := ?v8) rfl rfl (by kernel_rfl) (by kernel_rfl) (by kernel_rfl) (fun _ _ _ h => h) rfl ?hy8 hH rfl ?rest8
        case hy8 => (intro W hW; have q0 := hW.l.1; have q1 := hW.l.2.1; have q2 := hW.l.2.2.1; have y1 : W.cell? ⟨p, 1, none⟩ = some (.int .i64 2) := hW.cell 1; have y2 : W.cell? ⟨p, 2, none⟩ = some (.int .i64 n) := hW.cell 2; have y3 : W.cell? ⟨p, 3, none⟩ = some (.int .i64 (n * (i / 4))) := hW.cell 3; have y4 : W.cell? ⟨p, 4, none⟩ = some (.int .i64 (n * (a - 1 - i / 4))) := hW.cell 4; clear hW; go_simp; try with_reducible rfl)
        (try simp only [Act.put, List.setIfInBounds_toArray, List.set_cons_zero, List.set_cons_succ])
        refine takeH (i := 8) (dst := some 68) (v := ?v9) rfl rfl (by kernel_rfl) (by kernel_rfl) (by kernel_rfl) (fun _ _ _ h => h) rfl ?hy9 hH rfl ?rest9
        case hy9 => (intro W hW; have q0 := hW.l.1; have q1 := hW.l.2.1; have q2 := hW.l.2.2.1; have y1 : W.cell? ⟨p, 1, none⟩ = some (.int .i64 2) := hW.cell 1; have y2 : W.cell? ⟨p, 2, none⟩ = some (.int .i64 n) := hW.cell 2; have y3 : W.cell? ⟨p, 3, none⟩ = some (.int .i64 (n * (i / 4))) := hW.cell 3; have y4 : W.cell? ⟨p, 4, none⟩ = some (.int .i64 (n * (a - 1 - i / 4))) := hW.cell 4; clear hW; go_simp; try with_reducible rfl)
        (try simp only [Act.put, List.setIfInBounds_toArray, List.set_cons_zero, List.set_cons_succ])
        refine takeH (i := 9) (dst := some 69) (v := ?v10) rfl rfl (by kernel_rfl) (by kernel_rfl) (by kernel_rfl) (fun _ _ _ h => h) rfl ?hy10 hH rfl ?rest10
        case hy10 => (intro W hW; have q0 := hW.l.1; have q1 := hW.l.2.1; have q2 := hW.l.2.2.1; have y1 : W.cell? ⟨p, 1, none⟩ = some (.int .i64 2) := hW.cell 1; have y2 : W.cell? ⟨p, 2, none⟩ = some (.int .i64 n) := hW.cell 2; have y3 : W.cell? ⟨p, 3, none⟩ = some (.int .i64 (n * (i / 4))) := hW.cell 3; have y4 : W.cell? ⟨p, 4, none⟩ = some (.int .i64 (n * (a - 1 - i / 4))) := hW.cell 4; clear hW; go_simp; try with_reducible rfl)
        (try simp only [Act.put, List.setIfInBounds_toArray, List.set_cons_zero, List.set_cons_succ])
        refine takeH (i := 10) (dst := some 70) (v := ?v11) rfl rfl (by kernel_rfl) (by kernel_rfl) (by kernel_rfl) (fun _ _ _ h => h) rfl ?hy11 hH rfl ?rest11
        case hy11 => (intro W hW; have q0 := hW.l.1; have q1 := hW.l.2.1; have q2 := hW.l.2.2.1; have y1 : W.cell? ⟨p, 1, none⟩ = some (.int .i64 2) := hW.cell 1; have y2 : W.cell? ⟨p, 2, none⟩ = some (.int .i64 n) := hW.cell 2; have y3 : W.cell? ⟨p, 3, none⟩ = some (.int .i64 (n * (i / 4))) := hW.cell 3; have y4 : W.cell? ⟨p, 4, none⟩ = some (.int .i64 (n * (a - 1 - i / 4))) := hW.cell 4; clear hW; go_simp; try with_reducible rfl)
        (try simp only [Act.put, List.setIfInBounds_toArray, List.set_cons_zero, List.set_cons_succ])
        refine takeH (i := 11) (dst := some 71) (v := ?v12) rfl rfl (by kernel_rfl) (by kernel_rfl) (by kernel_rfl) (fun _ _ _ h => h) rfl ?hy12 hH rfl ?rest12
        case hy12 => (intro W hW; have q0 := hW.l.1; have q1 := hW.l.2.1; have q2 := hW.l.2.2.1; have y1 : W.cell? ⟨p, 1, none⟩ = some (.int .i64 2) := hW.cell 1; have y2 : W.cell? ⟨p, 2, none⟩ = some (.int .i64 n) := hW.cell 2; have y3 : W.cell? ⟨p, 3, none⟩ = some (.int .i64 (n * (i / 4))) := hW.cell 3; have y4 : W.cell? ⟨p, 4, none⟩ = some (.int .i64 (n * (a - 1 - i / 4))) := hW.cell 4; clear hW; go_simp; try with_reducible rfl)
        (try simp only [Act.put, List.setIfInBounds_toArray, List.set_cons_zero, List.set_cons_succ])
        refine takeH (i := 12) (dst := some 72) (v := ?v13) rfl rfl (by kernel_rfl) (by kernel_rfl) (by kernel_rfl) (fun _ _ _ h => h) rfl ?hy13 hH rfl ?rest13
        case hy13 => (intro W hW; have q0 := hW.l.1; have q1 := hW.l.2.1; have q2 := hW.l.2.2.1; have y1 : W.cell? ⟨p, 1, none⟩ = some (.int .i64 2) := hW.cell 1; have y2 : W.cell? ⟨p, 2, none⟩ = some (.int .i64 n) := hW.cell 2; have y3 : W.cell? ⟨p, 3, none⟩ = some (.int .i64 (n * (i / 4))) := hW.cell 3; have y4 : W.cell? ⟨p, 4, none⟩ = some (.int .i64 (n * (a - 1 - i / 4))) := hW.cell 4; clear hW; go_simp; try with_reducible rfl)
        (try simp only [Act.put, List.setIfInBounds_toArray, List.set_cons_zero, List.set_cons_succ])
        refine takeH (i := 13) (dst := some 73) (v := ?v14) rfl rfl (by kernel_rfl) (by kernel_rfl) (by kernel_rfl) (fun _ _ _ h => h) rfl ?hy14 hH rfl ?rest14
        case hy14 => (intro W hW; have q0 := hW.l.1; have q1 := hW.l.2.1; have q2 := hW.l.2.2.1; have y1 : W.cell? ⟨p, 1, none⟩ = some (.int .i64 2) := hW.cell 1; have y2 : W.cell? ⟨p, 2, none⟩ = some (.int .i64 n) := hW.cell 2; have y3 : W.cell? ⟨p, 3, none⟩ = some (.int .i64 (n * (i / 4))) := hW.cell 3; have y4 : W.cell? ⟨p, 4, none⟩ = some (.int .i64 (n * (a - 1 - i / 4))) := hW.cell 4; clear hW; go_simp; try with_reducible rfl)
        (try simp only [Act.put, List.setIfInBounds_toArray, List.set_cons_zero, List.set_cons_succ])
        refine takeH (i := 14) (dst := some 74) (v := ?v15) rfl rfl (by kernel_rfl) (by kernel_rfl) (by kernel_rfl) (fun _ _ _ h => h) rfl ?hy15 hH rfl ?rest15
        case hy15 => (intro W hW; have q0 := hW.l.1; have q1 := hW.l.2.1; have q2 := hW.l.2.2.1; have y1 : W.cell? ⟨p, 1, none⟩ = some (.int .i64 2) := hW.cell 1; have y2 : W.cell? ⟨p, 2, none⟩ = some (.int .i64 n) := hW.cell 2; have y3 : W.cell? ⟨p, 3, none⟩ = some (.int .i64 (n * (i / 4))) := hW.cell 3; have y4 : W.cell? ⟨p, 4, none⟩ = some (.int .i64 (n * (a - 1 - i / 4))) := hW.cell 4; clear hW; go_simp; try with_reducible rfl)
        (try simp only [Act.put, List.setIfInBounds_toArray, List.set_cons_zero, List.set_cons_succ])
        refine takeH (i := 15) (dst := some 75) (v := ?v16) rfl rfl (by kernel_rfl) (by kernel_rfl) (by kernel_rfl) (fun _ _ _ h => h) rfl ?hy16 hH rfl ?rest16
        case hy16 => (intro W hW; have q0 := hW.l.1; have q1 := hW.l.2.1; have q2 := hW.l.2.2.1; have y1 : W.cell? ⟨p, 1, none⟩ = some (.int .i64 2) := hW.cell 1; have y2 : W.cell? ⟨p, 2, none⟩ = some (.int .i64 n) := hW.cell 2; have y3 : W.cell? ⟨p, 3, none⟩ = some (.int .i64 (n * (i / 4))) := hW.cell 3; have y4 : W.cell? ⟨p, 4, none⟩ = some (.int .i64 (n * (a - 1 - i / 4))) := hW.cell 4; clear hW; go_simp; try with_reducible rfl)
        (try simp only [Act.put, List.setIfInBounds_toArray, List.set_cons_zero, List.set_cons_succ])
        refine takeH (i := 16) (dst := some 76) (v := ?v17) rfl rfl (by kernel_rfl) (by kernel_rfl) (by kernel_rfl) (fun _ _ _ h => h) rfl ?hy17 hH rfl ?rest17
        case hy17 => (intro W hW; have q0 := hW.l.1; have q1 := hW.l.2.1; have q2 := hW.l.2.2.1; have y1 : W.cell? ⟨p, 1, none⟩ = some (.int .i64 2) := hW.cell 1; have y2 : W.cell? ⟨p, 2, none⟩ = some (.int .i64 n) := hW.cell 2; have y3 : W.cell? ⟨p, 3, none⟩ = some (.int .i64 (n * (i / 4))) := hW.cell 3; have y4 : W.cell? ⟨p, 4, none⟩ = some (.int .i64 (n * (a - 1 - i / 4))) := hW.cell 4; clear hW; go_simp; try with_reducible rfl)
        (try simp only [Act.put, List.setIfInBounds_toArray, List.set_cons_zero, List.set_cons_succ])
        refine takeH (i := 17) (dst := some 77) (v := ?v18) rfl rfl (by kernel_rfl) (by kernel_rfl) (by kernel_rfl) (fun _ _ _ h => h) rfl ?hy18 hH rfl ?rest18
        case hy18 => (intro W hW; have q0 := hW.l.1; have q1 := hW.l.2.1; have q2 := hW.l.2.2.1; have y1 : W.cell? ⟨p, 1, none⟩ = some (.int .i64 2) := hW.cell 1; have y2 : W.cell? ⟨p, 2, none⟩ = some (.int .i64 n) := hW.cell 2; have y3 : W.cell? ⟨p, 3, none⟩ = some (.int .i64 (n * (i / 4))) := hW.cell 3; have y4 : W.cell? ⟨p, 4, none⟩ = some (.int .i64 (n * (a - 1 - i / 4))) := hW.cell 4; clear hW; go_simp; try with_reducible rfl)
        (try simp only [Act.put, List.setIfInBounds_toArray, List.set_cons_zero, List.set_cons_succ])
        refine callH (i := 18) { dst := some 78, op := Go.Op.call { callee := Go.Callee.value (Go.Operand.func 17), args := #[Go.Operand.tmp 77], argTypes := #[23] }, type := 3, pos := "law.go:70", after := #[{ on := 17, ground := Go.Ground.data }, { on := 12, ground := Go.Ground.chain }, { on := 12, ground := Go.Ground.guard }], guard := some (12, true) } (by kernel_rfl) rfl rfl (fun K hK => ?_)
        go_simp
        refine (SL _).mono ?_
        rintro e v18 ⟨rfl, b18⟩
        have m18 := hH.below b18
        clear hH
        refine hK.out _ _ m18 (fun hH => ?_)
        clear hK K
        (try simp only [Act.put, List.setIfInBounds_toArray, List.set_cons_zero, List.set_cons_succ])
        refine takeH (i := 19) (dst := some 79) (v := ?v19) rfl rfl (by kernel_rfl) (by kernel_rfl) (by kernel_rfl) (fun _ _ _ h => h) rfl ?hy19 hH rfl ?rest19
        case hy19 => (intro W hW; have q0 := hW.l.1; have q1 := hW.l.2.1; have q2 := hW.l.2.2.1; have y1 : W.cell? ⟨p, 1, none⟩ = some (.int .i64 2) := hW.cell 1; have y2 : W.cell? ⟨p, 2, none⟩ = some (.int .i64 n) := hW.cell 2; have y3 : W.cell? ⟨p, 3, none⟩ = some (.int .i64 (n * (i / 4))) := hW.cell 3; have y4 : W.cell? ⟨p, 4, none⟩ = some (.int .i64 (n * (a - 1 - i / 4))) := hW.cell 4; clear hW; go_simp; try with_reducible rfl)
        (try simp only [Act.put, List.setIfInBounds_toArray, List.set_cons_zero, List.set_cons_succ])
        refine takeH (i := 20) (dst := some 80) (v := ?v20) rfl rfl (by kernel_rfl) (by kernel_rfl) (by kernel_rfl) (fun _ _ _ h => h) rfl ?hy20 hH rfl ?rest20
        case hy20 => (intro W hW; have q0 := hW.l.1; have q1 := hW.l.2.1; have q2 := hW.l.2.2.1; have y1 : W.cell? ⟨p, 1, none⟩ = some (.int .i64 2) := hW.cell 1; have y2 : W.cell? ⟨p, 2, none⟩ = some (.int .i64 n) := hW.cell 2; have y3 : W.cell? ⟨p, 3, none⟩ = some (.int .i64 (n * (i / 4))) := hW.cell 3; have y4 : W.cell? ⟨p, 4, none⟩ = some (.int .i64 (n * (a - 1 - i / 4))) := hW.cell 4; clear hW; go_simp; try with_reducible rfl)
        (try simp only [Act.put, List.setIfInBounds_toArray, List.set_cons_zero, List.set_cons_succ])
        refine takeH (i := 21) (dst := some 81) (v := ?v21) rfl rfl (by kernel_rfl) (by kernel_rfl) (by kernel_rfl) (fun _ _ _ h => h) rfl ?hy21 hH rfl ?rest21
        case hy21 => (intro W hW; have q0 := hW.l.1; have q1 := hW.l.2.1; have q2 := hW.l.2.2.1; have y1 : W.cell? ⟨p, 1, none⟩ = some (.int .i64 2) := hW.cell 1; have y2 : W.cell? ⟨p, 2, none⟩ = some (.int .i64 n) := hW.cell 2; have y3 : W.cell? ⟨p, 3, none⟩ = some (.int .i64 (n * (i / 4))) := hW.cell 3; have y4 : W.cell? ⟨p, 4, none⟩ = some (.int .i64 (n * (a - 1 - i / 4))) := hW.cell 4; clear hW; go_simp; try with_reducible rfl)
        (try simp only [Act.put, List.setIfInBounds_toArray, List.set_cons_zero, List.set_cons_succ])
        refine takeH (i := 22) (dst := some 82) (v := ?v22) rfl rfl (by kernel_rfl) (by kernel_rfl) (by kernel_rfl) (fun _ _ _ h => h) rfl ?hy22 hH rfl ?rest22
        case hy22 => (intro W hW; have q0 := hW.l.1; have q1 := hW.l.2.1; have q2 := hW.l.2.2.1; have y1 : W.cell? ⟨p, 1, none⟩ = some (.int .i64 2) := hW.cell 1; have y2 : W.cell? ⟨p, 2, none⟩ = some (.int .i64 n) := hW.cell 2; have y3 : W.cell? ⟨p, 3, none⟩ = some (.int .i64 (n * (i / 4))) := hW.cell 3; have y4 : W.cell? ⟨p, 4, none⟩ = some (.int .i64 (n * (a - 1 - i / 4))) := hW.cell 4; clear hW; go_simp; try with_reducible rfl)
        (try simp only [Act.put, List.setIfInBounds_toArray, List.set_cons_zero, List.set_cons_succ])
        refine takeH (i := 23) (dst := some 83) (v := ?v23) rfl rfl (by kernel_rfl) (by kernel_rfl) (by kernel_rfl) (fun _ _ _ h => h) rfl ?hy23 hH rfl ?rest23
        case hy23 => (intro W hW; have q0 := hW.l.1; have q1 := hW.l.2.1; have q2 := hW.l.2.2.1; have y1 : W.cell? ⟨p, 1, none⟩ = some (.int .i64 2) := hW.cell 1; have y2 : W.cell? ⟨p, 2, none⟩ = some (.int .i64 n) := hW.cell 2; have y3 : W.cell? ⟨p, 3, none⟩ = some (.int .i64 (n * (i / 4))) := hW.cell 3; have y4 : W.cell? ⟨p, 4, none⟩ = some (.int .i64 (n * (a - 1 - i / 4))) := hW.cell 4; clear hW; go_simp; try with_reducible rfl)
        (try simp only [Act.put, List.setIfInBounds_toArray, List.set_cons_zero, List.set_cons_succ])
        refine takeH (i := 24) (dst := some 84) (v := ?v24) rfl rfl (by kernel_rfl) (by kernel_rfl) (by kernel_rfl) (fun _ _ _ h => h) rfl ?hy24 hH rfl ?rest24
        case hy24 => (intro W hW; have q0 := hW.l.1; have q1 := hW.l.2.1; have q2 := hW.l.2.2.1; have y1 : W.cell? ⟨p, 1, none⟩ = some (.int .i64 2) := hW.cell 1; have y2 : W.cell? ⟨p, 2, none⟩ = some (.int .i64 n) := hW.cell 2; have y3 : W.cell? ⟨p, 3, none⟩ = some (.int .i64 (n * (i / 4))) := hW.cell 3; have y4 : W.cell? ⟨p, 4, none⟩ = some (.int .i64 (n * (a - 1 - i / 4))) := hW.cell 4; clear hW; go_simp; try with_reducible rfl)
        (try simp only [Act.put, List.setIfInBounds_toArray, List.set_cons_zero, List.set_cons_succ])
        refine takeH (i := 25) (dst := some 85) (v := ?v25) rfl rfl (by kernel_rfl) (by kernel_rfl) (by kernel_rfl) (fun _ _ _ h => h) rfl ?hy25 hH rfl ?rest25
        case hy25 => (intro W hW; have q0 := hW.l.1; have q1 := hW.l.2.1; have q2 := hW.l.2.2.1; have y1 : W.cell? ⟨p, 1, none⟩ = some (.int .i64 2) := hW.cell 1; have y2 : W.cell? ⟨p, 2, none⟩ = some (.int .i64 n) := hW.cell 2; have y3 : W.cell? ⟨p, 3, none⟩ = some (.int .i64 (n * (i / 4))) := hW.cell 3; have y4 : W.cell? ⟨p, 4, none⟩ = some (.int .i64 (n * (a - 1 - i / 4))) := hW.cell 4; clear hW; go_simp; try with_reducible rfl)
        (try simp only [Act.put, List.setIfInBounds_toArray, List.set_cons_zero, List.set_cons_succ])
        refine takeH (i := 26) (dst := some 86) (v := ?v26) rfl rfl (by kernel_rfl) (by kernel_rfl) (by kernel_rfl) (fun _ _ _ h => h) rfl ?hy26 hH rfl ?rest26
        case hy26 => (intro W hW; have q0 := hW.l.1; have q1 := hW.l.2.1; have q2 := hW.l.2.2.1; have y1 : W.cell? ⟨p, 1, none⟩ = some (.int .i64 2) := hW.cell 1; have y2 : W.cell? ⟨p, 2, none⟩ = some (.int .i64 n) := hW.cell 2; have y3 : W.cell? ⟨p, 3, none⟩ = some (.int .i64 (n * (i / 4))) := hW.cell 3; have y4 : W.cell? ⟨p, 4, none⟩ = some (.int .i64 (n * (a - 1 - i / 4))) := hW.cell 4; clear hW; go_simp; try with_reducible rfl)
        (try simp only [Act.put, List.setIfInBounds_toArray, List.set_cons_zero, List.set_cons_succ])
        refine takeH (i := 27) (dst := some 87) (v := ?v27) rfl rfl (by kernel_rfl) (by kernel_rfl) (by kernel_rfl) (fun _ _ _ h => h) rfl ?hy27 hH rfl ?rest27
        case hy27 => (intro W hW; have q0 := hW.l.1; have q1 := hW.l.2.1; have q2 := hW.l.2.2.1; have y1 : W.cell? ⟨p, 1, none⟩ = some (.int .i64 2) := hW.cell 1; have y2 : W.cell? ⟨p, 2, none⟩ = some (.int .i64 n) := hW.cell 2; have y3 : W.cell? ⟨p, 3, none⟩ = some (.int .i64 (n * (i / 4))) := hW.cell 3; have y4 : W.cell? ⟨p, 4, none⟩ = some (.int .i64 (n * (a - 1 - i / 4))) := hW.cell 4; clear hW; go_simp; try with_reducible rfl)
        (try simp only [Act.put, List.setIfInBounds_toArray, List.set_cons_zero, List.set_cons_succ])
        refine takeH (i := 28) (dst := some 88) (v := ?v28) rfl rfl (by kernel_rfl) (by kernel_rfl) (by kernel_rfl) (fun _ _ _ h => h) rfl ?hy28 hH rfl ?rest28
        case hy28 => (intro W hW; have q0 := hW.l.1; have q1 := hW.l.2.1; have q2 := hW.l.2.2.1; have y1 : W.cell? ⟨p, 1, none⟩ = some (.int .i64 2) := hW.cell 1; have y2 : W.cell? ⟨p, 2, none⟩ = some (.int .i64 n) := hW.cell 2; have y3 : W.cell? ⟨p, 3, none⟩ = some (.int .i64 (n * (i / 4))) := hW.cell 3; have y4 : W.cell? ⟨p, 4, none⟩ = some (.int .i64 (n * (a - 1 - i / 4))) := hW.cell 4; clear hW; go_simp; try with_reducible rfl)
        (try simp only [Act.put, List.setIfInBounds_toArray, List.set_cons_zero, List.set_cons_succ])
        refine takeH (i := 29) (dst := some 89) (v := ?v29) rfl rfl (by kernel_rfl) (by kernel_rfl) (by kernel_rfl) (fun _ _ _ h => h) rfl ?hy29 hH rfl ?rest29
        case hy29 => (intro W hW; have q0 := hW.l.1; have q1 := hW.l.2.1; have q2 := hW.l.2.2.1; have y1 : W.cell? ⟨p, 1, none⟩ = some (.int .i64 2) := hW.cell 1; have y2 : W.cell? ⟨p, 2, none⟩ = some (.int .i64 n) := hW.cell 2; have y3 : W.cell? ⟨p, 3, none⟩ = some (.int .i64 (n * (i / 4))) := hW.cell 3; have y4 : W.cell? ⟨p, 4, none⟩ = some (.int .i64 (n * (a - 1 - i / 4))) := hW.cell 4; clear hW; go_simp; try with_reducible rfl)
        (try simp only [Act.put, List.setIfInBounds_toArray, List.set_cons_zero, List.set_cons_succ])
        refine takeH (i := 30) (dst := some 90) (v := ?v30) rfl rfl (by kernel_rfl) (by kernel_rfl) (by kernel_rfl) (fun _ _ _ h => h) rfl ?hy30 hH rfl ?rest30
        case hy30 => (intro W hW; have q0 := hW.l.1; have q1 := hW.l.2.1; have q2 := hW.l.2.2.1; have y1 : W.cell? ⟨p, 1, none⟩ = some (.int .i64 2) := hW.cell 1; have y2 : W.cell? ⟨p, 2, none⟩ = some (.int .i64 n) := hW.cell 2; have y3 : W.cell? ⟨p, 3, none⟩ = some (.int .i64 (n * (i / 4))) := hW.cell 3; have y4 : W.cell? ⟨p, 4, none⟩ = some (.int .i64 (n * (a - 1 - i / 4))) := hW.cell 4; clear hW; go_simp; try with_reducible rfl)
        (try simp only [Act.put, List.setIfInBounds_toArray, List.set_cons_zero, List.set_cons_succ])
        refine callH (i := 31) { dst := some 91, op := Go.Op.call { callee := Go.Callee.value (Go.Operand.func 19), args := #[Go.Operand.tmp 90], argTypes := #[23] }, type := 3, pos := "law.go:70", after := #[{ on := 30, ground := Go.Ground.data }, { on := 21, ground := Go.Ground.chain }, { on := 21, ground := Go.Ground.guard }], guard := some (21, true) } (by kernel_rfl) rfl rfl (fun K hK => ?_)
        go_simp
        refine (TB _).mono ?_
        rintro e v31 ⟨rfl, b31⟩
        have m31 := hH.below b31
        clear hH
        refine hK.out _ _ m31 (fun hH => ?_)
        clear hK K
        (try simp only [Act.put, List.setIfInBounds_toArray, List.set_cons_zero, List.set_cons_succ])
        refine takeH (i := 32) (dst := some 92) (v := ?v31) rfl rfl (by kernel_rfl) (by kernel_rfl) (by kernel_rfl) (fun _ _ _ h => h) rfl ?hy31 hH rfl ?rest31
        case hy31 => (intro W hW; have q0 := hW.l.1; have q1 := hW.l.2.1; have q2 := hW.l.2.2.1; have y1 : W.cell? ⟨p, 1, none⟩ = some (.int .i64 2) := hW.cell 1; have y2 : W.cell? ⟨p, 2, none⟩ = some (.int .i64 n) := hW.cell 2; have y3 : W.cell? ⟨p, 3, none⟩ = some (.int .i64 (n * (i / 4))) := hW.cell 3; have y4 : W.cell? ⟨p, 4, none⟩ = some (.int .i64 (n * (a - 1 - i / 4))) := hW.cell 4; clear hW; go_simp; try with_reducible rfl)
        (try simp only [Act.put, List.setIfInBounds_toArray, List.set_cons_zero, List.set_cons_succ])
        refine takeH (i := 33) (dst := some 93) (v := ?v32) rfl rfl (by kernel_rfl) (by kernel_rfl) (by kernel_rfl) (fun _ _ _ h => h) rfl ?hy32 hH rfl ?rest32
        case hy32 => (intro W hW; have q0 := hW.l.1; have q1 := hW.l.2.1; have q2 := hW.l.2.2.1; have y1 : W.cell? ⟨p, 1, none⟩ = some (.int .i64 2) := hW.cell 1; have y2 : W.cell? ⟨p, 2, none⟩ = some (.int .i64 n) := hW.cell 2; have y3 : W.cell? ⟨p, 3, none⟩ = some (.int .i64 (n * (i / 4))) := hW.cell 3; have y4 : W.cell? ⟨p, 4, none⟩ = some (.int .i64 (n * (a - 1 - i / 4))) := hW.cell 4; clear hW; go_simp; try with_reducible rfl)
        (try simp only [Act.put, List.setIfInBounds_toArray, List.set_cons_zero, List.set_cons_succ])
        refine takeH (i := 34) (dst := some 94) (v := ?v33) rfl rfl (by kernel_rfl) (by kernel_rfl) (by kernel_rfl) (fun _ _ _ h => h) rfl ?hy33 hH rfl ?rest33
        case hy33 => (intro W hW; have q0 := hW.l.1; have q1 := hW.l.2.1; have q2 := hW.l.2.2.1; have y1 : W.cell? ⟨p, 1, none⟩ = some (.int .i64 2) := hW.cell 1; have y2 : W.cell? ⟨p, 2, none⟩ = some (.int .i64 n) := hW.cell 2; have y3 : W.cell? ⟨p, 3, none⟩ = some (.int .i64 (n * (i / 4))) := hW.cell 3; have y4 : W.cell? ⟨p, 4, none⟩ = some (.int .i64 (n * (a - 1 - i / 4))) := hW.cell 4; clear hW; go_simp; try with_reducible rfl)
        (try simp only [Act.put, List.setIfInBounds_toArray, List.set_cons_zero, List.set_cons_succ])
        refine takeH (i := 35) (dst := some 95) (v := ?v34) rfl rfl (by kernel_rfl) (by kernel_rfl) (by kernel_rfl) (fun _ _ _ h => h) rfl ?hy34 hH rfl ?rest34
        case hy34 => (intro W hW; have q0 := hW.l.1; have q1 := hW.l.2.1; have q2 := hW.l.2.2.1; have y1 : W.cell? ⟨p, 1, none⟩ = some (.int .i64 2) := hW.cell 1; have y2 : W.cell? ⟨p, 2, none⟩ = some (.int .i64 n) := hW.cell 2; have y3 : W.cell? ⟨p, 3, none⟩ = some (.int .i64 (n * (i / 4))) := hW.cell 3; have y4 : W.cell? ⟨p, 4, none⟩ = some (.int .i64 (n * (a - 1 - i / 4))) := hW.cell 4; clear hW; go_simp; try with_reducible rfl)
        (try simp only [Act.put, List.setIfInBounds_toArray, List.set_cons_zero, List.set_cons_succ])
        refine takeH (i := 36) (dst := some 96) (v := ?v35) rfl rfl (by kernel_rfl) (by kernel_rfl) (by kernel_rfl) (fun _ _ _ h => h) rfl ?hy35 hH rfl ?rest35
        case hy35 => (intro W hW; have q0 := hW.l.1; have q1 := hW.l.2.1; have q2 := hW.l.2.2.1; have y1 : W.cell? ⟨p, 1, none⟩ = some (.int .i64 2) := hW.cell 1; have y2 : W.cell? ⟨p, 2, none⟩ = some (.int .i64 n) := hW.cell 2; have y3 : W.cell? ⟨p, 3, none⟩ = some (.int .i64 (n * (i / 4))) := hW.cell 3; have y4 : W.cell? ⟨p, 4, none⟩ = some (.int .i64 (n * (a - 1 - i / 4))) := hW.cell 4; clear hW; go_simp; try with_reducible rfl)
        (try simp only [Act.put, List.setIfInBounds_toArray, List.set_cons_zero, List.set_cons_succ])
        refine callH (i := 37) { dst := some 97, op := Go.Op.call { callee := Go.Callee.value (Go.Operand.func 21), args := #[], argTypes := #[] }, type := 4, pos := "law.go:70", after := #[{ on := 36, ground := Go.Ground.chain }, { on := 36, ground := Go.Ground.guard }], guard := some (36, true) } (by kernel_rfl) rfl rfl (fun K hK => ?_)
        go_simp
        refine (KN _).mono ?_
        rintro e v37 ⟨rfl, b37⟩
        have m37 := hH.below b37
        clear hH
        refine hK.out _ _ m37 (fun hH => ?_)
        clear hK K
        (try simp only [Act.put, List.setIfInBounds_toArray, List.set_cons_zero, List.set_cons_succ])
        refine takeH (i := 38) (dst := some 98) (v := ?v36) rfl rfl (by kernel_rfl) (by kernel_rfl) (by kernel_rfl) (fun _ _ _ h => h) rfl ?hy36 hH rfl ?rest36
        case hy36 => (intro W hW; have q0 := hW.l.1; have q1 := hW.l.2.1; have q2 := hW.l.2.2.1; have y1 : W.cell? ⟨p, 1, none⟩ = some (.int .i64 2) := hW.cell 1; have y2 : W.cell? ⟨p, 2, none⟩ = some (.int .i64 n) := hW.cell 2; have y3 : W.cell? ⟨p, 3, none⟩ = some (.int .i64 (n * (i / 4))) := hW.cell 3; have y4 : W.cell? ⟨p, 4, none⟩ = some (.int .i64 (n * (a - 1 - i / 4))) := hW.cell 4; clear hW; go_simp; try with_reducible rfl)
        (try simp only [Act.put, List.setIfInBounds_toArray, List.set_cons_zero, List.set_cons_succ])
        refine takeH (i := 39) (dst := some 2) (v := ?v37) rfl rfl (by kernel_rfl) (by kernel_rfl) (by kernel_rfl) (fun _ _ _ h => h) rfl ?hy37 hH rfl ?rest37
        case hy37 => (intro W hW; have q0 := hW.l.1; have q1 := hW.l.2.1; have q2 := hW.l.2.2.1; have y1 : W.cell? ⟨p, 1, none⟩ = some (.int .i64 2) := hW.cell 1; have y2 : W.cell? ⟨p, 2, none⟩ = some (.int .i64 n) := hW.cell 2; have y3 : W.cell? ⟨p, 3, none⟩ = some (.int .i64 (n * (i / 4))) := hW.cell 3; have y4 : W.cell? ⟨p, 4, none⟩ = some (.int .i64 (n * (a - 1 - i / 4))) := hW.cell 4; clear hW; go_simp; try with_reducible rfl)
        (try simp only [Act.put, List.setIfInBounds_toArray, List.set_cons_zero, List.set_cons_succ])
        refine wpAnyH_done (by kernel_rfl) ?_ _
        clear hH
        go_wp2
        go_ret
        exact ⟨rfl, m37.l.2.2.2⟩
  · have RR := rright_no hok
    have RT := right_no hok
    go_enter Try.func6, Try.ntmps6
    go_wp2_with (first | (go_at_call 14; refine (keep3 w.heap.size a i n w ?_ (RR _)).mono ?_; (first | exact L0 | exact ⟨k0, k1, k2, kb⟩); (try clear k0 k1 k2 kb); rintro e w1 ⟨rfl, k0, k1, k2, kb⟩) | (go_at_call 13; refine (keep3 w.heap.size a i n w ?_ (RT _)).mono ?_; (first | exact L0 | exact ⟨k0, k1, k2, kb⟩); (try clear k0 k1 k2 kb); rintro e w1 ⟨rfl, k0, k1, k2, kb⟩) | (go_at_call 21; refine (keep3 w.heap.size a i n w ?_ (KN _)).mono ?_; (first | exact L0 | exact ⟨k0, k1, k2, kb⟩); (try clear k0 k1 k2 kb); rintro e w1 ⟨rfl, k0, k1, k2, kb⟩))
    go_ret
    exact ⟨rfl, kb⟩
end Go.Proofs.Ytojchlmpddolkaa
