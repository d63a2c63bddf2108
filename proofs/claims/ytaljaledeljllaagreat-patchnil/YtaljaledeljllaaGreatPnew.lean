/- Package cache: New; package patch: Open. -/
import Derived.Test.YtaljaledeljllaaGreatPready
namespace Go.Proofs.YtaljaledeljllaaGreat
open Go.RowKit
set_option maxRecDepth 100000
section
variable {w w' : World} {base : Nat} {σ : CSt}
set_option maxHeartbeats 1000000 in
theorem cnew_any {dp dn dq : Nat} {en : Bool} {lf : Int} {sf : Nat → List UInt8} {ws : Nat → List (List UInt8)} {vs : Nat → Value} (h : DiskAt w base dp dn en lf sf ws dq vs) (most : Nat) (h1 : 1 ≤ most) (h2 : most ≤ 4096) :
    Calls Tryz.prog 51 #[.pointer (some ⟨dp, 0, none⟩), .int .i64 (most : Int)] w fun r w' => ∃ p mb, r = .returned (.tuple #[.pointer (some ⟨p, 0, none⟩), .int .i64 0]) ∧ CS w' base ⟨p, mb, 0, .slice none 0 0, most, [], dp, dn, dq, en, lf, sf, ws, vs⟩ [] ∧ w.heap.size ≤ p ∧ w.heap.size ≤ mb ∧ Below w.heap.size w w' := by
  have s1 : ∀ (v : World) (o : Obj), (v.alloc o).heap.size = v.heap.size + 1 := fun v o => by show (v.heap.push o).size = _; simp
  have hb0 : Below w.heap.size w (w.alloc (.map #[] 0)) := (Below.refl _ _).alloc (Nat.le_refl _) _
  have hb1 : Below w.heap.size w ((w.alloc (.map #[] 0)).alloc (.cells #[.pointer (some ⟨dp, 0, none⟩), .int .i64 (most : Int), .map (some w.heap.size), .slice none 0 0] 158)) := hb0.alloc (by rw [s1]; omega) _
  have hp := PMap.made w
  have hrow : ((w.alloc (.map #[] 0)).alloc (.cells #[.pointer (some ⟨dp, 0, none⟩), .int .i64 (most : Int), .map (some w.heap.size), .slice none 0 0] 158)).heap[w.heap.size + 1]? = some (.cells #[.pointer (some ⟨dp, 0, none⟩), .int .i64 (most : Int), .map (some w.heap.size), .slice none 0 0] 158 (0, 0)) := by
    have := heap_alloc_new (w.alloc (.map #[] 0)) (.cells #[.pointer (some ⟨dp, 0, none⟩), .int .i64 (most : Int), .map (some w.heap.size), .slice none 0 0] 158)
    rw [s1] at this; exact this
  have hbs : base ≤ w.heap.size := by have := h.pb; have := h.pl; omega
  have HC : Hid (CS ((w.alloc (.map #[] 0)).alloc (.cells #[.pointer (some ⟨dp, 0, none⟩), .int .i64 (most : Int), .map (some w.heap.size), .slice none 0 0] 158)) base ⟨w.heap.size + 1, w.heap.size, 0, .slice none 0 0, most, [], dp, dn, dq, en, lf, sf, ws, vs⟩ []) := {
    disk := h.below hb1 (Nat.le_refl _)
    c0 := by show World.cell? _ _ = _; rw [cell_of_row _ _ _ _ _ _ hrow]; rfl
    c1 := by show World.cell? _ _ = _; rw [cell_of_row _ _ _ _ _ _ hrow]; rfl
    c2 := by show World.cell? _ _ = _; rw [cell_of_row _ _ _ _ _ _ hrow]; rfl
    c3 := by show World.cell? _ _ = _; rw [cell_of_row _ _ _ _ _ _ hrow]; rfl
    fp := fun o => frozen_of_row _ _ _ _ _ hrow
    ord := OwnN.nil _ _
    map := hp.same (Below.heap_alloc _ _ _ (by rw [s1]; omega))
    blk := fun e he => by cases he
    nd := List.nodup_nil, qd := List.nodup_nil
    pm := by show w.heap.size + 1 ≠ w.heap.size; omega
    po := by show (none : Option Nat) ≠ _; simp
    mo := by show (none : Option Nat) ≠ _; simp
    bq := fun e he => by cases he
    pb := by show base ≤ w.heap.size + 1; omega
    mbb := hbs
    dk := fun k hk hC => by
      have hkl := (h.dk_lt hk).1
      rcases hC with hC | hC | hC | ⟨e, he, _⟩
      · have hC' : k = w.heap.size + 1 := hC
        omega
      · have hC' : k = w.heap.size := hC
        omega
      · have hC' : (none : Option Nat) = some k := hC
        cases hC'
      · cases he
    m1 := ⟨h1, h2⟩ }
  have hmk := run_makeMap (P := Tryz.prog) 155 w
  have hi1 : (1 : Int) ≤ most := by omega
  have hi2 : (most : Int) ≤ 4096 := by omega
  clear hp hrow h hb0
  go_enter Tryz.func51, Tryz.ntmps51
  go_wp2
  go_ret2
  exact ⟨w.heap.size + 1, w.heap.size, rfl, HC.out, by omega, by omega, hb1⟩
/-- An empty store. -/
def newS (p cm bm : Nat) (σ : CSt) : PSt := ⟨p, cm, bm, 0, 0, 0, fun _ => 0, [], fun _ => 0, [], [], [], fun k => if k = p then 1 else if k = cm then 2 else 3, σ⟩
theorem PM.made (h : CS w base σ (nums σ.L)) (hb : Below w.heap.size w w') {p cm bm : Nat} (h1 : w.heap.size ≤ p ∧ w.heap.size ≤ cm ∧ w.heap.size ≤ bm) (h2 : p ≠ cm ∧ p ≠ bm ∧ cm ≠ bm) (hp : w'.heap[p]? = some (.cells (stL (newS p cm bm σ)).toArray 104 (0, 0))) (hc : KMap 2 w' cm 0 (fun _ => 0) []) (hm : KMap 3 w' bm 0 (fun _ => 0) []) :
    PM w' base (newS p cm bm σ) (fun _ => []) where
  cs := h.up hb
  st := hp
  mc := hc
  mb := hm
  ch := fun c hc => by cases hc
  bk := fun b hb => by cases hb
  cq := List.nodup_nil
  bq := List.nodup_nil
  t0 := ⟨if_pos rfl, (if_neg (fun e => h2.1 e.symm)).trans (if_pos rfl), (if_neg (fun e => h2.2.1 e.symm)).trans (if_neg (fun e => h2.2.2 e.symm))⟩
  tc := fun c hc => by cases hc
  tb := fun b hb => by cases hb
  fk := fun k hk => by
    have hbs : base ≤ w.heap.size := by have := h.mbb; have := h.map.lt; omega
    have hpl : p < w'.heap.size := (Array.getElem?_eq_some_iff.1 hp).1
    have hcl := hc.lt
    have hml := hm.lt
    have hno : w.heap.size ≤ k → ¬ Sk σ k := fun hle hS => by have := h.sk_size hS; omega
    rcases hk with hk | hk | hk | ⟨c, hc, _⟩ | ⟨b, hb, _⟩
    · have hk' : k = p := hk
      exact ⟨by omega, by omega, hno (by omega)⟩
    · have hk' : k = cm := hk
      exact ⟨by omega, by omega, hno (by omega)⟩
    · have hk' : k = bm := hk
      exact ⟨by omega, by omega, hno (by omega)⟩
    · cases hc
    · cases hb
set_option maxHeartbeats 2000000 in
theorem popn_any {dp dn dq : Nat} {en : Bool} {lf : Int} {sf : Nat → List UInt8} {ws : Nat → List (List UInt8)} {vs : Nat → Value} (h : DiskAt w base dp dn en lf sf ws dq vs) (most : Nat) (h1 : 1 ≤ most) (h2 : most ≤ 4096) :
    Calls Tryz.prog 11 #[.pointer (some ⟨dp, 0, none⟩), .int .i64 (most : Int)] w fun r w' => ∃ p cm bm cp mb, r = .returned (.tuple #[.pointer (some ⟨p, 0, none⟩), .int .i64 0]) ∧ PM w' base (newS p cm bm ⟨cp, mb, 0, .slice none 0 0, most, [], dp, dn, dq, en, lf, sf, ws, vs⟩) (fun _ => []) ∧ Below w.heap.size w w' := by
  have CN := cnew_any h most h1 h2
  clear h
  go_enter Tryz.func11, Tryz.ntmps11
  go_wp2_with fail
  refine CN.mono ?_
  clear CN
  rintro r w1 ⟨cp, mb, rfl, hC, _, _, hb1⟩
  have HC : Hid (CS w1 base ⟨cp, mb, 0, .slice none 0 0, most, [], dp, dn, dq, en, lf, sf, ws, vs⟩ []) := hC
  have HB : Hid (Below w.heap.size w w1) := hb1
  have hm1 := fun w => run_makeMap (P := Tryz.prog) 101 w
  have hm2 := fun w => run_makeMap (P := Tryz.prog) 102 w
  clear hC hb1
  go_wp2
  go_ret2
  have s1 : ∀ (v : World) (o : Obj), (v.alloc o).heap.size = v.heap.size + 1 := fun v o => by show (v.heap.push o).size = _; simp
  have b0 : Below w1.heap.size w1 (w1.alloc (.map #[] 0)) := (Below.refl _ _).alloc (Nat.le_refl _) _
  have b1 : Below w1.heap.size w1 ((w1.alloc (.map #[] 0)).alloc (.map #[] 0)) := b0.alloc (by rw [s1]; omega) _
  have b2 : Below w1.heap.size w1 (((w1.alloc (.map #[] 0)).alloc (.map #[] 0)).alloc (.cells #[.pointer (some ⟨dp, 0, none⟩), .pointer (some ⟨cp, 0, none⟩), .int .i64 0, .map (some w1.heap.size), .map (some (w1.heap.size + 1))] 104)) := b1.alloc (by rw [s1, s1]; omega) _
  refine ⟨w1.heap.size + 2, w1.heap.size, w1.heap.size + 1, cp, mb, rfl, PM.made HC.out b2 ⟨by omega, by omega, by omega⟩ ⟨by omega, by omega, by omega⟩ ?_ ?_ ?_, HB.out.trans (b2.mono HB.out.size)⟩
  · have := heap_alloc_new ((w1.alloc (.map #[] 0)).alloc (.map #[] 0)) (.cells #[.pointer (some ⟨dp, 0, none⟩), .pointer (some ⟨cp, 0, none⟩), .int .i64 0, .map (some w1.heap.size), .map (some (w1.heap.size + 1))] 104)
    rw [s1, s1] at this; exact this
  · exact ((KMap.made w1).same (Below.heap_alloc _ _ _ (by rw [s1]; omega))).same (Below.heap_alloc _ _ _ (by rw [s1, s1]; omega))
  · have := KMap.made (kt := 3) (w1.alloc (.map #[] 0))
    rw [s1] at this
    exact this.same (Below.heap_alloc _ _ _ (by rw [s1, s1]; omega))
end
end Go.Proofs.YtaljaledeljllaaGreat
