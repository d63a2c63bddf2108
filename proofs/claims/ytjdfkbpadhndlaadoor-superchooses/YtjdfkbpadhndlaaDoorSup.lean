/- Package super: right, place; the law's given and taken. -/
import Derived.Test.YtjdfkbpadhndlaaDoorSizes
import Derived.Laws.ResultCell
import Derived.Laws.Rows
namespace Go.Proofs.YtjdfkbpadhndlaaDoor
open Go.RowKit
/-- A superblock that can be. -/
def okS (g a i n : Int) : Bool := decide (1 ≤ g) && decide (g ≤ 4611686018427387904) && okB a i n
theorem okS_iff {g a i n : Int} : okS g a i n = true ↔ (1 ≤ g ∧ g ≤ 4611686018427387904 ∧ okG a i n) := by
  simp [okS, and_assoc]
theorem retb {x y : Bool} (h : x = y) : Ending.returned (.bool x) = .returned (.bool y) := by rw [h]
/-- A row of four numbers. -/
def Row4 (w : World) (p : Nat) (t : TypeId) (g a i n : Int) : Prop := w.heap[p]? = some (.cells #[.int .i64 g, .int .i64 a, .int .i64 i, .int .i64 n] t)
theorem Row4.below {w w' : World} {p B : Nat} {t : TypeId} {g a i n : Int} (h : Row4 w p t g a i n) (hb : Below B w w') (hp : p < B) : Row4 w' p t g a i n := (hb.block p hp).trans h
theorem Row4.lt {w : World} {p : Nat} {t : TypeId} {g a i n : Int} (h : Row4 w p t g a i n) : p < w.heap.size := (Array.getElem?_eq_some_iff.1 h).1
theorem Row4.up {w w' : World} {p : Nat} {t : TypeId} {g a i n : Int} (h : Row4 w p t g a i n) (hb : Below w.heap.size w w') : Row4 w' p t g a i n := h.below hb h.lt
theorem Row4.c0 {w : World} {p : Nat} {t : TypeId} {g a i n : Int} (h : Row4 w p t g a i n) : w.cell? ⟨p, 0, none⟩ = some (.int .i64 g) := by rw [cell_of_row w p 0 _ _ _ h]; rfl
theorem Row4.c1 {w : World} {p : Nat} {t : TypeId} {g a i n : Int} (h : Row4 w p t g a i n) : w.cell? ⟨p, 1, none⟩ = some (.int .i64 a) := by rw [cell_of_row w p 1 _ _ _ h]; rfl
theorem Row4.c2 {w : World} {p : Nat} {t : TypeId} {g a i n : Int} (h : Row4 w p t g a i n) : w.cell? ⟨p, 2, none⟩ = some (.int .i64 i) := by rw [cell_of_row w p 2 _ _ _ h]; rfl
theorem Row4.c3 {w : World} {p : Nat} {t : TypeId} {g a i n : Int} (h : Row4 w p t g a i n) : w.cell? ⟨p, 3, none⟩ = some (.int .i64 n) := by rw [cell_of_row w p 3 _ _ _ h]; rfl
theorem Row4.fr {w : World} {p : Nat} {t : TypeId} {g a i n : Int} (h : Row4 w p t g a i n) (j : Nat) : w.frozen? ⟨p, j, none⟩ = false := frozen_of_row w p j _ _ h
set_option maxHeartbeats 1000000 in
theorem sright_any (g a i n : Int) (w : World) :
    Calls Tryd.prog 22 #[.agg #[.int .i64 g, .int .i64 a, .int .i64 i, .int .i64 n]] w fun e w' => e = .returned (.bool (okS g a i n)) ∧ Below w.heap.size w w' := by
  have hb : Below w.heap.size w (w.alloc (.cells #[.int .i64 g, .int .i64 a, .int .i64 i, .int .i64 n] 30)) := (Below.refl _ _).alloc (Nat.le_refl _) _
  have RT := right_any a i n
  by_cases h1 : g < 1
  · go_enter Tryd.func22, Tryd.ntmps22
    go_wp2
    go_ret
    exact ⟨retb (by rw [okS, decide_eq_false (show ¬ 1 ≤ g by omega)]; rfl), hb⟩
  by_cases h2 : 4611686018427387904 < g
  · go_enter Tryd.func22, Tryd.ntmps22
    go_wp2
    go_ret
    exact ⟨retb (by rw [okS, decide_eq_false (show ¬ g ≤ 4611686018427387904 by omega), Bool.and_false]; rfl), hb⟩
  · have HE : Hid (okS g a i n = okB a i n) := by show _ = _; rw [okS, decide_eq_true (show 1 ≤ g by omega), decide_eq_true (show g ≤ 4611686018427387904 by omega)]; rfl
    generalize okB a i n = o at RT HE
    go_enter Tryd.func22, Tryd.ntmps22
    go_wp2_with fail
    refine (RT _).mono ?_
    rintro e w1 ⟨rfl, hb1⟩
    go_wp2
    go_ret
    exact ⟨retb HE.out.symm, hb.trans (hb1.mono hb.size)⟩
set_option maxHeartbeats 1000000 in
theorem splace_any (g a i n : Int) (w : World) (h0 : 0 ≤ g) :
    Calls Tryd.prog 32 #[.agg #[.int .i64 g, .int .i64 a, .int .i64 i, .int .i64 n]] w fun e w' => e = .returned (.int .i64 (g % 2)) ∧ Below w.heap.size w w' := by
  have hb : Below w.heap.size w (w.alloc (.cells #[.int .i64 g, .int .i64 a, .int .i64 i, .int .i64 n] 30)) := (Below.refl _ _).alloc (Nat.le_refl _) _
  go_enter Tryd.func32, Tryd.ntmps32
  go_wp2
  go_ret
  exact ⟨rfl, hb⟩
theorem Tryd.sz30 : (Tryd.prog.info? 30).map (·.size) = some 4 := by kernel_rfl
theorem Tryd.sz25 : (Tryd.prog.info? 25).map (·.size) = some 4 := by kernel_rfl
theorem two_allocs (w : World) (A B : Obj) : Below w.heap.size w ((w.alloc A).alloc B) :=
  ((Below.refl _ _).alloc (Nat.le_refl _) _).alloc (by show _ ≤ (w.heap.push A).size; simp) _
set_option maxHeartbeats 1000000 in
theorem given_any (g a i n : Int) (w : World) :
    Calls Tryd.prog 8 #[.agg #[.int .i64 g, .int .i64 a, .int .i64 i, .int .i64 n]] w fun e w' => e = .returned (.agg #[.int .i64 g, .int .i64 a, .int .i64 i, .int .i64 n]) ∧ Below w.heap.size w w' := by
  go_enter Tryd.func8, Tryd.ntmps8
  go_wp2
  refine bodyPost_ret (results_cell_row rfl _ _ (w.heap.size + 1) 30 #[.int .i64 g, .int .i64 a, .int .i64 i, .int .i64 n] (0, 0) _ rfl (heap_alloc2_new _ _ _) Tryd.underlying30 rfl Tryd.sz30) rfl ?_
  exact ⟨rfl, two_allocs _ _ _⟩
set_option maxHeartbeats 1000000 in
theorem taken_any (g a i n : Int) (w : World) :
    Calls Tryd.prog 13 #[.agg #[.int .i64 g, .int .i64 a, .int .i64 i, .int .i64 n]] w fun e w' => e = .returned (.agg #[.int .i64 g, .int .i64 a, .int .i64 i, .int .i64 n]) ∧ Below w.heap.size w w' := by
  go_enter Tryd.func13, Tryd.ntmps13
  go_wp2
  refine bodyPost_ret (results_cell_row rfl _ _ (w.heap.size + 1) 25 #[.int .i64 g, .int .i64 a, .int .i64 i, .int .i64 n] (0, 0) _ rfl (heap_alloc2_new _ _ _) Tryd.underlying25 rfl Tryd.sz25) rfl ?_
  exact ⟨rfl, two_allocs _ _ _⟩
end Go.Proofs.YtjdfkbpadhndlaaDoor
