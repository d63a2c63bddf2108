/- The walk of leveelaw09.PtrWays. -/
import Derived.Test.YtohidgfeainlfaaPknown
namespace Go.Proofs.Ytohidgfeainlfaa
open Go.RowKit
theorem results_cell {fn : Func} {p : Tmp} {ty : TypeId} (h : fn.results = #[.cell p ty]) (tmps : Array Value) (P : Program) (w : World) :
    (results fn tmps).run P w = ((asAddr (tmps.getD p undef)).run P w).andThen fun a w₁ => (loadVar ty a).run P w₁ := by
  simp only [results, h]
  simp [Sem.run_bind, Result.andThen]
theorem res_way {fn : Func} {q : Tmp} (h : fn.results = #[.cell q 24]) (tmps : Array Value) (w : World) (p : Nat) (d a b c : Int) (H : w.heap[p]? = some (.cells (wayA d a b c) 24 (0, 0))) (hp : tmps.getD q undef = .pointer (some ⟨p, 0, none⟩)) :
    (results fn tmps).run Try.prog w = .ok (.agg (wayA d a b c)) w := by
  rw [results_cell h, hp]
  simp [asAddr, run_loadVar_row w p 24 24 _ _ _ H Try.underlying24 rfl Try.szW, Result.andThen]
theorem res_rway {fn : Func} {q : Tmp} (h : fn.results = #[.cell q 23]) (tmps : Array Value) (w : World) (p : Nat) (d a b c : Int) (H : w.heap[p]? = some (.cells (wayA d a b c) 23 (0, 0))) (hp : tmps.getD q undef = .pointer (some ⟨p, 0, none⟩)) :
    (results fn tmps).run Try.prog w = .ok (.agg (wayA d a b c)) w := by
  rw [results_cell h, hp]
  simp [asAddr, run_loadVar_row w p 23 23 _ _ _ H Try.underlying23 rfl Try.szR, Result.andThen]
set_option maxHeartbeats 1000000 in
theorem given_any (d a b c : Int) (w : World) : Calls Try.prog 9 #[.agg (wayA d a b c)] w fun e w' => e = .returned (.agg (wayA d a b c)) ∧ Below w.heap.size w w' := by
  have hb : Below w.heap.size w ((w.alloc (.cells (wayA d a b c) 23)).alloc (.cells (wayA d a b c) 24)) := ((Below.refl _ _).alloc (Nat.le_refl _) _).alloc (by simp) _
  go_enter Try.func9, Try.ntmps9
  go_wp2
  refine bodyPost_ret (res_way rfl _ _ (w.heap.size + 1) d a b c (by simpa using heap_alloc_new (w.alloc (.cells (wayA d a b c) 23)) (.cells (wayA d a b c) 24)) rfl) rfl ?_
  exact ⟨rfl, hb⟩
set_option maxHeartbeats 1000000 in
theorem taken_any (d a b c : Int) (w : World) : Calls Try.prog 13 #[.agg (wayA d a b c)] w fun e w' => e = .returned (.agg (wayA d a b c)) ∧ Below w.heap.size w w' := by
  have hb : Below w.heap.size w ((w.alloc (.cells (wayA d a b c) 24)).alloc (.cells (wayA d a b c) 23)) := ((Below.refl _ _).alloc (Nat.le_refl _) _).alloc (by simp) _
  go_enter Try.func13, Try.ntmps13
  go_wp2
  refine bodyPost_ret (res_rway rfl _ _ (w.heap.size + 1) d a b c (by simpa using heap_alloc_new (w.alloc (.cells (wayA d a b c) 24)) (.cells (wayA d a b c) 23)) rfl) rfl ?_
  exact ⟨rfl, hb⟩
end Go.Proofs.Ytohidgfeainlfaa
