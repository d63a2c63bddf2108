/- Package geo: Right. -/
import Derived.Test.YtabmogeicpphoaaGeo
import Derived.Test.YtabmogeicpphoaaHeld
namespace Go.Proofs.Ytabmogeicpphoaa
open Go.RowKit
/-- A shape that can be. -/
def okB (a i n : Int) : Bool := decide (16 ≤ a ∧ a ≤ 128 ∧ 4 ≤ i ∧ i ≤ 64 ∧ i % 4 = 0 ∧ 1 ≤ n ∧ n ≤ 16 ∧ 5 + i / 4 ≤ a)
abbrev okG (a i n : Int) : Prop := okB a i n = true
theorem okG_iff {a i n : Int} : okG a i n ↔ (16 ≤ a ∧ a ≤ 128 ∧ 4 ≤ i ∧ i ≤ 64 ∧ i % 4 = 0 ∧ 1 ≤ n ∧ n ≤ 16 ∧ 5 + i / 4 ≤ a) := decide_eq_true_iff
theorem okG.box {a i n : Int} (h : okG a i n) : 16 ≤ a ∧ a ≤ 128 ∧ 4 ≤ i ∧ i ≤ 64 := by have := okG_iff.1 h; omega
theorem okG.le16 {a i n : Int} (h : okG a i n) : n ≤ 16 := by have := okG_iff.1 h; omega
theorem prod_le {k a : Int} (h0 : 0 ≤ k) (h1 : k ≤ 16) (h2 : 0 ≤ a) (h3 : a ≤ 128) : 0 ≤ k * a ∧ k * a ≤ 2048 :=
  ⟨Int.mul_nonneg h0 h2, by have := Int.mul_le_mul h1 h3 h2 (by omega); omega⟩
theorem no_ok {a i n : Int} (h : ¬ okG a i n) : Ending.returned (.bool false) = .returned (.bool (okB a i n)) := by rw [show okB a i n = false from by simpa using h]
theorem is_ok {a i n : Int} (h : okG a i n) : Ending.returned (.bool true) = .returned (.bool (okB a i n)) := by rw [show okB a i n = true from h]
/-- A shape lies at p, and what there was in w0 is as it was. -/
abbrev Lies (w0 : World) (p : Nat) (a i n : Int) (w : World) : Prop := w.cell? ⟨p, 0, none⟩ = some (.int .i64 a) ∧ w.cell? ⟨p, 1, none⟩ = some (.int .i64 i) ∧ w.cell? ⟨p, 2, none⟩ = some (.int .i64 n) ∧ Below w0.heap.size w0 w
/-- A call that answers r and leaves what was there be leaves a shape that lies in memory be. -/
theorem keep3 {P : Program} {f : Nat} {args : Array Value} {W : World} {r : Ending} (p : Nat) (a i n : Int) (w0 : World) (hL : Lies w0 p a i n W)
    (h : Calls P f args W fun e w' => e = r ∧ Below W.heap.size W w') : Calls P f args W fun e w' => e = r ∧ Lies w0 p a i n w' :=
  h.mono fun _ _ ⟨h1, h2⟩ => ⟨h1, (h2.cell (p := ⟨p, 0, none⟩) (block_lt_of_cell hL.1)).trans hL.1, (h2.cell (p := ⟨p, 1, none⟩) (block_lt_of_cell hL.2.1)).trans hL.2.1, (h2.cell (p := ⟨p, 2, none⟩) (block_lt_of_cell hL.2.2.1)).trans hL.2.2.1, hL.2.2.2.trans (h2.mono hL.2.2.2.size)⟩
attribute [local go_sem] wrapI decF decT
set_option maxHeartbeats 1000000 in
theorem right_any (a i n : Int) (w : World) :
    Calls Try.prog 54 #[.agg #[.int .i64 a, .int .i64 i, .int .i64 n]] w fun e w' => e = .returned (.bool (okB a i n)) ∧ Below w.heap.size w w' := by
  have hb : Below w.heap.size w (w.alloc (.cells #[.int .i64 a, .int .i64 i, .int .i64 n] 37)) := (Below.refl _ _).alloc (Nat.le_refl _) _
  by_cases h1 : a < 16
  · go_enter Try.func54, Try.ntmps54
    go_wp2
    go_ret
    exact ⟨no_ok (by rw [okG_iff]; omega), hb⟩
  by_cases h2 : 128 < a
  · go_enter Try.func54, Try.ntmps54
    go_wp2
    go_ret
    exact ⟨no_ok (by rw [okG_iff]; omega), hb⟩
  by_cases h3 : i < 4
  · go_enter Try.func54, Try.ntmps54
    go_wp2
    go_ret
    exact ⟨no_ok (by rw [okG_iff]; omega), hb⟩
  by_cases h4 : 64 < i
  · go_enter Try.func54, Try.ntmps54
    go_wp2
    go_ret
    exact ⟨no_ok (by rw [okG_iff]; omega), hb⟩
  by_cases h5 : (i % 4 == 0) = false
  · have h5' := beq_eq_false_iff_ne.1 h5
    go_enter Try.func54, Try.ntmps54
    go_wp2
    go_ret
    exact ⟨no_ok (by rw [okG_iff]; omega), hb⟩
  replace h5 : i % 4 = 0 := by simpa using h5
  by_cases h6 : n < 1
  · go_enter Try.func54, Try.ntmps54
    go_wp2
    go_ret
    exact ⟨no_ok (by rw [okG_iff]; omega), hb⟩
  by_cases h7 : 16 < n
  · go_enter Try.func54, Try.ntmps54
    go_wp2
    go_ret
    exact ⟨no_ok (by rw [okG_iff]; omega), hb⟩
  obtain ⟨p0, p1⟩ := prod_le (k := n) (a := a) (by omega) (by omega) (by omega) (by omega)
  have hbd : Lies w w.heap.size a i n (w.alloc (.cells #[.int .i64 a, .int .i64 i, .int .i64 n] 37)).drew := ⟨by go_simp, by go_simp, by go_simp, hb.drew⟩
  have LEAD := fun W => lead_any a i n W (by omega) (by omega)
  have HEAD := fun W => head_any a i n n W (by omega) (by omega)
  have e1 : In64 (a - (1 + i / 4)) := ⟨by omega⟩
  by_cases h8 : a - (1 + i / 4) < 4
  · have e2 : DecF (4 ≤ a - (1 + i / 4)) := ⟨by omega⟩
    go_enter Try.func54, Try.ntmps54
    go_wp2_with fail
    refine wp_region_held_drew (S := (fun w' => Lies w w.heap.size a i n w')) (by kernel_rfl) hbd (fun hH => ?_)
    refine takeH (i := 0) (dst := some 33) (v := ?v1) rfl rfl (by kernel_rfl) (by kernel_rfl) (by kernel_rfl) (fun _ _ _ h => h) rfl ?hy1 hH rfl ?rest1
    case hy1 => (intro W hW; obtain ⟨hW0, hW1, hW2, _⟩ := hW; go_simp; try with_reducible rfl)
    (try simp only [Act.put, List.setIfInBounds_toArray, List.set_cons_zero, List.set_cons_succ])
    refine takeH (i := 1) (dst := some 34) (v := ?v2) rfl rfl (by kernel_rfl) (by kernel_rfl) (by kernel_rfl) (fun _ _ _ h => h) rfl ?hy2 hH rfl ?rest2
    case hy2 => (intro W hW; obtain ⟨hW0, hW1, hW2, _⟩ := hW; go_simp; try with_reducible rfl)
    (try simp only [Act.put, List.setIfInBounds_toArray, List.set_cons_zero, List.set_cons_succ])
    refine takeH (i := 2) (dst := some 35) (v := ?v3) rfl rfl (by kernel_rfl) (by kernel_rfl) (by kernel_rfl) (fun _ _ _ h => h) rfl ?hy3 hH rfl ?rest3
    case hy3 => (intro W hW; obtain ⟨hW0, hW1, hW2, _⟩ := hW; go_simp; try with_reducible rfl)
    (try simp only [Act.put, List.setIfInBounds_toArray, List.set_cons_zero, List.set_cons_succ])
    refine callH (i := 3) { dst := some 36, op := Go.Op.call { callee := Go.Callee.value (Go.Operand.func 72), args := #[Go.Operand.tmp 35], argTypes := #[37] }, type := 3, pos := "geo.go:29", after := #[{ on := 2, ground := Go.Ground.data }], guard := none } (by kernel_rfl) rfl rfl (fun K hK => ?_)
    go_simp
    refine (keep3 w.heap.size a i n w hH (LEAD _)).mono ?_
    rintro e w1 ⟨rfl, k⟩
    clear hH
    refine hK.out _ _ k (fun hH => ?_)
    clear hK K
    (try simp only [Act.put, List.setIfInBounds_toArray, List.set_cons_zero, List.set_cons_succ])
    refine takeH (i := 4) (dst := some 37) (v := ?v4) rfl rfl (by kernel_rfl) (by kernel_rfl) (by kernel_rfl) (fun _ _ _ h => h) rfl ?hy4 hH rfl ?rest4
    case hy4 => (intro W hW; obtain ⟨hW0, hW1, hW2, _⟩ := hW; go_simp; try with_reducible rfl)
    (try simp only [Act.put, List.setIfInBounds_toArray, List.set_cons_zero, List.set_cons_succ])
    refine takeH (i := 5) (dst := some 38) (v := ?v5) rfl rfl (by kernel_rfl) (by kernel_rfl) (by kernel_rfl) (fun _ _ _ h => h) rfl ?hy5 hH rfl ?rest5
    case hy5 => (intro W hW; obtain ⟨hW0, hW1, hW2, _⟩ := hW; go_simp; try with_reducible rfl)
    (try simp only [Act.put, List.setIfInBounds_toArray, List.set_cons_zero, List.set_cons_succ])
    refine takeH (i := 6) (dst := some 39) (v := ?v6) rfl rfl (by kernel_rfl) (by kernel_rfl) (by kernel_rfl) (fun _ _ _ h => h) rfl ?hy6 hH rfl ?rest6
    case hy6 => (intro W hW; obtain ⟨hW0, hW1, hW2, _⟩ := hW; go_simp; try with_reducible rfl)
    (try simp only [Act.put, List.setIfInBounds_toArray, List.set_cons_zero, List.set_cons_succ])
    refine takeU (i := 7) (dst := some 40) rfl rfl (by kernel_rfl) (by kernel_rfl) (by kernel_rfl) (fun _ _ _ h => h) rfl hH rfl ?_
    (try simp only [Act.put, List.setIfInBounds_toArray, List.set_cons_zero, List.set_cons_succ])
    refine takeU (i := 8) (dst := some 41) rfl rfl (by kernel_rfl) (by kernel_rfl) (by kernel_rfl) (fun _ _ _ h => h) rfl hH rfl ?_
    (try simp only [Act.put, List.setIfInBounds_toArray, List.set_cons_zero, List.set_cons_succ])
    refine takeU (i := 9) (dst := some 42) rfl rfl (by kernel_rfl) (by kernel_rfl) (by kernel_rfl) (fun _ _ _ h => h) rfl hH rfl ?_
    (try simp only [Act.put, List.setIfInBounds_toArray, List.set_cons_zero, List.set_cons_succ])
    refine takeU (i := 10) (dst := some 43) rfl rfl (by kernel_rfl) (by kernel_rfl) (by kernel_rfl) (fun _ _ _ h => h) rfl hH rfl ?_
    (try simp only [Act.put, List.setIfInBounds_toArray, List.set_cons_zero, List.set_cons_succ])
    refine takeU (i := 11) (dst := some 44) rfl rfl (by kernel_rfl) (by kernel_rfl) (by kernel_rfl) (fun _ _ _ h => h) rfl hH rfl ?_
    (try simp only [Act.put, List.setIfInBounds_toArray, List.set_cons_zero, List.set_cons_succ])
    refine takeH (i := 12) (dst := some 45) (v := ?v7) rfl rfl (by kernel_rfl) (by kernel_rfl) (by kernel_rfl) (fun _ _ _ h => h) rfl ?hy7 hH rfl ?rest7
    case hy7 => (intro W hW; obtain ⟨hW0, hW1, hW2, _⟩ := hW; go_simp; try with_reducible rfl)
    (try simp only [Act.put, List.setIfInBounds_toArray, List.set_cons_zero, List.set_cons_succ])
    refine takeH (i := 13) (dst := some 2) (v := ?v8) rfl rfl (by kernel_rfl) (by kernel_rfl) (by kernel_rfl) (fun _ _ _ h => h) rfl ?hy8 hH rfl ?rest8
    case hy8 => (intro W hW; obtain ⟨hW0, hW1, hW2, _⟩ := hW; go_simp; try with_reducible rfl)
    (try simp only [Act.put, List.setIfInBounds_toArray, List.set_cons_zero, List.set_cons_succ])
    refine wpAnyH_done (by kernel_rfl) ?_ _
    clear hH
    go_wp2
    go_ret
    exact ⟨no_ok (by rw [okG_iff]; omega), k.2.2.2⟩
  · have e2 : DecT (4 ≤ a - (1 + i / 4)) := ⟨by omega⟩
    have e3 : DecT (2 + n * a ≤ 4096) := ⟨by omega⟩
    go_enter Try.func54, Try.ntmps54
    go_wp2_with fail
    refine wp_region_held_drew (S := (fun w' => Lies w w.heap.size a i n w')) (by kernel_rfl) hbd (fun hH => ?_)
    refine takeH (i := 0) (dst := some 33) (v := ?v9) rfl rfl (by kernel_rfl) (by kernel_rfl) (by kernel_rfl) (fun _ _ _ h => h) rfl ?hy9 hH rfl ?rest9
    case hy9 => (intro W hW; obtain ⟨hW0, hW1, hW2, _⟩ := hW; go_simp; try with_reducible rfl)
    (try simp only [Act.put, List.setIfInBounds_toArray, List.set_cons_zero, List.set_cons_succ])
    refine takeH (i := 1) (dst := some 34) (v := ?v10) rfl rfl (by kernel_rfl) (by kernel_rfl) (by kernel_rfl) (fun _ _ _ h => h) rfl ?hy10 hH rfl ?rest10
    case hy10 => (intro W hW; obtain ⟨hW0, hW1, hW2, _⟩ := hW; go_simp; try with_reducible rfl)
    (try simp only [Act.put, List.setIfInBounds_toArray, List.set_cons_zero, List.set_cons_succ])
    refine takeH (i := 2) (dst := some 35) (v := ?v11) rfl rfl (by kernel_rfl) (by kernel_rfl) (by kernel_rfl) (fun _ _ _ h => h) rfl ?hy11 hH rfl ?rest11
    case hy11 => (intro W hW; obtain ⟨hW0, hW1, hW2, _⟩ := hW; go_simp; try with_reducible rfl)
    (try simp only [Act.put, List.setIfInBounds_toArray, List.set_cons_zero, List.set_cons_succ])
    refine callH (i := 3) { dst := some 36, op := Go.Op.call { callee := Go.Callee.value (Go.Operand.func 72), args := #[Go.Operand.tmp 35], argTypes := #[37] }, type := 3, pos := "geo.go:29", after := #[{ on := 2, ground := Go.Ground.data }], guard := none } (by kernel_rfl) rfl rfl (fun K hK => ?_)
    go_simp
    refine (keep3 w.heap.size a i n w hH (LEAD _)).mono ?_
    rintro e w1 ⟨rfl, k⟩
    clear hH
    refine hK.out _ _ k (fun hH => ?_)
    clear hK K
    (try simp only [Act.put, List.setIfInBounds_toArray, List.set_cons_zero, List.set_cons_succ])
    refine takeH (i := 4) (dst := some 37) (v := ?v12) rfl rfl (by kernel_rfl) (by kernel_rfl) (by kernel_rfl) (fun _ _ _ h => h) rfl ?hy12 hH rfl ?rest12
    case hy12 => (intro W hW; obtain ⟨hW0, hW1, hW2, _⟩ := hW; go_simp; try with_reducible rfl)
    (try simp only [Act.put, List.setIfInBounds_toArray, List.set_cons_zero, List.set_cons_succ])
    refine takeH (i := 5) (dst := some 38) (v := ?v13) rfl rfl (by kernel_rfl) (by kernel_rfl) (by kernel_rfl) (fun _ _ _ h => h) rfl ?hy13 hH rfl ?rest13
    case hy13 => (intro W hW; obtain ⟨hW0, hW1, hW2, _⟩ := hW; go_simp; try with_reducible rfl)
    (try simp only [Act.put, List.setIfInBounds_toArray, List.set_cons_zero, List.set_cons_succ])
    refine takeH (i := 6) (dst := some 39) (v := ?v14) rfl rfl (by kernel_rfl) (by kernel_rfl) (by kernel_rfl) (fun _ _ _ h => h) rfl ?hy14 hH rfl ?rest14
    case hy14 => (intro W hW; obtain ⟨hW0, hW1, hW2, _⟩ := hW; go_simp; try with_reducible rfl)
    (try simp only [Act.put, List.setIfInBounds_toArray, List.set_cons_zero, List.set_cons_succ])
    refine takeH (i := 7) (dst := some 40) (v := ?v15) rfl rfl (by kernel_rfl) (by kernel_rfl) (by kernel_rfl) (fun _ _ _ h => h) rfl ?hy15 hH rfl ?rest15
    case hy15 => (intro W hW; obtain ⟨hW0, hW1, hW2, _⟩ := hW; go_simp; try with_reducible rfl)
    (try simp only [Act.put, List.setIfInBounds_toArray, List.set_cons_zero, List.set_cons_succ])
    refine takeH (i := 8) (dst := some 41) (v := ?v16) rfl rfl (by kernel_rfl) (by kernel_rfl) (by kernel_rfl) (fun _ _ _ h => h) rfl ?hy16 hH rfl ?rest16
    case hy16 => (intro W hW; obtain ⟨hW0, hW1, hW2, _⟩ := hW; go_simp; try with_reducible rfl)
    (try simp only [Act.put, List.setIfInBounds_toArray, List.set_cons_zero, List.set_cons_succ])
    refine takeH (i := 9) (dst := some 42) (v := ?v17) rfl rfl (by kernel_rfl) (by kernel_rfl) (by kernel_rfl) (fun _ _ _ h => h) rfl ?hy17 hH rfl ?rest17
    case hy17 => (intro W hW; obtain ⟨hW0, hW1, hW2, _⟩ := hW; go_simp; try with_reducible rfl)
    (try simp only [Act.put, List.setIfInBounds_toArray, List.set_cons_zero, List.set_cons_succ])
    refine callH (i := 10) { dst := some 43, op := Go.Op.call { callee := Go.Callee.value (Go.Operand.func 73), args := #[Go.Operand.tmp 40, Go.Operand.tmp 42], argTypes := #[37, 3] }, type := 3, pos := "geo.go:29", after := #[{ on := 7, ground := Go.Ground.data }, { on := 9, ground := Go.Ground.data }, { on := 6, ground := Go.Ground.chain }, { on := 6, ground := Go.Ground.guard }], guard := some (6, true) } (by kernel_rfl) rfl rfl (fun K hK => ?_)
    go_simp
    refine (keep3 w.heap.size a i n w hH (HEAD _)).mono ?_
    rintro e w2 ⟨rfl, k2⟩
    clear hH
    refine hK.out _ _ k2 (fun hH => ?_)
    clear hK K
    (try simp only [Act.put, List.setIfInBounds_toArray, List.set_cons_zero, List.set_cons_succ])
    refine takeH (i := 11) (dst := some 44) (v := ?v18) rfl rfl (by kernel_rfl) (by kernel_rfl) (by kernel_rfl) (fun _ _ _ h => h) rfl ?hy18 hH rfl ?rest18
    case hy18 => (intro W hW; obtain ⟨hW0, hW1, hW2, _⟩ := hW; go_simp; try with_reducible rfl)
    (try simp only [Act.put, List.setIfInBounds_toArray, List.set_cons_zero, List.set_cons_succ])
    refine takeH (i := 12) (dst := some 45) (v := ?v19) rfl rfl (by kernel_rfl) (by kernel_rfl) (by kernel_rfl) (fun _ _ _ h => h) rfl ?hy19 hH rfl ?rest19
    case hy19 => (intro W hW; obtain ⟨hW0, hW1, hW2, _⟩ := hW; go_simp; try with_reducible rfl)
    (try simp only [Act.put, List.setIfInBounds_toArray, List.set_cons_zero, List.set_cons_succ])
    refine takeH (i := 13) (dst := some 2) (v := ?v20) rfl rfl (by kernel_rfl) (by kernel_rfl) (by kernel_rfl) (fun _ _ _ h => h) rfl ?hy20 hH rfl ?rest20
    case hy20 => (intro W hW; obtain ⟨hW0, hW1, hW2, _⟩ := hW; go_simp; try with_reducible rfl)
    (try simp only [Act.put, List.setIfInBounds_toArray, List.set_cons_zero, List.set_cons_succ])
    refine wpAnyH_done (by kernel_rfl) ?_ _
    clear hH
    go_wp2
    go_ret
    exact ⟨is_ok (by rw [okG_iff]; omega), k2.2.2.2⟩
end Go.Proofs.Ytabmogeicpphoaa
