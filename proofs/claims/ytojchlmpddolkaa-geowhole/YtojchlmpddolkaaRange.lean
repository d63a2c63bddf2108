/- Package geo and the document's answer: data blocks, the group of a slot. -/
import Derived.Test.YtojchlmpddolkaaPlaces
namespace Go.Proofs.Ytojchlmpddolkaa
open Go.RowKit
abbrev Pos0 (x : Int) : Prop := Nonempty (0 ≤ x)
theorem tdiv4 (x : Int) [h : Pos0 x] : x.tdiv 4 = x / 4 := h.elim Int.tdiv_eq_ediv_of_nonneg
theorem tmod4 (x : Int) [h : Pos0 x] : x.tmod 4 = x % 4 := h.elim Int.tmod_eq_emod_of_nonneg
/-- The data blocks of a group. -/
def fromV (a i n k : Int) : Int := if okG a i n ∧ 0 ≤ k ∧ k < n then 2 + k * a + (1 + i / 4) else 0
def toV (a i n k : Int) : Int := if okG a i n ∧ 0 ≤ k ∧ k < n then 2 + k * a + a else 0
theorem fromV_in {a i n k : Int} (h : okG a i n) (h0 : 0 ≤ k) (h1 : k < n) : 2 + k * a + (1 + i / 4) = fromV a i n k := (if_pos ⟨h, h0, h1⟩).symm
theorem toV_in {a i n k : Int} (h : okG a i n) (h0 : 0 ≤ k) (h1 : k < n) : 2 + k * a + a = toV a i n k := (if_pos ⟨h, h0, h1⟩).symm
theorem fromV_out {a i n k : Int} (h : ¬ (okG a i n ∧ 0 ≤ k ∧ k < n)) : 0 = fromV a i n k := (if_neg h).symm
theorem toV_out {a i n k : Int} (h : ¬ (okG a i n ∧ 0 ≤ k ∧ k < n)) : 0 = toV a i n k := (if_neg h).symm
theorem head_ok {a i n k : Int} (h : okG a i n) (h0 : 0 ≤ k) (h1 : k < n) (w : World) : Calls Try.prog 7 #[.agg #[.int .i64 a, .int .i64 i, .int .i64 n], .int .i64 k] w fun e w' => e = .returned (.tuple #[.int .i64 (2 + k * a), .int .i64 0]) ∧ Below w.heap.size w w' := by
  have := Head_any a i n k w; rw [← headV_in h h0 h1, ← headE_in h h0 h1] at this; exact this
theorem headE_ne {a i n k : Int} (h : ¬ (okG a i n ∧ 0 ≤ k ∧ k < n)) : (headE a i n k == 0) = false := by
  rw [headE]; split
  · rfl
  · split
    · exact absurd ⟨by simp_all, by assumption⟩ h
    · rfl
attribute [local go_sem] wrapI decF decT tdiv4
set_option maxHeartbeats 1000000 in
theorem range_any (a i n k : Int) (w : World) :
    Calls Try.prog 9 #[.agg #[.int .i64 a, .int .i64 i, .int .i64 n], .int .i64 k] w fun e w' => e = .returned (.tuple #[.int .i64 (fromV a i n k), .int .i64 (toV a i n k)]) ∧ Below w.heap.size w w' := by
  have hb : Below w.heap.size w (w.alloc (.cells #[.int .i64 a, .int .i64 i, .int .i64 n] 23)) := (Below.refl _ _).alloc (Nat.le_refl _) _
  have L0 : Lies w w.heap.size a i n (w.alloc (.cells #[.int .i64 a, .int .i64 i, .int .i64 n] 23)) := ⟨by go_simp, by go_simp, by go_simp, hb⟩
  by_cases hin : okG a i n ∧ 0 ≤ k ∧ k < n
  · obtain ⟨hok, hk0, hk1⟩ := hin
    have HD := head_ok hok hk0 hk1
    have hp := grp_le hok hk0 hk1
    have hq : 16 ≤ a ∧ a ≤ 128 ∧ 4 ≤ i ∧ i ≤ 64 := hok.box
    have LEAD := fun W => lead_any a i n W (by omega) (by omega)
    have e1 : In64 (2 + k * a + (1 + i / 4)) := ⟨by omega⟩
    have e2 : In64 (2 + k * a + a) := ⟨by omega⟩
    rw [← fromV_in hok hk0 hk1, ← toV_in hok hk0 hk1]
    go_enter Try.func9, Try.ntmps9
    go_wp2_with (first | (go_at_call 7; refine (keep3 w.heap.size a i n w ?_ (HD _)).mono ?_; (first | exact L0 | exact ⟨k0, k1, k2, kb⟩); (try clear k0 k1 k2 kb); rintro e w1 ⟨rfl, k0, k1, k2, kb⟩))
    have hbd : Lies w w.heap.size a i n w1.drew := ⟨by go_simp, by go_simp, by go_simp, kb.drew⟩
    refine wp_region_held_drew (S := (fun w' => Lies w w.heap.size a i n w')) (by kernel_rfl) hbd (fun hH => ?_)
    refine takeH (i := 0) (dst := some 16) (v := ?v1) rfl rfl (by kernel_rfl) (by kernel_rfl) (by kernel_rfl) (fun _ _ _ h => h) rfl ?hy1 hH rfl ?rest1
    case hy1 => (intro W hW; obtain ⟨hW0, hW1, hW2, _⟩ := hW; go_simp; try with_reducible rfl)
    (try simp only [Act.put, List.setIfInBounds_toArray, List.set_cons_zero, List.set_cons_succ])
    refine takeH (i := 1) (dst := some 17) (v := ?v2) rfl rfl (by kernel_rfl) (by kernel_rfl) (by kernel_rfl) (fun _ _ _ h => h) rfl ?hy2 hH rfl ?rest2
    case hy2 => (intro W hW; obtain ⟨hW0, hW1, hW2, _⟩ := hW; go_simp; try with_reducible rfl)
    (try simp only [Act.put, List.setIfInBounds_toArray, List.set_cons_zero, List.set_cons_succ])
    refine takeH (i := 4) (dst := some 20) (v := ?v3) rfl rfl (by kernel_rfl) (by kernel_rfl) (by kernel_rfl) (fun _ _ _ h => h) rfl ?hy3 hH rfl ?rest3
    case hy3 => (intro W hW; obtain ⟨hW0, hW1, hW2, _⟩ := hW; go_simp; try with_reducible rfl)
    (try simp only [Act.put, List.setIfInBounds_toArray, List.set_cons_zero, List.set_cons_succ])
    refine takeH (i := 5) (dst := some 21) (v := ?v4) rfl rfl (by kernel_rfl) (by kernel_rfl) (by kernel_rfl) (fun _ _ _ h => h) rfl ?hy4 hH rfl ?rest4
    case hy4 => (intro W hW; obtain ⟨hW0, hW1, hW2, _⟩ := hW; go_simp; try with_reducible rfl)
    (try simp only [Act.put, List.setIfInBounds_toArray, List.set_cons_zero, List.set_cons_succ])
    refine takeH (i := 6) (dst := some 22) (v := ?v5) rfl rfl (by kernel_rfl) (by kernel_rfl) (by kernel_rfl) (fun _ _ _ h => h) rfl ?hy5 hH rfl ?rest5
    case hy5 => (intro W hW; obtain ⟨hW0, hW1, hW2, _⟩ := hW; go_simp; try with_reducible rfl)
    (try simp only [Act.put, List.setIfInBounds_toArray, List.set_cons_zero, List.set_cons_succ])
    refine takeH (i := 7) (dst := some 23) (v := ?v6) rfl rfl (by kernel_rfl) (by kernel_rfl) (by kernel_rfl) (fun _ _ _ h => h) rfl ?hy6 hH rfl ?rest6
    case hy6 => (intro W hW; obtain ⟨hW0, hW1, hW2, _⟩ := hW; go_simp; try with_reducible rfl)
    (try simp only [Act.put, List.setIfInBounds_toArray, List.set_cons_zero, List.set_cons_succ])
    refine callH (i := 2) { dst := some 18, op := Go.Op.call { callee := Go.Callee.value (Go.Operand.func 31), args := #[Go.Operand.tmp 17], argTypes := #[23] }, type := 3, pos := "geo.go:134", after := #[{ on := 1, ground := Go.Ground.data }], guard := none } (by kernel_rfl) rfl rfl (fun K hK => ?_)
    go_simp
    refine (keep3 w.heap.size a i n w hH (LEAD _)).mono ?_
    rintro e w2 ⟨rfl, k⟩
    clear hH
    refine hK.out _ _ k (fun hH => ?_)
    clear hK K
    (try simp only [Act.put, List.setIfInBounds_toArray, List.set_cons_zero, List.set_cons_succ])
    refine takeH (i := 3) (dst := some 19) (v := ?v7) rfl rfl (by kernel_rfl) (by kernel_rfl) (by kernel_rfl) (fun _ _ _ h => h) rfl ?hy7 hH rfl ?rest7
    case hy7 => (intro W hW; obtain ⟨hW0, hW1, hW2, _⟩ := hW; go_simp; try with_reducible rfl)
    (try simp only [Act.put, List.setIfInBounds_toArray, List.set_cons_zero, List.set_cons_succ])
    refine takeH (i := 8) (dst := some 4) (v := ?v8) rfl rfl (by kernel_rfl) (by kernel_rfl) (by kernel_rfl) (fun _ _ _ h => h) rfl ?hy8 hH rfl ?rest8
    case hy8 => (intro W hW; obtain ⟨hW0, hW1, hW2, _⟩ := hW; go_simp; try with_reducible rfl)
    (try simp only [Act.put, List.setIfInBounds_toArray, List.set_cons_zero, List.set_cons_succ])
    refine takeH (i := 9) (dst := some 5) (v := ?v9) rfl rfl (by kernel_rfl) (by kernel_rfl) (by kernel_rfl) (fun _ _ _ h => h) rfl ?hy9 hH rfl ?rest9
    case hy9 => (intro W hW; obtain ⟨hW0, hW1, hW2, _⟩ := hW; go_simp; try with_reducible rfl)
    (try simp only [Act.put, List.setIfInBounds_toArray, List.set_cons_zero, List.set_cons_succ])
    refine wpAnyH_done (by kernel_rfl) ?_ _
    clear hH
    go_wp2
    go_ret2
    exact ⟨rfl, k.2.2.2⟩
  · have HD := Head_any a i n k
    have hne := headE_ne hin
    go_enter Try.func9, Try.ntmps9
    go_wp2_with (first | (go_at_call 7; refine (keep3 w.heap.size a i n w ?_ (HD _)).mono ?_; (first | exact L0 | exact ⟨k0, k1, k2, kb⟩); (try clear k0 k1 k2 kb); rintro e w1 ⟨rfl, k0, k1, k2, kb⟩))
    go_ret2
    exact ⟨ret2 (fromV_out hin) (toV_out hin), kb⟩
set_option maxHeartbeats 1000000 in
theorem rrange_any (a i n k : Int) (w : World) :
    Calls Try.prog 10 #[.agg #[.int .i64 a, .int .i64 i, .int .i64 n], .int .i64 k] w fun e w' => e = .returned (.tuple #[.int .i64 (fromV a i n k), .int .i64 (toV a i n k)]) ∧ Below w.heap.size w w' := by
  have hb : Below w.heap.size w (w.alloc (.cells #[.int .i64 a, .int .i64 i, .int .i64 n] 23)) := (Below.refl _ _).alloc (Nat.le_refl _) _
  have L0 : Lies w w.heap.size a i n (w.alloc (.cells #[.int .i64 a, .int .i64 i, .int .i64 n] 23)) := ⟨by go_simp, by go_simp, by go_simp, hb⟩
  by_cases hok : okG a i n
  · have RT := rright_ok hok
    by_cases hk : k < 0
    · go_enter Try.func10, Try.ntmps10
      go_wp2_with (first | (go_at_call 14; refine (keep3 w.heap.size a i n w ?_ (RT _)).mono ?_; (first | exact L0 | exact ⟨k0, k1, k2, kb⟩); (try clear k0 k1 k2 kb); rintro e w1 ⟨rfl, k0, k1, k2, kb⟩))
      go_ret2
      exact ⟨ret2 (fromV_out (by omega)) (toV_out (by omega)), kb⟩
    by_cases hk2 : n ≤ k
    · go_enter Try.func10, Try.ntmps10
      go_wp2_with (first | (go_at_call 14; refine (keep3 w.heap.size a i n w ?_ (RT _)).mono ?_; (first | exact L0 | exact ⟨k0, k1, k2, kb⟩); (try clear k0 k1 k2 kb); rintro e w1 ⟨rfl, k0, k1, k2, kb⟩))
      go_ret2
      exact ⟨ret2 (fromV_out (by omega)) (toV_out (by omega)), kb⟩
    have hk0 : 0 ≤ k := by omega
    have hk1 : k < n := by omega
    have hp := grp_le hok hk0 hk1
    have hpe : (k + 1) * a = k * a + a := by rw [Int.add_mul, Int.one_mul]
    have hq : 16 ≤ a ∧ a ≤ 128 ∧ 4 ≤ i ∧ i ≤ 64 := hok.box
    have hn : n ≤ 16 := hok.le16
    have e1 : In64 (k * a) := ⟨by omega⟩
    have e2 : In64 (2 + k * a) := ⟨by omega⟩
    have e3 : In64 (2 + k * a + 1) := ⟨by omega⟩
    have e4 : In64 (2 + k * a + 1 + i / 4) := ⟨by omega⟩
    have e5 : In64 (k + 1) := ⟨by omega⟩
    have e6 : In64 (k * a + a) := ⟨by omega⟩
    have e7 : In64 (2 + (k * a + a)) := ⟨by omega⟩
    have e8 : Pos0 i := ⟨by omega⟩
    have e9 : In64 (i / 4) := ⟨by omega⟩
    rw [← fromV_in hok hk0 hk1, ← toV_in hok hk0 hk1]
    go_enter Try.func10, Try.ntmps10
    go_wp2_with (first | (go_at_call 14; refine (keep3 w.heap.size a i n w ?_ (RT _)).mono ?_; (first | exact L0 | exact ⟨k0, k1, k2, kb⟩); (try clear k0 k1 k2 kb); rintro e w1 ⟨rfl, k0, k1, k2, kb⟩))
    have hbd : Lies w w.heap.size a i n w1.drew := ⟨by go_simp, by go_simp, by go_simp, kb.drew⟩
    refine wp_region_held_drew (S := (fun w' => Lies w w.heap.size a i n w')) (by kernel_rfl) hbd (fun hH => ?_)
    refine takeH (i := 0) (dst := some 19) (v := ?v10) rfl rfl (by kernel_rfl) (by kernel_rfl) (by kernel_rfl) (fun _ _ _ h => h) rfl ?hy10 hH rfl ?rest10
    case hy10 => (intro W hW; obtain ⟨hW0, hW1, hW2, _⟩ := hW; go_simp; try with_reducible rfl)
    (try simp only [Act.put, List.setIfInBounds_toArray, List.set_cons_zero, List.set_cons_succ])
    refine takeH (i := 1) (dst := some 20) (v := ?v11) rfl rfl (by kernel_rfl) (by kernel_rfl) (by kernel_rfl) (fun _ _ _ h => h) rfl ?hy11 hH rfl ?rest11
    case hy11 => (intro W hW; obtain ⟨hW0, hW1, hW2, _⟩ := hW; go_simp; try with_reducible rfl)
    (try simp only [Act.put, List.setIfInBounds_toArray, List.set_cons_zero, List.set_cons_succ])
    refine takeH (i := 2) (dst := some 21) (v := ?v12) rfl rfl (by kernel_rfl) (by kernel_rfl) (by kernel_rfl) (fun _ _ _ h => h) rfl ?hy12 hH rfl ?rest12
    case hy12 => (intro W hW; obtain ⟨hW0, hW1, hW2, _⟩ := hW; go_simp; try with_reducible rfl)
    (try simp only [Act.put, List.setIfInBounds_toArray, List.set_cons_zero, List.set_cons_succ])
    refine takeH (i := 3) (dst := some 22) (v := ?v13) rfl rfl (by kernel_rfl) (by kernel_rfl) (by kernel_rfl) (fun _ _ _ h => h) rfl ?hy13 hH rfl ?rest13
    case hy13 => (intro W hW; obtain ⟨hW0, hW1, hW2, _⟩ := hW; go_simp; try with_reducible rfl)
    (try simp only [Act.put, List.setIfInBounds_toArray, List.set_cons_zero, List.set_cons_succ])
    refine takeH (i := 4) (dst := some 23) (v := ?v14) rfl rfl (by kernel_rfl) (by kernel_rfl) (by kernel_rfl) (fun _ _ _ h => h) rfl ?hy14 hH rfl ?rest14
    case hy14 => (intro W hW; obtain ⟨hW0, hW1, hW2, _⟩ := hW; go_simp; try with_reducible rfl)
    (try simp only [Act.put, List.setIfInBounds_toArray, List.set_cons_zero, List.set_cons_succ])
    refine takeH (i := 5) (dst := some 24) (v := ?v15) rfl rfl (by kernel_rfl) (by kernel_rfl) (by kernel_rfl) (fun _ _ _ h => h) rfl ?hy15 hH rfl ?rest15
    case hy15 => (intro W hW; obtain ⟨hW0, hW1, hW2, _⟩ := hW; go_simp; try with_reducible rfl)
    (try simp only [Act.put, List.setIfInBounds_toArray, List.set_cons_zero, List.set_cons_succ])
    refine takeH (i := 6) (dst := some 25) (v := ?v16) rfl rfl (by kernel_rfl) (by kernel_rfl) (by kernel_rfl) (fun _ _ _ h => h) rfl ?hy16 hH rfl ?rest16
    case hy16 => (intro W hW; obtain ⟨hW0, hW1, hW2, _⟩ := hW; go_simp; try with_reducible rfl)
    (try simp only [Act.put, List.setIfInBounds_toArray, List.set_cons_zero, List.set_cons_succ])
    refine takeH (i := 7) (dst := some 26) (v := ?v17) rfl rfl (by kernel_rfl) (by kernel_rfl) (by kernel_rfl) (fun _ _ _ h => h) rfl ?hy17 hH rfl ?rest17
    case hy17 => (intro W hW; obtain ⟨hW0, hW1, hW2, _⟩ := hW; go_simp; try with_reducible rfl)
    (try simp only [Act.put, List.setIfInBounds_toArray, List.set_cons_zero, List.set_cons_succ])
    refine takeH (i := 8) (dst := some 27) (v := ?v18) rfl rfl (by kernel_rfl) (by kernel_rfl) (by kernel_rfl) (fun _ _ _ h => h) rfl ?hy18 hH rfl ?rest18
    case hy18 => (intro W hW; obtain ⟨hW0, hW1, hW2, _⟩ := hW; go_simp; try with_reducible rfl)
    (try simp only [Act.put, List.setIfInBounds_toArray, List.set_cons_zero, List.set_cons_succ])
    refine takeH (i := 9) (dst := some 28) (v := ?v19) rfl rfl (by kernel_rfl) (by kernel_rfl) (by kernel_rfl) (fun _ _ _ h => h) rfl ?hy19 hH rfl ?rest19
    case hy19 => (intro W hW; obtain ⟨hW0, hW1, hW2, _⟩ := hW; go_simp; try with_reducible rfl)
    (try simp only [Act.put, List.setIfInBounds_toArray, List.set_cons_zero, List.set_cons_succ])
    refine takeH (i := 10) (dst := some 29) (v := ?v20) rfl rfl (by kernel_rfl) (by kernel_rfl) (by kernel_rfl) (fun _ _ _ h => h) rfl ?hy20 hH rfl ?rest20
    case hy20 => (intro W hW; obtain ⟨hW0, hW1, hW2, _⟩ := hW; go_simp; try with_reducible rfl)
    (try simp only [Act.put, List.setIfInBounds_toArray, List.set_cons_zero, List.set_cons_succ])
    refine takeH (i := 11) (dst := some 30) (v := ?v21) rfl rfl (by kernel_rfl) (by kernel_rfl) (by kernel_rfl) (fun _ _ _ h => h) rfl ?hy21 hH rfl ?rest21
    case hy21 => (intro W hW; obtain ⟨hW0, hW1, hW2, _⟩ := hW; go_simp; try with_reducible rfl)
    (try simp only [Act.put, List.setIfInBounds_toArray, List.set_cons_zero, List.set_cons_succ])
    refine takeH (i := 12) (dst := some 31) (v := ?v22) rfl rfl (by kernel_rfl) (by kernel_rfl) (by kernel_rfl) (fun _ _ _ h => h) rfl ?hy22 hH rfl ?rest22
    case hy22 => (intro W hW; obtain ⟨hW0, hW1, hW2, _⟩ := hW; go_simp; try with_reducible rfl)
    (try simp only [Act.put, List.setIfInBounds_toArray, List.set_cons_zero, List.set_cons_succ])
    refine takeH (i := 13) (dst := some 32) (v := ?v23) rfl rfl (by kernel_rfl) (by kernel_rfl) (by kernel_rfl) (fun _ _ _ h => h) rfl ?hy23 hH rfl ?rest23
    case hy23 => (intro W hW; obtain ⟨hW0, hW1, hW2, _⟩ := hW; go_simp; try with_reducible rfl)
    (try simp only [Act.put, List.setIfInBounds_toArray, List.set_cons_zero, List.set_cons_succ])
    refine takeH (i := 14) (dst := some 33) (v := ?v24) rfl rfl (by kernel_rfl) (by kernel_rfl) (by kernel_rfl) (fun _ _ _ h => h) rfl ?hy24 hH rfl ?rest24
    case hy24 => (intro W hW; obtain ⟨hW0, hW1, hW2, _⟩ := hW; go_simp; try with_reducible rfl)
    (try simp only [Act.put, List.setIfInBounds_toArray, List.set_cons_zero, List.set_cons_succ])
    refine takeH (i := 15) (dst := some 34) (v := ?v25) rfl rfl (by kernel_rfl) (by kernel_rfl) (by kernel_rfl) (fun _ _ _ h => h) rfl ?hy25 hH rfl ?rest25
    case hy25 => (intro W hW; obtain ⟨hW0, hW1, hW2, _⟩ := hW; go_simp; try with_reducible rfl)
    (try simp only [Act.put, List.setIfInBounds_toArray, List.set_cons_zero, List.set_cons_succ])
    refine takeH (i := 16) (dst := some 4) (v := ?v26) rfl rfl (by kernel_rfl) (by kernel_rfl) (by kernel_rfl) (fun _ _ _ h => h) rfl ?hy26 hH rfl ?rest26
    case hy26 => (intro W hW; obtain ⟨hW0, hW1, hW2, _⟩ := hW; go_simp; try with_reducible rfl)
    (try simp only [Act.put, List.setIfInBounds_toArray, List.set_cons_zero, List.set_cons_succ])
    refine takeH (i := 17) (dst := some 5) (v := ?v27) rfl rfl (by kernel_rfl) (by kernel_rfl) (by kernel_rfl) (fun _ _ _ h => h) rfl ?hy27 hH rfl ?rest27
    case hy27 => (intro W hW; obtain ⟨hW0, hW1, hW2, _⟩ := hW; go_simp; try with_reducible rfl)
    (try simp only [Act.put, List.setIfInBounds_toArray, List.set_cons_zero, List.set_cons_succ])
    refine wpAnyH_done (by kernel_rfl) ?_ _
    clear hH
    go_wp2
    go_ret2
    exact ⟨ret2 (by omega) (by omega), kb.drew⟩
  · have RT := rright_no hok
    go_enter Try.func10, Try.ntmps10
    go_wp2_with (first | (go_at_call 14; refine (keep3 w.heap.size a i n w ?_ (RT _)).mono ?_; (first | exact L0 | exact ⟨k0, k1, k2, kb⟩); (try clear k0 k1 k2 kb); rintro e w1 ⟨rfl, k0, k1, k2, kb⟩))
    go_ret2
    exact ⟨ret2 (fromV_out (fun c => hok c.1)) (toV_out (fun c => hok c.1)), kb⟩
set_option maxHeartbeats 1000000 in
theorem rof_any (a i n s : Int) (w : World) :
    Calls Try.prog 29 #[.agg #[.int .i64 a, .int .i64 i, .int .i64 n], .int .i64 s] w fun e w' => e = .returned (.int .i64 (ofV a i n s)) ∧ Below w.heap.size w w' := by
  have hb : Below w.heap.size w (w.alloc (.cells #[.int .i64 a, .int .i64 i, .int .i64 n] 23)) := (Below.refl _ _).alloc (Nat.le_refl _) _
  have L0 : Lies w w.heap.size a i n (w.alloc (.cells #[.int .i64 a, .int .i64 i, .int .i64 n] 23)) := ⟨by go_simp, by go_simp, by go_simp, hb⟩
  by_cases hok : okG a i n
  · have hp2 := hok.prod2
    have RT := rright_ok hok
    have SL := rslots_ok hok
    by_cases hs : s < 0
    · go_enter Try.func29, Try.ntmps29
      go_wp2_with (first | (go_at_call 14; refine (keep3 w.heap.size a i n w ?_ (RT _)).mono ?_; (first | exact L0 | exact ⟨k0, k1, k2, kb⟩); (try clear k0 k1 k2 kb); rintro e w1 ⟨rfl, k0, k1, k2, kb⟩))
      go_ret
      exact ⟨ret1 (ofV_out (by omega)), kb⟩
    by_cases hs2 : n * i ≤ s
    · go_enter Try.func29, Try.ntmps29
      go_wp2_with (first | (go_at_call 14; refine (keep3 w.heap.size a i n w ?_ (RT _)).mono ?_; (first | exact L0 | exact ⟨k0, k1, k2, kb⟩); (try clear k0 k1 k2 kb); rintro e w1 ⟨rfl, k0, k1, k2, kb⟩) | (go_at_call 18; refine (keep3 w.heap.size a i n w ?_ (SL _)).mono ?_; (first | exact L0 | exact ⟨k0, k1, k2, kb⟩); (try clear k0 k1 k2 kb); rintro e w1 ⟨rfl, k0, k1, k2, kb⟩))
      go_ret
      exact ⟨ret1 (ofV_out (by omega)), kb⟩
    have hi : 4 ≤ i ∧ i ≤ 64 := hok.box.2.2
    go_enter Try.func29, Try.ntmps29
    go_wp2_with (first | (go_at_call 14; refine (keep3 w.heap.size a i n w ?_ (RT _)).mono ?_; (first | exact L0 | exact ⟨k0, k1, k2, kb⟩); (try clear k0 k1 k2 kb); rintro e w1 ⟨rfl, k0, k1, k2, kb⟩) | (go_at_call 18; refine (keep3 w.heap.size a i n w ?_ (SL _)).mono ?_; (first | exact L0 | exact ⟨k0, k1, k2, kb⟩); (try clear k0 k1 k2 kb); rintro e w1 ⟨rfl, k0, k1, k2, kb⟩))
    go_ret
    exact ⟨ret1 (ofV_in hok (by omega) (by omega)), kb⟩
  · have RT := rright_no hok
    go_enter Try.func29, Try.ntmps29
    go_wp2_with (first | (go_at_call 14; refine (keep3 w.heap.size a i n w ?_ (RT _)).mono ?_; (first | exact L0 | exact ⟨k0, k1, k2, kb⟩); (try clear k0 k1 k2 kb); rintro e w1 ⟨rfl, k0, k1, k2, kb⟩))
    go_ret
    exact ⟨ret1 (ofV_no hok), kb⟩
end Go.Proofs.Ytojchlmpddolkaa
