/- leveeref08.Same, of two lists of the same entries. -/
import Derived.Test.YtabmogeicpphoaaJ13
import Derived.Test.YtabmogeicpphoaaKDbytes
namespace Go.Proofs.Ytabmogeicpphoaa
open Go.RowKit
structure SB (b1 b2 o : Nat) (x : Ent) (W : World) : Prop where
  p : W.rangeAt b1 o (eL x)
  q : W.rangeAt b2 o (eL x)
set_option maxRecDepth 100000 in
set_option maxHeartbeats 4000000 in
theorem same8_any (s1 s2 : Option Addr) (c1 c2 : Nat) (es : List Ent) (w : World) (h1 : SrcE w s1 es) (h2 : SrcE w s2 es) (hm : es.length ≤ 1000) :
    Calls Try.prog 41 #[.slice s1 es.length c1, .slice s2 es.length c2] w fun e w' => e = .returned (.bool true) ∧ Below w.heap.size w w' := by
  by_cases h0 : es.length = 0
  · rw [h0]
    clear h1 h2 hm h0
    go_enter Try.func41, Try.ntmps41
    go_wp2
    refine wp_loop_rounds 1 ?_
    rw [rounds_succ]
    go_wp2
    go_ret
    exact ⟨rfl, Below.refl _ _⟩
  · rcases h1 with h1 | ⟨b1, rfl, hb1, hc1⟩
    · rw [h1] at h0; exact absurd rfl h0
    rcases h2 with h2 | ⟨b2, rfl, hb2, hc2⟩
    · rw [h2] at h0; exact absurd rfl h0
    have HC1 : Hid _ := hc1
    have HC2 : Hid _ := hc2
    clear hc1 hc2
    go_enter Try.func41, Try.ntmps41
    go_wp2
    go_loopw [5] (fun t wr => ∃ k d : Nat, k ≤ es.length ∧ t = .int .i64 k ∧ wr = w.drewN d) (fun t _ => es.length - (intOf t).toNat)
    case atStart => exact ⟨0, 0, by omega, rfl, rfl⟩
    case round =>
      obtain ⟨k, d, hk, rfl, rfl⟩ := hrel
      by_cases hlt : (k : Int) < es.length
      · have gd : SB b1 b2 (k * 3) (es.getD k zent) (w.drewN d).drew := ⟨by rw [Nat.mul_comm]; exact HC1.out k (by omega), by rw [Nat.mul_comm]; exact HC2.out k (by omega)⟩
        generalize es.getD k zent = x at *
        go_upto_region 6 with fail
        refine wp_region_held_drew (S := (fun W => SB b1 b2 (k * 3) x W)) (by kernel_rfl) gd (fun hH => ?_)
        refine takeH (i := 0) (dst := some 17) (v := ?v1) rfl rfl (by kernel_rfl) (by kernel_rfl) (by kernel_rfl) (fun _ _ _ h => h) rfl ?hy1 hH rfl ?rest1
        case hy1 => (intro W hW; (try dsimp only at hW); go_simp; try with_reducible rfl)
        (try simp only [Act.put, List.setIfInBounds_toArray, List.set_cons_zero, List.set_cons_succ])
        refine takeH (i := 1) (dst := some 18) (v := ?v2) rfl rfl (by kernel_rfl) (by kernel_rfl) (by kernel_rfl) (fun _ _ _ h => h) rfl ?hy2 hH rfl ?rest2
        case hy2 => (intro W hW; (try dsimp only at hW); go_simp; try with_reducible rfl)
        (try simp only [Act.put, List.setIfInBounds_toArray, List.set_cons_zero, List.set_cons_succ])
        refine takeH (i := 2) (dst := some 19) (v := ?v3) rfl rfl (by kernel_rfl) (by kernel_rfl) (by kernel_rfl) (fun _ _ _ h => h) rfl ?hy3 hH rfl ?rest3
        case hy3 => (intro W hW; (try dsimp only at hW); go_simp; try with_reducible rfl)
        (try simp only [Act.put, List.setIfInBounds_toArray, List.set_cons_zero, List.set_cons_succ])
        refine takeH (i := 3) (dst := some 20) (v := ?v4) rfl rfl (by kernel_rfl) (by kernel_rfl) (by kernel_rfl) (fun _ _ _ h => h) rfl ?hy4 hH rfl ?rest4
        case hy4 => (intro W hW; refine exec_load_entO (b := b1) (o := k * 3) (x := Operand.tmp 19) hW.p ?_ ?_ <;> (first | rfl | simp))
        (try simp only [Act.put, List.setIfInBounds_toArray, List.set_cons_zero, List.set_cons_succ])
        refine takeH (i := 4) (dst := some 21) (v := ?v5) rfl rfl (by kernel_rfl) (by kernel_rfl) (by kernel_rfl) (fun _ _ _ h => h) rfl ?hy5 hH rfl ?rest5
        case hy5 => (intro W hW; (try dsimp only at hW); go_simp; try with_reducible rfl)
        (try simp only [Act.put, List.setIfInBounds_toArray, List.set_cons_zero, List.set_cons_succ])
        refine takeH (i := 5) (dst := some 22) (v := ?v6) rfl rfl (by kernel_rfl) (by kernel_rfl) (by kernel_rfl) (fun _ _ _ h => h) rfl ?hy6 hH rfl ?rest6
        case hy6 => (intro W hW; (try dsimp only at hW); go_simp; try with_reducible rfl)
        (try simp only [Act.put, List.setIfInBounds_toArray, List.set_cons_zero, List.set_cons_succ])
        refine takeH (i := 6) (dst := some 23) (v := ?v7) rfl rfl (by kernel_rfl) (by kernel_rfl) (by kernel_rfl) (fun _ _ _ h => h) rfl ?hy7 hH rfl ?rest7
        case hy7 => (intro W hW; (try dsimp only at hW); go_simp; try with_reducible rfl)
        (try simp only [Act.put, List.setIfInBounds_toArray, List.set_cons_zero, List.set_cons_succ])
        refine takeH (i := 7) (dst := some 24) (v := ?v8) rfl rfl (by kernel_rfl) (by kernel_rfl) (by kernel_rfl) (fun _ _ _ h => h) rfl ?hy8 hH rfl ?rest8
        case hy8 => (intro W hW; refine exec_load_entO (b := b2) (o := k * 3) (x := Operand.tmp 23) hW.q ?_ ?_ <;> (first | rfl | simp))
        (try simp only [Act.put, List.setIfInBounds_toArray, List.set_cons_zero, List.set_cons_succ])
        refine takeH (i := 8) (dst := some 25) (v := ?v9) rfl rfl (by kernel_rfl) (by kernel_rfl) (by kernel_rfl) (fun _ _ _ h => h) rfl ?hy9 hH rfl ?rest9
        case hy9 => (intro W hW; refine exec_neq_ent (X := Operand.tmp 20) (Y := Operand.tmp 24) (neqE_refl x) ?_ ?_ ?_ <;> rfl)
        (try simp only [Act.put, List.setIfInBounds_toArray, List.set_cons_zero, List.set_cons_succ])
        refine wpAnyH_done (by kernel_rfl) ?_ _
        clear hH
        clear gd
        go_wp2
        go_roundw
        case rel => exact ⟨k + 1, d + 1, by omega, by go_num, rfl⟩
        case measure => simp [intOf]; omega
      · obtain rfl : k = es.length := by omega
        go_wp2
        go_ret
        exact ⟨rfl, below_drewN (Below.refl _ _) _⟩
end Go.Proofs.Ytabmogeicpphoaa
