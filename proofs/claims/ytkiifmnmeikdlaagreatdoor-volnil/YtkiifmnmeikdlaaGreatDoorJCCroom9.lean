/- Package cache: room. -/
import Derived.Test.YtkiifmnmeikdlaaGreatDoorJCDFlush9
import Derived.Deep.AppendLies
import Derived.BigQuiet
import Derived.BigRegion
import Derived.Shelf.Abstract
import Derived.Test.YtkiifmnmeikdlaaGreatDoorProg
import Derived.Shelf.SlGeneric
import Derived.Shelf.SlIterI.Nil
import Derived.Shelf.SortM.Plain
import Derived.Shelf.SortM.SortNone
import Derived.Shelf.SlicesE.Clone
import Derived.Shelf.SlicesE.Compact
import Derived.Shelf.SlicesE.IndexFunc
import Derived.Shelf.SlicesG.SearchI
import Derived.Ground.GgzProg
import Derived.Ground.SlgmProg
import Derived.Ground.SlgnProg
import Derived.Ground.SlgfProg
import Derived.Deep.RegionWith
import Derived.Sort.OwnSortedInts
import Derived.RangeFuncNested
import Derived.RangeFuncBound
import Derived.RangeFuncCalls
import Derived.RangeFuncLeaves
import Derived.WalkKit
import Derived.OwnWalkIn
import Derived.TacticsInMore
import Derived.LoopNIn
import Derived.LoopIn
namespace Go.Proofs.YtkiifmnmeikdlaaGreatDoor
open Go.RowKit
set_option maxRecDepth 100000
attribute [local go_sem] wrapI decF decT
theorem first_split (p : CE → Bool) : ∀ L : List CE, (∀ x ∈ L, p x = false) ∨ ∃ A e B, L = A ++ e :: B ∧ (∀ x ∈ A, p x = false) ∧ p e = true
  | [] => .inl fun x hx => by cases hx
  | a :: r => by
    cases ha : p a
    · rcases first_split p r with h | ⟨A, e, B, rfl, h1, h2⟩
      · refine .inl fun x hx => ?_
        rcases List.mem_cons.1 hx with rfl | hx
        · exact ha
        · exact h x hx
      · refine .inr ⟨a :: A, e, B, rfl, fun x hx => ?_, h2⟩
        rcases List.mem_cons.1 hx with rfl | hx
        · exact ha
        · exact h1 x hx
    · exact .inr ⟨[], a, r, rfl, fun x hx => (by cases hx), ha⟩
theorem nums_getD (L : List CE) (k : Nat) (h : k < L.length) : (nums L).getD k 0 = ((L[k]).n : Int) := by simp [nums, h]
theorem split_at (L : List CE) (k : Nat) (h : k < L.length) : L = L.take k ++ L[k] :: L.drop (k + 1) := by
  rw [List.getElem_cons_drop, List.take_append_drop]
section
variable {w w' : World} {base : Nat} {σ : CSt}
/-- The order's row. -/
theorem CS.row (h : CS w base σ (nums σ.L)) : ∃ ao cap, σ.ov = .slice ao σ.L.length cap ∧ σ.L.length ≤ cap ∧ (cap : Int) ≤ 9223372036854775807 ∧ (0 < σ.L.length → ∃ g, ao = some ⟨g, 0, none⟩ ∧ ∀ W, CS W base σ (nums σ.L) → ∀ k, (hk : k < σ.L.length) → W.cell? ⟨g, k, none⟩ = some (.int .i64 ((σ.L[k]).n : Int))) := by
  obtain ⟨ao, cap, hov, hsrc, hlc, hcm, hnil⟩ := h.ord.form
  rw [nums_length] at hov hlc
  refine ⟨ao, cap, hov, hlc, hcm, fun hpos => ?_⟩
  rcases h.ord.2 with ⟨h2, _⟩ | ⟨g, cap', cur, hv, _⟩
  · rw [hov] at h2
    simp only [Value.slice.injEq] at h2
    have := h2.2.1
    omega
  · rw [hov] at hv
    simp only [Value.slice.injEq] at hv
    refine ⟨g, hv.1, fun W hW k hk => ?_⟩
    obtain ⟨ao2, cap2, hov2, hsrc2, _⟩ := hW.ord.form
    rw [hov, hv.1] at hov2
    simp only [Value.slice.injEq] at hov2
    rcases hsrc2 with hs | ⟨b, off, hb, _, hc⟩
    · have := congrArg List.length hs
      rw [nums_length, List.length_nil] at this
      omega
    · rw [← hov2.1] at hb
      simp only [Option.some.injEq, Addr.mk.injEq] at hb
      obtain ⟨rfl, rfl, _⟩ := hb
      have := hc k (by rw [nums_length]; exact hk)
      rw [Nat.zero_add, nums_getD _ _ hk] at this
      exact this
set_option maxHeartbeats 2000000 in
theorem room_free (h : CS w base σ (nums σ.L)) (hl : (σ.L.length : Int) < σ.most) :
    Calls Tryz.prog 128 #[.pointer (some ⟨σ.p, 0, none⟩)] w fun r w' => r = .returned (.bool true) ∧ Below w.heap.size w w' := by
  obtain ⟨ao, cap, hov, hlc, hcm, hrow⟩ := h.row
  have hm1 := h.m1
  have HC : Hid (CS w.drew base σ (nums σ.L) ∧ Below w.heap.size w w.drew) := ⟨h.drew, (Below.refl _ _).drew⟩
  have HQ3 : Hid (∀ W, CS W base σ (nums σ.L) → W.cell? ⟨σ.p, 3, none⟩ = some (.slice ao σ.L.length cap)) := fun W hW => by rw [hW.c3, hov]
  clear h
  have hdec : DecT (σ.L.length < σ.most) := ⟨by omega⟩
  clear hov hrow
  go_enter Tryz.func128, Tryz.ntmps128
  go_wp2_with fail
  refine wp_region_held_drew (S := (fun W => CS W base σ (nums σ.L) ∧ Below w.heap.size w W)) (by kernel_rfl) HC.out (fun hH => ?_)
  refine takeH (i := 0) (dst := some 5) (v := ?v1) rfl rfl (by kernel_rfl) (by kernel_rfl) (by kernel_rfl) (fun _ _ _ h => h) rfl ?hy1 hH rfl ?rest1
  case hy1 => (intro W hW; have q1 := hW.1.c1; have q3 := HQ3.out W hW.1; clear hW; go_simp; try with_reducible rfl)
  (try simp only [Act.put, List.setIfInBounds_toArray, List.set_cons_zero, List.set_cons_succ])
  refine takeH (i := 1) (dst := some 6) (v := ?v2) rfl rfl (by kernel_rfl) (by kernel_rfl) (by kernel_rfl) (fun _ _ _ h => h) rfl ?hy2 hH rfl ?rest2
  case hy2 => (intro W hW; have q1 := hW.1.c1; have q3 := HQ3.out W hW.1; clear hW; go_simp; try with_reducible rfl)
  (try simp only [Act.put, List.setIfInBounds_toArray, List.set_cons_zero, List.set_cons_succ])
  refine takeH (i := 2) (dst := some 7) (v := ?v3) rfl rfl (by kernel_rfl) (by kernel_rfl) (by kernel_rfl) (fun _ _ _ h => h) rfl ?hy3 hH rfl ?rest3
  case hy3 => (intro W hW; have q1 := hW.1.c1; have q3 := HQ3.out W hW.1; clear hW; go_simp; try with_reducible rfl)
  (try simp only [Act.put, List.setIfInBounds_toArray, List.set_cons_zero, List.set_cons_succ])
  refine takeH (i := 3) (dst := some 8) (v := ?v4) rfl rfl (by kernel_rfl) (by kernel_rfl) (by kernel_rfl) (fun _ _ _ h => h) rfl ?hy4 hH rfl ?rest4
  case hy4 => (intro W hW; have q1 := hW.1.c1; have q3 := HQ3.out W hW.1; clear hW; go_simp; try with_reducible rfl)
  (try simp only [Act.put, List.setIfInBounds_toArray, List.set_cons_zero, List.set_cons_succ])
  refine takeH (i := 4) (dst := some 9) (v := ?v5) rfl rfl (by kernel_rfl) (by kernel_rfl) (by kernel_rfl) (fun _ _ _ h => h) rfl ?hy5 hH rfl ?rest5
  case hy5 => (intro W hW; have q1 := hW.1.c1; have q3 := HQ3.out W hW.1; clear hW; go_simp; try with_reducible rfl)
  (try simp only [Act.put, List.setIfInBounds_toArray, List.set_cons_zero, List.set_cons_succ])
  refine takeH (i := 5) (dst := some 10) (v := ?v6) rfl rfl (by kernel_rfl) (by kernel_rfl) (by kernel_rfl) (fun _ _ _ h => h) rfl ?hy6 hH rfl ?rest6
  case hy6 => (intro W hW; have q1 := hW.1.c1; have q3 := HQ3.out W hW.1; clear hW; go_simp; try with_reducible rfl)
  (try simp only [Act.put, List.setIfInBounds_toArray, List.set_cons_zero, List.set_cons_succ])
  refine takeH (i := 6) (dst := some 11) (v := ?v7) rfl rfl (by kernel_rfl) (by kernel_rfl) (by kernel_rfl) (fun _ _ _ h => h) rfl ?hy7 hH rfl ?rest7
  case hy7 => (intro W hW; have q1 := hW.1.c1; have q3 := HQ3.out W hW.1; clear hW; go_simp; try with_reducible rfl)
  (try simp only [Act.put, List.setIfInBounds_toArray, List.set_cons_zero, List.set_cons_succ])
  refine takeH (i := 7) (dst := some 12) (v := ?v8) rfl rfl (by kernel_rfl) (by kernel_rfl) (by kernel_rfl) (fun _ _ _ h => h) rfl ?hy8 hH rfl ?rest8
  case hy8 => (intro W hW; have q1 := hW.1.c1; have q3 := HQ3.out W hW.1; clear hW; go_simp; try with_reducible rfl)
  (try simp only [Act.put, List.setIfInBounds_toArray, List.set_cons_zero, List.set_cons_succ])
  refine takeH (i := 8) (dst := some 13) (v := ?v9) rfl rfl (by kernel_rfl) (by kernel_rfl) (by kernel_rfl) (fun _ _ _ h => h) rfl ?hy9 hH rfl ?rest9
  case hy9 => (intro W hW; have q1 := hW.1.c1; have q3 := HQ3.out W hW.1; clear hW; go_simp; try with_reducible rfl)
  (try simp only [Act.put, List.setIfInBounds_toArray, List.set_cons_zero, List.set_cons_succ])
  refine takeH (i := 9) (dst := some 14) (v := ?v10) rfl rfl (by kernel_rfl) (by kernel_rfl) (by kernel_rfl) (fun _ _ _ h => h) rfl ?hy10 hH rfl ?rest10
  case hy10 => (intro W hW; have q1 := hW.1.c1; have q3 := HQ3.out W hW.1; clear hW; go_simp; try with_reducible rfl)
  (try simp only [Act.put, List.setIfInBounds_toArray, List.set_cons_zero, List.set_cons_succ])
  refine wpAnyH_done (by kernel_rfl) ?_ _
  clear hH
  go_wp2
  go_ret
  exact ⟨rfl, HC.out.2⟩
set_option maxHeartbeats 2000000 in
theorem room_no (h : CS w base σ (nums σ.L)) (hl : (σ.most : Int) ≤ σ.L.length) (hL : ∀ x ∈ σ.L, goB σ x = false) :
    Calls Tryz.prog 128 #[.pointer (some ⟨σ.p, 0, none⟩)] w fun r w' => r = .returned (.bool false) ∧ Below w.heap.size w w' := by
  obtain ⟨ao, cap, hov, hlc, hcm, hrow⟩ := h.row
  have hm1 := h.m1
  have HC : Hid (CS w.drew base σ (nums σ.L) ∧ Below w.heap.size w w.drew) := ⟨h.drew, (Below.refl _ _).drew⟩
  have HQ3 : Hid (∀ W, CS W base σ (nums σ.L) → W.cell? ⟨σ.p, 3, none⟩ = some (.slice ao σ.L.length cap)) := fun W hW => by rw [hW.c3, hov]
  clear h
  obtain ⟨J, HJ⟩ : ∃ J, Hid (J = σ.L.length) := ⟨_, rfl⟩
  have HN : Hid (∀ k, k < J → (hk : k < σ.L.length) → goB σ σ.L[k] = false) := fun k _ hk => hL _ (List.getElem_mem hk)
  have hdec : DecF (σ.L.length < σ.most) := ⟨by omega⟩
  have hpos : 0 < σ.L.length := by omega
  obtain ⟨g, rfl, hcell⟩ := hrow hpos
  have HCL : Hid _ := hcell
  clear hov hcell hL
  go_enter Tryz.func128, Tryz.ntmps128
  go_wp2_with fail
  refine wp_region_held_drew (S := (fun W => CS W base σ (nums σ.L) ∧ Below w.heap.size w W)) (by kernel_rfl) HC.out (fun hH => ?_)
  refine takeH (i := 0) (dst := some 5) (v := ?v1) rfl rfl (by kernel_rfl) (by kernel_rfl) (by kernel_rfl) (fun _ _ _ h => h) rfl ?hy1 hH rfl ?rest1
  case hy1 => (intro W hW; have q1 := hW.1.c1; have q3 := HQ3.out W hW.1; clear hW; go_simp; try with_reducible rfl)
  (try simp only [Act.put, List.setIfInBounds_toArray, List.set_cons_zero, List.set_cons_succ])
  refine takeH (i := 1) (dst := some 6) (v := ?v2) rfl rfl (by kernel_rfl) (by kernel_rfl) (by kernel_rfl) (fun _ _ _ h => h) rfl ?hy2 hH rfl ?rest2
  case hy2 => (intro W hW; have q1 := hW.1.c1; have q3 := HQ3.out W hW.1; clear hW; go_simp; try with_reducible rfl)
  (try simp only [Act.put, List.setIfInBounds_toArray, List.set_cons_zero, List.set_cons_succ])
  refine takeH (i := 2) (dst := some 7) (v := ?v3) rfl rfl (by kernel_rfl) (by kernel_rfl) (by kernel_rfl) (fun _ _ _ h => h) rfl ?hy3 hH rfl ?rest3
  case hy3 => (intro W hW; have q1 := hW.1.c1; have q3 := HQ3.out W hW.1; clear hW; go_simp; try with_reducible rfl)
  (try simp only [Act.put, List.setIfInBounds_toArray, List.set_cons_zero, List.set_cons_succ])
  refine takeH (i := 3) (dst := some 8) (v := ?v4) rfl rfl (by kernel_rfl) (by kernel_rfl) (by kernel_rfl) (fun _ _ _ h => h) rfl ?hy4 hH rfl ?rest4
  case hy4 => (intro W hW; have q1 := hW.1.c1; have q3 := HQ3.out W hW.1; clear hW; go_simp; try with_reducible rfl)
  (try simp only [Act.put, List.setIfInBounds_toArray, List.set_cons_zero, List.set_cons_succ])
  refine takeH (i := 4) (dst := some 9) (v := ?v5) rfl rfl (by kernel_rfl) (by kernel_rfl) (by kernel_rfl) (fun _ _ _ h => h) rfl ?hy5 hH rfl ?rest5
  case hy5 => (intro W hW; have q1 := hW.1.c1; have q3 := HQ3.out W hW.1; clear hW; go_simp; try with_reducible rfl)
  (try simp only [Act.put, List.setIfInBounds_toArray, List.set_cons_zero, List.set_cons_succ])
  refine takeH (i := 5) (dst := some 10) (v := ?v6) rfl rfl (by kernel_rfl) (by kernel_rfl) (by kernel_rfl) (fun _ _ _ h => h) rfl ?hy6 hH rfl ?rest6
  case hy6 => (intro W hW; have q1 := hW.1.c1; have q3 := HQ3.out W hW.1; clear hW; go_simp; try with_reducible rfl)
  (try simp only [Act.put, List.setIfInBounds_toArray, List.set_cons_zero, List.set_cons_succ])
  refine takeH (i := 6) (dst := some 11) (v := ?v7) rfl rfl (by kernel_rfl) (by kernel_rfl) (by kernel_rfl) (fun _ _ _ h => h) rfl ?hy7 hH rfl ?rest7
  case hy7 => (intro W hW; have q1 := hW.1.c1; have q3 := HQ3.out W hW.1; clear hW; go_simp; try with_reducible rfl)
  (try simp only [Act.put, List.setIfInBounds_toArray, List.set_cons_zero, List.set_cons_succ])
  refine takeH (i := 7) (dst := some 12) (v := ?v8) rfl rfl (by kernel_rfl) (by kernel_rfl) (by kernel_rfl) (fun _ _ _ h => h) rfl ?hy8 hH rfl ?rest8
  case hy8 => (intro W hW; have q1 := hW.1.c1; have q3 := HQ3.out W hW.1; clear hW; go_simp; try with_reducible rfl)
  (try simp only [Act.put, List.setIfInBounds_toArray, List.set_cons_zero, List.set_cons_succ])
  refine takeH (i := 8) (dst := some 13) (v := ?v9) rfl rfl (by kernel_rfl) (by kernel_rfl) (by kernel_rfl) (fun _ _ _ h => h) rfl ?hy9 hH rfl ?rest9
  case hy9 => (intro W hW; have q1 := hW.1.c1; have q3 := HQ3.out W hW.1; clear hW; go_simp; try with_reducible rfl)
  (try simp only [Act.put, List.setIfInBounds_toArray, List.set_cons_zero, List.set_cons_succ])
  refine takeH (i := 9) (dst := some 14) (v := ?v10) rfl rfl (by kernel_rfl) (by kernel_rfl) (by kernel_rfl) (fun _ _ _ h => h) rfl ?hy10 hH rfl ?rest10
  case hy10 => (intro W hW; have q1 := hW.1.c1; have q3 := HQ3.out W hW.1; clear hW; go_simp; try with_reducible rfl)
  (try simp only [Act.put, List.setIfInBounds_toArray, List.set_cons_zero, List.set_cons_succ])
  refine wpAnyH_done (by kernel_rfl) ?_ _
  clear hH
  have q3 := HQ3.out _ HC.out.1
  have hlen9 : (σ.L.length : Int) ≤ 9223372036854775807 := by omega
  go_wp2_with fail
  go_loopw [20] (fun t wr => ∃ k : Nat, k ≤ J ∧ t = .int .i64 k ∧ Hid (CS wr base σ (nums σ.L) ∧ Below w.heap.size w wr)) (fun t _ => σ.L.length - (Go.RowKit.intOf t).toNat)
  case atStart => exact ⟨0, by omega, rfl, HC⟩
  case round =>
    obtain ⟨k, hk, rfl, HW⟩ := hrel
    clear HC q3
    by_cases hkJ : (k : Int) < J
    · have hkl : k < σ.L.length := by have := HJ.out; omega
      have hkl' : (k : Int) < σ.L.length := by omega
      have c0 := HCL.out wr HW.out.1 k hkl
      have MG := mayGo_any HW.out.1 (split_at σ.L k hkl)
      rw [show goB σ σ.L[k] = false from HN.out k (by omega) hkl] at MG
      generalize (σ.L[k]).n = nn at *
      go_wp2_with (first | (go_at_call 149; refine MG.mono ?_; rintro r w1 ⟨rfl, k1⟩))
      have HW1 : Hid (CS w1 base σ (nums σ.L) ∧ Below w.heap.size w w1) := ⟨HW.out.1.up k1, HW.out.2.trans (k1.mono HW.out.2.size)⟩
      clear HW MG k1 c0
      go_roundw
      case rel => exact ⟨k + 1, by omega, by go_num, HW1⟩
      case measure => simp [Go.RowKit.intOf]; omega
    · obtain rfl : k = J := by omega
      have hkl' : ¬ (k : Int) < σ.L.length := by have := HJ.out; omega
      have hke : (k : Int) = σ.L.length := by have := HJ.out; omega
      go_wp2
      go_ret
      exact ⟨rfl, HW.out.2⟩
set_option maxHeartbeats 2000000 in
theorem room_go (h : CS w base σ (nums σ.L)) {A B : List CE} {e : CE} (hl : (σ.most : Int) ≤ σ.L.length) (hL : σ.L = A ++ e :: B) (hA : ∀ x ∈ A, goB σ x = false) (he : goB σ e = true) :
    Calls Tryz.prog 128 #[.pointer (some ⟨σ.p, 0, none⟩)] w fun r w' => r = .returned (.bool true) ∧ ∃ v', CS w' base { σ with ov := v', L := A ++ B } (nums (A ++ B)) ∧ Step σ { σ with ov := v', L := A ++ B } w w' ∧ Below base w w' := by
  obtain ⟨ao, cap, hov, hlc, hcm, hrow⟩ := h.row
  have hm1 := h.m1
  have HC : Hid (CS w.drew base σ (nums σ.L) ∧ Below w.heap.size w w.drew) := ⟨h.drew, (Below.refl _ _).drew⟩
  have HQ3 : Hid (∀ W, CS W base σ (nums σ.L) → W.cell? ⟨σ.p, 3, none⟩ = some (.slice ao σ.L.length cap)) := fun W hW => by rw [hW.c3, hov]
  have HBS : Hid (base ≤ w.heap.size) := by have := h.pb; have := h.pl; show _ ≤ _; omega
  clear h
  obtain ⟨J, hJ⟩ : ∃ J, J = A.length := ⟨_, rfl⟩
  have hAB : A ++ B = σ.L.take J ++ σ.L.drop (J + 1) := by rw [hL, hJ]; simp
  rw [hAB]
  have HN : Hid (∀ k, k < J → (hk : k < σ.L.length) → goB σ σ.L[k] = false) := fun k hkJ hk => by
    refine hA _ ?_
    have : σ.L[k] = A[k]'(by omega) := by
      have e1 : σ.L[k]? = A[k]? := by rw [hL, List.getElem?_append_left (by omega)]
      rw [List.getElem?_eq_getElem hk, List.getElem?_eq_getElem (by omega)] at e1
      exact Option.some.inj e1
    rw [this]
    exact List.getElem_mem _
  have HG : Hid ((hk : J < σ.L.length) → goB σ σ.L[J] = true) := fun hk => by
    have : σ.L[J] = e := by
      have e1 : σ.L[J]? = some e := by rw [hL, hJ]; simp
      rw [List.getElem?_eq_getElem hk] at e1
      exact Option.some.inj e1
    rw [this]; exact he
  have HJ : Hid (J < σ.L.length) := by show _ < _; rw [hL, hJ]; simp
  clear hAB hJ hA he
  have hdec : DecF (σ.L.length < σ.most) := ⟨by omega⟩
  have hpos : 0 < σ.L.length := by omega
  obtain ⟨g, rfl, hcell⟩ := hrow hpos
  have HCL : Hid _ := hcell
  clear hov hcell hL
  go_enter Tryz.func128, Tryz.ntmps128
  go_wp2_with fail
  refine wp_region_held_drew (S := (fun W => CS W base σ (nums σ.L) ∧ Below w.heap.size w W)) (by kernel_rfl) HC.out (fun hH => ?_)
  refine takeH (i := 0) (dst := some 5) (v := ?v1) rfl rfl (by kernel_rfl) (by kernel_rfl) (by kernel_rfl) (fun _ _ _ h => h) rfl ?hy1 hH rfl ?rest1
  case hy1 => (intro W hW; have q1 := hW.1.c1; have q3 := HQ3.out W hW.1; clear hW; go_simp; try with_reducible rfl)
  (try simp only [Act.put, List.setIfInBounds_toArray, List.set_cons_zero, List.set_cons_succ])
  refine takeH (i := 1) (dst := some 6) (v := ?v2) rfl rfl (by kernel_rfl) (by kernel_rfl) (by kernel_rfl) (fun _ _ _ h => h) rfl ?hy2 hH rfl ?rest2
  case hy2 => (intro W hW; have q1 := hW.1.c1; have q3 := HQ3.out W hW.1; clear hW; go_simp; try with_reducible rfl)
  (try simp only [Act.put, List.setIfInBounds_toArray, List.set_cons_zero, List.set_cons_succ])
  refine takeH (i := 2) (dst := some 7) (v := ?v3) rfl rfl (by kernel_rfl) (by kernel_rfl) (by kernel_rfl) (fun _ _ _ h => h) rfl ?hy3 hH rfl ?rest3
  case hy3 => (intro W hW; have q1 := hW.1.c1; have q3 := HQ3.out W hW.1; clear hW; go_simp; try with_reducible rfl)
  (try simp only [Act.put, List.setIfInBounds_toArray, List.set_cons_zero, List.set_cons_succ])
  refine takeH (i := 3) (dst := some 8) (v := ?v4) rfl rfl (by kernel_rfl) (by kernel_rfl) (by kernel_rfl) (fun _ _ _ h => h) rfl ?hy4 hH rfl ?rest4
  case hy4 => (intro W hW; have q1 := hW.1.c1; have q3 := HQ3.out W hW.1; clear hW; go_simp; try with_reducible rfl)
  (try simp only [Act.put, List.setIfInBounds_toArray, List.set_cons_zero, List.set_cons_succ])
  refine takeH (i := 4) (dst := some 9) (v := ?v5) rfl rfl (by kernel_rfl) (by kernel_rfl) (by kernel_rfl) (fun _ _ _ h => h) rfl ?hy5 hH rfl ?rest5
  case hy5 => (intro W hW; have q1 := hW.1.c1; have q3 := HQ3.out W hW.1; clear hW; go_simp; try with_reducible rfl)
  (try simp only [Act.put, List.setIfInBounds_toArray, List.set_cons_zero, List.set_cons_succ])
  refine takeH (i := 5) (dst := some 10) (v := ?v6) rfl rfl (by kernel_rfl) (by kernel_rfl) (by kernel_rfl) (fun _ _ _ h => h) rfl ?hy6 hH rfl ?rest6
  case hy6 => (intro W hW; have q1 := hW.1.c1; have q3 := HQ3.out W hW.1; clear hW; go_simp; try with_reducible rfl)
  (try simp only [Act.put, List.setIfInBounds_toArray, List.set_cons_zero, List.set_cons_succ])
  refine takeH (i := 6) (dst := some 11) (v := ?v7) rfl rfl (by kernel_rfl) (by kernel_rfl) (by kernel_rfl) (fun _ _ _ h => h) rfl ?hy7 hH rfl ?rest7
  case hy7 => (intro W hW; have q1 := hW.1.c1; have q3 := HQ3.out W hW.1; clear hW; go_simp; try with_reducible rfl)
  (try simp only [Act.put, List.setIfInBounds_toArray, List.set_cons_zero, List.set_cons_succ])
  refine takeH (i := 7) (dst := some 12) (v := ?v8) rfl rfl (by kernel_rfl) (by kernel_rfl) (by kernel_rfl) (fun _ _ _ h => h) rfl ?hy8 hH rfl ?rest8
  case hy8 => (intro W hW; have q1 := hW.1.c1; have q3 := HQ3.out W hW.1; clear hW; go_simp; try with_reducible rfl)
  (try simp only [Act.put, List.setIfInBounds_toArray, List.set_cons_zero, List.set_cons_succ])
  refine takeH (i := 8) (dst := some 13) (v := ?v9) rfl rfl (by kernel_rfl) (by kernel_rfl) (by kernel_rfl) (fun _ _ _ h => h) rfl ?hy9 hH rfl ?rest9
  case hy9 => (intro W hW; have q1 := hW.1.c1; have q3 := HQ3.out W hW.1; clear hW; go_simp; try with_reducible rfl)
  (try simp only [Act.put, List.setIfInBounds_toArray, List.set_cons_zero, List.set_cons_succ])
  refine takeH (i := 9) (dst := some 14) (v := ?v10) rfl rfl (by kernel_rfl) (by kernel_rfl) (by kernel_rfl) (fun _ _ _ h => h) rfl ?hy10 hH rfl ?rest10
  case hy10 => (intro W hW; have q1 := hW.1.c1; have q3 := HQ3.out W hW.1; clear hW; go_simp; try with_reducible rfl)
  (try simp only [Act.put, List.setIfInBounds_toArray, List.set_cons_zero, List.set_cons_succ])
  refine wpAnyH_done (by kernel_rfl) ?_ _
  clear hH
  have q3 := HQ3.out _ HC.out.1
  have hlen9 : (σ.L.length : Int) ≤ 9223372036854775807 := by omega
  go_wp2_with fail
  go_loopw [20] (fun t wr => ∃ k : Nat, k ≤ J ∧ t = .int .i64 k ∧ Hid (CS wr base σ (nums σ.L) ∧ Below w.heap.size w wr)) (fun t _ => σ.L.length - (Go.RowKit.intOf t).toNat)
  case atStart => exact ⟨0, by omega, rfl, HC⟩
  case round =>
    obtain ⟨k, hk, rfl, HW⟩ := hrel
    clear HC q3
    by_cases hkJ : (k : Int) < J
    · have hkl : k < σ.L.length := by have := HJ.out; omega
      have hkl' : (k : Int) < σ.L.length := by omega
      have c0 := HCL.out wr HW.out.1 k hkl
      have MG := mayGo_any HW.out.1 (split_at σ.L k hkl)
      rw [show goB σ σ.L[k] = false from HN.out k (by omega) hkl] at MG
      generalize (σ.L[k]).n = nn at *
      go_wp2_with (first | (go_at_call 149; refine MG.mono ?_; rintro r w1 ⟨rfl, k1⟩))
      have HW1 : Hid (CS w1 base σ (nums σ.L) ∧ Below w.heap.size w w1) := ⟨HW.out.1.up k1, HW.out.2.trans (k1.mono HW.out.2.size)⟩
      clear HW MG k1 c0
      go_roundw
      case rel => exact ⟨k + 1, by omega, by go_num, HW1⟩
      case measure => simp [Go.RowKit.intOf]; omega
    · obtain rfl : k = J := by omega
      have hkl : k < σ.L.length := HJ.out
      have hkl' : (k : Int) < σ.L.length := by omega
      have c0 := HCL.out wr HW.out.1 k hkl
      have MG := mayGo_any HW.out.1 (split_at σ.L k hkl)
      rw [show goB σ σ.L[k] = true from HG.out hkl] at MG
      have HLV : Hid (∀ W, CS W base σ (nums σ.L) → _) := fun W hW => leave_any hW (split_at σ.L k hkl)
      generalize (σ.L[k]).n = nn at *
      go_wp2_with fail
      refine MG.mono ?_
      rintro r w1 ⟨rfl, k1⟩
      have HW1 : Hid (CS w1 base σ (nums σ.L) ∧ Below w.heap.size w w1) := ⟨HW.out.1.up k1, HW.out.2.trans (k1.mono HW.out.2.size)⟩
      have LV := HLV.out w1 HW1.out.1
      clear HW MG k1 c0 HLV
      go_wp2_with fail
      refine LV.mono ?_
      clear LV
      rintro r w2 ⟨rfl, v', k2, k3, k4⟩
      have HF : Hid (CS w2 base { σ with ov := v', L := σ.L.take k ++ σ.L.drop (k + 1) } (nums (σ.L.take k ++ σ.L.drop (k + 1))) ∧ Step σ { σ with ov := v', L := σ.L.take k ++ σ.L.drop (k + 1) } w w2 ∧ Below base w w2) := ⟨k2, (Step.refl σ HW1.out.2).trans k3, (HW1.out.2.mono HBS.out).trans k4⟩
      clear k2 k3 k4
      go_wp2
      go_ret
      exact ⟨rfl, v', HF.out⟩
end
end Go.Proofs.YtkiifmnmeikdlaaGreatDoor
/- Package cache: a new block; a map's update; another number in the order. -/
namespace Go.Proofs.YtkiifmnmeikdlaaGreatDoor
open Go.RowKit
set_option maxRecDepth 100000
theorem fold_set0 : ∀ (l : List Value) (k : Nat) (cs : Array Value), k + l.length ≤ cs.size → ((l.zipIdx k).foldl (fun cs p => cs.setIfInBounds (0 + p.2) p.1) cs).toList = cs.toList.take k ++ l ++ cs.toList.drop (k + l.length)
  | [], k, cs, _ => by simp
  | v :: r, k, cs, h => by
    simp only [List.zipIdx_cons, List.foldl_cons]
    have ih := fold_set0 r (k + 1) (cs.setIfInBounds (0 + k) v) (by simp at h ⊢; omega)
    rw [ih, Array.toList_setIfInBounds]
    have e := list_seg_step cs.toList k v r (by simp at h ⊢; omega)
    simpa [Nat.add_assoc, Nat.add_comm, Nat.add_left_comm] using e
theorem fill_blk (A : Array Value) (z : List Value) (x : Value) (h1 : A.size = 256) (h2 : z.length = 256) : Instr.fill (([(0, 256), (256, 1)] : List (Nat × Nat)).toArray[·]?) (z ++ [x]).toArray [(0, .agg A)] = some (A.toList ++ [x]).toArray := by
  have h3 : (Value.agg A).cells = A := rfl
  have hf : A.zipIdx.foldl (fun cs (p : Value × Nat) => cs.setIfInBounds (0 + p.2) p.1) (z ++ [x]).toArray = (A.toList ++ [x]).toArray := by
    apply Array.toList_inj.1
    have := fold_set0 A.toList 0 (z ++ [x]).toArray (by simp [h1, h2])
    rw [List.take_zero, List.nil_append, Nat.zero_add, List.toList_toArray, Array.length_toList, h1, List.drop_left' h2] at this
    rw [List.toList_toArray, ← this]
    congr 1
    rw [← Array.foldl_toList, Array.toList_zipIdx]
  unfold Instr.fill
  simp only [h3, h1]
  rw [show (([(0, 256), (256, 1)] : List (Nat × Nat)).toArray[0]?) = some (0, 256) from rfl]
  simp only [Instr.fill]
  rw [if_neg (by simp [h2])]
  exact congrArg some hf
theorem build_blk (d : List UInt8) (hd : d.length = 256) (w : World) : (Instr.build 163 #[(0, .agg (bvs d).toArray)]).run Tryz.prog w = .ok (.agg (bvs d ++ [Value.int .i64 0]).toArray) w := by
  refine Go.run_build w 163 _ _ ?_
  have hz : (Tryz.prog.info? 163).map (fun i => i.zero) = some (some (.agg (bvs (List.replicate 256 0) ++ [Value.int .i64 0]).toArray)) := by kernel_rfl
  have hp : (match Tryz.prog.underlying 163 with | some (.struct fields) => fields.toList.mapM (fun f => (Tryz.prog.info? f.type).map fun i => (f.offset, i.size)) | _ => none) = some [(0, 256), (256, 1)] := by kernel_rfl
  unfold Program.built
  cases hi : Tryz.prog.info? 163 with
  | none => rw [hi] at hz; cases hz
  | some it =>
    rw [hi] at hz
    have hz' : it.zero = some (.agg (bvs (List.replicate 256 0) ++ [Value.int .i64 0]).toArray) := Option.some.inj hz
    have hA : (bvs d).toArray.size = 256 := by rw [List.size_toArray, bvs_length, hd]
    have hF := fill_blk (bvs d).toArray (bvs (List.replicate 256 0)) (.int .i64 0) hA (by rw [bvs_length, List.length_replicate])
    revert hp
    cases hu : Tryz.prog.underlying 163 with
    | none => intro hp; cases hp
    | some D =>
      cases D <;> intro hp <;> first | (cases hp; done) | skip
      simp only [] at hp ⊢
      rw [hz', hp]
      exact hF
theorem wpList_build_blk {ops : Array Oper} {rest : List Oper} {op : Oper} {a : Act} {w : World} {Q : Exit → Act → World → Prop} (hgd : op.guard = none) {x0 : Operand} {d : List UInt8} (hd : d.length = 256) (ho : op.op = .build 163 #[(0, x0)])
    (e0 : a.eval x0 = .agg (bvs d).toArray)
    (h : wpList Tryz.prog ops Q rest (a.put op.dst (.agg (bvs d ++ [Value.int .i64 0]).toArray)) w) : wpList Tryz.prog ops Q (op :: rest) a w :=
  wpList_plain hgd fun K hK => by
    have hb := build_blk d hd w
    unfold Oper.wp execOp
    simp only [ho, List.map_toArray, List.map_cons, List.map_nil, e0, Sem.run_bind, hb, Result.andThen_ok, Sem.run_pure]
    exact hK _ _ h
theorem wpList_pput {ops : Array Oper} {rest : List Oper} {o : Oper} {a : Act} {w : World} {Q : Exit → Act → World → Prop} (hgd : o.guard = none) (m x v : Operand) (ho : o.op = .mapUpdate 150 m x v) {b K n q : Nat} {f : Int → Nat}
    (H : PMap w b K f) (hn : n ≤ 4096) (hK : K ≤ 1000000) (hm : a.eval m = .map (some b)) (hx : a.eval x = .int .i64 (n : Int)) (hv : a.eval v = .pointer (some ⟨q, 0, none⟩))
    (h : ∀ w', PMap w' b (K + 1) (setF f n (q + 1)) → w.grownBy w' (some b) → wpList Tryz.prog ops Q rest (a.put o.dst undef) w') : wpList Tryz.prog ops Q (o :: rest) a w := by
  refine wpList_plain hgd fun K hK' => ?_
  obtain ⟨w', hrun, h1, h2⟩ := H.put (n : Int) (wfN hn) (q + 1) hK
  unfold ptrV at hrun
  unfold Oper.wp
  simp [execOp, ho, hm, hx, hv, hrun, Result.andThen]
  exact hK' _ _ (h w' h1 h2)
/-- 'append' of a number onto the order, with what turns. -/
theorem wpList_append_ord {w : World} {ops : Array Oper} {rest : List Oper} {o : Oper} {a : Act} {Q : Exit → Act → World → Prop} (hgd : o.guard = none) (s x : Operand)
    (ho : o.op = .call { callee := .builtin .append, args := #[s, x], argTypes := #[151, 151] }) (base : Nat) (l : List Int) (y : Int) (v : Value) (hs : a.eval s = v) (g c : Nat) (hx : a.eval x = .slice (some ⟨g, 0, none⟩) 1 c)
    (hown : OwnN w base v l) (hsrc : RowI w g 159 [y]) (hbase : base ≤ w.heap.size) (hb : l.length ≤ 1000000)
    (h : ∀ G cap w', OwnN w' base (.slice (some ⟨G, 0, none⟩) (l.length + 1) cap) (l ++ [y]) → w.grownBy w' v.ownBlock → (v.ownBlock = some G ∨ w.heap.size ≤ G) → wpList Tryz.prog ops Q rest (a.put o.dst (.slice (some ⟨G, 0, none⟩) (l.length + 1) cap)) w') : wpList Tryz.prog ops Q (o :: rest) a w := by
  obtain ⟨i0, hi, hz0, hz1, hz2⟩ := info_parts Tryz.infoN
  have hcs : ∀ j u, (ivs [y])[j]? = some u → w.cell? ((⟨g, 0, none⟩ : Addr).add j) = some u := by
    intro j u hj
    have hjl : j < (ivs [y]).length := (List.getElem?_eq_some_iff.1 hj).1
    rw [ivs_length] at hjl
    obtain rfl : j = 0 := by simp at hjl; omega
    rw [addr_add, Nat.zero_add, hsrc.cell 0 (by simp), ← hj]
    rfl
  obtain ⟨G, cap, w', hr, hown', hgr, hat, _⟩ := run_append_lies (P := Tryz.prog) w 151 o.type base 159 i0 _ 1 8 Tryz.underlying151 hi hz0 hz1 hz2 rfl (by decide) v l.length (ivs l) hown ⟨g, 0, none⟩ 1 c (ivs [y]) (by simp [ivs_length]) hcs (ivs_one _) (by omega) (by unfold maxLen; omega) (by omega) hbase _ rfl
  refine wpList_plain hgd fun K hK => ?_
  unfold Oper.wp execOp
  simp only [ho, resolve, invoke, builtin]
  simp [hs, hx, hr, Result.andThen]
  refine hK _ _ (h G cap w' ?_ hgr ?_)
  · unfold OwnN
    rw [List.length_append, ivs_append]
    exact hown'
  · rcases hat with hat | hat
    · exact .inl hat
    · exact .inr (by omega)
end Go.Proofs.YtkiifmnmeikdlaaGreatDoor
/- Package cache: ask. -/
namespace Go.Proofs.YtkiifmnmeikdlaaGreatDoor
open Go.RowKit
set_option maxRecDepth 100000
section
variable {w w' : World} {base : Nat} {σ : CSt} {O : List Int}
/-- The order behind an append. -/
theorem CS.push (h : CS w base σ O) {o : Obj} {w2 : World} {G m cap : Nat} {O' : List Int} (hg : (w.alloc o).grownBy w2 σ.ov.ownBlock) (hat : σ.ov.ownBlock = some G ∨ (w.alloc o).heap.size ≤ G) (ho : OwnN w2 base (.slice (some ⟨G, 0, none⟩) m cap) O') :
    CS (w2.setCell ⟨σ.p, 3, none⟩ (.slice (some ⟨G, 0, none⟩) m cap)) base { σ with ov := .slice (some ⟨G, 0, none⟩) m cap } O' ∧ Step σ { σ with ov := .slice (some ⟨G, 0, none⟩) m cap } w (w2.setCell ⟨σ.p, 3, none⟩ (.slice (some ⟨G, 0, none⟩) m cap)) ∧ Below base w (w2.setCell ⟨σ.p, 3, none⟩ (.slice (some ⟨G, 0, none⟩) m cap)) ∧
      w2.cell? ⟨σ.p, 3, none⟩ = some σ.ov ∧ w2.frozen? ⟨σ.p, 3, none⟩ = false := by
  have s1 : (w.alloc o).heap.size = w.heap.size + 1 := by show (w.heap.push o).size = _; simp
  have hb0 : Below w.heap.size w (w.alloc o) := (Below.refl _ _).alloc (Nat.le_refl _) _
  have hpl := h.pl
  have hP : w2.heap[σ.p]? = w.heap[σ.p]? := (hg.block σ.p (by omega) (fun e => h.po e.symm)).trans (hb0.block σ.p hpl)
  have hf : Fr (fun k => k = σ.p ∨ σ.ov.ownBlock = some k) w (w2.setCell ⟨σ.p, 3, none⟩ (.slice (some ⟨G, 0, none⟩) m cap)) := by
    refine Fr.setCell (S := fun k => k = σ.p ∨ σ.ov.ownBlock = some k) (a := w) ⟨by have := hg.size; omega, fun k hk hn => ?_, hg.os, hg.tape, hg.output⟩ _ _ _ (.inl rfl)
    exact (hg.block k (by omega) (fun e => hn (.inr e.symm))).trans (hb0.block k hk)
  have hs : ∀ k, (Value.slice (some ⟨G, 0, none⟩) m cap).ownBlock = some k → σ.ov.ownBlock = some k ∨ w.heap.size ≤ k := fun k hk => by
    obtain rfl : G = k := by simpa [Value.ownBlock] using hk
    rcases hat with h1 | h1
    · exact .inl h1
    · exact .inr (by omega)
  have hGp : σ.p ≠ G := fun e => by
    rcases hat with h1 | h1
    · exact h.po (by rw [h1, e])
    · omega
  have q3 : w2.cell? ⟨σ.p, 3, none⟩ = some σ.ov := (World.cell?_of_block (a := ⟨σ.p, 3, none⟩) hP).trans h.c3
  refine ⟨h.reord hf ?_ (World.cell?_setCell_same _ _ _ q3) ?_ ?_ hs, Step.ord hf hs, ?_, q3, (World.frozen?_of_block (a := ⟨σ.p, 3, none⟩) hP).trans (h.fp 3)⟩
  · intro j hj
    exact (World.cell?_setCell_other _ _ _ _ (fun c => hj (by injection c with _ c2; exact c2.symm))).trans (World.cell?_of_block (a := ⟨σ.p, j, none⟩) hP)
  · intro j
    rw [World.frozen?_setCell]
    exact (World.frozen?_of_block (a := ⟨σ.p, j, none⟩) hP).trans (h.fp j)
  · exact ho.same fun k hk => heap_setCell_other _ _ _ _ (fun e => by
      obtain rfl : G = k := by simpa [Value.ownBlock] using hk
      exact hGp e.symm)
  · have hbs : base ≤ w.heap.size := by have := h.pb; omega
    refine ((hb0.mono hbs).grown hg (by omega) (fun k hk => ?_)).setCell h.pb _
    exact (h.ord.lt k hk).1
/-- The blocks in another order. -/
theorem CS.touch (h : CS w base σ O) {A B : List CE} {e : CE} (hL : σ.L = A ++ e :: B) : CS w base { σ with L := A ++ B ++ [e] } O ∧ ∀ k, Sk { σ with L := A ++ B ++ [e] } k → Sk σ k := by
  have sub : ∀ x, x ∈ A ++ B ++ [e] → x ∈ σ.L := fun x hx => by
    rw [hL]
    simp only [List.mem_append, List.mem_cons, List.not_mem_nil, or_false] at hx ⊢
    rcases hx with (hx | hx) | hx
    · exact .inl hx
    · exact .inr (.inr hx)
    · exact .inr (.inl hx)
  have perm : (A ++ B ++ [e]).Perm (A ++ e :: B) := by
    rw [List.append_assoc]
    exact List.Perm.append_left A (List.perm_append_comm (l₁ := B) (l₂ := [e]))
  have ck : ∀ k, Ck { σ with L := A ++ B ++ [e] } k → Ck σ k := fun k hC => by
    rcases hC with hC | hC | hC | ⟨x, hx, hq⟩
    · exact .inl hC
    · exact .inr (.inl hC)
    · exact .inr (.inr (.inl hC))
    · exact .inr (.inr (.inr ⟨x, sub x hx, hq⟩))
  refine ⟨?_, fun k hk => ?_⟩
  · exact {
      disk := h.disk, c0 := h.c0, c1 := h.c1, c2 := h.c2, c3 := h.c3, fp := h.fp, ord := h.ord
      map := by have := h.map; rw [hL, ← lookF_touch (h.split hL)] at this; exact this
      blk := fun x hx => h.blk x (sub x hx)
      nd := by have := h.nd; rw [hL] at this; exact (perm.map _).nodup_iff.2 this
      qd := by have := h.qd; rw [hL] at this; exact (perm.map _).nodup_iff.2 this
      pm := h.pm, po := h.po, mo := h.mo, bq := fun x hx => h.bq x (sub x hx), pb := h.pb, mbb := h.mbb
      dk := fun k hk hC => h.dk k hk (ck k hC)
      m1 := h.m1 }
  · rcases hk with hk | hk
    · exact .inl (ck k hk)
    · exact .inr hk
theorem CS.sk_size (h : CS w base σ O) {k : Nat} (hk : Sk σ k) : k < w.heap.size := by
  rcases hk with hk | hk
  · exact h.sk_lt hk
  · exact (h.disk.dk_lt hk).1
theorem Step.addL {e : CE} {K : Nat} {w3 : World} (hb : Below w.heap.size w w3) (hf : Fr (fun k => k = σ.mb) w3 w') (hq : e.q = w.heap.size) : Step σ { σ with L := σ.L ++ [e], K := K } w w' := by
  refine ⟨⟨Nat.le_trans hb.size hf.size, fun k hk hn => ?_, hf.os.trans hb.os, hf.tape.trans hb.tape, hf.output.trans hb.output⟩, fun k hk => ?_⟩
  · exact (hf.blk k (by have := hb.size; omega) (fun c => hn (.inl (.inr (.inl c))))).trans (hb.block k hk)
  · rcases hk with (hk | hk | hk | ⟨x, hx, hqx⟩) | hk
    · exact .inl (.inl (.inl hk))
    · exact .inl (.inl (.inr (.inl hk)))
    · exact .inl (.inl (.inr (.inr (.inl hk))))
    · rcases List.mem_append.1 hx with hx | hx
      · exact .inl (.inl (.inr (.inr (.inr ⟨x, hx, hqx⟩))))
      · simp only [List.mem_singleton] at hx
        subst hx
        exact .inr (by omega)
    · exact .inl (.inr hk)
/-- The lists behind a block that is asked. -/
def tch (A : List CE) (e : CE) (B : List CE) : List CE := A ++ B ++ [e]
def addE (L : List CE) (n q : Nat) (d : List UInt8) : List CE := L ++ [⟨n, q, d, 0⟩]
/-- A call that leaves the cache as σ'. -/
structure Done (base : Nat) (σ σ' : CSt) (w w' : World) : Prop where
  cs : CS w' base σ' (nums σ'.L)
  st : Step σ σ' w w'
  be : Below base w w'
theorem Step.shift {σ σ' σ'' : CSt} {a b : World} (h : Step σ σ' a b) (hs : ∀ k, Sk σ'' k → Sk σ' k) : Step σ σ'' a b := ⟨h.fr, fun k hk => h.sub k (hs k hk)⟩
set_option maxHeartbeats 2000000 in
theorem ask_hit (h : CS w base σ (nums σ.L)) {A B : List CE} {e : CE} (hL : σ.L = A ++ e :: B) (hlm : σ.L.length ≤ 1000000) :
    Calls Tryz.prog 87 #[.pointer (some ⟨σ.p, 0, none⟩), .int .i64 (e.n : Int)] w fun r w' => r = .returned (.tuple #[.pointer (some ⟨e.q, 0, none⟩), .int .i64 0]) ∧ ∃ v', Done base σ { σ with ov := v', L := tch A e B } w w' := by
  have LK := h.lookE hL
  have q2 := h.c2
  have UL := unlist_any h (X := nums A) (Z := nums B) (y := (e.n : Int)) (by rw [hL]; simp [nums]) (h.split hL).order
  have HL : Hid (σ.L = A ++ e :: B) := hL
  have HLN : Hid ((nums A ++ nums B).length ≤ 1000000) := by
    have h3 : σ.L.length = A.length + B.length + 1 := by rw [hL]; simp; omega
    show _ ≤ _
    rw [List.length_append, nums_length, nums_length]
    omega
  obtain ⟨OO, hOO⟩ : ∃ OO, OO = nums A ++ nums B := ⟨_, rfl⟩
  have HOO : Hid _ := hOO
  rw [← hOO] at UL HLN
  clear h hL hOO
  go_enter Tryz.func87, Tryz.ntmps87
  go_wp2_with fail
  refine UL.mono ?_
  clear UL LK q2
  rintro r w1 ⟨rfl, v1, k1, k2, k3⟩
  have HC : Hid (CS w1 base { σ with ov := v1 } OO) := k1
  have HS : Hid (Step σ { σ with ov := v1 } w w1 ∧ Below base w w1) := ⟨k2, k3⟩
  have q3 := k1.c3
  dsimp only at q3
  have hbs : base ≤ w1.heap.size := by have := k1.pb; have := k1.pl; dsimp only at *; omega
  clear k1 k2 k3
  go_wp2_with (at_builtin; refine wpList_append_ord rfl (.tmp 36) (.tmp 38) rfl base OO (e.n : Int) _ rfl _ _ rfl (HC.out.ord.below ((Below.refl _ _).alloc (Nat.le_refl _) _) (Nat.le_refl _)) (heap_alloc_new _ _) (by simp; omega) HLN.out ?_; intro G cap w2 ho2 hg2 hat2; obtain ⟨p1, p2, p3, p4, p5⟩ := HC.out.push hg2 hat2 ho2; have HP1 : Hid _ := p1; have HP2 : Hid _ := And.intro p2 p3; have p4' : w2.cell? ⟨σ.p, 3, none⟩ = some v1 := p4; have p5' : w2.frozen? ⟨σ.p, 3, none⟩ = false := p5; clear p1 p2 p3 p4 p5 ho2 hg2 hat2)
  go_ret2
  obtain ⟨t1, t2⟩ := HP1.out.touch (A := A) (B := B) (e := e) HL.out
  refine ⟨rfl, .slice (some ⟨G, 0, none⟩) (OO.length + 1) cap, ?_, ?_, HS.out.2.trans HP2.out.2⟩
  · show CS _ _ { σ with ov := .slice (some ⟨G, 0, none⟩) (OO.length + 1) cap, L := A ++ B ++ [e] } (nums (A ++ B ++ [e]))
    rw [nums_append, nums_append, ← HOO.out]
    exact t1
  · exact Step.shift (σ' := { σ with ov := .slice (some ⟨G, 0, none⟩) (OO.length + 1) cap }) (σ'' := { σ with ov := .slice (some ⟨G, 0, none⟩) (OO.length + 1) cap, L := A ++ B ++ [e] }) (HS.out.1.trans HP2.out.1) t2
set_option maxHeartbeats 2000000 in
theorem ask_full (h : CS w base σ (nums σ.L)) (n : Nat) (hn : n < σ.dn) (hne : ∀ x ∈ σ.L, ¬ x.n = n) (RM : Calls Tryz.prog 128 #[.pointer (some ⟨σ.p, 0, none⟩)] w fun r w' => r = .returned (.bool false) ∧ Below w.heap.size w w') :
    Calls Tryz.prog 87 #[.pointer (some ⟨σ.p, 0, none⟩), .int .i64 (n : Int)] w fun r w' => r = .returned (.tuple #[.pointer none, .int .i64 5]) ∧ Below w.heap.size w w' := by
  have LK : (Instr.lookup 150 (.map (some σ.mb)) (.int .i64 (n : Int)) false).run Tryz.prog w = .ok (.pointer none) w := by
    have hd := h.disk.nn
    have := h.look (n : Int) (by omega); rw [lookF_none (fun x hx hc => hne x hx (by omega))] at this; exact this
  have q2 := h.c2
  clear h
  go_enter Tryz.func87, Tryz.ntmps87
  go_wp2_with (first | (go_at_call 128; refine RM.mono ?_; rintro r w1 ⟨rfl, k1⟩))
  go_ret2
  exact ⟨rfl, k1⟩
set_option maxHeartbeats 2000000 in
theorem ask_new (h : CS w base σ (nums σ.L)) (n : Nat) (hn : n < σ.dn) (hne : ∀ x ∈ σ.L, ¬ x.n = n) (L1 : List CE) (hne1 : ∀ x ∈ L1, ¬ x.n = n) (hK : σ.K ≤ 1000000) (hL1 : (nums L1).length ≤ 1000000)
    (RM : Calls Tryz.prog 128 #[.pointer (some ⟨σ.p, 0, none⟩)] w fun r w' => r = .returned (.bool true) ∧ ∃ v', CS w' base { σ with ov := v', L := L1 } (nums L1) ∧ Step σ { σ with ov := v', L := L1 } w w' ∧ Below base w w') :
    Calls Tryz.prog 87 #[.pointer (some ⟨σ.p, 0, none⟩), .int .i64 (n : Int)] w fun r w' => ∃ q, r = .returned (.tuple #[.pointer (some ⟨q, 0, none⟩), .int .i64 0]) ∧ ∃ v', Done base σ { σ with ov := v', L := addE L1 n q (lst σ n), K := σ.K + 1 } w w' := by
  have hd := h.disk.nn
  have LK : (Instr.lookup 150 (.map (some σ.mb)) (.int .i64 (n : Int)) false).run Tryz.prog w = .ok (.pointer none) w := by
    have := h.look (n : Int) (by omega); rw [lookF_none (fun x hx hc => hne x hx (by omega))] at this; exact this
  have q2 := h.c2
  have HX : Hid ((lst σ n).length = 256) := lst_len h n hn
  have HN : Hid (n < σ.dn ∧ n ≤ 4096) := ⟨hn, by omega⟩
  clear h hne hn hd
  go_enter Tryz.func87, Tryz.ntmps87
  go_wp2_with fail
  refine RM.mono ?_
  clear RM LK q2
  rintro r w1 ⟨rfl, v1, k1, k2, k3⟩
  have HS1 : Hid (Step σ { σ with ov := v1, L := L1 } w w1 ∧ Below base w w1) := ⟨k2, k3⟩
  have HC1 : Hid _ := k1
  have ST := stands_any k1 n HN.out.1
  dsimp only at ST
  clear k1 k2 k3
  go_wp2_with fail
  refine ST.mono ?_
  clear ST
  rintro r w2 ⟨rfl, k4⟩
  have HC2 : Hid (CS w2 base { σ with ov := v1, L := L1 } (nums L1)) := HC1.out.up k4
  have HS2 : Hid (Step σ { σ with ov := v1, L := L1 } w w2 ∧ Below base w w2) := ⟨HS1.out.1.trans (Step.refl _ k4), HS1.out.2.trans (k4.mono (by have := HC1.out.pb; have := HC1.out.pl; dsimp only at *; omega))⟩
  rw [show lst { σ with ov := v1, L := L1 } n = lst σ n from rfl]
  clear HC1 HS1 k4
  generalize hD : lst σ n = D at *
  have HD : Hid (lst σ n = D) := hD
  clear hD
  have hb3 : Below w2.heap.size w2 (w2.alloc (.cells (bvs D ++ [Value.int .i64 0]).toArray 163)) := (Below.refl _ _).alloc (Nat.le_refl _) _
  have HC3 : Hid (CS (w2.alloc (.cells (bvs D ++ [Value.int .i64 0]).toArray 163)) base { σ with ov := v1, L := L1 } (nums L1)) := HC2.out.up hb3
  have HQ3 : Hid ((w2.alloc (.cells (bvs D ++ [Value.int .i64 0]).toArray 163)).heap[w2.heap.size]? = some (.cells (bvs D ++ [Value.int .i64 0]).toArray 163 (0, 0))) := heap_alloc_new _ _
  have HB3 : Hid _ := hb3
  have hbs : base ≤ w2.heap.size := by have := HC2.out.pb; have := HC2.out.pl; dsimp only at *; omega
  have HNS : Hid (¬ Sk { σ with ov := v1, L := L1 } w2.heap.size) := fun c => by have := HC2.out.sk_size c; omega
  have q2 := HC3.out.c2
  dsimp only at q2
  clear hb3
  go_upto_region 7 with (first | ((with_reducible show wpList _ _ _ ({ dst := _, op := Op.build 163 _, type := _, pos := _, after := _, guard := _ } :: _) _ _); refine wpList_build_blk rfl HX.out rfl rfl ?_))
  generalize w2.alloc (.cells (bvs D ++ [Value.int .i64 0]).toArray 163) = w3 at *
  go_upto_region 8 with (first | (at_mapUpdate; refine wpList_pput rfl (.tmp 29) (.tmp 30) (.tmp 31) rfl HC3.out.map HN.out.2 hK rfl rfl rfl ?_; intro w4 hm4 hg4))
  have HC4 : Hid (CS w4 base { σ with ov := v1, L := L1 ++ [⟨n, w2.heap.size, D, 0⟩], K := σ.K + 1 } (nums L1)) := HC3.out.addL (e := ⟨n, w2.heap.size, D, 0⟩) HQ3.out HX.out HN.out.1 (by simp) hbs HNS.out hne1 (Fr.of_grown hg4) hm4
  have HS4 : Hid (Step σ { σ with ov := v1, L := L1 ++ [⟨n, w2.heap.size, D, 0⟩], K := σ.K + 1 } w w4 ∧ Below base w w4) := by
    refine ⟨HS2.out.1.trans (Step.addL (σ := { σ with ov := v1, L := L1 }) HB3.out (Fr.of_grown hg4) rfl), (HS2.out.2.trans (HB3.out.mono hbs)).grown hg4 (by have := HB3.out.size; omega) (fun k hk => ?_)⟩
    have := HC3.out.mbb
    dsimp only at this hk
    have e1 := Option.some.inj hk
    omega
  have q3 := HC4.out.c3
  dsimp only at q3
  have hbs4 : base ≤ w4.heap.size := by have := HC4.out.pb; have := HC4.out.pl; dsimp only at *; omega
  obtain ⟨OO, hOO⟩ : ∃ OO, OO = nums L1 := ⟨_, rfl⟩
  have HOO : Hid _ := hOO
  rw [← hOO] at HC4 hL1
  clear HC3 HQ3 HB3 HNS HC2 HS2 q2 hm4 hg4 hOO
  go_wp2_with (at_builtin; refine wpList_append_ord rfl (.tmp 36) (.tmp 38) rfl base OO (n : Int) _ rfl _ _ rfl (HC4.out.ord.below ((Below.refl _ _).alloc (Nat.le_refl _) _) (Nat.le_refl _)) (heap_alloc_new _ _) (by simp; omega) hL1 ?_; intro G cap w5 ho5 hg5 hat5; obtain ⟨p1, p2, p3, p4, p5⟩ := HC4.out.push hg5 hat5 ho5; have HP1 : Hid _ := p1; have HP2 : Hid _ := And.intro p2 p3; have p4' : w5.cell? ⟨σ.p, 3, none⟩ = some v1 := p4; have p5' : w5.frozen? ⟨σ.p, 3, none⟩ = false := p5; clear p1 p2 p3 p4 p5 ho5 hg5 hat5)
  go_ret2
  rw [HD.out]
  refine ⟨w2.heap.size, rfl, .slice (some ⟨G, 0, none⟩) (OO.length + 1) cap, ?_, HS4.out.1.trans HP2.out.1, HS4.out.2.trans HP2.out.2⟩
  show CS _ _ { σ with ov := .slice (some ⟨G, 0, none⟩) (OO.length + 1) cap, L := L1 ++ [⟨n, w2.heap.size, D, 0⟩], K := σ.K + 1 } (nums (L1 ++ [⟨n, w2.heap.size, D, 0⟩]))
  rw [nums_append, ← HOO.out]
  exact HP1.out
end
end Go.Proofs.YtkiifmnmeikdlaaGreatDoor
/- Package cache: Read, Lay. -/
namespace Go.Proofs.YtkiifmnmeikdlaaGreatDoor
open Go.RowKit
set_option maxRecDepth 100000
section
variable {w w' : World} {base : Nat} {σ : CSt} {O : List Int}
/-- How a block that is asked comes to the end. -/
inductive AskR (σ : CSt) (n q : Nat) : List CE → Nat → Prop
  | hit {A B : List CE} {e : CE} (hL : σ.L = A ++ e :: B) (hn : e.n = n) (hq : e.q = q) : AskR σ n q (tch A e B) σ.K
  | free (hne : ∀ x ∈ σ.L, ¬ x.n = n) (hl : σ.L.length < σ.most) : AskR σ n q (addE σ.L n q (lst σ n)) (σ.K + 1)
  | evict {A B : List CE} {e : CE} (hne : ∀ x ∈ σ.L, ¬ x.n = n) (hl : σ.most ≤ σ.L.length) (hL : σ.L = A ++ e :: B) (hA : ∀ x ∈ A, goB σ x = false) (he : goB σ e = true) : AskR σ n q (addE (A ++ B) n q (lst σ n)) (σ.K + 1)
/-- There is no room for it. -/
structure FullR (σ : CSt) (n : Nat) : Prop where
  ne : ∀ x ∈ σ.L, ¬ x.n = n
  le : σ.most ≤ σ.L.length
  no : ∀ x ∈ σ.L, goB σ x = false
theorem AskR.last {n q K' : Nat} {L' : List CE} (h : AskR σ n q L' K') : ∃ P e, L' = P ++ [e] ∧ e.n = n ∧ e.q = q := by
  cases h with
  | hit hL hn hq => exact ⟨_, _, rfl, hn, hq⟩
  | free => exact ⟨_, _, rfl, rfl, rfl⟩
  | evict => exact ⟨_, _, rfl, rfl, rfl⟩
theorem AskR.len {n q K' : Nat} {L' : List CE} (h : AskR σ n q L' K') (hl : σ.L.length ≤ σ.most) : L'.length ≤ σ.most := by
  cases h with
  | hit hL hn hq => rw [hL] at hl; simp only [tch, List.length_append, List.length_cons, List.length_nil] at hl ⊢; omega
  | free hne h1 => simp only [addE, List.length_append, List.length_cons, List.length_nil]; omega
  | evict hne h1 hL => rw [hL] at hl; simp only [addE, List.length_append, List.length_cons, List.length_nil] at hl ⊢; omega
theorem AskR.k {n q K' : Nat} {L' : List CE} (h : AskR σ n q L' K') : σ.K ≤ K' ∧ K' ≤ σ.K + 1 := by
  cases h <;> exact ⟨by omega, by omega⟩
theorem ask_any (h : CS w base σ (nums σ.L)) (n : Nat) (hn : n < σ.dn) (hK : σ.K ≤ 1000000) (hlen : σ.L.length ≤ σ.most) :
    Calls Tryz.prog 87 #[.pointer (some ⟨σ.p, 0, none⟩), .int .i64 (n : Int)] w fun r w' => (∃ q, r = .returned (.tuple #[.pointer (some ⟨q, 0, none⟩), .int .i64 0]) ∧ ∃ v' L' K', Done base σ { σ with ov := v', L := L', K := K' } w w' ∧ AskR σ n q L' K') ∨ (r = .returned (.tuple #[.pointer none, .int .i64 5]) ∧ FullR σ n ∧ Below w.heap.size w w') := by
  have hm := h.m1
  rcases first_split (fun e => decide (e.n = n)) σ.L with hno | ⟨A, e, B, hL, _, he⟩
  · have hne : ∀ x ∈ σ.L, ¬ x.n = n := fun x hx => by have := hno x hx; simpa using this
    by_cases hl : σ.L.length < σ.most
    · refine (ask_new h n hn hne σ.L hne hK (by rw [nums_length]; omega) ((room_free h (by omega)).mono ?_)).mono ?_
      · rintro r w' ⟨rfl, hb⟩
        exact ⟨rfl, σ.ov, h.up hb, Step.refl σ hb, hb.mono (by have := h.pb; have := h.pl; omega)⟩
      · rintro r w' ⟨q, rfl, v', hD⟩
        exact .inl ⟨q, rfl, v', _, _, hD, .free hne hl⟩
    · rcases first_split (goB σ) σ.L with hgo | ⟨A, e, B, hL, hA, he⟩
      · refine (ask_full h n hn hne (room_no h (by omega) hgo)).mono ?_
        rintro r w' ⟨rfl, hb⟩
        exact .inr ⟨rfl, ⟨hne, by omega, hgo⟩, hb⟩
      · have hne1 : ∀ x ∈ A ++ B, ¬ x.n = n := fun x hx => hne x (by
          rw [hL]
          rcases List.mem_append.1 hx with hx | hx
          · exact List.mem_append.2 (.inl hx)
          · exact List.mem_append.2 (.inr (List.mem_cons_of_mem _ hx)))
        refine (ask_new h n hn hne (A ++ B) hne1 hK ?_ (room_go h (by omega) hL hA he)).mono ?_
        · rw [nums_length]; rw [hL] at hlen; simp only [List.length_append, List.length_cons] at hlen ⊢; omega
        · rintro r w' ⟨q, rfl, v', hD⟩
          exact .inl ⟨q, rfl, v', _, _, hD, .evict hne (by omega) hL hA he⟩
  · obtain rfl : e.n = n := by simpa using he
    refine (ask_hit h hL (by omega)).mono ?_
    rintro r w' ⟨rfl, v', hD⟩
    exact .inl ⟨e.q, rfl, v', _, _, hD, .hit hL rfl rfl⟩
theorem CS.bs (h : CS w base σ O) : base ≤ w.heap.size := by have := h.pb; have := h.pl; omega
theorem Done.up {σ σ' : CSt} {a b c : World} (h : Done base σ σ' a b) (hb : Below b.heap.size b c) : Done base σ σ' a c := ⟨h.cs.up hb, h.st.trans (Step.refl _ hb), h.be.trans (hb.mono h.cs.bs)⟩
/-- What Read leaves. -/
def ReadP (base : Nat) (σ : CSt) (n : Nat) (w : World) (r : Ending) (w' : World) : Prop :=
  (∃ v v' P e K', r = .returned (.tuple #[v, .int .i64 0]) ∧ Own w' w.heap.size v e.d ∧ (∀ k, v.ownBlock = some k → ¬ Sk { σ with ov := v', L := P ++ [e], K := K' } k) ∧ Done base σ { σ with ov := v', L := P ++ [e], K := K' } w w' ∧ AskR σ n e.q (P ++ [e]) K' ∧ e.n = n) ∨ (r = .returned (.tuple #[.slice none 0 0, .int .i64 5]) ∧ FullR σ n ∧ Below w.heap.size w w')
set_option maxHeartbeats 2000000 in
theorem cread_any (h : CS w base σ (nums σ.L)) (n : Nat) (hn : n < σ.dn) (hK : σ.K ≤ 1000000) (hlen : σ.L.length ≤ σ.most) :
    Calls Tryz.prog 50 #[.pointer (some ⟨σ.p, 0, none⟩), .int .i64 (n : Int)] w (ReadP base σ n w) := by
  have RC := reach_ok h n (by omega)
  have AK := ask_any h n hn hK hlen
  have HSZ : Hid (base ≤ w.heap.size) := h.bs
  clear h
  go_enter Tryz.func50, Tryz.ntmps50
  go_wp2_with fail
  refine RC.mono ?_
  rintro r w1 ⟨rfl, hw1⟩
  obtain rfl : w = w1 := hw1.symm
  clear RC
  go_wp2_with fail
  refine AK.mono ?_
  clear AK
  rintro r w2 (⟨q, rfl, v', L', K', hD, hR⟩ | ⟨rfl, hF, hb⟩)
  · obtain ⟨P, e, rfl, hen, heq⟩ := hR.last
    subst heq
    have hbk := hD.cs.blk e (by simp)
    have BY := bytes_any e.q _ e.d [.int .i64 (e.pin : Int)] w2 hbk.1 hbk.2.1
    have HD : Hid _ := hD
    have HR : Hid _ := And.intro hR hen
    clear hD hR hbk hen
    go_wp2_with fail
    refine BY.mono ?_
    clear BY
    rintro r w3 ⟨v, rfl, ho, hb3⟩
    have HO : Hid _ := ho
    have HB : Hid _ := hb3
    clear ho hb3
    go_wp2
    go_ret2
    refine .inl ⟨v, v', P, e, K', rfl, ?_, fun k hk hs => ?_, HD.out.up HB.out, HR.out.1, HR.out.2⟩
    · obtain ⟨h1, h2⟩ := HO.out
      refine ⟨h1, ?_⟩
      rcases h2 with h2 | ⟨g, cap, cur, hv, hg, rest⟩
      · exact .inl h2
      · exact .inr ⟨g, cap, cur, hv, by have := HD.out.be.size; omega, rest⟩
    · have h1 := (HO.out.lt k hk).1
      have h2 := HD.out.cs.sk_size hs
      omega
  · have HF : Hid _ := hF
    clear hF
    go_wp2
    go_ret2
    exact .inr ⟨rfl, HF.out, hb⟩
end
end Go.Proofs.YtkiifmnmeikdlaaGreatDoor
/- A store of changes in memory: its own blocks, and what each step turns. -/
namespace Go.Proofs.YtkiifmnmeikdlaaGreatDoor
open Go.RowKit
set_option maxRecDepth 100000
/-- The slice v is the call's own, and its numbers (of 64 bits) are l. -/
def OwnL (w : World) (base : Nat) (v : Value) (l : List Int) : Prop := w.ownsRow base 2 1 v l.length (ivs l)
theorem row_same {w w' : World} {base e size : Nat} {v : Value} {m : Nat} {xs : List Value} (h : w.ownsRow base e size v m xs) (hb : ∀ k, v.ownBlock = some k → w'.heap[k]? = w.heap[k]?) : w'.ownsRow base e size v m xs := by
  obtain ⟨h1, h2⟩ := h
  refine ⟨h1, ?_⟩
  rcases h2 with h2 | ⟨g, cap, cur, hv, hg, hh, r⟩
  · exact .inl h2
  · exact .inr ⟨g, cap, cur, hv, hg, by rw [hb g (by rw [hv]; rfl)]; exact hh, r⟩
def chL (c : Ch) : List Value := [.int .i64 (c.b : Int), .int .i64 (c.fr : Int), c.dv, c.av, .bool c.wr]
def bkL (b : Bk) : List Value := bvs b.ba ++ b.ov :: ivs b.la
/-- A store in memory: what its parts hold. -/
structure PSt where
  p : Nat
  cm : Nat
  bm : Nat
  kc : Nat
  kb : Nat
  cnt : Nat
  fC : Int → Nat
  kC : List Int
  fB : Int → Nat
  kB : List Int
  C : List Ch
  B : List Bk
  tag : Nat → Nat
  σ : CSt
def stL (s : PSt) : List Value := [.pointer (some ⟨s.σ.dp, 0, none⟩), .pointer (some ⟨s.σ.p, 0, none⟩), .int .i64 (s.cnt : Int), .map (some s.cm), .map (some s.bm)]
/-- Its own blocks. -/
def Fk (s : PSt) (k : Nat) : Prop := k = s.p ∨ k = s.cm ∨ k = s.bm ∨ (∃ c ∈ s.C, k = c.q ∨ c.dv.ownBlock = some k ∨ c.av.ownBlock = some k) ∨ ∃ b ∈ s.B, k = b.q ∨ b.ov.ownBlock = some k
def Ak (s : PSt) (k : Nat) : Prop := Fk s k ∨ Sk s.σ k
structure ChAt (w : World) (base : Nat) (c : Ch) : Prop where
  cell : w.heap[c.q]? = some (.cells (chL c).toArray 118 (0, 0))
  dat : Own w base c.dv c.d
  ahd : OwnL w base c.av c.ah
structure BkAt (w : World) (base : Nat) (b : Bk) (op : List Int) : Prop where
  cell : w.heap[b.q]? = some (.cells (bkL b).toArray 171 (0, 0))
  l1 : b.ba.length = 256
  l2 : b.la.length = 256
  opn : OwnL w base b.ov op
/-- The store s lies in w; ops says the open changes of each block. -/
structure PM (w : World) (base : Nat) (s : PSt) (ops : Nat → List Int) : Prop where
  cs : CS w base s.σ (nums s.σ.L)
  st : w.heap[s.p]? = some (.cells (stL s).toArray 100 (0, 0))
  mc : KMap 2 w s.cm s.kc s.fC s.kC
  mb : KMap 3 w s.bm s.kb s.fB s.kB
  ch : ∀ c ∈ s.C, ChAt w base c
  bk : ∀ b ∈ s.B, BkAt w base b (ops b.q)
  cq : (s.C.map (·.q)).Nodup
  bq : (s.B.map (·.q)).Nodup
  t0 : s.tag s.p = 1 ∧ s.tag s.cm = 2 ∧ s.tag s.bm = 3
  tc : ∀ c ∈ s.C, s.tag c.q = 3 * c.q + 10 ∧ (∀ k, c.dv.ownBlock = some k → s.tag k = 3 * c.q + 11) ∧ ∀ k, c.av.ownBlock = some k → s.tag k = 3 * c.q + 12
  tb : ∀ b ∈ s.B, s.tag b.q = 3 * b.q + 10 ∧ ∀ k, b.ov.ownBlock = some k → s.tag k = 3 * b.q + 11
  fk : ∀ k, Fk s k → base ≤ k ∧ k < w.heap.size ∧ ¬ Sk s.σ k
section
variable {w w' : World} {base : Nat} {s : PSt} {ops : Nat → List Int}
theorem PM.lt (h : PM w base s ops) {k : Nat} (hk : Ak s k) : k < w.heap.size := by
  rcases hk with hk | hk
  · exact (h.fk k hk).2.1
  · exact h.cs.sk_size hk
theorem ChAt.same {c : Ch} (h : ChAt w base c) (hq : w'.heap[c.q]? = w.heap[c.q]?) (hd : ∀ k, c.dv.ownBlock = some k → w'.heap[k]? = w.heap[k]?) (ha : ∀ k, c.av.ownBlock = some k → w'.heap[k]? = w.heap[k]?) : ChAt w' base c :=
  ⟨hq.trans h.cell, row_same h.dat hd, row_same h.ahd ha⟩
theorem BkAt.same {b : Bk} {op : List Int} (h : BkAt w base b op) (hq : w'.heap[b.q]? = w.heap[b.q]?) (ho : ∀ k, b.ov.ownBlock = some k → w'.heap[k]? = w.heap[k]?) : BkAt w' base b op :=
  ⟨hq.trans h.cell, h.l1, h.l2, row_same h.opn ho⟩
/-- Under changes of other blocks. -/
theorem PM.fr (h : PM w base s ops) {S : Nat → Prop} (hf : Fr S w w') (hS : ∀ k, Ak s k → ¬ S k) : PM w' base s ops := by
  have bl : ∀ k, Fk s k → w'.heap[k]? = w.heap[k]? := fun k hk => hf.blk k (h.fk k hk).2.1 (hS k (.inl hk))
  exact {
    cs := h.cs.fr hf fun k hk => hS k (.inr hk)
    st := (bl _ (.inl rfl)).trans h.st
    mc := h.mc.same (bl _ (.inr (.inl rfl)))
    mb := h.mb.same (bl _ (.inr (.inr (.inl rfl))))
    ch := fun c hc => (h.ch c hc).same (bl _ (.inr (.inr (.inr (.inl ⟨c, hc, .inl rfl⟩))))) (fun k hk => bl _ (.inr (.inr (.inr (.inl ⟨c, hc, .inr (.inl hk)⟩))))) (fun k hk => bl _ (.inr (.inr (.inr (.inl ⟨c, hc, .inr (.inr hk)⟩)))))
    bk := fun b hb => (h.bk b hb).same (bl _ (.inr (.inr (.inr (.inr ⟨b, hb, .inl rfl⟩))))) (fun k hk => bl _ (.inr (.inr (.inr (.inr ⟨b, hb, .inr hk⟩)))))
    cq := h.cq, bq := h.bq, t0 := h.t0, tc := h.tc, tb := h.tb
    fk := fun k hk => ⟨(h.fk k hk).1, Nat.lt_of_lt_of_le (h.fk k hk).2.1 hf.size, (h.fk k hk).2.2⟩ }
theorem PM.up (h : PM w base s ops) (hb : Below w.heap.size w w') : PM w' base s ops := h.fr (S := fun _ => False) (Fr.of_below hb) fun _ _ c => c
/-- The cache is another one. -/
theorem PM.cache (h : PM w base s ops) {σ' : CSt} (hD : Done base s.σ σ' w w') (hp : σ'.p = s.σ.p) (hd : σ'.dp = s.σ.dp) : PM w' base { s with σ := σ' } ops := by
  have hf := hD.st.fr
  have bl : ∀ k, Fk s k → w'.heap[k]? = w.heap[k]? := fun k hk => hf.blk k (h.fk k hk).2.1 (h.fk k hk).2.2
  exact {
    cs := hD.cs
    st := by
      have := (bl _ (.inl rfl)).trans h.st
      simp only [stL, hp, hd] at this ⊢
      exact this
    mc := h.mc.same (bl _ (.inr (.inl rfl)))
    mb := h.mb.same (bl _ (.inr (.inr (.inl rfl))))
    ch := fun c hc => (h.ch c hc).same (bl _ (.inr (.inr (.inr (.inl ⟨c, hc, .inl rfl⟩))))) (fun k hk => bl _ (.inr (.inr (.inr (.inl ⟨c, hc, .inr (.inl hk)⟩))))) (fun k hk => bl _ (.inr (.inr (.inr (.inl ⟨c, hc, .inr (.inr hk)⟩)))))
    bk := fun b hb => (h.bk b hb).same (bl _ (.inr (.inr (.inr (.inr ⟨b, hb, .inl rfl⟩))))) (fun k hk => bl _ (.inr (.inr (.inr (.inr ⟨b, hb, .inr hk⟩)))))
    cq := h.cq, bq := h.bq, t0 := h.t0, tc := h.tc, tb := h.tb
    fk := fun k hk => ⟨(h.fk k hk).1, Nat.lt_of_lt_of_le (h.fk k hk).2.1 hf.size, fun c => by
      rcases hD.st.sub k c with c | c
      · exact (h.fk k hk).2.2 c
      · have := (h.fk k hk).2.1; omega⟩ }
end
end Go.Proofs.YtkiifmnmeikdlaaGreatDoor
/- A store through the steps of a call. -/
namespace Go.Proofs.YtkiifmnmeikdlaaGreatDoor
open Go.RowKit
set_option maxRecDepth 100000
section
variable {w w' w0 : World} {base : Nat} {s s' s0 : PSt} {ops ops' : Nat → List Int}
theorem PM.c1 (h : PM w base s ops) : w.cell? ⟨s.p, 1, none⟩ = some (.pointer (some ⟨s.σ.p, 0, none⟩)) := by rw [cell_of_row w s.p 1 _ _ _ h.st]; rfl
/-- From (s0, w0) to (s, w). -/
structure PRun (base : Nat) (s0 : PSt) (w0 : World) (s : PSt) (ops : Nat → List Int) (w : World) : Prop where
  pm : PM w base s ops
  fr : Fr (Ak s0) w0 w
  sub : ∀ k, Ak s k → Ak s0 k ∨ w0.heap.size ≤ k
  be : Below base w0 w
theorem PRun.start (h : PM w base s ops) : PRun base s w s ops w := ⟨h, Fr.refl _ _, fun _ h => .inl h, Below.refl _ _⟩
theorem PRun.next (h : PRun base s0 w0 s ops w) (hp : PM w' base s' ops') (hf : Fr (Ak s) w w') (hs : ∀ k, Ak s' k → Ak s k ∨ w0.heap.size ≤ k) (hb : Below base w w') : PRun base s0 w0 s' ops' w' := by
  have hz := h.fr.size
  refine ⟨hp, ⟨Nat.le_trans h.fr.size hf.size, fun j hj hn => ?_, hf.os.trans h.fr.os, hf.tape.trans h.fr.tape, hf.output.trans h.fr.output⟩, fun j hj => ?_, h.be.trans hb⟩
  · refine (hf.blk j (by omega) (fun c => ?_)).trans (h.fr.blk j hj hn)
    rcases h.sub j c with c | c
    · exact hn c
    · omega
  · rcases hs j hj with c | c
    · exact h.sub j c
    · exact .inr c
theorem PRun.cache (h : PRun base s0 w0 s ops w) {σ' : CSt} (hD : Done base s.σ σ' w w') (hp : σ'.p = s.σ.p) (hd : σ'.dp = s.σ.dp) : PRun base s0 w0 { s with σ := σ' } ops w' :=
  h.next (h.pm.cache hD hp hd) (hD.st.fr.mono fun k _ hk => .inr hk) (fun k hk => by
    rcases hk with hk | hk
    · exact .inl (.inl hk)
    · rcases hD.st.sub k hk with hk | hk
      · exact .inl (.inr hk)
      · exact .inr (by have := h.fr.size; omega)) hD.be
end
end Go.Proofs.YtkiifmnmeikdlaaGreatDoor
/- A set of numbers, as a map to struct{}. -/
namespace Go.Proofs.YtkiifmnmeikdlaaGreatDoor
open Go.RowKit
set_option maxRecDepth 100000
/-- Block b is a map that has the keys ks; it was written at most K times. -/
structure SMap (w : World) (b K : Nat) (ks : List Int) : Prop where
  own : ∃ D : DataW Unit, w.ownsMap Tryz.prog 2 unitElem b K D ∧ Maps.Tidy D ∧ ∀ x : Int, Maps.has D (.int .i64 x) = decide (x ∈ ks)
section
variable {w w' : World} {b K : Nat} {ks : List Int}
end
end Go.Proofs.YtkiifmnmeikdlaaGreatDoor
/- Package patch: ends. What it holds between its steps. -/
namespace Go.Proofs.YtkiifmnmeikdlaaGreatDoor
open Go.RowKit Go.Shelf
set_option maxRecDepth 100000
attribute [local go_sem] Oper.semAt_some
/-- What ends holds, that began at w0: the boxes of the store and of the list, the map and its box. -/
structure ES (w0 w : World) (p K : Nat) (M E : List Int) (v : Value) : Prop where
  be : Below w0.heap.size w0 w
  rs : w.heap[w0.heap.size]? = some (.cells #[.pointer (some ⟨p, 0, none⟩)] 49 (0, 0))
  ra : w.heap[w0.heap.size + 1]? = some (.cells #[v] 70 (0, 0))
  sm : SMap w (w0.heap.size + 2) K M
  rm : w.heap[w0.heap.size + 3]? = some (.cells #[.map (some (w0.heap.size + 2))] 206 (0, 0))
  ow : OwnL w (w0.heap.size + 5) v E
  sz : w0.heap.size + 5 ≤ w.heap.size
section
variable {w0 w w' w2 : World} {p K : Nat} {M E : List Int} {v : Value}
end
end Go.Proofs.YtkiifmnmeikdlaaGreatDoor
/- Which changes are reached from one by those that it goes behind. Nothing of a program. -/
namespace Go.Proofs.YtkiifmnmeikdlaaGreatDoor
open Go.RowKit
set_option maxRecDepth 100000
/-- One goes behind number i, or behind a change of C that does. -/
inductive Rea (C : List Ch) : Ch → Int → Prop
  | ahead {c : Ch} {i : Int} : i ∈ c.ah → Rea C c i
  | step {c d : Ch} {i : Int} : d ∈ C → (d.id : Int) ∈ c.ah → Rea C d i → Rea C c i
end Go.Proofs.YtkiifmnmeikdlaaGreatDoor
