/- Package cache: room. -/
import Derived.Test.YtaljaledeljllaaGreatCask
namespace Go.Proofs.YtaljaledeljllaaGreat
open Go.RowKit
set_option maxRecDepth 100000
attribute [local go_sem] wrapI decF decT
theorem first_split (p : CE → Bool) : ∀ L : List CE, (∀ x ∈ L, p x = false) ∨ ∃ A e B, L = A ++ e :: B ∧ (∀ x ∈ A, p x = false) ∧ p e = true
  | [] => .inl fun x hx => by cases hx
  | a :: r => by
    cases ha : p a
    · rcases first_split p r with h | ⟨A, e, B, rfl, h1, h2⟩
      · refine .inl fun x hx => ?_
        rcases List.mem_cons.1 hx with rfl | hx
        · exact ha
        · exact h x hx
      · refine .inr ⟨a :: A, e, B, rfl, fun x hx => ?_, h2⟩
        rcases List.mem_cons.1 hx with rfl | hx
        · exact ha
        · exact h1 x hx
    · exact .inr ⟨[], a, r, rfl, fun x hx => (by cases hx), ha⟩
theorem nums_getD (L : List CE) (k : Nat) (h : k < L.length) : (nums L).getD k 0 = ((L[k]).n : Int) := by simp [nums, h]
theorem split_at (L : List CE) (k : Nat) (h : k < L.length) : L = L.take k ++ L[k] :: L.drop (k + 1) := by
  rw [List.getElem_cons_drop, List.take_append_drop]
section
variable {w w' : World} {base : Nat} {σ : CSt}
/-- The order's row. -/
theorem CS.row (h : CS w base σ (nums σ.L)) : ∃ ao cap, σ.ov = .slice ao σ.L.length cap ∧ σ.L.length ≤ cap ∧ (cap : Int) ≤ 9223372036854775807 ∧ (0 < σ.L.length → ∃ g, ao = some ⟨g, 0, none⟩ ∧ ∀ W, CS W base σ (nums σ.L) → ∀ k, (hk : k < σ.L.length) → W.cell? ⟨g, k, none⟩ = some (.int .i64 ((σ.L[k]).n : Int))) := by
  obtain ⟨ao, cap, hov, hsrc, hlc, hcm, hnil⟩ := h.ord.form
  rw [nums_length] at hov hlc
  refine ⟨ao, cap, hov, hlc, hcm, fun hpos => ?_⟩
  rcases h.ord.2 with ⟨h2, _⟩ | ⟨g, cap', cur, hv, _⟩
  · rw [hov] at h2
    simp only [Value.slice.injEq] at h2
    have := h2.2.1
    omega
  · rw [hov] at hv
    simp only [Value.slice.injEq] at hv
    refine ⟨g, hv.1, fun W hW k hk => ?_⟩
    obtain ⟨ao2, cap2, hov2, hsrc2, _⟩ := hW.ord.form
    rw [hov, hv.1] at hov2
    simp only [Value.slice.injEq] at hov2
    rcases hsrc2 with hs | ⟨b, off, hb, _, hc⟩
    · have := congrArg List.length hs
      rw [nums_length, List.length_nil] at this
      omega
    · rw [← hov2.1] at hb
      simp only [Option.some.injEq, Addr.mk.injEq] at hb
      obtain ⟨rfl, rfl, _⟩ := hb
      have := hc k (by rw [nums_length]; exact hk)
      rw [Nat.zero_add, nums_getD _ _ hk] at this
      exact this
set_option maxHeartbeats 2000000 in
theorem room_free (h : CS w base σ (nums σ.L)) (hl : (σ.L.length : Int) < σ.most) :
    Calls Tryz.prog 133 #[.pointer (some ⟨σ.p, 0, none⟩)] w fun r w' => r = .returned (.bool true) ∧ Below w.heap.size w w' := by
  obtain ⟨ao, cap, hov, hlc, hcm, hrow⟩ := h.row
  have hm1 := h.m1
  have HC : Hid (CS w.drew base σ (nums σ.L) ∧ Below w.heap.size w w.drew) := ⟨h.drew, (Below.refl _ _).drew⟩
  have HQ3 : Hid (∀ W, CS W base σ (nums σ.L) → W.cell? ⟨σ.p, 3, none⟩ = some (.slice ao σ.L.length cap)) := fun W hW => by rw [hW.c3, hov]
  clear h
  have hdec : DecT (σ.L.length < σ.most) := ⟨by omega⟩
  clear hov hrow
  go_enter Tryz.func133, Tryz.ntmps133
  go_wp2_with fail
  refine wp_region_held_drew (S := (fun W => CS W base σ (nums σ.L) ∧ Below w.heap.size w W)) (by kernel_rfl) HC.out (fun hH => ?_)
  refine takeH (i := 0) (dst := some 5) (v := ?v1) rfl rfl (by kernel_rfl) (by kernel_rfl) (by kernel_rfl) (fun _ _ _ h => h) rfl ?hy1 hH rfl ?rest1
  case hy1 => (intro W hW; have q1 := hW.1.c1; have q3 := HQ3.out W hW.1; clear hW; go_simp; try with_reducible rfl)
  (try simp only [Act.put, List.setIfInBounds_toArray, List.set_cons_zero, List.set_cons_succ])
  refine takeH (i := 1) (dst := some 6) (v := ?v2) rfl rfl (by kernel_rfl) (by kernel_rfl) (by kernel_rfl) (fun _ _ _ h => h) rfl ?hy2 hH rfl ?rest2
  case hy2 => (intro W hW; have q1 := hW.1.c1; have q3 := HQ3.out W hW.1; clear hW; go_simp; try with_reducible rfl)
  (try simp only [Act.put, List.setIfInBounds_toArray, List.set_cons_zero, List.set_cons_succ])
  refine takeH (i := 2) (dst := some 7) (v := ?v3) rfl rfl (by kernel_rfl) (by kernel_rfl) (by kernel_rfl) (fun _ _ _ h => h) rfl ?hy3 hH rfl ?rest3
  case hy3 => (intro W hW; have q1 := hW.1.c1; have q3 := HQ3.out W hW.1; clear hW; go_simp; try with_reducible rfl)
  (try simp only [Act.put, List.setIfInBounds_toArray, List.set_cons_zero, List.set_cons_succ])
  refine takeH (i := 3) (dst := some 8) (v := ?v4) rfl rfl (by kernel_rfl) (by kernel_rfl) (by kernel_rfl) (fun _ _ _ h => h) rfl ?hy4 hH rfl ?rest4
  case hy4 => (intro W hW; have q1 := hW.1.c1; have q3 := HQ3.out W hW.1; clear hW; go_simp; try with_reducible rfl)
  (try simp only [Act.put, List.setIfInBounds_toArray, List.set_cons_zero, List.set_cons_succ])
  refine takeH (i := 4) (dst := some 9) (v := ?v5) rfl rfl (by kernel_rfl) (by kernel_rfl) (by kernel_rfl) (fun _ _ _ h => h) rfl ?hy5 hH rfl ?rest5
  case hy5 => (intro W hW; have q1 := hW.1.c1; have q3 := HQ3.out W hW.1; clear hW; go_simp; try with_reducible rfl)
  (try simp only [Act.put, List.setIfInBounds_toArray, List.set_cons_zero, List.set_cons_succ])
  refine takeH (i := 5) (dst := some 10) (v := ?v6) rfl rfl (by kernel_rfl) (by kernel_rfl) (by kernel_rfl) (fun _ _ _ h => h) rfl ?hy6 hH rfl ?rest6
  case hy6 => (intro W hW; have q1 := hW.1.c1; have q3 := HQ3.out W hW.1; clear hW; go_simp; try with_reducible rfl)
  (try simp only [Act.put, List.setIfInBounds_toArray, List.set_cons_zero, List.set_cons_succ])
  refine takeH (i := 6) (dst := some 11) (v := ?v7) rfl rfl (by kernel_rfl) (by kernel_rfl) (by kernel_rfl) (fun _ _ _ h => h) rfl ?hy7 hH rfl ?rest7
  case hy7 => (intro W hW; have q1 := hW.1.c1; have q3 := HQ3.out W hW.1; clear hW; go_simp; try with_reducible rfl)
  (try simp only [Act.put, List.setIfInBounds_toArray, List.set_cons_zero, List.set_cons_succ])
  refine takeH (i := 7) (dst := some 12) (v := ?v8) rfl rfl (by kernel_rfl) (by kernel_rfl) (by kernel_rfl) (fun _ _ _ h => h) rfl ?hy8 hH rfl ?rest8
  case hy8 => (intro W hW; have q1 := hW.1.c1; have q3 := HQ3.out W hW.1; clear hW; go_simp; try with_reducible rfl)
  (try simp only [Act.put, List.setIfInBounds_toArray, List.set_cons_zero, List.set_cons_succ])
  refine takeH (i := 8) (dst := some 13) (v := ?v9) rfl rfl (by kernel_rfl) (by kernel_rfl) (by kernel_rfl) (fun _ _ _ h => h) rfl ?hy9 hH rfl ?rest9
  case hy9 => (intro W hW; have q1 := hW.1.c1; have q3 := HQ3.out W hW.1; clear hW; go_simp; try with_reducible rfl)
  (try simp only [Act.put, List.setIfInBounds_toArray, List.set_cons_zero, List.set_cons_succ])
  refine takeH (i := 9) (dst := some 14) (v := ?v10) rfl rfl (by kernel_rfl) (by kernel_rfl) (by kernel_rfl) (fun _ _ _ h => h) rfl ?hy10 hH rfl ?rest10
  case hy10 => (intro W hW; have q1 := hW.1.c1; have q3 := HQ3.out W hW.1; clear hW; go_simp; try with_reducible rfl)
  (try simp only [Act.put, List.setIfInBounds_toArray, List.set_cons_zero, List.set_cons_succ])
  refine wpAnyH_done (by kernel_rfl) ?_ _
  clear hH
  go_wp2
  go_ret
  exact ⟨rfl, HC.out.2⟩
set_option maxHeartbeats 2000000 in
theorem room_no (h : CS w base σ (nums σ.L)) (hl : (σ.most : Int) ≤ σ.L.length) (hL : ∀ x ∈ σ.L, goB σ x = false) :
    Calls Tryz.prog 133 #[.pointer (some ⟨σ.p, 0, none⟩)] w fun r w' => r = .returned (.bool false) ∧ Below w.heap.size w w' := by
  obtain ⟨ao, cap, hov, hlc, hcm, hrow⟩ := h.row
  have hm1 := h.m1
  have HC : Hid (CS w.drew base σ (nums σ.L) ∧ Below w.heap.size w w.drew) := ⟨h.drew, (Below.refl _ _).drew⟩
  have HQ3 : Hid (∀ W, CS W base σ (nums σ.L) → W.cell? ⟨σ.p, 3, none⟩ = some (.slice ao σ.L.length cap)) := fun W hW => by rw [hW.c3, hov]
  clear h
  obtain ⟨J, HJ⟩ : ∃ J, Hid (J = σ.L.length) := ⟨_, rfl⟩
  have HN : Hid (∀ k, k < J → (hk : k < σ.L.length) → goB σ σ.L[k] = false) := fun k _ hk => hL _ (List.getElem_mem hk)
  have hdec : DecF (σ.L.length < σ.most) := ⟨by omega⟩
  have hpos : 0 < σ.L.length := by omega
  obtain ⟨g, rfl, hcell⟩ := hrow hpos
  have HCL : Hid _ := hcell
  clear hov hcell hL
  go_enter Tryz.func133, Tryz.ntmps133
  go_wp2_with fail
  refine wp_region_held_drew (S := (fun W => CS W base σ (nums σ.L) ∧ Below w.heap.size w W)) (by kernel_rfl) HC.out (fun hH => ?_)
  refine takeH (i := 0) (dst := some 5) (v := ?v1) rfl rfl (by kernel_rfl) (by kernel_rfl) (by kernel_rfl) (fun _ _ _ h => h) rfl ?hy1 hH rfl ?rest1
  case hy1 => (intro W hW; have q1 := hW.1.c1; have q3 := HQ3.out W hW.1; clear hW; go_simp; try with_reducible rfl)
  (try simp only [Act.put, List.setIfInBounds_toArray, List.set_cons_zero, List.set_cons_succ])
  refine takeH (i := 1) (dst := some 6) (v := ?v2) rfl rfl (by kernel_rfl) (by kernel_rfl) (by kernel_rfl) (fun _ _ _ h => h) rfl ?hy2 hH rfl ?rest2
  case hy2 => (intro W hW; have q1 := hW.1.c1; have q3 := HQ3.out W hW.1; clear hW; go_simp; try with_reducible rfl)
  (try simp only [Act.put, List.setIfInBounds_toArray, List.set_cons_zero, List.set_cons_succ])
  refine takeH (i := 2) (dst := some 7) (v := ?v3) rfl rfl (by kernel_rfl) (by kernel_rfl) (by kernel_rfl) (fun _ _ _ h => h) rfl ?hy3 hH rfl ?rest3
  case hy3 => (intro W hW; have q1 := hW.1.c1; have q3 := HQ3.out W hW.1; clear hW; go_simp; try with_reducible rfl)
  (try simp only [Act.put, List.setIfInBounds_toArray, List.set_cons_zero, List.set_cons_succ])
  refine takeH (i := 3) (dst := some 8) (v := ?v4) rfl rfl (by kernel_rfl) (by kernel_rfl) (by kernel_rfl) (fun _ _ _ h => h) rfl ?hy4 hH rfl ?rest4
  case hy4 => (intro W hW; have q1 := hW.1.c1; have q3 := HQ3.out W hW.1; clear hW; go_simp; try with_reducible rfl)
  (try simp only [Act.put, List.setIfInBounds_toArray, List.set_cons_zero, List.set_cons_succ])
  refine takeH (i := 4) (dst := some 9) (v := ?v5) rfl rfl (by kernel_rfl) (by kernel_rfl) (by kernel_rfl) (fun _ _ _ h => h) rfl ?hy5 hH rfl ?rest5
  case hy5 => (intro W hW; have q1 := hW.1.c1; have q3 := HQ3.out W hW.1; clear hW; go_simp; try with_reducible rfl)
  (try simp only [Act.put, List.setIfInBounds_toArray, List.set_cons_zero, List.set_cons_succ])
  refine takeH (i := 5) (dst := some 10) (v := ?v6) rfl rfl (by kernel_rfl) (by kernel_rfl) (by kernel_rfl) (fun _ _ _ h => h) rfl ?hy6 hH rfl ?rest6
  case hy6 => (intro W hW; have q1 := hW.1.c1; have q3 := HQ3.out W hW.1; clear hW; go_simp; try with_reducible rfl)
  (try simp only [Act.put, List.setIfInBounds_toArray, List.set_cons_zero, List.set_cons_succ])
  refine takeH (i := 6) (dst := some 11) (v := ?v7) rfl rfl (by kernel_rfl) (by kernel_rfl) (by kernel_rfl) (fun _ _ _ h => h) rfl ?hy7 hH rfl ?rest7
  case hy7 => (intro W hW; have q1 := hW.1.c1; have q3 := HQ3.out W hW.1; clear hW; go_simp; try with_reducible rfl)
  (try simp only [Act.put, List.setIfInBounds_toArray, List.set_cons_zero, List.set_cons_succ])
  refine takeH (i := 7) (dst := some 12) (v := ?v8) rfl rfl (by kernel_rfl) (by kernel_rfl) (by kernel_rfl) (fun _ _ _ h => h) rfl ?hy8 hH rfl ?rest8
  case hy8 => (intro W hW; have q1 := hW.1.c1; have q3 := HQ3.out W hW.1; clear hW; go_simp; try with_reducible rfl)
  (try simp only [Act.put, List.setIfInBounds_toArray, List.set_cons_zero, List.set_cons_succ])
  refine takeH (i := 8) (dst := some 13) (v := ?v9) rfl rfl (by kernel_rfl) (by kernel_rfl) (by kernel_rfl) (fun _ _ _ h => h) rfl ?hy9 hH rfl ?rest9
  case hy9 => (intro W hW; have q1 := hW.1.c1; have q3 := HQ3.out W hW.1; clear hW; go_simp; try with_reducible rfl)
  (try simp only [Act.put, List.setIfInBounds_toArray, List.set_cons_zero, List.set_cons_succ])
  refine takeH (i := 9) (dst := some 14) (v := ?v10) rfl rfl (by kernel_rfl) (by kernel_rfl) (by kernel_rfl) (fun _ _ _ h => h) rfl ?hy10 hH rfl ?rest10
  case hy10 => (intro W hW; have q1 := hW.1.c1; have q3 := HQ3.out W hW.1; clear hW; go_simp; try with_reducible rfl)
  (try simp only [Act.put, List.setIfInBounds_toArray, List.set_cons_zero, List.set_cons_succ])
  refine wpAnyH_done (by kernel_rfl) ?_ _
  clear hH
  have q3 := HQ3.out _ HC.out.1
  have hlen9 : (σ.L.length : Int) ≤ 9223372036854775807 := by omega
  go_wp2_with fail
  go_loopw [20] (fun t wr => ∃ k : Nat, k ≤ J ∧ t = .int .i64 k ∧ Hid (CS wr base σ (nums σ.L) ∧ Below w.heap.size w wr)) (fun t _ => σ.L.length - (intOf t).toNat)
  case atStart => exact ⟨0, by omega, rfl, HC⟩
  case round =>
    obtain ⟨k, hk, rfl, HW⟩ := hrel
    clear HC q3
    by_cases hkJ : (k : Int) < J
    · have hkl : k < σ.L.length := by have := HJ.out; omega
      have hkl' : (k : Int) < σ.L.length := by omega
      have c0 := HCL.out wr HW.out.1 k hkl
      have MG := mayGo_any HW.out.1 (split_at σ.L k hkl)
      rw [show goB σ σ.L[k] = false from HN.out k (by omega) hkl] at MG
      generalize (σ.L[k]).n = nn at *
      go_wp2_with (first | (go_at_call 153; refine MG.mono ?_; rintro r w1 ⟨rfl, k1⟩))
      have HW1 : Hid (CS w1 base σ (nums σ.L) ∧ Below w.heap.size w w1) := ⟨HW.out.1.up k1, HW.out.2.trans (k1.mono HW.out.2.size)⟩
      clear HW MG k1 c0
      go_roundw
      case rel => exact ⟨k + 1, by omega, by go_num, HW1⟩
      case measure => simp [intOf]; omega
    · obtain rfl : k = J := by omega
      have hkl' : ¬ (k : Int) < σ.L.length := by have := HJ.out; omega
      have hke : (k : Int) = σ.L.length := by have := HJ.out; omega
      go_wp2
      go_ret
      exact ⟨rfl, HW.out.2⟩
set_option maxHeartbeats 2000000 in
theorem room_go (h : CS w base σ (nums σ.L)) {A B : List CE} {e : CE} (hl : (σ.most : Int) ≤ σ.L.length) (hL : σ.L = A ++ e :: B) (hA : ∀ x ∈ A, goB σ x = false) (he : goB σ e = true) :
    Calls Tryz.prog 133 #[.pointer (some ⟨σ.p, 0, none⟩)] w fun r w' => r = .returned (.bool true) ∧ ∃ v', CS w' base { σ with ov := v', L := A ++ B } (nums (A ++ B)) ∧ Step σ { σ with ov := v', L := A ++ B } w w' ∧ Below base w w' := by
  obtain ⟨ao, cap, hov, hlc, hcm, hrow⟩ := h.row
  have hm1 := h.m1
  have HC : Hid (CS w.drew base σ (nums σ.L) ∧ Below w.heap.size w w.drew) := ⟨h.drew, (Below.refl _ _).drew⟩
  have HQ3 : Hid (∀ W, CS W base σ (nums σ.L) → W.cell? ⟨σ.p, 3, none⟩ = some (.slice ao σ.L.length cap)) := fun W hW => by rw [hW.c3, hov]
  have HBS : Hid (base ≤ w.heap.size) := by have := h.pb; have := h.pl; show _ ≤ _; omega
  clear h
  obtain ⟨J, hJ⟩ : ∃ J, J = A.length := ⟨_, rfl⟩
  have hAB : A ++ B = σ.L.take J ++ σ.L.drop (J + 1) := by rw [hL, hJ]; simp
  rw [hAB]
  have HN : Hid (∀ k, k < J → (hk : k < σ.L.length) → goB σ σ.L[k] = false) := fun k hkJ hk => by
    refine hA _ ?_
    have : σ.L[k] = A[k]'(by omega) := by
      have e1 : σ.L[k]? = A[k]? := by rw [hL, List.getElem?_append_left (by omega)]
      rw [List.getElem?_eq_getElem hk, List.getElem?_eq_getElem (by omega)] at e1
      exact Option.some.inj e1
    rw [this]
    exact List.getElem_mem _
  have HG : Hid ((hk : J < σ.L.length) → goB σ σ.L[J] = true) := fun hk => by
    have : σ.L[J] = e := by
      have e1 : σ.L[J]? = some e := by rw [hL, hJ]; simp
      rw [List.getElem?_eq_getElem hk] at e1
      exact Option.some.inj e1
    rw [this]; exact he
  have HJ : Hid (J < σ.L.length) := by show _ < _; rw [hL, hJ]; simp
  clear hAB hJ hA he
  have hdec : DecF (σ.L.length < σ.most) := ⟨by omega⟩
  have hpos : 0 < σ.L.length := by omega
  obtain ⟨g, rfl, hcell⟩ := hrow hpos
  have HCL : Hid _ := hcell
  clear hov hcell hL
  go_enter Tryz.func133, Tryz.ntmps133
  go_wp2_with fail
  refine wp_region_held_drew (S := (fun W => CS W base σ (nums σ.L) ∧ Below w.heap.size w W)) (by kernel_rfl) HC.out (fun hH => ?_)
  refine takeH (i := 0) (dst := some 5) (v := ?v1) rfl rfl (by kernel_rfl) (by kernel_rfl) (by kernel_rfl) (fun _ _ _ h => h) rfl ?hy1 hH rfl ?rest1
  case hy1 => (intro W hW; have q1 := hW.1.c1; have q3 := HQ3.out W hW.1; clear hW; go_simp; try with_reducible rfl)
  (try simp only [Act.put, List.setIfInBounds_toArray, List.set_cons_zero, List.set_cons_succ])
  refine takeH (i := 1) (dst := some 6) (v := ?v2) rfl rfl (by kernel_rfl) (by kernel_rfl) (by kernel_rfl) (fun _ _ _ h => h) rfl ?hy2 hH rfl ?rest2
  case hy2 => (intro W hW; have q1 := hW.1.c1; have q3 := HQ3.out W hW.1; clear hW; go_simp; try with_reducible rfl)
  (try simp only [Act.put, List.setIfInBounds_toArray, List.set_cons_zero, List.set_cons_succ])
  refine takeH (i := 2) (dst := some 7) (v := ?v3) rfl rfl (by kernel_rfl) (by kernel_rfl) (by kernel_rfl) (fun _ _ _ h => h) rfl ?hy3 hH rfl ?rest3
  case hy3 => (intro W hW; have q1 := hW.1.c1; have q3 := HQ3.out W hW.1; clear hW; go_simp; try with_reducible rfl)
  (try simp only [Act.put, List.setIfInBounds_toArray, List.set_cons_zero, List.set_cons_succ])
  refine takeH (i := 3) (dst := some 8) (v := ?v4) rfl rfl (by kernel_rfl) (by kernel_rfl) (by kernel_rfl) (fun _ _ _ h => h) rfl ?hy4 hH rfl ?rest4
  case hy4 => (intro W hW; have q1 := hW.1.c1; have q3 := HQ3.out W hW.1; clear hW; go_simp; try with_reducible rfl)
  (try simp only [Act.put, List.setIfInBounds_toArray, List.set_cons_zero, List.set_cons_succ])
  refine takeH (i := 4) (dst := some 9) (v := ?v5) rfl rfl (by kernel_rfl) (by kernel_rfl) (by kernel_rfl) (fun _ _ _ h => h) rfl ?hy5 hH rfl ?rest5
  case hy5 => (intro W hW; have q1 := hW.1.c1; have q3 := HQ3.out W hW.1; clear hW; go_simp; try with_reducible rfl)
  (try simp only [Act.put, List.setIfInBounds_toArray, List.set_cons_zero, List.set_cons_succ])
  refine takeH (i := 5) (dst := some 10) (v := ?v6) rfl rfl (by kernel_rfl) (by kernel_rfl) (by kernel_rfl) (fun _ _ _ h => h) rfl ?hy6 hH rfl ?rest6
  case hy6 => (intro W hW; have q1 := hW.1.c1; have q3 := HQ3.out W hW.1; clear hW; go_simp; try with_reducible rfl)
  (try simp only [Act.put, List.setIfInBounds_toArray, List.set_cons_zero, List.set_cons_succ])
  refine takeH (i := 6) (dst := some 11) (v := ?v7) rfl rfl (by kernel_rfl) (by kernel_rfl) (by kernel_rfl) (fun _ _ _ h => h) rfl ?hy7 hH rfl ?rest7
  case hy7 => (intro W hW; have q1 := hW.1.c1; have q3 := HQ3.out W hW.1; clear hW; go_simp; try with_reducible rfl)
  (try simp only [Act.put, List.setIfInBounds_toArray, List.set_cons_zero, List.set_cons_succ])
  refine takeH (i := 7) (dst := some 12) (v := ?v8) rfl rfl (by kernel_rfl) (by kernel_rfl) (by kernel_rfl) (fun _ _ _ h => h) rfl ?hy8 hH rfl ?rest8
  case hy8 => (intro W hW; have q1 := hW.1.c1; have q3 := HQ3.out W hW.1; clear hW; go_simp; try with_reducible rfl)
  (try simp only [Act.put, List.setIfInBounds_toArray, List.set_cons_zero, List.set_cons_succ])
  refine takeH (i := 8) (dst := some 13) (v := ?v9) rfl rfl (by kernel_rfl) (by kernel_rfl) (by kernel_rfl) (fun _ _ _ h => h) rfl ?hy9 hH rfl ?rest9
  case hy9 => (intro W hW; have q1 := hW.1.c1; have q3 := HQ3.out W hW.1; clear hW; go_simp; try with_reducible rfl)
  (try simp only [Act.put, List.setIfInBounds_toArray, List.set_cons_zero, List.set_cons_succ])
  refine takeH (i := 9) (dst := some 14) (v := ?v10) rfl rfl (by kernel_rfl) (by kernel_rfl) (by kernel_rfl) (fun _ _ _ h => h) rfl ?hy10 hH rfl ?rest10
  case hy10 => (intro W hW; have q1 := hW.1.c1; have q3 := HQ3.out W hW.1; clear hW; go_simp; try with_reducible rfl)
  (try simp only [Act.put, List.setIfInBounds_toArray, List.set_cons_zero, List.set_cons_succ])
  refine wpAnyH_done (by kernel_rfl) ?_ _
  clear hH
  have q3 := HQ3.out _ HC.out.1
  have hlen9 : (σ.L.length : Int) ≤ 9223372036854775807 := by omega
  go_wp2_with fail
  go_loopw [20] (fun t wr => ∃ k : Nat, k ≤ J ∧ t = .int .i64 k ∧ Hid (CS wr base σ (nums σ.L) ∧ Below w.heap.size w wr)) (fun t _ => σ.L.length - (intOf t).toNat)
  case atStart => exact ⟨0, by omega, rfl, HC⟩
  case round =>
    obtain ⟨k, hk, rfl, HW⟩ := hrel
    clear HC q3
    by_cases hkJ : (k : Int) < J
    · have hkl : k < σ.L.length := by have := HJ.out; omega
      have hkl' : (k : Int) < σ.L.length := by omega
      have c0 := HCL.out wr HW.out.1 k hkl
      have MG := mayGo_any HW.out.1 (split_at σ.L k hkl)
      rw [show goB σ σ.L[k] = false from HN.out k (by omega) hkl] at MG
      generalize (σ.L[k]).n = nn at *
      go_wp2_with (first | (go_at_call 153; refine MG.mono ?_; rintro r w1 ⟨rfl, k1⟩))
      have HW1 : Hid (CS w1 base σ (nums σ.L) ∧ Below w.heap.size w w1) := ⟨HW.out.1.up k1, HW.out.2.trans (k1.mono HW.out.2.size)⟩
      clear HW MG k1 c0
      go_roundw
      case rel => exact ⟨k + 1, by omega, by go_num, HW1⟩
      case measure => simp [intOf]; omega
    · obtain rfl : k = J := by omega
      have hkl : k < σ.L.length := HJ.out
      have hkl' : (k : Int) < σ.L.length := by omega
      have c0 := HCL.out wr HW.out.1 k hkl
      have MG := mayGo_any HW.out.1 (split_at σ.L k hkl)
      rw [show goB σ σ.L[k] = true from HG.out hkl] at MG
      have HLV : Hid (∀ W, CS W base σ (nums σ.L) → _) := fun W hW => leave_any hW (split_at σ.L k hkl)
      generalize (σ.L[k]).n = nn at *
      go_wp2_with fail
      refine MG.mono ?_
      rintro r w1 ⟨rfl, k1⟩
      have HW1 : Hid (CS w1 base σ (nums σ.L) ∧ Below w.heap.size w w1) := ⟨HW.out.1.up k1, HW.out.2.trans (k1.mono HW.out.2.size)⟩
      have LV := HLV.out w1 HW1.out.1
      clear HW MG k1 c0 HLV
      go_wp2_with fail
      refine LV.mono ?_
      clear LV
      rintro r w2 ⟨rfl, v', k2, k3, k4⟩
      have HF : Hid (CS w2 base { σ with ov := v', L := σ.L.take k ++ σ.L.drop (k + 1) } (nums (σ.L.take k ++ σ.L.drop (k + 1))) ∧ Step σ { σ with ov := v', L := σ.L.take k ++ σ.L.drop (k + 1) } w w2 ∧ Below base w w2) := ⟨k2, (Step.refl σ HW1.out.2).trans k3, (HW1.out.2.mono HBS.out).trans k4⟩
      clear k2 k3 k4
      go_wp2
      go_ret
      exact ⟨rfl, v', HF.out⟩
end
end Go.Proofs.YtaljaledeljllaaGreat
