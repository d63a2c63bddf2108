/- Rows of block numbers: slices.Index and slices.Delete. -/
import Derived.Test.YtikpnfnbmbaljaaKRay
import Derived.Test.YtikpnfnbmbaljaaJWrite3
namespace Go.Proofs.Ytikpnfnbmbaljaa
open Go.RowKit
set_option maxRecDepth 100000
theorem Try.infoN : (Try.prog.info? 72).map (fun i => (i.zero, i.size, i.bytes)) = some (some (.int .i64 0), 1, 8) := by kernel_rfl
/-- The slice v is the call's own, and its numbers are l. -/
def OwnN (w : World) (base : Nat) (v : Value) (l : List Int) : Prop := w.ownsRow base 72 1 v l.length (ivs l)
theorem OwnN.nil (w : World) (base : Nat) : OwnN w base (.slice none 0 0) [] := World.ownsRow_nil _ _ _ _
theorem OwnN.form {w : World} {base : Nat} {v : Value} {l : List Int} (h : OwnN w base v l) : ∃ ao cap, v = .slice ao l.length cap ∧ SrcI w ao l ∧ l.length ≤ cap ∧ (cap : Int) ≤ 9223372036854775807 ∧ (ao = none → cap = 0) := by
  obtain ⟨h1, h2⟩ := h
  rcases h2 with ⟨rfl, h3⟩ | ⟨g, cap, cur, rfl, hg, hh, hn, hm, hs, hx⟩
  · obtain rfl : l = [] := List.eq_nil_of_length_eq_zero h3
    exact ⟨none, 0, rfl, SrcI.nil _ _, by simp, by omega, fun _ => rfl⟩
  · refine ⟨some ⟨g, 0, none⟩, cap, rfl, .inr ⟨g, 0, rfl, (Array.getElem?_eq_some_iff.1 hh).1, fun j hj => ?_⟩, hn, by unfold maxLen at hm; omega, fun h => by cases h⟩
    rw [Nat.zero_add, cell_of_row w g j _ _ _ hh]
    have e : (cur.toList.take (l.length * 1))[j]? = (ivs l)[j]? := by rw [hx]
    rw [List.getElem?_take] at e
    simp only [Nat.mul_one, hj, if_true] at e
    simpa [ivs, hj] using e
theorem OwnN.lt {w : World} {base : Nat} {v : Value} {l : List Int} (h : OwnN w base v l) : ∀ k, v.ownBlock = some k → base ≤ k ∧ k < w.heap.size := World.ownsRow.lt h
theorem OwnN.below {w w' : World} {base B : Nat} {v : Value} {l : List Int} (h : OwnN w base v l) (hb : Below B w w') (hB : w.heap.size ≤ B) : OwnN w' base v l := by
  obtain ⟨h1, h2⟩ := h
  refine ⟨h1, ?_⟩
  rcases h2 with h2 | ⟨g, cap, cur, hv, hg, hh, r⟩
  · exact .inl h2
  · have hlt : g < w.heap.size := (Array.getElem?_eq_some_iff.1 hh).1
    exact .inr ⟨g, cap, cur, hv, hg, by rw [hb.block g (by omega)]; exact hh, r⟩
theorem OwnN.same {w w' : World} {base : Nat} {v : Value} {l : List Int} (h : OwnN w base v l) (hb : ∀ k, v.ownBlock = some k → w'.heap[k]? = w.heap[k]?) : OwnN w' base v l := by
  obtain ⟨h1, h2⟩ := h
  refine ⟨h1, ?_⟩
  rcases h2 with h2 | ⟨g, cap, cur, hv, hg, hh, r⟩
  · exact .inl h2
  · exact .inr ⟨g, cap, cur, hv, hg, by rw [hb g (by rw [hv]; rfl)]; exact hh, r⟩
set_option maxHeartbeats 1000000 in
theorem index_any (b off n c : Nat) (l : List Int) (x : Int) (i : Nat) (w : World) (hs : ∀ j, j < n → w.cell? ⟨b, off + j, none⟩ = some (.int .i64 (l.getD j 0))) (hm : (n : Int) ≤ 9223372036854775807) (hi : i < n) (hx : l.getD i 0 = x) (hne : ∀ j, j < i → ¬ x = l.getD j 0) :
    Calls Try.prog 86 #[.slice (some ⟨b, off, none⟩) n c, .int .i64 x] w fun e w' => e = .returned (.int .i64 (i : Int)) ∧ w' = w := by
  have HS : Hid _ := hs
  have HNE : Hid _ := hne
  have HX : Hid _ := hx
  clear hs hne hx
  go_enter Try.func86, Try.ntmps86
  go_wp2
  go_loop [8] (fun t => ∃ k : Nat, k ≤ i ∧ t = .int .i64 k) (fun t => n - (intOf t).toNat)
  case atStart => exact ⟨0, by omega, rfl⟩
  case round =>
    obtain ⟨k, hk, rfl⟩ := hrel
    have hkn : (k : Int) < n := by omega
    have c0 := HS.out k (by omega)
    by_cases hki : k = i
    · subst hki
      rw [HX.out] at c0
      go_wp2
      go_ret
      exact ⟨rfl, rfl⟩
    · have h2 : ¬ x = l.getD k 0 := HNE.out k (by omega)
      have h3 : (x == l.getD k 0) = false := beq_eq_false_iff_ne.2 h2
      generalize l.getD k 0 = y at *
      go_wp2
      go_round
      case rel => exact ⟨k + 1, by omega, by go_num⟩
      case measure => simp [intOf]; omega
theorem run_clear_one {P : Program} {w : World} (dT ty elem : TypeId) (hu : P.underlying dT = some (.slice elem)) (hz : (P.info? elem).map (·.zero) = some (some (.int .i64 0)))
    (g off dCap : Nat) (t : TypeId) (cur : Array Value) (hg : w.heap[g]? = some (.cells cur t (0, 0))) (hn : off < cur.size) :
    (Builtin.clear_ #[dT] ty #[.slice (some ⟨g, off, none⟩) 1 dCap]).run P w = .ok (.tuple #[]) (w.setRow g (cur.toList.take off ++ [Value.int .i64 0] ++ cur.toList.drop (off + 1)).toArray) := by
  have hst := run_storeCells_at P g off t [Value.int .i64 0] 0 cur w hg (by simp; omega) (fun v hv => by simp at hv; subst hv; rfl)
  have hzv : (zeroValue elem).run P w = .ok (.int .i64 0) w := by
    cases hq : P.info? elem with
    | none => simp [hq] at hz
    | some i =>
      have hi : i.zero = some (.int .i64 0) := by simpa [hq] using hz
      simp [zeroValue, typeInfo, hq, hi]
  have e : (Builtin.zeroCells (Value.int IntKind.i64 0).cells 1).toList = [Value.int .i64 0] := by
    have : (Builtin.zeroCells #[Value.int IntKind.i64 0] 1).toList = List.replicate 1 (Value.int .i64 0) := by
      simp only [Builtin.zeroCells]
      apply List.ext_getElem
      · simp
      · intro i h1 h2
        simp [Nat.mod_one]
    exact this
  simp [Builtin.clear_, run_underlying hu, hzv, e, hst]
theorem Try.zeroN : (Try.prog.info? 72).map (·.zero) = some (some (.int .i64 0)) := by kernel_rfl
theorem sizeN (w : World) : (sizeOf 72).run Try.prog w = .ok 1 w := by
  have h : (Try.prog.info? 72).map (·.size) = some 1 := by kernel_rfl
  cases hq : Try.prog.info? 72 with
  | none => simp [hq] at h
  | some i =>
    have hi : i.size = 1 := by simpa [hq] using h
    simp [sizeOf, typeInfo, hq, hi]
/-- The row behind a Delete of one place. -/
theorem del_row (cur : List Value) (l : List Int) (i m : Nat) (hl : l.length = m) (hi : i < m) (hx : cur.take m = ivs l) :
    ((cur.take i ++ ivs (l.drop (i + 1)) ++ cur.drop (i + (m - (i + 1)))).take (m - 1)) = ivs (l.eraseIdx i) := by
  have e1 : cur.take i = ivs (l.take i) := by
    rw [ivs_take, ← hx, List.take_take, Nat.min_eq_left (by omega)]
  rw [e1, ← ivs_append, List.take_append_of_le_length (by simp [ivs_length]; omega), List.take_of_length_le (by simp [ivs_length]; omega), List.eraseIdx_eq_take_drop_succ]
theorem run_appN {P : Program} {o : Oper} {a : Act} {w w' : World} {s x : Operand} {sv xv v : Value} (hop : o.op = .call { callee := .builtin .append, args := #[s, x], argTypes := #[58, 58] }) (hty : o.type = 58) (hs : a.eval s = sv) (hx : a.eval x = xv) (hL : (Builtin.append_ #[58, 58] 58 #[sv, xv]).run P w = .ok v w') : (execOp a.eval o).run P w = .ok (.value v) w' := by
  unfold execOp
  simp only [hop, hty, resolve, invoke, builtin]
  simp [hs, hx, hL, Result.andThen]
set_option maxHeartbeats 2000000 in
theorem delete_any (base g cap m i : Nat) (l : List Int) (w : World) (h : OwnN w base (.slice (some ⟨g, 0, none⟩) (m + 1) cap) l) (hl : l.length = m + 1) (hi : i < m + 1) (hcm : (cap : Int) ≤ 9223372036854775807) :
    Calls Try.prog 87 #[.slice (some ⟨g, 0, none⟩) (m + 1) cap, .int .i64 (i : Int), .int .i64 ((i : Int) + 1)] w fun e w' => e = .returned (.slice (some ⟨g, 0, none⟩) m cap) ∧ OwnN w' base (.slice (some ⟨g, 0, none⟩) m cap) (l.eraseIdx i) ∧ w.grownBy w' (some g) := by
  obtain ⟨i0, hi0, hz0, hz1, hz2⟩ := info_parts Try.infoN
  obtain ⟨h1, h2⟩ := h
  rcases h2 with ⟨h2, _⟩ | ⟨g', cap', cur, hv, hgb, hh, hn, hmx, hs, hx⟩
  · cases h2
  obtain ⟨rfl, rfl⟩ : g' = g ∧ cap' = cap := by simp only [Value.slice.injEq, Option.some.injEq, Addr.mk.injEq] at hv; exact ⟨hv.1.1.symm, hv.2.2.symm⟩
  clear hv
  rw [hl] at hn hx
  rw [Nat.mul_one] at hx hs
  have hcs : ∀ j u, (ivs (l.drop (i + 1)))[j]? = some u → w.drew.cell? ((if cap' = i + 1 then (⟨g', 0, none⟩ : Addr) else (⟨g', i + 1, none⟩ : Addr)).add j) = some u := by
    intro j u hj
    have hjl : j < l.length - (i + 1) := by
      have := (List.getElem?_eq_some_iff.1 hj).1
      simpa [ivs_length] using this
    rw [if_neg (by omega), addr_add]
    show w.cell? _ = _
    rw [cell_of_row w g' _ _ _ _ hh]
    have e : (cur.toList.take (m + 1))[i + 1 + j]? = (ivs l)[i + 1 + j]? := by rw [hx]
    rw [List.getElem?_take] at e
    rw [if_pos (by omega)] at e
    rw [← Array.getElem?_toList, e, ← hj, ivs_drop, List.getElem?_drop]
  have hel : Try.prog.elem 58 = 72 := by kernel_rfl
  have hs1 : ∀ W, (Instr.slice 58 (.slice (some ⟨g', 0, none⟩) (m + 1) cap') none (some (.int .i64 (i : Int))) none).run Try.prog W = .ok (.slice (some ⟨g', 0, none⟩) i cap') W := by
    intro W
    rw [run_slice_h W 58 _ _ _ (by kernel_rfl) .i64 _ (by omega) (by omega), hel, sizeN]
    simp [sliced, addr_add]
  have hs2 : ∀ W, (Instr.slice 58 (.slice (some ⟨g', 0, none⟩) (m + 1) cap') (some (.int .i64 ((i : Int) + 1))) none none).run Try.prog W = .ok (.slice (some (if cap' = i + 1 then (⟨g', 0, none⟩ : Addr) else (⟨g', i + 1, none⟩ : Addr))) (m - i) (cap' - (i + 1))) W := by
    intro W
    rw [run_slice_l W 58 _ _ _ (by kernel_rfl) .i64 _ (by omega) (by omega), hel, sizeN]
    rw [show ((i : Int) + 1).toNat = i + 1 by omega]
    simp only [Result.andThen_ok, sliced]
    split <;> simp [addr_add]
  have hs3 : ∀ W, (Instr.slice 58 (.slice (some ⟨g', 0, none⟩) m cap') (some (.int .i64 (m : Int))) (some (.int .i64 ((m : Int) + 1))) none).run Try.prog W = .ok (.slice (some ⟨g', m, none⟩) 1 (cap' - m)) W := by
    intro W
    rw [run_slice_lh W 58 _ _ _ (by kernel_rfl) .i64 .i64 _ _ (by omega) (by omega) (by omega), hel, sizeN]
    rw [show ((m : Int) + 1).toNat = m + 1 by omega, show ((m : Int)).toNat = m by omega]
    simp only [Result.andThen_ok, sliced]
    rw [if_neg (by omega)]
    simp [addr_add]
  have hs4 : ∀ W, (Instr.slice 58 (.slice (some ⟨g', 0, none⟩) (m + 1) cap') (some (.int .i64 (i : Int))) (some (.int .i64 ((i : Int) + 1))) (some (.int .i64 ((m : Int) + 1)))).run Try.prog W = .ok (sliced (some ⟨g', 0, none⟩) i (i + 1) (m + 1) 1) W := by
    intro W
    rw [run_slice_lhm W 58 _ _ _ (by kernel_rfl) .i64 .i64 .i64 _ _ _ (by omega) (by omega) (by omega) (by omega), hel, sizeN]
    rw [show ((i : Int) + 1).toNat = i + 1 by omega, show ((m : Int) + 1).toNat = m + 1 by omega, show ((i : Int)).toNat = i by omega]
    rfl
  generalize sliced (some ⟨g', 0, none⟩) i (i + 1) (m + 1) 1 = v13 at *
  have hap := run_append_room (P := Try.prog) w.drew 58 58 72 i0 Try.underlying58 hi0 g' i cap' cur hh (if cap' = i + 1 then (⟨g', 0, none⟩ : Addr) else (⟨g', i + 1, none⟩ : Addr)) (m - i) (cap' - (i + 1)) (ivs (l.drop (i + 1))) (by simp [ivs_length, hz1, hl]) hcs (ivs_one _) (by omega) (by simp [hz1, ivs_length, hl, hs]; omega)
  rw [hz1, Nat.mul_one, show i + (m - i) = m by omega] at hap
  clear hcs
  generalize (if cap' = i + 1 then (⟨g', 0, none⟩ : Addr) else (⟨g', i + 1, none⟩ : Addr)) = A25 at *
  obtain ⟨C1, hC1⟩ : ∃ C1, C1 = (cur.toList.take i ++ ivs (l.drop (i + 1)) ++ cur.toList.drop (i + (ivs (l.drop (i + 1))).length)).toArray := ⟨_, rfl⟩
  rw [← hC1] at hap
  have hC1s : C1.size = cap' := by
    rw [hC1]; simp [ivs_length, hl]
    rw [Array.length_toList, hs] at *
    omega
  have hrow1 : (w.drew.setRow g' C1).heap[g']? = some (.cells C1 72 (0, 0)) := setRow_heap w.drew g' _ _ _ _ hh
  have hcl := run_clear_one (P := Try.prog) (w := w.drew.setRow g' C1) 58 0 72 Try.underlying58 Try.zeroN g' m (cap' - m) _ C1 hrow1 (by omega)
  have hfin := setRow_heap (w.drew.setRow g' C1) g' _ (C1.toList.take m ++ [Value.int .i64 0] ++ C1.toList.drop (m + 1)).toArray _ _ hrow1
  have HT : Hid (C1.toList.take m = ivs (l.eraseIdx i)) := by
    show _ = _
    rw [hC1, List.toList_toArray, ivs_length, List.length_drop, hl]
    exact del_row cur.toList l i (m + 1) hl hi hx
  have HT2 : Hid ((C1.toList.take m ++ [Value.int .i64 0] ++ C1.toList.drop (m + 1)).take m = ivs (l.eraseIdx i)) := by
    show _ = _
    rw [List.append_assoc, List.take_append_of_le_length (by simp; omega), List.take_take, Nat.min_self]
    exact HT.out
  have HS2 : Hid ((C1.toList.take m ++ [Value.int .i64 0] ++ C1.toList.drop (m + 1)).toArray.size = cap') := by
    show _ = _
    simp; omega
  have HF : Hid _ := hfin
  have hneq : ((i : Int) == (i : Int) + 1) = false := beq_eq_false_iff_ne.2 (by omega)
  have HC : Hid (C1.size = cap') := hC1s
  have HI : Hid (base ≤ g' ∧ cap' ≤ maxLen) := ⟨hgb, hmx⟩
  have HLL : Hid (l.length = m + 1) := hl
  clear hx hh hz0 hz1 hz2 hi0 hC1 hs hrow1 hfin h1 hmx hgb hl hC1s
  obtain ⟨C2, hC2⟩ : ∃ C2, C2 = (C1.toList.take m ++ [Value.int .i64 0] ++ C1.toList.drop (m + 1)).toArray := ⟨_, rfl⟩
  have HT3 : Hid (C2.toList.take m = ivs (l.eraseIdx i)) := by rw [hC2]; exact HT2.out
  rw [← hC2] at hcl HF HS2
  clear hC2 HT2 HT
  go_enter Try.func87, Try.ntmps87
  go_wp2_with fail
  refine wp_region_held_drew (S := (fun _ => True)) (by kernel_rfl) trivial (fun hH => ?_)
  refine takeH (i := 0) (dst := some 20) (v := ?v1) rfl rfl (by kernel_rfl) (by kernel_rfl) (by kernel_rfl) (fun _ _ _ h => h) rfl ?hy1 hH rfl ?rest1
  case hy1 => (intro W hW; clear hW; go_simp; try with_reducible rfl)
  (try simp only [Act.put, List.setIfInBounds_toArray, List.set_cons_zero, List.set_cons_succ])
  refine takeH (i := 1) (dst := some 21) (v := ?v2) rfl rfl (by kernel_rfl) (by kernel_rfl) (by kernel_rfl) (fun _ _ _ h => h) rfl ?hy2 hH rfl ?rest2
  case hy2 => (intro W hW; clear hW; go_simp; try with_reducible rfl)
  (try simp only [Act.put, List.setIfInBounds_toArray, List.set_cons_zero, List.set_cons_succ])
  refine takeH (i := 2) (dst := some 22) (v := ?v3) rfl rfl (by kernel_rfl) (by kernel_rfl) (by kernel_rfl) (fun _ _ _ h => h) rfl ?hy3 hH rfl ?rest3
  case hy3 => (intro W hW; clear hW; go_simp; try with_reducible rfl)
  (try simp only [Act.put, List.setIfInBounds_toArray, List.set_cons_zero, List.set_cons_succ])
  refine takeH (i := 3) (dst := some 23) (v := ?v4) rfl rfl (by kernel_rfl) (by kernel_rfl) (by kernel_rfl) (fun _ _ _ h => h) rfl ?hy4 hH rfl ?rest4
  case hy4 => (intro W hW; clear hW; go_simp; try with_reducible rfl)
  (try simp only [Act.put, List.setIfInBounds_toArray, List.set_cons_zero, List.set_cons_succ])
  refine takeH (i := 4) (dst := some 24) (v := ?v5) rfl rfl (by kernel_rfl) (by kernel_rfl) (by kernel_rfl) (fun _ _ _ h => h) rfl ?hy5 hH rfl ?rest5
  case hy5 => (intro W hW; clear hW; go_simp; try with_reducible rfl)
  (try simp only [Act.put, List.setIfInBounds_toArray, List.set_cons_zero, List.set_cons_succ])
  refine takeH (i := 5) (dst := some 25) (v := ?v6) rfl rfl (by kernel_rfl) (by kernel_rfl) (by kernel_rfl) (fun _ _ _ h => h) rfl ?hy6 hH rfl ?rest6
  case hy6 => (intro W hW; clear hW; go_simp; try with_reducible rfl)
  (try simp only [Act.put, List.setIfInBounds_toArray, List.set_cons_zero, List.set_cons_succ])
  refine callH (i := 6) { dst := some 26, op := Go.Op.call { callee := Go.Callee.builtin Go.Builtin.append, args := #[Go.Operand.tmp 22, Go.Operand.tmp 25], argTypes := #[58, 58] }, type := 58, pos := "slices.go:232", after := #[{ on := 2, ground := Go.Ground.data }, { on := 5, ground := Go.Ground.data }], guard := none } (by kernel_rfl) rfl rfl (fun K hK => ?_)
  rw [if_pos (by rfl)]
  unfold Oper.wp
  rw [run_appN (s := .tmp 22) (x := .tmp 25) rfl rfl rfl rfl hap]
  clear hH
  refine hK.out _ _ trivial (fun hH => ?_)
  clear hK K
  (try simp only [Act.put, List.setIfInBounds_toArray, List.set_cons_zero, List.set_cons_succ])
  refine takeH (i := 7) (dst := some 0) (v := ?v7) rfl rfl (by kernel_rfl) (by kernel_rfl) (by kernel_rfl) (fun _ _ _ h => h) rfl ?hy7 hH rfl ?rest7
  case hy7 => (intro W hW; clear hW; go_simp; try with_reducible rfl)
  (try simp only [Act.put, List.setIfInBounds_toArray, List.set_cons_zero])
  refine wpAnyH_done (by kernel_rfl) ?_ _
  clear hH
  go_wp2
  go_ret
  have hlen : (l.eraseIdx i).length = m := by rw [List.length_eraseIdx, if_pos (by rw [HLL.out]; omega), HLL.out]; omega
  refine ⟨rfl, ⟨by simp [ivs_length], .inr ⟨g', cap', C2, by rw [hlen], HI.out.1, HF.out, by omega, HI.out.2, by rw [HS2.out, Nat.mul_one], by rw [hlen, Nat.mul_one]; exact HT3.out⟩⟩, ?_⟩
  refine ⟨rfl, rfl, rfl, by simp, fun k _ hk => ?_⟩
  have hne : k ≠ g' := fun e => hk (by rw [e])
  rw [setRow_other _ _ _ _ hne, setRow_other _ _ _ _ hne]
  rfl
end Go.Proofs.Ytikpnfnbmbaljaa
