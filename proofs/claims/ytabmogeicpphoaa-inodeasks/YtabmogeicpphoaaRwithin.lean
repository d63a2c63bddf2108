/- leveeref07.Within. -/
import Derived.Test.YtabmogeicpphoaaWithin
namespace Go.Proofs.Ytabmogeicpphoaa
open Go.RowKit
/-- What Within has laid. -/
structure WR (w0 : World) (a i n : Int) (b o : Nat) (N : List Int) (W : World) : Prop where
  lies : Lies w0 w0.heap.size a i n W
  cell : ∀ j, j < N.length → W.cell? ⟨b, o + j, none⟩ = some (.int .i64 (N.getD j 0))
  lt : b < W.heap.size
theorem WR.up {w0 W W' : World} {a i n : Int} {b o : Nat} {N : List Int} (h : WR w0 a i n b o N W) (hb : Below W.heap.size W W') : WR w0 a i n b o N W' :=
  ⟨lies_up h.lies hb, fun j hj => (hb.cell (p := ⟨b, o + j, none⟩) h.lt).trans (h.cell j hj), by have := hb.size; have := h.lt; omega⟩
theorem mem_step {N : List Int} {x : Int} {j : Nat} (h : j < N.length) : decide (¬ x ∈ N.take (j + 1)) = (decide (¬ x ∈ N.take j) && !(N.getD j 0 == x)) := by
  rw [getD_at h, List.take_succ_eq_append_getElem h, Bool.eq_iff_iff]
  simp only [decide_eq_true_eq, Bool.and_eq_true, List.mem_append, List.mem_cons, List.not_mem_nil, or_false, not_or, Bool.not_eq_true', beq_eq_false_iff_ne]
  exact ⟨fun ⟨a, b⟩ => ⟨a, fun e => b e.symm⟩, fun ⟨a, b⟩ => ⟨a, fun e => b e.symm⟩⟩
set_option maxRecDepth 100000 in
set_option maxHeartbeats 4000000 in
theorem rwithin_any (a i n : Int) (t : Ino) (hn : t.ns.length = 8) (w : World) :
    Calls Try.prog 24 #[.agg #[.int .i64 a, .int .i64 i, .int .i64 n], .agg (iA t)] w fun e w' => e = .returned (.bool (wiB a i n (nz t.ns))) ∧ Below w.heap.size w w' := by
  have hb0 : Below w.heap.size w ((w.alloc (.cells #[.int .i64 a, .int .i64 i, .int .i64 n] 37)).alloc (.cells (iA t) 24)) := ((Below.refl _ _).alloc (Nat.le_refl _) _).alloc (by simp) _
  have HL0 : Hid (Lies w w.heap.size a i n ((w.alloc (.cells #[.int .i64 a, .int .i64 i, .int .i64 n] 37)).alloc (.cells (iA t) 24))) := ⟨by go_simp, by go_simp, by go_simp, hb0⟩
  have HI0 : Hid (InoAt ((w.alloc (.cells #[.int .i64 a, .int .i64 i, .int .i64 n] 37)).alloc (.cells (iA t) 24)) (w.heap.size + 1) t) := by
    have := ino_new (w.alloc (.cells #[.int .i64 a, .int .i64 i, .int .i64 n] 37)) t hn
    rw [show (w.alloc (.cells #[.int .i64 a, .int .i64 i, .int .i64 n] 37)).heap.size = w.heap.size + 1 by simp] at this
    exact this
  have NM := rnames_any t hn
  have HLN : Hid ((nz t.ns).length ≤ 8) := by have := nz_len t.ns; show _ ≤ _; omega
  have RT := rright_any a i n
  clear hb0
  generalize nz t.ns = N at *
  go_enter Try.func24, Try.ntmps24
  go_wp2_with (first | ((with_reducible show wpList _ _ _ ({ dst := _, op := Op.load 24 _, type := _, pos := _, after := _, guard := _ } :: _) _ _); refine wpList_load_ino rfl _ rfl (HI0.out) rfl ?_))
  refine (NM _).mono ?_
  rintro e w1 ⟨v, rfl, hv, h1⟩
  have HL1 : Hid _ := lies_up HL0.out h1
  have HV1 : Hid (OwnI w1 w.heap.size v N) := hv.mono (by simp; omega)
  clear HL0 HI0 NM hv h1
  obtain ⟨ao, cap, rfl, _, _, hcap, _⟩ := HV1.out.form
  have q0 := HL1.out.1; have q1 := HL1.out.2.1; have q2 := HL1.out.2.2.1
  go_upto_region 2 with fail
  go_wp2_with fail
  refine (RT _).mono ?_
  rintro e w2 ⟨rfl, h2⟩
  have HL2 : Hid _ := lies_up HL1.out h2
  have HV2 : Hid (OwnI w2 w.heap.size (.slice ao N.length cap) N) := HV1.out.below h2 (Nat.le_refl _)
  clear HL1 HV1 RT h2 q0 q1 q2
  by_cases hN : N.length = 0
  · have e0 : N = [] := List.eq_nil_of_length_eq_zero hN
    subst e0
    have HF : Hid (okB a i n = wiB a i n []) := by show _ = _; unfold wiB; simp [k4, nodB]
    have HB := HL2.out.2.2.2
    generalize okB a i n = ok at *
    go_wp2
    refine wp_loop_rounds 1 ?_
    rw [rounds_succ]
    go_wp2
    go_ret
    exact ⟨ret_bool HF.out, HB⟩
  obtain ⟨b, o, hao, hbl, hc⟩ : ∃ b o, ao = some ⟨b, o, none⟩ ∧ b < w2.heap.size ∧ ∀ j, j < N.length → w2.cell? ⟨b, o + j, none⟩ = some (.int .i64 (N.getD j 0)) := by
    obtain ⟨ao', cap', he, hs, _⟩ := HV2.out.form
    cases he
    rcases hs with h | h
    · rw [h] at hN; simp at hN
    · exact h
  subst hao
  have HW2 : Hid (WR w a i n b o N w2) := ⟨HL2.out, hc, hbl⟩
  have HKD : Hid _ := rkind_any a i n
  have HOB : Hid (∀ B, (okB a i n && (k4 a i n N && nodB N)) = B → Ending.returned (.bool B) = .returned (.bool (wiB a i n N))) := fun B h => by rw [← h]; rfl
  generalize okB a i n = ok at *
  clear HL2 HV2 hc hbl
  go_wp2_with fail
  go_loopw [6, 7] (fun s u wr => ∃ k : Nat, k ≤ N.length ∧ u = .int .i64 k ∧ s = .bool (ok && (k4 a i n (N.take k) && nodB (N.take k))) ∧ WR w a i n b o N wr) (fun _ u _ => N.length - (intOf u).toNat)
  case atStart => exact ⟨0, by omega, rfl, by simp [k4, nodB], HW2.out⟩
  case round =>
    obtain ⟨k, hk, rfl, rfl, hwr⟩ := hrel
    have HWR : Hid _ := hwr
    clear hwr HW2
    have hl8 := HLN.out
    by_cases hlt : (k : Int) < N.length
    · have HK4 : Hid _ := k4_step (a := a) (i := i) (n := n) (N := N) (k := k) (by omega)
      have HND : Hid _ := nod_step (N := N) (k := k) (by omega)
      have KD := HKD.out (N.getD k 0)
      obtain ⟨x, HX⟩ : ∃ x, Hid (x = N.getD k 0) := ⟨_, rfl⟩
      rw [← HX.out] at KD HK4 HND
      generalize hA : k4 a i n (N.take k) = A at *
      generalize hB : nodB (N.take k) = B at *
      generalize kindV a i n x = KV at *
      have gd := HWR.out.up (Below.refl _ _).drew
      go_upto_region 6 with fail
      refine wp_region_held_drew (S := (fun W => WR w a i n b o N W)) (by kernel_rfl) gd (fun hH => ?_)
      refine takeH (i := 0) (dst := some 22) (v := ?v1) rfl rfl (by kernel_rfl) (by kernel_rfl) (by kernel_rfl) (fun _ _ _ h => h) rfl ?hy1 hH rfl ?rest1
      case hy1 => (intro W hW; have q0 := hW.lies.1; have q1 := hW.lies.2.1; have q2 := hW.lies.2.2.1; have qk := hW.cell k (by omega); rw [← HX.out] at qk; clear hW; go_simp; try with_reducible rfl)
      (try simp only [Act.put, List.setIfInBounds_toArray, List.set_cons_zero, List.set_cons_succ])
      refine takeH (i := 1) (dst := some 23) (v := ?v2) rfl rfl (by kernel_rfl) (by kernel_rfl) (by kernel_rfl) (fun _ _ _ h => h) rfl ?hy2 hH rfl ?rest2
      case hy2 => (intro W hW; have q0 := hW.lies.1; have q1 := hW.lies.2.1; have q2 := hW.lies.2.2.1; have qk := hW.cell k (by omega); rw [← HX.out] at qk; clear hW; go_simp; try with_reducible rfl)
      (try simp only [Act.put, List.setIfInBounds_toArray, List.set_cons_zero, List.set_cons_succ])
      refine takeH (i := 2) (dst := some 24) (v := ?v3) rfl rfl (by kernel_rfl) (by kernel_rfl) (by kernel_rfl) (fun _ _ _ h => h) rfl ?hy3 hH rfl ?rest3
      case hy3 => (intro W hW; have q0 := hW.lies.1; have q1 := hW.lies.2.1; have q2 := hW.lies.2.2.1; have qk := hW.cell k (by omega); rw [← HX.out] at qk; clear hW; go_simp; try with_reducible rfl)
      (try simp only [Act.put, List.setIfInBounds_toArray, List.set_cons_zero, List.set_cons_succ])
      refine takeH (i := 3) (dst := some 25) (v := ?v4) rfl rfl (by kernel_rfl) (by kernel_rfl) (by kernel_rfl) (fun _ _ _ h => h) rfl ?hy4 hH rfl ?rest4
      case hy4 => (intro W hW; have q0 := hW.lies.1; have q1 := hW.lies.2.1; have q2 := hW.lies.2.2.1; have qk := hW.cell k (by omega); rw [← HX.out] at qk; clear hW; go_simp; try with_reducible rfl)
      (try simp only [Act.put, List.setIfInBounds_toArray, List.set_cons_zero, List.set_cons_succ])
      refine takeH (i := 4) (dst := some 26) (v := ?v5) rfl rfl (by kernel_rfl) (by kernel_rfl) (by kernel_rfl) (fun _ _ _ h => h) rfl ?hy5 hH rfl ?rest5
      case hy5 => (intro W hW; have q0 := hW.lies.1; have q1 := hW.lies.2.1; have q2 := hW.lies.2.2.1; have qk := hW.cell k (by omega); rw [← HX.out] at qk; clear hW; go_simp; try with_reducible rfl)
      (try simp only [Act.put, List.setIfInBounds_toArray, List.set_cons_zero, List.set_cons_succ])
      refine callH (i := 5) { dst := some 27, op := Go.Op.call { callee := Go.Callee.value (Go.Operand.func 57), args := #[Go.Operand.tmp 22, Go.Operand.tmp 26], argTypes := #[37, 3] }, type := 74, pos := "ref.go:92", after := #[{ on := 0, ground := Go.Ground.data }, { on := 4, ground := Go.Ground.data }], guard := none } (by kernel_rfl) rfl rfl (fun K hK => ?_)
      go_simp
      refine (KD _).mono ?_
      rintro e v6 ⟨rfl, k6⟩
      have m6 := gd.up k6
      clear k6
      clear hH
      refine hK.out _ _ m6 (fun hH => ?_)
      clear hK K
      (try simp only [Act.put, List.setIfInBounds_toArray, List.set_cons_zero, List.set_cons_succ])
      refine takeH (i := 6) (dst := some 21) (v := ?v6) rfl rfl (by kernel_rfl) (by kernel_rfl) (by kernel_rfl) (fun _ _ _ h => h) rfl ?hy6 hH rfl ?rest6
      case hy6 => (intro W hW; have q0 := hW.lies.1; have q1 := hW.lies.2.1; have q2 := hW.lies.2.2.1; have qk := hW.cell k (by omega); rw [← HX.out] at qk; clear hW; go_simp; try with_reducible rfl)
      (try simp only [Act.put, List.setIfInBounds_toArray, List.set_cons_zero, List.set_cons_succ])
      refine takeH (i := 7) (dst := some 28) (v := ?v7) rfl rfl (by kernel_rfl) (by kernel_rfl) (by kernel_rfl) (fun _ _ _ h => h) rfl ?hy7 hH rfl ?rest7
      case hy7 => (intro W hW; have q0 := hW.lies.1; have q1 := hW.lies.2.1; have q2 := hW.lies.2.2.1; have qk := hW.cell k (by omega); rw [← HX.out] at qk; clear hW; go_simp; try with_reducible rfl)
      (try simp only [Act.put, List.setIfInBounds_toArray, List.set_cons_zero, List.set_cons_succ])
      refine takeH (i := 8) (dst := some 29) (v := ?v8) rfl rfl (by kernel_rfl) (by kernel_rfl) (by kernel_rfl) (fun _ _ _ h => h) rfl ?hy8 hH rfl ?rest8
      case hy8 => (intro W hW; have q0 := hW.lies.1; have q1 := hW.lies.2.1; have q2 := hW.lies.2.2.1; have qk := hW.cell k (by omega); rw [← HX.out] at qk; clear hW; go_simp; try with_reducible rfl)
      (try simp only [Act.put, List.setIfInBounds_toArray, List.set_cons_zero, List.set_cons_succ])
      refine takeH (i := 9) (dst := some 8) (v := ?v9) rfl rfl (by kernel_rfl) (by kernel_rfl) (by kernel_rfl) (fun _ _ _ h => h) rfl ?hy9 hH rfl ?rest9
      case hy9 => (intro W hW; have q0 := hW.lies.1; have q1 := hW.lies.2.1; have q2 := hW.lies.2.2.1; have qk := hW.cell k (by omega); rw [← HX.out] at qk; clear hW; go_simp; try with_reducible rfl)
      (try simp only [Act.put, List.setIfInBounds_toArray, List.set_cons_zero, List.set_cons_succ])
      refine takeH (i := 10) (dst := some 9) (v := ?v10) rfl rfl (by kernel_rfl) (by kernel_rfl) (by kernel_rfl) (fun _ _ _ h => h) rfl ?hy10 hH rfl ?rest10
      case hy10 => (intro W hW; have q0 := hW.lies.1; have q1 := hW.lies.2.1; have q2 := hW.lies.2.2.1; have qk := hW.cell k (by omega); rw [← HX.out] at qk; clear hW; go_simp; try with_reducible rfl)
      (try simp only [Act.put, List.setIfInBounds_toArray, List.set_cons_zero, List.set_cons_succ])
      refine wpAnyH_done (by kernel_rfl) ?_ _
      clear hH
      have HM : Hid _ := m6
      clear m6 gd HWR KD
      go_upto_region 7 with fail
      go_cut [6] (fun s wc => s = .bool ((ok && (A && B)) && (KV == 4)) ∧ wc = v6)
      case first =>
        generalize (ok && (A && B)) = OB at *
        cases OB
        · go_wp2
          go_meet
          case rel => exact ⟨rfl, rfl⟩
        · go_wp2
          go_meet
          case rel => exact ⟨by simp, rfl⟩
      case rest =>
        obtain ⟨rfl, hwc⟩ := hcut
        rw [hwc]
        clear hwc wc
        obtain ⟨OB, HO⟩ : ∃ OB, Hid (OB = ((ok && (A && B)) && (KV == 4))) := ⟨_, rfl⟩
        rw [← HO.out]
        go_wp2_with fail
        go_loopw [6, 10] (fun s u wr => ∃ (j d : Nat), j ≤ k ∧ u = .int .i64 j ∧ s = .bool (OB && decide (¬ x ∈ N.take j)) ∧ wr = v6.drewN d) (fun _ u _ => k - (intOf u).toNat)
        case atStart => exact ⟨0, 0, by omega, rfl, by simp, rfl⟩
        case round =>
          obtain ⟨j, d, hj, rfl, rfl, rfl⟩ := hrel
          by_cases hjk : (j : Int) < k
          · have HMS : Hid _ := mem_step (N := N) (x := x) (j := j) (by omega)
            have hd : ∀ m, Below v6.heap.size v6 (v6.drewN m) := fun m => below_drewN (Below.refl _ _) m
            have k1 : ∀ m, (v6.drewN m).cell? ⟨b, o + j, none⟩ = some (.int .i64 (N.getD j 0)) := fun m => ((hd m).cell (p := ⟨b, o + j, none⟩) HM.out.lt).trans (HM.out.cell j (by omega))
            have k2 : ∀ m, (v6.drewN m).cell? ⟨b, o + k, none⟩ = some (.int .i64 x) := fun m => by rw [HX.out]; exact ((hd m).cell (p := ⟨b, o + k, none⟩) HM.out.lt).trans (HM.out.cell k (by omega))
            have hjn : (j : Int) < N.length := by omega
            generalize N.getD j 0 = y at *
            generalize hMJ : decide (¬ x ∈ N.take j) = MJ at *
            generalize hOM : (OB && MJ) = OM at *
            cases OM
            · go_wp2
              go_quiet (fail)
              go_wp2
              go_roundw
              case rel => exact ⟨j + 1, _, by omega, by go_num, congrArg Value.bool (by rw [HMS.out, ← Bool.and_assoc, hOM]; rfl), rfl⟩
              case measure => simp [intOf]; omega
            · by_cases hyx : y = x
              · go_wp2
                go_quiet (fail)
                go_wp2
                go_roundw
                case rel => exact ⟨j + 1, _, by omega, by go_num, congrArg Value.bool (by rw [HMS.out, ← Bool.and_assoc, hOM, hyx]; simp), rfl⟩
                case measure => simp [intOf]; omega
              · have hyb : (y == x) = false := by simpa using hyx
                go_wp2
                go_quiet (fail)
                go_wp2
                go_roundw
                case rel => exact ⟨j + 1, _, by omega, by go_num, congrArg Value.bool (by rw [HMS.out, ← Bool.and_assoc, hOM]; simp [bne]), rfl⟩
                case measure => simp [intOf]; omega
          · obtain rfl : j = k := by omega
            have HW7 : Hid (WR w a i n b o N (v6.drewN d)) := HM.out.up (below_drewN (Below.refl _ _) d)
            have HQ : Hid ((OB && decide (¬ x ∈ N.take j)) = (ok && (k4 a i n (N.take (j + 1)) && nodB (N.take (j + 1))))) := by
              show _ = _
              rw [HK4.out, HND.out, HO.out]
              cases ok <;> cases A <;> cases B <;> simp [Bool.and_comm]
            generalize (OB && decide (¬ x ∈ N.take j)) = Z at *
            clear HM
            go_wp2
            go_roundw
            case rel => exact ⟨j + 1, by omega, by go_num, congrArg Value.bool HQ.out, HW7.out⟩
            case measure => simp [intOf]; omega
    · have hk' : k = N.length := by omega
      subst hk'
      rw [List.take_of_length_le (Nat.le_refl _)]
      have HB := HWR.out.lies.2.2.2
      generalize hZ : (ok && (k4 a i n N && nodB N)) = Z at *
      go_wp2
      go_ret
      exact ⟨HOB.out _ rfl, HB⟩
end Go.Proofs.Ytabmogeicpphoaa
