/- Package patch: image. -/
import Derived.Test.YtaljaledeljllaaGreatPallow
import Derived.Deep.RegionWith
namespace Go.Proofs.YtaljaledeljllaaGreat
open Go.RowKit
set_option maxRecDepth 100000
theorem Tryz.zeroA : ∃ Z : Array Value, (∀ w, (zeroValue 110).run Tryz.prog w = .ok (.agg Z) w) ∧ Z.size = 256 ∧ (Tryz.prog.info? 110).map (·.size) = some 256 ∧ Hid (Z = (bvs (List.replicate 256 0)).toArray) := by
  have h : (Tryz.prog.info? 110).map (fun i => (i.zero, i.size)) = some (some (.agg (bvs (List.replicate 256 0)).toArray), 256) := by kernel_rfl
  obtain ⟨h1, h2⟩ := zero_of_info h
  exact ⟨_, h1, by rw [List.size_toArray, bvs_length, List.length_replicate], h2, rfl⟩
/-- The load of a whole content. -/
theorem wpList_load_arr {ops : Array Oper} {rest : List Oper} {op : Oper} {a : Act} {w : World} {Q : Exit → Act → World → Prop} (hgd : op.guard = none) (x : Operand) (ho : op.op = .load 110 x)
    (b o : Nat) (hx : a.eval x = .pointer (some ⟨b, o, none⟩)) (s : List UInt8) (hc : w.rangeAt b o (bvs s)) (hs : s.length = 256)
    (h : wpList Tryz.prog ops Q rest (a.put op.dst (.agg (bvs s).toArray)) w) : wpList Tryz.prog ops Q (op :: rest) a w := by
  obtain ⟨Z, _, _, hinfo, _⟩ := Tryz.zeroA
  exact wpList_load_mid hgd 110 x ho b o hx _ _ hc Tryz.underlying110 rfl (by rw [hinfo, bvs_length, hs]) h
theorem load_arr {w : World} {b o : Nat} {s : List UInt8} (hc : w.rangeAt b o (bvs s)) (hs : s.length = 256) : (Instr.loadAt 110 (.pointer (some ⟨b, o, none⟩))).run Tryz.prog w = .ok (.agg (bvs s).toArray) w := by
  obtain ⟨Z, _, _, hinfo, _⟩ := Tryz.zeroA
  exact run_loadAt_mid w b o 110 (bvs s) _ hc Tryz.underlying110 rfl (by rw [hinfo, bvs_length, hs])
theorem wpList_store_arr {ops : Array Oper} {rest : List Oper} {op : Oper} {a : Act} {w : World} {Q : Exit → Act → World → Prop} (hgd : op.guard = none) (x y : Operand) (ho : op.op = .store 110 x y)
    (g : Nat) (cur : Array Value) (s : List UInt8) (hx : a.eval x = .pointer (some ⟨g, 0, none⟩)) (hy : a.eval y = .agg (bvs s).toArray)
    (hg : w.heap[g]? = some (.cells cur 110 (0, 0))) (hc : cur.size = 256) (hs : s.length = 256)
    (h : ∀ w', Blk w' g 110 s → Below g w w' → w'.heap.size = w.heap.size → wpList Tryz.prog ops Q rest (a.put op.dst undef) w') : wpList Tryz.prog ops Q (op :: rest) a w := by
  obtain ⟨Z, _, _, hinfo, _⟩ := Tryz.zeroA
  refine wpList_plain hgd fun K hK => ?_
  have hsz : (bvs s).toArray.size = 256 := by rw [List.size_toArray, bvs_length, hs]
  have hrun := run_storeVar_row (P := Tryz.prog) w g 110 110 cur (bvs s).toArray hg (by rw [hinfo, hsz]) (by rw [hc, hsz]) (all_oneCell_toArray (bvs_one _))
  unfold Oper.wp execOp
  simp only [ho, hx, hy, Instr.storeAt, Instr.sureAddr, Sem.run_bind, Sem.run_pure, Result.andThen_ok, hrun]
  exact hK _ _ (h _ (setRow_heap w g _ _ 110 _ hg) (below_setRow (Below.refl _ _) (Nat.le_refl _) _) (by simp))

section
variable {w w' w0 : World} {base : Nat} {s s' s0 : PSt} {ops ops' : Nat → List Int}
set_option maxHeartbeats 4000000 in
theorem image_any (h : PM w base s ops) {b : Bk} (hb : b ∈ s.B) (S : List Ch) (sp : Option Addr) (c : Nat) (hs : SrcI w sp (cids S)) (hS : ∀ x ∈ S, x ∈ s.C ∧ s.fC x.id = x.q + 1 ∧ (x.id : Int) ≤ 1000000 ∧ fits x ∧ 1 ≤ x.d.length) (hlen : S.length ≤ 1000000) :
    Calls Tryz.prog 75 #[.pointer (some ⟨s.p, 0, none⟩), .pointer (some ⟨b.q, 0, none⟩), .slice sp S.length c] w fun e w' => ∃ g, e = .returned (.slice (some ⟨g, 0, none⟩) 256 256) ∧ Blk w' g 110 (lays b.ba S) ∧ w.heap.size ≤ g ∧ Below w.heap.size w w' := by
  have hbk := h.bk b hb
  have HRG : Hid (w.rangeAt b.q 0 (bvs b.ba)) := hbk.range
  have HL1 : Hid (b.ba.length = 256) := hbk.l1
  obtain ⟨Z, hz, hzs, hinfo, HZ⟩ := Tryz.zeroA
  clear HZ hinfo
  have HH : Hid (PM w base s ops) := h
  have HSS : Hid (∀ x ∈ S, x ∈ s.C ∧ s.fC x.id = x.q + 1 ∧ (x.id : Int) ≤ 1000000 ∧ fits x ∧ 1 ≤ x.d.length) := hS
  have HS : Hid (SrcI w sp (cids S)) := hs
  obtain ⟨n, hn⟩ : ∃ n, n = S.length := ⟨_, rfl⟩
  have HN : Hid (n = S.length) := hn
  rw [← hn] at hlen ⊢
  have HB3 : Hid (Below w.heap.size w (w.alloc (.cells Z 110))) := (Below.refl _ _).alloc (Nat.le_refl _) _
  clear h hs hS hn hbk
  go_enter Tryz.func75, Tryz.ntmps75
  go_upto_region 2 with (first | ((with_reducible show wpList _ _ _ ({ dst := _, op := Op.load 110 _, type := _, pos := _, after := _, guard := _ } :: _) _ _); refine wpList_load_arr rfl (.tmp 12) rfl b.q 0 rfl b.ba HRG.out HL1.out ?_) | ((with_reducible show wpList _ _ _ ({ dst := _, op := Op.store 110 _ _, type := _, pos := _, after := _, guard := _ } :: _) _ _); refine wpList_store_arr rfl (.tmp 7) (.tmp 13) rfl w.heap.size Z b.ba rfl rfl (heap_alloc_new _ _) hzs HL1.out ?_; intro w3 hg3 hb3 hz3; have HW3 : Hid (Blk w3 w.heap.size 110 b.ba ∧ Below w.heap.size w w3) := ⟨hg3, HB3.out.trans hb3⟩; clear hg3 hb3 hz3))
  go_wp2
  go_loopg [9, 16] n (fun gg _ s16 W => ∃ (gw : World) (k : Nat), gw = W ∧ k ≤ n ∧ n - k ≤ gg ∧ s16 = .int .i64 k ∧ Hid (Blk gw w.heap.size 110 (lays b.ba (S.take k)) ∧ Below w.heap.size w gw))
  case atStart => exact ⟨_, 0, rfl, by omega, by omega, rfl, HW3⟩
  case round =>
    clear HW3
    obtain ⟨gw, k, rfl, hk, hgg, rfl, HW⟩ := hrel
    by_cases hlt : k < n
    · have hkl : k < S.length := by rw [← HN.out]; exact hlt
      have hltz : (k : Int) < (n : Int) := by omega
      obtain ⟨x, hx⟩ : ∃ x, x = S[k] := ⟨_, rfl⟩
      have hxS : x ∈ S := by rw [hx]; exact List.getElem_mem hkl
      obtain ⟨hxC, hfx, hid, hfit, hdl⟩ := HSS.out x hxS
      have PW := HH.out.up HW.out.2
      obtain ⟨g0, off, rfl, hg0, hcc⟩ : ∃ b off, sp = some ⟨b, off, none⟩ ∧ b < w.heap.size ∧ ∀ j, j < (cids S).length → w.cell? ⟨b, off + j, none⟩ = some (.int .i64 ((cids S).getD j 0)) := by
        rcases HS.out with h0 | h1
        · have h2 : (cids S).length = 0 := by rw [h0]; rfl
          rw [show (cids S).length = S.length by simp [cids]] at h2
          omega
        · exact h1
      have ck : gw.cell? ⟨g0, off + k, none⟩ = some (.int .i64 (x.id : Int)) := by
        rw [hx, ← cids_get S k hkl]; exact (HW.out.2.cell (p := ⟨g0, off + k, none⟩) hg0).trans (hcc k (by simp [cids]; omega))
      have c3 := PW.c3
      have LK := (PW.up (w' := gw.drew) ((Below.refl _ _).drew)).lookC (x.id : Int) (by omega)
      rw [hfx] at LK
      simp only [ptrV] at LK
      have hca := PW.ch x hxC
      obtain ⟨da, dc, hdv, hdsrc, _, _, _⟩ := hca.dat.form
      obtain ⟨gd, od, rfl, hgd, hdc⟩ := hdsrc.at' (by omega)
      have hod : od = 0 := by
        rcases hca.dat.2 with ⟨h2, _⟩ | ⟨g', cap', cur, hv, _⟩
        · rw [hdv] at h2; cases h2
        · rw [hdv] at hv
          simp only [Value.slice.injEq, Option.some.injEq, Addr.mk.injEq] at hv
          exact hv.1.2.1
      subst hod
      have d1 := hca.c1
      have d2 := hca.c2
      rw [hdv] at d2
      have LY := lay_any x.q w.heap.size gd x.fr 256 dc 110 (lays b.ba (S.take k)) x.d [] gw.drew d1 d2 (hdsrc.below ((Below.refl gw.heap.size gw).drew) (Nat.le_refl _)) hdl hfit (by rw [List.append_nil]; exact HW.out.1) (lays_length HL1.out fun c hc => (HSS.out c (List.mem_of_mem_take hc)).2.2.2.1) (Nat.le_refl _)
      rw [List.append_nil] at LY
      have HNX : Hid (lays b.ba (S.take (k + 1)) = layB (lays b.ba (S.take k)) x.fr x.d) := by
        rw [List.take_add_one, List.getElem?_eq_getElem hkl, Option.toList_some, lays_append, ← hx]; exact (rfl : _ = _)
      have HX : Hid _ := hca
      clear hx hxS PW hcc hca hdsrc hdc hfit hdl hid hdv d1 d2 hxC hfx hgd
      go_wp2
      go_region_with (go_at_call 84; refine LY.mono ?_; rintro e w' ⟨rfl, hr2, hf2, hb2⟩; have HR2 : Hid _ := And.intro hr2 (And.intro hf2 hb2); clear hr2 hf2 hb2)
      go_wp2
      go_roundg (n - (k + 1))
      case measure => omega
      case rel =>
        refine ⟨_, k + 1, rfl, by omega, by omega, by go_num, ?_, HW.out.2.trans ((Below.refl _ _).drew.trans HR2.out.2.2)⟩
        rw [HNX.out]
        exact HR2.out.1
    · have hltz : ¬ (k : Int) < (n : Int) := by omega
      have hkn : k = n := by omega
      subst hkn
      have HO2 : Hid (Blk gw w.heap.size 110 (lays b.ba S)) := by
        have := HW.out.1
        rw [HN.out, List.take_of_length_le (Nat.le_refl _)] at this
        exact this
      go_wp2
      go_ret
      exact ⟨_, rfl, HO2.out, Nat.le_refl _, HW.out.2⟩
end
end Go.Proofs.YtaljaledeljllaaGreat
