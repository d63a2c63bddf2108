/- What Write of the disk leaves as it was; a disk under changes of other blocks. -/
import Derived.Test.YtaljaledeljllaaGreatNew
namespace Go.Proofs.YtaljaledeljllaaGreat
open Go.RowKit
set_option maxRecDepth 100000
/-- Of what was there nothing but the blocks S has changed. -/
structure Fr (S : Nat → Prop) (w w' : World) : Prop where
  size : w.heap.size ≤ w'.heap.size
  blk : ∀ k, k < w.heap.size → ¬ S k → w'.heap[k]? = w.heap[k]?
theorem Fr.refl (S : Nat → Prop) (w : World) : Fr S w w := ⟨Nat.le_refl _, fun _ _ _ => rfl⟩
theorem Fr.trans {S : Nat → Prop} {a b c : World} (h : Fr S a b) (k : Fr S b c) : Fr S a c := ⟨by have := h.size; have := k.size; omega, fun j hj hS => (k.blk j (by have := h.size; omega) hS).trans (h.blk j hj hS)⟩
theorem Fr.mono {S T : Nat → Prop} {a b : World} (h : Fr S a b) (hS : ∀ k, k < a.heap.size → S k → T k) : Fr T a b := ⟨h.size, fun k hk hT => h.blk k hk fun hs => hT (hS k hk hs)⟩
theorem Fr.of_below {S : Nat → Prop} {a b : World} (h : Below a.heap.size a b) : Fr S a b := ⟨h.size, fun k hk _ => h.block k hk⟩
theorem Fr.drew {S : Nat → Prop} {a b : World} (h : Fr S a b) : Fr S a b.drew := ⟨h.size, h.blk⟩
theorem Fr.of_edit {S : Nat → Prop} {a b : World} {q o len : Nat} (h : Edit a b q o len) (hq : S q) : Fr S a b := ⟨h.size, fun k hk hS => h.block k hk fun e => hS (by rw [e]; exact hq)⟩
theorem Fr.setCell {S : Nat → Prop} {a b : World} (h : Fr S a b) (p o : Nat) (v : Value) (hp : S p) : Fr S a (b.setCell ⟨p, o, none⟩ v) := ⟨by have := h.size; simp [World.setCell]; omega, fun k hk hS => (heap_setCell_other b ⟨p, o, none⟩ k v (fun e => hS (by rw [e]; exact hp))).trans (h.blk k hk hS)⟩
section
variable {w : World} {base p n : Nat} {en : Bool} {lf : Int} {sf : Nat → List UInt8} {ws : Nat → List (List UInt8)} {q : Nat} {vs : Nat → Value}
theorem write_app_fr (h2 : DiskAt w base p n en lf sf ws q vs) (i : Nat) (hi : i < n) (hwn : (ws i).length ≤ 1000000) (d : List UInt8) (hd : d.length = 256) :
    ∃ ao ac g cp w4, w.cell? ⟨q, i * 257 + 256, none⟩ = some (.slice ao (ws i).length ac) ∧ (Builtin.append_ #[112, 112] 112 #[.slice ao (ws i).length ac, .slice (some ⟨w.heap.size, 0, none⟩) 1 1]).run Tryz.prog (w.drew.alloc (.cells (bvs d).toArray 111)) = .ok (.slice (some ⟨g, 0, none⟩) ((ws i).length + 1) cp) w4 ∧
      w4.cell? ⟨q, i * 257 + 256, none⟩ = some (.slice ao (ws i).length ac) ∧ w4.frozen? ⟨q, i * 257 + 256, none⟩ = false ∧
      DiskAt (w4.setCell ⟨q, i * 257 + 256, none⟩ (.slice (some ⟨g, 0, none⟩) ((ws i).length + 1) cp)) base p n en lf sf (upd ws i (ws i ++ [d])) q (upd vs i (.slice (some ⟨g, 0, none⟩) ((ws i).length + 1) cp)) ∧
      Below base w (w4.setCell ⟨q, i * 257 + 256, none⟩ (.slice (some ⟨g, 0, none⟩) ((ws i).length + 1) cp)) ∧
      Fr (fun k => k = q ∨ (vs i).ownBlock = some k) w (w4.setCell ⟨q, i * 257 + 256, none⟩ (.slice (some ⟨g, 0, none⟩) ((ws i).length + 1) cp)) ∧ ((vs i).ownBlock = some g ∨ g = w.heap.size + 1) := by
  obtain ⟨i0, Z, hi0, hz0, hz1, hz2, hz3⟩ := Tryz.info111
  have hwo := (h2.wr i hi).1
  have c2 := (h2.row i hi).2.2
  obtain ⟨ao, ac, hvf⟩ := h2.len i hi
  have hb3 : Below w.heap.size w (w.drew.alloc (.cells (bvs d).toArray 111)) := (Below.refl _ _).drew.alloc (Nat.le_refl _) _
  have hz3' : (w.drew.alloc (.cells (bvs d).toArray 111)).heap.size = w.heap.size + 1 := by show (w.heap.push _).size = _; simp
  have hblk : (w.drew.alloc (.cells (bvs d).toArray 111)).heap[w.heap.size]? = some (.cells (bvs d).toArray 111 (0, 0)) := heap_alloc_new w.drew _
  obtain ⟨g, cp, w4, hrun, hown, hgrow, hat, hlt⟩ := run_append_lies (P := Tryz.prog) (w.drew.alloc (.cells (bvs d).toArray 111)) 112 112 base 111 i0 (.agg Z) 256 256 Tryz.underlying112 hi0 hz0 hz1 hz2 hz3 (by omega) (vs i) (ws i).length _ (owns_below hwo hb3 (Nat.le_refl _)) ⟨w.heap.size, 0, none⟩ 1 1 (bvs d) (by rw [bvs_length, hd]) (fun j u hj => by rw [addr_add, Nat.zero_add, cell_of_row _ _ j _ _ _ hblk]; simpa using hj) (bvs_one _) (by omega) (by unfold maxLen; omega) (by omega) (by have := h2.qb; have := h2.ql; omega) (w.heap.size + 1) hz3'
  obtain ⟨cA, fA, hD, hB⟩ := h2.appended i hi d hd hb3 hz3' hown hgrow hat
  have hFr : Fr (fun k => k = q ∨ (vs i).ownBlock = some k) w (w4.setCell ⟨q, i * 257 + 256, none⟩ (.slice (some ⟨g, 0, none⟩) ((ws i).length + 1) cp)) := by
    have hsz := hgrow.size
    refine ⟨by simp [World.setCell]; omega, fun k hk hS => ?_⟩
    rw [heap_setCell_other w4 ⟨q, i * 257 + 256, none⟩ k _ (fun e => hS (.inl e))]
    exact (hgrow.block k (by omega) (fun e => hS (.inr e.symm))).trans (hb3.block k hk)
  rw [hvf] at c2 cA hrun
  exact ⟨ao, ac, g, cp, w4, c2, hrun, cA, fA, hD, hB, hFr, hat⟩
set_option maxHeartbeats 2000000 in
set_option maxRecDepth 100000 in
theorem write_fr (h : DiskAt w base p n en lf sf ws q vs) (hl : 0 ≤ lf ∧ lf ≤ 9223372036854775807) (i : Nat) (hi : i < n) (hwn : (ws i).length ≤ 1000000) (d : List UInt8) (hd : d.length = 256) (bd od dc : Nat) (hs : Src w (some ⟨bd, od, none⟩) d) (hbp : bd ≠ p) (hg : goesB en lf = true) :
    Calls Tryz.prog 112 #[.pointer (some ⟨p, 0, none⟩), .int .i64 (i : Int), .slice (some ⟨bd, od, none⟩) 256 dc] w fun e w' => e = .returned (.int .i64 0) ∧ (∃ g c, DiskAt w' base p n en (goesL en lf) sf (upd ws i (ws i ++ [d])) q (upd vs i (.slice (some ⟨g, 0, none⟩) ((ws i).length + 1) c)) ∧ ((vs i).ownBlock = some g ∨ w.heap.size ≤ g)) ∧ Below base w w' ∧ Fr (fun k => k = p ∨ k = q ∨ (vs i).ownBlock = some k) w w' := by
  have FIND := find_any h i hi
  have GOES := goes_any h hl
  rw [hg] at GOES
  have harr := arr_at bd od dc
  have hrg : w.rangeAt bd od (bvs d) := fun j v hv => by
    have hj : j < (bvs d).length := (List.getElem?_eq_some_iff.1 hv).1
    rw [bvs_length] at hj
    rw [hs.cell j hj]
    rw [List.getElem?_eq_getElem (by rw [bvs_length]; exact hj)] at hv
    simpa [bvs] using hv
  go_enter Tryz.func112, Tryz.ntmps112
  go_wp2_with fail
  refine FIND.mono ?_
  rintro e w1 ⟨rfl, rfl⟩
  clear FIND
  go_wp2_with fail
  refine GOES.mono ?_
  rintro e w2 ⟨rfl, h2, hb2, hz2', hk2⟩
  clear GOES
  have hrg2 : w2.drew.rangeAt bd od (bvs d) := fun j v hv => (World.cell?_of_block (w := w1) (a := ⟨bd, od + j, none⟩) (hk2 bd hbp)).trans (hrg j v hv)
  have L56 := exec_load w2.drew bd od d hd hrg2
  have L56b := exec_load (w2.drew.alloc (.cells (bvs d).toArray 111)) bd od d hd (World.rangeAt_alloc hrg2 _)
  have B57 := build_img d hd w2.drew
  obtain ⟨ao, ac, g, cp, w4, c2, hrun, cA, fA, hD, hB, hFA, hat⟩ := write_app_fr h2 i hi hwn d hd
  have hB' := hb2.trans hB
  have hql := h2.ql
  have HFR : Hid (Fr (fun k => k = p ∨ k = q ∨ (vs i).ownBlock = some k) w1 (w4.setCell ⟨q, i * 257 + 256, none⟩ (.slice (some ⟨g, 0, none⟩) ((ws i).length + 1) cp))) := Fr.trans ⟨by omega, fun k _ hS => hk2 k fun e => hS (.inl e)⟩ (hFA.mono fun k _ h => .inr h)
  have HVO : Hid ((vs i).ownBlock = some g ∨ w1.heap.size ≤ g) := by
    rcases hat with h | h
    · exact .inl h
    · exact .inr (by omega)
  clear hFA hat
  have cB : (w2.drew.alloc (.cells (bvs d).toArray 111)).cell? ⟨q, i * 257 + 256, none⟩ = some (.slice ao (ws i).length ac) := (World.cell?_alloc_lt _ _ _ hql).trans c2
  have L57 := load57 w2.drew q (i * 257 + 256) _ c2
  have L57b := load57 (w2.drew.alloc (.cells (bvs d).toArray 111)) q (i * 257 + 256) _ cB
  clear hrg hrg2 h h2 hk2 hb2 hB hs
  generalize (bvs d).toArray = A at *
  go_wp2_with fail
  refine wp_region_any (by kernel_rfl) ?_
  change wpAny _ _ _ _ _ _ _ (World.drew _)
  refine take_op (i := 0) (dst := some 23) (v := .pointer (some ⟨q, i * 257, none⟩)) rfl rfl (by kernel_rfl) (by kernel_rfl) (by kernel_rfl) (fun _ _ _ h => h) rfl (fun _ => by go_simp) rfl ?_
  refine take_op (i := 1) (dst := some 24) (v := .pointer (some ⟨q, i * 257, none⟩)) rfl rfl (by kernel_rfl) (by kernel_rfl) (by kernel_rfl) (fun _ _ _ h => h) rfl (fun _ => by go_simp) rfl ?_
  refine take_op (i := 2) (dst := some 25) (v := .pointer (some ⟨q, i * 257, none⟩)) rfl rfl (by kernel_rfl) (by kernel_rfl) (by kernel_rfl) (fun _ _ _ h => h) rfl (fun _ => by go_simp) rfl ?_
  refine take_op (i := 3) (dst := some 26) (v := .pointer (some ⟨q, i * 257 + 256, none⟩)) rfl rfl (by kernel_rfl) (by kernel_rfl) (by kernel_rfl) (fun _ _ _ h => h) rfl (fun _ => by go_simp) rfl ?_
  refine take_op (i := 5) (dst := some 28) (v := .slice (some ⟨bd, od, none⟩) 256 dc) rfl rfl (by kernel_rfl) (by kernel_rfl) (by kernel_rfl) (fun _ _ _ h => h) rfl (fun _ => by go_simp) rfl ?_
  refine take_op (i := 6) (dst := some 29) (v := .pointer (some ⟨bd, od, none⟩)) rfl rfl (by kernel_rfl) (by kernel_rfl) (by kernel_rfl) (fun _ _ _ h => h) rfl (fun _ => by go_simp) rfl ?_
  simp only [Act.put, List.setIfInBounds_toArray, List.set_cons_succ, List.set_cons_zero]
  refine wpAny_ready (rs := [4, 7]) (by kernel_rfl) (by simp) ?_
  refine ready_run (v := .slice ao (ws i).length ac) (w' := w2.drew) (dst := some 27) rfl rfl rfl (run_load rfl rfl L57) rfl ?_ (ready_run (v := .agg A) (w' := w2.drew) (dst := some 30) rfl rfl rfl (run_load rfl rfl L56) rfl ?_ AllReady.nil)
  · simp only [Act.put, List.setIfInBounds_toArray, List.set_cons_succ, List.set_cons_zero]
    refine wpAny_ready (rs := [7]) (by kernel_rfl) (by simp) ?_
    refine ready_run (v := .agg A) (w' := w2.drew) (dst := some 30) rfl rfl rfl (run_load rfl rfl L56) rfl ?_ AllReady.nil
    simp only [Act.put, List.setIfInBounds_toArray, List.set_cons_succ, List.set_cons_zero]
    refine wpAny_ready (rs := [8]) (by kernel_rfl) (by simp) ?_
    refine ready_run (v := .slice (some ⟨w2.heap.size, 0, none⟩) 1 1) (w' := w2.drew.alloc (.cells A 111)) (dst := some 31) rfl rfl rfl (run_build rfl rfl B57) rfl ?_ AllReady.nil
    simp only [Act.put, List.setIfInBounds_toArray, List.set_cons_succ, List.set_cons_zero]
    refine wpAny_ready (rs := [9]) (by kernel_rfl) (by simp) ?_
    refine ready_run (v := .slice (some ⟨g, 0, none⟩) ((ws i).length + 1) cp) (w' := w4) (dst := some 32) rfl rfl rfl (run_app rfl rfl rfl rfl hrun) rfl ?_ AllReady.nil
    simp only [Act.put, List.setIfInBounds_toArray, List.set_cons_succ, List.set_cons_zero]
    refine take_op (i := 10) (dst := some 33) (v := .pointer (some ⟨q, i * 257, none⟩)) rfl rfl (by kernel_rfl) (by kernel_rfl) (by kernel_rfl) (fun _ _ _ h => h) rfl (fun _ => by go_simp) rfl ?_
    refine take_op (i := 11) (dst := some 34) (v := .pointer (some ⟨q, i * 257 + 256, none⟩)) rfl rfl (by kernel_rfl) (by kernel_rfl) (by kernel_rfl) (fun _ _ _ h => h) rfl (fun _ => by go_simp) rfl ?_
    simp only [Act.put, List.setIfInBounds_toArray, List.set_cons_succ, List.set_cons_zero]
    refine wpAny_ready (rs := [12]) (by kernel_rfl) (by simp) ?_
    refine AllReady.cons (o := { dst := none, op := Op.store 112 (Operand.tmp 34) (Operand.tmp 32), type := 0, pos := "disk.go:114", after := #[{ on := 11, ground := Ground.data }, { on := 9, ground := Ground.data }, { on := 9, ground := Ground.chain }, { on := 0, ground := Ground.phase }, { on := 1, ground := Ground.phase }, { on := 2, ground := Ground.phase }, { on := 3, ground := Ground.phase }, { on := 4, ground := Ground.phase }, { on := 5, ground := Ground.phase }, { on := 6, ground := Ground.phase }, { on := 7, ground := Ground.phase }, { on := 8, ground := Ground.phase }, { on := 9, ground := Ground.phase }], guard := none }) rfl (fun K hK => ?_) AllReady.nil
    go_simp
    refine hK _ _ ?_
    clear hK K
    refine wpAny_done (by kernel_rfl) ?_ _
    go_wp2
    go_ret
    exact ⟨rfl, ⟨g, cp, hD, HVO.out⟩, hB', HFR.out⟩
  · simp only [Act.put, List.setIfInBounds_toArray, List.set_cons_succ, List.set_cons_zero]
    refine wpAny_ready (rs := [4, 8]) (by kernel_rfl) (by simp) ?_
    refine ready_run (v := .slice ao (ws i).length ac) (w' := w2.drew) (dst := some 27) rfl rfl rfl (run_load rfl rfl L57) rfl ?_ (ready_run (v := .slice (some ⟨w2.heap.size, 0, none⟩) 1 1) (w' := w2.drew.alloc (.cells A 111)) (dst := some 31) rfl rfl rfl (run_build rfl rfl B57) rfl ?_ AllReady.nil)
    · simp only [Act.put, List.setIfInBounds_toArray, List.set_cons_succ, List.set_cons_zero]
      refine wpAny_ready (rs := [8]) (by kernel_rfl) (by simp) ?_
      refine ready_run (v := .slice (some ⟨w2.heap.size, 0, none⟩) 1 1) (w' := w2.drew.alloc (.cells A 111)) (dst := some 31) rfl rfl rfl (run_build rfl rfl B57) rfl ?_ AllReady.nil
      simp only [Act.put, List.setIfInBounds_toArray, List.set_cons_succ, List.set_cons_zero]
      refine wpAny_ready (rs := [9]) (by kernel_rfl) (by simp) ?_
      refine ready_run (v := .slice (some ⟨g, 0, none⟩) ((ws i).length + 1) cp) (w' := w4) (dst := some 32) rfl rfl rfl (run_app rfl rfl rfl rfl hrun) rfl ?_ AllReady.nil
      simp only [Act.put, List.setIfInBounds_toArray, List.set_cons_succ, List.set_cons_zero]
      refine take_op (i := 10) (dst := some 33) (v := .pointer (some ⟨q, i * 257, none⟩)) rfl rfl (by kernel_rfl) (by kernel_rfl) (by kernel_rfl) (fun _ _ _ h => h) rfl (fun _ => by go_simp) rfl ?_
      refine take_op (i := 11) (dst := some 34) (v := .pointer (some ⟨q, i * 257 + 256, none⟩)) rfl rfl (by kernel_rfl) (by kernel_rfl) (by kernel_rfl) (fun _ _ _ h => h) rfl (fun _ => by go_simp) rfl ?_
      simp only [Act.put, List.setIfInBounds_toArray, List.set_cons_succ, List.set_cons_zero]
      refine wpAny_ready (rs := [12]) (by kernel_rfl) (by simp) ?_
      refine AllReady.cons (o := { dst := none, op := Op.store 112 (Operand.tmp 34) (Operand.tmp 32), type := 0, pos := "disk.go:114", after := #[{ on := 11, ground := Ground.data }, { on := 9, ground := Ground.data }, { on := 9, ground := Ground.chain }, { on := 0, ground := Ground.phase }, { on := 1, ground := Ground.phase }, { on := 2, ground := Ground.phase }, { on := 3, ground := Ground.phase }, { on := 4, ground := Ground.phase }, { on := 5, ground := Ground.phase }, { on := 6, ground := Ground.phase }, { on := 7, ground := Ground.phase }, { on := 8, ground := Ground.phase }, { on := 9, ground := Ground.phase }], guard := none }) rfl (fun K hK => ?_) AllReady.nil
      go_simp
      refine hK _ _ ?_
      clear hK K
      refine wpAny_done (by kernel_rfl) ?_ _
      go_wp2
      go_ret
      exact ⟨rfl, ⟨g, cp, hD, HVO.out⟩, hB', HFR.out⟩
    · simp only [Act.put, List.setIfInBounds_toArray, List.set_cons_succ, List.set_cons_zero]
      refine wpAny_ready (rs := [4]) (by kernel_rfl) (by simp) ?_
      refine ready_run (v := .slice ao (ws i).length ac) (w' := w2.drew.alloc (.cells A 111)) (dst := some 27) rfl rfl rfl (run_load rfl rfl L57b) rfl ?_ AllReady.nil
      simp only [Act.put, List.setIfInBounds_toArray, List.set_cons_succ, List.set_cons_zero]
      refine wpAny_ready (rs := [9]) (by kernel_rfl) (by simp) ?_
      refine ready_run (v := .slice (some ⟨g, 0, none⟩) ((ws i).length + 1) cp) (w' := w4) (dst := some 32) rfl rfl rfl (run_app rfl rfl rfl rfl hrun) rfl ?_ AllReady.nil
      simp only [Act.put, List.setIfInBounds_toArray, List.set_cons_succ, List.set_cons_zero]
      refine take_op (i := 10) (dst := some 33) (v := .pointer (some ⟨q, i * 257, none⟩)) rfl rfl (by kernel_rfl) (by kernel_rfl) (by kernel_rfl) (fun _ _ _ h => h) rfl (fun _ => by go_simp) rfl ?_
      refine take_op (i := 11) (dst := some 34) (v := .pointer (some ⟨q, i * 257 + 256, none⟩)) rfl rfl (by kernel_rfl) (by kernel_rfl) (by kernel_rfl) (fun _ _ _ h => h) rfl (fun _ => by go_simp) rfl ?_
      simp only [Act.put, List.setIfInBounds_toArray, List.set_cons_succ, List.set_cons_zero]
      refine wpAny_ready (rs := [12]) (by kernel_rfl) (by simp) ?_
      refine AllReady.cons (o := { dst := none, op := Op.store 112 (Operand.tmp 34) (Operand.tmp 32), type := 0, pos := "disk.go:114", after := #[{ on := 11, ground := Ground.data }, { on := 9, ground := Ground.data }, { on := 9, ground := Ground.chain }, { on := 0, ground := Ground.phase }, { on := 1, ground := Ground.phase }, { on := 2, ground := Ground.phase }, { on := 3, ground := Ground.phase }, { on := 4, ground := Ground.phase }, { on := 5, ground := Ground.phase }, { on := 6, ground := Ground.phase }, { on := 7, ground := Ground.phase }, { on := 8, ground := Ground.phase }, { on := 9, ground := Ground.phase }], guard := none }) rfl (fun K hK => ?_) AllReady.nil
      go_simp
      refine hK _ _ ?_
      clear hK K
      refine wpAny_done (by kernel_rfl) ?_ _
      go_wp2
      go_ret
      exact ⟨rfl, ⟨g, cp, hD, HVO.out⟩, hB', HFR.out⟩
theorem fr_cell {S : Nat → Prop} {w' : World} (h : Fr S w w') {a : Addr} (ha : a.block < w.heap.size) (hS : ¬ S a.block) : w'.cell? a = w.cell? a := World.cell?_of_block (w := w) (h.blk _ ha hS)
theorem fr_frozen {S : Nat → Prop} {w' : World} (h : Fr S w w') {a : Addr} (ha : a.block < w.heap.size) (hS : ¬ S a.block) : w'.frozen? a = w.frozen? a := World.frozen?_of_block (w := w) (h.blk _ ha hS)
/-- The blocks of a disk. -/
def Dk (p q n : Nat) (vs : Nat → Value) : Nat → Prop := fun k => k = p ∨ k = q ∨ ∃ i, i < n ∧ (vs i).ownBlock = some k
/-- A disk is as it was where none of its blocks changes. -/
theorem DiskAt.fr (h : DiskAt w base p n en lf sf ws q vs) {S : Nat → Prop} {w' : World} (hf : Fr S w w') (hS : ∀ k, Dk p q n vs k → ¬ S k) : DiskAt w' base p n en lf sf ws q vs := by
  have hp := h.pl
  have hq := h.ql
  have sp := hS p (.inl rfl)
  have sq := hS q (.inr (.inl rfl))
  have hs := hf.size
  exact {
    pb := h.pb, qb := h.qb, pq := h.pq, nn := h.nn,
    c0 := h.c0.imp fun _ hc => ⟨hc.1, hc.2.1, (fr_cell hf (a := ⟨p, 0, none⟩) hp sp).trans hc.2.2⟩,
    c1 := (fr_cell hf (a := ⟨p, 1, none⟩) hp sp).trans h.c1,
    c2 := (fr_cell hf (a := ⟨p, 2, none⟩) hp sp).trans h.c2,
    fp := fun o => (fr_frozen hf (a := ⟨p, o, none⟩) hp sp).trans (h.fp o),
    fq := fun o => (fr_frozen hf (a := ⟨q, o, none⟩) hq sq).trans (h.fq o),
    ql := by omega,
    row := fun i hi => by
      obtain ⟨h1, h2, h3⟩ := h.row i hi
      exact ⟨fun j v hv => (fr_cell hf (a := ⟨q, i * 257 + j, none⟩) hq sq).trans (h1 j v hv), h2, (fr_cell hf (a := ⟨q, i * 257 + 256, none⟩) hq sq).trans h3⟩,
    wr := fun i hi => by
      obtain ⟨h1, h2, h3, h4⟩ := h.wr i hi
      refine ⟨?_, h2, h3, h4⟩
      obtain ⟨g1, g2⟩ := h1
      refine ⟨g1, ?_⟩
      rcases g2 with g2 | ⟨g, cap, cur, hv, hg, hh, rest⟩
      · exact .inl g2
      · have hlt : g < w.heap.size := (Array.getElem?_eq_some_iff.1 hh).1
        exact .inr ⟨g, cap, cur, hv, hg, by rw [hf.blk g hlt (hS g (.inr (.inr ⟨i, hi, by rw [hv]; rfl⟩)))]; exact hh, rest⟩,
    ap := h.ap }
end
end Go.Proofs.YtaljaledeljllaaGreat
