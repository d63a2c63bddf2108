/- The document's store: Patch. -/
import Derived.Test.YtanelcdeekichaaGreatJRwr2
import Derived.ArgAppend
namespace Go.Proofs.YtanelcdeekichaaGreat
open Go.RowKit
set_option maxRecDepth 100000
/-- append(nil, after...): a row of one's own. -/
theorem app_copy {w : World} {asp : Option Addr} {after : List Int} (hs : SrcI w asp after) (ac : Nat) (hl : after.length ≤ 1000000) (ty : TypeId) :
    ∃ v' w', (Builtin.append_ #[37, 37] ty #[.slice none 0 0, .slice asp after.length ac]).run Tryz.prog w = .ok v' w' ∧ OwnL w' w.heap.size v' after ∧ Below w.heap.size w w' := by
  obtain ⟨i0, hi, hz0, hz1, hz2⟩ := info_parts Tryz.infoL
  rcases hs with rfl | ⟨b, o, rfl, hb, hc⟩
  · refine ⟨.slice none 0 0, w, ?_, OwnL.nil _ _, Below.refl _ _⟩
    cases asp <;> simp [Builtin.append_, run_underlying Tryz.underlying37, sizeOf, typeInfo, hi, Builtin.lenOf, Builtin.firstCells, loadCells, loadCellsFrom]
  · obtain ⟨v', w', hr, hown, hg, _⟩ := run_append_own (P := Tryz.prog) w w.heap.size 37 ty 2 i0 _ 1 8 Tryz.underlying37 hi hz0 hz1 hz2 rfl (by decide) (.slice none 0 0) 0 [] (World.ownsRow_nil _ _ _ _) ⟨b, o, none⟩ after.length ac (ivs after) (by rw [ivs_length, Nat.mul_one]) (fun j u hj => by
        have hjl : j < after.length := by have := (List.getElem?_eq_some_iff.1 hj).1; rwa [ivs_length] at this
        rw [addr_add, hc j hjl, ← hj]
        simp [ivs, List.getD_eq_getElem?_getD, hjl]) (fun u hu => by
        obtain ⟨x, _, rfl⟩ := List.mem_map.1 hu
        rfl) (by unfold maxLen; omega) (by omega) (Nat.le_refl _)
    refine ⟨v', w', hr, ?_, (Below.refl _ _).grown hg (Nat.le_refl _) (fun k hk => by cases hk)⟩
    unfold OwnL
    rw [Nat.zero_add, List.nil_append] at hown
    exact hown
theorem allH_run {P : Program} {ops : Array Oper} {md : Region.Mode} {Q : Exit → Act → World → Prop} {S : World → Prop} {i : Nat} {o : Oper} {v : Value} {dst : Option Tmp} {fuel : Nat} {listed l2 : Array Bool} {a : Act} {w w' : World} {rs : List Nat} (ho : ops[i]? = some o) (hd : o.dst = dst) (hw : Region.wanted o (yielded ops a.tmps) = true)
    (hrun : (execOp a.eval o).run P w = .ok (.value v) w') (hl : listed.setIfInBounds i true = l2) (hS : S w') (h : wpAnyH P md ops Q S fuel l2 (a.put dst v) w') (hs : AllReadyH P md ops Q S fuel listed a w rs) : AllReadyH P md ops Q S fuel listed a w (i :: rs) :=
  AllReadyH.cons ho (fun K hK => by
    rw [if_pos hw]
    unfold Oper.wp
    rw [hrun]
    exact hK.out _ _ hS (fun _ => by rw [hd, hl]; exact h)) hs
theorem run_lenT {o : Oper} {a : Act} {w : World} {s : Operand} {ao : Option Addr} {n c : Nat} (hop : o.op = .call { callee := .builtin .len, args := #[s], argTypes := #[41] }) (hs : a.eval s = .slice ao n c) : (execOp a.eval o).run Tryz.prog w = .ok (.value (.int .i64 (n : Int))) w := by
  unfold execOp
  simp only [hop, resolve, invoke, builtin]
  simp [hs, Builtin.len_, run_underlying Tryz.underlying41, goInt]
theorem run_slice3 {o : Oper} {a : Act} {w : World} {s x y : Operand} {ao : Option Addr} {n c : Nat} (hop : o.op = .slice 41 s none (some x) (some y)) (hs : a.eval s = .slice ao n c) (hx : a.eval x = .int .i64 (n : Int)) (hy : a.eval y = .int .i64 (n : Int)) (hc : (n : Int) ≤ (c : Int)) (ha : ao = none ∨ ∃ g, ao = some ⟨g, 0, none⟩) : (execOp a.eval o).run Tryz.prog w = .ok (.value (.slice ao n n)) w := by
  unfold execOp
  simp only [hop, hs, Option.map_some, Option.map_none, hx, hy]
  clear hop hs hx hy
  rcases ha with rfl | ⟨g, rfl⟩
  · go_simp
  · go_simp
theorem wpList_apprun {ops : Array Oper} {rest : List Oper} {o : Oper} {a : Act} {w w' : World} {Q : Exit → Act → World → Prop} (hgd : o.guard = none) (s x : Operand) (t : TypeId) (ho : o.op = .call { callee := .builtin .append, args := #[s, x], argTypes := #[t, t] }) {sv xv v : Value} (hs : a.eval s = sv) (hx : a.eval x = xv)
    (hr : (Builtin.append_ #[t, t] o.type #[sv, xv]).run Tryz.prog w = .ok v w') (h : wpList Tryz.prog ops Q rest (a.put o.dst v) w') : wpList Tryz.prog ops Q (o :: rest) a w := by
  refine wpList_plain hgd fun K hK => ?_
  unfold Oper.wp execOp
  simp only [ho, resolve, invoke, builtin]
  simp [hs, hx, hr, Result.andThen]
  exact hK _ _ h
theorem run_appT {P : Program} {o : Oper} {a : Act} {w w' : World} {s x : Operand} {t : TypeId} {sv xv v : Value} (hop : o.op = .call { callee := .builtin .append, args := #[s, x], argTypes := #[t, t] }) (hty : o.type = t) (hs : a.eval s = sv) (hx : a.eval x = xv) (hL : (Builtin.append_ #[t, t] t #[sv, xv]).run P w = .ok v w') : (execOp a.eval o).run P w = .ok (.value v) w' := by
  unfold execOp
  simp only [hop, hty, resolve, invoke, builtin]
  simp [hs, hx, hL, Result.andThen]
/-- A change more behind a list that has no room: a row of one's own. -/
theorem app_full {w : World} {ao : Option Addr} {ca : Nat} {L : List RCh} (h : LAt w ao ca L) (ha : ao = none ∨ ∃ g, ao = some ⟨g, 0, none⟩) (hl : L.length ≤ 1000) (c : RCh) (g cc : Nat) (hc : ∀ j u, (rcL c)[j]? = some u → w.cell? ⟨g, j, none⟩ = some u) (ty : TypeId) :
    ∃ G cap w', (Builtin.append_ #[41, 41] ty #[.slice ao L.length L.length, .slice (some ⟨g, 0, none⟩) 1 cc]).run Tryz.prog w = .ok (.slice (some ⟨G, 0, none⟩) (L.length + 1) cap) w' ∧ LAt w' (some ⟨G, 0, none⟩) cap (L ++ [c]) ∧ w.heap.size ≤ G ∧ Below w.heap.size w w' := by
  obtain ⟨i0, z, hi, hz0, hz1, hz2, hz3⟩ := infoC_parts
  have h1c : ∀ u ∈ rcL c, u.oneCell' = true := fun u hu => by simp [rcL] at hu; rcases hu with rfl | rfl | rfl | rfl | rfl | rfl <;> rfl
  have key : ∀ G cap w', w'.ownsRow w.heap.size 160 6 (.slice (some ⟨G, 0, none⟩) (L.length + 1) cap) (L.length + 1) (rcs L ++ rcL c) → LAt w' (some ⟨G, 0, none⟩) cap (L ++ [c]) ∧ w.heap.size ≤ G := fun G cap w' ho => by
    refine lat_of_own (L := L ++ [c]) (base := w.heap.size) ?_
    rw [List.length_append, rcs_snoc]
    exact ho
  have rcl : ∀ (L : List RCh), (rcs L).length = L.length * 6 := fun L => by
    induction L with
    | nil => rfl
    | cons a L ih =>
      have e : rcs (a :: L) = rcL a ++ rcs L := rfl
      rw [e, List.length_append, ih, List.length_cons]
      show 6 + _ = _
      omega
  rcases ha with rfl | ⟨g0, rfl⟩
  · have hL : L = [] := by
      rcases h.cells with e | ⟨g, e, _⟩
      · exact e
      · cases e
    subst hL
    obtain ⟨G, cap, w', hr, hown, hg, _, _⟩ := run_append_lies (P := Tryz.prog) w 41 ty w.heap.size 160 i0 z 6 72 Tryz.underlying41 hi hz0 hz2 hz3 hz1 (by decide) (.slice none 0 0) 0 [] (World.ownsRow_nil _ _ _ _) ⟨g, 0, none⟩ 1 cc (rcL c) rfl (fun j u hj => by rw [addr_add, Nat.zero_add]; exact hc j u hj) h1c (by omega) (by unfold maxLen; omega) (by omega) (Nat.le_refl _) _ rfl
    obtain ⟨k1, k2⟩ := key G cap w' (by simpa [rcs] using hown)
    exact ⟨G, cap, w', by simpa using hr, k1, k2, (Below.refl _ _).grown hg (Nat.le_refl _) (fun k hk => by cases hk)⟩
  · have hcells : ∀ j u, (rcs L)[j]? = some u → w.cell? ⟨g0, 0 + j, none⟩ = some u := fun j u hj => by
      rw [Nat.zero_add]
      rcases h.cells with e | ⟨g', e, hgl, hcc⟩
      · rw [e] at hj; cases hj
      · cases e
        have hjl : j < L.length * 6 := by have := (List.getElem?_eq_some_iff.1 hj).1; rwa [rcl] at this
        obtain ⟨x, hx⟩ : ∃ x, L[j / 6]? = some x := ⟨_, List.getElem?_eq_getElem (by omega)⟩
        obtain ⟨y, hy⟩ : ∃ y, (rcL x)[j % 6]? = some y := ⟨_, List.getElem?_eq_getElem (by show _ < 6; omega)⟩
        have e1 := rcs_get L (j / 6) x hx (j % 6) y hy
        rw [show j / 6 * 6 + j % 6 = j by omega] at e1
        rw [e1] at hj
        have e2 := hcc (j / 6) x hx (j % 6) y hy
        rw [show j / 6 * 6 + j % 6 = j by omega] at e2
        rw [e2]
        exact hj
    obtain ⟨v', w', hr, hown, hg⟩ := run_append_arg_grows (P := Tryz.prog) w 41 ty 160 i0 z 6 72 Tryz.underlying41 hi hz0 hz2 hz3 hz1 (by decide) ⟨g0, 0, none⟩ L.length L.length (rcs L) (rcl L) (fun j u hj => by rw [addr_add]; exact hcells j u hj) ⟨g, 0, none⟩ 1 cc (rcL c) rfl (fun j u hj => by rw [addr_add, Nat.zero_add]; exact hc j u hj) (by omega) (by unfold maxLen; omega) (by omega)
    obtain ⟨G, cap, rfl⟩ : ∃ G cap, v' = .slice (some ⟨G, 0, none⟩) (L.length + 1) cap := by
      rcases hown.2 with ⟨_, h0⟩ | ⟨g', cap, cur, hv, _⟩
      · omega
      · exact ⟨g', cap, hv⟩
    obtain ⟨k1, k2⟩ := key G cap w' hown
    exact ⟨G, cap, w', hr, k1, k2, (Below.refl _ _).grown hg (Nat.le_refl _) (fun k hk => by cases hk)⟩
section
variable {w : World} {q d gB cB : Nat} {B : List (List UInt8)} {ao : Option Addr} {ca : Nat} {L : List RCh} {last : Nat}
set_option maxHeartbeats 1000000 in
theorem rspatch_out (h : RAt w q d (.slice (some ⟨gB, 0, none⟩) B.length cB) ao ca L last) (hB : BAt w gB cB B) (n : Int) (hn : (decide (0 ≤ n) && decide (n < (B.length : Int))) = false) (fr : Int) (x y : Value) :
    Calls Tryz.prog 55 #[.pointer (some ⟨q, 0, none⟩), .int .i64 n, .int .i64 fr, x, y] w fun e w' => e = .returned (.tuple #[.int .i64 0, .int .i64 3]) ∧ w' = w := by
  have TH := rthere_any h hB n
  rw [hn] at TH
  clear h hB hn
  go_enter Tryz.func55, Tryz.ntmps55
  go_wp2_with (first | (go_at_call 100; refine TH.mono ?_; rintro r w1 ⟨rfl, rfl⟩))
  go_ret2
  exact ⟨rfl, rfl⟩
set_option maxHeartbeats 4000000 in
theorem rspatch_size (h : RAt w q d (.slice (some ⟨gB, 0, none⟩) B.length cB) ao ca L last) (hB : BAt w gB cB B) (n : Int) (hn : (decide (0 ≤ n) && decide (n < (B.length : Int))) = true) (fr : Int) (hfr : -9223372036854775808 ≤ fr ∧ fr ≤ 9223372036854775807) (sp : Option Addr) (m dc : Nat) (hm : (m : Int) ≤ 9223372036854775807) (hbad : m = 0 ∨ fr < 0 ∨ 256 < fr ∨ 256 - fr < (m : Int)) (y : Value) :
    Calls Tryz.prog 55 #[.pointer (some ⟨q, 0, none⟩), .int .i64 n, .int .i64 fr, .slice sp m dc, y] w fun e w' => e = .returned (.tuple #[.int .i64 0, .int .i64 4]) ∧ w' = w := by
  have TH := rthere_any h hB n
  rw [hn] at TH
  clear h hB hn
  go_enter Tryz.func55, Tryz.ntmps55
  by_cases h0 : m = 0
  · subst h0
    go_wp2_with (first | (go_at_call 100; refine TH.mono ?_; rintro r w1 ⟨rfl, rfl⟩))
    go_ret2
    exact ⟨rfl, rfl⟩
  · have hm0 : ¬ (m : Int) = 0 := by omega
    have hm0b : ((m : Int) == 0) = false := by simpa using hm0
    by_cases h1 : fr < 0
    · go_wp2_with (first | (go_at_call 100; refine TH.mono ?_; rintro r w1 ⟨rfl, rfl⟩))
      go_ret2
      exact ⟨rfl, rfl⟩
    · by_cases h2 : 256 < fr
      · go_wp2_with (first | (go_at_call 100; refine TH.mono ?_; rintro r w1 ⟨rfl, rfl⟩))
        go_ret2
        exact ⟨rfl, rfl⟩
      · have h3 : 256 - fr < (m : Int) := by omega
        clear hbad
        go_wp2_with (first | (go_at_call 100; refine TH.mono ?_; rintro r w1 ⟨rfl, rfl⟩))
        go_ret2
        exact ⟨rfl, rfl⟩
set_option maxHeartbeats 8000000 in
theorem rspatch_go (h : RAt w q d (.slice (some ⟨gB, 0, none⟩) B.length cB) ao ca L last) (hB : BAt w gB cB B) (ha : ao = none ∨ ∃ g, ao = some ⟨g, 0, none⟩) (hl : L.length ≤ 1000) (hla : last ≤ 1000000) (n fr : Nat) (hn : n < B.length) (data : List UInt8) (sp : Option Addr) (dc : Nat) (hds : Src w sp data) (hd1 : 1 ≤ data.length) (hf : fr + data.length ≤ 256) (after : List Int) (asp : Option Addr) (ac : Nat) (has : SrcI w asp after) (hal : after.length ≤ 1000) (hkn : ∀ i ∈ after, 1 ≤ i ∧ i ≤ (last : Int)) (hg : ∀ g, ao = some ⟨g, 0, none⟩ → g ≠ q) (hsq : ∀ b o, sp = some ⟨b, o, none⟩ → b ≠ q) (haq : ∀ b o, asp = some ⟨b, o, none⟩ → b ≠ q) :
    Calls Tryz.prog 55 #[.pointer (some ⟨q, 0, none⟩), .int .i64 (n : Int), .int .i64 (fr : Int), .slice sp data.length dc, .slice asp after.length ac] w fun e w' => e = .returned (.tuple #[.int .i64 ((last + 1 : Nat) : Int), .int .i64 0]) ∧ ∃ G cap ap' ac', RAt w' q d (.slice (some ⟨gB, 0, none⟩) B.length cB) (some ⟨G, 0, none⟩) cap (L ++ [⟨last + 1, n, fr, data, ap', after, ac', false⟩]) (last + 1) ∧ w.heap.size ≤ G ∧ SrcI w' ap' after ∧ after.length ≤ ac' ∧ (ac' : Int) ≤ 9223372036854775807 ∧ (∀ b o, ap' = some ⟨b, o, none⟩ → w.heap.size ≤ b) ∧ Fr (fun k => k = q) w w' := by
  have TH := rthere_any h hB (n : Int)
  rw [decide_eq_true (by omega), decide_eq_true (by omega)] at TH
  have HR : Hid (RAt w q d (.slice (some ⟨gB, 0, none⟩) B.length cB) ao ca L last) := h
  have hql : q < w.heap.size := (Array.getElem?_eq_some_iff.1 h.at').1
  have HNE : Hid ((∀ g, ao = some ⟨g, 0, none⟩ → g ≠ q) ∧ (∀ b o, sp = some ⟨b, o, none⟩ → b ≠ q) ∧ (∀ b o, asp = some ⟨b, o, none⟩ → b ≠ q) ∧ (ao = none ∨ ∃ g, ao = some ⟨g, 0, none⟩) ∧ q < w.heap.size) := ⟨hg, hsq, haq, ha, hql⟩
  have HDS : Hid (Src w sp data) := hds
  have HAS : Hid (SrcI w asp after ∧ ∀ i ∈ after, 1 ≤ i ∧ i ≤ (last : Int)) := ⟨has, hkn⟩
  have hca : (ca : Int) ≤ 9223372036854775807 ∧ L.length ≤ ca := ⟨h.ls.cap.2, h.ls.cap.1⟩
  have q3 := h.c3
  clear hg hsq haq ha hds has hkn h hB
  obtain ⟨m, hmd⟩ : ∃ m, m = data.length := ⟨_, rfl⟩
  have HMD : Hid (m = data.length) := hmd
  rw [← hmd] at hd1 hf ⊢
  clear hmd
  obtain ⟨ma, hma⟩ : ∃ ma, ma = after.length := ⟨_, rfl⟩
  have HMA : Hid (ma = after.length) := hma
  rw [← hma] at hal ⊢
  clear hma
  have hf' : (fr : Int) ≤ 256 - (m : Int) := by omega
  have hm0 : ¬ (m : Int) = 0 := by omega
  have hm0b : ((m : Int) == 0) = false := by simpa using hm0
  have hfr2 : ¬ (256 : Int) < (fr : Int) := by omega
  have hfr3 : ¬ (256 : Int) - (fr : Int) < (m : Int) := by omega
  go_enter Tryz.func55, Tryz.ntmps55
  go_wp2_with (first | (go_at_call 100; refine TH.mono ?_; rintro r w1 ⟨rfl, hw1⟩; obtain rfl : w = w1 := hw1.symm))
  clear TH
  go_loopg [12] 1000 (fun gg t12 W => ∃ (gw : World) (k : Nat), gw = W ∧ k ≤ ma ∧ ma - k ≤ gg ∧ t12 = .int .i64 k ∧ Hid (Below w.heap.size w gw))
  case atStart => exact ⟨_, 0, rfl, by omega, by omega, rfl, Below.refl _ _⟩
  case round =>
    obtain ⟨gw, k, rfl, hk, hgk, rfl, HG⟩ := hrel
    by_cases hlt : (k : Int) < (ma : Int)
    · obtain ⟨b, o, x, rfl, hx, hx1, hx2⟩ : ∃ b o x, asp = some ⟨b, o, none⟩ ∧ gw.cell? ⟨b, o + k, none⟩ = some (.int .i64 x) ∧ 1 ≤ x ∧ x ≤ (last : Int) := by
        have hkl : k < after.length := by have := HMA.out; omega
        rcases HAS.out.1 with e | ⟨b, o, e, hl, hc⟩
        · rw [e] at hkl; cases hkl
        · have h1 := HAS.out.2 _ (getD_mem' hkl)
          exact ⟨b, o, _, e, (HG.out.cell (p := ⟨b, o + k, none⟩) hl).trans (hc k hkl), h1.1, h1.2⟩
      have q3g := (HG.out.cell (p := ⟨q, 3, none⟩) hql).trans q3
      have hx3 : ¬ x < 1 := by omega
      have hx4 : ¬ (last : Int) < x := by omega
      go_upto_region 8 with fail
      go_quiet (fail)
      have HGN : Hid (Below w.heap.size w (gw.drewN nq)) := HG.out.trans ((belowN (Below.refl _ _) nq).mono HG.out.size)
      go_wp2_with fail
      go_roundg (ma - (k + 1))
      case measure => omega
      case rel => exact ⟨_, k + 1, rfl, by omega, by omega, by go_num, HGN.out⟩
    · obtain rfl : ma = k := by omega
      have HAT : Hid (gw.heap[q]? = some (.cells #[.pointer (some ⟨d, 0, none⟩), .slice (some ⟨gB, 0, none⟩) B.length cB, .slice ao L.length ca, .int .i64 (last : Int)] 43 (0, 0))) := (HR.out.up HG.out).at'
      have q3g := (HG.out.cell (p := ⟨q, 3, none⟩) hql).trans q3
      have fz3 : gw.frozen? ⟨q, 3, none⟩ = false := frozen_of_row _ _ _ _ _ HAT.out
      have HF1 : Hid (Fr (fun k => k = q) w (gw.setCell ⟨q, 3, none⟩ (.int .i64 ((last : Int) + 1)))) := (Fr.of_below HG.out).setCell q 3 _ rfl
      have HA1 : Hid ((gw.setCell ⟨q, 3, none⟩ (.int .i64 ((last : Int) + 1))).heap[q]? = some (.cells #[.pointer (some ⟨d, 0, none⟩), .slice (some ⟨gB, 0, none⟩) B.length cB, .slice ao L.length ca, .int .i64 ((last : Int) + 1)] 43 (0, 0))) := heap_setCell_same gw q 3 _ _ (.int .i64 ((last : Int) + 1)) HAT.out
      go_upto_region 11 with fail
      clear q3 q3g fz3 HAT
      generalize gw.setCell ⟨q, 3, none⟩ (.int .i64 ((last : Int) + 1)) = W0 at *
      have HSA : Hid (SrcI W0 asp after) := by
        rcases HAS.out.1 with e | ⟨b, o, e, hl, hc⟩
        · exact .inl e
        · exact .inr ⟨b, o, e, by have := HF1.out.size; omega, fun j hj => fr_below_cell HF1.out (hc j hj) hl (HNE.out.2.2.1 b o e)⟩
      obtain ⟨va, W1, hrunA, hownA, hbA⟩ := app_copy HSA.out ac (by have := HMA.out; omega) 37
      obtain ⟨ap, ac', rfl, hsA, hcA, hcmA, _⟩ := hownA.form
      rw [← HMA.out] at hrunA
      have HA : Hid (SrcI W1 ap after ∧ after.length ≤ ac' ∧ (ac' : Int) ≤ 9223372036854775807 ∧ Below W0.heap.size W0 W1 ∧ ∀ b o, ap = some ⟨b, o, none⟩ → W0.heap.size ≤ b) := ⟨hsA, hcA, hcmA, hbA, fun b o e => by
        rcases hownA.2 with ⟨h2, _⟩ | ⟨g, cap, cur, hv, hg, _⟩
        · injection h2 with h2a; rw [h2a] at e; cases e
        · injection hv with hva; rw [hva] at e; cases e; exact hg⟩
      clear hsA hcA hcmA hbA hownA
      go_wp2_with (first | (at_builtin; refine Hid.out ?_))
      change wpList _ _ _ _ _ _
      refine wpList_apprun rfl _ _ _ rfl rfl rfl hrunA ?_
      clear hrunA
      go_upto_region 13 with fail
      have hzq : q < W0.heap.size := (Array.getElem?_eq_some_iff.1 HA1.out).1
      have HA2 : Hid (W1.heap[q]? = some (.cells #[.pointer (some ⟨d, 0, none⟩), .slice (some ⟨gB, 0, none⟩) B.length cB, .slice ao L.length ca, .int .i64 ((last : Int) + 1)] 43 (0, 0))) := (HA.out.2.2.2.1.block q hzq).trans HA1.out
      have HF2 : Hid (Fr (fun k => k = q) w W1) := HF1.out.trans (Fr.of_below HA.out.2.2.2.1)
      have HQ1 : Hid (q < W1.heap.size) := (Array.getElem?_eq_some_iff.1 HA2.out).1
      have q2 : W1.cell? ⟨q, 2, none⟩ = some (.slice ao L.length ca) := (cell_of_row _ _ _ _ _ _ HA2.out).trans rfl
      have q3 : W1.cell? ⟨q, 3, none⟩ = some (.int .i64 ((last : Int) + 1)) := (cell_of_row _ _ _ _ _ _ HA2.out).trans rfl
      have HCV : Hid (∀ W, (Fr (fun k => k = q) W1 W ∧ W.cell? ⟨q, 3, none⟩ = some (.int .i64 ((last : Int) + 1))) → (convert 36 9 (.slice sp m dc)).run Tryz.prog W = .ok (.string (str data)) W) := fun W hW => by
        have h1 : Src W sp data := src_fr HDS.out (HF2.out.trans hW.1) HNE.out.2.1
        exact conv_str h1 m dc HMD.out
      have HL1 : Hid (LAt W1 ao ca L) := by
        refine ⟨HR.out.ls.cap, ?_⟩
        rcases HR.out.ls.cells with e | ⟨g, e, hgl, hcc⟩
        · exact .inl e
        · exact .inr ⟨g, e, by have := HF2.out.size; omega, fun i c hi j v hv => fr_below_cell HF2.out (hcc i c hi j v hv) hgl (HNE.out.1 g e)⟩
      have HS0 : Hid (Fr (fun k => k = q) W1 W1.drew ∧ W1.drew.cell? ⟨q, 3, none⟩ = some (.int .i64 ((last : Int) + 1))) := ⟨(Fr.refl _ _).drew, q3⟩
      have HB6 : Hid (Below W1.heap.size W1 (W1.drew.alloc (.cells #[.int .i64 ((last : Int) + 1), .int .i64 (n : Int), .int .i64 (fr : Int), .string (str data), .slice ap ma ac', .bool false] 160))) := (Below.refl _ _).drew.alloc (Nat.le_refl _) _
      have q26 : (W1.drew.alloc (.cells #[.int .i64 ((last : Int) + 1), .int .i64 (n : Int), .int .i64 (fr : Int), .string (str data), .slice ap ma ac', .bool false] 160)).cell? ⟨q, 2, none⟩ = some (.slice ao L.length ca) := (HB6.out.cell (p := ⟨q, 2, none⟩) HQ1.out).trans q2
      have q26' : (W1.alloc (.cells #[.int .i64 ((last : Int) + 1), .int .i64 (n : Int), .int .i64 (fr : Int), .string (str data), .slice ap ma ac', .bool false] 160)).cell? ⟨q, 2, none⟩ = some (.slice ao L.length ca) := q26
      have HS6 : Hid (Fr (fun k => k = q) W1 (W1.drew.alloc (.cells #[.int .i64 ((last : Int) + 1), .int .i64 (n : Int), .int .i64 (fr : Int), .string (str data), .slice ap ma ac', .bool false] 160)) ∧ (W1.drew.alloc (.cells #[.int .i64 ((last : Int) + 1), .int .i64 (n : Int), .int .i64 (fr : Int), .string (str data), .slice ap ma ac', .bool false] 160)).cell? ⟨q, 3, none⟩ = some (.int .i64 ((last : Int) + 1))) := ⟨Fr.of_below HB6.out, (HB6.out.cell (p := ⟨q, 3, none⟩) HQ1.out).trans q3⟩
      obtain ⟨G, cap, W7, hAPP, hL7, hG7, hB7⟩ := app_full (HL1.out.up HB6.out) HNE.out.2.2.2.1 hl ⟨last + 1, n, fr, data, ap, after, ac', false⟩ W1.heap.size 1 (fun j u hj => by
        have h6 := heap_alloc_new W1.drew (.cells #[.int .i64 ((last : Int) + 1), .int .i64 (n : Int), .int .i64 (fr : Int), .string (str data), .slice ap ma ac', .bool false] 160)
        refine (cell_of_row _ _ _ _ _ _ h6).trans ?_
        rw [← hj, HMA.out]
        rcases j with _ | _ | _ | _ | _ | _ | j <;> rfl) 41
      have HAPP : Hid ((Builtin.append_ #[41, 41] 41 #[.slice ao L.length L.length, .slice (some ⟨W1.heap.size, 0, none⟩) 1 1]).run Tryz.prog (W1.drew.alloc (.cells #[.int .i64 ((last : Int) + 1), .int .i64 (n : Int), .int .i64 (fr : Int), .string (str data), .slice ap ma ac', .bool false] 160)) = .ok (.slice (some ⟨G, 0, none⟩) (L.length + 1) cap) W7) := hAPP
      have HB67 : Hid (Below W1.heap.size W1 W7) := HB6.out.trans (hB7.mono HB6.out.size)
      have HA7 : Hid (W7.heap[q]? = some (.cells #[.pointer (some ⟨d, 0, none⟩), .slice (some ⟨gB, 0, none⟩) B.length cB, .slice ao L.length ca, .int .i64 ((last : Int) + 1)] 43 (0, 0))) := (HB67.out.block q HQ1.out).trans HA2.out
      have q7 : W7.cell? ⟨q, 2, none⟩ = some (.slice ao L.length ca) := (cell_of_row _ _ _ _ _ _ HA7.out).trans rfl
      have f7 : W7.frozen? ⟨q, 2, none⟩ = false := frozen_of_row _ _ _ _ _ HA7.out
      have HS7 : Hid (Fr (fun k => k = q) W1 W7 ∧ W7.cell? ⟨q, 3, none⟩ = some (.int .i64 ((last : Int) + 1))) := ⟨Fr.of_below HB67.out, (cell_of_row _ _ _ _ _ _ HA7.out).trans rfl⟩
      have HA8 : Hid ((W7.setCell ⟨q, 2, none⟩ (.slice (some ⟨G, 0, none⟩) (L.length + 1) cap)).heap[q]? = some (.cells #[.pointer (some ⟨d, 0, none⟩), .slice (some ⟨gB, 0, none⟩) B.length cB, .slice (some ⟨G, 0, none⟩) (L.length + 1) cap, .int .i64 ((last : Int) + 1)] 43 (0, 0))) := heap_setCell_same W7 q 2 _ _ (.slice (some ⟨G, 0, none⟩) (L.length + 1) cap) HA7.out
      have HSX : Hid (Fr (fun k => k = q) W1 (W7.setCell ⟨q, 2, none⟩ (.slice (some ⟨G, 0, none⟩) (L.length + 1) cap)) ∧ (W7.setCell ⟨q, 2, none⟩ (.slice (some ⟨G, 0, none⟩) (L.length + 1) cap)).cell? ⟨q, 3, none⟩ = some (.int .i64 ((last : Int) + 1))) := ⟨HS7.out.1.setCell q 2 _ rfl, (cell_of_row _ _ _ _ _ _ HA8.out).trans rfl⟩
      have HL7 : Hid (LAt W7 (some ⟨G, 0, none⟩) cap (L ++ [⟨last + 1, n, fr, data, ap, after, ac', false⟩]) ∧ W1.heap.size ≤ G) := ⟨hL7, by have := HB6.out.size; omega⟩
      clear hAPP hL7 hG7 hB7
      have hlca : (L.length : Int) ≤ (ca : Int) := by omega
      have LQ0 : Hid ((Instr.loadAt 41 (.pointer (some ⟨q, 2, none⟩))).run Tryz.prog W1.drew = .ok (.slice ao L.length ca) W1.drew) := by show _ = _; go_simp
      have LQ6 : Hid ((Instr.loadAt 41 (.pointer (some ⟨q, 2, none⟩))).run Tryz.prog (W1.drew.alloc (.cells #[.int .i64 ((last : Int) + 1), .int .i64 (n : Int), .int .i64 (fr : Int), .string (str data), .slice ap ma ac', .bool false] 160)) = .ok (.slice ao L.length ca) (W1.drew.alloc (.cells #[.int .i64 ((last : Int) + 1), .int .i64 (n : Int), .int .i64 (fr : Int), .string (str data), .slice ap ma ac', .bool false] 160))) := by show _ = _; go_simp
      have BS : Hid ((Instr.buildSlice 41 1 #[(0, .agg #[.int .i64 ((last : Int) + 1), .int .i64 (n : Int), .int .i64 (fr : Int), .string (str data), .slice ap ma ac', .bool false])]).run Tryz.prog W1.drew = .ok (.slice (some ⟨W1.heap.size, 0, none⟩) 1 1) (W1.drew.alloc (.cells #[.int .i64 ((last : Int) + 1), .int .i64 (n : Int), .int .i64 (fr : Int), .string (str data), .slice ap ma ac', .bool false] 160))) := by show _ = _; go_simp
      refine wp_region_held_drew (S := (fun W => Fr (fun k => k = q) W1 W ∧ W.cell? ⟨q, 3, none⟩ = some (.int .i64 ((last : Int) + 1)))) (by kernel_rfl) HS0.out (fun hH => ?_)
      refine takeH (i := 0) (dst := some 68) (v := ?v1) rfl rfl (by kernel_rfl) (by kernel_rfl) (by kernel_rfl) (fun _ _ _ h => h) rfl ?hy1 hH rfl ?rest1
      case hy1 => (intro W hW; (try dsimp only at hW); go_simp; try with_reducible rfl)
      (try simp only [Act.put, List.setIfInBounds_toArray, List.set_cons_zero, List.set_cons_succ])
      refine takeH (i := 1) (dst := some 69) (v := ?v2) rfl rfl (by kernel_rfl) (by kernel_rfl) (by kernel_rfl) (fun _ _ _ h => h) rfl ?hy2 hH rfl ?rest2
      case hy2 => (intro W hW; (try dsimp only at hW); go_simp; try with_reducible rfl)
      (try simp only [Act.put, List.setIfInBounds_toArray, List.set_cons_zero, List.set_cons_succ])
      refine takeH (i := 2) (dst := some 70) (v := ?v3) rfl rfl (by kernel_rfl) (by kernel_rfl) (by kernel_rfl) (fun _ _ _ h => h) rfl ?hy3 hH rfl ?rest3
      case hy3 => (intro W hW; (try dsimp only at hW); go_simp; try with_reducible rfl)
      (try simp only [Act.put, List.setIfInBounds_toArray, List.set_cons_zero, List.set_cons_succ])
      refine takeH (i := 3) (dst := some 71) (v := ?v4) rfl rfl (by kernel_rfl) (by kernel_rfl) (by kernel_rfl) (fun _ _ _ h => h) rfl ?hy4 hH rfl ?rest4
      case hy4 => (intro W hW; (try dsimp only at hW); go_simp; try with_reducible rfl)
      (try simp only [Act.put, List.setIfInBounds_toArray, List.set_cons_zero, List.set_cons_succ])
      refine takeH (i := 5) (dst := some 73) (v := ?v5) rfl rfl (by kernel_rfl) (by kernel_rfl) (by kernel_rfl) (fun _ _ _ h => h) rfl ?hy5 hH rfl ?rest5
      case hy5 => (intro W hW; (try dsimp only at hW); go_simp; try with_reducible rfl)
      (try simp only [Act.put, List.setIfInBounds_toArray, List.set_cons_zero, List.set_cons_succ])
      refine takeH (i := 6) (dst := some 74) (v := ?v6) rfl rfl (by kernel_rfl) (by kernel_rfl) (by kernel_rfl) (fun _ _ _ h => h) rfl ?hy6 hH rfl ?rest6
      case hy6 => (intro W hW; (try dsimp only at hW); go_simp; try with_reducible rfl)
      (try simp only [Act.put, List.setIfInBounds_toArray, List.set_cons_zero, List.set_cons_succ])
      refine takeH (i := 7) (dst := some 75) (v := ?v7) rfl rfl (by kernel_rfl) (by kernel_rfl) (by kernel_rfl) (fun _ _ _ h => h) rfl ?hy7 hH rfl ?rest7
      case hy7 => (intro W hW; (try dsimp only at hW); go_simp; try with_reducible rfl)
      (try simp only [Act.put, List.setIfInBounds_toArray, List.set_cons_zero, List.set_cons_succ])
      refine takeH (i := 10) (dst := some 78) (v := ?v8) rfl rfl (by kernel_rfl) (by kernel_rfl) (by kernel_rfl) (fun _ _ _ h => h) rfl ?hy8 hH rfl ?rest8
      case hy8 => (intro W hW; (try dsimp only at hW); go_simp; try with_reducible rfl)
      (try simp only [Act.put, List.setIfInBounds_toArray, List.set_cons_zero, List.set_cons_succ])
      refine takeH (i := 11) (dst := some 79) (v := ?v9) rfl rfl (by kernel_rfl) (by kernel_rfl) (by kernel_rfl) (fun _ _ _ h => h) rfl ?hy9 hH rfl ?rest9
      case hy9 => (intro W hW; (try dsimp only at hW); go_simp; try with_reducible rfl)
      (try simp only [Act.put, List.setIfInBounds_toArray, List.set_cons_zero, List.set_cons_succ])
      refine takeH (i := 12) (dst := some 80) (v := ?v10) rfl rfl (by kernel_rfl) (by kernel_rfl) (by kernel_rfl) (fun _ _ _ h => h) rfl ?hy10 hH rfl ?rest10
      case hy10 => (intro W hW; (try dsimp only at hW); go_simp; try with_reducible rfl)
      (try simp only [Act.put, List.setIfInBounds_toArray, List.set_cons_zero, List.set_cons_succ])
      refine takeH (i := 16) (dst := some 84) (v := ?v11) rfl rfl (by kernel_rfl) (by kernel_rfl) (by kernel_rfl) (fun _ _ _ h => h) rfl ?hy11 hH rfl ?rest11
      case hy11 => (intro W hW; (try dsimp only at hW); go_simp; try with_reducible rfl)
      (try simp only [Act.put, List.setIfInBounds_toArray, List.set_cons_zero, List.set_cons_succ])
      refine takeH (i := 17) (dst := some 85) (v := ?v12) rfl rfl (by kernel_rfl) (by kernel_rfl) (by kernel_rfl) (fun _ _ _ h => h) rfl ?hy12 hH rfl ?rest12
      case hy12 => (intro W hW; (try dsimp only at hW); go_simp; try with_reducible rfl)
      (try simp only [Act.put, List.setIfInBounds_toArray, List.set_cons_zero, List.set_cons_succ])
      refine takeH (i := 18) (dst := some 86) (v := ?v13) rfl rfl (by kernel_rfl) (by kernel_rfl) (by kernel_rfl) (fun _ _ _ h => h) rfl ?hy13 hH rfl ?rest13
      case hy13 => (intro W hW; (try dsimp only at hW); go_simp; try with_reducible rfl)
      (try simp only [Act.put, List.setIfInBounds_toArray, List.set_cons_zero, List.set_cons_succ])
      refine takeH (i := 19) (dst := some 87) (v := ?v14) rfl rfl (by kernel_rfl) (by kernel_rfl) (by kernel_rfl) (fun _ _ _ h => h) rfl ?hy14 hH rfl ?rest14
      case hy14 => (intro W hW; have k3 := hW.2; clear hW; go_simp; try with_reducible rfl)
      (try simp only [Act.put, List.setIfInBounds_toArray, List.set_cons_zero, List.set_cons_succ])
      refine takeH (i := 20) (dst := some 88) (v := ?v15) rfl rfl (by kernel_rfl) (by kernel_rfl) (by kernel_rfl) (fun _ _ _ h => h) rfl ?hy15 hH rfl ?rest15
      case hy15 => (intro W hW; (try dsimp only at hW); go_simp; try with_reducible rfl)
      (try simp only [Act.put, List.setIfInBounds_toArray, List.set_cons_zero, List.set_cons_succ])
      refine takeH (i := 21) (dst := some 89) (v := ?v16) rfl rfl (by kernel_rfl) (by kernel_rfl) (by kernel_rfl) (fun _ _ _ h => h) rfl ?hy16 hH rfl ?rest16
      case hy16 => (intro W hW; (try dsimp only at hW); go_simp; try with_reducible rfl)
      (try simp only [Act.put, List.setIfInBounds_toArray, List.set_cons_zero, List.set_cons_succ])
      refine takeH (i := 22) (dst := some 90) (v := ?v17) rfl rfl (by kernel_rfl) (by kernel_rfl) (by kernel_rfl) (fun _ _ _ h => h) rfl ?hy17 hH rfl ?rest17
      case hy17 => (intro W hW; (try dsimp only at hW); go_simp; try with_reducible rfl)
      (try simp only [Act.put, List.setIfInBounds_toArray, List.set_cons_zero, List.set_cons_succ])
      refine takeH (i := 23) (dst := some 91) (v := ?v18) rfl rfl (by kernel_rfl) (by kernel_rfl) (by kernel_rfl) (fun _ _ _ h => h) rfl ?hy18 hH rfl ?rest18
      case hy18 => (intro W hW; have kd := HCV.out W hW; clear hW; go_simp; try with_reducible rfl)
      (try simp only [Act.put, List.setIfInBounds_toArray, List.set_cons_zero, List.set_cons_succ])
      refine takeH (i := 24) (dst := some 92) (v := ?v19) rfl rfl (by kernel_rfl) (by kernel_rfl) (by kernel_rfl) (fun _ _ _ h => h) rfl ?hy19 hH rfl ?rest19
      case hy19 => (intro W hW; (try dsimp only at hW); go_simp; try with_reducible rfl)
      (try simp only [Act.put, List.setIfInBounds_toArray, List.set_cons_zero, List.set_cons_succ])
      refine takeH (i := 25) (dst := some 93) (v := ?v20) rfl rfl (by kernel_rfl) (by kernel_rfl) (by kernel_rfl) (fun _ _ _ h => h) rfl ?hy20 hH rfl ?rest20
      case hy20 => (intro W hW; (try dsimp only at hW); go_simp; try with_reducible rfl)
      (try simp only [Act.put, List.setIfInBounds_toArray, List.set_cons_zero, List.set_cons_succ])
      clear hH
      refine (fun (F1111 : ?TF1111) => ?gF1111) ?pF1111
      case gF1111 =>
       refine (fun (F1110 : ?TF1110) => ?gF1110) ?pF1110
       case gF1110 =>
        refine (fun (F1101 : ?TF1101) => ?gF1101) ?pF1101
        case gF1101 =>
         refine (fun (F1011 : ?TF1011) => ?gF1011) ?pF1011
         case gF1011 =>
          refine (fun (F0111 : ?TF0111) => ?gF0111) ?pF0111
          case gF0111 =>
           refine (fun (F1100 : ?TF1100) => ?gF1100) ?pF1100
           case gF1100 =>
            refine (fun (F1010 : ?TF1010) => ?gF1010) ?pF1010
            case gF1010 =>
             refine (fun (F1001 : ?TF1001) => ?gF1001) ?pF1001
             case gF1001 =>
              refine (fun (F0110 : ?TF0110) => ?gF0110) ?pF0110
              case gF0110 =>
               refine (fun (F0101 : ?TF0101) => ?gF0101) ?pF0101
               case gF0101 =>
                refine (fun (F0011 : ?TF0011) => ?gF0011) ?pF0011
                case gF0011 =>
                 refine (fun (F1000 : ?TF1000) => ?gF1000) ?pF1000
                 case gF1000 =>
                  refine (fun (F0100 : ?TF0100) => ?gF0100) ?pF0100
                  case gF0100 =>
                   refine (fun (F0010 : ?TF0010) => ?gF0010) ?pF0010
                   case gF0010 =>
                    refine (fun (F0001 : ?TF0001) => ?gF0001) ?pF0001
                    case gF0001 =>
                     have hH := HS0.out
                     refine wpAnyH_ready (rs := [4, 8, 13, 26]) (by kernel_rfl) (by simp) (allH_run (v := .slice ao L.length ca) (w' := W1.drew) (dst := some 72) rfl rfl rfl (run_load rfl rfl LQ0.out) rfl HS0.out ?_ (allH_run (v := .slice ao L.length ca) (w' := W1.drew) (dst := some 76) rfl rfl rfl (run_load rfl rfl LQ0.out) rfl HS0.out ?_ (allH_run (v := .slice ao L.length ca) (w' := W1.drew) (dst := some 81) rfl rfl rfl (run_load rfl rfl LQ0.out) rfl HS0.out ?_ (allH_run (v := .slice (some ⟨W1.heap.size, 0, none⟩) 1 1) (w' := W1.drew.alloc (.cells #[.int .i64 ((last : Int) + 1), .int .i64 (n : Int), .int .i64 (fr : Int), .string (str data), .slice ap ma ac', .bool false] 160)) (dst := some 94) rfl rfl rfl (run_build rfl rfl BS.out) rfl HS6.out ?_ AllReadyH.nil))))
                     · clear hH
                       have hH := HS0.out
                       (try simp only [Act.put, List.setIfInBounds_toArray, List.set_cons_zero, List.set_cons_succ])
                       exact F1000
                     · clear hH
                       have hH := HS0.out
                       (try simp only [Act.put, List.setIfInBounds_toArray, List.set_cons_zero, List.set_cons_succ])
                       refine takeH (i := 9) (dst := some 77) (v := .int .i64 (L.length : Int)) rfl rfl (by kernel_rfl) (by kernel_rfl) (by kernel_rfl) (fun _ _ _ h => h) rfl (fun _ _ => run_lenT rfl rfl) hH rfl ?_
                       (try simp only [Act.put, List.setIfInBounds_toArray, List.set_cons_zero, List.set_cons_succ])
                       exact F0100
                     · clear hH
                       have hH := HS0.out
                       (try simp only [Act.put, List.setIfInBounds_toArray, List.set_cons_zero, List.set_cons_succ])
                       refine takeH (i := 14) (dst := some 82) (v := .int .i64 (L.length : Int)) rfl rfl (by kernel_rfl) (by kernel_rfl) (by kernel_rfl) (fun _ _ _ h => h) rfl (fun _ _ => run_lenT rfl rfl) hH rfl ?_
                       (try simp only [Act.put, List.setIfInBounds_toArray, List.set_cons_zero, List.set_cons_succ])
                       exact F0010
                     · clear hH
                       have hH := HS6.out
                       (try simp only [Act.put, List.setIfInBounds_toArray, List.set_cons_zero, List.set_cons_succ])
                       exact F0001
                    case pF0001 =>
                     have hH := HS6.out
                     refine wpAnyH_ready (rs := [4, 8, 13]) (by kernel_rfl) (by simp) (allH_run (v := .slice ao L.length ca) (w' := (W1.drew.alloc (.cells #[.int .i64 ((last : Int) + 1), .int .i64 (n : Int), .int .i64 (fr : Int), .string (str data), .slice ap ma ac', .bool false] 160))) (dst := some 72) rfl rfl rfl (run_load rfl rfl LQ6.out) rfl HS6.out ?_ (allH_run (v := .slice ao L.length ca) (w' := (W1.drew.alloc (.cells #[.int .i64 ((last : Int) + 1), .int .i64 (n : Int), .int .i64 (fr : Int), .string (str data), .slice ap ma ac', .bool false] 160))) (dst := some 76) rfl rfl rfl (run_load rfl rfl LQ6.out) rfl HS6.out ?_ (allH_run (v := .slice ao L.length ca) (w' := (W1.drew.alloc (.cells #[.int .i64 ((last : Int) + 1), .int .i64 (n : Int), .int .i64 (fr : Int), .string (str data), .slice ap ma ac', .bool false] 160))) (dst := some 81) rfl rfl rfl (run_load rfl rfl LQ6.out) rfl HS6.out ?_ AllReadyH.nil)))
                     · clear hH
                       have hH := HS6.out
                       (try simp only [Act.put, List.setIfInBounds_toArray, List.set_cons_zero, List.set_cons_succ])
                       exact F1001
                     · clear hH
                       have hH := HS6.out
                       (try simp only [Act.put, List.setIfInBounds_toArray, List.set_cons_zero, List.set_cons_succ])
                       refine takeH (i := 9) (dst := some 77) (v := .int .i64 (L.length : Int)) rfl rfl (by kernel_rfl) (by kernel_rfl) (by kernel_rfl) (fun _ _ _ h => h) rfl (fun _ _ => run_lenT rfl rfl) hH rfl ?_
                       (try simp only [Act.put, List.setIfInBounds_toArray, List.set_cons_zero, List.set_cons_succ])
                       exact F0101
                     · clear hH
                       have hH := HS6.out
                       (try simp only [Act.put, List.setIfInBounds_toArray, List.set_cons_zero, List.set_cons_succ])
                       refine takeH (i := 14) (dst := some 82) (v := .int .i64 (L.length : Int)) rfl rfl (by kernel_rfl) (by kernel_rfl) (by kernel_rfl) (fun _ _ _ h => h) rfl (fun _ _ => run_lenT rfl rfl) hH rfl ?_
                       (try simp only [Act.put, List.setIfInBounds_toArray, List.set_cons_zero, List.set_cons_succ])
                       exact F0011
                   case pF0010 =>
                    have hH := HS0.out
                    refine wpAnyH_ready (rs := [4, 8, 26]) (by kernel_rfl) (by simp) (allH_run (v := .slice ao L.length ca) (w' := W1.drew) (dst := some 72) rfl rfl rfl (run_load rfl rfl LQ0.out) rfl HS0.out ?_ (allH_run (v := .slice ao L.length ca) (w' := W1.drew) (dst := some 76) rfl rfl rfl (run_load rfl rfl LQ0.out) rfl HS0.out ?_ (allH_run (v := .slice (some ⟨W1.heap.size, 0, none⟩) 1 1) (w' := W1.drew.alloc (.cells #[.int .i64 ((last : Int) + 1), .int .i64 (n : Int), .int .i64 (fr : Int), .string (str data), .slice ap ma ac', .bool false] 160)) (dst := some 94) rfl rfl rfl (run_build rfl rfl BS.out) rfl HS6.out ?_ AllReadyH.nil)))
                    · clear hH
                      have hH := HS0.out
                      (try simp only [Act.put, List.setIfInBounds_toArray, List.set_cons_zero, List.set_cons_succ])
                      exact F1010
                    · clear hH
                      have hH := HS0.out
                      (try simp only [Act.put, List.setIfInBounds_toArray, List.set_cons_zero, List.set_cons_succ])
                      refine takeH (i := 9) (dst := some 77) (v := .int .i64 (L.length : Int)) rfl rfl (by kernel_rfl) (by kernel_rfl) (by kernel_rfl) (fun _ _ _ h => h) rfl (fun _ _ => run_lenT rfl rfl) hH rfl ?_
                      (try simp only [Act.put, List.setIfInBounds_toArray, List.set_cons_zero, List.set_cons_succ])
                      exact F0110
                    · clear hH
                      have hH := HS6.out
                      (try simp only [Act.put, List.setIfInBounds_toArray, List.set_cons_zero, List.set_cons_succ])
                      exact F0011
                  case pF0100 =>
                   have hH := HS0.out
                   refine wpAnyH_ready (rs := [4, 13, 26]) (by kernel_rfl) (by simp) (allH_run (v := .slice ao L.length ca) (w' := W1.drew) (dst := some 72) rfl rfl rfl (run_load rfl rfl LQ0.out) rfl HS0.out ?_ (allH_run (v := .slice ao L.length ca) (w' := W1.drew) (dst := some 81) rfl rfl rfl (run_load rfl rfl LQ0.out) rfl HS0.out ?_ (allH_run (v := .slice (some ⟨W1.heap.size, 0, none⟩) 1 1) (w' := W1.drew.alloc (.cells #[.int .i64 ((last : Int) + 1), .int .i64 (n : Int), .int .i64 (fr : Int), .string (str data), .slice ap ma ac', .bool false] 160)) (dst := some 94) rfl rfl rfl (run_build rfl rfl BS.out) rfl HS6.out ?_ AllReadyH.nil)))
                   · clear hH
                     have hH := HS0.out
                     (try simp only [Act.put, List.setIfInBounds_toArray, List.set_cons_zero, List.set_cons_succ])
                     exact F1100
                   · clear hH
                     have hH := HS0.out
                     (try simp only [Act.put, List.setIfInBounds_toArray, List.set_cons_zero, List.set_cons_succ])
                     refine takeH (i := 14) (dst := some 82) (v := .int .i64 (L.length : Int)) rfl rfl (by kernel_rfl) (by kernel_rfl) (by kernel_rfl) (fun _ _ _ h => h) rfl (fun _ _ => run_lenT rfl rfl) hH rfl ?_
                     (try simp only [Act.put, List.setIfInBounds_toArray, List.set_cons_zero, List.set_cons_succ])
                     exact F0110
                   · clear hH
                     have hH := HS6.out
                     (try simp only [Act.put, List.setIfInBounds_toArray, List.set_cons_zero, List.set_cons_succ])
                     exact F0101
                 case pF1000 =>
                  have hH := HS0.out
                  refine wpAnyH_ready (rs := [8, 13, 26]) (by kernel_rfl) (by simp) (allH_run (v := .slice ao L.length ca) (w' := W1.drew) (dst := some 76) rfl rfl rfl (run_load rfl rfl LQ0.out) rfl HS0.out ?_ (allH_run (v := .slice ao L.length ca) (w' := W1.drew) (dst := some 81) rfl rfl rfl (run_load rfl rfl LQ0.out) rfl HS0.out ?_ (allH_run (v := .slice (some ⟨W1.heap.size, 0, none⟩) 1 1) (w' := W1.drew.alloc (.cells #[.int .i64 ((last : Int) + 1), .int .i64 (n : Int), .int .i64 (fr : Int), .string (str data), .slice ap ma ac', .bool false] 160)) (dst := some 94) rfl rfl rfl (run_build rfl rfl BS.out) rfl HS6.out ?_ AllReadyH.nil)))
                  · clear hH
                    have hH := HS0.out
                    (try simp only [Act.put, List.setIfInBounds_toArray, List.set_cons_zero, List.set_cons_succ])
                    refine takeH (i := 9) (dst := some 77) (v := .int .i64 (L.length : Int)) rfl rfl (by kernel_rfl) (by kernel_rfl) (by kernel_rfl) (fun _ _ _ h => h) rfl (fun _ _ => run_lenT rfl rfl) hH rfl ?_
                    (try simp only [Act.put, List.setIfInBounds_toArray, List.set_cons_zero, List.set_cons_succ])
                    exact F1100
                  · clear hH
                    have hH := HS0.out
                    (try simp only [Act.put, List.setIfInBounds_toArray, List.set_cons_zero, List.set_cons_succ])
                    refine takeH (i := 14) (dst := some 82) (v := .int .i64 (L.length : Int)) rfl rfl (by kernel_rfl) (by kernel_rfl) (by kernel_rfl) (fun _ _ _ h => h) rfl (fun _ _ => run_lenT rfl rfl) hH rfl ?_
                    (try simp only [Act.put, List.setIfInBounds_toArray, List.set_cons_zero, List.set_cons_succ])
                    exact F1010
                  · clear hH
                    have hH := HS6.out
                    (try simp only [Act.put, List.setIfInBounds_toArray, List.set_cons_zero, List.set_cons_succ])
                    exact F1001
                case pF0011 =>
                 have hH := HS6.out
                 refine wpAnyH_ready (rs := [4, 8]) (by kernel_rfl) (by simp) (allH_run (v := .slice ao L.length ca) (w' := (W1.drew.alloc (.cells #[.int .i64 ((last : Int) + 1), .int .i64 (n : Int), .int .i64 (fr : Int), .string (str data), .slice ap ma ac', .bool false] 160))) (dst := some 72) rfl rfl rfl (run_load rfl rfl LQ6.out) rfl HS6.out ?_ (allH_run (v := .slice ao L.length ca) (w' := (W1.drew.alloc (.cells #[.int .i64 ((last : Int) + 1), .int .i64 (n : Int), .int .i64 (fr : Int), .string (str data), .slice ap ma ac', .bool false] 160))) (dst := some 76) rfl rfl rfl (run_load rfl rfl LQ6.out) rfl HS6.out ?_ AllReadyH.nil))
                 · clear hH
                   have hH := HS6.out
                   (try simp only [Act.put, List.setIfInBounds_toArray, List.set_cons_zero, List.set_cons_succ])
                   exact F1011
                 · clear hH
                   have hH := HS6.out
                   (try simp only [Act.put, List.setIfInBounds_toArray, List.set_cons_zero, List.set_cons_succ])
                   refine takeH (i := 9) (dst := some 77) (v := .int .i64 (L.length : Int)) rfl rfl (by kernel_rfl) (by kernel_rfl) (by kernel_rfl) (fun _ _ _ h => h) rfl (fun _ _ => run_lenT rfl rfl) hH rfl ?_
                   (try simp only [Act.put, List.setIfInBounds_toArray, List.set_cons_zero, List.set_cons_succ])
                   exact F0111
               case pF0101 =>
                have hH := HS6.out
                refine wpAnyH_ready (rs := [4, 13]) (by kernel_rfl) (by simp) (allH_run (v := .slice ao L.length ca) (w' := (W1.drew.alloc (.cells #[.int .i64 ((last : Int) + 1), .int .i64 (n : Int), .int .i64 (fr : Int), .string (str data), .slice ap ma ac', .bool false] 160))) (dst := some 72) rfl rfl rfl (run_load rfl rfl LQ6.out) rfl HS6.out ?_ (allH_run (v := .slice ao L.length ca) (w' := (W1.drew.alloc (.cells #[.int .i64 ((last : Int) + 1), .int .i64 (n : Int), .int .i64 (fr : Int), .string (str data), .slice ap ma ac', .bool false] 160))) (dst := some 81) rfl rfl rfl (run_load rfl rfl LQ6.out) rfl HS6.out ?_ AllReadyH.nil))
                · clear hH
                  have hH := HS6.out
                  (try simp only [Act.put, List.setIfInBounds_toArray, List.set_cons_zero, List.set_cons_succ])
                  exact F1101
                · clear hH
                  have hH := HS6.out
                  (try simp only [Act.put, List.setIfInBounds_toArray, List.set_cons_zero, List.set_cons_succ])
                  refine takeH (i := 14) (dst := some 82) (v := .int .i64 (L.length : Int)) rfl rfl (by kernel_rfl) (by kernel_rfl) (by kernel_rfl) (fun _ _ _ h => h) rfl (fun _ _ => run_lenT rfl rfl) hH rfl ?_
                  (try simp only [Act.put, List.setIfInBounds_toArray, List.set_cons_zero, List.set_cons_succ])
                  exact F0111
              case pF0110 =>
               have hH := HS0.out
               refine wpAnyH_ready (rs := [4, 26]) (by kernel_rfl) (by simp) (allH_run (v := .slice ao L.length ca) (w' := W1.drew) (dst := some 72) rfl rfl rfl (run_load rfl rfl LQ0.out) rfl HS0.out ?_ (allH_run (v := .slice (some ⟨W1.heap.size, 0, none⟩) 1 1) (w' := W1.drew.alloc (.cells #[.int .i64 ((last : Int) + 1), .int .i64 (n : Int), .int .i64 (fr : Int), .string (str data), .slice ap ma ac', .bool false] 160)) (dst := some 94) rfl rfl rfl (run_build rfl rfl BS.out) rfl HS6.out ?_ AllReadyH.nil))
               · clear hH
                 have hH := HS0.out
                 (try simp only [Act.put, List.setIfInBounds_toArray, List.set_cons_zero, List.set_cons_succ])
                 refine takeH (i := 15) (dst := some 83) (v := .slice ao L.length L.length) rfl rfl (by kernel_rfl) (by kernel_rfl) (by kernel_rfl) (fun _ _ _ h => h) rfl (fun _ _ => run_slice3 rfl rfl rfl rfl hlca HNE.out.2.2.2.1) hH rfl ?_
                 (try simp only [Act.put, List.setIfInBounds_toArray, List.set_cons_zero, List.set_cons_succ])
                 exact F1110
               · clear hH
                 have hH := HS6.out
                 (try simp only [Act.put, List.setIfInBounds_toArray, List.set_cons_zero, List.set_cons_succ])
                 exact F0111
             case pF1001 =>
              have hH := HS6.out
              refine wpAnyH_ready (rs := [8, 13]) (by kernel_rfl) (by simp) (allH_run (v := .slice ao L.length ca) (w' := (W1.drew.alloc (.cells #[.int .i64 ((last : Int) + 1), .int .i64 (n : Int), .int .i64 (fr : Int), .string (str data), .slice ap ma ac', .bool false] 160))) (dst := some 76) rfl rfl rfl (run_load rfl rfl LQ6.out) rfl HS6.out ?_ (allH_run (v := .slice ao L.length ca) (w' := (W1.drew.alloc (.cells #[.int .i64 ((last : Int) + 1), .int .i64 (n : Int), .int .i64 (fr : Int), .string (str data), .slice ap ma ac', .bool false] 160))) (dst := some 81) rfl rfl rfl (run_load rfl rfl LQ6.out) rfl HS6.out ?_ AllReadyH.nil))
              · clear hH
                have hH := HS6.out
                (try simp only [Act.put, List.setIfInBounds_toArray, List.set_cons_zero, List.set_cons_succ])
                refine takeH (i := 9) (dst := some 77) (v := .int .i64 (L.length : Int)) rfl rfl (by kernel_rfl) (by kernel_rfl) (by kernel_rfl) (fun _ _ _ h => h) rfl (fun _ _ => run_lenT rfl rfl) hH rfl ?_
                (try simp only [Act.put, List.setIfInBounds_toArray, List.set_cons_zero, List.set_cons_succ])
                exact F1101
              · clear hH
                have hH := HS6.out
                (try simp only [Act.put, List.setIfInBounds_toArray, List.set_cons_zero, List.set_cons_succ])
                refine takeH (i := 14) (dst := some 82) (v := .int .i64 (L.length : Int)) rfl rfl (by kernel_rfl) (by kernel_rfl) (by kernel_rfl) (fun _ _ _ h => h) rfl (fun _ _ => run_lenT rfl rfl) hH rfl ?_
                (try simp only [Act.put, List.setIfInBounds_toArray, List.set_cons_zero, List.set_cons_succ])
                exact F1011
            case pF1010 =>
             have hH := HS0.out
             refine wpAnyH_ready (rs := [8, 26]) (by kernel_rfl) (by simp) (allH_run (v := .slice ao L.length ca) (w' := W1.drew) (dst := some 76) rfl rfl rfl (run_load rfl rfl LQ0.out) rfl HS0.out ?_ (allH_run (v := .slice (some ⟨W1.heap.size, 0, none⟩) 1 1) (w' := W1.drew.alloc (.cells #[.int .i64 ((last : Int) + 1), .int .i64 (n : Int), .int .i64 (fr : Int), .string (str data), .slice ap ma ac', .bool false] 160)) (dst := some 94) rfl rfl rfl (run_build rfl rfl BS.out) rfl HS6.out ?_ AllReadyH.nil))
             · clear hH
               have hH := HS0.out
               (try simp only [Act.put, List.setIfInBounds_toArray, List.set_cons_zero, List.set_cons_succ])
               refine takeH (i := 9) (dst := some 77) (v := .int .i64 (L.length : Int)) rfl rfl (by kernel_rfl) (by kernel_rfl) (by kernel_rfl) (fun _ _ _ h => h) rfl (fun _ _ => run_lenT rfl rfl) hH rfl ?_
               (try simp only [Act.put, List.setIfInBounds_toArray, List.set_cons_zero, List.set_cons_succ])
               refine takeH (i := 15) (dst := some 83) (v := .slice ao L.length L.length) rfl rfl (by kernel_rfl) (by kernel_rfl) (by kernel_rfl) (fun _ _ _ h => h) rfl (fun _ _ => run_slice3 rfl rfl rfl rfl hlca HNE.out.2.2.2.1) hH rfl ?_
               (try simp only [Act.put, List.setIfInBounds_toArray, List.set_cons_zero, List.set_cons_succ])
               exact F1110
             · clear hH
               have hH := HS6.out
               (try simp only [Act.put, List.setIfInBounds_toArray, List.set_cons_zero, List.set_cons_succ])
               exact F1011
           case pF1100 =>
            have hH := HS0.out
            refine wpAnyH_ready (rs := [13, 26]) (by kernel_rfl) (by simp) (allH_run (v := .slice ao L.length ca) (w' := W1.drew) (dst := some 81) rfl rfl rfl (run_load rfl rfl LQ0.out) rfl HS0.out ?_ (allH_run (v := .slice (some ⟨W1.heap.size, 0, none⟩) 1 1) (w' := W1.drew.alloc (.cells #[.int .i64 ((last : Int) + 1), .int .i64 (n : Int), .int .i64 (fr : Int), .string (str data), .slice ap ma ac', .bool false] 160)) (dst := some 94) rfl rfl rfl (run_build rfl rfl BS.out) rfl HS6.out ?_ AllReadyH.nil))
            · clear hH
              have hH := HS0.out
              (try simp only [Act.put, List.setIfInBounds_toArray, List.set_cons_zero, List.set_cons_succ])
              refine takeH (i := 14) (dst := some 82) (v := .int .i64 (L.length : Int)) rfl rfl (by kernel_rfl) (by kernel_rfl) (by kernel_rfl) (fun _ _ _ h => h) rfl (fun _ _ => run_lenT rfl rfl) hH rfl ?_
              (try simp only [Act.put, List.setIfInBounds_toArray, List.set_cons_zero, List.set_cons_succ])
              refine takeH (i := 15) (dst := some 83) (v := .slice ao L.length L.length) rfl rfl (by kernel_rfl) (by kernel_rfl) (by kernel_rfl) (fun _ _ _ h => h) rfl (fun _ _ => run_slice3 rfl rfl rfl rfl hlca HNE.out.2.2.2.1) hH rfl ?_
              (try simp only [Act.put, List.setIfInBounds_toArray, List.set_cons_zero, List.set_cons_succ])
              exact F1110
            · clear hH
              have hH := HS6.out
              (try simp only [Act.put, List.setIfInBounds_toArray, List.set_cons_zero, List.set_cons_succ])
              exact F1101
          case pF0111 =>
           have hH := HS6.out
           refine wpAnyH_ready (rs := [4]) (by kernel_rfl) (by simp) (allH_run (v := .slice ao L.length ca) (w' := (W1.drew.alloc (.cells #[.int .i64 ((last : Int) + 1), .int .i64 (n : Int), .int .i64 (fr : Int), .string (str data), .slice ap ma ac', .bool false] 160))) (dst := some 72) rfl rfl rfl (run_load rfl rfl LQ6.out) rfl HS6.out ?_ AllReadyH.nil)
           · clear hH
             have hH := HS6.out
             (try simp only [Act.put, List.setIfInBounds_toArray, List.set_cons_zero, List.set_cons_succ])
             refine takeH (i := 15) (dst := some 83) (v := .slice ao L.length L.length) rfl rfl (by kernel_rfl) (by kernel_rfl) (by kernel_rfl) (fun _ _ _ h => h) rfl (fun _ _ => run_slice3 rfl rfl rfl rfl hlca HNE.out.2.2.2.1) hH rfl ?_
             (try simp only [Act.put, List.setIfInBounds_toArray, List.set_cons_zero, List.set_cons_succ])
             exact F1111
         case pF1011 =>
          have hH := HS6.out
          refine wpAnyH_ready (rs := [8]) (by kernel_rfl) (by simp) (allH_run (v := .slice ao L.length ca) (w' := (W1.drew.alloc (.cells #[.int .i64 ((last : Int) + 1), .int .i64 (n : Int), .int .i64 (fr : Int), .string (str data), .slice ap ma ac', .bool false] 160))) (dst := some 76) rfl rfl rfl (run_load rfl rfl LQ6.out) rfl HS6.out ?_ AllReadyH.nil)
          · clear hH
            have hH := HS6.out
            (try simp only [Act.put, List.setIfInBounds_toArray, List.set_cons_zero, List.set_cons_succ])
            refine takeH (i := 9) (dst := some 77) (v := .int .i64 (L.length : Int)) rfl rfl (by kernel_rfl) (by kernel_rfl) (by kernel_rfl) (fun _ _ _ h => h) rfl (fun _ _ => run_lenT rfl rfl) hH rfl ?_
            (try simp only [Act.put, List.setIfInBounds_toArray, List.set_cons_zero, List.set_cons_succ])
            refine takeH (i := 15) (dst := some 83) (v := .slice ao L.length L.length) rfl rfl (by kernel_rfl) (by kernel_rfl) (by kernel_rfl) (fun _ _ _ h => h) rfl (fun _ _ => run_slice3 rfl rfl rfl rfl hlca HNE.out.2.2.2.1) hH rfl ?_
            (try simp only [Act.put, List.setIfInBounds_toArray, List.set_cons_zero, List.set_cons_succ])
            exact F1111
        case pF1101 =>
         have hH := HS6.out
         refine wpAnyH_ready (rs := [13]) (by kernel_rfl) (by simp) (allH_run (v := .slice ao L.length ca) (w' := (W1.drew.alloc (.cells #[.int .i64 ((last : Int) + 1), .int .i64 (n : Int), .int .i64 (fr : Int), .string (str data), .slice ap ma ac', .bool false] 160))) (dst := some 81) rfl rfl rfl (run_load rfl rfl LQ6.out) rfl HS6.out ?_ AllReadyH.nil)
         · clear hH
           have hH := HS6.out
           (try simp only [Act.put, List.setIfInBounds_toArray, List.set_cons_zero, List.set_cons_succ])
           refine takeH (i := 14) (dst := some 82) (v := .int .i64 (L.length : Int)) rfl rfl (by kernel_rfl) (by kernel_rfl) (by kernel_rfl) (fun _ _ _ h => h) rfl (fun _ _ => run_lenT rfl rfl) hH rfl ?_
           (try simp only [Act.put, List.setIfInBounds_toArray, List.set_cons_zero, List.set_cons_succ])
           refine takeH (i := 15) (dst := some 83) (v := .slice ao L.length L.length) rfl rfl (by kernel_rfl) (by kernel_rfl) (by kernel_rfl) (fun _ _ _ h => h) rfl (fun _ _ => run_slice3 rfl rfl rfl rfl hlca HNE.out.2.2.2.1) hH rfl ?_
           (try simp only [Act.put, List.setIfInBounds_toArray, List.set_cons_zero, List.set_cons_succ])
           exact F1111
       case pF1110 =>
        have hH := HS0.out
        refine wpAnyH_ready (rs := [26]) (by kernel_rfl) (by simp) (allH_run (v := .slice (some ⟨W1.heap.size, 0, none⟩) 1 1) (w' := W1.drew.alloc (.cells #[.int .i64 ((last : Int) + 1), .int .i64 (n : Int), .int .i64 (fr : Int), .string (str data), .slice ap ma ac', .bool false] 160)) (dst := some 94) rfl rfl rfl (run_build rfl rfl BS.out) rfl HS6.out ?_ AllReadyH.nil)
        · clear hH
          have hH := HS6.out
          (try simp only [Act.put, List.setIfInBounds_toArray, List.set_cons_zero, List.set_cons_succ])
          exact F1111
      case pF1111 =>
       have hH := HS6.out
       refine readyH (i := 27) (v := .slice (some ⟨G, 0, none⟩) (L.length + 1) cap) (w' := W7) (dst := some 95) (by kernel_rfl) rfl rfl rfl (run_appT rfl rfl rfl rfl HAPP.out) rfl HS7.out ?_
       (try simp only [Act.put, List.setIfInBounds_toArray, List.set_cons_zero, List.set_cons_succ])
       clear hH
       have hH := HS7.out
       refine takeH (i := 28) (dst := some 96) (v := ?v21) rfl rfl (by kernel_rfl) (by kernel_rfl) (by kernel_rfl) (fun _ _ _ h => h) rfl ?hy21 hH rfl ?rest21
       case hy21 => (intro W hW; (try dsimp only at hW); go_simp; try with_reducible rfl)
       (try simp only [Act.put, List.setIfInBounds_toArray, List.set_cons_zero, List.set_cons_succ])
       refine takeH (i := 29) (dst := some 97) (v := ?v22) rfl rfl (by kernel_rfl) (by kernel_rfl) (by kernel_rfl) (fun _ _ _ h => h) rfl ?hy22 hH rfl ?rest22
       case hy22 => (intro W hW; (try dsimp only at hW); go_simp; try with_reducible rfl)
       (try simp only [Act.put, List.setIfInBounds_toArray, List.set_cons_zero, List.set_cons_succ])
       refine callH (i := 30) { dst := none, op := Go.Op.store 41 (Go.Operand.tmp 97) (Go.Operand.tmp 95), type := 0, pos := "ref.go:77", after := #[{ on := 29, ground := Go.Ground.data }, { on := 27, ground := Go.Ground.data }, { on := 27, ground := Go.Ground.chain }, { on := 0, ground := Go.Ground.phase }, { on := 1, ground := Go.Ground.phase }, { on := 2, ground := Go.Ground.phase }, { on := 3, ground := Go.Ground.phase }, { on := 4, ground := Go.Ground.phase }, { on := 5, ground := Go.Ground.phase }, { on := 6, ground := Go.Ground.phase }, { on := 7, ground := Go.Ground.phase }, { on := 8, ground := Go.Ground.phase }, { on := 9, ground := Go.Ground.phase }, { on := 10, ground := Go.Ground.phase }, { on := 11, ground := Go.Ground.phase }, { on := 12, ground := Go.Ground.phase }, { on := 13, ground := Go.Ground.phase }, { on := 14, ground := Go.Ground.phase }, { on := 15, ground := Go.Ground.phase }, { on := 16, ground := Go.Ground.phase }, { on := 17, ground := Go.Ground.phase }, { on := 18, ground := Go.Ground.phase }, { on := 19, ground := Go.Ground.phase }, { on := 20, ground := Go.Ground.phase }, { on := 21, ground := Go.Ground.phase }, { on := 22, ground := Go.Ground.phase }, { on := 23, ground := Go.Ground.phase }, { on := 24, ground := Go.Ground.phase }, { on := 25, ground := Go.Ground.phase }, { on := 26, ground := Go.Ground.phase }, { on := 27, ground := Go.Ground.phase }], guard := none } (by kernel_rfl) rfl rfl (fun K hK => ?_)
       go_simp
       clear hH
       refine hK.out _ _ HSX.out (fun hH => ?_)
       clear hK K
       (try simp only [Act.put])
       refine wpAnyH_done (by kernel_rfl) ?_ _
       clear hH
       have HFW : Hid (Fr (fun k => k = q) w (W7.setCell ⟨q, 2, none⟩ (.slice (some ⟨G, 0, none⟩) (L.length + 1) cap))) := HF2.out.trans HSX.out.1
       have HRF : Hid (RAt (W7.setCell ⟨q, 2, none⟩ (.slice (some ⟨G, 0, none⟩) (L.length + 1) cap)) q d (.slice (some ⟨gB, 0, none⟩) B.length cB) (some ⟨G, 0, none⟩) cap (L ++ [⟨last + 1, n, fr, data, ap, after, ac', false⟩]) (last + 1)) := by
         refine ⟨?_, ?_⟩
         · rw [List.length_append]
           exact HA8.out
         · refine HL7.out.1.keep ((Fr.refl (fun k => k = q) W7).setCell q 2 _ rfl) ?_
           have := HL7.out.2
           have := HQ1.out
           show ¬ G = q
           omega
       have HSF : Hid (SrcI (W7.setCell ⟨q, 2, none⟩ (.slice (some ⟨G, 0, none⟩) (L.length + 1) cap)) ap after) := by
         rcases HA.out.1 with e | ⟨b, o, e, hbl, hc⟩
         · exact .inl e
         · exact .inr ⟨b, o, e, by have := HSX.out.1.size; omega, fun j hj => fr_below_cell HSX.out.1 (hc j hj) hbl (by have := HA.out.2.2.2.2 b o e; show ¬ b = q; omega)⟩
       have q3f := HSX.out.2
       clear q26 q26' q7 f7 q2 q3
       go_wp2_with fail
       go_ret2
       refine ⟨rfl, G, cap, ap, ac', HRF.out, ?_, HSF.out, ?_, HA.out.2.2.1, ?_, HFW.out⟩
       · have := HL7.out.2; have := HF2.out.size; omega
       · rw [HMA.out]; exact HA.out.2.1
       · intro b o e
         have := HA.out.2.2.2.2 b o e
         have := HF1.out.size
         omega
end
end Go.Proofs.YtanelcdeekichaaGreat
