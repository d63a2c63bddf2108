/- The document's store: Patch. -/
import Derived.Test.YtadadidccbhopaaGreatJRwr2
import Derived.ArgAppend
import Derived.Test.YtadadidccbhopaaGreatKProunds
import Derived.Test.YtadadidccbhopaaGreatJPah3
import Derived.Test.YtadadidccbhopaaGreatJPerr2
namespace Go.Proofs.YtadadidccbhopaaGreat
open Go.RowKit
set_option maxRecDepth 100000
/-- append(nil, after...): a row of one's own. -/
theorem app_copy {w : World} {asp : Option Addr} {after : List Int} (hs : SrcI w asp after) (ac : Nat) (hl : after.length ≤ 1000000) (ty : TypeId) :
    ∃ v' w', (Builtin.append_ #[37, 37] ty #[.slice none 0 0, .slice asp after.length ac]).run Tryz.prog w = .ok v' w' ∧ OwnL w' w.heap.size v' after ∧ Below w.heap.size w w' := by
  obtain ⟨i0, hi, hz0, hz1, hz2⟩ := info_parts Tryz.infoL
  rcases hs with rfl | ⟨b, o, rfl, hb, hc⟩
  · refine ⟨.slice none 0 0, w, ?_, OwnL.nil _ _, Below.refl _ _⟩
    cases asp <;> simp [Builtin.append_, run_underlying Tryz.underlying37, sizeOf, typeInfo, hi, Builtin.lenOf, Builtin.firstCells, loadCells, loadCellsFrom]
  · obtain ⟨v', w', hr, hown, hg, _⟩ := run_append_own (P := Tryz.prog) w w.heap.size 37 ty 2 i0 _ 1 8 Tryz.underlying37 hi hz0 hz1 hz2 rfl (by decide) (.slice none 0 0) 0 [] (World.ownsRow_nil _ _ _ _) ⟨b, o, none⟩ after.length ac (ivs after) (by rw [ivs_length, Nat.mul_one]) (fun j u hj => by
        have hjl : j < after.length := by have := (List.getElem?_eq_some_iff.1 hj).1; rwa [ivs_length] at this
        rw [addr_add, hc j hjl, ← hj]
        simp [ivs, List.getD_eq_getElem?_getD, hjl]) (fun u hu => by
        obtain ⟨x, _, rfl⟩ := List.mem_map.1 hu
        rfl) (by unfold maxLen; omega) (by omega) (Nat.le_refl _)
    refine ⟨v', w', hr, ?_, (Below.refl _ _).grown hg (Nat.le_refl _) (fun k hk => by cases hk)⟩
    unfold OwnL
    rw [Nat.zero_add, List.nil_append] at hown
    exact hown
theorem allH_run {P : Program} {ops : Array Oper} {md : Region.Mode} {Q : Exit → Act → World → Prop} {S : World → Prop} {i : Nat} {o : Oper} {v : Value} {dst : Option Tmp} {fuel : Nat} {listed l2 : Array Bool} {a : Act} {w w' : World} {rs : List Nat} (ho : ops[i]? = some o) (hd : o.dst = dst) (hw : Region.wanted o (yielded ops a.tmps) = true)
    (hrun : (execOp a.eval o).run P w = .ok (.value v) w') (hl : listed.setIfInBounds i true = l2) (hS : S w') (h : wpAnyH P md ops Q S fuel l2 (a.put dst v) w') (hs : AllReadyH P md ops Q S fuel listed a w rs) : AllReadyH P md ops Q S fuel listed a w (i :: rs) :=
  AllReadyH.cons ho (fun K hK => by
    rw [if_pos hw]
    unfold Oper.wp
    rw [hrun]
    exact hK.out _ _ hS (fun _ => by rw [hd, hl]; exact h)) hs
theorem run_lenT {o : Oper} {a : Act} {w : World} {s : Operand} {ao : Option Addr} {n c : Nat} (hop : o.op = .call { callee := .builtin .len, args := #[s], argTypes := #[41] }) (hs : a.eval s = .slice ao n c) : (execOp a.eval o).run Tryz.prog w = .ok (.value (.int .i64 (n : Int))) w := by
  unfold execOp
  simp only [hop, resolve, invoke, builtin]
  simp [hs, Builtin.len_, run_underlying Tryz.underlying41, goInt]
theorem run_slice3 {o : Oper} {a : Act} {w : World} {s x y : Operand} {ao : Option Addr} {n c : Nat} (hop : o.op = .slice 41 s none (some x) (some y)) (hs : a.eval s = .slice ao n c) (hx : a.eval x = .int .i64 (n : Int)) (hy : a.eval y = .int .i64 (n : Int)) (hc : (n : Int) ≤ (c : Int)) (ha : ao = none ∨ ∃ g, ao = some ⟨g, 0, none⟩) : (execOp a.eval o).run Tryz.prog w = .ok (.value (.slice ao n n)) w := by
  unfold execOp
  simp only [hop, hs, Option.map_some, Option.map_none, hx, hy]
  clear hop hs hx hy
  rcases ha with rfl | ⟨g, rfl⟩
  · go_simp
  · go_simp
theorem wpList_apprun {ops : Array Oper} {rest : List Oper} {o : Oper} {a : Act} {w w' : World} {Q : Exit → Act → World → Prop} (hgd : o.guard = none) (s x : Operand) (t : TypeId) (ho : o.op = .call { callee := .builtin .append, args := #[s, x], argTypes := #[t, t] }) {sv xv v : Value} (hs : a.eval s = sv) (hx : a.eval x = xv)
    (hr : (Builtin.append_ #[t, t] o.type #[sv, xv]).run Tryz.prog w = .ok v w') (h : wpList Tryz.prog ops Q rest (a.put o.dst v) w') : wpList Tryz.prog ops Q (o :: rest) a w := by
  refine wpList_plain hgd fun K hK => ?_
  unfold Oper.wp execOp
  simp only [ho, resolve, invoke, builtin]
  simp [hs, hx, hr, Result.andThen]
  exact hK _ _ h
theorem run_appT {P : Program} {o : Oper} {a : Act} {w w' : World} {s x : Operand} {t : TypeId} {sv xv v : Value} (hop : o.op = .call { callee := .builtin .append, args := #[s, x], argTypes := #[t, t] }) (hty : o.type = t) (hs : a.eval s = sv) (hx : a.eval x = xv) (hL : (Builtin.append_ #[t, t] t #[sv, xv]).run P w = .ok v w') : (execOp a.eval o).run P w = .ok (.value v) w' := by
  unfold execOp
  simp only [hop, hty, resolve, invoke, builtin]
  simp [hs, hx, hL, Result.andThen]
/-- A change more behind a list that has no room: a row of one's own. -/
theorem app_full {w : World} {ao : Option Addr} {ca : Nat} {L : List RCh} (h : LAt w ao ca L) (ha : ao = none ∨ ∃ g, ao = some ⟨g, 0, none⟩) (hl : L.length ≤ 1000) (c : RCh) (g cc : Nat) (hc : ∀ j u, (rcL c)[j]? = some u → w.cell? ⟨g, j, none⟩ = some u) (ty : TypeId) :
    ∃ G cap w', (Builtin.append_ #[41, 41] ty #[.slice ao L.length L.length, .slice (some ⟨g, 0, none⟩) 1 cc]).run Tryz.prog w = .ok (.slice (some ⟨G, 0, none⟩) (L.length + 1) cap) w' ∧ LAt w' (some ⟨G, 0, none⟩) cap (L ++ [c]) ∧ w.heap.size ≤ G ∧ Below w.heap.size w w' := by
  obtain ⟨i0, z, hi, hz0, hz1, hz2, hz3⟩ := infoC_parts
  have h1c : ∀ u ∈ rcL c, u.oneCell' = true := fun u hu => by simp [rcL] at hu; rcases hu with rfl | rfl | rfl | rfl | rfl | rfl <;> rfl
  have key : ∀ G cap w', w'.ownsRow w.heap.size 177 6 (.slice (some ⟨G, 0, none⟩) (L.length + 1) cap) (L.length + 1) (rcs L ++ rcL c) → LAt w' (some ⟨G, 0, none⟩) cap (L ++ [c]) ∧ w.heap.size ≤ G := fun G cap w' ho => by
    refine lat_of_own (L := L ++ [c]) (base := w.heap.size) ?_
    rw [List.length_append, rcs_snoc]
    exact ho
  have rcl : ∀ (L : List RCh), (rcs L).length = L.length * 6 := fun L => by
    induction L with
    | nil => rfl
    | cons a L ih =>
      have e : rcs (a :: L) = rcL a ++ rcs L := rfl
      rw [e, List.length_append, ih, List.length_cons]
      show 6 + _ = _
      omega
  rcases ha with rfl | ⟨g0, rfl⟩
  · have hL : L = [] := by
      rcases h.cells with e | ⟨g, e, _⟩
      · exact e
      · cases e
    subst hL
    obtain ⟨G, cap, w', hr, hown, hg, _, _⟩ := run_append_lies (P := Tryz.prog) w 41 ty w.heap.size 177 i0 z 6 72 Tryz.underlying41 hi hz0 hz2 hz3 hz1 (by decide) (.slice none 0 0) 0 [] (World.ownsRow_nil _ _ _ _) ⟨g, 0, none⟩ 1 cc (rcL c) rfl (fun j u hj => by rw [addr_add, Nat.zero_add]; exact hc j u hj) h1c (by omega) (by unfold maxLen; omega) (by omega) (Nat.le_refl _) _ rfl
    obtain ⟨k1, k2⟩ := key G cap w' (by simpa [rcs] using hown)
    exact ⟨G, cap, w', by simpa using hr, k1, k2, (Below.refl _ _).grown hg (Nat.le_refl _) (fun k hk => by cases hk)⟩
  · have hcells : ∀ j u, (rcs L)[j]? = some u → w.cell? ⟨g0, 0 + j, none⟩ = some u := fun j u hj => by
      rw [Nat.zero_add]
      rcases h.cells with e | ⟨g', e, hgl, hcc⟩
      · rw [e] at hj; cases hj
      · cases e
        have hjl : j < L.length * 6 := by have := (List.getElem?_eq_some_iff.1 hj).1; rwa [rcl] at this
        obtain ⟨x, hx⟩ : ∃ x, L[j / 6]? = some x := ⟨_, List.getElem?_eq_getElem (by omega)⟩
        obtain ⟨y, hy⟩ : ∃ y, (rcL x)[j % 6]? = some y := ⟨_, List.getElem?_eq_getElem (by show _ < 6; omega)⟩
        have e1 := rcs_get L (j / 6) x hx (j % 6) y hy
        rw [show j / 6 * 6 + j % 6 = j by omega] at e1
        rw [e1] at hj
        have e2 := hcc (j / 6) x hx (j % 6) y hy
        rw [show j / 6 * 6 + j % 6 = j by omega] at e2
        rw [e2]
        exact hj
    obtain ⟨v', w', hr, hown, hg⟩ := run_append_arg_grows (P := Tryz.prog) w 41 ty 177 i0 z 6 72 Tryz.underlying41 hi hz0 hz2 hz3 hz1 (by decide) ⟨g0, 0, none⟩ L.length L.length (rcs L) (rcl L) (fun j u hj => by rw [addr_add]; exact hcells j u hj) ⟨g, 0, none⟩ 1 cc (rcL c) rfl (fun j u hj => by rw [addr_add, Nat.zero_add]; exact hc j u hj) (by omega) (by unfold maxLen; omega) (by omega)
    obtain ⟨G, cap, rfl⟩ : ∃ G cap, v' = .slice (some ⟨G, 0, none⟩) (L.length + 1) cap := by
      rcases hown.2 with ⟨_, h0⟩ | ⟨g', cap, cur, hv, _⟩
      · omega
      · exact ⟨g', cap, hv⟩
    obtain ⟨k1, k2⟩ := key G cap w' hown
    exact ⟨G, cap, w', hr, k1, k2, (Below.refl _ _).grown hg (Nat.le_refl _) (fun k hk => by cases hk)⟩
section
variable {w : World} {q d gB cB : Nat} {B : List (List UInt8)} {ao : Option Addr} {ca : Nat} {L : List RCh} {last : Nat}
set_option maxHeartbeats 1000000 in
theorem rspatch_out (h : RAt w q d (.slice (some ⟨gB, 0, none⟩) B.length cB) ao ca L last) (hB : BAt w gB cB B) (n : Int) (hn : (decide (0 ≤ n) && decide (n < (B.length : Int))) = false) (fr : Int) (x y : Value) :
    Calls Tryz.prog 65 #[.pointer (some ⟨q, 0, none⟩), .int .i64 n, .int .i64 fr, x, y] w fun e w' => e = .returned (.tuple #[.int .i64 0, .int .i64 3]) ∧ w' = w := by
  have TH := rthere_any h hB n
  rw [hn] at TH
  clear h hB hn
  go_enter Tryz.func65, Tryz.ntmps65
  go_wp2_with (first | (go_at_call 114; refine TH.mono ?_; rintro r w1 ⟨rfl, rfl⟩))
  go_ret2
  exact ⟨rfl, rfl⟩
set_option maxHeartbeats 4000000 in
theorem rspatch_size (h : RAt w q d (.slice (some ⟨gB, 0, none⟩) B.length cB) ao ca L last) (hB : BAt w gB cB B) (n : Int) (hn : (decide (0 ≤ n) && decide (n < (B.length : Int))) = true) (fr : Int) (hfr : -9223372036854775808 ≤ fr ∧ fr ≤ 9223372036854775807) (sp : Option Addr) (m dc : Nat) (hm : (m : Int) ≤ 9223372036854775807) (hbad : m = 0 ∨ fr < 0 ∨ 256 < fr ∨ 256 - fr < (m : Int)) (y : Value) :
    Calls Tryz.prog 65 #[.pointer (some ⟨q, 0, none⟩), .int .i64 n, .int .i64 fr, .slice sp m dc, y] w fun e w' => e = .returned (.tuple #[.int .i64 0, .int .i64 4]) ∧ w' = w := by
  have TH := rthere_any h hB n
  rw [hn] at TH
  clear h hB hn
  go_enter Tryz.func65, Tryz.ntmps65
  by_cases h0 : m = 0
  · subst h0
    go_wp2_with (first | (go_at_call 114; refine TH.mono ?_; rintro r w1 ⟨rfl, rfl⟩))
    go_ret2
    exact ⟨rfl, rfl⟩
  · have hm0 : ¬ (m : Int) = 0 := by omega
    have hm0b : ((m : Int) == 0) = false := by simpa using hm0
    by_cases h1 : fr < 0
    · go_wp2_with (first | (go_at_call 114; refine TH.mono ?_; rintro r w1 ⟨rfl, rfl⟩))
      go_ret2
      exact ⟨rfl, rfl⟩
    · by_cases h2 : 256 < fr
      · go_wp2_with (first | (go_at_call 114; refine TH.mono ?_; rintro r w1 ⟨rfl, rfl⟩))
        go_ret2
        exact ⟨rfl, rfl⟩
      · have h3 : 256 - fr < (m : Int) := by omega
        clear hbad
        go_wp2_with (first | (go_at_call 114; refine TH.mono ?_; rintro r w1 ⟨rfl, rfl⟩))
        go_ret2
        exact ⟨rfl, rfl⟩
set_option maxHeartbeats 8000000 in
theorem rspatch_go (h : RAt w q d (.slice (some ⟨gB, 0, none⟩) B.length cB) ao ca L last) (hB : BAt w gB cB B) (ha : ao = none ∨ ∃ g, ao = some ⟨g, 0, none⟩) (hl : L.length ≤ 1000) (hla : last ≤ 1000000) (n fr : Nat) (hn : n < B.length) (data : List UInt8) (sp : Option Addr) (dc : Nat) (hds : Src w sp data) (hd1 : 1 ≤ data.length) (hf : fr + data.length ≤ 256) (after : List Int) (asp : Option Addr) (ac : Nat) (has : SrcI w asp after) (hal : after.length ≤ 1000) (hkn : ∀ i ∈ after, 1 ≤ i ∧ i ≤ (last : Int)) (hg : ∀ g, ao = some ⟨g, 0, none⟩ → g ≠ q) (hsq : ∀ b o, sp = some ⟨b, o, none⟩ → b ≠ q) (haq : 1 ≤ after.length → ∀ b o, asp = some ⟨b, o, none⟩ → b ≠ q) :
    Calls Tryz.prog 65 #[.pointer (some ⟨q, 0, none⟩), .int .i64 (n : Int), .int .i64 (fr : Int), .slice sp data.length dc, .slice asp after.length ac] w fun e w' => e = .returned (.tuple #[.int .i64 ((last + 1 : Nat) : Int), .int .i64 0]) ∧ ∃ G cap ap' ac', RAt w' q d (.slice (some ⟨gB, 0, none⟩) B.length cB) (some ⟨G, 0, none⟩) cap (L ++ [⟨last + 1, n, fr, data, ap', after, ac', false⟩]) (last + 1) ∧ w.heap.size ≤ G ∧ SrcI w' ap' after ∧ after.length ≤ ac' ∧ (ac' : Int) ≤ 9223372036854775807 ∧ (∀ b o, ap' = some ⟨b, o, none⟩ → w.heap.size ≤ b) ∧ Fr (fun k => k = q) w w' := by
  have TH := rthere_any h hB (n : Int)
  rw [decide_eq_true (by omega), decide_eq_true (by omega)] at TH
  have HR : Hid (RAt w q d (.slice (some ⟨gB, 0, none⟩) B.length cB) ao ca L last) := h
  have hql : q < w.heap.size := (Array.getElem?_eq_some_iff.1 h.at').1
  have HNE : Hid ((∀ g, ao = some ⟨g, 0, none⟩ → g ≠ q) ∧ (∀ b o, sp = some ⟨b, o, none⟩ → b ≠ q) ∧ (1 ≤ after.length → ∀ b o, asp = some ⟨b, o, none⟩ → b ≠ q) ∧ (ao = none ∨ ∃ g, ao = some ⟨g, 0, none⟩) ∧ q < w.heap.size) := ⟨hg, hsq, haq, ha, hql⟩
  have HDS : Hid (Src w sp data) := hds
  have HAS : Hid (SrcI w asp after ∧ ∀ i ∈ after, 1 ≤ i ∧ i ≤ (last : Int)) := ⟨has, hkn⟩
  have hca : (ca : Int) ≤ 9223372036854775807 ∧ L.length ≤ ca := ⟨h.ls.cap.2, h.ls.cap.1⟩
  have q3 := h.c3
  clear hg hsq haq ha hds has hkn h hB
  obtain ⟨m, hmd⟩ : ∃ m, m = data.length := ⟨_, rfl⟩
  have HMD : Hid (m = data.length) := hmd
  rw [← hmd] at hd1 hf ⊢
  clear hmd
  obtain ⟨ma, hma⟩ : ∃ ma, ma = after.length := ⟨_, rfl⟩
  have HMA : Hid (ma = after.length) := hma
  rw [← hma] at hal ⊢
  clear hma
  have hf' : (fr : Int) ≤ 256 - (m : Int) := by omega
  have hm0 : ¬ (m : Int) = 0 := by omega
  have hm0b : ((m : Int) == 0) = false := by simpa using hm0
  have hfr2 : ¬ (256 : Int) < (fr : Int) := by omega
  have hfr3 : ¬ (256 : Int) - (fr : Int) < (m : Int) := by omega
  go_enter Tryz.func65, Tryz.ntmps65
  go_wp2_with (first | (go_at_call 114; refine TH.mono ?_; rintro r w1 ⟨rfl, hw1⟩; obtain rfl : w = w1 := hw1.symm))
  clear TH
  go_loopg [12] 1000 (fun gg t12 W => ∃ (gw : World) (k : Nat), gw = W ∧ k ≤ ma ∧ ma - k ≤ gg ∧ t12 = .int .i64 k ∧ Hid (Below w.heap.size w gw))
  case atStart => exact ⟨_, 0, rfl, by omega, by omega, rfl, Below.refl _ _⟩
  case round =>
    obtain ⟨gw, k, rfl, hk, hgk, rfl, HG⟩ := hrel
    by_cases hlt : (k : Int) < (ma : Int)
    · obtain ⟨b, o, x, rfl, hx, hx1, hx2⟩ : ∃ b o x, asp = some ⟨b, o, none⟩ ∧ gw.cell? ⟨b, o + k, none⟩ = some (.int .i64 x) ∧ 1 ≤ x ∧ x ≤ (last : Int) := by
        have hkl : k < after.length := by have := HMA.out; omega
        rcases HAS.out.1 with e | ⟨b, o, e, hl, hc⟩
        · rw [e] at hkl; cases hkl
        · have h1 := HAS.out.2 _ (getD_mem' hkl)
          exact ⟨b, o, _, e, (HG.out.cell (p := ⟨b, o + k, none⟩) hl).trans (hc k hkl), h1.1, h1.2⟩
      have q3g := (HG.out.cell (p := ⟨q, 3, none⟩) hql).trans q3
      have hx3 : ¬ x < 1 := by omega
      have hx4 : ¬ (last : Int) < x := by omega
      go_upto_region 8 with fail
      go_quiet (fail)
      have HGN : Hid (Below w.heap.size w (gw.drewN nq)) := HG.out.trans ((belowN (Below.refl _ _) nq).mono HG.out.size)
      go_wp2_with fail
      go_roundg (ma - (k + 1))
      case measure => omega
      case rel => exact ⟨_, k + 1, rfl, by omega, by omega, by go_num, HGN.out⟩
    · obtain rfl : ma = k := by omega
      have HAT : Hid (gw.heap[q]? = some (.cells #[.pointer (some ⟨d, 0, none⟩), .slice (some ⟨gB, 0, none⟩) B.length cB, .slice ao L.length ca, .int .i64 (last : Int)] 43 (0, 0))) := (HR.out.up HG.out).at'
      have q3g := (HG.out.cell (p := ⟨q, 3, none⟩) hql).trans q3
      have fz3 : gw.frozen? ⟨q, 3, none⟩ = false := frozen_of_row _ _ _ _ _ HAT.out
      have HF1 : Hid (Fr (fun k => k = q) w (gw.setCell ⟨q, 3, none⟩ (.int .i64 ((last : Int) + 1)))) := (Fr.of_below HG.out).setCell q 3 _ rfl
      have HA1 : Hid ((gw.setCell ⟨q, 3, none⟩ (.int .i64 ((last : Int) + 1))).heap[q]? = some (.cells #[.pointer (some ⟨d, 0, none⟩), .slice (some ⟨gB, 0, none⟩) B.length cB, .slice ao L.length ca, .int .i64 ((last : Int) + 1)] 43 (0, 0))) := heap_setCell_same gw q 3 _ _ (.int .i64 ((last : Int) + 1)) HAT.out
      go_upto_region 11 with fail
      clear q3 q3g fz3 HAT
      generalize gw.setCell ⟨q, 3, none⟩ (.int .i64 ((last : Int) + 1)) = W0 at *
      have HSA : Hid (SrcI W0 asp after) := by
        rcases HAS.out.1 with e | ⟨b, o, e, hl, hc⟩
        · exact .inl e
        · exact .inr ⟨b, o, e, by have := HF1.out.size; omega, fun j hj => fr_below_cell HF1.out (hc j hj) hl (HNE.out.2.2.1 (by omega) b o e)⟩
      obtain ⟨va, W1, hrunA, hownA, hbA⟩ := app_copy HSA.out ac (by have := HMA.out; omega) 37
      obtain ⟨ap, ac', rfl, hsA, hcA, hcmA, _⟩ := hownA.form
      rw [← HMA.out] at hrunA
      have HA : Hid (SrcI W1 ap after ∧ after.length ≤ ac' ∧ (ac' : Int) ≤ 9223372036854775807 ∧ Below W0.heap.size W0 W1 ∧ ∀ b o, ap = some ⟨b, o, none⟩ → W0.heap.size ≤ b) := ⟨hsA, hcA, hcmA, hbA, fun b o e => by
        rcases hownA.2 with ⟨h2, _⟩ | ⟨g, cap, cur, hv, hg, _⟩
        · injection h2 with h2a; rw [h2a] at e; cases e
        · injection hv with hva; rw [hva] at e; cases e; exact hg⟩
      clear hsA hcA hcmA hbA hownA
      go_wp2_with (first | (at_builtin; refine Hid.out ?_))
      change wpList _ _ _ _ _ _
      refine wpList_apprun rfl _ _ _ rfl rfl rfl hrunA ?_
      clear hrunA
      go_upto_region 13 with fail
      have hzq : q < W0.heap.size := (Array.getElem?_eq_some_iff.1 HA1.out).1
      have HA2 : Hid (W1.heap[q]? = some (.cells #[.pointer (some ⟨d, 0, none⟩), .slice (some ⟨gB, 0, none⟩) B.length cB, .slice ao L.length ca, .int .i64 ((last : Int) + 1)] 43 (0, 0))) := (HA.out.2.2.2.1.block q hzq).trans HA1.out
      have HF2 : Hid (Fr (fun k => k = q) w W1) := HF1.out.trans (Fr.of_below HA.out.2.2.2.1)
      have HQ1 : Hid (q < W1.heap.size) := (Array.getElem?_eq_some_iff.1 HA2.out).1
      have q2 : W1.cell? ⟨q, 2, none⟩ = some (.slice ao L.length ca) := (cell_of_row _ _ _ _ _ _ HA2.out).trans rfl
      have q3 : W1.cell? ⟨q, 3, none⟩ = some (.int .i64 ((last : Int) + 1)) := (cell_of_row _ _ _ _ _ _ HA2.out).trans rfl
      have HCV : Hid (∀ W, (Fr (fun k => k = q) W1 W ∧ W.cell? ⟨q, 3, none⟩ = some (.int .i64 ((last : Int) + 1))) → (convert 36 9 (.slice sp m dc)).run Tryz.prog W = .ok (.string (str data)) W) := fun W hW => by
        have h1 : Src W sp data := src_fr HDS.out (HF2.out.trans hW.1) HNE.out.2.1
        exact conv_str h1 m dc HMD.out
      have HL1 : Hid (LAt W1 ao ca L) := by
        refine ⟨HR.out.ls.cap, ?_⟩
        rcases HR.out.ls.cells with e | ⟨g, e, hgl, hcc⟩
        · exact .inl e
        · exact .inr ⟨g, e, by have := HF2.out.size; omega, fun i c hi j v hv => fr_below_cell HF2.out (hcc i c hi j v hv) hgl (HNE.out.1 g e)⟩
      have HS0 : Hid (Fr (fun k => k = q) W1 W1.drew ∧ W1.drew.cell? ⟨q, 3, none⟩ = some (.int .i64 ((last : Int) + 1))) := ⟨(Fr.refl _ _).drew, q3⟩
      have HB6 : Hid (Below W1.heap.size W1 (W1.drew.alloc (.cells #[.int .i64 ((last : Int) + 1), .int .i64 (n : Int), .int .i64 (fr : Int), .string (str data), .slice ap ma ac', .bool false] 177))) := (Below.refl _ _).drew.alloc (Nat.le_refl _) _
      have q26 : (W1.drew.alloc (.cells #[.int .i64 ((last : Int) + 1), .int .i64 (n : Int), .int .i64 (fr : Int), .string (str data), .slice ap ma ac', .bool false] 177)).cell? ⟨q, 2, none⟩ = some (.slice ao L.length ca) := (HB6.out.cell (p := ⟨q, 2, none⟩) HQ1.out).trans q2
      have q26' : (W1.alloc (.cells #[.int .i64 ((last : Int) + 1), .int .i64 (n : Int), .int .i64 (fr : Int), .string (str data), .slice ap ma ac', .bool false] 177)).cell? ⟨q, 2, none⟩ = some (.slice ao L.length ca) := q26
      have HS6 : Hid (Fr (fun k => k = q) W1 (W1.drew.alloc (.cells #[.int .i64 ((last : Int) + 1), .int .i64 (n : Int), .int .i64 (fr : Int), .string (str data), .slice ap ma ac', .bool false] 177)) ∧ (W1.drew.alloc (.cells #[.int .i64 ((last : Int) + 1), .int .i64 (n : Int), .int .i64 (fr : Int), .string (str data), .slice ap ma ac', .bool false] 177)).cell? ⟨q, 3, none⟩ = some (.int .i64 ((last : Int) + 1))) := ⟨Fr.of_below HB6.out, (HB6.out.cell (p := ⟨q, 3, none⟩) HQ1.out).trans q3⟩
      obtain ⟨G, cap, W7, hAPP, hL7, hG7, hB7⟩ := app_full (HL1.out.up HB6.out) HNE.out.2.2.2.1 hl ⟨last + 1, n, fr, data, ap, after, ac', false⟩ W1.heap.size 1 (fun j u hj => by
        have h6 := heap_alloc_new W1.drew (.cells #[.int .i64 ((last : Int) + 1), .int .i64 (n : Int), .int .i64 (fr : Int), .string (str data), .slice ap ma ac', .bool false] 177)
        refine (cell_of_row _ _ _ _ _ _ h6).trans ?_
        rw [← hj, HMA.out]
        rcases j with _ | _ | _ | _ | _ | _ | j <;> rfl) 41
      have HAPP : Hid ((Builtin.append_ #[41, 41] 41 #[.slice ao L.length L.length, .slice (some ⟨W1.heap.size, 0, none⟩) 1 1]).run Tryz.prog (W1.drew.alloc (.cells #[.int .i64 ((last : Int) + 1), .int .i64 (n : Int), .int .i64 (fr : Int), .string (str data), .slice ap ma ac', .bool false] 177)) = .ok (.slice (some ⟨G, 0, none⟩) (L.length + 1) cap) W7) := hAPP
      have HB67 : Hid (Below W1.heap.size W1 W7) := HB6.out.trans (hB7.mono HB6.out.size)
      have HA7 : Hid (W7.heap[q]? = some (.cells #[.pointer (some ⟨d, 0, none⟩), .slice (some ⟨gB, 0, none⟩) B.length cB, .slice ao L.length ca, .int .i64 ((last : Int) + 1)] 43 (0, 0))) := (HB67.out.block q HQ1.out).trans HA2.out
      have q7 : W7.cell? ⟨q, 2, none⟩ = some (.slice ao L.length ca) := (cell_of_row _ _ _ _ _ _ HA7.out).trans rfl
      have f7 : W7.frozen? ⟨q, 2, none⟩ = false := frozen_of_row _ _ _ _ _ HA7.out
      have HS7 : Hid (Fr (fun k => k = q) W1 W7 ∧ W7.cell? ⟨q, 3, none⟩ = some (.int .i64 ((last : Int) + 1))) := ⟨Fr.of_below HB67.out, (cell_of_row _ _ _ _ _ _ HA7.out).trans rfl⟩
      have HA8 : Hid ((W7.setCell ⟨q, 2, none⟩ (.slice (some ⟨G, 0, none⟩) (L.length + 1) cap)).heap[q]? = some (.cells #[.pointer (some ⟨d, 0, none⟩), .slice (some ⟨gB, 0, none⟩) B.length cB, .slice (some ⟨G, 0, none⟩) (L.length + 1) cap, .int .i64 ((last : Int) + 1)] 43 (0, 0))) := heap_setCell_same W7 q 2 _ _ (.slice (some ⟨G, 0, none⟩) (L.length + 1) cap) HA7.out
      have HSX : Hid (Fr (fun k => k = q) W1 (W7.setCell ⟨q, 2, none⟩ (.slice (some ⟨G, 0, none⟩) (L.length + 1) cap)) ∧ (W7.setCell ⟨q, 2, none⟩ (.slice (some ⟨G, 0, none⟩) (L.length + 1) cap)).cell? ⟨q, 3, none⟩ = some (.int .i64 ((last : Int) + 1))) := ⟨HS7.out.1.setCell q 2 _ rfl, (cell_of_row _ _ _ _ _ _ HA8.out).trans rfl⟩
      have HL7 : Hid (LAt W7 (some ⟨G, 0, none⟩) cap (L ++ [⟨last + 1, n, fr, data, ap, after, ac', false⟩]) ∧ W1.heap.size ≤ G) := ⟨hL7, by have := HB6.out.size; omega⟩
      clear hAPP hL7 hG7 hB7
      have hlca : (L.length : Int) ≤ (ca : Int) := by omega
      have LQ0 : Hid ((Instr.loadAt 41 (.pointer (some ⟨q, 2, none⟩))).run Tryz.prog W1.drew = .ok (.slice ao L.length ca) W1.drew) := by show _ = _; go_simp
      have LQ6 : Hid ((Instr.loadAt 41 (.pointer (some ⟨q, 2, none⟩))).run Tryz.prog (W1.drew.alloc (.cells #[.int .i64 ((last : Int) + 1), .int .i64 (n : Int), .int .i64 (fr : Int), .string (str data), .slice ap ma ac', .bool false] 177)) = .ok (.slice ao L.length ca) (W1.drew.alloc (.cells #[.int .i64 ((last : Int) + 1), .int .i64 (n : Int), .int .i64 (fr : Int), .string (str data), .slice ap ma ac', .bool false] 177))) := by show _ = _; go_simp
      have BS : Hid ((Instr.buildSlice 41 1 #[(0, .agg #[.int .i64 ((last : Int) + 1), .int .i64 (n : Int), .int .i64 (fr : Int), .string (str data), .slice ap ma ac', .bool false])]).run Tryz.prog W1.drew = .ok (.slice (some ⟨W1.heap.size, 0, none⟩) 1 1) (W1.drew.alloc (.cells #[.int .i64 ((last : Int) + 1), .int .i64 (n : Int), .int .i64 (fr : Int), .string (str data), .slice ap ma ac', .bool false] 177))) := by show _ = _; go_simp
      refine wp_region_held_drew (S := (fun W => Fr (fun k => k = q) W1 W ∧ W.cell? ⟨q, 3, none⟩ = some (.int .i64 ((last : Int) + 1)))) (by kernel_rfl) HS0.out (fun hH => ?_)
      refine takeH (i := 0) (dst := some 68) (v := ?v1) rfl rfl (by kernel_rfl) (by kernel_rfl) (by kernel_rfl) (fun _ _ _ h => h) rfl ?hy1 hH rfl ?rest1
      case hy1 => (intro W hW; (try dsimp only at hW); go_simp; try with_reducible rfl)
      (try simp only [Act.put, List.setIfInBounds_toArray, List.set_cons_zero, List.set_cons_succ])
      refine takeH (i := 1) (dst := some 69) (v := ?v2) rfl rfl (by kernel_rfl) (by kernel_rfl) (by kernel_rfl) (fun _ _ _ h => h) rfl ?hy2 hH rfl ?rest2
      case hy2 => (intro W hW; (try dsimp only at hW); go_simp; try with_reducible rfl)
      (try simp only [Act.put, List.setIfInBounds_toArray, List.set_cons_zero, List.set_cons_succ])
      refine takeH (i := 2) (dst := some 70) (v := ?v3) rfl rfl (by kernel_rfl) (by kernel_rfl) (by kernel_rfl) (fun _ _ _ h => h) rfl ?hy3 hH rfl ?rest3
      case hy3 => (intro W hW; (try dsimp only at hW); go_simp; try with_reducible rfl)
      (try simp only [Act.put, List.setIfInBounds_toArray, List.set_cons_zero, List.set_cons_succ])
      refine takeH (i := 3) (dst := some 71) (v := ?v4) rfl rfl (by kernel_rfl) (by kernel_rfl) (by kernel_rfl) (fun _ _ _ h => h) rfl ?hy4 hH rfl ?rest4
      case hy4 => (intro W hW; (try dsimp only at hW); go_simp; try with_reducible rfl)
      (try simp only [Act.put, List.setIfInBounds_toArray, List.set_cons_zero, List.set_cons_succ])
      refine takeH (i := 5) (dst := some 73) (v := ?v5) rfl rfl (by kernel_rfl) (by kernel_rfl) (by kernel_rfl) (fun _ _ _ h => h) rfl ?hy5 hH rfl ?rest5
      case hy5 => (intro W hW; (try dsimp only at hW); go_simp; try with_reducible rfl)
      (try simp only [Act.put, List.setIfInBounds_toArray, List.set_cons_zero, List.set_cons_succ])
      refine takeH (i := 6) (dst := some 74) (v := ?v6) rfl rfl (by kernel_rfl) (by kernel_rfl) (by kernel_rfl) (fun _ _ _ h => h) rfl ?hy6 hH rfl ?rest6
      case hy6 => (intro W hW; (try dsimp only at hW); go_simp; try with_reducible rfl)
      (try simp only [Act.put, List.setIfInBounds_toArray, List.set_cons_zero, List.set_cons_succ])
      refine takeH (i := 7) (dst := some 75) (v := ?v7) rfl rfl (by kernel_rfl) (by kernel_rfl) (by kernel_rfl) (fun _ _ _ h => h) rfl ?hy7 hH rfl ?rest7
      case hy7 => (intro W hW; (try dsimp only at hW); go_simp; try with_reducible rfl)
      (try simp only [Act.put, List.setIfInBounds_toArray, List.set_cons_zero, List.set_cons_succ])
      refine takeH (i := 10) (dst := some 78) (v := ?v8) rfl rfl (by kernel_rfl) (by kernel_rfl) (by kernel_rfl) (fun _ _ _ h => h) rfl ?hy8 hH rfl ?rest8
      case hy8 => (intro W hW; (try dsimp only at hW); go_simp; try with_reducible rfl)
      (try simp only [Act.put, List.setIfInBounds_toArray, List.set_cons_zero, List.set_cons_succ])
      refine takeH (i := 11) (dst := some 79) (v := ?v9) rfl rfl (by kernel_rfl) (by kernel_rfl) (by kernel_rfl) (fun _ _ _ h => h) rfl ?hy9 hH rfl ?rest9
      case hy9 => (intro W hW; (try dsimp only at hW); go_simp; try with_reducible rfl)
      (try simp only [Act.put, List.setIfInBounds_toArray, List.set_cons_zero, List.set_cons_succ])
      refine takeH (i := 12) (dst := some 80) (v := ?v10) rfl rfl (by kernel_rfl) (by kernel_rfl) (by kernel_rfl) (fun _ _ _ h => h) rfl ?hy10 hH rfl ?rest10
      case hy10 => (intro W hW; (try dsimp only at hW); go_simp; try with_reducible rfl)
      (try simp only [Act.put, List.setIfInBounds_toArray, List.set_cons_zero, List.set_cons_succ])
      refine takeH (i := 16) (dst := some 84) (v := ?v11) rfl rfl (by kernel_rfl) (by kernel_rfl) (by kernel_rfl) (fun _ _ _ h => h) rfl ?hy11 hH rfl ?rest11
      case hy11 => (intro W hW; (try dsimp only at hW); go_simp; try with_reducible rfl)
      (try simp only [Act.put, List.setIfInBounds_toArray, List.set_cons_zero, List.set_cons_succ])
      refine takeH (i := 17) (dst := some 85) (v := ?v12) rfl rfl (by kernel_rfl) (by kernel_rfl) (by kernel_rfl) (fun _ _ _ h => h) rfl ?hy12 hH rfl ?rest12
      case hy12 => (intro W hW; (try dsimp only at hW); go_simp; try with_reducible rfl)
      (try simp only [Act.put, List.setIfInBounds_toArray, List.set_cons_zero, List.set_cons_succ])
      refine takeH (i := 18) (dst := some 86) (v := ?v13) rfl rfl (by kernel_rfl) (by kernel_rfl) (by kernel_rfl) (fun _ _ _ h => h) rfl ?hy13 hH rfl ?rest13
      case hy13 => (intro W hW; (try dsimp only at hW); go_simp; try with_reducible rfl)
      (try simp only [Act.put, List.setIfInBounds_toArray, List.set_cons_zero, List.set_cons_succ])
      refine takeH (i := 19) (dst := some 87) (v := ?v14) rfl rfl (by kernel_rfl) (by kernel_rfl) (by kernel_rfl) (fun _ _ _ h => h) rfl ?hy14 hH rfl ?rest14
      case hy14 => (intro W hW; have k3 := hW.2; clear hW; go_simp; try with_reducible rfl)
      (try simp only [Act.put, List.setIfInBounds_toArray, List.set_cons_zero, List.set_cons_succ])
      refine takeH (i := 20) (dst := some 88) (v := ?v15) rfl rfl (by kernel_rfl) (by kernel_rfl) (by kernel_rfl) (fun _ _ _ h => h) rfl ?hy15 hH rfl ?rest15
      case hy15 => (intro W hW; (try dsimp only at hW); go_simp; try with_reducible rfl)
      (try simp only [Act.put, List.setIfInBounds_toArray, List.set_cons_zero, List.set_cons_succ])
      refine takeH (i := 21) (dst := some 89) (v := ?v16) rfl rfl (by kernel_rfl) (by kernel_rfl) (by kernel_rfl) (fun _ _ _ h => h) rfl ?hy16 hH rfl ?rest16
      case hy16 => (intro W hW; (try dsimp only at hW); go_simp; try with_reducible rfl)
      (try simp only [Act.put, List.setIfInBounds_toArray, List.set_cons_zero, List.set_cons_succ])
      refine takeH (i := 22) (dst := some 90) (v := ?v17) rfl rfl (by kernel_rfl) (by kernel_rfl) (by kernel_rfl) (fun _ _ _ h => h) rfl ?hy17 hH rfl ?rest17
      case hy17 => (intro W hW; (try dsimp only at hW); go_simp; try with_reducible rfl)
      (try simp only [Act.put, List.setIfInBounds_toArray, List.set_cons_zero, List.set_cons_succ])
      refine takeH (i := 23) (dst := some 91) (v := ?v18) rfl rfl (by kernel_rfl) (by kernel_rfl) (by kernel_rfl) (fun _ _ _ h => h) rfl ?hy18 hH rfl ?rest18
      case hy18 => (intro W hW; have kd := HCV.out W hW; clear hW; go_simp; try with_reducible rfl)
      (try simp only [Act.put, List.setIfInBounds_toArray, List.set_cons_zero, List.set_cons_succ])
      refine takeH (i := 24) (dst := some 92) (v := ?v19) rfl rfl (by kernel_rfl) (by kernel_rfl) (by kernel_rfl) (fun _ _ _ h => h) rfl ?hy19 hH rfl ?rest19
      case hy19 => (intro W hW; (try dsimp only at hW); go_simp; try with_reducible rfl)
      (try simp only [Act.put, List.setIfInBounds_toArray, List.set_cons_zero, List.set_cons_succ])
      refine takeH (i := 25) (dst := some 93) (v := ?v20) rfl rfl (by kernel_rfl) (by kernel_rfl) (by kernel_rfl) (fun _ _ _ h => h) rfl ?hy20 hH rfl ?rest20
      case hy20 => (intro W hW; (try dsimp only at hW); go_simp; try with_reducible rfl)
      (try simp only [Act.put, List.setIfInBounds_toArray, List.set_cons_zero, List.set_cons_succ])
      clear hH
      refine (fun (F1111 : ?TF1111) => ?gF1111) ?pF1111
      case gF1111 =>
       refine (fun (F1110 : ?TF1110) => ?gF1110) ?pF1110
       case gF1110 =>
        refine (fun (F1101 : ?TF1101) => ?gF1101) ?pF1101
        case gF1101 =>
         refine (fun (F1011 : ?TF1011) => ?gF1011) ?pF1011
         case gF1011 =>
          refine (fun (F0111 : ?TF0111) => ?gF0111) ?pF0111
          case gF0111 =>
           refine (fun (F1100 : ?TF1100) => ?gF1100) ?pF1100
           case gF1100 =>
            refine (fun (F1010 : ?TF1010) => ?gF1010) ?pF1010
            case gF1010 =>
             refine (fun (F1001 : ?TF1001) => ?gF1001) ?pF1001
             case gF1001 =>
              refine (fun (F0110 : ?TF0110) => ?gF0110) ?pF0110
              case gF0110 =>
               refine (fun (F0101 : ?TF0101) => ?gF0101) ?pF0101
               case gF0101 =>
                refine (fun (F0011 : ?TF0011) => ?gF0011) ?pF0011
                case gF0011 =>
                 refine (fun (F1000 : ?TF1000) => ?gF1000) ?pF1000
                 case gF1000 =>
                  refine (fun (F0100 : ?TF0100) => ?gF0100) ?pF0100
                  case gF0100 =>
                   refine (fun (F0010 : ?TF0010) => ?gF0010) ?pF0010
                   case gF0010 =>
                    refine (fun (F0001 : ?TF0001) => ?gF0001) ?pF0001
                    case gF0001 =>
                     have hH := HS0.out
                     refine wpAnyH_ready (rs := [4, 8, 13, 26]) (by kernel_rfl) (by simp) (allH_run (v := .slice ao L.length ca) (w' := W1.drew) (dst := some 72) rfl rfl rfl (run_load rfl rfl LQ0.out) rfl HS0.out ?_ (allH_run (v := .slice ao L.length ca) (w' := W1.drew) (dst := some 76) rfl rfl rfl (run_load rfl rfl LQ0.out) rfl HS0.out ?_ (allH_run (v := .slice ao L.length ca) (w' := W1.drew) (dst := some 81) rfl rfl rfl (run_load rfl rfl LQ0.out) rfl HS0.out ?_ (allH_run (v := .slice (some ⟨W1.heap.size, 0, none⟩) 1 1) (w' := W1.drew.alloc (.cells #[.int .i64 ((last : Int) + 1), .int .i64 (n : Int), .int .i64 (fr : Int), .string (str data), .slice ap ma ac', .bool false] 177)) (dst := some 94) rfl rfl rfl (run_build rfl rfl BS.out) rfl HS6.out ?_ AllReadyH.nil))))
                     · clear hH
                       have hH := HS0.out
                       (try simp only [Act.put, List.setIfInBounds_toArray, List.set_cons_zero, List.set_cons_succ])
                       exact F1000
                     · clear hH
                       have hH := HS0.out
                       (try simp only [Act.put, List.setIfInBounds_toArray, List.set_cons_zero, List.set_cons_succ])
                       refine takeH (i := 9) (dst := some 77) (v := .int .i64 (L.length : Int)) rfl rfl (by kernel_rfl) (by kernel_rfl) (by kernel_rfl) (fun _ _ _ h => h) rfl (fun _ _ => run_lenT rfl rfl) hH rfl ?_
                       (try simp only [Act.put, List.setIfInBounds_toArray, List.set_cons_zero, List.set_cons_succ])
                       exact F0100
                     · clear hH
                       have hH := HS0.out
                       (try simp only [Act.put, List.setIfInBounds_toArray, List.set_cons_zero, List.set_cons_succ])
                       refine takeH (i := 14) (dst := some 82) (v := .int .i64 (L.length : Int)) rfl rfl (by kernel_rfl) (by kernel_rfl) (by kernel_rfl) (fun _ _ _ h => h) rfl (fun _ _ => run_lenT rfl rfl) hH rfl ?_
                       (try simp only [Act.put, List.setIfInBounds_toArray, List.set_cons_zero, List.set_cons_succ])
                       exact F0010
                     · clear hH
                       have hH := HS6.out
                       (try simp only [Act.put, List.setIfInBounds_toArray, List.set_cons_zero, List.set_cons_succ])
                       exact F0001
                    case pF0001 =>
                     have hH := HS6.out
                     refine wpAnyH_ready (rs := [4, 8, 13]) (by kernel_rfl) (by simp) (allH_run (v := .slice ao L.length ca) (w' := (W1.drew.alloc (.cells #[.int .i64 ((last : Int) + 1), .int .i64 (n : Int), .int .i64 (fr : Int), .string (str data), .slice ap ma ac', .bool false] 177))) (dst := some 72) rfl rfl rfl (run_load rfl rfl LQ6.out) rfl HS6.out ?_ (allH_run (v := .slice ao L.length ca) (w' := (W1.drew.alloc (.cells #[.int .i64 ((last : Int) + 1), .int .i64 (n : Int), .int .i64 (fr : Int), .string (str data), .slice ap ma ac', .bool false] 177))) (dst := some 76) rfl rfl rfl (run_load rfl rfl LQ6.out) rfl HS6.out ?_ (allH_run (v := .slice ao L.length ca) (w' := (W1.drew.alloc (.cells #[.int .i64 ((last : Int) + 1), .int .i64 (n : Int), .int .i64 (fr : Int), .string (str data), .slice ap ma ac', .bool false] 177))) (dst := some 81) rfl rfl rfl (run_load rfl rfl LQ6.out) rfl HS6.out ?_ AllReadyH.nil)))
                     · clear hH
                       have hH := HS6.out
                       (try simp only [Act.put, List.setIfInBounds_toArray, List.set_cons_zero, List.set_cons_succ])
                       exact F1001
                     · clear hH
                       have hH := HS6.out
                       (try simp only [Act.put, List.setIfInBounds_toArray, List.set_cons_zero, List.set_cons_succ])
                       refine takeH (i := 9) (dst := some 77) (v := .int .i64 (L.length : Int)) rfl rfl (by kernel_rfl) (by kernel_rfl) (by kernel_rfl) (fun _ _ _ h => h) rfl (fun _ _ => run_lenT rfl rfl) hH rfl ?_
                       (try simp only [Act.put, List.setIfInBounds_toArray, List.set_cons_zero, List.set_cons_succ])
                       exact F0101
                     · clear hH
                       have hH := HS6.out
                       (try simp only [Act.put, List.setIfInBounds_toArray, List.set_cons_zero, List.set_cons_succ])
                       refine takeH (i := 14) (dst := some 82) (v := .int .i64 (L.length : Int)) rfl rfl (by kernel_rfl) (by kernel_rfl) (by kernel_rfl) (fun _ _ _ h => h) rfl (fun _ _ => run_lenT rfl rfl) hH rfl ?_
                       (try simp only [Act.put, List.setIfInBounds_toArray, List.set_cons_zero, List.set_cons_succ])
                       exact F0011
                   case pF0010 =>
                    have hH := HS0.out
                    refine wpAnyH_ready (rs := [4, 8, 26]) (by kernel_rfl) (by simp) (allH_run (v := .slice ao L.length ca) (w' := W1.drew) (dst := some 72) rfl rfl rfl (run_load rfl rfl LQ0.out) rfl HS0.out ?_ (allH_run (v := .slice ao L.length ca) (w' := W1.drew) (dst := some 76) rfl rfl rfl (run_load rfl rfl LQ0.out) rfl HS0.out ?_ (allH_run (v := .slice (some ⟨W1.heap.size, 0, none⟩) 1 1) (w' := W1.drew.alloc (.cells #[.int .i64 ((last : Int) + 1), .int .i64 (n : Int), .int .i64 (fr : Int), .string (str data), .slice ap ma ac', .bool false] 177)) (dst := some 94) rfl rfl rfl (run_build rfl rfl BS.out) rfl HS6.out ?_ AllReadyH.nil)))
                    · clear hH
                      have hH := HS0.out
                      (try simp only [Act.put, List.setIfInBounds_toArray, List.set_cons_zero, List.set_cons_succ])
                      exact F1010
                    · clear hH
                      have hH := HS0.out
                      (try simp only [Act.put, List.setIfInBounds_toArray, List.set_cons_zero, List.set_cons_succ])
                      refine takeH (i := 9) (dst := some 77) (v := .int .i64 (L.length : Int)) rfl rfl (by kernel_rfl) (by kernel_rfl) (by kernel_rfl) (fun _ _ _ h => h) rfl (fun _ _ => run_lenT rfl rfl) hH rfl ?_
                      (try simp only [Act.put, List.setIfInBounds_toArray, List.set_cons_zero, List.set_cons_succ])
                      exact F0110
                    · clear hH
                      have hH := HS6.out
                      (try simp only [Act.put, List.setIfInBounds_toArray, List.set_cons_zero, List.set_cons_succ])
                      exact F0011
                  case pF0100 =>
                   have hH := HS0.out
                   refine wpAnyH_ready (rs := [4, 13, 26]) (by kernel_rfl) (by simp) (allH_run (v := .slice ao L.length ca) (w' := W1.drew) (dst := some 72) rfl rfl rfl (run_load rfl rfl LQ0.out) rfl HS0.out ?_ (allH_run (v := .slice ao L.length ca) (w' := W1.drew) (dst := some 81) rfl rfl rfl (run_load rfl rfl LQ0.out) rfl HS0.out ?_ (allH_run (v := .slice (some ⟨W1.heap.size, 0, none⟩) 1 1) (w' := W1.drew.alloc (.cells #[.int .i64 ((last : Int) + 1), .int .i64 (n : Int), .int .i64 (fr : Int), .string (str data), .slice ap ma ac', .bool false] 177)) (dst := some 94) rfl rfl rfl (run_build rfl rfl BS.out) rfl HS6.out ?_ AllReadyH.nil)))
                   · clear hH
                     have hH := HS0.out
                     (try simp only [Act.put, List.setIfInBounds_toArray, List.set_cons_zero, List.set_cons_succ])
                     exact F1100
                   · clear hH
                     have hH := HS0.out
                     (try simp only [Act.put, List.setIfInBounds_toArray, List.set_cons_zero, List.set_cons_succ])
                     refine takeH (i := 14) (dst := some 82) (v := .int .i64 (L.length : Int)) rfl rfl (by kernel_rfl) (by kernel_rfl) (by kernel_rfl) (fun _ _ _ h => h) rfl (fun _ _ => run_lenT rfl rfl) hH rfl ?_
                     (try simp only [Act.put, List.setIfInBounds_toArray, List.set_cons_zero, List.set_cons_succ])
                     exact F0110
                   · clear hH
                     have hH := HS6.out
                     (try simp only [Act.put, List.setIfInBounds_toArray, List.set_cons_zero, List.set_cons_succ])
                     exact F0101
                 case pF1000 =>
                  have hH := HS0.out
                  refine wpAnyH_ready (rs := [8, 13, 26]) (by kernel_rfl) (by simp) (allH_run (v := .slice ao L.length ca) (w' := W1.drew) (dst := some 76) rfl rfl rfl (run_load rfl rfl LQ0.out) rfl HS0.out ?_ (allH_run (v := .slice ao L.length ca) (w' := W1.drew) (dst := some 81) rfl rfl rfl (run_load rfl rfl LQ0.out) rfl HS0.out ?_ (allH_run (v := .slice (some ⟨W1.heap.size, 0, none⟩) 1 1) (w' := W1.drew.alloc (.cells #[.int .i64 ((last : Int) + 1), .int .i64 (n : Int), .int .i64 (fr : Int), .string (str data), .slice ap ma ac', .bool false] 177)) (dst := some 94) rfl rfl rfl (run_build rfl rfl BS.out) rfl HS6.out ?_ AllReadyH.nil)))
                  · clear hH
                    have hH := HS0.out
                    (try simp only [Act.put, List.setIfInBounds_toArray, List.set_cons_zero, List.set_cons_succ])
                    refine takeH (i := 9) (dst := some 77) (v := .int .i64 (L.length : Int)) rfl rfl (by kernel_rfl) (by kernel_rfl) (by kernel_rfl) (fun _ _ _ h => h) rfl (fun _ _ => run_lenT rfl rfl) hH rfl ?_
                    (try simp only [Act.put, List.setIfInBounds_toArray, List.set_cons_zero, List.set_cons_succ])
                    exact F1100
                  · clear hH
                    have hH := HS0.out
                    (try simp only [Act.put, List.setIfInBounds_toArray, List.set_cons_zero, List.set_cons_succ])
                    refine takeH (i := 14) (dst := some 82) (v := .int .i64 (L.length : Int)) rfl rfl (by kernel_rfl) (by kernel_rfl) (by kernel_rfl) (fun _ _ _ h => h) rfl (fun _ _ => run_lenT rfl rfl) hH rfl ?_
                    (try simp only [Act.put, List.setIfInBounds_toArray, List.set_cons_zero, List.set_cons_succ])
                    exact F1010
                  · clear hH
                    have hH := HS6.out
                    (try simp only [Act.put, List.setIfInBounds_toArray, List.set_cons_zero, List.set_cons_succ])
                    exact F1001
                case pF0011 =>
                 have hH := HS6.out
                 refine wpAnyH_ready (rs := [4, 8]) (by kernel_rfl) (by simp) (allH_run (v := .slice ao L.length ca) (w' := (W1.drew.alloc (.cells #[.int .i64 ((last : Int) + 1), .int .i64 (n : Int), .int .i64 (fr : Int), .string (str data), .slice ap ma ac', .bool false] 177))) (dst := some 72) rfl rfl rfl (run_load rfl rfl LQ6.out) rfl HS6.out ?_ (allH_run (v := .slice ao L.length ca) (w' := (W1.drew.alloc (.cells #[.int .i64 ((last : Int) + 1), .int .i64 (n : Int), .int .i64 (fr : Int), .string (str data), .slice ap ma ac', .bool false] 177))) (dst := some 76) rfl rfl rfl (run_load rfl rfl LQ6.out) rfl HS6.out ?_ AllReadyH.nil))
                 · clear hH
                   have hH := HS6.out
                   (try simp only [Act.put, List.setIfInBounds_toArray, List.set_cons_zero, List.set_cons_succ])
                   exact F1011
                 · clear hH
                   have hH := HS6.out
                   (try simp only [Act.put, List.setIfInBounds_toArray, List.set_cons_zero, List.set_cons_succ])
                   refine takeH (i := 9) (dst := some 77) (v := .int .i64 (L.length : Int)) rfl rfl (by kernel_rfl) (by kernel_rfl) (by kernel_rfl) (fun _ _ _ h => h) rfl (fun _ _ => run_lenT rfl rfl) hH rfl ?_
                   (try simp only [Act.put, List.setIfInBounds_toArray, List.set_cons_zero, List.set_cons_succ])
                   exact F0111
               case pF0101 =>
                have hH := HS6.out
                refine wpAnyH_ready (rs := [4, 13]) (by kernel_rfl) (by simp) (allH_run (v := .slice ao L.length ca) (w' := (W1.drew.alloc (.cells #[.int .i64 ((last : Int) + 1), .int .i64 (n : Int), .int .i64 (fr : Int), .string (str data), .slice ap ma ac', .bool false] 177))) (dst := some 72) rfl rfl rfl (run_load rfl rfl LQ6.out) rfl HS6.out ?_ (allH_run (v := .slice ao L.length ca) (w' := (W1.drew.alloc (.cells #[.int .i64 ((last : Int) + 1), .int .i64 (n : Int), .int .i64 (fr : Int), .string (str data), .slice ap ma ac', .bool false] 177))) (dst := some 81) rfl rfl rfl (run_load rfl rfl LQ6.out) rfl HS6.out ?_ AllReadyH.nil))
                · clear hH
                  have hH := HS6.out
                  (try simp only [Act.put, List.setIfInBounds_toArray, List.set_cons_zero, List.set_cons_succ])
                  exact F1101
                · clear hH
                  have hH := HS6.out
                  (try simp only [Act.put, List.setIfInBounds_toArray, List.set_cons_zero, List.set_cons_succ])
                  refine takeH (i := 14) (dst := some 82) (v := .int .i64 (L.length : Int)) rfl rfl (by kernel_rfl) (by kernel_rfl) (by kernel_rfl) (fun _ _ _ h => h) rfl (fun _ _ => run_lenT rfl rfl) hH rfl ?_
                  (try simp only [Act.put, List.setIfInBounds_toArray, List.set_cons_zero, List.set_cons_succ])
                  exact F0111
              case pF0110 =>
               have hH := HS0.out
               refine wpAnyH_ready (rs := [4, 26]) (by kernel_rfl) (by simp) (allH_run (v := .slice ao L.length ca) (w' := W1.drew) (dst := some 72) rfl rfl rfl (run_load rfl rfl LQ0.out) rfl HS0.out ?_ (allH_run (v := .slice (some ⟨W1.heap.size, 0, none⟩) 1 1) (w' := W1.drew.alloc (.cells #[.int .i64 ((last : Int) + 1), .int .i64 (n : Int), .int .i64 (fr : Int), .string (str data), .slice ap ma ac', .bool false] 177)) (dst := some 94) rfl rfl rfl (run_build rfl rfl BS.out) rfl HS6.out ?_ AllReadyH.nil))
               · clear hH
                 have hH := HS0.out
                 (try simp only [Act.put, List.setIfInBounds_toArray, List.set_cons_zero, List.set_cons_succ])
                 refine takeH (i := 15) (dst := some 83) (v := .slice ao L.length L.length) rfl rfl (by kernel_rfl) (by kernel_rfl) (by kernel_rfl) (fun _ _ _ h => h) rfl (fun _ _ => run_slice3 rfl rfl rfl rfl hlca HNE.out.2.2.2.1) hH rfl ?_
                 (try simp only [Act.put, List.setIfInBounds_toArray, List.set_cons_zero, List.set_cons_succ])
                 exact F1110
               · clear hH
                 have hH := HS6.out
                 (try simp only [Act.put, List.setIfInBounds_toArray, List.set_cons_zero, List.set_cons_succ])
                 exact F0111
             case pF1001 =>
              have hH := HS6.out
              refine wpAnyH_ready (rs := [8, 13]) (by kernel_rfl) (by simp) (allH_run (v := .slice ao L.length ca) (w' := (W1.drew.alloc (.cells #[.int .i64 ((last : Int) + 1), .int .i64 (n : Int), .int .i64 (fr : Int), .string (str data), .slice ap ma ac', .bool false] 177))) (dst := some 76) rfl rfl rfl (run_load rfl rfl LQ6.out) rfl HS6.out ?_ (allH_run (v := .slice ao L.length ca) (w' := (W1.drew.alloc (.cells #[.int .i64 ((last : Int) + 1), .int .i64 (n : Int), .int .i64 (fr : Int), .string (str data), .slice ap ma ac', .bool false] 177))) (dst := some 81) rfl rfl rfl (run_load rfl rfl LQ6.out) rfl HS6.out ?_ AllReadyH.nil))
              · clear hH
                have hH := HS6.out
                (try simp only [Act.put, List.setIfInBounds_toArray, List.set_cons_zero, List.set_cons_succ])
                refine takeH (i := 9) (dst := some 77) (v := .int .i64 (L.length : Int)) rfl rfl (by kernel_rfl) (by kernel_rfl) (by kernel_rfl) (fun _ _ _ h => h) rfl (fun _ _ => run_lenT rfl rfl) hH rfl ?_
                (try simp only [Act.put, List.setIfInBounds_toArray, List.set_cons_zero, List.set_cons_succ])
                exact F1101
              · clear hH
                have hH := HS6.out
                (try simp only [Act.put, List.setIfInBounds_toArray, List.set_cons_zero, List.set_cons_succ])
                refine takeH (i := 14) (dst := some 82) (v := .int .i64 (L.length : Int)) rfl rfl (by kernel_rfl) (by kernel_rfl) (by kernel_rfl) (fun _ _ _ h => h) rfl (fun _ _ => run_lenT rfl rfl) hH rfl ?_
                (try simp only [Act.put, List.setIfInBounds_toArray, List.set_cons_zero, List.set_cons_succ])
                exact F1011
            case pF1010 =>
             have hH := HS0.out
             refine wpAnyH_ready (rs := [8, 26]) (by kernel_rfl) (by simp) (allH_run (v := .slice ao L.length ca) (w' := W1.drew) (dst := some 76) rfl rfl rfl (run_load rfl rfl LQ0.out) rfl HS0.out ?_ (allH_run (v := .slice (some ⟨W1.heap.size, 0, none⟩) 1 1) (w' := W1.drew.alloc (.cells #[.int .i64 ((last : Int) + 1), .int .i64 (n : Int), .int .i64 (fr : Int), .string (str data), .slice ap ma ac', .bool false] 177)) (dst := some 94) rfl rfl rfl (run_build rfl rfl BS.out) rfl HS6.out ?_ AllReadyH.nil))
             · clear hH
               have hH := HS0.out
               (try simp only [Act.put, List.setIfInBounds_toArray, List.set_cons_zero, List.set_cons_succ])
               refine takeH (i := 9) (dst := some 77) (v := .int .i64 (L.length : Int)) rfl rfl (by kernel_rfl) (by kernel_rfl) (by kernel_rfl) (fun _ _ _ h => h) rfl (fun _ _ => run_lenT rfl rfl) hH rfl ?_
               (try simp only [Act.put, List.setIfInBounds_toArray, List.set_cons_zero, List.set_cons_succ])
               refine takeH (i := 15) (dst := some 83) (v := .slice ao L.length L.length) rfl rfl (by kernel_rfl) (by kernel_rfl) (by kernel_rfl) (fun _ _ _ h => h) rfl (fun _ _ => run_slice3 rfl rfl rfl rfl hlca HNE.out.2.2.2.1) hH rfl ?_
               (try simp only [Act.put, List.setIfInBounds_toArray, List.set_cons_zero, List.set_cons_succ])
               exact F1110
             · clear hH
               have hH := HS6.out
               (try simp only [Act.put, List.setIfInBounds_toArray, List.set_cons_zero, List.set_cons_succ])
               exact F1011
           case pF1100 =>
            have hH := HS0.out
            refine wpAnyH_ready (rs := [13, 26]) (by kernel_rfl) (by simp) (allH_run (v := .slice ao L.length ca) (w' := W1.drew) (dst := some 81) rfl rfl rfl (run_load rfl rfl LQ0.out) rfl HS0.out ?_ (allH_run (v := .slice (some ⟨W1.heap.size, 0, none⟩) 1 1) (w' := W1.drew.alloc (.cells #[.int .i64 ((last : Int) + 1), .int .i64 (n : Int), .int .i64 (fr : Int), .string (str data), .slice ap ma ac', .bool false] 177)) (dst := some 94) rfl rfl rfl (run_build rfl rfl BS.out) rfl HS6.out ?_ AllReadyH.nil))
            · clear hH
              have hH := HS0.out
              (try simp only [Act.put, List.setIfInBounds_toArray, List.set_cons_zero, List.set_cons_succ])
              refine takeH (i := 14) (dst := some 82) (v := .int .i64 (L.length : Int)) rfl rfl (by kernel_rfl) (by kernel_rfl) (by kernel_rfl) (fun _ _ _ h => h) rfl (fun _ _ => run_lenT rfl rfl) hH rfl ?_
              (try simp only [Act.put, List.setIfInBounds_toArray, List.set_cons_zero, List.set_cons_succ])
              refine takeH (i := 15) (dst := some 83) (v := .slice ao L.length L.length) rfl rfl (by kernel_rfl) (by kernel_rfl) (by kernel_rfl) (fun _ _ _ h => h) rfl (fun _ _ => run_slice3 rfl rfl rfl rfl hlca HNE.out.2.2.2.1) hH rfl ?_
              (try simp only [Act.put, List.setIfInBounds_toArray, List.set_cons_zero, List.set_cons_succ])
              exact F1110
            · clear hH
              have hH := HS6.out
              (try simp only [Act.put, List.setIfInBounds_toArray, List.set_cons_zero, List.set_cons_succ])
              exact F1101
          case pF0111 =>
           have hH := HS6.out
           refine wpAnyH_ready (rs := [4]) (by kernel_rfl) (by simp) (allH_run (v := .slice ao L.length ca) (w' := (W1.drew.alloc (.cells #[.int .i64 ((last : Int) + 1), .int .i64 (n : Int), .int .i64 (fr : Int), .string (str data), .slice ap ma ac', .bool false] 177))) (dst := some 72) rfl rfl rfl (run_load rfl rfl LQ6.out) rfl HS6.out ?_ AllReadyH.nil)
           · clear hH
             have hH := HS6.out
             (try simp only [Act.put, List.setIfInBounds_toArray, List.set_cons_zero, List.set_cons_succ])
             refine takeH (i := 15) (dst := some 83) (v := .slice ao L.length L.length) rfl rfl (by kernel_rfl) (by kernel_rfl) (by kernel_rfl) (fun _ _ _ h => h) rfl (fun _ _ => run_slice3 rfl rfl rfl rfl hlca HNE.out.2.2.2.1) hH rfl ?_
             (try simp only [Act.put, List.setIfInBounds_toArray, List.set_cons_zero, List.set_cons_succ])
             exact F1111
         case pF1011 =>
          have hH := HS6.out
          refine wpAnyH_ready (rs := [8]) (by kernel_rfl) (by simp) (allH_run (v := .slice ao L.length ca) (w' := (W1.drew.alloc (.cells #[.int .i64 ((last : Int) + 1), .int .i64 (n : Int), .int .i64 (fr : Int), .string (str data), .slice ap ma ac', .bool false] 177))) (dst := some 76) rfl rfl rfl (run_load rfl rfl LQ6.out) rfl HS6.out ?_ AllReadyH.nil)
          · clear hH
            have hH := HS6.out
            (try simp only [Act.put, List.setIfInBounds_toArray, List.set_cons_zero, List.set_cons_succ])
            refine takeH (i := 9) (dst := some 77) (v := .int .i64 (L.length : Int)) rfl rfl (by kernel_rfl) (by kernel_rfl) (by kernel_rfl) (fun _ _ _ h => h) rfl (fun _ _ => run_lenT rfl rfl) hH rfl ?_
            (try simp only [Act.put, List.setIfInBounds_toArray, List.set_cons_zero, List.set_cons_succ])
            refine takeH (i := 15) (dst := some 83) (v := .slice ao L.length L.length) rfl rfl (by kernel_rfl) (by kernel_rfl) (by kernel_rfl) (fun _ _ _ h => h) rfl (fun _ _ => run_slice3 rfl rfl rfl rfl hlca HNE.out.2.2.2.1) hH rfl ?_
            (try simp only [Act.put, List.setIfInBounds_toArray, List.set_cons_zero, List.set_cons_succ])
            exact F1111
        case pF1101 =>
         have hH := HS6.out
         refine wpAnyH_ready (rs := [13]) (by kernel_rfl) (by simp) (allH_run (v := .slice ao L.length ca) (w' := (W1.drew.alloc (.cells #[.int .i64 ((last : Int) + 1), .int .i64 (n : Int), .int .i64 (fr : Int), .string (str data), .slice ap ma ac', .bool false] 177))) (dst := some 81) rfl rfl rfl (run_load rfl rfl LQ6.out) rfl HS6.out ?_ AllReadyH.nil)
         · clear hH
           have hH := HS6.out
           (try simp only [Act.put, List.setIfInBounds_toArray, List.set_cons_zero, List.set_cons_succ])
           refine takeH (i := 14) (dst := some 82) (v := .int .i64 (L.length : Int)) rfl rfl (by kernel_rfl) (by kernel_rfl) (by kernel_rfl) (fun _ _ _ h => h) rfl (fun _ _ => run_lenT rfl rfl) hH rfl ?_
           (try simp only [Act.put, List.setIfInBounds_toArray, List.set_cons_zero, List.set_cons_succ])
           refine takeH (i := 15) (dst := some 83) (v := .slice ao L.length L.length) rfl rfl (by kernel_rfl) (by kernel_rfl) (by kernel_rfl) (fun _ _ _ h => h) rfl (fun _ _ => run_slice3 rfl rfl rfl rfl hlca HNE.out.2.2.2.1) hH rfl ?_
           (try simp only [Act.put, List.setIfInBounds_toArray, List.set_cons_zero, List.set_cons_succ])
           exact F1111
       case pF1110 =>
        have hH := HS0.out
        refine wpAnyH_ready (rs := [26]) (by kernel_rfl) (by simp) (allH_run (v := .slice (some ⟨W1.heap.size, 0, none⟩) 1 1) (w' := W1.drew.alloc (.cells #[.int .i64 ((last : Int) + 1), .int .i64 (n : Int), .int .i64 (fr : Int), .string (str data), .slice ap ma ac', .bool false] 177)) (dst := some 94) rfl rfl rfl (run_build rfl rfl BS.out) rfl HS6.out ?_ AllReadyH.nil)
        · clear hH
          have hH := HS6.out
          (try simp only [Act.put, List.setIfInBounds_toArray, List.set_cons_zero, List.set_cons_succ])
          exact F1111
      case pF1111 =>
       have hH := HS6.out
       refine readyH (i := 27) (v := .slice (some ⟨G, 0, none⟩) (L.length + 1) cap) (w' := W7) (dst := some 95) (by kernel_rfl) rfl rfl rfl (run_appT rfl rfl rfl rfl HAPP.out) rfl HS7.out ?_
       (try simp only [Act.put, List.setIfInBounds_toArray, List.set_cons_zero, List.set_cons_succ])
       clear hH
       have hH := HS7.out
       refine takeH (i := 28) (dst := some 96) (v := ?v21) rfl rfl (by kernel_rfl) (by kernel_rfl) (by kernel_rfl) (fun _ _ _ h => h) rfl ?hy21 hH rfl ?rest21
       case hy21 => (intro W hW; (try dsimp only at hW); go_simp; try with_reducible rfl)
       (try simp only [Act.put, List.setIfInBounds_toArray, List.set_cons_zero, List.set_cons_succ])
       refine takeH (i := 29) (dst := some 97) (v := ?v22) rfl rfl (by kernel_rfl) (by kernel_rfl) (by kernel_rfl) (fun _ _ _ h => h) rfl ?hy22 hH rfl ?rest22
       case hy22 => (intro W hW; (try dsimp only at hW); go_simp; try with_reducible rfl)
       (try simp only [Act.put, List.setIfInBounds_toArray, List.set_cons_zero, List.set_cons_succ])
       refine callH (i := 30) { dst := none, op := Go.Op.store 41 (Go.Operand.tmp 97) (Go.Operand.tmp 95), type := 0, pos := "ref.go:77", after := #[{ on := 29, ground := Go.Ground.data }, { on := 27, ground := Go.Ground.data }, { on := 27, ground := Go.Ground.chain }, { on := 0, ground := Go.Ground.phase }, { on := 1, ground := Go.Ground.phase }, { on := 2, ground := Go.Ground.phase }, { on := 3, ground := Go.Ground.phase }, { on := 4, ground := Go.Ground.phase }, { on := 5, ground := Go.Ground.phase }, { on := 6, ground := Go.Ground.phase }, { on := 7, ground := Go.Ground.phase }, { on := 8, ground := Go.Ground.phase }, { on := 9, ground := Go.Ground.phase }, { on := 10, ground := Go.Ground.phase }, { on := 11, ground := Go.Ground.phase }, { on := 12, ground := Go.Ground.phase }, { on := 13, ground := Go.Ground.phase }, { on := 14, ground := Go.Ground.phase }, { on := 15, ground := Go.Ground.phase }, { on := 16, ground := Go.Ground.phase }, { on := 17, ground := Go.Ground.phase }, { on := 18, ground := Go.Ground.phase }, { on := 19, ground := Go.Ground.phase }, { on := 20, ground := Go.Ground.phase }, { on := 21, ground := Go.Ground.phase }, { on := 22, ground := Go.Ground.phase }, { on := 23, ground := Go.Ground.phase }, { on := 24, ground := Go.Ground.phase }, { on := 25, ground := Go.Ground.phase }, { on := 26, ground := Go.Ground.phase }, { on := 27, ground := Go.Ground.phase }], guard := none } (by kernel_rfl) rfl rfl (fun K hK => ?_)
       go_simp
       clear hH
       refine hK.out _ _ HSX.out (fun hH => ?_)
       clear hK K
       (try simp only [Act.put])
       refine wpAnyH_done (by kernel_rfl) ?_ _
       clear hH
       have HFW : Hid (Fr (fun k => k = q) w (W7.setCell ⟨q, 2, none⟩ (.slice (some ⟨G, 0, none⟩) (L.length + 1) cap))) := HF2.out.trans HSX.out.1
       have HRF : Hid (RAt (W7.setCell ⟨q, 2, none⟩ (.slice (some ⟨G, 0, none⟩) (L.length + 1) cap)) q d (.slice (some ⟨gB, 0, none⟩) B.length cB) (some ⟨G, 0, none⟩) cap (L ++ [⟨last + 1, n, fr, data, ap, after, ac', false⟩]) (last + 1)) := by
         refine ⟨?_, ?_⟩
         · rw [List.length_append]
           exact HA8.out
         · refine HL7.out.1.keep ((Fr.refl (fun k => k = q) W7).setCell q 2 _ rfl) ?_
           have := HL7.out.2
           have := HQ1.out
           show ¬ G = q
           omega
       have HSF : Hid (SrcI (W7.setCell ⟨q, 2, none⟩ (.slice (some ⟨G, 0, none⟩) (L.length + 1) cap)) ap after) := by
         rcases HA.out.1 with e | ⟨b, o, e, hbl, hc⟩
         · exact .inl e
         · exact .inr ⟨b, o, e, by have := HSX.out.1.size; omega, fun j hj => fr_below_cell HSX.out.1 (hc j hj) hbl (by have := HA.out.2.2.2.2 b o e; show ¬ b = q; omega)⟩
       have q3f := HSX.out.2
       clear q26 q26' q7 f7 q2 q3
       go_wp2_with fail
       go_ret2
       refine ⟨rfl, G, cap, ap, ac', HRF.out, ?_, HSF.out, ?_, HA.out.2.2.1, ?_, HFW.out⟩
       · have := HL7.out.2; have := HF2.out.size; omega
       · rw [HMA.out]; exact HA.out.2.1
       · intro b o e
         have := HA.out.2.2.2.2 b o e
         have := HF1.out.size
         omega
end
end Go.Proofs.YtadadidccbhopaaGreat
/- The document's changes and the program's, held against each other: which may be written. Nothing of a program. -/
namespace Go.Proofs.YtadadidccbhopaaGreat
open Go.RowKit
set_option maxRecDepth 100000
def absR (r : RCh) : Nat × Nat × Nat × List UInt8 × Bool × List Int := (r.id, r.b, r.fr, r.d, r.out, r.A)
def absC (A : Nat → List Int) (c : Ch) : Nat × Nat × Nat × List UInt8 × Bool × List Int := (c.id, c.b, c.fr, c.d, c.wr, A c.id)
/-- Both lists tell the same changes. -/
def Alike (C : List Ch) (L : List RCh) (A : Nat → List Int) : Prop := L.map absR = C.map (absC A)
section
variable {C : List Ch} {L : List RCh} {A : Nat → List Int}
theorem Alike.len (h : Alike C L A) : L.length = C.length := by
  have := congrArg List.length h
  simpa using this
theorem Alike.at (h : Alike C L A) {i : Nat} {r : RCh} (hr : L[i]? = some r) : ∃ c, C[i]? = some c ∧ r.id = c.id ∧ r.b = c.b ∧ r.fr = c.fr ∧ r.d = c.d ∧ r.out = c.wr ∧ r.A = A c.id := by
  have h1 : (L.map absR)[i]? = some (absR r) := by rw [List.getElem?_map, hr]; rfl
  rw [h, List.getElem?_map] at h1
  cases hc : C[i]? with
  | none => rw [hc] at h1; cases h1
  | some c =>
    rw [hc] at h1
    have h2 : absC A c = absR r := Option.some.inj h1
    unfold absC absR at h2
    simp only [Prod.mk.injEq] at h2
    exact ⟨c, rfl, h2.1.symm, h2.2.1.symm, h2.2.2.1.symm, h2.2.2.2.1.symm, h2.2.2.2.2.1.symm, h2.2.2.2.2.2.symm⟩
theorem Alike.of (h : Alike C L A) {i : Nat} {c : Ch} (hc : C[i]? = some c) : ∃ r, L[i]? = some r ∧ r.id = c.id ∧ r.b = c.b ∧ r.fr = c.fr ∧ r.d = c.d ∧ r.out = c.wr ∧ r.A = A c.id := by
  have hl := h.len
  have hi := (List.getElem?_eq_some_iff.1 hc).1
  obtain ⟨r, hr⟩ : ∃ r, L[i]? = some r := ⟨_, List.getElem?_eq_getElem (by omega)⟩
  obtain ⟨c', hc', h1⟩ := h.at hr
  rw [hc] at hc'
  cases hc'
  exact ⟨r, hr, h1⟩
theorem Alike.mem (h : Alike C L A) {r : RCh} (hr : r ∈ L) : ∃ c ∈ C, r.id = c.id ∧ r.b = c.b ∧ r.fr = c.fr ∧ r.d = c.d ∧ r.out = c.wr ∧ r.A = A c.id := by
  obtain ⟨i, hi, e⟩ := List.getElem_of_mem hr
  obtain ⟨c, hc, h1⟩ := h.at (i := i) (r := r) (by rw [List.getElem?_eq_getElem hi, e])
  exact ⟨c, List.mem_of_getElem? hc, h1⟩
theorem asc_lt (hA : Asc C) {i j : Nat} {a b : Ch} (ha : C[i]? = some a) (hb : C[j]? = some b) (h : a.id < b.id) : i < j := by
  obtain ⟨hi, e1⟩ := List.getElem?_eq_some_iff.1 ha
  obtain ⟨hj, e2⟩ := List.getElem?_eq_some_iff.1 hb
  apply Classical.byContradiction
  intro hn
  by_cases e : i = j
  · subst e; rw [e1] at e2; subst e2; omega
  · have := (List.pairwise_iff_getElem.1 hA) j i hj hi (by omega)
    rw [e1, e2] at this
    omega
theorem asc_at (hA : Asc C) {i j : Nat} {a b : Ch} (ha : C[i]? = some a) (hb : C[j]? = some b) (h : i < j) : a.id < b.id := by
  obtain ⟨hi, e1⟩ := List.getElem?_eq_some_iff.1 ha
  obtain ⟨hj, e2⟩ := List.getElem?_eq_some_iff.1 hb
  have := (List.pairwise_iff_getElem.1 hA) i j hi hj h
  rw [e1, e2] at this
  exact this
theorem findI_spec : ∀ (L : List RCh) (x : Int) (k : Nat), (findI L x k = -1 ∧ ∀ c ∈ L, ¬ (c.id : Int) = x) ∨ ∃ (j : Nat) (c : RCh), L[j]? = some c ∧ (c.id : Int) = x ∧ findI L x k = ((k + j : Nat) : Int)
  | [], _, _ => .inl ⟨rfl, fun _ h => by cases h⟩
  | c :: L, x, k => by
    unfold findI
    by_cases h : (c.id : Int) = x
    · rw [if_pos h]; exact .inr ⟨0, c, rfl, h, rfl⟩
    · rw [if_neg h]
      rcases findI_spec L x (k + 1) with ⟨h1, h2⟩ | ⟨j, c', h1, h2, h3⟩
      · exact .inl ⟨h1, fun d hd => by
          rcases List.mem_cons.1 hd with hd | hd
          · rw [hd]; exact h
          · exact h2 d hd⟩
      · exact .inr ⟨j + 1, c', h1, h2, by rw [h3]; congr 1; omega⟩
/-- Which of the document's changes may be written. -/
def mayV (C : List Ch) (L : List RCh) (n : Nat) (i : Nat) : Bool := match L[i]? with
  | some r => decide ((r.id : Int) ∈ alw C n)
  | none => false
theorem mayV_at {C : List Ch} {L : List RCh} {n i : Nat} {r : RCh} (h : L[i]? = some r) : mayV C L n i = decide ((r.id : Int) ∈ alw C n) := by unfold mayV; rw [h]
theorem meetR_iff {d r : RCh} {a c : Ch} (h1 : d.b = a.b) (h2 : d.fr = a.fr) (h3 : d.d = a.d) (k1 : r.b = c.b) (k2 : r.fr = c.fr) (k3 : r.d = c.d) : meetR d r = true ↔ meetsC a c := by
  unfold meetR meetsC
  rw [h1, h2, h3, k1, k2, k3]
  simp
end
section
variable {s : PSt} {ops : Nat → List Int} {κ : Nat} {L : List RCh} {A : Nat → List Int}
theorem Alike.ahead (h : Alike s.C L A) (hP : PA s A) (hL : PL s ops [] κ) : ∀ (i : Nat) (c : RCh), L[i]? = some c → ∀ a ∈ c.A, findI L a 0 < (i : Int) := by
  intro i r hr a ha
  obtain ⟨c, hc, e1, _, _, _, _, e6⟩ := h.at hr
  rw [e6] at ha
  have h1 := (hP.alt c (List.mem_of_getElem? hc) a ha).2
  rcases findI_spec L a 0 with ⟨h2, _⟩ | ⟨j, c', h2, h3, h4⟩
  · rw [h2]; omega
  · obtain ⟨d, hd, k1, _⟩ := h.at h2
    have := asc_lt hL.asc hd hc (by omega)
    rw [h4]; omega
theorem Alike.may (h : Alike s.C L A) (hP : PA s A) (hL : PL s ops [] κ) (n : Nat) : ∀ (i : Nat) (c : RCh), L[i]? = some c → mayV s.C L n i = (decide ((c.b : Int) = (n : Int)) && (!c.A.any (badA L (mayV s.C L n) (n : Int)) && !(List.range i).any (badM L (mayV s.C L n) c))) := by
  intro i r hr
  obtain ⟨c, hc, e1, e2, e3, e4, e5, e6⟩ := h.at hr
  have hcm := List.mem_of_getElem? hc
  rw [mayV_at hr]
  have hsub : ∀ x : Ch, x ∈ s.C → (x.id : Int) ∈ alw s.C n → x.b = n := fun x hx hm => by
    obtain ⟨y, hy, e⟩ := List.mem_map.1 ((alw_sub s.C n).subset hm)
    obtain ⟨hy1, hy2⟩ := List.mem_filter.1 hy
    have : y = x := hL.asc.inj hy1 hx (by omega)
    rw [← this]; exact of_decide_eq_true hy2
  by_cases hb : c.b = n
  · rw [decide_eq_true (show (r.b : Int) = (n : Int) by omega), Bool.true_and]
    have hiff := may_iff hP hL hcm
    rw [hb, ← e1] at hiff
    have key : (!r.A.any (badA L (mayV s.C L n) (n : Int)) && !(List.range i).any (badM L (mayV s.C L n) r)) = true ↔ (r.id : Int) ∈ alw s.C n := by
      rw [hiff]
      simp only [Bool.and_eq_true, Bool.not_eq_true', List.any_eq_false]
      constructor
      · rintro ⟨h1, h2⟩
        refine ⟨fun a ha ho => ?_, fun d hd hlt hm => ?_⟩
        · obtain ⟨d, hd, rfl⟩ := opn_iff.1 ho
          have hbad := h1 (d.id : Int) (by rw [e6, ← e1]; exact ha)
          rcases findI_spec L (d.id : Int) 0 with ⟨_, h3⟩ | ⟨j, r', h3, h4, h5⟩
          · exfalso
            obtain ⟨k, hk⟩ := List.mem_iff_getElem?.1 hd
            obtain ⟨r', hr', k1, _⟩ := h.of hk
            exact h3 r' (List.mem_of_getElem? hr') (by omega)
          · obtain ⟨d', hd', k1, k2, _⟩ := h.at h3
            obtain rfl : d' = d := hL.asc.inj (List.mem_of_getElem? hd') hd (by omega)
            unfold badA at hbad
            rw [h5] at hbad
            simp only [Nat.zero_add, Int.toNat_natCast, bAt, h3, mayV_at h3] at hbad
            rw [decide_eq_true (by omega), Bool.true_and] at hbad
            simp only [Bool.or_eq_true, Bool.not_eq_true', not_or, Bool.not_eq_false] at hbad
            have q1 := of_decide_eq_true hbad.1
            have q2 := of_decide_eq_true hbad.2
            exact ⟨d', hd, rfl, by omega, by rw [k1] at q2; exact q2⟩
        · obtain ⟨k, hk⟩ := List.mem_iff_getElem?.1 hd
          obtain ⟨r', hr', k1, k2, k3, k4, _⟩ := h.of hk
          have hki : k < i := asc_lt hL.asc hk hc (by omega)
          have hbad := h2 k (List.mem_range.2 hki)
          unfold badM at hbad
          rw [hr'] at hbad
          simp only [mayV_at hr', (meetR_iff k2 k3 k4 e2 e3 e4).2 hm, Bool.true_and, Bool.not_eq_true', Bool.not_eq_false] at hbad
          have q := of_decide_eq_true hbad
          rw [k1] at q; exact q
      · rintro ⟨h1, h2⟩
        refine ⟨fun a ha hbad => ?_, fun m hm hbad => ?_⟩
        · unfold badA at hbad
          rw [Bool.and_eq_true] at hbad
          rcases findI_spec L a 0 with ⟨h3, _⟩ | ⟨j, r', h3, h4, h5⟩
          · rw [h3] at hbad; exact absurd (of_decide_eq_true hbad.1) (by omega)
          · obtain ⟨d, hd, k1, k2, _⟩ := h.at h3
            obtain ⟨d', hd', q1, q2, q3⟩ := h1 a (by rw [e1, ← e6]; exact ha) (opn_iff.2 ⟨d, List.mem_of_getElem? hd, by omega⟩)
            obtain rfl : d' = d := hL.asc.inj hd' (List.mem_of_getElem? hd) (by omega)
            have h6 := hbad.2
            rw [h5] at h6
            simp only [Nat.zero_add, Int.toNat_natCast, bAt, h3, mayV_at h3] at h6
            rw [decide_eq_true (show (r'.b : Int) = (n : Int) by omega), decide_eq_true (show (r'.id : Int) ∈ alw s.C n by rw [k1]; exact q3)] at h6
            cases h6
        · have hmi := List.mem_range.1 hm
          unfold badM at hbad
          cases hr' : L[m]? with
          | none => rw [hr'] at hbad; cases hbad
          | some r' =>
            rw [hr'] at hbad
            obtain ⟨d, hd, k1, k2, k3, k4, _⟩ := h.at hr'
            simp only [Bool.and_eq_true, mayV_at hr', Bool.not_eq_true'] at hbad
            have := h2 d (List.mem_of_getElem? hd) (by have := asc_at hL.asc hd hc hmi; omega) ((meetR_iff k2 k3 k4 e2 e3 e4).1 hbad.1)
            rw [← k1] at this
            exact absurd this (of_decide_eq_false hbad.2)
    exact (Bool.eq_iff_iff.2 ⟨fun hd => key.2 (of_decide_eq_true hd), fun hd => decide_eq_true (key.1 hd)⟩)
  · rw [decide_eq_false (show ¬ (r.b : Int) = (n : Int) by omega), Bool.false_and]
    exact decide_eq_false fun hm => hb (hsub c hcm (by rw [← e1]; exact hm))
theorem outR_alike : ∀ (C : List Ch) (L : List RCh) (V : Nat → Bool) (al : List Int) (k : Nat), Alike C L A → (∀ i r, L[i]? = some r → V (k + i) = decide ((r.id : Int) ∈ al)) → Alike (C.map (setW al)) (outR V L k) A
  | [], L, _, _, _, h, _ => by
    have hl := h.len
    obtain rfl : L = [] := List.eq_nil_of_length_eq_zero hl
    rfl
  | c :: C, [], _, _, _, h, _ => by have hl := h.len; cases hl
  | c :: C, r :: L, V, al, k, h, hV => by
    have h1 : absR r = absC A c ∧ L.map absR = C.map (absC A) := by
      have h0 : absR r :: L.map absR = absC A c :: C.map (absC A) := h
      exact ⟨(List.cons.inj h0).1, (List.cons.inj h0).2⟩
    have ih := outR_alike C L V al (k + 1) h1.2 (fun i r' hr' => by have := hV (i + 1) r' hr'; rw [← this]; congr 1; omega)
    have hv := hV 0 r rfl
    rw [Nat.add_zero] at hv
    show absR { r with out := r.out || V k } :: (outR V L (k + 1)).map absR = absC A (setW al c) :: (C.map (setW al)).map (absC A)
    rw [show (outR V L (k + 1)).map absR = (C.map (setW al)).map (absC A) from ih]
    congr 1
    have h2 := h1.1
    unfold absR absC at h2 ⊢
    simp only [Prod.mk.injEq] at h2 ⊢
    obtain ⟨a1, a2, a3, a4, a5, a6⟩ := h2
    have es := setW_eqs al c
    refine ⟨by rw [es.1]; exact a1, by rw [es.2.1]; exact a2, by rw [es.2.2.1]; exact a3, by rw [es.2.2.2.1]; exact a4, ?_, by rw [es.1]; exact a6⟩
    rw [hv, a5, a1]
    apply Bool.eq_iff_iff.2
    rw [setW_wr, Bool.or_eq_true, decide_eq_true_eq]
    exact or_comm
theorem keptR_alike {C : List Ch} (h : Alike C L A) : Alike (nwr C) (keptR L) A := by
  unfold Alike keptR nwr at *
  have e1 : (L.filter fun c => !c.out).map absR = (L.map absR).filter (fun t => !t.2.2.2.2.1) := by rw [List.filter_map]; rfl
  have e2 : (C.filter fun c => !c.wr).map (absC A) = (C.map (absC A)).filter (fun t => !t.2.2.2.2.1) := by rw [List.filter_map]; rfl
  rw [e1, e2, h]
theorem Alike.more {C : List Ch} (h : Alike C L A) {c : Ch} {r : RCh} {after : List Int} {m : Nat} (hm : ∀ c ∈ C, c.id ≤ m) (hc : c.id = m + 1) (e1 : r.id = c.id) (e2 : r.b = c.b) (e3 : r.fr = c.fr) (e4 : r.d = c.d) (e5 : r.out = c.wr) (e6 : r.A = after) : Alike (C ++ [c]) (L ++ [r]) (fun k => if k = m + 1 then after else A k) := by
  unfold Alike at *
  rw [List.map_append, List.map_append, h]
  congr 1
  · refine List.map_congr_left fun x hx => ?_
    unfold absC
    dsimp only
    rw [if_neg (by have := hm x hx; omega)]
  · unfold absC absR
    simp only [List.map_cons, List.map_nil]
    rw [e1, e2, e3, e4, e5, e6, if_pos hc]
end
end Go.Proofs.YtadadidccbhopaaGreat
/- The document's store with its disk, as one thing: what it is made of, and what each call leaves. -/
namespace Go.Proofs.YtadadidccbhopaaGreat
open Go.RowKit
set_option maxRecDepth 100000
structure RSx (w : World) (q N m d gB cB : Nat) (B : List (List UInt8)) (ao : Option Addr) (ca base gb cb : Nat) (ver : Nat → List (List UInt8)) (va vc : Nat → Nat) (L : List RCh) (last : Nat) (D : Nat → Prop) : Prop where
  at' : RAt w q d (.slice (some ⟨gB, 0, none⟩) B.length cB) ao ca L last
  bs : BAt w gB cB B
  fz : ∀ o, w.frozen? ⟨gB, o, none⟩ = false
  bl : B.length = N
  ds : RefW w base d N false 0 ver gb cb va vc
  vl : ∀ i, i < N → (ver i).length ≤ m
  lk : LOk w L
  ao' : ao = none ∨ ∃ g, ao = some ⟨g, 0, none⟩
  a1 : q ≠ d ∧ q ≠ gb ∧ q ≠ gB ∧ gB ≠ d ∧ gB ≠ gb
  a2 : ∀ g o, ao = some ⟨g, o, none⟩ → g ≠ q ∧ g ≠ gB ∧ g ≠ d ∧ g ≠ gb
  a3 : ∀ i, i < N → va i ≠ q ∧ va i ≠ gB
  a4 : ∀ c ∈ L, c.A = [] ∨ ∀ b o, c.ap = some ⟨b, o, none⟩ → (b ≠ q ∧ b ≠ gB ∧ b ≠ d ∧ b ≠ gb) ∧ D b
  k1 : D q ∧ D gB
  k2 : ∀ k, Rk d gb N va k → D k
  k3 : ∀ g o, ao = some ⟨g, o, none⟩ → D g
  lt : ∀ k, D k → k < w.heap.size
/-- The document's store at q, of a disk of N blocks each of which was written at most m times since; D: all of its blocks. -/
def RS (w : World) (q N m : Nat) (L : List RCh) (last : Nat) (D : Nat → Prop) : Prop :=
  ∃ d gB cB B ao ca base gb cb ver va vc, RSx w q N m d gB cB B ao ca base gb cb ver va vc L last D
theorem srcI_fr {w w' : World} {S : Nat → Prop} {sp : Option Addr} {l : List Int} (h : SrcI w sp l) (hf : Fr S w w') (hS : l = [] ∨ ∀ b o, sp = some ⟨b, o, none⟩ → ¬ S b) : SrcI w' sp l := by
  rcases h with h | ⟨b, o, e, hl, hc⟩
  · exact .inl h
  · rcases hS with e0 | hS
    · exact .inl e0
    · exact .inr ⟨b, o, e, by have := hf.size; omega, fun j hj => (fr_cell hf (a := ⟨b, o + j, none⟩) hl (hS b o e)).trans (hc j hj)⟩
theorem outR_mem (V : Nat → Bool) : ∀ (L : List RCh) (k : Nat), ∀ r ∈ outR V L k, ∃ r0 ∈ L, r.b = r0.b ∧ r.fr = r0.fr ∧ r.d = r0.d ∧ r.ap = r0.ap ∧ r.A = r0.A ∧ r.ac = r0.ac
  | [], _, r, h => by cases h
  | c :: L, k, r, h => by
    rcases List.mem_cons.1 h with h | h
    · exact ⟨c, by simp, by rw [h], by rw [h], by rw [h], by rw [h], by rw [h], by rw [h]⟩
    · obtain ⟨r0, h1, h2⟩ := outR_mem V L (k + 1) r h
      exact ⟨r0, by simp [h1], h2⟩
section
variable {w w' : World} {q N m : Nat} {L : List RCh} {last : Nat} {D : Nat → Prop}
theorem RS.c3 (h : RS w q N m L last D) : w.cell? ⟨q, 3, none⟩ = some (.int .i64 (last : Int)) := by
  obtain ⟨d, gB, cB, B, ao, ca, base, gb, cb, ver, va, vc, h⟩ := h
  exact h.at'.c3
theorem RS.ltD (h : RS w q N m L last D) : ∀ k, D k → k < w.heap.size := by
  obtain ⟨d, gB, cB, B, ao, ca, base, gb, cb, ver, va, vc, h⟩ := h
  exact h.lt
/-- All that there was, and what is new. -/
def newD (D : Nat → Prop) (w w' : World) (k : Nat) : Prop := D k ∨ (w.heap.size ≤ k ∧ k < w'.heap.size)
theorem rs_patch_out (h : RS w q N m L last D) (n : Int) (hn : n < 0 ∨ (N : Int) ≤ n) (fr : Int) (x y : Value) :
    Calls Tryz.prog 65 #[.pointer (some ⟨q, 0, none⟩), .int .i64 n, .int .i64 fr, x, y] w fun e w' => e = .returned (.tuple #[.int .i64 0, .int .i64 3]) ∧ w' = w := by
  obtain ⟨d, gB, cB, B, ao, ca, base, gb, cb, ver, va, vc, h⟩ := h
  have hl := h.bl
  refine rspatch_out h.at' h.bs n ?_ fr x y
  rcases hn with hn | hn
  · rw [decide_eq_false (by omega)]; rfl
  · rw [decide_eq_false (show ¬ n < (B.length : Int) by omega)]; simp
theorem rs_patch_size (h : RS w q N m L last D) (n : Nat) (hn : n < N) (fr : Int) (hfr : -9223372036854775808 ≤ fr ∧ fr ≤ 9223372036854775807) (sp : Option Addr) (l dc : Nat) (hm : (l : Int) ≤ 9223372036854775807) (hbad : l = 0 ∨ fr < 0 ∨ 256 < fr ∨ 256 - fr < (l : Int)) (y : Value) :
    Calls Tryz.prog 65 #[.pointer (some ⟨q, 0, none⟩), .int .i64 (n : Int), .int .i64 fr, .slice sp l dc, y] w fun e w' => e = .returned (.tuple #[.int .i64 0, .int .i64 4]) ∧ w' = w := by
  obtain ⟨d, gB, cB, B, ao, ca, base, gb, cb, ver, va, vc, h⟩ := h
  have hl := h.bl
  exact rspatch_size h.at' h.bs (n : Int) (by rw [decide_eq_true (by omega), decide_eq_true (by omega)]; rfl) fr hfr sp l dc hm hbad y
theorem rs_write_out (h : RS w q N m L last D) (n : Int) (hn : n < 0 ∨ (N : Int) ≤ n) :
    Calls Tryz.prog 55 #[.pointer (some ⟨q, 0, none⟩), .int .i64 n] w fun e w' => e = .returned (.int .i64 3) ∧ w' = w := by
  obtain ⟨d, gB, cB, B, ao, ca, base, gb, cb, ver, va, vc, h⟩ := h
  have hl := h.bl
  have IM := rimage_out h.at' h.bs n (by
    rcases hn with hn | hn
    · rw [decide_eq_false (by omega)]; rfl
    · rw [decide_eq_false (show ¬ n < (B.length : Int) by omega)]; simp)
  clear h hn
  go_enter Tryz.func55, Tryz.ntmps55
  go_wp2_with (first | (go_at_call 70; refine IM.mono ?_; clear IM; rintro r w1 ⟨rfl, rfl⟩))
  go_ret
  exact ⟨rfl, rfl⟩
theorem rs_write (h : RS w q N m L last D) (n : Nat) (hn : n < N) (hm : m ≤ 900000) (hu : ∀ c ∈ L, c.fr + c.d.length ≤ 256 ∧ 0 < c.d.length) (V : Nat → Bool) (hV : ∀ (i : Nat) (c : RCh), L[i]? = some c → V i = (decide ((c.b : Int) = (n : Int)) && (!c.A.any (badA L V (n : Int)) && !(List.range i).any (badM L V c)))) (hf : ∀ (i : Nat) (c : RCh), L[i]? = some c → ∀ a ∈ c.A, findI L a 0 < (i : Int)) :
    Calls Tryz.prog 55 #[.pointer (some ⟨q, 0, none⟩), .int .i64 (n : Int)] w fun e w' => ((L.any fun c => (c.b : Int) == (n : Int)) = false ∧ e = .returned (.int .i64 20) ∧ Below w.heap.size w w') ∨
      ((L.any fun c => (c.b : Int) == (n : Int)) = true ∧ e = .returned (.int .i64 0) ∧ RS w' q N (m + 1) (outR V L 0) last (newD D w w') ∧ Fr D w w') := by
  obtain ⟨d, gB, cB, B, ao, ca, base, gb, cb, ver, va, vc, h⟩ := h
  obtain ⟨b0, hb0⟩ : ∃ b0, B[n]? = some b0 := ⟨_, List.getElem?_eq_getElem (by rw [h.bl]; exact hn)⟩
  refine (rswrite_any h.at' h.bs h.lk hu n b0 hb0 V hV hf h.ds hn (by have := h.vl n hn; omega) (fun k hk e => by
    subst e
    rcases hk with e | e | ⟨i, hi, e⟩
    · exact h.a1.1 e
    · exact h.a1.2.1 e
    · exact (h.a3 i hi).1 e)).mono ?_
  rintro e w' (h1 | ⟨hany, rfl, ⟨G, cap, hR, hG⟩, ⟨g, c, hd, hg⟩, hF⟩)
  · exact .inl h1
  refine .inr ⟨hany, rfl, ?_, hF.mono (fun k _ e => by
    rcases e with e | e | e
    · rw [e]; exact h.k1.1
    · rw [e]; exact h.k2 d (.inl rfl)
    · rw [e]; exact h.k2 gb (.inr (.inl rfl)))⟩
  have hz := hF.size
  have nq : ∀ k, w.heap.size ≤ k → k ≠ q ∧ k ≠ gB ∧ k ≠ d ∧ k ≠ gb := fun k hk => by
    have h1 := h.lt q h.k1.1
    have h2 := h.lt gB h.k1.2
    have h3 := h.lt d (h.k2 d (.inl rfl))
    have h4 := h.lt gb (h.k2 gb (.inr (.inl rfl)))
    omega
  have hLne : outR V L 0 ≠ [] := fun e => by
    have := outR_length V L 0
    rw [e] at this
    have hL : L = [] := List.eq_nil_of_length_eq_zero this.symm
    rw [hL] at hany
    cases hany
  have hGl : G < w'.heap.size := by
    rcases hR.ls.cells with e | ⟨g', e, hg', _⟩
    · exact absurd e hLne
    · cases e; exact hg'
  have ngB : ¬ (gB = q ∨ gB = d ∨ gB = gb) := fun e => by
    rcases e with e | e | e
    · exact h.a1.2.2.1 e.symm
    · exact h.a1.2.2.2.1 e
    · exact h.a1.2.2.2.2 e
  have om : ∀ r ∈ outR V L 0, ∃ r0 ∈ L, r.b = r0.b ∧ r.fr = r0.fr ∧ r.d = r0.d ∧ r.ap = r0.ap ∧ r.A = r0.A ∧ r.ac = r0.ac := outR_mem V L 0
  exact ⟨d, gB, cB, B, some ⟨G, 0, none⟩, cap, base, gb, cb, _, updN va n g, updN vc n c, {
    at' := hR
    bs := h.bs.keep hF ngB
    fz := fun o => (fr_frozen hF (a := ⟨gB, o, none⟩) h.bs.lt ngB).trans (h.fz o)
    bl := h.bl
    ds := hd
    vl := fun i hi => by
      have h1 := h.vl i hi
      unfold upd
      split
      · rename_i e
        subst e
        simp; omega
      · omega
    lk := ⟨by rw [outR_length]; exact h.lk.len, fun r hr => by
      obtain ⟨r0, hr0, e1, e2, e3, _⟩ := om r hr
      rw [e1, e2, e3]; exact h.lk.bd r0 hr0, fun r hr => by
      obtain ⟨r0, hr0, _, _, _, e4, e5, e6⟩ := om r hr
      rw [e4, e5, e6]
      refine ⟨srcI_fr (h.lk.sr r0 hr0).1 hF ((h.a4 r0 hr0).imp id fun h4 b o e hb => ?_), (h.lk.sr r0 hr0).2⟩
      have h5 := (h4 b o e).1
      rcases hb with hb | hb | hb
      · exact h5.1 hb
      · exact h5.2.2.1 hb
      · exact h5.2.2.2 hb⟩
    ao' := .inr ⟨G, rfl⟩
    a1 := h.a1
    a2 := fun g' o e => by cases e; exact nq G hG
    a3 := fun i hi => by
      unfold updN
      split
      · exact ⟨(nq g hg).1, (nq g hg).2.1⟩
      · exact h.a3 i hi
    a4 := fun r hr => by
      obtain ⟨r0, hr0, _, _, _, e4, e5, _⟩ := om r hr
      rw [e4, e5]
      exact (h.a4 r0 hr0).imp id fun h4 b o e => ⟨(h4 b o e).1, .inl (h4 b o e).2⟩
    k1 := ⟨.inl h.k1.1, .inl h.k1.2⟩
    k2 := fun k hk => by
      rcases hk with e | e | ⟨i, hi, e⟩
      · exact .inl (h.k2 k (.inl e))
      · exact .inl (h.k2 k (.inr (.inl e)))
      · unfold updN at e
        split at e
        · have := (hd.at'.row n hn).2.1
          unfold updN at this
          rw [if_pos rfl] at this
          exact .inr ⟨by omega, by omega⟩
        · exact .inl (h.k2 k (.inr (.inr ⟨i, hi, e⟩)))
    k3 := fun g' o e => by cases e; exact .inr ⟨hG, hGl⟩
    lt := fun k hk => by
      rcases hk with hk | hk
      · have := h.lt k hk; omega
      · exact hk.2 }⟩
end
end Go.Proofs.YtadadidccbhopaaGreat
/- The document's store with its disk, its bases and versions told. -/
namespace Go.Proofs.YtadadidccbhopaaGreat
open Go.RowKit
set_option maxRecDepth 100000
/-- The document's store at q: B are the bases of its blocks, ver what each block of its disk may be. -/
def RT (w : World) (q d N m : Nat) (B : List (List UInt8)) (ver : Nat → List (List UInt8)) (L : List RCh) (last : Nat) (D : Nat → Prop) : Prop :=
  ∃ gB cB ao ca base gb cb va vc, RSx w q N m d gB cB B ao ca base gb cb ver va vc L last D
section
variable {w w' : World} {q d N m : Nat} {B : List (List UInt8)} {ver : Nat → List (List UInt8)} {L : List RCh} {last : Nat} {D : Nat → Prop}
theorem RT.rs (h : RT w q d N m B ver L last D) : RS w q N m L last D := by
  obtain ⟨gB, cB, ao, ca, base, gb, cb, va, vc, h⟩ := h
  exact ⟨d, gB, cB, B, ao, ca, base, gb, cb, ver, va, vc, h⟩
theorem RT.keep (h : RT w q d N m B ver L last D) {S : Nat → Prop} (hf : Fr S w w') (hS : ∀ k, D k → ¬ S k) : RT w' q d N m B ver L last D := by
  obtain ⟨gB, cB, ao, ca, base, gb, cb, va, vc, h⟩ := h
  exact ⟨gB, cB, ao, ca, base, gb, cb, va, vc, {
    at' := h.at'.keep hf (hS q h.k1.1) (fun g o e => hS g (h.k3 g o e))
    bs := h.bs.keep hf (hS gB h.k1.2)
    fz := fun o => (fr_frozen hf (a := ⟨gB, o, none⟩) h.bs.lt (hS gB h.k1.2)).trans (h.fz o)
    bl := h.bl
    ds := h.ds.keep hf (fun k hk => hS k (h.k2 k hk))
    vl := h.vl
    lk := ⟨h.lk.len, h.lk.bd, fun c hc => ⟨srcI_fr (h.lk.sr c hc).1 hf ((h.a4 c hc).imp id fun h4 b o e => hS b (h4 b o e).2), (h.lk.sr c hc).2⟩⟩
    ao' := h.ao'
    a1 := h.a1
    a2 := h.a2
    a3 := h.a3
    a4 := h.a4
    k1 := h.k1
    k2 := h.k2
    k3 := h.k3
    lt := fun k hk => by have := hf.size; have := h.lt k hk; omega }⟩
theorem RT.up (h : RT w q d N m B ver L last D) (hb : Below w.heap.size w w') : RT w' q d N m B ver L last D := h.keep (S := fun _ => False) (Fr.of_below hb) (fun _ _ h => h)
theorem RT.more (h : RT w q d N m B ver L last D) {m' : Nat} (hm : m ≤ m') : RT w q d N m' B ver L last D := by
  obtain ⟨gB, cB, ao, ca, base, gb, cb, va, vc, h⟩ := h
  exact ⟨gB, cB, ao, ca, base, gb, cb, va, vc, { h with vl := fun i hi => by have := h.vl i hi; omega }⟩
theorem rt_patch (h : RT w q d N m B ver L last D) (hl : L.length ≤ 999) (hla : last ≤ 1000000) (n fr : Nat) (hn : n < N) (hN : N ≤ 1000) (data : List UInt8) (sp : Option Addr) (dc : Nat) (hds : Src w sp data) (hd1 : 1 ≤ data.length) (hf : fr + data.length ≤ 256) (after : List Int) (asp : Option Addr) (ac : Nat) (has : SrcI w asp after) (hal : after.length ≤ 1000) (hkn : ∀ i ∈ after, 1 ≤ i ∧ i ≤ (last : Int)) (hsq : ∀ b o, sp = some ⟨b, o, none⟩ → ¬ D b) (haq : 1 ≤ after.length → ∀ b o, asp = some ⟨b, o, none⟩ → ¬ D b) :
    Calls Tryz.prog 65 #[.pointer (some ⟨q, 0, none⟩), .int .i64 (n : Int), .int .i64 (fr : Int), .slice sp data.length dc, .slice asp after.length ac] w fun e w' => e = .returned (.tuple #[.int .i64 ((last + 1 : Nat) : Int), .int .i64 0]) ∧ ∃ r : RCh, r.id = last + 1 ∧ r.b = n ∧ r.fr = fr ∧ r.d = data ∧ r.out = false ∧ r.A = after ∧ RT w' q d N m B ver (L ++ [r]) (last + 1) (newD D w w') ∧ Fr D w w' := by
  obtain ⟨gB, cB, ao, ca, base, gb, cb, va, vc, h⟩ := h
  refine (rspatch_go h.at' h.bs h.ao' (by omega) hla n fr (by rw [h.bl]; exact hn) data sp dc hds hd1 hf after asp ac has hal hkn (fun g e => (h.a2 g 0 e).1) (fun b o e eq => hsq b o e (by rw [eq]; exact h.k1.1)) (fun h1 b o e eq => haq h1 b o e (by rw [eq]; exact h.k1.1))).mono ?_
  rintro e w' ⟨rfl, G, cap, ap, ac', hR, hG, hS, hc1, hc2, hap, hF⟩
  refine ⟨rfl, ⟨last + 1, n, fr, data, ap, after, ac', false⟩, rfl, rfl, rfl, rfl, rfl, rfl, ?_, hF.mono (fun k _ e => by rw [e]; exact h.k1.1)⟩
  have hz := hF.size
  have hGl : G < w'.heap.size := by
    rcases hR.ls.cells with e | ⟨g, e, hg, _⟩
    · simp at e
    · cases e; exact hg
  have nq : ∀ k, w.heap.size ≤ k → k ≠ q ∧ k ≠ gB ∧ k ≠ d ∧ k ≠ gb := fun k hk => by
    have h1 := h.lt q h.k1.1
    have h2 := h.lt gB h.k1.2
    have h3 := h.lt d (h.k2 d (.inl rfl))
    have h4 := h.lt gb (h.k2 gb (.inr (.inl rfl)))
    omega
  exact ⟨gB, cB, some ⟨G, 0, none⟩, cap, base, gb, cb, va, vc, {
    at' := hR
    bs := h.bs.keep hF (fun e => h.a1.2.2.1 e.symm)
    fz := fun o => (fr_frozen hF (a := ⟨gB, o, none⟩) h.bs.lt (fun e => h.a1.2.2.1 e.symm)).trans (h.fz o)
    bl := h.bl
    ds := h.ds.keep hF (fun k hk e => by
      have e' : k = q := e
      subst e'
      rcases hk with e | e | ⟨i, hi, e⟩
      · exact h.a1.1 e
      · exact h.a1.2.1 e
      · exact (h.a3 i hi).1 e)
    vl := h.vl
    lk := by
      refine ⟨by rw [List.length_append]; show _ + 1 ≤ 1000; omega, fun c hc => ?_, fun c hc => ?_⟩
      · rcases List.mem_append.1 hc with hc | hc
        · exact h.lk.bd c hc
        · rw [List.mem_singleton.1 hc]
          show n ≤ 1000 ∧ fr ≤ 1000 ∧ data.length ≤ 1000
          omega
      · rcases List.mem_append.1 hc with hc | hc
        · exact ⟨srcI_fr (h.lk.sr c hc).1 hF ((h.a4 c hc).imp id fun h4 b o e => (h4 b o e).1.1), (h.lk.sr c hc).2⟩
        · rw [List.mem_singleton.1 hc]; exact ⟨hS, hc1, hc2⟩
    ao' := .inr ⟨G, rfl⟩
    a1 := h.a1
    a2 := fun g o e => by cases e; exact nq G hG
    a3 := h.a3
    a4 := fun c hc => by
      rcases List.mem_append.1 hc with hc | hc
      · exact (h.a4 c hc).imp id fun h4 b o e => ⟨(h4 b o e).1, .inl (h4 b o e).2⟩
      · rw [List.mem_singleton.1 hc]
        rcases hS with e | ⟨b', o', e', hb', _⟩
        · exact .inl e
        · exact .inr fun b o e => ⟨nq b (hap b o e), .inr ⟨hap b o e, by
            have e2 : ap = some ⟨b, o, none⟩ := e
            rw [e2] at e'; cases e'; exact hb'⟩⟩
    k1 := ⟨.inl h.k1.1, .inl h.k1.2⟩
    k2 := fun k hk => .inl (h.k2 k hk)
    k3 := fun g o e => by cases e; exact .inr ⟨hG, hGl⟩
    lt := fun k hk => by
      rcases hk with hk | hk
      · have := h.lt k hk; omega
      · exact hk.2 }⟩
theorem rt_write (h : RT w q d N m B ver L last D) (n : Nat) (hn : n < N) (hm : m ≤ 900000) (hu : ∀ c ∈ L, c.fr + c.d.length ≤ 256 ∧ 0 < c.d.length) (V : Nat → Bool) (hV : ∀ (i : Nat) (c : RCh), L[i]? = some c → V i = (decide ((c.b : Int) = (n : Int)) && (!c.A.any (badA L V (n : Int)) && !(List.range i).any (badM L V c)))) (hf : ∀ (i : Nat) (c : RCh), L[i]? = some c → ∀ a ∈ c.A, findI L a 0 < (i : Int)) :
    Calls Tryz.prog 55 #[.pointer (some ⟨q, 0, none⟩), .int .i64 (n : Int)] w fun e w' => ((L.any fun c => (c.b : Int) == (n : Int)) = false ∧ e = .returned (.int .i64 20) ∧ Below w.heap.size w w') ∨
      ((L.any fun c => (c.b : Int) == (n : Int)) = true ∧ e = .returned (.int .i64 0) ∧ RT w' q d N (m + 1) B (upd ver n (ver n ++ [laidR V L 0 (B.getD n [])])) (outR V L 0) last (newD D w w') ∧ Fr D w w') := by
  obtain ⟨gB, cB, ao, ca, base, gb, cb, va, vc, h⟩ := h
  obtain ⟨b0, hb0⟩ : ∃ b0, B[n]? = some b0 := ⟨_, List.getElem?_eq_getElem (by rw [h.bl]; exact hn)⟩
  have hbd : B.getD n [] = b0 := by rw [List.getD_eq_getElem?_getD, hb0]; rfl
  rw [hbd]
  refine (rswrite_any h.at' h.bs h.lk hu n b0 hb0 V hV hf h.ds hn (by have := h.vl n hn; omega) (fun k hk e => by
    subst e
    rcases hk with e | e | ⟨i, hi, e⟩
    · exact h.a1.1 e
    · exact h.a1.2.1 e
    · exact (h.a3 i hi).1 e)).mono ?_
  rintro e w' (h1 | ⟨hany, rfl, ⟨G, cap, hR, hG⟩, ⟨g, c, hd, hg⟩, hF⟩)
  · exact .inl h1
  refine .inr ⟨hany, rfl, ?_, hF.mono (fun k _ e => by
    rcases e with e | e | e
    · rw [e]; exact h.k1.1
    · rw [e]; exact h.k2 d (.inl rfl)
    · rw [e]; exact h.k2 gb (.inr (.inl rfl)))⟩
  have hz := hF.size
  have nq : ∀ k, w.heap.size ≤ k → k ≠ q ∧ k ≠ gB ∧ k ≠ d ∧ k ≠ gb := fun k hk => by
    have h1 := h.lt q h.k1.1
    have h2 := h.lt gB h.k1.2
    have h3 := h.lt d (h.k2 d (.inl rfl))
    have h4 := h.lt gb (h.k2 gb (.inr (.inl rfl)))
    omega
  have hLne : outR V L 0 ≠ [] := fun e => by
    have := outR_length V L 0
    rw [e] at this
    have hL : L = [] := List.eq_nil_of_length_eq_zero this.symm
    rw [hL] at hany
    cases hany
  have hGl : G < w'.heap.size := by
    rcases hR.ls.cells with e | ⟨g', e, hg', _⟩
    · exact absurd e hLne
    · cases e; exact hg'
  have ngB : ¬ (gB = q ∨ gB = d ∨ gB = gb) := fun e => by
    rcases e with e | e | e
    · exact h.a1.2.2.1 e.symm
    · exact h.a1.2.2.2.1 e
    · exact h.a1.2.2.2.2 e
  have om : ∀ r ∈ outR V L 0, ∃ r0 ∈ L, r.b = r0.b ∧ r.fr = r0.fr ∧ r.d = r0.d ∧ r.ap = r0.ap ∧ r.A = r0.A ∧ r.ac = r0.ac := outR_mem V L 0
  exact ⟨gB, cB, some ⟨G, 0, none⟩, cap, base, gb, cb, updN va n g, updN vc n c, {
    at' := hR
    bs := h.bs.keep hF ngB
    fz := fun o => (fr_frozen hF (a := ⟨gB, o, none⟩) h.bs.lt ngB).trans (h.fz o)
    bl := h.bl
    ds := hd
    vl := fun i hi => by
      have h1 := h.vl i hi
      unfold upd
      split
      · rename_i e
        subst e
        simp; omega
      · omega
    lk := ⟨by rw [outR_length]; exact h.lk.len, fun r hr => by
      obtain ⟨r0, hr0, e1, e2, e3, _⟩ := om r hr
      rw [e1, e2, e3]; exact h.lk.bd r0 hr0, fun r hr => by
      obtain ⟨r0, hr0, _, _, _, e4, e5, e6⟩ := om r hr
      rw [e4, e5, e6]
      refine ⟨srcI_fr (h.lk.sr r0 hr0).1 hF ((h.a4 r0 hr0).imp id fun h4 b o e hb => ?_), (h.lk.sr r0 hr0).2⟩
      have h5 := (h4 b o e).1
      rcases hb with hb | hb | hb
      · exact h5.1 hb
      · exact h5.2.2.1 hb
      · exact h5.2.2.2 hb⟩
    ao' := .inr ⟨G, rfl⟩
    a1 := h.a1
    a2 := fun g' o e => by cases e; exact nq G hG
    a3 := fun i hi => by
      unfold updN
      split
      · exact ⟨(nq g hg).1, (nq g hg).2.1⟩
      · exact h.a3 i hi
    a4 := fun r hr => by
      obtain ⟨r0, hr0, _, _, _, e4, e5, _⟩ := om r hr
      rw [e4, e5]
      exact (h.a4 r0 hr0).imp id fun h4 b o e => ⟨(h4 b o e).1, .inl (h4 b o e).2⟩
    k1 := ⟨.inl h.k1.1, .inl h.k1.2⟩
    k2 := fun k hk => by
      rcases hk with e | e | ⟨i, hi, e⟩
      · exact .inl (h.k2 k (.inl e))
      · exact .inl (h.k2 k (.inr (.inl e)))
      · unfold updN at e
        split at e
        · have := (hd.at'.row n hn).2.1
          unfold updN at this
          rw [if_pos rfl] at this
          exact .inr ⟨by omega, by omega⟩
        · exact .inl (h.k2 k (.inr (.inr ⟨i, hi, e⟩)))
    k3 := fun g' o e => by cases e; exact .inr ⟨hG, hGl⟩
    lt := fun k hk => by
      rcases hk with hk | hk
      · have := h.lt k hk; omega
      · exact hk.2 }⟩
theorem rt_flush (h : RT w q d N m B ver L last D) (hm : 1 ≤ m) (hu : ∀ c ∈ L, c.fr + c.d.length ≤ 256 ∧ 0 < c.d.length ∧ c.b < N) :
    Calls Tryz.prog 56 #[.pointer (some ⟨q, 0, none⟩)] w fun e w' => e = .returned (.int .i64 0) ∧ RT w' q d N m (flB L B) (fun i => if i < N then [lv (ver i)] else ver i) (keptR L) last (newD D w w') ∧ Fr D w w' := by
  obtain ⟨gB, cB, ao, ca, base, gb, cb, va, vc, h⟩ := h
  refine (rsflush_any h.at' h.bs h.fz h.lk.len (fun c hc => by rw [h.bl]; exact hu c hc) h.ds h.a1 h.a2 h.a3).mono ?_
  rintro e w' ⟨rfl, ⟨ao', ca', hR, hao, hform⟩, hB, hfz, ⟨va', vc', hd, hVA⟩, hF⟩
  have hF' : Fr D w w' := hF.mono (fun k _ e => by
    rcases e with e | e | e | e
    · rw [e]; exact h.k1.1
    · rw [e]; exact h.k2 d (.inl rfl)
    · rw [e]; exact h.k2 gb (.inr (.inl rfl))
    · rw [e]; exact h.k1.2)
  refine ⟨rfl, ?_, hF'⟩
  have hz := hF.size
  have nq : ∀ k, w.heap.size ≤ k → k ≠ q ∧ k ≠ gB ∧ k ≠ d ∧ k ≠ gb := fun k hk => by
    have h1 := h.lt q h.k1.1
    have h2 := h.lt gB h.k1.2
    have h3 := h.lt d (h.k2 d (.inl rfl))
    have h4 := h.lt gb (h.k2 gb (.inr (.inl rfl)))
    omega
  have om : ∀ r ∈ keptR L, r ∈ L := fun r hr => (List.mem_filter.1 hr).1
  have hBl : (flB L B).length = B.length := flB_length L B
  exact ⟨gB, cB, ao', ca', base, gb, cb, va', vc', {
    at' := by rw [hBl]; exact hR
    bs := hB
    fz := hfz
    bl := by rw [hBl]; exact h.bl
    ds := hd
    vl := fun i hi => by rw [if_pos hi]; exact hm
    lk := ⟨Nat.le_trans (List.length_filter_le _ _) h.lk.len, fun r hr => h.lk.bd r (om r hr), fun r hr => by
      refine ⟨srcI_fr (h.lk.sr r (om r hr)).1 hF ((h.a4 r (om r hr)).imp id fun h4 b o e hb => ?_), (h.lk.sr r (om r hr)).2⟩
      have h5 := (h4 b o e).1
      rcases hb with hb | hb | hb | hb
      · exact h5.1 hb
      · exact h5.2.2.1 hb
      · exact h5.2.2.2 hb
      · exact h5.2.1 hb⟩
    ao' := hform
    a1 := h.a1
    a2 := fun g o e => nq g (hao g o e).1
    a3 := fun i hi => by
      rcases hVA i hi with e | e
      · rw [e]; exact h.a3 i hi
      · exact ⟨(nq _ e).1, (nq _ e).2.1⟩
    a4 := fun r hr => (h.a4 r (om r hr)).imp id fun h4 b o e => ⟨(h4 b o e).1, .inl (h4 b o e).2⟩
    k1 := ⟨.inl h.k1.1, .inl h.k1.2⟩
    k2 := fun k hk => by
      rcases hk with e | e | ⟨i, hi, e⟩
      · exact .inl (h.k2 k (.inl e))
      · exact .inl (h.k2 k (.inr (.inl e)))
      · have := (hd.at'.row i hi).2.1
        rcases hVA i hi with e2 | e2
        · exact .inl (h.k2 k (.inr (.inr ⟨i, hi, by rw [← e2]; exact e⟩)))
        · exact .inr ⟨by omega, by omega⟩
    k3 := fun g o e => .inr (hao g o e)
    lt := fun k hk => by
      rcases hk with hk | hk
      · have := h.lt k hk; omega
      · exact hk.2 }⟩
end
end Go.Proofs.YtadadidccbhopaaGreat
/- Both stores beside each other, and a call to each of them. -/
namespace Go.Proofs.YtadadidccbhopaaGreat
open Go.RowKit
set_option maxRecDepth 100000
section
variable {w0 w w' : World} {p dp q : Nat} {s s' : PSt} {ops ops' : Nat → List Int} {κ m : Nat} {A : Nat → List Int} {L : List RCh} {D : Nat → Prop}
theorem alike_any (h : Alike s.C L A) (n : Nat) : (L.any fun c => (c.b : Int) == (n : Int)) = true ↔ ∃ c ∈ s.C, c.b = n := by
  rw [List.any_eq_true]
  constructor
  · rintro ⟨r, hr, e⟩
    obtain ⟨c, hc, _, e2, _⟩ := h.mem hr
    have : (r.b : Int) = (n : Int) := by simpa using e
    exact ⟨c, hc, by omega⟩
  · rintro ⟨c, hc, e⟩
    obtain ⟨k, hk⟩ := List.mem_iff_getElem?.1 hc
    obtain ⟨r, hr, _, e2, _⟩ := h.of hk
    exact ⟨r, List.mem_of_getElem? hr, by simp; omega⟩
end
end Go.Proofs.YtadadidccbhopaaGreat
/- Both stores beside each other, alike to each byte: a call to each of them. -/
namespace Go.Proofs.YtadadidccbhopaaGreat
open Go.RowKit
set_option maxRecDepth 100000
def basS (N : Nat) (s : PSt) : List (List UInt8) := (List.range N).map s.σ.sf
/-- The program's store and the document's, of N blocks, alike and apart. -/
structure BX (N : Nat) (w0 w : World) (p dp ed q : Nat) (s : PSt) (ops : Nat → List Int) (κ m : Nat) (A : Nat → List Int) (L : List RCh) (D : Nat → Prop) : Prop where
  gw : GN N w0 w p dp s ops κ
  pa : PA s A
  rt : ∃ ver, RT w q ed N m (basS N s) ver L s.cnt D ∧ ∀ i, i < N → ver i = s.σ.sf i :: s.σ.ws i
  al : Alike s.C L A
  no : ∀ k, D k → ¬ Ak s k
  db : ∀ k, D k → w0.heap.size ≤ k
section
variable {N : Nat} {w0 w w' : World} {p dp ed q : Nat} {s s' : PSt} {ops ops' : Nat → List Int} {κ m : Nat} {A : Nat → List Int} {L : List RCh} {D : Nat → Prop}
theorem BX.rs (h : BX N w0 w p dp ed q s ops κ m A L D) : RS w q N m L s.cnt D := by
  obtain ⟨ver, h1, _⟩ := h.rt
  exact h1.rs
theorem BX.up (h : BX N w0 w p dp ed q s ops κ m A L D) (hb : Below w.heap.size w w') : BX N w0 w' p dp ed q s ops κ m A L D := by
  obtain ⟨ver, h1, h2⟩ := h.rt
  exact { h with gw := h.gw.up hb, rt := ⟨ver, h1.up hb, h2⟩ }
theorem BX.more (h : BX N w0 w p dp ed q s ops κ m A L D) {κ' m' : Nat} (hk : κ ≤ κ') (hm : m ≤ m') : BX N w0 w p dp ed q s ops κ' m' A L D := by
  obtain ⟨ver, h1, h2⟩ := h.rt
  exact { h with gw := h.gw.more hk, rt := ⟨ver, h1.more hm, h2⟩ }
theorem BX.fitN (h : BX N w0 w p dp ed q s ops κ m A L D) : ∀ c ∈ L, c.fr + c.d.length ≤ 256 ∧ 0 < c.d.length ∧ c.b < N := by
  intro r hr
  obtain ⟨c, hc, _, e2, e3, e4, _⟩ := h.al.mem hr
  have h1 := h.gw.pl.ft c hc
  obtain ⟨b, hb, hbn⟩ := h.gw.pl.cb c hc
  have h2 := h.gw.pl.bdn b hb
  have h3 := h.gw.dn
  unfold fits at h1
  rw [e2, e3, e4]
  exact ⟨h1.1, by omega, by omega⟩
theorem BX.len (h : BX N w0 w p dp ed q s ops κ m A L D) : L.length ≤ κ + 1 := by
  have h1 := h.al.len
  have h2 := h.gw.pl.clen
  have h3 := h.gw.pl.bd.1
  omega
theorem basS_at {N : Nat} {s : PSt} {n : Nat} (hn : n < N) : (basS N s).getD n [] = s.σ.sf n := by
  unfold basS
  rw [List.getD_eq_getElem?_getD, List.getElem?_map, List.getElem?_range hn]
  rfl
/-- The image: what the document lays is what the program lays. -/
theorem laidR_lays : ∀ (C : List Ch) (L : List RCh) (V : Nat → Bool) (al : List Int) (n k : Nat) (x : List UInt8), Alike C L A → (∀ i r, L[i]? = some r → V (k + i) = decide ((r.id : Int) ∈ al)) → (∀ c ∈ C, (c.id : Int) ∈ al → c.b = n) → laidR V L k x = lays x (pickC (ofB C n) al)
  | [], L, _, _, _, _, _, h, _, _ => by
    have hl := h.len
    obtain rfl : L = [] := List.eq_nil_of_length_eq_zero hl
    rfl
  | c :: C, [], _, _, _, _, _, h, _, _ => by have hl := h.len; cases hl
  | c :: C, r :: L, V, al, n, k, x, h, hV, hb => by
    have h1 : absR r = absC A c ∧ L.map absR = C.map (absC A) := by
      have h0 : absR r :: L.map absR = absC A c :: C.map (absC A) := h
      exact ⟨(List.cons.inj h0).1, (List.cons.inj h0).2⟩
    have ih := fun y => laidR_lays C L V al n (k + 1) y h1.2 (fun i r' hr' => by have := hV (i + 1) r' hr'; rw [← this]; congr 1; omega) (fun c hc => hb c (by simp [hc]))
    have hv := hV 0 r rfl
    rw [Nat.add_zero] at hv
    have h2 := h1.1
    unfold absR absC at h2
    simp only [Prod.mk.injEq] at h2
    obtain ⟨a1, a2, a3, a4, _, _⟩ := h2
    unfold laidR
    rw [ih, hv, a1, a3, a4]
    by_cases hm : (c.id : Int) ∈ al
    · have hcb := hb c (by simp) hm
      rw [decide_eq_true hm, if_pos rfl]
      have e : pickC (ofB (c :: C) n) al = c :: pickC (ofB C n) al := by
        unfold pickC ofB
        rw [List.filter_cons_of_pos (by simpa using hcb), List.filter_cons_of_pos (by simpa using hm)]
      rw [e, lays_cons]
    · rw [decide_eq_false hm, if_neg (by simp)]
      have e : pickC (ofB (c :: C) n) al = pickC (ofB C n) al := by
        unfold pickC ofB
        by_cases hcb : c.b = n
        · rw [List.filter_cons_of_pos (by simpa using hcb), List.filter_cons_of_neg (by simpa using hm)]
        · rw [List.filter_cons_of_neg (by simpa using hcb)]
      rw [e]
theorem alw_b {C : List Ch} (hA : Asc C) {n : Nat} : ∀ c ∈ C, (c.id : Int) ∈ alw C n → c.b = n := fun x hx hm => by
  obtain ⟨y, hy, e⟩ := List.mem_map.1 ((alw_sub C n).subset hm)
  obtain ⟨hy1, hy2⟩ := List.mem_filter.1 hy
  have : y = x := hA.inj hy1 hx (by omega)
  rw [← this]; exact of_decide_eq_true hy2
/-- The bases behind a flush. -/
theorem flB_at : ∀ (C : List Ch) (L : List RCh) (B : List (List UInt8)) (n : Nat), Alike C L A → (∀ c ∈ C, c.b < B.length) → n < B.length → (flB L B).getD n [] = lays (B.getD n []) (wrs (ofB C n))
  | [], L, B, n, h, _, _ => by
    have hl := h.len
    obtain rfl : L = [] := List.eq_nil_of_length_eq_zero hl
    rfl
  | c :: C, [], _, _, h, _, _ => by have hl := h.len; cases hl
  | c :: C, r :: L, B, n, h, hb, hn => by
    have h1 : absR r = absC A c ∧ L.map absR = C.map (absC A) := by
      have h0 : absR r :: L.map absR = absC A c :: C.map (absC A) := h
      exact ⟨(List.cons.inj h0).1, (List.cons.inj h0).2⟩
    have h2 := h1.1
    unfold absR absC at h2
    simp only [Prod.mk.injEq] at h2
    obtain ⟨_, a2, a3, a4, a5, _⟩ := h2
    unfold flB
    rw [a5, a2, a3, a4]
    have hcb := hb c (by simp)
    cases hw : c.wr with
    | false =>
      rw [if_neg (by simp), flB_at C L B n h1.2 (fun c hc => hb c (by simp [hc])) hn]
      congr 1
      unfold wrs ofB
      by_cases e : c.b = n
      · rw [List.filter_cons_of_pos (by simpa using e), List.filter_cons_of_neg (by simp [hw])]
      · rw [List.filter_cons_of_neg (by simpa using e)]
    | true =>
      rw [if_pos rfl, flB_at C L _ n h1.2 (fun c hc => by rw [List.length_set]; exact hb c (by simp [hc])) (by rw [List.length_set]; exact hn)]
      by_cases e : c.b = n
      · have e2 : wrs (ofB (c :: C) n) = c :: wrs (ofB C n) := by
          unfold wrs ofB
          rw [List.filter_cons_of_pos (by simpa using e), List.filter_cons_of_pos (by simpa using hw)]
        rw [e2, lays_cons, e]
        congr 1
        rw [List.getD_eq_getElem?_getD, List.getElem?_set, if_pos rfl, if_pos hn]
        rfl
      · have e2 : wrs (ofB (c :: C) n) = wrs (ofB C n) := by
          unfold wrs ofB
          rw [List.filter_cons_of_neg (by simpa using e)]
        rw [e2]
        congr 1
        rw [List.getD_eq_getElem?_getD, List.getElem?_set, if_neg e, ← List.getD_eq_getElem?_getD]
/-- What comes of a call to the program's store, and then of one to the document's. -/
theorem BX.next (h : BX N w0 w p dp ed q s ops κ m A L D) {w1 w2 : World} {κ' m' : Nat} {A' : Nat → List Int} {L' : List RCh} {ver' : Nat → List (List UInt8)} (hg : GN N w0 w1 p dp s' ops' κ') (hpa : PA s' A') (hs : ∀ k, Ak s' k → Ak s k ∨ w.heap.size ≤ k) (hz : w.heap.size ≤ w1.heap.size) (hf2 : Fr D w1 w2) (hrs : RT w2 q ed N m' (basS N s') ver' L' s'.cnt (newD D w1 w2)) (hv : ∀ i, i < N → ver' i = s'.σ.sf i :: s'.σ.ws i) (hal : Alike s'.C L' A') :
    BX N w0 w2 p dp ed q s' ops' κ' m' A' L' (newD D w1 w2) ∧ (∀ k, Ak s' k ∨ newD D w1 w2 k → (Ak s k ∨ D k) ∨ w.heap.size ≤ k) := by
  have hap : ∀ k, Ak s' k → ¬ D k := fun k hA hD => by
    rcases hs k hA with h1 | h1
    · exact h.no k hD h1
    · have := h.rs.ltD k hD; omega
  refine ⟨⟨hg.keep hf2 hap h.db, hpa, ⟨ver', hrs, hv⟩, hal, fun k hk hA => ?_, fun k hk => ?_⟩, fun k hk => ?_⟩
  · rcases hk with hk | hk
    · exact hap k hA hk
    · have := hg.pm.lt hA; omega
  · rcases hk with hk | hk
    · exact h.db k hk
    · have := hg.be.size; omega
  · rcases hk with hk | hk | hk
    · rcases hs k hk with h1 | h1
      · exact .inl (.inl h1)
      · exact .inr h1
    · exact .inl (.inr hk)
    · exact .inr (by omega)
theorem BX.rtOf (h : BX N w0 w p dp ed q s ops κ m A L D) (hf : Fr (Ak s) w w') : ∃ ver, RT w' q ed N m (basS N s) ver L s.cnt D ∧ ∀ i, i < N → ver i = s.σ.sf i :: s.σ.ws i := by
  obtain ⟨ver, h1, h2⟩ := h.rt
  exact ⟨ver, h1.keep hf h.no, h2⟩
end
end Go.Proofs.YtadadidccbhopaaGreat
/- Both stores, alike to each byte: Write, Flush, Patch. -/
namespace Go.Proofs.YtadadidccbhopaaGreat
open Go.RowKit
set_option maxRecDepth 100000
section
variable {N : Nat} {w0 w w' : World} {p dp ed q : Nat} {s s' : PSt} {ops ops' : Nat → List Int} {κ m : Nat} {A : Nat → List Int} {L : List RCh} {D : Nat → Prop}
theorem basS_same {N : Nat} {s s' : PSt} (h : s'.σ.sf = s.σ.sf) : basS N s' = basS N s := by unfold basS; rw [h]
/-- No open change of a block: nothing was written either. -/
theorem BX.clean (h : BX N w0 w p dp ed q s ops κ m A L D) {n : Nat} (hn : n < N) (hc : ¬ ∃ c ∈ s.C, c.b = n) : s.fB n = 0 ∧ s.σ.ws n = [] ∧ ofB s.C n = [] := by
  have hB : ∀ b ∈ s.B, ¬ b.n = n := fun b hb e => by
    obtain ⟨c, hc', e2⟩ := h.gw.pl.bc b hb (by simp)
    exact hc ⟨c, hc', by omega⟩
  refine ⟨?_, (h.gw.pl.cao n (by rw [h.gw.dn]; exact hn) hB).1, ?_⟩
  · rw [h.gw.pl.fb]
    exact lkB_none fun b hb e => hB b hb (by omega)
  · unfold ofB
    rw [List.filter_eq_nil_iff]
    intro c hc' e
    exact hc ⟨c, hc', of_decide_eq_true e⟩
/-- Both are written. -/
theorem xb_write (h : BX N w0 w p dp ed q s ops κ m A L D) (hκ : κ ≤ 900) (hm : m ≤ 900) (n : Int) :
    Calls Tryz.prog 26 #[.pointer (some ⟨p, 0, none⟩), .int .i64 n] w fun r w1 => ∃ e : Int, r = .returned (.int .i64 e) ∧ Fr (Ak s) w w1 ∧
      Calls Tryz.prog 55 #[.pointer (some ⟨q, 0, none⟩), .int .i64 n] w1 fun r2 w2 => r2 = .returned (.int .i64 e) ∧ Fr D w1 w2 ∧ ∃ s' D' L', BX N w0 w2 p dp ed q s' ops (κ + 1) (m + 1) A L' D' ∧ s'.cnt = s.cnt ∧ (∀ k, Ak s' k ∨ D' k → (Ak s k ∨ D k) ∨ w.heap.size ≤ k) := by
  have hp : s.p = p := h.gw.p
  have hN8 := h.gw.le8
  by_cases hout : n < 0 ∨ (N : Int) ≤ n
  · have PW := pwrite_out h.gw.pm n (by rw [h.gw.dn]; exact hout)
    rw [hp] at PW
    refine PW.mono ?_
    rintro r w1 ⟨rfl, rfl⟩
    refine ⟨3, rfl, Fr.refl _ _, (rs_write_out h.rs n hout).mono ?_⟩
    rintro r w2 ⟨rfl, rfl⟩
    exact ⟨rfl, Fr.refl _ _, s, D, L, h.more (by omega) (by omega), rfl, fun k hk => .inl hk⟩
  · obtain ⟨n, rfl⟩ : ∃ n' : Nat, n = (n' : Int) := ⟨n.toNat, by omega⟩
    have hn5 : n < N := by omega
    have hV := h.al.may h.pa h.gw.pl n
    have hf := h.al.ahead h.pa h.gw.pl
    have hu : ∀ c ∈ L, c.fr + c.d.length ≤ 256 ∧ 0 < c.d.length := fun c hc => ⟨(h.fitN c hc).1, (h.fitN c hc).2.1⟩
    by_cases hc : ∃ c ∈ s.C, c.b = n
    · refine (gn_write h.gw h.pa (by omega) n hn5 hc).mono ?_
      rintro r w1 ⟨s', rfl, hg, hpa, hC, hcnt, hsf, hws, hf1, hs⟩
      obtain ⟨ver, hrt, hver⟩ := h.rtOf hf1
      refine ⟨0, rfl, hf1, (rt_write hrt n hn5 (by omega) hu (mayV s.C L n) hV hf).mono ?_⟩
      rintro r w2 (⟨hany, _⟩ | ⟨_, rfl, hrs, hf2⟩)
      · exfalso
        rw [(alike_any h.al n).2 hc] at hany
        cases hany
      · have himg : laidR (mayV s.C L n) L 0 ((basS N s).getD n []) = lays (s.σ.sf n) (pickC (ofB s.C n) (alw s.C n)) := by
          rw [basS_at hn5]
          exact laidR_lays (A := A) s.C L _ (alw s.C n) n 0 _ h.al (fun i r hr => by rw [Nat.zero_add]; exact mayV_at hr) (alw_b h.gw.pl.asc)
        obtain ⟨k1, k2⟩ := h.next hg hpa hs hf1.size hf2 (by rw [hcnt, basS_same hsf]; exact hrs) (fun i hi => by
          unfold upd
          rw [hsf, hws, himg]
          by_cases e : i = n
          · subst e
            rw [if_pos rfl, hver i hi]
            unfold upd
            rw [if_pos rfl]
            rfl
          · rw [if_neg e, hver i hi]
            unfold upd
            rw [if_neg e]) (by rw [hC]; exact outR_alike s.C L (mayV s.C L n) (alw s.C n) 0 h.al (fun i r hr => by rw [Nat.zero_add]; exact mayV_at hr))
        exact ⟨rfl, hf2, s', _, _, k1, hcnt, k2⟩
    · have hfB : s.fB n = 0 := (h.clean hn5 hc).1
      have PW := pwrite_none h.gw.pm n (by rw [h.gw.dn]; exact hn5) (by rw [h.gw.dn]; omega) hfB
      rw [hp] at PW
      refine PW.mono ?_
      rintro r w1 ⟨rfl, rfl⟩
      refine ⟨20, rfl, Fr.refl _ _, (rs_write h.rs n hn5 (by omega) hu (mayV s.C L n) hV hf).mono ?_⟩
      rintro r w2 (⟨_, rfl, hb⟩ | ⟨hany, _⟩)
      · exact ⟨rfl, Fr.of_below hb, s, D, L, (h.up hb).more (by omega) (by omega), rfl, fun k hk => .inl hk⟩
      · exact absurd ((alike_any h.al n).1 hany) hc
theorem lv_lst (s : PSt) (i : Nat) : lv (s.σ.sf i :: s.σ.ws i) = lst s.σ i := by
  unfold lv lst
  cases e : s.σ.ws i with
  | nil => rfl
  | cons x r =>
    unfold lastOf
    simp only [List.length_cons, Nat.add_sub_cancel]
    rw [List.getLast_eq_getElem, List.getD_eq_getElem?_getD, List.getElem?_cons_succ, List.getElem?_eq_getElem (by simp)]
    simp
/-- The bases behind a flush are what lies on the disk. -/
theorem BX.bases (h : BX N w0 w p dp ed q s ops κ m A L D) (hsf : s'.σ.sf = lst s.σ) : flB L (basS N s) = basS N s' := by
  have hbl : (basS N s).length = N := by unfold basS; simp
  apply List.ext_getElem?
  intro n
  by_cases hn : n < N
  · have e1 : (flB L (basS N s))[n]? = some ((flB L (basS N s)).getD n []) := by
      rw [List.getD_eq_getElem?_getD, List.getElem?_eq_getElem (by rw [flB_length, hbl]; exact hn)]
      rfl
    have e2 : (basS N s')[n]? = some (s'.σ.sf n) := by
      unfold basS
      rw [List.getElem?_map, List.getElem?_range hn]
      rfl
    rw [e1, e2, flB_at (A := A) s.C L _ n h.al (fun c hc => by
      obtain ⟨b, hb, hbn⟩ := h.gw.pl.cb c hc
      have h2 := h.gw.pl.bdn b hb
      have h3 := h.gw.dn
      omega) (by omega), basS_at hn, hsf]
    congr 1
    by_cases hc : ∃ c ∈ s.C, c.b = n
    · obtain ⟨c, hc, e⟩ := hc
      obtain ⟨b, hb, hbn⟩ := h.gw.pl.cb c hc
      have h1 := h.gw.pl.lsb b hb
      have h2 := h.gw.pl.sfb b hb
      rw [if_neg (by simp)] at h2
      rw [show b.n = n by omega] at h1 h2
      rw [h1, h2]
    · obtain ⟨_, h2, h3⟩ := h.clean hn hc
      rw [h3]
      unfold lst lastOf
      rw [h2]
      rfl
  · rw [List.getElem?_eq_none (by rw [flB_length, hbl]; omega), List.getElem?_eq_none (by unfold basS; simp; omega)]
/-- Both are flushed. -/
theorem xb_flush (h : BX N w0 w p dp ed q s ops κ m A L D) (hκ : κ ≤ 900) (hm : 1 ≤ m) :
    Calls Tryz.prog 27 #[.pointer (some ⟨p, 0, none⟩)] w fun r w1 => r = .returned (.int .i64 0) ∧ Fr (Ak s) w w1 ∧
      Calls Tryz.prog 56 #[.pointer (some ⟨q, 0, none⟩)] w1 fun r2 w2 => r2 = .returned (.int .i64 0) ∧ Fr D w1 w2 ∧ ∃ s' ops' D' L', BX N w0 w2 p dp ed q s' ops' (κ + 1) m A L' D' ∧ s'.cnt = s.cnt ∧ (∀ k, Ak s' k ∨ D' k → (Ak s k ∨ D k) ∨ w.heap.size ≤ k) := by
  refine (gn_flush h.gw h.pa (by omega)).mono ?_
  rintro r w1 ⟨s', ops', rfl, hg, hpa, hC, hcnt, hsf, hws, hf1, hs⟩
  obtain ⟨ver, hrt, hver⟩ := h.rtOf hf1
  refine ⟨rfl, hf1, (rt_flush hrt hm h.fitN).mono ?_⟩
  rintro r w2 ⟨rfl, hrs, hf2⟩
  rw [h.bases hsf] at hrs
  obtain ⟨k1, k2⟩ := h.next hg hpa hs hf1.size hf2 (by rw [hcnt]; exact hrs) (fun i hi => by rw [if_pos hi, hver i hi, lv_lst, hsf, hws]) (by rw [hC]; exact keptR_alike h.al)
  exact ⟨rfl, hf2, s', ops', _, _, k1, hcnt, k2⟩
end
end Go.Proofs.YtadadidccbhopaaGreat
