/- Package patch: Ready. -/
import Derived.Test.YtaljaledeljllaaGreatPcalls
namespace Go.Proofs.YtaljaledeljllaaGreat
open Go.RowKit
set_option maxRecDepth 100000
section
variable {w w' w0 : World} {base : Nat} {σ : CSt} {s s' s0 : PSt} {ops ops' : Nat → List Int} {κ : Nat}
set_option maxHeartbeats 2000000 in
theorem pready_any (h : PM w base s ops) (hL : PL s ops [] κ) (hκ : κ ≤ 30000) (n : Nat) (hn : n < s.σ.dn) {b : Bk} (hb : b ∈ s.B) (hbn : b.n = n) :
    Calls Tryz.prog 37 #[.pointer (some ⟨s.p, 0, none⟩), .int .i64 (n : Int)] w fun r w' => r = .returned (.int .i64 ((nwr (pickC (ofB s.C n) (alw s.C n))).length : Int)) ∧ Below w.heap.size w w' := by
  have RC := preach_any h (n : Int)
  rw [if_neg (by omega)] at RC
  have hdn := hL.mdn
  obtain ⟨hop, hcs, hf, hofn, hfb⟩ := hL.alw_pre (by omega) hb hbn
  have AL := allowed_any h hb (ofB s.C n) hop hcs (hL.asc.ofB n) hf hofn
  have LK := h.lookB (n : Int) (by omega)
  rw [hfb] at LK
  simp only [ptrV] at LK
  have c4 := h.c4
  obtain ⟨al, hal⟩ : ∃ al, al = alw s.C n := ⟨_, rfl⟩
  have hal2 : allowG s.C (ofB s.C n) [] = al := hal.symm
  rw [hal2] at AL
  obtain ⟨P, hP⟩ : ∃ P, P = pickC (ofB s.C n) (alw s.C n) := ⟨_, rfl⟩
  have HPK : Hid (cids P = al) := by rw [hP, hal]; exact pick_ids (alw_sub s.C n) (hL.asc.ofB n)
  rw [← hP]
  have HPC : Hid ((∀ c ∈ P, c ∈ s.C ∧ s.fC c.id = c.q + 1 ∧ (c.id : Int) ≤ 1000000) ∧ P.length ≤ 1000000) := ⟨fun c hc => by
    rw [hP] at hc
    have := hcs c (List.mem_filter.1 hc).1
    exact ⟨this.1, this.2.1, this.2.2.1⟩, by rw [hP]; exact Nat.le_trans (List.length_filter_le _ _) hofn⟩
  have HH : Hid (PM w base s ops) := h
  clear h hL hb hbn hop hcs hf hofn hfb hal hal2 hP hdn
  go_enter Tryz.func37, Tryz.ntmps37
  go_wp2_with (first | (go_at_call 72; refine RC.mono ?_; rintro e w1 ⟨rfl, hw1⟩; obtain rfl : w = w1 := hw1.symm) | (go_at_call 73; refine Hid.out ?_))
  change Calls _ _ _ _ _
  refine AL.mono ?_
  clear AL RC LK c4
  rintro r w1 ⟨v, rfl, ho1, hb1⟩
  obtain ⟨va, vc, rfl, hvs, hvl, hvc, hvn⟩ := ho1.form
  obtain ⟨N, hN⟩ : ∃ N, N = P.length := ⟨_, rfl⟩
  have hpl : al.length = N := by
    have := congrArg List.length HPK.out
    simp [cids] at this
    omega
  rw [hpl]
  have hNb : N ≤ 1000000 := by rw [hN]; exact HPC.out.2
  have HN : Hid (N = P.length ∧ al.length = N) := ⟨hN, hpl⟩
  have HVS : Hid (SrcI w1 va al) := hvs
  have P1 := HH.out.up hb1
  have HP1 : Hid (PM w1 base s ops) := P1
  have HB1 : Hid (Below w.heap.size w w1) := hb1
  have c3 := P1.c3
  clear ho1 hvs hvl hvc hvn hb1 P1 hN hpl
  go_wp2
  go_loopg [5, 7, 30] N (fun gg t5 _ t30 W => ∃ (gw : World) (k : Nat), gw = W ∧ w1 = gw ∧ k ≤ N ∧ N - k ≤ gg ∧ t30 = .int .i64 k ∧ t5 = .int .i64 ((nwr (P.take k)).length : Int))
  case atStart => exact ⟨_, 0, rfl, rfl, by omega, by omega, rfl, rfl⟩
  case round =>
    obtain ⟨gw, k, rfl, hgw, hk, hgg, rfl, rfl⟩ := hrel
    subst hgw
    by_cases hlt : k < N
    · have hltz : (k : Int) < (N : Int) := by omega
      have hkl : k < P.length := by rw [← HN.out.1]; exact hlt
      obtain ⟨c, hc⟩ : ∃ c, c = P[k] := ⟨_, rfl⟩
      have hcP : c ∈ P := by rw [hc]; exact List.getElem_mem hkl
      have htk : P.take (k + 1) = P.take k ++ [c] := by rw [List.take_add_one, List.getElem?_eq_getElem hkl, Option.toList_some, ← hc]
      obtain ⟨hcC, hfc, hid⟩ := HPC.out.1 c hcP
      have hak : al.getD k 0 = (c.id : Int) := by
        rw [← HPK.out]
        unfold cids
        rw [List.getD_eq_getElem?_getD, List.getElem?_map, List.getElem?_eq_getElem hkl, hc]; rfl
      obtain ⟨b0, off, rfl, hb0, hcc⟩ : ∃ b off, va = some ⟨b, off, none⟩ ∧ b < w1.heap.size ∧ ∀ j, j < al.length → w1.cell? ⟨b, off + j, none⟩ = some (.int .i64 (al.getD j 0)) := by
        rcases HVS.out with h0 | h1
        · rw [h0] at HN; have := HN.out.2; simp at this; omega
        · exact h1
      have ck := hcc k (by rw [HN.out.2]; exact hlt)
      rw [hak] at ck
      have LK := HP1.out.lookC (c.id : Int) (by omega)
      rw [hfc] at LK
      simp only [ptrV] at LK
      have x4 : w1.cell? ⟨c.q, 4, none⟩ = some (.bool c.wr) := (HP1.out.ch c hcC).c4
      have hnl : (nwr (P.take k)).length ≤ 1000000 := Nat.le_trans (List.length_filter_le _ _) (by rw [List.length_take]; omega)
      obtain ⟨m, hm⟩ : ∃ m, m = (nwr (P.take k)).length := ⟨_, rfl⟩
      rw [← hm] at hnl
      rw [← hm]
      have HM : Hid (m = (nwr (P.take k)).length ∧ P.take (k + 1) = P.take k ++ [c]) := ⟨hm, htk⟩
      clear hcc hcP hcC hfc hak hc htk hm
      cases hw : c.wr with
      | true =>
        rw [hw] at x4
        have HW : Hid (c.wr = true) := hw
        clear hw
        go_wp2
        go_roundg (N - (k + 1))
        case measure => omega
        case rel => exact ⟨_, k + 1, rfl, rfl, by omega, by omega, by go_num, by rw [HM.out.2, (wrs_snoc_t HW.out).2, HM.out.1]⟩
      | false =>
        rw [hw] at x4
        have HW : Hid (c.wr = false) := hw
        clear hw
        go_wp2
        go_roundg (N - (k + 1))
        case measure => omega
        case rel => exact ⟨_, k + 1, rfl, rfl, by omega, by omega, by go_num, by rw [HM.out.2, (wrs_snoc_f HW.out).2, List.length_append, ← HM.out.1]; go_num⟩
    · have hltz : ¬ (k : Int) < (N : Int) := by omega
      have hkn : P.take k = P := List.take_of_length_le (by have := HN.out.1; omega)
      rw [hkn]
      go_wp2
      go_ret
      exact ⟨rfl, HB1.out⟩
end
end Go.Proofs.YtaljaledeljllaaGreat
