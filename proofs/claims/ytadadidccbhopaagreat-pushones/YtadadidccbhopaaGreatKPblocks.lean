/- Package push: the blocks that must be written for a change. -/
import Derived.Test.YtadadidccbhopaaGreatKPsortI
import Derived.Test.YtadadidccbhopaaGreatKPgo
namespace Go.Proofs.YtadadidccbhopaaGreat
open Go.RowKit
set_option maxRecDepth 100000
section
variable {w0 w : World} {p dp : Nat} {s : PSt} {ops : Nat → List Int} {κ : Nat}
set_option maxHeartbeats 4000000 in
theorem blocks_any (h : GW w0 w p dp s ops κ) (hκ : κ ≤ 900) (id : Int) (hid : -9223372036854775808 ≤ id ∧ id ≤ 9223372036854775807) :
    Calls Tryz.prog 102 #[.agg #[.pointer (some ⟨p, 0, none⟩), .int .i64 id]] w fun e w' => ∃ v L, e = .returned v ∧ OwnI w' w.heap.size v L ∧ L.Pairwise (· < ·) ∧ (∀ x, x ∈ L ↔ ∃ c ∈ s.C, Rch s.C id c.id ∧ (c.b : Int) = x) ∧ Below w.heap.size w w' := by
  obtain rfl : s.p = p := h.p
  have HH : Hid (GW w0 w s.p dp s ops κ) := h
  clear h
  go_enter Tryz.func102, Tryz.ntmps102
  go_upto_region 2 with fail
  have hrow := heap_alloc_new w (.cells #[.pointer (some ⟨s.p, 0, none⟩), .int .i64 id] 160)
  have HB1 : Hid (Below w.heap.size w (w.alloc (.cells #[.pointer (some ⟨s.p, 0, none⟩), .int .i64 id] 160))) := (Below.refl _ _).alloc (Nat.le_refl _) _
  have HZ1 : Hid ((w.alloc (.cells #[.pointer (some ⟨s.p, 0, none⟩), .int .i64 id] 160)).heap.size = w.heap.size + 1) := size_alloc _ _
  have HR1 : Hid ((w.alloc (.cells #[.pointer (some ⟨s.p, 0, none⟩), .int .i64 id] 160)).heap[w.heap.size]? = some (.cells #[.pointer (some ⟨s.p, 0, none⟩), .int .i64 id] 160 (0, 0))) := hrow
  have q0 : (w.alloc (.cells #[.pointer (some ⟨s.p, 0, none⟩), .int .i64 id] 160)).cell? ⟨w.heap.size, 0, none⟩ = some (.pointer (some ⟨s.p, 0, none⟩)) := (cell_of_row _ _ _ _ _ _ hrow).trans rfl
  have q1 : (w.alloc (.cells #[.pointer (some ⟨s.p, 0, none⟩), .int .i64 id] 160)).cell? ⟨w.heap.size, 1, none⟩ = some (.int .i64 id) := (cell_of_row _ _ _ _ _ _ hrow).trans rfl
  generalize w.alloc (.cells #[.pointer (some ⟨s.p, 0, none⟩), .int .i64 id] 160) = W1 at *
  have WT := waits_any (HH.out.up HB1.out).pm HH.out.pl hκ id hid
  clear hrow
  go_wp2_with (first | (go_at_call 45; refine Hid.out ?_))
  change Calls _ _ _ _ _
  refine WT.mono ?_
  clear WT
  rintro r W2 ⟨v, L, rfl, hO2, hA2, hm2, hb2⟩
  obtain ⟨ao, ca, rfl, hsr, _⟩ := hO2.form
  have H2 : Hid (SrcI W2 ao L ∧ L.Pairwise (· < ·) ∧ (∀ x, x ∈ L ↔ Rch s.C id x) ∧ Below W1.heap.size W1 W2) := ⟨hsr, hA2, hm2, hb2⟩
  have hLl : (L.length : Int) ≤ 1000 := by
    have h1 : L.length ≤ s.cnt + 1 := by
      have hnd : L.Nodup := hA2.imp fun h => by omega
      have hL : ∀ x ∈ L, ∃ n : Nat, x = (n : Int) ∧ n ≤ s.cnt := fun x hx => by
        obtain ⟨c, hc, e⟩ := opn_iff.1 ((hm2 x).1 hx).opn
        exact ⟨c.id, e.symm, (HH.out.pl.idr c hc).2⟩
      have := nodup_lt_len (s.cnt + 1) (L.map Int.toNat) ?_ fun y hy => ?_
      · simpa using this
      · unfold List.Nodup
        rw [List.pairwise_map]
        refine hnd.imp_of_mem fun {a b} ha hb hne e => hne ?_
        obtain ⟨n1, e1, _⟩ := hL a ha
        obtain ⟨n2, e2, _⟩ := hL b hb
        omega
      · obtain ⟨x, hx, rfl⟩ := List.mem_map.1 hy
        obtain ⟨n1, e1, h2⟩ := hL x hx
        omega
    have := HH.out.pl.bd.1
    omega
  clear hO2 hA2 hm2 hb2 hsr q0 q1
  go_wp2_with fail
  go_loopg [3, 5, 6, 7, 14] 1000 (fun gg t3 _ _ _ t14 W => ∃ (g2 : World) (j : Nat) (B : List Int) (v : Value), g2 = W ∧ v = t3 ∧ (∃ i1 c1, v = .slice i1 B.length c1) ∧ t14 = .int .i64 j ∧ j ≤ L.length ∧ L.length - j ≤ gg ∧ Hid (Below W2.heap.size W2 g2 ∧ OwnI g2 W2.heap.size v B ∧ B.length = j ∧ ∀ x, x ∈ B ↔ ∃ c ∈ s.C, (c.id : Int) ∈ L.take j ∧ (c.b : Int) = x))
  case atStart => exact ⟨_, 0, [], _, rfl, rfl, ⟨none, 0, rfl⟩, rfl, by omega, by omega, Below.refl _ _, OwnI.nil _ _, rfl, fun x => by simp⟩
  case round =>
    obtain ⟨g2, j, B, v, rfl, rfl, ⟨i1, c1, rfl⟩, rfl, hj, hgj, H3⟩ := hrel
    by_cases hjl : (j : Int) < (L.length : Int)
    · obtain ⟨yb, yo, c, hao, hyc, hcm, htk⟩ : ∃ yb yo, ∃ c : Ch, ao = some ⟨yb, yo, none⟩ ∧ g2.cell? ⟨yb, yo + j, none⟩ = some (.int .i64 (c.id : Int)) ∧ c ∈ s.C ∧ L.take (j + 1) = L.take j ++ [(c.id : Int)] := by
        rcases H2.out.1 with e | ⟨yb, yo, e, hl, hcc⟩
        · have : L.length = 0 := by rw [e]; rfl
          omega
        · have hjn : j < L.length := by omega
          obtain ⟨c, hc, e2⟩ := opn_iff.1 ((H2.out.2.2.1 _).1 (getD_mem hjn)).opn
          refine ⟨yb, yo, c, e, ?_, hc, ?_⟩
          · rw [e2]; exact (H3.out.1.cell (p := ⟨yb, yo + j, none⟩) hl).trans (hcc j hjn)
          · rw [List.take_add_one, List.getElem?_eq_getElem hjn, e2, List.getD_eq_getElem?_getD, List.getElem?_eq_getElem hjn]
            rfl
      subst hao
      have HB12 : Hid (Below W1.heap.size W1 g2) := H2.out.2.2.2.trans (H3.out.1.mono H2.out.2.2.2.size)
      have hPM := ((HH.out.up HB1.out).up HB12.out).pm
      have hid2 : (c.id : Int) ≤ 1000000 := by have := HH.out.pl.idr c hcm; have := HH.out.pl.bd.1; omega
      have BK := pblock_ok hPM hcm hid2 (by rw [HH.out.pl.fc]; exact lkC_at HH.out.pl.asc hcm)
      have q0 : g2.cell? ⟨w.heap.size, 0, none⟩ = some (.pointer (some ⟨s.p, 0, none⟩)) := (HB12.out.cell (p := ⟨w.heap.size, 0, none⟩) (by show w.heap.size < _; rw [HZ1.out]; omega)).trans ((cell_of_row _ _ _ _ _ _ HR1.out).trans rfl)
      have HC : Hid (c ∈ s.C) := hcm
      have HTK : Hid (L.take (j + 1) = L.take j ++ [(c.id : Int)]) := htk
      clear hPM hcm htk
      go_wp2_with (first | (go_at_call 46; refine Hid.out ?_))
      change Calls _ _ _ _ _
      refine BK.mono ?_
      clear BK
      rintro r w4 ⟨rfl, hw4⟩
      obtain rfl : g2 = w4 := hw4.symm
      go_wp2_with (first | (at_builtin; refine Hid.out ?_))
      change wpList _ _ _ _ _ _
      refine wpList_append_iG rfl (.tmp 27) (.tmp 29) rfl W2.heap.size B (c.b : Int) _ rfl _ _ rfl (row_same H3.out.2.1 (fun l hl => Below.heap_alloc _ _ _ (H3.out.2.1.lt l hl).2)) (heap_alloc_new _ _) (by have := H3.out.1.size; rw [size_alloc]; omega) (by have := H3.out.2.2.1; omega) ?_
      intro G1 k1 w6 ho6 hg6 hat6
      have H6 : Hid (Below W2.heap.size W2 w6 ∧ OwnI w6 W2.heap.size (.slice (some ⟨G1, 0, none⟩) (B.length + 1) k1) (B ++ [(c.b : Int)]) ∧ (B ++ [(c.b : Int)]).length = j + 1 ∧ ∀ x, x ∈ B ++ [(c.b : Int)] ↔ ∃ c ∈ s.C, (c.id : Int) ∈ L.take (j + 1) ∧ (c.b : Int) = x) := by
        refine ⟨(H3.out.1.alloc H3.out.1.size _).trans ((Below.refl _ _).grown hg6 (Nat.le_trans H3.out.1.size (by rw [size_alloc]; omega)) (fun k hk => (H3.out.2.1.lt k hk).1)), ho6, by rw [List.length_append, H3.out.2.2.1]; rfl, fun x => ?_⟩
        rw [List.mem_append, H3.out.2.2.2 x, HTK.out, List.mem_singleton]
        constructor
        · rintro (⟨d, h1, h2, h3⟩ | h1)
          · exact ⟨d, h1, List.mem_append.2 (.inl h2), h3⟩
          · exact ⟨c, HC.out, List.mem_append.2 (.inr (by simp)), h1.symm⟩
        · rintro ⟨d, h1, h2, h3⟩
          rcases List.mem_append.1 h2 with h2 | h2
          · exact .inl ⟨d, h1, h2, h3⟩
          · have e : d.id = c.id := by have := List.mem_singleton.1 h2; omega
            have := HH.out.pl.asc.inj h1 HC.out e
            subst this
            exact .inr h3.symm
      clear ho6 hg6 hat6
      go_wp2_with fail
      go_roundg (L.length - (j + 1))
      case measure => omega
      case rel => exact ⟨_, j + 1, B ++ [(c.b : Int)], _, rfl, rfl, ⟨some ⟨G1, 0, none⟩, k1, by simp⟩, by go_num, by omega, by omega, H6.out⟩
    · have HT : Hid (L.take j = L) := List.take_of_length_le (by omega)
      have SO := sortI_any B g2 H3.out.2.1 (by have := H3.out.2.2.1; omega)
      go_wp2_with (first | (go_at_call 133; refine Hid.out ?_))
      change Calls _ _ _ _ _
      refine SO.mono ?_
      clear SO
      rintro r w9 ⟨rfl, hO9, hg9⟩
      have hp : (B.mergeSort fun x y => decide (x ≤ y)).Perm B := List.mergeSort_perm _ _
      have hs : (B.mergeSort fun x y => decide (x ≤ y)).Pairwise (· ≤ ·) := (List.pairwise_mergeSort (fun a b c h1 h2 => by simp at *; omega) (fun a b => by simp; omega) B).imp fun h => of_decide_eq_true h
      have CP := compactI_any _ w9 hO9 (by rw [List.length_mergeSort]; have := H3.out.2.2.1; omega) hs
      have H9 : Hid (Below W2.heap.size W2 w9 ∧ ∀ k, (Value.slice i1 B.length c1).ownBlock = some k → W2.heap.size ≤ k) := ⟨H3.out.1.trans ((Below.refl _ _).grown hg9 H3.out.1.size (fun k hk => (H3.out.2.1.lt k hk).1)), fun k hk => (H3.out.2.1.lt k hk).1⟩
      have HP : Hid (∀ x, x ∈ (B.mergeSort fun x y => decide (x ≤ y)) ↔ x ∈ B) := fun x => hp.mem_iff
      clear hO9 hg9 hp hs
      go_wp2_with (first | (go_at_call 135; refine Hid.out ?_))
      change Calls _ _ _ _ _
      refine CP.mono ?_
      clear CP
      rintro r wa ⟨va, la, rfl, hOa, hAa, hma, hga⟩
      have hba : Below W2.heap.size W2 wa := H9.out.1.trans ((Below.refl _ _).grown hga H9.out.1.size H9.out.2)
      have hbw : Below w.heap.size w W2 := HB1.out.trans (H2.out.2.2.2.mono HB1.out.size)
      have HA : Hid (OwnI wa w.heap.size va la ∧ la.Pairwise (· < ·) ∧ (∀ x, x ∈ la ↔ ∃ c ∈ s.C, Rch s.C id c.id ∧ (c.b : Int) = x) ∧ Below w.heap.size w wa) := by
        refine ⟨ownsRow_mono hOa hbw.size, hAa, fun x => ?_, hbw.trans (hba.mono hbw.size)⟩
        rw [hma, HP.out, H3.out.2.2.2 x, HT.out]
        constructor
        · rintro ⟨c, h1, h2, h3⟩
          exact ⟨c, h1, (H2.out.2.2.1 _).1 h2, h3⟩
        · rintro ⟨c, h1, h2, h3⟩
          exact ⟨c, h1, (H2.out.2.2.1 _).2 h2, h3⟩
      clear hOa hAa hma hga hba hbw
      go_wp2_with fail
      go_ret
      exact ⟨_, _, rfl, HA.out⟩
end
end Go.Proofs.YtadadidccbhopaaGreat
