/- Package patch: allowed. -/
import Derived.Test.YtadadidccbhopaaGreatJPidx2
import Derived.Test.YtadadidccbhopaaGreatKShelf
namespace Go.Proofs.YtadadidccbhopaaGreat
open Go.RowKit
set_option maxRecDepth 100000
/-- 'append' of a number onto the order, with what turns. -/
theorem wpList_append_l {w : World} {ops : Array Oper} {rest : List Oper} {o : Oper} {a : Act} {Q : Exit → Act → World → Prop} (hgd : o.guard = none) (s x : Operand)
    (ho : o.op = .call { callee := .builtin .append, args := #[s, x], argTypes := #[37, 37] }) (base : Nat) (l : List Int) (y : Int) (v : Value) (hs : a.eval s = v) (g c : Nat) (hx : a.eval x = .slice (some ⟨g, 0, none⟩) 1 c)
    (hown : OwnL w base v l) (hsrc : RowI w g 2 [y]) (hbase : base ≤ w.heap.size) (hb : l.length ≤ 1000000)
    (h : ∀ G cap w', OwnL w' base (.slice (some ⟨G, 0, none⟩) (l.length + 1) cap) (l ++ [y]) → w.grownBy w' v.ownBlock → (v.ownBlock = some G ∨ w.heap.size ≤ G) → wpList Tryz.prog ops Q rest (a.put o.dst (.slice (some ⟨G, 0, none⟩) (l.length + 1) cap)) w') : wpList Tryz.prog ops Q (o :: rest) a w := by
  obtain ⟨i0, hi, hz0, hz1, hz2⟩ := info_parts Tryz.infoL
  have hcs : ∀ j u, (ivs [y])[j]? = some u → w.cell? ((⟨g, 0, none⟩ : Addr).add j) = some u := by
    intro j u hj
    have hjl : j < (ivs [y]).length := (List.getElem?_eq_some_iff.1 hj).1
    rw [ivs_length] at hjl
    obtain rfl : j = 0 := by simp at hjl; omega
    rw [addr_add, Nat.zero_add, hsrc.cell 0 (by simp), ← hj]
    rfl
  obtain ⟨G, cap, w', hr, hown', hgr, hat, _⟩ := run_append_lies (P := Tryz.prog) w 37 o.type base 2 i0 _ 1 8 Tryz.underlying37 hi hz0 hz1 hz2 rfl (by decide) v l.length (ivs l) hown ⟨g, 0, none⟩ 1 c (ivs [y]) (by simp [ivs_length]) hcs (ivs_one _) (by omega) (by unfold maxLen; omega) (by omega) hbase _ rfl
  refine wpList_plain hgd fun K hK => ?_
  unfold Oper.wp execOp
  simp only [ho, resolve, invoke, builtin]
  simp [hs, hx, hr, Result.andThen]
  refine hK _ _ (h G cap w' ?_ hgr ?_)
  · unfold OwnL
    rw [List.length_append, ivs_append]
    exact hown'
  · rcases hat with hat | hat
    · exact .inl hat
    · exact .inr (by omega)

theorem SrcI.drewN {w : World} {sp : Option Addr} {l : List Int} (h : SrcI w sp l) (q : Nat) : SrcI (w.drewN q) sp l := h.below (belowN (Below.refl w.heap.size w) q) (Nat.le_refl _)
set_option maxHeartbeats 1000000 in
theorem search_none (sp : Option Addr) (c : Nat) (x : Int) (w : World) :
    Calls Tryz.prog 118 #[.slice sp 0 c, .int .i64 x] w fun e w' => e = .returned (.tuple #[.int .i64 0, .bool false]) ∧ w' = w := by
  go_enter Tryz.func118, Tryz.ntmps118
  go_wp2
  go_loopg [7, 8] 0 (fun _ s7 s8 wr => s7 = .int .i64 0 ∧ s8 = .int .i64 0 ∧ wr = w)
  case atStart => exact ⟨rfl, rfl, rfl⟩
  case round =>
    obtain ⟨rfl, rfl, rfl⟩ := hrel
    go_wp2
    go_ret2
    exact ⟨rfl, rfl⟩
theorem search_any (sp : Option Addr) (c : Nat) (l : List Int) (x : Int) (w : World) (hs : SrcI w sp l) (hl : l.length ≤ 1000000) (ho : l.Pairwise (· ≤ ·)) :
    Calls Tryz.prog 118 #[.slice sp l.length c, .int .i64 x] w fun e w' => (∃ i : Int, e = .returned (.tuple #[.int .i64 i, .bool (l.contains x)])) ∧ ∃ q, w' = w.drewN q := by
  rcases hs with rfl | ⟨b, off, rfl, _, hc⟩
  · refine (search_none sp c x w).mono ?_
    rintro e w' ⟨rfl, rfl⟩
    exact ⟨⟨0, rfl⟩, 0, rfl⟩
  · have h := AnyG.slices_BinarySearch_int Tryz.searchL b off l.length c l x w (Nat.le_refl _) (by omega) hc (by rw [List.take_of_length_le (Nat.le_refl _)]; exact ho)
    rw [List.take_of_length_le (Nat.le_refl _)] at h
    refine Calls.mono h ?_
    rintro e w' ⟨rfl, hq⟩
    exact ⟨⟨_, rfl⟩, hq⟩
section
variable {w w' w0 : World} {base : Nat} {s s' s0 : PSt} {ops ops' : Nat → List Int}
set_option maxHeartbeats 1000000 in
theorem holds_any (h : PM w base s ops) (B1 B2 c : Nat) (sp : Option Addr) (acc : List Int) (x : Int) (q1 : w.cell? ⟨B1, 0, none⟩ = some (.slice sp acc.length c)) (q2 : w.cell? ⟨B2, 0, none⟩ = some (.pointer (some ⟨s.p, 0, none⟩))) (hs : SrcI w sp acc) (hl : acc.length ≤ 1000000) (ho : acc.Pairwise (· ≤ ·)) (hx : -9223372036854775808 ≤ x ∧ x ≤ 9223372036854775807) (hf : decide (s.fC x = 0) = !opn s.C x) :
    Calls Tryz.prog 117 #[.int .i64 x, .pointer (some ⟨B1, 0, none⟩), .pointer (some ⟨B2, 0, none⟩)] w fun e w' => e = .returned (.bool (holdsB s.C acc x)) ∧ ∃ q, w' = w.drewN q := by
  have BS := search_any sp c acc x w hs hl ho
  have CL : ∀ q, Calls Tryz.prog 96 #[.pointer (some ⟨s.p, 0, none⟩), .int .i64 x] (w.drewN q) fun e w' => e = .returned (.bool (!opn s.C x)) ∧ w' = w.drewN q := fun q => by
    rw [← hf]; exact closed_any (h.up (belowN (Below.refl _ _) q)) x hx
  have HH : Hid (holdsB s.C acc x = (!acc.contains x && opn s.C x)) := rfl
  generalize holdsB s.C acc x = r at *
  clear h hs ho hf hx
  generalize acc.contains x = f at *
  generalize opn s.C x = o at *
  go_enter Tryz.func117, Tryz.ntmps117
  go_wp2_with fail
  refine BS.mono ?_
  clear BS
  rintro e w1 ⟨⟨i, rfl⟩, q, rfl⟩
  have CL := CL q
  cases f with
  | true =>
    clear CL
    go_wp2
    go_ret
    exact ⟨by rw [HH.out]; rfl, q, rfl⟩
  | false =>
    go_wp2_with (first | (go_at_call 96; refine CL.mono ?_; rintro e w2 ⟨rfl, rfl⟩))
    go_ret
    exact ⟨by rw [HH.out]; cases o <;> rfl, q, rfl⟩
theorem box_kept {gw w2 : World} {o : Obj} {v : Value} {l : List Int} {B k q : Nat} (hown : OwnL gw B v l) (hg : ((gw.drewN q).alloc o).grownBy w2 v.ownBlock) (hk : k < B) (hkl : k < gw.heap.size) : w2.heap[k]? = gw.heap[k]? := by
  refine (hg.block k ?_ (fun e => ?_)).trans (Below.heap_alloc _ _ k hkl)
  · show k < (gw.heap.push o).size
    simp; omega
  · have := (hown.lt k e.symm).1
    omega
theorem allowG_snoc (C : List Ch) (l : List Ch) (c : Ch) (acc : List Int) : allowG C (l ++ [c]) acc = (if c.ah.any (holdsB C (allowG C l acc)) then allowG C l acc else allowG C l acc ++ [(c.id : Int)]) := by
  rw [allowG_append]; rfl
theorem cids_get (L : List Ch) (k : Nat) (hk : k < L.length) : (cids L).getD k 0 = (L[k].id : Int) := by simp [cids, List.getD_eq_getElem?_getD, hk]
set_option maxHeartbeats 4000000 in
theorem allowed_any (h : PM w base s ops) {b : Bk} (hb : b ∈ s.B) (L : List Ch) (hop : ops b.q = cids L) (hL : ∀ c ∈ L, c ∈ s.C ∧ s.fC c.id = c.q + 1 ∧ (c.id : Int) ≤ 1000000 ∧ c.ah.length ≤ 1000000 ∧ ∀ i ∈ c.ah, -9223372036854775808 ≤ i ∧ i ≤ 9223372036854775807) (hasc : Asc L)
    (hf : ∀ i : Int, -9223372036854775808 ≤ i ∧ i ≤ 9223372036854775807 → decide (s.fC i = 0) = !opn s.C i) (hlen : L.length ≤ 1000000) :
    Calls Tryz.prog 83 #[.pointer (some ⟨s.p, 0, none⟩), .pointer (some ⟨b.q, 0, none⟩)] w fun e w' => ∃ v, e = .returned v ∧ OwnL w' w.heap.size v (allowG s.C L []) ∧ Below w.heap.size w w' := by
  have hbk := h.bk b hb
  obtain ⟨ao, co, hov, hsrc, _, hcm, _⟩ := hbk.opn.form
  rw [hop, show (cids L).length = L.length by simp [cids]] at hov
  rw [hop] at hsrc
  have q1 := hbk.c1
  rw [hov] at q1
  have HH : Hid (PM w base s ops) := h
  have HL : Hid (∀ c ∈ L, c ∈ s.C ∧ s.fC c.id = c.q + 1 ∧ (c.id : Int) ≤ 1000000 ∧ c.ah.length ≤ 1000000 ∧ ∀ i ∈ c.ah, -9223372036854775808 ≤ i ∧ i ≤ 9223372036854775807) := hL
  have HA : Hid (Asc L) := hasc
  have HF : Hid (∀ i : Int, -9223372036854775808 ≤ i ∧ i ≤ 9223372036854775807 → decide (s.fC i = 0) = !opn s.C i) := hf
  have HS : Hid (SrcI w ao (cids L)) := hsrc
  have HQL : Hid (b.q < w.heap.size) := (Array.getElem?_eq_some_iff.1 hbk.cell).1
  obtain ⟨n, hn⟩ : ∃ n, n = L.length := ⟨_, rfl⟩
  have HN : Hid (n = L.length) := hn
  rw [← hn] at q1 hlen
  have eg : ∀ args w, (callFunc 117 args).run Tryz.prog w = .ok (.enter 117 args) w := enters_of Tryz.func117 (by kernel_rfl) rfl
  have hbs := h.bs
  clear h hL hasc hf hsrc hbk hov hop hn hcm
  go_enter Tryz.func83, Tryz.ntmps83
  go_upto_region 3 with fail
  obtain ⟨W2, hW2⟩ : ∃ W2, W2 = (w.alloc (.cells #[Value.pointer (some ⟨s.p, 0, none⟩)] 30)).alloc (.cells #[Value.slice none 0 0] 37) := ⟨_, rfl⟩
  have hb2 : Below w.heap.size w W2 := by rw [hW2]; exact ((Below.refl _ _).alloc (Nat.le_refl _) _).alloc (by simp) _
  have e1 : (w.alloc (.cells #[Value.pointer (some ⟨s.p, 0, none⟩)] 30)).heap.size = w.heap.size + 1 := by show (w.heap.push _).size = _; simp
  have r1 : W2.heap[w.heap.size + 1]? = some (.cells #[Value.slice none 0 0] 37 (0, 0)) := by rw [hW2, ← e1]; exact heap_alloc_new _ _
  have r0 : W2.heap[w.heap.size]? = some (.cells #[Value.pointer (some ⟨s.p, 0, none⟩)] 30 (0, 0)) := by
    rw [hW2, Below.heap_alloc _ _ _ (by rw [e1]; omega)]; exact heap_alloc_new _ _
  have hz2 : W2.heap.size = w.heap.size + 2 := by rw [hW2]; show ((w.heap.push _).push _).size = _; simp
  rw [← hW2]
  have q1' : W2.cell? ⟨b.q, 256, none⟩ = some (.slice ao n co) := (hb2.cell (p := ⟨b.q, 256, none⟩) HQL.out).trans q1
  have HR : Hid (W2.heap[w.heap.size]? = some (.cells #[Value.pointer (some ⟨s.p, 0, none⟩)] 30 (0, 0)) ∧ W2.heap[w.heap.size + 1]? = some (.cells #[Value.slice none 0 0] 37 (0, 0)) ∧ Below w.heap.size w W2 ∧ W2.heap.size = w.heap.size + 2) := ⟨r0, r1, hb2, hz2⟩
  clear hW2 hb2 e1 r1 r0 hz2 q1
  go_wp2
  go_loopg [8, 15] n (fun gg _ s15 W => ∃ (gw : World) (k : Nat) (v : Value), gw = W ∧ k ≤ n ∧ n - k ≤ gg ∧ s15 = .int .i64 k ∧ Hid (gw.heap[w.heap.size]? = some (.cells #[Value.pointer (some ⟨s.p, 0, none⟩)] 30 (0, 0)) ∧ gw.heap[w.heap.size + 1]? = some (.cells #[v] 37 (0, 0)) ∧ Below w.heap.size w gw ∧ w.heap.size + 2 ≤ gw.heap.size) ∧ Hid (OwnL gw (w.heap.size + 2) v (allowG s.C (L.take k) [])))
  case atStart => exact ⟨_, 0, .slice none 0 0, rfl, by omega, by omega, rfl, ⟨HR.out.1, HR.out.2.1, HR.out.2.2.1, by rw [HR.out.2.2.2]; omega⟩, OwnL.nil _ _⟩
  case round =>
    clear HR q1'
    obtain ⟨gw, k, v, rfl, hk, hgg, rfl, HR, HO⟩ := hrel
    have z0 : gw.cell? ⟨w.heap.size, 0, none⟩ = some (.pointer (some ⟨s.p, 0, none⟩)) := by rw [cell_of_row gw _ 0 _ _ _ HR.out.1]; rfl
    have z1 : gw.cell? ⟨w.heap.size + 1, 0, none⟩ = some v := by rw [cell_of_row gw _ 0 _ _ _ HR.out.2.1]; rfl
    have z1f : gw.frozen? ⟨w.heap.size + 1, 0, none⟩ = false := frozen_of_row gw _ 0 _ _ HR.out.2.1
    by_cases hlt : k < n
    · have hkl : k < L.length := by rw [← HN.out]; exact hlt
      have hltz : (k : Int) < (n : Int) := by omega
      obtain ⟨c, hc⟩ : ∃ c, c = L[k] := ⟨_, rfl⟩
      have hcL : c ∈ L := by rw [hc]; exact List.getElem_mem hkl
      obtain ⟨hcC, hfc, hid, hal, hab⟩ := HL.out c hcL
      have PW := HH.out.up HR.out.2.2.1
      obtain ⟨g0, off, rfl, hg0, hcc⟩ : ∃ b off, ao = some ⟨b, off, none⟩ ∧ b < w.heap.size ∧ ∀ j, j < (cids L).length → w.cell? ⟨b, off + j, none⟩ = some (.int .i64 ((cids L).getD j 0)) := by
        rcases HS.out with h0 | h1
        · have h2 : (cids L).length = 0 := by rw [h0]; rfl
          rw [show (cids L).length = L.length by simp [cids]] at h2
          omega
        · exact h1
      have ck : gw.cell? ⟨g0, off + k, none⟩ = some (.int .i64 (c.id : Int)) := by
        rw [hc, ← cids_get L k hkl]; exact (HR.out.2.2.1.cell (p := ⟨g0, off + k, none⟩) hg0).trans (hcc k (by simp [cids]; omega))
      have c3 := PW.c3
      have LK := PW.lookC (c.id : Int) (by omega)
      rw [hfc] at LK
      simp only [ptrV] at LK
      have hca := PW.ch c hcC
      obtain ⟨aa, ac, hav, hasrc, _, hacm, _⟩ := hca.ahd.form
      have a3 := hca.c3
      rw [hav] at a3
      obtain ⟨ap, cc, rfl, hps, hpl, _, _⟩ := HO.out.form
      have hcn : c.id = L[k].id := by rw [hc]
      obtain ⟨acc, hacc⟩ : ∃ acc, acc = allowG s.C (L.take k) [] := ⟨_, rfl⟩
      have hasc : acc.Pairwise (· ≤ ·) := by
        rw [hacc]
        obtain ⟨s2, e2, sub2⟩ := allowG_sub s.C (L.take k) []
        rw [e2, List.nil_append]
        refine List.Pairwise.imp (fun h => Int.le_of_lt h) ((Asc.cids (C := L.take k) ?_).sublist sub2)
        exact List.Pairwise.sublist (List.take_sublist _ _) HA.out
      have hacl : acc.length ≤ 1000000 := by
        rw [hacc]
        obtain ⟨s2, e2, sub2⟩ := allowG_sub s.C (L.take k) []
        rw [e2, List.nil_append]
        have := sub2.length_le
        simp [cids] at this
        omega
      have HNX : Hid (allowG s.C (L.take (k + 1)) [] = if c.ah.any (holdsB s.C acc) then acc else acc ++ [(c.id : Int)]) := by
        rw [List.take_add_one, List.getElem?_eq_getElem hkl, Option.toList_some, allowG_snoc, ← hacc, hc]
        exact (rfl : _ = _)
      rw [← hacc] at z1 hps HO HR
      have CF := containsFunc_c 117 (.pointer (some ⟨w.heap.size + 1, 0, none⟩)) (.pointer (some ⟨w.heap.size, 0, none⟩)) eg (holdsB s.C acc) aa ac c.ah gw hasrc (by omega) (fun x hx m => by
        have hm : Below gw.heap.size gw (gw.drewN m) := belowN (Below.refl _ _) m
        refine (holds_any (PW.up hm) (w.heap.size + 1) w.heap.size cc ap acc x z1 z0 (hps.drewN m) hacl hasc (hab x hx) (HF.out x (hab x hx))).mono ?_
        rintro e w' ⟨rfl, q, rfl⟩
        exact ⟨rfl, m + q, by rw [World.drewN_drewN]⟩)
      have HPW : Hid (c.id = L[k].id) := hcn
      clear hc hcL hab PW hcc hca hasrc hps hacc hcn hal hid
      generalize holdsB s.C acc = hB at *
      cases ha : c.ah.any hB with
      | true =>
        rw [ha] at CF
        have HNX2 : Hid (allowG s.C (L.take (k + 1)) [] = acc) := by have := HNX.out; rw [ha] at this; exact this
        clear HNX
        go_wp2_with (first | (go_at_call 88; refine CF.mono ?_; rintro e w' ⟨⟨q, rfl⟩, rfl⟩))
        go_roundg (n - (k + 1))
        case measure => omega
        case rel =>
          refine ⟨_, k + 1, .slice ap acc.length cc, rfl, by omega, by omega, by go_num, ⟨HR.out.1, HR.out.2.1, belowN HR.out.2.2.1 q, HR.out.2.2.2⟩, ?_⟩
          rw [HNX2.out]
          exact HO.out
      | false =>
        rw [ha] at CF
        have HNX2 : Hid (allowG s.C (L.take (k + 1)) [] = acc ++ [(c.id : Int)]) := by have := HNX.out; rw [ha] at this; exact this
        clear HNX
        have hz1 : w.heap.size + 1 < gw.heap.size := by have := HR.out.2.2.2; omega
        go_wp2_with (first | (go_at_call 88; refine CF.mono ?_; rintro e w' ⟨⟨q, rfl⟩, rfl⟩) | (at_builtin; refine Hid.out ?_))
        change wpList _ _ _ _ _ _
        refine wpList_append_l rfl (.tmp 31) (.tmp 33) rfl (w.heap.size + 2) acc (c.id : Int) _ rfl _ _ rfl (row_same HO.out (fun j hj => Below.heap_alloc _ _ _ (HO.out.lt j hj).2)) (heap_alloc_new _ _) (by have := HR.out.2.2.2; simp; omega) hacl ?_
        intro G cap w2 ho2 hg2 hat2
        have hk2 := fun (j : Nat) (h1 : j < w.heap.size + 2) (h2 : j < gw.heap.size) => box_kept HO.out hg2 h1 h2
        have z2 : w2.cell? ⟨w.heap.size + 1, 0, none⟩ = some (.slice ap acc.length cc) := (World.cell?_of_block (w := gw) (a := ⟨w.heap.size + 1, 0, none⟩) (hk2 (w.heap.size + 1) (by omega) hz1)).trans z1
        have z2f : w2.frozen? ⟨w.heap.size + 1, 0, none⟩ = false := (World.frozen?_of_block (w := gw) (a := ⟨w.heap.size + 1, 0, none⟩) (hk2 (w.heap.size + 1) (by omega) hz1)).trans z1f
        have HK2 : Hid _ := hk2
        have HG2 : Hid _ := And.intro ho2 (And.intro hg2 hat2)
        clear ho2 hg2 hat2 hk2
        go_wp2
        go_roundg (n - (k + 1))
        case measure => omega
        case rel =>
          have hGb : w.heap.size + 2 ≤ G := (HG2.out.1.lt G rfl).1
          have hz2 : gw.heap.size ≤ w2.heap.size := by
            have h1 := HG2.out.2.1.size
            have h2 : ∀ (W : World) (o : Obj), (W.alloc o).heap.size = W.heap.size + 1 := fun W o => by show (W.heap.push o).size = _; simp
            rw [h2] at h1
            exact Nat.le_trans (Nat.le_succ _) h1
          have hr1 : w2.heap[w.heap.size + 1]? = some (.cells #[Value.slice ap acc.length cc] 37 (0, 0)) := (HK2.out _ (by omega) hz1).trans HR.out.2.1
          have hset := heap_setCell_same w2 (w.heap.size + 1) 0 _ _ (.slice (some ⟨G, 0, none⟩) (acc.length + 1) cap) hr1
          refine ⟨_, k + 1, .slice (some ⟨G, 0, none⟩) (acc.length + 1) cap, rfl, by omega, by omega, by go_num, ⟨?_, hset, ?_, ?_⟩, ?_⟩
          · exact (heap_setCell_other _ _ _ _ (by simp)).trans ((HK2.out _ (by omega) (by omega)).trans HR.out.1)
          · refine Below.setCell ?_ (show w.heap.size ≤ w.heap.size + 1 by omega) _
            refine ⟨?_, ?_, ?_, by have := HR.out.2.2.1.size; omega, fun j hj => (HK2.out j (by omega) (by have := HR.out.2.2.1.size; omega)).trans (HR.out.2.2.1.block j hj)⟩
            · exact HG2.out.2.1.os.trans HR.out.2.2.1.os
            · exact HG2.out.2.1.tape.trans HR.out.2.2.1.tape
            · exact HG2.out.2.1.output.trans HR.out.2.2.1.output
          · show _ ≤ (w2.setCell _ _).heap.size
            have := HR.out.2.2.2
            simp [World.setCell]; omega
          · rw [HNX2.out]
            exact row_same HG2.out.1 fun j hj => heap_setCell_other _ _ _ _ (by
              obtain rfl : G = j := by simpa [Value.ownBlock] using hj
              simp; omega)
    · have hltz : ¬ (k : Int) < (n : Int) := by omega
      have hkn : k = n := by omega
      subst hkn
      have HO2 : Hid (OwnL gw (w.heap.size + 2) v (allowG s.C L [])) := by
        have := HO.out
        rw [HN.out, List.take_of_length_le (Nat.le_refl _)] at this
        exact this
      go_wp2
      go_ret
      exact ⟨v, rfl, row_mono HO2.out (by omega), HR.out.2.2.1⟩
end
end Go.Proofs.YtadadidccbhopaaGreat
