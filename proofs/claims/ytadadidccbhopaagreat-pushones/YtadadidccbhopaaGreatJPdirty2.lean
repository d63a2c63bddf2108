/- Package patch: Dirty. -/
import Derived.Test.YtadadidccbhopaaGreatJPadd24
import Derived.Shelf.AbstractIn
namespace Go.Proofs.YtadadidccbhopaaGreat
open Go.RowKit Go.Maps Go.Sort Go.Shelf
set_option maxRecDepth 100000
theorem sortsA (m : Nat) : AnyZI.SortsIn Tryz.prog Tryz.sortedL_ren Fence.wide m :=
  ⟨fun blk off cap ss W hH hblk hsz => callsIn_wide.2 (AnyM.slices_Sort_int Tryz.sortI blk off cap ss W hH hblk hsz),
   fun p cap W => callsIn_wide.2 (AnyM.slices_Sort_int_none Tryz.sortI p cap W)⟩
section
variable {w w' w0 : World} {base : Nat} {s s' s0 : PSt} {ops ops' : Nat → List Int}
set_option maxHeartbeats 2000000 in
theorem pdirty_any (h : PM w base s ops) (hl : s.kB.length ≤ 1000000) :
    Calls Tryz.prog 33 #[.pointer (some ⟨s.p, 0, none⟩)] w fun e w' => ∃ (v : Value) (ss : List Int), e = .returned v ∧ OwnI w' w.heap.size v ss ∧ ss.Perm s.kB ∧ ss.Pairwise (· ≤ ·) ∧ Below w.heap.size w w' := by
  obtain ⟨D0, hown, hsz, hpm⟩ := h.mb.keys Tryz.underlying3
  refine (callsIn_wide (n := 6)).1 ?_
  have hbl := hown.lt
  have hseq : SeqGives Fence.wide 2 Tryz.prog 134 #[.pointer (some ⟨w.heap.size, 0, none⟩)] encZ (fun ss => ss.Perm (intKeys D0)) (Maps.size D0) (w.alloc (.cells #[.map (some s.bm)] 122)) :=
    AnyZI.keys_gives (ρ := Tryz.keysL_ren) { Tryz.keysL with } Fence.wide _ trivial rfl (by omega) w.heap.size s.bm s.kb D0 _ (by simp) (by simp) (by
      obtain ⟨es, clock, hb, Ft, hs, hD⟩ := hown
      exact ⟨es, clock, (Below.heap_alloc _ _ s.bm hbl).trans hb, Ft, hs, hD⟩)
  have cK : ∀ mb W, CallsIn Fence.wide 5 Tryz.prog 100 #[.map mb] W fun e w' => e = .returned (.func (.func 134) #[] #[.pointer (some ⟨W.heap.size, 0, none⟩)]) ∧ w' = W.alloc (.cells #[.map mb] 122) := fun mb W => AnyZI.keys_in Tryz.keysL Fence.wide 5 trivial rfl mb W
  have cS := AnyZI.sorted_in Tryz.sortedL Fence.wide 5 trivial trivial trivial trivial rfl (by omega) (sortsA _) (enters_of Tryz.func133 (by kernel_rfl) rfl) 134 #[.pointer (some ⟨w.heap.size, 0, none⟩)] trivial (enters_of Tryz.func134 (by kernel_rfl) rfl) _ _ (by rw [hsz]; unfold maxLen; omega) (by rw [hsz]; omega) _ hseq
  change CallsIn _ _ Tryz.prog 99 _ _ _ at cS
  have hfK : Fence.wide.fn 100 := trivial
  have hfS : Fence.wide.fn 99 := trivial
  have c4 := h.c4
  have HPM : Hid (s.kB.Perm (intKeys D0)) := hpm
  clear h hown hpm hseq hsz
  refine callsIn_of_wp Tryz.func33 rfl trivial ?_ rfl
  simp only [Tryz.ntmps33, List.size_toArray, List.length_cons, List.length_nil, Nat.reduceAdd, Nat.reduceSub, Array.replicate_succ, Array.replicate_zero, List.push_toArray, List.append_toArray, List.nil_append, List.cons_append]
  gi_wp2_with (first
    | (gi_at_call 100; refine (cK _ _).mono ?_; rintro e w' ⟨rfl, rfl⟩)
    | (gi_at_call 99; refine cS.mono ?_; rintro e w' ⟨v, ss, rfl, hS, hrow, hnil, hb⟩))
  go_ret
  refine ⟨v, ss.mergeSort (fun x y => decide (x ≤ y)), rfl, ?_, ((List.mergeSort_perm ss _).trans hS).trans HPM.out.symm, ?_, ((Below.refl _ w).alloc (Nat.le_refl _) _).trans (hb.mono (by simp))⟩
  · have h1 := ownsRow_base_a hrow (show w.heap.size ≤ (w.alloc (.cells #[Value.map (some s.bm)] 122)).heap.size by simp)
    unfold OwnI
    rw [List.length_mergeSort]
    exact h1
  · exact List.Pairwise.imp (fun h => by simpa using h) (List.pairwise_mergeSort (le := fun x y : Int => decide (x ≤ y)) (fun a b c h1 h2 => by simp only [decide_eq_true_eq] at *; omega) (fun a b => by simp only [Bool.or_eq_true, decide_eq_true_eq]; omega) ss)
end
end Go.Proofs.YtadadidccbhopaaGreat
/- Package patch: settle. -/
namespace Go.Proofs.YtadadidccbhopaaGreat
open Go.RowKit
set_option maxRecDepth 100000
def delF (f : Int → Nat) (l : List Int) : Int → Nat := l.foldl (fun f i => setF f i 0) f
def delK (ks l : List Int) : List Int := l.foldl (fun ks i => ks.filter fun y => decide (y ≠ i)) ks
theorem delF_eq (l : List Int) : ∀ (f : Int → Nat) (x : Int), delF f l x = if x ∈ l then 0 else f x := by
  induction l with
  | nil => intro f x; simp [delF]
  | cons i l ih =>
    intro f x
    show delF (setF f i 0) l x = _
    rw [ih]
    by_cases h1 : x ∈ l
    · rw [if_pos h1, if_pos (by simp [h1])]
    · by_cases h2 : x = i
      · subst h2
        rw [if_neg h1, if_pos (by simp)]; simp [setF]
      · rw [if_neg h1, if_neg (by simp [h1, h2])]; simp [setF, h2]
theorem delK_eq (l : List Int) : ∀ ks : List Int, delK ks l = ks.filter fun y => decide (y ∉ l) := by
  induction l with
  | nil => intro ks; exact (List.filter_eq_self.2 (fun _ _ => by simp)).symm
  | cons i l ih =>
    intro ks
    show delK (ks.filter fun y => decide (y ≠ i)) l = _
    rw [ih, List.filter_filter]
    refine List.filter_congr fun y _ => ?_
    simp [not_or]
    exact Bool.and_comm _ _
theorem delF_snoc (f : Int → Nat) (l : List Int) (i : Int) : delF f (l ++ [i]) = setF (delF f l) i 0 := by simp [delF, List.foldl_append]
theorem delK_snoc (ks l : List Int) (i : Int) : delK ks (l ++ [i]) = (delK ks l).filter fun y => decide (y ≠ i) := by simp [delK, List.foldl_append]
def wrs (L : List Ch) : List Ch := L.filter fun c => c.wr
def nwr (L : List Ch) : List Ch := L.filter fun c => !c.wr
theorem wrs_snoc_t {L : List Ch} {c : Ch} (h : c.wr = true) : wrs (L ++ [c]) = wrs L ++ [c] ∧ nwr (L ++ [c]) = nwr L := by simp [wrs, nwr, h]
theorem wrs_snoc_f {L : List Ch} {c : Ch} (h : c.wr = false) : wrs (L ++ [c]) = wrs L ∧ nwr (L ++ [c]) = nwr L ++ [c] := by simp [wrs, nwr, h]
section
variable {w w' w0 : World} {base : Nat} {s s' s0 : PSt} {ops ops' : Nat → List Int}
set_option maxHeartbeats 4000000 in
theorem psettle_any (h : PRun base s0 w0 s ops w) (n : Nat) (hn : (n : Int) ≤ 1000000) {Y Z : List Bk} {b : Bk} (hB : s.B = Y ++ b :: Z) (hfb : s.fB n = b.q + 1) (L : List Ch) (hop : ops b.q = cids L) (hL : ∀ c ∈ L, c ∈ s.C ∧ s.fC c.id = c.q + 1 ∧ (c.id : Int) ≤ 1000000 ∧ fits c ∧ 1 ≤ c.d.length ∧ (c.id : Int) ∈ s.kC) (hasc : Asc L) (hlen : L.length ≤ 1000000)
    (hkn : (n : Int) ∈ s.kB) {A B : List CE} {e : CE} (hLL : s.σ.L = A ++ e :: B) (hen : e.n = n) (hK : s.σ.K ≤ 1000000) (hpin : 1 ≤ e.pin) :
    Calls Tryz.prog 87 #[.pointer (some ⟨s.p, 0, none⟩), .int .i64 (n : Int)] w fun r w' => r = .returned (.tuple #[]) ∧ ∃ tg ov,
      (nwr L ≠ [] ∧ PRun base s0 w0 { s with fC := delF s.fC (cids (wrs L)), kC := delK s.kC (cids (wrs L)), B := Y ++ { b with ba := lays b.ba (wrs L), ov := ov } :: Z, tag := tg } (fun q => if q = b.q then cids (nwr L) else ops q) w') ∨
      (nwr L = [] ∧ PRun base s0 w0 { s with fC := delF s.fC (cids (wrs L)), kC := delK s.kC (cids (wrs L)), B := Y ++ Z, tag := tg, fB := setF s.fB n 0, kB := s.kB.filter (fun y => decide (y ≠ (n : Int))), σ := { s.σ with L := A ++ { e with pin := e.pin - 1 } :: B, K := s.σ.K + 1 } } (fun q => if q = b.q then [] else ops q) w') := by
  subst hen
  have hbm : b ∈ s.B := by rw [hB]; simp
  have hbk := h.pm.bk b hbm
  have c4 := h.pm.c4
  have LK := h.pm.lookB (e.n : Int) (by omega)
  rw [hfb] at LK
  simp only [ptrV] at LK
  obtain ⟨oa, oc, hov, hos, hol, hoc, hon⟩ := hbk.opn.form
  have q1 := hbk.c1
  rw [hov, hop, show (cids L).length = L.length by simp [cids]] at q1
  obtain ⟨N, hN⟩ : ∃ N, N = L.length := ⟨_, rfl⟩
  have HN : Hid (N = L.length) := hN
  rw [← hN] at q1 hlen
  have HH : Hid (PRun base s0 w0 s ops w) := h
  have HL : Hid (∀ c ∈ L, c ∈ s.C ∧ s.fC c.id = c.q + 1 ∧ (c.id : Int) ≤ 1000000 ∧ fits c ∧ 1 ≤ c.d.length ∧ (c.id : Int) ∈ s.kC) := hL
  have HA : Hid (Asc L) := hasc
  have HB : Hid (s.B = Y ++ b :: Z ∧ b ∈ s.B) := ⟨hB, hbm⟩
  have HOP : Hid (ops b.q = cids L ∧ b.ov = .slice oa (ops b.q).length oc) := ⟨hop, hov⟩
  have HLN : Hid (b.ba.length = 256 ∧ b.la.length = 256) := ⟨hbk.l1, hbk.l2⟩
  have HKN : Hid ((e.n : Int) ∈ s.kB) := hkn
  have HLL : Hid (s.σ.L = A ++ e :: B) := hLL
  have hbs : base ≤ w.heap.size := h.pm.bs
  have hsz : w0.heap.size ≤ w.heap.size := h.fr.size
  have HAK : Hid (∀ (x : List UInt8) (f : Int → Nat) (ks : List Int) (tg : Nat → Nat) (j : Nat), Ak { s with fC := f, kC := ks, B := Y ++ { b with ba := x } :: Z, tag := tg } j → j < w.heap.size) := fun x f ks tg j hj => h.pm.lt (by
    rcases hj with (hj | hj | hj | hj | ⟨y, hy, hj⟩) | hj
    · exact .inl (.inl hj)
    · exact .inl (.inr (.inl hj))
    · exact .inl (.inr (.inr (.inl hj)))
    · exact .inl (.inr (.inr (.inr (.inl hj))))
    · rcases mem_mid (e := b) hy with rfl | ⟨hy, _⟩
      · exact .inl (.inr (.inr (.inr (.inr ⟨b, hbm, hj⟩))))
      · exact .inl (.inr (.inr (.inr (.inr ⟨y, by rw [hB]; exact hy, hj⟩))))
    · exact .inr hj)
  clear h hL hasc hB hbm hbk hop hov hos hol hoc hon hkn hLL hN hfb
  go_enter Tryz.func87, Tryz.ntmps87
  go_wp2
  go_loopg [5, 7, 8, 20] N (fun gg t5 _ _ t20 W => ∃ (gw : World) (k : Nat) (v : Value) (tg : Nat → Nat), gw = W ∧ k ≤ N ∧ N - k ≤ gg ∧ v = t5 ∧ t20 = .int .i64 k ∧ Hid (PRun base s0 w0 { s with fC := delF s.fC (cids (wrs (L.take k))), kC := delK s.kC (cids (wrs (L.take k))), B := Y ++ { b with ba := lays b.ba (wrs (L.take k)) } :: Z, tag := tg } ops gw) ∧ Hid (OwnL gw w.heap.size v (cids (nwr (L.take k))) ∧ w.heap.size ≤ gw.heap.size))
  case atStart =>
    refine ⟨_, 0, .slice none 0 0, s.tag, rfl, by omega, by omega, rfl, rfl, ?_, OwnL.nil _ _, Nat.le_refl _⟩
    have := HH.out
    rw [show ({ s with fC := delF s.fC (cids (wrs (L.take 0))), kC := delK s.kC (cids (wrs (L.take 0))), B := Y ++ { b with ba := lays b.ba (wrs (L.take 0)) } :: Z, tag := s.tag } : PSt) = s by
      rw [List.take_zero]
      show ({ s with B := Y ++ b :: Z } : PSt) = s
      rw [← HB.out.1]]
    exact this
  case round =>
    clear q1 LK c4
    obtain ⟨gw, k, v, tg, rfl, hk, hgg, rfl, rfl, HR, HO⟩ := hrel
    by_cases hlt : k < N
    · have hkl : k < L.length := by rw [← HN.out]; exact hlt
      have hltz : (k : Int) < (N : Int) := by omega
      obtain ⟨c, hc⟩ : ∃ c, c = L[k] := ⟨_, rfl⟩
      have hcL : c ∈ L := by rw [hc]; exact List.getElem_mem hkl
      obtain ⟨hcC, hfc, hid, hfit, hdl, hkc⟩ := HL.out c hcL
      have htk : L.take (k + 1) = L.take k ++ [c] := by rw [List.take_add_one, List.getElem?_eq_getElem hkl, Option.toList_some, ← hc]
      have hnew : (c.id : Int) ∉ cids (wrs (L.take k)) := fun hm => by
        obtain ⟨x, hx, hxi⟩ := List.mem_map.1 hm
        have hx2 := (List.mem_filter.1 hx).1
        obtain ⟨j, hj, rfl⟩ := List.getElem_of_mem hx2
        have hjk : j < k := by simp at hj; omega
        have := List.pairwise_iff_getElem.1 HA.out j k (by omega) hkl hjk
        rw [List.getElem_take] at hxi
        rw [hc] at hxi
        omega
      have hbk := HR.out.pm.bk { b with ba := lays b.ba (wrs (L.take k)) } (by simp)
      obtain ⟨ao2, co2, hov2, hos2, _, _, _⟩ := hbk.opn.form
      dsimp only at hov2 hos2
      rw [HOP.out.2] at hov2
      cases hov2
      obtain ⟨g0, off, rfl, hg0, hcc⟩ : ∃ b off, oa = some ⟨b, off, none⟩ ∧ b < gw.heap.size ∧ ∀ j, j < (cids L).length → gw.cell? ⟨b, off + j, none⟩ = some (.int .i64 ((cids L).getD j 0)) := by
        rw [HOP.out.1] at hos2
        rcases hos2 with h0 | h1
        · have h2 : (cids L).length = 0 := by rw [h0]; rfl
          rw [show (cids L).length = L.length by simp [cids]] at h2
          omega
        · exact h1
      have ck : gw.cell? ⟨g0, off + k, none⟩ = some (.int .i64 (c.id : Int)) := by
        rw [hc, ← cids_get L k hkl]; exact hcc k (by simp [cids]; omega)
      have c3 := HR.out.pm.c3
      have LK := HR.out.pm.lookC (c.id : Int) (by omega)
      dsimp only at c3 LK
      rw [delF_eq, if_neg hnew, hfc] at LK
      simp only [ptrV] at LK
      have hca := HR.out.pm.ch c hcC
      have x4 : gw.cell? ⟨c.q, 4, none⟩ = some (.bool c.wr) := hca.c4
      have HC : Hid (ChAt gw base c ∧ L.take (k + 1) = L.take k ++ [c] ∧ (c.id : Int) ∉ cids (wrs (L.take k)) ∧ fits c ∧ 1 ≤ c.d.length ∧ (c.id : Int) ∈ s.kC) := ⟨hca, htk, hnew, hfit, hdl, hkc⟩
      have HBK : Hid (BkAt gw base { b with ba := lays b.ba (wrs (L.take k)) } (ops b.q)) := hbk
      clear hc hcL hcC hfc hfit hdl htk hnew hbk hos2 hcc hca hkc hg0
      cases hw : c.wr with
      | false =>
        rw [hw] at x4
        have hs2 := wrs_snoc_f (L := L.take k) hw
        have HNX : Hid (wrs (L.take (k + 1)) = wrs (L.take k) ∧ cids (nwr (L.take (k + 1))) = cids (nwr (L.take k)) ++ [(c.id : Int)]) := by
          rw [HC.out.2.1, hs2.1, hs2.2]; exact ⟨rfl, by simp [cids]⟩
        obtain ⟨acc, hacc⟩ : ∃ acc, acc = cids (nwr (L.take k)) := ⟨_, rfl⟩
        have hacl : acc.length ≤ 1000000 := by
          rw [hacc]
          have h1 : (nwr (L.take k)).length ≤ (L.take k).length := List.length_filter_le _ _
          simp [cids] at h1 ⊢
          omega
        rw [← hacc] at HO HNX
        obtain ⟨va, vc, rfl, hvs, _, _, _⟩ := HO.out.1.form
        have hzg := HO.out.2
        clear hs2 hacc hvs
        go_wp2_with (first | (at_builtin; refine Hid.out ?_))
        change wpList _ _ _ _ _ _
        refine wpList_append_l rfl (.tmp 35) (.tmp 37) rfl w.heap.size acc (c.id : Int) _ rfl _ _ rfl (row_same HO.out.1 (fun j hj => Below.heap_alloc _ _ _ (HO.out.1.lt j hj).2)) (heap_alloc_new _ _) (by simp; omega) hacl ?_
        intro G cap w2 ho2 hg2 hat2
        have hWb : Below gw.heap.size gw (gw.alloc (.cells #[Value.int .i64 (c.id : Int)] 2)) := (Below.refl _ _).alloc (Nat.le_refl _) _
        have HR3 : Hid (PRun base s0 w0 { s with fC := delF s.fC (cids (wrs (L.take k))), kC := delK s.kC (cids (wrs (L.take k))), B := Y ++ { b with ba := lays b.ba (wrs (L.take k)) } :: Z, tag := tg } ops w2) := HR.out.other (fr_app hWb hg2) (fun j hj => ⟨fun hA => by
          have h1 := (HO.out.1.lt j hj).1
          have h2 := HAK.out _ _ _ _ j hA
          omega, by have h1 := (HO.out.1.lt j hj).1; omega⟩) (below_app hWb hg2 (by omega) (fun j hj => by have h1 := (HO.out.1.lt j hj).1; omega))
        have HO3 : Hid (OwnL w2 w.heap.size (.slice (some ⟨G, 0, none⟩) (acc.length + 1) cap) (acc ++ [(c.id : Int)]) ∧ w.heap.size ≤ w2.heap.size) := ⟨ho2, Nat.le_trans hzg (fr_app hWb hg2).size⟩
        clear ho2 hg2 hat2 hWb
        go_wp2
        go_roundg (N - (k + 1))
        case measure => omega
        case rel =>
          refine ⟨_, k + 1, _, tg, rfl, by omega, by omega, rfl, by go_num, ?_, ?_⟩
          · rw [HNX.out.1]; exact HR3.out
          · rw [HNX.out.2]; exact HO3.out
      | true =>
        rw [hw] at x4
        have hs2 := wrs_snoc_t (L := L.take k) hw
        have HNX : Hid (wrs (L.take (k + 1)) = wrs (L.take k) ++ [c] ∧ nwr (L.take (k + 1)) = nwr (L.take k)) := by
          rw [HC.out.2.1]; exact hs2
        obtain ⟨da, dc, hdv, hdsrc, _, _, _⟩ := HC.out.1.dat.form
        obtain ⟨gd, od, rfl, hgd, hdc⟩ := hdsrc.at' (by have := HC.out.2.2.2.2.1; omega)
        have hod : od = 0 := by
          rcases HC.out.1.dat.2 with ⟨h2, _⟩ | ⟨g', cap', cur, hv, _⟩
          · rw [hdv] at h2; cases h2
          · rw [hdv] at hv
            simp only [Value.slice.injEq, Option.some.injEq, Addr.mk.injEq] at hv
            exact hv.1.2.1
        subst hod
        have d2 := HC.out.1.c2
        rw [hdv] at d2
        have hbal : (lays b.ba (wrs (L.take k))).length = 256 := HBK.out.l1
        have LY := lay_any c.q b.q gd c.fr 256 dc 190 (lays b.ba (wrs (L.take k))) c.d (b.ov :: ivs b.la) gw HC.out.1.c1 d2 hdsrc HC.out.2.2.2.2.1 HC.out.2.2.2.1 HBK.out.cell hbal (Nat.le_refl _)
        have HE1 : Hid (lays b.ba (wrs (L.take (k + 1))) = layB (lays b.ba (wrs (L.take k))) c.fr c.d ∧ cids (wrs (L.take (k + 1))) = cids (wrs (L.take k)) ++ [(c.id : Int)]) := by
          rw [HNX.out.1, lays_append]; exact ⟨rfl, by simp [cids]⟩
        have HLB : Hid ((lays b.ba (wrs (L.take (k + 1)))).length = 256) := by
          rw [HE1.out.1]
          show _ = _
          rw [layB_length (by rw [hbal]; exact HC.out.2.2.2.1)]; exact hbal
        clear hs2 hdv hdsrc hdc hgd d2 hbal
        go_wp2_with (first | (go_at_call 94; refine Hid.out ?_))
        change Calls _ _ _ _ _
        refine LY.mono ?_
        clear LY
        rintro r w2 ⟨rfl, hr2, hf2, hb2⟩
        rw [← HE1.out.1] at hr2
        have hbq : base ≤ b.q := (HH.out.pm.fk b.q (.inr (.inr (.inr (.inr ⟨b, HB.out.2, .inl rfl⟩))))).1
        obtain ⟨tg2, hR2⟩ := HR.out.setB (X := Y) (Y := Z) (b := { b with ba := lays b.ba (wrs (L.take k)) }) (b' := { b with ba := lays b.ba (wrs (L.take (k + 1))) }) (op := ops b.q) (w' := w2) rfl rfl (hf2.mono fun j _ hj => .inl hj) (hb2.mono hbq) hr2 HLB.out HLN.out.2 (row_same HBK.out.opn fun j hj => hf2.blk j (HBK.out.opn.lt j hj).2 (fun e => by
            have t1 := (HR.out.pm.tb { b with ba := lays b.ba (wrs (L.take k)) } (by simp)).1
            have t2 := (HR.out.pm.tb { b with ba := lays b.ba (wrs (L.take k)) } (by simp)).2 j hj
            have e' : j = b.q := e
            rw [e'] at t2
            rw [t1] at t2
            dsimp only at t2
            omega)) (fun j hj => .inl hj)
        dsimp only at hR2
        rw [ops_same] at hR2
        have c32 := hR2.pm.c3
        dsimp only at c32
        have HR2 : Hid (PRun base s0 w0 { s with fC := delF s.fC (cids (wrs (L.take k))), kC := delK s.kC (cids (wrs (L.take k))), B := Y ++ { b with ba := lays b.ba (wrs (L.take (k + 1))) } :: Z, tag := tg2 } ops w2) := hR2
        have HV2 : Hid (OwnL w2 w.heap.size v (cids (nwr (L.take k))) ∧ w.heap.size ≤ w2.heap.size) := ⟨row_same HO.out.1 fun j hj => hf2.blk j (HO.out.1.lt j hj).2 (fun e => by
          have h1 := (HO.out.1.lt j hj).1
          have h2 := (HH.out.pm.fk b.q (.inr (.inr (.inr (.inr ⟨b, HB.out.2, .inl rfl⟩))))).2.1
          have e' : j = b.q := e
          omega), Nat.le_trans HO.out.2 hf2.size⟩
        have hin : (c.id : Int) ∈ delK s.kC (cids (wrs (L.take k))) := by
          rw [delK_eq, List.mem_filter]
          exact ⟨HC.out.2.2.2.2.2, by simpa using HC.out.2.2.1⟩
        clear hR2 hr2 hf2 hb2
        obtain ⟨w3, hrun3, hm3, hg3⟩ := HR2.out.pm.mc.del Tryz.underlying2 Tryz.underlying121 (c.id : Int) (by omega) hin 0
        dsimp only at hrun3
        have HR3 : Hid _ := HR2.out.mapC hg3 hm3
        have HV3 : Hid (OwnL w3 w.heap.size v (cids (nwr (L.take k))) ∧ w.heap.size ≤ w3.heap.size) := ⟨row_same HV2.out.1 fun j hj => hg3.block j (HV2.out.1.lt j hj).2 (fun e => by
          have h1 := (HV2.out.1.lt j hj).1
          have h2 := (HH.out.pm.fk s.cm (.inr (.inl rfl))).2.1
          have e' : s.cm = j := Option.some.inj e.symm
          omega), Nat.le_trans HV2.out.2 hg3.size⟩
        clear hm3 hg3
        go_wp2
        go_roundg (N - (k + 1))
        case measure => omega
        case rel =>
          refine ⟨_, k + 1, v, tg2, rfl, by omega, by omega, rfl, by go_num, ?_, ?_⟩
          · have := HR3.out
            rw [HE1.out.2, delF_snoc, delK_snoc]
            exact this
          · rw [HNX.out.2]; exact HV3.out
    · have hltz : ¬ (k : Int) < (N : Int) := by omega
      have htk : L.take k = L := List.take_of_length_le (by rw [← HN.out]; omega)
      rw [htk] at HR HO
      clear htk
      obtain ⟨va, vc, rfl, hvs, hvl, hvc, hvn⟩ := HO.out.1.form
      have hbk := HR.out.pm.bk { b with ba := lays b.ba (wrs L) } (by simp)
      have o1 := hbk.c1
      have of1 := hbk.fz 256
      dsimp only at o1 of1
      rw [HOP.out.2] at o1
      have hbq : base ≤ b.q := (HH.out.pm.fk b.q (.inr (.inr (.inr (.inr ⟨b, HB.out.2, .inl rfl⟩))))).1
      have hbqw : b.q < w.heap.size := (HH.out.pm.fk b.q (.inr (.inr (.inr (.inr ⟨b, HB.out.2, .inl rfl⟩))))).2.1
      have hset := heap_setCell_same gw b.q 256 _ _ (.slice va (cids (nwr L)).length vc) hbk.cell
      rw [← bkL_ov { b with ba := lays b.ba (wrs L) } _ hbk.l1] at hset
      obtain ⟨tg2, hR2⟩ := HR.out.setB (X := Y) (Y := Z) (b := { b with ba := lays b.ba (wrs L) }) (b' := { b with ba := lays b.ba (wrs L), ov := .slice va (cids (nwr L)).length vc }) (op := cids (nwr L)) (w' := gw.setCell ⟨b.q, 256, none⟩ (.slice va (cids (nwr L)).length vc)) rfl rfl ((Fr.refl _ _).setCell b.q 256 _ (.inl rfl)) ((Below.refl _ _).setCell hbq _) hset hbk.l1 hbk.l2 (row_mono (row_same HO.out.1 fun j hj => heap_setCell_other _ _ _ _ (fun e => by
          have h1 := (HO.out.1.lt j hj).1
          have e' : j = b.q := e
          omega)) hbs) (fun j hj => .inr ⟨fun hA => by
          have h1 := (HO.out.1.lt j hj).1
          have h2 := HAK.out _ _ _ _ j hA
          omega, by have h1 := (HO.out.1.lt j hj).1; omega⟩)
      dsimp only at hR2
      have HR2 : Hid _ := hR2
      obtain ⟨nl, hnl⟩ : ∃ nl, nl = (cids (nwr L)).length := ⟨_, rfl⟩
      have hnlE : nl = (nwr L).length := by rw [hnl]; simp [cids]
      rw [← hnl] at HR2 ⊢
      have c42 := hR2.pm.c4
      have c12 := hR2.pm.c1
      dsimp only at c42 c12
      rw [← hnl] at c42 c12
      have HNL : Hid (nl = (nwr L).length) := hnlE
      clear hR2 hset hbk hvs hvl hvc hvn hnlE hnl
      go_upto_region 12 with fail
      generalize gw.setCell ⟨b.q, 256, none⟩ (.slice va nl vc) = w2 at *
      clear o1 of1
      by_cases hz : nl = 0
      · subst hz
        have hnil : nwr L = [] := List.eq_nil_of_length_eq_zero HNL.out.symm
        have HNIL : Hid (nwr L = []) := hnil
        obtain ⟨w3, hrun3, hm3, hg3⟩ := HR2.out.pm.mb.del Tryz.underlying3 Tryz.underlying122 (e.n : Int) (by omega) HKN.out 0
        dsimp only at hrun3
        have hR3 := HR2.out.mapB hg3 hm3
        have UP := unpin_ok hR3.pm.cs (A := A) (B := B) (e := e) HLL.out hK hpin
        have c13 := hR3.pm.c1
        dsimp only at UP c13
        have HR3 : Hid _ := hR3
        clear hR3 hm3 hg3 hnil
        go_wp2_with (first | (go_at_call 124; refine UP.mono ?_; rintro r w4 ⟨rfl, hD4⟩; have HD4 : Hid _ := hD4; clear hD4))
        go_end0
        have hfin := (HR3.out.cache HD4.out rfl rfl).less (List.Sublist.refl _) (B' := Y ++ Z) (List.Sublist.append (List.Sublist.refl Y) (List.sublist_cons_self _ Z))
        refine ⟨rfl, tg2, .slice none 0 0, .inr ⟨HNIL.out, ?_⟩⟩
        rw [HNIL.out] at hfin
        exact hfin
      · have hz2 : ¬ ((nl : Int) = 0) := by omega
        have hz3 : ((nl : Int) == 0) = false := by simpa using hz2
        go_wp2
        go_end0
        refine ⟨rfl, tg2, _, .inl ⟨fun hnil => hz (by rw [HNL.out, hnil]; rfl), HR2.out⟩⟩
end
end Go.Proofs.YtadadidccbhopaaGreat
