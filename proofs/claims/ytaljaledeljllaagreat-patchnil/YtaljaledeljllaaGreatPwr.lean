/- Package patch: Write. -/
import Derived.Test.YtaljaledeljllaaGreatPpat2
namespace Go.Proofs.YtaljaledeljllaaGreat
open Go.RowKit
set_option maxRecDepth 100000
theorem filter_sub {s l : List Int} (h : s.Sublist l) (hd : l.Nodup) : (l.filter fun x => decide (x ∈ s)) = s := by
  induction h with
  | slnil => rfl
  | @cons s l a h ih =>
    obtain ⟨h1, h2⟩ := List.nodup_cons.1 hd
    rw [List.filter_cons_of_neg (by simpa using fun hm => h1 (h.subset hm)), ih h2]
  | @cons_cons s l a h ih =>
    obtain ⟨h1, h2⟩ := List.nodup_cons.1 hd
    rw [List.filter_cons_of_pos (by simp)]
    congr 1
    rw [show (l.filter fun x => decide (x ∈ a :: s)) = l.filter fun x => decide (x ∈ s) from List.filter_congr fun x hx => by
      have : x ≠ a := fun e => h1 (e ▸ hx)
      simp [this], ih h2]
/-- Of some changes those whose numbers are on a list. -/
def pickC (L : List Ch) (al : List Int) : List Ch := L.filter fun c => decide ((c.id : Int) ∈ al)
theorem pick_ids {L : List Ch} {al : List Int} (hs : al.Sublist (cids L)) (ha : Asc L) : cids (pickC L al) = al := by
  have h1 : (cids L).Nodup := List.Pairwise.imp (fun h => by omega) ha.cids
  have h2 := filter_sub hs h1
  unfold cids at h2
  rw [List.filter_map] at h2
  exact h2
def setW1 (C : List Ch) (i : Int) : List Ch := C.map fun c => if (c.id : Int) = i then { c with wr := true } else c
theorem setW1_mid {X Y : List Ch} {c : Ch} (h : Asc (X ++ c :: Y)) : setW1 (X ++ c :: Y) (c.id : Int) = X ++ { c with wr := true } :: Y := by
  obtain ⟨h1, h2, h3⟩ := List.pairwise_append.1 h
  obtain ⟨h4, h5⟩ := List.pairwise_cons.1 h2
  unfold setW1
  rw [List.map_append, List.map_cons, if_pos rfl]
  congr 1
  · refine (List.map_congr_left fun x hx => ?_).trans (List.map_id' X)
    have := h3 x hx c (by simp)
    rw [if_neg (by omega)]
  · congr 1
    refine (List.map_congr_left fun x hx => ?_).trans (List.map_id' Y)
    have := h4 x hx
    rw [if_neg (by omega)]
theorem setW1_id (C : List Ch) (i : Int) : (setW1 C i).map (fun c => (c.id, c.b, c.fr, c.d, c.ah, c.q, c.dv, c.av)) = C.map (fun c => (c.id, c.b, c.fr, c.d, c.ah, c.q, c.dv, c.av)) := by
  unfold setW1
  rw [List.map_map]
  refine List.map_congr_left fun c _ => ?_
  simp only [Function.comp]
  split <;> rfl
theorem Asc.setW1 {C : List Ch} (h : Asc C) (i : Int) : Asc (setW1 C i) := by
  unfold Asc Go.Proofs.YtaljaledeljllaaGreat.setW1
  rw [List.pairwise_map]
  refine List.Pairwise.imp (fun {a b} hab => ?_) h
  split <;> split <;> exact hab
theorem mem_setW1 {C : List Ch} {i : Int} {c : Ch} (hc : c ∈ C) : ∃ x ∈ setW1 C i, x.id = c.id ∧ x.q = c.q ∧ x.dv = c.dv := by
  refine ⟨if (c.id : Int) = i then { c with wr := true } else c, List.mem_map.2 ⟨c, hc, rfl⟩, ?_⟩
  split <;> exact ⟨rfl, rfl, rfl⟩
theorem setW_props : ∀ (al : List Int) {C : List Ch}, Asc C → Asc (al.foldl setW1 C) ∧ ∀ c ∈ C, ∃ x ∈ al.foldl setW1 C, x.id = c.id ∧ x.q = c.q
  | [], C, h => ⟨h, fun c hc => ⟨c, hc, rfl, rfl⟩⟩
  | i :: al, C, h => by
    obtain ⟨h1, h2⟩ := setW_props al (h.setW1 i)
    refine ⟨h1, fun c hc => ?_⟩
    obtain ⟨x, hx, e1, e2, _⟩ := mem_setW1 (i := i) hc
    obtain ⟨y, hy, f1, f2⟩ := h2 x hx
    exact ⟨y, hy, f1.trans e1, f2.trans e2⟩
theorem chL_wr (c : Ch) : (chL { c with wr := true }).toArray = (chL c).toArray.setIfInBounds 4 (.bool true) := rfl
section
variable {w w' w0 : World} {base : Nat} {s s' s0 : PSt} {ops ops' : Nat → List Int}
theorem ask_relw (h : CS w base s.σ (nums s.σ.L)) {n q K' : Nat} {P : List CE} {e : CE} {v' : Value} (hn : n < s.σ.dn) (hlen : s.σ.L.length ≤ s.σ.most) (hm : s.σ.dn ≤ s.σ.most) (hR : AskR s.σ n q (P ++ [e]) K') (hen : e.n = n) :
    (e.d, e.pin) = (ent s.σ.L n).getD (lst s.σ n, 0) ∧ CRel s.σ { s.σ with ov := v', L := P ++ [e], K := K' } n (some (e.d, e.pin)) := by
  obtain ⟨h1, h2⟩ := ask_rel h (v' := v') hn hlen hm hR hen
  exact ⟨h1, h2 e.d e.pin⟩
/-- What Write leaves. -/
def WriteR (s : PSt) (n : Nat) (b : Bk) (al : List Int) (s' : PSt) : Prop :=
  ∃ (σ1 : CSt) (vs' : Nat → Value) (pn : Nat) (d : List UInt8) (tg : Nat → Nat), (d, pn) = (ent s.σ.L n).getD (lst s.σ n, 0) ∧ CRel s.σ σ1 n (some (d, pn)) ∧
    s' = { s with C := al.foldl setW1 s.C, tag := tg, σ := { σ1 with ws := upd s.σ.ws n (s.σ.ws n ++ [lays b.ba (pickC (ofB s.C n) al)]), vs := vs' } }
set_option maxHeartbeats 4000000 in
theorem write_mem (h : PM w base s ops) (n : Nat) (hn : n < s.σ.dn) (hdn : s.σ.dn ≤ 4096) {b : Bk} (hb : b ∈ s.B) (hfb : s.fB n = b.q + 1) (hop : ops b.q = cids (ofB s.C n)) (hL : ∀ c ∈ s.C, s.fC c.id = c.q + 1 ∧ (c.id : Int) ≤ 1000000 ∧ c.ah.length ≤ 1000000 ∧ (∀ i ∈ c.ah, -9223372036854775808 ≤ i ∧ i ≤ 9223372036854775807) ∧ fits c ∧ 1 ≤ c.d.length) (hasc : Asc s.C)
    (hf : ∀ i : Int, -9223372036854775808 ≤ i ∧ i ≤ 9223372036854775807 → decide (s.fC i = 0) = !opn s.C i) (hlen : s.C.length ≤ 1000000) (hK : s.σ.K ≤ 900000) (hll : s.σ.L.length ≤ s.σ.most) (hm : s.σ.dn ≤ s.σ.most) (hen : s.σ.en = false) (hlf : s.σ.lf = 0) (hw : (s.σ.ws n).length ≤ 1000000) :
    Calls Tryz.prog 26 #[.pointer (some ⟨s.p, 0, none⟩), .int .i64 (n : Int)] w fun r w' => r = .returned (.int .i64 0) ∧ ∃ s', PRun base s w s' ops w' ∧ WriteR s n b (alw s.C n) s' := by
  have RC := preach_any h (n : Int)
  rw [if_neg (by omega)] at RC
  have hofl : ∀ c ∈ ofB s.C n, c ∈ s.C := fun c hc => (List.mem_filter.1 hc).1
  have hofn : (ofB s.C n).length ≤ 1000000 := Nat.le_trans (List.length_filter_le _ _) hlen
  have AL := allowed_any h hb (ofB s.C n) hop (fun c hc => ⟨hofl c hc, (hL c (hofl c hc)).1, (hL c (hofl c hc)).2.1, (hL c (hofl c hc)).2.2.1, (hL c (hofl c hc)).2.2.2.1⟩) (hasc.ofB n) hf hofn
  have LK := h.lookB (n : Int) (by omega)
  rw [hfb] at LK
  simp only [ptrV] at LK
  have c4 := h.c4
  have HH : Hid (PM w base s ops) := h
  have HL : Hid (∀ c ∈ s.C, s.fC c.id = c.q + 1 ∧ (c.id : Int) ≤ 1000000 ∧ c.ah.length ≤ 1000000 ∧ (∀ i ∈ c.ah, -9223372036854775808 ≤ i ∧ i ≤ 9223372036854775807) ∧ fits c ∧ 1 ≤ c.d.length) := hL
  have HA : Hid (Asc s.C) := hasc
  have HB : Hid (b ∈ s.B) := hb
  have HPK : Hid (cids (pickC (ofB s.C n) (alw s.C n)) = alw s.C n) := pick_ids (alw_sub s.C n) (hasc.ofB n)
  have HOF : Hid ((∀ c ∈ ofB s.C n, c ∈ s.C) ∧ (ofB s.C n).length ≤ 1000000) := ⟨hofl, hofn⟩
  have HEN : Hid (s.σ.en = false ∧ s.σ.lf = 0) := ⟨hen, hlf⟩
  obtain ⟨al, hal⟩ : ∃ al, al = alw s.C n := ⟨_, rfl⟩
  have hal2 : allowG s.C (ofB s.C n) [] = al := hal.symm
  rw [hal2] at AL
  rw [← hal] at HPK ⊢
  have HSUB : Hid (al.Sublist (cids (ofB s.C n))) := by rw [hal]; exact alw_sub s.C n
  clear h hL hasc hf hb hop hfb hofl hofn hal hal2 hen hlf
  go_enter Tryz.func26, Tryz.ntmps26
  go_wp2_with (first | (go_at_call 72; refine RC.mono ?_; rintro e w1 ⟨rfl, hw1⟩; obtain rfl : w = w1 := hw1.symm) | (go_at_call 73; refine Hid.out ?_))
  change Calls _ _ _ _ _
  refine AL.mono ?_
  clear AL RC LK c4
  rintro e w1 ⟨v, rfl, ho1, hb1⟩
  have P1 := HH.out.up hb1
  obtain ⟨va, vc, rfl, hvs, hvl, hvc, hvn⟩ := ho1.form
  have hpl : (pickC (ofB s.C n) al).length = al.length := by
    have := congrArg List.length HPK.out
    simpa [cids] using this
  have HP1 : Hid (PM w1 base s ops ∧ Below w.heap.size w w1) := ⟨P1, hb1⟩
  have HV : Hid (OwnL w1 w.heap.size (.slice va al.length vc) al) := ho1
  have hc11 := P1.c1
  have IM2 := image_any (P1.up (w' := w1.drew) ((Below.refl _ _).drew)) HB.out (pickC (ofB s.C n) al) va vc (by rw [HPK.out]; exact hvs.below ((Below.refl w1.heap.size w1).drew) (Nat.le_refl _)) (fun c hc => by
    have h1 := HOF.out.1 c (List.mem_filter.1 hc).1
    exact ⟨h1, (HL.out c h1).1, (HL.out c h1).2.1, (HL.out c h1).2.2.2.2.1, (HL.out c h1).2.2.2.2.2⟩) (Nat.le_trans (List.length_filter_le _ _) HOF.out.2)
  rw [hpl] at IM2
  have HLN : Hid ((lays b.ba (pickC (ofB s.C n) al)).length = 256) := lays_length (P1.bk b HB.out).l1 fun c hc => (HL.out c (HOF.out.1 c (List.mem_filter.1 hc).1)).2.2.2.2.1
  clear P1 ho1 hb1 hpl
  go_wp2
  go_region_with (first | (go_at_call 75; refine IM2.mono ?_; rintro e w2 ⟨g, rfl, hg2, hgl, hb2⟩; have HP2 : Hid (PM w2 base s ops ∧ Below w.heap.size w w2) := ⟨HP1.out.1.up (((Below.refl _ _).drew).trans hb2), HP1.out.2.trans (((Below.refl _ _).drew.trans hb2).mono HP1.out.2.size)⟩; have c12 := HP2.out.1.c1; have WR := cwrite_img HP2.out.1.cs n hn (by omega) hll HEN.out.1 HEN.out.2 hw (lays b.ba (pickC (ofB s.C n) al)) g 0 256 hg2.src HLN.out (fun hS => by have h1 := HP1.out.1.cs.sk_size hS; have h2 : w1.heap.size ≤ g := hgl; omega); have HG2 : Hid (w1.heap.size ≤ g ∧ Below w1.heap.size w1 w2) := ⟨hgl, ((Below.refl _ _).drew).trans hb2⟩; clear hg2 hgl hb2) | (go_at_call 74; refine WR.mono ?_; rintro r w3 (⟨v', P, e, K', vs', rfl, hD3, hR3, hen3⟩ | ⟨rfl, hF3, _⟩); rotate_left; (exfalso; have h1 := room_of (fun e he => (HP2.out.1.cs.blk e he).2.2.1) HP2.out.1.cs.nd hn hF3.ne; have h2 := hF3.le; omega); have HD3 : Hid (Done base s.σ { s.σ with ov := v', L := P ++ [e], K := K', ws := upd s.σ.ws n (s.σ.ws n ++ [lays b.ba (pickC (ofB s.C n) al)]), vs := vs' } w2 w3) := hD3; have HR3 : Hid (AskR s.σ n e.q (P ++ [e]) K' ∧ e.n = n) := ⟨hR3, hen3⟩; clear hD3 hR3 hen3))
  all_goals (
    obtain ⟨hdp, hC1⟩ := ask_relw HP2.out.1.cs (v' := v') hn hll hm HR3.out.1 HR3.out.2
    obtain ⟨σ3, hσ3⟩ : ∃ σ3 : CSt, σ3 = { s.σ with ov := v', L := P ++ [e], K := K', ws := upd s.σ.ws n (s.σ.ws n ++ [lays b.ba (pickC (ofB s.C n) al)]), vs := vs' } := ⟨_, rfl⟩
    have HWR : Hid (∀ tg, WriteR s n b al { s with C := al.foldl setW1 s.C, tag := tg, σ := σ3 }) := fun tg => ⟨_, vs', e.pin, e.d, tg, hdp, hC1, by rw [hσ3]⟩
    have HR4 : Hid (PRun base s w { s with σ := σ3 } ops w3) := by rw [hσ3]; exact ((PRun.start HH.out).up HP2.out.2).cache HD3.out rfl rfl
    have HV3 : Hid (OwnL w3 w.heap.size (.slice va al.length vc) al) := row_same HV.out fun j hj => by
      have h1 := HV.out.lt j hj
      exact (HD3.out.st.fr.blk j (by have := HG2.out.2.size; omega) (fun hS => by have := HH.out.cs.sk_size hS; omega)).trans (HG2.out.2.block j h1.2)
    have HVA : Hid (SrcI w3 va al) := by
      obtain ⟨a', c', he', hs', _⟩ := HV3.out.form
      cases he'; exact hs'
    have HVB : Hid (∀ b' o', va = some ⟨b', o', none⟩ → w.heap.size ≤ b') := fun b' o' e' => (HV.out.lt b' (by rw [e']; rfl)).1
    clear hdp hC1 hσ3 HD3 HR3 HP2 HG2 c12 hc11 hvs
    clear WR
    go_wp2
    go_loopg [10, 43] al.length (fun gg _ t43 W => ∃ (gw : World) (k : Nat) (tg : Nat → Nat), gw = W ∧ k ≤ al.length ∧ al.length - k ≤ gg ∧ t43 = .int .i64 k ∧ Hid (PRun base s w { s with C := (al.take k).foldl setW1 s.C, tag := tg, σ := σ3 } ops gw) ∧ Hid (SrcI gw va al))
    case atStart => exact ⟨_, 0, s.tag, rfl, by omega, by omega, rfl, HR4, HVA⟩
    case round =>
      clear HR4 HV3 HVA
      obtain ⟨gw, k, tg, rfl, hk, hgg, rfl, HR, HS⟩ := hrel
      by_cases hlt : k < al.length
      · have hltz : (k : Int) < (al.length : Int) := by omega
        obtain ⟨b0, off, rfl, hb0, hcc⟩ : ∃ b off, va = some ⟨b, off, none⟩ ∧ b < gw.heap.size ∧ ∀ j, j < al.length → gw.cell? ⟨b, off + j, none⟩ = some (.int .i64 (al.getD j 0)) := by
          rcases HS.out with h0 | h1
          · rw [h0] at hlt; simp at hlt
          · exact h1
        have ck := hcc k hlt
        have hmem : al.getD k 0 ∈ al := by rw [List.getD_eq_getElem?_getD, List.getElem?_eq_getElem hlt]; exact List.getElem_mem hlt
        obtain ⟨c, hc, hci⟩ := List.mem_map.1 (HSUB.out.subset hmem)
        have hcC := HOF.out.1 c hc
        obtain ⟨hAs, hpr⟩ := setW_props (al.take k) HA.out
        obtain ⟨x, hx, hxi, hxq⟩ := hpr c hcC
        have hLc := HL.out c hcC
        have LK := HR.out.pm.lookC (al.getD k 0) (by rw [← hci]; omega)
        dsimp only at LK
        rw [← hci, hLc.1, ← hxq] at LK
        simp only [ptrV] at LK
        rw [← hci] at ck
        have hxa := HR.out.pm.ch x hx
        have x4 : gw.cell? ⟨x.q, 4, none⟩ = some (.bool x.wr) := hxa.c4
        have x4f : gw.frozen? ⟨x.q, 4, none⟩ = false := hxa.fz 4
        have c3 := HR.out.pm.c3
        dsimp only at c3
        have HX : Hid (x ∈ (al.take k).foldl setW1 s.C ∧ ((c.id : Int) = al.getD k 0) ∧ x.id = c.id ∧ ChAt gw base x ∧ Asc ((al.take k).foldl setW1 s.C) ∧ b0 ≠ x.q) := ⟨hx, hci, hxi, hxa, hAs, fun e => by
          have h1 := HVB.out b0 off rfl
          have h2 := (HH.out.fk c.q (.inr (.inr (.inr (.inl ⟨c, hcC, .inl rfl⟩))))).2.1
          omega⟩
        clear hcc hmem hc hci hcC hAs hpr hx hxi hLc hxa hxq
        go_wp2
        go_roundg (al.length - (k + 1))
        case measure => omega
        case rel =>
          obtain ⟨X, Y, hXY⟩ := List.append_of_mem HX.out.1
          have hset := heap_setCell_same gw x.q 4 _ _ (.bool true) HX.out.2.2.2.1.cell
          rw [← chL_wr] at hset
          have hxf := HR.out.pm.fk x.q (.inr (.inr (.inr (.inl ⟨x, HX.out.1, .inl rfl⟩))))
          obtain ⟨tg2, h2⟩ := HR.out.setC (X := X) (Y := Y) (c := x) (c' := { x with wr := true }) (w' := gw.setCell ⟨x.q, 4, none⟩ (.bool true)) hXY rfl rfl rfl ((Fr.refl _ _).setCell x.q 4 _ rfl) ((Below.refl _ _).setCell hxf.1 _) hset (row_same HX.out.2.2.2.1.ahd fun j hj => heap_setCell_other _ _ _ _ (fun e => by
              have t1 := (HR.out.pm.tc x HX.out.1).1
              have t2 := (HR.out.pm.tc x HX.out.1).2.2 j hj
              have e' : j = x.q := e
              rw [e', t1] at t2; omega)) (fun j hj => .inl hj)
          refine ⟨_, k + 1, tg2, rfl, by omega, by omega, by go_num, ?_, ?_⟩
          · have e1 : (al.take (k + 1)).foldl setW1 s.C = X ++ { x with wr := true } :: Y := by
              rw [take_succ_getD al k hlt, List.foldl_append, hXY]
              simp only [List.foldl_cons, List.foldl_nil]
              rw [← HX.out.2.1, ← HX.out.2.2.1, setW1_mid (by rw [← hXY]; exact HX.out.2.2.2.2.1)]
            rw [e1]; exact h2
          · rcases HS.out with h0 | ⟨b2, o2, e2, hb2, hc2⟩
            · exact .inl h0
            · cases e2
              exact .inr ⟨b0, off, rfl, by show b0 < (World.setCell _ _ _).heap.size; simpa [World.setCell] using hb2, fun j hj => (World.cell?_setCell_other _ _ _ _ (fun e => HX.out.2.2.2.2.2 (by injection e with e1; exact e1.symm))).trans (hc2 j hj)⟩
      · have hltz : ¬ (k : Int) < (al.length : Int) := by omega
        have hkn : al.take k = al := List.take_of_length_le (by omega)
        have HRF : Hid (PRun base s w { s with C := al.foldl setW1 s.C, tag := tg, σ := σ3 } ops gw) := by have := HR.out; rw [hkn] at this; exact this
        clear hkn
        go_wp2
        go_ret
        exact ⟨rfl, _, HRF.out, HWR.out tg⟩)
end
end Go.Proofs.YtaljaledeljllaaGreat
