/- Package patch: add. -/
import Derived.Test.YtadadidccbhopaaGreatJPsort2
import Derived.Test.YtadadidccbhopaaGreatKPends2
namespace Go.Proofs.YtadadidccbhopaaGreat
open Go.RowKit
set_option maxRecDepth 100000
def laU (la : List Int) (fr m : Nat) (x : Int) : List Int := la.take fr ++ List.replicate m x ++ la.drop (fr + m)
theorem laU_zero (la : List Int) (fr : Nat) (x : Int) : laU la fr 0 x = la := by simp [laU]
theorem laU_length {la : List Int} {fr m : Nat} (h : fr + m ≤ la.length) (x : Int) : (laU la fr m x).length = la.length := by simp [laU]; omega
theorem laU_get? {la : List Int} {fr m : Nat} (h : fr + m ≤ la.length) (x : Int) (j : Nat) : (laU la fr m x)[j]? = if fr ≤ j ∧ j < fr + m then some x else la[j]? := by
  unfold laU
  have l1 : (la.take fr).length = fr := by simp; omega
  by_cases h1 : j < fr
  · rw [if_neg (by omega), List.append_assoc, List.getElem?_append_left (by omega), List.getElem?_take, if_pos h1]
  · by_cases h2 : j < fr + m
    · rw [if_pos (by omega), List.append_assoc, List.getElem?_append_right (by omega), List.getElem?_append_left (by simp; omega), List.getElem?_replicate, if_pos (by omega)]
    · rw [if_neg (by omega), List.getElem?_append_right (by rw [List.length_append, List.length_replicate]; omega), List.getElem?_drop, List.length_append, List.length_replicate, l1]
      congr 1; omega
theorem laU_step {la : List Int} {fr m : Nat} (h : fr + m < la.length) (x : Int) : (laU la fr m x).set (fr + m) x = laU la fr (m + 1) x := by
  apply List.ext_getElem?
  intro j
  rw [List.getElem?_set, laU_length (by omega), laU_get? (by omega), laU_get? (by omega)]
  by_cases hj : fr + m = j
  · subst hj
    rw [if_pos rfl, if_pos h, if_pos (by omega)]
  · rw [if_neg hj]
    by_cases h1 : fr ≤ j ∧ j < fr + m
    · rw [if_pos h1, if_pos (by omega)]
    · rw [if_neg h1, if_neg (by omega)]
theorem laU_get {la : List Int} {fr m : Nat} (h : fr + m ≤ la.length) (x : Int) (j : Nat) : (laU la fr m x).getD j 0 = if fr ≤ j ∧ j < fr + m then x else la.getD j 0 := by
  rw [List.getD_eq_getElem?_getD, laU_get? h]
  split
  · rfl
  · rw [List.getD_eq_getElem?_getD]
theorem take_snoc (l : List Int) (k : Nat) (h : k < l.length) : l.take (k + 1) = l.take k ++ [l.getD k 0] := take_succ_getD l k h
theorem ops_same (ops : Nat → List Int) (q : Nat) : (fun k => if k = q then ops q else ops k) = ops := by
  funext k; split
  · rename_i e; rw [e]
  · rfl
theorem fr_app {gw W w2 : World} {r : Option Nat} (hW : Below gw.heap.size gw W) (hg : W.grownBy w2 r) : Fr (fun j => r = some j) gw w2 :=
  ⟨Nat.le_trans hW.size hg.size, fun k hk hn => (hg.block k (Nat.lt_of_lt_of_le hk hW.size) (fun e => hn e.symm)).trans (hW.block k hk), hg.os.trans hW.os, hg.tape.trans hW.tape, hg.output.trans hW.output⟩
theorem below_app {gw W w2 : World} {r : Option Nat} {base : Nat} (hW : Below gw.heap.size gw W) (hg : W.grownBy w2 r) (hb : base ≤ gw.heap.size) (hr : ∀ k, r = some k → base ≤ k) : Below base gw w2 :=
  (hW.mono hb).grown hg (Nat.le_trans hb hW.size) hr
theorem bkL_set (b : Bk) (j : Nat) (x : Int) (h1 : b.ba.length = 256) : (bkL { b with la := b.la.set j x }).toArray = (bkL b).toArray.setIfInBounds (257 + j) (.int .i64 x) := by
  simp only [bkL, ivs, List.map_set, List.setIfInBounds_toArray]
  rw [List.set_append_right _ _ (by rw [bvs_length, h1]; omega), bvs_length, h1, show 257 + j - 256 = j + 1 by omega, List.set_cons_succ]
theorem bkL_ov (b : Bk) (v : Value) (h1 : b.ba.length = 256) : (bkL { b with ov := v }).toArray = (bkL b).toArray.setIfInBounds 256 v := by
  simp only [bkL, List.setIfInBounds_toArray]
  rw [List.set_append_right _ _ (by rw [bvs_length, h1]; omega), bvs_length, h1, Nat.sub_self, List.set_cons_zero]
theorem run_appL {P : Program} {o : Oper} {a : Act} {w w' : World} {s x : Operand} {sv xv v : Value} (hop : o.op = .call { callee := .builtin .append, args := #[s, x], argTypes := #[37, 37] }) (hty : o.type = 37) (hs : a.eval s = sv) (hx : a.eval x = xv) (hL : (Builtin.append_ #[37, 37] 37 #[sv, xv]).run P w = .ok v w') : (execOp a.eval o).run P w = .ok (.value v) w' := by
  unfold execOp
  simp only [hop, hty, resolve, invoke, builtin]
  simp [hs, hx, hL, Result.andThen]
section
variable {w w' w0 : World} {base : Nat} {s s' s0 : PSt} {ops ops' : Nat → List Int}
set_option maxHeartbeats 4000000 in
theorem add_any (h : PRun base s0 w0 s ops w) {X : List Ch} {c : Ch} (hC : s.C = X ++ [c]) {Y Z : List Bk} {b : Bk} (hB : s.B = Y ++ b :: Z) (hav : c.av = .slice none 0 0) (hfit : fits c) (hd : 1 ≤ c.d.length) (hcnt : s.cnt ≤ 1000000) (hkc : s.kc ≤ 1000000) (hno : ((s.cnt + 1 : Nat) : Int) ∉ s.kC) (hfc : (∀ z ∈ s.C, z.ah.length ≤ 2000 ∧ ∀ i ∈ z.ah, -9223372036854775808 ≤ i ∧ i ≤ 9223372036854775807) ∧ ∀ i, s.fC i ≠ 0 → ∃ z ∈ X, (z.id : Int) = i ∧ s.fC i = z.q + 1)
    (asp : Option Addr) (ac : Nat) (after : List Int) (hs : SrcI w asp after) (hoff : 1 ≤ after.length → ∀ b o, asp = some ⟨b, o, none⟩ → b ≠ s.p) (hal : after.length ≤ 1000) (hab : ∀ i ∈ after, -9223372036854775808 ≤ i ∧ i ≤ 9223372036854775807) (hlb : ∀ i ∈ b.la, -9223372036854775808 ≤ i ∧ i ≤ 9223372036854775807) (hopl : (ops b.q).length ≤ 1000000) :
    Calls Tryz.prog 92 #[.pointer (some ⟨s.p, 0, none⟩), .pointer (some ⟨c.q, 0, none⟩), .pointer (some ⟨b.q, 0, none⟩), .slice asp after.length ac] w fun e w' => e = .returned (.tuple #[]) ∧ ∃ tg av ov ah,
      PRun base s0 w0 { s with cnt := s.cnt + 1, C := X ++ [{ c with av := av, ah := ah }], B := Y ++ { b with ov := ov, la := laU b.la c.fr c.d.length ((s.cnt + 1 : Nat) : Int) } :: Z, kc := s.kc + 1, fC := setF s.fC ((s.cnt + 1 : Nat) : Int) (c.q + 1), kC := s.kC ++ [((s.cnt + 1 : Nat) : Int)], tag := tg } (fun q => if q = b.q then ops b.q ++ [((s.cnt + 1 : Nat) : Int)] else ops q) w' ∧
      EndsOf X (fun i => (i ∈ after ∨ ∃ j, j < c.d.length ∧ i = b.la.getD (c.fr + j) 0) ∧ s.fC i ≠ 0) ah ∧ ah.length ≤ 2000 := by
  have hcm : c ∈ s.C := by rw [hC]; simp
  have hbm : b ∈ s.B := by rw [hB]; simp
  have c2 := h.pm.c2
  have cf := h.pm.pf 2
  have hR1 := h.cnt (s.cnt + 1)
  obtain ⟨w1, hw1⟩ : ∃ w1, w1 = w.setCell ⟨s.p, 2, none⟩ (.int .i64 ((s.cnt + 1 : Nat) : Int)) := ⟨_, rfl⟩
  have hz1 : w1.heap.size = w.heap.size := by rw [hw1]; simp [World.setCell]
  have hs1 : SrcI w1 asp after := by
    rcases hs with h0 | ⟨b', o', e', hb', hc'⟩
    · exact .inl h0
    · refine .inr ⟨b', o', e', by omega, fun j hj => ?_⟩
      rw [hw1, World.cell?_setCell_other _ _ _ _ (fun e => hoff (by omega) b' o' e' (by injection e with e1; exact e1.symm))]
      exact hc' j hj
  have CLN := cloneL_gen asp ac after w1 hs1 (by omega)
  rw [← hw1] at hR1
  have HR1 : Hid (PRun base s0 w0 { s with cnt := s.cnt + 1 } ops w1) := hR1
  have HZ : Hid (w1.heap.size = w.heap.size) := hz1
  have HSS : Hid (PRun base s0 w0 s ops w) := h
  have HCB : Hid (s.C = X ++ [c] ∧ s.B = Y ++ b :: Z ∧ c.av = .slice none 0 0) := ⟨hC, hB, hav⟩
  have HFT : Hid (c.fr + c.d.length ≤ 256 ∧ 1 ≤ c.d.length) := ⟨hfit, hd⟩
  have HNO : Hid (((s.cnt + 1 : Nat) : Int) ∉ s.kC) := hno
  have HFC : Hid ((∀ z ∈ s.C, z.ah.length ≤ 2000 ∧ ∀ i ∈ z.ah, -9223372036854775808 ≤ i ∧ i ≤ 9223372036854775807) ∧ ∀ i, s.fC i ≠ 0 → ∃ z ∈ X, (z.id : Int) = i ∧ s.fC i = z.q + 1) := hfc
  have HAB : Hid ((∀ i ∈ after, -9223372036854775808 ≤ i ∧ i ≤ 9223372036854775807) ∧ ∀ i ∈ b.la, -9223372036854775808 ≤ i ∧ i ≤ 9223372036854775807) := ⟨hab, hlb⟩
  have HCM : Hid (c ∈ s.C ∧ b ∈ s.B) := ⟨hcm, hbm⟩
  have HW1 : Hid (w1 = w.setCell ⟨s.p, 2, none⟩ (.int .i64 ((s.cnt + 1 : Nat) : Int))) := hw1
  have HAL : Hid (after.length ≤ 1000) := hal
  have hc64 : (s.cnt : Int) + 1 ≤ 9223372036854775807 := by omega
  clear h hs hs1 hR1 hC hB hav hfit hd hno hfc hab hlb hcm hbm hw1 hz1 hal hoff
  go_enter Tryz.func92, Tryz.ntmps92
  go_upto_region 1 with fail
  have hwe : w.setCell ⟨s.p, 2, none⟩ (.int .i64 ((s.cnt : Int) + 1)) = w1 := by rw [HW1.out]; rfl
  rw [hwe]
  clear hwe c2 cf
  go_upto_region 2 with (first | (go_at_call 126; refine CLN.mono ?_; rintro e w2 ⟨v, rfl, ho2, hb2⟩; have HO2 : Hid (OwnL w2 w.heap.size v after) := (by rw [← HZ.out]; exact ho2); have HR2 : Hid (PRun base s0 w0 { s with cnt := s.cnt + 1 } ops w2) := HR1.out.up hb2; have HZ2 : Hid (w.heap.size ≤ w2.heap.size) := (by rw [← HZ.out]; exact hb2.size); clear ho2 hb2))
  clear CLN HR1 HZ HW1
  have hsz : w0.heap.size ≤ w.heap.size := HSS.out.fr.size
  have HAK : Hid (∀ k, Ak s k → k < w.heap.size) := fun k hk => HSS.out.pm.lt hk
  have HAK2 : Hid (∀ (k n : Nat) (tg : Nat → Nat) (j : Nat), Ak { s with cnt := n, B := Y ++ { b with la := laU b.la c.fr k ((s.cnt + 1 : Nat) : Int) } :: Z, tag := tg } j → j < w.heap.size) := fun k n tg j hj => HAK.out j (by
    rcases hj with (hj | hj | hj | hj | ⟨x, hx, hj⟩) | hj
    · exact .inl (.inl hj)
    · exact .inl (.inr (.inl hj))
    · exact .inl (.inr (.inr (.inl hj)))
    · exact .inl (.inr (.inr (.inr (.inl hj))))
    · rcases mem_mid (e := b) hx with rfl | ⟨hx, _⟩
      · exact .inl (.inr (.inr (.inr (.inr ⟨b, HCM.out.2, hj⟩))))
      · exact .inl (.inr (.inr (.inr (.inr ⟨x, by rw [HCB.out.2.1]; exact hx, hj⟩))))
    · exact .inr hj)
  have q2 := (HR2.out.pm.ch c HCM.out.1).c2
  obtain ⟨da, dc, hdv, _, _, hdcm, _⟩ := (HR2.out.pm.ch c HCM.out.1).dat.form
  rw [hdv] at q2
  obtain ⟨m, hm⟩ : ∃ m, m = c.d.length := ⟨_, rfl⟩
  have HM : Hid (m = c.d.length) := hm
  have hm256 : c.fr + m ≤ 256 := by rw [hm]; exact HFT.out.1
  rw [← hm] at q2
  have HDV : Hid (c.dv = .slice da c.d.length dc) := hdv
  clear hdv hm
  go_wp2
  go_loopg [8, 9, 10, 25] m (fun gg t8 _ _ t25 W => ∃ (gw : World) (k : Nat) (v : Value) (tg : Nat → Nat), gw = W ∧ k ≤ m ∧ m - k ≤ gg ∧ v = t8 ∧ t25 = .int .i64 k ∧ Hid (PRun base s0 w0 { s with cnt := s.cnt + 1, B := Y ++ { b with la := laU b.la c.fr k ((s.cnt + 1 : Nat) : Int) } :: Z, tag := tg } ops gw) ∧ Hid (OwnL gw w.heap.size v (after ++ (b.la.drop c.fr).take k)) ∧ Hid (w.heap.size ≤ gw.heap.size))
  case atStart =>
    refine ⟨_, 0, v, s.tag, rfl, by omega, by omega, rfl, rfl, ?_, ?_⟩
    · rw [laU_zero]
      have := HR2.out
      rw [show ({ s with cnt := s.cnt + 1, B := Y ++ { b with la := b.la } :: Z, tag := s.tag } : PSt) = { s with cnt := s.cnt + 1 } by rw [← HCB.out.2.1]]
      exact this
    · rw [List.take_zero, List.append_nil]; exact ⟨HO2.out, HZ2.out⟩
  case round =>
    clear HR2 HO2 q2 HZ2
    obtain ⟨gw, k, v, tg, rfl, hk, hgg, rfl, rfl, HR, HO, HZG⟩ := hrel
    have hl2 : b.la.length = 256 := (HSS.out.pm.bk b HCM.out.2).l2
    by_cases hlt : k < m
    · have hltz : (k : Int) < (m : Int) := by omega
      have hcC : c ∈ ({ s with cnt := s.cnt + 1, B := Y ++ { b with la := laU b.la c.fr k ((s.cnt + 1 : Nat) : Int) } :: Z, tag := tg } : PSt).C := HCM.out.1
      have d1 := (HR.out.pm.ch c hcC).c1
      have hbk := HR.out.pm.bk { b with la := laU b.la c.fr k ((s.cnt + 1 : Nat) : Int) } (by simp)
      have l1 := hbk.c2 (c.fr + k) (by omega)
      rw [laU_get (by omega), if_neg (by omega)] at l1
      have lf := hbk.fz (257 + (c.fr + k))
      dsimp only at l1 lf
      have cc2 := HR.out.pm.c2
      dsimp only at cc2
      have hrk : ((c.fr : Int) + (k : Int)) < 256 := by omega
      have HBK : Hid _ := hbk
      clear hcC hbk
      go_wp2
      go_region
      obtain ⟨acc, hacc⟩ : ∃ acc, acc = after ++ (b.la.drop c.fr).take k := ⟨_, rfl⟩
      have hacl : acc.length ≤ 1000000 := by rw [hacc]; have := HAL.out; simp; omega
      have HACC : Hid (acc = after ++ (b.la.drop c.fr).take k) := hacc
      rw [← hacc] at HO
      clear hacc
      generalize hx : b.la.getD (c.fr + k) 0 = x at *
      have HX : Hid (b.la.getD (c.fr + k) 0 = x) := hx
      clear hx
      have hbs : base ≤ w.heap.size := HSS.out.pm.bs
      have hzg : w.heap.size ≤ gw.heap.size := HZG.out
      go_wp2_with (first | (at_builtin; refine Hid.out ?_))
      change wpList _ _ _ _ _ _
      refine wpList_append_l rfl (.tmp 38) (.tmp 42) rfl w.heap.size acc x _ rfl _ _ rfl (row_same HO.out (fun j hj => Below.heap_alloc _ _ _ (HO.out.lt j hj).2)) (heap_alloc_new _ _) (by simp; omega) hacl ?_
      intro G cap w2 ho2 hg2 hat2
      have hWb : Below gw.heap.size gw (gw.drew.alloc (.cells #[Value.int .i64 x] 2)) := (Below.refl _ _).drew.alloc (Nat.le_refl _) _
      have hR3 := HR.out.other (fr_app hWb hg2) (fun j hj => ⟨fun hA => by
        have h1 := (HO.out.lt j hj).1
        have h2 := HAK2.out _ _ _ j hA
        omega, by have h1 := (HO.out.lt j hj).1; omega⟩) (below_app hWb hg2 (by omega) (fun j hj => by have h1 := (HO.out.lt j hj).1; omega))
      have hbk3 := hR3.pm.bk { b with la := laU b.la c.fr k ((s.cnt + 1 : Nat) : Int) } (by simp)
      have l3 := hbk3.c2 (c.fr + k) (by omega)
      rw [laU_get (by omega), if_neg (by omega), HX.out] at l3
      have lf3 := hbk3.fz (257 + (c.fr + k))
      have c23 := hR3.pm.c2
      dsimp only at l3 lf3 c23
      have HR3 : Hid _ := And.intro hR3 hbk3
      have HO3 : Hid _ := ho2
      have HZ3 : Hid (w.heap.size ≤ w2.heap.size) := Nat.le_trans hzg (fr_app hWb hg2).size
      have HL2 : Hid (b.la.length = 256 ∧ b.ba.length = 256) := ⟨hl2, (HSS.out.pm.bk b HCM.out.2).l1⟩
      clear hR3 hbk3 ho2 hg2 hat2 hWb HBK l1 lf d1 cc2 hl2
      go_wp2
      go_roundg (m - (k + 1))
      case measure => omega
      case rel =>
        have hk3 : k < m := hlt
        have hset := heap_setCell_same w2 b.q (257 + (c.fr + k)) _ _ (.int .i64 ((s.cnt + 1 : Nat) : Int)) HR3.out.2.cell
        rw [← bkL_set { b with la := laU b.la c.fr k ((s.cnt + 1 : Nat) : Int) } _ _ HL2.out.2] at hset
        dsimp only at hset
        rw [laU_step (by rw [HL2.out.1]; omega)] at hset
        have hqb : base ≤ b.q := (HSS.out.pm.fk b.q (.inr (.inr (.inr (.inr ⟨b, HCM.out.2, .inl rfl⟩))))).1
        have hqw : b.q < w.heap.size := HAK.out b.q (.inl (.inr (.inr (.inr (.inr ⟨b, HCM.out.2, .inl rfl⟩)))))
        obtain ⟨tg', hp⟩ := HR3.out.1.setB (X := Y) (Y := Z) (b := { b with la := laU b.la c.fr k ((s.cnt + 1 : Nat) : Int) }) (b' := { b with la := laU b.la c.fr (k + 1) ((s.cnt + 1 : Nat) : Int) }) (op := ops b.q) (w' := w2.setCell ⟨b.q, 257 + (c.fr + k), none⟩ (.int .i64 ((s.cnt + 1 : Nat) : Int))) rfl rfl ((Fr.refl _ _).setCell b.q _ _ (.inl rfl)) ((Below.refl _ _).setCell hqb _) hset HL2.out.2 (by show (laU b.la c.fr (k + 1) _).length = 256; rw [laU_length (by rw [HL2.out.1]; omega)]; exact HL2.out.1) (row_same HR3.out.2.opn fun j hj => heap_setCell_other _ _ _ _ (fun e => by
            have t1 := (HSS.out.pm.tb b HCM.out.2).1
            have t2 := (HSS.out.pm.tb b HCM.out.2).2 j hj
            have e' : j = b.q := e
            rw [e', t1] at t2; omega)) (fun j hj => .inl hj)
        dsimp only at hp
        rw [ops_same] at hp
        refine ⟨_, k + 1, _, tg', rfl, by omega, by omega, rfl, by go_num, hp, ?_, ?_⟩
        · have e1 : after ++ (b.la.drop c.fr).take (k + 1) = acc ++ [x] := by
            rw [HACC.out, take_snoc _ k (by rw [List.length_drop, HL2.out.1]; omega), List.append_assoc, List.getD_eq_getElem?_getD, List.getElem?_drop, ← List.getD_eq_getElem?_getD, HX.out]
          rw [e1]
          exact row_same HO3.out fun j hj => heap_setCell_other _ _ _ _ (fun e => by
            have h1 := (HO3.out.lt j hj).1
            have e' : j = b.q := e
            omega)
        · show _ ≤ (w2.setCell _ _).heap.size
          have := HZ3.out
          simp [World.setCell]; omega
    · have hltz : ¬ (k : Int) < (m : Int) := by omega
      have hkm : k = m := by omega
      subst hkm
      have hm1 : 1 ≤ k := by rw [HM.out]; exact HFT.out.2
      obtain ⟨l0, hl0⟩ : ∃ l0, l0 = after ++ (b.la.drop c.fr).take k := ⟨_, rfl⟩
      have HL0 : Hid (∀ i, i ∈ l0 ↔ (i ∈ after ∨ ∃ j, j < c.d.length ∧ i = b.la.getD (c.fr + j) 0)) := by
        intro i
        rw [hl0, List.mem_append]
        refine or_congr Iff.rfl ?_
        constructor
        · intro hi
          obtain ⟨j, hj, rfl⟩ := List.getElem_of_mem hi
          have hj' : j < k ∧ c.fr + j < b.la.length := by simp at hj; omega
          refine ⟨j, by rw [← HM.out]; exact hj'.1, ?_⟩
          rw [List.getElem_take, List.getElem_drop, List.getD_eq_getElem?_getD, List.getElem?_eq_getElem hj'.2]; rfl
        · rintro ⟨j, hj, rfl⟩
          rw [← HM.out] at hj
          have hj' : c.fr + j < b.la.length := by omega
          rw [List.getD_eq_getElem?_getD, List.getElem?_eq_getElem hj']
          refine List.mem_iff_getElem.2 ⟨j, by simp; omega, ?_⟩
          rw [List.getElem_take, List.getElem_drop]; rfl
      have HL0b : Hid (∀ i ∈ l0, -9223372036854775808 ≤ i ∧ i ≤ 9223372036854775807) := by
        intro i hi
        rw [hl0, List.mem_append] at hi
        rcases hi with hi | hi
        · exact HAB.out.1 i hi
        · exact HAB.out.2 i (List.mem_of_mem_drop (List.mem_of_mem_take hi))
      have hl0l : 1 ≤ l0.length ∧ l0.length ≤ 2000 := by rw [hl0]; have := HAL.out; simp; omega
      rw [← hl0] at HO
      clear hl0
      obtain ⟨g, cap, rfl, hgw⟩ := HO.out.some hl0l.1
      have HKEEP : Hid (∀ {W W' : World} {tg : Nat → Nat}, PRun base s0 w0 { s with cnt := s.cnt + 1, B := Y ++ { b with la := laU b.la c.fr k ((s.cnt + 1 : Nat) : Int) } :: Z, tag := tg } ops W → Fr (fun j => j = g) W W' → Below base W W' → PRun base s0 w0 { s with cnt := s.cnt + 1, B := Y ++ { b with la := laU b.la c.fr k ((s.cnt + 1 : Nat) : Int) } :: Z, tag := tg } ops W') := fun hp hf hb => hp.other hf (fun j hj => ⟨fun hA => by have := HAK2.out _ _ _ j hA; omega, by omega⟩) hb
      have hbs : base ≤ w.heap.size := HSS.out.pm.bs
      have SO := sort_own w.heap.size g cap l0 gw HO.out (by omega)
      go_upto_region 10 with (first | (go_at_call 105; refine SO.mono ?_; rintro e w3 ⟨rfl, ho3, hg3⟩; have HO3 : Hid _ := ho3; have HR3 : Hid _ := HKEEP.out HR.out (Fr.of_grown hg3) ((Below.refl _ _).grown hg3 (by have := HZG.out; omega) (fun j hj => by cases hj; omega)); clear ho3 hg3))
      obtain ⟨l1, hl1⟩ : ∃ l1, l1 = l0.mergeSort fun x y => decide (x ≤ y) := ⟨_, rfl⟩
      have hl1l : l1.length = l0.length := by rw [hl1, List.length_mergeSort]
      have HL1 : Hid (∀ i, i ∈ l1 ↔ i ∈ l0) := fun i => by rw [hl1]; exact List.mem_mergeSort
      rw [← hl1, ← hl1l] at HO3
      clear SO hl1 HR HO
      have CO := compact_own w.heap.size g cap l1 w3 HO3.out (by omega)
      rw [hl1l] at CO
      clear hl1l
      go_wp2_with (first | (go_at_call 129; refine CO.mono ?_; rintro e w4 ⟨l2, rfl, hm2, hle2, ho4, hg4⟩; have HO4 : Hid (OwnL w4 w.heap.size (.slice (some ⟨g, 0, none⟩) l2.length cap) l2) := ho4; have HM2 : Hid _ := hm2; have HR4 : Hid _ := HKEEP.out HR3.out (Fr.of_grown hg4) ((Below.refl _ _).grown hg4 HR3.out.pm.bs (fun j hj => by cases hj; omega)); clear ho4 hg4 hm2))
      clear CO HR3 HO3
      have hl2l : 1 ≤ l2.length := by
        obtain ⟨i, hi⟩ := List.exists_mem_of_length_pos (l := l0) (by omega)
        exact List.length_pos_of_mem ((HM2.out i).2 ((HL1.out i).2 hi))
      obtain ⟨r4, hr4, hgb4, hc4, hcm4⟩ := HO4.out.row
      have HL2b : Hid (∀ i ∈ l2, -9223372036854775808 ≤ i ∧ i ≤ 9223372036854775807) := fun i hi => HL0b.out i ((HL1.out i).1 ((HM2.out i).1 hi))
      have egc : ∀ args w, (callFunc 96 args).run Tryz.prog w = .ok (.enter 96 args) w := enters_of Tryz.func96 (by kernel_rfl) rfl
      have DF := deleteFunc_m 96 (.pointer (some ⟨s.p, 0, none⟩)) egc (fun x => decide (s.fC x = 0)) w.heap.size g cap l2 w4 r4 hr4 hgb4 hc4 hcm4 hl2l (fun x hx W hW => by
        have hPW := HR4.out.pm.fr hW (fun j hA e => by have := HAK2.out _ _ _ j hA; omega)
        exact closed_any hPW x (HL2b.out x hx))
      obtain ⟨l3, hl3⟩ : ∃ l3, l3 = l2.filter fun x => !decide (s.fC x = 0) := ⟨_, rfl⟩
      have HL3 : Hid ((∀ i, i ∈ l3 ↔ (i ∈ after ∨ ∃ j, j < c.d.length ∧ i = b.la.getD (c.fr + j) 0) ∧ s.fC i ≠ 0) ∧ l3.length ≤ 2000) := by
        refine ⟨fun i => ?_, ?_⟩
        · rw [hl3, List.mem_filter, HM2.out i, HL1.out i, HL0.out i]; simp
        · have : l3.length ≤ l2.length := by rw [hl3]; exact List.length_filter_le _ _
          omega
      have HL3b : Hid (∀ i ∈ l3, -9223372036854775808 ≤ i ∧ i ≤ 9223372036854775807) := fun i hi => HL2b.out i (by rw [hl3] at hi; exact (List.mem_filter.1 hi).1)
      rw [← hl3] at DF
      clear hr4 hc4 egc hl3 hcm4
      refine DF.mono ?_
      clear DF
      rintro e w5 ⟨m5, rfl, hm5, ho5, hf5, hb5⟩
      subst hm5
      have HR5 : Hid _ := HKEEP.out HR4.out hf5 (hb5.mono hbs)
      have HO5 : Hid (OwnL w5 w.heap.size (.slice (some ⟨g, 0, none⟩) l3.length cap) l3) := ho5
      obtain ⟨ao5, cp5, he5, hs5, _, _, _⟩ := ho5.form
      have EN := ends_any HR5.out.pm X HFC.out.1 (some ⟨g, 0, none⟩) cap l3 (by cases he5; exact hs5) (fun b o e => by cases e; exact (HO5.out.lt g rfl).2) HL3.out.2 (fun i hi => ⟨HL3b.out i hi, by
        obtain ⟨z, hz, e1, e2⟩ := HFC.out.2 i ((HL3.out.1 i).1 hi).2
        exact ⟨z, by show z ∈ s.C; rw [HCB.out.1]; exact List.mem_append.2 (.inl hz), ⟨hz, e1⟩, e2⟩⟩)
      dsimp only at EN
      clear hf5 hb5 ho5 he5 hs5 HR4 HO4 HM2 HL0 HL0b HL1 HL2b
      have hcC5 : c ∈ ({ s with cnt := s.cnt + 1, B := Y ++ { b with la := laU b.la c.fr k ((s.cnt + 1 : Nat) : Int) } :: Z, tag := tg } : PSt).C := HCM.out.1
      have HC5 : Hid _ := hcC5
      clear hcC5
      go_wp2_with fail
      refine EN.mono ?_
      clear EN
      rintro e w6 ⟨v6, l6, rfl, ho6, hen6, hel6, hb6⟩
      have HE6 : Hid (EndsOf X (fun i => (i ∈ after ∨ ∃ j, j < c.d.length ∧ i = b.la.getD (c.fr + j) 0) ∧ s.fC i ≠ 0) l6 ∧ l6.length ≤ 2000) := ⟨⟨fun i hi => (HL3.out.1 i).1 (hen6.sub i hi), fun i hi => (hen6.cov i ((HL3.out.1 i).2 hi)).imp id (fun ⟨z, hz, h1, h2⟩ => ⟨z, hz, (HL3.out.1 _).1 h1, h2⟩)⟩, hel6⟩
      clear hen6 hel6
      obtain ⟨ao6, cp6, rfl, _, _, _, _⟩ := ho6.form
      have HO6 : Hid (OwnL w6 w5.heap.size (.slice ao6 l6.length cp6) l6) := ho6
      have HR6 : Hid (PRun base s0 w0 { s with cnt := s.cnt + 1, B := Y ++ { b with la := laU b.la c.fr k ((s.cnt + 1 : Nat) : Int) } :: Z, tag := tg } ops w6) := HR5.out.up hb6
      have hch6 := HR6.out.pm.ch c HC5.out
      have a63 : w6.cell? ⟨c.q, 3, none⟩ = some (.slice none 0 0) := by rw [hch6.c3, HCB.out.2.2]
      have a6f : w6.frozen? ⟨c.q, 3, none⟩ = false := hch6.fz 3
      have HCH6 : Hid (ChAt w6 base c) := hch6
      have HZ6 : Hid (w5.heap.size ≤ w6.heap.size) := hb6.size
      have HZ5 : Hid (w.heap.size ≤ w5.heap.size) := by have := (HO5.out.lt g rfl).2; show _ ≤ _; omega
      clear ho6 hb6 hch6 HR5 HO5 HKEEP
      go_wp2
      have hqc : base ≤ c.q := (HSS.out.pm.fk c.q (.inr (.inr (.inr (.inl ⟨c, HCM.out.1, .inl rfl⟩))))).1
      have hqcw : c.q < w.heap.size := HAK.out c.q (.inl (.inr (.inr (.inr (.inl ⟨c, HCM.out.1, .inl rfl⟩)))))
      have hset6 := heap_setCell_same w6 c.q 3 _ _ (.slice ao6 l6.length cp6) HCH6.out.cell
      obtain ⟨tg7, h7⟩ := HR6.out.setC (X := X) (Y := []) (c := c) (c' := { c with av := .slice ao6 l6.length cp6, ah := l6 }) (w' := w6.setCell ⟨c.q, 3, none⟩ (.slice ao6 l6.length cp6)) HCB.out.1 rfl rfl rfl ((Fr.refl _ _).setCell c.q 3 _ rfl) ((Below.refl _ _).setCell hqc _) hset6 (row_same (row_mono HO6.out (by have := HZ5.out; omega)) fun j hj => heap_setCell_other _ _ _ _ (fun e => by
          have h1 := (HO6.out.lt j hj).1
          have h2 := HZ5.out
          have e' : j = c.q := e
          omega)) (fun j hj => .inr ⟨fun hA => by
          have h1 := (HO6.out.lt j hj).1
          have h2 := HAK2.out _ _ _ j hA
          have h3 := HZ5.out
          omega, by have h1 := (HO6.out.lt j hj).1; have h3 := HZ5.out; omega⟩)
      have HZ7 : Hid (w.heap.size ≤ (w6.setCell ⟨c.q, 3, none⟩ (.slice ao6 l6.length cp6)).heap.size) := by have h1 := HZ5.out; have h2 := HZ6.out; show _ ≤ _; simp [World.setCell]; omega
      clear a63 a6f HCH6 HR6 HO6 hset6 HZ5 HZ6
      generalize w6.setCell ⟨c.q, 3, none⟩ (.slice ao6 l6.length cp6) = w7 at *
      obtain ⟨w8, hrun8, hm8, hg8⟩ := (h7.up (w' := w7.drew) ((Below.refl _ _).drew)).pm.mc.put Tryz.underlying2 Tryz.underlying121 ((s.cnt + 1 : Nat) : Int) (by omega) (c.q + 1) hkc HNO.out
      have h8 := (h7.up (w' := w7.drew) ((Below.refl _ _).drew)).mapC hg8 hm8
      simp only [ptrV] at hrun8
      have ecn : ((s.cnt + 1 : Nat) : Int) = (s.cnt : Int) + 1 := rfl
      have c72 := h7.pm.c2
      have c73 := h7.pm.c3
      dsimp only at c72 c73 hrun8
      rw [ecn] at c72 hrun8
      have HZ8 : Hid (w.heap.size ≤ w8.heap.size) := Nat.le_trans HZ7.out hg8.size
      have H8 : Hid _ := h8
      clear h7 hm8 hg8 h8 HZ7 ecn
      go_region
      have hbB : { b with la := laU b.la c.fr k ((s.cnt + 1 : Nat) : Int) } ∈ Y ++ { b with la := laU b.la c.fr k ((s.cnt + 1 : Nat) : Int) } :: Z := by simp
      have hbk8 := H8.out.pm.bk _ hbB
      obtain ⟨oa, oc, hoe, hos, hoc, hocm, hon⟩ := hbk8.opn.form
      have o81 := hbk8.c1
      have f81 := hbk8.fz 256
      have c82 := H8.out.pm.c2
      dsimp only at hoe o81 f81 c82
      rw [hoe] at o81
      have ecn : ((s.cnt + 1 : Nat) : Int) = (s.cnt : Int) + 1 := rfl
      rw [ecn] at c82
      have hql8 : b.q < w8.heap.size := (Array.getElem?_eq_some_iff.1 hbk8.cell).1
      have hown8 := hbk8.opn
      dsimp only at hown8
      obtain ⟨i0, hi0, hz0, hz1, hz2⟩ := info_parts Tryz.infoL
      have hWb : Below w8.heap.size w8 (w8.drew.alloc (.cells #[Value.int .i64 ((s.cnt : Int) + 1)] 2)) := (Below.refl _ _).drew.alloc (Nat.le_refl _) _
      have hownA : OwnL (w8.drew.alloc (.cells #[Value.int .i64 ((s.cnt : Int) + 1)] 2)) base b.ov (ops b.q) := row_same hown8 fun j hj => hWb.block j (hown8.lt j hj).2
      have hrowA : RowI (w8.drew.alloc (.cells #[Value.int .i64 ((s.cnt : Int) + 1)] 2)) w8.heap.size 2 [(s.cnt : Int) + 1] := heap_alloc_new w8.drew _
      obtain ⟨G, cp, w9, hap, hown9, hg9, hat9, _⟩ := run_append_lies (P := Tryz.prog) (w8.drew.alloc (.cells #[Value.int .i64 ((s.cnt : Int) + 1)] 2)) 37 37 base 2 i0 _ 1 8 Tryz.underlying37 hi0 hz0 hz1 hz2 rfl (by decide) b.ov (ops b.q).length (ivs (ops b.q)) hownA ⟨w8.heap.size, 0, none⟩ 1 1 (ivs [(s.cnt : Int) + 1]) (by simp [ivs_length]) (fun j u hj => by
        have hjl : j < 1 := by have := (List.getElem?_eq_some_iff.1 hj).1; simpa [ivs] using this
        obtain rfl : j = 0 := by omega
        rw [addr_add, Nat.zero_add, hrowA.cell 0 (by simp), ← hj]; rfl) (ivs_one _) (by omega) (by unfold maxLen; omega) (by omega) (by have := hWb.size; have := HSS.out.pm.bs; have := HZ8.out; omega) _ rfl
      rw [hoe] at hap
      have hfr9 := fr_app hWb hg9
      have hovq : ∀ j, b.ov.ownBlock = some j → j ≠ b.q := fun j hj e => by
        have t1 := (HSS.out.pm.tb b HCM.out.2).1
        have t2 := (HSS.out.pm.tb b HCM.out.2).2 j hj
        rw [e, t1] at t2; omega
      have hbq9 : w9.heap[b.q]? = w8.heap[b.q]? := hfr9.blk b.q hql8 (fun e => hovq b.q e rfl)
      have o91 : w9.cell? ⟨b.q, 256, none⟩ = some (.slice oa (ops b.q).length oc) := (World.cell?_of_block (a := ⟨b.q, 256, none⟩) hbq9).trans o81
      have f91 : w9.frozen? ⟨b.q, 256, none⟩ = false := (World.frozen?_of_block (a := ⟨b.q, 256, none⟩) hbq9).trans f81
      have hset9 := heap_setCell_same w9 b.q 256 _ _ (.slice (some ⟨G, 0, none⟩) ((ops b.q).length + 1) cp) (hbq9.trans hbk8.cell)
      have HL2 : b.la.length = 256 ∧ b.ba.length = 256 := ⟨(HSS.out.pm.bk b HCM.out.2).l2, (HSS.out.pm.bk b HCM.out.2).l1⟩
      have hqb : base ≤ b.q := (HSS.out.pm.fk b.q (.inr (.inr (.inr (.inr ⟨b, HCM.out.2, .inl rfl⟩))))).1
      have hqbw : b.q < w.heap.size := HAK.out b.q (.inl (.inr (.inr (.inr (.inr ⟨b, HCM.out.2, .inl rfl⟩)))))
      have hGn : b.ov.ownBlock = some G ∨ w8.heap.size ≤ G := by
        rcases hat9 with e | e
        · exact .inl e
        · have hz : (w8.drew.alloc (.cells #[Value.int .i64 ((s.cnt : Int) + 1)] 2)).heap.size = w8.heap.size + 1 := by show (w8.heap.push _).size = _; simp
          exact .inr (by omega)
      have hGq : G ≠ b.q := fun e => by
        rcases hGn with e2 | e2
        · exact hovq G e2 e
        · omega
      obtain ⟨tg9, h9⟩ := H8.out.setB (X := Y) (Y := Z) (b := { b with la := laU b.la c.fr k ((s.cnt + 1 : Nat) : Int) }) (b' := { b with la := laU b.la c.fr k ((s.cnt + 1 : Nat) : Int), ov := .slice (some ⟨G, 0, none⟩) ((ops b.q).length + 1) cp }) (op := ops b.q ++ [((s.cnt + 1 : Nat) : Int)]) (w' := w9.setCell ⟨b.q, 256, none⟩ (.slice (some ⟨G, 0, none⟩) ((ops b.q).length + 1) cp)) rfl rfl ((hfr9.mono fun j _ hj => .inr hj).setCell b.q 256 _ (.inl rfl)) ((below_app hWb hg9 H8.out.pm.bs (fun j hj => (hown8.lt j hj).1)).setCell hqb _) (by rw [hset9]; congr 2; exact (bkL_ov { b with la := laU b.la c.fr k ((s.cnt + 1 : Nat) : Int) } _ HL2.2).symm) HL2.2 (by show (laU b.la c.fr k _).length = 256; rw [laU_length (by rw [HL2.1]; omega)]; exact HL2.1) (row_same (by rw [List.length_append, ivs_append]; exact hown9) fun j hj => heap_setCell_other _ _ _ _ (fun e => by
          obtain rfl : G = j := by simpa [Value.ownBlock] using hj
          exact hGq e)) (fun j hj => by
          obtain rfl : G = j := by simpa [Value.ownBlock] using hj
          rcases hGn with e2 | e2
          · exact .inl e2
          · refine .inr ⟨fun hA => ?_, by have := HZ8.out; omega⟩
            have := H8.out.pm.lt hA
            omega)
      have HFIN : Hid (∃ tg av ov ah, PRun base s0 w0 { s with cnt := s.cnt + 1, C := X ++ [{ c with av := av, ah := ah }], B := Y ++ { b with ov := ov, la := laU b.la c.fr c.d.length ((s.cnt + 1 : Nat) : Int) } :: Z, kc := s.kc + 1, fC := setF s.fC ((s.cnt + 1 : Nat) : Int) (c.q + 1), kC := s.kC ++ [((s.cnt + 1 : Nat) : Int)], tag := tg } (fun q => if q = b.q then ops b.q ++ [((s.cnt + 1 : Nat) : Int)] else ops q) (w9.setCell ⟨b.q, 256, none⟩ (.slice (some ⟨G, 0, none⟩) ((ops b.q).length + 1) cp)) ∧ EndsOf X (fun i => (i ∈ after ∨ ∃ j, j < c.d.length ∧ i = b.la.getD (c.fr + j) 0) ∧ s.fC i ≠ 0) ah ∧ ah.length ≤ 2000) := by
        rw [← HM.out]
        have hx3 := HE6.out
        rw [← HM.out] at hx3
        exact ⟨tg9, _, _, l6, h9, hx3⟩
      have L4 : (Instr.loadAt 37 (.pointer (some ⟨b.q, 256, none⟩))).run Tryz.prog w8.drew = .ok (.slice oa (ops b.q).length oc) w8.drew := by go_simp
      have o81b : (w8.drew.alloc (.cells #[Value.int .i64 ((s.cnt : Int) + 1)] 2)).cell? ⟨b.q, 256, none⟩ = some (.slice oa (ops b.q).length oc) := (hWb.cell (p := ⟨b.q, 256, none⟩) hql8).trans o81
      have L4b : (Instr.loadAt 37 (.pointer (some ⟨b.q, 256, none⟩))).run Tryz.prog (w8.drew.alloc (.cells #[Value.int .i64 ((s.cnt : Int) + 1)] 2)) = .ok (.slice oa (ops b.q).length oc) (w8.drew.alloc (.cells #[Value.int .i64 ((s.cnt : Int) + 1)] 2)) := by go_simp
      have L8 : (Instr.loadAt 2 (.pointer (some ⟨s.p, 2, none⟩))).run Tryz.prog w8.drew = .ok (.int .i64 ((s.cnt : Int) + 1)) w8.drew := by go_simp
      have B9 : (Instr.buildSlice 37 1 #[(0, .int .i64 ((s.cnt : Int) + 1))]).run Tryz.prog w8.drew = .ok (.slice (some ⟨w8.heap.size, 0, none⟩) 1 1) (w8.drew.alloc (.cells #[Value.int .i64 ((s.cnt : Int) + 1)] 2)) := by go_simp
      clear h9 hset9 hown9 hg9 hat9 hfr9 hbq9 hownA hrowA hWb hown8 hos hoe hovq hGn hGq H8 hbk8 hbB HL2 o81 o81b f81 c82 ecn hi0 hz0 hz1 hz2
      go_wp2_with fail
      refine wp_region_any (by kernel_rfl) ?_
      change wpAny _ _ _ _ _ _ _ (World.drew _)
      refine take_op (i := 0) (dst := some 72) (v := .pointer (some ⟨b.q, 0, none⟩)) rfl rfl (by kernel_rfl) (by kernel_rfl) (by kernel_rfl) (fun _ _ _ h => h) rfl (fun _ => by go_simp) rfl ?_
      refine take_op (i := 1) (dst := some 73) (v := .pointer (some ⟨b.q, 0, none⟩)) rfl rfl (by kernel_rfl) (by kernel_rfl) (by kernel_rfl) (fun _ _ _ h => h) rfl (fun _ => by go_simp) rfl ?_
      refine take_op (i := 2) (dst := some 74) (v := .pointer (some ⟨b.q, 0, none⟩)) rfl rfl (by kernel_rfl) (by kernel_rfl) (by kernel_rfl) (fun _ _ _ h => h) rfl (fun _ => by go_simp) rfl ?_
      refine take_op (i := 3) (dst := some 75) (v := .pointer (some ⟨b.q, 256, none⟩)) rfl rfl (by kernel_rfl) (by kernel_rfl) (by kernel_rfl) (fun _ _ _ h => h) rfl (fun _ => by go_simp) rfl ?_
      refine take_op (i := 5) (dst := some 77) (v := .pointer (some ⟨s.p, 0, none⟩)) rfl rfl (by kernel_rfl) (by kernel_rfl) (by kernel_rfl) (fun _ _ _ h => h) rfl (fun _ => by go_simp) rfl ?_
      refine take_op (i := 6) (dst := some 78) (v := .pointer (some ⟨s.p, 0, none⟩)) rfl rfl (by kernel_rfl) (by kernel_rfl) (by kernel_rfl) (fun _ _ _ h => h) rfl (fun _ => by go_simp) rfl ?_
      refine take_op (i := 7) (dst := some 79) (v := .pointer (some ⟨s.p, 2, none⟩)) rfl rfl (by kernel_rfl) (by kernel_rfl) (by kernel_rfl) (fun _ _ _ h => h) rfl (fun _ => by go_simp) rfl ?_
      simp only [Act.put, List.setIfInBounds_toArray, List.set_cons_succ, List.set_cons_zero]
      refine wpAny_ready (rs := [4, 8]) (by kernel_rfl) (by simp) ?_
      refine ready_run (v := .slice oa (ops b.q).length oc) (w' := w8.drew) (dst := some 76) rfl rfl rfl (run_load rfl rfl L4) rfl ?_ (ready_run (v := .int .i64 ((s.cnt : Int) + 1)) (w' := w8.drew) (dst := some 80) rfl rfl rfl (run_load rfl rfl L8) rfl ?_ AllReady.nil)
      · simp only [Act.put, List.setIfInBounds_toArray, List.set_cons_succ, List.set_cons_zero]
        refine wpAny_ready (rs := [8]) (by kernel_rfl) (by simp) ?_
        refine ready_run (v := .int .i64 ((s.cnt : Int) + 1)) (w' := w8.drew) (dst := some 80) rfl rfl rfl (run_load rfl rfl L8) rfl ?_ AllReady.nil
        simp only [Act.put, List.setIfInBounds_toArray, List.set_cons_succ, List.set_cons_zero]
        refine wpAny_ready (rs := [9]) (by kernel_rfl) (by simp) ?_
        refine ready_run (v := .slice (some ⟨w8.heap.size, 0, none⟩) 1 1) (w' := w8.drew.alloc (.cells #[Value.int .i64 ((s.cnt : Int) + 1)] 2)) (dst := some 81) rfl rfl rfl (run_build rfl rfl B9) rfl ?_ AllReady.nil
        simp only [Act.put, List.setIfInBounds_toArray, List.set_cons_succ, List.set_cons_zero]
        refine wpAny_ready (rs := [10]) (by kernel_rfl) (by simp) ?_
        refine ready_run (v := .slice (some ⟨G, 0, none⟩) ((ops b.q).length + 1) cp) (w' := w9) (dst := some 82) rfl rfl rfl (run_appL rfl rfl rfl rfl hap) rfl ?_ AllReady.nil
        simp only [Act.put, List.setIfInBounds_toArray, List.set_cons_succ, List.set_cons_zero]
        refine take_op (i := 11) (dst := some 83) (v := .pointer (some ⟨b.q, 0, none⟩)) rfl rfl (by kernel_rfl) (by kernel_rfl) (by kernel_rfl) (fun _ _ _ h => h) rfl (fun _ => by go_simp) rfl ?_
        refine take_op (i := 12) (dst := some 84) (v := .pointer (some ⟨b.q, 256, none⟩)) rfl rfl (by kernel_rfl) (by kernel_rfl) (by kernel_rfl) (fun _ _ _ h => h) rfl (fun _ => by go_simp) rfl ?_
        simp only [Act.put, List.setIfInBounds_toArray, List.set_cons_succ, List.set_cons_zero]
        refine wpAny_ready (rs := [13]) (by kernel_rfl) (by simp) ?_
        refine AllReady.cons (o := { dst := none, op := Op.store 37 (Operand.tmp 84) (Operand.tmp 82), type := 0, pos := "patch.go:129", after := #[{ on := 12, ground := Ground.data }, { on := 10, ground := Ground.data }, { on := 10, ground := Ground.chain }, { on := 0, ground := Ground.phase }, { on := 1, ground := Ground.phase }, { on := 2, ground := Ground.phase }, { on := 3, ground := Ground.phase }, { on := 4, ground := Ground.phase }, { on := 5, ground := Ground.phase }, { on := 6, ground := Ground.phase }, { on := 7, ground := Ground.phase }, { on := 8, ground := Ground.phase }, { on := 9, ground := Ground.phase }, { on := 10, ground := Ground.phase }], guard := none }) rfl (fun K hK => ?_) AllReady.nil
        go_simp
        refine hK _ _ ?_
        clear hK K
        refine wpAny_done (by kernel_rfl) ?_ _
        go_wp2
        go_end0
        exact ⟨rfl, HFIN.out⟩
      · simp only [Act.put, List.setIfInBounds_toArray, List.set_cons_succ, List.set_cons_zero]
        refine wpAny_ready (rs := [4, 9]) (by kernel_rfl) (by simp) ?_
        refine ready_run (v := .slice oa (ops b.q).length oc) (w' := w8.drew) (dst := some 76) rfl rfl rfl (run_load rfl rfl L4) rfl ?_ (ready_run (v := .slice (some ⟨w8.heap.size, 0, none⟩) 1 1) (w' := w8.drew.alloc (.cells #[Value.int .i64 ((s.cnt : Int) + 1)] 2)) (dst := some 81) rfl rfl rfl (run_build rfl rfl B9) rfl ?_ AllReady.nil)
        · simp only [Act.put, List.setIfInBounds_toArray, List.set_cons_succ, List.set_cons_zero]
          refine wpAny_ready (rs := [9]) (by kernel_rfl) (by simp) ?_
          refine ready_run (v := .slice (some ⟨w8.heap.size, 0, none⟩) 1 1) (w' := w8.drew.alloc (.cells #[Value.int .i64 ((s.cnt : Int) + 1)] 2)) (dst := some 81) rfl rfl rfl (run_build rfl rfl B9) rfl ?_ AllReady.nil
          simp only [Act.put, List.setIfInBounds_toArray, List.set_cons_succ, List.set_cons_zero]
          refine wpAny_ready (rs := [10]) (by kernel_rfl) (by simp) ?_
          refine ready_run (v := .slice (some ⟨G, 0, none⟩) ((ops b.q).length + 1) cp) (w' := w9) (dst := some 82) rfl rfl rfl (run_appL rfl rfl rfl rfl hap) rfl ?_ AllReady.nil
          simp only [Act.put, List.setIfInBounds_toArray, List.set_cons_succ, List.set_cons_zero]
          refine take_op (i := 11) (dst := some 83) (v := .pointer (some ⟨b.q, 0, none⟩)) rfl rfl (by kernel_rfl) (by kernel_rfl) (by kernel_rfl) (fun _ _ _ h => h) rfl (fun _ => by go_simp) rfl ?_
          refine take_op (i := 12) (dst := some 84) (v := .pointer (some ⟨b.q, 256, none⟩)) rfl rfl (by kernel_rfl) (by kernel_rfl) (by kernel_rfl) (fun _ _ _ h => h) rfl (fun _ => by go_simp) rfl ?_
          simp only [Act.put, List.setIfInBounds_toArray, List.set_cons_succ, List.set_cons_zero]
          refine wpAny_ready (rs := [13]) (by kernel_rfl) (by simp) ?_
          refine AllReady.cons (o := { dst := none, op := Op.store 37 (Operand.tmp 84) (Operand.tmp 82), type := 0, pos := "patch.go:129", after := #[{ on := 12, ground := Ground.data }, { on := 10, ground := Ground.data }, { on := 10, ground := Ground.chain }, { on := 0, ground := Ground.phase }, { on := 1, ground := Ground.phase }, { on := 2, ground := Ground.phase }, { on := 3, ground := Ground.phase }, { on := 4, ground := Ground.phase }, { on := 5, ground := Ground.phase }, { on := 6, ground := Ground.phase }, { on := 7, ground := Ground.phase }, { on := 8, ground := Ground.phase }, { on := 9, ground := Ground.phase }, { on := 10, ground := Ground.phase }], guard := none }) rfl (fun K hK => ?_) AllReady.nil
          go_simp
          refine hK _ _ ?_
          clear hK K
          refine wpAny_done (by kernel_rfl) ?_ _
          go_wp2
          go_end0
          exact ⟨rfl, HFIN.out⟩
        · simp only [Act.put, List.setIfInBounds_toArray, List.set_cons_succ, List.set_cons_zero]
          refine wpAny_ready (rs := [4]) (by kernel_rfl) (by simp) ?_
          refine ready_run (v := .slice oa (ops b.q).length oc) (w' := w8.drew.alloc (.cells #[Value.int .i64 ((s.cnt : Int) + 1)] 2)) (dst := some 76) rfl rfl rfl (run_load rfl rfl L4b) rfl ?_ AllReady.nil
          simp only [Act.put, List.setIfInBounds_toArray, List.set_cons_succ, List.set_cons_zero]
          refine wpAny_ready (rs := [10]) (by kernel_rfl) (by simp) ?_
          refine ready_run (v := .slice (some ⟨G, 0, none⟩) ((ops b.q).length + 1) cp) (w' := w9) (dst := some 82) rfl rfl rfl (run_appL rfl rfl rfl rfl hap) rfl ?_ AllReady.nil
          simp only [Act.put, List.setIfInBounds_toArray, List.set_cons_succ, List.set_cons_zero]
          refine take_op (i := 11) (dst := some 83) (v := .pointer (some ⟨b.q, 0, none⟩)) rfl rfl (by kernel_rfl) (by kernel_rfl) (by kernel_rfl) (fun _ _ _ h => h) rfl (fun _ => by go_simp) rfl ?_
          refine take_op (i := 12) (dst := some 84) (v := .pointer (some ⟨b.q, 256, none⟩)) rfl rfl (by kernel_rfl) (by kernel_rfl) (by kernel_rfl) (fun _ _ _ h => h) rfl (fun _ => by go_simp) rfl ?_
          simp only [Act.put, List.setIfInBounds_toArray, List.set_cons_succ, List.set_cons_zero]
          refine wpAny_ready (rs := [13]) (by kernel_rfl) (by simp) ?_
          refine AllReady.cons (o := { dst := none, op := Op.store 37 (Operand.tmp 84) (Operand.tmp 82), type := 0, pos := "patch.go:129", after := #[{ on := 12, ground := Ground.data }, { on := 10, ground := Ground.data }, { on := 10, ground := Ground.chain }, { on := 0, ground := Ground.phase }, { on := 1, ground := Ground.phase }, { on := 2, ground := Ground.phase }, { on := 3, ground := Ground.phase }, { on := 4, ground := Ground.phase }, { on := 5, ground := Ground.phase }, { on := 6, ground := Ground.phase }, { on := 7, ground := Ground.phase }, { on := 8, ground := Ground.phase }, { on := 9, ground := Ground.phase }, { on := 10, ground := Ground.phase }], guard := none }) rfl (fun K hK => ?_) AllReady.nil
          go_simp
          refine hK _ _ ?_
          clear hK K
          refine wpAny_done (by kernel_rfl) ?_ _
          go_wp2
          go_end0
          exact ⟨rfl, HFIN.out⟩
end
end Go.Proofs.YtadadidccbhopaaGreat
/- What a cache holds of each block; its calls, where it never is full. -/
namespace Go.Proofs.YtadadidccbhopaaGreat
open Go.RowKit
set_option maxRecDepth 100000
/-- Of a block in memory its bytes, and how often it is pinned. -/
def ent (L : List CE) (n : Nat) : Option (List UInt8 × Nat) := (L.find? fun e => decide (e.n = n)).map fun e => (e.d, e.pin)
theorem ent_none {L : List CE} {n : Nat} (h : ∀ x ∈ L, ¬ x.n = n) : ent L n = none := by
  unfold ent
  rw [List.find?_eq_none.2 (by simpa using h)]; rfl
theorem ent_at {A B : List CE} {e : CE} (h : ∀ x ∈ A, ¬ x.n = e.n) : ent (A ++ e :: B) e.n = some (e.d, e.pin) := by
  unfold ent
  rw [List.find?_append, List.find?_eq_none.2 (by simpa using h)]; simp
theorem ent_other {A B : List CE} {e : CE} {m : Nat} (h : ¬ e.n = m) : ent (A ++ e :: B) m = ent (A ++ B) m := by
  unfold ent
  rw [List.find?_append, List.find?_append, List.find?_cons_of_neg (by simpa using h)]
theorem ent_some {L : List CE} {n : Nat} {x : List UInt8 × Nat} (h : ent L n = some x) : ∃ A e B, L = A ++ e :: B ∧ e.n = n ∧ e.d = x.1 ∧ e.pin = x.2 := by
  unfold ent at h
  cases hf : L.find? fun e => decide (e.n = n) with
  | none => rw [hf] at h; cases h
  | some e =>
    rw [hf] at h
    have h1 := List.find?_some hf
    have h2 := List.mem_of_find?_eq_some hf
    obtain ⟨A, B, rfl⟩ := List.append_of_mem h2
    simp only [Option.map_some, Option.some.injEq] at h
    exact ⟨A, e, B, rfl, by simpa using h1, by rw [← h], by rw [← h]⟩
/-- Another cache of the same disk, in which but one block's entry is another. -/
structure CRel (σ σ' : CSt) (n : Nat) (x : Option (List UInt8 × Nat)) : Prop where
  p : σ'.p = σ.p
  most : σ'.most = σ.most
  dp : σ'.dp = σ.dp
  dn : σ'.dn = σ.dn
  en : σ'.en = σ.en
  lf : σ'.lf = σ.lf
  sf : σ'.sf = σ.sf
  ws : σ'.ws = σ.ws
  k0 : σ.K ≤ σ'.K
  k1 : σ'.K ≤ σ.K + 1
  oth : ∀ m, ¬ m = n → ent σ'.L m = ent σ.L m
  at' : ent σ'.L n = x
  len : σ'.L.length ≤ σ'.most
theorem filter_ne_len (a : Nat) : ∀ {l : List Nat}, l.Nodup → l.length ≤ (l.filter fun y => decide (y ≠ a)).length + 1
  | [], _ => by simp
  | x :: l, h => by
    obtain ⟨g1, g2⟩ := List.nodup_cons.1 h
    by_cases ha : x = a
    · subst ha
      rw [List.filter_cons_of_neg (by simp), List.filter_eq_self.2 (fun y hy => by simp; exact fun e => g1 (e ▸ hy))]; simp
    · rw [List.filter_cons_of_pos (by simpa using ha)]
      have := filter_ne_len a g2
      simp only [List.length_cons]; omega
theorem nodup_lt_len : ∀ (dn : Nat) (l : List Nat), l.Nodup → (∀ x ∈ l, x < dn) → l.length ≤ dn
  | 0, l, _, h => by
    cases l with
    | nil => simp
    | cons a r => exact absurd (h a (by simp)) (by omega)
  | dn + 1, l, hd, h => by
    have h1 := filter_ne_len dn hd
    have h2 := nodup_lt_len dn (l.filter fun y => decide (y ≠ dn)) (hd.filter _) (fun x hx => by
      obtain ⟨a, b⟩ := List.mem_filter.1 hx
      have := h x a
      have : x ≠ dn := by simpa using b
      omega)
    omega
theorem room_of {L : List CE} {dn : Nat} (h : ∀ e ∈ L, e.n < dn) (hd : (L.map (·.n)).Nodup) {n : Nat} (hn : n < dn) (hne : ∀ x ∈ L, ¬ x.n = n) : L.length < dn := by
  have h1 : (n :: L.map (·.n)).Nodup := List.nodup_cons.2 ⟨fun hm => by obtain ⟨x, hx, hxn⟩ := List.mem_map.1 hm; exact hne x hx hxn, hd⟩
  have := nodup_lt_len dn _ h1 (fun x hx => by
    rcases List.mem_cons.1 hx with rfl | hx
    · exact hn
    · obtain ⟨y, hy, rfl⟩ := List.mem_map.1 hx
      exact h y hy)
  simp at this
  omega
section
variable {w w' : World} {base : Nat} {σ : CSt}
theorem ask_rel (h : CS w base σ (nums σ.L)) {n q K' : Nat} {P : List CE} {e : CE} {v' : Value} (hn : n < σ.dn) (hlen : σ.L.length ≤ σ.most) (hm : σ.dn ≤ σ.most) (hR : AskR σ n q (P ++ [e]) K') (hen : e.n = n) :
    (e.d, e.pin) = (ent σ.L n).getD (lst σ n, 0) ∧ ∀ d pn, CRel σ { σ with ov := v', L := P ++ [{ e with d := d, pin := pn }], K := K' } n (some (d, pn)) := by
  have hnd := h.nd
  have hl := hR.len hlen
  have hk := hR.k
  generalize hL' : P ++ [e] = L' at hR
  have fin : ∀ d pn, (∀ m, ¬ m = n → ent P m = ent σ.L m) → (∀ x ∈ P, ¬ x.n = n) → CRel σ { σ with ov := v', L := P ++ [{ e with d := d, pin := pn }], K := K' } n (some (d, pn)) := fun d pn ho hno =>
    ⟨rfl, rfl, rfl, rfl, rfl, rfl, rfl, rfl, hk.1, hk.2, fun m hmn => by
      show ent (P ++ [{ e with d := d, pin := pn }]) m = _
      rw [ent_other (e := { e with d := d, pin := pn }) (by show ¬ e.n = m; omega), List.append_nil]; exact ho m hmn, by
      have := ent_at (A := P) (B := []) (e := { e with d := d, pin := pn }) (by show ∀ x ∈ P, ¬ x.n = e.n; rw [hen]; exact hno)
      show ent (P ++ [{ e with d := d, pin := pn }]) n = _
      rw [← hen]; exact this, by
      show (P ++ [{ e with d := d, pin := pn }]).length ≤ σ.most
      simpa using hl⟩
  cases hR with
  | @hit A B e0 hL hn0 hq =>
    have h2 := noTwo_of (by rw [← hL]; exact hnd)
    unfold tch at hL'
    obtain ⟨rfl, h3⟩ := List.append_inj' hL' rfl
    obtain rfl : e = e0 := by simpa using h3
    refine ⟨?_, fun d pn => fin d pn (fun m hmn => ?_) (fun x hx => ?_)⟩
    · rw [hL, ← hen, ent_at h2.1]; rfl
    · rw [hL, ent_other (by omega)]
    · rw [← hen]
      rcases List.mem_append.1 hx with hx | hx
      · exact h2.1 x hx
      · exact h2.2 x hx
  | free hne hl2 =>
    unfold addE at hL'
    obtain ⟨rfl, h3⟩ := List.append_inj' hL' rfl
    obtain rfl : e = ⟨n, q, lst σ n, 0⟩ := by simpa using h3
    exact ⟨by rw [ent_none hne]; rfl, fun d pn => fin d pn (fun m _ => rfl) hne⟩
  | evict hne hl2 hL hA he =>
    have := room_of (fun e he => (h.blk e he).2.2.1) hnd hn hne
    omega
theorem cr_read (h : CS w base σ (nums σ.L)) (n : Nat) (hn : n < σ.dn) (hK : σ.K ≤ 1000000) (hlen : σ.L.length ≤ σ.most) (hm : σ.dn ≤ σ.most) :
    Calls Tryz.prog 90 #[.pointer (some ⟨σ.p, 0, none⟩), .int .i64 (n : Int)] w fun r w' => ∃ v d pn σ', r = .returned (.tuple #[v, .int .i64 0]) ∧ (d, pn) = (ent σ.L n).getD (lst σ n, 0) ∧ Own w' w.heap.size v d ∧ (∀ k, v.ownBlock = some k → ¬ Sk σ' k) ∧ Done base σ σ' w w' ∧ CRel σ σ' n (some (d, pn)) ∧ d.length = 256 := by
  refine (cread_any h n hn hK hlen).mono ?_
  rintro r w1 (⟨v, v', P, e, K', rfl, hO, hS, hD, hR, hen⟩ | ⟨rfl, hF, _⟩)
  · obtain ⟨h1, h2⟩ := ask_rel h (v' := v') hn hlen hm hR hen
    exact ⟨v, e.d, e.pin, _, rfl, h1, hO, hS, hD, h2 e.d e.pin, (hD.cs.blk e (by simp)).2.1⟩
  · have := room_of (fun e he => (h.blk e he).2.2.1) h.nd hn hF.ne
    have := hF.le
    omega
theorem cr_lay (h : CS w base σ (nums σ.L)) (n : Nat) (hn : n < σ.dn) (hK : σ.K ≤ 1000000) (hlen : σ.L.length ≤ σ.most) (hm : σ.dn ≤ σ.most) (data : List UInt8) (b o c : Nat) (hs : Src w (some ⟨b, o, none⟩) data) (hd : data.length = 256) (hbS : ¬ Sk σ b) :
    Calls Tryz.prog 95 #[.pointer (some ⟨σ.p, 0, none⟩), .int .i64 (n : Int), .slice (some ⟨b, o, none⟩) 256 c] w fun r w' => ∃ pn σ' d0, r = .returned (.int .i64 0) ∧ (d0, pn) = (ent σ.L n).getD (lst σ n, 0) ∧ Done base σ σ' w w' ∧ CRel σ σ' n (some (data, pn)) := by
  refine (clay_any h n hn hK hlen data b o c hs hd hbS).mono ?_
  rintro r w1 (⟨v', P, e, K', rfl, hD, hR, hen⟩ | ⟨rfl, hF, _⟩)
  · obtain ⟨h1, h2⟩ := ask_rel h (v' := v') hn hlen hm hR hen
    exact ⟨e.pin, _, e.d, rfl, h1, hD, h2 data e.pin⟩
  · have := room_of (fun e he => (h.blk e he).2.2.1) h.nd hn hF.ne
    have := hF.le
    omega
end
end Go.Proofs.YtadadidccbhopaaGreat
/- Package patch: Patch. -/
namespace Go.Proofs.YtadadidccbhopaaGreat
open Go.RowKit
set_option maxRecDepth 100000
def newCh (id n fr : Nat) (d : List UInt8) (q : Nat) (dv : Value) : Ch := ⟨id, n, fr, d, [], false, q, dv, .slice none 0 0⟩
/-- A block as one that has open changes: it was one, or is a new one. -/
inductive OpRel (s : PSt) (ops : Nat → List Int) (n : Nat) (d : List UInt8) : PSt → (Nat → List Int) → Bk → List Bk → List Bk → Prop
  | old {Y Z : List Bk} {b : Bk} (hB : s.B = Y ++ b :: Z) (hn : b.n = n) : OpRel s ops n d s ops b Y Z
  | new {q : Nat} {tg : Nat → Nat} {A B : List CE} {e : CE} (hno : s.fB n = 0) (hL : s.σ.L = A ++ e :: B) (hen : e.n = n) (hnd : (s.σ.L.map (·.n)).Nodup) :
      OpRel s ops n d { s with B := s.B ++ [newBk n q d], tag := tg, kb := s.kb + 1, fB := setF s.fB n (q + 1), kB := s.kB ++ [(n : Int)], σ := { s.σ with L := A ++ { e with pin := e.pin + 1 } :: B, K := s.σ.K + 1 } } (fun k => if k = q then [] else ops k) (newBk n q d) s.B []
theorem OpRel.eqs {s s2 : PSt} {ops o2 : Nat → List Int} {n : Nat} {d : List UInt8} {b : Bk} {Y Z : List Bk} (h : OpRel s ops n d s2 o2 b Y Z) : s2.p = s.p ∧ s2.C = s.C ∧ s2.cnt = s.cnt ∧ s2.kc = s.kc ∧ s2.kC = s.kC ∧ s2.fC = s.fC ∧ s2.cm = s.cm ∧ s2.B = Y ++ b :: Z ∧ s2.σ.p = s.σ.p ∧ s2.σ.dn = s.σ.dn ∧ s2.σ.most = s.σ.most ∧ s2.σ.K ≤ s.σ.K + 1 ∧ b.n = n ∧ s2.σ.dp = s.σ.dp := by
  cases h with
  | old hB hn => exact ⟨rfl, rfl, rfl, rfl, rfl, rfl, rfl, hB, rfl, rfl, rfl, by omega, hn, rfl⟩
  | new _ _ _ _ => exact ⟨rfl, rfl, rfl, rfl, rfl, rfl, rfl, rfl, rfl, rfl, rfl, by simp, rfl, rfl⟩
section
variable {w w' w0 : World} {base : Nat} {s s' s0 : PSt} {ops ops' : Nat → List Int}
theorem opened_any (h : PRun base s0 w0 s ops w) (n : Nat) (hn : (n : Int) ≤ 1000000) (hcase : (∃ Y b Z, s.B = Y ++ b :: Z ∧ b.n = n ∧ s.fB n = b.q + 1) ∨ (s.fB n = 0 ∧ (n : Int) ∉ s.kB)) (hkb : s.kb ≤ 1000000) (g c : Nat) (d : List UInt8) (hs : Src w (some ⟨g, 0, none⟩) d) (hd : d.length = 256) {A B : List CE} {e : CE} (hL : s.σ.L = A ++ e :: B) (hen : e.n = n) (hK : s.σ.K ≤ 1000000) :
    Calls Tryz.prog 93 #[.pointer (some ⟨s.p, 0, none⟩), .int .i64 (n : Int), .slice (some ⟨g, 0, none⟩) 256 c] w fun r w' => ∃ s2 o2 b Y Z, r = .returned (.pointer (some ⟨b.q, 0, none⟩)) ∧ PRun base s0 w0 s2 o2 w' ∧ OpRel s ops n d s2 o2 b Y Z ∧ Fr (Ak s) w w' ∧ ((o2 b.q).length ≤ (ops b.q).length) ∧ ∀ k, Ak s2 k → Ak s k ∨ w.heap.size ≤ k := by
  rcases hcase with ⟨Y, b, Z, hB, hbn, hf⟩ | ⟨hf, hk⟩
  · refine (opened_old h.pm n hn b.q hf _).mono ?_
    rintro r w' ⟨rfl, rfl⟩
    exact ⟨s, ops, b, Y, Z, rfl, h, .old hB hbn, Fr.refl _ _, Nat.le_refl _, fun _ h => .inl h⟩
  · have h' : PRun base s w s ops w := PRun.start h.pm
    refine (opened_new h' n hn hf hk hkb g c d hs hd hL hen hK).mono ?_
    rintro r w' ⟨q, tg, rfl, hq, hR, hFr⟩
    exact ⟨_, _, newBk n q d, s.B, [], rfl, h.trans hR, .new hf hL hen h.pm.cs.nd, hFr, by simp [newBk], hR.sub⟩
/-- What Patch leaves. -/
def PatchR (s : PSt) (ops : Nat → List Int) (n fr : Nat) (data : List UInt8) (after : List Int) (s' : PSt) (ops' : Nat → List Int) : Prop :=
  ∃ (d d2 : List UInt8) (pn pn3 : Nat) (σ1 σ3 : CSt) (s2 : PSt) (o2 : Nat → List Int) (b : Bk) (Y Z : List Bk) (q : Nat) (dv av ov : Value) (ah : List Int) (tg0 tg : Nat → Nat),
    (d, pn) = (ent s.σ.L n).getD (lst s.σ n, 0) ∧ d.length = 256 ∧ CRel s.σ σ1 n (some (d, pn)) ∧ OpRel { s with σ := σ1, C := s.C ++ [newCh (s.cnt + 1) n fr data q dv], tag := tg0 } ops n d s2 o2 b Y Z ∧
    s' = { s2 with cnt := s.cnt + 1, C := s.C ++ [{ newCh (s.cnt + 1) n fr data q dv with av := av, ah := ah }], B := Y ++ { b with ov := ov, la := laU b.la fr data.length ((s.cnt + 1 : Nat) : Int) } :: Z, kc := s.kc + 1, fC := setF s.fC ((s.cnt + 1 : Nat) : Int) (q + 1), kC := s.kC ++ [((s.cnt + 1 : Nat) : Int)], tag := tg, σ := σ3 } ∧
    ops' = (fun k => if k = b.q then o2 b.q ++ [((s.cnt + 1 : Nat) : Int)] else o2 k) ∧
    EndsOf s.C (fun i => (i ∈ after ∨ ∃ j, j < data.length ∧ i = b.la.getD (fr + j) 0) ∧ s.fC i ≠ 0) ah ∧ ah.length ≤ 2000 ∧
    CRel s2.σ σ3 n (some (layB d fr data, pn3)) ∧ (d2, pn3) = (ent s2.σ.L n).getD (lst s2.σ n, 0)
theorem Own.row {w : World} {base : Nat} {v : Value} {l : List UInt8} (h : Own w base v l) (hl : l.length = 256) : ∃ g cap t r, v = .slice (some ⟨g, 0, none⟩) 256 cap ∧ base ≤ g ∧ w.heap[g]? = some (.cells (bvs l ++ r).toArray t (0, 0)) ∧ 256 ≤ cap ∧ (cap : Int) ≤ 9223372036854775807 := by
  obtain ⟨h1, h2⟩ := h
  rcases h2 with ⟨rfl, h3⟩ | ⟨g, cap, cur, rfl, hg, hh, hn, hm, hs, hx⟩
  · omega
  · rw [Nat.mul_one] at hx
    refine ⟨g, cap, 5, cur.toList.drop l.length, by rw [hl], hg, ?_, by omega, by unfold maxLen at hm; omega⟩
    rw [← hx, List.take_append_drop]; exact hh
set_option maxHeartbeats 4000000 in
theorem patch_mem (h : PM w base s ops) (n fr : Nat) (hn : n < s.σ.dn) (hdn : s.σ.dn ≤ 4096) (data : List UInt8) (gd0 od0 dc0 : Nat) (hds : Src w (some ⟨gd0, od0, none⟩) data) (hd1 : 1 ≤ data.length) (hf : fr + data.length ≤ 256) (asp : Option Addr) (ac : Nat) (after : List Int) (has : SrcI w asp after) (haf : 1 ≤ after.length → ∀ b o, asp = some ⟨b, o, none⟩ → ¬ Ak s b ∧ b < w.heap.size) (hdf : ¬ Ak s gd0) (hal : after.length ≤ 1000) (hkn : ∀ i ∈ after, 1 ≤ i ∧ i ≤ (s.cnt : Int))
    (hK : s.σ.K ≤ 900000) (hlen : s.σ.L.length ≤ s.σ.most) (hm : s.σ.dn ≤ s.σ.most) (hcase : (∃ Y b Z, s.B = Y ++ b :: Z ∧ b.n = n ∧ s.fB n = b.q + 1) ∨ (s.fB n = 0 ∧ (n : Int) ∉ s.kB)) (hkb : s.kb ≤ 900000) (hkc : s.kc ≤ 900000) (hcnt : s.cnt ≤ 900000) (hno : ((s.cnt + 1 : Nat) : Int) ∉ s.kC) (hfc : (∀ z ∈ s.C, z.ah.length ≤ 2000 ∧ ∀ i ∈ z.ah, -9223372036854775808 ≤ i ∧ i ≤ 9223372036854775807) ∧ ∀ i, s.fC i ≠ 0 → ∃ z ∈ s.C, (z.id : Int) = i ∧ s.fC i = z.q + 1) (hla : ∀ b ∈ s.B, ∀ i ∈ b.la, -9223372036854775808 ≤ i ∧ i ≤ 9223372036854775807) (hop : ∀ b ∈ s.B, (ops b.q).length ≤ 1000000) :
    Calls Tryz.prog 28 #[.pointer (some ⟨s.p, 0, none⟩), .int .i64 (n : Int), .int .i64 (fr : Int), .slice (some ⟨gd0, od0, none⟩) data.length dc0, .slice asp after.length ac] w fun r w' => r = .returned (.tuple #[.int .i64 ((s.cnt + 1 : Nat) : Int), .int .i64 0]) ∧ ∃ s' ops', PRun base s w s' ops' w' ∧ PatchR s ops n fr data after s' ops' := by
  have RC := preach_any h (n : Int)
  rw [if_neg (by omega)] at RC
  have egu : ∀ args w, (callFunc 89 args).run Tryz.prog w = .ok (.enter 89 args) w := enters_of Tryz.func89 (by kernel_rfl) rfl
  have CF := containsFunc_m 89 (.pointer (some ⟨s.p, 0, none⟩)) egu (fun x => decide (x < 1 ∨ (s.cnt : Int) < x)) asp ac after w has (by omega) (fun x hx m => (unknown_any (h.up (belowN (Below.refl _ _) m)) x).mono fun e w' hh => ⟨hh.1, m, hh.2⟩)
  rw [show after.any (fun x => decide (x < 1 ∨ (s.cnt : Int) < x)) = false by
    rw [List.any_eq_false]
    intro x hx
    have := hkn x hx
    simp; omega] at CF
  have HH : Hid (PM w base s ops) := h
  have HDS : Hid (Src w (some ⟨gd0, od0, none⟩) data ∧ ¬ Ak s gd0 ∧ gd0 < w.heap.size) := ⟨hds, hdf, by obtain ⟨b', o', e1, hlt, _⟩ := hds.at' (by omega); cases e1; exact hlt⟩
  have HAS : Hid (SrcI w asp after ∧ (1 ≤ after.length → ∀ b o, asp = some ⟨b, o, none⟩ → ¬ Ak s b ∧ b < w.heap.size)) := ⟨has, haf⟩
  obtain ⟨m, hmd⟩ : ∃ m, m = data.length := ⟨_, rfl⟩
  have HMD : Hid (m = data.length) := hmd
  rw [← hmd] at hd1 hf ⊢
  have hf' : (fr : Int) ≤ 256 - (m : Int) := by omega
  have hm0 : ¬ (m : Int) = 0 := by omega
  have hm0b : ((m : Int) == 0) = false := by simpa using hm0
  have hm256 : (m : Int) ≤ 256 := by omega
  have HKN : Hid (∀ i ∈ after, 1 ≤ i ∧ i ≤ (s.cnt : Int)) := hkn
  have HCASE : Hid ((∃ Y b Z, s.B = Y ++ b :: Z ∧ b.n = n ∧ s.fB n = b.q + 1) ∨ (s.fB n = 0 ∧ (n : Int) ∉ s.kB)) := hcase
  have HNO : Hid (((s.cnt + 1 : Nat) : Int) ∉ s.kC) := hno
  have HFC : Hid ((∀ z ∈ s.C, z.ah.length ≤ 2000 ∧ ∀ i ∈ z.ah, -9223372036854775808 ≤ i ∧ i ≤ 9223372036854775807) ∧ ∀ i, s.fC i ≠ 0 → ∃ z ∈ s.C, (z.id : Int) = i ∧ s.fC i = z.q + 1) := hfc
  have HLA : Hid ((∀ b ∈ s.B, ∀ i ∈ b.la, -9223372036854775808 ≤ i ∧ i ≤ 9223372036854775807) ∧ ∀ b ∈ s.B, (ops b.q).length ≤ 1000000) := ⟨hla, hop⟩
  clear h hds has hmd hkn hcase hno hfc hla hop haf hdf egu
  go_enter Tryz.func28, Tryz.ntmps28
  go_wp2_with (first | (go_at_call 82; refine RC.mono ?_; rintro e w1 ⟨rfl, hw1⟩; obtain rfl : w = w1 := hw1.symm) | (go_at_call 88; refine Hid.out ?_))
  change Calls _ _ _ _ _
  refine CF.mono ?_
  clear CF RC
  rintro e w2 ⟨⟨q0, rfl⟩, rfl⟩
  have hb2 : Below w.heap.size w (w.drewN q0) := belowN (Below.refl _ _) q0
  have P2 := HH.out.up hb2
  have c21 := P2.c1
  have RD := cr_read P2.cs n hn (by omega) hlen hm
  have HP2 : Hid (PM (w.drewN q0) base s ops) := P2
  have HZ2 : Hid ((w.drewN q0).heap.size = w.heap.size ∧ Below w.heap.size w (w.drewN q0)) := ⟨rfl, hb2⟩
  clear P2 hb2
  generalize w.drewN q0 = w2 at *
  go_wp2_with (first | (go_at_call 90; refine Hid.out ?_))
  change Calls _ _ _ _ _
  refine RD.mono ?_
  clear RD c21
  rintro r w3 ⟨v3, d, pn, σ1, rfl, hdpn, hO3, hS3, hD3, hC3, hd256⟩
  obtain ⟨g, cap, t3, r3, rfl, hg2, hgrow, hcap, hcapm⟩ := hO3.row hd256
  have R3 : PRun base s w { s with σ := σ1 } ops w3 := ((PRun.start HH.out).up HZ2.out.2).cache hD3 hC3.p hC3.dp
  have hgA : ∀ k, Ak { s with σ := σ1 } k → k ≠ g := fun k hk e => by
    subst e
    rcases hk with hk | hk
    · have := (HP2.out.fk k hk).2.1; omega
    · exact hS3 k rfl hk
  have HR3 : Hid (PRun base s w { s with σ := σ1 } ops w3) := R3
  have HG : Hid (w3.heap[g]? = some (.cells (bvs d ++ r3).toArray t3 (0, 0)) ∧ (∀ k, Ak { s with σ := σ1 } k → k ≠ g) ∧ w.heap.size ≤ g ∧ d.length = 256) := ⟨hgrow, hgA, by rw [← HZ2.out.1]; exact hg2, hd256⟩
  have HC3 : Hid ((d, pn) = (ent s.σ.L n).getD (lst s.σ n, 0) ∧ CRel s.σ σ1 n (some (d, pn))) := ⟨hdpn, hC3⟩
  have hK1 : σ1.K ≤ 900001 := by have := hC3.k1; omega
  have hdsA : ∀ b, ¬ Ak s b → b < w.heap.size → w3.heap[b]? = w.heap[b]? := fun b hb hlt => R3.fr.blk b hlt hb
  have hds3 : Src w3 (some ⟨gd0, od0, none⟩) data := by
    obtain ⟨b', o', e1, hlt, hc⟩ := HDS.out.1.at' (by rw [← HMD.out]; omega)
    cases e1
    exact .inr ⟨gd0, od0, rfl, by have := R3.fr.size; omega, fun j hj => (World.cell?_of_block (w := w) (a := ⟨gd0, od0 + j, none⟩) (hdsA gd0 HDS.out.2.1 hlt)).trans (hc j hj)⟩
  have has3 : SrcI w3 asp after := by
    rcases HAS.out.1 with h0 | ⟨b', o', e1, hlt, hc⟩
    · exact .inl h0
    · exact .inr ⟨b', o', e1, by have := R3.fr.size; omega, fun j hj => (World.cell?_of_block (w := w) (a := ⟨b', o' + j, none⟩) (hdsA b' (HAS.out.2 (by omega) b' o' e1).1 hlt)).trans (hc j hj)⟩
  have HAS3 : Hid (SrcI w3 asp after) := has3
  have CLB := cloneB_any gd0 od0 dc0 data w3 hds3 (by rw [← HMD.out]; omega)
  rw [← HMD.out] at CLB
  clear R3 hgA hgrow hO3 hS3 hD3 hC3 hdpn hd256 hdsA hds3 has3 hg2
  go_wp2_with (first | (go_at_call 91; refine Hid.out ?_))
  change Calls _ _ _ _ _
  refine CLB.mono ?_
  clear CLB
  rintro e w4 ⟨dv, rfl, hO4, hb4⟩
  obtain ⟨da, dc, rfl, hdsrc, hdcl, hdcm, _⟩ := hO4.form
  rw [← HMD.out] at hO4 ⊢
  obtain ⟨gd, hgd⟩ : ∃ gd, da = some ⟨gd, 0, none⟩ := by
    rcases hO4.2 with ⟨h2, _⟩ | ⟨g', cap', cur, hv, _⟩
    · cases h2; rw [HMD.out] at hd1; rcases hdsrc with h0 | ⟨_, _, h0, _⟩
      · rw [h0] at hd1; simp at hd1
      · cases h0
    · cases hv; exact ⟨g', rfl⟩
  subst hgd
  have hb5 : Below w4.heap.size w4 (w4.alloc (.cells (chL (newCh (s.cnt + 1) n fr data w4.heap.size (.slice (some ⟨gd, 0, none⟩) m dc))).toArray 146)) := (Below.refl _ _).alloc (Nat.le_refl _) _
  have hb35 : Below w3.heap.size w3 (w4.alloc (.cells (chL (newCh (s.cnt + 1) n fr data w4.heap.size (.slice (some ⟨gd, 0, none⟩) m dc))).toArray 146)) := hb4.trans (hb5.mono hb4.size)
  obtain ⟨tg0, hR5⟩ := HR3.out.newC (c := newCh (s.cnt + 1) n fr data w4.heap.size (.slice (some ⟨gd, 0, none⟩) m dc)) hb35 ⟨heap_alloc_new _ _, row_mono (row_same hO4 fun j hj => hb5.block j (hO4.lt j hj).2) HR3.out.pm.bs, OwnL.nil _ _⟩ hb4.size (fun j hj => ⟨(hO4.lt j hj).1, by have := (hO4.lt j hj).2; show j ≠ w4.heap.size; omega⟩) rfl
  have HR5 : Hid (PRun base s w { s with σ := σ1, C := s.C ++ [newCh (s.cnt + 1) n fr data w4.heap.size (.slice (some ⟨gd, 0, none⟩) m dc)], tag := tg0 } ops (w4.alloc (.cells (chL (newCh (s.cnt + 1) n fr data w4.heap.size (.slice (some ⟨gd, 0, none⟩) m dc))).toArray 146))) := hR5
  have HB35 : Hid (Below w3.heap.size w3 (w4.alloc (.cells (chL (newCh (s.cnt + 1) n fr data w4.heap.size (.slice (some ⟨gd, 0, none⟩) m dc))).toArray 146))) := hb35
  have HW4 : Hid (w.heap.size ≤ w4.heap.size ∧ g < w3.heap.size ∧ w3.heap.size ≤ w4.heap.size ∧ w3.heap.size ≤ gd ∧ gd < w4.heap.size) := ⟨by have := HR3.out.fr.size; have := hb4.size; omega, (Array.getElem?_eq_some_iff.1 HG.out.1).1, hb4.size, (hO4.lt gd rfl).1, (hO4.lt gd rfl).2⟩
  clear hR5 hb35 hb5 hb4 hO4 hdsrc hdcl hdcm
  go_upto_region 12 with fail
  obtain ⟨w5, hw5⟩ : ∃ w5, w5 = w4.alloc (.cells (chL (newCh (s.cnt + 1) n fr data w4.heap.size (.slice (some ⟨gd, 0, none⟩) m dc))).toArray 146) := ⟨_, rfl⟩
  have hwe : w4.alloc (.cells #[Value.int .i64 (n : Int), Value.int .i64 (fr : Int), .slice (some ⟨gd, 0, none⟩) m dc, .slice none 0 0, .bool false] 146) = w5 := by rw [hw5]; rfl
  rw [hwe]
  rw [← hw5] at HR5 HB35
  obtain ⟨cq, hcq⟩ : ∃ cq, cq = w4.heap.size := ⟨_, rfl⟩
  rw [← hcq] at HR5 HW4 ⊢
  obtain ⟨c0, hc0⟩ : ∃ c0, c0 = newCh (s.cnt + 1) n fr data cq (.slice (some ⟨gd, 0, none⟩) m dc) := ⟨_, rfl⟩
  rw [← hc0] at HR5
  have hc0q : c0.q = cq := by rw [hc0]; rfl
  have HC0 : Hid (c0 = newCh (s.cnt + 1) n fr data cq (.slice (some ⟨gd, 0, none⟩) m dc)) := hc0
  obtain ⟨s1, hs1⟩ : ∃ s1, s1 = { s with σ := σ1, C := s.C ++ [c0], tag := tg0 } := ⟨_, rfl⟩
  have HS1 : Hid (s1 = { s with σ := σ1, C := s.C ++ [c0], tag := tg0 }) := hs1
  rw [← hs1] at HR5
  have hp1 : s1.p = s.p := by rw [hs1]
  have hg5 : w5.heap[g]? = some (.cells (bvs d ++ r3).toArray t3 (0, 0)) := (HB35.out.block g HW4.out.2.1).trans HG.out.1
  have hsrc5 : Src w5 (some ⟨g, 0, none⟩) d := .inr ⟨g, 0, rfl, (Array.getElem?_eq_some_iff.1 hg5).1, fun j hj => by
    rw [Nat.zero_add, cell_of_row w5 g j _ _ _ hg5, List.getElem?_toArray, List.getElem?_append_left (by rw [bvs_length]; exact hj)]
    simp [bvs, hj]⟩
  obtain ⟨A1, e1, B1, hL1, hen1, _, _⟩ := ent_some HC3.out.2.at'
  have OPN := opened_any HR5.out n (by omega) (by rw [hs1]; exact HCASE.out) (by rw [hs1]; show s.kb ≤ _; omega) g cap d hsrc5 HG.out.2.2.2 (by rw [hs1]; exact hL1) hen1 (by rw [hs1]; show σ1.K ≤ _; omega)
  rw [hp1] at OPN
  have hgA1 : ∀ k, Ak s1 k → k ≠ g := fun k hk e => by
    subst e
    rw [hs1] at hk
    rcases hk with (hk | hk | hk | ⟨x, hx, hk⟩ | hk) | hk
    · exact HG.out.2.1 k (.inl (.inl hk)) rfl
    · exact HG.out.2.1 k (.inl (.inr (.inl hk))) rfl
    · exact HG.out.2.1 k (.inl (.inr (.inr (.inl hk)))) rfl
    · rcases List.mem_append.1 hx with hx | hx
      · exact HG.out.2.1 k (.inl (.inr (.inr (.inr (.inl ⟨x, hx, hk⟩))))) rfl
      · rw [List.mem_singleton.1 hx, hc0] at hk
        have := HW4.out
        rcases hk with hk | hk | hk
        · have hk' : k = cq := hk; omega
        · have hk' : gd = k := by simpa [newCh, Value.ownBlock] using hk
          omega
        · cases hk
    · exact HG.out.2.1 k (.inl (.inr (.inr (.inr (.inr hk))))) rfl
    · exact HG.out.2.1 k (.inr hk) rfl
  have HG5 : Hid (w5.heap[g]? = some (.cells (bvs d ++ r3).toArray t3 (0, 0)) ∧ ∀ k, Ak s1 k → k ≠ g) := ⟨hg5, hgA1⟩
  have HAS5 : Hid (SrcI w5 asp after) := HAS3.out.below HB35.out (Nat.le_refl _)
  clear hwe hw5 hc0 hs1 hg5 hsrc5 hgA1 hL1 hen1 HR3 HAS3 hcq
  go_wp2_with (first | (go_at_call 93; refine Hid.out ?_))
  change Calls _ _ _ _ _
  refine OPN.mono ?_
  clear OPN
  rintro r w6 ⟨s2, o2, b, Y, Z, rfl, hR6, hOp, hFr6, hol, hsub6⟩
  obtain ⟨e1, e2, e3, e4, e5, e6, e7, e8, e9, e10, e11, e12, e13, e14⟩ := hOp.eqs
  have hg6 : w6.heap[g]? = some (.cells (bvs d ++ r3).toArray t3 (0, 0)) := (hFr6.blk g (Array.getElem?_eq_some_iff.1 HG5.out.1).1 (fun hA => HG5.out.2 g hA rfl)).trans HG5.out.1
  have hgA6 : ∀ k, Ak s2 k → k ≠ g := fun k hk e => by
    subst e
    rcases hsub6 k hk with h1 | h1
    · exact HG5.out.2 k h1 rfl
    · have := (Array.getElem?_eq_some_iff.1 HG5.out.1).1; omega
  have hAsub : ∀ b', ¬ Ak s b' → b' < w.heap.size → ¬ Ak s2 b' := fun b' h1 h2 hA => by
    rcases hR6.sub b' hA with h3 | h3
    · exact h1 h3
    · omega
  have has6 : SrcI w6 asp after := by
    rcases HAS.out.1 with h0 | ⟨b', o', e', hlt, hc⟩
    · exact .inl h0
    · exact .inr ⟨b', o', e', by have := hR6.fr.size; omega, fun j hj => (World.cell?_of_block (w := w) (a := ⟨b', o' + j, none⟩) (hR6.fr.blk b' hlt (HAS.out.2 (by omega) b' o' e').1)).trans (hc j hj)⟩
  have hs1C : s1.C = s.C ++ [c0] := by rw [HS1.out]
  have hs1c : s1.cnt = s.cnt ∧ s1.kc = s.kc ∧ s1.kC = s.kC ∧ s1.fC = s.fC ∧ s1.B = s.B := by rw [HS1.out]; exact ⟨rfl, rfl, rfl, rfl, rfl⟩
  have hc0f : c0.av = .slice none 0 0 ∧ c0.fr = fr ∧ c0.d = data := by rw [HC0.out]; exact ⟨rfl, rfl, rfl⟩
  have hbla : ∀ i ∈ b.la, -9223372036854775808 ≤ i ∧ i ≤ 9223372036854775807 := by
    cases hOp with
    | old hB hn' => exact HLA.out.1 b (by rw [← hs1c.2.2.2.2, hB]; simp)
    | new _ _ _ _ =>
      intro i hi
      have : i = 0 := List.eq_of_mem_replicate hi
      omega
  have hbol : (o2 b.q).length ≤ 1000000 := by
    cases hOp with
    | old hB hn' => exact HLA.out.2 b (by rw [← hs1c.2.2.2.2, hB]; simp)
    | new _ _ _ _ =>
      refine Nat.le_trans (Nat.le_of_eq ?_) (Nat.zero_le 1000000)
      exact congrArg List.length (if_pos rfl)
  have ADD := add_any (PRun.start hR6.pm) (X := s.C) (c := c0) (by rw [e2, hs1C]) e8 hc0f.1 (by unfold fits; rw [hc0f.2.1, hc0f.2.2, ← HMD.out]; omega) (by rw [hc0f.2.2, ← HMD.out]; omega) (by rw [e3, hs1c.1]; omega) (by rw [e4, hs1c.2.1]; omega) (by rw [e3, e5, hs1c.1, hs1c.2.2.1]; exact HNO.out) ⟨fun z hz => by
      rw [e2, hs1C] at hz
      rcases List.mem_append.1 hz with hz | hz
      · exact HFC.out.1 z hz
      · rw [List.mem_singleton.1 hz, HC0.out]; exact ⟨Nat.zero_le _, fun i hi => by cases hi⟩, fun i hi => by
      rw [e6, hs1c.2.2.2.1] at hi ⊢
      exact HFC.out.2 i hi⟩ asp ac after has6 (fun hal1 b' o' e' hbp => by
      have h1 := HAS.out.2 hal1 b' o' e'
      exact hAsub b' h1.1 h1.2 (.inl (.inl hbp))) hal (fun i hi => by have := HKN.out i hi; omega) hbla hbol
  have harg : (#[Value.pointer (some ⟨s2.p, 0, none⟩), .pointer (some ⟨c0.q, 0, none⟩), .pointer (some ⟨b.q, 0, none⟩), .slice asp after.length ac] : Array Value) = #[.pointer (some ⟨s.p, 0, none⟩), .pointer (some ⟨cq, 0, none⟩), .pointer (some ⟨b.q, 0, none⟩), .slice asp after.length ac] := by rw [e1, hp1, hc0q]
  rw [harg] at ADD
  have HE2 : Hid (s2.cnt = s.cnt ∧ s2.kc = s.kc ∧ s2.kC = s.kC ∧ s2.fC = s.fC) := ⟨e3.trans hs1c.1, e4.trans hs1c.2.1, e5.trans hs1c.2.2.1, e6.trans hs1c.2.2.2.1⟩
  clear harg
  have HR6 : Hid (PRun base s w s2 o2 w6) := hR6
  have HOp : Hid (OpRel s1 ops n d s2 o2 b Y Z) := hOp
  have HE : Hid (s2.p = s.p ∧ s2.σ.p = σ1.p ∧ s2.σ.dn = s.σ.dn ∧ s2.σ.most = s.σ.most ∧ s2.σ.K ≤ σ1.K + 1 ∧ s2.σ.L.length ≤ s2.σ.most) := by
    have hx : s1.σ = σ1 := by rw [HS1.out]
    rw [hx] at e9 e10 e11 e12
    refine ⟨e1.trans hp1, e9, e10.trans HC3.out.2.dn, e11.trans HC3.out.2.most, e12, ?_⟩
    have hl := HC3.out.2.len
    cases hOp with
    | old _ _ => rw [hx]; exact hl
    | new _ hL _ _ =>
      rw [hx] at hL
      show (_ ++ _ :: _ : List CE).length ≤ s1.σ.most
      rw [hx]
      rw [hL] at hl
      simpa using hl
  have HG6 : Hid (w6.heap[g]? = some (.cells (bvs d ++ r3).toArray t3 (0, 0)) ∧ ∀ k, Ak s2 k → k ≠ g) := ⟨hg6, hgA6⟩
  clear hR6 hOp hFr6 hol hsub6 e1 e2 e3 e4 e5 e6 e7 e8 e9 e10 e11 e12 e13 e14 hg6 hgA6 hAsub has6 hs1C hs1c hbla HR5 HG5 HAS5 HB35
  go_wp2_with (first | (go_at_call 92; refine Hid.out ?_))
  change Calls _ _ _ _ _
  refine ADD.mono ?_
  clear ADD
  rintro r w7 ⟨rfl, tg, av, ov, ah, hR7, hah, hahl⟩
  obtain ⟨s7, hs7⟩ : ∃ s7, s7 = { s2 with cnt := s.cnt + 1, C := s.C ++ [{ c0 with av := av, ah := ah }], B := Y ++ { b with ov := ov, la := laU b.la fr data.length ((s.cnt + 1 : Nat) : Int) } :: Z, kc := s.kc + 1, fC := setF s.fC ((s.cnt + 1 : Nat) : Int) (cq + 1), kC := s.kC ++ [((s.cnt + 1 : Nat) : Int)], tag := tg } := ⟨_, rfl⟩
  have hs7b : s7 = { s2 with cnt := s2.cnt + 1, C := s.C ++ [{ c0 with av := av, ah := ah }], B := Y ++ { b with ov := ov, la := laU b.la c0.fr c0.d.length ((s2.cnt + 1 : Nat) : Int) } :: Z, kc := s2.kc + 1, fC := setF s2.fC ((s2.cnt + 1 : Nat) : Int) (c0.q + 1), kC := s2.kC ++ [((s2.cnt + 1 : Nat) : Int)], tag := tg } := by
    rw [hs7, HE2.out.1, HE2.out.2.1, HE2.out.2.2.1, HE2.out.2.2.2, hc0q, hc0f.2.1, hc0f.2.2]
  rw [← hs7b, HE2.out.1] at hR7
  rw [hc0f.2.2, hc0f.2.1, HE2.out.2.2.2] at hah
  clear hs7b
  have hg7l : g < w6.heap.size := (Array.getElem?_eq_some_iff.1 HG6.out.1).1
  have hg7 : w7.heap[g]? = some (.cells (bvs d ++ r3).toArray t3 (0, 0)) := (hR7.fr.blk g hg7l (fun hA => HG6.out.2 g hA rfl)).trans HG6.out.1
  have hgA7 : ¬ Ak s7 g := fun hA => by
    rcases hR7.sub g hA with h1 | h1
    · exact HG6.out.2 g h1 rfl
    · omega
  have hch := hR7.pm.ch { c0 with av := av, ah := ah } (by rw [hs7]; simp)
  have d1 := hch.c1
  have d2 := hch.c2
  have hdat := hch.dat
  dsimp only at d1 d2 hdat
  have hc0d : c0.dv = .slice (some ⟨gd, 0, none⟩) m dc := by rw [HC0.out]; rfl
  rw [hc0q, hc0f.2.1] at d1
  rw [hc0q, hc0d, HMD.out] at d2
  have hdsrc7 : Src w7 (some ⟨gd, 0, none⟩) data := by
    obtain ⟨ao', cp', he', hs', _⟩ := hdat.form
    rw [hc0d, hc0f.2.2, HMD.out] at he'
    rw [hc0f.2.2] at hs'
    cases he'
    exact hs'
  have LY := lay_any cq g gd fr cap dc t3 d data r3 w7 d1 d2 hdsrc7 (by rw [← HMD.out]; omega) (by rw [← HMD.out]; omega) hg7 HG.out.2.2.2 hcap
  have HR7 : Hid (PRun base s w s7 (fun q => if q = b.q then o2 b.q ++ [((s.cnt + 1 : Nat) : Int)] else o2 q) w7) := HR6.out.trans hR7
  have HS7 : Hid (s7 = { s2 with cnt := s.cnt + 1, C := s.C ++ [{ c0 with av := av, ah := ah }], B := Y ++ { b with ov := ov, la := laU b.la fr data.length ((s.cnt + 1 : Nat) : Int) } :: Z, kc := s.kc + 1, fC := setF s.fC ((s.cnt + 1 : Nat) : Int) (cq + 1), kC := s.kC ++ [((s.cnt + 1 : Nat) : Int)], tag := tg }) := hs7
  have HAH : Hid (EndsOf s.C (fun i => (i ∈ after ∨ ∃ j, j < data.length ∧ i = b.la.getD (fr + j) 0) ∧ s.fC i ≠ 0) ah ∧ ah.length ≤ 2000) := ⟨hah, hahl⟩
  have HGA : Hid (¬ Ak s7 g) := hgA7
  clear hR7 hs7 hg7l hg7 hgA7 hch d1 d2 hdat hc0d hdsrc7 hah hahl HR6 HG6
  go_wp2_with (first | (go_at_call 94; refine Hid.out ?_))
  change Calls _ _ _ _ _
  refine LY.mono ?_
  clear LY
  rintro r w8 ⟨rfl, hg8, hf8, hb8⟩
  have hR8 := HR7.out.other hf8 (fun k hk => by subst hk; exact ⟨HGA.out, HG.out.2.2.1⟩) (hb8.mono (by have := HH.out.bs; have := HG.out.2.2.1; omega))
  have hsig : s7.σ = s2.σ ∧ s7.p = s2.p := by rw [HS7.out]; exact ⟨rfl, rfl⟩
  have hK2 : s2.σ.K ≤ 900002 := by have := HE.out.2.2.2.2.1; omega
  have hl256 : (layB d fr data).length = 256 := by rw [layB_length (by rw [HG.out.2.2.2, ← HMD.out]; omega)]; exact HG.out.2.2.2
  have hcs8 := hR8.pm.cs
  rw [hsig.1] at hcs8
  have LAY := cr_lay hcs8 n (by rw [HE.out.2.2.1]; exact hn) (by omega) HE.out.2.2.2.2.2 (by rw [HE.out.2.2.1, HE.out.2.2.2.1]; exact hm) (layB d fr data) g 0 cap (.inr ⟨g, 0, rfl, (Array.getElem?_eq_some_iff.1 hg8).1, fun j hj => by
    rw [Nat.zero_add, cell_of_row w8 g j _ _ _ hg8, List.getElem?_toArray, List.getElem?_append_left (by rw [bvs_length]; exact hj)]
    simp [bvs, hj]⟩) hl256 (fun hS => HGA.out (.inr (by rw [hsig.1]; exact hS)))
  have c81 := hR8.pm.c1
  rw [hsig.1, hsig.2, HE.out.1] at c81
  have HR8 : Hid (PRun base s w s7 (fun q => if q = b.q then o2 b.q ++ [((s.cnt + 1 : Nat) : Int)] else o2 q) w8) := hR8
  have HSG : Hid (s7.σ = s2.σ ∧ s7.p = s2.p) := hsig
  clear hR8 hsig hcs8 hg8 hf8 hb8 HR7 hl256
  go_wp2_with (first | (go_at_call 95; refine Hid.out ?_))
  change Calls _ _ _ _ _
  refine LAY.mono ?_
  clear LAY c81
  rintro r w9 ⟨pn3, σ3, d2, rfl, hdp3, hD9, hC9⟩
  have hR9 : PRun base s w { s7 with σ := σ3 } (fun q => if q = b.q then o2 b.q ++ [((s.cnt + 1 : Nat) : Int)] else o2 q) w9 := HR8.out.cache (by rw [HSG.out.1]; exact hD9) (by rw [HSG.out.1]; exact hC9.p) (by rw [HSG.out.1]; exact hC9.dp)
  have c92 := hR9.pm.c2
  dsimp only at c92
  rw [HSG.out.2, HE.out.1, show s7.cnt = s.cnt + 1 by rw [HS7.out]] at c92
  have HR9 : Hid (PRun base s w { s7 with σ := σ3 } (fun q => if q = b.q then o2 b.q ++ [((s.cnt + 1 : Nat) : Int)] else o2 q) w9) := hR9
  have HC9 : Hid ((d2, pn3) = (ent s2.σ.L n).getD (lst s2.σ n, 0) ∧ CRel s2.σ σ3 n (some (layB d fr data, pn3))) := ⟨hdp3, hC9⟩
  clear hR9 hD9 hC9 hdp3
  go_wp2
  go_ret2
  refine ⟨rfl, _, _, HR9.out, d, d2, pn, pn3, σ1, σ3, s2, o2, b, Y, Z, cq, .slice (some ⟨gd, 0, none⟩) m dc, av, ov, ah, tg0, tg, HC3.out.1, HG.out.2.2.2, HC3.out.2, ?_, ?_, rfl, HAH.out.1, HAH.out.2, HC9.out.2, HC9.out.1⟩
  · have := HOp.out
    rw [HS1.out, HC0.out] at this
    exact this
  · rw [HS7.out, HC0.out]
end
end Go.Proofs.YtadadidccbhopaaGreat
/- Package patch: Write. -/
namespace Go.Proofs.YtadadidccbhopaaGreat
open Go.RowKit
set_option maxRecDepth 100000
theorem filter_sub {s l : List Int} (h : s.Sublist l) (hd : l.Nodup) : (l.filter fun x => decide (x ∈ s)) = s := by
  induction h with
  | slnil => rfl
  | @cons s l a h ih =>
    obtain ⟨h1, h2⟩ := List.nodup_cons.1 hd
    rw [List.filter_cons_of_neg (by simpa using fun hm => h1 (h.subset hm)), ih h2]
  | @cons_cons s l a h ih =>
    obtain ⟨h1, h2⟩ := List.nodup_cons.1 hd
    rw [List.filter_cons_of_pos (by simp)]
    congr 1
    rw [show (l.filter fun x => decide (x ∈ a :: s)) = l.filter fun x => decide (x ∈ s) from List.filter_congr fun x hx => by
      have : x ≠ a := fun e => h1 (e ▸ hx)
      simp [this], ih h2]
/-- Of some changes those whose numbers are on a list. -/
def pickC (L : List Ch) (al : List Int) : List Ch := L.filter fun c => decide ((c.id : Int) ∈ al)
theorem pick_ids {L : List Ch} {al : List Int} (hs : al.Sublist (cids L)) (ha : Asc L) : cids (pickC L al) = al := by
  have h1 : (cids L).Nodup := List.Pairwise.imp (fun h => by omega) ha.cids
  have h2 := filter_sub hs h1
  unfold cids at h2
  rw [List.filter_map] at h2
  exact h2
def setW1 (C : List Ch) (i : Int) : List Ch := C.map fun c => if (c.id : Int) = i then { c with wr := true } else c
theorem setW1_mid {X Y : List Ch} {c : Ch} (h : Asc (X ++ c :: Y)) : setW1 (X ++ c :: Y) (c.id : Int) = X ++ { c with wr := true } :: Y := by
  obtain ⟨h1, h2, h3⟩ := List.pairwise_append.1 h
  obtain ⟨h4, h5⟩ := List.pairwise_cons.1 h2
  unfold setW1
  rw [List.map_append, List.map_cons, if_pos rfl]
  congr 1
  · refine (List.map_congr_left fun x hx => ?_).trans (List.map_id' X)
    have := h3 x hx c (by simp)
    rw [if_neg (by omega)]
  · congr 1
    refine (List.map_congr_left fun x hx => ?_).trans (List.map_id' Y)
    have := h4 x hx
    rw [if_neg (by omega)]
theorem Asc.setW1 {C : List Ch} (h : Asc C) (i : Int) : Asc (setW1 C i) := by
  unfold Asc Go.Proofs.YtadadidccbhopaaGreat.setW1
  rw [List.pairwise_map]
  refine List.Pairwise.imp (fun {a b} hab => ?_) h
  split <;> split <;> exact hab
theorem mem_setW1 {C : List Ch} {i : Int} {c : Ch} (hc : c ∈ C) : ∃ x ∈ setW1 C i, x.id = c.id ∧ x.q = c.q ∧ x.dv = c.dv := by
  refine ⟨if (c.id : Int) = i then { c with wr := true } else c, List.mem_map.2 ⟨c, hc, rfl⟩, ?_⟩
  split <;> exact ⟨rfl, rfl, rfl⟩
theorem setW_props : ∀ (al : List Int) {C : List Ch}, Asc C → Asc (al.foldl setW1 C) ∧ ∀ c ∈ C, ∃ x ∈ al.foldl setW1 C, x.id = c.id ∧ x.q = c.q
  | [], C, h => ⟨h, fun c hc => ⟨c, hc, rfl, rfl⟩⟩
  | i :: al, C, h => by
    obtain ⟨h1, h2⟩ := setW_props al (h.setW1 i)
    refine ⟨h1, fun c hc => ?_⟩
    obtain ⟨x, hx, e1, e2, _⟩ := mem_setW1 (i := i) hc
    obtain ⟨y, hy, f1, f2⟩ := h2 x hx
    exact ⟨y, hy, f1.trans e1, f2.trans e2⟩
theorem chL_wr (c : Ch) : (chL { c with wr := true }).toArray = (chL c).toArray.setIfInBounds 4 (.bool true) := rfl
section
variable {w w' w0 : World} {base : Nat} {s s' s0 : PSt} {ops ops' : Nat → List Int}
theorem ask_relw (h : CS w base s.σ (nums s.σ.L)) {n q K' : Nat} {P : List CE} {e : CE} {v' : Value} (hn : n < s.σ.dn) (hlen : s.σ.L.length ≤ s.σ.most) (hm : s.σ.dn ≤ s.σ.most) (hR : AskR s.σ n q (P ++ [e]) K') (hen : e.n = n) :
    (e.d, e.pin) = (ent s.σ.L n).getD (lst s.σ n, 0) ∧ CRel s.σ { s.σ with ov := v', L := P ++ [e], K := K' } n (some (e.d, e.pin)) := by
  obtain ⟨h1, h2⟩ := ask_rel h (v' := v') hn hlen hm hR hen
  exact ⟨h1, h2 e.d e.pin⟩
/-- What Write leaves. -/
def WriteR (s : PSt) (n : Nat) (b : Bk) (al : List Int) (s' : PSt) : Prop :=
  ∃ (σ1 : CSt) (vs' : Nat → Value) (pn : Nat) (d : List UInt8) (tg : Nat → Nat), (d, pn) = (ent s.σ.L n).getD (lst s.σ n, 0) ∧ CRel s.σ σ1 n (some (d, pn)) ∧
    s' = { s with C := al.foldl setW1 s.C, tag := tg, σ := { σ1 with ws := upd s.σ.ws n (s.σ.ws n ++ [lays b.ba (pickC (ofB s.C n) al)]), vs := vs' } }
set_option maxHeartbeats 4000000 in
theorem write_mem (h : PM w base s ops) (n : Nat) (hn : n < s.σ.dn) (hdn : s.σ.dn ≤ 4096) {b : Bk} (hb : b ∈ s.B) (hfb : s.fB n = b.q + 1) (hop : ops b.q = cids (ofB s.C n)) (hL : ∀ c ∈ s.C, s.fC c.id = c.q + 1 ∧ (c.id : Int) ≤ 1000000 ∧ c.ah.length ≤ 1000000 ∧ (∀ i ∈ c.ah, -9223372036854775808 ≤ i ∧ i ≤ 9223372036854775807) ∧ fits c ∧ 1 ≤ c.d.length) (hasc : Asc s.C)
    (hf : ∀ i : Int, -9223372036854775808 ≤ i ∧ i ≤ 9223372036854775807 → decide (s.fC i = 0) = !opn s.C i) (hlen : s.C.length ≤ 1000000) (hK : s.σ.K ≤ 900000) (hll : s.σ.L.length ≤ s.σ.most) (hm : s.σ.dn ≤ s.σ.most) (hen : s.σ.en = false) (hlf : s.σ.lf = 0) (hw : (s.σ.ws n).length ≤ 1000000) :
    Calls Tryz.prog 26 #[.pointer (some ⟨s.p, 0, none⟩), .int .i64 (n : Int)] w fun r w' => r = .returned (.int .i64 0) ∧ ∃ s', PRun base s w s' ops w' ∧ WriteR s n b (alw s.C n) s' := by
  have RC := preach_any h (n : Int)
  rw [if_neg (by omega)] at RC
  have hofl : ∀ c ∈ ofB s.C n, c ∈ s.C := fun c hc => (List.mem_filter.1 hc).1
  have hofn : (ofB s.C n).length ≤ 1000000 := Nat.le_trans (List.length_filter_le _ _) hlen
  have AL := allowed_any h hb (ofB s.C n) hop (fun c hc => ⟨hofl c hc, (hL c (hofl c hc)).1, (hL c (hofl c hc)).2.1, (hL c (hofl c hc)).2.2.1, (hL c (hofl c hc)).2.2.2.1⟩) (hasc.ofB n) hf hofn
  have LK := h.lookB (n : Int) (by omega)
  rw [hfb] at LK
  simp only [ptrV] at LK
  have c4 := h.c4
  have HH : Hid (PM w base s ops) := h
  have HL : Hid (∀ c ∈ s.C, s.fC c.id = c.q + 1 ∧ (c.id : Int) ≤ 1000000 ∧ c.ah.length ≤ 1000000 ∧ (∀ i ∈ c.ah, -9223372036854775808 ≤ i ∧ i ≤ 9223372036854775807) ∧ fits c ∧ 1 ≤ c.d.length) := hL
  have HA : Hid (Asc s.C) := hasc
  have HB : Hid (b ∈ s.B) := hb
  have HPK : Hid (cids (pickC (ofB s.C n) (alw s.C n)) = alw s.C n) := pick_ids (alw_sub s.C n) (hasc.ofB n)
  have HOF : Hid ((∀ c ∈ ofB s.C n, c ∈ s.C) ∧ (ofB s.C n).length ≤ 1000000) := ⟨hofl, hofn⟩
  have HEN : Hid (s.σ.en = false ∧ s.σ.lf = 0) := ⟨hen, hlf⟩
  obtain ⟨al, hal⟩ : ∃ al, al = alw s.C n := ⟨_, rfl⟩
  have hal2 : allowG s.C (ofB s.C n) [] = al := hal.symm
  rw [hal2] at AL
  rw [← hal] at HPK ⊢
  have HSUB : Hid (al.Sublist (cids (ofB s.C n))) := by rw [hal]; exact alw_sub s.C n
  clear h hL hasc hf hb hop hfb hofl hofn hal hal2 hen hlf
  go_enter Tryz.func26, Tryz.ntmps26
  go_wp2_with (first | (go_at_call 82; refine RC.mono ?_; rintro e w1 ⟨rfl, hw1⟩; obtain rfl : w = w1 := hw1.symm) | (go_at_call 83; refine Hid.out ?_))
  change Calls _ _ _ _ _
  refine AL.mono ?_
  clear AL RC LK c4
  rintro e w1 ⟨v, rfl, ho1, hb1⟩
  have P1 := HH.out.up hb1
  obtain ⟨va, vc, rfl, hvs, hvl, hvc, hvn⟩ := ho1.form
  have hpl : (pickC (ofB s.C n) al).length = al.length := by
    have := congrArg List.length HPK.out
    simpa [cids] using this
  have HP1 : Hid (PM w1 base s ops ∧ Below w.heap.size w w1) := ⟨P1, hb1⟩
  have HV : Hid (OwnL w1 w.heap.size (.slice va al.length vc) al) := ho1
  have hc11 := P1.c1
  have IM2 := image_any (P1.up (w' := w1.drew) ((Below.refl _ _).drew)) HB.out (pickC (ofB s.C n) al) va vc (by rw [HPK.out]; exact hvs.below ((Below.refl w1.heap.size w1).drew) (Nat.le_refl _)) (fun c hc => by
    have h1 := HOF.out.1 c (List.mem_filter.1 hc).1
    exact ⟨h1, (HL.out c h1).1, (HL.out c h1).2.1, (HL.out c h1).2.2.2.2.1, (HL.out c h1).2.2.2.2.2⟩) (Nat.le_trans (List.length_filter_le _ _) HOF.out.2)
  rw [hpl] at IM2
  have HLN : Hid ((lays b.ba (pickC (ofB s.C n) al)).length = 256) := lays_length (P1.bk b HB.out).l1 fun c hc => (HL.out c (HOF.out.1 c (List.mem_filter.1 hc).1)).2.2.2.2.1
  clear P1 ho1 hb1 hpl
  go_wp2
  go_region_with (first | (go_at_call 85; refine IM2.mono ?_; rintro e w2 ⟨g, rfl, hg2, hgl, hb2⟩; have HP2 : Hid (PM w2 base s ops ∧ Below w.heap.size w w2) := ⟨HP1.out.1.up (((Below.refl _ _).drew).trans hb2), HP1.out.2.trans (((Below.refl _ _).drew.trans hb2).mono HP1.out.2.size)⟩; have c12 := HP2.out.1.c1; have WR := cwrite_img HP2.out.1.cs n hn (by omega) hll HEN.out.1 HEN.out.2 hw (lays b.ba (pickC (ofB s.C n) al)) g 0 256 hg2.src HLN.out (fun hS => by have h1 := HP1.out.1.cs.sk_size hS; have h2 : w1.heap.size ≤ g := hgl; omega); have HG2 : Hid (w1.heap.size ≤ g ∧ Below w1.heap.size w1 w2) := ⟨hgl, ((Below.refl _ _).drew).trans hb2⟩; clear hg2 hgl hb2) | (go_at_call 84; refine WR.mono ?_; rintro r w3 (⟨v', P, e, K', vs', rfl, hD3, hR3, hen3⟩ | ⟨rfl, hF3, _⟩); rotate_left; (exfalso; have h1 := room_of (fun e he => (HP2.out.1.cs.blk e he).2.2.1) HP2.out.1.cs.nd hn hF3.ne; have h2 := hF3.le; omega); have HD3 : Hid (Done base s.σ { s.σ with ov := v', L := P ++ [e], K := K', ws := upd s.σ.ws n (s.σ.ws n ++ [lays b.ba (pickC (ofB s.C n) al)]), vs := vs' } w2 w3) := hD3; have HR3 : Hid (AskR s.σ n e.q (P ++ [e]) K' ∧ e.n = n) := ⟨hR3, hen3⟩; clear hD3 hR3 hen3))
  all_goals (
    obtain ⟨hdp, hC1⟩ := ask_relw HP2.out.1.cs (v' := v') hn hll hm HR3.out.1 HR3.out.2
    obtain ⟨σ3, hσ3⟩ : ∃ σ3 : CSt, σ3 = { s.σ with ov := v', L := P ++ [e], K := K', ws := upd s.σ.ws n (s.σ.ws n ++ [lays b.ba (pickC (ofB s.C n) al)]), vs := vs' } := ⟨_, rfl⟩
    have HWR : Hid (∀ tg, WriteR s n b al { s with C := al.foldl setW1 s.C, tag := tg, σ := σ3 }) := fun tg => ⟨_, vs', e.pin, e.d, tg, hdp, hC1, by rw [hσ3]⟩
    have HR4 : Hid (PRun base s w { s with σ := σ3 } ops w3) := by rw [hσ3]; exact ((PRun.start HH.out).up HP2.out.2).cache HD3.out rfl rfl
    have HV3 : Hid (OwnL w3 w.heap.size (.slice va al.length vc) al) := row_same HV.out fun j hj => by
      have h1 := HV.out.lt j hj
      exact (HD3.out.st.fr.blk j (by have := HG2.out.2.size; omega) (fun hS => by have := HH.out.cs.sk_size hS; omega)).trans (HG2.out.2.block j h1.2)
    have HVA : Hid (SrcI w3 va al) := by
      obtain ⟨a', c', he', hs', _⟩ := HV3.out.form
      cases he'; exact hs'
    have HVB : Hid (∀ b' o', va = some ⟨b', o', none⟩ → w.heap.size ≤ b') := fun b' o' e' => (HV.out.lt b' (by rw [e']; rfl)).1
    clear hdp hC1 hσ3 HD3 HR3 HP2 HG2 c12 hc11 hvs
    clear WR
    go_wp2
    go_loopg [10, 43] al.length (fun gg _ t43 W => ∃ (gw : World) (k : Nat) (tg : Nat → Nat), gw = W ∧ k ≤ al.length ∧ al.length - k ≤ gg ∧ t43 = .int .i64 k ∧ Hid (PRun base s w { s with C := (al.take k).foldl setW1 s.C, tag := tg, σ := σ3 } ops gw) ∧ Hid (SrcI gw va al))
    case atStart => exact ⟨_, 0, s.tag, rfl, by omega, by omega, rfl, HR4, HVA⟩
    case round =>
      clear HR4 HV3 HVA
      obtain ⟨gw, k, tg, rfl, hk, hgg, rfl, HR, HS⟩ := hrel
      by_cases hlt : k < al.length
      · have hltz : (k : Int) < (al.length : Int) := by omega
        obtain ⟨b0, off, rfl, hb0, hcc⟩ : ∃ b off, va = some ⟨b, off, none⟩ ∧ b < gw.heap.size ∧ ∀ j, j < al.length → gw.cell? ⟨b, off + j, none⟩ = some (.int .i64 (al.getD j 0)) := by
          rcases HS.out with h0 | h1
          · rw [h0] at hlt; simp at hlt
          · exact h1
        have ck := hcc k hlt
        have hmem : al.getD k 0 ∈ al := by rw [List.getD_eq_getElem?_getD, List.getElem?_eq_getElem hlt]; exact List.getElem_mem hlt
        obtain ⟨c, hc, hci⟩ := List.mem_map.1 (HSUB.out.subset hmem)
        have hcC := HOF.out.1 c hc
        obtain ⟨hAs, hpr⟩ := setW_props (al.take k) HA.out
        obtain ⟨x, hx, hxi, hxq⟩ := hpr c hcC
        have hLc := HL.out c hcC
        have LK := HR.out.pm.lookC (al.getD k 0) (by rw [← hci]; omega)
        dsimp only at LK
        rw [← hci, hLc.1, ← hxq] at LK
        simp only [ptrV] at LK
        rw [← hci] at ck
        have hxa := HR.out.pm.ch x hx
        have x4 : gw.cell? ⟨x.q, 4, none⟩ = some (.bool x.wr) := hxa.c4
        have x4f : gw.frozen? ⟨x.q, 4, none⟩ = false := hxa.fz 4
        have c3 := HR.out.pm.c3
        dsimp only at c3
        have HX : Hid (x ∈ (al.take k).foldl setW1 s.C ∧ ((c.id : Int) = al.getD k 0) ∧ x.id = c.id ∧ ChAt gw base x ∧ Asc ((al.take k).foldl setW1 s.C) ∧ b0 ≠ x.q) := ⟨hx, hci, hxi, hxa, hAs, fun e => by
          have h1 := HVB.out b0 off rfl
          have h2 := (HH.out.fk c.q (.inr (.inr (.inr (.inl ⟨c, hcC, .inl rfl⟩))))).2.1
          omega⟩
        clear hcc hmem hc hci hcC hAs hpr hx hxi hLc hxa hxq
        go_wp2
        go_roundg (al.length - (k + 1))
        case measure => omega
        case rel =>
          obtain ⟨X, Y, hXY⟩ := List.append_of_mem HX.out.1
          have hset := heap_setCell_same gw x.q 4 _ _ (.bool true) HX.out.2.2.2.1.cell
          rw [← chL_wr] at hset
          have hxf := HR.out.pm.fk x.q (.inr (.inr (.inr (.inl ⟨x, HX.out.1, .inl rfl⟩))))
          obtain ⟨tg2, h2⟩ := HR.out.setC (X := X) (Y := Y) (c := x) (c' := { x with wr := true }) (w' := gw.setCell ⟨x.q, 4, none⟩ (.bool true)) hXY rfl rfl rfl ((Fr.refl _ _).setCell x.q 4 _ rfl) ((Below.refl _ _).setCell hxf.1 _) hset (row_same HX.out.2.2.2.1.ahd fun j hj => heap_setCell_other _ _ _ _ (fun e => by
              have t1 := (HR.out.pm.tc x HX.out.1).1
              have t2 := (HR.out.pm.tc x HX.out.1).2.2 j hj
              have e' : j = x.q := e
              rw [e', t1] at t2; omega)) (fun j hj => .inl hj)
          refine ⟨_, k + 1, tg2, rfl, by omega, by omega, by go_num, ?_, ?_⟩
          · have e1 : (al.take (k + 1)).foldl setW1 s.C = X ++ { x with wr := true } :: Y := by
              rw [take_succ_getD al k hlt, List.foldl_append, hXY]
              simp only [List.foldl_cons, List.foldl_nil]
              rw [← HX.out.2.1, ← HX.out.2.2.1, setW1_mid (by rw [← hXY]; exact HX.out.2.2.2.2.1)]
            rw [e1]; exact h2
          · rcases HS.out with h0 | ⟨b2, o2, e2, hb2, hc2⟩
            · exact .inl h0
            · cases e2
              exact .inr ⟨b0, off, rfl, by show b0 < (World.setCell _ _ _).heap.size; simpa [World.setCell] using hb2, fun j hj => (World.cell?_setCell_other _ _ _ _ (fun e => HX.out.2.2.2.2.2 (by injection e with e1; exact e1.symm))).trans (hc2 j hj)⟩
      · have hltz : ¬ (k : Int) < (al.length : Int) := by omega
        have hkn : al.take k = al := List.take_of_length_le (by omega)
        have HRF : Hid (PRun base s w { s with C := al.foldl setW1 s.C, tag := tg, σ := σ3 } ops gw) := by have := HR.out; rw [hkn] at this; exact this
        clear hkn
        go_wp2
        go_ret
        exact ⟨rfl, _, HRF.out, HWR.out tg⟩)
end
end Go.Proofs.YtadadidccbhopaaGreat
