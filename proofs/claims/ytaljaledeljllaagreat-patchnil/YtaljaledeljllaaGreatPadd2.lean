/- Package patch: add. -/
import Derived.Test.YtaljaledeljllaaGreatPsort
namespace Go.Proofs.YtaljaledeljllaaGreat
open Go.RowKit
set_option maxRecDepth 100000
def laU (la : List Int) (fr m : Nat) (x : Int) : List Int := la.take fr ++ List.replicate m x ++ la.drop (fr + m)
theorem laU_zero (la : List Int) (fr : Nat) (x : Int) : laU la fr 0 x = la := by simp [laU]
theorem laU_length {la : List Int} {fr m : Nat} (h : fr + m ≤ la.length) (x : Int) : (laU la fr m x).length = la.length := by simp [laU]; omega
theorem laU_get? {la : List Int} {fr m : Nat} (h : fr + m ≤ la.length) (x : Int) (j : Nat) : (laU la fr m x)[j]? = if fr ≤ j ∧ j < fr + m then some x else la[j]? := by
  unfold laU
  have l1 : (la.take fr).length = fr := by simp; omega
  by_cases h1 : j < fr
  · rw [if_neg (by omega), List.append_assoc, List.getElem?_append_left (by omega), List.getElem?_take, if_pos h1]
  · by_cases h2 : j < fr + m
    · rw [if_pos (by omega), List.append_assoc, List.getElem?_append_right (by omega), List.getElem?_append_left (by simp; omega), List.getElem?_replicate, if_pos (by omega)]
    · rw [if_neg (by omega), List.getElem?_append_right (by rw [List.length_append, List.length_replicate]; omega), List.getElem?_drop, List.length_append, List.length_replicate, l1]
      congr 1; omega
theorem laU_step {la : List Int} {fr m : Nat} (h : fr + m < la.length) (x : Int) : (laU la fr m x).set (fr + m) x = laU la fr (m + 1) x := by
  apply List.ext_getElem?
  intro j
  rw [List.getElem?_set, laU_length (by omega), laU_get? (by omega), laU_get? (by omega)]
  by_cases hj : fr + m = j
  · subst hj
    rw [if_pos rfl, if_pos h, if_pos (by omega)]
  · rw [if_neg hj]
    by_cases h1 : fr ≤ j ∧ j < fr + m
    · rw [if_pos h1, if_pos (by omega)]
    · rw [if_neg h1, if_neg (by omega)]
theorem laU_get {la : List Int} {fr m : Nat} (h : fr + m ≤ la.length) (x : Int) (j : Nat) : (laU la fr m x).getD j 0 = if fr ≤ j ∧ j < fr + m then x else la.getD j 0 := by
  rw [List.getD_eq_getElem?_getD, laU_get? h]
  split
  · rfl
  · rw [List.getD_eq_getElem?_getD]
theorem take_snoc (l : List Int) (k : Nat) (h : k < l.length) : l.take (k + 1) = l.take k ++ [l.getD k 0] := take_succ_getD l k h
theorem ops_same (ops : Nat → List Int) (q : Nat) : (fun k => if k = q then ops q else ops k) = ops := by
  funext k; split
  · rename_i e; rw [e]
  · rfl
theorem fr_app {gw W w2 : World} {r : Option Nat} (hW : Below gw.heap.size gw W) (hg : W.grownBy w2 r) : Fr (fun j => r = some j) gw w2 :=
  ⟨Nat.le_trans hW.size hg.size, fun k hk hn => (hg.block k (Nat.lt_of_lt_of_le hk hW.size) (fun e => hn e.symm)).trans (hW.block k hk)⟩
theorem below_app {gw W w2 : World} {r : Option Nat} {base : Nat} (hW : Below gw.heap.size gw W) (hg : W.grownBy w2 r) (hb : base ≤ gw.heap.size) (hr : ∀ k, r = some k → base ≤ k) : Below base gw w2 :=
  (hW.mono hb).grown hg (Nat.le_trans hb hW.size) hr
theorem bkL_set (b : Bk) (j : Nat) (x : Int) (h1 : b.ba.length = 256) : (bkL { b with la := b.la.set j x }).toArray = (bkL b).toArray.setIfInBounds (257 + j) (.int .i64 x) := by
  simp only [bkL, ivs, List.map_set, List.setIfInBounds_toArray]
  rw [List.set_append_right _ _ (by rw [bvs_length, h1]; omega), bvs_length, h1, show 257 + j - 256 = j + 1 by omega, List.set_cons_succ]
theorem bkL_ov (b : Bk) (v : Value) (h1 : b.ba.length = 256) : (bkL { b with ov := v }).toArray = (bkL b).toArray.setIfInBounds 256 v := by
  simp only [bkL, List.setIfInBounds_toArray]
  rw [List.set_append_right _ _ (by rw [bvs_length, h1]; omega), bvs_length, h1, Nat.sub_self, List.set_cons_zero]
theorem run_appL {P : Program} {o : Oper} {a : Act} {w w' : World} {s x : Operand} {sv xv v : Value} (hop : o.op = .call { callee := .builtin .append, args := #[s, x], argTypes := #[37, 37] }) (hty : o.type = 37) (hs : a.eval s = sv) (hx : a.eval x = xv) (hL : (Builtin.append_ #[37, 37] 37 #[sv, xv]).run P w = .ok v w') : (execOp a.eval o).run P w = .ok (.value v) w' := by
  unfold execOp
  simp only [hop, hty, resolve, invoke, builtin]
  simp [hs, hx, hL, Result.andThen]
section
variable {w w' w0 : World} {base : Nat} {s s' s0 : PSt} {ops ops' : Nat → List Int}
set_option maxHeartbeats 4000000 in
theorem add_any (h : PRun base s0 w0 s ops w) {X : List Ch} {c : Ch} (hC : s.C = X ++ [c]) {Y Z : List Bk} {b : Bk} (hB : s.B = Y ++ b :: Z) (hav : c.av = .slice none 0 0) (hfit : fits c) (hd : 1 ≤ c.d.length) (hcnt : s.cnt ≤ 1000000) (hkc : s.kc ≤ 1000000) (hno : ((s.cnt + 1 : Nat) : Int) ∉ s.kC)
    (asp : Option Addr) (ac : Nat) (after : List Int) (hs : SrcI w asp after) (hform : (asp = none ∧ after = []) ∨ ∃ b o, asp = some ⟨b, o, none⟩) (hoff : ∀ b o, asp = some ⟨b, o, none⟩ → b ≠ s.p) (hal : after.length ≤ 1000) (hab : ∀ i ∈ after, -9223372036854775808 ≤ i ∧ i ≤ 9223372036854775807) (hlb : ∀ i ∈ b.la, -9223372036854775808 ≤ i ∧ i ≤ 9223372036854775807) (hopl : (ops b.q).length ≤ 1000000) :
    Calls Tryz.prog 82 #[.pointer (some ⟨s.p, 0, none⟩), .pointer (some ⟨c.q, 0, none⟩), .pointer (some ⟨b.q, 0, none⟩), .slice asp after.length ac] w fun e w' => e = .returned (.tuple #[]) ∧ ∃ tg av ov ah,
      PRun base s0 w0 { s with cnt := s.cnt + 1, C := X ++ [{ c with av := av, ah := ah }], B := Y ++ { b with ov := ov, la := laU b.la c.fr c.d.length ((s.cnt + 1 : Nat) : Int) } :: Z, kc := s.kc + 1, fC := setF s.fC ((s.cnt + 1 : Nat) : Int) (c.q + 1), kC := s.kC ++ [((s.cnt + 1 : Nat) : Int)], tag := tg } (fun q => if q = b.q then ops b.q ++ [((s.cnt + 1 : Nat) : Int)] else ops q) w' ∧
      (∀ i, i ∈ ah ↔ (i ∈ after ∨ ∃ j, j < c.d.length ∧ i = b.la.getD (c.fr + j) 0) ∧ s.fC i ≠ 0) ∧ ah.length ≤ 2000 := by
  have hcm : c ∈ s.C := by rw [hC]; simp
  have hbm : b ∈ s.B := by rw [hB]; simp
  have c2 := h.pm.c2
  have cf := h.pm.pf 2
  have hR1 := h.cnt (s.cnt + 1)
  obtain ⟨w1, hw1⟩ : ∃ w1, w1 = w.setCell ⟨s.p, 2, none⟩ (.int .i64 ((s.cnt + 1 : Nat) : Int)) := ⟨_, rfl⟩
  have hz1 : w1.heap.size = w.heap.size := by rw [hw1]; simp [World.setCell]
  have hs1 : SrcI w1 asp after := by
    rcases hs with h0 | ⟨b', o', e', hb', hc'⟩
    · exact .inl h0
    · refine .inr ⟨b', o', e', by omega, fun j hj => ?_⟩
      rw [hw1, World.cell?_setCell_other _ _ _ _ (fun e => hoff b' o' e' (by injection e with e1; exact e1.symm))]
      exact hc' j hj
  have CLN := cloneL_any asp ac after w1 hs1 (by omega) hform
  rw [← hw1] at hR1
  have HR1 : Hid (PRun base s0 w0 { s with cnt := s.cnt + 1 } ops w1) := hR1
  have HZ : Hid (w1.heap.size = w.heap.size) := hz1
  have HSS : Hid (PRun base s0 w0 s ops w) := h
  have HCB : Hid (s.C = X ++ [c] ∧ s.B = Y ++ b :: Z ∧ c.av = .slice none 0 0) := ⟨hC, hB, hav⟩
  have HFT : Hid (c.fr + c.d.length ≤ 256 ∧ 1 ≤ c.d.length) := ⟨hfit, hd⟩
  have HNO : Hid (((s.cnt + 1 : Nat) : Int) ∉ s.kC) := hno
  have HAB : Hid ((∀ i ∈ after, -9223372036854775808 ≤ i ∧ i ≤ 9223372036854775807) ∧ ∀ i ∈ b.la, -9223372036854775808 ≤ i ∧ i ≤ 9223372036854775807) := ⟨hab, hlb⟩
  have HCM : Hid (c ∈ s.C ∧ b ∈ s.B) := ⟨hcm, hbm⟩
  have HW1 : Hid (w1 = w.setCell ⟨s.p, 2, none⟩ (.int .i64 ((s.cnt + 1 : Nat) : Int))) := hw1
  have HAL : Hid (after.length ≤ 1000) := hal
  have hc64 : (s.cnt : Int) + 1 ≤ 9223372036854775807 := by omega
  clear h hs hs1 hR1 hC hB hav hfit hd hno hab hlb hcm hbm hw1 hz1 hal hoff hform
  go_enter Tryz.func82, Tryz.ntmps82
  go_upto_region 1 with fail
  have hwe : w.setCell ⟨s.p, 2, none⟩ (.int .i64 ((s.cnt : Int) + 1)) = w1 := by rw [HW1.out]; rfl
  rw [hwe]
  clear hwe c2 cf
  go_upto_region 2 with (first | (go_at_call 116; refine CLN.mono ?_; rintro e w2 ⟨v, rfl, ho2, hb2⟩; have HO2 : Hid (OwnL w2 w.heap.size v after) := (by rw [← HZ.out]; exact ho2); have HR2 : Hid (PRun base s0 w0 { s with cnt := s.cnt + 1 } ops w2) := HR1.out.up hb2; have HZ2 : Hid (w.heap.size ≤ w2.heap.size) := (by rw [← HZ.out]; exact hb2.size); clear ho2 hb2))
  clear CLN HR1 HZ HW1
  have hsz : w0.heap.size ≤ w.heap.size := HSS.out.fr.size
  have HAK : Hid (∀ k, Ak s k → k < w.heap.size) := fun k hk => HSS.out.pm.lt hk
  have HAK2 : Hid (∀ (k n : Nat) (tg : Nat → Nat) (j : Nat), Ak { s with cnt := n, B := Y ++ { b with la := laU b.la c.fr k ((s.cnt + 1 : Nat) : Int) } :: Z, tag := tg } j → j < w.heap.size) := fun k n tg j hj => HAK.out j (by
    rcases hj with (hj | hj | hj | hj | ⟨x, hx, hj⟩) | hj
    · exact .inl (.inl hj)
    · exact .inl (.inr (.inl hj))
    · exact .inl (.inr (.inr (.inl hj)))
    · exact .inl (.inr (.inr (.inr (.inl hj))))
    · rcases mem_mid (e := b) hx with rfl | ⟨hx, _⟩
      · exact .inl (.inr (.inr (.inr (.inr ⟨b, HCM.out.2, hj⟩))))
      · exact .inl (.inr (.inr (.inr (.inr ⟨x, by rw [HCB.out.2.1]; exact hx, hj⟩))))
    · exact .inr hj)
  have q2 := (HR2.out.pm.ch c HCM.out.1).c2
  obtain ⟨da, dc, hdv, _, _, hdcm, _⟩ := (HR2.out.pm.ch c HCM.out.1).dat.form
  rw [hdv] at q2
  obtain ⟨m, hm⟩ : ∃ m, m = c.d.length := ⟨_, rfl⟩
  have HM : Hid (m = c.d.length) := hm
  have hm256 : c.fr + m ≤ 256 := by rw [hm]; exact HFT.out.1
  rw [← hm] at q2
  have HDV : Hid (c.dv = .slice da c.d.length dc) := hdv
  clear hdv hm
  go_wp2
  go_loopg [8, 9, 10, 25] m (fun gg t8 _ _ t25 W => ∃ (gw : World) (k : Nat) (v : Value) (tg : Nat → Nat), gw = W ∧ k ≤ m ∧ m - k ≤ gg ∧ v = t8 ∧ t25 = .int .i64 k ∧ Hid (PRun base s0 w0 { s with cnt := s.cnt + 1, B := Y ++ { b with la := laU b.la c.fr k ((s.cnt + 1 : Nat) : Int) } :: Z, tag := tg } ops gw) ∧ Hid (OwnL gw w.heap.size v (after ++ (b.la.drop c.fr).take k)) ∧ Hid (w.heap.size ≤ gw.heap.size))
  case atStart =>
    refine ⟨_, 0, v, s.tag, rfl, by omega, by omega, rfl, rfl, ?_, ?_⟩
    · rw [laU_zero]
      have := HR2.out
      rw [show ({ s with cnt := s.cnt + 1, B := Y ++ { b with la := b.la } :: Z, tag := s.tag } : PSt) = { s with cnt := s.cnt + 1 } by rw [← HCB.out.2.1]]
      exact this
    · rw [List.take_zero, List.append_nil]; exact ⟨HO2.out, HZ2.out⟩
  case round =>
    clear HR2 HO2 q2 HZ2
    obtain ⟨gw, k, v, tg, rfl, hk, hgg, rfl, rfl, HR, HO, HZG⟩ := hrel
    have hl2 : b.la.length = 256 := (HSS.out.pm.bk b HCM.out.2).l2
    by_cases hlt : k < m
    · have hltz : (k : Int) < (m : Int) := by omega
      have hcC : c ∈ ({ s with cnt := s.cnt + 1, B := Y ++ { b with la := laU b.la c.fr k ((s.cnt + 1 : Nat) : Int) } :: Z, tag := tg } : PSt).C := HCM.out.1
      have d1 := (HR.out.pm.ch c hcC).c1
      have hbk := HR.out.pm.bk { b with la := laU b.la c.fr k ((s.cnt + 1 : Nat) : Int) } (by simp)
      have l1 := hbk.c2 (c.fr + k) (by omega)
      rw [laU_get (by omega), if_neg (by omega)] at l1
      have lf := hbk.fz (257 + (c.fr + k))
      dsimp only at l1 lf
      have cc2 := HR.out.pm.c2
      dsimp only at cc2
      have hrk : ((c.fr : Int) + (k : Int)) < 256 := by omega
      have HBK : Hid _ := hbk
      clear hcC hbk
      go_wp2
      go_region
      obtain ⟨acc, hacc⟩ : ∃ acc, acc = after ++ (b.la.drop c.fr).take k := ⟨_, rfl⟩
      have hacl : acc.length ≤ 1000000 := by rw [hacc]; have := HAL.out; simp; omega
      have HACC : Hid (acc = after ++ (b.la.drop c.fr).take k) := hacc
      rw [← hacc] at HO
      clear hacc
      generalize hx : b.la.getD (c.fr + k) 0 = x at *
      have HX : Hid (b.la.getD (c.fr + k) 0 = x) := hx
      clear hx
      have hbs : base ≤ w.heap.size := HSS.out.pm.bs
      have hzg : w.heap.size ≤ gw.heap.size := HZG.out
      go_wp2_with (first | (at_builtin; refine Hid.out ?_))
      change wpList _ _ _ _ _ _
      refine wpList_append_l rfl (.tmp 38) (.tmp 42) rfl w.heap.size acc x _ rfl _ _ rfl (row_same HO.out (fun j hj => Below.heap_alloc _ _ _ (HO.out.lt j hj).2)) (heap_alloc_new _ _) (by simp; omega) hacl ?_
      intro G cap w2 ho2 hg2 hat2
      have hWb : Below gw.heap.size gw (gw.drew.alloc (.cells #[Value.int .i64 x] 2)) := (Below.refl _ _).drew.alloc (Nat.le_refl _) _
      have hR3 := HR.out.other (fr_app hWb hg2) (fun j hj => ⟨fun hA => by
        have h1 := (HO.out.lt j hj).1
        have h2 := HAK2.out _ _ _ j hA
        omega, by have h1 := (HO.out.lt j hj).1; omega⟩) (below_app hWb hg2 (by omega) (fun j hj => by have h1 := (HO.out.lt j hj).1; omega))
      have hbk3 := hR3.pm.bk { b with la := laU b.la c.fr k ((s.cnt + 1 : Nat) : Int) } (by simp)
      have l3 := hbk3.c2 (c.fr + k) (by omega)
      rw [laU_get (by omega), if_neg (by omega), HX.out] at l3
      have lf3 := hbk3.fz (257 + (c.fr + k))
      have c23 := hR3.pm.c2
      dsimp only at l3 lf3 c23
      have HR3 : Hid _ := And.intro hR3 hbk3
      have HO3 : Hid _ := ho2
      have HZ3 : Hid (w.heap.size ≤ w2.heap.size) := Nat.le_trans hzg (fr_app hWb hg2).size
      have HL2 : Hid (b.la.length = 256 ∧ b.ba.length = 256) := ⟨hl2, (HSS.out.pm.bk b HCM.out.2).l1⟩
      clear hR3 hbk3 ho2 hg2 hat2 hWb HBK l1 lf d1 cc2 hl2
      go_wp2
      go_roundg (m - (k + 1))
      case measure => omega
      case rel =>
        have hk3 : k < m := hlt
        have hset := heap_setCell_same w2 b.q (257 + (c.fr + k)) _ _ (.int .i64 ((s.cnt + 1 : Nat) : Int)) HR3.out.2.cell
        rw [← bkL_set { b with la := laU b.la c.fr k ((s.cnt + 1 : Nat) : Int) } _ _ HL2.out.2] at hset
        dsimp only at hset
        rw [laU_step (by rw [HL2.out.1]; omega)] at hset
        have hqb : base ≤ b.q := (HSS.out.pm.fk b.q (.inr (.inr (.inr (.inr ⟨b, HCM.out.2, .inl rfl⟩))))).1
        have hqw : b.q < w.heap.size := HAK.out b.q (.inl (.inr (.inr (.inr (.inr ⟨b, HCM.out.2, .inl rfl⟩)))))
        obtain ⟨tg', hp⟩ := HR3.out.1.setB (X := Y) (Y := Z) (b := { b with la := laU b.la c.fr k ((s.cnt + 1 : Nat) : Int) }) (b' := { b with la := laU b.la c.fr (k + 1) ((s.cnt + 1 : Nat) : Int) }) (op := ops b.q) (w' := w2.setCell ⟨b.q, 257 + (c.fr + k), none⟩ (.int .i64 ((s.cnt + 1 : Nat) : Int))) rfl rfl ((Fr.refl _ _).setCell b.q _ _ (.inl rfl)) ((Below.refl _ _).setCell hqb _) hset HL2.out.2 (by show (laU b.la c.fr (k + 1) _).length = 256; rw [laU_length (by rw [HL2.out.1]; omega)]; exact HL2.out.1) (row_same HR3.out.2.opn fun j hj => heap_setCell_other _ _ _ _ (fun e => by
            have t1 := (HSS.out.pm.tb b HCM.out.2).1
            have t2 := (HSS.out.pm.tb b HCM.out.2).2 j hj
            have e' : j = b.q := e
            rw [e', t1] at t2; omega)) (fun j hj => .inl hj)
        dsimp only at hp
        rw [ops_same] at hp
        refine ⟨_, k + 1, _, tg', rfl, by omega, by omega, rfl, by go_num, hp, ?_, ?_⟩
        · have e1 : after ++ (b.la.drop c.fr).take (k + 1) = acc ++ [x] := by
            rw [HACC.out, take_snoc _ k (by rw [List.length_drop, HL2.out.1]; omega), List.append_assoc, List.getD_eq_getElem?_getD, List.getElem?_drop, ← List.getD_eq_getElem?_getD, HX.out]
          rw [e1]
          exact row_same HO3.out fun j hj => heap_setCell_other _ _ _ _ (fun e => by
            have h1 := (HO3.out.lt j hj).1
            have e' : j = b.q := e
            omega)
        · show _ ≤ (w2.setCell _ _).heap.size
          have := HZ3.out
          simp [World.setCell]; omega
    · have hltz : ¬ (k : Int) < (m : Int) := by omega
      have hkm : k = m := by omega
      subst hkm
      have hm1 : 1 ≤ k := by rw [HM.out]; exact HFT.out.2
      obtain ⟨l0, hl0⟩ : ∃ l0, l0 = after ++ (b.la.drop c.fr).take k := ⟨_, rfl⟩
      have HL0 : Hid (∀ i, i ∈ l0 ↔ (i ∈ after ∨ ∃ j, j < c.d.length ∧ i = b.la.getD (c.fr + j) 0)) := by
        intro i
        rw [hl0, List.mem_append]
        refine or_congr Iff.rfl ?_
        constructor
        · intro hi
          obtain ⟨j, hj, rfl⟩ := List.getElem_of_mem hi
          have hj' : j < k ∧ c.fr + j < b.la.length := by simp at hj; omega
          refine ⟨j, by rw [← HM.out]; exact hj'.1, ?_⟩
          rw [List.getElem_take, List.getElem_drop, List.getD_eq_getElem?_getD, List.getElem?_eq_getElem hj'.2]; rfl
        · rintro ⟨j, hj, rfl⟩
          rw [← HM.out] at hj
          have hj' : c.fr + j < b.la.length := by omega
          rw [List.getD_eq_getElem?_getD, List.getElem?_eq_getElem hj']
          refine List.mem_iff_getElem.2 ⟨j, by simp; omega, ?_⟩
          rw [List.getElem_take, List.getElem_drop]; rfl
      have HL0b : Hid (∀ i ∈ l0, -9223372036854775808 ≤ i ∧ i ≤ 9223372036854775807) := by
        intro i hi
        rw [hl0, List.mem_append] at hi
        rcases hi with hi | hi
        · exact HAB.out.1 i hi
        · exact HAB.out.2 i (List.mem_of_mem_drop (List.mem_of_mem_take hi))
      have hl0l : 1 ≤ l0.length ∧ l0.length ≤ 2000 := by rw [hl0]; have := HAL.out; simp; omega
      rw [← hl0] at HO
      clear hl0
      obtain ⟨g, cap, rfl, hgw⟩ := HO.out.some hl0l.1
      have HKEEP : Hid (∀ {W W' : World} {tg : Nat → Nat}, PRun base s0 w0 { s with cnt := s.cnt + 1, B := Y ++ { b with la := laU b.la c.fr k ((s.cnt + 1 : Nat) : Int) } :: Z, tag := tg } ops W → Fr (fun j => j = g) W W' → Below base W W' → PRun base s0 w0 { s with cnt := s.cnt + 1, B := Y ++ { b with la := laU b.la c.fr k ((s.cnt + 1 : Nat) : Int) } :: Z, tag := tg } ops W') := fun hp hf hb => hp.other hf (fun j hj => ⟨fun hA => by have := HAK2.out _ _ _ j hA; omega, by omega⟩) hb
      have hbs : base ≤ w.heap.size := HSS.out.pm.bs
      have SO := sort_own w.heap.size g cap l0 gw HO.out (by omega)
      go_upto_region 10 with (first | (go_at_call 92; refine SO.mono ?_; rintro e w3 ⟨rfl, ho3, hg3⟩; have HO3 : Hid _ := ho3; have HR3 : Hid _ := HKEEP.out HR.out (Fr.of_grown hg3) ((Below.refl _ _).grown hg3 (by have := HZG.out; omega) (fun j hj => by cases hj; omega)); clear ho3 hg3))
      obtain ⟨l1, hl1⟩ : ∃ l1, l1 = l0.mergeSort fun x y => decide (x ≤ y) := ⟨_, rfl⟩
      have hl1l : l1.length = l0.length := by rw [hl1, List.length_mergeSort]
      have HL1 : Hid (∀ i, i ∈ l1 ↔ i ∈ l0) := fun i => by rw [hl1]; exact List.mem_mergeSort
      rw [← hl1, ← hl1l] at HO3
      clear SO hl1 HR HO
      have CO := compact_own w.heap.size g cap l1 w3 HO3.out (by omega)
      rw [hl1l] at CO
      clear hl1l
      go_wp2_with (first | (go_at_call 118; refine CO.mono ?_; rintro e w4 ⟨l2, rfl, hm2, hle2, ho4, hg4⟩; have HO4 : Hid (OwnL w4 w.heap.size (.slice (some ⟨g, 0, none⟩) l2.length cap) l2) := ho4; have HM2 : Hid _ := hm2; have HR4 : Hid _ := HKEEP.out HR3.out (Fr.of_grown hg4) ((Below.refl _ _).grown hg4 HR3.out.pm.bs (fun j hj => by cases hj; omega)); clear ho4 hg4 hm2))
      clear CO HR3 HO3
      have hl2l : 1 ≤ l2.length := by
        obtain ⟨i, hi⟩ := List.exists_mem_of_length_pos (l := l0) (by omega)
        exact List.length_pos_of_mem ((HM2.out i).2 ((HL1.out i).2 hi))
      obtain ⟨r4, hr4, hgb4, hc4, hcm4⟩ := HO4.out.row
      have HL2b : Hid (∀ i ∈ l2, -9223372036854775808 ≤ i ∧ i ≤ 9223372036854775807) := fun i hi => HL0b.out i ((HL1.out i).1 ((HM2.out i).1 hi))
      have egc : ∀ args w, (callFunc 86 args).run Tryz.prog w = .ok (.enter 86 args) w := enters_of Tryz.func86 (by kernel_rfl) rfl
      have DF := deleteFunc_m 86 (.pointer (some ⟨s.p, 0, none⟩)) egc (fun x => decide (s.fC x = 0)) w.heap.size g cap l2 w4 r4 hr4 hgb4 hc4 hcm4 hl2l (fun x hx W hW => by
        have hPW := HR4.out.pm.fr hW (fun j hA e => by have := HAK2.out _ _ _ j hA; omega)
        exact closed_any hPW x (HL2b.out x hx))
      obtain ⟨l3, hl3⟩ : ∃ l3, l3 = l2.filter fun x => !decide (s.fC x = 0) := ⟨_, rfl⟩
      have HL3 : Hid ((∀ i, i ∈ l3 ↔ (i ∈ after ∨ ∃ j, j < c.d.length ∧ i = b.la.getD (c.fr + j) 0) ∧ s.fC i ≠ 0) ∧ l3.length ≤ 2000) := by
        refine ⟨fun i => ?_, ?_⟩
        · rw [hl3, List.mem_filter, HM2.out i, HL1.out i, HL0.out i]; simp
        · have : l3.length ≤ l2.length := by rw [hl3]; exact List.length_filter_le _ _
          omega
      rw [← hl3] at DF
      clear hr4 hc4 egc hl3 hcm4
      refine DF.mono ?_
      clear DF
      rintro e w5 ⟨m5, rfl, hm5, ho5, hf5, hb5⟩
      subst hm5
      have HR5 : Hid _ := HKEEP.out HR4.out hf5 (hb5.mono hbs)
      have HO5 : Hid (OwnL w5 w.heap.size (.slice (some ⟨g, 0, none⟩) l3.length cap) l3) := ho5
      obtain ⟨ao5, cp5, he5, hs5, _, _, _⟩ := ho5.form
      have CL5 := cloneL_any (some ⟨g, 0, none⟩) cap l3 w5 (by cases he5; exact hs5) (by have := HL3.out.2; omega) (.inr ⟨g, 0, rfl⟩)
      clear hf5 hb5 ho5 he5 hs5 HR4 HO4 HM2 HL0 HL0b HL1 HL2b
      go_upto_region 11 with fail
      have hcC5 : c ∈ ({ s with cnt := s.cnt + 1, B := Y ++ { b with la := laU b.la c.fr k ((s.cnt + 1 : Nat) : Int) } :: Z, tag := tg } : PSt).C := HCM.out.1
      have HC5 : Hid _ := hcC5
      clear hcC5
      go_wp2_with fail
      refine CL5.mono ?_
      clear CL5
      rintro e w6 ⟨v6, rfl, ho6, hb6⟩
      obtain ⟨ao6, cp6, rfl, _, _, _, _⟩ := ho6.form
      have HO6 : Hid (OwnL w6 w5.heap.size (.slice ao6 l3.length cp6) l3) := ho6
      have HR6 : Hid (PRun base s0 w0 { s with cnt := s.cnt + 1, B := Y ++ { b with la := laU b.la c.fr k ((s.cnt + 1 : Nat) : Int) } :: Z, tag := tg } ops w6) := HR5.out.up hb6
      have hch6 := HR6.out.pm.ch c HC5.out
      have a63 : w6.cell? ⟨c.q, 3, none⟩ = some (.slice none 0 0) := by rw [hch6.c3, HCB.out.2.2]
      have a6f : w6.frozen? ⟨c.q, 3, none⟩ = false := hch6.fz 3
      have HCH6 : Hid (ChAt w6 base c) := hch6
      have HZ6 : Hid (w5.heap.size ≤ w6.heap.size) := hb6.size
      have HZ5 : Hid (w.heap.size ≤ w5.heap.size) := by have := (HO5.out.lt g rfl).2; show _ ≤ _; omega
      clear ho6 hb6 hch6 HR5 HO5 HKEEP
      go_wp2
      have hqc : base ≤ c.q := (HSS.out.pm.fk c.q (.inr (.inr (.inr (.inl ⟨c, HCM.out.1, .inl rfl⟩))))).1
      have hqcw : c.q < w.heap.size := HAK.out c.q (.inl (.inr (.inr (.inr (.inl ⟨c, HCM.out.1, .inl rfl⟩)))))
      have hset6 := heap_setCell_same w6 c.q 3 _ _ (.slice ao6 l3.length cp6) HCH6.out.cell
      obtain ⟨tg7, h7⟩ := HR6.out.setC (X := X) (Y := []) (c := c) (c' := { c with av := .slice ao6 l3.length cp6, ah := l3 }) (w' := w6.setCell ⟨c.q, 3, none⟩ (.slice ao6 l3.length cp6)) HCB.out.1 rfl rfl rfl ((Fr.refl _ _).setCell c.q 3 _ rfl) ((Below.refl _ _).setCell hqc _) hset6 (row_same (row_mono HO6.out (by have := HZ5.out; omega)) fun j hj => heap_setCell_other _ _ _ _ (fun e => by
          have h1 := (HO6.out.lt j hj).1
          have h2 := HZ5.out
          have e' : j = c.q := e
          omega)) (fun j hj => .inr ⟨fun hA => by
          have h1 := (HO6.out.lt j hj).1
          have h2 := HAK2.out _ _ _ j hA
          have h3 := HZ5.out
          omega, by have h1 := (HO6.out.lt j hj).1; have h3 := HZ5.out; omega⟩)
      have HZ7 : Hid (w.heap.size ≤ (w6.setCell ⟨c.q, 3, none⟩ (.slice ao6 l3.length cp6)).heap.size) := by have h1 := HZ5.out; have h2 := HZ6.out; show _ ≤ _; simp [World.setCell]; omega
      clear a63 a6f HCH6 HR6 HO6 hset6 HZ5 HZ6
      generalize w6.setCell ⟨c.q, 3, none⟩ (.slice ao6 l3.length cp6) = w7 at *
      obtain ⟨w8, hrun8, hm8, hg8⟩ := (h7.up (w' := w7.drew) ((Below.refl _ _).drew)).pm.mc.put Tryz.underlying2 Tryz.underlying101 ((s.cnt + 1 : Nat) : Int) (by omega) (c.q + 1) hkc HNO.out
      have h8 := (h7.up (w' := w7.drew) ((Below.refl _ _).drew)).mapC hg8 hm8
      simp only [ptrV] at hrun8
      have ecn : ((s.cnt + 1 : Nat) : Int) = (s.cnt : Int) + 1 := rfl
      have c72 := h7.pm.c2
      have c73 := h7.pm.c3
      dsimp only at c72 c73 hrun8
      rw [ecn] at c72 hrun8
      have HZ8 : Hid (w.heap.size ≤ w8.heap.size) := Nat.le_trans HZ7.out hg8.size
      have H8 : Hid _ := h8
      clear h7 hm8 hg8 h8 HZ7 ecn
      go_region
      have hbB : { b with la := laU b.la c.fr k ((s.cnt + 1 : Nat) : Int) } ∈ Y ++ { b with la := laU b.la c.fr k ((s.cnt + 1 : Nat) : Int) } :: Z := by simp
      have hbk8 := H8.out.pm.bk _ hbB
      obtain ⟨oa, oc, hoe, hos, hoc, hocm, hon⟩ := hbk8.opn.form
      have o81 := hbk8.c1
      have f81 := hbk8.fz 256
      have c82 := H8.out.pm.c2
      dsimp only at hoe o81 f81 c82
      rw [hoe] at o81
      have ecn : ((s.cnt + 1 : Nat) : Int) = (s.cnt : Int) + 1 := rfl
      rw [ecn] at c82
      have hql8 : b.q < w8.heap.size := (Array.getElem?_eq_some_iff.1 hbk8.cell).1
      have hown8 := hbk8.opn
      dsimp only at hown8
      obtain ⟨i0, hi0, hz0, hz1, hz2⟩ := info_parts Tryz.infoL
      have hWb : Below w8.heap.size w8 (w8.drew.alloc (.cells #[Value.int .i64 ((s.cnt : Int) + 1)] 2)) := (Below.refl _ _).drew.alloc (Nat.le_refl _) _
      have hownA : OwnL (w8.drew.alloc (.cells #[Value.int .i64 ((s.cnt : Int) + 1)] 2)) base b.ov (ops b.q) := row_same hown8 fun j hj => hWb.block j (hown8.lt j hj).2
      have hrowA : RowI (w8.drew.alloc (.cells #[Value.int .i64 ((s.cnt : Int) + 1)] 2)) w8.heap.size 2 [(s.cnt : Int) + 1] := heap_alloc_new w8.drew _
      obtain ⟨G, cp, w9, hap, hown9, hg9, hat9, _⟩ := run_append_lies (P := Tryz.prog) (w8.drew.alloc (.cells #[Value.int .i64 ((s.cnt : Int) + 1)] 2)) 37 37 base 2 i0 _ 1 8 Tryz.underlying37 hi0 hz0 hz1 hz2 rfl (by decide) b.ov (ops b.q).length (ivs (ops b.q)) hownA ⟨w8.heap.size, 0, none⟩ 1 1 (ivs [(s.cnt : Int) + 1]) (by simp [ivs_length]) (fun j u hj => by
        have hjl : j < 1 := by have := (List.getElem?_eq_some_iff.1 hj).1; simpa [ivs] using this
        obtain rfl : j = 0 := by omega
        rw [addr_add, Nat.zero_add, hrowA.cell 0 (by simp), ← hj]; rfl) (ivs_one _) (by omega) (by unfold maxLen; omega) (by omega) (by have := hWb.size; have := HSS.out.pm.bs; have := HZ8.out; omega) _ rfl
      rw [hoe] at hap
      have hfr9 := fr_app hWb hg9
      have hovq : ∀ j, b.ov.ownBlock = some j → j ≠ b.q := fun j hj e => by
        have t1 := (HSS.out.pm.tb b HCM.out.2).1
        have t2 := (HSS.out.pm.tb b HCM.out.2).2 j hj
        rw [e, t1] at t2; omega
      have hbq9 : w9.heap[b.q]? = w8.heap[b.q]? := hfr9.blk b.q hql8 (fun e => hovq b.q e rfl)
      have o91 : w9.cell? ⟨b.q, 256, none⟩ = some (.slice oa (ops b.q).length oc) := (World.cell?_of_block (a := ⟨b.q, 256, none⟩) hbq9).trans o81
      have f91 : w9.frozen? ⟨b.q, 256, none⟩ = false := (World.frozen?_of_block (a := ⟨b.q, 256, none⟩) hbq9).trans f81
      have hset9 := heap_setCell_same w9 b.q 256 _ _ (.slice (some ⟨G, 0, none⟩) ((ops b.q).length + 1) cp) (hbq9.trans hbk8.cell)
      have HL2 : b.la.length = 256 ∧ b.ba.length = 256 := ⟨(HSS.out.pm.bk b HCM.out.2).l2, (HSS.out.pm.bk b HCM.out.2).l1⟩
      have hqb : base ≤ b.q := (HSS.out.pm.fk b.q (.inr (.inr (.inr (.inr ⟨b, HCM.out.2, .inl rfl⟩))))).1
      have hqbw : b.q < w.heap.size := HAK.out b.q (.inl (.inr (.inr (.inr (.inr ⟨b, HCM.out.2, .inl rfl⟩)))))
      have hGn : b.ov.ownBlock = some G ∨ w8.heap.size ≤ G := by
        rcases hat9 with e | e
        · exact .inl e
        · have hz : (w8.drew.alloc (.cells #[Value.int .i64 ((s.cnt : Int) + 1)] 2)).heap.size = w8.heap.size + 1 := by show (w8.heap.push _).size = _; simp
          exact .inr (by omega)
      have hGq : G ≠ b.q := fun e => by
        rcases hGn with e2 | e2
        · exact hovq G e2 e
        · omega
      obtain ⟨tg9, h9⟩ := H8.out.setB (X := Y) (Y := Z) (b := { b with la := laU b.la c.fr k ((s.cnt + 1 : Nat) : Int) }) (b' := { b with la := laU b.la c.fr k ((s.cnt + 1 : Nat) : Int), ov := .slice (some ⟨G, 0, none⟩) ((ops b.q).length + 1) cp }) (op := ops b.q ++ [((s.cnt + 1 : Nat) : Int)]) (w' := w9.setCell ⟨b.q, 256, none⟩ (.slice (some ⟨G, 0, none⟩) ((ops b.q).length + 1) cp)) rfl rfl ((hfr9.mono fun j _ hj => .inr hj).setCell b.q 256 _ (.inl rfl)) ((below_app hWb hg9 H8.out.pm.bs (fun j hj => (hown8.lt j hj).1)).setCell hqb _) (by rw [hset9]; congr 2; exact (bkL_ov { b with la := laU b.la c.fr k ((s.cnt + 1 : Nat) : Int) } _ HL2.2).symm) HL2.2 (by show (laU b.la c.fr k _).length = 256; rw [laU_length (by rw [HL2.1]; omega)]; exact HL2.1) (row_same (by rw [List.length_append, ivs_append]; exact hown9) fun j hj => heap_setCell_other _ _ _ _ (fun e => by
          obtain rfl : G = j := by simpa [Value.ownBlock] using hj
          exact hGq e)) (fun j hj => by
          obtain rfl : G = j := by simpa [Value.ownBlock] using hj
          rcases hGn with e2 | e2
          · exact .inl e2
          · refine .inr ⟨fun hA => ?_, by have := HZ8.out; omega⟩
            have := H8.out.pm.lt hA
            omega)
      have HFIN : Hid (∃ tg av ov ah, PRun base s0 w0 { s with cnt := s.cnt + 1, C := X ++ [{ c with av := av, ah := ah }], B := Y ++ { b with ov := ov, la := laU b.la c.fr c.d.length ((s.cnt + 1 : Nat) : Int) } :: Z, kc := s.kc + 1, fC := setF s.fC ((s.cnt + 1 : Nat) : Int) (c.q + 1), kC := s.kC ++ [((s.cnt + 1 : Nat) : Int)], tag := tg } (fun q => if q = b.q then ops b.q ++ [((s.cnt + 1 : Nat) : Int)] else ops q) (w9.setCell ⟨b.q, 256, none⟩ (.slice (some ⟨G, 0, none⟩) ((ops b.q).length + 1) cp)) ∧ (∀ i, i ∈ ah ↔ (i ∈ after ∨ ∃ j, j < c.d.length ∧ i = b.la.getD (c.fr + j) 0) ∧ s.fC i ≠ 0) ∧ ah.length ≤ 2000) := by
        rw [← HM.out]
        have hx3 := HL3.out
        rw [← HM.out] at hx3
        exact ⟨tg9, _, _, l3, h9, hx3⟩
      have L4 : (Instr.loadAt 37 (.pointer (some ⟨b.q, 256, none⟩))).run Tryz.prog w8.drew = .ok (.slice oa (ops b.q).length oc) w8.drew := by go_simp
      have o81b : (w8.drew.alloc (.cells #[Value.int .i64 ((s.cnt : Int) + 1)] 2)).cell? ⟨b.q, 256, none⟩ = some (.slice oa (ops b.q).length oc) := (hWb.cell (p := ⟨b.q, 256, none⟩) hql8).trans o81
      have L4b : (Instr.loadAt 37 (.pointer (some ⟨b.q, 256, none⟩))).run Tryz.prog (w8.drew.alloc (.cells #[Value.int .i64 ((s.cnt : Int) + 1)] 2)) = .ok (.slice oa (ops b.q).length oc) (w8.drew.alloc (.cells #[Value.int .i64 ((s.cnt : Int) + 1)] 2)) := by go_simp
      have L8 : (Instr.loadAt 2 (.pointer (some ⟨s.p, 2, none⟩))).run Tryz.prog w8.drew = .ok (.int .i64 ((s.cnt : Int) + 1)) w8.drew := by go_simp
      have B9 : (Instr.buildSlice 37 1 #[(0, .int .i64 ((s.cnt : Int) + 1))]).run Tryz.prog w8.drew = .ok (.slice (some ⟨w8.heap.size, 0, none⟩) 1 1) (w8.drew.alloc (.cells #[Value.int .i64 ((s.cnt : Int) + 1)] 2)) := by go_simp
      clear h9 hset9 hown9 hg9 hat9 hfr9 hbq9 hownA hrowA hWb hown8 hos hoe hovq hGn hGq H8 hbk8 hbB HL2 o81 o81b f81 c82 ecn hi0 hz0 hz1 hz2
      go_wp2_with fail
      refine wp_region_any (by kernel_rfl) ?_
      change wpAny _ _ _ _ _ _ _ (World.drew _)
      refine take_op (i := 0) (dst := some 72) (v := .pointer (some ⟨b.q, 0, none⟩)) rfl rfl (by kernel_rfl) (by kernel_rfl) (by kernel_rfl) (fun _ _ _ h => h) rfl (fun _ => by go_simp) rfl ?_
      refine take_op (i := 1) (dst := some 73) (v := .pointer (some ⟨b.q, 0, none⟩)) rfl rfl (by kernel_rfl) (by kernel_rfl) (by kernel_rfl) (fun _ _ _ h => h) rfl (fun _ => by go_simp) rfl ?_
      refine take_op (i := 2) (dst := some 74) (v := .pointer (some ⟨b.q, 0, none⟩)) rfl rfl (by kernel_rfl) (by kernel_rfl) (by kernel_rfl) (fun _ _ _ h => h) rfl (fun _ => by go_simp) rfl ?_
      refine take_op (i := 3) (dst := some 75) (v := .pointer (some ⟨b.q, 256, none⟩)) rfl rfl (by kernel_rfl) (by kernel_rfl) (by kernel_rfl) (fun _ _ _ h => h) rfl (fun _ => by go_simp) rfl ?_
      refine take_op (i := 5) (dst := some 77) (v := .pointer (some ⟨s.p, 0, none⟩)) rfl rfl (by kernel_rfl) (by kernel_rfl) (by kernel_rfl) (fun _ _ _ h => h) rfl (fun _ => by go_simp) rfl ?_
      refine take_op (i := 6) (dst := some 78) (v := .pointer (some ⟨s.p, 0, none⟩)) rfl rfl (by kernel_rfl) (by kernel_rfl) (by kernel_rfl) (fun _ _ _ h => h) rfl (fun _ => by go_simp) rfl ?_
      refine take_op (i := 7) (dst := some 79) (v := .pointer (some ⟨s.p, 2, none⟩)) rfl rfl (by kernel_rfl) (by kernel_rfl) (by kernel_rfl) (fun _ _ _ h => h) rfl (fun _ => by go_simp) rfl ?_
      simp only [Act.put, List.setIfInBounds_toArray, List.set_cons_succ, List.set_cons_zero]
      refine wpAny_ready (rs := [4, 8]) (by kernel_rfl) (by simp) ?_
      refine ready_run (v := .slice oa (ops b.q).length oc) (w' := w8.drew) (dst := some 76) rfl rfl rfl (run_load rfl rfl L4) rfl ?_ (ready_run (v := .int .i64 ((s.cnt : Int) + 1)) (w' := w8.drew) (dst := some 80) rfl rfl rfl (run_load rfl rfl L8) rfl ?_ AllReady.nil)
      · simp only [Act.put, List.setIfInBounds_toArray, List.set_cons_succ, List.set_cons_zero]
        refine wpAny_ready (rs := [8]) (by kernel_rfl) (by simp) ?_
        refine ready_run (v := .int .i64 ((s.cnt : Int) + 1)) (w' := w8.drew) (dst := some 80) rfl rfl rfl (run_load rfl rfl L8) rfl ?_ AllReady.nil
        simp only [Act.put, List.setIfInBounds_toArray, List.set_cons_succ, List.set_cons_zero]
        refine wpAny_ready (rs := [9]) (by kernel_rfl) (by simp) ?_
        refine ready_run (v := .slice (some ⟨w8.heap.size, 0, none⟩) 1 1) (w' := w8.drew.alloc (.cells #[Value.int .i64 ((s.cnt : Int) + 1)] 2)) (dst := some 81) rfl rfl rfl (run_build rfl rfl B9) rfl ?_ AllReady.nil
        simp only [Act.put, List.setIfInBounds_toArray, List.set_cons_succ, List.set_cons_zero]
        refine wpAny_ready (rs := [10]) (by kernel_rfl) (by simp) ?_
        refine ready_run (v := .slice (some ⟨G, 0, none⟩) ((ops b.q).length + 1) cp) (w' := w9) (dst := some 82) rfl rfl rfl (run_appL rfl rfl rfl rfl hap) rfl ?_ AllReady.nil
        simp only [Act.put, List.setIfInBounds_toArray, List.set_cons_succ, List.set_cons_zero]
        refine take_op (i := 11) (dst := some 83) (v := .pointer (some ⟨b.q, 0, none⟩)) rfl rfl (by kernel_rfl) (by kernel_rfl) (by kernel_rfl) (fun _ _ _ h => h) rfl (fun _ => by go_simp) rfl ?_
        refine take_op (i := 12) (dst := some 84) (v := .pointer (some ⟨b.q, 256, none⟩)) rfl rfl (by kernel_rfl) (by kernel_rfl) (by kernel_rfl) (fun _ _ _ h => h) rfl (fun _ => by go_simp) rfl ?_
        simp only [Act.put, List.setIfInBounds_toArray, List.set_cons_succ, List.set_cons_zero]
        refine wpAny_ready (rs := [13]) (by kernel_rfl) (by simp) ?_
        refine AllReady.cons (o := { dst := none, op := Op.store 37 (Operand.tmp 84) (Operand.tmp 82), type := 0, pos := "patch.go:130", after := #[{ on := 12, ground := Ground.data }, { on := 10, ground := Ground.data }, { on := 10, ground := Ground.chain }, { on := 0, ground := Ground.phase }, { on := 1, ground := Ground.phase }, { on := 2, ground := Ground.phase }, { on := 3, ground := Ground.phase }, { on := 4, ground := Ground.phase }, { on := 5, ground := Ground.phase }, { on := 6, ground := Ground.phase }, { on := 7, ground := Ground.phase }, { on := 8, ground := Ground.phase }, { on := 9, ground := Ground.phase }, { on := 10, ground := Ground.phase }], guard := none }) rfl (fun K hK => ?_) AllReady.nil
        go_simp
        refine hK _ _ ?_
        clear hK K
        refine wpAny_done (by kernel_rfl) ?_ _
        go_wp2
        go_end0
        exact ⟨rfl, HFIN.out⟩
      · simp only [Act.put, List.setIfInBounds_toArray, List.set_cons_succ, List.set_cons_zero]
        refine wpAny_ready (rs := [4, 9]) (by kernel_rfl) (by simp) ?_
        refine ready_run (v := .slice oa (ops b.q).length oc) (w' := w8.drew) (dst := some 76) rfl rfl rfl (run_load rfl rfl L4) rfl ?_ (ready_run (v := .slice (some ⟨w8.heap.size, 0, none⟩) 1 1) (w' := w8.drew.alloc (.cells #[Value.int .i64 ((s.cnt : Int) + 1)] 2)) (dst := some 81) rfl rfl rfl (run_build rfl rfl B9) rfl ?_ AllReady.nil)
        · simp only [Act.put, List.setIfInBounds_toArray, List.set_cons_succ, List.set_cons_zero]
          refine wpAny_ready (rs := [9]) (by kernel_rfl) (by simp) ?_
          refine ready_run (v := .slice (some ⟨w8.heap.size, 0, none⟩) 1 1) (w' := w8.drew.alloc (.cells #[Value.int .i64 ((s.cnt : Int) + 1)] 2)) (dst := some 81) rfl rfl rfl (run_build rfl rfl B9) rfl ?_ AllReady.nil
          simp only [Act.put, List.setIfInBounds_toArray, List.set_cons_succ, List.set_cons_zero]
          refine wpAny_ready (rs := [10]) (by kernel_rfl) (by simp) ?_
          refine ready_run (v := .slice (some ⟨G, 0, none⟩) ((ops b.q).length + 1) cp) (w' := w9) (dst := some 82) rfl rfl rfl (run_appL rfl rfl rfl rfl hap) rfl ?_ AllReady.nil
          simp only [Act.put, List.setIfInBounds_toArray, List.set_cons_succ, List.set_cons_zero]
          refine take_op (i := 11) (dst := some 83) (v := .pointer (some ⟨b.q, 0, none⟩)) rfl rfl (by kernel_rfl) (by kernel_rfl) (by kernel_rfl) (fun _ _ _ h => h) rfl (fun _ => by go_simp) rfl ?_
          refine take_op (i := 12) (dst := some 84) (v := .pointer (some ⟨b.q, 256, none⟩)) rfl rfl (by kernel_rfl) (by kernel_rfl) (by kernel_rfl) (fun _ _ _ h => h) rfl (fun _ => by go_simp) rfl ?_
          simp only [Act.put, List.setIfInBounds_toArray, List.set_cons_succ, List.set_cons_zero]
          refine wpAny_ready (rs := [13]) (by kernel_rfl) (by simp) ?_
          refine AllReady.cons (o := { dst := none, op := Op.store 37 (Operand.tmp 84) (Operand.tmp 82), type := 0, pos := "patch.go:130", after := #[{ on := 12, ground := Ground.data }, { on := 10, ground := Ground.data }, { on := 10, ground := Ground.chain }, { on := 0, ground := Ground.phase }, { on := 1, ground := Ground.phase }, { on := 2, ground := Ground.phase }, { on := 3, ground := Ground.phase }, { on := 4, ground := Ground.phase }, { on := 5, ground := Ground.phase }, { on := 6, ground := Ground.phase }, { on := 7, ground := Ground.phase }, { on := 8, ground := Ground.phase }, { on := 9, ground := Ground.phase }, { on := 10, ground := Ground.phase }], guard := none }) rfl (fun K hK => ?_) AllReady.nil
          go_simp
          refine hK _ _ ?_
          clear hK K
          refine wpAny_done (by kernel_rfl) ?_ _
          go_wp2
          go_end0
          exact ⟨rfl, HFIN.out⟩
        · simp only [Act.put, List.setIfInBounds_toArray, List.set_cons_succ, List.set_cons_zero]
          refine wpAny_ready (rs := [4]) (by kernel_rfl) (by simp) ?_
          refine ready_run (v := .slice oa (ops b.q).length oc) (w' := w8.drew.alloc (.cells #[Value.int .i64 ((s.cnt : Int) + 1)] 2)) (dst := some 76) rfl rfl rfl (run_load rfl rfl L4b) rfl ?_ AllReady.nil
          simp only [Act.put, List.setIfInBounds_toArray, List.set_cons_succ, List.set_cons_zero]
          refine wpAny_ready (rs := [10]) (by kernel_rfl) (by simp) ?_
          refine ready_run (v := .slice (some ⟨G, 0, none⟩) ((ops b.q).length + 1) cp) (w' := w9) (dst := some 82) rfl rfl rfl (run_appL rfl rfl rfl rfl hap) rfl ?_ AllReady.nil
          simp only [Act.put, List.setIfInBounds_toArray, List.set_cons_succ, List.set_cons_zero]
          refine take_op (i := 11) (dst := some 83) (v := .pointer (some ⟨b.q, 0, none⟩)) rfl rfl (by kernel_rfl) (by kernel_rfl) (by kernel_rfl) (fun _ _ _ h => h) rfl (fun _ => by go_simp) rfl ?_
          refine take_op (i := 12) (dst := some 84) (v := .pointer (some ⟨b.q, 256, none⟩)) rfl rfl (by kernel_rfl) (by kernel_rfl) (by kernel_rfl) (fun _ _ _ h => h) rfl (fun _ => by go_simp) rfl ?_
          simp only [Act.put, List.setIfInBounds_toArray, List.set_cons_succ, List.set_cons_zero]
          refine wpAny_ready (rs := [13]) (by kernel_rfl) (by simp) ?_
          refine AllReady.cons (o := { dst := none, op := Op.store 37 (Operand.tmp 84) (Operand.tmp 82), type := 0, pos := "patch.go:130", after := #[{ on := 12, ground := Ground.data }, { on := 10, ground := Ground.data }, { on := 10, ground := Ground.chain }, { on := 0, ground := Ground.phase }, { on := 1, ground := Ground.phase }, { on := 2, ground := Ground.phase }, { on := 3, ground := Ground.phase }, { on := 4, ground := Ground.phase }, { on := 5, ground := Ground.phase }, { on := 6, ground := Ground.phase }, { on := 7, ground := Ground.phase }, { on := 8, ground := Ground.phase }, { on := 9, ground := Ground.phase }, { on := 10, ground := Ground.phase }], guard := none }) rfl (fun K hK => ?_) AllReady.nil
          go_simp
          refine hK _ _ ?_
          clear hK K
          refine wpAny_done (by kernel_rfl) ?_ _
          go_wp2
          go_end0
          exact ⟨rfl, HFIN.out⟩
end
end Go.Proofs.YtaljaledeljllaaGreat
