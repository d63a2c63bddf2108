/- leveelaw07.InodeTables: the walk. -/
import Derived.Test.YtabmogeicpphoaaTlay
import Derived.Test.YtabmogeicpphoaaIbytes
namespace Go.Proofs.Ytabmogeicpphoaa
open Go.RowKit
theorem layTX_le {l : List UInt8} {p : Int} {i : Ino} (hn : i.ns.length = 8) : (layTX l p i).length ≤ 256 := by
  unfold layTX
  split
  · rename_i h
    obtain ⟨h1, h2, h3⟩ := stE_zero h
    split
    · rw [layAt_length _ _ _ (by rw [layI_length hn]; omega)]; omega
    · simp
  · simp
/-- What is laid is read there. -/
theorem read_laid {l : List UInt8} {p : Int} {i : Ino} (hn : i.ns.length = 8) (h : layTE l.length p i = 0) : readV (layTX l p i) p = i ∧ readE (layTX l p i) p = 0 := by
  have h0 : stE l.length p = 0 := by
    unfold layTE at h
    by_cases hs : stE l.length p = 0
    · exact hs
    · rw [if_neg hs] at h; exact absurd h hs
  have hr : rtB i = true := by
    unfold layTE at h
    rw [if_pos h0] at h
    unfold putE at h
    cases hr : rtB i
    · rw [hr] at h; simp at h
    · rfl
  obtain ⟨h1, h2, h3⟩ := stE_zero h0
  have hli := layI_length hn
  have hX : layTX l p i = layAt l (64 * p.toNat) (layI i) := by unfold layTX; rw [if_pos h0, hr, if_pos rfl]
  have hlen : (layTX l p i).length = 256 := by rw [hX, layAt_length _ _ _ (by rw [hli]; omega), h1]
  have h0' : stE (layTX l p i).length p = 0 := by rw [hlen, ← h1]; exact h0
  have hp : part64 (layTX l p i) p = layI i := by
    unfold part64
    rw [hX]
    unfold layAt
    rw [List.append_assoc, List.drop_left' (by simp; omega), List.take_left' hli]
  obtain ⟨g1, g2⟩ := get_lay hn hr
  unfold readV readE
  rw [if_pos h0', if_pos h0', hp, g1, g2]
  exact ⟨rfl, rfl⟩
/-- What lies there. -/
structure TW (w0 : World) (i : Ino) (sp : Option Addr) (cap : Nat) (l : List UInt8) (g : Nat) (W : World) : Prop where
  b : Below w0.heap.size w0 W
  ino : InoAt W w0.heap.size i
  own : Blk W g 5 (l ++ a5)
  arg : Arg W sp cap l
theorem TW.up {w0 W W' : World} {i : Ino} {sp : Option Addr} {cap g : Nat} {l : List UInt8} (h : TW w0 i sp cap l g W) (hb : Below W.heap.size W W') : TW w0 i sp cap l g W' :=
  ⟨h.b.trans (hb.mono h.b.size), h.ino.up hb, h.own.below hb h.own.lt, h.arg.below hb (Nat.le_refl _)⟩
theorem Arg.grown {w w' : World} {sp : Option Addr} {cap g : Nat} {l : List UInt8} (h : Arg w sp cap l) (hg : w.grownBy w' (some g)) (hne : ∀ b o, sp = some ⟨b, o, none⟩ → b ≠ g) : Arg w' sp cap l := by
  rcases h with h | ⟨b, off, h1, h2, h3, h4, h5, h6⟩
  · exact .inl h
  · refine .inr ⟨b, off, h1, h2, h3, h4, h5, ?_⟩
    rcases h6 with h6 | ⟨b', off', e, k1, k2⟩
    · exact .inl h6
    · refine .inr ⟨b', off', e, by have := hg.size; omega, fun j hj => ?_⟩
      have hb := hg.block b' k1 (by have := hne b' off' e; simpa using this)
      exact (World.cell?_of_block (w := w) (a := ⟨b', off' + j, none⟩) hb).trans (k2 j hj)
theorem InoAt.grown {w w' : World} {q g : Nat} {i : Ino} (h : InoAt w q i) (hg : w.grownBy w' (some g)) (hne : q ≠ g) : InoAt w' q i := ⟨by rw [hg.block q h.lt (by simpa using hne)]; exact h.row, h.ln⟩
theorem Blk.grown {w w' : World} {q g : Nat} {t : TypeId} {l : List UInt8} (h : Blk w q t l) (hg : w.grownBy w' (some g)) (hne : q ≠ g) : Blk w' q t l := by unfold Blk; rw [hg.block q h.lt (by simpa using hne)]; exact h
theorem Own.at0 {w : World} {base : Nat} {v : Value} {l : List UInt8} (h : Own w base v l) (h0 : 0 < l.length) (hl : l.length ≤ 140737488355328) : ∃ g cap, v = .slice (some ⟨g, 0, none⟩) l.length cap ∧ base ≤ g ∧ g < w.heap.size ∧ Arg w (some ⟨g, 0, none⟩) cap l := by
  obtain ⟨ao, cap, hv, ha⟩ := h.arg hl
  obtain ⟨h1, h2⟩ := h
  rcases h2 with ⟨rfl, h3⟩ | ⟨g, cap', cur, rfl, hg, hh, hn, hm, hs, hx⟩
  · omega
  · cases hv
    exact ⟨g, _, rfl, hg, (Array.getElem?_eq_some_iff.1 hh).1, ha⟩
theorem grown_below {w w' : World} {base g : Nat} (hg : w.grownBy w' (some g)) (hb : base ≤ w.heap.size) (hbg : base ≤ g) : Below base w w' :=
  (Below.refl _ _).grown hg hb (fun k hk => by cases hk; exact hbg)
set_option maxRecDepth 100000 in
set_option maxHeartbeats 8000000 in
theorem inodeTables_any (sp : Option Addr) (cap : Nat) (l : List UInt8) (p : Int) (i : Ino) (w : World) (ha : Arg w sp cap l) (hn : i.ns.length = 8) :
    Calls Try.prog 5 #[.slice sp l.length cap, .int .i64 p, .agg (iA i)] w fun e w' => e = .returned (.bool true) ∧ Below w.heap.size w w' := by
  have la := ha.len
  have hz := zeroI
  have HX0 : Hid _ := PI.start w i hn
  have HN : Hid (i.ns.length = 8) := hn
  have HRV : Hid ((readV l p).ns.length = 8) := readV_length l p
  have HA0 := ha.below HX0.out.b (Nat.le_refl _)
  have LT := lent_any sp cap l _ HA0
  have HA : Hid (Arg w sp cap l) := ha
  clear ha HA0
  go_enter Try.func5, Try.ntmps5
  go_wp2_with fail
  refine LT.mono ?_
  rintro e w1 ⟨g, rfl, hg1, hG1, h1⟩
  have HT1 : Hid (TW w i sp cap l g w1) := ⟨(HX0.out.up h1).b, (HX0.out.up h1).ino, hg1, HA.out.below (HX0.out.up h1).b (Nat.le_refl _)⟩
  clear LT HX0 hg1 h1 HA
  have RD := ireadT_any (some ⟨g, 0, none⟩) (l.length + 8) l p w1 (lent_arg HT1.out.own (by omega))
  go_upto_region 2 with fail
  go_wp2_with fail
  refine RD.mono ?_
  rintro e w2 ⟨rfl, h2⟩
  have HT2 : Hid _ := HT1.out.up h2
  clear HT1 RD h2
  have HZ : Hid (InoAt (w2.alloc (.cells (iA zino) 24)) w2.heap.size zino) := ino_new w2 zino rfl
  have HZB : Hid (Below w2.heap.size w2 (w2.alloc (.cells (iA zino) 24))) := (Below.refl _ _).alloc (Nat.le_refl _) _
  go_upto_region 3 with (first | ((with_reducible show wpList _ _ _ ({ dst := _, op := Op.store 24 _ _, type := _, pos := _, after := _, guard := _ } :: _) _ _); refine wpList_store_ino rfl _ _ rfl (HZ.out) HRV.out rfl rfl ?_; intro w3 H3 b3 z3))
  have h3 : Below w2.heap.size w2 w3 := HZB.out.trans b3
  have HT3 : Hid _ := HT2.out.up h3
  have HP3 : Hid (InoAt w3 w2.heap.size (readV l p)) := H3
  clear HT2 HZ HZB h3 H3 b3 z3
  have RR := rreadT_any sp cap l p w3 HT3.out.arg
  go_wp2_with fail
  refine RR.mono ?_
  rintro e w4 ⟨rfl, h4⟩
  have HT4 : Hid _ := HT3.out.up h4
  have HP4 : Hid _ := HP3.out.up h4
  clear HT3 HP3 RR h4
  have HZ : Hid (InoAt (w4.alloc (.cells (iA zino) 24)) w4.heap.size zino) := ino_new w4 zino rfl
  have HZB : Hid (Below w4.heap.size w4 (w4.alloc (.cells (iA zino) 24))) := (Below.refl _ _).alloc (Nat.le_refl _) _
  go_upto_region 4 with (first | ((with_reducible show wpList _ _ _ ({ dst := _, op := Op.store 24 _ _, type := _, pos := _, after := _, guard := _ } :: _) _ _); refine wpList_store_ino rfl _ _ rfl (HZ.out) HRV.out rfl rfl ?_; intro w5 H5 b5 z5))
  have h5 : Below w4.heap.size w4 w5 := HZB.out.trans b5
  have HT5 : Hid _ := HT4.out.up h5
  have HP5 : Hid _ := HP4.out.up h5
  have HQ5 : Hid (InoAt w5 w4.heap.size (readV l p)) := H5
  clear HT4 HP4 HZ HZB h5 H5 b5 z5
  have LA := ilayT_any (some ⟨g, 0, none⟩) (l.length + 8) l p i HN.out w5 (lent_arg HT5.out.own (by omega))
  have HXL : Hid ((layTX l p i).length ≤ 256) := layTX_le HN.out
  go_wp2_with (first | ((with_reducible show wpList _ _ _ ({ dst := _, op := Op.load 24 _, type := _, pos := _, after := _, guard := _ } :: _) _ _); refine wpList_load_ino rfl _ rfl (HT5.out.ino) rfl ?_))
  refine LA.mono ?_
  rintro e w6 ⟨vx, rfl, hx6, h6⟩
  have HT6 : Hid _ := HT5.out.up h6
  have HP6 : Hid _ := HP5.out.up h6
  have HQ6 : Hid _ := HQ5.out.up h6
  have HO6 : Hid (Own w6 w5.heap.size vx (layTX l p i)) := hx6
  have hsz6 : w4.heap.size < w5.heap.size := HQ5.out.lt
  have hszo : w.heap.size < w5.heap.size := HT5.out.ino.lt
  have hszg : g < w5.heap.size := HT5.out.own.lt
  have HAB : Hid (∀ b o, sp = some ⟨b, o, none⟩ → 0 < l.length → b < w5.heap.size) := by
    intro b o hb hl
    obtain ⟨b', o', e, k, _⟩ := HT5.out.arg.src.at' hl
    rw [hb] at e; cases e; exact k
  clear HT5 HP5 HQ5 LA hx6 h6
  have RL := rlayT_any sp cap l p i HN.out w6 HT6.out.arg
  go_upto_region 5 with fail
  go_wp2_with (first | ((with_reducible show wpList _ _ _ ({ dst := _, op := Op.load 24 _, type := _, pos := _, after := _, guard := _ } :: _) _ _); refine wpList_load_ino rfl _ rfl (HT6.out.ino) rfl ?_))
  refine RL.mono ?_
  rintro e w7 ⟨vy, rfl, hy7, h7⟩
  have HT7 : Hid _ := HT6.out.up h7
  have HP7 : Hid _ := HP6.out.up h7
  have HQ7 : Hid _ := HQ6.out.up h7
  have HO7 : Hid (Own w7 w5.heap.size vx (layTX l p i)) := HO6.out.below h7 (Nat.le_refl _)
  obtain ⟨sx, cx, hvx, hax⟩ := HO7.out.arg (by have := HXL.out; omega)
  obtain ⟨sy, cy, hvy, hay⟩ := hy7.arg (by have := HXL.out; omega)
  subst hvx; subst hvy
  have kx := conv_str hax.src (layTX l p i).length cx rfl
  have ky := conv_str hay.src (layTX l p i).length cy rfl
  have hss : ((str (layTX l p i)).toList == (str (layTX l p i)).toList) = true := by simp
  have KP := kept_any g sp cap l w7 HT7.out.own HT7.out.arg
  clear HT6 HP6 HQ6 HO6 RL hy7 h7 hax hay
  have HNE : Hid ((!eqI (readV l p) (readV l p)) = false) := eqI_refl _
  go_upto_region 6 with fail
  generalize hE : layTE l.length p i = E at *
  generalize hRE : readE l p = RE at *
  go_wp2_with (first | ((with_reducible show wpList _ _ _ ({ dst := _, op := Op.load 24 _, type := _, pos := _, after := _, guard := _ } :: _) _ _); refine wpList_load_ino rfl _ rfl (HP7.out) rfl ?_) | ((with_reducible show wpList _ _ _ ({ dst := _, op := Op.load 24 _, type := _, pos := _, after := _, guard := _ } :: _) _ _); refine wpList_load_ino rfl _ rfl (HQ7.out) rfl ?_) | ((with_reducible show wpList _ _ _ ({ dst := _, op := Op.binOp BinOp.neq 24 _ _ 24, type := _, pos := _, after := _, guard := _ } :: _) _ _); refine wpList_neq_ino rfl _ _ rfl rfl rfl HRV.out HRV.out HNE.out ?_))
  refine KP.mono ?_
  rintro e w8 ⟨rfl, h8⟩
  have HT8 : Hid _ := HT7.out.up h8
  have HO8 : Hid (Own w8 w5.heap.size (.slice sx (layTX l p i).length cx) (layTX l p i)) := HO7.out.below h8 (Nat.le_refl _)
  clear HT7 HP7 HQ7 HO7 KP h8 kx ky hss
  have HEE : Hid (layTE l.length p i = E) := hE
  clear hE hRE
  by_cases hE0 : E = 0
  · have hl8 : (layTX l p i).length = 256 := by
      have h0 : layTE l.length p i = 0 := HEE.out.trans hE0
      unfold layTE at h0
      by_cases hs : stE l.length p = 0
      · rw [if_pos hs] at h0
        obtain ⟨k1, k2, k3⟩ := stE_zero hs
        cases hr : rtB i
        · unfold putE at h0; rw [hr] at h0; simp at h0
        · unfold layTX
          rw [if_pos hs, hr, if_pos rfl, layAt_length _ _ _ (by rw [layI_length HN.out]; omega), k1]
      · rw [if_neg hs] at h0; exact absurd h0 hs
    obtain ⟨gx, cx', hv8, hgx, hgx2, harg⟩ := HO8.out.at0 (by omega) (by omega)
    cases hv8
    obtain ⟨g1, g2⟩ := read_laid HN.out (HEE.out.trans hE0)
    have RD := ireadT_any (some ⟨gx, 0, none⟩) cx (layTX l p i) p w8 harg
    rw [g1, g2] at RD
    rw [hl8] at RD HO8 ⊢
    subst hE0
    clear g1 g2 harg HEE
    go_wp2_with fail
    refine RD.mono ?_
    rintro e w9 ⟨rfl, h9⟩
    have HT9 : Hid _ := HT8.out.up h9
    have HO9 : Hid (Own w9 w5.heap.size (.slice (some ⟨gx, 0, none⟩) 256 cx) (layTX l p i)) := HO8.out.below h9 (Nat.le_refl _)
    have hgx9 : gx < w9.heap.size := by have := h9.size; omega
    clear HT8 HO8 RD h9
    have HZ : Hid (InoAt (w9.alloc (.cells (iA zino) 24)) w9.heap.size zino) := ino_new w9 zino rfl
    have HZB : Hid (Below w9.heap.size w9 (w9.alloc (.cells (iA zino) 24))) := (Below.refl _ _).alloc (Nat.le_refl _) _
    go_upto_region 11 with (first | ((with_reducible show wpList _ _ _ ({ dst := _, op := Op.store 24 _ _, type := _, pos := _, after := _, guard := _ } :: _) _ _); refine wpList_store_ino rfl _ _ rfl (HZ.out) HN.out rfl rfl ?_; intro w10 H10 b10 z10))
    have h10 : Below w9.heap.size w9 w10 := HZB.out.trans b10
    have HT10 : Hid _ := HT9.out.up h10
    have HI10 : Hid (InoAt w10 w9.heap.size i) := H10
    have HO10 : Hid (Own w10 w5.heap.size (.slice (some ⟨gx, 0, none⟩) 256 cx) (layTX l p i)) := HO9.out.below h10 (Nat.le_refl _)
    clear HT9 HO9 HZ HZB h10 H10 b10 z10
    have SP := spoil_any w5.heap.size _ _ w10 HO10.out (by omega)
    go_wp2_with fail
    refine SP.mono ?_
    rintro e w11 ⟨rfl, h11⟩
    have h11' : w10.grownBy w11 (some gx) := h11
    have HB11 : Hid (Below w.heap.size w w11) := HT10.out.b.trans (grown_below h11' HT10.out.b.size (by omega))
    have HI11 : Hid (InoAt w11 w.heap.size i) := HT10.out.ino.grown h11' (by omega)
    have HJ11 : Hid (InoAt w11 w9.heap.size i) := HI10.out.grown h11' (by omega)
    have HG11 : Hid (Blk w11 g 5 (l ++ a5)) := HT10.out.own.grown h11' (by omega)
    have hA11 : Arg w11 sp cap l := by
      by_cases hl0 : 0 < l.length
      · exact HT10.out.arg.grown h11' (fun b o hb => by have := HAB.out b o hb hl0; omega)
      · have e0 : l = [] := List.eq_nil_of_length_eq_zero (by omega)
        subst e0
        rcases HT10.out.arg with h | ⟨b, off, h1, h2, h3, h4, h5, h6⟩
        · exact .inl h
        · exact .inr ⟨b, off, h1, h2, h3, h4, h5, Src.nil _ _⟩
    have KP := kept_any g sp cap l w11 HG11.out hA11
    have HEQ : Hid (eqI i i = true) := eqI_iff.2 rfl
    clear h11 h11' SP HT10 HI10 HO10 hA11
    go_wp2_with (first | ((with_reducible show wpList _ _ _ ({ dst := _, op := Op.load 24 _, type := _, pos := _, after := _, guard := _ } :: _) _ _); refine wpList_load_ino rfl _ rfl (HI11.out) rfl ?_) | ((with_reducible show wpList _ _ _ ({ dst := _, op := Op.load 24 _, type := _, pos := _, after := _, guard := _ } :: _) _ _); refine wpList_load_ino rfl _ rfl (HJ11.out) rfl ?_) | ((with_reducible show wpList _ _ _ ({ dst := _, op := Op.binOp BinOp.eql 24 _ _ 24, type := _, pos := _, after := _, guard := _ } :: _) _ _); refine wpList_eq_ino rfl _ _ rfl rfl rfl HN.out HN.out HEQ.out ?_))
    refine KP.mono ?_
    rintro e w12 ⟨rfl, h12⟩
    have HB12 : Hid (Below w.heap.size w w12) := HB11.out.trans (h12.mono HB11.out.size)
    clear KP h12 HB11
    go_wp2_with fail
    refine (iknown_any _).mono ?_
    rintro e w13 ⟨rfl, h13⟩
    have HB13 := HB12.out.trans (h13.mono HB12.out.size)
    go_wp2
    go_ret
    exact ⟨rfl, HB13⟩
  · have hEb : (E == 0) = false := by simpa using hE0
    go_wp2_with fail
    refine (iknown_any _).mono ?_
    rintro e w9 ⟨rfl, h9⟩
    have HB := (HT8.out.up h9).b
    go_wp2
    go_ret
    exact ⟨rfl, HB⟩
end Go.Proofs.Ytabmogeicpphoaa
