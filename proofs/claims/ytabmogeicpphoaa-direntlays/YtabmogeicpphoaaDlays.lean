/- leveelaw08.DirentLays: the walk. -/
import Derived.Test.YtabmogeicpphoaaEknown
import Derived.Test.YtabmogeicpphoaaItables
import Derived.Test.YtabmogeicpphoaaDbytes
namespace Go.Proofs.Ytabmogeicpphoaa
open Go.RowKit
theorem elayTE_zero {n : Nat} {p : Int} {i : Ent} (h : elayTE n p i = 0) : dstE n p = 0 ∧ rtE i = true := by
  unfold elayTE at h
  by_cases hs : dstE n p = 0
  · rw [if_pos hs] at h
    refine ⟨hs, ?_⟩
    unfold eputE at h
    cases hr : rtE i
    · rw [hr] at h; simp at h
    · rfl
  · rw [if_neg hs] at h; exact absurd h hs
theorem elayTX_le {l : List UInt8} {p : Int} {i : Ent} : (elayTX l p i).length ≤ 256 := by
  unfold elayTX
  split
  · rename_i h
    obtain ⟨h1, h2, h3⟩ := dstE_zero h
    cases hr : rtE i
    · simp
    · rw [if_pos rfl, layAt_length _ _ _ (by rw [layE_length (rtE_enR hr).nm]; omega)]; omega
  · simp
theorem elayTX_ok {l : List UInt8} {p : Int} {i : Ent} (h : elayTE l.length p i = 0) : (elayTX l p i).length = 256 ∧ part32 (elayTX l p i) p = layE i ∧ 0 ≤ p ∧ p < 8 ∧ dstE (elayTX l p i).length p = 0 ∧ rtE i = true := by
  obtain ⟨h0, hr⟩ := elayTE_zero h
  obtain ⟨h1, h2, h3⟩ := dstE_zero h0
  have hli := layE_length (rtE_enR hr).nm
  have hX : elayTX l p i = layAt l (32 * p.toNat) (layE i) := by unfold elayTX; rw [if_pos h0, hr, if_pos rfl]
  have hlen : (elayTX l p i).length = 256 := by rw [hX, layAt_length _ _ _ (by rw [hli]; omega), h1]
  refine ⟨hlen, ?_, h2, h3, by rw [hlen, ← h1]; exact h0, hr⟩
  unfold part32
  rw [hX]
  unfold layAt
  rw [List.append_assoc, List.drop_left' (by simp; omega), List.take_left' hli]
/-- What is laid is read there. -/
theorem eread_laid {l : List UInt8} {p : Int} {i : Ent} (h : elayTE l.length p i = 0) : ereadV (elayTX l p i) p = i ∧ ereadE (elayTX l p i) p = 0 := by
  obtain ⟨_, hp, _, _, h0, hr⟩ := elayTX_ok h
  obtain ⟨g1, g2⟩ := get_layE hr
  unfold ereadV ereadE
  rw [if_pos h0, if_pos h0, hp, g1, g2]
  exact ⟨rfl, rfl⟩
theorem mem_come {k : Nat} {x : Fin 8} (h : x ∈ come k) : x.1 < k := by
  unfold come at h
  obtain ⟨i, hi, e⟩ := List.mem_take_iff_getElem.1 h
  rw [← e]
  simp at hi ⊢
  omega
theorem first_le {p : Fin 8 → Bool} : ∀ (n k : Nat) (h : k < 8), k ≤ n → p ⟨k, h⟩ = true → 0 ≤ firstOf p ∧ firstOf p ≤ (k : Int) := by
  intro n
  induction n with
  | zero =>
    intro k h hk hp
    obtain rfl : k = 0 := by omega
    rw [first_at h (fun x hx => by have := mem_come hx; omega) hp]; omega
  | succ n ih =>
    intro k h hk hp
    by_cases hn : ∀ x ∈ come k, p x = false
    · rw [first_at h hn hp]; omega
    · obtain ⟨x, hx, hpx⟩ : ∃ x, x ∈ come k ∧ p x = true := by
        refine Classical.byContradiction (fun hc => hn (fun x hx => ?_))
        cases hq : p x
        · rfl
        · exact absurd ⟨x, hx, hq⟩ hc
      have h1 := mem_come hx
      have h2 := ih x.1 x.2 (by omega) hpx
      omega
/-- What is laid is found, there or ahead. -/
theorem find_laid {l : List UInt8} {p : Int} {i : Ent} (h : elayTE l.length p i = 0) (hs : ¬ i.sl = 0) : 0 ≤ findL (elayTX l p i) i.nm ∧ findL (elayTX l p i) i.nm ≤ p := by
  obtain ⟨hl, hp, h2, h3, _, hr⟩ := elayTX_ok h
  obtain ⟨P, rfl⟩ := Int.eq_ofNat_of_zero_le h2
  have hP : P < 8 := by omega
  obtain ⟨g1, g2⟩ := get_layE hr
  have e8 : part8 (elayTX l (P : Int) i) ⟨P, hP⟩ = layE i := by
    unfold part32 at hp
    rw [Int.toNat_natCast] at hp
    exact hp
  unfold findL
  rw [if_pos hl]
  refine first_le P P hP (Nat.le_refl _) ?_
  unfold findP entB
  rw [e8, g1, g2]
  simp [hs]
/-- What lies there. -/
structure TE (w0 : World) (i : Ent) (sp : Option Addr) (cap : Nat) (l : List UInt8) (g : Nat) (W : World) : Prop where
  b : Below w0.heap.size w0 W
  ent : EntAt W w0.heap.size i
  own : Blk W g 5 (l ++ a5)
  arg : Arg W sp cap l
theorem TE.up {w0 W W' : World} {i : Ent} {sp : Option Addr} {cap g : Nat} {l : List UInt8} (h : TE w0 i sp cap l g W) (hb : Below W.heap.size W W') : TE w0 i sp cap l g W' :=
  ⟨h.b.trans (hb.mono h.b.size), h.ent.up hb, h.own.below hb h.own.lt, h.arg.below hb (Nat.le_refl _)⟩
set_option maxRecDepth 100000 in
set_option maxHeartbeats 8000000 in
theorem direntLays_any (sp : Option Addr) (cap : Nat) (l : List UInt8) (p : Int) (i : Ent) (w : World) (ha : Arg w sp cap l) (hN : i.nm.length ≤ 9223372036854775807) :
    Calls Try.prog 8 #[.slice sp l.length cap, .int .i64 p, .agg (eA i)] w fun e w' => e = .returned (.bool true) ∧ Below w.heap.size w w' := by
  have la := ha.len
  have hz := zeroE
  have HX0 : Hid _ := PE.start w i
  have HA0 := ha.below HX0.out.b (Nat.le_refl _)
  have LT := lent_any sp cap l _ HA0
  have HA : Hid (Arg w sp cap l) := ha
  clear ha HA0
  go_enter Try.func8, Try.ntmps8
  go_wp2_with fail
  refine LT.mono ?_
  rintro e w5 ⟨g, rfl, hg1, hG1, h1⟩
  have HT5 : Hid (TE w i sp cap l g w5) := ⟨(HX0.out.up h1).b, (HX0.out.up h1).ent, hg1, HA.out.below (HX0.out.up h1).b (Nat.le_refl _)⟩
  clear LT HX0 hg1 h1 HA
  have LA := dlayT_any (some ⟨g, 0, none⟩) (l.length + 8) l p i w5 (lent_arg HT5.out.own (by omega))
  have HXL : Hid ((elayTX l p i).length ≤ 256) := elayTX_le
  go_upto_region 2 with fail
  go_wp2_with (first | ((with_reducible show wpList _ _ _ ({ dst := _, op := Op.load 48 _, type := _, pos := _, after := _, guard := _ } :: _) _ _); refine wpList_load_ent rfl _ rfl (HT5.out.ent) rfl ?_))
  refine LA.mono ?_
  rintro e w6 ⟨vx, rfl, hx6, h6⟩
  have HT6 : Hid _ := HT5.out.up h6
  have HO6 : Hid (Own w6 w5.heap.size vx (elayTX l p i)) := hx6
  have hszo : w.heap.size < w5.heap.size := HT5.out.ent.lt
  have hszg : g < w5.heap.size := HT5.out.own.lt
  have HAB : Hid (∀ b o, sp = some ⟨b, o, none⟩ → 0 < l.length → b < w5.heap.size) := by
    intro b o hb hl
    obtain ⟨b', o', e, k, _⟩ := HT5.out.arg.src.at' hl
    rw [hb] at e; cases e; exact k
  clear HT5 LA hx6 h6
  have RL := rdlayT_any sp cap l p i hN w6 HT6.out.arg
  go_upto_region 3 with fail
  go_wp2_with (first | ((with_reducible show wpList _ _ _ ({ dst := _, op := Op.load 48 _, type := _, pos := _, after := _, guard := _ } :: _) _ _); refine wpList_load_ent rfl _ rfl (HT6.out.ent) rfl ?_))
  refine RL.mono ?_
  rintro e w7 ⟨vy, rfl, hy7, h7⟩
  have HT7 : Hid _ := HT6.out.up h7
  have HO7 : Hid (Own w7 w5.heap.size vx (elayTX l p i)) := HO6.out.below h7 (Nat.le_refl _)
  obtain ⟨sx, cx, hvx, hax⟩ := HO7.out.arg (by have := HXL.out; omega)
  obtain ⟨sy, cy, hvy, hay⟩ := hy7.arg (by have := HXL.out; omega)
  subst hvx; subst hvy
  have kx := conv_str hax.src (elayTX l p i).length cx rfl
  have ky := conv_str hay.src (elayTX l p i).length cy rfl
  have hss : ((str (elayTX l p i)).toList == (str (elayTX l p i)).toList) = true := by simp
  have KP := kept_any g sp cap l w7 HT7.out.own HT7.out.arg
  clear HT6 HO6 RL hy7 h7 hax hay
  go_upto_region 4 with fail
  generalize hE : elayTE l.length p i = E at *
  go_wp2_with fail
  refine KP.mono ?_
  rintro e w8 ⟨rfl, h8⟩
  have HT8 : Hid _ := HT7.out.up h8
  have HO8 : Hid (Own w8 w5.heap.size (.slice sx (elayTX l p i).length cx) (elayTX l p i)) := HO7.out.below h8 (Nat.le_refl _)
  clear HT7 HO7 KP h8 kx ky hss
  have HEE : Hid (elayTE l.length p i = E) := hE
  clear hE
  by_cases hE0 : E = 0
  · have hl8 := (elayTX_ok (HEE.out.trans hE0)).1
    obtain ⟨gx, cx', hv8, hgx, hgx2, harg⟩ := HO8.out.at0 (by omega) (by omega)
    cases hv8
    obtain ⟨g1, g2⟩ := eread_laid (HEE.out.trans hE0)
    have RD := dreadT_any (some ⟨gx, 0, none⟩) cx (elayTX l p i) p w8 harg
    rw [g1, g2] at RD
    have HFD : Hid (∀ W, Arg W (some ⟨gx, 0, none⟩) cx (elayTX l p i) → Calls Try.prog 42 #[.slice (some ⟨gx, 0, none⟩) 256 cx, .string (str i.nm)] W fun e w' => e = .returned (.int .i64 (findL (elayTX l p i) i.nm)) ∧ Below W.heap.size W w') := fun W h => by
      have := find_in (some ⟨gx, 0, none⟩) cx (elayTX l p i) i.nm W h
      rw [hl8] at this
      exact this
    have HFL : Hid (¬ i.sl = 0 → 0 ≤ findL (elayTX l p i) i.nm ∧ findL (elayTX l p i) i.nm ≤ p) := fun hs => find_laid (HEE.out.trans hE0) hs
    have HAR : Hid (Arg w8 (some ⟨gx, 0, none⟩) cx (elayTX l p i)) := harg
    rw [hl8] at RD HO8 ⊢
    subst hE0
    clear g1 g2 harg HEE
    go_wp2_with fail
    refine RD.mono ?_
    rintro e w9 ⟨rfl, h9⟩
    have HT9 : Hid _ := HT8.out.up h9
    have HO9 : Hid (Own w9 w5.heap.size (.slice (some ⟨gx, 0, none⟩) 256 cx) (elayTX l p i)) := HO8.out.below h9 (Nat.le_refl _)
    have HA9 : Hid (Arg w9 (some ⟨gx, 0, none⟩) cx (elayTX l p i)) := HAR.out.below h9 (Nat.le_refl _)
    have hgx9 : gx < w9.heap.size := by have := h9.size; omega
    clear HT8 HO8 RD h9 HAR
    have HZ : Hid (EntAt (w9.alloc (.cells (eA zent) 48)) w9.heap.size zent) := ent_new w9 zent
    have HZB : Hid (Below w9.heap.size w9 (w9.alloc (.cells (eA zent) 48))) := (Below.refl _ _).alloc (Nat.le_refl _) _
    go_upto_region 9 with (first | ((with_reducible show wpList _ _ _ ({ dst := _, op := Op.store 48 _ _, type := _, pos := _, after := _, guard := _ } :: _) _ _); refine wpList_store_ent rfl _ _ rfl (HZ.out) rfl rfl ?_; intro w10 H10 b10 z10))
    have h10 : Below w9.heap.size w9 w10 := HZB.out.trans b10.bel
    have HT10 : Hid _ := HT9.out.up h10
    have HI10 : Hid (EntAt w10 w9.heap.size i) := H10
    have HO10 : Hid (Own w10 w5.heap.size (.slice (some ⟨gx, 0, none⟩) 256 cx) (elayTX l p i)) := HO9.out.below h10 (Nat.le_refl _)
    have HA10 : Hid (Arg w10 (some ⟨gx, 0, none⟩) cx (elayTX l p i)) := HA9.out.below h10 (Nat.le_refl _)
    have z10' := h10.size
    clear HT9 HO9 HA9 HZ HZB h10 H10 b10 z10
    have c2 := HT10.out.ent.c2
    go_wp2_with fail
    refine (HFD.out _ HA10.out).mono ?_
    rintro e w11 ⟨rfl, h11⟩
    have HT11 : Hid _ := HT10.out.up h11
    have HI11 : Hid (EntAt w11 w9.heap.size i) := HI10.out.up h11
    have HO11 : Hid (Own w11 w5.heap.size (.slice (some ⟨gx, 0, none⟩) 256 cx) (elayTX l p i)) := HO10.out.below h11 (Nat.le_refl _)
    have c0 := HT11.out.ent.c0
    clear c2 HT10 HI10 HO10 HA10 h11 HFD
    generalize findL (elayTX l p i) i.nm = FL at *
    have HNE : Hid ((!eqE i i) = false) := neqE_refl i
    go_upto_region 10 with fail
    have SP := spoil_any w5.heap.size _ _ w11 HO11.out (by omega)
    by_cases hs : i.sl = 0
    · rw [hs] at c0
      clear HFL hs
      go_wp2_with (first | ((with_reducible show wpList _ _ _ ({ dst := _, op := Op.load 48 _, type := _, pos := _, after := _, guard := _ } :: _) _ _); refine wpList_load_ent rfl _ rfl (HI11.out) rfl ?_) | ((with_reducible show wpList _ _ _ ({ dst := _, op := Op.load 48 _, type := _, pos := _, after := _, guard := _ } :: _) _ _); refine wpList_load_ent rfl _ rfl (HT11.out.ent) rfl ?_) | ((with_reducible show wpList _ _ _ ({ dst := _, op := Op.binOp BinOp.neq 48 _ _ 48, type := _, pos := _, after := _, guard := _ } :: _) _ _); refine wpList_neq_ent rfl _ _ rfl rfl rfl HNE.out ?_))
      refine SP.mono ?_
      rintro e w12 ⟨rfl, h12⟩
      have h12' : w11.grownBy w12 (some gx) := h12
      have HB12 : Hid (Below w.heap.size w w12) := HT11.out.b.trans (grown_below h12' HT11.out.b.size (by omega))
      have HG12 : Hid (Blk w12 g 5 (l ++ a5)) := HT11.out.own.grown h12' (by omega)
      have hA12 : Arg w12 sp cap l := by
        by_cases hl0 : 0 < l.length
        · exact HT11.out.arg.grown h12' (fun b o hb => by have := HAB.out b o hb hl0; omega)
        · have e0 : l = [] := List.eq_nil_of_length_eq_zero (by omega)
          subst e0
          rcases HT11.out.arg with h | ⟨b, off, h1, h2, h3, h4, h5, h6⟩
          · exact .inl h
          · exact .inr ⟨b, off, h1, h2, h3, h4, h5, Src.nil _ _⟩
      have KP := kept_any g sp cap l w12 HG12.out hA12
      clear h12 h12' SP HT11 HI11 HO11 hA12
      go_wp2_with fail
      refine KP.mono ?_
      rintro e w13 ⟨rfl, h13⟩
      have HB13 : Hid (Below w.heap.size w w13) := HB12.out.trans (h13.mono HB12.out.size)
      clear KP h13 HB12
      go_wp2_with fail
      refine (eknown_any _).mono ?_
      rintro e w14 ⟨rfl, h14⟩
      have HB14 := HB13.out.trans (h14.mono HB13.out.size)
      go_wp2
      go_ret
      exact ⟨rfl, HB14⟩
    · have hsb : (i.sl == 0) = false := by simpa using hs
      obtain ⟨f1, f2⟩ := HFL.out hs
      have n1 : ¬ FL < 0 := by omega
      have n2 : ¬ p < FL := by omega
      clear HFL f1 f2
      go_wp2_with (first | ((with_reducible show wpList _ _ _ ({ dst := _, op := Op.load 48 _, type := _, pos := _, after := _, guard := _ } :: _) _ _); refine wpList_load_ent rfl _ rfl (HI11.out) rfl ?_) | ((with_reducible show wpList _ _ _ ({ dst := _, op := Op.load 48 _, type := _, pos := _, after := _, guard := _ } :: _) _ _); refine wpList_load_ent rfl _ rfl (HT11.out.ent) rfl ?_) | ((with_reducible show wpList _ _ _ ({ dst := _, op := Op.binOp BinOp.neq 48 _ _ 48, type := _, pos := _, after := _, guard := _ } :: _) _ _); refine wpList_neq_ent rfl _ _ rfl rfl rfl HNE.out ?_))
      refine SP.mono ?_
      rintro e w12 ⟨rfl, h12⟩
      have h12' : w11.grownBy w12 (some gx) := h12
      have HB12 : Hid (Below w.heap.size w w12) := HT11.out.b.trans (grown_below h12' HT11.out.b.size (by omega))
      have HG12 : Hid (Blk w12 g 5 (l ++ a5)) := HT11.out.own.grown h12' (by omega)
      have hA12 : Arg w12 sp cap l := by
        by_cases hl0 : 0 < l.length
        · exact HT11.out.arg.grown h12' (fun b o hb => by have := HAB.out b o hb hl0; omega)
        · have e0 : l = [] := List.eq_nil_of_length_eq_zero (by omega)
          subst e0
          rcases HT11.out.arg with h | ⟨b, off, h1, h2, h3, h4, h5, h6⟩
          · exact .inl h
          · exact .inr ⟨b, off, h1, h2, h3, h4, h5, Src.nil _ _⟩
      have KP := kept_any g sp cap l w12 HG12.out hA12
      clear h12 h12' SP HT11 HI11 HO11 hA12
      go_wp2_with fail
      refine KP.mono ?_
      rintro e w13 ⟨rfl, h13⟩
      have HB13 : Hid (Below w.heap.size w w13) := HB12.out.trans (h13.mono HB12.out.size)
      clear KP h13 HB12
      go_wp2_with fail
      refine (eknown_any _).mono ?_
      rintro e w14 ⟨rfl, h14⟩
      have HB14 := HB13.out.trans (h14.mono HB13.out.size)
      go_wp2
      go_ret
      exact ⟨rfl, HB14⟩
  · have hEb : (E == 0) = false := by simpa using hE0
    go_wp2_with fail
    refine (eknown_any _).mono ?_
    rintro e w9 ⟨rfl, h9⟩
    have HB := (HT8.out.up h9).b
    go_wp2
    go_ret
    exact ⟨rfl, HB⟩
end Go.Proofs.Ytabmogeicpphoaa
