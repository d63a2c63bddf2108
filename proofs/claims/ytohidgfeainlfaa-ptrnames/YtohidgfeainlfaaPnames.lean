/- The walk of leveelaw09.PtrNames. -/
import Derived.Test.YtohidgfeainlfaaPknown
import Derived.Test.YtohidgfeainlfaaRnm
import Derived.Test.YtohidgfeainlfaaIntsP
namespace Go.Proofs.Ytohidgfeainlfaa
open Go.RowKit
theorem leNum_leB : ∀ n x, x < 256 ^ n → leNum (leB n x) = x
  | 0, x, h => by simp at h; simp [leB, leNum, h]
  | n + 1, x, h => by
    have h2 : x / 256 < 256 ^ n := by rw [Nat.pow_succ] at h; exact Nat.div_lt_of_lt_mul (by omega)
    have e : (UInt8.ofNat (x % 256)).toNat = x % 256 := by simp
    rw [leB, leNum, leNum_leB n (x / 256) h2, e]
    omega
theorem getNum_leB (n x : Nat) (hn : n ≤ 8) (h : x < 256 ^ n) : getNum (leB n x) = x := by
  rw [getNum_le (by rw [leB_length]; exact hn), leNum_leB n x h]
theorem lent_arg {W : World} {g : Nat} {l : List UInt8} (h : Blk W g 5 (l ++ a5)) (hl : l.length ≤ 140737488355328) : Arg W (some ⟨g, 0, none⟩) (l.length + 8) l := by
  refine .inr ⟨g, 0, rfl, by omega, by omega, by omega, hl, ?_⟩
  have := h.src.pre l.length
  rw [List.take_left' rfl] at this
  exact this
theorem Arg.grown {w w' : World} {sp : Option Addr} {cap g : Nat} {l : List UInt8} (h : Arg w sp cap l) (hg : w.grownBy w' (some g)) (hne : ∀ b o, sp = some ⟨b, o, none⟩ → b ≠ g) : Arg w' sp cap l := by
  rcases h with h | ⟨b, off, h1, h2, h3, h4, h5, h6⟩
  · exact .inl h
  · refine .inr ⟨b, off, h1, h2, h3, h4, h5, ?_⟩
    rcases h6 with h6 | ⟨b', off', e, k1, k2⟩
    · exact .inl h6
    · refine .inr ⟨b', off', e, by have := hg.size; omega, fun j hj => ?_⟩
      have hb := hg.block b' k1 (by have := hne b' off' e; simpa using this)
      exact (World.cell?_of_block (w := w) (a := ⟨b', off' + j, none⟩) hb).trans (k2 j hj)
theorem Blk.grown {w w' : World} {q g : Nat} {t : TypeId} {l : List UInt8} (h : Blk w q t l) (hg : w.grownBy w' (some g)) (hne : q ≠ g) : Blk w' q t l := by unfold Blk; rw [hg.block q h.lt (by simpa using hne)]; exact h
theorem Own.at0 {w : World} {base : Nat} {v : Value} {l : List UInt8} (h : Own w base v l) (h0 : 0 < l.length) (hl : l.length ≤ 140737488355328) : ∃ g cap, v = .slice (some ⟨g, 0, none⟩) l.length cap ∧ base ≤ g ∧ g < w.heap.size ∧ Arg w (some ⟨g, 0, none⟩) cap l := by
  obtain ⟨ao, cap, hv, ha⟩ := h.arg hl
  obtain ⟨h1, h2⟩ := h
  rcases h2 with ⟨rfl, h3⟩ | ⟨g, cap', cur, rfl, hg, hh, hn, hm, hs, hx⟩
  · omega
  · cases hv
    exact ⟨g, _, rfl, hg, (Array.getElem?_eq_some_iff.1 hh).1, ha⟩
theorem grown_below {w w' : World} {base g : Nat} (hg : w.grownBy w' (some g)) (hb : base ≤ w.heap.size) (hbg : base ≤ g) : Below base w w' :=
  (Below.refl _ _).grown hg hb (fun k hk => by cases hk; exact hbg)
/-- The i-th name of a block that another one was laid into. -/
theorem nmP_same (l X : List UInt8) (i : Nat) (hl : l.length = 256) (hX : X.length = 4) (hi : i < 64) : nmP (layAt l (4 * i) X) i = X := by
  unfold nmP layAt
  rw [List.append_assoc, List.drop_left' (by rw [List.length_take]; omega), List.take_left' hX]
theorem nmP_other (l X : List UInt8) (i k : Nat) (hl : l.length = 256) (hX : X.length = 4) (hi : i < 64) (h : k ≠ i) : nmP (layAt l (4 * i) X) k = nmP l k := by
  unfold nmP layAt
  apply List.ext_getElem?
  intro j
  simp only [List.getElem?_take, List.getElem?_drop, List.getElem?_append, List.length_append, List.length_take, hX, hl]
  by_cases hj : j < 4
  · rw [if_pos hj, if_pos hj]
    by_cases h1 : 4 * k + j < 4 * i
    · rw [if_pos (by omega), if_pos (by omega), if_pos (by omega)]
    · rw [if_neg (by omega)]
      congr 1
      omega
  · rw [if_neg hj, if_neg hj]
theorem nms_getD (l : List UInt8) (k : Nat) (hk : k < 64) : (nms l).getD k 0 = nmv l k := by simp [nms, hk]
theorem nm_laid {l : List UInt8} {i m : Int} (h : plE l.length i m = 0) (k : Nat) (hk : k < 64) : (nms (plX l i m)).getD k 0 = if (k : Int) = i then m else (nms l).getD k 0 := by
  obtain ⟨h1, h2, h3⟩ := plE_zero h
  rw [nms_getD _ _ hk, nms_getD _ _ hk, plX, if_pos h]
  have hX : (leB 4 m.toNat).length = 4 := leB_length _ _
  by_cases hki : (k : Int) = i
  · rw [if_pos hki]
    obtain rfl : k = i.toNat := by omega
    unfold nmv
    rw [nmP_same _ _ _ h1 hX hk, getNum_leB 4 _ (by omega) (by omega)]
    omega
  · rw [if_neg hki]
    unfold nmv
    rw [nmP_other _ _ _ _ h1 hX (by omega) (by omega)]
/-- What lies there: the bytes that came, and those that were lent. -/
structure TP (w0 : World) (sp : Option Addr) (cap : Nat) (l : List UInt8) (g : Nat) (W : World) : Prop where
  b : Below w0.heap.size w0 W
  own : Blk W g 5 (l ++ a5)
  arg : Arg W sp cap l
theorem TP.up {w0 W W' : World} {sp : Option Addr} {cap g : Nat} {l : List UInt8} (h : TP w0 sp cap l g W) (hb : Below W.heap.size W W') : TP w0 sp cap l g W' :=
  ⟨h.b.trans (hb.mono h.b.size), h.own.below hb h.own.lt, h.arg.below hb (Nat.le_refl _)⟩
theorem TP.drewN {w0 W : World} {sp : Option Addr} {cap g : Nat} {l : List UInt8} (h : TP w0 sp cap l g W) (n : Nat) : TP w0 sp cap l g (W.drewN n) := h.up (below_drewN (Below.refl _ _) n)
theorem nmX_le (l : List UInt8) : ((nmX l).length : Int) ≤ 1000000 := by
  unfold nmX; split
  · rw [nms_length]; omega
  · simp
attribute [local go_sem] decF decT
set_option maxRecDepth 100000 in
set_option maxHeartbeats 8000000 in
theorem ptrNames_any (sp : Option Addr) (cap : Nat) (l : List UInt8) (i m : Int) (w : World) (ha : Arg w sp cap l) :
    Calls Try.prog 4 #[.slice sp l.length cap, .int .i64 i, .int .i64 m] w fun e w' => e = .returned (.bool true) ∧ Below w.heap.size w w' := by
  have la := ha.len
  have KN := pknown_any
  have LT := lent_any sp cap l w ha
  have HA : Hid (Arg w sp cap l) := ha
  clear ha
  go_enter Try.func4, Try.ntmps4
  go_wp2_with fail
  refine LT.mono ?_
  clear LT
  rintro e w1 ⟨g, rfl, hg1, hG1, h1⟩
  have HT1 : Hid (TP w sp cap l g w1) := ⟨h1, hg1, HA.out.below h1 (Nat.le_refl _)⟩
  clear hg1 hG1 h1 HA
  have NM := names_any (some ⟨g, 0, none⟩) (l.length + 8) l w1 (lent_arg HT1.out.own (by omega))
  go_wp2_with fail
  refine NM.mono ?_
  clear NM
  rintro e w2 ⟨vx, rfl, hx2, h2⟩
  have HT2 : Hid _ := HT1.out.up h2
  have HX2 : Hid (OwnI w2 w1.heap.size vx (nmX l)) := hx2
  clear HT1 h2 hx2
  have RN := rnames_any sp cap l w2 HT2.out.arg
  go_wp2_with fail
  refine RN.mono ?_
  clear RN
  rintro e w3 ⟨vy, rfl, hy3, h3⟩
  have HT3 : Hid _ := HT2.out.up h3
  have HX3 : Hid (OwnI w3 w1.heap.size vx (nmX l)) := HX2.out.below h3 (Nat.le_refl _)
  have HY3 : Hid (OwnI w3 w2.heap.size vy (nmX l)) := hy3
  clear HT2 HX2 h3 hy3
  have LA := play_any (some ⟨g, 0, none⟩) (l.length + 8) l i m w3 (lent_arg HT3.out.own (by omega))
  go_wp2_with fail
  refine LA.mono ?_
  clear LA
  rintro e w4 ⟨vp, rfl, hp4, h4⟩
  have HT4 : Hid _ := HT3.out.up h4
  have HX4 : Hid (OwnI w4 w1.heap.size vx (nmX l)) := HX3.out.below h4 (Nat.le_refl _)
  have HY4 : Hid (OwnI w4 w2.heap.size vy (nmX l)) := HY3.out.below h4 (Nat.le_refl _)
  have HP4 : Hid (Own w4 w3.heap.size vp (plX l i m)) := hp4
  have hszg : g < w3.heap.size := HT3.out.own.lt
  have hsz0 : w.heap.size ≤ w3.heap.size := HT3.out.b.size
  have HAB : Hid (∀ b o, sp = some ⟨b, o, none⟩ → 0 < l.length → b < w3.heap.size) := by
    intro b o hb hl
    obtain ⟨b', o', e, k, _⟩ := HT3.out.arg.src.at' hl
    rw [hb] at e; cases e; exact k
  clear HT3 HX3 HY3 h4 hp4
  have RL := rplay_any sp cap l i m w4 HT4.out.arg
  go_wp2_with fail
  refine RL.mono ?_
  clear RL
  rintro e w5 ⟨vq, rfl, hq5, h5⟩
  have HT5 : Hid _ := HT4.out.up h5
  obtain ⟨ax, cx, hvx, sx, _, _, _⟩ := (HX4.out.below h5 (Nat.le_refl _)).form
  obtain ⟨ay, cy, hvy, sy, _, _, _⟩ := (HY4.out.below h5 (Nat.le_refl _)).form
  have HP5 : Hid (Own w5 w3.heap.size vp (plX l i m)) := HP4.out.below h5 (Nat.le_refl _)
  obtain ⟨ap, cp, hvp, hap⟩ := HP5.out.arg (by have := plX_le l i m; omega)
  obtain ⟨aq, cq, hvq, haq⟩ := hq5.arg (by have := plX_le l i m; omega)
  subst hvx hvy hvp hvq
  have IN := ints_any ax ay (nmX l) (nmX l) cx cy w5 sx sy (nmX_le l) (nmX_le l)
  rw [show (nmX l == nmX l) = true by simp] at IN
  have HSY : Hid (SrcI w5 ay (nmX l)) := sy
  have HSP : Hid (Arg w5 ap cp (plX l i m)) := hap
  have HSQ : Hid (Arg w5 aq cq (plX l i m)) := haq
  clear HT4 HX4 HY4 HP4 h5 hq5 sx sy hap haq
  have hss : ((str (plX l i m)).toList == (str (plX l i m)).toList) = true := by simp
  have HE : Hid _ := @plE_zero l.length i m
  have HEZ : Hid _ := @nm_laid l i m
  have HEL : Hid _ := @plX_len l i m
  have HXL : Hid _ := plX_le l i m
  go_wp2_with fail
  refine IN.mono ?_
  clear IN
  rintro e w6 ⟨rfl, h6⟩
  have HT6 : Hid _ := HT5.out.up h6
  have HSY6 : Hid (SrcI w6 ay (nmX l)) := HSY.out.below h6 (Nat.le_refl _)
  have HP6 : Hid (Own w6 w3.heap.size (.slice ap (plX l i m).length cp) (plX l i m)) := HP5.out.below h6 (Nat.le_refl _)
  have kx := conv_str (HSP.out.below h6 (Nat.le_refl _)).src (plX l i m).length cp rfl
  have ky := conv_str (HSQ.out.below h6 (Nat.le_refl _)).src (plX l i m).length cq rfl
  have KP := kept_any g sp cap l w6 HT6.out.own HT6.out.arg
  clear HT5 HSY HSP HSQ h6 HP5
  generalize hE : plE l.length i m = E at *
  have HEE : Hid _ := hE
  clear hE
  go_wp2_with fail
  refine KP.mono ?_
  clear KP kx ky hss
  rintro e w7 ⟨rfl, h7⟩
  have HT7 : Hid _ := HT6.out.up h7
  have HSY7 : Hid (SrcI w7 ay (nmX l)) := HSY6.out.below h7 (Nat.le_refl _)
  have HP7 : Hid (Own w7 w3.heap.size (.slice ap (plX l i m).length cp) (plX l i m)) := HP6.out.below h7 (Nat.le_refl _)
  clear HT6 HSY6 HP6 h7
  by_cases hE0 : E = 0
  · subst hE0
    have HL256 : Hid (l.length = 256) := (HE.out rfl).1
    have hpl := HEL.out rfl
    have HLD : Hid (∀ k, k < 64 → (nms (plX l i m)).getD k 0 = if (k : Int) = i then m else (nms l).getD k 0) := HEZ.out rfl
    clear HE HEZ HEL HEE HXL
    have HNX : Hid (nmX l = nms l) := if_pos HL256.out
    rw [HNX.out] at HSY7 ⊢
    clear HNX
    obtain ⟨gp, cp', hv8, hgp, hgp2, harg⟩ := HP7.out.at0 (by omega) (by omega)
    cases hv8
    have NM := names_any (some ⟨gp, 0, none⟩) cp (plX l i m) w7 harg
    rw [hpl] at NM HP7 ⊢
    rw [show nmX (plX l i m) = nms (plX l i m) from if_pos hpl, show szE 256 = 0 from rfl] at NM
    clear harg
    go_wp2_with fail
    refine NM.mono ?_
    clear NM
    rintro e w8 ⟨vn, rfl, hn8, h8⟩
    have HT8 : Hid _ := HT7.out.up h8
    have HSY8 : Hid (SrcI w8 ay (nms l)) := HSY7.out.below h8 (Nat.le_refl _)
    have HP8 : Hid (Own w8 w3.heap.size (.slice (some ⟨gp, 0, none⟩) 256 cp) (plX l i m)) := HP7.out.below h8 (Nat.le_refl _)
    have hgp8 : gp < w8.heap.size := by have := h8.size; omega
    clear HT7 HSY7 HP7 h8
    obtain ⟨an, cn, hvn, sn, _, _, _⟩ := hn8.form
    subst hvn
    have hln : (nms (plX l i m)).length = 64 := nms_length _
    have hlm : (nms l).length = 64 := nms_length _
    rcases sn with sn | ⟨bn, on, rfl, hbn, hcn⟩
    · rw [sn] at hln; simp at hln
    rcases HSY8.out with sn | ⟨by', oy, rfl, hby, hcy⟩
    · rw [sn] at hlm; simp at hlm
    have HCN : Hid (∀ j, j < 64 → w8.cell? ⟨bn, on + j, none⟩ = some (.int .i64 ((nms (plX l i m)).getD j 0))) := fun j hj => hcn j (by omega)
    have HCY : Hid (∀ j, j < 64 → w8.cell? ⟨by', oy + j, none⟩ = some (.int .i64 ((nms l).getD j 0))) := fun j hj => hcy j (by omega)
    rw [hln, hlm]
    clear hcn hcy hn8 hln hlm HSY8
    generalize nms (plX l i m) = N at *
    generalize nms l = Y at *
    go_wp2
    go_loopw [18] (fun t wr => ∃ k : Nat, k ≤ 64 ∧ t = .int .i64 k ∧ Hid (Below w8.heap.size w8 wr)) (fun t _ => 64 - (intOf t).toNat)
    case atStart => exact ⟨0, by omega, rfl, Below.refl _ _⟩
    case round =>
      obtain ⟨k, hk, rfl, HWR⟩ := hrel
      by_cases hlt : (k : Int) < 64
      · have HC1 : Hid (∀ W, Below w8.heap.size w8 W → W.cell? ⟨bn, on + k, none⟩ = some (.int .i64 (N.getD k 0))) := fun W h => (h.cell (p := ⟨bn, on + k, none⟩) hbn).trans (HCN.out k (by omega))
        have HC2 : Hid (∀ W, Below w8.heap.size w8 W → W.cell? ⟨by', oy + k, none⟩ = some (.int .i64 (Y.getD k 0))) := fun W h => (h.cell (p := ⟨by', oy + k, none⟩) hby).trans (HCY.out k (by omega))
        have HX : Hid _ := HLD.out k (by omega)
        have HWD : Hid (Below w8.heap.size w8 wr.drew) := HWR.out.drew
        clear HT8 HP8 HLD HCN HCY
        by_cases hki : (k : Int) = i
        · have HC3 : Hid (∀ W, Below w8.heap.size w8 W → W.cell? ⟨bn, on + k, none⟩ = some (.int .i64 m)) := fun W h => by rw [HC1.out W h, HX.out, if_pos hki]
          subst hki
          clear HX HC1
          generalize Y.getD k 0 = y at *
          go_wp2_with fail
          refine wp_region_held_drew (S := (fun W => Below w8.heap.size w8 W)) (by kernel_rfl) HWD.out (fun hH => ?_)
          refine takeH (i := 0) (dst := some 91) (v := ?v1) rfl rfl (by kernel_rfl) (by kernel_rfl) (by kernel_rfl) (fun _ _ _ h => h) rfl ?hy1 hH rfl ?rest1
          case hy1 => (intro W hW; have q1 := HC3.out W hW; have q2 := HC2.out W hW; clear hW; go_simp; try with_reducible rfl)
          (try simp only [Act.put, List.setIfInBounds_toArray, List.set_cons_zero, List.set_cons_succ])
          refine takeH (i := 1) (dst := some 92) (v := ?v2) rfl rfl (by kernel_rfl) (by kernel_rfl) (by kernel_rfl) (fun _ _ _ h => h) rfl ?hy2 hH rfl ?rest2
          case hy2 => (intro W hW; have q1 := HC3.out W hW; have q2 := HC2.out W hW; clear hW; go_simp; try with_reducible rfl)
          (try simp only [Act.put, List.setIfInBounds_toArray, List.set_cons_zero, List.set_cons_succ])
          refine takeH (i := 2) (dst := some 93) (v := ?v3) rfl rfl (by kernel_rfl) (by kernel_rfl) (by kernel_rfl) (fun _ _ _ h => h) rfl ?hy3 hH rfl ?rest3
          case hy3 => (intro W hW; have q1 := HC3.out W hW; have q2 := HC2.out W hW; clear hW; go_simp; try with_reducible rfl)
          (try simp only [Act.put, List.setIfInBounds_toArray, List.set_cons_zero, List.set_cons_succ])
          refine takeH (i := 3) (dst := some 94) (v := ?v4) rfl rfl (by kernel_rfl) (by kernel_rfl) (by kernel_rfl) (fun _ _ _ h => h) rfl ?hy4 hH rfl ?rest4
          case hy4 => (intro W hW; have q1 := HC3.out W hW; have q2 := HC2.out W hW; clear hW; go_simp; try with_reducible rfl)
          (try simp only [Act.put, List.setIfInBounds_toArray, List.set_cons_zero, List.set_cons_succ])
          refine takeH (i := 4) (dst := some 95) (v := ?v5) rfl rfl (by kernel_rfl) (by kernel_rfl) (by kernel_rfl) (fun _ _ _ h => h) rfl ?hy5 hH rfl ?rest5
          case hy5 => (intro W hW; have q1 := HC3.out W hW; have q2 := HC2.out W hW; clear hW; go_simp; try with_reducible rfl)
          (try simp only [Act.put, List.setIfInBounds_toArray, List.set_cons_zero, List.set_cons_succ])
          refine takeH (i := 5) (dst := some 96) (v := ?v6) rfl rfl (by kernel_rfl) (by kernel_rfl) (by kernel_rfl) (fun _ _ _ h => h) rfl ?hy6 hH rfl ?rest6
          case hy6 => (intro W hW; have q1 := HC3.out W hW; have q2 := HC2.out W hW; clear hW; go_simp; try with_reducible rfl)
          (try simp only [Act.put, List.setIfInBounds_toArray, List.set_cons_zero, List.set_cons_succ])
          refine takeH (i := 6) (dst := some 97) (v := ?v7) rfl rfl (by kernel_rfl) (by kernel_rfl) (by kernel_rfl) (fun _ _ _ h => h) rfl ?hy7 hH rfl ?rest7
          case hy7 => (intro W hW; have q1 := HC3.out W hW; have q2 := HC2.out W hW; clear hW; go_simp; try with_reducible rfl)
          (try simp only [Act.put, List.setIfInBounds_toArray, List.set_cons_zero, List.set_cons_succ])
          refine takeH (i := 7) (dst := some 98) (v := ?v8) rfl rfl (by kernel_rfl) (by kernel_rfl) (by kernel_rfl) (fun _ _ _ h => h) rfl ?hy8 hH rfl ?rest8
          case hy8 => (intro W hW; have q1 := HC3.out W hW; have q2 := HC2.out W hW; clear hW; go_simp; try with_reducible rfl)
          (try simp only [Act.put, List.setIfInBounds_toArray, List.set_cons_zero, List.set_cons_succ])
          refine takeH (i := 8) (dst := some 99) (v := ?v9) rfl rfl (by kernel_rfl) (by kernel_rfl) (by kernel_rfl) (fun _ _ _ h => h) rfl ?hy9 hH rfl ?rest9
          case hy9 => (intro W hW; have q1 := HC3.out W hW; have q2 := HC2.out W hW; clear hW; go_simp; try with_reducible rfl)
          (try simp only [Act.put, List.setIfInBounds_toArray, List.set_cons_zero, List.set_cons_succ])
          refine takeH (i := 9) (dst := some 100) (v := ?v10) rfl rfl (by kernel_rfl) (by kernel_rfl) (by kernel_rfl) (fun _ _ _ h => h) rfl ?hy10 hH rfl ?rest10
          case hy10 => (intro W hW; have q1 := HC3.out W hW; have q2 := HC2.out W hW; clear hW; go_simp; try with_reducible rfl)
          (try simp only [Act.put, List.setIfInBounds_toArray, List.set_cons_zero, List.set_cons_succ])
          refine takeH (i := 10) (dst := some 101) (v := ?v11) rfl rfl (by kernel_rfl) (by kernel_rfl) (by kernel_rfl) (fun _ _ _ h => h) rfl ?hy11 hH rfl ?rest11
          case hy11 => (intro W hW; have q1 := HC3.out W hW; have q2 := HC2.out W hW; clear hW; go_simp; try with_reducible rfl)
          (try simp only [Act.put, List.setIfInBounds_toArray, List.set_cons_zero, List.set_cons_succ])
          refine takeH (i := 11) (dst := some 102) (v := ?v12) rfl rfl (by kernel_rfl) (by kernel_rfl) (by kernel_rfl) (fun _ _ _ h => h) rfl ?hy12 hH rfl ?rest12
          case hy12 => (intro W hW; have q1 := HC3.out W hW; have q2 := HC2.out W hW; clear hW; go_simp; try with_reducible rfl)
          (try simp only [Act.put, List.setIfInBounds_toArray, List.set_cons_zero, List.set_cons_succ])
          refine takeH (i := 12) (dst := some 103) (v := ?v13) rfl rfl (by kernel_rfl) (by kernel_rfl) (by kernel_rfl) (fun _ _ _ h => h) rfl ?hy13 hH rfl ?rest13
          case hy13 => (intro W hW; have q1 := HC3.out W hW; have q2 := HC2.out W hW; clear hW; go_simp; try with_reducible rfl)
          (try simp only [Act.put, List.setIfInBounds_toArray, List.set_cons_zero, List.set_cons_succ])
          refine takeH (i := 13) (dst := some 104) (v := ?v14) rfl rfl (by kernel_rfl) (by kernel_rfl) (by kernel_rfl) (fun _ _ _ h => h) rfl ?hy14 hH rfl ?rest14
          case hy14 => (intro W hW; have q1 := HC3.out W hW; have q2 := HC2.out W hW; clear hW; go_simp; try with_reducible rfl)
          (try simp only [Act.put, List.setIfInBounds_toArray, List.set_cons_zero, List.set_cons_succ])
          refine takeH (i := 14) (dst := some 105) (v := ?v15) rfl rfl (by kernel_rfl) (by kernel_rfl) (by kernel_rfl) (fun _ _ _ h => h) rfl ?hy15 hH rfl ?rest15
          case hy15 => (intro W hW; have q1 := HC3.out W hW; have q2 := HC2.out W hW; clear hW; go_simp; try with_reducible rfl)
          (try simp only [Act.put, List.setIfInBounds_toArray, List.set_cons_zero, List.set_cons_succ])
          refine takeH (i := 15) (dst := some 106) (v := ?v16) rfl rfl (by kernel_rfl) (by kernel_rfl) (by kernel_rfl) (fun _ _ _ h => h) rfl ?hy16 hH rfl ?rest16
          case hy16 => (intro W hW; have q1 := HC3.out W hW; have q2 := HC2.out W hW; clear hW; go_simp; try with_reducible rfl)
          (try simp only [Act.put, List.setIfInBounds_toArray, List.set_cons_zero, List.set_cons_succ])
          refine takeU (i := 16) (dst := some 107) rfl rfl (by kernel_rfl) (by kernel_rfl) (by kernel_rfl) (fun _ _ _ h => h) rfl hH rfl ?_
          (try simp only [Act.put, List.setIfInBounds_toArray, List.set_cons_zero, List.set_cons_succ])
          refine takeU (i := 17) (dst := some 108) rfl rfl (by kernel_rfl) (by kernel_rfl) (by kernel_rfl) (fun _ _ _ h => h) rfl hH rfl ?_
          (try simp only [Act.put, List.setIfInBounds_toArray, List.set_cons_zero, List.set_cons_succ])
          refine takeU (i := 18) (dst := some 109) rfl rfl (by kernel_rfl) (by kernel_rfl) (by kernel_rfl) (fun _ _ _ h => h) rfl hH rfl ?_
          (try simp only [Act.put, List.setIfInBounds_toArray, List.set_cons_zero, List.set_cons_succ])
          refine takeU (i := 19) (dst := some 110) rfl rfl (by kernel_rfl) (by kernel_rfl) (by kernel_rfl) (fun _ _ _ h => h) rfl hH rfl ?_
          (try simp only [Act.put, List.setIfInBounds_toArray, List.set_cons_zero, List.set_cons_succ])
          refine takeU (i := 20) (dst := some 111) rfl rfl (by kernel_rfl) (by kernel_rfl) (by kernel_rfl) (fun _ _ _ h => h) rfl hH rfl ?_
          (try simp only [Act.put, List.setIfInBounds_toArray, List.set_cons_zero, List.set_cons_succ])
          refine takeU (i := 21) (dst := some 112) rfl rfl (by kernel_rfl) (by kernel_rfl) (by kernel_rfl) (fun _ _ _ h => h) rfl hH rfl ?_
          (try simp only [Act.put, List.setIfInBounds_toArray, List.set_cons_zero, List.set_cons_succ])
          refine takeU (i := 22) (dst := some 113) rfl rfl (by kernel_rfl) (by kernel_rfl) (by kernel_rfl) (fun _ _ _ h => h) rfl hH rfl ?_
          (try simp only [Act.put, List.setIfInBounds_toArray, List.set_cons_zero, List.set_cons_succ])
          refine takeU (i := 23) (dst := some 114) rfl rfl (by kernel_rfl) (by kernel_rfl) (by kernel_rfl) (fun _ _ _ h => h) rfl hH rfl ?_
          (try simp only [Act.put, List.setIfInBounds_toArray, List.set_cons_zero, List.set_cons_succ])
          refine takeU (i := 24) (dst := some 115) rfl rfl (by kernel_rfl) (by kernel_rfl) (by kernel_rfl) (fun _ _ _ h => h) rfl hH rfl ?_
          (try simp only [Act.put, List.setIfInBounds_toArray, List.set_cons_zero, List.set_cons_succ])
          refine takeH (i := 25) (dst := some 116) (v := ?v17) rfl rfl (by kernel_rfl) (by kernel_rfl) (by kernel_rfl) (fun _ _ _ h => h) rfl ?hy17 hH rfl ?rest17
          case hy17 => (intro W hW; have q1 := HC3.out W hW; have q2 := HC2.out W hW; clear hW; go_simp; try with_reducible rfl)
          (try simp only [Act.put, List.setIfInBounds_toArray, List.set_cons_zero, List.set_cons_succ])
          refine takeH (i := 26) (dst := some 117) (v := ?v18) rfl rfl (by kernel_rfl) (by kernel_rfl) (by kernel_rfl) (fun _ _ _ h => h) rfl ?hy18 hH rfl ?rest18
          case hy18 => (intro W hW; have q1 := HC3.out W hW; have q2 := HC2.out W hW; clear hW; go_simp; try with_reducible rfl)
          (try simp only [Act.put, List.setIfInBounds_toArray, List.set_cons_zero, List.set_cons_succ])
          refine wpAnyH_done (by kernel_rfl) ?_ _
          clear hH
          go_wp2
          go_roundw
          case rel => exact ⟨k + 1, by omega, by go_num, HWD⟩
          case measure => simp [intOf]; omega
        · have HC3 : Hid (∀ W, Below w8.heap.size w8 W → W.cell? ⟨bn, on + k, none⟩ = some (.int .i64 (Y.getD k 0))) := fun W h => by rw [HC1.out W h, HX.out, if_neg hki]
          have hki' : ((k : Int) == i) = false := beq_eq_false_iff_ne.2 hki
          have hki2 : ((k : Int) != i) = true := by simpa using hki
          have hki3 : DecF ((k : Int) = i) := ⟨hki⟩
          clear HX HC1
          generalize Y.getD k 0 = y at *
          go_wp2_with fail
          refine wp_region_held_drew (S := (fun W => Below w8.heap.size w8 W)) (by kernel_rfl) HWD.out (fun hH => ?_)
          refine takeH (i := 0) (dst := some 91) (v := ?v19) rfl rfl (by kernel_rfl) (by kernel_rfl) (by kernel_rfl) (fun _ _ _ h => h) rfl ?hy19 hH rfl ?rest19
          case hy19 => (intro W hW; have q1 := HC3.out W hW; have q2 := HC2.out W hW; clear hW; go_simp; try with_reducible rfl)
          (try simp only [Act.put, List.setIfInBounds_toArray, List.set_cons_zero, List.set_cons_succ])
          refine takeH (i := 1) (dst := some 92) (v := ?v20) rfl rfl (by kernel_rfl) (by kernel_rfl) (by kernel_rfl) (fun _ _ _ h => h) rfl ?hy20 hH rfl ?rest20
          case hy20 => (intro W hW; have q1 := HC3.out W hW; have q2 := HC2.out W hW; clear hW; go_simp; try with_reducible rfl)
          (try simp only [Act.put, List.setIfInBounds_toArray, List.set_cons_zero, List.set_cons_succ])
          refine takeH (i := 2) (dst := some 93) (v := ?v21) rfl rfl (by kernel_rfl) (by kernel_rfl) (by kernel_rfl) (fun _ _ _ h => h) rfl ?hy21 hH rfl ?rest21
          case hy21 => (intro W hW; have q1 := HC3.out W hW; have q2 := HC2.out W hW; clear hW; go_simp; try with_reducible rfl)
          (try simp only [Act.put, List.setIfInBounds_toArray, List.set_cons_zero, List.set_cons_succ])
          refine takeH (i := 3) (dst := some 94) (v := ?v22) rfl rfl (by kernel_rfl) (by kernel_rfl) (by kernel_rfl) (fun _ _ _ h => h) rfl ?hy22 hH rfl ?rest22
          case hy22 => (intro W hW; have q1 := HC3.out W hW; have q2 := HC2.out W hW; clear hW; go_simp; try with_reducible rfl)
          (try simp only [Act.put, List.setIfInBounds_toArray, List.set_cons_zero, List.set_cons_succ])
          refine takeU (i := 4) (dst := some 95) rfl rfl (by kernel_rfl) (by kernel_rfl) (by kernel_rfl) (fun _ _ _ h => h) rfl hH rfl ?_
          (try simp only [Act.put, List.setIfInBounds_toArray, List.set_cons_zero, List.set_cons_succ])
          refine takeU (i := 5) (dst := some 96) rfl rfl (by kernel_rfl) (by kernel_rfl) (by kernel_rfl) (fun _ _ _ h => h) rfl hH rfl ?_
          (try simp only [Act.put, List.setIfInBounds_toArray, List.set_cons_zero, List.set_cons_succ])
          refine takeU (i := 6) (dst := some 97) rfl rfl (by kernel_rfl) (by kernel_rfl) (by kernel_rfl) (fun _ _ _ h => h) rfl hH rfl ?_
          (try simp only [Act.put, List.setIfInBounds_toArray, List.set_cons_zero, List.set_cons_succ])
          refine takeU (i := 7) (dst := some 98) rfl rfl (by kernel_rfl) (by kernel_rfl) (by kernel_rfl) (fun _ _ _ h => h) rfl hH rfl ?_
          (try simp only [Act.put, List.setIfInBounds_toArray, List.set_cons_zero, List.set_cons_succ])
          refine takeU (i := 8) (dst := some 99) rfl rfl (by kernel_rfl) (by kernel_rfl) (by kernel_rfl) (fun _ _ _ h => h) rfl hH rfl ?_
          (try simp only [Act.put, List.setIfInBounds_toArray, List.set_cons_zero, List.set_cons_succ])
          refine takeU (i := 9) (dst := some 100) rfl rfl (by kernel_rfl) (by kernel_rfl) (by kernel_rfl) (fun _ _ _ h => h) rfl hH rfl ?_
          (try simp only [Act.put, List.setIfInBounds_toArray, List.set_cons_zero, List.set_cons_succ])
          refine takeH (i := 10) (dst := some 101) (v := ?v23) rfl rfl (by kernel_rfl) (by kernel_rfl) (by kernel_rfl) (fun _ _ _ h => h) rfl ?hy23 hH rfl ?rest23
          case hy23 => (intro W hW; have q1 := HC3.out W hW; have q2 := HC2.out W hW; clear hW; go_simp; try with_reducible rfl)
          (try simp only [Act.put, List.setIfInBounds_toArray, List.set_cons_zero, List.set_cons_succ])
          refine takeH (i := 11) (dst := some 102) (v := ?v24) rfl rfl (by kernel_rfl) (by kernel_rfl) (by kernel_rfl) (fun _ _ _ h => h) rfl ?hy24 hH rfl ?rest24
          case hy24 => (intro W hW; have q1 := HC3.out W hW; have q2 := HC2.out W hW; clear hW; go_simp; try with_reducible rfl)
          (try simp only [Act.put, List.setIfInBounds_toArray, List.set_cons_zero, List.set_cons_succ])
          refine takeH (i := 12) (dst := some 103) (v := ?v25) rfl rfl (by kernel_rfl) (by kernel_rfl) (by kernel_rfl) (fun _ _ _ h => h) rfl ?hy25 hH rfl ?rest25
          case hy25 => (intro W hW; have q1 := HC3.out W hW; have q2 := HC2.out W hW; clear hW; go_simp; try with_reducible rfl)
          (try simp only [Act.put, List.setIfInBounds_toArray, List.set_cons_zero, List.set_cons_succ])
          refine takeH (i := 13) (dst := some 104) (v := ?v26) rfl rfl (by kernel_rfl) (by kernel_rfl) (by kernel_rfl) (fun _ _ _ h => h) rfl ?hy26 hH rfl ?rest26
          case hy26 => (intro W hW; have q1 := HC3.out W hW; have q2 := HC2.out W hW; clear hW; go_simp; try with_reducible rfl)
          (try simp only [Act.put, List.setIfInBounds_toArray, List.set_cons_zero, List.set_cons_succ])
          refine takeH (i := 14) (dst := some 105) (v := ?v27) rfl rfl (by kernel_rfl) (by kernel_rfl) (by kernel_rfl) (fun _ _ _ h => h) rfl ?hy27 hH rfl ?rest27
          case hy27 => (intro W hW; have q1 := HC3.out W hW; have q2 := HC2.out W hW; clear hW; go_simp; try with_reducible rfl)
          (try simp only [Act.put, List.setIfInBounds_toArray, List.set_cons_zero, List.set_cons_succ])
          refine takeH (i := 15) (dst := some 106) (v := ?v28) rfl rfl (by kernel_rfl) (by kernel_rfl) (by kernel_rfl) (fun _ _ _ h => h) rfl ?hy28 hH rfl ?rest28
          case hy28 => (intro W hW; have q1 := HC3.out W hW; have q2 := HC2.out W hW; clear hW; go_simp; try with_reducible rfl)
          (try simp only [Act.put, List.setIfInBounds_toArray, List.set_cons_zero, List.set_cons_succ])
          refine takeH (i := 16) (dst := some 107) (v := ?v29) rfl rfl (by kernel_rfl) (by kernel_rfl) (by kernel_rfl) (fun _ _ _ h => h) rfl ?hy29 hH rfl ?rest29
          case hy29 => (intro W hW; have q1 := HC3.out W hW; have q2 := HC2.out W hW; clear hW; go_simp; try with_reducible rfl)
          (try simp only [Act.put, List.setIfInBounds_toArray, List.set_cons_zero, List.set_cons_succ])
          refine takeH (i := 17) (dst := some 108) (v := ?v30) rfl rfl (by kernel_rfl) (by kernel_rfl) (by kernel_rfl) (fun _ _ _ h => h) rfl ?hy30 hH rfl ?rest30
          case hy30 => (intro W hW; have q1 := HC3.out W hW; have q2 := HC2.out W hW; clear hW; go_simp; try with_reducible rfl)
          (try simp only [Act.put, List.setIfInBounds_toArray, List.set_cons_zero, List.set_cons_succ])
          refine takeH (i := 18) (dst := some 109) (v := ?v31) rfl rfl (by kernel_rfl) (by kernel_rfl) (by kernel_rfl) (fun _ _ _ h => h) rfl ?hy31 hH rfl ?rest31
          case hy31 => (intro W hW; have q1 := HC3.out W hW; have q2 := HC2.out W hW; clear hW; go_simp; try with_reducible rfl)
          (try simp only [Act.put, List.setIfInBounds_toArray, List.set_cons_zero, List.set_cons_succ])
          refine takeH (i := 19) (dst := some 110) (v := ?v32) rfl rfl (by kernel_rfl) (by kernel_rfl) (by kernel_rfl) (fun _ _ _ h => h) rfl ?hy32 hH rfl ?rest32
          case hy32 => (intro W hW; have q1 := HC3.out W hW; have q2 := HC2.out W hW; clear hW; go_simp; try with_reducible rfl)
          (try simp only [Act.put, List.setIfInBounds_toArray, List.set_cons_zero, List.set_cons_succ])
          refine takeH (i := 20) (dst := some 111) (v := ?v33) rfl rfl (by kernel_rfl) (by kernel_rfl) (by kernel_rfl) (fun _ _ _ h => h) rfl ?hy33 hH rfl ?rest33
          case hy33 => (intro W hW; have q1 := HC3.out W hW; have q2 := HC2.out W hW; clear hW; go_simp; try with_reducible rfl)
          (try simp only [Act.put, List.setIfInBounds_toArray, List.set_cons_zero, List.set_cons_succ])
          refine takeH (i := 21) (dst := some 112) (v := ?v34) rfl rfl (by kernel_rfl) (by kernel_rfl) (by kernel_rfl) (fun _ _ _ h => h) rfl ?hy34 hH rfl ?rest34
          case hy34 => (intro W hW; have q1 := HC3.out W hW; have q2 := HC2.out W hW; clear hW; go_simp; try with_reducible rfl)
          (try simp only [Act.put, List.setIfInBounds_toArray, List.set_cons_zero, List.set_cons_succ])
          refine takeH (i := 22) (dst := some 113) (v := ?v35) rfl rfl (by kernel_rfl) (by kernel_rfl) (by kernel_rfl) (fun _ _ _ h => h) rfl ?hy35 hH rfl ?rest35
          case hy35 => (intro W hW; have q1 := HC3.out W hW; have q2 := HC2.out W hW; clear hW; go_simp; try with_reducible rfl)
          (try simp only [Act.put, List.setIfInBounds_toArray, List.set_cons_zero, List.set_cons_succ])
          refine takeH (i := 23) (dst := some 114) (v := ?v36) rfl rfl (by kernel_rfl) (by kernel_rfl) (by kernel_rfl) (fun _ _ _ h => h) rfl ?hy36 hH rfl ?rest36
          case hy36 => (intro W hW; have q1 := HC3.out W hW; have q2 := HC2.out W hW; clear hW; go_simp; try with_reducible rfl)
          (try simp only [Act.put, List.setIfInBounds_toArray, List.set_cons_zero, List.set_cons_succ])
          refine takeH (i := 24) (dst := some 115) (v := ?v37) rfl rfl (by kernel_rfl) (by kernel_rfl) (by kernel_rfl) (fun _ _ _ h => h) rfl ?hy37 hH rfl ?rest37
          case hy37 => (intro W hW; have q1 := HC3.out W hW; have q2 := HC2.out W hW; clear hW; go_simp; try with_reducible rfl)
          (try simp only [Act.put, List.setIfInBounds_toArray, List.set_cons_zero, List.set_cons_succ])
          refine takeH (i := 25) (dst := some 116) (v := ?v38) rfl rfl (by kernel_rfl) (by kernel_rfl) (by kernel_rfl) (fun _ _ _ h => h) rfl ?hy38 hH rfl ?rest38
          case hy38 => (intro W hW; have q1 := HC3.out W hW; have q2 := HC2.out W hW; clear hW; go_simp; try with_reducible rfl)
          (try simp only [Act.put, List.setIfInBounds_toArray, List.set_cons_zero, List.set_cons_succ])
          refine takeH (i := 26) (dst := some 117) (v := ?v39) rfl rfl (by kernel_rfl) (by kernel_rfl) (by kernel_rfl) (fun _ _ _ h => h) rfl ?hy39 hH rfl ?rest39
          case hy39 => (intro W hW; have q1 := HC3.out W hW; have q2 := HC2.out W hW; clear hW; go_simp; try with_reducible rfl)
          (try simp only [Act.put, List.setIfInBounds_toArray, List.set_cons_zero, List.set_cons_succ])
          refine wpAnyH_done (by kernel_rfl) ?_ _
          clear hH
          go_wp2
          go_roundw
          case rel => exact ⟨k + 1, by omega, by go_num, HWD⟩
          case measure => simp [intOf]; omega
      · obtain rfl : k = 64 := by omega
        have HT9 : Hid _ := HT8.out.up HWR.out
        have HP9 : Hid (Own wr w3.heap.size (.slice (some ⟨gp, 0, none⟩) 256 cp) (plX l i m)) := HP8.out.below HWR.out (Nat.le_refl _)
        clear HT8 HP8 HLD HCN HCY
        have hgp9 : gp < wr.heap.size := by have := HWR.out.size; omega
        have SP := spoil_any w3.heap.size _ _ wr HP9.out (by omega)
        go_wp2_with fail
        refine SP.mono ?_
        rintro e w10 ⟨rfl, h10⟩
        have h10' : wr.grownBy w10 (some gp) := h10
        have HB10 : Hid (Below w.heap.size w w10) := HT9.out.b.trans (grown_below h10' HT9.out.b.size (by omega))
        have HG10 : Hid (Blk w10 g 5 (l ++ a5)) := HT9.out.own.grown h10' (by omega)
        have hA10 : Arg w10 sp cap l := HT9.out.arg.grown h10' (fun b o hb => by have := HAB.out b o hb (by have := HL256.out; omega); omega)
        have KP := kept_any g sp cap l w10 HG10.out hA10
        clear h10 h10' SP HT9 HP9 hA10
        go_wp2_with fail
        refine KP.mono ?_
        rintro e w11 ⟨rfl, h11⟩
        have HB11 : Hid (Below w.heap.size w w11) := HB10.out.trans (h11.mono HB10.out.size)
        clear KP h11 HB10
        go_wp2_with fail
        refine (KN _).mono ?_
        rintro e w12 ⟨rfl, h12⟩
        have HB12 := HB11.out.trans (h12.mono HB11.out.size)
        go_wp2
        go_ret
        exact ⟨rfl, HB12⟩
  · have hE1 : (E == 0) = false := beq_eq_false_iff_ne.2 hE0
    go_wp2_with fail
    refine (KN _).mono ?_
    rintro e w8 ⟨rfl, h8⟩
    have HB8 := (HT7.out.up h8).b
    go_wp2
    go_ret
    exact ⟨rfl, HB8⟩
end Go.Proofs.Ytohidgfeainlfaa
