/- What CacheReads holds fast: the cache, what was laid, what a call leaves. -/
import Derived.Test.YtglmbihahldfcaaDbytes
import Derived.Test.YtglmbihahldfcaaCstay
namespace Go.Proofs.Ytglmbihahldfcaa
open Go.RowKit
set_option maxRecDepth 100000
theorem lastOf_last (sf : List UInt8) (ws : List (List UInt8)) (d : List UInt8) : lastOf sf (ws ++ [d]) = d := by
  have := lastOf_snoc sf (ws ++ [d]) ws.length (by simp)
  rw [List.take_of_length_le (by simp)] at this
  rw [this]; simp
theorem lst_upd_same (σ : CSt) (n : Nat) (d : List UInt8) (v' : Value) (L : List CE) (K : Nat) (vs' : Nat → Value) : lst { σ with ov := v', L := L, K := K, ws := upd σ.ws n (σ.ws n ++ [d]), vs := vs' } n = d := by
  unfold lst
  show lastOf (σ.sf n) (upd σ.ws n (σ.ws n ++ [d]) n) = d
  rw [upd_same, lastOf_last]
theorem lst_upd_other (σ : CSt) (n b : Nat) (d : List UInt8) (v' : Value) (L : List CE) (K : Nat) (vs' : Nat → Value) (h : b ≠ n) : lst { σ with ov := v', L := L, K := K, ws := upd σ.ws n (σ.ws n ++ [d]), vs := vs' } b = lst σ b := by
  unfold lst
  show lastOf (σ.sf b) (upd σ.ws n (σ.ws n ++ [d]) b) = _
  rw [upd_other _ _ _ h]
/-- Rows of texts. -/
def svs (S : List (List UInt8)) : List Value := S.map fun s => .string (str s)
def RowS (w : World) (g : Nat) (S : List (List UInt8)) : Prop := w.heap[g]? = some (.cells (svs S).toArray 9 (0, 0))
section
variable {w w' : World} {g : Nat} {S : List (List UInt8)}
theorem RowS.lt (h : RowS w g S) : g < w.heap.size := (Array.getElem?_eq_some_iff.1 h).1
theorem RowS.up (h : RowS w g S) (hb : Below w.heap.size w w') : RowS w' g S := by unfold RowS; rw [hb.block g h.lt]; exact h
theorem RowS.fr {T : Nat → Prop} (h : RowS w g S) (hf : Fr T w w') (hg : ¬ T g) : RowS w' g S := by unfold RowS; rw [hf.blk g h.lt hg]; exact h
theorem RowS.cell (h : RowS w g S) (j : Nat) (hj : j < S.length) : w.cell? ⟨g, j, none⟩ = some (.string (str (S.getD j []))) := by
  rw [cell_of_row w g j _ _ _ h]; simp [svs, hj]
theorem RowS.frozen (h : RowS w g S) (j : Nat) : w.frozen? ⟨g, j, none⟩ = false := frozen_of_row w g j _ _ h
theorem RowS.set (h : RowS w g S) (j : Nat) (x : List UInt8) : RowS (w.setCell ⟨g, j, none⟩ (.string (str x))) g (S.set j x) := by
  have e : svs (S.set j x) = (svs S).set j (.string (str x)) := by simp [svs]
  have e2 : (svs (S.set j x)).toArray = (svs S).toArray.setIfInBounds j (.string (str x)) := by rw [e]; simp
  unfold RowS at h ⊢
  rw [e2]
  exact heap_setCell_same w g j _ 9 _ h
end
theorem getDS_ne (S : List (List UInt8)) {n j : Nat} (h : ¬ n = j) (x : List UInt8) : (S.set j x).getD n [] = S.getD n [] := by
  simp only [List.getD_eq_getElem?_getD, List.getElem?_set]
  rw [if_neg (fun c => h c.symm)]
theorem getDS_eq (S : List (List UInt8)) {n : Nat} (h : n < S.length) (x : List UInt8) : (S.set n x).getD n [] = x := by
  simp [List.getD_eq_getElem?_getD, h]
/-- What block b is, held against what was laid last: s; l: what the disk says; j: other bytes were written. -/
def Inv (s : List UInt8) (L : List CE) (l : List UInt8) (j : Prop) (b : Nat) : Prop :=
  (s.length = 256 ∧ (∀ e ∈ L, e.n = b → e.d = s) ∧ ((∀ e ∈ L, ¬ e.n = b) → l = s)) ∨ (s = [] ∧ ∀ e ∈ L, e.n = b → e.d = l ∨ j)
theorem Inv.mono {s l : List UInt8} {L : List CE} {j j' : Prop} {b : Nat} (h : Inv s L l j b) (hj : j → j') : Inv s L l j' b := by
  rcases h with h | ⟨h1, h2⟩
  · exact .inl h
  · exact .inr ⟨h1, fun e he hb => (h2 e he hb).imp id hj⟩
/-- How a block that is asked turns the list. -/
structure Turns (σ : CSt) (L' : List CE) : Prop where
  a : ∀ e ∈ L', e ∈ σ.L ∨ (e.d = lst σ e.n ∧ ∀ x ∈ σ.L, ¬ x.n = e.n)
  b : ∀ e ∈ σ.L, (∃ e' ∈ L', e'.n = e.n) ∨ e.d = lst σ e.n
theorem Turns.inv {σ : CSt} {L' : List CE} (h : Turns σ L') {s : List UInt8} {j : Prop} {b : Nat} (hi : Inv s σ.L (lst σ b) j b) : Inv s L' (lst σ b) j b := by
  rcases hi with ⟨h1, h2, h3⟩ | ⟨h1, h2⟩
  · refine .inl ⟨h1, fun e he hb => ?_, fun hno => ?_⟩
    · rcases h.a e he with h4 | ⟨h4, h5⟩
      · exact h2 e h4 hb
      · rw [h4, hb]
        exact h3 fun x hx c => h5 x hx (c.trans hb.symm)
    · by_cases hx : ∃ e ∈ σ.L, e.n = b
      · obtain ⟨e, he, hb⟩ := hx
        rcases h.b e he with ⟨e', he', hn⟩ | h4
        · exact absurd (hn.trans hb) (hno e' he')
        · rw [← h2 e he hb, h4, hb]
      · exact h3 fun e he c => hx ⟨e, he, c⟩
  · refine .inr ⟨h1, fun e he hb => ?_⟩
    rcases h.a e he with h4 | ⟨h4, _⟩
    · exact h2 e h4 hb
    · exact .inl (by rw [h4, hb])
section
variable {w0 w w' : World} {base : Nat} {σ σ' : CSt}
theorem AskR.turns {n q K' : Nat} {L' : List CE} (h : AskR σ n q L' K') : Turns σ L' := by
  cases h with
  | @hit A B e hL hn hq =>
    refine ⟨fun x hx => .inl ?_, fun y hy => .inl ⟨y, ?_, rfl⟩⟩
    · rw [hL]
      simp only [tch, List.mem_append, List.mem_cons, List.not_mem_nil, or_false] at hx ⊢
      rcases hx with (hx | hx) | hx
      · exact .inl hx
      · exact .inr (.inr hx)
      · exact .inr (.inl hx)
    · rw [hL] at hy
      simp only [tch, List.mem_append, List.mem_cons, List.not_mem_nil, or_false] at hy ⊢
      rcases hy with hy | hy | hy
      · exact .inl (.inl hy)
      · exact .inr hy
      · exact .inl (.inr hy)
  | free hne hl =>
    refine ⟨fun x hx => ?_, fun y hy => .inl ⟨y, List.mem_append.2 (.inl hy), rfl⟩⟩
    rcases List.mem_append.1 hx with hx | hx
    · exact .inl hx
    · rw [List.mem_singleton] at hx; subst hx
      exact .inr ⟨rfl, hne⟩
  | @evict A B e hne hl hL hA he =>
    have hp : e.d = lst σ e.n := by
      have := he
      simp only [goB, dirtyB, Bool.and_eq_true, Bool.not_not, beq_iff_eq] at this
      exact this.2
    refine ⟨fun x hx => ?_, fun y hy => ?_⟩
    · simp only [addE, List.mem_append, List.mem_cons, List.not_mem_nil, or_false] at hx
      rcases hx with (hx | hx) | hx
      · exact .inl (by rw [hL]; simp [hx])
      · exact .inl (by rw [hL]; simp [hx])
      · subst hx; exact .inr ⟨rfl, hne⟩
    · rw [hL] at hy
      simp only [List.mem_append, List.mem_cons] at hy
      rcases hy with hy | hy | hy
      · exact .inl ⟨y, by simp [addE, hy], rfl⟩
      · subst hy; exact .inr hp
      · exact .inl ⟨y, by simp [addE, hy], rfl⟩
/-- The cache of CacheReads; S: what was laid; J: which blocks were written as other bytes. -/
structure RdC (base κ : Nat) (w0 w : World) (σ : CSt) (p dp pb : Nat) (S : List (List UInt8)) (J : Nat → Prop) : Prop where
  cs : CS w base σ (nums σ.L)
  len : σ.L.length ≤ σ.most
  k4 : σ.most ≤ 4
  dn : σ.dn = 4
  pp : σ.p = p
  dpp : σ.dp = dp
  en : σ.en = false
  lf : σ.lf = 0
  kb : σ.K ≤ κ
  wl : ∀ n, (σ.ws n).length ≤ κ
  sl : S.length = 4
  off : ¬ Sk σ pb
  plt : pb < w.heap.size
  pbb : base ≤ pb
  inv : ∀ b, b < 4 → Inv (S.getD b []) σ.L (lst σ b) (J b) b
  be : Below base w0 w
theorem RdC.up {κ p dp pb : Nat} {S : List (List UInt8)} {J : Nat → Prop} (h : RdC base κ w0 w σ p dp pb S J) (hb : Below w.heap.size w w') : RdC base κ w0 w' σ p dp pb S J :=
  { h with cs := h.cs.up hb, plt := by have := h.plt; have := hb.size; omega, be := h.be.trans (hb.mono h.cs.bs) }
theorem RdC.more {κ κ' p dp pb : Nat} {S : List (List UInt8)} {J J' : Nat → Prop} (h : RdC base κ w0 w σ p dp pb S J) (hk : κ ≤ κ') (hJ : ∀ b, J b → J' b) : RdC base κ' w0 w σ p dp pb S J' :=
  { h with kb := Nat.le_trans h.kb hk, wl := fun n => Nat.le_trans (h.wl n) hk, inv := fun b hb => (h.inv b hb).mono (hJ b) }
theorem RdC.store {κ p dp pb o : Nat} {v : Value} {S : List (List UInt8)} {J : Nat → Prop} (h : RdC base κ w0 w σ p dp pb S J) : RdC base κ w0 (w.setCell ⟨pb, o, none⟩ v) σ p dp pb S J :=
  { h with
    cs := h.cs.fr (S := fun j => j = pb) ((Fr.refl _ _).setCell pb o _ rfl) fun j hj e => h.off (e ▸ hj)
    plt := by have := h.plt; simp [World.setCell]; exact this
    be := h.be.setCell h.pbb _ }
theorem RdC.done {κ p dp pb : Nat} {S S' : List (List UInt8)} {J J' : Nat → Prop} (h : RdC base κ w0 w σ p dp pb S J) (hD : Done base σ σ' w w') (hl : σ'.L.length ≤ σ'.most) (hm : σ'.most = σ.most) (hd : σ'.dn = σ.dn) (hp : σ'.p = σ.p) (hdp : σ'.dp = σ.dp) (he : σ'.en = σ.en) (hlf : σ'.lf = σ.lf) (hK : σ'.K ≤ σ.K + 1) (hw : ∀ n, (σ'.ws n).length ≤ (σ.ws n).length + 1) (hs : S'.length = 4) (hi : ∀ b, b < 4 → Inv (S'.getD b []) σ'.L (lst σ' b) (J' b) b) : RdC base (κ + 1) w0 w' σ' p dp pb S' J' := by
  have hlt := h.plt
  refine ⟨hD.cs, hl, by rw [hm]; exact h.k4, hd.trans h.dn, hp.trans h.pp, hdp.trans h.dpp, he.trans h.en, hlf.trans h.lf, by have := h.kb; omega, fun n => by have := h.wl n; have := hw n; omega, hs, fun c => ?_, by have := hD.st.fr.size; omega, h.pbb, hi, h.be.trans hD.be⟩
  rcases hD.st.sub pb c with c | c
  · exact h.off c
  · omega
/-- What a call leaves beside the row. -/
structure Lft (base κ : Nat) (w0 : World) (p dp pb : Nat) (σ : CSt) (w w' : World) (σ' : CSt) (S' : List (List UInt8)) (J' : Nat → Prop) : Prop where
  st : RdC base κ w0 w' σ' p dp pb S' J'
  fr : Fr (Sk σ) w w'
theorem RdC.full {κ p dp pb : Nat} {S : List (List UInt8)} {J : Nat → Prop} (h : RdC base κ w0 w σ p dp pb S J) (hb : Below w.heap.size w w') : Lft base (κ + 1) w0 p dp pb σ w w' σ S J :=
  ⟨(h.up hb).more (Nat.le_succ _) (fun _ c => c), Fr.of_below hb⟩
theorem noTwo_last {P : List CE} {e : CE} (h : ((P ++ [e]).map (·.n)).Nodup) : ∀ x ∈ P, ¬ x.n = e.n := (noTwo_of (A := P) (B := []) h).1
theorem rd_lay {κ p dp pb n : Nat} {S : List (List UInt8)} {J : Nat → Prop} (h : RdC base κ w0 w σ p dp pb S J) (hκ : κ ≤ 1000) (hn : n < 4) (data : List UInt8) (b o c : Nat) (hs : Src w (some ⟨b, o, none⟩) data) (hd : data.length = 256) (hbS : ¬ Sk σ b) :
    Calls Try.prog 21 #[.pointer (some ⟨p, 0, none⟩), .int .i64 (n : Int), .slice (some ⟨b, o, none⟩) 256 c] w fun r w' => (r = .returned (.int .i64 0) ∧ ∃ σ', Lft base (κ + 1) w0 p dp pb σ w w' σ' (S.set n data) J ∧ lst σ' = lst σ) ∨ (r = .returned (.int .i64 5) ∧ Lft base (κ + 1) w0 p dp pb σ w w' σ S J) := by
  obtain rfl := h.pp
  refine (clay_any h.cs n (by rw [h.dn]; exact hn) (by have := h.kb; omega) h.len data b o c hs hd hbS).mono ?_
  rintro r w1 (⟨v', P', e, K', rfl, hD, hR, hen⟩ | ⟨rfl, _, hb⟩)
  · refine .inl ⟨rfl, _, ⟨h.done hD ?_ rfl rfl rfl rfl rfl rfl hR.k.2 (fun n => Nat.le_succ _) (by rw [List.length_set]; exact h.sl) fun b hb => ?_, hD.st.fr⟩, rfl⟩
    · have := hR.len h.len
      simpa using this
    · have hnd : ∀ x ∈ P', ¬ x.n = e.n := noTwo_last (e := { e with d := data }) hD.cs.nd
      show Inv _ (P' ++ [{ e with d := data }]) (lst σ b) (J b) b
      by_cases hbn : b = n
      · subst hbn
        rw [getDS_eq S (by rw [h.sl]; exact hn)]
        refine .inl ⟨hd, fun x hx hxb => ?_, fun hno => absurd hen (hno { e with d := data } (by simp))⟩
        rcases List.mem_append.1 hx with hx | hx
        · exact absurd (hxb.trans hen.symm) (hnd x hx)
        · rw [List.mem_singleton] at hx; subst hx; rfl
      · rw [getDS_ne S hbn]
        have hi := hR.turns.inv (h.inv b hb)
        rcases hi with ⟨h1, h2, h3⟩ | ⟨h1, h2⟩
        · refine .inl ⟨h1, fun x hx hxb => ?_, fun hno => h3 fun x hx hxb => ?_⟩
          · rcases List.mem_append.1 hx with hx | hx
            · exact h2 x (by simp [hx]) hxb
            · rw [List.mem_singleton] at hx; subst hx
              exact absurd (hxb.symm.trans hen) hbn
          · rcases List.mem_append.1 hx with hx | hx
            · exact hno x (by simp [hx]) hxb
            · rw [List.mem_singleton] at hx; subst hx
              exact absurd (hxb.symm.trans hen) hbn
        · refine .inr ⟨h1, fun x hx hxb => ?_⟩
          rcases List.mem_append.1 hx with hx | hx
          · exact h2 x (by simp [hx]) hxb
          · rw [List.mem_singleton] at hx; subst hx
            exact absurd (hxb.symm.trans hen) hbn
  · exact .inr ⟨rfl, h.full hb⟩
theorem RdC.write {κ p dp pb n K' : Nat} {S : List (List UInt8)} {J J' : Nat → Prop} {v' : Value} {P' : List CE} {e : CE} {vs' : Nat → Value} {d : List UInt8} (h : RdC base κ w0 w σ p dp pb S J) (hD : Done base σ { σ with ov := v', L := P' ++ [e], K := K', ws := upd σ.ws n (σ.ws n ++ [d]), vs := vs' } w w') (hR : AskR σ n e.q (P' ++ [e]) K') (hen : e.n = n) (hJ : ∀ b, J b → J' b) (hdJ : d = e.d ∨ J' n) : Lft base (κ + 1) w0 p dp pb σ w w' { σ with ov := v', L := P' ++ [e], K := K', ws := upd σ.ws n (σ.ws n ++ [d]), vs := vs' } S J' := by
  refine ⟨h.done hD (hR.len h.len) rfl rfl rfl rfl rfl rfl hR.k.2 (fun m => ?_) h.sl fun b hb => ?_, hD.st.fr⟩
  · show (upd σ.ws n (σ.ws n ++ [d]) m).length ≤ _
    by_cases hm : m = n
    · subst hm; rw [upd_same]; simp
    · rw [upd_other _ _ _ hm]; omega
  · have hnd : ∀ x ∈ P', ¬ x.n = e.n := noTwo_last hD.cs.nd
    have hi := hR.turns.inv (h.inv b hb)
    show Inv _ (P' ++ [e]) _ (J' b) b
    by_cases hbn : b = n
    · subst hbn
      rw [lst_upd_same]
      rcases hi with ⟨h1, h2, h3⟩ | ⟨h1, h2⟩
      · exact .inl ⟨h1, h2, fun hno => absurd hen (hno e (by simp))⟩
      · refine .inr ⟨h1, fun x hx hxb => ?_⟩
        rcases hdJ with hdJ | hdJ
        · rcases List.mem_append.1 hx with hx | hx
          · exact absurd (hxb.trans hen.symm) (hnd x hx)
          · rw [List.mem_singleton] at hx; subst hx; exact .inl hdJ.symm
        · exact .inr hdJ
    · rw [lst_upd_other _ _ _ _ _ _ _ _ hbn]
      exact hi.mono (hJ b)
theorem rd_write_own {κ p dp pb n : Nat} {S : List (List UInt8)} {J : Nat → Prop} (h : RdC base κ w0 w σ p dp pb S J) (hκ : κ ≤ 1000) (hn : n < 4) :
    Calls Try.prog 23 #[.pointer (some ⟨p, 0, none⟩), .int .i64 (n : Int), .slice none 0 0] w fun r w' => (∃ x, r = .returned (.int .i64 x)) ∧ ∃ σ', Lft base (κ + 1) w0 p dp pb σ w w' σ' S J := by
  obtain rfl := h.pp
  refine (cwrite_own h.cs n (by rw [h.dn]; exact hn) (by have := h.kb; omega) h.len h.en h.lf (by have := h.wl n; omega)).mono ?_
  rintro r w1 (⟨v', P', e, K', vs', rfl, hD, hR, hen⟩ | ⟨rfl, _, hb⟩)
  · exact ⟨⟨_, rfl⟩, _, h.write hD hR hen (fun _ c => c) (.inl rfl)⟩
  · exact ⟨⟨_, rfl⟩, _, h.full hb⟩
theorem rd_write_img {κ p dp pb n : Nat} {S : List (List UInt8)} {J J' : Nat → Prop} (h : RdC base κ w0 w σ p dp pb S J) (hκ : κ ≤ 1000) (hn : n < 4) (hJ : ∀ b, J b → J' b) (hJn : J' n) (data : List UInt8) (b o c : Nat) (hs : Src w (some ⟨b, o, none⟩) data) (hd : data.length = 256) (hbS : ¬ Sk σ b) :
    Calls Try.prog 23 #[.pointer (some ⟨p, 0, none⟩), .int .i64 (n : Int), .slice (some ⟨b, o, none⟩) 256 c] w fun r w' => (∃ x, r = .returned (.int .i64 x)) ∧ ∃ σ', Lft base (κ + 1) w0 p dp pb σ w w' σ' S J' := by
  obtain rfl := h.pp
  refine (cwrite_img h.cs n (by rw [h.dn]; exact hn) (by have := h.kb; omega) h.len h.en h.lf (by have := h.wl n; omega) data b o c hs hd hbS).mono ?_
  rintro r w1 (⟨v', P', e, K', vs', rfl, hD, hR, hen⟩ | ⟨rfl, _, hb⟩)
  · exact ⟨⟨_, rfl⟩, _, h.write hD hR hen hJ (.inr hJn)⟩
  · exact ⟨⟨_, rfl⟩, _, (h.full hb).st.more (Nat.le_refl _) hJ, Fr.of_below hb⟩
theorem rd_drop {κ p dp pb n : Nat} {S : List (List UInt8)} {J : Nat → Prop} (h : RdC base κ w0 w σ p dp pb S J) (hn : n < 4) :
    Calls Try.prog 24 #[.pointer (some ⟨p, 0, none⟩), .int .i64 (n : Int)] w fun r w' => (r = .returned (.int .i64 0) ∧ ∃ σ', Lft base (κ + 1) w0 p dp pb σ w w' σ' (S.set n []) J ∧ lst σ' = lst σ) ∨ (∃ x, r = .returned (.int .i64 x) ∧ (x == 0) = false ∧ Lft base (κ + 1) w0 p dp pb σ w w' σ S J) := by
  obtain rfl := h.pp
  rcases first_split (fun e => decide (e.n = n)) σ.L with hno | ⟨A, e, B, hL, _, he⟩
  · refine (drop_no h.cs (n : Int) (fun x hx => by have := hno x hx; simp at this; omega) (by omega)).mono ?_
    rintro r w1 ⟨rfl, rfl⟩
    exact .inr ⟨20, rfl, rfl, h.full (Below.refl _ _)⟩
  · obtain rfl : e.n = n := by simpa using he
    by_cases hp : e.pin = 0
    · refine (drop_ok h.cs hL hp).mono ?_
      rintro r w1 ⟨rfl, v', hD⟩
      have hnt := h.cs.split hL
      refine .inl ⟨rfl, _, ⟨h.done hD ?_ rfl rfl rfl rfl rfl rfl (Nat.le_succ _) (fun _ => Nat.le_succ _) (by rw [List.length_set]; exact h.sl) fun b hb => ?_, hD.st.fr⟩, rfl⟩
      · have := h.len
        rw [hL] at this
        simp only [List.length_append, List.length_cons] at this ⊢
        omega
      · show Inv _ (A ++ B) (lst σ b) (J b) b
        by_cases hbn : b = e.n
        · subst hbn
          rw [getDS_eq S (by rw [h.sl]; exact hn)]
          refine .inr ⟨rfl, fun x hx hxb => ?_⟩
          rcases List.mem_append.1 hx with hx | hx
          · exact absurd hxb (hnt.1 x hx)
          · exact absurd hxb (hnt.2 x hx)
        · rw [getDS_ne S hbn]
          have hi := h.inv b hb
          rw [hL] at hi
          have hm : ∀ x, x ∈ A ++ B → x ∈ A ++ e :: B := fun x hx => by
            rcases List.mem_append.1 hx with hx | hx
            · simp [hx]
            · simp [hx]
          rcases hi with ⟨h1, h2, h3⟩ | ⟨h1, h2⟩
          · refine .inl ⟨h1, fun x hx => h2 x (hm x hx), fun hno => h3 fun x hx hxb => ?_⟩
            rcases List.mem_append.1 hx with hx | hx
            · exact hno x (by simp [hx]) hxb
            · rcases List.mem_cons.1 hx with hx | hx
              · subst hx; exact hbn hxb.symm
              · exact hno x (by simp [hx]) hxb
          · exact .inr ⟨h1, fun x hx => h2 x (hm x hx)⟩
    · refine (drop_busy h.cs hL (by omega)).mono ?_
      rintro r w1 ⟨rfl, rfl⟩
      exact .inr ⟨32, rfl, rfl, h.full (Below.refl _ _)⟩
theorem rd_read {κ p dp pb n : Nat} {S : List (List UInt8)} {J : Nat → Prop} (h : RdC base κ w0 w σ p dp pb S J) (hκ : κ ≤ 1000) (hn : n < 4) :
    Calls Try.prog 25 #[.pointer (some ⟨p, 0, none⟩), .int .i64 (n : Int)] w fun r w' => (∃ ao x c, r = .returned (.tuple #[.slice ao 256 c, .int .i64 0]) ∧ x.length = 256 ∧ Src w' ao x ∧ (x = S.getD n [] ∨ (S.getD n [] = [] ∧ (x = lst σ n ∨ J n))) ∧ ∃ σ', Lft base (κ + 1) w0 p dp pb σ w w' σ' S J ∧ lst σ' = lst σ) ∨ (r = .returned (.tuple #[.slice none 0 0, .int .i64 5]) ∧ Lft base (κ + 1) w0 p dp pb σ w w' σ S J) := by
  obtain rfl := h.pp
  refine (cread_any h.cs n (by rw [h.dn]; exact hn) (by have := h.kb; omega) h.len).mono ?_
  rintro r w1 (⟨v, v', P', e, K', rfl, ho, _, hD, hR, hen⟩ | ⟨rfl, _, hb⟩)
  · have hi := hR.turns.inv (h.inv n hn)
    have hlen : e.d.length = 256 := (hD.cs.blk e (by simp)).2.1
    obtain ⟨ao, c, rfl, hs, _, _, _⟩ := ho.form
    rw [hlen]
    refine .inl ⟨ao, e.d, c, rfl, hlen, hs, ?_, _, ⟨h.done hD (hR.len h.len) rfl rfl rfl rfl rfl rfl hR.k.2 (fun _ => Nat.le_succ _) h.sl fun b hb => hR.turns.inv (h.inv b hb), hD.st.fr⟩, rfl⟩
    rcases hi with ⟨h1, h2, h3⟩ | ⟨h1, h2⟩
    · exact .inl (h2 e (by simp) hen)
    · exact .inr ⟨h1, h2 e (by simp) hen⟩
  · exact .inr ⟨rfl, h.full hb⟩
/-- The disk's bytes. -/
def DB (l : Nat → List UInt8) : List UInt8 := (List.range 4).flatMap fun i => if i < 4 then l i else zer
theorem rd_bytes {κ p dp pb : Nat} {S : List (List UInt8)} {J : Nat → Prop} (h : RdC base κ w0 w σ p dp pb S J) :
    Calls Try.prog 20 #[.pointer (some ⟨dp, 0, none⟩)] w fun r w' => ∃ g, r = .returned (.slice (some ⟨g, 0, none⟩) 1024 1024) ∧ Src w' (some ⟨g, 0, none⟩) (DB (lst σ)) ∧ (DB (lst σ)).length = 1024 ∧ Below w.heap.size w w' := by
  obtain rfl := h.dpp
  have hd := h.cs.disk
  have hll : ∀ i, i < 4 → (lst σ i).length = 256 := fun i hi => lst_len h.cs i (by rw [h.dn]; exact hi)
  rw [h.dn] at hd
  have hyl : ∀ i, (if i < 4 then lst σ i else zer).length = 256 := fun i => by
    by_cases hi : i < 4
    · rw [if_pos hi]; exact hll i hi
    · rw [if_neg hi]; exact zer_length
  refine (dbytes_any hd (fun i => if i < 4 then lst σ i else zer) (fun i hi => by rw [if_pos hi]; rfl) hyl).mono ?_
  rintro r w1 ⟨g, rfl, hg, _, hb⟩
  exact ⟨g, rfl, hg.src, flat_length _ hyl 4, hb⟩
theorem rd_dread {κ p dp pb n : Nat} {S : List (List UInt8)} {J : Nat → Prop} (h : RdC base κ w0 w σ p dp pb S J) (hn : n < 4) :
    Calls Try.prog 26 #[.pointer (some ⟨dp, 0, none⟩), .int .i64 (n : Int)] w fun r w' => ∃ g, r = .returned (.tuple #[.slice (some ⟨g, 0, none⟩) 256 256, .int .i64 0]) ∧ Src w' (some ⟨g, 0, none⟩) (lst σ n) ∧ (lst σ n).length = 256 ∧ Below w.heap.size w w' := by
  obtain rfl := h.dpp
  refine (read_any h.cs.disk n (by rw [h.dn]; exact hn)).mono ?_
  rintro r w1 ⟨g, rfl, hg, _, hb⟩
  exact ⟨g, rfl, hg.src, lst_len h.cs n (by rw [h.dn]; exact hn), hb⟩
end
end Go.Proofs.Ytglmbihahldfcaa
