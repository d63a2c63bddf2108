/- What CacheStays holds fast: the cache, its row of pins, what a call leaves. -/
import Derived.Test.YtglmbihahldfcaaCmisc
namespace Go.Proofs.Ytglmbihahldfcaa
open Go.RowKit
set_option maxRecDepth 100000
def np (L : List CE) : List (Nat × Nat) := L.map fun e => (e.n, e.pin)
theorem mem_np {L : List CE} {e : CE} (h : e ∈ L) : (e.n, e.pin) ∈ np L := List.mem_map.2 ⟨e, h, rfl⟩
theorem mem_nums {L : List CE} {x : Nat × Nat} (h : x ∈ np L) : (x.1 : Int) ∈ nums L := by
  obtain ⟨e, he, rfl⟩ := List.mem_map.1 h
  exact List.mem_map.2 ⟨e, he, rfl⟩
theorem getD_set_ne (P : List Int) {n j : Nat} (h : ¬ n = j) (x : Int) : (P.set j x).getD n 0 = P.getD n 0 := by
  simp only [List.getD_eq_getElem?_getD, List.getElem?_set]
  rw [if_neg (fun c => h c.symm)]
/-- What a list keeps of another one: pins as they were; what came has none, what went had none. -/
def Keeps (A B : List (Nat × Nat)) : Prop := (∀ x ∈ B, x ∈ A ∨ (x.2 = 0 ∧ ∀ y ∈ A, ¬ y.1 = x.1)) ∧ ∀ y ∈ A, (∃ x ∈ B, x.1 = y.1) ∨ y.2 = 0
section
variable {w0 w w' : World} {base : Nat} {σ σ' : CSt}
theorem AskR.keeps {n q K' : Nat} {L' : List CE} (h : AskR σ n q L' K') : Keeps (np σ.L) (np L') := by
  cases h with
  | @hit A B e hL hn hq =>
    rw [hL]
    refine ⟨fun x hx => .inl ?_, fun y hy => .inl ⟨y, ?_, rfl⟩⟩
    · simp only [np, tch, List.map_append, List.map_cons, List.map_nil, List.mem_append, List.mem_cons, List.not_mem_nil, or_false] at hx ⊢
      rcases hx with (hx | hx) | hx
      · exact .inl hx
      · exact .inr (.inr hx)
      · exact .inr (.inl hx)
    · simp only [np, tch, List.map_append, List.map_cons, List.map_nil, List.mem_append, List.mem_cons, List.not_mem_nil, or_false] at hy ⊢
      rcases hy with hy | hy | hy
      · exact .inl (.inl hy)
      · exact .inr hy
      · exact .inl (.inr hy)
  | free hne hl =>
    refine ⟨fun x hx => ?_, fun y hy => .inl ⟨y, ?_, rfl⟩⟩
    · simp only [np, addE, List.map_append, List.map_cons, List.map_nil, List.mem_append, List.mem_cons, List.not_mem_nil, or_false] at hx
      rcases hx with hx | hx
      · exact .inl hx
      · subst hx
        refine .inr ⟨rfl, fun y hy => ?_⟩
        obtain ⟨e, he, rfl⟩ := List.mem_map.1 hy
        exact hne e he
    · simp only [np, addE, List.map_append, List.mem_append] at hy ⊢
      exact .inl hy
  | @evict A B e hne hl hL hA he =>
    have hp : e.pin = 0 := by
      have := he
      simp only [goB, Bool.and_eq_true, beq_iff_eq] at this
      exact this.1
    refine ⟨fun x hx => ?_, fun y hy => ?_⟩
    · simp only [np, addE, List.map_append, List.map_cons, List.map_nil, List.mem_append, List.mem_cons, List.not_mem_nil, or_false] at hx
      rcases hx with (hx | hx) | hx
      · refine .inl ?_
        rw [hL]; simp only [np, List.map_append, List.map_cons, List.mem_append, List.mem_cons]; exact .inl hx
      · refine .inl ?_
        rw [hL]; simp only [np, List.map_append, List.map_cons, List.mem_append, List.mem_cons]; exact .inr (.inr hx)
      · subst hx
        refine .inr ⟨rfl, fun y hy => ?_⟩
        obtain ⟨z, hz, rfl⟩ := List.mem_map.1 hy
        exact hne z hz
    · rw [hL] at hy
      simp only [np, List.map_append, List.map_cons, List.mem_append, List.mem_cons] at hy
      rcases hy with hy | hy | hy
      · refine .inl ⟨y, ?_, rfl⟩
        simp only [np, addE, List.map_append, List.mem_append]; exact .inl (.inl hy)
      · subst hy; exact .inr hp
      · refine .inl ⟨y, ?_, rfl⟩
        simp only [np, addE, List.map_append, List.mem_append]; exact .inl (.inr hy)
theorem AskR.dirty {n q K' : Nat} {L' : List CE} (h : AskR σ n q L' K') : ∀ e ∈ dl σ, (e.n : Int) ∈ nums L' := by
  intro x hx
  obtain ⟨hx1, hx2⟩ := List.mem_filter.1 hx
  cases h with
  | @hit A B e hL hn hq =>
    rw [hL] at hx1
    refine List.mem_map.2 ⟨x, ?_, rfl⟩
    simp only [tch, List.mem_append, List.mem_cons, List.not_mem_nil, or_false] at hx1 ⊢
    rcases hx1 with h | h | h
    · exact .inl (.inl h)
    · exact .inr h
    · exact .inl (.inr h)
  | free hne hl => exact List.mem_map.2 ⟨x, List.mem_append.2 (.inl hx1), rfl⟩
  | @evict A B e hne hl hL hA he =>
    rw [hL] at hx1
    refine List.mem_map.2 ⟨x, ?_, rfl⟩
    simp only [addE, List.mem_append, List.mem_cons, List.not_mem_nil, or_false] at hx1 ⊢
    rcases hx1 with h | h | h
    · exact .inl (.inl h)
    · subst h
      simp only [goB, hx2, Bool.not_true, Bool.and_false] at he
      cases he
    · exact .inl (.inr h)
/-- The cache of CacheStays and its row of pins. -/
structure StW (base k κ : Nat) (w0 w : World) (σ : CSt) (p pb : Nat) (P : List Int) : Prop where
  cs : CS w base σ (nums σ.L)
  len : σ.L.length ≤ σ.most
  most : σ.most = k
  k4 : k ≤ 4
  dn : σ.dn = 6
  pp : σ.p = p
  kb : σ.K ≤ κ
  row : RowI w pb 3 P
  pl : P.length = 6
  off : ¬ Sk σ pb
  pbb : base ≤ pb
  hit : ∀ x ∈ np σ.L, P.getD x.1 0 = (x.2 : Int)
  miss : ∀ n, n < 6 → (∀ x ∈ np σ.L, ¬ x.1 = n) → P.getD n 0 = 0
  be : Below base w0 w
theorem StW.up {k κ p pb : Nat} {P : List Int} (h : StW base k κ w0 w σ p pb P) (hb : Below w.heap.size w w') : StW base k κ w0 w' σ p pb P :=
  { h with cs := h.cs.up hb, row := h.row.up hb, be := h.be.trans (hb.mono h.cs.bs) }
theorem StW.more {k κ κ' p pb : Nat} {P : List Int} (h : StW base k κ w0 w σ p pb P) (hk : κ ≤ κ') : StW base k κ' w0 w σ p pb P :=
  { h with kb := Nat.le_trans h.kb hk }
theorem StW.lt6 {k κ p pb : Nat} {P : List Int} (h : StW base k κ w0 w σ p pb P) {x : Nat × Nat} (hx : x ∈ np σ.L) : x.1 < 6 := by
  obtain ⟨e, he, rfl⟩ := List.mem_map.1 hx
  have := (h.cs.blk e he).2.2.1
  rw [h.dn] at this
  exact this
theorem StW.good {k κ p pb : Nat} {P : List Int} (h : StW base k κ w0 w σ p pb P) (n : Nat) (hn : n < 6) : 0 ≤ P.getD n 0 ∧ (P.getD n 0 ≤ κ) ∧ (0 < P.getD n 0 → (n : Int) ∈ nums σ.L) := by
  by_cases hx : ∃ x ∈ np σ.L, x.1 = n
  · obtain ⟨x, hx, rfl⟩ := hx
    rw [h.hit x hx]
    refine ⟨by omega, ?_, fun _ => mem_nums hx⟩
    obtain ⟨e, he, rfl⟩ := List.mem_map.1 hx
    have h1 := (h.cs.blk e he).2.2.2
    have h2 := h.kb
    show ((e.pin : Nat) : Int) ≤ κ
    omega
  · rw [h.miss n hn (fun x h1 h2 => hx ⟨x, h1, h2⟩)]
    exact ⟨by omega, by omega, fun h => by omega⟩
/-- What a call leaves. -/
structure Aft (base k κ : Nat) (w0 : World) (p pb : Nat) (σ : CSt) (w w' : World) (σ' : CSt) (P' : List Int) : Prop where
  st : StW base k κ w0 w' σ' p pb P'
  dl : ∀ e ∈ dl σ, (e.n : Int) ∈ nums σ'.L
  fr : Fr (fun j => Sk σ j ∨ j = pb) w w'
theorem SrcI.fr {S : Nat → Prop} {sp : Option Addr} {l : List Int} (h : SrcI w sp l) (hf : Fr S w w') (hs : ∀ b o, sp = some ⟨b, o, none⟩ → ¬ S b) : SrcI w' sp l := by
  rcases h with h | ⟨b, o, h1, h2, h3⟩
  · exact .inl h
  · exact .inr ⟨b, o, h1, by have := hf.size; omega, fun j hj => (fr_cell hf (a := ⟨b, o + j, none⟩) h2 (hs b o h1)).trans (h3 j hj)⟩
theorem StW.aft {k κ p pb : Nat} {P : List Int} (h : StW base k κ w0 w σ p pb P) (hD : Done base σ σ' w w') (hm : σ'.most = σ.most) (hl : σ'.L.length ≤ σ'.most) (hd : σ'.dn = σ.dn) (hp : σ'.p = σ.p) (hK : σ'.K ≤ σ.K + 1) (hk : Keeps (np σ.L) (np σ'.L)) (hdl : ∀ e ∈ dl σ, (e.n : Int) ∈ nums σ'.L) : Aft base k (κ + 1) w0 p pb σ w w' σ' P := by
  have hlt := h.row.lt
  have h6 : ∀ x ∈ np σ'.L, x.1 < 6 := fun x hx => by
    obtain ⟨e, he, rfl⟩ := List.mem_map.1 hx
    have := (hD.cs.blk e he).2.2.1
    rw [hd, h.dn] at this
    exact this
  refine ⟨⟨hD.cs, hl, hm.trans h.most, h.k4, hd.trans h.dn, hp.trans h.pp, by have := h.kb; omega, ?_, h.pl, ?_, h.pbb, ?_, ?_, h.be.trans hD.be⟩, hdl, hD.st.fr.mono fun _ _ h => .inl h⟩
  · unfold RowI; rw [hD.st.fr.blk pb hlt h.off]; exact h.row
  · intro hs
    rcases hD.st.sub pb hs with hs | hs
    · exact h.off hs
    · omega
  · intro x hx
    rcases hk.1 x hx with hx' | ⟨h0, hno⟩
    · exact h.hit x hx'
    · rw [h.miss x.1 (h6 x hx) hno, h0]; rfl
  · intro n hn hno
    by_cases hy : ∃ y ∈ np σ.L, y.1 = n
    · obtain ⟨y, hy, rfl⟩ := hy
      rcases hk.2 y hy with ⟨x, hx, hxy⟩ | h0
      · exact absurd hxy (hno x hx)
      · rw [h.hit y hy, h0]; rfl
    · exact h.miss n hn fun y h1 h2 => hy ⟨y, h1, h2⟩
theorem StW.full {k κ p pb : Nat} {P : List Int} (h : StW base k κ w0 w σ p pb P) (hb : Below w.heap.size w w') : Aft base k (κ + 1) w0 p pb σ w w' σ P :=
  ⟨(h.up hb).more (Nat.le_succ _), fun e he => List.mem_map.2 ⟨e, (List.mem_filter.1 he).1, rfl⟩, Fr.of_below hb⟩
theorem st_read {k κ p pb n : Nat} {P : List Int} (h : StW base k κ w0 w σ p pb P) (hκ : κ ≤ 1000) (hn : n < 6) :
    Calls Try.prog 25 #[.pointer (some ⟨p, 0, none⟩), .int .i64 (n : Int)] w fun r w' => (∃ v x, r = .returned (.tuple #[v, .int .i64 x])) ∧ ∃ σ', Aft base k (κ + 1) w0 p pb σ w w' σ' P := by
  have RD := cread_any h.cs n (by rw [h.dn]; exact hn) (by have := h.kb; omega) h.len
  rw [h.pp] at RD
  refine RD.mono ?_
  rintro r w1 (⟨v, v', P', e, K', rfl, _, _, hD, hR, _⟩ | ⟨rfl, _, hb⟩)
  · exact ⟨⟨_, _, rfl⟩, _, h.aft hD rfl (hR.len h.len) rfl rfl hR.k.2 hR.keeps hR.dirty⟩
  · exact ⟨⟨_, _, rfl⟩, _, h.full hb⟩
theorem np_last (P' : List CE) (e : CE) (d : List UInt8) : np (P' ++ [{ e with d := d }]) = np (P' ++ [e]) := by simp [np]
theorem nums_last (P' : List CE) (e : CE) (d : List UInt8) : nums (P' ++ [{ e with d := d }]) = nums (P' ++ [e]) := by simp [nums]
theorem st_lay {k κ p pb n : Nat} {P : List Int} (h : StW base k κ w0 w σ p pb P) (hκ : κ ≤ 1000) (hn : n < 6) (data : List UInt8) (b o c : Nat) (hs : Src w (some ⟨b, o, none⟩) data) (hd : data.length = 256) (hbS : ¬ Sk σ b) :
    Calls Try.prog 21 #[.pointer (some ⟨p, 0, none⟩), .int .i64 (n : Int), .slice (some ⟨b, o, none⟩) 256 c] w fun r w' => (∃ x, r = .returned (.int .i64 x)) ∧ ∃ σ', Aft base k (κ + 1) w0 p pb σ w w' σ' P := by
  have LY := clay_any h.cs n (by rw [h.dn]; exact hn) (by have := h.kb; omega) h.len data b o c hs hd hbS
  rw [h.pp] at LY
  refine LY.mono ?_
  rintro r w1 (⟨v', P', e, K', rfl, hD, hR, _⟩ | ⟨rfl, _, hb⟩)
  · refine ⟨⟨_, rfl⟩, _, h.aft hD rfl ?_ rfl rfl hR.k.2 ?_ ?_⟩
    · have := hR.len h.len
      simpa using this
    · show Keeps (np σ.L) (np (P' ++ [{ e with d := data }]))
      rw [np_last]; exact hR.keeps
    · show ∀ y ∈ dl σ, (y.n : Int) ∈ nums (P' ++ [{ e with d := data }])
      rw [nums_last]; exact hR.dirty
  · exact ⟨⟨_, rfl⟩, _, h.full hb⟩
/-- A pin more or less: the row told so too. -/
theorem StW.pin {k κ p pb x : Nat} {P : List Int} {A B : List CE} {e : CE} (h : StW base k κ w0 w σ p pb P) (hL : σ.L = A ++ e :: B) (hD : Done base σ { σ with L := A ++ { e with pin := x } :: B, K := σ.K + 1 } w w') :
    RowI w' pb 3 P ∧ Aft base k (κ + 1) w0 p pb σ w (w'.setCell ⟨pb, e.n, none⟩ (.int .i64 (x : Int))) { σ with L := A ++ { e with pin := x } :: B, K := σ.K + 1 } (P.set e.n (x : Int)) := by
  have hlt := h.row.lt
  have hrow : RowI w' pb 3 P := by unfold RowI; rw [hD.st.fr.blk pb hlt h.off]; exact h.row
  have he6 : e.n < 6 := h.lt6 (mem_np (e := e) (by rw [hL]; simp))
  have hoff : ¬ Sk { σ with L := A ++ { e with pin := x } :: B, K := σ.K + 1 } pb := fun hs => by
    rcases hD.st.sub pb hs with hs | hs
    · exact h.off hs
    · omega
  have hnt := h.cs.split hL
  have hnp : ∀ y ∈ np (A ++ { e with pin := x } :: B), y = (e.n, x) ∨ (y ∈ np σ.L ∧ ¬ y.1 = e.n) := fun y hy => by
    obtain ⟨z, hz, rfl⟩ := List.mem_map.1 hy
    rcases List.mem_append.1 hz with hz | hz
    · exact .inr ⟨mem_np (by rw [hL]; simp [hz]), hnt.1 z hz⟩
    · rcases List.mem_cons.1 hz with hz | hz
      · subst hz; exact .inl rfl
      · exact .inr ⟨mem_np (by rw [hL]; simp [hz]), hnt.2 z hz⟩
  refine ⟨hrow, ⟨⟨hD.cs.fr (S := fun j => j = pb) ((Fr.refl _ _).setCell pb e.n _ rfl) fun j hj e => hoff (e ▸ hj), ?_, h.most, h.k4, h.dn, h.pp, ?_, hrow.set e.n x, by rw [List.length_set]; exact h.pl, hoff, h.pbb, ?_, ?_, (h.be.trans hD.be).setCell h.pbb _⟩, ?_, ?_⟩⟩
  · have := h.len
    rw [hL] at this
    simpa using this
  · show σ.K + 1 ≤ κ + 1
    have := h.kb; omega
  · intro y hy
    rcases hnp y hy with rfl | ⟨hy, hne⟩
    · show (P.set e.n (x : Int)).getD e.n 0 = (x : Int)
      simp [List.getD_eq_getElem?_getD, h.pl, he6]
    · exact (getD_set_ne P hne _).trans (h.hit y hy)
  · intro n hn hno
    have hne : ¬ n = e.n := fun c => hno (e.n, x) (List.mem_map.2 ⟨{ e with pin := x }, by simp, rfl⟩) c.symm
    have hz := h.miss n hn (fun y hy hyn => by
      obtain ⟨z, hz, rfl⟩ := List.mem_map.1 hy
      rw [hL] at hz
      rcases List.mem_append.1 hz with hz | hz
      · exact hno (z.n, z.pin) (mem_np (by simp [hz])) hyn
      · rcases List.mem_cons.1 hz with hz | hz
        · subst hz; exact hne hyn.symm
        · exact hno (z.n, z.pin) (mem_np (by simp [hz])) hyn)
    exact (getD_set_ne P hne _).trans hz
  · intro y hy
    have h1 := (List.mem_filter.1 hy).1
    show (y.n : Int) ∈ nums (A ++ { e with pin := x } :: B)
    rw [show nums (A ++ { e with pin := x } :: B) = nums (A ++ e :: B) from nums_same (e := e) rfl, ← hL]
    exact List.mem_map.2 ⟨y, h1, rfl⟩
  · exact (hD.st.fr.mono fun _ _ h => .inl h).setCell pb e.n _ (.inr rfl)
theorem StW.same {k κ p pb : Nat} {P : List Int} (h : StW base k κ w0 w σ p pb P) : Aft base k (κ + 1) w0 p pb σ w w σ P := h.full (Below.refl _ _)
theorem st_pin {k κ p pb n : Nat} {P : List Int} (h : StW base k κ w0 w σ p pb P) (hκ : κ ≤ 1000) (hn : n < 6) :
    Calls Try.prog 28 #[.pointer (some ⟨p, 0, none⟩), .int .i64 (n : Int)] w fun r w' => (r = .returned (.int .i64 0) ∧ RowI w' pb 3 P ∧ ∃ σ' P', Aft base k (κ + 1) w0 p pb σ w (w'.setCell ⟨pb, n, none⟩ (.int .i64 (P.getD n 0 + 1))) σ' P') ∨ (r = .returned (.int .i64 20) ∧ Aft base k (κ + 1) w0 p pb σ w w' σ P) := by
  obtain rfl := h.pp
  rcases first_split (fun e => decide (e.n = n)) σ.L with hno | ⟨A, e, B, hL, _, he⟩
  · have PN := pin_no h.cs (n : Int) (fun x hx => by have := hno x hx; simp at this; omega) (by omega)
    refine PN.mono ?_
    rintro r w1 ⟨rfl, rfl⟩
    exact .inr ⟨rfl, h.same⟩
  · obtain rfl : e.n = n := by simpa using he
    have PN := pin_ok h.cs hL (by have := h.kb; omega)
    refine PN.mono ?_
    rintro r w1 ⟨rfl, hD⟩
    obtain ⟨h1, h2⟩ := h.pin hL hD
    have hh : P.getD e.n 0 = (e.pin : Int) := h.hit _ (mem_np (e := e) (by rw [hL]; simp))
    rw [hh]
    exact .inl ⟨rfl, h1, _, _, h2⟩
theorem st_unpin {k κ p pb n : Nat} {P : List Int} (h : StW base k κ w0 w σ p pb P) (hκ : κ ≤ 1000) (hn : n < 6) :
    Calls Try.prog 29 #[.pointer (some ⟨p, 0, none⟩), .int .i64 (n : Int)] w fun r w' => (r = .returned (.int .i64 0) ∧ RowI w' pb 3 P ∧ ∃ σ' P', Aft base k (κ + 1) w0 p pb σ w (w'.setCell ⟨pb, n, none⟩ (.int .i64 (P.getD n 0 - 1))) σ' P') ∨ (∃ x, r = .returned (.int .i64 x) ∧ (x == 0) = false ∧ Aft base k (κ + 1) w0 p pb σ w w' σ P) := by
  obtain rfl := h.pp
  rcases first_split (fun e => decide (e.n = n)) σ.L with hno | ⟨A, e, B, hL, _, he⟩
  · have PN := unpin_no h.cs (n : Int) (fun x hx => by have := hno x hx; simp at this; omega) (by omega)
    refine PN.mono ?_
    rintro r w1 ⟨rfl, rfl⟩
    exact .inr ⟨20, rfl, rfl, h.same⟩
  · obtain rfl : e.n = n := by simpa using he
    by_cases hp : e.pin = 0
    · have PN := unpin_zero h.cs hL hp
      refine PN.mono ?_
      rintro r w1 ⟨rfl, rfl⟩
      exact .inr ⟨6, rfl, rfl, h.same⟩
    · have PN := unpin_ok h.cs hL (by have := h.kb; omega) (by omega)
      refine PN.mono ?_
      rintro r w1 ⟨rfl, hD⟩
      obtain ⟨h1, h2⟩ := h.pin hL hD
      have hh : P.getD e.n 0 = (e.pin : Int) := h.hit _ (mem_np (e := e) (by rw [hL]; simp))
      rw [hh, show ((e.pin : Int) - 1) = ((e.pin - 1 : Nat) : Int) by omega]
      exact .inl ⟨rfl, h1, _, _, h2⟩
theorem st_dirty {k κ p pb : Nat} {P : List Int} (h : StW base k κ w0 w σ p pb P) :
    Calls Try.prog 17 #[.pointer (some ⟨p, 0, none⟩)] w fun r w' => ∃ ao Y c, r = .returned (.slice ao Y.length c) ∧ SrcI w' ao Y ∧ (Y.length : Int) ≤ 4 ∧ (∀ b o, ao = some ⟨b, o, none⟩ → ¬ (Sk σ b ∨ b = pb)) ∧ (∀ x ∈ Y, ∃ e ∈ dl σ, (e.n : Int) = x) ∧ Below w.heap.size w w' := by
  have hl4 : σ.L.length ≤ 4 := by have := h.len; have := h.most; have := h.k4; omega
  have DT := dirtyl_any h.cs (by omega)
  rw [h.pp] at DT
  refine DT.mono ?_
  rintro r w1 ⟨v, Y, rfl, ho, _, hp, hb⟩
  obtain ⟨ao, c, rfl, hs, _, _, _⟩ := ho.form
  refine ⟨ao, Y, c, rfl, hs, ?_, fun b o hao hS => ?_, fun x hx => ?_, hb⟩
  · rw [hp.length_eq, nums_length]
    have : (dl σ).length ≤ σ.L.length := List.length_filter_le _ _
    omega
  · subst hao
    have h1 := (ho.lt b rfl).1
    rcases hS with hS | rfl
    · have := h.cs.sk_size hS; omega
    · have := h.row.lt; omega
  · obtain ⟨e, he, rfl⟩ := List.mem_map.1 (hp.mem_iff.1 hx)
    exact ⟨e, he, rfl⟩
theorem st_held {k κ p pb : Nat} {P : List Int} (h : StW base k κ w0 w σ p pb P) :
    Calls Try.prog 15 #[.pointer (some ⟨p, 0, none⟩)] w fun r w' => ∃ ao N c, r = .returned (.slice ao N.length c) ∧ N = nums σ.L ∧ SrcI w' ao N ∧ (N.length : Int) ≤ k ∧ (N.length : Int) ≤ 4 ∧ Below w.heap.size w w' := by
  have hl4 : σ.L.length ≤ 4 := by have := h.len; have := h.most; have := h.k4; omega
  have DT := held_any h.cs (by omega)
  rw [h.pp] at DT
  refine DT.mono ?_
  rintro r w1 ⟨v, rfl, ho, hb⟩
  obtain ⟨ao, c, rfl, hs, _, _, _⟩ := ho.form
  refine ⟨ao, nums σ.L, c, rfl, rfl, hs, ?_, ?_, hb⟩
  · rw [nums_length]; have := h.len; have := h.most; omega
  · rw [nums_length]; omega
end
end Go.Proofs.Ytglmbihahldfcaa
