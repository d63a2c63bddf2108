/- Package patch: ends. -/
import Derived.Test.YtkiifmnmeikdlaaGreatDoorJCCroom9
import Derived.Shelf.AbstractIn
import Derived.Test.YtkiifmnmeikdlaaGreatDoorJCIget14
import Derived.Test.YtkiifmnmeikdlaaGreatDoorJCDFlush9
import Derived.RangeFuncNested
import Derived.RangeFuncBound
import Derived.RangeFuncCalls
import Derived.RangeFuncLeaves
import Derived.Shelf.Abstract
import Derived.WalkKit
import Derived.OwnWalkIn
import Derived.TacticsInMore
import Derived.LoopNIn
import Derived.LoopIn
namespace Go.Proofs.YtkiifmnmeikdlaaGreatDoor
open Go.RowKit Go.Shelf
set_option maxRecDepth 100000
attribute [local go_sem] Oper.semAt_some
/-- What holds when the places pre have come. -/
def I0 (w : World) (s : PSt) (Z : List Ch) (L : List Int) (pre : List (Fin L.length)) (W : World) : Prop :=
  ∃ M E v K, ES w W s.p K M E v ∧ K ≤ 2000 * pre.length ∧ E.length ≤ pre.length ∧ (∀ i ∈ E, i ∈ L) ∧ (∀ x ∈ pre, L.getD x.1 0 ∈ E ∨ L.getD x.1 0 ∈ M) ∧ (∀ i ∈ M, ∃ z ∈ Z, (z.id : Int) ∈ L ∧ i ∈ z.ah)
end Go.Proofs.YtkiifmnmeikdlaaGreatDoor
/- What a cache holds of each block; its calls, where it never is full. -/
namespace Go.Proofs.YtkiifmnmeikdlaaGreatDoor
open Go.RowKit
set_option maxRecDepth 100000
/-- Of a block in memory its bytes, and how often it is pinned. -/
def ent (L : List CE) (n : Nat) : Option (List UInt8 × Nat) := (L.find? fun e => decide (e.n = n)).map fun e => (e.d, e.pin)
theorem ent_none {L : List CE} {n : Nat} (h : ∀ x ∈ L, ¬ x.n = n) : ent L n = none := by
  unfold ent
  rw [List.find?_eq_none.2 (by simpa using h)]; rfl
theorem ent_at {A B : List CE} {e : CE} (h : ∀ x ∈ A, ¬ x.n = e.n) : ent (A ++ e :: B) e.n = some (e.d, e.pin) := by
  unfold ent
  rw [List.find?_append, List.find?_eq_none.2 (by simpa using h)]; simp
theorem ent_other {A B : List CE} {e : CE} {m : Nat} (h : ¬ e.n = m) : ent (A ++ e :: B) m = ent (A ++ B) m := by
  unfold ent
  rw [List.find?_append, List.find?_append, List.find?_cons_of_neg (by simpa using h)]
/-- Another cache of the same disk, in which but one block's entry is another. -/
structure CRel (σ σ' : CSt) (n : Nat) (x : Option (List UInt8 × Nat)) : Prop where
  p : σ'.p = σ.p
  most : σ'.most = σ.most
  dp : σ'.dp = σ.dp
  dn : σ'.dn = σ.dn
  en : σ'.en = σ.en
  lf : σ'.lf = σ.lf
  sf : σ'.sf = σ.sf
  ws : σ'.ws = σ.ws
  k0 : σ.K ≤ σ'.K
  k1 : σ'.K ≤ σ.K + 1
  oth : ∀ m, ¬ m = n → ent σ'.L m = ent σ.L m
  at' : ent σ'.L n = x
  len : σ'.L.length ≤ σ'.most
theorem filter_ne_len (a : Nat) : ∀ {l : List Nat}, l.Nodup → l.length ≤ (l.filter fun y => decide (y ≠ a)).length + 1
  | [], _ => by simp
  | x :: l, h => by
    obtain ⟨g1, g2⟩ := List.nodup_cons.1 h
    by_cases ha : x = a
    · subst ha
      rw [List.filter_cons_of_neg (by simp), List.filter_eq_self.2 (fun y hy => by simp; exact fun e => g1 (e ▸ hy))]; simp
    · rw [List.filter_cons_of_pos (by simpa using ha)]
      have := filter_ne_len a g2
      simp only [List.length_cons]; omega
theorem nodup_lt_len : ∀ (dn : Nat) (l : List Nat), l.Nodup → (∀ x ∈ l, x < dn) → l.length ≤ dn
  | 0, l, _, h => by
    cases l with
    | nil => simp
    | cons a r => exact absurd (h a (by simp)) (by omega)
  | dn + 1, l, hd, h => by
    have h1 := filter_ne_len dn hd
    have h2 := nodup_lt_len dn (l.filter fun y => decide (y ≠ dn)) (hd.filter _) (fun x hx => by
      obtain ⟨a, b⟩ := List.mem_filter.1 hx
      have := h x a
      have : x ≠ dn := by simpa using b
      omega)
    omega
theorem room_of {L : List CE} {dn : Nat} (h : ∀ e ∈ L, e.n < dn) (hd : (L.map (·.n)).Nodup) {n : Nat} (hn : n < dn) (hne : ∀ x ∈ L, ¬ x.n = n) : L.length < dn := by
  have h1 : (n :: L.map (·.n)).Nodup := List.nodup_cons.2 ⟨fun hm => by obtain ⟨x, hx, hxn⟩ := List.mem_map.1 hm; exact hne x hx hxn, hd⟩
  have := nodup_lt_len dn _ h1 (fun x hx => by
    rcases List.mem_cons.1 hx with rfl | hx
    · exact hn
    · obtain ⟨y, hy, rfl⟩ := List.mem_map.1 hx
      exact h y hy)
  simp at this
  omega
section
variable {w w' : World} {base : Nat} {σ : CSt}
theorem ask_rel (h : CS w base σ (nums σ.L)) {n q K' : Nat} {P : List CE} {e : CE} {v' : Value} (hn : n < σ.dn) (hlen : σ.L.length ≤ σ.most) (hm : σ.dn ≤ σ.most) (hR : AskR σ n q (P ++ [e]) K') (hen : e.n = n) :
    (e.d, e.pin) = (ent σ.L n).getD (lst σ n, 0) ∧ ∀ d pn, CRel σ { σ with ov := v', L := P ++ [{ e with d := d, pin := pn }], K := K' } n (some (d, pn)) := by
  have hnd := h.nd
  have hl := hR.len hlen
  have hk := hR.k
  generalize hL' : P ++ [e] = L' at hR
  have fin : ∀ d pn, (∀ m, ¬ m = n → ent P m = ent σ.L m) → (∀ x ∈ P, ¬ x.n = n) → CRel σ { σ with ov := v', L := P ++ [{ e with d := d, pin := pn }], K := K' } n (some (d, pn)) := fun d pn ho hno =>
    ⟨rfl, rfl, rfl, rfl, rfl, rfl, rfl, rfl, hk.1, hk.2, fun m hmn => by
      show ent (P ++ [{ e with d := d, pin := pn }]) m = _
      rw [ent_other (e := { e with d := d, pin := pn }) (by show ¬ e.n = m; omega), List.append_nil]; exact ho m hmn, by
      have := ent_at (A := P) (B := []) (e := { e with d := d, pin := pn }) (by show ∀ x ∈ P, ¬ x.n = e.n; rw [hen]; exact hno)
      show ent (P ++ [{ e with d := d, pin := pn }]) n = _
      rw [← hen]; exact this, by
      show (P ++ [{ e with d := d, pin := pn }]).length ≤ σ.most
      simpa using hl⟩
  cases hR with
  | @hit A B e0 hL hn0 hq =>
    have h2 := noTwo_of (by rw [← hL]; exact hnd)
    unfold tch at hL'
    obtain ⟨rfl, h3⟩ := List.append_inj' hL' rfl
    obtain rfl : e = e0 := by simpa using h3
    refine ⟨?_, fun d pn => fin d pn (fun m hmn => ?_) (fun x hx => ?_)⟩
    · rw [hL, ← hen, ent_at h2.1]; rfl
    · rw [hL, ent_other (by omega)]
    · rw [← hen]
      rcases List.mem_append.1 hx with hx | hx
      · exact h2.1 x hx
      · exact h2.2 x hx
  | free hne hl2 =>
    unfold addE at hL'
    obtain ⟨rfl, h3⟩ := List.append_inj' hL' rfl
    obtain rfl : e = ⟨n, q, lst σ n, 0⟩ := by simpa using h3
    exact ⟨by rw [ent_none hne]; rfl, fun d pn => fin d pn (fun m _ => rfl) hne⟩
  | evict hne hl2 hL hA he =>
    have := room_of (fun e he => (h.blk e he).2.2.1) hnd hn hne
    omega
theorem cr_read (h : CS w base σ (nums σ.L)) (n : Nat) (hn : n < σ.dn) (hK : σ.K ≤ 1000000) (hlen : σ.L.length ≤ σ.most) (hm : σ.dn ≤ σ.most) :
    Calls Tryz.prog 50 #[.pointer (some ⟨σ.p, 0, none⟩), .int .i64 (n : Int)] w fun r w' => ∃ v d pn σ', r = .returned (.tuple #[v, .int .i64 0]) ∧ (d, pn) = (ent σ.L n).getD (lst σ n, 0) ∧ Own w' w.heap.size v d ∧ (∀ k, v.ownBlock = some k → ¬ Sk σ' k) ∧ Done base σ σ' w w' ∧ CRel σ σ' n (some (d, pn)) ∧ d.length = 256 := by
  refine (cread_any h n hn hK hlen).mono ?_
  rintro r w1 (⟨v, v', P, e, K', rfl, hO, hS, hD, hR, hen⟩ | ⟨rfl, hF, _⟩)
  · obtain ⟨h1, h2⟩ := ask_rel h (v' := v') hn hlen hm hR hen
    exact ⟨v, e.d, e.pin, _, rfl, h1, hO, hS, hD, h2 e.d e.pin, (hD.cs.blk e (by simp)).2.1⟩
  · have := room_of (fun e he => (h.blk e he).2.2.1) h.nd hn hF.ne
    have := hF.le
    omega
end
end Go.Proofs.YtkiifmnmeikdlaaGreatDoor
/- Package patch: settle. -/
namespace Go.Proofs.YtkiifmnmeikdlaaGreatDoor
open Go.RowKit
set_option maxRecDepth 100000
def wrs (L : List Ch) : List Ch := L.filter fun c => c.wr
section
variable {w w' w0 : World} {base : Nat} {s s' s0 : PSt} {ops ops' : Nat → List Int}
end
end Go.Proofs.YtkiifmnmeikdlaaGreatDoor
/- What holds of a store between its calls. -/
namespace Go.Proofs.YtkiifmnmeikdlaaGreatDoor
open Go.RowKit
set_option maxRecDepth 100000
def lkC : List Ch → Int → Nat
  | [], _ => 0
  | c :: r, x => if (c.id : Int) = x then c.q + 1 else lkC r x
def lkBP : List Bk → Int → Nat
  | [], _ => 0
  | b :: r, x => if (b.n : Int) = x then b.q + 1 else lkBP r x
def bns (B : List Bk) : List Int := B.map fun b => (b.n : Int)
/-- What holds of a store; pend are blocks that are not settled yet behind a flush. -/
structure PL (s : PSt) (ops : Nat → List Int) (pend : List Int) (κ : Nat) : Prop where
  asc : Asc s.C
  idr : ∀ c ∈ s.C, 1 ≤ c.id ∧ c.id ≤ s.cnt
  ft : ∀ c ∈ s.C, fits c ∧ 1 ≤ c.d.length
  fc : s.fC = lkC s.C
  kc : s.kC = cids s.C
  fb : s.fB = lkBP s.B
  kb : s.kB = bns s.B
  bn : (s.B.map (·.n)).Nodup
  bdn : ∀ b ∈ s.B, b.n < s.σ.dn
  op : ∀ b ∈ s.B, ops b.q = cids (ofB s.C b.n)
  cb : ∀ c ∈ s.C, ∃ b ∈ s.B, b.n = c.b
  bc : ∀ b ∈ s.B, (b.n : Int) ∉ pend → ∃ c ∈ s.C, c.b = b.n
  pb : ∀ i ∈ pend, ∃ b ∈ s.B, (b.n : Int) = i
  bal : ∀ b ∈ s.B, b.ba.length = 256 ∧ b.la.length = 256
  ah : ∀ c ∈ s.C, (∀ i ∈ c.ah, 1 ≤ i ∧ i < (c.id : Int)) ∧ c.ah.length ≤ 2000
  la : ∀ b ∈ s.B, ∀ i ∈ b.la, 0 ≤ i ∧ i ≤ (s.cnt : Int)
  lam : ∀ b ∈ s.B, ∀ c ∈ s.C, c.b = b.n → ∀ j, cov c j → ∃ y ∈ s.C, (y.id : Int) = b.la.getD j 0 ∧ y.b = b.n ∧ cov y j ∧ c.id ≤ y.id
  ahm : ∀ c ∈ s.C, ∀ c' ∈ s.C, c'.b = c.b → c'.id < c.id → ∀ j, cov c' j → cov c j → Rea s.C c (c'.id : Int)
  wra : ∀ c ∈ s.C, c.wr = true → ∀ i ∈ c.ah, opn s.C i = true → ∃ y ∈ s.C, (y.id : Int) = i ∧ y.b = c.b ∧ y.wr = true
  len : s.σ.L.length ≤ s.σ.most
  mdn : s.σ.dn ≤ s.σ.most ∧ s.σ.dn ≤ 4096
  en : s.σ.en = false ∧ s.σ.lf = 0
  bd : s.cnt ≤ κ ∧ s.kc ≤ κ ∧ s.kb ≤ κ ∧ s.σ.K ≤ 10 * κ ∧ ∀ n, (s.σ.ws n).length ≤ κ
  sfb : ∀ b ∈ s.B, s.σ.sf b.n = if (b.n : Int) ∈ pend then lays b.ba (wrs (ofB s.C b.n)) else b.ba
  lsb : ∀ b ∈ s.B, lst s.σ b.n = lays b.ba (wrs (ofB s.C b.n))
  cab : ∀ b ∈ s.B, ent s.σ.L b.n = some (lays b.ba (ofB s.C b.n), 1)
  cao : ∀ n, n < s.σ.dn → (∀ b ∈ s.B, ¬ b.n = n) → s.σ.ws n = [] ∧ (ent s.σ.L n = none ∨ ent s.σ.L n = some (s.σ.sf n, 0))
section
variable {s s' : PSt} {ops ops' : Nat → List Int} {pend : List Int} {κ : Nat}
end
end Go.Proofs.YtkiifmnmeikdlaaGreatDoor
/- What holds of a store: behind a flush, and behind each block that is settled. -/
namespace Go.Proofs.YtkiifmnmeikdlaaGreatDoor
open Go.RowKit
set_option maxRecDepth 100000
/-- Neither of the block n nor written. -/
def left (n : Nat) (c : Ch) : Bool := !(decide (c.b = n) && c.wr)
section
variable {s s' : PSt} {ops ops' : Nat → List Int} {pend : List Int} {κ : Nat}
theorem PL.mono (h : PL s ops pend κ) {κ' : Nat} (hk : κ ≤ κ') : PL s ops pend κ' :=
  { h with bd := (by obtain ⟨h1, h2, h3, h4, h5⟩ := h.bd; exact ⟨by omega, by omega, by omega, by omega, fun n => by have := h5 n; omega⟩) }
end
end Go.Proofs.YtkiifmnmeikdlaaGreatDoor
/- Package patch: Open, Safe, Read, Image, Ready of a store. -/
namespace Go.Proofs.YtkiifmnmeikdlaaGreatDoor
open Go.RowKit
set_option maxRecDepth 100000
section
variable {w w' w0 : World} {base : Nat} {σ : CSt} {s s' s0 : PSt} {ops ops' : Nat → List Int} {κ : Nat}
theorem PL.touch (h : PL s ops [] κ) {n : Nat} {σ1 : CSt} {d : List UInt8} {pn : Nat} (hd : (d, pn) = (ent s.σ.L n).getD (lst s.σ n, 0)) (hC : CRel s.σ σ1 n (some (d, pn))) : PL { s with σ := σ1 } ops [] (κ + 1) :=
  { h with
    bdn := (fun b hb => (by show b.n < σ1.dn; rw [hC.dn]; exact h.bdn b hb))
    len := hC.len
    mdn := (by show σ1.dn ≤ σ1.most ∧ σ1.dn ≤ 4096; rw [hC.dn, hC.most]; exact h.mdn)
    en := (by show σ1.en = false ∧ σ1.lf = 0; rw [hC.en, hC.lf]; exact h.en)
    bd := (by
      obtain ⟨h1, h2, h3, h4, h5⟩ := h.bd
      have := hC.k1
      exact ⟨by show s.cnt ≤ _; omega, by show s.kc ≤ _; omega, by show s.kb ≤ _; omega, by show σ1.K ≤ _; omega, fun n => by show (σ1.ws n).length ≤ _; rw [hC.ws]; have := h5 n; omega⟩)
    sfb := (fun b hb => (by show σ1.sf b.n = _; rw [hC.sf]; exact h.sfb b hb))
    lsb := (fun b hb => (by show lst σ1 b.n = _; unfold lst; rw [hC.sf, hC.ws]; exact h.lsb b hb))
    cab := (fun b hb => (by
      show ent σ1.L b.n = _
      by_cases e : b.n = n
      · have h1 := h.cab b hb
        rw [e] at h1
        rw [h1] at hd
        rw [e, hC.at', hd]; rfl
      · rw [hC.oth _ e]; exact h.cab b hb))
    cao := (fun m hm hno => (by
      obtain ⟨h1, h2⟩ := h.cao m (by have : m < σ1.dn := hm; rw [hC.dn] at this; exact this) hno
      refine ⟨by show σ1.ws m = []; rw [hC.ws]; exact h1, ?_⟩
      show ent σ1.L m = none ∨ ent σ1.L m = some (σ1.sf m, 0)
      rw [hC.sf]
      by_cases e : m = n
      · subst e
        have hl : lst s.σ m = s.σ.sf m := by unfold lst; rw [h1]; rfl
        rw [hC.at', hd]
        rcases h2 with h2 | h2
        · rw [h2, hl]; exact .inr rfl
        · rw [h2]; exact .inr rfl
      · rw [hC.oth m e]; exact h2)) }
set_option maxHeartbeats 1000000 in
theorem pread_any (h : PM w base s ops) (hL : PL s ops [] κ) (hκ : κ ≤ 40000) (n : Nat) (hn : n < s.σ.dn) :
    Calls Tryz.prog 27 #[.pointer (some ⟨s.p, 0, none⟩), .int .i64 (n : Int)] w fun r w' => ∃ v d pn σ', r = .returned (.tuple #[v, .int .i64 0]) ∧ (d, pn) = (ent s.σ.L n).getD (lst s.σ n, 0) ∧ Own w' w.heap.size v d ∧ d.length = 256 ∧ PRun base s w { s with σ := σ' } ops w' ∧ PL { s with σ := σ' } ops [] (κ + 1) ∧ CRel s.σ σ' n (some (d, pn)) ∧ (∀ k, v.ownBlock = some k → ¬ Sk σ' k) := by
  have RD := cr_read h.cs n hn (by have := hL.bd.2.2.2.1; omega) hL.len hL.mdn.1
  have c1 := h.c1
  have HH : Hid (PM w base s ops) := h
  have HL : Hid (PL s ops [] κ) := hL
  clear h hL
  go_enter Tryz.func27, Tryz.ntmps27
  go_wp2_with fail
  refine RD.mono ?_
  clear RD
  rintro r w1 ⟨v, d, pn, σ', rfl, hd, hO, hS, hD, hC, hdl⟩
  have HX : Hid ((d, pn) = (ent s.σ.L n).getD (lst s.σ n, 0) ∧ Own w1 w.heap.size v d ∧ d.length = 256 ∧ PRun base s w { s with σ := σ' } ops w1 ∧ PL { s with σ := σ' } ops [] (κ + 1) ∧ CRel s.σ σ' n (some (d, pn)) ∧ (∀ k, v.ownBlock = some k → ¬ Sk σ' k)) := ⟨hd, hO, hdl, (PRun.start HH.out).cache hD hC.p hC.dp, HL.out.touch hd hC, hC, hS⟩
  clear hd hO hS hD hC hdl
  go_wp2
  go_ret2
  exact ⟨v, d, pn, σ', rfl, HX.out⟩
end
end Go.Proofs.YtkiifmnmeikdlaaGreatDoor
/- Package cache: New; package patch: Open. -/
namespace Go.Proofs.YtkiifmnmeikdlaaGreatDoor
open Go.RowKit
set_option maxRecDepth 100000
section
variable {w w' : World} {base : Nat} {σ : CSt}
set_option maxHeartbeats 1000000 in
theorem cnew_any {dp dn dq : Nat} {en : Bool} {lf : Int} {sf : Nat → List UInt8} {ws : Nat → List (List UInt8)} {vs : Nat → Value} (h : DiskAt w base dp dn en lf sf ws dq vs) (most : Nat) (h1 : 1 ≤ most) (h2 : most ≤ 4096) :
    Calls Tryz.prog 47 #[.pointer (some ⟨dp, 0, none⟩), .int .i64 (most : Int)] w fun r w' => ∃ p mb, r = .returned (.tuple #[.pointer (some ⟨p, 0, none⟩), .int .i64 0]) ∧ CS w' base ⟨p, mb, 0, .slice none 0 0, most, [], dp, dn, dq, en, lf, sf, ws, vs⟩ [] ∧ w.heap.size ≤ p ∧ w.heap.size ≤ mb ∧ Below w.heap.size w w' := by
  have s1 : ∀ (v : World) (o : Obj), (v.alloc o).heap.size = v.heap.size + 1 := fun v o => by show (v.heap.push o).size = _; simp
  have hb0 : Below w.heap.size w (w.alloc (.map #[] 0)) := (Below.refl _ _).alloc (Nat.le_refl _) _
  have hb1 : Below w.heap.size w ((w.alloc (.map #[] 0)).alloc (.cells #[.pointer (some ⟨dp, 0, none⟩), .int .i64 (most : Int), .map (some w.heap.size), .slice none 0 0] 153)) := hb0.alloc (by rw [s1]; omega) _
  have hp := PMap.made w
  have hrow : ((w.alloc (.map #[] 0)).alloc (.cells #[.pointer (some ⟨dp, 0, none⟩), .int .i64 (most : Int), .map (some w.heap.size), .slice none 0 0] 153)).heap[w.heap.size + 1]? = some (.cells #[.pointer (some ⟨dp, 0, none⟩), .int .i64 (most : Int), .map (some w.heap.size), .slice none 0 0] 153 (0, 0)) := by
    have := heap_alloc_new (w.alloc (.map #[] 0)) (.cells #[.pointer (some ⟨dp, 0, none⟩), .int .i64 (most : Int), .map (some w.heap.size), .slice none 0 0] 153)
    rw [s1] at this; exact this
  have hbs : base ≤ w.heap.size := by have := h.pb; have := h.pl; omega
  have HC : Hid (CS ((w.alloc (.map #[] 0)).alloc (.cells #[.pointer (some ⟨dp, 0, none⟩), .int .i64 (most : Int), .map (some w.heap.size), .slice none 0 0] 153)) base ⟨w.heap.size + 1, w.heap.size, 0, .slice none 0 0, most, [], dp, dn, dq, en, lf, sf, ws, vs⟩ []) := {
    disk := h.below hb1 (Nat.le_refl _)
    c0 := by show World.cell? _ _ = _; rw [cell_of_row _ _ _ _ _ _ hrow]; rfl
    c1 := by show World.cell? _ _ = _; rw [cell_of_row _ _ _ _ _ _ hrow]; rfl
    c2 := by show World.cell? _ _ = _; rw [cell_of_row _ _ _ _ _ _ hrow]; rfl
    c3 := by show World.cell? _ _ = _; rw [cell_of_row _ _ _ _ _ _ hrow]; rfl
    fp := fun o => frozen_of_row _ _ _ _ _ hrow
    ord := OwnN.nil _ _
    map := hp.same (Below.heap_alloc _ _ _ (by rw [s1]; omega))
    blk := fun e he => by cases he
    nd := List.nodup_nil, qd := List.nodup_nil
    pm := by show w.heap.size + 1 ≠ w.heap.size; omega
    po := by show (none : Option Nat) ≠ _; simp
    mo := by show (none : Option Nat) ≠ _; simp
    bq := fun e he => by cases he
    pb := by show base ≤ w.heap.size + 1; omega
    mbb := hbs
    dk := fun k hk hC => by
      have hkl := (h.dk_lt hk).1
      rcases hC with hC | hC | hC | ⟨e, he, _⟩
      · have hC' : k = w.heap.size + 1 := hC
        omega
      · have hC' : k = w.heap.size := hC
        omega
      · have hC' : (none : Option Nat) = some k := hC
        cases hC'
      · cases he
    m1 := ⟨h1, h2⟩ }
  have hmk := run_makeMap (P := Tryz.prog) 150 w
  have hi1 : (1 : Int) ≤ most := by omega
  have hi2 : (most : Int) ≤ 4096 := by omega
  clear hp hrow h hb0
  go_enter Tryz.func47, Tryz.ntmps47
  go_wp2
  go_ret2
  exact ⟨w.heap.size + 1, w.heap.size, rfl, HC.out, by omega, by omega, hb1⟩
/-- An empty store. -/
def newS (p cm bm : Nat) (σ : CSt) : PSt := ⟨p, cm, bm, 0, 0, 0, fun _ => 0, [], fun _ => 0, [], [], [], fun k => if k = p then 1 else if k = cm then 2 else 3, σ⟩
theorem PM.made (h : CS w base σ (nums σ.L)) (hb : Below w.heap.size w w') {p cm bm : Nat} (h1 : w.heap.size ≤ p ∧ w.heap.size ≤ cm ∧ w.heap.size ≤ bm) (h2 : p ≠ cm ∧ p ≠ bm ∧ cm ≠ bm) (hp : w'.heap[p]? = some (.cells (stL (newS p cm bm σ)).toArray 100 (0, 0))) (hc : KMap 2 w' cm 0 (fun _ => 0) []) (hm : KMap 3 w' bm 0 (fun _ => 0) []) :
    PM w' base (newS p cm bm σ) (fun _ => []) where
  cs := h.up hb
  st := hp
  mc := hc
  mb := hm
  ch := fun c hc => by cases hc
  bk := fun b hb => by cases hb
  cq := List.nodup_nil
  bq := List.nodup_nil
  t0 := ⟨if_pos rfl, (if_neg (fun e => h2.1 e.symm)).trans (if_pos rfl), (if_neg (fun e => h2.2.1 e.symm)).trans (if_neg (fun e => h2.2.2 e.symm))⟩
  tc := fun c hc => by cases hc
  tb := fun b hb => by cases hb
  fk := fun k hk => by
    have hbs : base ≤ w.heap.size := by have := h.mbb; have := h.map.lt; omega
    have hpl : p < w'.heap.size := (Array.getElem?_eq_some_iff.1 hp).1
    have hcl := hc.lt
    have hml := hm.lt
    have hno : w.heap.size ≤ k → ¬ Sk σ k := fun hle hS => by have := h.sk_size hS; omega
    rcases hk with hk | hk | hk | ⟨c, hc, _⟩ | ⟨b, hb, _⟩
    · have hk' : k = p := hk
      exact ⟨by omega, by omega, hno (by omega)⟩
    · have hk' : k = cm := hk
      exact ⟨by omega, by omega, hno (by omega)⟩
    · have hk' : k = bm := hk
      exact ⟨by omega, by omega, hno (by omega)⟩
    · cases hc
    · cases hb
set_option maxHeartbeats 2000000 in
theorem popn_any {dp dn dq : Nat} {en : Bool} {lf : Int} {sf : Nat → List UInt8} {ws : Nat → List (List UInt8)} {vs : Nat → Value} (h : DiskAt w base dp dn en lf sf ws dq vs) (most : Nat) (h1 : 1 ≤ most) (h2 : most ≤ 4096) :
    Calls Tryz.prog 21 #[.pointer (some ⟨dp, 0, none⟩), .int .i64 (most : Int)] w fun r w' => ∃ p cm bm cp mb, r = .returned (.tuple #[.pointer (some ⟨p, 0, none⟩), .int .i64 0]) ∧ PM w' base (newS p cm bm ⟨cp, mb, 0, .slice none 0 0, most, [], dp, dn, dq, en, lf, sf, ws, vs⟩) (fun _ => []) ∧ Below w.heap.size w w' := by
  have CN := cnew_any h most h1 h2
  clear h
  go_enter Tryz.func21, Tryz.ntmps21
  go_wp2_with fail
  refine CN.mono ?_
  clear CN
  rintro r w1 ⟨cp, mb, rfl, hC, _, _, hb1⟩
  have HC : Hid (CS w1 base ⟨cp, mb, 0, .slice none 0 0, most, [], dp, dn, dq, en, lf, sf, ws, vs⟩ []) := hC
  have HB : Hid (Below w.heap.size w w1) := hb1
  have hm1 := fun w => run_makeMap (P := Tryz.prog) 97 w
  have hm2 := fun w => run_makeMap (P := Tryz.prog) 98 w
  clear hC hb1
  go_wp2
  go_ret2
  have s1 : ∀ (v : World) (o : Obj), (v.alloc o).heap.size = v.heap.size + 1 := fun v o => by show (v.heap.push o).size = _; simp
  have b0 : Below w1.heap.size w1 (w1.alloc (.map #[] 0)) := (Below.refl _ _).alloc (Nat.le_refl _) _
  have b1 : Below w1.heap.size w1 ((w1.alloc (.map #[] 0)).alloc (.map #[] 0)) := b0.alloc (by rw [s1]; omega) _
  have b2 : Below w1.heap.size w1 (((w1.alloc (.map #[] 0)).alloc (.map #[] 0)).alloc (.cells #[.pointer (some ⟨dp, 0, none⟩), .pointer (some ⟨cp, 0, none⟩), .int .i64 0, .map (some w1.heap.size), .map (some (w1.heap.size + 1))] 100)) := b1.alloc (by rw [s1, s1]; omega) _
  refine ⟨w1.heap.size + 2, w1.heap.size, w1.heap.size + 1, cp, mb, rfl, PM.made HC.out b2 ⟨by omega, by omega, by omega⟩ ⟨by omega, by omega, by omega⟩ ?_ ?_ ?_, HB.out.trans (b2.mono HB.out.size)⟩
  · have := heap_alloc_new ((w1.alloc (.map #[] 0)).alloc (.map #[] 0)) (.cells #[.pointer (some ⟨dp, 0, none⟩), .pointer (some ⟨cp, 0, none⟩), .int .i64 0, .map (some w1.heap.size), .map (some (w1.heap.size + 1))] 100)
    rw [s1, s1] at this; exact this
  · exact ((KMap.made w1).same (Below.heap_alloc _ _ _ (by rw [s1]; omega))).same (Below.heap_alloc _ _ _ (by rw [s1, s1]; omega))
  · have := KMap.made (kt := 3) (w1.alloc (.map #[] 0))
    rw [s1] at this
    exact this.same (Below.heap_alloc _ _ _ (by rw [s1, s1]; omega))
end
end Go.Proofs.YtkiifmnmeikdlaaGreatDoor
/- A store between its calls: Patch, Write, Flush and what they leave. -/
namespace Go.Proofs.YtkiifmnmeikdlaaGreatDoor
open Go.RowKit
set_option maxRecDepth 100000
section
variable {w w' w0 : World} {base : Nat} {σ : CSt} {s s' s0 : PSt} {ops ops' : Nat → List Int} {κ : Nat}
theorem PL.made {p cm bm : Nat} (hL : σ.L = []) (hm : σ.dn ≤ σ.most ∧ σ.dn ≤ 4096) (hen : σ.en = false ∧ σ.lf = 0) (hK : σ.K = 0) (hws : σ.ws = fun _ => []) : PL (newS p cm bm σ) (fun _ => []) [] 0 where
  asc := List.Pairwise.nil
  idr := fun c hc => by cases hc
  ft := fun c hc => by cases hc
  fc := rfl
  kc := rfl
  fb := rfl
  kb := rfl
  bn := List.nodup_nil
  bdn := fun b hb => by cases hb
  op := fun b hb => by cases hb
  cb := fun c hc => by cases hc
  bc := fun b hb => by cases hb
  pb := fun i hi => by cases hi
  bal := fun b hb => by cases hb
  ah := fun c hc => by cases hc
  la := fun b hb => by cases hb
  lam := fun b hb => by cases hb
  ahm := fun c hc => by cases hc
  wra := fun c hc => by cases hc
  len := by show σ.L.length ≤ σ.most; rw [hL]; exact Nat.zero_le _
  mdn := hm
  en := hen
  bd := ⟨Nat.le_refl _, Nat.le_refl _, Nat.le_refl _, by show σ.K ≤ _; rw [hK]; omega, fun n => by show (σ.ws n).length ≤ 0; rw [hws]; exact Nat.le_refl _⟩
  sfb := fun b hb => by cases hb
  lsb := fun b hb => by cases hb
  cab := fun b hb => by cases hb
  cao := fun n _ _ => ⟨by show σ.ws n = []; rw [hws], .inl (by show ent σ.L n = none; rw [hL]; rfl)⟩
end
end Go.Proofs.YtkiifmnmeikdlaaGreatDoor
/- vol.root and vol.table. -/
namespace Go.Proofs.YtkiifmnmeikdlaaGreatDoor
open Go.RowKit
set_option maxRecDepth 100000
/-- A new volume's root. -/
def rootI : Ino := ⟨2, 1, 0, 1, [0, 0, 0, 0, 0, 0, 0, 0]⟩
theorem rootI_rt : rtB rootI = true := by decide +kernel
theorem exec_build_root {ev : Operand → Value} {oi : Oper} {w : World} {x0 x1 x3 : Operand} {k l d : Int} (ho : oi.op = .build 30 #[(0, x0), (1, x1), (3, x3)])
    (e0 : ev x0 = .int .i64 k) (e1 : ev x1 = .int .i64 l) (e3 : ev x3 = .int .i64 d) :
    (execOp ev oi).run Tryz.prog w = .ok (.value (.agg (iA ⟨k, l, 0, d, [0, 0, 0, 0, 0, 0, 0, 0]⟩))) w := by
  have h : (Instr.build 30 #[(0, .int .i64 k), (1, .int .i64 l), (3, .int .i64 d)]).run Tryz.prog w = .ok (.agg (iA ⟨k, l, 0, d, [0, 0, 0, 0, 0, 0, 0, 0]⟩)) w := Go.run_build w 30 _ _ (by kernel_rfl)
  unfold execOp
  simp only [ho, List.map_toArray, List.map_cons, List.map_nil, e0, e1, e3, Sem.run_bind, h, Result.andThen_ok]
  rfl
theorem wpList_build_root {ops : Array Oper} {rest : List Oper} {op : Oper} {a : Act} {w : World} {Q : Exit → Act → World → Prop} (hgd : op.guard = none) {x0 x1 x3 : Operand} {k l d : Int} (ho : op.op = .build 30 #[(0, x0), (1, x1), (3, x3)])
    (e0 : a.eval x0 = .int .i64 k) (e1 : a.eval x1 = .int .i64 l) (e3 : a.eval x3 = .int .i64 d)
    (h : wpList Tryz.prog ops Q rest (a.put op.dst (.agg (iA ⟨k, l, 0, d, [0, 0, 0, 0, 0, 0, 0, 0]⟩))) w) : wpList Tryz.prog ops Q (op :: rest) a w :=
  wpList_plain hgd fun K hK => by
    unfold Oper.wp
    rw [exec_build_root ho e0 e1 e3]
    exact hK _ _ h
theorem results_cellV {fn : Func} {p : Tmp} {ty : TypeId} (h : fn.results = #[.cell p ty]) (tmps : Array Value) (P : Program) (w : World) :
    (results fn tmps).run P w = ((asAddr (tmps.getD p undef)).run P w).andThen fun a w₁ => (loadVar ty a).run P w₁ := by
  simp only [results, h]
  simp [Sem.run_bind, Result.andThen]
theorem results_ino1 {fn : Func} {q : Tmp} (h : fn.results = #[.cell q 30]) (tmps : Array Value) {w : World} {p : Nat} {i : Ino} (H : InoAt w p i) (hp : tmps.getD q undef = .pointer (some ⟨p, 0, none⟩)) :
    (results fn tmps).run Tryz.prog w = .ok (.agg (iA i)) w := by
  rw [results_cellV h, hp]
  simp [asAddr, run_loadVar_row w p 30 30 _ _ _ H.row Tryz.underlying30 rfl (by rw [Tryz.sz30, iA_size H.ln]), Result.andThen]
set_option maxHeartbeats 1000000 in
theorem root_any (w : World) : Calls Tryz.prog 109 #[] w fun e w' => e = .returned (.agg (iA rootI)) ∧ Below w.heap.size w w' := by
  have hz := zeroI
  have HN : Hid (InoAt (w.alloc (.cells (iA zino) 30)) w.heap.size zino) := ino_new w zino rfl
  have HNB : Hid (Below w.heap.size w (w.alloc (.cells (iA zino) 30))) := (Below.refl _ _).alloc (Nat.le_refl _) _
  go_enter Tryz.func109, Tryz.ntmps109
  go_wp2_with (first | ((with_reducible show wpList _ _ _ ({ dst := _, op := Op.build 30 _, type := _, pos := _, after := _, guard := _ } :: _) _ _); refine wpList_build_root rfl rfl rfl rfl rfl ?_) | ((with_reducible show wpList _ _ _ ({ dst := _, op := Op.store 30 _ _, type := _, pos := _, after := _, guard := _ } :: _) _ _); refine wpList_store_ino rfl _ _ rfl (HN.out) rfl rfl rfl ?_; intro w1 H1 b1 z1))
  exact bodyPost_ret (results_ino1 rfl _ H1 rfl) rfl ⟨rfl, HNB.out.trans b1⟩
end Go.Proofs.YtkiifmnmeikdlaaGreatDoor
/- vol.table, at the shape of 16 blocks, 8 slots and 2 groups. -/
namespace Go.Proofs.YtkiifmnmeikdlaaGreatDoor
open Go.RowKit
set_option maxRecDepth 100000
/-- The shape lies in block p. -/
structure Shp (w : World) (p : Nat) : Prop where
  row : w.heap[p]? = some (.cells #[.int .i64 16, .int .i64 8, .int .i64 2] 23 (0, 0))
section
variable {w w' : World} {p : Nat}
theorem Shp.lt (h : Shp w p) : p < w.heap.size := (Array.getElem?_eq_some_iff.1 h.row).1
theorem Shp.below (h : Shp w p) {B : Nat} (hb : Below B w w') (hp : p < B) : Shp w' p := ⟨by rw [hb.block p hp]; exact h.row⟩
theorem Shp.up (h : Shp w p) (hb : Below w.heap.size w w') : Shp w' p := h.below hb h.lt
theorem Shp.c0 (h : Shp w p) : w.cell? ⟨p, 0, none⟩ = some (.int .i64 16) := by rw [cell_of_row _ _ _ _ _ _ h.row]; rfl
theorem Shp.c1 (h : Shp w p) : w.cell? ⟨p, 1, none⟩ = some (.int .i64 8) := by rw [cell_of_row _ _ _ _ _ _ h.row]; rfl
theorem Shp.c2 (h : Shp w p) : w.cell? ⟨p, 2, none⟩ = some (.int .i64 2) := by rw [cell_of_row _ _ _ _ _ _ h.row]; rfl
end
theorem shp_new (w : World) : Shp (w.alloc (.cells #[.int .i64 16, .int .i64 8, .int .i64 2] 23)) w.heap.size := ⟨heap_alloc_new _ _⟩
theorem okV : okG 16 8 2 := okG_iff.2 (by omega)
theorem placeV_e {s : Int} (h : 0 ≤ s ∧ s < 16) : placeE 16 8 2 s = 0 := (placeE_in ⟨okV, h.1, by omega⟩).symm
theorem placeV_b {s : Int} (h : 0 ≤ s ∧ s < 16) : placeB 16 8 2 s = 3 + s / 8 * 16 + s % 8 / 4 := by rw [← placeB_in ⟨okV, h.1, by omega⟩]; omega
theorem placeV_p {s : Int} (h : 0 ≤ s ∧ s < 16) : placeP 16 8 2 s = s % 8 % 4 := by rw [← placeP_in ⟨okV, h.1, by omega⟩]
/-- A table's block at first. -/
def tabL (b : Int) : List UInt8 := if b = 3 then layAt zeros 64 (layI rootI) else zeros
theorem Own.at0V {w : World} {base : Nat} {v : Value} {l : List UInt8} (h : Own w base v l) (h0 : 0 < l.length) : ∃ g cap, v = .slice (some ⟨g, 0, none⟩) l.length cap ∧ base ≤ g ∧ Src w (some ⟨g, 0, none⟩) l := by
  obtain ⟨ao, cap, hv, hs, _, _, _⟩ := h.form
  obtain ⟨h1, h2⟩ := h
  rcases h2 with ⟨rfl, h3⟩ | ⟨g, cap', cur, rfl, hg, _⟩
  · omega
  · obtain ⟨rfl, _⟩ : some ⟨g, 0, none⟩ = ao ∧ cap' = cap := by simpa using hv
    exact ⟨g, cap', rfl, hg, hs⟩
set_option maxHeartbeats 2000000 in
theorem table_any (b : Int) (w : World) :
    Calls Tryz.prog 71 #[.agg #[.int .i64 16, .int .i64 8, .int .i64 2], .int .i64 b] w fun e w' => ∃ g c, e = .returned (.slice (some ⟨g, 0, none⟩) 256 c) ∧ Src w' (some ⟨g, 0, none⟩) (tabL b) ∧ w.heap.size ≤ g ∧ Below w.heap.size w w' := by
  obtain ⟨w1, hw1⟩ : ∃ w1, w.alloc (.cells #[.int .i64 16, .int .i64 8, .int .i64 2] 23) = w1 := ⟨_, rfl⟩
  have hG1 : Shp w1 w.heap.size := by rw [← hw1]; exact shp_new w
  have hb1 : Below w.heap.size w w1 := by rw [← hw1]; exact (Below.refl _ _).alloc (Nat.le_refl _) _
  have z1 : w1.heap.size = w.heap.size + 1 := by rw [← hw1]; simp
  obtain ⟨w2, hw2⟩ : ∃ w2, w2 = w1.alloc (.cells (bvs zeros).toArray 5) := ⟨_, rfl⟩
  have hmk : (Instr.makeSlice 42 (.int .i64 256) (.int .i64 256)).run Tryz.prog w1 = .ok (.slice (some ⟨w1.heap.size, 0, none⟩) 256 256) w2 := by rw [hw2]; exact make_any w1 256 256 (by omega) (by omega)
  have hb2 : Below w1.heap.size w1 w2 := by rw [hw2]; exact (Below.refl _ _).alloc (Nat.le_refl _) _
  have hB2 : Blk w2 w1.heap.size 5 zeros := by rw [hw2]; exact heap_alloc_new _ _
  have PL := place_any 16 8 2 1 w2
  rw [show placeB 16 8 2 1 = 3 by rw [placeV_b (by omega)]; rfl, show placeP 16 8 2 1 = 1 by rw [placeV_p (by omega)]; rfl, placeV_e (by omega)] at PL
  have hG2 := hG1.up hb2
  have c0 := hG2.c0
  have c1 := hG2.c1
  have c2 := hG2.c2
  have HF : Hid (Below w.heap.size w w2) := hb1.trans (hb2.mono (by omega))
  have HB2 : Hid (Blk w2 w1.heap.size 5 zeros) := hB2
  have HZ : Hid (w1.heap.size = w.heap.size + 1) := z1
  clear hG1 hG2 hb1 hb2 hB2 z1 hw2
  have RO := fun W => root_any W
  have LY := fun W (ha : Arg W (some ⟨w1.heap.size, 0, none⟩) 256 zeros) => ilayT_ok (some ⟨w1.heap.size, 0, none⟩) 256 zeros 1 rootI rfl zeros_length (by omega) rootI_rt W ha
  rw [show ((1 : Nat) : Int) = 1 from rfl] at LY
  by_cases hb : b = 3
  · subst hb
    go_enter Tryz.func71, Tryz.ntmps71
    go_wp2_with fail
    refine PL.mono ?_
    rintro e w3 ⟨rfl, h3⟩
    have HF3 : Hid (Below w.heap.size w w3) := HF.out.trans (h3.mono HF.out.size)
    have HB3 : Hid (Blk w3 w1.heap.size 5 zeros) := HB2.out.below h3 HB2.out.lt
    clear h3 HF HB2 PL c0 c1 c2 hmk
    go_wp2_with fail
    refine (RO _).mono ?_
    rintro e w4 ⟨rfl, h4⟩
    have HF4 : Hid (Below w.heap.size w w4) := HF3.out.trans (h4.mono HF3.out.size)
    have HB4 : Hid (Blk w4 w1.heap.size 5 zeros) := HB3.out.below h4 HB3.out.lt
    clear h4 HF3 HB3 RO
    go_wp2_with fail
    refine (LY _ ?_).mono ?_
    · have h := HB4.out.arg (by rw [zeros_length]; omega) (by rw [zeros_length]; omega)
      rw [zeros_length] at h
      exact h
    rintro e w5 ⟨v, rfl, h5, h5b⟩
    have hle : (layAt zeros 64 (layI rootI)).length = 256 := by decide +kernel
    obtain ⟨g, cap, rfl, hg, hs⟩ := h5.at0V (by rw [hle]; omega)
    rw [hle]
    have HS : Hid (Src w5 (some ⟨g, 0, none⟩) (tabL 3)) := hs
    have HG : Hid (w4.heap.size ≤ g) := hg
    have HF5 : Hid (Below w.heap.size w w5) := HF4.out.trans (h5b.mono HF4.out.size)
    have HZ4 : Hid (w.heap.size ≤ w4.heap.size) := HF4.out.size
    clear h5 h5b hs hg LY HF4 HB4 hle
    go_wp2_with fail
    go_ret
    exact ⟨g, cap, rfl, HS.out, Nat.le_trans HZ4.out HG.out, HF5.out⟩
  · have hne : ((3 : Int) == b) = false := by simp; omega
    go_enter Tryz.func71, Tryz.ntmps71
    go_wp2_with fail
    refine PL.mono ?_
    rintro e w3 ⟨rfl, h3⟩
    have HF3 : Hid (Below w.heap.size w w3) := HF.out.trans (h3.mono HF.out.size)
    have HB3 : Hid (Blk w3 w1.heap.size 5 zeros) := HB2.out.below h3 HB2.out.lt
    have HT : Hid (tabL b = zeros) := if_neg hb
    clear h3 HF HB2 PL c0 c1 c2 hmk
    go_wp2_with fail
    go_ret
    exact ⟨w1.heap.size, 256, rfl, by rw [HT.out]; exact HB3.out.src, by have := HZ.out; omega, HF3.out⟩
end Go.Proofs.YtkiifmnmeikdlaaGreatDoor
/- The first bytes of headers and tables, and what is read of them; vol.fresh. -/
namespace Go.Proofs.YtkiifmnmeikdlaaGreatDoor
open Go.RowKit
set_option maxRecDepth 100000
/-- A group's map of blocks and of slots at first. -/
def bl0 : List UInt8 := fillb z16 (kbl 8)
def sl0 (k : Nat) : List UInt8 := fillb z8 (ksl k)
/-- A header's block at first. -/
def hdrL (k : Nat) : List UInt8 := layL k (frN bl0 16).toNat (frN (sl0 k) 8).toNat bl0 (sl0 k)
theorem bl0_len : bl0.length = 16 := by decide +kernel
theorem sl0_len (k : Nat) (hk : k < 2) : (sl0 k).length = 8 := by
  rcases (show k = 0 ∨ k = 1 by omega) with rfl | rfl <;> decide +kernel
theorem hdr_len (k : Nat) (hk : k < 2) : (hdrL k).length = 256 := by
  rcases (show k = 0 ∨ k = 1 by omega) with rfl | rfl <;> decide +kernel
theorem hdr_rg (k : Nat) (hk : k < 2) : rgB 16 8 2 k bl0 (sl0 k) = true := by
  rcases (show k = 0 ∨ k = 1 by omega) with rfl | rfl <;> decide +kernel
theorem hdr_rdN (k : Nat) (hk : k < 2) : rdNG (hdrL k) = k := by
  rcases (show k = 0 ∨ k = 1 by omega) with rfl | rfl <;> decide +kernel
theorem hdr_rgr (k : Nat) (hk : k < 2) : rgB 16 8 2 (rdNG (hdrL k)) (rdB (hdrL k)) (rdS (hdrL k)) = true := by
  rcases (show k = 0 ∨ k = 1 by omega) with rfl | rfl <;> decide +kernel
theorem hdr_back (k : Nat) (hk : k < 2) : (backL 16 8 (hdrL k) == hdrL k) = true := by
  rcases (show k = 0 ∨ k = 1 by omega) with rfl | rfl <;> decide +kernel
theorem numV (k : Nat) (hk : k < 2) : numB 16 8 2 k = true := by
  rcases (show k = 0 ∨ k = 1 by omega) with rfl | rfl <;> decide +kernel
theorem tab_len (b : Int) : (tabL b).length = 256 := by
  unfold tabL
  split
  · decide +kernel
  · decide +kernel
/-- The inode of a slot at first. -/
def inoS (s : Int) : Ino := if s = 1 then rootI else zino
theorem eqI_mk {i j : Ino} (h : eqI i j = true) : i = j := eqI_iff.1 h
theorem tabR_v (s : Nat) (hs : s < 16) : getV (((tabL (3 + s / 8 * 16 + s % 8 / 4 : Nat)).drop (64 * (s % 8 % 4))).take 64) = inoS s := by
  apply eqI_mk
  have : ∀ s : Fin 16, eqI (getV (((tabL (3 + s.1 / 8 * 16 + s.1 % 8 / 4 : Nat)).drop (64 * (s.1 % 8 % 4))).take 64)) (inoS s.1) = true := by decide +kernel
  exact this ⟨s, hs⟩
theorem tabR_e (s : Nat) (hs : s < 16) : getEI (((tabL (3 + s / 8 * 16 + s % 8 / 4 : Nat)).drop (64 * (s % 8 % 4))).take 64) = 0 := by
  have : ∀ s : Fin 16, getEI (((tabL (3 + s.1 / 8 * 16 + s.1 % 8 / 4 : Nat)).drop (64 * (s.1 % 8 % 4))).take 64) = 0 := by decide +kernel
  exact this ⟨s, hs⟩
/-- The superblock. -/
def supL : List UInt8 := putL 1 16 8 2
theorem sup_len : supL.length = 256 := putL_length 1 16 8 2
theorem sup_ok : okS 1 16 8 2 = true := by decide +kernel
theorem sup_choose : chooseB zeros supL 34 = (1, 16, 8, 2) := by decide +kernel
end Go.Proofs.YtkiifmnmeikdlaaGreatDoor
/- A disk of 34 blocks that is not stopped: what is read of it. -/
namespace Go.Proofs.YtkiifmnmeikdlaaGreatDoor
open Go.RowKit
set_option maxRecDepth 100000
/-- The disk p, of whose blocks C is read; its memory is D; no block has more than k writes open. -/
def DW (w : World) (base p : Nat) (C : Nat → List UInt8) (k : Nat) (D : Nat → Prop) : Prop :=
  ∃ sf ws q vs, DiskAt w base p 34 false 0 sf ws q vs ∧ (∀ i, lastOf (sf i) (ws i) = C i) ∧ (∀ i, (ws i).length ≤ k) ∧ D = Dk p q 34 vs
theorem lastOf_add (sf : List UInt8) (ws : List (List UInt8)) (d : List UInt8) : lastOf sf (ws ++ [d]) = d := by
  have := lastOf_snoc sf (ws ++ [d]) ws.length (by simp)
  rw [List.take_of_length_le (by simp)] at this
  rw [this]; simp
theorem DiskAt.dk_ltV {w : World} {base p n : Nat} {en : Bool} {lf : Int} {sf : Nat → List UInt8} {ws : Nat → List (List UInt8)} {q : Nat} {vs : Nat → Value} (h : DiskAt w base p n en lf sf ws q vs) {k : Nat} (hk : Dk p q n vs k) : k < w.heap.size ∧ base ≤ k := by
  rcases hk with rfl | rfl | ⟨i, hi, hk⟩
  · exact ⟨h.pl, h.pb⟩
  · exact ⟨h.ql, h.qb⟩
  · have := World.ownsRow.lt (h.wr i hi).1 k hk
    exact ⟨this.2, this.1⟩
section
variable {w w' : World} {base p k : Nat} {C : Nat → List UInt8} {D : Nat → Prop}
theorem DW.lt (h : DW w base p C k D) {j : Nat} (hj : D j) : j < w.heap.size ∧ base ≤ j := by
  obtain ⟨sf, ws, q, vs, hD, _, _, rfl⟩ := h
  exact hD.dk_ltV hj
theorem DW.pin (h : DW w base p C k D) : D p := by
  obtain ⟨sf, ws, q, vs, hD, _, _, rfl⟩ := h
  exact .inl rfl
theorem DW.up (h : DW w base p C k D) (hb : Below w.heap.size w w') : DW w' base p C k D := by
  obtain ⟨sf, ws, q, vs, hD, h1, h2, rfl⟩ := h
  exact ⟨sf, ws, q, vs, hD.below hb (Nat.le_refl _), h1, h2, rfl⟩
theorem DW.fr (h : DW w base p C k D) {S : Nat → Prop} (hf : Fr S w w') (hS : ∀ j, D j → ¬ S j) : DW w' base p C k D := by
  obtain ⟨sf, ws, q, vs, hD, h1, h2, rfl⟩ := h
  exact ⟨sf, ws, q, vs, hD.fr hf hS, h1, h2, rfl⟩
theorem dw_len (h : DW w base p C k D) : Calls Tryz.prog 22 #[.pointer (some ⟨p, 0, none⟩)] w fun e w' => e = .returned (.int .i64 34) ∧ w' = w := by
  obtain ⟨sf, ws, q, vs, hD, _, _, _⟩ := h
  exact len_any hD
theorem dw_read (h : DW w base p C k D) (i : Nat) (hi : i < 34) :
    Calls Tryz.prog 45 #[.pointer (some ⟨p, 0, none⟩), .int .i64 (i : Int)] w fun e w' => ∃ g, e = .returned (.tuple #[.slice (some ⟨g, 0, none⟩) 256 256, .int .i64 0]) ∧ Blk w' g 147 (C i) ∧ w.heap.size ≤ g ∧ Below w.heap.size w w' := by
  obtain ⟨sf, ws, q, vs, hD, h1, _, _⟩ := h
  rw [← h1 i]
  exact read_anyP hD i hi
theorem dw_write (h : DW w base p C k D) (hk : k ≤ 1000) (i : Nat) (hi : i < 34) (d : List UInt8) (hd : d.length = 256) (bd od dc : Nat) (hs : Src w (some ⟨bd, od, none⟩) d) (hbp : bd ≠ p) :
    Calls Tryz.prog 79 #[.pointer (some ⟨p, 0, none⟩), .int .i64 (i : Int), .slice (some ⟨bd, od, none⟩) 256 dc] w fun e w' => e = .returned (.int .i64 0) ∧ ∃ D', DW w' base p (upd C i d) (k + 1) D' ∧ (∀ j, D' j → D j ∨ w.heap.size ≤ j) ∧ Fr D w w' := by
  obtain ⟨sf, ws, q, vs, hD, h1, h2, rfl⟩ := h
  refine (write_fr hD (by omega) i hi (by have := h2 i; omega) d hd bd od dc hs hbp rfl).mono ?_
  rintro e w' ⟨rfl, ⟨g, c, hD', hg⟩, _, hf⟩
  refine ⟨rfl, _, ⟨sf, _, q, _, hD', fun j => ?_, fun j => ?_, rfl⟩, fun j hj => ?_, hf.mono fun j _ hj => ?_⟩
  · by_cases e : j = i
    · subst e; rw [upd_same, upd_same, lastOf_add]
    · rw [upd_other _ _ _ e, upd_other _ _ _ e]; exact h1 j
  · by_cases e : j = i
    · subst e; rw [upd_same]; have := h2 j; simp; omega
    · rw [upd_other _ _ _ e]; have := h2 j; omega
  · rcases hj with hj | hj | ⟨i', hi', hj⟩
    · exact .inl (.inl hj)
    · exact .inl (.inr (.inl hj))
    · by_cases e : i' = i
      · subst e
        rw [upd_same] at hj
        have hgj : g = j := by simpa [Value.ownBlock] using hj
        subst hgj
        rcases hg with hg | hg
        · exact .inl (.inr (.inr ⟨i', hi', hg⟩))
        · exact .inr hg
      · rw [upd_other _ _ _ e] at hj
        exact .inl (.inr (.inr ⟨i', hi', hj⟩))
  · rcases hj with hj | hj | hj
    · exact .inl hj
    · exact .inr (.inl hj)
    · exact .inr (.inr ⟨i, hi, hj⟩)
theorem dw_flush (h : DW w base p C k D) :
    Calls Tryz.prog 80 #[.pointer (some ⟨p, 0, none⟩)] w fun e w' => e = .returned (.int .i64 0) ∧ ∃ D', DW w' base p C 0 D' ∧ (∀ j, D' j → D j) ∧ Fr D w w' := by
  obtain ⟨sf, ws, q, vs, hD, h1, h2, rfl⟩ := h
  refine (flush_fr hD (by omega) rfl (openL ws 34) rfl).mono ?_
  rintro e w' ⟨rfl, ⟨vs', hD', hv⟩, _, hf⟩
  have hD2 : DiskAt w' base p 34 false 0 C (fun _ => []) q vs' := hD'.congr (fun i hi => by rw [(setS_all ws sf _ 34 i hi).1, List.take_length]; exact h1 i) (fun i hi => (setS_all ws sf _ 34 i hi).2)
  refine ⟨rfl, _, ⟨C, fun _ => [], q, vs', hD2, fun j => rfl, fun j => by simp, rfl⟩, fun j hj => ?_, hf.mono fun j _ hj => ?_⟩
  · rcases hj with hj | hj | ⟨i', hi', hj⟩
    · exact .inl hj
    · exact .inr (.inl hj)
    · rcases hv i' with e | e
      · rw [e] at hj; exact .inr (.inr ⟨i', hi', hj⟩)
      · rw [e] at hj; cases hj
  · rcases hj with hj | hj
    · exact .inl hj
    · exact .inr (.inl hj)
end
theorem dw_new (w : World) : Calls Tryz.prog 43 #[.int .i64 34] w fun e w' => ∃ p D, e = .returned (.tuple #[.pointer (some ⟨p, 0, none⟩), .int .i64 0]) ∧ DW w' w.heap.size p (fun _ => zer) 0 D ∧ Below w.heap.size w w' := by
  refine (new_any w 34 (by omega) (by omega)).mono ?_
  rintro e w' ⟨p, q, rfl, hD, hb⟩
  exact ⟨p, _, rfl, ⟨_, _, q, _, hD, fun _ => rfl, fun _ => Nat.le_refl _, rfl⟩, hb⟩
end Go.Proofs.YtkiifmnmeikdlaaGreatDoor
/- A range over an iterator that itself ranges over one: what the iterator promises, and the law for its caller. -/
namespace Go.Proofs.YtkiifmnmeikdlaaGreatDoor
open Go.RowKit Go.Shelf
set_option maxRecDepth 100000
/-- Block k holds cells. -/
def CellAt (W : World) (k : Nat) : Prop := ∃ o : Obj, W.heap[k]? = some o ∧ o.isCells = true
theorem CellAt.lt {W : World} {k : Nat} (h : CellAt W k) : k < W.heap.size := by obtain ⟨o, ho, _⟩ := h; exact (Array.getElem?_eq_some_iff.1 ho).1
theorem CellAt.same {W W' : World} {k : Nat} (h : CellAt W k) (e : W'.heap[k]? = W.heap[k]?) : CellAt W' k := by obtain ⟨o, ho, hc⟩ := h; exact ⟨o, e.trans ho, hc⟩
theorem CellAt.turn {A B : World} {k : Nat} {row : Option Nat} (h : CellAt A k) (hg : A.grownBy B row) (hr : ∀ r, row = some r → ∃ o : Obj, A.heap[r]? = some o ∧ o.isCells = false) : CellAt B k :=
  h.same (hg.block k h.lt (fun e => by
    obtain ⟨o, ho, hc⟩ := hr k e.symm
    obtain ⟨o', ho', hc'⟩ := h
    rw [ho] at ho'; cases ho'; rw [hc] at hc'; cases hc'))
/-- All that lay, but block l and the blocks of T, lies as it lay. -/
structure Kept (l : Nat) (T : Nat → Prop) (W W' : World) : Prop where
  size : W.heap.size ≤ W'.heap.size
  same : ∀ k, k < W.heap.size → k ≠ l → ¬ T k → W'.heap[k]? = W.heap[k]?
/-- All that lay, but the blocks of T, lies as it lay. -/
structure Upto (T : Nat → Prop) (W W' : World) : Prop where
  size : W.heap.size ≤ W'.heap.size
  same : ∀ k, k < W.heap.size → ¬ T k → W'.heap[k]? = W.heap[k]?
theorem Upto.bel {T : Nat → Prop} {W W' : World} (h : Below W.heap.size W W') : Upto T W W' := ⟨h.size, fun k hk _ => h.block k hk⟩
theorem round_any {m m' : Nat} {P : Program} {l : Nat} {f : FuncId} {tmps : Array Value} {assign body : Code} {w : World} {R : Ending → World → Prop}
    (h : RoundIn Fence.wide m P l f tmps assign body w R) : RoundIn Fence.wide m' P l f tmps assign body w R := ⟨h.1, fun c cs _ => h.2 c cs (fun d e => by cases e)⟩
/-- What an iterator promises that may range over another one itself: a round of the loop l keeps all that lay but its own record and the blocks T of the loop's own, to which it may add new ones. -/
def RunsP {α : Type} (P : Program) (g : Nat) (lb : Array Value) (encs : α → Array Value) (T0 : Nat → Prop) (S Sp : List α → Prop) (N : Nat) (Pre : α → World → Prop) (w : World) : Prop :=
  ∀ (l : Nat) (J : List α → World → (Nat → Prop) → Prop) (Jx : List α → World → Prop) (W : World), l < W.heap.size → w.heap.size ≤ l → Below w.heap.size w W →
    (∀ T, OwnFrom W.heap.size (fun s W => J s W T)) → OwnFrom W.heap.size Jx → (∀ pre W T, J pre W T → ∀ k, T k → CellAt W k) →
    (∀ (pre : List α) (x : α) (W1 : World) (T : Nat → Prop) (m : Nat), J pre W1 T → Pre x W1 → pre.length < N → YieldAt Fence.wide m P l (encs x) W1 fun e W' =>
      (e = .returned (.bool true) ∧ (∃ T', J (pre ++ [x]) W' T' ∧ ∀ k, T' k → T k ∨ W1.heap.size ≤ k) ∧ Kept l T W1 W') ∨ (e = .returned (.bool false) ∧ Jx (pre ++ [x]) W' ∧ Kept l T W1 W')) →
    J [] W T0 → ∀ m, CallsIn Fence.wide m P g (#[.func (.yield l) #[] #[]] ++ lb) W fun e W' => (∃ v, e = .returned v) ∧ ((∃ xs T, S xs ∧ J xs W' T) ∨ (∃ pre, Sp pre ∧ Jx pre W'))
/-- How the body of a round may be left. -/
def Left {α : Type} (I : List α → World → (Nat → Prop) → Prop) (Ix : List α → World → Prop) (T : Nat → Prop) (xs : List α) (W : World) : Exit → Act → World → Prop
  | .normal, _, W' => (∃ T', I xs W' T' ∧ ∀ k, T' k → (T k ∨ W.heap.size ≤ k) ∧ CellAt W' k) ∧ Upto T W W'
  | .ret, _, W' => Ix xs W' ∧ Upto T W W'
  | _, _, _ => False
theorem own_keep {β : Type} {B : Nat} {I : β → World → Prop} (h : OwnFrom B I) {s : β} {W : World} {l : Nat} {r : Loop} (o : Obj) (hs : I s W) (hB : B ≤ l) (hl : W.heap[l]? = some (.loop r)) : I s (W.putObj l o) := h.putObj o hs hB hl rfl
theorem own_up {β : Type} {B B' : Nat} {I : β → World → Prop} (h : OwnFrom B I) (hB : B ≤ B') : OwnFrom B' I :=
  fun s W W' row hs hg hr => h s W W' row hs hg (fun r e => ⟨Nat.le_trans hB (hr r e).1, (hr r e).2⟩)
/-- The law for the caller of such an iterator. -/
theorem range_runsP {α : Type} {n : Nat} {P : Program} {g : Operand} {ps : Array Tmp} {assign body : Code} {Q : Exit → Act → World → Prop} {a : Act} {w : World}
    {gf : Nat} {lb : Array Value} (hg : a.eval g = .func (.func gf) #[] lb) (eg : ∀ args w, (callFunc gf args).run P w = .ok (.enter gf args) w)
    {encs : α → Array Value} {T0 : Nat → Prop} {S Sp : List α → Prop} {N : Nat} {Pre : α → World → Prop} (hseq : RunsP P gf lb encs T0 S Sp N Pre w)
    (hT0 : ∀ k, T0 k → CellAt w k) (hps : ∀ x, (encs x).size = ps.size)
    (I : List α → World → (Nat → Prop) → Prop) (Ix : List α → World → Prop) (hI : ∀ T, OwnFrom w.heap.size (fun s W => I s W T)) (hIx : OwnFrom w.heap.size Ix) (h0 : I [] w T0) (Ax : α → Act → World → Prop) (hAx : ∀ x a', OwnFrom w.heap.size (fun (_ : Unit) W => Ax x a' W))
    (hassign : ∀ (l m : Nat) (pre : List α) (x : α) (W : World) (T : Nat → Prop) (K : Act → World → Prop), I pre W T → Pre x W → (∀ a' W', Below W.heap.size W W' → I pre W' T → Ax x a' W' → K a' W') →
      assign.wpIn (Fence.wide.inRound l) m P (Exit.then K (fun _ _ _ => False)) { tmps := (ps.zip (encs x)).foldl (fun t (p, v) => t.setIfInBounds p v) a.tmps, defers := [] } W)
    (hbody : ∀ (l m : Nat) (pre : List α) (x : α) (a' : Act) (W : World) (T : Nat → Prop), I pre W T → (∀ k, T k → CellAt W k) → Ax x a' W → pre.length < N → body.wpIn (Fence.wide.inRound l) m P (Left I Ix T (pre ++ [x]) W) a' W)
    (hdone : ∀ (D : Nat) (xs : List α) (W : World) (T : Nat → Prop), w.heap.size ≤ D → S xs → I xs W T → W.heap[D]? = some (.deferred (some [])) → Q .normal { a with defers := { target := .collected D, args := #[] } :: a.defers } W)
    (hstop : ∀ (D : Nat) (pre : List α) (W : World), w.heap.size ≤ D → Sp pre → Ix pre W → W.heap[D]? = some (.deferred (some [])) → Code.ret.wpIn Fence.wide n P Q { a with defers := { target := .collected D, args := #[] } :: a.defers } W) :
    (Code.rangeFunc g ps assign body).wpIn Fence.wide n P Q a w := by
  refine wpIn_rangeFunc fun fn _ => ?_
  -- the record of the loop, and where it and the block for deferred calls lie
  let rec0 : LoopState → Option Code → Loop := fun st pe => { state := st, pending := pe, fn := fn, tmps := a.tmps, params := ps, assign := assign, body := body, defers := w.heap.size }
  let wA := w.alloc (.deferred (some []))
  let wB := wA.alloc (.loop (rec0 .ready none))
  let L := w.heap.size + 1
  let Bk : World → LoopState → Option Code → Prop := fun W st pe => W.heap[L]? = some (.loop (rec0 st pe)) ∧ W.heap[w.heap.size]? = some (.deferred (some []))
  let Free : World → (Nat → Prop) → Prop := fun W T => ¬ T L ∧ ¬ T w.heap.size ∧ ∀ k, T k → CellAt W k
  have sB : wB.heap.size = w.heap.size + 2 := by simp [wB, wA]
  have kB : Bk wB .ready none := by
    refine ⟨?_, ?_⟩
    · have := World.alloc_heap_new wA (.loop (rec0 .ready none))
      rwa [show wA.heap.size = L by simp [wA, L]] at this
    · exact (Below.heap_alloc _ _ _ (by simp [wA])).trans (World.alloc_heap_new w _)
  have iB : I [] wB T0 := (hI T0).alloc _ ((hI T0).alloc _ h0)
  have fB : Free wB T0 := ⟨fun h => by have := (hT0 _ h).lt; simp only [L] at this; omega, fun h => by have := (hT0 _ h).lt; omega, fun k h => (hT0 k h).same ((Below.heap_alloc _ _ _ (by have := (hT0 k h).lt; simp [wA]; omega)).trans (Below.heap_alloc _ _ _ (hT0 k h).lt))⟩
  -- what the iterator turns is beyond both
  have far : ∀ {A B : World} {row : Option Nat}, A.grownBy B row → (∀ r, row = some r → wB.heap.size ≤ r ∧ ∃ o : Obj, A.heap[r]? = some o ∧ o.isCells = false) → ∀ (st : LoopState) (pe : Option Code), Bk A st pe → Bk B st pe := by
    intro A B row hgr hr st pe hs
    have f : ∀ k, k < w.heap.size + 2 → ∀ o, A.heap[k]? = some o → B.heap[k]? = some o := fun k hk o ho => by
      refine (hgr.block k (Array.getElem?_eq_some_iff.1 ho).1 (fun e => ?_)).trans ho
      have := (hr k e.symm).1
      omega
    exact ⟨f _ (by simp only [L]; omega) _ hs.1, f _ (by omega) _ hs.2⟩
  have putB : ∀ {W : World} {st : LoopState} {pe : Option Code} (st' : LoopState) (pe' : Option Code), Bk W st pe → Bk (W.putObj L (.loop (rec0 st' pe'))) st' pe' := fun st' pe' h =>
    ⟨World.putObj_heap_same (Array.getElem?_eq_some_iff.1 h.1).1, (World.putObj_heap_other (by simp only [L]; omega)).trans h.2⟩
  have keepB : ∀ {W W' : World} {T : Nat → Prop} {st : LoopState} {pe : Option Code}, Upto T W W' → Free W T → Bk W st pe → Bk W' st pe := fun h f k =>
    ⟨(h.same _ (Array.getElem?_eq_some_iff.1 k.1).1 f.1).trans k.1, (h.same _ (Array.getElem?_eq_some_iff.1 k.2).1 f.2.1).trans k.2⟩
  refine ⟨L, [{ target := .collected w.heap.size, args := #[] }], wB, { target := .fn (.func gf) lb, args := #[.func (.yield L) #[] #[]] }, wB, gf, #[.func (.yield L) #[] #[]] ++ lb, wB, run_enterLoop_outer _ _ _ _ _, ?_, fun _ _ => trivial, ?_, ?_, ?_⟩
  · simp only [resolve, hg]; simp [go_sem]
  · simp [invoke, go_sem, eg]
  · intro h; cases h
  refine (hseq L (fun s W T => I s W T ∧ Bk W .ready none ∧ Free W T) (fun s W => Ix s W ∧ Bk W .done (some .ret)) wB (by simp only [L]; omega) (by simp only [L]; omega)
    (((Below.refl _ w).alloc (Nat.le_refl _) _).alloc (by simp) _)
    (fun T s A B row hs hgr hr => ⟨(own_up (hI T) (by omega)) s A B row hs.1 hgr hr, far hgr hr _ _ hs.2.1, hs.2.2.1, hs.2.2.2.1, fun k hk => (hs.2.2.2.2 k hk).turn hgr (fun r e => (hr r e).2)⟩)
    (fun s A B row hs hgr hr => ⟨(own_up hIx (by omega)) s A B row hs.1 hgr hr, far hgr hr _ _ hs.2⟩)
    (fun _ _ _ h => h.2.2.2.2) ?_ ⟨iB, kB, fB⟩ _).mono ?_
  · rintro pre x W1 T m ⟨hi, hk, hf⟩ hpre hlen
    have hy := run_yield (P := P) (args := encs x) hk.1 (hps x)
    refine ⟨fn, _, assign, body, hy, roundIn_of_wpIn trivial (hassign L m pre x W1 T _ hi hpre fun a' W2 b2 i2 x2 => ?_)⟩
    have hk2 := keepB (T := T) (.bel b2) hf hk
    refine ⟨_, run_beginRound hk2.1 rfl, ?_⟩
    have hk3 := putB .busy none hk2
    have f3 : Free (W2.putObj L (.loop (rec0 .busy none))) T := ⟨hf.1, hf.2.1, fun k h => (hf.2.2 k h).same ((World.putObj_heap_other (fun e => hf.1 (by rw [← e]; exact h))).trans (b2.block k (hf.2.2 k h).lt))⟩
    refine wpIn_mono (hbody L m pre x a' _ T (own_keep (hI T) _ i2 (by simp only [L]; omega) hk2.1) f3.2.2 (own_keep (hAx x a') (s := ()) _ x2 (by simp only [L]; omega) hk2.1) hlen) ?_
    have step : ∀ {W3 : World} (o : Obj), Upto T (W2.putObj L (.loop (rec0 .busy none))) W3 → Kept L T W1 (W3.putObj L o) := fun {W3} o h => by
      have h1 := h.size
      have h2 := b2.size
      rw [World.putObj_size] at h1
      refine ⟨by rw [World.putObj_size]; omega, fun k hk' hne ht => ?_⟩
      rw [World.putObj_heap_other hne, h.same k (by rw [World.putObj_size]; omega) ht, World.putObj_heap_other hne, b2.block k hk']
    rintro e a3 W3 hp
    cases e with
    | normal =>
      obtain ⟨⟨T', i3, t3⟩, u3⟩ := hp
      have hk4 := keepB u3 f3 hk3
      have s2 := b2.size
      have z3 := (Array.getElem?_eq_some_iff.1 hk3.1).1
      rw [World.putObj_size] at z3
      have f4 : ∀ k, T' k → T k ∨ (W2.putObj L (.loop (rec0 .busy none))).heap.size ≤ k := fun k h => (t3 k h).1
      refine ⟨_, _, run_endRound none hk4.1, .inl ⟨rfl, ⟨T', ⟨own_keep (hI T') _ i3 (by simp only [L]; omega) hk4.1, putB .ready none hk4, ?_, ?_, ?_⟩, ?_⟩, step _ u3⟩⟩
      · intro h
        rcases f4 _ h with h | h
        · exact hf.1 h
        · rw [World.putObj_size] at h; omega
      · intro h
        rcases f4 _ h with h | h
        · exact hf.2.1 h
        · rw [World.putObj_size] at h; simp only [L] at z3; omega
      · intro k h
        refine (t3 k h).2.same (World.putObj_heap_other (fun e => ?_))
        rcases f4 _ h with h' | h'
        · exact hf.1 (e ▸ h')
        · rw [World.putObj_size] at h'; omega
      · intro k h
        rcases f4 _ h with h | h
        · exact .inl h
        · rw [World.putObj_size] at h; exact .inr (by omega)
    | ret =>
      obtain ⟨i3, u3⟩ := hp
      have hk4 := keepB u3 f3 hk3
      exact ⟨_, _, run_endRound (some .ret) hk4.1, .inr ⟨rfl, ⟨own_keep hIx _ i3 (by simp only [L]; omega) hk4.1, putB .done (some .ret) hk4⟩, step _ u3⟩⟩
    | exit _ => exact hp.elim
    | goto _ => exact hp.elim
    | panic _ => exact hp.elim
    | outgrown => exact hp.elim
  · rintro e W2 ⟨⟨v, rfl⟩, (⟨xs, T, hS, hi, hk, hf⟩ | ⟨pre, hSp, hi, hk⟩)⟩
    · exact ⟨none, _, run_endLoop hk.1 (by simp [rec0]), hdone _ xs _ T (Nat.le_refl _) hS (own_keep (hI T) _ hi (by simp only [L]; omega) hk.1) ((World.putObj_heap_other (by simp only [L]; omega)).trans hk.2)⟩
    · exact ⟨some .ret, _, run_endLoop hk.1 (by simp [rec0]), hstop _ pre _ (Nat.le_refl _) hSp (own_keep hIx _ hi (by simp only [L]; omega) hk.1) ((World.putObj_heap_other (by simp only [L]; omega)).trans hk.2)⟩
/-- The same, where a round begins with an act that hangs on what is yielded alone. -/
theorem range_runsA {α : Type} {n : Nat} {P : Program} {g : Operand} {ps : Array Tmp} {assign body : Code} {Q : Exit → Act → World → Prop} {a : Act} {w : World}
    {gf : Nat} {lb : Array Value} (hg : a.eval g = .func (.func gf) #[] lb) (eg : ∀ args w, (callFunc gf args).run P w = .ok (.enter gf args) w)
    {encs : α → Array Value} {T0 : Nat → Prop} {S Sp : List α → Prop} {N : Nat} {Pre : α → World → Prop} (hseq : RunsP P gf lb encs T0 S Sp N Pre w)
    (hT0 : ∀ k, T0 k → CellAt w k) (hps : ∀ x, (encs x).size = ps.size)
    (I : List α → World → (Nat → Prop) → Prop) (Ix : List α → World → Prop) (hI : ∀ T, OwnFrom w.heap.size (fun s W => I s W T)) (hIx : OwnFrom w.heap.size Ix) (h0 : I [] w T0) (A : α → Act) (hPre : ∀ x, OwnFrom w.heap.size (fun (_ : Unit) W => Pre x W))
    (hassign : ∀ (l m : Nat) (pre : List α) (x : α) (W : World) (T : Nat → Prop) (K : Act → World → Prop), I pre W T → Pre x W → K (A x) W →
      assign.wpIn (Fence.wide.inRound l) m P (Exit.then K (fun _ _ _ => False)) { tmps := (ps.zip (encs x)).foldl (fun t (p, v) => t.setIfInBounds p v) a.tmps, defers := [] } W)
    (hbody : ∀ (l m : Nat) (pre : List α) (x : α) (W : World) (T : Nat → Prop), I pre W T → (∀ k, T k → CellAt W k) → Pre x W → pre.length < N → body.wpIn (Fence.wide.inRound l) m P (Left I Ix T (pre ++ [x]) W) (A x) W)
    (hdone : ∀ (D : Nat) (xs : List α) (W : World) (T : Nat → Prop), w.heap.size ≤ D → S xs → I xs W T → W.heap[D]? = some (.deferred (some [])) → Q .normal { a with defers := { target := .collected D, args := #[] } :: a.defers } W)
    (hstop : ∀ (D : Nat) (pre : List α) (W : World), w.heap.size ≤ D → Sp pre → Ix pre W → W.heap[D]? = some (.deferred (some [])) → Code.ret.wpIn Fence.wide n P Q { a with defers := { target := .collected D, args := #[] } :: a.defers } W) :
    (Code.rangeFunc g ps assign body).wpIn Fence.wide n P Q a w :=
  range_runsP hg eg hseq hT0 hps I Ix hI hIx h0 (fun x a' W => Pre x W ∧ a' = A x)
    (fun x a' s W W' row hs hgr hr => ⟨hPre x () W W' row hs.1 hgr hr, hs.2⟩)
    (fun l m pre x W T K hi hp hK => hassign l m pre x W T K hi hp (hK _ _ (Below.refl _ _) hi ⟨hp, rfl⟩))
    (fun l m pre x a' W T hi hc hx hlt => by obtain ⟨hp, rfl⟩ := hx; exact hbody l m pre x W T hi hc hp hlt) hdone hstop
end Go.Proofs.YtkiifmnmeikdlaaGreatDoor
