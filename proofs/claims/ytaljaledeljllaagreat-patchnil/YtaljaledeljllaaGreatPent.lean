/- What a cache holds of each block; its calls, where it never is full. -/
import Derived.Test.YtaljaledeljllaaGreatPadd2
namespace Go.Proofs.YtaljaledeljllaaGreat
open Go.RowKit
set_option maxRecDepth 100000
/-- Of a block in memory its bytes, and how often it is pinned. -/
def ent (L : List CE) (n : Nat) : Option (List UInt8 × Nat) := (L.find? fun e => decide (e.n = n)).map fun e => (e.d, e.pin)
theorem ent_none {L : List CE} {n : Nat} (h : ∀ x ∈ L, ¬ x.n = n) : ent L n = none := by
  unfold ent
  rw [List.find?_eq_none.2 (by simpa using h)]; rfl
theorem ent_at {A B : List CE} {e : CE} (h : ∀ x ∈ A, ¬ x.n = e.n) : ent (A ++ e :: B) e.n = some (e.d, e.pin) := by
  unfold ent
  rw [List.find?_append, List.find?_eq_none.2 (by simpa using h)]; simp
theorem ent_other {A B : List CE} {e : CE} {m : Nat} (h : ¬ e.n = m) : ent (A ++ e :: B) m = ent (A ++ B) m := by
  unfold ent
  rw [List.find?_append, List.find?_append, List.find?_cons_of_neg (by simpa using h)]
theorem ent_some {L : List CE} {n : Nat} {x : List UInt8 × Nat} (h : ent L n = some x) : ∃ A e B, L = A ++ e :: B ∧ e.n = n ∧ e.d = x.1 ∧ e.pin = x.2 := by
  unfold ent at h
  cases hf : L.find? fun e => decide (e.n = n) with
  | none => rw [hf] at h; cases h
  | some e =>
    rw [hf] at h
    have h1 := List.find?_some hf
    have h2 := List.mem_of_find?_eq_some hf
    obtain ⟨A, B, rfl⟩ := List.append_of_mem h2
    simp only [Option.map_some, Option.some.injEq] at h
    exact ⟨A, e, B, rfl, by simpa using h1, by rw [← h], by rw [← h]⟩
/-- Another cache of the same disk, in which but one block's entry is another. -/
structure CRel (σ σ' : CSt) (n : Nat) (x : Option (List UInt8 × Nat)) : Prop where
  p : σ'.p = σ.p
  most : σ'.most = σ.most
  dp : σ'.dp = σ.dp
  dn : σ'.dn = σ.dn
  en : σ'.en = σ.en
  lf : σ'.lf = σ.lf
  sf : σ'.sf = σ.sf
  ws : σ'.ws = σ.ws
  k0 : σ.K ≤ σ'.K
  k1 : σ'.K ≤ σ.K + 1
  oth : ∀ m, ¬ m = n → ent σ'.L m = ent σ.L m
  at' : ent σ'.L n = x
  len : σ'.L.length ≤ σ'.most
theorem filter_ne_len (a : Nat) : ∀ {l : List Nat}, l.Nodup → l.length ≤ (l.filter fun y => decide (y ≠ a)).length + 1
  | [], _ => by simp
  | x :: l, h => by
    obtain ⟨g1, g2⟩ := List.nodup_cons.1 h
    by_cases ha : x = a
    · subst ha
      rw [List.filter_cons_of_neg (by simp), List.filter_eq_self.2 (fun y hy => by simp; exact fun e => g1 (e ▸ hy))]; simp
    · rw [List.filter_cons_of_pos (by simpa using ha)]
      have := filter_ne_len a g2
      simp only [List.length_cons]; omega
theorem nodup_lt_len : ∀ (dn : Nat) (l : List Nat), l.Nodup → (∀ x ∈ l, x < dn) → l.length ≤ dn
  | 0, l, _, h => by
    cases l with
    | nil => simp
    | cons a r => exact absurd (h a (by simp)) (by omega)
  | dn + 1, l, hd, h => by
    have h1 := filter_ne_len dn hd
    have h2 := nodup_lt_len dn (l.filter fun y => decide (y ≠ dn)) (hd.filter _) (fun x hx => by
      obtain ⟨a, b⟩ := List.mem_filter.1 hx
      have := h x a
      have : x ≠ dn := by simpa using b
      omega)
    omega
theorem room_of {L : List CE} {dn : Nat} (h : ∀ e ∈ L, e.n < dn) (hd : (L.map (·.n)).Nodup) {n : Nat} (hn : n < dn) (hne : ∀ x ∈ L, ¬ x.n = n) : L.length < dn := by
  have h1 : (n :: L.map (·.n)).Nodup := List.nodup_cons.2 ⟨fun hm => by obtain ⟨x, hx, hxn⟩ := List.mem_map.1 hm; exact hne x hx hxn, hd⟩
  have := nodup_lt_len dn _ h1 (fun x hx => by
    rcases List.mem_cons.1 hx with rfl | hx
    · exact hn
    · obtain ⟨y, hy, rfl⟩ := List.mem_map.1 hx
      exact h y hy)
  simp at this
  omega
section
variable {w w' : World} {base : Nat} {σ : CSt}
theorem ask_rel (h : CS w base σ (nums σ.L)) {n q K' : Nat} {P : List CE} {e : CE} {v' : Value} (hn : n < σ.dn) (hlen : σ.L.length ≤ σ.most) (hm : σ.dn ≤ σ.most) (hR : AskR σ n q (P ++ [e]) K') (hen : e.n = n) :
    (e.d, e.pin) = (ent σ.L n).getD (lst σ n, 0) ∧ ∀ d pn, CRel σ { σ with ov := v', L := P ++ [{ e with d := d, pin := pn }], K := K' } n (some (d, pn)) := by
  have hnd := h.nd
  have hl := hR.len hlen
  have hk := hR.k
  generalize hL' : P ++ [e] = L' at hR
  have fin : ∀ d pn, (∀ m, ¬ m = n → ent P m = ent σ.L m) → (∀ x ∈ P, ¬ x.n = n) → CRel σ { σ with ov := v', L := P ++ [{ e with d := d, pin := pn }], K := K' } n (some (d, pn)) := fun d pn ho hno =>
    ⟨rfl, rfl, rfl, rfl, rfl, rfl, rfl, rfl, hk.1, hk.2, fun m hmn => by
      show ent (P ++ [{ e with d := d, pin := pn }]) m = _
      rw [ent_other (e := { e with d := d, pin := pn }) (by show ¬ e.n = m; omega), List.append_nil]; exact ho m hmn, by
      have := ent_at (A := P) (B := []) (e := { e with d := d, pin := pn }) (by show ∀ x ∈ P, ¬ x.n = e.n; rw [hen]; exact hno)
      show ent (P ++ [{ e with d := d, pin := pn }]) n = _
      rw [← hen]; exact this, by
      show (P ++ [{ e with d := d, pin := pn }]).length ≤ σ.most
      simpa using hl⟩
  cases hR with
  | @hit A B e0 hL hn0 hq =>
    have h2 := noTwo_of (by rw [← hL]; exact hnd)
    unfold tch at hL'
    obtain ⟨rfl, h3⟩ := List.append_inj' hL' rfl
    obtain rfl : e = e0 := by simpa using h3
    refine ⟨?_, fun d pn => fin d pn (fun m hmn => ?_) (fun x hx => ?_)⟩
    · rw [hL, ← hen, ent_at h2.1]; rfl
    · rw [hL, ent_other (by omega)]
    · rw [← hen]
      rcases List.mem_append.1 hx with hx | hx
      · exact h2.1 x hx
      · exact h2.2 x hx
  | free hne hl2 =>
    unfold addE at hL'
    obtain ⟨rfl, h3⟩ := List.append_inj' hL' rfl
    obtain rfl : e = ⟨n, q, lst σ n, 0⟩ := by simpa using h3
    exact ⟨by rw [ent_none hne]; rfl, fun d pn => fin d pn (fun m _ => rfl) hne⟩
  | evict hne hl2 hL hA he =>
    have := room_of (fun e he => (h.blk e he).2.2.1) hnd hn hne
    omega
theorem cr_read (h : CS w base σ (nums σ.L)) (n : Nat) (hn : n < σ.dn) (hK : σ.K ≤ 1000000) (hlen : σ.L.length ≤ σ.most) (hm : σ.dn ≤ σ.most) :
    Calls Tryz.prog 80 #[.pointer (some ⟨σ.p, 0, none⟩), .int .i64 (n : Int)] w fun r w' => ∃ v d pn σ', r = .returned (.tuple #[v, .int .i64 0]) ∧ (d, pn) = (ent σ.L n).getD (lst σ n, 0) ∧ Own w' w.heap.size v d ∧ (∀ k, v.ownBlock = some k → ¬ Sk σ' k) ∧ Done base σ σ' w w' ∧ CRel σ σ' n (some (d, pn)) ∧ d.length = 256 := by
  refine (cread_any h n hn hK hlen).mono ?_
  rintro r w1 (⟨v, v', P, e, K', rfl, hO, hS, hD, hR, hen⟩ | ⟨rfl, hF, _⟩)
  · obtain ⟨h1, h2⟩ := ask_rel h (v' := v') hn hlen hm hR hen
    exact ⟨v, e.d, e.pin, _, rfl, h1, hO, hS, hD, h2 e.d e.pin, (hD.cs.blk e (by simp)).2.1⟩
  · have := room_of (fun e he => (h.blk e he).2.2.1) h.nd hn hF.ne
    have := hF.le
    omega
theorem cr_lay (h : CS w base σ (nums σ.L)) (n : Nat) (hn : n < σ.dn) (hK : σ.K ≤ 1000000) (hlen : σ.L.length ≤ σ.most) (hm : σ.dn ≤ σ.most) (data : List UInt8) (b o c : Nat) (hs : Src w (some ⟨b, o, none⟩) data) (hd : data.length = 256) (hbS : ¬ Sk σ b) :
    Calls Tryz.prog 85 #[.pointer (some ⟨σ.p, 0, none⟩), .int .i64 (n : Int), .slice (some ⟨b, o, none⟩) 256 c] w fun r w' => ∃ pn σ' d0, r = .returned (.int .i64 0) ∧ (d0, pn) = (ent σ.L n).getD (lst σ n, 0) ∧ Done base σ σ' w w' ∧ CRel σ σ' n (some (data, pn)) := by
  refine (clay_any h n hn hK hlen data b o c hs hd hbS).mono ?_
  rintro r w1 (⟨v', P, e, K', rfl, hD, hR, hen⟩ | ⟨rfl, hF, _⟩)
  · obtain ⟨h1, h2⟩ := ask_rel h (v' := v') hn hlen hm hR hen
    exact ⟨e.pin, _, e.d, rfl, h1, hD, h2 data e.pin⟩
  · have := room_of (fun e he => (h.blk e he).2.2.1) h.nd hn hF.ne
    have := hF.le
    omega
theorem cr_pins {A B : List CE} {e : CE} {k : Nat} (h : CS w base σ (nums σ.L)) (hL : σ.L = A ++ e :: B) (hlen : σ.L.length ≤ σ.most) : CRel σ { σ with L := A ++ { e with pin := k } :: B, K := σ.K + 1 } e.n (some (e.d, k)) := by
  have h2 := noTwo_of (by rw [← hL]; exact h.nd)
  refine ⟨rfl, rfl, rfl, rfl, rfl, rfl, rfl, rfl, by simp, by simp, fun m hmn => ?_, ?_, ?_⟩
  · show ent (A ++ { e with pin := k } :: B) m = _
    rw [hL, ent_other (e := { e with pin := k }) (by show ¬ e.n = m; omega), ent_other (by omega)]
  · exact ent_at (e := { e with pin := k }) h2.1
  · show (A ++ { e with pin := k } :: B).length ≤ σ.most
    rw [hL] at hlen
    simpa using hlen
theorem CRel.trans {σ σ' σ'' : CSt} {n : Nat} {x y : Option (List UInt8 × Nat)} (h : CRel σ σ' n x) (k : CRel σ' σ'' n y) : σ''.p = σ.p ∧ σ''.most = σ.most ∧ σ''.dp = σ.dp ∧ σ''.dn = σ.dn ∧ σ''.en = σ.en ∧ σ''.lf = σ.lf ∧ σ''.sf = σ.sf ∧ σ''.ws = σ.ws ∧ (∀ m, ¬ m = n → ent σ''.L m = ent σ.L m) ∧ ent σ''.L n = y ∧ σ''.L.length ≤ σ''.most :=
  ⟨k.p.trans h.p, k.most.trans h.most, k.dp.trans h.dp, k.dn.trans h.dn, k.en.trans h.en, k.lf.trans h.lf, k.sf.trans h.sf, k.ws.trans h.ws, fun m hm => (k.oth m hm).trans (h.oth m hm), k.at', k.len⟩
end
end Go.Proofs.YtaljaledeljllaaGreat
