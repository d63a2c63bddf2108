/- Both caches beside each other. -/
import Derived.Test.YtikpnfnbmbaljaaKZk
namespace Go.Proofs.Ytikpnfnbmbaljaa
open Go.RowKit
set_option maxRecDepth 100000
def newD (D : Nat → Prop) (w w' : World) (k : Nat) : Prop := D k ∨ (w.heap.size ≤ k ∧ k < w'.heap.size)
/-- The program's cache of a disk of n blocks and the document's, alike and apart. -/
structure KX (pd n : Nat) (w0 w : World) (p q ed : Nat) (σ : CSt) (κ : Nat) (D : Nat → Prop) : Prop where
  cs : CS w w0.heap.size σ (nums σ.L)
  be : Below w0.heap.size w0 w
  p : σ.p = p
  dpe : σ.dp = pd
  dn : σ.dn = n
  n8 : 1 ≤ n ∧ n ≤ 8
  ll : σ.L.length ≤ σ.most
  bd : σ.K ≤ κ ∧ ∀ i, (σ.ws i).length ≤ κ
  en : σ.en = false ∧ σ.lf = 0
  q : ∃ v base ver gb cb va vc, QC w q ed σ.most v (σ.L.map bf) ∧ RefW w base ed n false 0 ver gb cb va vc ∧ (∀ i, i < n → ver i = σ.sf i :: σ.ws i) ∧ (∀ k, Rk ed gb n va k → k ≠ q ∧ v.ownBlock ≠ some k) ∧ (∀ k, k = q ∨ v.ownBlock = some k ∨ Rk ed gb n va k → D k)
  no : ∀ k, D k → ¬ Sk σ k ∧ w0.heap.size ≤ k ∧ k < w.heap.size
theorem lastOf_at : ∀ (sf : List UInt8) (ws : List (List UInt8)), (sf :: ws)[ws.length]? = some (lastOf sf ws)
  | sf, [] => rfl
  | sf, x :: ws => by
    show (x :: ws)[ws.length]? = some ((x :: ws).getLast (by simp))
    rw [List.getLast_eq_getElem, List.getElem?_eq_getElem (by simp)]
    simp
section
variable {pd n : Nat} {w0 w w' w1 w2 : World} {p q ed : Nat} {σ σ' : CSt} {κ : Nat} {D : Nat → Prop}
theorem KX.len (h : KX pd n w0 w p q ed σ κ D) : σ.L.length ≤ 8 := by
  have hnd := h.cs.nd
  have : (σ.L.map (·.n)).length ≤ 8 := nodup_lenK 8 _ hnd fun x hx => by
    obtain ⟨e, he, rfl⟩ := List.mem_map.1 hx
    have h1 := (h.cs.blk e he).2.2.1
    have h2 := h.dn
    have h3 := h.n8
    show e.n < 8
    omega
  simpa using this
theorem KX.up (h : KX pd n w0 w p q ed σ κ D) (hb : Below w.heap.size w w') : KX pd n w0 w' p q ed σ κ D := by
  obtain ⟨v, base, ver, gb, cb, va, vc, h1, h2, h3⟩ := h.q
  exact { h with cs := h.cs.up hb, be := h.be.trans (hb.mono h.be.size), q := ⟨v, base, ver, gb, cb, va, vc, h1.up hb, h2.below hb, h3⟩, no := fun k hk => ⟨(h.no k hk).1, (h.no k hk).2.1, by have := (h.no k hk).2.2; have := hb.size; omega⟩ }
theorem KX.more (h : KX pd n w0 w p q ed σ κ D) {κ' : Nat} (hk : κ ≤ κ') : KX pd n w0 w p q ed σ κ' D := { h with bd := ⟨by have := h.bd.1; omega, fun i => by have := h.bd.2 i; omega⟩ }
theorem KX.keep (h : KX pd n w0 w p q ed σ κ D) {S : Nat → Prop} (hf : Fr S w w') (hS : ∀ k, Sk σ k ∨ D k → ¬ S k) (hb : ∀ k, S k → w0.heap.size ≤ k) : KX pd n w0 w' p q ed σ κ D := by
  obtain ⟨v, base, ver, gb, cb, va, vc, h1, h2, h3, h4, h5⟩ := h.q
  exact { h with cs := h.cs.fr hf (fun k hk => hS k (.inl hk)), be := h.be.trans (hf.below h.be.size hb), q := ⟨v, base, ver, gb, cb, va, vc, h1.keep hf (hS q (.inr (h5 q (.inl rfl)))) (fun k hk => hS k (.inr (h5 k (.inr (.inl hk))))), h2.keep hf (fun k hk => hS k (.inr (h5 k (.inr (.inr hk))))), h3, h4, h5⟩, no := fun k hk => ⟨(h.no k hk).1, (h.no k hk).2.1, by have := (h.no k hk).2.2; have := hf.size; omega⟩ }
/-- What a call to both leaves. -/
structure KP (pd n : Nat) (w0 : World) (p q ed : Nat) (σ : CSt) (κ : Nat) (D : Nat → Prop) (w w2 : World) : Prop where
  out : ∃ σ' D', KX pd n w0 w2 p q ed σ' κ D' ∧ ∀ k, Sk σ' k ∨ D' k → (Sk σ k ∨ D k) ∨ w.heap.size ≤ k
  fr : Fr (fun k => Sk σ k ∨ D k) w w2
/-- The program's cache has gone on, then the document's. -/
theorem KX.nextX (h : KX pd n w0 w p q ed σ κ D) {κ' : Nat} (hD : Done w0.heap.size σ σ' w w1) (hp : (σ'.p, σ'.dp) = (σ.p, σ.dp)) (hdn : σ'.dn = σ.dn) (hm : σ'.most = σ.most) (hl : σ'.L.length ≤ σ'.most) (hbd : σ'.K ≤ κ' ∧ ∀ i, (σ'.ws i).length ≤ κ') (hen : σ'.en = σ.en ∧ σ'.lf = σ.lf)
    {v : Value} {base : Nat} {ver : Nat → List (List UInt8)} {gb cb : Nat} {va vc : Nat → Nat} {S : Nat → Prop} (hQ : QC w2 q ed σ.most v (σ'.L.map bf)) (hR : RefW w2 base ed n false 0 ver gb cb va vc) (hv : ∀ i, i < n → ver i = σ'.sf i :: σ'.ws i) (hap : ∀ k, Rk ed gb n va k → k ≠ q ∧ v.ownBlock ≠ some k) (hin : ∀ k, k = q ∨ v.ownBlock = some k ∨ Rk ed gb n va k → D k ∨ w1.heap.size ≤ k) (hf : Fr S w1 w2) (hS : ∀ k, S k → D k) : KX pd n w0 w2 p q ed σ' κ' (newD D w1 w2) ∧ (∀ k, Sk σ' k ∨ newD D w1 w2 k → (Sk σ k ∨ D k) ∨ w.heap.size ≤ k) ∧ Fr (fun k => Sk σ k ∨ D k) w w2 := by
  have hap2 : ∀ k, Sk σ' k → ¬ D k := fun k hA hk => by
    rcases hD.st.sub k hA with h3 | h3
    · exact (h.no k hk).1 h3
    · have := (h.no k hk).2.2; omega
  have hz := hD.st.fr.size
  have hz2 := hf.size
  have hlt2 : ∀ k, k = q ∨ v.ownBlock = some k ∨ Rk ed gb n va k → k < w2.heap.size := fun k hk => by
    rcases hk with hk | hk | hk
    · rw [hk]; exact hQ.ql
    · exact hQ.own.lt k hk
    · rcases hk with e | e | ⟨i, hi, e⟩
      · rw [e]; exact hR.rl
      · rw [e]; exact hR.at'.gl
      · rw [← e]; exact (hR.at'.row i hi).2.1
  have hwb : w0.heap.size ≤ w.heap.size := h.be.size
  refine ⟨⟨hD.cs.fr hf (fun k hk hs => hap2 k hk (hS k hs)), (h.be.trans hD.be).trans (hf.below (by omega) (fun k hk => (h.no k (hS k hk)).2.1)), (congrArg Prod.fst hp).trans h.p, (congrArg Prod.snd hp).trans h.dpe, hdn.trans h.dn, h.n8, hl, hbd, ⟨hen.1.trans h.en.1, hen.2.trans h.en.2⟩, ⟨v, base, ver, gb, cb, va, vc, by rw [hm]; exact hQ, hR, hv, hap, fun k hk => ?_⟩, fun k hk => ?_⟩, fun k hk => ?_, ?_⟩
  · rcases hin k hk with h1 | h1
    · exact .inl h1
    · exact .inr ⟨h1, hlt2 k hk⟩
  · rcases hk with hk | hk
    · exact ⟨fun hA => hap2 k hA hk, (h.no k hk).2.1, by have := (h.no k hk).2.2; omega⟩
    · exact ⟨fun hA => by have := hD.cs.sk_size hA; omega, by omega, hk.2⟩
  · rcases hk with hk | hk | hk
    · rcases hD.st.sub k hk with h1 | h1
      · exact .inl (.inl h1)
      · exact .inr h1
    · exact .inl (.inr hk)
    · exact .inr (by omega)
  · exact (hD.st.fr.mono (T := fun k => Sk σ k ∨ D k) (fun k _ hk => .inl hk)).trans (hf.mono fun k _ hk => .inr (hS k hk))
theorem KX.next (h : KX pd n w0 w p q ed σ κ D) {κ' : Nat} (hD : Done w0.heap.size σ σ' w w1) (hp : (σ'.p, σ'.dp) = (σ.p, σ.dp)) (hdn : σ'.dn = σ.dn) (hm : σ'.most = σ.most) (hl : σ'.L.length ≤ σ'.most) (hbd : σ'.K ≤ κ' ∧ ∀ i, (σ'.ws i).length ≤ κ') (hen : σ'.en = σ.en ∧ σ'.lf = σ.lf)
    {v : Value} {base : Nat} {ver : Nat → List (List UInt8)} {gb cb : Nat} {va vc : Nat → Nat} {S : Nat → Prop} (hQ : QC w2 q ed σ.most v (σ'.L.map bf)) (hR : RefW w2 base ed n false 0 ver gb cb va vc) (hv : ∀ i, i < n → ver i = σ'.sf i :: σ'.ws i) (hap : ∀ k, Rk ed gb n va k → k ≠ q ∧ v.ownBlock ≠ some k) (hin : ∀ k, k = q ∨ v.ownBlock = some k ∨ Rk ed gb n va k → D k ∨ w1.heap.size ≤ k) (hf : Fr S w1 w2) (hS : ∀ k, S k → D k) : KP pd n w0 p q ed σ κ' D w w2 :=
  let h3 := h.nextX hD hp hdn hm hl hbd hen hQ hR hv hap hin hf hS
  ⟨⟨σ', _, h3.1, h3.2.1⟩, h3.2.2⟩
/-- Nothing was done to ours. -/
theorem KX.idle (h : KX pd n w0 w p q ed σ κ D) (hb : Below w.heap.size w w') {κ' : Nat} (hk : κ ≤ κ') : KP pd n w0 p q ed σ κ' D w w' := ⟨⟨σ, D, (h.up hb).more hk, fun _ hk => .inl hk⟩, Fr.of_below hb⟩
/-- The document's side, as it stands in a world that the program's call has left. -/
theorem KX.doc (h : KX pd n w0 w p q ed σ κ D) (hf : Fr (Sk σ) w w1) : ∃ v base ver gb cb va vc, QC w1 q ed σ.most v (σ.L.map bf) ∧ RefW w1 base ed n false 0 ver gb cb va vc ∧ (∀ i, i < n → ver i = σ.sf i :: σ.ws i) ∧ (∀ k, Rk ed gb n va k → k ≠ q ∧ v.ownBlock ≠ some k) ∧ (∀ k, k = q ∨ v.ownBlock = some k ∨ Rk ed gb n va k → D k) ∧ (∀ i, i < n → ∃ m, (ver i).length = m + 1 ∧ (ver i)[m]? = some (lst σ i)) ∧ (∀ x ∈ σ.L.map bf, x.b < n) ∧ ((σ.L.map bf).map (·.b)).Nodup ∧ (σ.L.map bf).length < 4096 := by
  obtain ⟨v, base, ver, gb, cb, va, vc, h1, h2, h3, h4, h5⟩ := h.q
  refine ⟨v, base, ver, gb, cb, va, vc, h1.keep hf (fun hs => (h.no q (h5 q (.inl rfl))).1 hs) (fun k hk hs => (h.no k (h5 k (.inr (.inl hk)))).1 hs), h2.keep hf (fun k hk hs => (h.no k (h5 k (.inr (.inr hk)))).1 hs), h3, h4, h5, fun i hi => ⟨(σ.ws i).length, by rw [h3 i hi]; rfl, by rw [h3 i hi]; exact lastOf_at _ _⟩, fun x hx => ?_, bf_nod h.cs.nd, by rw [List.length_map]; have := h.len; omega⟩
  obtain ⟨e, he, rfl⟩ := List.mem_map.1 hx
  have h6 := (h.cs.blk e he).2.2.1
  have h7 := h.dn
  show e.n < n
  omega
/-- Which block: one of ours, or none. -/
theorem KX.which (h : KX pd n w0 w p q ed σ κ D) (b : Int) : (∀ e ∈ σ.L, ¬ (e.n : Int) = b) ∨ ∃ A e B, σ.L = A ++ e :: B ∧ b = (e.n : Int) ∧ (∀ c ∈ A.map bf, ¬ c.b = (bf e).b) := by
  by_cases hx : ∃ e ∈ σ.L, (e.n : Int) = b
  · obtain ⟨e, he, hb⟩ := hx
    obtain ⟨A, B, hL⟩ := List.append_of_mem he
    refine .inr ⟨A, e, B, hL, hb.symm, fun c hc => ?_⟩
    obtain ⟨d, hd, rfl⟩ := List.mem_map.1 hc
    exact (h.cs.split hL).1 d hd
  · exact .inl fun e he hb => hx ⟨e, he, hb⟩
theorem bf_map (A B : List CE) (e : CE) : (A ++ e :: B).map bf = A.map bf ++ bf e :: B.map bf := by simp
theorem kx_pin (h : KX pd n w0 w p q ed σ κ D) (hκ : κ ≤ 1000) (b : Int) (hb : -9223372036854775808 ≤ b ∧ b ≤ 9223372036854775807) :
    Calls Try.prog 28 #[.pointer (some ⟨p, 0, none⟩), .int .i64 b] w fun r w1 => ∃ er : Int, r = .returned (.int .i64 er) ∧ Fr (Sk σ) w w1 ∧
      Calls Try.prog 29 #[.pointer (some ⟨q, 0, none⟩), .int .i64 b] w1 fun r2 w2 => r2 = .returned (.int .i64 er) ∧ KP pd n w0 p q ed σ (κ + 1) D w w2 := by
  obtain rfl : σ.p = p := h.p
  rcases h.which b with hno | ⟨A, e, B, hL, rfl, hA⟩
  · refine (pin_no h.cs b hno hb).mono ?_
    rintro r w1 ⟨rfl, rfl⟩
    refine ⟨20, rfl, Fr.refl _ _, ?_⟩
    obtain ⟨v, base, ver, gb, cb, va, vc, hQ, _⟩ := h.doc (Fr.refl _ _)
    refine (qpin_no hQ b (fun c hc => by obtain ⟨d, hd, rfl⟩ := List.mem_map.1 hc; exact hno d hd)).mono ?_
    rintro r w2 ⟨rfl, rfl⟩
    exact ⟨rfl, h.idle (Below.refl _ _) (by omega)⟩
  · refine (pin_ok h.cs hL (by have := h.bd.1; omega)).mono ?_
    rintro r w1 ⟨rfl, hD⟩
    refine ⟨0, rfl, hD.st.fr, ?_⟩
    obtain ⟨v, base, ver, gb, cb, va, vc, hQ, hR, hv, hap, hin, hy, hbn, hnd, hl4⟩ := h.doc hD.st.fr
    rw [hL, bf_map] at hQ
    refine (qpin_ok hQ hA (by show e.pin ≤ _; have := (h.cs.blk e (by rw [hL]; simp)).2.2.2; have := h.bd.1; omega)).mono ?_
    rintro r w2 ⟨rfl, hQ2, hf2⟩
    refine ⟨rfl, h.next hD rfl rfl rfl (by have := h.ll; rw [hL] at this; simpa using this) ⟨by show σ.K + 1 ≤ _; have := h.bd.1; omega, fun i => by have := h.bd.2 i; show (σ.ws i).length ≤ _; omega⟩ ⟨rfl, rfl⟩ (v := v) (by simpa [bf] using hQ2) (hR.keep hf2 (fun k hk hs => (hap k hk).2 hs)) hv hap (fun k hk => .inl (hin k hk)) hf2 (fun k hk => hin k (.inr (.inl hk)))⟩
theorem kx_unpin (h : KX pd n w0 w p q ed σ κ D) (hκ : κ ≤ 1000) (b : Int) (hb : -9223372036854775808 ≤ b ∧ b ≤ 9223372036854775807) :
    Calls Try.prog 30 #[.pointer (some ⟨p, 0, none⟩), .int .i64 b] w fun r w1 => ∃ er : Int, r = .returned (.int .i64 er) ∧ Fr (Sk σ) w w1 ∧
      Calls Try.prog 31 #[.pointer (some ⟨q, 0, none⟩), .int .i64 b] w1 fun r2 w2 => r2 = .returned (.int .i64 er) ∧ KP pd n w0 p q ed σ (κ + 1) D w w2 := by
  obtain rfl : σ.p = p := h.p
  rcases h.which b with hno | ⟨A, e, B, hL, rfl, hA⟩
  · refine (unpin_no h.cs b hno hb).mono ?_
    rintro r w1 ⟨rfl, rfl⟩
    refine ⟨20, rfl, Fr.refl _ _, ?_⟩
    obtain ⟨v, base, ver, gb, cb, va, vc, hQ, _⟩ := h.doc (Fr.refl _ _)
    refine (qunpin_no hQ b (fun c hc => by obtain ⟨d, hd, rfl⟩ := List.mem_map.1 hc; exact hno d hd)).mono ?_
    rintro r w2 ⟨rfl, rfl⟩
    exact ⟨rfl, h.idle (Below.refl _ _) (by omega)⟩
  · by_cases hp : e.pin = 0
    · refine (unpin_zero h.cs hL hp).mono ?_
      rintro r w1 ⟨rfl, rfl⟩
      refine ⟨6, rfl, Fr.refl _ _, ?_⟩
      obtain ⟨v, base, ver, gb, cb, va, vc, hQ, _⟩ := h.doc (Fr.refl _ _)
      rw [hL, bf_map] at hQ
      refine (qunpin_zero hQ hA hp).mono ?_
      rintro r w2 ⟨rfl, rfl⟩
      exact ⟨rfl, h.idle (Below.refl _ _) (by omega)⟩
    · refine (unpin_ok h.cs hL (by have := h.bd.1; omega) (by omega)).mono ?_
      rintro r w1 ⟨rfl, hD⟩
      refine ⟨0, rfl, hD.st.fr, ?_⟩
      obtain ⟨v, base, ver, gb, cb, va, vc, hQ, hR, hv, hap, hin, hy, hbn, hnd, hl4⟩ := h.doc hD.st.fr
      rw [hL, bf_map] at hQ
      refine (qunpin_ok hQ hA (by show e.pin ≤ _; have := (h.cs.blk e (by rw [hL]; simp)).2.2.2; have := h.bd.1; omega) (by show 1 ≤ e.pin; omega)).mono ?_
      rintro r w2 ⟨rfl, hQ2, hf2⟩
      refine ⟨rfl, h.next hD rfl rfl rfl (by have := h.ll; rw [hL] at this; simpa using this) ⟨by show σ.K + 1 ≤ _; have := h.bd.1; omega, fun i => by have := h.bd.2 i; show (σ.ws i).length ≤ _; omega⟩ ⟨rfl, rfl⟩ (v := v) (by simpa [bf] using hQ2) (hR.keep hf2 (fun k hk hs => (hap k hk).2 hs)) hv hap (fun k hk => .inl (hin k hk)) hf2 (fun k hk => hin k (.inr (.inl hk)))⟩
theorem kx_drop (h : KX pd n w0 w p q ed σ κ D) (b : Int) (hb : -9223372036854775808 ≤ b ∧ b ≤ 9223372036854775807) :
    Calls Try.prog 32 #[.pointer (some ⟨p, 0, none⟩), .int .i64 b] w fun r w1 => ∃ er : Int, r = .returned (.int .i64 er) ∧ Fr (Sk σ) w w1 ∧
      Calls Try.prog 33 #[.pointer (some ⟨q, 0, none⟩), .int .i64 b] w1 fun r2 w2 => r2 = .returned (.int .i64 er) ∧ KP pd n w0 p q ed σ (κ + 1) D w w2 := by
  obtain rfl : σ.p = p := h.p
  rcases h.which b with hno | ⟨A, e, B, hL, rfl, hA⟩
  · refine (drop_no h.cs b hno hb).mono ?_
    rintro r w1 ⟨rfl, rfl⟩
    refine ⟨20, rfl, Fr.refl _ _, ?_⟩
    obtain ⟨v, base, ver, gb, cb, va, vc, hQ, _⟩ := h.doc (Fr.refl _ _)
    refine (qdrop_no hQ b (fun c hc => by obtain ⟨d, hd, rfl⟩ := List.mem_map.1 hc; exact hno d hd)).mono ?_
    rintro r w2 ⟨rfl, rfl⟩
    exact ⟨rfl, h.idle (Below.refl _ _) (by omega)⟩
  · by_cases hp : e.pin = 0
    · refine (drop_ok h.cs hL hp).mono ?_
      rintro r w1 ⟨rfl, v1, hD⟩
      refine ⟨0, rfl, hD.st.fr, ?_⟩
      obtain ⟨v, base, ver, gb, cb, va, vc, hQ, hR, hv, hap, hin, hy, hbn, hnd, hl4⟩ := h.doc hD.st.fr
      rw [hL, bf_map] at hQ hnd
      refine (qdrop_ok hQ hnd hp).mono ?_
      rintro r w2 ⟨rfl, v2, hQ2, hf2, hv2⟩
      refine ⟨rfl, h.next hD rfl rfl rfl (by have := h.ll; rw [hL] at this; show (A ++ B).length ≤ σ.most; rw [List.length_append] at this ⊢; rw [List.length_cons] at this; omega) ⟨by show σ.K ≤ _; have := h.bd.1; omega, fun i => by have := h.bd.2 i; show (σ.ws i).length ≤ _; omega⟩ ⟨rfl, rfl⟩ (v := v2) (by simpa using hQ2) (hR.keep hf2 (fun k hk hs => (hap k hk).1 hs)) hv (fun k hk => ⟨(hap k hk).1, fun e2 => ?_⟩) (fun k hk => ?_) hf2 (fun k hk => hin k (.inl hk))⟩
      · have h1 := hv2 k e2
        have h2 := (h.no k (hin k (.inr (.inr hk)))).2.2
        have := hD.st.fr.size
        omega
      · rcases hk with hk | hk | hk
        · exact .inl (hin k (.inl hk))
        · exact .inr (hv2 k hk)
        · exact .inl (hin k (.inr (.inr hk)))
    · refine (drop_busy h.cs hL (by omega)).mono ?_
      rintro r w1 ⟨rfl, rfl⟩
      refine ⟨32, rfl, Fr.refl _ _, ?_⟩
      obtain ⟨v, base, ver, gb, cb, va, vc, hQ, _⟩ := h.doc (Fr.refl _ _)
      rw [hL, bf_map] at hQ
      refine (qdrop_busy hQ hA (by show 1 ≤ e.pin; omega)).mono ?_
      rintro r w2 ⟨rfl, rfl⟩
      exact ⟨rfl, h.idle (Below.refl _ _) (by omega)⟩
end
end Go.Proofs.Ytikpnfnbmbaljaa
/- Both caches: Flush, Lay, Write, Read, Held, Dirty. -/
namespace Go.Proofs.Ytikpnfnbmbaljaa
open Go.RowKit
set_option maxRecDepth 100000
theorem lv_lstC (sf : List UInt8) (ws : List (List UInt8)) : lv (sf :: ws) = lastOf sf ws := by
  have h := lastOf_at sf ws
  unfold lv
  rw [List.length_cons, Nat.add_sub_cancel, List.getD_eq_getElem?_getD, h]
  rfl
section
variable {pd n : Nat} {w0 w w' w1 w2 : World} {p q ed : Nat} {σ σ' : CSt} {κ : Nat} {D : Nat → Prop}
theorem kx_flush (h : KX pd n w0 w p q ed σ κ D) :
    Calls Try.prog 34 #[.pointer (some ⟨p, 0, none⟩)] w fun r w1 => r = .returned (.int .i64 0) ∧ Fr (Sk σ) w w1 ∧ w1.cell? ⟨q, 0, none⟩ = some (.pointer (some ⟨ed, 0, none⟩)) ∧
      ∀ W, Below w1.heap.size w1 W → Calls Try.prog 35 #[.pointer (some ⟨ed, 0, none⟩)] W fun r2 w2 => r2 = .returned (.int .i64 0) ∧ KP pd n w0 p q ed σ (κ + 1) D w w2 := by
  obtain rfl : σ.p = p := h.p
  refine (cflush_any h.cs h.en.1 h.en.2).mono ?_
  rintro r w1 ⟨rfl, vs', hD⟩
  refine ⟨rfl, hD.st.fr, ?_, fun W hW => ?_⟩
  · obtain ⟨v, base, ver, gb, cb, va, vc, hQ, _⟩ := h.doc hD.st.fr
    exact hQ.c0
  · have hD' := hD.up hW
    obtain ⟨v, base, ver, gb, cb, va, vc, hQ, hR, hv, hap, hin, hy, hbn, hnd, hl4⟩ := h.doc hD'.st.fr
    refine (rflush_go hR ⟨by omega, by omega⟩ rfl).mono ?_
    rintro r w2 ⟨rfl, ⟨va', ⟨vc', hR2⟩, hVA⟩, hf2⟩
    have hz := hD'.st.fr.size
    have hRG : ∀ k, RG ed gb k → D k := fun k hk => by
      rcases hk with hk | hk
      · exact hin k (.inr (.inr (.inl hk)))
      · exact hin k (.inr (.inr (.inr (.inl hk))))
    have hap2 : ∀ k, Rk ed gb n va' k → k ≠ q ∧ v.ownBlock ≠ some k := fun k hk => by
      rcases hk with e | e | ⟨i, hi, e⟩
      · exact hap k (.inl e)
      · exact hap k (.inr (.inl e))
      · rcases hVA i hi with e2 | e2
        · exact hap k (.inr (.inr ⟨i, hi, by rw [← e2]; exact e⟩))
        · refine ⟨fun e3 => ?_, fun e3 => ?_⟩
          · have := hQ.ql; omega
          · have := hQ.own.lt k e3; omega
    refine ⟨rfl, h.next hD' rfl rfl rfl h.ll ⟨by show σ.K ≤ _; have := h.bd.1; omega, fun i => Nat.zero_le _⟩ ⟨rfl, rfl⟩ (v := v) (hQ.keep hf2 (fun hs => ?_) (fun k hk hs => ?_)) hR2 (fun i hi => ?_) hap2 (fun k hk => ?_) hf2 hRG⟩
    · rcases hs with e | e
      · exact (hap _ (.inl rfl)).1 e.symm
      · exact (hap _ (.inr (.inl rfl))).1 e.symm
    · rcases hs with e | e
      · exact (hap _ (.inl e)).2 hk
      · exact (hap _ (.inr (.inl e))).2 hk
    · rw [if_pos hi, hv i hi, lv_lstC]
      rfl
    · rcases hk with hk | hk | hk
      · exact .inl (hin k (.inl hk))
      · exact .inl (hin k (.inr (.inl hk)))
      · rcases hk with e | e | ⟨i, hi, e⟩
        · exact .inl (hin k (.inr (.inr (.inl e))))
        · exact .inl (hin k (.inr (.inr (.inr (.inl e)))))
        · rcases hVA i hi with e2 | e2
          · exact .inl (hin k (.inr (.inr (.inr (.inr ⟨i, hi, by rw [← e2]; exact e⟩)))))
          · exact .inr (by omega)
/-- Bytes that are none of either's. -/
structure Ext (w : World) (σ : CSt) (D : Nat → Prop) (sp : Option Addr) (l : List UInt8) : Prop where
  src : Src w sp l
  no : l.length = 256 → ∀ b o, sp = some ⟨b, o, none⟩ → ¬ Sk σ b ∧ ¬ D b ∧ b < w.heap.size
theorem Ext.prog {sp : Option Addr} {l : List UInt8} (h : Ext w σ D sp l) (hl : l.length = 256) (hf : Fr (Sk σ) w w1) : Src w1 sp l ∧ ∀ b o, sp = some ⟨b, o, none⟩ → ¬ D b ∧ b < w1.heap.size :=
  ⟨src_any h.src hf (fun b o e => (h.no hl b o e).1), fun b o e => ⟨(h.no hl b o e).2.1, by have := (h.no hl b o e).2.2; have := hf.size; omega⟩⟩
theorem kx_lay (h : KX pd n w0 w p q ed σ κ D) (hκ : κ ≤ 1000) (b : Int) (l : List UInt8) (go cap1 : Nat) (sp : Option Addr) (cap2 : Nat) (h1 : Ext w σ D (some ⟨go, 0, none⟩) l) (h2 : Ext w σ D sp l) :
    Calls Try.prog 19 #[.pointer (some ⟨p, 0, none⟩), .int .i64 b, .slice (some ⟨go, 0, none⟩) l.length cap1] w fun r w1 => ∃ er : Int, r = .returned (.int .i64 er) ∧ Fr (Sk σ) w w1 ∧
      Calls Try.prog 26 #[.pointer (some ⟨q, 0, none⟩), .int .i64 b, .slice sp l.length cap2] w1 fun r2 w2 => r2 = .returned (.int .i64 er) ∧ KP pd n w0 p q ed σ (κ + 1) D w w2 := by
  obtain rfl : σ.p = p := h.p
  have hdn := h.dn
  by_cases hout : b < 0 ∨ (n : Int) ≤ b
  · refine (clay_out h.cs b (by rw [hdn]; exact hout) _ _ _).mono ?_
    rintro r w1 ⟨rfl, rfl⟩
    refine ⟨3, rfl, Fr.refl _ _, ?_⟩
    obtain ⟨v, base, ver, gb, cb, va, vc, hQ, hR, _⟩ := h.doc (Fr.refl _ _)
    refine (qlay_out hQ hR b hout _ _ _).mono ?_
    rintro r w2 ⟨rfl, rfl⟩
    exact ⟨rfl, h.idle (Below.refl _ _) (by omega)⟩
  · obtain ⟨m, rfl⟩ : ∃ m : Nat, b = (m : Int) := ⟨b.toNat, by omega⟩
    have hmn : m < n := by omega
    by_cases hl : l.length = 256
    · have CL := clay_any h.cs m (by omega) (by have := h.bd.1; omega) h.ll l go 0 cap1 h1.src hl (h1.no hl go 0 rfl).1
      rw [hl]
      refine CL.mono ?_
      rintro r w1 (⟨v1, P, e, K', rfl, hD, hA, hen⟩ | ⟨rfl, hF, hb1⟩)
      · refine ⟨0, rfl, hD.st.fr, ?_⟩
        obtain ⟨v, base, ver, gb, cb, va, vc, hQ, hR, hv, hap, hin, hy, hbn, hnd, hl4⟩ := h.doc hD.st.fr
        obtain ⟨hs2, hn2⟩ := h2.prog hl hD.st.fr
        refine (qlay_any hQ hR (fun k hk => (hap k hk).1) hy hbn hnd hl4 m hmn l sp cap2 hs2 hl (fun b o e => ⟨fun e2 => (hn2 b o e).1 (hin b (.inl e2)), (hn2 b o e).2⟩)).mono ?_
        rintro r w2 ⟨⟨P2, x, v2, rfl, hA2, hQ2, hv2⟩ | ⟨rfl, hF2, _⟩, hf2⟩
        · have hdet := hA2.det hnd hA.d
          rw [List.map_append] at hdet
          obtain ⟨e1, e2⟩ : P2 = P.map bf ∧ x = bf e := by
            have h3 := List.append_inj' hdet rfl
            exact ⟨h3.1, by simpa using h3.2⟩
          subst e1; subst e2
          have hlen := hA.len h.ll
          refine ⟨rfl, h.next hD rfl rfl rfl (by simpa using hlen) ⟨by have := hA.k; have := h.bd.1; show K' ≤ _; omega, fun i => by have := h.bd.2 i; show (σ.ws i).length ≤ _; omega⟩ ⟨rfl, rfl⟩ (v := v2) (by simpa [bf] using hQ2) (hR.keep hf2 (fun k hk hs => (hap k hk).1 hs)) hv (fun k hk => ⟨(hap k hk).1, fun e2 => ?_⟩) (fun k hk => ?_) hf2 (fun k hk => hin k (.inl hk))⟩
          · have h3 := hv2 k e2
            have h4 := (h.no k (hin k (.inr (.inr hk)))).2.2
            have := hD.st.fr.size
            omega
          · rcases hk with hk | hk | hk
            · exact .inl (hin k (.inl hk))
            · exact .inr (hv2 k hk)
            · exact .inl (hin k (.inr (.inr hk)))
        · exact absurd hF2 (fun hF2 => hA.d.full hF2)
      · refine ⟨5, rfl, Fr.of_below hb1, ?_⟩
        obtain ⟨v, base, ver, gb, cb, va, vc, hQ, hR, hv, hap, hin, hy, hbn, hnd, hl4⟩ := h.doc (Fr.of_below hb1)
        obtain ⟨hs2, hn2⟩ := h2.prog hl (Fr.of_below hb1)
        refine (qlay_any hQ hR (fun k hk => (hap k hk).1) hy hbn hnd hl4 m hmn l sp cap2 hs2 hl (fun b o e => ⟨fun e2 => (hn2 b o e).1 (hin b (.inl e2)), (hn2 b o e).2⟩)).mono ?_
        rintro r w2 ⟨⟨P2, x, v2, rfl, hA2, hQ2, hv2⟩ | ⟨rfl, hF2, v2, hQ2, hv2⟩, hf2⟩
        · exact absurd hF.d (fun hF2 => hA2.full hF2)
        · have hDn : Done w0.heap.size σ σ w w1 := ⟨h.cs.up hb1, Step.refl _ hb1, hb1.mono h.be.size⟩
          refine ⟨rfl, h.next hDn rfl rfl rfl h.ll ⟨by have := h.bd.1; omega, fun i => by have := h.bd.2 i; omega⟩ ⟨rfl, rfl⟩ (v := v2) hQ2 (hR.keep hf2 (fun k hk hs => (hap k hk).1 hs)) hv (fun k hk => ⟨(hap k hk).1, fun e2 => ?_⟩) (fun k hk => ?_) hf2 (fun k hk => hin k (.inl hk))⟩
          · have h3 := hv2 k e2
            have h4 := (h.no k (hin k (.inr (.inr hk)))).2.2
            have := hb1.size
            omega
          · rcases hk with hk | hk | hk
            · exact .inl (hin k (.inl hk))
            · exact .inr (hv2 k hk)
            · exact .inl (hin k (.inr (.inr hk)))
    · refine (clay_size h.cs m (by omega) _ _ _ hl).mono ?_
      rintro r w1 ⟨rfl, rfl⟩
      refine ⟨4, rfl, Fr.refl _ _, ?_⟩
      obtain ⟨v, base, ver, gb, cb, va, vc, hQ, hR, hv, hap, hin, hy, _⟩ := h.doc (Fr.refl _ _)
      refine (qlay_size hQ hR hy m hmn _ _ _ hl).mono ?_
      rintro r w2 ⟨rfl, hb2⟩
      exact ⟨rfl, h.idle hb2 (by omega)⟩
/-- A Write that both have done. -/
theorem KX.wrote (h : KX pd n w0 w p q ed σ κ D) {m : Nat} (hmn : m < n) {im : CE → List UInt8} {imB : Bf → List UInt8} (him : ∀ e, imB (bf e) = im e) {v1 : Value} {P : List CE} {e : CE} {K' : Nat} {vs' : Nat → Value} (hD : Done w0.heap.size σ { σ with ov := v1, L := P ++ [e], K := K', ws := upd σ.ws m (σ.ws m ++ [im e]), vs := vs' } w w1) (hA : AskR σ m e.q (P ++ [e]) K')
    {v : Value} {base : Nat} {ver : Nat → List (List UInt8)} {gb cb : Nat} {va vc : Nat → Nat} (hv : ∀ i, i < n → ver i = σ.sf i :: σ.ws i) (hap : ∀ k, Rk ed gb n va k → k ≠ q ∧ v.ownBlock ≠ some k) (hin : ∀ k, k = q ∨ v.ownBlock = some k ∨ Rk ed gb n va k → D k) (hnd : ((σ.L.map bf).map (·.b)).Nodup) {er : Ending}
    (hW : WriteQ q ed σ.most (lst σ) (σ.L.map bf) m imB base n gb cb ver va vc w1 er w2) : er = .returned (.int .i64 0) ∧ KP pd n w0 p q ed σ (κ + 1) D w w2 := by
  obtain ⟨hout, hf2⟩ := hW
  rcases hout with ⟨P2, x, v2, g, c, rfl, hA2, hQ2, hv2, hR2, hg, hvg⟩ | ⟨_, ⟨hF2, _⟩, _⟩
  · have hdet := hA2.det hnd hA.d
    rw [List.map_append] at hdet
    obtain ⟨e1, e2⟩ : P2 = P.map bf ∧ x = bf e := by
      have h3 := List.append_inj' hdet rfl
      exact ⟨h3.1, by simpa using h3.2⟩
    subst e1; subst e2
    have hlen := hA.len h.ll
    have hz := hD.st.fr.size
    refine ⟨rfl, h.next hD rfl rfl rfl (by simpa using hlen) ⟨by have := hA.k; have := h.bd.1; show K' ≤ _; omega, fun i => ?_⟩ ⟨rfl, rfl⟩ (v := v2) (by simpa using hQ2) hR2 (fun i hi => ?_) (fun k hk => ?_) (fun k hk => ?_) hf2 (fun k hk => ?_)⟩
    · show (upd σ.ws m (σ.ws m ++ [im e]) i).length ≤ κ + 1
      unfold upd
      have h3 := h.bd.2 i
      split
      · rename_i e3; rw [e3] at h3; rw [List.length_append]; simp; omega
      · omega
    · show upd ver m (ver m ++ [imB (bf e)]) i = σ.sf i :: upd σ.ws m (σ.ws m ++ [im e]) i
      rw [him]
      unfold upd
      by_cases e3 : i = m
      · rw [if_pos e3, if_pos e3, e3, hv m hmn]; rfl
      · rw [if_neg e3, if_neg e3, hv i hi]
    · have hq3 := hQ2.ql
      rcases hk with e3 | e3 | ⟨i, hi, e3⟩
      · refine ⟨(hap k (.inl e3)).1, fun e4 => ?_⟩
        have := hv2 k e4; have := (h.no k (hin k (.inr (.inr (.inl e3))))).2.2; omega
      · refine ⟨(hap k (.inr (.inl e3))).1, fun e4 => ?_⟩
        have := hv2 k e4; have := (h.no k (hin k (.inr (.inr (.inr (.inl e3)))))).2.2; omega
      · unfold updN at e3
        split at e3
        · refine ⟨fun e4 => ?_, fun e4 => ?_⟩
          · have := (h.no q (hin q (.inl rfl))).2.2; omega
          · have := hvg k e4; omega
        · refine ⟨(hap k (.inr (.inr ⟨i, hi, e3⟩))).1, fun e4 => ?_⟩
          have := hv2 k e4; have := (h.no k (hin k (.inr (.inr (.inr (.inr ⟨i, hi, e3⟩)))))).2.2; omega
    · rcases hk with hk | hk | hk
      · exact .inl (hin k (.inl hk))
      · exact .inr (hv2 k hk)
      · rcases hk with e3 | e3 | ⟨i, hi, e3⟩
        · exact .inl (hin k (.inr (.inr (.inl e3))))
        · exact .inl (hin k (.inr (.inr (.inr (.inl e3)))))
        · unfold updN at e3
          split at e3
          · exact .inr (by omega)
          · exact .inl (hin k (.inr (.inr (.inr (.inr ⟨i, hi, e3⟩)))))
    · rcases hk with hk | hk | hk
      · exact hin k (.inl hk)
      · exact hin k (.inr (.inr (.inl hk)))
      · exact hin k (.inr (.inr (.inr (.inl hk))))
  · exact absurd hF2 (fun hF2 => hA.d.full hF2)
end
end Go.Proofs.Ytikpnfnbmbaljaa
/- Both caches: Write, Read, Held, Dirty. -/
namespace Go.Proofs.Ytikpnfnbmbaljaa
open Go.RowKit
set_option maxRecDepth 100000
theorem asc_same : ∀ {A B : List Int}, A.Pairwise (· < ·) → B.Pairwise (· < ·) → (∀ x, x ∈ A ↔ x ∈ B) → A = B
  | [], [], _, _, _ => rfl
  | [], y :: B, _, _, h => absurd ((h y).2 (by simp)) (by simp)
  | x :: A, [], _, _, h => absurd ((h x).1 (by simp)) (by simp)
  | x :: A, y :: B, hA, hB, h => by
    obtain ⟨a1, a2⟩ := List.pairwise_cons.1 hA
    obtain ⟨b1, b2⟩ := List.pairwise_cons.1 hB
    have hxy : x = y := by
      have h1 := (h x).1 (by simp)
      have h2 := (h y).2 (by simp)
      rcases List.mem_cons.1 h1 with e | h1
      · exact e
      · rcases List.mem_cons.1 h2 with e | h2
        · exact e.symm
        · have := b1 x h1
          have := a1 y h2
          omega
    subst hxy
    congr 1
    refine asc_same a2 b2 fun z => ?_
    constructor
    · intro hz
      rcases List.mem_cons.1 ((h z).1 (List.mem_cons_of_mem _ hz)) with e | hz'
      · have := a1 z hz; omega
      · exact hz'
    · intro hz
      rcases List.mem_cons.1 ((h z).2 (List.mem_cons_of_mem _ hz)) with e | hz'
      · have := b1 z hz; omega
      · exact hz'
section
variable {pd n : Nat} {w0 w w' w1 w2 : World} {p q ed : Nat} {σ σ' : CSt} {κ : Nat} {D : Nat → Prop}
/-- There was no room for it, in both. -/
theorem KX.fullP (h : KX pd n w0 w p q ed σ κ D) (hb1 : Below w.heap.size w w1) {v : Value} {base : Nat} {ver : Nat → List (List UInt8)} {gb cb : Nat} {va vc : Nat → Nat} (hR : RefW w1 base ed n false 0 ver gb cb va vc) (hv : ∀ i, i < n → ver i = σ.sf i :: σ.ws i) (hap : ∀ k, Rk ed gb n va k → k ≠ q ∧ v.ownBlock ≠ some k) (hin : ∀ k, k = q ∨ v.ownBlock = some k ∨ Rk ed gb n va k → D k) {m : Nat} (hF : FullQ q ed σ.most (lst σ) (σ.L.map bf) m w1 w2) (hf : Fr (fun k => k = q) w1 w2) : KP pd n w0 p q ed σ (κ + 1) D w w2 := by
  obtain ⟨_, v2, hQ2, hv2⟩ := hF
  have hDn : Done w0.heap.size σ σ w w1 := ⟨h.cs.up hb1, Step.refl _ hb1, hb1.mono h.be.size⟩
  refine h.next hDn rfl rfl rfl h.ll ⟨by have := h.bd.1; omega, fun i => by have := h.bd.2 i; omega⟩ ⟨rfl, rfl⟩ (v := v2) hQ2 (hR.keep hf (fun k hk hs => (hap k hk).1 hs)) hv (fun k hk => ⟨(hap k hk).1, fun e2 => ?_⟩) (fun k hk => ?_) hf (fun k hk => hin k (.inl hk))
  · have h3 := hv2 k e2
    have h4 := (h.no k (hin k (.inr (.inr hk)))).2.2
    have := hb1.size
    omega
  · rcases hk with hk | hk | hk
    · exact .inl (hin k (.inl hk))
    · exact .inr (hv2 k hk)
    · exact .inl (hin k (.inr (.inr hk)))
theorem WriteQ.full {most : Nat} {y : Nat → List UInt8} {L : List Bf} {b : Nat} {im : Bf → List UInt8} {base gb cb : Nat} {ver : Nat → List (List UInt8)} {va vc : Nat → Nat} {er : Ending} (h : WriteQ q ed most y L b im base n gb cb ver va vc w er w') (hF : FullD most y L b) : er = .returned (.int .i64 5) ∧ FullQ q ed most y L b w w' ∧ Fr (fun k => k = q) w w' := by
  rcases h.out with ⟨P2, x, v2, g, c, rfl, hA2, _⟩ | h1
  · exact absurd hF (fun hF => hA2.full hF)
  · exact h1
theorem kx_write0 (h : KX pd n w0 w p q ed σ κ D) (hκ : κ ≤ 1000) (b : Int) (s1 s2 : Option Addr) (c1 c2 : Nat) :
    Calls Try.prog 21 #[.pointer (some ⟨p, 0, none⟩), .int .i64 b, .slice s1 0 c1] w fun r w1 => ∃ er : Int, r = .returned (.int .i64 er) ∧ Fr (Sk σ) w w1 ∧
      Calls Try.prog 27 #[.pointer (some ⟨q, 0, none⟩), .int .i64 b, .slice s2 0 c2] w1 fun r2 w2 => r2 = .returned (.int .i64 er) ∧ KP pd n w0 p q ed σ (κ + 1) D w w2 := by
  obtain rfl : σ.p = p := h.p
  have hdn := h.dn
  by_cases hout : b < 0 ∨ (n : Int) ≤ b
  · refine (cwrite_out h.cs b (by rw [hdn]; exact hout) _ _ _).mono ?_
    rintro r w1 ⟨rfl, rfl⟩
    refine ⟨3, rfl, Fr.refl _ _, ?_⟩
    obtain ⟨v, base, ver, gb, cb, va, vc, hQ, hR, _⟩ := h.doc (Fr.refl _ _)
    refine (qwrite_out hQ hR b hout _ _ _).mono ?_
    rintro r w2 ⟨rfl, rfl⟩
    exact ⟨rfl, h.idle (Below.refl _ _) (by omega)⟩
  · obtain ⟨m, rfl⟩ : ∃ m : Nat, b = (m : Int) := ⟨b.toNat, by omega⟩
    have hmn : m < n := by omega
    have h256 : ∀ x ∈ σ.L.map bf, x.d.length = 256 := fun x hx => by
      obtain ⟨e, he, rfl⟩ := List.mem_map.1 hx
      exact (h.cs.blk e he).2.1
    have hyl : ∀ i, i < n → (lst σ i).length = 256 := fun i hi => lst_len h.cs i (by omega)
    refine (cwrite_own0 h.cs m (by omega) (by have := h.bd.1; omega) h.ll h.en.1 h.en.2 (by have := h.bd.2 m; omega) s1 c1).mono ?_
    rintro r w1 (⟨v1, P, e, K', vs', rfl, hD, hA, hen⟩ | ⟨rfl, hF, hb1⟩)
    · refine ⟨0, rfl, hD.st.fr, ?_⟩
      obtain ⟨v, base, ver, gb, cb, va, vc, hQ, hR, hv, hap, hin, hy, hbn, hnd, hl4⟩ := h.doc hD.st.fr
      refine (qwrite_own hQ hR (fun k hk => (hap k hk).1) hy hbn hnd hl4 (fun i hi => by rw [hv i hi]; have := h.bd.2 i; simp; omega) h256 hyl m hmn s2 c2).mono ?_
      intro r w2 hW
      exact h.wrote hmn (im := fun e => e.d) (fun _ => rfl) hD hA hv hap hin hnd hW
    · refine ⟨5, rfl, Fr.of_below hb1, ?_⟩
      obtain ⟨v, base, ver, gb, cb, va, vc, hQ, hR, hv, hap, hin, hy, hbn, hnd, hl4⟩ := h.doc (Fr.of_below hb1)
      refine (qwrite_own hQ hR (fun k hk => (hap k hk).1) hy hbn hnd hl4 (fun i hi => by rw [hv i hi]; have := h.bd.2 i; simp; omega) h256 hyl m hmn s2 c2).mono ?_
      intro r w2 hW
      obtain ⟨e1, e2, e3⟩ := hW.full hF.d
      refine ⟨e1, h.fullP hb1 hR hv hap hin e2 e3⟩
theorem kx_write (h : KX pd n w0 w p q ed σ κ D) (hκ : κ ≤ 1000) (b : Int) (l : List UInt8) (go cap1 : Nat) (sp : Option Addr) (cap2 : Nat) (h1 : Ext w σ D (some ⟨go, 0, none⟩) l) (h2 : Ext w σ D sp l) :
    Calls Try.prog 21 #[.pointer (some ⟨p, 0, none⟩), .int .i64 b, .slice (some ⟨go, 0, none⟩) l.length cap1] w fun r w1 => ∃ er : Int, r = .returned (.int .i64 er) ∧ Fr (Sk σ) w w1 ∧
      Calls Try.prog 27 #[.pointer (some ⟨q, 0, none⟩), .int .i64 b, .slice sp l.length cap2] w1 fun r2 w2 => r2 = .returned (.int .i64 er) ∧ KP pd n w0 p q ed σ (κ + 1) D w w2 := by
  by_cases hl0 : l.length = 0
  · rw [hl0]
    exact kx_write0 h hκ b _ _ _ _
  obtain rfl : σ.p = p := h.p
  have hdn := h.dn
  by_cases hout : b < 0 ∨ (n : Int) ≤ b
  · refine (cwrite_out h.cs b (by rw [hdn]; exact hout) _ _ _).mono ?_
    rintro r w1 ⟨rfl, rfl⟩
    refine ⟨3, rfl, Fr.refl _ _, ?_⟩
    obtain ⟨v, base, ver, gb, cb, va, vc, hQ, hR, _⟩ := h.doc (Fr.refl _ _)
    refine (qwrite_out hQ hR b hout _ _ _).mono ?_
    rintro r w2 ⟨rfl, rfl⟩
    exact ⟨rfl, h.idle (Below.refl _ _) (by omega)⟩
  · obtain ⟨m, rfl⟩ : ∃ m : Nat, b = (m : Int) := ⟨b.toNat, by omega⟩
    have hmn : m < n := by omega
    by_cases hl : l.length = 256
    · have CW := cwrite_img h.cs m (by omega) (by have := h.bd.1; omega) h.ll h.en.1 h.en.2 (by have := h.bd.2 m; omega) l go 0 cap1 h1.src hl (h1.no hl go 0 rfl).1
      rw [hl]
      refine CW.mono ?_
      rintro r w1 (⟨v1, P, e, K', vs', rfl, hD, hA, hen⟩ | ⟨rfl, hF, hb1⟩)
      · refine ⟨0, rfl, hD.st.fr, ?_⟩
        obtain ⟨v, base, ver, gb, cb, va, vc, hQ, hR, hv, hap, hin, hy, hbn, hnd, hl4⟩ := h.doc hD.st.fr
        obtain ⟨hs2, hn2⟩ := h2.prog hl hD.st.fr
        refine (qwrite_img hQ hR (fun k hk => (hap k hk).1) hy hbn hnd hl4 (fun i hi => by rw [hv i hi]; have := h.bd.2 i; simp; omega) m hmn l sp cap2 hs2 hl (fun b o e => ⟨fun e2 => (hn2 b o e).1 (hin b (.inl e2)), fun e2 => (hn2 b o e).1 (hin b (.inr (.inr (.inl e2)))), fun e2 => (hn2 b o e).1 (hin b (.inr (.inr (.inr (.inl e2))))), (hn2 b o e).2⟩)).mono ?_
        intro r w2 hW
        exact h.wrote hmn (im := fun _ => l) (fun _ => rfl) hD hA hv hap hin hnd hW
      · refine ⟨5, rfl, Fr.of_below hb1, ?_⟩
        obtain ⟨v, base, ver, gb, cb, va, vc, hQ, hR, hv, hap, hin, hy, hbn, hnd, hl4⟩ := h.doc (Fr.of_below hb1)
        obtain ⟨hs2, hn2⟩ := h2.prog hl (Fr.of_below hb1)
        refine (qwrite_img hQ hR (fun k hk => (hap k hk).1) hy hbn hnd hl4 (fun i hi => by rw [hv i hi]; have := h.bd.2 i; simp; omega) m hmn l sp cap2 hs2 hl (fun b o e => ⟨fun e2 => (hn2 b o e).1 (hin b (.inl e2)), fun e2 => (hn2 b o e).1 (hin b (.inr (.inr (.inl e2)))), fun e2 => (hn2 b o e).1 (hin b (.inr (.inr (.inr (.inl e2))))), (hn2 b o e).2⟩)).mono ?_
        intro r w2 hW
        obtain ⟨e1, e2, e3⟩ := hW.full hF.d
        refine ⟨e1, h.fullP hb1 hR hv hap hin e2 e3⟩
    · refine (cwrite_size h.cs m (by omega) _ _ _ hl hl0).mono ?_
      rintro r w1 ⟨rfl, rfl⟩
      refine ⟨4, rfl, Fr.refl _ _, ?_⟩
      obtain ⟨v, base, ver, gb, cb, va, vc, hQ, hR, hv, hap, hin, hy, _⟩ := h.doc (Fr.refl _ _)
      refine (qwrite_size hQ hR hy m hmn _ _ _ hl hl0).mono ?_
      rintro r w2 ⟨rfl, hb2⟩
      exact ⟨rfl, h.idle hb2 (by omega)⟩
/-- What Read of both leaves: the program's bytes are in memory of their own. -/
structure KPR (pd n : Nat) (w0 : World) (p q ed : Nat) (σ : CSt) (κ : Nat) (D : Nat → Prop) (w w2 : World) (v : Value) : Prop where
  out : ∃ σ' D', KX pd n w0 w2 p q ed σ' κ D' ∧ (∀ k, Sk σ' k ∨ D' k → (Sk σ k ∨ D k) ∨ w.heap.size ≤ k) ∧ ∀ k, v.ownBlock = some k → ¬ Sk σ' k ∧ ¬ D' k
  fr : Fr (fun k => Sk σ k ∨ D k) w w2
theorem kx_read (h : KX pd n w0 w p q ed σ κ D) (hκ : κ ≤ 1000) (b : Int) :
    Calls Try.prog 18 #[.pointer (some ⟨p, 0, none⟩), .int .i64 b] w fun r w1 => ∃ v d er, r = .returned (.tuple #[v, .int .i64 er]) ∧ Own w1 w.heap.size v d ∧ d.length ≤ 256 ∧ Fr (Sk σ) w w1 ∧
      Calls Try.prog 24 #[.pointer (some ⟨q, 0, none⟩), .int .i64 b] w1 fun r2 w2 => ∃ xo xc, r2 = .returned (.tuple #[.slice xo d.length xc, .int .i64 er]) ∧ Src w2 xo d ∧ Own w2 w.heap.size v d ∧ KPR pd n w0 p q ed σ (κ + 1) D w w2 v := by
  obtain rfl : σ.p = p := h.p
  have hdn := h.dn
  have hnil : ∀ W, Own W w.heap.size (.slice none 0 0) [] := fun W => World.ownsRow_nil _ _ _ _
  by_cases hout : b < 0 ∨ (n : Int) ≤ b
  · refine (cread_out h.cs b (by rw [hdn]; exact hout)).mono ?_
    rintro r w1 ⟨rfl, rfl⟩
    refine ⟨_, [], 3, rfl, hnil _, by simp, Fr.refl _ _, ?_⟩
    obtain ⟨v, base, ver, gb, cb, va, vc, hQ, hR, _⟩ := h.doc (Fr.refl _ _)
    refine (qread_out hQ hR b hout).mono ?_
    rintro r w2 ⟨rfl, rfl⟩
    exact ⟨none, 0, rfl, Src.nil _ _, hnil _, ⟨σ, D, h.more (by omega), fun k hk => .inl hk, fun k hk => by cases hk⟩, Fr.refl _ _⟩
  · obtain ⟨m, rfl⟩ : ∃ m : Nat, b = (m : Int) := ⟨b.toNat, by omega⟩
    have hmn : m < n := by omega
    refine (cread_any h.cs m (by omega) (by have := h.bd.1; omega) h.ll).mono ?_
    rintro r w1 (⟨v0, v1, P, e, K', rfl, hO, hnS, hD, hA, hen⟩ | ⟨rfl, hF, hb1⟩)
    · have hel : e.d.length = 256 := (hD.cs.blk e (by simp)).2.1
      refine ⟨v0, e.d, 0, rfl, hO, by omega, hD.st.fr, ?_⟩
      obtain ⟨v, base, ver, gb, cb, va, vc, hQ, hR, hv, hap, hin, hy, hbn, hnd, hl4⟩ := h.doc hD.st.fr
      refine (qread_any hQ hR (fun k hk => (hap k hk).1) hy hbn hnd hl4 m hmn).mono ?_
      rintro r w2 ⟨⟨P2, x, v2, g, c, rfl, hA2, hQ2, hv2, hs2⟩ | ⟨rfl, hF2, _⟩, hf2⟩
      · have hdet := hA2.det hnd hA.d
        rw [List.map_append] at hdet
        obtain ⟨e1, e2⟩ : P2 = P.map bf ∧ x = bf e := by
          have h3 := List.append_inj' hdet rfl
          exact ⟨h3.1, by simpa using h3.2⟩
        subst e1; subst e2
        have hlen := hA.len h.ll
        obtain ⟨k1, k2, k3⟩ := h.nextX (κ' := κ + 1) hD rfl rfl rfl (by simpa using hlen) ⟨by have := hA.k; have := h.bd.1; show K' ≤ _; omega, fun i => by have := h.bd.2 i; show (σ.ws i).length ≤ _; omega⟩ ⟨rfl, rfl⟩ (v := v2) (by simpa using hQ2) (hR.keep hf2 (fun k hk hs => (hap k hk).1 hs)) hv (fun k hk => ⟨(hap k hk).1, fun e2 => by
          have h3 := hv2 k e2
          have h4 := (h.no k (hin k (.inr (.inr hk)))).2.2
          have := hD.st.fr.size
          omega⟩) (fun k hk => by
          rcases hk with hk | hk | hk
          · exact .inl (hin k (.inl hk))
          · exact .inr (hv2 k hk)
          · exact .inl (hin k (.inr (.inr hk)))) hf2 (fun k hk => hin k (.inl hk))
        have hlt := fun k (hk : v0.ownBlock = some k) => Own.lt hO k hk
        refine ⟨_, c, rfl, hs2, ?_, ⟨_, _, k1, k2, fun k hk => ⟨hnS k hk, fun hN => ?_⟩⟩, k3⟩
        · exact row_same hO fun k hk => hf2.blk k (hlt k hk).2 (fun e2 => by have := (h.no q (hin q (.inl rfl))).2.2; have := (hlt k hk).1; omega)
        · rcases hN with hN | hN
          · have := (h.no k hN).2.2; have := (hlt k hk).1; omega
          · have := (hlt k hk).2; omega
      · exact absurd hF2 (fun hF2 => hA.d.full hF2)
    · refine ⟨_, [], 5, rfl, hnil _, by simp, Fr.of_below hb1, ?_⟩
      obtain ⟨v, base, ver, gb, cb, va, vc, hQ, hR, hv, hap, hin, hy, hbn, hnd, hl4⟩ := h.doc (Fr.of_below hb1)
      refine (qread_any hQ hR (fun k hk => (hap k hk).1) hy hbn hnd hl4 m hmn).mono ?_
      rintro r w2 ⟨⟨P2, x, v2, g, c, rfl, hA2, hQ2, hv2, hs2⟩ | ⟨rfl, hF2⟩, hf2⟩
      · exact absurd hF.d (fun hF2 => hA2.full hF2)
      · obtain ⟨⟨σ2, D2, k1, k2⟩, k3⟩ := h.fullP hb1 hR hv hap hin hF2 hf2
        exact ⟨none, 0, rfl, Src.nil _ _, hnil _, ⟨σ2, D2, k1, k2, fun k hk => by cases hk⟩, k3⟩
theorem kx_held (h : KX pd n w0 w p q ed σ κ D) :
    Calls Try.prog 12 #[.pointer (some ⟨p, 0, none⟩)] w fun r w1 => ∃ v xs, r = .returned v ∧ OwnI w1 w.heap.size v xs ∧ xs.length ≤ 8 ∧ Below w.heap.size w w1 ∧
      ∀ W, Below w1.heap.size w1 W → Calls Try.prog 13 #[.pointer (some ⟨q, 0, none⟩)] W fun r2 w2 => ∃ v2, r2 = .returned v2 ∧ OwnI w2 W.heap.size v2 xs ∧ Below W.heap.size W w2 := by
  obtain rfl : σ.p = p := h.p
  have hl8 := h.len
  refine (held_any h.cs (by omega)).mono ?_
  rintro r w1 ⟨v, rfl, hO, hb⟩
  refine ⟨v, _, rfl, hO, by rw [nums_length]; exact hl8, hb, fun W hW => ?_⟩
  obtain ⟨v, base, ver, gb, cb, va, vc, hQ, _⟩ := (h.up (hb.trans (hW.mono hb.size))).q
  refine (qheld_any hQ).mono ?_
  rintro r w2 ⟨v2, rfl, hO2, hb2⟩
  rw [bf_nums] at hO2
  exact ⟨v2, rfl, hO2, hb2⟩
theorem kx_dirty (h : KX pd n w0 w p q ed σ κ D) :
    Calls Try.prog 14 #[.pointer (some ⟨p, 0, none⟩)] w fun r w1 => ∃ v xs, r = .returned v ∧ OwnI w1 w.heap.size v xs ∧ xs.length ≤ 8 ∧ Below w.heap.size w w1 ∧
      ∀ W, Below w1.heap.size w1 W → Calls Try.prog 15 #[.pointer (some ⟨q, 0, none⟩)] W fun r2 w2 => ∃ v2, r2 = .returned v2 ∧ OwnI w2 W.heap.size v2 xs ∧ Below W.heap.size W w2 := by
  obtain rfl : σ.p = p := h.p
  have hl8 := h.len
  have hdl : (dl σ).length ≤ σ.L.length := List.length_filter_le _ _
  refine (dirtyl_any h.cs (by omega)).mono ?_
  rintro r w1 ⟨v, Y, rfl, hO, hU, hP, hb⟩
  have hlen : Y.length ≤ 8 := by rw [hP.length_eq, nums_length]; omega
  refine ⟨v, Y, rfl, hO, hlen, hb, fun W hW => ?_⟩
  have hX := h.up (hb.trans (hW.mono hb.size))
  obtain ⟨v, base, ver, gb, cb, va, vc, hQ, hR, hv, hap, hin, hy, hbn, hnd, hl4⟩ := hX.doc (Fr.refl _ _)
  refine (qdirtyl_any hQ hR hy hnd).mono ?_
  rintro r w2 ⟨v2, rfl, hO2, hb2⟩
  have hnn : (nums (dl σ)).Nodup := by
    have h1 : ((dl σ).map (·.n)).Nodup := List.Nodup.sublist (List.Sublist.map _ List.filter_sublist) h.cs.nd
    unfold nums
    rw [show (fun e : CE => (e.n : Int)) = (fun x : Nat => (x : Int)) ∘ (fun e : CE => e.n) from rfl, ← List.map_map]
    exact List.Pairwise.map _ (fun a b hab e => hab (by omega)) h1
  have hYn : Y.Nodup := hP.nodup_iff.2 hnn
  have hYa : Y.Pairwise (· < ·) := by
    rw [List.pairwise_iff_getElem]
    intro i j hi hj hij
    have h1 := hU i j hij hj
    rw [List.getD_eq_getElem?_getD, List.getD_eq_getElem?_getD, List.getElem?_eq_getElem hi, List.getElem?_eq_getElem hj] at h1
    have h2 : Y[i] ≤ Y[j] := h1
    have h3 : Y[i] ≠ Y[j] := (List.pairwise_iff_getElem.1 hYn) i j hi hj hij
    omega
  have e : Y = dlB (lst σ) (σ.L.map bf) n := by
    refine asc_same hYa (dlB_asc _ _ _) fun x => ?_
    rw [hP.mem_iff, dlB_mem]
    constructor
    · intro hx
      obtain ⟨e, he, rfl⟩ := List.mem_map.1 hx
      obtain ⟨h1, h2⟩ := List.mem_filter.1 he
      refine ⟨e.n, rfl, by have := (h.cs.blk e h1).2.2.1; have := h.dn; omega, ?_⟩
      unfold dtB
      rw [List.any_eq_true]
      refine ⟨bf e, List.mem_map.2 ⟨e, h1, rfl⟩, ?_⟩
      have h3 : dirtyB σ e = true := h2
      unfold dirtyB at h3
      have h4 : ¬ e.d = lst σ e.n := by simpa using h3
      simp [bf]
      exact fun e2 => h4 e2.symm
    · rintro ⟨k, rfl, hk, ht⟩
      unfold dtB at ht
      rw [List.any_eq_true] at ht
      obtain ⟨c, hc, h1⟩ := ht
      obtain ⟨e, he, rfl⟩ := List.mem_map.1 hc
      simp [bf] at h1
      refine List.mem_map.2 ⟨e, List.mem_filter.2 ⟨he, ?_⟩, by rw [h1.1]⟩
      unfold dirtyB
      simp
      intro e2
      exact h1.2 (by rw [← e2])
  rw [← e] at hO2
  exact ⟨v2, rfl, hO2, hb2⟩
end
end Go.Proofs.Ytikpnfnbmbaljaa
