/- A cache in memory. -/
import Derived.Test.YtikpnfnbmbaljaaKOrder
import Derived.Test.YtikpnfnbmbaljaaKPMap
namespace Go.Proofs.Ytikpnfnbmbaljaa
open Go.RowKit
set_option maxRecDepth 100000
/-- A block in memory: its number, where it lies, its bytes, how often it is pinned. -/
structure CE where
  n : Nat
  q : Nat
  d : List UInt8
  pin : Nat
def beL (e : CE) : List Value := bvs e.d ++ [.int .i64 (e.pin : Int)]
def nums (L : List CE) : List Int := L.map fun e => (e.n : Int)
theorem nums_length (L : List CE) : (nums L).length = L.length := by simp [nums]
theorem nums_append (A B : List CE) : nums (A ++ B) = nums A ++ nums B := by simp [nums]
/-- What the map says. -/
def lookF : List CE → Int → Nat
  | [], _ => 0
  | e :: r, x => if (e.n : Int) = x then e.q + 1 else lookF r x
theorem lookF_none : ∀ {L : List CE} {x : Int}, (∀ e ∈ L, ¬ (e.n : Int) = x) → lookF L x = 0
  | [], _, _ => rfl
  | e :: r, x, h => by
    rw [lookF, if_neg (h e (by simp))]
    exact lookF_none fun e he => h e (by simp [he])
theorem lookF_app : ∀ {A B : List CE} {x : Int}, (∀ e ∈ A, ¬ (e.n : Int) = x) → lookF (A ++ B) x = lookF B x
  | [], _, _, _ => rfl
  | e :: r, B, x, h => by
    rw [List.cons_append, lookF, if_neg (h e (by simp))]
    exact lookF_app fun e he => h e (by simp [he])
theorem lookF_app2 : ∀ {A B : List CE} {x : Int}, (∀ e ∈ B, ¬ (e.n : Int) = x) → lookF (A ++ B) x = lookF A x
  | [], B, x, h => by simp [lookF_none h, lookF]
  | e :: r, B, x, h => by
    rw [List.cons_append, lookF, lookF, lookF_app2 h]
/-- No number stands twice. -/
def NoTwo (A : List CE) (e : CE) (B : List CE) : Prop := (∀ x ∈ A, ¬ x.n = e.n) ∧ ∀ x ∈ B, ¬ x.n = e.n
theorem noTwo_of {A B : List CE} {e : CE} (h : ((A ++ e :: B).map (·.n)).Nodup) : NoTwo A e B := by
  simp only [List.map_append, List.map_cons, List.nodup_append, List.nodup_cons, List.mem_map, List.mem_cons] at h
  obtain ⟨_, ⟨h2, _⟩, h4⟩ := h
  refine ⟨fun x hx hn => h4 x.n ⟨x, hx, rfl⟩ e.n (.inl rfl) hn, fun x hx hn => h2 ⟨x, hx, hn⟩⟩
theorem lookF_at {A B : List CE} {e : CE} (h : NoTwo A e B) : lookF (A ++ e :: B) e.n = e.q + 1 := by
  rw [lookF_app (fun x hx hn => h.1 x hx (by omega)), lookF, if_pos rfl]
theorem lookF_del {A B : List CE} {e : CE} (h : NoTwo A e B) : setF (lookF (A ++ e :: B)) e.n 0 = lookF (A ++ B) := by
  funext x
  unfold setF
  by_cases hx : x = e.n
  · rw [if_pos hx, lookF_none]
    intro y hy hn
    rcases List.mem_append.1 hy with hy | hy
    · exact h.1 y hy (by omega)
    · exact h.2 y hy (by omega)
  · rw [if_neg hx]
    clear h
    induction A with
    | nil => rw [List.nil_append, List.nil_append, lookF, if_neg (fun c => hx c.symm)]
    | cons a r ih => rw [List.cons_append, List.cons_append, lookF, lookF, ih]
theorem lookF_add {L : List CE} {e : CE} (h : ∀ x ∈ L, ¬ x.n = e.n) : setF (lookF L) e.n (e.q + 1) = lookF (L ++ [e]) := by
  funext x
  unfold setF
  by_cases hx : x = e.n
  · rw [if_pos hx, lookF_app (fun y hy hn => h y hy (by omega)), lookF, if_pos hx.symm]
  · rw [if_neg hx, lookF_app2]
    intro y hy hn
    simp at hy
    subst hy
    exact hx hn.symm
theorem lookF_touch {A B : List CE} {e : CE} (h : NoTwo A e B) : lookF (A ++ B ++ [e]) = lookF (A ++ e :: B) := by
  rw [← lookF_add (fun x hx => ?_), ← lookF_del h]
  · funext x
    unfold setF
    by_cases hx : x = e.n
    · rw [if_pos hx, hx, lookF_at h]
    · rw [if_neg hx, if_neg hx]
  · rcases List.mem_append.1 hx with hx | hx
    · exact h.1 x hx
    · exact h.2 x hx
/-- A cache and its disk. -/
structure CSt where
  p : Nat
  mb : Nat
  K : Nat
  ov : Value
  most : Nat
  L : List CE
  dp : Nat
  dn : Nat
  dq : Nat
  en : Bool
  lf : Int
  sf : Nat → List UInt8
  ws : Nat → List (List UInt8)
  vs : Nat → Value
/-- Its own blocks; the disk's too. -/
def Ck (σ : CSt) (k : Nat) : Prop := k = σ.p ∨ k = σ.mb ∨ σ.ov.ownBlock = some k ∨ ∃ e ∈ σ.L, e.q = k
def Sk (σ : CSt) (k : Nat) : Prop := Ck σ k ∨ Dk σ.dp σ.dq σ.dn σ.vs k
/-- The cache σ lies in w; the order says O. -/
structure CS (w : World) (base : Nat) (σ : CSt) (O : List Int) : Prop where
  disk : DiskAt w base σ.dp σ.dn σ.en σ.lf σ.sf σ.ws σ.dq σ.vs
  c0 : w.cell? ⟨σ.p, 0, none⟩ = some (.pointer (some ⟨σ.dp, 0, none⟩))
  c1 : w.cell? ⟨σ.p, 1, none⟩ = some (.int .i64 (σ.most : Int))
  c2 : w.cell? ⟨σ.p, 2, none⟩ = some (.map (some σ.mb))
  c3 : w.cell? ⟨σ.p, 3, none⟩ = some σ.ov
  fp : ∀ o, w.frozen? ⟨σ.p, o, none⟩ = false
  ord : OwnN w base σ.ov O
  map : PMap w σ.mb σ.K (lookF σ.L)
  blk : ∀ e ∈ σ.L, w.heap[e.q]? = some (.cells (beL e).toArray 86 (0, 0)) ∧ e.d.length = 256 ∧ e.n < σ.dn ∧ e.pin ≤ σ.K
  nd : (σ.L.map (·.n)).Nodup
  qd : (σ.L.map (·.q)).Nodup
  pm : σ.p ≠ σ.mb
  po : σ.ov.ownBlock ≠ some σ.p
  mo : σ.ov.ownBlock ≠ some σ.mb
  bq : ∀ e ∈ σ.L, e.q ≠ σ.p ∧ e.q ≠ σ.mb ∧ σ.ov.ownBlock ≠ some e.q ∧ base ≤ e.q
  pb : base ≤ σ.p
  mbb : base ≤ σ.mb
  dk : ∀ k, Dk σ.dp σ.dq σ.dn σ.vs k → ¬ Ck σ k
  m1 : 1 ≤ σ.most ∧ σ.most ≤ 4096
section
variable {w w' : World} {base : Nat} {σ : CSt} {O : List Int}
theorem CS.pl (h : CS w base σ O) : σ.p < w.heap.size := block_lt_of_cell h.c0
theorem CS.sk_lt (h : CS w base σ O) {k : Nat} (hk : Ck σ k) : k < w.heap.size := by
  rcases hk with rfl | rfl | hk | ⟨e, he, rfl⟩
  · exact h.pl
  · exact h.map.lt
  · exact (h.ord.lt k hk).2
  · exact (Array.getElem?_eq_some_iff.1 (h.blk e he).1).1
/-- The cache under changes of other blocks. -/
theorem CS.fr (h : CS w base σ O) {S : Nat → Prop} (hf : Fr S w w') (hS : ∀ k, Sk σ k → ¬ S k) : CS w' base σ O := by
  have hp : ¬ S σ.p := hS _ (.inl (.inl rfl))
  have cp : ∀ o, w'.cell? ⟨σ.p, o, none⟩ = w.cell? ⟨σ.p, o, none⟩ := fun o => fr_cell hf (a := ⟨σ.p, o, none⟩) h.pl hp
  exact {
    disk := h.disk.fr hf fun k hk => hS k (.inr hk)
    c0 := (cp 0).trans h.c0, c1 := (cp 1).trans h.c1, c2 := (cp 2).trans h.c2, c3 := (cp 3).trans h.c3
    fp := fun o => (fr_frozen hf (a := ⟨σ.p, o, none⟩) h.pl hp).trans (h.fp o)
    ord := h.ord.same fun k hk => hf.blk k (h.ord.lt k hk).2 (hS k (.inl (.inr (.inr (.inl hk)))))
    map := h.map.same (hf.blk _ h.map.lt (hS _ (.inl (.inr (.inl rfl)))))
    blk := fun e he => ⟨(hf.blk e.q (h.sk_lt (.inr (.inr (.inr ⟨e, he, rfl⟩)))) (hS _ (.inl (.inr (.inr (.inr ⟨e, he, rfl⟩)))))).trans (h.blk e he).1, (h.blk e he).2⟩
    nd := h.nd, qd := h.qd, pm := h.pm, po := h.po, mo := h.mo, bq := h.bq, pb := h.pb, mbb := h.mbb, dk := h.dk, m1 := h.m1 }
theorem CS.up (h : CS w base σ O) (hb : Below w.heap.size w w') : CS w' base σ O :=
  h.fr (S := fun _ => False) (Fr.of_below hb) (fun _ _ c => c)
theorem CS.drew (h : CS w base σ O) : CS w.drew base σ O := h.up ((Below.refl _ _).drew)
theorem CS.split {A B : List CE} {e : CE} (h : CS w base σ O) (hL : σ.L = A ++ e :: B) : NoTwo A e B := noTwo_of (by rw [← hL]; exact h.nd)
theorem CS.look (h : CS w base σ O) (x : Int) (hx : -9223372036854775808 ≤ x ∧ x ≤ 9223372036854775807) : (Instr.lookup 57 (.map (some σ.mb)) (.int .i64 x) false).run Try.prog w = .ok (ptrV (lookF σ.L x)) w :=
  h.map.look x (by simp only [Lit.wf, Bool.and_eq_true, decide_eq_true_eq]; exact hx)
theorem CS.cell (h : CS w base σ O) {e : CE} (he : e ∈ σ.L) (j : Nat) : w.cell? ⟨e.q, j, none⟩ = (beL e)[j]? := by
  rw [cell_of_row w e.q j _ _ _ (h.blk e he).1]; simp
theorem CS.pin (h : CS w base σ O) {e : CE} (he : e ∈ σ.L) : w.cell? ⟨e.q, 256, none⟩ = some (.int .i64 (e.pin : Int)) := by
  rw [h.cell he, beL, List.getElem?_append_right (by rw [bvs_length, (h.blk e he).2.1]; omega), bvs_length, (h.blk e he).2.1]
  rfl
theorem CS.range (h : CS w base σ O) {e : CE} (he : e ∈ σ.L) : w.rangeAt e.q 0 (bvs e.d) := fun j v hv => by
  have hj : j < (bvs e.d).length := (List.getElem?_eq_some_iff.1 hv).1
  rw [Nat.zero_add, h.cell he, beL, List.getElem?_append_left hj]; exact hv
theorem CS.bfr (h : CS w base σ O) {e : CE} (he : e ∈ σ.L) (j : Nat) : w.frozen? ⟨e.q, j, none⟩ = false := frozen_of_row w e.q j _ _ (h.blk e he).1
end
end Go.Proofs.Ytikpnfnbmbaljaa
