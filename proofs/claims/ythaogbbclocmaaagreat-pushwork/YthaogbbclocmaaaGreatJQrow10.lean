/- A row that is one's own, or one that is full: append. -/
import Derived.Test.YthaogbbclocmaaaGreatJRdisk8
import Derived.ArgAppend
import Derived.Test.YthaogbbclocmaaaGreatJRpat5
import Derived.Test.YthaogbbclocmaaaGreatJPah5
import Derived.Test.YthaogbbclocmaaaGreatJLopen3
namespace Go.Proofs.YthaogbbclocmaaaGreat
open Go.RowKit
set_option maxRecDepth 100000
/-- Cells that lie behind an address. -/
def Lie (w : World) (ao : Option Addr) (xs : List Value) : Prop := xs = [] ∨ ∃ g o, ao = some ⟨g, o, none⟩ ∧ g < w.heap.size ∧ ∀ j u, xs[j]? = some u → w.cell? ⟨g, o + j, none⟩ = some u
theorem Lie.fr {w w' : World} {ao : Option Addr} {xs : List Value} (h : Lie w ao xs) {S : Nat → Prop} (hf : Fr S w w') (hS : xs = [] ∨ ∀ g o, ao = some ⟨g, o, none⟩ → ¬ S g) : Lie w' ao xs := by
  rcases h with h | ⟨g, o, e, hg, hc⟩
  · exact .inl h
  · rcases hS with h | hS
    · exact .inl h
    · exact .inr ⟨g, o, e, by have := hf.size; omega, fun j u hj => (fr_cell hf (a := ⟨g, o + j, none⟩) hg (hS g o e)).trans (hc j u hj)⟩
theorem Lie.up {w w' : World} {ao : Option Addr} {xs : List Value} (h : Lie w ao xs) (hb : Below w.heap.size w w') : Lie w' ao xs := h.fr (S := fun _ => False) (Fr.of_below hb) (.inr fun _ _ _ h => h)
/-- One's own row, or one without room behind. -/
def OwF (w : World) (base e size : Nat) (v : Value) (n : Nat) (xs : List Value) : Prop :=
  w.ownsRow base e size v n xs ∨ (xs.length = n * size ∧ ∃ g, v = .slice (some ⟨g, 0, none⟩) n n ∧ base ≤ g ∧ g < w.heap.size ∧ ∀ j u, xs[j]? = some u → w.cell? ⟨g, j, none⟩ = some u)
theorem OwF.form {w : World} {base e size : Nat} {v : Value} {n : Nat} {xs : List Value} (h : OwF w base e size v n xs) : ∃ ao cap, v = .slice ao n cap ∧ Lie w ao xs ∧ n ≤ cap ∧ (cap : Int) ≤ 9223372036854775807 + (n : Int) ∧ (ao = none ∧ n = 0 ∧ cap = 0 ∨ ∃ g, ao = some ⟨g, 0, none⟩ ∧ base ≤ g ∧ g < w.heap.size) := by
  rcases h with ⟨h1, h2⟩ | ⟨h1, g, e, hb, hl, hc⟩
  · rcases h2 with ⟨e, h3⟩ | ⟨g, cap, cur, e, hb, hh, hn, hm, hs, hx⟩
    · subst h3
      exact ⟨none, 0, e, .inl (List.eq_nil_of_length_eq_zero (by rw [h1]; simp)), Nat.le_refl _, by omega, .inl ⟨rfl, rfl, rfl⟩⟩
    · have hgl : g < w.heap.size := (Array.getElem?_eq_some_iff.1 hh).1
      refine ⟨_, cap, e, .inr ⟨g, 0, rfl, hgl, fun j u hj => ?_⟩, hn, by unfold maxLen at hm; omega, .inr ⟨g, rfl, hb, hgl⟩⟩
      rw [Nat.zero_add, cell_of_row w g _ _ _ _ hh, ← Array.getElem?_toList]
      have hj' := hj
      rw [← hx, List.getElem?_take] at hj'
      split at hj'
      · exact hj'
      · cases hj'
  · exact ⟨_, n, e, .inr ⟨g, 0, rfl, hl, fun j u hj => by rw [Nat.zero_add]; exact hc j u hj⟩, Nat.le_refl _, by omega, .inr ⟨g, rfl, hb, hl⟩⟩
theorem OwF.fr {w w' : World} {base e size : Nat} {v : Value} {n : Nat} {xs : List Value} (h : OwF w base e size v n xs) {S : Nat → Prop} (hf : Fr S w w') (hS : ∀ k, v.ownBlock = some k → ¬ S k) : OwF w' base e size v n xs := by
  rcases h with h | ⟨h1, g, e, hb, hl, hc⟩
  · exact .inl (row_same h fun k hk => hf.blk k (World.ownsRow.lt h k hk).2 (hS k hk))
  · subst e
    exact .inr ⟨h1, g, rfl, hb, by have := hf.size; omega, fun j u hj => (fr_cell hf (a := ⟨g, j, none⟩) hl (hS g rfl)).trans (hc j u hj)⟩
theorem OwF.lt {w : World} {base e size : Nat} {v : Value} {n : Nat} {xs : List Value} (h : OwF w base e size v n xs) : ∀ k, v.ownBlock = some k → base ≤ k ∧ k < w.heap.size := by
  intro k hk
  rcases h with h | ⟨h1, g, e, hb, hl, hc⟩
  · exact World.ownsRow.lt h k hk
  · subst e
    cases hk
    exact ⟨hb, hl⟩
/-- append of one element onto such a row. -/
theorem run_append_owf {w : World} (t ty : TypeId) (base e : Nat) (i0 : TypeInfo) (z : Value) (size bytes : Nat) (hu : Tryz.prog.underlying t = some (.slice e)) (hi : Tryz.prog.info? e = some i0) (hz0 : i0.zero = some z) (hz1 : i0.size = size) (hz2 : i0.bytes = bytes) (hz3 : z.cells.size = size) (hsz : 0 < size) (hby : bytes ≤ 1000)
    (n : Nat) (xs ys : List Value) (v : Value) (g c : Nat) (hown : OwF w base e size v n xs) (hyl : ys.length = size) (hsrc : ∀ j u, ys[j]? = some u → w.cell? ⟨g, j, none⟩ = some u) (hone : ∀ u ∈ ys, u.oneCell' = true) (hbase : base ≤ w.heap.size) (hb : n ≤ 1000000) :
    ∃ G cap w', (Builtin.append_ #[t, t] ty #[v, .slice (some ⟨g, 0, none⟩) 1 c]).run Tryz.prog w = .ok (.slice (some ⟨G, 0, none⟩) (n + 1) cap) w' ∧ w'.ownsRow base e size (.slice (some ⟨G, 0, none⟩) (n + 1) cap) (n + 1) (xs ++ ys) ∧ w.grownBy w' v.ownBlock ∧ (v.ownBlock = some G ∨ w.heap.size ≤ G) := by
  have hbb : (n + 1) * bytes ≤ 140737488355328 := by
    have : (n + 1) * bytes ≤ 1000001 * 1000 := Nat.mul_le_mul (by omega) hby
    omega
  rcases hown with hown | ⟨h1, g0, rfl, hb0, hl0, hc0⟩
  · obtain ⟨G, cap, w', hr, hown', hgr, hat, _⟩ := run_append_lies (P := Tryz.prog) w t ty base e i0 z size bytes hu hi hz0 hz1 hz2 hz3 hsz v n xs hown ⟨g, 0, none⟩ 1 c ys (by rw [hyl]; omega) (fun j u hj => by rw [addr_add, Nat.zero_add]; exact hsrc j u hj) hone (by omega) (by unfold maxLen; omega) hbb hbase _ rfl
    refine ⟨G, cap, w', hr, hown', hgr, ?_⟩
    rcases hat with hat | hat
    · exact .inl hat
    · exact .inr (by omega)
  · obtain ⟨v', w', hr, hown, hg⟩ := run_append_arg_grows (P := Tryz.prog) w t ty e i0 z size bytes hu hi hz0 hz1 hz2 hz3 hsz ⟨g0, 0, none⟩ n n xs h1 (fun j u hj => by rw [addr_add, Nat.zero_add]; exact hc0 j u hj) ⟨g, 0, none⟩ 1 c ys (by rw [hyl]; omega) (fun j u hj => by rw [addr_add, Nat.zero_add]; exact hsrc j u hj) (by omega) (by unfold maxLen; omega) hbb
    rcases hown.2 with ⟨_, h0⟩ | ⟨G, cap, cur, hv, hG, hh, hn, hm, hs, hx⟩
    · omega
    · subst hv
      refine ⟨G, cap, w', hr, ⟨hown.1, .inr ⟨G, cap, cur, rfl, Nat.le_trans hbase hG, hh, hn, hm, hs, hx⟩⟩, ?_, .inr hG⟩
      exact { hg with block := fun k hk hne => hg.block k hk (fun e => by cases e) }
/-- 'append' of one element, as a step of a region that draws. -/
theorem step_appF {ops : Array Oper} {o : Oper} {a : Act} {w : World} {K : Act → World → Prop} {Q : Exit → Act → World → Prop} {E : Prop} (hgd : o.guard = none) (s x : Operand) (t : TypeId)
    (ho : o.op = .call { callee := .builtin .append, args := #[s, x], argTypes := #[t, t] }) (base e : Nat) (i0 : TypeInfo) (z : Value) (size bytes : Nat) (hu : Tryz.prog.underlying t = some (.slice e)) (hi : Tryz.prog.info? e = some i0) (hz0 : i0.zero = some z) (hz1 : i0.size = size) (hz2 : i0.bytes = bytes) (hz3 : z.cells.size = size) (hsz : 0 < size) (hby : bytes ≤ 1000)
    (n : Nat) (xs ys : List Value) (v : Value) (hs : a.eval s = v) (g c : Nat) (hx : a.eval x = .slice (some ⟨g, 0, none⟩) 1 c) (hown : OwF w base e size v n xs) (hyl : ys.length = size) (hsrc : ∀ j u, ys[j]? = some u → w.cell? ⟨g, j, none⟩ = some u) (hone : ∀ u ∈ ys, u.oneCell' = true) (hbase : base ≤ w.heap.size) (hb : n ≤ 1000000)
    (h : ∀ G cap w', w'.ownsRow base e size (.slice (some ⟨G, 0, none⟩) (n + 1) cap) (n + 1) (xs ++ ys) → w.grownBy w' v.ownBlock → (v.ownBlock = some G ∨ w.heap.size ≤ G) → K (a.put o.dst (.slice (some ⟨G, 0, none⟩) (n + 1) cap)) w') :
    if Region.wanted o (yielded ops a.tmps) = true then Oper.wp Tryz.prog o a w K Q else E := by
  have hw : Region.wanted o (yielded ops a.tmps) = true := by simp [Region.wanted, hgd]
  rw [if_pos hw]
  obtain ⟨G, cap, w', hr, hown', hgr, hat⟩ := run_append_owf t o.type base e i0 z size bytes hu hi hz0 hz1 hz2 hz3 hsz hby n xs ys v g c hown hyl hsrc hone hbase hb
  unfold Oper.wp execOp
  simp only [ho, resolve, invoke, builtin]
  simp [hs, hx, hr, Result.andThen]
  exact h G cap w' hown' hgr hat
/-- Own memory that grew: all else is as it was. -/
theorem fr_grown {w w' : World} {row : Option Nat} (hg : w.grownBy w' row) : Fr (fun k => row = some k) w w' := ⟨hg.size, fun k hk hn => hg.block k hk (fun e => hn e.symm), hg.os, hg.tape, hg.output⟩
end Go.Proofs.YthaogbbclocmaaaGreat
/- Package push: Work, of any number of acts. -/
namespace Go.Proofs.YthaogbbclocmaaaGreat
open Go.RowKit
set_option maxRecDepth 100000
theorem wts_get {l : List Wt} {i : Nat} {x : Wt} (h : l[i]? = some x) {j : Nat} (hj : j < 3) : (wts l)[i * 3 + j]? = (wtL x)[j]? := by
  induction l generalizing i with
  | nil => cases h
  | cons a l ih =>
    have e : wts (a :: l) = wtL a ++ wts l := rfl
    rw [e]
    cases i with
    | zero =>
      cases h
      rw [List.getElem?_append_left (by show _ < 3; omega)]
      congr 1; omega
    | succ i =>
      rw [List.getElem?_append_right (by show 3 ≤ _; omega)]
      rw [show (i + 1) * 3 + j - (wtL a).length = i * 3 + j by show _ - 3 = _; omega]
      exact ih (by simpa using h)
theorem wts_snoc (l : List Wt) (x : Wt) : wts (l ++ [x]) = wts l ++ wtL x := by unfold wts; rw [List.flatMap_append]; simp
/-- What is known of what waits. -/
def Wt.ok (x : Wt) : Prop := -9223372036854775808 ≤ x.id ∧ x.id ≤ 9223372036854775807
/-- The blocks of a work. -/
def Wo (q : Nat) (v : Value) (k : Nat) : Prop := k = q ∨ v.ownBlock = some k
/-- The work at block q. -/
structure WkG (w : World) (base q : Nat) (v : Value) (l : List Wt) : Prop where
  at' : w.heap[q]? = some (.cells #[v] 169 (0, 0))
  ow : OwF w base 171 3 v l.length (wts l)
  ne : v.ownBlock ≠ some q
  qb : base ≤ q
  ok : ∀ x ∈ l, x.ok
section
variable {w w' : World} {base q : Nat} {v : Value} {l : List Wt}
theorem WkG.ql (h : WkG w base q v l) : q < w.heap.size := (Array.getElem?_eq_some_iff.1 h.at').1
theorem WkG.fr (h : WkG w base q v l) {S : Nat → Prop} (hf : Fr S w w') (hS : ∀ k, Wo q v k → ¬ S k) : WkG w' base q v l :=
  ⟨(hf.blk q h.ql (hS q (.inl rfl))).trans h.at', h.ow.fr hf fun k hk => hS k (.inr hk), h.ne, h.qb, h.ok⟩
theorem WkG.up (h : WkG w base q v l) (hb : Below w.heap.size w w') : WkG w' base q v l := h.fr (S := fun _ => False) (Fr.of_below hb) fun _ _ h => h
theorem WkG.lt (h : WkG w base q v l) : ∀ k, Wo q v k → base ≤ k ∧ k < w.heap.size := fun k hk => by
  rcases hk with rfl | hk
  · exact ⟨h.qb, h.ql⟩
  · exact h.ow.lt k hk
theorem WkG.cell (h : WkG w base q v l) : w.cell? ⟨q, 0, none⟩ = some v := (cell_of_row _ _ _ _ _ _ h.at').trans rfl
theorem wgnew_any (w : World) : Calls Tryz.prog 47 #[] w fun e w' => e = .returned (.pointer (some ⟨w.heap.size, 0, none⟩)) ∧ WkG w' w.heap.size w.heap.size (.slice none 0 0) [] ∧ Below w.heap.size w w' := by
  refine (wnew_any w).mono ?_
  rintro e w' ⟨rfl, h, hb⟩
  exact ⟨rfl, ⟨h.at', .inl h.ow, h.ne, h.qb, fun x hx => by cases hx⟩, hb⟩
set_option maxHeartbeats 1000000 in
theorem wglen_any (h : WkG w base q v l) : Calls Tryz.prog 58 #[.pointer (some ⟨q, 0, none⟩)] w fun e w' => e = .returned (.int .i64 (l.length : Int)) ∧ w' = w := by
  obtain ⟨ao, ca, hv, _⟩ := h.ow.form
  have q0 := h.cell
  rw [hv] at q0
  clear h hv
  go_enter Tryz.func58, Tryz.ntmps58
  go_wp2
  go_ret
  exact ⟨rfl, rfl⟩
theorem wg_next {W1 w' : World} {x : Wt} {G cap : Nat} {o : Obj} (h : WkG W1 base q v l) (hx : x.ok) (hB : Below w.heap.size w W1) (ho : w'.ownsRow base 171 3 (.slice (some ⟨G, 0, none⟩) (l.length + 1) cap) (l.length + 1) (wts l ++ wtL x)) (hg : (W1.drew.alloc o).grownBy w' v.ownBlock) (hat : v.ownBlock = some G ∨ (W1.drew.alloc o).heap.size ≤ G) (hq : w'.heap[q]? = some (.cells #[v] 169 (0, 0))) :
    WkG (w'.setCell ⟨q, 0, none⟩ (.slice (some ⟨G, 0, none⟩) (l.length + 1) cap)) base q (.slice (some ⟨G, 0, none⟩) (l.length + 1) cap) (l ++ [x]) ∧ Fr (Wo q v) w (w'.setCell ⟨q, 0, none⟩ (.slice (some ⟨G, 0, none⟩) (l.length + 1) cap)) ∧ (∀ k, Wo q (Value.slice (some ⟨G, 0, none⟩) (l.length + 1) cap) k → Wo q v k ∨ w.heap.size ≤ k) := by
  have hql : q < W1.heap.size := h.ql
  have hz1 := hB.size
  have hz : W1.drew.heap.size = W1.heap.size := rfl
  have hgz := hg.size
  rw [size_alloc, hz] at hgz
  rw [size_alloc, hz] at hat
  have hGq : G ≠ q := fun e => by
    rcases hat with e1 | e1
    · exact h.ne (by rw [e1, e])
    · omega
  have st : ∀ k, k ≠ q → (w'.setCell ⟨q, 0, none⟩ (.slice (some ⟨G, 0, none⟩) (l.length + 1) cap)).heap[k]? = w'.heap[k]? := fun k hk => heap_setCell_other w' ⟨q, 0, none⟩ k _ hk
  have hsz : (w'.setCell ⟨q, 0, none⟩ (.slice (some ⟨G, 0, none⟩) (l.length + 1) cap)).heap.size = w'.heap.size := by simp [World.setCell]
  refine ⟨⟨?_, ?_, fun e => hGq (by cases e; rfl), h.qb, fun y hy => ?_⟩, ⟨by rw [hsz]; omega, fun k hk hn => ?_, hg.os.trans hB.os, hg.tape.trans hB.tape, hg.output.trans hB.output⟩, fun k hk => ?_⟩
  · exact heap_setCell_same w' q 0 _ _ _ hq
  · rw [List.length_append, wts_snoc]
    exact .inl (row_same ho fun k hk => st k (fun e => hGq (by cases hk; exact e)))
  · rcases List.mem_append.1 hy with hy | hy
    · exact h.ok y hy
    · rw [List.mem_singleton.1 hy]; exact hx
  · have h1 : ¬ k = q := fun e => hn (.inl e)
    have h2 : ¬ v.ownBlock = some k := fun e => hn (.inr e)
    rw [st k h1, hg.block k (by rw [size_alloc, hz]; omega) (fun e => h2 e.symm), Below.heap_alloc _ _ _ (by rw [hz]; omega)]
    exact hB.block k hk
  · rcases hk with hk | hk
    · exact .inl (.inl hk)
    · cases hk
      rcases hat with e | e
      · exact .inl (.inr e)
      · exact .inr (show w.heap.size ≤ G by omega)
set_option maxHeartbeats 4000000 in
theorem wglater_any (h : WkG w base q v l) (id K N : Int) (hid : -9223372036854775808 ≤ id ∧ id ≤ 9223372036854775807) (hK : 1 ≤ K ∧ K ≤ 3) (hl : l.length < 4096) (hb : base ≤ w.heap.size) :
    Calls Tryz.prog 48 #[.pointer (some ⟨q, 0, none⟩), .int .i64 id, .agg #[.int .i64 K, .int .i64 N]] w fun e w' => e = .returned (.int .i64 0) ∧ ∃ v', WkG w' base q v' (l ++ [⟨K, N, id⟩]) ∧ Fr (Wo q v) w w' ∧ (∀ k, Wo q v' k → Wo q v k ∨ w.heap.size ≤ k) := by
  have HB1 : Hid (Below w.heap.size w (w.alloc (.cells #[.int .i64 K, .int .i64 N] 95))) := (Below.refl _ _).alloc (Nat.le_refl _) _
  have HW1 : Hid (WkG (w.alloc (.cells #[.int .i64 K, .int .i64 N] 95)) base q v l) := h.up HB1.out
  have LE := wglen_any HW1.out
  have hl' : (l.length : Int) < 4096 := by omega
  have hK1 : ¬ K < 1 := by omega
  have hK2 : ¬ 3 < K := by omega
  clear h
  go_enter Tryz.func48, Tryz.ntmps48
  go_wp2_with (first | (go_at_call 58; refine Hid.out ?_))
  change Calls _ _ _ _ _
  refine LE.mono ?_
  clear LE
  rintro r w1 ⟨rfl, rfl⟩
  go_upto_region 7 with fail
  have hz1 := size_alloc w (.cells #[.int .i64 K, .int .i64 N] 95)
  have hrow := heap_alloc_new w (.cells #[.int .i64 K, .int .i64 N] 95)
  have b0 : (w.alloc (.cells #[.int .i64 K, .int .i64 N] 95)).cell? ⟨w.heap.size, 0, none⟩ = some (.int .i64 K) := (cell_of_row _ _ _ _ _ _ hrow).trans rfl
  have b1 : (w.alloc (.cells #[.int .i64 K, .int .i64 N] 95)).cell? ⟨w.heap.size, 1, none⟩ = some (.int .i64 N) := (cell_of_row _ _ _ _ _ _ hrow).trans rfl
  have HZ1 : Hid ((w.alloc (.cells #[.int .i64 K, .int .i64 N] 95)).heap.size = w.heap.size + 1) := hz1
  generalize w.alloc (.cells #[.int .i64 K, .int .i64 N] 95) = W1 at *
  obtain ⟨ao, ca, hv, _⟩ := HW1.out.ow.form
  subst hv
  have hql : q < W1.heap.size := HW1.out.ql
  have q0 : W1.cell? ⟨q, 0, none⟩ = some (.slice ao l.length ca) := HW1.out.cell
  have q1 : (W1.alloc (.cells #[.int .i64 K, .int .i64 N, .int .i64 id] 171)).cell? ⟨q, 0, none⟩ = some (.slice ao l.length ca) := (World.cell?_of_block (w := W1) (a := ⟨q, 0, none⟩) (Below.heap_alloc _ _ _ hql)).trans q0
  obtain ⟨i0, z, hi0, hz0, hz3, hzs, hzb⟩ := infoW_parts
  have HI : Hid (Tryz.prog.info? 171 = some i0 ∧ i0.zero = some z ∧ z.cells.size = 3 ∧ i0.size = 3 ∧ i0.bytes = 24) := ⟨hi0, hz0, hz3, hzs, hzb⟩
  have HQL : Hid (q < W1.heap.size) := hql
  clear hi0 hz0 hz3 hzs hzb hrow hz1 hql
  go_region_law (refine step_appF rfl (.tmp 24) (.tmp 28) 167 rfl base 171 i0 z 3 24 Tryz.underlying167 HI.out.1 HI.out.2.1 HI.out.2.2.2.1 HI.out.2.2.2.2 HI.out.2.2.1 (by decide) (by decide) l.length (wts l) (wtL ⟨K, N, id⟩) (.slice ao l.length ca) (by simp [Act.eval]) W1.heap.size 1 (by simp [Act.eval]) (HW1.out.ow.fr (Fr.of_below (((Below.refl _ _).drew).alloc (Nat.le_refl _) _)) (fun _ _ h => h) (S := fun _ => False)) rfl (fun j u hj => (cell_of_row _ _ _ _ _ _ (heap_alloc_new W1.drew _)).trans (by rw [← hj]; rcases j with _ | _ | _ | j <;> rfl)) (fun u hu => by simp [wtL] at hu; rcases hu with rfl | rfl | rfl <;> rfl) (show base ≤ (W1.drew.alloc (.cells #[.int .i64 K, .int .i64 N, .int .i64 id] 171)).heap.size by rw [size_alloc]; have : W1.drew.heap.size = w.heap.size + 1 := HZ1.out; omega) (by omega) ?_; intro G cap w' ho hg hat; have hat' : w'.heap[q]? = some (.cells #[.slice ao l.length ca] 169 (0, 0)) := ((hg.block q (show q < (W1.drew.alloc (.cells #[.int .i64 K, .int .i64 N, .int .i64 id] 171)).heap.size by rw [size_alloc]; have := HQL.out; show q < W1.heap.size + 1; omega) (fun e => HW1.out.ne e.symm)).trans (Below.heap_alloc W1.drew _ _ HQL.out)).trans HW1.out.at'; have qz : w'.cell? ⟨q, 0, none⟩ = some (.slice ao l.length ca) := (cell_of_row _ _ _ _ _ _ hat').trans rfl; have fzz : w'.frozen? ⟨q, 0, none⟩ = false := frozen_of_row w' _ 0 _ _ hat'; have HN : Hid (w'.ownsRow base 171 3 (.slice (some ⟨G, 0, none⟩) (l.length + 1) cap) (l.length + 1) (wts l ++ wtL ⟨K, N, id⟩) ∧ (W1.drew.alloc (.cells #[.int .i64 K, .int .i64 N, .int .i64 id] 171)).grownBy w' (Value.slice ao l.length ca).ownBlock ∧ ((Value.slice ao l.length ca).ownBlock = some G ∨ (W1.drew.alloc (.cells #[.int .i64 K, .int .i64 N, .int .i64 id] 171)).heap.size ≤ G) ∧ w'.heap[q]? = some (.cells #[.slice ao l.length ca] 169 (0, 0))) := ⟨ho, hg, hat, hat'⟩; clear ho hg hat hat')
  all_goals (
    go_wp2_with fail
    go_ret)
  all_goals exact ⟨rfl, _, wg_next HW1.out hid HB1.out HN.out.1 HN.out.2.1 HN.out.2.2.1 HN.out.2.2.2⟩
set_option maxHeartbeats 2000000 in
theorem wglater_bad (w : World) (q : Nat) (id K N : Int) (hK : K < 1 ∨ 3 < K) :
    Calls Tryz.prog 48 #[.pointer (some ⟨q, 0, none⟩), .int .i64 id, .agg #[.int .i64 K, .int .i64 N]] w fun e w' => e = .returned (.int .i64 1) ∧ Below w.heap.size w w' := by
  have HB1 : Hid (Below w.heap.size w (w.alloc (.cells #[.int .i64 K, .int .i64 N] 95))) := (Below.refl _ _).alloc (Nat.le_refl _) _
  by_cases hK1 : K < 1
  · go_enter Tryz.func48, Tryz.ntmps48
    go_wp2
    go_ret
    exact ⟨rfl, HB1.out⟩
  · have hK2 : 3 < K := by omega
    go_enter Tryz.func48, Tryz.ntmps48
    go_wp2
    go_ret
    exact ⟨rfl, HB1.out⟩
end
end Go.Proofs.YthaogbbclocmaaaGreat
/- The document's Work (leveeref12): Later. -/
namespace Go.Proofs.YthaogbbclocmaaaGreat
open Go.RowKit
set_option maxRecDepth 100000
def wdL (x : Wt) : List Value := [.int .i64 x.id, .int .i64 x.K, .int .i64 x.N]
def wds (l : List Wt) : List Value := l.flatMap wdL
theorem wds_length : ∀ l : List Wt, (wds l).length = l.length * 3
  | [] => rfl
  | x :: l => by
    have := wds_length l
    show (wdL x ++ wds l).length = _
    rw [List.length_append, this]
    simp [wdL]; omega
theorem wds_get {l : List Wt} {i : Nat} {x : Wt} (h : l[i]? = some x) {j : Nat} (hj : j < 3) : (wds l)[i * 3 + j]? = (wdL x)[j]? := by
  induction l generalizing i with
  | nil => cases h
  | cons a l ih =>
    have e : wds (a :: l) = wdL a ++ wds l := rfl
    rw [e]
    cases i with
    | zero =>
      cases h
      rw [List.getElem?_append_left (by show _ < 3; omega)]
      congr 1; omega
    | succ i =>
      rw [List.getElem?_append_right (by show 3 ≤ _; omega)]
      rw [show (i + 1) * 3 + j - (wdL a).length = i * 3 + j by show _ - 3 = _; omega]
      exact ih (by simpa using h)
theorem wds_snoc (l : List Wt) (x : Wt) : wds (l ++ [x]) = wds l ++ wdL x := by unfold wds; rw [List.flatMap_append]; simp
theorem Tryz.infoD : (Tryz.prog.info? 106).map (fun i => (i.zero.map fun z => z.cells.size, i.size, i.bytes)) = some (some 3, 3, 24) := by kernel_rfl
theorem infoD_parts : ∃ i0 z, Tryz.prog.info? 106 = some i0 ∧ i0.zero = some z ∧ z.cells.size = 3 ∧ i0.size = 3 ∧ i0.bytes = 24 := by
  have h := Tryz.infoD
  cases hi : Tryz.prog.info? 106 with
  | none => rw [hi] at h; cases h
  | some i0 =>
    rw [hi] at h
    simp only [Option.map_some, Option.some.injEq, Prod.mk.injEq] at h
    cases hz : i0.zero with
    | none => rw [hz] at h; cases h.1
    | some z =>
      rw [hz] at h
      exact ⟨i0, z, rfl, hz, Option.some.inj h.1, h.2.1, h.2.2⟩
/-- The document's work at block q. -/
structure WdG (w : World) (base q : Nat) (v : Value) (l : List Wt) : Prop where
  at' : w.heap[q]? = some (.cells #[v] 89 (0, 0))
  ow : w.ownsRow base 106 3 v l.length (wds l)
  ne : v.ownBlock ≠ some q
  qb : base ≤ q
section
variable {w w' : World} {base q : Nat} {v : Value} {l : List Wt}
theorem WdG.ql (h : WdG w base q v l) : q < w.heap.size := (Array.getElem?_eq_some_iff.1 h.at').1
theorem WdG.fr (h : WdG w base q v l) {S : Nat → Prop} (hf : Fr S w w') (hS : ∀ k, Wo q v k → ¬ S k) : WdG w' base q v l :=
  ⟨(hf.blk q h.ql (hS q (.inl rfl))).trans h.at', row_same h.ow fun k hk => hf.blk k (World.ownsRow.lt h.ow k hk).2 (hS k (.inr hk)), h.ne, h.qb⟩
theorem WdG.up (h : WdG w base q v l) (hb : Below w.heap.size w w') : WdG w' base q v l := h.fr (S := fun _ => False) (Fr.of_below hb) fun _ _ h => h
theorem WdG.lt (h : WdG w base q v l) : ∀ k, Wo q v k → base ≤ k ∧ k < w.heap.size := fun k hk => by
  rcases hk with rfl | hk
  · exact ⟨h.qb, h.ql⟩
  · exact World.ownsRow.lt h.ow k hk
theorem WdG.cell (h : WdG w base q v l) : w.cell? ⟨q, 0, none⟩ = some v := (cell_of_row _ _ _ _ _ _ h.at').trans rfl
theorem WdG.form (h : WdG w base q v l) : ∃ ao ca, v = .slice ao l.length ca ∧ l.length ≤ ca ∧ (ca : Int) ≤ 9223372036854775807 ∧ (ao = none ∧ l = [] ∧ ca = 0 ∨ ∃ g, ao = some ⟨g, 0, none⟩ ∧ base ≤ g ∧ g < w.heap.size) ∧ Lie w ao (wds l) := by
  obtain ⟨h1, h2⟩ := h.ow
  rcases h2 with ⟨e, h3⟩ | ⟨g, cap, cur, e, hb, hh, hn, hm, hs, hx⟩
  · have hl : l = [] := List.eq_nil_of_length_eq_zero h3
    subst hl
    exact ⟨none, 0, e, Nat.le_refl _, by omega, .inl ⟨rfl, rfl, rfl⟩, .inl rfl⟩
  · have hgl : g < w.heap.size := (Array.getElem?_eq_some_iff.1 hh).1
    refine ⟨_, cap, e, hn, by unfold maxLen at hm; omega, .inr ⟨g, rfl, hb, hgl⟩, .inr ⟨g, 0, rfl, hgl, fun j u hj => ?_⟩⟩
    rw [Nat.zero_add, cell_of_row w g _ _ _ _ hh, ← Array.getElem?_toList]
    have hj' := hj
    rw [← hx, List.getElem?_take] at hj'
    split at hj'
    · exact hj'
    · cases hj'
theorem run_lenD {o : Oper} {a : Act} {w : World} {s : Operand} {ao : Option Addr} {n c : Nat} (hop : o.op = .call { callee := .builtin .len, args := #[s], argTypes := #[87] }) (hs : a.eval s = .slice ao n c) : (execOp a.eval o).run Tryz.prog w = .ok (.value (.int .i64 (n : Int))) w := by
  unfold execOp
  simp only [hop, resolve, invoke, builtin]
  simp [hs, Builtin.len_, run_underlying Tryz.underlying87, goInt]
theorem run_slice3D {o : Oper} {a : Act} {w : World} {s x y : Operand} {ao : Option Addr} {n c : Nat} (hop : o.op = .slice 87 s none (some x) (some y)) (hs : a.eval s = .slice ao n c) (hx : a.eval x = .int .i64 (n : Int)) (hy : a.eval y = .int .i64 (n : Int)) (hc : (n : Int) ≤ (c : Int)) (ha : ao = none ∨ ∃ g, ao = some ⟨g, 0, none⟩) : (execOp a.eval o).run Tryz.prog w = .ok (.value (.slice ao n n)) w := by
  unfold execOp
  simp only [hop, hs, Option.map_some, Option.map_none, hx, hy]
  clear hop hs hx hy
  rcases ha with rfl | ⟨g, rfl⟩
  · go_simp
  · go_simp
set_option maxHeartbeats 8000000 in
theorem wdlater_any (h : WdG w base q v l) (id K N : Int) (hK : 1 ≤ K ∧ K ≤ 3) (hl : l.length < 4096) (hb : base ≤ w.heap.size) :
    Calls Tryz.prog 50 #[.pointer (some ⟨q, 0, none⟩), .int .i64 id, .agg #[.int .i64 K, .int .i64 N]] w fun e w' => e = .returned (.int .i64 0) ∧ ∃ v', WdG w' base q v' (l ++ [⟨K, N, id⟩]) ∧ Fr (Wo q v) w w' ∧ (∀ k, Wo q v' k → Wo q v k ∨ w.heap.size ≤ k) := by
  have HB1 : Hid (Below w.heap.size w (w.alloc (.cells #[.int .i64 K, .int .i64 N] 91))) := (Below.refl _ _).alloc (Nat.le_refl _) _
  have HW1 : Hid (WdG (w.alloc (.cells #[.int .i64 K, .int .i64 N] 91)) base q v l) := h.up HB1.out
  have HLT : Hid (∀ k, Wo q v k → k < w.heap.size) := fun k hk => (h.lt k hk).2
  have hl' : (l.length : Int) < 4096 := by omega
  have hK1 : ¬ K < 1 := by omega
  have hK2 : ¬ 3 < K := by omega
  obtain ⟨ao, ca, hv, hca1, hca2, hform, hlie⟩ := h.form
  subst hv
  have q0 : (w.alloc (.cells #[.int .i64 K, .int .i64 N] 91)).cell? ⟨q, 0, none⟩ = some (.slice ao l.length ca) := HW1.out.cell
  have HNE : Hid (ao = none ∨ ∃ g, ao = some ⟨g, 0, none⟩) := hform.imp (fun h => h.1) (fun ⟨g, h, _⟩ => ⟨g, h⟩)
  have HFO : Hid ((ao = none ∧ l = [] ∧ ca = 0 ∨ ∃ g, ao = some ⟨g, 0, none⟩ ∧ base ≤ g ∧ g < w.heap.size) ∧ Lie w ao (wds l)) := ⟨hform, hlie⟩
  clear h hform hlie
  have hlca : (l.length : Int) ≤ (ca : Int) := by omega
  go_enter Tryz.func50, Tryz.ntmps50
  go_upto_region 5 with fail
  have hrow := heap_alloc_new w (.cells #[.int .i64 K, .int .i64 N] 91)
  have b0 : (w.alloc (.cells #[.int .i64 K, .int .i64 N] 91)).cell? ⟨w.heap.size, 0, none⟩ = some (.int .i64 K) := (cell_of_row _ _ _ _ _ _ hrow).trans rfl
  have b1 : (w.alloc (.cells #[.int .i64 K, .int .i64 N] 91)).cell? ⟨w.heap.size, 1, none⟩ = some (.int .i64 N) := (cell_of_row _ _ _ _ _ _ hrow).trans rfl
  have HZ1 : Hid ((w.alloc (.cells #[.int .i64 K, .int .i64 N] 91)).heap.size = w.heap.size + 1) := size_alloc _ _
  clear hrow
  generalize w.alloc (.cells #[.int .i64 K, .int .i64 N] 91) = W1 at *
  have HQ1 : Hid (q < W1.heap.size) := HW1.out.ql
  have HS0 : Hid (Fr (Wo q (.slice ao l.length ca)) W1 W1.drew ∧ W1.drew.cell? ⟨w.heap.size, 0, none⟩ = some (.int .i64 K) ∧ W1.drew.cell? ⟨w.heap.size, 1, none⟩ = some (.int .i64 N)) := ⟨(Fr.refl _ _).drew, b0, b1⟩
  have HB6 : Hid (Below W1.heap.size W1 (W1.drew.alloc (.cells #[.int .i64 id, .int .i64 K, .int .i64 N] 106))) := (Below.refl _ _).drew.alloc (Nat.le_refl _) _
  have hbz : w.heap.size < W1.heap.size := by have := HZ1.out; omega
  have q26 : (W1.drew.alloc (.cells #[.int .i64 id, .int .i64 K, .int .i64 N] 106)).cell? ⟨q, 0, none⟩ = some (.slice ao l.length ca) := (HB6.out.cell (p := ⟨q, 0, none⟩) HQ1.out).trans q0
  have q26' : (W1.alloc (.cells #[.int .i64 id, .int .i64 K, .int .i64 N] 106)).cell? ⟨q, 0, none⟩ = some (.slice ao l.length ca) := q26
  have HS6 : Hid (Fr (Wo q (.slice ao l.length ca)) W1 (W1.drew.alloc (.cells #[.int .i64 id, .int .i64 K, .int .i64 N] 106)) ∧ (W1.drew.alloc (.cells #[.int .i64 id, .int .i64 K, .int .i64 N] 106)).cell? ⟨w.heap.size, 0, none⟩ = some (.int .i64 K) ∧ (W1.drew.alloc (.cells #[.int .i64 id, .int .i64 K, .int .i64 N] 106)).cell? ⟨w.heap.size, 1, none⟩ = some (.int .i64 N)) := ⟨Fr.of_below HB6.out, (HB6.out.cell (p := ⟨w.heap.size, 0, none⟩) hbz).trans b0, (HB6.out.cell (p := ⟨w.heap.size, 1, none⟩) hbz).trans b1⟩
  obtain ⟨i0, z, hi0, hz0, hz3, hzs, hzb⟩ := infoD_parts
  have hz1 := HZ1.out
  have hb6z := HB6.out.size
  have hL1 : Lie (W1.drew.alloc (.cells #[.int .i64 id, .int .i64 K, .int .i64 N] 106)) ao (wds l) := (HFO.out.2.up HB1.out).up HB6.out
  have hF : OwF (W1.drew.alloc (.cells #[.int .i64 id, .int .i64 K, .int .i64 N] 106)) base 106 3 (.slice ao l.length l.length) l.length (wds l) := by
    rcases HFO.out.1 with ⟨e1, e2, _⟩ | ⟨g, e1, hg1, hg2⟩
    · rw [e1, e2]
      exact .inl (World.ownsRow_nil _ _ _ _)
    · refine .inr ⟨wds_length l, g, by rw [e1], hg1, by omega, fun j u hj => ?_⟩
      rcases hL1 with e | ⟨g', o', e', _, hc⟩
      · rw [e] at hj; cases hj
      · rw [e1] at e'
        cases e'
        have := hc j u hj
        rwa [Nat.zero_add] at this
  obtain ⟨G, cap, W7, hAPP, hown7, hgr7, hat7⟩ := run_append_owf 87 87 base 106 i0 z 3 24 Tryz.underlying87 hi0 hz0 hzs hzb hz3 (by decide) (by decide) l.length (wds l) (wdL ⟨K, N, id⟩) (.slice ao l.length l.length) W1.heap.size 1 hF rfl (fun j u hj => (cell_of_row _ _ _ _ _ _ (heap_alloc_new W1.drew _)).trans (by rw [← hj]; rcases j with _ | _ | _ | j <;> rfl)) (fun u hu => by simp [wdL] at hu; rcases hu with rfl | rfl | rfl <;> rfl) (by omega) (by omega)
  have hob : ∀ k, (Value.slice ao l.length l.length).ownBlock = some k → Wo q (.slice ao l.length ca) k := fun k hk => .inr (by cases ao with
    | none => cases hk
    | some a => exact hk)
  have HAPP : Hid ((Builtin.append_ #[87, 87] 87 #[.slice ao l.length l.length, .slice (some ⟨W1.heap.size, 0, none⟩) 1 1]).run Tryz.prog (W1.drew.alloc (.cells #[.int .i64 id, .int .i64 K, .int .i64 N] 106)) = .ok (.slice (some ⟨G, 0, none⟩) (l.length + 1) cap) W7) := hAPP
  have HF7 : Hid (Fr (Wo q (.slice ao l.length ca)) W1 W7) := HS6.out.1.trans ((fr_grown hgr7).mono fun k _ hk => hob k hk)
  have nb : ¬ Wo q (.slice ao l.length ca) w.heap.size := fun hk => by have := HLT.out _ hk; omega
  have hGq : G ≠ q := fun e => by
    rcases hat7 with e1 | e1
    · refine HW1.out.ne ?_
      rw [e] at e1
      cases ao with
      | none => cases e1
      | some a => exact e1
    · have := HQ1.out; omega
  have HA7 : Hid (W7.heap[q]? = some (.cells #[.slice ao l.length ca] 89 (0, 0))) := ((hgr7.block q (by have := HQ1.out; omega) (fun e => HW1.out.ne (by cases ao with | none => cases e | some a => exact e.symm))).trans (HB6.out.block q HQ1.out)).trans HW1.out.at'
  have q7 : W7.cell? ⟨q, 0, none⟩ = some (.slice ao l.length ca) := (cell_of_row _ _ _ _ _ _ HA7.out).trans rfl
  have f7 : W7.frozen? ⟨q, 0, none⟩ = false := frozen_of_row _ _ _ _ _ HA7.out
  have HS7 : Hid (Fr (Wo q (.slice ao l.length ca)) W1 W7 ∧ W7.cell? ⟨w.heap.size, 0, none⟩ = some (.int .i64 K) ∧ W7.cell? ⟨w.heap.size, 1, none⟩ = some (.int .i64 N)) := ⟨HF7.out, (fr_cell HF7.out (a := ⟨w.heap.size, 0, none⟩) hbz nb).trans b0, (fr_cell HF7.out (a := ⟨w.heap.size, 1, none⟩) hbz nb).trans b1⟩
  have hF8 : Fr (Wo q (.slice ao l.length ca)) W1 (W7.setCell ⟨q, 0, none⟩ (.slice (some ⟨G, 0, none⟩) (l.length + 1) cap)) := HF7.out.setCell q 0 _ (.inl rfl)
  have HSX : Hid (Fr (Wo q (.slice ao l.length ca)) W1 (W7.setCell ⟨q, 0, none⟩ (.slice (some ⟨G, 0, none⟩) (l.length + 1) cap)) ∧ (W7.setCell ⟨q, 0, none⟩ (.slice (some ⟨G, 0, none⟩) (l.length + 1) cap)).cell? ⟨w.heap.size, 0, none⟩ = some (.int .i64 K) ∧ (W7.setCell ⟨q, 0, none⟩ (.slice (some ⟨G, 0, none⟩) (l.length + 1) cap)).cell? ⟨w.heap.size, 1, none⟩ = some (.int .i64 N)) := ⟨hF8, (fr_cell hF8 (a := ⟨w.heap.size, 0, none⟩) hbz nb).trans b0, (fr_cell hF8 (a := ⟨w.heap.size, 1, none⟩) hbz nb).trans b1⟩
  have HFIN : Hid (WdG (W7.setCell ⟨q, 0, none⟩ (.slice (some ⟨G, 0, none⟩) (l.length + 1) cap)) base q (.slice (some ⟨G, 0, none⟩) (l.length + 1) cap) (l ++ [⟨K, N, id⟩]) ∧ Fr (Wo q (.slice ao l.length ca)) w (W7.setCell ⟨q, 0, none⟩ (.slice (some ⟨G, 0, none⟩) (l.length + 1) cap)) ∧ (∀ k, Wo q (.slice (some ⟨G, 0, none⟩) (l.length + 1) cap) k → Wo q (.slice ao l.length ca) k ∨ w.heap.size ≤ k)) := by
    refine ⟨⟨heap_setCell_same W7 q 0 _ _ _ HA7.out, ?_, fun e => hGq (by cases e; rfl), HW1.out.qb⟩, (Fr.of_below HB1.out).trans hF8, fun k hk => ?_⟩
    · rw [List.length_append, wds_snoc]
      exact row_same hown7 fun k hk => heap_setCell_other W7 ⟨q, 0, none⟩ k _ (fun e => hGq (by cases hk; exact e))
    · rcases hk with hk | hk
      · exact .inl (.inl hk)
      · cases hk
        rcases hat7 with e | e
        · exact .inl (hob G e)
        · exact .inr (by show w.heap.size ≤ G; omega)
  have LQ0 : Hid ((Instr.loadAt 87 (.pointer (some ⟨q, 0, none⟩))).run Tryz.prog W1.drew = .ok (.slice ao l.length ca) W1.drew) := by show _ = _; go_simp
  have LQ6 : Hid ((Instr.loadAt 87 (.pointer (some ⟨q, 0, none⟩))).run Tryz.prog (W1.drew.alloc (.cells #[.int .i64 id, .int .i64 K, .int .i64 N] 106)) = .ok (.slice ao l.length ca) (W1.drew.alloc (.cells #[.int .i64 id, .int .i64 K, .int .i64 N] 106))) := by show _ = _; go_simp
  have BS : Hid ((Instr.buildSlice 87 1 #[(0, .agg #[.int .i64 id, .int .i64 K, .int .i64 N])]).run Tryz.prog W1.drew = .ok (.slice (some ⟨W1.heap.size, 0, none⟩) 1 1) (W1.drew.alloc (.cells #[.int .i64 id, .int .i64 K, .int .i64 N] 106))) := by show _ = _; go_simp
  clear hAPP hown7 hgr7 hat7 hob nb hGq hF8 hF hL1 hi0 hz0 hz3 hzs hzb q26 q26' q0 b0 b1 hz1 hb6z hbz
  refine wp_region_held_drew (S := (fun W => Fr (Wo q (.slice ao l.length ca)) W1 W ∧ W.cell? ⟨w.heap.size, 0, none⟩ = some (.int .i64 K) ∧ W.cell? ⟨w.heap.size, 1, none⟩ = some (.int .i64 N))) (by kernel_rfl) HS0.out (fun hH => ?_)
  refine takeH (i := 0) (dst := some 21) (v := ?v1) rfl rfl (by kernel_rfl) (by kernel_rfl) (by kernel_rfl) (fun _ _ _ h => h) rfl ?hy1 hH rfl ?rest1
  case hy1 => (intro W hW; (try dsimp only at hW); go_simp; try with_reducible rfl)
  (try simp only [Act.put, List.setIfInBounds_toArray, List.set_cons_zero, List.set_cons_succ])
  refine takeH (i := 1) (dst := some 22) (v := ?v2) rfl rfl (by kernel_rfl) (by kernel_rfl) (by kernel_rfl) (fun _ _ _ h => h) rfl ?hy2 hH rfl ?rest2
  case hy2 => (intro W hW; (try dsimp only at hW); go_simp; try with_reducible rfl)
  (try simp only [Act.put, List.setIfInBounds_toArray, List.set_cons_zero, List.set_cons_succ])
  refine takeH (i := 2) (dst := some 23) (v := ?v3) rfl rfl (by kernel_rfl) (by kernel_rfl) (by kernel_rfl) (fun _ _ _ h => h) rfl ?hy3 hH rfl ?rest3
  case hy3 => (intro W hW; (try dsimp only at hW); go_simp; try with_reducible rfl)
  (try simp only [Act.put, List.setIfInBounds_toArray, List.set_cons_zero, List.set_cons_succ])
  refine takeH (i := 3) (dst := some 24) (v := ?v4) rfl rfl (by kernel_rfl) (by kernel_rfl) (by kernel_rfl) (fun _ _ _ h => h) rfl ?hy4 hH rfl ?rest4
  case hy4 => (intro W hW; (try dsimp only at hW); go_simp; try with_reducible rfl)
  (try simp only [Act.put, List.setIfInBounds_toArray, List.set_cons_zero, List.set_cons_succ])
  refine takeH (i := 5) (dst := some 26) (v := ?v5) rfl rfl (by kernel_rfl) (by kernel_rfl) (by kernel_rfl) (fun _ _ _ h => h) rfl ?hy5 hH rfl ?rest5
  case hy5 => (intro W hW; (try dsimp only at hW); go_simp; try with_reducible rfl)
  (try simp only [Act.put, List.setIfInBounds_toArray, List.set_cons_zero, List.set_cons_succ])
  refine takeH (i := 6) (dst := some 27) (v := ?v6) rfl rfl (by kernel_rfl) (by kernel_rfl) (by kernel_rfl) (fun _ _ _ h => h) rfl ?hy6 hH rfl ?rest6
  case hy6 => (intro W hW; (try dsimp only at hW); go_simp; try with_reducible rfl)
  (try simp only [Act.put, List.setIfInBounds_toArray, List.set_cons_zero, List.set_cons_succ])
  refine takeH (i := 7) (dst := some 28) (v := ?v7) rfl rfl (by kernel_rfl) (by kernel_rfl) (by kernel_rfl) (fun _ _ _ h => h) rfl ?hy7 hH rfl ?rest7
  case hy7 => (intro W hW; (try dsimp only at hW); go_simp; try with_reducible rfl)
  (try simp only [Act.put, List.setIfInBounds_toArray, List.set_cons_zero, List.set_cons_succ])
  refine takeH (i := 10) (dst := some 31) (v := ?v8) rfl rfl (by kernel_rfl) (by kernel_rfl) (by kernel_rfl) (fun _ _ _ h => h) rfl ?hy8 hH rfl ?rest8
  case hy8 => (intro W hW; (try dsimp only at hW); go_simp; try with_reducible rfl)
  (try simp only [Act.put, List.setIfInBounds_toArray, List.set_cons_zero, List.set_cons_succ])
  refine takeH (i := 11) (dst := some 32) (v := ?v9) rfl rfl (by kernel_rfl) (by kernel_rfl) (by kernel_rfl) (fun _ _ _ h => h) rfl ?hy9 hH rfl ?rest9
  case hy9 => (intro W hW; (try dsimp only at hW); go_simp; try with_reducible rfl)
  (try simp only [Act.put, List.setIfInBounds_toArray, List.set_cons_zero, List.set_cons_succ])
  refine takeH (i := 12) (dst := some 33) (v := ?v10) rfl rfl (by kernel_rfl) (by kernel_rfl) (by kernel_rfl) (fun _ _ _ h => h) rfl ?hy10 hH rfl ?rest10
  case hy10 => (intro W hW; (try dsimp only at hW); go_simp; try with_reducible rfl)
  (try simp only [Act.put, List.setIfInBounds_toArray, List.set_cons_zero, List.set_cons_succ])
  refine takeH (i := 16) (dst := some 37) (v := ?v11) rfl rfl (by kernel_rfl) (by kernel_rfl) (by kernel_rfl) (fun _ _ _ h => h) rfl ?hy11 hH rfl ?rest11
  case hy11 => (intro W hW; (try dsimp only at hW); go_simp; try with_reducible rfl)
  (try simp only [Act.put, List.setIfInBounds_toArray, List.set_cons_zero, List.set_cons_succ])
  refine takeH (i := 17) (dst := some 38) (v := ?v12) rfl rfl (by kernel_rfl) (by kernel_rfl) (by kernel_rfl) (fun _ _ _ h => h) rfl ?hy12 hH rfl ?rest12
  case hy12 => (intro W hW; have kb0 := hW.2.1; have kb1 := hW.2.2; clear hW; go_simp; try with_reducible rfl)
  (try simp only [Act.put, List.setIfInBounds_toArray, List.set_cons_zero, List.set_cons_succ])
  refine takeH (i := 18) (dst := some 39) (v := ?v13) rfl rfl (by kernel_rfl) (by kernel_rfl) (by kernel_rfl) (fun _ _ _ h => h) rfl ?hy13 hH rfl ?rest13
  case hy13 => (intro W hW; (try dsimp only at hW); go_simp; try with_reducible rfl)
  (try simp only [Act.put, List.setIfInBounds_toArray, List.set_cons_zero, List.set_cons_succ])
  clear hH
  refine (fun (F1111 : ?TF1111) => ?gF1111) ?pF1111
  case gF1111 =>
   refine (fun (F1110 : ?TF1110) => ?gF1110) ?pF1110
   case gF1110 =>
    refine (fun (F1101 : ?TF1101) => ?gF1101) ?pF1101
    case gF1101 =>
     refine (fun (F1011 : ?TF1011) => ?gF1011) ?pF1011
     case gF1011 =>
      refine (fun (F0111 : ?TF0111) => ?gF0111) ?pF0111
      case gF0111 =>
       refine (fun (F1100 : ?TF1100) => ?gF1100) ?pF1100
       case gF1100 =>
        refine (fun (F1010 : ?TF1010) => ?gF1010) ?pF1010
        case gF1010 =>
         refine (fun (F1001 : ?TF1001) => ?gF1001) ?pF1001
         case gF1001 =>
          refine (fun (F0110 : ?TF0110) => ?gF0110) ?pF0110
          case gF0110 =>
           refine (fun (F0101 : ?TF0101) => ?gF0101) ?pF0101
           case gF0101 =>
            refine (fun (F0011 : ?TF0011) => ?gF0011) ?pF0011
            case gF0011 =>
             refine (fun (F1000 : ?TF1000) => ?gF1000) ?pF1000
             case gF1000 =>
              refine (fun (F0100 : ?TF0100) => ?gF0100) ?pF0100
              case gF0100 =>
               refine (fun (F0010 : ?TF0010) => ?gF0010) ?pF0010
               case gF0010 =>
                refine (fun (F0001 : ?TF0001) => ?gF0001) ?pF0001
                case gF0001 =>
                 have hH := HS0.out
                 refine wpAnyH_ready (rs := [4, 8, 13, 19]) (by kernel_rfl) (by simp) (allH_run (v := .slice ao l.length ca) (w' := W1.drew) (dst := some 25) rfl rfl rfl (run_load rfl rfl LQ0.out) rfl HS0.out ?_ (allH_run (v := .slice ao l.length ca) (w' := W1.drew) (dst := some 29) rfl rfl rfl (run_load rfl rfl LQ0.out) rfl HS0.out ?_ (allH_run (v := .slice ao l.length ca) (w' := W1.drew) (dst := some 34) rfl rfl rfl (run_load rfl rfl LQ0.out) rfl HS0.out ?_ (allH_run (v := .slice (some ⟨W1.heap.size, 0, none⟩) 1 1) (w' := W1.drew.alloc (.cells #[.int .i64 id, .int .i64 K, .int .i64 N] 106)) (dst := some 40) rfl rfl rfl (run_build rfl rfl BS.out) rfl HS6.out ?_ AllReadyH.nil))))
                 · clear hH
                   have hH := HS0.out
                   (try simp only [Act.put, List.setIfInBounds_toArray, List.set_cons_zero, List.set_cons_succ])
                   exact F1000
                 · clear hH
                   have hH := HS0.out
                   (try simp only [Act.put, List.setIfInBounds_toArray, List.set_cons_zero, List.set_cons_succ])
                   refine takeH (i := 9) (dst := some 30) (v := .int .i64 (l.length : Int)) rfl rfl (by kernel_rfl) (by kernel_rfl) (by kernel_rfl) (fun _ _ _ h => h) rfl (fun _ _ => run_lenD rfl rfl) hH rfl ?_
                   (try simp only [Act.put, List.setIfInBounds_toArray, List.set_cons_zero, List.set_cons_succ])
                   exact F0100
                 · clear hH
                   have hH := HS0.out
                   (try simp only [Act.put, List.setIfInBounds_toArray, List.set_cons_zero, List.set_cons_succ])
                   refine takeH (i := 14) (dst := some 35) (v := .int .i64 (l.length : Int)) rfl rfl (by kernel_rfl) (by kernel_rfl) (by kernel_rfl) (fun _ _ _ h => h) rfl (fun _ _ => run_lenD rfl rfl) hH rfl ?_
                   (try simp only [Act.put, List.setIfInBounds_toArray, List.set_cons_zero, List.set_cons_succ])
                   exact F0010
                 · clear hH
                   have hH := HS6.out
                   (try simp only [Act.put, List.setIfInBounds_toArray, List.set_cons_zero, List.set_cons_succ])
                   exact F0001
                case pF0001 =>
                 have hH := HS6.out
                 refine wpAnyH_ready (rs := [4, 8, 13]) (by kernel_rfl) (by simp) (allH_run (v := .slice ao l.length ca) (w' := (W1.drew.alloc (.cells #[.int .i64 id, .int .i64 K, .int .i64 N] 106))) (dst := some 25) rfl rfl rfl (run_load rfl rfl LQ6.out) rfl HS6.out ?_ (allH_run (v := .slice ao l.length ca) (w' := (W1.drew.alloc (.cells #[.int .i64 id, .int .i64 K, .int .i64 N] 106))) (dst := some 29) rfl rfl rfl (run_load rfl rfl LQ6.out) rfl HS6.out ?_ (allH_run (v := .slice ao l.length ca) (w' := (W1.drew.alloc (.cells #[.int .i64 id, .int .i64 K, .int .i64 N] 106))) (dst := some 34) rfl rfl rfl (run_load rfl rfl LQ6.out) rfl HS6.out ?_ AllReadyH.nil)))
                 · clear hH
                   have hH := HS6.out
                   (try simp only [Act.put, List.setIfInBounds_toArray, List.set_cons_zero, List.set_cons_succ])
                   exact F1001
                 · clear hH
                   have hH := HS6.out
                   (try simp only [Act.put, List.setIfInBounds_toArray, List.set_cons_zero, List.set_cons_succ])
                   refine takeH (i := 9) (dst := some 30) (v := .int .i64 (l.length : Int)) rfl rfl (by kernel_rfl) (by kernel_rfl) (by kernel_rfl) (fun _ _ _ h => h) rfl (fun _ _ => run_lenD rfl rfl) hH rfl ?_
                   (try simp only [Act.put, List.setIfInBounds_toArray, List.set_cons_zero, List.set_cons_succ])
                   exact F0101
                 · clear hH
                   have hH := HS6.out
                   (try simp only [Act.put, List.setIfInBounds_toArray, List.set_cons_zero, List.set_cons_succ])
                   refine takeH (i := 14) (dst := some 35) (v := .int .i64 (l.length : Int)) rfl rfl (by kernel_rfl) (by kernel_rfl) (by kernel_rfl) (fun _ _ _ h => h) rfl (fun _ _ => run_lenD rfl rfl) hH rfl ?_
                   (try simp only [Act.put, List.setIfInBounds_toArray, List.set_cons_zero, List.set_cons_succ])
                   exact F0011
               case pF0010 =>
                have hH := HS0.out
                refine wpAnyH_ready (rs := [4, 8, 19]) (by kernel_rfl) (by simp) (allH_run (v := .slice ao l.length ca) (w' := W1.drew) (dst := some 25) rfl rfl rfl (run_load rfl rfl LQ0.out) rfl HS0.out ?_ (allH_run (v := .slice ao l.length ca) (w' := W1.drew) (dst := some 29) rfl rfl rfl (run_load rfl rfl LQ0.out) rfl HS0.out ?_ (allH_run (v := .slice (some ⟨W1.heap.size, 0, none⟩) 1 1) (w' := W1.drew.alloc (.cells #[.int .i64 id, .int .i64 K, .int .i64 N] 106)) (dst := some 40) rfl rfl rfl (run_build rfl rfl BS.out) rfl HS6.out ?_ AllReadyH.nil)))
                · clear hH
                  have hH := HS0.out
                  (try simp only [Act.put, List.setIfInBounds_toArray, List.set_cons_zero, List.set_cons_succ])
                  exact F1010
                · clear hH
                  have hH := HS0.out
                  (try simp only [Act.put, List.setIfInBounds_toArray, List.set_cons_zero, List.set_cons_succ])
                  refine takeH (i := 9) (dst := some 30) (v := .int .i64 (l.length : Int)) rfl rfl (by kernel_rfl) (by kernel_rfl) (by kernel_rfl) (fun _ _ _ h => h) rfl (fun _ _ => run_lenD rfl rfl) hH rfl ?_
                  (try simp only [Act.put, List.setIfInBounds_toArray, List.set_cons_zero, List.set_cons_succ])
                  exact F0110
                · clear hH
                  have hH := HS6.out
                  (try simp only [Act.put, List.setIfInBounds_toArray, List.set_cons_zero, List.set_cons_succ])
                  exact F0011
              case pF0100 =>
               have hH := HS0.out
               refine wpAnyH_ready (rs := [4, 13, 19]) (by kernel_rfl) (by simp) (allH_run (v := .slice ao l.length ca) (w' := W1.drew) (dst := some 25) rfl rfl rfl (run_load rfl rfl LQ0.out) rfl HS0.out ?_ (allH_run (v := .slice ao l.length ca) (w' := W1.drew) (dst := some 34) rfl rfl rfl (run_load rfl rfl LQ0.out) rfl HS0.out ?_ (allH_run (v := .slice (some ⟨W1.heap.size, 0, none⟩) 1 1) (w' := W1.drew.alloc (.cells #[.int .i64 id, .int .i64 K, .int .i64 N] 106)) (dst := some 40) rfl rfl rfl (run_build rfl rfl BS.out) rfl HS6.out ?_ AllReadyH.nil)))
               · clear hH
                 have hH := HS0.out
                 (try simp only [Act.put, List.setIfInBounds_toArray, List.set_cons_zero, List.set_cons_succ])
                 exact F1100
               · clear hH
                 have hH := HS0.out
                 (try simp only [Act.put, List.setIfInBounds_toArray, List.set_cons_zero, List.set_cons_succ])
                 refine takeH (i := 14) (dst := some 35) (v := .int .i64 (l.length : Int)) rfl rfl (by kernel_rfl) (by kernel_rfl) (by kernel_rfl) (fun _ _ _ h => h) rfl (fun _ _ => run_lenD rfl rfl) hH rfl ?_
                 (try simp only [Act.put, List.setIfInBounds_toArray, List.set_cons_zero, List.set_cons_succ])
                 exact F0110
               · clear hH
                 have hH := HS6.out
                 (try simp only [Act.put, List.setIfInBounds_toArray, List.set_cons_zero, List.set_cons_succ])
                 exact F0101
             case pF1000 =>
              have hH := HS0.out
              refine wpAnyH_ready (rs := [8, 13, 19]) (by kernel_rfl) (by simp) (allH_run (v := .slice ao l.length ca) (w' := W1.drew) (dst := some 29) rfl rfl rfl (run_load rfl rfl LQ0.out) rfl HS0.out ?_ (allH_run (v := .slice ao l.length ca) (w' := W1.drew) (dst := some 34) rfl rfl rfl (run_load rfl rfl LQ0.out) rfl HS0.out ?_ (allH_run (v := .slice (some ⟨W1.heap.size, 0, none⟩) 1 1) (w' := W1.drew.alloc (.cells #[.int .i64 id, .int .i64 K, .int .i64 N] 106)) (dst := some 40) rfl rfl rfl (run_build rfl rfl BS.out) rfl HS6.out ?_ AllReadyH.nil)))
              · clear hH
                have hH := HS0.out
                (try simp only [Act.put, List.setIfInBounds_toArray, List.set_cons_zero, List.set_cons_succ])
                refine takeH (i := 9) (dst := some 30) (v := .int .i64 (l.length : Int)) rfl rfl (by kernel_rfl) (by kernel_rfl) (by kernel_rfl) (fun _ _ _ h => h) rfl (fun _ _ => run_lenD rfl rfl) hH rfl ?_
                (try simp only [Act.put, List.setIfInBounds_toArray, List.set_cons_zero, List.set_cons_succ])
                exact F1100
              · clear hH
                have hH := HS0.out
                (try simp only [Act.put, List.setIfInBounds_toArray, List.set_cons_zero, List.set_cons_succ])
                refine takeH (i := 14) (dst := some 35) (v := .int .i64 (l.length : Int)) rfl rfl (by kernel_rfl) (by kernel_rfl) (by kernel_rfl) (fun _ _ _ h => h) rfl (fun _ _ => run_lenD rfl rfl) hH rfl ?_
                (try simp only [Act.put, List.setIfInBounds_toArray, List.set_cons_zero, List.set_cons_succ])
                exact F1010
              · clear hH
                have hH := HS6.out
                (try simp only [Act.put, List.setIfInBounds_toArray, List.set_cons_zero, List.set_cons_succ])
                exact F1001
            case pF0011 =>
             have hH := HS6.out
             refine wpAnyH_ready (rs := [4, 8]) (by kernel_rfl) (by simp) (allH_run (v := .slice ao l.length ca) (w' := (W1.drew.alloc (.cells #[.int .i64 id, .int .i64 K, .int .i64 N] 106))) (dst := some 25) rfl rfl rfl (run_load rfl rfl LQ6.out) rfl HS6.out ?_ (allH_run (v := .slice ao l.length ca) (w' := (W1.drew.alloc (.cells #[.int .i64 id, .int .i64 K, .int .i64 N] 106))) (dst := some 29) rfl rfl rfl (run_load rfl rfl LQ6.out) rfl HS6.out ?_ AllReadyH.nil))
             · clear hH
               have hH := HS6.out
               (try simp only [Act.put, List.setIfInBounds_toArray, List.set_cons_zero, List.set_cons_succ])
               exact F1011
             · clear hH
               have hH := HS6.out
               (try simp only [Act.put, List.setIfInBounds_toArray, List.set_cons_zero, List.set_cons_succ])
               refine takeH (i := 9) (dst := some 30) (v := .int .i64 (l.length : Int)) rfl rfl (by kernel_rfl) (by kernel_rfl) (by kernel_rfl) (fun _ _ _ h => h) rfl (fun _ _ => run_lenD rfl rfl) hH rfl ?_
               (try simp only [Act.put, List.setIfInBounds_toArray, List.set_cons_zero, List.set_cons_succ])
               exact F0111
           case pF0101 =>
            have hH := HS6.out
            refine wpAnyH_ready (rs := [4, 13]) (by kernel_rfl) (by simp) (allH_run (v := .slice ao l.length ca) (w' := (W1.drew.alloc (.cells #[.int .i64 id, .int .i64 K, .int .i64 N] 106))) (dst := some 25) rfl rfl rfl (run_load rfl rfl LQ6.out) rfl HS6.out ?_ (allH_run (v := .slice ao l.length ca) (w' := (W1.drew.alloc (.cells #[.int .i64 id, .int .i64 K, .int .i64 N] 106))) (dst := some 34) rfl rfl rfl (run_load rfl rfl LQ6.out) rfl HS6.out ?_ AllReadyH.nil))
            · clear hH
              have hH := HS6.out
              (try simp only [Act.put, List.setIfInBounds_toArray, List.set_cons_zero, List.set_cons_succ])
              exact F1101
            · clear hH
              have hH := HS6.out
              (try simp only [Act.put, List.setIfInBounds_toArray, List.set_cons_zero, List.set_cons_succ])
              refine takeH (i := 14) (dst := some 35) (v := .int .i64 (l.length : Int)) rfl rfl (by kernel_rfl) (by kernel_rfl) (by kernel_rfl) (fun _ _ _ h => h) rfl (fun _ _ => run_lenD rfl rfl) hH rfl ?_
              (try simp only [Act.put, List.setIfInBounds_toArray, List.set_cons_zero, List.set_cons_succ])
              exact F0111
          case pF0110 =>
           have hH := HS0.out
           refine wpAnyH_ready (rs := [4, 19]) (by kernel_rfl) (by simp) (allH_run (v := .slice ao l.length ca) (w' := W1.drew) (dst := some 25) rfl rfl rfl (run_load rfl rfl LQ0.out) rfl HS0.out ?_ (allH_run (v := .slice (some ⟨W1.heap.size, 0, none⟩) 1 1) (w' := W1.drew.alloc (.cells #[.int .i64 id, .int .i64 K, .int .i64 N] 106)) (dst := some 40) rfl rfl rfl (run_build rfl rfl BS.out) rfl HS6.out ?_ AllReadyH.nil))
           · clear hH
             have hH := HS0.out
             (try simp only [Act.put, List.setIfInBounds_toArray, List.set_cons_zero, List.set_cons_succ])
             refine takeH (i := 15) (dst := some 36) (v := .slice ao l.length l.length) rfl rfl (by kernel_rfl) (by kernel_rfl) (by kernel_rfl) (fun _ _ _ h => h) rfl (fun _ _ => run_slice3D rfl rfl rfl rfl hlca HNE.out) hH rfl ?_
             (try simp only [Act.put, List.setIfInBounds_toArray, List.set_cons_zero, List.set_cons_succ])
             exact F1110
           · clear hH
             have hH := HS6.out
             (try simp only [Act.put, List.setIfInBounds_toArray, List.set_cons_zero, List.set_cons_succ])
             exact F0111
         case pF1001 =>
          have hH := HS6.out
          refine wpAnyH_ready (rs := [8, 13]) (by kernel_rfl) (by simp) (allH_run (v := .slice ao l.length ca) (w' := (W1.drew.alloc (.cells #[.int .i64 id, .int .i64 K, .int .i64 N] 106))) (dst := some 29) rfl rfl rfl (run_load rfl rfl LQ6.out) rfl HS6.out ?_ (allH_run (v := .slice ao l.length ca) (w' := (W1.drew.alloc (.cells #[.int .i64 id, .int .i64 K, .int .i64 N] 106))) (dst := some 34) rfl rfl rfl (run_load rfl rfl LQ6.out) rfl HS6.out ?_ AllReadyH.nil))
          · clear hH
            have hH := HS6.out
            (try simp only [Act.put, List.setIfInBounds_toArray, List.set_cons_zero, List.set_cons_succ])
            refine takeH (i := 9) (dst := some 30) (v := .int .i64 (l.length : Int)) rfl rfl (by kernel_rfl) (by kernel_rfl) (by kernel_rfl) (fun _ _ _ h => h) rfl (fun _ _ => run_lenD rfl rfl) hH rfl ?_
            (try simp only [Act.put, List.setIfInBounds_toArray, List.set_cons_zero, List.set_cons_succ])
            exact F1101
          · clear hH
            have hH := HS6.out
            (try simp only [Act.put, List.setIfInBounds_toArray, List.set_cons_zero, List.set_cons_succ])
            refine takeH (i := 14) (dst := some 35) (v := .int .i64 (l.length : Int)) rfl rfl (by kernel_rfl) (by kernel_rfl) (by kernel_rfl) (fun _ _ _ h => h) rfl (fun _ _ => run_lenD rfl rfl) hH rfl ?_
            (try simp only [Act.put, List.setIfInBounds_toArray, List.set_cons_zero, List.set_cons_succ])
            exact F1011
        case pF1010 =>
         have hH := HS0.out
         refine wpAnyH_ready (rs := [8, 19]) (by kernel_rfl) (by simp) (allH_run (v := .slice ao l.length ca) (w' := W1.drew) (dst := some 29) rfl rfl rfl (run_load rfl rfl LQ0.out) rfl HS0.out ?_ (allH_run (v := .slice (some ⟨W1.heap.size, 0, none⟩) 1 1) (w' := W1.drew.alloc (.cells #[.int .i64 id, .int .i64 K, .int .i64 N] 106)) (dst := some 40) rfl rfl rfl (run_build rfl rfl BS.out) rfl HS6.out ?_ AllReadyH.nil))
         · clear hH
           have hH := HS0.out
           (try simp only [Act.put, List.setIfInBounds_toArray, List.set_cons_zero, List.set_cons_succ])
           refine takeH (i := 9) (dst := some 30) (v := .int .i64 (l.length : Int)) rfl rfl (by kernel_rfl) (by kernel_rfl) (by kernel_rfl) (fun _ _ _ h => h) rfl (fun _ _ => run_lenD rfl rfl) hH rfl ?_
           (try simp only [Act.put, List.setIfInBounds_toArray, List.set_cons_zero, List.set_cons_succ])
           refine takeH (i := 15) (dst := some 36) (v := .slice ao l.length l.length) rfl rfl (by kernel_rfl) (by kernel_rfl) (by kernel_rfl) (fun _ _ _ h => h) rfl (fun _ _ => run_slice3D rfl rfl rfl rfl hlca HNE.out) hH rfl ?_
           (try simp only [Act.put, List.setIfInBounds_toArray, List.set_cons_zero, List.set_cons_succ])
           exact F1110
         · clear hH
           have hH := HS6.out
           (try simp only [Act.put, List.setIfInBounds_toArray, List.set_cons_zero, List.set_cons_succ])
           exact F1011
       case pF1100 =>
        have hH := HS0.out
        refine wpAnyH_ready (rs := [13, 19]) (by kernel_rfl) (by simp) (allH_run (v := .slice ao l.length ca) (w' := W1.drew) (dst := some 34) rfl rfl rfl (run_load rfl rfl LQ0.out) rfl HS0.out ?_ (allH_run (v := .slice (some ⟨W1.heap.size, 0, none⟩) 1 1) (w' := W1.drew.alloc (.cells #[.int .i64 id, .int .i64 K, .int .i64 N] 106)) (dst := some 40) rfl rfl rfl (run_build rfl rfl BS.out) rfl HS6.out ?_ AllReadyH.nil))
        · clear hH
          have hH := HS0.out
          (try simp only [Act.put, List.setIfInBounds_toArray, List.set_cons_zero, List.set_cons_succ])
          refine takeH (i := 14) (dst := some 35) (v := .int .i64 (l.length : Int)) rfl rfl (by kernel_rfl) (by kernel_rfl) (by kernel_rfl) (fun _ _ _ h => h) rfl (fun _ _ => run_lenD rfl rfl) hH rfl ?_
          (try simp only [Act.put, List.setIfInBounds_toArray, List.set_cons_zero, List.set_cons_succ])
          refine takeH (i := 15) (dst := some 36) (v := .slice ao l.length l.length) rfl rfl (by kernel_rfl) (by kernel_rfl) (by kernel_rfl) (fun _ _ _ h => h) rfl (fun _ _ => run_slice3D rfl rfl rfl rfl hlca HNE.out) hH rfl ?_
          (try simp only [Act.put, List.setIfInBounds_toArray, List.set_cons_zero, List.set_cons_succ])
          exact F1110
        · clear hH
          have hH := HS6.out
          (try simp only [Act.put, List.setIfInBounds_toArray, List.set_cons_zero, List.set_cons_succ])
          exact F1101
      case pF0111 =>
       have hH := HS6.out
       refine wpAnyH_ready (rs := [4]) (by kernel_rfl) (by simp) (allH_run (v := .slice ao l.length ca) (w' := (W1.drew.alloc (.cells #[.int .i64 id, .int .i64 K, .int .i64 N] 106))) (dst := some 25) rfl rfl rfl (run_load rfl rfl LQ6.out) rfl HS6.out ?_ AllReadyH.nil)
       · clear hH
         have hH := HS6.out
         (try simp only [Act.put, List.setIfInBounds_toArray, List.set_cons_zero, List.set_cons_succ])
         refine takeH (i := 15) (dst := some 36) (v := .slice ao l.length l.length) rfl rfl (by kernel_rfl) (by kernel_rfl) (by kernel_rfl) (fun _ _ _ h => h) rfl (fun _ _ => run_slice3D rfl rfl rfl rfl hlca HNE.out) hH rfl ?_
         (try simp only [Act.put, List.setIfInBounds_toArray, List.set_cons_zero, List.set_cons_succ])
         exact F1111
     case pF1011 =>
      have hH := HS6.out
      refine wpAnyH_ready (rs := [8]) (by kernel_rfl) (by simp) (allH_run (v := .slice ao l.length ca) (w' := (W1.drew.alloc (.cells #[.int .i64 id, .int .i64 K, .int .i64 N] 106))) (dst := some 29) rfl rfl rfl (run_load rfl rfl LQ6.out) rfl HS6.out ?_ AllReadyH.nil)
      · clear hH
        have hH := HS6.out
        (try simp only [Act.put, List.setIfInBounds_toArray, List.set_cons_zero, List.set_cons_succ])
        refine takeH (i := 9) (dst := some 30) (v := .int .i64 (l.length : Int)) rfl rfl (by kernel_rfl) (by kernel_rfl) (by kernel_rfl) (fun _ _ _ h => h) rfl (fun _ _ => run_lenD rfl rfl) hH rfl ?_
        (try simp only [Act.put, List.setIfInBounds_toArray, List.set_cons_zero, List.set_cons_succ])
        refine takeH (i := 15) (dst := some 36) (v := .slice ao l.length l.length) rfl rfl (by kernel_rfl) (by kernel_rfl) (by kernel_rfl) (fun _ _ _ h => h) rfl (fun _ _ => run_slice3D rfl rfl rfl rfl hlca HNE.out) hH rfl ?_
        (try simp only [Act.put, List.setIfInBounds_toArray, List.set_cons_zero, List.set_cons_succ])
        exact F1111
    case pF1101 =>
     have hH := HS6.out
     refine wpAnyH_ready (rs := [13]) (by kernel_rfl) (by simp) (allH_run (v := .slice ao l.length ca) (w' := (W1.drew.alloc (.cells #[.int .i64 id, .int .i64 K, .int .i64 N] 106))) (dst := some 34) rfl rfl rfl (run_load rfl rfl LQ6.out) rfl HS6.out ?_ AllReadyH.nil)
     · clear hH
       have hH := HS6.out
       (try simp only [Act.put, List.setIfInBounds_toArray, List.set_cons_zero, List.set_cons_succ])
       refine takeH (i := 14) (dst := some 35) (v := .int .i64 (l.length : Int)) rfl rfl (by kernel_rfl) (by kernel_rfl) (by kernel_rfl) (fun _ _ _ h => h) rfl (fun _ _ => run_lenD rfl rfl) hH rfl ?_
       (try simp only [Act.put, List.setIfInBounds_toArray, List.set_cons_zero, List.set_cons_succ])
       refine takeH (i := 15) (dst := some 36) (v := .slice ao l.length l.length) rfl rfl (by kernel_rfl) (by kernel_rfl) (by kernel_rfl) (fun _ _ _ h => h) rfl (fun _ _ => run_slice3D rfl rfl rfl rfl hlca HNE.out) hH rfl ?_
       (try simp only [Act.put, List.setIfInBounds_toArray, List.set_cons_zero, List.set_cons_succ])
       exact F1111
   case pF1110 =>
    have hH := HS0.out
    refine wpAnyH_ready (rs := [19]) (by kernel_rfl) (by simp) (allH_run (v := .slice (some ⟨W1.heap.size, 0, none⟩) 1 1) (w' := W1.drew.alloc (.cells #[.int .i64 id, .int .i64 K, .int .i64 N] 106)) (dst := some 40) rfl rfl rfl (run_build rfl rfl BS.out) rfl HS6.out ?_ AllReadyH.nil)
    · clear hH
      have hH := HS6.out
      (try simp only [Act.put, List.setIfInBounds_toArray, List.set_cons_zero, List.set_cons_succ])
      exact F1111
  case pF1111 =>
   have hH := HS6.out
   refine readyH (i := 20) (v := .slice (some ⟨G, 0, none⟩) (l.length + 1) cap) (w' := W7) (dst := some 41) (by kernel_rfl) rfl rfl rfl (run_appT rfl rfl rfl rfl HAPP.out) rfl HS7.out ?_
   (try simp only [Act.put, List.setIfInBounds_toArray, List.set_cons_zero, List.set_cons_succ])
   clear hH
   have hH := HS7.out
   refine takeH (i := 21) (dst := some 42) (v := ?v14) rfl rfl (by kernel_rfl) (by kernel_rfl) (by kernel_rfl) (fun _ _ _ h => h) rfl ?hy14 hH rfl ?rest14
   case hy14 => (intro W hW; (try dsimp only at hW); go_simp; try with_reducible rfl)
   (try simp only [Act.put, List.setIfInBounds_toArray, List.set_cons_zero, List.set_cons_succ])
   refine takeH (i := 22) (dst := some 43) (v := ?v15) rfl rfl (by kernel_rfl) (by kernel_rfl) (by kernel_rfl) (fun _ _ _ h => h) rfl ?hy15 hH rfl ?rest15
   case hy15 => (intro W hW; (try dsimp only at hW); go_simp; try with_reducible rfl)
   (try simp only [Act.put, List.setIfInBounds_toArray, List.set_cons_zero, List.set_cons_succ])
   refine callH (i := 23) { dst := none, op := Go.Op.store 87 (Go.Operand.tmp 43) (Go.Operand.tmp 41), type := 0, pos := "ref.go:32", after := #[{ on := 22, ground := Go.Ground.data }, { on := 20, ground := Go.Ground.data }, { on := 20, ground := Go.Ground.chain }, { on := 0, ground := Go.Ground.phase }, { on := 1, ground := Go.Ground.phase }, { on := 2, ground := Go.Ground.phase }, { on := 3, ground := Go.Ground.phase }, { on := 4, ground := Go.Ground.phase }, { on := 5, ground := Go.Ground.phase }, { on := 6, ground := Go.Ground.phase }, { on := 7, ground := Go.Ground.phase }, { on := 8, ground := Go.Ground.phase }, { on := 9, ground := Go.Ground.phase }, { on := 10, ground := Go.Ground.phase }, { on := 11, ground := Go.Ground.phase }, { on := 12, ground := Go.Ground.phase }, { on := 13, ground := Go.Ground.phase }, { on := 14, ground := Go.Ground.phase }, { on := 15, ground := Go.Ground.phase }, { on := 16, ground := Go.Ground.phase }, { on := 17, ground := Go.Ground.phase }, { on := 18, ground := Go.Ground.phase }, { on := 19, ground := Go.Ground.phase }, { on := 20, ground := Go.Ground.phase }], guard := none } (by kernel_rfl) rfl rfl (fun K hK => ?_)
   go_simp
   clear hH
   refine hK.out _ _ HSX.out (fun hH => ?_)
   clear hK K
   (try simp only [Act.put])
   refine wpAnyH_done (by kernel_rfl) ?_ _
   clear hH
   go_wp2_with fail
   go_ret
   exact ⟨rfl, _, HFIN.out⟩
set_option maxHeartbeats 2000000 in
theorem wdlater_bad (w : World) (q : Nat) (id K N : Int) (hK : K < 1 ∨ 3 < K) :
    Calls Tryz.prog 50 #[.pointer (some ⟨q, 0, none⟩), .int .i64 id, .agg #[.int .i64 K, .int .i64 N]] w fun e w' => e = .returned (.int .i64 1) ∧ Below w.heap.size w w' := by
  have HB1 : Hid (Below w.heap.size w (w.alloc (.cells #[.int .i64 K, .int .i64 N] 91))) := (Below.refl _ _).alloc (Nat.le_refl _) _
  by_cases hK1 : K < 1
  · go_enter Tryz.func50, Tryz.ntmps50
    go_wp2
    go_ret
    exact ⟨rfl, HB1.out⟩
  · have hK2 : 3 < K := by omega
    go_enter Tryz.func50, Tryz.ntmps50
    go_wp2
    go_ret
    exact ⟨rfl, HB1.out⟩
end
end Go.Proofs.YthaogbbclocmaaaGreat
/- Package push: List, and what waits. -/
namespace Go.Proofs.YthaogbbclocmaaaGreat
open Go.RowKit
set_option maxRecDepth 100000
/-- The cells of acts. -/
def acL (x : Int × Int) : List Value := [.int .i64 x.1, .int .i64 x.2]
def acs (m : List (Int × Int)) : List Value := m.flatMap acL
theorem acs_get {m : List (Int × Int)} {i : Nat} {x : Int × Int} (h : m[i]? = some x) {j : Nat} (hj : j < 2) : (acs m)[i * 2 + j]? = (acL x)[j]? := by
  induction m generalizing i with
  | nil => cases h
  | cons a m ih =>
    have e : acs (a :: m) = acL a ++ acs m := rfl
    rw [e]
    cases i with
    | zero =>
      cases h
      rw [List.getElem?_append_left (by show _ < 2; omega)]
      congr 1; omega
    | succ i =>
      rw [List.getElem?_append_right (by show 2 ≤ _; omega)]
      rw [show (i + 1) * 2 + j - (acL a).length = i * 2 + j by show _ - 2 = _; omega]
      exact ih (by simpa using h)
theorem acs_snoc (m : List (Int × Int)) (x : Int × Int) : acs (m ++ [x]) = acs m ++ acL x := by unfold acs; rw [List.flatMap_append]; simp
theorem acs_set (m : List (Int × Int)) (i : Nat) (hi : i < m.length) (a b : Int) : ((acs m).set (i * 2) (.int .i64 a)).set (i * 2 + 1) (.int .i64 b) = acs (m.set i (a, b)) := by
  induction m generalizing i with
  | nil => cases hi
  | cons y m ih =>
    have e : ∀ (y : Int × Int) (m : List (Int × Int)), acs (y :: m) = .int .i64 y.1 :: .int .i64 y.2 :: acs m := fun _ _ => rfl
    cases i with
    | zero => rfl
    | succ i =>
      rw [e, List.set_cons_succ, e, ← ih i (by simpa using hi)]
      rw [show (i + 1) * 2 = i * 2 + 1 + 1 by omega]
      rfl
theorem acs_set1 (m : List (Int × Int)) (i : Nat) (x : Int × Int) (h : m[i]? = some x) (b : Int) : (acs m).set (i * 2 + 1) (.int .i64 b) = acs (m.set i (x.1, b)) := by
  rw [← acs_set m i (List.getElem?_eq_some_iff.1 h).1 x.1 b]
  congr 1
  have h0 := acs_get h (j := 0) (by omega)
  rw [Nat.add_zero] at h0
  have : (acs m)[i * 2]? = some (.int .i64 x.1) := h0
  obtain ⟨hl, e⟩ := List.getElem?_eq_some_iff.1 this
  rw [← e]
  simp
/-- A row of acts in block g. -/
def RowP (w : World) (g : Nat) (m : List (Int × Int)) : Prop := w.heap[g]? = some (.cells (acs m).toArray 95 (0, 0))
theorem RowP.lt {w : World} {g : Nat} {m : List (Int × Int)} (h : RowP w g m) : g < w.heap.size := (Array.getElem?_eq_some_iff.1 h).1
theorem RowP.fr {w w' : World} {g : Nat} {m : List (Int × Int)} (h : RowP w g m) {S : Nat → Prop} (hf : Fr S w w') (hS : ¬ S g) : RowP w' g m := (hf.blk g h.lt hS).trans h
theorem RowP.up {w w' : World} {g : Nat} {m : List (Int × Int)} (h : RowP w g m) (hb : Below w.heap.size w w') : RowP w' g m := h.fr (S := fun _ => False) (Fr.of_below hb) id
theorem RowP.cells {w : World} {g : Nat} {m : List (Int × Int)} (h : RowP w g m) {i : Nat} {x : Int × Int} (hx : m[i]? = some x) : w.cell? ⟨g, i * 2, none⟩ = some (.int .i64 x.1) ∧ w.cell? ⟨g, i * 2 + 1, none⟩ = some (.int .i64 x.2) := by
  constructor
  · refine (cell_of_row _ _ _ _ _ _ h).trans ?_
    rw [List.getElem?_toArray]
    have := acs_get hx (j := 0) (by omega)
    rw [Nat.add_zero] at this
    exact this
  · refine (cell_of_row _ _ _ _ _ _ h).trans ?_
    rw [List.getElem?_toArray]
    exact acs_get hx (j := 1) (by omega)
theorem RowP.frozen {w : World} {g : Nat} {m : List (Int × Int)} (h : RowP w g m) (j : Nat) : w.frozen? ⟨g, j, none⟩ = false := frozen_of_row _ _ _ _ _ h
theorem RowP.set {w : World} {g : Nat} {m : List (Int × Int)} (h : RowP w g m) (i : Nat) (hi : i < m.length) (a b : Int) : RowP ((w.setCell ⟨g, i * 2, none⟩ (.int .i64 a)).setCell ⟨g, i * 2 + 1, none⟩ (.int .i64 b)) g (m.set i (a, b)) := by
  have h1 := heap_setCell_same w g (i * 2) _ _ (.int .i64 a) h
  have h2 := heap_setCell_same _ g (i * 2 + 1) _ _ (.int .i64 b) h1
  unfold RowP
  rw [h2, ← acs_set m i hi a b]
  simp
theorem RowP.set1 {w : World} {g : Nat} {m : List (Int × Int)} (h : RowP w g m) {i : Nat} {x : Int × Int} (hx : m[i]? = some x) (b : Int) : RowP (w.setCell ⟨g, i * 2 + 1, none⟩ (.int .i64 b)) g (m.set i (x.1, b)) := by
  have h1 := heap_setCell_same w g (i * 2 + 1) _ _ (.int .i64 b) h
  unfold RowP
  rw [h1, ← acs_set1 m i x hx b]
  simp
theorem acs_zero (n : Nat) : acs (List.replicate n (0, 0)) = List.replicate (n * 2) (Value.int .i64 0) := by
  induction n with
  | zero => rfl
  | succ n ih =>
    have e : acs (List.replicate (n + 1) (0, 0)) = .int .i64 0 :: .int .i64 0 :: acs (List.replicate n (0, 0)) := rfl
    rw [e, ih, show (n + 1) * 2 = n * 2 + 1 + 1 by omega, List.replicate_succ, List.replicate_succ]
theorem Tryz.infoAz : (Tryz.prog.info? 95).map (fun i => (i.zero.map fun z => z.cells, i.size, i.bytes)) = some (some #[.int .i64 0, .int .i64 0], 2, 16) := by kernel_rfl
theorem make_acts (w : World) (n : Nat) (hn : n ≤ 1000000) :
    (Instr.makeSlice 101 (.int .i64 (n : Int)) (.int .i64 (n : Int))).run Tryz.prog w = .ok (.slice (some ⟨w.heap.size, 0, none⟩) n n) (w.alloc (.cells (acs (List.replicate n (0, 0))).toArray 95)) := by
  have h := Tryz.infoAz
  cases hi : Tryz.prog.info? 95 with
  | none => rw [hi] at h; cases h
  | some i0 =>
    rw [hi] at h
    simp only [Option.map_some, Option.some.injEq, Prod.mk.injEq] at h
    cases hz : i0.zero with
    | none => rw [hz] at h; cases h.1
    | some z =>
      rw [hz] at h
      have hzc : z.cells = #[.int .i64 0, .int .i64 0] := Option.some.inj h.1
      have hh := run_make (P := Tryz.prog) w 101 95 i0 z Tryz.underlying101 hi hz .i64 .i64 (n : Int) (n : Int) (by omega) (by omega) (by rw [h.2.2]; omega) (by omega)
      rw [hh]
      congr 3
      have e : madeCells z.cells ((n : Int).toNat * i0.size) = (acs (List.replicate n (0, 0))).toArray := by
        rw [hzc, h.2.1, Int.toNat_natCast, acs_zero]
        apply Array.ext
        · simp [size_madeCells]
        · intro i h1 h2
          simp [madeCells]
          have : i % 2 = 0 ∨ i % 2 = 1 := by omega
          rcases this with e | e <;> rw [e] <;> rfl
      rw [e]
/-- The acts of what waits. -/
def act (x : Wt) : Int × Int := (x.K, x.N)
theorem fill_next {l : List Wt} {k : Nat} {x : Wt} (h : l[k]? = some x) : ((l.take k).map act ++ List.replicate (l.length - k) (0, 0)).set k (x.K, x.N) = (l.take (k + 1)).map act ++ List.replicate (l.length - (k + 1)) (0, 0) := by
  have hk := (List.getElem?_eq_some_iff.1 h).1
  rw [List.take_add_one, h, show l.length - k = l.length - (k + 1) + 1 by omega, List.replicate_succ]
  rw [List.set_append_right _ _ (by simp; omega)]
  simp [Nat.min_eq_left (Nat.le_of_lt hk), act]
section
variable {w : World} {base q : Nat} {v : Value} {l : List Wt}
theorem lie_at {ao : Option Addr} {i : Nat} {x : Wt} (h : Lie w ao (wts l)) (hx : l[i]? = some x) : ∃ g o, ao = some ⟨g, o, none⟩ ∧ g < w.heap.size ∧ w.cell? ⟨g, o + i * 3, none⟩ = some (.int .i64 x.K) ∧ w.cell? ⟨g, o + i * 3 + 1, none⟩ = some (.int .i64 x.N) ∧ w.cell? ⟨g, o + i * 3 + 2, none⟩ = some (.int .i64 x.id) := by
  rcases h with h | ⟨g, o, e, hg, hc⟩
  · have := wts_get hx (j := 0) (by omega)
    rw [h] at this; cases this
  · have c : ∀ j u, j < 3 → (wtL x)[j]? = some u → w.cell? ⟨g, o + (i * 3 + j), none⟩ = some u := fun j u hj hu => hc _ u ((wts_get hx hj).trans hu)
    refine ⟨g, o, e, hg, ?_, ?_, ?_⟩
    · have := c 0 _ (by omega) rfl; rwa [Nat.add_zero] at this
    · have := c 1 _ (by omega) rfl; rwa [← Nat.add_assoc] at this
    · have := c 2 _ (by omega) rfl; rwa [← Nat.add_assoc] at this
set_option maxHeartbeats 4000000 in
theorem wglist_any (h : WkG w base q v l) (hl : l.length ≤ 1000) :
    Calls Tryz.prog 57 #[.pointer (some ⟨q, 0, none⟩)] w fun e w' => ∃ g, e = .returned (.slice (some ⟨g, 0, none⟩) l.length l.length) ∧ RowP w' g (l.map act) ∧ w.heap.size ≤ g ∧ Below w.heap.size w w' := by
  have LE := wglen_any h
  have HH : Hid (WkG w base q v l) := h
  have MK := make_acts w l.length (by omega)
  obtain ⟨ao, ca, hv, hlie, hca1, hca2, hform⟩ := h.ow.form
  have q0 := h.cell
  rw [hv] at q0
  have HLI : Hid (Lie w ao (wts l)) := hlie
  have hql : q < w.heap.size := h.ql
  have hl' : (l.length : Int) ≤ 1000 := by omega
  have HB1 : Hid (Below w.heap.size w (w.alloc (.cells (acs (List.replicate l.length (0, 0))).toArray 95))) := (Below.refl _ _).alloc (Nat.le_refl _) _
  have HR1 : Hid (RowP (w.alloc (.cells (acs (List.replicate l.length (0, 0))).toArray 95)) w.heap.size ([] ++ List.replicate (l.length - 0) (0, 0))) := heap_alloc_new _ _
  clear h hlie hform
  go_enter Tryz.func57, Tryz.ntmps57
  go_wp2_with (first | (go_at_call 58; refine LE.mono ?_; rintro r w1 ⟨rfl, hw1⟩; obtain rfl : w = w1 := hw1.symm))
  clear LE MK
  generalize w.alloc (.cells (acs (List.replicate l.length (0, 0))).toArray 95) = W1 at *
  go_loopg [4, 10] l.length (fun gg _ t10 W => ∃ (gw : World) (k : Nat), gw = W ∧ t10 = .int .i64 k ∧ k ≤ l.length ∧ l.length - k ≤ gg ∧ Hid (RowP gw w.heap.size ((l.take k).map act ++ List.replicate (l.length - k) (0, 0)) ∧ Below w.heap.size w gw))
  case atStart => exact ⟨_, 0, rfl, rfl, by omega, by omega, HR1.out, HB1.out⟩
  case round =>
    obtain ⟨gw, k, rfl, rfl, hk, hgk, HG⟩ := hrel
    clear HR1
    by_cases hlt : (k : Int) < (l.length : Int)
    · obtain ⟨x, hx⟩ : ∃ x, l[k]? = some x := ⟨_, List.getElem?_eq_getElem (by omega)⟩
      obtain ⟨g, o, rfl, hgl, c0, c1, c2⟩ := lie_at HLI.out hx
      have q0' := (HG.out.2.cell (p := ⟨q, 0, none⟩) hql).trans q0
      have d0 := (HG.out.2.cell (p := ⟨g, o + k * 3, none⟩) hgl).trans c0
      have d1 := (HG.out.2.cell (p := ⟨g, o + k * 3 + 1, none⟩) hgl).trans c1
      have hm : ((l.take k).map act ++ List.replicate (l.length - k) (0, 0))[k]? = some (0, 0) := by
        rw [List.getElem?_append_right (by simp; omega), List.getElem?_replicate, if_pos (by simp; omega)]
      have r0 := (HG.out.1.cells hm).1
      have r1 := (HG.out.1.cells hm).2
      have f0 := HG.out.1.frozen (k * 2)
      have f1 := HG.out.1.frozen (k * 2 + 1)
      have HX : Hid (l[k]? = some x) := hx
      clear hx c0 c1 c2 hm
      go_wp2_with fail
      go_roundg (l.length - (k + 1))
      case measure => omega
      case rel =>
        refine ⟨_, k + 1, rfl, by go_num, by omega, by omega, ?_, (HG.out.2.setCell (Nat.le_refl _) _).setCell (Nat.le_refl _) _⟩
        rw [← fill_next HX.out]
        exact HG.out.1.set k (by simp; omega) x.K x.N
    · go_wp2_with fail
      go_ret
      obtain rfl : k = l.length := by omega
      have h1 := HG.out.1
      rw [Nat.sub_self, List.replicate_zero, List.append_nil, List.take_length] at h1
      exact ⟨_, rfl, h1, Nat.le_refl _, HG.out.2⟩
end
/-- Is there such an act? -/
def hasA (m : List (Int × Int)) (K N : Int) : Bool := m.any fun x => decide (x = (K, N))
theorem hasA_take {m : List (Int × Int)} {k : Nat} {x : Int × Int} (h : m[k]? = some x) (K N : Int) : hasA (m.take (k + 1)) K N = (hasA (m.take k) K N || decide (x = (K, N))) := by
  unfold hasA
  rw [List.take_add_one, h]
  simp
section
variable {w : World}
set_option maxHeartbeats 2000000 in
theorem aindex_any {g n : Nat} {m : List (Int × Int)} (h : RowP w g m) (hm : m.length = n) (hl : n ≤ 1000) (K N : Int) :
    Calls Tryz.prog 140 #[.slice (some ⟨g, 0, none⟩) n n, .agg #[.int .i64 K, .int .i64 N]] w fun e w' => ∃ r : Int, e = .returned (.int .i64 r) ∧ decide (0 ≤ r) = hasA m K N ∧ Below w.heap.size w w' := by
  have HB1 : Hid (Below w.heap.size w (w.alloc (.cells #[.int .i64 K, .int .i64 N] 95))) := (Below.refl _ _).alloc (Nat.le_refl _) _
  have hrow := heap_alloc_new w (.cells #[.int .i64 K, .int .i64 N] 95)
  have HM : Hid (m.length = n ∧ RowP w g m) := ⟨hm, h⟩
  have HBX : Hid ((w.alloc (.cells #[.int .i64 K, .int .i64 N] 95)).heap[w.heap.size]? = some (.cells #[.int .i64 K, .int .i64 N] 95 (0, 0))) := hrow
  have hgl := h.lt
  have hl' : (n : Int) ≤ 1000 := by omega
  clear h hm hrow
  go_enter Tryz.func140, Tryz.ntmps140
  go_wp2_with fail
  generalize w.alloc (.cells #[.int .i64 K, .int .i64 N] 95) = W1 at *
  have HZ : Hid (w.heap.size < W1.heap.size) := (Array.getElem?_eq_some_iff.1 HBX.out).1
  go_loopg [5, 8] n (fun gg _ t8 W => ∃ (gw : World) (k : Nat), gw = W ∧ k ≤ n ∧ n - k ≤ gg ∧ t8 = .int .i64 k ∧ Hid (hasA (m.take k) K N = false ∧ Below W1.heap.size W1 gw))
  case atStart => exact ⟨_, 0, rfl, by omega, by omega, rfl, rfl, Below.refl _ _⟩
  case round =>
    obtain ⟨gw, k, rfl, hk, hgk, rfl, HG⟩ := hrel
    by_cases hlt : (k : Int) < (n : Int)
    · obtain ⟨x, hx⟩ : ∃ x, m[k]? = some x := ⟨_, List.getElem?_eq_getElem (by rw [HM.out.1]; omega)⟩
      have HX : Hid (m[k]? = some x) := hx
      have hc := ((HM.out.2.up HB1.out).up HG.out.2).cells hx
      have d0 := hc.1
      have d1 := hc.2
      have b0 : gw.cell? ⟨w.heap.size, 0, none⟩ = some (.int .i64 K) := (HG.out.2.cell (p := ⟨w.heap.size, 0, none⟩) HZ.out).trans ((cell_of_row _ _ _ _ _ _ HBX.out).trans rfl)
      have b1 : gw.cell? ⟨w.heap.size, 1, none⟩ = some (.int .i64 N) := (HG.out.2.cell (p := ⟨w.heap.size, 1, none⟩) HZ.out).trans ((cell_of_row _ _ _ _ _ _ HBX.out).trans rfl)
      clear hc hx
      obtain ⟨x0, x1⟩ := x
      dsimp only at d0 d1
      by_cases he : K = x0 ∧ N = x1
      · obtain ⟨rfl, rfl⟩ := he
        go_upto_region 4 with fail
        go_quiet (fail)
        have HGN : Hid (Below W1.heap.size W1 (gw.drewN nq)) := HG.out.2.trans ((belowN (Below.refl _ _) nq).mono HG.out.2.size)
        go_wp2_with fail
        go_ret
        refine ⟨_, rfl, ?_, HB1.out.trans (HGN.out.mono HB1.out.size)⟩
        rw [decide_eq_true (by omega)]
        symm
        unfold hasA
        rw [List.any_eq_true]
        exact ⟨_, List.mem_of_getElem? HX.out, by simp⟩
      · have hnext : hasA (m.take (k + 1)) K N = false := by
          rw [hasA_take HX.out, HG.out.1]
          simp
          intro h1 h2
          exact he ⟨h1.symm, h2.symm⟩
        have HNX : Hid (hasA (m.take (k + 1)) K N = false) := hnext
        clear hnext
        by_cases hK : K = x0
        · subst hK
          have hN : ¬ N = x1 := fun e => he ⟨rfl, e⟩
          have hNb : (N == x1) = false := by simpa using hN
          clear he
          go_upto_region 4 with fail
          go_quiet (fail)
          have HGN : Hid (Below W1.heap.size W1 (gw.drewN nq)) := HG.out.2.trans ((belowN (Below.refl _ _) nq).mono HG.out.2.size)
          go_wp2_with fail
          go_roundg (n - (k + 1))
          case measure => omega
          case rel => exact ⟨_, k + 1, rfl, by omega, by omega, by go_num, HNX.out, HGN.out⟩
        · have hKb : (K == x0) = false := by simpa using hK
          clear he
          go_upto_region 4 with fail
          go_quiet (fail)
          have HGN : Hid (Below W1.heap.size W1 (gw.drewN nq)) := HG.out.2.trans ((belowN (Below.refl _ _) nq).mono HG.out.2.size)
          go_wp2_with fail
          go_roundg (n - (k + 1))
          case measure => omega
          case rel => exact ⟨_, k + 1, rfl, by omega, by omega, by go_num, HNX.out, HGN.out⟩
    · go_wp2_with fail
      go_ret
      refine ⟨_, rfl, ?_, HB1.out.trans (HG.out.2.mono HB1.out.size)⟩
      have e : m.take k = m := List.take_of_length_le (by rw [HM.out.1]; omega)
      have h1 := HG.out.1
      rw [e] at h1
      rw [h1]
      rfl
set_option maxHeartbeats 1000000 in
theorem acont_any {g n : Nat} {m : List (Int × Int)} (h : RowP w g m) (hm : m.length = n) (hl : n ≤ 1000) (K N : Int) :
    Calls Tryz.prog 113 #[.slice (some ⟨g, 0, none⟩) n n, .agg #[.int .i64 K, .int .i64 N]] w fun e w' => e = .returned (.bool (hasA m K N)) ∧ Below w.heap.size w w' := by
  have HB1 : Hid (Below w.heap.size w (w.alloc (.cells #[.int .i64 K, .int .i64 N] 95))) := (Below.refl _ _).alloc (Nat.le_refl _) _
  have IX := aindex_any (h.up HB1.out) hm hl K N
  have hrow := heap_alloc_new w (.cells #[.int .i64 K, .int .i64 N] 95)
  have b0 : (w.alloc (.cells #[.int .i64 K, .int .i64 N] 95)).cell? ⟨w.heap.size, 0, none⟩ = some (.int .i64 K) := (cell_of_row _ _ _ _ _ _ hrow).trans rfl
  have b1 : (w.alloc (.cells #[.int .i64 K, .int .i64 N] 95)).cell? ⟨w.heap.size, 1, none⟩ = some (.int .i64 N) := (cell_of_row _ _ _ _ _ _ hrow).trans rfl
  clear h hm hrow
  go_enter Tryz.func113, Tryz.ntmps113
  go_wp2_with (first | (go_at_call 140; refine Hid.out ?_))
  change Calls _ _ _ _ _
  refine IX.mono ?_
  clear IX
  rintro r w1 ⟨i, rfl, hi, hb1⟩
  have H1 : Hid (decide (0 ≤ i) = hasA m K N ∧ Below w.heap.size w w1) := ⟨hi, HB1.out.trans (hb1.mono HB1.out.size)⟩
  clear hi hb1
  go_wp2_with fail
  go_ret
  exact ⟨by rw [← H1.out.1]; rfl, H1.out.2⟩
set_option maxHeartbeats 2000000 in
theorem wgwaits_any {base q : Nat} {v : Value} {l : List Wt} (h : WkG w base q v l) (hl : l.length ≤ 1000) (Ka N : Int) :
    Calls Tryz.prog 59 #[.pointer (some ⟨q, 0, none⟩), .agg #[.int .i64 Ka, .int .i64 N]] w fun e w' => e = .returned (.bool (hasA (l.map act) Ka N)) ∧ Below w.heap.size w w' := by
  have HB1 : Hid (Below w.heap.size w (w.alloc (.cells #[.int .i64 Ka, .int .i64 N] 95))) := (Below.refl _ _).alloc (Nat.le_refl _) _
  have HB2 : Hid (Below (w.alloc (.cells #[.int .i64 Ka, .int .i64 N] 95)).heap.size (w.alloc (.cells #[.int .i64 Ka, .int .i64 N] 95)) (w.alloc (.cells #[.int .i64 Ka, .int .i64 N] 95)).drew) := (Below.refl _ _).drew
  have LI := wglist_any ((h.up HB1.out).up HB2.out) hl
  have hrow := heap_alloc_new w (.cells #[.int .i64 Ka, .int .i64 N] 95)
  have b0 : (w.alloc (.cells #[.int .i64 Ka, .int .i64 N] 95)).cell? ⟨w.heap.size, 0, none⟩ = some (.int .i64 Ka) := (cell_of_row _ _ _ _ _ _ hrow).trans rfl
  have b1 : (w.alloc (.cells #[.int .i64 Ka, .int .i64 N] 95)).cell? ⟨w.heap.size, 1, none⟩ = some (.int .i64 N) := (cell_of_row _ _ _ _ _ _ hrow).trans rfl
  have HZ : Hid (w.heap.size < (w.alloc (.cells #[.int .i64 Ka, .int .i64 N] 95)).heap.size) := by show _ < _; rw [size_alloc]; omega
  have HML : Hid ((l.map act).length = l.length) := List.length_map act
  clear h hrow
  go_enter Tryz.func59, Tryz.ntmps59
  go_upto_region 1 with fail
  generalize w.alloc (.cells #[.int .i64 Ka, .int .i64 N] 95) = W1 at *
  refine wp_region_held_drew (S := (fun W => W.cell? ⟨w.heap.size, 0, none⟩ = some (.int .i64 Ka) ∧ W.cell? ⟨w.heap.size, 1, none⟩ = some (.int .i64 N))) (by kernel_rfl) ⟨b0, b1⟩ (fun hH => ?_)
  refine takeH (i := 0) (dst := some 5) (v := ?v1) rfl rfl (by kernel_rfl) (by kernel_rfl) (by kernel_rfl) (fun _ _ _ h => h) rfl ?hy1 hH rfl ?rest1
  case hy1 => (intro W hW; (try dsimp only at hW); go_simp; try with_reducible rfl)
  (try simp only [Act.put, List.setIfInBounds_toArray, List.set_cons_zero, List.set_cons_succ])
  refine takeH (i := 2) (dst := some 7) (v := ?v2) rfl rfl (by kernel_rfl) (by kernel_rfl) (by kernel_rfl) (fun _ _ _ h => h) rfl ?hy2 hH rfl ?rest2
  case hy2 => (intro W hW; have kb0 := hW.1; have kb1 := hW.2; clear hW; go_simp; try with_reducible rfl)
  (try simp only [Act.put, List.setIfInBounds_toArray, List.set_cons_zero, List.set_cons_succ])
  refine callH (i := 1) { dst := some 6, op := Go.Op.call { callee := Go.Callee.value (Go.Operand.func 57), args := #[Go.Operand.tmp 5], argTypes := #[84] }, type := 101, pos := "push.go:101", after := #[{ on := 0, ground := Go.Ground.data }], guard := none } (by kernel_rfl) rfl rfl (fun K hK => ?_)
  go_simp
  refine LI.mono ?_
  clear LI
  rintro r w2 ⟨g, rfl, hr2, _, hb2⟩
  have hbb : Below W1.heap.size W1 w2 := HB2.out.trans (hb2.mono HB2.out.size)
  have HC2 : Hid (w2.cell? ⟨w.heap.size, 0, none⟩ = some (.int .i64 Ka) ∧ w2.cell? ⟨w.heap.size, 1, none⟩ = some (.int .i64 N)) := ⟨(hbb.cell (p := ⟨w.heap.size, 0, none⟩) HZ.out).trans b0, (hbb.cell (p := ⟨w.heap.size, 1, none⟩) HZ.out).trans b1⟩
  have CO := acont_any hr2 HML.out hl Ka N
  have H2 : Hid (Below W1.heap.size W1 w2) := hbb
  clear hr2 hb2 hbb b0 b1
  clear hH
  refine hK.out _ _ HC2.out (fun hH => ?_)
  clear hK K
  (try simp only [Act.put, List.setIfInBounds_toArray, List.set_cons_zero, List.set_cons_succ])
  refine callH (i := 3) { dst := some 8, op := Go.Op.call { callee := Go.Callee.value (Go.Operand.func 113), args := #[Go.Operand.tmp 6, Go.Operand.tmp 7], argTypes := #[101, 95] }, type := 4, pos := "push.go:101", after := #[{ on := 1, ground := Go.Ground.data }, { on := 2, ground := Go.Ground.data }, { on := 1, ground := Go.Ground.chain }], guard := none } (by kernel_rfl) rfl rfl (fun K hK => ?_)
  go_simp
  refine CO.mono ?_
  clear CO
  rintro r w3 ⟨rfl, hb3⟩
  have HFIN : Hid (Below w.heap.size w w3) := (HB1.out.trans (H2.out.mono HB1.out.size)).trans (hb3.mono (by have := HB1.out.size; have := H2.out.size; omega))
  have HC3 : Hid (w3.cell? ⟨w.heap.size, 0, none⟩ = some (.int .i64 Ka) ∧ w3.cell? ⟨w.heap.size, 1, none⟩ = some (.int .i64 N)) := ⟨(hb3.cell (p := ⟨w.heap.size, 0, none⟩) (by have := H2.out.size; have := HZ.out; show w.heap.size < _; omega)).trans HC2.out.1, (hb3.cell (p := ⟨w.heap.size, 1, none⟩) (by have := H2.out.size; have := HZ.out; show w.heap.size < _; omega)).trans HC2.out.2⟩
  clear hb3
  clear hH
  refine hK.out _ _ HC3.out (fun hH => ?_)
  clear hK K
  (try simp only [Act.put, List.setIfInBounds_toArray, List.set_cons_zero, List.set_cons_succ])
  refine takeH (i := 4) (dst := some 4) (v := ?v3) rfl rfl (by kernel_rfl) (by kernel_rfl) (by kernel_rfl) (fun _ _ _ h => h) rfl ?hy3 hH rfl ?rest3
  case hy3 => (intro W hW; (try dsimp only at hW); go_simp; try with_reducible rfl)
  (try simp only [Act.put, List.setIfInBounds_toArray, List.set_cons_zero, List.set_cons_succ])
  refine wpAnyH_done (by kernel_rfl) ?_ _
  clear hH
  go_wp2_with fail
  go_ret
  exact ⟨rfl, HFIN.out⟩
end
end Go.Proofs.YthaogbbclocmaaaGreat
/- Package push: Ripe, of any acts. -/
namespace Go.Proofs.YthaogbbclocmaaaGreat
open Go.RowKit
set_option maxRecDepth 100000
theorem fi_at {p : Wt → Bool} : ∀ {l : List Wt} {k : Nat} {x : Wt}, (∀ y ∈ l.take k, p y = false) → l[k]? = some x → p x = true → l.findIdx p = k
  | [], k, x, _, h, _ => by cases h
  | a :: l, 0, x, _, h, hp => by
    cases h
    rw [List.findIdx_cons, hp]; rfl
  | a :: l, k + 1, x, h1, h, hp => by
    rw [List.findIdx_cons, h1 a (by simp), fi_at (l := l) (k := k) (x := x) (fun y hy => h1 y (by rw [List.take_succ_cons]; exact List.mem_cons_of_mem _ hy)) (by simpa using h) hp]
    rfl
theorem fi_none {p : Wt → Bool} : ∀ {l : List Wt}, (∀ y ∈ l, p y = false) → l.findIdx p = l.length
  | [], _ => rfl
  | a :: l, h => by
    rw [List.findIdx_cons, h a (by simp), fi_none (fun y hy => h y (by simp [hy]))]
    rfl
theorem take_next {α : Type} {l : List α} {k : Nat} {x : α} (h : l[k]? = some x) : l.take (k + 1) = l.take k ++ [x] := by
  rw [List.take_add_one, h]; rfl
/-- A row without room behind. -/
def Full (w : World) (size : Nat) (v : Value) (n : Nat) (xs : List Value) : Prop := xs.length = n * size ∧ ∃ g, v = .slice (some ⟨g, 0, none⟩) n n ∧ g < w.heap.size ∧ ∀ j u, xs[j]? = some u → w.cell? ⟨g, j, none⟩ = some u
theorem run_append_x {w : World} (t ty : TypeId) (base e : Nat) (i0 : TypeInfo) (z : Value) (size bytes : Nat) (hu : Tryz.prog.underlying t = some (.slice e)) (hi : Tryz.prog.info? e = some i0) (hz0 : i0.zero = some z) (hz1 : i0.size = size) (hz2 : i0.bytes = bytes) (hz3 : z.cells.size = size) (hsz : 0 < size) (hby : bytes ≤ 1000)
    (n : Nat) (xs ys : List Value) (v : Value) (g c : Nat) (hown : w.ownsRow base e size v n xs ∨ Full w size v n xs) (hyl : ys.length = size) (hsrc : ∀ j u, ys[j]? = some u → w.cell? ⟨g, j, none⟩ = some u) (hone : ∀ u ∈ ys, u.oneCell' = true) (hbase : base ≤ w.heap.size) (hb : n ≤ 1000000) :
    ∃ G cap w', (Builtin.append_ #[t, t] ty #[v, .slice (some ⟨g, 0, none⟩) 1 c]).run Tryz.prog w = .ok (.slice (some ⟨G, 0, none⟩) (n + 1) cap) w' ∧ w'.ownsRow base e size (.slice (some ⟨G, 0, none⟩) (n + 1) cap) (n + 1) (xs ++ ys) ∧ Fr (fun k => base ≤ k ∧ v.ownBlock = some k) w w' ∧ (v.ownBlock = some G ∨ w.heap.size ≤ G) := by
  have hbb : (n + 1) * bytes ≤ 140737488355328 := by
    have : (n + 1) * bytes ≤ 1000001 * 1000 := Nat.mul_le_mul (by omega) hby
    omega
  rcases hown with hown | ⟨h1, g0, rfl, hl0, hc0⟩
  · obtain ⟨G, cap, w', hr, hown', hgr, hat, _⟩ := run_append_lies (P := Tryz.prog) w t ty base e i0 z size bytes hu hi hz0 hz1 hz2 hz3 hsz v n xs hown ⟨g, 0, none⟩ 1 c ys (by rw [hyl]; omega) (fun j u hj => by rw [addr_add, Nat.zero_add]; exact hsrc j u hj) hone (by omega) (by unfold maxLen; omega) hbb hbase _ rfl
    refine ⟨G, cap, w', hr, hown', (fr_grown hgr).mono fun k _ hk => ⟨(World.ownsRow.lt hown k hk).1, hk⟩, ?_⟩
    rcases hat with hat | hat
    · exact .inl hat
    · exact .inr (by omega)
  · obtain ⟨v', w', hr, hown, hg⟩ := run_append_arg_grows (P := Tryz.prog) w t ty e i0 z size bytes hu hi hz0 hz1 hz2 hz3 hsz ⟨g0, 0, none⟩ n n xs h1 (fun j u hj => by rw [addr_add, Nat.zero_add]; exact hc0 j u hj) ⟨g, 0, none⟩ 1 c ys (by rw [hyl]; omega) (fun j u hj => by rw [addr_add, Nat.zero_add]; exact hsrc j u hj) (by omega) (by unfold maxLen; omega) hbb
    rcases hown.2 with ⟨_, h0⟩ | ⟨G, cap, cur, hv, hG, hh, hn, hm, hs, hx⟩
    · omega
    · subst hv
      exact ⟨G, cap, w', hr, ⟨hown.1, .inr ⟨G, cap, cur, rfl, Nat.le_trans hbase hG, hh, hn, hm, hs, hx⟩⟩, (fr_grown hg).mono (fun k _ hk => by cases hk), .inr hG⟩
theorem step_appX {ops : Array Oper} {o : Oper} {a : Act} {w : World} {K : Act → World → Prop} {Q : Exit → Act → World → Prop} {E : Prop} (hgd : o.guard = none) (s x : Operand) (t : TypeId)
    (ho : o.op = .call { callee := .builtin .append, args := #[s, x], argTypes := #[t, t] }) (base e : Nat) (i0 : TypeInfo) (z : Value) (size bytes : Nat) (hu : Tryz.prog.underlying t = some (.slice e)) (hi : Tryz.prog.info? e = some i0) (hz0 : i0.zero = some z) (hz1 : i0.size = size) (hz2 : i0.bytes = bytes) (hz3 : z.cells.size = size) (hsz : 0 < size) (hby : bytes ≤ 1000)
    (n : Nat) (xs ys : List Value) (v : Value) (hs : a.eval s = v) (g c : Nat) (hx : a.eval x = .slice (some ⟨g, 0, none⟩) 1 c) (hown : w.ownsRow base e size v n xs ∨ Full w size v n xs) (hyl : ys.length = size) (hsrc : ∀ j u, ys[j]? = some u → w.cell? ⟨g, j, none⟩ = some u) (hone : ∀ u ∈ ys, u.oneCell' = true) (hbase : base ≤ w.heap.size) (hb : n ≤ 1000000)
    (h : ∀ G cap w', w'.ownsRow base e size (.slice (some ⟨G, 0, none⟩) (n + 1) cap) (n + 1) (xs ++ ys) → Fr (fun k => base ≤ k ∧ v.ownBlock = some k) w w' → (v.ownBlock = some G ∨ w.heap.size ≤ G) → K (a.put o.dst (.slice (some ⟨G, 0, none⟩) (n + 1) cap)) w') :
    if Region.wanted o (yielded ops a.tmps) = true then Oper.wp Tryz.prog o a w K Q else E := by
  have hw : Region.wanted o (yielded ops a.tmps) = true := by simp [Region.wanted, hgd]
  rw [if_pos hw]
  obtain ⟨G, cap, w', hr, hown', hgr, hat⟩ := run_append_x t o.type base e i0 z size bytes hu hi hz0 hz1 hz2 hz3 hsz hby n xs ys v g c hown hyl hsrc hone hbase hb
  unfold Oper.wp execOp
  simp only [ho, resolve, invoke, builtin]
  simp [hs, hx, hr, Result.andThen]
  exact h G cap w' hown' hgr hat
section
variable {w0 w : World} {p dp : Nat} {s : PSt} {ops : Nat → List Int} {κ : Nat}
set_option maxHeartbeats 2000000 in
theorem wgindex_any (h : GW w0 w p dp s ops κ) (l : List Wt) (ao : Option Addr) (cap : Nat) (hlie : Lie w ao (wts l)) (hl : l.length ≤ 1000) (hok : ∀ x ∈ l, x.ok) (bs : Nat) (hbs : w.cell? ⟨bs, 0, none⟩ = some (.pointer (some ⟨p, 0, none⟩))) (hbl : bs < w.heap.size) :
    Calls Tryz.prog 106 #[.slice ao l.length cap, .func (.func 107) #[] #[.pointer (some ⟨bs, 0, none⟩)]] w fun e w' => e = .returned (.int .i64 (if l.findIdx (rpB s) < l.length then (l.findIdx (rpB s) : Int) else -1)) ∧ Below w.heap.size w w' := by
  have HH : Hid (GW w0 w p dp s ops κ) := h
  have HOK : Hid (∀ x ∈ l, x.ok) := hok
  have HLI : Hid (Lie w ao (wts l)) := hlie
  have eg : ∀ args w, (callFunc 107 args).run Tryz.prog w = .ok (.enter 107 args) w := enters_of Tryz.func107 (by kernel_rfl) rfl
  have hl' : (l.length : Int) ≤ 1000 := by omega
  obtain ⟨n, hn⟩ : ∃ n, l.length = n := ⟨_, rfl⟩
  have HN : Hid (l.length = n) := hn
  obtain ⟨R, hR⟩ : ∃ R : Int, (if l.findIdx (rpB s) < l.length then (l.findIdx (rpB s) : Int) else -1) = R := ⟨_, rfl⟩
  have HR : Hid ((if l.findIdx (rpB s) < l.length then (l.findIdx (rpB s) : Int) else -1) = R) := hR
  rw [hR]
  rw [hn] at hl hl' ⊢
  clear h hok hlie hn hR
  go_enter Tryz.func106, Tryz.ntmps106
  go_wp2_with fail
  go_loopg [5, 8] n (fun gg _ t8 W => ∃ (gw : World) (k : Nat), gw = W ∧ k ≤ n ∧ n - k ≤ gg ∧ t8 = .int .i64 k ∧ Hid ((∀ y ∈ l.take k, rpB s y = false) ∧ Below w.heap.size w gw))
  case atStart => exact ⟨_, 0, rfl, by omega, by omega, rfl, fun y hy => by simp at hy, Below.refl _ _⟩
  case round =>
    obtain ⟨gw, k, rfl, hk, hgk, rfl, HG⟩ := hrel
    by_cases hlt : (k : Int) < (n : Int)
    · obtain ⟨x, hx⟩ : ∃ x, l[k]? = some x := ⟨_, List.getElem?_eq_getElem (by rw [HN.out]; omega)⟩
      obtain ⟨g, o, rfl, hgl, c0, c1, c2⟩ := lie_at HLI.out hx
      have d0 := (HG.out.2.cell (p := ⟨g, o + k * 3, none⟩) hgl).trans c0
      have d1 := (HG.out.2.cell (p := ⟨g, o + k * 3 + 1, none⟩) hgl).trans c1
      have d2 := (HG.out.2.cell (p := ⟨g, o + k * 3 + 2, none⟩) hgl).trans c2
      have CL := wripe1_any (HH.out.up HG.out.2) x (HOK.out x (List.mem_of_getElem? hx)) bs ((HG.out.2.cell (p := ⟨bs, 0, none⟩) hbl).trans hbs) (by have := HG.out.2.size; omega)
      have HX : Hid (l[k]? = some x) := hx
      obtain ⟨rb, hrb⟩ : ∃ rb, rpB s x = rb := ⟨_, rfl⟩
      have HRB : Hid (rpB s x = rb) := hrb
      rw [hrb] at CL
      clear hx c0 c1 c2 hrb
      go_wp2_with fail
      refine CL.mono ?_
      clear CL d0 d1 d2
      rintro r w1 ⟨rfl, hb1⟩
      have HB1 : Hid (Below w.heap.size w w1) := HG.out.2.trans (hb1.mono HG.out.2.size)
      clear hb1
      cases rb with
      | true =>
        go_wp2_with fail
        go_ret
        refine ⟨?_, HB1.out⟩
        have e := fi_at HG.out.1 HX.out HRB.out
        have h1 := HR.out
        rw [e, if_pos (by rw [HN.out]; omega)] at h1
        rw [← h1]; rfl
      | false =>
        go_wp2_with fail
        go_roundg (n - (k + 1))
        case measure => omega
        case rel =>
          refine ⟨_, k + 1, rfl, by omega, by omega, by go_num, fun y hy => ?_, HB1.out⟩
          rw [take_next HX.out] at hy
          rcases List.mem_append.1 hy with hy | hy
          · exact HG.out.1 y hy
          · rw [List.mem_singleton.1 hy]; exact HRB.out
    · go_wp2_with fail
      go_ret
      refine ⟨?_, HG.out.2⟩
      have e : l.take k = l := List.take_of_length_le (by rw [HN.out]; omega)
      have e2 := fi_none (l := l) (p := rpB s) (fun y hy => HG.out.1 y (by rw [e]; exact hy))
      have h1 := HR.out
      rw [e2, if_neg (by omega)] at h1
      rw [← h1]; rfl
/-- The state of Ripe's loop: the work's cell, what waits on, the acts. -/
structure RI (w gw : World) (B q g0 : Nat) (v' va : Value) (l' : List Wt) (m : List (Int × Int)) : Prop where
  at' : gw.heap[q]? = some (.cells #[v'] 169 (0, 0))
  ro : gw.ownsRow B 171 3 v' l'.length (wts l') ∨ Full gw 3 v' l'.length (wts l')
  ra : gw.ownsRow B 95 2 va m.length (acs m)
  ne : ∀ k, v'.ownBlock = some k → va.ownBlock ≠ some k ∧ k ≠ q
  fr : Fr (fun k => k = q) w gw
  old : ∀ k, v'.ownBlock = some k → k = g0 ∨ B ≤ k
  bz : B ≤ gw.heap.size ∧ w.heap.size ≤ B
  ql : q < w.heap.size
theorem Fr.then {S T : Nat → Prop} {a b c : World} (h : Fr S a b) (k : Fr T b c) (hT : ∀ i, i < a.heap.size → T i → S i) : Fr S a c :=
  ⟨by have := h.size; have := k.size; omega, fun j hj hS => (k.blk j (by have := h.size; omega) fun t => hS (hT j hj t)).trans (h.blk j hj hS), k.os.trans h.os, k.tape.trans h.tape, k.output.trans h.output⟩
theorem Full.fr {w w' : World} {size : Nat} {v : Value} {n : Nat} {xs : List Value} (h : Full w size v n xs) {S : Nat → Prop} (hf : Fr S w w') (hS : ∀ k, v.ownBlock = some k → ¬ S k) : Full w' size v n xs := by
  obtain ⟨h1, g, rfl, hl, hc⟩ := h
  exact ⟨h1, g, rfl, by have := hf.size; omega, fun j u hj => (fr_cell hf (a := ⟨g, j, none⟩) hl (hS g rfl)).trans (hc j u hj)⟩
theorem Full.form {w : World} {size : Nat} {v : Value} {n : Nat} {xs : List Value} (h : Full w size v n xs) : ∃ g, v = .slice (some ⟨g, 0, none⟩) n n := by
  obtain ⟨h1, g, rfl, hl, hc⟩ := h
  exact ⟨g, rfl⟩
section
variable {w gw gw' : World} {B q g0 : Nat} {v' va : Value} {l' : List Wt} {m : List (Int × Int)}
theorem RI.up (h : RI w gw B q g0 v' va l' m) (hb : Below gw.heap.size gw gw') : RI w gw' B q g0 v' va l' m :=
  ⟨(hb.block q (Array.getElem?_eq_some_iff.1 h.at').1).trans h.at', h.ro.imp (fun h => row_same h fun k hk => hb.block k (World.ownsRow.lt h k hk).2) (fun h => h.fr (S := fun _ => False) (Fr.of_below hb) fun _ _ h => h), row_same h.ra fun k hk => hb.block k (World.ownsRow.lt h.ra k hk).2, h.ne, h.fr.trans (Fr.of_below hb), h.old, ⟨by have := hb.size; have := h.bz; omega, h.bz.2⟩, h.ql⟩
theorem RI.form (h : RI w gw B q g0 v' va l' m) : ∃ ao ca, v' = .slice ao l'.length ca := by
  rcases h.ro with h | h
  · obtain ⟨_, h2⟩ := h
    rcases h2 with ⟨h2, h3⟩ | ⟨g, cap, _, hv, _⟩
    · exact ⟨none, 0, by rw [h2, h3]⟩
    · exact ⟨_, cap, hv⟩
  · obtain ⟨g, e⟩ := h.form
    exact ⟨_, _, e⟩
/-- An act more. -/
theorem RI.ripe (h : RI w gw B q g0 v' va l' m) {o : Obj} {x : Int × Int} {G cap : Nat} (ho : gw'.ownsRow B 95 2 (.slice (some ⟨G, 0, none⟩) (m.length + 1) cap) (m.length + 1) (acs m ++ acL x)) (hg : (gw.alloc o).grownBy gw' va.ownBlock) (hat : va.ownBlock = some G ∨ (gw.alloc o).heap.size ≤ G) :
    RI w gw' B q g0 v' (.slice (some ⟨G, 0, none⟩) (m.length + 1) cap) l' (m ++ [x]) := by
  have hb1 : Below gw.heap.size gw (gw.alloc o) := (Below.refl _ _).alloc (Nat.le_refl _) _
  have h1 := h.up hb1
  have hf := fr_grown hg
  have hz := h.bz
  have hql : q < (gw.alloc o).heap.size := (Array.getElem?_eq_some_iff.1 h1.at').1
  have nq : ∀ k, va.ownBlock = some k → B ≤ k := fun k hk => (World.ownsRow.lt h.ra k hk).1
  have hql' := h.ql
  refine ⟨?_, ?_, ?_, fun k hk => ⟨fun e => ?_, (h.ne k hk).2⟩, ?_, h.old, ⟨by have := hg.size; have := hb1.size; omega, hz.2⟩, h.ql⟩
  · refine (hf.blk q hql fun e => ?_).trans h1.at'
    have h2 := nq q e
    omega
  · exact h1.ro.imp (fun h2 => row_same h2 fun k hk => hf.blk k (World.ownsRow.lt h2 k hk).2 fun e => (h.ne k hk).1 e) (fun h2 => h2.fr hf fun k hk e => (h.ne k hk).1 e)
  · rw [List.length_append, acs_snoc]; exact ho
  · cases e
    rcases hat with e2 | e2
    · exact (h.ne _ hk).1 e2
    · have h3 : G < gw.heap.size := by
        rcases h.ro with h2 | h2
        · exact (World.ownsRow.lt h2 _ hk).2
        · obtain ⟨_, g, rfl, hl, _⟩ := h2
          cases hk; exact hl
      have := hb1.size
      omega
  · refine h1.fr.then hf fun k hk e => ?_
    have := nq k e
    omega
/-- One that waits on. -/
theorem RI.stays (h : RI w gw B q g0 v' va l' m) {gw1 : World} (hb1 : Below gw.heap.size gw gw1) {x : Wt} {G cap : Nat} (ho : gw'.ownsRow B 171 3 (.slice (some ⟨G, 0, none⟩) (l'.length + 1) cap) (l'.length + 1) (wts l' ++ wtL x)) (hf : Fr (fun k => B ≤ k ∧ v'.ownBlock = some k) gw1 gw') (hat : v'.ownBlock = some G ∨ gw1.heap.size ≤ G) :
    RI w (gw'.setCell ⟨q, 0, none⟩ (.slice (some ⟨G, 0, none⟩) (l'.length + 1) cap)) B q g0 (.slice (some ⟨G, 0, none⟩) (l'.length + 1) cap) va (l' ++ [x]) m ∧ gw'.heap[q]? = some (.cells #[v'] 169 (0, 0)) := by
  have h1 := h.up hb1
  have hz := h.bz
  have hz1 := hb1.size
  have hql' := h.ql
  have hfz := hf.size
  have hql : q < gw1.heap.size := (Array.getElem?_eq_some_iff.1 h1.at').1
  have hq : gw'.heap[q]? = some (.cells #[v'] 169 (0, 0)) := (hf.blk q hql fun e => by omega).trans h1.at'
  have hGB : B ≤ G := (World.ownsRow.lt ho G rfl).1
  have hGq : G ≠ q := by omega
  have st : ∀ k, k ≠ q → (gw'.setCell ⟨q, 0, none⟩ (.slice (some ⟨G, 0, none⟩) (l'.length + 1) cap)).heap[k]? = gw'.heap[k]? := fun k hk => heap_setCell_other gw' ⟨q, 0, none⟩ k _ hk
  have hsz : (gw'.setCell ⟨q, 0, none⟩ (.slice (some ⟨G, 0, none⟩) (l'.length + 1) cap)).heap.size = gw'.heap.size := by simp [World.setCell]
  have hva : ∀ k, va.ownBlock = some k → B ≤ k ∧ k < gw.heap.size := fun k hk => World.ownsRow.lt h.ra k hk
  refine ⟨⟨?_, .inl ?_, ?_, fun k hk => ⟨fun e => ?_, ?_⟩, ?_, fun k hk => ?_, ⟨by omega, hz.2⟩, h.ql⟩, hq⟩
  · exact heap_setCell_same gw' q 0 _ _ _ hq
  · rw [List.length_append, wts_snoc]
    exact row_same ho fun k hk => st k (fun e => hGq (by cases hk; exact e))
  · refine row_same h1.ra fun k hk => ?_
    have h2 := hva k hk
    rw [st k (by omega)]
    exact hf.blk k (by omega) fun e => (h.ne k e.2).1 hk
  · cases hk
    rcases hat with e2 | e2
    · exact (h.ne _ e2).1 e
    · have h9 : G < gw.heap.size := (hva _ e).2
      omega
  · cases hk; exact hGq
  · refine (h1.fr.then hf fun k hk e => ?_).setCell q 0 _ rfl
    omega
  · cases hk; exact .inr hGB
end
end
end Go.Proofs.YthaogbbclocmaaaGreat
/- Package push: Ripe. -/
namespace Go.Proofs.YthaogbbclocmaaaGreat
open Go.RowKit
set_option maxRecDepth 100000
/-- A list of acts that lies somewhere new. -/
def ActsNew (w' : World) (B : Nat) (ao : Option Addr) (xs : List Value) : Prop := Lie w' ao xs ∧ ∀ g o, ao = some ⟨g, o, none⟩ → B ≤ g
theorem own_lie {w : World} {base e size : Nat} {v : Value} {n : Nat} {xs : List Value} (h : w.ownsRow base e size v n xs) : ∃ ao cap, v = .slice ao n cap ∧ Lie w ao xs ∧ n ≤ cap ∧ (∀ g o, ao = some ⟨g, o, none⟩ → base ≤ g ∧ g < w.heap.size) ∧ (ao = none ∨ ∃ g, ao = some ⟨g, 0, none⟩) := by
  obtain ⟨ao, cap, e, hl, hn, _, hf⟩ := OwF.form (.inl h)
  refine ⟨ao, cap, e, hl, hn, fun g o e2 => ?_, hf.imp (fun h => h.1) fun ⟨g, h, _⟩ => ⟨g, h⟩⟩
  rcases hf with ⟨e3, _⟩ | ⟨g', e3, h1, h2⟩
  · rw [e3] at e2; cases e2
  · rw [e3] at e2; cases e2; exact ⟨h1, h2⟩
theorem filter_take_next {p : Wt → Bool} {l : List Wt} {k : Nat} {x : Wt} (h : l[k]? = some x) : (l.take (k + 1)).filter p = (l.take k).filter p ++ (if p x then [x] else []) := by
  rw [take_next h, List.filter_append]
  cases hp : p x <;> simp [hp]
theorem filter_all {p : Wt → Bool} {l : List Wt} (h : ∀ x ∈ l, p x = false) : l.filter p = [] ∧ l.filter (fun x => !p x) = l := by
  constructor
  · rw [List.filter_eq_nil_iff]; intro x hx; rw [h x hx]; simp
  · rw [List.filter_eq_self]; intro x hx; rw [h x hx]; rfl
/-- What Ripe leaves: the acts of m somewhere new, and the work with l'. -/
structure RipeD (w w' : World) (base q : Nat) (v : Value) (m : List (Int × Int)) (l' : List Wt) (e : Ending) : Prop where
  out : ∃ ao cap v', e = .returned (.slice ao m.length cap) ∧ ActsNew w' w.heap.size ao (acs m) ∧ WkG w' base q v' l' ∧ Fr (Wo q v) w w' ∧ (∀ k, Wo q v' k → Wo q v k ∨ w.heap.size ≤ k)
section
variable {w0 w : World} {p dp : Nat} {s : PSt} {ops : Nat → List Int} {κ : Nat} {base q : Nat} {v : Value} {l : List Wt}
set_option maxHeartbeats 8000000 in
theorem wgripe_any (h : GW w0 w p dp s ops κ) (hw : WkG w base q v l) (hl : l.length ≤ 1000) (hn : ∀ k, Wo q v k → ¬ Ak s k) (hbase : w0.heap.size ≤ base) :
    Calls Tryz.prog 53 #[.pointer (some ⟨q, 0, none⟩), .pointer (some ⟨p, 0, none⟩)] w fun e w' => RipeD w w' base q v ((l.filter (rpB s)).map act) (l.filter fun x => !rpB s x) e := by
  have HB : Hid (Below w.heap.size w (w.alloc (.cells #[.pointer (some ⟨p, 0, none⟩)] 30))) := (Below.refl _ _).alloc (Nat.le_refl _) _
  obtain ⟨ao, ca, hv, hlie, hca1, hca2, hform⟩ := hw.ow.form
  have hw1 := hw.up HB.out
  have q0 : (w.alloc (.cells #[.pointer (some ⟨p, 0, none⟩)] 30)).cell? ⟨q, 0, none⟩ = some (.slice ao l.length ca) := by rw [← hv]; exact hw1.cell
  have IX := wgindex_any (h.up HB.out) l ao ca (hlie.up HB.out) hl hw.ok w.heap.size ((cell_of_row _ _ _ _ _ _ (heap_alloc_new _ _)).trans rfl) (by rw [size_alloc]; omega)
  have HH : Hid (GW w0 w p dp s ops κ ∧ WkG w base q v l ∧ (∀ k, Wo q v k → ¬ Ak s k) ∧ w0.heap.size ≤ base) := ⟨h, hw, hn, hbase⟩
  have HV : Hid (v = .slice ao l.length ca ∧ Lie w ao (wts l)) := ⟨hv, hlie⟩
  have hl' : (l.length : Int) ≤ 1000 := by omega
  have HF : Hid (ao = none ∧ l.length = 0 ∧ ca = 0 ∨ ∃ g, ao = some ⟨g, 0, none⟩ ∧ base ≤ g ∧ g < w.heap.size) := hform
  clear h hw hn hbase hw1 hv hlie hform
  by_cases hfi : l.findIdx (rpB s) < l.length
  · rw [if_pos hfi] at IX
    obtain ⟨f, hf⟩ : ∃ f, l.findIdx (rpB s) = f := ⟨_, rfl⟩
    have HFI : Hid (l.findIdx (rpB s) = f) := hf
    rw [hf] at IX hfi
    clear hf
    obtain ⟨g, hao, hg1, hg2⟩ : ∃ g, ao = some ⟨g, 0, none⟩ ∧ base ≤ g ∧ g < w.heap.size := by
      rcases HF.out with ⟨_, e, _⟩ | e
      · omega
      · exact e
    subst hao
    have hfl : (f : Int) < (l.length : Int) := by omega
    have hlc : (l.length : Int) ≤ (ca : Int) := by omega
    have hcx : (ca : Int) ≤ 9223372036854776807 := by omega
    go_enter Tryz.func53, Tryz.ntmps53
    go_wp2_with (first | (go_at_call 106; refine Hid.out ?_))
    change Calls _ _ _ _ _
    refine IX.mono ?_
    clear IX
    rintro r w1 ⟨rfl, hb1⟩
    have HB1 : Hid (Below w.heap.size w w1) := HB.out.trans (hb1.mono HB.out.size)
    have HBX : Hid (w1.cell? ⟨w.heap.size, 0, none⟩ = some (.pointer (some ⟨p, 0, none⟩))) := (hb1.cell (p := ⟨w.heap.size, 0, none⟩) (by rw [size_alloc]; show w.heap.size < _; omega)).trans ((cell_of_row _ _ _ _ _ _ (heap_alloc_new _ _)).trans rfl)
    have HZX : Hid (w.heap.size < w1.heap.size) := by have := hb1.size; rw [size_alloc] at this; show _ < _; omega
    have hw2 := HH.out.2.1.up HB1.out
    have q1 : w1.cell? ⟨q, 0, none⟩ = some (.slice (some ⟨g, 0, none⟩) l.length ca) := by rw [← HV.out.1]; exact hw2.cell
    have f1 : w1.frozen? ⟨q, 0, none⟩ = false := frozen_of_row _ _ 0 _ _ hw2.at'
    clear hb1 q0 hw2
    go_upto_region 9 with fail
    have HRI : Hid (RI w1 (w1.setCell ⟨q, 0, none⟩ (.slice (some ⟨g, 0, none⟩) f f)) w1.heap.size q g (.slice (some ⟨g, 0, none⟩) f f) (.slice none 0 0) (l.take f) []) := by
      have hw2 := HH.out.2.1.up HB1.out
      have hlf : (l.take f).length = f := by rw [List.length_take]; omega
      have hgq : g ≠ q := fun e => hw2.ne (by rw [HV.out.1, e]; rfl)
      have hgl : g < w1.heap.size := by have := HB1.out.size; omega
      have hf2 : Fr (fun k => k = q) w1 (w1.setCell ⟨q, 0, none⟩ (.slice (some ⟨g, 0, none⟩) f f)) := (Fr.refl _ _).setCell q 0 _ rfl
      refine ⟨heap_setCell_same w1 q 0 _ _ _ hw2.at', .inr ⟨?_, g, by rw [hlf], by have := hf2.size; omega, fun j u hj => ?_⟩, World.ownsRow_nil _ _ _ _, fun k hk => ?_, hf2, fun k hk => ?_, ⟨hf2.size, Nat.le_refl _⟩, hw2.ql⟩
      · exact wts_length _
      · refine (fr_cell hf2 (a := ⟨g, j, none⟩) hgl hgq).trans ?_
        have e : wts l = wts (l.take f) ++ wts (l.drop f) := by unfold wts; rw [← List.flatMap_append, List.take_append_drop]
        have hj' : (wts l)[j]? = some u := by rw [e, List.getElem?_append_left (List.getElem?_eq_some_iff.1 hj).1]; exact hj
        rcases HV.out.2.up HB1.out with h1 | ⟨g', o', e', _, hc⟩
        · rw [h1] at hj'; cases hj'
        · cases e'
          have := hc j u hj'
          rwa [Nat.zero_add] at this
      · cases hk
        exact ⟨(fun e => by cases e), hgq⟩
      · cases hk; exact .inl rfl
    have HTF : Hid (∀ y ∈ l.take f, rpB s y = false) := fun y hy => by
      obtain ⟨i, hi, e⟩ := List.getElem_of_mem hy
      rw [List.length_take] at hi
      rw [List.getElem_take] at e
      have h1 : i < l.findIdx (rpB s) := by rw [HFI.out]; omega
      have := List.not_of_lt_findIdx h1
      rw [← e]
      simpa using this
    have HGW : Hid (∀ gw, Fr (fun k => k = q) w1 gw → GW w0 gw p dp s ops κ) := fun gw hf => (HH.out.1.up HB1.out).keep hf (fun k hk e => HH.out.2.2.1 k (.inl e) hk) (fun k e => by have := HH.out.2.1.qb; have := HH.out.2.2.2; rw [e]; omega)
    clear q1 f1
    generalize w1.setCell ⟨q, 0, none⟩ (.slice (some ⟨g, 0, none⟩) f f) = W2 at *
    obtain ⟨n, hn⟩ : ∃ n, l.length - f = n := ⟨_, rfl⟩
    have HN : Hid (l.length - f = n ∧ f < l.length ∧ l.length ≤ 1000) := ⟨hn, hfi, hl⟩
    have hn1 : n ≤ 1000 := by omega
    have hn2 : (n : Int) ≤ 1000 := by omega
    rw [hn]
    clear hn
    obtain ⟨cf, hcf⟩ : ∃ cf, ca - f = cf := ⟨_, rfl⟩
    rw [hcf]
    clear hcf hfl hlc hcx hca1 hca2 hl hl' hfi
    go_wp2_with fail
    go_loopg [6, 9, 38] n (fun gg t6 _ t38 W => ∃ (gw : World) (k : Nat) (va v' : Value) (l' : List Wt) (m : List (Int × Int)), gw = W ∧ t38 = .int .i64 k ∧ k ≤ n ∧ n - k ≤ gg ∧ va = t6 ∧ Hid (RI w1 gw w1.heap.size q g v' va l' m ∧ l' = l.take f ++ ((l.drop f).take k).filter (fun x => !rpB s x) ∧ m = (((l.drop f).take k).filter (rpB s)).map act ∧ m.length ≤ k))
    case atStart => exact ⟨_, 0, _, _, _, _, rfl, rfl, by omega, by omega, rfl, HRI.out, by simp, by simp, by simp⟩
    case round =>
      obtain ⟨gw, k, va, v', l', m, rfl, rfl, hk, hgk, rfl, HG⟩ := hrel
      clear HRI
      by_cases hlt : (k : Int) < (n : Int)
      · obtain ⟨x, hx⟩ : ∃ x, l[f + k]? = some x := ⟨_, List.getElem?_eq_getElem (by have := HN.out; omega)⟩
        have hxd : (l.drop f)[k]? = some x := by rw [List.getElem?_drop]; exact hx
        obtain ⟨g', o', e', hgl, c0, c1, c2⟩ := lie_at (HV.out.2.up HB1.out) hx
        cases e'
        have hgq : g ≠ q := fun e => HH.out.2.1.ne (by rw [HV.out.1, e]; rfl)
        rw [Nat.zero_add, Nat.add_mul] at c0 c1 c2
        have d0 := (fr_cell HG.out.1.fr (a := ⟨g, f * 3 + k * 3, none⟩) hgl hgq).trans c0
        have d1 := (fr_cell HG.out.1.fr (a := ⟨g, f * 3 + k * 3 + 1, none⟩) hgl hgq).trans c1
        have d2 := (fr_cell HG.out.1.fr (a := ⟨g, f * 3 + k * 3 + 2, none⟩) hgl hgq).trans c2
        have HX : Hid ((l.drop f)[k]? = some x ∧ x ∈ l) := ⟨hxd, List.mem_of_getElem? hx⟩
        have hbq : w.heap.size ≠ q := by have := HH.out.2.1.ql; omega
        have bx : gw.cell? ⟨w.heap.size, 0, none⟩ = some (.pointer (some ⟨p, 0, none⟩)) := (fr_cell HG.out.1.fr (a := ⟨w.heap.size, 0, none⟩) HZX.out hbq).trans HBX.out
        have HZG : Hid (w.heap.size < gw.heap.size) := by have h1 := HG.out.1.fr.size; have h2 := HZX.out; show _ < _; omega
        have HB3 : Hid (Below gw.heap.size gw (gw.alloc (.cells #[.int .i64 x.K, .int .i64 x.N, .int .i64 x.id] 171))) := (Below.refl _ _).alloc (Nat.le_refl _) _
        have RP := wripe_any ((HGW.out gw HG.out.1.fr).up HB3.out) x (HH.out.2.1.ok x (List.mem_of_getElem? hx))
        have bx3 : (gw.alloc (.cells #[.int .i64 x.K, .int .i64 x.N, .int .i64 x.id] 171)).cell? ⟨w.heap.size, 0, none⟩ = some (.pointer (some ⟨p, 0, none⟩)) := (HB3.out.cell (p := ⟨w.heap.size, 0, none⟩) HZG.out).trans bx
        obtain ⟨rb, hrb⟩ : ∃ rb, rpB s x = rb := ⟨_, rfl⟩
        have HRB : Hid (rpB s x = rb) := hrb
        rw [hrb] at RP
        clear hrb hx hxd c0 c1 c2 bx
        go_wp2_with (first | (go_at_call 108; refine Hid.out ?_))
        change Calls _ _ _ _ _
        refine RP.mono ?_
        clear RP d0 d1 d2 bx3
        rintro r w4 ⟨rfl, hb4⟩
        have y0 : w4.cell? ⟨gw.heap.size, 0, none⟩ = some (.int .i64 x.K) := (hb4.cell (p := ⟨gw.heap.size, 0, none⟩) (by rw [size_alloc]; show gw.heap.size < _; omega)).trans ((cell_of_row _ _ _ _ _ _ (heap_alloc_new _ _)).trans rfl)
        have y1 : w4.cell? ⟨gw.heap.size, 1, none⟩ = some (.int .i64 x.N) := (hb4.cell (p := ⟨gw.heap.size, 1, none⟩) (by rw [size_alloc]; show gw.heap.size < _; omega)).trans ((cell_of_row _ _ _ _ _ _ (heap_alloc_new _ _)).trans rfl)
        have y2 : w4.cell? ⟨gw.heap.size, 2, none⟩ = some (.int .i64 x.id) := (hb4.cell (p := ⟨gw.heap.size, 2, none⟩) (by rw [size_alloc]; show gw.heap.size < _; omega)).trans ((cell_of_row _ _ _ _ _ _ (heap_alloc_new _ _)).trans rfl)
        have H4 : Hid (RI w1 w4 w1.heap.size q g v' va l' m) := (HG.out.1.up HB3.out).up hb4
        clear hb4
        have hml : m.length ≤ 1000 := by have := HG.out.2.2.2; omega
        have HLL : Hid (l'.length ≤ 1000000) := by
          show _ ≤ _
          have h1 : l'.length ≤ f + k := by
            rw [HG.out.2.1, List.length_append]
            have h2 := List.length_filter_le (fun x => !rpB s x) ((l.drop f).take k)
            have h3 : ((l.drop f).take k).length ≤ k := by rw [List.length_take]; omega
            have h4 : (l.take f).length ≤ f := by rw [List.length_take]; omega
            omega
          have := HN.out
          omega
        cases rb with
        | true =>
          obtain ⟨aa, ac, hva, _⟩ := own_lie H4.out.ra
          obtain ⟨i0, z, hi0, hz0, hz3, hzs, hzb⟩ := infoA_parts
          have HI : Hid (Tryz.prog.info? 95 = some i0 ∧ i0.zero = some z ∧ z.cells.size = 2 ∧ i0.size = 2 ∧ i0.bytes = 16) := ⟨hi0, hz0, hz3, hzs, hzb⟩
          clear hi0 hz0 hz3 hzs hzb
          subst hva
          go_wp2_with (first | (at_builtin; refine Hid.out ?_))
          change wpList _ _ _ _ _ _
          refine wpList_app rfl (.tmp 45) (.tmp 48) 101 rfl w1.heap.size 95 i0 z 2 16 Tryz.underlying101 HI.out.1 HI.out.2.1 HI.out.2.2.2.1 HI.out.2.2.2.2 HI.out.2.2.1 (by decide) (by decide) m.length (acs m) (acL (act x)) _ rfl _ _ rfl (row_same H4.out.ra fun k hk => Below.heap_alloc _ _ _ (World.ownsRow.lt H4.out.ra k hk).2) rfl (fun j u hj => (cell_of_row _ _ _ _ _ _ (heap_alloc_new _ _)).trans (by rw [← hj]; rcases j with _ | _ | j <;> rfl)) (fun u hu => by simp [acL] at hu; rcases hu with rfl | rfl <;> rfl) (by rw [size_alloc]; have := H4.out.bz; omega) (by omega) ?_
          intro G c w5 ho5 hg5 hat5
          have H5 : Hid (RI w1 w5 w1.heap.size q g v' (.slice (some ⟨G, 0, none⟩) (m.length + 1) c) l' (m ++ [act x])) := H4.out.ripe ho5 hg5 hat5
          clear ho5 hg5 hat5
          go_wp2_with fail
          go_roundg (n - (k + 1))
          case measure => omega
          case rel =>
            refine ⟨_, k + 1, _, v', l', m ++ [act x], rfl, by go_num, by omega, by omega, rfl, H5.out, ?_, ?_, ?_⟩
            · rw [HG.out.2.1, filter_take_next HX.out.1, HRB.out]; simp
            · rw [HG.out.2.2.1, filter_take_next HX.out.1, HRB.out]; simp
            · have := HG.out.2.2.2; rw [List.length_append]; show _ + 1 ≤ _; omega
        | false =>
          obtain ⟨ao', ca', hv'⟩ := H4.out.form
          subst hv'
          have q0 : w4.cell? ⟨q, 0, none⟩ = some (.slice ao' l'.length ca') := (cell_of_row _ _ _ _ _ _ H4.out.at').trans rfl
          have HQL : Hid (q < w4.heap.size) := (Array.getElem?_eq_some_iff.1 H4.out.at').1
          have q1 : (w4.alloc (.cells #[.int .i64 x.K, .int .i64 x.N, .int .i64 x.id] 171)).cell? ⟨q, 0, none⟩ = some (.slice ao' l'.length ca') := (World.cell?_of_block (w := w4) (a := ⟨q, 0, none⟩) (Below.heap_alloc _ _ _ HQL.out)).trans q0
          obtain ⟨i0, z, hi0, hz0, hz3, hzs, hzb⟩ := infoW_parts
          have HI : Hid (Tryz.prog.info? 171 = some i0 ∧ i0.zero = some z ∧ z.cells.size = 3 ∧ i0.size = 3 ∧ i0.bytes = 24) := ⟨hi0, hz0, hz3, hzs, hzb⟩
          have HBD : Hid (Below w4.heap.size w4 (w4.drew.alloc (.cells #[.int .i64 x.K, .int .i64 x.N, .int .i64 x.id] 171))) := (Below.refl _ _).drew.alloc (Nat.le_refl _) _
          clear hi0 hz0 hz3 hzs hzb
          go_upto_region 14 with fail
          go_region_law (refine step_appX rfl (.tmp 54) (.tmp 56) 167 rfl w1.heap.size 171 i0 z 3 24 Tryz.underlying167 HI.out.1 HI.out.2.1 HI.out.2.2.2.1 HI.out.2.2.2.2 HI.out.2.2.1 (by decide) (by decide) l'.length (wts l') (wtL x) (.slice ao' l'.length ca') (by simp [Act.eval]) w4.heap.size 1 (by simp [Act.eval]) (H4.out.up HBD.out).ro rfl (fun j u hj => (cell_of_row _ _ _ _ _ _ (heap_alloc_new w4.drew _)).trans (by rw [← hj]; rcases j with _ | _ | _ | j <;> rfl)) (fun u hu => by simp [wtL] at hu; rcases hu with rfl | rfl | rfl <;> rfl) (H4.out.up HBD.out).bz.1 HLL.out ?_; intro G cap w' ho hf hat; have hN := H4.out.stays HBD.out ho hf hat; have qz : w'.cell? ⟨q, 0, none⟩ = some (.slice ao' l'.length ca') := (cell_of_row _ _ _ _ _ _ hN.2).trans rfl; have fzz : w'.frozen? ⟨q, 0, none⟩ = false := frozen_of_row w' _ 0 _ _ hN.2; have HN5 : Hid (RI w1 (w'.setCell ⟨q, 0, none⟩ (.slice (some ⟨G, 0, none⟩) (l'.length + 1) cap)) w1.heap.size q g (.slice (some ⟨G, 0, none⟩) (l'.length + 1) cap) va (l' ++ [x]) m) := hN.1; clear ho hf hat hN)
          all_goals (
            go_wp2_with fail
            go_roundg (n - (k + 1))
            case measure => omega
            case rel =>
              refine ⟨_, k + 1, _, _, l' ++ [x], m, rfl, by go_num, by omega, by omega, rfl, HN5.out, ?_, ?_, ?_⟩
              · rw [HG.out.2.1, filter_take_next HX.out.1, HRB.out]; simp
              · rw [HG.out.2.2.1, filter_take_next HX.out.1, HRB.out]; simp
              · have := HG.out.2.2.2; omega)
      · obtain rfl : k = n := by omega
        obtain ⟨aa, ac, hva, hla, _, hfr, _⟩ := own_lie HG.out.1.ra
        subst hva
        have HL : Hid (Lie gw aa (acs m) ∧ ∀ g o, aa = some ⟨g, o, none⟩ → w1.heap.size ≤ g ∧ g < gw.heap.size) := ⟨hla, hfr⟩
        clear hla hfr
        go_wp2_with fail
        go_ret
        have hdk : (l.drop f).take k = l.drop f := List.take_of_length_le (by rw [List.length_drop]; have := HN.out; omega)
        have hsp : ∀ P : Wt → Bool, l.filter P = (l.take f).filter P ++ (l.drop f).filter P := fun P => by rw [← List.filter_append, List.take_append_drop]
        have e1 : l' = l.filter fun x => !rpB s x := by rw [HG.out.2.1, hdk, hsp, (filter_all HTF.out).2]
        have e2 : m = (l.filter (rpB s)).map act := by rw [HG.out.2.2.1, hdk, hsp, (filter_all HTF.out).1, List.nil_append]
        rw [← e1, ← e2]
        have hz := HB1.out.size
        have hR := HG.out.1
        refine ⟨⟨aa, ac, v', rfl, ⟨HL.out.1, fun g o e => by have := HL.out.2 g o e; omega⟩, ⟨hR.at', ?_, fun e => (hR.ne q e).2 rfl, HH.out.2.1.qb, fun y hy => ?_⟩, ?_, fun k hk => ?_⟩⟩
        · rcases hR.ro with h1 | h1
          · refine .inl ⟨h1.1, h1.2.imp id ?_⟩
            rintro ⟨g', cap', cur', a1, a2, a3⟩
            exact ⟨g', cap', cur', a1, by omega, a3⟩
          · obtain ⟨k1, g', rfl, k2, k3⟩ := h1
            refine .inr ⟨k1, g', rfl, ?_, k2, k3⟩
            rcases hR.old g' rfl with e | e
            · rw [e]; exact hg1
            · omega
        · rw [e1] at hy
          exact HH.out.2.1.ok y (List.mem_filter.1 hy).1
        · exact (Fr.of_below HB1.out).then hR.fr fun i _ e => .inl e
        · rcases hk with hk | hk
          · exact .inl (.inl hk)
          · rcases hR.old k hk with e | e
            · exact .inl (.inr (by rw [HV.out.1, e]; rfl))
            · exact .inr (by omega)
  · rw [if_neg hfi] at IX
    have HNR : Hid (∀ x ∈ l, rpB s x = false) := fun x hx => by
      cases hr : rpB s x with
      | false => rfl
      | true => exact absurd (List.findIdx_lt_length.2 ⟨x, hx, hr⟩) hfi
    go_enter Tryz.func53, Tryz.ntmps53
    go_wp2_with (first | (go_at_call 106; refine Hid.out ?_))
    change Calls _ _ _ _ _
    refine IX.mono ?_
    clear IX
    rintro r w1 ⟨rfl, hb1⟩
    have HB1 : Hid (Below w.heap.size w w1) := HB.out.trans (hb1.mono HB.out.size)
    clear hb1
    go_wp2_with fail
    go_ret
    rw [(filter_all HNR.out).1, (filter_all HNR.out).2]
    exact ⟨⟨none, 0, v, rfl, ⟨.inl rfl, fun g o e => by cases e⟩, HH.out.2.1.up HB1.out, Fr.of_below HB1.out, fun k hk => .inl hk⟩⟩
end
end Go.Proofs.YthaogbbclocmaaaGreat
/- The document's Ripe (leveeref12), and lists of its acts. -/
namespace Go.Proofs.YthaogbbclocmaaaGreat
open Go.RowKit
set_option maxRecDepth 100000
/-- Is it ripe, as the document says? -/
def rpD (L : List RCh) (last : Nat) (x : Wt) : Bool := decide (x.id < 1) || (decide (1 ≤ x.id) && (decide (x.id ≤ (last : Int)) && decide (findI L x.id 0 < 0)))
theorem rs_safe {w : World} {q N m : Nat} {L : List RCh} {last : Nat} {D : Nat → Prop} (h : RS w q N m L last D) (x : Int) :
    Calls Tryz.prog 74 #[.pointer (some ⟨q, 0, none⟩), .int .i64 x] w fun e w' => e = .returned (.bool (decide (1 ≤ x) && (decide (x ≤ (last : Int)) && decide (findI L x 0 < 0)))) ∧ w' = w := by
  obtain ⟨d, gB, cB, B, ao, ca, base, gb, cb, ver, va, vc, h⟩ := h
  exact rsafe_any h.at' h.lk.len x
/-- Both say the same. -/
theorem rp_same {w0 w : World} {p dp q : Nat} {s : PSt} {ops : Nat → List Int} {κ m : Nat} {A : Nat → List Int} {L : List RCh} {D : Nat → Prop} (h : BW w0 w p dp q s ops κ m A L D) (x : Wt) : rpB s x = rpD L s.cnt x := by
  unfold rpB rpD
  congr 1
  have h1 := lkC_opn h.gw.pl.asc x.id
  rw [h.gw.pl.fc]
  have h2 : (findI L x.id 0 < 0) ↔ opn s.C x.id = false := by
    rcases findI_spec L x.id 0 with ⟨e, hn⟩ | ⟨j, c, hc, e, e2⟩
    · rw [e]
      refine ⟨fun _ => ?_, fun _ => by omega⟩
      cases ho : opn s.C x.id with
      | false => rfl
      | true =>
        obtain ⟨c, hc, e3⟩ := opn_iff.1 ho
        obtain ⟨k, hk⟩ := List.mem_iff_getElem?.1 hc
        obtain ⟨r, hr, k1, _⟩ := h.al.of hk
        exact absurd (show (r.id : Int) = x.id by omega) (hn r (List.mem_of_getElem? hr))
    · refine ⟨fun h => by rw [e2] at h; omega, fun h3 => ?_⟩
      obtain ⟨c', hc', k1, _⟩ := h.al.mem (List.mem_of_getElem? hc)
      have : opn s.C x.id = true := opn_iff.2 ⟨c', hc', by omega⟩
      rw [this] at h3; cases h3
  have h3 : (lkC s.C x.id = 0) ↔ opn s.C x.id = false := by
    rw [← decide_eq_true_iff (p := lkC s.C x.id = 0), h1]
    simp
  have h4 : (lkC s.C x.id = 0) ↔ findI L x.id 0 < 0 := h3.trans h2.symm
  by_cases a1 : 1 ≤ x.id <;> by_cases a2 : x.id ≤ (s.cnt : Int) <;> by_cases a3 : lkC s.C x.id = 0
  all_goals (have a4 := a3; rw [h4] at a4; simp [a1, a2, a3, a4])
theorem Tryz.infoE : (Tryz.prog.info? 91).map (fun i => (i.zero.map fun z => z.cells.size, i.size, i.bytes)) = some (some 2, 2, 16) := by kernel_rfl
theorem infoE_parts : ∃ i0 z, Tryz.prog.info? 91 = some i0 ∧ i0.zero = some z ∧ z.cells.size = 2 ∧ i0.size = 2 ∧ i0.bytes = 16 := by
  have h := Tryz.infoE
  cases hi : Tryz.prog.info? 91 with
  | none => rw [hi] at h; cases h
  | some i0 =>
    rw [hi] at h
    simp only [Option.map_some, Option.some.injEq, Prod.mk.injEq] at h
    cases hz : i0.zero with
    | none => rw [hz] at h; cases h.1
    | some z =>
      rw [hz] at h
      exact ⟨i0, z, rfl, hz, Option.some.inj h.1, h.2.1, h.2.2⟩
/-- The state of its loop. -/
structure RD (w gw : World) (va vr : Value) (l' : List Wt) (m : List (Int × Int)) : Prop where
  ra : gw.ownsRow w.heap.size 91 2 va m.length (acs m)
  rr : gw.ownsRow w.heap.size 106 3 vr l'.length (wds l')
  ne : ∀ k, vr.ownBlock = some k → va.ownBlock ≠ some k
  be : Below w.heap.size w gw
section
variable {w gw gw' : World} {va vr : Value} {l' : List Wt} {m : List (Int × Int)}
theorem RD.up (h : RD w gw va vr l' m) (hb : Below gw.heap.size gw gw') : RD w gw' va vr l' m :=
  ⟨row_same h.ra fun k hk => hb.block k (World.ownsRow.lt h.ra k hk).2, row_same h.rr fun k hk => hb.block k (World.ownsRow.lt h.rr k hk).2, h.ne, h.be.trans (hb.mono h.be.size)⟩
theorem RD.ripe (h : RD w gw va vr l' m) {o : Obj} {x : Int × Int} {G cap : Nat} (ho : gw'.ownsRow w.heap.size 91 2 (.slice (some ⟨G, 0, none⟩) (m.length + 1) cap) (m.length + 1) (acs m ++ acL x)) (hg : (gw.alloc o).grownBy gw' va.ownBlock) (hat : va.ownBlock = some G ∨ (gw.alloc o).heap.size ≤ G) :
    RD w gw' (.slice (some ⟨G, 0, none⟩) (m.length + 1) cap) vr l' (m ++ [x]) := by
  have hb1 : Below gw.heap.size gw (gw.alloc o) := (Below.refl _ _).alloc (Nat.le_refl _) _
  have h1 := h.up hb1
  have hf := fr_grown hg
  refine ⟨?_, row_same h1.rr fun k hk => hf.blk k (World.ownsRow.lt h1.rr k hk).2 fun e => h.ne k hk e, fun k hk e => ?_, ?_⟩
  · rw [List.length_append, acs_snoc]; exact ho
  · cases e
    rcases hat with e2 | e2
    · exact h.ne _ hk e2
    · have h3 : G < gw.heap.size := (World.ownsRow.lt h.rr _ hk).2
      have := hb1.size
      omega
  · exact h1.be.trans ((Below.refl _ _).grown hg h1.be.size fun k hk => (World.ownsRow.lt h.ra k hk).1)
theorem RD.stays (h : RD w gw va vr l' m) {o : Obj} {x : Wt} {G cap : Nat} (ho : gw'.ownsRow w.heap.size 106 3 (.slice (some ⟨G, 0, none⟩) (l'.length + 1) cap) (l'.length + 1) (wds l' ++ wdL x)) (hg : (gw.alloc o).grownBy gw' vr.ownBlock) (hat : vr.ownBlock = some G ∨ (gw.alloc o).heap.size ≤ G) :
    RD w gw' va (.slice (some ⟨G, 0, none⟩) (l'.length + 1) cap) (l' ++ [x]) m := by
  have hb1 : Below gw.heap.size gw (gw.alloc o) := (Below.refl _ _).alloc (Nat.le_refl _) _
  have h1 := h.up hb1
  have hf := fr_grown hg
  refine ⟨row_same h1.ra fun k hk => hf.blk k (World.ownsRow.lt h1.ra k hk).2 fun e => h.ne k e hk, ?_, fun k hk e => ?_, ?_⟩
  · rw [List.length_append, wds_snoc]; exact ho
  · cases hk
    rcases hat with e2 | e2
    · exact h.ne _ e2 e
    · have h3 : G < gw.heap.size := (World.ownsRow.lt h.ra _ e).2
      have := hb1.size
      omega
  · exact h1.be.trans ((Below.refl _ _).grown hg h1.be.size fun k hk => (World.ownsRow.lt h.rr k hk).1)
end
/-- What it leaves. -/
structure RipeE (w w' : World) (base q : Nat) (v : Value) (m : List (Int × Int)) (l' : List Wt) (e : Ending) : Prop where
  out : ∃ ao cap v', e = .returned (.slice ao m.length cap) ∧ ActsNew w' w.heap.size ao (acs m) ∧ WdG w' base q v' l' ∧ Fr (Wo q v) w w' ∧ (∀ k, Wo q v' k → Wo q v k ∨ w.heap.size ≤ k)
theorem lie_atD {w : World} {l : List Wt} {ao : Option Addr} {i : Nat} {x : Wt} (h : Lie w ao (wds l)) (hx : l[i]? = some x) : ∃ g o, ao = some ⟨g, o, none⟩ ∧ g < w.heap.size ∧ w.cell? ⟨g, o + i * 3, none⟩ = some (.int .i64 x.id) ∧ w.cell? ⟨g, o + i * 3 + 1, none⟩ = some (.int .i64 x.K) ∧ w.cell? ⟨g, o + i * 3 + 2, none⟩ = some (.int .i64 x.N) := by
  rcases h with h | ⟨g, o, e, hg, hc⟩
  · have := wds_get hx (j := 0) (by omega)
    rw [h] at this; cases this
  · have c : ∀ j u, j < 3 → (wdL x)[j]? = some u → w.cell? ⟨g, o + (i * 3 + j), none⟩ = some u := fun j u hj hu => hc _ u ((wds_get hx hj).trans hu)
    refine ⟨g, o, e, hg, ?_, ?_, ?_⟩
    · have := c 0 _ (by omega) rfl; rwa [Nat.add_zero] at this
    · have := c 1 _ (by omega) rfl; rwa [← Nat.add_assoc] at this
    · have := c 2 _ (by omega) rfl; rwa [← Nat.add_assoc] at this
set_option maxHeartbeats 8000000 in
theorem wdripe_any {w : World} {base q r N m0 : Nat} {v : Value} {l : List Wt} {L : List RCh} {last : Nat} {D : Nat → Prop} (h : WdG w base q v l) (hs : RS w r N m0 L last D) (hl : l.length ≤ 1000) (hb : base ≤ w.heap.size) :
    Calls Tryz.prog 54 #[.pointer (some ⟨q, 0, none⟩), .pointer (some ⟨r, 0, none⟩)] w fun e w' => RipeE w w' base q v ((l.filter (rpD L last)).map act) (l.filter fun x => !rpD L last x) e := by
  have HH : Hid (WdG w base q v l ∧ RS w r N m0 L last D) := ⟨h, hs⟩
  obtain ⟨ao, ca, hv, hca1, hca2, hform, hlie⟩ := h.form
  have HV : Hid (v = .slice ao l.length ca ∧ Lie w ao (wds l)) := ⟨hv, hlie⟩
  have hql := h.ql
  have q0 : w.cell? ⟨q, 0, none⟩ = some (.slice ao l.length ca) := by rw [← hv]; exact h.cell
  have hl' : (l.length : Int) ≤ 1000 := by omega
  clear h hs hv hlie hform
  go_enter Tryz.func54, Tryz.ntmps54
  go_wp2_with fail
  go_loopg [5, 6, 7] l.length (fun gg t5 t6 t7 W => ∃ (gw : World) (k : Nat) (va vr : Value) (l' : List Wt) (m : List (Int × Int)), gw = W ∧ t7 = .int .i64 k ∧ k ≤ l.length ∧ l.length - k ≤ gg ∧ va = t5 ∧ vr = t6 ∧ Hid (RD w gw va vr l' m ∧ l' = (l.take k).filter (fun x => !rpD L last x) ∧ m = ((l.take k).filter (rpD L last)).map act ∧ m.length ≤ k ∧ l'.length ≤ k))
  case atStart => exact ⟨_, 0, _, _, [], [], rfl, rfl, by omega, by omega, rfl, rfl, ⟨World.ownsRow_nil _ _ _ _, World.ownsRow_nil _ _ _ _, (fun k hk => by cases hk), Below.refl _ _⟩, by simp, by simp, by simp, by simp⟩
  case round =>
    obtain ⟨gw, k, va, vr, l', m, rfl, rfl, hk, hgk, rfl, rfl, HG⟩ := hrel
    have q0' := (HG.out.1.be.cell (p := ⟨q, 0, none⟩) hql).trans q0
    by_cases hlt : (k : Int) < (l.length : Int)
    · obtain ⟨x, hx⟩ : ∃ x, l[k]? = some x := ⟨_, List.getElem?_eq_getElem (by omega)⟩
      have HX : Hid (l[k]? = some x) := hx
      obtain ⟨g, o, rfl, hgl, c0, c1, c2⟩ := lie_atD HV.out.2 hx
      have d0 := (HG.out.1.be.cell (p := ⟨g, o + k * 3, none⟩) hgl).trans c0
      have d1 := (HG.out.1.be.cell (p := ⟨g, o + k * 3 + 1, none⟩) hgl).trans c1
      have d2 := (HG.out.1.be.cell (p := ⟨g, o + k * 3 + 2, none⟩) hgl).trans c2
      have SF := rs_safe (HH.out.2.up HG.out.1.be) x.id
      have HRD : Hid (rpD L last x = (decide (x.id < 1) || (decide (1 ≤ x.id) && (decide (x.id ≤ (last : Int)) && decide (findI L x.id 0 < 0))))) := rfl
      generalize (decide (1 ≤ x.id) && (decide (x.id ≤ (last : Int)) && decide (findI L x.id 0 < 0))) = sb at *
      clear hx c0 c1 c2
      have hml : m.length ≤ 1000 := by have := HG.out.2.2.2.1; omega
      have hll : l'.length ≤ 1000 := by have := HG.out.2.2.2.2; omega
      go_upto_region 6 with fail
      go_cut [37] (fun t wc => t = .bool (rpD L last x) ∧ wc = gw)
      case first =>
        by_cases h1 : x.id < 1
        · clear SF
          go_wp2_with fail
          go_meet
          exact ⟨by rw [HRD.out, decide_eq_true h1]; rfl, rfl⟩
        · go_wp2_with (first | (go_at_call 74; refine SF.mono ?_; rintro r2 w2 ⟨rfl, hw2⟩; obtain rfl : gw = w2 := hw2.symm))
          go_meet
          exact ⟨by rw [HRD.out, decide_eq_false (show ¬ x.id < 1 by omega)]; rfl, rfl⟩
      case rest =>
        obtain ⟨rfl, hwc⟩ := hcut
        obtain rfl : gw = wc := hwc.symm
        clear SF
        obtain ⟨rb, hrb⟩ : ∃ rb, rpD L last x = rb := ⟨_, rfl⟩
        have HRB : Hid (rpD L last x = rb) := hrb
        rw [hrb]
        clear hrb HRD
        cases rb with
        | true =>
          obtain ⟨aa, ac, hva, _⟩ := own_lie HG.out.1.ra
          obtain ⟨i0, z, hi0, hz0, hz3, hzs, hzb⟩ := infoE_parts
          have HI : Hid (Tryz.prog.info? 91 = some i0 ∧ i0.zero = some z ∧ z.cells.size = 2 ∧ i0.size = 2 ∧ i0.bytes = 16) := ⟨hi0, hz0, hz3, hzs, hzb⟩
          clear hi0 hz0 hz3 hzs hzb
          subst hva
          go_wp2_with (first | (at_builtin; refine Hid.out ?_))
          change wpList _ _ _ _ _ _
          refine wpList_app rfl (.tmp 38) (.tmp 47) 99 rfl w.heap.size 91 i0 z 2 16 Tryz.underlying99 HI.out.1 HI.out.2.1 HI.out.2.2.2.1 HI.out.2.2.2.2 HI.out.2.2.1 (by decide) (by decide) m.length (acs m) (acL (act x)) _ rfl _ _ rfl (row_same HG.out.1.ra fun k hk => Below.heap_alloc _ _ _ (World.ownsRow.lt HG.out.1.ra k hk).2) rfl (fun j u hj => (cell_of_row _ _ _ _ _ _ (heap_alloc_new _ _)).trans (by rw [← hj]; rcases j with _ | _ | j <;> rfl)) (fun u hu => by simp [acL] at hu; rcases hu with rfl | rfl <;> rfl) (by rw [size_alloc]; have := HG.out.1.be.size; omega) (by omega) ?_
          intro G c w5 ho5 hg5 hat5
          have H5 : Hid (RD w w5 (.slice (some ⟨G, 0, none⟩) (m.length + 1) c) vr l' (m ++ [act x])) := HG.out.1.ripe ho5 hg5 hat5
          clear ho5 hg5 hat5
          go_wp2_with fail
          go_roundg (l.length - (k + 1))
          case measure => omega
          case rel =>
            refine ⟨_, k + 1, _, vr, l', m ++ [act x], rfl, by go_num, by omega, by omega, rfl, rfl, H5.out, ?_, ?_, ?_, ?_⟩
            · rw [HG.out.2.1, filter_take_next HX.out, HRB.out]; simp
            · rw [HG.out.2.2.1, filter_take_next HX.out, HRB.out]; simp
            · have := HG.out.2.2.2.1; rw [List.length_append]; show _ + 1 ≤ _; omega
            · have := HG.out.2.2.2.2; omega
        | false =>
          obtain ⟨aa, ac, hvr, _⟩ := own_lie HG.out.1.rr
          obtain ⟨i0, z, hi0, hz0, hz3, hzs, hzb⟩ := infoD_parts
          have HI : Hid (Tryz.prog.info? 106 = some i0 ∧ i0.zero = some z ∧ z.cells.size = 3 ∧ i0.size = 3 ∧ i0.bytes = 24) := ⟨hi0, hz0, hz3, hzs, hzb⟩
          clear hi0 hz0 hz3 hzs hzb
          subst hvr
          go_wp2_with (first | (at_builtin; refine Hid.out ?_))
          change wpList _ _ _ _ _ _
          refine wpList_app rfl (.tmp 49) (.tmp 57) 87 rfl w.heap.size 106 i0 z 3 24 Tryz.underlying87 HI.out.1 HI.out.2.1 HI.out.2.2.2.1 HI.out.2.2.2.2 HI.out.2.2.1 (by decide) (by decide) l'.length (wds l') (wdL x) _ rfl _ _ rfl (row_same HG.out.1.rr fun k hk => Below.heap_alloc _ _ _ (World.ownsRow.lt HG.out.1.rr k hk).2) rfl (fun j u hj => (cell_of_row _ _ _ _ _ _ (heap_alloc_new _ _)).trans (by rw [← hj]; rcases j with _ | _ | _ | j <;> rfl)) (fun u hu => by simp [wdL] at hu; rcases hu with rfl | rfl | rfl <;> rfl) (by rw [size_alloc]; have := HG.out.1.be.size; omega) (by omega) ?_
          intro G c w5 ho5 hg5 hat5
          have H5 : Hid (RD w w5 va (.slice (some ⟨G, 0, none⟩) (l'.length + 1) c) (l' ++ [x]) m) := HG.out.1.stays ho5 hg5 hat5
          clear ho5 hg5 hat5
          go_wp2_with fail
          go_roundg (l.length - (k + 1))
          case measure => omega
          case rel =>
            refine ⟨_, k + 1, va, _, l' ++ [x], m, rfl, by go_num, by omega, by omega, rfl, rfl, H5.out, ?_, ?_, ?_, ?_⟩
            · rw [HG.out.2.1, filter_take_next HX.out, HRB.out]; simp
            · rw [HG.out.2.2.1, filter_take_next HX.out, HRB.out]; simp
            · have := HG.out.2.2.2.1; omega
            · have := HG.out.2.2.2.2; rw [List.length_append]; show _ + 1 ≤ _; omega
    · obtain rfl : k = l.length := by omega
      obtain ⟨aa, ac, hva, hla, _, hfr, _⟩ := own_lie HG.out.1.ra
      obtain ⟨ar, cr, hvr, _⟩ := own_lie HG.out.1.rr
      subst hva hvr
      have HL : Hid (Lie gw aa (acs m) ∧ ∀ g o, aa = some ⟨g, o, none⟩ → w.heap.size ≤ g ∧ g < gw.heap.size) := ⟨hla, hfr⟩
      have hwg := HH.out.1.up HG.out.1.be
      have f0 : gw.frozen? ⟨q, 0, none⟩ = false := frozen_of_row _ _ 0 _ _ hwg.at'
      clear hla hfr hwg
      go_wp2_with fail
      go_ret
      have hf2 : Fr (fun k => k = q) gw (gw.setCell ⟨q, 0, none⟩ (.slice ar l'.length cr)) := (Fr.refl _ _).setCell q 0 _ rfl
      have e1 : l' = l.filter fun x => !rpD L last x := by rw [HG.out.2.1, List.take_length]
      have e2 : m = (l.filter (rpD L last)).map act := by rw [HG.out.2.2.1, List.take_length]
      have hR := HG.out.1
      have hz := hR.be.size
      rw [← e1, ← e2]
      have nq : ∀ k, (Value.slice ar l'.length cr).ownBlock = some k → k ≠ q := fun k hk e => by have := (World.ownsRow.lt hR.rr k hk).1; omega
      refine ⟨⟨aa, ac, .slice ar l'.length cr, rfl, ⟨HL.out.1.fr hf2 (.inr fun g o e e3 => by have := HL.out.2 g o e; have e4 : g = q := e3; omega), fun g o e => (HL.out.2 g o e).1⟩, ⟨heap_setCell_same gw q 0 _ _ _ (HH.out.1.up hR.be).at', ?_, fun e => nq q e rfl, HH.out.1.qb⟩, (Fr.of_below hR.be).then hf2 fun i _ e => .inl e, fun k hk => ?_⟩⟩
      · have h2 := row_same hR.rr (w' := gw.setCell ⟨q, 0, none⟩ (.slice ar l'.length cr)) fun k hk => heap_setCell_other gw ⟨q, 0, none⟩ k _ (nq k hk)
        refine ⟨h2.1, h2.2.imp id ?_⟩
        rintro ⟨g', cap', cur', a1, a2, a3⟩
        exact ⟨g', cap', cur', a1, by omega, a3⟩
      · rcases hk with hk | hk
        · exact .inl (.inl hk)
        · exact .inr (World.ownsRow.lt hR.rr k hk).1
end Go.Proofs.YthaogbbclocmaaaGreat
/- given, taken (leveelaw12), and the document's Same. -/
namespace Go.Proofs.YthaogbbclocmaaaGreat
open Go.RowKit
set_option maxRecDepth 100000
theorem results_cell12 {fn : Func} {p : Tmp} {ty : TypeId} (h : fn.results = #[.cell p ty]) (tmps : Array Value) (P : Program) (w : World) :
    (results fn tmps).run P w = ((asAddr (tmps.getD p undef)).run P w).andThen fun a w₁ => (loadVar ty a).run P w₁ := by
  simp only [results, h]
  simp [Sem.run_bind, Result.andThen]
theorem Tryz.szAct : (Tryz.prog.info? 95).map (·.size) = some 2 := by kernel_rfl
theorem res_act {fn : Func} {q : Tmp} (h : fn.results = #[.cell q 95]) (tmps : Array Value) (w : World) (p : Nat) (a b : Int) (H : w.heap[p]? = some (.cells #[.int .i64 a, .int .i64 b] 95 (0, 0))) (hp : tmps.getD q undef = .pointer (some ⟨p, 0, none⟩)) :
    (results fn tmps).run Tryz.prog w = .ok (.agg #[.int .i64 a, .int .i64 b]) w := by
  rw [results_cell12 h, hp]
  simp [asAddr, run_loadVar_row w p 95 95 _ _ _ H Tryz.underlying95 rfl Tryz.szAct, Result.andThen]
set_option maxHeartbeats 1000000 in
theorem given12_any (w : World) (Ka N : Int) : Calls Tryz.prog 49 #[.agg #[.int .i64 Ka, .int .i64 N]] w fun e w' => e = .returned (.agg #[.int .i64 Ka, .int .i64 N]) ∧ Below w.heap.size w w' := by
  have hb : Below w.heap.size w ((w.alloc (.cells #[.int .i64 Ka, .int .i64 N] 91)).alloc (.cells #[.int .i64 Ka, .int .i64 N] 95)) := ((Below.refl _ _).alloc (Nat.le_refl _) _).alloc (by simp) _
  go_enter Tryz.func49, Tryz.ntmps49
  go_wp2
  refine bodyPost_ret (res_act rfl _ _ (w.heap.size + 1) Ka N (by simpa using heap_alloc_new (w.alloc (.cells #[.int .i64 Ka, .int .i64 N] 91)) (.cells #[.int .i64 Ka, .int .i64 N] 95)) rfl) rfl ?_
  exact ⟨rfl, hb⟩
theorem infoE_parts' : ∃ i0 z, Tryz.prog.info? 91 = some i0 ∧ i0.zero = some z ∧ z.cells.size = 2 ∧ i0.size = 2 ∧ i0.bytes = 16 := by
  have h : (Tryz.prog.info? 91).map (fun i => (i.zero.map fun z => z.cells.size, i.size, i.bytes)) = some (some 2, 2, 16) := by kernel_rfl
  cases hi : Tryz.prog.info? 91 with
  | none => rw [hi] at h; cases h
  | some i0 =>
    rw [hi] at h
    simp only [Option.map_some, Option.some.injEq, Prod.mk.injEq] at h
    cases hz : i0.zero with
    | none => rw [hz] at h; cases h.1
    | some z =>
      rw [hz] at h
      exact ⟨i0, z, rfl, hz, Option.some.inj h.1, h.2.1, h.2.2⟩
theorem lie_atA {w : World} {m : List (Int × Int)} {ao : Option Addr} {i : Nat} {x : Int × Int} (h : Lie w ao (acs m)) (hx : m[i]? = some x) : ∃ g o, ao = some ⟨g, o, none⟩ ∧ g < w.heap.size ∧ w.cell? ⟨g, o + i * 2, none⟩ = some (.int .i64 x.1) ∧ w.cell? ⟨g, o + i * 2 + 1, none⟩ = some (.int .i64 x.2) := by
  rcases h with h | ⟨g, o, e, hg, hc⟩
  · have := acs_get hx (j := 0) (by omega)
    rw [h] at this; cases this
  · have c : ∀ j u, j < 2 → (acL x)[j]? = some u → w.cell? ⟨g, o + (i * 2 + j), none⟩ = some u := fun j u hj hu => hc _ u ((acs_get hx hj).trans hu)
    refine ⟨g, o, e, hg, ?_, ?_⟩
    · have := c 0 _ (by omega) rfl; rwa [Nat.add_zero] at this
    · have := c 1 _ (by omega) rfl; rwa [← Nat.add_assoc] at this
/-- What taken leaves. -/
structure TakD (w w' : World) (m : List (Int × Int)) (e : Ending) : Prop where
  out : ∃ ao cap, e = .returned (.slice ao m.length cap) ∧ Lie w' ao (acs m) ∧ (∀ g o, ao = some ⟨g, o, none⟩ → w.heap.size ≤ g) ∧ Below w.heap.size w w'
set_option maxHeartbeats 4000000 in
theorem taken_any {w : World} {ao : Option Addr} {m : List (Int × Int)} (h : Lie w ao (acs m)) (hl : m.length ≤ 1000) (cap : Nat) :
    Calls Tryz.prog 52 #[.slice ao m.length cap] w fun e w' => TakD w w' m e := by
  have HH : Hid (Lie w ao (acs m)) := h
  have hl' : (m.length : Int) ≤ 1000 := by omega
  clear h
  go_enter Tryz.func52, Tryz.ntmps52
  go_wp2_with fail
  go_loopg [3, 4] m.length (fun gg t3 t4 W => ∃ (gw : World) (k : Nat) (v : Value), gw = W ∧ t4 = .int .i64 k ∧ k ≤ m.length ∧ m.length - k ≤ gg ∧ v = t3 ∧ Hid (gw.ownsRow w.heap.size 91 2 v k (acs (m.take k)) ∧ Below w.heap.size w gw))
  case atStart => exact ⟨_, 0, _, rfl, rfl, by omega, by omega, rfl, World.ownsRow_nil _ _ _ _, Below.refl _ _⟩
  case round =>
    obtain ⟨gw, k, v, rfl, rfl, hk, hgk, rfl, HG⟩ := hrel
    by_cases hlt : (k : Int) < (m.length : Int)
    · obtain ⟨x, hx⟩ : ∃ x, m[k]? = some x := ⟨_, List.getElem?_eq_getElem (by omega)⟩
      have HX : Hid (m[k]? = some x) := hx
      obtain ⟨g, o, rfl, hgl, c0, c1⟩ := lie_atA HH.out hx
      obtain ⟨x0, x1⟩ := x
      have d0 : gw.cell? ⟨g, o + k * 2, none⟩ = some (.int .i64 x0) := (HG.out.2.cell (p := ⟨g, o + k * 2, none⟩) hgl).trans c0
      have d1 : gw.cell? ⟨g, o + k * 2 + 1, none⟩ = some (.int .i64 x1) := (HG.out.2.cell (p := ⟨g, o + k * 2 + 1, none⟩) hgl).trans c1
      obtain ⟨aa, ac, hv, _⟩ := own_lie HG.out.1
      obtain ⟨i0, z, hi0, hz0, hz3, hzs, hzb⟩ := infoE_parts'
      have HI : Hid (Tryz.prog.info? 91 = some i0 ∧ i0.zero = some z ∧ z.cells.size = 2 ∧ i0.size = 2 ∧ i0.bytes = 16) := ⟨hi0, hz0, hz3, hzs, hzb⟩
      clear hi0 hz0 hz3 hzs hzb hx c0 c1
      subst hv
      have HZA : Hid (w.heap.size ≤ (gw.alloc (.cells #[.int .i64 x0, .int .i64 x1] 91)).heap.size) := by show _ ≤ _; rw [size_alloc]; have h1 := HG.out.2.size; omega
      have HBA : Hid (Below w.heap.size w (gw.alloc (.cells #[.int .i64 x0, .int .i64 x1] 91)).drew) := (HG.out.2.alloc HG.out.2.size _).drew
      go_upto_region 5 with fail
      go_region_law (refine step_app rfl (.tmp 11) (.tmp 23) 99 rfl w.heap.size 91 i0 z 2 16 Tryz.underlying99 HI.out.1 HI.out.2.1 HI.out.2.2.2.1 HI.out.2.2.2.2 HI.out.2.2.1 (by decide) (by decide) k (acs (m.take k)) (acL (x0, x1)) (.slice aa k ac) (by simp [Act.eval]) gw.heap.size 1 (by simp [Act.eval]) (row_same HG.out.1 fun j hj => Below.heap_alloc gw.drew _ _ (World.ownsRow.lt HG.out.1 j hj).2) rfl (fun j u hj => (cell_of_row _ _ _ _ _ _ (heap_alloc_new gw.drew _)).trans (by rw [← hj]; rcases j with _ | _ | j <;> rfl)) (fun u hu => by simp [acL] at hu; rcases hu with rfl | rfl <;> rfl) HZA.out (by omega) ?_; intro G c w5 ho5 hg5 hat5; have H5 : Hid (w5.ownsRow w.heap.size 91 2 (.slice (some ⟨G, 0, none⟩) (k + 1) c) (k + 1) (acs (m.take k) ++ acL (x0, x1)) ∧ Below w.heap.size w w5) := ⟨ho5, HBA.out.trans ((Below.refl _ _).grown hg5 HZA.out (fun k hk => (World.ownsRow.lt HG.out.1 k hk).1))⟩; clear ho5 hg5 hat5)
      all_goals (
        go_wp2_with fail
        go_roundg (m.length - (k + 1))
        case measure => omega
        case rel =>
          refine ⟨_, k + 1, _, rfl, by go_num, by omega, by omega, rfl, ?_, H5.out.2⟩
          rw [List.take_add_one, HX.out]
          show World.ownsRow _ _ _ _ _ _ (acs (m.take k ++ [(x0, x1)]))
          rw [acs_snoc]
          exact H5.out.1)
    · obtain rfl : k = m.length := by omega
      obtain ⟨aa, ac, hv, hla, _, hfr, _⟩ := own_lie HG.out.1
      subst hv
      have HL : Hid (Lie gw aa (acs (m.take m.length)) ∧ ∀ g o, aa = some ⟨g, o, none⟩ → w.heap.size ≤ g ∧ g < gw.heap.size) := ⟨hla, hfr⟩
      clear hla hfr
      go_wp2_with fail
      go_ret
      have h1 := HL.out.1
      rw [List.take_length] at h1
      exact ⟨⟨aa, ac, rfl, h1, fun g o e => (HL.out.2 g o e).1, HG.out.2⟩⟩
set_option maxHeartbeats 4000000 in
theorem same12_any {w : World} {ao bo : Option Addr} {m : List (Int × Int)} (h : Lie w ao (acs m)) (h2 : Lie w bo (acs m)) (hl : m.length ≤ 1000) (cap cap2 : Nat) :
    Calls Tryz.prog 51 #[.slice ao m.length cap, .slice bo m.length cap2] w fun e w' => e = .returned (.bool true) ∧ Below w.heap.size w w' := by
  have HH : Hid (Lie w ao (acs m) ∧ Lie w bo (acs m)) := ⟨h, h2⟩
  have hl' : (m.length : Int) ≤ 1000 := by omega
  clear h h2
  go_enter Tryz.func51, Tryz.ntmps51
  go_wp2_with fail
  go_loopg [5] m.length (fun gg t5 W => ∃ (gw : World) (k : Nat), gw = W ∧ t5 = .int .i64 k ∧ k ≤ m.length ∧ m.length - k ≤ gg ∧ Hid (Below w.heap.size w gw))
  case atStart => exact ⟨_, 0, rfl, rfl, by omega, by omega, Below.refl _ _⟩
  case round =>
    obtain ⟨gw, k, rfl, rfl, hk, hgk, HG⟩ := hrel
    by_cases hlt : (k : Int) < (m.length : Int)
    · obtain ⟨x, hx⟩ : ∃ x, m[k]? = some x := ⟨_, List.getElem?_eq_getElem (by omega)⟩
      obtain ⟨g, o, rfl, hgl, c0, c1⟩ := lie_atA HH.out.1 hx
      obtain ⟨g2, o2, rfl, hgl2, e0, e1⟩ := lie_atA HH.out.2 hx
      obtain ⟨x0, x1⟩ := x
      have d0 : gw.cell? ⟨g, o + k * 2, none⟩ = some (.int .i64 x0) := (HG.out.cell (p := ⟨g, o + k * 2, none⟩) hgl).trans c0
      have d1 : gw.cell? ⟨g, o + k * 2 + 1, none⟩ = some (.int .i64 x1) := (HG.out.cell (p := ⟨g, o + k * 2 + 1, none⟩) hgl).trans c1
      have b0 : gw.cell? ⟨g2, o2 + k * 2, none⟩ = some (.int .i64 x0) := (HG.out.cell (p := ⟨g2, o2 + k * 2, none⟩) hgl2).trans e0
      have b1 : gw.cell? ⟨g2, o2 + k * 2 + 1, none⟩ = some (.int .i64 x1) := (HG.out.cell (p := ⟨g2, o2 + k * 2 + 1, none⟩) hgl2).trans e1
      clear hx c0 c1 e0 e1
      go_upto_region 6 with fail
      go_quiet (fail)
      have HGN : Hid (Below w.heap.size w (gw.drewN nq)) := HG.out.trans ((belowN (Below.refl _ _) nq).mono HG.out.size)
      go_wp2_with fail
      go_roundg (m.length - (k + 1))
      case measure => omega
      case rel => exact ⟨_, k + 1, rfl, by go_num, by omega, by omega, HGN.out⟩
    · go_wp2_with fail
      go_ret
      exact ⟨rfl, HG.out⟩
end Go.Proofs.YthaogbbclocmaaaGreat
/- Slices of calls that came in: leveelaw12.Call. -/
namespace Go.Proofs.YthaogbbclocmaaaGreat
open Go.ChangeShapes Go.WideShapes Go.ChangeAt Go.RowKit
set_option maxRecDepth 100000
/-- A call: its kind, a number of a change, an act (kind, number), and a number. -/
structure Cll where
  K : Int
  id : Int
  a : Int
  n : Int
  N : Int
def Cll.at' (q : Cll) (W : World) (a : Addr) : Prop :=
  W.cell? (a.add 0) = some (.int .i64 q.K) ∧ W.cell? (a.add 1) = some (.int .i64 q.id) ∧ W.cell? (a.add 2) = some (.int .i64 q.a) ∧ W.cell? (a.add 3) = some (.int .i64 q.n) ∧ W.cell? (a.add 4) = some (.int .i64 q.N)
def Cll.ok (q : Cll) : Prop := -9223372036854775808 ≤ q.id ∧ q.id ≤ 9223372036854775807
theorem four_of {α : Type} {l : List α} (h : l.length = 4) : ∃ a b c d, l = [a, b, c, d] := by
  match l, h with
  | [a, b, c, d], _ => exact ⟨a, b, c, d, rfl⟩
theorem two_of {α : Type} {l : List α} (h : l.length = 2) : ∃ a b, l = [a, b] := by
  match l, h with
  | [a, b], _ => exact ⟨a, b, rfl⟩
theorem five_of {α : Type} {l : List α} (h : l.length = 5) : ∃ a b c d e, l = [a, b, c, d, e] := by
  match l, h with
  | [a, b, c, d, e], _ => exact ⟨a, b, c, d, e, rfl⟩
theorem cll_fields : ∃ f0 f1 f2 f3 : Field, Tryz.prog.underlying 93 = some (.struct #[f0, f1, f2, f3]) ∧ (f0.type = 3 ∧ f0.offset = 0) ∧ (f1.type = 2 ∧ f1.offset = 1) ∧ (f2.type = 91 ∧ f2.offset = 2) ∧ (f3.type = 3 ∧ f3.offset = 4) := by
  have h : (match Tryz.prog.underlying 93 with | some (.struct fs) => some (fs.toList.map fun f => (f.type, f.offset)) | _ => none) = some [(3, 0), (2, 1), (91, 2), (3, 4)] := by kernel_rfl
  cases hu : Tryz.prog.underlying 93 with
  | none => rw [hu] at h; cases h
  | some d =>
    rw [hu] at h
    cases d with
    | struct fs =>
      have h' : (fs.toList.map fun f => (f.type, f.offset)) = [(3, 0), (2, 1), (91, 2), (3, 4)] := Option.some.inj h
      obtain ⟨f0, f1, f2, f3, hf⟩ := four_of (l := fs.toList) (by have := congrArg List.length h'; simpa using this)
      rw [hf] at h'
      simp only [List.map_cons, List.map_nil, List.cons.injEq, Prod.mk.injEq, and_true] at h'
      refine ⟨f0, f1, f2, f3, ?_, h'.1, h'.2.1, h'.2.2.1, h'.2.2.2⟩
      have : fs = #[f0, f1, f2, f3] := by cases fs; simp_all
      rw [this]
    | _ => cases h
theorem ract_fields : ∃ f0 f1 : Field, Tryz.prog.underlying 91 = some (.struct #[f0, f1]) ∧ (f0.type = 3 ∧ f0.offset = 0) ∧ (f1.type = 3 ∧ f1.offset = 1) := by
  have h : (match Tryz.prog.underlying 91 with | some (.struct fs) => some (fs.toList.map fun f => (f.type, f.offset)) | _ => none) = some [(3, 0), (3, 1)] := by kernel_rfl
  cases hu : Tryz.prog.underlying 91 with
  | none => rw [hu] at h; cases h
  | some d =>
    rw [hu] at h
    cases d with
    | struct fs =>
      have h' : (fs.toList.map fun f => (f.type, f.offset)) = [(3, 0), (3, 1)] := Option.some.inj h
      obtain ⟨f0, f1, hf⟩ := two_of (l := fs.toList) (by have := congrArg List.length h'; simpa using this)
      rw [hf] at h'
      simp only [List.map_cons, List.map_nil, List.cons.injEq, Prod.mk.injEq, and_true] at h'
      refine ⟨f0, f1, ?_, h'.1, h'.2⟩
      have : fs = #[f0, f1] := by cases fs; simp_all
      rw [this]
    | _ => cases h
theorem trod_struct4' {H : Type} {enc : TypeId × Value → H} {W : World} {t : TypeId} {f0 f1 f2 f3 : Field} {fuel : Nat} {cs : List Value} {x : DataW H × List MemPlace} (ht : Tryz.prog.underlying t = some (.struct #[f0, f1, f2, f3])) (h : DataW.trod enc Tryz.prog W 0 (fun _ => true) true fuel t cs = some x) :
    ∃ y0 y1 y2 y3 n, cs.length = Tryz.prog.cellsOf t ∧ DataW.trod enc Tryz.prog W 0 (fun _ => true) true n f0.type ((cs.drop f0.offset).take (Tryz.prog.cellsOf f0.type)) = some y0 ∧
      DataW.trod enc Tryz.prog W 0 (fun _ => true) true n f1.type ((cs.drop f1.offset).take (Tryz.prog.cellsOf f1.type)) = some y1 ∧ DataW.trod enc Tryz.prog W 0 (fun _ => true) true n f2.type ((cs.drop f2.offset).take (Tryz.prog.cellsOf f2.type)) = some y2 ∧
      DataW.trod enc Tryz.prog W 0 (fun _ => true) true n f3.type ((cs.drop f3.offset).take (Tryz.prog.cellsOf f3.type)) = some y3 := by
  obtain ⟨xs, n, _, rfl, hl, hlen, hf⟩ := DataW.trod_struct ht h
  match xs, hlen with
  | [y0, y1, y2, y3], _ => exact ⟨y0, y1, y2, y3, n, hl, by simpa using hf 0 f0 rfl, by simpa using hf 1 f1 rfl, by simpa using hf 2 f2 rfl, by simpa using hf 3 f3 rfl⟩
theorem trod_struct2' {H : Type} {enc : TypeId × Value → H} {W : World} {t : TypeId} {f0 f1 : Field} {fuel : Nat} {cs : List Value} {x : DataW H × List MemPlace} (ht : Tryz.prog.underlying t = some (.struct #[f0, f1])) (h : DataW.trod enc Tryz.prog W 0 (fun _ => true) true fuel t cs = some x) :
    ∃ y0 y1 n, cs.length = Tryz.prog.cellsOf t ∧ DataW.trod enc Tryz.prog W 0 (fun _ => true) true n f0.type ((cs.drop f0.offset).take (Tryz.prog.cellsOf f0.type)) = some y0 ∧
      DataW.trod enc Tryz.prog W 0 (fun _ => true) true n f1.type ((cs.drop f1.offset).take (Tryz.prog.cellsOf f1.type)) = some y1 := by
  obtain ⟨xs, n, _, rfl, hl, hlen, hf⟩ := DataW.trod_struct ht h
  match xs, hlen with
  | [y0, y1], _ => exact ⟨y0, y1, n, hl, by simpa using hf 0 f0 rfl, by simpa using hf 1 f1 rfl⟩
/-- A slice of m calls. -/
def CllsAt (w : World) (sp : Option Addr) (m : Nat) (A : Nat → Cll) : Prop :=
  0 < m → ∃ b off, sp = some ⟨b, off, none⟩ ∧ b < w.heap.size ∧ ∀ k, k < m → (A k).at' w ⟨b, off + k * 5, none⟩ ∧ (A k).ok
theorem open_clls {H : Type} {enc : TypeId × Value → H} {W : World} {base : Nat} {v : Value} {d : DataW H} {p : List MemPlace}
    (hv : Value.okWide Tryz.prog W .any base 83 v) (h : DataW.Trod enc Tryz.prog W 0 (fun _ => true) true 83 v d p) :
    ∃ sp m cap, ∃ A : Nat → Cll, v = .slice sp m cap ∧ (m ≤ cap ∧ (cap : Int) ≤ 9223372036854775807 ∧ CllsAt W sp m A) := by
  obtain ⟨a0, len0, cap0, rfl⟩ := okWide_slice Tryz.underlying83 hv
  obtain ⟨fuel, hf⟩ := h
  have hce : Tryz.prog.cellsOf 93 = 5 := by kernel_rfl
  have hca : Tryz.prog.cellsOf 91 = 2 := by kernel_rfl
  have hc3 : Tryz.prog.cellsOf 3 = 1 := by kernel_rfl
  have hc2 : Tryz.prog.cellsOf 2 = 1 := by kernel_rfl
  obtain ⟨f0, f1, f2, f3, hu, ⟨t0, o0⟩, ⟨t1, o1⟩, ⟨t2, o2⟩, ⟨t3, o3⟩⟩ := cll_fields
  obtain ⟨e0, e1, hue, ⟨s0, p0⟩, ⟨s1, p1⟩⟩ := ract_fields
  rcases Deep.open_slice Tryz.underlying83 hf with ⟨hcs, _⟩ | ⟨x, len, cap, m, n, D, Pl, hcs, _, hl, hm, hmm, hx, hel⟩
  · simp [Value.cells] at hcs
    obtain ⟨rfl, rfl, rfl⟩ := hcs
    exact ⟨none, 0, 0, fun _ => ⟨0, 0, 0, 0, 0⟩, rfl, Nat.le_refl _, by omega, fun h => by omega⟩
  · simp [Value.cells] at hcs
    obtain ⟨rfl, rfl, rfl⟩ := hcs
    simp only [if_true] at hmm
    subst hmm
    have each : ∀ i, i < len0 → ∃ q : Cll, q.at' W (x.add (i * 5)) ∧ q.ok := by
      intro i hi
      obtain ⟨cs', h1, h2⟩ := hel i (by omega)
      rw [hce] at h1
      obtain ⟨_, hlen, hcell⟩ := World.cells?_some h1
      obtain ⟨y0, y1, y2, y3, k, _, g0, g1, g2, g3⟩ := trod_struct4' hu h2
      obtain ⟨v0, v1, v2, v3, v4, rfl⟩ := five_of hlen
      rw [t0, o0, hc3] at g0
      rw [t1, o1, hc2] at g1
      rw [t2, o2, hca] at g2
      rw [t3, o3, hc3] at g3
      obtain ⟨z0, z1, k2, _, k0, k1⟩ := trod_struct2' hue g2
      rw [s0, p0, hc3] at k0
      rw [s1, p1, hc3] at k1
      obtain ⟨n0, e0, _, w0⟩ := DataW.trod_int Tryz.underlying3 g0
      obtain ⟨n1, e1, _, w1⟩ := DataW.trod_int Tryz.underlying2 g1
      obtain ⟨n2, e2, _, w2⟩ := DataW.trod_int Tryz.underlying3 k0
      obtain ⟨n3, e3, _, w3⟩ := DataW.trod_int Tryz.underlying3 k1
      obtain ⟨n4, e4, _, w4⟩ := DataW.trod_int Tryz.underlying3 g3
      simp at e0 e1 e2 e3 e4
      subst e0 e1 e2 e3 e4
      have bd1 := bounds_i64 w1
      exact ⟨⟨n0, n1, n2, n3, n4⟩, ⟨by simpa using hcell 0 (by omega), by simpa using hcell 1 (by omega), by simpa using hcell 2 (by omega), by simpa using hcell 3 (by omega), by simpa using hcell 4 (by omega)⟩, ⟨bd1.1, (show n1 ≤ 9223372036854775807 by omega)⟩⟩
    have hinh : Inhabited Cll := ⟨⟨0, 0, 0, 0, 0⟩⟩
    obtain ⟨q, hq⟩ := Deep.choose_lt (α := Cll) each
    refine ⟨some x, len0, m, q, rfl, hl, by unfold maxLen at hm; omega, fun h0 => ?_⟩
    have hsp : x.spot = none := by
      have h1 := (hq 0 h0).1.1
      simpa [Addr.add] using World.cell?_spot h1
    obtain ⟨b, off, rfl⟩ : ∃ b off, x = ⟨b, off, none⟩ := ⟨x.block, x.off, by cases x; simp_all⟩
    refine ⟨b, off, rfl, ?_, fun k hk => ?_⟩
    · have h1 := (hq 0 h0).1.1
      rw [addr_add, addr_add] at h1
      exact block_lt_of_cell h1
    · have := hq k hk
      rw [addr_add] at this; exact this
end Go.Proofs.YthaogbbclocmaaaGreat
/- The walk of leveelaw12.PushWork: what is kept. -/
namespace Go.Proofs.YthaogbbclocmaaaGreat
open Go.RowKit
set_option maxRecDepth 100000
section
variable {w0 w w' : World} {p dp q : Nat} {s s' : PSt} {ops ops' : Nat → List Int} {κ κ' m m' : Nat} {A A' : Nat → List Int} {L L' : List RCh} {D D' : Nat → Prop} {a b : Nat} {v v' vd vd' : Value} {l l' ld ld' : List Wt} {gb : Nat} {c : Cll}
theorem BW.keep (h : BW w0 w p dp q s ops κ m A L D) {S : Nat → Prop} (hf : Fr S w w') (hS : ∀ k, Ak s k ∨ D k → ¬ S k) (hb : ∀ k, S k → w0.heap.size ≤ k) : BW w0 w' p dp q s ops κ m A L D :=
  { h with gw := h.gw.keep hf (fun k hk => hS k (.inl hk)) hb, rs := h.rs.keep hf (fun k hk => hS k (.inr hk)) }
/-- Both stores, both works, and the call in a box of its own. -/
structure QW (w0 w : World) (p dp q : Nat) (s : PSt) (ops : Nat → List Int) (κ m : Nat) (A : Nat → List Int) (L : List RCh) (D : Nat → Prop) (a b : Nat) (v vd : Value) (l ld : List Wt) (gb : Nat) (c : Cll) : Prop where
  bw : BW w0 w p dp q s ops κ m A L D
  wk : WkG w w0.heap.size a v l
  wd : WdG w w0.heap.size b vd ld
  n1 : ∀ k, Wo a v k → ¬ (Ak s k ∨ D k) ∧ ¬ Wo b vd k
  n2 : ∀ k, Wo b vd k → ¬ (Ak s k ∨ D k)
  bx : w.heap[gb]? = some (.cells #[.int .i64 c.K, .int .i64 c.id, .int .i64 c.a, .int .i64 c.n, .int .i64 c.N] 93 (0, 0))
  nb : ¬ (Ak s gb ∨ D gb) ∧ ¬ Wo a v gb ∧ ¬ Wo b vd gb
theorem QW.lt (h : QW w0 w p dp q s ops κ m A L D a b v vd l ld gb c) : ∀ k, Ak s k ∨ D k → k < w.heap.size := fun k hk => by
  rcases hk with hk | hk
  · exact h.bw.gw.pm.lt hk
  · exact h.bw.rs.ltD k hk
theorem QW.gbl (h : QW w0 w p dp q s ops κ m A L D a b v vd l ld gb c) : gb < w.heap.size := (Array.getElem?_eq_some_iff.1 h.bx).1
theorem QW.up (h : QW w0 w p dp q s ops κ m A L D a b v vd l ld gb c) (hb : Below w.heap.size w w') : QW w0 w' p dp q s ops κ m A L D a b v vd l ld gb c :=
  { h with bw := h.bw.up hb, wk := h.wk.up hb, wd := h.wd.up hb, bx := (hb.block gb h.gbl).trans h.bx }
theorem QW.more (h : QW w0 w p dp q s ops κ m A L D a b v vd l ld gb c) (hk : κ ≤ κ') (hm : m ≤ m') : QW w0 w p dp q s ops κ' m' A L D a b v vd l ld gb c := { h with bw := h.bw.more hk hm }
theorem QW.be (h : QW w0 w p dp q s ops κ m A L D a b v vd l ld gb c) : Below w0.heap.size w0 w := h.bw.gw.be
theorem QW.keep (h : QW w0 w p dp q s ops κ m A L D a b v vd l ld gb c) {S : Nat → Prop} (hf : Fr S w w') (hS : ∀ k, S k → w0.heap.size ≤ k ∧ ¬ (Ak s k ∨ D k) ∧ ¬ Wo a v k ∧ ¬ Wo b vd k ∧ k ≠ gb) : QW w0 w' p dp q s ops κ m A L D a b v vd l ld gb c :=
  { h with bw := h.bw.keep hf (fun k hk hs => (hS k hs).2.1 hk) (fun k hk => (hS k hk).1), wk := h.wk.fr hf (fun k hk hs => (hS k hs).2.2.1 hk), wd := h.wd.fr hf (fun k hk hs => (hS k hs).2.2.2.1 hk), bx := (hf.blk gb h.gbl (fun hs => (hS gb hs).2.2.2.2 rfl)).trans h.bx }
/-- The program's work has changed. -/
theorem QW.work (h : QW w0 w p dp q s ops κ m A L D a b v vd l ld gb c) (hw : WkG w' w0.heap.size a v' l') (hf : Fr (Wo a v) w w') (hn : ∀ k, Wo a v' k → Wo a v k ∨ w.heap.size ≤ k) : QW w0 w' p dp q s ops κ m A L D a b v' vd l' ld gb c := by
  refine ⟨h.bw.keep hf (fun k hk hs => (h.n1 k hs).1 hk) (fun k hk => (h.wk.lt k hk).1), hw, h.wd.fr hf (fun k hk hs => (h.n1 k hs).2 hk), fun k hk => ?_, h.n2, (hf.blk gb h.gbl h.nb.2.1).trans h.bx, h.nb.1, fun hk => ?_, h.nb.2.2⟩
  · rcases hn k hk with h1 | h1
    · exact h.n1 k h1
    · exact ⟨fun h2 => by have := h.lt k h2; omega, fun h2 => by have := (h.wd.lt k h2).2; omega⟩
  · rcases hn gb hk with h1 | h1
    · exact h.nb.2.1 h1
    · have := h.gbl; omega
/-- The document's work has changed. -/
theorem QW.doc (h : QW w0 w p dp q s ops κ m A L D a b v vd l ld gb c) (hw : WdG w' w0.heap.size b vd' ld') (hf : Fr (Wo b vd) w w') (hn : ∀ k, Wo b vd' k → Wo b vd k ∨ w.heap.size ≤ k) : QW w0 w' p dp q s ops κ m A L D a b v vd' l ld' gb c := by
  refine ⟨h.bw.keep hf (fun k hk hs => h.n2 k hs hk) (fun k hk => (h.wd.lt k hk).1), h.wk.fr hf (fun k hk hs => (h.n1 k hk).2 hs), hw, fun k hk => ⟨(h.n1 k hk).1, fun h2 => ?_⟩, fun k hk => ?_, (hf.blk gb h.gbl h.nb.2.2).trans h.bx, h.nb.1, h.nb.2.1, fun hk => ?_⟩
  · rcases hn k h2 with h1 | h1
    · exact (h.n1 k hk).2 h1
    · have := (h.wk.lt k hk).2; omega
  · rcases hn k hk with h1 | h1
    · exact h.n2 k h1
    · exact fun h2 => by have := h.lt k h2; omega
  · rcases hn gb hk with h1 | h1
    · exact h.nb.2.2 h1
    · have := h.gbl; omega
/-- The stores have changed. -/
theorem QW.both (h : QW w0 w p dp q s ops κ m A L D a b v vd l ld gb c) {w1 : World} (hf1 : Fr (Ak s) w w1) (hf2 : Fr D w1 w') (hb : BW w0 w' p dp q s' ops' κ' m' A' L' D') (hs : ∀ k, Ak s' k ∨ D' k → (Ak s k ∨ D k) ∨ w.heap.size ≤ k) : QW w0 w' p dp q s' ops' κ' m' A' L' D' a b v vd l ld gb c := by
  have hf : Fr (fun k => Ak s k ∨ D k) w w' := (hf1.mono fun k _ hk => .inl hk).then hf2 fun k _ hk => .inr hk
  refine ⟨hb, h.wk.fr hf (fun k hk => (h.n1 k hk).1), h.wd.fr hf (fun k hk => h.n2 k hk), fun k hk => ⟨fun h2 => ?_, (h.n1 k hk).2⟩, fun k hk h2 => ?_, (hf.blk gb h.gbl h.nb.1).trans h.bx, fun h2 => ?_, h.nb.2⟩
  · rcases hs k h2 with h1 | h1
    · exact (h.n1 k hk).1 h1
    · have := (h.wk.lt k hk).2; omega
  · rcases hs k h2 with h1 | h1
    · exact h.n2 k hk h1
    · have := (h.wd.lt k hk).2; omega
  · rcases hs gb h2 with h1 | h1
    · exact h.nb.1 h1
    · have := h.gbl; omega
/-- An act waits, in both. -/
theorem both_later (h : QW w0 w p dp q s ops κ m A L D a b v vd l l gb c) (hid : c.ok) (hl : l.length ≤ 1000) :
    Calls Tryz.prog 48 #[.pointer (some ⟨a, 0, none⟩), .int .i64 c.id, .agg #[.int .i64 c.a, .int .i64 c.n]] w fun r w1 => ∃ e : Int, r = .returned (.int .i64 e) ∧ w1.heap[gb]? = some (.cells #[.int .i64 c.K, .int .i64 c.id, .int .i64 c.a, .int .i64 c.n, .int .i64 c.N] 93 (0, 0)) ∧
      Calls Tryz.prog 50 #[.pointer (some ⟨b, 0, none⟩), .int .i64 c.id, .agg #[.int .i64 c.a, .int .i64 c.n]] w1 fun r2 w2 => r2 = .returned (.int .i64 e) ∧ ∃ v' vd' l', QW w0 w2 p dp q s ops κ m A L D a b v' vd' l' l' gb c ∧ l'.length ≤ l.length + 1 := by
  have hbz := h.be.size
  by_cases hK : 1 ≤ c.a ∧ c.a ≤ 3
  · refine (wglater_any h.wk c.id c.a c.n hid hK (by omega) hbz).mono ?_
    rintro r w1 ⟨rfl, v', hw, hf, hn⟩
    have h1 := h.work hw hf hn
    refine ⟨0, rfl, h1.bx, (wdlater_any h1.wd c.id c.a c.n hK (by omega) h1.be.size).mono ?_⟩
    rintro r w2 ⟨rfl, vd', hw2, hf2, hn2⟩
    exact ⟨rfl, v', vd', _, h1.doc hw2 hf2 hn2, by rw [List.length_append]; exact Nat.le_refl _⟩
  · refine (wglater_bad w a c.id c.a c.n (by omega)).mono ?_
    rintro r w1 ⟨rfl, hb⟩
    have h1 := h.up hb
    refine ⟨1, rfl, h1.bx, (wdlater_bad w1 b c.id c.a c.n (by omega)).mono ?_⟩
    rintro r w2 ⟨rfl, hb2⟩
    exact ⟨rfl, v, vd, l, h1.up hb2, by omega⟩
/-- A block is written, in both. -/
theorem q_write (h : QW w0 w p dp q s ops κ m A L D a b v vd l l gb c) (hκ : κ ≤ 900) (hm : m ≤ 900) (n : Int) :
    Calls Tryz.prog 26 #[.pointer (some ⟨p, 0, none⟩), .int .i64 n] w fun r w1 => ∃ e : Int, r = .returned (.int .i64 e) ∧ w1.heap[gb]? = some (.cells #[.int .i64 c.K, .int .i64 c.id, .int .i64 c.a, .int .i64 c.n, .int .i64 c.N] 93 (0, 0)) ∧
      Calls Tryz.prog 55 #[.pointer (some ⟨q, 0, none⟩), .int .i64 n] w1 fun r2 w2 => r2 = .returned (.int .i64 e) ∧ ∃ s' D' L', QW w0 w2 p dp q s' ops (κ + 1) (m + 1) A L' D' a b v vd l l gb c := by
  refine (both_write h.bw hκ hm n).mono ?_
  rintro r w1 ⟨e, rfl, hf1, hC⟩
  refine ⟨e, rfl, (hf1.blk gb h.gbl fun hk => h.nb.1 (.inl hk)).trans h.bx, hC.mono ?_⟩
  rintro r w2 ⟨rfl, hf2, s', D', L', hB, _, hs⟩
  exact ⟨rfl, s', D', L', h.both hf1 hf2 hB hs⟩
theorem q_flush (h : QW w0 w p dp q s ops κ m A L D a b v vd l l gb c) (hκ : κ ≤ 900) (hm : 1 ≤ m) :
    Calls Tryz.prog 27 #[.pointer (some ⟨p, 0, none⟩)] w fun r w1 => r = .returned (.int .i64 0) ∧
      Calls Tryz.prog 56 #[.pointer (some ⟨q, 0, none⟩)] w1 fun r2 w2 => r2 = .returned (.int .i64 0) ∧ ∃ s' ops' D' L', QW w0 w2 p dp q s' ops' (κ + 1) m A L' D' a b v vd l l gb c := by
  refine (both_flush h.bw hκ hm).mono ?_
  rintro r w1 ⟨rfl, hf1, hC⟩
  refine ⟨rfl, hC.mono ?_⟩
  rintro r w2 ⟨rfl, hf2, s', ops', D', L', hB, _, hs⟩
  exact ⟨rfl, s', ops', D', L', h.both hf1 hf2 hB hs⟩
/-- What is ripe is taken, from both, one after the other. -/
theorem q_ripe (h : QW w0 w p dp q s ops κ m A L D a b v vd l l gb c) (hl : l.length ≤ 1000) :
    Calls Tryz.prog 53 #[.pointer (some ⟨a, 0, none⟩), .pointer (some ⟨p, 0, none⟩)] w fun r w1 => ∃ ao n cap, r = .returned (.slice ao n cap) ∧
      Calls Tryz.prog 52 #[.slice ao n cap] w1 fun r2 w2 => ∃ ao2 cap2, r2 = .returned (.slice ao2 n cap2) ∧
        Calls Tryz.prog 54 #[.pointer (some ⟨b, 0, none⟩), .pointer (some ⟨q, 0, none⟩)] w2 fun r3 w3 => ∃ ao3 cap3, r3 = .returned (.slice ao3 n cap3) ∧
          Calls Tryz.prog 51 #[.slice ao2 n cap2, .slice ao3 n cap3] w3 fun r4 w4 => r4 = .returned (.bool true) ∧ ∃ v' vd' l', QW w0 w4 p dp q s ops κ m A L D a b v' vd' l' l' gb c ∧ l'.length ≤ l.length := by
  have hrp : rpB s = rpD L s.cnt := funext fun x => rp_same h.bw x
  refine (wgripe_any h.bw.gw h.wk hl (fun k hk hA => (h.n1 k hk).1 (.inl hA)) (Nat.le_refl _)).mono ?_
  rintro r w1 ⟨ao, cap, v', rfl, hN, hw, hf, hn⟩
  have h1 := h.work hw hf hn
  have hlen : ((l.filter (rpB s)).map act).length ≤ 1000 := by rw [List.length_map]; exact Nat.le_trans (List.length_filter_le _ _) hl
  refine ⟨_, _, _, rfl, (taken_any hN.1 hlen cap).mono ?_⟩
  rintro r w2 ⟨ao2, cap2, rfl, hL2, hao2, hb2⟩
  have h2 := h1.up hb2
  refine ⟨_, _, rfl, (wdripe_any h2.wd h2.bw.rs hl h2.be.size).mono ?_⟩
  rintro r w3 ⟨ao3, cap3, vd', rfl, hN3, hw3, hf3, hn3⟩
  have h3 := h2.doc hw3 hf3 hn3
  rw [← hrp] at hN3 h3 ⊢
  have hL3 : Lie w3 ao2 (acs ((l.filter (rpB s)).map act)) := hL2.fr hf3 (.inr fun g o e hs => by
    have e1 := hao2 g o e
    have e2 := (h1.wd.lt g hs).2
    omega)
  refine ⟨_, _, rfl, (same12_any hL3 hN3.1 hlen cap2 cap3).mono ?_⟩
  rintro r w4 ⟨rfl, hb4⟩
  exact ⟨rfl, v', vd', _, h3.up hb4, List.length_filter_le _ _⟩
end
/-- The acts with the first k turned. -/
def mk77 (m : List (Int × Int)) (k : Nat) : List (Int × Int) := (m.take k).map (fun x => (x.1, 77)) ++ m.drop k
theorem mk77_at {m : List (Int × Int)} {k : Nat} {x : Int × Int} (h : m[k]? = some x) : (mk77 m k)[k]? = some x := by
  have hk := (List.getElem?_eq_some_iff.1 h).1
  unfold mk77
  rw [List.getElem?_append_right (by simp; omega), List.getElem?_drop]
  simp only [List.length_map, List.length_take]
  rw [show k + (k - min k m.length) = k by omega]
  exact h
theorem mk77_next {m : List (Int × Int)} {k : Nat} {x : Int × Int} (h : m[k]? = some x) : (mk77 m k).set k (x.1, 77) = mk77 m (k + 1) := by
  have hk := (List.getElem?_eq_some_iff.1 h).1
  unfold mk77
  rw [List.set_append_right _ _ (by simp; omega), List.take_add_one, h]
  have e : m.drop k = x :: m.drop (k + 1) := by
    rw [List.drop_eq_getElem_cons hk]
    congr 1
    have := (List.getElem?_eq_some_iff.1 h).2
    exact this
  rw [e]
  simp only [List.length_map, List.length_take]
  rw [show k - min k m.length = 0 by omega]
  simp
end Go.Proofs.YthaogbbclocmaaaGreat
