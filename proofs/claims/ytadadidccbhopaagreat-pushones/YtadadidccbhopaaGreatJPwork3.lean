/- Package push: Work. -/
import Derived.Test.YtadadidccbhopaaGreatJRdisk7
namespace Go.Proofs.YtadadidccbhopaaGreat
open Go.RowKit
set_option maxRecDepth 100000
/-- What waits: the kind and number of an act, and the change. -/
structure Wt where
  K : Int
  N : Int
  id : Int
def wtL (x : Wt) : List Value := [.int .i64 x.K, .int .i64 x.N, .int .i64 x.id]
def wts (l : List Wt) : List Value := l.flatMap wtL
theorem Tryz.infoW : (Tryz.prog.info? 171).map (fun i => (i.zero.map fun z => z.cells.size, i.size, i.bytes)) = some (some 3, 3, 24) := by kernel_rfl
theorem infoW_parts : ∃ i0 z, Tryz.prog.info? 171 = some i0 ∧ i0.zero = some z ∧ z.cells.size = 3 ∧ i0.size = 3 ∧ i0.bytes = 24 := by
  have h := Tryz.infoW
  cases hi : Tryz.prog.info? 171 with
  | none => rw [hi] at h; cases h
  | some i0 =>
    rw [hi] at h
    simp only [Option.map_some, Option.some.injEq, Prod.mk.injEq] at h
    cases hz : i0.zero with
    | none => rw [hz] at h; cases h.1
    | some z =>
      rw [hz] at h
      exact ⟨i0, z, rfl, hz, Option.some.inj h.1, h.2.1, h.2.2⟩
/-- The work at block q. -/
structure WkAt (w : World) (base q : Nat) (v : Value) (l : List Wt) : Prop where
  at' : w.heap[q]? = some (.cells #[v] 169 (0, 0))
  ow : w.ownsRow base 171 3 v l.length (wts l)
  ne : v.ownBlock ≠ some q
  qb : base ≤ q
theorem WkAt.up {w w' : World} {base q : Nat} {v : Value} {l : List Wt} (h : WkAt w base q v l) (hb : Below w.heap.size w w') : WkAt w' base q v l :=
  ⟨(hb.block q (Array.getElem?_eq_some_iff.1 h.at').1).trans h.at', row_same h.ow fun k hk => hb.block k (World.ownsRow.lt h.ow k hk).2, h.ne, h.qb⟩
set_option maxHeartbeats 1000000 in
theorem wnew_any (w : World) : Calls Tryz.prog 47 #[] w fun e w' => e = .returned (.pointer (some ⟨w.heap.size, 0, none⟩)) ∧ WkAt w' w.heap.size w.heap.size (.slice none 0 0) [] ∧ Below w.heap.size w w' := by
  go_enter Tryz.func47, Tryz.ntmps47
  go_wp2
  go_ret
  exact ⟨rfl, ⟨heap_alloc_new _ _, World.ownsRow_nil _ _ _ _, by simp [Value.ownBlock], Nat.le_refl _⟩, (Below.refl _ _).alloc (Nat.le_refl _) _⟩
section
variable {w : World} {base q : Nat} {v : Value} {l : List Wt}
set_option maxHeartbeats 1000000 in
theorem wlen_any (h : WkAt w base q v l) : Calls Tryz.prog 58 #[.pointer (some ⟨q, 0, none⟩)] w fun e w' => e = .returned (.int .i64 (l.length : Int)) ∧ w' = w := by
  obtain ⟨ao, ca, hv⟩ : ∃ ao ca, v = .slice ao l.length ca := by
    obtain ⟨_, h2⟩ := h.ow
    rcases h2 with ⟨h2, h3⟩ | ⟨g, cap, _, hv, _⟩
    · exact ⟨none, 0, by rw [h2, h3]⟩
    · exact ⟨_, cap, hv⟩
  have q0 : w.cell? ⟨q, 0, none⟩ = some (.slice ao l.length ca) := by rw [← hv]; exact (cell_of_row _ _ _ _ _ _ h.at').trans rfl
  clear h hv
  go_enter Tryz.func58, Tryz.ntmps58
  go_wp2
  go_ret
  exact ⟨rfl, rfl⟩
theorem wk_next {W1 w' : World} {x : Wt} {G cap : Nat} {o : Obj} (h : WkAt W1 base q v l) (hB : Below w.heap.size w W1) (hb : base ≤ w.heap.size) (ho : w'.ownsRow base 171 3 (.slice (some ⟨G, 0, none⟩) (l.length + 1) cap) (l.length + 1) (wts l ++ wtL x)) (hg : (W1.drew.alloc o).grownBy w' v.ownBlock) (hat : v.ownBlock = some G ∨ (W1.drew.alloc o).heap.size ≤ G) (hq : w'.heap[q]? = some (.cells #[v] 169 (0, 0))) :
    WkAt (w'.setCell ⟨q, 0, none⟩ (.slice (some ⟨G, 0, none⟩) (l.length + 1) cap)) base q (.slice (some ⟨G, 0, none⟩) (l.length + 1) cap) (l ++ [x]) ∧ Fr (fun k => k = q ∨ v.ownBlock = some k) w (w'.setCell ⟨q, 0, none⟩ (.slice (some ⟨G, 0, none⟩) (l.length + 1) cap)) ∧ Below base w (w'.setCell ⟨q, 0, none⟩ (.slice (some ⟨G, 0, none⟩) (l.length + 1) cap)) ∧ (∀ k, (Value.slice (some ⟨G, 0, none⟩) (l.length + 1) cap).ownBlock = some k → v.ownBlock = some k ∨ w.heap.size ≤ k) := by
  have hql : q < W1.heap.size := (Array.getElem?_eq_some_iff.1 h.at').1
  have hz1 := hB.size
  have hz : W1.drew.heap.size = W1.heap.size := rfl
  have hgz := hg.size
  rw [size_alloc, hz] at hgz
  rw [size_alloc, hz] at hat
  have hGq : G ≠ q := fun e => by
    rcases hat with e1 | e1
    · exact h.ne (by rw [e1, e])
    · omega
  have st : ∀ k, k ≠ q → (w'.setCell ⟨q, 0, none⟩ (.slice (some ⟨G, 0, none⟩) (l.length + 1) cap)).heap[k]? = w'.heap[k]? := fun k hk => heap_setCell_other w' ⟨q, 0, none⟩ k _ hk
  have hsz : (w'.setCell ⟨q, 0, none⟩ (.slice (some ⟨G, 0, none⟩) (l.length + 1) cap)).heap.size = w'.heap.size := by simp [World.setCell]
  have hwl : wts (l ++ [x]) = wts l ++ wtL x := by unfold wts; rw [List.flatMap_append]; simp
  refine ⟨⟨?_, ?_, fun e => hGq (by cases e; rfl), h.qb⟩, ⟨by rw [hsz]; omega, fun k hk hn => ?_, hg.os.trans hB.os, hg.tape.trans hB.tape, hg.output.trans hB.output⟩, ?_, fun k hk => ?_⟩
  · exact heap_setCell_same w' q 0 _ _ _ hq
  · rw [List.length_append, hwl]
    exact row_same ho fun k hk => st k (fun e => hGq (by cases hk; exact e))
  · have h1 : ¬ k = q := fun e => hn (.inl e)
    have h2 : ¬ v.ownBlock = some k := fun e => hn (.inr e)
    rw [st k h1, hg.block k (by rw [size_alloc, hz]; omega) (fun e => h2 e.symm), Below.heap_alloc _ _ _ (by rw [hz]; omega)]
    exact hB.block k hk
  · exact (((hB.mono hb).drew.alloc (by rw [hz]; omega) o).trans ((Below.refl _ _).grown hg (by rw [size_alloc, hz]; omega) (fun k hk => (World.ownsRow.lt h.ow k hk).1))).setCell (by show base ≤ q; exact h.qb) _
  · cases hk
    exact hat.imp_right fun e => (show w.heap.size ≤ G by omega)
set_option maxHeartbeats 4000000 in
theorem later_any (h : WkAt w base q v l) (id K N : Int) (hK : 1 ≤ K ∧ K ≤ 3) (hl : l.length < 4096) (hb : base ≤ w.heap.size) :
    Calls Tryz.prog 48 #[.pointer (some ⟨q, 0, none⟩), .int .i64 id, .agg #[.int .i64 K, .int .i64 N]] w fun e w' => e = .returned (.int .i64 0) ∧ ∃ v', WkAt w' base q v' (l ++ [⟨K, N, id⟩]) ∧ Fr (fun k => k = q ∨ v.ownBlock = some k) w w' ∧ Below base w w' ∧ (∀ k, v'.ownBlock = some k → v.ownBlock = some k ∨ w.heap.size ≤ k) := by
  have HB1 : Hid (Below w.heap.size w (w.alloc (.cells #[.int .i64 K, .int .i64 N] 95))) := (Below.refl _ _).alloc (Nat.le_refl _) _
  have HW1 : Hid (WkAt (w.alloc (.cells #[.int .i64 K, .int .i64 N] 95)) base q v l) := h.up HB1.out
  have LE := wlen_any HW1.out
  have hl' : (l.length : Int) < 4096 := by omega
  have hK1 : ¬ K < 1 := by omega
  have hK2 : ¬ 3 < K := by omega
  clear h
  go_enter Tryz.func48, Tryz.ntmps48
  go_wp2_with (first | (go_at_call 58; refine Hid.out ?_))
  change Calls _ _ _ _ _
  refine LE.mono ?_
  clear LE
  rintro r w1 ⟨rfl, rfl⟩
  go_upto_region 7 with fail
  have hz1 := size_alloc w (.cells #[.int .i64 K, .int .i64 N] 95)
  have hrow := heap_alloc_new w (.cells #[.int .i64 K, .int .i64 N] 95)
  have b0 : (w.alloc (.cells #[.int .i64 K, .int .i64 N] 95)).cell? ⟨w.heap.size, 0, none⟩ = some (.int .i64 K) := (cell_of_row _ _ _ _ _ _ hrow).trans rfl
  have b1 : (w.alloc (.cells #[.int .i64 K, .int .i64 N] 95)).cell? ⟨w.heap.size, 1, none⟩ = some (.int .i64 N) := (cell_of_row _ _ _ _ _ _ hrow).trans rfl
  have HZ1 : Hid ((w.alloc (.cells #[.int .i64 K, .int .i64 N] 95)).heap.size = w.heap.size + 1) := hz1
  generalize w.alloc (.cells #[.int .i64 K, .int .i64 N] 95) = W1 at *
  obtain ⟨ao, ca, hv⟩ : ∃ ao ca, v = .slice ao l.length ca := by
    obtain ⟨_, h2⟩ := HW1.out.ow
    rcases h2 with ⟨h2, h3⟩ | ⟨g, cap, _, hv, _⟩
    · exact ⟨none, 0, by rw [h2, h3]⟩
    · exact ⟨_, cap, hv⟩
  subst hv
  have hql : q < W1.heap.size := (Array.getElem?_eq_some_iff.1 HW1.out.at').1
  have q0 : W1.cell? ⟨q, 0, none⟩ = some (.slice ao l.length ca) := (cell_of_row _ _ _ _ _ _ HW1.out.at').trans rfl
  have q1 : (W1.alloc (.cells #[.int .i64 K, .int .i64 N, .int .i64 id] 171)).cell? ⟨q, 0, none⟩ = some (.slice ao l.length ca) := (World.cell?_of_block (w := W1) (a := ⟨q, 0, none⟩) (Below.heap_alloc _ _ _ hql)).trans q0
  obtain ⟨i0, z, hi0, hz0, hz3, hzs, hzb⟩ := infoW_parts
  have HI : Hid (Tryz.prog.info? 171 = some i0 ∧ i0.zero = some z ∧ z.cells.size = 3 ∧ i0.size = 3 ∧ i0.bytes = 24) := ⟨hi0, hz0, hz3, hzs, hzb⟩
  have HQL : Hid (q < W1.heap.size) := hql
  clear hi0 hz0 hz3 hzs hzb hrow hz1 hql
  go_region_law (refine step_app rfl (.tmp 24) (.tmp 28) 167 rfl base 171 i0 z 3 24 Tryz.underlying167 HI.out.1 HI.out.2.1 HI.out.2.2.2.1 HI.out.2.2.2.2 HI.out.2.2.1 (by decide) (by decide) l.length (wts l) (wtL ⟨K, N, id⟩) (.slice ao l.length ca) (by simp [Act.eval]) W1.heap.size 1 (by simp [Act.eval]) (row_same HW1.out.ow (fun j hj => Below.heap_alloc _ _ _ (World.ownsRow.lt HW1.out.ow j hj).2)) rfl (fun j u hj => (cell_of_row _ _ _ _ _ _ (heap_alloc_new W1.drew _)).trans (by rw [← hj]; rcases j with _ | _ | _ | j <;> rfl)) (fun u hu => by simp [wtL] at hu; rcases hu with rfl | rfl | rfl <;> rfl) (show base ≤ (W1.drew.alloc (.cells #[.int .i64 K, .int .i64 N, .int .i64 id] 171)).heap.size by rw [size_alloc]; have : W1.drew.heap.size = w.heap.size + 1 := HZ1.out; omega) (by omega) ?_; intro G cap w' ho hg hat; have hat' : w'.heap[q]? = some (.cells #[.slice ao l.length ca] 169 (0, 0)) := ((hg.block q (show q < (W1.drew.alloc (.cells #[.int .i64 K, .int .i64 N, .int .i64 id] 171)).heap.size by rw [size_alloc]; have := HQL.out; show q < W1.heap.size + 1; omega) (fun e => HW1.out.ne e.symm)).trans (Below.heap_alloc W1.drew _ _ HQL.out)).trans HW1.out.at'; have qz : w'.cell? ⟨q, 0, none⟩ = some (.slice ao l.length ca) := (cell_of_row _ _ _ _ _ _ hat').trans rfl; have fzz : w'.frozen? ⟨q, 0, none⟩ = false := frozen_of_row w' _ 0 _ _ hat'; have HN : Hid (w'.ownsRow base 171 3 (.slice (some ⟨G, 0, none⟩) (l.length + 1) cap) (l.length + 1) (wts l ++ wtL ⟨K, N, id⟩) ∧ (W1.drew.alloc (.cells #[.int .i64 K, .int .i64 N, .int .i64 id] 171)).grownBy w' (Value.slice ao l.length ca).ownBlock ∧ ((Value.slice ao l.length ca).ownBlock = some G ∨ (W1.drew.alloc (.cells #[.int .i64 K, .int .i64 N, .int .i64 id] 171)).heap.size ≤ G) ∧ w'.heap[q]? = some (.cells #[.slice ao l.length ca] 169 (0, 0))) := ⟨ho, hg, hat, hat'⟩; clear ho hg hat hat')
  all_goals (
    go_wp2_with fail
    go_ret)
  all_goals exact ⟨rfl, _, wk_next HW1.out HB1.out hb HN.out.1 HN.out.2.1 HN.out.2.2.1 HN.out.2.2.2⟩
end
end Go.Proofs.YtadadidccbhopaaGreat
/- Package push: Ripe, of one act. -/
namespace Go.Proofs.YtadadidccbhopaaGreat
open Go.RowKit
set_option maxRecDepth 100000
section
variable {w0 w : World} {p dp : Nat} {s : PSt} {ops : Nat → List Int} {κ : Nat}
/-- Does it wait no more? -/
def rpB (s : PSt) (x : Wt) : Bool := decide (x.id < 1) || decide (1 ≤ x.id ∧ x.id ≤ (s.cnt : Int) ∧ s.fC x.id = 0)
set_option maxHeartbeats 1000000 in
theorem wripe_any (h : GW w0 w p dp s ops κ) (x : Wt) (hx : -9223372036854775808 ≤ x.id ∧ x.id ≤ 9223372036854775807) :
    Calls Tryz.prog 108 #[.agg #[.int .i64 x.K, .int .i64 x.N, .int .i64 x.id], .pointer (some ⟨p, 0, none⟩)] w fun e w' => e = .returned (.bool (rpB s x)) ∧ Below w.heap.size w w' := by
  obtain rfl : s.p = p := h.p
  have HB : Hid (Below w.heap.size w (w.alloc (.cells #[.int .i64 x.K, .int .i64 x.N, .int .i64 x.id] 171))) := (Below.refl _ _).alloc (Nat.le_refl _) _
  have SF := psafe_any (h.pm.up HB.out) x.id hx
  have HR : Hid (rpB s x = (decide (x.id < 1) || decide (1 ≤ x.id ∧ x.id ≤ (s.cnt : Int) ∧ s.fC x.id = 0))) := rfl
  generalize decide (1 ≤ x.id ∧ x.id ≤ (s.cnt : Int) ∧ s.fC x.id = 0) = b at *
  generalize rpB s x = rb at *
  clear h
  by_cases h1 : x.id < 1
  · clear SF
    go_enter Tryz.func108, Tryz.ntmps108
    go_wp2
    go_ret
    exact ⟨by rw [HR.out, decide_eq_true h1]; rfl, HB.out⟩
  · go_enter Tryz.func108, Tryz.ntmps108
    go_wp2_with (first | (go_at_call 29; refine Hid.out ?_))
    change Calls _ _ _ _ _
    refine SF.mono ?_
    rintro r w1 ⟨rfl, rfl⟩
    go_wp2_with fail
    go_ret
    exact ⟨by rw [HR.out, decide_eq_false (show ¬ x.id < 1 by omega)]; rfl, HB.out⟩
set_option maxHeartbeats 1000000 in
theorem wripe1_any (h : GW w0 w p dp s ops κ) (x : Wt) (hx : -9223372036854775808 ≤ x.id ∧ x.id ≤ 9223372036854775807) (bs : Nat) (hbs : w.cell? ⟨bs, 0, none⟩ = some (.pointer (some ⟨p, 0, none⟩))) (hbl : bs < w.heap.size) :
    Calls Tryz.prog 107 #[.agg #[.int .i64 x.K, .int .i64 x.N, .int .i64 x.id], .pointer (some ⟨bs, 0, none⟩)] w fun e w' => e = .returned (.bool (rpB s x)) ∧ Below w.heap.size w w' := by
  have HB : Hid (Below w.heap.size w (w.alloc (.cells #[.int .i64 x.K, .int .i64 x.N, .int .i64 x.id] 171))) := (Below.refl _ _).alloc (Nat.le_refl _) _
  have WR := wripe_any (h.up HB.out) x hx
  have q0 : (w.alloc (.cells #[.int .i64 x.K, .int .i64 x.N, .int .i64 x.id] 171)).cell? ⟨bs, 0, none⟩ = some (.pointer (some ⟨p, 0, none⟩)) := (HB.out.cell (p := ⟨bs, 0, none⟩) hbl).trans hbs
  clear h
  go_enter Tryz.func107, Tryz.ntmps107
  go_wp2_with (first | (go_at_call 108; refine Hid.out ?_))
  change Calls _ _ _ _ _
  refine WR.mono ?_
  clear WR
  rintro r w1 ⟨rfl, hb1⟩
  have HB1 : Hid (Below w.heap.size w w1) := HB.out.trans (hb1.mono HB.out.size)
  clear hb1
  go_wp2_with fail
  go_ret
  exact ⟨rfl, HB1.out⟩
set_option maxHeartbeats 2000000 in
theorem windex_any (h : GW w0 w p dp s ops κ) (x : Wt) (hx : -9223372036854775808 ≤ x.id ∧ x.id ≤ 9223372036854775807) (bs g cap : Nat) (hbs : w.cell? ⟨bs, 0, none⟩ = some (.pointer (some ⟨p, 0, none⟩))) (hbl : bs < w.heap.size) (hg0 : w.cell? ⟨g, 0, none⟩ = some (.int .i64 x.K)) (hg1 : w.cell? ⟨g, 1, none⟩ = some (.int .i64 x.N)) (hg2 : w.cell? ⟨g, 2, none⟩ = some (.int .i64 x.id)) :
    Calls Tryz.prog 106 #[.slice (some ⟨g, 0, none⟩) 1 cap, .func (.func 107) #[] #[.pointer (some ⟨bs, 0, none⟩)]] w fun e w' => e = .returned (.int .i64 (if rpB s x then 0 else -1)) ∧ Below w.heap.size w w' := by
  have HH : Hid (GW w0 w p dp s ops κ) := h
  have CL := wripe1_any h x hx bs hbs hbl
  have eg : ∀ args w, (callFunc 107 args).run Tryz.prog w = .ok (.enter 107 args) w := enters_of Tryz.func107 (by kernel_rfl) rfl
  clear h
  obtain ⟨rb, hrb⟩ : ∃ rb, rpB s x = rb := ⟨_, rfl⟩
  rw [hrb] at CL ⊢
  clear hrb
  go_enter Tryz.func106, Tryz.ntmps106
  go_wp2_with fail
  go_loopg [5, 8] 1 (fun gg _ t8 W => ∃ (gw : World) (k : Nat), gw = W ∧ k ≤ 1 ∧ 1 - k ≤ gg ∧ t8 = .int .i64 k ∧ Hid ((k = 0 → gw = w) ∧ (k = 1 → rb = false ∧ Below w.heap.size w gw)))
  case atStart => exact ⟨_, 0, rfl, by omega, by omega, rfl, fun _ => rfl, fun h => by omega⟩
  case round =>
    obtain ⟨gw, k, rfl, hk, hgk, rfl, HG⟩ := hrel
    by_cases hk0 : k = 0
    · subst hk0
      obtain rfl : w = gw := (HG.out.1 rfl).symm
      go_wp2_with fail
      refine CL.mono ?_
      clear CL
      rintro r w1 ⟨rfl, hb1⟩
      have HB1 : Hid (Below w.heap.size w w1) := hb1
      clear hb1
      cases rb with
      | true =>
        go_wp2_with fail
        go_ret
        exact ⟨rfl, HB1.out⟩
      | false =>
        go_wp2_with fail
        go_roundg 0
        case measure => omega
        case rel => exact ⟨_, 1, rfl, by omega, by omega, rfl, fun h => by omega, fun _ => ⟨by simp, HB1.out⟩⟩
    · obtain rfl : k = 1 := by omega
      obtain ⟨hrb, hb⟩ := HG.out.2 rfl
      subst hrb
      have HB : Hid (Below w.heap.size w gw) := hb
      clear hb CL
      go_wp2_with fail
      go_ret
      exact ⟨rfl, HB.out⟩
theorem wlen_cell {q n ca : Nat} {ao : Option Addr} (q0 : w.cell? ⟨q, 0, none⟩ = some (.slice ao n ca)) : Calls Tryz.prog 58 #[.pointer (some ⟨q, 0, none⟩)] w fun e w' => e = .returned (.int .i64 (n : Int)) ∧ w' = w := by
  go_enter Tryz.func58, Tryz.ntmps58
  go_wp2
  go_ret
  exact ⟨rfl, rfl⟩
/-- One act that waits. -/
structure Wk1 (w : World) (q g cap : Nat) (x : Wt) : Prop where
  at' : w.heap[q]? = some (.cells #[.slice (some ⟨g, 0, none⟩) 1 cap] 169 (0, 0))
  g0 : w.cell? ⟨g, 0, none⟩ = some (.int .i64 x.K)
  g1 : w.cell? ⟨g, 1, none⟩ = some (.int .i64 x.N)
  g2 : w.cell? ⟨g, 2, none⟩ = some (.int .i64 x.id)
  gq : g ≠ q
  cp : 1 ≤ cap ∧ (cap : Int) ≤ 9223372036854775807
theorem Wk1.gl {q g cap : Nat} {x : Wt} (h : Wk1 w q g cap x) : g < w.heap.size := block_lt_of_cell h.g0
theorem Wk1.ql {q g cap : Nat} {x : Wt} (h : Wk1 w q g cap x) : q < w.heap.size := (Array.getElem?_eq_some_iff.1 h.at').1
theorem Wk1.up {w' : World} {q g cap : Nat} {x : Wt} (h : Wk1 w q g cap x) (hb : Below w.heap.size w w') : Wk1 w' q g cap x :=
  ⟨(hb.block q h.ql).trans h.at', (hb.cell (p := ⟨g, 0, none⟩) h.gl).trans h.g0, (hb.cell (p := ⟨g, 1, none⟩) h.gl).trans h.g1, (hb.cell (p := ⟨g, 2, none⟩) h.gl).trans h.g2, h.gq, h.cp⟩
theorem Wk1.fr {w' : World} {S : Nat → Prop} {q g cap : Nat} {x : Wt} (h : Wk1 w q g cap x) (hf : Fr S w w') (hq : ¬ S q) (hg : ¬ S g) : Wk1 w' q g cap x :=
  ⟨(hf.blk q h.ql hq).trans h.at', (fr_cell hf (a := ⟨g, 0, none⟩) h.gl hg).trans h.g0, (fr_cell hf (a := ⟨g, 1, none⟩) h.gl hg).trans h.g1, (fr_cell hf (a := ⟨g, 2, none⟩) h.gl hg).trans h.g2, h.gq, h.cp⟩
theorem WkAt.one {base q : Nat} {v : Value} {x : Wt} (h : WkAt w base q v [x]) : ∃ g cap, v = .slice (some ⟨g, 0, none⟩) 1 cap ∧ base ≤ g ∧ Wk1 w q g cap x := by
  have ho := h.ow
  obtain ⟨h1, h2⟩ := h.ow
  rcases h2 with ⟨h2, h3⟩ | ⟨g, cap, cur, hv, hg, hh, hn, hm, hs, hx⟩
  · simp at h3
  · subst hv
    have cell : ∀ j, j < 3 → w.cell? ⟨g, j, none⟩ = (wtL x)[j]? := fun j hj => by
      rw [cell_of_row w g _ _ _ _ hh]
      have e : (cur.toList.take ([x].length * 3))[j]? = (wts [x])[j]? := by rw [hx]
      rw [List.getElem?_take, if_pos (by simp; omega)] at e
      rw [← Array.getElem?_toList, e]
      show (wtL x ++ [])[j]? = _
      rw [List.append_nil]
    refine ⟨g, cap, rfl, hg, ⟨h.at', cell 0 (by omega), cell 1 (by omega), cell 2 (by omega), fun e => h.ne (by rw [e]; rfl), ⟨hn, by unfold maxLen at hm; omega⟩⟩⟩
set_option maxHeartbeats 2000000 in
theorem ripe_not {q g cap : Nat} {x : Wt} (h : GW w0 w p dp s ops κ) (hw : Wk1 w q g cap x) (hx : -9223372036854775808 ≤ x.id ∧ x.id ≤ 9223372036854775807) (hr : rpB s x = false) :
    Calls Tryz.prog 53 #[.pointer (some ⟨q, 0, none⟩), .pointer (some ⟨p, 0, none⟩)] w fun e w' => e = .returned (.slice none 0 0) ∧ Below w.heap.size w w' := by
  have HB : Hid (Below w.heap.size w (w.alloc (.cells #[.pointer (some ⟨p, 0, none⟩)] 30))) := (Below.refl _ _).alloc (Nat.le_refl _) _
  have hw1 := hw.up HB.out
  have q0 : (w.alloc (.cells #[.pointer (some ⟨p, 0, none⟩)] 30)).cell? ⟨q, 0, none⟩ = some (.slice (some ⟨g, 0, none⟩) 1 cap) := (cell_of_row _ _ _ _ _ _ hw1.at').trans rfl
  have IX := windex_any (h.up HB.out) x hx w.heap.size g cap ((cell_of_row _ _ _ _ _ _ (heap_alloc_new _ _)).trans rfl) (by rw [size_alloc]; omega) hw1.g0 hw1.g1 hw1.g2
  rw [hr] at IX
  rw [if_neg (by simp)] at IX
  clear h hw hw1 hr
  go_enter Tryz.func53, Tryz.ntmps53
  go_wp2_with (first | (go_at_call 106; refine Hid.out ?_))
  change Calls _ _ _ _ _
  refine IX.mono ?_
  clear IX
  rintro r w1 ⟨rfl, hb1⟩
  have HB1 : Hid (Below w.heap.size w w1) := HB.out.trans (hb1.mono HB.out.size)
  clear hb1
  go_wp2_with fail
  go_ret
  exact ⟨rfl, HB1.out⟩
end
end Go.Proofs.YtadadidccbhopaaGreat
/- Package push: Ripe, of one act that is ripe. -/
namespace Go.Proofs.YtadadidccbhopaaGreat
open Go.RowKit
set_option maxRecDepth 100000
/-- 'append' of one element onto an own row. -/
theorem wpList_app {ops : Array Oper} {rest : List Oper} {o : Oper} {a : Act} {w : World} {Q : Exit → Act → World → Prop} (hgd : o.guard = none) (s x : Operand) (t : TypeId)
    (ho : o.op = .call { callee := .builtin .append, args := #[s, x], argTypes := #[t, t] }) (base e : Nat) (i0 : TypeInfo) (z : Value) (size bytes : Nat) (hu : Tryz.prog.underlying t = some (.slice e)) (hi : Tryz.prog.info? e = some i0) (hz0 : i0.zero = some z) (hz1 : i0.size = size) (hz2 : i0.bytes = bytes) (hz3 : z.cells.size = size) (hsz : 0 < size) (hby : bytes ≤ 1000)
    (n : Nat) (xs ys : List Value) (v : Value) (hs : a.eval s = v) (g c : Nat) (hx : a.eval x = .slice (some ⟨g, 0, none⟩) 1 c) (hown : w.ownsRow base e size v n xs) (hyl : ys.length = size) (hsrc : ∀ j u, ys[j]? = some u → w.cell? ⟨g, j, none⟩ = some u) (hone : ∀ u ∈ ys, u.oneCell' = true) (hbase : base ≤ w.heap.size) (hb : n ≤ 1000000)
    (h : ∀ G cap w', w'.ownsRow base e size (.slice (some ⟨G, 0, none⟩) (n + 1) cap) (n + 1) (xs ++ ys) → w.grownBy w' v.ownBlock → (v.ownBlock = some G ∨ w.heap.size ≤ G) → wpList Tryz.prog ops Q rest (a.put o.dst (.slice (some ⟨G, 0, none⟩) (n + 1) cap)) w') : wpList Tryz.prog ops Q (o :: rest) a w := by
  obtain ⟨G, cap, w', hr, hown', hgr, hat, _⟩ := run_append_lies (P := Tryz.prog) w t o.type base e i0 z size bytes hu hi hz0 hz1 hz2 hz3 hsz v n xs hown ⟨g, 0, none⟩ 1 c ys (by rw [hyl]; omega) (fun j u hj => by rw [addr_add, Nat.zero_add]; exact hsrc j u hj) hone (by omega) (by unfold maxLen; omega) (by
    have : (n + 1) * bytes ≤ 1000001 * 1000 := Nat.mul_le_mul (by omega) hby
    omega) hbase _ rfl
  refine wpList_plain hgd fun K hK => ?_
  unfold Oper.wp execOp
  simp only [ho, resolve, invoke, builtin]
  simp [hs, hx, hr, Result.andThen]
  refine hK _ _ (h G cap w' hown' hgr ?_)
  rcases hat with hat | hat
  · exact .inl hat
  · exact .inr (by omega)
theorem Tryz.infoA : (Tryz.prog.info? 95).map (fun i => (i.zero.map fun z => z.cells.size, i.size, i.bytes)) = some (some 2, 2, 16) := by kernel_rfl
theorem infoA_parts : ∃ i0 z, Tryz.prog.info? 95 = some i0 ∧ i0.zero = some z ∧ z.cells.size = 2 ∧ i0.size = 2 ∧ i0.bytes = 16 := by
  have h := Tryz.infoA
  cases hi : Tryz.prog.info? 95 with
  | none => rw [hi] at h; cases h
  | some i0 =>
    rw [hi] at h
    simp only [Option.map_some, Option.some.injEq, Prod.mk.injEq] at h
    cases hz : i0.zero with
    | none => rw [hz] at h; cases h.1
    | some z =>
      rw [hz] at h
      exact ⟨i0, z, rfl, hz, Option.some.inj h.1, h.2.1, h.2.2⟩
section
variable {w0 w : World} {p dp : Nat} {s : PSt} {ops : Nat → List Int} {κ : Nat}
set_option maxHeartbeats 4000000 in
theorem ripe_yes {q g cap : Nat} {x : Wt} (h : GW w0 w p dp s ops κ) (hw : Wk1 w q g cap x) (hqA : ¬ Ak s q) (hqb : w0.heap.size ≤ q) (hx : -9223372036854775808 ≤ x.id ∧ x.id ≤ 9223372036854775807) (hr : rpB s x = true) :
    Calls Tryz.prog 53 #[.pointer (some ⟨q, 0, none⟩), .pointer (some ⟨p, 0, none⟩)] w fun e w' => ∃ G c, e = .returned (.slice (some ⟨G, 0, none⟩) 1 c) ∧ w'.cell? ⟨G, 1, none⟩ = some (.int .i64 x.N) ∧ w'.cell? ⟨q, 0, none⟩ = some (.slice (some ⟨g, 0, none⟩) 0 0) ∧ Fr (fun k => k = q) w w' ∧ w'.os = w.os ∧ w'.tape = w.tape ∧ w'.output = w.output := by
  have HB : Hid (Below w.heap.size w (w.alloc (.cells #[.pointer (some ⟨p, 0, none⟩)] 30))) := (Below.refl _ _).alloc (Nat.le_refl _) _
  have hw1 := hw.up HB.out
  have q0 : (w.alloc (.cells #[.pointer (some ⟨p, 0, none⟩)] 30)).cell? ⟨q, 0, none⟩ = some (.slice (some ⟨g, 0, none⟩) 1 cap) := (cell_of_row _ _ _ _ _ _ hw1.at').trans rfl
  have IX := windex_any (h.up HB.out) x hx w.heap.size g cap ((cell_of_row _ _ _ _ _ _ (heap_alloc_new _ _)).trans rfl) (by rw [size_alloc]; omega) hw1.g0 hw1.g1 hw1.g2
  rw [hr, if_pos rfl] at IX
  have HH : Hid (GW w0 w p dp s ops κ ∧ Wk1 w q g cap x ∧ ¬ Ak s q) := ⟨h, hw, hqA⟩
  have HRP : Hid (rpB s x = true) := hr
  have hcap1 : (1 : Int) ≤ (cap : Int) := by have := hw.cp.1; omega
  clear h hw hw1 hqA hr
  go_enter Tryz.func53, Tryz.ntmps53
  go_wp2_with (first | (go_at_call 106; refine Hid.out ?_))
  change Calls _ _ _ _ _
  refine IX.mono ?_
  clear IX
  rintro r w1 ⟨rfl, hb1⟩
  have HB1 : Hid (Below w.heap.size w w1) := HB.out.trans (hb1.mono HB.out.size)
  have HBX : Hid (w1.cell? ⟨w.heap.size, 0, none⟩ = some (.pointer (some ⟨p, 0, none⟩))) := (hb1.cell (p := ⟨w.heap.size, 0, none⟩) (by rw [size_alloc]; show w.heap.size < _; omega)).trans ((cell_of_row _ _ _ _ _ _ (heap_alloc_new _ _)).trans rfl)
  have HZX : Hid (w.heap.size < w1.heap.size) := by have := hb1.size; rw [size_alloc] at this; show _ < _; omega
  have hw2 := HH.out.2.1.up HB1.out
  have q1 : w1.cell? ⟨q, 0, none⟩ = some (.slice (some ⟨g, 0, none⟩) 1 cap) := (cell_of_row _ _ _ _ _ _ hw2.at').trans rfl
  have f1 : w1.frozen? ⟨q, 0, none⟩ = false := frozen_of_row _ _ 0 _ _ hw2.at'
  have hcz : ¬ cap = 0 := by have := HH.out.2.1.cp.1; omega
  clear hb1 q0 hw2
  go_wp2_with fail
  have hf2 : Fr (fun k => k = q) w1 (w1.setCell ⟨q, 0, none⟩ (.slice (some ⟨g, 0, none⟩) 0 0)) := (Fr.refl _ _).setCell q 0 _ rfl
  have HF2 : Hid (Fr (fun k => k = q) w1 (w1.setCell ⟨q, 0, none⟩ (.slice (some ⟨g, 0, none⟩) 0 0)) ∧ (w1.setCell ⟨q, 0, none⟩ (.slice (some ⟨g, 0, none⟩) 0 0)).os = w.os ∧ (w1.setCell ⟨q, 0, none⟩ (.slice (some ⟨g, 0, none⟩) 0 0)).tape = w.tape ∧ (w1.setCell ⟨q, 0, none⟩ (.slice (some ⟨g, 0, none⟩) 0 0)).output = w.output) := ⟨hf2, HB1.out.os, HB1.out.tape, HB1.out.output⟩
  have HG2 : Hid (GW w0 (w1.setCell ⟨q, 0, none⟩ (.slice (some ⟨g, 0, none⟩) 0 0)) p dp s ops κ) := by
    have hg := HH.out.1.up HB1.out
    exact { hg with pm := hg.pm.fr hf2 fun k hk e => HH.out.2.2 (e ▸ hk), be := hg.be.setCell (by show _ ≤ q; exact hqb) _ }
  have hw2 := HH.out.2.1.up HB1.out
  have g0 : (w1.setCell ⟨q, 0, none⟩ (.slice (some ⟨g, 0, none⟩) 0 0)).cell? ⟨g, 0, none⟩ = some (.int .i64 x.K) := (fr_cell hf2 (a := ⟨g, 0, none⟩) hw2.gl hw2.gq).trans hw2.g0
  have g1 : (w1.setCell ⟨q, 0, none⟩ (.slice (some ⟨g, 0, none⟩) 0 0)).cell? ⟨g, 1, none⟩ = some (.int .i64 x.N) := (fr_cell hf2 (a := ⟨g, 1, none⟩) hw2.gl hw2.gq).trans hw2.g1
  have g2 : (w1.setCell ⟨q, 0, none⟩ (.slice (some ⟨g, 0, none⟩) 0 0)).cell? ⟨g, 2, none⟩ = some (.int .i64 x.id) := (fr_cell hf2 (a := ⟨g, 2, none⟩) hw2.gl hw2.gq).trans hw2.g2
  have qq : (w1.setCell ⟨q, 0, none⟩ (.slice (some ⟨g, 0, none⟩) 0 0)).cell? ⟨q, 0, none⟩ = some (.slice (some ⟨g, 0, none⟩) 0 0) := World.cell?_setCell_same _ _ _ q1
  have bx : (w1.setCell ⟨q, 0, none⟩ (.slice (some ⟨g, 0, none⟩) 0 0)).cell? ⟨w.heap.size, 0, none⟩ = some (.pointer (some ⟨p, 0, none⟩)) := (fr_cell hf2 (a := ⟨w.heap.size, 0, none⟩) HZX.out (by have := HH.out.2.1.ql; show ¬ w.heap.size = q; omega)).trans HBX.out
  have HZ2 : Hid ((w1.setCell ⟨q, 0, none⟩ (.slice (some ⟨g, 0, none⟩) 0 0)).heap.size = w1.heap.size) := by show _ = _; simp [World.setCell]
  have HQQ : Hid ((w1.setCell ⟨q, 0, none⟩ (.slice (some ⟨g, 0, none⟩) 0 0)).cell? ⟨q, 0, none⟩ = some (.slice (some ⟨g, 0, none⟩) 0 0)) := qq
  clear hw2 hf2 q1 f1 qq
  generalize w1.setCell ⟨q, 0, none⟩ (.slice (some ⟨g, 0, none⟩) 0 0) = W2 at *
  go_loopg [6, 9, 38] 1 (fun gg t6 _ t38 W => ∃ (gw : World) (k : Nat) (v : Value), gw = W ∧ t38 = .int .i64 k ∧ k ≤ 1 ∧ 1 - k ≤ gg ∧ v = t6 ∧ Hid ((k = 0 → gw = W2 ∧ v = .slice none 0 0) ∧ (k = 1 → ∃ G c, v = .slice (some ⟨G, 0, none⟩) 1 c ∧ gw.cell? ⟨G, 1, none⟩ = some (.int .i64 x.N) ∧ Below W2.heap.size W2 gw)))
  case atStart => exact ⟨_, 0, _, rfl, rfl, by omega, by omega, rfl, fun _ => ⟨rfl, rfl⟩, fun h => by omega⟩
  case round =>
    obtain ⟨gw, k, v, rfl, rfl, hk, hgk, rfl, HG⟩ := hrel
    by_cases hk0 : k = 0
    · subst hk0
      obtain ⟨e1, rfl⟩ := HG.out.1 rfl
      obtain rfl : W2 = gw := e1.symm
      have HB3 : Hid (Below W2.heap.size W2 (W2.alloc (.cells #[.int .i64 x.K, .int .i64 x.N, .int .i64 x.id] 171))) := (Below.refl _ _).alloc (Nat.le_refl _) _
      have RP := wripe_any (HG2.out.up HB3.out) x hx
      rw [HRP.out] at RP
      have bx3 : (W2.alloc (.cells #[.int .i64 x.K, .int .i64 x.N, .int .i64 x.id] 171)).cell? ⟨w.heap.size, 0, none⟩ = some (.pointer (some ⟨p, 0, none⟩)) := (HB3.out.cell (p := ⟨w.heap.size, 0, none⟩) (by have h1 := HZX.out; have h2 := HZ2.out; show w.heap.size < W2.heap.size; omega)).trans bx
      go_wp2_with (first | (go_at_call 108; refine Hid.out ?_))
      change Calls _ _ _ _ _
      refine RP.mono ?_
      clear RP
      rintro r w4 ⟨rfl, hb4⟩
      have y0 : w4.cell? ⟨W2.heap.size, 0, none⟩ = some (.int .i64 x.K) := (hb4.cell (p := ⟨W2.heap.size, 0, none⟩) (by rw [size_alloc]; show W2.heap.size < _; omega)).trans ((cell_of_row _ _ _ _ _ _ (heap_alloc_new _ _)).trans rfl)
      have y1 : w4.cell? ⟨W2.heap.size, 1, none⟩ = some (.int .i64 x.N) := (hb4.cell (p := ⟨W2.heap.size, 1, none⟩) (by rw [size_alloc]; show W2.heap.size < _; omega)).trans ((cell_of_row _ _ _ _ _ _ (heap_alloc_new _ _)).trans rfl)
      have HB4 : Hid (Below W2.heap.size W2 w4) := HB3.out.trans (hb4.mono HB3.out.size)
      obtain ⟨i0, z, hi0, hz0, hz3, hzs, hzb⟩ := infoA_parts
      have HI : Hid (Tryz.prog.info? 95 = some i0 ∧ i0.zero = some z ∧ z.cells.size = 2 ∧ i0.size = 2 ∧ i0.bytes = 16) := ⟨hi0, hz0, hz3, hzs, hzb⟩
      clear hi0 hz0 hz3 hzs hzb hb4 bx3
      go_wp2_with (first | (at_builtin; refine Hid.out ?_))
      change wpList _ _ _ _ _ _
      refine wpList_app rfl (.tmp 45) (.tmp 48) 101 rfl W2.heap.size 95 i0 z 2 16 Tryz.underlying101 HI.out.1 HI.out.2.1 HI.out.2.2.2.1 HI.out.2.2.2.2 HI.out.2.2.1 (by decide) (by decide) 0 [] [.int .i64 x.K, .int .i64 x.N] _ rfl _ _ rfl (World.ownsRow_nil _ _ _ _) rfl (fun j u hj => (cell_of_row _ _ _ _ _ _ (heap_alloc_new _ _)).trans (by rw [← hj]; rcases j with _ | _ | j <;> rfl)) (fun u hu => by simp at hu; rcases hu with rfl | rfl <;> rfl) (by rw [size_alloc]; have := HB4.out.size; omega) (by omega) ?_
      intro G c w5 ho5 hg5 hat5
      have H5 : Hid (w5.cell? ⟨G, 1, none⟩ = some (.int .i64 x.N) ∧ Below W2.heap.size W2 w5) := by
        refine ⟨?_, (HB4.out.alloc HB4.out.size _).trans ((Below.refl _ _).grown hg5 (by rw [size_alloc]; have := HB4.out.size; omega) (fun k hk => by cases hk))⟩
        obtain ⟨_, h2⟩ := ho5
        rcases h2 with ⟨h2, _⟩ | ⟨G', cap', cur, hv, hg, hh, hn, hm, hs, hx⟩
        · cases h2
        · cases hv
          rw [cell_of_row _ _ _ _ _ _ hh]
          have e : (cur.toList.take ((0 + 1) * 2))[1]? = ([] ++ [Value.int .i64 x.K, Value.int .i64 x.N])[1]? := by rw [hx]
          rw [List.getElem?_take, if_pos (by omega)] at e
          rw [← Array.getElem?_toList, e]
          rfl
      clear ho5 hg5 hat5
      go_wp2_with fail
      go_roundg 0
      case measure => omega
      case rel => exact ⟨_, 1, _, rfl, by go_num, by omega, by omega, rfl, fun h => by omega, fun _ => ⟨G, c, rfl, H5.out⟩⟩
    · obtain rfl : k = 1 := by omega
      obtain ⟨G, c, rfl, hn, hb⟩ := HG.out.2 rfl
      have HE : Hid (gw.cell? ⟨G, 1, none⟩ = some (.int .i64 x.N) ∧ Below W2.heap.size W2 gw) := ⟨hn, hb⟩
      clear hn hb g0 g1 g2 bx
      go_wp2_with fail
      go_ret
      have hql : q < w1.heap.size := by have h1 := HH.out.2.1.ql; have h2 := HB1.out.size; omega
      have hz2 : W2.heap.size = w1.heap.size := HZ2.out
      refine ⟨G, ⟨c, rfl⟩, HE.out.1, (HE.out.2.cell (p := ⟨q, 0, none⟩) (by show q < W2.heap.size; omega)).trans HQQ.out, ⟨by have h1 := HB1.out.size; have h2 := HE.out.2.size; omega, fun k hk hn => ?_, HE.out.2.os.trans HF2.out.2.1, HE.out.2.tape.trans HF2.out.2.2.1, HE.out.2.output.trans HF2.out.2.2.2⟩, HE.out.2.os.trans HF2.out.2.1, HE.out.2.tape.trans HF2.out.2.2.1, HE.out.2.output.trans HF2.out.2.2.2⟩
      have h1 := HB1.out.size
      rw [HE.out.2.block k (by omega), HF2.out.1.blk k (by omega) hn]
      exact HB1.out.block k hk
end
end Go.Proofs.YtadadidccbhopaaGreat
