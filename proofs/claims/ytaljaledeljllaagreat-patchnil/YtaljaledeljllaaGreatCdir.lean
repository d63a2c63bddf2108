/- Package cache: reach, find, dirty, mayGo, unlist. -/
import Derived.Test.YtaljaledeljllaaGreatCont
import Derived.Stop.BytesEq
namespace Go.Proofs.YtaljaledeljllaaGreat
open Go.RowKit
set_option maxRecDepth 100000
theorem run_neq_con {x y : List UInt8} (hx : x.length = 256) (hy : y.length = 256) (w : World) : (binOp .neq 174 (.agg (bvs x).toArray) (.agg (bvs y).toArray)).run Tryz.prog w = .ok (.bool (!(x == y))) w := by
  rw [run_neq_struct, show (Op.equalIn 10000 174 (.agg (bvs x).toArray) (.agg (bvs y).toArray)).run Tryz.prog w = .ok (x == y) w from run_equalIn_bytes w 9998 174 5 256 Tryz.underlying174 Tryz.underlying5 size5 x y hx hy]
  rfl
theorem exec_neq_con {ev : Operand → Value} {oi : Oper} {X Y : Operand} {w : World} {x y : List UInt8} (hx : x.length = 256) (hy : y.length = 256) {b : Bool} (hb : (!(x == y)) = b) (ho : oi.op = .binOp .neq 174 X Y 174) (eX : ev X = .agg (bvs x).toArray) (eY : ev Y = .agg (bvs y).toArray) :
    (execOp ev oi).run Tryz.prog w = .ok (.value (.bool b)) w := by
  subst hb
  have hg : ∀ A B (w : World), (eqGuard .neq 174 X Y (.agg A) (.agg B)).run Tryz.prog w = .ok () w := fun A B w => run_eqGuard_agg w .neq 174 X Y A B (by kernel_rfl)
  unfold execOp
  simp only [ho, eX, eY]
  simp [hg, run_neq_con hx hy, Result.andThen]
theorem exec_load_con {ev : Operand → Value} {oi : Oper} {x : Operand} {w : World} {b o : Nat} {l : List UInt8} (H : w.rangeAt b o (bvs l)) (hl : l.length = 256) (ho : oi.op = .load 174 x) (hx : ev x = .pointer (some ⟨b, o, none⟩)) :
    (execOp ev oi).run Tryz.prog w = .ok (.value (.agg (bvs l).toArray)) w := by
  unfold execOp
  simp only [ho, hx, Sem.run_bind, load_con H hl, Result.andThen_ok, Sem.run_pure]
section
variable {w w' : World} {base : Nat} {σ : CSt} {O : List Int}
set_option maxHeartbeats 1000000 in
theorem reach_out (h : CS w base σ O) (b : Int) (hb : b < 0 ∨ (σ.dn : Int) ≤ b) :
    Calls Tryz.prog 109 #[.pointer (some ⟨σ.p, 0, none⟩), .int .i64 b] w fun e w' => e = .returned (.int .i64 3) ∧ w' = w := by
  have LN := len_any h.disk
  have q0 := h.c0
  clear h
  by_cases h0 : b < 0
  · clear hb
    go_enter Tryz.func109, Tryz.ntmps109
    go_wp2_with (first | (go_at_call 52; refine LN.mono ?_; rintro e w1 ⟨rfl, rfl⟩))
    go_ret
    exact ⟨rfl, rfl⟩
  · have hb' : (σ.dn : Int) ≤ b := by omega
    clear hb
    go_enter Tryz.func109, Tryz.ntmps109
    go_wp2_with (first | (go_at_call 52; refine LN.mono ?_; rintro e w1 ⟨rfl, rfl⟩))
    go_ret
    exact ⟨rfl, rfl⟩
set_option maxHeartbeats 1000000 in
theorem reach_ok (h : CS w base σ O) (n : Nat) (hn : (n : Int) < σ.dn) :
    Calls Tryz.prog 109 #[.pointer (some ⟨σ.p, 0, none⟩), .int .i64 (n : Int)] w fun e w' => e = .returned (.int .i64 0) ∧ w' = w := by
  have LN := len_any h.disk
  have q0 := h.c0
  clear h
  go_enter Tryz.func109, Tryz.ntmps109
  go_wp2_with (first | (go_at_call 52; refine LN.mono ?_; rintro e w1 ⟨rfl, rfl⟩))
  go_ret
  exact ⟨rfl, rfl⟩
set_option maxHeartbeats 1000000 in
theorem find_no (h : CS w base σ O) (b : Int) (hb : ∀ e ∈ σ.L, ¬ (e.n : Int) = b) (hbb : -9223372036854775808 ≤ b ∧ b ≤ 9223372036854775807) :
    Calls Tryz.prog 136 #[.pointer (some ⟨σ.p, 0, none⟩), .int .i64 b] w fun e w' => e = .returned (.tuple #[.pointer none, .int .i64 20]) ∧ w' = w := by
  have LK : (Instr.lookup 155 (.map (some σ.mb)) (.int .i64 b) false).run Tryz.prog w = .ok (.pointer none) w := by
    have := h.look b hbb; rw [lookF_none hb] at this; exact this
  have q2 := h.c2
  clear h hb
  go_enter Tryz.func136, Tryz.ntmps136
  go_wp2
  go_ret2
  exact ⟨rfl, rfl⟩
theorem CS.lookE (h : CS w base σ O) {A B : List CE} {e : CE} (hL : σ.L = A ++ e :: B) : (Instr.lookup 155 (.map (some σ.mb)) (.int .i64 (e.n : Int)) false).run Tryz.prog w = .ok (.pointer (some ⟨e.q, 0, none⟩)) w := by
  have hn := (h.blk e (by rw [hL]; simp)).2.2.1
  have hd := h.disk.nn
  have := h.look (e.n : Int) (by omega)
  rw [hL, lookF_at (h.split hL)] at this
  exact this
set_option maxHeartbeats 1000000 in
theorem cfind_ok (h : CS w base σ O) {A B : List CE} {e : CE} (hL : σ.L = A ++ e :: B) :
    Calls Tryz.prog 136 #[.pointer (some ⟨σ.p, 0, none⟩), .int .i64 (e.n : Int)] w fun r w' => r = .returned (.tuple #[.pointer (some ⟨e.q, 0, none⟩), .int .i64 0]) ∧ w' = w := by
  have LK := h.lookE hL
  have q2 := h.c2
  clear h hL
  go_enter Tryz.func136, Tryz.ntmps136
  go_wp2
  go_ret2
  exact ⟨rfl, rfl⟩
/-- Is a block in memory dirty? May it go? -/
def dirtyB (σ : CSt) (e : CE) : Bool := !(e.d == lst σ e.n)
def goB (σ : CSt) (e : CE) : Bool := (e.pin == 0) && !dirtyB σ e
set_option maxHeartbeats 1000000 in
theorem dirty_any (h : CS w base σ O) {A B : List CE} {e : CE} (hL : σ.L = A ++ e :: B) :
    Calls Tryz.prog 170 #[.pointer (some ⟨σ.p, 0, none⟩), .int .i64 (e.n : Int)] w fun r w' => r = .returned (.bool (dirtyB σ e)) ∧ Below w.heap.size w w' := by
  have he : e ∈ σ.L := by rw [hL]; simp
  have hb := h.blk e he
  have HE : Hid (e ∈ σ.L) := he
  have HN : Hid (e.n < σ.dn) := hb.2.2.1
  have HD : Hid (e.d.length = 256) := hb.2.1
  have HX : Hid ((lst σ e.n).length = 256) := lst_len h e.n hb.2.2.1
  have HLK : Hid (∀ W, CS W base σ O → (Instr.lookup 155 (.map (some σ.mb)) (.int .i64 (e.n : Int)) false).run Tryz.prog W = .ok (.pointer (some ⟨e.q, 0, none⟩)) W) := fun W hW => hW.lookE hL
  have HC : Hid (CS w.drew base σ O ∧ Below w.heap.size w w.drew) := ⟨h.drew, (Below.refl _ _).drew⟩
  clear h hb he hL
  go_enter Tryz.func170, Tryz.ntmps170
  go_wp2_with fail
  refine wp_region_held_drew (S := (fun W => CS W base σ O ∧ Below w.heap.size w W)) (by kernel_rfl) HC.out (fun hH => ?_)
  refine takeH (i := 0) (dst := some 5) (v := ?v1) rfl rfl (by kernel_rfl) (by kernel_rfl) (by kernel_rfl) (fun _ _ _ h => h) rfl ?hy1 hH rfl ?rest1
  case hy1 => (intro W hW; have q2 := hW.1.c2; have lk := HLK.out W hW.1; clear hW; go_simp; try with_reducible rfl)
  (try simp only [Act.put, List.setIfInBounds_toArray, List.set_cons_zero, List.set_cons_succ])
  refine takeH (i := 1) (dst := some 6) (v := ?v2) rfl rfl (by kernel_rfl) (by kernel_rfl) (by kernel_rfl) (fun _ _ _ h => h) rfl ?hy2 hH rfl ?rest2
  case hy2 => (intro W hW; have q2 := hW.1.c2; have lk := HLK.out W hW.1; clear hW; go_simp; try with_reducible rfl)
  (try simp only [Act.put, List.setIfInBounds_toArray, List.set_cons_zero, List.set_cons_succ])
  refine takeH (i := 2) (dst := some 7) (v := ?v3) rfl rfl (by kernel_rfl) (by kernel_rfl) (by kernel_rfl) (fun _ _ _ h => h) rfl ?hy3 hH rfl ?rest3
  case hy3 => (intro W hW; have q2 := hW.1.c2; have lk := HLK.out W hW.1; clear hW; go_simp; try with_reducible rfl)
  (try simp only [Act.put, List.setIfInBounds_toArray, List.set_cons_zero, List.set_cons_succ])
  refine takeH (i := 3) (dst := some 8) (v := ?v4) rfl rfl (by kernel_rfl) (by kernel_rfl) (by kernel_rfl) (fun _ _ _ h => h) rfl ?hy4 hH rfl ?rest4
  case hy4 => (intro W hW; have q2 := hW.1.c2; have lk := HLK.out W hW.1; clear hW; go_simp; try with_reducible rfl)
  (try simp only [Act.put, List.setIfInBounds_toArray, List.set_cons_zero, List.set_cons_succ])
  refine takeH (i := 4) (dst := some 9) (v := ?v5) rfl rfl (by kernel_rfl) (by kernel_rfl) (by kernel_rfl) (fun _ _ _ h => h) rfl ?hy5 hH rfl ?rest5
  case hy5 => (intro W hW; have q2 := hW.1.c2; have lk := HLK.out W hW.1; clear hW; go_simp; try with_reducible rfl)
  (try simp only [Act.put, List.setIfInBounds_toArray, List.set_cons_zero, List.set_cons_succ])
  refine takeH (i := 5) (dst := some 10) (v := ?v6) rfl rfl (by kernel_rfl) (by kernel_rfl) (by kernel_rfl) (fun _ _ _ h => h) rfl ?hy6 hH rfl ?rest6
  case hy6 => (intro W hW; have q2 := hW.1.c2; have lk := HLK.out W hW.1; clear hW; go_simp; try with_reducible rfl)
  (try simp only [Act.put, List.setIfInBounds_toArray, List.set_cons_zero, List.set_cons_succ])
  refine takeH (i := 6) (dst := some 11) (v := ?v7) rfl rfl (by kernel_rfl) (by kernel_rfl) (by kernel_rfl) (fun _ _ _ h => h) rfl ?hy7 hH rfl ?rest7
  case hy7 => (intro W hW; have q2 := hW.1.c2; have lk := HLK.out W hW.1; clear hW; go_simp; try with_reducible rfl)
  (try simp only [Act.put, List.setIfInBounds_toArray, List.set_cons_zero, List.set_cons_succ])
  refine takeH (i := 7) (dst := some 12) (v := ?v8) rfl rfl (by kernel_rfl) (by kernel_rfl) (by kernel_rfl) (fun _ _ _ h => h) rfl ?hy8 hH rfl ?rest8
  case hy8 => (intro W hW; have q2 := hW.1.c2; have lk := HLK.out W hW.1; clear hW; go_simp; try with_reducible rfl)
  (try simp only [Act.put, List.setIfInBounds_toArray, List.set_cons_zero, List.set_cons_succ])
  refine takeH (i := 8) (dst := some 13) (v := ?v9) rfl rfl (by kernel_rfl) (by kernel_rfl) (by kernel_rfl) (fun _ _ _ h => h) rfl ?hy9 hH rfl ?rest9
  case hy9 => (intro W hW; refine exec_load_con (x := Operand.tmp 12) (hW.1.range HE.out) HD.out ?_ ?_ <;> rfl)
  (try simp only [Act.put, List.setIfInBounds_toArray, List.set_cons_zero, List.set_cons_succ])
  refine takeH (i := 9) (dst := some 14) (v := ?v10) rfl rfl (by kernel_rfl) (by kernel_rfl) (by kernel_rfl) (fun _ _ _ h => h) rfl ?hy10 hH rfl ?rest10
  case hy10 => (intro W hW; have q2 := hW.1.c2; have lk := HLK.out W hW.1; clear hW; go_simp; try with_reducible rfl)
  (try simp only [Act.put, List.setIfInBounds_toArray, List.set_cons_zero, List.set_cons_succ])
  refine takeH (i := 10) (dst := some 15) (v := ?v11) rfl rfl (by kernel_rfl) (by kernel_rfl) (by kernel_rfl) (fun _ _ _ h => h) rfl ?hy11 hH rfl ?rest11
  case hy11 => (intro W hW; have q2 := hW.1.c2; have lk := HLK.out W hW.1; clear hW; go_simp; try with_reducible rfl)
  (try simp only [Act.put, List.setIfInBounds_toArray, List.set_cons_zero, List.set_cons_succ])
  refine callH (i := 11) { dst := some 16, op := Go.Op.call { callee := Go.Callee.value (Go.Operand.func 134), args := #[Go.Operand.tmp 14, Go.Operand.tmp 15], argTypes := #[98, 173] }, type := 174, pos := "cache.go:100", after := #[{ on := 9, ground := Go.Ground.data }, { on := 10, ground := Go.Ground.data }], guard := none } (by kernel_rfl) rfl rfl (fun K hK => ?_)
  go_simp
  refine (stands_any hH.1 e.n HN.out).mono ?_
  rintro r v1 ⟨rfl, k1⟩
  have m1 := And.intro (hH.1.up k1) (hH.2.trans (k1.mono hH.2.size))
  clear k1
  clear hH
  refine hK.out _ _ m1 (fun hH => ?_)
  clear hK K
  (try simp only [Act.put, List.setIfInBounds_toArray, List.set_cons_zero, List.set_cons_succ])
  refine takeH (i := 12) (dst := some 17) (v := ?v12) rfl rfl (by kernel_rfl) (by kernel_rfl) (by kernel_rfl) (fun _ _ _ h => h) rfl ?hy12 hH rfl ?rest12
  case hy12 => (intro W hW; refine exec_neq_con (X := Operand.tmp 13) (Y := Operand.tmp 16) HD.out HX.out (b := dirtyB σ e) rfl ?_ ?_ ?_ <;> rfl)
  (try simp only [Act.put, List.setIfInBounds_toArray, List.set_cons_zero, List.set_cons_succ])
  refine takeH (i := 13) (dst := some 4) (v := ?v13) rfl rfl (by kernel_rfl) (by kernel_rfl) (by kernel_rfl) (fun _ _ _ h => h) rfl ?hy13 hH rfl ?rest13
  case hy13 => (intro W hW; have q2 := hW.1.c2; have lk := HLK.out W hW.1; clear hW; go_simp; try with_reducible rfl)
  (try simp only [Act.put, List.setIfInBounds_toArray, List.set_cons_zero, List.set_cons_succ])
  refine wpAnyH_done (by kernel_rfl) ?_ _
  clear hH
  go_wp2
  go_ret
  exact ⟨rfl, m1.2⟩
set_option maxHeartbeats 1000000 in
theorem mayGo_any (h : CS w base σ O) {A B : List CE} {e : CE} (hL : σ.L = A ++ e :: B) :
    Calls Tryz.prog 153 #[.pointer (some ⟨σ.p, 0, none⟩), .int .i64 (e.n : Int)] w fun r w' => r = .returned (.bool (goB σ e)) ∧ Below w.heap.size w w' := by
  have DT := dirty_any h hL
  have LK := h.lookE hL
  have q2 := h.c2
  have qp := h.pin (e := e) (by rw [hL]; simp)
  clear h hL
  unfold goB
  generalize dirtyB σ e = D at *
  by_cases h0 : e.pin = 0
  · rw [h0] at qp ⊢
    go_enter Tryz.func153, Tryz.ntmps153
    go_wp2_with (first | (go_at_call 170; refine DT.mono ?_; rintro r w1 ⟨rfl, k1⟩))
    go_ret
    exact ⟨by cases D <;> rfl, k1⟩
  · have h1 : ((e.pin : Int) == 0) = false := beq_eq_false_iff_ne.2 (by omega)
    have h2 : (e.pin == 0) = false := beq_eq_false_iff_ne.2 h0
    rw [h2]
    clear h2
    generalize e.pin = pn at *
    go_enter Tryz.func153, Tryz.ntmps153
    go_wp2_with (first | (go_at_call 170; refine DT.mono ?_; rintro r w1 ⟨rfl, k1⟩))
    go_ret
    exact ⟨rfl, Below.refl _ _⟩
theorem DiskAt.dk_lt {w : World} {base p n : Nat} {en : Bool} {lf : Int} {sf : Nat → List UInt8} {ws : Nat → List (List UInt8)} {q : Nat} {vs : Nat → Value} (h : DiskAt w base p n en lf sf ws q vs) {k : Nat} (hk : Dk p q n vs k) : k < w.heap.size ∧ base ≤ k := by
  rcases hk with rfl | rfl | ⟨i, hi, hk⟩
  · exact ⟨h.pl, h.pb⟩
  · exact ⟨h.ql, h.qb⟩
  · have := World.ownsRow.lt (h.wr i hi).1 k hk
    exact ⟨this.2, this.1⟩
/-- Another order. -/
theorem CS.reord (h : CS w base σ O) {v' : Value} {O' : List Int} (hf : Fr (fun k => k = σ.p ∨ σ.ov.ownBlock = some k) w w') (hc : ∀ o, ¬ o = 3 → w'.cell? ⟨σ.p, o, none⟩ = w.cell? ⟨σ.p, o, none⟩) (h3 : w'.cell? ⟨σ.p, 3, none⟩ = some v') (hfp : ∀ o, w'.frozen? ⟨σ.p, o, none⟩ = false)
    (ho : OwnN w' base v' O') (hs : ∀ k, v'.ownBlock = some k → σ.ov.ownBlock = some k ∨ w.heap.size ≤ k) : CS w' base { σ with ov := v' } O' := by
  have ne : ∀ k, k < w.heap.size → ¬ σ.ov.ownBlock = some k → ¬ v'.ownBlock = some k := fun k hk hn hv => by
    rcases hs k hv with h1 | h1
    · exact hn h1
    · omega
  exact {
    disk := h.disk.fr hf fun k hk hS => h.dk k hk (by
      rcases hS with hS | hS
      · exact .inl hS
      · exact .inr (.inr (.inl hS)))
    c0 := (hc 0 (by omega)).trans h.c0, c1 := (hc 1 (by omega)).trans h.c1, c2 := (hc 2 (by omega)).trans h.c2, c3 := h3, fp := hfp, ord := ho
    map := h.map.same (hf.blk _ h.map.lt (fun hS => by
      rcases hS with hS | hS
      · exact h.pm hS.symm
      · exact h.mo hS))
    blk := fun e he => ⟨(hf.blk e.q (h.sk_lt (.inr (.inr (.inr ⟨e, he, rfl⟩)))) (fun hS => by
      rcases hS with hS | hS
      · exact (h.bq e he).1 hS
      · exact (h.bq e he).2.2.1 hS)).trans (h.blk e he).1, (h.blk e he).2⟩
    nd := h.nd, qd := h.qd, pm := h.pm
    po := ne _ h.pl h.po
    mo := ne _ h.map.lt h.mo
    bq := fun e he => ⟨(h.bq e he).1, (h.bq e he).2.1, ne _ (h.sk_lt (.inr (.inr (.inr ⟨e, he, rfl⟩)))) (h.bq e he).2.2.1, (h.bq e he).2.2.2⟩
    pb := h.pb, mbb := h.mbb
    dk := fun k hk hC => by
      rcases hC with hC | hC | hC | hC
      · exact h.dk k hk (.inl hC)
      · exact h.dk k hk (.inr (.inl hC))
      · rcases hs k hC with h1 | h1
        · exact h.dk k hk (.inr (.inr (.inl h1)))
        · have := (h.disk.dk_lt hk).1; omega
      · exact h.dk k hk (.inr (.inr (.inr hC)))
    m1 := h.m1 }
/-- From one cache to another: only its own blocks turn, and what it comes to own is new. -/
structure Step (σ σ' : CSt) (w w' : World) : Prop where
  fr : Fr (Sk σ) w w'
  sub : ∀ k, Sk σ' k → Sk σ k ∨ w.heap.size ≤ k
theorem Step.refl (σ : CSt) {w w' : World} (hb : Below w.heap.size w w') : Step σ σ w w' := ⟨Fr.of_below hb, fun _ h => .inl h⟩
theorem Step.trans {σ σ' σ'' : CSt} {a b c : World} (h : Step σ σ' a b) (k : Step σ' σ'' b c) : Step σ σ'' a c := by
  have hz := h.fr.size
  refine ⟨⟨Nat.le_trans h.fr.size k.fr.size, fun j hj hn => ?_⟩, fun j hj => ?_⟩
  · refine (k.fr.blk j (by omega) (fun hs => ?_)).trans (h.fr.blk j hj hn)
    rcases h.sub j hs with h1 | h1
    · exact hn h1
    · omega
  · rcases k.sub j hj with h1 | h1
    · exact h.sub j h1
    · exact .inr (by omega)
theorem Step.ord {σ : CSt} {w w' : World} {v' : Value} (hf : Fr (fun k => k = σ.p ∨ σ.ov.ownBlock = some k) w w') (hs : ∀ k, v'.ownBlock = some k → σ.ov.ownBlock = some k ∨ w.heap.size ≤ k) : Step σ { σ with ov := v' } w w' := by
  refine ⟨hf.mono fun k _ hk => ?_, fun k hk => ?_⟩
  · rcases hk with hk | hk
    · exact .inl (.inl hk)
    · exact .inl (.inr (.inr (.inl hk)))
  · rcases hk with (hk | hk | hk | hk) | hk
    · exact .inl (.inl (.inl hk))
    · exact .inl (.inl (.inr (.inl hk)))
    · rcases hs k hk with h1 | h1
      · exact .inl (.inl (.inr (.inr (.inl h1))))
      · exact .inr h1
    · exact .inl (.inl (.inr (.inr (.inr hk))))
    · exact .inl (.inr hk)
end
end Go.Proofs.YtaljaledeljllaaGreat
