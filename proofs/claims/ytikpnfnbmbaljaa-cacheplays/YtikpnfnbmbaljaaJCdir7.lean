/- Package cache: reach, find, dirty, mayGo, unlist. -/
import Derived.Test.YtikpnfnbmbaljaaKCont
import Derived.Stop.BytesEq
import Derived.Deep.AppendLies
namespace Go.Proofs.Ytikpnfnbmbaljaa
open Go.RowKit
set_option maxRecDepth 100000
theorem run_neq_con {x y : List UInt8} (hx : x.length = 256) (hy : y.length = 256) (w : World) : (binOp .neq 84 (.agg (bvs x).toArray) (.agg (bvs y).toArray)).run Try.prog w = .ok (.bool (!(x == y))) w := by
  rw [run_neq_struct, show (Op.equalIn 10000 84 (.agg (bvs x).toArray) (.agg (bvs y).toArray)).run Try.prog w = .ok (x == y) w from run_equalIn_bytes w 9998 84 5 256 Try.underlying84 Try.underlying5 size5 x y hx hy]
  rfl
theorem exec_neq_con {ev : Operand → Value} {oi : Oper} {X Y : Operand} {w : World} {x y : List UInt8} (hx : x.length = 256) (hy : y.length = 256) {b : Bool} (hb : (!(x == y)) = b) (ho : oi.op = .binOp .neq 84 X Y 84) (eX : ev X = .agg (bvs x).toArray) (eY : ev Y = .agg (bvs y).toArray) :
    (execOp ev oi).run Try.prog w = .ok (.value (.bool b)) w := by
  subst hb
  have hg : ∀ A B (w : World), (eqGuard .neq 84 X Y (.agg A) (.agg B)).run Try.prog w = .ok () w := fun A B w => run_eqGuard_agg w .neq 84 X Y A B (by kernel_rfl)
  unfold execOp
  simp only [ho, eX, eY]
  simp [hg, run_neq_con hx hy, Result.andThen]
theorem exec_load_con {ev : Operand → Value} {oi : Oper} {x : Operand} {w : World} {b o : Nat} {l : List UInt8} (H : w.rangeAt b o (bvs l)) (hl : l.length = 256) (ho : oi.op = .load 84 x) (hx : ev x = .pointer (some ⟨b, o, none⟩)) :
    (execOp ev oi).run Try.prog w = .ok (.value (.agg (bvs l).toArray)) w := by
  unfold execOp
  simp only [ho, hx, Sem.run_bind, load_con H hl, Result.andThen_ok, Sem.run_pure]
section
variable {w w' : World} {base : Nat} {σ : CSt} {O : List Int}
set_option maxHeartbeats 1000000 in
theorem reach_out (h : CS w base σ O) (b : Int) (hb : b < 0 ∨ (σ.dn : Int) ≤ b) :
    Calls Try.prog 49 #[.pointer (some ⟨σ.p, 0, none⟩), .int .i64 b] w fun e w' => e = .returned (.int .i64 3) ∧ w' = w := by
  have LN := len_any h.disk
  have q0 := h.c0
  clear h
  by_cases h0 : b < 0
  · clear hb
    go_enter Try.func49, Try.ntmps49
    go_wp2_with (first | (go_at_call 67; refine LN.mono ?_; rintro e w1 ⟨rfl, rfl⟩))
    go_ret
    exact ⟨rfl, rfl⟩
  · have hb' : (σ.dn : Int) ≤ b := by omega
    clear hb
    go_enter Try.func49, Try.ntmps49
    go_wp2_with (first | (go_at_call 67; refine LN.mono ?_; rintro e w1 ⟨rfl, rfl⟩))
    go_ret
    exact ⟨rfl, rfl⟩
set_option maxHeartbeats 1000000 in
theorem reach_ok (h : CS w base σ O) (n : Nat) (hn : (n : Int) < σ.dn) :
    Calls Try.prog 49 #[.pointer (some ⟨σ.p, 0, none⟩), .int .i64 (n : Int)] w fun e w' => e = .returned (.int .i64 0) ∧ w' = w := by
  have LN := len_any h.disk
  have q0 := h.c0
  clear h
  go_enter Try.func49, Try.ntmps49
  go_wp2_with (first | (go_at_call 67; refine LN.mono ?_; rintro e w1 ⟨rfl, rfl⟩))
  go_ret
  exact ⟨rfl, rfl⟩
set_option maxHeartbeats 1000000 in
theorem find_no (h : CS w base σ O) (b : Int) (hb : ∀ e ∈ σ.L, ¬ (e.n : Int) = b) (hbb : -9223372036854775808 ≤ b ∧ b ≤ 9223372036854775807) :
    Calls Try.prog 59 #[.pointer (some ⟨σ.p, 0, none⟩), .int .i64 b] w fun e w' => e = .returned (.tuple #[.pointer none, .int .i64 20]) ∧ w' = w := by
  have LK : (Instr.lookup 57 (.map (some σ.mb)) (.int .i64 b) false).run Try.prog w = .ok (.pointer none) w := by
    have := h.look b hbb; rw [lookF_none hb] at this; exact this
  have q2 := h.c2
  clear h hb
  go_enter Try.func59, Try.ntmps59
  go_wp2
  go_ret2
  exact ⟨rfl, rfl⟩
theorem CS.lookE (h : CS w base σ O) {A B : List CE} {e : CE} (hL : σ.L = A ++ e :: B) : (Instr.lookup 57 (.map (some σ.mb)) (.int .i64 (e.n : Int)) false).run Try.prog w = .ok (.pointer (some ⟨e.q, 0, none⟩)) w := by
  have hn := (h.blk e (by rw [hL]; simp)).2.2.1
  have hd := h.disk.nn
  have := h.look (e.n : Int) (by omega)
  rw [hL, lookF_at (h.split hL)] at this
  exact this
set_option maxHeartbeats 1000000 in
theorem cfind_ok (h : CS w base σ O) {A B : List CE} {e : CE} (hL : σ.L = A ++ e :: B) :
    Calls Try.prog 59 #[.pointer (some ⟨σ.p, 0, none⟩), .int .i64 (e.n : Int)] w fun r w' => r = .returned (.tuple #[.pointer (some ⟨e.q, 0, none⟩), .int .i64 0]) ∧ w' = w := by
  have LK := h.lookE hL
  have q2 := h.c2
  clear h hL
  go_enter Try.func59, Try.ntmps59
  go_wp2
  go_ret2
  exact ⟨rfl, rfl⟩
/-- Is a block in memory dirty? May it go? -/
def dirtyB (σ : CSt) (e : CE) : Bool := !(e.d == lst σ e.n)
def goB (σ : CSt) (e : CE) : Bool := (e.pin == 0) && !dirtyB σ e
set_option maxHeartbeats 1000000 in
theorem dirty_any (h : CS w base σ O) {A B : List CE} {e : CE} (hL : σ.L = A ++ e :: B) :
    Calls Try.prog 37 #[.pointer (some ⟨σ.p, 0, none⟩), .int .i64 (e.n : Int)] w fun r w' => r = .returned (.bool (dirtyB σ e)) ∧ Below w.heap.size w w' := by
  have he : e ∈ σ.L := by rw [hL]; simp
  have hb := h.blk e he
  have HE : Hid (e ∈ σ.L) := he
  have HN : Hid (e.n < σ.dn) := hb.2.2.1
  have HD : Hid (e.d.length = 256) := hb.2.1
  have HX : Hid ((lst σ e.n).length = 256) := lst_len h e.n hb.2.2.1
  have HLK : Hid (∀ W, CS W base σ O → (Instr.lookup 57 (.map (some σ.mb)) (.int .i64 (e.n : Int)) false).run Try.prog W = .ok (.pointer (some ⟨e.q, 0, none⟩)) W) := fun W hW => hW.lookE hL
  have HC : Hid (CS w.drew base σ O ∧ Below w.heap.size w w.drew) := ⟨h.drew, (Below.refl _ _).drew⟩
  clear h hb he hL
  go_enter Try.func37, Try.ntmps37
  go_wp2_with fail
  refine wp_region_held_drew (S := (fun W => CS W base σ O ∧ Below w.heap.size w W)) (by kernel_rfl) HC.out (fun hH => ?_)
  refine takeH (i := 0) (dst := some 5) (v := ?v1) rfl rfl (by kernel_rfl) (by kernel_rfl) (by kernel_rfl) (fun _ _ _ h => h) rfl ?hy1 hH rfl ?rest1
  case hy1 => (intro W hW; have q2 := hW.1.c2; have lk := HLK.out W hW.1; clear hW; go_simp; try with_reducible rfl)
  (try simp only [Act.put, List.setIfInBounds_toArray, List.set_cons_zero, List.set_cons_succ])
  refine takeH (i := 1) (dst := some 6) (v := ?v2) rfl rfl (by kernel_rfl) (by kernel_rfl) (by kernel_rfl) (fun _ _ _ h => h) rfl ?hy2 hH rfl ?rest2
  case hy2 => (intro W hW; have q2 := hW.1.c2; have lk := HLK.out W hW.1; clear hW; go_simp; try with_reducible rfl)
  (try simp only [Act.put, List.setIfInBounds_toArray, List.set_cons_zero, List.set_cons_succ])
  refine takeH (i := 2) (dst := some 7) (v := ?v3) rfl rfl (by kernel_rfl) (by kernel_rfl) (by kernel_rfl) (fun _ _ _ h => h) rfl ?hy3 hH rfl ?rest3
  case hy3 => (intro W hW; have q2 := hW.1.c2; have lk := HLK.out W hW.1; clear hW; go_simp; try with_reducible rfl)
  (try simp only [Act.put, List.setIfInBounds_toArray, List.set_cons_zero, List.set_cons_succ])
  refine takeH (i := 3) (dst := some 8) (v := ?v4) rfl rfl (by kernel_rfl) (by kernel_rfl) (by kernel_rfl) (fun _ _ _ h => h) rfl ?hy4 hH rfl ?rest4
  case hy4 => (intro W hW; have q2 := hW.1.c2; have lk := HLK.out W hW.1; clear hW; go_simp; try with_reducible rfl)
  (try simp only [Act.put, List.setIfInBounds_toArray, List.set_cons_zero, List.set_cons_succ])
  refine takeH (i := 4) (dst := some 9) (v := ?v5) rfl rfl (by kernel_rfl) (by kernel_rfl) (by kernel_rfl) (fun _ _ _ h => h) rfl ?hy5 hH rfl ?rest5
  case hy5 => (intro W hW; have q2 := hW.1.c2; have lk := HLK.out W hW.1; clear hW; go_simp; try with_reducible rfl)
  (try simp only [Act.put, List.setIfInBounds_toArray, List.set_cons_zero, List.set_cons_succ])
  refine takeH (i := 5) (dst := some 10) (v := ?v6) rfl rfl (by kernel_rfl) (by kernel_rfl) (by kernel_rfl) (fun _ _ _ h => h) rfl ?hy6 hH rfl ?rest6
  case hy6 => (intro W hW; have q2 := hW.1.c2; have lk := HLK.out W hW.1; clear hW; go_simp; try with_reducible rfl)
  (try simp only [Act.put, List.setIfInBounds_toArray, List.set_cons_zero, List.set_cons_succ])
  refine takeH (i := 6) (dst := some 11) (v := ?v7) rfl rfl (by kernel_rfl) (by kernel_rfl) (by kernel_rfl) (fun _ _ _ h => h) rfl ?hy7 hH rfl ?rest7
  case hy7 => (intro W hW; have q2 := hW.1.c2; have lk := HLK.out W hW.1; clear hW; go_simp; try with_reducible rfl)
  (try simp only [Act.put, List.setIfInBounds_toArray, List.set_cons_zero, List.set_cons_succ])
  refine takeH (i := 7) (dst := some 12) (v := ?v8) rfl rfl (by kernel_rfl) (by kernel_rfl) (by kernel_rfl) (fun _ _ _ h => h) rfl ?hy8 hH rfl ?rest8
  case hy8 => (intro W hW; have q2 := hW.1.c2; have lk := HLK.out W hW.1; clear hW; go_simp; try with_reducible rfl)
  (try simp only [Act.put, List.setIfInBounds_toArray, List.set_cons_zero, List.set_cons_succ])
  refine takeH (i := 8) (dst := some 13) (v := ?v9) rfl rfl (by kernel_rfl) (by kernel_rfl) (by kernel_rfl) (fun _ _ _ h => h) rfl ?hy9 hH rfl ?rest9
  case hy9 => (intro W hW; refine exec_load_con (x := Operand.tmp 12) (hW.1.range HE.out) HD.out ?_ ?_ <;> rfl)
  (try simp only [Act.put, List.setIfInBounds_toArray, List.set_cons_zero, List.set_cons_succ])
  refine takeH (i := 9) (dst := some 14) (v := ?v10) rfl rfl (by kernel_rfl) (by kernel_rfl) (by kernel_rfl) (fun _ _ _ h => h) rfl ?hy10 hH rfl ?rest10
  case hy10 => (intro W hW; have q2 := hW.1.c2; have lk := HLK.out W hW.1; clear hW; go_simp; try with_reducible rfl)
  (try simp only [Act.put, List.setIfInBounds_toArray, List.set_cons_zero, List.set_cons_succ])
  refine takeH (i := 10) (dst := some 15) (v := ?v11) rfl rfl (by kernel_rfl) (by kernel_rfl) (by kernel_rfl) (fun _ _ _ h => h) rfl ?hy11 hH rfl ?rest11
  case hy11 => (intro W hW; have q2 := hW.1.c2; have lk := HLK.out W hW.1; clear hW; go_simp; try with_reducible rfl)
  (try simp only [Act.put, List.setIfInBounds_toArray, List.set_cons_zero, List.set_cons_succ])
  refine callH (i := 11) { dst := some 16, op := Go.Op.call { callee := Go.Callee.value (Go.Operand.func 64), args := #[Go.Operand.tmp 14, Go.Operand.tmp 15], argTypes := #[31, 72] }, type := 84, pos := "cache.go:100", after := #[{ on := 9, ground := Go.Ground.data }, { on := 10, ground := Go.Ground.data }], guard := none } (by kernel_rfl) rfl rfl (fun K hK => ?_)
  go_simp
  refine (stands_any hH.1 e.n HN.out).mono ?_
  rintro r v1 ⟨rfl, k1⟩
  have m1 := And.intro (hH.1.up k1) (hH.2.trans (k1.mono hH.2.size))
  clear k1
  clear hH
  refine hK.out _ _ m1 (fun hH => ?_)
  clear hK K
  (try simp only [Act.put, List.setIfInBounds_toArray, List.set_cons_zero, List.set_cons_succ])
  refine takeH (i := 12) (dst := some 17) (v := ?v12) rfl rfl (by kernel_rfl) (by kernel_rfl) (by kernel_rfl) (fun _ _ _ h => h) rfl ?hy12 hH rfl ?rest12
  case hy12 => (intro W hW; refine exec_neq_con (X := Operand.tmp 13) (Y := Operand.tmp 16) HD.out HX.out (b := dirtyB σ e) rfl ?_ ?_ ?_ <;> rfl)
  (try simp only [Act.put, List.setIfInBounds_toArray, List.set_cons_zero, List.set_cons_succ])
  refine takeH (i := 13) (dst := some 4) (v := ?v13) rfl rfl (by kernel_rfl) (by kernel_rfl) (by kernel_rfl) (fun _ _ _ h => h) rfl ?hy13 hH rfl ?rest13
  case hy13 => (intro W hW; have q2 := hW.1.c2; have lk := HLK.out W hW.1; clear hW; go_simp; try with_reducible rfl)
  (try simp only [Act.put, List.setIfInBounds_toArray, List.set_cons_zero, List.set_cons_succ])
  refine wpAnyH_done (by kernel_rfl) ?_ _
  clear hH
  go_wp2
  go_ret
  exact ⟨rfl, m1.2⟩
set_option maxHeartbeats 1000000 in
theorem mayGo_any (h : CS w base σ O) {A B : List CE} {e : CE} (hL : σ.L = A ++ e :: B) :
    Calls Try.prog 88 #[.pointer (some ⟨σ.p, 0, none⟩), .int .i64 (e.n : Int)] w fun r w' => r = .returned (.bool (goB σ e)) ∧ Below w.heap.size w w' := by
  have DT := dirty_any h hL
  have LK := h.lookE hL
  have q2 := h.c2
  have qp := h.pin (e := e) (by rw [hL]; simp)
  clear h hL
  unfold goB
  generalize dirtyB σ e = D at *
  by_cases h0 : e.pin = 0
  · rw [h0] at qp ⊢
    go_enter Try.func88, Try.ntmps88
    go_wp2_with (first | (go_at_call 37; refine DT.mono ?_; rintro r w1 ⟨rfl, k1⟩))
    go_ret
    exact ⟨by cases D <;> rfl, k1⟩
  · have h1 : ((e.pin : Int) == 0) = false := beq_eq_false_iff_ne.2 (by omega)
    have h2 : (e.pin == 0) = false := beq_eq_false_iff_ne.2 h0
    rw [h2]
    clear h2
    generalize e.pin = pn at *
    go_enter Try.func88, Try.ntmps88
    go_wp2_with (first | (go_at_call 37; refine DT.mono ?_; rintro r w1 ⟨rfl, k1⟩))
    go_ret
    exact ⟨rfl, Below.refl _ _⟩
theorem DiskAt.dk_lt {w : World} {base p n : Nat} {en : Bool} {lf : Int} {sf : Nat → List UInt8} {ws : Nat → List (List UInt8)} {q : Nat} {vs : Nat → Value} (h : DiskAt w base p n en lf sf ws q vs) {k : Nat} (hk : Dk p q n vs k) : k < w.heap.size ∧ base ≤ k := by
  rcases hk with rfl | rfl | ⟨i, hi, hk⟩
  · exact ⟨h.pl, h.pb⟩
  · exact ⟨h.ql, h.qb⟩
  · have := World.ownsRow.lt (h.wr i hi).1 k hk
    exact ⟨this.2, this.1⟩
/-- Another order. -/
theorem CS.reord (h : CS w base σ O) {v' : Value} {O' : List Int} (hf : Fr (fun k => k = σ.p ∨ σ.ov.ownBlock = some k) w w') (hc : ∀ o, ¬ o = 3 → w'.cell? ⟨σ.p, o, none⟩ = w.cell? ⟨σ.p, o, none⟩) (h3 : w'.cell? ⟨σ.p, 3, none⟩ = some v') (hfp : ∀ o, w'.frozen? ⟨σ.p, o, none⟩ = false)
    (ho : OwnN w' base v' O') (hs : ∀ k, v'.ownBlock = some k → σ.ov.ownBlock = some k ∨ w.heap.size ≤ k) : CS w' base { σ with ov := v' } O' := by
  have ne : ∀ k, k < w.heap.size → ¬ σ.ov.ownBlock = some k → ¬ v'.ownBlock = some k := fun k hk hn hv => by
    rcases hs k hv with h1 | h1
    · exact hn h1
    · omega
  exact {
    disk := h.disk.fr hf fun k hk hS => h.dk k hk (by
      rcases hS with hS | hS
      · exact .inl hS
      · exact .inr (.inr (.inl hS)))
    c0 := (hc 0 (by omega)).trans h.c0, c1 := (hc 1 (by omega)).trans h.c1, c2 := (hc 2 (by omega)).trans h.c2, c3 := h3, fp := hfp, ord := ho
    map := h.map.same (hf.blk _ h.map.lt (fun hS => by
      rcases hS with hS | hS
      · exact h.pm hS.symm
      · exact h.mo hS))
    blk := fun e he => ⟨(hf.blk e.q (h.sk_lt (.inr (.inr (.inr ⟨e, he, rfl⟩)))) (fun hS => by
      rcases hS with hS | hS
      · exact (h.bq e he).1 hS
      · exact (h.bq e he).2.2.1 hS)).trans (h.blk e he).1, (h.blk e he).2⟩
    nd := h.nd, qd := h.qd, pm := h.pm
    po := ne _ h.pl h.po
    mo := ne _ h.map.lt h.mo
    bq := fun e he => ⟨(h.bq e he).1, (h.bq e he).2.1, ne _ (h.sk_lt (.inr (.inr (.inr ⟨e, he, rfl⟩)))) (h.bq e he).2.2.1, (h.bq e he).2.2.2⟩
    pb := h.pb, mbb := h.mbb
    dk := fun k hk hC => by
      rcases hC with hC | hC | hC | hC
      · exact h.dk k hk (.inl hC)
      · exact h.dk k hk (.inr (.inl hC))
      · rcases hs k hC with h1 | h1
        · exact h.dk k hk (.inr (.inr (.inl h1)))
        · have := (h.disk.dk_lt hk).1; omega
      · exact h.dk k hk (.inr (.inr (.inr hC)))
    m1 := h.m1 }
/-- From one cache to another: only its own blocks turn, and what it comes to own is new. -/
structure Step (σ σ' : CSt) (w w' : World) : Prop where
  fr : Fr (Sk σ) w w'
  sub : ∀ k, Sk σ' k → Sk σ k ∨ w.heap.size ≤ k
theorem Step.refl (σ : CSt) {w w' : World} (hb : Below w.heap.size w w') : Step σ σ w w' := ⟨Fr.of_below hb, fun _ h => .inl h⟩
theorem Step.trans {σ σ' σ'' : CSt} {a b c : World} (h : Step σ σ' a b) (k : Step σ' σ'' b c) : Step σ σ'' a c := by
  have hz := h.fr.size
  refine ⟨⟨Nat.le_trans h.fr.size k.fr.size, fun j hj hn => ?_, k.fr.os.trans h.fr.os, k.fr.tape.trans h.fr.tape, k.fr.output.trans h.fr.output⟩, fun j hj => ?_⟩
  · refine (k.fr.blk j (by omega) (fun hs => ?_)).trans (h.fr.blk j hj hn)
    rcases h.sub j hs with h1 | h1
    · exact hn h1
    · omega
  · rcases k.sub j hj with h1 | h1
    · exact h.sub j h1
    · exact .inr (by omega)
theorem Step.ord {σ : CSt} {w w' : World} {v' : Value} (hf : Fr (fun k => k = σ.p ∨ σ.ov.ownBlock = some k) w w') (hs : ∀ k, v'.ownBlock = some k → σ.ov.ownBlock = some k ∨ w.heap.size ≤ k) : Step σ { σ with ov := v' } w w' := by
  refine ⟨hf.mono fun k _ hk => ?_, fun k hk => ?_⟩
  · rcases hk with hk | hk
    · exact .inl (.inl hk)
    · exact .inl (.inr (.inr (.inl hk)))
  · rcases hk with (hk | hk | hk | hk) | hk
    · exact .inl (.inl (.inl hk))
    · exact .inl (.inl (.inr (.inl hk)))
    · rcases hs k hk with h1 | h1
      · exact .inl (.inl (.inr (.inr (.inl h1))))
      · exact .inr h1
    · exact .inl (.inl (.inr (.inr (.inr hk))))
    · exact .inl (.inr hk)
end
end Go.Proofs.Ytikpnfnbmbaljaa
/- Package cache: unlist, leave. -/
namespace Go.Proofs.Ytikpnfnbmbaljaa
open Go.RowKit
set_option maxRecDepth 100000
theorem getD_app (X Z : List Int) (y : Int) : (X ++ y :: Z).getD X.length 0 = y := by simp
theorem erase_app (X Z : List Int) (y : Int) : (X ++ y :: Z).eraseIdx X.length = X ++ Z := by
  rw [List.eraseIdx_append_of_length_le (Nat.le_refl _)]; simp
theorem Fr.of_grown {w w' : World} {g : Nat} (h : w.grownBy w' (some g)) : Fr (fun k => k = g) w w' := ⟨h.size, fun k hk hn => h.block k hk (fun e => hn (Option.some.inj e)), h.os, h.tape, h.output⟩
section
variable {w w' : World} {base : Nat} {σ : CSt} {O : List Int}
set_option maxHeartbeats 1000000 in
theorem unlist_any (h : CS w base σ O) {X Z : List Int} {y : Int} (hO : O = X ++ y :: Z) (hy : ∀ x ∈ X, ¬ y = x) :
    Calls Try.prog 69 #[.pointer (some ⟨σ.p, 0, none⟩), .int .i64 y] w fun r w' => r = .returned (.tuple #[]) ∧ ∃ v', CS w' base { σ with ov := v' } (X ++ Z) ∧ Step σ { σ with ov := v' } w w' ∧ Below base w w' := by
  have hord := h.ord
  obtain ⟨ao, cap, hov, hsrc, hlc, hcm, hnil⟩ := hord.form
  have hlen : O.length = X.length + Z.length + 1 := by rw [hO]; simp; omega
  rcases hsrc with hsrc | ⟨g, off, rfl, hgl, hcell⟩
  · rw [hsrc] at hlen; simp at hlen
  have hg0 : off = 0 ∧ base ≤ g := by
    rcases hord.2 with ⟨h2, _⟩ | ⟨g', cap', cur, hv, hgb, _⟩
    · rw [hov] at h2; cases h2
    · rw [hov] at hv
      simp only [Value.slice.injEq, Option.some.injEq, Addr.mk.injEq] at hv
      exact ⟨hv.1.2.1, by omega⟩
  obtain ⟨rfl, hgb⟩ := hg0
  have hob : σ.ov.ownBlock = some g := by rw [hov]; rfl
  have hgp : ¬ σ.p = g := fun e => h.po (by rw [hob, e])
  rw [hov, hlen] at hord
  have IX := index_any g 0 (X.length + Z.length + 1) cap O y X.length w (fun j hj => hcell j (by omega)) (by omega) (by omega) (by rw [hO]; exact getD_app X Z y) (fun j hj => by
    rw [hO, List.getD_eq_getElem?_getD, List.getElem?_append_left hj]
    rw [List.getElem?_eq_getElem hj]
    exact hy _ (List.getElem_mem hj))
  have DL := delete_any base g cap (X.length + Z.length) X.length O w hord hlen (by omega) hcm
  rw [show O.eraseIdx X.length = X ++ Z by rw [hO]; exact erase_app X Z y] at DL
  have q3 := h.c3
  rw [hov, hlen] at q3
  have HH : Hid (CS w base σ O) := h
  have HOB : Hid (σ.ov.ownBlock = some g) := hob
  have HPL : Hid (σ.p < w.heap.size) := h.pl
  have hib : (X.length : Int) + 1 ≤ 9223372036854775807 := by omega
  clear hcell hord h hob hov hO hy hlen hnil hlc hgl
  obtain ⟨m, hm⟩ : ∃ m, m = X.length + Z.length := ⟨_, rfl⟩
  obtain ⟨i, hi⟩ : ∃ i, i = X.length := ⟨_, rfl⟩
  rw [← hm] at IX DL q3
  rw [← hi] at IX DL hib
  clear hm hi
  go_enter Try.func69, Try.ntmps69
  go_wp2_with fail
  refine IX.mono ?_
  rintro e w1 ⟨rfl, hw1⟩
  obtain rfl : w = w1 := hw1.symm
  clear IX
  go_wp2_with fail

  refine DL.mono ?_
  clear DL
  rintro e w2 ⟨rfl, ho2, hg2⟩
  have q3' : w2.cell? ⟨σ.p, 3, none⟩ = _ := (World.cell?_of_block (a := ⟨σ.p, 3, none⟩) (hg2.block σ.p HPL.out (fun e => hgp (Option.some.inj e)))).trans q3
  have qf : w2.frozen? ⟨σ.p, 3, none⟩ = false := (World.frozen?_of_block (a := ⟨σ.p, 3, none⟩) (hg2.block σ.p HPL.out (fun e => hgp (Option.some.inj e)))).trans (HH.out.fp 3)
  go_wp2
  go_end0
  have hP := hg2.block σ.p HPL.out (fun e => hgp (Option.some.inj e))
  have hf : Fr (fun k => k = σ.p ∨ σ.ov.ownBlock = some k) w (w2.setCell ⟨σ.p, 3, none⟩ (.slice (some ⟨g, 0, none⟩) m cap)) :=
    ((Fr.of_grown hg2).mono fun k _ hk => .inr (by rw [HOB.out, hk])).setCell σ.p 3 _ (.inl rfl)
  have hs : ∀ k, (Value.slice (some ⟨g, 0, none⟩) m cap).ownBlock = some k → σ.ov.ownBlock = some k ∨ w.heap.size ≤ k := fun k hk => .inl (by rw [HOB.out]; exact hk)
  refine ⟨rfl, _, HH.out.reord hf ?_ ?_ ?_ ?_ hs, Step.ord hf hs, ?_⟩
  · intro o ho
    exact (World.cell?_setCell_other _ _ _ _ (fun c => ho (by injection c with _ c2; exact c2.symm))).trans (World.cell?_of_block (a := ⟨σ.p, o, none⟩) hP)
  · exact World.cell?_setCell_same _ _ _ q3'
  · intro o
    rw [World.frozen?_setCell]
    exact (World.frozen?_of_block (a := ⟨σ.p, o, none⟩) hP).trans (HH.out.fp o)
  · exact ho2.same fun k hk => heap_setCell_other _ _ _ _ (fun e => by cases hk; exact hgp e.symm)
  · exact ((Below.refl _ _).grown hg2 (by have := HH.out.pb; have := HPL.out; omega) (fun k hk => by cases hk; exact hgb)).setCell HH.out.pb _
/-- One block less. -/
theorem CS.dropL (h : CS w base σ O) {A B : List CE} {e : CE} (hL : σ.L = A ++ e :: B) (hf : Fr (fun k => k = σ.mb) w w') (hm : PMap w' σ.mb σ.K (lookF (A ++ B))) : CS w' base { σ with L := A ++ B } O := by
  have sub : ∀ x, x ∈ A ++ B → x ∈ σ.L := fun x hx => by
    rw [hL]
    rcases List.mem_append.1 hx with hx | hx
    · exact List.mem_append.2 (.inl hx)
    · exact List.mem_append.2 (.inr (List.mem_cons_of_mem _ hx))
  have cp : ∀ o, w'.cell? ⟨σ.p, o, none⟩ = w.cell? ⟨σ.p, o, none⟩ := fun o => fr_cell hf (a := ⟨σ.p, o, none⟩) h.pl h.pm
  have nodup : ∀ f : CE → Nat, (σ.L.map f).Nodup → ((A ++ B).map f).Nodup := fun f hd => by
    rw [hL] at hd
    refine List.Nodup.sublist ?_ hd
    rw [List.map_append, List.map_append]
    exact List.Sublist.append (List.Sublist.refl _) (by rw [List.map_cons]; exact List.sublist_cons_self _ _)
  exact {
    disk := h.disk.fr hf fun k hk hS => h.dk k hk (.inr (.inl hS))
    c0 := (cp 0).trans h.c0, c1 := (cp 1).trans h.c1, c2 := (cp 2).trans h.c2, c3 := (cp 3).trans h.c3
    fp := fun o => (fr_frozen hf (a := ⟨σ.p, o, none⟩) h.pl h.pm).trans (h.fp o)
    ord := h.ord.same fun k hk => hf.blk k (h.ord.lt k hk).2 (fun e => h.mo (by rw [hk, e]))
    map := hm
    blk := fun x hx => ⟨(hf.blk x.q (h.sk_lt (.inr (.inr (.inr ⟨x, sub x hx, rfl⟩)))) (h.bq x (sub x hx)).2.1).trans (h.blk x (sub x hx)).1, (h.blk x (sub x hx)).2⟩
    nd := nodup _ h.nd, qd := nodup _ h.qd, pm := h.pm, po := h.po, mo := h.mo
    bq := fun x hx => h.bq x (sub x hx)
    pb := h.pb, mbb := h.mbb
    dk := fun k hk hC => h.dk k hk (by
      rcases hC with hC | hC | hC | ⟨x, hx, hq⟩
      · exact .inl hC
      · exact .inr (.inl hC)
      · exact .inr (.inr (.inl hC))
      · exact .inr (.inr (.inr ⟨x, sub x hx, hq⟩)))
    m1 := h.m1 }
theorem Step.dropL {A B : List CE} {e : CE} (hL : σ.L = A ++ e :: B) (hf : Fr (fun k => k = σ.mb) w w') : Step σ { σ with L := A ++ B } w w' := by
  refine ⟨hf.mono fun k _ hk => .inl (.inr (.inl hk)), fun k hk => .inl ?_⟩
  rcases hk with (hk | hk | hk | ⟨x, hx, hq⟩) | hk
  · exact .inl (.inl hk)
  · exact .inl (.inr (.inl hk))
  · exact .inl (.inr (.inr (.inl hk)))
  · refine .inl (.inr (.inr (.inr ⟨x, ?_, hq⟩)))
    rw [hL]
    rcases List.mem_append.1 hx with hx | hx
    · exact List.mem_append.2 (.inl hx)
    · exact List.mem_append.2 (.inr (List.mem_cons_of_mem _ hx))
  · exact .inr hk
/-- One block more. -/
theorem CS.addL (h : CS w base σ O) {e : CE} (hq : w.heap[e.q]? = some (.cells (beL e).toArray 86 (0, 0))) (hd : e.d.length = 256) (hn : e.n < σ.dn) (hp : e.pin ≤ σ.K + 1) (hb : base ≤ e.q) (hS : ¬ Sk σ e.q) (hne : ∀ x ∈ σ.L, ¬ x.n = e.n)
    (hf : Fr (fun k => k = σ.mb) w w') (hm : PMap w' σ.mb (σ.K + 1) (setF (lookF σ.L) e.n (e.q + 1))) : CS w' base { σ with L := σ.L ++ [e], K := σ.K + 1 } O := by
  have cp : ∀ o, w'.cell? ⟨σ.p, o, none⟩ = w.cell? ⟨σ.p, o, none⟩ := fun o => fr_cell hf (a := ⟨σ.p, o, none⟩) h.pl h.pm
  have hql : e.q < w.heap.size := (Array.getElem?_eq_some_iff.1 hq).1
  have hqm : ¬ e.q = σ.mb := fun c => hS (.inl (.inr (.inl c)))
  exact {
    disk := h.disk.fr hf fun k hk hS => h.dk k hk (.inr (.inl hS))
    c0 := (cp 0).trans h.c0, c1 := (cp 1).trans h.c1, c2 := (cp 2).trans h.c2, c3 := (cp 3).trans h.c3
    fp := fun o => (fr_frozen hf (a := ⟨σ.p, o, none⟩) h.pl h.pm).trans (h.fp o)
    ord := h.ord.same fun k hk => hf.blk k (h.ord.lt k hk).2 (fun e => h.mo (by rw [hk, e]))
    map := by rw [← lookF_add hne]; exact hm
    blk := fun x hx => by
      rcases List.mem_append.1 hx with hx | hx
      · have := h.blk x hx
        exact ⟨(hf.blk x.q (h.sk_lt (.inr (.inr (.inr ⟨x, hx, rfl⟩)))) (h.bq x hx).2.1).trans this.1, this.2.1, this.2.2.1, by have := this.2.2.2; show _ ≤ σ.K + 1; omega⟩
      · simp only [List.mem_singleton] at hx
        subst hx
        exact ⟨(hf.blk _ hql hqm).trans hq, hd, hn, hp⟩
    nd := by
      rw [List.map_append, List.nodup_append]
      refine ⟨h.nd, by simp, fun a ha b hb => ?_⟩
      obtain ⟨x, hx, rfl⟩ := List.mem_map.1 ha
      simp only [List.map_cons, List.map_nil, List.mem_singleton] at hb
      subst hb
      exact hne x hx
    qd := by
      rw [List.map_append, List.nodup_append]
      refine ⟨h.qd, by simp, fun a ha b hb => ?_⟩
      obtain ⟨x, hx, rfl⟩ := List.mem_map.1 ha
      simp only [List.map_cons, List.map_nil, List.mem_singleton] at hb
      subst hb
      exact fun c => hS (.inl (.inr (.inr (.inr ⟨x, hx, c⟩))))
    pm := h.pm, po := h.po, mo := h.mo
    bq := fun x hx => by
      rcases List.mem_append.1 hx with hx | hx
      · exact h.bq x hx
      · simp only [List.mem_singleton] at hx
        subst hx
        exact ⟨fun c => hS (.inl (.inl c)), hqm, fun c => hS (.inl (.inr (.inr (.inl c)))), hb⟩
    pb := h.pb, mbb := h.mbb
    dk := fun k hk hC => by
      rcases hC with hC | hC | hC | ⟨x, hx, hq2⟩
      · exact h.dk k hk (.inl hC)
      · exact h.dk k hk (.inr (.inl hC))
      · exact h.dk k hk (.inr (.inr (.inl hC)))
      · rcases List.mem_append.1 hx with hx | hx
        · exact h.dk k hk (.inr (.inr (.inr ⟨x, hx, hq2⟩)))
        · simp only [List.mem_singleton] at hx
          subst hx
          subst hq2
          exact hS (.inr hk)
    m1 := h.m1 }
theorem wfN {n : Nat} (h : n ≤ 4096) : (Lit.int .i64 (n : Int)).wf = true := by
  simp only [Lit.wf, Bool.and_eq_true, decide_eq_true_eq]
  exact ⟨by show -9223372036854775808 ≤ _; omega, by show _ ≤ 9223372036854775807; omega⟩
theorem NoTwo.order {A B : List CE} {e : CE} (h : NoTwo A e B) : ∀ x ∈ nums A, ¬ (e.n : Int) = x := fun x hx => by
  obtain ⟨y, hy, rfl⟩ := List.mem_map.1 hx
  have := h.1 y hy
  omega
set_option maxHeartbeats 1000000 in
theorem leave_any (h : CS w base σ (nums σ.L)) {A B : List CE} {e : CE} (hL : σ.L = A ++ e :: B) :
    Calls Try.prog 60 #[.pointer (some ⟨σ.p, 0, none⟩), .int .i64 (e.n : Int)] w fun r w' => r = .returned (.tuple #[]) ∧ ∃ v', CS w' base { σ with ov := v', L := A ++ B } (nums (A ++ B)) ∧ Step σ { σ with ov := v', L := A ++ B } w w' ∧ Below base w w' := by
  have hn := (h.blk e (by rw [hL]; simp)).2.2.1
  have hd := h.disk.nn
  obtain ⟨w1, hrun, hm, hg⟩ := h.map.del (e.n : Int) (wfN (by omega)) 0
  rw [hL, lookF_del (h.split hL)] at hm
  have hf := Fr.of_grown hg
  have h1 := h.dropL hL hf hm
  have HS1 : Hid (Step σ { σ with L := A ++ B } w w1) := Step.dropL hL hf
  have HB1 : Hid (Below base w w1) := (Below.refl _ _).grown hg (by have := h.mbb; have := h.map.lt; omega) (fun k hk => by cases hk; exact h.mbb)
  have UL := unlist_any h1 (X := nums A) (Z := nums B) (y := (e.n : Int)) (by rw [hL]; simp [nums]) (h.split hL).order
  rw [← nums_append] at UL
  have q2 := h.c2
  clear h h1 hm hg hf hL
  go_enter Try.func60, Try.ntmps60
  go_wp2_with (first | (go_at_call 69; refine UL.mono ?_; rintro r w2 ⟨rfl, v', k1, k2, k3⟩))
  go_end0
  exact ⟨rfl, v', k1, HS1.out.trans k2, HB1.out.trans k3⟩
end
end Go.Proofs.Ytikpnfnbmbaljaa
/- Package cache: room. -/
namespace Go.Proofs.Ytikpnfnbmbaljaa
open Go.RowKit
set_option maxRecDepth 100000
attribute [local go_sem] wrapI decF decT
theorem first_split (p : CE → Bool) : ∀ L : List CE, (∀ x ∈ L, p x = false) ∨ ∃ A e B, L = A ++ e :: B ∧ (∀ x ∈ A, p x = false) ∧ p e = true
  | [] => .inl fun x hx => by cases hx
  | a :: r => by
    cases ha : p a
    · rcases first_split p r with h | ⟨A, e, B, rfl, h1, h2⟩
      · refine .inl fun x hx => ?_
        rcases List.mem_cons.1 hx with rfl | hx
        · exact ha
        · exact h x hx
      · refine .inr ⟨a :: A, e, B, rfl, fun x hx => ?_, h2⟩
        rcases List.mem_cons.1 hx with rfl | hx
        · exact ha
        · exact h1 x hx
    · exact .inr ⟨[], a, r, rfl, fun x hx => (by cases hx), ha⟩
theorem nums_getD (L : List CE) (k : Nat) (h : k < L.length) : (nums L).getD k 0 = ((L[k]).n : Int) := by simp [nums, h]
theorem split_at (L : List CE) (k : Nat) (h : k < L.length) : L = L.take k ++ L[k] :: L.drop (k + 1) := by
  rw [List.getElem_cons_drop, List.take_append_drop]
section
variable {w w' : World} {base : Nat} {σ : CSt}
/-- The order's row. -/
theorem CS.row (h : CS w base σ (nums σ.L)) : ∃ ao cap, σ.ov = .slice ao σ.L.length cap ∧ σ.L.length ≤ cap ∧ (cap : Int) ≤ 9223372036854775807 ∧ (0 < σ.L.length → ∃ g, ao = some ⟨g, 0, none⟩ ∧ ∀ W, CS W base σ (nums σ.L) → ∀ k, (hk : k < σ.L.length) → W.cell? ⟨g, k, none⟩ = some (.int .i64 ((σ.L[k]).n : Int))) := by
  obtain ⟨ao, cap, hov, hsrc, hlc, hcm, hnil⟩ := h.ord.form
  rw [nums_length] at hov hlc
  refine ⟨ao, cap, hov, hlc, hcm, fun hpos => ?_⟩
  rcases h.ord.2 with ⟨h2, _⟩ | ⟨g, cap', cur, hv, _⟩
  · rw [hov] at h2
    simp only [Value.slice.injEq] at h2
    have := h2.2.1
    omega
  · rw [hov] at hv
    simp only [Value.slice.injEq] at hv
    refine ⟨g, hv.1, fun W hW k hk => ?_⟩
    obtain ⟨ao2, cap2, hov2, hsrc2, _⟩ := hW.ord.form
    rw [hov, hv.1] at hov2
    simp only [Value.slice.injEq] at hov2
    rcases hsrc2 with hs | ⟨b, off, hb, _, hc⟩
    · have := congrArg List.length hs
      rw [nums_length, List.length_nil] at this
      omega
    · rw [← hov2.1] at hb
      simp only [Option.some.injEq, Addr.mk.injEq] at hb
      obtain ⟨rfl, rfl, _⟩ := hb
      have := hc k (by rw [nums_length]; exact hk)
      rw [Nat.zero_add, nums_getD _ _ hk] at this
      exact this
set_option maxHeartbeats 2000000 in
theorem room_free (h : CS w base σ (nums σ.L)) (hl : (σ.L.length : Int) < σ.most) :
    Calls Try.prog 70 #[.pointer (some ⟨σ.p, 0, none⟩)] w fun r w' => r = .returned (.bool true) ∧ Below w.heap.size w w' := by
  obtain ⟨ao, cap, hov, hlc, hcm, hrow⟩ := h.row
  have hm1 := h.m1
  have HC : Hid (CS w.drew base σ (nums σ.L) ∧ Below w.heap.size w w.drew) := ⟨h.drew, (Below.refl _ _).drew⟩
  have HQ3 : Hid (∀ W, CS W base σ (nums σ.L) → W.cell? ⟨σ.p, 3, none⟩ = some (.slice ao σ.L.length cap)) := fun W hW => by rw [hW.c3, hov]
  clear h
  have hdec : DecT (σ.L.length < σ.most) := ⟨by omega⟩
  clear hov hrow
  go_enter Try.func70, Try.ntmps70
  go_wp2_with fail
  refine wp_region_held_drew (S := (fun W => CS W base σ (nums σ.L) ∧ Below w.heap.size w W)) (by kernel_rfl) HC.out (fun hH => ?_)
  refine takeH (i := 0) (dst := some 5) (v := ?v1) rfl rfl (by kernel_rfl) (by kernel_rfl) (by kernel_rfl) (fun _ _ _ h => h) rfl ?hy1 hH rfl ?rest1
  case hy1 => (intro W hW; have q1 := hW.1.c1; have q3 := HQ3.out W hW.1; clear hW; go_simp; try with_reducible rfl)
  (try simp only [Act.put, List.setIfInBounds_toArray, List.set_cons_zero, List.set_cons_succ])
  refine takeH (i := 1) (dst := some 6) (v := ?v2) rfl rfl (by kernel_rfl) (by kernel_rfl) (by kernel_rfl) (fun _ _ _ h => h) rfl ?hy2 hH rfl ?rest2
  case hy2 => (intro W hW; have q1 := hW.1.c1; have q3 := HQ3.out W hW.1; clear hW; go_simp; try with_reducible rfl)
  (try simp only [Act.put, List.setIfInBounds_toArray, List.set_cons_zero, List.set_cons_succ])
  refine takeH (i := 2) (dst := some 7) (v := ?v3) rfl rfl (by kernel_rfl) (by kernel_rfl) (by kernel_rfl) (fun _ _ _ h => h) rfl ?hy3 hH rfl ?rest3
  case hy3 => (intro W hW; have q1 := hW.1.c1; have q3 := HQ3.out W hW.1; clear hW; go_simp; try with_reducible rfl)
  (try simp only [Act.put, List.setIfInBounds_toArray, List.set_cons_zero, List.set_cons_succ])
  refine takeH (i := 3) (dst := some 8) (v := ?v4) rfl rfl (by kernel_rfl) (by kernel_rfl) (by kernel_rfl) (fun _ _ _ h => h) rfl ?hy4 hH rfl ?rest4
  case hy4 => (intro W hW; have q1 := hW.1.c1; have q3 := HQ3.out W hW.1; clear hW; go_simp; try with_reducible rfl)
  (try simp only [Act.put, List.setIfInBounds_toArray, List.set_cons_zero, List.set_cons_succ])
  refine takeH (i := 4) (dst := some 9) (v := ?v5) rfl rfl (by kernel_rfl) (by kernel_rfl) (by kernel_rfl) (fun _ _ _ h => h) rfl ?hy5 hH rfl ?rest5
  case hy5 => (intro W hW; have q1 := hW.1.c1; have q3 := HQ3.out W hW.1; clear hW; go_simp; try with_reducible rfl)
  (try simp only [Act.put, List.setIfInBounds_toArray, List.set_cons_zero, List.set_cons_succ])
  refine takeH (i := 5) (dst := some 10) (v := ?v6) rfl rfl (by kernel_rfl) (by kernel_rfl) (by kernel_rfl) (fun _ _ _ h => h) rfl ?hy6 hH rfl ?rest6
  case hy6 => (intro W hW; have q1 := hW.1.c1; have q3 := HQ3.out W hW.1; clear hW; go_simp; try with_reducible rfl)
  (try simp only [Act.put, List.setIfInBounds_toArray, List.set_cons_zero, List.set_cons_succ])
  refine takeH (i := 6) (dst := some 11) (v := ?v7) rfl rfl (by kernel_rfl) (by kernel_rfl) (by kernel_rfl) (fun _ _ _ h => h) rfl ?hy7 hH rfl ?rest7
  case hy7 => (intro W hW; have q1 := hW.1.c1; have q3 := HQ3.out W hW.1; clear hW; go_simp; try with_reducible rfl)
  (try simp only [Act.put, List.setIfInBounds_toArray, List.set_cons_zero, List.set_cons_succ])
  refine takeH (i := 7) (dst := some 12) (v := ?v8) rfl rfl (by kernel_rfl) (by kernel_rfl) (by kernel_rfl) (fun _ _ _ h => h) rfl ?hy8 hH rfl ?rest8
  case hy8 => (intro W hW; have q1 := hW.1.c1; have q3 := HQ3.out W hW.1; clear hW; go_simp; try with_reducible rfl)
  (try simp only [Act.put, List.setIfInBounds_toArray, List.set_cons_zero, List.set_cons_succ])
  refine takeH (i := 8) (dst := some 13) (v := ?v9) rfl rfl (by kernel_rfl) (by kernel_rfl) (by kernel_rfl) (fun _ _ _ h => h) rfl ?hy9 hH rfl ?rest9
  case hy9 => (intro W hW; have q1 := hW.1.c1; have q3 := HQ3.out W hW.1; clear hW; go_simp; try with_reducible rfl)
  (try simp only [Act.put, List.setIfInBounds_toArray, List.set_cons_zero, List.set_cons_succ])
  refine takeH (i := 9) (dst := some 14) (v := ?v10) rfl rfl (by kernel_rfl) (by kernel_rfl) (by kernel_rfl) (fun _ _ _ h => h) rfl ?hy10 hH rfl ?rest10
  case hy10 => (intro W hW; have q1 := hW.1.c1; have q3 := HQ3.out W hW.1; clear hW; go_simp; try with_reducible rfl)
  (try simp only [Act.put, List.setIfInBounds_toArray, List.set_cons_zero, List.set_cons_succ])
  refine wpAnyH_done (by kernel_rfl) ?_ _
  clear hH
  go_wp2
  go_ret
  exact ⟨rfl, HC.out.2⟩
set_option maxHeartbeats 2000000 in
theorem room_no (h : CS w base σ (nums σ.L)) (hl : (σ.most : Int) ≤ σ.L.length) (hL : ∀ x ∈ σ.L, goB σ x = false) :
    Calls Try.prog 70 #[.pointer (some ⟨σ.p, 0, none⟩)] w fun r w' => r = .returned (.bool false) ∧ Below w.heap.size w w' := by
  obtain ⟨ao, cap, hov, hlc, hcm, hrow⟩ := h.row
  have hm1 := h.m1
  have HC : Hid (CS w.drew base σ (nums σ.L) ∧ Below w.heap.size w w.drew) := ⟨h.drew, (Below.refl _ _).drew⟩
  have HQ3 : Hid (∀ W, CS W base σ (nums σ.L) → W.cell? ⟨σ.p, 3, none⟩ = some (.slice ao σ.L.length cap)) := fun W hW => by rw [hW.c3, hov]
  clear h
  obtain ⟨J, HJ⟩ : ∃ J, Hid (J = σ.L.length) := ⟨_, rfl⟩
  have HN : Hid (∀ k, k < J → (hk : k < σ.L.length) → goB σ σ.L[k] = false) := fun k _ hk => hL _ (List.getElem_mem hk)
  have hdec : DecF (σ.L.length < σ.most) := ⟨by omega⟩
  have hpos : 0 < σ.L.length := by omega
  obtain ⟨g, rfl, hcell⟩ := hrow hpos
  have HCL : Hid _ := hcell
  clear hov hcell hL
  go_enter Try.func70, Try.ntmps70
  go_wp2_with fail
  refine wp_region_held_drew (S := (fun W => CS W base σ (nums σ.L) ∧ Below w.heap.size w W)) (by kernel_rfl) HC.out (fun hH => ?_)
  refine takeH (i := 0) (dst := some 5) (v := ?v1) rfl rfl (by kernel_rfl) (by kernel_rfl) (by kernel_rfl) (fun _ _ _ h => h) rfl ?hy1 hH rfl ?rest1
  case hy1 => (intro W hW; have q1 := hW.1.c1; have q3 := HQ3.out W hW.1; clear hW; go_simp; try with_reducible rfl)
  (try simp only [Act.put, List.setIfInBounds_toArray, List.set_cons_zero, List.set_cons_succ])
  refine takeH (i := 1) (dst := some 6) (v := ?v2) rfl rfl (by kernel_rfl) (by kernel_rfl) (by kernel_rfl) (fun _ _ _ h => h) rfl ?hy2 hH rfl ?rest2
  case hy2 => (intro W hW; have q1 := hW.1.c1; have q3 := HQ3.out W hW.1; clear hW; go_simp; try with_reducible rfl)
  (try simp only [Act.put, List.setIfInBounds_toArray, List.set_cons_zero, List.set_cons_succ])
  refine takeH (i := 2) (dst := some 7) (v := ?v3) rfl rfl (by kernel_rfl) (by kernel_rfl) (by kernel_rfl) (fun _ _ _ h => h) rfl ?hy3 hH rfl ?rest3
  case hy3 => (intro W hW; have q1 := hW.1.c1; have q3 := HQ3.out W hW.1; clear hW; go_simp; try with_reducible rfl)
  (try simp only [Act.put, List.setIfInBounds_toArray, List.set_cons_zero, List.set_cons_succ])
  refine takeH (i := 3) (dst := some 8) (v := ?v4) rfl rfl (by kernel_rfl) (by kernel_rfl) (by kernel_rfl) (fun _ _ _ h => h) rfl ?hy4 hH rfl ?rest4
  case hy4 => (intro W hW; have q1 := hW.1.c1; have q3 := HQ3.out W hW.1; clear hW; go_simp; try with_reducible rfl)
  (try simp only [Act.put, List.setIfInBounds_toArray, List.set_cons_zero, List.set_cons_succ])
  refine takeH (i := 4) (dst := some 9) (v := ?v5) rfl rfl (by kernel_rfl) (by kernel_rfl) (by kernel_rfl) (fun _ _ _ h => h) rfl ?hy5 hH rfl ?rest5
  case hy5 => (intro W hW; have q1 := hW.1.c1; have q3 := HQ3.out W hW.1; clear hW; go_simp; try with_reducible rfl)
  (try simp only [Act.put, List.setIfInBounds_toArray, List.set_cons_zero, List.set_cons_succ])
  refine takeH (i := 5) (dst := some 10) (v := ?v6) rfl rfl (by kernel_rfl) (by kernel_rfl) (by kernel_rfl) (fun _ _ _ h => h) rfl ?hy6 hH rfl ?rest6
  case hy6 => (intro W hW; have q1 := hW.1.c1; have q3 := HQ3.out W hW.1; clear hW; go_simp; try with_reducible rfl)
  (try simp only [Act.put, List.setIfInBounds_toArray, List.set_cons_zero, List.set_cons_succ])
  refine takeH (i := 6) (dst := some 11) (v := ?v7) rfl rfl (by kernel_rfl) (by kernel_rfl) (by kernel_rfl) (fun _ _ _ h => h) rfl ?hy7 hH rfl ?rest7
  case hy7 => (intro W hW; have q1 := hW.1.c1; have q3 := HQ3.out W hW.1; clear hW; go_simp; try with_reducible rfl)
  (try simp only [Act.put, List.setIfInBounds_toArray, List.set_cons_zero, List.set_cons_succ])
  refine takeH (i := 7) (dst := some 12) (v := ?v8) rfl rfl (by kernel_rfl) (by kernel_rfl) (by kernel_rfl) (fun _ _ _ h => h) rfl ?hy8 hH rfl ?rest8
  case hy8 => (intro W hW; have q1 := hW.1.c1; have q3 := HQ3.out W hW.1; clear hW; go_simp; try with_reducible rfl)
  (try simp only [Act.put, List.setIfInBounds_toArray, List.set_cons_zero, List.set_cons_succ])
  refine takeH (i := 8) (dst := some 13) (v := ?v9) rfl rfl (by kernel_rfl) (by kernel_rfl) (by kernel_rfl) (fun _ _ _ h => h) rfl ?hy9 hH rfl ?rest9
  case hy9 => (intro W hW; have q1 := hW.1.c1; have q3 := HQ3.out W hW.1; clear hW; go_simp; try with_reducible rfl)
  (try simp only [Act.put, List.setIfInBounds_toArray, List.set_cons_zero, List.set_cons_succ])
  refine takeH (i := 9) (dst := some 14) (v := ?v10) rfl rfl (by kernel_rfl) (by kernel_rfl) (by kernel_rfl) (fun _ _ _ h => h) rfl ?hy10 hH rfl ?rest10
  case hy10 => (intro W hW; have q1 := hW.1.c1; have q3 := HQ3.out W hW.1; clear hW; go_simp; try with_reducible rfl)
  (try simp only [Act.put, List.setIfInBounds_toArray, List.set_cons_zero, List.set_cons_succ])
  refine wpAnyH_done (by kernel_rfl) ?_ _
  clear hH
  have q3 := HQ3.out _ HC.out.1
  have hlen9 : (σ.L.length : Int) ≤ 9223372036854775807 := by omega
  go_wp2_with fail
  go_loopw [20] (fun t wr => ∃ k : Nat, k ≤ J ∧ t = .int .i64 k ∧ Hid (CS wr base σ (nums σ.L) ∧ Below w.heap.size w wr)) (fun t _ => σ.L.length - (intOf t).toNat)
  case atStart => exact ⟨0, by omega, rfl, HC⟩
  case round =>
    obtain ⟨k, hk, rfl, HW⟩ := hrel
    clear HC q3
    by_cases hkJ : (k : Int) < J
    · have hkl : k < σ.L.length := by have := HJ.out; omega
      have hkl' : (k : Int) < σ.L.length := by omega
      have c0 := HCL.out wr HW.out.1 k hkl
      have MG := mayGo_any HW.out.1 (split_at σ.L k hkl)
      rw [show goB σ σ.L[k] = false from HN.out k (by omega) hkl] at MG
      generalize (σ.L[k]).n = nn at *
      go_wp2_with (first | (go_at_call 88; refine MG.mono ?_; rintro r w1 ⟨rfl, k1⟩))
      have HW1 : Hid (CS w1 base σ (nums σ.L) ∧ Below w.heap.size w w1) := ⟨HW.out.1.up k1, HW.out.2.trans (k1.mono HW.out.2.size)⟩
      clear HW MG k1 c0
      go_roundw
      case rel => exact ⟨k + 1, by omega, by go_num, HW1⟩
      case measure => simp [intOf]; omega
    · obtain rfl : k = J := by omega
      have hkl' : ¬ (k : Int) < σ.L.length := by have := HJ.out; omega
      have hke : (k : Int) = σ.L.length := by have := HJ.out; omega
      go_wp2
      go_ret
      exact ⟨rfl, HW.out.2⟩
set_option maxHeartbeats 2000000 in
theorem room_go (h : CS w base σ (nums σ.L)) {A B : List CE} {e : CE} (hl : (σ.most : Int) ≤ σ.L.length) (hL : σ.L = A ++ e :: B) (hA : ∀ x ∈ A, goB σ x = false) (he : goB σ e = true) :
    Calls Try.prog 70 #[.pointer (some ⟨σ.p, 0, none⟩)] w fun r w' => r = .returned (.bool true) ∧ ∃ v', CS w' base { σ with ov := v', L := A ++ B } (nums (A ++ B)) ∧ Step σ { σ with ov := v', L := A ++ B } w w' ∧ Below base w w' := by
  obtain ⟨ao, cap, hov, hlc, hcm, hrow⟩ := h.row
  have hm1 := h.m1
  have HC : Hid (CS w.drew base σ (nums σ.L) ∧ Below w.heap.size w w.drew) := ⟨h.drew, (Below.refl _ _).drew⟩
  have HQ3 : Hid (∀ W, CS W base σ (nums σ.L) → W.cell? ⟨σ.p, 3, none⟩ = some (.slice ao σ.L.length cap)) := fun W hW => by rw [hW.c3, hov]
  have HBS : Hid (base ≤ w.heap.size) := by have := h.pb; have := h.pl; show _ ≤ _; omega
  clear h
  obtain ⟨J, hJ⟩ : ∃ J, J = A.length := ⟨_, rfl⟩
  have hAB : A ++ B = σ.L.take J ++ σ.L.drop (J + 1) := by rw [hL, hJ]; simp
  rw [hAB]
  have HN : Hid (∀ k, k < J → (hk : k < σ.L.length) → goB σ σ.L[k] = false) := fun k hkJ hk => by
    refine hA _ ?_
    have : σ.L[k] = A[k]'(by omega) := by
      have e1 : σ.L[k]? = A[k]? := by rw [hL, List.getElem?_append_left (by omega)]
      rw [List.getElem?_eq_getElem hk, List.getElem?_eq_getElem (by omega)] at e1
      exact Option.some.inj e1
    rw [this]
    exact List.getElem_mem _
  have HG : Hid ((hk : J < σ.L.length) → goB σ σ.L[J] = true) := fun hk => by
    have : σ.L[J] = e := by
      have e1 : σ.L[J]? = some e := by rw [hL, hJ]; simp
      rw [List.getElem?_eq_getElem hk] at e1
      exact Option.some.inj e1
    rw [this]; exact he
  have HJ : Hid (J < σ.L.length) := by show _ < _; rw [hL, hJ]; simp
  clear hAB hJ hA he
  have hdec : DecF (σ.L.length < σ.most) := ⟨by omega⟩
  have hpos : 0 < σ.L.length := by omega
  obtain ⟨g, rfl, hcell⟩ := hrow hpos
  have HCL : Hid _ := hcell
  clear hov hcell hL
  go_enter Try.func70, Try.ntmps70
  go_wp2_with fail
  refine wp_region_held_drew (S := (fun W => CS W base σ (nums σ.L) ∧ Below w.heap.size w W)) (by kernel_rfl) HC.out (fun hH => ?_)
  refine takeH (i := 0) (dst := some 5) (v := ?v1) rfl rfl (by kernel_rfl) (by kernel_rfl) (by kernel_rfl) (fun _ _ _ h => h) rfl ?hy1 hH rfl ?rest1
  case hy1 => (intro W hW; have q1 := hW.1.c1; have q3 := HQ3.out W hW.1; clear hW; go_simp; try with_reducible rfl)
  (try simp only [Act.put, List.setIfInBounds_toArray, List.set_cons_zero, List.set_cons_succ])
  refine takeH (i := 1) (dst := some 6) (v := ?v2) rfl rfl (by kernel_rfl) (by kernel_rfl) (by kernel_rfl) (fun _ _ _ h => h) rfl ?hy2 hH rfl ?rest2
  case hy2 => (intro W hW; have q1 := hW.1.c1; have q3 := HQ3.out W hW.1; clear hW; go_simp; try with_reducible rfl)
  (try simp only [Act.put, List.setIfInBounds_toArray, List.set_cons_zero, List.set_cons_succ])
  refine takeH (i := 2) (dst := some 7) (v := ?v3) rfl rfl (by kernel_rfl) (by kernel_rfl) (by kernel_rfl) (fun _ _ _ h => h) rfl ?hy3 hH rfl ?rest3
  case hy3 => (intro W hW; have q1 := hW.1.c1; have q3 := HQ3.out W hW.1; clear hW; go_simp; try with_reducible rfl)
  (try simp only [Act.put, List.setIfInBounds_toArray, List.set_cons_zero, List.set_cons_succ])
  refine takeH (i := 3) (dst := some 8) (v := ?v4) rfl rfl (by kernel_rfl) (by kernel_rfl) (by kernel_rfl) (fun _ _ _ h => h) rfl ?hy4 hH rfl ?rest4
  case hy4 => (intro W hW; have q1 := hW.1.c1; have q3 := HQ3.out W hW.1; clear hW; go_simp; try with_reducible rfl)
  (try simp only [Act.put, List.setIfInBounds_toArray, List.set_cons_zero, List.set_cons_succ])
  refine takeH (i := 4) (dst := some 9) (v := ?v5) rfl rfl (by kernel_rfl) (by kernel_rfl) (by kernel_rfl) (fun _ _ _ h => h) rfl ?hy5 hH rfl ?rest5
  case hy5 => (intro W hW; have q1 := hW.1.c1; have q3 := HQ3.out W hW.1; clear hW; go_simp; try with_reducible rfl)
  (try simp only [Act.put, List.setIfInBounds_toArray, List.set_cons_zero, List.set_cons_succ])
  refine takeH (i := 5) (dst := some 10) (v := ?v6) rfl rfl (by kernel_rfl) (by kernel_rfl) (by kernel_rfl) (fun _ _ _ h => h) rfl ?hy6 hH rfl ?rest6
  case hy6 => (intro W hW; have q1 := hW.1.c1; have q3 := HQ3.out W hW.1; clear hW; go_simp; try with_reducible rfl)
  (try simp only [Act.put, List.setIfInBounds_toArray, List.set_cons_zero, List.set_cons_succ])
  refine takeH (i := 6) (dst := some 11) (v := ?v7) rfl rfl (by kernel_rfl) (by kernel_rfl) (by kernel_rfl) (fun _ _ _ h => h) rfl ?hy7 hH rfl ?rest7
  case hy7 => (intro W hW; have q1 := hW.1.c1; have q3 := HQ3.out W hW.1; clear hW; go_simp; try with_reducible rfl)
  (try simp only [Act.put, List.setIfInBounds_toArray, List.set_cons_zero, List.set_cons_succ])
  refine takeH (i := 7) (dst := some 12) (v := ?v8) rfl rfl (by kernel_rfl) (by kernel_rfl) (by kernel_rfl) (fun _ _ _ h => h) rfl ?hy8 hH rfl ?rest8
  case hy8 => (intro W hW; have q1 := hW.1.c1; have q3 := HQ3.out W hW.1; clear hW; go_simp; try with_reducible rfl)
  (try simp only [Act.put, List.setIfInBounds_toArray, List.set_cons_zero, List.set_cons_succ])
  refine takeH (i := 8) (dst := some 13) (v := ?v9) rfl rfl (by kernel_rfl) (by kernel_rfl) (by kernel_rfl) (fun _ _ _ h => h) rfl ?hy9 hH rfl ?rest9
  case hy9 => (intro W hW; have q1 := hW.1.c1; have q3 := HQ3.out W hW.1; clear hW; go_simp; try with_reducible rfl)
  (try simp only [Act.put, List.setIfInBounds_toArray, List.set_cons_zero, List.set_cons_succ])
  refine takeH (i := 9) (dst := some 14) (v := ?v10) rfl rfl (by kernel_rfl) (by kernel_rfl) (by kernel_rfl) (fun _ _ _ h => h) rfl ?hy10 hH rfl ?rest10
  case hy10 => (intro W hW; have q1 := hW.1.c1; have q3 := HQ3.out W hW.1; clear hW; go_simp; try with_reducible rfl)
  (try simp only [Act.put, List.setIfInBounds_toArray, List.set_cons_zero, List.set_cons_succ])
  refine wpAnyH_done (by kernel_rfl) ?_ _
  clear hH
  have q3 := HQ3.out _ HC.out.1
  have hlen9 : (σ.L.length : Int) ≤ 9223372036854775807 := by omega
  go_wp2_with fail
  go_loopw [20] (fun t wr => ∃ k : Nat, k ≤ J ∧ t = .int .i64 k ∧ Hid (CS wr base σ (nums σ.L) ∧ Below w.heap.size w wr)) (fun t _ => σ.L.length - (intOf t).toNat)
  case atStart => exact ⟨0, by omega, rfl, HC⟩
  case round =>
    obtain ⟨k, hk, rfl, HW⟩ := hrel
    clear HC q3
    by_cases hkJ : (k : Int) < J
    · have hkl : k < σ.L.length := by have := HJ.out; omega
      have hkl' : (k : Int) < σ.L.length := by omega
      have c0 := HCL.out wr HW.out.1 k hkl
      have MG := mayGo_any HW.out.1 (split_at σ.L k hkl)
      rw [show goB σ σ.L[k] = false from HN.out k (by omega) hkl] at MG
      generalize (σ.L[k]).n = nn at *
      go_wp2_with (first | (go_at_call 88; refine MG.mono ?_; rintro r w1 ⟨rfl, k1⟩))
      have HW1 : Hid (CS w1 base σ (nums σ.L) ∧ Below w.heap.size w w1) := ⟨HW.out.1.up k1, HW.out.2.trans (k1.mono HW.out.2.size)⟩
      clear HW MG k1 c0
      go_roundw
      case rel => exact ⟨k + 1, by omega, by go_num, HW1⟩
      case measure => simp [intOf]; omega
    · obtain rfl : k = J := by omega
      have hkl : k < σ.L.length := HJ.out
      have hkl' : (k : Int) < σ.L.length := by omega
      have c0 := HCL.out wr HW.out.1 k hkl
      have MG := mayGo_any HW.out.1 (split_at σ.L k hkl)
      rw [show goB σ σ.L[k] = true from HG.out hkl] at MG
      have HLV : Hid (∀ W, CS W base σ (nums σ.L) → _) := fun W hW => leave_any hW (split_at σ.L k hkl)
      generalize (σ.L[k]).n = nn at *
      go_wp2_with fail
      refine MG.mono ?_
      rintro r w1 ⟨rfl, k1⟩
      have HW1 : Hid (CS w1 base σ (nums σ.L) ∧ Below w.heap.size w w1) := ⟨HW.out.1.up k1, HW.out.2.trans (k1.mono HW.out.2.size)⟩
      have LV := HLV.out w1 HW1.out.1
      clear HW MG k1 c0 HLV
      go_wp2_with fail
      refine LV.mono ?_
      clear LV
      rintro r w2 ⟨rfl, v', k2, k3, k4⟩
      have HF : Hid (CS w2 base { σ with ov := v', L := σ.L.take k ++ σ.L.drop (k + 1) } (nums (σ.L.take k ++ σ.L.drop (k + 1))) ∧ Step σ { σ with ov := v', L := σ.L.take k ++ σ.L.drop (k + 1) } w w2 ∧ Below base w w2) := ⟨k2, (Step.refl σ HW1.out.2).trans k3, (HW1.out.2.mono HBS.out).trans k4⟩
      clear k2 k3 k4
      go_wp2
      go_ret
      exact ⟨rfl, v', HF.out⟩
end
end Go.Proofs.Ytikpnfnbmbaljaa
/- Package cache: a new block; a map's update; another number in the order. -/
namespace Go.Proofs.Ytikpnfnbmbaljaa
open Go.RowKit
set_option maxRecDepth 100000
theorem fold_set0 : ∀ (l : List Value) (k : Nat) (cs : Array Value), k + l.length ≤ cs.size → ((l.zipIdx k).foldl (fun cs p => cs.setIfInBounds (0 + p.2) p.1) cs).toList = cs.toList.take k ++ l ++ cs.toList.drop (k + l.length)
  | [], k, cs, _ => by simp
  | v :: r, k, cs, h => by
    simp only [List.zipIdx_cons, List.foldl_cons]
    have ih := fold_set0 r (k + 1) (cs.setIfInBounds (0 + k) v) (by simp at h ⊢; omega)
    rw [ih, Array.toList_setIfInBounds]
    have e := list_seg_step cs.toList k v r (by simp at h ⊢; omega)
    simpa [Nat.add_assoc, Nat.add_comm, Nat.add_left_comm] using e
theorem fill_blk (A : Array Value) (z : List Value) (x : Value) (h1 : A.size = 256) (h2 : z.length = 256) : Instr.fill (([(0, 256), (256, 1)] : List (Nat × Nat)).toArray[·]?) (z ++ [x]).toArray [(0, .agg A)] = some (A.toList ++ [x]).toArray := by
  have h3 : (Value.agg A).cells = A := rfl
  have hf : A.zipIdx.foldl (fun cs (p : Value × Nat) => cs.setIfInBounds (0 + p.2) p.1) (z ++ [x]).toArray = (A.toList ++ [x]).toArray := by
    apply Array.toList_inj.1
    have := fold_set0 A.toList 0 (z ++ [x]).toArray (by simp [h1, h2])
    rw [List.take_zero, List.nil_append, Nat.zero_add, List.toList_toArray, Array.length_toList, h1, List.drop_left' h2] at this
    rw [List.toList_toArray, ← this]
    congr 1
    rw [← Array.foldl_toList, Array.toList_zipIdx]
  unfold Instr.fill
  simp only [h3, h1]
  rw [show (([(0, 256), (256, 1)] : List (Nat × Nat)).toArray[0]?) = some (0, 256) from rfl]
  simp only [Instr.fill]
  rw [if_neg (by simp [h2])]
  exact congrArg some hf
theorem build_blk (d : List UInt8) (hd : d.length = 256) (w : World) : (Instr.build 86 #[(0, .agg (bvs d).toArray)]).run Try.prog w = .ok (.agg (bvs d ++ [Value.int .i64 0]).toArray) w := by
  refine Go.run_build w 86 _ _ ?_
  have hz : (Try.prog.info? 86).map (fun i => i.zero) = some (some (.agg (bvs (List.replicate 256 0) ++ [Value.int .i64 0]).toArray)) := by kernel_rfl
  have hp : (match Try.prog.underlying 86 with | some (.struct fields) => fields.toList.mapM (fun f => (Try.prog.info? f.type).map fun i => (f.offset, i.size)) | _ => none) = some [(0, 256), (256, 1)] := by kernel_rfl
  unfold Program.built
  cases hi : Try.prog.info? 86 with
  | none => rw [hi] at hz; cases hz
  | some it =>
    rw [hi] at hz
    have hz' : it.zero = some (.agg (bvs (List.replicate 256 0) ++ [Value.int .i64 0]).toArray) := Option.some.inj hz
    have hA : (bvs d).toArray.size = 256 := by rw [List.size_toArray, bvs_length, hd]
    have hF := fill_blk (bvs d).toArray (bvs (List.replicate 256 0)) (.int .i64 0) hA (by rw [bvs_length, List.length_replicate])
    revert hp
    cases hu : Try.prog.underlying 86 with
    | none => intro hp; cases hp
    | some D =>
      cases D <;> intro hp <;> first | (cases hp; done) | skip
      simp only [] at hp ⊢
      rw [hz', hp]
      exact hF
theorem wpList_build_blk {ops : Array Oper} {rest : List Oper} {op : Oper} {a : Act} {w : World} {Q : Exit → Act → World → Prop} (hgd : op.guard = none) {x0 : Operand} {d : List UInt8} (hd : d.length = 256) (ho : op.op = .build 86 #[(0, x0)])
    (e0 : a.eval x0 = .agg (bvs d).toArray)
    (h : wpList Try.prog ops Q rest (a.put op.dst (.agg (bvs d ++ [Value.int .i64 0]).toArray)) w) : wpList Try.prog ops Q (op :: rest) a w :=
  wpList_plain hgd fun K hK => by
    have hb := build_blk d hd w
    unfold Oper.wp execOp
    simp only [ho, List.map_toArray, List.map_cons, List.map_nil, e0, Sem.run_bind, hb, Result.andThen_ok, Sem.run_pure]
    exact hK _ _ h
theorem wpList_pput {ops : Array Oper} {rest : List Oper} {o : Oper} {a : Act} {w : World} {Q : Exit → Act → World → Prop} (hgd : o.guard = none) (m x v : Operand) (ho : o.op = .mapUpdate 57 m x v) {b K n q : Nat} {f : Int → Nat}
    (H : PMap w b K f) (hn : n ≤ 4096) (hK : K ≤ 1000000) (hm : a.eval m = .map (some b)) (hx : a.eval x = .int .i64 (n : Int)) (hv : a.eval v = .pointer (some ⟨q, 0, none⟩))
    (h : ∀ w', PMap w' b (K + 1) (setF f n (q + 1)) → w.grownBy w' (some b) → wpList Try.prog ops Q rest (a.put o.dst undef) w') : wpList Try.prog ops Q (o :: rest) a w := by
  refine wpList_plain hgd fun K hK' => ?_
  obtain ⟨w', hrun, h1, h2⟩ := H.put (n : Int) (wfN hn) (q + 1) hK
  unfold ptrV at hrun
  unfold Oper.wp
  simp [execOp, ho, hm, hx, hv, hrun, Result.andThen]
  exact hK' _ _ (h w' h1 h2)
/-- 'append' of a number onto the order, with what turns. -/
theorem wpList_append_ord {w : World} {ops : Array Oper} {rest : List Oper} {o : Oper} {a : Act} {Q : Exit → Act → World → Prop} (hgd : o.guard = none) (s x : Operand)
    (ho : o.op = .call { callee := .builtin .append, args := #[s, x], argTypes := #[58, 58] }) (base : Nat) (l : List Int) (y : Int) (v : Value) (hs : a.eval s = v) (g c : Nat) (hx : a.eval x = .slice (some ⟨g, 0, none⟩) 1 c)
    (hown : OwnN w base v l) (hsrc : RowI w g 72 [y]) (hbase : base ≤ w.heap.size) (hb : l.length ≤ 1000000)
    (h : ∀ G cap w', OwnN w' base (.slice (some ⟨G, 0, none⟩) (l.length + 1) cap) (l ++ [y]) → w.grownBy w' v.ownBlock → (v.ownBlock = some G ∨ w.heap.size ≤ G) → wpList Try.prog ops Q rest (a.put o.dst (.slice (some ⟨G, 0, none⟩) (l.length + 1) cap)) w') : wpList Try.prog ops Q (o :: rest) a w := by
  obtain ⟨i0, hi, hz0, hz1, hz2⟩ := info_parts Try.infoN
  have hcs : ∀ j u, (ivs [y])[j]? = some u → w.cell? ((⟨g, 0, none⟩ : Addr).add j) = some u := by
    intro j u hj
    have hjl : j < (ivs [y]).length := (List.getElem?_eq_some_iff.1 hj).1
    rw [ivs_length] at hjl
    obtain rfl : j = 0 := by simp at hjl; omega
    rw [addr_add, Nat.zero_add, hsrc.cell 0 (by simp), ← hj]
    rfl
  obtain ⟨G, cap, w', hr, hown', hgr, hat, _⟩ := run_append_lies (P := Try.prog) w 58 o.type base 72 i0 _ 1 8 Try.underlying58 hi hz0 hz1 hz2 rfl (by decide) v l.length (ivs l) hown ⟨g, 0, none⟩ 1 c (ivs [y]) (by simp [ivs_length]) hcs (ivs_one _) (by omega) (by unfold maxLen; omega) (by omega) hbase _ rfl
  refine wpList_plain hgd fun K hK => ?_
  unfold Oper.wp execOp
  simp only [ho, resolve, invoke, builtin]
  simp [hs, hx, hr, Result.andThen]
  refine hK _ _ (h G cap w' ?_ hgr ?_)
  · unfold OwnN
    rw [List.length_append, ivs_append]
    exact hown'
  · rcases hat with hat | hat
    · exact .inl hat
    · exact .inr (by omega)
end Go.Proofs.Ytikpnfnbmbaljaa
/- Package cache: ask. -/
namespace Go.Proofs.Ytikpnfnbmbaljaa
open Go.RowKit
set_option maxRecDepth 100000
section
variable {w w' : World} {base : Nat} {σ : CSt} {O : List Int}
/-- The order behind an append. -/
theorem CS.push (h : CS w base σ O) {o : Obj} {w2 : World} {G m cap : Nat} {O' : List Int} (hg : (w.alloc o).grownBy w2 σ.ov.ownBlock) (hat : σ.ov.ownBlock = some G ∨ (w.alloc o).heap.size ≤ G) (ho : OwnN w2 base (.slice (some ⟨G, 0, none⟩) m cap) O') :
    CS (w2.setCell ⟨σ.p, 3, none⟩ (.slice (some ⟨G, 0, none⟩) m cap)) base { σ with ov := .slice (some ⟨G, 0, none⟩) m cap } O' ∧ Step σ { σ with ov := .slice (some ⟨G, 0, none⟩) m cap } w (w2.setCell ⟨σ.p, 3, none⟩ (.slice (some ⟨G, 0, none⟩) m cap)) ∧ Below base w (w2.setCell ⟨σ.p, 3, none⟩ (.slice (some ⟨G, 0, none⟩) m cap)) ∧
      w2.cell? ⟨σ.p, 3, none⟩ = some σ.ov ∧ w2.frozen? ⟨σ.p, 3, none⟩ = false := by
  have s1 : (w.alloc o).heap.size = w.heap.size + 1 := by show (w.heap.push o).size = _; simp
  have hb0 : Below w.heap.size w (w.alloc o) := (Below.refl _ _).alloc (Nat.le_refl _) _
  have hpl := h.pl
  have hP : w2.heap[σ.p]? = w.heap[σ.p]? := (hg.block σ.p (by omega) (fun e => h.po e.symm)).trans (hb0.block σ.p hpl)
  have hf : Fr (fun k => k = σ.p ∨ σ.ov.ownBlock = some k) w (w2.setCell ⟨σ.p, 3, none⟩ (.slice (some ⟨G, 0, none⟩) m cap)) := by
    refine Fr.setCell (S := fun k => k = σ.p ∨ σ.ov.ownBlock = some k) (a := w) ⟨by have := hg.size; omega, fun k hk hn => ?_, hg.os, hg.tape, hg.output⟩ _ _ _ (.inl rfl)
    exact (hg.block k (by omega) (fun e => hn (.inr e.symm))).trans (hb0.block k hk)
  have hs : ∀ k, (Value.slice (some ⟨G, 0, none⟩) m cap).ownBlock = some k → σ.ov.ownBlock = some k ∨ w.heap.size ≤ k := fun k hk => by
    obtain rfl : G = k := by simpa [Value.ownBlock] using hk
    rcases hat with h1 | h1
    · exact .inl h1
    · exact .inr (by omega)
  have hGp : σ.p ≠ G := fun e => by
    rcases hat with h1 | h1
    · exact h.po (by rw [h1, e])
    · omega
  have q3 : w2.cell? ⟨σ.p, 3, none⟩ = some σ.ov := (World.cell?_of_block (a := ⟨σ.p, 3, none⟩) hP).trans h.c3
  refine ⟨h.reord hf ?_ (World.cell?_setCell_same _ _ _ q3) ?_ ?_ hs, Step.ord hf hs, ?_, q3, (World.frozen?_of_block (a := ⟨σ.p, 3, none⟩) hP).trans (h.fp 3)⟩
  · intro j hj
    exact (World.cell?_setCell_other _ _ _ _ (fun c => hj (by injection c with _ c2; exact c2.symm))).trans (World.cell?_of_block (a := ⟨σ.p, j, none⟩) hP)
  · intro j
    rw [World.frozen?_setCell]
    exact (World.frozen?_of_block (a := ⟨σ.p, j, none⟩) hP).trans (h.fp j)
  · exact ho.same fun k hk => heap_setCell_other _ _ _ _ (fun e => by
      obtain rfl : G = k := by simpa [Value.ownBlock] using hk
      exact hGp e.symm)
  · have hbs : base ≤ w.heap.size := by have := h.pb; omega
    refine ((hb0.mono hbs).grown hg (by omega) (fun k hk => ?_)).setCell h.pb _
    exact (h.ord.lt k hk).1
/-- The blocks in another order. -/
theorem CS.touch (h : CS w base σ O) {A B : List CE} {e : CE} (hL : σ.L = A ++ e :: B) : CS w base { σ with L := A ++ B ++ [e] } O ∧ ∀ k, Sk { σ with L := A ++ B ++ [e] } k → Sk σ k := by
  have sub : ∀ x, x ∈ A ++ B ++ [e] → x ∈ σ.L := fun x hx => by
    rw [hL]
    simp only [List.mem_append, List.mem_cons, List.not_mem_nil, or_false] at hx ⊢
    rcases hx with (hx | hx) | hx
    · exact .inl hx
    · exact .inr (.inr hx)
    · exact .inr (.inl hx)
  have perm : (A ++ B ++ [e]).Perm (A ++ e :: B) := by
    rw [List.append_assoc]
    exact List.Perm.append_left A (List.perm_append_comm (l₁ := B) (l₂ := [e]))
  have ck : ∀ k, Ck { σ with L := A ++ B ++ [e] } k → Ck σ k := fun k hC => by
    rcases hC with hC | hC | hC | ⟨x, hx, hq⟩
    · exact .inl hC
    · exact .inr (.inl hC)
    · exact .inr (.inr (.inl hC))
    · exact .inr (.inr (.inr ⟨x, sub x hx, hq⟩))
  refine ⟨?_, fun k hk => ?_⟩
  · exact {
      disk := h.disk, c0 := h.c0, c1 := h.c1, c2 := h.c2, c3 := h.c3, fp := h.fp, ord := h.ord
      map := by have := h.map; rw [hL, ← lookF_touch (h.split hL)] at this; exact this
      blk := fun x hx => h.blk x (sub x hx)
      nd := by have := h.nd; rw [hL] at this; exact (perm.map _).nodup_iff.2 this
      qd := by have := h.qd; rw [hL] at this; exact (perm.map _).nodup_iff.2 this
      pm := h.pm, po := h.po, mo := h.mo, bq := fun x hx => h.bq x (sub x hx), pb := h.pb, mbb := h.mbb
      dk := fun k hk hC => h.dk k hk (ck k hC)
      m1 := h.m1 }
  · rcases hk with hk | hk
    · exact .inl (ck k hk)
    · exact .inr hk
theorem CS.sk_size (h : CS w base σ O) {k : Nat} (hk : Sk σ k) : k < w.heap.size := by
  rcases hk with hk | hk
  · exact h.sk_lt hk
  · exact (h.disk.dk_lt hk).1
theorem Step.addL {e : CE} {K : Nat} {w3 : World} (hb : Below w.heap.size w w3) (hf : Fr (fun k => k = σ.mb) w3 w') (hq : e.q = w.heap.size) : Step σ { σ with L := σ.L ++ [e], K := K } w w' := by
  refine ⟨⟨Nat.le_trans hb.size hf.size, fun k hk hn => ?_, hf.os.trans hb.os, hf.tape.trans hb.tape, hf.output.trans hb.output⟩, fun k hk => ?_⟩
  · exact (hf.blk k (by have := hb.size; omega) (fun c => hn (.inl (.inr (.inl c))))).trans (hb.block k hk)
  · rcases hk with (hk | hk | hk | ⟨x, hx, hqx⟩) | hk
    · exact .inl (.inl (.inl hk))
    · exact .inl (.inl (.inr (.inl hk)))
    · exact .inl (.inl (.inr (.inr (.inl hk))))
    · rcases List.mem_append.1 hx with hx | hx
      · exact .inl (.inl (.inr (.inr (.inr ⟨x, hx, hqx⟩))))
      · simp only [List.mem_singleton] at hx
        subst hx
        exact .inr (by omega)
    · exact .inl (.inr hk)
/-- The lists behind a block that is asked. -/
def tch (A : List CE) (e : CE) (B : List CE) : List CE := A ++ B ++ [e]
def addE (L : List CE) (n q : Nat) (d : List UInt8) : List CE := L ++ [⟨n, q, d, 0⟩]
/-- A call that leaves the cache as σ'. -/
structure Done (base : Nat) (σ σ' : CSt) (w w' : World) : Prop where
  cs : CS w' base σ' (nums σ'.L)
  st : Step σ σ' w w'
  be : Below base w w'
theorem Step.shift {σ σ' σ'' : CSt} {a b : World} (h : Step σ σ' a b) (hs : ∀ k, Sk σ'' k → Sk σ' k) : Step σ σ'' a b := ⟨h.fr, fun k hk => h.sub k (hs k hk)⟩
set_option maxHeartbeats 2000000 in
theorem ask_hit (h : CS w base σ (nums σ.L)) {A B : List CE} {e : CE} (hL : σ.L = A ++ e :: B) (hlm : σ.L.length ≤ 1000000) :
    Calls Try.prog 50 #[.pointer (some ⟨σ.p, 0, none⟩), .int .i64 (e.n : Int)] w fun r w' => r = .returned (.tuple #[.pointer (some ⟨e.q, 0, none⟩), .int .i64 0]) ∧ ∃ v', Done base σ { σ with ov := v', L := tch A e B } w w' := by
  have LK := h.lookE hL
  have q2 := h.c2
  have UL := unlist_any h (X := nums A) (Z := nums B) (y := (e.n : Int)) (by rw [hL]; simp [nums]) (h.split hL).order
  have HL : Hid (σ.L = A ++ e :: B) := hL
  have HLN : Hid ((nums A ++ nums B).length ≤ 1000000) := by
    have h3 : σ.L.length = A.length + B.length + 1 := by rw [hL]; simp; omega
    show _ ≤ _
    rw [List.length_append, nums_length, nums_length]
    omega
  obtain ⟨OO, hOO⟩ : ∃ OO, OO = nums A ++ nums B := ⟨_, rfl⟩
  have HOO : Hid _ := hOO
  rw [← hOO] at UL HLN
  clear h hL hOO
  go_enter Try.func50, Try.ntmps50
  go_wp2_with fail
  refine UL.mono ?_
  clear UL LK q2
  rintro r w1 ⟨rfl, v1, k1, k2, k3⟩
  have HC : Hid (CS w1 base { σ with ov := v1 } OO) := k1
  have HS : Hid (Step σ { σ with ov := v1 } w w1 ∧ Below base w w1) := ⟨k2, k3⟩
  have q3 := k1.c3
  dsimp only at q3
  have hbs : base ≤ w1.heap.size := by have := k1.pb; have := k1.pl; dsimp only at *; omega
  clear k1 k2 k3
  go_wp2_with (at_builtin; refine wpList_append_ord rfl (.tmp 36) (.tmp 38) rfl base OO (e.n : Int) _ rfl _ _ rfl (HC.out.ord.below ((Below.refl _ _).alloc (Nat.le_refl _) _) (Nat.le_refl _)) (heap_alloc_new _ _) (by simp; omega) HLN.out ?_; intro G cap w2 ho2 hg2 hat2; obtain ⟨p1, p2, p3, p4, p5⟩ := HC.out.push hg2 hat2 ho2; have HP1 : Hid _ := p1; have HP2 : Hid _ := And.intro p2 p3; have p4' : w2.cell? ⟨σ.p, 3, none⟩ = some v1 := p4; have p5' : w2.frozen? ⟨σ.p, 3, none⟩ = false := p5; clear p1 p2 p3 p4 p5 ho2 hg2 hat2)
  go_ret2
  obtain ⟨t1, t2⟩ := HP1.out.touch (A := A) (B := B) (e := e) HL.out
  refine ⟨rfl, .slice (some ⟨G, 0, none⟩) (OO.length + 1) cap, ?_, ?_, HS.out.2.trans HP2.out.2⟩
  · show CS _ _ { σ with ov := .slice (some ⟨G, 0, none⟩) (OO.length + 1) cap, L := A ++ B ++ [e] } (nums (A ++ B ++ [e]))
    rw [nums_append, nums_append, ← HOO.out]
    exact t1
  · exact Step.shift (σ' := { σ with ov := .slice (some ⟨G, 0, none⟩) (OO.length + 1) cap }) (σ'' := { σ with ov := .slice (some ⟨G, 0, none⟩) (OO.length + 1) cap, L := A ++ B ++ [e] }) (HS.out.1.trans HP2.out.1) t2
set_option maxHeartbeats 2000000 in
theorem ask_full (h : CS w base σ (nums σ.L)) (n : Nat) (hn : n < σ.dn) (hne : ∀ x ∈ σ.L, ¬ x.n = n) (RM : Calls Try.prog 70 #[.pointer (some ⟨σ.p, 0, none⟩)] w fun r w' => r = .returned (.bool false) ∧ Below w.heap.size w w') :
    Calls Try.prog 50 #[.pointer (some ⟨σ.p, 0, none⟩), .int .i64 (n : Int)] w fun r w' => r = .returned (.tuple #[.pointer none, .int .i64 5]) ∧ Below w.heap.size w w' := by
  have LK : (Instr.lookup 57 (.map (some σ.mb)) (.int .i64 (n : Int)) false).run Try.prog w = .ok (.pointer none) w := by
    have hd := h.disk.nn
    have := h.look (n : Int) (by omega); rw [lookF_none (fun x hx hc => hne x hx (by omega))] at this; exact this
  have q2 := h.c2
  clear h
  go_enter Try.func50, Try.ntmps50
  go_wp2_with (first | (go_at_call 70; refine RM.mono ?_; rintro r w1 ⟨rfl, k1⟩))
  go_ret2
  exact ⟨rfl, k1⟩
set_option maxHeartbeats 2000000 in
theorem ask_new (h : CS w base σ (nums σ.L)) (n : Nat) (hn : n < σ.dn) (hne : ∀ x ∈ σ.L, ¬ x.n = n) (L1 : List CE) (hne1 : ∀ x ∈ L1, ¬ x.n = n) (hK : σ.K ≤ 1000000) (hL1 : (nums L1).length ≤ 1000000)
    (RM : Calls Try.prog 70 #[.pointer (some ⟨σ.p, 0, none⟩)] w fun r w' => r = .returned (.bool true) ∧ ∃ v', CS w' base { σ with ov := v', L := L1 } (nums L1) ∧ Step σ { σ with ov := v', L := L1 } w w' ∧ Below base w w') :
    Calls Try.prog 50 #[.pointer (some ⟨σ.p, 0, none⟩), .int .i64 (n : Int)] w fun r w' => ∃ q, r = .returned (.tuple #[.pointer (some ⟨q, 0, none⟩), .int .i64 0]) ∧ ∃ v', Done base σ { σ with ov := v', L := addE L1 n q (lst σ n), K := σ.K + 1 } w w' := by
  have hd := h.disk.nn
  have LK : (Instr.lookup 57 (.map (some σ.mb)) (.int .i64 (n : Int)) false).run Try.prog w = .ok (.pointer none) w := by
    have := h.look (n : Int) (by omega); rw [lookF_none (fun x hx hc => hne x hx (by omega))] at this; exact this
  have q2 := h.c2
  have HX : Hid ((lst σ n).length = 256) := lst_len h n hn
  have HN : Hid (n < σ.dn ∧ n ≤ 4096) := ⟨hn, by omega⟩
  clear h hne hn hd
  go_enter Try.func50, Try.ntmps50
  go_wp2_with fail
  refine RM.mono ?_
  clear RM LK q2
  rintro r w1 ⟨rfl, v1, k1, k2, k3⟩
  have HS1 : Hid (Step σ { σ with ov := v1, L := L1 } w w1 ∧ Below base w w1) := ⟨k2, k3⟩
  have HC1 : Hid _ := k1
  have ST := stands_any k1 n HN.out.1
  dsimp only at ST
  clear k1 k2 k3
  go_wp2_with fail
  refine ST.mono ?_
  clear ST
  rintro r w2 ⟨rfl, k4⟩
  have HC2 : Hid (CS w2 base { σ with ov := v1, L := L1 } (nums L1)) := HC1.out.up k4
  have HS2 : Hid (Step σ { σ with ov := v1, L := L1 } w w2 ∧ Below base w w2) := ⟨HS1.out.1.trans (Step.refl _ k4), HS1.out.2.trans (k4.mono (by have := HC1.out.pb; have := HC1.out.pl; dsimp only at *; omega))⟩
  rw [show lst { σ with ov := v1, L := L1 } n = lst σ n from rfl]
  clear HC1 HS1 k4
  generalize hD : lst σ n = D at *
  have HD : Hid (lst σ n = D) := hD
  clear hD
  have hb3 : Below w2.heap.size w2 (w2.alloc (.cells (bvs D ++ [Value.int .i64 0]).toArray 86)) := (Below.refl _ _).alloc (Nat.le_refl _) _
  have HC3 : Hid (CS (w2.alloc (.cells (bvs D ++ [Value.int .i64 0]).toArray 86)) base { σ with ov := v1, L := L1 } (nums L1)) := HC2.out.up hb3
  have HQ3 : Hid ((w2.alloc (.cells (bvs D ++ [Value.int .i64 0]).toArray 86)).heap[w2.heap.size]? = some (.cells (bvs D ++ [Value.int .i64 0]).toArray 86 (0, 0))) := heap_alloc_new _ _
  have HB3 : Hid _ := hb3
  have hbs : base ≤ w2.heap.size := by have := HC2.out.pb; have := HC2.out.pl; dsimp only at *; omega
  have HNS : Hid (¬ Sk { σ with ov := v1, L := L1 } w2.heap.size) := fun c => by have := HC2.out.sk_size c; omega
  have q2 := HC3.out.c2
  dsimp only at q2
  clear hb3
  go_upto_region 7 with (first | ((with_reducible show wpList _ _ _ ({ dst := _, op := Op.build 86 _, type := _, pos := _, after := _, guard := _ } :: _) _ _); refine wpList_build_blk rfl HX.out rfl rfl ?_))
  generalize w2.alloc (.cells (bvs D ++ [Value.int .i64 0]).toArray 86) = w3 at *
  go_upto_region 8 with (first | (at_mapUpdate; refine wpList_pput rfl (.tmp 29) (.tmp 30) (.tmp 31) rfl HC3.out.map HN.out.2 hK rfl rfl rfl ?_; intro w4 hm4 hg4))
  have HC4 : Hid (CS w4 base { σ with ov := v1, L := L1 ++ [⟨n, w2.heap.size, D, 0⟩], K := σ.K + 1 } (nums L1)) := HC3.out.addL (e := ⟨n, w2.heap.size, D, 0⟩) HQ3.out HX.out HN.out.1 (by simp) hbs HNS.out hne1 (Fr.of_grown hg4) hm4
  have HS4 : Hid (Step σ { σ with ov := v1, L := L1 ++ [⟨n, w2.heap.size, D, 0⟩], K := σ.K + 1 } w w4 ∧ Below base w w4) := by
    refine ⟨HS2.out.1.trans (Step.addL (σ := { σ with ov := v1, L := L1 }) HB3.out (Fr.of_grown hg4) rfl), (HS2.out.2.trans (HB3.out.mono hbs)).grown hg4 (by have := HB3.out.size; omega) (fun k hk => ?_)⟩
    have := HC3.out.mbb
    dsimp only at this hk
    have e1 := Option.some.inj hk
    omega
  have q3 := HC4.out.c3
  dsimp only at q3
  have hbs4 : base ≤ w4.heap.size := by have := HC4.out.pb; have := HC4.out.pl; dsimp only at *; omega
  obtain ⟨OO, hOO⟩ : ∃ OO, OO = nums L1 := ⟨_, rfl⟩
  have HOO : Hid _ := hOO
  rw [← hOO] at HC4 hL1
  clear HC3 HQ3 HB3 HNS HC2 HS2 q2 hm4 hg4 hOO
  go_wp2_with (at_builtin; refine wpList_append_ord rfl (.tmp 36) (.tmp 38) rfl base OO (n : Int) _ rfl _ _ rfl (HC4.out.ord.below ((Below.refl _ _).alloc (Nat.le_refl _) _) (Nat.le_refl _)) (heap_alloc_new _ _) (by simp; omega) hL1 ?_; intro G cap w5 ho5 hg5 hat5; obtain ⟨p1, p2, p3, p4, p5⟩ := HC4.out.push hg5 hat5 ho5; have HP1 : Hid _ := p1; have HP2 : Hid _ := And.intro p2 p3; have p4' : w5.cell? ⟨σ.p, 3, none⟩ = some v1 := p4; have p5' : w5.frozen? ⟨σ.p, 3, none⟩ = false := p5; clear p1 p2 p3 p4 p5 ho5 hg5 hat5)
  go_ret2
  rw [HD.out]
  refine ⟨w2.heap.size, rfl, .slice (some ⟨G, 0, none⟩) (OO.length + 1) cap, ?_, HS4.out.1.trans HP2.out.1, HS4.out.2.trans HP2.out.2⟩
  show CS _ _ { σ with ov := .slice (some ⟨G, 0, none⟩) (OO.length + 1) cap, L := L1 ++ [⟨n, w2.heap.size, D, 0⟩], K := σ.K + 1 } (nums (L1 ++ [⟨n, w2.heap.size, D, 0⟩]))
  rw [nums_append, ← HOO.out]
  exact HP1.out
end
end Go.Proofs.Ytikpnfnbmbaljaa
/- Package cache: Read, Lay. -/
namespace Go.Proofs.Ytikpnfnbmbaljaa
open Go.RowKit
set_option maxRecDepth 100000
section
variable {w w' : World} {base : Nat} {σ : CSt} {O : List Int}
theorem PMap.mono {b K K' : Nat} {f : Int → Nat} (h : PMap w b K f) (hK : K ≤ K') : PMap w b K' f := by
  obtain ⟨D, h1, r⟩ := h.own
  exact ⟨D, h1.mono hK, r⟩
theorem lookF_same : ∀ {A B : List CE} {e e' : CE}, e'.n = e.n → e'.q = e.q → lookF (A ++ e' :: B) = lookF (A ++ e :: B)
  | [], B, e, e', h1, h2 => by funext x; simp only [List.nil_append, lookF, h1, h2]
  | a :: r, B, e, e', h1, h2 => by funext x; simp only [List.cons_append, lookF, lookF_same (A := r) (B := B) h1 h2]
theorem nums_same {A B : List CE} {e e' : CE} (h1 : e'.n = e.n) : nums (A ++ e' :: B) = nums (A ++ e :: B) := by simp [nums, h1]
/-- One block with other bytes, or pinned otherwise. -/
theorem CS.setE (h : CS w base σ O) {A B : List CE} {e e' : CE} {K' : Nat} (hL : σ.L = A ++ e :: B) (hn : e'.n = e.n) (hq : e'.q = e.q) (hf : Fr (fun k => k = e.q) w w') (hr : w'.heap[e.q]? = some (.cells (beL e').toArray 86 (0, 0))) (hd : e'.d.length = 256) (hp : e'.pin ≤ K') (hK : σ.K ≤ K') :
    CS w' base { σ with L := A ++ e' :: B, K := K' } O := by
  have he : e ∈ σ.L := by rw [hL]; simp
  have hbe := h.bq e he
  have cp : ∀ o, w'.cell? ⟨σ.p, o, none⟩ = w.cell? ⟨σ.p, o, none⟩ := fun o => fr_cell hf (a := ⟨σ.p, o, none⟩) h.pl (fun c => hbe.1 c.symm)
  have mem : ∀ x, x ∈ A ++ e' :: B → x = e' ∨ (x ∈ σ.L ∧ (x ∈ A ∨ x ∈ B)) := fun x hx => by
    rw [hL]
    simp only [List.mem_append, List.mem_cons] at hx ⊢
    rcases hx with hx | hx | hx
    · exact .inr ⟨.inl hx, .inl hx⟩
    · exact .inl hx
    · exact .inr ⟨.inr (.inr hx), .inr hx⟩
  have qd2 := h.qd
  rw [hL] at qd2
  simp only [List.map_append, List.map_cons, List.nodup_append, List.nodup_cons, List.mem_map, List.mem_cons] at qd2
  have neq : ∀ x, (x ∈ A ∨ x ∈ B) → x.q ≠ e.q := fun x hx hc => by
    rcases hx with hx | hx
    · exact qd2.2.2 x.q ⟨x, hx, rfl⟩ e.q (.inl rfl) hc
    · exact qd2.2.1.1 ⟨x, hx, hc⟩
  have ck : ∀ k, Ck { σ with L := A ++ e' :: B, K := K' } k → Ck σ k := fun k hC => by
    rcases hC with hC | hC | hC | ⟨x, hx, hqx⟩
    · exact .inl hC
    · exact .inr (.inl hC)
    · exact .inr (.inr (.inl hC))
    · rcases mem x hx with rfl | ⟨hx, _⟩
      · exact .inr (.inr (.inr ⟨e, he, by rw [← hq]; exact hqx⟩))
      · exact .inr (.inr (.inr ⟨x, hx, hqx⟩))
  exact {
    disk := h.disk.fr hf fun k hk hS => h.dk k hk (.inr (.inr (.inr ⟨e, he, hS.symm⟩)))
    c0 := (cp 0).trans h.c0, c1 := (cp 1).trans h.c1, c2 := (cp 2).trans h.c2, c3 := (cp 3).trans h.c3
    fp := fun o => (fr_frozen hf (a := ⟨σ.p, o, none⟩) h.pl (fun c => hbe.1 c.symm)).trans (h.fp o)
    ord := h.ord.same fun k hk => hf.blk k (h.ord.lt k hk).2 (fun c => hbe.2.2.1 (by rw [hk, c]))
    map := by
      have := (h.map.same (hf.blk _ h.map.lt (fun c => hbe.2.1 c.symm))).mono hK
      rw [hL, ← lookF_same hn hq] at this
      exact this
    blk := fun x hx => by
      rcases mem x hx with rfl | ⟨hx, hx2⟩
      · exact ⟨by rw [hq]; exact hr, hd, by rw [hn]; exact (h.blk e he).2.2.1, hp⟩
      · have := h.blk x hx
        exact ⟨(hf.blk x.q (h.sk_lt (.inr (.inr (.inr ⟨x, hx, rfl⟩)))) (neq x hx2)).trans this.1, this.2.1, this.2.2.1, Nat.le_trans this.2.2.2 hK⟩
    nd := by have := h.nd; rw [hL] at this; simpa [hn] using this
    qd := by have := h.qd; rw [hL] at this; simpa [hq] using this
    pm := h.pm, po := h.po, mo := h.mo
    bq := fun x hx => by
      rcases mem x hx with rfl | ⟨hx, _⟩
      · rw [hq]; exact hbe
      · exact h.bq x hx
    pb := h.pb, mbb := h.mbb
    dk := fun k hk hC => h.dk k hk (ck k hC)
    m1 := h.m1 }
theorem Step.setE {A B : List CE} {e e' : CE} {K' : Nat} (hL : σ.L = A ++ e :: B) (hq : e'.q = e.q) (hf : Fr (fun k => k = e.q) w w') : Step σ { σ with L := A ++ e' :: B, K := K' } w w' := by
  have he : e ∈ σ.L := by rw [hL]; simp
  refine ⟨hf.mono fun k _ hk => .inl (.inr (.inr (.inr ⟨e, he, hk.symm⟩))), fun k hk => .inl ?_⟩
  rcases hk with (hk | hk | hk | ⟨x, hx, hqx⟩) | hk
  · exact .inl (.inl hk)
  · exact .inl (.inr (.inl hk))
  · exact .inl (.inr (.inr (.inl hk)))
  · refine .inl (.inr (.inr (.inr ?_)))
    simp only [List.mem_append, List.mem_cons] at hx
    rcases hx with hx | hx | hx
    · exact ⟨x, by rw [hL]; simp [hx], hqx⟩
    · subst hx; exact ⟨e, he, by rw [← hq]; exact hqx⟩
    · exact ⟨x, by rw [hL]; simp [hx], hqx⟩
  · exact .inr hk
/-- How a block that is asked comes to the end. -/
inductive AskR (σ : CSt) (n q : Nat) : List CE → Nat → Prop
  | hit {A B : List CE} {e : CE} (hL : σ.L = A ++ e :: B) (hn : e.n = n) (hq : e.q = q) : AskR σ n q (tch A e B) σ.K
  | free (hne : ∀ x ∈ σ.L, ¬ x.n = n) (hl : σ.L.length < σ.most) : AskR σ n q (addE σ.L n q (lst σ n)) (σ.K + 1)
  | evict {A B : List CE} {e : CE} (hne : ∀ x ∈ σ.L, ¬ x.n = n) (hl : σ.most ≤ σ.L.length) (hL : σ.L = A ++ e :: B) (hA : ∀ x ∈ A, goB σ x = false) (he : goB σ e = true) : AskR σ n q (addE (A ++ B) n q (lst σ n)) (σ.K + 1)
/-- There is no room for it. -/
structure FullR (σ : CSt) (n : Nat) : Prop where
  ne : ∀ x ∈ σ.L, ¬ x.n = n
  le : σ.most ≤ σ.L.length
  no : ∀ x ∈ σ.L, goB σ x = false
theorem AskR.last {n q K' : Nat} {L' : List CE} (h : AskR σ n q L' K') : ∃ P e, L' = P ++ [e] ∧ e.n = n ∧ e.q = q := by
  cases h with
  | hit hL hn hq => exact ⟨_, _, rfl, hn, hq⟩
  | free => exact ⟨_, _, rfl, rfl, rfl⟩
  | evict => exact ⟨_, _, rfl, rfl, rfl⟩
theorem AskR.len {n q K' : Nat} {L' : List CE} (h : AskR σ n q L' K') (hl : σ.L.length ≤ σ.most) : L'.length ≤ σ.most := by
  cases h with
  | hit hL hn hq => rw [hL] at hl; simp only [tch, List.length_append, List.length_cons, List.length_nil] at hl ⊢; omega
  | free hne h1 => simp only [addE, List.length_append, List.length_cons, List.length_nil]; omega
  | evict hne h1 hL => rw [hL] at hl; simp only [addE, List.length_append, List.length_cons, List.length_nil] at hl ⊢; omega
theorem AskR.k {n q K' : Nat} {L' : List CE} (h : AskR σ n q L' K') : σ.K ≤ K' ∧ K' ≤ σ.K + 1 := by
  cases h <;> exact ⟨by omega, by omega⟩
theorem ask_any (h : CS w base σ (nums σ.L)) (n : Nat) (hn : n < σ.dn) (hK : σ.K ≤ 1000000) (hlen : σ.L.length ≤ σ.most) :
    Calls Try.prog 50 #[.pointer (some ⟨σ.p, 0, none⟩), .int .i64 (n : Int)] w fun r w' => (∃ q, r = .returned (.tuple #[.pointer (some ⟨q, 0, none⟩), .int .i64 0]) ∧ ∃ v' L' K', Done base σ { σ with ov := v', L := L', K := K' } w w' ∧ AskR σ n q L' K') ∨ (r = .returned (.tuple #[.pointer none, .int .i64 5]) ∧ FullR σ n ∧ Below w.heap.size w w') := by
  have hm := h.m1
  rcases first_split (fun e => decide (e.n = n)) σ.L with hno | ⟨A, e, B, hL, _, he⟩
  · have hne : ∀ x ∈ σ.L, ¬ x.n = n := fun x hx => by have := hno x hx; simpa using this
    by_cases hl : σ.L.length < σ.most
    · refine (ask_new h n hn hne σ.L hne hK (by rw [nums_length]; omega) ((room_free h (by omega)).mono ?_)).mono ?_
      · rintro r w' ⟨rfl, hb⟩
        exact ⟨rfl, σ.ov, h.up hb, Step.refl σ hb, hb.mono (by have := h.pb; have := h.pl; omega)⟩
      · rintro r w' ⟨q, rfl, v', hD⟩
        exact .inl ⟨q, rfl, v', _, _, hD, .free hne hl⟩
    · rcases first_split (goB σ) σ.L with hgo | ⟨A, e, B, hL, hA, he⟩
      · refine (ask_full h n hn hne (room_no h (by omega) hgo)).mono ?_
        rintro r w' ⟨rfl, hb⟩
        exact .inr ⟨rfl, ⟨hne, by omega, hgo⟩, hb⟩
      · have hne1 : ∀ x ∈ A ++ B, ¬ x.n = n := fun x hx => hne x (by
          rw [hL]
          rcases List.mem_append.1 hx with hx | hx
          · exact List.mem_append.2 (.inl hx)
          · exact List.mem_append.2 (.inr (List.mem_cons_of_mem _ hx)))
        refine (ask_new h n hn hne (A ++ B) hne1 hK ?_ (room_go h (by omega) hL hA he)).mono ?_
        · rw [nums_length]; rw [hL] at hlen; simp only [List.length_append, List.length_cons] at hlen ⊢; omega
        · rintro r w' ⟨q, rfl, v', hD⟩
          exact .inl ⟨q, rfl, v', _, _, hD, .evict hne (by omega) hL hA he⟩
  · obtain rfl : e.n = n := by simpa using he
    refine (ask_hit h hL (by omega)).mono ?_
    rintro r w' ⟨rfl, v', hD⟩
    exact .inl ⟨e.q, rfl, v', _, _, hD, .hit hL rfl rfl⟩
theorem Done.trans {σ σ' σ'' : CSt} {a b c : World} (h : Done base σ σ' a b) (k : Done base σ' σ'' b c) : Done base σ σ'' a c := ⟨k.cs, h.st.trans k.st, h.be.trans k.be⟩
theorem CS.bs (h : CS w base σ O) : base ≤ w.heap.size := by have := h.pb; have := h.pl; omega
theorem Done.up {σ σ' : CSt} {a b c : World} (h : Done base σ σ' a b) (hb : Below b.heap.size b c) : Done base σ σ' a c := ⟨h.cs.up hb, h.st.trans (Step.refl _ hb), h.be.trans (hb.mono h.cs.bs)⟩
set_option maxHeartbeats 2000000 in
theorem cread_out (h : CS w base σ O) (b : Int) (hb : b < 0 ∨ (σ.dn : Int) ≤ b) :
    Calls Try.prog 18 #[.pointer (some ⟨σ.p, 0, none⟩), .int .i64 b] w fun r w' => r = .returned (.tuple #[.slice none 0 0, .int .i64 3]) ∧ w' = w := by
  have RC := reach_out h b hb
  clear h
  go_enter Try.func18, Try.ntmps18
  go_wp2_with (first | (go_at_call 49; refine RC.mono ?_; rintro r w1 ⟨rfl, rfl⟩))
  go_ret2
  exact ⟨rfl, rfl⟩
/-- What Read leaves. -/
def ReadP (base : Nat) (σ : CSt) (n : Nat) (w : World) (r : Ending) (w' : World) : Prop :=
  (∃ v v' P e K', r = .returned (.tuple #[v, .int .i64 0]) ∧ Own w' w.heap.size v e.d ∧ (∀ k, v.ownBlock = some k → ¬ Sk { σ with ov := v', L := P ++ [e], K := K' } k) ∧ Done base σ { σ with ov := v', L := P ++ [e], K := K' } w w' ∧ AskR σ n e.q (P ++ [e]) K' ∧ e.n = n) ∨ (r = .returned (.tuple #[.slice none 0 0, .int .i64 5]) ∧ FullR σ n ∧ Below w.heap.size w w')
set_option maxHeartbeats 2000000 in
theorem cread_any (h : CS w base σ (nums σ.L)) (n : Nat) (hn : n < σ.dn) (hK : σ.K ≤ 1000000) (hlen : σ.L.length ≤ σ.most) :
    Calls Try.prog 18 #[.pointer (some ⟨σ.p, 0, none⟩), .int .i64 (n : Int)] w (ReadP base σ n w) := by
  have RC := reach_ok h n (by omega)
  have AK := ask_any h n hn hK hlen
  have HSZ : Hid (base ≤ w.heap.size) := h.bs
  clear h
  go_enter Try.func18, Try.ntmps18
  go_wp2_with fail
  refine RC.mono ?_
  rintro r w1 ⟨rfl, hw1⟩
  obtain rfl : w = w1 := hw1.symm
  clear RC
  go_wp2_with fail
  refine AK.mono ?_
  clear AK
  rintro r w2 (⟨q, rfl, v', L', K', hD, hR⟩ | ⟨rfl, hF, hb⟩)
  · obtain ⟨P, e, rfl, hen, heq⟩ := hR.last
    subst heq
    have hbk := hD.cs.blk e (by simp)
    have BY := bytes_any e.q _ e.d [.int .i64 (e.pin : Int)] w2 hbk.1 hbk.2.1
    have HD : Hid _ := hD
    have HR : Hid _ := And.intro hR hen
    clear hD hR hbk hen
    go_wp2_with fail
    refine BY.mono ?_
    clear BY
    rintro r w3 ⟨v, rfl, ho, hb3⟩
    have HO : Hid _ := ho
    have HB : Hid _ := hb3
    clear ho hb3
    go_wp2
    go_ret2
    refine .inl ⟨v, v', P, e, K', rfl, ?_, fun k hk hs => ?_, HD.out.up HB.out, HR.out.1, HR.out.2⟩
    · obtain ⟨h1, h2⟩ := HO.out
      refine ⟨h1, ?_⟩
      rcases h2 with h2 | ⟨g, cap, cur, hv, hg, rest⟩
      · exact .inl h2
      · exact .inr ⟨g, cap, cur, hv, by have := HD.out.be.size; omega, rest⟩
    · have h1 := (HO.out.lt k hk).1
      have h2 := HD.out.cs.sk_size hs
      omega
  · have HF : Hid _ := hF
    clear hF
    go_wp2
    go_ret2
    exact .inr ⟨rfl, HF.out, hb⟩
/-- What Lay leaves. -/
def LayP (base : Nat) (σ : CSt) (n : Nat) (data : List UInt8) (w : World) (r : Ending) (w' : World) : Prop :=
  (∃ v' P e K', r = .returned (.int .i64 0) ∧ Done base σ { σ with ov := v', L := P ++ [{ e with d := data }], K := K' } w w' ∧ AskR σ n e.q (P ++ [e]) K' ∧ e.n = n) ∨ (r = .returned (.int .i64 5) ∧ FullR σ n ∧ Below w.heap.size w w')
set_option maxHeartbeats 2000000 in
theorem clay_any (h : CS w base σ (nums σ.L)) (n : Nat) (hn : n < σ.dn) (hK : σ.K ≤ 1000000) (hlen : σ.L.length ≤ σ.most) (data : List UInt8) (b o c : Nat) (hs : Src w (some ⟨b, o, none⟩) data) (hd : data.length = 256) (hbS : ¬ Sk σ b) :
    Calls Try.prog 19 #[.pointer (some ⟨σ.p, 0, none⟩), .int .i64 (n : Int), .slice (some ⟨b, o, none⟩) 256 c] w (LayP base σ n data w) := by
  have RC := reach_ok h n (by omega)
  have AK := ask_any h n hn hK hlen
  have HS : Hid (Src w (some ⟨b, o, none⟩) data ∧ ¬ Sk σ b) := ⟨hs, hbS⟩
  have HD0 : Hid (data.length = 256) := hd
  clear h hs hd hbS
  go_enter Try.func19, Try.ntmps19
  go_wp2_with fail
  refine RC.mono ?_
  rintro r w1 ⟨rfl, hw1⟩
  obtain rfl : w = w1 := hw1.symm
  clear RC
  go_wp2_with fail
  refine AK.mono ?_
  clear AK
  rintro r w2 (⟨q, rfl, v', L', K', hD, hR⟩ | ⟨rfl, hF, hb⟩)
  · obtain ⟨P, e, rfl, hen, heq⟩ := hR.last
    subst heq
    have hbk := hD.cs.blk e (by simp)
    have hsrc2 : Src w2 (some ⟨b, o, none⟩) data := by
      obtain ⟨b', o', e1, hlt, hc⟩ := HS.out.1.at' (by rw [HD0.out]; omega)
      simp only [Option.some.injEq, Addr.mk.injEq] at e1
      obtain ⟨rfl, rfl, _⟩ := e1
      exact .inr ⟨b, o, rfl, by have := hD.st.fr.size; omega, fun j hj => (fr_cell hD.st.fr (a := ⟨b, o + j, none⟩) hlt HS.out.2).trans (hc j hj)⟩
    have ST := set_any e.q _ e.d data [.int .i64 (e.pin : Int)] (some ⟨b, o, none⟩) c w2 hbk.1 hbk.2.1 hsrc2 HD0.out
    have HD : Hid _ := hD
    have HR : Hid _ := And.intro hR hen
    have HBK : Hid _ := hbk.2.2.2
    have HBQ : Hid _ := (hD.cs.bq e (by simp)).2.2.2
    clear hD hR hbk hen hsrc2
    go_wp2_with fail
    refine ST.mono ?_
    clear ST
    rintro r w3 ⟨rfl, hr3, hf3, hb3, hz3⟩
    have HF3 : Hid _ := And.intro hr3 (And.intro hf3 hb3)
    clear hr3 hf3 hb3 hz3
    go_wp2
    go_ret
    refine .inl ⟨v', P, e, K', rfl, HD.out.trans ⟨?_, Step.setE (σ := { σ with ov := v', L := P ++ [e], K := K' }) (A := P) (B := []) (e := e) (e' := { e with d := data }) (K' := K') rfl rfl HF3.out.2.1, HF3.out.2.2.mono HBQ.out⟩, HR.out.1, HR.out.2⟩
    have := HD.out.cs.setE (A := P) (B := []) (e := e) (e' := { e with d := data }) (K' := K') rfl rfl rfl HF3.out.2.1 HF3.out.1 HD0.out HBK.out (Nat.le_refl _)
    show CS w3 base { σ with ov := v', L := P ++ [{ e with d := data }], K := K' } (nums (P ++ [{ e with d := data }]))
    rw [show nums (P ++ [{ e with d := data }]) = nums (P ++ [e]) from nums_same (e := e) (B := []) rfl]
    exact this
  · have HF : Hid _ := hF
    clear hF
    go_wp2
    go_ret
    exact .inr ⟨rfl, HF.out, hb⟩
end
end Go.Proofs.Ytikpnfnbmbaljaa
/- Package cache: Write, Pin, Unpin, Drop, New, Held. -/
namespace Go.Proofs.Ytikpnfnbmbaljaa
open Go.RowKit
set_option maxRecDepth 100000
section
variable {w w' : World} {base : Nat} {σ : CSt} {O : List Int}
theorem CS.setDisk (h : CS w base σ O) {lf' : Int} {ws' : Nat → List (List UInt8)} {sf' : Nat → List UInt8} {vs' : Nat → Value} (hD : DiskAt w' base σ.dp σ.dn σ.en lf' sf' ws' σ.dq vs') {S : Nat → Prop} (hf : Fr S w w') (hS : ∀ k, S k → Dk σ.dp σ.dq σ.dn σ.vs k) (hv : ∀ k, Dk σ.dp σ.dq σ.dn vs' k → Dk σ.dp σ.dq σ.dn σ.vs k ∨ w.heap.size ≤ k) :
    CS w' base { σ with lf := lf', sf := sf', ws := ws', vs := vs' } O := by
  have nS : ∀ k, Ck σ k → ¬ S k := fun k hC hS' => h.dk k (hS k hS') hC
  have cp : ∀ o, w'.cell? ⟨σ.p, o, none⟩ = w.cell? ⟨σ.p, o, none⟩ := fun o => fr_cell hf (a := ⟨σ.p, o, none⟩) h.pl (nS _ (.inl rfl))
  exact {
    disk := hD
    c0 := (cp 0).trans h.c0, c1 := (cp 1).trans h.c1, c2 := (cp 2).trans h.c2, c3 := (cp 3).trans h.c3
    fp := fun o => (fr_frozen hf (a := ⟨σ.p, o, none⟩) h.pl (nS _ (.inl rfl))).trans (h.fp o)
    ord := h.ord.same fun k hk => hf.blk k (h.ord.lt k hk).2 (nS k (.inr (.inr (.inl hk))))
    map := h.map.same (hf.blk _ h.map.lt (nS _ (.inr (.inl rfl))))
    blk := fun e he => ⟨(hf.blk e.q (h.sk_lt (.inr (.inr (.inr ⟨e, he, rfl⟩)))) (nS _ (.inr (.inr (.inr ⟨e, he, rfl⟩))))).trans (h.blk e he).1, (h.blk e he).2⟩
    nd := h.nd, qd := h.qd, pm := h.pm, po := h.po, mo := h.mo, bq := h.bq, pb := h.pb, mbb := h.mbb
    dk := fun k hk hC => by
      rcases hv k hk with h1 | h1
      · exact h.dk k h1 hC
      · have := h.sk_lt hC; omega
    m1 := h.m1 }
theorem Step.setDisk {lf' : Int} {ws' : Nat → List (List UInt8)} {sf' : Nat → List UInt8} {vs' : Nat → Value} {S : Nat → Prop} (hf : Fr S w w') (hS : ∀ k, S k → Dk σ.dp σ.dq σ.dn σ.vs k) (hv : ∀ k, Dk σ.dp σ.dq σ.dn vs' k → Dk σ.dp σ.dq σ.dn σ.vs k ∨ w.heap.size ≤ k) :
    Step σ { σ with lf := lf', sf := sf', ws := ws', vs := vs' } w w' := by
  refine ⟨hf.mono fun k _ hk => .inr (hS k hk), fun k hk => ?_⟩
  rcases hk with hk | hk
  · exact .inl (.inl hk)
  · rcases hv k hk with h1 | h1
    · exact .inl (.inr h1)
    · exact .inr h1
theorem dk_upd {p q n i g m c H : Nat} {vs : Nat → Value} (hi : i < n) (hg : (vs i).ownBlock = some g ∨ H ≤ g) : ∀ k, Dk p q n (upd vs i (.slice (some ⟨g, 0, none⟩) m c)) k → Dk p q n vs k ∨ H ≤ k := fun k hk => by
  rcases hk with hk | hk | ⟨j, hj, hk⟩
  · exact .inl (.inl hk)
  · exact .inl (.inr (.inl hk))
  · by_cases hji : j = i
    · subst hji
      rw [upd_same] at hk
      obtain rfl : g = k := by simpa [Value.ownBlock] using hk
      rcases hg with h1 | h1
      · exact .inl (.inr (.inr ⟨j, hj, h1⟩))
      · exact .inr h1
    · rw [upd_other _ _ _ hji] at hk
      exact .inl (.inr (.inr ⟨j, hj, hk⟩))
/-- What Write leaves. -/
def WriteP (base : Nat) (σ : CSt) (n : Nat) (im : CE → List UInt8) (w : World) (r : Ending) (w' : World) : Prop :=
  (∃ v' P e K' vs', r = .returned (.int .i64 0) ∧ Done base σ { σ with ov := v', L := P ++ [e], K := K', ws := upd σ.ws n (σ.ws n ++ [im e]), vs := vs' } w w' ∧ AskR σ n e.q (P ++ [e]) K' ∧ e.n = n) ∨ (r = .returned (.int .i64 5) ∧ FullR σ n ∧ Below w.heap.size w w')
/-- The disk's Write, on a cache. -/
theorem dwrite_any (h : CS w base σ (nums σ.L)) (n : Nat) (hn : n < σ.dn) (hen : σ.en = false) (hlf : σ.lf = 0) (hw : (σ.ws n).length ≤ 1000000) (d : List UInt8) (hd : d.length = 256) (bd od dc : Nat) (hs : Src w (some ⟨bd, od, none⟩) d) (hb : bd ≠ σ.dp) :
    Calls Try.prog 53 #[.pointer (some ⟨σ.dp, 0, none⟩), .int .i64 (n : Int), .slice (some ⟨bd, od, none⟩) 256 dc] w fun r w' => r = .returned (.int .i64 0) ∧ ∃ vs', Done base σ { σ with ws := upd σ.ws n (σ.ws n ++ [d]), vs := vs' } w w' := by
  have hg : goesB σ.en σ.lf = true := by rw [hen, hlf]; rfl
  have hgl : goesL σ.en σ.lf = σ.lf := by rw [hen, hlf]; rfl
  refine (write_fr h.disk (by rw [hlf]; omega) n hn hw d hd bd od dc hs hb hg).mono ?_
  rintro r w' ⟨rfl, ⟨g, c, hD, hat⟩, hbe, hf⟩
  rw [hgl] at hD
  have hS : ∀ k, (k = σ.dp ∨ k = σ.dq ∨ (σ.vs n).ownBlock = some k) → Dk σ.dp σ.dq σ.dn σ.vs k := fun k hk => by
    rcases hk with hk | hk | hk
    · exact .inl hk
    · exact .inr (.inl hk)
    · exact .inr (.inr ⟨n, hn, hk⟩)
  exact ⟨rfl, _, h.setDisk hD hf hS (dk_upd hn hat), Step.setDisk hf hS (dk_upd hn hat), hbe⟩
set_option maxHeartbeats 2000000 in
theorem cwrite_own (h : CS w base σ (nums σ.L)) (n : Nat) (hn : n < σ.dn) (hK : σ.K ≤ 1000000) (hlen : σ.L.length ≤ σ.most) (hen : σ.en = false) (hlf : σ.lf = 0) (hw : (σ.ws n).length ≤ 1000000) :
    Calls Try.prog 21 #[.pointer (some ⟨σ.p, 0, none⟩), .int .i64 (n : Int), .slice none 0 0] w (WriteP base σ n (fun e => e.d) w) := by
  have RC := reach_ok h n (by omega)
  have AK := ask_any h n hn hK hlen
  have HW : Hid (n < σ.dn ∧ σ.en = false ∧ σ.lf = 0 ∧ (σ.ws n).length ≤ 1000000) := ⟨hn, hen, hlf, hw⟩
  clear h hen hlf hw hn
  go_enter Try.func21, Try.ntmps21
  go_wp2_with fail
  refine RC.mono ?_
  rintro r w1 ⟨rfl, hw1⟩
  obtain rfl : w = w1 := hw1.symm
  clear RC
  go_wp2_with fail
  refine AK.mono ?_
  clear AK
  rintro r w2 (⟨q, rfl, v', L', K', hD, hR⟩ | ⟨rfl, hF, hb⟩)
  · obtain ⟨P, e, rfl, hen, heq⟩ := hR.last
    subst heq
    have hbk := hD.cs.blk e (by simp)
    have BY := bytes_any e.q _ e.d [.int .i64 (e.pin : Int)] w2 hbk.1 hbk.2.1
    have HD : Hid _ := hD
    have HR : Hid _ := And.intro hR hen
    have HL : Hid (e.d.length = 256) := hbk.2.1
    clear hD hR hbk hen
    go_wp2_with fail
    refine BY.mono ?_
    clear BY
    rintro r w3 ⟨v, rfl, ho, hb3⟩
    obtain ⟨h1, h2⟩ := ho
    rcases h2 with ⟨_, h2⟩ | ⟨g, cap, cur, hv, hg, hh, hn3, hm3, hs3, hx3⟩
    · rw [HL.out] at h2; cases h2
    rw [HL.out] at hv
    subst hv
    have hsrc : Src w3 (some ⟨g, 0, none⟩) e.d := by
      have ho : Own w3 w2.heap.size (.slice (some ⟨g, 0, none⟩) e.d.length cap) e.d := ⟨h1, .inr ⟨g, cap, cur, rfl, hg, hh, hn3, hm3, hs3, hx3⟩⟩
      obtain ⟨ao, c2, hv2, hs2, _⟩ := ho.form
      simp only [Value.slice.injEq] at hv2
      rw [hv2.1]; exact hs2
    have HD3 : Hid _ := HD.out.up hb3
    have hgp : g ≠ σ.dp := fun c => by
      have := HD.out.cs.disk.pl
      dsimp only at this
      omega
    have DW := dwrite_any HD3.out.cs n HW.out.1 HW.out.2.1 HW.out.2.2.1 HW.out.2.2.2 e.d HL.out g 0 cap hsrc hgp
    dsimp only at DW
    have q0 := HD3.out.cs.c0
    dsimp only at q0
    clear hsrc hgp h1 hh hn3 hm3 hs3 hx3 HD hb3
    go_wp2_with fail
    refine DW.mono ?_
    clear DW
    rintro r w4 ⟨rfl, vs', hD4⟩
    have HD4 : Hid _ := HD3.out.trans hD4
    clear hD4
    go_wp2
    go_ret
    exact .inl ⟨v', P, e, K', vs', rfl, HD4.out, HR.out.1, HR.out.2⟩
  · have HF : Hid _ := hF
    clear hF
    go_wp2
    go_ret
    exact .inr ⟨rfl, HF.out, hb⟩
set_option maxHeartbeats 2000000 in
theorem cwrite_img (h : CS w base σ (nums σ.L)) (n : Nat) (hn : n < σ.dn) (hK : σ.K ≤ 1000000) (hlen : σ.L.length ≤ σ.most) (hen : σ.en = false) (hlf : σ.lf = 0) (hw : (σ.ws n).length ≤ 1000000) (data : List UInt8) (b o c : Nat) (hs : Src w (some ⟨b, o, none⟩) data) (hd : data.length = 256) (hbS : ¬ Sk σ b) :
    Calls Try.prog 21 #[.pointer (some ⟨σ.p, 0, none⟩), .int .i64 (n : Int), .slice (some ⟨b, o, none⟩) 256 c] w (WriteP base σ n (fun _ => data) w) := by
  have RC := reach_ok h n (by omega)
  have AK := ask_any h n hn hK hlen
  have HW : Hid (n < σ.dn ∧ σ.en = false ∧ σ.lf = 0 ∧ (σ.ws n).length ≤ 1000000) := ⟨hn, hen, hlf, hw⟩
  have HS : Hid (Src w (some ⟨b, o, none⟩) data ∧ ¬ Sk σ b) := ⟨hs, hbS⟩
  have HD0 : Hid (data.length = 256) := hd
  clear h hen hlf hw hn hs hd hbS
  go_enter Try.func21, Try.ntmps21
  go_wp2_with fail
  refine RC.mono ?_
  rintro r w1 ⟨rfl, hw1⟩
  obtain rfl : w = w1 := hw1.symm
  clear RC
  go_wp2_with fail
  refine AK.mono ?_
  clear AK
  rintro r w2 (⟨q, rfl, v', L', K', hD, hR⟩ | ⟨rfl, hF, hb⟩)
  · obtain ⟨P, e, rfl, hen, heq⟩ := hR.last
    have hsrc2 : Src w2 (some ⟨b, o, none⟩) data := by
      obtain ⟨b', o', e1, hlt, hc⟩ := HS.out.1.at' (by rw [HD0.out]; omega)
      simp only [Option.some.injEq, Addr.mk.injEq] at e1
      obtain ⟨rfl, rfl, _⟩ := e1
      exact .inr ⟨b, o, rfl, by have := hD.st.fr.size; omega, fun j hj => (fr_cell hD.st.fr (a := ⟨b, o + j, none⟩) hlt HS.out.2).trans (hc j hj)⟩
    have hgp : b ≠ σ.dp := fun c => HS.out.2 (by rw [c]; exact .inr (.inl rfl))
    have DW := dwrite_any hD.cs n HW.out.1 HW.out.2.1 HW.out.2.2.1 HW.out.2.2.2 data HD0.out b o c hsrc2 hgp
    dsimp only at DW
    have q0 := hD.cs.c0
    dsimp only at q0
    have HD : Hid _ := hD
    have HR : Hid _ := And.intro hR (And.intro hen heq)
    clear hD hR hen hsrc2 hgp heq
    go_wp2_with fail
    refine DW.mono ?_
    clear DW
    rintro r w4 ⟨rfl, vs', hD4⟩
    have HD4 : Hid _ := HD.out.trans hD4
    clear hD4
    go_wp2
    go_ret
    exact .inl ⟨v', P, e, K', vs', rfl, HD4.out, by rw [HR.out.2.2]; exact HR.out.1, HR.out.2.1⟩
  · have HF : Hid _ := hF
    clear hF
    go_wp2
    go_ret
    exact .inr ⟨rfl, HF.out, hb⟩
/-- A block that is pinned otherwise. -/
theorem CS.setPin (h : CS w base σ (nums σ.L)) {A B : List CE} {e : CE} {x : Nat} (hL : σ.L = A ++ e :: B) (hx : x ≤ σ.K + 1) : Done base σ { σ with L := A ++ { e with pin := x } :: B, K := σ.K + 1 } w (w.setCell ⟨e.q, 256, none⟩ (.int .i64 (x : Int))) := by
  have he : e ∈ σ.L := by rw [hL]; simp
  have hb := h.blk e he
  have hf : Fr (fun k => k = e.q) w (w.setCell ⟨e.q, 256, none⟩ (.int .i64 (x : Int))) := (Fr.refl _ _).setCell _ _ _ rfl
  have e2 : (beL { e with pin := x }).toArray = (beL e).toArray.setIfInBounds 256 (.int .i64 (x : Int)) := by
    simp only [beL, List.setIfInBounds_toArray]
    rw [List.set_append_right _ _ (by rw [bvs_length, hb.2.1]; omega), bvs_length, hb.2.1]
    rfl
  have hr : (w.setCell ⟨e.q, 256, none⟩ (.int .i64 (x : Int))).heap[e.q]? = some (.cells (beL { e with pin := x }).toArray 86 (0, 0)) := by
    rw [e2]; exact heap_setCell_same w e.q 256 _ _ _ hb.1
  refine ⟨?_, Step.setE hL rfl hf, (Below.refl _ _).setCell (h.bq e he).2.2.2 _⟩
  have := h.setE (K' := σ.K + 1) hL (e' := { e with pin := x }) rfl rfl hf hr hb.2.1 hx (by omega)
  rw [hL] at this
  show CS _ base { σ with L := A ++ { e with pin := x } :: B, K := σ.K + 1 } (nums (A ++ { e with pin := x } :: B))
  rw [show nums (A ++ { e with pin := x } :: B) = nums (A ++ e :: B) from nums_same (e := e) rfl]
  exact this
set_option maxHeartbeats 1000000 in
theorem pin_ok (h : CS w base σ (nums σ.L)) {A B : List CE} {e : CE} (hL : σ.L = A ++ e :: B) (hK : σ.K ≤ 1000000) :
    Calls Try.prog 28 #[.pointer (some ⟨σ.p, 0, none⟩), .int .i64 (e.n : Int)] w fun r w' => r = .returned (.int .i64 0) ∧ Done base σ { σ with L := A ++ { e with pin := e.pin + 1 } :: B, K := σ.K + 1 } w w' := by
  have FD := cfind_ok h hL
  have he : e ∈ σ.L := by rw [hL]; simp
  have qp := h.pin he
  have qf := h.bfr he 256
  have hb := (h.blk e he).2.2.2
  have HP : Hid _ := h.setPin (x := e.pin + 1) hL (by omega)
  have hpb : (e.pin : Int) ≤ 1000000 := by omega
  clear h hL he hb
  go_enter Try.func28, Try.ntmps28
  go_wp2_with (first | (go_at_call 59; refine FD.mono ?_; rintro r w1 ⟨rfl, rfl⟩))
  go_ret
  exact ⟨rfl, HP.out⟩
set_option maxHeartbeats 1000000 in
theorem pin_no (h : CS w base σ O) (b : Int) (hb : ∀ e ∈ σ.L, ¬ (e.n : Int) = b) (hbb : -9223372036854775808 ≤ b ∧ b ≤ 9223372036854775807) :
    Calls Try.prog 28 #[.pointer (some ⟨σ.p, 0, none⟩), .int .i64 b] w fun r w' => r = .returned (.int .i64 20) ∧ w' = w := by
  have FD := find_no h b hb hbb
  clear h hb
  go_enter Try.func28, Try.ntmps28
  go_wp2_with (first | (go_at_call 59; refine FD.mono ?_; rintro r w1 ⟨rfl, rfl⟩))
  go_ret
  exact ⟨rfl, rfl⟩
set_option maxHeartbeats 1000000 in
theorem unpin_ok (h : CS w base σ (nums σ.L)) {A B : List CE} {e : CE} (hL : σ.L = A ++ e :: B) (hK : σ.K ≤ 1000000) (hp : 1 ≤ e.pin) :
    Calls Try.prog 30 #[.pointer (some ⟨σ.p, 0, none⟩), .int .i64 (e.n : Int)] w fun r w' => r = .returned (.int .i64 0) ∧ Done base σ { σ with L := A ++ { e with pin := e.pin - 1 } :: B, K := σ.K + 1 } w w' := by
  have FD := cfind_ok h hL
  have he : e ∈ σ.L := by rw [hL]; simp
  have qp := h.pin he
  have qf := h.bfr he 256
  have hb := (h.blk e he).2.2.2
  have HP : Hid _ := h.setPin (x := e.pin - 1) hL (by omega)
  have hpb : (e.pin : Int) ≤ 1000000 := by omega
  have hp1 : (1 : Int) ≤ e.pin := by omega
  have hp0 : ((e.pin : Int) == 0) = false := beq_eq_false_iff_ne.2 (by omega)
  have HE : Hid ((e.pin : Int) - 1 = ((e.pin - 1 : Nat) : Int)) := by show _ = _; omega
  clear h hL he hb hp
  generalize e.pin = pn at *
  go_enter Try.func30, Try.ntmps30
  go_wp2_with (first | (go_at_call 59; refine FD.mono ?_; rintro r w1 ⟨rfl, rfl⟩))
  go_ret
  rw [HE.out]
  exact ⟨rfl, HP.out⟩
set_option maxHeartbeats 1000000 in
theorem unpin_zero (h : CS w base σ (nums σ.L)) {A B : List CE} {e : CE} (hL : σ.L = A ++ e :: B) (hp : e.pin = 0) :
    Calls Try.prog 30 #[.pointer (some ⟨σ.p, 0, none⟩), .int .i64 (e.n : Int)] w fun r w' => r = .returned (.int .i64 6) ∧ w' = w := by
  have FD := cfind_ok h hL
  have qp := h.pin (e := e) (by rw [hL]; simp)
  rw [hp] at qp
  clear h hL
  go_enter Try.func30, Try.ntmps30
  go_wp2_with (first | (go_at_call 59; refine FD.mono ?_; rintro r w1 ⟨rfl, rfl⟩))
  go_ret
  exact ⟨rfl, rfl⟩
set_option maxHeartbeats 1000000 in
theorem unpin_no (h : CS w base σ O) (b : Int) (hb : ∀ e ∈ σ.L, ¬ (e.n : Int) = b) (hbb : -9223372036854775808 ≤ b ∧ b ≤ 9223372036854775807) :
    Calls Try.prog 30 #[.pointer (some ⟨σ.p, 0, none⟩), .int .i64 b] w fun r w' => r = .returned (.int .i64 20) ∧ w' = w := by
  have FD := find_no h b hb hbb
  clear h hb
  go_enter Try.func30, Try.ntmps30
  go_wp2_with (first | (go_at_call 59; refine FD.mono ?_; rintro r w1 ⟨rfl, rfl⟩))
  go_ret
  exact ⟨rfl, rfl⟩
set_option maxHeartbeats 1000000 in
theorem drop_no (h : CS w base σ O) (b : Int) (hb : ∀ e ∈ σ.L, ¬ (e.n : Int) = b) (hbb : -9223372036854775808 ≤ b ∧ b ≤ 9223372036854775807) :
    Calls Try.prog 32 #[.pointer (some ⟨σ.p, 0, none⟩), .int .i64 b] w fun r w' => r = .returned (.int .i64 20) ∧ w' = w := by
  have FD := find_no h b hb hbb
  clear h hb
  go_enter Try.func32, Try.ntmps32
  go_wp2_with (first | (go_at_call 59; refine FD.mono ?_; rintro r w1 ⟨rfl, rfl⟩))
  go_ret
  exact ⟨rfl, rfl⟩
set_option maxHeartbeats 1000000 in
theorem drop_busy (h : CS w base σ (nums σ.L)) {A B : List CE} {e : CE} (hL : σ.L = A ++ e :: B) (hp : 1 ≤ e.pin) :
    Calls Try.prog 32 #[.pointer (some ⟨σ.p, 0, none⟩), .int .i64 (e.n : Int)] w fun r w' => r = .returned (.int .i64 32) ∧ w' = w := by
  have FD := cfind_ok h hL
  have qp := h.pin (e := e) (by rw [hL]; simp)
  have hp1 : (0 : Int) < e.pin := by omega
  clear h hL hp
  generalize e.pin = pn at *
  go_enter Try.func32, Try.ntmps32
  go_wp2_with (first | (go_at_call 59; refine FD.mono ?_; rintro r w1 ⟨rfl, rfl⟩))
  go_ret
  exact ⟨rfl, rfl⟩
set_option maxHeartbeats 1000000 in
theorem drop_ok (h : CS w base σ (nums σ.L)) {A B : List CE} {e : CE} (hL : σ.L = A ++ e :: B) (hp : e.pin = 0) :
    Calls Try.prog 32 #[.pointer (some ⟨σ.p, 0, none⟩), .int .i64 (e.n : Int)] w fun r w' => r = .returned (.int .i64 0) ∧ ∃ v', Done base σ { σ with ov := v', L := A ++ B } w w' := by
  have FD := cfind_ok h hL
  have LV := leave_any h hL
  have qp := h.pin (e := e) (by rw [hL]; simp)
  rw [hp] at qp
  clear h hL
  go_enter Try.func32, Try.ntmps32
  go_wp2_with (first | (go_at_call 59; refine FD.mono ?_; rintro r w1 ⟨rfl, rfl⟩) | (go_at_call 60; refine LV.mono ?_; rintro r w2 ⟨rfl, v', k1, k2, k3⟩))
  go_ret
  exact ⟨rfl, v', k1, k2, k3⟩
end
end Go.Proofs.Ytikpnfnbmbaljaa
