/- leveelaw11.do: both stores answer alike. -/
import Derived.Test.YthaogbbclocmaaaGreatJRpat8
import Derived.Test.YthaogbbclocmaaaGreatJXwaits6
import Derived.Test.YthaogbbclocmaaaGreatJPerr7
import Derived.Test.YthaogbbclocmaaaGreatJRimg7
import Derived.Deep.RegionWith
import Derived.Deep.RegionLaw
namespace Go.Proofs.YthaogbbclocmaaaGreat
open Go.RowKit
set_option maxRecDepth 100000
theorem SrcI.lt' {w : World} {sp : Option Addr} {l : List Int} (h : SrcI w sp l) (hl : 1 ≤ l.length) {b o : Nat} (e : sp = some ⟨b, o, none⟩) : b < w.heap.size := by
  rcases h with h | ⟨b', o', e', hb, _⟩
  · rw [h] at hl; simp at hl
  · rw [e'] at e; cases e; exact hb
section
variable (a : Act6) (w : World)
set_option maxHeartbeats 2000000 in
theorem after_yes (last : Int) :
    Calls Tryz.prog 14 #[.agg #[.int .i64 a.K, .int .i64 a.N, .int .i64 a.F, .slice a.dp a.D.length a.dc, .slice a.ap a.A.length a.ac, .bool true], .int .i64 last] w fun e w' => e = .returned (.slice a.ap a.A.length a.ac) ∧ Below w.heap.size w w' := by
  go_enter Tryz.func14, Tryz.ntmps14
  go_wp2
  go_ret
  exact ⟨rfl, (Below.refl _ _).alloc (Nat.le_refl _) _⟩
theorem after_gen (hok : a.Ok w) (hA : a.A.length ≤ 20) (last : Int) (h2 : last ≤ 1000000) :
    Calls Tryz.prog 14 #[.agg #[.int .i64 a.K, .int .i64 a.N, .int .i64 a.F, .slice a.dp a.D.length a.dc, .slice a.ap a.A.length a.ac, .bool a.R], .int .i64 last] w fun e w' => ∃ asp L ac, e = .returned (.slice asp L.length ac) ∧ SrcI w' asp L ∧ L.length ≤ 20 ∧ (1 ≤ L.length → ∀ b o, asp = some ⟨b, o, none⟩ → b < w.heap.size ∧ asp = a.ap ∧ 1 ≤ a.A.length ∨ w.heap.size ≤ b) ∧ (1 ≤ a.A.length → 1 ≤ L.length) ∧ (∀ x ∈ L, -9223372036854775808 ≤ x ∧ x ≤ 9223372036854775807) ∧ Below w.heap.size w w' := by
  have raw : ∀ (e : Ending) (w' : World), e = .returned (.slice a.ap a.A.length a.ac) ∧ Below w.heap.size w w' → ∃ asp L ac, e = .returned (.slice asp L.length ac) ∧ SrcI w' asp L ∧ L.length ≤ 20 ∧ (1 ≤ L.length → ∀ b o, asp = some ⟨b, o, none⟩ → b < w.heap.size ∧ asp = a.ap ∧ 1 ≤ a.A.length ∨ w.heap.size ≤ b) ∧ (1 ≤ a.A.length → 1 ≤ L.length) ∧ (∀ x ∈ L, -9223372036854775808 ≤ x ∧ x ≤ 9223372036854775807) ∧ Below w.heap.size w w' := by
    rintro e w' ⟨rfl, hb⟩
    exact ⟨a.ap, a.A, a.ac, rfl, hok.a.below hb (Nat.le_refl _), hA, fun h1 b o e => .inl ⟨hok.a.lt' h1 e, rfl, h1⟩, fun h => h, hok.ab, hb⟩
  cases hR : a.R with
  | true => exact (after_yes a w last).mono raw
  | false =>
    by_cases h1 : last < 1
    · exact (after_raw a w last h1).mono raw
    · refine (after_any a w hok last (by omega) h2).mono ?_
      rintro e w' ⟨v, L, rfl, hO, hl4, h11, hlast, hb⟩
      have hlt := hO.lt
      obtain ⟨asp, ac, rfl, hs, _⟩ := hO.form
      refine ⟨asp, L, ac, rfl, hs, by omega, fun h1 b o e => .inr ?_, h11, fun x hx => by have := hlast x hx; omega, hb⟩
      rcases hO.2 with ⟨h2, _⟩ | ⟨g, cap, cur, hv, hg, _⟩
      · injection h2 with h2a; rw [h2a] at e; cases e
      · injection hv with hva; rw [hva] at e; cases e; exact hg
end

section
variable {N : Nat} {w0 w w' : World} {p dp ed q : Nat} {s s' : PSt} {ops ops' : Nat → List Int} {κ m : Nat} {A : Nat → List Int} {L : List RCh} {D : Nat → Prop}
/-- What a call leaves. -/
structure Did (N : Nat) (w0 w w' : World) (p dp ed q : Nat) (s : PSt) (κ m : Nat) (D : Nat → Prop) : Prop where
  out : ∃ s' ops' A' L' D', BX N w0 w' p dp ed q s' ops' κ m A' L' D' ∧ s'.cnt ≤ s.cnt + 1 ∧ Fr (fun k => Ak s k ∨ D k) w w' ∧ ∀ k, Ak s' k ∨ D' k → (Ak s k ∨ D k) ∨ w.heap.size ≤ k
set_option maxHeartbeats 8000000 in
theorem do_write5 (h : BX N w0 w p dp ed q s ops κ m A L D) (hκ : κ ≤ 800) (hm : m ≤ 800) (a : Act6) :
    Calls Tryz.prog 15 #[.pointer (some ⟨p, 0, none⟩), .pointer (some ⟨q, 0, none⟩), .agg #[.int .i64 5, .int .i64 a.N, .int .i64 a.F, .slice a.dp a.D.length a.dc, .slice a.ap a.A.length a.ac, .bool a.R]] w fun e w' => e = .returned (.bool true) ∧ Did N w0 w w' p dp ed q s (κ + 1) (m + 1) D := by
  have hlt : ∀ k, Ak s k ∨ D k → k < w.heap.size := fun k hk => by
    rcases hk with hk | hk
    · exact h.gw.pm.lt hk
    · exact h.rs.ltD k hk
  have HLT : Hid (∀ k, Ak s k ∨ D k → k < w.heap.size) := hlt
  have HB0 : Hid (Below w.heap.size w (w.alloc (.cells #[.int .i64 5, .int .i64 a.N, .int .i64 a.F, .slice a.dp a.D.length a.dc, .slice a.ap a.A.length a.ac, .bool a.R] 39))) := (Below.refl _ _).alloc (Nat.le_refl _) _
  have HX0 : Hid (BX N w0 (w.alloc (.cells #[.int .i64 5, .int .i64 a.N, .int .i64 a.F, .slice a.dp a.D.length a.dc, .slice a.ap a.A.length a.ac, .bool a.R] 39)) p dp ed q s ops κ m A L D) := h.up HB0.out
  have HROW : Hid ((w.alloc (.cells #[.int .i64 5, .int .i64 a.N, .int .i64 a.F, .slice a.dp a.D.length a.dc, .slice a.ap a.A.length a.ac, .bool a.R] 39)).heap[w.heap.size]? = some (.cells #[.int .i64 5, .int .i64 a.N, .int .i64 a.F, .slice a.dp a.D.length a.dc, .slice a.ap a.A.length a.ac, .bool a.R] 39 (0, 0))) := heap_alloc_new _ _
  have HZ : Hid (w.heap.size < (w.alloc (.cells #[.int .i64 5, .int .i64 a.N, .int .i64 a.F, .slice a.dp a.D.length a.dc, .slice a.ap a.A.length a.ac, .bool a.R] 39)).heap.size) := by show _ < _; rw [size_alloc]; omega
  clear h hlt
  go_enter Tryz.func15, Tryz.ntmps15
  go_upto_region 16 with fail
  generalize w.alloc (.cells #[.int .i64 5, .int .i64 a.N, .int .i64 a.F, .slice a.dp a.D.length a.dc, .slice a.ap a.A.length a.ac, .bool a.R] 39) = W0 at *
  have HBD : Hid (Below W0.heap.size W0 W0.drew) := (Below.refl _ _).drew
  have WR := xb_write (HX0.out.up HBD.out) (by omega) (by omega) a.N
  have B1 : Hid (W0.drew.cell? ⟨w.heap.size, 1, none⟩ = some (.int .i64 a.N)) := (cell_of_row _ _ _ _ _ _ (show W0.drew.heap[w.heap.size]? = _ from HROW.out)).trans rfl
  have HG : Hid (¬ Ak s w.heap.size ∧ ¬ D w.heap.size) := ⟨fun hk => by have := HLT.out _ (.inl hk); omega, fun hk => by have := HLT.out _ (.inr hk); omega⟩
  refine wp_region_held_drew (S := (fun W => W.cell? ⟨w.heap.size, 1, none⟩ = some (.int .i64 a.N))) (by kernel_rfl) B1.out (fun hH => ?_)
  refine takeH (i := 0) (dst := some 74) (v := ?v1) rfl rfl (by kernel_rfl) (by kernel_rfl) (by kernel_rfl) (fun _ _ _ h => h) rfl ?hy1 hH rfl ?rest1
  case hy1 => (intro W hW; (try dsimp only at hW); go_simp; try with_reducible rfl)
  (try simp only [Act.put, List.setIfInBounds_toArray, List.set_cons_zero, List.set_cons_succ])
  refine takeH (i := 1) (dst := some 75) (v := ?v2) rfl rfl (by kernel_rfl) (by kernel_rfl) (by kernel_rfl) (fun _ _ _ h => h) rfl ?hy2 hH rfl ?rest2
  case hy2 => (intro W hW; (try dsimp only at hW); go_simp; try with_reducible rfl)
  (try simp only [Act.put, List.setIfInBounds_toArray, List.set_cons_zero, List.set_cons_succ])
  refine takeH (i := 2) (dst := some 76) (v := ?v3) rfl rfl (by kernel_rfl) (by kernel_rfl) (by kernel_rfl) (fun _ _ _ h => h) rfl ?hy3 hH rfl ?rest3
  case hy3 => (intro W hW; (try dsimp only at hW); go_simp; try with_reducible rfl)
  (try simp only [Act.put, List.setIfInBounds_toArray, List.set_cons_zero, List.set_cons_succ])
  refine takeH (i := 4) (dst := some 78) (v := ?v4) rfl rfl (by kernel_rfl) (by kernel_rfl) (by kernel_rfl) (fun _ _ _ h => h) rfl ?hy4 hH rfl ?rest4
  case hy4 => (intro W hW; (try dsimp only at hW); go_simp; try with_reducible rfl)
  (try simp only [Act.put, List.setIfInBounds_toArray, List.set_cons_zero, List.set_cons_succ])
  refine takeH (i := 5) (dst := some 79) (v := ?v5) rfl rfl (by kernel_rfl) (by kernel_rfl) (by kernel_rfl) (fun _ _ _ h => h) rfl ?hy5 hH rfl ?rest5
  case hy5 => (intro W hW; (try dsimp only at hW); go_simp; try with_reducible rfl)
  (try simp only [Act.put, List.setIfInBounds_toArray, List.set_cons_zero, List.set_cons_succ])
  refine takeH (i := 6) (dst := some 80) (v := ?v6) rfl rfl (by kernel_rfl) (by kernel_rfl) (by kernel_rfl) (fun _ _ _ h => h) rfl ?hy6 hH rfl ?rest6
  case hy6 => (intro W hW; (try dsimp only at hW); go_simp; try with_reducible rfl)
  (try simp only [Act.put, List.setIfInBounds_toArray, List.set_cons_zero, List.set_cons_succ])
  refine callH (i := 3) { dst := some 77, op := Go.Op.call { callee := Go.Callee.value (Go.Operand.func 26), args := #[Go.Operand.tmp 74, Go.Operand.tmp 76], argTypes := #[30, 3] }, type := 24, pos := "law.go:89", after := #[{ on := 0, ground := Go.Ground.data }, { on := 2, ground := Go.Ground.data }], guard := none } (by kernel_rfl) rfl rfl (fun K hK => ?_)
  go_simp
  refine WR.mono ?_
  clear WR
  rintro r wa ⟨e, rfl, hf1, WR2⟩
  have HF1 : Hid (Fr (Ak s) W0.drew wa) := hf1
  have B1a : Hid (wa.cell? ⟨w.heap.size, 1, none⟩ = some (.int .i64 a.N)) := (World.cell?_of_block (w := W0.drew) (a := ⟨w.heap.size, 1, none⟩) (HF1.out.blk _ HZ.out HG.out.1)).trans B1.out
  clear hf1
  clear hH
  refine hK.out _ _ B1a.out (fun hH => ?_)
  clear hK K
  (try simp only [Act.put, List.setIfInBounds_toArray, List.set_cons_zero, List.set_cons_succ])
  refine callH (i := 7) { dst := some 81, op := Go.Op.call { callee := Go.Callee.value (Go.Operand.func 55), args := #[Go.Operand.tmp 78, Go.Operand.tmp 80], argTypes := #[34, 3] }, type := 24, pos := "law.go:89", after := #[{ on := 4, ground := Go.Ground.data }, { on := 6, ground := Go.Ground.data }, { on := 3, ground := Go.Ground.chain }], guard := none } (by kernel_rfl) rfl rfl (fun K hK => ?_)
  go_simp
  refine WR2.mono ?_
  clear WR2
  rintro r wb ⟨rfl, hf2, s', D', L', hX, hc, hs⟩
  have HF2 : Hid (Fr D wa wb) := hf2
  have B1b : Hid (wb.cell? ⟨w.heap.size, 1, none⟩ = some (.int .i64 a.N)) := (World.cell?_of_block (w := wa) (a := ⟨w.heap.size, 1, none⟩) (HF2.out.blk _ (Nat.lt_of_lt_of_le HZ.out HF1.out.size) HG.out.2)).trans B1a.out
  have HD : Hid (BX N w0 wb p dp ed q s' ops (κ + 1) (m + 1) A L' D' ∧ s'.cnt = s.cnt ∧ ∀ k, Ak s' k ∨ D' k → (Ak s k ∨ D k) ∨ w.heap.size ≤ k) := ⟨hX, hc, fun k hk => (hs k hk).imp id (fun hh => Nat.le_trans (Nat.le_of_lt HZ.out) hh)⟩
  clear hf2 hX hc hs
  clear hH
  refine hK.out _ _ B1b.out (fun hH => ?_)
  clear hK K
  (try simp only [Act.put, List.setIfInBounds_toArray, List.set_cons_zero, List.set_cons_succ])
  refine takeH (i := 8) (dst := some 82) (v := ?v7) rfl rfl (by kernel_rfl) (by kernel_rfl) (by kernel_rfl) (fun _ _ _ h => h) rfl ?hy7 hH rfl ?rest7
  case hy7 => (intro W hW; (try dsimp only at hW); go_simp; try with_reducible rfl)
  (try simp only [Act.put, List.setIfInBounds_toArray, List.set_cons_zero, List.set_cons_succ])
  refine takeH (i := 9) (dst := some 6) (v := ?v8) rfl rfl (by kernel_rfl) (by kernel_rfl) (by kernel_rfl) (fun _ _ _ h => h) rfl ?hy8 hH rfl ?rest8
  case hy8 => (intro W hW; (try dsimp only at hW); go_simp; try with_reducible rfl)
  (try simp only [Act.put, List.setIfInBounds_toArray, List.set_cons_zero, List.set_cons_succ])
  refine wpAnyH_done (by kernel_rfl) ?_ _
  clear hH
  go_wp2_with fail
  go_ret
  refine ⟨by simp, ⟨s', ops, A, L', D', HD.out.1, by have := HD.out.2.1; omega, ?_, HD.out.2.2⟩⟩
  exact ((Fr.of_below HB0.out).trans (Fr.of_below HBD.out)).trans ((HF1.out.mono fun k _ hk => .inl hk).trans (HF2.out.mono fun k _ hk => .inr hk))
set_option maxHeartbeats 8000000 in
theorem do_write6 (h : BX N w0 w p dp ed q s ops κ m A L D) (hκ : κ ≤ 800) (hm : m ≤ 800) (a : Act6) :
    Calls Tryz.prog 15 #[.pointer (some ⟨p, 0, none⟩), .pointer (some ⟨q, 0, none⟩), .agg #[.int .i64 6, .int .i64 a.N, .int .i64 a.F, .slice a.dp a.D.length a.dc, .slice a.ap a.A.length a.ac, .bool a.R]] w fun e w' => e = .returned (.bool true) ∧ Did N w0 w w' p dp ed q s (κ + 1) (m + 1) D := by
  have hlt : ∀ k, Ak s k ∨ D k → k < w.heap.size := fun k hk => by
    rcases hk with hk | hk
    · exact h.gw.pm.lt hk
    · exact h.rs.ltD k hk
  have HLT : Hid (∀ k, Ak s k ∨ D k → k < w.heap.size) := hlt
  have HB0 : Hid (Below w.heap.size w (w.alloc (.cells #[.int .i64 6, .int .i64 a.N, .int .i64 a.F, .slice a.dp a.D.length a.dc, .slice a.ap a.A.length a.ac, .bool a.R] 39))) := (Below.refl _ _).alloc (Nat.le_refl _) _
  have HX0 : Hid (BX N w0 (w.alloc (.cells #[.int .i64 6, .int .i64 a.N, .int .i64 a.F, .slice a.dp a.D.length a.dc, .slice a.ap a.A.length a.ac, .bool a.R] 39)) p dp ed q s ops κ m A L D) := h.up HB0.out
  have HROW : Hid ((w.alloc (.cells #[.int .i64 6, .int .i64 a.N, .int .i64 a.F, .slice a.dp a.D.length a.dc, .slice a.ap a.A.length a.ac, .bool a.R] 39)).heap[w.heap.size]? = some (.cells #[.int .i64 6, .int .i64 a.N, .int .i64 a.F, .slice a.dp a.D.length a.dc, .slice a.ap a.A.length a.ac, .bool a.R] 39 (0, 0))) := heap_alloc_new _ _
  have HZ : Hid (w.heap.size < (w.alloc (.cells #[.int .i64 6, .int .i64 a.N, .int .i64 a.F, .slice a.dp a.D.length a.dc, .slice a.ap a.A.length a.ac, .bool a.R] 39)).heap.size) := by show _ < _; rw [size_alloc]; omega
  clear h hlt
  go_enter Tryz.func15, Tryz.ntmps15
  go_upto_region 16 with fail
  generalize w.alloc (.cells #[.int .i64 6, .int .i64 a.N, .int .i64 a.F, .slice a.dp a.D.length a.dc, .slice a.ap a.A.length a.ac, .bool a.R] 39) = W0 at *
  have HBD : Hid (Below W0.heap.size W0 W0.drew) := (Below.refl _ _).drew
  have WR := xb_write (HX0.out.up HBD.out) (by omega) (by omega) a.N
  have B1 : Hid (W0.drew.cell? ⟨w.heap.size, 1, none⟩ = some (.int .i64 a.N)) := (cell_of_row _ _ _ _ _ _ (show W0.drew.heap[w.heap.size]? = _ from HROW.out)).trans rfl
  have HG : Hid (¬ Ak s w.heap.size ∧ ¬ D w.heap.size) := ⟨fun hk => by have := HLT.out _ (.inl hk); omega, fun hk => by have := HLT.out _ (.inr hk); omega⟩
  refine wp_region_held_drew (S := (fun W => W.cell? ⟨w.heap.size, 1, none⟩ = some (.int .i64 a.N))) (by kernel_rfl) B1.out (fun hH => ?_)
  refine takeH (i := 0) (dst := some 74) (v := ?v9) rfl rfl (by kernel_rfl) (by kernel_rfl) (by kernel_rfl) (fun _ _ _ h => h) rfl ?hy9 hH rfl ?rest9
  case hy9 => (intro W hW; (try dsimp only at hW); go_simp; try with_reducible rfl)
  (try simp only [Act.put, List.setIfInBounds_toArray, List.set_cons_zero, List.set_cons_succ])
  refine takeH (i := 1) (dst := some 75) (v := ?v10) rfl rfl (by kernel_rfl) (by kernel_rfl) (by kernel_rfl) (fun _ _ _ h => h) rfl ?hy10 hH rfl ?rest10
  case hy10 => (intro W hW; (try dsimp only at hW); go_simp; try with_reducible rfl)
  (try simp only [Act.put, List.setIfInBounds_toArray, List.set_cons_zero, List.set_cons_succ])
  refine takeH (i := 2) (dst := some 76) (v := ?v11) rfl rfl (by kernel_rfl) (by kernel_rfl) (by kernel_rfl) (fun _ _ _ h => h) rfl ?hy11 hH rfl ?rest11
  case hy11 => (intro W hW; (try dsimp only at hW); go_simp; try with_reducible rfl)
  (try simp only [Act.put, List.setIfInBounds_toArray, List.set_cons_zero, List.set_cons_succ])
  refine takeH (i := 4) (dst := some 78) (v := ?v12) rfl rfl (by kernel_rfl) (by kernel_rfl) (by kernel_rfl) (fun _ _ _ h => h) rfl ?hy12 hH rfl ?rest12
  case hy12 => (intro W hW; (try dsimp only at hW); go_simp; try with_reducible rfl)
  (try simp only [Act.put, List.setIfInBounds_toArray, List.set_cons_zero, List.set_cons_succ])
  refine takeH (i := 5) (dst := some 79) (v := ?v13) rfl rfl (by kernel_rfl) (by kernel_rfl) (by kernel_rfl) (fun _ _ _ h => h) rfl ?hy13 hH rfl ?rest13
  case hy13 => (intro W hW; (try dsimp only at hW); go_simp; try with_reducible rfl)
  (try simp only [Act.put, List.setIfInBounds_toArray, List.set_cons_zero, List.set_cons_succ])
  refine takeH (i := 6) (dst := some 80) (v := ?v14) rfl rfl (by kernel_rfl) (by kernel_rfl) (by kernel_rfl) (fun _ _ _ h => h) rfl ?hy14 hH rfl ?rest14
  case hy14 => (intro W hW; (try dsimp only at hW); go_simp; try with_reducible rfl)
  (try simp only [Act.put, List.setIfInBounds_toArray, List.set_cons_zero, List.set_cons_succ])
  refine callH (i := 3) { dst := some 77, op := Go.Op.call { callee := Go.Callee.value (Go.Operand.func 26), args := #[Go.Operand.tmp 74, Go.Operand.tmp 76], argTypes := #[30, 3] }, type := 24, pos := "law.go:89", after := #[{ on := 0, ground := Go.Ground.data }, { on := 2, ground := Go.Ground.data }], guard := none } (by kernel_rfl) rfl rfl (fun K hK => ?_)
  go_simp
  refine WR.mono ?_
  clear WR
  rintro r wa ⟨e, rfl, hf1, WR2⟩
  have HF1 : Hid (Fr (Ak s) W0.drew wa) := hf1
  have B1a : Hid (wa.cell? ⟨w.heap.size, 1, none⟩ = some (.int .i64 a.N)) := (World.cell?_of_block (w := W0.drew) (a := ⟨w.heap.size, 1, none⟩) (HF1.out.blk _ HZ.out HG.out.1)).trans B1.out
  clear hf1
  clear hH
  refine hK.out _ _ B1a.out (fun hH => ?_)
  clear hK K
  (try simp only [Act.put, List.setIfInBounds_toArray, List.set_cons_zero, List.set_cons_succ])
  refine callH (i := 7) { dst := some 81, op := Go.Op.call { callee := Go.Callee.value (Go.Operand.func 55), args := #[Go.Operand.tmp 78, Go.Operand.tmp 80], argTypes := #[34, 3] }, type := 24, pos := "law.go:89", after := #[{ on := 4, ground := Go.Ground.data }, { on := 6, ground := Go.Ground.data }, { on := 3, ground := Go.Ground.chain }], guard := none } (by kernel_rfl) rfl rfl (fun K hK => ?_)
  go_simp
  refine WR2.mono ?_
  clear WR2
  rintro r wb ⟨rfl, hf2, s', D', L', hX, hc, hs⟩
  have HF2 : Hid (Fr D wa wb) := hf2
  have B1b : Hid (wb.cell? ⟨w.heap.size, 1, none⟩ = some (.int .i64 a.N)) := (World.cell?_of_block (w := wa) (a := ⟨w.heap.size, 1, none⟩) (HF2.out.blk _ (Nat.lt_of_lt_of_le HZ.out HF1.out.size) HG.out.2)).trans B1a.out
  have HD : Hid (BX N w0 wb p dp ed q s' ops (κ + 1) (m + 1) A L' D' ∧ s'.cnt = s.cnt ∧ ∀ k, Ak s' k ∨ D' k → (Ak s k ∨ D k) ∨ w.heap.size ≤ k) := ⟨hX, hc, fun k hk => (hs k hk).imp id (fun hh => Nat.le_trans (Nat.le_of_lt HZ.out) hh)⟩
  clear hf2 hX hc hs
  clear hH
  refine hK.out _ _ B1b.out (fun hH => ?_)
  clear hK K
  (try simp only [Act.put, List.setIfInBounds_toArray, List.set_cons_zero, List.set_cons_succ])
  refine takeH (i := 8) (dst := some 82) (v := ?v15) rfl rfl (by kernel_rfl) (by kernel_rfl) (by kernel_rfl) (fun _ _ _ h => h) rfl ?hy15 hH rfl ?rest15
  case hy15 => (intro W hW; (try dsimp only at hW); go_simp; try with_reducible rfl)
  (try simp only [Act.put, List.setIfInBounds_toArray, List.set_cons_zero, List.set_cons_succ])
  refine takeH (i := 9) (dst := some 6) (v := ?v16) rfl rfl (by kernel_rfl) (by kernel_rfl) (by kernel_rfl) (fun _ _ _ h => h) rfl ?hy16 hH rfl ?rest16
  case hy16 => (intro W hW; (try dsimp only at hW); go_simp; try with_reducible rfl)
  (try simp only [Act.put, List.setIfInBounds_toArray, List.set_cons_zero, List.set_cons_succ])
  refine wpAnyH_done (by kernel_rfl) ?_ _
  clear hH
  go_wp2_with fail
  go_ret
  refine ⟨by simp, ⟨s', ops, A, L', D', HD.out.1, by have := HD.out.2.1; omega, ?_, HD.out.2.2⟩⟩
  exact ((Fr.of_below HB0.out).trans (Fr.of_below HBD.out)).trans ((HF1.out.mono fun k _ hk => .inl hk).trans (HF2.out.mono fun k _ hk => .inr hk))
set_option maxHeartbeats 4000000 in
theorem do_flush (h : BX N w0 w p dp ed q s ops κ m A L D) (hκ : κ ≤ 800) (hm : 1 ≤ m) (a : Act6) :
    Calls Tryz.prog 15 #[.pointer (some ⟨p, 0, none⟩), .pointer (some ⟨q, 0, none⟩), .agg #[.int .i64 7, .int .i64 a.N, .int .i64 a.F, .slice a.dp a.D.length a.dc, .slice a.ap a.A.length a.ac, .bool a.R]] w fun e w' => e = .returned (.bool true) ∧ Did N w0 w w' p dp ed q s (κ + 1) (m + 1) D := by
  have hlt : ∀ k, Ak s k ∨ D k → k < w.heap.size := fun k hk => by
    rcases hk with hk | hk
    · exact h.gw.pm.lt hk
    · exact h.rs.ltD k hk
  have HLT : Hid (∀ k, Ak s k ∨ D k → k < w.heap.size) := hlt
  have HB0 : Hid (Below w.heap.size w (w.alloc (.cells #[.int .i64 7, .int .i64 a.N, .int .i64 a.F, .slice a.dp a.D.length a.dc, .slice a.ap a.A.length a.ac, .bool a.R] 39))) := (Below.refl _ _).alloc (Nat.le_refl _) _
  have HX0 : Hid (BX N w0 (w.alloc (.cells #[.int .i64 7, .int .i64 a.N, .int .i64 a.F, .slice a.dp a.D.length a.dc, .slice a.ap a.A.length a.ac, .bool a.R] 39)) p dp ed q s ops κ m A L D) := h.up HB0.out
  have HROW : Hid ((w.alloc (.cells #[.int .i64 7, .int .i64 a.N, .int .i64 a.F, .slice a.dp a.D.length a.dc, .slice a.ap a.A.length a.ac, .bool a.R] 39)).heap[w.heap.size]? = some (.cells #[.int .i64 7, .int .i64 a.N, .int .i64 a.F, .slice a.dp a.D.length a.dc, .slice a.ap a.A.length a.ac, .bool a.R] 39 (0, 0))) := heap_alloc_new _ _
  have HZ : Hid (w.heap.size < (w.alloc (.cells #[.int .i64 7, .int .i64 a.N, .int .i64 a.F, .slice a.dp a.D.length a.dc, .slice a.ap a.A.length a.ac, .bool a.R] 39)).heap.size) := by show _ < _; rw [size_alloc]; omega
  clear h hlt
  go_enter Tryz.func15, Tryz.ntmps15
  go_upto_region 18 with fail
  generalize w.alloc (.cells #[.int .i64 7, .int .i64 a.N, .int .i64 a.F, .slice a.dp a.D.length a.dc, .slice a.ap a.A.length a.ac, .bool a.R] 39) = W0 at *
  have FL := xb_flush HX0.out (by omega) hm
  go_wp2_with (first | (go_at_call 27; refine Hid.out ?_))
  change Calls _ _ _ _ _
  refine FL.mono ?_
  clear FL
  rintro r wa ⟨rfl, hf1, FL2⟩
  have HF1 : Hid (Fr (Ak s) W0 wa) := hf1
  clear hf1
  go_wp2_with (first | (go_at_call 56; refine Hid.out ?_))
  change Calls _ _ _ _ _
  refine FL2.mono ?_
  clear FL2
  rintro r wb ⟨rfl, hf2, s', ops', D', L', hX, hc, hs⟩
  have HF2 : Hid (Fr D wa wb) := hf2
  have HD : Hid (BX N w0 wb p dp ed q s' ops' (κ + 1) (m + 1) A L' D' ∧ s'.cnt = s.cnt ∧ ∀ k, Ak s' k ∨ D' k → (Ak s k ∨ D k) ∨ w.heap.size ≤ k) := ⟨hX.more (by omega) (by omega), hc, fun k hk => (hs k hk).imp id (fun hh => Nat.le_trans (Nat.le_of_lt HZ.out) hh)⟩
  clear hf2 hX hc hs
  go_wp2_with fail
  go_ret
  refine ⟨by simp, ⟨s', ops', A, L', D', HD.out.1, by have := HD.out.2.1; omega, ?_, HD.out.2.2⟩⟩
  exact (Fr.of_below HB0.out).trans ((HF1.out.mono fun k _ hk => .inl hk).trans (HF2.out.mono fun k _ hk => .inr hk))
set_option maxHeartbeats 4000000 in
theorem do_none (h : BX N w0 w p dp ed q s ops κ m A L D) (a : Act6) (hK : a.K < 0 ∨ 7 < a.K) :
    Calls Tryz.prog 15 #[.pointer (some ⟨p, 0, none⟩), .pointer (some ⟨q, 0, none⟩), .agg #[.int .i64 a.K, .int .i64 a.N, .int .i64 a.F, .slice a.dp a.D.length a.dc, .slice a.ap a.A.length a.ac, .bool a.R]] w fun e w' => e = .returned (.bool true) ∧ Did N w0 w w' p dp ed q s (κ + 1) (m + 1) D := by
  have hlt : ∀ k, Ak s k ∨ D k → k < w.heap.size := fun k hk => by
    rcases hk with hk | hk
    · exact h.gw.pm.lt hk
    · exact h.rs.ltD k hk
  have HLT : Hid (∀ k, Ak s k ∨ D k → k < w.heap.size) := hlt
  have HB0 : Hid (Below w.heap.size w (w.alloc (.cells #[.int .i64 a.K, .int .i64 a.N, .int .i64 a.F, .slice a.dp a.D.length a.dc, .slice a.ap a.A.length a.ac, .bool a.R] 39))) := (Below.refl _ _).alloc (Nat.le_refl _) _
  have HX0 : Hid (BX N w0 (w.alloc (.cells #[.int .i64 a.K, .int .i64 a.N, .int .i64 a.F, .slice a.dp a.D.length a.dc, .slice a.ap a.A.length a.ac, .bool a.R] 39)) p dp ed q s ops κ m A L D) := h.up HB0.out
  have HROW : Hid ((w.alloc (.cells #[.int .i64 a.K, .int .i64 a.N, .int .i64 a.F, .slice a.dp a.D.length a.dc, .slice a.ap a.A.length a.ac, .bool a.R] 39)).heap[w.heap.size]? = some (.cells #[.int .i64 a.K, .int .i64 a.N, .int .i64 a.F, .slice a.dp a.D.length a.dc, .slice a.ap a.A.length a.ac, .bool a.R] 39 (0, 0))) := heap_alloc_new _ _
  have HZ : Hid (w.heap.size < (w.alloc (.cells #[.int .i64 a.K, .int .i64 a.N, .int .i64 a.F, .slice a.dp a.D.length a.dc, .slice a.ap a.A.length a.ac, .bool a.R] 39)).heap.size) := by show _ < _; rw [size_alloc]; omega
  clear h hlt
  have k0 : ¬ a.K = 0 := by omega
  have k1 : ¬ a.K = 1 := by omega
  have k2 : ¬ a.K = 2 := by omega
  have k3 : ¬ a.K = 3 := by omega
  have k4 : ¬ a.K = 4 := by omega
  have k5 : ¬ a.K = 5 := by omega
  have k6 : ¬ a.K = 6 := by omega
  have k7 : ¬ a.K = 7 := by omega
  clear hK
  go_enter Tryz.func15, Tryz.ntmps15
  go_wp2
  go_ret
  exact ⟨rfl, ⟨s, ops, A, L, D, HX0.out.more (by omega) (by omega), by omega, Fr.of_below HB0.out, fun k hk => .inl hk⟩⟩
end
end Go.Proofs.YthaogbbclocmaaaGreat
/- leveelaw11.do: a change. -/
namespace Go.Proofs.YthaogbbclocmaaaGreat
open Go.RowKit
set_option maxRecDepth 100000
theorem blk_pre {w : World} {g : Nat} {l : List UInt8} (h : Blk w g 5 (l ++ a5)) : Src w (some ⟨g, 0, none⟩) l := by
  have := h.src.pre l.length
  rw [List.take_left' rfl] at this
  exact this
theorem spB_blk {w : World} {g : Nat} {l : List UInt8} (h : Blk w g 5 (l ++ a5)) : SpB w (.slice (some ⟨g, 0, none⟩) l.length (l.length + 8)) l.length :=
  .inr ⟨g, l.length + 8, 5, (bvs (l ++ a5)).toArray, rfl, h, fun j hj => ⟨l[j], by rw [List.getElem?_toArray]; unfold bvs; rw [List.map_append, List.getElem?_append_left (by simpa using hj)]; simp [hj]⟩⟩
section
variable {N : Nat} {w0 w w' : World} {p dp ed q : Nat} {s s' : PSt} {ops ops' : Nat → List Int} {κ m : Nat} {A : Nat → List Int} {L : List RCh} {D : Nat → Prop}
set_option maxHeartbeats 16000000 in
theorem do_patch (h : BX N w0 w p dp ed q s ops κ m A L D) (hκ : κ ≤ 800) (a : Act6) (hok : a.Ok w0) (harg : Arg w0 a.dp a.dc a.D) (hA : a.A.length ≤ 20) (hK : 0 ≤ a.K ∧ a.K ≤ 4) :
    Calls Tryz.prog 15 #[.pointer (some ⟨p, 0, none⟩), .pointer (some ⟨q, 0, none⟩), .agg #[.int .i64 a.K, .int .i64 a.N, .int .i64 a.F, .slice a.dp a.D.length a.dc, .slice a.ap a.A.length a.ac, .bool a.R]] w fun e w' => e = .returned (.bool true) ∧ Did N w0 w w' p dp ed q s (κ + 1) (m + 1) D := by
  have hlt : ∀ k, Ak s k ∨ D k → k < w.heap.size := fun k hk => by
    rcases hk with hk | hk
    · exact h.gw.pm.lt hk
    · exact h.rs.ltD k hk
  have HLT : Hid (∀ k, Ak s k ∨ D k → k < w.heap.size ∧ w0.heap.size ≤ k) := fun k hk => ⟨hlt k hk, hk.elim (fun hk => h.gw.pm.base hk) (fun hk => h.db k hk)⟩
  have HCN : Hid (s.cnt ≤ 1000) := by show s.cnt ≤ 1000; have := h.gw.pl.bd.1; omega
  have HQ : Hid (q < w.heap.size) := h.rs.ql.2
  have HOK : Hid (a.Ok w0 ∧ Arg w0 a.dp a.dc a.D ∧ a.A.length ≤ 20) := ⟨hok, harg, hA⟩
  have HB0 : Hid (Below w.heap.size w (w.alloc (.cells #[.int .i64 a.K, .int .i64 a.N, .int .i64 a.F, .slice a.dp a.D.length a.dc, .slice a.ap a.A.length a.ac, .bool a.R] 39))) := (Below.refl _ _).alloc (Nat.le_refl _) _
  have HX0 : Hid (BX N w0 (w.alloc (.cells #[.int .i64 a.K, .int .i64 a.N, .int .i64 a.F, .slice a.dp a.D.length a.dc, .slice a.ap a.A.length a.ac, .bool a.R] 39)) p dp ed q s ops κ m A L D) := h.up HB0.out
  have HROW : Hid ((w.alloc (.cells #[.int .i64 a.K, .int .i64 a.N, .int .i64 a.F, .slice a.dp a.D.length a.dc, .slice a.ap a.A.length a.ac, .bool a.R] 39)).heap[w.heap.size]? = some (.cells #[.int .i64 a.K, .int .i64 a.N, .int .i64 a.F, .slice a.dp a.D.length a.dc, .slice a.ap a.A.length a.ac, .bool a.R] 39 (0, 0))) := heap_alloc_new _ _
  have HZ : Hid (w.heap.size < (w.alloc (.cells #[.int .i64 a.K, .int .i64 a.N, .int .i64 a.F, .slice a.dp a.D.length a.dc, .slice a.ap a.A.length a.ac, .bool a.R] 39)).heap.size) := by show _ < _; rw [size_alloc]; omega
  clear h hlt hok harg hA
  go_enter Tryz.func15, Tryz.ntmps15
  go_upto_region 1 with fail
  generalize w.alloc (.cells #[.int .i64 a.K, .int .i64 a.N, .int .i64 a.F, .slice a.dp a.D.length a.dc, .slice a.ap a.A.length a.ac, .bool a.R] 39) = W0 at *
  have b0 : W0.cell? ⟨w.heap.size, 0, none⟩ = some (.int .i64 a.K) := (cell_of_row _ _ _ _ _ _ HROW.out).trans rfl
  go_upto_if 16 with fail
  go_cut [16] (fun t wc => t = .bool true ∧ wc = W0)
  case first =>
    generalize a.K = K at *
    rcases (show K = 0 ∨ K = 1 ∨ K = 2 ∨ K = 3 ∨ K = 4 by omega) with rfl | rfl | rfl | rfl | rfl
    all_goals (go_wp2_with fail; go_meet; exact ⟨rfl, rfl⟩)
  case rest =>
    obtain ⟨rfl, hwc⟩ := hcut
    obtain rfl : W0 = wc := hwc.symm
    clear b0 hK
    have b3 : W0.cell? ⟨w.heap.size, 3, none⟩ = some (.slice a.dp a.D.length a.dc) := (cell_of_row _ _ _ _ _ _ HROW.out).trans rfl
    have LT := lent_any a.dp a.dc a.D W0 (HOK.out.2.1.below HX0.out.gw.be (Nat.le_refl _))
    go_upto_region 8 with (first | (go_at_call 64; refine LT.mono ?_; rintro r w1 ⟨g, rfl, hg1, hz1, hb1⟩; have HG1 : Hid (Blk w1 g 5 (a.D ++ a5) ∧ W0.heap.size ≤ g ∧ Below W0.heap.size W0 w1) := ⟨hg1, hz1, hb1⟩; clear hg1 hz1 hb1))
    clear LT b3
    have HBD : Hid (Below W0.heap.size W0 w1.drew) := HG1.out.2.2.trans ((Below.refl w1.heap.size w1).drew.mono HG1.out.2.2.size)
    have HX1 : Hid (BX N w0 w1.drew p dp ed q s ops κ m A L D) := HX0.out.up HBD.out
    have hrow1 : w1.drew.heap[w.heap.size]? = some (.cells #[.int .i64 a.K, .int .i64 a.N, .int .i64 a.F, .slice a.dp a.D.length a.dc, .slice a.ap a.A.length a.ac, .bool a.R] 39 (0, 0)) := (HBD.out.block _ HZ.out).trans HROW.out
    have S1 : Hid (w1.drew.cell? ⟨w.heap.size, 0, none⟩ = some (.int .i64 a.K) ∧ w1.drew.cell? ⟨w.heap.size, 1, none⟩ = some (.int .i64 a.N) ∧ w1.drew.cell? ⟨w.heap.size, 2, none⟩ = some (.int .i64 a.F) ∧ w1.drew.cell? ⟨w.heap.size, 3, none⟩ = some (.slice a.dp a.D.length a.dc) ∧ w1.drew.cell? ⟨w.heap.size, 4, none⟩ = some (.slice a.ap a.A.length a.ac) ∧ w1.drew.cell? ⟨w.heap.size, 5, none⟩ = some (.bool a.R) ∧ w1.drew.cell? ⟨q, 3, none⟩ = some (.int .i64 (s.cnt : Int))) := ⟨(cell_of_row _ _ _ _ _ _ hrow1).trans rfl, (cell_of_row _ _ _ _ _ _ hrow1).trans rfl, (cell_of_row _ _ _ _ _ _ hrow1).trans rfl, (cell_of_row _ _ _ _ _ _ hrow1).trans rfl, (cell_of_row _ _ _ _ _ _ hrow1).trans rfl, (cell_of_row _ _ _ _ _ _ hrow1).trans rfl, HX1.out.rs.c3⟩
    have AF := after_gen a w1.drew ⟨HOK.out.1.k, HOK.out.1.n, HOK.out.1.f, HOK.out.1.d.below HX1.out.gw.be (Nat.le_refl _), HOK.out.1.dl, HOK.out.1.a.below HX1.out.gw.be (Nat.le_refl _), HOK.out.1.al, HOK.out.1.ab⟩ HOK.out.2.2 (s.cnt : Int) (by have := HCN.out; omega)
    clear hrow1
    refine wp_region_held_drew (S := (fun W => W.cell? ⟨w.heap.size, 0, none⟩ = some (.int .i64 a.K) ∧ W.cell? ⟨w.heap.size, 1, none⟩ = some (.int .i64 a.N) ∧ W.cell? ⟨w.heap.size, 2, none⟩ = some (.int .i64 a.F) ∧ W.cell? ⟨w.heap.size, 3, none⟩ = some (.slice a.dp a.D.length a.dc) ∧ W.cell? ⟨w.heap.size, 4, none⟩ = some (.slice a.ap a.A.length a.ac) ∧ W.cell? ⟨w.heap.size, 5, none⟩ = some (.bool a.R) ∧ W.cell? ⟨q, 3, none⟩ = some (.int .i64 (s.cnt : Int)))) (by kernel_rfl) S1.out (fun hH => ?_)
    refine takeH (i := 0) (dst := some 25) (v := ?v1) rfl rfl (by kernel_rfl) (by kernel_rfl) (by kernel_rfl) (fun _ _ _ h => h) rfl ?hy1 hH rfl ?rest1
    case hy1 => (intro W hW; obtain ⟨e0, e1, e2, e3, e4, e5, e6⟩ := hW; go_simp; try with_reducible rfl)
    (try simp only [Act.put, List.setIfInBounds_toArray, List.set_cons_zero, List.set_cons_succ])
    refine takeH (i := 1) (dst := some 26) (v := ?v2) rfl rfl (by kernel_rfl) (by kernel_rfl) (by kernel_rfl) (fun _ _ _ h => h) rfl ?hy2 hH rfl ?rest2
    case hy2 => (intro W hW; (try dsimp only at hW); go_simp; try with_reducible rfl)
    (try simp only [Act.put, List.setIfInBounds_toArray, List.set_cons_zero, List.set_cons_succ])
    refine takeH (i := 2) (dst := some 27) (v := ?v3) rfl rfl (by kernel_rfl) (by kernel_rfl) (by kernel_rfl) (fun _ _ _ h => h) rfl ?hy3 hH rfl ?rest3
    case hy3 => (intro W hW; (try dsimp only at hW); go_simp; try with_reducible rfl)
    (try simp only [Act.put, List.setIfInBounds_toArray, List.set_cons_zero, List.set_cons_succ])
    refine takeH (i := 3) (dst := some 28) (v := ?v4) rfl rfl (by kernel_rfl) (by kernel_rfl) (by kernel_rfl) (fun _ _ _ h => h) rfl ?hy4 hH rfl ?rest4
    case hy4 => (intro W hW; (try dsimp only at hW); go_simp; try with_reducible rfl)
    (try simp only [Act.put, List.setIfInBounds_toArray, List.set_cons_zero, List.set_cons_succ])
    refine takeH (i := 4) (dst := some 29) (v := ?v5) rfl rfl (by kernel_rfl) (by kernel_rfl) (by kernel_rfl) (fun _ _ _ h => h) rfl ?hy5 hH rfl ?rest5
    case hy5 => (intro W hW; obtain ⟨e0, e1, e2, e3, e4, e5, e6⟩ := hW; go_simp; try with_reducible rfl)
    (try simp only [Act.put, List.setIfInBounds_toArray, List.set_cons_zero, List.set_cons_succ])
    refine callH (i := 5) { dst := some 30, op := Go.Op.call { callee := Go.Callee.value (Go.Operand.func 14), args := #[Go.Operand.tmp 25, Go.Operand.tmp 29], argTypes := #[39, 2] }, type := 37, pos := "law.go:82", after := #[{ on := 0, ground := Go.Ground.data }, { on := 4, ground := Go.Ground.data }], guard := none } (by kernel_rfl) rfl rfl (fun K hK => ?_)
    go_simp
    refine AF.mono ?_
    clear AF
    rintro r w2 ⟨asp, LA, aca, rfl, h2s, h2l, h2b, _, _, hb2⟩
    have H2 : Hid (SrcI w2 asp LA ∧ LA.length ≤ 20 ∧ (1 ≤ LA.length → ∀ b o, asp = some ⟨b, o, none⟩ → b < w1.drew.heap.size ∧ asp = a.ap ∧ 1 ≤ a.A.length ∨ w1.drew.heap.size ≤ b) ∧ True ∧ Below w1.drew.heap.size w1.drew w2) := ⟨h2s, h2l, h2b, trivial, hb2⟩
    have HX2 : Hid (BX N w0 w2 p dp ed q s ops κ m A L D) := HX1.out.up hb2
    have tr : ∀ o, w2.cell? ⟨w.heap.size, o, none⟩ = w1.drew.cell? ⟨w.heap.size, o, none⟩ := fun o => hb2.cell (p := ⟨w.heap.size, o, none⟩) (show w.heap.size < w1.heap.size from by have h1 := HG1.out.2.2.size; have h2 := HZ.out; omega)
    have S2 : Hid (w2.cell? ⟨w.heap.size, 0, none⟩ = some (.int .i64 a.K) ∧ w2.cell? ⟨w.heap.size, 1, none⟩ = some (.int .i64 a.N) ∧ w2.cell? ⟨w.heap.size, 2, none⟩ = some (.int .i64 a.F) ∧ w2.cell? ⟨w.heap.size, 3, none⟩ = some (.slice a.dp a.D.length a.dc) ∧ w2.cell? ⟨w.heap.size, 4, none⟩ = some (.slice a.ap a.A.length a.ac) ∧ w2.cell? ⟨w.heap.size, 5, none⟩ = some (.bool a.R) ∧ w2.cell? ⟨q, 3, none⟩ = some (.int .i64 (s.cnt : Int))) := ⟨(tr 0).trans S1.out.1, (tr 1).trans S1.out.2.1, (tr 2).trans S1.out.2.2.1, (tr 3).trans S1.out.2.2.2.1, (tr 4).trans S1.out.2.2.2.2.1, (tr 5).trans S1.out.2.2.2.2.2.1, HX2.out.rs.c3⟩
    clear h2s h2l h2b hb2 tr
    clear hH
    refine hK.out _ _ S2.out (fun hH => ?_)
    clear hK K
    (try simp only [Act.put, List.setIfInBounds_toArray, List.set_cons_zero, List.set_cons_succ])
    refine takeH (i := 6) (dst := some 8) (v := ?v6) rfl rfl (by kernel_rfl) (by kernel_rfl) (by kernel_rfl) (fun _ _ _ h => h) rfl ?hy6 hH rfl ?rest6
    case hy6 => (intro W hW; (try dsimp only at hW); go_simp; try with_reducible rfl)
    (try simp only [Act.put, List.setIfInBounds_toArray, List.set_cons_zero, List.set_cons_succ])
    refine wpAnyH_done (by kernel_rfl) ?_ _
    clear hH
    have hg2 : Hid (g < w1.heap.size) := (Array.getElem?_eq_some_iff.1 HG1.out.1).1
    have HG2 : Hid (Blk w2 g 5 (a.D ++ a5)) := (H2.out.2.2.2.2.block g hg2.out).trans HG1.out.1
    have HN : Hid (¬ Ak s w.heap.size ∧ ¬ D w.heap.size ∧ ¬ Ak s g ∧ ¬ D g) := ⟨fun hk => by have := (HLT.out _ (.inl hk)).1; omega, fun hk => by have := (HLT.out _ (.inr hk)).1; omega, fun hk => by have := (HLT.out _ (.inl hk)).1; have := HG1.out.2.1; have := HZ.out; omega, fun hk => by have := (HLT.out _ (.inr hk)).1; have := HG1.out.2.1; have := HZ.out; omega⟩
    have HSZ : Hid (w.heap.size < w1.heap.size ∧ w1.heap.size ≤ w2.heap.size) := ⟨by have h1 := HG1.out.2.2.size; have h2 := HZ.out; show w.heap.size < w1.heap.size; omega, H2.out.2.2.2.2.size⟩
    have PT := xb_patch2 HX2.out (by omega) a.N a.F HOK.out.1.f a.D (some ⟨g, 0, none⟩) (a.D.length + 8) (blk_pre HG2.out) HOK.out.1.dl (fun _ b o e => by
      cases e
      exact ⟨HN.out.2.2.1, HN.out.2.2.2, Nat.lt_of_lt_of_le hg2.out HSZ.out.2⟩) LA asp aca H2.out.1 (fun h1 b o e => by
      have hb2 := H2.out.1.lt' h1 e
      rcases H2.out.2.2.1 h1 b o e with ⟨_, e2, h2⟩ | h2
      · have hb0 := HOK.out.1.a.lt' h2 (e2.symm.trans e)
        exact ⟨fun hk => by have := (HLT.out _ (.inl hk)).2; omega, fun hk => by have := (HLT.out _ (.inr hk)).2; omega, hb2⟩
      · have h3 : w1.heap.size ≤ b := h2
        have h4 := HSZ.out
        exact ⟨fun hk => by have := (HLT.out _ (.inl hk)).1; omega, fun hk => by have := (HLT.out _ (.inr hk)).1; omega, hb2⟩) (by have := H2.out.2.1; omega) a.dp a.dc (HOK.out.2.1.src.below HX2.out.gw.be (Nat.le_refl _)) (fun h1 b o e => by
      obtain ⟨b', o', e', hb, _⟩ := HOK.out.2.1.src.at' h1
      rw [e'] at e
      cases e
      exact ⟨fun hk => by have := (HLT.out _ (.inl hk)).2; omega, fun hk => by have := (HLT.out _ (.inr hk)).2; omega, by have := HX2.out.gw.be.size; omega⟩)
    have b1 := S2.out.2.1
    have b2 := S2.out.2.2.1
    go_wp2_with (first | (go_at_call 28; refine Hid.out ?_))
    change Calls _ _ _ _ _
    refine PT.mono ?_
    clear PT b1 b2
    rintro r w3 ⟨id, er, rfl, hf3, PD⟩
    have HF3 : Hid (Fr (Ak s) w2 w3) := hf3
    have R3 : Hid (∀ o, w3.cell? ⟨w.heap.size, o, none⟩ = w2.cell? ⟨w.heap.size, o, none⟩) := fun o => World.cell?_of_block (w := w2) (a := ⟨w.heap.size, o, none⟩) (HF3.out.blk _ (show w.heap.size < w2.heap.size by have := HSZ.out; omega) HN.out.1)
    have b1 := (R3.out 1).trans S2.out.2.1
    have b2 := (R3.out 2).trans S2.out.2.2.1
    have b3 := (R3.out 3).trans S2.out.2.2.2.1
    clear hf3
    go_wp2_with (first | (go_at_call 65; refine Hid.out ?_))
    change Calls _ _ _ _ _
    refine PD.mono ?_
    clear PD b1 b2 b3
    rintro r w4 ⟨rfl, hf4, s4, ops4, D4, L4, A4, hX4, hc4, hs4⟩
    have HF4 : Hid (Fr D w3 w4) := hf4
    have H4 : Hid (BX N w0 w4 p dp ed q s4 ops4 (κ + 1) m A4 L4 D4 ∧ s4.cnt ≤ s.cnt + 1 ∧ ∀ k, Ak s4 k ∨ D4 k → (Ak s k ∨ D k) ∨ w2.heap.size ≤ k) := ⟨hX4, hc4, hs4⟩
    have b3 : w4.cell? ⟨w.heap.size, 3, none⟩ = some (.slice a.dp a.D.length a.dc) := (World.cell?_of_block (w := w3) (a := ⟨w.heap.size, 3, none⟩) (HF4.out.blk _ (show w.heap.size < w3.heap.size by have := HSZ.out; have := HF3.out.size; omega) HN.out.2.1)).trans ((R3.out 3).trans S2.out.2.2.2.1)
    have HG4 : Hid (Blk w4 g 5 (a.D ++ a5)) := (HF4.out.blk g (by have := HSZ.out; have := hg2.out; have := HF3.out.size; omega) HN.out.2.2.2).trans ((HF3.out.blk g (by have := HSZ.out; have := hg2.out; omega) HN.out.2.2.1).trans HG2.out)
    have KP := kept_any g a.dp a.dc a.D w4 HG4.out (HOK.out.2.1.below hX4.gw.be (Nat.le_refl _))
    clear hf4 hX4 hc4 hs4
    go_wp2_with (first | (go_at_call 66; refine Hid.out ?_))
    change Calls _ _ _ _ _
    refine KP.mono ?_
    clear KP b3
    rintro r w5 ⟨rfl, hb5⟩
    have HB5 : Hid (Below w4.heap.size w4 w5) := hb5
    have SP := spoilX_any (spB_blk (w := w5) (g := g) (l := a.D) ((HB5.out.block g (Array.getElem?_eq_some_iff.1 HG4.out).1).trans HG4.out)) HOK.out.2.1.len.2.2
    clear hb5
    go_wp2_with (first | (go_at_call 67; refine Hid.out ?_))
    change Calls _ _ _ _ _
    refine SP.mono ?_
    clear SP
    rintro r w6 ⟨rfl, hf6⟩
    have HF6 : Hid (Fr (fun k => k = g) w5 w6) := hf6.mono fun k _ e => by cases e; rfl
    clear hf6
    go_wp2_with fail
    go_ret
    have hgz : w.heap.size ≤ g := by have := HG1.out.2.1; have := HZ.out; omega
    have hw0 : w0.heap.size ≤ w.heap.size := by have h3 := HLT.out q (.inr HX0.out.rs.ql.1); omega
    refine ⟨by simp, ⟨s4, ops4, A4, L4, D4, ((H4.out.1.up HB5.out).keep HF6.out (fun k hk e => by
      subst e
      have h1 := HN.out
      have h2 := HSZ.out
      have h3 := hg2.out
      rcases H4.out.2.2 _ hk with (h | h) | h
      · exact h1.2.2.1 h
      · exact h1.2.2.2 h
      · omega) (fun k e => by rw [e]; omega)).more (by omega) (by omega), H4.out.2.1, ?_, fun k hk => (H4.out.2.2 k hk).imp (fun x => x) (fun hh => by have := HSZ.out; omega)⟩⟩
    have hF5 : Fr (fun k => Ak s k ∨ D k) w w5 := ((Fr.of_below HB0.out).trans (Fr.of_below HBD.out)).trans ((Fr.of_below H2.out.2.2.2.2).trans (((HF3.out.mono fun k _ hk => .inl hk).trans (HF4.out.mono fun k _ hk => .inr hk)).trans (Fr.of_below HB5.out)))
    exact ⟨Nat.le_trans hF5.size HF6.out.size, fun k hk hS => (HF6.out.blk k (Nat.lt_of_lt_of_le hk hF5.size) (fun e => by omega)).trans (hF5.blk k hk hS), HF6.out.os.trans hF5.os, HF6.out.tape.trans hF5.tape, HF6.out.output.trans hF5.output⟩
/-- A call of both. -/
theorem do_any (h : BX N w0 w p dp ed q s ops κ m A L D) (hκ : κ ≤ 800) (hm : 1 ≤ m ∧ m ≤ 800) (a : Act6) (hok : a.Ok w0) (harg : Arg w0 a.dp a.dc a.D) (hA : a.A.length ≤ 20) :
    Calls Tryz.prog 15 #[.pointer (some ⟨p, 0, none⟩), .pointer (some ⟨q, 0, none⟩), .agg #[.int .i64 a.K, .int .i64 a.N, .int .i64 a.F, .slice a.dp a.D.length a.dc, .slice a.ap a.A.length a.ac, .bool a.R]] w fun e w' => e = .returned (.bool true) ∧ Did N w0 w w' p dp ed q s (κ + 1) (m + 1) D := by
  by_cases h04 : 0 ≤ a.K ∧ a.K ≤ 4
  · exact do_patch h hκ a hok harg hA h04
  · by_cases h5 : a.K = 5
    · rw [h5]; exact do_write5 h hκ hm.2 a
    · by_cases h6 : a.K = 6
      · rw [h6]; exact do_write6 h hκ hm.2 a
      · by_cases h7 : a.K = 7
        · rw [h7]; exact do_flush h hκ hm.1 a
        · exact do_none h a (by omega)
end
end Go.Proofs.YthaogbbclocmaaaGreat
/- leveelaw12.open: both stores. -/
namespace Go.Proofs.YthaogbbclocmaaaGreat
open Go.RowKit
set_option maxRecDepth 100000
set_option maxHeartbeats 2000000 in
theorem popn_any2 {w : World} {base : Nat} {dp dn dq : Nat} {en : Bool} {lf : Int} {sf : Nat → List UInt8} {ws : Nat → List (List UInt8)} {vs : Nat → Value} (h : DiskAt w base dp dn en lf sf ws dq vs) (most : Nat) (h1 : 1 ≤ most) (h2 : most ≤ 4096) :
    Calls Tryz.prog 11 #[.pointer (some ⟨dp, 0, none⟩), .int .i64 (most : Int)] w fun r w' => ∃ p cm bm cp mb, r = .returned (.tuple #[.pointer (some ⟨p, 0, none⟩), .int .i64 0]) ∧ PM w' base (newS p cm bm ⟨cp, mb, 0, .slice none 0 0, most, [], dp, dn, dq, en, lf, sf, ws, vs⟩) (fun _ => []) ∧ (w.heap.size ≤ p ∧ w.heap.size ≤ cm ∧ w.heap.size ≤ bm ∧ w.heap.size ≤ cp ∧ w.heap.size ≤ mb) ∧ Below w.heap.size w w' := by
  have CN := cnew_any h most h1 h2
  clear h
  go_enter Tryz.func11, Tryz.ntmps11
  go_wp2_with fail
  refine CN.mono ?_
  clear CN
  rintro r w1 ⟨cp, mb, rfl, hC, hcp, hmb, hb1⟩
  have HC : Hid (CS w1 base ⟨cp, mb, 0, .slice none 0 0, most, [], dp, dn, dq, en, lf, sf, ws, vs⟩ []) := hC
  have HB : Hid (Below w.heap.size w w1) := hb1
  have hm1 := fun w => run_makeMap (P := Tryz.prog) 121 w
  have hm2 := fun w => run_makeMap (P := Tryz.prog) 122 w
  clear hC hb1
  go_wp2
  go_ret2
  have s1 : ∀ (v : World) (o : Obj), (v.alloc o).heap.size = v.heap.size + 1 := fun v o => by show (v.heap.push o).size = _; simp
  have b0 : Below w1.heap.size w1 (w1.alloc (.map #[] 0)) := (Below.refl _ _).alloc (Nat.le_refl _) _
  have b1 : Below w1.heap.size w1 ((w1.alloc (.map #[] 0)).alloc (.map #[] 0)) := b0.alloc (by rw [s1]; omega) _
  have b2 : Below w1.heap.size w1 (((w1.alloc (.map #[] 0)).alloc (.map #[] 0)).alloc (.cells #[.pointer (some ⟨dp, 0, none⟩), .pointer (some ⟨cp, 0, none⟩), .int .i64 0, .map (some w1.heap.size), .map (some (w1.heap.size + 1))] 124)) := b1.alloc (by rw [s1, s1]; omega) _
  refine ⟨w1.heap.size + 2, w1.heap.size, w1.heap.size + 1, cp, mb, rfl, PM.made HC.out b2 ⟨by omega, by omega, by omega⟩ ⟨by omega, by omega, by omega⟩ ?_ ?_ ?_, by have := HB.out.size; omega, HB.out.trans (b2.mono HB.out.size)⟩
  · have := heap_alloc_new ((w1.alloc (.map #[] 0)).alloc (.map #[] 0)) (.cells #[.pointer (some ⟨dp, 0, none⟩), .pointer (some ⟨cp, 0, none⟩), .int .i64 0, .map (some w1.heap.size), .map (some (w1.heap.size + 1))] 124)
    rw [s1, s1] at this; exact this
  · exact ((KMap.made w1).same (Below.heap_alloc _ _ _ (by rw [s1]; omega))).same (Below.heap_alloc _ _ _ (by rw [s1, s1]; omega))
  · have := KMap.made (kt := 3) (w1.alloc (.map #[] 0))
    rw [s1] at this
    exact this.same (Below.heap_alloc _ _ _ (by rw [s1, s1]; omega))
end Go.Proofs.YthaogbbclocmaaaGreat
/- leveelaw12.lay: changes in both stores. -/
namespace Go.Proofs.YthaogbbclocmaaaGreat
open Go.RowKit
set_option maxRecDepth 100000
theorem Fr.and {S T : Nat → Prop} {a b c : World} (h : Fr S a b) (k : Fr T b c) (hT : ∀ i, i < a.heap.size → T i → S i) : Fr S a c :=
  ⟨by have := h.size; have := k.size; omega, fun j hj hS => (k.blk j (by have := h.size; omega) fun t => hS (hT j hj t)).trans (h.blk j hj hS), k.os.trans h.os, k.tape.trans h.tape, k.output.trans h.output⟩
end Go.Proofs.YthaogbbclocmaaaGreat
