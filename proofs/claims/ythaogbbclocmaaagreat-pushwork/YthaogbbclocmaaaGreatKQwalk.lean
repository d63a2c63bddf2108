/- The walk of leveelaw12.PushWork. -/
import Derived.Test.YthaogbbclocmaaaGreatJQrow10
import Derived.Test.YthaogbbclocmaaaGreatJLopen3
import Derived.Test.YthaogbbclocmaaaGreatJRdisk8
import Derived.Deep.CutBlock
import Derived.Deep.DeepCutAuto
namespace Go.Proofs.YthaogbbclocmaaaGreat
open Go.RowKit
set_option maxRecDepth 100000
/-- What is kept from call to call. -/
def QKp (w0 w : World) (p dp q a b i : Nat) : Prop := ∃ s ops A L D v vd l, BW w0 w p dp q s ops (90 + i) (31 + i) A L D ∧ WkG w w0.heap.size a v l ∧ WdG w w0.heap.size b vd l ∧ (∀ k, Wo a v k → ¬ (Ak s k ∨ D k) ∧ ¬ Wo b vd k) ∧ (∀ k, Wo b vd k → ¬ (Ak s k ∨ D k)) ∧ l.length ≤ i
/-- The same within a call. -/
def QI (w0 w : World) (p dp q a b gb : Nat) (c : Cll) (i : Nat) : Prop := ∃ s ops A L D v vd l, QW w0 w p dp q s ops (90 + i) (31 + i) A L D a b v vd l l gb c ∧ l.length ≤ i
theorem QI.down {w0 w : World} {p dp q a b gb : Nat} {c : Cll} {i : Nat} (h : QI w0 w p dp q a b gb c i) : QKp w0 w p dp q a b i := by
  obtain ⟨s, ops, A, L, D, v, vd, l, h, hl⟩ := h
  exact ⟨s, ops, A, L, D, v, vd, l, h.bw, h.wk, h.wd, h.n1, h.n2, hl⟩
theorem QKp.box {w0 w w' : World} {p dp q a b : Nat} {c : Cll} {i : Nat} (h : QKp w0 w p dp q a b i) (hb : Below w.heap.size w w') (hx : w'.heap[w.heap.size]? = some (.cells #[.int .i64 c.K, .int .i64 c.id, .int .i64 c.a, .int .i64 c.n, .int .i64 c.N] 93 (0, 0))) : QI w0 w' p dp q a b w.heap.size c i := by
  obtain ⟨s, ops, A, L, D, v, vd, l, h1, h2, h3, h4, h5, hl⟩ := h
  refine ⟨s, ops, A, L, D, v, vd, l, ⟨h1.up hb, h2.up hb, h3.up hb, h4, h5, hx, fun hk => ?_, fun hk => ?_, fun hk => ?_⟩, hl⟩
  · rcases hk with hk | hk
    · have := h1.gw.pm.lt hk; omega
    · have := h1.rs.ltD _ hk; omega
  · have := (h2.lt _ hk).2; omega
  · have := (h3.lt _ hk).2; omega
theorem bx_cells {w : World} {gb : Nat} {c : Cll} (h : w.heap[gb]? = some (.cells #[.int .i64 c.K, .int .i64 c.id, .int .i64 c.a, .int .i64 c.n, .int .i64 c.N] 93 (0, 0))) : w.cell? ⟨gb, 0, none⟩ = some (.int .i64 c.K) ∧ w.cell? ⟨gb, 1, none⟩ = some (.int .i64 c.id) ∧ w.cell? ⟨gb, 2, none⟩ = some (.int .i64 c.a) ∧ w.cell? ⟨gb, 3, none⟩ = some (.int .i64 c.n) ∧ w.cell? ⟨gb, 4, none⟩ = some (.int .i64 c.N) :=
  ⟨(cell_of_row _ _ _ _ _ _ h).trans rfl, (cell_of_row _ _ _ _ _ _ h).trans rfl, (cell_of_row _ _ _ _ _ _ h).trans rfl, (cell_of_row _ _ _ _ _ _ h).trans rfl, (cell_of_row _ _ _ _ _ _ h).trans rfl⟩
set_option maxHeartbeats 16000000 in
theorem pushWork_any (sp : Option Addr) (m cap : Nat) (X : Nat → Chg) (sp2 : Option Addr) (m2 cap2 : Nat) (Y : Nat → Cll) (w : World) (h1 : m ≤ cap ∧ (cap : Int) ≤ 9223372036854775807 ∧ ChgsAt w sp m X) (h2 : m2 ≤ cap2 ∧ (cap2 : Int) ≤ 9223372036854775807 ∧ CllsAt w sp2 m2 Y) :
    Calls Tryz.prog 8 #[.slice sp m cap, .slice sp2 m2 cap2] w fun e w' => e = .returned (.bool true) ∧ Below w.heap.size w w' := by
  obtain ⟨hm1, hm2, hA⟩ := h1
  obtain ⟨hn1, hn2, hY⟩ := h2
  have OP := open12b_any w
  have HAA : Hid (ChgsAt w sp m X ∧ CllsAt w sp2 m2 Y) := ⟨hA, hY⟩
  have HM0 : Hid (m ≤ cap ∧ (cap : Int) ≤ 9223372036854775807) := ⟨hm1, hm2⟩
  have hm2' : (m2 : Int) ≤ 9223372036854775807 := by omega
  clear hA hm1 hm2 hY
  go_enter Tryz.func8, Tryz.ntmps8
  go_wp2_with fail
  refine OP.mono ?_
  clear OP
  rintro r w1 ⟨p, dp, q, s0, D0, rfl, hc0, hB0⟩
  have NW := wgnew_any w1
  go_wp2_with (first | (go_at_call 47; refine Hid.out ?_))
  change Calls _ _ _ _ _
  refine NW.mono ?_
  clear NW
  rintro r w2 ⟨rfl, hW2, hb2⟩
  obtain ⟨a, ha⟩ : ∃ a, w1.heap.size = a := ⟨_, rfl⟩
  have HA2 : Hid (w1.heap.size = a ∧ BW w w1 p dp q s0 (fun _ => []) 0 1 (fun _ => []) [] D0 ∧ WkG w2 w1.heap.size w1.heap.size (.slice none 0 0) []) := ⟨ha, hB0, hW2⟩
  have LY := blay_fr sp m cap X HAA.out.1 HM0.out.1 HM0.out.2 (hB0.up hb2) hc0
  have HZ2 : Hid (w1.heap.size < w2.heap.size ∧ Below w1.heap.size w1 w2) := ⟨hW2.ql, hb2⟩
  rw [ha]
  clear hB0 hc0 ha hW2 hb2
  go_wp2_with (first | (go_at_call 36; refine Hid.out ?_))
  change Calls _ _ _ _ _
  refine LY.mono ?_
  clear LY
  rintro r w3 ⟨rfl, s, ops, A, L0, D, hB, hcnt, hLf⟩
  have HQ3 : Hid (QKp w (w3.alloc (.cells #[.slice none 0 0] 89)) p dp q a w3.heap.size 0) := by
    obtain ⟨ha, hB0, hW2⟩ := HA2.out
    subst ha
    have hb4 : Below w3.heap.size w3 (w3.alloc (.cells #[.slice none 0 0] 89)) := (Below.refl _ _).alloc (Nat.le_refl _) _
    have hwz := hB0.gw.be.size
    have na : ∀ k, Wo w1.heap.size (.slice none 0 0) k → k = w1.heap.size := fun k hk => by
      rcases hk with hk | hk
      · exact hk
      · cases hk
    have nb : ∀ k, Wo w3.heap.size (.slice none 0 0) k → k = w3.heap.size := fun k hk => by
      rcases hk with hk | hk
      · exact hk
      · cases hk
    have old : ∀ k, Ak s0 k ∨ D0 k → k < w1.heap.size := fun k hk => by
      rcases hk with hk | hk
      · exact hB0.gw.pm.lt hk
      · exact hB0.rs.ltD k hk
    have nA : ∀ k, Ak s k ∨ D k → k ≠ w1.heap.size := fun k hk e => by
      rcases hLf.sub k hk with h1 | h1
      · have := old k h1; omega
      · have := HZ2.out.1; omega
    have lt3 : ∀ k, Ak s k ∨ D k → k < w3.heap.size := fun k hk => by
      rcases hk with hk | hk
      · exact hB.gw.pm.lt hk
      · exact hB.rs.ltD k hk
    have hz3 := hLf.fr.size
    have hW3 : WkG w3 w1.heap.size w1.heap.size (.slice none 0 0) [] := hW2.fr hLf.fr fun k hk h1 => by have h2 := na k hk; have h3 := old k h1; omega
    have hW4 := hW3.up hb4
    refine ⟨s, ops, A, L0, D, .slice none 0 0, .slice none 0 0, [], (hB.up hb4), ⟨hW4.at', .inl (World.ownsRow_nil _ _ _ _), hW4.ne, by omega, hW4.ok⟩, ⟨heap_alloc_new _ _, World.ownsRow_nil _ _ _ _, (fun e => by cases e), by have := HZ2.out.1; omega⟩, fun k hk => ⟨fun h1 => nA k h1 (na k hk), fun h1 => ?_⟩, fun k hk h1 => ?_, Nat.le_refl _⟩
    · have h2 := na k hk
      have h3 := nb k h1
      have := HZ2.out.1
      omega
    · have h3 := nb k hk
      have := lt3 k h1
      omega
  clear hB hcnt hLf HA2 HZ2
  go_upto_region 6 with fail
  generalize w3.alloc (.cells #[.slice none 0 0] 89) = W4 at *
  obtain ⟨b, hb⟩ : ∃ b, w3.heap.size = b := ⟨_, rfl⟩
  rw [hb] at HQ3 ⊢
  clear hb
  go_wp2_with fail
  go_loopg [11, 12, 13, 14, 15] 40 (fun gg t11 _ _ _ _ W => ∃ (gw : World) (i : Nat), gw = W ∧ t11 = .int .i64 i ∧ i ≤ 40 ∧ 40 - i ≤ gg ∧ Hid (QKp w gw p dp q a b i))
  case atStart => exact ⟨_, 0, rfl, rfl, by omega, by omega, HQ3.out⟩
  case round =>
    obtain ⟨gw, i, rfl, rfl, hi40, hgi, HB⟩ := hrel
    clear HQ3
    by_cases hlt : (i : Int) < (m2 : Int)
    · by_cases hi4 : (i : Int) < 40
      · obtain ⟨yb, yo, hsp, hbl, hYk⟩ := HAA.out.2 (by omega)
        obtain ⟨hat, hok⟩ := hYk i (by omega)
        subst hsp
        obtain ⟨c, hc⟩ : ∃ c, Y i = c := ⟨_, rfl⟩
        rw [hc] at hat hok
        have HOK : Hid c.ok := hok
        have HBE : Hid (Below w.heap.size w gw) := by
          obtain ⟨s, ops, A, L, D, v, vd, l, h1, _⟩ := HB.out
          exact h1.gw.be
        have cl : ∀ j u, w.cell? ⟨yb, yo + i * 5 + j, none⟩ = some u → gw.cell? ⟨yb, yo + i * 5 + j, none⟩ = some u := fun j u hj => (HBE.out.cell (p := ⟨yb, yo + i * 5 + j, none⟩) hbl).trans hj
        unfold Cll.at' at hat
        simp only [addr_add] at hat
        have x0 := cl 0 _ hat.1
        have x1 := cl 1 _ hat.2.1
        have x2 := cl 2 _ hat.2.2.1
        have x3 := cl 3 _ hat.2.2.2.1
        have x4 := cl 4 _ hat.2.2.2.2
        rw [Nat.add_zero] at x0
        clear cl hat hok hYk hc
        go_upto_region 10 with fail
        have HQ5 : Hid (QI w (gw.alloc (.cells #[.int .i64 c.K, .int .i64 c.id, .int .i64 c.a, .int .i64 c.n, .int .i64 c.N] 93)) p dp q a b gw.heap.size c i) := HB.out.box ((Below.refl _ _).alloc (Nat.le_refl _) _) (heap_alloc_new _ _)
        clear x0 x1 x2 x3 x4 HB
        generalize gw.alloc (.cells #[.int .i64 c.K, .int .i64 c.id, .int .i64 c.a, .int .i64 c.n, .int .i64 c.N] 93) = W5 at *
        have k0 : W5.cell? ⟨gw.heap.size, 0, none⟩ = some (.int .i64 c.K) := by
          obtain ⟨s, ops, A, L, D, v, vd, l, h1, _⟩ := HQ5.out
          exact (bx_cells h1.bx).1
        go_upto_block 2 with fail
        clear k0
        go_cut [] (fun wc => ∃ w6 : World, w6 = wc ∧ Hid (QI w w6 p dp q a b gw.heap.size c (i + 1)))
        case first =>
          obtain ⟨s, ops, A, L, D, v, vd, l, hQ, hl⟩ := HQ5.out
          have HQ : Hid (QW w W5 p dp q s ops (90 + i) (31 + i) A L D a b v vd l l gw.heap.size c) := hQ
          have HLL : Hid (l.length ≤ i ∧ i < 40) := ⟨hl, by omega⟩
          have hi900 : 90 + i ≤ 900 ∧ 31 + i ≤ 900 := by omega
          clear HQ5 hQ hl
          by_cases hK0 : c.K = 0 ∨ c.K = 1 ∨ c.K = 2 ∨ c.K = 3
          · rcases hK0 with hK | hK | hK | hK
            · go_upto_region 15 with fail
              have HQD : Hid (QW w W5.drew p dp q s ops (90 + i) (31 + i) A L D a b v vd l l gw.heap.size c) := HQ.out.up (Below.refl _ _).drew
              have HB0 : Hid (W5.drew.heap[gw.heap.size]? = some (.cells #[.int .i64 c.K, .int .i64 c.id, .int .i64 c.a, .int .i64 c.n, .int .i64 c.N] 93 (0, 0))) := HQD.out.bx
              have GV := given12_any W5.drew c.a c.n
              clear hK HQ
              refine wp_region_held_drew (S := (fun W => W.heap[gw.heap.size]? = some (.cells #[.int .i64 c.K, .int .i64 c.id, .int .i64 c.a, .int .i64 c.n, .int .i64 c.N] 93 (0, 0)))) (by kernel_rfl) HB0.out (fun hH => ?_)
              refine takeH (i := 0) (dst := some 59) (v := ?v1) rfl rfl (by kernel_rfl) (by kernel_rfl) (by kernel_rfl) (fun _ _ _ h => h) rfl ?hy1 hH rfl ?rest1
              case hy1 => (intro W hW; (try dsimp only at hW); go_simp; try with_reducible rfl)
              (try simp only [Act.put, List.setIfInBounds_toArray, List.set_cons_zero, List.set_cons_succ])
              refine takeH (i := 1) (dst := some 60) (v := ?v2) rfl rfl (by kernel_rfl) (by kernel_rfl) (by kernel_rfl) (fun _ _ _ h => h) rfl ?hy2 hH rfl ?rest2
              case hy2 => (intro W hW; (try dsimp only at hW); go_simp; try with_reducible rfl)
              (try simp only [Act.put, List.setIfInBounds_toArray, List.set_cons_zero, List.set_cons_succ])
              refine takeH (i := 2) (dst := some 61) (v := ?v3) rfl rfl (by kernel_rfl) (by kernel_rfl) (by kernel_rfl) (fun _ _ _ h => h) rfl ?hy3 hH rfl ?rest3
              case hy3 => (intro W hW; obtain ⟨_, kc1, kc2, kc3, kc4⟩ := bx_cells hW; clear hW; go_simp; try with_reducible rfl)
              (try simp only [Act.put, List.setIfInBounds_toArray, List.set_cons_zero, List.set_cons_succ])
              refine takeH (i := 3) (dst := some 62) (v := ?v4) rfl rfl (by kernel_rfl) (by kernel_rfl) (by kernel_rfl) (fun _ _ _ h => h) rfl ?hy4 hH rfl ?rest4
              case hy4 => (intro W hW; (try dsimp only at hW); go_simp; try with_reducible rfl)
              (try simp only [Act.put, List.setIfInBounds_toArray, List.set_cons_zero, List.set_cons_succ])
              refine takeH (i := 4) (dst := some 63) (v := ?v5) rfl rfl (by kernel_rfl) (by kernel_rfl) (by kernel_rfl) (fun _ _ _ h => h) rfl ?hy5 hH rfl ?rest5
              case hy5 => (intro W hW; obtain ⟨_, kc1, kc2, kc3, kc4⟩ := bx_cells hW; clear hW; go_simp; try with_reducible rfl)
              (try simp only [Act.put, List.setIfInBounds_toArray, List.set_cons_zero, List.set_cons_succ])
              refine takeH (i := 7) (dst := some 66) (v := ?v6) rfl rfl (by kernel_rfl) (by kernel_rfl) (by kernel_rfl) (fun _ _ _ h => h) rfl ?hy6 hH rfl ?rest6
              case hy6 => (intro W hW; (try dsimp only at hW); go_simp; try with_reducible rfl)
              (try simp only [Act.put, List.setIfInBounds_toArray, List.set_cons_zero, List.set_cons_succ])
              refine takeH (i := 8) (dst := some 67) (v := ?v7) rfl rfl (by kernel_rfl) (by kernel_rfl) (by kernel_rfl) (fun _ _ _ h => h) rfl ?hy7 hH rfl ?rest7
              case hy7 => (intro W hW; (try dsimp only at hW); go_simp; try with_reducible rfl)
              (try simp only [Act.put, List.setIfInBounds_toArray, List.set_cons_zero, List.set_cons_succ])
              refine takeH (i := 9) (dst := some 68) (v := ?v8) rfl rfl (by kernel_rfl) (by kernel_rfl) (by kernel_rfl) (fun _ _ _ h => h) rfl ?hy8 hH rfl ?rest8
              case hy8 => (intro W hW; obtain ⟨_, kc1, kc2, kc3, kc4⟩ := bx_cells hW; clear hW; go_simp; try with_reducible rfl)
              (try simp only [Act.put, List.setIfInBounds_toArray, List.set_cons_zero, List.set_cons_succ])
              refine takeH (i := 10) (dst := some 69) (v := ?v9) rfl rfl (by kernel_rfl) (by kernel_rfl) (by kernel_rfl) (fun _ _ _ h => h) rfl ?hy9 hH rfl ?rest9
              case hy9 => (intro W hW; (try dsimp only at hW); go_simp; try with_reducible rfl)
              (try simp only [Act.put, List.setIfInBounds_toArray, List.set_cons_zero, List.set_cons_succ])
              refine takeH (i := 11) (dst := some 70) (v := ?v10) rfl rfl (by kernel_rfl) (by kernel_rfl) (by kernel_rfl) (fun _ _ _ h => h) rfl ?hy10 hH rfl ?rest10
              case hy10 => (intro W hW; obtain ⟨_, kc1, kc2, kc3, kc4⟩ := bx_cells hW; clear hW; go_simp; try with_reducible rfl)
              (try simp only [Act.put, List.setIfInBounds_toArray, List.set_cons_zero, List.set_cons_succ])
              refine callH (i := 5) { dst := some 64, op := Go.Op.call { callee := Go.Callee.value (Go.Operand.func 49), args := #[Go.Operand.tmp 63], argTypes := #[91] }, type := 95, pos := "law.go:189", after := #[{ on := 4, ground := Go.Ground.data }], guard := none } (by kernel_rfl) rfl rfl (fun K hK => ?_)
              go_simp
              refine GV.mono ?_
              clear GV
              rintro r w6 ⟨rfl, hb6⟩
              have H6 : Hid (QW w w6 p dp q s ops (90 + i) (31 + i) A L D a b v vd l l gw.heap.size c) := HQD.out.up hb6
              clear hb6 HQD
              clear hH
              refine hK.out _ _ H6.out.bx (fun hH => ?_)
              clear hK K
              (try simp only [Act.put, List.setIfInBounds_toArray, List.set_cons_zero, List.set_cons_succ])
              refine callH (i := 6) { dst := some 65, op := Go.Op.call { callee := Go.Callee.value (Go.Operand.func 48), args := #[Go.Operand.tmp 59, Go.Operand.tmp 61, Go.Operand.tmp 64], argTypes := #[84, 2, 95] }, type := 24, pos := "law.go:189", after := #[{ on := 0, ground := Go.Ground.data }, { on := 2, ground := Go.Ground.data }, { on := 5, ground := Go.Ground.data }, { on := 5, ground := Go.Ground.chain }], guard := none } (by kernel_rfl) rfl rfl (fun K hK => ?_)
              go_simp
              refine (both_later H6.out HOK.out (by have := HLL.out; omega)).mono ?_
              rintro r w7 ⟨e, rfl, hx7, LT2⟩
              have HX7 : Hid (w7.heap[gw.heap.size]? = some (.cells #[.int .i64 c.K, .int .i64 c.id, .int .i64 c.a, .int .i64 c.n, .int .i64 c.N] 93 (0, 0))) := hx7
              clear hx7 H6
              clear hH
              refine hK.out _ _ HX7.out (fun hH => ?_)
              clear hK K
              (try simp only [Act.put, List.setIfInBounds_toArray, List.set_cons_zero, List.set_cons_succ])
              refine callH (i := 12) { dst := some 71, op := Go.Op.call { callee := Go.Callee.value (Go.Operand.func 50), args := #[Go.Operand.tmp 66, Go.Operand.tmp 68, Go.Operand.tmp 70], argTypes := #[86, 2, 91] }, type := 24, pos := "law.go:189", after := #[{ on := 7, ground := Go.Ground.data }, { on := 9, ground := Go.Ground.data }, { on := 11, ground := Go.Ground.data }, { on := 6, ground := Go.Ground.chain }], guard := none } (by kernel_rfl) rfl rfl (fun K hK => ?_)
              go_simp
              refine LT2.mono ?_
              clear LT2
              rintro r w8 ⟨rfl, v', vd', l', hq8, hl8⟩
              have H8 : Hid (QW w w8 p dp q s ops (90 + i) (31 + i) A L D a b v' vd' l' l' gw.heap.size c ∧ l'.length ≤ i + 1) := ⟨hq8, by have := HLL.out; omega⟩
              clear hq8 hl8
              clear hH
              refine hK.out _ _ H8.out.1.bx (fun hH => ?_)
              clear hK K
              (try simp only [Act.put, List.setIfInBounds_toArray, List.set_cons_zero, List.set_cons_succ])
              refine takeH (i := 13) (dst := some 72) (v := .bool false) rfl rfl (by kernel_rfl) (by kernel_rfl) (by kernel_rfl) (fun _ _ _ h => h) rfl (fun W hW => by (try dsimp only at hW); go_simp) hH rfl ?_
              (try simp only [Act.put, List.setIfInBounds_toArray, List.set_cons_zero, List.set_cons_succ])
              refine wpAnyH_done (by kernel_rfl) ?_ _
              clear hH
              go_wp2_with fail
              go_meet
              exact ⟨_, rfl, s, ops, A, L, D, v', vd', l', H8.out.1.more (by omega) (by omega), H8.out.2⟩
            · go_upto_region 15 with fail
              have HQD : Hid (QW w W5.drew p dp q s ops (90 + i) (31 + i) A L D a b v vd l l gw.heap.size c) := HQ.out.up (Below.refl _ _).drew
              have HB0 : Hid (W5.drew.heap[gw.heap.size]? = some (.cells #[.int .i64 c.K, .int .i64 c.id, .int .i64 c.a, .int .i64 c.n, .int .i64 c.N] 93 (0, 0))) := HQD.out.bx
              have GV := given12_any W5.drew c.a c.n
              clear hK HQ
              refine wp_region_held_drew (S := (fun W => W.heap[gw.heap.size]? = some (.cells #[.int .i64 c.K, .int .i64 c.id, .int .i64 c.a, .int .i64 c.n, .int .i64 c.N] 93 (0, 0)))) (by kernel_rfl) HB0.out (fun hH => ?_)
              refine takeH (i := 0) (dst := some 59) (v := ?v11) rfl rfl (by kernel_rfl) (by kernel_rfl) (by kernel_rfl) (fun _ _ _ h => h) rfl ?hy11 hH rfl ?rest11
              case hy11 => (intro W hW; (try dsimp only at hW); go_simp; try with_reducible rfl)
              (try simp only [Act.put, List.setIfInBounds_toArray, List.set_cons_zero, List.set_cons_succ])
              refine takeH (i := 1) (dst := some 60) (v := ?v12) rfl rfl (by kernel_rfl) (by kernel_rfl) (by kernel_rfl) (fun _ _ _ h => h) rfl ?hy12 hH rfl ?rest12
              case hy12 => (intro W hW; (try dsimp only at hW); go_simp; try with_reducible rfl)
              (try simp only [Act.put, List.setIfInBounds_toArray, List.set_cons_zero, List.set_cons_succ])
              refine takeH (i := 2) (dst := some 61) (v := ?v13) rfl rfl (by kernel_rfl) (by kernel_rfl) (by kernel_rfl) (fun _ _ _ h => h) rfl ?hy13 hH rfl ?rest13
              case hy13 => (intro W hW; obtain ⟨_, kc1, kc2, kc3, kc4⟩ := bx_cells hW; clear hW; go_simp; try with_reducible rfl)
              (try simp only [Act.put, List.setIfInBounds_toArray, List.set_cons_zero, List.set_cons_succ])
              refine takeH (i := 3) (dst := some 62) (v := ?v14) rfl rfl (by kernel_rfl) (by kernel_rfl) (by kernel_rfl) (fun _ _ _ h => h) rfl ?hy14 hH rfl ?rest14
              case hy14 => (intro W hW; (try dsimp only at hW); go_simp; try with_reducible rfl)
              (try simp only [Act.put, List.setIfInBounds_toArray, List.set_cons_zero, List.set_cons_succ])
              refine takeH (i := 4) (dst := some 63) (v := ?v15) rfl rfl (by kernel_rfl) (by kernel_rfl) (by kernel_rfl) (fun _ _ _ h => h) rfl ?hy15 hH rfl ?rest15
              case hy15 => (intro W hW; obtain ⟨_, kc1, kc2, kc3, kc4⟩ := bx_cells hW; clear hW; go_simp; try with_reducible rfl)
              (try simp only [Act.put, List.setIfInBounds_toArray, List.set_cons_zero, List.set_cons_succ])
              refine takeH (i := 7) (dst := some 66) (v := ?v16) rfl rfl (by kernel_rfl) (by kernel_rfl) (by kernel_rfl) (fun _ _ _ h => h) rfl ?hy16 hH rfl ?rest16
              case hy16 => (intro W hW; (try dsimp only at hW); go_simp; try with_reducible rfl)
              (try simp only [Act.put, List.setIfInBounds_toArray, List.set_cons_zero, List.set_cons_succ])
              refine takeH (i := 8) (dst := some 67) (v := ?v17) rfl rfl (by kernel_rfl) (by kernel_rfl) (by kernel_rfl) (fun _ _ _ h => h) rfl ?hy17 hH rfl ?rest17
              case hy17 => (intro W hW; (try dsimp only at hW); go_simp; try with_reducible rfl)
              (try simp only [Act.put, List.setIfInBounds_toArray, List.set_cons_zero, List.set_cons_succ])
              refine takeH (i := 9) (dst := some 68) (v := ?v18) rfl rfl (by kernel_rfl) (by kernel_rfl) (by kernel_rfl) (fun _ _ _ h => h) rfl ?hy18 hH rfl ?rest18
              case hy18 => (intro W hW; obtain ⟨_, kc1, kc2, kc3, kc4⟩ := bx_cells hW; clear hW; go_simp; try with_reducible rfl)
              (try simp only [Act.put, List.setIfInBounds_toArray, List.set_cons_zero, List.set_cons_succ])
              refine takeH (i := 10) (dst := some 69) (v := ?v19) rfl rfl (by kernel_rfl) (by kernel_rfl) (by kernel_rfl) (fun _ _ _ h => h) rfl ?hy19 hH rfl ?rest19
              case hy19 => (intro W hW; (try dsimp only at hW); go_simp; try with_reducible rfl)
              (try simp only [Act.put, List.setIfInBounds_toArray, List.set_cons_zero, List.set_cons_succ])
              refine takeH (i := 11) (dst := some 70) (v := ?v20) rfl rfl (by kernel_rfl) (by kernel_rfl) (by kernel_rfl) (fun _ _ _ h => h) rfl ?hy20 hH rfl ?rest20
              case hy20 => (intro W hW; obtain ⟨_, kc1, kc2, kc3, kc4⟩ := bx_cells hW; clear hW; go_simp; try with_reducible rfl)
              (try simp only [Act.put, List.setIfInBounds_toArray, List.set_cons_zero, List.set_cons_succ])
              refine callH (i := 5) { dst := some 64, op := Go.Op.call { callee := Go.Callee.value (Go.Operand.func 49), args := #[Go.Operand.tmp 63], argTypes := #[91] }, type := 95, pos := "law.go:189", after := #[{ on := 4, ground := Go.Ground.data }], guard := none } (by kernel_rfl) rfl rfl (fun K hK => ?_)
              go_simp
              refine GV.mono ?_
              clear GV
              rintro r w6 ⟨rfl, hb6⟩
              have H6 : Hid (QW w w6 p dp q s ops (90 + i) (31 + i) A L D a b v vd l l gw.heap.size c) := HQD.out.up hb6
              clear hb6 HQD
              clear hH
              refine hK.out _ _ H6.out.bx (fun hH => ?_)
              clear hK K
              (try simp only [Act.put, List.setIfInBounds_toArray, List.set_cons_zero, List.set_cons_succ])
              refine callH (i := 6) { dst := some 65, op := Go.Op.call { callee := Go.Callee.value (Go.Operand.func 48), args := #[Go.Operand.tmp 59, Go.Operand.tmp 61, Go.Operand.tmp 64], argTypes := #[84, 2, 95] }, type := 24, pos := "law.go:189", after := #[{ on := 0, ground := Go.Ground.data }, { on := 2, ground := Go.Ground.data }, { on := 5, ground := Go.Ground.data }, { on := 5, ground := Go.Ground.chain }], guard := none } (by kernel_rfl) rfl rfl (fun K hK => ?_)
              go_simp
              refine (both_later H6.out HOK.out (by have := HLL.out; omega)).mono ?_
              rintro r w7 ⟨e, rfl, hx7, LT2⟩
              have HX7 : Hid (w7.heap[gw.heap.size]? = some (.cells #[.int .i64 c.K, .int .i64 c.id, .int .i64 c.a, .int .i64 c.n, .int .i64 c.N] 93 (0, 0))) := hx7
              clear hx7 H6
              clear hH
              refine hK.out _ _ HX7.out (fun hH => ?_)
              clear hK K
              (try simp only [Act.put, List.setIfInBounds_toArray, List.set_cons_zero, List.set_cons_succ])
              refine callH (i := 12) { dst := some 71, op := Go.Op.call { callee := Go.Callee.value (Go.Operand.func 50), args := #[Go.Operand.tmp 66, Go.Operand.tmp 68, Go.Operand.tmp 70], argTypes := #[86, 2, 91] }, type := 24, pos := "law.go:189", after := #[{ on := 7, ground := Go.Ground.data }, { on := 9, ground := Go.Ground.data }, { on := 11, ground := Go.Ground.data }, { on := 6, ground := Go.Ground.chain }], guard := none } (by kernel_rfl) rfl rfl (fun K hK => ?_)
              go_simp
              refine LT2.mono ?_
              clear LT2
              rintro r w8 ⟨rfl, v', vd', l', hq8, hl8⟩
              have H8 : Hid (QW w w8 p dp q s ops (90 + i) (31 + i) A L D a b v' vd' l' l' gw.heap.size c ∧ l'.length ≤ i + 1) := ⟨hq8, by have := HLL.out; omega⟩
              clear hq8 hl8
              clear hH
              refine hK.out _ _ H8.out.1.bx (fun hH => ?_)
              clear hK K
              (try simp only [Act.put, List.setIfInBounds_toArray, List.set_cons_zero, List.set_cons_succ])
              refine takeH (i := 13) (dst := some 72) (v := .bool false) rfl rfl (by kernel_rfl) (by kernel_rfl) (by kernel_rfl) (fun _ _ _ h => h) rfl (fun W hW => by (try dsimp only at hW); go_simp) hH rfl ?_
              (try simp only [Act.put, List.setIfInBounds_toArray, List.set_cons_zero, List.set_cons_succ])
              refine wpAnyH_done (by kernel_rfl) ?_ _
              clear hH
              go_wp2_with fail
              go_meet
              exact ⟨_, rfl, s, ops, A, L, D, v', vd', l', H8.out.1.more (by omega) (by omega), H8.out.2⟩
            · go_upto_region 15 with fail
              have HQD : Hid (QW w W5.drew p dp q s ops (90 + i) (31 + i) A L D a b v vd l l gw.heap.size c) := HQ.out.up (Below.refl _ _).drew
              have HB0 : Hid (W5.drew.heap[gw.heap.size]? = some (.cells #[.int .i64 c.K, .int .i64 c.id, .int .i64 c.a, .int .i64 c.n, .int .i64 c.N] 93 (0, 0))) := HQD.out.bx
              have GV := given12_any W5.drew c.a c.n
              clear hK HQ
              refine wp_region_held_drew (S := (fun W => W.heap[gw.heap.size]? = some (.cells #[.int .i64 c.K, .int .i64 c.id, .int .i64 c.a, .int .i64 c.n, .int .i64 c.N] 93 (0, 0)))) (by kernel_rfl) HB0.out (fun hH => ?_)
              refine takeH (i := 0) (dst := some 59) (v := ?v21) rfl rfl (by kernel_rfl) (by kernel_rfl) (by kernel_rfl) (fun _ _ _ h => h) rfl ?hy21 hH rfl ?rest21
              case hy21 => (intro W hW; (try dsimp only at hW); go_simp; try with_reducible rfl)
              (try simp only [Act.put, List.setIfInBounds_toArray, List.set_cons_zero, List.set_cons_succ])
              refine takeH (i := 1) (dst := some 60) (v := ?v22) rfl rfl (by kernel_rfl) (by kernel_rfl) (by kernel_rfl) (fun _ _ _ h => h) rfl ?hy22 hH rfl ?rest22
              case hy22 => (intro W hW; (try dsimp only at hW); go_simp; try with_reducible rfl)
              (try simp only [Act.put, List.setIfInBounds_toArray, List.set_cons_zero, List.set_cons_succ])
              refine takeH (i := 2) (dst := some 61) (v := ?v23) rfl rfl (by kernel_rfl) (by kernel_rfl) (by kernel_rfl) (fun _ _ _ h => h) rfl ?hy23 hH rfl ?rest23
              case hy23 => (intro W hW; obtain ⟨_, kc1, kc2, kc3, kc4⟩ := bx_cells hW; clear hW; go_simp; try with_reducible rfl)
              (try simp only [Act.put, List.setIfInBounds_toArray, List.set_cons_zero, List.set_cons_succ])
              refine takeH (i := 3) (dst := some 62) (v := ?v24) rfl rfl (by kernel_rfl) (by kernel_rfl) (by kernel_rfl) (fun _ _ _ h => h) rfl ?hy24 hH rfl ?rest24
              case hy24 => (intro W hW; (try dsimp only at hW); go_simp; try with_reducible rfl)
              (try simp only [Act.put, List.setIfInBounds_toArray, List.set_cons_zero, List.set_cons_succ])
              refine takeH (i := 4) (dst := some 63) (v := ?v25) rfl rfl (by kernel_rfl) (by kernel_rfl) (by kernel_rfl) (fun _ _ _ h => h) rfl ?hy25 hH rfl ?rest25
              case hy25 => (intro W hW; obtain ⟨_, kc1, kc2, kc3, kc4⟩ := bx_cells hW; clear hW; go_simp; try with_reducible rfl)
              (try simp only [Act.put, List.setIfInBounds_toArray, List.set_cons_zero, List.set_cons_succ])
              refine takeH (i := 7) (dst := some 66) (v := ?v26) rfl rfl (by kernel_rfl) (by kernel_rfl) (by kernel_rfl) (fun _ _ _ h => h) rfl ?hy26 hH rfl ?rest26
              case hy26 => (intro W hW; (try dsimp only at hW); go_simp; try with_reducible rfl)
              (try simp only [Act.put, List.setIfInBounds_toArray, List.set_cons_zero, List.set_cons_succ])
              refine takeH (i := 8) (dst := some 67) (v := ?v27) rfl rfl (by kernel_rfl) (by kernel_rfl) (by kernel_rfl) (fun _ _ _ h => h) rfl ?hy27 hH rfl ?rest27
              case hy27 => (intro W hW; (try dsimp only at hW); go_simp; try with_reducible rfl)
              (try simp only [Act.put, List.setIfInBounds_toArray, List.set_cons_zero, List.set_cons_succ])
              refine takeH (i := 9) (dst := some 68) (v := ?v28) rfl rfl (by kernel_rfl) (by kernel_rfl) (by kernel_rfl) (fun _ _ _ h => h) rfl ?hy28 hH rfl ?rest28
              case hy28 => (intro W hW; obtain ⟨_, kc1, kc2, kc3, kc4⟩ := bx_cells hW; clear hW; go_simp; try with_reducible rfl)
              (try simp only [Act.put, List.setIfInBounds_toArray, List.set_cons_zero, List.set_cons_succ])
              refine takeH (i := 10) (dst := some 69) (v := ?v29) rfl rfl (by kernel_rfl) (by kernel_rfl) (by kernel_rfl) (fun _ _ _ h => h) rfl ?hy29 hH rfl ?rest29
              case hy29 => (intro W hW; (try dsimp only at hW); go_simp; try with_reducible rfl)
              (try simp only [Act.put, List.setIfInBounds_toArray, List.set_cons_zero, List.set_cons_succ])
              refine takeH (i := 11) (dst := some 70) (v := ?v30) rfl rfl (by kernel_rfl) (by kernel_rfl) (by kernel_rfl) (fun _ _ _ h => h) rfl ?hy30 hH rfl ?rest30
              case hy30 => (intro W hW; obtain ⟨_, kc1, kc2, kc3, kc4⟩ := bx_cells hW; clear hW; go_simp; try with_reducible rfl)
              (try simp only [Act.put, List.setIfInBounds_toArray, List.set_cons_zero, List.set_cons_succ])
              refine callH (i := 5) { dst := some 64, op := Go.Op.call { callee := Go.Callee.value (Go.Operand.func 49), args := #[Go.Operand.tmp 63], argTypes := #[91] }, type := 95, pos := "law.go:189", after := #[{ on := 4, ground := Go.Ground.data }], guard := none } (by kernel_rfl) rfl rfl (fun K hK => ?_)
              go_simp
              refine GV.mono ?_
              clear GV
              rintro r w6 ⟨rfl, hb6⟩
              have H6 : Hid (QW w w6 p dp q s ops (90 + i) (31 + i) A L D a b v vd l l gw.heap.size c) := HQD.out.up hb6
              clear hb6 HQD
              clear hH
              refine hK.out _ _ H6.out.bx (fun hH => ?_)
              clear hK K
              (try simp only [Act.put, List.setIfInBounds_toArray, List.set_cons_zero, List.set_cons_succ])
              refine callH (i := 6) { dst := some 65, op := Go.Op.call { callee := Go.Callee.value (Go.Operand.func 48), args := #[Go.Operand.tmp 59, Go.Operand.tmp 61, Go.Operand.tmp 64], argTypes := #[84, 2, 95] }, type := 24, pos := "law.go:189", after := #[{ on := 0, ground := Go.Ground.data }, { on := 2, ground := Go.Ground.data }, { on := 5, ground := Go.Ground.data }, { on := 5, ground := Go.Ground.chain }], guard := none } (by kernel_rfl) rfl rfl (fun K hK => ?_)
              go_simp
              refine (both_later H6.out HOK.out (by have := HLL.out; omega)).mono ?_
              rintro r w7 ⟨e, rfl, hx7, LT2⟩
              have HX7 : Hid (w7.heap[gw.heap.size]? = some (.cells #[.int .i64 c.K, .int .i64 c.id, .int .i64 c.a, .int .i64 c.n, .int .i64 c.N] 93 (0, 0))) := hx7
              clear hx7 H6
              clear hH
              refine hK.out _ _ HX7.out (fun hH => ?_)
              clear hK K
              (try simp only [Act.put, List.setIfInBounds_toArray, List.set_cons_zero, List.set_cons_succ])
              refine callH (i := 12) { dst := some 71, op := Go.Op.call { callee := Go.Callee.value (Go.Operand.func 50), args := #[Go.Operand.tmp 66, Go.Operand.tmp 68, Go.Operand.tmp 70], argTypes := #[86, 2, 91] }, type := 24, pos := "law.go:189", after := #[{ on := 7, ground := Go.Ground.data }, { on := 9, ground := Go.Ground.data }, { on := 11, ground := Go.Ground.data }, { on := 6, ground := Go.Ground.chain }], guard := none } (by kernel_rfl) rfl rfl (fun K hK => ?_)
              go_simp
              refine LT2.mono ?_
              clear LT2
              rintro r w8 ⟨rfl, v', vd', l', hq8, hl8⟩
              have H8 : Hid (QW w w8 p dp q s ops (90 + i) (31 + i) A L D a b v' vd' l' l' gw.heap.size c ∧ l'.length ≤ i + 1) := ⟨hq8, by have := HLL.out; omega⟩
              clear hq8 hl8
              clear hH
              refine hK.out _ _ H8.out.1.bx (fun hH => ?_)
              clear hK K
              (try simp only [Act.put, List.setIfInBounds_toArray, List.set_cons_zero, List.set_cons_succ])
              refine takeH (i := 13) (dst := some 72) (v := .bool false) rfl rfl (by kernel_rfl) (by kernel_rfl) (by kernel_rfl) (fun _ _ _ h => h) rfl (fun W hW => by (try dsimp only at hW); go_simp) hH rfl ?_
              (try simp only [Act.put, List.setIfInBounds_toArray, List.set_cons_zero, List.set_cons_succ])
              refine wpAnyH_done (by kernel_rfl) ?_ _
              clear hH
              go_wp2_with fail
              go_meet
              exact ⟨_, rfl, s, ops, A, L, D, v', vd', l', H8.out.1.more (by omega) (by omega), H8.out.2⟩
            · go_upto_region 15 with fail
              have HQD : Hid (QW w W5.drew p dp q s ops (90 + i) (31 + i) A L D a b v vd l l gw.heap.size c) := HQ.out.up (Below.refl _ _).drew
              have HB0 : Hid (W5.drew.heap[gw.heap.size]? = some (.cells #[.int .i64 c.K, .int .i64 c.id, .int .i64 c.a, .int .i64 c.n, .int .i64 c.N] 93 (0, 0))) := HQD.out.bx
              have GV := given12_any W5.drew c.a c.n
              clear hK HQ
              refine wp_region_held_drew (S := (fun W => W.heap[gw.heap.size]? = some (.cells #[.int .i64 c.K, .int .i64 c.id, .int .i64 c.a, .int .i64 c.n, .int .i64 c.N] 93 (0, 0)))) (by kernel_rfl) HB0.out (fun hH => ?_)
              refine takeH (i := 0) (dst := some 59) (v := ?v31) rfl rfl (by kernel_rfl) (by kernel_rfl) (by kernel_rfl) (fun _ _ _ h => h) rfl ?hy31 hH rfl ?rest31
              case hy31 => (intro W hW; (try dsimp only at hW); go_simp; try with_reducible rfl)
              (try simp only [Act.put, List.setIfInBounds_toArray, List.set_cons_zero, List.set_cons_succ])
              refine takeH (i := 1) (dst := some 60) (v := ?v32) rfl rfl (by kernel_rfl) (by kernel_rfl) (by kernel_rfl) (fun _ _ _ h => h) rfl ?hy32 hH rfl ?rest32
              case hy32 => (intro W hW; (try dsimp only at hW); go_simp; try with_reducible rfl)
              (try simp only [Act.put, List.setIfInBounds_toArray, List.set_cons_zero, List.set_cons_succ])
              refine takeH (i := 2) (dst := some 61) (v := ?v33) rfl rfl (by kernel_rfl) (by kernel_rfl) (by kernel_rfl) (fun _ _ _ h => h) rfl ?hy33 hH rfl ?rest33
              case hy33 => (intro W hW; obtain ⟨_, kc1, kc2, kc3, kc4⟩ := bx_cells hW; clear hW; go_simp; try with_reducible rfl)
              (try simp only [Act.put, List.setIfInBounds_toArray, List.set_cons_zero, List.set_cons_succ])
              refine takeH (i := 3) (dst := some 62) (v := ?v34) rfl rfl (by kernel_rfl) (by kernel_rfl) (by kernel_rfl) (fun _ _ _ h => h) rfl ?hy34 hH rfl ?rest34
              case hy34 => (intro W hW; (try dsimp only at hW); go_simp; try with_reducible rfl)
              (try simp only [Act.put, List.setIfInBounds_toArray, List.set_cons_zero, List.set_cons_succ])
              refine takeH (i := 4) (dst := some 63) (v := ?v35) rfl rfl (by kernel_rfl) (by kernel_rfl) (by kernel_rfl) (fun _ _ _ h => h) rfl ?hy35 hH rfl ?rest35
              case hy35 => (intro W hW; obtain ⟨_, kc1, kc2, kc3, kc4⟩ := bx_cells hW; clear hW; go_simp; try with_reducible rfl)
              (try simp only [Act.put, List.setIfInBounds_toArray, List.set_cons_zero, List.set_cons_succ])
              refine takeH (i := 7) (dst := some 66) (v := ?v36) rfl rfl (by kernel_rfl) (by kernel_rfl) (by kernel_rfl) (fun _ _ _ h => h) rfl ?hy36 hH rfl ?rest36
              case hy36 => (intro W hW; (try dsimp only at hW); go_simp; try with_reducible rfl)
              (try simp only [Act.put, List.setIfInBounds_toArray, List.set_cons_zero, List.set_cons_succ])
              refine takeH (i := 8) (dst := some 67) (v := ?v37) rfl rfl (by kernel_rfl) (by kernel_rfl) (by kernel_rfl) (fun _ _ _ h => h) rfl ?hy37 hH rfl ?rest37
              case hy37 => (intro W hW; (try dsimp only at hW); go_simp; try with_reducible rfl)
              (try simp only [Act.put, List.setIfInBounds_toArray, List.set_cons_zero, List.set_cons_succ])
              refine takeH (i := 9) (dst := some 68) (v := ?v38) rfl rfl (by kernel_rfl) (by kernel_rfl) (by kernel_rfl) (fun _ _ _ h => h) rfl ?hy38 hH rfl ?rest38
              case hy38 => (intro W hW; obtain ⟨_, kc1, kc2, kc3, kc4⟩ := bx_cells hW; clear hW; go_simp; try with_reducible rfl)
              (try simp only [Act.put, List.setIfInBounds_toArray, List.set_cons_zero, List.set_cons_succ])
              refine takeH (i := 10) (dst := some 69) (v := ?v39) rfl rfl (by kernel_rfl) (by kernel_rfl) (by kernel_rfl) (fun _ _ _ h => h) rfl ?hy39 hH rfl ?rest39
              case hy39 => (intro W hW; (try dsimp only at hW); go_simp; try with_reducible rfl)
              (try simp only [Act.put, List.setIfInBounds_toArray, List.set_cons_zero, List.set_cons_succ])
              refine takeH (i := 11) (dst := some 70) (v := ?v40) rfl rfl (by kernel_rfl) (by kernel_rfl) (by kernel_rfl) (fun _ _ _ h => h) rfl ?hy40 hH rfl ?rest40
              case hy40 => (intro W hW; obtain ⟨_, kc1, kc2, kc3, kc4⟩ := bx_cells hW; clear hW; go_simp; try with_reducible rfl)
              (try simp only [Act.put, List.setIfInBounds_toArray, List.set_cons_zero, List.set_cons_succ])
              refine callH (i := 5) { dst := some 64, op := Go.Op.call { callee := Go.Callee.value (Go.Operand.func 49), args := #[Go.Operand.tmp 63], argTypes := #[91] }, type := 95, pos := "law.go:189", after := #[{ on := 4, ground := Go.Ground.data }], guard := none } (by kernel_rfl) rfl rfl (fun K hK => ?_)
              go_simp
              refine GV.mono ?_
              clear GV
              rintro r w6 ⟨rfl, hb6⟩
              have H6 : Hid (QW w w6 p dp q s ops (90 + i) (31 + i) A L D a b v vd l l gw.heap.size c) := HQD.out.up hb6
              clear hb6 HQD
              clear hH
              refine hK.out _ _ H6.out.bx (fun hH => ?_)
              clear hK K
              (try simp only [Act.put, List.setIfInBounds_toArray, List.set_cons_zero, List.set_cons_succ])
              refine callH (i := 6) { dst := some 65, op := Go.Op.call { callee := Go.Callee.value (Go.Operand.func 48), args := #[Go.Operand.tmp 59, Go.Operand.tmp 61, Go.Operand.tmp 64], argTypes := #[84, 2, 95] }, type := 24, pos := "law.go:189", after := #[{ on := 0, ground := Go.Ground.data }, { on := 2, ground := Go.Ground.data }, { on := 5, ground := Go.Ground.data }, { on := 5, ground := Go.Ground.chain }], guard := none } (by kernel_rfl) rfl rfl (fun K hK => ?_)
              go_simp
              refine (both_later H6.out HOK.out (by have := HLL.out; omega)).mono ?_
              rintro r w7 ⟨e, rfl, hx7, LT2⟩
              have HX7 : Hid (w7.heap[gw.heap.size]? = some (.cells #[.int .i64 c.K, .int .i64 c.id, .int .i64 c.a, .int .i64 c.n, .int .i64 c.N] 93 (0, 0))) := hx7
              clear hx7 H6
              clear hH
              refine hK.out _ _ HX7.out (fun hH => ?_)
              clear hK K
              (try simp only [Act.put, List.setIfInBounds_toArray, List.set_cons_zero, List.set_cons_succ])
              refine callH (i := 12) { dst := some 71, op := Go.Op.call { callee := Go.Callee.value (Go.Operand.func 50), args := #[Go.Operand.tmp 66, Go.Operand.tmp 68, Go.Operand.tmp 70], argTypes := #[86, 2, 91] }, type := 24, pos := "law.go:189", after := #[{ on := 7, ground := Go.Ground.data }, { on := 9, ground := Go.Ground.data }, { on := 11, ground := Go.Ground.data }, { on := 6, ground := Go.Ground.chain }], guard := none } (by kernel_rfl) rfl rfl (fun K hK => ?_)
              go_simp
              refine LT2.mono ?_
              clear LT2
              rintro r w8 ⟨rfl, v', vd', l', hq8, hl8⟩
              have H8 : Hid (QW w w8 p dp q s ops (90 + i) (31 + i) A L D a b v' vd' l' l' gw.heap.size c ∧ l'.length ≤ i + 1) := ⟨hq8, by have := HLL.out; omega⟩
              clear hq8 hl8
              clear hH
              refine hK.out _ _ H8.out.1.bx (fun hH => ?_)
              clear hK K
              (try simp only [Act.put, List.setIfInBounds_toArray, List.set_cons_zero, List.set_cons_succ])
              refine takeH (i := 13) (dst := some 72) (v := .bool false) rfl rfl (by kernel_rfl) (by kernel_rfl) (by kernel_rfl) (fun _ _ _ h => h) rfl (fun W hW => by (try dsimp only at hW); go_simp) hH rfl ?_
              (try simp only [Act.put, List.setIfInBounds_toArray, List.set_cons_zero, List.set_cons_succ])
              refine wpAnyH_done (by kernel_rfl) ?_ _
              clear hH
              go_wp2_with fail
              go_meet
              exact ⟨_, rfl, s, ops, A, L, D, v', vd', l', H8.out.1.more (by omega) (by omega), H8.out.2⟩
          · have n0 : ¬ c.K = 0 := fun e => hK0 (.inl e)
            have n1 : ¬ c.K = 1 := fun e => hK0 (.inr (.inl e))
            have n2 : ¬ c.K = 2 := fun e => hK0 (.inr (.inr (.inl e)))
            have n3 : ¬ c.K = 3 := fun e => hK0 (.inr (.inr (.inr e)))
            clear hK0
            by_cases hK4 : c.K = 4
            · have RQ := q_ripe HQ.out (by have := HLL.out; omega)
              clear n0 n1 n2 n3
              go_upto_region 18 with fail
              clear hK4
              go_wp2_with (first | (go_at_call 53; refine Hid.out ?_))
              change Calls _ _ _ _ _
              refine RQ.mono ?_
              clear RQ
              rintro r w6 ⟨ao, n, cp, rfl, RQ⟩
              go_wp2_with (first | (go_at_call 52; refine Hid.out ?_))
              change Calls _ _ _ _ _
              refine RQ.mono ?_
              clear RQ
              rintro r w7 ⟨ao2, cp2, rfl, RQ⟩
              go_wp2_with (first | (go_at_call 54; refine Hid.out ?_))
              change Calls _ _ _ _ _
              refine RQ.mono ?_
              clear RQ
              rintro r w8 ⟨ao3, cp3, rfl, RQ⟩
              go_wp2_with (first | (go_at_call 51; refine Hid.out ?_))
              change Calls _ _ _ _ _
              refine RQ.mono ?_
              clear RQ
              rintro r w9 ⟨rfl, v', vd', l', hq9, hl9⟩
              have H9 : Hid (QW w w9 p dp q s ops (90 + i) (31 + i) A L D a b v' vd' l' l' gw.heap.size c ∧ l'.length ≤ i) := ⟨hq9, by have := HLL.out; omega⟩
              clear hq9 hl9
              go_wp2_with fail
              go_meet
              exact ⟨_, rfl, s, ops, A, L, D, v', vd', l', H9.out.1.more (by omega) (by omega), by have := H9.out.2; omega⟩
            · by_cases hK5 : c.K = 5
              · clear n0 n1 n2 n3 hK4
                go_upto_region 21 with fail
                have HQD : Hid (QW w W5.drew p dp q s ops (90 + i) (31 + i) A L D a b v vd l l gw.heap.size c) := HQ.out.up (Below.refl _ _).drew
                have HB0 : Hid (W5.drew.heap[gw.heap.size]? = some (.cells #[.int .i64 c.K, .int .i64 c.id, .int .i64 c.a, .int .i64 c.n, .int .i64 c.N] 93 (0, 0))) := HQD.out.bx
                have WR := q_write HQD.out (by omega) (by omega) c.N
                clear hK5 HQ HQD
                refine wp_region_held_drew (S := (fun W => W.heap[gw.heap.size]? = some (.cells #[.int .i64 c.K, .int .i64 c.id, .int .i64 c.a, .int .i64 c.n, .int .i64 c.N] 93 (0, 0)))) (by kernel_rfl) HB0.out (fun hH => ?_)
                refine takeH (i := 0) (dst := some 86) (v := ?v41) rfl rfl (by kernel_rfl) (by kernel_rfl) (by kernel_rfl) (fun _ _ _ h => h) rfl ?hy41 hH rfl ?rest41
                case hy41 => (intro W hW; (try dsimp only at hW); go_simp; try with_reducible rfl)
                (try simp only [Act.put, List.setIfInBounds_toArray, List.set_cons_zero, List.set_cons_succ])
                refine takeH (i := 1) (dst := some 87) (v := ?v42) rfl rfl (by kernel_rfl) (by kernel_rfl) (by kernel_rfl) (fun _ _ _ h => h) rfl ?hy42 hH rfl ?rest42
                case hy42 => (intro W hW; (try dsimp only at hW); go_simp; try with_reducible rfl)
                (try simp only [Act.put, List.setIfInBounds_toArray, List.set_cons_zero, List.set_cons_succ])
                refine takeH (i := 2) (dst := some 88) (v := ?v43) rfl rfl (by kernel_rfl) (by kernel_rfl) (by kernel_rfl) (fun _ _ _ h => h) rfl ?hy43 hH rfl ?rest43
                case hy43 => (intro W hW; obtain ⟨_, kc1, kc2, kc3, kc4⟩ := bx_cells hW; clear hW; go_simp; try with_reducible rfl)
                (try simp only [Act.put, List.setIfInBounds_toArray, List.set_cons_zero, List.set_cons_succ])
                refine takeH (i := 4) (dst := some 90) (v := ?v44) rfl rfl (by kernel_rfl) (by kernel_rfl) (by kernel_rfl) (fun _ _ _ h => h) rfl ?hy44 hH rfl ?rest44
                case hy44 => (intro W hW; (try dsimp only at hW); go_simp; try with_reducible rfl)
                (try simp only [Act.put, List.setIfInBounds_toArray, List.set_cons_zero, List.set_cons_succ])
                refine takeH (i := 5) (dst := some 91) (v := ?v45) rfl rfl (by kernel_rfl) (by kernel_rfl) (by kernel_rfl) (fun _ _ _ h => h) rfl ?hy45 hH rfl ?rest45
                case hy45 => (intro W hW; (try dsimp only at hW); go_simp; try with_reducible rfl)
                (try simp only [Act.put, List.setIfInBounds_toArray, List.set_cons_zero, List.set_cons_succ])
                refine takeH (i := 6) (dst := some 92) (v := ?v46) rfl rfl (by kernel_rfl) (by kernel_rfl) (by kernel_rfl) (fun _ _ _ h => h) rfl ?hy46 hH rfl ?rest46
                case hy46 => (intro W hW; obtain ⟨_, kc1, kc2, kc3, kc4⟩ := bx_cells hW; clear hW; go_simp; try with_reducible rfl)
                (try simp only [Act.put, List.setIfInBounds_toArray, List.set_cons_zero, List.set_cons_succ])
                refine callH (i := 3) { dst := some 89, op := Go.Op.call { callee := Go.Callee.value (Go.Operand.func 26), args := #[Go.Operand.tmp 86, Go.Operand.tmp 88], argTypes := #[30, 3] }, type := 24, pos := "law.go:197", after := #[{ on := 0, ground := Go.Ground.data }, { on := 2, ground := Go.Ground.data }], guard := none } (by kernel_rfl) rfl rfl (fun K hK => ?_)
                go_simp
                refine WR.mono ?_
                clear WR
                rintro r w7 ⟨e, rfl, hx7, WR2⟩
                have HX7 : Hid (w7.heap[gw.heap.size]? = some (.cells #[.int .i64 c.K, .int .i64 c.id, .int .i64 c.a, .int .i64 c.n, .int .i64 c.N] 93 (0, 0))) := hx7
                clear hx7
                clear hH
                refine hK.out _ _ HX7.out (fun hH => ?_)
                clear hK K
                (try simp only [Act.put, List.setIfInBounds_toArray, List.set_cons_zero, List.set_cons_succ])
                refine callH (i := 7) { dst := some 93, op := Go.Op.call { callee := Go.Callee.value (Go.Operand.func 55), args := #[Go.Operand.tmp 90, Go.Operand.tmp 92], argTypes := #[34, 3] }, type := 24, pos := "law.go:197", after := #[{ on := 4, ground := Go.Ground.data }, { on := 6, ground := Go.Ground.data }, { on := 3, ground := Go.Ground.chain }], guard := none } (by kernel_rfl) rfl rfl (fun K hK => ?_)
                go_simp
                refine WR2.mono ?_
                clear WR2
                rintro r w8 ⟨rfl, s', D', L', hq8⟩
                have H8 : Hid (QW w w8 p dp q s' ops (90 + i + 1) (31 + i + 1) A L' D' a b v vd l l gw.heap.size c) := hq8
                clear hq8
                clear hH
                refine hK.out _ _ H8.out.bx (fun hH => ?_)
                clear hK K
                (try simp only [Act.put, List.setIfInBounds_toArray, List.set_cons_zero, List.set_cons_succ])
                refine takeH (i := 8) (dst := some 94) (v := .bool false) rfl rfl (by kernel_rfl) (by kernel_rfl) (by kernel_rfl) (fun _ _ _ h => h) rfl (fun W hW => by (try dsimp only at hW); go_simp) hH rfl ?_
                (try simp only [Act.put, List.setIfInBounds_toArray, List.set_cons_zero, List.set_cons_succ])
                refine wpAnyH_done (by kernel_rfl) ?_ _
                clear hH
                go_wp2_with fail
                go_meet
                exact ⟨_, rfl, s', ops, A, L', D', v, vd, l, H8.out.more (by omega) (by omega), by have := HLL.out; omega⟩
              · by_cases hK6 : c.K = 6
                · have FL := q_flush HQ.out (by omega) (by omega)
                  clear n0 n1 n2 n3 hK4 hK5
                  go_upto_region 24 with fail
                  clear hK6
                  go_wp2_with (first | (go_at_call 27; refine Hid.out ?_))
                  change Calls _ _ _ _ _
                  refine FL.mono ?_
                  clear FL
                  rintro r w6 ⟨rfl, FL⟩
                  go_wp2_with (first | (go_at_call 56; refine Hid.out ?_))
                  change Calls _ _ _ _ _
                  refine FL.mono ?_
                  clear FL
                  rintro r w7 ⟨rfl, s', ops', D', L', hq7⟩
                  have H7 : Hid (QW w w7 p dp q s' ops' (90 + i + 1) (31 + i) A L' D' a b v vd l l gw.heap.size c) := hq7
                  clear hq7
                  go_wp2_with fail
                  go_meet
                  exact ⟨_, rfl, s', ops', A, L', D', v, vd, l, H7.out.more (by omega) (by omega), by have := HLL.out; omega⟩
                · go_wp2_with fail
                  go_meet
                  exact ⟨_, rfl, s, ops, A, L, D, v, vd, l, HQ.out.more (by omega) (by omega), by have := HLL.out; omega⟩
        case rest =>
          obtain ⟨w6, rfl, H6⟩ := hcut
          clear HQ5
          obtain ⟨s, ops, A, L, D, v, vd, l, hQ, hl⟩ := H6.out
          have HLL : Hid (l.length ≤ i + 1 ∧ i < 40) := ⟨hl, by omega⟩
          have LI := wglist_any hQ.wk (by omega)
          have HQ : Hid (QW w w6 p dp q s ops (90 + (i + 1)) (31 + (i + 1)) A L D a b v vd l l gw.heap.size c) := hQ
          have hl1 : l.length ≤ 1000 := by omega
          have hl2 : (l.length : Int) ≤ 1000 := by omega
          clear hQ hl H6
          go_wp2_with (first | (go_at_call 57; refine Hid.out ?_))
          change Calls _ _ _ _ _
          refine LI.mono ?_
          clear LI
          rintro r w7 ⟨g, rfl, hr7, hg7, hb7⟩
          have H7 : Hid (QW w w7 p dp q s ops (90 + (i + 1)) (31 + (i + 1)) A L D a b v vd l l gw.heap.size c ∧ RowP w7 g (mk77 (l.map act) 0)) := ⟨HQ.out.up hb7, hr7⟩
          have HGN : Hid (w.heap.size ≤ g ∧ ¬ (Ak s g ∨ D g) ∧ ¬ Wo a v g ∧ ¬ Wo b vd g ∧ g ≠ gw.heap.size) := by
            have hz := HQ.out.be.size
            refine ⟨by omega, fun h => ?_, fun h => ?_, fun h => ?_, fun h => ?_⟩
            · have := HQ.out.lt g h; omega
            · have := (HQ.out.wk.lt g h).2; omega
            · have := (HQ.out.wd.lt g h).2; omega
            · have := HQ.out.gbl; omega
          obtain ⟨ao, ca, hvd, hca1, hca2, _, hlie⟩ := HQ.out.wd.form
          have HVD : Hid (vd = .slice ao l.length ca) := hvd
          have cb0 : w7.cell? ⟨b, 0, none⟩ = some (.slice ao l.length ca) := by rw [← hvd]; exact H7.out.1.wd.cell
          have LE := fun n : Nat => wglen_any (H7.out.1.wk.up (belowN (Below.refl w7.heap.size w7) n))
          clear hr7 hg7 hb7 hvd hlie HQ
          go_upto_region 27 with fail
          go_quiet (first | (go_at_call 58; refine Calls.quiet_of_same (LE _)))
          clear LE cb0
          have H8 : Hid (QW w (w7.drewN nq) p dp q s ops (90 + (i + 1)) (31 + (i + 1)) A L D a b v vd l l gw.heap.size c ∧ RowP (w7.drewN nq) g (mk77 (l.map act) 0)) := ⟨H7.out.1.up (belowN (Below.refl _ _) nq), H7.out.2.up (belowN (Below.refl _ _) nq)⟩
          clear H7
          generalize w7.drewN nq = w8 at *
          go_wp2_with fail
          go_loopg [14, 15] l.length (fun gg t14 t15 W => ∃ (g2 : World) (k : Nat), g2 = W ∧ t15 = .int .i64 k ∧ k ≤ l.length ∧ l.length - k ≤ gg ∧ t14 = .bool (hasA ((l.map act).take k) c.a c.n) ∧ Hid (QW w g2 p dp q s ops (90 + (i + 1)) (31 + (i + 1)) A L D a b v vd l l gw.heap.size c ∧ RowP g2 g (mk77 (l.map act) k)))
          case atStart => exact ⟨_, 0, rfl, rfl, by omega, by omega, rfl, H8.out⟩
          case round =>
            obtain ⟨g2, k, rfl, rfl, hk, hgk, rfl, HG⟩ := hrel
            clear H8
            by_cases hkl : (k : Int) < (l.length : Int)
            · obtain ⟨x, hx⟩ : ∃ x, l[k]? = some x := ⟨_, List.getElem?_eq_getElem (by omega)⟩
              have hxa : (l.map act)[k]? = some (x.K, x.N) := by rw [List.getElem?_map, hx]; rfl
              obtain ⟨gd, od, e1, hgl, c0, c1, c2⟩ := lie_atD (by
                obtain ⟨ao', ca', e, _, _, _, hl⟩ := HG.out.1.wd.form
                rw [HVD.out] at e
                cases e
                exact hl) hx
              subst e1
              have cb0 : g2.cell? ⟨b, 0, none⟩ = some (.slice (some ⟨gd, od, none⟩) l.length ca) := by rw [← HVD.out]; exact HG.out.1.wd.cell
              have hbx := bx_cells HG.out.1.bx
              have a2 := hbx.2.2.1
              have a3 := hbx.2.2.2.1
              have HX : Hid ((l.map act)[k]? = some (x.K, x.N)) := hxa
              have HIS : Hid (hasA ((l.map act).take (k + 1)) c.a c.n = (hasA ((l.map act).take k) c.a c.n || decide ((x.K, x.N) = (c.a, c.n)))) := hasA_take hxa c.a c.n
              generalize hasA ((l.map act).take k) c.a c.n = is at *
              clear hbx hx hxa c0
              go_upto_region 33 with fail
              go_cut [14] (fun t wc => t = .bool (hasA ((l.map act).take (k + 1)) c.a c.n) ∧ ∃ n, wc = g2.drewN n)
              case first =>
                cases is with
                | true =>
                  go_quiet (fail)
                  go_wp2
                  go_meet
                  exact ⟨by rw [HIS.out]; rfl, _, rfl⟩
                | false =>
                  by_cases hK : x.K = c.a
                  · by_cases hN : x.N = c.n
                    · have HD : Hid (decide ((x.K, x.N) = (c.a, c.n)) = true) := decide_eq_true (by rw [hK, hN])
                      go_quiet (fail)
                      go_wp2
                      go_meet
                      exact ⟨by rw [HIS.out, HD.out]; rfl, _, rfl⟩
                    · have HD : Hid (decide ((x.K, x.N) = (c.a, c.n)) = false) := decide_eq_false (fun e => hN (congrArg Prod.snd e))
                      have hNb : (x.N == c.n) = false := by simpa using hN
                      go_quiet (fail)
                      go_wp2
                      go_meet
                      exact ⟨by rw [HIS.out, HD.out]; rfl, _, rfl⟩
                  · have HD : Hid (decide ((x.K, x.N) = (c.a, c.n)) = false) := decide_eq_false (fun e => hK (congrArg Prod.fst e))
                    have hKb : (x.K == c.a) = false := by simpa using hK
                    go_quiet (fail)
                    go_wp2
                    go_meet
                    exact ⟨by rw [HIS.out, HD.out]; rfl, _, rfl⟩
              case rest =>
                obtain ⟨rfl, n33, rfl⟩ := hcut
                have H9 : Hid (QW w (g2.drewN n33) p dp q s ops (90 + (i + 1)) (31 + (i + 1)) A L D a b v vd l l gw.heap.size c ∧ RowP (g2.drewN n33) g (mk77 (l.map act) k)) := ⟨HG.out.1.up (belowN (Below.refl _ _) n33), HG.out.2.up (belowN (Below.refl _ _) n33)⟩
                have c1' : (g2.drewN n33).cell? ⟨gd, od + k * 3 + 1, none⟩ = some (.int .i64 x.K) := ((belowN (Below.refl g2.heap.size g2) n33).cell (p := ⟨gd, od + k * 3 + 1, none⟩) hgl).trans c1
                have c2' : (g2.drewN n33).cell? ⟨gd, od + k * 3 + 2, none⟩ = some (.int .i64 x.N) := ((belowN (Below.refl g2.heap.size g2) n33).cell (p := ⟨gd, od + k * 3 + 2, none⟩) hgl).trans c2
                have HZL : Hid (gd < (g2.drewN n33).heap.size) := by have := (belowN (Below.refl g2.heap.size g2) n33).size; show _ < _; omega
                clear c1 c2 cb0 a2 a3 HIS HG
                generalize g2.drewN n33 = g3 at *
                obtain ⟨is2, his2⟩ : ∃ is2, hasA ((l.map act).take (k + 1)) c.a c.n = is2 := ⟨_, rfl⟩
                have HI2 : Hid (hasA ((l.map act).take (k + 1)) c.a c.n = is2) := his2
                rw [his2]
                clear his2
                go_upto_region 34 with fail
                have HQD : Hid (QW w g3.drew p dp q s ops (90 + (i + 1)) (31 + (i + 1)) A L D a b v vd l l gw.heap.size c ∧ RowP g3.drew g (mk77 (l.map act) k)) := ⟨H9.out.1.up (Below.refl _ _).drew, H9.out.2.up (Below.refl _ _).drew⟩
                have HS0 : Hid (g3.drew.cell? ⟨g, k * 2, none⟩ = some (.int .i64 x.K) ∧ g3.drew.cell? ⟨g, k * 2 + 1, none⟩ = some (.int .i64 x.N) ∧ g3.drew.cell? ⟨b, 0, none⟩ = some (.slice (some ⟨gd, od, none⟩) l.length ca) ∧ g3.drew.cell? ⟨gd, od + k * 3 + 1, none⟩ = some (.int .i64 x.K) ∧ g3.drew.cell? ⟨gd, od + k * 3 + 2, none⟩ = some (.int .i64 x.N)) := ⟨(HQD.out.2.cells (mk77_at HX.out)).1, (HQD.out.2.cells (mk77_at HX.out)).2, by rw [← HVD.out]; exact HQD.out.1.wd.cell, c1', c2'⟩
                have GV := given12_any g3.drew x.K x.N
                clear c1' c2'
                refine wp_region_held_drew (S := (fun W => W.cell? ⟨g, k * 2, none⟩ = some (.int .i64 x.K) ∧ W.cell? ⟨g, k * 2 + 1, none⟩ = some (.int .i64 x.N) ∧ W.cell? ⟨b, 0, none⟩ = some (.slice (some ⟨gd, od, none⟩) l.length ca) ∧ W.cell? ⟨gd, od + k * 3 + 1, none⟩ = some (.int .i64 x.K) ∧ W.cell? ⟨gd, od + k * 3 + 2, none⟩ = some (.int .i64 x.N))) (by kernel_rfl) HS0.out (fun hH => ?_)
                refine takeH (i := 0) (dst := some 141) (v := ?v47) rfl rfl (by kernel_rfl) (by kernel_rfl) (by kernel_rfl) (fun _ _ _ h => h) rfl ?hy47 hH rfl ?rest47
                case hy47 => (intro W hW; (try dsimp only at hW); go_simp; try with_reducible rfl)
                (try simp only [Act.put, List.setIfInBounds_toArray, List.set_cons_zero, List.set_cons_succ])
                refine takeH (i := 1) (dst := some 142) (v := ?v48) rfl rfl (by kernel_rfl) (by kernel_rfl) (by kernel_rfl) (fun _ _ _ h => h) rfl ?hy48 hH rfl ?rest48
                case hy48 => (intro W hW; (try dsimp only at hW); go_simp; try with_reducible rfl)
                (try simp only [Act.put, List.setIfInBounds_toArray, List.set_cons_zero, List.set_cons_succ])
                refine takeH (i := 2) (dst := some 143) (v := ?v49) rfl rfl (by kernel_rfl) (by kernel_rfl) (by kernel_rfl) (fun _ _ _ h => h) rfl ?hy49 hH rfl ?rest49
                case hy49 => (intro W hW; (try dsimp only at hW); go_simp; try with_reducible rfl)
                (try simp only [Act.put, List.setIfInBounds_toArray, List.set_cons_zero, List.set_cons_succ])
                refine takeH (i := 3) (dst := some 144) (v := ?v50) rfl rfl (by kernel_rfl) (by kernel_rfl) (by kernel_rfl) (fun _ _ _ h => h) rfl ?hy50 hH rfl ?rest50
                case hy50 => (intro W hW; obtain ⟨kr0, kr1, kb, kd0, kd1⟩ := hW; go_simp; try with_reducible rfl)
                (try simp only [Act.put, List.setIfInBounds_toArray, List.set_cons_zero, List.set_cons_succ])
                refine takeH (i := 4) (dst := some 145) (v := ?v51) rfl rfl (by kernel_rfl) (by kernel_rfl) (by kernel_rfl) (fun _ _ _ h => h) rfl ?hy51 hH rfl ?rest51
                case hy51 => (intro W hW; (try dsimp only at hW); go_simp; try with_reducible rfl)
                (try simp only [Act.put, List.setIfInBounds_toArray, List.set_cons_zero, List.set_cons_succ])
                refine takeH (i := 5) (dst := some 146) (v := ?v52) rfl rfl (by kernel_rfl) (by kernel_rfl) (by kernel_rfl) (fun _ _ _ h => h) rfl ?hy52 hH rfl ?rest52
                case hy52 => (intro W hW; (try dsimp only at hW); go_simp; try with_reducible rfl)
                (try simp only [Act.put, List.setIfInBounds_toArray, List.set_cons_zero, List.set_cons_succ])
                refine takeH (i := 6) (dst := some 147) (v := ?v53) rfl rfl (by kernel_rfl) (by kernel_rfl) (by kernel_rfl) (fun _ _ _ h => h) rfl ?hy53 hH rfl ?rest53
                case hy53 => (intro W hW; (try dsimp only at hW); go_simp; try with_reducible rfl)
                (try simp only [Act.put, List.setIfInBounds_toArray, List.set_cons_zero, List.set_cons_succ])
                refine takeH (i := 7) (dst := some 148) (v := ?v54) rfl rfl (by kernel_rfl) (by kernel_rfl) (by kernel_rfl) (fun _ _ _ h => h) rfl ?hy54 hH rfl ?rest54
                case hy54 => (intro W hW; obtain ⟨kr0, kr1, kb, kd0, kd1⟩ := hW; go_simp; try with_reducible rfl)
                (try simp only [Act.put, List.setIfInBounds_toArray, List.set_cons_zero, List.set_cons_succ])
                refine takeH (i := 8) (dst := some 149) (v := ?v55) rfl rfl (by kernel_rfl) (by kernel_rfl) (by kernel_rfl) (fun _ _ _ h => h) rfl ?hy55 hH rfl ?rest55
                case hy55 => (intro W hW; (try dsimp only at hW); go_simp; try with_reducible rfl)
                (try simp only [Act.put, List.setIfInBounds_toArray, List.set_cons_zero, List.set_cons_succ])
                refine takeH (i := 9) (dst := some 150) (v := ?v56) rfl rfl (by kernel_rfl) (by kernel_rfl) (by kernel_rfl) (fun _ _ _ h => h) rfl ?hy56 hH rfl ?rest56
                case hy56 => (intro W hW; (try dsimp only at hW); go_simp; try with_reducible rfl)
                (try simp only [Act.put, List.setIfInBounds_toArray, List.set_cons_zero, List.set_cons_succ])
                refine takeH (i := 10) (dst := some 151) (v := ?v57) rfl rfl (by kernel_rfl) (by kernel_rfl) (by kernel_rfl) (fun _ _ _ h => h) rfl ?hy57 hH rfl ?rest57
                case hy57 => (intro W hW; (try dsimp only at hW); go_simp; try with_reducible rfl)
                (try simp only [Act.put, List.setIfInBounds_toArray, List.set_cons_zero, List.set_cons_succ])
                refine takeH (i := 11) (dst := some 152) (v := ?v58) rfl rfl (by kernel_rfl) (by kernel_rfl) (by kernel_rfl) (fun _ _ _ h => h) rfl ?hy58 hH rfl ?rest58
                case hy58 => (intro W hW; obtain ⟨kr0, kr1, kb, kd0, kd1⟩ := hW; go_simp; try with_reducible rfl)
                (try simp only [Act.put, List.setIfInBounds_toArray, List.set_cons_zero, List.set_cons_succ])
                refine callH (i := 12) { dst := some 153, op := Go.Op.call { callee := Go.Callee.value (Go.Operand.func 49), args := #[Go.Operand.tmp 152], argTypes := #[91] }, type := 95, pos := "law.go:211", after := #[{ on := 11, ground := Go.Ground.data }], guard := none } (by kernel_rfl) rfl rfl (fun K hK => ?_)
                go_simp
                refine GV.mono ?_
                clear GV
                rintro r w10 ⟨rfl, hb10⟩
                have H10 : Hid (QW w w10 p dp q s ops (90 + (i + 1)) (31 + (i + 1)) A L D a b v vd l l gw.heap.size c ∧ RowP w10 g (mk77 (l.map act) k)) := ⟨HQD.out.1.up hb10, HQD.out.2.up hb10⟩
                have HS1 : Hid (w10.cell? ⟨g, k * 2, none⟩ = some (.int .i64 x.K) ∧ w10.cell? ⟨g, k * 2 + 1, none⟩ = some (.int .i64 x.N) ∧ w10.cell? ⟨b, 0, none⟩ = some (.slice (some ⟨gd, od, none⟩) l.length ca) ∧ w10.cell? ⟨gd, od + k * 3 + 1, none⟩ = some (.int .i64 x.K) ∧ w10.cell? ⟨gd, od + k * 3 + 2, none⟩ = some (.int .i64 x.N)) := ⟨(H10.out.2.cells (mk77_at HX.out)).1, (H10.out.2.cells (mk77_at HX.out)).2, by rw [← HVD.out]; exact H10.out.1.wd.cell, (hb10.cell (p := ⟨gd, od + k * 3 + 1, none⟩) HZL.out).trans HS0.out.2.2.2.1, (hb10.cell (p := ⟨gd, od + k * 3 + 2, none⟩) HZL.out).trans HS0.out.2.2.2.2⟩
                clear hb10
                clear hH
                refine hK.out _ _ HS1.out (fun hH => ?_)
                clear hK K
                (try simp only [Act.put, List.setIfInBounds_toArray, List.set_cons_zero, List.set_cons_succ])
                refine takeH (i := 13) (dst := some 154) (v := .bool false) rfl rfl (by kernel_rfl) (by kernel_rfl) (by kernel_rfl) (fun _ _ _ h => h) rfl (fun W hW => by (try dsimp only at hW); go_simp) hH rfl ?_
                (try simp only [Act.put, List.setIfInBounds_toArray, List.set_cons_zero, List.set_cons_succ])
                refine wpAnyH_done (by kernel_rfl) ?_ _
                clear hH
                have r1 := HS1.out.2.1
                have f1 : w10.frozen? ⟨g, k * 2 + 1, none⟩ = false := H10.out.2.frozen _
                go_wp2_with fail
                go_roundg (l.length - (k + 1))
                case measure => omega
                case rel =>
                  refine ⟨_, k + 1, rfl, by go_num, by omega, by omega, by rw [HI2.out], ?_, ?_⟩
                  · exact H10.out.1.keep (S := fun j => j = g) ((Fr.refl _ _).setCell g (k * 2 + 1) _ rfl) fun j hj => by rw [hj]; exact HGN.out
                  · rw [← mk77_next HX.out]
                    exact H10.out.2.set1 (mk77_at HX.out) 77
            · obtain rfl : k = l.length := by omega
              have hbx := bx_cells HG.out.1.bx
              have a2 := hbx.2.2.1
              have a3 := hbx.2.2.2.1
              have GV := given12_any g2 c.a c.n
              have e : (l.map act).take l.length = l.map act := List.take_of_length_le (by rw [List.length_map]; omega)
              rw [e]
              clear hbx e
              go_wp2_with (first | (go_at_call 49; refine Hid.out ?_))
              change Calls _ _ _ _ _
              refine GV.mono ?_
              clear GV a2 a3
              rintro r w11 ⟨rfl, hb11⟩
              have H11 : Hid (QW w w11 p dp q s ops (90 + (i + 1)) (31 + (i + 1)) A L D a b v vd l l gw.heap.size c) := HG.out.1.up hb11
              clear hb11 HG
              have WT := wgwaits_any H11.out.wk hl1 c.a c.n
              generalize hasA (l.map act) c.a c.n = is at *
              go_wp2_with (first | (go_at_call 59; refine Hid.out ?_))
              change Calls _ _ _ _ _
              refine WT.mono ?_
              clear WT
              rintro r w12 ⟨rfl, hb12⟩
              have H12 : Hid (QKp w w12 p dp q a b (i + 1)) := QI.down ⟨s, ops, A, L, D, v, vd, l, H11.out.up hb12, HLL.out.1⟩
              clear hb12 H11
              go_wp2_with fail
              go_roundg (40 - (i + 1))
              case measure => have := HLL.out; omega
              case rel => exact ⟨_, i + 1, rfl, by go_num, by have := HLL.out; omega, by omega, H12.out⟩
      · obtain ⟨s, ops, A, L, D, v, vd, l, h1, _⟩ := HB.out
        have HBE : Hid (Below w.heap.size w gw) := h1.gw.be
        have KN := fun W => known12_any W
        clear h1 HB
        go_wp2_with (first | (go_at_call 44; refine Hid.out ?_))
        change Calls _ _ _ _ _
        refine (KN _).mono ?_
        clear KN
        rintro r wk ⟨rfl, hbk⟩
        have HBK : Hid (Below w.heap.size w wk) := HBE.out.trans (hbk.mono HBE.out.size)
        clear hbk
        go_wp2_with fail
        go_ret
        exact ⟨rfl, HBK.out⟩
    · obtain ⟨s, ops, A, L, D, v, vd, l, h1, _⟩ := HB.out
      have HBE : Hid (Below w.heap.size w gw) := h1.gw.be
      have KN := fun W => known12_any W
      clear h1 HB
      go_wp2_with (first | (go_at_call 44; refine Hid.out ?_))
      change Calls _ _ _ _ _
      refine (KN _).mono ?_
      clear KN
      rintro r wk ⟨rfl, hbk⟩
      have HBK : Hid (Below w.heap.size w wk) := HBE.out.trans (hbk.mono HBE.out.size)
      clear hbk
      go_wp2_with fail
      go_ret
      exact ⟨rfl, HBK.out⟩
end Go.Proofs.YthaogbbclocmaaaGreat
