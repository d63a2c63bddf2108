/- leveelaw12.same: all that can be seen of both stores and their disks. -/
import Derived.Test.YtadadidccbhopaaGreatJRwaits9
import Derived.Test.YtadadidccbhopaaGreatJLlay4
import Derived.Deep.CutBlock
import Derived.Deep.DeepCutAuto
namespace Go.Proofs.YtadadidccbhopaaGreat
open Go.RowKit
set_option maxRecDepth 100000
theorem wpAnyH_sub {P : Program} {md : Region.Mode} {ops : Array Oper} {Q : Exit → Act → World → Prop} {S T : World → Prop} (hs : ∀ w, T w → S w) : ∀ (fuel : Nat) (listed : Array Bool) (a : Act) (w : World), wpAnyH P md ops Q T fuel listed a w → wpAnyH P md ops Q S fuel listed a w
  | 0, _, _, _, h => h
  | fuel + 1, _, _, _, h => ⟨h.1, fun i hi => wpOp_mono (fun a' w' h' => ⟨hs _ h'.1, wpAnyH_sub hs fuel _ a' w' h'.2⟩) (h.2 i hi)⟩
theorem lastOf_at : ∀ (sf : List UInt8) (ws : List (List UInt8)), (sf :: ws)[ws.length]? = some (lastOf sf ws)
  | sf, [] => rfl
  | sf, x :: ws => by
    show (x :: ws)[ws.length]? = some ((x :: ws).getLast (by simp))
    rw [List.getLast_eq_getElem, List.getElem?_eq_getElem (by simp)]
    simp
theorem BX.disks {N : Nat} {w0 w : World} {p dp ed q : Nat} {s : PSt} {ops : Nat → List Int} {κ m : Nat} {A : Nat → List Int} {L : List RCh} {D : Nat → Prop} (h : BX N w0 w p dp ed q s ops κ m A L D) :
    ∃ (y : Nat → List UInt8) (ver : Nat → List (List UInt8)) (base gb cb : Nat) (va vc : Nat → Nat), DiskAt w w0.heap.size dp N s.σ.en s.σ.lf s.σ.sf s.σ.ws s.σ.dq s.σ.vs ∧ RefW w base ed N false 0 ver gb cb va vc ∧ (∀ i, i < N → y i = lastOf (s.σ.sf i) (s.σ.ws i)) ∧ (∀ i, (y i).length = 256) ∧ (∀ i, i < N → ver i = s.σ.sf i :: s.σ.ws i) ∧ ∀ i, i < N → (s.σ.sf i).length = 256 := by
  obtain ⟨ver, ⟨gB, cB, ao, ca, base, gb, cb, va, vc, hx⟩, hv⟩ := h.rt
  have hD := h.gw.pm.cs.disk
  rw [h.gw.dp, h.gw.dn] at hD
  refine ⟨fun i => if i < N then lastOf (s.σ.sf i) (s.σ.ws i) else zer, ver, base, gb, cb, va, vc, hD, hx.ds, fun i hi => if_pos hi, fun i => ?_, hv, fun i hi => (hD.row i hi).2.1⟩
  show (if i < N then lastOf (s.σ.sf i) (s.σ.ws i) else zer).length = 256
  split
  · rename_i hi
    exact lastOf_length (hD.row i hi).2.1 (hD.wr i hi).2.1
  · simp [zer]
theorem own_nt {w : World} {base : Nat} {v : Value} {l : List Nat} (h : OwnNt w base v l) : ∃ i c, v = .slice i l.length c ∧ SrcI w i (l.map fun k : Nat => (k : Int)) := by
  obtain ⟨h1, h2⟩ := h
  rcases h2 with ⟨rfl, h3⟩ | ⟨g, cap, cur, rfl, hg, hh, hn, hm, hs, hx⟩
  · exact ⟨none, 0, by rw [h3], .inl (by rw [List.eq_nil_of_length_eq_zero h3]; rfl)⟩
  · refine ⟨_, cap, rfl, .inr ⟨g, 0, rfl, (Array.getElem?_eq_some_iff.1 hh).1, fun j hj => ?_⟩⟩
    rw [List.length_map] at hj
    rw [Nat.zero_add, cell_of_row _ _ _ _ _ _ hh]
    have e : (cur.toList.take (l.length * 1))[j]? = (ints l)[j]? := by rw [hx]
    rw [List.getElem?_take, if_pos (by omega)] at e
    rw [← Array.getElem?_toList, e]
    simp [ints, hj]
section
variable {w0 w w' : World} {p dp ed q : Nat} {s : PSt} {ops : Nat → List Int} {κ m : Nat} {A : Nat → List Int} {L : List RCh} {D : Nat → Prop}
theorem BX.edc {N : Nat} (h : BX N w0 w p dp ed q s ops κ m A L D) : ∃ (lo : Option Addr) (lc : Nat), (lc : Int) ≤ 9223372036854775807 ∧ ∀ W, Below w.heap.size w W → W.cell? ⟨q, 2, none⟩ = some (.slice lo L.length lc) ∧ W.cell? ⟨q, 0, none⟩ = some (.pointer (some ⟨ed, 0, none⟩)) := by
  obtain ⟨ver, ⟨gB, cB, ao, ca, base, gb, cb, va, vc, hx⟩, hv⟩ := h.rt
  exact ⟨ao, ca, hx.at'.ls.cap.2, fun W hW => ⟨(hx.at'.up hW).c2, (cell_of_row _ _ _ _ _ _ (hx.at'.up hW).at').trans rfl⟩⟩
theorem NewB.src {w w1 : World} {s : PSt} {v : Value} {d : List UInt8} (h : NewB w w1 s v d) : ∃ ao cap, v = .slice ao d.length cap ∧ Src w1 ao d := by
  rcases h with ⟨rfl, rfl⟩ | ⟨hO, hl, hA⟩
  · exact ⟨none, 0, rfl, Src.nil _ _⟩
  · obtain ⟨ao, cap, e, hs, _⟩ := hO.form
    exact ⟨ao, cap, e, hs⟩
set_option maxHeartbeats 16000000 in
theorem same12_any (h : BX 5 w0 w p dp ed q s ops κ m A L D) (hκ : κ ≤ 800) :
    Calls Tryz.prog 41 #[.pointer (some ⟨p, 0, none⟩), .pointer (some ⟨dp, 0, none⟩), .pointer (some ⟨q, 0, none⟩)] w fun e w' => e = .returned (.bool true) ∧ ∃ s', BX 5 w0 w' p dp ed q s' ops (κ + 5) m A L D ∧ s'.cnt = s.cnt ∧ s'.C = s.C := by
  have HX : Hid (BX 5 w0 w p dp ed q s ops κ m A L D) := h
  clear h
  go_enter Tryz.func41, Tryz.ntmps41
  go_upto_region 1 with fail
  have HBD : Hid (Below w.heap.size w w.drew) := (Below.refl _ _).drew
  have HX0 : Hid (BX 5 w0 w.drew p dp ed q s ops κ m A L D) := HX.out.up HBD.out
  obtain ⟨lo, lc, hlc, hcc⟩ := HX.out.edc
  have HCC : Hid (∀ W, Below w.heap.size w W → W.cell? ⟨q, 2, none⟩ = some (.slice lo L.length lc) ∧ W.cell? ⟨q, 0, none⟩ = some (.pointer (some ⟨ed, 0, none⟩))) := hcc
  have S0 : Hid (w.drew.cell? ⟨q, 2, none⟩ = some (.slice lo L.length lc) ∧ w.drew.cell? ⟨q, 0, none⟩ = some (.pointer (some ⟨ed, 0, none⟩))) := hcc _ HBD.out
  have PO := (xb_open HX0.out).1
  have hll : (L.length : Int) ≤ 1000 := by have := HX.out.dx.len; omega
  obtain ⟨y, ver, base, gb, cb, va, vc, hd1, hd2, hy, hyl, hv, hsl⟩ := HX.out.disks
  have HDD : Hid (DiskAt w w0.heap.size dp 5 s.σ.en s.σ.lf s.σ.sf s.σ.ws s.σ.dq s.σ.vs ∧ RefW w base ed 5 false 0 ver gb cb va vc) := ⟨hd1, hd2⟩
  have HVV : Hid ((∀ i, i < 5 → y i = lastOf (s.σ.sf i) (s.σ.ws i)) ∧ (∀ i, (y i).length = 256) ∧ (∀ i, i < 5 → ver i = s.σ.sf i :: s.σ.ws i) ∧ ∀ i, i < 5 → (s.σ.sf i).length = 256) := ⟨hy, hyl, hv, hsl⟩
  clear hcc hd1 hd2 hy hyl hv hsl
  refine wp_region_held_drew (S := (fun W => W.cell? ⟨q, 2, none⟩ = some (.slice lo L.length lc) ∧ W.cell? ⟨q, 0, none⟩ = some (.pointer (some ⟨ed, 0, none⟩)))) (by kernel_rfl) S0.out (fun hH => ?_)
  refine takeH (i := 0) (dst := some 12) (v := ?v1) rfl rfl (by kernel_rfl) (by kernel_rfl) (by kernel_rfl) (fun _ _ _ h => h) rfl ?hy1 hH rfl ?rest1
  case hy1 => (intro W hW; (try dsimp only at hW); go_simp; try with_reducible rfl)
  (try simp only [Act.put, List.setIfInBounds_toArray, List.set_cons_zero, List.set_cons_succ])
  refine takeH (i := 2) (dst := some 14) (v := ?v2) rfl rfl (by kernel_rfl) (by kernel_rfl) (by kernel_rfl) (fun _ _ _ h => h) rfl ?hy2 hH rfl ?rest2
  case hy2 => (intro W hW; (try dsimp only at hW); go_simp; try with_reducible rfl)
  (try simp only [Act.put, List.setIfInBounds_toArray, List.set_cons_zero, List.set_cons_succ])
  refine takeH (i := 3) (dst := some 15) (v := ?v3) rfl rfl (by kernel_rfl) (by kernel_rfl) (by kernel_rfl) (fun _ _ _ h => h) rfl ?hy3 hH rfl ?rest3
  case hy3 => (intro W hW; (try dsimp only at hW); go_simp; try with_reducible rfl)
  (try simp only [Act.put, List.setIfInBounds_toArray, List.set_cons_zero, List.set_cons_succ])
  refine takeH (i := 4) (dst := some 16) (v := ?v4) rfl rfl (by kernel_rfl) (by kernel_rfl) (by kernel_rfl) (fun _ _ _ h => h) rfl ?hy4 hH rfl ?rest4
  case hy4 => (intro W hW; (try dsimp only at hW); go_simp; try with_reducible rfl)
  (try simp only [Act.put, List.setIfInBounds_toArray, List.set_cons_zero, List.set_cons_succ])
  refine takeH (i := 5) (dst := some 17) (v := ?v5) rfl rfl (by kernel_rfl) (by kernel_rfl) (by kernel_rfl) (fun _ _ _ h => h) rfl ?hy5 hH rfl ?rest5
  case hy5 => (intro W hW; obtain ⟨e5', _⟩ := hW; go_simp; try with_reducible rfl)
  (try simp only [Act.put, List.setIfInBounds_toArray, List.set_cons_zero, List.set_cons_succ])
  refine takeH (i := 6) (dst := some 18) (v := ?v6) rfl rfl (by kernel_rfl) (by kernel_rfl) (by kernel_rfl) (fun _ _ _ h => h) rfl ?hy6 hH rfl ?rest6
  case hy6 => (intro W hW; (try dsimp only at hW); go_simp; try with_reducible rfl)
  (try simp only [Act.put, List.setIfInBounds_toArray, List.set_cons_zero, List.set_cons_succ])
  refine callH (i := 1) { dst := some 13, op := Go.Op.call { callee := Go.Callee.value (Go.Operand.func 32), args := #[Go.Operand.tmp 12], argTypes := #[30] }, type := 3, pos := "law.go:88", after := #[{ on := 0, ground := Go.Ground.data }], guard := none } (by kernel_rfl) rfl rfl (fun K hK => ?_)
  go_simp
  refine PO.mono ?_
  clear PO
  rintro r wa ⟨rfl, hwa⟩
  obtain rfl : w.drew = wa := hwa.symm
  have DY := xb_dirty HX0.out
  clear hH
  refine hK.out _ _ S0.out (fun hH => ?_)
  clear hK K
  (try simp only [Act.put, List.setIfInBounds_toArray, List.set_cons_zero, List.set_cons_succ])
  refine takeH (i := 7) (dst := some 19) (v := ?v7) rfl rfl (by kernel_rfl) (by kernel_rfl) (by kernel_rfl) (fun _ _ _ h => h) rfl ?hy7 hH rfl ?rest7
  case hy7 => (intro W hW; (try dsimp only at hW); go_simp; try with_reducible rfl)
  (try simp only [Act.put, List.setIfInBounds_toArray, List.set_cons_zero, List.set_cons_succ])
  refine takeH (i := 8) (dst := some 20) (v := ?v8) rfl rfl (by kernel_rfl) (by kernel_rfl) (by kernel_rfl) (fun _ _ _ h => h) rfl ?hy8 hH rfl ?rest8
  case hy8 => (intro W hW; (try dsimp only at hW); go_simp; try with_reducible rfl)
  (try simp only [Act.put, List.setIfInBounds_toArray, List.set_cons_zero, List.set_cons_succ])
  refine takeH (i := 9) (dst := some 21) (v := ?v9) rfl rfl (by kernel_rfl) (by kernel_rfl) (by kernel_rfl) (fun _ _ _ h => h) rfl ?hy9 hH rfl ?rest9
  case hy9 => (intro W hW; (try dsimp only at hW); go_simp; try with_reducible rfl)
  (try simp only [Act.put, List.setIfInBounds_toArray, List.set_cons_zero, List.set_cons_succ])
  refine takeH (i := 11) (dst := some 23) (v := ?v10) rfl rfl (by kernel_rfl) (by kernel_rfl) (by kernel_rfl) (fun _ _ _ h => h) rfl ?hy10 hH rfl ?rest10
  case hy10 => (intro W hW; (try dsimp only at hW); go_simp; try with_reducible rfl)
  (try simp only [Act.put, List.setIfInBounds_toArray, List.set_cons_zero, List.set_cons_succ])
  refine callH (i := 10) { dst := some 22, op := Go.Op.call { callee := Go.Callee.value (Go.Operand.func 33), args := #[Go.Operand.tmp 21], argTypes := #[30] }, type := 49, pos := "law.go:88", after := #[{ on := 9, ground := Go.Ground.data }, { on := 8, ground := Go.Ground.chain }, { on := 8, ground := Go.Ground.guard }], guard := some (8, false) } (by kernel_rfl) rfl rfl (fun K hK => ?_)
  go_simp
  refine DY.mono ?_
  clear DY
  rintro r w3 ⟨v, xs, rfl, hO, hl8, _, hb3, DY⟩
  obtain ⟨io, ic, rfl, hsi, _⟩ := hO.form
  have HIX : Hid (SrcI w3 io xs ∧ xs.length ≤ 1000) := ⟨hsi, by omega⟩
  have HB3 : Hid (Below w.heap.size w w3) := HBD.out.trans (hb3.mono HBD.out.size)
  have S3 : Hid (w3.cell? ⟨q, 2, none⟩ = some (.slice lo L.length lc) ∧ w3.cell? ⟨q, 0, none⟩ = some (.pointer (some ⟨ed, 0, none⟩))) := HCC.out _ HB3.out
  have DYc := DY w3 (Below.refl _ _)
  clear hO hl8 hb3 hsi DY
  clear hH
  refine hK.out _ _ S3.out (fun hH => ?_)
  clear hK K
  (try simp only [Act.put, List.setIfInBounds_toArray, List.set_cons_zero, List.set_cons_succ])
  refine callH (i := 12) { dst := some 24, op := Go.Op.call { callee := Go.Callee.value (Go.Operand.func 75), args := #[Go.Operand.tmp 23], argTypes := #[34] }, type := 49, pos := "law.go:88", after := #[{ on := 11, ground := Go.Ground.data }, { on := 10, ground := Go.Ground.chain }, { on := 8, ground := Go.Ground.guard }], guard := some (8, false) } (by kernel_rfl) rfl rfl (fun K hK => ?_)
  go_simp
  refine DYc.mono ?_
  clear DYc
  rintro r w4 ⟨v, rfl, hO, hb4⟩
  obtain ⟨jo, jc, rfl, hsj, _⟩ := hO.form
  have IN1 := eqInts_any (HIX.out.1.below hb4 (Nat.le_refl _)) hsj HIX.out.2 ic jc
  have HB4 : Hid (Below w.heap.size w w4) := HB3.out.trans (hb4.mono HB3.out.size)
  have S4 : Hid (w4.cell? ⟨q, 2, none⟩ = some (.slice lo L.length lc) ∧ w4.cell? ⟨q, 0, none⟩ = some (.pointer (some ⟨ed, 0, none⟩))) := HCC.out _ HB4.out
  clear hO hsj hb4
  clear hH
  refine hK.out _ _ S4.out (fun hH => ?_)
  clear hK K
  (try simp only [Act.put, List.setIfInBounds_toArray, List.set_cons_zero, List.set_cons_succ])
  refine callH (i := 13) { dst := some 25, op := Go.Op.call { callee := Go.Callee.value (Go.Operand.func 19), args := #[Go.Operand.tmp 22, Go.Operand.tmp 24], argTypes := #[49, 49] }, type := 4, pos := "law.go:88", after := #[{ on := 10, ground := Go.Ground.data }, { on := 12, ground := Go.Ground.data }, { on := 12, ground := Go.Ground.chain }, { on := 8, ground := Go.Ground.guard }], guard := some (8, false) } (by kernel_rfl) rfl rfl (fun K hK => ?_)
  go_simp
  refine IN1.mono ?_
  clear IN1
  rintro r w5 ⟨rfl, hb5⟩
  have HB5 : Hid (Below w.heap.size w w5) := HB4.out.trans (hb5.mono HB4.out.size)
  have S5 : Hid (w5.cell? ⟨q, 2, none⟩ = some (.slice lo L.length lc) ∧ w5.cell? ⟨q, 0, none⟩ = some (.pointer (some ⟨ed, 0, none⟩))) := HCC.out _ HB5.out
  have BY := dbytes_any (HDD.out.1.below HB5.out (Nat.le_refl _)) y HVV.out.1 HVV.out.2.1
  clear hb5
  clear hH
  refine hK.out _ _ S5.out (fun hH => ?_)
  clear hK K
  (try simp only [Act.put, List.setIfInBounds_toArray, List.set_cons_zero, List.set_cons_succ])
  refine takeH (i := 14) (dst := some 26) (v := ?v11) rfl rfl (by kernel_rfl) (by kernel_rfl) (by kernel_rfl) (fun _ _ _ h => h) rfl ?hy11 hH rfl ?rest11
  case hy11 => (intro W hW; (try dsimp only at hW); go_simp; try with_reducible rfl)
  (try simp only [Act.put, List.setIfInBounds_toArray, List.set_cons_zero, List.set_cons_succ])
  refine takeH (i := 15) (dst := some 27) (v := ?v12) rfl rfl (by kernel_rfl) (by kernel_rfl) (by kernel_rfl) (fun _ _ _ h => h) rfl ?hy12 hH rfl ?rest12
  case hy12 => (intro W hW; (try dsimp only at hW); go_simp; try with_reducible rfl)
  (try simp only [Act.put, List.setIfInBounds_toArray, List.set_cons_zero, List.set_cons_succ])
  refine takeH (i := 16) (dst := some 28) (v := ?v13) rfl rfl (by kernel_rfl) (by kernel_rfl) (by kernel_rfl) (fun _ _ _ h => h) rfl ?hy13 hH rfl ?rest13
  case hy13 => (intro W hW; (try dsimp only at hW); go_simp; try with_reducible rfl)
  (try simp only [Act.put, List.setIfInBounds_toArray, List.set_cons_zero, List.set_cons_succ])
  refine takeH (i := 17) (dst := some 29) (v := ?v14) rfl rfl (by kernel_rfl) (by kernel_rfl) (by kernel_rfl) (fun _ _ _ h => h) rfl ?hy14 hH rfl ?rest14
  case hy14 => (intro W hW; (try dsimp only at hW); go_simp; try with_reducible rfl)
  (try simp only [Act.put, List.setIfInBounds_toArray, List.set_cons_zero, List.set_cons_succ])
  refine takeH (i := 20) (dst := some 32) (v := ?v15) rfl rfl (by kernel_rfl) (by kernel_rfl) (by kernel_rfl) (fun _ _ _ h => h) rfl ?hy15 hH rfl ?rest15
  case hy15 => (intro W hW; (try dsimp only at hW); go_simp; try with_reducible rfl)
  (try simp only [Act.put, List.setIfInBounds_toArray, List.set_cons_zero, List.set_cons_succ])
  refine takeH (i := 21) (dst := some 33) (v := ?v16) rfl rfl (by kernel_rfl) (by kernel_rfl) (by kernel_rfl) (fun _ _ _ h => h) rfl ?hy16 hH rfl ?rest16
  case hy16 => (intro W hW; (try dsimp only at hW); go_simp; try with_reducible rfl)
  (try simp only [Act.put, List.setIfInBounds_toArray, List.set_cons_zero, List.set_cons_succ])
  refine takeH (i := 22) (dst := some 34) (v := ?v17) rfl rfl (by kernel_rfl) (by kernel_rfl) (by kernel_rfl) (fun _ _ _ h => h) rfl ?hy17 hH rfl ?rest17
  case hy17 => (intro W hW; (try dsimp only at hW); go_simp; try with_reducible rfl)
  (try simp only [Act.put, List.setIfInBounds_toArray, List.set_cons_zero, List.set_cons_succ])
  refine takeH (i := 23) (dst := some 35) (v := ?v18) rfl rfl (by kernel_rfl) (by kernel_rfl) (by kernel_rfl) (fun _ _ _ h => h) rfl ?hy18 hH rfl ?rest18
  case hy18 => (intro W hW; obtain ⟨_, e0'⟩ := hW; go_simp; try with_reducible rfl)
  (try simp only [Act.put, List.setIfInBounds_toArray, List.set_cons_zero, List.set_cons_succ])
  refine callH (i := 18) { dst := some 30, op := Go.Op.call { callee := Go.Callee.value (Go.Operand.func 17), args := #[Go.Operand.tmp 29], argTypes := #[23] }, type := 36, pos := "law.go:88", after := #[{ on := 17, ground := Go.Ground.data }, { on := 16, ground := Go.Ground.chain }, { on := 16, ground := Go.Ground.guard }], guard := some (16, false) } (by kernel_rfl) rfl rfl (fun K hK => ?_)
  go_simp
  refine BY.mono ?_
  clear BY
  rintro r w6 ⟨e1, rfl, hk1, _, hb6⟩
  have HB6 : Hid (Below w.heap.size w w6) := HB5.out.trans (hb6.mono HB5.out.size)
  have S6 : Hid (w6.cell? ⟨q, 2, none⟩ = some (.slice lo L.length lc) ∧ w6.cell? ⟨q, 0, none⟩ = some (.pointer (some ⟨ed, 0, none⟩))) := HCC.out _ HB6.out
  have HY1 : Hid (Src w6 (some ⟨e1, 0, none⟩) ((List.range 5).flatMap y)) := hk1.src
  have hl1 : 5 * 256 = ((List.range 5).flatMap y).length := by rw [flat_length y HVV.out.2.1]
  have t1 := conv_str HY1.out (5 * 256) (5 * 256) hl1
  have BZ := rbytesd_any (HDD.out.2.below HB6.out) y (fun i hi => ⟨(s.σ.ws i).length, by rw [HVV.out.2.2.1 i hi]; rfl, by rw [HVV.out.2.2.1 i hi, lastOf_at, ← HVV.out.1 i hi]⟩) HVV.out.2.1
  have HLY : Hid (5 * 256 = ((List.range 5).flatMap y).length) := hl1
  clear hk1 hb6 hl1
  clear hH
  refine hK.out _ _ S6.out (fun hH => ?_)
  clear hK K
  (try simp only [Act.put, List.setIfInBounds_toArray, List.set_cons_zero, List.set_cons_succ])
  refine wpAnyH_sub (T := fun W => (W.cell? ⟨q, 2, none⟩ = some (.slice lo L.length lc) ∧ W.cell? ⟨q, 0, none⟩ = some (.pointer (some ⟨ed, 0, none⟩))) ∧ Sem.run Tryz.prog (convert 36 9 (.slice (some ⟨e1, 0, none⟩) (5 * 256) (5 * 256))) W = .ok (.string (str ((List.range 5).flatMap y))) W) (fun _ h => h.1) _ _ _ _ ?_
  replace hH := And.intro hH t1
  clear t1
  refine takeH (i := 19) (dst := some 31) (v := ?v19) rfl rfl (by kernel_rfl) (by kernel_rfl) (by kernel_rfl) (fun _ _ _ h => h) rfl ?hy19 hH rfl ?rest19
  case hy19 => (intro W hW; obtain ⟨_, e1'⟩ := hW; go_simp; try with_reducible rfl)
  (try simp only [Act.put, List.setIfInBounds_toArray, List.set_cons_zero, List.set_cons_succ])
  refine callH (i := 24) { dst := some 36, op := Go.Op.call { callee := Go.Callee.value (Go.Operand.func 18), args := #[Go.Operand.tmp 35], argTypes := #[27] }, type := 36, pos := "law.go:88", after := #[{ on := 23, ground := Go.Ground.data }, { on := 18, ground := Go.Ground.chain }, { on := 16, ground := Go.Ground.guard }], guard := some (16, false) } (by kernel_rfl) rfl rfl (fun K hK => ?_)
  go_simp
  refine BZ.mono ?_
  clear BZ
  rintro r w7 ⟨v7, rfl, hO7, hb7⟩
  obtain ⟨e2, c7, rfl, hs7, _⟩ := hO7.form
  rw [← HLY.out] at hO7 ⊢
  have HB7 : Hid (Below w.heap.size w w7) := HB6.out.trans (hb7.mono HB6.out.size)
  have S7 : Hid (w7.cell? ⟨q, 2, none⟩ = some (.slice lo L.length lc) ∧ w7.cell? ⟨q, 0, none⟩ = some (.pointer (some ⟨ed, 0, none⟩))) := HCC.out _ HB7.out
  have HY2 : Hid (Src w7 e2 ((List.range 5).flatMap y)) := hs7
  have t1 := conv_str (HY1.out.below hb7 (Nat.le_refl _)) (5 * 256) (5 * 256) HLY.out
  have t2 := conv_str HY2.out (5 * 256) c7 HLY.out
  have OA := open_any (HDD.out.1.below HB7.out (Nat.le_refl _))
  have HY3 : Hid (Src w7 (some ⟨e1, 0, none⟩) ((List.range 5).flatMap y)) := HY1.out.below hb7 (Nat.le_refl _)
  clear hO7 hb7 hs7
  clear hH
  refine hK.out _ _ (And.intro S7.out t1) (fun hH => ?_)
  clear hK K
  (try simp only [Act.put, List.setIfInBounds_toArray, List.set_cons_zero, List.set_cons_succ])
  refine wpAnyH_sub (T := fun W => ((W.cell? ⟨q, 2, none⟩ = some (.slice lo L.length lc) ∧ W.cell? ⟨q, 0, none⟩ = some (.pointer (some ⟨ed, 0, none⟩))) ∧ Sem.run Tryz.prog (convert 36 9 (.slice (some ⟨e1, 0, none⟩) (5 * 256) (5 * 256))) W = .ok (.string (str ((List.range 5).flatMap y))) W) ∧ Sem.run Tryz.prog (convert 36 9 (.slice e2 (5 * 256) c7)) W = .ok (.string (str ((List.range 5).flatMap y))) W) (fun _ h => h.1) _ _ _ _ ?_
  replace hH := And.intro hH t2
  clear t1 t2
  refine takeH (i := 25) (dst := some 37) (v := ?v20) rfl rfl (by kernel_rfl) (by kernel_rfl) (by kernel_rfl) (fun _ _ _ h => h) rfl ?hy20 hH rfl ?rest20
  case hy20 => (intro W hW; obtain ⟨_, e2'⟩ := hW; go_simp; try with_reducible rfl)
  (try simp only [Act.put, List.setIfInBounds_toArray, List.set_cons_zero, List.set_cons_succ])
  refine takeH (i := 26) (dst := some 38) (v := ?v21) rfl rfl (by kernel_rfl) (by kernel_rfl) (by kernel_rfl) (fun _ _ _ h => h) rfl ?hy21 hH rfl ?rest21
  case hy21 => (intro W hW; (try dsimp only at hW); go_simp; try with_reducible rfl)
  (try simp only [Act.put, List.setIfInBounds_toArray, List.set_cons_zero, List.set_cons_succ])
  refine takeH (i := 27) (dst := some 39) (v := ?v22) rfl rfl (by kernel_rfl) (by kernel_rfl) (by kernel_rfl) (fun _ _ _ h => h) rfl ?hy22 hH rfl ?rest22
  case hy22 => (intro W hW; (try dsimp only at hW); go_simp; try with_reducible rfl)
  (try simp only [Act.put, List.setIfInBounds_toArray, List.set_cons_zero, List.set_cons_succ])
  refine takeH (i := 28) (dst := some 40) (v := ?v23) rfl rfl (by kernel_rfl) (by kernel_rfl) (by kernel_rfl) (fun _ _ _ h => h) rfl ?hy23 hH rfl ?rest23
  case hy23 => (intro W hW; (try dsimp only at hW); go_simp; try with_reducible rfl)
  (try simp only [Act.put, List.setIfInBounds_toArray, List.set_cons_zero, List.set_cons_succ])
  refine takeH (i := 29) (dst := some 41) (v := ?v24) rfl rfl (by kernel_rfl) (by kernel_rfl) (by kernel_rfl) (fun _ _ _ h => h) rfl ?hy24 hH rfl ?rest24
  case hy24 => (intro W hW; (try dsimp only at hW); go_simp; try with_reducible rfl)
  (try simp only [Act.put, List.setIfInBounds_toArray, List.set_cons_zero, List.set_cons_succ])
  refine takeH (i := 31) (dst := some 43) (v := ?v25) rfl rfl (by kernel_rfl) (by kernel_rfl) (by kernel_rfl) (fun _ _ _ h => h) rfl ?hy25 hH rfl ?rest25
  case hy25 => (intro W hW; (try dsimp only at hW); go_simp; try with_reducible rfl)
  (try simp only [Act.put, List.setIfInBounds_toArray, List.set_cons_zero, List.set_cons_succ])
  refine takeH (i := 32) (dst := some 44) (v := ?v26) rfl rfl (by kernel_rfl) (by kernel_rfl) (by kernel_rfl) (fun _ _ _ h => h) rfl ?hy26 hH rfl ?rest26
  case hy26 => (intro W hW; (try dsimp only at hW); go_simp; try with_reducible rfl)
  (try simp only [Act.put, List.setIfInBounds_toArray, List.set_cons_zero, List.set_cons_succ])
  refine takeH (i := 33) (dst := some 45) (v := ?v27) rfl rfl (by kernel_rfl) (by kernel_rfl) (by kernel_rfl) (fun _ _ _ h => h) rfl ?hy27 hH rfl ?rest27
  case hy27 => (intro W hW; (try dsimp only at hW); go_simp; try with_reducible rfl)
  (try simp only [Act.put, List.setIfInBounds_toArray, List.set_cons_zero, List.set_cons_succ])
  refine takeH (i := 34) (dst := some 46) (v := ?v28) rfl rfl (by kernel_rfl) (by kernel_rfl) (by kernel_rfl) (fun _ _ _ h => h) rfl ?hy28 hH rfl ?rest28
  case hy28 => (intro W hW; obtain ⟨⟨⟨_, e0'⟩, _⟩, _⟩ := hW; go_simp; try with_reducible rfl)
  (try simp only [Act.put, List.setIfInBounds_toArray, List.set_cons_zero, List.set_cons_succ])
  refine callH (i := 30) { dst := some 42, op := Go.Op.call { callee := Go.Callee.value (Go.Operand.func 20), args := #[Go.Operand.tmp 41], argTypes := #[23] }, type := 49, pos := "law.go:88", after := #[{ on := 29, ground := Go.Ground.data }, { on := 28, ground := Go.Ground.chain }, { on := 28, ground := Go.Ground.guard }], guard := some (28, false) } (by kernel_rfl) rfl rfl (fun K hK => ?_)
  go_simp
  refine OA.mono ?_
  clear OA
  rintro r w8 ⟨v8, rfl, hO8, hb8⟩
  have HC8 : Hid (Below w7.heap.size w7 w8) := hb8
  obtain ⟨i8, c8, rfl, hs8⟩ := own_nt hO8
  have HI8 : Hid (SrcI w8 i8 ((openL s.σ.ws 5).map fun k : Nat => (k : Int))) := hs8
  have HB8 : Hid (Below w.heap.size w w8) := HB7.out.trans (hb8.mono HB7.out.size)
  have OB := rdopen_any (HDD.out.2.below HB8.out) s.σ.ws (fun i hi => by rw [HVV.out.2.2.1 i hi]; rfl)
  have t1 : ((w8.cell? ⟨q, 2, none⟩ = some (.slice lo L.length lc) ∧ w8.cell? ⟨q, 0, none⟩ = some (.pointer (some ⟨ed, 0, none⟩))) ∧ Sem.run Tryz.prog (convert 36 9 (.slice (some ⟨e1, 0, none⟩) (5 * 256) (5 * 256))) w8 = .ok (.string (str ((List.range 5).flatMap y))) w8) ∧ Sem.run Tryz.prog (convert 36 9 (.slice e2 (5 * 256) c7)) w8 = .ok (.string (str ((List.range 5).flatMap y))) w8 := ⟨⟨HCC.out _ HB8.out, conv_str (HY3.out.below HC8.out (Nat.le_refl _)) _ _ HLY.out⟩, conv_str (HY2.out.below HC8.out (Nat.le_refl _)) _ _ HLY.out⟩
  clear hO8 hb8 hs8
  clear hH
  refine hK.out _ _ t1 (fun hH => ?_)
  clear hK K
  (try simp only [Act.put, List.setIfInBounds_toArray, List.set_cons_zero, List.set_cons_succ])
  clear t1
  refine callH (i := 35) { dst := some 47, op := Go.Op.call { callee := Go.Callee.value (Go.Operand.func 21), args := #[Go.Operand.tmp 46], argTypes := #[27] }, type := 49, pos := "law.go:88", after := #[{ on := 34, ground := Go.Ground.data }, { on := 30, ground := Go.Ground.chain }, { on := 28, ground := Go.Ground.guard }], guard := some (28, false) } (by kernel_rfl) rfl rfl (fun K hK => ?_)
  go_simp
  refine OB.mono ?_
  clear OB
  rintro r w9 ⟨v9, rfl, hO9, hb9⟩
  have HC9 : Hid (Below w7.heap.size w7 w9) := HC8.out.trans (hb9.mono HC8.out.size)
  obtain ⟨i9, c9, rfl, hs9⟩ := own_nt hO9
  have HB9 : Hid (Below w.heap.size w w9) := HB8.out.trans (hb9.mono HB8.out.size)
  have IN := eqInts_any (HI8.out.below hb9 (Nat.le_refl _)) hs9 (by have := openL_len s.σ.ws 5; simp; omega) c8 c9
  rw [List.length_map] at IN
  have t1 : ((w9.cell? ⟨q, 2, none⟩ = some (.slice lo L.length lc) ∧ w9.cell? ⟨q, 0, none⟩ = some (.pointer (some ⟨ed, 0, none⟩))) ∧ Sem.run Tryz.prog (convert 36 9 (.slice (some ⟨e1, 0, none⟩) (5 * 256) (5 * 256))) w9 = .ok (.string (str ((List.range 5).flatMap y))) w9) ∧ Sem.run Tryz.prog (convert 36 9 (.slice e2 (5 * 256) c7)) w9 = .ok (.string (str ((List.range 5).flatMap y))) w9 := ⟨⟨HCC.out _ HB9.out, conv_str (HY3.out.below HC9.out (Nat.le_refl _)) _ _ HLY.out⟩, conv_str (HY2.out.below HC9.out (Nat.le_refl _)) _ _ HLY.out⟩
  clear hO9 hb9 hs9
  clear hH
  refine hK.out _ _ t1 (fun hH => ?_)
  clear hK K
  (try simp only [Act.put, List.setIfInBounds_toArray, List.set_cons_zero, List.set_cons_succ])
  clear t1
  refine callH (i := 36) { dst := some 48, op := Go.Op.call { callee := Go.Callee.value (Go.Operand.func 19), args := #[Go.Operand.tmp 42, Go.Operand.tmp 47], argTypes := #[49, 49] }, type := 4, pos := "law.go:88", after := #[{ on := 30, ground := Go.Ground.data }, { on := 35, ground := Go.Ground.data }, { on := 35, ground := Go.Ground.chain }, { on := 28, ground := Go.Ground.guard }], guard := some (28, false) } (by kernel_rfl) rfl rfl (fun K hK => ?_)
  go_simp
  refine IN.mono ?_
  clear IN
  rintro r w10 ⟨rfl, hb10⟩
  have HC10 : Hid (Below w7.heap.size w7 w10) := HC9.out.trans (hb10.mono HC9.out.size)
  have HB10 : Hid (Below w.heap.size w w10) := HB9.out.trans (hb10.mono HB9.out.size)
  have HBE2 : Hid (Below w.heap.size w w10) := HB10.out
  have t1 : ((w10.cell? ⟨q, 2, none⟩ = some (.slice lo L.length lc) ∧ w10.cell? ⟨q, 0, none⟩ = some (.pointer (some ⟨ed, 0, none⟩))) ∧ Sem.run Tryz.prog (convert 36 9 (.slice (some ⟨e1, 0, none⟩) (5 * 256) (5 * 256))) w10 = .ok (.string (str ((List.range 5).flatMap y))) w10) ∧ Sem.run Tryz.prog (convert 36 9 (.slice e2 (5 * 256) c7)) w10 = .ok (.string (str ((List.range 5).flatMap y))) w10 := ⟨⟨HCC.out _ HB10.out, conv_str (HY3.out.below HC10.out (Nat.le_refl _)) _ _ HLY.out⟩, conv_str (HY2.out.below HC10.out (Nat.le_refl _)) _ _ HLY.out⟩
  clear hb10
  clear hH
  refine hK.out _ _ t1 (fun hH => ?_)
  clear hK K
  (try simp only [Act.put, List.setIfInBounds_toArray, List.set_cons_zero, List.set_cons_succ])
  clear t1
  refine takeH (i := 37) (dst := some 49) (v := ?v29) rfl rfl (by kernel_rfl) (by kernel_rfl) (by kernel_rfl) (fun _ _ _ h => h) rfl ?hy29 hH rfl ?rest29
  case hy29 => (intro W hW; (try dsimp only at hW); go_simp; try with_reducible rfl)
  (try simp only [Act.put, List.setIfInBounds_toArray, List.set_cons_zero, List.set_cons_succ])
  refine takeH (i := 38) (dst := some 50) (v := ?v30) rfl rfl (by kernel_rfl) (by kernel_rfl) (by kernel_rfl) (fun _ _ _ h => h) rfl ?hy30 hH rfl ?rest30
  case hy30 => (intro W hW; (try dsimp only at hW); go_simp; try with_reducible rfl)
  (try simp only [Act.put, List.setIfInBounds_toArray, List.set_cons_zero, List.set_cons_succ])
  refine wpAnyH_done (by kernel_rfl) ?_ _
  clear hH
  go_wp2_with fail
  go_loopg [7, 8, 9, 10, 11] 5 (fun gg t7 _ _ _ _ W => ∃ (g2 : World) (j : Nat) (s1 : PSt), g2 = W ∧ j ≤ 5 ∧ 5 - j ≤ gg ∧ t7 = .int .i64 j ∧ Hid (BX 5 w0 g2 p dp ed q s1 ops (κ + j) m A L D ∧ s1.cnt = s.cnt ∧ s1.C = s.C))
  case atStart => exact ⟨_, 0, s, rfl, by omega, by omega, rfl, HX.out.up HBE2.out, rfl, rfl⟩
  case round =>
    clear HBE2
    obtain ⟨g2, j, s1, rfl, hj, hgj, rfl, H2⟩ := hrel
    by_cases hj5 : (j : Int) < 5
    · have RD := xb_read H2.out.1 (by omega) (j : Int)
      go_wp2_with (first | (go_at_call 34; refine Hid.out ?_))
      change Calls _ _ _ _ _
      refine RD.mono ?_
      clear RD
      rintro r g3 ⟨v, d, e, s3, rfl, hN3, hX3, hC3, hc3, _, _, _, RD⟩
      obtain ⟨ao, cap, rfl, hsx⟩ := hN3.src
      have H3 : Hid (BX 5 w0 g3 p dp ed q s3 ops (κ + (j + 1)) m A L D ∧ s3.cnt = s.cnt ∧ s3.C = s.C ∧ Src g3 ao d) := ⟨hX3, hc3.trans H2.out.2.1, hC3.trans H2.out.2.2, hsx⟩
      clear hN3 hX3 hC3 hc3 hsx
      go_wp2_with (first | (go_at_call 68; refine Hid.out ?_))
      change Calls _ _ _ _ _
      refine RD.mono ?_
      clear RD
      rintro r g4 ⟨xo, xc, rfl, hsy, hb4, _⟩
      have H4 : Hid (BX 5 w0 g4 p dp ed q s3 ops (κ + (j + 1)) m A L D) := H3.out.1.up hb4
      have t1 := conv_str (H3.out.2.2.2.below hb4 (Nat.le_refl _)) d.length cap rfl
      have t2 := conv_str hsy d.length xc rfl
      generalize str d = S1 at *
      clear hsy hb4
      go_wp2_with fail
      go_roundg (5 - (j + 1))
      case measure => omega
      case rel => exact ⟨_, j + 1, s3, rfl, by omega, by omega, by go_num, H4.out, H3.out.2.1, H3.out.2.2.1⟩
    · obtain rfl : j = 5 := by omega
      go_wp2_with fail
      go_ret
      exact ⟨rfl, s1, H2.out⟩
end
end Go.Proofs.YtadadidccbhopaaGreat
