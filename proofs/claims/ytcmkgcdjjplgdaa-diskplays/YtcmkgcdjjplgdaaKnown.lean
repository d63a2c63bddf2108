/- leveelaw02.known. -/
import Derived.Test.YtcmkgcdjjplgdaaState
import Derived.Lib.SlBytesConst
import Derived.Deep.RegionHeld3
namespace Go.Proofs.Ytcmkgcdjjplgdaa
open Go.RowKit
theorem alloc_size (w : World) (o : Obj) : (w.alloc o).heap.size = w.heap.size + 1 := by show (w.heap.push _).size = _; simp
theorem cell_one (w : World) (v : Value) (t : TypeId) (f : Nat × Nat) : (w.alloc (.cells #[v] t f)).cell? ⟨w.heap.size, 0, none⟩ = some v := by
  have h : (w.alloc (.cells #[v] t f)).heap[w.heap.size]? = some (.cells #[v] t f) := by show (w.heap.push _)[w.heap.size]? = _; simp
  unfold World.cell?; rw [h]; rfl
theorem one_src (w : World) (x : UInt8) (f : Nat × Nat) : Src (w.alloc (.cells #[Value.int .u8 (x.toNat : Int)] 5 f)) (some ⟨w.heap.size, 0, none⟩) [x] :=
  .inr ⟨_, _, rfl, by rw [alloc_size]; omega, fun j hj => by
    obtain rfl : j = 0 := by simp at hj; omega
    exact cell_one _ _ _ _⟩
/-- Fill of the bytes of a constant string of one byte. -/
theorem fill_one (w : World) (x : UInt8) :
    Calls Try.prog 12 #[.slice (some ⟨w.heap.size, 0, none⟩) 1 1] (w.alloc (.cells #[Value.int .u8 (x.toNat : Int)] 5 (1, 2))) fun e w' => ∃ g, e = .returned (.slice (some ⟨g, 0, none⟩) 256 256) ∧ Blk w' g 5 (fillL [x]) ∧ w.heap.size ≤ g ∧ Below w.heap.size w w' :=
  (fill_any _ _ 1 [x] (one_src w x _) (by simp)).mono fun _ _ ⟨g, h1, h2, h3, h4⟩ => ⟨g, h1, h2, by rw [alloc_size] at h3; omega, ((Below.refl _ _).alloc (Nat.le_refl _) _).trans (h4.mono (by rw [alloc_size]; omega))⟩
def FillOne (x : Int) (l : List UInt8) : Prop := ∀ w : World, Calls Try.prog 12 #[.slice (some ⟨w.heap.size, 0, none⟩) 1 1] (w.alloc (.cells #[Value.int .u8 x] 5 (1, 2))) fun e w' => ∃ g, e = .returned (.slice (some ⟨g, 0, none⟩) 256 256) ∧ Blk w' g 5 l ∧ w.heap.size ≤ g ∧ Below w.heap.size w w'
theorem conv_one (w : World) (x : Int) : (convert 31 31 (.slice (some ⟨w.heap.size, 0, none⟩) 1 1)).run Try.prog (w.alloc (.cells #[Value.int .u8 x] 5)) = .ok (.slice (some ⟨w.heap.size, 0, none⟩) 1 1) (w.alloc (.cells #[Value.int .u8 x] 5 (1, 2))) :=
  Lib.run_convert_bytes_const w 31 5 _ 1 1 Try.underlying31 Try.underlying5
theorem takeH {P : Program} {ops : Array Oper} {md : Region.Mode} {Q : Exit → Act → World → Prop} {S : World → Prop} {i : Nat} {oi : Oper} {v : Value} {dst : Option Tmp} {fuel : Nat} {listed l2 : Array Bool} {a : Act} {w : World} (hi : ops[i]? = some oi) (hd : oi.dst = dst)
    (hs : Region.noSelect ops = true) (hf : Region.free md ops listed i = true) (hr : (Region.ready md ops listed).contains i = true) (hQ : ∀ c a w, Q (.panic c) (a.put oi.dst v) w → Q (.panic c) a w) (hw : Region.wanted oi (yielded ops a.tmps) = true) (hy : ∀ w, S w → (execOp a.eval oi).run P w = .ok (.value v) w) (hS : S w) (hl : listed.setIfInBounds i true = l2)
    (h : wpAnyH P md ops Q S fuel l2 (a.put dst v) w) : wpAnyH P md ops Q S (fuel + 1) listed a w :=
  wpAnyH_take hi hs hf hr hQ (Or.inl ⟨hw, hy⟩) hS (by rw [hd, hl]; exact h)
theorem readyH {P : Program} {ops : Array Oper} {md : Region.Mode} {Q : Exit → Act → World → Prop} {S : World → Prop} {i : Nat} {o : Oper} {v : Value} {dst : Option Tmp} {fuel : Nat} {listed l2 : Array Bool} {a : Act} {w w' : World} (hr : Region.ready md ops listed = [i]) (ho : ops[i]? = some o) (hd : o.dst = dst) (hw : Region.wanted o (yielded ops a.tmps) = true)
    (hrun : (execOp a.eval o).run P w = .ok (.value v) w') (hl : listed.setIfInBounds i true = l2) (hS : S w') (h : wpAnyH P md ops Q S fuel l2 (a.put dst v) w') : wpAnyH P md ops Q S (fuel + 1) listed a w :=
  wpAnyH_ready hr (by simp) (AllReadyH.cons ho (fun K hK => by
    rw [if_pos hw]
    unfold Oper.wp
    rw [hrun]
    exact hK.out _ _ hS (fun _ => by rw [hd, hl]; exact h)) AllReadyH.nil)
theorem callH {P : Program} {ops : Array Oper} {md : Region.Mode} {Q : Exit → Act → World → Prop} {S : World → Prop} {i : Nat} (o : Oper) {fuel : Nat} {listed l2 : Array Bool} {a : Act} {w : World} (hr : Region.ready md ops listed = [i]) (ho : ops[i]? = some o) (hl : listed.setIfInBounds i true = l2)
    (h : ∀ K : Act → World → Prop, Shut (∀ a w, S w → (S w → wpAnyH P md ops Q S fuel l2 a w) → K a w) → if Region.wanted o (yielded ops a.tmps) = true then Oper.wp P o a w K Q else K (a.put o.dst undef) w) : wpAnyH P md ops Q S (fuel + 1) listed a w :=
  wpAnyH_ready hr (by simp) (AllReadyH.cons ho (fun K hK => h K (by rw [← hl]; exact hK)) AllReadyH.nil)
theorem goesL_off (lf : Int) : goesL false lf = lf := rfl
set_option maxHeartbeats 4000000 in
set_option maxRecDepth 100000 in
theorem known_any (w : World) : Calls Try.prog 7 #[] w fun e w' => e = .returned (.bool true) ∧ Below w.heap.size w w' := by
  have NEW := new_any w 3 (by omega) (by omega)
  have FA : Hid (FillOne 65 (fillL [65])) := fun v => fill_one v 65
  have FB : Hid (FillOne 66 (fillL [66])) := fun v => fill_one v 66
  have FC : Hid (FillOne 67 (fillL [67])) := fun v => fill_one v 67
  have CV := conv_one
  go_enter Try.func7, Try.ntmps7
  go_wp2_with fail
  refine NEW.mono ?_
  rintro e w1 ⟨p, q, rfl, h1, hb1⟩
  clear NEW
  have H1 : Hid _ := h1
  clear h1
  go_wp2_with fail
  refine (FA.out w1).mono ?_
  rintro e w2 ⟨g, rfl, hg2, hgl2, hb2⟩
  have h2 := H1.out.below hb2 (Nat.le_refl _)
  have W2 := write_go h2 (by omega) 1 (by omega) (by simp) (fillL [65]) (fillL_length _) g 0 256 hg2.src (by have := H1.out.pl; omega) rfl
  have hs2 := H1.out.pb
  have hs1 := H1.out.pl
  have hb02 : Below w.heap.size w w2 := hb1.trans (hb2.mono (by omega))
  clear H1 h2 hg2 hb1 hb2 FA
  go_wp2_with fail
  refine W2.mono ?_
  rintro e w3 ⟨rfl, ⟨v3, h3⟩, hb3⟩
  clear W2
  rw [goesL_off] at h3
  have FL := flush_at h3 (by omega) rfl
  have hb03 : Below w.heap.size w w3 := hb02.trans hb3
  clear h3 hb3 hb02
  go_wp2_with fail
  refine FL.mono ?_
  rintro e w4 ⟨rfl, ⟨v4, h4⟩, hb4⟩
  clear FL
  rw [goesL_off] at h4
  have H4 : Hid _ := h4
  have hb04 : Below w.heap.size w w4 := hb03.trans hb4
  clear h4 hb4 hb03
  go_wp2_with fail
  refine (FB.out w4).mono ?_
  rintro e w5 ⟨g5, rfl, hg5, hgl5, hb5⟩
  have h5 := H4.out.below hb5 (Nat.le_refl _)
  have W5 := write_go h5 (by omega) 1 (by omega) (by simp) (fillL [66]) (fillL_length _) g5 0 256 hg5.src (by have := H4.out.pl; omega) rfl
  have hs4 := H4.out.pl
  have hb05 : Below w.heap.size w w5 := hb04.trans (hb5.mono (by omega))
  clear H4 h5 hg5 hb5 hb04
  go_wp2_with fail
  refine W5.mono ?_
  rintro e w6 ⟨rfl, ⟨v6, h6⟩, hb6⟩
  clear W5
  rw [goesL_off] at h6
  have H6 : Hid _ := h6
  have hb06 : Below w.heap.size w w6 := hb05.trans hb6
  clear h6 hb6 hb05
  go_wp2_with fail
  refine (FC.out w6).mono ?_
  rintro e w7 ⟨g7, rfl, hg7, hgl7, hb7⟩
  have h7 := H6.out.below hb7 (Nat.le_refl _)
  have W7 := write_go h7 (by omega) 1 (by omega) (by simp [upd]) (fillL [67]) (fillL_length _) g7 0 256 hg7.src (by have := H6.out.pl; omega) rfl
  have hs6 := H6.out.pl
  have hb07 : Below w.heap.size w w7 := hb06.trans (hb7.mono (by omega))
  clear H6 h7 hg7 hb7 hb06 FC
  go_wp2_with fail
  refine W7.mono ?_
  rintro e w8 ⟨rfl, ⟨v8, h8⟩, hb8⟩
  clear W7
  rw [goesL_off] at h8
  have hs8 := h8.ql
  have hp8 := h8.pl
  have hb08 : Below w.heap.size w w8 := hb07.trans hb8
  have hbA : Below w8.heap.size w8 (w8.alloc (.cells #[Value.int .i64 1] 3)) := (Below.refl _ _).alloc (Nat.le_refl _) _
  have h9 := h8.below hbA (Nat.le_refl _)
  have hPK : PickAt (w8.alloc (.cells #[Value.int .i64 1] 3)) q (some ⟨w8.heap.size, 0, none⟩) 1 (fun _ => 1) := fun _ => ⟨w8.heap.size, 0, rfl, by omega, by rw [alloc_size]; omega, fun k hk => by
    obtain rfl : k = 0 := by omega
    exact cell_one _ _ _ _⟩
  have CR := crash_at h9 (some ⟨w8.heap.size, 0, none⟩) 1 1 (fun _ => 1) hPK ⟨by omega, by omega⟩
  clear h8 h9 hPK hb8 hb07
  go_wp2_with fail
  refine CR.mono ?_
  rintro e w10 ⟨rfl, ⟨v10, h10⟩, hb10⟩
  clear CR
  have hb010 : Below w.heap.size w w10 := hb08.trans ((hbA.mono (by have := hb08.size; omega)).trans hb10)
  clear hb08 hbA hb10
  have RD := read_any h10 1 (by omega)
  go_wp2_with fail
  refine RD.mono ?_
  rintro e w11 ⟨g11, rfl, hg11, hgl11, hb11⟩
  clear RD
  have hv : Blk w11 g11 70 (fillL [66]) := hg11
  have hyl := fillL_length [66]
  clear hg11
  generalize fillL [66] = y at *
  have hb011 : Below w.heap.size w w11 := hb010.trans (hb11.mono hb010.size)
  have h11 := h10.below hb11 (Nat.le_refl _)
  have XS : Hid (∀ W, Below w11.heap.size w11 W → Sem.run Try.prog (convert 31 9 (.slice (some ⟨g11, 0, none⟩) 256 256)) W = .ok (.string (str y)) W) := fun W hW => conv_str (hv.src.below hW (Nat.le_refl _)) 256 256 hyl.symm
  have DS : Hid (∀ W, Below w11.heap.size w11 W → Calls Try.prog 30 #[.pointer (some ⟨p, 0, none⟩), .int .i64 1] W (fun e w' => e = .returned (.int .i64 0) ∧ w' = W) ∧ Calls Try.prog 18 #[.pointer (some ⟨p, 0, none⟩)] W (fun e w' => e = .returned (.int .i64 3) ∧ w' = W)) := fun W hW => ⟨writes_any (h11.below hW (Nat.le_refl _)) 1 (by omega), len_any (h11.below hW (Nat.le_refl _))⟩
  have hB : Below w11.heap.size w11 w11.drew := (Below.refl _ _).drew
  have hB2 := hB.alloc (Nat.le_refl _) (.cells #[Value.int .u8 66] 5)
  have hB3 := hB.alloc (Nat.le_refl _) (.cells #[Value.int .u8 66] 5 (1, 2))
  have K1 : Hid _ := And.intro (XS.out _ hB) hB
  have K2 : Hid _ := And.intro (XS.out _ hB2) hB2
  have K3 : Hid _ := And.intro (XS.out _ hB3) hB3
  have CV2 : Sem.run Try.prog (convert 31 31 (.slice (some ⟨w11.heap.size, 0, none⟩) 1 1)) (w11.alloc (.cells #[Value.int .u8 66] 5)).drew = .ok (.slice (some ⟨w11.heap.size, 0, none⟩) 1 1) (w11.alloc (.cells #[Value.int .u8 66] 5 (1, 2))).drew := conv_one w11.drew 66
  clear hB hB2 hB3
  have HYL : Hid _ := hyl
  clear hyl h10 h11 hb010 hb11 hv
  go_wp2_with fail
  refine wp_region_held_drew (S := fun W => Sem.run Try.prog (convert 31 9 (.slice (some ⟨g11, 0, none⟩) 256 256)) W = .ok (.string (str y)) W ∧ Below w11.heap.size w11 W) (by kernel_rfl) K1.out (fun hH => ?_)
  clear hH
  refine takeH (i := 0) (dst := some 41) (v := .int .i64 0) rfl rfl (by kernel_rfl) (by kernel_rfl) (by kernel_rfl) (fun _ _ _ h => h) rfl (fun W hW => by obtain ⟨hW1, hW2⟩ := hW; go_simp) K1.out rfl ?_
  simp only [Act.put, List.setIfInBounds_toArray, List.set_cons_succ, List.set_cons_zero]
  refine takeH (i := 1) (dst := some 42) (v := .bool true) rfl rfl (by kernel_rfl) (by kernel_rfl) (by kernel_rfl) (fun _ _ _ h => h) rfl (fun W hW => by obtain ⟨hW1, hW2⟩ := hW; go_simp) K1.out rfl ?_
  simp only [Act.put, List.setIfInBounds_toArray, List.set_cons_succ, List.set_cons_zero]
  refine takeH (i := 2) (dst := some 43) (v := .bool true) rfl rfl (by kernel_rfl) (by kernel_rfl) (by kernel_rfl) (fun _ _ _ h => h) rfl (fun W hW => by obtain ⟨hW1, hW2⟩ := hW; go_simp) K1.out rfl ?_
  simp only [Act.put, List.setIfInBounds_toArray, List.set_cons_succ, List.set_cons_zero]
  refine takeH (i := 3) (dst := some 44) (v := .int .i64 0) rfl rfl (by kernel_rfl) (by kernel_rfl) (by kernel_rfl) (fun _ _ _ h => h) rfl (fun W hW => by obtain ⟨hW1, hW2⟩ := hW; go_simp) K1.out rfl ?_
  simp only [Act.put, List.setIfInBounds_toArray, List.set_cons_succ, List.set_cons_zero]
  refine takeH (i := 4) (dst := some 45) (v := .bool true) rfl rfl (by kernel_rfl) (by kernel_rfl) (by kernel_rfl) (fun _ _ _ h => h) rfl (fun W hW => by obtain ⟨hW1, hW2⟩ := hW; go_simp) K1.out rfl ?_
  simp only [Act.put, List.setIfInBounds_toArray, List.set_cons_succ, List.set_cons_zero]
  refine takeH (i := 5) (dst := some 46) (v := .bool true) rfl rfl (by kernel_rfl) (by kernel_rfl) (by kernel_rfl) (fun _ _ _ h => h) rfl (fun W hW => by obtain ⟨hW1, hW2⟩ := hW; go_simp) K1.out rfl ?_
  simp only [Act.put, List.setIfInBounds_toArray, List.set_cons_succ, List.set_cons_zero]
  refine takeH (i := 6) (dst := some 47) (v := .bool true) rfl rfl (by kernel_rfl) (by kernel_rfl) (by kernel_rfl) (fun _ _ _ h => h) rfl (fun W hW => by obtain ⟨hW1, hW2⟩ := hW; go_simp) K1.out rfl ?_
  simp only [Act.put, List.setIfInBounds_toArray, List.set_cons_succ, List.set_cons_zero]
  refine takeH (i := 7) (dst := some 48) (v := .slice (some ⟨g11, 0, none⟩) 256 256) rfl rfl (by kernel_rfl) (by kernel_rfl) (by kernel_rfl) (fun _ _ _ h => h) rfl (fun W hW => by obtain ⟨hW1, hW2⟩ := hW; go_simp) K1.out rfl ?_
  simp only [Act.put, List.setIfInBounds_toArray, List.set_cons_succ, List.set_cons_zero]
  refine takeH (i := 8) (dst := some 49) (v := .string (str y)) rfl rfl (by kernel_rfl) (by kernel_rfl) (by kernel_rfl) (fun _ _ _ h => h) rfl (fun W hW => by obtain ⟨hW1, hW2⟩ := hW; go_simp) K1.out rfl ?_
  simp only [Act.put, List.setIfInBounds_toArray, List.set_cons_succ, List.set_cons_zero]
  refine readyH (i := 9) (dst := some 50) (v := .slice (some ⟨w11.heap.size, 0, none⟩) 1 1) (w' := (w11.alloc (.cells #[Value.int .u8 66] 5)).drew) (by kernel_rfl) rfl rfl rfl (by go_simp) rfl K2.out ?_
  simp only [Act.put, List.setIfInBounds_toArray, List.set_cons_succ, List.set_cons_zero]
  refine readyH (i := 10) (dst := some 51) (v := .slice (some ⟨w11.heap.size, 0, none⟩) 1 1) (w' := (w11.alloc (.cells #[Value.int .u8 66] 5 (1, 2))).drew) (by kernel_rfl) rfl rfl rfl (by go_simp) rfl K3.out ?_
  simp only [Act.put, List.setIfInBounds_toArray, List.set_cons_succ, List.set_cons_zero]
  refine callH (i := 11) { dst := some 52, op := Go.Op.call { callee := Go.Callee.value (Go.Operand.func 12), args := #[Go.Operand.tmp 51], argTypes := #[31] }, type := 31, pos := "law.go:23", after := #[{ on := 10, ground := Go.Ground.data }, { on := 6, ground := Go.Ground.chain }, { on := 6, ground := Go.Ground.guard }], guard := some (6, true) } (by kernel_rfl) rfl rfl (fun K hK => ?_)
  go_simp
  refine (FB.out w11.drew).mono ?_
  rintro e w12 ⟨g12, rfl, hg12, _, hb12⟩
  have K4 : Hid _ := And.intro (XS.out _ (K1.out.2.trans hb12)) (K1.out.2.trans hb12)
  have x5 := conv_str hg12.src 256 256 HYL.out.symm
  clear hg12 hb12
  refine hK.out _ _ K4.out (fun hH => ?_)
  clear hK K hH
  refine readyH (i := 12) (dst := some 53) (v := .string (str y)) (w' := w12) (by kernel_rfl) rfl rfl rfl (by go_simp) rfl K4.out ?_
  simp only [Act.put, List.setIfInBounds_toArray, List.set_cons_succ, List.set_cons_zero]
  clear x5
  refine takeH (i := 13) (dst := some 54) (v := .bool true) rfl rfl (by kernel_rfl) (by kernel_rfl) (by kernel_rfl) (fun _ _ _ h => h) rfl (fun W hW => by obtain ⟨hW1, hW2⟩ := hW; go_simp) K4.out rfl ?_
  simp only [Act.put, List.setIfInBounds_toArray, List.set_cons_succ, List.set_cons_zero]
  refine takeH (i := 14) (dst := some 55) (v := .bool true) rfl rfl (by kernel_rfl) (by kernel_rfl) (by kernel_rfl) (fun _ _ _ h => h) rfl (fun W hW => by obtain ⟨hW1, hW2⟩ := hW; go_simp) K4.out rfl ?_
  simp only [Act.put, List.setIfInBounds_toArray, List.set_cons_succ, List.set_cons_zero]
  refine takeH (i := 15) (dst := some 56) (v := .bool true) rfl rfl (by kernel_rfl) (by kernel_rfl) (by kernel_rfl) (fun _ _ _ h => h) rfl (fun W hW => by obtain ⟨hW1, hW2⟩ := hW; go_simp) K4.out rfl ?_
  simp only [Act.put, List.setIfInBounds_toArray, List.set_cons_succ, List.set_cons_zero]
  refine takeH (i := 16) (dst := some 57) (v := .pointer (some ⟨p, 0, none⟩)) rfl rfl (by kernel_rfl) (by kernel_rfl) (by kernel_rfl) (fun _ _ _ h => h) rfl (fun W hW => by obtain ⟨hW1, hW2⟩ := hW; go_simp) K4.out rfl ?_
  simp only [Act.put, List.setIfInBounds_toArray, List.set_cons_succ, List.set_cons_zero]
  refine callH (i := 17) { dst := some 58, op := Go.Op.call { callee := Go.Callee.value (Go.Operand.func 30), args := #[Go.Operand.tmp 57, Go.Operand.const (Go.Value.int Go.IntKind.i64 1)], argTypes := #[24, 3] }, type := 3, pos := "law.go:23", after := #[{ on := 16, ground := Go.Ground.data }, { on := 15, ground := Go.Ground.chain }, { on := 15, ground := Go.Ground.guard }], guard := some (15, true) } (by kernel_rfl) rfl rfl (fun K hK => ?_)
  go_simp
  refine (DS.out _ K4.out.2).1.mono ?_
  rintro e w13 ⟨rfl, rfl⟩
  refine hK.out _ _ K4.out (fun hH => ?_)
  clear hK K hH
  refine takeH (i := 18) (dst := some 59) (v := .bool true) rfl rfl (by kernel_rfl) (by kernel_rfl) (by kernel_rfl) (fun _ _ _ h => h) rfl (fun W hW => by obtain ⟨hW1, hW2⟩ := hW; go_simp) K4.out rfl ?_
  simp only [Act.put, List.setIfInBounds_toArray, List.set_cons_succ, List.set_cons_zero]
  refine takeH (i := 19) (dst := some 60) (v := .bool true) rfl rfl (by kernel_rfl) (by kernel_rfl) (by kernel_rfl) (fun _ _ _ h => h) rfl (fun W hW => by obtain ⟨hW1, hW2⟩ := hW; go_simp) K4.out rfl ?_
  simp only [Act.put, List.setIfInBounds_toArray, List.set_cons_succ, List.set_cons_zero]
  refine takeH (i := 20) (dst := some 61) (v := .bool true) rfl rfl (by kernel_rfl) (by kernel_rfl) (by kernel_rfl) (fun _ _ _ h => h) rfl (fun W hW => by obtain ⟨hW1, hW2⟩ := hW; go_simp) K4.out rfl ?_
  simp only [Act.put, List.setIfInBounds_toArray, List.set_cons_succ, List.set_cons_zero]
  refine takeH (i := 21) (dst := some 62) (v := .pointer (some ⟨p, 0, none⟩)) rfl rfl (by kernel_rfl) (by kernel_rfl) (by kernel_rfl) (fun _ _ _ h => h) rfl (fun W hW => by obtain ⟨hW1, hW2⟩ := hW; go_simp) K4.out rfl ?_
  simp only [Act.put, List.setIfInBounds_toArray, List.set_cons_succ, List.set_cons_zero]
  refine callH (i := 22) { dst := some 63, op := Go.Op.call { callee := Go.Callee.value (Go.Operand.func 18), args := #[Go.Operand.tmp 62], argTypes := #[24] }, type := 3, pos := "law.go:23", after := #[{ on := 21, ground := Go.Ground.data }, { on := 20, ground := Go.Ground.chain }, { on := 20, ground := Go.Ground.guard }], guard := some (20, true) } (by kernel_rfl) rfl rfl (fun K hK => ?_)
  go_simp
  refine (DS.out _ K4.out.2).2.mono ?_
  rintro e w13 ⟨rfl, rfl⟩
  refine hK.out _ _ K4.out (fun hH => ?_)
  clear hK K hH
  refine takeH (i := 23) (dst := some 64) (v := .bool true) rfl rfl (by kernel_rfl) (by kernel_rfl) (by kernel_rfl) (fun _ _ _ h => h) rfl (fun W hW => by obtain ⟨hW1, hW2⟩ := hW; go_simp) K4.out rfl ?_
  simp only [Act.put, List.setIfInBounds_toArray, List.set_cons_succ, List.set_cons_zero]
  refine takeH (i := 24) (dst := some 65) (v := .bool true) rfl rfl (by kernel_rfl) (by kernel_rfl) (by kernel_rfl) (fun _ _ _ h => h) rfl (fun W hW => by obtain ⟨hW1, hW2⟩ := hW; go_simp) K4.out rfl ?_
  simp only [Act.put, List.setIfInBounds_toArray, List.set_cons_succ, List.set_cons_zero]
  refine takeH (i := 25) (dst := some 0) (v := .bool true) rfl rfl (by kernel_rfl) (by kernel_rfl) (by kernel_rfl) (fun _ _ _ h => h) rfl (fun W hW => by obtain ⟨hW1, hW2⟩ := hW; go_simp) K4.out rfl ?_
  simp only [Act.put, List.setIfInBounds_toArray, List.set_cons_zero]
  refine wpAnyH_done (by kernel_rfl) ?_ _
  go_wp2
  go_ret
  exact ⟨rfl, hb011.trans (K4.out.2.mono hb011.size)⟩
end Go.Proofs.Ytcmkgcdjjplgdaa
