/- leveeref07.Get. -/
import Derived.Test.YtabmogeicpphoaaRput7
namespace Go.Proofs.Ytabmogeicpphoaa
open Go.RowKit
theorem exec_build_four {ev : Operand → Value} {oi : Oper} {w : World} {x0 x1 x2 x3 : Operand} {k l s d : Int} (ho : oi.op = .build 24 #[(0, x0), (1, x1), (2, x2), (3, x3)])
    (e0 : ev x0 = .int .i64 k) (e1 : ev x1 = .int .i64 l) (e2 : ev x2 = .int .i64 s) (e3 : ev x3 = .int .i64 d) :
    (execOp ev oi).run Try.prog w = .ok (.value (.agg (iA ⟨k, l, s, d, [0, 0, 0, 0, 0, 0, 0, 0]⟩))) w := by
  have h : (Instr.build 24 #[(0, .int .i64 k), (1, .int .i64 l), (2, .int .i64 s), (3, .int .i64 d)]).run Try.prog w = .ok (.agg (iA ⟨k, l, s, d, [0, 0, 0, 0, 0, 0, 0, 0]⟩)) w := run_build w 24 _ _ (by kernel_rfl)
  unfold execOp
  simp only [ho, List.map_toArray, List.map_cons, List.map_nil, e0, e1, e2, e3, Sem.run_bind, h, Result.andThen_ok]
  rfl
/-- The bytes, and the place for the answer. -/
structure RG (w0 : World) (bb off : Nat) (l : List UInt8) (W : World) : Prop where
  b : Below w0.heap.size w0 W
  res : InoAt W w0.heap.size zino
  src : Src W (some ⟨bb, off, none⟩) l
  hl : l.length = 64
  lt : bb < w0.heap.size
section
variable {w0 W W' : World} {bb off q : Nat} {l : List UInt8}
theorem RG.up (h : RG w0 bb off l W) (hb : Below W.heap.size W W') : RG w0 bb off l W' := ⟨h.b.trans (hb.mono h.b.size), h.res.up hb, h.src.below hb (Nat.le_refl _), h.hl, h.lt⟩
theorem RG.only (h : RG w0 bb off l W) (ho : Only q W W') (hq : w0.heap.size < q) : RG w0 bb off l W' :=
  ⟨h.b.trans (ho.bel.mono (by omega)), h.res.only ho (by omega), h.src.only ho (fun b o e => by cases e; have := h.lt; omega), h.hl, h.lt⟩
theorem RG.c0 (h : RG w0 bb off l W) : W.cell? ⟨bb, off, none⟩ = some (.int .u8 (nth l 0)) := by
  have := h.src.cell 0 (by have := h.hl; omega)
  rw [bv_nth (by have := h.hl; omega)] at this
  exact this
end
theorem only_setCell (W : World) (q j : Nat) (x : Value) : Only q W (W.setCell ⟨q, j, none⟩ x) :=
  ⟨(Below.refl _ _).setCell (by simp) _, fun k hk => heap_setCell_other _ ⟨q, j, none⟩ k x hk⟩
/-- With the new inode at q. -/
structure RH (w0 : World) (bb off : Nat) (l : List UInt8) (q : Nat) (i : Ino) (W : World) : Prop where
  g : RG w0 bb off l W
  ino : InoAt W q i
  lq : w0.heap.size < q
theorem RH.up {w0 W W' : World} {bb off q : Nat} {l : List UInt8} {i : Ino} (h : RH w0 bb off l q i W) (hb : Below W.heap.size W W') : RH w0 bb off l q i W' := ⟨h.g.up hb, h.ino.up hb, h.lq⟩
/-- Another name. -/
theorem InoAt.set {W : World} {q : Nat} {k l s d : Int} {ns : List Int} (h : InoAt W q ⟨k, l, s, d, ns⟩) (j : Nat) (x : Int) : InoAt (W.setCell ⟨q, 4 + j, none⟩ (.int .i64 x)) q ⟨k, l, s, d, ns.set j x⟩ := by
  have hn : ns.length = 8 := h.ln
  refine ⟨?_, by simpa using hn⟩
  have e : iA ⟨k, l, s, d, ns.set j x⟩ = (iA ⟨k, l, s, d, ns⟩).setIfInBounds (4 + j) (.int .i64 x) := by
    have e1 : 4 + j = j + 1 + 1 + 1 + 1 := by omega
    rw [e1]
    simp [iA, iL, ivs]
  rw [e]
  exact heap_setCell_same W q (4 + j) _ _ _ h.row
theorem RH.set {w0 W : World} {bb off q : Nat} {l : List UInt8} {k l' s d : Int} {ns : List Int} (h : RH w0 bb off l q ⟨k, l', s, d, ns⟩ W) (j : Nat) (x : Int) : RH w0 bb off l q ⟨k, l', s, d, ns.set j x⟩ (W.setCell ⟨q, 4 + j, none⟩ (.int .i64 x)) :=
  ⟨h.g.only (only_setCell W q (4 + j) _) h.lq, h.ino.set j x, h.lq⟩
theorem str_beq (a b : List UInt8) : ((str a).toList == (str b).toList) = (a == b) := by
  rw [Bool.eq_iff_iff]
  constructor
  · intro h
    have h2 := beq_iff_eq.1 h
    have : a = b := by
      apply str_inj
      rw [ByteArray.toList_eq, ByteArray.toList_eq] at h2
      exact WideShapes.bytes_inj h2
    simp [this]
  · intro h
    rw [beq_iff_eq.1 h]; simp
set_option maxHeartbeats 4000000 in
theorem rget7_size (sp : Option Addr) (n cap : Nat) (hn : ¬ (n : Int) = 64) (w : World) :
    Calls Try.prog 13 #[.slice sp n cap] w fun e w' => e = .returned (.tuple #[.agg (iA zino), .int .i64 4]) ∧ Below w.heap.size w w' := by
  have hz := zeroI
  have HB : Hid (Below w.heap.size w (w.alloc (.cells (iA zino) 24))) := (Below.refl _ _).alloc (Nat.le_refl _) _
  have HI : Hid (InoAt (w.alloc (.cells (iA zino) 24)) w.heap.size zino) := ino_new w zino rfl
  go_enter Try.func13, Try.ntmps13
  go_wp2_with (first | ((with_reducible show wpList _ _ _ ({ dst := _, op := Op.store 24 _ _, type := _, pos := _, after := _, guard := _ } :: _) _ _); refine wpList_store_ino rfl _ _ rfl (HI.out) rfl rfl rfl ?_; intro w4 H4 b4 z4))
  exact bodyPost_ret (results_ino rfl _ H4 rfl) rfl ⟨rfl, HB.out.trans b4⟩
def getR (l : List UInt8) : Int := if formI l then 0 else 8
attribute [local go_sem] wrapI
set_option maxRecDepth 100000 in
set_option maxHeartbeats 8000000 in
theorem rget7_main (bb off cap : Nat) (l : List UInt8) (hl : l.length = 64) (w : World) (hsrc : Src w (some ⟨bb, off, none⟩) l) (hc : (64 : Int) ≤ cap) (hm : (cap : Int) ≤ 9223372036854775807) :
    Calls Try.prog 13 #[.slice (some ⟨bb, off, none⟩) 64 cap] w fun e w' => e = .returned (.tuple #[.agg (iA (getI l)), .int .i64 (getR l)]) ∧ Below w.heap.size w w' := by
  have hz := zeroI
  have hbb : bb < w.heap.size := by
    obtain ⟨b', off', h1, h2, _⟩ := hsrc.at' (by omega)
    cases h1; exact h2
  have hb0 : Below w.heap.size w (w.alloc (.cells (iA zino) 24)) := (Below.refl _ _).alloc (Nat.le_refl _) _
  have HG0 : Hid (RG w bb off l (w.alloc (.cells (iA zino) 24))) := ⟨hb0, ino_new w zino rfl, hsrc.below hb0 (Nat.le_refl _), hl, hbb⟩
  have NG : ∀ o n : Nat, 0 < n → n ≤ 8 → o + n ≤ 64 → ∀ W, Src W (some ⟨bb, off, none⟩) l → Calls Try.prog 51 #[.slice (some ⟨bb, off + o, none⟩) n (cap - o)] W fun e w' => e = .returned (.int .u64 (rdP l o n : Int)) ∧ w' = W := by
    intro o n h0 h8 ho W hW
    exact rgetn_any (some ⟨bb, off + o, none⟩) ((l.drop o).take n) n (cap - o) W (hW.part o n (by omega) (by omega)) (by simp [hl]; omega) h0 h8
  have HL : Hid (l.length = 64) := hl
  have hs2 := slice_sl bb off 64 cap 2 2 2 4 (by omega) (by omega) (by omega) (by omega)
  have hs4 := slice_sl bb off 64 cap 4 4 4 8 (by omega) (by omega) (by omega) (by omega)
  have hs8 := slice_sl bb off 64 cap 8 8 8 16 (by omega) (by omega) (by omega) (by omega)
  have n2 := NG 2 2 (by omega) (by omega) (by omega)
  have n4 := NG 4 4 (by omega) (by omega) (by omega)
  have n8 := NG 8 8 (by omega) (by omega) (by omega)
  have x2 := rdP_lt (l := l) (o := 2) (n := 2) HL.out (by omega) (by omega)
  have x4 := rdP_lt (l := l) (o := 4) (n := 4) HL.out (by omega) (by omega)
  have HRD : Hid (rdI l = ⟨nth l 0, rdP l 2 2, rdP l 4 4, IntKind.i64.wrap (rdP l 8 8 : Int), rdNs l⟩) := rfl
  have HNG : Hid _ := NG
  generalize rdP l 2 2 = A2 at n2 x2 HRD
  generalize rdP l 4 4 = A4 at n4 x4 HRD
  obtain ⟨D8, HD8⟩ : ∃ x, Hid (x = IntKind.i64.wrap (rdP l 8 8 : Int)) := ⟨_, rfl⟩
  rw [← HD8.out] at HRD
  have hcv : IntKind.i64.wrap (rdP l 8 8 : Int) = D8 := HD8.out.symm
  generalize rdP l 8 8 = A8 at n8 HD8 hcv
  have i2 : In64 (A2 : Int) := ⟨by omega⟩
  have i4 : In64 (A4 : Int) := ⟨by omega⟩
  have z0 := nth_lo l 0
  have z1 := nth_hi l 0
  have i0 : In64 (nth l 0) := ⟨by omega⟩
  clear hsrc hl hb0 NG
  go_enter Try.func13, Try.ntmps13
  go_upto_region 3 with fail
  have gd := HG0.out.up (Below.refl _ _).drew
  go_cut [4] (fun s4 wc => ∃ q, s4 = .pointer (some ⟨q, 0, none⟩) ∧ RH w bb off l q ⟨nth l 0, A2, A4, D8, [0, 0, 0, 0, 0, 0, 0, 0]⟩ wc)
  case first =>
    refine wp_region_held_drew (S := (fun W => RG w bb off l W)) (by kernel_rfl) gd (fun hH => ?_)
    generalize (w.alloc (.cells (iA zino) 24)).drew = W0 at *
    refine takeH (i := 0) (dst := some 12) (v := ?vt1) rfl rfl (by kernel_rfl) (by kernel_rfl) (by kernel_rfl) (fun _ _ _ h => h) rfl ?hyt1 hH rfl ?restt1
    case hyt1 => (intro W hW; have s1 := hW.c0; clear hW; go_simp; try with_reducible rfl)
    (try simp only [Act.put, List.setIfInBounds_toArray, List.set_cons_zero, List.set_cons_succ])
    refine takeH (i := 1) (dst := some 13) (v := ?vt2) rfl rfl (by kernel_rfl) (by kernel_rfl) (by kernel_rfl) (fun _ _ _ h => h) rfl ?hyt2 hH rfl ?restt2
    case hyt2 => (intro W hW; have s1 := hW.c0; clear hW; go_simp; try with_reducible rfl)
    (try simp only [Act.put, List.setIfInBounds_toArray, List.set_cons_zero, List.set_cons_succ])
    refine takeH (i := 2) (dst := some 14) (v := ?vt3) rfl rfl (by kernel_rfl) (by kernel_rfl) (by kernel_rfl) (fun _ _ _ h => h) rfl ?hyt3 hH rfl ?restt3
    case hyt3 => (intro W hW; have s1 := hW.c0; clear hW; go_simp; try with_reducible rfl)
    (try simp only [Act.put, List.setIfInBounds_toArray, List.set_cons_zero, List.set_cons_succ])
    refine takeH (i := 3) (dst := some 15) (v := ?vt4) rfl rfl (by kernel_rfl) (by kernel_rfl) (by kernel_rfl) (fun _ _ _ h => h) rfl ?hyt4 hH rfl ?restt4
    case hyt4 => (intro W hW; have s1 := hW.c0; clear hW; go_simp; try with_reducible rfl)
    (try simp only [Act.put, List.setIfInBounds_toArray, List.set_cons_zero, List.set_cons_succ])
    refine takeH (i := 4) (dst := some 16) (v := ?vt5) rfl rfl (by kernel_rfl) (by kernel_rfl) (by kernel_rfl) (fun _ _ _ h => h) rfl ?hyt5 hH rfl ?restt5
    case hyt5 => (intro W hW; have s1 := hW.c0; clear hW; go_simp; try with_reducible rfl)
    (try simp only [Act.put, List.setIfInBounds_toArray, List.set_cons_zero, List.set_cons_succ])
    refine takeH (i := 5) (dst := some 17) (v := ?vt6) rfl rfl (by kernel_rfl) (by kernel_rfl) (by kernel_rfl) (fun _ _ _ h => h) rfl ?hyt6 hH rfl ?restt6
    case hyt6 => (intro W hW; have s1 := hW.c0; clear hW; go_simp; try with_reducible rfl)
    (try simp only [Act.put, List.setIfInBounds_toArray, List.set_cons_zero, List.set_cons_succ])
    refine takeH (i := 8) (dst := some 20) (v := ?vt7) rfl rfl (by kernel_rfl) (by kernel_rfl) (by kernel_rfl) (fun _ _ _ h => h) rfl ?hyt7 hH rfl ?restt7
    case hyt7 => (intro W hW; have s1 := hW.c0; clear hW; go_simp; try with_reducible rfl)
    (try simp only [Act.put, List.setIfInBounds_toArray, List.set_cons_zero, List.set_cons_succ])
    refine takeH (i := 9) (dst := some 21) (v := ?vt8) rfl rfl (by kernel_rfl) (by kernel_rfl) (by kernel_rfl) (fun _ _ _ h => h) rfl ?hyt8 hH rfl ?restt8
    case hyt8 => (intro W hW; have s1 := hW.c0; clear hW; go_simp; try with_reducible rfl)
    (try simp only [Act.put, List.setIfInBounds_toArray, List.set_cons_zero, List.set_cons_succ])
    refine takeH (i := 12) (dst := some 24) (v := ?vt9) rfl rfl (by kernel_rfl) (by kernel_rfl) (by kernel_rfl) (fun _ _ _ h => h) rfl ?hyt9 hH rfl ?restt9
    case hyt9 => (intro W hW; have s1 := hW.c0; clear hW; go_simp; try with_reducible rfl)
    (try simp only [Act.put, List.setIfInBounds_toArray, List.set_cons_zero, List.set_cons_succ])
    refine takeH (i := 13) (dst := some 25) (v := ?vt10) rfl rfl (by kernel_rfl) (by kernel_rfl) (by kernel_rfl) (fun _ _ _ h => h) rfl ?hyt10 hH rfl ?restt10
    case hyt10 => (intro W hW; have s1 := hW.c0; clear hW; go_simp; try with_reducible rfl)
    (try simp only [Act.put, List.setIfInBounds_toArray, List.set_cons_zero, List.set_cons_succ])
    refine callH2 (i := 6) (j := 17) { dst := some 18, op := Go.Op.call { callee := Go.Callee.value (Go.Operand.func 51), args := #[Go.Operand.tmp 17], argTypes := #[25] }, type := 67, pos := "ref.go:49", after := #[{ on := 5, ground := Go.Ground.data }], guard := none } { dst := some 4, op := Go.Op.alloc 24, type := 0, pos := "ref.go:49", after := #[], guard := none } (by kernel_rfl) rfl rfl rfl rfl (fun K hK => ?_) (fun K hK => ?_)
    · go_simp
      refine (n2 _ gd.src).mono ?_
      rintro e v11 ⟨rfl, hv11⟩
      rw [hv11]
      clear hv11 v11
      refine hK.out _ _ gd (fun hH => ?_)
      clear hK K
      (try simp only [Act.put, List.setIfInBounds_toArray, List.set_cons_zero, List.set_cons_succ])
      refine takeH (i := 7) (dst := some 19) (v := ?vt12) rfl rfl (by kernel_rfl) (by kernel_rfl) (by kernel_rfl) (fun _ _ _ h => h) rfl ?hyt12 hH rfl ?restt12
      case hyt12 => (intro W hW; have s1 := hW.c0; clear hW; go_simp; try with_reducible rfl)
      (try simp only [Act.put, List.setIfInBounds_toArray, List.set_cons_zero, List.set_cons_succ])
      refine callH2 (i := 10) (j := 17) { dst := some 22, op := Go.Op.call { callee := Go.Callee.value (Go.Operand.func 51), args := #[Go.Operand.tmp 21], argTypes := #[25] }, type := 67, pos := "ref.go:49", after := #[{ on := 9, ground := Go.Ground.data }, { on := 6, ground := Go.Ground.chain }], guard := none } { dst := some 4, op := Go.Op.alloc 24, type := 0, pos := "ref.go:49", after := #[], guard := none } (by kernel_rfl) rfl rfl rfl rfl (fun K hK => ?_) (fun K hK => ?_)
      · go_simp
        refine (n4 _ gd.src).mono ?_
        rintro e v13 ⟨rfl, hv13⟩
        rw [hv13]
        clear hv13 v13
        refine hK.out _ _ gd (fun hH => ?_)
        clear hK K
        (try simp only [Act.put, List.setIfInBounds_toArray, List.set_cons_zero, List.set_cons_succ])
        refine takeH (i := 11) (dst := some 23) (v := ?vt14) rfl rfl (by kernel_rfl) (by kernel_rfl) (by kernel_rfl) (fun _ _ _ h => h) rfl ?hyt14 hH rfl ?restt14
        case hyt14 => (intro W hW; have s1 := hW.c0; clear hW; go_simp; try with_reducible rfl)
        (try simp only [Act.put, List.setIfInBounds_toArray, List.set_cons_zero, List.set_cons_succ])
        refine callH2 (i := 14) (j := 17) { dst := some 26, op := Go.Op.call { callee := Go.Callee.value (Go.Operand.func 51), args := #[Go.Operand.tmp 25], argTypes := #[25] }, type := 67, pos := "ref.go:49", after := #[{ on := 13, ground := Go.Ground.data }, { on := 10, ground := Go.Ground.chain }], guard := none } { dst := some 4, op := Go.Op.alloc 24, type := 0, pos := "ref.go:49", after := #[], guard := none } (by kernel_rfl) rfl rfl rfl rfl (fun K hK => ?_) (fun K hK => ?_)
        · go_simp
          refine (n8 _ gd.src).mono ?_
          rintro e v15 ⟨rfl, hv15⟩
          rw [hv15]
          clear hv15 v15
          refine hK.out _ _ gd (fun hH => ?_)
          clear hK K
          (try simp only [Act.put, List.setIfInBounds_toArray, List.set_cons_zero, List.set_cons_succ])
          refine takeH (i := 15) (dst := some 27) (v := ?vt16) rfl rfl (by kernel_rfl) (by kernel_rfl) (by kernel_rfl) (fun _ _ _ h => h) rfl ?hyt16 hH rfl ?restt16
          case hyt16 => (intro W hW; have s1 := hW.c0; clear hW; go_simp; try with_reducible rfl)
          (try simp only [Act.put, List.setIfInBounds_toArray, List.set_cons_zero, List.set_cons_succ])
          refine takeH (i := 16) (dst := some 28) (v := ?vt17) rfl rfl (by kernel_rfl) (by kernel_rfl) (by kernel_rfl) (fun _ _ _ h => h) rfl ?hyt17 hH rfl ?restt17
          case hyt17 => (intro W hW; refine exec_build_four (k := nth l 0) (l := A2) (s := A4) (d := D8) (x0 := Operand.tmp 15) (x1 := Operand.tmp 19) (x2 := Operand.tmp 23) (x3 := Operand.tmp 27) ?_ ?_ ?_ ?_ ?_ <;> rfl)
          (try simp only [Act.put, List.setIfInBounds_toArray, List.set_cons_zero, List.set_cons_succ])
          refine callH (i := 17) { dst := some 4, op := Go.Op.alloc 24, type := 0, pos := "ref.go:49", after := #[], guard := none } (by kernel_rfl) rfl rfl (fun K hK => ?_)
          go_simp
          have al18 : Below W0.heap.size W0 (W0.alloc (.cells (iA zino) 24)) := (Below.refl _ _).alloc (Nat.le_refl _) _
          have d18 := gd.up al18
          have n18_ : InoAt (W0.alloc (.cells (iA zino) 24)) W0.heap.size zino := ino_new _ zino rfl
          have lq18 := gd.res.lt
          clear hH al18
          refine hK.out _ _ d18 (fun hH => ?_)
          clear hK K
          (try simp only [Act.put, List.setIfInBounds_toArray, List.set_cons_zero, List.set_cons_succ])
          refine callH (i := 18) { dst := none, op := Go.Op.store 24 (Go.Operand.tmp 4) (Go.Operand.tmp 28), type := 0, pos := "ref.go:49", after := #[{ on := 17, ground := Go.Ground.data }, { on := 16, ground := Go.Ground.data }, { on := 14, ground := Go.Ground.chain }, { on := 0, ground := Go.Ground.phase }, { on := 1, ground := Go.Ground.phase }, { on := 2, ground := Go.Ground.phase }, { on := 3, ground := Go.Ground.phase }, { on := 4, ground := Go.Ground.phase }, { on := 5, ground := Go.Ground.phase }, { on := 6, ground := Go.Ground.phase }, { on := 7, ground := Go.Ground.phase }, { on := 8, ground := Go.Ground.phase }, { on := 9, ground := Go.Ground.phase }, { on := 10, ground := Go.Ground.phase }, { on := 11, ground := Go.Ground.phase }, { on := 12, ground := Go.Ground.phase }, { on := 13, ground := Go.Ground.phase }, { on := 14, ground := Go.Ground.phase }, { on := 15, ground := Go.Ground.phase }, { on := 16, ground := Go.Ground.phase }, { on := 17, ground := Go.Ground.phase }], guard := none } (by kernel_rfl) rfl rfl (fun K hK => ?_)
          rw [if_pos (by rfl)]
          refine wp_store_inoO _ _ rfl n18_ (j := ⟨nth l 0, A2, A4, D8, [0, 0, 0, 0, 0, 0, 0, 0]⟩) rfl rfl rfl ?_
          intro v19 h19_ o19 z19
          have d19 := d18.only o19 lq18
          clear hH o19 z19
          refine hK.out _ _ d19 (fun hH => ?_)
          clear hK K
          (try simp only [Act.put])
          refine wpAnyH_done (by kernel_rfl) ?_ _
          clear hH
          go_wp2_with fail
          go_meet
          case rel => exact ⟨_, rfl, ⟨d19, h19_, lq18⟩⟩
        · go_simp
          have al20 : Below W0.heap.size W0 (W0.alloc (.cells (iA zino) 24)) := (Below.refl _ _).alloc (Nat.le_refl _) _
          have d20 := gd.up al20
          have n20_ : InoAt (W0.alloc (.cells (iA zino) 24)) W0.heap.size zino := ino_new _ zino rfl
          have lq20 := gd.res.lt
          clear hH al20
          refine hK.out _ _ d20 (fun hH => ?_)
          clear hK K
          (try simp only [Act.put, List.setIfInBounds_toArray, List.set_cons_zero, List.set_cons_succ])
          refine callH (i := 14) { dst := some 26, op := Go.Op.call { callee := Go.Callee.value (Go.Operand.func 51), args := #[Go.Operand.tmp 25], argTypes := #[25] }, type := 67, pos := "ref.go:49", after := #[{ on := 13, ground := Go.Ground.data }, { on := 10, ground := Go.Ground.chain }], guard := none } (by kernel_rfl) rfl rfl (fun K hK => ?_)
          go_simp
          refine (n8 _ d20.src).mono ?_
          rintro e v21 ⟨rfl, hv21⟩
          rw [hv21]
          clear hv21 v21
          refine hK.out _ _ d20 (fun hH => ?_)
          clear hK K
          (try simp only [Act.put, List.setIfInBounds_toArray, List.set_cons_zero, List.set_cons_succ])
          refine takeH (i := 15) (dst := some 27) (v := ?vt22) rfl rfl (by kernel_rfl) (by kernel_rfl) (by kernel_rfl) (fun _ _ _ h => h) rfl ?hyt22 hH rfl ?restt22
          case hyt22 => (intro W hW; have s1 := hW.c0; clear hW; go_simp; try with_reducible rfl)
          (try simp only [Act.put, List.setIfInBounds_toArray, List.set_cons_zero, List.set_cons_succ])
          refine takeH (i := 16) (dst := some 28) (v := ?vt23) rfl rfl (by kernel_rfl) (by kernel_rfl) (by kernel_rfl) (fun _ _ _ h => h) rfl ?hyt23 hH rfl ?restt23
          case hyt23 => (intro W hW; refine exec_build_four (k := nth l 0) (l := A2) (s := A4) (d := D8) (x0 := Operand.tmp 15) (x1 := Operand.tmp 19) (x2 := Operand.tmp 23) (x3 := Operand.tmp 27) ?_ ?_ ?_ ?_ ?_ <;> rfl)
          (try simp only [Act.put, List.setIfInBounds_toArray, List.set_cons_zero, List.set_cons_succ])
          refine callH (i := 18) { dst := none, op := Go.Op.store 24 (Go.Operand.tmp 4) (Go.Operand.tmp 28), type := 0, pos := "ref.go:49", after := #[{ on := 17, ground := Go.Ground.data }, { on := 16, ground := Go.Ground.data }, { on := 14, ground := Go.Ground.chain }, { on := 0, ground := Go.Ground.phase }, { on := 1, ground := Go.Ground.phase }, { on := 2, ground := Go.Ground.phase }, { on := 3, ground := Go.Ground.phase }, { on := 4, ground := Go.Ground.phase }, { on := 5, ground := Go.Ground.phase }, { on := 6, ground := Go.Ground.phase }, { on := 7, ground := Go.Ground.phase }, { on := 8, ground := Go.Ground.phase }, { on := 9, ground := Go.Ground.phase }, { on := 10, ground := Go.Ground.phase }, { on := 11, ground := Go.Ground.phase }, { on := 12, ground := Go.Ground.phase }, { on := 13, ground := Go.Ground.phase }, { on := 14, ground := Go.Ground.phase }, { on := 15, ground := Go.Ground.phase }, { on := 16, ground := Go.Ground.phase }, { on := 17, ground := Go.Ground.phase }], guard := none } (by kernel_rfl) rfl rfl (fun K hK => ?_)
          rw [if_pos (by rfl)]
          refine wp_store_inoO _ _ rfl n20_ (j := ⟨nth l 0, A2, A4, D8, [0, 0, 0, 0, 0, 0, 0, 0]⟩) rfl rfl rfl ?_
          intro v24 h24_ o24 z24
          have d24 := d20.only o24 lq20
          clear hH o24 z24
          refine hK.out _ _ d24 (fun hH => ?_)
          clear hK K
          (try simp only [Act.put])
          refine wpAnyH_done (by kernel_rfl) ?_ _
          clear hH
          go_wp2_with fail
          go_meet
          case rel => exact ⟨_, rfl, ⟨d24, h24_, lq20⟩⟩
      · go_simp
        have al25 : Below W0.heap.size W0 (W0.alloc (.cells (iA zino) 24)) := (Below.refl _ _).alloc (Nat.le_refl _) _
        have d25 := gd.up al25
        have n25_ : InoAt (W0.alloc (.cells (iA zino) 24)) W0.heap.size zino := ino_new _ zino rfl
        have lq25 := gd.res.lt
        clear hH al25
        refine hK.out _ _ d25 (fun hH => ?_)
        clear hK K
        (try simp only [Act.put, List.setIfInBounds_toArray, List.set_cons_zero, List.set_cons_succ])
        refine callH (i := 10) { dst := some 22, op := Go.Op.call { callee := Go.Callee.value (Go.Operand.func 51), args := #[Go.Operand.tmp 21], argTypes := #[25] }, type := 67, pos := "ref.go:49", after := #[{ on := 9, ground := Go.Ground.data }, { on := 6, ground := Go.Ground.chain }], guard := none } (by kernel_rfl) rfl rfl (fun K hK => ?_)
        go_simp
        refine (n4 _ d25.src).mono ?_
        rintro e v26 ⟨rfl, hv26⟩
        rw [hv26]
        clear hv26 v26
        refine hK.out _ _ d25 (fun hH => ?_)
        clear hK K
        (try simp only [Act.put, List.setIfInBounds_toArray, List.set_cons_zero, List.set_cons_succ])
        refine takeH (i := 11) (dst := some 23) (v := ?vt27) rfl rfl (by kernel_rfl) (by kernel_rfl) (by kernel_rfl) (fun _ _ _ h => h) rfl ?hyt27 hH rfl ?restt27
        case hyt27 => (intro W hW; have s1 := hW.c0; clear hW; go_simp; try with_reducible rfl)
        (try simp only [Act.put, List.setIfInBounds_toArray, List.set_cons_zero, List.set_cons_succ])
        refine callH (i := 14) { dst := some 26, op := Go.Op.call { callee := Go.Callee.value (Go.Operand.func 51), args := #[Go.Operand.tmp 25], argTypes := #[25] }, type := 67, pos := "ref.go:49", after := #[{ on := 13, ground := Go.Ground.data }, { on := 10, ground := Go.Ground.chain }], guard := none } (by kernel_rfl) rfl rfl (fun K hK => ?_)
        go_simp
        refine (n8 _ d25.src).mono ?_
        rintro e v28 ⟨rfl, hv28⟩
        rw [hv28]
        clear hv28 v28
        refine hK.out _ _ d25 (fun hH => ?_)
        clear hK K
        (try simp only [Act.put, List.setIfInBounds_toArray, List.set_cons_zero, List.set_cons_succ])
        refine takeH (i := 15) (dst := some 27) (v := ?vt29) rfl rfl (by kernel_rfl) (by kernel_rfl) (by kernel_rfl) (fun _ _ _ h => h) rfl ?hyt29 hH rfl ?restt29
        case hyt29 => (intro W hW; have s1 := hW.c0; clear hW; go_simp; try with_reducible rfl)
        (try simp only [Act.put, List.setIfInBounds_toArray, List.set_cons_zero, List.set_cons_succ])
        refine takeH (i := 16) (dst := some 28) (v := ?vt30) rfl rfl (by kernel_rfl) (by kernel_rfl) (by kernel_rfl) (fun _ _ _ h => h) rfl ?hyt30 hH rfl ?restt30
        case hyt30 => (intro W hW; refine exec_build_four (k := nth l 0) (l := A2) (s := A4) (d := D8) (x0 := Operand.tmp 15) (x1 := Operand.tmp 19) (x2 := Operand.tmp 23) (x3 := Operand.tmp 27) ?_ ?_ ?_ ?_ ?_ <;> rfl)
        (try simp only [Act.put, List.setIfInBounds_toArray, List.set_cons_zero, List.set_cons_succ])
        refine callH (i := 18) { dst := none, op := Go.Op.store 24 (Go.Operand.tmp 4) (Go.Operand.tmp 28), type := 0, pos := "ref.go:49", after := #[{ on := 17, ground := Go.Ground.data }, { on := 16, ground := Go.Ground.data }, { on := 14, ground := Go.Ground.chain }, { on := 0, ground := Go.Ground.phase }, { on := 1, ground := Go.Ground.phase }, { on := 2, ground := Go.Ground.phase }, { on := 3, ground := Go.Ground.phase }, { on := 4, ground := Go.Ground.phase }, { on := 5, ground := Go.Ground.phase }, { on := 6, ground := Go.Ground.phase }, { on := 7, ground := Go.Ground.phase }, { on := 8, ground := Go.Ground.phase }, { on := 9, ground := Go.Ground.phase }, { on := 10, ground := Go.Ground.phase }, { on := 11, ground := Go.Ground.phase }, { on := 12, ground := Go.Ground.phase }, { on := 13, ground := Go.Ground.phase }, { on := 14, ground := Go.Ground.phase }, { on := 15, ground := Go.Ground.phase }, { on := 16, ground := Go.Ground.phase }, { on := 17, ground := Go.Ground.phase }], guard := none } (by kernel_rfl) rfl rfl (fun K hK => ?_)
        rw [if_pos (by rfl)]
        refine wp_store_inoO _ _ rfl n25_ (j := ⟨nth l 0, A2, A4, D8, [0, 0, 0, 0, 0, 0, 0, 0]⟩) rfl rfl rfl ?_
        intro v31 h31_ o31 z31
        have d31 := d25.only o31 lq25
        clear hH o31 z31
        refine hK.out _ _ d31 (fun hH => ?_)
        clear hK K
        (try simp only [Act.put])
        refine wpAnyH_done (by kernel_rfl) ?_ _
        clear hH
        go_wp2_with fail
        go_meet
        case rel => exact ⟨_, rfl, ⟨d31, h31_, lq25⟩⟩
    · go_simp
      have al32 : Below W0.heap.size W0 (W0.alloc (.cells (iA zino) 24)) := (Below.refl _ _).alloc (Nat.le_refl _) _
      have d32 := gd.up al32
      have n32_ : InoAt (W0.alloc (.cells (iA zino) 24)) W0.heap.size zino := ino_new _ zino rfl
      have lq32 := gd.res.lt
      clear hH al32
      refine hK.out _ _ d32 (fun hH => ?_)
      clear hK K
      (try simp only [Act.put, List.setIfInBounds_toArray, List.set_cons_zero, List.set_cons_succ])
      refine callH (i := 6) { dst := some 18, op := Go.Op.call { callee := Go.Callee.value (Go.Operand.func 51), args := #[Go.Operand.tmp 17], argTypes := #[25] }, type := 67, pos := "ref.go:49", after := #[{ on := 5, ground := Go.Ground.data }], guard := none } (by kernel_rfl) rfl rfl (fun K hK => ?_)
      go_simp
      refine (n2 _ d32.src).mono ?_
      rintro e v33 ⟨rfl, hv33⟩
      rw [hv33]
      clear hv33 v33
      refine hK.out _ _ d32 (fun hH => ?_)
      clear hK K
      (try simp only [Act.put, List.setIfInBounds_toArray, List.set_cons_zero, List.set_cons_succ])
      refine takeH (i := 7) (dst := some 19) (v := ?vt34) rfl rfl (by kernel_rfl) (by kernel_rfl) (by kernel_rfl) (fun _ _ _ h => h) rfl ?hyt34 hH rfl ?restt34
      case hyt34 => (intro W hW; have s1 := hW.c0; clear hW; go_simp; try with_reducible rfl)
      (try simp only [Act.put, List.setIfInBounds_toArray, List.set_cons_zero, List.set_cons_succ])
      refine callH (i := 10) { dst := some 22, op := Go.Op.call { callee := Go.Callee.value (Go.Operand.func 51), args := #[Go.Operand.tmp 21], argTypes := #[25] }, type := 67, pos := "ref.go:49", after := #[{ on := 9, ground := Go.Ground.data }, { on := 6, ground := Go.Ground.chain }], guard := none } (by kernel_rfl) rfl rfl (fun K hK => ?_)
      go_simp
      refine (n4 _ d32.src).mono ?_
      rintro e v35 ⟨rfl, hv35⟩
      rw [hv35]
      clear hv35 v35
      refine hK.out _ _ d32 (fun hH => ?_)
      clear hK K
      (try simp only [Act.put, List.setIfInBounds_toArray, List.set_cons_zero, List.set_cons_succ])
      refine takeH (i := 11) (dst := some 23) (v := ?vt36) rfl rfl (by kernel_rfl) (by kernel_rfl) (by kernel_rfl) (fun _ _ _ h => h) rfl ?hyt36 hH rfl ?restt36
      case hyt36 => (intro W hW; have s1 := hW.c0; clear hW; go_simp; try with_reducible rfl)
      (try simp only [Act.put, List.setIfInBounds_toArray, List.set_cons_zero, List.set_cons_succ])
      refine callH (i := 14) { dst := some 26, op := Go.Op.call { callee := Go.Callee.value (Go.Operand.func 51), args := #[Go.Operand.tmp 25], argTypes := #[25] }, type := 67, pos := "ref.go:49", after := #[{ on := 13, ground := Go.Ground.data }, { on := 10, ground := Go.Ground.chain }], guard := none } (by kernel_rfl) rfl rfl (fun K hK => ?_)
      go_simp
      refine (n8 _ d32.src).mono ?_
      rintro e v37 ⟨rfl, hv37⟩
      rw [hv37]
      clear hv37 v37
      refine hK.out _ _ d32 (fun hH => ?_)
      clear hK K
      (try simp only [Act.put, List.setIfInBounds_toArray, List.set_cons_zero, List.set_cons_succ])
      refine takeH (i := 15) (dst := some 27) (v := ?vt38) rfl rfl (by kernel_rfl) (by kernel_rfl) (by kernel_rfl) (fun _ _ _ h => h) rfl ?hyt38 hH rfl ?restt38
      case hyt38 => (intro W hW; have s1 := hW.c0; clear hW; go_simp; try with_reducible rfl)
      (try simp only [Act.put, List.setIfInBounds_toArray, List.set_cons_zero, List.set_cons_succ])
      refine takeH (i := 16) (dst := some 28) (v := ?vt39) rfl rfl (by kernel_rfl) (by kernel_rfl) (by kernel_rfl) (fun _ _ _ h => h) rfl ?hyt39 hH rfl ?restt39
      case hyt39 => (intro W hW; refine exec_build_four (k := nth l 0) (l := A2) (s := A4) (d := D8) (x0 := Operand.tmp 15) (x1 := Operand.tmp 19) (x2 := Operand.tmp 23) (x3 := Operand.tmp 27) ?_ ?_ ?_ ?_ ?_ <;> rfl)
      (try simp only [Act.put, List.setIfInBounds_toArray, List.set_cons_zero, List.set_cons_succ])
      refine callH (i := 18) { dst := none, op := Go.Op.store 24 (Go.Operand.tmp 4) (Go.Operand.tmp 28), type := 0, pos := "ref.go:49", after := #[{ on := 17, ground := Go.Ground.data }, { on := 16, ground := Go.Ground.data }, { on := 14, ground := Go.Ground.chain }, { on := 0, ground := Go.Ground.phase }, { on := 1, ground := Go.Ground.phase }, { on := 2, ground := Go.Ground.phase }, { on := 3, ground := Go.Ground.phase }, { on := 4, ground := Go.Ground.phase }, { on := 5, ground := Go.Ground.phase }, { on := 6, ground := Go.Ground.phase }, { on := 7, ground := Go.Ground.phase }, { on := 8, ground := Go.Ground.phase }, { on := 9, ground := Go.Ground.phase }, { on := 10, ground := Go.Ground.phase }, { on := 11, ground := Go.Ground.phase }, { on := 12, ground := Go.Ground.phase }, { on := 13, ground := Go.Ground.phase }, { on := 14, ground := Go.Ground.phase }, { on := 15, ground := Go.Ground.phase }, { on := 16, ground := Go.Ground.phase }, { on := 17, ground := Go.Ground.phase }], guard := none } (by kernel_rfl) rfl rfl (fun K hK => ?_)
      rw [if_pos (by rfl)]
      refine wp_store_inoO _ _ rfl n32_ (j := ⟨nth l 0, A2, A4, D8, [0, 0, 0, 0, 0, 0, 0, 0]⟩) rfl rfl rfl ?_
      intro v40 h40_ o40 z40
      have d40 := d32.only o40 lq32
      clear hH o40 z40
      refine hK.out _ _ d40 (fun hH => ?_)
      clear hK K
      (try simp only [Act.put])
      refine wpAnyH_done (by kernel_rfl) ?_ _
      clear hH
      go_wp2_with fail
      go_meet
      case rel => exact ⟨_, rfl, ⟨d40, h40_, lq32⟩⟩
  case rest =>
    obtain ⟨q, rfl, hr⟩ := hcut
    have HR : Hid _ := hr
    clear hr gd hs2 hs4 hs8 n2 n4 n8 HG0 hcv HD8
    go_wp2_with fail
    go_loopw [5] (fun t wr => ∃ k : Nat, k ≤ 6 ∧ t = .int .i64 k ∧ RH w bb off l q ⟨nth l 0, A2, A4, D8, upN l k⟩ wr) (fun t _ => 6 - (intOf t).toNat)
    case atStart => exact ⟨0, by omega, rfl, HR.out⟩
    case round =>
      obtain ⟨k, hk6, rfl, hrh⟩ := hrel
      have HRH : Hid _ := hrh
      clear hrh HR
      by_cases hlt : (k : Int) < 6
      · have hsl := slice_sl bb off 64 cap (16 + 2 * k) 2 (16 + 2 * (k : Int)) (18 + 2 * (k : Int)) (by omega) (by omega) (by omega) (by omega)
        have hx := rdP_lt (l := l) (o := 16 + 2 * k) (n := 2) HL.out (by omega) (by omega)
        have HU : Hid _ := upN_set l k (by omega)
        unfold rdNm at HU
        have HN2 : Hid _ := HNG.out (16 + 2 * k) 2 (by omega) (by omega) (by omega)
        generalize rdP l (16 + 2 * k) 2 = x at hx HU HN2
        have i1 : In64 (x : Int) := ⟨by omega⟩
        go_wp2_with fail
        refine (HN2.out _ HRH.out.g.src).mono ?_
        rintro e v8 ⟨rfl, hv8⟩
        rw [hv8]
        clear hv8 v8
        have rc := HRH.out.ino.name k (by omega)
        have rf := HRH.out.ino.frozen (4 + k)
        have H9 : Hid (RH w bb off l q ⟨nth l 0, A2, A4, D8, upN l (k + 1)⟩ (wr.setCell ⟨q, 4 + k, none⟩ (.int .i64 x))) := by
          have := HRH.out.set k (x : Int)
          rw [HU.out] at this
          exact this
        generalize (upN l k).getD k 0 = old at rc
        clear HRH HN2 HU
        go_wp2_with fail
        go_roundw
        case rel => exact ⟨k + 1, by omega, by go_num, H9.out⟩
        case measure => simp [intOf]; omega
      · obtain rfl : k = 6 := by omega
        have hs28 := slice_sl bb off 64 cap 28 2 28 30 (by omega) (by omega) (by omega) (by omega)
        have hs30 := slice_sl bb off 64 cap 30 2 30 32 (by omega) (by omega) (by omega) (by omega)
        have y6 := rdP_lt (l := l) (o := 28) (n := 2) HL.out (by omega) (by omega)
        have y7 := rdP_lt (l := l) (o := 30) (n := 2) HL.out (by omega) (by omega)
        have n6 := HNG.out 28 2 (by omega) (by omega) (by omega)
        have n7 := HNG.out 30 2 (by omega) (by omega) (by omega)
        have HU : Hid (((upN l 6).set 6 (rdP l 28 2 : Int)).set 7 (rdP l 30 2 : Int) = rdNs l) := by
          have a := upN_set l 6 (by omega)
          have b := upN_set l 7 (by omega)
          rw [← a] at b
          have e : upN l 8 = rdNs l := by simp [upN, rdNs]
          rw [← e]
          exact b
        generalize rdP l 28 2 = B6 at y6 n6 HU
        generalize rdP l 30 2 = B7 at y7 n7 HU
        have i6 : In64 (B6 : Int) := ⟨by omega⟩
        have i7 : In64 (B7 : Int) := ⟨by omega⟩
        have rc6 : wr.cell? ⟨q, 10, none⟩ = some (.int .i64 ((upN l 6).getD 6 0)) := HRH.out.ino.name 6 (by omega)
        have rf6 := HRH.out.ino.frozen 10
        have HA : Hid (RH w bb off l q ⟨nth l 0, A2, A4, D8, (upN l 6).set 6 (B6 : Int)⟩ (wr.setCell ⟨q, 10, none⟩ (.int .i64 B6))) := HRH.out.set 6 (B6 : Int)
        generalize (upN l 6).getD 6 0 = old6 at rc6
        go_upto_region 8 with fail
        go_wp2_with fail
        refine (n6 _ HRH.out.g.src).mono ?_
        rintro e v8 ⟨rfl, hv8⟩
        rw [hv8]
        clear hv8 v8
        go_upto_region 9 with fail
        generalize wr.setCell ⟨q, 10, none⟩ (.int .i64 B6) = wr2 at *
        have rc7 : wr2.cell? ⟨q, 11, none⟩ = some (.int .i64 (((upN l 6).set 6 (B6 : Int)).getD 7 0)) := HA.out.ino.name 7 (by omega)
        have rf7 := HA.out.ino.frozen 11
        have HB : Hid (RH w bb off l q (rdI l) (wr2.setCell ⟨q, 11, none⟩ (.int .i64 B7))) := by
          have := HA.out.set 7 (B7 : Int)
          rw [HU.out, ← HRD.out] at this
          exact this
        generalize ((upN l 6).set 6 (B6 : Int)).getD 7 0 = old7 at rc7
        clear HRH rc6 rf6 n6
        go_wp2_with fail
        refine (n7 _ HA.out.g.src).mono ?_
        rintro e v9 ⟨rfl, hv9⟩
        rw [hv9]
        clear hv9 v9
        go_upto_region 10 with fail
        generalize wr2.setCell ⟨q, 11, none⟩ (.int .i64 B7) = wr3 at *
        clear HA HU n7 hs28 hs30 rc7 rf7 HNG i6 i7
        have hlq := HB.out.lq
        have E1 : Hid (formI l = false → Ending.returned (.tuple #[.agg (iA zino), .int .i64 8]) = .returned (.tuple #[.agg (iA (getI l)), .int .i64 (getR l)])) := fun h => by rw [getI, getR, h]; rfl
        have E2 : Hid (formI l = true → Ending.returned (.tuple #[.agg (iA (rdI l)), .int .i64 0]) = .returned (.tuple #[.agg (iA (getI l)), .int .i64 (getR l)])) := fun h => by rw [getI, getR, h]; rfl
        cases hrt : rtB (rdI l)
        · have HF : Hid (formI l = false) := by show _ = _; unfold formI; rw [hrt]; rfl
          have PN := rput7_no (rdI l) (rdI_length l) hrt
          go_wp2_with (first | ((with_reducible show wpList _ _ _ ({ dst := _, op := Op.load 24 _, type := _, pos := _, after := _, guard := _ } :: _) _ _); refine wpList_load_ino rfl _ rfl (HB.out.ino) rfl ?_))
          refine (PN _).mono ?_
          rintro e v1 ⟨rfl, h1⟩
          have HC : Hid _ := HB.out.up h1
          clear HB h1 PN
          go_wp2_with (first | ((with_reducible show wpList _ _ _ ({ dst := _, op := Op.store 24 _ _, type := _, pos := _, after := _, guard := _ } :: _) _ _); refine wpList_store_ino rfl _ _ rfl (HC.out.g.res) rfl rfl rfl ?_; intro w7 H7 b7 z7))
          exact bodyPost_ret (results_ino (u := 3) rfl _ H7 rfl) rfl ⟨E1.out HF.out, HC.out.g.b.trans b7⟩
        · have PY := rput7_yes (rdI l) (rdI_length l) hrt
          have HLL : Hid ((layI (rdI l)).length = 64) := layI_length (rdI_length l)
          have HRL : Hid ((rdI l).ns.length = 8) := rdI_length l
          go_wp2_with (first | ((with_reducible show wpList _ _ _ ({ dst := _, op := Op.load 24 _, type := _, pos := _, after := _, guard := _ } :: _) _ _); refine wpList_load_ino rfl _ rfl (HB.out.ino) rfl ?_))
          refine (PY _).mono ?_
          rintro e v1 ⟨v, rfl, ho, h1⟩
          have HC : Hid _ := HB.out.up h1
          obtain ⟨ao, cap', rfl, hso, _, _, _⟩ := ho.form
          rw [HLL.out]
          have k1 := conv_str hso 64 cap' HLL.out.symm
          have k2 := conv_str HC.out.g.src 64 cap HL.out.symm
          have kb := str_beq (layI (rdI l)) l
          clear HB h1 PY ho hso
          have HF : Hid (formI l = (layI (rdI l) == l)) := by show _ = _; unfold formI; rw [hrt]; rfl
          clear hrt
          cases hne : (layI (rdI l) == l)
          · rw [hne] at kb HF
            clear hne
            go_wp2_with (first | ((with_reducible show wpList _ _ _ ({ dst := _, op := Op.store 24 _ _, type := _, pos := _, after := _, guard := _ } :: _) _ _); refine wpList_store_ino rfl _ _ rfl (HC.out.g.res) rfl rfl rfl ?_; intro w7 H7 b7 z7))
            exact bodyPost_ret (results_ino (u := 3) rfl _ H7 rfl) rfl ⟨E1.out HF.out, HC.out.g.b.trans b7⟩
          · rw [hne] at kb HF
            clear hne
            go_wp2_with (first | ((with_reducible show wpList _ _ _ ({ dst := _, op := Op.load 24 _, type := _, pos := _, after := _, guard := _ } :: _) _ _); refine wpList_load_ino rfl _ rfl (HC.out.ino) rfl ?_) | ((with_reducible show wpList _ _ _ ({ dst := _, op := Op.store 24 _ _, type := _, pos := _, after := _, guard := _ } :: _) _ _); refine wpList_store_ino rfl _ _ rfl (HC.out.g.res) HRL.out rfl rfl ?_; intro w7 H7 b7 z7))
            exact bodyPost_ret (results_ino (u := 3) rfl _ H7 rfl) rfl ⟨E2.out HF.out, HC.out.g.b.trans b7⟩
theorem rget7_any (sp : Option Addr) (cap : Nat) (l : List UInt8) (w : World) (ha : Arg w sp cap l) :
    Calls Try.prog 13 #[.slice sp l.length cap] w fun e w' => e = .returned (.tuple #[.agg (iA (getV l)), .int .i64 (getE l)]) ∧ Below w.heap.size w w' := by
  by_cases hl : l.length = 64
  · have la := ha.len
    obtain ⟨b, off, rfl, _, _⟩ := ha.src.at' (by omega)
    unfold getV getE
    rw [if_pos hl, if_pos hl]
    have := rget7_main b off cap l hl w ha.src (by omega) (by omega)
    rw [hl]
    exact this
  · unfold getV getE
    rw [if_neg hl, if_neg hl]
    exact rget7_size sp l.length cap (by omega) w
end Go.Proofs.Ytabmogeicpphoaa
