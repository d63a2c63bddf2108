/- leveeref06.Get. -/
import Derived.Test.YtfbbdpapnegmcaaRput
import Derived.Test.YtfbbdpapnegmcaaBoth
namespace Go.Proofs.Ytfbbdpapnegmcaa
open Go.RowKit
attribute [local go_sem] wrapI
theorem str_beq (a b : List UInt8) : ((str a).toList == (str b).toList) = true ↔ a = b := by
  constructor
  · intro h
    have h2 := beq_iff_eq.1 h
    apply str_inj
    rw [ByteArray.toList_eq, ByteArray.toList_eq] at h2
    exact WideShapes.bytes_inj h2
  · rintro rfl; simp
set_option maxHeartbeats 4000000 in
theorem rget_geo (a i n : Int) (sp : Option Addr) (len cap : Nat) (hok : okB a i n = false) (w : World) :
    Calls Try.prog 12 #[.agg #[.int .i64 a, .int .i64 i, .int .i64 n], .slice sp len cap] w fun e w' => e = .returned (.tuple #[.agg #[.int .i64 0, .slice none 0 0, .slice none 0 0], .int .i64 1]) ∧ Below w.heap.size w w' := by
  have HX0 : Hid _ := XW.start w a i n (.int .i64 0) (.slice none 0 0) (.slice none 0 0)
  have RR := rright_any a i n
  rw [hok] at RR
  clear hok
  go_enter Try.func12, Try.ntmps12
  go_wp2_with fail
  refine (RR _).mono ?_
  rintro e w1 ⟨rfl, h1⟩
  have X1 := HX0.out.up h1
  have HX1 : Hid _ := X1
  have s0 := X1.head.c0; have s1 := X1.head.c1; have s2 := X1.head.c2; have f0 := X1.head.fz 0; have f1 := X1.head.fz 1; have f2 := X1.head.fz 2
  clear HX0 RR h1 X1
  go_wp2_with fail
  exact bodyPost_ret (results_r3 rfl _ _ (w.heap.size + 1) _ _ _ rfl (HX1.out.head.set _ _ _)) rfl ⟨rfl, below_set3 HX1.out.geo.2.2.2 (by omega) _ _ _⟩
set_option maxHeartbeats 4000000 in
theorem rget_size (a i n : Int) (sp : Option Addr) (len cap : Nat) (hok : okB a i n = true) (hl : ¬ (len : Int) = 256) (w : World) :
    Calls Try.prog 12 #[.agg #[.int .i64 a, .int .i64 i, .int .i64 n], .slice sp len cap] w fun e w' => e = .returned (.tuple #[.agg #[.int .i64 0, .slice none 0 0, .slice none 0 0], .int .i64 4]) ∧ Below w.heap.size w w' := by
  have HX0 : Hid _ := XW.start w a i n (.int .i64 0) (.slice none 0 0) (.slice none 0 0)
  have RR := rright_any a i n
  rw [hok] at RR
  clear hok
  go_enter Try.func12, Try.ntmps12
  go_wp2_with fail
  refine (RR _).mono ?_
  rintro e w1 ⟨rfl, h1⟩
  have X1 := HX0.out.up h1
  have HX1 : Hid _ := X1
  have s0 := X1.head.c0; have s1 := X1.head.c1; have s2 := X1.head.c2; have f0 := X1.head.fz 0; have f1 := X1.head.fz 1; have f2 := X1.head.fz 2
  clear HX0 RR h1 X1
  go_wp2_with fail
  exact bodyPost_ret (results_r3 rfl _ _ (w.heap.size + 1) _ _ _ rfl (HX1.out.head.set _ _ _)) rfl ⟨rfl, below_set3 HX1.out.geo.2.2.2 (by omega) _ _ _⟩
theorem lent_arg {W : World} {g n : Nat} {l : List UInt8} (h : Blk W g 5 (l ++ a5)) (hn : l.length = n) (h0 : 0 < n) (hm : n ≤ 1000) : Arg W (some ⟨g, 0, none⟩) (n + 8) l := by
  refine .inr ⟨g, 0, rfl, by omega, by omega, by omega, by omega, ?_⟩
  have := h.src.pre l.length
  rw [List.take_left' rfl] at this
  exact this
theorem FQ.mk4 {w0 W : World} {a i n no : Int} {q g1 c1 g2 c2 : Nat} {bl sl : List UInt8} {y1 y2 y3 : Value} (x : XW w0 a i n (.int .i64 0) (.slice none 0 0) (.slice none 0 0) W) (row : Row3 W q 31 y1 y2 y3) (b1 : Arg W (some ⟨g1, 0, none⟩) c1 bl) (b2 : Arg W (some ⟨g2, 0, none⟩) c2 sl) (hq : w0.heap.size + 1 < q) (n1 : g1 ≠ q) (n2 : g2 ≠ q) (m1 : w0.heap.size + 1 < g1) (m2 : w0.heap.size + 1 < g2) :
    FQ w0 a i n no q g1 c1 g2 c2 bl sl (((W.setCell ⟨q, 0, none⟩ (.int .i64 no)).setCell ⟨q, 1, none⟩ (.slice (some ⟨g1, 0, none⟩) 16 c1)).setCell ⟨q, 2, none⟩ (.slice (some ⟨g2, 0, none⟩) 8 c2)) := by
  have hn1 : ∀ b off, some (⟨g1, 0, none⟩ : Addr) = some ⟨b, off, none⟩ → b ≠ q := by intro b off e; cases e; exact n1
  have hn2 : ∀ b off, some (⟨g2, 0, none⟩ : Addr) = some ⟨b, off, none⟩ → b ≠ q := by intro b off e; cases e; exact n2
  exact ⟨x.low (below_set3 (Below.refl q W) (Nat.le_refl _) _ _ _) hq, row.set _ _ _, ((b1.other hn1 _ _).other hn1 _ _).other hn1 _ _, ((b2.other hn2 _ _).other hn2 _ _).other hn2 _ _, hq, n1, n2, m1, m2⟩
set_option maxRecDepth 100000 in
set_option maxHeartbeats 16000000 in
theorem rget_main (a i n : Int) (bb off cap : Nat) (l : List UInt8) (hl : l.length = 256) (hok : okB a i n = true) (w : World) (hsrc : Src w (some ⟨bb, off, none⟩) l) (hc : (256 : Int) ≤ cap) (hm : (cap : Int) ≤ 9223372036854775807) :
    Calls Try.prog 12 #[.agg #[.int .i64 a, .int .i64 i, .int .i64 n], .slice (some ⟨bb, off, none⟩) 256 cap] w fun e w' => Below w.heap.size w w' ∧ ((formB a i n l = false ∧ e = .returned (.tuple #[.agg #[.int .i64 0, .slice none 0 0, .slice none 0 0], .int .i64 8])) ∨ (formB a i n l = true ∧ ∃ g1 c1 g2 c2, e = .returned (.tuple #[.agg #[.int .i64 (rdN l : Int), .slice (some ⟨g1, 0, none⟩) 16 c1, .slice (some ⟨g2, 0, none⟩) 8 c2], .int .i64 0]) ∧ Arg w' (some ⟨g1, 0, none⟩) c1 (rdB l) ∧ Arg w' (some ⟨g2, 0, none⟩) c2 (rdS l) ∧ w.heap.size < g1 ∧ w.heap.size < g2)) := by
  have HX0 : Hid _ := XW.start w a i n (.int .i64 0) (.slice none 0 0) (.slice none 0 0)
  have RR := rright_any a i n
  rw [hok] at RR
  have NG : ∀ W, Below w.heap.size w W → Calls Try.prog 35 #[.slice (some ⟨bb, off + 4, none⟩) 2 (cap - 4)] W fun e w' => e = .returned (.int .u64 (rdN l : Int)) ∧ w' = W := by
    intro W hW
    exact rgetn_any (some ⟨bb, off + 4, none⟩) ((l.drop 4).take 2) (cap - 4) W ((hsrc.part 4 2 (by omega) (by omega)).below hW (Nat.le_refl _)) (by simp [hl])
  have L1 : ∀ W, Below w.heap.size w W → Calls Try.prog 10 #[.slice (some ⟨bb, off + 16, none⟩) 16 (cap - 16)] W fun e w' => ∃ g, e = .returned (.slice (some ⟨g, 0, none⟩) 16 24) ∧ Arg w' (some ⟨g, 0, none⟩) 24 (rdB l) ∧ W.heap.size ≤ g ∧ Below W.heap.size W w' := by
    intro W hW
    have h := lent_any (some ⟨bb, off + 16, none⟩) (cap - 16) (rdB l) W (.inr ⟨bb, off + 16, rfl, by omega, by rw [rdB_length hl]; omega, by omega, by rw [rdB_length hl]; omega, (hsrc.part 16 16 (by omega) (by omega)).below hW (Nat.le_refl _)⟩)
    rw [rdB_length hl] at h
    exact h.mono fun _ _ ⟨g, h1, h2, h3, h4⟩ => ⟨g, h1, lent_arg h2 (rdB_length hl) (by omega) (by omega), h3, h4⟩
  have L2 : ∀ W, Below w.heap.size w W → Calls Try.prog 10 #[.slice (some ⟨bb, off + 32, none⟩) 8 (cap - 32)] W fun e w' => ∃ g, e = .returned (.slice (some ⟨g, 0, none⟩) 8 16) ∧ Arg w' (some ⟨g, 0, none⟩) 16 (rdS l) ∧ W.heap.size ≤ g ∧ Below W.heap.size W w' := by
    intro W hW
    have h := lent_any (some ⟨bb, off + 32, none⟩) (cap - 32) (rdS l) W (.inr ⟨bb, off + 32, rfl, by omega, by rw [rdS_length hl]; omega, by omega, by rw [rdS_length hl]; omega, (hsrc.part 32 8 (by omega) (by omega)).below hW (Nat.le_refl _)⟩)
    rw [rdS_length hl] at h
    exact h.mono fun _ _ ⟨g, h1, h2, h3, h4⟩ => ⟨g, h1, lent_arg h2 (rdS_length hl) (by omega) (by omega), h3, h4⟩
  have lbN := rdB_length hl
  have lsN := rdS_length hl
  have ltN := rdN_lt hl
  have HFM : Hid (formB a i n l = (rgB a i n (rdN l) (rdB l) (rdS l) && (layL (rdN l) (frN (rdB l) a).toNat (frN (rdS l) i).toNat (rdB l) (rdS l) == l))) := rfl
  have HLL : Hid _ := layL_length (rdN l) (frN (rdB l) a).toNat (frN (rdS l) i).toNat (rdB l) (rdS l) lbN lsN
  generalize formB a i n l = FM at *
  generalize rdN l = NN at *
  generalize rdB l = BL at *
  generalize rdS l = SL at *
  have iN : In64 (NN : Int) := ⟨by omega⟩
  have b1 : (6 : Int) ≤ cap := by omega
  have b2 : (32 : Int) ≤ cap := by omega
  have b3 : (40 : Int) ≤ cap := by omega
  have n1 : ¬ cap = 4 := by omega
  have n2 : ¬ cap = 16 := by omega
  have n3 : ¬ cap = 32 := by omega
  have HSR : Hid (Src w (some ⟨bb, off, none⟩) l) := hsrc
  clear hsrc hok
  go_enter Try.func12, Try.ntmps12
  go_wp2_with fail
  refine (RR _).mono ?_
  rintro e w1 ⟨rfl, h1⟩
  have HX1 : Hid (XW w a i n (.int .i64 0) (.slice none 0 0) (.slice none 0 0) w1) := HX0.out.up h1
  clear HX0 RR h1
  go_upto_region 5 with fail
  go_cut [6] (fun s6 wc => ∃ q g1 g2, s6 = .pointer (some ⟨q, 0, none⟩) ∧ FQ w a i n (NN : Int) q g1 24 g2 16 BL SL wc)
  case first =>
    have X1 := HX1.out.up (Below.refl _ _).drew
    refine wp_region_held_drew (S := (fun W => XW w a i n (.int .i64 0) (.slice none 0 0) (.slice none 0 0) W)) (by kernel_rfl) X1 (fun hH => ?_)
    generalize w1.drew = wd at *
    refine takeH (i := 0) (dst := some 17) (v := ?vq1) rfl rfl (by kernel_rfl) (by kernel_rfl) (by kernel_rfl) (fun _ _ _ h => h) rfl ?hyq1 hH rfl ?restq1
    case hyq1 => (intro W hW; clear hW; go_simp; try with_reducible rfl)
    (try simp only [Act.put, List.setIfInBounds_toArray, List.set_cons_zero, List.set_cons_succ])
    refine takeH (i := 1) (dst := some 18) (v := ?vq2) rfl rfl (by kernel_rfl) (by kernel_rfl) (by kernel_rfl) (fun _ _ _ h => h) rfl ?hyq2 hH rfl ?restq2
    case hyq2 => (intro W hW; clear hW; go_simp; try with_reducible rfl)
    (try simp only [Act.put, List.setIfInBounds_toArray, List.set_cons_zero, List.set_cons_succ])
    refine takeH (i := 4) (dst := some 21) (v := ?vq3) rfl rfl (by kernel_rfl) (by kernel_rfl) (by kernel_rfl) (fun _ _ _ h => h) rfl ?hyq3 hH rfl ?restq3
    case hyq3 => (intro W hW; clear hW; go_simp; try with_reducible rfl)
    (try simp only [Act.put, List.setIfInBounds_toArray, List.set_cons_zero, List.set_cons_succ])
    refine takeH (i := 5) (dst := some 22) (v := ?vq4) rfl rfl (by kernel_rfl) (by kernel_rfl) (by kernel_rfl) (fun _ _ _ h => h) rfl ?hyq4 hH rfl ?restq4
    case hyq4 => (intro W hW; clear hW; go_simp; try with_reducible rfl)
    (try simp only [Act.put, List.setIfInBounds_toArray, List.set_cons_zero, List.set_cons_succ])
    refine takeH (i := 7) (dst := some 24) (v := ?vq5) rfl rfl (by kernel_rfl) (by kernel_rfl) (by kernel_rfl) (fun _ _ _ h => h) rfl ?hyq5 hH rfl ?restq5
    case hyq5 => (intro W hW; clear hW; go_simp; try with_reducible rfl)
    (try simp only [Act.put, List.setIfInBounds_toArray, List.set_cons_zero, List.set_cons_succ])
    refine takeH (i := 8) (dst := some 25) (v := ?vq6) rfl rfl (by kernel_rfl) (by kernel_rfl) (by kernel_rfl) (fun _ _ _ h => h) rfl ?hyq6 hH rfl ?restq6
    case hyq6 => (intro W hW; clear hW; go_simp; try with_reducible rfl)
    (try simp only [Act.put, List.setIfInBounds_toArray, List.set_cons_zero, List.set_cons_succ])
    refine callH2 (i := 2) (j := 11) { dst := some 19, op := Go.Op.call { callee := Go.Callee.value (Go.Operand.func 35), args := #[Go.Operand.tmp 18], argTypes := #[24] }, type := 65, pos := "ref.go:89", after := #[{ on := 1, ground := Go.Ground.data }], guard := none } { dst := some 6, op := Go.Op.alloc 31, type := 0, pos := "ref.go:89", after := #[], guard := none } (by kernel_rfl) rfl rfl rfl rfl (fun K hK => ?_) (fun K hK => ?_)
    · go_simp
      refine (NG _ X1.geo.2.2.2).mono ?_
      rintro e v7 ⟨rfl, rfl⟩
      clear hH
      refine hK.out _ _ X1 (fun hH => ?_)
      clear hK K
      (try simp only [Act.put, List.setIfInBounds_toArray, List.set_cons_zero, List.set_cons_succ])
      refine takeH (i := 3) (dst := some 20) (v := ?vq8) rfl rfl (by kernel_rfl) (by kernel_rfl) (by kernel_rfl) (fun _ _ _ h => h) rfl ?hyq8 hH rfl ?restq8
      case hyq8 => (intro W hW; clear hW; go_simp; try with_reducible rfl)
      (try simp only [Act.put, List.setIfInBounds_toArray, List.set_cons_zero, List.set_cons_succ])
      refine callH2 (i := 6) (j := 11) { dst := some 23, op := Go.Op.call { callee := Go.Callee.value (Go.Operand.func 10), args := #[Go.Operand.tmp 22], argTypes := #[24] }, type := 24, pos := "ref.go:89", after := #[{ on := 5, ground := Go.Ground.data }, { on := 2, ground := Go.Ground.chain }], guard := none } { dst := some 6, op := Go.Op.alloc 31, type := 0, pos := "ref.go:89", after := #[], guard := none } (by kernel_rfl) rfl rfl rfl rfl (fun K hK => ?_) (fun K hK => ?_)
      · go_simp
        refine (L1 _ X1.geo.2.2.2).mono ?_
        rintro e v9 ⟨g9, rfl, n9, hg9, b9⟩
        have x9 := X1.up b9
        have hz9 := X1.head.lt
        clear hH b9
        refine hK.out _ _ x9 (fun hH => ?_)
        clear hK K
        (try simp only [Act.put, List.setIfInBounds_toArray, List.set_cons_zero, List.set_cons_succ])
        refine callH2 (i := 9) (j := 11) { dst := some 26, op := Go.Op.call { callee := Go.Callee.value (Go.Operand.func 10), args := #[Go.Operand.tmp 25], argTypes := #[24] }, type := 24, pos := "ref.go:89", after := #[{ on := 8, ground := Go.Ground.data }, { on := 6, ground := Go.Ground.chain }], guard := none } { dst := some 6, op := Go.Op.alloc 31, type := 0, pos := "ref.go:89", after := #[], guard := none } (by kernel_rfl) rfl rfl rfl rfl (fun K hK => ?_) (fun K hK => ?_)
        · go_simp
          refine (L2 _ x9.geo.2.2.2).mono ?_
          rintro e v10 ⟨g10, rfl, n10, hg10, b10⟩
          have x10 := x9.up b10
          have hz10 := x9.head.lt
          have l10_b := n9.lt (by omega) _ _ rfl
          have f10_b := n9.below b10 (Nat.le_refl _)
          clear hH b10
          refine hK.out _ _ x10 (fun hH => ?_)
          clear hK K
          (try simp only [Act.put, List.setIfInBounds_toArray, List.set_cons_zero, List.set_cons_succ])
          refine takeH (i := 10) (dst := some 27) (v := ?vq11) rfl rfl (by kernel_rfl) (by kernel_rfl) (by kernel_rfl) (fun _ _ _ h => h) rfl ?hyq11 hH rfl ?restq11
          case hyq11 => (intro W hW; clear hW; go_simp; try with_reducible rfl)
          (try simp only [Act.put, List.setIfInBounds_toArray, List.set_cons_zero, List.set_cons_succ])
          refine callH (i := 11) { dst := some 6, op := Go.Op.alloc 31, type := 0, pos := "ref.go:89", after := #[], guard := none } (by kernel_rfl) rfl rfl (fun K hK => ?_)
          go_simp
          have al12 : Below v10.heap.size v10 (v10.alloc (.cells #[.int .i64 0, .slice none 0 0, .slice none 0 0] 31)) := (Below.refl _ _).alloc (Nat.le_refl _) _
          have n12 : Row3 (v10.alloc (.cells #[.int .i64 0, .slice none 0 0, .slice none 0 0] 31)) v10.heap.size 31 (.int .i64 0) (.slice none 0 0) (.slice none 0 0) := heap_alloc_new _ _
          have x12 := x10.up al12
          have hz12 := x10.head.lt
          have l12_b := f10_b.lt (by omega) _ _ rfl
          have f12_b := f10_b.below al12 (Nat.le_refl _)
          have l12_s := n10.lt (by omega) _ _ rfl
          have f12_s := n10.below al12 (Nat.le_refl _)
          clear hH
          refine hK.out _ _ x12 (fun hH => ?_)
          clear hK K
          (try simp only [Act.put, List.setIfInBounds_toArray, List.set_cons_zero, List.set_cons_succ])
          clear al12
          generalize v10.alloc (.cells #[.int .i64 0, .slice none 0 0, .slice none 0 0] 31) = v12 at *
          refine callH (i := 12) { dst := none, op := Go.Op.store 31 (Go.Operand.tmp 6) (Go.Operand.tmp 27), type := 0, pos := "ref.go:89", after := #[{ on := 11, ground := Go.Ground.data }, { on := 10, ground := Go.Ground.data }, { on := 9, ground := Go.Ground.chain }, { on := 0, ground := Go.Ground.phase }, { on := 1, ground := Go.Ground.phase }, { on := 2, ground := Go.Ground.phase }, { on := 3, ground := Go.Ground.phase }, { on := 4, ground := Go.Ground.phase }, { on := 5, ground := Go.Ground.phase }, { on := 6, ground := Go.Ground.phase }, { on := 7, ground := Go.Ground.phase }, { on := 8, ground := Go.Ground.phase }, { on := 9, ground := Go.Ground.phase }, { on := 10, ground := Go.Ground.phase }, { on := 11, ground := Go.Ground.phase }], guard := none } (by kernel_rfl) rfl rfl (fun K hK => ?_)
          have c0 := n12.c0; have c1 := n12.c1; have c2 := n12.c2; have f0 := n12.fz 0; have f1 := n12.fz 1; have f2 := n12.fz 2
          have lb := f12_b.lt (by omega) _ _ rfl; have ls := f12_s.lt (by omega) _ _ rfl
          go_simp
          have Z := FQ.mk4 (no := (NN : Int)) x12 n12 f12_b f12_s (by omega) (by omega) (by omega) (by omega) (by omega)
          clear hH c0 c1 c2 f0 f1 f2
          refine hK.out _ _ Z.x (fun hH => ?_)
          clear hK K
          (try simp only [Act.put, List.setIfInBounds_toArray, List.set_cons_zero, List.set_cons_succ])
          refine wpAnyH_done (by kernel_rfl) ?_ _
          clear hH
          go_wp2_with fail
          go_meet
          case rel => exact ⟨_, _, _, rfl, Z⟩
        · go_simp
          have al13 : Below v9.heap.size v9 (v9.alloc (.cells #[.int .i64 0, .slice none 0 0, .slice none 0 0] 31)) := (Below.refl _ _).alloc (Nat.le_refl _) _
          have n13 : Row3 (v9.alloc (.cells #[.int .i64 0, .slice none 0 0, .slice none 0 0] 31)) v9.heap.size 31 (.int .i64 0) (.slice none 0 0) (.slice none 0 0) := heap_alloc_new _ _
          have x13 := x9.up al13
          have hz13 := x9.head.lt
          have l13_b := n9.lt (by omega) _ _ rfl
          have f13_b := n9.below al13 (Nat.le_refl _)
          clear hH
          refine hK.out _ _ x13 (fun hH => ?_)
          clear hK K
          (try simp only [Act.put, List.setIfInBounds_toArray, List.set_cons_zero, List.set_cons_succ])
          clear al13
          generalize v9.alloc (.cells #[.int .i64 0, .slice none 0 0, .slice none 0 0] 31) = v13 at *
          refine callH (i := 9) { dst := some 26, op := Go.Op.call { callee := Go.Callee.value (Go.Operand.func 10), args := #[Go.Operand.tmp 25], argTypes := #[24] }, type := 24, pos := "ref.go:89", after := #[{ on := 8, ground := Go.Ground.data }, { on := 6, ground := Go.Ground.chain }], guard := none } (by kernel_rfl) rfl rfl (fun K hK => ?_)
          go_simp
          refine (L2 _ x13.geo.2.2.2).mono ?_
          rintro e v14 ⟨g14, rfl, n14, hg14, b14⟩
          have x14 := x13.up b14
          have hz14 := x13.head.lt
          have l14_b := f13_b.lt (by omega) _ _ rfl
          have f14_b := f13_b.below b14 (Nat.le_refl _)
          have l14_q := n13.lt
          have f14_q := n13.up b14
          clear hH b14
          refine hK.out _ _ x14 (fun hH => ?_)
          clear hK K
          (try simp only [Act.put, List.setIfInBounds_toArray, List.set_cons_zero, List.set_cons_succ])
          refine takeH (i := 10) (dst := some 27) (v := ?vq15) rfl rfl (by kernel_rfl) (by kernel_rfl) (by kernel_rfl) (fun _ _ _ h => h) rfl ?hyq15 hH rfl ?restq15
          case hyq15 => (intro W hW; clear hW; go_simp; try with_reducible rfl)
          (try simp only [Act.put, List.setIfInBounds_toArray, List.set_cons_zero, List.set_cons_succ])
          refine callH (i := 12) { dst := none, op := Go.Op.store 31 (Go.Operand.tmp 6) (Go.Operand.tmp 27), type := 0, pos := "ref.go:89", after := #[{ on := 11, ground := Go.Ground.data }, { on := 10, ground := Go.Ground.data }, { on := 9, ground := Go.Ground.chain }, { on := 0, ground := Go.Ground.phase }, { on := 1, ground := Go.Ground.phase }, { on := 2, ground := Go.Ground.phase }, { on := 3, ground := Go.Ground.phase }, { on := 4, ground := Go.Ground.phase }, { on := 5, ground := Go.Ground.phase }, { on := 6, ground := Go.Ground.phase }, { on := 7, ground := Go.Ground.phase }, { on := 8, ground := Go.Ground.phase }, { on := 9, ground := Go.Ground.phase }, { on := 10, ground := Go.Ground.phase }, { on := 11, ground := Go.Ground.phase }], guard := none } (by kernel_rfl) rfl rfl (fun K hK => ?_)
          have c0 := f14_q.c0; have c1 := f14_q.c1; have c2 := f14_q.c2; have f0 := f14_q.fz 0; have f1 := f14_q.fz 1; have f2 := f14_q.fz 2
          have lb := f14_b.lt (by omega) _ _ rfl; have ls := n14.lt (by omega) _ _ rfl
          go_simp
          have Z := FQ.mk4 (no := (NN : Int)) x14 f14_q f14_b n14 (by omega) (by omega) (by omega) (by omega) (by omega)
          clear hH c0 c1 c2 f0 f1 f2
          refine hK.out _ _ Z.x (fun hH => ?_)
          clear hK K
          (try simp only [Act.put, List.setIfInBounds_toArray, List.set_cons_zero, List.set_cons_succ])
          refine wpAnyH_done (by kernel_rfl) ?_ _
          clear hH
          go_wp2_with fail
          go_meet
          case rel => exact ⟨_, _, _, rfl, Z⟩
      · go_simp
        have al16 : Below v7.heap.size v7 (v7.alloc (.cells #[.int .i64 0, .slice none 0 0, .slice none 0 0] 31)) := (Below.refl _ _).alloc (Nat.le_refl _) _
        have n16 : Row3 (v7.alloc (.cells #[.int .i64 0, .slice none 0 0, .slice none 0 0] 31)) v7.heap.size 31 (.int .i64 0) (.slice none 0 0) (.slice none 0 0) := heap_alloc_new _ _
        have x16 := X1.up al16
        have hz16 := X1.head.lt
        clear hH
        refine hK.out _ _ x16 (fun hH => ?_)
        clear hK K
        (try simp only [Act.put, List.setIfInBounds_toArray, List.set_cons_zero, List.set_cons_succ])
        clear al16
        generalize v7.alloc (.cells #[.int .i64 0, .slice none 0 0, .slice none 0 0] 31) = v16 at *
        refine callH (i := 6) { dst := some 23, op := Go.Op.call { callee := Go.Callee.value (Go.Operand.func 10), args := #[Go.Operand.tmp 22], argTypes := #[24] }, type := 24, pos := "ref.go:89", after := #[{ on := 5, ground := Go.Ground.data }, { on := 2, ground := Go.Ground.chain }], guard := none } (by kernel_rfl) rfl rfl (fun K hK => ?_)
        go_simp
        refine (L1 _ x16.geo.2.2.2).mono ?_
        rintro e v17 ⟨g17, rfl, n17, hg17, b17⟩
        have x17 := x16.up b17
        have hz17 := x16.head.lt
        have l17_q := n16.lt
        have f17_q := n16.up b17
        clear hH b17
        refine hK.out _ _ x17 (fun hH => ?_)
        clear hK K
        (try simp only [Act.put, List.setIfInBounds_toArray, List.set_cons_zero, List.set_cons_succ])
        refine callH (i := 9) { dst := some 26, op := Go.Op.call { callee := Go.Callee.value (Go.Operand.func 10), args := #[Go.Operand.tmp 25], argTypes := #[24] }, type := 24, pos := "ref.go:89", after := #[{ on := 8, ground := Go.Ground.data }, { on := 6, ground := Go.Ground.chain }], guard := none } (by kernel_rfl) rfl rfl (fun K hK => ?_)
        go_simp
        refine (L2 _ x17.geo.2.2.2).mono ?_
        rintro e v18 ⟨g18, rfl, n18, hg18, b18⟩
        have x18 := x17.up b18
        have hz18 := x17.head.lt
        have l18_q := f17_q.lt
        have f18_q := f17_q.up b18
        have l18_b := n17.lt (by omega) _ _ rfl
        have f18_b := n17.below b18 (Nat.le_refl _)
        clear hH b18
        refine hK.out _ _ x18 (fun hH => ?_)
        clear hK K
        (try simp only [Act.put, List.setIfInBounds_toArray, List.set_cons_zero, List.set_cons_succ])
        refine takeH (i := 10) (dst := some 27) (v := ?vq19) rfl rfl (by kernel_rfl) (by kernel_rfl) (by kernel_rfl) (fun _ _ _ h => h) rfl ?hyq19 hH rfl ?restq19
        case hyq19 => (intro W hW; clear hW; go_simp; try with_reducible rfl)
        (try simp only [Act.put, List.setIfInBounds_toArray, List.set_cons_zero, List.set_cons_succ])
        refine callH (i := 12) { dst := none, op := Go.Op.store 31 (Go.Operand.tmp 6) (Go.Operand.tmp 27), type := 0, pos := "ref.go:89", after := #[{ on := 11, ground := Go.Ground.data }, { on := 10, ground := Go.Ground.data }, { on := 9, ground := Go.Ground.chain }, { on := 0, ground := Go.Ground.phase }, { on := 1, ground := Go.Ground.phase }, { on := 2, ground := Go.Ground.phase }, { on := 3, ground := Go.Ground.phase }, { on := 4, ground := Go.Ground.phase }, { on := 5, ground := Go.Ground.phase }, { on := 6, ground := Go.Ground.phase }, { on := 7, ground := Go.Ground.phase }, { on := 8, ground := Go.Ground.phase }, { on := 9, ground := Go.Ground.phase }, { on := 10, ground := Go.Ground.phase }, { on := 11, ground := Go.Ground.phase }], guard := none } (by kernel_rfl) rfl rfl (fun K hK => ?_)
        have c0 := f18_q.c0; have c1 := f18_q.c1; have c2 := f18_q.c2; have f0 := f18_q.fz 0; have f1 := f18_q.fz 1; have f2 := f18_q.fz 2
        have lb := f18_b.lt (by omega) _ _ rfl; have ls := n18.lt (by omega) _ _ rfl
        go_simp
        have Z := FQ.mk4 (no := (NN : Int)) x18 f18_q f18_b n18 (by omega) (by omega) (by omega) (by omega) (by omega)
        clear hH c0 c1 c2 f0 f1 f2
        refine hK.out _ _ Z.x (fun hH => ?_)
        clear hK K
        (try simp only [Act.put, List.setIfInBounds_toArray, List.set_cons_zero, List.set_cons_succ])
        refine wpAnyH_done (by kernel_rfl) ?_ _
        clear hH
        go_wp2_with fail
        go_meet
        case rel => exact ⟨_, _, _, rfl, Z⟩
    · go_simp
      have al20 : Below wd.heap.size wd (wd.alloc (.cells #[.int .i64 0, .slice none 0 0, .slice none 0 0] 31)) := (Below.refl _ _).alloc (Nat.le_refl _) _
      have n20 : Row3 (wd.alloc (.cells #[.int .i64 0, .slice none 0 0, .slice none 0 0] 31)) wd.heap.size 31 (.int .i64 0) (.slice none 0 0) (.slice none 0 0) := heap_alloc_new _ _
      have x20 := X1.up al20
      have hz20 := X1.head.lt
      clear hH
      refine hK.out _ _ x20 (fun hH => ?_)
      clear hK K
      (try simp only [Act.put, List.setIfInBounds_toArray, List.set_cons_zero, List.set_cons_succ])
      clear al20
      generalize wd.alloc (.cells #[.int .i64 0, .slice none 0 0, .slice none 0 0] 31) = v20 at *
      refine callH (i := 2) { dst := some 19, op := Go.Op.call { callee := Go.Callee.value (Go.Operand.func 35), args := #[Go.Operand.tmp 18], argTypes := #[24] }, type := 65, pos := "ref.go:89", after := #[{ on := 1, ground := Go.Ground.data }], guard := none } (by kernel_rfl) rfl rfl (fun K hK => ?_)
      go_simp
      refine (NG _ x20.geo.2.2.2).mono ?_
      rintro e v21 ⟨rfl, rfl⟩
      clear hH
      refine hK.out _ _ x20 (fun hH => ?_)
      clear hK K
      (try simp only [Act.put, List.setIfInBounds_toArray, List.set_cons_zero, List.set_cons_succ])
      refine takeH (i := 3) (dst := some 20) (v := ?vq22) rfl rfl (by kernel_rfl) (by kernel_rfl) (by kernel_rfl) (fun _ _ _ h => h) rfl ?hyq22 hH rfl ?restq22
      case hyq22 => (intro W hW; clear hW; go_simp; try with_reducible rfl)
      (try simp only [Act.put, List.setIfInBounds_toArray, List.set_cons_zero, List.set_cons_succ])
      refine callH (i := 6) { dst := some 23, op := Go.Op.call { callee := Go.Callee.value (Go.Operand.func 10), args := #[Go.Operand.tmp 22], argTypes := #[24] }, type := 24, pos := "ref.go:89", after := #[{ on := 5, ground := Go.Ground.data }, { on := 2, ground := Go.Ground.chain }], guard := none } (by kernel_rfl) rfl rfl (fun K hK => ?_)
      go_simp
      refine (L1 _ x20.geo.2.2.2).mono ?_
      rintro e v23 ⟨g23, rfl, n23, hg23, b23⟩
      have x23 := x20.up b23
      have hz23 := x20.head.lt
      have l23_q := n20.lt
      have f23_q := n20.up b23
      clear hH b23
      refine hK.out _ _ x23 (fun hH => ?_)
      clear hK K
      (try simp only [Act.put, List.setIfInBounds_toArray, List.set_cons_zero, List.set_cons_succ])
      refine callH (i := 9) { dst := some 26, op := Go.Op.call { callee := Go.Callee.value (Go.Operand.func 10), args := #[Go.Operand.tmp 25], argTypes := #[24] }, type := 24, pos := "ref.go:89", after := #[{ on := 8, ground := Go.Ground.data }, { on := 6, ground := Go.Ground.chain }], guard := none } (by kernel_rfl) rfl rfl (fun K hK => ?_)
      go_simp
      refine (L2 _ x23.geo.2.2.2).mono ?_
      rintro e v24 ⟨g24, rfl, n24, hg24, b24⟩
      have x24 := x23.up b24
      have hz24 := x23.head.lt
      have l24_q := f23_q.lt
      have f24_q := f23_q.up b24
      have l24_b := n23.lt (by omega) _ _ rfl
      have f24_b := n23.below b24 (Nat.le_refl _)
      clear hH b24
      refine hK.out _ _ x24 (fun hH => ?_)
      clear hK K
      (try simp only [Act.put, List.setIfInBounds_toArray, List.set_cons_zero, List.set_cons_succ])
      refine takeH (i := 10) (dst := some 27) (v := ?vq25) rfl rfl (by kernel_rfl) (by kernel_rfl) (by kernel_rfl) (fun _ _ _ h => h) rfl ?hyq25 hH rfl ?restq25
      case hyq25 => (intro W hW; clear hW; go_simp; try with_reducible rfl)
      (try simp only [Act.put, List.setIfInBounds_toArray, List.set_cons_zero, List.set_cons_succ])
      refine callH (i := 12) { dst := none, op := Go.Op.store 31 (Go.Operand.tmp 6) (Go.Operand.tmp 27), type := 0, pos := "ref.go:89", after := #[{ on := 11, ground := Go.Ground.data }, { on := 10, ground := Go.Ground.data }, { on := 9, ground := Go.Ground.chain }, { on := 0, ground := Go.Ground.phase }, { on := 1, ground := Go.Ground.phase }, { on := 2, ground := Go.Ground.phase }, { on := 3, ground := Go.Ground.phase }, { on := 4, ground := Go.Ground.phase }, { on := 5, ground := Go.Ground.phase }, { on := 6, ground := Go.Ground.phase }, { on := 7, ground := Go.Ground.phase }, { on := 8, ground := Go.Ground.phase }, { on := 9, ground := Go.Ground.phase }, { on := 10, ground := Go.Ground.phase }, { on := 11, ground := Go.Ground.phase }], guard := none } (by kernel_rfl) rfl rfl (fun K hK => ?_)
      have c0 := f24_q.c0; have c1 := f24_q.c1; have c2 := f24_q.c2; have f0 := f24_q.fz 0; have f1 := f24_q.fz 1; have f2 := f24_q.fz 2
      have lb := f24_b.lt (by omega) _ _ rfl; have ls := n24.lt (by omega) _ _ rfl
      go_simp
      have Z := FQ.mk4 (no := (NN : Int)) x24 f24_q f24_b n24 (by omega) (by omega) (by omega) (by omega) (by omega)
      clear hH c0 c1 c2 f0 f1 f2
      refine hK.out _ _ Z.x (fun hH => ?_)
      clear hK K
      (try simp only [Act.put, List.setIfInBounds_toArray, List.set_cons_zero, List.set_cons_succ])
      refine wpAnyH_done (by kernel_rfl) ?_ _
      clear hH
      go_wp2_with fail
      go_meet
      case rel => exact ⟨_, _, _, rfl, Z⟩
  case rest =>
    obtain ⟨q, g1, g2, rfl, Z1⟩ := hcut
    have HZ1 : Hid _ := Z1
    have q0 := Z1.x.geo.1; have q1 := Z1.x.geo.2.1; have q2 := Z1.x.geo.2.2.1; have r0 := Z1.row.c0; have r1 := Z1.row.c1; have r2 := Z1.row.c2
    have hB1 : Below w.heap.size w wc := Z1.x.geo.2.2.2
    clear HX1 NG L1 L2
    cases hrg : rgB a i n NN BL SL
    · have RP := rput_no a i n NN BL SL (some ⟨g1, 0, none⟩) (some ⟨g2, 0, none⟩) 24 16 lbN lsN hrg wc Z1.ab.src Z1.asl.src
      have HF : Hid (FM = false) := by show _ = _; rw [HFM.out, hrg]; rfl
      clear hrg HFM Z1
      go_wp2_with fail
      refine RP.mono ?_
      rintro e w2 ⟨rfl, h2⟩
      have Z2 := HZ1.out.up h2
      have HZ2 : Hid _ := Z2
      have s0 := Z2.x.head.c0; have s1 := Z2.x.head.c1; have s2 := Z2.x.head.c2; have f0 := Z2.x.head.fz 0; have f1 := Z2.x.head.fz 1; have f2 := Z2.x.head.fz 2
      clear Z2 HZ1 h2 RP q0 q1 q2 r0 r1 r2
      go_wp2_with fail
      exact bodyPost_ret (results_r3 rfl _ _ (w.heap.size + 1) _ _ _ rfl (HZ2.out.x.head.set _ _ _)) rfl ⟨below_set3 HZ2.out.x.geo.2.2.2 (by omega) _ _ _, .inl ⟨HF.out, rfl⟩⟩
    · have RP := rput_yes a i n NN BL SL (some ⟨g1, 0, none⟩) (some ⟨g2, 0, none⟩) 24 16 lbN lsN hrg wc Z1.ab Z1.asl
      rw [hrg, Bool.true_and] at HFM
      generalize layL NN (frN BL a).toNat (frN SL i).toNat BL SL = LL at *
      clear hrg Z1
      go_wp2_with fail
      refine RP.mono ?_
      rintro e w2 ⟨v2, rfl, o2, h2⟩
      obtain ⟨ao, ac, rfl, so, _, _, _⟩ := o2.form
      rw [HLL.out]
      have Z2 := HZ1.out.up h2
      have HZ2 : Hid _ := Z2
      have k1 := conv_str so 256 ac HLL.out.symm
      have k2 := conv_str (HSR.out.below Z2.x.geo.2.2.2 (Nat.le_refl _)) 256 cap hl.symm
      have s0 := Z2.x.head.c0; have s1 := Z2.x.head.c1; have s2 := Z2.x.head.c2; have f0 := Z2.x.head.fz 0; have f1 := Z2.x.head.fz 1; have f2 := Z2.x.head.fz 2
      have r0 := Z2.row.c0; have r1 := Z2.row.c1; have r2 := Z2.row.c2
      have hm1 := Z2.m1; have hm2 := Z2.m2
      clear Z2 HZ1 h2 RP q0 q1 q2 o2 so hB1 HSR
      by_cases he : LL = l
      · subst he
        have HF : Hid (FM = true) := by show _ = _; rw [HFM.out]; exact beq_self_eq_true LL
        clear HFM
        have hne1 : ∀ b off, some (⟨g1, 0, none⟩ : Addr) = some ⟨b, off, none⟩ → b ≠ w.heap.size + 1 := by intro b off e; cases e; omega
        have hne2 : ∀ b off, some (⟨g2, 0, none⟩ : Addr) = some ⟨b, off, none⟩ → b ≠ w.heap.size + 1 := by intro b off e; cases e; omega
        have HR : Hid (Arg _ _ _ _ ∧ Arg _ _ _ _) := ⟨((HZ2.out.ab.other hne1 0 (.int .i64 (NN : Int))).other hne1 1 (.slice (some ⟨g1, 0, none⟩) 16 24)).other hne1 2 (.slice (some ⟨g2, 0, none⟩) 8 16), ((HZ2.out.asl.other hne2 0 (.int .i64 (NN : Int))).other hne2 1 (.slice (some ⟨g1, 0, none⟩) 16 24)).other hne2 2 (.slice (some ⟨g2, 0, none⟩) 8 16)⟩
        clear hne1 hne2
        go_wp2_with fail
        exact bodyPost_ret (results_r3 rfl _ _ (w.heap.size + 1) _ _ _ rfl (HZ2.out.x.head.set _ _ _)) rfl ⟨below_set3 HZ2.out.x.geo.2.2.2 (by omega) _ _ _, .inr ⟨HF.out, g1, 24, g2, 16, rfl, HR.out.1, HR.out.2, by omega, by omega⟩⟩
      · have HF : Hid (FM = false) := by show _ = _; rw [HFM.out]; simpa using he
        have hsn : ¬ str LL = str l := fun e => he (str_inj e)
        have hsb : ((str LL).toList == (str l).toList) = false := by simpa using (not_congr (str_beq LL l)).2 he
        clear HFM he
        go_wp2_with fail
        exact bodyPost_ret (results_r3 rfl _ _ (w.heap.size + 1) _ _ _ rfl (HZ2.out.x.head.set _ _ _)) rfl ⟨below_set3 HZ2.out.x.geo.2.2.2 (by omega) _ _ _, .inl ⟨HF.out, rfl⟩⟩
end Go.Proofs.Ytfbbdpapnegmcaa
