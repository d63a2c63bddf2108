/- group.Right. -/
import Derived.Test.YtfbbdpapnegmcaaTurn
namespace Go.Proofs.Ytfbbdpapnegmcaa
open Go.RowKit
/-- A shape and a header lie where a function has boxed them. -/
structure RW (w0 : World) (a i n no : Int) (bl sl : List UInt8) (W : World) : Prop where
  geo : Lies w0 w0.heap.size a i n W
  head : HeadAt W (w0.heap.size + 1) no bl sl
theorem RW.up {w0 W W' : World} {a i n no : Int} {bl sl : List UInt8} (h : RW w0 a i n no bl sl W) (hb : Below W.heap.size W W') : RW w0 a i n no bl sl W' :=
  ⟨⟨(hb.cell (p := ⟨w0.heap.size, 0, none⟩) (block_lt_of_cell h.geo.1)).trans h.geo.1, (hb.cell (p := ⟨w0.heap.size, 1, none⟩) (block_lt_of_cell h.geo.2.1)).trans h.geo.2.1, (hb.cell (p := ⟨w0.heap.size, 2, none⟩) (block_lt_of_cell h.geo.2.2.1)).trans h.geo.2.2.1, h.geo.2.2.2.trans (hb.mono h.geo.2.2.2.size)⟩, h.head.up hb⟩
theorem RW.start (w : World) (a i n no : Int) (bl sl : List UInt8) (hb : bl.length = 16) (hs : sl.length = 8) : RW w a i n no bl sl ((w.alloc (.cells #[.int .i64 a, .int .i64 i, .int .i64 n] 23)).alloc (.cells (hA no bl sl) 28)) := by
  have h := head_new (w.alloc (.cells #[.int .i64 a, .int .i64 i, .int .i64 n] 23)) no bl sl hb hs
  rw [show (w.alloc (.cells #[.int .i64 a, .int .i64 i, .int .i64 n] 23)).heap.size = w.heap.size + 1 by simp] at h
  exact ⟨⟨by simp, by simp, by simp, ((Below.refl _ _).alloc (Nat.le_refl _) _).alloc (by simp) _⟩, h⟩
/-- How many blocks are kept. -/
def kbl (i : Int) : Nat := (1 + i / 4).toNat
theorem kbl_of {a i n : Int} (h : okG a i n) : (1 + i / 4 : Int) = (kbl i : Nat) ∧ kbl i ≤ 17 := by have := okG_iff.1 h; unfold kbl; omega
/-- Can a header be? -/
def rgB (a i n no : Int) (bl sl : List UInt8) : Bool := numB a i n no && (covB bl (kbl i) a.toNat && covB sl (ksl no) i.toNat)
theorem numB_ok {a i n no : Int} (h : numB a i n no = true) : okG a i n ∧ 0 ≤ no ∧ no < n := by
  unfold numB at h
  simp only [Bool.and_eq_true, decide_eq_true_eq] at h
  exact h
theorem ksl_le (no : Int) : ksl no ≤ 2 := by unfold ksl; split <;> omega
attribute [local go_sem] wrapI
set_option maxHeartbeats 4000000 in
theorem gright_any (a i n no : Int) (bl sl : List UInt8) (hb : bl.length = 16) (hs : sl.length = 8) (w : World) :
    Calls Try.prog 16 #[.agg #[.int .i64 a, .int .i64 i, .int .i64 n], .agg (hA no bl sl)] w fun e w' => e = .returned (.bool (rgB a i n no bl sl)) ∧ Below w.heap.size w w' := by
  have R0 := RW.start w a i n no bl sl hb hs
  have RD : RW w a i n no bl sl ((w.alloc (.cells #[.int .i64 a, .int .i64 i, .int .i64 n] 23)).alloc (.cells (hA no bl sl) 28)).drew := R0.up (Below.refl _ _).drew
  clear R0
  have NB : ∀ W, RW w a i n no bl sl W → Calls Try.prog 36 #[.agg #[.int .i64 a, .int .i64 i, .int .i64 n], .int .i64 no] W fun e w' => e = .returned (.bool (numB a i n no)) ∧ RW w a i n no bl sl w' :=
    fun W hW => (numbered_any a i n no W).mono fun _ _ ⟨h1, h2⟩ => ⟨h1, hW.up h2⟩
  unfold rgB
  cases hnb : numB a i n no
  · rw [hnb] at NB
    go_enter Try.func16, Try.ntmps16
    go_wp2_with fail
    refine wp_region_held_drew (S := (fun W => RW w a i n no bl sl W)) (by kernel_rfl) RD (fun hH => ?_)
    refine takeH (i := 0) (dst := some 5) (v := ?v1) rfl rfl (by kernel_rfl) (by kernel_rfl) (by kernel_rfl) (fun _ _ _ h => h) rfl ?hy1 hH rfl ?rest1
    case hy1 => (intro W hW; have q0 := hW.geo.1; have q1 := hW.geo.2.1; have q2 := hW.geo.2.2.1; have q3 := hW.head.c0; clear hW; go_simp; try with_reducible rfl)
    (try simp only [Act.put, List.setIfInBounds_toArray, List.set_cons_zero, List.set_cons_succ])
    refine takeH (i := 1) (dst := some 6) (v := ?v2) rfl rfl (by kernel_rfl) (by kernel_rfl) (by kernel_rfl) (fun _ _ _ h => h) rfl ?hy2 hH rfl ?rest2
    case hy2 => (intro W hW; have q0 := hW.geo.1; have q1 := hW.geo.2.1; have q2 := hW.geo.2.2.1; have q3 := hW.head.c0; clear hW; go_simp; try with_reducible rfl)
    (try simp only [Act.put, List.setIfInBounds_toArray, List.set_cons_zero, List.set_cons_succ])
    refine takeH (i := 2) (dst := some 7) (v := ?v3) rfl rfl (by kernel_rfl) (by kernel_rfl) (by kernel_rfl) (fun _ _ _ h => h) rfl ?hy3 hH rfl ?rest3
    case hy3 => (intro W hW; have q0 := hW.geo.1; have q1 := hW.geo.2.1; have q2 := hW.geo.2.2.1; have q3 := hW.head.c0; clear hW; go_simp; try with_reducible rfl)
    (try simp only [Act.put, List.setIfInBounds_toArray, List.set_cons_zero, List.set_cons_succ])
    refine callH (i := 3) { dst := some 8, op := Go.Op.call { callee := Go.Callee.value (Go.Operand.func 36), args := #[Go.Operand.tmp 5, Go.Operand.tmp 7], argTypes := #[23, 3] }, type := 4, pos := "group.go:78", after := #[{ on := 0, ground := Go.Ground.data }, { on := 2, ground := Go.Ground.data }], guard := none } (by kernel_rfl) rfl rfl (fun K hK => ?_)
    go_simp
    refine (NB _ hH).mono ?_
    rintro e v1 ⟨rfl, m1⟩
    clear hH
    refine hK.out _ _ m1 (fun hH => ?_)
    clear hK K
    (try simp only [Act.put, List.setIfInBounds_toArray, List.set_cons_zero, List.set_cons_succ])
    refine takeH (i := 4) (dst := some 9) (v := ?v4) rfl rfl (by kernel_rfl) (by kernel_rfl) (by kernel_rfl) (fun _ _ _ h => h) rfl ?hy4 hH rfl ?rest4
    case hy4 => (intro W hW; have q0 := hW.geo.1; have q1 := hW.geo.2.1; have q2 := hW.geo.2.2.1; have q3 := hW.head.c0; clear hW; go_simp; try with_reducible rfl)
    (try simp only [Act.put, List.setIfInBounds_toArray, List.set_cons_zero, List.set_cons_succ])
    refine takeU (i := 5) (dst := some 10) rfl rfl (by kernel_rfl) (by kernel_rfl) (by kernel_rfl) (fun _ _ _ h => h) rfl hH rfl ?_
    (try simp only [Act.put, List.setIfInBounds_toArray, List.set_cons_zero, List.set_cons_succ])
    refine takeU (i := 6) (dst := some 11) rfl rfl (by kernel_rfl) (by kernel_rfl) (by kernel_rfl) (fun _ _ _ h => h) rfl hH rfl ?_
    (try simp only [Act.put, List.setIfInBounds_toArray, List.set_cons_zero, List.set_cons_succ])
    refine takeU (i := 7) (dst := some 12) rfl rfl (by kernel_rfl) (by kernel_rfl) (by kernel_rfl) (fun _ _ _ h => h) rfl hH rfl ?_
    (try simp only [Act.put, List.setIfInBounds_toArray, List.set_cons_zero, List.set_cons_succ])
    refine takeU (i := 8) (dst := some 13) rfl rfl (by kernel_rfl) (by kernel_rfl) (by kernel_rfl) (fun _ _ _ h => h) rfl hH rfl ?_
    (try simp only [Act.put, List.setIfInBounds_toArray, List.set_cons_zero, List.set_cons_succ])
    refine takeU (i := 9) (dst := some 14) rfl rfl (by kernel_rfl) (by kernel_rfl) (by kernel_rfl) (fun _ _ _ h => h) rfl hH rfl ?_
    (try simp only [Act.put, List.setIfInBounds_toArray, List.set_cons_zero, List.set_cons_succ])
    refine takeU (i := 10) (dst := some 15) rfl rfl (by kernel_rfl) (by kernel_rfl) (by kernel_rfl) (fun _ _ _ h => h) rfl hH rfl ?_
    (try simp only [Act.put, List.setIfInBounds_toArray, List.set_cons_zero, List.set_cons_succ])
    refine takeU (i := 11) (dst := some 16) rfl rfl (by kernel_rfl) (by kernel_rfl) (by kernel_rfl) (fun _ _ _ h => h) rfl hH rfl ?_
    (try simp only [Act.put, List.setIfInBounds_toArray, List.set_cons_zero, List.set_cons_succ])
    refine takeH (i := 12) (dst := some 17) (v := ?v5) rfl rfl (by kernel_rfl) (by kernel_rfl) (by kernel_rfl) (fun _ _ _ h => h) rfl ?hy5 hH rfl ?rest5
    case hy5 => (intro W hW; have q0 := hW.geo.1; have q1 := hW.geo.2.1; have q2 := hW.geo.2.2.1; have q3 := hW.head.c0; clear hW; go_simp; try with_reducible rfl)
    (try simp only [Act.put, List.setIfInBounds_toArray, List.set_cons_zero, List.set_cons_succ])
    refine takeH (i := 13) (dst := some 18) (v := ?v6) rfl rfl (by kernel_rfl) (by kernel_rfl) (by kernel_rfl) (fun _ _ _ h => h) rfl ?hy6 hH rfl ?rest6
    case hy6 => (intro W hW; have q0 := hW.geo.1; have q1 := hW.geo.2.1; have q2 := hW.geo.2.2.1; have q3 := hW.head.c0; clear hW; go_simp; try with_reducible rfl)
    (try simp only [Act.put, List.setIfInBounds_toArray, List.set_cons_zero, List.set_cons_succ])
    refine takeU (i := 14) (dst := some 19) rfl rfl (by kernel_rfl) (by kernel_rfl) (by kernel_rfl) (fun _ _ _ h => h) rfl hH rfl ?_
    (try simp only [Act.put, List.setIfInBounds_toArray, List.set_cons_zero, List.set_cons_succ])
    refine takeU (i := 15) (dst := some 20) rfl rfl (by kernel_rfl) (by kernel_rfl) (by kernel_rfl) (fun _ _ _ h => h) rfl hH rfl ?_
    (try simp only [Act.put, List.setIfInBounds_toArray, List.set_cons_zero, List.set_cons_succ])
    refine takeU (i := 16) (dst := some 21) rfl rfl (by kernel_rfl) (by kernel_rfl) (by kernel_rfl) (fun _ _ _ h => h) rfl hH rfl ?_
    (try simp only [Act.put, List.setIfInBounds_toArray, List.set_cons_zero, List.set_cons_succ])
    refine takeU (i := 17) (dst := some 22) rfl rfl (by kernel_rfl) (by kernel_rfl) (by kernel_rfl) (fun _ _ _ h => h) rfl hH rfl ?_
    (try simp only [Act.put, List.setIfInBounds_toArray, List.set_cons_zero, List.set_cons_succ])
    refine takeU (i := 18) (dst := some 23) rfl rfl (by kernel_rfl) (by kernel_rfl) (by kernel_rfl) (fun _ _ _ h => h) rfl hH rfl ?_
    (try simp only [Act.put, List.setIfInBounds_toArray, List.set_cons_zero, List.set_cons_succ])
    refine takeU (i := 19) (dst := some 24) rfl rfl (by kernel_rfl) (by kernel_rfl) (by kernel_rfl) (fun _ _ _ h => h) rfl hH rfl ?_
    (try simp only [Act.put, List.setIfInBounds_toArray, List.set_cons_zero, List.set_cons_succ])
    refine takeU (i := 20) (dst := some 25) rfl rfl (by kernel_rfl) (by kernel_rfl) (by kernel_rfl) (fun _ _ _ h => h) rfl hH rfl ?_
    (try simp only [Act.put, List.setIfInBounds_toArray, List.set_cons_zero, List.set_cons_succ])
    refine takeU (i := 21) (dst := some 26) rfl rfl (by kernel_rfl) (by kernel_rfl) (by kernel_rfl) (fun _ _ _ h => h) rfl hH rfl ?_
    (try simp only [Act.put, List.setIfInBounds_toArray, List.set_cons_zero, List.set_cons_succ])
    refine takeH (i := 22) (dst := some 27) (v := ?v7) rfl rfl (by kernel_rfl) (by kernel_rfl) (by kernel_rfl) (fun _ _ _ h => h) rfl ?hy7 hH rfl ?rest7
    case hy7 => (intro W hW; have q0 := hW.geo.1; have q1 := hW.geo.2.1; have q2 := hW.geo.2.2.1; have q3 := hW.head.c0; clear hW; go_simp; try with_reducible rfl)
    (try simp only [Act.put, List.setIfInBounds_toArray, List.set_cons_zero, List.set_cons_succ])
    refine takeH (i := 23) (dst := some 4) (v := ?v8) rfl rfl (by kernel_rfl) (by kernel_rfl) (by kernel_rfl) (fun _ _ _ h => h) rfl ?hy8 hH rfl ?rest8
    case hy8 => (intro W hW; have q0 := hW.geo.1; have q1 := hW.geo.2.1; have q2 := hW.geo.2.2.1; have q3 := hW.head.c0; clear hW; go_simp; try with_reducible rfl)
    (try simp only [Act.put, List.setIfInBounds_toArray, List.set_cons_zero, List.set_cons_succ])
    refine wpAnyH_done (by kernel_rfl) ?_ _
    clear hH
    go_wp2
    go_ret
    exact ⟨rfl, m1.geo.2.2.2⟩
  · obtain ⟨hok, hno0, hnon⟩ := numB_ok hnb
    rw [hnb] at NB
    obtain ⟨ke, kl⟩ := kbl_of hok
    have hbx := hok.box
    have hk2 := ksl_le no
    have KB : ∀ W, RW w a i n no bl sl W → Calls Try.prog 38 #[.agg #[.int .i64 a, .int .i64 i, .int .i64 n]] W fun e w' => e = .returned (.int .i64 (1 + i / 4)) ∧ RW w a i n no bl sl w' :=
      fun W hW => (keptBlocks_any a i n W hok).mono fun _ _ ⟨h1, h2⟩ => ⟨h1, hW.up h2⟩
    have CV1 : ∀ W, RW w a i n no bl sl W → Calls Try.prog 42 #[.slice (some ⟨w.heap.size + 1, 1, none⟩) 16 16, .int .i64 (1 + i / 4), .int .i64 a] W fun e w' => e = .returned (.bool (covB bl (kbl i) a.toNat)) ∧ RW w a i n no bl sl w' := by
      intro W hW
      have h := covers_any (some ⟨w.heap.size + 1, 1, none⟩) bl 16 (kbl i) a.toNat W hW.head.srcB (by omega) (by omega) (by omega)
      rw [hb, ← ke, show ((a.toNat : Nat) : Int) = a by omega] at h
      exact h.mono fun _ _ ⟨h1, d, h2⟩ => ⟨h1, by rw [h2]; exact hW.up (below_drewN (Below.refl _ _) d)⟩
    have KS : ∀ W, RW w a i n no bl sl W → Calls Try.prog 39 #[.int .i64 no] W fun e w' => e = .returned (.int .i64 (ksl no : Nat)) ∧ RW w a i n no bl sl w' :=
      fun W hW => (keptSlots_any no W).mono fun _ _ ⟨h1, h2⟩ => ⟨h1, by rw [h2]; exact hW⟩
    have CV2 : ∀ W, RW w a i n no bl sl W → Calls Try.prog 42 #[.slice (some ⟨w.heap.size + 1, 17, none⟩) 8 8, .int .i64 (ksl no : Nat), .int .i64 i] W fun e w' => e = .returned (.bool (covB sl (ksl no) i.toNat)) ∧ RW w a i n no bl sl w' := by
      intro W hW
      have h := covers_any (some ⟨w.heap.size + 1, 17, none⟩) sl 8 (ksl no) i.toNat W hW.head.srcS (by omega) (by omega) (by omega)
      rw [hs, show ((i.toNat : Nat) : Int) = i by omega] at h
      exact h.mono fun _ _ ⟨h1, d, h2⟩ => ⟨h1, by rw [h2]; exact hW.up (below_drewN (Below.refl _ _) d)⟩
    clear hnb hok hno0 hnon ke kl hbx hk2
    generalize covB bl (kbl i) a.toNat = c1 at CV1 ⊢
    generalize covB sl (ksl no) i.toNat = c2 at CV2 ⊢
    generalize ksl no = k2 at KS CV2
    cases c1
    · go_enter Try.func16, Try.ntmps16
      go_wp2_with fail
      refine wp_region_held_drew (S := (fun W => RW w a i n no bl sl W)) (by kernel_rfl) RD (fun hH => ?_)
      refine takeH (i := 0) (dst := some 5) (v := ?v9) rfl rfl (by kernel_rfl) (by kernel_rfl) (by kernel_rfl) (fun _ _ _ h => h) rfl ?hy9 hH rfl ?rest9
      case hy9 => (intro W hW; have q0 := hW.geo.1; have q1 := hW.geo.2.1; have q2 := hW.geo.2.2.1; have q3 := hW.head.c0; clear hW; go_simp; try with_reducible rfl)
      (try simp only [Act.put, List.setIfInBounds_toArray, List.set_cons_zero, List.set_cons_succ])
      refine takeH (i := 1) (dst := some 6) (v := ?v10) rfl rfl (by kernel_rfl) (by kernel_rfl) (by kernel_rfl) (fun _ _ _ h => h) rfl ?hy10 hH rfl ?rest10
      case hy10 => (intro W hW; have q0 := hW.geo.1; have q1 := hW.geo.2.1; have q2 := hW.geo.2.2.1; have q3 := hW.head.c0; clear hW; go_simp; try with_reducible rfl)
      (try simp only [Act.put, List.setIfInBounds_toArray, List.set_cons_zero, List.set_cons_succ])
      refine takeH (i := 2) (dst := some 7) (v := ?v11) rfl rfl (by kernel_rfl) (by kernel_rfl) (by kernel_rfl) (fun _ _ _ h => h) rfl ?hy11 hH rfl ?rest11
      case hy11 => (intro W hW; have q0 := hW.geo.1; have q1 := hW.geo.2.1; have q2 := hW.geo.2.2.1; have q3 := hW.head.c0; clear hW; go_simp; try with_reducible rfl)
      (try simp only [Act.put, List.setIfInBounds_toArray, List.set_cons_zero, List.set_cons_succ])
      refine callH (i := 3) { dst := some 8, op := Go.Op.call { callee := Go.Callee.value (Go.Operand.func 36), args := #[Go.Operand.tmp 5, Go.Operand.tmp 7], argTypes := #[23, 3] }, type := 4, pos := "group.go:78", after := #[{ on := 0, ground := Go.Ground.data }, { on := 2, ground := Go.Ground.data }], guard := none } (by kernel_rfl) rfl rfl (fun K hK => ?_)
      go_simp
      refine (NB _ hH).mono ?_
      rintro e v1 ⟨rfl, m1⟩
      clear hH
      refine hK.out _ _ m1 (fun hH => ?_)
      clear hK K
      (try simp only [Act.put, List.setIfInBounds_toArray, List.set_cons_zero, List.set_cons_succ])
      refine takeH (i := 4) (dst := some 9) (v := ?v12) rfl rfl (by kernel_rfl) (by kernel_rfl) (by kernel_rfl) (fun _ _ _ h => h) rfl ?hy12 hH rfl ?rest12
      case hy12 => (intro W hW; have q0 := hW.geo.1; have q1 := hW.geo.2.1; have q2 := hW.geo.2.2.1; have q3 := hW.head.c0; clear hW; go_simp; try with_reducible rfl)
      (try simp only [Act.put, List.setIfInBounds_toArray, List.set_cons_zero, List.set_cons_succ])
      refine takeH (i := 5) (dst := some 10) (v := ?v13) rfl rfl (by kernel_rfl) (by kernel_rfl) (by kernel_rfl) (fun _ _ _ h => h) rfl ?hy13 hH rfl ?rest13
      case hy13 => (intro W hW; have q0 := hW.geo.1; have q1 := hW.geo.2.1; have q2 := hW.geo.2.2.1; have q3 := hW.head.c0; clear hW; go_simp; try with_reducible rfl)
      (try simp only [Act.put, List.setIfInBounds_toArray, List.set_cons_zero, List.set_cons_succ])
      refine takeH (i := 6) (dst := some 11) (v := ?v14) rfl rfl (by kernel_rfl) (by kernel_rfl) (by kernel_rfl) (fun _ _ _ h => h) rfl ?hy14 hH rfl ?rest14
      case hy14 => (intro W hW; have q0 := hW.geo.1; have q1 := hW.geo.2.1; have q2 := hW.geo.2.2.1; have q3 := hW.head.c0; clear hW; go_simp; try with_reducible rfl)
      (try simp only [Act.put, List.setIfInBounds_toArray, List.set_cons_zero, List.set_cons_succ])
      refine takeH (i := 7) (dst := some 12) (v := ?v15) rfl rfl (by kernel_rfl) (by kernel_rfl) (by kernel_rfl) (fun _ _ _ h => h) rfl ?hy15 hH rfl ?rest15
      case hy15 => (intro W hW; have q0 := hW.geo.1; have q1 := hW.geo.2.1; have q2 := hW.geo.2.2.1; have q3 := hW.head.c0; clear hW; go_simp; try with_reducible rfl)
      (try simp only [Act.put, List.setIfInBounds_toArray, List.set_cons_zero, List.set_cons_succ])
      refine takeH (i := 9) (dst := some 14) (v := ?v16) rfl rfl (by kernel_rfl) (by kernel_rfl) (by kernel_rfl) (fun _ _ _ h => h) rfl ?hy16 hH rfl ?rest16
      case hy16 => (intro W hW; have q0 := hW.geo.1; have q1 := hW.geo.2.1; have q2 := hW.geo.2.2.1; have q3 := hW.head.c0; clear hW; go_simp; try with_reducible rfl)
      (try simp only [Act.put, List.setIfInBounds_toArray, List.set_cons_zero, List.set_cons_succ])
      refine takeH (i := 10) (dst := some 15) (v := ?v17) rfl rfl (by kernel_rfl) (by kernel_rfl) (by kernel_rfl) (fun _ _ _ h => h) rfl ?hy17 hH rfl ?rest17
      case hy17 => (intro W hW; have q0 := hW.geo.1; have q1 := hW.geo.2.1; have q2 := hW.geo.2.2.1; have q3 := hW.head.c0; clear hW; go_simp; try with_reducible rfl)
      (try simp only [Act.put, List.setIfInBounds_toArray, List.set_cons_zero, List.set_cons_succ])
      refine callH (i := 8) { dst := some 13, op := Go.Op.call { callee := Go.Callee.value (Go.Operand.func 38), args := #[Go.Operand.tmp 12], argTypes := #[23] }, type := 3, pos := "group.go:79", after := #[{ on := 7, ground := Go.Ground.data }, { on := 4, ground := Go.Ground.chain }, { on := 4, ground := Go.Ground.guard }], guard := some (4, true) } (by kernel_rfl) rfl rfl (fun K hK => ?_)
      go_simp
      refine (KB _ hH).mono ?_
      rintro e v2 ⟨rfl, m2⟩
      clear hH
      refine hK.out _ _ m2 (fun hH => ?_)
      clear hK K
      (try simp only [Act.put, List.setIfInBounds_toArray, List.set_cons_zero, List.set_cons_succ])
      refine callH (i := 11) { dst := some 16, op := Go.Op.call { callee := Go.Callee.value (Go.Operand.func 42), args := #[Go.Operand.tmp 11, Go.Operand.tmp 13, Go.Operand.tmp 15], argTypes := #[24, 3, 3] }, type := 4, pos := "group.go:79", after := #[{ on := 6, ground := Go.Ground.data }, { on := 8, ground := Go.Ground.data }, { on := 10, ground := Go.Ground.data }, { on := 8, ground := Go.Ground.chain }, { on := 4, ground := Go.Ground.guard }], guard := some (4, true) } (by kernel_rfl) rfl rfl (fun K hK => ?_)
      go_simp
      refine (CV1 _ hH).mono ?_
      rintro e v3 ⟨rfl, m3⟩
      clear hH
      refine hK.out _ _ m3 (fun hH => ?_)
      clear hK K
      (try simp only [Act.put, List.setIfInBounds_toArray, List.set_cons_zero, List.set_cons_succ])
      refine takeH (i := 12) (dst := some 17) (v := ?v18) rfl rfl (by kernel_rfl) (by kernel_rfl) (by kernel_rfl) (fun _ _ _ h => h) rfl ?hy18 hH rfl ?rest18
      case hy18 => (intro W hW; have q0 := hW.geo.1; have q1 := hW.geo.2.1; have q2 := hW.geo.2.2.1; have q3 := hW.head.c0; clear hW; go_simp; try with_reducible rfl)
      (try simp only [Act.put, List.setIfInBounds_toArray, List.set_cons_zero, List.set_cons_succ])
      refine takeH (i := 13) (dst := some 18) (v := ?v19) rfl rfl (by kernel_rfl) (by kernel_rfl) (by kernel_rfl) (fun _ _ _ h => h) rfl ?hy19 hH rfl ?rest19
      case hy19 => (intro W hW; have q0 := hW.geo.1; have q1 := hW.geo.2.1; have q2 := hW.geo.2.2.1; have q3 := hW.head.c0; clear hW; go_simp; try with_reducible rfl)
      (try simp only [Act.put, List.setIfInBounds_toArray, List.set_cons_zero, List.set_cons_succ])
      refine takeU (i := 14) (dst := some 19) rfl rfl (by kernel_rfl) (by kernel_rfl) (by kernel_rfl) (fun _ _ _ h => h) rfl hH rfl ?_
      (try simp only [Act.put, List.setIfInBounds_toArray, List.set_cons_zero, List.set_cons_succ])
      refine takeU (i := 15) (dst := some 20) rfl rfl (by kernel_rfl) (by kernel_rfl) (by kernel_rfl) (fun _ _ _ h => h) rfl hH rfl ?_
      (try simp only [Act.put, List.setIfInBounds_toArray, List.set_cons_zero, List.set_cons_succ])
      refine takeU (i := 16) (dst := some 21) rfl rfl (by kernel_rfl) (by kernel_rfl) (by kernel_rfl) (fun _ _ _ h => h) rfl hH rfl ?_
      (try simp only [Act.put, List.setIfInBounds_toArray, List.set_cons_zero, List.set_cons_succ])
      refine takeU (i := 17) (dst := some 22) rfl rfl (by kernel_rfl) (by kernel_rfl) (by kernel_rfl) (fun _ _ _ h => h) rfl hH rfl ?_
      (try simp only [Act.put, List.setIfInBounds_toArray, List.set_cons_zero, List.set_cons_succ])
      refine takeU (i := 18) (dst := some 23) rfl rfl (by kernel_rfl) (by kernel_rfl) (by kernel_rfl) (fun _ _ _ h => h) rfl hH rfl ?_
      (try simp only [Act.put, List.setIfInBounds_toArray, List.set_cons_zero, List.set_cons_succ])
      refine takeU (i := 19) (dst := some 24) rfl rfl (by kernel_rfl) (by kernel_rfl) (by kernel_rfl) (fun _ _ _ h => h) rfl hH rfl ?_
      (try simp only [Act.put, List.setIfInBounds_toArray, List.set_cons_zero, List.set_cons_succ])
      refine takeU (i := 20) (dst := some 25) rfl rfl (by kernel_rfl) (by kernel_rfl) (by kernel_rfl) (fun _ _ _ h => h) rfl hH rfl ?_
      (try simp only [Act.put, List.setIfInBounds_toArray, List.set_cons_zero, List.set_cons_succ])
      refine takeU (i := 21) (dst := some 26) rfl rfl (by kernel_rfl) (by kernel_rfl) (by kernel_rfl) (fun _ _ _ h => h) rfl hH rfl ?_
      (try simp only [Act.put, List.setIfInBounds_toArray, List.set_cons_zero, List.set_cons_succ])
      refine takeH (i := 22) (dst := some 27) (v := ?v20) rfl rfl (by kernel_rfl) (by kernel_rfl) (by kernel_rfl) (fun _ _ _ h => h) rfl ?hy20 hH rfl ?rest20
      case hy20 => (intro W hW; have q0 := hW.geo.1; have q1 := hW.geo.2.1; have q2 := hW.geo.2.2.1; have q3 := hW.head.c0; clear hW; go_simp; try with_reducible rfl)
      (try simp only [Act.put, List.setIfInBounds_toArray, List.set_cons_zero, List.set_cons_succ])
      refine takeH (i := 23) (dst := some 4) (v := ?v21) rfl rfl (by kernel_rfl) (by kernel_rfl) (by kernel_rfl) (fun _ _ _ h => h) rfl ?hy21 hH rfl ?rest21
      case hy21 => (intro W hW; have q0 := hW.geo.1; have q1 := hW.geo.2.1; have q2 := hW.geo.2.2.1; have q3 := hW.head.c0; clear hW; go_simp; try with_reducible rfl)
      (try simp only [Act.put, List.setIfInBounds_toArray, List.set_cons_zero, List.set_cons_succ])
      refine wpAnyH_done (by kernel_rfl) ?_ _
      clear hH
      go_wp2
      go_ret
      exact ⟨rfl, m3.geo.2.2.2⟩
    · go_enter Try.func16, Try.ntmps16
      go_wp2_with fail
      refine wp_region_held_drew (S := (fun W => RW w a i n no bl sl W)) (by kernel_rfl) RD (fun hH => ?_)
      refine takeH (i := 0) (dst := some 5) (v := ?v22) rfl rfl (by kernel_rfl) (by kernel_rfl) (by kernel_rfl) (fun _ _ _ h => h) rfl ?hy22 hH rfl ?rest22
      case hy22 => (intro W hW; have q0 := hW.geo.1; have q1 := hW.geo.2.1; have q2 := hW.geo.2.2.1; have q3 := hW.head.c0; clear hW; go_simp; try with_reducible rfl)
      (try simp only [Act.put, List.setIfInBounds_toArray, List.set_cons_zero, List.set_cons_succ])
      refine takeH (i := 1) (dst := some 6) (v := ?v23) rfl rfl (by kernel_rfl) (by kernel_rfl) (by kernel_rfl) (fun _ _ _ h => h) rfl ?hy23 hH rfl ?rest23
      case hy23 => (intro W hW; have q0 := hW.geo.1; have q1 := hW.geo.2.1; have q2 := hW.geo.2.2.1; have q3 := hW.head.c0; clear hW; go_simp; try with_reducible rfl)
      (try simp only [Act.put, List.setIfInBounds_toArray, List.set_cons_zero, List.set_cons_succ])
      refine takeH (i := 2) (dst := some 7) (v := ?v24) rfl rfl (by kernel_rfl) (by kernel_rfl) (by kernel_rfl) (fun _ _ _ h => h) rfl ?hy24 hH rfl ?rest24
      case hy24 => (intro W hW; have q0 := hW.geo.1; have q1 := hW.geo.2.1; have q2 := hW.geo.2.2.1; have q3 := hW.head.c0; clear hW; go_simp; try with_reducible rfl)
      (try simp only [Act.put, List.setIfInBounds_toArray, List.set_cons_zero, List.set_cons_succ])
      refine callH (i := 3) { dst := some 8, op := Go.Op.call { callee := Go.Callee.value (Go.Operand.func 36), args := #[Go.Operand.tmp 5, Go.Operand.tmp 7], argTypes := #[23, 3] }, type := 4, pos := "group.go:78", after := #[{ on := 0, ground := Go.Ground.data }, { on := 2, ground := Go.Ground.data }], guard := none } (by kernel_rfl) rfl rfl (fun K hK => ?_)
      go_simp
      refine (NB _ hH).mono ?_
      rintro e v1 ⟨rfl, m1⟩
      clear hH
      refine hK.out _ _ m1 (fun hH => ?_)
      clear hK K
      (try simp only [Act.put, List.setIfInBounds_toArray, List.set_cons_zero, List.set_cons_succ])
      refine takeH (i := 4) (dst := some 9) (v := ?v25) rfl rfl (by kernel_rfl) (by kernel_rfl) (by kernel_rfl) (fun _ _ _ h => h) rfl ?hy25 hH rfl ?rest25
      case hy25 => (intro W hW; have q0 := hW.geo.1; have q1 := hW.geo.2.1; have q2 := hW.geo.2.2.1; have q3 := hW.head.c0; clear hW; go_simp; try with_reducible rfl)
      (try simp only [Act.put, List.setIfInBounds_toArray, List.set_cons_zero, List.set_cons_succ])
      refine takeH (i := 5) (dst := some 10) (v := ?v26) rfl rfl (by kernel_rfl) (by kernel_rfl) (by kernel_rfl) (fun _ _ _ h => h) rfl ?hy26 hH rfl ?rest26
      case hy26 => (intro W hW; have q0 := hW.geo.1; have q1 := hW.geo.2.1; have q2 := hW.geo.2.2.1; have q3 := hW.head.c0; clear hW; go_simp; try with_reducible rfl)
      (try simp only [Act.put, List.setIfInBounds_toArray, List.set_cons_zero, List.set_cons_succ])
      refine takeH (i := 6) (dst := some 11) (v := ?v27) rfl rfl (by kernel_rfl) (by kernel_rfl) (by kernel_rfl) (fun _ _ _ h => h) rfl ?hy27 hH rfl ?rest27
      case hy27 => (intro W hW; have q0 := hW.geo.1; have q1 := hW.geo.2.1; have q2 := hW.geo.2.2.1; have q3 := hW.head.c0; clear hW; go_simp; try with_reducible rfl)
      (try simp only [Act.put, List.setIfInBounds_toArray, List.set_cons_zero, List.set_cons_succ])
      refine takeH (i := 7) (dst := some 12) (v := ?v28) rfl rfl (by kernel_rfl) (by kernel_rfl) (by kernel_rfl) (fun _ _ _ h => h) rfl ?hy28 hH rfl ?rest28
      case hy28 => (intro W hW; have q0 := hW.geo.1; have q1 := hW.geo.2.1; have q2 := hW.geo.2.2.1; have q3 := hW.head.c0; clear hW; go_simp; try with_reducible rfl)
      (try simp only [Act.put, List.setIfInBounds_toArray, List.set_cons_zero, List.set_cons_succ])
      refine takeH (i := 9) (dst := some 14) (v := ?v29) rfl rfl (by kernel_rfl) (by kernel_rfl) (by kernel_rfl) (fun _ _ _ h => h) rfl ?hy29 hH rfl ?rest29
      case hy29 => (intro W hW; have q0 := hW.geo.1; have q1 := hW.geo.2.1; have q2 := hW.geo.2.2.1; have q3 := hW.head.c0; clear hW; go_simp; try with_reducible rfl)
      (try simp only [Act.put, List.setIfInBounds_toArray, List.set_cons_zero, List.set_cons_succ])
      refine takeH (i := 10) (dst := some 15) (v := ?v30) rfl rfl (by kernel_rfl) (by kernel_rfl) (by kernel_rfl) (fun _ _ _ h => h) rfl ?hy30 hH rfl ?rest30
      case hy30 => (intro W hW; have q0 := hW.geo.1; have q1 := hW.geo.2.1; have q2 := hW.geo.2.2.1; have q3 := hW.head.c0; clear hW; go_simp; try with_reducible rfl)
      (try simp only [Act.put, List.setIfInBounds_toArray, List.set_cons_zero, List.set_cons_succ])
      refine callH (i := 8) { dst := some 13, op := Go.Op.call { callee := Go.Callee.value (Go.Operand.func 38), args := #[Go.Operand.tmp 12], argTypes := #[23] }, type := 3, pos := "group.go:79", after := #[{ on := 7, ground := Go.Ground.data }, { on := 4, ground := Go.Ground.chain }, { on := 4, ground := Go.Ground.guard }], guard := some (4, true) } (by kernel_rfl) rfl rfl (fun K hK => ?_)
      go_simp
      refine (KB _ hH).mono ?_
      rintro e v2 ⟨rfl, m2⟩
      clear hH
      refine hK.out _ _ m2 (fun hH => ?_)
      clear hK K
      (try simp only [Act.put, List.setIfInBounds_toArray, List.set_cons_zero, List.set_cons_succ])
      refine callH (i := 11) { dst := some 16, op := Go.Op.call { callee := Go.Callee.value (Go.Operand.func 42), args := #[Go.Operand.tmp 11, Go.Operand.tmp 13, Go.Operand.tmp 15], argTypes := #[24, 3, 3] }, type := 4, pos := "group.go:79", after := #[{ on := 6, ground := Go.Ground.data }, { on := 8, ground := Go.Ground.data }, { on := 10, ground := Go.Ground.data }, { on := 8, ground := Go.Ground.chain }, { on := 4, ground := Go.Ground.guard }], guard := some (4, true) } (by kernel_rfl) rfl rfl (fun K hK => ?_)
      go_simp
      refine (CV1 _ hH).mono ?_
      rintro e v3 ⟨rfl, m3⟩
      clear hH
      refine hK.out _ _ m3 (fun hH => ?_)
      clear hK K
      (try simp only [Act.put, List.setIfInBounds_toArray, List.set_cons_zero, List.set_cons_succ])
      refine takeH (i := 12) (dst := some 17) (v := ?v31) rfl rfl (by kernel_rfl) (by kernel_rfl) (by kernel_rfl) (fun _ _ _ h => h) rfl ?hy31 hH rfl ?rest31
      case hy31 => (intro W hW; have q0 := hW.geo.1; have q1 := hW.geo.2.1; have q2 := hW.geo.2.2.1; have q3 := hW.head.c0; clear hW; go_simp; try with_reducible rfl)
      (try simp only [Act.put, List.setIfInBounds_toArray, List.set_cons_zero, List.set_cons_succ])
      refine takeH (i := 13) (dst := some 18) (v := ?v32) rfl rfl (by kernel_rfl) (by kernel_rfl) (by kernel_rfl) (fun _ _ _ h => h) rfl ?hy32 hH rfl ?rest32
      case hy32 => (intro W hW; have q0 := hW.geo.1; have q1 := hW.geo.2.1; have q2 := hW.geo.2.2.1; have q3 := hW.head.c0; clear hW; go_simp; try with_reducible rfl)
      (try simp only [Act.put, List.setIfInBounds_toArray, List.set_cons_zero, List.set_cons_succ])
      refine takeH (i := 14) (dst := some 19) (v := ?v33) rfl rfl (by kernel_rfl) (by kernel_rfl) (by kernel_rfl) (fun _ _ _ h => h) rfl ?hy33 hH rfl ?rest33
      case hy33 => (intro W hW; have q0 := hW.geo.1; have q1 := hW.geo.2.1; have q2 := hW.geo.2.2.1; have q3 := hW.head.c0; clear hW; go_simp; try with_reducible rfl)
      (try simp only [Act.put, List.setIfInBounds_toArray, List.set_cons_zero, List.set_cons_succ])
      refine takeH (i := 15) (dst := some 20) (v := ?v34) rfl rfl (by kernel_rfl) (by kernel_rfl) (by kernel_rfl) (fun _ _ _ h => h) rfl ?hy34 hH rfl ?rest34
      case hy34 => (intro W hW; have q0 := hW.geo.1; have q1 := hW.geo.2.1; have q2 := hW.geo.2.2.1; have q3 := hW.head.c0; clear hW; go_simp; try with_reducible rfl)
      (try simp only [Act.put, List.setIfInBounds_toArray, List.set_cons_zero, List.set_cons_succ])
      refine takeH (i := 16) (dst := some 21) (v := ?v35) rfl rfl (by kernel_rfl) (by kernel_rfl) (by kernel_rfl) (fun _ _ _ h => h) rfl ?hy35 hH rfl ?rest35
      case hy35 => (intro W hW; have q0 := hW.geo.1; have q1 := hW.geo.2.1; have q2 := hW.geo.2.2.1; have q3 := hW.head.c0; clear hW; go_simp; try with_reducible rfl)
      (try simp only [Act.put, List.setIfInBounds_toArray, List.set_cons_zero, List.set_cons_succ])
      refine takeH (i := 17) (dst := some 22) (v := ?v36) rfl rfl (by kernel_rfl) (by kernel_rfl) (by kernel_rfl) (fun _ _ _ h => h) rfl ?hy36 hH rfl ?rest36
      case hy36 => (intro W hW; have q0 := hW.geo.1; have q1 := hW.geo.2.1; have q2 := hW.geo.2.2.1; have q3 := hW.head.c0; clear hW; go_simp; try with_reducible rfl)
      (try simp only [Act.put, List.setIfInBounds_toArray, List.set_cons_zero, List.set_cons_succ])
      refine takeH (i := 19) (dst := some 24) (v := ?v37) rfl rfl (by kernel_rfl) (by kernel_rfl) (by kernel_rfl) (fun _ _ _ h => h) rfl ?hy37 hH rfl ?rest37
      case hy37 => (intro W hW; have q0 := hW.geo.1; have q1 := hW.geo.2.1; have q2 := hW.geo.2.2.1; have q3 := hW.head.c0; clear hW; go_simp; try with_reducible rfl)
      (try simp only [Act.put, List.setIfInBounds_toArray, List.set_cons_zero, List.set_cons_succ])
      refine takeH (i := 20) (dst := some 25) (v := ?v38) rfl rfl (by kernel_rfl) (by kernel_rfl) (by kernel_rfl) (fun _ _ _ h => h) rfl ?hy38 hH rfl ?rest38
      case hy38 => (intro W hW; have q0 := hW.geo.1; have q1 := hW.geo.2.1; have q2 := hW.geo.2.2.1; have q3 := hW.head.c0; clear hW; go_simp; try with_reducible rfl)
      (try simp only [Act.put, List.setIfInBounds_toArray, List.set_cons_zero, List.set_cons_succ])
      refine callH (i := 18) { dst := some 23, op := Go.Op.call { callee := Go.Callee.value (Go.Operand.func 39), args := #[Go.Operand.tmp 22], argTypes := #[3] }, type := 3, pos := "group.go:80", after := #[{ on := 17, ground := Go.Ground.data }, { on := 13, ground := Go.Ground.chain }, { on := 13, ground := Go.Ground.guard }], guard := some (13, true) } (by kernel_rfl) rfl rfl (fun K hK => ?_)
      go_simp
      refine (KS _ hH).mono ?_
      rintro e v4 ⟨rfl, m4⟩
      clear hH
      refine hK.out _ _ m4 (fun hH => ?_)
      clear hK K
      (try simp only [Act.put, List.setIfInBounds_toArray, List.set_cons_zero, List.set_cons_succ])
      refine callH (i := 21) { dst := some 26, op := Go.Op.call { callee := Go.Callee.value (Go.Operand.func 42), args := #[Go.Operand.tmp 20, Go.Operand.tmp 23, Go.Operand.tmp 25], argTypes := #[24, 3, 3] }, type := 4, pos := "group.go:80", after := #[{ on := 15, ground := Go.Ground.data }, { on := 18, ground := Go.Ground.data }, { on := 20, ground := Go.Ground.data }, { on := 18, ground := Go.Ground.chain }, { on := 13, ground := Go.Ground.guard }], guard := some (13, true) } (by kernel_rfl) rfl rfl (fun K hK => ?_)
      go_simp
      refine (CV2 _ hH).mono ?_
      rintro e v5 ⟨rfl, m5⟩
      clear hH
      refine hK.out _ _ m5 (fun hH => ?_)
      clear hK K
      (try simp only [Act.put, List.setIfInBounds_toArray, List.set_cons_zero, List.set_cons_succ])
      refine takeH (i := 22) (dst := some 27) (v := ?v39) rfl rfl (by kernel_rfl) (by kernel_rfl) (by kernel_rfl) (fun _ _ _ h => h) rfl ?hy39 hH rfl ?rest39
      case hy39 => (intro W hW; have q0 := hW.geo.1; have q1 := hW.geo.2.1; have q2 := hW.geo.2.2.1; have q3 := hW.head.c0; clear hW; go_simp; try with_reducible rfl)
      (try simp only [Act.put, List.setIfInBounds_toArray, List.set_cons_zero, List.set_cons_succ])
      refine takeH (i := 23) (dst := some 4) (v := ?v40) rfl rfl (by kernel_rfl) (by kernel_rfl) (by kernel_rfl) (fun _ _ _ h => h) rfl ?hy40 hH rfl ?rest40
      case hy40 => (intro W hW; have q0 := hW.geo.1; have q1 := hW.geo.2.1; have q2 := hW.geo.2.2.1; have q3 := hW.head.c0; clear hW; go_simp; try with_reducible rfl)
      (try simp only [Act.put, List.setIfInBounds_toArray, List.set_cons_zero, List.set_cons_succ])
      refine wpAnyH_done (by kernel_rfl) ?_ _
      clear hH
      go_wp2
      go_ret
      exact ⟨by simp, m5.geo.2.2.2⟩
end Go.Proofs.Ytfbbdpapnegmcaa
