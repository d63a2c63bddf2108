/- The document's Flush. -/
import Derived.Test.YtcmkgcdjjplgdaaRops
namespace Go.Proofs.Ytcmkgcdjjplgdaa
open Go.RowKit
abbrev In64 (x : Int) : Prop := Nonempty (-9223372036854775808 ≤ x ∧ x ≤ 9223372036854775807)
theorem wrapI (x : Int) [h : In64 x] : IntKind.i64.wrap x = x := by obtain ⟨h⟩ := h; rw [IntKind.wrap_i64]; omega
/-- The last version. -/
def lv (l : List (List UInt8)) : List UInt8 := l.getD (l.length - 1) []
/-- The first k blocks have their last version alone. -/
def verK (ver : Nat → List (List UInt8)) (k : Nat) : Nat → List (List UInt8) := fun i => if i < k then [lv (ver i)] else ver i
theorem verK_step (ver : Nat → List (List UInt8)) (k : Nat) : upd (verK ver k) k [lv (ver k)] = verK ver (k + 1) := by
  funext j
  unfold upd verK
  by_cases e : j = k
  · subst e; simp
  · rw [if_neg e]
    by_cases h : j < k
    · rw [if_pos h, if_pos (by omega)]
    · rw [if_neg h, if_neg (by omega)]
section
variable {w : World} {base r n : Nat} {held : Bool} {left : Int} {ver : Nat → List (List UInt8)} {gb cb : Nat} {va vc : Nat → Nat}
/-- Each list of versions is as it was, or new. -/
def VA (w : World) (n : Nat) (va va' : Nat → Nat) : Prop := ∀ i, i < n → va' i = va i ∨ w.heap.size ≤ va' i
def RG (r gb : Nat) : Nat → Prop := fun k => k = r ∨ k = gb
theorem rflush_no (h : RefW w base r n held left ver gb cb va vc) (hl : 0 ≤ left ∧ left ≤ 9223372036854775807) (hg : goesB held left = false) :
    Calls Try.prog 38 #[.pointer (some ⟨r, 0, none⟩)] w fun e w' => e = .returned (.int .i64 0) ∧ RefW w' base r n held (goesL held left) ver gb cb va vc ∧ Fr (RG r gb) w w' := by
  have GO := rgoes_any h hl
  rw [hg] at GO
  clear h
  go_enter Try.func38, Try.ntmps38
  go_wp2_with fail
  refine GO.mono ?_
  rintro e w2 ⟨rfl, h2, f2⟩
  have HF : Hid (Fr (RG r gb) w w2) := f2.mono (fun k _ h => .inl h)
  have H2 : Hid _ := h2
  clear f2 h2 GO
  go_wp2
  go_ret
  exact ⟨rfl, H2.out, HF.out⟩
attribute [local go_sem] wrapI
set_option maxHeartbeats 4000000 in
theorem rflush_go (h : RefW w base r n held left ver gb cb va vc) (hl : 0 ≤ left ∧ left ≤ 9223372036854775807) (hg : goesB held left = true) :
    Calls Try.prog 38 #[.pointer (some ⟨r, 0, none⟩)] w fun e w' => e = .returned (.int .i64 0) ∧ (∃ va', (∃ vc', RefW w' base r n held (goesL held left) (fun i => if i < n then [lv (ver i)] else ver i) gb cb va' vc') ∧ VA w n va va') ∧ Fr (RG r gb) w w' := by
  have GO := rgoes_any h hl
  rw [hg] at GO
  have hlw : r < w.heap.size := h.rl
  have hgw : gb < w.heap.size := h.at'.gl
  have hrow0 : ∀ i, i < n → 1 ≤ (ver i).length ∧ (ver i).length ≤ 1000000 := fun i hi => ⟨(h.at'.row i hi).2.2.1, (h.at'.row i hi).2.2.2.1⟩
  have HROW : Hid _ := hrow0
  clear h hrow0
  go_enter Try.func38, Try.ntmps38
  go_wp2_with fail
  refine GO.mono ?_
  rintro e w2 ⟨rfl, h2, f2⟩
  have HF2 : Hid (Fr (RG r gb) w w2) := f2.mono (fun k _ h => .inl h)
  have H2 : Hid (RefW w2 base r n held (goesL held left) (verK ver 0) gb cb va vc) := by
    have e : verK ver 0 = ver := by funext i; unfold verK; rw [if_neg (by omega)]
    show RefW _ _ _ _ _ _ _ _ _ _ _
    rw [e]; exact h2
  have hnn : (n : Int) ≤ 4096 := by have := h2.at'.nn; omega
  clear f2 h2 GO
  go_wp2_with fail
  go_loopw [3] (fun s wr => ∃ (k : Nat) (va' vc' : Nat → Nat), k ≤ n ∧ s = .int .i64 k ∧ Hid (RefW wr base r n held (goesL held left) (verK ver k) gb cb va' vc') ∧ Hid (VA w n va va') ∧ Hid (Fr (RG r gb) w wr)) (fun s _ => n - (intOf s).toNat)
  case atStart => exact ⟨0, va, vc, by omega, rfl, H2, fun _ _ => .inl rfl, HF2⟩
  case round =>
    obtain ⟨k, va', vc', hk, rfl, HR, HV, HF⟩ := hrel
    clear H2 HF2
    have c0 := HR.out.at'.c0
    by_cases hlt : (k : Int) < n
    · have hk' : k < n := by omega
      have hrow := HR.out.at'.row k hk'
      have hver := HR.out.at'.vers k hk'
      rw [show verK ver k k = ver k by unfold verK; rw [if_neg (by omega)]] at hrow hver
      obtain ⟨m, hm⟩ : ∃ m, (ver k).length = m + 1 := ⟨(ver k).length - 1, by have := (HROW.out k hk').1; omega⟩
      have hmm := (HROW.out k hk').2
      have cs : wr.cell? ⟨va' k, m, none⟩ = some (.string (str (lv (ver k)))) := by
        have hml : m < (ver k).length := by omega
        have e : lv (ver k) = (ver k)[m] := by
          unfold lv
          rw [show (ver k).length - 1 = m by omega]
          simp [hml]
        rw [hver m hml, e]
      obtain ⟨cg, va_lt, _⟩ := hrow
      rw [hm] at cg
      have hvne := HR.out.ar k hk'
      have fgk := HR.out.fg k
      have HSV := fun (W : World) (hW : RefW W base r n held (goesL held left) (verK ver k) gb cb va' vc') (g : Nat) (hgl : g < W.heap.size) (h1 : g ≠ r) (h2 : g ≠ gb) (hc : W.cell? ⟨g, 0, none⟩ = some (.string (str (lv (ver k))))) => hW.setV k hk' [lv (ver k)] g 1 (by simp) hgl h1 h2 (fun j hj => by
        have : j = 0 := by simp at hj; omega
        subst this; exact hc)
      have HS : Hid _ := HSV
      have im : In64 (m : Int) := ⟨by omega⟩
      have hmi : (m : Int) < (m : Int) + 1 := by omega
      have hszr : w.heap.size ≤ wr.heap.size := HF.out.size
      generalize hY : lv (ver k) = y at *
      have HY : Hid (lv (ver k) = y) := hY
      clear hver hm hY HSV hmm
      go_wp2_with fail
      have hS0 : wr.drew.cell? ⟨r, 0, none⟩ = some (.slice (some ⟨gb, 0, none⟩) n cb) ∧ wr.drew.cell? ⟨va' k, m, none⟩ = some (.string (str y)) := ⟨c0, cs⟩
      refine wp_region_held_drew (S := (fun W => W.cell? ⟨r, 0, none⟩ = some (.slice (some ⟨gb, 0, none⟩) n cb) ∧ W.cell? ⟨va' k, m, none⟩ = some (.string (str y)))) (by kernel_rfl) hS0 (fun hH => ?_)
      refine takeH (i := 0) (dst := some 25) (v := ?v1) rfl rfl (by kernel_rfl) (by kernel_rfl) (by kernel_rfl) (fun _ _ _ h => h) rfl ?hy1 hH rfl ?rest1
      case hy1 => (intro W hW; obtain ⟨q0, q1⟩ := hW; go_simp; try with_reducible rfl)
      (try simp only [Act.put, List.setIfInBounds_toArray, List.set_cons_zero, List.set_cons_succ])
      refine takeH (i := 1) (dst := some 26) (v := ?v2) rfl rfl (by kernel_rfl) (by kernel_rfl) (by kernel_rfl) (fun _ _ _ h => h) rfl ?hy2 hH rfl ?rest2
      case hy2 => (intro W hW; obtain ⟨q0, q1⟩ := hW; go_simp; try with_reducible rfl)
      (try simp only [Act.put, List.setIfInBounds_toArray, List.set_cons_zero, List.set_cons_succ])
      refine takeH (i := 2) (dst := some 27) (v := ?v3) rfl rfl (by kernel_rfl) (by kernel_rfl) (by kernel_rfl) (fun _ _ _ h => h) rfl ?hy3 hH rfl ?rest3
      case hy3 => (intro W hW; obtain ⟨q0, q1⟩ := hW; go_simp; try with_reducible rfl)
      (try simp only [Act.put, List.setIfInBounds_toArray, List.set_cons_zero, List.set_cons_succ])
      refine takeH (i := 3) (dst := some 28) (v := ?v4) rfl rfl (by kernel_rfl) (by kernel_rfl) (by kernel_rfl) (fun _ _ _ h => h) rfl ?hy4 hH rfl ?rest4
      case hy4 => (intro W hW; obtain ⟨q0, q1⟩ := hW; go_simp; try with_reducible rfl)
      (try simp only [Act.put, List.setIfInBounds_toArray, List.set_cons_zero, List.set_cons_succ])
      refine takeH (i := 4) (dst := some 29) (v := ?v5) rfl rfl (by kernel_rfl) (by kernel_rfl) (by kernel_rfl) (fun _ _ _ h => h) rfl ?hy5 hH rfl ?rest5
      case hy5 => (intro W hW; obtain ⟨q0, q1⟩ := hW; go_simp; try with_reducible rfl)
      (try simp only [Act.put, List.setIfInBounds_toArray, List.set_cons_zero, List.set_cons_succ])
      refine takeH (i := 5) (dst := some 30) (v := ?v6) rfl rfl (by kernel_rfl) (by kernel_rfl) (by kernel_rfl) (fun _ _ _ h => h) rfl ?hy6 hH rfl ?rest6
      case hy6 => (intro W hW; obtain ⟨q0, q1⟩ := hW; go_simp; try with_reducible rfl)
      (try simp only [Act.put, List.setIfInBounds_toArray, List.set_cons_zero, List.set_cons_succ])
      refine takeH (i := 6) (dst := some 31) (v := ?v7) rfl rfl (by kernel_rfl) (by kernel_rfl) (by kernel_rfl) (fun _ _ _ h => h) rfl ?hy7 hH rfl ?rest7
      case hy7 => (intro W hW; obtain ⟨q0, q1⟩ := hW; go_simp; try with_reducible rfl)
      (try simp only [Act.put, List.setIfInBounds_toArray, List.set_cons_zero, List.set_cons_succ])
      refine takeH (i := 7) (dst := some 32) (v := ?v8) rfl rfl (by kernel_rfl) (by kernel_rfl) (by kernel_rfl) (fun _ _ _ h => h) rfl ?hy8 hH rfl ?rest8
      case hy8 => (intro W hW; obtain ⟨q0, q1⟩ := hW; go_simp; try with_reducible rfl)
      (try simp only [Act.put, List.setIfInBounds_toArray, List.set_cons_zero, List.set_cons_succ])
      refine takeH (i := 8) (dst := some 33) (v := ?v9) rfl rfl (by kernel_rfl) (by kernel_rfl) (by kernel_rfl) (fun _ _ _ h => h) rfl ?hy9 hH rfl ?rest9
      case hy9 => (intro W hW; obtain ⟨q0, q1⟩ := hW; go_simp; try with_reducible rfl)
      (try simp only [Act.put, List.setIfInBounds_toArray, List.set_cons_zero, List.set_cons_succ])
      refine takeH (i := 9) (dst := some 34) (v := ?v10) rfl rfl (by kernel_rfl) (by kernel_rfl) (by kernel_rfl) (fun _ _ _ h => h) rfl ?hy10 hH rfl ?rest10
      case hy10 => (intro W hW; obtain ⟨q0, q1⟩ := hW; go_simp; try with_reducible rfl)
      (try simp only [Act.put, List.setIfInBounds_toArray, List.set_cons_zero, List.set_cons_succ])
      refine takeH (i := 10) (dst := some 35) (v := ?v11) rfl rfl (by kernel_rfl) (by kernel_rfl) (by kernel_rfl) (fun _ _ _ h => h) rfl ?hy11 hH rfl ?rest11
      case hy11 => (intro W hW; obtain ⟨q0, q1⟩ := hW; go_simp; try with_reducible rfl)
      (try simp only [Act.put, List.setIfInBounds_toArray, List.set_cons_zero, List.set_cons_succ])
      refine callH (i := 11) { dst := some 36, op := Go.Op.buildSlice 65 1 #[(0, Go.Operand.tmp 35)], type := 65, pos := "ref.go:110", after := #[{ on := 10, ground := Go.Ground.data }], guard := none } (by kernel_rfl) rfl rfl (fun K hK => ?_)
      go_simp
      have hA : (wr.alloc (.cells #[.string (str y)] 9)).drew.cell? ⟨r, 0, none⟩ = some (.slice (some ⟨gb, 0, none⟩) n cb) ∧ (wr.alloc (.cells #[.string (str y)] 9)).drew.cell? ⟨va' k, m, none⟩ = some (.string (str y)) := ⟨(World.cell?_alloc_lt _ _ _ (show r < wr.heap.size by omega)).trans c0, (World.cell?_alloc_lt _ _ _ va_lt).trans cs⟩
      clear hH
      refine hK.out _ _ hA (fun hH => ?_)
      clear hK K
      (try simp only [Act.put, List.setIfInBounds_toArray, List.set_cons_zero, List.set_cons_succ])
      refine takeH (i := 12) (dst := some 37) (v := ?v12) rfl rfl (by kernel_rfl) (by kernel_rfl) (by kernel_rfl) (fun _ _ _ h => h) rfl ?hy12 hH rfl ?rest12
      case hy12 => (intro W hW; obtain ⟨q0, q1⟩ := hW; go_simp; try with_reducible rfl)
      (try simp only [Act.put, List.setIfInBounds_toArray, List.set_cons_zero, List.set_cons_succ])
      refine takeH (i := 13) (dst := some 38) (v := ?v13) rfl rfl (by kernel_rfl) (by kernel_rfl) (by kernel_rfl) (fun _ _ _ h => h) rfl ?hy13 hH rfl ?rest13
      case hy13 => (intro W hW; obtain ⟨q0, q1⟩ := hW; go_simp; try with_reducible rfl)
      (try simp only [Act.put, List.setIfInBounds_toArray, List.set_cons_zero, List.set_cons_succ])
      have cg1 : (wr.alloc (.cells #[.string (str y)] 9)).drew.cell? ⟨gb, k, none⟩ = some (.slice (some ⟨va' k, 0, none⟩) (m + 1) (vc' k)) := (World.cell?_alloc_lt _ _ _ (show gb < wr.heap.size by omega)).trans cg
      have fg1 : (wr.alloc (.cells #[.string (str y)] 9)).drew.frozen? ⟨gb, k, none⟩ = false := (HR.out.below (((Below.refl _ wr).alloc (Nat.le_refl _) _).drew)).fg k
      refine callH (i := 14) { dst := none, op := Go.Op.store 65 (Go.Operand.tmp 38) (Go.Operand.tmp 36), type := 0, pos := "ref.go:110", after := #[{ on := 13, ground := Go.Ground.data }, { on := 11, ground := Go.Ground.data }, { on := 0, ground := Go.Ground.phase }, { on := 1, ground := Go.Ground.phase }, { on := 2, ground := Go.Ground.phase }, { on := 3, ground := Go.Ground.phase }, { on := 4, ground := Go.Ground.phase }, { on := 5, ground := Go.Ground.phase }, { on := 6, ground := Go.Ground.phase }, { on := 7, ground := Go.Ground.phase }, { on := 8, ground := Go.Ground.phase }, { on := 9, ground := Go.Ground.phase }, { on := 10, ground := Go.Ground.phase }, { on := 11, ground := Go.Ground.phase }], guard := none } (by kernel_rfl) rfl rfl (fun K hK => ?_)
      go_simp
      have al : Below wr.heap.size wr (wr.alloc (.cells #[.string (str y)] 9)).drew := ((Below.refl _ wr).alloc (Nat.le_refl _) _).drew
      have R1 := HR.out.below al
      have hz1 := al.size
      have hz2 : (wr.alloc (.cells #[.string (str y)] 9)).drew.heap.size = wr.heap.size + 1 := by show (wr.heap.push _).size = _; simp
      have R2 := HS.out _ R1 wr.heap.size (by omega) (by omega) (by omega) (by
        exact (cell_of_row (wr.alloc (.cells #[.string (str y)] 9)) wr.heap.size 0 #[.string (str y)] 9 (0, 0) (heap_alloc_new wr _)).trans rfl)
      have F1 : Fr (RG r gb) w ((wr.alloc (.cells #[.string (str y)] 9)).drew.setCell ⟨gb, k, none⟩ (.slice (some ⟨wr.heap.size, 0, none⟩) 1 1)) := (HF.out.trans (Fr.of_below al)).setCell gb k _ (.inr rfl)
      have hB : ((wr.alloc (.cells #[.string (str y)] 9)).drew.setCell ⟨gb, k, none⟩ (.slice (some ⟨wr.heap.size, 0, none⟩) 1 1)).cell? ⟨r, 0, none⟩ = some (.slice (some ⟨gb, 0, none⟩) n cb) ∧ ((wr.alloc (.cells #[.string (str y)] 9)).drew.setCell ⟨gb, k, none⟩ (.slice (some ⟨wr.heap.size, 0, none⟩) 1 1)).cell? ⟨va' k, m, none⟩ = some (.string (str y)) := ⟨(World.cell?_setCell_other _ _ _ _ (by intro e; exact HR.out.rg (congrArg Addr.block e).symm)).trans hA.1, (World.cell?_setCell_other _ _ _ _ (by intro e; exact hvne.2 (congrArg Addr.block e).symm)).trans hA.2⟩
      clear hH
      refine hK.out _ _ hB (fun hH => ?_)
      clear hK K
      (try simp only [Act.put, List.setIfInBounds_toArray, List.set_cons_zero, List.set_cons_succ])
      refine wpAnyH_done (by kernel_rfl) ?_ _
      clear hH
      have HR2 : Hid (RefW ((wr.alloc (.cells #[.string (str y)] 9)).drew.setCell ⟨gb, k, none⟩ (.slice (some ⟨wr.heap.size, 0, none⟩) 1 1)) base r n held (goesL held left) (verK ver (k + 1)) gb cb (updN va' k wr.heap.size) (updN vc' k 1)) := by
        have e := verK_step ver k
        rw [HY.out] at e
        show RefW _ _ _ _ _ _ _ _ _ _ _
        rw [← e]; exact R2
      have HV2 : Hid (VA w n va (updN va' k wr.heap.size)) := by
        intro i hi
        unfold updN
        by_cases e : i = k
        · rw [if_pos e]; exact .inr hszr
        · rw [if_neg e]; exact HV.out i hi
      have HF2 : Hid _ := F1
      clear R1 R2 F1 hA hB cg1 fg1 hz1 hz2 al HR HV HF HS hS0 c0 cs cg
      go_wp2_with fail
      go_round
      case rel => exact ⟨k + 1, _, _, by omega, by go_num, HR2, HV2, HF2⟩
      case measure => simp [intOf]; omega
    · obtain rfl : k = n := by omega
      have HR' : Hid (RefW wr base r k held (goesL held left) (fun i => if i < k then [lv (ver i)] else ver i) gb cb va' vc') := HR.out
      clear HR
      go_wp2_with fail
      go_ret
      exact ⟨rfl, ⟨va', ⟨vc', HR'.out⟩, HV.out⟩, HF.out⟩
end
end Go.Proofs.Ytcmkgcdjjplgdaa
