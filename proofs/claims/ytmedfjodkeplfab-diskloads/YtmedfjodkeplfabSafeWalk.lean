/- leveelaw02.DiskSafe. -/
import Derived.Test.YtmedfjodkeplfabKnown
namespace Go.Proofs.Ytmedfjodkeplfab
open Go.RowKit
/-- A list of m lists of bytes. -/
def RowsAt (w : World) (sp : Option Addr) (m : Nat) (ls : Nat → List UInt8) : Prop := 0 < m → ∃ g o, sp = some ⟨g, o, none⟩ ∧ g < w.heap.size ∧ ∀ k, k < m → ∃ s c, w.cell? ⟨g, o + k, none⟩ = some (.slice s (ls k).length c) ∧ Src w s (ls k) ∧ ((ls k).length : Int) ≤ 9223372036854775807
theorem RowsAt.below {w w' : World} {sp : Option Addr} {m : Nat} {ls : Nat → List UInt8} (h : RowsAt w sp m ls) (hb : Below w.heap.size w w') : RowsAt w' sp m ls := fun hm => by
  obtain ⟨g, o, h1, h2, h3⟩ := h hm
  refine ⟨g, o, h1, by have := hb.size; omega, fun k hk => ?_⟩
  obtain ⟨s, c, e1, e2, e3⟩ := h3 k hk
  exact ⟨s, c, (hb.cell (p := ⟨g, o + k, none⟩) h2).trans e1, e2.below hb (Nat.le_refl _), e3⟩
/-- The first k of the lists as blocks. -/
def wl (ls : Nat → List UInt8) (k : Nat) : List (List UInt8) := (List.range k).map fun j => fillL (ls j)
theorem wl_succ (ls : Nat → List UInt8) (k : Nat) : wl ls (k + 1) = wl ls k ++ [fillL (ls k)] := by unfold wl; rw [List.range_succ, List.map_append]; rfl
theorem wl_length (ls : Nat → List UInt8) (k : Nat) : (wl ls k).length = k := by simp [wl]
theorem lastOf_mem (sf : List UInt8) (l : List (List UInt8)) : lastOf sf l = sf ∨ lastOf sf l ∈ l := by
  cases l with
  | nil => exact .inl rfl
  | cons x r => exact .inr (List.getLast_mem _)
theorem str_beq (a b : List UInt8) : ((str a).toList == (str b).toList) = true ↔ a = b := by
  constructor
  · intro h
    have h2 := beq_iff_eq.1 h
    apply str_inj
    rw [ByteArray.toList_eq, ByteArray.toList_eq] at h2
    exact WideShapes.bytes_inj h2
  · rintro rfl; simp
theorem writeC (w : World) (base p n : Nat) (sf : Nat → List UInt8) (ws : Nat → List (List UInt8)) (q : Nat) (vs : Nat → Value) (h : DiskAt w base p n false 0 sf ws q vs) (i : Nat) (hi : i < n) (hwn : (ws i).length ≤ 1000000) (d : List UInt8) (hd : d.length = 256) (g : Nat) (hg : Blk w g 5 d) (hgp : g ≠ p) :
    Calls Try.prog 16 #[.pointer (some ⟨p, 0, none⟩), .int .i64 (i : Int), .slice (some ⟨g, 0, none⟩) 256 256] w fun e w' => e = .returned (.int .i64 0) ∧ (∃ vs', DiskAt w' base p n false 0 sf (upd ws i (ws i ++ [d])) q vs') ∧ Below base w w' :=
  (write_go h (by omega) i hi hwn d hd g 0 256 hg.src hgp rfl).mono fun _ _ ⟨h1, ⟨v, h2⟩, h3⟩ => ⟨h1, ⟨_, h2⟩, h3⟩
set_option maxHeartbeats 4000000 in
set_option maxRecDepth 100000 in
theorem diskSafe_any (w : World) (sp0 : Option Addr) (cap0 : Nat) (l0 : List UInt8) (hs0 : Src w sp0 l0) (hl0 : (l0.length : Int) ≤ 9223372036854775807) (spw : Option Addr) (m capw : Nat) (ls : Nat → List UInt8) (hm : m ≤ capw ∧ (capw : Int) ≤ 9223372036854775807) (hW : RowsAt w spw m ls)
    (spp : Option Addr) (pm capp : Nat) (pk : Nat → Int) (hpm : pm ≤ capp ∧ (capp : Int) ≤ 9223372036854775807) (hP : ∀ q, w.heap.size ≤ q → PickAt w q spp pm pk) :
    Calls Try.prog 4 #[.slice sp0 l0.length cap0, .slice spw m capw, .slice spp pm capp] w fun e w' => e = .returned (.bool true) ∧ Below w.heap.size w w' := by
  have hmi : (m : Int) ≤ capw := by omega
  by_cases hbig : (20 : Int) < m
  · have KN := known_any w
    clear hW hP hs0
    go_enter Try.func4, Try.ntmps4
    go_wp2_with fail
    refine KN.mono ?_
    rintro e w1 ⟨rfl, hb1⟩
    clear KN
    go_wp2
    go_ret
    exact ⟨rfl, hb1⟩
  have hS : Hid (Src w sp0 l0) := hs0
  have HW : Hid (RowsAt w spw m ls) := hW
  have HP : Hid (∀ q, w.heap.size ≤ q → PickAt w q spp pm pk) := hP
  clear hs0 hW hP
  have NEW := new_any w 2 (by omega) (by omega)
  go_enter Try.func4, Try.ntmps4
  go_wp2_with fail
  refine NEW.mono ?_
  rintro e w1 ⟨p, q, rfl, h1, hb1⟩
  clear NEW
  have F1 := fill_any w1 sp0 cap0 l0 (hS.out.below hb1 (Nat.le_refl _)) hl0
  have H1 : Hid _ := h1
  clear h1
  go_wp2_with fail
  refine F1.mono ?_
  rintro e w2 ⟨g2, rfl, hg2, hgl2, hb2⟩
  have h2 := H1.out.below hb2 (Nat.le_refl _)
  have hpl1 := H1.out.pl
  have hqb := H1.out.qb
  have hpb := H1.out.pb
  have W2 := writeC w2 _ p 2 _ _ q _ h2 0 (by omega) (by simp) (fillL l0) (fillL_length _) g2 hg2 (by omega)
  have hb02 : Below w.heap.size w w2 := hb1.trans (hb2.mono (by omega))
  clear H1 h2 hg2 hb1 hb2 F1
  go_wp2_with fail
  refine W2.mono ?_
  rintro e w3 ⟨rfl, ⟨v3, h3⟩, hb3⟩
  clear W2
  have hb03 : Below w.heap.size w w3 := hb02.trans hb3
  have F3 := fill_any w3 sp0 cap0 l0 (hS.out.below hb03 (Nat.le_refl _)) hl0
  have H3 : Hid _ := h3
  clear h3 hb02 hb3
  go_wp2_with fail
  refine F3.mono ?_
  rintro e w4 ⟨g4, rfl, hg4, hgl4, hb4⟩
  have h4 := H3.out.below hb4 (Nat.le_refl _)
  have hpl3 := H3.out.pl
  have W4 := writeC w4 _ p 2 _ _ q _ h4 1 (by omega) (by simp [upd]) (fillL l0) (fillL_length _) g4 hg4 (by omega)
  have hb04 : Below w.heap.size w w4 := hb03.trans (hb4.mono (by omega))
  clear H3 h4 hg4 hb4 hb03 F3
  go_wp2_with fail
  refine W4.mono ?_
  rintro e w5 ⟨rfl, ⟨v5, h5⟩, hb5⟩
  clear W4
  have hb05 : Below w.heap.size w w5 := hb04.trans hb5
  have FL := flush_at h5 (by omega) rfl
  clear h5 hb04 hb5
  go_wp2_with fail
  refine FL.mono ?_
  rintro e w6 ⟨rfl, ⟨v6, h6⟩, hb6⟩
  clear FL
  rw [goesL_off] at h6
  have hb06 : Below w.heap.size w w6 := hb05.trans hb6
  have H6 : Hid (∃ vs', DiskAt w6 w.heap.size p 2 false 0 (fun _ => fillL l0) (upd (fun _ => []) 1 (wl ls 0)) q vs') := ⟨_, h6.congr (fun i hi => by
    rcases (show i = 0 ∨ i = 1 by omega) with rfl | rfl <;> rfl) (fun i hi => by
    rcases (show i = 0 ∨ i = 1 by omega) with rfl | rfl <;> rfl)⟩
  clear h6 hb05 hb6
  go_wp2_with fail
  go_loopw [9] (fun i wr => ∃ k : Nat, k ≤ m ∧ i = .int .i64 k ∧ Hid (∃ vs', DiskAt wr w.heap.size p 2 false 0 (fun _ => fillL l0) (upd (fun _ => []) 1 (wl ls k)) q vs') ∧ Below w.heap.size w wr) (fun i _ => m - (intOf i).toNat)
  case atStart => exact ⟨0, by omega, rfl, H6, hb06⟩
  case round =>
    clear H6
    obtain ⟨k, hk, rfl, HD, hbw⟩ := hrel
    by_cases hlt : (k : Int) < m
    · obtain ⟨gw, ow, rfl, hgw, hrows⟩ := (RowsAt.below HW.out hbw) (by omega)
      obtain ⟨s, c, cS, hsS, hlS⟩ := hrows k (by omega)
      have FI := fill_any wr s c (ls k) hsS hlS
      clear hrows
      go_wp2_with fail
      refine FI.mono ?_
      rintro e w7 ⟨g7, rfl, hg7, hgl7, hb7⟩
      clear FI
      obtain ⟨vs7, h7⟩ := HD.out
      have hpl7 := h7.pl
      have W7 := writeC w7 _ p 2 _ _ q _ (h7.below hb7 (Nat.le_refl _)) 1 (by omega) (by rw [upd_same, wl_length]; omega) (fillL (ls k)) (fillL_length _) g7 hg7 (by omega)
      have hb07 : Below w.heap.size w w7 := hbw.trans (hb7.mono hbw.size)
      clear h7 HD hg7 hb7 hbw
      go_wp2_with fail
      refine W7.mono ?_
      rintro e w8 ⟨rfl, ⟨v8, h8⟩, hb8⟩
      clear W7
      have hb08 : Below w.heap.size w w8 := hb07.trans hb8
      have H8 : Hid (∃ vs', DiskAt w8 w.heap.size p 2 false 0 (fun _ => fillL l0) (upd (fun _ => []) 1 (wl ls (k + 1))) q vs') := ⟨_, h8.congr (fun _ _ => rfl) (fun i hi => by
        rw [wl_succ]
        rcases (show i = 0 ∨ i = 1 by omega) with rfl | rfl <;> rfl)⟩
      clear h8 hb07 hb8
      go_wp2
      go_roundw
      case rel => exact ⟨k + 1, by omega, by go_num, H8, hb08⟩
      case measure => simp [intOf]; omega
    · obtain rfl : k = m := by omega
      obtain ⟨vs9, h9⟩ := HD.out
      have CR := crash_at h9 spp pm capp pk ((HP.out q hqb).below hbw) hpm
      clear h9 HD
      go_wp2_with fail
      refine CR.mono ?_
      rintro e w10 ⟨rfl, ⟨v10, h10⟩, hb10⟩
      clear CR
      have hb010 : Below w.heap.size w w10 := hbw.trans hb10
      obtain ⟨Y, hYl, HY, h11⟩ : ∃ Y, Y.length = 256 ∧ Hid (Y = fillL l0 ∨ ∃ j, j < k ∧ Y = fillL (ls j)) ∧ DiskAt w10 w.heap.size p 2 false 0 (upd (fun _ => fillL l0) 1 Y) (fun _ => []) q v10 := by
        refine ⟨_, (h10.row 1 (by omega)).2.1, ?_, h10.congr (fun i hi => by
          rcases (show i = 0 ∨ i = 1 by omega) with rfl | rfl
          · show lastOf _ (List.take _ []) = _; rw [List.take_nil]; rfl
          · rfl) (fun _ _ => rfl)⟩
        rcases lastOf_mem (fillL l0) ((upd (fun _ => []) 1 (wl ls k) 1).take (keepN pm pk (openL (upd (fun _ => []) 1 (wl ls k)) 1).length (upd (fun _ => []) 1 (wl ls k) 1))) with e | e
        · exact .inl e
        · have e2 := List.mem_of_mem_take e
          rw [upd_same] at e2
          unfold wl at e2
          obtain ⟨j, hj, ej⟩ := List.mem_map.1 e2
          exact .inr ⟨j, List.mem_range.1 hj, ej.symm⟩
      clear h10 hbw hb10
      have R0 := read_any h11 0 (by omega)
      have H11 : Hid _ := h11
      clear h11
      go_wp2_with fail
      refine R0.mono ?_
      rintro e w12 ⟨g12, rfl, hg12, hgl12, hb12⟩
      clear R0
      have R1 := read_any (H11.out.below hb12 (Nat.le_refl _)) 1 (by omega)
      clear H11
      go_wp2_with fail
      refine R1.mono ?_
      rintro e w13 ⟨g13, rfl, hg13, hgl13, hb13⟩
      clear R1
      have hX : Blk w13 g12 56 (fillL l0) := Blk.below (B := w12.heap.size) hg12 hb13 hg12.lt
      have hYb : Blk w13 g13 56 Y := hg13
      have hb013 : Below w.heap.size w w13 := (hb010.trans (hb12.mono hb010.size)).trans (hb13.mono (by have := hb010.size; have := hb12.size; omega))
      clear hg12 hg13 hb010 hb12 hb13
      have hS13 := hS.out.below hb013 (Nat.le_refl _)
      have HF : Hid (∀ W, Below w13.heap.size w13 W → Calls Try.prog 17 #[.slice sp0 l0.length cap0] W fun e w' => ∃ g, e = .returned (.slice (some ⟨g, 0, none⟩) 256 256) ∧ (convert 22 9 (.slice (some ⟨g, 0, none⟩) 256 256)).run Try.prog w' = .ok (.string (str (fillL l0))) w' ∧ Below w13.heap.size w13 w') := fun W hW => (fill_any W sp0 cap0 l0 (hS13.below hW (Nat.le_refl _)) hl0).mono fun _ _ ⟨g, e1, e2, _, e4⟩ => ⟨g, e1, conv_str e2.src 256 256 (fillL_length _).symm, hW.trans (e4.mono hW.size)⟩
      have HX : Hid (∀ W, Below w13.heap.size w13 W → (convert 22 9 (.slice (some ⟨g12, 0, none⟩) 256 256)).run Try.prog W = .ok (.string (str (fillL l0))) W ∧ Below w13.heap.size w13 W) := fun W hW => ⟨conv_str (hX.src.below hW (Nat.le_refl _)) 256 256 (fillL_length _).symm, hW⟩
      have HYs : Hid (∀ W, Below w13.heap.size w13 W → (convert 22 9 (.slice (some ⟨g13, 0, none⟩) 256 256)).run Try.prog W = .ok (.string (str Y)) W ∧ Below w13.heap.size w13 W) := fun W hW => ⟨conv_str (hYb.src.below hW (Nat.le_refl _)) 256 256 hYl.symm, hW⟩
      have HW13 : Hid (RowsAt w13 spw k ls) := RowsAt.below HW.out hb013
      have K1 : Hid _ := HYs.out _ ((Below.refl w13.heap.size w13).drew)
      clear hX hYb hS13 hS HW HP hYl
      generalize fillL l0 = F at *
      go_wp2_with fail
      refine wp_region_held_drew (S := fun W => Sem.run Try.prog (convert 22 9 (.slice (some ⟨g13, 0, none⟩) 256 256)) W = .ok (.string (str Y)) W ∧ Below w13.heap.size w13 W) (by kernel_rfl) K1.out (fun hH => ?_)
      clear hH
      refine takeH (i := 0) (dst := some 62) (v := .slice (some ⟨g13, 0, none⟩) 256 256) rfl rfl (by kernel_rfl) (by kernel_rfl) (by kernel_rfl) (fun _ _ _ h => h) rfl (fun W hW => by obtain ⟨hW1, hW2⟩ := hW; go_simp) K1.out rfl ?_
      simp only [Act.put, List.setIfInBounds_toArray, List.set_cons_succ, List.set_cons_zero]
      refine takeH (i := 1) (dst := some 63) (v := .string (str Y)) rfl rfl (by kernel_rfl) (by kernel_rfl) (by kernel_rfl) (fun _ _ _ h => h) rfl (fun W hW => by obtain ⟨hW1, hW2⟩ := hW; go_simp) K1.out rfl ?_
      simp only [Act.put, List.setIfInBounds_toArray, List.set_cons_succ, List.set_cons_zero]
      refine takeH (i := 2) (dst := some 64) (v := .slice sp0 l0.length cap0) rfl rfl (by kernel_rfl) (by kernel_rfl) (by kernel_rfl) (fun _ _ _ h => h) rfl (fun W hW => by obtain ⟨hW1, hW2⟩ := hW; go_simp) K1.out rfl ?_
      simp only [Act.put, List.setIfInBounds_toArray, List.set_cons_succ, List.set_cons_zero]
      refine callH (i := 3) { dst := some 65, op := Go.Op.call { callee := Go.Callee.value (Go.Operand.func 17), args := #[Go.Operand.tmp 64], argTypes := #[22] }, type := 22, pos := "law.go:144", after := #[{ on := 2, ground := Go.Ground.data }], guard := none } (by kernel_rfl) rfl rfl (fun K hK => ?_)
      go_simp
      refine (HF.out _ K1.out.2).mono ?_
      rintro e w14 ⟨g14, rfl, x14, hb14⟩
      have K2 : Hid _ := HYs.out _ hb14
      refine hK.out _ _ K2.out (fun hH => ?_)
      clear hK K hH
      refine readyH (i := 4) (dst := some 66) (v := .string (str F)) (w' := w14) (by kernel_rfl) rfl rfl rfl (by go_simp) rfl K2.out ?_
      simp only [Act.put, List.setIfInBounds_toArray, List.set_cons_succ, List.set_cons_zero]
      refine takeH (i := 5) (dst := some 67) (v := .bool ((str Y).toList == (str F).toList)) rfl rfl (by kernel_rfl) (by kernel_rfl) (by kernel_rfl) (fun _ _ _ h => h) rfl (fun W hW => by obtain ⟨hW1, hW2⟩ := hW; go_simp) K2.out rfl ?_
      simp only [Act.put, List.setIfInBounds_toArray, List.set_cons_succ, List.set_cons_zero]
      refine takeH (i := 6) (dst := some 14) (v := .bool ((str Y).toList == (str F).toList)) rfl rfl (by kernel_rfl) (by kernel_rfl) (by kernel_rfl) (fun _ _ _ h => h) rfl (fun W hW => by obtain ⟨hW1, hW2⟩ := hW; go_simp) K2.out rfl ?_
      simp only [Act.put, List.setIfInBounds_toArray, List.set_cons_succ, List.set_cons_zero]
      refine wpAnyH_done (by kernel_rfl) ?_ _
      clear x14 K1 K2
      have hb0 : Hid ((((str Y).toList == (str F).toList) = true) ↔ Y = F) := str_beq Y F
      generalize ((str Y).toList == (str F).toList) = b0 at *
      go_wp2_with fail
      go_loopw [14, 15] (fun ok i wr => ∃ j : Nat, ∃ b : Bool, j ≤ k ∧ i = .int .i64 j ∧ ok = .bool b ∧ Hid (b = true ↔ (Y = F ∨ ∃ x, x < j ∧ Y = fillL (ls x))) ∧ Below w13.heap.size w13 wr) (fun _ i _ => k - (intOf i).toNat)
      case atStart => exact ⟨0, b0, by omega, rfl, rfl, ⟨fun h => .inl (hb0.out.1 h), fun h => by
        rcases h with h | ⟨x, hx, _⟩
        · exact hb0.out.2 h
        · omega⟩, hb14⟩
      case round =>
        clear hb0 hb14
        obtain ⟨j, b, hj, rfl, rfl, HB, hbj⟩ := hrel
        by_cases hlt2 : (j : Int) < k
        · cases b with
          | true =>
            go_wp2_with fail
            go_quiet (fail)
            go_wp2
            go_roundw
            case rel => exact ⟨j + 1, true, by omega, by go_num, rfl, ⟨fun _ => by
              rcases HB.out.1 (by simp) with h | ⟨x, hx, h⟩
              · exact .inl h
              · exact .inr ⟨x, by omega, h⟩, fun _ => rfl⟩, below_drewN hbj _⟩
            case measure => simp [intOf]; omega
          | false =>
            obtain ⟨gw, ow, rfl, hgw, hrows⟩ := HW13.out (by omega)
            obtain ⟨s, c, cS0, hsS0, hlS⟩ := hrows j (by omega)
            have HL : Hid (∀ W, Below w13.heap.size w13 W → (W.cell? ⟨gw, ow + j, none⟩ = some (.slice s (ls j).length c)) ∧ (convert 22 9 (.slice (some ⟨g13, 0, none⟩) 256 256)).run Try.prog W = .ok (.string (str Y)) W ∧ Below w13.heap.size w13 W) := fun W hW => ⟨(hW.cell (p := ⟨gw, ow + j, none⟩) hgw).trans cS0, (HYs.out W hW).1, hW⟩
            have HFj : Hid (∀ W, Below w13.heap.size w13 W → Calls Try.prog 17 #[.slice s (ls j).length c] W fun e w' => ∃ g, e = .returned (.slice (some ⟨g, 0, none⟩) 256 256) ∧ (convert 22 9 (.slice (some ⟨g, 0, none⟩) 256 256)).run Try.prog w' = .ok (.string (str (fillL (ls j)))) w' ∧ Below w13.heap.size w13 w') := fun W hW => (fill_any W s c (ls j) (hsS0.below hW (Nat.le_refl _)) hlS).mono fun _ _ ⟨g, e1, e2, _, e4⟩ => ⟨g, e1, conv_str e2.src 256 256 (fillL_length _).symm, hW.trans (e4.mono hW.size)⟩
            have K1 : Hid _ := HL.out _ hbj.drew
            have hb0 : Hid ((((str Y).toList == (str (fillL (ls j))).toList) = true) ↔ Y = fillL (ls j)) := str_beq Y _
            clear hrows cS0 hsS0
            go_wp2_with fail
            refine wp_region_held_drew (S := fun W => (W.cell? ⟨gw, ow + j, none⟩ = some (.slice s (ls j).length c)) ∧ Sem.run Try.prog (convert 22 9 (.slice (some ⟨g13, 0, none⟩) 256 256)) W = .ok (.string (str Y)) W ∧ Below w13.heap.size w13 W) (by kernel_rfl) K1.out (fun hH => ?_)
            clear hH
            refine takeH (i := 0) (dst := some 74) (v := .bool false) rfl rfl (by kernel_rfl) (by kernel_rfl) (by kernel_rfl) (fun _ _ _ h => h) rfl (fun W hW => by obtain ⟨hW0, hW1, hW2⟩ := hW; go_simp) K1.out rfl ?_
            simp only [Act.put, List.setIfInBounds_toArray, List.set_cons_succ, List.set_cons_zero]
            refine takeH (i := 1) (dst := some 75) (v := .bool false) rfl rfl (by kernel_rfl) (by kernel_rfl) (by kernel_rfl) (fun _ _ _ h => h) rfl (fun W hW => by obtain ⟨hW0, hW1, hW2⟩ := hW; go_simp) K1.out rfl ?_
            simp only [Act.put, List.setIfInBounds_toArray, List.set_cons_succ, List.set_cons_zero]
            refine takeH (i := 2) (dst := some 76) (v := .slice (some ⟨g13, 0, none⟩) 256 256) rfl rfl (by kernel_rfl) (by kernel_rfl) (by kernel_rfl) (fun _ _ _ h => h) rfl (fun W hW => by obtain ⟨hW0, hW1, hW2⟩ := hW; go_simp) K1.out rfl ?_
            simp only [Act.put, List.setIfInBounds_toArray, List.set_cons_succ, List.set_cons_zero]
            refine takeH (i := 3) (dst := some 77) (v := .string (str Y)) rfl rfl (by kernel_rfl) (by kernel_rfl) (by kernel_rfl) (fun _ _ _ h => h) rfl (fun W hW => by obtain ⟨hW0, hW1, hW2⟩ := hW; go_simp) K1.out rfl ?_
            simp only [Act.put, List.setIfInBounds_toArray, List.set_cons_succ, List.set_cons_zero]
            refine takeH (i := 4) (dst := some 78) (v := .slice (some ⟨gw, ow, none⟩) k capw) rfl rfl (by kernel_rfl) (by kernel_rfl) (by kernel_rfl) (fun _ _ _ h => h) rfl (fun W hW => by obtain ⟨hW0, hW1, hW2⟩ := hW; go_simp) K1.out rfl ?_
            simp only [Act.put, List.setIfInBounds_toArray, List.set_cons_succ, List.set_cons_zero]
            refine takeH (i := 5) (dst := some 79) (v := .int .i64 (j : Int)) rfl rfl (by kernel_rfl) (by kernel_rfl) (by kernel_rfl) (fun _ _ _ h => h) rfl (fun W hW => by obtain ⟨hW0, hW1, hW2⟩ := hW; go_simp) K1.out rfl ?_
            simp only [Act.put, List.setIfInBounds_toArray, List.set_cons_succ, List.set_cons_zero]
            refine takeH (i := 6) (dst := some 80) (v := .pointer (some ⟨gw, ow + j, none⟩)) rfl rfl (by kernel_rfl) (by kernel_rfl) (by kernel_rfl) (fun _ _ _ h => h) rfl (fun W hW => by obtain ⟨hW0, hW1, hW2⟩ := hW; go_simp) K1.out rfl ?_
            simp only [Act.put, List.setIfInBounds_toArray, List.set_cons_succ, List.set_cons_zero]
            refine takeH (i := 7) (dst := some 81) (v := .slice s (ls j).length c) rfl rfl (by kernel_rfl) (by kernel_rfl) (by kernel_rfl) (fun _ _ _ h => h) rfl (fun W hW => by obtain ⟨hW0, hW1, hW2⟩ := hW; go_simp) K1.out rfl ?_
            simp only [Act.put, List.setIfInBounds_toArray, List.set_cons_succ, List.set_cons_zero]
            refine callH (i := 8) { dst := some 82, op := Go.Op.call { callee := Go.Callee.value (Go.Operand.func 17), args := #[Go.Operand.tmp 81], argTypes := #[22] }, type := 22, pos := "law.go:146", after := #[{ on := 7, ground := Go.Ground.data }, { on := 1, ground := Go.Ground.chain }, { on := 1, ground := Go.Ground.guard }], guard := some (1, false) } (by kernel_rfl) rfl rfl (fun K hK => ?_)
            go_simp
            refine (HFj.out _ K1.out.2.2).mono ?_
            rintro e w15 ⟨g15, rfl, x15, hb15⟩
            have K2 : Hid _ := HL.out _ hb15
            refine hK.out _ _ K2.out (fun hH => ?_)
            clear hK K hH
            refine readyH (i := 9) (dst := some 83) (v := .string (str (fillL (ls j)))) (w' := w15) (by kernel_rfl) rfl rfl rfl (by go_simp) rfl K2.out ?_
            simp only [Act.put, List.setIfInBounds_toArray, List.set_cons_succ, List.set_cons_zero]
            refine takeH (i := 10) (dst := some 84) (v := .bool ((str Y).toList == (str (fillL (ls j))).toList)) rfl rfl (by kernel_rfl) (by kernel_rfl) (by kernel_rfl) (fun _ _ _ h => h) rfl (fun W hW => by obtain ⟨hW0, hW1, hW2⟩ := hW; go_simp) K2.out rfl ?_
            simp only [Act.put, List.setIfInBounds_toArray, List.set_cons_succ, List.set_cons_zero]
            refine takeH (i := 11) (dst := some 85) (v := .bool ((str Y).toList == (str (fillL (ls j))).toList)) rfl rfl (by kernel_rfl) (by kernel_rfl) (by kernel_rfl) (fun _ _ _ h => h) rfl (fun W hW => by obtain ⟨hW0, hW1, hW2⟩ := hW; go_simp) K2.out rfl ?_
            simp only [Act.put, List.setIfInBounds_toArray, List.set_cons_succ, List.set_cons_zero]
            refine takeH (i := 12) (dst := some 14) (v := .bool ((str Y).toList == (str (fillL (ls j))).toList)) rfl rfl (by kernel_rfl) (by kernel_rfl) (by kernel_rfl) (fun _ _ _ h => h) rfl (fun W hW => by obtain ⟨hW0, hW1, hW2⟩ := hW; go_simp) K2.out rfl ?_
            simp only [Act.put, List.setIfInBounds_toArray, List.set_cons_succ, List.set_cons_zero]
            refine wpAnyH_done (by kernel_rfl) ?_ _
            clear x15 K1 K2 HL HFj
            generalize ((str Y).toList == (str (fillL (ls j))).toList) = b1 at *
            go_wp2
            go_roundw
            case rel => exact ⟨j + 1, b1, by omega, by go_num, rfl, ⟨fun h => .inr ⟨j, by omega, hb0.out.1 h⟩, fun h => by
              rcases h with h | ⟨x, hx, h⟩
              · exact absurd (HB.out.2 (.inl h)) (by simp)
              · by_cases hxj : x = j
                · subst hxj; exact hb0.out.2 h
                · exact absurd (HB.out.2 (.inr ⟨x, by omega, h⟩)) (by simp)⟩, hb15⟩
            case measure => simp [intOf]; omega
        · obtain rfl : j = k := by omega
          obtain rfl : b = true := HB.out.2 HY.out
          have K1 : Hid _ := HX.out _ hbj.drew
          go_wp2_with fail
          refine wp_region_held_drew (S := fun W => Sem.run Try.prog (convert 22 9 (.slice (some ⟨g12, 0, none⟩) 256 256)) W = .ok (.string (str F)) W ∧ Below w13.heap.size w13 W) (by kernel_rfl) K1.out (fun hH => ?_)
          clear hH
          refine takeH (i := 0) (dst := some 86) (v := .slice (some ⟨g12, 0, none⟩) 256 256) rfl rfl (by kernel_rfl) (by kernel_rfl) (by kernel_rfl) (fun _ _ _ h => h) rfl (fun W hW => by obtain ⟨hW1, hW2⟩ := hW; go_simp) K1.out rfl ?_
          simp only [Act.put, List.setIfInBounds_toArray, List.set_cons_succ, List.set_cons_zero]
          refine takeH (i := 1) (dst := some 87) (v := .string (str F)) rfl rfl (by kernel_rfl) (by kernel_rfl) (by kernel_rfl) (fun _ _ _ h => h) rfl (fun W hW => by obtain ⟨hW1, hW2⟩ := hW; go_simp) K1.out rfl ?_
          simp only [Act.put, List.setIfInBounds_toArray, List.set_cons_succ, List.set_cons_zero]
          refine takeH (i := 2) (dst := some 88) (v := .slice sp0 l0.length cap0) rfl rfl (by kernel_rfl) (by kernel_rfl) (by kernel_rfl) (fun _ _ _ h => h) rfl (fun W hW => by obtain ⟨hW1, hW2⟩ := hW; go_simp) K1.out rfl ?_
          simp only [Act.put, List.setIfInBounds_toArray, List.set_cons_succ, List.set_cons_zero]
          refine callH (i := 3) { dst := some 89, op := Go.Op.call { callee := Go.Callee.value (Go.Operand.func 17), args := #[Go.Operand.tmp 88], argTypes := #[22] }, type := 22, pos := "law.go:148", after := #[{ on := 2, ground := Go.Ground.data }], guard := none } (by kernel_rfl) rfl rfl (fun K hK => ?_)
          go_simp
          refine (HF.out _ K1.out.2).mono ?_
          rintro e w16 ⟨g16, rfl, x16, hb16⟩
          have K2 : Hid _ := HX.out _ hb16
          refine hK.out _ _ K2.out (fun hH => ?_)
          clear hK K hH
          refine readyH (i := 4) (dst := some 90) (v := .string (str F)) (w' := w16) (by kernel_rfl) rfl rfl rfl (by go_simp) rfl K2.out ?_
          simp only [Act.put, List.setIfInBounds_toArray, List.set_cons_succ, List.set_cons_zero]
          refine takeH (i := 5) (dst := some 91) (v := .bool true) rfl rfl (by kernel_rfl) (by kernel_rfl) (by kernel_rfl) (fun _ _ _ h => h) rfl (fun W hW => by obtain ⟨hW1, hW2⟩ := hW; go_simp) K2.out rfl ?_
          simp only [Act.put, List.setIfInBounds_toArray, List.set_cons_succ, List.set_cons_zero]
          refine takeH (i := 6) (dst := some 92) (v := .bool true) rfl rfl (by kernel_rfl) (by kernel_rfl) (by kernel_rfl) (fun _ _ _ h => h) rfl (fun W hW => by obtain ⟨hW1, hW2⟩ := hW; go_simp) K2.out rfl ?_
          simp only [Act.put, List.setIfInBounds_toArray, List.set_cons_succ, List.set_cons_zero]
          refine takeH (i := 7) (dst := some 93) (v := .bool true) rfl rfl (by kernel_rfl) (by kernel_rfl) (by kernel_rfl) (fun _ _ _ h => h) rfl (fun W hW => by obtain ⟨hW1, hW2⟩ := hW; go_simp) K2.out rfl ?_
          simp only [Act.put, List.setIfInBounds_toArray, List.set_cons_succ, List.set_cons_zero]
          refine takeH (i := 8) (dst := some 94) (v := .bool true) rfl rfl (by kernel_rfl) (by kernel_rfl) (by kernel_rfl) (fun _ _ _ h => h) rfl (fun W hW => by obtain ⟨hW1, hW2⟩ := hW; go_simp) K2.out rfl ?_
          simp only [Act.put, List.setIfInBounds_toArray, List.set_cons_succ, List.set_cons_zero]
          refine takeH (i := 9) (dst := some 95) (v := .bool true) rfl rfl (by kernel_rfl) (by kernel_rfl) (by kernel_rfl) (fun _ _ _ h => h) rfl (fun W hW => by obtain ⟨hW1, hW2⟩ := hW; go_simp) K2.out rfl ?_
          simp only [Act.put, List.setIfInBounds_toArray, List.set_cons_succ, List.set_cons_zero]
          refine callH (i := 10) { dst := some 96, op := Go.Op.call { callee := Go.Callee.value (Go.Operand.func 6), args := #[], argTypes := #[] }, type := 4, pos := "law.go:148", after := #[{ on := 9, ground := Go.Ground.chain }, { on := 9, ground := Go.Ground.guard }], guard := some (9, true) } (by kernel_rfl) rfl rfl (fun K hK => ?_)
          go_simp
          refine (known_any w16).mono ?_
          rintro e w17 ⟨rfl, hb17⟩
          have K3 : Hid _ := HX.out _ (hb16.trans (hb17.mono hb16.size))
          refine hK.out _ _ K3.out (fun hH => ?_)
          clear hK K hH
          refine takeH (i := 11) (dst := some 97) (v := .bool true) rfl rfl (by kernel_rfl) (by kernel_rfl) (by kernel_rfl) (fun _ _ _ h => h) rfl (fun W hW => by obtain ⟨hW1, hW2⟩ := hW; go_simp) K3.out rfl ?_
          simp only [Act.put, List.setIfInBounds_toArray, List.set_cons_succ, List.set_cons_zero]
          refine takeH (i := 12) (dst := some 6) (v := .bool true) rfl rfl (by kernel_rfl) (by kernel_rfl) (by kernel_rfl) (fun _ _ _ h => h) rfl (fun W hW => by obtain ⟨hW1, hW2⟩ := hW; go_simp) K3.out rfl ?_
          simp only [Act.put, List.setIfInBounds_toArray, List.set_cons_succ, List.set_cons_zero]
          refine wpAnyH_done (by kernel_rfl) ?_ _
          go_wp2
          go_ret
          exact ⟨rfl, hb013.trans (K3.out.2.mono hb013.size)⟩
end Go.Proofs.Ytmedfjodkeplfab
