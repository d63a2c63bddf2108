/- leveelaw02.DiskLoads. -/
import Derived.Test.YtmedfjodkeplfabLoadsBase
namespace Go.Proofs.Ytmedfjodkeplfab
open Go.RowKit
set_option maxHeartbeats 4000000 in
theorem loads_bad (w : World) (sp : Option Addr) (cap : Nat) (l : List UInt8) (kk : Int) (ha : Arg w sp cap l) (hl : (l.length : Int) ≤ 10000) (hbad : l.length % 256 ≠ 0 ∨ l.length = 0) :
    Calls Try.prog 3 #[.slice sp l.length cap, .int .i64 kk] w fun e w' => e = .returned (.bool true) ∧ Below w.heap.size w w' := by
  have LE := lent_any sp cap l w ha
  have HA : Hid _ := ha
  have HB : Hid (l.length % 256 ≠ 0 ∨ l.length = 0) := hbad
  clear ha hbad
  go_enter Try.func3, Try.ntmps3
  go_wp2_with fail
  refine LE.mono ?_
  rintro e w1 ⟨g, rfl, hg1, hgl, hb1⟩
  clear LE
  have LB := load_bad w1 (some ⟨g, 0, none⟩) l.length (l.length + 8) hl HB.out
  have RB := rload_bad w1 sp l.length cap hl HB.out
  have KP := kept_any g sp cap l w1 hg1 (Arg.below HA.out hb1 (Nat.le_refl _))
  go_wp2_with fail
  refine LB.mono ?_
  rintro e w2 ⟨rfl, rfl⟩
  go_wp2_with fail
  refine RB.mono ?_
  rintro e w3 ⟨rfl, rfl⟩
  clear LB RB
  go_wp2_with fail
  refine KP.mono ?_
  rintro e w4 ⟨rfl, hb4⟩
  clear KP
  have hg4 : Blk w4 g 5 (l ++ a5) := blk_read hg1 hb4
  have SP := spoil_any w.heap.size _ l w4 (lent_own hg4 hgl (by omega)) (by omega)
  have hb04 : Below w.heap.size w w4 := hb1.trans (hb4.mono hb1.size)
  clear hg1 hg4 hb1 hb4
  go_wp2_with fail
  refine SP.mono ?_
  rintro e w5 ⟨rfl, hgr⟩
  clear SP
  have hb05 : Below w.heap.size w w5 := hb04.grown hgr hb04.size (fun k hk => by cases hk; exact hgl)
  clear hgr hb04
  go_wp2_with fail
  refine (known_any w5).mono ?_
  rintro e w6 ⟨rfl, hb6⟩
  go_wp2
  go_ret
  exact ⟨rfl, hb05.trans (hb6.mono hb05.size)⟩
set_option maxHeartbeats 4000000 in
set_option maxRecDepth 100000 in
theorem loads_good (w : World) (b off cap : Nat) (l : List UInt8) (n : Nat) (kk : Int) (ha : Arg w (some ⟨b, off, none⟩) cap l) (hl : (l.length : Int) ≤ 10000) (hln : l.length = n * 256) (h1 : 1 ≤ n) (hkk : -9223372036854775808 ≤ kk ∧ kk ≤ 9223372036854775807) :
    Calls Try.prog 3 #[.slice (some ⟨b, off, none⟩) l.length cap, .int .i64 kk] w fun e w' => e = .returned (.bool true) ∧ Below w.heap.size w w' := by
  have hn : n ≤ 39 := by omega
  have LE := lent_any (some ⟨b, off, none⟩) cap l w ha
  have HA : Hid _ := ha
  have HL : Hid (l.length = n * 256) := hln
  have hal := ha.len
  clear ha hln
  go_enter Try.func3, Try.ntmps3
  go_wp2_with fail
  refine LE.mono ?_
  rintro e w1 ⟨g, rfl, hg1, hgl, hb1⟩
  clear LE
  have LD := load_any w1 g (l.length + 8) l n HL.out h1 (by omega) (by have := hg1.src.pre l.length; rw [List.take_left' rfl] at this; exact this) ⟨by have := HL.out; omega, by omega⟩
  rw [← HL.out] at LD
  have hg1l := hg1.lt
  go_wp2_with fail
  refine LD.mono ?_
  rintro e w2 ⟨p, q, rfl, ⟨vs2, hD2⟩, hb2⟩
  clear LD
  have hb02 : Below w.heap.size w w2 := hb1.trans (hb2.mono hb1.size)
  have RL := rload_any w2 b off cap l n HL.out h1 hn ((Arg.src HA.out).below hb02 (Nat.le_refl _)) ⟨by have := HL.out; omega, by omega⟩
  rw [← HL.out] at RL
  have HD2 : Hid _ := hD2
  clear hD2
  go_wp2_with fail
  refine RL.mono ?_
  rintro e w3 ⟨r, rfl, ⟨v3, va, hL3⟩, hb3⟩
  clear RL
  have hb03 : Below w.heap.size w w3 := hb02.trans (hb3.mono hb02.size)
  have hs2 := hb2.size
  have hs3 := hb3.size
  have hg3 : Blk w3 g 5 (l ++ a5) := Blk.below (blk_read hg1 hb2) hb3 (by omega)
  have KP := kept_any g (some ⟨b, off, none⟩) cap l w3 hg3 (Arg.below HA.out hb03 (Nat.le_refl _))
  have HD3 : Hid _ := HD2.out.below hb3 (Nat.le_refl _)
  have HL3 : Hid _ := hL3
  have hp2 := HD2.out.pl
  clear hL3 HD2 hb2 hb3 hb02 hb1 hg1
  go_wp2_with fail
  refine KP.mono ?_
  rintro e w4 ⟨rfl, hb4⟩
  clear KP
  have hg4 : Blk w4 g 5 (l ++ a5) := blk_read hg3 hb4
  have SP := spoil_any w.heap.size _ l w4 (lent_own hg4 hgl (by omega)) (by omega)
  have hb04 : Below w.heap.size w w4 := hb03.trans (hb4.mono hb03.size)
  have hA34 : Away w3 w4 g := ⟨hb4.size, fun k hk _ => hb4.block k hk⟩
  have HD4 : Hid _ := HD3.out.away hA34 hg1l
  have HL4 : Hid _ := HL3.out.away hA34 (by omega)
  clear hg3 hg4 hb4 hb03 hA34 HD3 HL3
  go_wp2_with fail
  refine SP.mono ?_
  rintro e w5 ⟨rfl, hgr⟩
  clear SP
  have hb05 : Below w.heap.size w w5 := hb04.grown hgr hb04.size (fun k hk => by cases hk; exact hgl)
  have hA45 : Away w4 w5 g := ⟨hgr.size, fun k hk hkg => hgr.block k hk (fun e => hkg (by simpa [Value.ownBlock] using e))⟩
  have hD5 := HD4.out.away hA45 hg1l
  have HL5 : Hid _ := HL4.out.away hA45 (by omega)
  have CR := crash_none hD5
  clear hgr hb04 hA45 HD4 HL4 hD5
  go_wp2_with fail
  refine CR.mono ?_
  rintro e w6 ⟨rfl, hD6, hb6, hA6⟩
  clear CR
  have hb06 : Below w.heap.size w w6 := hb05.trans (hb6.mono (by omega))
  obtain ⟨gb, cb, hR6⟩ := (HL5.out.away hA6 hp2).ref h1 hn
  clear HL5 hA6 hb6 hb05
  have HX : Hid (∀ W, Below w6.heap.size w6 W → (convert 22 9 (.slice (some ⟨b, off, none⟩) l.length cap)).run Try.prog W = .ok (.string (str l)) W ∧ Below w6.heap.size w6 W) := fun W hW => ⟨conv_str (((Arg.src HA.out).below hb06 (Nat.le_refl _)).below hW (Nat.le_refl _)) l.length cap rfl, hW⟩
  have HBy : Hid (∀ W, Below w6.heap.size w6 W → Calls Try.prog 13 #[.pointer (some ⟨p, 0, none⟩)] W fun e w' => ∃ g c m, e = .returned (.slice (some ⟨g, 0, none⟩) m c) ∧ (convert 22 9 (.slice (some ⟨g, 0, none⟩) m c)).run Try.prog w' = .ok (.string (str l)) w' ∧ Below w6.heap.size w6 w') := fun W hW => by
    refine (bytes_any (hD6.below hW (Nat.le_refl _)) (fun i => if i < n then blkOf l i else zer) (fun i hi => by rw [if_pos hi]; rfl) (fun i => ?_)).mono ?_
    · by_cases hi : i < n
      · simp only [if_pos hi]; exact blkOf_length l n i HL.out hi
      · simp only [if_neg hi]; exact zer_length
    · rintro e w' ⟨g', rfl, hg', _, hb'⟩
      rw [flat_blk l n HL.out _ (fun i hi => if_pos hi)] at hg'
      exact ⟨g', _, _, rfl, conv_str hg'.src _ _ HL.out.symm, hW.trans (hb'.mono hW.size)⟩
  have HSm : Hid (∀ W, Below w6.heap.size w6 W → Calls Try.prog 14 #[.pointer (some ⟨p, 0, none⟩), .pointer (some ⟨r, 0, none⟩), .int .i64 kk] W fun e w' => e = .returned (.bool true) ∧ Below W.heap.size W w') := fun W hW => by
    have hDW := hD6.below hW (Nat.le_refl _)
    have hRW := hR6.below hW (Nat.le_refl _)
    by_cases hb : kk < 0 ∨ (n : Int) ≤ kk
    · exact same_out hDW hRW kk hb hkk
    · obtain ⟨i, rfl⟩ := Int.eq_ofNat_of_zero_le (show 0 ≤ kk by omega)
      exact same_in hDW hRW i (by omega)
  have K1 : Hid _ := HX.out _ ((Below.refl w6.heap.size w6).drew)
  clear hD6 hR6
  go_wp2_with fail
  refine wp_region_held_drew (S := fun W => Sem.run Try.prog (convert 22 9 (.slice (some ⟨b, off, none⟩) l.length cap)) W = .ok (.string (str l)) W ∧ Below w6.heap.size w6 W) (by kernel_rfl) K1.out (fun hH => ?_)
  clear hH
  refine takeH (i := 0) (dst := some 49) (v := .pointer (some ⟨p, 0, none⟩)) rfl rfl (by kernel_rfl) (by kernel_rfl) (by kernel_rfl) (fun _ _ _ h => h) rfl (fun W hW => by obtain ⟨hW1, hW2⟩ := hW; go_simp) K1.out rfl ?_
  simp only [Act.put, List.setIfInBounds_toArray, List.set_cons_succ, List.set_cons_zero]
  refine takeH (i := 3) (dst := some 52) (v := .slice (some ⟨b, off, none⟩) l.length cap) rfl rfl (by kernel_rfl) (by kernel_rfl) (by kernel_rfl) (fun _ _ _ h => h) rfl (fun W hW => by obtain ⟨hW1, hW2⟩ := hW; go_simp) K1.out rfl ?_
  simp only [Act.put, List.setIfInBounds_toArray, List.set_cons_succ, List.set_cons_zero]
  refine takeH (i := 4) (dst := some 53) (v := .string (str l)) rfl rfl (by kernel_rfl) (by kernel_rfl) (by kernel_rfl) (fun _ _ _ h => h) rfl (fun W hW => by obtain ⟨hW1, hW2⟩ := hW; go_simp) K1.out rfl ?_
  simp only [Act.put, List.setIfInBounds_toArray, List.set_cons_succ, List.set_cons_zero]
  refine callH (i := 1) { dst := some 50, op := Go.Op.call { callee := Go.Callee.value (Go.Operand.func 13), args := #[Go.Operand.tmp 49], argTypes := #[25] }, type := 22, pos := "law.go:123", after := #[{ on := 0, ground := Go.Ground.data }], guard := none } (by kernel_rfl) rfl rfl (fun K hK => ?_)
  go_simp
  refine (HBy.out _ K1.out.2).mono ?_
  rintro e w7 ⟨g7, c7, m7, rfl, x7, hb7⟩
  have K2 : Hid _ := HX.out _ hb7
  refine hK.out _ _ K2.out (fun hH => ?_)
  clear hK K hH
  refine readyH (i := 2) (dst := some 51) (v := .string (str l)) (w' := w7) (by kernel_rfl) rfl rfl rfl (by go_simp) rfl K2.out ?_
  simp only [Act.put, List.setIfInBounds_toArray, List.set_cons_succ, List.set_cons_zero]
  refine takeH (i := 5) (dst := some 54) (v := .bool true) rfl rfl (by kernel_rfl) (by kernel_rfl) (by kernel_rfl) (fun _ _ _ h => h) rfl (fun W hW => by obtain ⟨hW1, hW2⟩ := hW; go_simp) K2.out rfl ?_
  simp only [Act.put, List.setIfInBounds_toArray, List.set_cons_succ, List.set_cons_zero]
  refine takeH (i := 6) (dst := some 55) (v := .bool true) rfl rfl (by kernel_rfl) (by kernel_rfl) (by kernel_rfl) (fun _ _ _ h => h) rfl (fun W hW => by obtain ⟨hW1, hW2⟩ := hW; go_simp) K2.out rfl ?_
  simp only [Act.put, List.setIfInBounds_toArray, List.set_cons_succ, List.set_cons_zero]
  refine takeH (i := 7) (dst := some 56) (v := .pointer (some ⟨p, 0, none⟩)) rfl rfl (by kernel_rfl) (by kernel_rfl) (by kernel_rfl) (fun _ _ _ h => h) rfl (fun W hW => by obtain ⟨hW1, hW2⟩ := hW; go_simp) K2.out rfl ?_
  simp only [Act.put, List.setIfInBounds_toArray, List.set_cons_succ, List.set_cons_zero]
  refine takeH (i := 8) (dst := some 57) (v := .pointer (some ⟨r, 0, none⟩)) rfl rfl (by kernel_rfl) (by kernel_rfl) (by kernel_rfl) (fun _ _ _ h => h) rfl (fun W hW => by obtain ⟨hW1, hW2⟩ := hW; go_simp) K2.out rfl ?_
  simp only [Act.put, List.setIfInBounds_toArray, List.set_cons_succ, List.set_cons_zero]
  refine takeH (i := 9) (dst := some 58) (v := .int .i64 kk) rfl rfl (by kernel_rfl) (by kernel_rfl) (by kernel_rfl) (fun _ _ _ h => h) rfl (fun W hW => by obtain ⟨hW1, hW2⟩ := hW; go_simp) K2.out rfl ?_
  simp only [Act.put, List.setIfInBounds_toArray, List.set_cons_succ, List.set_cons_zero]
  refine callH (i := 10) { dst := some 59, op := Go.Op.call { callee := Go.Callee.value (Go.Operand.func 14), args := #[Go.Operand.tmp 56, Go.Operand.tmp 57, Go.Operand.tmp 58], argTypes := #[25, 29, 3] }, type := 4, pos := "law.go:123", after := #[{ on := 7, ground := Go.Ground.data }, { on := 8, ground := Go.Ground.data }, { on := 9, ground := Go.Ground.data }, { on := 6, ground := Go.Ground.chain }, { on := 6, ground := Go.Ground.guard }], guard := some (6, true) } (by kernel_rfl) rfl rfl (fun K hK => ?_)
  go_simp
  refine (HSm.out _ K2.out.2).mono ?_
  rintro e w8 ⟨rfl, hb8⟩
  have K3 : Hid _ := HX.out _ (K2.out.2.trans (hb8.mono K2.out.2.size))
  refine hK.out _ _ K3.out (fun hH => ?_)
  clear hK K hH
  refine takeH (i := 11) (dst := some 60) (v := .bool true) rfl rfl (by kernel_rfl) (by kernel_rfl) (by kernel_rfl) (fun _ _ _ h => h) rfl (fun W hW => by obtain ⟨hW1, hW2⟩ := hW; go_simp) K3.out rfl ?_
  simp only [Act.put, List.setIfInBounds_toArray, List.set_cons_succ, List.set_cons_zero]
  refine takeH (i := 12) (dst := some 61) (v := .bool true) rfl rfl (by kernel_rfl) (by kernel_rfl) (by kernel_rfl) (fun _ _ _ h => h) rfl (fun W hW => by obtain ⟨hW1, hW2⟩ := hW; go_simp) K3.out rfl ?_
  simp only [Act.put, List.setIfInBounds_toArray, List.set_cons_succ, List.set_cons_zero]
  refine callH (i := 13) { dst := some 62, op := Go.Op.call { callee := Go.Callee.value (Go.Operand.func 6), args := #[], argTypes := #[] }, type := 4, pos := "law.go:123", after := #[{ on := 12, ground := Go.Ground.chain }, { on := 12, ground := Go.Ground.guard }], guard := some (12, true) } (by kernel_rfl) rfl rfl (fun K hK => ?_)
  go_simp
  refine (known_any w8).mono ?_
  rintro e w9 ⟨rfl, hb9⟩
  have K4 : Hid _ := HX.out _ (K3.out.2.trans (hb9.mono K3.out.2.size))
  refine hK.out _ _ K4.out (fun hH => ?_)
  clear hK K hH
  refine takeH (i := 14) (dst := some 63) (v := .bool true) rfl rfl (by kernel_rfl) (by kernel_rfl) (by kernel_rfl) (fun _ _ _ h => h) rfl (fun W hW => by obtain ⟨hW1, hW2⟩ := hW; go_simp) K4.out rfl ?_
  simp only [Act.put, List.setIfInBounds_toArray, List.set_cons_succ, List.set_cons_zero]
  refine takeH (i := 15) (dst := some 4) (v := .bool true) rfl rfl (by kernel_rfl) (by kernel_rfl) (by kernel_rfl) (fun _ _ _ h => h) rfl (fun W hW => by obtain ⟨hW1, hW2⟩ := hW; go_simp) K4.out rfl ?_
  simp only [Act.put, List.setIfInBounds_toArray, List.set_cons_succ, List.set_cons_zero]
  refine wpAnyH_done (by kernel_rfl) ?_ _
  go_wp2
  go_ret
  exact ⟨rfl, hb06.trans (K4.out.2.mono hb06.size)⟩
set_option maxHeartbeats 1000000 in
theorem loads_big (w : World) (sp : Option Addr) (cap m : Nat) (kk : Int) (hl : (10000 : Int) < m) :
    Calls Try.prog 3 #[.slice sp m cap, .int .i64 kk] w fun e w' => e = .returned (.bool true) ∧ Below w.heap.size w w' := by
  have KN := known_any w
  go_enter Try.func3, Try.ntmps3
  go_wp2_with fail
  refine KN.mono ?_
  rintro e w1 ⟨rfl, hb1⟩
  clear KN
  go_wp2
  go_ret
  exact ⟨rfl, hb1⟩
theorem diskLoads_any (w : World) (sp : Option Addr) (cap : Nat) (l : List UInt8) (kk : Int) (hs : Src w sp l) (hlc : l.length ≤ cap ∧ (cap : Int) ≤ 9223372036854775807) (hsp : cap = 0 ∨ ∃ b off, sp = some ⟨b, off, none⟩) (hkk : -9223372036854775808 ≤ kk ∧ kk ≤ 9223372036854775807) :
    Calls Try.prog 3 #[.slice sp l.length cap, .int .i64 kk] w fun e w' => e = .returned (.bool true) ∧ Below w.heap.size w w' := by
  by_cases hbig : (10000 : Int) < l.length
  · exact loads_big w sp cap l.length kk hbig
  · have ha : Arg w sp cap l := by
      by_cases hc : cap = 0
      · exact .inl ⟨hc, List.eq_nil_of_length_eq_zero (by omega)⟩
      · obtain ⟨b, off, rfl⟩ : ∃ b off, sp = some ⟨b, off, none⟩ := by
          rcases hsp with h | h
          · exact absurd h hc
          · exact h
        exact .inr ⟨b, off, rfl, by omega, hlc.1, hlc.2, by omega, hs⟩
    by_cases hbad : l.length % 256 ≠ 0 ∨ l.length = 0
    · exact loads_bad w sp cap l kk ha (by omega) hbad
    · obtain ⟨b, off, rfl⟩ : ∃ b off, sp = some ⟨b, off, none⟩ := by
        rcases hsp with h | h
        · omega
        · exact h
      exact loads_good w b off cap l (l.length / 256) kk ha (by omega) (by omega) (by omega) hkk
end Go.Proofs.Ytmedfjodkeplfab
