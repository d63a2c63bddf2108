/- The walk of leveelaw05.BitsSets. -/
import Derived.Test.YteclcfpjakckaaaAskWalk
namespace Go.Proofs.Yteclcfpjakckaaa
open Go.RowKit
theorem tb_same (x k : Nat) (on : Bool) : (tb x k on).testBit k = on := by
  unfold tb
  split
  · assumption
  · rename_i h
    rw [Nat.testBit_xor, Nat.testBit_two_pow]
    cases hx : x.testBit k <;> cases on <;> simp_all
theorem tb_other (x k j : Nat) (on : Bool) (h : j ≠ k) : (tb x k on).testBit j = x.testBit j := by
  unfold tb
  split
  · rfl
  · rw [Nat.testBit_xor, Nat.testBit_two_pow]
    have : decide (k = j) = false := by simp; omega
    rw [this]; simp
theorem getD_setb (l : List UInt8) (i j : Nat) (on : Bool) (hi : i / 8 < l.length) : ((setb l i on).getD (j / 8) 0).toNat = if j / 8 = i / 8 then tb (l.getD (i / 8) 0).toNat (i % 8) on else (l.getD (j / 8) 0).toNat := by
  unfold setb
  by_cases h : j / 8 = i / 8
  · rw [if_pos h, h]
    have hlt : tb (l.getD (i / 8) 0).toNat (i % 8) on < 256 := tb_lt _ _ _ (UInt8.toNat_lt _) (Nat.mod_lt _ (by omega))
    rw [show (l.set (i / 8) (UInt8.ofNat (tb (l.getD (i / 8) 0).toNat (i % 8) on))).getD (i / 8) 0 = UInt8.ofNat (tb (l.getD (i / 8) 0).toNat (i % 8) on) by simp [hi]]
    exact UInt8.toNat_ofNat_of_lt' (by simpa using hlt)
  · rw [if_neg h]
    simp [Ne.symm h]
theorem gb_setb (l : List UInt8) (i j : Nat) (on : Bool) (hi : i < 8 * l.length) : gb (setb l i on) j = if j = i then on else gb l j := by
  unfold gb
  rw [getD_setb l i j on (by omega)]
  by_cases h : j / 8 = i / 8
  · rw [if_pos h]
    by_cases e : j = i
    · subst e; rw [if_pos rfl, tb_same]
    · rw [if_neg e, tb_other _ _ _ _ (by omega), h]
  · rw [if_neg h, if_neg (by intro e; exact h (by rw [e]))]
theorem gbi_setb (l : List UInt8) (i : Nat) (j : Int) (on : Bool) (hi : i < 8 * l.length) (hj : ¬ j = i) : gbi (setb l i on) j = gbi l j := by
  unfold gbi
  rw [setb_length]
  by_cases h : 0 ≤ j ∧ j < 8 * (l.length : Int)
  · rw [if_pos h, if_pos h, gb_setb l i _ on hi, if_neg (by omega)]
  · rw [if_neg h, if_neg h]
set_option maxHeartbeats 4000000 in
theorem bitsSets_any (sp : Option Addr) (cap : Nat) (l : List UInt8) (i : Int) (on : Bool) (j : Int) (w : World) (ha : Arg w sp cap l) (hi : i ≤ 9223372036854775807) (hj : j ≤ 9223372036854775807) :
    Calls Try.prog 4 #[.slice sp l.length cap, .int .i64 i, .bool on, .int .i64 j] w fun e w' => e = .returned (.bool true) ∧ Below w.heap.size w w' := by
  have hl := ha.len.2.2
  by_cases hin : 0 ≤ i ∧ i < 8 * (l.length : Int)
  · obtain ⟨k, rfl⟩ := Int.eq_ofNat_of_zero_le hin.1
    have hk : k < 8 * l.length := by omega
    have hsl := setb_length l k on
    have GS : Hid (gb (setb l k on) k = on) := by have := gb_setb l k k on hk; rw [if_pos rfl] at this; exact this
    have GO : Hid (¬ j = k → gbi (setb l k on) j = gbi l j) := gbi_setb l k j on hk
    generalize hs : setb l k on = s at hsl GS GO
    have HS : Hid _ := hs
    clear hs
    go_enter Try.func4, Try.ntmps4
    go_wp2_with fail
    refine (lent_any sp cap l w ha).mono ?_
    rintro e w1 ⟨g, rfl, hg, hgw, hb⟩
    have A1 : At w g sp cap l w1 := ⟨hg, ha.below hb (Nat.le_refl _), hb⟩
    clear hg hb
    go_wp2_with fail
    refine (set_yes _ l _ k on _ A1.src hk hl).mono ?_
    rintro e w2 ⟨g1, rfl, hg1, hge1, hb2⟩
    rw [HS.out] at hg1
    have hgg : g < g1 := by have := A1.own.lt; omega
    have hgw1 : w.heap.size ≤ g1 := by have := A1.bel.size; omega
    have A2 := A1.up hb2
    clear A1 hb2 hge1
    go_wp2_with fail
    refine (rset_yes _ l _ k on _ A2.arg hk).mono ?_
    rintro e w3 ⟨v3, rfl, hown, hb3⟩
    rw [HS.out] at hown
    have A3 := A2.up hb3
    replace hg1 := hg1.below hb3 hg1.lt
    obtain ⟨ao, ac, rfl, hsrc, _⟩ := hown.form
    have S1 := conv_str hg1.src l.length l.length hsl.symm
    have S2 := conv_str hsrc l.length ac hsl.symm
    have hss : (str s).size = l.length := by simp [str, ByteArray.size, hsl]
    have HG1 : Hid _ := hg1
    clear A2 hb3 hown hsrc hg1
    go_wp2_with fail
    refine (kept_any g sp cap l _ A3.own A3.arg).mono ?_
    rintro e w4 ⟨rfl, hb4⟩
    have A4 := A3.up hb4
    have hg4 : Blk w4 g1 5 s := Blk.below (show Blk w3 g1 5 s from HG1.out) hb4 (Blk.lt (show Blk w3 g1 5 s from HG1.out))
    clear S1 S2 HG1 A3 hb4
    have hls : s.length ≤ 140737488355328 := by omega
    have GT := get_yes (some ⟨g1, 0, none⟩) s l.length k w4 hg4.src (by omega) hls
    rw [hsl, GS.out] at GT
    have GJ := fun (d : Nat) => get_i (some ⟨g1, 0, none⟩) s l.length j (w4.drewN d) (hg4.src.drew d) hls hj
    rw [hsl] at GJ
    have GA := fun (d : Nat) => get_i sp l cap j (w4.drewN d) (A4.arg.src.drew d) hl hj
    have SP : ∀ d, Calls Try.prog 21 #[.slice (some ⟨g1, 0, none⟩) l.length l.length] (w4.drewN d) fun e w' => e = .returned (.tuple #[]) ∧ At w g sp cap l w' := by
      intro d
      have hO : Own (w4.drewN d) w.heap.size (.slice (some ⟨g1, 0, none⟩) s.length s.length) s := Blk.own (w := w4.drewN d) (g := g1) (l := s) hg4 hgw1 hls
      have h := spoil_any w.heap.size _ s (w4.drewN d) hO hls
      rw [hsl] at h
      have A5 := A4.drewN d
      refine h.mono ?_
      rintro e w' ⟨rfl, hgr⟩
      have hb' : Below w.heap.size w w' := A5.bel.grown hgr (A5.bel.size) (fun b hb => by cases hb; exact hgw1)
      refine ⟨rfl, ?_, ha.below hb' (Nat.le_refl _), hb'⟩
      show w'.heap[g]? = _
      have := hgr.block g A5.own.lt (by intro e; have e2 : g = g1 := Option.some.inj e; omega)
      rw [this]; exact A5.own
    go_wp2_with fail
    refine GT.mono ?_
    rintro e w5 ⟨rfl, d5, rfl⟩
    clear GT
    by_cases hji : j = k
    · go_wp2_with fail
      refine (SP _).mono ?_
      rintro e w6 ⟨rfl, A6⟩
      clear SP GJ GA
      go_wp2_with fail
      refine (kept_any g sp cap l _ A6.own A6.arg).mono ?_
      rintro e w7 ⟨rfl, hb7⟩
      have A7 := A6.up hb7
      go_wp2_with fail
      refine (known_any _).mono ?_
      rintro e w8 ⟨rfl, hb8⟩
      have A8 := (A7.up hb8).bel
      go_wp2
      go_ret
      exact ⟨rfl, A8⟩
    · rw [GO.out hji] at GJ
      go_wp2_with fail
      refine (GJ _).mono ?_
      rintro e w6 ⟨rfl, d6, rfl⟩
      clear GJ
      go_wp2_with fail
      refine (GA _).mono ?_
      rintro e w7 ⟨rfl, d7, rfl⟩
      clear GA
      generalize gbi l j = b0
      go_wp2_with fail
      refine (SP _).mono ?_
      rintro e w6 ⟨rfl, A6⟩
      clear SP
      go_wp2_with fail
      refine (kept_any g sp cap l _ A6.own A6.arg).mono ?_
      rintro e w7 ⟨rfl, hb7⟩
      have A7 := A6.up hb7
      go_wp2_with fail
      refine (known_any _).mono ?_
      rintro e w8 ⟨rfl, hb8⟩
      have A8 := (A7.up hb8).bel
      go_wp2
      go_ret
      exact ⟨rfl, A8⟩
  · go_enter Try.func4, Try.ntmps4
    go_wp2_with fail
    refine (lent_any sp cap l w ha).mono ?_
    rintro e w1 ⟨g, rfl, hg, hgw, hb⟩
    have A1 : At w g sp cap l w1 := ⟨hg, ha.below hb (Nat.le_refl _), hb⟩
    clear hg hb
    go_wp2_with fail
    refine (set_no _ l.length _ i on _ (by omega) hi).mono ?_
    rintro e w2 ⟨rfl, rfl⟩
    go_wp2_with fail
    refine (rset_no _ l.length _ i on _ (by omega) hi).mono ?_
    rintro e w3 ⟨rfl, rfl⟩
    have S1 := conv_str (w := w3) (sp := none) (l := []) (Src.nil _ _) 0 0 rfl
    go_wp2_with fail
    refine (kept_any g sp cap l _ A1.own A1.arg).mono ?_
    rintro e w4 ⟨rfl, hb4⟩
    have A4 := A1.up hb4
    go_wp2_with fail
    refine (known_any _).mono ?_
    rintro e w8 ⟨rfl, hb8⟩
    have A8 := (A4.up hb8).bel
    go_wp2
    go_ret
    exact ⟨rfl, A8⟩
end Go.Proofs.Yteclcfpjakckaaa
