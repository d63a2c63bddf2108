/- bits.Set and the document's Set. -/
import Derived.Test.YtfbbdpapnegmcaaBits
import Derived.Test.YtfbbdpapnegmcaaLentG
import Derived.BigRegion
namespace Go.Proofs.Ytfbbdpapnegmcaa
open Go.RowKit
/-- A byte in which the bit k is so. -/
def tb (x k : Nat) (on : Bool) : Nat := if x.testBit k = on then x else x ^^^ 2 ^ k
/-- A map in which the bit i is so. -/
def setb (l : List UInt8) (i : Nat) (on : Bool) : List UInt8 := l.set (i / 8) (UInt8.ofNat (tb (l.getD (i / 8) 0).toNat (i % 8) on))
theorem setb_length (l : List UInt8) (i : Nat) (on : Bool) : (setb l i on).length = l.length := by simp [setb]
theorem or_tb : ∀ x : Fin 256, ∀ k : Fin 8, x.1 ||| 2 ^ k.1 = tb x.1 k.1 true ∧ tb x.1 k.1 true < 256 := by decide +kernel
theorem an_tb : ∀ x : Fin 256, ∀ k : Fin 8, x.1 &&& (255 - 2 ^ k.1) = tb x.1 k.1 false ∧ tb x.1 k.1 false < 256 := by decide +kernel
theorem xor_tb : ∀ x : Fin 256, ∀ k : Fin 8, x.1 ^^^ 2 ^ k.1 = tb x.1 k.1 (!x.1.testBit k.1) := by decide +kernel
theorem tb_lt (x k : Nat) (on : Bool) (hx : x < 256) (hk : k < 8) : tb x k on < 256 := by
  cases on
  · exact (an_tb ⟨x, hx⟩ ⟨k, hk⟩).2
  · exact (or_tb ⟨x, hx⟩ ⟨k, hk⟩).2
theorem bits_an_u8_nat (a b : Nat) (ha : a < 256) (hb : b < 256) : bits .andNot .u8 (a : Int) (b : Int) = ((a &&& (255 - b) : Nat) : Int) := by
  have hx : a &&& (255 - b) < 2 ^ 8 := Nat.and_lt_two_pow _ (by omega)
  have h1 : (BitVec.ofInt 8 (a : Int)).toNat = a := by
    rw [BitVec.ofInt_natCast, BitVec.toNat_ofNat]; exact Nat.mod_eq_of_lt (by omega)
  have h2 : (BitVec.ofInt 8 (b : Int)).toNat = b := by
    rw [BitVec.ofInt_natCast, BitVec.toNat_ofNat]; exact Nat.mod_eq_of_lt (by omega)
  show IntKind.u8.wrap ((BitVec.ofInt 8 (a : Int) &&& ~~~ BitVec.ofInt 8 (b : Int)).toNat : Int) = _
  rw [BitVec.toNat_and, BitVec.toNat_not, h1, h2, IntKind.wrap_u8]
  simp only [Nat.reducePow, Nat.reduceSub] at hx ⊢
  omega
theorem pow8i (i : Nat) : (2 ^ (i % 8) : Int) = ((2 ^ (i % 8) : Nat) : Int) := by simp
theorem or_is (x i : Nat) (hx : x < 256) : bits .or .u8 (x : Int) (2 ^ (i % 8)) = (tb x (i % 8) true : Nat) := by
  rw [pow8i, bits_or_u8_nat x _ hx (pow8 i), (or_tb ⟨x, hx⟩ ⟨i % 8, Nat.mod_lt _ (by omega)⟩).1]
theorem an_is (x i : Nat) (hx : x < 256) : bits .andNot .u8 (x : Int) (2 ^ (i % 8)) = (tb x (i % 8) false : Nat) := by
  rw [pow8i, bits_an_u8_nat x _ hx (pow8 i), (an_tb ⟨x, hx⟩ ⟨i % 8, Nat.mod_lt _ (by omega)⟩).1]
theorem xor_is (x i : Nat) (hx : x < 256) : bits .xor .u8 (x : Int) (2 ^ (i % 8) % 256) = (tb x (i % 8) (!x.testBit (i % 8)) : Nat) := by
  have e : (2 ^ (i % 8) % 256 : Int) = ((2 ^ (i % 8) : Nat) : Int) := by
    have := pow8 i
    rw [pow8i]
    generalize 2 ^ (i % 8) = y at *
    omega
  rw [e, bits_xor_u8_nat x _ hx (pow8 i), xor_tb ⟨x, hx⟩ ⟨i % 8, Nat.mod_lt _ (by omega)⟩]
theorem Blk.store {w : World} {g : Nat} {t : TypeId} {l : List UInt8} (h : Blk w g t l) (j : Nat) (x : UInt8) : Blk (w.setCell ⟨g, j, none⟩ (bv x)) g t (l.set j x) := by
  unfold Blk
  rw [heap_setCell_same w g j _ _ (bv x) h]
  simp [bvs]
theorem bv_of (n : Nat) (h : n < 256) : bv (UInt8.ofNat n) = .int .u8 (n : Int) := by
  unfold bv; rw [UInt8.toNat_ofNat_of_lt' (by simpa using h)]
theorem Blk.setb {w : World} {g : Nat} {t : TypeId} {l : List UInt8} (h : Blk w g t l) (i : Nat) (on : Bool) (x : Nat) (hx : x = (l.getD (i / 8) 0).toNat) : Blk (w.setCell ⟨g, i / 8, none⟩ (.int .u8 (tb x (i % 8) on : Nat))) g t (setb l i on) := by
  have := h.store (i / 8) (UInt8.ofNat (tb x (i % 8) on))
  rw [bv_of _ (tb_lt _ _ _ (by rw [hx]; exact UInt8.toNat_lt _) (Nat.mod_lt _ (by omega)))] at this
  show Blk _ g t (l.set (i / 8) (UInt8.ofNat (tb (l.getD (i / 8) 0).toNat (i % 8) on)))
  rw [← hx]; exact this
theorem Blk.drew {w : World} {g : Nat} {t : TypeId} {l : List UInt8} (h : Blk w g t l) : Blk w.drew g t l := h
set_option maxHeartbeats 2000000 in
theorem set_yes (sp : Option Addr) (l : List UInt8) (cap : Nat) (i : Nat) (on : Bool) (w : World) (hs : Src w sp l) (h : i < 8 * l.length) (hn : l.length ≤ 140737488355328) :
    Calls Try.prog 55 #[.slice sp l.length cap, .int .i64 i, .bool on] w fun e w' => ∃ g, e = .returned (.tuple #[.slice (some ⟨g, 0, none⟩) l.length l.length, .int .i64 0]) ∧ Blk w' g 5 (setb l i on) ∧ w.heap.size ≤ g ∧ Below w.heap.size w w' := by
  have hmk : (Instr.makeSlice 24 (.int .i64 (l.length : Int)) (.int .i64 (l.length : Int))).run Try.prog w = .ok (.slice (some ⟨w.heap.size, 0, none⟩) l.length l.length) (w.alloc (.cells (bvs (List.replicate l.length 0)).toArray 5)) := make_any w l.length l.length (Nat.le_refl _) (by omega)
  have hb0 : Below w.heap.size w (w.alloc (.cells (bvs (List.replicate l.length 0)).toArray 5)) := (Below.refl _ _).alloc (Nat.le_refl _) _
  have hg0 : Blk (w.alloc (.cells (bvs (List.replicate l.length 0)).toArray 5)) w.heap.size 5 (List.replicate l.length 0) := heap_alloc_new _ _
  obtain ⟨w1, hrun, hg1, hb1, hz1⟩ := copy_any (off := 0) (dLen := l.length) l.length l.length cap hg0 (hs.below hb0 (Nat.le_refl _)) rfl (by simp)
  have e1 : List.take 0 (List.replicate l.length (0 : UInt8)) ++ l.take l.length ++ List.drop (0 + min l.length l.length) (List.replicate l.length 0) = l := by simp
  rw [e1] at hg1
  clear e1 hg0
  have hb2 := hb0.trans hb1
  clear hb0 hb1
  obtain ⟨x, hx, hg, hi, hv⟩ := gb_at l i h
  have hxe : x = (l.getD (i / 8) 0).toNat := by
    have e : l.getD (i / 8) 0 = l[i / 8] := by simp [hi]
    rw [e]; unfold bv at hv; injection hv with _ e2; omega
  have hcell := hg1.cell (i / 8) hi
  rw [hv] at hcell
  have hfr := hg1.frozen (i / 8)
  have hlt := hg1.lt
  have HG : Hid _ := hg1
  have HB : Hid _ := hb2
  have HX : Hid _ := hxe
  have TH := there_yes sp l.length cap i w h hn
  have h8 : (i : Int) / 8 < l.length := by omega
  have hi2 : (i : Int) ≤ 9223372036854775807 := by omega
  have BT := fun W => bit_any i W hi2
  have OI := or_is x i hx
  have AI := an_is x i hx
  have hi0 : (0 : Int) ≤ (i : Int) / 8 := by omega
  have htn : ((i : Int) / 8).toNat = i / 8 := by omega
  have hwr : IntKind.i64.wrap ((i : Int) / 8) = (i : Int) / 8 := by rw [IntKind.wrap_i64]; omega
  clear hg hv hg1 hb2 hxe hs
  cases on
  all_goals
    go_enter Try.func55, Try.ntmps55
    go_wp2_with fail
    refine TH.mono ?_
    rintro e w' ⟨rfl, rfl⟩
    clear TH
    go_wp2_with fail
  · go_region_with (first | (go_at_call 60; refine (BT _).mono ?_; rintro e w4 ⟨rfl, rfl⟩))
    all_goals
      go_wp2
      go_ret2
      exact ⟨_, rfl, (Blk.setb (show Blk w1 w'.heap.size 5 l from HG.out) i false x HX.out).drew, Nat.le_refl _, (HB.out.setCell (p := ⟨w'.heap.size, i / 8, none⟩) (Nat.le_refl _) _).drew⟩
  · go_region_with (first | (go_at_call 60; refine (BT _).mono ?_; rintro e w4 ⟨rfl, rfl⟩))
    all_goals
      go_wp2
      go_ret2
      exact ⟨_, rfl, (Blk.setb (show Blk w1 w'.heap.size 5 l from HG.out) i true x HX.out).drew, Nat.le_refl _, (HB.out.setCell (p := ⟨w'.heap.size, i / 8, none⟩) (Nat.le_refl _) _).drew⟩
set_option maxHeartbeats 1000000 in
theorem set_no (sp : Option Addr) (n cap : Nat) (i : Int) (on : Bool) (w : World) (h : i < 0 ∨ 8 * (n : Int) ≤ i) (hi : i ≤ 9223372036854775807) :
    Calls Try.prog 55 #[.slice sp n cap, .int .i64 i, .bool on] w fun e w' => e = .returned (.tuple #[.slice none 0 0, .int .i64 3]) ∧ w' = w := by
  have TH := there_no sp n cap i w h hi
  clear h
  go_enter Try.func55, Try.ntmps55
  go_wp2_with fail
  refine TH.mono ?_
  rintro e w' ⟨rfl, rfl⟩
  clear TH
  go_wp2
  go_ret2
  exact ⟨rfl, rfl⟩
set_option maxHeartbeats 1000000 in
theorem rset_no (sp : Option Addr) (n cap : Nat) (i : Int) (on : Bool) (w : World) (h : i < 0 ∨ 8 * (n : Int) ≤ i) (hi : i ≤ 9223372036854775807) :
    Calls Try.prog 40 #[.slice sp n cap, .int .i64 i, .bool on] w fun e w' => e = .returned (.tuple #[.slice none 0 0, .int .i64 3]) ∧ w' = w := by
  rcases h with h | h
  · go_enter Try.func40, Try.ntmps40
    go_wp2
    go_ret2
    exact ⟨rfl, rfl⟩
  · have h0 : 0 ≤ i := by omega
    have h8 : (n : Int) ≤ i / 8 := by omega
    go_enter Try.func40, Try.ntmps40
    go_wp2
    go_ret2
    exact ⟨rfl, rfl⟩
theorem setb_same (l : List UInt8) (i : Nat) (on : Bool) (hi : i / 8 < l.length) (h : gb l i = on) : setb l i on = l := by
  unfold setb tb
  rw [if_pos (show (l.getD (i / 8) 0).toNat.testBit (i % 8) = on from h)]
  have e : l.getD (i / 8) 0 = l[i / 8] := by simp [hi]
  rw [e]; simp
theorem Own.setb {w : World} {base g cap : Nat} {l : List UInt8} (h : Own w base (.slice (some ⟨g, 0, none⟩) l.length cap) l) (i : Nat) (on : Bool) (x : Nat) (hx : x = (l.getD (i / 8) 0).toNat) :
    Own (w.setCell ⟨g, i / 8, none⟩ (.int .u8 (tb x (i % 8) on : Nat))) base (.slice (some ⟨g, 0, none⟩) l.length cap) (setb l i on) := by
  have := h.store (i / 8) (UInt8.ofNat (tb x (i % 8) on))
  rw [bv_of _ (tb_lt _ _ _ (by rw [hx]; exact UInt8.toNat_lt _) (Nat.mod_lt _ (by omega)))] at this
  show Own _ base _ (l.set (i / 8) (UInt8.ofNat (tb (l.getD (i / 8) 0).toNat (i % 8) on)))
  rw [← hx]; exact this
set_option maxHeartbeats 2000000 in
theorem rset_yes (sp : Option Addr) (l : List UInt8) (cap : Nat) (i : Nat) (on : Bool) (w : World) (ha : Arg w sp cap l) (h : i < 8 * l.length) :
    Calls Try.prog 40 #[.slice sp l.length cap, .int .i64 i, .bool on] w fun e w' => ∃ v, e = .returned (.tuple #[v, .int .i64 0]) ∧ Own w' w.heap.size v (setb l i on) ∧ Below w.heap.size w w' := by
  have la := ha.len
  obtain ⟨x, hx, hg, hi, hv⟩ := gb_at l i h
  have hxe : x = (l.getD (i / 8) 0).toNat := by
    have e : l.getD (i / 8) 0 = l[i / 8] := by simp [hi]
    rw [e]; unfold bv at hv; injection hv with _ e2; omega
  have RG := fun W (hW : Below w.heap.size w W) => rget_yes sp l cap i W (ha.src.below hW (Nat.le_refl _)) h (by omega)
  have h8 : (i : Int) / 8 < l.length := by omega
  have h9 : ¬ (l.length : Int) ≤ (i : Int) / 8 := by omega
  have hi2 : (i : Int) ≤ 9223372036854775807 := by omega
  have XI := xor_is x i hx
  go_enter Try.func40, Try.ntmps40
  go_wp2_with (at_builtin; refine wpList_append_bytes rfl (.tmp 18) (.tmp 19) rfl w.heap.size [] l _ rfl _ _ _ rfl rfl (Own.nil _ _) ha.src (Nat.le_refl _) (by simp; omega) ha.nilcap ?_; intro v1 w1 hown hb1)
  rw [List.nil_append] at hown
  refine (RG _ hb1).mono ?_
  rintro e w2 ⟨rfl, rfl⟩
  clear RG
  obtain ⟨g, cap1, rfl, hge, hlt⟩ : ∃ g cap1, v1 = .slice (some ⟨g, 0, none⟩) l.length cap1 ∧ w.heap.size ≤ g ∧ g < w2.heap.size := by
    obtain ⟨h1, h2⟩ := hown
    rcases h2 with ⟨rfl, h3⟩ | ⟨g, cap, cur, rfl, hg, hh, hn, hm, hs, hx⟩
    · omega
    · exact ⟨g, cap, rfl, hg, (Array.getElem?_eq_some_iff.1 hh).1⟩
  have hcell : w2.cell? ⟨g, i / 8, none⟩ = some (.int .u8 (x : Int)) := by
    rw [World.ownsRow.cellAt hown (i / 8) (by omega), ← hv]; simp [bvs, hi]
  have hfr : w2.frozen? ⟨g, i / 8, none⟩ = false := World.ownsRow.frozenAt hown (i / 8)
  have HS : Hid (∀ on, gb l i = on → setb l i on = l) := fun on h => setb_same l i on hi h
  have HO : Hid _ := fun on => hown.setb i on x hxe
  have HW : Hid (Own w2 w.heap.size (.slice (some ⟨g, 0, none⟩) l.length cap1) l) := hown
  have hb3 : ∀ v, Below w.heap.size w (w2.setCell ⟨g, i / 8, none⟩ v) := fun v => hb1.setCell (p := ⟨g, i / 8, none⟩) hge v
  rw [← hg] at XI
  clear hv hxe hg hown hi
  generalize gb l i = b at XI HS ⊢
  cases b <;> cases on
  · go_wp2
    go_ret2
    exact ⟨_, rfl, by rw [HS.out false rfl]; exact HW.out, hb1⟩
  · go_wp2
    go_ret2
    exact ⟨_, rfl, HO.out true, hb3 _⟩
  · go_wp2
    go_ret2
    exact ⟨_, rfl, HO.out false, hb3 _⟩
  · go_wp2
    go_ret2
    exact ⟨_, rfl, by rw [HS.out true rfl]; exact HW.out, hb1⟩
end Go.Proofs.Ytfbbdpapnegmcaa
