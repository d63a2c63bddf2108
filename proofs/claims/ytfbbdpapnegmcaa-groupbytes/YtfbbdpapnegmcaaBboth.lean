/- Put, Get and Fresh beside the document's. -/
import Derived.Test.YtfbbdpapnegmcaaRget
import Derived.Test.YtfbbdpapnegmcaaGiven
import Derived.Test.YtfbbdpapnegmcaaPlays
namespace Go.Proofs.Ytfbbdpapnegmcaa
open Go.RowKit
theorem leB2_num (N : Nat) (h : N < 65536) : getNum (leB 2 N) = N := by
  show getNum [UInt8.ofNat (N % 256), UInt8.ofNat (N / 256 % 256)] = N
  rw [getNum_two]
  simp
  omega
set_option maxRecDepth 100000 in
theorem rd_lay (N X Y : Nat) (bl sl : List UInt8) (hb : bl.length = 16) (hs : sl.length = 8) (hN : N < 65536) : rdN (layL N X Y bl sl) = N ∧ rdB (layL N X Y bl sl) = bl ∧ rdS (layL N X Y bl sl) = sl := by
  rw [layL_eq N X Y bl sl hb hs]
  have hg := leB2_num N hN
  obtain ⟨a0, a1, h0⟩ := two_of (leB_length 2 N)
  obtain ⟨b0, b1, h1⟩ := two_of (leB_length 2 X)
  obtain ⟨c0, c1, h2⟩ := two_of (leB_length 2 Y)
  obtain ⟨d0, d1, d2, d3, d4, d5, d6, d7, d8, d9, d10, d11, d12, d13, d14, d15, rfl⟩ := sixteen hb
  obtain ⟨e0, e1, e2, e3, e4, e5, e6, e7, rfl⟩ := eight hs
  unfold p40 p10
  rw [h0] at hg ⊢
  rw [h1, h2]
  exact ⟨hg, rfl, rfl⟩
/-- No block is ruled out. -/
def NoS : Nat → Prop := fun _ => False
theorem offS_none (sp : Option Addr) : OffS sp NoS := fun _ _ _ h => h
theorem fresh_both (a i n no : Int) : ∃ er no2 bl2 sl2, bl2.length = 16 ∧ sl2.length = 8 ∧ (∀ W, Calls Try.prog 13 #[.agg #[.int .i64 a, .int .i64 i, .int .i64 n], .int .i64 no] W fun e w' => e = .returned (.tuple #[.agg (hA no2 bl2 sl2), .int .i64 er]) ∧ Below W.heap.size W w') ∧
    (∀ W, Calls Try.prog 14 #[.agg #[.int .i64 a, .int .i64 i, .int .i64 n], .int .i64 no] W fun e w' => ∃ x0 p3 n3 c3 p4 n4 c4, e = .returned (.tuple #[.agg #[.int .i64 x0, .slice p3 n3 c3, .slice p4 n4 c4], .int .i64 er]) ∧ Both a i n no2 NoS er no2 bl2 sl2 x0 p3 n3 c3 p4 n4 c4 w' ∧ Below W.heap.size W w') := by
  cases hnb : numB a i n no
  · exact ⟨1, 0, z16, z8, rfl, rfl, fun W => fresh_no a i n no hnb W, fun W => (rfresh_no a i n no hnb W).mono fun _ _ ⟨h1, h2⟩ => ⟨_, _, _, _, _, _, _, h1, ⟨fun e => by omega, fun _ => ⟨rfl, rfl, rfl⟩⟩, h2⟩⟩
  · exact ⟨0, no, fillb z16 (kbl i), fillb z8 (ksl no), fillb_length _ _, fillb_length _ _, fun W => fresh_yes a i n no hnb W, fun W => (rfresh_yes a i n no hnb W).mono fun _ _ ⟨g1, c1, g2, c2, h1, h2, h3, _, _, h4⟩ => ⟨_, _, _, _, _, _, _, h1, ⟨fun _ => ⟨rfl, rfl, rfl, rfl, fresh_right hnb, h2, h3, offS_none _, offS_none _⟩, fun e => absurd rfl e⟩, h4⟩⟩
theorem get_both (a i n : Int) (l : List UInt8) (sp : Option Addr) (cap : Nat) (hl : l.length ≤ 140737488355328) : ∃ er no2 bl2 sl2, bl2.length = 16 ∧ sl2.length = 8 ∧ (∀ W g, Blk W g 5 (l ++ a5) → Calls Try.prog 11 #[.agg #[.int .i64 a, .int .i64 i, .int .i64 n], .slice (some ⟨g, 0, none⟩) l.length (l.length + 8)] W fun e w' => e = .returned (.tuple #[.agg (hA no2 bl2 sl2), .int .i64 er]) ∧ Below W.heap.size W w') ∧
    (∀ W, Arg W sp cap l → Calls Try.prog 12 #[.agg #[.int .i64 a, .int .i64 i, .int .i64 n], .slice sp l.length cap] W fun e w' => ∃ x0 p3 n3 c3 p4 n4 c4, e = .returned (.tuple #[.agg #[.int .i64 x0, .slice p3 n3 c3, .slice p4 n4 c4], .int .i64 er]) ∧ Both a i n no2 NoS er no2 bl2 sl2 x0 p3 n3 c3 p4 n4 c4 w' ∧ Below W.heap.size W w') := by
  cases hok : okB a i n
  · exact ⟨1, 0, z16, z8, rfl, rfl, fun W g _ => gget_geo a i n _ _ _ hok W, fun W _ => (rget_geo a i n sp _ cap hok W).mono fun _ _ ⟨h1, h2⟩ => ⟨_, _, _, _, _, _, _, h1, ⟨fun e => by omega, fun _ => ⟨rfl, rfl, rfl⟩⟩, h2⟩⟩
  · by_cases h256 : (l.length : Int) = 256
    · have hl2 : l.length = 256 := by omega
      rw [hl2]
      have src : ∀ (W : World) (g : Nat), Blk W g 5 (l ++ a5) → Src W (some ⟨g, 0, none⟩) l := fun W g h => by
        have := h.src.pre l.length
        rw [List.take_left' rfl] at this
        exact this
      have args : ∀ W, Arg W sp cap l → ∃ bb off, sp = some ⟨bb, off, none⟩ ∧ Src W (some ⟨bb, off, none⟩) l ∧ (256 : Int) ≤ cap ∧ (cap : Int) ≤ 9223372036854775807 := by
        intro W h
        rcases h with ⟨_, rfl⟩ | ⟨b, off, rfl, _, h1, h2, _, h3⟩
        · simp at hl2
        · exact ⟨b, off, rfl, h3, by omega, h2⟩
      cases hrg : rgB a i n (rdN l) (rdB l) (rdS l)
      · refine ⟨8, 0, z16, z8, rfl, rfl, fun W g h => gget_bad a i n g 0 _ l hl2 hok hrg W (src W g h) (by omega) (by omega), fun W h => ?_⟩
        obtain ⟨bb, off, rfl, h1, h2, h3⟩ := args W h
        refine (rget_main a i n bb off cap l hl2 hok W h1 h2 h3).mono fun e w' ⟨hb, hc⟩ => ?_
        rcases hc with ⟨_, rfl⟩ | ⟨hf, _⟩
        · exact ⟨_, _, _, _, _, _, _, rfl, ⟨fun e => by omega, fun _ => ⟨rfl, rfl, rfl⟩⟩, hb⟩
        · unfold formB at hf; rw [hrg] at hf; cases hf
      · cases hq : (backL a i l == l)
        · refine ⟨8, 0, z16, z8, rfl, rfl, fun W g h => gget_form a i n g 0 _ l hl2 hok hrg hq W (src W g h) (by omega) (by omega), fun W h => ?_⟩
          obtain ⟨bb, off, rfl, h1, h2, h3⟩ := args W h
          refine (rget_main a i n bb off cap l hl2 hok W h1 h2 h3).mono fun e w' ⟨hb, hc⟩ => ?_
          rcases hc with ⟨_, rfl⟩ | ⟨hf, _⟩
          · exact ⟨_, _, _, _, _, _, _, rfl, ⟨fun e => by omega, fun _ => ⟨rfl, rfl, rfl⟩⟩, hb⟩
          · unfold formB at hf; rw [hrg, hq] at hf; cases hf
        · refine ⟨0, rdN l, rdB l, rdS l, rdB_length hl2, rdS_length hl2, fun W g h => gget_ok a i n g 0 _ l hl2 hok hrg hq W (src W g h) (by omega) (by omega), fun W h => ?_⟩
          obtain ⟨bb, off, rfl, h1, h2, h3⟩ := args W h
          refine (rget_main a i n bb off cap l hl2 hok W h1 h2 h3).mono fun e w' ⟨hb, hc⟩ => ?_
          rcases hc with ⟨hf, _⟩ | ⟨_, g1, c1, g2, c2, rfl, h4, h5, _, _⟩
          · unfold formB at hf; rw [hrg, hq] at hf; cases hf
          · exact ⟨_, _, _, _, _, _, _, rfl, ⟨fun _ => ⟨rfl, rfl, rfl, rfl, hrg, h4, h5, offS_none _, offS_none _⟩, fun e => absurd rfl e⟩, hb⟩
    · exact ⟨4, 0, z16, z8, rfl, rfl, fun W g _ => gget_size a i n _ _ _ hok h256 W, fun W _ => (rget_size a i n sp _ cap hok h256 W).mono fun _ _ ⟨h1, h2⟩ => ⟨_, _, _, _, _, _, _, h1, ⟨fun e => by omega, fun _ => ⟨rfl, rfl, rfl⟩⟩, h2⟩⟩
theorem put_both (a i n no : Int) (bl sl : List UInt8) (hb : bl.length = 16) (hs : sl.length = 8) (spb sps : Option Addr) (capb caps : Nat) : ∃ er L, L.length ≤ 1000 ∧ (∀ W, Calls Try.prog 8 #[.agg #[.int .i64 a, .int .i64 i, .int .i64 n], .agg (hA no bl sl)] W fun e w' => ∃ xp xc, e = .returned (.tuple #[.slice xp L.length xc, .int .i64 er]) ∧ Src w' xp L ∧ (er = 0 → ∃ G, xp = some ⟨G, 0, none⟩ ∧ xc = 256) ∧ Below W.heap.size W w') ∧
    (∀ W, Arg W spb capb bl → Arg W sps caps sl → Calls Try.prog 9 #[.agg #[.int .i64 a, .int .i64 i, .int .i64 n], .agg #[.int .i64 no, .slice spb 16 capb, .slice sps 8 caps]] W fun e w' => ∃ yp yc, e = .returned (.tuple #[.slice yp L.length yc, .int .i64 er]) ∧ Src w' yp L ∧ Below W.heap.size W w') ∧
    (er = 0 → ∀ W G, Src W (some ⟨G, 0, none⟩) L → Calls Try.prog 11 #[.agg #[.int .i64 a, .int .i64 i, .int .i64 n], .slice (some ⟨G, 0, none⟩) L.length 256] W fun e w' => e = .returned (.tuple #[.agg (hA no bl sl), .int .i64 0]) ∧ Below W.heap.size W w') := by
  cases hrg : rgB a i n no bl sl
  · exact ⟨1, [], by simp, fun W => (gput_no a i n no bl sl hb hs hrg W).mono fun _ _ ⟨h1, h2⟩ => ⟨none, 0, h1, Src.nil _ _, fun e => by omega, h2⟩, fun W h1 h2 => (rput_no a i n no bl sl spb sps capb caps hb hs hrg W h1.src h2.src).mono fun _ _ ⟨h1, h2⟩ => ⟨none, 0, h1, Src.nil _ _, h2⟩, fun e => by omega⟩
  · obtain ⟨hok, h0, hn⟩ := rgB_ok hrg
    have hn16 : n ≤ 16 := by have := okG_iff.1 hok; omega
    obtain ⟨N, rfl⟩ := Int.eq_ofNat_of_zero_le h0
    have hll := layL_length N (frN bl a).toNat (frN sl i).toNat bl sl hb hs
    obtain ⟨r1, r2, r3⟩ := rd_lay N (frN bl a).toNat (frN sl i).toNat bl sl hb hs (by omega)
    refine ⟨0, layL N (frN bl a).toNat (frN sl i).toNat bl sl, by omega, fun W => ?_, fun W h1 h2 => ?_, fun _ W G h => ?_⟩
    · refine (gput_yes a i n N bl sl hb hs hrg W).mono fun _ _ ⟨G, h1, h2, _, h3⟩ => ⟨some ⟨G, 0, none⟩, 256, ?_, h2.src, fun _ => ⟨G, rfl, rfl⟩, h3⟩
      rw [hll]; exact h1
    · refine (rput_yes a i n N bl sl spb sps capb caps hb hs hrg W h1 h2).mono fun _ _ ⟨v, h1, h2, h3⟩ => ?_
      obtain ⟨ao, ac, rfl, h4, _⟩ := h2.form
      exact ⟨ao, ac, h1, h4, h3⟩
    · have g := gget_ok a i n G 0 256 (layL N (frN bl a).toNat (frN sl i).toNat bl sl) hll hok (by rw [r1, r2, r3]; exact hrg) (by unfold backL; rw [r1, r2, r3]; exact beq_self_eq_true _) W h (by omega) (by omega)
      rw [r1, r2, r3] at g
      rw [hll]; exact g
end Go.Proofs.Ytfbbdpapnegmcaa
