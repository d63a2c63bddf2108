/- leveelaw02.DiskPlays. -/
import Derived.Test.YtcmkgcdjjplgdaaDo
import Derived.Test.YtcmkgcdjjplgdaaDacts
import Derived.Deep.CutBlock
import Derived.Deep.LoopGhost
namespace Go.Proofs.Ytcmkgcdjjplgdaa
open Go.RowKit
section
variable {w0 w w' : World} {base κ p n r : Nat}
theorem DRX.up (h : DRX base κ w0 w p n r) (hb : Below w.heap.size w w') : DRX base κ w0 w' p n r := by
  obtain ⟨y1, y2, y3, y4, y5, y6, y7, y8, y9, y10, h⟩ := h
  exact ⟨y1, y2, y3, y4, y5, y6, y7, y8, y9, y10, h.up hb⟩
theorem DRX.be (h : DRX base κ w0 w p n r) : Below base w0 w := by
  obtain ⟨y1, y2, y3, y4, y5, y6, y7, y8, y9, y10, h⟩ := h
  exact h.be
theorem DRX.pl (h : DRX base κ w0 w p n r) : p < w.heap.size := by
  obtain ⟨y1, y2, y3, y4, y5, y6, y7, y8, y9, y10, h⟩ := h
  exact h.d.pl
theorem same_x (h : DRX base κ w0 w p n r) (b : Int) (hb : -9223372036854775808 ≤ b ∧ b ≤ 9223372036854775807) :
    Calls Try.prog 15 #[.pointer (some ⟨p, 0, none⟩), .pointer (some ⟨r, 0, none⟩), .int .i64 b] w fun e w' => e = .returned (.bool true) ∧ DRX base κ w0 w' p n r := by
  have hX := h
  obtain ⟨y1, y2, y3, y4, y5, y6, y7, y8, y9, y10, h⟩ := h
  by_cases hout : b < 0 ∨ (n : Int) ≤ b
  · exact (same_out h.d h.r'.at' b hout hb).mono fun e w' ⟨h1, h2⟩ => ⟨h1, hX.up h2⟩
  · obtain ⟨i, rfl⟩ : ∃ i : Nat, (i : Int) = b := ⟨b.toNat, by omega⟩
    exact (same_in h.d h.r'.at' i (by omega)).mono fun e w' ⟨h1, h2⟩ => ⟨h1, hX.up h2⟩
theorem len_x (h : DRX base κ w0 w p n r) : Calls Try.prog 18 #[.pointer (some ⟨p, 0, none⟩)] w fun e w' => e = .returned (.int .i64 (n : Int)) ∧ w' = w := by
  obtain ⟨y1, y2, y3, y4, y5, y6, y7, y8, y9, y10, h⟩ := h
  exact len_any h.d
theorem bytes_x (h : DRX base κ w0 w p n r) :
    Calls Try.prog 16 #[.pointer (some ⟨p, 0, none⟩)] w fun e w1 => ∃ g Y, e = .returned (.slice (some ⟨g, 0, none⟩) (n * 256) (n * 256)) ∧ Src w1 (some ⟨g, 0, none⟩) Y ∧ Y.length = n * 256 ∧ DRX base κ w0 w1 p n r ∧ Calls Try.prog 17 #[.pointer (some ⟨r, 0, none⟩)] w1 fun e2 w2 => ∃ ao c, e2 = .returned (.slice ao (n * 256) c) ∧ Src w2 ao Y ∧ Src w2 (some ⟨g, 0, none⟩) Y ∧ DRX base κ w0 w2 p n r := by
  have hX := h
  obtain ⟨y1, y2, sf, ws, y5, y6, y7, y8, y9, y10, h⟩ := h
  have hyl : ∀ i, (if i < n then lastOf (sf i) (ws i) else zer).length = 256 := fun i => by
    by_cases hi : i < n
    · rw [if_pos hi]; exact h.d.lastLen i hi
    · rw [if_neg hi]; exact zer_length
  refine (bytes_any h.d (fun i => if i < n then lastOf (sf i) (ws i) else zer) (fun i hi => by rw [if_pos hi]) hyl).mono ?_
  rintro e w1 ⟨g, rfl, hg, _, hb⟩
  refine ⟨g, _, rfl, hg.src, flat_length _ hyl n, hX.up hb, (rbytesd_any (h.r'.below hb) (fun i => if i < n then lastOf (sf i) (ws i) else zer) (fun i hi => by rw [if_pos hi]) hyl).mono ?_⟩
  rintro e w2 ⟨v, rfl, ho, hb2⟩
  obtain ⟨ao, c, rfl, hs, _, _, _⟩ := ho.form
  rw [flat_length _ hyl n]
  exact ⟨ao, c, rfl, hs, hg.src.below hb2 (Nat.le_refl _), (hX.up hb).up hb2⟩
theorem ActOk.inb {W : World} {K N : Int} {DP : Option Addr} {DD : List UInt8} {DC : Nat} {QP : Option Addr} {QM QC : Nat} {Z : Nat → Int} (h : ActOk w K N DP DD DC QP QM QC Z) (hb : Below w.heap.size w W) : ActIn W w.heap.size N DP DD DC QP QM QC Z := by
  refine ⟨h.b1, h.arg.below hb (Nat.le_refl _), fun b o e hne => ?_, h.mr, fun h0 => ?_⟩
  · rcases h.arg.src with h1 | ⟨b', o', e1, e2, _⟩
    · exact absurd h1 hne
    · rw [e1] at e; cases e; exact e2
  · obtain ⟨g, o, e, hg, hc⟩ := h.pick h0
    exact ⟨g, o, e, hg, fun k hk => (hb.cell (p := ⟨g, o + k, none⟩) hg).trans (hc k hk)⟩
theorem start_x {w1 w2 : World} {q n gb cb : Nat} {va vc : Nat → Nat} (hD : DiskAt w1 w.heap.size p n false 0 (fun _ => zer) (fun _ => []) q (fun _ => .slice none 0 0)) (hb1 : Below w.heap.size w w1) (hR : RefW w2 w1.heap.size w1.heap.size n false 0 (fun _ => zer :: []) gb cb va vc) (hg : w1.heap.size ≤ gb) (hv : ∀ i, i < n → w1.heap.size ≤ va i) (hb2 : Below w1.heap.size w1 w2) : DRX w.heap.size 0 w w2 p n w1.heap.size := by
  have hz := hb1.size
  have hD2 := hD.below hb2 (Nat.le_refl _)
  have hrk : ∀ k, Rk w1.heap.size gb n va k → w1.heap.size ≤ k := fun k hk => by
    rcases hk with rfl | rfl | ⟨j, hj, rfl⟩
    · exact Nat.le_refl _
    · exact hg
    · exact hv j hj
  refine ⟨false, 0, fun _ => zer, fun _ => [], q, fun _ => .slice none 0 0, gb, cb, va, vc, ⟨hD2, ⟨{ hR.at' with rb := by omega }, hR.fr, hR.fg, hR.rg, hR.ar⟩, fun k hk hr => ?_, fun _ _ _ => rfl, fun _ _ => Nat.le_refl _, ⟨by omega, by omega⟩, fun k hr => by have := hrk k hr; omega, hb1.trans (hb2.mono hz)⟩⟩
  have := (hD.dk_lt hk).1; have := hrk k hr; omega
end
theorem zz_src (w : World) (f : Nat × Nat) : Src (w.alloc (.cells #[Value.int .u8 122, Value.int .u8 122] 5 f)) (some ⟨w.heap.size, 0, none⟩) [122, 122] :=
  src_row (l := [122, 122]) (heap_alloc_new _ _)
set_option maxRecDepth 100000 in
set_option maxHeartbeats 32000000 in
theorem diskPlays_mid (n : Nat) (h1 : 1 ≤ n) (hn : n ≤ 40) (sp : Option Addr) (m cap : Nat) (A : Acts) (w : World) (harg : m ≤ cap ∧ (cap : Int) ≤ 9223372036854775807 ∧ ActsAt w sp m A) :
    Calls Try.prog 3 #[.int .i64 (n : Int), .slice sp m cap] w fun e w' => e = .returned (.bool true) ∧ Below w.heap.size w w' := by
  obtain ⟨hmc, hcap, hacts⟩ := harg
  have HACTS : Hid (ActsAt w sp m A) := hacts
  clear hacts
  have NW := new_any w n h1 (by omega)
  have hn40 : (n : Int) ≤ 40 := by omega
  have hn1 : (1 : Int) ≤ n := by omega
  go_enter Try.func3, Try.ntmps3
  go_wp2_with fail
  refine NW.mono ?_
  clear NW
  rintro e w1 ⟨p, q, rfl, hD1, hb1⟩
  have HD1 : Hid _ := hD1
  have HB1 : Hid (Below w.heap.size w w1) := hb1
  clear hD1 hb1
  have RN := rnew_any n h1 hn w1
  go_wp2_with fail
  refine RN.mono ?_
  clear RN
  rintro e w2 ⟨rfl, ⟨gb, cb, va, vc, hR, hg, hv⟩, hb2⟩
  have HX0 : Hid (DRX w.heap.size 0 w w2 p n w1.heap.size) := start_x HD1.out HB1.out hR hg hv hb2
  clear hR hg hv hb2 HD1 HB1
  generalize w1.heap.size = r at *
  go_wp2_with fail
  go_loopg [5, 9] 41 (fun gk s5 s9 wr => ∃ (k p' : Nat), k + gk = 41 ∧ s5 = .pointer (some ⟨p', 0, none⟩) ∧ s9 = .int .i64 k ∧ Hid (DRX w.heap.size k w wr p' n r))
  case atStart => exact ⟨0, p, rfl, rfl, rfl, HX0⟩
  case round =>
    obtain ⟨k, p', hk, rfl, rfl, HX⟩ := hrel
    clear HX0
    by_cases hlt : (k : Int) < m ∧ (k : Int) < 40
    · obtain ⟨hlm, hl40⟩ := hlt
      obtain ⟨b, off, rfl, hbl, hcell⟩ := HACTS.out (by omega)
      obtain ⟨f0, f1, f2, f3, hok⟩ := hcell k (by omega)
      have CE : ∀ W, DRX w.heap.size (k + 1) w W p' n r ∨ Below w.heap.size w W → W.cell? ⟨b, off + k * 4 + 1, none⟩ = some (.int .i64 (A.N k)) := fun W hW => by
        have hB : Below w.heap.size w W := hW.elim (fun h => h.be) id
        exact (hB.cell (p := ⟨b, off + k * 4 + 1, none⟩) hbl).trans f1
      have hbe := HX.out.be
      have e0 := (hbe.cell (p := ⟨b, off + k * 4, none⟩) hbl).trans f0
      have e1 := (hbe.cell (p := ⟨b, off + k * 4 + 1, none⟩) hbl).trans f1
      have e2 := (hbe.cell (p := ⟨b, off + k * 4 + 2, none⟩) hbl).trans f2
      have e3 := (hbe.cell (p := ⟨b, off + k * 4 + 3, none⟩) hbl).trans f3
      have HIN : Hid (ActIn wr w.heap.size (A.N k) (A.P k) (A.D k) (A.C k) (A.Q k) (A.M k) (A.R k) (A.Z k)) := hok.inb hbe
      have HNB : Hid (-9223372036854775808 ≤ A.N k ∧ A.N k ≤ 9223372036854775807) := hok.b1
      clear f0 f1 f2 f3 hok hcell hbl hbe
      generalize A.K k = K at *
      generalize A.N k = N at *
      generalize A.P k = DP at *
      generalize A.D k = DD at *
      generalize A.C k = DC at *
      generalize A.Q k = QP at *
      generalize A.M k = QM at *
      generalize A.R k = QC at *
      generalize A.Z k = QZ at *
      by_cases h6 : K = 6
      · subst h6
        clear HIN e1 e2 e3
        obtain ⟨y1, y2, y3, y4, y5, y6, y7, y8, y9, y10, hDR⟩ := HX.out
        have CP := both_copy hDR (by omega) h1
        clear hDR HX
        go_wp2_with fail
        refine CP.mono ?_
        clear CP
        rintro e w3 ⟨p2, rfl, hO3⟩
        have HO3 : Hid (OldX w.heap.size k w w3 p' n p2 r) := hO3
        clear hO3 y1 y2 y3 y4 y5 y6 y7 y8 y9 y10 e0
        have CV := conv_const w3 #[Value.int .u8 122, Value.int .u8 122] 2 2
        have hbA : Below w3.heap.size w3 (w3.alloc (.cells #[Value.int .u8 122, Value.int .u8 122] 5 (2, 3))) := (Below.refl _ _).alloc (Nat.le_refl _) _
        have FL := fill_any (w3.alloc (.cells #[Value.int .u8 122, Value.int .u8 122] 5 (2, 3))) (some ⟨w3.heap.size, 0, none⟩) 2 [122, 122] (zz_src w3 (2, 3)) (by simp)
        rw [show ([122, 122] : List UInt8).length = 2 from rfl] at FL
        have HO4 : Hid (OldX w.heap.size k w (w3.alloc (.cells #[Value.int .u8 122, Value.int .u8 122] 5 (2, 3))) p' n p2 r) := HO3.out.up hbA
        clear hbA HO3
        go_wp2_with fail
        refine FL.mono ?_
        clear FL CV
        rintro e w5 ⟨gf, rfl, hgf, hgfl, hb5⟩
        have HO5 : Hid (OldX w.heap.size k w w5 p' n p2 r) := HO4.out.up hb5
        have hgp : gf ≠ p' := by
          obtain ⟨a1, a2, a3, a4, a5, a6, a7, _⟩ := HO4.out
          have := a7.pl; omega
        have OW := old_write HO5.out (by omega) h1 (fillL [122, 122]) (fillL_length _) gf 256 hgf.src hgp
        clear hgf hgfl hb5 hgp HO4
        go_wp2_with fail
        refine OW.mono ?_
        clear OW
        rintro e w6 ⟨⟨x6, rfl⟩, hO6⟩
        have OC := old_crash hO6
        clear hO6 HO5
        go_wp2_with fail
        refine OC.mono ?_
        clear OC
        rintro e w7 ⟨rfl, hX7⟩
        have HX7 : Hid (DRX w.heap.size (k + 1) w w7 p2 n r) := hX7
        have e1 := CE w7 (.inr hX7.be)
        have SM := same_x hX7 N HNB.out
        clear hX7
        go_wp2_with fail
        refine SM.mono ?_
        clear SM
        rintro e w8 ⟨rfl, hX8⟩
        have HX8 : Hid (DRX w.heap.size (k + 1) w w8 p2 n r) := hX8
        clear hX8 e1 HX7
        go_wp2_with fail
        go_roundg (gk - 1)
        case measure => omega
        case rel => exact ⟨k + 1, p2, by omega, rfl, by go_num, HX8⟩
      · have z6 : (K == 6) = false := beq_eq_false_iff_ne.2 h6
        obtain ⟨y1, y2, y3, y4, y5, y6, y7, y8, y9, y10, hDR⟩ := HX.out
        have DO := do_any hDR (by omega) K N DP DD DC QP QM QC QZ HIN.out
        clear hDR HX HIN
        go_wp2_with fail
        refine DO.mono ?_
        clear DO
        rintro e w7 ⟨rfl, hX7⟩
        have HX7 : Hid (DRX w.heap.size (k + 1) w w7 p' n r) := hX7
        clear e0 e1 e2 e3
        have e1 := CE w7 (.inr hX7.be)
        have SM := same_x hX7 N HNB.out
        clear hX7 y1 y2 y3 y4 y5 y6 y7 y8 y9 y10
        go_wp2_with fail
        refine SM.mono ?_
        clear SM
        rintro e w8 ⟨rfl, hX8⟩
        have HX8 : Hid (DRX w.heap.size (k + 1) w w8 p' n r) := hX8
        clear hX8 e1 HX7
        go_wp2_with fail
        go_roundg (gk - 1)
        case measure => omega
        case rel => exact ⟨k + 1, p', by omega, rfl, by go_num, HX8⟩
    · have hends : (¬ (k : Int) < m) ∨ ((k : Int) < m ∧ ¬ (k : Int) < 40) := by omega
      clear hlt
      rcases hends with hlm | ⟨hlm, hl40⟩
      all_goals
        go_wp2_with fail
        go_loopw [11] (fun t wx => ∃ i : Nat, i ≤ n ∧ t = .int .i64 i ∧ Hid (DRX w.heap.size k w wx p' n r)) (fun t _ => n - (intOf t).toNat)
        case atStart => exact ⟨0, by omega, rfl, HX⟩
        case round =>
          obtain ⟨i, hi, rfl, HXI⟩ := hrel
          clear HX
          by_cases hin : (i : Int) < n
          · have SM := same_x HXI.out (i : Int) (by omega)
            go_wp2_with fail
            refine SM.mono ?_
            clear SM
            rintro e w8 ⟨rfl, hX8⟩
            have HX8 : Hid (DRX w.heap.size k w w8 p' n r) := hX8
            clear hX8
            go_wp2_with fail
            go_roundw
            case rel => exact ⟨i + 1, by omega, by go_num, HX8⟩
            case measure => simp [intOf]; omega
          · have BX := bytes_x (HXI.out.up ((Below.refl wr.heap.size wr).drew))
            clear HXI
            go_upto_region 28 with fail
            go_region_with (first
              | (go_at_call 16; refine BX.mono ?_; clear BX; rintro e v1 ⟨g, Y, rfl, hs1, hY, hX1, RB⟩; have cv1 := conv_str hs1 (n * 256) (n * 256) hY.symm; have HY : Hid (Y.length = n * 256) := hY; obtain ⟨X, hX⟩ : ∃ X, Hid (X = str Y) := ⟨_, rfl⟩; rw [← hX.out] at cv1; clear hs1 hY hX1)
              | (go_at_call 17; refine RB.mono ?_; clear RB; rintro e v2 ⟨ao, c, rfl, hs2, hs3, hX2⟩; have cv2 := conv_str hs2 (n * 256) c HY.out.symm; have cv3 := conv_str hs3 (n * 256) (n * 256) HY.out.symm; rw [← hX.out] at cv2 cv3; have LN := len_x hX2; have HX2 : Hid (Below w.heap.size w v2) := hX2.be; clear hs2 hs3 hX2)
              | (go_at_call 18; refine LN.mono ?_; clear LN; rintro e v3 ⟨rfl, rfl⟩)
              | (go_at_call 7; refine (known_any _).mono ?_; rintro e v4 ⟨rfl, hb4⟩))
            all_goals
              have HB4 : Hid (Below w.heap.size w v4) := HX2.out.trans (hb4.mono HX2.out.size)
              clear hb4
              go_wp2
              go_ret
              exact ⟨rfl, HB4.out⟩
set_option maxHeartbeats 4000000 in
theorem diskPlays_any (nn : Int) (sp : Option Addr) (m cap : Nat) (A : Acts) (w : World) (harg : m ≤ cap ∧ (cap : Int) ≤ 9223372036854775807 ∧ ActsAt w sp m A) :
    Calls Try.prog 3 #[.int .i64 nn, .slice sp m cap] w fun e w' => e = .returned (.bool true) ∧ Below w.heap.size w w' := by
  by_cases hmid : 1 ≤ nn ∧ nn ≤ 40
  · obtain ⟨n, rfl⟩ : ∃ n : Nat, (n : Int) = nn := ⟨nn.toNat, by omega⟩
    exact diskPlays_mid n (by omega) (by omega) sp m cap A w harg
  · clear harg
    by_cases hbig : 40 < nn ∧ nn ≤ 4096
    · obtain ⟨hb1, hb2⟩ := hbig
      clear hmid
      go_enter Try.func3, Try.ntmps3
      go_wp2_with fail
      refine (known_any _).mono ?_
      rintro e w1 ⟨rfl, h1⟩
      go_wp2
      go_ret
      exact ⟨rfl, h1⟩
    · have hno : nn < 1 ∨ 4096 < nn := by omega
      have NN := new_no nn hno w
      have RN := rnew_no nn hno w
      have hcase : ¬ 40 < nn ∨ (40 < nn ∧ ¬ nn ≤ 4096) := by omega
      clear hno hmid hbig
      rcases hcase with hc | ⟨hc, hd⟩
      all_goals
        go_enter Try.func3, Try.ntmps3
        go_wp2_with fail
        refine NN.mono ?_
        rintro e w1 ⟨rfl, rfl⟩
        go_wp2_with fail
        refine RN.mono ?_
        rintro e w2 ⟨rfl, rfl⟩
        go_wp2_with fail
        refine (known_any _).mono ?_
        rintro e w3 ⟨rfl, h3⟩
        go_wp2
        go_ret
        exact ⟨rfl, h3⟩
end Go.Proofs.Ytcmkgcdjjplgdaa
