/- Disk.Safe. -/
import Derived.Test.YtikpnfnbmbaljaaJDOpen3
import Derived.Test.YtikpnfnbmbaljaaJZdisk5
import Derived.Test.YtikpnfnbmbaljaaKZdo0
namespace Go.Proofs.Ytikpnfnbmbaljaa
open Go.RowKit
set_option maxRecDepth 100000
section
variable {w : World} {base p n : Nat} {en : Bool} {lf : Int} {sf : Nat → List UInt8} {ws : Nat → List (List UInt8)} {q : Nat} {vs : Nat → Value}
set_option maxHeartbeats 1000000 in
set_option maxRecDepth 100000 in
theorem safe_any (h : DiskAt w base p n en lf sf ws q vs) (i : Nat) (hi : i < n) :
    Calls Try.prog 45 #[.pointer (some ⟨p, 0, none⟩), .int .i64 (i : Int)] w fun e w' => ∃ g, e = .returned (.tuple #[.slice (some ⟨g, 0, none⟩) 256 256, .int .i64 0]) ∧ Blk w' g 90 (sf i) ∧ w.heap.size ≤ g ∧ Below w.heap.size w w' := by
  have FIND := find_any h i hi
  obtain ⟨hr, hlen, _⟩ := h.row i hi
  obtain ⟨Z, hz, hzs, hinfo, HZ⟩ := Try.zero90
  clear HZ hinfo
  generalize sf i = y at *
  clear h
  go_enter Try.func45, Try.ntmps45
  go_wp2_with fail
  refine FIND.mono ?_
  rintro e w1 ⟨rfl, rfl⟩
  clear FIND
  have hb3 : Below w1.heap.size w1 (w1.alloc (.cells Z 90)) := (Below.refl _ _).alloc (Nat.le_refl _) _
  go_wp2_with (first | ((with_reducible show wpList _ _ _ ({ dst := _, op := Op.load 90 _, type := _, pos := _, after := _, guard := _ } :: _) _ _); refine wpList_load_img rfl (.tmp 20) rfl q (i * 257) rfl y hr hlen ?_) | ((with_reducible show wpList _ _ _ ({ dst := _, op := Op.store 90 _ _, type := _, pos := _, after := _, guard := _ } :: _) _ _); refine wpList_store_blk rfl (.tmp 8) (.tmp 21) rfl w1.heap.size Z y rfl rfl (heap_alloc_new _ _) hzs hlen w1.heap.size w1 hb3 (Nat.le_refl _) ?_; intro w3 hg3 hb4 hx1 hy1; clear hx1 hy1))
  go_ret2
  exact ⟨_, rfl, hg3, Nat.le_refl _, hb4⟩
end
end Go.Proofs.Ytikpnfnbmbaljaa
/- disk.Bytes. -/
namespace Go.Proofs.Ytikpnfnbmbaljaa
open Go.RowKit
set_option maxRecDepth 100000
section
variable {w : World} {base p n : Nat} {en : Bool} {lf : Int} {sf : Nat → List UInt8} {ws : Nat → List (List UInt8)} {q : Nat} {vs : Nat → Value}
def bytesP (y : Nat → List UInt8) (n k : Nat) : List UInt8 := (List.range k).flatMap y ++ List.replicate ((n - k) * 256) 0
theorem flat_length (y : Nat → List UInt8) (hy : ∀ i, (y i).length = 256) : ∀ k, ((List.range k).flatMap y).length = k * 256
  | 0 => rfl
  | k + 1 => by rw [List.range_succ, List.flatMap_append, List.length_append, flat_length y hy k]; simp [hy]; omega
theorem bytesP_step (y : Nat → List UInt8) (hy : ∀ i, (y i).length = 256) (n k : Nat) (hk : k < n) : (bytesP y n k).take (k * 256) ++ (y k).take (n * 256 - k * 256) ++ (bytesP y n k).drop (k * 256 + min 256 (n * 256 - k * 256)) = bytesP y n (k + 1) := by
  have hA := flat_length y hy k
  have h1 : (bytesP y n k).take (k * 256) = (List.range k).flatMap y := by unfold bytesP; rw [List.take_left' hA]
  have h2 : (y k).take (n * 256 - k * 256) = y k := List.take_of_length_le (by rw [hy]; omega)
  have h3 : (bytesP y n k).drop (k * 256 + min 256 (n * 256 - k * 256)) = List.replicate ((n - (k + 1)) * 256) 0 := by
    unfold bytesP
    have hm : min 256 (n * 256 - k * 256) = 256 := by omega
    have he : (n - k) * 256 - 256 = (n - (k + 1)) * 256 := by omega
    rw [hm, ← List.drop_drop, List.drop_left' hA, List.drop_replicate, he]
  rw [h1, h2, h3]
  unfold bytesP
  rw [List.range_succ, List.flatMap_append]; simp
set_option maxHeartbeats 2000000 in
set_option maxRecDepth 100000 in
theorem dbytes_any (h : DiskAt w base p n en lf sf ws q vs) (y : Nat → List UInt8) (hy : ∀ i, i < n → y i = lastOf (sf i) (ws i)) (hyl : ∀ i, (y i).length = 256) :
    Calls Try.prog 41 #[.pointer (some ⟨p, 0, none⟩)] w fun e w' => ∃ g, e = .returned (.slice (some ⟨g, 0, none⟩) (n * 256) (n * 256)) ∧ Blk w' g 5 ((List.range n).flatMap y) ∧ w.heap.size ≤ g ∧ Below w.heap.size w w' := by
  have LEN := len_any h
  have hnn := h.nn
  have hmk : (Instr.makeSlice 39 (.int .i64 ((n : Int) * 256)) (.int .i64 ((n : Int) * 256))).run Try.prog w = .ok (.slice (some ⟨w.heap.size, 0, none⟩) (n * 256) (n * 256)) (w.alloc (.cells (bvs (List.replicate (n * 256) 0)).toArray 5)) := by
    have := make_any w (n * 256) (n * 256) (Nat.le_refl _) (by omega)
    rw [show ((n * 256 : Nat) : Int) = (n : Int) * 256 by omega] at this
    exact this
  have hb0 : Below w.heap.size w (w.alloc (.cells (bvs (List.replicate (n * 256) 0)).toArray 5)) := (Below.refl _ _).alloc (Nat.le_refl _) _
  have hg0 : Blk (w.alloc (.cells (bvs (List.replicate (n * 256) 0)).toArray 5)) w.heap.size 5 (bytesP y n 0) := by
    have e : bytesP y n 0 = List.replicate (n * 256) 0 := by simp [bytesP]
    rw [e]; exact heap_alloc_new _ _
  have H : Hid _ := h
  have hq := h.ql
  have hp := h.pl
  clear h
  obtain ⟨w0, HW⟩ : ∃ w0, Hid (w0 = w.alloc (.cells (bvs (List.replicate (n * 256) 0)).toArray 5)) := ⟨_, rfl⟩
  rw [← HW.out] at hmk hb0 hg0
  have LEN0 := len_any (H.out.below hb0 (Nat.le_refl _))
  clear HW
  go_enter Try.func41, Try.ntmps41
  go_wp2_with fail
  refine LEN.mono ?_
  rintro e w1 ⟨rfl, rfl⟩
  clear LEN
  have hn1 : (n : Int) ≤ 4096 := by omega
  have hn0 : (0 : Int) ≤ n := by omega
  go_wp2_with fail
  refine LEN0.mono ?_
  rintro e w2 ⟨rfl, rfl⟩
  clear LEN0 hmk
  obtain ⟨Z, hz, hzs, hinfo, HZ⟩ := Try.zero90
  clear HZ hinfo
  go_wp2_with fail
  go_loopw [12] (fun i wr => ∃ k : Nat, k ≤ n ∧ i = .int .i64 k ∧ Blk wr w1.heap.size 5 (bytesP y n k) ∧ Below w1.heap.size w1 wr) (fun i _ => n - (intOf i).toNat)
  case atStart => exact ⟨0, by omega, rfl, hg0, hb0⟩
  case round =>
    obtain ⟨k, hk, rfl, hB, hbw⟩ := hrel
    by_cases hlt : (k : Int) < n
    · have hD := H.out.below hbw (Nat.le_refl _)
      have LAST := last_any hD k (by omega)
      rw [← hy k (by omega)] at LAST
      obtain ⟨cq, hcq1, hcq2, c0⟩ := hD.c0
      have hyk := hyl k
      clear hD
      go_wp2_with fail
      refine LAST.mono ?_
      rintro e w3 ⟨rfl, hb3⟩
      clear LAST
      have hs3 := hb3.size
      have hbZ : Below wr.heap.size wr (w3.alloc (.cells Z 90)) := hb3.alloc hs3 _
      go_wp2_with ((with_reducible show wpList _ _ _ ({ dst := _, op := Op.store 90 _ _, type := _, pos := _, after := _, guard := _ } :: _) _ _); refine wpList_store_blk rfl (.tmp 5) (.tmp 21) rfl w3.heap.size Z (y k) rfl rfl (heap_alloc_new _ _) hzs hyk wr.heap.size wr hbZ hs3 ?_; intro w4 hg4 hb4 hx1 hy1; clear hx1 hy1)
      have hlt0 := hB.lt
      have hB4 : Blk w4.drew w1.heap.size 5 (bytesP y n k) := hB.below hb4.drew hlt0
      have hPl : (bytesP y n k).length = n * 256 := by unfold bytesP; rw [List.length_append, flat_length y hyl, List.length_replicate]; omega
      obtain ⟨w5, hcp, hB5, hb5, hs5⟩ := copy_any (w := w4.drew) (g := w1.heap.size) (off := k * 256) (dLen := n * 256 - k * 256) (n * 256 - k * 256) (sp := some ⟨w3.heap.size, 0, none⟩) 256 256 hB4 (show Src w4.drew (some ⟨w3.heap.size, 0, none⟩) (y k) from hg4.src) hyk (by rw [hPl]; omega)
      have hmul : IntKind.i64.wrap ((k : Int) * 256) = ((k * 256 : Nat) : Int) := by rw [IntKind.wrap_i64]; omega
      have hk0 : (0 : Int) ≤ (k : Int) * 256 := by omega
      have htn : ((k : Int) * 256).toNat = k * 256 := by omega
      have hne : ¬ n * 256 = k * 256 := by omega
      dsimp only [Act.put]
      have hb6 : Below w1.heap.size w1 w5 := (hbw.trans ((hb4.mono hbw.size).drew)).trans hb5
      rw [bytesP_step y hyl n k (by omega)] at hB5
      have HB5 : Hid _ := hB5
      clear hB5 hB4 hB hPl
      go_region
      go_wp2
      go_roundw
      case rel => exact ⟨k + 1, by omega, by go_num, HB5.out, hb6⟩
      case measure => simp [intOf]; omega
    · obtain rfl : k = n := by omega
      go_wp2
      go_ret
      refine ⟨_, rfl, ?_, Nat.le_refl _, hbw⟩
      have e : bytesP y k k = (List.range k).flatMap y := by simp [bytesP]
      rw [← e]; exact hB
end
end Go.Proofs.Ytikpnfnbmbaljaa
/- The document's disk: Bytes, Open. -/
namespace Go.Proofs.Ytikpnfnbmbaljaa
open Go.RowKit
set_option maxRecDepth 100000
section
variable {w : World} {base r n : Nat} {held : Bool} {left : Int} {ver : Nat → List (List UInt8)} {gb cb : Nat} {va vc : Nat → Nat}
set_option maxHeartbeats 4000000 in
theorem rbytesd_any (h : RefW w base r n held left ver gb cb va vc) (y : Nat → List UInt8) (hy : ∀ i, i < n → ∃ m, (ver i).length = m + 1 ∧ (ver i)[m]? = some (y i)) (hyl : ∀ i, (y i).length = 256) :
    Calls Try.prog 42 #[.pointer (some ⟨r, 0, none⟩)] w fun e w' => ∃ v, e = .returned v ∧ Own w' w.heap.size v ((List.range n).flatMap y) ∧ Below w.heap.size w w' := by
  have hnn : (n : Int) ≤ 4096 := by have := h.at'.nn; omega
  have H : Hid _ := h
  have HY : Hid _ := hy
  clear h hy
  go_enter Try.func42, Try.ntmps42
  go_wp2_with fail
  go_loopw [3, 4] (fun v s wr => ∃ k : Nat, k ≤ n ∧ s = .int .i64 k ∧ Hid (Own wr w.heap.size v ((List.range k).flatMap y)) ∧ Hid (Below w.heap.size w wr)) (fun _ s _ => n - (intOf s).toNat)
  case atStart => exact ⟨0, by omega, rfl, Own.nil _ _, Below.refl _ _⟩
  case round =>
    obtain ⟨k, hk, rfl, HO, HB⟩ := hrel
    have R : RefW wr base r n held left ver gb cb va vc := H.out.below HB.out
    have c0 := R.at'.c0
    by_cases hlt : (k : Int) < n
    · obtain ⟨mm, hm1, hm2⟩ := HY.out k (by omega)
      have RD := rread_in R.at' k (by omega) mm (y k) hm1 hm2
      rw [hyl k] at RD
      have hlk := flat_length y hyl k
      have hz := HB.out.size
      clear R hm1 hm2
      go_wp2_with fail
      refine RD.mono ?_
      rintro e w2 ⟨g, c, rfl, sg, hb2⟩
      have HO2 : Hid (Own w2 w.heap.size _ ((List.range k).flatMap y)) := HO.out.below hb2 (Nat.le_refl _)
      have HB2 : Hid (Below w.heap.size w w2) := HB.out.trans (hb2.mono hz)
      have hz2 := hb2.size
      clear RD c0 hb2 HO HB
      go_wp2_with (at_builtin; refine wpList_append_bytes rfl (.tmp 22) (.tmp 23) rfl w.heap.size ((List.range k).flatMap y) (y k) _ rfl _ _ _ rfl (hyl k).symm HO2.out sg (by omega) (by rw [hlk, hyl k]; omega) (fun h => by cases h) ?_; intro v3 w3 hO3 hb3)
      have HO3 : Hid (Own w3 w.heap.size v3 ((List.range (k + 1)).flatMap y)) := by
        show Own _ _ _ _
        rw [List.range_succ, List.flatMap_append]
        simpa using hO3
      have HB3 : Hid (Below w.heap.size w w3) := HB2.out.trans hb3
      clear hO3 hb3 HO2 HB2 sg
      go_roundw
      case rel => exact ⟨k + 1, by omega, by go_num, HO3, HB3⟩
      case measure => simp [intOf]; omega
    · obtain rfl : k = n := by omega
      clear R
      go_wp2_with fail
      go_ret
      exact ⟨_, rfl, HO.out, HB.out⟩
set_option maxHeartbeats 4000000 in
theorem rdopen_any (h : RefW w base r n held left ver gb cb va vc) (ws : Nat → List (List UInt8)) (hws : ∀ i, i < n → (ver i).length = (ws i).length + 1) :
    Calls Try.prog 44 #[.pointer (some ⟨r, 0, none⟩)] w fun e w' => ∃ v, e = .returned v ∧ OwnNt w' w.heap.size v (openL ws n) ∧ Below w.heap.size w w' := by
  have hnn : (n : Int) ≤ 4096 := by have := h.at'.nn; omega
  have H : Hid _ := h
  have HY : Hid _ := hws
  obtain ⟨i0, hi, hz0, hz1, hz2⟩ := info_parts Try.infoNt
  clear h hws
  go_enter Try.func44, Try.ntmps44
  go_wp2_with fail
  go_loopw [3, 4] (fun v s wr => ∃ k : Nat, k ≤ n ∧ s = .int .i64 k ∧ Hid (OwnNt wr w.heap.size v (openL ws k)) ∧ Hid (Below w.heap.size w wr)) (fun _ s _ => n - (intOf s).toNat)
  case atStart => exact ⟨0, by omega, rfl, World.ownsRow_nil _ _ _ _, Below.refl _ _⟩
  case round =>
    obtain ⟨k, hk, rfl, HO, HB⟩ := hrel
    have R : RefW wr base r n held left ver gb cb va vc := H.out.below HB.out
    have c0 := R.at'.c0
    have hs := HB.out.size
    have hll := openL_len ws k
    by_cases hlt : (k : Int) < n
    · have WR := rwrites_in R.at' k (by omega)
      rw [show (((ver k).length : Int) - 1) = ((ws k).length : Int) from by rw [HY.out k (by omega)]; omega] at WR
      have HSN : Hid _ := openL_succ ws k
      clear R
      by_cases hpos : 0 < (ws k).length
      · have hpos' : (0 : Int) < (ws k).length := by omega
        go_wp2_with fail
        refine WR.mono ?_
        rintro e w2 ⟨rfl, rfl⟩
        clear WR c0
        go_wp2_with (first | (at_builtin; refine wpList_append_own _ rfl (.tmp 18) (.tmp 20) 43 rfl w.heap.size 3 i0 (.int .i64 0) 1 8 Try.underlying43 hi hz0 hz1 hz2 rfl (by decide) u3 _ _ rfl (World.ownsRow.alloc HO.out _) ⟨w2.heap.size, 0, none⟩ 1 1 [.int .i64 (k : Int)] rfl rfl (cell_one_new _ _ _) (by intro u hu; simp at hu; subst hu; rfl) (by unfold maxLen; omega) (by omega) (by simp; omega) ?_; intro v' w3 hown2 hgrow2 hnil2; clear hnil2))
        have hb2 : Below w.heap.size w w3 := (HB.out.alloc hs _).grown hgrow2 (by simp; omega) (fun j hj => (World.ownsRow.lt HO.out j hj).1)
        have hO2 : OwnNt w3 w.heap.size v' (openL ws (k + 1)) := by
          rw [HSN.out, if_pos hpos]
          unfold OwnNt
          rw [List.length_append, show ints (openL ws k ++ [k]) = ints (openL ws k) ++ [Value.int .i64 (k : Int)] from by simp [ints]]
          exact hown2
        clear hown2 hgrow2 HO HB
        go_roundw
        case rel => exact ⟨k + 1, by omega, by go_num, hO2, hb2⟩
        case measure => simp [intOf]; omega
      · have hz : (ws k).length = 0 := by omega
        rw [hz] at WR
        go_wp2_with fail
        refine WR.mono ?_
        rintro e w2 ⟨rfl, rfl⟩
        clear WR c0
        go_wp2
        go_roundw
        case rel => exact ⟨k + 1, by omega, by go_num, by show OwnNt _ _ _ _; rw [HSN.out, if_neg hpos, List.append_nil]; exact HO.out, HB⟩
        case measure => simp [intOf]; omega
    · obtain rfl : k = n := by omega
      clear R
      go_wp2_with fail
      go_ret
      exact ⟨_, rfl, HO.out, HB.out⟩
end
end Go.Proofs.Ytikpnfnbmbaljaa
/- leveelaw10.same: both disks are alike. -/
namespace Go.Proofs.Ytikpnfnbmbaljaa
open Go.RowKit
set_option maxRecDepth 100000
theorem wpAnyH_sub {P : Program} {md : Region.Mode} {ops : Array Oper} {Q : Exit → Act → World → Prop} {S T : World → Prop} (hs : ∀ w, T w → S w) : ∀ (fuel : Nat) (listed : Array Bool) (a : Act) (w : World), wpAnyH P md ops Q T fuel listed a w → wpAnyH P md ops Q S fuel listed a w
  | 0, _, _, _, h => h
  | fuel + 1, _, _, _, h => ⟨h.1, fun i hi => wpOp_mono (fun a' w' h' => ⟨hs _ h'.1, wpAnyH_sub hs fuel _ a' w' h'.2⟩) (h.2 i hi)⟩
theorem own_nt {w : World} {base : Nat} {v : Value} {l : List Nat} (h : OwnNt w base v l) : ∃ i c, v = .slice i l.length c ∧ SrcI w i (l.map fun k : Nat => (k : Int)) := by
  obtain ⟨h1, h2⟩ := h
  rcases h2 with ⟨rfl, h3⟩ | ⟨g, cap, cur, rfl, hg, hh, hn, hm, hs, hx⟩
  · exact ⟨none, 0, by rw [h3], .inl (by rw [List.eq_nil_of_length_eq_zero h3]; rfl)⟩
  · refine ⟨_, cap, rfl, .inr ⟨g, 0, rfl, (Array.getElem?_eq_some_iff.1 hh).1, fun j hj => ?_⟩⟩
    rw [List.length_map] at hj
    rw [Nat.zero_add, cell_of_row _ _ _ _ _ _ hh]
    have e : (cur.toList.take (l.length * 1))[j]? = (ints l)[j]? := by rw [hx]
    rw [List.getElem?_take, if_pos (by omega)] at e
    rw [← Array.getElem?_toList, e]
    simp [ints, hj]
theorem belowN {B : Nat} {w w' : World} (h : Below B w w') (q : Nat) : Below B w (w'.drewN q) := by
  induction q generalizing w' with
  | zero => exact h
  | succ q ih => rw [show w'.drewN (q + 1) = w'.drew.drewN q by rw [World.drewN_drew]; congr 1; omega]; exact ih h.drew
set_option maxHeartbeats 2000000 in
theorem eqInts_any {w : World} {ao bo : Option Addr} {l : List Int} (h : SrcI w ao l) (h2 : SrcI w bo l) (hl : l.length ≤ 1000) (cap cap2 : Nat) :
    Calls Try.prog 11 #[.slice ao l.length cap, .slice bo l.length cap2] w fun e w' => e = .returned (.bool true) ∧ Below w.heap.size w w' := by
  have HH : Hid (SrcI w ao l ∧ SrcI w bo l) := ⟨h, h2⟩
  have hl' : (l.length : Int) ≤ 1000 := by omega
  clear h h2
  go_enter Try.func11, Try.ntmps11
  go_wp2_with fail
  go_loopg [5] l.length (fun gg t5 W => ∃ (gw : World) (k : Nat), gw = W ∧ t5 = .int .i64 k ∧ k ≤ l.length ∧ l.length - k ≤ gg ∧ Hid (Below w.heap.size w gw))
  case atStart => exact ⟨_, 0, rfl, rfl, by omega, by omega, Below.refl _ _⟩
  case round =>
    obtain ⟨gw, k, rfl, rfl, hk, hgk, HG⟩ := hrel
    by_cases hlt : (k : Int) < (l.length : Int)
    · have hkl : k < l.length := by omega
      obtain ⟨g, o, e1, d0⟩ : ∃ g o, ao = some ⟨g, o, none⟩ ∧ gw.cell? ⟨g, o + k, none⟩ = some (.int .i64 (l.getD k 0)) := by
        rcases HH.out.1 with e | ⟨b, o, e, hb, hc⟩
        · rw [e] at hkl; cases hkl
        · exact ⟨b, o, e, (HG.out.cell (p := ⟨b, o + k, none⟩) hb).trans (hc k hkl)⟩
      obtain ⟨g2, o2, e2, d2⟩ : ∃ g o, bo = some ⟨g, o, none⟩ ∧ gw.cell? ⟨g, o + k, none⟩ = some (.int .i64 (l.getD k 0)) := by
        rcases HH.out.2 with e | ⟨b, o, e, hb, hc⟩
        · rw [e] at hkl; cases hkl
        · exact ⟨b, o, e, (HG.out.cell (p := ⟨b, o + k, none⟩) hb).trans (hc k hkl)⟩
      subst e1 e2
      generalize l.getD k 0 = x at *
      clear hkl
      go_upto_region 6 with fail
      go_quiet (fail)
      have HGN : Hid (Below w.heap.size w (gw.drewN nq)) := HG.out.trans ((belowN (Below.refl _ _) nq).mono HG.out.size)
      go_wp2_with fail
      go_roundg (l.length - (k + 1))
      case measure => omega
      case rel => exact ⟨_, k + 1, rfl, by go_num, by omega, by omega, HGN.out⟩
    · go_wp2_with fail
      go_ret
      exact ⟨rfl, HG.out⟩
section
variable {pd n : Nat} {w0 w : World} {p q ed : Nat} {σ : CSt} {κ : Nat} {D : Nat → Prop}
set_option maxHeartbeats 16000000 in
theorem same10_any (h : KX pd n w0 w p q ed σ κ D) (hκ : κ ≤ 1000) :
    Calls Try.prog 16 #[.pointer (some ⟨pd, 0, none⟩), .pointer (some ⟨ed, 0, none⟩)] w fun e w' => e = .returned (.bool true) ∧ Below w.heap.size w w' := by
  obtain ⟨v, base, ver, gb, cb, va, vc, _, hd2, hv, _⟩ := h.q
  have hd1 := h.cs.disk
  rw [h.dn] at hd1
  obtain ⟨y, hy, hyl⟩ : ∃ y : Nat → List UInt8, (∀ i, i < n → y i = lastOf (σ.sf i) (σ.ws i)) ∧ ∀ i, (y i).length = 256 := ⟨fun i => if i < n then lastOf (σ.sf i) (σ.ws i) else zer, fun i hi => if_pos hi, fun i => by
    show (if i < n then lastOf (σ.sf i) (σ.ws i) else zer).length = 256
    split
    · rename_i hi
      exact lastOf_length (hd1.row i hi).2.1 (hd1.wr i hi).2.1
    · simp [zer]⟩
  have hsl : ∀ i, i < n → (σ.sf i).length = 256 := fun i hi => (hd1.row i hi).2.1
  have hn8 := h.n8
  obtain rfl : σ.dp = pd := h.dpe
  have hcb : (cb : Int) ≤ 9223372036854775807 := hd2.at'.cl.2
  have HDD : Hid (DiskAt w w0.heap.size σ.dp n σ.en σ.lf σ.sf σ.ws σ.dq σ.vs ∧ RefW w base ed n false 0 ver gb cb va vc) := ⟨hd1, hd2⟩
  have HVV : Hid ((∀ i, i < n → y i = lastOf (σ.sf i) (σ.ws i)) ∧ (∀ i, (y i).length = 256) ∧ (∀ i, i < n → ver i = σ.sf i :: σ.ws i) ∧ (∀ i, i < n → (σ.sf i).length = 256) ∧ ∀ i, (σ.ws i).length ≤ 1000) := ⟨hy, hyl, hv, hsl, fun i => by have := h.bd.2 i; omega⟩
  clear h hd1 hd2 hy hyl hv hsl hκ
  go_enter Try.func16, Try.ntmps16
  go_upto_region 1 with fail
  have HBD : Hid (Below w.heap.size w w.drew) := (Below.refl _ _).drew
  have BY := dbytes_any (HDD.out.1.below HBD.out (Nat.le_refl _)) y HVV.out.1 HVV.out.2.1
  refine wp_region_held_drew (S := (fun _ => True)) (by kernel_rfl) trivial (fun hH => ?_)
  refine takeH (i := 0) (dst := some 10) (v := ?v1) rfl rfl (by kernel_rfl) (by kernel_rfl) (by kernel_rfl) (fun _ _ _ h => h) rfl ?hy1 hH rfl ?rest1
  case hy1 => (intro W hW; (try dsimp only at hW); go_simp; try with_reducible rfl)
  (try simp only [Act.put, List.setIfInBounds_toArray, List.set_cons_zero, List.set_cons_succ])
  refine takeH (i := 3) (dst := some 13) (v := ?v2) rfl rfl (by kernel_rfl) (by kernel_rfl) (by kernel_rfl) (fun _ _ _ h => h) rfl ?hy2 hH rfl ?rest2
  case hy2 => (intro W hW; (try dsimp only at hW); go_simp; try with_reducible rfl)
  (try simp only [Act.put, List.setIfInBounds_toArray, List.set_cons_zero, List.set_cons_succ])
  refine callH (i := 1) { dst := some 11, op := Go.Op.call { callee := Go.Callee.value (Go.Operand.func 41), args := #[Go.Operand.tmp 10], argTypes := #[24] }, type := 39, pos := "law.go:75", after := #[{ on := 0, ground := Go.Ground.data }], guard := none } (by kernel_rfl) rfl rfl (fun K hK => ?_)
  go_simp
  refine BY.mono ?_
  clear BY
  rintro r w6 ⟨e1, rfl, hk1, _, hb6⟩
  have HB6 : Hid (Below w.heap.size w w6) := HBD.out.trans (hb6.mono HBD.out.size)
  have HY1 : Hid (Src w6 (some ⟨e1, 0, none⟩) ((List.range n).flatMap y)) := hk1.src
  have hl1 : n * 256 = ((List.range n).flatMap y).length := by rw [flat_length y HVV.out.2.1]
  have t1 := conv_str HY1.out (n * 256) (n * 256) hl1
  have BZ := rbytesd_any (HDD.out.2.below HB6.out) y (fun i hi => ⟨(σ.ws i).length, by rw [HVV.out.2.2.1 i hi]; rfl, by rw [HVV.out.2.2.1 i hi, lastOf_at, ← HVV.out.1 i hi]⟩) HVV.out.2.1
  have HLY : Hid (n * 256 = ((List.range n).flatMap y).length) := hl1
  clear hk1 hb6 hl1
  clear hH
  refine hK.out _ _ trivial (fun hH => ?_)
  clear hK K
  (try simp only [Act.put, List.setIfInBounds_toArray, List.set_cons_zero, List.set_cons_succ])
  refine wpAnyH_sub (T := fun W => Sem.run Try.prog (convert 39 9 (.slice (some ⟨e1, 0, none⟩) (n * 256) (n * 256))) W = .ok (.string (str ((List.range n).flatMap y))) W) (fun _ _ => trivial) _ _ _ _ ?_
  replace hH := t1
  clear t1
  refine takeH (i := 2) (dst := some 12) (v := ?v3) rfl rfl (by kernel_rfl) (by kernel_rfl) (by kernel_rfl) (fun _ _ _ h => h) rfl ?hy3 hH rfl ?rest3
  case hy3 => (intro W hW; have e1' := hW; clear hW; go_simp; try with_reducible rfl)
  (try simp only [Act.put, List.setIfInBounds_toArray, List.set_cons_zero, List.set_cons_succ])
  refine callH (i := 4) { dst := some 14, op := Go.Op.call { callee := Go.Callee.value (Go.Operand.func 42), args := #[Go.Operand.tmp 13], argTypes := #[28] }, type := 39, pos := "law.go:75", after := #[{ on := 3, ground := Go.Ground.data }, { on := 1, ground := Go.Ground.chain }], guard := none } (by kernel_rfl) rfl rfl (fun K hK => ?_)
  go_simp
  refine BZ.mono ?_
  clear BZ
  rintro r w7 ⟨v7, rfl, hO7, hb7⟩
  obtain ⟨e2, c7, rfl, hs7, _⟩ := hO7.form
  rw [← HLY.out] at hO7 ⊢
  have HB7 : Hid (Below w.heap.size w w7) := HB6.out.trans (hb7.mono HB6.out.size)
  have HY2 : Hid (Src w7 e2 ((List.range n).flatMap y)) := hs7
  have t1 := conv_str (HY1.out.below hb7 (Nat.le_refl _)) (n * 256) (n * 256) HLY.out
  have t2 := conv_str HY2.out (n * 256) c7 HLY.out
  have OA := open_any (HDD.out.1.below HB7.out (Nat.le_refl _))
  have HY3 : Hid (Src w7 (some ⟨e1, 0, none⟩) ((List.range n).flatMap y)) := HY1.out.below hb7 (Nat.le_refl _)
  clear hO7 hb7 hs7
  clear hH
  refine hK.out _ _ t1 (fun hH => ?_)
  clear hK K
  (try simp only [Act.put, List.setIfInBounds_toArray, List.set_cons_zero, List.set_cons_succ])
  refine wpAnyH_sub (T := fun W => Sem.run Try.prog (convert 39 9 (.slice (some ⟨e1, 0, none⟩) (n * 256) (n * 256))) W = .ok (.string (str ((List.range n).flatMap y))) W ∧ Sem.run Try.prog (convert 39 9 (.slice e2 (n * 256) c7)) W = .ok (.string (str ((List.range n).flatMap y))) W) (fun _ h => h.1) _ _ _ _ ?_
  replace hH := And.intro hH t2
  clear t1 t2
  refine takeH (i := 5) (dst := some 15) (v := ?v4) rfl rfl (by kernel_rfl) (by kernel_rfl) (by kernel_rfl) (fun _ _ _ h => h) rfl ?hy4 hH rfl ?rest4
  case hy4 => (intro W hW; obtain ⟨_, e2'⟩ := hW; go_simp; try with_reducible rfl)
  (try simp only [Act.put, List.setIfInBounds_toArray, List.set_cons_zero, List.set_cons_succ])
  refine takeH (i := 6) (dst := some 16) (v := ?v5) rfl rfl (by kernel_rfl) (by kernel_rfl) (by kernel_rfl) (fun _ _ _ h => h) rfl ?hy5 hH rfl ?rest5
  case hy5 => (intro W hW; (try dsimp only at hW); go_simp; try with_reducible rfl)
  (try simp only [Act.put, List.setIfInBounds_toArray, List.set_cons_zero, List.set_cons_succ])
  refine takeH (i := 7) (dst := some 17) (v := ?v6) rfl rfl (by kernel_rfl) (by kernel_rfl) (by kernel_rfl) (fun _ _ _ h => h) rfl ?hy6 hH rfl ?rest6
  case hy6 => (intro W hW; (try dsimp only at hW); go_simp; try with_reducible rfl)
  (try simp only [Act.put, List.setIfInBounds_toArray, List.set_cons_zero, List.set_cons_succ])
  refine takeH (i := 8) (dst := some 18) (v := ?v7) rfl rfl (by kernel_rfl) (by kernel_rfl) (by kernel_rfl) (fun _ _ _ h => h) rfl ?hy7 hH rfl ?rest7
  case hy7 => (intro W hW; (try dsimp only at hW); go_simp; try with_reducible rfl)
  (try simp only [Act.put, List.setIfInBounds_toArray, List.set_cons_zero, List.set_cons_succ])
  refine takeH (i := 10) (dst := some 20) (v := ?v8) rfl rfl (by kernel_rfl) (by kernel_rfl) (by kernel_rfl) (fun _ _ _ h => h) rfl ?hy8 hH rfl ?rest8
  case hy8 => (intro W hW; (try dsimp only at hW); go_simp; try with_reducible rfl)
  (try simp only [Act.put, List.setIfInBounds_toArray, List.set_cons_zero, List.set_cons_succ])
  refine callH (i := 9) { dst := some 19, op := Go.Op.call { callee := Go.Callee.value (Go.Operand.func 43), args := #[Go.Operand.tmp 18], argTypes := #[24] }, type := 43, pos := "law.go:75", after := #[{ on := 8, ground := Go.Ground.data }, { on := 7, ground := Go.Ground.chain }, { on := 7, ground := Go.Ground.guard }], guard := some (7, false) } (by kernel_rfl) rfl rfl (fun K hK => ?_)
  go_simp
  refine OA.mono ?_
  clear OA
  rintro r w8 ⟨v8, rfl, hO8, hb8⟩
  have HC8 : Hid (Below w7.heap.size w7 w8) := hb8
  obtain ⟨i8, c8, rfl, hs8⟩ := own_nt hO8
  have HI8 : Hid (SrcI w8 i8 ((openL σ.ws n).map fun k : Nat => (k : Int))) := hs8
  have HB8 : Hid (Below w.heap.size w w8) := HB7.out.trans (hb8.mono HB7.out.size)
  have OB := rdopen_any (HDD.out.2.below HB8.out) σ.ws (fun i hi => by rw [HVV.out.2.2.1 i hi]; rfl)
  have t1 : Sem.run Try.prog (convert 39 9 (.slice (some ⟨e1, 0, none⟩) (n * 256) (n * 256))) w8 = .ok (.string (str ((List.range n).flatMap y))) w8 ∧ Sem.run Try.prog (convert 39 9 (.slice e2 (n * 256) c7)) w8 = .ok (.string (str ((List.range n).flatMap y))) w8 := ⟨conv_str (HY3.out.below HC8.out (Nat.le_refl _)) _ _ HLY.out, conv_str (HY2.out.below HC8.out (Nat.le_refl _)) _ _ HLY.out⟩
  clear hO8 hb8 hs8
  clear hH
  refine hK.out _ _ t1 (fun hH => ?_)
  clear hK K
  (try simp only [Act.put, List.setIfInBounds_toArray, List.set_cons_zero, List.set_cons_succ])
  clear t1
  refine callH (i := 11) { dst := some 21, op := Go.Op.call { callee := Go.Callee.value (Go.Operand.func 44), args := #[Go.Operand.tmp 20], argTypes := #[28] }, type := 43, pos := "law.go:75", after := #[{ on := 10, ground := Go.Ground.data }, { on := 9, ground := Go.Ground.chain }, { on := 7, ground := Go.Ground.guard }], guard := some (7, false) } (by kernel_rfl) rfl rfl (fun K hK => ?_)
  go_simp
  refine OB.mono ?_
  clear OB
  rintro r w9 ⟨v9, rfl, hO9, hb9⟩
  have HC9 : Hid (Below w7.heap.size w7 w9) := HC8.out.trans (hb9.mono HC8.out.size)
  obtain ⟨i9, c9, rfl, hs9⟩ := own_nt hO9
  have HB9 : Hid (Below w.heap.size w w9) := HB8.out.trans (hb9.mono HB8.out.size)
  have IN := eqInts_any (HI8.out.below hb9 (Nat.le_refl _)) hs9 (by have := openL_len σ.ws n; simp; omega) c8 c9
  rw [List.length_map] at IN
  have t1 : Sem.run Try.prog (convert 39 9 (.slice (some ⟨e1, 0, none⟩) (n * 256) (n * 256))) w9 = .ok (.string (str ((List.range n).flatMap y))) w9 ∧ Sem.run Try.prog (convert 39 9 (.slice e2 (n * 256) c7)) w9 = .ok (.string (str ((List.range n).flatMap y))) w9 := ⟨conv_str (HY3.out.below HC9.out (Nat.le_refl _)) _ _ HLY.out, conv_str (HY2.out.below HC9.out (Nat.le_refl _)) _ _ HLY.out⟩
  clear hO9 hb9 hs9
  clear hH
  refine hK.out _ _ t1 (fun hH => ?_)
  clear hK K
  (try simp only [Act.put, List.setIfInBounds_toArray, List.set_cons_zero, List.set_cons_succ])
  clear t1
  refine callH (i := 12) { dst := some 22, op := Go.Op.call { callee := Go.Callee.value (Go.Operand.func 11), args := #[Go.Operand.tmp 19, Go.Operand.tmp 21], argTypes := #[43, 43] }, type := 4, pos := "law.go:75", after := #[{ on := 9, ground := Go.Ground.data }, { on := 11, ground := Go.Ground.data }, { on := 11, ground := Go.Ground.chain }, { on := 7, ground := Go.Ground.guard }], guard := some (7, false) } (by kernel_rfl) rfl rfl (fun K hK => ?_)
  go_simp
  refine IN.mono ?_
  clear IN
  rintro r w10 ⟨rfl, hb10⟩
  have HC10 : Hid (Below w7.heap.size w7 w10) := HC9.out.trans (hb10.mono HC9.out.size)
  have HBE2 : Hid (Below w.heap.size w w10) := HB9.out.trans (hb10.mono HB9.out.size)
  have t1 : Sem.run Try.prog (convert 39 9 (.slice (some ⟨e1, 0, none⟩) (n * 256) (n * 256))) w10 = .ok (.string (str ((List.range n).flatMap y))) w10 ∧ Sem.run Try.prog (convert 39 9 (.slice e2 (n * 256) c7)) w10 = .ok (.string (str ((List.range n).flatMap y))) w10 := ⟨conv_str (HY3.out.below HC10.out (Nat.le_refl _)) _ _ HLY.out, conv_str (HY2.out.below HC10.out (Nat.le_refl _)) _ _ HLY.out⟩
  clear hb10
  clear hH
  refine hK.out _ _ t1 (fun hH => ?_)
  clear hK K
  (try simp only [Act.put, List.setIfInBounds_toArray, List.set_cons_zero, List.set_cons_succ])
  clear t1
  refine takeH (i := 13) (dst := some 23) (v := ?v9) rfl rfl (by kernel_rfl) (by kernel_rfl) (by kernel_rfl) (fun _ _ _ h => h) rfl ?hy9 hH rfl ?rest9
  case hy9 => (intro W hW; (try dsimp only at hW); go_simp; try with_reducible rfl)
  (try simp only [Act.put, List.setIfInBounds_toArray, List.set_cons_zero, List.set_cons_succ])
  refine takeH (i := 14) (dst := some 24) (v := ?v10) rfl rfl (by kernel_rfl) (by kernel_rfl) (by kernel_rfl) (fun _ _ _ h => h) rfl ?hy10 hH rfl ?rest10
  case hy10 => (intro W hW; (try dsimp only at hW); go_simp; try with_reducible rfl)
  (try simp only [Act.put, List.setIfInBounds_toArray, List.set_cons_zero, List.set_cons_succ])
  refine wpAnyH_done (by kernel_rfl) ?_ _
  clear hH
  go_wp2_with fail
  go_loopg [5, 6, 7, 8, 9] 8 (fun gg t5 _ _ _ _ W => ∃ (g2 : World) (j : Nat), g2 = W ∧ j ≤ n ∧ n - j ≤ gg ∧ t5 = .int .i64 j ∧ Hid (Below w.heap.size w g2))
  case atStart => exact ⟨_, 0, rfl, by omega, by omega, rfl, HBE2⟩
  case round =>
    clear HBE2
    obtain ⟨g2, j, rfl, hj, hgj, rfl, HB2⟩ := hrel
    have e0 := (HDD.out.2.below HB2.out).at'.c0
    by_cases hj6 : (j : Int) < (n : Int)
    · have SA := safe_any (HDD.out.1.below HB2.out (Nat.le_refl _)) j (by omega)
      go_wp2_with (first | (go_at_call 45; refine Hid.out ?_))
      change Calls _ _ _ _ _
      refine SA.mono ?_
      clear SA e0
      rintro r g3 ⟨e1, rfl, hk1, _, hb3⟩
      have HB3 : Hid (Below w.heap.size w g3) := HB2.out.trans (hb3.mono HB2.out.size)
      have HS1 : Hid (Src g3 (some ⟨e1, 0, none⟩) (σ.sf j)) := hk1.src
      have SB := rsafe_in (HDD.out.2.below HB3.out).at' j (by omega) (σ.sf j) (by rw [HVV.out.2.2.1 j (by omega)]; rfl)
      rw [HVV.out.2.2.2.1 j (by omega)] at SB
      clear hk1 hb3
      go_wp2_with (first | (go_at_call 46; refine Hid.out ?_))
      change Calls _ _ _ _ _
      refine SB.mono ?_
      clear SB
      rintro r g4 ⟨e2, c2, rfl, hs2, hb4⟩
      have HB4 : Hid (Below w.heap.size w g4) := HB3.out.trans (hb4.mono HB3.out.size)
      have t1 := conv_str (HS1.out.below hb4 (Nat.le_refl _)) 256 256 (HVV.out.2.2.2.1 j (by omega)).symm
      have t2 := conv_str hs2 256 c2 (HVV.out.2.2.2.1 j (by omega)).symm
      have WA := writes_any (HDD.out.1.below HB4.out (Nat.le_refl _)) j (by omega)
      have WB := rwrites_in (HDD.out.2.below HB4.out).at' j (by omega)
      rw [show (((ver j).length : Int) - 1) = ((σ.ws j).length : Int) by rw [HVV.out.2.2.1 j (by omega)]; simp] at WB
      generalize str (σ.sf j) = S1 at *
      clear hs2 hb4
      go_wp2_with (first | (go_at_call 47; refine WA.mono ?_; rintro r w9 ⟨rfl, hw9⟩; obtain rfl : g4 = w9 := hw9.symm) | (go_at_call 48; refine WB.mono ?_; rintro r w9 ⟨rfl, hw9⟩; obtain rfl : g4 = w9 := hw9.symm))
      go_roundg (n - (j + 1))
      case measure => omega
      case rel => exact ⟨_, j + 1, rfl, by omega, by omega, by go_num, HB4⟩
    · go_wp2_with fail
      go_ret
      exact ⟨rfl, HB2.out⟩
end
end Go.Proofs.Ytikpnfnbmbaljaa
