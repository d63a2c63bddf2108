/- Package cache: New, Held, Dirty. -/
import Derived.Test.YtglmbihahldfcaaCsort
namespace Go.Proofs.Ytglmbihahldfcaa
open Go.RowKit
set_option maxRecDepth 100000
/-- 'make' of n numbers. -/
theorem make_ints (w : World) (n : Nat) (hn : n ≤ 1000000) :
    (Instr.makeSlice 43 (.int .i64 (n : Int)) (.int .i64 (n : Int))).run Try.prog w = .ok (.slice (some ⟨w.heap.size, 0, none⟩) n n) (w.alloc (.cells (ivs (List.replicate n 0)).toArray 3)) := by
  obtain ⟨i0, hi, hz0, hz1, hz2⟩ := info_parts Try.infoI
  have h := run_make (P := Try.prog) w 43 3 i0 _ Try.underlying43 hi hz0 .i64 .i64 (n : Int) (n : Int) (by omega) (by omega) (by rw [hz2]; omega) (by omega)
  rw [h]
  congr 3
  have e : madeCells (Value.int IntKind.i64 0).cells ((n : Int).toNat * i0.size) = (ivs (List.replicate n 0)).toArray := by
    apply Array.toList_inj.1
    rw [hz1, Int.toNat_natCast, Nat.mul_one]
    rw [show ivs (List.replicate n 0) = List.replicate n (Value.int .i64 0) by simp [ivs]]
    exact toList_madeCells_one _ _
  rw [e]
theorem RowI.own {w : World} {g base : Nat} {l : List Int} (h : RowI w g 3 l) (hb : base ≤ g) (hl : l.length ≤ 1000000) : OwnI w base (.slice (some ⟨g, 0, none⟩) l.length l.length) l :=
  ⟨by simp [ivs_length], .inr ⟨g, l.length, _, rfl, hb, h, Nat.le_refl _, by unfold maxLen; omega, by simp [ivs_length], by rw [Nat.mul_one, List.take_of_length_le (by simp [ivs_length])]⟩⟩
/-- The first k of some numbers, 0 behind. -/
def pre0 (M : List Int) (k : Nat) : List Int := M.take k ++ List.replicate (M.length - k) 0
theorem pre0_length (M : List Int) {k : Nat} (hk : k ≤ M.length) : (pre0 M k).length = M.length := by simp [pre0]; omega
theorem pre0_set (M : List Int) {k : Nat} (hk : k < M.length) : (pre0 M k).set k (M.getD k 0) = pre0 M (k + 1) := by
  unfold pre0
  have e : M.getD k 0 = M[k] := by simp [hk]
  rw [List.set_append_right _ _ (by simp; omega), show M.length - k = (M.length - (k + 1)) + 1 by omega, List.replicate_succ, e]
  simp [Nat.min_eq_left (Nat.le_of_lt hk)]
  rw [List.take_succ_eq_append_getElem hk, List.append_assoc]
  rfl
theorem pre0_last (M : List Int) : pre0 M M.length = M := by simp [pre0]
theorem pre0_zero (M : List Int) : pre0 M 0 = List.replicate M.length 0 := by simp [pre0]
section
variable {w w' : World} {base : Nat} {σ : CSt}
set_option maxHeartbeats 2000000 in
theorem held_any (h : CS w base σ (nums σ.L)) (hlen : (σ.L.length : Int) ≤ 4096) :
    Calls Try.prog 15 #[.pointer (some ⟨σ.p, 0, none⟩)] w fun r w' => ∃ v, r = .returned v ∧ OwnI w' w.heap.size v (nums σ.L) ∧ Below w.heap.size w w' := by
  obtain ⟨ao, cap, hov, hlc, hcm, hrow⟩ := h.row
  have q3 := h.c3
  rw [hov] at q3
  obtain ⟨N, hN⟩ : ∃ N, N = nums σ.L := ⟨_, rfl⟩
  have HNL : Hid (N.length = σ.L.length) := by rw [hN]; exact nums_length _
  have HCELL : Hid (0 < N.length → ∃ g, ao = some ⟨g, 0, none⟩ ∧ ∀ W, CS W base σ (nums σ.L) → ∀ k, k < N.length → W.cell? ⟨g, k, none⟩ = some (.int .i64 (N.getD k 0))) := fun hp => by
    rw [HNL.out] at hp
    obtain ⟨g, h1, h2⟩ := hrow hp
    refine ⟨g, h1, fun W hW k hk => ?_⟩
    rw [HNL.out] at hk
    rw [hN, nums_getD _ _ hk]
    exact h2 W hW k hk
  have hmk : (Instr.makeSlice 43 (.int .i64 (N.length : Int)) (.int .i64 (N.length : Int))).run Try.prog w = .ok (.slice (some ⟨w.heap.size, 0, none⟩) N.length N.length) (w.alloc (.cells (ivs (pre0 N 0)).toArray 3)) := by rw [pre0_zero]; exact make_ints w N.length (by rw [HNL.out]; omega)
  rw [← HNL.out] at q3 hlen hlc
  have hb0 : Below w.heap.size w (w.alloc (.cells (ivs (pre0 N 0)).toArray 3)) := (Below.refl _ _).alloc (Nat.le_refl _) _
  have HR0 : Hid (RowI (w.alloc (.cells (ivs (pre0 N 0)).toArray 3)) w.heap.size 3 (pre0 N 0)) := heap_alloc_new _ _
  have HB0 : Hid (Below w.heap.size w (w.alloc (.cells (ivs (pre0 N 0)).toArray 3))) := hb0
  have HCS : Hid (CS w base σ (nums σ.L)) := h
  have q3' := (h.up hb0).c3
  rw [hov, ← HNL.out] at q3'
  rw [← hN]
  clear h hrow hov hb0 hN
  go_enter Try.func15, Try.ntmps15
  go_wp2
  generalize w.alloc (.cells (ivs (pre0 N 0)).toArray 3) = w0 at *
  clear hmk
  go_loopw [19] (fun t wr => ∃ k : Nat, k ≤ N.length ∧ t = .int .i64 k ∧ Hid (RowI wr w.heap.size 3 (pre0 N k)) ∧ Hid (Below w.heap.size w wr)) (fun t _ => N.length - (intOf t).toNat)
  case atStart => exact ⟨0, by omega, rfl, HR0, HB0⟩
  case round =>
    obtain ⟨k, hk, rfl, HR, HB⟩ := hrel
    clear HR0 HB0
    by_cases hlt : (k : Int) < N.length
    · obtain ⟨g, rfl, hcell⟩ := HCELL.out (by omega)
      have c0 := hcell wr (HCS.out.up HB.out) k (by omega)
      have HST : Hid ((pre0 N k).set k (N.getD k 0) = pre0 N (k + 1)) := pre0_set N (by omega)
      have hcz := HR.out.cell k (by rw [pre0_length N hk]; omega)
      have hcf := HR.out.frozen k
      clear hcell
      generalize N.getD k 0 = x at *
      generalize (pre0 N k).getD k 0 = y at *
      go_wp2
      go_roundw
      case rel => exact ⟨k + 1, by omega, by go_num, by have := HR.out.set k x; rw [HST.out] at this; exact this, HB.out.setCell (Nat.le_refl _) _⟩
      case measure => simp [intOf]; omega
    · obtain rfl : k = N.length := by omega
      go_wp2
      go_ret
      have := HR.out
      rw [pre0_last] at this
      exact ⟨_, rfl, this.own (Nat.le_refl _) (by omega), HB.out⟩
/-- The dirty ones. -/
def dl (σ : CSt) : List CE := σ.L.filter (dirtyB σ)
def dlT (σ : CSt) (k : Nat) : List Int := nums ((σ.L.take k).filter (dirtyB σ))
theorem dlT_step (σ : CSt) (k : Nat) (hk : k < σ.L.length) : dlT σ (k + 1) = if dirtyB σ σ.L[k] then dlT σ k ++ [((σ.L[k]).n : Int)] else dlT σ k := by
  unfold dlT
  rw [List.take_succ_eq_append_getElem hk, List.filter_append]
  cases hb : dirtyB σ σ.L[k]
  · simp [hb]
  · simp [hb, nums]
theorem dlT_len (σ : CSt) (k : Nat) : (dlT σ k).length ≤ σ.L.length := by
  unfold dlT
  rw [nums_length]
  exact Nat.le_trans (List.length_filter_le _ _) (by simp; omega)
theorem dlT_last (σ : CSt) : dlT σ σ.L.length = nums (dl σ) := by simp [dlT, dl]
set_option maxHeartbeats 2000000 in
theorem dirtyl_any (h : CS w base σ (nums σ.L)) (hlen : σ.L.length ≤ 12) :
    Calls Try.prog 17 #[.pointer (some ⟨σ.p, 0, none⟩)] w fun r w' => ∃ v Y, r = .returned v ∧ OwnI w' w.heap.size v Y ∧ Up Y Y.length ∧ Y.Perm (nums (dl σ)) ∧ Below w.heap.size w w' := by
  have HD := held_any h (by omega)
  have HCS : Hid (CS w base σ (nums σ.L)) := h
  clear h
  go_enter Try.func17, Try.ntmps17
  go_wp2_with fail
  refine HD.mono ?_
  clear HD
  rintro r w1 ⟨v, rfl, ho1, hb1⟩
  obtain ⟨ah, ch, rfl, hsrc, _, _, _⟩ := ho1.form
  have HC1 : Hid (CS w1 base σ (nums σ.L)) := HCS.out.up hb1
  have HB1 : Hid (Below w.heap.size w w1) := hb1
  have HSRC : Hid (SrcI w1 ah (nums σ.L)) := hsrc
  have HLN : Hid ((nums σ.L).length = σ.L.length) := nums_length _
  rw [HLN.out]
  clear HCS ho1 hb1 hsrc
  go_wp2_with fail
  go_loopw [3, 9] (fun v t wr => ∃ k : Nat, k ≤ σ.L.length ∧ t = .int .i64 k ∧ Hid (OwnI wr w1.heap.size v (dlT σ k)) ∧ Hid (Below w1.heap.size w1 wr)) (fun _ t _ => σ.L.length - (intOf t).toNat)
  case atStart => exact ⟨0, by omega, rfl, OwnI.nil _ _, Below.refl _ _⟩
  case round =>
    obtain ⟨k, hk, rfl, HO, HB⟩ := hrel
    by_cases hlt : (k : Int) < σ.L.length
    · have hkl : k < σ.L.length := by omega
      have hs2 := HSRC.out.below HB.out (Nat.le_refl _)
      rcases hs2 with hs2 | ⟨b, off, rfl, hbl, hc⟩
      · have := HLN.out; rw [hs2] at this; simp at this; omega
      have c0 := hc k (by rw [HLN.out]; exact hkl)
      rw [nums_getD _ _ hkl] at c0
      have DT := dirty_any (HC1.out.up HB.out) (split_at σ.L k hkl)
      have HST : Hid _ := dlT_step σ k hkl
      have HLE : Hid _ := dlT_len σ k
      clear hc
      generalize (σ.L[k]).n = nn at *
      generalize hD : dirtyB σ σ.L[k] = D at *
      clear hD
      cases D
      · rw [if_neg (by simp)] at HST
        go_wp2_with (first | (go_at_call 43; refine DT.mono ?_; rintro r w2 ⟨rfl, k1⟩))
        have HB2 : Hid (Below w1.heap.size w1 w2) := HB.out.trans (k1.mono HB.out.size)
        have HO2 : Hid (OwnI w2 w1.heap.size u3 (dlT σ (k + 1))) := by rw [HST.out]; exact HO.out.below k1 (Nat.le_refl _)
        clear HO HB DT k1
        go_roundw
        case rel => exact ⟨k + 1, by omega, by go_num, HO2, HB2⟩
        case measure => simp [intOf]; omega
      · rw [if_pos rfl] at HST
        go_wp2_with fail
        refine DT.mono ?_
        rintro r w2 ⟨rfl, k1⟩
        have HB2 : Hid (Below w1.heap.size w1 w2) := HB.out.trans (k1.mono HB.out.size)
        have hO2 : OwnI w2 w1.heap.size u3 (dlT σ k) := HO.out.below k1 (Nat.le_refl _)
        have hz2 := HB2.out.size
        have hln : (dlT σ k).length ≤ 1000000 := by have := HLE.out; omega
        clear HO HB DT k1 c0
        go_wp2_with (at_builtin; refine wpList_append_int rfl (.tmp 16) (.tmp 18) rfl w1.heap.size (dlT σ k) (nn : Int) _ rfl _ _ rfl (hO2.below ((Below.refl _ _).alloc (Nat.le_refl _) _) (Nat.le_refl _)) (heap_alloc_new _ _) (by simp; omega) hln ?_; intro v' w3 hO3 hb3)
        rw [← HST.out] at hO3
        have HB3 : Hid (Below w1.heap.size w1 w3) := (HB2.out.alloc hz2 _).trans hb3
        clear hO2
        go_roundw
        case rel => exact ⟨k + 1, by omega, by go_num, hO3, HB3⟩
        case measure => simp [intOf]; omega
    · obtain rfl : k = σ.L.length := by omega
      have hO := HO.out
      rw [dlT_last] at hO
      have hle : (nums (dl σ)).length ≤ 12 := by
        have := dlT_len σ σ.L.length
        rw [dlT_last] at this; omega
      have HBW : Hid (Below w.heap.size w wr) := HB1.out.trans (HB.out.mono HB1.out.size)
      have hsz := HB1.out.size
      rcases hO.2 with ⟨rfl, hl0⟩ | ⟨g, cap, cur, rfl, hg, _⟩
      · have HE : Hid (nums (dl σ) = []) := List.eq_nil_of_length_eq_zero hl0
        have SN := sort_nil wr
        clear hO hle HO HB
        go_wp2_with (first | (go_at_call 44; refine SN.mono ?_; rintro r w9 ⟨rfl, rfl⟩))
        go_ret
        exact ⟨_, [], rfl, OwnI.nil _ _, fun a b h1 h2 => by simp at h2, by rw [HE.out], HBW.out⟩
      · have SA := sort_any w1.heap.size g _ cap (nums (dl σ)) wr hO rfl (by omega)
        clear hO HO HB
        generalize hm : (nums (dl σ)).length = m at *
        have HM : Hid ((nums (dl σ)).length = m) := hm
        clear hm
        go_wp2_with fail
        refine SA.mono ?_
        clear SA
        rintro r w9 ⟨rfl, Y, k1, k2, k3, k4⟩
        have HY : Hid _ := And.intro k1 (And.intro k2 (And.intro k3 k4))
        clear k1 k2 k3 k4
        go_wp2
        go_ret
        have hYl : Y.length = m := by rw [HY.out.2.2.1.length_eq]; exact HM.out
        refine ⟨_, Y, rfl, ?_, by rw [hYl]; exact HY.out.2.1, HY.out.2.2.1, HBW.out.grown HY.out.2.2.2 HBW.out.size (fun k hk => by cases hk; omega)⟩
        exact HY.out.1.mono hsz
set_option maxHeartbeats 1000000 in
theorem cnew_any {dp dn dq : Nat} {en : Bool} {lf : Int} {sf : Nat → List UInt8} {ws : Nat → List (List UInt8)} {vs : Nat → Value} (h : DiskAt w base dp dn en lf sf ws dq vs) (most : Nat) (h1 : 1 ≤ most) (h2 : most ≤ 4096) :
    Calls Try.prog 10 #[.pointer (some ⟨dp, 0, none⟩), .int .i64 (most : Int)] w fun r w' => ∃ p mb, r = .returned (.tuple #[.pointer (some ⟨p, 0, none⟩), .int .i64 0]) ∧ CS w' base ⟨p, mb, 0, .slice none 0 0, most, [], dp, dn, dq, en, lf, sf, ws, vs⟩ [] ∧ w.heap.size ≤ p ∧ w.heap.size ≤ mb ∧ Below w.heap.size w w' := by
  have s1 : ∀ (v : World) (o : Obj), (v.alloc o).heap.size = v.heap.size + 1 := fun v o => by show (v.heap.push o).size = _; simp
  have hb0 : Below w.heap.size w (w.alloc (.map #[] 0)) := (Below.refl _ _).alloc (Nat.le_refl _) _
  have hb1 : Below w.heap.size w ((w.alloc (.map #[] 0)).alloc (.cells #[.pointer (some ⟨dp, 0, none⟩), .int .i64 (most : Int), .map (some w.heap.size), .slice none 0 0] 71)) := hb0.alloc (by rw [s1]; omega) _
  have hp := PMap.made w
  have hrow : ((w.alloc (.map #[] 0)).alloc (.cells #[.pointer (some ⟨dp, 0, none⟩), .int .i64 (most : Int), .map (some w.heap.size), .slice none 0 0] 71)).heap[w.heap.size + 1]? = some (.cells #[.pointer (some ⟨dp, 0, none⟩), .int .i64 (most : Int), .map (some w.heap.size), .slice none 0 0] 71 (0, 0)) := by
    have := heap_alloc_new (w.alloc (.map #[] 0)) (.cells #[.pointer (some ⟨dp, 0, none⟩), .int .i64 (most : Int), .map (some w.heap.size), .slice none 0 0] 71)
    rw [s1] at this; exact this
  have hbs : base ≤ w.heap.size := by have := h.pb; have := h.pl; omega
  have HC : Hid (CS ((w.alloc (.map #[] 0)).alloc (.cells #[.pointer (some ⟨dp, 0, none⟩), .int .i64 (most : Int), .map (some w.heap.size), .slice none 0 0] 71)) base ⟨w.heap.size + 1, w.heap.size, 0, .slice none 0 0, most, [], dp, dn, dq, en, lf, sf, ws, vs⟩ []) := {
    disk := h.below hb1 (Nat.le_refl _)
    c0 := by show World.cell? _ _ = _; rw [cell_of_row _ _ _ _ _ _ hrow]; rfl
    c1 := by show World.cell? _ _ = _; rw [cell_of_row _ _ _ _ _ _ hrow]; rfl
    c2 := by show World.cell? _ _ = _; rw [cell_of_row _ _ _ _ _ _ hrow]; rfl
    c3 := by show World.cell? _ _ = _; rw [cell_of_row _ _ _ _ _ _ hrow]; rfl
    fp := fun o => frozen_of_row _ _ _ _ _ hrow
    ord := OwnN.nil _ _
    map := hp.same (Below.heap_alloc _ _ _ (by rw [s1]; omega))
    blk := fun e he => by cases he
    nd := List.nodup_nil, qd := List.nodup_nil
    pm := by show w.heap.size + 1 ≠ w.heap.size; omega
    po := by show (none : Option Nat) ≠ _; simp
    mo := by show (none : Option Nat) ≠ _; simp
    bq := fun e he => by cases he
    pb := by show base ≤ w.heap.size + 1; omega
    mbb := hbs
    dk := fun k hk hC => by
      have hkl := (h.dk_lt hk).1
      rcases hC with hC | hC | hC | ⟨e, he, _⟩
      · have hC' : k = w.heap.size + 1 := hC
        omega
      · have hC' : k = w.heap.size := hC
        omega
      · have hC' : (none : Option Nat) = some k := hC
        cases hC'
      · cases he
    m1 := ⟨h1, h2⟩ }
  have hmk := run_makeMap (P := Try.prog) 68 w
  have hi1 : (1 : Int) ≤ most := by omega
  have hi2 : (most : Int) ≤ 4096 := by omega
  clear hp hrow h hb0
  go_enter Try.func10, Try.ntmps10
  go_wp2
  go_ret2
  exact ⟨w.heap.size + 1, w.heap.size, rfl, HC.out, by omega, by omega, hb1⟩
end
end Go.Proofs.Ytglmbihahldfcaa
