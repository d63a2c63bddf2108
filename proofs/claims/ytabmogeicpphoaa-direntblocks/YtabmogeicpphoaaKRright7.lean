/- leveeref07.Right. -/
import Derived.Test.YtabmogeicpphoaaJ1
import Derived.Deep.DeepCutAuto
namespace Go.Proofs.Ytabmogeicpphoaa
open Go.RowKit
/-- The first conditions of the document's Right. -/
def b4 (K L S D : Int) : Bool := decide (1 ≤ K ∧ K ≤ 3 ∧ 0 ≤ L ∧ L ≤ 1000 ∧ 0 ≤ S ∧ S ≤ 1066496 ∧ 1 ≤ D ∧ D ≤ 4611686018427387904)
def b5 (K S : Int) : Bool := decide ((K ≠ 2 ∨ S % 256 = 0) ∧ (K ≠ 3 ∨ (1 ≤ S ∧ S ≤ 255)))
def nB (X Y : Int) : Bool := decide (0 ≤ X ∧ X < 4096 ∧ 0 ≤ Y ∧ Y < 4096)
theorem ns_all {ns : List Int} (h : ns.length = 8) : ns.all okN = ((ns.take 6).all okN && nB (ns.getD 6 0) (ns.getD 7 0)) := by
  obtain ⟨a0, a1, a2, a3, a4, a5, a6, a7, rfl⟩ := eight_i h
  simp [okN, nB, Bool.and_assoc, Bool.decide_and]
theorem rt_eq (i : Ino) (hn : i.ns.length = 8) (hk : ¬ i.k = 0) : rtB i = (b4 i.k i.l i.s i.d && b5 i.k i.s && (i.ns.take 6).all okN && nB (i.ns.getD 6 0) (i.ns.getD 7 0)) := by
  rw [rtB, if_neg hk, bndB, ns_all hn]
  generalize (i.ns.take 6).all okN = A
  generalize nB (i.ns.getD 6 0) (i.ns.getD 7 0) = B
  unfold szB lkB b4 b5
  rw [Bool.eq_iff_iff]
  cases A <;> cases B <;> simp
  by_cases h3 : i.k = 3
  · simp [h3]; omega
  · simp [h3]; omega
set_option maxRecDepth 100000 in
set_option maxHeartbeats 4000000 in
theorem rright7_any (i : Ino) (hn : i.ns.length = 8) (w : World) :
    Calls Try.prog 15 #[.agg (iA i)] w fun e w' => e = .returned (.bool (rtB i)) ∧ Below w.heap.size w w' := by
  have hz := zeroI
  have HI : Hid (InoAt (w.alloc (.cells (iA i) 24)) w.heap.size i) := ino_new w i hn
  have hb0 : Below w.heap.size w (w.alloc (.cells (iA i) 24)) := (Below.refl _ _).alloc (Nat.le_refl _) _
  have HN : Hid (i.ns.length = 8) := hn
  have FR : Hid (i.k = 0 → ∀ b, eqI i zino = b → Ending.returned (.bool b) = .returned (.bool (rtB i))) := fun h b hb => by rw [rtB, if_pos h, hb]
  have FB : Hid (∀ h : (¬ i.k = 0), ∀ b, (b4 i.k i.l i.s i.d && b5 i.k i.s && (i.ns.take 6).all okN && nB (i.ns.getD 6 0) (i.ns.getD 7 0)) = b → Ending.returned (.bool b) = .returned (.bool (rtB i))) := fun h b hb => by rw [rt_eq i hn h, hb]
  have HM : Hid (InoAt ((w.alloc (.cells (iA i) 24)).alloc (.cells (iA zino) 24)) (w.alloc (.cells (iA i) 24)).heap.size zino) := ino_new _ zino rfl
  rw [show (w.alloc (.cells (iA i) 24)).heap.size = w.heap.size + 1 by simp] at HM
  have hb1 : Below w.heap.size w ((w.alloc (.cells (iA i) 24)).alloc (.cells (iA zino) 24)) := hb0.alloc (by simp) _
  have HI1 : Hid (InoAt ((w.alloc (.cells (iA i) 24)).alloc (.cells (iA zino) 24)) w.heap.size i) := HI.out.alloc _
  have HB1 : Hid _ := hb1
  clear hn hb0 hb1 HI
  go_enter Try.func15, Try.ntmps15
  go_upto_region 2 with (first | ((with_reducible show wpList _ _ _ ({ dst := _, op := Op.store 24 _ _, type := _, pos := _, after := _, guard := _ } :: _) _ _); refine wpList_store_ino rfl _ _ rfl (HM.out) rfl rfl rfl ?_; intro w1 H1 b1 z1))
  have HI2 : Hid (InoAt w1 w.heap.size i) := HI1.out.below b1 (by omega)
  have HM2 : Hid _ := H1
  have HB2 : Hid (Below w.heap.size w w1) := HB1.out.trans (b1.mono (by omega))
  clear HI1 HB1 HM H1 b1 z1
  have q0 := HI2.out.c0
  have q1 := HI2.out.c1
  have q2 := HI2.out.c2
  have q3 := HI2.out.c3
  obtain ⟨K, HK⟩ : ∃ x, Hid (x = i.k) := ⟨_, rfl⟩
  obtain ⟨L, HL⟩ : ∃ x, Hid (x = i.l) := ⟨_, rfl⟩
  obtain ⟨S, HS⟩ : ∃ x, Hid (x = i.s) := ⟨_, rfl⟩
  obtain ⟨D, HD⟩ : ∃ x, Hid (x = i.d) := ⟨_, rfl⟩
  rw [← HK.out] at q0 FR FB
  rw [← HL.out] at q1 FB
  rw [← HS.out] at q2 FB
  rw [← HD.out] at q3 FB
  by_cases k0 : K = 0
  · go_wp2_with (first | ((with_reducible show wpList _ _ _ ({ dst := _, op := Op.load 24 _, type := _, pos := _, after := _, guard := _ } :: _) _ _); refine wpList_load_ino rfl _ rfl (HI2.out) rfl ?_) | ((with_reducible show wpList _ _ _ ({ dst := _, op := Op.load 24 _, type := _, pos := _, after := _, guard := _ } :: _) _ _); refine wpList_load_ino rfl _ rfl (HM2.out) rfl ?_) | ((with_reducible show wpList _ _ _ ({ dst := _, op := Op.binOp BinOp.eql 24 _ _ 24, type := _, pos := _, after := _, guard := _ } :: _) _ _); refine wpList_eq_ino rfl _ _ rfl rfl rfl HN.out rfl rfl ?_))
    go_ret
    exact ⟨FR.out k0 _ rfl, HB2.out⟩
  go_upto_region 4 with fail
  go_cut [4] (fun s4 wc => s4 = .bool (b4 K L S D) ∧ wc = w1)
  case first =>
    by_cases g0 : K < 1
    · have d0 : decide (1 ≤ K) = false := by simp; omega
      go_wp2
      go_meet
      case rel => exact ⟨congrArg Value.bool (show _ = b4 K L S D by unfold b4; simp; omega), rfl⟩
    have d0 : 1 ≤ K := by omega
    clear g0
    by_cases g1 : 3 < K
    · have d1 : decide (K ≤ 3) = false := by simp; omega
      go_wp2
      go_meet
      case rel => exact ⟨congrArg Value.bool (show _ = b4 K L S D by unfold b4; simp; omega), rfl⟩
    have d1 : K ≤ 3 := by omega
    clear g1
    by_cases g2 : L < 0
    · have d2 : decide (0 ≤ L) = false := by simp; omega
      go_wp2
      go_meet
      case rel => exact ⟨congrArg Value.bool (show _ = b4 K L S D by unfold b4; simp; omega), rfl⟩
    have d2 : 0 ≤ L := by omega
    clear g2
    by_cases g3 : 1000 < L
    · have d3 : decide (L ≤ 1000) = false := by simp; omega
      go_wp2
      go_meet
      case rel => exact ⟨congrArg Value.bool (show _ = b4 K L S D by unfold b4; simp; omega), rfl⟩
    have d3 : L ≤ 1000 := by omega
    clear g3
    by_cases g4 : S < 0
    · have d4 : decide (0 ≤ S) = false := by simp; omega
      go_wp2
      go_meet
      case rel => exact ⟨congrArg Value.bool (show _ = b4 K L S D by unfold b4; simp; omega), rfl⟩
    have d4 : 0 ≤ S := by omega
    clear g4
    by_cases g5 : 1066496 < S
    · have d5 : decide (S ≤ 1066496) = false := by simp; omega
      go_wp2
      go_meet
      case rel => exact ⟨congrArg Value.bool (show _ = b4 K L S D by unfold b4; simp; omega), rfl⟩
    have d5 : S ≤ 1066496 := by omega
    clear g5
    by_cases g6 : D < 1
    · have d6 : decide (1 ≤ D) = false := by simp; omega
      go_wp2
      go_meet
      case rel => exact ⟨congrArg Value.bool (show _ = b4 K L S D by unfold b4; simp; omega), rfl⟩
    have d6 : 1 ≤ D := by omega
    clear g6
    by_cases g7 : 4611686018427387904 < D
    · have d7 : decide (D ≤ 4611686018427387904) = false := by simp; omega
      go_wp2
      go_meet
      case rel => exact ⟨congrArg Value.bool (show _ = b4 K L S D by unfold b4; simp; omega), rfl⟩
    have d7 : D ≤ 4611686018427387904 := by omega
    clear g7
    go_wp2
    go_meet
    case rel => exact ⟨congrArg Value.bool (show _ = b4 K L S D by unfold b4; simp; omega), rfl⟩
  case rest =>
    obtain ⟨rfl, hwc⟩ := hcut
    rw [hwc]
    clear hwc
    clear wc
    generalize b4 K L S D = B4 at *
    go_upto_region 5 with fail
    go_cut [4] (fun s4 wc => s4 = .bool (B4 && b5 K S) ∧ wc = w1)
    case first =>
      cases B4
      · go_wp2
        go_meet
        case rel => exact ⟨rfl, rfl⟩
      by_cases k2 : K = 2
      · by_cases s2 : S.tmod 256 = 0
        · have s2' := emod_tmod s2
          go_wp2
          go_meet
          case rel => exact ⟨congrArg Value.bool (show _ = (true && b5 K S) by unfold b5; simp [k2, s2']), rfl⟩
        · have s2' : ¬ S % 256 = 0 := fun h => s2 (tmod_emod h)
          go_wp2
          go_meet
          case rel => exact ⟨congrArg Value.bool (show _ = (true && b5 K S) by unfold b5; simp [k2, s2']), rfl⟩
      by_cases k3 : K = 3
      · by_cases s0 : S < 1
        · have d0 : decide (1 ≤ S) = false := by simp; omega
          go_wp2
          go_meet
          case rel => exact ⟨congrArg Value.bool (show _ = (true && b5 K S) by unfold b5; simp [k3]; omega), rfl⟩
        have d0 : 1 ≤ S := by omega
        by_cases s1 : 255 < S
        · have d1 : decide (S ≤ 255) = false := by simp; omega
          go_wp2
          go_meet
          case rel => exact ⟨congrArg Value.bool (show _ = (true && b5 K S) by unfold b5; simp [k3]; omega), rfl⟩
        · have d1 : S ≤ 255 := by omega
          go_wp2
          go_meet
          case rel => exact ⟨congrArg Value.bool (show _ = (true && b5 K S) by unfold b5; simp [k3]; omega), rfl⟩
      · skip
        go_wp2
        go_meet
        case rel => exact ⟨congrArg Value.bool (show _ = (true && b5 K S) by unfold b5; simp [k2, k3]), rfl⟩
    case rest =>
      obtain ⟨rfl, hwc⟩ := hcut
      rw [hwc]
      clear hwc
      clear wc
      generalize (B4 && b5 K S) = B5 at *
      go_wp2
      go_loop [4, 5] (fun t u => ∃ k : Nat, k ≤ 6 ∧ u = .int .i64 k ∧ t = .bool (B5 && (i.ns.take k).all okN)) (fun _ u => 6 - (intOf u).toNat)
      case atStart => exact ⟨0, by omega, rfl, by simp⟩
      case round =>
        obtain ⟨k, hk, rfl, rfl⟩ := hrel
        by_cases hlt : (k : Int) < 6
        · have hx := HI2.out.name k (by omega)
          have HS6 : Hid _ := all_step (l := i.ns) (k := k) (by rw [HN.out]; omega)
          generalize i.ns.getD k 0 = x at hx HS6
          generalize (i.ns.take k).all okN = A at HS6 ⊢
          cases B5
          · go_wp2
            go_round
            case rel => exact ⟨k + 1, by omega, by go_num, by simp⟩
            case measure => simp [intOf]; omega
          cases A
          · go_wp2
            go_round
            case rel => exact ⟨k + 1, by omega, by go_num, by rw [HS6.out]; simp⟩
            case measure => simp [intOf]; omega
          by_cases x0 : x < 0
          · have d0 : decide (0 ≤ x) = false := by simp; omega
            go_wp2
            go_round
            case rel => exact ⟨k + 1, by omega, by go_num, by rw [HS6.out]; simp [okN]; omega⟩
            case measure => simp [intOf]; omega
          have x0' : 0 ≤ x := by omega
          by_cases x1 : 4096 ≤ x
          · have d0 : decide (x < 4096) = false := by simp; omega
            go_wp2
            go_round
            case rel => exact ⟨k + 1, by omega, by go_num, by rw [HS6.out]; simp [okN]; omega⟩
            case measure => simp [intOf]; omega
          · have x1' : x < 4096 := by omega
            go_wp2
            go_round
            case rel => exact ⟨k + 1, by omega, by go_num, by rw [HS6.out]; simp [okN]; omega⟩
            case measure => simp [intOf]; omega
        · obtain rfl : k = 6 := by omega
          have qx : w1.cell? ⟨w.heap.size, 10, none⟩ = some (.int .i64 (i.ns.getD 6 0)) := HI2.out.name 6 (by omega)
          have qy : w1.cell? ⟨w.heap.size, 11, none⟩ = some (.int .i64 (i.ns.getD 7 0)) := HI2.out.name 7 (by omega)
          generalize i.ns.getD 6 0 = X at *
          generalize i.ns.getD 7 0 = Y at *
          generalize (B5 && (i.ns.take 6).all okN) = B6 at *
          have FB' := FB.out k0
          clear FB
          have FBH : Hid _ := FB'
          clear FB'
          cases B6
          · go_wp2
            go_ret
            exact ⟨FBH.out _ rfl, HB2.out⟩
          by_cases g0 : X < 0
          · have d0 : decide (0 ≤ X) = false := by simp; omega
            go_wp2
            go_ret
            exact ⟨FBH.out _ (by unfold nB; simp; omega), HB2.out⟩
          have d0 : 0 ≤ X := by omega
          clear g0
          by_cases g1 : 4096 ≤ X
          · have d1 : decide (X < 4096) = false := by simp; omega
            go_wp2
            go_ret
            exact ⟨FBH.out _ (by unfold nB; simp; omega), HB2.out⟩
          have d1 : X < 4096 := by omega
          clear g1
          by_cases g2 : Y < 0
          · have d2 : decide (0 ≤ Y) = false := by simp; omega
            go_wp2
            go_ret
            exact ⟨FBH.out _ (by unfold nB; simp; omega), HB2.out⟩
          have d2 : 0 ≤ Y := by omega
          clear g2
          by_cases g3 : 4096 ≤ Y
          · have d3 : decide (Y < 4096) = false := by simp; omega
            go_wp2
            go_ret
            exact ⟨FBH.out _ (by unfold nB; simp; omega), HB2.out⟩
          have d3 : Y < 4096 := by omega
          clear g3
          go_wp2
          go_ret
          exact ⟨FBH.out _ (by unfold nB; simp; omega), HB2.out⟩
end Go.Proofs.Ytabmogeicpphoaa
