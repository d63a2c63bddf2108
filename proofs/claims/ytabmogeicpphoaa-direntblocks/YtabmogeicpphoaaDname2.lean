/- dirent.Name, leveeref08.Name: the walks. -/
import Derived.Test.YtabmogeicpphoaaDname
namespace Go.Proofs.Ytabmogeicpphoaa
open Go.RowKit
theorem str_beqD (a b : List UInt8) : ((str a).toList == (str b).toList) = (a == b) := by
  rw [Bool.eq_iff_iff]
  constructor
  · intro h
    have h2 := beq_iff_eq.1 h
    have : a = b := by
      apply str_inj
      rw [ByteArray.toList_eq, ByteArray.toList_eq] at h2
      exact WideShapes.bytes_inj h2
    simp [this]
  · intro h
    rw [beq_iff_eq.1 h]; simp
theorem str_toList (l : List UInt8) : (str l).toList = l := by rw [ByteArray.toList_eq]; rfl
theorem str_dot (l : List UInt8) : ((str l).toList == [46]) = (l == [46]) := by rw [str_toList]
theorem str_dots (l : List UInt8) : ((str l).toList == [46, 46]) = (l == [46, 46]) := by rw [str_toList]
theorem iter_below (w : World) (s : ByteArray) (p : Nat) : Below w.heap.size w (w.iter s p) := (Below.refl _ _).alloc (Nat.le_refl _) _
theorem nm_no {l : List UInt8} (h : nmB l = false) : Ending.returned (.bool false) = .returned (.bool (nmB l)) := by rw [h]
theorem nm_yes {l : List UInt8} (h : nmB l = true) : Ending.returned (.bool true) = .returned (.bool (nmB l)) := by rw [h]
set_option maxHeartbeats 2000000 in
theorem dname_any (l : List UInt8) (w : World) :
    Calls Try.prog 34 #[.string (str l)] w fun e w' => e = .returned (.bool (nmB l)) ∧ Below w.heap.size w w' := by
  have hsz := str_size l
  have e1 := str_dot l
  have e2 := str_dots l
  by_cases h0 : (l.length : Int) < 1
  · go_enter Try.func34, Try.ntmps34
    go_wp2
    go_ret
    exact ⟨nm_no (by unfold nmB; simp; omega), Below.refl _ _⟩
  by_cases h1 : (24 : Int) < l.length
  · go_enter Try.func34, Try.ntmps34
    go_wp2
    go_ret
    exact ⟨nm_no (by unfold nmB; simp; omega), Below.refl _ _⟩
  have HL : Hid (1 ≤ l.length ∧ l.length ≤ 24) := ⟨by omega, by omega⟩
  cases hd : (l == [46])
  · cases hdd : (l == [46, 46])
    · rw [hd] at e1
      rw [hdd] at e2
      have HD : Hid ((l == [46]) = false ∧ (l == [46, 46]) = false) := ⟨hd, hdd⟩
      clear hd hdd
      go_enter Try.func34, Try.ntmps34
      go_wp2
      go_loopw [4] (fun _ wr => ∃ pos : Nat, wr = w.iter (str l) pos ∧ pos ≤ l.length ∧ Hid ((l.take pos).all okC = true)) (fun _ wr => l.length - wr.iterPos w.heap.size)
      case atStart => exact ⟨0, rfl, by omega, by show _ = _; simp⟩
      case round =>
        obtain ⟨pos, rfl, hp, HA⟩ := hrel
        by_cases hlt : pos < l.length
        · have hnx : ∀ ty, (Instr.next (.pointer (some ⟨w.heap.size, 0, none⟩)) true ty).run Try.prog (w.iter (str l) pos) = _ := fun ty => run_next_any w (str l) pos ty (by rw [hsz]; exact hlt)
          have HNO : Hid (okC (l.getD pos 0) = false → nmB l = false) := fun h => by unfold nmB; rw [allC_no hlt h]; simp
          by_cases ha : (l.getD pos 0).toNat < 128
          · rw [name_low hlt ha] at hnx
            dsimp only at hnx
            have HST : Hid _ := allC_step hlt
            have HCC : Hid (∀ c : UInt8, c = l.getD pos 0 → okC c = decide (¬ (c.toNat : Int) = 0 ∧ ¬ (c.toNat : Int) = 47)) := by
              intro c _
              unfold okC
              rw [Bool.eq_iff_iff]
              simp [← UInt8.toNat_inj]
              omega
            have HC1 := HCC.out _ rfl
            generalize l.getD pos 0 = c at *
            by_cases c0 : (c.toNat : Int) = 0
            · rw [c0] at hnx
              go_wp2
              go_ret
              exact ⟨nm_no (HNO.out (by rw [HC1]; simp; omega)), iter_below _ _ _⟩
            by_cases c1 : (c.toNat : Int) = 47
            · rw [c1] at hnx
              go_wp2
              go_ret
              exact ⟨nm_no (HNO.out (by rw [HC1]; simp; omega)), iter_below _ _ _⟩
            · have HOK : Hid (okC c = true) := by show _ = _; rw [HC1]; simp; omega
              have cb0 : ((c.toNat : Int) == 0) = false := by simpa using c0
              have cb1 : ((c.toNat : Int) == 47) = false := by simpa using c1
              clear HC1 HCC
              go_wp2
              go_roundw
              case rel => exact ⟨pos + 1, rfl, by omega, by show _ = _; rw [HST.out, HA.out, HOK.out]; rfl⟩
              case measure => simp; omega
          · obtain ⟨k1, k2, k3, k4⟩ := name_skip hlt (by omega) HA.out
            have HK2 : Hid _ := k2
            clear k2
            generalize Utf8.decode (str l) pos = D at *
            obtain ⟨r, wd⟩ := D
            dsimp only at *
            have r0 : ¬ (r : Int) = 0 := by omega
            have r1 : ¬ (r : Int) = 47 := by omega
            have rb0 : ((r : Int) == 0) = false := by simpa using r0
            have rb1 : ((r : Int) == 47) = false := by simpa using r1
            go_wp2
            go_roundw
            case rel => exact ⟨pos + wd, rfl, k1, HK2⟩
            case measure => simp; omega
        · have hnx : ∀ ty, (Instr.next (.pointer (some ⟨w.heap.size, 0, none⟩)) true ty).run Try.prog (w.iter (str l) pos) = _ := fun ty => run_next_end w (str l) pos ty (by rw [hsz]; exact hlt)
          have HY : Hid (nmB l = true) := by
            have h := HA.out
            rw [List.take_of_length_le (by omega)] at h
            show _ = _
            unfold nmB
            rw [HD.out.1, HD.out.2, h]
            have := HL.out
            simp; omega
          go_wp2
          go_ret
          exact ⟨nm_yes HY.out, iter_below _ _ _⟩
    · rw [hd] at e1
      rw [hdd] at e2
      have HNO : Hid (nmB l = false) := by show _ = _; unfold nmB; rw [hdd]; simp
      clear hd hdd
      go_enter Try.func34, Try.ntmps34
      go_wp2
      go_ret
      exact ⟨nm_no HNO.out, Below.refl _ _⟩
  · rw [hd] at e1
    have HNO : Hid (nmB l = false) := by show _ = _; unfold nmB; rw [hd]; simp
    clear hd
    go_enter Try.func34, Try.ntmps34
    go_wp2
    go_ret
    exact ⟨nm_no HNO.out, Below.refl _ _⟩
/-- The document's first conditions. -/
def nm4 (l : List UInt8) : Bool := (decide (1 ≤ l.length) && decide (l.length ≤ 24)) && (!(l == [46]) && !(l == [46, 46]))
set_option maxHeartbeats 2000000 in
theorem rname_any (l : List UInt8) (hl : l.length ≤ 9223372036854775807) (w : World) :
    Calls Try.prog 35 #[.string (str l)] w fun e w' => e = .returned (.bool (nmB l)) ∧ w' = w := by
  have hsz := str_size l
  have e1 := str_dot l
  have e2 := str_dots l
  have HF : Hid (∀ B, (nm4 l && l.all okC) = B → Ending.returned (.bool B) = .returned (.bool (nmB l))) := fun B h => by rw [← h]; rfl
  go_enter Try.func35, Try.ntmps35
  go_upto_region 1 with fail
  go_cut [3] (fun s wc => s = .bool (nm4 l) ∧ wc = w)
  case first =>
    by_cases h0 : (l.length : Int) < 1
    · have d0 : decide ((1 : Int) ≤ l.length) = false := by simp; omega
      have HN : Hid (nm4 l = false) := by show _ = _; unfold nm4; simp; omega
      go_wp2
      go_meet
      case rel => exact ⟨congrArg Value.bool HN.out.symm, rfl⟩
    have h0' : (1 : Int) ≤ l.length := by omega
    by_cases h1 : (24 : Int) < l.length
    · have d0 : decide ((l.length : Int) ≤ 24) = false := by simp; omega
      have HN : Hid (nm4 l = false) := by show _ = _; unfold nm4; simp; omega
      go_wp2
      go_meet
      case rel => exact ⟨congrArg Value.bool HN.out.symm, rfl⟩
    have h1' : (l.length : Int) ≤ 24 := by omega
    cases hd : (l == [46])
    · cases hdd : (l == [46, 46])
      · rw [hd] at e1
        rw [hdd] at e2
        have HN : Hid (nm4 l = true) := by show _ = _; unfold nm4; rw [hd, hdd]; simp; omega
        clear hd hdd
        go_wp2
        go_meet
        case rel => exact ⟨congrArg Value.bool HN.out.symm, rfl⟩
      · rw [hd] at e1
        rw [hdd] at e2
        have HN : Hid (nm4 l = false) := by show _ = _; unfold nm4; rw [hdd]; simp
        clear hd hdd
        go_wp2
        go_meet
        case rel => exact ⟨congrArg Value.bool HN.out.symm, rfl⟩
    · rw [hd] at e1
      have HN : Hid (nm4 l = false) := by show _ = _; unfold nm4; rw [hd]; simp
      clear hd
      go_wp2
      go_meet
      case rel => exact ⟨congrArg Value.bool HN.out.symm, rfl⟩
  case rest =>
    obtain ⟨rfl, hwc⟩ := hcut
    rw [hwc]
    clear hwc wc
    generalize nm4 l = N4 at *
    go_wp2
    go_loop [3, 4] (fun s u => ∃ k : Nat, k ≤ l.length ∧ u = .int .i64 k ∧ s = .bool (N4 && (l.take k).all okC)) (fun _ u => l.length - (intOf u).toNat)
    case atStart => exact ⟨0, by omega, rfl, by simp⟩
    case round =>
      obtain ⟨k, hk, rfl, rfl⟩ := hrel
      by_cases hlt : (k : Int) < l.length
      · have HST : Hid _ := allC_step (l := l) (k := k) (by omega)
        have hgx : ∀ h : k < (str l).size, (str l)[k]'h = l.getD k 0 := fun h => str_get l k h
        have hin : k < (str l).size := by rw [hsz]; omega
        have hg? : (str l)[k]? = some (l.getD k 0) := by rw [getElem?_pos (str l) k hin, hgx hin]
        have hix : ∀ w', (Instr.index 9 (.string (str l)) (.int .i64 (k : Int))).run Try.prog w' = .ok (.int .u8 ((l.getD k 0).toNat : Int)) w' := by
          intro w'
          simp [Instr.index, asIntOf, run_underlying Try.underlying9, hg?]
        have HCC : Hid (okC (l.getD k 0) = decide (¬ ((l.getD k 0).toNat : Int) = 0 ∧ ¬ ((l.getD k 0).toNat : Int) = 47)) := by
          show _ = _
          unfold okC
          rw [Bool.eq_iff_iff]
          simp [← UInt8.toNat_inj]
          omega
        clear hgx hg?
        generalize l.getD k 0 = c at *
        generalize hAL : (N4 && (l.take k).all okC) = AL at *
        cases AL
        · go_wp2
          go_round
          case rel => exact ⟨k + 1, by omega, by go_num, congrArg Value.bool (by rw [HST.out, ← Bool.and_assoc, hAL]; rfl)⟩
          case measure => simp [intOf]; omega
        by_cases c0 : (c.toNat : Int) = 0
        · rw [c0] at hix
          go_wp2
          go_round
          case rel => exact ⟨k + 1, by omega, by go_num, congrArg Value.bool (by rw [HST.out, ← Bool.and_assoc, hAL, HCC.out]; simp; omega)⟩
          case measure => simp [intOf]; omega
        have cb0 : ((c.toNat : Int) == 0) = false := by simpa using c0
        by_cases c1 : (c.toNat : Int) = 47
        · rw [c1] at hix
          go_wp2
          go_round
          case rel => exact ⟨k + 1, by omega, by go_num, congrArg Value.bool (by rw [HST.out, ← Bool.and_assoc, hAL, HCC.out]; simp; omega)⟩
          case measure => simp [intOf]; omega
        · have cb1 : ((c.toNat : Int) == 47) = false := by simpa using c1
          have HOK : Hid (okC c = true) := by show _ = _; rw [HCC.out]; simp; omega
          go_wp2
          go_round
          case rel => exact ⟨k + 1, by omega, by go_num, congrArg Value.bool (by rw [HST.out, ← Bool.and_assoc, hAL, HOK.out]; simp [bne, cb1]; omega)⟩
          case measure => simp [intOf]; omega
      · have hk' : k = l.length := by omega
        subst hk'
        rw [List.take_of_length_le (Nat.le_refl _)]
        generalize (N4 && l.all okC) = Z at *
        go_wp2
        go_ret
        exact ⟨HF.out _ rfl, rfl⟩
end Go.Proofs.Ytabmogeicpphoaa
