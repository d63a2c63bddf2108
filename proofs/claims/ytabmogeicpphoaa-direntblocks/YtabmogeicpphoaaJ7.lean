/- dirent.Name, leveeref08.Name. -/
import Derived.Test.YtabmogeicpphoaaKHeld
import Derived.Test.YtabmogeicpphoaaKOps
import Derived.Laws.RangeAny
import Derived.Deep.DeepCutAuto
namespace Go.Proofs.Ytabmogeicpphoaa
open Go.RowKit
/-- A byte that may stand in a name. -/
def okC (c : UInt8) : Bool := c != 0 && c != 47
/-- A name. -/
def nmB (l : List UInt8) : Bool := (decide (1 ≤ l.length) && decide (l.length ≤ 24)) && (!(l == [46]) && !(l == [46, 46])) && l.all okC
theorem str_size (l : List UInt8) : (str l).size = l.length := by simp [str, ByteArray.size]
theorem str_get (l : List UInt8) (k : Nat) (h : k < (str l).size) : (str l)[k] = l.getD k 0 := by
  have h2 : k < l.length := by rw [← str_size]; exact h
  show l.toArray[k] = _
  simp [h2]
theorem str_get! (l : List UInt8) (k : Nat) (h : k < l.length) : (str l).get! k = l.getD k 0 := by
  have h2 : k < (str l).size := by rw [str_size]; exact h
  rw [← str_get l k h2]
  have := get_at (str l) k h2
  simpa using this
/-- A sign of more bytes than one has none below 128. -/
theorem decode_skip (s : ByteArray) (pos : Nat) (h : pos < s.size) (ha : 128 ≤ (s[pos]'h).toNat) : ∀ k, k < (Utf8.decode s pos).2 → pos + k < s.size ∧ 128 ≤ (s.get! (pos + k)).toNat := by
  have hn : ¬ (s[pos]'h).toNat < 128 := by omega
  have c0 : pos + 0 < s.size ∧ 128 ≤ (s.get! (pos + 0)).toNat := ⟨h, by rw [get_at s pos h]; exact ha⟩
  have cc : ∀ k, (decide (pos + k < s.size) && (s.get! (pos + k)).toNat / 64 == 2) = true → pos + k < s.size ∧ 128 ≤ (s.get! (pos + k)).toNat := by
    intro k hk
    simp only [Bool.and_eq_true, decide_eq_true_eq, beq_iff_eq] at hk
    exact ⟨hk.1, by omega⟩
  simp only [Utf8.decode, get_at s pos h, hn, if_false]
  by_cases e2 : ((s[pos]'h).toNat / 32 == 6 && (decide (pos + 1 < s.size) && (s.get! (pos + 1)).toNat / 64 == 2)) = true
  · rw [if_pos e2]
    simp only [Bool.and_eq_true] at e2
    have c1 := cc 1 (by simp only [Bool.and_eq_true]; exact e2.2)
    intro k hk
    have : k < 2 := by revert hk; split <;> (intro hk; simp at hk; omega)
    rcases (show k = 0 ∨ k = 1 by omega) with rfl | rfl
    · exact c0
    · exact c1
  rw [if_neg e2]
  by_cases e3 : ((s[pos]'h).toNat / 16 == 14 && (decide (pos + 1 < s.size) && (s.get! (pos + 1)).toNat / 64 == 2) && (decide (pos + 2 < s.size) && (s.get! (pos + 2)).toNat / 64 == 2)) = true
  · rw [if_pos e3]
    simp only [Bool.and_eq_true] at e3
    have c1 := cc 1 (by simp only [Bool.and_eq_true]; exact e3.1.2)
    have c2 := cc 2 (by simp only [Bool.and_eq_true]; exact e3.2)
    intro k hk
    have : k < 3 := by revert hk; split <;> (intro hk; simp at hk; omega)
    rcases (show k = 0 ∨ k = 1 ∨ k = 2 by omega) with rfl | rfl | rfl
    · exact c0
    · exact c1
    · exact c2
  rw [if_neg e3]
  by_cases e4 : ((s[pos]'h).toNat / 8 == 30 && (decide (pos + 1 < s.size) && (s.get! (pos + 1)).toNat / 64 == 2) && (decide (pos + 2 < s.size) && (s.get! (pos + 2)).toNat / 64 == 2) && (decide (pos + 3 < s.size) && (s.get! (pos + 3)).toNat / 64 == 2)) = true
  · rw [if_pos e4]
    simp only [Bool.and_eq_true] at e4
    have c1 := cc 1 (by simp only [Bool.and_eq_true]; exact e4.1.1.2)
    have c2 := cc 2 (by simp only [Bool.and_eq_true]; exact e4.1.2)
    have c3 := cc 3 (by simp only [Bool.and_eq_true]; exact e4.2)
    intro k hk
    have : k < 4 := by revert hk; split <;> (intro hk; simp at hk; omega)
    rcases (show k = 0 ∨ k = 1 ∨ k = 2 ∨ k = 3 by omega) with rfl | rfl | rfl | rfl
    · exact c0
    · exact c1
    · exact c2
    · exact c3
  rw [if_neg e4]
  intro k hk
  obtain rfl : k = 0 := by simp at hk; omega
  exact c0
theorem okC_high {c : UInt8} (h : 128 ≤ c.toNat) : okC c = true := by
  unfold okC
  have h0 : c ≠ 0 := by rintro rfl; simp at h
  have h1 : c ≠ 47 := by rintro rfl; simp at h
  simp [h0, h1]
theorem allC_step {l : List UInt8} {k : Nat} (h : k < l.length) : (l.take (k + 1)).all okC = ((l.take k).all okC && okC (l.getD k 0)) := by
  have e : l.getD k 0 = l[k] := by simp [h]
  rw [List.take_succ_eq_append_getElem h, List.all_append, e]; simp only [List.all_cons, List.all_nil, Bool.and_true]
theorem allC_no {l : List UInt8} {k : Nat} (h : k < l.length) (hk : okC (l.getD k 0) = false) : l.all okC = false := by
  rw [List.all_eq_false]
  exact ⟨l[k], List.getElem_mem h, by simpa [h] using hk⟩
/-- Some bytes that are all high. -/
theorem allC_skip {l : List UInt8} {pos : Nat} (hp : (l.take pos).all okC = true) : ∀ n, (∀ k, k < n → pos + k < l.length ∧ 128 ≤ (l.getD (pos + k) 0).toNat) → (l.take (pos + n)).all okC = true
  | 0, _ => hp
  | n + 1, h => by
    have ih := allC_skip hp n (fun k hk => h k (by omega))
    obtain ⟨h1, h2⟩ := h n (by omega)
    rw [← Nat.add_assoc, allC_step h1, ih, okC_high h2]; rfl
theorem name_skip {l : List UInt8} {pos : Nat} (h : pos < l.length) (ha : 128 ≤ (l.getD pos 0).toNat) (hp : (l.take pos).all okC = true) :
    pos + (Utf8.decode (str l) pos).2 ≤ l.length ∧ (l.take (pos + (Utf8.decode (str l) pos).2)).all okC = true ∧ 128 ≤ (Utf8.decode (str l) pos).1 ∧ 1 ≤ (Utf8.decode (str l) pos).2 := by
  have hs : pos < (str l).size := by rw [str_size]; exact h
  have ha' : 128 ≤ ((str l)[pos]'hs).toNat := by rw [str_get]; exact ha
  have k1 := decode_skip (str l) pos hs ha'
  obtain ⟨k2, k3⟩ := decode_high (str l) pos hs ha'
  have k4 : ∀ k, k < (Utf8.decode (str l) pos).2 → pos + k < l.length ∧ 128 ≤ (l.getD (pos + k) 0).toNat := by
    intro k hk
    obtain ⟨h1, h2⟩ := k1 k hk
    rw [str_size] at h1
    rw [str_get! l _ h1] at h2
    exact ⟨h1, h2⟩
  refine ⟨?_, allC_skip hp _ k4, k2, k3⟩
  have := (k4 ((Utf8.decode (str l) pos).2 - 1) (by omega)).1
  omega
theorem name_low {l : List UInt8} {pos : Nat} (h : pos < l.length) (ha : (l.getD pos 0).toNat < 128) : Utf8.decode (str l) pos = ((l.getD pos 0).toNat, 1) := by
  have hs : pos < (str l).size := by rw [str_size]; exact h
  have := decode_ascii (str l) pos hs (by rw [str_get]; exact ha)
  rw [str_get] at this
  exact this
end Go.Proofs.Ytabmogeicpphoaa
/- dirent.Name, leveeref08.Name: the walks. -/
namespace Go.Proofs.Ytabmogeicpphoaa
open Go.RowKit
theorem str_beqD (a b : List UInt8) : ((str a).toList == (str b).toList) = (a == b) := by
  rw [Bool.eq_iff_iff]
  constructor
  · intro h
    have h2 := beq_iff_eq.1 h
    have : a = b := by
      apply str_inj
      rw [ByteArray.toList_eq, ByteArray.toList_eq] at h2
      exact WideShapes.bytes_inj h2
    simp [this]
  · intro h
    rw [beq_iff_eq.1 h]; simp
theorem str_toList (l : List UInt8) : (str l).toList = l := by rw [ByteArray.toList_eq]; rfl
theorem str_dot (l : List UInt8) : ((str l).toList == [46]) = (l == [46]) := by rw [str_toList]
theorem str_dots (l : List UInt8) : ((str l).toList == [46, 46]) = (l == [46, 46]) := by rw [str_toList]
theorem iter_below (w : World) (s : ByteArray) (p : Nat) : Below w.heap.size w (w.iter s p) := (Below.refl _ _).alloc (Nat.le_refl _) _
theorem nm_no {l : List UInt8} (h : nmB l = false) : Ending.returned (.bool false) = .returned (.bool (nmB l)) := by rw [h]
theorem nm_yes {l : List UInt8} (h : nmB l = true) : Ending.returned (.bool true) = .returned (.bool (nmB l)) := by rw [h]
set_option maxHeartbeats 2000000 in
theorem dname_any (l : List UInt8) (w : World) :
    Calls Try.prog 34 #[.string (str l)] w fun e w' => e = .returned (.bool (nmB l)) ∧ Below w.heap.size w w' := by
  have hsz := str_size l
  have e1 := str_dot l
  have e2 := str_dots l
  by_cases h0 : (l.length : Int) < 1
  · go_enter Try.func34, Try.ntmps34
    go_wp2
    go_ret
    exact ⟨nm_no (by unfold nmB; simp; omega), Below.refl _ _⟩
  by_cases h1 : (24 : Int) < l.length
  · go_enter Try.func34, Try.ntmps34
    go_wp2
    go_ret
    exact ⟨nm_no (by unfold nmB; simp; omega), Below.refl _ _⟩
  have HL : Hid (1 ≤ l.length ∧ l.length ≤ 24) := ⟨by omega, by omega⟩
  cases hd : (l == [46])
  · cases hdd : (l == [46, 46])
    · rw [hd] at e1
      rw [hdd] at e2
      have HD : Hid ((l == [46]) = false ∧ (l == [46, 46]) = false) := ⟨hd, hdd⟩
      clear hd hdd
      go_enter Try.func34, Try.ntmps34
      go_wp2
      go_loopw [4] (fun _ wr => ∃ pos : Nat, wr = w.iter (str l) pos ∧ pos ≤ l.length ∧ Hid ((l.take pos).all okC = true)) (fun _ wr => l.length - wr.iterPos w.heap.size)
      case atStart => exact ⟨0, rfl, by omega, by show _ = _; simp⟩
      case round =>
        obtain ⟨pos, rfl, hp, HA⟩ := hrel
        by_cases hlt : pos < l.length
        · have hnx : ∀ ty, (Instr.next (.pointer (some ⟨w.heap.size, 0, none⟩)) true ty).run Try.prog (w.iter (str l) pos) = _ := fun ty => run_next_any w (str l) pos ty (by rw [hsz]; exact hlt)
          have HNO : Hid (okC (l.getD pos 0) = false → nmB l = false) := fun h => by unfold nmB; rw [allC_no hlt h]; simp
          by_cases ha : (l.getD pos 0).toNat < 128
          · rw [name_low hlt ha] at hnx
            dsimp only at hnx
            have HST : Hid _ := allC_step hlt
            have HCC : Hid (∀ c : UInt8, c = l.getD pos 0 → okC c = decide (¬ (c.toNat : Int) = 0 ∧ ¬ (c.toNat : Int) = 47)) := by
              intro c _
              unfold okC
              rw [Bool.eq_iff_iff]
              simp [← UInt8.toNat_inj]
              omega
            have HC1 := HCC.out _ rfl
            generalize l.getD pos 0 = c at *
            by_cases c0 : (c.toNat : Int) = 0
            · rw [c0] at hnx
              go_wp2
              go_ret
              exact ⟨nm_no (HNO.out (by rw [HC1]; simp; omega)), iter_below _ _ _⟩
            by_cases c1 : (c.toNat : Int) = 47
            · rw [c1] at hnx
              go_wp2
              go_ret
              exact ⟨nm_no (HNO.out (by rw [HC1]; simp; omega)), iter_below _ _ _⟩
            · have HOK : Hid (okC c = true) := by show _ = _; rw [HC1]; simp; omega
              have cb0 : ((c.toNat : Int) == 0) = false := by simpa using c0
              have cb1 : ((c.toNat : Int) == 47) = false := by simpa using c1
              clear HC1 HCC
              go_wp2
              go_roundw
              case rel => exact ⟨pos + 1, rfl, by omega, by show _ = _; rw [HST.out, HA.out, HOK.out]; rfl⟩
              case measure => simp; omega
          · obtain ⟨k1, k2, k3, k4⟩ := name_skip hlt (by omega) HA.out
            have HK2 : Hid _ := k2
            clear k2
            generalize Utf8.decode (str l) pos = D at *
            obtain ⟨r, wd⟩ := D
            dsimp only at *
            have r0 : ¬ (r : Int) = 0 := by omega
            have r1 : ¬ (r : Int) = 47 := by omega
            have rb0 : ((r : Int) == 0) = false := by simpa using r0
            have rb1 : ((r : Int) == 47) = false := by simpa using r1
            go_wp2
            go_roundw
            case rel => exact ⟨pos + wd, rfl, k1, HK2⟩
            case measure => simp; omega
        · have hnx : ∀ ty, (Instr.next (.pointer (some ⟨w.heap.size, 0, none⟩)) true ty).run Try.prog (w.iter (str l) pos) = _ := fun ty => run_next_end w (str l) pos ty (by rw [hsz]; exact hlt)
          have HY : Hid (nmB l = true) := by
            have h := HA.out
            rw [List.take_of_length_le (by omega)] at h
            show _ = _
            unfold nmB
            rw [HD.out.1, HD.out.2, h]
            have := HL.out
            simp; omega
          go_wp2
          go_ret
          exact ⟨nm_yes HY.out, iter_below _ _ _⟩
    · rw [hd] at e1
      rw [hdd] at e2
      have HNO : Hid (nmB l = false) := by show _ = _; unfold nmB; rw [hdd]; simp
      clear hd hdd
      go_enter Try.func34, Try.ntmps34
      go_wp2
      go_ret
      exact ⟨nm_no HNO.out, Below.refl _ _⟩
  · rw [hd] at e1
    have HNO : Hid (nmB l = false) := by show _ = _; unfold nmB; rw [hd]; simp
    clear hd
    go_enter Try.func34, Try.ntmps34
    go_wp2
    go_ret
    exact ⟨nm_no HNO.out, Below.refl _ _⟩
/-- The document's first conditions. -/
def nm4 (l : List UInt8) : Bool := (decide (1 ≤ l.length) && decide (l.length ≤ 24)) && (!(l == [46]) && !(l == [46, 46]))
set_option maxHeartbeats 2000000 in
theorem rname_any (l : List UInt8) (hl : l.length ≤ 9223372036854775807) (w : World) :
    Calls Try.prog 35 #[.string (str l)] w fun e w' => e = .returned (.bool (nmB l)) ∧ w' = w := by
  have hsz := str_size l
  have e1 := str_dot l
  have e2 := str_dots l
  have HF : Hid (∀ B, (nm4 l && l.all okC) = B → Ending.returned (.bool B) = .returned (.bool (nmB l))) := fun B h => by rw [← h]; rfl
  go_enter Try.func35, Try.ntmps35
  go_upto_region 1 with fail
  go_cut [3] (fun s wc => s = .bool (nm4 l) ∧ wc = w)
  case first =>
    by_cases h0 : (l.length : Int) < 1
    · have d0 : decide ((1 : Int) ≤ l.length) = false := by simp; omega
      have HN : Hid (nm4 l = false) := by show _ = _; unfold nm4; simp; omega
      go_wp2
      go_meet
      case rel => exact ⟨congrArg Value.bool HN.out.symm, rfl⟩
    have h0' : (1 : Int) ≤ l.length := by omega
    by_cases h1 : (24 : Int) < l.length
    · have d0 : decide ((l.length : Int) ≤ 24) = false := by simp; omega
      have HN : Hid (nm4 l = false) := by show _ = _; unfold nm4; simp; omega
      go_wp2
      go_meet
      case rel => exact ⟨congrArg Value.bool HN.out.symm, rfl⟩
    have h1' : (l.length : Int) ≤ 24 := by omega
    cases hd : (l == [46])
    · cases hdd : (l == [46, 46])
      · rw [hd] at e1
        rw [hdd] at e2
        have HN : Hid (nm4 l = true) := by show _ = _; unfold nm4; rw [hd, hdd]; simp; omega
        clear hd hdd
        go_wp2
        go_meet
        case rel => exact ⟨congrArg Value.bool HN.out.symm, rfl⟩
      · rw [hd] at e1
        rw [hdd] at e2
        have HN : Hid (nm4 l = false) := by show _ = _; unfold nm4; rw [hdd]; simp
        clear hd hdd
        go_wp2
        go_meet
        case rel => exact ⟨congrArg Value.bool HN.out.symm, rfl⟩
    · rw [hd] at e1
      have HN : Hid (nm4 l = false) := by show _ = _; unfold nm4; rw [hd]; simp
      clear hd
      go_wp2
      go_meet
      case rel => exact ⟨congrArg Value.bool HN.out.symm, rfl⟩
  case rest =>
    obtain ⟨rfl, hwc⟩ := hcut
    rw [hwc]
    clear hwc wc
    generalize nm4 l = N4 at *
    go_wp2
    go_loop [3, 4] (fun s u => ∃ k : Nat, k ≤ l.length ∧ u = .int .i64 k ∧ s = .bool (N4 && (l.take k).all okC)) (fun _ u => l.length - (intOf u).toNat)
    case atStart => exact ⟨0, by omega, rfl, by simp⟩
    case round =>
      obtain ⟨k, hk, rfl, rfl⟩ := hrel
      by_cases hlt : (k : Int) < l.length
      · have HST : Hid _ := allC_step (l := l) (k := k) (by omega)
        have hgx : ∀ h : k < (str l).size, (str l)[k]'h = l.getD k 0 := fun h => str_get l k h
        have hin : k < (str l).size := by rw [hsz]; omega
        have hg? : (str l)[k]? = some (l.getD k 0) := by rw [getElem?_pos (str l) k hin, hgx hin]
        have hix : ∀ w', (Instr.index 9 (.string (str l)) (.int .i64 (k : Int))).run Try.prog w' = .ok (.int .u8 ((l.getD k 0).toNat : Int)) w' := by
          intro w'
          simp [Instr.index, asIntOf, run_underlying Try.underlying9, hg?]
        have HCC : Hid (okC (l.getD k 0) = decide (¬ ((l.getD k 0).toNat : Int) = 0 ∧ ¬ ((l.getD k 0).toNat : Int) = 47)) := by
          show _ = _
          unfold okC
          rw [Bool.eq_iff_iff]
          simp [← UInt8.toNat_inj]
          omega
        clear hgx hg?
        generalize l.getD k 0 = c at *
        generalize hAL : (N4 && (l.take k).all okC) = AL at *
        cases AL
        · go_wp2
          go_round
          case rel => exact ⟨k + 1, by omega, by go_num, congrArg Value.bool (by rw [HST.out, ← Bool.and_assoc, hAL]; rfl)⟩
          case measure => simp [intOf]; omega
        by_cases c0 : (c.toNat : Int) = 0
        · rw [c0] at hix
          go_wp2
          go_round
          case rel => exact ⟨k + 1, by omega, by go_num, congrArg Value.bool (by rw [HST.out, ← Bool.and_assoc, hAL, HCC.out]; simp; omega)⟩
          case measure => simp [intOf]; omega
        have cb0 : ((c.toNat : Int) == 0) = false := by simpa using c0
        by_cases c1 : (c.toNat : Int) = 47
        · rw [c1] at hix
          go_wp2
          go_round
          case rel => exact ⟨k + 1, by omega, by go_num, congrArg Value.bool (by rw [HST.out, ← Bool.and_assoc, hAL, HCC.out]; simp; omega)⟩
          case measure => simp [intOf]; omega
        · have cb1 : ((c.toNat : Int) == 47) = false := by simpa using c1
          have HOK : Hid (okC c = true) := by show _ = _; rw [HCC.out]; simp; omega
          go_wp2
          go_round
          case rel => exact ⟨k + 1, by omega, by go_num, congrArg Value.bool (by rw [HST.out, ← Bool.and_assoc, hAL, HOK.out]; simp [bne, cb1]; omega)⟩
          case measure => simp [intOf]; omega
      · have hk' : k = l.length := by omega
        subst hk'
        rw [List.take_of_length_le (Nat.le_refl _)]
        generalize (N4 && l.all okC) = Z at *
        go_wp2
        go_ret
        exact ⟨HF.out _ rfl, rfl⟩
end Go.Proofs.Ytabmogeicpphoaa
