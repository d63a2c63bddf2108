/- leveeref07.Names. -/
import Derived.Test.YtabmogeicpphoaaIknown
namespace Go.Proofs.Ytabmogeicpphoaa
open Go.RowKit
set_option maxHeartbeats 4000000 in
theorem rnames_any (i : Ino) (hn : i.ns.length = 8) (w : World) :
    Calls Try.prog 22 #[.agg (iA i)] w fun e w' => ∃ v, e = .returned v ∧ OwnI w' (w.heap.size + 1) v (nz i.ns) ∧ Below w.heap.size w w' := by
  have HX : Hid _ := PI.start w i hn
  have HN : Hid (i.ns.length = 8) := hn
  have hlen : ∀ k, (nz (i.ns.take k)).length ≤ 1000000 := by
    intro k
    have := nz_len (i.ns.take k)
    rw [List.length_take] at this
    omega
  have HLN : Hid _ := hlen
  clear hn hlen
  go_enter Try.func22, Try.ntmps22
  go_wp2_with fail
  go_loopw [3, 4] (fun v t wr => ∃ k : Nat, k ≤ 6 ∧ t = .int .i64 k ∧ Hid (OwnI wr (w.heap.size + 1) v (nz (i.ns.take k))) ∧ Hid (PI w i wr)) (fun _ t _ => 6 - (intOf t).toNat)
  case atStart => exact ⟨0, by omega, rfl, OwnI.nil _ _, HX⟩
  case round =>
    obtain ⟨k, hk, rfl, HO, HPW⟩ := hrel
    clear HX
    by_cases hlt : (k : Int) < 6
    · have hx := HPW.out.ino.name k (by omega)
      have HST : Hid _ := nz_step (l := i.ns) (k := k) (by rw [HN.out]; omega)
      generalize i.ns.getD k 0 = x at *
      have hz := HPW.out.ino.lt
      by_cases hx0 : x = 0
      · have HO2 : Hid (OwnI wr (w.heap.size + 1) u3 (nz (i.ns.take (k + 1)))) := by rw [HST.out, if_pos hx0]; exact HO.out
        clear HO HST
        go_wp2
        go_roundw
        case rel => exact ⟨k + 1, by omega, by go_num, HO2, HPW⟩
        case measure => simp [intOf]; omega
      · have HS2 : Hid (nz (i.ns.take k) ++ [x] = nz (i.ns.take (k + 1))) := by rw [HST.out, if_neg hx0]; rfl
        have hxb : (x == 0) = false := by simpa using hx0
        clear HST
        have hO := HO.out
        go_wp2_with (at_builtin; refine wpList_append_int rfl (.tmp 14) (.tmp 19) rfl (w.heap.size + 1) (nz (i.ns.take k)) x _ rfl _ _ rfl (hO.below ((Below.refl _ _).alloc (Nat.le_refl _) _) (Nat.le_refl _)) (heap_alloc_new _ _) (by simp; omega) (HLN.out k) ?_; intro v' w2 hO2 hb2)
        rw [HS2.out] at hO2
        have HP2 : Hid (PI w i w2) := (HPW.out.up ((Below.refl _ _).alloc (Nat.le_refl _) _)).low hb2
        clear HO hO
        go_roundw
        case rel => exact ⟨k + 1, by omega, by go_num, hO2, HP2⟩
        case measure => simp [intOf]; omega
    · obtain rfl : k = 6 := by omega
      have H6 : Hid _ := nz_step (l := i.ns) (k := 6) (by rw [HN.out]; omega)
      have H7 : Hid _ := nz_step (l := i.ns) (k := 7) (by rw [HN.out]; omega)
      have HF : Hid (nz (i.ns.take 8) = nz i.ns) := by show _ = _; rw [List.take_of_length_le (by rw [HN.out]; omega)]
      have q6 : ∀ W, InoAt W w.heap.size i → W.cell? ⟨w.heap.size, 10, none⟩ = some (.int .i64 (i.ns.getD 6 0)) := fun W h => h.name 6 (by omega)
      have q7 : ∀ W, InoAt W w.heap.size i → W.cell? ⟨w.heap.size, 11, none⟩ = some (.int .i64 (i.ns.getD 7 0)) := fun W h => h.name 7 (by omega)
      have HQ6 : Hid _ := q6
      have HQ7 : Hid _ := q7
      clear q6 q7
      generalize i.ns.getD 6 0 = x6 at *
      generalize i.ns.getD 7 0 = x7 at *
      have c6 := HQ6.out _ HPW.out.ino
      have hz := HPW.out.ino.lt
      by_cases h6 : x6 = 0
      · have HO2 : Hid (OwnI wr (w.heap.size + 1) u3 (nz (i.ns.take 7))) := by rw [H6.out, if_pos h6]; exact HO.out
        have c7 := HQ7.out _ HPW.out.ino
        by_cases h7 : x7 = 0
        · have HO3 : Hid (OwnI wr (w.heap.size + 1) u3 (nz i.ns)) := by rw [← HF.out, H7.out, if_pos h7]; exact HO2.out
          go_wp2
          go_ret
          exact ⟨_, rfl, HO3.out, HPW.out.b⟩
        · have HS2 : Hid (nz (i.ns.take 7) ++ [x7] = nz i.ns) := by rw [← HF.out, H7.out, if_neg h7]; rfl
          have hxb : (x7 == 0) = false := by simpa using h7
          have hO := HO2.out
          clear HO HO2
          go_wp2_with (at_builtin; refine wpList_append_int rfl (.tmp 32) (.tmp 35) rfl (w.heap.size + 1) (nz (i.ns.take 7)) x7 _ rfl _ _ rfl (hO.below ((Below.refl _ _).alloc (Nat.le_refl _) _) (Nat.le_refl _)) (heap_alloc_new _ _) (by simp; omega) (HLN.out 7) ?_; intro v' w2 hO2 hb2)
          rw [HS2.out] at hO2
          have HP2 : Hid (PI w i w2) := (HPW.out.up ((Below.refl _ _).alloc (Nat.le_refl _) _)).low hb2
          go_ret
          exact ⟨_, rfl, hO2, HP2.out.b⟩
      · have HS6 : Hid (nz (i.ns.take 6) ++ [x6] = nz (i.ns.take 7)) := by rw [H6.out, if_neg h6]; rfl
        have hxb6 : (x6 == 0) = false := by simpa using h6
        have hO := HO.out
        clear HO
        go_upto_region 9 with (at_builtin; refine wpList_append_int rfl (.tmp 24) (.tmp 27) rfl (w.heap.size + 1) (nz (i.ns.take 6)) x6 _ rfl _ _ rfl (hO.below ((Below.refl _ _).alloc (Nat.le_refl _) _) (Nat.le_refl _)) (heap_alloc_new _ _) (by simp; omega) (HLN.out 6) ?_; intro v' w2 hO2 hb2)
        rw [HS6.out] at hO2
        have HP2 : Hid (PI w i w2) := (HPW.out.up ((Below.refl _ _).alloc (Nat.le_refl _) _)).low hb2
        have HO2 : Hid (OwnI w2 (w.heap.size + 1) v' (nz (i.ns.take 7))) := hO2
        clear c6 hO hO2 HPW hb2 hz
        have hz := HP2.out.ino.lt
        have c7 := HQ7.out _ HP2.out.ino
        by_cases h7 : x7 = 0
        · have HO3 : Hid (OwnI w2 (w.heap.size + 1) v' (nz i.ns)) := by rw [← HF.out, H7.out, if_pos h7]; exact HO2.out
          go_wp2
          go_ret
          exact ⟨_, rfl, HO3.out, HP2.out.b⟩
        · have HS2 : Hid (nz (i.ns.take 7) ++ [x7] = nz i.ns) := by rw [← HF.out, H7.out, if_neg h7]; rfl
          have hxb : (x7 == 0) = false := by simpa using h7
          have hO := HO2.out
          clear HO2
          go_wp2_with (at_builtin; refine wpList_append_int rfl (.tmp 32) (.tmp 35) rfl (w.heap.size + 1) (nz (i.ns.take 7)) x7 _ rfl _ _ rfl (hO.below ((Below.refl _ _).alloc (Nat.le_refl _) _) (Nat.le_refl _)) (heap_alloc_new _ _) (by simp; omega) (HLN.out 7) ?_; intro v3 w3 hO3 hb3)
          rw [HS2.out] at hO3
          have HP3 : Hid (PI w i w3) := (HP2.out.up ((Below.refl _ _).alloc (Nat.le_refl _) _)).low hb3
          go_ret
          exact ⟨_, rfl, hO3, HP3.out.b⟩
end Go.Proofs.Ytabmogeicpphoaa
