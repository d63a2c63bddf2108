/- leveelaw10.wrote; a row of empty texts. -/
import Derived.Test.YtglmbihahldfcaaCrd
import Derived.Test.YtglmbihahldfcaaCacts
namespace Go.Proofs.Ytglmbihahldfcaa
open Go.RowKit
set_option maxRecDepth 100000
set_option maxHeartbeats 1000000 in
theorem count_mod (k n : Int) (w : World) (h1 : 1 ≤ n) (h2 : n ≤ 8000) :
    Calls Try.prog 7 #[.int .i64 k, .int .i64 n] w fun e w' => e = .returned (.int .i64 (k % n)) ∧ w' = w := by
  have e1 : k.tmod n = if 0 ≤ k then k % n else -((-k) % n) := by
    split
    · rw [Int.tmod_eq_emod_of_nonneg (by assumption)]
    · rw [← Int.tmod_eq_emod_of_nonneg (by omega), Int.neg_tmod, Int.neg_neg]
  have hb1 := Int.emod_nonneg k (show n ≠ 0 by omega)
  have hb2 := Int.emod_lt_of_pos k (show 0 < n by omega)
  have hb3 := Int.emod_nonneg (-k) (show n ≠ 0 by omega)
  have hb4 := Int.emod_lt_of_pos (-k) (show 0 < n by omega)
  have hr1 : -n < k.tmod n := by rw [e1]; split <;> omega
  have hr2 : k.tmod n < n := by rw [e1]; split <;> omega
  have hd : k.tmod n % n = k % n := by
    have h := Int.mul_tdiv_add_tmod k n
    conv => rhs; rw [← h, Int.add_comm, Int.add_mul_emod_self_left]
  clear e1 hb1 hb2 hb3 hb4
  by_cases hneg : k.tmod n < 0
  · have HE : Hid (k.tmod n + n = k % n) := by
      show _ = _
      rw [← hd, ← Int.add_emod_right (k.tmod n) n, Int.emod_eq_of_lt (by omega) (by omega)]
    clear hd
    go_enter Try.func7, Try.ntmps7
    go_wp2
    go_ret
    rw [HE.out]
    exact ⟨rfl, rfl⟩
  · have HE : Hid (k.tmod n = k % n) := by
      show _ = _
      rw [← hd, Int.emod_eq_of_lt (by omega) (by omega)]
    clear hd
    go_enter Try.func7, Try.ntmps7
    go_wp2
    go_ret
    rw [HE.out]
    exact ⟨rfl, rfl⟩
theorem Try.infoS : (Try.prog.info? 9).map (fun i => (i.zero, i.size, i.bytes)) = some (some (.string ⟨#[]⟩), 1, 16) := by kernel_rfl
theorem make_strs (w : World) (n : Nat) (hn : n ≤ 1000000) :
    (Instr.makeSlice 47 (.int .i64 (n : Int)) (.int .i64 (n : Int))).run Try.prog w = .ok (.slice (some ⟨w.heap.size, 0, none⟩) n n) (w.alloc (.cells (svs (List.replicate n [])).toArray 9)) := by
  obtain ⟨i0, hi, hz0, hz1, hz2⟩ := info_parts Try.infoS
  have h := run_make (P := Try.prog) w 47 9 i0 _ Try.underlying47 hi hz0 .i64 .i64 (n : Int) (n : Int) (by omega) (by omega) (by rw [hz2]; omega) (by omega)
  rw [h]
  congr 3
  have e : madeCells (Value.string ⟨#[]⟩).cells ((n : Int).toNat * i0.size) = (svs (List.replicate n [])).toArray := by
    apply Array.toList_inj.1
    rw [hz1, Int.toNat_natCast, Nat.mul_one]
    rw [show svs (List.replicate n []) = List.replicate n (Value.string ⟨#[]⟩) by simp [svs, str]]
    exact toList_madeCells_one _ _
  rw [e]
/-- A call of the first i that writes other bytes to block b. -/
def WR (A : Acts) (i : Nat) (b : Nat) : Prop := ∃ j, j < i ∧ A.K j = 5 ∧ A.N j % 4 = (b : Int)
set_option maxHeartbeats 4000000 in
theorem wrote_any (b off m cap i x : Nat) (A : Acts) (w : World) (hcap : m ≤ cap ∧ (cap : Int) ≤ 9223372036854775807) (hi : i ≤ m) (hi6 : i ≤ 1000)
    (ha : ∀ k, k < m → w.cell? ⟨b, off + k * 3, none⟩ = some (.int .i64 (A.K k)) ∧ w.cell? ⟨b, off + k * 3 + 1, none⟩ = some (.int .i64 (A.N k))) (hw : WR A i x) :
    Calls Try.prog 27 #[.slice (some ⟨b, off, none⟩) m cap, .int .i64 (i : Int), .int .i64 (x : Int)] w fun e w' => e = .returned (.bool true) ∧ w' = w := by
  have HA : Hid _ := ha
  have HW : Hid (WR A i x) := hw
  clear ha hw
  obtain ⟨hc1, hc2⟩ := hcap
  go_enter Try.func27, Try.ntmps27
  go_wp2
  go_loopw [7] (fun t wr => ∃ k : Nat, k ≤ i ∧ t = .int .i64 k ∧ Hid (wr = w) ∧ Hid (∀ j, j < k → ¬ (A.K j = 5 ∧ A.N j % 4 = (x : Int)))) (fun t _ => i - (intOf t).toNat)
  case atStart => exact ⟨0, by omega, rfl, rfl, fun j hj => by omega⟩
  case round =>
    obtain ⟨k, hk, rfl, HWR, HE⟩ := hrel
    obtain rfl := HWR.out.symm
    clear HWR
    by_cases hlt : (k : Int) < i
    · have hkm : (k : Int) < m := by omega
      obtain ⟨k1, k2⟩ := HA.out k (by omega)
      have CM := fun W => count_mod (A.N k) 4 W (by omega) (by omega)
      have HP : Hid (¬ (A.K k = 5 ∧ A.N k % 4 = (x : Int)) → ∀ j, j < k + 1 → ¬ (A.K j = 5 ∧ A.N j % 4 = (x : Int))) := fun h j hj => by
        by_cases e : j = k
        · subst e; exact h
        · exact HE.out j (by omega)
      clear HE
      generalize A.K k = kd at *
      generalize A.N k = nn at *
      by_cases h5 : kd = 5
      · subst h5
        generalize nn % 4 = md at *
        go_wp2_with fail
        refine (CM _).mono ?_
        clear CM
        rintro r w1 ⟨rfl, hw1⟩
        obtain rfl := hw1.symm
        clear hw1
        by_cases hxy : md = (x : Int)
        · go_wp2_with fail
          go_ret
          exact ⟨rfl, rfl⟩
        · have hb : (md == (x : Int)) = false := by simpa using hxy
          go_wp2_with fail
          go_roundw
          case rel => exact ⟨k + 1, by omega, by go_num, trivial, HP.out (fun c => hxy c.2)⟩
          case measure => simp [intOf]; omega
      · have hb : (kd == 5) = false := by simpa using h5
        go_wp2_with fail
        go_roundw
        case rel => exact ⟨k + 1, by omega, by go_num, trivial, HP.out (fun c => h5 c.1)⟩
        case measure => simp [intOf]; omega
    · exfalso
      obtain ⟨j, h1, h2⟩ := HW.out
      exact HE.out j (by omega) h2
end Go.Proofs.Ytglmbihahldfcaa
