/- inode.Blocks, inode.Names, leveeref07.Blocks, leveeref01.Ints. -/
import Derived.Test.YtabmogeicpphoaaOpsI
namespace Go.Proofs.Ytabmogeicpphoaa
open Go.RowKit
/-- How many blocks so many bytes have. -/
def blkN (s : Int) : Int := if s ≤ 0 then 0 else (s - 1) / 256 + 1
set_option maxHeartbeats 1000000 in
theorem blocks_any (i : Ino) (hn : i.ns.length = 8) (hs : i.s ≤ 9223372036854775807) (w : World) :
    Calls Try.prog 18 #[.agg (iA i)] w fun e w' => e = .returned (.int .i64 (blkN i.s)) ∧ Below w.heap.size w w' := by
  have HX : Hid _ := PI.start w i hn
  have q2 := HX.out.ino.c2
  have hb := HX.out.b
  unfold blkN
  generalize i.s = S at *
  by_cases h0 : S ≤ 0
  · rw [if_pos h0]
    go_enter Try.func18, Try.ntmps18
    go_wp2
    go_ret
    exact ⟨rfl, hb⟩
  · rw [if_neg h0]
    go_enter Try.func18, Try.ntmps18
    go_wp2
    go_ret
    exact ⟨rfl, hb⟩
set_option maxHeartbeats 1000000 in
theorem rblocks_any (i : Ino) (hn : i.ns.length = 8) (hs : i.s ≤ 9223372036854775807) (w : World) :
    Calls Try.prog 19 #[.agg (iA i)] w fun e w' => e = .returned (.int .i64 (blkN i.s)) ∧ Below w.heap.size w w' := by
  have HX : Hid _ := PI.start w i hn
  have q2 := HX.out.ino.c2
  have hb := HX.out.b
  unfold blkN
  generalize i.s = S at *
  by_cases h0 : S ≤ 0
  · rw [if_pos h0]
    go_enter Try.func19, Try.ntmps19
    go_wp2
    go_ret
    exact ⟨rfl, hb⟩
  · rw [if_neg h0]
    go_enter Try.func19, Try.ntmps19
    go_wp2
    go_ret
    exact ⟨rfl, hb⟩
/-- The names that are not 0. -/
def nz (l : List Int) : List Int := l.filter (fun x => x != 0)
theorem nz_step {l : List Int} {k : Nat} (h : k < l.length) : nz (l.take (k + 1)) = if l.getD k 0 = 0 then nz (l.take k) else nz (l.take k) ++ [l.getD k 0] := by
  have e : l.getD k 0 = l[k] := by simp [h]
  rw [e]
  unfold nz
  rw [List.take_succ_eq_append_getElem h, List.filter_append]
  by_cases hz : l[k] = 0
  · simp [hz]
  · simp [hz]
theorem nz_len (l : List Int) : (nz l).length ≤ l.length := List.length_filter_le _ _
set_option maxHeartbeats 2000000 in
theorem names_any (i : Ino) (hn : i.ns.length = 8) (w : World) :
    Calls Try.prog 21 #[.agg (iA i)] w fun e w' => ∃ v, e = .returned v ∧ OwnI w' w.heap.size v (nz i.ns) ∧ Below w.heap.size w w' := by
  have HX : Hid _ := PI.start w i hn
  have NA := fun W => named_any i hn W
  have HN : Hid (i.ns.length = 8) := hn
  clear hn
  go_enter Try.func21, Try.ntmps21
  go_wp2_with (first | ((with_reducible show wpList _ _ _ ({ dst := _, op := Op.load 24 _, type := _, pos := _, after := _, guard := _ } :: _) _ _); refine wpList_load_ino rfl _ rfl (HX.out.ino) rfl ?_))
  refine (NA _).mono ?_
  rintro e w1 ⟨rfl, h1⟩
  have HB : Hid (Below w.heap.size w w1) := (HX.out.up h1).b
  clear HX h1 NA
  go_wp2_with fail
  go_loopw [3, 8] (fun v t wr => ∃ k : Nat, k ≤ 8 ∧ t = .int .i64 k ∧ Hid (OwnI wr w.heap.size v (nz (i.ns.take k))) ∧ Hid (Below w.heap.size w wr)) (fun _ t _ => 8 - (intOf t).toNat)
  case atStart => exact ⟨0, by omega, rfl, OwnI.nil _ _, HB⟩
  case round =>
    obtain ⟨k, hk, rfl, HO, HBW⟩ := hrel
    clear HB
    by_cases hlt : (k : Int) < 8
    · have hix := run_index8 HN.out k (by omega)
      have HST : Hid _ := nz_step (l := i.ns) (k := k) (by rw [HN.out]; omega)
      generalize i.ns.getD k 0 = x at *
      have hz := HBW.out.size
      by_cases hx : x = 0
      · have HO2 : Hid (OwnI wr w.heap.size u3 (nz (i.ns.take (k + 1)))) := by rw [HST.out, if_pos hx]; exact HO.out
        clear HO HST
        go_wp2
        go_roundw
        case rel => exact ⟨k + 1, by omega, by go_num, HO2, HBW⟩
        case measure => simp [intOf]; omega
      · have HS2 : Hid (nz (i.ns.take k) ++ [x] = nz (i.ns.take (k + 1))) := by rw [HST.out, if_neg hx]; rfl
        have hlen : (nz (i.ns.take k)).length ≤ 1000000 := by
          have := nz_len (i.ns.take k)
          rw [List.length_take] at this
          omega
        have hxb : (x == 0) = false := by simpa using hx
        clear HST
        have hO := HO.out
        go_wp2_with (at_builtin; refine wpList_append_int rfl (.tmp 13) (.tmp 15) rfl w.heap.size (nz (i.ns.take k)) x _ rfl _ _ rfl (hO.below ((Below.refl _ _).alloc (Nat.le_refl _) _) (Nat.le_refl _)) (heap_alloc_new _ _) (by simp; omega) hlen ?_; intro v' w2 hO2 hb2)
        rw [HS2.out] at hO2
        have HB2 : Hid (Below w.heap.size w w2) := (HBW.out.alloc hz _).trans hb2
        clear HO hO
        go_roundw
        case rel => exact ⟨k + 1, by omega, by go_num, hO2, HB2⟩
        case measure => simp [intOf]; omega
    · obtain rfl : k = 8 := by omega
      have HO2 : Hid (OwnI wr w.heap.size u3 (nz i.ns)) := by
        have := HO.out
        rw [List.take_of_length_le (by rw [HN.out]; omega)] at this
        exact this
      go_wp2
      go_ret
      exact ⟨_, rfl, HO2.out, HBW.out⟩
end Go.Proofs.Ytabmogeicpphoaa
