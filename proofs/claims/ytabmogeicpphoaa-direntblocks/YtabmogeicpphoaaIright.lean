/- inode.Right, leveeref07.Right. -/
import Derived.Test.YtabmogeicpphoaaBound
namespace Go.Proofs.Ytabmogeicpphoaa
open Go.RowKit
/-- An inode that can be. -/
def szB (i : Ino) : Bool := if i.k = 3 then decide (1 ≤ i.s) && decide (i.s ≤ 255) else (decide (0 ≤ i.s) && decide (i.s ≤ 1066496)) && (decide (i.k ≠ 2) || decide (i.s % 256 = 0))
def rtB (i : Ino) : Bool := if i.k = 0 then eqI i zino else (decide (1 ≤ i.k) && decide (i.k ≤ 3)) && (szB i && bndB i)
theorem emod_tmod {x : Int} (h : x.tmod 256 = 0) : x % 256 = 0 := Int.emod_eq_zero_of_dvd (Int.dvd_of_tmod_eq_zero h)
theorem tmod_emod {x : Int} (h : x % 256 = 0) : x.tmod 256 = 0 := Int.tmod_eq_zero_of_dvd (Int.dvd_of_emod_eq_zero h)
set_option maxHeartbeats 2000000 in
theorem iright_any (i : Ino) (hn : i.ns.length = 8) (w : World) :
    Calls Try.prog 14 #[.agg (iA i)] w fun e w' => e = .returned (.bool (rtB i)) ∧ Below w.heap.size w w' := by
  have hz := zeroI
  have HI : Hid (InoAt (w.alloc (.cells (iA i) 24)) w.heap.size i) := ino_new w i hn
  have HB : Hid (Below w.heap.size w (w.alloc (.cells (iA i) 24))) := (Below.refl _ _).alloc (Nat.le_refl _) _
  have BA := fun W => bounded_any i hn W
  have HN : Hid (i.ns.length = 8) := hn
  have q0 := HI.out.c0
  have q2 := HI.out.c2
  have FR : Hid (i.k = 0 → ∀ b, eqI i zino = b → Ending.returned (.bool b) = .returned (.bool (rtB i))) := fun h b hb => by rw [rtB, if_pos h, hb]
  have FB : Hid (∀ h : (¬ i.k = 0), ∀ b, ((decide (1 ≤ i.k) && decide (i.k ≤ 3)) && (szB i && bndB i)) = b → Ending.returned (.bool b) = .returned (.bool (rtB i))) := fun h b hb => by rw [rtB, if_neg h, hb]
  unfold szB at FB
  clear hn
  obtain ⟨K, HK⟩ : ∃ x, Hid (x = i.k) := ⟨_, rfl⟩
  obtain ⟨S, HS⟩ : ∃ x, Hid (x = i.s) := ⟨_, rfl⟩
  rw [← HK.out] at q0 FR FB
  rw [← HS.out] at q2 FB
  by_cases k0 : K = 0
  · go_enter Try.func14, Try.ntmps14
    go_wp2_with (first | ((with_reducible show wpList _ _ _ ({ dst := _, op := Op.load 24 _, type := _, pos := _, after := _, guard := _ } :: _) _ _); refine wpList_load_ino rfl _ rfl (HI.out) rfl ?_) | ((with_reducible show wpList _ _ _ ({ dst := _, op := Op.binOp BinOp.eql 24 _ _ 24, type := _, pos := _, after := _, guard := _ } :: _) _ _); refine wpList_eq_ino rfl _ _ rfl rfl rfl HN.out rfl rfl ?_))
    go_ret
    exact ⟨FR.out k0 _ rfl, HB.out⟩
  by_cases k2 : K = 2
  · by_cases s2 : S.tmod 256 = 0
    · by_cases s0 : S < 0
      · have d0 : decide (0 ≤ S) = false := by simp; omega
        go_enter Try.func14, Try.ntmps14
        go_wp2_with (first | ((with_reducible show wpList _ _ _ ({ dst := _, op := Op.load 24 _, type := _, pos := _, after := _, guard := _ } :: _) _ _); refine wpList_load_ino rfl _ rfl (HI.out) rfl ?_))
        go_ret
        exact ⟨FB.out k0 _ (by simp [k2]; omega), HB.out⟩
      by_cases s1 : 1066496 < S
      · have d0 : decide (S ≤ 1066496) = false := by simp; omega
        go_enter Try.func14, Try.ntmps14
        go_wp2_with (first | ((with_reducible show wpList _ _ _ ({ dst := _, op := Op.load 24 _, type := _, pos := _, after := _, guard := _ } :: _) _ _); refine wpList_load_ino rfl _ rfl (HI.out) rfl ?_))
        go_ret
        exact ⟨FB.out k0 _ (by simp [k2]; omega), HB.out⟩
      · generalize bndB i = B at *
        have d0 : 0 ≤ S := by omega
        have d1 : S ≤ 1066496 := by omega
        go_enter Try.func14, Try.ntmps14
        go_wp2_with (first | ((with_reducible show wpList _ _ _ ({ dst := _, op := Op.load 24 _, type := _, pos := _, after := _, guard := _ } :: _) _ _); refine wpList_load_ino rfl _ rfl (HI.out) rfl ?_))
        refine (BA _).mono ?_
        rintro e w1 ⟨rfl, h1⟩
        go_wp2
        go_ret
        exact ⟨FB.out k0 _ (by have := emod_tmod s2; simp [k2]; omega), HB.out.trans (h1.mono HB.out.size)⟩
    · have s2' : ¬ S % 256 = 0 := fun h => s2 (tmod_emod h)
      go_enter Try.func14, Try.ntmps14
      go_wp2_with (first | ((with_reducible show wpList _ _ _ ({ dst := _, op := Op.load 24 _, type := _, pos := _, after := _, guard := _ } :: _) _ _); refine wpList_load_ino rfl _ rfl (HI.out) rfl ?_))
      go_ret
      exact ⟨FB.out k0 _ (by simp [k2]; omega), HB.out⟩
  by_cases k1 : K = 1
  · by_cases s0 : S < 0
    · have d0 : decide (0 ≤ S) = false := by simp; omega
      go_enter Try.func14, Try.ntmps14
      go_wp2_with (first | ((with_reducible show wpList _ _ _ ({ dst := _, op := Op.load 24 _, type := _, pos := _, after := _, guard := _ } :: _) _ _); refine wpList_load_ino rfl _ rfl (HI.out) rfl ?_))
      go_ret
      exact ⟨FB.out k0 _ (by simp [k1]; omega), HB.out⟩
    by_cases s1 : 1066496 < S
    · have d0 : decide (S ≤ 1066496) = false := by simp; omega
      go_enter Try.func14, Try.ntmps14
      go_wp2_with (first | ((with_reducible show wpList _ _ _ ({ dst := _, op := Op.load 24 _, type := _, pos := _, after := _, guard := _ } :: _) _ _); refine wpList_load_ino rfl _ rfl (HI.out) rfl ?_))
      go_ret
      exact ⟨FB.out k0 _ (by simp [k1]; omega), HB.out⟩
    · generalize bndB i = B at *
      have d0 : 0 ≤ S := by omega
      have d1 : S ≤ 1066496 := by omega
      go_enter Try.func14, Try.ntmps14
      go_wp2_with (first | ((with_reducible show wpList _ _ _ ({ dst := _, op := Op.load 24 _, type := _, pos := _, after := _, guard := _ } :: _) _ _); refine wpList_load_ino rfl _ rfl (HI.out) rfl ?_))
      refine (BA _).mono ?_
      rintro e w1 ⟨rfl, h1⟩
      go_wp2
      go_ret
      exact ⟨FB.out k0 _ (by simp [k1]; omega), HB.out.trans (h1.mono HB.out.size)⟩
  by_cases k3 : K = 3
  · by_cases s0 : S < 1
    · have d0 : decide (1 ≤ S) = false := by simp; omega
      go_enter Try.func14, Try.ntmps14
      go_wp2_with (first | ((with_reducible show wpList _ _ _ ({ dst := _, op := Op.load 24 _, type := _, pos := _, after := _, guard := _ } :: _) _ _); refine wpList_load_ino rfl _ rfl (HI.out) rfl ?_))
      go_ret
      exact ⟨FB.out k0 _ (by simp [k3]; omega), HB.out⟩
    by_cases s1 : 255 < S
    · have d0 : decide (S ≤ 255) = false := by simp; omega
      go_enter Try.func14, Try.ntmps14
      go_wp2_with (first | ((with_reducible show wpList _ _ _ ({ dst := _, op := Op.load 24 _, type := _, pos := _, after := _, guard := _ } :: _) _ _); refine wpList_load_ino rfl _ rfl (HI.out) rfl ?_))
      go_ret
      exact ⟨FB.out k0 _ (by simp [k3]; omega), HB.out⟩
    · generalize bndB i = B at *
      have d0 : 1 ≤ S := by omega
      have d1 : S ≤ 255 := by omega
      go_enter Try.func14, Try.ntmps14
      go_wp2_with (first | ((with_reducible show wpList _ _ _ ({ dst := _, op := Op.load 24 _, type := _, pos := _, after := _, guard := _ } :: _) _ _); refine wpList_load_ino rfl _ rfl (HI.out) rfl ?_))
      refine (BA _).mono ?_
      rintro e w1 ⟨rfl, h1⟩
      go_wp2
      go_ret
      exact ⟨FB.out k0 _ (by simp [k3]; omega), HB.out.trans (h1.mono HB.out.size)⟩
  · go_enter Try.func14, Try.ntmps14
    go_wp2_with (first | ((with_reducible show wpList _ _ _ ({ dst := _, op := Op.load 24 _, type := _, pos := _, after := _, guard := _ } :: _) _ _); refine wpList_load_ino rfl _ rfl (HI.out) rfl ?_))
    go_ret
    exact ⟨FB.out k0 _ (by simp; omega), HB.out⟩
end Go.Proofs.Ytabmogeicpphoaa
