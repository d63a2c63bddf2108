/- dirent.right, leveeref08.Right. -/
import Derived.Test.YtabmogeicpphoaaEnt
namespace Go.Proofs.Ytabmogeicpphoaa
open Go.RowKit
/-- An entry that can be. -/
def rtE (e : Ent) : Bool := if e.sl = 0 then eqE e zent else (decide (1 ≤ e.sl) && decide (e.sl ≤ 1023)) && nmB e.nm
set_option maxHeartbeats 2000000 in
theorem eright_any (e : Ent) (w : World) :
    Calls Try.prog 61 #[.agg (eA e)] w fun r w' => r = .returned (.bool (rtE e)) ∧ Below w.heap.size w w' := by
  have hz := zeroE
  have HX : Hid _ := PE.start w e
  have q0 := HX.out.ent.c0
  have q2 := HX.out.ent.c2
  have NM := dname_any e.nm
  have FR : Hid (e.sl = 0 → ∀ b, eqE e zent = b → Ending.returned (.bool b) = .returned (.bool (rtE e))) := fun h b hb => by rw [rtE, if_pos h, hb]
  have FB : Hid (∀ h : (¬ e.sl = 0), ∀ b, ((decide (1 ≤ e.sl) && decide (e.sl ≤ 1023)) && nmB e.nm) = b → Ending.returned (.bool b) = .returned (.bool (rtE e))) := fun h b hb => by rw [rtE, if_neg h, hb]
  obtain ⟨S, HS⟩ : ∃ x, Hid (x = e.sl) := ⟨_, rfl⟩
  obtain ⟨N, HN⟩ : ∃ x, Hid (x = e.nm) := ⟨_, rfl⟩
  rw [← HS.out] at q0 FR FB
  rw [← HN.out] at q2 FB NM
  by_cases k0 : S = 0
  · go_enter Try.func61, Try.ntmps61
    go_wp2_with (first | ((with_reducible show wpList _ _ _ ({ dst := _, op := Op.load 48 _, type := _, pos := _, after := _, guard := _ } :: _) _ _); refine wpList_load_ent rfl _ rfl (HX.out.ent) rfl ?_) | ((with_reducible show wpList _ _ _ ({ dst := _, op := Op.binOp BinOp.eql 48 _ _ 48, type := _, pos := _, after := _, guard := _ } :: _) _ _); refine wpList_eq_ent rfl _ _ rfl rfl rfl rfl ?_))
    go_ret
    exact ⟨FR.out k0 _ rfl, HX.out.b⟩
  have kb : (S == 0) = false := by simpa using k0
  by_cases s0 : S < 1
  · have d0 : decide (1 ≤ S) = false := by simp; omega
    go_enter Try.func61, Try.ntmps61
    go_wp2_with fail
    go_ret
    exact ⟨FB.out k0 _ (by rw [d0]; rfl), HX.out.b⟩
  have s0' : 1 ≤ S := by omega
  by_cases s1 : 1023 < S
  · have d0 : decide (S ≤ 1023) = false := by simp; omega
    go_enter Try.func61, Try.ntmps61
    go_wp2_with fail
    go_ret
    exact ⟨FB.out k0 _ (by rw [d0]; simp), HX.out.b⟩
  have s1' : S ≤ 1023 := by omega
  generalize nmB N = NB at *
  go_enter Try.func61, Try.ntmps61
  go_wp2_with fail
  refine (NM _).mono ?_
  rintro r w1 ⟨rfl, h1⟩
  have HB := (HX.out.up h1).b
  go_wp2
  go_ret
  exact ⟨FB.out k0 _ (by simp [s0', s1']), HB⟩
set_option maxHeartbeats 2000000 in
theorem rright8_any (e : Ent) (hl : e.nm.length ≤ 9223372036854775807) (w : World) :
    Calls Try.prog 63 #[.agg (eA e)] w fun r w' => r = .returned (.bool (rtE e)) ∧ Below w.heap.size w w' := by
  have HX : Hid _ := PE.start w e
  have q0 := HX.out.ent.c0
  have q1 := HX.out.ent.c1
  have q2 := HX.out.ent.c2
  have NM := rname_any e.nm hl
  have FR : Hid (e.sl = 0 → ∀ b, (!e.lv && (e.nm == [])) = b → Ending.returned (.bool b) = .returned (.bool (rtE e))) := fun h b hb => by
    rw [rtE, if_pos h, ← hb]
    unfold eqE
    rw [h]
    cases hv : e.lv <;> simp [zent]
  have FB : Hid (∀ h : (¬ e.sl = 0), ∀ b, ((decide (1 ≤ e.sl) && decide (e.sl ≤ 1023)) && nmB e.nm) = b → Ending.returned (.bool b) = .returned (.bool (rtE e))) := fun h b hb => by rw [rtE, if_neg h, hb]
  have e0 : ((str e.nm).toList == []) = (e.nm == []) := by rw [str_toList]
  obtain ⟨S, HS⟩ : ∃ x, Hid (x = e.sl) := ⟨_, rfl⟩
  obtain ⟨L, HL⟩ : ∃ x, Hid (x = e.lv) := ⟨_, rfl⟩
  obtain ⟨N, HN⟩ : ∃ x, Hid (x = e.nm) := ⟨_, rfl⟩
  rw [← HS.out] at q0 FR FB
  rw [← HL.out] at q1 FR
  rw [← HN.out] at q2 FR FB NM e0
  by_cases k0 : S = 0
  · cases L
    · cases hn : (N == [])
      · rw [hn] at e0 FR
        clear hn
        go_enter Try.func63, Try.ntmps63
        go_wp2_with fail
        go_ret
        exact ⟨FR.out k0 _ rfl, HX.out.b⟩
      · rw [hn] at e0 FR
        clear hn
        go_enter Try.func63, Try.ntmps63
        go_wp2_with fail
        go_ret
        exact ⟨FR.out k0 _ rfl, HX.out.b⟩
    · go_enter Try.func63, Try.ntmps63
      go_wp2_with fail
      go_ret
      exact ⟨FR.out k0 _ rfl, HX.out.b⟩
  have kb : (S == 0) = false := by simpa using k0
  by_cases s0 : S < 1
  · have d0 : decide (1 ≤ S) = false := by simp; omega
    go_enter Try.func63, Try.ntmps63
    go_wp2_with fail
    go_ret
    exact ⟨FB.out k0 _ (by rw [d0]; rfl), HX.out.b⟩
  have s0' : 1 ≤ S := by omega
  by_cases s1 : 1023 < S
  · have d0 : decide (S ≤ 1023) = false := by simp; omega
    go_enter Try.func63, Try.ntmps63
    go_wp2_with fail
    go_ret
    exact ⟨FB.out k0 _ (by rw [d0]; simp), HX.out.b⟩
  have s1' : S ≤ 1023 := by omega
  generalize nmB N = NB at *
  go_enter Try.func63, Try.ntmps63
  go_wp2_with fail
  refine (NM _).mono ?_
  rintro r w1 ⟨rfl, hw1⟩
  rw [hw1]
  go_wp2
  go_ret
  exact ⟨FB.out k0 _ (by simp [s0', s1']), HX.out.b⟩
/-- The bytes of an entry. -/
def lvB (b : Bool) : UInt8 := if b then 1 else 0
def layE (e : Ent) : List UInt8 := leB 2 e.sl.toNat ++ [lvB e.lv, UInt8.ofNat e.nm.length] ++ e.nm ++ List.replicate (28 - e.nm.length) 0
theorem layE_length {e : Ent} (h : e.nm.length ≤ 24) : (layE e).length = 32 := by simp [layE, leB_length]; omega
structure EnR (e : Ent) : Prop where
  sl : 0 ≤ e.sl ∧ e.sl ≤ 1023
  nm : e.nm.length ≤ 24
theorem rtE_enR {e : Ent} (h : rtE e = true) : EnR e := by
  unfold rtE at h
  by_cases hk : e.sl = 0
  · rw [if_pos hk, eqE_iff] at h
    subst h
    exact ⟨by simp [zent], by simp [zent]⟩
  · rw [if_neg hk] at h
    simp only [Bool.and_eq_true, decide_eq_true_eq, nmB] at h
    obtain ⟨h1, ⟨⟨h2, h3⟩, _⟩, _⟩ := h
    exact ⟨by omega, h3⟩
end Go.Proofs.Ytabmogeicpphoaa
