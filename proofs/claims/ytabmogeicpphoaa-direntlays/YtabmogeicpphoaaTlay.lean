/- inode.Lay, leveeref07.Lay. -/
import Derived.Test.YtabmogeicpphoaaTab
namespace Go.Proofs.Ytabmogeicpphoaa
open Go.RowKit
def layTE (n : Nat) (p : Int) (i : Ino) : Int := if stE n p = 0 then putE i else stE n p
def layTX (l : List UInt8) (p : Int) (i : Ino) : List UInt8 := if stE l.length p = 0 then (if rtB i then layAt l (64 * p.toNat) (layI i) else []) else []
theorem in_tab (P : Nat) (hP : (P : Int) < 4) (f : Int) (hf : f = (P : Int) * 64) : inB 256 f 64 = true := by
  unfold inB; simp; omega
theorem layL_at (l c : List UInt8) (P : Nat) (hl : l.length = 256) (hc : c.length = 64) (hP : (P : Int) < 4) (f : Int) (hf : f = (P : Int) * 64) : layL l f c = layAt l (64 * P) c := by
  unfold layL layAt
  rw [hl, hc, show ((64 : Nat) : Int) = 64 from rfl, in_tab P hP f hf, if_pos rfl, hf, show ((P : Int) * 64).toNat = 64 * P by omega]
set_option maxHeartbeats 4000000 in
theorem ilayT_no (sp : Option Addr) (n cap : Nat) (p E : Int) (i : Ino) (hn : i.ns.length = 8) (hE : stE n p = E) (h0 : ¬ E = 0) (w : World) :
    Calls Try.prog 27 #[.slice sp n cap, .int .i64 p, .agg (iA i)] w fun e w' => e = .returned (.tuple #[.slice none 0 0, .int .i64 E]) ∧ Below w.heap.size w w' := by
  have HX : Hid _ := PI.start w i hn
  have ST := start_any sp n cap p
  rw [hE] at ST
  generalize stP n p = P at ST
  clear hE hn
  go_enter Try.func27, Try.ntmps27
  go_wp2_with fail
  refine (ST _).mono ?_
  rintro e w1 ⟨rfl, hw1⟩
  rw [hw1]
  clear hw1 w1 ST
  go_wp2
  go_ret2
  exact ⟨rfl, HX.out.b⟩
set_option maxHeartbeats 4000000 in
theorem ilayT_bad (sp : Option Addr) (cap : Nat) (P : Nat) (i : Ino) (hn : i.ns.length = 8) (hP : (P : Int) < 4) (hr : rtB i = false) (w : World) :
    Calls Try.prog 27 #[.slice sp 256 cap, .int .i64 (P : Int), .agg (iA i)] w fun e w' => e = .returned (.tuple #[.slice none 0 0, .int .i64 1]) ∧ Below w.heap.size w w' := by
  have HX : Hid _ := PI.start w i hn
  have PN := iput_no i hn hr
  have ST := start_any sp 256 cap (P : Int)
  rw [show stP 256 (P : Int) = (P : Int) * 64 by unfold stP; rw [if_pos rfl, if_pos (by omega)], show stE 256 (P : Int) = 0 by unfold stE; rw [if_pos rfl, if_pos (by omega)]] at ST
  go_enter Try.func27, Try.ntmps27
  go_wp2_with fail
  refine (ST _).mono ?_
  rintro e w1 ⟨rfl, hw1⟩
  rw [hw1]
  clear hw1 w1 ST
  go_wp2_with (first | ((with_reducible show wpList _ _ _ ({ dst := _, op := Op.load 24 _, type := _, pos := _, after := _, guard := _ } :: _) _ _); refine wpList_load_ino rfl _ rfl (HX.out.ino) rfl ?_))
  refine (PN _).mono ?_
  rintro e w2 ⟨rfl, h2⟩
  have HB := (HX.out.up h2).b
  go_wp2
  go_ret2
  exact ⟨rfl, HB⟩
set_option maxHeartbeats 4000000 in
theorem ilayT_ok (sp : Option Addr) (cap : Nat) (l : List UInt8) (P : Nat) (i : Ino) (hn : i.ns.length = 8) (hl : l.length = 256) (hP : (P : Int) < 4) (hr : rtB i = true) (w : World) (ha : Arg w sp cap l) :
    Calls Try.prog 27 #[.slice sp 256 cap, .int .i64 (P : Int), .agg (iA i)] w fun e w' => ∃ v, e = .returned (.tuple #[v, .int .i64 0]) ∧ Own w' w.heap.size v (layAt l (64 * P) (layI i)) ∧ Below w.heap.size w w' := by
  have HX : Hid _ := PI.start w i hn
  have PY := iput_any i hn
  have hli := layI_length hn
  rw [show putX i = layI i by unfold putX; rw [hr]; rfl, show putE i = 0 by unfold putE; rw [hr]; rfl, hli] at PY
  have HLE : Hid _ := layL_at l (layI i) P hl hli hP ((P : Int) * 64) (by omega)
  have HIN := in_tab P hP ((P : Int) * 64) (by omega)
  have HLY : Hid (∀ W (sc : Option Addr) (cc : Nat), Below w.heap.size w W → Arg W sc cc (layI i) → Calls Try.prog 59 #[.slice sp 256 cap, .int .i64 ((P : Int) * 64), .slice sc 64 cc] W fun e w' => ∃ v, e = .returned (.tuple #[v, .int .i64 0]) ∧ Own w' W.heap.size v (layAt l (64 * P) (layI i)) ∧ Below W.heap.size W w') := by
    intro W sc cc hW hc
    have h := lay_any sp sc l (layI i) cap cc ((P : Int) * 64) W (ha.src.below hW (Nat.le_refl _)) hc.src (by omega) (by omega) (by omega)
    rw [hl, hli, show ((64 : Nat) : Int) = 64 from rfl, HIN, HLE.out] at h
    exact h
  clear hr ha hl HLE hli HIN
  have ST := start_any sp 256 cap (P : Int)
  rw [show stP 256 (P : Int) = (P : Int) * 64 by unfold stP; rw [if_pos rfl, if_pos (by omega)], show stE 256 (P : Int) = 0 by unfold stE; rw [if_pos rfl, if_pos (by omega)]] at ST
  go_enter Try.func27, Try.ntmps27
  go_wp2_with fail
  refine (ST _).mono ?_
  rintro e w1 ⟨rfl, hw1⟩
  rw [hw1]
  clear hw1 w1 ST
  go_wp2_with (first | ((with_reducible show wpList _ _ _ ({ dst := _, op := Op.load 24 _, type := _, pos := _, after := _, guard := _ } :: _) _ _); refine wpList_load_ino rfl _ rfl (HX.out.ino) rfl ?_))
  refine (PY _).mono ?_
  rintro e w2 ⟨sc, cc, rfl, hc, _, h2⟩
  have HB2 : Hid (Below w.heap.size w w2) := (HX.out.up h2).b
  have HC2 : Hid (Arg w2 sc cc (layI i)) := hc
  clear HX PY hc h2
  go_wp2_with fail
  refine (HLY.out _ sc cc HB2.out HC2.out).mono ?_
  rintro e w3 ⟨v, rfl, ho, h3⟩
  have hB := HB2.out.trans (h3.mono HB2.out.size)
  go_wp2
  go_ret2
  exact ⟨_, rfl, ho.mono HB2.out.size, hB⟩
theorem ilayT_any (sp : Option Addr) (cap : Nat) (l : List UInt8) (p : Int) (i : Ino) (hn : i.ns.length = 8) (w : World) (ha : Arg w sp cap l) :
    Calls Try.prog 27 #[.slice sp l.length cap, .int .i64 p, .agg (iA i)] w fun e w' => ∃ v, e = .returned (.tuple #[v, .int .i64 (layTE l.length p i)]) ∧ Own w' w.heap.size v (layTX l p i) ∧ Below w.heap.size w w' := by
  unfold layTE layTX
  by_cases h0 : stE l.length p = 0
  · rw [if_pos h0, if_pos h0]
    obtain ⟨h1, h2, h3⟩ := stE_zero h0
    obtain ⟨P, rfl⟩ := Int.eq_ofNat_of_zero_le h2
    rw [h1, Int.toNat_natCast]
    cases hr : rtB i
    · refine (ilayT_bad sp cap P i hn h3 hr w).mono ?_
      rintro e w' ⟨rfl, hb⟩
      refine ⟨_, by unfold putE; rw [hr]; rfl, ?_, hb⟩
      exact Own.nil _ _
    · refine (ilayT_ok sp cap l P i hn h1 h3 hr w ha).mono ?_
      rintro e w' ⟨v, rfl, ho, hb⟩
      exact ⟨v, by unfold putE; rw [hr]; rfl, ho, hb⟩
  · rw [if_neg h0, if_neg h0]
    refine (ilayT_no sp l.length cap p _ i hn rfl h0 w).mono ?_
    rintro e w' ⟨rfl, hb⟩
    exact ⟨_, rfl, Own.nil _ _, hb⟩
set_option maxHeartbeats 4000000 in
theorem rlayT_no (sp : Option Addr) (n cap : Nat) (p E : Int) (i : Ino) (hn : i.ns.length = 8) (hE : stE n p = E) (h0 : ¬ E = 0) (w : World) :
    Calls Try.prog 28 #[.slice sp n cap, .int .i64 p, .agg (iA i)] w fun e w' => e = .returned (.tuple #[.slice none 0 0, .int .i64 E]) ∧ Below w.heap.size w w' := by
  have HX : Hid _ := PI.start w i hn
  unfold stE at hE
  by_cases hn : (n : Int) = 256
  · rw [if_pos (by omega)] at hE
    by_cases g0 : p < 0
    · rw [if_neg (by omega)] at hE
      subst hE
      go_enter Try.func28, Try.ntmps28
      go_wp2
      go_ret2
      exact ⟨rfl, HX.out.b⟩
    by_cases g1 : 3 < p
    · rw [if_neg (by omega)] at hE
      subst hE
      go_enter Try.func28, Try.ntmps28
      go_wp2
      go_ret2
      exact ⟨rfl, HX.out.b⟩
    · rw [if_pos (by omega)] at hE
      exact absurd hE.symm h0
  · rw [if_neg (by omega)] at hE
    subst hE
    go_enter Try.func28, Try.ntmps28
    go_wp2
    go_ret2
    exact ⟨rfl, HX.out.b⟩
set_option maxHeartbeats 4000000 in
theorem rlayT_bad (sp : Option Addr) (cap : Nat) (P : Nat) (i : Ino) (hn : i.ns.length = 8) (hP : (P : Int) < 4) (hr : rtB i = false) (w : World) :
    Calls Try.prog 28 #[.slice sp 256 cap, .int .i64 (P : Int), .agg (iA i)] w fun e w' => e = .returned (.tuple #[.slice none 0 0, .int .i64 1]) ∧ Below w.heap.size w w' := by
  have HX : Hid _ := PI.start w i hn
  have PN := rput7_no i hn hr
  have d0 : ¬ (P : Int) < 0 := by omega
  have d3 : ¬ (3 : Int) < (P : Int) := by omega
  go_enter Try.func28, Try.ntmps28
  go_wp2_with (first | ((with_reducible show wpList _ _ _ ({ dst := _, op := Op.load 24 _, type := _, pos := _, after := _, guard := _ } :: _) _ _); refine wpList_load_ino rfl _ rfl (HX.out.ino) rfl ?_))
  refine (PN _).mono ?_
  rintro e w2 ⟨rfl, h2⟩
  have HB := (HX.out.up h2).b
  go_wp2
  go_ret2
  exact ⟨rfl, HB⟩
set_option maxHeartbeats 4000000 in
theorem rlayT_ok (sp : Option Addr) (cap : Nat) (l : List UInt8) (P : Nat) (i : Ino) (hn : i.ns.length = 8) (hl : l.length = 256) (hP : (P : Int) < 4) (hr : rtB i = true) (w : World) (ha : Arg w sp cap l) :
    Calls Try.prog 28 #[.slice sp 256 cap, .int .i64 (P : Int), .agg (iA i)] w fun e w' => ∃ v, e = .returned (.tuple #[v, .int .i64 0]) ∧ Own w' w.heap.size v (layAt l (64 * P) (layI i)) ∧ Below w.heap.size w w' := by
  have HX : Hid _ := PI.start w i hn
  have PY := rput7_any i hn
  have hli := layI_length hn
  rw [show putX i = layI i by unfold putX; rw [hr]; rfl, show putE i = 0 by unfold putE; rw [hr]; rfl, hli] at PY
  have HLE : Hid _ := layL_at l (layI i) P hl hli hP (64 * (P : Int)) (by omega)
  have HIN := in_tab P hP (64 * (P : Int)) (by omega)
  have HLY : Hid (∀ W (sc : Option Addr) (cc : Nat), Below w.heap.size w W → Arg W sc cc (layI i) → Calls Try.prog 60 #[.slice sp 256 cap, .int .i64 (64 * (P : Int)), .slice sc 64 cc] W fun e w' => ∃ v, e = .returned (.tuple #[v, .int .i64 0]) ∧ Own w' W.heap.size v (layAt l (64 * P) (layI i)) ∧ Below W.heap.size W w') := by
    intro W sc cc hW hc
    have h := rlay_any sp sc l (layI i) cap cc (64 * (P : Int)) W (ha.below hW (Nat.le_refl _)) hc (by omega)
    rw [hl, hli, show ((64 : Nat) : Int) = 64 from rfl, HIN, HLE.out] at h
    exact h
  clear hr ha hl HLE hli HIN
  have d0 : ¬ (P : Int) < 0 := by omega
  have d3 : ¬ (3 : Int) < (P : Int) := by omega
  go_enter Try.func28, Try.ntmps28
  go_wp2_with (first | ((with_reducible show wpList _ _ _ ({ dst := _, op := Op.load 24 _, type := _, pos := _, after := _, guard := _ } :: _) _ _); refine wpList_load_ino rfl _ rfl (HX.out.ino) rfl ?_))
  refine (PY _).mono ?_
  rintro e w2 ⟨sc, cc, rfl, hc, _, h2⟩
  have HB2 : Hid (Below w.heap.size w w2) := (HX.out.up h2).b
  have HC2 : Hid (Arg w2 sc cc (layI i)) := hc
  clear HX PY hc h2
  go_wp2_with fail
  refine (HLY.out _ sc cc HB2.out HC2.out).mono ?_
  rintro e w3 ⟨v, rfl, ho, h3⟩
  have hB := HB2.out.trans (h3.mono HB2.out.size)
  go_wp2
  go_ret2
  exact ⟨_, rfl, ho.mono HB2.out.size, hB⟩
theorem rlayT_any (sp : Option Addr) (cap : Nat) (l : List UInt8) (p : Int) (i : Ino) (hn : i.ns.length = 8) (w : World) (ha : Arg w sp cap l) :
    Calls Try.prog 28 #[.slice sp l.length cap, .int .i64 p, .agg (iA i)] w fun e w' => ∃ v, e = .returned (.tuple #[v, .int .i64 (layTE l.length p i)]) ∧ Own w' w.heap.size v (layTX l p i) ∧ Below w.heap.size w w' := by
  unfold layTE layTX
  by_cases h0 : stE l.length p = 0
  · rw [if_pos h0, if_pos h0]
    obtain ⟨h1, h2, h3⟩ := stE_zero h0
    obtain ⟨P, rfl⟩ := Int.eq_ofNat_of_zero_le h2
    rw [h1, Int.toNat_natCast]
    cases hr : rtB i
    · refine (rlayT_bad sp cap P i hn h3 hr w).mono ?_
      rintro e w' ⟨rfl, hb⟩
      refine ⟨_, by unfold putE; rw [hr]; rfl, ?_, hb⟩
      exact Own.nil _ _
    · refine (rlayT_ok sp cap l P i hn h1 h3 hr w ha).mono ?_
      rintro e w' ⟨v, rfl, ho, hb⟩
      exact ⟨v, by unfold putE; rw [hr]; rfl, ho, hb⟩
  · rw [if_neg h0, if_neg h0]
    refine (rlayT_no sp l.length cap p _ i hn rfl h0 w).mono ?_
    rintro e w' ⟨rfl, hb⟩
    exact ⟨_, rfl, Own.nil _ _, hb⟩
end Go.Proofs.Ytabmogeicpphoaa
