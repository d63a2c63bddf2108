/- Get of Put, for entries. -/
import Derived.Test.YtabmogeicpphoaaKEtab
namespace Go.Proofs.Ytabmogeicpphoaa
open Go.RowKit
theorem layE_split (e : Ent) : layE e = leB 2 e.sl.toNat ++ (lvB e.lv :: UInt8.ofNat e.nm.length :: (e.nm ++ List.replicate (28 - e.nm.length) 0)) := by
  simp [layE]
theorem leB2 (x : Nat) : ∃ a b, leB 2 x = [a, b] := by
  have h := leB_length 2 x
  match leB 2 x, h with
  | [a, b], _ => exact ⟨a, b, rfl⟩
theorem rd_layE {e : Ent} (hr : EnR e) : rdE (layE e) = e := by
  have h1 := hr.sl
  have h2 := hr.nm
  have hs := layE_split e
  obtain ⟨a, b, hab⟩ := leB2 e.sl.toNat
  have e0 : rdP (layE e) 0 2 = e.sl.toNat := by
    unfold rdP
    rw [hs, List.drop_zero, List.take_left' (leB_length _ _), getNum_leB 2 _ (by omega) (by omega)]
  rw [hab] at hs
  have e2 : nth (layE e) 2 = (lvB e.lv).toNat := by rw [hs]; rfl
  have e3 : (layE e).getD 3 0 = UInt8.ofNat e.nm.length := by rw [hs]; rfl
  have e4 : (layE e).drop 4 = e.nm ++ List.replicate (28 - e.nm.length) 0 := by rw [hs]; rfl
  have e5 : rdL (layE e) = e.nm.length := by
    unfold rdL
    rw [e3]
    simp [UInt8.toNat_ofNat']
    omega
  unfold rdE
  rw [e0, e2, e4, e5, List.take_left' rfl, show ((e.sl.toNat : Nat) : Int) = e.sl by omega]
  obtain ⟨s, v, n⟩ := e
  cases v <;> rfl
theorem form_layE {e : Ent} (hr : rtE e = true) : formE (layE e) = true := by
  unfold formE
  rw [rd_layE (rtE_enR hr), hr]; simp
theorem get_layE {e : Ent} (hr : rtE e = true) : egetV (layE e) = e ∧ egetE (layE e) = 0 := by
  have hl := layE_length (rtE_enR hr).nm
  unfold egetV egetE egetI
  rw [if_pos hl, if_pos hl, form_layE hr, if_pos rfl, if_pos rfl, rd_layE (rtE_enR hr)]
  exact ⟨rfl, rfl⟩
/-- What Put answers. -/
def eputX (e : Ent) : List UInt8 := if rtE e then layE e else []
def eputE (e : Ent) : Int := if rtE e then 0 else 1
theorem eputX_le (e : Ent) : (eputX e).length ≤ 32 := by
  unfold eputX
  cases hr : rtE e
  · simp
  · rw [if_pos rfl, layE_length (rtE_enR hr).nm]; omega
theorem eput_any (e : Ent) (w : World) :
    Calls Try.prog 30 #[.agg (eA e)] w fun r w' => ∃ sp cap, r = .returned (.tuple #[.slice sp (eputX e).length cap, .int .i64 (eputE e)]) ∧ Arg w' sp cap (eputX e) ∧ (∀ b o, sp = some ⟨b, o, none⟩ → w.heap.size ≤ b) ∧ Below w.heap.size w w' := by
  unfold eputX eputE
  cases hr : rtE e
  · refine (eput_no e hr w).mono ?_
    rintro r w' ⟨rfl, hb⟩
    exact ⟨none, 0, rfl, .inl ⟨rfl, by simp⟩, (fun _ _ h => by cases h), hb⟩
  · refine (eput_yes e hr w).mono ?_
    rintro r w' ⟨G, rfl, hg, hG, hb⟩
    have hl := layE_length (rtE_enR hr).nm
    refine ⟨some ⟨G, 0, none⟩, 32, ?_, ?_, (fun b o h => by cases h; exact hG), hb⟩
    · rw [if_pos rfl, if_pos rfl, hl]
    · have := hg.arg (by omega) (by omega)
      rw [hl] at this
      exact this
theorem rput8_any (e : Ent) (hN : e.nm.length ≤ 9223372036854775807) (w : World) :
    Calls Try.prog 31 #[.agg (eA e)] w fun r w' => ∃ sp cap, r = .returned (.tuple #[.slice sp (eputX e).length cap, .int .i64 (eputE e)]) ∧ Arg w' sp cap (eputX e) ∧ (∀ b o, sp = some ⟨b, o, none⟩ → w.heap.size ≤ b) ∧ Below w.heap.size w w' := by
  unfold eputX eputE
  cases hr : rtE e
  · refine (rput8_no e hN hr w).mono ?_
    rintro r w' ⟨rfl, hb⟩
    exact ⟨none, 0, rfl, .inl ⟨rfl, by simp⟩, (fun _ _ h => by cases h), hb⟩
  · refine (rput8_yes e hr w).mono ?_
    rintro r w' ⟨v, rfl, ho, hb⟩
    have hl := layE_length (rtE_enR hr).nm
    obtain ⟨ao, cap, rfl, ha⟩ := ho.arg (by omega)
    refine ⟨ao, cap, rfl, ha, fun b o h => ?_, hb⟩
    subst h
    have := ho.lt b rfl
    exact this.1
end Go.Proofs.Ytabmogeicpphoaa
/- dirent.Lay, leveeref08.Lay. -/
namespace Go.Proofs.Ytabmogeicpphoaa
open Go.RowKit
def elayTE (n : Nat) (p : Int) (i : Ent) : Int := if dstE n p = 0 then eputE i else dstE n p
def elayTX (l : List UInt8) (p : Int) (i : Ent) : List UInt8 := if dstE l.length p = 0 then (if rtE i then layAt l (32 * p.toNat) (layE i) else []) else []
theorem in_tab8 (P : Nat) (hP : (P : Int) < 8) (f : Int) (hf : f = (P : Int) * 32) : inB 256 f 32 = true := by
  unfold inB; simp; omega
theorem layL_at8 (l c : List UInt8) (P : Nat) (hl : l.length = 256) (hc : c.length = 32) (hP : (P : Int) < 8) (f : Int) (hf : f = (P : Int) * 32) : layL l f c = layAt l (32 * P) c := by
  unfold layL layAt
  rw [hl, hc, show ((32 : Nat) : Int) = 32 from rfl, in_tab8 P hP f hf, if_pos rfl, hf, show ((P : Int) * 32).toNat = 32 * P by omega]
set_option maxHeartbeats 4000000 in
theorem dlayT_no (sp : Option Addr) (n cap : Nat) (p E : Int) (i : Ent) (hE : dstE n p = E) (h0 : ¬ E = 0) (w : World) :
    Calls Try.prog 46 #[.slice sp n cap, .int .i64 p, .agg (eA i)] w fun e w' => e = .returned (.tuple #[.slice none 0 0, .int .i64 E]) ∧ Below w.heap.size w w' := by
  have HX : Hid _ := PE.start w i
  have ST := dstart_any sp n cap p
  rw [hE] at ST
  generalize dstP n p = P at ST
  clear hE
  go_enter Try.func46, Try.ntmps46
  go_wp2_with fail
  refine (ST _).mono ?_
  rintro e w1 ⟨rfl, hw1⟩
  rw [hw1]
  clear hw1 w1 ST
  go_wp2
  go_ret2
  exact ⟨rfl, HX.out.b⟩
set_option maxHeartbeats 4000000 in
theorem dlayT_bad (sp : Option Addr) (cap : Nat) (P : Nat) (i : Ent) (hP : (P : Int) < 8) (hr : rtE i = false) (w : World) :
    Calls Try.prog 46 #[.slice sp 256 cap, .int .i64 (P : Int), .agg (eA i)] w fun e w' => e = .returned (.tuple #[.slice none 0 0, .int .i64 1]) ∧ Below w.heap.size w w' := by
  have HX : Hid _ := PE.start w i
  have PN := eput_no i hr
  have ST := dstart_any sp 256 cap (P : Int)
  rw [show dstP 256 (P : Int) = (P : Int) * 32 by unfold dstP; rw [if_pos rfl, if_pos (by omega)], show dstE 256 (P : Int) = 0 by unfold dstE; rw [if_pos rfl, if_pos (by omega)]] at ST
  go_enter Try.func46, Try.ntmps46
  go_wp2_with fail
  refine (ST _).mono ?_
  rintro e w1 ⟨rfl, hw1⟩
  rw [hw1]
  clear hw1 w1 ST
  go_wp2_with (first | ((with_reducible show wpList _ _ _ ({ dst := _, op := Op.load 48 _, type := _, pos := _, after := _, guard := _ } :: _) _ _); refine wpList_load_ent rfl _ rfl (HX.out.ent) rfl ?_))
  refine (PN _).mono ?_
  rintro e w2 ⟨rfl, h2⟩
  have HB := (HX.out.up h2).b
  go_wp2
  go_ret2
  exact ⟨rfl, HB⟩
set_option maxHeartbeats 4000000 in
theorem dlayT_ok (sp : Option Addr) (cap : Nat) (l : List UInt8) (P : Nat) (i : Ent) (hl : l.length = 256) (hP : (P : Int) < 8) (hr : rtE i = true) (w : World) (ha : Arg w sp cap l) :
    Calls Try.prog 46 #[.slice sp 256 cap, .int .i64 (P : Int), .agg (eA i)] w fun e w' => ∃ v, e = .returned (.tuple #[v, .int .i64 0]) ∧ Own w' w.heap.size v (layAt l (32 * P) (layE i)) ∧ Below w.heap.size w w' := by
  have HX : Hid _ := PE.start w i
  have PY := eput_any i
  have hli := layE_length (rtE_enR hr).nm
  rw [show eputX i = layE i by unfold eputX; rw [hr]; rfl, show eputE i = 0 by unfold eputE; rw [hr]; rfl, hli] at PY
  have HLE : Hid _ := layL_at8 l (layE i) P hl hli hP ((P : Int) * 32) (by omega)
  have HIN := in_tab8 P hP ((P : Int) * 32) (by omega)
  have HLY : Hid (∀ W (sc : Option Addr) (cc : Nat), Below w.heap.size w W → Arg W sc cc (layE i) → Calls Try.prog 59 #[.slice sp 256 cap, .int .i64 ((P : Int) * 32), .slice sc 32 cc] W fun e w' => ∃ v, e = .returned (.tuple #[v, .int .i64 0]) ∧ Own w' W.heap.size v (layAt l (32 * P) (layE i)) ∧ Below W.heap.size W w') := by
    intro W sc cc hW hc
    have h := lay_any sp sc l (layE i) cap cc ((P : Int) * 32) W (ha.src.below hW (Nat.le_refl _)) hc.src (by omega) (by omega) (by omega)
    rw [hl, hli, show ((32 : Nat) : Int) = 32 from rfl, HIN, HLE.out] at h
    exact h
  clear hr ha hl HLE hli HIN
  have ST := dstart_any sp 256 cap (P : Int)
  rw [show dstP 256 (P : Int) = (P : Int) * 32 by unfold dstP; rw [if_pos rfl, if_pos (by omega)], show dstE 256 (P : Int) = 0 by unfold dstE; rw [if_pos rfl, if_pos (by omega)]] at ST
  go_enter Try.func46, Try.ntmps46
  go_wp2_with fail
  refine (ST _).mono ?_
  rintro e w1 ⟨rfl, hw1⟩
  rw [hw1]
  clear hw1 w1 ST
  go_wp2_with (first | ((with_reducible show wpList _ _ _ ({ dst := _, op := Op.load 48 _, type := _, pos := _, after := _, guard := _ } :: _) _ _); refine wpList_load_ent rfl _ rfl (HX.out.ent) rfl ?_))
  refine (PY _).mono ?_
  rintro e w2 ⟨sc, cc, rfl, hc, _, h2⟩
  have HB2 : Hid (Below w.heap.size w w2) := (HX.out.up h2).b
  have HC2 : Hid (Arg w2 sc cc (layE i)) := hc
  clear HX PY hc h2
  go_wp2_with fail
  refine (HLY.out _ sc cc HB2.out HC2.out).mono ?_
  rintro e w3 ⟨v, rfl, ho, h3⟩
  have hB := HB2.out.trans (h3.mono HB2.out.size)
  go_wp2
  go_ret2
  exact ⟨_, rfl, ho.mono HB2.out.size, hB⟩
theorem dlayT_any (sp : Option Addr) (cap : Nat) (l : List UInt8) (p : Int) (i : Ent) (w : World) (ha : Arg w sp cap l) :
    Calls Try.prog 46 #[.slice sp l.length cap, .int .i64 p, .agg (eA i)] w fun e w' => ∃ v, e = .returned (.tuple #[v, .int .i64 (elayTE l.length p i)]) ∧ Own w' w.heap.size v (elayTX l p i) ∧ Below w.heap.size w w' := by
  unfold elayTE elayTX
  by_cases h0 : dstE l.length p = 0
  · rw [if_pos h0, if_pos h0]
    obtain ⟨h1, h2, h3⟩ := dstE_zero h0
    obtain ⟨P, rfl⟩ := Int.eq_ofNat_of_zero_le h2
    rw [h1, Int.toNat_natCast]
    cases hr : rtE i
    · refine (dlayT_bad sp cap P i h3 hr w).mono ?_
      rintro e w' ⟨rfl, hb⟩
      refine ⟨_, by unfold eputE; rw [hr]; rfl, ?_, hb⟩
      exact Own.nil _ _
    · refine (dlayT_ok sp cap l P i h1 h3 hr w ha).mono ?_
      rintro e w' ⟨v, rfl, ho, hb⟩
      exact ⟨v, by unfold eputE; rw [hr]; rfl, ho, hb⟩
  · rw [if_neg h0, if_neg h0]
    refine (dlayT_no sp l.length cap p _ i rfl h0 w).mono ?_
    rintro e w' ⟨rfl, hb⟩
    exact ⟨_, rfl, Own.nil _ _, hb⟩
set_option maxHeartbeats 4000000 in
theorem rdlayT_no (sp : Option Addr) (n cap : Nat) (p E : Int) (i : Ent) (hE : dstE n p = E) (h0 : ¬ E = 0) (w : World) :
    Calls Try.prog 47 #[.slice sp n cap, .int .i64 p, .agg (eA i)] w fun e w' => e = .returned (.tuple #[.slice none 0 0, .int .i64 E]) ∧ Below w.heap.size w w' := by
  have HX : Hid _ := PE.start w i
  unfold dstE at hE
  by_cases hn : (n : Int) = 256
  · rw [if_pos (by omega)] at hE
    by_cases g0 : p < 0
    · rw [if_neg (by omega)] at hE
      subst hE
      go_enter Try.func47, Try.ntmps47
      go_wp2
      go_ret2
      exact ⟨rfl, HX.out.b⟩
    by_cases g1 : 7 < p
    · rw [if_neg (by omega)] at hE
      subst hE
      go_enter Try.func47, Try.ntmps47
      go_wp2
      go_ret2
      exact ⟨rfl, HX.out.b⟩
    · rw [if_pos (by omega)] at hE
      exact absurd hE.symm h0
  · rw [if_neg (by omega)] at hE
    subst hE
    go_enter Try.func47, Try.ntmps47
    go_wp2
    go_ret2
    exact ⟨rfl, HX.out.b⟩
set_option maxHeartbeats 4000000 in
theorem rdlayT_bad (sp : Option Addr) (cap : Nat) (P : Nat) (i : Ent) (hN : i.nm.length ≤ 9223372036854775807) (hP : (P : Int) < 8) (hr : rtE i = false) (w : World) :
    Calls Try.prog 47 #[.slice sp 256 cap, .int .i64 (P : Int), .agg (eA i)] w fun e w' => e = .returned (.tuple #[.slice none 0 0, .int .i64 1]) ∧ Below w.heap.size w w' := by
  have HX : Hid _ := PE.start w i
  have PN := rput8_no i hN hr
  have d0 : ¬ (P : Int) < 0 := by omega
  have d7 : ¬ (7 : Int) < (P : Int) := by omega
  go_enter Try.func47, Try.ntmps47
  go_wp2_with (first | ((with_reducible show wpList _ _ _ ({ dst := _, op := Op.load 48 _, type := _, pos := _, after := _, guard := _ } :: _) _ _); refine wpList_load_ent rfl _ rfl (HX.out.ent) rfl ?_))
  refine (PN _).mono ?_
  rintro e w2 ⟨rfl, h2⟩
  have HB := (HX.out.up h2).b
  go_wp2
  go_ret2
  exact ⟨rfl, HB⟩
set_option maxHeartbeats 4000000 in
theorem rdlayT_ok (sp : Option Addr) (cap : Nat) (l : List UInt8) (P : Nat) (i : Ent) (hN : i.nm.length ≤ 9223372036854775807) (hl : l.length = 256) (hP : (P : Int) < 8) (hr : rtE i = true) (w : World) (ha : Arg w sp cap l) :
    Calls Try.prog 47 #[.slice sp 256 cap, .int .i64 (P : Int), .agg (eA i)] w fun e w' => ∃ v, e = .returned (.tuple #[v, .int .i64 0]) ∧ Own w' w.heap.size v (layAt l (32 * P) (layE i)) ∧ Below w.heap.size w w' := by
  have HX : Hid _ := PE.start w i
  have PY := rput8_any i hN
  have hli := layE_length (rtE_enR hr).nm
  rw [show eputX i = layE i by unfold eputX; rw [hr]; rfl, show eputE i = 0 by unfold eputE; rw [hr]; rfl, hli] at PY
  have HLE : Hid _ := layL_at8 l (layE i) P hl hli hP (32 * (P : Int)) (by omega)
  have HIN := in_tab8 P hP (32 * (P : Int)) (by omega)
  have HLY : Hid (∀ W (sc : Option Addr) (cc : Nat), Below w.heap.size w W → Arg W sc cc (layE i) → Calls Try.prog 60 #[.slice sp 256 cap, .int .i64 (32 * (P : Int)), .slice sc 32 cc] W fun e w' => ∃ v, e = .returned (.tuple #[v, .int .i64 0]) ∧ Own w' W.heap.size v (layAt l (32 * P) (layE i)) ∧ Below W.heap.size W w') := by
    intro W sc cc hW hc
    have h := rlay_any sp sc l (layE i) cap cc (32 * (P : Int)) W (ha.below hW (Nat.le_refl _)) hc (by omega)
    rw [hl, hli, show ((32 : Nat) : Int) = 32 from rfl, HIN, HLE.out] at h
    exact h
  clear hr ha hl HLE hli HIN
  have d0 : ¬ (P : Int) < 0 := by omega
  have d7 : ¬ (7 : Int) < (P : Int) := by omega
  go_enter Try.func47, Try.ntmps47
  go_wp2_with (first | ((with_reducible show wpList _ _ _ ({ dst := _, op := Op.load 48 _, type := _, pos := _, after := _, guard := _ } :: _) _ _); refine wpList_load_ent rfl _ rfl (HX.out.ent) rfl ?_))
  refine (PY _).mono ?_
  rintro e w2 ⟨sc, cc, rfl, hc, _, h2⟩
  have HB2 : Hid (Below w.heap.size w w2) := (HX.out.up h2).b
  have HC2 : Hid (Arg w2 sc cc (layE i)) := hc
  clear HX PY hc h2
  go_wp2_with fail
  refine (HLY.out _ sc cc HB2.out HC2.out).mono ?_
  rintro e w3 ⟨v, rfl, ho, h3⟩
  have hB := HB2.out.trans (h3.mono HB2.out.size)
  go_wp2
  go_ret2
  exact ⟨_, rfl, ho.mono HB2.out.size, hB⟩
theorem rdlayT_any (sp : Option Addr) (cap : Nat) (l : List UInt8) (p : Int) (i : Ent) (hN : i.nm.length ≤ 9223372036854775807) (w : World) (ha : Arg w sp cap l) :
    Calls Try.prog 47 #[.slice sp l.length cap, .int .i64 p, .agg (eA i)] w fun e w' => ∃ v, e = .returned (.tuple #[v, .int .i64 (elayTE l.length p i)]) ∧ Own w' w.heap.size v (elayTX l p i) ∧ Below w.heap.size w w' := by
  unfold elayTE elayTX
  by_cases h0 : dstE l.length p = 0
  · rw [if_pos h0, if_pos h0]
    obtain ⟨h1, h2, h3⟩ := dstE_zero h0
    obtain ⟨P, rfl⟩ := Int.eq_ofNat_of_zero_le h2
    rw [h1, Int.toNat_natCast]
    cases hr : rtE i
    · refine (rdlayT_bad sp cap P i hN h3 hr w).mono ?_
      rintro e w' ⟨rfl, hb⟩
      refine ⟨_, by unfold eputE; rw [hr]; rfl, ?_, hb⟩
      exact Own.nil _ _
    · refine (rdlayT_ok sp cap l P i hN h1 h3 hr w ha).mono ?_
      rintro e w' ⟨v, rfl, ho, hb⟩
      exact ⟨v, by unfold eputE; rw [hr]; rfl, ho, hb⟩
  · rw [if_neg h0, if_neg h0]
    refine (rdlayT_no sp l.length cap p _ i rfl h0 w).mono ?_
    rintro e w' ⟨rfl, hb⟩
    exact ⟨_, rfl, Own.nil _ _, hb⟩
end Go.Proofs.Ytabmogeicpphoaa
