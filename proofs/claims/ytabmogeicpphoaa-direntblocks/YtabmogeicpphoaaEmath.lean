/- Get of Put, for entries. -/
import Derived.Test.YtabmogeicpphoaaEtab
namespace Go.Proofs.Ytabmogeicpphoaa
open Go.RowKit
theorem layE_split (e : Ent) : layE e = leB 2 e.sl.toNat ++ (lvB e.lv :: UInt8.ofNat e.nm.length :: (e.nm ++ List.replicate (28 - e.nm.length) 0)) := by
  simp [layE]
theorem leB2 (x : Nat) : ∃ a b, leB 2 x = [a, b] := by
  have h := leB_length 2 x
  match leB 2 x, h with
  | [a, b], _ => exact ⟨a, b, rfl⟩
theorem rd_layE {e : Ent} (hr : EnR e) : rdE (layE e) = e := by
  have h1 := hr.sl
  have h2 := hr.nm
  have hs := layE_split e
  obtain ⟨a, b, hab⟩ := leB2 e.sl.toNat
  have e0 : rdP (layE e) 0 2 = e.sl.toNat := by
    unfold rdP
    rw [hs, List.drop_zero, List.take_left' (leB_length _ _), getNum_leB 2 _ (by omega) (by omega)]
  rw [hab] at hs
  have e2 : nth (layE e) 2 = (lvB e.lv).toNat := by rw [hs]; rfl
  have e3 : (layE e).getD 3 0 = UInt8.ofNat e.nm.length := by rw [hs]; rfl
  have e4 : (layE e).drop 4 = e.nm ++ List.replicate (28 - e.nm.length) 0 := by rw [hs]; rfl
  have e5 : rdL (layE e) = e.nm.length := by
    unfold rdL
    rw [e3]
    simp [UInt8.toNat_ofNat']
    omega
  unfold rdE
  rw [e0, e2, e4, e5, List.take_left' rfl, show ((e.sl.toNat : Nat) : Int) = e.sl by omega]
  obtain ⟨s, v, n⟩ := e
  cases v <;> rfl
theorem form_layE {e : Ent} (hr : rtE e = true) : formE (layE e) = true := by
  unfold formE
  rw [rd_layE (rtE_enR hr), hr]; simp
theorem get_layE {e : Ent} (hr : rtE e = true) : egetV (layE e) = e ∧ egetE (layE e) = 0 := by
  have hl := layE_length (rtE_enR hr).nm
  unfold egetV egetE egetI
  rw [if_pos hl, if_pos hl, form_layE hr, if_pos rfl, if_pos rfl, rd_layE (rtE_enR hr)]
  exact ⟨rfl, rfl⟩
/-- What Put answers. -/
def eputX (e : Ent) : List UInt8 := if rtE e then layE e else []
def eputE (e : Ent) : Int := if rtE e then 0 else 1
theorem eputX_le (e : Ent) : (eputX e).length ≤ 32 := by
  unfold eputX
  cases hr : rtE e
  · simp
  · rw [if_pos rfl, layE_length (rtE_enR hr).nm]; omega
theorem eput_any (e : Ent) (w : World) :
    Calls Try.prog 30 #[.agg (eA e)] w fun r w' => ∃ sp cap, r = .returned (.tuple #[.slice sp (eputX e).length cap, .int .i64 (eputE e)]) ∧ Arg w' sp cap (eputX e) ∧ (∀ b o, sp = some ⟨b, o, none⟩ → w.heap.size ≤ b) ∧ Below w.heap.size w w' := by
  unfold eputX eputE
  cases hr : rtE e
  · refine (eput_no e hr w).mono ?_
    rintro r w' ⟨rfl, hb⟩
    exact ⟨none, 0, rfl, .inl ⟨rfl, by simp⟩, (fun _ _ h => by cases h), hb⟩
  · refine (eput_yes e hr w).mono ?_
    rintro r w' ⟨G, rfl, hg, hG, hb⟩
    have hl := layE_length (rtE_enR hr).nm
    refine ⟨some ⟨G, 0, none⟩, 32, ?_, ?_, (fun b o h => by cases h; exact hG), hb⟩
    · rw [if_pos rfl, if_pos rfl, hl]
    · have := hg.arg (by omega) (by omega)
      rw [hl] at this
      exact this
theorem rput8_any (e : Ent) (hN : e.nm.length ≤ 9223372036854775807) (w : World) :
    Calls Try.prog 31 #[.agg (eA e)] w fun r w' => ∃ sp cap, r = .returned (.tuple #[.slice sp (eputX e).length cap, .int .i64 (eputE e)]) ∧ Arg w' sp cap (eputX e) ∧ (∀ b o, sp = some ⟨b, o, none⟩ → w.heap.size ≤ b) ∧ Below w.heap.size w w' := by
  unfold eputX eputE
  cases hr : rtE e
  · refine (rput8_no e hN hr w).mono ?_
    rintro r w' ⟨rfl, hb⟩
    exact ⟨none, 0, rfl, .inl ⟨rfl, by simp⟩, (fun _ _ h => by cases h), hb⟩
  · refine (rput8_yes e hr w).mono ?_
    rintro r w' ⟨v, rfl, ho, hb⟩
    have hl := layE_length (rtE_enR hr).nm
    obtain ⟨ao, cap, rfl, ha⟩ := ho.arg (by omega)
    refine ⟨ao, cap, rfl, ha, fun b o h => ?_, hb⟩
    subst h
    have := ho.lt b rfl
    exact this.1
end Go.Proofs.Ytabmogeicpphoaa
