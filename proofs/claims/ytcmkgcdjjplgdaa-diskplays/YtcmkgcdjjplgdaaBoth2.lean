/- Flush, Crash, Copy of both. -/
import Derived.Test.YtcmkgcdjjplgdaaBoth
import Derived.Test.YtcmkgcdjjplgdaaRcrash
import Derived.Test.YtcmkgcdjjplgdaaRall
namespace Go.Proofs.Ytcmkgcdjjplgdaa
open Go.RowKit
section
variable {w0 w w1 w2 : World} {base κ p n : Nat} {en : Bool} {lf : Int} {sf : Nat → List UInt8} {ws : Nat → List (List UInt8)} {q : Nat} {vs : Nat → Value} {r gb cb : Nat} {va vc : Nat → Nat}
theorem openL_mem (i : Nat) (hi : i < n) (hw : ¬ ws i = []) : i ∈ openL ws n := by
  have := openL_at ws i (by cases h : ws i; exact absurd h hw; simp) n hi
  rw [← this.1]
  have e : (openL ws n).getD (openL ws i).length 0 = (openL ws n)[(openL ws i).length] := by simp [this.2]
  rw [e]; exact List.getElem_mem this.2
theorem DR.settle (h : DR base κ w0 w p n en lf sf ws q vs r gb cb va vc) {en' : Bool} {lf' : Int} {sf' : Nat → List UInt8} {ws' : Nat → List (List UInt8)} {vs' : Nat → Value} {va' vc' : Nat → Nat} (hD : DiskAt w1 base p n en' lf' sf' ws' q vs') (hV : VN (openL ws n) (openL ws n).length vs vs') (hw : ∀ i, i < n → ws' i = []) (hbe : Below base w w1) (hlf : 0 ≤ lf' ∧ lf' ≤ 9223372036854775807) (hR : RefW w2 base r n en' lf' (fun i => sf' i :: ws' i) gb cb va' vc') (hA : VA w1 n va va') (hf2 : Fr (RG r gb) w1 w2) : DRX base κ w0 w2 p n r := by
  have hdk : ∀ k, Dk p q n vs' k → Dk p q n vs k := fun k hk => by
    rcases hk with hk | hk | ⟨j, hj, hk⟩
    · exact .inl hk
    · exact .inr (.inl hk)
    · rcases hV.1 j with e | e
      · rw [e] at hk; exact .inr (.inr ⟨j, hj, hk⟩)
      · rw [e] at hk; cases hk
  have hrg : ∀ k, RG r gb k → Rk r gb n va k := fun k hk => by
    rcases hk with hk | hk
    · exact .inl hk
    · exact .inr (.inl hk)
  refine ⟨en', lf', sf', ws', q, vs', gb, cb, va', vc', ⟨hD.fr hf2 fun k hk hg => h.ap k (hdk k hk) (hrg k hg), hR, fun k hk hr => ?_, fun i hi _ => ?_, fun i hi => by rw [hw i hi]; exact Nat.zero_le _, hlf, fun k hr => ?_, (h.be.trans hbe).trans (hf2.below (by have := h.bs; have := hbe.size; omega) fun k hk => h.rb k (hrg k hk))⟩⟩
  · rcases hr with hr | hr | ⟨j, hj, hr⟩
    · exact h.ap k (hdk k hk) (.inl hr)
    · exact h.ap k (hdk k hk) (.inr (.inl hr))
    · rcases hA j hj with e | e
      · exact h.ap k (hdk k hk) (.inr (.inr ⟨j, hj, e ▸ hr⟩))
      · have := (hD.dk_lt hk).1; omega
  · by_cases hwi : ws i = []
    · rcases hV.1 i with e | e
      · rw [e]; exact h.nil i hi hwi
      · exact e
    · exact hV.2 i (by rw [List.take_length]; exact openL_mem i hi hwi)
  · rcases hr with hr | hr | ⟨j, hj, hr⟩
    · exact h.rb k (.inl hr)
    · exact h.rb k (.inr (.inl hr))
    · rcases hA j hj with e | e
      · exact h.rb k (.inr (.inr ⟨j, hj, e ▸ hr⟩))
      · have := h.bs; have := hbe.size; omega
theorem lv_last (i : Nat) : lv (sf i :: ws i) = lastOf (sf i) (ws i) := by
  unfold lv
  rw [List.getD_eq_getElem?_getD, List.length_cons, Nat.add_sub_cancel, lastOf_at]; rfl
/-- Flush of both. -/
theorem both_flush (h : DR base κ w0 w p n en lf sf ws q vs r gb cb va vc) :
    Calls Try.prog 24 #[.pointer (some ⟨p, 0, none⟩)] w fun e w1 => e = .returned (.int .i64 0) ∧ Calls Try.prog 38 #[.pointer (some ⟨r, 0, none⟩)] w1 fun e2 w2 => e2 = .returned (.int .i64 0) ∧ DRX base κ w0 w2 p n r := by
  have hrg : ∀ k, RG r gb k → Rk r gb n va k := fun k hk => by
    rcases hk with hk | hk
    · exact .inl hk
    · exact .inr (.inl hk)
  cases hg : goesB en lf
  · refine (flush_no h.d h.lfb hg).mono ?_
    rintro e w1 ⟨rfl, hD, hbe, hz, hk⟩
    have hf : Fr (Dk p q n vs) w w1 := ⟨by omega, fun k _ hS => hk k fun e => hS (.inl e), hbe.os, hbe.tape, hbe.output⟩
    refine ⟨rfl, (rflush_no (h.r'.keep hf fun k hk hd => h.ap k hd hk) h.lfb hg).mono ?_⟩
    rintro e w2 ⟨rfl, hR2, hf2⟩
    have hf2' : Fr (Rk r gb n va) w1 w2 := hf2.mono fun k _ h => hrg k h
    exact ⟨rfl, en, _, sf, ws, q, vs, gb, cb, va, vc, ⟨hD.fr hf2' h.ap, hR2, h.ap, h.nil, h.wl, goesL_ok h.lfb, h.rb, (h.be.trans hbe).trans (hf2'.below (by have := h.bs; omega) h.rb)⟩⟩
  · refine (flush_fr h.d h.lfb hg (openL ws n) rfl).mono ?_
    rintro e w1 ⟨rfl, ⟨vs', hD, hV⟩, hbe, hf⟩
    have hf' : Fr (Dk p q n vs) w w1 := hf.mono fun k _ hk => by
      rcases hk with hk | hk
      · exact .inl hk
      · exact .inr (.inl hk)
    refine ⟨rfl, (rflush_go (h.r'.keep hf' fun k hk hd => h.ap k hd hk) h.lfb hg).mono ?_⟩
    rintro e w2 ⟨rfl, ⟨va', ⟨vc', hR2⟩, hA⟩, hf2⟩
    have e : (fun i => if i < n then [lv (sf i :: ws i)] else sf i :: ws i) = fun i => (if i < n then lastOf (sf i) (ws i) else sf i) :: (if i < n then [] else ws i) := by
      funext i
      by_cases hi : i < n
      · rw [if_pos hi, if_pos hi, if_pos hi, lv_last]
      · rw [if_neg hi, if_neg hi, if_neg hi]
    have hR3 := hR2.congr e
    refine ⟨rfl, h.settle (hD.congr (sf' := fun i => if i < n then lastOf (sf i) (ws i) else sf i) (ws' := fun i => if i < n then [] else ws i) (fun i hi => ?_) (fun i hi => ?_)) hV (fun i hi => if_pos hi) hbe (goesL_ok h.lfb) hR3 hA hf2⟩
    · rw [(setS_all ws sf _ n i hi).1, List.take_length, if_pos hi]
    · rw [(setS_all ws sf _ n i hi).2, if_pos hi]
/-- Crash of both. -/
theorem both_crash (h : DR base κ w0 w p n en lf sf ws q vs r gb cb va vc) (sp : Option Addr) (m cap : Nat) (pk : Nat → Int) (hm : m ≤ cap ∧ (cap : Int) ≤ 9223372036854775807) (hpk : 0 < m → ∃ g o, sp = some ⟨g, o, none⟩ ∧ g < base ∧ ∀ k, k < m → w.cell? ⟨g, o + k, none⟩ = some (.int .i64 (pk k))) :
    Calls Try.prog 13 #[.pointer (some ⟨p, 0, none⟩), .slice sp m cap] w fun e w1 => e = .returned (.tuple #[]) ∧ Fr (Dk p q n vs) w w1 ∧ Calls Try.prog 39 #[.pointer (some ⟨r, 0, none⟩), .slice sp m cap] w1 fun e2 w2 => e2 = .returned (.tuple #[]) ∧ DRX base κ w0 w2 p n r := by
  have hbs := h.bs
  refine (crash_fr h.d sp m cap pk (fun h0 => ?_) hm (openL ws n) rfl).mono ?_
  · obtain ⟨g, o, e, hg, hc⟩ := hpk h0
    exact ⟨g, o, e, by have := h.d.qb; omega, by omega, hc⟩
  rintro e w1 ⟨rfl, ⟨vs', hD, hV⟩, hbe, hf⟩
  have hf' : Fr (Dk p q n vs) w w1 := hf.mono fun k _ hk => by
    rcases hk with hk | hk
    · exact .inl hk
    · exact .inr (.inl hk)
  refine ⟨rfl, hf', (rcrash_any (h.r'.keep hf' fun k hk hd => h.ap k hd hk) sp m cap pk (fun h0 => ?_) hm (openL ws n) rfl).mono ?_⟩
  · obtain ⟨g, o, e, hg, hc⟩ := hpk h0
    exact ⟨g, o, e, by have := h.rb gb (.inr (.inl rfl)); omega, by have := hbe.size; omega, fun k hk => (hbe.cell (p := ⟨g, o + k, none⟩) hg).trans (hc k hk)⟩
  rintro e w2 ⟨rfl, ⟨va', ⟨vc', hR2⟩, hA⟩, hf2⟩
  exact ⟨rfl, h.settle hD hV (fun i hi => (setS_all ws sf _ n i hi).2) hbe ⟨by omega, by omega⟩ hR2 hA hf2⟩
theorem DR.keep (h : DR base κ w0 w p n en lf sf ws q vs r gb cb va vc) {S : Nat → Prop} (hf : Fr S w w1) (hbe : Below base w w1) (h1 : ∀ k, Dk p q n vs k → ¬ S k) (h2 : ∀ k, Rk r gb n va k → ¬ S k) : DR base κ w0 w1 p n en lf sf ws q vs r gb cb va vc :=
  { h with d := h.d.fr hf h1, r' := h.r'.keep hf h2, be := h.be.trans hbe }
theorem DiskAt.lower {base' : Nat} (h : DiskAt w base' p n en lf sf ws q vs) (hb : base ≤ base') : DiskAt w base p n en lf sf ws q vs :=
  { h with pb := Nat.le_trans hb h.pb, qb := Nat.le_trans hb h.qb, wr := fun i hi => ⟨by
      obtain ⟨h1, h2⟩ := (h.wr i hi).1
      refine ⟨h1, ?_⟩
      rcases h2 with h2 | ⟨g, cap, cur, hv, hg, r⟩
      · exact .inl h2
      · exact .inr ⟨g, cap, cur, hv, by omega, r⟩, (h.wr i hi).2⟩ }
/-- The old disk p beside the copy p'. -/
def OldX (base κ : Nat) (w0 w : World) (p n p' r : Nat) : Prop :=
  ∃ en lf sf ws q vs, DiskAt w base p n en lf sf ws q vs ∧ (0 ≤ lf ∧ lf ≤ 9223372036854775807) ∧ (∀ i, i < n → (ws i).length ≤ κ) ∧
    ∃ en2 lf2 sf2 ws2 q2 vs2 gb cb va vc, DR base κ w0 w p' n en2 lf2 sf2 ws2 q2 vs2 r gb cb va vc ∧ ∀ k, Dk p q n vs k → ¬ Dk p' q2 n vs2 k ∧ ¬ Rk r gb n va k
theorem OldX.up {p' : Nat} (h : OldX base κ w0 w p n p' r) (hb : Below w.heap.size w w1) : OldX base κ w0 w1 p n p' r := by
  obtain ⟨en, lf, sf, ws, q, vs, h1, h2, h3, en2, lf2, sf2, ws2, q2, vs2, gb, cb, va, vc, h4, h5⟩ := h
  exact ⟨en, lf, sf, ws, q, vs, h1.below hb (Nat.le_refl _), h2, h3, en2, lf2, sf2, ws2, q2, vs2, gb, cb, va, vc, h4.up hb, h5⟩
theorem both_copy (h : DR base κ w0 w p n en lf sf ws q vs r gb cb va vc) (hκ : κ ≤ 1000) (h1 : 1 ≤ n) :
    Calls Try.prog 10 #[.pointer (some ⟨p, 0, none⟩)] w fun e w1 => ∃ p', e = .returned (.pointer (some ⟨p', 0, none⟩)) ∧ OldX base κ w0 w1 p n p' r := by
  refine (dcopy_any h.d h1 (fun i hi => by have := h.wl i hi; omega) h.nil (openL ws n) rfl).mono ?_
  rintro e w1 ⟨p', q', v2, rfl, hD, hnil, hb⟩
  have hbs := h.bs
  have hrl : ∀ k, Rk r gb n va k → k < w.heap.size := fun k hk => by
    rcases hk with rfl | rfl | ⟨j, hj, rfl⟩
    · exact h.r'.rl
    · exact h.r'.at'.gl
    · exact (h.r'.at'.row j hj).2.1
  refine ⟨p', rfl, en, lf, sf, ws, q, vs, h.d.below hb (Nat.le_refl _), h.lfb, h.wl, en, lf, sf, ws, q', v2, gb, cb, va, vc, ⟨hD.lower hbs, h.r'.below hb, fun k hk hr => ?_, hnil, h.wl, h.lfb, h.rb, h.be.trans (hb.mono hbs)⟩, fun k hk => ⟨fun c => ?_, h.ap k hk⟩⟩
  · have := (hD.dk_lt hk).2; have := hrl k hr; omega
  · have := (hD.dk_lt c).2; have := (h.d.dk_lt hk).1; omega
theorem old_write {p' : Nat} (h : OldX base κ w0 w p n p' r) (hκ : κ ≤ 1000) (h1 : 1 ≤ n) (d : List UInt8) (hd : d.length = 256) (g c : Nat) (hs : Src w (some ⟨g, 0, none⟩) d) (hgp : g ≠ p) :
    Calls Try.prog 11 #[.pointer (some ⟨p, 0, none⟩), .int .i64 0, .slice (some ⟨g, 0, none⟩) 256 c] w fun e w1 => (∃ x, e = .returned (.int .i64 x)) ∧ OldX base (κ + 1) w0 w1 p n p' r := by
  obtain ⟨en, lf, sf, ws, q, vs, h2, h3, h4, en2, lf2, sf2, ws2, q2, vs2, gb, cb, va, vc, h5, h6⟩ := h
  have hz : (.int .i64 0 : Value) = .int .i64 ((0 : Nat) : Int) := rfl
  rw [hz]
  cases hgo : goesB en lf
  · refine (write_no h2 h3 0 (by omega) _ _ hgo).mono ?_
    rintro e w1 ⟨rfl, hD, hbe, hzz, hk⟩
    have hf : Fr (Dk p q n vs) w w1 := ⟨by omega, fun k _ hS => hk k fun e => hS (.inl e), hbe.os, hbe.tape, hbe.output⟩
    exact ⟨⟨_, rfl⟩, en, _, sf, ws, q, vs, hD, goesL_ok h3, fun i hi => Nat.le_succ_of_le (h4 i hi), en2, lf2, sf2, ws2, q2, vs2, gb, cb, va, vc, (h5.keep hf hbe (fun k hk hd => (h6 k hd).1 hk) (fun k hk hd => (h6 k hd).2 hk)).more (Nat.le_succ _), h6⟩
  · refine (write_fr h2 h3 0 (by omega) (by have := h4 0 (by omega); omega) d hd g 0 c hs hgp hgo).mono ?_
    rintro e w1 ⟨rfl, ⟨g2, c2, hD, hat⟩, hbe, hf0⟩
    have hf : Fr (Dk p q n vs) w w1 := hf0.mono fun k _ hk => by
      rcases hk with hk | hk | hk
      · exact .inl hk
      · exact .inr (.inl hk)
      · exact .inr (.inr ⟨0, by omega, hk⟩)
    refine ⟨⟨_, rfl⟩, en, _, sf, _, q, _, hD, goesL_ok h3, fun i hi => ?_, en2, lf2, sf2, ws2, q2, vs2, gb, cb, va, vc, (h5.keep hf hbe (fun k hk hd => (h6 k hd).1 hk) (fun k hk hd => (h6 k hd).2 hk)).more (Nat.le_succ _), fun k hk => ?_⟩
    · by_cases hi0 : i = 0
      · subst hi0; rw [upd_same]; have := h4 0 hi; simp; omega
      · rw [upd_other _ _ _ hi0]; have := h4 i hi; omega
    · have : Dk p q n vs k ∨ w.heap.size ≤ k := by
        rcases hk with hk | hk | ⟨j, hj, hk⟩
        · exact .inl (.inl hk)
        · exact .inl (.inr (.inl hk))
        · by_cases hji : j = 0
          · subst hji
            rw [upd_same] at hk
            have e : g2 = k := Option.some.inj hk
            subst e
            rcases hat with hat | hat
            · exact .inl (.inr (.inr ⟨0, hj, hat⟩))
            · exact .inr hat
          · rw [upd_other _ _ _ hji] at hk
            exact .inl (.inr (.inr ⟨j, hj, hk⟩))
      rcases this with hk | hk
      · exact h6 k hk
      · refine ⟨fun c => ?_, fun c => ?_⟩
        · have := (h5.d.dk_lt c).1; omega
        · rcases c with rfl | rfl | ⟨j, hj, rfl⟩
          · have := h5.r'.rl; omega
          · have := h5.r'.at'.gl; omega
          · have := (h5.r'.at'.row j hj).2.1; omega
theorem old_crash {p' : Nat} (h : OldX base κ w0 w p n p' r) :
    Calls Try.prog 13 #[.pointer (some ⟨p, 0, none⟩), .slice none 0 0] w fun e w1 => e = .returned (.tuple #[]) ∧ DRX base κ w0 w1 p' n r := by
  obtain ⟨en, lf, sf, ws, q, vs, h2, h3, h4, en2, lf2, sf2, ws2, q2, vs2, gb, cb, va, vc, h5, h6⟩ := h
  refine (crash_fr h2 none 0 0 (fun _ => 0) (fun h0 => by omega) ⟨Nat.le_refl _, by omega⟩ (openL ws n) rfl).mono ?_
  rintro e w1 ⟨rfl, _, hbe, hf⟩
  have hf' : Fr (Dk p q n vs) w w1 := hf.mono fun k _ hk => by
    rcases hk with hk | hk
    · exact .inl hk
    · exact .inr (.inl hk)
  exact ⟨rfl, en2, lf2, sf2, ws2, q2, vs2, gb, cb, va, vc, h5.keep hf' hbe (fun k hk hd => (h6 k hd).1 hk) (fun k hk hd => (h6 k hd).2 hk)⟩
end
end Go.Proofs.Ytcmkgcdjjplgdaa
