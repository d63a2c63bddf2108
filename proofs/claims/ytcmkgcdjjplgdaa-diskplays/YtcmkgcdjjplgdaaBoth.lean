/- The disk and the document's disk beside it: what a call to both leaves. -/
import Derived.Test.YtcmkgcdjjplgdaaCopy
import Derived.Test.YtcmkgcdjjplgdaaPno
namespace Go.Proofs.Ytcmkgcdjjplgdaa
open Go.RowKit
/-- Both disks, alike, apart from one another. -/
structure DR (base κ : Nat) (w0 w : World) (p n : Nat) (en : Bool) (lf : Int) (sf : Nat → List UInt8) (ws : Nat → List (List UInt8)) (q : Nat) (vs : Nat → Value) (r gb cb : Nat) (va vc : Nat → Nat) : Prop where
  d : DiskAt w base p n en lf sf ws q vs
  r' : RefW w base r n en lf (fun i => sf i :: ws i) gb cb va vc
  ap : ∀ k, Dk p q n vs k → ¬ Rk r gb n va k
  nil : ∀ i, i < n → ws i = [] → vs i = .slice none 0 0
  wl : ∀ i, i < n → (ws i).length ≤ κ
  lfb : 0 ≤ lf ∧ lf ≤ 9223372036854775807
  rb : ∀ k, Rk r gb n va k → base ≤ k
  be : Below base w0 w
def DRX (base κ : Nat) (w0 w : World) (p n r : Nat) : Prop := ∃ en lf sf ws q vs gb cb va vc, DR base κ w0 w p n en lf sf ws q vs r gb cb va vc
/-- The same; and what lay below H and was in no block of T is in none of theirs. -/
def DRY (base κ : Nat) (w0 w : World) (p n r H : Nat) (T : Nat → Prop) : Prop := ∃ en lf sf ws q vs gb cb va vc, DR base κ w0 w p n en lf sf ws q vs r gb cb va vc ∧ ∀ k, k < H → ¬ T k → ¬ Dk p q n vs k ∧ ¬ Rk r gb n va k
theorem DRY.x {base κ p n r H : Nat} {w0 w : World} {T : Nat → Prop} (h : DRY base κ w0 w p n r H T) : DRX base κ w0 w p n r := by
  obtain ⟨a, b, c, d, e, f, g, i, j, k, l, _⟩ := h
  exact ⟨a, b, c, d, e, f, g, i, j, k, l⟩
section
variable {w0 w w' : World} {base κ p n : Nat} {en : Bool} {lf : Int} {sf : Nat → List UInt8} {ws : Nat → List (List UInt8)} {q : Nat} {vs : Nat → Value} {r gb cb : Nat} {va vc : Nat → Nat}
theorem DiskAt.dk_lt (h : DiskAt w base p n en lf sf ws q vs) {k : Nat} (hk : Dk p q n vs k) : k < w.heap.size ∧ base ≤ k := by
  rcases hk with rfl | rfl | ⟨i, hi, hk⟩
  · exact ⟨h.pl, h.pb⟩
  · exact ⟨h.ql, h.qb⟩
  · have := World.ownsRow.lt (h.wr i hi).1 k hk
    exact ⟨this.2, this.1⟩
theorem DR.bs (h : DR base κ w0 w p n en lf sf ws q vs r gb cb va vc) : base ≤ w.heap.size := by have := h.d.pb; have := h.d.pl; omega
theorem DR.up (h : DR base κ w0 w p n en lf sf ws q vs r gb cb va vc) (hb : Below w.heap.size w w') : DR base κ w0 w' p n en lf sf ws q vs r gb cb va vc :=
  { h with d := h.d.below hb (Nat.le_refl _), r' := h.r'.below hb, be := h.be.trans (hb.mono h.bs) }
theorem DR.more (h : DR base κ w0 w p n en lf sf ws q vs r gb cb va vc) {κ' : Nat} (hk : κ ≤ κ') : DR base κ' w0 w p n en lf sf ws q vs r gb cb va vc :=
  { h with wl := fun i hi => Nat.le_trans (h.wl i hi) hk }
theorem goesL_ok (h : 0 ≤ lf ∧ lf ≤ 9223372036854775807) : 0 ≤ goesL en lf ∧ goesL en lf ≤ 9223372036854775807 := by
  unfold goesL
  by_cases hz : lf = 0
  · subst hz; simp
  · split <;> omega
/-- Stop of both. -/
theorem both_stop (h : DR base κ w0 w p n en lf sf ws q vs r gb cb va vc) (b : Int) (hb : b ≤ 9223372036854775807) :
    Calls Try.prog 27 #[.pointer (some ⟨p, 0, none⟩), .int .i64 b] w fun e w1 => e = .returned (.tuple #[]) ∧ Fr (Dk p q n vs) w w1 ∧ Calls Try.prog 40 #[.pointer (some ⟨r, 0, none⟩), .int .i64 b] w1 fun e2 w2 => e2 = .returned (.tuple #[]) ∧ Fr (Rk r gb n va) w1 w2 ∧ DRX base κ w0 w2 p n r := by
  refine (stop_any h.d b).mono ?_
  rintro e w1 ⟨rfl, hD, hbe, hz, hk⟩
  have hf : Fr (Dk p q n vs) w w1 := ⟨by omega, fun k _ hS => hk k fun e => hS (.inl e), hbe.os, hbe.tape, hbe.output⟩
  refine ⟨rfl, hf, ?_⟩
  have hR : RefW w1 base r n en lf (fun i => sf i :: ws i) gb cb va vc := h.r'.keep hf fun k hk hd => h.ap k hd hk
  refine (rstop_any hR b).mono ?_
  rintro e w2 ⟨rfl, hR2, hf2⟩
  have hf2' : Fr (Rk r gb n va) w1 w2 := hf2.mono fun k _ h => .inl h
  refine ⟨rfl, hf2', true, _, sf, ws, q, vs, gb, cb, va, vc, ⟨hD.fr hf2' h.ap, hR2, h.ap, h.nil, h.wl, ?_, h.rb, (h.be.trans hbe).trans (hf2'.below (by have := h.bs; omega) h.rb)⟩⟩
  split <;> omega
theorem upd_cons (i : Nat) (d : List UInt8) : upd (fun i => sf i :: ws i) i ((fun i => sf i :: ws i) i ++ [d]) = fun j => sf j :: upd ws i (ws i ++ [d]) j := by
  funext j
  by_cases h : j = i
  · subst h; rw [upd_same, upd_same]; rfl
  · rw [upd_other _ _ _ h, upd_other _ _ _ h]
/-- Write to both. -/
theorem both_write (h : DR base κ w0 w p n en lf sf ws q vs r gb cb va vc) (hκ : κ ≤ 1000) (b : Int) (hbb : -9223372036854775808 ≤ b ∧ b ≤ 9223372036854775807) (data : List UInt8) (go oc : Nat) (hso : Src w (some ⟨go, 0, none⟩) data) (hgo : ¬ Dk p q n vs go) (sp : Option Addr) (cap : Nat) (hsd : Src w sp data) (hsp : ∀ b o, sp = some ⟨b, o, none⟩ → data ≠ [] → ¬ Dk p q n vs b ∧ ¬ Rk r gb n va b) :
    Calls Try.prog 11 #[.pointer (some ⟨p, 0, none⟩), .int .i64 b, .slice (some ⟨go, 0, none⟩) data.length oc] w fun e w1 => ∃ er, e = .returned (.int .i64 er) ∧ Fr (Dk p q n vs) w w1 ∧ Calls Try.prog 37 #[.pointer (some ⟨r, 0, none⟩), .int .i64 b, .slice sp data.length cap] w1 fun e2 w2 => e2 = .returned (.int .i64 er) ∧ Fr (Rk r gb n va) w1 w2 ∧ DRY base (κ + 1) w0 w2 p n r w.heap.size (fun k => Dk p q n vs k ∨ Rk r gb n va k) := by
  have same : ∀ er : Int, ∃ er' : Int, er' = er := fun er => ⟨er, rfl⟩
  by_cases hout : b < 0 ∨ (n : Int) ≤ b
  · refine (write_out h.d b _ hout hbb).mono ?_
    rintro e w1 ⟨rfl, rfl⟩
    refine ⟨3, rfl, Fr.refl _ _, (rwrite_out h.r' b _ hout).mono ?_⟩
    rintro e w2 ⟨rfl, rfl⟩
    exact ⟨rfl, Fr.refl _ _, en, lf, sf, ws, q, vs, gb, cb, va, vc, h.more (Nat.le_succ _), fun k _ hT => ⟨fun c => hT (.inl c), fun c => hT (.inr c)⟩⟩
  · obtain ⟨i, rfl⟩ : ∃ i : Nat, (i : Int) = b := ⟨b.toNat, by omega⟩
    have hi : i < n := by omega
    by_cases hsz : (data.length : Int) = 256
    · have hd : data.length = 256 := by omega
      have hne : data ≠ [] := fun e => by rw [e] at hd; cases hd
      rw [hd]
      have hR1 : ∀ w1, Fr (Dk p q n vs) w w1 → RefW w1 base r n en lf (fun i => sf i :: ws i) gb cb va vc := fun w1 hf => h.r'.keep hf fun k hk hd => h.ap k hd hk
      have hrg : ∀ k, RG r gb k → Rk r gb n va k := fun k hk => by
        rcases hk with hk | hk
        · exact .inl hk
        · exact .inr (.inl hk)
      cases hg : goesB en lf
      · refine (write_no h.d h.lfb i hi _ _ hg).mono ?_
        rintro e w1 ⟨rfl, hD, hbe, hz, hk⟩
        have hf : Fr (Dk p q n vs) w w1 := ⟨by omega, fun k _ hS => hk k fun e => hS (.inl e), hbe.os, hbe.tape, hbe.output⟩
        refine ⟨0, rfl, hf, (rwrite_no (hR1 w1 hf) h.lfb hg i hi _ _).mono ?_⟩
        rintro e w2 ⟨rfl, hR2, hf2⟩
        have hf2' : Fr (Rk r gb n va) w1 w2 := hf2.mono fun k _ h => hrg k h
        exact ⟨rfl, hf2', en, _, sf, ws, q, vs, gb, cb, va, vc, ⟨hD.fr hf2' h.ap, hR2, h.ap, h.nil, fun i hi => by have := h.wl i hi; omega, goesL_ok h.lfb, h.rb, (h.be.trans hbe).trans (hf2'.below (by have := h.bs; omega) h.rb)⟩, fun k _ hT => ⟨fun c => hT (.inl c), fun c => hT (.inr c)⟩⟩
      · refine (write_fr h.d h.lfb i hi (by have := h.wl i hi; omega) data hd go 0 oc hso (fun e => hgo (.inl e)) hg).mono ?_
        rintro e w1 ⟨rfl, ⟨g, c, hD, hat⟩, hbe, hf0⟩
        have hf : Fr (Dk p q n vs) w w1 := hf0.mono fun k _ hk => by
          rcases hk with hk | hk | hk
          · exact .inl hk
          · exact .inr (.inl hk)
          · exact .inr (.inr ⟨i, hi, hk⟩)
        have hsd1 : Src w1 sp data := by
          rcases hsd with hsd | ⟨b', o', e1, e2, e3⟩
          · exact .inl hsd
          · exact .inr ⟨b', o', e1, by have := hf.size; omega, fun j hj => (fr_cell hf (a := ⟨b', o' + j, none⟩) e2 (hsp b' o' e1 hne).1).trans (e3 j hj)⟩
        refine ⟨0, rfl, hf, (rwrite_go (hR1 w1 hf) h.lfb hg i hi (by have := h.wl i hi; simp only [List.length_cons]; omega) data hd sp cap hsd1 (fun b' o' e => ⟨fun c => (hsp b' o' e hne).2 (.inl c), fun c => (hsp b' o' e hne).2 (.inr (.inl c))⟩)).mono ?_⟩
        rintro e w2 ⟨rfl, ⟨g2, ⟨c2, hR2⟩, hg2⟩, hf2⟩
        have hf2' : Fr (Rk r gb n va) w1 w2 := hf2.mono fun k _ h => hrg k h
        have hrl : ∀ k, Rk r gb n va k → k < w.heap.size := fun k hk => by
          rcases hk with rfl | rfl | ⟨j, hj, rfl⟩
          · exact h.r'.rl
          · exact h.r'.at'.gl
          · exact (h.r'.at'.row j hj).2.1
        have hdk : ∀ k, Dk p q n (upd vs i (.slice (some ⟨g, 0, none⟩) ((ws i).length + 1) c)) k → Dk p q n vs k ∨ w.heap.size ≤ k := fun k hk => by
          rcases hk with hk | hk | ⟨j, hj, hk⟩
          · exact .inl (.inl hk)
          · exact .inl (.inr (.inl hk))
          · by_cases hji : j = i
            · subst hji
              rw [upd_same] at hk
              have e : g = k := Option.some.inj hk
              subst e
              rcases hat with hat | hat
              · exact .inl (.inr (.inr ⟨j, hj, hat⟩))
              · exact .inr hat
            · rw [upd_other _ _ _ hji] at hk
              exact .inl (.inr (.inr ⟨j, hj, hk⟩))
        have hap : ∀ k, Dk p q n (upd vs i (.slice (some ⟨g, 0, none⟩) ((ws i).length + 1) c)) k → ¬ Rk r gb n va k := fun k hk hr => by
          rcases hdk k hk with hk | hk
          · exact h.ap k hk hr
          · have := hrl k hr; omega
        rw [upd_cons] at hR2
        refine ⟨rfl, hf2', en, _, sf, _, q, _, gb, cb, _, _, ⟨hD.fr hf2' hap, hR2, ?_, ?_, ?_, goesL_ok h.lfb, ?_, (h.be.trans hbe).trans (hf2'.below (by have := h.bs; have := hbe.size; omega) h.rb)⟩, fun k hkl hT => ⟨fun c => ?_, fun c => ?_⟩⟩
        · intro k hk hr
          rcases hr with hr | hr | ⟨j, hj, hr⟩
          · exact hap k hk (.inl hr)
          · exact hap k hk (.inr (.inl hr))
          · by_cases hji : j = i
            · subst hji
              have e : g2 = k := by simpa [updN] using hr
              have := (hD.dk_lt hk).1
              omega
            · have e : va j = k := by simpa [updN, hji] using hr
              exact hap k hk (.inr (.inr ⟨j, hj, e⟩))
        · intro j hj hw
          by_cases hji : j = i
          · subst hji; rw [upd_same] at hw; simp at hw
          · rw [upd_other _ _ _ hji] at hw ⊢
            exact h.nil j hj hw
        · intro j hj
          by_cases hji : j = i
          · subst hji; rw [upd_same]; have := h.wl j hj; simp; omega
          · rw [upd_other _ _ _ hji]; have := h.wl j hj; omega
        · intro k hr
          rcases hr with hr | hr | ⟨j, hj, hr⟩
          · exact h.rb k (.inl hr)
          · exact h.rb k (.inr (.inl hr))
          · by_cases hji : j = i
            · subst hji
              have e : g2 = k := by simpa [updN] using hr
              have := hbe.size
              have := h.bs
              omega
            · have e : va j = k := by simpa [updN, hji] using hr
              exact h.rb k (.inr (.inr ⟨j, hj, e⟩))
        · rcases hdk k c with c | c
          · exact hT (.inl c)
          · omega
        · rcases c with c | c | ⟨j, hj, c⟩
          · exact hT (.inr (.inl c))
          · exact hT (.inr (.inr (.inl c)))
          · by_cases hji : j = i
            · subst hji
              have e : g2 = k := by simpa [updN] using c
              have := hf.size
              omega
            · have e : va j = k := by simpa [updN, hji] using c
              exact hT (.inr (.inr (.inr ⟨j, hj, e⟩)))
    · refine (write_size h.d i hi _ _ _ hsz).mono ?_
      rintro e w1 ⟨rfl, rfl⟩
      refine ⟨4, rfl, Fr.refl _ _, (rwrite_size h.r' i hi _ _ _ hsz).mono ?_⟩
      rintro e w2 ⟨rfl, rfl⟩
      exact ⟨rfl, Fr.refl _ _, en, lf, sf, ws, q, vs, gb, cb, va, vc, h.more (Nat.le_succ _), fun k _ hT => ⟨fun c => hT (.inl c), fun c => hT (.inr c)⟩⟩
end
end Go.Proofs.Ytcmkgcdjjplgdaa
