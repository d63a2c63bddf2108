/- The document's Stop, goes and Flush. -/
import Derived.Test.YtcmkgcdjjplgdaaFr2
namespace Go.Proofs.Ytcmkgcdjjplgdaa
open Go.RowKit
section
variable {w : World} {base r n : Nat} {held : Bool} {left : Int} {ver : Nat → List (List UInt8)} {gb cb : Nat} {va vc : Nat → Nat}
/-- The document's disk, its blocks apart and none frozen. -/
structure RefW (w : World) (base r n : Nat) (held : Bool) (left : Int) (ver : Nat → List (List UInt8)) (gb cb : Nat) (va vc : Nat → Nat) : Prop where
  at' : RefAt w base r n held left ver gb cb va vc
  fr : ∀ o, w.frozen? ⟨r, o, none⟩ = false
  fg : ∀ o, w.frozen? ⟨gb, o, none⟩ = false
  rg : r ≠ gb
  ar : ∀ i, i < n → va i ≠ r ∧ va i ≠ gb
theorem RefW.rl (h : RefW w base r n held left ver gb cb va vc) : r < w.heap.size := block_lt_of_cell h.at'.c0
theorem RefW.keep (h : RefW w base r n held left ver gb cb va vc) {S : Nat → Prop} {w' : World} (hf : Fr S w w') (hS : ∀ k, Rk r gb n va k → ¬ S k) : RefW w' base r n held left ver gb cb va vc :=
  ⟨h.at'.fr hf hS, fun o => (fr_frozen hf (a := ⟨r, o, none⟩) h.rl (hS r (.inl rfl))).trans (h.fr o), fun o => (fr_frozen hf (a := ⟨gb, o, none⟩) h.at'.gl (hS gb (.inr (.inl rfl)))).trans (h.fg o), h.rg, h.ar⟩
theorem RefW.below (h : RefW w base r n held left ver gb cb va vc) {w' : World} (hb : Below w.heap.size w w') : RefW w' base r n held left ver gb cb va vc :=
  h.keep (S := fun _ => False) (Fr.of_below hb) (fun _ _ h => h)
theorem RefW.set1 (h : RefW w base r n held left ver gb cb va vc) (x : Bool) : RefW (w.setCell ⟨r, 1, none⟩ (.bool x)) base r n x left ver gb cb va vc := by
  have k := h.at'
  refine ⟨{ nn := k.nn, rb := k.rb, gl := (by simpa [World.setCell] using k.gl), cl := k.cl, c0 := (World.cell?_setCell_other _ _ _ _ (by simp)).trans k.c0, c1 := World.cell?_setCell_same _ _ _ k.c1, c2 := (World.cell?_setCell_other _ _ _ _ (by simp)).trans k.c2, row := fun i hi => ⟨(World.cell?_setCell_other _ _ _ _ (by intro e; exact h.rg (congrArg Addr.block e))).trans (k.row i hi).1, (by have := (k.row i hi).2.1; simpa [World.setCell] using this), (k.row i hi).2.2⟩, vers := fun i hi j hj => (World.cell?_setCell_other _ _ _ _ (by intro e; exact (h.ar i hi).1 (congrArg Addr.block e).symm)).trans (k.vers i hi j hj) }, fun o => by simpa using h.fr o, fun o => by simpa using h.fg o, h.rg, h.ar⟩
theorem RefW.set2 (h : RefW w base r n held left ver gb cb va vc) (x : Int) : RefW (w.setCell ⟨r, 2, none⟩ (.int .i64 x)) base r n held x ver gb cb va vc := by
  have k := h.at'
  refine ⟨{ nn := k.nn, rb := k.rb, gl := (by simpa [World.setCell] using k.gl), cl := k.cl, c0 := (World.cell?_setCell_other _ _ _ _ (by simp)).trans k.c0, c1 := (World.cell?_setCell_other _ _ _ _ (by simp)).trans k.c1, c2 := World.cell?_setCell_same _ _ _ k.c2, row := fun i hi => ⟨(World.cell?_setCell_other _ _ _ _ (by intro e; exact h.rg (congrArg Addr.block e))).trans (k.row i hi).1, (by have := (k.row i hi).2.1; simpa [World.setCell] using this), (k.row i hi).2.2⟩, vers := fun i hi j hj => (World.cell?_setCell_other _ _ _ _ (by intro e; exact (h.ar i hi).1 (congrArg Addr.block e).symm)).trans (k.vers i hi j hj) }, fun o => by simpa using h.fr o, fun o => by simpa using h.fg o, h.rg, h.ar⟩
def updN (f : Nat → Nat) (i x : Nat) : Nat → Nat := fun j => if j = i then x else f j
/-- One block's list of versions is laid anew. -/
theorem RefW.setV (h : RefW w base r n held left ver gb cb va vc) (i : Nat) (hi : i < n) (l : List (List UInt8)) (g c : Nat) (hl : 1 ≤ l.length ∧ l.length ≤ 1000000 ∧ l.length ≤ c ∧ (c : Int) ≤ 9223372036854775807) (hg : g < w.heap.size) (h1 : g ≠ r) (h2 : g ≠ gb) (hv : ∀ j, (hj : j < l.length) → w.cell? ⟨g, j, none⟩ = some (.string (str l[j]))) :
    RefW (w.setCell ⟨gb, i, none⟩ (.slice (some ⟨g, 0, none⟩) l.length c)) base r n held left (upd ver i l) gb cb (updN va i g) (updN vc i c) := by
  have k := h.at'
  have hr : ∀ o, (w.setCell ⟨gb, i, none⟩ (.slice (some ⟨g, 0, none⟩) l.length c)).cell? ⟨r, o, none⟩ = w.cell? ⟨r, o, none⟩ := fun o => World.cell?_setCell_other _ _ _ _ (by intro e; exact h.rg (congrArg Addr.block e).symm)
  refine ⟨{ nn := k.nn, rb := k.rb, gl := (by simpa [World.setCell] using k.gl), cl := k.cl, c0 := (hr 0).trans k.c0, c1 := (hr 1).trans k.c1, c2 := (hr 2).trans k.c2, row := fun j hj => ?_, vers := fun j hj t ht => ?_ }, fun o => by simpa using h.fr o, fun o => by simpa using h.fg o, h.rg, fun j hj => ?_⟩
  · unfold upd updN
    by_cases e : j = i
    · subst e
      simp only [if_true]
      exact ⟨World.cell?_setCell_same _ _ _ (k.row j hj).1, by simpa [World.setCell] using hg, hl.1, hl.2.1, hl.2.2.1, hl.2.2.2⟩
    · simp only [if_neg e]
      exact ⟨(World.cell?_setCell_other _ _ _ _ (by intro e2; exact e (congrArg Addr.off e2).symm)).trans (k.row j hj).1, (by have := (k.row j hj).2.1; simpa [World.setCell] using this), (k.row j hj).2.2⟩
  · unfold upd at ht ⊢
    unfold updN
    by_cases e : j = i
    · subst e
      simp only [if_true] at ht ⊢
      exact (World.cell?_setCell_other _ _ _ _ (by intro e2; exact h2 (congrArg Addr.block e2).symm)).trans (hv t ht)
    · simp only [if_neg e] at ht ⊢
      exact (World.cell?_setCell_other _ _ _ _ (by intro e2; exact (h.ar j hj).2 (congrArg Addr.block e2).symm)).trans (k.vers j hj t ht)
  · unfold updN
    by_cases e : j = i
    · simp only [if_pos e]; exact ⟨h1, h2⟩
    · simp only [if_neg e]; exact h.ar j hj
set_option maxHeartbeats 1000000 in
theorem rstop_any (h : RefW w base r n held left ver gb cb va vc) (b : Int) :
    Calls Try.prog 40 #[.pointer (some ⟨r, 0, none⟩), .int .i64 b] w fun e w' => e = .returned (.tuple #[]) ∧ RefW w' base r n true (if b < 0 then 0 else b) ver gb cb va vc ∧ Fr (fun k => k = r) w w' := by
  have f1 := h.fr 1
  have f2 := h.fr 2
  have c1 := h.at'.c1
  have c2 := h.at'.c2
  have H1 : Hid _ := (h.set1 true).set2 b
  have H2 : Hid _ := ((h.set1 true).set2 b).set2 0
  have F1 : Hid (Fr (fun k => k = r) w ((w.setCell ⟨r, 1, none⟩ (.bool true)).setCell ⟨r, 2, none⟩ (.int .i64 b))) := ((Fr.refl (fun k => k = r) w).setCell r 1 _ rfl).setCell r 2 _ rfl
  have F2 : Hid (Fr (fun k => k = r) w (((w.setCell ⟨r, 1, none⟩ (.bool true)).setCell ⟨r, 2, none⟩ (.int .i64 b)).setCell ⟨r, 2, none⟩ (.int .i64 0))) := F1.out.setCell r 2 _ rfl
  clear h
  by_cases hb : b < 0
  · go_enter Try.func40, Try.ntmps40
    go_wp2
    go_end0
    exact ⟨rfl, H2.out, F2.out⟩
  · go_enter Try.func40, Try.ntmps40
    go_wp2
    go_end0
    exact ⟨rfl, H1.out, F1.out⟩
set_option maxHeartbeats 1000000 in
theorem rgoes_any (h : RefW w base r n held left ver gb cb va vc) (hl : 0 ≤ left ∧ left ≤ 9223372036854775807) :
    Calls Try.prog 49 #[.pointer (some ⟨r, 0, none⟩)] w fun e w' => e = .returned (.bool (goesB held left)) ∧ RefW w' base r n held (goesL held left) ver gb cb va vc ∧ Fr (fun k => k = r) w w' := by
  have ST := rstopped_any h.at'
  have c1 := h.at'.c1
  have c2 := h.at'.c2
  have f2 := h.fr 2
  have H0 : Hid _ := h
  have H1 : Hid (RefW (w.setCell ⟨r, 2, none⟩ (.int .i64 (left - 1))) base r n held (left - 1) ver gb cb va vc) := h.set2 _
  have F1 : Hid (Fr (fun k => k = r) w (w.setCell ⟨r, 2, none⟩ (.int .i64 (left - 1)))) := (Fr.refl (fun k => k = r) w).setCell r 2 _ rfl
  clear h
  cases held with
  | false =>
    go_enter Try.func49, Try.ntmps49
    go_wp2_with fail
    refine ST.mono ?_
    rintro e w2 ⟨rfl, rfl⟩
    go_wp2
    go_ret
    exact ⟨rfl, H0.out, Fr.refl _ _⟩
  | true =>
    by_cases h0 : left = 0
    · subst h0
      go_enter Try.func49, Try.ntmps49
      go_wp2_with fail
      refine ST.mono ?_
      rintro e w2 ⟨rfl, rfl⟩
      go_wp2
      go_ret
      exact ⟨rfl, H0.out, Fr.refl _ _⟩
    · have hb : (left == 0) = false := by simpa using h0
      have HG : Hid (goesB true left = true ∧ goesL true left = left - 1) := by
        show _ ∧ _
        unfold goesB goesL
        rw [hb]; exact ⟨rfl, rfl⟩
      rw [HG.out.1, HG.out.2]
      rw [hb] at ST
      clear h0
      go_enter Try.func49, Try.ntmps49
      go_wp2_with fail
      refine ST.mono ?_
      rintro e w2 ⟨rfl, rfl⟩
      go_wp2
      go_ret
      exact ⟨rfl, H1.out, F1.out⟩
end
end Go.Proofs.Ytcmkgcdjjplgdaa
