/- Three changes: which may be written, and what is laid. -/
import Derived.Test.YtaljaledeljllaaGreatPkw
namespace Go.Proofs.YtaljaledeljllaaGreat
open Go.RowKit
set_option maxRecDepth 100000
structure C3 (c1 c2 c3 : Ch) : Prop where
  i1 : c1.id = 1
  b1 : c1.b = 5
  f1 : c1.fr = 0
  d1 : c1.d = [97]
  w1 : c1.wr = false
  a1 : c1.ah = []
  i2 : c2.id = 2
  b2 : c2.b = 6
  w2 : c2.wr = false
  a2 : (1 : Int) ∈ c2.ah
  a2' : ∀ i ∈ c2.ah, i = 1
  i3 : c3.id = 3
  b3 : c3.b = 5
  f3 : c3.fr = 1
  d3 : c3.d = [99]
  w3 : c3.wr = false
  a3 : (2 : Int) ∈ c3.ah
  a3' : ∀ i ∈ c3.ah, i = 1 ∨ i = 2
section
variable {c1 c2 c3 : Ch}
theorem C3.of6 (h : C3 c1 c2 c3) : ofB [c1, c2, c3] 6 = [c2] := by simp [ofB, h.b1, h.b2, h.b3]
theorem C3.of5 (h : C3 c1 c2 c3) : ofB [c1, c2, c3] 5 = [c1, c3] := by simp [ofB, h.b1, h.b2, h.b3]
theorem C3.alw6 (h : C3 c1 c2 c3) : alw [c1, c2, c3] 6 = [] := by
  unfold alw
  rw [h.of6]
  have e : c2.ah.any (holdsB [c1, c2, c3] []) = true := List.any_eq_true.2 ⟨1, h.a2, by simp [holdsB, opn, h.i1]⟩
  simp [allowG, e]
theorem C3.alw5 (h : C3 c1 c2 c3) : alw [c1, c2, c3] 5 = [1] := by
  unfold alw
  rw [h.of5]
  have e : c3.ah.any (holdsB [c1, c2, c3] [1]) = true := List.any_eq_true.2 ⟨2, h.a3, by simp [holdsB, opn, h.i2]⟩
  simp [allowG, h.a1, h.i1, e]
theorem C3.pick6 (h : C3 c1 c2 c3) : pickC (ofB [c1, c2, c3] 6) (alw [c1, c2, c3] 6) = [] := by rw [h.alw6]; simp [pickC]
theorem C3.pick5 (h : C3 c1 c2 c3) : pickC (ofB [c1, c2, c3] 5) (alw [c1, c2, c3] 5) = [c1] := by
  rw [h.alw5, h.of5]; simp [pickC, h.i1, h.i3]
theorem C3.wr5 (h : C3 c1 c2 c3) : nwr ([c1, c2, c3].map (setW (alw [c1, c2, c3] 5))) = [c2, c3] := by
  rw [h.alw5]
  simp [nwr, setW, h.i1, h.i2, h.i3, h.w2, h.w3]
theorem C3.alw6' (h : C3 c1 c2 c3) : alw [c2, c3] 6 = [2] := by
  have e0 : ofB [c2, c3] 6 = [c2] := by simp [ofB, h.b2, h.b3]
  unfold alw
  rw [e0]
  have e : c2.ah.any (holdsB [c2, c3] []) = false := by
    rw [List.any_eq_false]
    intro i hi
    rw [h.a2' i hi]
    simp [holdsB, opn, h.i2, h.i3]
  simp [allowG, e, h.i2]
theorem C3.wr6 (h : C3 c1 c2 c3) : nwr ([c2, c3].map (setW (alw [c2, c3] 6))) = [c3] := by
  rw [h.alw6']
  simp [nwr, setW, h.i2, h.i3, h.w3]
theorem C3.ready (h : C3 c1 c2 c3) : nwr (pickC (ofB [c3] 5) (alw [c3] 5)) = [c3] := by
  have e0 : ofB [c3] 5 = [c3] := by simp [ofB, h.b3]
  have e : c3.ah.any (holdsB [c3] []) = false := by
    rw [List.any_eq_false]
    intro i hi
    rcases h.a3' i hi with rfl | rfl
    · simp [holdsB, opn, h.i3]
    · simp [holdsB, opn, h.i3]
  have e2 : alw [c3] 5 = [3] := by
    unfold alw; rw [e0]; simp [allowG, e, h.i3]
  rw [e0, e2]
  simp [pickC, nwr, h.i3, h.w3]
theorem zer_get (j : Nat) (hj : j < 256) : zer[j]? = some 0 := by
  unfold zer
  rw [List.getElem?_replicate, if_pos hj]
theorem C3.im5 (h : C3 c1 c2 c3) : (lays zer [c1])[0]? = some 97 ∧ (lays zer [c1])[1]? = some 0 := by
  have hz : zer.length = 256 := by simp [zer]
  rw [lays_cons, lays_nil, h.f1, h.d1]
  rw [layB_get (by rw [hz]; simp), layB_get (by rw [hz]; simp), zer_get 1 (by omega)]
  simp
theorem C3.rd5 (h : C3 c1 c2 c3) : (lays zer [c1, c3])[1]? = some 99 := by
  have hz : zer.length = 256 := by simp [zer]
  rw [lays_cons, lays_cons, lays_nil, h.f3, h.d3]
  rw [layB_get (by rw [layB_length (by rw [h.f1, h.d1, hz]; simp), hz]; simp)]
  simp
end
theorem src_one (w : World) (x : UInt8) : Src (w.alloc (.cells #[bv x] 5 (1, 2))) (some ⟨w.heap.size, 0, none⟩) [x] := by
  refine .inr ⟨w.heap.size, 0, rfl, by show _ < (w.heap.push _).size; simp, fun j hj => ?_⟩
  have hj0 : j = 0 := by simpa using hj
  subst hj0
  have := heap_alloc_new w (.cells #[bv x] 5 (1, 2))
  exact (cell_of_row _ _ _ _ _ _ this).trans rfl
theorem srcI_one (w : World) (i : Int) : SrcI (w.alloc (.cells #[.int .i64 i] 2)) (some ⟨w.heap.size, 0, none⟩) [i] := by
  refine .inr ⟨w.heap.size, 0, rfl, by show _ < (w.heap.push _).size; simp, fun j hj => ?_⟩
  have hj0 : j = 0 := by simpa using hj
  subst hj0
  have := heap_alloc_new w (.cells #[.int .i64 i] 2)
  exact (cell_of_row _ _ _ _ _ _ this).trans rfl
/-- The store of a walk that began at w0. -/
structure KW (w0 w : World) (p : Nat) (s : PSt) (ops : Nat → List Int) (κ : Nat) : Prop where
  pm : PM w w0.heap.size s ops
  pl : PL s ops [] κ
  be : Below w0.heap.size w0 w
  p : s.p = p
  dn : s.σ.dn = 8
theorem KW.up {w0 w w' : World} {p : Nat} {s : PSt} {ops : Nat → List Int} {κ : Nat} (h : KW w0 w p s ops κ) (hb : Below w.heap.size w w') : KW w0 w' p s ops κ :=
  ⟨h.pm.up hb, h.pl, h.be.trans (hb.mono h.be.size), h.p, h.dn⟩
theorem KW.run {w0 w w' : World} {p : Nat} {s s' : PSt} {ops ops' : Nat → List Int} {κ κ' : Nat} (h : KW w0 w p s ops κ) (hR : PRun w0.heap.size s w s' ops' w') (hL : PL s' ops' [] κ') (hp : s'.p = s.p) (hd : s'.σ.dn = s.σ.dn) : KW w0 w' p s' ops' κ' :=
  ⟨hR.pm, hL, h.be.trans hR.be, hp.trans h.p, hd.trans h.dn⟩
section
variable {w0 w : World} {p : Nat} {s : PSt} {ops : Nat → List Int} {κ : Nat}
theorem PL.bkOf (h : PL s ops [] κ) {n : Nat} (hc : ∃ c ∈ s.C, c.b = n) : ∃ b ∈ s.B, b.n = n ∧ b.ba = s.σ.sf n := by
  obtain ⟨c, hc, hcb⟩ := hc
  obtain ⟨b, hb, hbn⟩ := h.cb c hc
  rw [hcb] at hbn
  have := h.sfb b hb
  rw [hbn, if_neg (by simp)] at this
  exact ⟨b, hb, hbn, this.symm⟩
theorem kw_image (h : KW w0 w p s ops κ) (hκ : κ ≤ 1000) (n : Nat) (hn : n < 8) (hc : ∃ c ∈ s.C, c.b = n) :
    Calls Tryz.prog 35 #[.pointer (some ⟨p, 0, none⟩), .int .i64 (n : Int)] w fun r w' => ∃ g s', r = .returned (.tuple #[.slice (some ⟨g, 0, none⟩) 256 256, .int .i64 0]) ∧ KW w0 w' p s' ops (κ + 1) ∧ PRun w0.heap.size s w s' ops w' ∧ (s'.cnt = s.cnt ∧ s'.C = s.C ∧ s'.σ.sf = s.σ.sf) ∧ ∀ j x, (lays (s.σ.sf n) (pickC (ofB s.C n) (alw s.C n)))[j]? = some x → Cl w' s' g j (bv x) := by
  obtain ⟨b, hb, hbn, hba⟩ := h.pl.bkOf hc
  have := pimage_any h.pm h.pl (by omega) n (by rw [h.dn]; exact hn) hb hbn
  rw [h.p] at this
  refine this.mono ?_
  rintro r w' ⟨g, σ', d, pn, rfl, hg, hgl, hR, hL, hd, hC, hA⟩
  refine ⟨g, _, rfl, h.run hR hL h.p.symm hC.dn, hR, ⟨rfl, rfl, hC.sf⟩, fun j x hx => ⟨hg.lt, hA, ?_⟩⟩
  rw [hba] at hg
  obtain ⟨hj, e⟩ := List.getElem?_eq_some_iff.1 hx
  rw [hg.cell j hj, e]
theorem kw_read (h : KW w0 w p s ops κ) (hκ : κ ≤ 1000) (n : Nat) (hn : n < 8) (hc : ∃ c ∈ s.C, c.b = n) :
    Calls Tryz.prog 34 #[.pointer (some ⟨p, 0, none⟩), .int .i64 (n : Int)] w fun r w' => ∃ g cap s', r = .returned (.tuple #[.slice (some ⟨g, 0, none⟩) 256 cap, .int .i64 0]) ∧ KW w0 w' p s' ops (κ + 1) ∧ PRun w0.heap.size s w s' ops w' ∧ (s'.cnt = s.cnt ∧ s'.C = s.C ∧ s'.σ.sf = s.σ.sf) ∧ ∀ j x, (lays (s.σ.sf n) (ofB s.C n))[j]? = some x → Cl w' s' g j (bv x) := by
  obtain rfl : s.p = p := h.p
  obtain ⟨b, hb, hbn, hba⟩ := h.pl.bkOf hc
  have := pread_any h.pm h.pl (by omega) n (by rw [h.dn]; exact hn)
  refine this.mono ?_
  rintro r w' ⟨v, d, pn, σ', rfl, hd, hO, hdl, hR, hL, hC, hS⟩
  obtain ⟨g, cap, t, r, rfl, hgl, hg, _, _⟩ := hO.row hdl
  have hcab := h.pl.cab b hb
  rw [hbn] at hcab
  rw [hcab] at hd
  have hd' : d = lays b.ba (ofB s.C n) := by simpa using congrArg Prod.fst hd
  refine ⟨g, cap, _, rfl, h.run hR hL rfl hC.dn, hR, ⟨rfl, rfl, hC.sf⟩, fun j x hx => ⟨(Array.getElem?_eq_some_iff.1 hg).1, fun hA => ?_, ?_⟩⟩
  · rcases hA with hA | hA
    · have := (h.pm.fk g hA).2.1
      omega
    · exact hS g rfl hA
  · rw [← hba, ← hd'] at hx
    obtain ⟨hj, e⟩ := List.getElem?_eq_some_iff.1 hx
    rw [cell_of_row _ _ _ _ _ _ hg]
    simp [bvs, List.getElem?_append_left, hj, e]
theorem kw_safe (h : KW w0 w p s ops κ) (x : Int) (hx : 1 ≤ x ∧ x ≤ (s.cnt : Int) ∧ x ≤ 1000) :
    Calls Tryz.prog 29 #[.pointer (some ⟨p, 0, none⟩), .int .i64 x] w fun r w' => r = .returned (.bool (!opn s.C x)) ∧ w' = w := by
  have := psafe_any h.pm x (by omega)
  rw [h.p] at this
  refine this.mono ?_
  rintro r w' ⟨rfl, rfl⟩
  refine ⟨?_, rfl⟩
  have h1 := lkC_opn h.pl.asc x
  rw [← h.pl.fc] at h1
  rw [← h1]
  congr 2
  by_cases h2 : s.fC x = 0
  · simp [h2]; omega
  · simp [h2]
theorem kw_write (h : KW w0 w p s ops κ) (hκ : κ ≤ 1000) (n : Nat) (hn : n < 8) (hc : ∃ c ∈ s.C, c.b = n) :
    Calls Tryz.prog 26 #[.pointer (some ⟨p, 0, none⟩), .int .i64 (n : Int)] w fun r w' => r = .returned (.int .i64 0) ∧ ∃ s', KW w0 w' p s' ops (κ + 1) ∧ PRun w0.heap.size s w s' ops w' ∧ s'.cnt = s.cnt ∧ s'.C = s.C.map (setW (alw s.C n)) := by
  have := pw_write h.pm h.pl (by omega) n (by rw [h.dn]; exact hn) hc
  rw [h.p] at this
  refine this.mono ?_
  rintro r w' ⟨rfl, s', hR, hL, hC, hcnt, hp, hdn, _⟩
  exact ⟨rfl, s', h.run hR hL (hp.trans h.p.symm) hdn, hR, hcnt, hC⟩
theorem kw_flush (h : KW w0 w p s ops κ) (hκ : κ ≤ 1000) :
    Calls Tryz.prog 27 #[.pointer (some ⟨p, 0, none⟩)] w fun r w' => r = .returned (.int .i64 0) ∧ ∃ s' ops', KW w0 w' p s' ops' (κ + 1) ∧ PRun w0.heap.size s w s' ops' w' ∧ s'.cnt = s.cnt ∧ s'.C = nwr s.C := by
  have := pflush_any h.pm h.pl (by omega)
  rw [h.p] at this
  refine this.mono ?_
  rintro r w' ⟨rfl, s', ops', hR, hL, hC, hcnt, hp, _, hdn, _⟩
  exact ⟨rfl, s', ops', h.run hR hL (hp.trans h.p.symm) hdn, hR, hcnt, hC⟩
end
end Go.Proofs.YtaljaledeljllaaGreat
