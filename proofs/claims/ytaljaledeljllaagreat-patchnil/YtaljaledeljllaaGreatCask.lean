/- Package cache: unlist, leave. -/
import Derived.Test.YtaljaledeljllaaGreatCdir
namespace Go.Proofs.YtaljaledeljllaaGreat
open Go.RowKit
set_option maxRecDepth 100000
theorem getD_app (X Z : List Int) (y : Int) : (X ++ y :: Z).getD X.length 0 = y := by simp
theorem erase_app (X Z : List Int) (y : Int) : (X ++ y :: Z).eraseIdx X.length = X ++ Z := by
  rw [List.eraseIdx_append_of_length_le (Nat.le_refl _)]; simp
theorem Fr.of_grown {w w' : World} {g : Nat} (h : w.grownBy w' (some g)) : Fr (fun k => k = g) w w' := ⟨h.size, fun k hk hn => h.block k hk (fun e => hn (Option.some.inj e))⟩
section
variable {w w' : World} {base : Nat} {σ : CSt} {O : List Int}
set_option maxHeartbeats 1000000 in
theorem unlist_any (h : CS w base σ O) {X Z : List Int} {y : Int} (hO : O = X ++ y :: Z) (hy : ∀ x ∈ X, ¬ y = x) :
    Calls Tryz.prog 132 #[.pointer (some ⟨σ.p, 0, none⟩), .int .i64 y] w fun r w' => r = .returned (.tuple #[]) ∧ ∃ v', CS w' base { σ with ov := v' } (X ++ Z) ∧ Step σ { σ with ov := v' } w w' ∧ Below base w w' := by
  have hord := h.ord
  obtain ⟨ao, cap, hov, hsrc, hlc, hcm, hnil⟩ := hord.form
  have hlen : O.length = X.length + Z.length + 1 := by rw [hO]; simp; omega
  rcases hsrc with hsrc | ⟨g, off, rfl, hgl, hcell⟩
  · rw [hsrc] at hlen; simp at hlen
  have hg0 : off = 0 ∧ base ≤ g := by
    rcases hord.2 with ⟨h2, _⟩ | ⟨g', cap', cur, hv, hgb, _⟩
    · rw [hov] at h2; cases h2
    · rw [hov] at hv
      simp only [Value.slice.injEq, Option.some.injEq, Addr.mk.injEq] at hv
      exact ⟨hv.1.2.1, by omega⟩
  obtain ⟨rfl, hgb⟩ := hg0
  have hob : σ.ov.ownBlock = some g := by rw [hov]; rfl
  have hgp : ¬ σ.p = g := fun e => h.po (by rw [hob, e])
  rw [hov, hlen] at hord
  have IX := index_any g 0 (X.length + Z.length + 1) cap O y X.length w (fun j hj => hcell j (by omega)) (by omega) (by omega) (by rw [hO]; exact getD_app X Z y) (fun j hj => by
    rw [hO, List.getD_eq_getElem?_getD, List.getElem?_append_left hj]
    rw [List.getElem?_eq_getElem hj]
    exact hy _ (List.getElem_mem hj))
  have DL := delete_any base g cap (X.length + Z.length) X.length O w hord hlen (by omega) hcm
  rw [show O.eraseIdx X.length = X ++ Z by rw [hO]; exact erase_app X Z y] at DL
  have q3 := h.c3
  rw [hov, hlen] at q3
  have HH : Hid (CS w base σ O) := h
  have HOB : Hid (σ.ov.ownBlock = some g) := hob
  have HPL : Hid (σ.p < w.heap.size) := h.pl
  have hib : (X.length : Int) + 1 ≤ 9223372036854775807 := by omega
  clear hcell hord h hob hov hO hy hlen hnil hlc hgl
  obtain ⟨m, hm⟩ : ∃ m, m = X.length + Z.length := ⟨_, rfl⟩
  obtain ⟨i, hi⟩ : ∃ i, i = X.length := ⟨_, rfl⟩
  rw [← hm] at IX DL q3
  rw [← hi] at IX DL hib
  clear hm hi
  go_enter Tryz.func132, Tryz.ntmps132
  go_wp2_with fail
  refine IX.mono ?_
  rintro e w1 ⟨rfl, hw1⟩
  obtain rfl : w = w1 := hw1.symm
  clear IX
  go_wp2_with fail

  refine DL.mono ?_
  clear DL
  rintro e w2 ⟨rfl, ho2, hg2⟩
  have q3' : w2.cell? ⟨σ.p, 3, none⟩ = _ := (World.cell?_of_block (a := ⟨σ.p, 3, none⟩) (hg2.block σ.p HPL.out (fun e => hgp (Option.some.inj e)))).trans q3
  have qf : w2.frozen? ⟨σ.p, 3, none⟩ = false := (World.frozen?_of_block (a := ⟨σ.p, 3, none⟩) (hg2.block σ.p HPL.out (fun e => hgp (Option.some.inj e)))).trans (HH.out.fp 3)
  go_wp2
  go_end0
  have hP := hg2.block σ.p HPL.out (fun e => hgp (Option.some.inj e))
  have hf : Fr (fun k => k = σ.p ∨ σ.ov.ownBlock = some k) w (w2.setCell ⟨σ.p, 3, none⟩ (.slice (some ⟨g, 0, none⟩) m cap)) :=
    ((Fr.of_grown hg2).mono fun k _ hk => .inr (by rw [HOB.out, hk])).setCell σ.p 3 _ (.inl rfl)
  have hs : ∀ k, (Value.slice (some ⟨g, 0, none⟩) m cap).ownBlock = some k → σ.ov.ownBlock = some k ∨ w.heap.size ≤ k := fun k hk => .inl (by rw [HOB.out]; exact hk)
  refine ⟨rfl, _, HH.out.reord hf ?_ ?_ ?_ ?_ hs, Step.ord hf hs, ?_⟩
  · intro o ho
    exact (World.cell?_setCell_other _ _ _ _ (fun c => ho (by injection c with _ c2; exact c2.symm))).trans (World.cell?_of_block (a := ⟨σ.p, o, none⟩) hP)
  · exact World.cell?_setCell_same _ _ _ q3'
  · intro o
    rw [World.frozen?_setCell]
    exact (World.frozen?_of_block (a := ⟨σ.p, o, none⟩) hP).trans (HH.out.fp o)
  · exact ho2.same fun k hk => heap_setCell_other _ _ _ _ (fun e => by cases hk; exact hgp e.symm)
  · exact ((Below.refl _ _).grown hg2 (by have := HH.out.pb; have := HPL.out; omega) (fun k hk => by cases hk; exact hgb)).setCell HH.out.pb _
/-- One block less. -/
theorem CS.dropL (h : CS w base σ O) {A B : List CE} {e : CE} (hL : σ.L = A ++ e :: B) (hf : Fr (fun k => k = σ.mb) w w') (hm : PMap w' σ.mb σ.K (lookF (A ++ B))) : CS w' base { σ with L := A ++ B } O := by
  have sub : ∀ x, x ∈ A ++ B → x ∈ σ.L := fun x hx => by
    rw [hL]
    rcases List.mem_append.1 hx with hx | hx
    · exact List.mem_append.2 (.inl hx)
    · exact List.mem_append.2 (.inr (List.mem_cons_of_mem _ hx))
  have cp : ∀ o, w'.cell? ⟨σ.p, o, none⟩ = w.cell? ⟨σ.p, o, none⟩ := fun o => fr_cell hf (a := ⟨σ.p, o, none⟩) h.pl h.pm
  have nodup : ∀ f : CE → Nat, (σ.L.map f).Nodup → ((A ++ B).map f).Nodup := fun f hd => by
    rw [hL] at hd
    refine List.Nodup.sublist ?_ hd
    rw [List.map_append, List.map_append]
    exact List.Sublist.append (List.Sublist.refl _) (by rw [List.map_cons]; exact List.sublist_cons_self _ _)
  exact {
    disk := h.disk.fr hf fun k hk hS => h.dk k hk (.inr (.inl hS))
    c0 := (cp 0).trans h.c0, c1 := (cp 1).trans h.c1, c2 := (cp 2).trans h.c2, c3 := (cp 3).trans h.c3
    fp := fun o => (fr_frozen hf (a := ⟨σ.p, o, none⟩) h.pl h.pm).trans (h.fp o)
    ord := h.ord.same fun k hk => hf.blk k (h.ord.lt k hk).2 (fun e => h.mo (by rw [hk, e]))
    map := hm
    blk := fun x hx => ⟨(hf.blk x.q (h.sk_lt (.inr (.inr (.inr ⟨x, sub x hx, rfl⟩)))) (h.bq x (sub x hx)).2.1).trans (h.blk x (sub x hx)).1, (h.blk x (sub x hx)).2⟩
    nd := nodup _ h.nd, qd := nodup _ h.qd, pm := h.pm, po := h.po, mo := h.mo
    bq := fun x hx => h.bq x (sub x hx)
    pb := h.pb, mbb := h.mbb
    dk := fun k hk hC => h.dk k hk (by
      rcases hC with hC | hC | hC | ⟨x, hx, hq⟩
      · exact .inl hC
      · exact .inr (.inl hC)
      · exact .inr (.inr (.inl hC))
      · exact .inr (.inr (.inr ⟨x, sub x hx, hq⟩)))
    m1 := h.m1 }
theorem Step.dropL {A B : List CE} {e : CE} (hL : σ.L = A ++ e :: B) (hf : Fr (fun k => k = σ.mb) w w') : Step σ { σ with L := A ++ B } w w' := by
  refine ⟨hf.mono fun k _ hk => .inl (.inr (.inl hk)), fun k hk => .inl ?_⟩
  rcases hk with (hk | hk | hk | ⟨x, hx, hq⟩) | hk
  · exact .inl (.inl hk)
  · exact .inl (.inr (.inl hk))
  · exact .inl (.inr (.inr (.inl hk)))
  · refine .inl (.inr (.inr (.inr ⟨x, ?_, hq⟩)))
    rw [hL]
    rcases List.mem_append.1 hx with hx | hx
    · exact List.mem_append.2 (.inl hx)
    · exact List.mem_append.2 (.inr (List.mem_cons_of_mem _ hx))
  · exact .inr hk
/-- One block more. -/
theorem CS.addL (h : CS w base σ O) {e : CE} (hq : w.heap[e.q]? = some (.cells (beL e).toArray 176 (0, 0))) (hd : e.d.length = 256) (hn : e.n < σ.dn) (hp : e.pin ≤ σ.K + 1) (hb : base ≤ e.q) (hS : ¬ Sk σ e.q) (hne : ∀ x ∈ σ.L, ¬ x.n = e.n)
    (hf : Fr (fun k => k = σ.mb) w w') (hm : PMap w' σ.mb (σ.K + 1) (setF (lookF σ.L) e.n (e.q + 1))) : CS w' base { σ with L := σ.L ++ [e], K := σ.K + 1 } O := by
  have cp : ∀ o, w'.cell? ⟨σ.p, o, none⟩ = w.cell? ⟨σ.p, o, none⟩ := fun o => fr_cell hf (a := ⟨σ.p, o, none⟩) h.pl h.pm
  have hql : e.q < w.heap.size := (Array.getElem?_eq_some_iff.1 hq).1
  have hqm : ¬ e.q = σ.mb := fun c => hS (.inl (.inr (.inl c)))
  exact {
    disk := h.disk.fr hf fun k hk hS => h.dk k hk (.inr (.inl hS))
    c0 := (cp 0).trans h.c0, c1 := (cp 1).trans h.c1, c2 := (cp 2).trans h.c2, c3 := (cp 3).trans h.c3
    fp := fun o => (fr_frozen hf (a := ⟨σ.p, o, none⟩) h.pl h.pm).trans (h.fp o)
    ord := h.ord.same fun k hk => hf.blk k (h.ord.lt k hk).2 (fun e => h.mo (by rw [hk, e]))
    map := by rw [← lookF_add hne]; exact hm
    blk := fun x hx => by
      rcases List.mem_append.1 hx with hx | hx
      · have := h.blk x hx
        exact ⟨(hf.blk x.q (h.sk_lt (.inr (.inr (.inr ⟨x, hx, rfl⟩)))) (h.bq x hx).2.1).trans this.1, this.2.1, this.2.2.1, by have := this.2.2.2; show _ ≤ σ.K + 1; omega⟩
      · simp only [List.mem_singleton] at hx
        subst hx
        exact ⟨(hf.blk _ hql hqm).trans hq, hd, hn, hp⟩
    nd := by
      rw [List.map_append, List.nodup_append]
      refine ⟨h.nd, by simp, fun a ha b hb => ?_⟩
      obtain ⟨x, hx, rfl⟩ := List.mem_map.1 ha
      simp only [List.map_cons, List.map_nil, List.mem_singleton] at hb
      subst hb
      exact hne x hx
    qd := by
      rw [List.map_append, List.nodup_append]
      refine ⟨h.qd, by simp, fun a ha b hb => ?_⟩
      obtain ⟨x, hx, rfl⟩ := List.mem_map.1 ha
      simp only [List.map_cons, List.map_nil, List.mem_singleton] at hb
      subst hb
      exact fun c => hS (.inl (.inr (.inr (.inr ⟨x, hx, c⟩))))
    pm := h.pm, po := h.po, mo := h.mo
    bq := fun x hx => by
      rcases List.mem_append.1 hx with hx | hx
      · exact h.bq x hx
      · simp only [List.mem_singleton] at hx
        subst hx
        exact ⟨fun c => hS (.inl (.inl c)), hqm, fun c => hS (.inl (.inr (.inr (.inl c)))), hb⟩
    pb := h.pb, mbb := h.mbb
    dk := fun k hk hC => by
      rcases hC with hC | hC | hC | ⟨x, hx, hq2⟩
      · exact h.dk k hk (.inl hC)
      · exact h.dk k hk (.inr (.inl hC))
      · exact h.dk k hk (.inr (.inr (.inl hC)))
      · rcases List.mem_append.1 hx with hx | hx
        · exact h.dk k hk (.inr (.inr (.inr ⟨x, hx, hq2⟩)))
        · simp only [List.mem_singleton] at hx
          subst hx
          subst hq2
          exact hS (.inr hk)
    m1 := h.m1 }
theorem wfN {n : Nat} (h : n ≤ 4096) : (Lit.int .i64 (n : Int)).wf = true := by
  simp only [Lit.wf, Bool.and_eq_true, decide_eq_true_eq]
  exact ⟨by show -9223372036854775808 ≤ _; omega, by show _ ≤ 9223372036854775807; omega⟩
theorem NoTwo.order {A B : List CE} {e : CE} (h : NoTwo A e B) : ∀ x ∈ nums A, ¬ (e.n : Int) = x := fun x hx => by
  obtain ⟨y, hy, rfl⟩ := List.mem_map.1 hx
  have := h.1 y hy
  omega
set_option maxHeartbeats 1000000 in
theorem leave_any (h : CS w base σ (nums σ.L)) {A B : List CE} {e : CE} (hL : σ.L = A ++ e :: B) :
    Calls Tryz.prog 154 #[.pointer (some ⟨σ.p, 0, none⟩), .int .i64 (e.n : Int)] w fun r w' => r = .returned (.tuple #[]) ∧ ∃ v', CS w' base { σ with ov := v', L := A ++ B } (nums (A ++ B)) ∧ Step σ { σ with ov := v', L := A ++ B } w w' ∧ Below base w w' := by
  have hn := (h.blk e (by rw [hL]; simp)).2.2.1
  have hd := h.disk.nn
  obtain ⟨w1, hrun, hm, hg⟩ := h.map.del (e.n : Int) (wfN (by omega)) 0
  rw [hL, lookF_del (h.split hL)] at hm
  have hf := Fr.of_grown hg
  have h1 := h.dropL hL hf hm
  have HS1 : Hid (Step σ { σ with L := A ++ B } w w1) := Step.dropL hL hf
  have HB1 : Hid (Below base w w1) := (Below.refl _ _).grown hg (by have := h.mbb; have := h.map.lt; omega) (fun k hk => by cases hk; exact h.mbb)
  have UL := unlist_any h1 (X := nums A) (Z := nums B) (y := (e.n : Int)) (by rw [hL]; simp [nums]) (h.split hL).order
  rw [← nums_append] at UL
  have q2 := h.c2
  clear h h1 hm hg hf hL
  go_enter Tryz.func154, Tryz.ntmps154
  go_wp2_with (first | (go_at_call 132; refine UL.mono ?_; rintro r w2 ⟨rfl, v', k1, k2, k3⟩))
  go_end0
  exact ⟨rfl, v', k1, HS1.out.trans k2, HB1.out.trans k3⟩
end
end Go.Proofs.YtaljaledeljllaaGreat
