/- Package cache: ask. -/
import Derived.Test.YtaljaledeljllaaGreatCbuild
namespace Go.Proofs.YtaljaledeljllaaGreat
open Go.RowKit
set_option maxRecDepth 100000
section
variable {w w' : World} {base : Nat} {σ : CSt} {O : List Int}
/-- The order behind an append. -/
theorem CS.push (h : CS w base σ O) {o : Obj} {w2 : World} {G m cap : Nat} {O' : List Int} (hg : (w.alloc o).grownBy w2 σ.ov.ownBlock) (hat : σ.ov.ownBlock = some G ∨ (w.alloc o).heap.size ≤ G) (ho : OwnN w2 base (.slice (some ⟨G, 0, none⟩) m cap) O') :
    CS (w2.setCell ⟨σ.p, 3, none⟩ (.slice (some ⟨G, 0, none⟩) m cap)) base { σ with ov := .slice (some ⟨G, 0, none⟩) m cap } O' ∧ Step σ { σ with ov := .slice (some ⟨G, 0, none⟩) m cap } w (w2.setCell ⟨σ.p, 3, none⟩ (.slice (some ⟨G, 0, none⟩) m cap)) ∧ Below base w (w2.setCell ⟨σ.p, 3, none⟩ (.slice (some ⟨G, 0, none⟩) m cap)) ∧
      w2.cell? ⟨σ.p, 3, none⟩ = some σ.ov ∧ w2.frozen? ⟨σ.p, 3, none⟩ = false := by
  have s1 : (w.alloc o).heap.size = w.heap.size + 1 := by show (w.heap.push o).size = _; simp
  have hb0 : Below w.heap.size w (w.alloc o) := (Below.refl _ _).alloc (Nat.le_refl _) _
  have hpl := h.pl
  have hP : w2.heap[σ.p]? = w.heap[σ.p]? := (hg.block σ.p (by omega) (fun e => h.po e.symm)).trans (hb0.block σ.p hpl)
  have hf : Fr (fun k => k = σ.p ∨ σ.ov.ownBlock = some k) w (w2.setCell ⟨σ.p, 3, none⟩ (.slice (some ⟨G, 0, none⟩) m cap)) := by
    refine Fr.setCell ⟨by have := hg.size; omega, fun k hk hn => ?_⟩ _ _ _ (.inl rfl)
    exact (hg.block k (by omega) (fun e => hn (.inr e.symm))).trans (hb0.block k hk)
  have hs : ∀ k, (Value.slice (some ⟨G, 0, none⟩) m cap).ownBlock = some k → σ.ov.ownBlock = some k ∨ w.heap.size ≤ k := fun k hk => by
    obtain rfl : G = k := by simpa [Value.ownBlock] using hk
    rcases hat with h1 | h1
    · exact .inl h1
    · exact .inr (by omega)
  have hGp : σ.p ≠ G := fun e => by
    rcases hat with h1 | h1
    · exact h.po (by rw [h1, e])
    · omega
  have q3 : w2.cell? ⟨σ.p, 3, none⟩ = some σ.ov := (World.cell?_of_block (a := ⟨σ.p, 3, none⟩) hP).trans h.c3
  refine ⟨h.reord hf ?_ (World.cell?_setCell_same _ _ _ q3) ?_ ?_ hs, Step.ord hf hs, ?_, q3, (World.frozen?_of_block (a := ⟨σ.p, 3, none⟩) hP).trans (h.fp 3)⟩
  · intro j hj
    exact (World.cell?_setCell_other _ _ _ _ (fun c => hj (by injection c with _ c2; exact c2.symm))).trans (World.cell?_of_block (a := ⟨σ.p, j, none⟩) hP)
  · intro j
    rw [World.frozen?_setCell]
    exact (World.frozen?_of_block (a := ⟨σ.p, j, none⟩) hP).trans (h.fp j)
  · exact ho.same fun k hk => heap_setCell_other _ _ _ _ (fun e => by
      obtain rfl : G = k := by simpa [Value.ownBlock] using hk
      exact hGp e.symm)
  · have hbs : base ≤ w.heap.size := by have := h.pb; omega
    refine ((hb0.mono hbs).grown hg (by omega) (fun k hk => ?_)).setCell h.pb _
    exact (h.ord.lt k hk).1
/-- The blocks in another order. -/
theorem CS.touch (h : CS w base σ O) {A B : List CE} {e : CE} (hL : σ.L = A ++ e :: B) : CS w base { σ with L := A ++ B ++ [e] } O ∧ ∀ k, Sk { σ with L := A ++ B ++ [e] } k → Sk σ k := by
  have sub : ∀ x, x ∈ A ++ B ++ [e] → x ∈ σ.L := fun x hx => by
    rw [hL]
    simp only [List.mem_append, List.mem_cons, List.not_mem_nil, or_false] at hx ⊢
    rcases hx with (hx | hx) | hx
    · exact .inl hx
    · exact .inr (.inr hx)
    · exact .inr (.inl hx)
  have perm : (A ++ B ++ [e]).Perm (A ++ e :: B) := by
    rw [List.append_assoc]
    exact List.Perm.append_left A (List.perm_append_comm (l₁ := B) (l₂ := [e]))
  have ck : ∀ k, Ck { σ with L := A ++ B ++ [e] } k → Ck σ k := fun k hC => by
    rcases hC with hC | hC | hC | ⟨x, hx, hq⟩
    · exact .inl hC
    · exact .inr (.inl hC)
    · exact .inr (.inr (.inl hC))
    · exact .inr (.inr (.inr ⟨x, sub x hx, hq⟩))
  refine ⟨?_, fun k hk => ?_⟩
  · exact {
      disk := h.disk, c0 := h.c0, c1 := h.c1, c2 := h.c2, c3 := h.c3, fp := h.fp, ord := h.ord
      map := by have := h.map; rw [hL, ← lookF_touch (h.split hL)] at this; exact this
      blk := fun x hx => h.blk x (sub x hx)
      nd := by have := h.nd; rw [hL] at this; exact (perm.map _).nodup_iff.2 this
      qd := by have := h.qd; rw [hL] at this; exact (perm.map _).nodup_iff.2 this
      pm := h.pm, po := h.po, mo := h.mo, bq := fun x hx => h.bq x (sub x hx), pb := h.pb, mbb := h.mbb
      dk := fun k hk hC => h.dk k hk (ck k hC)
      m1 := h.m1 }
  · rcases hk with hk | hk
    · exact .inl (ck k hk)
    · exact .inr hk
theorem CS.sk_size (h : CS w base σ O) {k : Nat} (hk : Sk σ k) : k < w.heap.size := by
  rcases hk with hk | hk
  · exact h.sk_lt hk
  · exact (h.disk.dk_lt hk).1
theorem Step.addL {e : CE} {K : Nat} {w3 : World} (hb : Below w.heap.size w w3) (hf : Fr (fun k => k = σ.mb) w3 w') (hq : e.q = w.heap.size) : Step σ { σ with L := σ.L ++ [e], K := K } w w' := by
  refine ⟨⟨Nat.le_trans hb.size hf.size, fun k hk hn => ?_⟩, fun k hk => ?_⟩
  · exact (hf.blk k (by have := hb.size; omega) (fun c => hn (.inl (.inr (.inl c))))).trans (hb.block k hk)
  · rcases hk with (hk | hk | hk | ⟨x, hx, hqx⟩) | hk
    · exact .inl (.inl (.inl hk))
    · exact .inl (.inl (.inr (.inl hk)))
    · exact .inl (.inl (.inr (.inr (.inl hk))))
    · rcases List.mem_append.1 hx with hx | hx
      · exact .inl (.inl (.inr (.inr (.inr ⟨x, hx, hqx⟩))))
      · simp only [List.mem_singleton] at hx
        subst hx
        exact .inr (by omega)
    · exact .inl (.inr hk)
/-- The lists behind a block that is asked. -/
def tch (A : List CE) (e : CE) (B : List CE) : List CE := A ++ B ++ [e]
def addE (L : List CE) (n q : Nat) (d : List UInt8) : List CE := L ++ [⟨n, q, d, 0⟩]
/-- A call that leaves the cache as σ'. -/
structure Done (base : Nat) (σ σ' : CSt) (w w' : World) : Prop where
  cs : CS w' base σ' (nums σ'.L)
  st : Step σ σ' w w'
  be : Below base w w'
theorem Step.shift {σ σ' σ'' : CSt} {a b : World} (h : Step σ σ' a b) (hs : ∀ k, Sk σ'' k → Sk σ' k) : Step σ σ'' a b := ⟨h.fr, fun k hk => h.sub k (hs k hk)⟩
set_option maxHeartbeats 2000000 in
theorem ask_hit (h : CS w base σ (nums σ.L)) {A B : List CE} {e : CE} (hL : σ.L = A ++ e :: B) (hlm : σ.L.length ≤ 1000000) :
    Calls Tryz.prog 110 #[.pointer (some ⟨σ.p, 0, none⟩), .int .i64 (e.n : Int)] w fun r w' => r = .returned (.tuple #[.pointer (some ⟨e.q, 0, none⟩), .int .i64 0]) ∧ ∃ v', Done base σ { σ with ov := v', L := tch A e B } w w' := by
  have LK := h.lookE hL
  have q2 := h.c2
  have UL := unlist_any h (X := nums A) (Z := nums B) (y := (e.n : Int)) (by rw [hL]; simp [nums]) (h.split hL).order
  have HL : Hid (σ.L = A ++ e :: B) := hL
  have HLN : Hid ((nums A ++ nums B).length ≤ 1000000) := by
    have h3 : σ.L.length = A.length + B.length + 1 := by rw [hL]; simp; omega
    show _ ≤ _
    rw [List.length_append, nums_length, nums_length]
    omega
  obtain ⟨OO, hOO⟩ : ∃ OO, OO = nums A ++ nums B := ⟨_, rfl⟩
  have HOO : Hid _ := hOO
  rw [← hOO] at UL HLN
  clear h hL hOO
  go_enter Tryz.func110, Tryz.ntmps110
  go_wp2_with fail
  refine UL.mono ?_
  clear UL LK q2
  rintro r w1 ⟨rfl, v1, k1, k2, k3⟩
  have HC : Hid (CS w1 base { σ with ov := v1 } OO) := k1
  have HS : Hid (Step σ { σ with ov := v1 } w w1 ∧ Below base w w1) := ⟨k2, k3⟩
  have q3 := k1.c3
  dsimp only at q3
  have hbs : base ≤ w1.heap.size := by have := k1.pb; have := k1.pl; dsimp only at *; omega
  clear k1 k2 k3
  go_wp2_with (at_builtin; refine wpList_append_ord rfl (.tmp 36) (.tmp 38) rfl base OO (e.n : Int) _ rfl _ _ rfl (HC.out.ord.below ((Below.refl _ _).alloc (Nat.le_refl _) _) (Nat.le_refl _)) (heap_alloc_new _ _) (by simp; omega) HLN.out ?_; intro G cap w2 ho2 hg2 hat2; obtain ⟨p1, p2, p3, p4, p5⟩ := HC.out.push hg2 hat2 ho2; have HP1 : Hid _ := p1; have HP2 : Hid _ := And.intro p2 p3; have p4' : w2.cell? ⟨σ.p, 3, none⟩ = some v1 := p4; have p5' : w2.frozen? ⟨σ.p, 3, none⟩ = false := p5; clear p1 p2 p3 p4 p5 ho2 hg2 hat2)
  go_ret2
  obtain ⟨t1, t2⟩ := HP1.out.touch (A := A) (B := B) (e := e) HL.out
  refine ⟨rfl, .slice (some ⟨G, 0, none⟩) (OO.length + 1) cap, ?_, ?_, HS.out.2.trans HP2.out.2⟩
  · show CS _ _ { σ with ov := .slice (some ⟨G, 0, none⟩) (OO.length + 1) cap, L := A ++ B ++ [e] } (nums (A ++ B ++ [e]))
    rw [nums_append, nums_append, ← HOO.out]
    exact t1
  · exact Step.shift (σ' := { σ with ov := .slice (some ⟨G, 0, none⟩) (OO.length + 1) cap }) (σ'' := { σ with ov := .slice (some ⟨G, 0, none⟩) (OO.length + 1) cap, L := A ++ B ++ [e] }) (HS.out.1.trans HP2.out.1) t2
set_option maxHeartbeats 2000000 in
theorem ask_full (h : CS w base σ (nums σ.L)) (n : Nat) (hn : n < σ.dn) (hne : ∀ x ∈ σ.L, ¬ x.n = n) (RM : Calls Tryz.prog 133 #[.pointer (some ⟨σ.p, 0, none⟩)] w fun r w' => r = .returned (.bool false) ∧ Below w.heap.size w w') :
    Calls Tryz.prog 110 #[.pointer (some ⟨σ.p, 0, none⟩), .int .i64 (n : Int)] w fun r w' => r = .returned (.tuple #[.pointer none, .int .i64 5]) ∧ Below w.heap.size w w' := by
  have LK : (Instr.lookup 155 (.map (some σ.mb)) (.int .i64 (n : Int)) false).run Tryz.prog w = .ok (.pointer none) w := by
    have hd := h.disk.nn
    have := h.look (n : Int) (by omega); rw [lookF_none (fun x hx hc => hne x hx (by omega))] at this; exact this
  have q2 := h.c2
  clear h
  go_enter Tryz.func110, Tryz.ntmps110
  go_wp2_with (first | (go_at_call 133; refine RM.mono ?_; rintro r w1 ⟨rfl, k1⟩))
  go_ret2
  exact ⟨rfl, k1⟩
set_option maxHeartbeats 2000000 in
theorem ask_new (h : CS w base σ (nums σ.L)) (n : Nat) (hn : n < σ.dn) (hne : ∀ x ∈ σ.L, ¬ x.n = n) (L1 : List CE) (hne1 : ∀ x ∈ L1, ¬ x.n = n) (hK : σ.K ≤ 1000000) (hL1 : (nums L1).length ≤ 1000000)
    (RM : Calls Tryz.prog 133 #[.pointer (some ⟨σ.p, 0, none⟩)] w fun r w' => r = .returned (.bool true) ∧ ∃ v', CS w' base { σ with ov := v', L := L1 } (nums L1) ∧ Step σ { σ with ov := v', L := L1 } w w' ∧ Below base w w') :
    Calls Tryz.prog 110 #[.pointer (some ⟨σ.p, 0, none⟩), .int .i64 (n : Int)] w fun r w' => ∃ q, r = .returned (.tuple #[.pointer (some ⟨q, 0, none⟩), .int .i64 0]) ∧ ∃ v', Done base σ { σ with ov := v', L := addE L1 n q (lst σ n), K := σ.K + 1 } w w' := by
  have hd := h.disk.nn
  have LK : (Instr.lookup 155 (.map (some σ.mb)) (.int .i64 (n : Int)) false).run Tryz.prog w = .ok (.pointer none) w := by
    have := h.look (n : Int) (by omega); rw [lookF_none (fun x hx hc => hne x hx (by omega))] at this; exact this
  have q2 := h.c2
  have HX : Hid ((lst σ n).length = 256) := lst_len h n hn
  have HN : Hid (n < σ.dn ∧ n ≤ 4096) := ⟨hn, by omega⟩
  clear h hne hn hd
  go_enter Tryz.func110, Tryz.ntmps110
  go_wp2_with fail
  refine RM.mono ?_
  clear RM LK q2
  rintro r w1 ⟨rfl, v1, k1, k2, k3⟩
  have HS1 : Hid (Step σ { σ with ov := v1, L := L1 } w w1 ∧ Below base w w1) := ⟨k2, k3⟩
  have HC1 : Hid _ := k1
  have ST := stands_any k1 n HN.out.1
  dsimp only at ST
  clear k1 k2 k3
  go_wp2_with fail
  refine ST.mono ?_
  clear ST
  rintro r w2 ⟨rfl, k4⟩
  have HC2 : Hid (CS w2 base { σ with ov := v1, L := L1 } (nums L1)) := HC1.out.up k4
  have HS2 : Hid (Step σ { σ with ov := v1, L := L1 } w w2 ∧ Below base w w2) := ⟨HS1.out.1.trans (Step.refl _ k4), HS1.out.2.trans (k4.mono (by have := HC1.out.pb; have := HC1.out.pl; dsimp only at *; omega))⟩
  rw [show lst { σ with ov := v1, L := L1 } n = lst σ n from rfl]
  clear HC1 HS1 k4
  generalize hD : lst σ n = D at *
  have HD : Hid (lst σ n = D) := hD
  clear hD
  have hb3 : Below w2.heap.size w2 (w2.alloc (.cells (bvs D ++ [Value.int .i64 0]).toArray 176)) := (Below.refl _ _).alloc (Nat.le_refl _) _
  have HC3 : Hid (CS (w2.alloc (.cells (bvs D ++ [Value.int .i64 0]).toArray 176)) base { σ with ov := v1, L := L1 } (nums L1)) := HC2.out.up hb3
  have HQ3 : Hid ((w2.alloc (.cells (bvs D ++ [Value.int .i64 0]).toArray 176)).heap[w2.heap.size]? = some (.cells (bvs D ++ [Value.int .i64 0]).toArray 176 (0, 0))) := heap_alloc_new _ _
  have HB3 : Hid _ := hb3
  have hbs : base ≤ w2.heap.size := by have := HC2.out.pb; have := HC2.out.pl; dsimp only at *; omega
  have HNS : Hid (¬ Sk { σ with ov := v1, L := L1 } w2.heap.size) := fun c => by have := HC2.out.sk_size c; omega
  have q2 := HC3.out.c2
  dsimp only at q2
  clear hb3
  go_upto_region 7 with (first | ((with_reducible show wpList _ _ _ ({ dst := _, op := Op.build 176 _, type := _, pos := _, after := _, guard := _ } :: _) _ _); refine wpList_build_blk rfl HX.out rfl rfl ?_))
  generalize w2.alloc (.cells (bvs D ++ [Value.int .i64 0]).toArray 176) = w3 at *
  go_upto_region 8 with (first | (at_mapUpdate; refine wpList_pput rfl (.tmp 29) (.tmp 30) (.tmp 31) rfl HC3.out.map HN.out.2 hK rfl rfl rfl ?_; intro w4 hm4 hg4))
  have HC4 : Hid (CS w4 base { σ with ov := v1, L := L1 ++ [⟨n, w2.heap.size, D, 0⟩], K := σ.K + 1 } (nums L1)) := HC3.out.addL (e := ⟨n, w2.heap.size, D, 0⟩) HQ3.out HX.out HN.out.1 (by simp) hbs HNS.out hne1 (Fr.of_grown hg4) hm4
  have HS4 : Hid (Step σ { σ with ov := v1, L := L1 ++ [⟨n, w2.heap.size, D, 0⟩], K := σ.K + 1 } w w4 ∧ Below base w w4) := by
    refine ⟨HS2.out.1.trans (Step.addL (σ := { σ with ov := v1, L := L1 }) HB3.out (Fr.of_grown hg4) rfl), (HS2.out.2.trans (HB3.out.mono hbs)).grown hg4 (by have := HB3.out.size; omega) (fun k hk => ?_)⟩
    have := HC3.out.mbb
    dsimp only at this hk
    have e1 := Option.some.inj hk
    omega
  have q3 := HC4.out.c3
  dsimp only at q3
  have hbs4 : base ≤ w4.heap.size := by have := HC4.out.pb; have := HC4.out.pl; dsimp only at *; omega
  obtain ⟨OO, hOO⟩ : ∃ OO, OO = nums L1 := ⟨_, rfl⟩
  have HOO : Hid _ := hOO
  rw [← hOO] at HC4 hL1
  clear HC3 HQ3 HB3 HNS HC2 HS2 q2 hm4 hg4 hOO
  go_wp2_with (at_builtin; refine wpList_append_ord rfl (.tmp 36) (.tmp 38) rfl base OO (n : Int) _ rfl _ _ rfl (HC4.out.ord.below ((Below.refl _ _).alloc (Nat.le_refl _) _) (Nat.le_refl _)) (heap_alloc_new _ _) (by simp; omega) hL1 ?_; intro G cap w5 ho5 hg5 hat5; obtain ⟨p1, p2, p3, p4, p5⟩ := HC4.out.push hg5 hat5 ho5; have HP1 : Hid _ := p1; have HP2 : Hid _ := And.intro p2 p3; have p4' : w5.cell? ⟨σ.p, 3, none⟩ = some v1 := p4; have p5' : w5.frozen? ⟨σ.p, 3, none⟩ = false := p5; clear p1 p2 p3 p4 p5 ho5 hg5 hat5)
  go_ret2
  rw [HD.out]
  refine ⟨w2.heap.size, rfl, .slice (some ⟨G, 0, none⟩) (OO.length + 1) cap, ?_, HS4.out.1.trans HP2.out.1, HS4.out.2.trans HP2.out.2⟩
  show CS _ _ { σ with ov := .slice (some ⟨G, 0, none⟩) (OO.length + 1) cap, L := L1 ++ [⟨n, w2.heap.size, D, 0⟩], K := σ.K + 1 } (nums (L1 ++ [⟨n, w2.heap.size, D, 0⟩]))
  rw [nums_append, ← HOO.out]
  exact HP1.out
end
end Go.Proofs.YtaljaledeljllaaGreat
