/- The walk of leveelaw11.PatchOrder. -/
import Derived.Test.YtanelcdeekichaaGreatKPcrash
import Derived.Test.YtanelcdeekichaaGreatKPmark
import Derived.Test.YtanelcdeekichaaGreatJPerr2
import Derived.Test.YtanelcdeekichaaGreatKPacts
import Derived.Test.YtanelcdeekichaaGreatJPkc2
namespace Go.Proofs.YtanelcdeekichaaGreat
open Go.RowKit
set_option maxRecDepth 100000
/-- The store, the disk's bytes and the row of marks, of a walk that began at w0. -/
structure OW (w0 w : World) (p dp : Nat) (s : PSt) (ops : Nat → List Int) (κ : Nat) (v : Value) (ms : List Mk) : Prop where
  pm : PM w w0.heap.size s ops
  pl : PL s ops [] κ
  oi : OI s (ms.map fun m => (m.b, m.A.map Int.toNat))
  be : Below w0.heap.size w0 w
  p : s.p = p
  dp : s.σ.dp = dp
  dn : s.σ.dn = 5
  own : OwnM w w0.heap.size v ms
  vno : ∀ k, v.ownBlock = some k → ¬ Ak s k
  ml : ∀ (i : Nat) (m : Mk), ms[i]? = some m → m.k = i ∧ SrcI w m.sp m.A ∧ m.A.length ≤ 4 ∧ (∀ x ∈ m.A, 0 ≤ x ∧ x < (i : Int)) ∧ (∀ b o, m.sp = some ⟨b, o, none⟩ → w0.heap.size ≤ b ∧ b < w.heap.size ∧ ¬ Ak s b ∧ v.ownBlock ≠ some b)
theorem OW.up {w0 w w' : World} {p dp : Nat} {s : PSt} {ops : Nat → List Int} {κ : Nat} {v : Value} {ms : List Mk} (h : OW w0 w p dp s ops κ v ms) (hb : Below w.heap.size w w') : OW w0 w' p dp s ops κ v ms where
  pm := h.pm.up hb
  pl := h.pl
  oi := h.oi
  be := h.be.trans (hb.mono h.be.size)
  p := h.p
  dp := h.dp
  dn := h.dn
  own := row_same h.own fun k hk => hb.block k (h.own.lt k hk).2
  vno := h.vno
  ml := fun i m hm => by
    obtain ⟨h1, h2, h3, h4, h5⟩ := h.ml i m hm
    exact ⟨h1, h2.below hb (Nat.le_refl _), h3, h4, fun b o e => by have h6 := h5 b o e; have := hb.size; exact ⟨h6.1, by omega, h6.2.2.1, h6.2.2.2⟩⟩
/-- A call of the store, that leaves what is not its own. -/
theorem OW.run {w0 w w' : World} {p dp : Nat} {s s' : PSt} {ops ops' : Nat → List Int} {κ κ' : Nat} {v : Value} {ms : List Mk} (h : OW w0 w p dp s ops κ v ms) (hR : PRun w0.heap.size s w s' ops' w') (hL : PL s' ops' [] κ') (hO : OI s' (ms.map fun m => (m.b, m.A.map Int.toNat))) (hp : s'.p = s.p) (hd : s'.σ.dp = s.σ.dp) (hn : s'.σ.dn = s.σ.dn) : OW w0 w' p dp s' ops' κ' v ms where
  pm := hR.pm
  pl := hL
  oi := hO
  be := h.be.trans hR.be
  p := hp.trans h.p
  dp := hd.trans h.dp
  dn := hn.trans h.dn
  own := row_same h.own fun k hk => hR.fr.blk k (h.own.lt k hk).2 (h.vno k hk)
  vno := fun k hk hA => by
    rcases hR.sub k hA with h1 | h1
    · exact h.vno k hk h1
    · have := (h.own.lt k hk).2; omega
  ml := fun i m hm => by
    obtain ⟨h1, h2, h3, h4, h5⟩ := h.ml i m hm
    refine ⟨h1, ?_, h3, h4, fun b o e => ?_⟩
    · rcases h2 with h2 | ⟨b, o, e, hlt, hc⟩
      · exact .inl h2
      · have := h5 b o e
        exact .inr ⟨b, o, e, by have := hR.fr.size; omega, fun j hj => (fr_cell hR.fr (a := ⟨b, o + j, none⟩) hlt this.2.2.1).trans (hc j hj)⟩
    · have h6 := h5 b o e
      refine ⟨h6.1, by have := hR.fr.size; omega, fun hA => ?_, h6.2.2.2⟩
      rcases hR.sub b hA with h7 | h7
      · exact h6.2.2.1 h7
      · omega
section
variable {w0 w : World} {p dp : Nat} {s : PSt} {ops : Nat → List Int} {κ : Nat} {v : Value} {ms : List Mk}
theorem ow_write (h : OW w0 w p dp s ops κ v ms) (hκ : κ ≤ 1000) (n : Nat) (hn : n < 5) :
    Calls Tryz.prog 26 #[.pointer (some ⟨p, 0, none⟩), .int .i64 (n : Int)] w fun r w' => ∃ e s', r = .returned (.int .i64 e) ∧ OW w0 w' p dp s' ops (κ + 1) v ms := by
  obtain rfl : s.p = p := h.p
  by_cases hc : ∃ c ∈ s.C, c.b = n
  · refine (pw_write h.pm h.pl (by omega) n (by rw [h.dn]; exact hn) hc).mono ?_
    rintro r w' ⟨rfl, s', hR, hL, hC, hcnt, hp, hdn, hsf, hws, hdp⟩
    exact ⟨0, s', rfl, h.run hR hL (h.oi.write h.pl (by rw [h.dn]; exact hn) hC hcnt hdn hsf hws) hp hdp hdn⟩
  · have hf : s.fB n = 0 := by
      rw [h.pl.fb]
      refine lkB_none fun b hb e => ?_
      obtain ⟨c, hc', hcb⟩ := h.pl.bc b hb (by simp)
      exact hc ⟨c, hc', by omega⟩
    refine (pwrite_none h.pm n (by rw [h.dn]; exact hn) (by rw [h.dn]; omega) hf).mono ?_
    rintro r w' ⟨rfl, rfl⟩
    exact ⟨20, s, rfl, { h with pl := h.pl.mono (Nat.le_succ _) }⟩
theorem ow_flush (h : OW w0 w p dp s ops κ v ms) (hκ : κ ≤ 1000) :
    Calls Tryz.prog 27 #[.pointer (some ⟨p, 0, none⟩)] w fun r w' => ∃ s' ops', r = .returned (.int .i64 0) ∧ OW w0 w' p dp s' ops' (κ + 1) v ms := by
  obtain rfl : s.p = p := h.p
  refine (pflush_any h.pm h.pl (by omega)).mono ?_
  rintro r w' ⟨rfl, s', ops', hR, hL, hC, hcnt, hp, hsf, hdn, _, hdp, hws⟩
  exact ⟨s', ops', rfl, h.run hR hL (h.oi.flush h.pl hC hcnt hdn hsf (fun n _ => by rw [hws])) hp hdp hdn⟩
theorem map_toNat {A : List Int} (h : ∀ x ∈ A, 0 ≤ x) : (A.map Int.toNat).map (fun k => ((k + 1 : Nat) : Int)) = A.map (· + 1) := by
  rw [List.map_map]
  refine List.map_congr_left fun x hx => ?_
  have := h x hx
  show (((x.toNat + 1 : Nat)) : Int) = x + 1
  omega
/-- Patch of one byte behind others: what it leaves, ahead of the mark. -/
theorem ow_patch (h : OW w0 w p dp s ops κ v ms) (hκ : κ ≤ 1000) (hm : ms.length ≤ 60) (n : Nat) (hn : n < 5) (gd cd : Nat) (hds : Src w (some ⟨gd, 0, none⟩) [1]) (hgd : ¬ Ak s gd) (A : List Int) (hA : ∀ x ∈ A, 0 ≤ x ∧ x < (ms.length : Int)) (hAl : A.length ≤ 4) (asp : Option Addr) (ac : Nat) (has : SrcI w asp (A.map (· + 1))) (hform : (asp = none ∧ A = []) ∨ ∃ b o, asp = some ⟨b, o, none⟩) (haf : ∀ b o, asp = some ⟨b, o, none⟩ → ¬ Ak s b ∧ b < w.heap.size) :
    Calls Tryz.prog 28 #[.pointer (some ⟨p, 0, none⟩), .int .i64 (n : Int), .int .i64 (ms.length : Int), .slice (some ⟨gd, 0, none⟩) 1 cd, .slice asp A.length ac] w fun r w' => r = .returned (.tuple #[.int .i64 ((ms.length + 1 : Nat) : Int), .int .i64 0]) ∧ ∃ s' ops', PRun w0.heap.size s w s' ops' w' ∧ PL s' ops' [] (κ + 1) ∧ OI s' ((ms.map fun m => (m.b, m.A.map Int.toNat)) ++ [(n, A.map Int.toNat)]) ∧ s'.p = s.p ∧ s'.σ.dp = s.σ.dp ∧ s'.σ.dn = s.σ.dn := by
  obtain rfl : s.p = p := h.p
  have hl : (ms.map fun m => (m.b, m.A.map Int.toNat)).length = ms.length := List.length_map _
  have hcnt : s.cnt = ms.length := by rw [h.oi.cnt, hl]
  have := pw_patch h.pm h.pl (by omega) n ms.length (by rw [h.dn]; exact hn) [1] gd 0 cd hds (by simp) (by simp; omega) asp ac (A.map (· + 1)) has (by
    rcases hform with ⟨h1, h2⟩ | h1
    · exact .inl ⟨h1, by rw [h2]; rfl⟩
    · exact .inr h1) haf hgd (by simp; omega) (fun i hi => by
    obtain ⟨x, hx, rfl⟩ := List.mem_map.1 hi
    have := hA x hx
    omega)
  rw [hcnt, List.length_map] at this
  refine this.mono ?_
  rintro r w' ⟨rfl, s', ops', c, hR, hL, hS⟩
  refine ⟨rfl, s', ops', hR, hL, h.oi.patch h.pl (by rw [h.dn]; exact hn) (by rw [hl]; omega) (fun k hk => ?_) (c := c) ?_, hS.p, hS.dp, hS.dn⟩
  · obtain ⟨x, hx, rfl⟩ := List.mem_map.1 hk
    have := hA x hx
    rw [hl]; omega
  · rw [hl, map_toNat fun x hx => (hA x hx).1]; exact hS
end
end Go.Proofs.YtanelcdeekichaaGreat
/- The walk of leveelaw11.PatchOrder: two rows of numbers that grow; a mark more. -/
namespace Go.Proofs.YtanelcdeekichaaGreat
open Go.RowKit
set_option maxRecDepth 100000
/-- 'append' of a number onto an own row of int, with what turns. -/
theorem wpList_append_iG {w : World} {ops : Array Oper} {rest : List Oper} {o : Oper} {a : Act} {Q : Exit → Act → World → Prop} (hgd : o.guard = none) (s x : Operand)
    (ho : o.op = .call { callee := .builtin .append, args := #[s, x], argTypes := #[49, 49] }) (base : Nat) (l : List Int) (y : Int) (v : Value) (hs : a.eval s = v) (g c : Nat) (hx : a.eval x = .slice (some ⟨g, 0, none⟩) 1 c)
    (hown : OwnI w base v l) (hsrc : RowI w g 3 [y]) (hbase : base ≤ w.heap.size) (hb : l.length ≤ 1000000)
    (h : ∀ G cap w', OwnI w' base (.slice (some ⟨G, 0, none⟩) (l.length + 1) cap) (l ++ [y]) → w.grownBy w' v.ownBlock → (v.ownBlock = some G ∨ w.heap.size ≤ G) → wpList Tryz.prog ops Q rest (a.put o.dst (.slice (some ⟨G, 0, none⟩) (l.length + 1) cap)) w') : wpList Tryz.prog ops Q (o :: rest) a w := by
  obtain ⟨i0, hi, hz0, hz1, hz2⟩ := info_parts Tryz.infoI
  have hcs : ∀ j u, (ivs [y])[j]? = some u → w.cell? ((⟨g, 0, none⟩ : Addr).add j) = some u := by
    intro j u hj
    have hjl : j < (ivs [y]).length := (List.getElem?_eq_some_iff.1 hj).1
    rw [ivs_length] at hjl
    obtain rfl : j = 0 := by simp at hjl; omega
    rw [addr_add, Nat.zero_add, hsrc.cell 0 (by simp), ← hj]
    rfl
  obtain ⟨G, cap, w', hr, hown', hgr, hat, _⟩ := run_append_lies (P := Tryz.prog) w 49 o.type base 3 i0 _ 1 8 Tryz.underlying49 hi hz0 hz1 hz2 rfl (by decide) v l.length (ivs l) hown ⟨g, 0, none⟩ 1 c (ivs [y]) (by simp [ivs_length]) hcs (ivs_one _) (by omega) (by unfold maxLen; omega) (by omega) hbase _ rfl
  refine wpList_plain hgd fun K hK => ?_
  unfold Oper.wp execOp
  simp only [ho, resolve, invoke, builtin]
  simp [hs, hx, hr, Result.andThen]
  refine hK _ _ (h G cap w' ?_ hgr ?_)
  · unfold OwnI
    rw [List.length_append, ivs_append]
    exact hown'
  · rcases hat with hat | hat
    · exact .inl hat
    · exact .inr (by omega)
theorem getD_mem {l : List Int} {j : Nat} (h : j < l.length) : l.getD j 0 ∈ l := by
  rw [List.getD_eq_getElem?_getD, List.getElem?_eq_getElem h]
  exact List.getElem_mem h
/-- Two rows that a walk makes: numbers, and each one more. -/
structure TwoR (W0 g : World) (v1 v2 : Value) (B : List Int) : Prop where
  be : Below W0.heap.size W0 g
  o1 : OwnL g W0.heap.size v1 (B.map (· + 1))
  o2 : OwnI g W0.heap.size v2 B
  ne : ∀ k, v1.ownBlock = some k → v2.ownBlock ≠ some k
theorem TwoR.nil (W0 : World) : TwoR W0 W0 (.slice none 0 0) (.slice none 0 0) [] := ⟨Below.refl _ _, OwnL.nil _ _, OwnI.nil _ _, fun k hk => by cases hk⟩
theorem size_alloc (W : World) (o : Obj) : (W.alloc o).heap.size = W.heap.size + 1 := by show (W.heap.push o).size = _; simp
theorem TwoR.step1 {W0 g w2 : World} {v1 v2 : Value} {B : List Int} {G : Nat} {o : Obj} (h : TwoR W0 g v1 v2 B)  (hg : (g.alloc o).grownBy w2 v1.ownBlock) (hat : v1.ownBlock = some G ∨ (g.alloc o).heap.size ≤ G) :
    Below W0.heap.size W0 w2 ∧ OwnI w2 W0.heap.size v2 B ∧ v2.ownBlock ≠ some G ∧ W0.heap.size ≤ w2.heap.size := by
  have hb : Below W0.heap.size W0 w2 := (h.be.alloc h.be.size o).trans ((Below.refl _ _).grown hg (Nat.le_trans h.be.size (by rw [size_alloc]; omega)) (fun k hk => (h.o1.lt k hk).1))
  refine ⟨hb, row_same h.o2 fun k hk => ?_, fun e => ?_, hb.size⟩
  · have hk2 := (h.o2.lt k hk).2
    rw [hg.block k (by rw [size_alloc]; omega) (fun e => h.ne k e.symm hk)]
    exact Below.heap_alloc _ _ _ hk2
  · rcases hat with e1 | e1
    · exact h.ne G e1 e
    · have := (h.o2.lt G e).2; rw [size_alloc] at e1; omega
theorem TwoR.step2 {W0 w2 w3 : World} {v2 : Value} {B : List Int} {x : Int} {G cap G2 cap2 : Nat} {o : Obj} (hB : Below W0.heap.size W0 w2) (ho1 : OwnL w2 W0.heap.size (.slice (some ⟨G, 0, none⟩) ((B.map (· + 1)).length + 1) cap) (B.map (· + 1) ++ [x + 1])) (h2 : OwnI w2 W0.heap.size v2 B) (hne : v2.ownBlock ≠ some G)
    (ho : OwnI w3 W0.heap.size (.slice (some ⟨G2, 0, none⟩) (B.length + 1) cap2) (B ++ [x])) (hg : (w2.alloc o).grownBy w3 v2.ownBlock) (hat : v2.ownBlock = some G2 ∨ (w2.alloc o).heap.size ≤ G2) :
    TwoR W0 w3 (.slice (some ⟨G, 0, none⟩) (B ++ [x]).length cap) (.slice (some ⟨G2, 0, none⟩) (B ++ [x]).length cap2) (B ++ [x]) := by
  have hG := (ho1.lt G rfl).2
  have hb : Below W0.heap.size W0 w3 := (hB.alloc hB.size o).trans ((Below.refl _ _).grown hg (Nat.le_trans hB.size (by rw [size_alloc]; omega)) (fun k hk => (h2.lt k hk).1))
  refine ⟨hb, ?_, ?_, fun k hk e => ?_⟩
  · have e : OwnL w3 W0.heap.size (.slice (some ⟨G, 0, none⟩) ((B.map (· + 1)).length + 1) cap) (B.map (· + 1) ++ [x + 1]) := row_same ho1 fun k hk => by
      cases hk
      rw [hg.block G (by rw [size_alloc]; omega) (fun e => hne e.symm)]
      exact Below.heap_alloc _ _ _ hG
    rw [show (B ++ [x]).length = (B.map (· + 1)).length + 1 by simp, show (B ++ [x]).map (· + 1) = B.map (· + 1) ++ [x + 1] by simp]
    exact e
  · rw [show (B ++ [x]).length = B.length + 1 by simp]; exact ho
  · cases hk; cases e
    rcases hat with e1 | e1
    · exact hne e1
    · rw [size_alloc] at e1; omega
theorem own_at {w : World} {base e size m c n : Nat} {i : Option Addr} {xs : List Value} (h : w.ownsRow base e size (.slice i m c) n xs) : m = n ∧ ((i = none ∧ n = 0) ∨ ∃ g, i = some ⟨g, 0, none⟩ ∧ base ≤ g ∧ g < w.heap.size) := by
  obtain ⟨h1, h2⟩ := h
  rcases h2 with ⟨hv, h3⟩ | ⟨g, cap, cur, hv, hg, hh, r⟩
  · cases hv; exact ⟨h3.symm, .inl ⟨rfl, h3⟩⟩
  · cases hv; exact ⟨rfl, .inr ⟨g, rfl, hg, (Array.getElem?_eq_some_iff.1 hh).1⟩⟩
theorem own_cap {w : World} {base e size m c n : Nat} {i : Option Addr} {xs : List Value} (h : w.ownsRow base e size (.slice i m c) n xs) : n ≤ c := by
  obtain ⟨h1, h2⟩ := h
  rcases h2 with ⟨hv, h3⟩ | ⟨g, cap, cur, hv, hg, hh, hn, r⟩
  · omega
  · cases hv; exact hn
/-- What a call of the store leaves of the marks. -/
theorem OW.keep {w0 w w' : World} {p dp : Nat} {s s' : PSt} {ops ops' : Nat → List Int} {κ : Nat} {v : Value} {ms : List Mk} (h : OW w0 w p dp s ops κ v ms) (hR : PRun w0.heap.size s w s' ops' w') :
    OwnM w' w0.heap.size v ms ∧ (∀ k, v.ownBlock = some k → ¬ Ak s' k) ∧ ∀ (i : Nat) (m : Mk), ms[i]? = some m → m.k = i ∧ SrcI w' m.sp m.A ∧ m.A.length ≤ 4 ∧ (∀ x ∈ m.A, 0 ≤ x ∧ x < (i : Int)) ∧ (∀ b o, m.sp = some ⟨b, o, none⟩ → w0.heap.size ≤ b ∧ b < w'.heap.size ∧ ¬ Ak s' b ∧ v.ownBlock ≠ some b) := by
  refine ⟨row_same h.own fun k hk => hR.fr.blk k (h.own.lt k hk).2 (h.vno k hk), fun k hk hA => ?_, fun i m hm => ?_⟩
  · rcases hR.sub k hA with h1 | h1
    · exact h.vno k hk h1
    · have := (h.own.lt k hk).2; omega
  · obtain ⟨h1, h2, h3, h4, h5⟩ := h.ml i m hm
    refine ⟨h1, ?_, h3, h4, fun b o e => ?_⟩
    · rcases h2 with h2 | ⟨b, o, e, hlt, hc⟩
      · exact .inl h2
      · have := h5 b o e
        exact .inr ⟨b, o, e, by have := hR.fr.size; omega, fun j hj => (fr_cell hR.fr (a := ⟨b, o + j, none⟩) hlt this.2.2.1).trans (hc j hj)⟩
    · have h6 := h5 b o e
      refine ⟨h6.1, by have := hR.fr.size; omega, fun hA => ?_, h6.2.2.2⟩
      rcases hR.sub b hA with h7 | h7
      · exact h6.2.2.1 h7
      · omega
/-- A mark more. -/
theorem ow_mark {w0 w w' w3 : World} {p dp : Nat} {s s' : PSt} {ops ops' : Nat → List Int} {κ : Nat} {v : Value} {ms : List Mk} (h : OW w0 w p dp s ops κ v ms) (hR : PRun w0.heap.size s w s' ops' w') (hL : PL s' ops' [] (κ + 1)) {y : Mk} (hO : OI s' ((ms.map fun m => (m.b, m.A.map Int.toNat)) ++ [(y.b, y.A.map Int.toNat)])) (hp : s'.p = s.p) (hd : s'.σ.dp = s.σ.dp) (hn : s'.σ.dn = s.σ.dn)
    {o : Obj} {G cap : Nat} (hown : OwnM w3 w0.heap.size (.slice (some ⟨G, 0, none⟩) (ms.length + 1) cap) (ms ++ [y])) (hg : (w'.alloc o).grownBy w3 v.ownBlock) (hat : v.ownBlock = some G ∨ (w'.alloc o).heap.size ≤ G)
    (hk : y.k = ms.length) (hA : y.A.length ≤ 4) (hAb : ∀ x ∈ y.A, 0 ≤ x ∧ x < (ms.length : Int)) (hsr : SrcI w y.sp y.A) (hyb : ∀ b o, y.sp = some ⟨b, o, none⟩ → w0.heap.size ≤ b ∧ b < w.heap.size ∧ ¬ Ak s b ∧ v.ownBlock ≠ some b) :
    OW w0 w3 p dp s' ops' (κ + 1) (.slice (some ⟨G, 0, none⟩) (ms ++ [y]).length cap) (ms ++ [y]) := by
  obtain ⟨k1, k2, k3⟩ := h.keep hR
  have hz := hR.fr.size
  have hf : Fr (fun j => v.ownBlock = some j) w' w3 := ⟨by have := hg.size; rw [size_alloc] at this; omega, fun j hj hS => by
    rw [hg.block j (by rw [size_alloc]; omega) (fun e => hS e.symm)]; exact Below.heap_alloc _ _ _ hj, hg.os, hg.tape, hg.output⟩
  have hGA : ¬ Ak s' G := fun hA' => by
    rcases hat with e | e
    · exact k2 G e hA'
    · have := hR.pm.lt hA'; rw [size_alloc] at e; omega
  have hb3 : Below w0.heap.size w' w3 := ((Below.refl w0.heap.size w').alloc hR.pm.bs o).trans ((Below.refl _ _).grown hg (Nat.le_trans hR.pm.bs (by rw [size_alloc]; omega)) (fun k hk => (h.own.lt k hk).1))
  have hne : ∀ b, b < w'.heap.size → v.ownBlock ≠ some b → b ≠ G := fun b hb hv e => by
    rcases hat with e1 | e1
    · exact hv (by rw [e1, e])
    · rw [size_alloc] at e1; omega
  exact {
    pm := hR.pm.fr hf fun k hk hv => k2 k hv hk
    pl := hL
    oi := by rw [List.map_append]; exact hO
    be := (h.be.trans hR.be).trans hb3
    p := hp.trans h.p
    dp := hd.trans h.dp
    dn := hn.trans h.dn
    own := by rw [List.length_append]; exact hown
    vno := fun k hk => by cases hk; exact hGA
    ml := fun i m hm => by
      by_cases hi : i < ms.length
      · rw [List.getElem?_append_left hi] at hm
        obtain ⟨h1, h2, h3, h4, h5⟩ := k3 i m hm
        refine ⟨h1, ?_, h3, h4, fun b o e => ?_⟩
        · rcases h2 with h2 | ⟨b, o, e, hlt, hc⟩
          · exact .inl h2
          · have := h5 b o e
            exact .inr ⟨b, o, e, by have := hf.size; omega, fun j hj => (fr_cell hf (a := ⟨b, o + j, none⟩) hlt this.2.2.2).trans (hc j hj)⟩
        · have h6 := h5 b o e
          exact ⟨h6.1, by have := hf.size; omega, h6.2.2.1, fun c => hne b h6.2.1 h6.2.2.2 (by cases c; rfl)⟩
      · rw [List.getElem?_append_right (by omega)] at hm
        obtain ⟨hi0, hm0⟩ := List.getElem?_eq_some_iff.1 hm
        have hi1 : i = ms.length := by simp at hi0; omega
        subst hi1
        obtain rfl : y = m := by simpa using hm
        refine ⟨hk, ?_, hA, hAb, fun b o e => ?_⟩
        · rcases hsr with h2 | ⟨b, o, e, hlt, hc⟩
          · exact .inl h2
          · have := hyb b o e
            exact .inr ⟨b, o, e, by have := hf.size; omega, fun j hj => (fr_cell hf (a := ⟨b, o + j, none⟩) (by show b < _; omega) this.2.2.2).trans ((fr_cell hR.fr (a := ⟨b, o + j, none⟩) hlt this.2.2.1).trans (hc j hj))⟩
        · have h6 := hyb b o e
          refine ⟨h6.1, by have := hf.size; omega, fun hA' => ?_, fun c => hne b (by omega) h6.2.2.2 (by cases c; rfl)⟩
          rcases hR.sub b hA' with h7 | h7
          · exact h6.2.2.1 h7
          · omega }
end Go.Proofs.YtanelcdeekichaaGreat
