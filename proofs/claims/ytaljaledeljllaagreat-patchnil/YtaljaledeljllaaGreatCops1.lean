/- Package cache: Read, Lay. -/
import Derived.Test.YtaljaledeljllaaGreatCask2
namespace Go.Proofs.YtaljaledeljllaaGreat
open Go.RowKit
set_option maxRecDepth 100000
section
variable {w w' : World} {base : Nat} {σ : CSt} {O : List Int}
theorem PMap.mono {b K K' : Nat} {f : Int → Nat} (h : PMap w b K f) (hK : K ≤ K') : PMap w b K' f := by
  obtain ⟨D, h1, r⟩ := h.own
  exact ⟨D, h1.mono hK, r⟩
theorem lookF_same : ∀ {A B : List CE} {e e' : CE}, e'.n = e.n → e'.q = e.q → lookF (A ++ e' :: B) = lookF (A ++ e :: B)
  | [], B, e, e', h1, h2 => by funext x; simp only [List.nil_append, lookF, h1, h2]
  | a :: r, B, e, e', h1, h2 => by funext x; simp only [List.cons_append, lookF, lookF_same (A := r) (B := B) h1 h2]
theorem nums_same {A B : List CE} {e e' : CE} (h1 : e'.n = e.n) : nums (A ++ e' :: B) = nums (A ++ e :: B) := by simp [nums, h1]
/-- One block with other bytes, or pinned otherwise. -/
theorem CS.setE (h : CS w base σ O) {A B : List CE} {e e' : CE} {K' : Nat} (hL : σ.L = A ++ e :: B) (hn : e'.n = e.n) (hq : e'.q = e.q) (hf : Fr (fun k => k = e.q) w w') (hr : w'.heap[e.q]? = some (.cells (beL e').toArray 176 (0, 0))) (hd : e'.d.length = 256) (hp : e'.pin ≤ K') (hK : σ.K ≤ K') :
    CS w' base { σ with L := A ++ e' :: B, K := K' } O := by
  have he : e ∈ σ.L := by rw [hL]; simp
  have hbe := h.bq e he
  have cp : ∀ o, w'.cell? ⟨σ.p, o, none⟩ = w.cell? ⟨σ.p, o, none⟩ := fun o => fr_cell hf (a := ⟨σ.p, o, none⟩) h.pl (fun c => hbe.1 c.symm)
  have mem : ∀ x, x ∈ A ++ e' :: B → x = e' ∨ (x ∈ σ.L ∧ (x ∈ A ∨ x ∈ B)) := fun x hx => by
    rw [hL]
    simp only [List.mem_append, List.mem_cons] at hx ⊢
    rcases hx with hx | hx | hx
    · exact .inr ⟨.inl hx, .inl hx⟩
    · exact .inl hx
    · exact .inr ⟨.inr (.inr hx), .inr hx⟩
  have qd2 := h.qd
  rw [hL] at qd2
  simp only [List.map_append, List.map_cons, List.nodup_append, List.nodup_cons, List.mem_map, List.mem_cons] at qd2
  have neq : ∀ x, (x ∈ A ∨ x ∈ B) → x.q ≠ e.q := fun x hx hc => by
    rcases hx with hx | hx
    · exact qd2.2.2 x.q ⟨x, hx, rfl⟩ e.q (.inl rfl) hc
    · exact qd2.2.1.1 ⟨x, hx, hc⟩
  have ck : ∀ k, Ck { σ with L := A ++ e' :: B, K := K' } k → Ck σ k := fun k hC => by
    rcases hC with hC | hC | hC | ⟨x, hx, hqx⟩
    · exact .inl hC
    · exact .inr (.inl hC)
    · exact .inr (.inr (.inl hC))
    · rcases mem x hx with rfl | ⟨hx, _⟩
      · exact .inr (.inr (.inr ⟨e, he, by rw [← hq]; exact hqx⟩))
      · exact .inr (.inr (.inr ⟨x, hx, hqx⟩))
  exact {
    disk := h.disk.fr hf fun k hk hS => h.dk k hk (.inr (.inr (.inr ⟨e, he, hS.symm⟩)))
    c0 := (cp 0).trans h.c0, c1 := (cp 1).trans h.c1, c2 := (cp 2).trans h.c2, c3 := (cp 3).trans h.c3
    fp := fun o => (fr_frozen hf (a := ⟨σ.p, o, none⟩) h.pl (fun c => hbe.1 c.symm)).trans (h.fp o)
    ord := h.ord.same fun k hk => hf.blk k (h.ord.lt k hk).2 (fun c => hbe.2.2.1 (by rw [hk, c]))
    map := by
      have := (h.map.same (hf.blk _ h.map.lt (fun c => hbe.2.1 c.symm))).mono hK
      rw [hL, ← lookF_same hn hq] at this
      exact this
    blk := fun x hx => by
      rcases mem x hx with rfl | ⟨hx, hx2⟩
      · exact ⟨by rw [hq]; exact hr, hd, by rw [hn]; exact (h.blk e he).2.2.1, hp⟩
      · have := h.blk x hx
        exact ⟨(hf.blk x.q (h.sk_lt (.inr (.inr (.inr ⟨x, hx, rfl⟩)))) (neq x hx2)).trans this.1, this.2.1, this.2.2.1, Nat.le_trans this.2.2.2 hK⟩
    nd := by have := h.nd; rw [hL] at this; simpa [hn] using this
    qd := by have := h.qd; rw [hL] at this; simpa [hq] using this
    pm := h.pm, po := h.po, mo := h.mo
    bq := fun x hx => by
      rcases mem x hx with rfl | ⟨hx, _⟩
      · rw [hq]; exact hbe
      · exact h.bq x hx
    pb := h.pb, mbb := h.mbb
    dk := fun k hk hC => h.dk k hk (ck k hC)
    m1 := h.m1 }
theorem Step.setE {A B : List CE} {e e' : CE} {K' : Nat} (hL : σ.L = A ++ e :: B) (hq : e'.q = e.q) (hf : Fr (fun k => k = e.q) w w') : Step σ { σ with L := A ++ e' :: B, K := K' } w w' := by
  have he : e ∈ σ.L := by rw [hL]; simp
  refine ⟨hf.mono fun k _ hk => .inl (.inr (.inr (.inr ⟨e, he, hk.symm⟩))), fun k hk => .inl ?_⟩
  rcases hk with (hk | hk | hk | ⟨x, hx, hqx⟩) | hk
  · exact .inl (.inl hk)
  · exact .inl (.inr (.inl hk))
  · exact .inl (.inr (.inr (.inl hk)))
  · refine .inl (.inr (.inr (.inr ?_)))
    simp only [List.mem_append, List.mem_cons] at hx
    rcases hx with hx | hx | hx
    · exact ⟨x, by rw [hL]; simp [hx], hqx⟩
    · subst hx; exact ⟨e, he, by rw [← hq]; exact hqx⟩
    · exact ⟨x, by rw [hL]; simp [hx], hqx⟩
  · exact .inr hk
/-- How a block that is asked comes to the end. -/
inductive AskR (σ : CSt) (n q : Nat) : List CE → Nat → Prop
  | hit {A B : List CE} {e : CE} (hL : σ.L = A ++ e :: B) (hn : e.n = n) (hq : e.q = q) : AskR σ n q (tch A e B) σ.K
  | free (hne : ∀ x ∈ σ.L, ¬ x.n = n) (hl : σ.L.length < σ.most) : AskR σ n q (addE σ.L n q (lst σ n)) (σ.K + 1)
  | evict {A B : List CE} {e : CE} (hne : ∀ x ∈ σ.L, ¬ x.n = n) (hl : σ.most ≤ σ.L.length) (hL : σ.L = A ++ e :: B) (hA : ∀ x ∈ A, goB σ x = false) (he : goB σ e = true) : AskR σ n q (addE (A ++ B) n q (lst σ n)) (σ.K + 1)
/-- There is no room for it. -/
structure FullR (σ : CSt) (n : Nat) : Prop where
  ne : ∀ x ∈ σ.L, ¬ x.n = n
  le : σ.most ≤ σ.L.length
  no : ∀ x ∈ σ.L, goB σ x = false
theorem AskR.last {n q K' : Nat} {L' : List CE} (h : AskR σ n q L' K') : ∃ P e, L' = P ++ [e] ∧ e.n = n ∧ e.q = q := by
  cases h with
  | hit hL hn hq => exact ⟨_, _, rfl, hn, hq⟩
  | free => exact ⟨_, _, rfl, rfl, rfl⟩
  | evict => exact ⟨_, _, rfl, rfl, rfl⟩
theorem AskR.len {n q K' : Nat} {L' : List CE} (h : AskR σ n q L' K') (hl : σ.L.length ≤ σ.most) : L'.length ≤ σ.most := by
  cases h with
  | hit hL hn hq => rw [hL] at hl; simp only [tch, List.length_append, List.length_cons, List.length_nil] at hl ⊢; omega
  | free hne h1 => simp only [addE, List.length_append, List.length_cons, List.length_nil]; omega
  | evict hne h1 hL => rw [hL] at hl; simp only [addE, List.length_append, List.length_cons, List.length_nil] at hl ⊢; omega
theorem AskR.k {n q K' : Nat} {L' : List CE} (h : AskR σ n q L' K') : σ.K ≤ K' ∧ K' ≤ σ.K + 1 := by
  cases h <;> exact ⟨by omega, by omega⟩
theorem ask_any (h : CS w base σ (nums σ.L)) (n : Nat) (hn : n < σ.dn) (hK : σ.K ≤ 1000000) (hlen : σ.L.length ≤ σ.most) :
    Calls Tryz.prog 110 #[.pointer (some ⟨σ.p, 0, none⟩), .int .i64 (n : Int)] w fun r w' => (∃ q, r = .returned (.tuple #[.pointer (some ⟨q, 0, none⟩), .int .i64 0]) ∧ ∃ v' L' K', Done base σ { σ with ov := v', L := L', K := K' } w w' ∧ AskR σ n q L' K') ∨ (r = .returned (.tuple #[.pointer none, .int .i64 5]) ∧ FullR σ n ∧ Below w.heap.size w w') := by
  have hm := h.m1
  rcases first_split (fun e => decide (e.n = n)) σ.L with hno | ⟨A, e, B, hL, _, he⟩
  · have hne : ∀ x ∈ σ.L, ¬ x.n = n := fun x hx => by have := hno x hx; simpa using this
    by_cases hl : σ.L.length < σ.most
    · refine (ask_new h n hn hne σ.L hne hK (by rw [nums_length]; omega) ((room_free h (by omega)).mono ?_)).mono ?_
      · rintro r w' ⟨rfl, hb⟩
        exact ⟨rfl, σ.ov, h.up hb, Step.refl σ hb, hb.mono (by have := h.pb; have := h.pl; omega)⟩
      · rintro r w' ⟨q, rfl, v', hD⟩
        exact .inl ⟨q, rfl, v', _, _, hD, .free hne hl⟩
    · rcases first_split (goB σ) σ.L with hgo | ⟨A, e, B, hL, hA, he⟩
      · refine (ask_full h n hn hne (room_no h (by omega) hgo)).mono ?_
        rintro r w' ⟨rfl, hb⟩
        exact .inr ⟨rfl, ⟨hne, by omega, hgo⟩, hb⟩
      · have hne1 : ∀ x ∈ A ++ B, ¬ x.n = n := fun x hx => hne x (by
          rw [hL]
          rcases List.mem_append.1 hx with hx | hx
          · exact List.mem_append.2 (.inl hx)
          · exact List.mem_append.2 (.inr (List.mem_cons_of_mem _ hx)))
        refine (ask_new h n hn hne (A ++ B) hne1 hK ?_ (room_go h (by omega) hL hA he)).mono ?_
        · rw [nums_length]; rw [hL] at hlen; simp only [List.length_append, List.length_cons] at hlen ⊢; omega
        · rintro r w' ⟨q, rfl, v', hD⟩
          exact .inl ⟨q, rfl, v', _, _, hD, .evict hne (by omega) hL hA he⟩
  · obtain rfl : e.n = n := by simpa using he
    refine (ask_hit h hL (by omega)).mono ?_
    rintro r w' ⟨rfl, v', hD⟩
    exact .inl ⟨e.q, rfl, v', _, _, hD, .hit hL rfl rfl⟩
theorem Done.trans {σ σ' σ'' : CSt} {a b c : World} (h : Done base σ σ' a b) (k : Done base σ' σ'' b c) : Done base σ σ'' a c := ⟨k.cs, h.st.trans k.st, h.be.trans k.be⟩
theorem CS.bs (h : CS w base σ O) : base ≤ w.heap.size := by have := h.pb; have := h.pl; omega
theorem Done.up {σ σ' : CSt} {a b c : World} (h : Done base σ σ' a b) (hb : Below b.heap.size b c) : Done base σ σ' a c := ⟨h.cs.up hb, h.st.trans (Step.refl _ hb), h.be.trans (hb.mono h.cs.bs)⟩
set_option maxHeartbeats 2000000 in
theorem cread_out (h : CS w base σ O) (b : Int) (hb : b < 0 ∨ (σ.dn : Int) ≤ b) :
    Calls Tryz.prog 80 #[.pointer (some ⟨σ.p, 0, none⟩), .int .i64 b] w fun r w' => r = .returned (.tuple #[.slice none 0 0, .int .i64 3]) ∧ w' = w := by
  have RC := reach_out h b hb
  clear h
  go_enter Tryz.func80, Tryz.ntmps80
  go_wp2_with (first | (go_at_call 109; refine RC.mono ?_; rintro r w1 ⟨rfl, rfl⟩))
  go_ret2
  exact ⟨rfl, rfl⟩
/-- What Read leaves. -/
def ReadP (base : Nat) (σ : CSt) (n : Nat) (w : World) (r : Ending) (w' : World) : Prop :=
  (∃ v v' P e K', r = .returned (.tuple #[v, .int .i64 0]) ∧ Own w' w.heap.size v e.d ∧ (∀ k, v.ownBlock = some k → ¬ Sk { σ with ov := v', L := P ++ [e], K := K' } k) ∧ Done base σ { σ with ov := v', L := P ++ [e], K := K' } w w' ∧ AskR σ n e.q (P ++ [e]) K' ∧ e.n = n) ∨ (r = .returned (.tuple #[.slice none 0 0, .int .i64 5]) ∧ FullR σ n ∧ Below w.heap.size w w')
set_option maxHeartbeats 2000000 in
theorem cread_any (h : CS w base σ (nums σ.L)) (n : Nat) (hn : n < σ.dn) (hK : σ.K ≤ 1000000) (hlen : σ.L.length ≤ σ.most) :
    Calls Tryz.prog 80 #[.pointer (some ⟨σ.p, 0, none⟩), .int .i64 (n : Int)] w (ReadP base σ n w) := by
  have RC := reach_ok h n (by omega)
  have AK := ask_any h n hn hK hlen
  have HSZ : Hid (base ≤ w.heap.size) := h.bs
  clear h
  go_enter Tryz.func80, Tryz.ntmps80
  go_wp2_with fail
  refine RC.mono ?_
  rintro r w1 ⟨rfl, hw1⟩
  obtain rfl : w = w1 := hw1.symm
  clear RC
  go_wp2_with fail
  refine AK.mono ?_
  clear AK
  rintro r w2 (⟨q, rfl, v', L', K', hD, hR⟩ | ⟨rfl, hF, hb⟩)
  · obtain ⟨P, e, rfl, hen, heq⟩ := hR.last
    subst heq
    have hbk := hD.cs.blk e (by simp)
    have BY := bytes_any e.q _ e.d [.int .i64 (e.pin : Int)] w2 hbk.1 hbk.2.1
    have HD : Hid _ := hD
    have HR : Hid _ := And.intro hR hen
    clear hD hR hbk hen
    go_wp2_with fail
    refine BY.mono ?_
    clear BY
    rintro r w3 ⟨v, rfl, ho, hb3⟩
    have HO : Hid _ := ho
    have HB : Hid _ := hb3
    clear ho hb3
    go_wp2
    go_ret2
    refine .inl ⟨v, v', P, e, K', rfl, ?_, fun k hk hs => ?_, HD.out.up HB.out, HR.out.1, HR.out.2⟩
    · obtain ⟨h1, h2⟩ := HO.out
      refine ⟨h1, ?_⟩
      rcases h2 with h2 | ⟨g, cap, cur, hv, hg, rest⟩
      · exact .inl h2
      · exact .inr ⟨g, cap, cur, hv, by have := HD.out.be.size; omega, rest⟩
    · have h1 := (HO.out.lt k hk).1
      have h2 := HD.out.cs.sk_size hs
      omega
  · have HF : Hid _ := hF
    clear hF
    go_wp2
    go_ret2
    exact .inr ⟨rfl, HF.out, hb⟩
/-- What Lay leaves. -/
def LayP (base : Nat) (σ : CSt) (n : Nat) (data : List UInt8) (w : World) (r : Ending) (w' : World) : Prop :=
  (∃ v' P e K', r = .returned (.int .i64 0) ∧ Done base σ { σ with ov := v', L := P ++ [{ e with d := data }], K := K' } w w' ∧ AskR σ n e.q (P ++ [e]) K' ∧ e.n = n) ∨ (r = .returned (.int .i64 5) ∧ FullR σ n ∧ Below w.heap.size w w')
set_option maxHeartbeats 2000000 in
theorem clay_any (h : CS w base σ (nums σ.L)) (n : Nat) (hn : n < σ.dn) (hK : σ.K ≤ 1000000) (hlen : σ.L.length ≤ σ.most) (data : List UInt8) (b o c : Nat) (hs : Src w (some ⟨b, o, none⟩) data) (hd : data.length = 256) (hbS : ¬ Sk σ b) :
    Calls Tryz.prog 85 #[.pointer (some ⟨σ.p, 0, none⟩), .int .i64 (n : Int), .slice (some ⟨b, o, none⟩) 256 c] w (LayP base σ n data w) := by
  have RC := reach_ok h n (by omega)
  have AK := ask_any h n hn hK hlen
  have HS : Hid (Src w (some ⟨b, o, none⟩) data ∧ ¬ Sk σ b) := ⟨hs, hbS⟩
  have HD0 : Hid (data.length = 256) := hd
  clear h hs hd hbS
  go_enter Tryz.func85, Tryz.ntmps85
  go_wp2_with fail
  refine RC.mono ?_
  rintro r w1 ⟨rfl, hw1⟩
  obtain rfl : w = w1 := hw1.symm
  clear RC
  go_wp2_with fail
  refine AK.mono ?_
  clear AK
  rintro r w2 (⟨q, rfl, v', L', K', hD, hR⟩ | ⟨rfl, hF, hb⟩)
  · obtain ⟨P, e, rfl, hen, heq⟩ := hR.last
    subst heq
    have hbk := hD.cs.blk e (by simp)
    have hsrc2 : Src w2 (some ⟨b, o, none⟩) data := by
      obtain ⟨b', o', e1, hlt, hc⟩ := HS.out.1.at' (by rw [HD0.out]; omega)
      simp only [Option.some.injEq, Addr.mk.injEq] at e1
      obtain ⟨rfl, rfl, _⟩ := e1
      exact .inr ⟨b, o, rfl, by have := hD.st.fr.size; omega, fun j hj => (fr_cell hD.st.fr (a := ⟨b, o + j, none⟩) hlt HS.out.2).trans (hc j hj)⟩
    have ST := set_any e.q _ e.d data [.int .i64 (e.pin : Int)] (some ⟨b, o, none⟩) c w2 hbk.1 hbk.2.1 hsrc2 HD0.out
    have HD : Hid _ := hD
    have HR : Hid _ := And.intro hR hen
    have HBK : Hid _ := hbk.2.2.2
    have HBQ : Hid _ := (hD.cs.bq e (by simp)).2.2.2
    clear hD hR hbk hen hsrc2
    go_wp2_with fail
    refine ST.mono ?_
    clear ST
    rintro r w3 ⟨rfl, hr3, hf3, hb3, hz3⟩
    have HF3 : Hid _ := And.intro hr3 (And.intro hf3 hb3)
    clear hr3 hf3 hb3 hz3
    go_wp2
    go_ret
    refine .inl ⟨v', P, e, K', rfl, HD.out.trans ⟨?_, Step.setE (σ := { σ with ov := v', L := P ++ [e], K := K' }) (A := P) (B := []) (e := e) (e' := { e with d := data }) (K' := K') rfl rfl HF3.out.2.1, HF3.out.2.2.mono HBQ.out⟩, HR.out.1, HR.out.2⟩
    have := HD.out.cs.setE (A := P) (B := []) (e := e) (e' := { e with d := data }) (K' := K') rfl rfl rfl HF3.out.2.1 HF3.out.1 HD0.out HBK.out (Nat.le_refl _)
    show CS w3 base { σ with ov := v', L := P ++ [{ e with d := data }], K := K' } (nums (P ++ [{ e with d := data }]))
    rw [show nums (P ++ [{ e with d := data }]) = nums (P ++ [e]) from nums_same (e := e) (B := []) rfl]
    exact this
  · have HF : Hid _ := hF
    clear hF
    go_wp2
    go_ret
    exact .inr ⟨rfl, HF.out, hb⟩
end
end Go.Proofs.YtaljaledeljllaaGreat
