/- Package cache: Write, Pin, Unpin, Drop, New, Held. -/
import Derived.Test.YtaljaledeljllaaGreatCops1
namespace Go.Proofs.YtaljaledeljllaaGreat
open Go.RowKit
set_option maxRecDepth 100000
section
variable {w w' : World} {base : Nat} {σ : CSt} {O : List Int}
theorem CS.setDisk (h : CS w base σ O) {lf' : Int} {ws' : Nat → List (List UInt8)} {sf' : Nat → List UInt8} {vs' : Nat → Value} (hD : DiskAt w' base σ.dp σ.dn σ.en lf' sf' ws' σ.dq vs') {S : Nat → Prop} (hf : Fr S w w') (hS : ∀ k, S k → Dk σ.dp σ.dq σ.dn σ.vs k) (hv : ∀ k, Dk σ.dp σ.dq σ.dn vs' k → Dk σ.dp σ.dq σ.dn σ.vs k ∨ w.heap.size ≤ k) :
    CS w' base { σ with lf := lf', sf := sf', ws := ws', vs := vs' } O := by
  have nS : ∀ k, Ck σ k → ¬ S k := fun k hC hS' => h.dk k (hS k hS') hC
  have cp : ∀ o, w'.cell? ⟨σ.p, o, none⟩ = w.cell? ⟨σ.p, o, none⟩ := fun o => fr_cell hf (a := ⟨σ.p, o, none⟩) h.pl (nS _ (.inl rfl))
  exact {
    disk := hD
    c0 := (cp 0).trans h.c0, c1 := (cp 1).trans h.c1, c2 := (cp 2).trans h.c2, c3 := (cp 3).trans h.c3
    fp := fun o => (fr_frozen hf (a := ⟨σ.p, o, none⟩) h.pl (nS _ (.inl rfl))).trans (h.fp o)
    ord := h.ord.same fun k hk => hf.blk k (h.ord.lt k hk).2 (nS k (.inr (.inr (.inl hk))))
    map := h.map.same (hf.blk _ h.map.lt (nS _ (.inr (.inl rfl))))
    blk := fun e he => ⟨(hf.blk e.q (h.sk_lt (.inr (.inr (.inr ⟨e, he, rfl⟩)))) (nS _ (.inr (.inr (.inr ⟨e, he, rfl⟩))))).trans (h.blk e he).1, (h.blk e he).2⟩
    nd := h.nd, qd := h.qd, pm := h.pm, po := h.po, mo := h.mo, bq := h.bq, pb := h.pb, mbb := h.mbb
    dk := fun k hk hC => by
      rcases hv k hk with h1 | h1
      · exact h.dk k h1 hC
      · have := h.sk_lt hC; omega
    m1 := h.m1 }
theorem Step.setDisk {lf' : Int} {ws' : Nat → List (List UInt8)} {sf' : Nat → List UInt8} {vs' : Nat → Value} {S : Nat → Prop} (hf : Fr S w w') (hS : ∀ k, S k → Dk σ.dp σ.dq σ.dn σ.vs k) (hv : ∀ k, Dk σ.dp σ.dq σ.dn vs' k → Dk σ.dp σ.dq σ.dn σ.vs k ∨ w.heap.size ≤ k) :
    Step σ { σ with lf := lf', sf := sf', ws := ws', vs := vs' } w w' := by
  refine ⟨hf.mono fun k _ hk => .inr (hS k hk), fun k hk => ?_⟩
  rcases hk with hk | hk
  · exact .inl (.inl hk)
  · rcases hv k hk with h1 | h1
    · exact .inl (.inr h1)
    · exact .inr h1
theorem dk_upd {p q n i g m c H : Nat} {vs : Nat → Value} (hi : i < n) (hg : (vs i).ownBlock = some g ∨ H ≤ g) : ∀ k, Dk p q n (upd vs i (.slice (some ⟨g, 0, none⟩) m c)) k → Dk p q n vs k ∨ H ≤ k := fun k hk => by
  rcases hk with hk | hk | ⟨j, hj, hk⟩
  · exact .inl (.inl hk)
  · exact .inl (.inr (.inl hk))
  · by_cases hji : j = i
    · subst hji
      rw [upd_same] at hk
      obtain rfl : g = k := by simpa [Value.ownBlock] using hk
      rcases hg with h1 | h1
      · exact .inl (.inr (.inr ⟨j, hj, h1⟩))
      · exact .inr h1
    · rw [upd_other _ _ _ hji] at hk
      exact .inl (.inr (.inr ⟨j, hj, hk⟩))
/-- What Write leaves. -/
def WriteP (base : Nat) (σ : CSt) (n : Nat) (im : CE → List UInt8) (w : World) (r : Ending) (w' : World) : Prop :=
  (∃ v' P e K' vs', r = .returned (.int .i64 0) ∧ Done base σ { σ with ov := v', L := P ++ [e], K := K', ws := upd σ.ws n (σ.ws n ++ [im e]), vs := vs' } w w' ∧ AskR σ n e.q (P ++ [e]) K' ∧ e.n = n) ∨ (r = .returned (.int .i64 5) ∧ FullR σ n ∧ Below w.heap.size w w')
/-- The disk's Write, on a cache. -/
theorem dwrite_any (h : CS w base σ (nums σ.L)) (n : Nat) (hn : n < σ.dn) (hen : σ.en = false) (hlf : σ.lf = 0) (hw : (σ.ws n).length ≤ 1000000) (d : List UInt8) (hd : d.length = 256) (bd od dc : Nat) (hs : Src w (some ⟨bd, od, none⟩) d) (hb : bd ≠ σ.dp) :
    Calls Tryz.prog 112 #[.pointer (some ⟨σ.dp, 0, none⟩), .int .i64 (n : Int), .slice (some ⟨bd, od, none⟩) 256 dc] w fun r w' => r = .returned (.int .i64 0) ∧ ∃ vs', Done base σ { σ with ws := upd σ.ws n (σ.ws n ++ [d]), vs := vs' } w w' := by
  have hg : goesB σ.en σ.lf = true := by rw [hen, hlf]; rfl
  have hgl : goesL σ.en σ.lf = σ.lf := by rw [hen, hlf]; rfl
  refine (write_fr h.disk (by rw [hlf]; omega) n hn hw d hd bd od dc hs hb hg).mono ?_
  rintro r w' ⟨rfl, ⟨g, c, hD, hat⟩, hbe, hf⟩
  rw [hgl] at hD
  have hS : ∀ k, (k = σ.dp ∨ k = σ.dq ∨ (σ.vs n).ownBlock = some k) → Dk σ.dp σ.dq σ.dn σ.vs k := fun k hk => by
    rcases hk with hk | hk | hk
    · exact .inl hk
    · exact .inr (.inl hk)
    · exact .inr (.inr ⟨n, hn, hk⟩)
  exact ⟨rfl, _, h.setDisk hD hf hS (dk_upd hn hat), Step.setDisk hf hS (dk_upd hn hat), hbe⟩
set_option maxHeartbeats 2000000 in
theorem cwrite_own (h : CS w base σ (nums σ.L)) (n : Nat) (hn : n < σ.dn) (hK : σ.K ≤ 1000000) (hlen : σ.L.length ≤ σ.most) (hen : σ.en = false) (hlf : σ.lf = 0) (hw : (σ.ws n).length ≤ 1000000) :
    Calls Tryz.prog 74 #[.pointer (some ⟨σ.p, 0, none⟩), .int .i64 (n : Int), .slice none 0 0] w (WriteP base σ n (fun e => e.d) w) := by
  have RC := reach_ok h n (by omega)
  have AK := ask_any h n hn hK hlen
  have HW : Hid (n < σ.dn ∧ σ.en = false ∧ σ.lf = 0 ∧ (σ.ws n).length ≤ 1000000) := ⟨hn, hen, hlf, hw⟩
  clear h hen hlf hw hn
  go_enter Tryz.func74, Tryz.ntmps74
  go_wp2_with fail
  refine RC.mono ?_
  rintro r w1 ⟨rfl, hw1⟩
  obtain rfl : w = w1 := hw1.symm
  clear RC
  go_wp2_with fail
  refine AK.mono ?_
  clear AK
  rintro r w2 (⟨q, rfl, v', L', K', hD, hR⟩ | ⟨rfl, hF, hb⟩)
  · obtain ⟨P, e, rfl, hen, heq⟩ := hR.last
    subst heq
    have hbk := hD.cs.blk e (by simp)
    have BY := bytes_any e.q _ e.d [.int .i64 (e.pin : Int)] w2 hbk.1 hbk.2.1
    have HD : Hid _ := hD
    have HR : Hid _ := And.intro hR hen
    have HL : Hid (e.d.length = 256) := hbk.2.1
    clear hD hR hbk hen
    go_wp2_with fail
    refine BY.mono ?_
    clear BY
    rintro r w3 ⟨v, rfl, ho, hb3⟩
    obtain ⟨h1, h2⟩ := ho
    rcases h2 with ⟨_, h2⟩ | ⟨g, cap, cur, hv, hg, hh, hn3, hm3, hs3, hx3⟩
    · rw [HL.out] at h2; cases h2
    rw [HL.out] at hv
    subst hv
    have hsrc : Src w3 (some ⟨g, 0, none⟩) e.d := by
      have ho : Own w3 w2.heap.size (.slice (some ⟨g, 0, none⟩) e.d.length cap) e.d := ⟨h1, .inr ⟨g, cap, cur, rfl, hg, hh, hn3, hm3, hs3, hx3⟩⟩
      obtain ⟨ao, c2, hv2, hs2, _⟩ := ho.form
      simp only [Value.slice.injEq] at hv2
      rw [hv2.1]; exact hs2
    have HD3 : Hid _ := HD.out.up hb3
    have hgp : g ≠ σ.dp := fun c => by
      have := HD.out.cs.disk.pl
      dsimp only at this
      omega
    have DW := dwrite_any HD3.out.cs n HW.out.1 HW.out.2.1 HW.out.2.2.1 HW.out.2.2.2 e.d HL.out g 0 cap hsrc hgp
    dsimp only at DW
    have q0 := HD3.out.cs.c0
    dsimp only at q0
    clear hsrc hgp h1 hh hn3 hm3 hs3 hx3 HD hb3
    go_wp2_with fail
    refine DW.mono ?_
    clear DW
    rintro r w4 ⟨rfl, vs', hD4⟩
    have HD4 : Hid _ := HD3.out.trans hD4
    clear hD4
    go_wp2
    go_ret
    exact .inl ⟨v', P, e, K', vs', rfl, HD4.out, HR.out.1, HR.out.2⟩
  · have HF : Hid _ := hF
    clear hF
    go_wp2
    go_ret
    exact .inr ⟨rfl, HF.out, hb⟩
set_option maxHeartbeats 2000000 in
theorem cwrite_img (h : CS w base σ (nums σ.L)) (n : Nat) (hn : n < σ.dn) (hK : σ.K ≤ 1000000) (hlen : σ.L.length ≤ σ.most) (hen : σ.en = false) (hlf : σ.lf = 0) (hw : (σ.ws n).length ≤ 1000000) (data : List UInt8) (b o c : Nat) (hs : Src w (some ⟨b, o, none⟩) data) (hd : data.length = 256) (hbS : ¬ Sk σ b) :
    Calls Tryz.prog 74 #[.pointer (some ⟨σ.p, 0, none⟩), .int .i64 (n : Int), .slice (some ⟨b, o, none⟩) 256 c] w (WriteP base σ n (fun _ => data) w) := by
  have RC := reach_ok h n (by omega)
  have AK := ask_any h n hn hK hlen
  have HW : Hid (n < σ.dn ∧ σ.en = false ∧ σ.lf = 0 ∧ (σ.ws n).length ≤ 1000000) := ⟨hn, hen, hlf, hw⟩
  have HS : Hid (Src w (some ⟨b, o, none⟩) data ∧ ¬ Sk σ b) := ⟨hs, hbS⟩
  have HD0 : Hid (data.length = 256) := hd
  clear h hen hlf hw hn hs hd hbS
  go_enter Tryz.func74, Tryz.ntmps74
  go_wp2_with fail
  refine RC.mono ?_
  rintro r w1 ⟨rfl, hw1⟩
  obtain rfl : w = w1 := hw1.symm
  clear RC
  go_wp2_with fail
  refine AK.mono ?_
  clear AK
  rintro r w2 (⟨q, rfl, v', L', K', hD, hR⟩ | ⟨rfl, hF, hb⟩)
  · obtain ⟨P, e, rfl, hen, heq⟩ := hR.last
    have hsrc2 : Src w2 (some ⟨b, o, none⟩) data := by
      obtain ⟨b', o', e1, hlt, hc⟩ := HS.out.1.at' (by rw [HD0.out]; omega)
      simp only [Option.some.injEq, Addr.mk.injEq] at e1
      obtain ⟨rfl, rfl, _⟩ := e1
      exact .inr ⟨b, o, rfl, by have := hD.st.fr.size; omega, fun j hj => (fr_cell hD.st.fr (a := ⟨b, o + j, none⟩) hlt HS.out.2).trans (hc j hj)⟩
    have hgp : b ≠ σ.dp := fun c => HS.out.2 (by rw [c]; exact .inr (.inl rfl))
    have DW := dwrite_any hD.cs n HW.out.1 HW.out.2.1 HW.out.2.2.1 HW.out.2.2.2 data HD0.out b o c hsrc2 hgp
    dsimp only at DW
    have q0 := hD.cs.c0
    dsimp only at q0
    have HD : Hid _ := hD
    have HR : Hid _ := And.intro hR (And.intro hen heq)
    clear hD hR hen hsrc2 hgp heq
    go_wp2_with fail
    refine DW.mono ?_
    clear DW
    rintro r w4 ⟨rfl, vs', hD4⟩
    have HD4 : Hid _ := HD.out.trans hD4
    clear hD4
    go_wp2
    go_ret
    exact .inl ⟨v', P, e, K', vs', rfl, HD4.out, by rw [HR.out.2.2]; exact HR.out.1, HR.out.2.1⟩
  · have HF : Hid _ := hF
    clear hF
    go_wp2
    go_ret
    exact .inr ⟨rfl, HF.out, hb⟩
/-- A block that is pinned otherwise. -/
theorem CS.setPin (h : CS w base σ (nums σ.L)) {A B : List CE} {e : CE} {x : Nat} (hL : σ.L = A ++ e :: B) (hx : x ≤ σ.K + 1) : Done base σ { σ with L := A ++ { e with pin := x } :: B, K := σ.K + 1 } w (w.setCell ⟨e.q, 256, none⟩ (.int .i64 (x : Int))) := by
  have he : e ∈ σ.L := by rw [hL]; simp
  have hb := h.blk e he
  have hf : Fr (fun k => k = e.q) w (w.setCell ⟨e.q, 256, none⟩ (.int .i64 (x : Int))) := (Fr.refl _ _).setCell _ _ _ rfl
  have e2 : (beL { e with pin := x }).toArray = (beL e).toArray.setIfInBounds 256 (.int .i64 (x : Int)) := by
    simp only [beL, List.setIfInBounds_toArray]
    rw [List.set_append_right _ _ (by rw [bvs_length, hb.2.1]; omega), bvs_length, hb.2.1]
    rfl
  have hr : (w.setCell ⟨e.q, 256, none⟩ (.int .i64 (x : Int))).heap[e.q]? = some (.cells (beL { e with pin := x }).toArray 176 (0, 0)) := by
    rw [e2]; exact heap_setCell_same w e.q 256 _ _ _ hb.1
  refine ⟨?_, Step.setE hL rfl hf, (Below.refl _ _).setCell (h.bq e he).2.2.2 _⟩
  have := h.setE (K' := σ.K + 1) hL (e' := { e with pin := x }) rfl rfl hf hr hb.2.1 hx (by omega)
  rw [hL] at this
  show CS _ base { σ with L := A ++ { e with pin := x } :: B, K := σ.K + 1 } (nums (A ++ { e with pin := x } :: B))
  rw [show nums (A ++ { e with pin := x } :: B) = nums (A ++ e :: B) from nums_same (e := e) rfl]
  exact this
set_option maxHeartbeats 1000000 in
theorem pin_ok (h : CS w base σ (nums σ.L)) {A B : List CE} {e : CE} (hL : σ.L = A ++ e :: B) (hK : σ.K ≤ 1000000) :
    Calls Tryz.prog 119 #[.pointer (some ⟨σ.p, 0, none⟩), .int .i64 (e.n : Int)] w fun r w' => r = .returned (.int .i64 0) ∧ Done base σ { σ with L := A ++ { e with pin := e.pin + 1 } :: B, K := σ.K + 1 } w w' := by
  have FD := cfind_ok h hL
  have he : e ∈ σ.L := by rw [hL]; simp
  have qp := h.pin he
  have qf := h.bfr he 256
  have hb := (h.blk e he).2.2.2
  have HP : Hid _ := h.setPin (x := e.pin + 1) hL (by omega)
  have hpb : (e.pin : Int) ≤ 1000000 := by omega
  clear h hL he hb
  go_enter Tryz.func119, Tryz.ntmps119
  go_wp2_with (first | (go_at_call 136; refine FD.mono ?_; rintro r w1 ⟨rfl, rfl⟩))
  go_ret
  exact ⟨rfl, HP.out⟩
set_option maxHeartbeats 1000000 in
theorem pin_no (h : CS w base σ O) (b : Int) (hb : ∀ e ∈ σ.L, ¬ (e.n : Int) = b) (hbb : -9223372036854775808 ≤ b ∧ b ≤ 9223372036854775807) :
    Calls Tryz.prog 119 #[.pointer (some ⟨σ.p, 0, none⟩), .int .i64 b] w fun r w' => r = .returned (.int .i64 20) ∧ w' = w := by
  have FD := find_no h b hb hbb
  clear h hb
  go_enter Tryz.func119, Tryz.ntmps119
  go_wp2_with (first | (go_at_call 136; refine FD.mono ?_; rintro r w1 ⟨rfl, rfl⟩))
  go_ret
  exact ⟨rfl, rfl⟩
set_option maxHeartbeats 1000000 in
theorem unpin_ok (h : CS w base σ (nums σ.L)) {A B : List CE} {e : CE} (hL : σ.L = A ++ e :: B) (hK : σ.K ≤ 1000000) (hp : 1 ≤ e.pin) :
    Calls Tryz.prog 114 #[.pointer (some ⟨σ.p, 0, none⟩), .int .i64 (e.n : Int)] w fun r w' => r = .returned (.int .i64 0) ∧ Done base σ { σ with L := A ++ { e with pin := e.pin - 1 } :: B, K := σ.K + 1 } w w' := by
  have FD := cfind_ok h hL
  have he : e ∈ σ.L := by rw [hL]; simp
  have qp := h.pin he
  have qf := h.bfr he 256
  have hb := (h.blk e he).2.2.2
  have HP : Hid _ := h.setPin (x := e.pin - 1) hL (by omega)
  have hpb : (e.pin : Int) ≤ 1000000 := by omega
  have hp1 : (1 : Int) ≤ e.pin := by omega
  have hp0 : ((e.pin : Int) == 0) = false := beq_eq_false_iff_ne.2 (by omega)
  have HE : Hid ((e.pin : Int) - 1 = ((e.pin - 1 : Nat) : Int)) := by show _ = _; omega
  clear h hL he hb hp
  generalize e.pin = pn at *
  go_enter Tryz.func114, Tryz.ntmps114
  go_wp2_with (first | (go_at_call 136; refine FD.mono ?_; rintro r w1 ⟨rfl, rfl⟩))
  go_ret
  rw [HE.out]
  exact ⟨rfl, HP.out⟩
set_option maxHeartbeats 1000000 in
theorem unpin_zero (h : CS w base σ (nums σ.L)) {A B : List CE} {e : CE} (hL : σ.L = A ++ e :: B) (hp : e.pin = 0) :
    Calls Tryz.prog 114 #[.pointer (some ⟨σ.p, 0, none⟩), .int .i64 (e.n : Int)] w fun r w' => r = .returned (.int .i64 6) ∧ w' = w := by
  have FD := cfind_ok h hL
  have qp := h.pin (e := e) (by rw [hL]; simp)
  rw [hp] at qp
  clear h hL
  go_enter Tryz.func114, Tryz.ntmps114
  go_wp2_with (first | (go_at_call 136; refine FD.mono ?_; rintro r w1 ⟨rfl, rfl⟩))
  go_ret
  exact ⟨rfl, rfl⟩
set_option maxHeartbeats 1000000 in
theorem unpin_no (h : CS w base σ O) (b : Int) (hb : ∀ e ∈ σ.L, ¬ (e.n : Int) = b) (hbb : -9223372036854775808 ≤ b ∧ b ≤ 9223372036854775807) :
    Calls Tryz.prog 114 #[.pointer (some ⟨σ.p, 0, none⟩), .int .i64 b] w fun r w' => r = .returned (.int .i64 20) ∧ w' = w := by
  have FD := find_no h b hb hbb
  clear h hb
  go_enter Tryz.func114, Tryz.ntmps114
  go_wp2_with (first | (go_at_call 136; refine FD.mono ?_; rintro r w1 ⟨rfl, rfl⟩))
  go_ret
  exact ⟨rfl, rfl⟩
set_option maxHeartbeats 1000000 in
set_option maxHeartbeats 1000000 in
set_option maxHeartbeats 1000000 in
end
end Go.Proofs.YtaljaledeljllaaGreat
