/- Both caches: they are asked alike; what the program's answers where nothing is done. -/
import Derived.Test.YtikpnfnbmbaljaaJZop14
namespace Go.Proofs.Ytikpnfnbmbaljaa
open Go.RowKit
set_option maxRecDepth 100000
theorem filter_ne_len (a : Nat) : ∀ {l : List Nat}, l.Nodup → l.length ≤ (l.filter fun y => decide (y ≠ a)).length + 1
  | [], _ => by simp
  | x :: l, h => by
    obtain ⟨g1, g2⟩ := List.nodup_cons.1 h
    by_cases ha : x = a
    · subst ha
      rw [List.filter_cons_of_neg (by simp), List.filter_eq_self.2 (fun y hy => by simp; exact fun e => g1 (e ▸ hy))]; simp
    · rw [List.filter_cons_of_pos (by simpa using ha)]
      have := filter_ne_len a g2
      simp only [List.length_cons]; omega
theorem nodup_lenK : ∀ (n : Nat) (l : List Nat), l.Nodup → (∀ x ∈ l, x < n) → l.length ≤ n
  | 0, l, _, h => by
    cases l with
    | nil => exact Nat.le_refl _
    | cons x r => exact absurd (h x List.mem_cons_self) (Nat.not_lt_zero _)
  | n + 1, l, hd, h => by
    have h1 := filter_ne_len n hd
    have h2 := nodup_lenK n (l.filter fun y => decide (y ≠ n)) (hd.sublist List.filter_sublist) fun x hx => by
      obtain ⟨hx1, hx2⟩ := List.mem_filter.1 hx
      have := h x hx1
      have := of_decide_eq_true hx2
      omega
    omega
/-- A block of ours as the document has it. -/
def bf (e : CE) : Bf := ⟨e.n, e.d, e.pin⟩
theorem bf_nums (L : List CE) : bns (L.map bf) = nums L := by unfold bns nums; rw [List.map_map]; rfl
theorem bf_nod {L : List CE} (h : (L.map (·.n)).Nodup) : ((L.map bf).map (·.b)).Nodup := by rw [List.map_map]; exact h
theorem split_uniqueB : ∀ {A A' B B' : List Bf} {e e' : Bf}, A ++ e :: B = A' ++ e' :: B' → ((∀ x ∈ A, ¬ x.b = e.b) ∧ ∀ x ∈ B, ¬ x.b = e.b) → e'.b = e.b → A = A' ∧ e = e' ∧ B = B'
  | [], [], _, _, _, _, h, _, _ => by simp only [List.nil_append, List.cons.injEq] at h; exact ⟨rfl, h.1, h.2⟩
  | [], a' :: A', B, B', e, e', h, hn, he => by
    simp only [List.nil_append, List.cons_append, List.cons.injEq] at h
    exact absurd he (hn.2 e' (by rw [h.2]; simp))
  | a :: A, [], B, B', e, e', h, hn, he => by
    simp only [List.nil_append, List.cons_append, List.cons.injEq] at h
    exact absurd (by rw [← h.1] at he; exact he) (hn.1 a (by simp))
  | a :: A, a' :: A', B, B', e, e', h, hn, he => by
    simp only [List.cons_append, List.cons.injEq] at h
    obtain ⟨h1, h2, h3⟩ := split_uniqueB h.2 ⟨fun x hx => hn.1 x (by simp [hx]), hn.2⟩ he
    exact ⟨by rw [h.1, h1], h2, h3⟩
theorem first_uniqueB {p : Bf → Bool} : ∀ {A A' B B' : List Bf} {e e' : Bf}, A ++ e :: B = A' ++ e' :: B' → (∀ x ∈ A, p x = false) → p e = true → (∀ x ∈ A', p x = false) → p e' = true → A = A' ∧ e = e' ∧ B = B'
  | [], [], _, _, _, _, h, _, _, _, _ => by simp only [List.nil_append, List.cons.injEq] at h; exact ⟨rfl, h.1, h.2⟩
  | [], a' :: A', B, B', e, e', h, _, h2, h3, _ => by
    simp only [List.nil_append, List.cons_append, List.cons.injEq] at h
    have := h3 a' (by simp)
    rw [← h.1, h2] at this; cases this
  | a :: A, [], B, B', e, e', h, h1, _, _, h4 => by
    simp only [List.nil_append, List.cons_append, List.cons.injEq] at h
    have := h1 a (by simp)
    rw [h.1, h4] at this; cases this
  | a :: A, a' :: A', B, B', e, e', h, h1, h2, h3, h4 => by
    simp only [List.cons_append, List.cons.injEq] at h
    obtain ⟨k1, k2, k3⟩ := first_uniqueB h.2 (fun x hx => h1 x (by simp [hx])) h2 (fun x hx => h3 x (by simp [hx])) h4
    exact ⟨by rw [h.1, k1], k2, k3⟩
theorem AskD.det {most : Nat} {y : Nat → List UInt8} {L X Y : List Bf} {n : Nat} (hnd : (L.map (·.b)).Nodup) (h1 : AskD most y L n X) (h2 : AskD most y L n Y) : X = Y := by
  cases h1 with
  | hit e1 n1 =>
    subst e1
    cases h2 with
    | hit e2 n2 =>
      obtain ⟨a, b, c⟩ := split_uniqueB e2 (uniqB hnd) (by rw [n1, n2])
      rw [a, b, c]
    | free hne _ => exact absurd n1 (hne _ (by simp))
    | evict hne _ _ _ _ => exact absurd n1 (hne _ (by simp))
  | free ne1 l1 =>
    cases h2 with
    | hit e2 n2 => subst e2; exact absurd n2 (ne1 _ (by simp))
    | free _ _ => rfl
    | evict _ l2 _ _ _ => omega
  | evict ne1 l1 e1 a1 g1 =>
    subst e1
    cases h2 with
    | hit e2 n2 => exact absurd n2 (ne1 _ (by rw [e2]; simp))
    | free _ l2 => omega
    | evict _ _ e2 a2 g2 =>
      obtain ⟨a, b, c⟩ := first_uniqueB e2 a1 g1 a2 g2
      rw [a, c]
theorem AskD.full {most : Nat} {y : Nat → List UInt8} {L X : List Bf} {n : Nat} (h1 : AskD most y L n X) (h2 : FullD most y L n) : False := by
  cases h1 with
  | hit e1 n1 => subst e1; exact h2.ne _ (by simp) n1
  | free _ l1 => have := h2.le; omega
  | @evict A B x _ _ e1 _ g1 =>
    subst e1
    have := h2.no x (by simp)
    rw [g1] at this
    cases this
theorem go_same (σ : CSt) (e : CE) : goD (lst σ) (bf e) = goB σ e := by
  unfold goD goB dirtyB bf
  rw [Bool.not_not]
  congr 1
  rw [Bool.eq_iff_iff, beq_iff_eq, beq_iff_eq]
  exact eq_comm
section
variable {w w' : World} {base : Nat} {σ : CSt} {O : List Int}
theorem AskR.d {n q K' : Nat} {L' : List CE} (h : AskR σ n q L' K') : AskD σ.most (lst σ) (σ.L.map bf) n (L'.map bf) := by
  cases h with
  | @hit A B e hL hn hq =>
    rw [hL]
    have : AskD σ.most (lst σ) ((A ++ e :: B).map bf) n (A.map bf ++ B.map bf ++ [bf e]) := .hit (by simp) hn
    simpa [tch] using this
  | free hne hl =>
    have : AskD σ.most (lst σ) (σ.L.map bf) n (σ.L.map bf ++ [⟨n, lst σ n, 0⟩]) := .free (fun x hx => by
      obtain ⟨e, he, rfl⟩ := List.mem_map.1 hx
      exact hne e he) (by simpa using hl)
    simpa [addE, bf] using this
  | @evict A B e hne hl hL hA he =>
    have : AskD σ.most (lst σ) (σ.L.map bf) n (A.map bf ++ B.map bf ++ [⟨n, lst σ n, 0⟩]) := .evict (x := bf e) (fun x hx => by
      obtain ⟨e, he, rfl⟩ := List.mem_map.1 hx
      exact hne e he) (by simpa using hl) (by rw [hL]; simp) (fun x hx => by
      obtain ⟨e, he, rfl⟩ := List.mem_map.1 hx
      rw [go_same]; exact hA e he) (by rw [go_same]; exact he)
    simpa [addE, bf] using this
theorem FullR.d {n : Nat} (h : FullR σ n) : FullD σ.most (lst σ) (σ.L.map bf) n := ⟨fun x hx => by
  obtain ⟨e, he, rfl⟩ := List.mem_map.1 hx
  exact h.ne e he, by simpa using h.le, fun x hx => by
  obtain ⟨e, he, rfl⟩ := List.mem_map.1 hx
  rw [go_same]; exact h.no e he⟩
set_option maxHeartbeats 2000000 in
theorem cflush_any (h : CS w base σ (nums σ.L)) (hen : σ.en = false) (hlf : σ.lf = 0) :
    Calls Try.prog 34 #[.pointer (some ⟨σ.p, 0, none⟩)] w fun r w' => r = .returned (.int .i64 0) ∧ ∃ vs', Done base σ { σ with sf := lst σ, ws := fun _ => [], vs := vs' } w w' := by
  have hg : goesB σ.en σ.lf = true := by rw [hen, hlf]; rfl
  have hgl : goesL σ.en σ.lf = σ.lf := by rw [hen, hlf]; rfl
  have FL := flush_fr h.disk (by rw [hlf]; omega) hg (openL σ.ws σ.dn) rfl
  have q0 := h.c0
  have H : Hid (CS w base σ (nums σ.L)) := h
  clear h hen hlf hg
  go_enter Try.func34, Try.ntmps34
  go_wp2_with fail
  refine FL.mono ?_
  clear FL
  rintro r w2 ⟨rfl, ⟨vs', hD, hV⟩, hbe, hf⟩
  rw [hgl] at hD
  have HD : Hid (DiskAt w2 base σ.dp σ.dn σ.en σ.lf (lst σ) (fun _ => []) σ.dq vs') := hD.congr (fun i hi => by rw [(setS_all σ.ws σ.sf _ σ.dn i hi).1, List.take_length]; rfl) (fun i hi => (setS_all σ.ws σ.sf _ σ.dn i hi).2)
  have HV : Hid (VN σ.vs vs') := hV
  have HF : Hid (Fr (PQ σ.dp σ.dq) w w2 ∧ Below base w w2) := ⟨hf, hbe⟩
  clear hD hV hf hbe hgl
  go_wp2
  go_ret
  have hS : ∀ k, PQ σ.dp σ.dq k → Dk σ.dp σ.dq σ.dn σ.vs k := fun k hk => by
    rcases hk with hk | hk
    · exact .inl hk
    · exact .inr (.inl hk)
  have hv : ∀ k, Dk σ.dp σ.dq σ.dn vs' k → Dk σ.dp σ.dq σ.dn σ.vs k ∨ w.heap.size ≤ k := fun k hk => by
    rcases hk with hk | hk | ⟨j, hj, hk⟩
    · exact .inl (.inl hk)
    · exact .inl (.inr (.inl hk))
    · rcases HV.out j with e | e
      · rw [e] at hk; exact .inl (.inr (.inr ⟨j, hj, hk⟩))
      · rw [e] at hk; cases hk
  exact ⟨rfl, vs', H.out.setDisk HD.out HF.out.1 hS hv, Step.setDisk HF.out.1 hS hv, HF.out.2⟩
set_option maxHeartbeats 2000000 in
theorem cwrite_own0 (h : CS w base σ (nums σ.L)) (n : Nat) (hn : n < σ.dn) (hK : σ.K ≤ 1000000) (hlen : σ.L.length ≤ σ.most) (hen : σ.en = false) (hlf : σ.lf = 0) (hw : (σ.ws n).length ≤ 1000000) (isp : Option Addr) (icp : Nat) :
    Calls Try.prog 21 #[.pointer (some ⟨σ.p, 0, none⟩), .int .i64 (n : Int), .slice isp 0 icp] w (WriteP base σ n (fun e => e.d) w) := by
  have RC := reach_ok h n (by omega)
  have AK := ask_any h n hn hK hlen
  have HW : Hid (n < σ.dn ∧ σ.en = false ∧ σ.lf = 0 ∧ (σ.ws n).length ≤ 1000000) := ⟨hn, hen, hlf, hw⟩
  clear h hen hlf hw hn
  go_enter Try.func21, Try.ntmps21
  go_wp2_with fail
  refine RC.mono ?_
  rintro r w1 ⟨rfl, hw1⟩
  obtain rfl : w = w1 := hw1.symm
  clear RC
  go_wp2_with fail
  refine AK.mono ?_
  clear AK
  rintro r w2 (⟨q, rfl, v', L', K', hD, hR⟩ | ⟨rfl, hF, hb⟩)
  · obtain ⟨P, e, rfl, hen, heq⟩ := hR.last
    subst heq
    have hbk := hD.cs.blk e (by simp)
    have BY := bytes_any e.q _ e.d [.int .i64 (e.pin : Int)] w2 hbk.1 hbk.2.1
    have HD : Hid _ := hD
    have HR : Hid _ := And.intro hR hen
    have HL : Hid (e.d.length = 256) := hbk.2.1
    clear hD hR hbk hen
    go_wp2_with fail
    refine BY.mono ?_
    clear BY
    rintro r w3 ⟨v, rfl, ho, hb3⟩
    obtain ⟨h1, h2⟩ := ho
    rcases h2 with ⟨_, h2⟩ | ⟨g, cap, cur, hv, hg, hh, hn3, hm3, hs3, hx3⟩
    · rw [HL.out] at h2; cases h2
    rw [HL.out] at hv
    subst hv
    have hsrc : Src w3 (some ⟨g, 0, none⟩) e.d := by
      have ho : Own w3 w2.heap.size (.slice (some ⟨g, 0, none⟩) e.d.length cap) e.d := ⟨h1, .inr ⟨g, cap, cur, rfl, hg, hh, hn3, hm3, hs3, hx3⟩⟩
      obtain ⟨ao, c2, hv2, hs2, _⟩ := ho.form
      simp only [Value.slice.injEq] at hv2
      rw [hv2.1]; exact hs2
    have HD3 : Hid _ := HD.out.up hb3
    have hgp : g ≠ σ.dp := fun c => by
      have := HD.out.cs.disk.pl
      dsimp only at this
      omega
    have DW := dwrite_any HD3.out.cs n HW.out.1 HW.out.2.1 HW.out.2.2.1 HW.out.2.2.2 e.d HL.out g 0 cap hsrc hgp
    dsimp only at DW
    have q0 := HD3.out.cs.c0
    dsimp only at q0
    clear hsrc hgp h1 hh hn3 hm3 hs3 hx3 HD hb3
    go_wp2_with fail
    refine DW.mono ?_
    clear DW
    rintro r w4 ⟨rfl, vs', hD4⟩
    have HD4 : Hid _ := HD3.out.trans hD4
    clear hD4
    go_wp2
    go_ret
    exact .inl ⟨v', P, e, K', vs', rfl, HD4.out, HR.out.1, HR.out.2⟩
  · have HF : Hid _ := hF
    clear hF
    go_wp2
    go_ret
    exact .inr ⟨rfl, HF.out, hb⟩
set_option maxHeartbeats 1000000 in
theorem clay_out (h : CS w base σ O) (b : Int) (hb : b < 0 ∨ (σ.dn : Int) ≤ b) (sp : Option Addr) (len cap : Nat) :
    Calls Try.prog 19 #[.pointer (some ⟨σ.p, 0, none⟩), .int .i64 b, .slice sp len cap] w fun r w' => r = .returned (.int .i64 3) ∧ w' = w := by
  have RC := reach_out h b hb
  clear h
  go_enter Try.func19, Try.ntmps19
  go_wp2_with (first | (go_at_call 49; refine RC.mono ?_; rintro r w1 ⟨rfl, rfl⟩))
  go_ret
  exact ⟨rfl, rfl⟩
set_option maxHeartbeats 1000000 in
theorem cwrite_out (h : CS w base σ O) (b : Int) (hb : b < 0 ∨ (σ.dn : Int) ≤ b) (sp : Option Addr) (len cap : Nat) :
    Calls Try.prog 21 #[.pointer (some ⟨σ.p, 0, none⟩), .int .i64 b, .slice sp len cap] w fun r w' => r = .returned (.int .i64 3) ∧ w' = w := by
  have RC := reach_out h b hb
  clear h
  go_enter Try.func21, Try.ntmps21
  go_wp2_with (first | (go_at_call 49; refine RC.mono ?_; rintro r w1 ⟨rfl, rfl⟩))
  go_ret
  exact ⟨rfl, rfl⟩
set_option maxHeartbeats 1000000 in
theorem clay_size (h : CS w base σ O) (n : Nat) (hn : n < σ.dn) (sp : Option Addr) (len cap : Nat) (hlen : ¬ len = 256) :
    Calls Try.prog 19 #[.pointer (some ⟨σ.p, 0, none⟩), .int .i64 (n : Int), .slice sp len cap] w fun r w' => r = .returned (.int .i64 4) ∧ w' = w := by
  have RC := reach_ok h n (by omega)
  have hle : ¬ (len : Int) = 256 := by omega
  have hlb : ((len : Int) == 256) = false := by simp; omega
  clear h hlen hn
  go_enter Try.func19, Try.ntmps19
  go_wp2_with (first | (go_at_call 49; refine RC.mono ?_; rintro r w1 ⟨rfl, hw1⟩; obtain rfl : w = w1 := hw1.symm))
  go_ret
  exact ⟨rfl, rfl⟩
set_option maxHeartbeats 1000000 in
theorem cwrite_size (h : CS w base σ O) (n : Nat) (hn : n < σ.dn) (sp : Option Addr) (len cap : Nat) (hlen : ¬ len = 256) (hlen0 : ¬ len = 0) :
    Calls Try.prog 21 #[.pointer (some ⟨σ.p, 0, none⟩), .int .i64 (n : Int), .slice sp len cap] w fun r w' => r = .returned (.int .i64 4) ∧ w' = w := by
  have RC := reach_ok h n (by omega)
  have hle : ¬ (len : Int) = 256 := by omega
  have hlb : ((len : Int) == 256) = false := by simp; omega
  have hlf : ((len : Int) != 256) = true := by simp; omega
  have hlg : ((len : Int) != 0) = true := by simp; omega
  have hlh : ¬ (len : Int) = 0 := by omega
  clear h hlen hn hlen0
  go_enter Try.func21, Try.ntmps21
  go_wp2_with (first | (go_at_call 49; refine RC.mono ?_; rintro r w1 ⟨rfl, hw1⟩; obtain rfl : w = w1 := hw1.symm))
  go_ret
  exact ⟨rfl, rfl⟩
end
end Go.Proofs.Ytikpnfnbmbaljaa
