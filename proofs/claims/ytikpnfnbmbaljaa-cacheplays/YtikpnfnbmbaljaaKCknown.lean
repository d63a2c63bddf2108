/- What a block that is asked leaves, where the list is known; leveelaw10.known. -/
import Derived.Test.YtikpnfnbmbaljaaJIsort3
import Derived.Test.YtikpnfnbmbaljaaKFill
import Derived.Test.YtikpnfnbmbaljaaKIntsP
namespace Go.Proofs.Ytikpnfnbmbaljaa
open Go.RowKit
set_option maxRecDepth 100000
theorem split_unique : ∀ {A A' B B' : List CE} {e e' : CE}, A ++ e :: B = A' ++ e' :: B' → NoTwo A e B → e'.n = e.n → A = A' ∧ e = e' ∧ B = B'
  | [], [], _, _, _, _, h, _, _ => by simp only [List.nil_append, List.cons.injEq] at h; exact ⟨rfl, h.1, h.2⟩
  | [], a' :: A', B, B', e, e', h, hn, he => by
    simp only [List.nil_append, List.cons_append, List.cons.injEq] at h
    exact absurd he (hn.2 e' (by rw [h.2]; simp))
  | a :: A, [], B, B', e, e', h, hn, he => by
    simp only [List.nil_append, List.cons_append, List.cons.injEq] at h
    exact absurd (by rw [← h.1] at he; exact he) (hn.1 a (by simp))
  | a :: A, a' :: A', B, B', e, e', h, hn, he => by
    simp only [List.cons_append, List.cons.injEq] at h
    obtain ⟨h1, h2, h3⟩ := split_unique h.2 ⟨fun x hx => hn.1 x (by simp [hx]), hn.2⟩ he
    exact ⟨by rw [h.1, h1], h2, h3⟩
theorem first_unique {p : CE → Bool} : ∀ {A A' B B' : List CE} {e e' : CE}, A ++ e :: B = A' ++ e' :: B' → (∀ x ∈ A, p x = false) → p e = true → (∀ x ∈ A', p x = false) → p e' = true → A = A' ∧ e = e' ∧ B = B'
  | [], [], _, _, _, _, h, _, _, _, _ => by simp only [List.nil_append, List.cons.injEq] at h; exact ⟨rfl, h.1, h.2⟩
  | [], a' :: A', B, B', e, e', h, _, h2, h3, _ => by
    simp only [List.nil_append, List.cons_append, List.cons.injEq] at h
    have := h3 a' (by simp)
    rw [← h.1, h2] at this; cases this
  | a :: A, [], B, B', e, e', h, h1, _, _, h4 => by
    simp only [List.nil_append, List.cons_append, List.cons.injEq] at h
    have := h1 a (by simp)
    rw [h.1, h4] at this; cases this
  | a :: A, a' :: A', B, B', e, e', h, h1, h2, h3, h4 => by
    simp only [List.cons_append, List.cons.injEq] at h
    obtain ⟨k1, k2, k3⟩ := first_unique h.2 (fun x hx => h1 x (by simp [hx])) h2 (fun x hx => h3 x (by simp [hx])) h4
    exact ⟨by rw [h.1, k1], k2, k3⟩
section
variable {w w' : World} {base : Nat} {σ : CSt}
theorem AskR.hit_inv {n q K' : Nat} {L' : List CE} (h : AskR σ n q L' K') {A B : List CE} {e : CE} (hL : σ.L = A ++ e :: B) (hn : NoTwo A e B) (he : e.n = n) : q = e.q ∧ L' = tch A e B ∧ K' = σ.K := by
  cases h with
  | hit hL' hn' hq' =>
    rw [hL] at hL'
    obtain ⟨rfl, rfl, rfl⟩ := split_unique hL' hn (by rw [hn', he])
    exact ⟨hq'.symm, rfl, rfl⟩
  | free hne => exact absurd he (hne e (by rw [hL]; simp))
  | evict hne => exact absurd he (hne e (by rw [hL]; simp))
theorem AskR.free_inv {n q K' : Nat} {L' : List CE} (h : AskR σ n q L' K') (hne : ∀ x ∈ σ.L, ¬ x.n = n) (hl : σ.L.length < σ.most) : L' = addE σ.L n q (lst σ n) ∧ K' = σ.K + 1 := by
  cases h with
  | hit hL' hn' hq' => exact absurd hn' (hne _ (by rw [hL']; simp))
  | free => exact ⟨rfl, rfl⟩
  | evict _ hl' => omega
theorem AskR.evict_inv {n q K' : Nat} {L' : List CE} (h : AskR σ n q L' K') {A B : List CE} {e : CE} (hne : ∀ x ∈ σ.L, ¬ x.n = n) (hl : σ.most ≤ σ.L.length) (hL : σ.L = A ++ e :: B) (hA : ∀ x ∈ A, goB σ x = false) (he : goB σ e = true) : L' = addE (A ++ B) n q (lst σ n) ∧ K' = σ.K + 1 := by
  cases h with
  | hit hL' hn' hq' => exact absurd hn' (hne _ (by rw [hL']; simp))
  | free _ hl' => omega
  | evict _ _ hL' hA' he' =>
    rw [hL] at hL'
    obtain ⟨rfl, rfl, rfl⟩ := first_unique hL' hA he hA' he'
    exact ⟨rfl, rfl⟩
/-- What a Read leaves, by the case. -/
theorem read_free {n : Nat} {r : Ending} (h : ReadP base σ n w r w') (hne : ∀ x ∈ σ.L, ¬ x.n = n) (hl : σ.L.length < σ.most) : ∃ v v' q, r = .returned (.tuple #[v, .int .i64 0]) ∧ Done base σ { σ with ov := v', L := σ.L ++ [⟨n, q, lst σ n, 0⟩], K := σ.K + 1 } w w' := by
  rcases h with ⟨v, v', P, e, K', h1, _, _, h4, h5, _⟩ | ⟨_, h2, _⟩
  · obtain ⟨h6, h7⟩ := h5.free_inv hne hl
    rw [h6, h7] at h4
    exact ⟨v, v', e.q, h1, h4⟩
  · have := h2.le; omega
theorem read_hit {n : Nat} {r : Ending} (h : ReadP base σ n w r w') {A B : List CE} {e : CE} (hL : σ.L = A ++ e :: B) (hn : NoTwo A e B) (he : e.n = n) : ∃ v v', r = .returned (.tuple #[v, .int .i64 0]) ∧ Done base σ { σ with ov := v', L := A ++ B ++ [e] } w w' := by
  rcases h with ⟨v, v', P, e', K', h1, _, _, h4, h5, _⟩ | ⟨_, h2, _⟩
  · obtain ⟨_, h6, h7⟩ := h5.hit_inv hL hn he
    rw [h6, h7] at h4
    exact ⟨v, v', h1, h4⟩
  · exact absurd he (h2.ne e (by rw [hL]; simp))
theorem read_evict {n : Nat} {r : Ending} (h : ReadP base σ n w r w') {A B : List CE} {e : CE} (hne : ∀ x ∈ σ.L, ¬ x.n = n) (hl : σ.most ≤ σ.L.length) (hL : σ.L = A ++ e :: B) (hA : ∀ x ∈ A, goB σ x = false) (he : goB σ e = true) : ∃ v v' q, r = .returned (.tuple #[v, .int .i64 0]) ∧ Done base σ { σ with ov := v', L := A ++ B ++ [⟨n, q, lst σ n, 0⟩], K := σ.K + 1 } w w' := by
  rcases h with ⟨v, v', P, e', K', h1, _, _, h4, h5, _⟩ | ⟨_, h2, _⟩
  · obtain ⟨h6, h7⟩ := h5.evict_inv hne hl hL hA he
    rw [h6, h7] at h4
    exact ⟨v, v', e'.q, h1, h4⟩
  · have := h2.no e (by rw [hL]; simp)
    rw [he] at this; cases this
theorem snoc_inj {P Q : List CE} {a b : CE} (h : P ++ [a] = Q ++ [b]) : P = Q ∧ a = b := by
  have := List.append_inj' h rfl
  exact ⟨this.1, by simpa using this.2⟩
theorem lay_hit {n : Nat} {r : Ending} {data : List UInt8} (h : LayP base σ n data w r w') {A B : List CE} {e : CE} (hL : σ.L = A ++ e :: B) (hn : NoTwo A e B) (he : e.n = n) : ∃ v', r = .returned (.int .i64 0) ∧ Done base σ { σ with ov := v', L := A ++ B ++ [{ e with d := data }] } w w' := by
  rcases h with ⟨v', P, e', K', h1, h4, h5, _⟩ | ⟨_, h2, _⟩
  · obtain ⟨_, h6, h7⟩ := h5.hit_inv hL hn he
    obtain ⟨rfl, rfl⟩ := snoc_inj h6
    rw [h7] at h4
    exact ⟨v', h1, h4⟩
  · exact absurd he (h2.ne e (by rw [hL]; simp))
theorem write_hit {n : Nat} {r : Ending} {im : CE → List UInt8} (h : WriteP base σ n im w r w') {A B : List CE} {e : CE} (hL : σ.L = A ++ e :: B) (hn : NoTwo A e B) (he : e.n = n) : ∃ v' vs', r = .returned (.int .i64 0) ∧ Done base σ { σ with ov := v', L := A ++ B ++ [e], ws := upd σ.ws n (σ.ws n ++ [im e]), vs := vs' } w w' := by
  rcases h with ⟨v', P, e', K', vs', h1, h4, h5, _⟩ | ⟨_, h2, _⟩
  · obtain ⟨_, h6, h7⟩ := h5.hit_inv hL hn he
    obtain ⟨rfl, rfl⟩ := snoc_inj h6
    rw [h7] at h4
    exact ⟨v', vs', h1, h4⟩
  · exact absurd he (h2.ne e (by rw [hL]; simp))
end
def fx : List UInt8 := fillL [120]
theorem fx_ne : (fx == zer) = false := by decide +kernel
theorem fx_len : fx.length = 256 := fillL_length _
theorem fx_0 : fx[0]? = some 120 := by decide +kernel
theorem one_srcC (w : World) (x : UInt8) (f : Nat × Nat) : Src (w.alloc (.cells #[Value.int .u8 (x.toNat : Int)] 5 f)) (some ⟨w.heap.size, 0, none⟩) [x] :=
  src_row (l := [x]) (heap_alloc_new _ _)
/-- The cache of known, step by step. -/
abbrev kS (p mb K : Nat) (ov : Value) (L : List CE) (dp dq : Nat) (ws : Nat → List (List UInt8)) (vs : Nat → Value) : CSt := ⟨p, mb, K, ov, 2, L, dp, 4, dq, false, 0, fun _ => zer, ws, vs⟩
set_option maxHeartbeats 8000000 in
theorem cknown_any (w : World) : Calls Try.prog 9 #[] w fun e w' => e = .returned (.bool true) ∧ Below w.heap.size w w' := by
  have NW := new_any w 4 (by omega) (by omega)
  rw [show ((4 : Nat) : Int) = 4 from rfl] at NW
  go_enter Try.func9, Try.ntmps9
  go_wp2_with fail
  refine NW.mono ?_
  clear NW
  rintro r w1 ⟨dp, dq, rfl, hD1, hb1⟩
  have CN := cnew_any hD1 2 (by omega) (by omega)
  rw [show ((2 : Nat) : Int) = 2 from rfl] at CN
  have HB1 : Hid (Below w.heap.size w w1) := hb1
  clear hD1 hb1
  go_wp2_with fail
  refine CN.mono ?_
  clear CN
  rintro r w2 ⟨p, mb, rfl, hC2, _, _, hb2⟩
  have HC2 : Hid (CS w2 w.heap.size (kS p mb 0 (.slice none 0 0) [] dp dq (fun _ => []) (fun _ => .slice none 0 0)) []) := hC2
  have HB2 : Hid (Below w.heap.size w w2) := HB1.out.trans (hb2.mono HB1.out.size)
  clear hC2 hb2 HB1
  have R1 := cread_any HC2.out 1 (by show 1 < 4; omega) (by show 0 ≤ 1000000; omega) (by show 0 ≤ 2; omega)
  rw [show ((1 : Nat) : Int) = 1 from rfl] at R1
  go_wp2_with fail
  refine R1.mono ?_
  clear R1
  intro r w3 hr
  obtain ⟨v3, o3, q1, rfl, hD3⟩ := read_free hr (fun x hx => by cases hx) (by show 0 < 2; omega)
  have HC3 : Hid (CS w3 w.heap.size (kS p mb 1 o3 [⟨1, q1, zer, 0⟩] dp dq (fun _ => []) (fun _ => .slice none 0 0)) [1]) := hD3.cs
  have HB3 : Hid (Below w.heap.size w w3) := HB2.out.trans hD3.be
  clear hr hD3 HC2 HB2
  have R2 := cread_any HC3.out 2 (by show 2 < 4; omega) (by show 1 ≤ 1000000; omega) (by show 1 ≤ 2; omega)
  rw [show ((2 : Nat) : Int) = 2 from rfl] at R2
  go_wp2_with fail
  refine R2.mono ?_
  clear R2
  intro r w4 hr
  obtain ⟨v4, o4, q2, rfl, hD4⟩ := read_free hr (fun x hx => by simp only [List.mem_singleton] at hx; subst hx; show ¬ (1 : Nat) = 2; omega) (by show 1 < 2; omega)
  have HC4 : Hid (CS w4 w.heap.size (kS p mb 2 o4 [⟨1, q1, zer, 0⟩, ⟨2, q2, zer, 0⟩] dp dq (fun _ => []) (fun _ => .slice none 0 0)) [1, 2]) := hD4.cs
  have HB4 : Hid (Below w.heap.size w w4) := HB3.out.trans hD4.be
  clear hr hD4 HC3 HB3
  have R3 := cread_any HC4.out 1 (by show 1 < 4; omega) (by show 2 ≤ 1000000; omega) (by show 2 ≤ 2; omega)
  rw [show ((1 : Nat) : Int) = 1 from rfl] at R3
  go_wp2_with fail
  refine R3.mono ?_
  clear R3
  intro r w5 hr
  obtain ⟨v5, o5, rfl, hD5⟩ := read_hit hr (A := []) (B := [⟨2, q2, zer, 0⟩]) (e := ⟨1, q1, zer, 0⟩) rfl ⟨fun x hx => (by cases hx), fun x hx => by simp only [List.mem_singleton] at hx; subst hx; show ¬ (2 : Nat) = 1; omega⟩ rfl
  have HC5 : Hid (CS w5 w.heap.size (kS p mb 2 o5 [⟨2, q2, zer, 0⟩, ⟨1, q1, zer, 0⟩] dp dq (fun _ => []) (fun _ => .slice none 0 0)) [2, 1]) := hD5.cs
  have HB5 : Hid (Below w.heap.size w w5) := HB4.out.trans hD5.be
  clear hr hD5 HC4 HB4
  have R4 := cread_any HC5.out 3 (by show 3 < 4; omega) (by show 2 ≤ 1000000; omega) (by show 2 ≤ 2; omega)
  rw [show ((3 : Nat) : Int) = 3 from rfl] at R4
  go_wp2_with fail
  refine R4.mono ?_
  clear R4
  intro r w6 hr
  obtain ⟨v6, o6, q3, rfl, hD6⟩ := read_evict hr (A := []) (B := [⟨1, q1, zer, 0⟩]) (e := ⟨2, q2, zer, 0⟩) (fun x hx => by
    simp only [List.mem_cons, List.not_mem_nil, or_false] at hx
    rcases hx with rfl | rfl
    · show ¬ (2 : Nat) = 3; omega
    · show ¬ (1 : Nat) = 3; omega) (by show 2 ≤ 2; omega) rfl (fun x hx => by cases hx) (by show ((0 : Nat) == 0 && !(!(zer == zer))) = true; simp)
  have HC6 : Hid (CS w6 w.heap.size (kS p mb 3 o6 [⟨1, q1, zer, 0⟩, ⟨3, q3, zer, 0⟩] dp dq (fun _ => []) (fun _ => .slice none 0 0)) [1, 3]) := hD6.cs
  have HB6 : Hid (Below w.heap.size w w6) := HB5.out.trans hD6.be
  clear hr hD6 HC5 HB5
  have CV := conv_const w6 #[Value.int .u8 120] 1 1
  have hbA : Below w6.heap.size w6 (w6.alloc (.cells #[Value.int .u8 120] 5 (1, 2))) := (Below.refl _ _).alloc (Nat.le_refl _) _
  have FL := fill_any (w6.alloc (.cells #[Value.int .u8 120] 5 (1, 2))) (some ⟨w6.heap.size, 0, none⟩) 1 [120] (one_srcC w6 120 (1, 2)) (by simp)
  rw [show ([120] : List UInt8).length = 1 from rfl] at FL
  have HCA : Hid (CS (w6.alloc (.cells #[Value.int .u8 120] 5 (1, 2))) w.heap.size (kS p mb 3 o6 [⟨1, q1, zer, 0⟩, ⟨3, q3, zer, 0⟩] dp dq (fun _ => []) (fun _ => .slice none 0 0)) [1, 3]) := HC6.out.up hbA
  have HBA : Hid (Below w.heap.size w (w6.alloc (.cells #[Value.int .u8 120] 5 (1, 2)))) := HB6.out.trans (hbA.mono HB6.out.size)
  clear hbA HC6 HB6
  go_wp2_with fail
  refine FL.mono ?_
  clear FL CV
  rintro r w7 ⟨gf, rfl, hgf, hgfl, hb7⟩
  have HC7 : Hid (CS w7 w.heap.size (kS p mb 3 o6 [⟨1, q1, zer, 0⟩, ⟨3, q3, zer, 0⟩] dp dq (fun _ => []) (fun _ => .slice none 0 0)) [1, 3]) := HCA.out.up hb7
  have HB7 : Hid (Below w.heap.size w w7) := HBA.out.trans (hb7.mono HBA.out.size)
  have hgS : ¬ Sk (kS p mb 3 o6 [⟨1, q1, zer, 0⟩, ⟨3, q3, zer, 0⟩] dp dq (fun _ => []) (fun _ => .slice none 0 0)) gf := fun c => by have := HCA.out.sk_size c; omega
  have LY := clay_any HC7.out 1 (by show 1 < 4; omega) (by show 3 ≤ 1000000; omega) (by show 2 ≤ 2; omega) fx gf 0 256 hgf.src fx_len hgS
  rw [show ((1 : Nat) : Int) = 1 from rfl] at LY
  clear hgf hgfl hb7 hgS HCA HBA
  go_wp2_with fail
  refine LY.mono ?_
  clear LY
  intro r w8 hr
  obtain ⟨o8, rfl, hD8⟩ := lay_hit hr (A := []) (B := [⟨3, q3, zer, 0⟩]) (e := ⟨1, q1, zer, 0⟩) rfl ⟨fun x hx => (by cases hx), fun x hx => by simp only [List.mem_singleton] at hx; subst hx; show ¬ (3 : Nat) = 1; omega⟩ rfl
  have HC8 : Hid (CS w8 w.heap.size (kS p mb 3 o8 [⟨3, q3, zer, 0⟩, ⟨1, q1, fx, 0⟩] dp dq (fun _ => []) (fun _ => .slice none 0 0)) [3, 1]) := hD8.cs
  have HB8 : Hid (Below w.heap.size w w8) := HB7.out.trans hD8.be
  clear hr hD8 HC7 HB7
  have DT := dirtyl_any HC8.out (by show 2 ≤ 12; omega)
  have HDL : Hid (nums (dl (kS p mb 3 o8 [⟨3, q3, zer, 0⟩, ⟨1, q1, fx, 0⟩] dp dq (fun _ => []) (fun _ => .slice none 0 0))) = [1]) := by
    have e1 : dirtyB (kS p mb 3 o8 [⟨3, q3, zer, 0⟩, ⟨1, q1, fx, 0⟩] dp dq (fun _ => []) (fun _ => .slice none 0 0)) ⟨3, q3, zer, 0⟩ = false := by show (!(zer == zer)) = false; simp
    have e2 : dirtyB (kS p mb 3 o8 [⟨3, q3, zer, 0⟩, ⟨1, q1, fx, 0⟩] dp dq (fun _ => []) (fun _ => .slice none 0 0)) ⟨1, q1, fx, 0⟩ = true := by show (!(fx == zer)) = true; rw [fx_ne]; rfl
    show _ = _
    simp [dl, e1, e2, nums]
  rw [HDL.out] at DT
  clear HDL
  go_wp2_with fail
  refine DT.mono ?_
  clear DT
  rintro r w9 ⟨vl, Y, rfl, hoY, _, hpY, hb9⟩
  obtain rfl : Y = [1] := List.perm_singleton.1 hpY
  obtain ⟨al, cl, rfl, hsl, _, _, _⟩ := hoY.form
  have HC9 : Hid (CS w9 w.heap.size (kS p mb 3 o8 [⟨3, q3, zer, 0⟩, ⟨1, q1, fx, 0⟩] dp dq (fun _ => []) (fun _ => .slice none 0 0)) [3, 1]) := HC8.out.up hb9
  have HB9 : Hid (Below w.heap.size w w9) := HB8.out.trans (hb9.mono HB8.out.size)
  have HSL : Hid (SrcI w9 al [1] ∧ ∀ k, (Value.slice al [(1 : Int)].length cl).ownBlock = some k → w8.heap.size ≤ k ∧ k < w9.heap.size) := ⟨hsl, fun k hk => hoY.lt k hk⟩
  have HOY : Hid (OwnI w9 w8.heap.size (.slice al 1 cl) [1]) := hoY
  have HSK : Hid (∀ k, Sk (kS p mb 3 o8 [⟨3, q3, zer, 0⟩, ⟨1, q1, fx, 0⟩] dp dq (fun _ => []) (fun _ => .slice none 0 0)) k → k < w8.heap.size) := fun k hk => HC8.out.sk_size hk
  rw [show ([1] : List Int).length = 1 from rfl]
  clear hpY hoY hsl hb9 HC8 HB8
  have WR := cwrite_own HC9.out 1 (by show 1 < 4; omega) (by show 3 ≤ 1000000; omega) (by show 2 ≤ 2; omega) rfl rfl (by show 0 ≤ 1000000; omega)
  rw [show ((1 : Nat) : Int) = 1 from rfl] at WR
  go_wp2_with fail
  refine WR.mono ?_
  clear WR
  intro r w10 hr
  obtain ⟨o10, vs', rfl, hD10⟩ := write_hit hr (A := [⟨3, q3, zer, 0⟩]) (B := []) (e := ⟨1, q1, fx, 0⟩) rfl ⟨fun x hx => by simp only [List.mem_singleton] at hx; subst hx; show ¬ (3 : Nat) = 1; omega, fun x hx => by cases hx⟩ rfl
  have HC10 : Hid (CS w10 w.heap.size (kS p mb 3 o10 [⟨3, q3, zer, 0⟩, ⟨1, q1, fx, 0⟩] dp dq (upd (fun _ => []) 1 [fx]) vs') [3, 1]) := hD10.cs
  have HB10 : Hid (Below w.heap.size w w10) := HB9.out.trans hD10.be
  have HS10 : Hid (SrcI w10 al [1]) := by
    rcases HSL.out.1 with h | ⟨b, off, rfl, hbl, hc⟩
    · cases h
    · have h0 : w8.heap.size ≤ b := (HSL.out.2 b rfl).1
      exact .inr ⟨b, off, rfl, by have := hD10.st.fr.size; omega, fun j hj => (fr_cell hD10.st.fr (a := ⟨b, off + j, none⟩) hbl (fun c => by have := HSK.out b c; omega)).trans (hc j hj)⟩
  clear hr hD10 HC9 HB9 HSL HSK HOY
  have RD := read_any HC10.out.disk 1 (by show 1 < 4; omega)
  rw [show ((1 : Nat) : Int) = 1 from rfl] at RD
  have HLF : Hid (lastOf zer (upd (fun _ => ([] : List (List UInt8))) 1 [fx] 1) = fx) := rfl
  go_wp2_with fail
  refine RD.mono ?_
  clear RD
  rintro r w11 ⟨g11, rfl, hg11, _, hb11⟩
  have HC11 : Hid (CS w11 w.heap.size (kS p mb 3 o10 [⟨3, q3, zer, 0⟩, ⟨1, q1, fx, 0⟩] dp dq (upd (fun _ => []) 1 [fx]) vs') [3, 1]) := HC10.out.up hb11
  have HB11 : Hid (Below w.heap.size w w11) := HB10.out.trans (hb11.mono HB10.out.size)
  have HS11 : Hid (SrcI w11 al [1]) := HS10.out.below hb11 (Nat.le_refl _)
  have HX11 : Hid (Blk w11 g11 90 fx) := by have := hg11; rw [HLF.out] at this; exact this
  clear hg11 hb11 HC10 HB10 HS10 HLF
  have HE := held_any HC11.out (by show (2 : Int) ≤ 4096; omega)
  go_wp2_with fail
  refine HE.mono ?_
  clear HE
  rintro r w12 ⟨vh, rfl, hoh, hb12⟩
  obtain ⟨ah, ch, rfl, hsh, _, _, _⟩ := hoh.form
  have HC12 : Hid (CS w12 w.heap.size (kS p mb 3 o10 [⟨3, q3, zer, 0⟩, ⟨1, q1, fx, 0⟩] dp dq (upd (fun _ => []) 1 [fx]) vs') [3, 1]) := HC11.out.up hb12
  have HB12 : Hid (Below w.heap.size w w12) := HB11.out.trans (hb12.mono HB11.out.size)
  have HS12 : Hid (SrcI w12 al [1]) := HS11.out.below hb12 (Nat.le_refl _)
  have HX12 : Hid (Blk w12 g11 90 fx) := HX11.out.below hb12 HX11.out.lt
  have hbC : Below w12.heap.size w12 (w12.alloc (.cells #[.int .i64 3, .int .i64 1] 3)) := (Below.refl _ _).alloc (Nat.le_refl _) _
  have I1 := ints_any ah (some ⟨w12.heap.size, 0, none⟩) [3, 1] [3, 1] ch 2 (w12.alloc (.cells #[.int .i64 3, .int .i64 1] 3)) (hsh.below hbC (Nat.le_refl _)) (SrcI.row (t := 3) (heap_alloc_new _ _)) (by simp) (by simp)
  have HBC : Hid _ := hbC
  rw [show nums ([⟨3, q3, zer, 0⟩, ⟨1, q1, fx, 0⟩] : List CE) = [3, 1] from rfl]
  rw [show ([3, 1] : List Int).length = 2 from rfl] at I1 ⊢
  clear hoh hsh hb12 hbC HC11 HB11 HS11 HX11
  go_wp2_with fail
  refine I1.mono ?_
  clear I1
  rintro r w13 ⟨rfl, hb13⟩
  have hb13' : Below w12.heap.size w12 w13 := HBC.out.trans (hb13.mono HBC.out.size)
  have HC13 : Hid (CS w13 w.heap.size (kS p mb 3 o10 [⟨3, q3, zer, 0⟩, ⟨1, q1, fx, 0⟩] dp dq (upd (fun _ => []) 1 [fx]) vs') [3, 1]) := HC12.out.up hb13'
  have HB13 : Hid (Below w.heap.size w w13) := HB12.out.trans (hb13'.mono HB12.out.size)
  have HX13 : Hid (Blk w13 g11 90 fx) := HX12.out.below hb13' HX12.out.lt
  have hS13 := HS12.out.below hb13' (Nat.le_refl _)
  have hbC : Below w13.heap.size w13 (w13.alloc (.cells #[.int .i64 1] 3)) := (Below.refl _ _).alloc (Nat.le_refl _) _
  have I2 := ints_any al (some ⟨w13.heap.size, 0, none⟩) [1] [1] cl 1 (w13.alloc (.cells #[.int .i64 1] 3)) (hS13.below hbC (Nat.le_refl _)) (SrcI.row (t := 3) (heap_alloc_new _ _)) (by simp) (by simp)
  rw [show ([1] : List Int).length = 1 from rfl] at I2
  have HBD : Hid _ := hbC
  clear hb13 hb13' hbC hS13 HC12 HB12 HS12 HX12 HBC
  go_wp2_with fail
  refine I2.mono ?_
  clear I2
  rintro r w14 ⟨rfl, hb14⟩
  have hb14' : Below w13.heap.size w13 w14 := HBD.out.trans (hb14.mono HBD.out.size)
  have HC14 : Hid (CS w14 w.heap.size (kS p mb 3 o10 [⟨3, q3, zer, 0⟩, ⟨1, q1, fx, 0⟩] dp dq (upd (fun _ => []) 1 [fx]) vs') [3, 1]) := HC13.out.up hb14'
  have HB14 : Hid (Below w.heap.size w w14) := HB13.out.trans (hb14'.mono HB13.out.size)
  have HX14 : Hid (Blk w14 g11 90 fx) := HX13.out.below hb14' HX13.out.lt
  have DT := dirtyl_any HC14.out (by show 2 ≤ 12; omega)
  have HDL : Hid (nums (dl (kS p mb 3 o10 [⟨3, q3, zer, 0⟩, ⟨1, q1, fx, 0⟩] dp dq (upd (fun _ => []) 1 [fx]) vs')) = []) := by
    have e1 : dirtyB (kS p mb 3 o10 [⟨3, q3, zer, 0⟩, ⟨1, q1, fx, 0⟩] dp dq (upd (fun _ => []) 1 [fx]) vs') ⟨3, q3, zer, 0⟩ = false := by show (!(zer == zer)) = false; simp
    have e2 : dirtyB (kS p mb 3 o10 [⟨3, q3, zer, 0⟩, ⟨1, q1, fx, 0⟩] dp dq (upd (fun _ => []) 1 [fx]) vs') ⟨1, q1, fx, 0⟩ = false := by show (!(fx == fx)) = false; simp
    show _ = _
    simp [dl, e1, e2, nums]
  rw [HDL.out] at DT
  clear hb14 hb14' HC13 HB13 HX13 HBD HDL
  go_wp2_with fail
  refine DT.mono ?_
  clear DT
  rintro r w15 ⟨vd, Y, rfl, hoY, _, hpY, hb15⟩
  obtain rfl : Y = [] := List.perm_nil.1 hpY
  obtain ⟨ad, cd, rfl, _, _, _, _⟩ := hoY.form
  have HB15 : Hid (Below w.heap.size w w15) := HB14.out.trans (hb15.mono HB14.out.size)
  have hX15 := HX14.out.below hb15 HX14.out.lt
  have c0 : w15.cell? ⟨g11, 0, none⟩ = some (.int .u8 120) := by
    rw [hX15.cell 0 (by rw [fx_len]; omega)]
    have := fx_0
    rw [List.getElem?_eq_getElem (by rw [fx_len]; omega)] at this
    rw [Option.some.inj this]; rfl
  rw [show ([] : List Int).length = 0 from rfl]
  clear hoY hpY hb15 hX15 HC14 HB14 HX14
  go_wp2
  go_ret
  exact ⟨rfl, HB15.out⟩
end Go.Proofs.Ytikpnfnbmbaljaa
