/- slices.IndexFunc, ContainsFunc, DeleteFunc at rows of numbers, with a method bound, or a closure. -/
import Derived.Test.YtaljaledeljllaaGreatPfn1
import Derived.Shelf.Abstract
namespace Go.Proofs.YtaljaledeljllaaGreat
open Go.RowKit
set_option maxRecDepth 100000
set_option maxHeartbeats 2000000 in
theorem indexFunc_m (G : Nat) (rv : Value) (eg : ∀ args w, (callFunc G args).run Tryz.prog w = .ok (.enter G args) w) (p : Int → Bool) (sp : Option Addr) (c : Nat) (l : List Int) (w : World) (hs : SrcI w sp l) (hl : (l.length : Int) ≤ 9223372036854775807)
    (hp : ∀ x ∈ l, ∀ m, Calls Tryz.prog G #[rv, .int .i64 x] (w.drewN m) fun e w' => e = .returned (.bool (p x)) ∧ ∃ q, w' = w.drewN q) :
    Calls Tryz.prog 115 #[.slice sp l.length c, .func (.func G) #[rv] #[]] w fun e w' => (∃ q, w' = w.drewN q) ∧ ((e = .returned (.int .i64 (-1)) ∧ ∀ x ∈ l, p x = false) ∨ ∃ i : Nat, i < l.length ∧ e = .returned (.int .i64 (i : Int)) ∧ p (l.getD i 0) = true ∧ ∀ j, j < i → p (l.getD j 0) = false) := by
  have HS : Hid (SrcI w sp l) := hs
  have HP : Hid (∀ x ∈ l, ∀ m, Calls Tryz.prog G #[rv, .int .i64 x] (w.drewN m) fun e w' => e = .returned (.bool (p x)) ∧ ∃ q, w' = w.drewN q) := hp
  obtain ⟨n, hn⟩ : ∃ n, n = l.length := ⟨_, rfl⟩
  have HN : Hid (n = l.length) := hn
  rw [← hn] at hl ⊢
  clear hs hp hn
  go_enter Tryz.func115, Tryz.ntmps115
  go_wp2
  go_loopg [5, 8] n (fun gg _ s8 wr => ∃ kk q : Nat, kk ≤ n ∧ n - kk ≤ gg ∧ s8 = .int .i64 kk ∧ wr = w.drewN q ∧ Hid (∀ j, j < kk → p (l.getD j 0) = false))
  case atStart => exact ⟨0, 0, Nat.zero_le _, by omega, rfl, rfl, fun j hj => absurd hj (Nat.not_lt_zero _)⟩
  case round =>
    obtain ⟨kk, q, hkk, hg, rfl, rfl, A⟩ := hrel
    by_cases hlt : kk < n
    · have hltz : (kk : Int) < (n : Int) := by omega
      rcases HS.out with h0 | ⟨b, off, rfl, hb, hc⟩
      · exact absurd hlt (by rw [HN.out, h0]; simp)
      have hcell : w.cell? ⟨b, off + kk, none⟩ = some (.int .i64 (l.getD kk 0)) := hc kk (by rw [← HN.out]; exact hlt)
      have hmem : l.getD kk 0 ∈ l := by
        have hk : kk < l.length := by rw [← HN.out]; exact hlt
        rw [List.getD_eq_getElem?_getD, List.getElem?_eq_getElem hk]; exact List.getElem_mem hk
      have hcall := HP.out _ hmem q
      clear hc hmem
      generalize hy : l.getD kk 0 = y at hcell hcall
      have B : Hid (l.getD kk 0 = y) := hy
      clear hy
      cases hq : p y with
      | true =>
        rw [hq] at hcall
        go_wp2_with (go_at_fn G; refine hcall.mono ?_; rintro e w' ⟨rfl, q', rfl⟩)
        go_ret
        exact ⟨⟨_, rfl⟩, .inr ⟨kk, hlt, rfl, by rw [B.out]; exact hq, A.out⟩⟩
      | false =>
        rw [hq] at hcall
        go_wp2_with (go_at_fn G; refine hcall.mono ?_; rintro e w' ⟨rfl, q', rfl⟩)
        go_roundg (n - (kk + 1))
        case measure => omega
        case rel =>
          refine ⟨kk + 1, _, by omega, by omega, by go_num, rfl, (show Hid _ from fun j hj => ?_)⟩
          by_cases e : j = kk
          · subst e
            rw [B.out]; exact hq
          · exact A.out j (by omega)
    · have hltz : ¬ (kk : Int) < (n : Int) := by omega
      have : kk = n := by omega
      subst this
      go_wp2
      go_ret
      refine ⟨⟨q, rfl⟩, .inl ⟨rfl, fun x hx => ?_⟩⟩
      obtain ⟨j, hj, rfl⟩ := List.getElem_of_mem hx
      have := A.out j (by rw [HN.out]; exact hj)
      rwa [List.getD_eq_getElem?_getD, List.getElem?_eq_getElem hj] at this
set_option maxHeartbeats 1000000 in
theorem containsFunc_m (G : Nat) (rv : Value) (eg : ∀ args w, (callFunc G args).run Tryz.prog w = .ok (.enter G args) w) (p : Int → Bool) (sp : Option Addr) (c : Nat) (l : List Int) (w : World) (hs : SrcI w sp l) (hl : (l.length : Int) ≤ 9223372036854775807)
    (hp : ∀ x ∈ l, ∀ m, Calls Tryz.prog G #[rv, .int .i64 x] (w.drewN m) fun e w' => e = .returned (.bool (p x)) ∧ ∃ q, w' = w.drewN q) :
    Calls Tryz.prog 78 #[.slice sp l.length c, .func (.func G) #[rv] #[]] w fun e w' => (∃ q, w' = w.drewN q) ∧ e = .returned (.bool (l.any p)) := by
  have IX := indexFunc_m G rv eg p sp c l w hs hl hp
  clear hp hs eg
  go_enter Tryz.func78, Tryz.ntmps78
  go_wp2_with fail
  refine IX.mono ?_
  rintro e w1 ⟨⟨q, rfl⟩, ⟨rfl, hno⟩ | ⟨i, hi, rfl, hyes, _⟩⟩
  · have ea : l.any p = false := by rw [List.any_eq_false]; exact fun x hx => by rw [hno x hx]; simp
    have HEA : Hid (l.any p = false) := ea
    clear hno IX ea
    go_wp2
    go_ret
    refine ⟨⟨q, rfl⟩, ?_⟩
    rw [HEA.out]
    rfl
  · have ea : l.any p = true := by
      rw [List.any_eq_true]
      exact ⟨l.getD i 0, by rw [List.getD_eq_getElem?_getD, List.getElem?_eq_getElem hi]; exact List.getElem_mem hi, hyes⟩
    have HEA : Hid (l.any p = true) := ea
    clear hyes IX ea
    go_wp2
    go_ret
    refine ⟨⟨q, rfl⟩, ?_⟩
    rw [HEA.out]
    rfl
set_option maxHeartbeats 2000000 in
theorem indexFunc_c (G : Nat) (u1 u2 : Value) (eg : ∀ args w, (callFunc G args).run Tryz.prog w = .ok (.enter G args) w) (p : Int → Bool) (sp : Option Addr) (c : Nat) (l : List Int) (w : World) (hs : SrcI w sp l) (hl : (l.length : Int) ≤ 9223372036854775807)
    (hp : ∀ x ∈ l, ∀ m, Calls Tryz.prog G #[.int .i64 x, u1, u2] (w.drewN m) fun e w' => e = .returned (.bool (p x)) ∧ ∃ q, w' = w.drewN q) :
    Calls Tryz.prog 115 #[.slice sp l.length c, .func (.func G) #[] #[u1, u2]] w fun e w' => (∃ q, w' = w.drewN q) ∧ ((e = .returned (.int .i64 (-1)) ∧ ∀ x ∈ l, p x = false) ∨ ∃ i : Nat, i < l.length ∧ e = .returned (.int .i64 (i : Int)) ∧ p (l.getD i 0) = true ∧ ∀ j, j < i → p (l.getD j 0) = false) := by
  have HS : Hid (SrcI w sp l) := hs
  have HP : Hid (∀ x ∈ l, ∀ m, Calls Tryz.prog G #[.int .i64 x, u1, u2] (w.drewN m) fun e w' => e = .returned (.bool (p x)) ∧ ∃ q, w' = w.drewN q) := hp
  obtain ⟨n, hn⟩ : ∃ n, n = l.length := ⟨_, rfl⟩
  have HN : Hid (n = l.length) := hn
  rw [← hn] at hl ⊢
  clear hs hp hn
  go_enter Tryz.func115, Tryz.ntmps115
  go_wp2
  go_loopg [5, 8] n (fun gg _ s8 wr => ∃ kk q : Nat, kk ≤ n ∧ n - kk ≤ gg ∧ s8 = .int .i64 kk ∧ wr = w.drewN q ∧ Hid (∀ j, j < kk → p (l.getD j 0) = false))
  case atStart => exact ⟨0, 0, Nat.zero_le _, by omega, rfl, rfl, fun j hj => absurd hj (Nat.not_lt_zero _)⟩
  case round =>
    obtain ⟨kk, q, hkk, hg, rfl, rfl, A⟩ := hrel
    by_cases hlt : kk < n
    · have hltz : (kk : Int) < (n : Int) := by omega
      rcases HS.out with h0 | ⟨b, off, rfl, hb, hc⟩
      · exact absurd hlt (by rw [HN.out, h0]; simp)
      have hcell : w.cell? ⟨b, off + kk, none⟩ = some (.int .i64 (l.getD kk 0)) := hc kk (by rw [← HN.out]; exact hlt)
      have hmem : l.getD kk 0 ∈ l := by
        have hk : kk < l.length := by rw [← HN.out]; exact hlt
        rw [List.getD_eq_getElem?_getD, List.getElem?_eq_getElem hk]; exact List.getElem_mem hk
      have hcall := HP.out _ hmem q
      clear hc hmem
      generalize hy : l.getD kk 0 = y at hcell hcall
      have B : Hid (l.getD kk 0 = y) := hy
      clear hy
      cases hq : p y with
      | true =>
        rw [hq] at hcall
        go_wp2_with (go_at_fn G; refine hcall.mono ?_; rintro e w' ⟨rfl, q', rfl⟩)
        go_ret
        exact ⟨⟨_, rfl⟩, .inr ⟨kk, hlt, rfl, by rw [B.out]; exact hq, A.out⟩⟩
      | false =>
        rw [hq] at hcall
        go_wp2_with (go_at_fn G; refine hcall.mono ?_; rintro e w' ⟨rfl, q', rfl⟩)
        go_roundg (n - (kk + 1))
        case measure => omega
        case rel =>
          refine ⟨kk + 1, _, by omega, by omega, by go_num, rfl, (show Hid _ from fun j hj => ?_)⟩
          by_cases e : j = kk
          · subst e
            rw [B.out]; exact hq
          · exact A.out j (by omega)
    · have hltz : ¬ (kk : Int) < (n : Int) := by omega
      have : kk = n := by omega
      subst this
      go_wp2
      go_ret
      refine ⟨⟨q, rfl⟩, .inl ⟨rfl, fun x hx => ?_⟩⟩
      obtain ⟨j, hj, rfl⟩ := List.getElem_of_mem hx
      have := A.out j (by rw [HN.out]; exact hj)
      rwa [List.getD_eq_getElem?_getD, List.getElem?_eq_getElem hj] at this
set_option maxHeartbeats 1000000 in
theorem containsFunc_c (G : Nat) (u1 u2 : Value) (eg : ∀ args w, (callFunc G args).run Tryz.prog w = .ok (.enter G args) w) (p : Int → Bool) (sp : Option Addr) (c : Nat) (l : List Int) (w : World) (hs : SrcI w sp l) (hl : (l.length : Int) ≤ 9223372036854775807)
    (hp : ∀ x ∈ l, ∀ m, Calls Tryz.prog G #[.int .i64 x, u1, u2] (w.drewN m) fun e w' => e = .returned (.bool (p x)) ∧ ∃ q, w' = w.drewN q) :
    Calls Tryz.prog 78 #[.slice sp l.length c, .func (.func G) #[] #[u1, u2]] w fun e w' => (∃ q, w' = w.drewN q) ∧ e = .returned (.bool (l.any p)) := by
  have IX := indexFunc_c G u1 u2 eg p sp c l w hs hl hp
  clear hp hs eg
  go_enter Tryz.func78, Tryz.ntmps78
  go_wp2_with fail
  refine IX.mono ?_
  rintro e w1 ⟨⟨q, rfl⟩, ⟨rfl, hno⟩ | ⟨i, hi, rfl, hyes, _⟩⟩
  · have ea : l.any p = false := by rw [List.any_eq_false]; exact fun x hx => by rw [hno x hx]; simp
    have HEA : Hid (l.any p = false) := ea
    clear hno IX ea
    go_wp2
    go_ret
    refine ⟨⟨q, rfl⟩, ?_⟩
    rw [HEA.out]
    rfl
  · have ea : l.any p = true := by
      rw [List.any_eq_true]
      exact ⟨l.getD i 0, by rw [List.getD_eq_getElem?_getD, List.getElem?_eq_getElem hi]; exact List.getElem_mem hi, hyes⟩
    have HEA : Hid (l.any p = true) := ea
    clear hyes IX ea
    go_wp2
    go_ret
    refine ⟨⟨q, rfl⟩, ?_⟩
    rw [HEA.out]
    rfl
end Go.Proofs.YtaljaledeljllaaGreat
