/- The document's First. -/
import Derived.Test.YtfbbdpapnegmcaaAsks
namespace Go.Proofs.Ytfbbdpapnegmcaa
open Go.RowKit
/-- from, as the document's First takes it: held against n itself. -/
theorem rfrz (len : Nat) (n fr : Int) : ∃ q : Nat, q = (if fr < 0 ∨ n < fr then 0 else fr.toNat) ∧ ∀ f r, IsFirst f (bnd len n) q r → IsFirst f (bnd len n) (frz (bnd len n) fr) r := by
  refine ⟨_, rfl, fun f r h => ?_⟩
  have hb := bnd_of len n
  by_cases h1 : fr < 0 ∨ n < fr
  · rw [if_pos h1] at h
    have e : frz (bnd len n) fr = 0 := by
      by_cases h2 : 0 ≤ fr ∧ fr ≤ (bnd len n : Int)
      · have := frz_in h2; omega
      · exact frz_out (by omega)
    rw [e]; exact h
  · rw [if_neg h1] at h
    by_cases h2 : fr ≤ (bnd len n : Int)
    · have := frz_in (m := bnd len n) (fr := fr) ⟨by omega, h2⟩
      have e : frz (bnd len n) fr = fr.toNat := by omega
      rw [e]; exact h
    · rw [frz_out (by omega)]
      exact h.over (by omega)
/-- The first loop has seen all from q up to i. -/
structure Upto (f : Nat → Bool) (q i : Nat) : Prop where
  up : ∀ j, q ≤ j → j < i → f j = true
set_option maxHeartbeats 2000000 in
theorem rfirst_core (sp : Option Addr) (l : List UInt8) (cap : Nat) (n fr : Int) (w : World) (hs : Src w sp l) (hn : l.length ≤ 140737488355328) (m q : Nat) (hm : m ≤ 8 * l.length)
    (BD : Calls Try.prog 58 #[.slice sp l.length cap, .int .i64 n] w fun e w' => e = .returned (.int .i64 (m : Int)) ∧ w' = w)
    (hq : (fr < 0 ∧ q = 0) ∨ (0 ≤ fr ∧ n < fr ∧ q = 0) ∨ (0 ≤ fr ∧ fr ≤ n ∧ fr = q)) (hfr : fr ≤ 9223372036854775807) :
    Calls Try.prog 49 #[.slice sp l.length cap, .int .i64 n, .int .i64 fr] w fun e w' => (∃ r, e = .returned (.int .i64 r) ∧ IsFirst (gb l) m q r) ∧ w' = w := by
  rcases hq with ⟨h, rfl⟩ | ⟨h0, h, rfl⟩ | ⟨h0, h, rfl⟩
  · skip
    go_enter Try.func49, Try.ntmps49
    go_wp2_with fail
    refine BD.mono ?_
    rintro e w' ⟨rfl, rfl⟩
    clear BD
    go_wp2_with fail
    go_loop [8] (fun i => ∃ k : Nat, 0 ≤ k ∧ (k ≤ m ∨ k = 0) ∧ i = .int .i64 k ∧ Upto (gb l) 0 k) (fun i => m - (intOf i).toNat)
    case atStart => exact ⟨0, Nat.le_refl _, .inr rfl, rfl, ⟨fun j a b => by omega⟩⟩
    case round =>
      obtain ⟨k, hqk, hk, rfl, hup⟩ := hrel
      by_cases hlt : (k : Int) < m
      · have GT := rget_yes sp l cap k w' hs (by omega) hn
        obtain ⟨b, HB⟩ : ∃ b, Hid (gb l k = b) := ⟨_, rfl⟩
        rw [HB.out] at GT
        cases b
        · go_wp2_with fail
          refine GT.mono ?_
          rintro e w2 ⟨rfl, rfl⟩
          clear GT
          go_wp2
          go_ret
          exact ⟨⟨(k : Nat), rfl, .inr ⟨k, rfl, by omega, HB.out, .inl ⟨hqk, hup.up⟩⟩⟩, rfl⟩
        · go_wp2_with fail
          refine GT.mono ?_
          rintro e w2 ⟨rfl, rfl⟩
          clear GT
          go_wp2
          go_round
          case rel => exact ⟨k + 1, by omega, by omega, by go_num, ⟨fun j a c => by
            by_cases e : j = k
            · rw [e]; exact HB.out
            · exact hup.up j a (by omega)⟩⟩
          case measure => simp [intOf]; omega
      · have hge : m ≤ k := by omega
        clear hk
        go_wp2_with fail
        go_loop [9] (fun i => ∃ t : Nat, t ≤ m ∧ t ≤ 0 ∧ i = .int .i64 t ∧ Upto (gb l) 0 t) (fun i => m - (intOf i).toNat)
        case atStart => exact ⟨0, by omega, by omega, rfl, ⟨fun j a b => by omega⟩⟩
        case round =>
          obtain ⟨t, ht, htq, rfl, hut⟩ := hrel
          by_cases hlt2 : (t : Int) < m ∧ (t : Int) < (0 : Nat)
          · omega
          · have hall : IsFirst (gb l) m 0 (-1) := .inl ⟨rfl, fun j hj => by
              by_cases a : 0 ≤ j
              · exact hup.up j a (by omega)
              · exact hut.up j (by omega) (by omega)⟩
            by_cases hl1 : (t : Int) < m
            · have hl2 : ¬ (t : Int) < (0 : Nat) := fun x => hlt2 ⟨hl1, x⟩
              clear hlt2
              go_wp2
              go_ret
              exact ⟨⟨_, rfl, hall⟩, rfl⟩
            · clear hlt2
              go_wp2
              go_ret
              exact ⟨⟨_, rfl, hall⟩, rfl⟩
  · skip
    go_enter Try.func49, Try.ntmps49
    go_wp2_with fail
    refine BD.mono ?_
    rintro e w' ⟨rfl, rfl⟩
    clear BD
    go_wp2_with fail
    go_loop [8] (fun i => ∃ k : Nat, 0 ≤ k ∧ (k ≤ m ∨ k = 0) ∧ i = .int .i64 k ∧ Upto (gb l) 0 k) (fun i => m - (intOf i).toNat)
    case atStart => exact ⟨0, Nat.le_refl _, .inr rfl, rfl, ⟨fun j a b => by omega⟩⟩
    case round =>
      obtain ⟨k, hqk, hk, rfl, hup⟩ := hrel
      by_cases hlt : (k : Int) < m
      · have GT := rget_yes sp l cap k w' hs (by omega) hn
        obtain ⟨b, HB⟩ : ∃ b, Hid (gb l k = b) := ⟨_, rfl⟩
        rw [HB.out] at GT
        cases b
        · go_wp2_with fail
          refine GT.mono ?_
          rintro e w2 ⟨rfl, rfl⟩
          clear GT
          go_wp2
          go_ret
          exact ⟨⟨(k : Nat), rfl, .inr ⟨k, rfl, by omega, HB.out, .inl ⟨hqk, hup.up⟩⟩⟩, rfl⟩
        · go_wp2_with fail
          refine GT.mono ?_
          rintro e w2 ⟨rfl, rfl⟩
          clear GT
          go_wp2
          go_round
          case rel => exact ⟨k + 1, by omega, by omega, by go_num, ⟨fun j a c => by
            by_cases e : j = k
            · rw [e]; exact HB.out
            · exact hup.up j a (by omega)⟩⟩
          case measure => simp [intOf]; omega
      · have hge : m ≤ k := by omega
        clear hk
        go_wp2_with fail
        go_loop [9] (fun i => ∃ t : Nat, t ≤ m ∧ t ≤ 0 ∧ i = .int .i64 t ∧ Upto (gb l) 0 t) (fun i => m - (intOf i).toNat)
        case atStart => exact ⟨0, by omega, by omega, rfl, ⟨fun j a b => by omega⟩⟩
        case round =>
          obtain ⟨t, ht, htq, rfl, hut⟩ := hrel
          by_cases hlt2 : (t : Int) < m ∧ (t : Int) < (0 : Nat)
          · omega
          · have hall : IsFirst (gb l) m 0 (-1) := .inl ⟨rfl, fun j hj => by
              by_cases a : 0 ≤ j
              · exact hup.up j a (by omega)
              · exact hut.up j (by omega) (by omega)⟩
            by_cases hl1 : (t : Int) < m
            · have hl2 : ¬ (t : Int) < (0 : Nat) := fun x => hlt2 ⟨hl1, x⟩
              clear hlt2
              go_wp2
              go_ret
              exact ⟨⟨_, rfl, hall⟩, rfl⟩
            · clear hlt2
              go_wp2
              go_ret
              exact ⟨⟨_, rfl, hall⟩, rfl⟩
  · skip
    go_enter Try.func49, Try.ntmps49
    go_wp2_with fail
    refine BD.mono ?_
    rintro e w' ⟨rfl, rfl⟩
    clear BD
    go_wp2_with fail
    go_loop [8] (fun i => ∃ k : Nat, q ≤ k ∧ (k ≤ m ∨ k = q) ∧ i = .int .i64 k ∧ Upto (gb l) q k) (fun i => m - (intOf i).toNat)
    case atStart => exact ⟨q, Nat.le_refl _, .inr rfl, rfl, ⟨fun j a b => by omega⟩⟩
    case round =>
      obtain ⟨k, hqk, hk, rfl, hup⟩ := hrel
      by_cases hlt : (k : Int) < m
      · have GT := rget_yes sp l cap k w' hs (by omega) hn
        obtain ⟨b, HB⟩ : ∃ b, Hid (gb l k = b) := ⟨_, rfl⟩
        rw [HB.out] at GT
        cases b
        · go_wp2_with fail
          refine GT.mono ?_
          rintro e w2 ⟨rfl, rfl⟩
          clear GT
          go_wp2
          go_ret
          exact ⟨⟨(k : Nat), rfl, .inr ⟨k, rfl, by omega, HB.out, .inl ⟨hqk, hup.up⟩⟩⟩, rfl⟩
        · go_wp2_with fail
          refine GT.mono ?_
          rintro e w2 ⟨rfl, rfl⟩
          clear GT
          go_wp2
          go_round
          case rel => exact ⟨k + 1, by omega, by omega, by go_num, ⟨fun j a c => by
            by_cases e : j = k
            · rw [e]; exact HB.out
            · exact hup.up j a (by omega)⟩⟩
          case measure => simp [intOf]; omega
      · have hge : m ≤ k := by omega
        clear hk
        go_wp2_with fail
        go_loop [9] (fun i => ∃ t : Nat, t ≤ m ∧ t ≤ q ∧ i = .int .i64 t ∧ Upto (gb l) 0 t) (fun i => m - (intOf i).toNat)
        case atStart => exact ⟨0, by omega, by omega, rfl, ⟨fun j a b => by omega⟩⟩
        case round =>
          obtain ⟨t, ht, htq, rfl, hut⟩ := hrel
          by_cases hlt2 : (t : Int) < m ∧ (t : Int) < (q : Nat)
          · obtain ⟨hl1, hl2⟩ := hlt2
            have GT := rget_yes sp l cap t w' hs (by omega) hn
            obtain ⟨b, HB⟩ : ∃ b, Hid (gb l t = b) := ⟨_, rfl⟩
            rw [HB.out] at GT
            cases b
            · go_wp2_with fail
              refine GT.mono ?_
              rintro e w2 ⟨rfl, rfl⟩
              clear GT
              go_wp2
              go_ret
              exact ⟨⟨(t : Nat), rfl, .inr ⟨t, rfl, by omega, HB.out, .inr ⟨by omega, fun j a c => hup.up j a (by omega), fun j a => hut.up j (by omega) a⟩⟩⟩, rfl⟩
            · go_wp2_with fail
              refine GT.mono ?_
              rintro e w2 ⟨rfl, rfl⟩
              clear GT
              go_wp2
              go_round
              case rel => exact ⟨t + 1, by omega, by omega, by go_num, ⟨fun j a c => by
                by_cases e : j = t
                · rw [e]; exact HB.out
                · exact hut.up j a (by omega)⟩⟩
              case measure => simp [intOf]; omega
          · have hall : IsFirst (gb l) m q (-1) := .inl ⟨rfl, fun j hj => by
              by_cases a : q ≤ j
              · exact hup.up j a (by omega)
              · exact hut.up j (by omega) (by omega)⟩
            by_cases hl1 : (t : Int) < m
            · have hl2 : ¬ (t : Int) < (q : Nat) := fun x => hlt2 ⟨hl1, x⟩
              clear hlt2
              go_wp2
              go_ret
              exact ⟨⟨_, rfl, hall⟩, rfl⟩
            · clear hlt2
              go_wp2
              go_ret
              exact ⟨⟨_, rfl, hall⟩, rfl⟩
theorem rfirst_any (sp : Option Addr) (l : List UInt8) (cap : Nat) (n fr : Int) (w : World) (hs : Src w sp l) (hn : l.length ≤ 140737488355328) (hfr : fr ≤ 9223372036854775807) :
    Calls Try.prog 49 #[.slice sp l.length cap, .int .i64 n, .int .i64 fr] w fun e w' => (∃ r, e = .returned (.int .i64 r) ∧ IsFirst (gb l) (bnd l.length n) (frz (bnd l.length n) fr) r) ∧ w' = w := by
  obtain ⟨q, hq, hf⟩ := rfrz l.length n fr
  refine (rfirst_core sp l cap n fr w hs hn (bnd l.length n) q (bnd_le _ _) (most_any sp l.length cap n w hn) ?_ hfr).mono ?_
  · by_cases h : fr < 0 ∨ n < fr
    · rw [if_pos h] at hq; omega
    · rw [if_neg h] at hq; omega
  · rintro e w' ⟨⟨r, h1, h2⟩, h3⟩
    exact ⟨⟨r, h1, hf _ _ h2⟩, h3⟩
end Go.Proofs.Ytfbbdpapnegmcaa
