/- leveeref08.Room, leveeref08.Find. -/
import Derived.Test.YtabmogeicpphoaaFind
namespace Go.Proofs.Ytabmogeicpphoaa
open Go.RowKit
theorem read_part {l : List UInt8} (hl : l.length = 256) {k : Nat} (h : k < 8) : ereadV l (k : Int) = egetV (part8 l ⟨k, h⟩) ∧ ereadE l (k : Int) = egetE (part8 l ⟨k, h⟩) := by
  have h0 : dstE l.length (k : Int) = 0 := by rw [hl]; exact (dst_ok h).2
  have hp : part32 l (k : Int) = part8 l ⟨k, h⟩ := by unfold part32 part8; rw [Int.toNat_natCast]
  unfold ereadV ereadE
  rw [if_pos h0, if_pos h0, hp]
  exact ⟨rfl, rfl⟩
theorem no_more {p : Fin 8 → Bool} {k : Nat} (h : k < 8) (hn : ∀ x ∈ come k, p x = false) (hp : p ⟨k, h⟩ = false) : ∀ x ∈ come (k + 1), p x = false := by
  intro x hx
  rw [come_succ h] at hx
  rcases List.mem_append.1 hx with hx | hx
  · exact hn x hx
  · rw [List.mem_singleton.1 hx]; exact hp
set_option maxHeartbeats 4000000 in
theorem rroom_any (sp : Option Addr) (cap : Nat) (l : List UInt8) (w : World) (ha : Arg w sp cap l) :
    Calls Try.prog 45 #[.slice sp l.length cap] w fun e w' => e = .returned (.int .i64 (roomL l)) ∧ w' = w := by
  by_cases hl : l.length = 256
  · obtain ⟨hsp, hcap, hm⟩ := ha.whole hl
    have HA := fun x => ha.part8 hl x
    have HR : Hid (roomL l = firstOf (roomP l)) := by unfold roomL Hid; rw [if_pos hl]
    rw [hl, hsp]
    clear hsp hl ha
    generalize (bOf sp).1 = b at *
    generalize (bOf sp).2 = off at *
    go_enter Try.func45, Try.ntmps45
    go_wp2
    go_loop [3] (fun t => ∃ k : Nat, k ≤ 8 ∧ t = .int .i64 k ∧ Hid (∀ x ∈ come k, roomP l x = false)) (fun t => 8 - (intOf t).toNat)
    case atStart => exact ⟨0, by omega, rfl, fun x hx => by simp [come] at hx⟩
    case round =>
      obtain ⟨k, hk, rfl, HN⟩ := hrel
      by_cases hlt : (k : Int) < 8
      · have hk8 : k < 8 := by omega
        obtain ⟨hA, hn⟩ := HA ⟨k, hk8⟩
        have HZ := rzero_any _ (part8 l ⟨k, hk8⟩) (cap - 32 * k) w hA.src (by omega)
        rw [hn] at HZ
        have HP : Hid (roomP l ⟨k, hk8⟩ = zeroL (part8 l ⟨k, hk8⟩)) := rfl
        have hsl := slice_sl b off 256 cap (32 * k) 32 (32 * (k : Int)) (32 * (k : Int) + 32) (by omega) (by omega) (by omega) (by omega)
        have HAA : Hid _ := HA
        clear HA hA hn
        cases hz : zeroL (part8 l ⟨k, hk8⟩)
        · rw [hz] at HZ HP
          go_wp2_with fail
          refine HZ.mono ?_
          rintro e w1 ⟨rfl, hw1⟩
          rw [hw1]
          clear hw1 w1 HZ
          go_wp2
          go_round
          case rel => exact ⟨k + 1, by omega, by go_num, no_more hk8 HN.out HP.out⟩
          case measure => simp [intOf]; omega
        · rw [hz] at HZ HP
          go_wp2_with fail
          refine HZ.mono ?_
          rintro e w1 ⟨rfl, hw1⟩
          rw [hw1]
          clear hw1 w1 HZ
          go_wp2
          go_ret
          exact ⟨by rw [HR.out, first_at hk8 HN.out HP.out]; rfl, rfl⟩
      · obtain rfl : k = 8 := by omega
        clear HA
        go_wp2
        go_ret
        exact ⟨by rw [HR.out, first_no HN.out]; rfl, rfl⟩
  · have HR : Hid (roomL l = -1) := by unfold roomL Hid; rw [if_neg hl]
    have hl2 : ((l.length : Int) == 256) = false := by simp; omega
    have hl3 : ¬ (l.length : Int) = 256 := by omega
    clear ha hl
    go_enter Try.func45, Try.ntmps45
    go_wp2
    go_loop [3] (fun t => t = .int .i64 0) (fun _ => 0)
    case atStart => rfl
    case round =>
      subst hrel
      go_wp2
      go_ret
      exact ⟨by rw [HR.out]; rfl, rfl⟩
set_option maxRecDepth 100000 in
set_option maxHeartbeats 4000000 in
theorem rfind_any (sp : Option Addr) (cap : Nat) (l nm : List UInt8) (w : World) (ha : Arg w sp cap l) :
    Calls Try.prog 43 #[.slice sp l.length cap, .string (str nm)] w fun e w' => e = .returned (.int .i64 (findL l nm)) ∧ Below w.heap.size w w' := by
  have hz := zeroE
  by_cases hl : l.length = 256
  · have HR : Hid (findL l nm = firstOf (findP l nm)) := by unfold findL Hid; rw [if_pos hl]
    have HRD : Hid (∀ (k : Nat) (h : k < 8) W, Below w.heap.size w W → Calls Try.prog 38 #[.slice sp 256 cap, .int .i64 (k : Int)] W fun e w' => e = .returned (.tuple #[.agg (eA (egetV (part8 l ⟨k, h⟩))), .int .i64 (egetE (part8 l ⟨k, h⟩))]) ∧ Below W.heap.size W w') := fun k h W hW => by
      have := rdreadT_any sp cap l (k : Int) W (ha.below hW (Nat.le_refl _))
      rw [(read_part hl h).1, (read_part hl h).2, hl] at this
      exact this
    rw [hl]
    clear hl ha
    go_enter Try.func43, Try.ntmps43
    go_wp2
    go_loopw [5] (fun t wr => ∃ k : Nat, k ≤ 8 ∧ t = .int .i64 k ∧ Hid (∀ x ∈ come k, findP l nm x = false) ∧ Hid (Below w.heap.size w wr)) (fun t _ => 8 - (intOf t).toNat)
    case atStart => exact ⟨0, by omega, rfl, fun x hx => by simp [come] at hx, Below.refl _ _⟩
    case round =>
      obtain ⟨k, hk, rfl, HN, HB⟩ := hrel
      by_cases hlt : (k : Int) < 8
      · have hk8 : k < 8 := by omega
        have RD := HRD.out k hk8 wr HB.out
        have HP : Hid (findP l nm ⟨k, hk8⟩ = ((egetE (part8 l ⟨k, hk8⟩) == 0 && (egetV (part8 l ⟨k, hk8⟩)).sl != 0) && ((egetV (part8 l ⟨k, hk8⟩)).nm == nm))) := rfl
        have HNX : Hid (findP l nm ⟨k, hk8⟩ = false → ∀ x ∈ come (k + 1), findP l nm x = false) := fun h => no_more hk8 HN.out h
        have HAT : Hid (findP l nm ⟨k, hk8⟩ = true → findL l nm = (k : Int)) := fun h => by rw [HR.out]; exact first_at hk8 HN.out h
        generalize egetE (part8 l ⟨k, hk8⟩) = E at *
        generalize egetV (part8 l ⟨k, hk8⟩) = V at *
        go_upto_region 4 with fail
        go_wp2_with fail
        refine RD.mono ?_
        rintro e w1 ⟨rfl, h1⟩
        have HB1 : Hid (Below w.heap.size w w1) := HB.out.trans (h1.mono HB.out.size)
        clear RD h1 HB
        have HZ : Hid (EntAt (w1.alloc (.cells (eA zent) 48)) w1.heap.size zent) := ent_new w1 zent
        have HZB : Hid (Below w1.heap.size w1 (w1.alloc (.cells (eA zent) 48))) := (Below.refl _ _).alloc (Nat.le_refl _) _
        go_upto_region 5 with (first | ((with_reducible show wpList _ _ _ ({ dst := _, op := Op.store 48 _ _, type := _, pos := _, after := _, guard := _ } :: _) _ _); refine wpList_store_ent rfl _ _ rfl (HZ.out) rfl rfl ?_; intro w2 H2 b2 z2))
        have HB2 : Hid (Below w.heap.size w w2) := HB1.out.trans ((HZB.out.trans b2.bel).mono HB1.out.size)
        have c0 := H2.c0
        have c2 := H2.c2
        clear HB1 HZ HZB b2 z2 H2
        rw [← str_beqD] at HP
        cases hE : (E == 0)
        · have hE' : ¬ E = 0 := by simpa using hE
          have hp : findP l nm ⟨k, hk8⟩ = false := by rw [HP.out, hE]; rfl
          have HNX2 : Hid _ := HNX.out hp
          clear HP HNX HAT hp
          go_wp2
          go_roundw
          case rel => exact ⟨k + 1, by omega, by go_num, HNX2, HB2⟩
          case measure => simp [intOf]; omega
        · obtain rfl : E = 0 := by simpa using hE
          cases hS : (V.sl == 0)
          · have hS' : ¬ V.sl = 0 := by simpa using hS
            cases hM : ((str V.nm).toList == (str nm).toList)
            · have hp : findP l nm ⟨k, hk8⟩ = false := by rw [HP.out, hM]; simp
              have HNX2 : Hid _ := HNX.out hp
              clear HP HNX HAT hp hE
              go_wp2
              go_roundw
              case rel => exact ⟨k + 1, by omega, by go_num, HNX2, HB2⟩
              case measure => simp [intOf]; omega
            · have hp : findP l nm ⟨k, hk8⟩ = true := by rw [HP.out, hM]; simp [hS']
              have HA2 : Hid _ := HAT.out hp
              clear HP HNX HAT hp hE
              go_wp2
              go_ret
              exact ⟨by rw [HA2.out]; rfl, HB2.out⟩
          · have hS' : V.sl = 0 := by simpa using hS
            have hp : findP l nm ⟨k, hk8⟩ = false := by rw [HP.out, hS']; simp
            have HNX2 : Hid _ := HNX.out hp
            rw [hS'] at c0
            clear HP HNX HAT hp hE
            go_wp2
            go_roundw
            case rel => exact ⟨k + 1, by omega, by go_num, HNX2, HB2⟩
            case measure => simp [intOf]; omega
      · obtain rfl : k = 8 := by omega
        go_wp2
        go_ret
        exact ⟨by rw [HR.out, first_no HN.out]; rfl, HB.out⟩
  · have HR : Hid (findL l nm = -1) := by unfold findL Hid; rw [if_neg hl]
    have hl2 : ((l.length : Int) == 256) = false := by simp; omega
    have hl3 : ¬ (l.length : Int) = 256 := by omega
    clear ha hl
    go_enter Try.func43, Try.ntmps43
    go_wp2
    go_loopw [5] (fun t wr => t = .int .i64 0 ∧ wr = w) (fun _ _ => 0)
    case atStart => exact ⟨rfl, rfl⟩
    case round =>
      obtain ⟨rfl, hw⟩ := hrel
      rw [hw]
      go_wp2
      go_ret
      exact ⟨by rw [HR.out]; rfl, Below.refl _ _⟩
end Go.Proofs.Ytabmogeicpphoaa
