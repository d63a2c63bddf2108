/- leveeref06.Right. -/
import Derived.Test.YtfbbdpapnegmcaaGmath
import Derived.Test.YtfbbdpapnegmcaaRfirst
namespace Go.Proofs.Ytfbbdpapnegmcaa
open Go.RowKit
/-- A row of three cells. -/
def Row3 (w : World) (p : Nat) (t : TypeId) (x y z : Value) : Prop := w.heap[p]? = some (.cells #[x, y, z] t (0, 0))
section
variable {w w' : World} {p B : Nat} {t : TypeId} {x y z : Value}
theorem Row3.lt (h : Row3 w p t x y z) : p < w.heap.size := (Array.getElem?_eq_some_iff.1 h).1
theorem Row3.below (h : Row3 w p t x y z) (hb : Below B w w') (hp : p < B) : Row3 w' p t x y z := by unfold Row3; rw [hb.block p hp]; exact h
theorem Row3.up (h : Row3 w p t x y z) (hb : Below w.heap.size w w') : Row3 w' p t x y z := h.below hb h.lt
theorem Row3.drew (h : Row3 w p t x y z) : Row3 w.drew p t x y z := h
theorem Row3.c0 (h : Row3 w p t x y z) : w.cell? ⟨p, 0, none⟩ = some x := by rw [cell_of_row w p 0 _ _ _ h]; rfl
theorem Row3.c1 (h : Row3 w p t x y z) : w.cell? ⟨p, 1, none⟩ = some y := by rw [cell_of_row w p 1 _ _ _ h]; rfl
theorem Row3.c2 (h : Row3 w p t x y z) : w.cell? ⟨p, 2, none⟩ = some z := by rw [cell_of_row w p 2 _ _ _ h]; rfl
theorem Row3.fz (h : Row3 w p t x y z) (j : Nat) : w.frozen? ⟨p, j, none⟩ = false := frozen_of_row w p j _ _ h
end
/-- A shape and the document's header lie where a function has boxed them. -/
structure XW (w0 : World) (a i n : Int) (x y z : Value) (W : World) : Prop where
  geo : Lies w0 w0.heap.size a i n W
  head : Row3 W (w0.heap.size + 1) 31 x y z
theorem lies_up {w0 W W' : World} {a i n : Int} (h : Lies w0 w0.heap.size a i n W) (hb : Below W.heap.size W W') : Lies w0 w0.heap.size a i n W' :=
  ⟨(hb.cell (p := ⟨w0.heap.size, 0, none⟩) (block_lt_of_cell h.1)).trans h.1, (hb.cell (p := ⟨w0.heap.size, 1, none⟩) (block_lt_of_cell h.2.1)).trans h.2.1, (hb.cell (p := ⟨w0.heap.size, 2, none⟩) (block_lt_of_cell h.2.2.1)).trans h.2.2.1, h.2.2.2.trans (hb.mono h.2.2.2.size)⟩
theorem XW.up {w0 W W' : World} {a i n : Int} {x y z : Value} (h : XW w0 a i n x y z W) (hb : Below W.heap.size W W') : XW w0 a i n x y z W' := ⟨lies_up h.geo hb, h.head.up hb⟩
theorem XW.start (w : World) (a i n : Int) (x y z : Value) : XW w a i n x y z ((w.alloc (.cells #[.int .i64 a, .int .i64 i, .int .i64 n] 23)).alloc (.cells #[x, y, z] 31)) := by
  have h := heap_alloc_new (w.alloc (.cells #[.int .i64 a, .int .i64 i, .int .i64 n] 23)) (.cells #[x, y, z] 31)
  rw [show (w.alloc (.cells #[.int .i64 a, .int .i64 i, .int .i64 n] 23)).heap.size = w.heap.size + 1 by simp] at h
  exact ⟨⟨by simp, by simp, by simp, ((Below.refl _ _).alloc (Nat.le_refl _) _).alloc (by simp) _⟩, h⟩
/-- The document's test of the first m bits. -/
def okA (f : Nat → Bool) (lo hi : Nat) : Nat → Bool
  | 0 => true
  | k + 1 => okA f lo hi k && !((decide (k < lo) && !f k) || (decide (hi ≤ k) && f k))
theorem okA_iff (f : Nat → Bool) (lo hi : Nat) : ∀ m, okA f lo hi m = true ↔ ∀ j, j < m → (j < lo → f j = true) ∧ (hi ≤ j → f j = false)
  | 0 => by simp [okA]
  | k + 1 => by
    rw [okA, Bool.and_eq_true, okA_iff f lo hi k]
    constructor
    · rintro ⟨h1, h2⟩ j hj
      by_cases e : j = k
      · subst e
        cases hf : f j <;> simp [hf] at h2 ⊢ <;> omega
      · exact h1 j (by omega)
    · intro h
      refine ⟨fun j hj => h j (by omega), ?_⟩
      obtain ⟨h1, h2⟩ := h k (by omega)
      cases hf : f k
      · simp only [hf] at h1
        simp; exact Nat.le_of_not_lt (fun hk => absurd (h1 hk) (by simp))
      · simp only [hf] at h2
        simp; rcases Nat.lt_or_ge k hi with h | h
        · exact h
        · exact absurd (h2 h) (by simp)
set_option maxRecDepth 10000 in
theorem rgB_okA {a i n no : Int} {bl sl : List UInt8} (hb : bl.length = 16) (hs : sl.length = 8) : rgB a i n no bl sl = (numB a i n no && (okA (gb bl) (kbl i) a.toNat 128 && okA (gb sl) (ksl no) i.toNat 64)) := by
  cases hn : numB a i n no
  · unfold rgB; rw [hn]; rfl
  · obtain ⟨hok, hn0, hn1⟩ := numB_ok hn
    obtain ⟨ke, kl⟩ := kbl_of hok
    have k2 := ksl_le no
    rw [Bool.true_and, Bool.eq_iff_iff, rgB_iff hb hs, Bool.and_eq_true, okA_iff (gb bl) _ _ 128, okA_iff (gb sl) _ _ 64]
    constructor
    · rintro ⟨_, ⟨p1, p2⟩, p3, p4⟩
      exact ⟨fun j hj => ⟨p1 j, fun h => p2 j h hj⟩, fun j hj => ⟨p3 j, fun h => p4 j h hj⟩⟩
    · rintro ⟨p, q⟩
      exact ⟨⟨hok, hn0, hn1⟩, ⟨fun j hj => (p j (by omega)).1 hj, fun j h hj => (p j hj).2 h⟩, fun j hj => (q j (by omega)).1 hj, fun j h hj => (q j hj).2 h⟩
set_option maxRecDepth 100000 in
set_option maxHeartbeats 8000000 in
theorem rright6_any (a i n no : Int) (bl sl : List UInt8) (spb sps : Option Addr) (capb caps : Nat) (hb : bl.length = 16) (hs : sl.length = 8) (w : World) (hsb : Src w spb bl) (hss : Src w sps sl) :
    Calls Try.prog 17 #[.agg #[.int .i64 a, .int .i64 i, .int .i64 n], .agg #[.int .i64 no, .slice spb 16 capb, .slice sps 8 caps]] w fun e w' => e = .returned (.bool (rgB a i n no bl sl)) ∧ Below w.heap.size w w' := by
  have X0 := XW.start w a i n (.int .i64 no) (.slice spb 16 capb) (.slice sps 8 caps)
  have RR := rright_any a i n
  rw [rgB_okA hb hs]
  unfold numB
  cases hok : okB a i n
  · rw [hok] at RR
    go_enter Try.func17, Try.ntmps17
    go_wp2_with fail
    refine (RR _).mono ?_
    rintro e w1 ⟨rfl, h1⟩
    have HB := (X0.up h1).geo.2.2.2
    go_wp2
    go_ret
    exact ⟨rfl, HB⟩
  rw [hok] at RR
  by_cases hn0 : no < 0
  · have hd : decide (0 ≤ no) = false := by simp; omega
    rw [hd]
    clear hd
    go_enter Try.func17, Try.ntmps17
    go_wp2_with fail
    refine (RR _).mono ?_
    rintro e w1 ⟨rfl, h1⟩
    have X1 := X0.up h1
    have HB := X1.geo.2.2.2
    have q0 := X1.geo.1; have q1 := X1.geo.2.1; have q2 := X1.geo.2.2.1; have r0 := X1.head.c0; have r1 := X1.head.c1; have r2 := X1.head.c2
    clear X1
    go_wp2
    go_ret
    exact ⟨rfl, HB⟩
  by_cases hn1 : n ≤ no
  · have hd : decide (no < n) = false := by simp; omega
    rw [hd, Bool.and_false, Bool.true_and, Bool.false_and]
    clear hd
    go_enter Try.func17, Try.ntmps17
    go_wp2_with fail
    refine (RR _).mono ?_
    rintro e w1 ⟨rfl, h1⟩
    have X1 := X0.up h1
    have HB := X1.geo.2.2.2
    have q0 := X1.geo.1; have q1 := X1.geo.2.1; have q2 := X1.geo.2.2.1; have r0 := X1.head.c0; have r1 := X1.head.c1; have r2 := X1.head.c2
    clear X1
    go_wp2
    go_ret
    exact ⟨rfl, HB⟩
  have hgok : okG a i n := hok
  obtain ⟨ke, kl⟩ := kbl_of hgok
  have hbx := hgok.box
  have hd1 : decide (0 ≤ no) = true := by simp; omega
  have hd2 : decide (no < n) = true := by simp; omega
  rw [hd1, hd2, Bool.true_and, Bool.true_and, Bool.true_and]
  have HKE : Hid (1 + i / 4 = (kbl i : Nat)) := ke
  have H5 : Hid (5 + i / 4 ≤ a) := by have h := okG_iff.1 hgok; show 5 + i / 4 ≤ a; omega
  have HKS : Hid ((no = 0 ∧ ksl no = 2) ∨ (¬ no = 0 ∧ ksl no = 0)) := by
    show _ ∨ _
    unfold ksl
    by_cases h : no = 0
    · rw [if_pos h]; exact .inl ⟨h, rfl⟩
    · rw [if_neg h]; exact .inr ⟨h, rfl⟩
  clear hok hgok hd1 hd2 ke
  generalize kbl i = lo at *
  generalize ksl no = l2 at *
  go_enter Try.func17, Try.ntmps17
  go_wp2_with fail
  refine (RR _).mono ?_
  rintro e w1 ⟨rfl, h1⟩
  have X1 := X0.up h1
  have HB : Hid _ := X1.geo.2.2.2
  have q0 := X1.geo.1; have q1 := X1.geo.2.1; have q2 := X1.geo.2.2.1; have r0 := X1.head.c0; have r1 := X1.head.c1; have r2 := X1.head.c2
  have GB : ∀ k : Nat, k < 128 → Calls Try.prog 43 #[.slice spb 16 capb, .int .i64 k] w1 fun e w' => e = .returned (.bool (gb bl k)) ∧ w' = w1 := by
    intro k hk
    have h := rget_yes spb bl capb k w1 (hsb.below HB.out (Nat.le_refl _)) (by omega) (by omega)
    rw [hb] at h; exact h
  have GS : ∀ k : Nat, k < 64 → Calls Try.prog 43 #[.slice sps 8 caps, .int .i64 k] w1 fun e w' => e = .returned (.bool (gb sl k)) ∧ w' = w1 := by
    intro k hk
    have h := rget_yes sps sl caps k w1 (hss.below HB.out (Nat.le_refl _)) (by omega) (by omega)
    rw [hs] at h; exact h
  clear X1 X0 RR h1 hsb hss hb hs
  go_wp2_with fail
  go_loop [5, 6] (fun o s => ∃ k : Nat, k ≤ 128 ∧ s = .int .i64 k ∧ o = .bool (okA (gb bl) lo a.toNat k)) (fun _ s => 128 - (intOf s).toNat)
  case atStart => exact ⟨0, by omega, rfl, rfl⟩
  case round =>
    obtain ⟨k, hk, rfl, rfl⟩ := hrel
    by_cases hlt : (k : Int) < 128
    · have HS : Hid (okA (gb bl) lo a.toNat (k + 1) = (okA (gb bl) lo a.toNat k && !((decide (k < lo) && !gb bl k) || (decide (a.toNat ≤ k) && gb bl k)))) := rfl
      have G := GB k (by omega)
      obtain ⟨fk, hfk⟩ : ∃ fk, Hid (gb bl k = fk) := ⟨_, rfl⟩
      rw [hfk.out] at G HS
      obtain ⟨ob, hob⟩ : ∃ ob, Hid (okA (gb bl) lo a.toNat k = ob) := ⟨_, rfl⟩
      rw [hob.out] at HS ⊢
      by_cases hlo : (k : Int) < 1 + i / 4
      · have hd : decide (k < lo) = true := by have := HKE.out; simp; omega
        rw [hd] at HS
        clear hd
        cases fk
        · go_wp2_with fail
          refine G.mono ?_
          rintro e w2 ⟨rfl, rfl⟩
          clear G
          go_wp2_with fail
          go_round
          case rel => exact ⟨k + 1, by omega, by go_num, by rw [HS.out]; simp⟩
          case measure => simp [intOf]; omega
        · by_cases hhi : a ≤ (k : Int)
          · exfalso
            have := H5.out; omega
          · have hd : decide (a.toNat ≤ k) = false := by simp; omega
            rw [hd] at HS
            clear hd
            go_wp2_with fail
            refine G.mono ?_
            rintro e w2 ⟨rfl, rfl⟩
            clear G
            go_wp2_with fail
            go_round
            case rel => exact ⟨k + 1, by omega, by go_num, by rw [HS.out]; simp⟩
            case measure => simp [intOf]; omega
      · have hd : decide (k < lo) = false := by have := HKE.out; simp; omega
        rw [hd] at HS
        clear hd
        by_cases hhi : a ≤ (k : Int)
        · have hd : decide (a.toNat ≤ k) = true := by simp; omega
          rw [hd] at HS
          clear hd
          cases fk
          · go_wp2_with fail
            refine G.mono ?_
            rintro e w2 ⟨rfl, rfl⟩
            clear G
            go_wp2_with fail
            go_round
            case rel => exact ⟨k + 1, by omega, by go_num, by rw [HS.out]; simp⟩
            case measure => simp [intOf]; omega
          · go_wp2_with fail
            refine G.mono ?_
            rintro e w2 ⟨rfl, rfl⟩
            clear G
            go_wp2_with fail
            go_round
            case rel => exact ⟨k + 1, by omega, by go_num, by rw [HS.out]; simp⟩
            case measure => simp [intOf]; omega
        · have hd : decide (a.toNat ≤ k) = false := by simp; omega
          rw [hd] at HS
          clear hd
          go_wp2_with fail
          go_round
          case rel => exact ⟨k + 1, by omega, by go_num, by rw [HS.out]; simp⟩
          case measure => simp [intOf]; omega
    · obtain rfl : k = 128 := by omega
      obtain ⟨o1, ho1⟩ : ∃ o1, Hid (okA (gb bl) lo a.toNat 128 = o1) := ⟨_, rfl⟩
      rw [ho1.out]
      clear GB
      have hbx2 := hbx
      go_wp2_with fail
      go_loop [5, 7] (fun o s => ∃ k : Nat, k ≤ 64 ∧ s = .int .i64 k ∧ o = .bool (o1 && okA (gb sl) l2 i.toNat k)) (fun _ s => 64 - (intOf s).toNat)
      case atStart => exact ⟨0, by omega, rfl, by simp [okA]⟩
      case round =>
        obtain ⟨k, hk, rfl, rfl⟩ := hrel
        by_cases hlt : (k : Int) < 64
        · have HS : Hid (okA (gb sl) l2 i.toNat (k + 1) = (okA (gb sl) l2 i.toNat k && !((decide (k < l2) && !gb sl k) || (decide (i.toNat ≤ k) && gb sl k)))) := rfl
          have G := GS k (by omega)
          obtain ⟨fk, hfk⟩ : ∃ fk, Hid (gb sl k = fk) := ⟨_, rfl⟩
          rw [hfk.out] at G HS
          obtain ⟨ob, hob⟩ : ∃ ob, Hid (okA (gb sl) l2 i.toNat k = ob) := ⟨_, rfl⟩
          rw [hob.out] at HS ⊢
          by_cases hhi : i ≤ (k : Int)
          · have hd : decide (i.toNat ≤ k) = true := by simp; omega
            have hd2 : decide (k < l2) = false := by have := HKS.out; simp; omega
            rw [hd, hd2] at HS
            clear hd hd2
            cases fk
            · by_cases hz : no = 0
              · have hk2 : ¬ (k : Int) < 2 := by omega
                subst hz
                go_wp2_with fail
                refine G.mono ?_
                rintro e w2 ⟨rfl, rfl⟩
                clear G
                go_wp2_with fail
                go_round
                case rel => exact ⟨k + 1, by omega, by go_num, by rw [HS.out]; simp⟩
                case measure => simp [intOf]; omega
              · go_wp2_with fail
                refine G.mono ?_
                rintro e w2 ⟨rfl, rfl⟩
                clear G
                go_wp2_with fail
                go_round
                case rel => exact ⟨k + 1, by omega, by go_num, by rw [HS.out]; simp⟩
                case measure => simp [intOf]; omega
            · go_wp2_with fail
              refine G.mono ?_
              rintro e w2 ⟨rfl, rfl⟩
              clear G
              go_wp2_with fail
              go_round
              case rel => exact ⟨k + 1, by omega, by go_num, by rw [HS.out]; simp⟩
              case measure => simp [intOf]; omega
          · have hd : decide (i.toNat ≤ k) = false := by simp; omega
            rw [hd] at HS
            clear hd
            by_cases hz : no = 0
            · by_cases hk2 : (k : Int) < 2
              · have hd2 : decide (k < l2) = true := by have := HKS.out; simp; omega
                rw [hd2] at HS
                have hzb : (no == 0) = true := by simpa using hz
                clear hd2 hz
                cases fk
                · go_wp2_with fail
                  refine G.mono ?_
                  rintro e w2 ⟨rfl, rfl⟩
                  clear G
                  go_wp2_with fail
                  go_round
                  case rel => exact ⟨k + 1, by omega, by go_num, by rw [HS.out]; simp⟩
                  case measure => simp [intOf]; omega
                · go_wp2_with fail
                  refine G.mono ?_
                  rintro e w2 ⟨rfl, rfl⟩
                  clear G
                  go_wp2_with fail
                  go_round
                  case rel => exact ⟨k + 1, by omega, by go_num, by rw [HS.out]; simp⟩
                  case measure => simp [intOf]; omega
              · have hd2 : decide (k < l2) = false := by have := HKS.out; simp; omega
                rw [hd2] at HS
                have hzb : (no == 0) = true := by simpa using hz
                clear hd2 hz
                go_wp2_with fail
                go_round
                case rel => exact ⟨k + 1, by omega, by go_num, by rw [HS.out]; simp⟩
                case measure => simp [intOf]; omega
            · have hd2 : decide (k < l2) = false := by have := HKS.out; simp; omega
              rw [hd2] at HS
              clear hd2
              go_wp2_with fail
              go_round
              case rel => exact ⟨k + 1, by omega, by go_num, by rw [HS.out]; simp⟩
              case measure => simp [intOf]; omega
        · obtain rfl : k = 64 := by omega
          go_wp2
          go_ret
          exact ⟨by rw [ho1.out]; rfl, HB.out⟩
end Go.Proofs.Ytfbbdpapnegmcaa
