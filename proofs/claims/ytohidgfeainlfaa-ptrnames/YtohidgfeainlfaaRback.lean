/- The document's Back. -/
import Derived.Test.YtohidgfeainlfaaBack
namespace Go.Proofs.Ytohidgfeainlfaa
open Go.RowKit
theorem rof_is {n d a b c : Int} (h0 : 0 ≤ n ∧ n ≤ 4165) (h : isW n d a b c = true) (w : World) :
    Calls Try.prog 7 #[.int .i64 n] w fun e w' => e = .returned (.tuple #[.agg (wayA d a b c), .int .i64 0]) ∧ Below w.heap.size w w' := by
  obtain ⟨e1, e2, e3, e4⟩ := isW_iff.1 h
  have := rof_any n w
  rw [e1, e2, e3, e4, ofE_in h0] at this
  exact this
theorem rof_not {n d a b c : Int} (h : isW n d a b c = false) (w : World) :
    Calls Try.prog 7 #[.int .i64 n] w fun e w' => ∃ x1 x2 x3 x4 y, e = .returned (.tuple #[.agg (wayA x1 x2 x3 x4), .int .i64 y]) ∧ Below w.heap.size w w' ∧ (x1 == d && (x2 == a && (x3 == b && x4 == c))) = false := by
  refine (rof_any n w).mono ?_
  rintro e w' ⟨rfl, hb⟩
  refine ⟨_, _, _, _, _, rfl, hb, ?_⟩
  rw [isW, Bool.and_true] at h; exact h
/-- A way lies at p, and what there was in w0 is as it was. -/
structure LiesW (w0 : World) (p : Nat) (d a b c : Int) (w : World) : Prop where
  c0 : w.cell? ⟨p, 0, none⟩ = some (.int .i64 d)
  c1 : w.cell? ⟨p, 1, none⟩ = some (.int .i64 a)
  c2 : w.cell? ⟨p, 2, none⟩ = some (.int .i64 b)
  c3 : w.cell? ⟨p, 3, none⟩ = some (.int .i64 c)
  b : Below w0.heap.size w0 w
theorem LiesW.lt {w0 w : World} {p : Nat} {d a b c : Int} (h : LiesW w0 p d a b c w) : p < w.heap.size := block_lt_of_cell h.c0
theorem LiesW.up {w0 w w' : World} {p : Nat} {d a b c : Int} (h : LiesW w0 p d a b c w) (hb : Below w.heap.size w w') : LiesW w0 p d a b c w' :=
  ⟨(hb.cell (p := ⟨p, 0, none⟩) h.lt).trans h.c0, (hb.cell (p := ⟨p, 1, none⟩) h.lt).trans h.c1, (hb.cell (p := ⟨p, 2, none⟩) h.lt).trans h.c2, (hb.cell (p := ⟨p, 3, none⟩) h.lt).trans h.c3, h.b.trans (hb.mono h.b.size)⟩
theorem LiesW.alloc {w0 w : World} {p : Nat} {d a b c : Int} (h : LiesW w0 p d a b c w) (o : Obj) : LiesW w0 p d a b c (w.alloc o) := h.up ((Below.refl _ _).alloc (Nat.le_refl _) _)
theorem liesW_new (w : World) (d a b c : Int) (t : TypeId) : LiesW w w.heap.size d a b c (w.alloc (.cells (wayA d a b c) t)) :=
  ⟨by go_simp, by go_simp, by go_simp, by go_simp, (Below.refl _ _).alloc (Nat.le_refl _) _⟩
set_option maxRecDepth 100000 in
set_option maxHeartbeats 2000000 in
theorem rback_any (d a b c : Int) (w : World) :
    Calls Try.prog 10 #[.agg (wayA d a b c)] w fun e w' => e = .returned (.tuple #[.int .i64 (bkV d a b c), .int .i64 (bkE d a b c)]) ∧ Below w.heap.size w w' := by
  have HL : Hid (LiesW w w.heap.size d a b c (w.alloc (.cells (wayA d a b c) 23))) := liesW_new w d a b c _
  go_enter Try.func10, Try.ntmps10
  go_wp2
  go_loopw [4] (fun t wr => ∃ k : Nat, k ≤ 4166 ∧ t = .int .i64 k ∧ Hid (LiesW w w.heap.size d a b c wr) ∧ Hid (∀ m : Nat, m < k → isW m d a b c = false)) (fun t _ => 4166 - (intOf t).toNat)
  case atStart => exact ⟨0, by omega, rfl, HL, fun m hm => by omega⟩
  case round =>
    obtain ⟨k, hk, rfl, HR, HN⟩ := hrel
    by_cases hlt : k < 4166
    · cases hW : isW k d a b c
      · have OF := rof_not hW
        have HN2 : Hid (∀ m : Nat, m < k + 1 → isW m d a b c = false) := fun m hm => by
          rcases Nat.lt_succ_iff_lt_or_eq.1 hm with h | rfl
          · exact HN.out m h
          · exact hW
        clear HN hW HL
        go_wp2_with fail
        refine (OF _).mono ?_
        clear OF
        rintro e w1 ⟨x1, x2, x3, x4, y, rfl, hb1, hy⟩
        have HS : Hid (LiesW w w.heap.size d a b c w1) := HR.out.up hb1
        have HA : Hid (∀ o, LiesW w w.heap.size d a b c (w1.alloc o)) := fun o => HS.out.alloc o
        have c0 := HS.out.c0
        have c1 := HS.out.c1
        have c2 := HS.out.c2
        have c3 := HS.out.c3
        have hl := HS.out.lt
        clear HR hb1
        go_wp2
        all_goals first
          | (exfalso; simp_all; done)
          | (go_roundw
             case rel => exact ⟨k + 1, by omega, by go_num, HA.out _, HN2⟩
             case measure => simp [intOf]; omega)
      · have hin : 0 ≤ (k : Int) ∧ (k : Int) ≤ 4165 := by omega
        have OF := rof_is hin hW
        have hk2 := way_ok hin hW
        have HV : Hid (bkV d a b c = k) := by show _ = _; rw [bkV, if_pos hk2.1]; exact hk2.2.symm
        have HE : Hid (bkE d a b c = 0) := if_pos hk2.1
        clear HN hW HL hk2 hin
        go_wp2_with fail
        refine (OF _).mono ?_
        clear OF
        rintro e w1 ⟨rfl, hb1⟩
        have HS : Hid (LiesW w w.heap.size d a b c w1) := HR.out.up hb1
        have HA : Hid (∀ o, LiesW w w.heap.size d a b c (w1.alloc o)) := fun o => HS.out.alloc o
        have c0 := HS.out.c0
        have c1 := HS.out.c1
        have c2 := HS.out.c2
        have c3 := HS.out.c3
        have hl := HS.out.lt
        clear HR hb1
        go_wp2
        go_ret2
        exact ⟨ret2' HV.out.symm HE.out.symm, (HA.out _).b⟩
    · have HB : Hid (¬ bkOk d a b c) := fun h => by
        obtain ⟨h0, e⟩ := ok_way h
        have hn := HN.out (bkN d a b c).toNat (by omega)
        rw [Int.toNat_of_nonneg h0.1] at hn
        rw [isW_iff.2 e] at hn; cases hn
      have hk' : k = 4166 := by omega
      subst hk'
      go_wp2
      go_ret2
      exact ⟨ret2' (if_neg HB.out).symm (if_neg HB.out).symm, HR.out.b⟩
end Go.Proofs.Ytohidgfeainlfaa
