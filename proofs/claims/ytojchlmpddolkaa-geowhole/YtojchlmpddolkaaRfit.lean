/- The document's Fit. -/
import Derived.Test.YtojchlmpddolkaaFit
namespace Go.Proofs.Ytojchlmpddolkaa
open Go.RowKit
structure RFits (w0 : World) (a i n : Int) (w : World) : Prop where
  g : Row3 w w0.heap.size a i n
  r : Row3 w (w0.heap.size + 1) 0 0 0
  b : Below w0.heap.size w0 w
theorem RFits.below {w0 w w' : World} {a i n : Int} (h : RFits w0 a i n w) (hb : Below w.heap.size w w') : RFits w0 a i n w' :=
  ⟨h.g.below hb h.g.lt, h.r.below hb h.r.lt, h.b.trans (hb.mono h.b.size)⟩
theorem RFits.ans {w0 w : World} {a i n : Int} (h : RFits w0 a i n w) (x' y' z' : Int) : Below w0.heap.size w0 (((w.setCell ⟨w0.heap.size + 1, 0, none⟩ (.int .i64 x')).setCell ⟨w0.heap.size + 1, 1, none⟩ (.int .i64 y')).setCell ⟨w0.heap.size + 1, 2, none⟩ (.int .i64 z')) :=
  ((h.b.setCell (p := ⟨w0.heap.size + 1, 0, none⟩) (by show w0.heap.size ≤ w0.heap.size + 1; omega) _).setCell (p := ⟨w0.heap.size + 1, 1, none⟩) (by show w0.heap.size ≤ w0.heap.size + 1; omega) _).setCell (p := ⟨w0.heap.size + 1, 2, none⟩) (by show w0.heap.size ≤ w0.heap.size + 1; omega) _
theorem rfits0 (a i n : Int) (w : World) : RFits w a i n ((w.alloc (.cells #[.int .i64 a, .int .i64 i, .int .i64 n] 23)).alloc (.cells #[.int .i64 0, .int .i64 0, .int .i64 0] 23)) := by
  have s1 : ∀ (v : World) (o : Obj), (v.alloc o).heap.size = v.heap.size + 1 := fun v o => by show (v.heap.push o).size = _; simp
  have b1 : Below w.heap.size w (w.alloc (.cells #[.int .i64 a, .int .i64 i, .int .i64 n] 23)) := (Below.refl _ _).alloc (Nat.le_refl _) _
  have h2 := heap_alloc_new (w.alloc (.cells #[.int .i64 a, .int .i64 i, .int .i64 n] 23)) (.cells #[.int .i64 0, .int .i64 0, .int .i64 0] 23)
  rw [s1] at h2
  exact ⟨(heap_alloc_old _ _ (by rw [s1]; omega)).trans (heap_alloc_new _ _), h2, b1.alloc (by rw [s1]; omega) _⟩
set_option maxHeartbeats 2000000 in
theorem rfit_any (a i n bl : Int) (w : World) :
    Calls Try.prog 12 #[.agg #[.int .i64 a, .int .i64 i, .int .i64 n], .int .i64 bl] w fun e w' => e = .returned (.tuple #[.agg #[.int .i64 (fitX a (fitM a i bl 16)), .int .i64 (fitX i (fitM a i bl 16)), .int .i64 (fitM a i bl 16)], .int .i64 (fitE (fitM a i bl 16))]) ∧ Below w.heap.size w w' := by
  have HS : Hid _ := rfits0 a i n w
  go_enter Try.func12, Try.ntmps12
  go_wp2
  go_loopw [6] (fun v wr => ∃ k : Nat, k ≤ 16 ∧ v = .int .i64 k ∧ fitM a i bl 16 = fitM a i bl k ∧ RFits w a i n wr) (fun v _ => (intOf v).toNat)
  case atStart => exact ⟨16, by omega, rfl, rfl, HS.out⟩
  case round =>
    obtain ⟨k', hk, rfl, hM, hF⟩ := hrel
    have HM : Hid (fitM a i bl 16 = fitM a i bl k') := hM
    have HF : Hid (RFits w a i n wr) := hF
    clear hM hF HS
    cases k' with
    | zero =>
      have r0 := HF.out.r.c0
      have r1 := HF.out.r.c1
      have r2 := HF.out.r.c2
      have f0 := HF.out.r.fr 0
      have f1 := HF.out.r.fr 1
      have f2 := HF.out.r.fr 2
      go_wp2
      refine bodyPost_ret (results_geo rfl _ _ (w.heap.size + 1) 0 0 0 rfl (HF.out.r.set 0 0 0)) rfl ?_
      exact ⟨by rw [HM.out]; rfl, HF.out.ans 0 0 0⟩
    | succ k =>
      have g0 := HF.out.g.c0
      have g1 := HF.out.g.c1
      have hal : Below wr.heap.size wr (wr.alloc (.cells #[.int .i64 a, .int .i64 i, .int .i64 ((k : Int) + 1)] 23)) := (Below.refl _ _).alloc (Nat.le_refl _) _
      have HR0 : Hid (Row3 (wr.alloc (.cells #[.int .i64 a, .int .i64 i, .int .i64 ((k : Int) + 1)] 23)) wr.heap.size a i ((k : Int) + 1)) := heap_alloc_new _ _
      have HF0 : Hid (RFits w a i n (wr.alloc (.cells #[.int .i64 a, .int .i64 i, .int .i64 ((k : Int) + 1)] 23))) := HF.out.below hal
      have hcast : (((k + 1 : Nat)) : Int) = (k : Int) + 1 := by omega
      rw [hcast]
      by_cases hok : okG a i ((k : Int) + 1)
      · have RT := rright_ok hok
        have SZ := rsize_ok hok
        have hbx := hok.box
        go_wp2_with fail
        refine (RT _).mono ?_
        rintro e w1 ⟨rfl, hb1⟩
        have HF1 : Hid (RFits w a i n w1) := HF0.out.below hb1
        have HR1 : Hid (Row3 w1 wr.heap.size a i ((k : Int) + 1)) := HR0.out.below hb1 HR0.out.lt
        have r10 := HR1.out.c0
        have r11 := HR1.out.c1
        have r12 := HR1.out.c2
        go_wp2_with fail
        refine (SZ _).mono ?_
        rintro e w2 ⟨rfl, hb2⟩
        have HF2 : Hid (RFits w a i n w2) := HF1.out.below hb2
        have HR2 : Hid (Row3 w2 wr.heap.size a i ((k : Int) + 1)) := HR1.out.below hb2 HR1.out.lt
        have r20 := HR2.out.c0
        have r21 := HR2.out.c1
        have r22 := HR2.out.c2
        clear r10 r11 r12
        have r0 := HF2.out.r.c0
        have r1 := HF2.out.r.c1
        have r2 := HF2.out.r.c2
        have f0 := HF2.out.r.fr 0
        have f1 := HF2.out.r.fr 1
        have f2 := HF2.out.r.fr 2
        by_cases hle : 2 + ((k : Int) + 1) * a ≤ bl
        · have HN : Hid (fitM a i bl 16 = k + 1) := HM.out.trans (fitM_yes (by simp [fitB, hok, hle]))
          go_wp2
          refine bodyPost_ret (results_geo rfl _ _ (w.heap.size + 1) a i ((k : Int) + 1) rfl (HF2.out.r.set a i ((k : Int) + 1))) rfl ?_
          exact ⟨by rw [HN.out]; rfl, HF2.out.ans a i ((k : Int) + 1)⟩
        · have HN : Hid (fitM a i bl 16 = fitM a i bl k) := HM.out.trans (fitM_not (by simp [fitB, hok]; omega))
          go_wp2
          go_roundw
          case rel => exact ⟨k, by omega, by go_num, HN.out, HF2.out⟩
          case measure => simp [intOf]
      · have RT := rright_no hok
        have HN : Hid (fitM a i bl 16 = fitM a i bl k) := HM.out.trans (fitM_not (by simp [fitB, hok]))
        go_wp2_with fail
        refine (RT _).mono ?_
        rintro e w1 ⟨rfl, hb1⟩
        have HF1 : Hid (RFits w a i n w1) := HF0.out.below hb1
        have HR1 : Hid (Row3 w1 wr.heap.size a i ((k : Int) + 1)) := HR0.out.below hb1 HR0.out.lt
        have r10 := HR1.out.c0
        have r11 := HR1.out.c1
        have r12 := HR1.out.c2
        go_wp2
        go_roundw
        case rel => exact ⟨k, by omega, by go_num, HN.out, HF1.out⟩
        case measure => simp [intOf]
end Go.Proofs.Ytojchlmpddolkaa
