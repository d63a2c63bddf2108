/- Package geo and the document's answer: Fit. -/
import Derived.Test.YtojchlmpddolkaaKnown
import Derived.OwnWalk
import Derived.Laws.ResultCell
import Derived.Laws.Rows
namespace Go.Proofs.Ytojchlmpddolkaa
open Go.RowKit
/-- May a shape have m groups on so many blocks? -/
def fitB (a i bl m : Int) : Bool := okB a i m && decide (2 + m * a ≤ bl)
/-- The most groups, up to k. -/
def fitM (a i bl : Int) : Nat → Nat
  | 0 => 0
  | k + 1 => if fitB a i bl ((k : Int) + 1) = true then k + 1 else fitM a i bl k
theorem fitM_yes {a i bl : Int} {k : Nat} (h : fitB a i bl ((k : Int) + 1) = true) : fitM a i bl (k + 1) = k + 1 := by rw [fitM, if_pos h]
theorem fitM_not {a i bl : Int} {k : Nat} (h : fitB a i bl ((k : Int) + 1) = false) : fitM a i bl (k + 1) = fitM a i bl k := by rw [fitM, if_neg (by rw [h]; simp)]
/-- The shape with m groups; of none the shape of zeros. -/
def fitX (a : Int) (m : Nat) : Int := if m = 0 then 0 else a
def Row3 (w : World) (p : Nat) (x y z : Int) : Prop := w.heap[p]? = some (.cells #[.int .i64 x, .int .i64 y, .int .i64 z] 23)
theorem Row3.below {w w' : World} {p B : Nat} {x y z : Int} (h : Row3 w p x y z) (hb : Below B w w') (hp : p < B) : Row3 w' p x y z := (hb.block p hp).trans h
theorem Row3.lt {w : World} {p : Nat} {x y z : Int} (h : Row3 w p x y z) : p < w.heap.size := (Array.getElem?_eq_some_iff.1 h).1
theorem Row3.c0 {w : World} {p : Nat} {x y z : Int} (h : Row3 w p x y z) : w.cell? ⟨p, 0, none⟩ = some (.int .i64 x) := by rw [cell_of_row w p 0 _ _ _ h]; rfl
theorem Row3.c1 {w : World} {p : Nat} {x y z : Int} (h : Row3 w p x y z) : w.cell? ⟨p, 1, none⟩ = some (.int .i64 y) := by rw [cell_of_row w p 1 _ _ _ h]; rfl
theorem Row3.c2 {w : World} {p : Nat} {x y z : Int} (h : Row3 w p x y z) : w.cell? ⟨p, 2, none⟩ = some (.int .i64 z) := by rw [cell_of_row w p 2 _ _ _ h]; rfl
theorem Row3.fr {w : World} {p : Nat} {x y z : Int} (h : Row3 w p x y z) (j : Nat) : w.frozen? ⟨p, j, none⟩ = false := frozen_of_row w p j _ _ h
/-- What Fit has in memory: the shape that it was given, its answer, the best one up to now. -/
structure Fits (w0 : World) (a i n x y z : Int) (w : World) : Prop where
  g : Row3 w w0.heap.size a i n
  r : Row3 w (w0.heap.size + 1) 0 0 0
  m : Row3 w (w0.heap.size + 1 + 1) x y z
  b : Below w0.heap.size w0 w
theorem Fits.below {w0 w w' : World} {a i n x y z : Int} (h : Fits w0 a i n x y z w) (hb : Below w.heap.size w w') : Fits w0 a i n x y z w' :=
  ⟨h.g.below hb h.g.lt, h.r.below hb h.r.lt, h.m.below hb h.m.lt, h.b.trans (hb.mono h.b.size)⟩
theorem fitB_okG {a i bl m : Int} (h : fitB a i bl m = true) : okG a i m ∧ 2 + m * a ≤ bl := by
  simpa [fitB] using h
/-- Its error. -/
def fitE (m : Nat) : Int := if m = 0 then 1 else 0
theorem Row3.set {w : World} {p : Nat} {x y z : Int} (h : Row3 w p x y z) (x' y' z' : Int) : Row3 (((w.setCell ⟨p, 0, none⟩ (.int .i64 x')).setCell ⟨p, 1, none⟩ (.int .i64 y')).setCell ⟨p, 2, none⟩ (.int .i64 z')) p x' y' z' := by
  have h0 := heap_setCell_same w p 0 _ _ (.int .i64 x') h
  have h1 := heap_setCell_same _ p 1 _ _ (.int .i64 y') h0
  have h2 := heap_setCell_same _ p 2 _ _ (.int .i64 z') h1
  rw [Row3, h2]; rfl
theorem Row3.other {w : World} {p q : Nat} {x y z : Int} (h : Row3 w q x y z) (hne : q ≠ p) (u v t : Value) : Row3 (((w.setCell ⟨p, 0, none⟩ u).setCell ⟨p, 1, none⟩ v).setCell ⟨p, 2, none⟩ t) q x y z := by
  unfold Row3
  rw [heap_setCell_other _ ⟨p, 2, none⟩ q t hne, heap_setCell_other _ ⟨p, 1, none⟩ q v hne, heap_setCell_other _ ⟨p, 0, none⟩ q u hne]; exact h
theorem Fits.set {w0 w : World} {a i n x y z : Int} (h : Fits w0 a i n x y z w) (x' y' z' : Int) : Fits w0 a i n x' y' z' (((w.setCell ⟨w0.heap.size + 1 + 1, 0, none⟩ (.int .i64 x')).setCell ⟨w0.heap.size + 1 + 1, 1, none⟩ (.int .i64 y')).setCell ⟨w0.heap.size + 1 + 1, 2, none⟩ (.int .i64 z')) :=
  ⟨h.g.other (by omega) _ _ _, h.r.other (by omega) _ _ _, h.m.set _ _ _, ((h.b.setCell (p := ⟨w0.heap.size + 1 + 1, 0, none⟩) (by show w0.heap.size ≤ w0.heap.size + 1 + 1; omega) _).setCell (p := ⟨w0.heap.size + 1 + 1, 1, none⟩) (by show w0.heap.size ≤ w0.heap.size + 1 + 1; omega) _).setCell (p := ⟨w0.heap.size + 1 + 1, 2, none⟩) (by show w0.heap.size ≤ w0.heap.size + 1 + 1; omega) _⟩
theorem Fits.ans {w0 w : World} {a i n x y z : Int} (h : Fits w0 a i n x y z w) (x' y' z' : Int) : Below w0.heap.size w0 (((w.setCell ⟨w0.heap.size + 1, 0, none⟩ (.int .i64 x')).setCell ⟨w0.heap.size + 1, 1, none⟩ (.int .i64 y')).setCell ⟨w0.heap.size + 1, 2, none⟩ (.int .i64 z')) :=
  ((h.b.setCell (p := ⟨w0.heap.size + 1, 0, none⟩) (by show w0.heap.size ≤ w0.heap.size + 1; omega) _).setCell (p := ⟨w0.heap.size + 1, 1, none⟩) (by show w0.heap.size ≤ w0.heap.size + 1; omega) _).setCell (p := ⟨w0.heap.size + 1, 2, none⟩) (by show w0.heap.size ≤ w0.heap.size + 1; omega) _
theorem Try.sum23 : (Try.prog.info? 23).map (·.size) = some 3 := by kernel_rfl
theorem results_geo {fn : Func} {p u : Tmp} (h : fn.results = #[.cell p 23, .tmp u]) (tmps : Array Value) (w : World) (g : Nat) (x y z : Int) (hp : tmps.getD p undef = .pointer (some ⟨g, 0, none⟩)) (hg : Row3 w g x y z) :
    (results fn tmps).run Try.prog w = .ok (.tuple #[.agg #[.int .i64 x, .int .i64 y, .int .i64 z], tmps.getD u undef]) w := by
  rw [results_cell_tmp h, hp]
  simp [asAddr, run_loadVar_row w g 23 23 _ _ _ hg Try.underlying23 rfl Try.sum23, Result.andThen]
theorem fits0 (a i n : Int) (w : World) : Fits w a i n 0 0 0 (((w.alloc (.cells #[.int .i64 a, .int .i64 i, .int .i64 n] 23)).alloc (.cells #[.int .i64 0, .int .i64 0, .int .i64 0] 23)).alloc (.cells #[.int .i64 0, .int .i64 0, .int .i64 0] 23)) := by
  have s1 : ∀ (v : World) (o : Obj), (v.alloc o).heap.size = v.heap.size + 1 := fun v o => by show (v.heap.push o).size = _; simp
  have b1 : Below w.heap.size w (w.alloc (.cells #[.int .i64 a, .int .i64 i, .int .i64 n] 23)) := (Below.refl _ _).alloc (Nat.le_refl _) _
  refine ⟨?_, ?_, ?_, (b1.alloc (by rw [s1]; omega) _).alloc (by rw [s1, s1]; omega) _⟩
  · exact ((heap_alloc_old _ _ (by rw [s1, s1]; omega)).trans (heap_alloc_old _ _ (by rw [s1]; omega))).trans (heap_alloc_new _ _)
  · have h2 := heap_alloc_new (w.alloc (.cells #[.int .i64 a, .int .i64 i, .int .i64 n] 23)) (.cells #[.int .i64 0, .int .i64 0, .int .i64 0] 23)
    rw [s1] at h2
    exact (heap_alloc_old _ _ (by rw [s1, s1]; omega)).trans h2
  · rw [Row3]
    have := heap_alloc_new ((w.alloc (.cells #[.int .i64 a, .int .i64 i, .int .i64 n] 23)).alloc (.cells #[.int .i64 0, .int .i64 0, .int .i64 0] 23)) (.cells #[.int .i64 0, .int .i64 0, .int .i64 0] 23)
    rw [s1, s1] at this; exact this
theorem fitM_ok {a i bl : Int} : ∀ {k : Nat}, fitM a i bl k ≠ 0 → okG a i (fitM a i bl k)
  | 0, h => absurd rfl h
  | k + 1, h => by
    cases hf : fitB a i bl ((k : Int) + 1)
    · rw [fitM_not hf] at h ⊢; exact fitM_ok h
    · rw [fitM_yes hf]; exact (fitB_okG hf).1
set_option maxHeartbeats 2000000 in
theorem fit_any (a i n bl : Int) (w : World) :
    Calls Try.prog 11 #[.agg #[.int .i64 a, .int .i64 i, .int .i64 n], .int .i64 bl] w fun e w' => e = .returned (.tuple #[.agg #[.int .i64 (fitX a (fitM a i bl 16)), .int .i64 (fitX i (fitM a i bl 16)), .int .i64 (fitM a i bl 16)], .int .i64 (fitE (fitM a i bl 16))]) ∧ Below w.heap.size w w' := by
  have HS : Hid _ := fits0 a i n w
  go_enter Try.func11, Try.ntmps11
  go_wp2
  go_loopw [9] (fun v wr => ∃ k : Nat, k ≤ 16 ∧ v = .int .i64 k ∧ Fits w a i n (fitX a (fitM a i bl k)) (fitX i (fitM a i bl k)) (fitM a i bl k) wr) (fun v _ => 16 - (intOf v).toNat)
  case atStart => exact ⟨0, by omega, rfl, HS.out⟩
  case round =>
    obtain ⟨k, hk, rfl, hF⟩ := hrel
    by_cases hlt : (k : Int) < 16
    · have HF : Hid (Fits w a i n (fitX a (fitM a i bl k)) (fitX i (fitM a i bl k)) (fitM a i bl k) wr) := hF
      have g0 := hF.g.c0
      have g1 := hF.g.c1
      clear hF HS
      have hal : Below wr.heap.size wr (wr.alloc (.cells #[.int .i64 a, .int .i64 i, .int .i64 ((k : Int) + 1)] 23)) := (Below.refl _ _).alloc (Nat.le_refl _) _
      have HR0 : Hid (Row3 (wr.alloc (.cells #[.int .i64 a, .int .i64 i, .int .i64 ((k : Int) + 1)] 23)) wr.heap.size a i ((k : Int) + 1)) := heap_alloc_new _ _
      have HF0 : Hid (Fits w a i n (fitX a (fitM a i bl k)) (fitX i (fitM a i bl k)) (fitM a i bl k) (wr.alloc (.cells #[.int .i64 a, .int .i64 i, .int .i64 ((k : Int) + 1)] 23))) := HF.out.below hal
      by_cases hok : okG a i ((k : Int) + 1)
      · have RT := right_ok hok
        have SZ := size_ok hok
        go_wp2_with fail
        refine (RT _).mono ?_
        rintro e w1 ⟨rfl, hb1⟩
        have HF1 : Hid (Fits w a i n (fitX a (fitM a i bl k)) (fitX i (fitM a i bl k)) (fitM a i bl k) w1) := HF0.out.below hb1
        have HR1 : Hid (Row3 w1 wr.heap.size a i ((k : Int) + 1)) := HR0.out.below hb1 HR0.out.lt
        have r10 := HR1.out.c0
        have r11 := HR1.out.c1
        have r12 := HR1.out.c2
        go_wp2_with fail
        refine (SZ _).mono ?_
        rintro e w2 ⟨rfl, hb2⟩
        have HF2 : Hid (Fits w a i n (fitX a (fitM a i bl k)) (fitX i (fitM a i bl k)) (fitM a i bl k) w2) := HF1.out.below hb2
        have HR2 : Hid (Row3 w2 wr.heap.size a i ((k : Int) + 1)) := HR1.out.below hb2 HR1.out.lt
        have r20 := HR2.out.c0
        have r21 := HR2.out.c1
        have r22 := HR2.out.c2
        clear r10 r11 r12
        have m0 := HF2.out.m.c0
        have m1 := HF2.out.m.c1
        have m2 := HF2.out.m.c2
        have f0 := HF2.out.m.fr 0
        have f1 := HF2.out.m.fr 1
        have f2 := HF2.out.m.fr 2
        by_cases hle : 2 + ((k : Int) + 1) * a ≤ bl
        · have HN : Hid (fitM a i bl (k + 1) = k + 1) := fitM_yes (by simp [fitB, hok, hle])
          go_wp2
          go_roundw
          case rel => exact ⟨k + 1, by omega, by go_num, by rw [HN.out]; exact HF2.out.set _ _ _⟩
          case measure => simp [intOf]; omega
        · have HN : Hid (fitM a i bl (k + 1) = fitM a i bl k) := fitM_not (by simp [fitB, hok]; omega)
          go_wp2
          go_roundw
          case rel => exact ⟨k + 1, by omega, by go_num, by rw [HN.out]; exact HF2.out⟩
          case measure => simp [intOf]; omega
      · have RT := right_no hok
        have HN : Hid (fitM a i bl (k + 1) = fitM a i bl k) := fitM_not (by simp [fitB, hok])
        go_wp2_with fail
        refine (RT _).mono ?_
        rintro e w1 ⟨rfl, hb1⟩
        have HF1 : Hid (Fits w a i n (fitX a (fitM a i bl k)) (fitX i (fitM a i bl k)) (fitM a i bl k) w1) := HF0.out.below hb1
        have HR1 : Hid (Row3 w1 wr.heap.size a i ((k : Int) + 1)) := HR0.out.below hb1 HR0.out.lt
        have r10 := HR1.out.c0
        have r11 := HR1.out.c1
        have r12 := HR1.out.c2
        go_wp2
        go_roundw
        case rel => exact ⟨k + 1, by omega, by go_num, by rw [HN.out]; exact HF1.out⟩
        case measure => simp [intOf]; omega
    · obtain rfl : k = 16 := by omega
      have HO : Hid (fitM a i bl 16 ≠ 0 → okG a i (fitM a i bl 16)) := fitM_ok
      have HF : Hid (Fits w a i n (fitX a (fitM a i bl 16)) (fitX i (fitM a i bl 16)) (fitM a i bl 16) wr) := hF
      clear hF HS
      obtain ⟨m, HM⟩ : ∃ m, Hid (fitM a i bl 16 = m) := ⟨_, rfl⟩
      have HO2 : Hid (m ≠ 0 → okG a i m) := by have := HO.out; rw [HM.out] at this; exact this
      have HF2 : Hid (Fits w a i n (fitX a m) (fitX i m) m wr) := by have := HF.out; rw [HM.out] at this; exact this
      clear HO HF
      have HO : Hid (m ≠ 0 → okG a i m) := HO2.out
      have HF : Hid (Fits w a i n (fitX a m) (fitX i m) m wr) := HF2.out
      clear HO2 HF2
      have r0 := HF.out.r.c0
      have r1 := HF.out.r.c1
      have r2 := HF.out.r.c2
      have f0 := HF.out.r.fr 0
      have f1 := HF.out.r.fr 1
      have f2 := HF.out.r.fr 2
      by_cases hm : m = 0
      · subst hm
        have m0 := HF.out.m.c0
        have m1 := HF.out.m.c1
        have m2 := HF.out.m.c2
        rw [show fitX a 0 = 0 from rfl] at m0
        rw [show fitX i 0 = 0 from rfl] at m1
        go_wp2
        refine bodyPost_ret (results_geo rfl _ _ (w.heap.size + 1) 0 0 0 rfl (HF.out.r.set 0 0 0)) rfl ?_
        exact ⟨by rw [HM.out]; rfl, HF.out.ans 0 0 0⟩
      · have hx : ∀ x : Int, fitX x m = x := fun x => if_neg hm
        have hbx := (HO.out hm).box
        have m0 := HF.out.m.c0
        have m1 := HF.out.m.c1
        have m2 := HF.out.m.c2
        rw [hx] at m0 m1
        have HE : Hid (∀ x : Int, fitX x m = x) := hx
        have hz : (a == 0) = false := beq_eq_false_iff_ne.2 (by omega)
        clear hx
        go_wp2
        refine bodyPost_ret (results_geo rfl _ _ (w.heap.size + 1) a i m rfl (HF.out.r.set a i m)) rfl ?_
        exact ⟨by rw [HM.out, HE.out, HE.out, show fitE m = 0 from if_neg hm]; rfl, HF.out.ans a i m⟩
end Go.Proofs.Ytojchlmpddolkaa
