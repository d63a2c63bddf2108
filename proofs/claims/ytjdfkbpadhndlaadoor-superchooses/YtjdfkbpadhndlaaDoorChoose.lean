/- super.Choose. -/
import Derived.Test.YtjdfkbpadhndlaaDoorSgetTwo
namespace Go.Proofs.YtjdfkbpadhndlaaDoor
open Go.RowKit
abbrev Four := Int × Int × Int × Int
/-- The better one of the best up to now and of the bytes l, at the place 'at', on so many blocks. -/
def takes (l : List UInt8) (at' bl : Int) (b : Four) : Bool := decide (getE l = 0) && decide (rdG l % 2 = at') && decide (2 + (rdN l : Int) * rdA l ≤ bl) && decide (b.1 < rdG l)
def nextB (l : List UInt8) (at' bl : Int) (b : Four) : Four := if takes l at' bl b = true then (rdG l, (rdA l : Int), (rdI l : Int), (rdN l : Int)) else b
/-- The one of two that holds. -/
def chooseB (la lb : List UInt8) (bl : Int) : Four := nextB lb 1 bl (nextB la 0 bl (0, 0, 0, 0))
def chE (b : Four) : Int := if b.1 = 0 then 10 else 0
/-- What Get says of the slice v, whatever the world behind w. -/
def Says (w : World) (v : Value) (l : List UInt8) : Prop := ∀ W, Below w.heap.size w W → Calls Tryd.prog 11 #[v] W fun e w' => e = .returned (.tuple #[.agg #[.int .i64 (getX (rdG l) l), .int .i64 (getX (rdA l) l), .int .i64 (getX (rdI l) l), .int .i64 (getX (rdN l) l)], .int .i64 (getE l)]) ∧ Below W.heap.size W w'
theorem getE_ok {l : List UInt8} (h : getE l = 0) : okS (rdG l) (rdA l) (rdI l) (rdN l) = true := by
  unfold getE at h
  split at h
  · omega
  · split at h
    · omega
    · split at h
      · omega
      · split at h
        · omega
        · rename_i h4; simpa using h4
theorem idx0 (sa sb : Option Addr) (na ca nb cb : Nat) (W : World) : (Instr.index 64 (.agg #[.slice sa na ca, .slice sb nb cb]) (.int .i64 0)).run Tryd.prog W = .ok (.slice sa na ca) W := by
  unfold Instr.index
  go_simp
theorem idx1 (sa sb : Option Addr) (na ca nb cb : Nat) (W : World) : (Instr.index 64 (.agg #[.slice sa na ca, .slice sb nb cb]) (.int .i64 1)).run Tryd.prog W = .ok (.slice sb nb cb) W := by
  unfold Instr.index
  go_simp
structure Ch (w0 : World) (b : Four) (w : World) : Prop where
  r : Row4 w w0.heap.size 30 0 0 0 0
  m : Row4 w (w0.heap.size + 1) 30 b.1 b.2.1 b.2.2.1 b.2.2.2
  b' : Below w0.heap.size w0 w
theorem Ch.up {w0 w w' : World} {b : Four} (h : Ch w0 b w) (hb : Below w.heap.size w w') : Ch w0 b w' := ⟨h.r.up hb, h.m.up hb, h.b'.trans (hb.mono h.b'.size)⟩
theorem Row4.other {w : World} {p q : Nat} {t : TypeId} {g a i n : Int} (h : Row4 w q t g a i n) (hne : q ≠ p) (u v x y : Value) : Row4 ((((w.setCell ⟨p, 0, none⟩ u).setCell ⟨p, 1, none⟩ v).setCell ⟨p, 2, none⟩ x).setCell ⟨p, 3, none⟩ y) q t g a i n := by
  unfold Row4
  rw [heap_setCell_other _ ⟨p, 3, none⟩ q y hne, heap_setCell_other _ ⟨p, 2, none⟩ q x hne, heap_setCell_other _ ⟨p, 1, none⟩ q v hne, heap_setCell_other _ ⟨p, 0, none⟩ q u hne]; exact h
theorem Ch.set {w0 w : World} {b : Four} (h : Ch w0 b w) (g a i n : Int) : Ch w0 (g, a, i, n) ((((w.setCell ⟨w0.heap.size + 1, 0, none⟩ (.int .i64 g)).setCell ⟨w0.heap.size + 1, 1, none⟩ (.int .i64 a)).setCell ⟨w0.heap.size + 1, 2, none⟩ (.int .i64 i)).setCell ⟨w0.heap.size + 1, 3, none⟩ (.int .i64 n)) :=
  ⟨h.r.other (by omega) _ _ _ _, h.m.set g a i n, below_set4 h.b' (by omega) _ _ _ _⟩
theorem ch0 (w : World) : Ch w (0, 0, 0, 0) ((w.alloc (.cells #[.int .i64 0, .int .i64 0, .int .i64 0, .int .i64 0] 30)).alloc (.cells #[.int .i64 0, .int .i64 0, .int .i64 0, .int .i64 0] 30)) :=
  ⟨heap_alloc2_old _ _ _, heap_alloc2_new _ _ _, two_allocs _ _ _⟩
theorem results_sup3 {fn : Func} {p u v : Tmp} (h : fn.results = #[.cell p 30, .tmp u, .tmp v]) (tmps : Array Value) (w : World) (G : Nat) (g a i n : Int) (hp : tmps.getD p undef = .pointer (some ⟨G, 0, none⟩)) (hg : Row4 w G 30 g a i n) :
    (results fn tmps).run Tryd.prog w = .ok (.tuple #[.agg #[.int .i64 g, .int .i64 a, .int .i64 i, .int .i64 n], tmps.getD u undef, tmps.getD v undef]) w := by
  have hp' : tmps[p]?.getD undef = .pointer (some ⟨G, 0, none⟩) := by simpa using hp
  simp [results, h, hp', asAddr, run_loadVar_row w G 30 30 _ _ _ hg Tryd.underlying30 rfl Tryd.sz30, Result.andThen]
theorem nextB_no {l : List UInt8} {at' bl : Int} {b : Four} (h : takes l at' bl b = false) : nextB l at' bl b = b := by rw [nextB, if_neg (by rw [h]; simp)]
theorem nextB_yes {l : List UInt8} {at' bl : Int} {b : Four} (h : takes l at' bl b = true) : nextB l at' bl b = (rdG l, (rdA l : Int), (rdI l : Int), (rdN l : Int)) := by rw [nextB, if_pos h]
/-- A best one is none, or can be. -/
def Best (b : Four) : Prop := b = (0, 0, 0, 0) ∨ 1 ≤ b.1
theorem Best.next {l : List UInt8} {at' bl : Int} {b : Four} (h : Best b) : Best (nextB l at' bl b) := by
  cases ht : takes l at' bl b
  · rw [nextB_no ht]; exact h
  · rw [nextB_yes ht]
    simp only [takes, Bool.and_eq_true, decide_eq_true_eq] at ht
    exact .inr (okS_iff.1 (getE_ok ht.1.1.1)).1
structure ChS (w0 : World) (g a i n : Int) (w : World) : Prop where
  m : Row4 w (w0.heap.size + 1) 30 g a i n
  b : Below w0.heap.size w0 w
  r : ∃ y0 y1 y2 y3, Row4 w w0.heap.size 30 y0 y1 y2 y3
theorem ChS.up {w0 w w' : World} {g a i n : Int} (h : ChS w0 g a i n w) (hb : Below w.heap.size w w') : ChS w0 g a i n w' := by
  obtain ⟨y0, y1, y2, y3, hr⟩ := h.r
  exact ⟨h.m.up hb, h.b.trans (hb.mono h.b.size), y0, y1, y2, y3, hr.up hb⟩
set_option maxRecDepth 100000 in
set_option maxHeartbeats 4000000 in
theorem choose_any (sa sb : Option Addr) (na ca nb cb : Nat) (la lb : List UInt8) (bl : Int) (w : World) (hA : Says w (.slice sa na ca) la) (hB : Says w (.slice sb nb cb) lb) :
    Calls Tryd.prog 16 #[.slice sa na ca, .slice sb nb cb, .int .i64 bl] w fun e w' => e = .returned (.tuple #[.agg #[.int .i64 (chooseB la lb bl).1, .int .i64 (chooseB la lb bl).2.1, .int .i64 (chooseB la lb bl).2.2.1, .int .i64 (chooseB la lb bl).2.2.2], .int .i64 ((chooseB la lb bl).1 % 2), .int .i64 (chE (chooseB la lb bl))]) ∧ Below w.heap.size w w' := by
  have H0 : Hid _ := ch0 w
  have I0 := idx0 sa sb na ca nb cb
  have I1 := idx1 sa sb na ca nb cb
  have HA : Hid (Says w (.slice sa na ca) la) := hA
  have HB : Hid (Says w (.slice sb nb cb) lb) := hB
  have HBest : Hid (Best (chooseB la lb bl)) := Best.next (Best.next (.inl rfl))
  clear hA hB
  go_enter Tryd.func16, Tryd.ntmps16
  go_wp2
  go_loopw [17] (fun v wr => (v = .int .i64 0 ∧ Ch w (0, 0, 0, 0) wr) ∨ (v = .int .i64 1 ∧ Ch w (nextB la 0 bl (0, 0, 0, 0)) wr) ∨ (v = .int .i64 2 ∧ Ch w (chooseB la lb bl) wr)) (fun v _ => 2 - (intOf v).toNat)
  case atStart => exact .inl ⟨rfl, H0.out⟩
  case round =>
    clear H0
    rcases hrel with ⟨rfl, hC⟩ | ⟨rfl, hC⟩ | ⟨rfl, hC⟩
    · have SAY := HA.out wr hC.b'
      have HC : Hid (Ch w ((0, 0, 0, 0) : Four) wr) := hC
      clear hC
      by_cases hE : getE la = 0
      · rw [getX_ok hE, getX_ok hE, getX_ok hE, getX_ok hE, hE] at SAY
        obtain ⟨q1, q2, hgeo⟩ := okS_iff.1 (getE_ok hE)
        have hpr := hgeo.prod
        have PL := fun W => splace_any (rdG la) (rdA la) (rdI la) (rdN la) W (by omega)
        have SZ := fun W => size_any (rdA la) (rdI la) (rdN la) W
        rw [if_pos hgeo] at SZ
        by_cases hP : rdG la % 2 = 0
        · by_cases hS : 2 + (rdN la : Int) * rdA la ≤ bl
          · by_cases hG : ((0, 0, 0, 0) : Four).1 < rdG la
            · have HT : Hid (takes la 0 bl ((0, 0, 0, 0) : Four) = true) := by show _ = _; simp [takes, hE, hP, hS, hG]
              have hP1 : (rdG la % 2 == 0) = true := beq_iff_eq.2 hP
              go_wp2_with fail
              refine SAY.mono ?_
              rintro e w1 ⟨rfl, hb1⟩
              clear SAY
              have HC1 : Hid (Ch w ((0, 0, 0, 0) : Four) w1) := HC.out.up hb1
              have HR1 : Hid (Row4 (w1.alloc (.cells #[.int .i64 (rdG la), .int .i64 (rdA la), .int .i64 (rdI la), .int .i64 (rdN la)] 30)) w1.heap.size 30 (rdG la) (rdA la) (rdI la) (rdN la)) := heap_alloc_new _ _
              have HC2 : Hid (Ch w ((0, 0, 0, 0) : Four) (w1.alloc (.cells #[.int .i64 (rdG la), .int .i64 (rdA la), .int .i64 (rdI la), .int .i64 (rdN la)] 30))) := HC1.out.up ((Below.refl _ _).alloc (Nat.le_refl _) _)
              go_wp2_with fail
              refine (PL _).mono ?_
              rintro e w2 ⟨rfl, hb2⟩
              have HC3 : Hid (Ch w ((0, 0, 0, 0) : Four) w2) := HC2.out.up hb2
              have HR3 : Hid (Row4 w2 w1.heap.size 30 (rdG la) (rdA la) (rdI la) (rdN la)) := HR1.out.up hb2
              have x0 := HR3.out.c0
              have x1 := HR3.out.c1
              have x2 := HR3.out.c2
              have x3 := HR3.out.c3
              go_wp2_with fail
              refine (SZ _).mono ?_
              rintro e w3 ⟨rfl, hb3⟩
              have HC4 : Hid (Ch w ((0, 0, 0, 0) : Four) w3) := HC3.out.up hb3
              have HR4 : Hid (Row4 w3 w1.heap.size 30 (rdG la) (rdA la) (rdI la) (rdN la)) := HR3.out.up hb3
              clear x0 x1 x2 x3
              have x0 := HR4.out.c0
              have x1 := HR4.out.c1
              have x2 := HR4.out.c2
              have x3 := HR4.out.c3
              have m0 := HC4.out.m.c0
              have m1 := HC4.out.m.c1
              have m2 := HC4.out.m.c2
              have m3 := HC4.out.m.c3
              have f0 := HC4.out.m.fr 0
              have f1 := HC4.out.m.fr 1
              have f2 := HC4.out.m.fr 2
              have f3 := HC4.out.m.fr 3
              go_wp2
              go_roundw
              case rel => exact .inr (.inl ⟨by go_num, by show Ch w (nextB la 0 bl ((0, 0, 0, 0) : Four)) _; rw [nextB_yes HT.out]; exact HC4.out.set _ _ _ _⟩)
              case measure => simp [intOf]
            · exact absurd (show (0 : Int) < rdG la by omega) hG
          · have HT : Hid (takes la 0 bl ((0, 0, 0, 0) : Four) = false) := by show _ = _; simp [takes, hE, hP, hS]
            have hP1 : (rdG la % 2 == 0) = true := beq_iff_eq.2 hP
            go_wp2_with fail
            refine SAY.mono ?_
            rintro e w1 ⟨rfl, hb1⟩
            clear SAY
            have HC1 : Hid (Ch w ((0, 0, 0, 0) : Four) w1) := HC.out.up hb1
            have HR1 : Hid (Row4 (w1.alloc (.cells #[.int .i64 (rdG la), .int .i64 (rdA la), .int .i64 (rdI la), .int .i64 (rdN la)] 30)) w1.heap.size 30 (rdG la) (rdA la) (rdI la) (rdN la)) := heap_alloc_new _ _
            have HC2 : Hid (Ch w ((0, 0, 0, 0) : Four) (w1.alloc (.cells #[.int .i64 (rdG la), .int .i64 (rdA la), .int .i64 (rdI la), .int .i64 (rdN la)] 30))) := HC1.out.up ((Below.refl _ _).alloc (Nat.le_refl _) _)
            go_wp2_with fail
            refine (PL _).mono ?_
            rintro e w2 ⟨rfl, hb2⟩
            have HC3 : Hid (Ch w ((0, 0, 0, 0) : Four) w2) := HC2.out.up hb2
            have HR3 : Hid (Row4 w2 w1.heap.size 30 (rdG la) (rdA la) (rdI la) (rdN la)) := HR1.out.up hb2
            have x0 := HR3.out.c0
            have x1 := HR3.out.c1
            have x2 := HR3.out.c2
            have x3 := HR3.out.c3
            go_wp2_with fail
            refine (SZ _).mono ?_
            rintro e w3 ⟨rfl, hb3⟩
            have HC4 : Hid (Ch w ((0, 0, 0, 0) : Four) w3) := HC3.out.up hb3
            have HR4 : Hid (Row4 w3 w1.heap.size 30 (rdG la) (rdA la) (rdI la) (rdN la)) := HR3.out.up hb3
            go_wp2
            go_roundw
            case rel => exact .inr (.inl ⟨by go_num, by show Ch w (nextB la 0 bl ((0, 0, 0, 0) : Four)) _; rw [nextB_no HT.out]; exact HC4.out⟩)
            case measure => simp [intOf]
        · have hP1 : (rdG la % 2 == 0) = false := beq_eq_false_iff_ne.2 hP
          have HT : Hid (takes la 0 bl ((0, 0, 0, 0) : Four) = false) := by show _ = _; simp [takes, hE, hP]
          go_wp2_with fail
          refine SAY.mono ?_
          rintro e w1 ⟨rfl, hb1⟩
          clear SAY
          have HC1 : Hid (Ch w ((0, 0, 0, 0) : Four) w1) := HC.out.up hb1
          have HR1 : Hid (Row4 (w1.alloc (.cells #[.int .i64 (rdG la), .int .i64 (rdA la), .int .i64 (rdI la), .int .i64 (rdN la)] 30)) w1.heap.size 30 (rdG la) (rdA la) (rdI la) (rdN la)) := heap_alloc_new _ _
          have HC2 : Hid (Ch w ((0, 0, 0, 0) : Four) (w1.alloc (.cells #[.int .i64 (rdG la), .int .i64 (rdA la), .int .i64 (rdI la), .int .i64 (rdN la)] 30))) := HC1.out.up ((Below.refl _ _).alloc (Nat.le_refl _) _)
          go_wp2_with fail
          refine (PL _).mono ?_
          rintro e w2 ⟨rfl, hb2⟩
          have HC3 : Hid (Ch w ((0, 0, 0, 0) : Four) w2) := HC2.out.up hb2
          have HR3 : Hid (Row4 w2 w1.heap.size 30 (rdG la) (rdA la) (rdI la) (rdN la)) := HR1.out.up hb2
          go_wp2
          go_roundw
          case rel => exact .inr (.inl ⟨by go_num, by show Ch w (nextB la 0 bl ((0, 0, 0, 0) : Four)) _; rw [nextB_no HT.out]; exact HC3.out⟩)
          case measure => simp [intOf]
      · have hE1 : (getE la == 0) = false := beq_eq_false_iff_ne.2 hE
        have HT : Hid (takes la 0 bl ((0, 0, 0, 0) : Four) = false) := by show _ = _; simp [takes, hE]
        go_wp2_with fail
        refine SAY.mono ?_
        rintro e w1 ⟨rfl, hb1⟩
        clear SAY
        have HC1 : Hid (Ch w ((0, 0, 0, 0) : Four) w1) := HC.out.up hb1
        have HR1 : Hid (Row4 (w1.alloc (.cells #[.int .i64 (getX (rdG la) la), .int .i64 (getX (rdA la) la), .int .i64 (getX (rdI la) la), .int .i64 (getX (rdN la) la)] 30)) w1.heap.size 30 (getX (rdG la) la) (getX (rdA la) la) (getX (rdI la) la) (getX (rdN la) la)) := heap_alloc_new _ _
        have HC2 : Hid (Ch w ((0, 0, 0, 0) : Four) (w1.alloc (.cells #[.int .i64 (getX (rdG la) la), .int .i64 (getX (rdA la) la), .int .i64 (getX (rdI la) la), .int .i64 (getX (rdN la) la)] 30))) := HC1.out.up ((Below.refl _ _).alloc (Nat.le_refl _) _)
        go_wp2
        go_roundw
        case rel => exact .inr (.inl ⟨by go_num, by show Ch w (nextB la 0 bl ((0, 0, 0, 0) : Four)) _; rw [nextB_no HT.out]; exact HC2.out⟩)
        case measure => simp [intOf]
    · have SAY := HB.out wr hC.b'
      have HC : Hid (Ch w (nextB la 0 bl (0, 0, 0, 0)) wr) := hC
      clear hC
      by_cases hE : getE lb = 0
      · rw [getX_ok hE, getX_ok hE, getX_ok hE, getX_ok hE, hE] at SAY
        obtain ⟨q1, q2, hgeo⟩ := okS_iff.1 (getE_ok hE)
        have hpr := hgeo.prod
        have PL := fun W => splace_any (rdG lb) (rdA lb) (rdI lb) (rdN lb) W (by omega)
        have SZ := fun W => size_any (rdA lb) (rdI lb) (rdN lb) W
        rw [if_pos hgeo] at SZ
        by_cases hP : rdG lb % 2 = 1
        · by_cases hS : 2 + (rdN lb : Int) * rdA lb ≤ bl
          · by_cases hG : (nextB la 0 bl (0, 0, 0, 0)).1 < rdG lb
            · have HT : Hid (takes lb 1 bl (nextB la 0 bl (0, 0, 0, 0)) = true) := by show _ = _; simp [takes, hE, hP, hS, hG]
              have hP1 : (rdG lb % 2 == 1) = true := beq_iff_eq.2 hP
              go_wp2_with fail
              refine SAY.mono ?_
              rintro e w1 ⟨rfl, hb1⟩
              clear SAY
              have HC1 : Hid (Ch w (nextB la 0 bl (0, 0, 0, 0)) w1) := HC.out.up hb1
              have HR1 : Hid (Row4 (w1.alloc (.cells #[.int .i64 (rdG lb), .int .i64 (rdA lb), .int .i64 (rdI lb), .int .i64 (rdN lb)] 30)) w1.heap.size 30 (rdG lb) (rdA lb) (rdI lb) (rdN lb)) := heap_alloc_new _ _
              have HC2 : Hid (Ch w (nextB la 0 bl (0, 0, 0, 0)) (w1.alloc (.cells #[.int .i64 (rdG lb), .int .i64 (rdA lb), .int .i64 (rdI lb), .int .i64 (rdN lb)] 30))) := HC1.out.up ((Below.refl _ _).alloc (Nat.le_refl _) _)
              go_wp2_with fail
              refine (PL _).mono ?_
              rintro e w2 ⟨rfl, hb2⟩
              have HC3 : Hid (Ch w (nextB la 0 bl (0, 0, 0, 0)) w2) := HC2.out.up hb2
              have HR3 : Hid (Row4 w2 w1.heap.size 30 (rdG lb) (rdA lb) (rdI lb) (rdN lb)) := HR1.out.up hb2
              have x0 := HR3.out.c0
              have x1 := HR3.out.c1
              have x2 := HR3.out.c2
              have x3 := HR3.out.c3
              go_wp2_with fail
              refine (SZ _).mono ?_
              rintro e w3 ⟨rfl, hb3⟩
              have HC4 : Hid (Ch w (nextB la 0 bl (0, 0, 0, 0)) w3) := HC3.out.up hb3
              have HR4 : Hid (Row4 w3 w1.heap.size 30 (rdG lb) (rdA lb) (rdI lb) (rdN lb)) := HR3.out.up hb3
              clear x0 x1 x2 x3
              have x0 := HR4.out.c0
              have x1 := HR4.out.c1
              have x2 := HR4.out.c2
              have x3 := HR4.out.c3
              have m0 := HC4.out.m.c0
              have m1 := HC4.out.m.c1
              have m2 := HC4.out.m.c2
              have m3 := HC4.out.m.c3
              have f0 := HC4.out.m.fr 0
              have f1 := HC4.out.m.fr 1
              have f2 := HC4.out.m.fr 2
              have f3 := HC4.out.m.fr 3
              go_wp2
              go_roundw
              case rel => exact .inr (.inr ⟨by go_num, by show Ch w (nextB lb 1 bl (nextB la 0 bl (0, 0, 0, 0))) _; rw [nextB_yes HT.out]; exact HC4.out.set _ _ _ _⟩)
              case measure => simp [intOf]
            · have HT : Hid (takes lb 1 bl (nextB la 0 bl (0, 0, 0, 0)) = false) := by show _ = _; simp [takes, hE, hP, hS]; omega
              have hP1 : (rdG lb % 2 == 1) = true := beq_iff_eq.2 hP
              go_wp2_with fail
              refine SAY.mono ?_
              rintro e w1 ⟨rfl, hb1⟩
              clear SAY
              have HC1 : Hid (Ch w (nextB la 0 bl (0, 0, 0, 0)) w1) := HC.out.up hb1
              have HR1 : Hid (Row4 (w1.alloc (.cells #[.int .i64 (rdG lb), .int .i64 (rdA lb), .int .i64 (rdI lb), .int .i64 (rdN lb)] 30)) w1.heap.size 30 (rdG lb) (rdA lb) (rdI lb) (rdN lb)) := heap_alloc_new _ _
              have HC2 : Hid (Ch w (nextB la 0 bl (0, 0, 0, 0)) (w1.alloc (.cells #[.int .i64 (rdG lb), .int .i64 (rdA lb), .int .i64 (rdI lb), .int .i64 (rdN lb)] 30))) := HC1.out.up ((Below.refl _ _).alloc (Nat.le_refl _) _)
              go_wp2_with fail
              refine (PL _).mono ?_
              rintro e w2 ⟨rfl, hb2⟩
              have HC3 : Hid (Ch w (nextB la 0 bl (0, 0, 0, 0)) w2) := HC2.out.up hb2
              have HR3 : Hid (Row4 w2 w1.heap.size 30 (rdG lb) (rdA lb) (rdI lb) (rdN lb)) := HR1.out.up hb2
              have x0 := HR3.out.c0
              have x1 := HR3.out.c1
              have x2 := HR3.out.c2
              have x3 := HR3.out.c3
              go_wp2_with fail
              refine (SZ _).mono ?_
              rintro e w3 ⟨rfl, hb3⟩
              have HC4 : Hid (Ch w (nextB la 0 bl (0, 0, 0, 0)) w3) := HC3.out.up hb3
              have HR4 : Hid (Row4 w3 w1.heap.size 30 (rdG lb) (rdA lb) (rdI lb) (rdN lb)) := HR3.out.up hb3
              clear x0 x1 x2 x3
              have x0 := HR4.out.c0
              have x1 := HR4.out.c1
              have x2 := HR4.out.c2
              have x3 := HR4.out.c3
              have m0 := HC4.out.m.c0
              go_wp2
              go_roundw
              case rel => exact .inr (.inr ⟨by go_num, by show Ch w (nextB lb 1 bl (nextB la 0 bl (0, 0, 0, 0))) _; rw [nextB_no HT.out]; exact HC4.out⟩)
              case measure => simp [intOf]
          · have HT : Hid (takes lb 1 bl (nextB la 0 bl (0, 0, 0, 0)) = false) := by show _ = _; simp [takes, hE, hP, hS]
            have hP1 : (rdG lb % 2 == 1) = true := beq_iff_eq.2 hP
            go_wp2_with fail
            refine SAY.mono ?_
            rintro e w1 ⟨rfl, hb1⟩
            clear SAY
            have HC1 : Hid (Ch w (nextB la 0 bl (0, 0, 0, 0)) w1) := HC.out.up hb1
            have HR1 : Hid (Row4 (w1.alloc (.cells #[.int .i64 (rdG lb), .int .i64 (rdA lb), .int .i64 (rdI lb), .int .i64 (rdN lb)] 30)) w1.heap.size 30 (rdG lb) (rdA lb) (rdI lb) (rdN lb)) := heap_alloc_new _ _
            have HC2 : Hid (Ch w (nextB la 0 bl (0, 0, 0, 0)) (w1.alloc (.cells #[.int .i64 (rdG lb), .int .i64 (rdA lb), .int .i64 (rdI lb), .int .i64 (rdN lb)] 30))) := HC1.out.up ((Below.refl _ _).alloc (Nat.le_refl _) _)
            go_wp2_with fail
            refine (PL _).mono ?_
            rintro e w2 ⟨rfl, hb2⟩
            have HC3 : Hid (Ch w (nextB la 0 bl (0, 0, 0, 0)) w2) := HC2.out.up hb2
            have HR3 : Hid (Row4 w2 w1.heap.size 30 (rdG lb) (rdA lb) (rdI lb) (rdN lb)) := HR1.out.up hb2
            have x0 := HR3.out.c0
            have x1 := HR3.out.c1
            have x2 := HR3.out.c2
            have x3 := HR3.out.c3
            go_wp2_with fail
            refine (SZ _).mono ?_
            rintro e w3 ⟨rfl, hb3⟩
            have HC4 : Hid (Ch w (nextB la 0 bl (0, 0, 0, 0)) w3) := HC3.out.up hb3
            have HR4 : Hid (Row4 w3 w1.heap.size 30 (rdG lb) (rdA lb) (rdI lb) (rdN lb)) := HR3.out.up hb3
            go_wp2
            go_roundw
            case rel => exact .inr (.inr ⟨by go_num, by show Ch w (nextB lb 1 bl (nextB la 0 bl (0, 0, 0, 0))) _; rw [nextB_no HT.out]; exact HC4.out⟩)
            case measure => simp [intOf]
        · have hP1 : (rdG lb % 2 == 1) = false := beq_eq_false_iff_ne.2 hP
          have HT : Hid (takes lb 1 bl (nextB la 0 bl (0, 0, 0, 0)) = false) := by show _ = _; simp [takes, hE, hP]
          go_wp2_with fail
          refine SAY.mono ?_
          rintro e w1 ⟨rfl, hb1⟩
          clear SAY
          have HC1 : Hid (Ch w (nextB la 0 bl (0, 0, 0, 0)) w1) := HC.out.up hb1
          have HR1 : Hid (Row4 (w1.alloc (.cells #[.int .i64 (rdG lb), .int .i64 (rdA lb), .int .i64 (rdI lb), .int .i64 (rdN lb)] 30)) w1.heap.size 30 (rdG lb) (rdA lb) (rdI lb) (rdN lb)) := heap_alloc_new _ _
          have HC2 : Hid (Ch w (nextB la 0 bl (0, 0, 0, 0)) (w1.alloc (.cells #[.int .i64 (rdG lb), .int .i64 (rdA lb), .int .i64 (rdI lb), .int .i64 (rdN lb)] 30))) := HC1.out.up ((Below.refl _ _).alloc (Nat.le_refl _) _)
          go_wp2_with fail
          refine (PL _).mono ?_
          rintro e w2 ⟨rfl, hb2⟩
          have HC3 : Hid (Ch w (nextB la 0 bl (0, 0, 0, 0)) w2) := HC2.out.up hb2
          have HR3 : Hid (Row4 w2 w1.heap.size 30 (rdG lb) (rdA lb) (rdI lb) (rdN lb)) := HR1.out.up hb2
          go_wp2
          go_roundw
          case rel => exact .inr (.inr ⟨by go_num, by show Ch w (nextB lb 1 bl (nextB la 0 bl (0, 0, 0, 0))) _; rw [nextB_no HT.out]; exact HC3.out⟩)
          case measure => simp [intOf]
      · have hE1 : (getE lb == 0) = false := beq_eq_false_iff_ne.2 hE
        have HT : Hid (takes lb 1 bl (nextB la 0 bl (0, 0, 0, 0)) = false) := by show _ = _; simp [takes, hE]
        go_wp2_with fail
        refine SAY.mono ?_
        rintro e w1 ⟨rfl, hb1⟩
        clear SAY
        have HC1 : Hid (Ch w (nextB la 0 bl (0, 0, 0, 0)) w1) := HC.out.up hb1
        have HR1 : Hid (Row4 (w1.alloc (.cells #[.int .i64 (getX (rdG lb) lb), .int .i64 (getX (rdA lb) lb), .int .i64 (getX (rdI lb) lb), .int .i64 (getX (rdN lb) lb)] 30)) w1.heap.size 30 (getX (rdG lb) lb) (getX (rdA lb) lb) (getX (rdI lb) lb) (getX (rdN lb) lb)) := heap_alloc_new _ _
        have HC2 : Hid (Ch w (nextB la 0 bl (0, 0, 0, 0)) (w1.alloc (.cells #[.int .i64 (getX (rdG lb) lb), .int .i64 (getX (rdA lb) lb), .int .i64 (getX (rdI lb) lb), .int .i64 (getX (rdN lb) lb)] 30))) := HC1.out.up ((Below.refl _ _).alloc (Nat.le_refl _) _)
        go_wp2
        go_roundw
        case rel => exact .inr (.inr ⟨by go_num, by show Ch w (nextB lb 1 bl (nextB la 0 bl (0, 0, 0, 0))) _; rw [nextB_no HT.out]; exact HC2.out⟩)
        case measure => simp [intOf]
    · obtain ⟨b, HBe⟩ : ∃ b, Hid (chooseB la lb bl = b) := ⟨_, rfl⟩
      have HC : Hid (Ch w b wr) := by have := hC; rw [HBe.out] at this; exact this
      have HB2 : Hid (Best b) := by have := HBest.out; rw [HBe.out] at this; exact this
      clear hC HBest HA HB
      rcases HB2.out with hz | hz
      · subst hz
        have m0 := HC.out.m.c0
        have m1 := HC.out.m.c1
        have m2 := HC.out.m.c2
        have m3 := HC.out.m.c3
        have r0 := HC.out.r.c0
        have r1 := HC.out.r.c1
        have r2 := HC.out.r.c2
        have r3 := HC.out.r.c3
        have f0 := HC.out.r.fr 0
        have f1 := HC.out.r.fr 1
        have f2 := HC.out.r.fr 2
        have f3 := HC.out.r.fr 3
        go_wp2
        refine bodyPost_ret (results_sup3 rfl _ _ w.heap.size 0 0 0 0 rfl (HC.out.r.set 0 0 0 0)) rfl ?_
        exact ⟨by rw [HBe.out]; rfl, below_set4 HC.out.b' (Nat.le_refl _) _ _ _ _⟩
      · obtain ⟨g, a, i, n⟩ := b
        have hz1 : 1 ≤ g := hz
        have hz0 : (g == 0) = false := beq_eq_false_iff_ne.2 (by omega)
        have hd : Ch w (g, a, i, n) wr.drew := HC.out.up (Below.refl _ _).drew
        have m0 := HC.out.m.c0
        have m1 := HC.out.m.c1
        have m2 := HC.out.m.c2
        have m3 := HC.out.m.c3
        have PL := fun W => splace_any g a i n W (by omega)
        clear hz HC
        go_wp2_with fail
        have hS0 : ChS w g a i n wr.drew := ⟨hd.m, hd.b', _, _, _, _, hd.r⟩
        refine wp_region_held_drew (S := (fun w' => ChS w g a i n w')) (by kernel_rfl) hS0 (fun hH => ?_)
        refine takeH (i := 0) (dst := some 54) (v := ?v1) rfl rfl (by kernel_rfl) (by kernel_rfl) (by kernel_rfl) (fun _ _ _ h => h) rfl ?hy1 hH rfl ?rest1
        case hy1 => (intro W hW; have q0 := hW.m.c0; have q1 := hW.m.c1; have q2 := hW.m.c2; have q3 := hW.m.c3; clear hW; go_simp; try with_reducible rfl)
        (try simp only [Act.put, List.setIfInBounds_toArray, List.set_cons_zero, List.set_cons_succ])
        refine takeH (i := 1) (dst := some 55) (v := ?v2) rfl rfl (by kernel_rfl) (by kernel_rfl) (by kernel_rfl) (fun _ _ _ h => h) rfl ?hy2 hH rfl ?rest2
        case hy2 => (intro W hW; have q0 := hW.m.c0; have q1 := hW.m.c1; have q2 := hW.m.c2; have q3 := hW.m.c3; clear hW; go_simp; try with_reducible rfl)
        (try simp only [Act.put, List.setIfInBounds_toArray, List.set_cons_zero, List.set_cons_succ])
        refine callH (i := 2) { dst := some 56, op := Go.Op.call { callee := Go.Callee.value (Go.Operand.func 32), args := #[Go.Operand.tmp 55], argTypes := #[30] }, type := 3, pos := "super.go:105", after := #[{ on := 1, ground := Go.Ground.data }], guard := none } (by kernel_rfl) rfl rfl (fun K hK => ?_)
        go_simp
        refine (PL _).mono ?_
        rintro e v1 ⟨rfl, b1⟩
        have d1 := hH.up b1
        clear hH
        refine hK.out _ _ d1 (fun hH => ?_)
        clear hK K
        (try simp only [Act.put, List.setIfInBounds_toArray, List.set_cons_zero, List.set_cons_succ])
        obtain ⟨dm, db, y0, y1, y2, y3, dr⟩ := d1
        have r0 := dr.c0
        have r1 := dr.c1
        have r2 := dr.c2
        have r3 := dr.c3
        have f0 := dr.fr 0
        have f1 := dr.fr 1
        have f2 := dr.fr 2
        have f3 := dr.fr 3
        have dR := dr.set g a i n
        have dB := below_set4 db (Nat.le_refl _) (.int .i64 g) (.int .i64 a) (.int .i64 i) (.int .i64 n)
        have dS : ChS w g a i n _ := ⟨dm.other (by omega) (.int .i64 g) (.int .i64 a) (.int .i64 i) (.int .i64 n), dB, _, _, _, _, dR⟩
        clear dr dm
        refine callH (i := 3) { dst := none, op := Go.Op.store 30 (Go.Operand.tmp 6) (Go.Operand.tmp 54), type := 0, pos := "super.go:105", after := #[{ on := 0, ground := Go.Ground.data }, { on := 2, ground := Go.Ground.chain }, { on := 0, ground := Go.Ground.phase }, { on := 1, ground := Go.Ground.textOnly Go.Departure.lateStores }, { on := 2, ground := Go.Ground.textOnly Go.Departure.lateStoresUnsure }], guard := none } (by kernel_rfl) rfl rfl (fun K hK => ?_)
        go_simp
        clear hH
        refine hK.out _ _ dS (fun hH => ?_)
        clear hK K
        (try simp only [Act.put, List.setIfInBounds_toArray, List.set_cons_zero, List.set_cons_succ])
        refine takeH (i := 4) (dst := some 7) (v := ?v3) rfl rfl (by kernel_rfl) (by kernel_rfl) (by kernel_rfl) (fun _ _ _ h => h) rfl ?hy3 hH rfl ?rest3
        case hy3 => (intro W hW; have q0 := hW.m.c0; have q1 := hW.m.c1; have q2 := hW.m.c2; have q3 := hW.m.c3; clear hW; go_simp; try with_reducible rfl)
        (try simp only [Act.put, List.setIfInBounds_toArray, List.set_cons_zero, List.set_cons_succ])
        refine takeH (i := 5) (dst := some 8) (v := ?v4) rfl rfl (by kernel_rfl) (by kernel_rfl) (by kernel_rfl) (fun _ _ _ h => h) rfl ?hy4 hH rfl ?rest4
        case hy4 => (intro W hW; have q0 := hW.m.c0; have q1 := hW.m.c1; have q2 := hW.m.c2; have q3 := hW.m.c3; clear hW; go_simp; try with_reducible rfl)
        (try simp only [Act.put, List.setIfInBounds_toArray, List.set_cons_zero, List.set_cons_succ])
        refine wpAnyH_done (by kernel_rfl) ?_ _
        clear hH
        go_wp2
        refine bodyPost_ret (results_sup3 rfl _ _ w.heap.size g a i n rfl dR) rfl ?_
        exact ⟨by rw [HBe.out, show chE (g, a, i, n) = 0 from if_neg (by show ¬ g = 0; omega)]; rfl, dB⟩
end Go.Proofs.YtjdfkbpadhndlaaDoor
