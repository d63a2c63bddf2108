/- leveeref04.Choose. -/
import Derived.Test.YtjdfkbpadhndlaaDoorBytesWalk
import Derived.Test.YtjdfkbpadhndlaaDoorNextGood
namespace Go.Proofs.YtjdfkbpadhndlaaDoor
open Go.RowKit
theorem results_rsup3 {fn : Func} {p u v : Tmp} (h : fn.results = #[.cell p 25, .tmp u, .tmp v]) (tmps : Array Value) (w : World) (G : Nat) (g a i n : Int) (hp : tmps.getD p undef = .pointer (some ⟨G, 0, none⟩)) (hg : Row4 w G 25 g a i n) :
    (results fn tmps).run Tryd.prog w = .ok (.tuple #[.agg #[.int .i64 g, .int .i64 a, .int .i64 i, .int .i64 n], tmps.getD u undef, tmps.getD v undef]) w := by
  have hp' : tmps[p]?.getD undef = .pointer (some ⟨G, 0, none⟩) := by simpa using hp
  simp [results, h, hp', asAddr, run_loadVar_row w G 25 25 _ _ _ hg Tryd.underlying25 rfl Tryd.sz25, Result.andThen]
/-- The document's Get says of v what the bytes l say. -/
def SaysR (w : World) (v : Value) (l : List UInt8) : Prop := ∀ W, Below w.heap.size w W → Calls Tryd.prog 12 #[v] W fun e w' => e = .returned (.tuple #[.agg #[.int .i64 (getX (rdG l) l), .int .i64 (getX (rdA l) l), .int .i64 (getX (rdI l) l), .int .i64 (getX (rdN l) l)], .int .i64 (getE l)]) ∧ Below W.heap.size W w'
structure ChR (w0 : World) (u v : Value) (b : Four) (w : World) : Prop where
  r : Row4 w w0.heap.size 25 0 0 0 0
  l : RowL w (w0.heap.size + 1) u v
  m : Row4 w (w0.heap.size + 1 + 1) 25 b.1 b.2.1 b.2.2.1 b.2.2.2
  b' : Below w0.heap.size w0 w
theorem ChR.up {w0 w w' : World} {u v : Value} {b : Four} (h : ChR w0 u v b w) (hb : Below w.heap.size w w') : ChR w0 u v b w' := ⟨h.r.up hb, h.l.up hb, h.m.up hb, h.b'.trans (hb.mono h.b'.size)⟩
theorem RowL.other4 {w : World} {L Q : Nat} {u v : Value} (h : RowL w L u v) (hne : L ≠ Q) (x0 x1 x2 x3 : Value) : RowL ((((w.setCell ⟨Q, 0, none⟩ x0).setCell ⟨Q, 1, none⟩ x1).setCell ⟨Q, 2, none⟩ x2).setCell ⟨Q, 3, none⟩ x3) L u v :=
  (((h.other hne _).other hne _).other hne _).other hne _
theorem ChR.set {w0 w : World} {u v : Value} {b : Four} (h : ChR w0 u v b w) (g a i n : Int) : ChR w0 u v (g, a, i, n) ((((w.setCell ⟨w0.heap.size + 1 + 1, 0, none⟩ (.int .i64 g)).setCell ⟨w0.heap.size + 1 + 1, 1, none⟩ (.int .i64 a)).setCell ⟨w0.heap.size + 1 + 1, 2, none⟩ (.int .i64 i)).setCell ⟨w0.heap.size + 1 + 1, 3, none⟩ (.int .i64 n)) :=
  ⟨h.r.other (by omega) _ _ _ _, h.l.other4 (by omega) _ _ _ _, h.m.set g a i n, below_set4 h.b' (by omega) _ _ _ _⟩
theorem chr0 (w : World) (u v : Value) : ChR w u v (0, 0, 0, 0) (((w.alloc (.cells #[.int .i64 0, .int .i64 0, .int .i64 0, .int .i64 0] 25)).alloc (.cells #[u, v] 26)).alloc (.cells #[.int .i64 0, .int .i64 0, .int .i64 0, .int .i64 0] 25)) := by
  have h1 : Below w.heap.size w (w.alloc (.cells #[.int .i64 0, .int .i64 0, .int .i64 0, .int .i64 0] 25)) := (Below.refl _ _).alloc (Nat.le_refl _) _
  have z1 : (w.alloc (.cells #[.int .i64 0, .int .i64 0, .int .i64 0, .int .i64 0] 25)).heap.size = w.heap.size + 1 := by show (w.heap.push _).size = _; simp
  have z2 : ((w.alloc (.cells #[.int .i64 0, .int .i64 0, .int .i64 0, .int .i64 0] 25)).alloc (.cells #[u, v] 26)).heap.size = w.heap.size + 1 + 1 := by show ((w.heap.push _).push _).size = _; simp
  have b1 : Below (w.alloc (.cells #[.int .i64 0, .int .i64 0, .int .i64 0, .int .i64 0] 25)).heap.size (w.alloc (.cells #[.int .i64 0, .int .i64 0, .int .i64 0, .int .i64 0] 25)) (((w.alloc (.cells #[.int .i64 0, .int .i64 0, .int .i64 0, .int .i64 0] 25)).alloc (.cells #[u, v] 26)).alloc (.cells #[.int .i64 0, .int .i64 0, .int .i64 0, .int .i64 0] 25)) := two_allocs _ _ _
  have hl := heap_alloc_new (w.alloc (.cells #[.int .i64 0, .int .i64 0, .int .i64 0, .int .i64 0] 25)) (.cells #[u, v] 26)
  have b2 : Below ((w.alloc (.cells #[.int .i64 0, .int .i64 0, .int .i64 0, .int .i64 0] 25)).alloc (.cells #[u, v] 26)).heap.size ((w.alloc (.cells #[.int .i64 0, .int .i64 0, .int .i64 0, .int .i64 0] 25)).alloc (.cells #[u, v] 26)) (((w.alloc (.cells #[.int .i64 0, .int .i64 0, .int .i64 0, .int .i64 0] 25)).alloc (.cells #[u, v] 26)).alloc (.cells #[.int .i64 0, .int .i64 0, .int .i64 0, .int .i64 0] 25)) := (Below.refl _ _).alloc (Nat.le_refl _) _
  have hm := heap_alloc_new ((w.alloc (.cells #[.int .i64 0, .int .i64 0, .int .i64 0, .int .i64 0] 25)).alloc (.cells #[u, v] 26)) (.cells #[.int .i64 0, .int .i64 0, .int .i64 0, .int .i64 0] 25)
  rw [z1] at hl
  rw [z2] at hm
  exact ⟨Row4.up (heap_alloc_new _ _) b1, RowL.up ⟨26, hl⟩ b2, hm, h1.trans (b1.mono (by omega))⟩
/-- The place behind a round. -/
def plB (l : List UInt8) (at' bl : Int) (b : Four) (p : Int) : Int := if takes l at' bl b = true then at' else p
theorem plB_no {l : List UInt8} {at' bl : Int} {b : Four} {p : Int} (h : takes l at' bl b = false) : plB l at' bl b p = p := by rw [plB, if_neg (by rw [h]; simp)]
theorem plB_yes {l : List UInt8} {at' bl : Int} {b : Four} {p : Int} (h : takes l at' bl b = true) : plB l at' bl b p = at' := by rw [plB, if_pos h]
/-- A place and a best one that go together. -/
def Fits (p : Int) (b : Four) : Prop := (p = -1 ∧ b = (0, 0, 0, 0)) ∨ (0 ≤ p ∧ p = b.1 % 2 ∧ 1 ≤ b.1)
theorem Fits.next {l : List UInt8} {at' bl : Int} {b : Four} {p : Int} (h : Fits p b) : Fits (plB l at' bl b p) (nextB l at' bl b) := by
  cases ht : takes l at' bl b
  · rw [nextB_no ht, plB_no ht]; exact h
  · rw [nextB_yes ht, plB_yes ht]
    simp only [takes, Bool.and_eq_true, decide_eq_true_eq] at ht
    have := (okS_iff.1 (getE_ok ht.1.1.1)).1
    exact .inr ⟨by omega, ht.1.1.2.symm, this⟩
set_option maxRecDepth 100000 in
set_option maxHeartbeats 4000000 in
theorem rchoose_any (sa sb : Option Addr) (na ca nb cb : Nat) (la lb : List UInt8) (bl : Int) (w : World) (hA : SaysR w (.slice sa na ca) la) (hB : SaysR w (.slice sb nb cb) lb) :
    Calls Tryd.prog 17 #[.slice sa na ca, .slice sb nb cb, .int .i64 bl] w fun e w' => e = .returned (.tuple #[.agg #[.int .i64 (chooseB la lb bl).1, .int .i64 (chooseB la lb bl).2.1, .int .i64 (chooseB la lb bl).2.2.1, .int .i64 (chooseB la lb bl).2.2.2], .int .i64 ((chooseB la lb bl).1 % 2), .int .i64 (chE (chooseB la lb bl))]) ∧ Below w.heap.size w w' := by
  have H0 : Hid (ChR w (.slice sa na ca) (.slice sb nb cb) (0, 0, 0, 0) (((w.alloc (.cells #[.int .i64 0, .int .i64 0, .int .i64 0, .int .i64 0] 25)).alloc (.cells #[.slice sa na ca, .slice sb nb cb] 26)).alloc (.cells #[.int .i64 0, .int .i64 0, .int .i64 0, .int .i64 0] 25))) := chr0 w _ _
  have HA : Hid (SaysR w (.slice sa na ca) la) := hA
  have HB : Hid (SaysR w (.slice sb nb cb) lb) := hB
  have HF1 : Fits (plB la 0 bl (0, 0, 0, 0) (-1)) (nextB la 0 bl (0, 0, 0, 0)) := Fits.next (.inl ⟨rfl, rfl⟩)
  have HF2 : Hid (Fits (plB lb 1 bl (nextB la 0 bl (0, 0, 0, 0)) (plB la 0 bl (0, 0, 0, 0) (-1))) (chooseB la lb bl)) := HF1.next
  obtain ⟨pa, HPA⟩ : ∃ pa, Hid (pa = plB la 0 bl (0, 0, 0, 0) (-1)) := ⟨_, rfl⟩
  rw [← HPA.out] at HF2
  obtain ⟨pb, HPB⟩ : ∃ pb, Hid (pb = plB lb 1 bl (nextB la 0 bl (0, 0, 0, 0)) pa) := ⟨_, rfl⟩
  rw [← HPB.out] at HF2
  clear hA hB HF1
  go_enter Tryd.func17, Tryd.ntmps17
  go_wp2
  go_loopw [11, 12] (fun p v wr => (p = .int .i64 (-1) ∧ v = .int .i64 0 ∧ ChR w (.slice sa na ca) (.slice sb nb cb) (0, 0, 0, 0) wr) ∨ (p = .int .i64 pa ∧ v = .int .i64 1 ∧ ChR w (.slice sa na ca) (.slice sb nb cb) (nextB la 0 bl (0, 0, 0, 0)) wr) ∨ (p = .int .i64 pb ∧ v = .int .i64 2 ∧ ChR w (.slice sa na ca) (.slice sb nb cb) (chooseB la lb bl) wr)) (fun _ v _ => 2 - (intOf v).toNat)
  case atStart => exact .inl ⟨rfl, rfl, H0.out⟩
  case round =>
    clear H0
    rcases hrel with ⟨rfl, rfl, hC⟩ | ⟨rfl, rfl, hC⟩ | ⟨rfl, rfl, hC⟩
    · have SAY := HA.out wr hC.b'
      have HC : Hid (ChR w (.slice sa na ca) (.slice sb nb cb) ((0, 0, 0, 0) : Four) wr) := hC
      have l0 := hC.l.c0
      have l1 := hC.l.c1
      clear hC
      by_cases hE : getE la = 0
      · rw [getX_ok hE, getX_ok hE, getX_ok hE, getX_ok hE, hE] at SAY
        obtain ⟨q1, q2, hgeo⟩ := okS_iff.1 (getE_ok hE)
        have hpr := hgeo.prod
        have SZ := fun W => rsize_ok hgeo W
        by_cases hP : rdG la % 2 = 0
        · by_cases hS : 2 + (rdN la : Int) * rdA la ≤ bl
          · by_cases hG : ((0, 0, 0, 0) : Four).1 < rdG la
            · have HT : Hid (takes la 0 bl ((0, 0, 0, 0) : Four) = true) := by show _ = _; simp [takes, hE, hP, hS, hG]
              have hP1 : (rdG la % 2 == 0) = true := beq_iff_eq.2 hP
              go_wp2_with fail
              refine SAY.mono ?_
              rintro e w1 ⟨rfl, hb1⟩
              clear SAY l0 l1
              have HC1 : Hid (ChR w (.slice sa na ca) (.slice sb nb cb) ((0, 0, 0, 0) : Four) w1) := HC.out.up hb1
              have HR1 : Hid (Row4 (w1.alloc (.cells #[.int .i64 (rdG la), .int .i64 (rdA la), .int .i64 (rdI la), .int .i64 (rdN la)] 25)) w1.heap.size 25 (rdG la) (rdA la) (rdI la) (rdN la)) := heap_alloc_new _ _
              have HC2 : Hid (ChR w (.slice sa na ca) (.slice sb nb cb) ((0, 0, 0, 0) : Four) (w1.alloc (.cells #[.int .i64 (rdG la), .int .i64 (rdA la), .int .i64 (rdI la), .int .i64 (rdN la)] 25))) := HC1.out.up ((Below.refl _ _).alloc (Nat.le_refl _) _)
              go_wp2_with fail
              refine (SZ _).mono ?_
              rintro e w3 ⟨rfl, hb3⟩
              have HC4 : Hid (ChR w (.slice sa na ca) (.slice sb nb cb) ((0, 0, 0, 0) : Four) w3) := HC2.out.up hb3
              have HR4 : Hid (Row4 w3 w1.heap.size 25 (rdG la) (rdA la) (rdI la) (rdN la)) := HR1.out.up hb3
              have x0 := HR4.out.c0
              have x1 := HR4.out.c1
              have x2 := HR4.out.c2
              have x3 := HR4.out.c3
              have m0 := HC4.out.m.c0
              have m1 := HC4.out.m.c1
              have m2 := HC4.out.m.c2
              have m3 := HC4.out.m.c3
              have f0 := HC4.out.m.fr 0
              have f1 := HC4.out.m.fr 1
              have f2 := HC4.out.m.fr 2
              have f3 := HC4.out.m.fr 3
              go_wp2
              go_roundw
              case rel => exact .inr (.inl ⟨by rw [HPA.out, plB_yes HT.out], by go_num, by show ChR w (.slice sa na ca) (.slice sb nb cb) (nextB la 0 bl ((0, 0, 0, 0) : Four)) _; rw [nextB_yes HT.out]; exact HC4.out.set _ _ _ _⟩)
              case measure => simp [intOf]
            · exact absurd (show (0 : Int) < rdG la by omega) hG
          · have HT : Hid (takes la 0 bl ((0, 0, 0, 0) : Four) = false) := by show _ = _; simp [takes, hE, hP, hS]
            have hP1 : (rdG la % 2 == 0) = true := beq_iff_eq.2 hP
            go_wp2_with fail
            refine SAY.mono ?_
            rintro e w1 ⟨rfl, hb1⟩
            clear SAY l0 l1
            have HC1 : Hid (ChR w (.slice sa na ca) (.slice sb nb cb) ((0, 0, 0, 0) : Four) w1) := HC.out.up hb1
            have HR1 : Hid (Row4 (w1.alloc (.cells #[.int .i64 (rdG la), .int .i64 (rdA la), .int .i64 (rdI la), .int .i64 (rdN la)] 25)) w1.heap.size 25 (rdG la) (rdA la) (rdI la) (rdN la)) := heap_alloc_new _ _
            have HC2 : Hid (ChR w (.slice sa na ca) (.slice sb nb cb) ((0, 0, 0, 0) : Four) (w1.alloc (.cells #[.int .i64 (rdG la), .int .i64 (rdA la), .int .i64 (rdI la), .int .i64 (rdN la)] 25))) := HC1.out.up ((Below.refl _ _).alloc (Nat.le_refl _) _)
            go_wp2_with fail
            refine (SZ _).mono ?_
            rintro e w3 ⟨rfl, hb3⟩
            have HC4 : Hid (ChR w (.slice sa na ca) (.slice sb nb cb) ((0, 0, 0, 0) : Four) w3) := HC2.out.up hb3
            have HR4 : Hid (Row4 w3 w1.heap.size 25 (rdG la) (rdA la) (rdI la) (rdN la)) := HR1.out.up hb3
            go_wp2
            go_roundw
            case rel => exact .inr (.inl ⟨by rw [HPA.out, plB_no HT.out], by go_num, by show ChR w (.slice sa na ca) (.slice sb nb cb) (nextB la 0 bl ((0, 0, 0, 0) : Four)) _; rw [nextB_no HT.out]; exact HC4.out⟩)
            case measure => simp [intOf]
        · have hP1 : (rdG la % 2 == 0) = false := beq_eq_false_iff_ne.2 hP
          have HT : Hid (takes la 0 bl ((0, 0, 0, 0) : Four) = false) := by show _ = _; simp [takes, hE, hP]
          go_wp2_with fail
          refine SAY.mono ?_
          rintro e w1 ⟨rfl, hb1⟩
          clear SAY l0 l1
          have HC1 : Hid (ChR w (.slice sa na ca) (.slice sb nb cb) ((0, 0, 0, 0) : Four) w1) := HC.out.up hb1
          have HR1 : Hid (Row4 (w1.alloc (.cells #[.int .i64 (rdG la), .int .i64 (rdA la), .int .i64 (rdI la), .int .i64 (rdN la)] 25)) w1.heap.size 25 (rdG la) (rdA la) (rdI la) (rdN la)) := heap_alloc_new _ _
          have HC2 : Hid (ChR w (.slice sa na ca) (.slice sb nb cb) ((0, 0, 0, 0) : Four) (w1.alloc (.cells #[.int .i64 (rdG la), .int .i64 (rdA la), .int .i64 (rdI la), .int .i64 (rdN la)] 25))) := HC1.out.up ((Below.refl _ _).alloc (Nat.le_refl _) _)
          go_wp2
          go_roundw
          case rel => exact .inr (.inl ⟨by rw [HPA.out, plB_no HT.out], by go_num, by show ChR w (.slice sa na ca) (.slice sb nb cb) (nextB la 0 bl ((0, 0, 0, 0) : Four)) _; rw [nextB_no HT.out]; exact HC2.out⟩)
          case measure => simp [intOf]
      · have hE1 : (getE la == 0) = false := beq_eq_false_iff_ne.2 hE
        have HT : Hid (takes la 0 bl ((0, 0, 0, 0) : Four) = false) := by show _ = _; simp [takes, hE]
        go_wp2_with fail
        refine SAY.mono ?_
        rintro e w1 ⟨rfl, hb1⟩
        clear SAY l0 l1
        have HC1 : Hid (ChR w (.slice sa na ca) (.slice sb nb cb) ((0, 0, 0, 0) : Four) w1) := HC.out.up hb1
        have HR1 : Hid (Row4 (w1.alloc (.cells #[.int .i64 (getX (rdG la) la), .int .i64 (getX (rdA la) la), .int .i64 (getX (rdI la) la), .int .i64 (getX (rdN la) la)] 25)) w1.heap.size 25 (getX (rdG la) la) (getX (rdA la) la) (getX (rdI la) la) (getX (rdN la) la)) := heap_alloc_new _ _
        have HC2 : Hid (ChR w (.slice sa na ca) (.slice sb nb cb) ((0, 0, 0, 0) : Four) (w1.alloc (.cells #[.int .i64 (getX (rdG la) la), .int .i64 (getX (rdA la) la), .int .i64 (getX (rdI la) la), .int .i64 (getX (rdN la) la)] 25))) := HC1.out.up ((Below.refl _ _).alloc (Nat.le_refl _) _)
        go_wp2
        go_roundw
        case rel => exact .inr (.inl ⟨by rw [HPA.out, plB_no HT.out], by go_num, by show ChR w (.slice sa na ca) (.slice sb nb cb) (nextB la 0 bl ((0, 0, 0, 0) : Four)) _; rw [nextB_no HT.out]; exact HC2.out⟩)
        case measure => simp [intOf]
    · have SAY := HB.out wr hC.b'
      have HC : Hid (ChR w (.slice sa na ca) (.slice sb nb cb) (nextB la 0 bl (0, 0, 0, 0)) wr) := hC
      have l0 := hC.l.c0
      have l1 := hC.l.c1
      clear hC
      by_cases hE : getE lb = 0
      · rw [getX_ok hE, getX_ok hE, getX_ok hE, getX_ok hE, hE] at SAY
        obtain ⟨q1, q2, hgeo⟩ := okS_iff.1 (getE_ok hE)
        have hpr := hgeo.prod
        have SZ := fun W => rsize_ok hgeo W
        by_cases hP : rdG lb % 2 = 1
        · by_cases hS : 2 + (rdN lb : Int) * rdA lb ≤ bl
          · by_cases hG : (nextB la 0 bl (0, 0, 0, 0)).1 < rdG lb
            · have HT : Hid (takes lb 1 bl (nextB la 0 bl (0, 0, 0, 0)) = true) := by show _ = _; simp [takes, hE, hP, hS, hG]
              have hP1 : (rdG lb % 2 == 1) = true := beq_iff_eq.2 hP
              go_wp2_with fail
              refine SAY.mono ?_
              rintro e w1 ⟨rfl, hb1⟩
              clear SAY l0 l1
              have HC1 : Hid (ChR w (.slice sa na ca) (.slice sb nb cb) (nextB la 0 bl (0, 0, 0, 0)) w1) := HC.out.up hb1
              have HR1 : Hid (Row4 (w1.alloc (.cells #[.int .i64 (rdG lb), .int .i64 (rdA lb), .int .i64 (rdI lb), .int .i64 (rdN lb)] 25)) w1.heap.size 25 (rdG lb) (rdA lb) (rdI lb) (rdN lb)) := heap_alloc_new _ _
              have HC2 : Hid (ChR w (.slice sa na ca) (.slice sb nb cb) (nextB la 0 bl (0, 0, 0, 0)) (w1.alloc (.cells #[.int .i64 (rdG lb), .int .i64 (rdA lb), .int .i64 (rdI lb), .int .i64 (rdN lb)] 25))) := HC1.out.up ((Below.refl _ _).alloc (Nat.le_refl _) _)
              go_wp2_with fail
              refine (SZ _).mono ?_
              rintro e w3 ⟨rfl, hb3⟩
              have HC4 : Hid (ChR w (.slice sa na ca) (.slice sb nb cb) (nextB la 0 bl (0, 0, 0, 0)) w3) := HC2.out.up hb3
              have HR4 : Hid (Row4 w3 w1.heap.size 25 (rdG lb) (rdA lb) (rdI lb) (rdN lb)) := HR1.out.up hb3
              have x0 := HR4.out.c0
              have x1 := HR4.out.c1
              have x2 := HR4.out.c2
              have x3 := HR4.out.c3
              have m0 := HC4.out.m.c0
              have m1 := HC4.out.m.c1
              have m2 := HC4.out.m.c2
              have m3 := HC4.out.m.c3
              have f0 := HC4.out.m.fr 0
              have f1 := HC4.out.m.fr 1
              have f2 := HC4.out.m.fr 2
              have f3 := HC4.out.m.fr 3
              go_wp2
              go_roundw
              case rel => exact .inr (.inr ⟨by rw [HPB.out, plB_yes HT.out], by go_num, by show ChR w (.slice sa na ca) (.slice sb nb cb) (nextB lb 1 bl (nextB la 0 bl (0, 0, 0, 0))) _; rw [nextB_yes HT.out]; exact HC4.out.set _ _ _ _⟩)
              case measure => simp [intOf]
            · have HT : Hid (takes lb 1 bl (nextB la 0 bl (0, 0, 0, 0)) = false) := by show _ = _; simp [takes, hE, hP, hS]; omega
              have hP1 : (rdG lb % 2 == 1) = true := beq_iff_eq.2 hP
              go_wp2_with fail
              refine SAY.mono ?_
              rintro e w1 ⟨rfl, hb1⟩
              clear SAY l0 l1
              have HC1 : Hid (ChR w (.slice sa na ca) (.slice sb nb cb) (nextB la 0 bl (0, 0, 0, 0)) w1) := HC.out.up hb1
              have HR1 : Hid (Row4 (w1.alloc (.cells #[.int .i64 (rdG lb), .int .i64 (rdA lb), .int .i64 (rdI lb), .int .i64 (rdN lb)] 25)) w1.heap.size 25 (rdG lb) (rdA lb) (rdI lb) (rdN lb)) := heap_alloc_new _ _
              have HC2 : Hid (ChR w (.slice sa na ca) (.slice sb nb cb) (nextB la 0 bl (0, 0, 0, 0)) (w1.alloc (.cells #[.int .i64 (rdG lb), .int .i64 (rdA lb), .int .i64 (rdI lb), .int .i64 (rdN lb)] 25))) := HC1.out.up ((Below.refl _ _).alloc (Nat.le_refl _) _)
              go_wp2_with fail
              refine (SZ _).mono ?_
              rintro e w3 ⟨rfl, hb3⟩
              have HC4 : Hid (ChR w (.slice sa na ca) (.slice sb nb cb) (nextB la 0 bl (0, 0, 0, 0)) w3) := HC2.out.up hb3
              have HR4 : Hid (Row4 w3 w1.heap.size 25 (rdG lb) (rdA lb) (rdI lb) (rdN lb)) := HR1.out.up hb3
              have x0 := HR4.out.c0
              have x1 := HR4.out.c1
              have x2 := HR4.out.c2
              have x3 := HR4.out.c3
              have m0 := HC4.out.m.c0
              go_wp2
              go_roundw
              case rel => exact .inr (.inr ⟨by rw [HPB.out, plB_no HT.out], by go_num, by show ChR w (.slice sa na ca) (.slice sb nb cb) (nextB lb 1 bl (nextB la 0 bl (0, 0, 0, 0))) _; rw [nextB_no HT.out]; exact HC4.out⟩)
              case measure => simp [intOf]
          · have HT : Hid (takes lb 1 bl (nextB la 0 bl (0, 0, 0, 0)) = false) := by show _ = _; simp [takes, hE, hP, hS]
            have hP1 : (rdG lb % 2 == 1) = true := beq_iff_eq.2 hP
            go_wp2_with fail
            refine SAY.mono ?_
            rintro e w1 ⟨rfl, hb1⟩
            clear SAY l0 l1
            have HC1 : Hid (ChR w (.slice sa na ca) (.slice sb nb cb) (nextB la 0 bl (0, 0, 0, 0)) w1) := HC.out.up hb1
            have HR1 : Hid (Row4 (w1.alloc (.cells #[.int .i64 (rdG lb), .int .i64 (rdA lb), .int .i64 (rdI lb), .int .i64 (rdN lb)] 25)) w1.heap.size 25 (rdG lb) (rdA lb) (rdI lb) (rdN lb)) := heap_alloc_new _ _
            have HC2 : Hid (ChR w (.slice sa na ca) (.slice sb nb cb) (nextB la 0 bl (0, 0, 0, 0)) (w1.alloc (.cells #[.int .i64 (rdG lb), .int .i64 (rdA lb), .int .i64 (rdI lb), .int .i64 (rdN lb)] 25))) := HC1.out.up ((Below.refl _ _).alloc (Nat.le_refl _) _)
            go_wp2_with fail
            refine (SZ _).mono ?_
            rintro e w3 ⟨rfl, hb3⟩
            have HC4 : Hid (ChR w (.slice sa na ca) (.slice sb nb cb) (nextB la 0 bl (0, 0, 0, 0)) w3) := HC2.out.up hb3
            have HR4 : Hid (Row4 w3 w1.heap.size 25 (rdG lb) (rdA lb) (rdI lb) (rdN lb)) := HR1.out.up hb3
            go_wp2
            go_roundw
            case rel => exact .inr (.inr ⟨by rw [HPB.out, plB_no HT.out], by go_num, by show ChR w (.slice sa na ca) (.slice sb nb cb) (nextB lb 1 bl (nextB la 0 bl (0, 0, 0, 0))) _; rw [nextB_no HT.out]; exact HC4.out⟩)
            case measure => simp [intOf]
        · have hP1 : (rdG lb % 2 == 1) = false := beq_eq_false_iff_ne.2 hP
          have HT : Hid (takes lb 1 bl (nextB la 0 bl (0, 0, 0, 0)) = false) := by show _ = _; simp [takes, hE, hP]
          go_wp2_with fail
          refine SAY.mono ?_
          rintro e w1 ⟨rfl, hb1⟩
          clear SAY l0 l1
          have HC1 : Hid (ChR w (.slice sa na ca) (.slice sb nb cb) (nextB la 0 bl (0, 0, 0, 0)) w1) := HC.out.up hb1
          have HR1 : Hid (Row4 (w1.alloc (.cells #[.int .i64 (rdG lb), .int .i64 (rdA lb), .int .i64 (rdI lb), .int .i64 (rdN lb)] 25)) w1.heap.size 25 (rdG lb) (rdA lb) (rdI lb) (rdN lb)) := heap_alloc_new _ _
          have HC2 : Hid (ChR w (.slice sa na ca) (.slice sb nb cb) (nextB la 0 bl (0, 0, 0, 0)) (w1.alloc (.cells #[.int .i64 (rdG lb), .int .i64 (rdA lb), .int .i64 (rdI lb), .int .i64 (rdN lb)] 25))) := HC1.out.up ((Below.refl _ _).alloc (Nat.le_refl _) _)
          go_wp2
          go_roundw
          case rel => exact .inr (.inr ⟨by rw [HPB.out, plB_no HT.out], by go_num, by show ChR w (.slice sa na ca) (.slice sb nb cb) (nextB lb 1 bl (nextB la 0 bl (0, 0, 0, 0))) _; rw [nextB_no HT.out]; exact HC2.out⟩)
          case measure => simp [intOf]
      · have hE1 : (getE lb == 0) = false := beq_eq_false_iff_ne.2 hE
        have HT : Hid (takes lb 1 bl (nextB la 0 bl (0, 0, 0, 0)) = false) := by show _ = _; simp [takes, hE]
        go_wp2_with fail
        refine SAY.mono ?_
        rintro e w1 ⟨rfl, hb1⟩
        clear SAY l0 l1
        have HC1 : Hid (ChR w (.slice sa na ca) (.slice sb nb cb) (nextB la 0 bl (0, 0, 0, 0)) w1) := HC.out.up hb1
        have HR1 : Hid (Row4 (w1.alloc (.cells #[.int .i64 (getX (rdG lb) lb), .int .i64 (getX (rdA lb) lb), .int .i64 (getX (rdI lb) lb), .int .i64 (getX (rdN lb) lb)] 25)) w1.heap.size 25 (getX (rdG lb) lb) (getX (rdA lb) lb) (getX (rdI lb) lb) (getX (rdN lb) lb)) := heap_alloc_new _ _
        have HC2 : Hid (ChR w (.slice sa na ca) (.slice sb nb cb) (nextB la 0 bl (0, 0, 0, 0)) (w1.alloc (.cells #[.int .i64 (getX (rdG lb) lb), .int .i64 (getX (rdA lb) lb), .int .i64 (getX (rdI lb) lb), .int .i64 (getX (rdN lb) lb)] 25))) := HC1.out.up ((Below.refl _ _).alloc (Nat.le_refl _) _)
        go_wp2
        go_roundw
        case rel => exact .inr (.inr ⟨by rw [HPB.out, plB_no HT.out], by go_num, by show ChR w (.slice sa na ca) (.slice sb nb cb) (nextB lb 1 bl (nextB la 0 bl (0, 0, 0, 0))) _; rw [nextB_no HT.out]; exact HC2.out⟩)
        case measure => simp [intOf]
    · obtain ⟨b, HBe⟩ : ∃ b, Hid (chooseB la lb bl = b) := ⟨_, rfl⟩
      have HC : Hid (ChR w (.slice sa na ca) (.slice sb nb cb) b wr) := by have := hC; rw [HBe.out] at this; exact this
      have HB2 : Hid (Fits pb b) := by have := HF2.out; rw [HBe.out] at this; exact this
      clear hC HF2 HA HB HPA HPB
      rcases HB2.out with ⟨hp, hz⟩ | ⟨hp, hz, hone⟩
      · subst hz
        subst hp
        have r0 := HC.out.r.c0
        have r1 := HC.out.r.c1
        have r2 := HC.out.r.c2
        have r3 := HC.out.r.c3
        have f0 := HC.out.r.fr 0
        have f1 := HC.out.r.fr 1
        have f2 := HC.out.r.fr 2
        have f3 := HC.out.r.fr 3
        go_wp2
        refine bodyPost_ret (results_rsup3 rfl _ _ w.heap.size 0 0 0 0 rfl (HC.out.r.set 0 0 0 0)) rfl ?_
        exact ⟨by rw [HBe.out]; rfl, below_set4 HC.out.b' (Nat.le_refl _) _ _ _ _⟩
      · obtain ⟨g, a, i, n⟩ := b
        have HZ : Hid (pb = g % 2) := hz
        have HO : Hid (1 ≤ g) := hone
        have m0 := HC.out.m.c0
        have m1 := HC.out.m.c1
        have m2 := HC.out.m.c2
        have m3 := HC.out.m.c3
        have r0 := HC.out.r.c0
        have r1 := HC.out.r.c1
        have r2 := HC.out.r.c2
        have r3 := HC.out.r.c3
        have f0 := HC.out.r.fr 0
        have f1 := HC.out.r.fr 1
        have f2 := HC.out.r.fr 2
        have f3 := HC.out.r.fr 3
        clear hz hone
        go_wp2
        refine bodyPost_ret (results_rsup3 rfl _ _ w.heap.size g a i n rfl (HC.out.r.set g a i n)) rfl ?_
        exact ⟨by rw [HBe.out, show chE (g, a, i, n) = 0 from if_neg (by have := HO.out; show ¬ g = 0; omega), HZ.out]; rfl, below_set4 HC.out.b' (Nat.le_refl _) _ _ _ _⟩
end Go.Proofs.YtjdfkbpadhndlaaDoor
