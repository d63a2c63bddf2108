/- The document's store: may. -/
import Derived.Test.YtadadidccbhopaaGreatJRdisk7
import Derived.Deep.CutBlock
import Derived.Deep.DeepCutAuto
import Derived.Deep.RegionWith
namespace Go.Proofs.YtadadidccbhopaaGreat
open Go.RowKit
set_option maxRecDepth 100000
/-- What is known of the changes in the list. -/
structure LOk (w : World) (L : List RCh) : Prop where
  len : L.length ≤ 1000
  bd : ∀ c ∈ L, c.b ≤ 1000 ∧ c.fr ≤ 1000 ∧ c.d.length ≤ 1000
  sr : ∀ c ∈ L, SrcI w c.ap c.A ∧ c.A.length ≤ c.ac ∧ (c.ac : Int) ≤ 9223372036854775807
/-- The block of the change at a place. -/
def bAt (L : List RCh) (k : Int) : Int := match L[k.toNat]? with
  | some c => (c.b : Int)
  | none => -1
/-- A number that holds a change of block n up. -/
def badA (L : List RCh) (V : Nat → Bool) (n a : Int) : Bool := decide (0 ≤ findI L a 0) && (!decide (bAt L (findI L a 0) = n) || !V (findI L a 0).toNat)
/-- One ahead that does. -/
def badM (L : List RCh) (V : Nat → Bool) (c : RCh) (m : Nat) : Bool := match L[m]? with
  | some d => meetR d c && !V m
  | none => false
theorem findI_lt : ∀ (L : List RCh) (x : Int) (k : Nat), findI L x k < (k : Int) + L.length ∧ (findI L x k = -1 ∨ (k : Int) ≤ findI L x k)
  | [], x, k => by simp [findI]; omega
  | c :: L, x, k => by
    unfold findI
    split
    · simp; omega
    · have := findI_lt L x (k + 1)
      simp only [List.length_cons]
      omega
section
variable {w : World} {q d : Nat} {vB : Value} {ao : Option Addr} {ca : Nat} {L : List RCh} {last : Nat}
set_option maxHeartbeats 8000000 in
theorem rmay_any (h : RAt w q d vB ao ca L last) (hk : LOk w L) (n : Int) (V : Nat → Bool) (hV : ∀ (i : Nat) (c : RCh), L[i]? = some c → V i = (decide ((c.b : Int) = n) && (!c.A.any (badA L V n) && !(List.range i).any (badM L V c)))) (hf : ∀ (i : Nat) (c : RCh), L[i]? = some c → ∀ a ∈ c.A, findI L a 0 < (i : Int)) :
    Calls Tryz.prog 109 #[.pointer (some ⟨q, 0, none⟩), .int .i64 n] w fun e w' => e = .returned (.slice (some ⟨w.heap.size, 0, none⟩) L.length L.length) ∧ RowB w' w.heap.size (upTo V L.length L.length) ∧ Below w.heap.size w w' := by
  have HR : Hid (RAt w q d vB ao ca L last) := h
  have HK : Hid (LOk w L) := hk
  have HV : Hid (∀ (i : Nat) (c : RCh), L[i]? = some c → V i = (decide ((c.b : Int) = n) && (!c.A.any (badA L V n) && !(List.range i).any (badM L V c)))) := hV
  have HF : Hid (∀ (i : Nat) (c : RCh), L[i]? = some c → ∀ a ∈ c.A, findI L a 0 < (i : Int)) := hf
  have c2 := h.c2
  have hl1 : (L.length : Int) ≤ 1000 := by have := hk.len; omega
  have hca : (ca : Int) ≤ 9223372036854775807 := h.ls.cap.2
  have MB := fun W => make_bools W L.length (by have := hk.len; omega)
  have HQ : Hid (q < w.heap.size) := (Array.getElem?_eq_some_iff.1 h.at').1
  clear h hk hV hf
  go_enter Tryz.func109, Tryz.ntmps109
  go_wp2_with fail
  have HS0 : Hid (Below w.heap.size w (w.alloc (.cells (bvl (List.replicate L.length false)).toArray 4)) ∧ RowB (w.alloc (.cells (bvl (List.replicate L.length false)).toArray 4)) w.heap.size (upTo V 0 L.length)) := ⟨(Below.refl _ _).alloc (Nat.le_refl _) _, by rw [upTo_zero]; exact heap_alloc_new _ _⟩
  clear MB
  generalize w.alloc (.cells (bvl (List.replicate L.length false)).toArray 4) = W0 at *
  go_loopg [6, 7, 8, 9] 1000 (fun gg t6 _ _ _ W => ∃ (gw : World) (i : Nat), gw = W ∧ i ≤ L.length ∧ L.length - i ≤ gg ∧ t6 = .int .i64 i ∧ Hid (Below w.heap.size w gw ∧ RowB gw w.heap.size (upTo V i L.length)))
  case atStart => exact ⟨_, 0, rfl, by omega, by omega, rfl, HS0.out⟩
  case round =>
    clear HS0
    obtain ⟨gw, i, rfl, hi, hgi, rfl, HG⟩ := hrel
    have c2' : gw.cell? ⟨q, 2, none⟩ = some (.slice ao L.length ca) := (HG.out.1.cell (p := ⟨q, 2, none⟩) HQ.out).trans c2
    by_cases hlt : (i : Int) < (L.length : Int)
    · obtain ⟨c, hc⟩ : ∃ c, L[i]? = some c := ⟨_, List.getElem?_eq_getElem (by omega)⟩
      obtain ⟨g, rfl, hgl, hcc⟩ : ∃ g, ao = some ⟨g, 0, none⟩ ∧ g < w.heap.size ∧ ∀ (i : Nat) (c : RCh), L[i]? = some c → ∀ (j : Nat) (v : Value), (rcL c)[j]? = some v → w.cell? ⟨g, i * 6 + j, none⟩ = some v := by
        rcases HR.out.ls.cells with e | h
        · rw [e] at hc; cases hc
        · exact h
      have HCC : Hid (∀ (i : Nat) (c : RCh), L[i]? = some c → ∀ (j : Nat) (v : Value), (rcL c)[j]? = some v → w.cell? ⟨g, i * 6 + j, none⟩ = some v) := hcc
      have d1 : gw.cell? ⟨g, i * 6 + 1, none⟩ = some (.int .i64 (c.b : Int)) := (HG.out.1.cell (p := ⟨g, i * 6 + 1, none⟩) hgl).trans (hcc i c hc 1 _ rfl)
      have HC : Hid (L[i]? = some c) := hc
      clear hcc hc
      by_cases hb : (c.b : Int) = n
      · have hbb : ((c.b : Int) == n) = true := by simpa using hb
        have hbn : ((c.b : Int) != n) = false := by simpa using hb
        have HBN : Hid ((c.b : Int) = n) := hb
        have fz := HG.out.2.frozen i
        obtain ⟨cb0, hcb0⟩ : ∃ b, gw.cell? ⟨w.heap.size, i, none⟩ = some (.bool b) := ⟨_, HG.out.2.cell (List.getElem?_eq_getElem (by rw [upTo_length]; omega))⟩
        clear hb
        go_upto_region 7 with fail
        have HG1 : Hid (Below w.heap.size w (gw.setCell ⟨w.heap.size, i, none⟩ (.bool true)) ∧ RowB (gw.setCell ⟨w.heap.size, i, none⟩ (.bool true)) w.heap.size ((upTo V i L.length).set i true)) := ⟨HG.out.1.setCell (Nat.le_refl _) _, HG.out.2.set i true⟩
        have HAL : Hid (SrcI w c.ap c.A ∧ c.A.length ≤ c.ac ∧ (c.ac : Int) ≤ 9223372036854775807) := HK.out.sr c (List.mem_of_getElem? HC.out)
        have hacl : (c.A.length : Int) ≤ 9223372036854775807 := by have := HAL.out; omega
        clear fz hcb0 d1 c2' HG
        generalize gw.setCell ⟨w.heap.size, i, none⟩ (.bool true) = W1 at *
        go_wp2_with fail
        go_loopg [7, 8] c.A.length (fun gg t7 _ W => ∃ (g2 : World) (j : Nat), g2 = W ∧ j ≤ c.A.length ∧ c.A.length - j ≤ gg ∧ t7 = .int .i64 j ∧ Hid (Below w.heap.size w g2 ∧ RowB g2 w.heap.size ((upTo V i L.length).set i (!(c.A.take j).any (badA L V n)))))
        case atStart => exact ⟨_, 0, rfl, by omega, by omega, rfl, HG1.out⟩
        case round =>
          clear HG1
          obtain ⟨g2, j, rfl, hj, hgj, rfl, H2⟩ := hrel
          have c2' : g2.cell? ⟨q, 2, none⟩ = some (.slice (some ⟨g, 0, none⟩) L.length ca) := (H2.out.1.cell (p := ⟨q, 2, none⟩) HQ.out).trans c2
          have d4 : g2.cell? ⟨g, i * 6 + 4, none⟩ = some (.slice c.ap c.A.length c.ac) := (H2.out.1.cell (p := ⟨g, i * 6 + 4, none⟩) hgl).trans (HCC.out i c HC.out 4 _ rfl)
          by_cases hjl : (j : Int) < (c.A.length : Int)
          · obtain ⟨yb, yo, y, hap, hyc, hym, hyt⟩ : ∃ yb yo y, c.ap = some ⟨yb, yo, none⟩ ∧ g2.cell? ⟨yb, yo + j, none⟩ = some (.int .i64 y) ∧ y ∈ c.A ∧ c.A.take (j + 1) = c.A.take j ++ [y] := by
              rcases HAL.out.1 with e | ⟨yb, yo, e, hl, hcc⟩
              · have : c.A.length = 0 := by rw [e]; rfl
                omega
              · have hjn : j < c.A.length := by omega
                refine ⟨yb, yo, c.A.getD j 0, e, (H2.out.1.cell (p := ⟨yb, yo + j, none⟩) hl).trans (hcc j hjn), getD_mem hjn, ?_⟩
                rw [List.take_add_one, List.getElem?_eq_getElem hjn, List.getD_eq_getElem?_getD, List.getElem?_eq_getElem hjn]
                rfl
            rw [hap] at d4
            have FI := rfind_any (HR.out.up H2.out.1) (by have := HK.out.len; omega) y
            obtain ⟨hf1, hf2⟩ := findI_lt L y 0
            have hfi := HF.out i c HC.out y hym
            obtain ⟨bad, hbad⟩ : ∃ bad, badA L V n y = bad := ⟨_, rfl⟩
            have HBAD : Hid (badA L V n y = bad) := hbad
            have HNX : Hid ((!(c.A.take (j + 1)).any (badA L V n)) = (!(c.A.take j).any (badA L V n) && !bad)) := by
              show _ = _
              rw [hyt, List.any_append, ← hbad]
              simp
            obtain ⟨kf, hkf⟩ : ∃ kf, findI L y 0 = kf := ⟨_, rfl⟩
            rw [hkf] at FI hf1 hf2 hfi
            have HKF : Hid (findI L y 0 = kf) := hkf
            clear hbad hkf hap hym hyt
            go_wp2_with (first | (go_at_call 115; refine Hid.out ?_))
            change Calls _ _ _ _ _
            refine FI.mono ?_
            clear FI
            rintro r w3 ⟨rfl, hw3⟩
            obtain rfl : g2 = w3 := hw3.symm
            go_upto_region 11 with fail
            go_cut [84] (fun t wc => t = .bool bad ∧ wc = g2)
            case first =>
              by_cases hk0 : 0 ≤ kf
              · obtain ⟨nk, rfl⟩ : ∃ nk : Nat, kf = (nk : Int) := ⟨kf.toNat, by omega⟩
                obtain ⟨e, he⟩ : ∃ e, L[nk]? = some e := ⟨_, List.getElem?_eq_getElem (by omega)⟩
                have hnl : (nk : Int) < (L.length : Int) := by omega
                have e1 : g2.cell? ⟨g, nk * 6 + 1, none⟩ = some (.int .i64 (e.b : Int)) := (H2.out.1.cell (p := ⟨g, nk * 6 + 1, none⟩) hgl).trans (HCC.out nk e he 1 _ rfl)
                have e2 : g2.cell? ⟨w.heap.size, nk, none⟩ = some (.bool (V nk)) := H2.out.2.cell (by rw [List.getElem?_set_ne (by omega)]; exact upTo_get (by omega) (by omega))
                have HB2 : Hid (bad = (!decide ((e.b : Int) = n) || !V nk)) := by
                  show _ = _
                  rw [← HBAD.out]
                  unfold badA bAt
                  rw [HKF.out, Int.toNat_natCast, he, decide_eq_true (by omega)]
                  simp
                clear HBAD HKF he hf1 hf2
                generalize V nk = vn at *
                by_cases hen : (e.b : Int) = n
                · have henb : ((e.b : Int) == n) = true := by simpa using hen
                  have HEN : Hid ((e.b : Int) = n) := hen
                  clear hen
                  cases vn with
                  | true =>
                    go_wp2_with fail
                    go_meet
                    exact ⟨by rw [HB2.out, decide_eq_true HEN.out]; rfl, rfl⟩
                  | false =>
                    go_wp2_with fail
                    go_meet
                    exact ⟨by rw [HB2.out, decide_eq_true HEN.out]; rfl, rfl⟩
                · have henb : ((e.b : Int) == n) = false := by simpa using hen
                  have HEN : Hid (¬ (e.b : Int) = n) := hen
                  clear hen
                  go_wp2_with fail
                  go_meet
                  exact ⟨by rw [HB2.out, decide_eq_false HEN.out]; rfl, rfl⟩
              · have HB2 : Hid (bad = false) := by
                  show _ = _
                  rw [← HBAD.out]
                  unfold badA
                  rw [HKF.out, decide_eq_false hk0]; rfl
                clear HBAD HKF
                go_wp2_with fail
                go_meet
                exact ⟨by rw [HB2.out], rfl⟩
            case rest =>
              obtain ⟨rfl, hwc⟩ := hcut
              obtain rfl : g2 = wc := hwc.symm
              clear d4 hyc HBAD HKF hf1 hf2 hfi
              cases bad with
              | true =>
                have fz := H2.out.2.frozen i
                obtain ⟨cb0, hcb0⟩ : ∃ b, g2.cell? ⟨w.heap.size, i, none⟩ = some (.bool b) := ⟨_, H2.out.2.cell (List.getElem?_eq_getElem (by rw [List.length_set, upTo_length]; omega))⟩
                have H3 : Hid (Below w.heap.size w (g2.setCell ⟨w.heap.size, i, none⟩ (.bool false)) ∧ RowB (g2.setCell ⟨w.heap.size, i, none⟩ (.bool false)) w.heap.size ((upTo V i L.length).set i (!(c.A.take (j + 1)).any (badA L V n)))) := by
                  refine ⟨H2.out.1.setCell (Nat.le_refl _) _, ?_⟩
                  have := H2.out.2.set i false
                  rw [List.set_set] at this
                  rw [HNX.out]
                  simpa using this
                go_wp2_with fail
                go_roundg (c.A.length - (j + 1))
                case measure => omega
                case rel => exact ⟨_, j + 1, rfl, by omega, by omega, by go_num, H3.out⟩
              | false =>
                have H3 : Hid (Below w.heap.size w g2 ∧ RowB g2 w.heap.size ((upTo V i L.length).set i (!(c.A.take (j + 1)).any (badA L V n)))) := by
                  refine ⟨H2.out.1, ?_⟩
                  rw [HNX.out]
                  simpa using H2.out.2
                go_wp2_with fail
                go_roundg (c.A.length - (j + 1))
                case measure => omega
                case rel => exact ⟨_, j + 1, rfl, by omega, by omega, by go_num, H3.out⟩
          · have HT : Hid (c.A.take j = c.A) := List.take_of_length_le (by omega)
            obtain ⟨r1, hr1⟩ : ∃ r1, (!c.A.any (badA L V n)) = r1 := ⟨_, rfl⟩
            have HR1 : Hid ((!c.A.any (badA L V n)) = r1) := hr1
            have H3 : Hid (Below w.heap.size w g2 ∧ RowB g2 w.heap.size ((upTo V i L.length).set i (r1 && !(List.range 0).any (badM L V c)))) := by
              have := H2.out
              rw [HT.out, hr1] at this
              refine ⟨this.1, ?_⟩
              have e0 : (r1 && !(List.range 0).any (badM L V c)) = r1 := by simp
              rw [e0]
              exact this.2
            clear H2 hr1
            go_wp2_with fail
            clear d4 c2'
            go_loopg [9] i (fun gg t9 W => ∃ (g4 : World) (m : Nat), g4 = W ∧ m ≤ i ∧ i - m ≤ gg ∧ t9 = .int .i64 m ∧ Hid (Below w.heap.size w g4 ∧ RowB g4 w.heap.size ((upTo V i L.length).set i (r1 && !(List.range m).any (badM L V c)))))
            case atStart => exact ⟨_, 0, rfl, by omega, by omega, rfl, H3.out⟩
            case round =>
              clear H3
              obtain ⟨g4, m, rfl, hm, hgm, rfl, H4⟩ := hrel
              by_cases hml : (m : Int) < (i : Int)
              · obtain ⟨e, he⟩ : ∃ e, L[m]? = some e := ⟨_, List.getElem?_eq_getElem (by omega)⟩
                have hmL : (m : Int) < (L.length : Int) := by omega
                have c2' : g4.cell? ⟨q, 2, none⟩ = some (.slice (some ⟨g, 0, none⟩) L.length ca) := (H4.out.1.cell (p := ⟨q, 2, none⟩) HQ.out).trans c2
                have x0 : g4.cell? ⟨g, m * 6, none⟩ = some (.int .i64 (e.id : Int)) := (H4.out.1.cell (p := ⟨g, m * 6, none⟩) hgl).trans (HCC.out m e he 0 _ rfl)
                have x1 : g4.cell? ⟨g, m * 6 + 1, none⟩ = some (.int .i64 (e.b : Int)) := (H4.out.1.cell (p := ⟨g, m * 6 + 1, none⟩) hgl).trans (HCC.out m e he 1 _ rfl)
                have x2 : g4.cell? ⟨g, m * 6 + 2, none⟩ = some (.int .i64 (e.fr : Int)) := (H4.out.1.cell (p := ⟨g, m * 6 + 2, none⟩) hgl).trans (HCC.out m e he 2 _ rfl)
                have x3 : g4.cell? ⟨g, m * 6 + 3, none⟩ = some (.string (str e.d)) := (H4.out.1.cell (p := ⟨g, m * 6 + 3, none⟩) hgl).trans (HCC.out m e he 3 _ rfl)
                have x4 : g4.cell? ⟨g, m * 6 + 4, none⟩ = some (.slice e.ap e.A.length e.ac) := (H4.out.1.cell (p := ⟨g, m * 6 + 4, none⟩) hgl).trans (HCC.out m e he 4 _ rfl)
                have x5 : g4.cell? ⟨g, m * 6 + 5, none⟩ = some (.bool e.out) := (H4.out.1.cell (p := ⟨g, m * 6 + 5, none⟩) hgl).trans (HCC.out m e he 5 _ rfl)
                have y0 : g4.cell? ⟨g, i * 6, none⟩ = some (.int .i64 (c.id : Int)) := (H4.out.1.cell (p := ⟨g, i * 6, none⟩) hgl).trans (HCC.out i c HC.out 0 _ rfl)
                have y1 : g4.cell? ⟨g, i * 6 + 1, none⟩ = some (.int .i64 (c.b : Int)) := (H4.out.1.cell (p := ⟨g, i * 6 + 1, none⟩) hgl).trans (HCC.out i c HC.out 1 _ rfl)
                have y2 : g4.cell? ⟨g, i * 6 + 2, none⟩ = some (.int .i64 (c.fr : Int)) := (H4.out.1.cell (p := ⟨g, i * 6 + 2, none⟩) hgl).trans (HCC.out i c HC.out 2 _ rfl)
                have y3 : g4.cell? ⟨g, i * 6 + 3, none⟩ = some (.string (str c.d)) := (H4.out.1.cell (p := ⟨g, i * 6 + 3, none⟩) hgl).trans (HCC.out i c HC.out 3 _ rfl)
                have y4 : g4.cell? ⟨g, i * 6 + 4, none⟩ = some (.slice c.ap c.A.length c.ac) := (H4.out.1.cell (p := ⟨g, i * 6 + 4, none⟩) hgl).trans (HCC.out i c HC.out 4 _ rfl)
                have y5 : g4.cell? ⟨g, i * 6 + 5, none⟩ = some (.bool c.out) := (H4.out.1.cell (p := ⟨g, i * 6 + 5, none⟩) hgl).trans (HCC.out i c HC.out 5 _ rfl)
                have ME := fun W => rmeet_any e c W (HK.out.bd e (List.mem_of_getElem? he)) (HK.out.bd c (List.mem_of_getElem? HC.out))
                simp only [rcL] at ME
                obtain ⟨mt, hmt⟩ : ∃ mt, meetR e c = mt := ⟨_, rfl⟩
                obtain ⟨vm, hvm⟩ : ∃ vm, V m = vm := ⟨_, rfl⟩
                rw [hmt] at ME
                have HNX : Hid ((r1 && !(List.range (m + 1)).any (badM L V c)) = ((r1 && !(List.range m).any (badM L V c)) && !(mt && !vm))) := by
                  show _ = _
                  rw [List.range_succ, List.any_append]
                  have : badM L V c m = (mt && !vm) := by unfold badM; rw [he]; show (meetR e c && !V m) = _; rw [hmt, hvm]
                  simp [this, Bool.and_assoc]
                have HZ : Hid (g4.heap.size ≤ g4.heap.size ∧ w.heap.size < g4.heap.size) := ⟨Nat.le_refl _, H4.out.2.lt⟩
                have HVM : Hid (g4.cell? ⟨w.heap.size, m, none⟩ = some (.bool vm)) := by rw [← hvm]; exact H4.out.2.cell (by rw [List.getElem?_set_ne (by omega)]; exact upTo_get (by omega) (by omega))
                clear hmt hvm he
                go_upto_region 16 with fail
                go_cut [114] (fun t wc => t = .bool (mt && !vm) ∧ ∃ g5 : World, g5 = wc ∧ Hid (Below g4.heap.size g4 g5))
                case first =>
                  have HB0 : Hid (Below g4.heap.size g4 g4.drew) := (Below.refl _ _).drew
                  have HQ4 : Hid (q < g4.heap.size) := Nat.lt_of_lt_of_le HQ.out H4.out.1.size
                  have HGL4 : Hid (g < g4.heap.size) := Nat.lt_of_lt_of_le hgl H4.out.1.size
                  have CC2 : Hid (g4.cell? ⟨q, 2, none⟩ = some (.slice (some ⟨g, 0, none⟩) L.length ca)) := c2'
                  clear c2'
                  cases mt with
                  | false =>
                    refine wp_region_held_drew (S := (fun W => Below g4.heap.size g4 W)) (by kernel_rfl) HB0.out (fun hH => ?_)
                    refine takeH (i := 0) (dst := some 93) (v := ?v1) rfl rfl (by kernel_rfl) (by kernel_rfl) (by kernel_rfl) (fun _ _ _ h => h) rfl ?hy1 hH rfl ?rest1
                    case hy1 => (intro W hW; (try dsimp only at hW); go_simp; try with_reducible rfl)
                    (try simp only [Act.put, List.setIfInBounds_toArray, List.set_cons_zero, List.set_cons_succ])
                    refine takeH (i := 1) (dst := some 94) (v := ?v2) rfl rfl (by kernel_rfl) (by kernel_rfl) (by kernel_rfl) (fun _ _ _ h => h) rfl ?hy2 hH rfl ?rest2
                    case hy2 => (intro W hW; (try dsimp only at hW); go_simp; try with_reducible rfl)
                    (try simp only [Act.put, List.setIfInBounds_toArray, List.set_cons_zero, List.set_cons_succ])
                    refine takeH (i := 2) (dst := some 95) (v := ?v3) rfl rfl (by kernel_rfl) (by kernel_rfl) (by kernel_rfl) (fun _ _ _ h => h) rfl ?hy3 hH rfl ?rest3
                    case hy3 => (intro W hW; (try dsimp only at hW); go_simp; try with_reducible rfl)
                    (try simp only [Act.put, List.setIfInBounds_toArray, List.set_cons_zero, List.set_cons_succ])
                    refine takeH (i := 3) (dst := some 96) (v := ?v4) rfl rfl (by kernel_rfl) (by kernel_rfl) (by kernel_rfl) (fun _ _ _ h => h) rfl ?hy4 hH rfl ?rest4
                    case hy4 => (intro W hW; have k2 := (hW.cell (p := ⟨q, 2, none⟩) HQ4.out).trans CC2.out; clear hW; go_simp; try with_reducible rfl)
                    (try simp only [Act.put, List.setIfInBounds_toArray, List.set_cons_zero, List.set_cons_succ])
                    refine takeH (i := 4) (dst := some 97) (v := ?v5) rfl rfl (by kernel_rfl) (by kernel_rfl) (by kernel_rfl) (fun _ _ _ h => h) rfl ?hy5 hH rfl ?rest5
                    case hy5 => (intro W hW; (try dsimp only at hW); go_simp; try with_reducible rfl)
                    (try simp only [Act.put, List.setIfInBounds_toArray, List.set_cons_zero, List.set_cons_succ])
                    refine takeH (i := 5) (dst := some 98) (v := ?v6) rfl rfl (by kernel_rfl) (by kernel_rfl) (by kernel_rfl) (fun _ _ _ h => h) rfl ?hy6 hH rfl ?rest6
                    case hy6 => (intro W hW; (try dsimp only at hW); go_simp; try with_reducible rfl)
                    (try simp only [Act.put, List.setIfInBounds_toArray, List.set_cons_zero, List.set_cons_succ])
                    refine takeH (i := 6) (dst := some 99) (v := ?v7) rfl rfl (by kernel_rfl) (by kernel_rfl) (by kernel_rfl) (fun _ _ _ h => h) rfl ?hy7 hH rfl ?rest7
                    case hy7 => (intro W hW; have k0 := (hW.cell (p := ⟨g, m * 6, none⟩) HGL4.out).trans x0; have k1 := (hW.cell (p := ⟨g, m * 6 + 1, none⟩) HGL4.out).trans x1; have k2 := (hW.cell (p := ⟨g, m * 6 + 2, none⟩) HGL4.out).trans x2; have k3 := (hW.cell (p := ⟨g, m * 6 + 3, none⟩) HGL4.out).trans x3; have k4 := (hW.cell (p := ⟨g, m * 6 + 4, none⟩) HGL4.out).trans x4; have k5 := (hW.cell (p := ⟨g, m * 6 + 5, none⟩) HGL4.out).trans x5; clear hW; go_simp; try with_reducible rfl)
                    (try simp only [Act.put, List.setIfInBounds_toArray, List.set_cons_zero, List.set_cons_succ])
                    refine takeH (i := 7) (dst := some 100) (v := ?v8) rfl rfl (by kernel_rfl) (by kernel_rfl) (by kernel_rfl) (fun _ _ _ h => h) rfl ?hy8 hH rfl ?rest8
                    case hy8 => (intro W hW; (try dsimp only at hW); go_simp; try with_reducible rfl)
                    (try simp only [Act.put, List.setIfInBounds_toArray, List.set_cons_zero, List.set_cons_succ])
                    refine takeH (i := 8) (dst := some 101) (v := ?v9) rfl rfl (by kernel_rfl) (by kernel_rfl) (by kernel_rfl) (fun _ _ _ h => h) rfl ?hy9 hH rfl ?rest9
                    case hy9 => (intro W hW; (try dsimp only at hW); go_simp; try with_reducible rfl)
                    (try simp only [Act.put, List.setIfInBounds_toArray, List.set_cons_zero, List.set_cons_succ])
                    refine takeH (i := 9) (dst := some 102) (v := ?v10) rfl rfl (by kernel_rfl) (by kernel_rfl) (by kernel_rfl) (fun _ _ _ h => h) rfl ?hy10 hH rfl ?rest10
                    case hy10 => (intro W hW; (try dsimp only at hW); go_simp; try with_reducible rfl)
                    (try simp only [Act.put, List.setIfInBounds_toArray, List.set_cons_zero, List.set_cons_succ])
                    refine takeH (i := 10) (dst := some 103) (v := ?v11) rfl rfl (by kernel_rfl) (by kernel_rfl) (by kernel_rfl) (fun _ _ _ h => h) rfl ?hy11 hH rfl ?rest11
                    case hy11 => (intro W hW; have k2 := (hW.cell (p := ⟨q, 2, none⟩) HQ4.out).trans CC2.out; clear hW; go_simp; try with_reducible rfl)
                    (try simp only [Act.put, List.setIfInBounds_toArray, List.set_cons_zero, List.set_cons_succ])
                    refine takeH (i := 11) (dst := some 104) (v := ?v12) rfl rfl (by kernel_rfl) (by kernel_rfl) (by kernel_rfl) (fun _ _ _ h => h) rfl ?hy12 hH rfl ?rest12
                    case hy12 => (intro W hW; (try dsimp only at hW); go_simp; try with_reducible rfl)
                    (try simp only [Act.put, List.setIfInBounds_toArray, List.set_cons_zero, List.set_cons_succ])
                    refine takeH (i := 12) (dst := some 105) (v := ?v13) rfl rfl (by kernel_rfl) (by kernel_rfl) (by kernel_rfl) (fun _ _ _ h => h) rfl ?hy13 hH rfl ?rest13
                    case hy13 => (intro W hW; (try dsimp only at hW); go_simp; try with_reducible rfl)
                    (try simp only [Act.put, List.setIfInBounds_toArray, List.set_cons_zero, List.set_cons_succ])
                    refine takeH (i := 13) (dst := some 106) (v := ?v14) rfl rfl (by kernel_rfl) (by kernel_rfl) (by kernel_rfl) (fun _ _ _ h => h) rfl ?hy14 hH rfl ?rest14
                    case hy14 => (intro W hW; have k0 := (hW.cell (p := ⟨g, i * 6, none⟩) HGL4.out).trans y0; have k1 := (hW.cell (p := ⟨g, i * 6 + 1, none⟩) HGL4.out).trans y1; have k2 := (hW.cell (p := ⟨g, i * 6 + 2, none⟩) HGL4.out).trans y2; have k3 := (hW.cell (p := ⟨g, i * 6 + 3, none⟩) HGL4.out).trans y3; have k4 := (hW.cell (p := ⟨g, i * 6 + 4, none⟩) HGL4.out).trans y4; have k5 := (hW.cell (p := ⟨g, i * 6 + 5, none⟩) HGL4.out).trans y5; clear hW; go_simp; try with_reducible rfl)
                    (try simp only [Act.put, List.setIfInBounds_toArray, List.set_cons_zero, List.set_cons_succ])
                    refine callH (i := 14) { dst := some 107, op := Go.Op.call { callee := Go.Callee.value (Go.Operand.func 116), args := #[Go.Operand.tmp 99, Go.Operand.tmp 106], argTypes := #[177, 177] }, type := 4, pos := "ref.go:114", after := #[{ on := 6, ground := Go.Ground.data }, { on := 13, ground := Go.Ground.data }], guard := none } (by kernel_rfl) rfl rfl (fun K hK => ?_)
                    go_simp
                    refine (ME _).mono ?_
                    rintro r w5 ⟨rfl, hb5⟩
                    have HB5 : Hid (Below g4.heap.size g4 w5) := hH.trans (hb5.mono hH.size)
                    clear hb5
                    clear hH
                    refine hK.out _ _ HB5.out (fun hH => ?_)
                    clear hK K
                    (try simp only [Act.put, List.setIfInBounds_toArray, List.set_cons_zero, List.set_cons_succ])
                    refine takeH (i := 15) (dst := some 108) (v := ?v15) rfl rfl (by kernel_rfl) (by kernel_rfl) (by kernel_rfl) (fun _ _ _ h => h) rfl ?hy15 hH rfl ?rest15
                    case hy15 => (intro W hW; (try dsimp only at hW); go_simp; try with_reducible rfl)
                    (try simp only [Act.put, List.setIfInBounds_toArray, List.set_cons_zero, List.set_cons_succ])
                    refine takeU (i := 16) (dst := some 109) rfl rfl (by kernel_rfl) (by kernel_rfl) (by kernel_rfl) (fun _ _ _ h => h) rfl hH rfl ?_
                    (try simp only [Act.put, List.setIfInBounds_toArray, List.set_cons_zero, List.set_cons_succ])
                    refine takeU (i := 17) (dst := some 110) rfl rfl (by kernel_rfl) (by kernel_rfl) (by kernel_rfl) (fun _ _ _ h => h) rfl hH rfl ?_
                    (try simp only [Act.put, List.setIfInBounds_toArray, List.set_cons_zero, List.set_cons_succ])
                    refine takeU (i := 18) (dst := some 111) rfl rfl (by kernel_rfl) (by kernel_rfl) (by kernel_rfl) (fun _ _ _ h => h) rfl hH rfl ?_
                    (try simp only [Act.put, List.setIfInBounds_toArray, List.set_cons_zero, List.set_cons_succ])
                    refine takeU (i := 19) (dst := some 112) rfl rfl (by kernel_rfl) (by kernel_rfl) (by kernel_rfl) (fun _ _ _ h => h) rfl hH rfl ?_
                    (try simp only [Act.put, List.setIfInBounds_toArray, List.set_cons_zero, List.set_cons_succ])
                    refine takeU (i := 20) (dst := some 113) rfl rfl (by kernel_rfl) (by kernel_rfl) (by kernel_rfl) (fun _ _ _ h => h) rfl hH rfl ?_
                    (try simp only [Act.put, List.setIfInBounds_toArray, List.set_cons_zero, List.set_cons_succ])
                    refine takeH (i := 21) (dst := some 114) (v := ?v16) rfl rfl (by kernel_rfl) (by kernel_rfl) (by kernel_rfl) (fun _ _ _ h => h) rfl ?hy16 hH rfl ?rest16
                    case hy16 => (intro W hW; (try dsimp only at hW); go_simp; try with_reducible rfl)
                    (try simp only [Act.put, List.setIfInBounds_toArray, List.set_cons_zero, List.set_cons_succ])
                    refine wpAnyH_done (by kernel_rfl) ?_ _
                    clear hH
                    go_wp2_with fail
                    go_meet
                    exact ⟨by cases vm <;> rfl, _, rfl, HB5⟩
                  | true =>
                    refine wp_region_held_drew (S := (fun W => Below g4.heap.size g4 W)) (by kernel_rfl) HB0.out (fun hH => ?_)
                    refine takeH (i := 0) (dst := some 93) (v := ?v17) rfl rfl (by kernel_rfl) (by kernel_rfl) (by kernel_rfl) (fun _ _ _ h => h) rfl ?hy17 hH rfl ?rest17
                    case hy17 => (intro W hW; (try dsimp only at hW); go_simp; try with_reducible rfl)
                    (try simp only [Act.put, List.setIfInBounds_toArray, List.set_cons_zero, List.set_cons_succ])
                    refine takeH (i := 1) (dst := some 94) (v := ?v18) rfl rfl (by kernel_rfl) (by kernel_rfl) (by kernel_rfl) (fun _ _ _ h => h) rfl ?hy18 hH rfl ?rest18
                    case hy18 => (intro W hW; (try dsimp only at hW); go_simp; try with_reducible rfl)
                    (try simp only [Act.put, List.setIfInBounds_toArray, List.set_cons_zero, List.set_cons_succ])
                    refine takeH (i := 2) (dst := some 95) (v := ?v19) rfl rfl (by kernel_rfl) (by kernel_rfl) (by kernel_rfl) (fun _ _ _ h => h) rfl ?hy19 hH rfl ?rest19
                    case hy19 => (intro W hW; (try dsimp only at hW); go_simp; try with_reducible rfl)
                    (try simp only [Act.put, List.setIfInBounds_toArray, List.set_cons_zero, List.set_cons_succ])
                    refine takeH (i := 3) (dst := some 96) (v := ?v20) rfl rfl (by kernel_rfl) (by kernel_rfl) (by kernel_rfl) (fun _ _ _ h => h) rfl ?hy20 hH rfl ?rest20
                    case hy20 => (intro W hW; have k2 := (hW.cell (p := ⟨q, 2, none⟩) HQ4.out).trans CC2.out; clear hW; go_simp; try with_reducible rfl)
                    (try simp only [Act.put, List.setIfInBounds_toArray, List.set_cons_zero, List.set_cons_succ])
                    refine takeH (i := 4) (dst := some 97) (v := ?v21) rfl rfl (by kernel_rfl) (by kernel_rfl) (by kernel_rfl) (fun _ _ _ h => h) rfl ?hy21 hH rfl ?rest21
                    case hy21 => (intro W hW; (try dsimp only at hW); go_simp; try with_reducible rfl)
                    (try simp only [Act.put, List.setIfInBounds_toArray, List.set_cons_zero, List.set_cons_succ])
                    refine takeH (i := 5) (dst := some 98) (v := ?v22) rfl rfl (by kernel_rfl) (by kernel_rfl) (by kernel_rfl) (fun _ _ _ h => h) rfl ?hy22 hH rfl ?rest22
                    case hy22 => (intro W hW; (try dsimp only at hW); go_simp; try with_reducible rfl)
                    (try simp only [Act.put, List.setIfInBounds_toArray, List.set_cons_zero, List.set_cons_succ])
                    refine takeH (i := 6) (dst := some 99) (v := ?v23) rfl rfl (by kernel_rfl) (by kernel_rfl) (by kernel_rfl) (fun _ _ _ h => h) rfl ?hy23 hH rfl ?rest23
                    case hy23 => (intro W hW; have k0 := (hW.cell (p := ⟨g, m * 6, none⟩) HGL4.out).trans x0; have k1 := (hW.cell (p := ⟨g, m * 6 + 1, none⟩) HGL4.out).trans x1; have k2 := (hW.cell (p := ⟨g, m * 6 + 2, none⟩) HGL4.out).trans x2; have k3 := (hW.cell (p := ⟨g, m * 6 + 3, none⟩) HGL4.out).trans x3; have k4 := (hW.cell (p := ⟨g, m * 6 + 4, none⟩) HGL4.out).trans x4; have k5 := (hW.cell (p := ⟨g, m * 6 + 5, none⟩) HGL4.out).trans x5; clear hW; go_simp; try with_reducible rfl)
                    (try simp only [Act.put, List.setIfInBounds_toArray, List.set_cons_zero, List.set_cons_succ])
                    refine takeH (i := 7) (dst := some 100) (v := ?v24) rfl rfl (by kernel_rfl) (by kernel_rfl) (by kernel_rfl) (fun _ _ _ h => h) rfl ?hy24 hH rfl ?rest24
                    case hy24 => (intro W hW; (try dsimp only at hW); go_simp; try with_reducible rfl)
                    (try simp only [Act.put, List.setIfInBounds_toArray, List.set_cons_zero, List.set_cons_succ])
                    refine takeH (i := 8) (dst := some 101) (v := ?v25) rfl rfl (by kernel_rfl) (by kernel_rfl) (by kernel_rfl) (fun _ _ _ h => h) rfl ?hy25 hH rfl ?rest25
                    case hy25 => (intro W hW; (try dsimp only at hW); go_simp; try with_reducible rfl)
                    (try simp only [Act.put, List.setIfInBounds_toArray, List.set_cons_zero, List.set_cons_succ])
                    refine takeH (i := 9) (dst := some 102) (v := ?v26) rfl rfl (by kernel_rfl) (by kernel_rfl) (by kernel_rfl) (fun _ _ _ h => h) rfl ?hy26 hH rfl ?rest26
                    case hy26 => (intro W hW; (try dsimp only at hW); go_simp; try with_reducible rfl)
                    (try simp only [Act.put, List.setIfInBounds_toArray, List.set_cons_zero, List.set_cons_succ])
                    refine takeH (i := 10) (dst := some 103) (v := ?v27) rfl rfl (by kernel_rfl) (by kernel_rfl) (by kernel_rfl) (fun _ _ _ h => h) rfl ?hy27 hH rfl ?rest27
                    case hy27 => (intro W hW; have k2 := (hW.cell (p := ⟨q, 2, none⟩) HQ4.out).trans CC2.out; clear hW; go_simp; try with_reducible rfl)
                    (try simp only [Act.put, List.setIfInBounds_toArray, List.set_cons_zero, List.set_cons_succ])
                    refine takeH (i := 11) (dst := some 104) (v := ?v28) rfl rfl (by kernel_rfl) (by kernel_rfl) (by kernel_rfl) (fun _ _ _ h => h) rfl ?hy28 hH rfl ?rest28
                    case hy28 => (intro W hW; (try dsimp only at hW); go_simp; try with_reducible rfl)
                    (try simp only [Act.put, List.setIfInBounds_toArray, List.set_cons_zero, List.set_cons_succ])
                    refine takeH (i := 12) (dst := some 105) (v := ?v29) rfl rfl (by kernel_rfl) (by kernel_rfl) (by kernel_rfl) (fun _ _ _ h => h) rfl ?hy29 hH rfl ?rest29
                    case hy29 => (intro W hW; (try dsimp only at hW); go_simp; try with_reducible rfl)
                    (try simp only [Act.put, List.setIfInBounds_toArray, List.set_cons_zero, List.set_cons_succ])
                    refine takeH (i := 13) (dst := some 106) (v := ?v30) rfl rfl (by kernel_rfl) (by kernel_rfl) (by kernel_rfl) (fun _ _ _ h => h) rfl ?hy30 hH rfl ?rest30
                    case hy30 => (intro W hW; have k0 := (hW.cell (p := ⟨g, i * 6, none⟩) HGL4.out).trans y0; have k1 := (hW.cell (p := ⟨g, i * 6 + 1, none⟩) HGL4.out).trans y1; have k2 := (hW.cell (p := ⟨g, i * 6 + 2, none⟩) HGL4.out).trans y2; have k3 := (hW.cell (p := ⟨g, i * 6 + 3, none⟩) HGL4.out).trans y3; have k4 := (hW.cell (p := ⟨g, i * 6 + 4, none⟩) HGL4.out).trans y4; have k5 := (hW.cell (p := ⟨g, i * 6 + 5, none⟩) HGL4.out).trans y5; clear hW; go_simp; try with_reducible rfl)
                    (try simp only [Act.put, List.setIfInBounds_toArray, List.set_cons_zero, List.set_cons_succ])
                    refine callH (i := 14) { dst := some 107, op := Go.Op.call { callee := Go.Callee.value (Go.Operand.func 116), args := #[Go.Operand.tmp 99, Go.Operand.tmp 106], argTypes := #[177, 177] }, type := 4, pos := "ref.go:114", after := #[{ on := 6, ground := Go.Ground.data }, { on := 13, ground := Go.Ground.data }], guard := none } (by kernel_rfl) rfl rfl (fun K hK => ?_)
                    go_simp
                    refine (ME _).mono ?_
                    rintro r w5 ⟨rfl, hb5⟩
                    have HB5 : Hid (Below g4.heap.size g4 w5) := hH.trans (hb5.mono hH.size)
                    clear hb5
                    clear hH
                    refine hK.out _ _ HB5.out (fun hH => ?_)
                    clear hK K
                    (try simp only [Act.put, List.setIfInBounds_toArray, List.set_cons_zero, List.set_cons_succ])
                    refine takeH (i := 15) (dst := some 108) (v := ?v31) rfl rfl (by kernel_rfl) (by kernel_rfl) (by kernel_rfl) (fun _ _ _ h => h) rfl ?hy31 hH rfl ?rest31
                    case hy31 => (intro W hW; (try dsimp only at hW); go_simp; try with_reducible rfl)
                    (try simp only [Act.put, List.setIfInBounds_toArray, List.set_cons_zero, List.set_cons_succ])
                    refine takeH (i := 16) (dst := some 109) (v := ?v32) rfl rfl (by kernel_rfl) (by kernel_rfl) (by kernel_rfl) (fun _ _ _ h => h) rfl ?hy32 hH rfl ?rest32
                    case hy32 => (intro W hW; (try dsimp only at hW); go_simp; try with_reducible rfl)
                    (try simp only [Act.put, List.setIfInBounds_toArray, List.set_cons_zero, List.set_cons_succ])
                    refine takeH (i := 17) (dst := some 110) (v := ?v33) rfl rfl (by kernel_rfl) (by kernel_rfl) (by kernel_rfl) (fun _ _ _ h => h) rfl ?hy33 hH rfl ?rest33
                    case hy33 => (intro W hW; (try dsimp only at hW); go_simp; try with_reducible rfl)
                    (try simp only [Act.put, List.setIfInBounds_toArray, List.set_cons_zero, List.set_cons_succ])
                    refine takeH (i := 18) (dst := some 111) (v := ?v34) rfl rfl (by kernel_rfl) (by kernel_rfl) (by kernel_rfl) (fun _ _ _ h => h) rfl ?hy34 hH rfl ?rest34
                    case hy34 => (intro W hW; (try dsimp only at hW); go_simp; try with_reducible rfl)
                    (try simp only [Act.put, List.setIfInBounds_toArray, List.set_cons_zero, List.set_cons_succ])
                    refine takeH (i := 19) (dst := some 112) (v := ?v35) rfl rfl (by kernel_rfl) (by kernel_rfl) (by kernel_rfl) (fun _ _ _ h => h) rfl ?hy35 hH rfl ?rest35
                    case hy35 => (intro W hW; have k0 := (hW.cell (p := ⟨w.heap.size, m, none⟩) HZ.out.2).trans HVM.out; clear hW; go_simp; try with_reducible rfl)
                    (try simp only [Act.put, List.setIfInBounds_toArray, List.set_cons_zero, List.set_cons_succ])
                    refine takeH (i := 20) (dst := some 113) (v := ?v36) rfl rfl (by kernel_rfl) (by kernel_rfl) (by kernel_rfl) (fun _ _ _ h => h) rfl ?hy36 hH rfl ?rest36
                    case hy36 => (intro W hW; (try dsimp only at hW); go_simp; try with_reducible rfl)
                    (try simp only [Act.put, List.setIfInBounds_toArray, List.set_cons_zero, List.set_cons_succ])
                    refine takeH (i := 21) (dst := some 114) (v := ?v37) rfl rfl (by kernel_rfl) (by kernel_rfl) (by kernel_rfl) (fun _ _ _ h => h) rfl ?hy37 hH rfl ?rest37
                    case hy37 => (intro W hW; (try dsimp only at hW); go_simp; try with_reducible rfl)
                    (try simp only [Act.put, List.setIfInBounds_toArray, List.set_cons_zero, List.set_cons_succ])
                    refine wpAnyH_done (by kernel_rfl) ?_ _
                    clear hH
                    go_wp2_with fail
                    go_meet
                    exact ⟨by cases vm <;> rfl, _, rfl, HB5⟩
                case rest =>
                  obtain ⟨rfl, g5, rfl, HB5⟩ := hcut
                  have H5 : Hid (Below w.heap.size w g5 ∧ RowB g5 w.heap.size ((upTo V i L.length).set i (r1 && !(List.range m).any (badM L V c)))) := ⟨H4.out.1.trans (HB5.out.mono H4.out.1.size), H4.out.2.below HB5.out HZ.out.2⟩
                  clear x0 x1 x2 x3 x4 x5 y0 y1 y2 y3 y4 y5 ME HVM c2'
                  generalize (mt && !vm) = bad at *
                  cases bad with
                  | true =>
                    have fz := H5.out.2.frozen i
                    obtain ⟨cb0, hcb0⟩ : ∃ b, g5.cell? ⟨w.heap.size, i, none⟩ = some (.bool b) := ⟨_, H5.out.2.cell (List.getElem?_eq_getElem (by rw [List.length_set, upTo_length]; omega))⟩
                    have H6 : Hid (Below w.heap.size w (g5.setCell ⟨w.heap.size, i, none⟩ (.bool false)) ∧ RowB (g5.setCell ⟨w.heap.size, i, none⟩ (.bool false)) w.heap.size ((upTo V i L.length).set i (r1 && !(List.range (m + 1)).any (badM L V c)))) := by
                      refine ⟨H5.out.1.setCell (Nat.le_refl _) _, ?_⟩
                      have := H5.out.2.set i false
                      rw [List.set_set] at this
                      rw [HNX.out]
                      simpa using this
                    go_wp2_with fail
                    go_roundg (i - (m + 1))
                    case measure => omega
                    case rel => exact ⟨_, m + 1, rfl, by omega, by omega, by go_num, H6.out⟩
                  | false =>
                    have H6 : Hid (Below w.heap.size w g5 ∧ RowB g5 w.heap.size ((upTo V i L.length).set i (r1 && !(List.range (m + 1)).any (badM L V c)))) := by
                      refine ⟨H5.out.1, ?_⟩
                      rw [HNX.out]
                      simpa using H5.out.2
                    go_wp2_with fail
                    go_roundg (i - (m + 1))
                    case measure => omega
                    case rel => exact ⟨_, m + 1, rfl, by omega, by omega, by go_num, H6.out⟩
              · obtain rfl : m = i := by omega
                have H7 : Hid (Below w.heap.size w g4 ∧ RowB g4 w.heap.size (upTo V (m + 1) L.length)) := by
                  refine ⟨H4.out.1, ?_⟩
                  have := H4.out.2
                  have hv := HV.out m c HC.out
                  rw [decide_eq_true HBN.out, HR1.out] at hv
                  rw [← upTo_set, hv]
                  simpa using this
                go_wp2_with fail
                go_roundg (L.length - (m + 1))
                case measure => omega
                case rel => exact ⟨_, m + 1, rfl, by omega, by omega, by go_num, H7.out⟩
      · have hbn : ((c.b : Int) != n) = true := by simpa using hb
        have HBN : Hid (¬ (c.b : Int) = n) := hb
        have H7 : Hid (Below w.heap.size w gw ∧ RowB gw w.heap.size (upTo V (i + 1) L.length)) := by
          refine ⟨HG.out.1, ?_⟩
          have hv := HV.out i c HC.out
          rw [decide_eq_false HBN.out] at hv
          have e : upTo V (i + 1) L.length = upTo V i L.length := by
            rw [← upTo_set, hv]
            apply List.ext_getElem
            · simp
            · intro k h1 h2
              rw [List.getElem_set]
              by_cases hk2 : i = k
              · subst hk2; simp [upTo]
              · rw [if_neg hk2]
          rw [e]
          exact HG.out.2
        clear hb
        go_wp2_with fail
        go_roundg (L.length - (i + 1))
        case measure => omega
        case rel => exact ⟨_, i + 1, rfl, by omega, by omega, by go_num, H7.out⟩
    · go_wp2_with fail
      go_ret
      obtain rfl : i = L.length := by omega
      exact ⟨rfl, HG.out.2, HG.out.1⟩
end
end Go.Proofs.YtadadidccbhopaaGreat
