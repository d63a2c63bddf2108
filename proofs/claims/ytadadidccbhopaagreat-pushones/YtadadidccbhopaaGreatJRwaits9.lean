/- The document's Waits (leveeref11). -/
import Derived.Test.YtadadidccbhopaaGreatJRimg5
import Derived.Test.YtadadidccbhopaaGreatJRdisk7
import Derived.Test.YtadadidccbhopaaGreatJRpat7
import Derived.Test.YtadadidccbhopaaGreatJPafter3
import Derived.Test.YtadadidccbhopaaGreatKPgo
import Derived.Test.YtadadidccbhopaaGreatJPerr2
import Derived.Test.YtadadidccbhopaaGreatJDOpen3
namespace Go.Proofs.YtadadidccbhopaaGreat
open Go.RowKit
set_option maxRecDepth 100000
/-- Whom a change must be safe with: those that it was told of, and those ahead that it meets. -/
def EdR (L : List RCh) (i n : Nat) : Prop := ∃ r, L[i]? = some r ∧ ((∃ a ∈ r.A, findI L a 0 = (n : Int)) ∨ (n < i ∧ ∃ e, L[n]? = some e ∧ meetR e r = true))
/-- What holds of the marks: those from i on are closed. -/
structure WM (L : List RCh) (S : Nat → Prop) (k i : Nat) (bs : List Bool) : Prop where
  len : bs.length = L.length
  k : bs[k]? = some true
  snd : ∀ j : Nat, bs[j]? = some true → S j
  clo : ∀ j : Nat, i ≤ j → bs[j]? = some true → ∀ n, EdR L j n → bs[n]? = some true
/-- Marks that have become more, below i. -/
structure Mo (i : Nat) (bs bs' : List Bool) : Prop where
  len : bs'.length = bs.length
  ge : ∀ j : Nat, i ≤ j → bs'[j]? = bs[j]?
  le : ∀ j : Nat, bs[j]? = some true → bs'[j]? = some true
theorem Mo.refl (i : Nat) (bs : List Bool) : Mo i bs bs := ⟨rfl, fun _ _ => rfl, fun _ h => h⟩
theorem set_true {bs : List Bool} {n j : Nat} (h : bs[j]? = some true) : (bs.set n true)[j]? = some true := by
  rw [List.getElem?_set]
  split
  · rename_i e
    subst e
    rw [if_pos (List.getElem?_eq_some_iff.1 h).1]
  · exact h
theorem Mo.set {i : Nat} {bs bs' : List Bool} (h : Mo i bs bs') {n : Nat} (hn : n < i) : Mo i bs (bs'.set n true) :=
  ⟨by rw [List.length_set]; exact h.len, fun j hj => by rw [List.getElem?_set_ne (by omega)]; exact h.ge j hj, fun j hj => set_true (h.le j hj)⟩
theorem WM.next {L : List RCh} {S : Nat → Prop} {k i : Nat} {bs bs' : List Bool} (h : WM L S k (i + 1) bs) (hm : Mo i bs bs') (hs : ∀ j : Nat, bs'[j]? = some true → S j) (hc : bs'[i]? = some true → ∀ n, EdR L i n → bs'[n]? = some true) : WM L S k i bs' :=
  ⟨hm.len.trans h.len, hm.le k h.k, hs, fun j hj hb n hE => by
    by_cases e : j = i
    · subst e; exact hc hb n hE
    · rw [hm.ge j (by omega)] at hb
      exact hm.le n (h.clo j (by omega) hb n hE)⟩
/-- The numbers of those that are marked. -/
def idsR : List RCh → List Bool → List Int
  | r :: L, b :: bs => if b then (r.id : Int) :: idsR L bs else idsR L bs
  | _, _ => []
theorem idsR_take : ∀ {L : List RCh} {bs : List Bool} {k : Nat} {r : RCh} {b : Bool}, L[k]? = some r → bs[k]? = some b → idsR (L.take (k + 1)) (bs.take (k + 1)) = idsR (L.take k) (bs.take k) ++ if b then [(r.id : Int)] else []
  | [], _, k, _, _, h, _ => by cases h
  | x :: L, [], k, _, _, _, h => by cases h
  | x :: L, y :: bs, 0, r, b, h, h2 => by
    cases h; cases h2
    cases y <;> rfl
  | x :: L, y :: bs, k + 1, r, b, h, h2 => by
    have ih := idsR_take (L := L) (bs := bs) (k := k) (r := r) (b := b) (by simpa using h) (by simpa using h2)
    simp only [List.take_succ_cons, idsR]
    rw [ih]
    cases y <;> simp
theorem idsR_len : ∀ (L : List RCh) (bs : List Bool), (idsR L bs).length ≤ L.length
  | [], _ => by simp [idsR]
  | x :: L, [] => by simp [idsR]
  | x :: L, y :: bs => by
    have := idsR_len L bs
    simp only [idsR]
    split <;> simp <;> omega
/-- What Waits answers. -/
structure WtD (w w' : World) (L : List RCh) (S : Nat → Prop) (id : Int) (e : Ending) : Prop where
  out : ∃ v xs, e = .returned v ∧ OwnL w' w.heap.size v xs ∧ Below w.heap.size w w' ∧ ((findI L id 0 < 0 ∧ xs = []) ∨ ∃ (k : Nat) (bs : List Bool), findI L id 0 = (k : Int) ∧ WM L S k 0 bs ∧ xs = idsR L bs)
section
variable {w : World} {q d : Nat} {vB : Value} {ao : Option Addr} {ca : Nat} {L : List RCh} {last : Nat}
set_option maxHeartbeats 16000000 in
theorem rwaits_any (h : RAt w q d vB ao ca L last) (hk : LOk w L) (id : Int) (hf : ∀ (i : Nat) (c : RCh), L[i]? = some c → ∀ a ∈ c.A, findI L a 0 < (i : Int)) (S : Nat → Prop) (hS0 : ∀ k : Nat, findI L id 0 = (k : Int) → S k) (hSE : ∀ i n, S i → EdR L i n → S n) :
    Calls Tryz.prog 77 #[.pointer (some ⟨q, 0, none⟩), .int .i64 id] w fun e w' => WtD w w' L S id e := by
  have HR : Hid (RAt w q d vB ao ca L last) := h
  have HK : Hid (LOk w L) := hk
  have HF : Hid (∀ (i : Nat) (c : RCh), L[i]? = some c → ∀ a ∈ c.A, findI L a 0 < (i : Int)) := hf
  have HS : Hid ((∀ k : Nat, findI L id 0 = (k : Int) → S k) ∧ ∀ i n, S i → EdR L i n → S n) := ⟨hS0, hSE⟩
  have c2 := h.c2
  have hll : L.length ≤ 1000 := hk.len
  have hl1 : (L.length : Int) ≤ 1000 := by omega
  have hca : (ca : Int) ≤ 9223372036854775807 := h.ls.cap.2
  have MB := make_bools w L.length (by omega)
  have HQ : Hid (q < w.heap.size) := (Array.getElem?_eq_some_iff.1 h.at').1
  have HB0 : Hid (Below w.heap.size w (w.alloc (.cells (bvl (List.replicate L.length false)).toArray 4)) ∧ RowB (w.alloc (.cells (bvl (List.replicate L.length false)).toArray 4)) w.heap.size (List.replicate L.length false)) := ⟨(Below.refl _ _).alloc (Nat.le_refl _) _, heap_alloc_new _ _⟩
  have FI := rfind_any (HR.out.up HB0.out.1) (by omega) id
  obtain ⟨hf1, hf2⟩ := findI_lt L id 0
  obtain ⟨kf, hkf⟩ : ∃ kf, findI L id 0 = kf := ⟨_, rfl⟩
  have HKF : Hid (findI L id 0 = kf) := hkf
  rw [hkf] at FI hf1 hf2
  clear h hk hf hS0 hSE hkf
  go_enter Tryz.func77, Tryz.ntmps77
  go_upto_region 3 with (first | (go_at_call 115; refine FI.mono ?_; rintro r w1 ⟨rfl, hw1⟩; obtain rfl := hw1))
  clear FI MB
  generalize w.alloc (.cells (bvl (List.replicate L.length false)).toArray 4) = W0 at *
  by_cases hk0 : kf < 0
  · go_wp2_with fail
    go_ret
    exact ⟨⟨_, [], rfl, OwnL.nil _ _, HB0.out.1, .inl ⟨by rw [HKF.out]; exact hk0, rfl⟩⟩⟩
  · obtain ⟨k, rfl⟩ : ∃ k : Nat, kf = (k : Int) := ⟨kf.toNat, by omega⟩
    have hkl : (k : Int) < (L.length : Int) := by omega
    obtain ⟨g, hao, hgl, hcc⟩ : ∃ g, ao = some ⟨g, 0, none⟩ ∧ g < w.heap.size ∧ ∀ (i : Nat) (c : RCh), L[i]? = some c → ∀ (j : Nat) (v : Value), (rcL c)[j]? = some v → w.cell? ⟨g, i * 6 + j, none⟩ = some v := by
      rcases HR.out.ls.cells with e | h
      · rw [e] at hkl; simp at hkl; omega
      · exact h
    subst hao
    have HCC : Hid (∀ (i : Nat) (c : RCh), L[i]? = some c → ∀ (j : Nat) (v : Value), (rcL c)[j]? = some v → w.cell? ⟨g, i * 6 + j, none⟩ = some v) := hcc
    have b0 : W0.cell? ⟨w.heap.size, k, none⟩ = some (.bool false) := HB0.out.2.cell (by rw [List.getElem?_replicate, if_pos (by omega)])
    have f0 := HB0.out.2.frozen k
    have HW0 : Hid (Below w.heap.size w (W0.setCell ⟨w.heap.size, k, none⟩ (.bool true)) ∧ RowB (W0.setCell ⟨w.heap.size, k, none⟩ (.bool true)) w.heap.size ((List.replicate L.length false).set k true) ∧ WM L S k (k + 1) ((List.replicate L.length false).set k true)) := by
      have hat : ∀ j, ((List.replicate L.length false).set k true)[j]? = some true → j = k := fun j hj => by
        rw [List.getElem?_set] at hj
        split at hj
        · rename_i e; exact e.symm
        · rw [List.getElem?_replicate] at hj
          split at hj <;> cases hj
      refine ⟨HB0.out.1.setCell (Nat.le_refl _) _, HB0.out.2.set k true, ⟨by simp, ?_, fun j hj => ?_, fun j hj hb n hE => ?_⟩⟩
      · rw [List.getElem?_set, if_pos rfl, if_pos (by simp; omega)]
      · rw [hat j hj]; exact HS.out.1 k HKF.out
      · have := hat j hb; omega
    clear hcc
    go_upto_region 6 with fail
    clear b0 f0 HB0
    generalize W0.setCell ⟨w.heap.size, k, none⟩ (.bool true) = W1 at *
    go_wp2_with fail
    go_loopg [7, 8, 9, 10] 1001 (fun gg t7 _ _ _ W => ∃ (gw : World) (i : Nat) (bs : List Bool), gw = W ∧ i ≤ k + 1 ∧ i ≤ gg ∧ t7 = .int .i64 ((i : Int) - 1) ∧ Hid (Below w.heap.size w gw ∧ RowB gw w.heap.size bs ∧ WM L S k i bs))
    case atStart => exact ⟨_, k + 1, _, rfl, by omega, by omega, by go_num, HW0.out⟩
    case round =>
      clear HW0
      obtain ⟨gw, i1, bs, rfl, hi1, hgi, rfl, HG⟩ := hrel
      have c2' : gw.cell? ⟨q, 2, none⟩ = some (.slice (some ⟨g, 0, none⟩) L.length ca) := (HG.out.1.cell (p := ⟨q, 2, none⟩) HQ.out).trans c2
      by_cases hi0 : i1 = 0
      · subst hi0
        have hm1 : ((0 : Nat) : Int) - 1 = -1 := by omega
        rw [hm1]
        clear hm1 c2'
        have HZB : Hid (w.heap.size < gw.heap.size) := HG.out.2.1.lt
        go_upto_region 22 with fail
        go_wp2_with fail
        go_loopg [11, 12] L.length (fun gg t11 t12 W => ∃ (g2 : World) (j : Nat) (v : Value), g2 = W ∧ t12 = .int .i64 j ∧ j ≤ L.length ∧ L.length - j ≤ gg ∧ v = t11 ∧ Hid (OwnL g2 gw.heap.size v (idsR (L.take j) (bs.take j)) ∧ Below gw.heap.size gw g2))
        case atStart => exact ⟨_, 0, _, rfl, rfl, by omega, by omega, rfl, OwnL.nil _ _, Below.refl _ _⟩
        case round =>
          obtain ⟨g2, j, v, rfl, rfl, hj, hgj, rfl, H2⟩ := hrel
          have hbe : Below w.heap.size w g2 := HG.out.1.trans (H2.out.2.mono HG.out.1.size)
          have c2' : g2.cell? ⟨q, 2, none⟩ = some (.slice (some ⟨g, 0, none⟩) L.length ca) := (hbe.cell (p := ⟨q, 2, none⟩) HQ.out).trans c2
          by_cases hjl : (j : Int) < (L.length : Int)
          · obtain ⟨c, hc⟩ : ∃ c, L[j]? = some c := ⟨_, List.getElem?_eq_getElem (by omega)⟩
            obtain ⟨bj, hbj⟩ : ∃ bj, bs[j]? = some bj := ⟨_, List.getElem?_eq_getElem (by rw [HG.out.2.2.len]; omega)⟩
            have bc : g2.cell? ⟨w.heap.size, j, none⟩ = some (.bool bj) := (H2.out.2.cell (p := ⟨w.heap.size, j, none⟩) HZB.out).trans (HG.out.2.1.cell hbj)
            have d0 : g2.cell? ⟨g, j * 6, none⟩ = some (.int .i64 (c.id : Int)) := (hbe.cell (p := ⟨g, j * 6, none⟩) hgl).trans (HCC.out j c hc 0 _ rfl)
            have HI : Hid (idsR (L.take (j + 1)) (bs.take (j + 1)) = idsR (L.take j) (bs.take j) ++ if bj then [(c.id : Int)] else []) := idsR_take hc hbj
            clear hc hbj hbe
            cases bj with
            | false =>
              go_wp2_with fail
              go_roundg (L.length - (j + 1))
              case measure => omega
              case rel =>
                refine ⟨_, j + 1, _, rfl, by go_num, by omega, by omega, rfl, ?_, H2.out.2⟩
                rw [HI.out]
                simpa using H2.out.1
            | true =>
              obtain ⟨ido, hido⟩ : ∃ ido, idsR (L.take j) (bs.take j) = ido := ⟨_, rfl⟩
              have HLN : Hid (ido.length ≤ 1000) := by
                show _ ≤ _
                rw [← hido]
                have := idsR_len (L.take j) (bs.take j)
                rw [List.length_take] at this
                omega
              have HO : Hid (OwnL g2 gw.heap.size v ido ∧ Below gw.heap.size gw g2) := by
                have := H2.out
                rw [hido] at this
                exact this
              have HI2 : Hid (idsR (L.take (j + 1)) (bs.take (j + 1)) = ido ++ [(c.id : Int)]) := by
                have := HI.out
                rw [hido, if_pos rfl] at this
                exact this
              clear hido H2 HI
              obtain ⟨aa, ac, hva, _⟩ := HO.out.1.form
              subst hva
              go_wp2_with (first | (at_builtin; refine Hid.out ?_))
              change wpList _ _ _ _ _ _
              refine wpList_append_l rfl (.tmp 104) (.tmp 113) rfl gw.heap.size ido (c.id : Int) _ rfl _ _ rfl (row_same HO.out.1 (fun l hl => Below.heap_alloc _ _ _ (HO.out.1.lt l hl).2)) (heap_alloc_new _ _) (by rw [size_alloc]; have := HO.out.2.size; omega) (by have := HLN.out; omega) ?_
              intro G1 k1 w6 ho6 hg6 hat6
              have H6 : Hid (OwnL w6 gw.heap.size (.slice (some ⟨G1, 0, none⟩) (ido.length + 1) k1) (ido ++ [(c.id : Int)]) ∧ Below gw.heap.size gw w6) := ⟨ho6, (HO.out.2.alloc HO.out.2.size _).trans ((Below.refl _ _).grown hg6 (by rw [size_alloc]; have := HO.out.2.size; omega) (fun k hk => (HO.out.1.lt k hk).1))⟩
              clear ho6 hg6 hat6
              go_wp2_with fail
              go_roundg (L.length - (j + 1))
              case measure => omega
              case rel =>
                refine ⟨_, j + 1, _, rfl, by go_num, by omega, by omega, rfl, ?_, H6.out.2⟩
                rw [HI2.out]
                exact H6.out.1
          · obtain rfl : j = L.length := by omega
            go_wp2_with fail
            go_ret
            have h1 := H2.out.1
            rw [List.take_length, List.take_of_length_le (by rw [HG.out.2.2.len]; omega)] at h1
            refine ⟨⟨_, idsR L bs, rfl, ⟨h1.1, h1.2.imp (fun h => h) ?_⟩, hbe, .inr ⟨k, bs, HKF.out, HG.out.2.2, rfl⟩⟩⟩
            rintro ⟨g', cap', cur', a1, a2, a3⟩
            exact ⟨g', cap', cur', a1, by have := HZB.out; omega, a3⟩
      · obtain ⟨i, rfl⟩ : ∃ i, i1 = i + 1 := ⟨i1 - 1, by omega⟩
        have hiI : ((i + 1 : Nat) : Int) - 1 = (i : Int) := by omega
        rw [hiI]
        have hiL : (i : Int) < (L.length : Int) := by omega
        have hi0' : (0 : Int) ≤ (i : Int) := by omega
        obtain ⟨c, hc⟩ : ∃ c, L[i]? = some c := ⟨_, List.getElem?_eq_getElem (by omega)⟩
        obtain ⟨bi, hbi⟩ : ∃ bi, bs[i]? = some bi := ⟨_, List.getElem?_eq_getElem (by rw [HG.out.2.2.len]; omega)⟩
        have bc : gw.cell? ⟨w.heap.size, i, none⟩ = some (.bool bi) := HG.out.2.1.cell hbi
        have HC : Hid (L[i]? = some c ∧ bs[i]? = some bi) := ⟨hc, hbi⟩
        clear hc hbi hiI hi0
        cases bi with
        | false =>
          go_wp2_with fail
          go_roundg i
          case measure => omega
          case rel =>
            refine ⟨_, i, bs, rfl, by omega, by omega, by go_num, HG.out.1, HG.out.2.1, HG.out.2.2.next (Mo.refl _ _) HG.out.2.2.snd fun hb => ?_⟩
            rw [HC.out.2] at hb
            cases hb
        | true =>
          have HAL : Hid (SrcI w c.ap c.A ∧ c.A.length ≤ c.ac ∧ (c.ac : Int) ≤ 9223372036854775807) := HK.out.sr c (List.mem_of_getElem? HC.out.1)
          have hacl : (c.A.length : Int) ≤ 9223372036854775807 := by have := HAL.out; omega
          have HSi : Hid (S i) := HG.out.2.2.snd i HC.out.2
          go_upto_region 10 with fail
          clear c2' bc
          go_wp2_with fail
          go_loopg [8, 9] c.A.length (fun gg t8 _ W => ∃ (g2 : World) (j : Nat) (bs' : List Bool), g2 = W ∧ j ≤ c.A.length ∧ c.A.length - j ≤ gg ∧ t8 = .int .i64 j ∧ Hid (Below w.heap.size w g2 ∧ RowB g2 w.heap.size bs' ∧ Mo i bs bs' ∧ (∀ j : Nat, bs'[j]? = some true → S j) ∧ ∀ a ∈ c.A.take j, ∀ n : Nat, findI L a 0 = (n : Int) → bs'[n]? = some true))
          case atStart => exact ⟨_, 0, bs, rfl, by omega, by omega, rfl, HG.out.1, HG.out.2.1, Mo.refl _ _, HG.out.2.2.snd, fun a ha => by simp at ha⟩
          case round =>
            obtain ⟨g2, j, bs', rfl, hj, hgj, rfl, H2⟩ := hrel
            have c2' : g2.cell? ⟨q, 2, none⟩ = some (.slice (some ⟨g, 0, none⟩) L.length ca) := (H2.out.1.cell (p := ⟨q, 2, none⟩) HQ.out).trans c2
            have d4 : g2.cell? ⟨g, i * 6 + 4, none⟩ = some (.slice c.ap c.A.length c.ac) := (H2.out.1.cell (p := ⟨g, i * 6 + 4, none⟩) hgl).trans (HCC.out i c HC.out.1 4 _ rfl)
            by_cases hjl : (j : Int) < (c.A.length : Int)
            · obtain ⟨yb, yo, y, hap, hyc, hym, hyt⟩ : ∃ yb yo y, c.ap = some ⟨yb, yo, none⟩ ∧ g2.cell? ⟨yb, yo + j, none⟩ = some (.int .i64 y) ∧ y ∈ c.A ∧ c.A.take (j + 1) = c.A.take j ++ [y] := by
                rcases HAL.out.1 with e | ⟨yb, yo, e, hl, hcc⟩
                · have : c.A.length = 0 := by rw [e]; rfl
                  omega
                · have hjn : j < c.A.length := by omega
                  refine ⟨yb, yo, c.A.getD j 0, e, (H2.out.1.cell (p := ⟨yb, yo + j, none⟩) hl).trans (hcc j hjn), getD_mem hjn, ?_⟩
                  rw [List.take_add_one, List.getElem?_eq_getElem hjn, List.getD_eq_getElem?_getD, List.getElem?_eq_getElem hjn]
                  rfl
              rw [hap] at d4
              have FI := rfind_any (HR.out.up H2.out.1) (by omega) y
              obtain ⟨hf1, hf2⟩ := findI_lt L y 0
              have hfi := HF.out i c HC.out.1 y hym
              obtain ⟨nf, hnf⟩ : ∃ nf, findI L y 0 = nf := ⟨_, rfl⟩
              rw [hnf] at FI hf1 hf2 hfi
              have HNF : Hid (findI L y 0 = nf ∧ y ∈ c.A ∧ c.A.take (j + 1) = c.A.take j ++ [y]) := ⟨hnf, hym, hyt⟩
              clear hnf hym hyt hap
              go_upto_region 14 with (first | (go_at_call 115; refine FI.mono ?_; rintro r w3 ⟨rfl, hw3⟩; obtain rfl : g2 = w3 := hw3.symm))
              clear FI d4 hyc c2'
              by_cases hn0 : 0 ≤ nf
              · obtain ⟨nk, rfl⟩ : ∃ nk : Nat, nf = (nk : Int) := ⟨nf.toNat, by omega⟩
                have hnl : (nk : Int) < (L.length : Int) := by omega
                obtain ⟨b1, hb1⟩ : ∃ b1, bs'[nk]? = some b1 := ⟨_, List.getElem?_eq_getElem (by rw [H2.out.2.2.1.len, HG.out.2.2.len]; omega)⟩
                have e1 := H2.out.2.1.cell hb1
                have fz := H2.out.2.1.frozen nk
                have H3 : Hid (Below w.heap.size w (g2.setCell ⟨w.heap.size, nk, none⟩ (.bool true)) ∧ RowB (g2.setCell ⟨w.heap.size, nk, none⟩ (.bool true)) w.heap.size (bs'.set nk true) ∧ Mo i bs (bs'.set nk true) ∧ (∀ j : Nat, (bs'.set nk true)[j]? = some true → S j) ∧ ∀ a ∈ c.A.take (j + 1), ∀ n : Nat, findI L a 0 = (n : Int) → (bs'.set nk true)[n]? = some true) := by
                  have hset : (bs'.set nk true)[nk]? = some true := by rw [List.getElem?_set, if_pos rfl, if_pos (List.getElem?_eq_some_iff.1 hb1).1]
                  refine ⟨H2.out.1.setCell (Nat.le_refl _) _, H2.out.2.1.set nk true, H2.out.2.2.1.set (by omega), fun j hj => ?_, fun a ha n hn => ?_⟩
                  · by_cases e : j = nk
                    · rw [e]
                      exact HS.out.2 i nk HSi.out ⟨c, HC.out.1, .inl ⟨y, HNF.out.2.1, HNF.out.1⟩⟩
                    · rw [List.getElem?_set_ne (fun e2 => e e2.symm)] at hj
                      exact H2.out.2.2.2.1 j hj
                  · rw [HNF.out.2.2] at ha
                    rcases List.mem_append.1 ha with ha | ha
                    · exact set_true (H2.out.2.2.2.2 a ha n hn)
                    · rw [List.mem_singleton.1 ha, HNF.out.1] at hn
                      have : n = nk := by omega
                      rw [this]; exact hset
                clear hb1
                go_wp2_with fail
                go_roundg (c.A.length - (j + 1))
                case measure => omega
                case rel => exact ⟨_, j + 1, _, rfl, by omega, by omega, by go_num, H3.out⟩
              · go_wp2_with fail
                go_roundg (c.A.length - (j + 1))
                case measure => omega
                case rel =>
                  refine ⟨_, j + 1, bs', rfl, by omega, by omega, by go_num, H2.out.1, H2.out.2.1, H2.out.2.2.1, H2.out.2.2.2.1, fun a ha n hn => ?_⟩
                  rw [HNF.out.2.2] at ha
                  rcases List.mem_append.1 ha with ha | ha
                  · exact H2.out.2.2.2.2 a ha n hn
                  · rw [List.mem_singleton.1 ha, HNF.out.1] at hn
                    omega
            · have HT : Hid (c.A.take j = c.A) := List.take_of_length_le (by omega)
              have H3 : Hid (Below w.heap.size w g2 ∧ RowB g2 w.heap.size bs' ∧ Mo i bs bs' ∧ (∀ j : Nat, bs'[j]? = some true → S j) ∧ ∀ a ∈ c.A, ∀ n : Nat, findI L a 0 = (n : Int) → bs'[n]? = some true) := by
                have := H2.out
                rw [HT.out] at this
                exact this
              clear H2
              go_upto_region 16 with fail
              clear d4 c2'
              go_wp2_with fail
              go_loopg [10] i (fun gg t10 W => ∃ (g4 : World) (m : Nat) (b4 : List Bool), g4 = W ∧ m ≤ i ∧ i - m ≤ gg ∧ t10 = .int .i64 m ∧ Hid (Below w.heap.size w g4 ∧ RowB g4 w.heap.size b4 ∧ Mo i bs b4 ∧ (∀ j : Nat, b4[j]? = some true → S j) ∧ (∀ a ∈ c.A, ∀ n : Nat, findI L a 0 = (n : Int) → b4[n]? = some true) ∧ ∀ n, n < m → ∀ e, L[n]? = some e → meetR e c = true → b4[n]? = some true))
              case atStart => exact ⟨_, 0, bs', rfl, by omega, by omega, rfl, H3.out.1, H3.out.2.1, H3.out.2.2.1, H3.out.2.2.2.1, H3.out.2.2.2.2, fun n hn => by omega⟩
              case round =>
                clear H3
                obtain ⟨g4, m, b4, rfl, hm, hgm, rfl, H4⟩ := hrel
                by_cases hml : (m : Int) < (i : Int)
                · obtain ⟨e, he⟩ : ∃ e, L[m]? = some e := ⟨_, List.getElem?_eq_getElem (by omega)⟩
                  have hmL : (m : Int) < (L.length : Int) := by omega
                  have c2' : g4.cell? ⟨q, 2, none⟩ = some (.slice (some ⟨g, 0, none⟩) L.length ca) := (H4.out.1.cell (p := ⟨q, 2, none⟩) HQ.out).trans c2
                  have HE : Hid (L[m]? = some e) := he
                  have ME := fun W => rmeet_any e c W (HK.out.bd e (List.mem_of_getElem? he)) (HK.out.bd c (List.mem_of_getElem? HC.out.1))
                  have X : ∀ j v, (rcL e)[j]? = some v → g4.cell? ⟨g, m * 6 + j, none⟩ = some v := fun j v hv => (H4.out.1.cell (p := ⟨g, m * 6 + j, none⟩) hgl).trans (HCC.out m e he j v hv)
                  have Y : ∀ j v, (rcL c)[j]? = some v → g4.cell? ⟨g, i * 6 + j, none⟩ = some v := fun j v hv => (H4.out.1.cell (p := ⟨g, i * 6 + j, none⟩) hgl).trans (HCC.out i c HC.out.1 j v hv)
                  have x0 : g4.cell? ⟨g, m * 6, none⟩ = some (.int .i64 (e.id : Int)) := X 0 _ rfl
                  have x1 := X 1 _ rfl
                  have x2 := X 2 _ rfl
                  have x3 := X 3 _ rfl
                  have x4 := X 4 _ rfl
                  have x5 := X 5 _ rfl
                  have y0 : g4.cell? ⟨g, i * 6, none⟩ = some (.int .i64 (c.id : Int)) := Y 0 _ rfl
                  have y1 := Y 1 _ rfl
                  have y2 := Y 2 _ rfl
                  have y3 := Y 3 _ rfl
                  have y4 := Y 4 _ rfl
                  have y5 := Y 5 _ rfl
                  clear he X Y
                  obtain ⟨mt, hmt⟩ : ∃ mt, meetR e c = mt := ⟨_, rfl⟩
                  have HMT : Hid (meetR e c = mt) := hmt
                  rw [hmt] at ME
                  clear hmt
                  have HBD0 : Hid (Below g4.heap.size g4 g4.drew) := (Below.refl _ _).drew
                  have HQ4 : Hid (q < g4.heap.size) := Nat.lt_of_lt_of_le HQ.out H4.out.1.size
                  have HGL4 : Hid (g < g4.heap.size) := Nat.lt_of_lt_of_le hgl H4.out.1.size
                  have CC2 : Hid (g4.cell? ⟨q, 2, none⟩ = some (.slice (some ⟨g, 0, none⟩) L.length ca)) := c2'
                  clear c2'
                  go_upto_region 19 with fail
                  refine wp_region_held_drew (S := (fun W => Below g4.heap.size g4 W)) (by kernel_rfl) HBD0.out (fun hH => ?_)
                  refine takeH (i := 0) (dst := some 73) (v := ?v1) rfl rfl (by kernel_rfl) (by kernel_rfl) (by kernel_rfl) (fun _ _ _ h => h) rfl ?hy1 hH rfl ?rest1
                  case hy1 => (intro W hW; (try dsimp only at hW); go_simp; try with_reducible rfl)
                  (try simp only [Act.put, List.setIfInBounds_toArray, List.set_cons_zero, List.set_cons_succ])
                  refine takeH (i := 1) (dst := some 74) (v := ?v2) rfl rfl (by kernel_rfl) (by kernel_rfl) (by kernel_rfl) (fun _ _ _ h => h) rfl ?hy2 hH rfl ?rest2
                  case hy2 => (intro W hW; (try dsimp only at hW); go_simp; try with_reducible rfl)
                  (try simp only [Act.put, List.setIfInBounds_toArray, List.set_cons_zero, List.set_cons_succ])
                  refine takeH (i := 2) (dst := some 75) (v := ?v3) rfl rfl (by kernel_rfl) (by kernel_rfl) (by kernel_rfl) (fun _ _ _ h => h) rfl ?hy3 hH rfl ?rest3
                  case hy3 => (intro W hW; (try dsimp only at hW); go_simp; try with_reducible rfl)
                  (try simp only [Act.put, List.setIfInBounds_toArray, List.set_cons_zero, List.set_cons_succ])
                  refine takeH (i := 3) (dst := some 76) (v := ?v4) rfl rfl (by kernel_rfl) (by kernel_rfl) (by kernel_rfl) (fun _ _ _ h => h) rfl ?hy4 hH rfl ?rest4
                  case hy4 => (intro W hW; have k2 := (hW.cell (p := ⟨q, 2, none⟩) HQ4.out).trans CC2.out; clear hW; go_simp; try with_reducible rfl)
                  (try simp only [Act.put, List.setIfInBounds_toArray, List.set_cons_zero, List.set_cons_succ])
                  refine takeH (i := 4) (dst := some 77) (v := ?v5) rfl rfl (by kernel_rfl) (by kernel_rfl) (by kernel_rfl) (fun _ _ _ h => h) rfl ?hy5 hH rfl ?rest5
                  case hy5 => (intro W hW; (try dsimp only at hW); go_simp; try with_reducible rfl)
                  (try simp only [Act.put, List.setIfInBounds_toArray, List.set_cons_zero, List.set_cons_succ])
                  refine takeH (i := 5) (dst := some 78) (v := ?v6) rfl rfl (by kernel_rfl) (by kernel_rfl) (by kernel_rfl) (fun _ _ _ h => h) rfl ?hy6 hH rfl ?rest6
                  case hy6 => (intro W hW; (try dsimp only at hW); go_simp; try with_reducible rfl)
                  (try simp only [Act.put, List.setIfInBounds_toArray, List.set_cons_zero, List.set_cons_succ])
                  refine takeH (i := 6) (dst := some 79) (v := ?v7) rfl rfl (by kernel_rfl) (by kernel_rfl) (by kernel_rfl) (fun _ _ _ h => h) rfl ?hy7 hH rfl ?rest7
                  case hy7 => (intro W hW; have k0 := (hW.cell (p := ⟨g, m * 6, none⟩) HGL4.out).trans x0; have k1 := (hW.cell (p := ⟨g, m * 6 + 1, none⟩) HGL4.out).trans x1; have k2 := (hW.cell (p := ⟨g, m * 6 + 2, none⟩) HGL4.out).trans x2; have k3 := (hW.cell (p := ⟨g, m * 6 + 3, none⟩) HGL4.out).trans x3; have k4 := (hW.cell (p := ⟨g, m * 6 + 4, none⟩) HGL4.out).trans x4; have k5 := (hW.cell (p := ⟨g, m * 6 + 5, none⟩) HGL4.out).trans x5; clear hW; go_simp; try with_reducible rfl)
                  (try simp only [Act.put, List.setIfInBounds_toArray, List.set_cons_zero, List.set_cons_succ])
                  refine takeH (i := 7) (dst := some 80) (v := ?v8) rfl rfl (by kernel_rfl) (by kernel_rfl) (by kernel_rfl) (fun _ _ _ h => h) rfl ?hy8 hH rfl ?rest8
                  case hy8 => (intro W hW; (try dsimp only at hW); go_simp; try with_reducible rfl)
                  (try simp only [Act.put, List.setIfInBounds_toArray, List.set_cons_zero, List.set_cons_succ])
                  refine takeH (i := 8) (dst := some 81) (v := ?v9) rfl rfl (by kernel_rfl) (by kernel_rfl) (by kernel_rfl) (fun _ _ _ h => h) rfl ?hy9 hH rfl ?rest9
                  case hy9 => (intro W hW; (try dsimp only at hW); go_simp; try with_reducible rfl)
                  (try simp only [Act.put, List.setIfInBounds_toArray, List.set_cons_zero, List.set_cons_succ])
                  refine takeH (i := 9) (dst := some 82) (v := ?v10) rfl rfl (by kernel_rfl) (by kernel_rfl) (by kernel_rfl) (fun _ _ _ h => h) rfl ?hy10 hH rfl ?rest10
                  case hy10 => (intro W hW; (try dsimp only at hW); go_simp; try with_reducible rfl)
                  (try simp only [Act.put, List.setIfInBounds_toArray, List.set_cons_zero, List.set_cons_succ])
                  refine takeH (i := 10) (dst := some 83) (v := ?v11) rfl rfl (by kernel_rfl) (by kernel_rfl) (by kernel_rfl) (fun _ _ _ h => h) rfl ?hy11 hH rfl ?rest11
                  case hy11 => (intro W hW; have k2 := (hW.cell (p := ⟨q, 2, none⟩) HQ4.out).trans CC2.out; clear hW; go_simp; try with_reducible rfl)
                  (try simp only [Act.put, List.setIfInBounds_toArray, List.set_cons_zero, List.set_cons_succ])
                  refine takeH (i := 11) (dst := some 84) (v := ?v12) rfl rfl (by kernel_rfl) (by kernel_rfl) (by kernel_rfl) (fun _ _ _ h => h) rfl ?hy12 hH rfl ?rest12
                  case hy12 => (intro W hW; (try dsimp only at hW); go_simp; try with_reducible rfl)
                  (try simp only [Act.put, List.setIfInBounds_toArray, List.set_cons_zero, List.set_cons_succ])
                  refine takeH (i := 12) (dst := some 85) (v := ?v13) rfl rfl (by kernel_rfl) (by kernel_rfl) (by kernel_rfl) (fun _ _ _ h => h) rfl ?hy13 hH rfl ?rest13
                  case hy13 => (intro W hW; (try dsimp only at hW); go_simp; try with_reducible rfl)
                  (try simp only [Act.put, List.setIfInBounds_toArray, List.set_cons_zero, List.set_cons_succ])
                  refine takeH (i := 13) (dst := some 86) (v := ?v14) rfl rfl (by kernel_rfl) (by kernel_rfl) (by kernel_rfl) (fun _ _ _ h => h) rfl ?hy14 hH rfl ?rest14
                  case hy14 => (intro W hW; have k0 := (hW.cell (p := ⟨g, i * 6, none⟩) HGL4.out).trans y0; have k1 := (hW.cell (p := ⟨g, i * 6 + 1, none⟩) HGL4.out).trans y1; have k2 := (hW.cell (p := ⟨g, i * 6 + 2, none⟩) HGL4.out).trans y2; have k3 := (hW.cell (p := ⟨g, i * 6 + 3, none⟩) HGL4.out).trans y3; have k4 := (hW.cell (p := ⟨g, i * 6 + 4, none⟩) HGL4.out).trans y4; have k5 := (hW.cell (p := ⟨g, i * 6 + 5, none⟩) HGL4.out).trans y5; clear hW; go_simp; try with_reducible rfl)
                  (try simp only [Act.put, List.setIfInBounds_toArray, List.set_cons_zero, List.set_cons_succ])
                  refine callH (i := 14) { dst := some 87, op := Go.Op.call { callee := Go.Callee.value (Go.Operand.func 116), args := #[Go.Operand.tmp 79, Go.Operand.tmp 86], argTypes := #[177, 177] }, type := 4, pos := "ref.go:222", after := #[{ on := 6, ground := Go.Ground.data }, { on := 13, ground := Go.Ground.data }], guard := none } (by kernel_rfl) rfl rfl (fun K hK => ?_)
                  go_simp
                  refine (ME _).mono ?_
                  rintro r w5 ⟨rfl, hb5⟩
                  have HB5 : Hid (Below g4.heap.size g4 w5) := hH.trans (hb5.mono hH.size)
                  clear hb5
                  clear hH
                  refine hK.out _ _ HB5.out (fun hH => ?_)
                  clear hK K
                  (try simp only [Act.put, List.setIfInBounds_toArray, List.set_cons_zero, List.set_cons_succ])
                  refine wpAnyH_done (by kernel_rfl) ?_ _
                  clear hH
                  clear x0 x1 x2 x3 x4 x5 y0 y1 y2 y3 y4 y5 CC2 ME
                  have H5 : Hid (Below w.heap.size w w5 ∧ RowB w5 w.heap.size b4) := ⟨H4.out.1.trans (HB5.out.mono H4.out.1.size), H4.out.2.1.below HB5.out H4.out.2.1.lt⟩
                  cases mt with
                  | true =>
                    obtain ⟨b1, hb1⟩ : ∃ b1, b4[m]? = some b1 := ⟨_, List.getElem?_eq_getElem (by rw [H4.out.2.2.1.len, HG.out.2.2.len]; omega)⟩
                    have e1 := H5.out.2.cell hb1
                    have fz := H5.out.2.frozen m
                    have H6 : Hid (Below w.heap.size w (w5.setCell ⟨w.heap.size, m, none⟩ (.bool true)) ∧ RowB (w5.setCell ⟨w.heap.size, m, none⟩ (.bool true)) w.heap.size (b4.set m true) ∧ Mo i bs (b4.set m true) ∧ (∀ j : Nat, (b4.set m true)[j]? = some true → S j) ∧ (∀ a ∈ c.A, ∀ n : Nat, findI L a 0 = (n : Int) → (b4.set m true)[n]? = some true) ∧ ∀ n, n < m + 1 → ∀ e, L[n]? = some e → meetR e c = true → (b4.set m true)[n]? = some true) := by
                      have hset : (b4.set m true)[m]? = some true := by rw [List.getElem?_set, if_pos rfl, if_pos (List.getElem?_eq_some_iff.1 hb1).1]
                      refine ⟨H5.out.1.setCell (Nat.le_refl _) _, H5.out.2.set m true, H4.out.2.2.1.set (by omega), fun j hj => ?_, fun a ha n hn => set_true (H4.out.2.2.2.2.1 a ha n hn), fun n hn e' he' hm' => ?_⟩
                      · by_cases e2 : j = m
                        · rw [e2]
                          exact HS.out.2 i m HSi.out ⟨c, HC.out.1, .inr ⟨by omega, e, HE.out, HMT.out⟩⟩
                        · rw [List.getElem?_set_ne (fun e3 => e2 e3.symm)] at hj
                          exact H4.out.2.2.2.1 j hj
                      · by_cases e2 : n = m
                        · rw [e2]; exact hset
                        · exact set_true (H4.out.2.2.2.2.2 n (by omega) e' he' hm')
                    clear hb1
                    go_wp2_with fail
                    go_roundg (i - (m + 1))
                    case measure => omega
                    case rel => exact ⟨_, m + 1, _, rfl, by omega, by omega, by go_num, H6.out⟩
                  | false =>
                    go_wp2_with fail
                    go_roundg (i - (m + 1))
                    case measure => omega
                    case rel =>
                      refine ⟨_, m + 1, b4, rfl, by omega, by omega, by go_num, H5.out.1, H5.out.2, H4.out.2.2.1, H4.out.2.2.2.1, H4.out.2.2.2.2.1, fun n hn e' he' hm' => ?_⟩
                      by_cases e2 : n = m
                      · rw [e2, HE.out] at he'
                        cases he'
                        rw [HMT.out] at hm'
                        cases hm'
                      · exact H4.out.2.2.2.2.2 n (by omega) e' he' hm'
                · obtain rfl : m = i := by omega
                  have H7 : Hid (WM L S k m b4) := HG.out.2.2.next H4.out.2.2.1 H4.out.2.2.2.1 fun _ n hE => by
                    obtain ⟨r, hr, hE⟩ := hE
                    rw [HC.out.1] at hr
                    cases hr
                    rcases hE with ⟨a, ha, hn⟩ | ⟨hn, e, he, hm⟩
                    · exact H4.out.2.2.2.2.1 a ha n hn
                    · exact H4.out.2.2.2.2.2 n hn e he hm
                  go_wp2_with fail
                  go_roundg m
                  case measure => omega
                  case rel => exact ⟨_, m, b4, rfl, by omega, by omega, by go_num, H4.out.1, H4.out.2.1, H7.out⟩
end
end Go.Proofs.YtadadidccbhopaaGreat
/- Both stores' Waits: the same list. -/
namespace Go.Proofs.YtadadidccbhopaaGreat
open Go.RowKit
set_option maxRecDepth 100000
theorem sorted_ext : ∀ {a b : List Int}, a.Pairwise (· < ·) → b.Pairwise (· < ·) → (∀ x, x ∈ a ↔ x ∈ b) → a = b
  | [], [], _, _, _ => rfl
  | [], y :: b, _, _, h => absurd ((h y).2 (by simp)) (by simp)
  | x :: a, [], _, _, h => absurd ((h x).1 (by simp)) (by simp)
  | x :: a, y :: b, ha, hb, h => by
    obtain ⟨a1, a2⟩ := List.pairwise_cons.1 ha
    obtain ⟨b1, b2⟩ := List.pairwise_cons.1 hb
    have e : x = y := by
      have h1 := (h x).1 (by simp)
      have h2 := (h y).2 (by simp)
      rcases List.mem_cons.1 h1 with h1 | h1
      · exact h1
      · rcases List.mem_cons.1 h2 with h2 | h2
        · exact h2.symm
        · have := a1 y h2; have := b1 x h1; omega
    subst e
    congr 1
    refine sorted_ext a2 b2 fun z => ⟨fun hz => ?_, fun hz => ?_⟩
    · rcases List.mem_cons.1 ((h z).1 (by simp [hz])) with e | e
      · have := a1 z hz; omega
      · exact e
    · rcases List.mem_cons.1 ((h z).2 (by simp [hz])) with e | e
      · have := b1 z hz; omega
      · exact e
theorem idsR_mem : ∀ {L : List RCh} {bs : List Bool} {x : Int}, x ∈ idsR L bs ↔ ∃ (j : Nat) (r : RCh), L[j]? = some r ∧ bs[j]? = some true ∧ (r.id : Int) = x
  | [], _, x => by simp [idsR]
  | r :: L, [], x => by simp [idsR]
  | r :: L, b :: bs, x => by
    have ih := idsR_mem (L := L) (bs := bs) (x := x)
    constructor
    · intro h
      cases b with
      | true =>
        rcases List.mem_cons.1 (show x ∈ (r.id : Int) :: idsR L bs from h) with e | e
        · exact ⟨0, r, rfl, rfl, e.symm⟩
        · obtain ⟨j, r', h1, h2, h3⟩ := ih.1 e
          exact ⟨j + 1, r', h1, h2, h3⟩
      | false =>
        obtain ⟨j, r', h1, h2, h3⟩ := ih.1 (show x ∈ idsR L bs from h)
        exact ⟨j + 1, r', h1, h2, h3⟩
    · rintro ⟨j, r', h1, h2, h3⟩
      cases j with
      | zero =>
        cases h1; cases h2
        show x ∈ (r.id : Int) :: idsR L bs
        rw [h3]; simp
      | succ j =>
        have h4 := ih.2 ⟨j, r', by simpa using h1, by simpa using h2, h3⟩
        cases b with
        | true => show x ∈ (r.id : Int) :: idsR L bs; simp [h4]
        | false => exact h4
theorem idsR_sub : ∀ (L : List RCh) (bs : List Bool), (idsR L bs).Sublist (L.map fun r => (r.id : Int))
  | [], _ => by simp [idsR]
  | r :: L, [] => by simp [idsR]
  | r :: L, b :: bs => by
    have ih := idsR_sub L bs
    cases b with
    | true => exact ih.cons_cons _
    | false => exact ih.cons _
theorem rch_base {C : List Ch} {id x : Int} (h : Rch C id x) : opn C id = true := by
  induction h with
  | self h => exact h
  | ahead _ _ _ _ ih => exact ih
theorem rch_rea {C : List Ch} {id i : Int} {c : Ch} (hR : Rea C c i) (hc : c ∈ C) (h : Rch C id c.id) (ho : opn C i = true) : Rch C id i := by
  induction hR with
  | ahead hi => exact .ahead hc h hi ho
  | step hd hi _ ih => exact ih hd (.ahead hc h hi (opn_iff.2 ⟨_, hd, rfl⟩)) ho
theorem findI_at {L : List RCh} {x : Int} {n : Nat} (h : findI L x 0 = (n : Int)) : ∃ r, L[n]? = some r ∧ (r.id : Int) = x := by
  rcases findI_spec L x 0 with ⟨e, _⟩ | ⟨j, c, hc, e, e2⟩
  · rw [e] at h; omega
  · rw [e2] at h
    have : j = n := by omega
    rw [← this]; exact ⟨c, hc, e⟩
section
variable {N : Nat} {w0 w w' : World} {p dp ed q : Nat} {s : PSt} {ops : Nat → List Int} {κ m : Nat} {A : Nat → List Int} {L : List RCh} {D : Nat → Prop}
theorem BX.lok (h : BX N w0 w p dp ed q s ops κ m A L D) : ∃ d gB cB ao ca, RAt w q d (.slice (some ⟨gB, 0, none⟩) (basS N s).length cB) ao ca L s.cnt ∧ BAt w gB cB (basS N s) ∧ LOk w L := by
  obtain ⟨ver, ⟨gB, cB, ao, ca, base, gb, cb, va, vc, h1⟩, _⟩ := h.rt
  exact ⟨_, gB, cB, ao, ca, h1.at', h1.bs, h1.lk⟩
end
end Go.Proofs.YtadadidccbhopaaGreat
/- The document's store: Dirty, Block. -/
namespace Go.Proofs.YtadadidccbhopaaGreat
open Go.RowKit
set_option maxRecDepth 100000
/-- Stands a change in block k? -/
def hasR (L : List RCh) (k : Nat) : Bool := L.any fun c => (c.b : Int) == (k : Int)
/-- The blocks below m in which changes stand. -/
def dirR (L : List RCh) : Nat → List Int
  | 0 => []
  | k + 1 => if hasR L k then dirR L k ++ [(k : Int)] else dirR L k
theorem dirR_len (L : List RCh) : ∀ k, (dirR L k).length ≤ k
  | 0 => Nat.le_refl _
  | k + 1 => by
    have := dirR_len L k
    unfold dirR
    split
    · simp; omega
    · omega
section
variable {w : World} {q d gB cB : Nat} {B : List (List UInt8)} {ao : Option Addr} {ca : Nat} {L : List RCh} {last : Nat}
set_option maxHeartbeats 4000000 in
theorem rdirty_any (h : RAt w q d (.slice (some ⟨gB, 0, none⟩) B.length cB) ao ca L last) (hB : BAt w gB cB B) (hl : L.length ≤ 1000) :
    Calls Tryz.prog 75 #[.pointer (some ⟨q, 0, none⟩)] w fun e w' => ∃ v, e = .returned v ∧ OwnI w' w.heap.size v (dirR L B.length) ∧ Below w.heap.size w w' := by
  have HR : Hid (RAt w q d (.slice (some ⟨gB, 0, none⟩) B.length cB) ao ca L last) := h
  have hbl : (B.length : Int) ≤ 1000 := by have := hB.len.1; omega
  have hll : (L.length : Int) ≤ 1000 := by omega
  have hca : (ca : Int) ≤ 9223372036854775807 := h.ls.cap.2
  clear h hB hl
  go_enter Tryz.func75, Tryz.ntmps75
  go_wp2_with fail
  go_loopg [3, 4, 5, 6] 1000 (fun gg t3 t4 _ _ W => ∃ (gw : World) (k : Nat), gw = W ∧ k ≤ B.length ∧ B.length - k ≤ gg ∧ t4 = .int .i64 k ∧ Hid (OwnI gw w.heap.size t3 (dirR L k) ∧ Below w.heap.size w gw))
  case atStart => exact ⟨_, 0, rfl, by omega, by omega, rfl, OwnI.nil _ _, Below.refl _ _⟩
  case round =>
    obtain ⟨gw, k, rfl, hk, hgk, rfl, HG⟩ := hrel
    have c1 := (HR.out.up HG.out.2).c1
    have c2 := (HR.out.up HG.out.2).c2
    by_cases hlt : (k : Int) < (B.length : Int)
    · go_wp2_with fail
      clear c1
      go_loopg [5, 6] 1000 (fun gg t5 t6 W => ∃ (i : Nat), W = gw ∧ i ≤ L.length ∧ L.length - i ≤ gg ∧ t6 = .int .i64 i ∧ t5 = .bool ((L.take i).any fun c => (c.b : Int) == (k : Int)))
      case atStart => exact ⟨0, rfl, by omega, by omega, rfl, rfl⟩
      case round =>
        obtain ⟨i, hW, hi, hgi, rfl, rfl⟩ := hrel
        cases hW
        by_cases hil : (i : Int) < (L.length : Int)
        · obtain ⟨c, hc⟩ : ∃ c, L[i]? = some c := ⟨_, List.getElem?_eq_getElem (by omega)⟩
          obtain ⟨g, rfl, hgl, hcc⟩ : ∃ g, ao = some ⟨g, 0, none⟩ ∧ g < gw.heap.size ∧ gw.cell? ⟨g, i * 6 + 1, none⟩ = some (.int .i64 (c.b : Int)) := by
            rcases (HR.out.up HG.out.2).ls.cells with e | ⟨g, e, hl, h⟩
            · rw [e] at hc; cases hc
            · exact ⟨g, e, hl, h i c hc 1 _ rfl⟩
          have HT : Hid (((L.take (i + 1)).any fun c => (c.b : Int) == (k : Int)) = (((L.take i).any fun c => (c.b : Int) == (k : Int)) || ((c.b : Int) == (k : Int)))) := by
            show _ = _
            rw [List.take_add_one, hc, List.any_append]
            simp
          clear hc
          generalize ((L.take i).any fun c => (c.b : Int) == (k : Int)) = av at *
          obtain ⟨eb, heb⟩ : ∃ eb, ((c.b : Int) == (k : Int)) = eb := ⟨_, rfl⟩
          rw [heb] at HT
          cases av
          · cases eb
            · go_wp2_with fail
              go_roundg (L.length - (i + 1))
              case measure => omega
              case rel => exact ⟨i + 1, rfl, by omega, by omega, by go_num, by rw [HT.out]; rfl⟩
            · go_wp2_with fail
              go_roundg (L.length - (i + 1))
              case measure => omega
              case rel => exact ⟨i + 1, rfl, by omega, by omega, by go_num, by rw [HT.out]; rfl⟩
          · go_wp2_with fail
            go_roundg (L.length - (i + 1))
            case measure => omega
            case rel => exact ⟨i + 1, rfl, by omega, by omega, by go_num, by rw [HT.out]; rfl⟩
        · obtain ⟨hv, hhv⟩ : ∃ hv, hasR L k = hv := ⟨_, rfl⟩
          have HH : Hid (hasR L k = hv) := hhv
          have e : ((L.take i).any fun c => (c.b : Int) == (k : Int)) = hv := by rw [← hhv, List.take_of_length_le (by omega)]; rfl
          rw [e]
          clear e hhv
          have HN : Hid (dirR L (k + 1) = if hv then dirR L k ++ [(k : Int)] else dirR L k) := by show _ = _; rw [dirR, HH.out]
          cases hv with
          | false =>
            have H2 : Hid (OwnI gw w.heap.size u3 (dirR L (k + 1)) ∧ Below w.heap.size w gw) := by
              show OwnI gw w.heap.size u3 (dirR L (k + 1)) ∧ Below w.heap.size w gw
              rw [HN.out]; exact HG.out
            go_wp2_with fail
            go_roundg (B.length - (k + 1))
            case measure => omega
            case rel => exact ⟨_, k + 1, rfl, by omega, by omega, by go_num, H2.out⟩
          | true =>
            have HLN : Hid ((dirR L k).length ≤ 1000000) := by have := dirR_len L k; show _ ≤ _; omega
            go_wp2_with (first | (at_builtin; refine Hid.out ?_))
            change wpList _ _ _ _ _ _
            refine wpList_append_int rfl (.tmp 39) (.tmp 41) rfl w.heap.size (dirR L k) (k : Int) _ rfl _ _ rfl (HG.out.1.below ((Below.refl _ _).alloc (Nat.le_refl _) _) (Nat.le_refl _)) (heap_alloc_new _ _) (by rw [size_alloc]; have := HG.out.2.size; omega) HLN.out ?_
            intro v' w3 hO3 hb3
            have H2 : Hid (OwnI w3 w.heap.size v' (dirR L (k + 1)) ∧ Below w.heap.size w w3) := by
              refine ⟨?_, (HG.out.2.alloc HG.out.2.size _).trans hb3⟩
              rw [HN.out]; exact hO3
            clear hO3 hb3
            go_wp2_with fail
            go_roundg (B.length - (k + 1))
            case measure => omega
            case rel => exact ⟨_, k + 1, rfl, by omega, by omega, by go_num, H2.out⟩
    · obtain rfl : k = B.length := by omega
      go_wp2_with fail
      go_ret
      exact ⟨_, rfl, HG.out.1, HG.out.2⟩
set_option maxHeartbeats 1000000 in
theorem rblock_any {vB : Value} (h : RAt w q d vB ao ca L last) (hl : L.length ≤ 1000) (x : Int) :
    Calls Tryz.prog 71 #[.pointer (some ⟨q, 0, none⟩), .int .i64 x] w fun e w' => e = .returned (.tuple #[.int .i64 (if findI L x 0 < 0 then 0 else bAt L (findI L x 0)), .int .i64 (if findI L x 0 < 0 then 20 else 0)]) ∧ w' = w := by
  have FI := rfind_any h (by omega) x
  have hF := findI_lt L x 0
  by_cases h0 : findI L x 0 < 0
  · rw [if_pos h0, if_pos h0]
    generalize findI L x 0 = f at *
    clear h hF
    go_enter Tryz.func71, Tryz.ntmps71
    go_wp2_with (first | (go_at_call 115; refine FI.mono ?_; rintro r w1 ⟨rfl, rfl⟩))
    go_ret2
    exact ⟨rfl, rfl⟩
  · rw [if_neg h0, if_neg h0]
    obtain ⟨k, hk⟩ : ∃ k : Nat, findI L x 0 = (k : Int) := ⟨(findI L x 0).toNat, by omega⟩
    rw [hk] at FI hF ⊢
    obtain ⟨c, hc⟩ : ∃ c, L[k]? = some c := ⟨_, List.getElem?_eq_getElem (by omega)⟩
    obtain ⟨g, rfl, hgl, hcc⟩ : ∃ g, ao = some ⟨g, 0, none⟩ ∧ g < w.heap.size ∧ w.cell? ⟨g, k * 6 + 1, none⟩ = some (.int .i64 (c.b : Int)) := by
      rcases h.ls.cells with e | ⟨g, e, hl, h⟩
      · rw [e] at hc; cases hc
      · exact ⟨g, e, hl, h k c hc 1 _ rfl⟩
    have hkl : (k : Int) < (L.length : Int) := by have := (List.getElem?_eq_some_iff.1 hc).1; omega
    have HB : Hid (bAt L (k : Int) = (c.b : Int)) := by show _ = _; unfold bAt; rw [Int.toNat_natCast, hc]
    have c2 := h.c2
    have hca : (ca : Int) ≤ 9223372036854775807 := h.ls.cap.2
    rw [HB.out]
    clear h hF h0 hk hc
    go_enter Tryz.func71, Tryz.ntmps71
    go_wp2_with (first | (go_at_call 115; refine FI.mono ?_; rintro r w1 ⟨rfl, hw1⟩; obtain rfl : w = w1 := hw1.symm))
    go_ret2
    exact ⟨rfl, rfl⟩
end
end Go.Proofs.YtadadidccbhopaaGreat
/- The document's Read: its bytes lie in new memory. -/
namespace Go.Proofs.YtadadidccbhopaaGreat
open Go.RowKit
set_option maxRecDepth 100000
section
variable {w : World} {q d gB cB : Nat} {B : List (List UInt8)} {ao : Option Addr} {ca : Nat} {L : List RCh} {last : Nat}
set_option maxHeartbeats 4000000 in
theorem rsread_fresh (h : RAt w q d (.slice (some ⟨gB, 0, none⟩) B.length cB) ao ca L last) (hB : BAt w gB cB B) (hll : (L.length : Int) ≤ 1000) (hu : ∀ c ∈ L, c.fr + c.d.length ≤ 256 ∧ 0 < c.d.length) (n : Nat) (b0 : List UInt8) (hb0 : B[n]? = some b0) :
    Calls Tryz.prog 68 #[.pointer (some ⟨q, 0, none⟩), .int .i64 (n : Int)] w fun e w' => ∃ xo xc, e = .returned (.tuple #[.slice xo 256 xc, .int .i64 0]) ∧ Arg w' xo xc (laidR (ofR L n) L 0 b0) ∧ (laidR (ofR L n) L 0 b0).length = 256 ∧ Below w.heap.size w w' ∧ ∀ b o, xo = some ⟨b, o, none⟩ → w.heap.size ≤ b := by
  have hnl : n < B.length := (List.getElem?_eq_some_iff.1 hb0).1
  have TH := rthere_any h hB (n : Int)
  rw [decide_eq_true (by omega), decide_eq_true (by omega)] at TH
  have HB0 : Hid (b0.length = 256) := hB.len.2 b0 (List.mem_of_getElem? hb0)
  obtain ⟨xc0, w2, hcv, hav, hbv⟩ := str_arg w b0 (by have := HB0.out; omega) (by have := HB0.out; omega)
  have c1 := h.c1
  have bc := hB.cells n b0 hb0
  have hl : (B.length : Int) ≤ 1000 := by have := hB.len.1; omega
  have hcB := hB.cap.2
  have hnl' : (n : Int) < (B.length : Int) := by omega
  have HR : Hid (RAt w q d (.slice (some ⟨gB, 0, none⟩) B.length cB) ao ca L last) := h
  have HU : Hid (∀ c ∈ L, c.fr + c.d.length ≤ 256 ∧ 0 < c.d.length) := hu
  have HAV : Hid (Arg w2 (some ⟨w.heap.size, 0, none⟩) xc0 b0) := hav
  have HBV : Hid (Below w.heap.size w w2) := hbv
  obtain ⟨V, hVe⟩ : ∃ V, ofR L n = V := ⟨_, rfl⟩
  have HVE : Hid (ofR L n = V) := hVe
  rw [hVe]
  clear h hB hu hb0 hav hbv hnl hVe
  go_enter Tryz.func68, Tryz.ntmps68
  go_wp2_with (first | (go_at_call 114; refine TH.mono ?_; clear TH; rintro r w1 ⟨rfl, hw1⟩; obtain rfl : w = w1 := hw1.symm))
  clear hcv c1 bc hw1
  go_loopg [6, 7] 1000 (fun gg t6 t8 W => ∃ (gw : World) (k : Nat) (xo : Option Addr) (xc : Nat) (x : List UInt8), gw = W ∧ k ≤ L.length ∧ L.length - k ≤ gg ∧ t8 = .int .i64 k ∧ t6 = .slice xo x.length xc ∧ Hid (Below w.heap.size w gw ∧ Arg gw xo xc x ∧ x.length = 256 ∧ laidR V L 0 b0 = laidR V (L.drop k) k x ∧ ∀ b o, xo = some ⟨b, o, none⟩ → w.heap.size ≤ b))
  case atStart => exact ⟨_, 0, _, _, _, rfl, by omega, by omega, rfl, rfl, HBV.out, HAV.out, HB0.out, rfl, fun b o e => by cases e; exact Nat.le_refl _⟩
  case round =>
    clear HAV HBV
    obtain ⟨gw, k, xo, xc, x, rfl, hkl, hgk, rfl, rfl, HG⟩ := hrel
    have c2 := (HR.out.up HG.out.1).c2
    by_cases hlt : (k : Int) < (L.length : Int)
    · obtain ⟨c, hc⟩ : ∃ c, L[k]? = some c := ⟨_, List.getElem?_eq_getElem (by omega)⟩
      obtain ⟨g, rfl, hgl, hcc⟩ : ∃ g, ao = some ⟨g, 0, none⟩ ∧ g < gw.heap.size ∧ ∀ (j : Nat) (v : Value), (rcL c)[j]? = some v → gw.cell? ⟨g, k * 6 + j, none⟩ = some v := by
        rcases (HR.out.up HG.out.1).ls.cells with e | ⟨g, e, hl, h⟩
        · rw [e] at hc; cases hc
        · exact ⟨g, e, hl, fun j v hj => h k c hc j v hj⟩
      have hca : (ca : Int) ≤ 9223372036854775807 := HR.out.ls.cap.2
      have hVk : V k = decide (c.b = n) := by rw [← HVE.out, ofR, hc]
      have HD := HG.out.2.2.2.1.trans (laidR_drop V L k c x hc)
      rw [hVk] at HD
      have HDD : Hid (laidR V L 0 b0 = laidR V (L.drop (k + 1)) (k + 1) (if decide (c.b = n) then layB x c.fr c.d else x)) := HD
      clear HD hVk
      have x1 := hcc 1 _ rfl
      by_cases hbn : c.b = n
      · have hbb : ((c.b : Int) == (n : Int)) = true := by simp; omega
        rw [decide_eq_true hbn] at HDD
        have UP := rupon_any c xo xc x gw HG.out.2.1 HG.out.2.2.1 (HU.out c (List.mem_of_getElem? hc)).1 (HU.out c (List.mem_of_getElem? hc)).2
        have HLY : Hid ((layB x c.fr c.d).length = 256) := by
          have h1 := HG.out.2.2.1
          have h2 := (HU.out c (List.mem_of_getElem? hc)).1
          show _ = _
          rw [layB_length (by omega), h1]
        simp only [rcL] at UP
        have x0 := hcc 0 _ rfl
        have x2 := hcc 2 _ rfl
        have x3 := hcc 3 _ rfl
        have x4 := hcc 4 _ rfl
        have x5 := hcc 5 _ rfl
        rw [Nat.add_zero] at x0
        obtain ⟨y, hy⟩ : ∃ y, layB x c.fr c.d = y := ⟨_, rfl⟩
        have HY : Hid (layB x c.fr c.d = y) := hy
        rw [hy] at UP
        clear hcc hc hy hbn
        go_wp2_with (first | (go_at_call 112; refine UP.mono ?_; clear UP; rintro r w5 ⟨v, rfl, ho, hb5⟩; have H5 : Hid (Own w5 gw.heap.size v y ∧ Below gw.heap.size gw w5) := ⟨ho, hb5⟩; clear ho hb5))
        rw [HY.out] at HLY HDD
        obtain ⟨yo, yc, rfl, hya⟩ := H5.out.1.arg (by have := HLY.out; omega)
        go_roundg (L.length - (k + 1))
        case measure => omega
        case rel => exact ⟨_, k + 1, yo, yc, y, rfl, by omega, by omega, by go_num, rfl, HG.out.1.trans (H5.out.2.mono (HG.out.1.size)), hya, HLY.out, HDD.out, fun b o e => by have h1 := (Own.lt H5.out.1 b (by rw [e]; rfl)).1; have h2 := HG.out.1.size; omega⟩
      · have hbb : ((c.b : Int) == (n : Int)) = false := by simp; omega
        rw [decide_eq_false hbn] at HDD
        clear hcc hc hbn
        go_wp2_with fail
        go_roundg (L.length - (k + 1))
        case measure => omega
        case rel => exact ⟨_, k + 1, xo, xc, x, rfl, by omega, by omega, by go_num, rfl, HG.out.1, HG.out.2.1, HG.out.2.2.1, HDD.out, HG.out.2.2.2.2⟩
    · have HE : Hid (laidR V L 0 b0 = x) := by
        show _ = _
        rw [HG.out.2.2.2.1, List.drop_eq_nil_of_le (by omega)]; rfl
      have HX := HG.out.2.2.1
      rw [HX]
      clear HX
      go_wp2_with fail
      go_ret2
      exact ⟨xo, xc, rfl, by rw [HE.out]; exact HG.out.2.1, by rw [HE.out]; exact HG.out.2.2.1, HG.out.1, HG.out.2.2.2.2⟩
end
end Go.Proofs.YtadadidccbhopaaGreat
/- Both stores are asked: Read, Block, Safe, Open, Dirty. -/
namespace Go.Proofs.YtadadidccbhopaaGreat
open Go.RowKit
set_option maxRecDepth 100000
section
variable {N : Nat} {w0 w w' : World} {p dp ed q : Nat} {s : PSt} {ops : Nat → List Int} {κ m : Nat} {A : Nat → List Int} {L : List RCh} {D : Nat → Prop}
theorem PA.cache (h : PA s A) (σ' : CSt) : PA { s with σ := σ' } A := ⟨h.lac, h.ahc, h.afc, h.alt⟩
/-- What is read of a block. -/
def conS (s : PSt) (n : Nat) : List UInt8 := lays (s.σ.sf n) (ofB s.C n)
theorem BX.cont (h : BX N w0 w p dp ed q s ops κ m A L D) {n : Nat} (hn : n < N) : ((ent s.σ.L n).getD (lst s.σ n, 0)).1 = conS s n := by
  unfold conS
  by_cases hc : ∃ c ∈ s.C, c.b = n
  · obtain ⟨c, hc, e⟩ := hc
    obtain ⟨b, hb, hbn⟩ := h.gw.pl.cb c hc
    have h1 := h.gw.pl.cab b hb
    have h2 := h.gw.pl.sfb b hb
    rw [if_neg (by simp)] at h2
    rw [show b.n = n by omega] at h1 h2
    rw [h1, h2]
    rfl
  · obtain ⟨_, h2, h3⟩ := h.clean hn hc
    have hB : ∀ b ∈ s.B, ¬ b.n = n := fun b hb e => by
      obtain ⟨c, hc', e2⟩ := h.gw.pl.bc b hb (by simp)
      exact hc ⟨c, hc', by omega⟩
    rw [h3]
    rcases (h.gw.pl.cao n (by rw [h.gw.dn]; exact hn) hB).2 with e | e
    · rw [e]
      show lst s.σ n = _
      unfold lst lastOf
      rw [h2]
      rfl
    · rw [e]; rfl
theorem laidR_of : ∀ (C : List Ch) (L : List RCh) (V : Nat → Bool) (n k : Nat) (x : List UInt8), Alike C L A → (∀ i r, L[i]? = some r → V (k + i) = decide (r.b = n)) → laidR V L k x = lays x (ofB C n)
  | [], L, _, _, _, _, h, _ => by
    have hl := h.len
    obtain rfl : L = [] := List.eq_nil_of_length_eq_zero hl
    rfl
  | c :: C, [], _, _, _, _, h, _ => by have hl := h.len; cases hl
  | c :: C, r :: L, V, n, k, x, h, hV => by
    have h1 : absR r = absC A c ∧ L.map absR = C.map (absC A) := by
      have h0 : absR r :: L.map absR = absC A c :: C.map (absC A) := h
      exact ⟨(List.cons.inj h0).1, (List.cons.inj h0).2⟩
    have ih := fun y => laidR_of C L V n (k + 1) y h1.2 (fun i r' hr' => by have := hV (i + 1) r' hr'; rw [← this]; congr 1; omega)
    have hv := hV 0 r rfl
    rw [Nat.add_zero] at hv
    have h2 := h1.1
    unfold absR absC at h2
    simp only [Prod.mk.injEq] at h2
    obtain ⟨_, a2, a3, a4, _, _⟩ := h2
    unfold laidR
    rw [ih, hv, a2, a3, a4]
    by_cases hm : c.b = n
    · rw [decide_eq_true hm, if_pos rfl]
      have e : ofB (c :: C) n = c :: ofB C n := by unfold ofB; rw [List.filter_cons_of_pos (by simpa using hm)]
      rw [e, lays_cons]
    · rw [decide_eq_false hm, if_neg (by simp)]
      have e : ofB (c :: C) n = ofB C n := by unfold ofB; rw [List.filter_cons_of_neg (by simpa using hm)]
      rw [e]
/-- A slice of bytes that lies in new memory, none of the stores'. -/
def NewB (w w1 : World) (s : PSt) (v : Value) (d : List UInt8) : Prop := (v = .slice none 0 0 ∧ d = []) ∨ (Own w1 w.heap.size v d ∧ d.length = 256 ∧ ∀ k, v.ownBlock = some k → ¬ Ak s k)
/-- The state behind a block that was read: the cache alone is another one. -/
theorem BX.touched (h : BX N w0 w p dp ed q s ops κ m A L D) {σ' : CSt} {n : Nat} {x : Option (List UInt8 × Nat)} (hR : PRun w0.heap.size s w { s with σ := σ' } ops w') (hL : PL { s with σ := σ' } ops [] (κ + 1)) (hC : CRel s.σ σ' n x) : BX N w0 w' p dp ed q { s with σ := σ' } ops (κ + 1) m A L D := by
  obtain ⟨ver, h1, h2⟩ := h.rt
  refine ⟨h.gw.run hR hL rfl hC.dp hC.dn, h.pa.cache σ', ⟨ver, ?_, fun i hi => ?_⟩, h.al, fun k hk hA => ?_, h.db⟩
  · have e : basS N { s with σ := σ' } = basS N s := by
      unfold basS
      show (List.range N).map σ'.sf = _
      rw [hC.sf]
    rw [e]
    exact h1.keep hR.fr h.no
  · show ver i = σ'.sf i :: σ'.ws i
    rw [hC.sf, hC.ws]
    exact h2 i hi
  · rcases hR.sub k hA with h3 | h3
    · exact h.no k hk h3
    · have := h.rs.ltD k hk; omega
set_option maxHeartbeats 1000000 in
theorem pread_out (h : PM w w0.heap.size s ops) (b : Int) (hb : b < 0 ∨ (s.σ.dn : Int) ≤ b) :
    Calls Tryz.prog 34 #[.pointer (some ⟨s.p, 0, none⟩), .int .i64 b] w fun r w' => r = .returned (.tuple #[.slice none 0 0, .int .i64 3]) ∧ w' = w := by
  have RD := cread_out h.cs b hb
  have c1 := h.c1
  clear h
  go_enter Tryz.func34, Tryz.ntmps34
  go_wp2_with fail
  refine RD.mono ?_
  clear RD
  rintro r w1 ⟨rfl, rfl⟩
  go_wp2
  go_ret2
  exact ⟨rfl, rfl⟩
/-- The same bytes of the document's block. -/
theorem xr_read (h : BX N w0 w p dp ed q s ops κ m A L D) (hκ : κ ≤ 950) {n : Nat} (hn : n < N) :
    Calls Tryz.prog 68 #[.pointer (some ⟨q, 0, none⟩), .int .i64 (n : Int)] w fun r w' => ∃ xo xc, r = .returned (.tuple #[.slice xo 256 xc, .int .i64 0]) ∧ Src w' xo (conS s n) ∧ (conS s n).length = 256 ∧ Below w.heap.size w w' ∧ ∀ b o, xo = some ⟨b, o, none⟩ → w.heap.size ≤ b := by
  obtain ⟨d, gB, cB, ao, ca, hR, hB, hk⟩ := h.lok
  have hb0 : (basS N s)[n]? = some (s.σ.sf n) := by unfold basS; rw [List.getElem?_map, List.getElem?_range hn]; rfl
  have hu : ∀ c ∈ L, c.fr + c.d.length ≤ 256 ∧ 0 < c.d.length := fun c hc => ⟨(h.fitN c hc).1, (h.fitN c hc).2.1⟩
  have e : laidR (ofR L n) L 0 (s.σ.sf n) = conS s n := laidR_of (A := A) s.C L _ n 0 _ h.al (fun i r hr => by rw [Nat.zero_add]; unfold ofR; rw [hr])
  refine (rsread_fresh hR hB (by have := h.len; omega) hu n _ hb0).mono ?_
  rintro r w' ⟨xo, xc, rfl, ha, hl, hb, hn⟩
  rw [e] at ha hl
  exact ⟨xo, xc, rfl, ha.src, hl, hb, hn⟩
/-- Both are read. -/
theorem xb_read (h : BX N w0 w p dp ed q s ops κ m A L D) (hκ : κ ≤ 900) (n : Int) :
    Calls Tryz.prog 34 #[.pointer (some ⟨p, 0, none⟩), .int .i64 n] w fun r w1 => ∃ v d e s', r = .returned (.tuple #[v, .int .i64 e]) ∧ NewB w w1 s' v d ∧ BX N w0 w1 p dp ed q s' ops (κ + 1) m A L D ∧ s'.C = s.C ∧ s'.cnt = s.cnt ∧ s'.σ.sf = s.σ.sf ∧ Fr (Ak s) w w1 ∧ (∀ k, Ak s' k → Ak s k ∨ w.heap.size ≤ k) ∧
      Calls Tryz.prog 68 #[.pointer (some ⟨q, 0, none⟩), .int .i64 n] w1 fun r2 w2 => ∃ xo xc, r2 = .returned (.tuple #[.slice xo d.length xc, .int .i64 e]) ∧ Src w2 xo d ∧ Below w1.heap.size w1 w2 ∧ ∀ b o, xo = some ⟨b, o, none⟩ → w1.heap.size ≤ b := by
  obtain rfl : s.p = p := h.gw.p
  by_cases hout : n < 0 ∨ (N : Int) ≤ n
  · have PR := pread_out h.gw.pm n (by rw [h.gw.dn]; exact hout)
    refine PR.mono ?_
    rintro r w1 ⟨rfl, rfl⟩
    refine ⟨.slice none 0 0, [], 3, s, rfl, .inl ⟨rfl, rfl⟩, h.more (by omega) (Nat.le_refl _), rfl, rfl, rfl, Fr.refl _ _, fun k hk => .inl hk, ?_⟩
    obtain ⟨d, gB, cB, ao, ca, hR, hB, hk⟩ := h.lok
    have hl : (basS N s).length = N := by unfold basS; simp
    refine (rsread_out hR hB n (by
      rw [hl]
      rcases hout with e | e
      · rw [decide_eq_false (by omega)]; rfl
      · rw [decide_eq_false (show ¬ n < (N : Int) by omega)]; simp)).mono ?_
    rintro r w2 ⟨rfl, rfl⟩
    exact ⟨none, 0, rfl, Src.nil _ _, Below.refl _ _, fun b o e => by cases e⟩
  · obtain ⟨n, rfl⟩ : ∃ n' : Nat, n = (n' : Int) := ⟨n.toNat, by omega⟩
    have hn5 : n < N := by omega
    have PR := pread_any h.gw.pm h.gw.pl (by omega) n (by rw [h.gw.dn]; exact hn5)
    refine PR.mono ?_
    rintro r w1 ⟨v, d, pn, σ', rfl, hd, hO, hl, hR, hL, hC, hS⟩
    have hcon := h.cont hn5
    rw [← hd] at hcon
    have hX := h.touched hR hL hC
    have hds : d = conS { s with σ := σ' } n := by
      unfold conS
      show d = lays (σ'.sf n) _
      rw [hC.sf]
      exact hcon
    refine ⟨v, d, 0, { s with σ := σ' }, rfl, .inr ⟨hO, hl, fun k hk hA => ?_⟩, hX, rfl, rfl, hC.sf, hR.fr, hR.sub, ?_⟩
    · rcases hA with hA | hA
      · have h1 : Ak s k := .inl hA
        have h2 := h.gw.pm.lt h1
        have h3 := (Own.lt hO k hk).1
        omega
      · exact hS k hk hA
    · refine (xr_read hX (by omega) hn5).mono ?_
      rintro r w2 ⟨xo, xc, rfl, hs, hl2, hb, hn⟩
      rw [← hds] at hs
      exact ⟨xo, xc, by rw [hl], hs, hb, hn⟩
/-- How many are open. -/
theorem xb_open (h : BX N w0 w p dp ed q s ops κ m A L D) :
    (Calls Tryz.prog 32 #[.pointer (some ⟨p, 0, none⟩)] w fun r w1 => r = .returned (.int .i64 (L.length : Int)) ∧ w1 = w) ∧ ∃ ao ca, w.cell? ⟨q, 2, none⟩ = some (.slice ao L.length ca) := by
  have hp : s.p = p := h.gw.p
  have PO := popen_any h.gw.pm
  rw [hp, h.gw.pl.kc] at PO
  have e : (cids s.C).length = L.length := by unfold cids; rw [List.length_map]; exact h.al.len.symm
  rw [e] at PO
  obtain ⟨d, gB, cB, ao, ca, hR, hB, hk⟩ := h.lok
  exact ⟨PO, ao, ca, hR.c2⟩
end
end Go.Proofs.YtadadidccbhopaaGreat
/- Both stores are asked: Image, Ready, Dirty. -/
namespace Go.Proofs.YtadadidccbhopaaGreat
open Go.RowKit
set_option maxRecDepth 100000
section
variable {N : Nat} {w0 w w' : World} {p dp ed q : Nat} {s : PSt} {ops : Nat → List Int} {κ m : Nat} {A : Nat → List Int} {L : List RCh} {D : Nat → Prop}
theorem rdyR_len : ∀ (C : List Ch) (L : List RCh) (V : Nat → Bool) (al : List Int) (n k a : Nat), Alike C L A → (∀ i r, L[i]? = some r → V (k + i) = decide ((r.id : Int) ∈ al)) → (∀ c ∈ C, (c.id : Int) ∈ al → c.b = n) → rdyR V L k a = a + (nwr (pickC (ofB C n) al)).length
  | [], L, _, _, _, _, _, h, _, _ => by
    have hl := h.len
    obtain rfl : L = [] := List.eq_nil_of_length_eq_zero hl
    rfl
  | c :: C, [], _, _, _, _, _, h, _, _ => by have hl := h.len; cases hl
  | c :: C, r :: L, V, al, n, k, a, h, hV, hb => by
    have h1 : absR r = absC A c ∧ L.map absR = C.map (absC A) := by
      have h0 : absR r :: L.map absR = absC A c :: C.map (absC A) := h
      exact ⟨(List.cons.inj h0).1, (List.cons.inj h0).2⟩
    have ih := fun y => rdyR_len C L V al n (k + 1) y h1.2 (fun i r' hr' => by have := hV (i + 1) r' hr'; rw [← this]; congr 1; omega) (fun c hc => hb c (by simp [hc]))
    have hv := hV 0 r rfl
    rw [Nat.add_zero] at hv
    have h2 := h1.1
    unfold absR absC at h2
    simp only [Prod.mk.injEq] at h2
    obtain ⟨a1, a2, _, _, a5, _⟩ := h2
    unfold rdyR
    rw [ih, hv, a1, a5]
    by_cases hm : (c.id : Int) ∈ al
    · have hcb := hb c (by simp) hm
      have e : pickC (ofB (c :: C) n) al = c :: pickC (ofB C n) al := by
        unfold pickC ofB
        rw [List.filter_cons_of_pos (by simpa using hcb), List.filter_cons_of_pos (by simpa using hm)]
      rw [decide_eq_true hm, e]
      unfold nwr
      cases hw : c.wr with
      | true => rw [List.filter_cons_of_neg (by simp [hw])]; simp
      | false => rw [List.filter_cons_of_pos (by simp [hw])]; simp; omega
    · rw [decide_eq_false hm]
      have e : pickC (ofB (c :: C) n) al = pickC (ofB C n) al := by
        unfold pickC ofB
        by_cases hcb : c.b = n
        · rw [List.filter_cons_of_pos (by simpa using hcb), List.filter_cons_of_neg (by simpa using hm)]
        · rw [List.filter_cons_of_neg (by simpa using hcb)]
      rw [e]
      simp
theorem dirR_mem (L : List RCh) : ∀ (k : Nat) (x : Int), x ∈ dirR L k ↔ ∃ n : Nat, x = (n : Int) ∧ n < k ∧ hasR L n = true
  | 0, x => by simp [dirR]
  | k + 1, x => by
    have ih := dirR_mem L k x
    unfold dirR
    cases hk : hasR L k with
    | true =>
      rw [if_pos rfl, List.mem_append, ih]
      constructor
      · rintro (⟨n, h1, h2, h3⟩ | h1)
        · exact ⟨n, h1, by omega, h3⟩
        · exact ⟨k, List.mem_singleton.1 h1, by omega, hk⟩
      · rintro ⟨n, h1, h2, h3⟩
        by_cases e : n = k
        · exact .inr (by rw [h1, e]; simp)
        · exact .inl ⟨n, h1, by omega, h3⟩
    | false =>
      rw [if_neg (by simp), ih]
      constructor
      · rintro ⟨n, h1, h2, h3⟩
        exact ⟨n, h1, by omega, h3⟩
      · rintro ⟨n, h1, h2, h3⟩
        by_cases e : n = k
        · rw [e, hk] at h3; cases h3
        · exact ⟨n, h1, by omega, h3⟩
theorem dirR_asc (L : List RCh) : ∀ k, (dirR L k).Pairwise (· < ·)
  | 0 => by simp [dirR]
  | k + 1 => by
    have ih := dirR_asc L k
    unfold dirR
    split
    · rw [List.pairwise_append]
      refine ⟨ih, by simp, fun a ha b hb => ?_⟩
      obtain ⟨n, h1, h2, _⟩ := (dirR_mem L k a).1 ha
      rw [List.mem_singleton.1 hb]
      omega
    · exact ih
theorem lt_of_le_nodup {l : List Int} (h : l.Pairwise (· ≤ ·)) (hn : l.Nodup) : l.Pairwise (· < ·) := by
  refine List.Pairwise.imp (R := fun a b => a ≤ b ∧ a ≠ b) (fun ⟨h1, h2⟩ => by omega) ?_
  exact List.Pairwise.and h hn
/-- The dirty blocks of both. -/
theorem xb_dirty (h : BX N w0 w p dp ed q s ops κ m A L D) :
    Calls Tryz.prog 33 #[.pointer (some ⟨p, 0, none⟩)] w fun r w1 => ∃ v xs, r = .returned v ∧ OwnI w1 w.heap.size v xs ∧ xs.length ≤ 8 ∧ (∀ x ∈ xs, 0 ≤ x ∧ x < (N : Int)) ∧ Below w.heap.size w w1 ∧
      ∀ W, Below w1.heap.size w1 W → Calls Tryz.prog 75 #[.pointer (some ⟨q, 0, none⟩)] W fun r2 w2 => ∃ v2, r2 = .returned v2 ∧ OwnI w2 W.heap.size v2 xs ∧ Below W.heap.size W w2 := by
  obtain rfl : s.p = p := h.gw.p
  have hnd : s.kB.Nodup := by
    rw [h.gw.pl.kb]
    unfold bns
    have := h.gw.pl.bn
    rw [show (fun b : Bk => (b.n : Int)) = (fun x : Nat => (x : Int)) ∘ (fun b : Bk => b.n) from rfl, ← List.map_map]
    exact List.Pairwise.map _ (fun a b hab e => hab (by omega)) this
  have hlen : s.kB.length ≤ 8 := by
    rw [h.gw.pl.kb]
    have e : (bns s.B).length = (s.B.map (·.n)).length := by unfold bns; simp
    rw [e]
    exact nodup_len 8 _ h.gw.pl.bn fun x hx => by
      obtain ⟨b, hb, rfl⟩ := List.mem_map.1 hx
      have h1 := h.gw.pl.bdn b hb
      have h2 := h.gw.pl.mdn
      show b.n < 8
      omega
  refine (pdirty_any h.gw.pm (by omega)).mono ?_
  rintro r w1 ⟨v, ss, rfl, hO, hP, hle, hb⟩
  have hm : ∀ x, x ∈ ss ↔ ∃ b ∈ s.B, x = (b.n : Int) := fun x => by
    rw [hP.mem_iff, h.gw.pl.kb]
    unfold bns
    simp [eq_comm]
  have hlt := lt_of_le_nodup hle (hP.nodup_iff.2 hnd)
  have hl : (basS N s).length = N := by unfold basS; simp
  have hss : ss = dirR L N := by
    refine sorted_ext hlt (dirR_asc L N) fun x => ?_
    rw [hm, dirR_mem]
    constructor
    · rintro ⟨b, hb', rfl⟩
      have h1 := h.gw.pl.bdn b hb'
      rw [h.gw.dn] at h1
      obtain ⟨c, hc, e⟩ := h.gw.pl.bc b hb' (by simp)
      exact ⟨b.n, rfl, h1, (alike_any h.al b.n).2 ⟨c, hc, e⟩⟩
    · rintro ⟨n, rfl, _, hn⟩
      obtain ⟨c, hc, e⟩ := (alike_any h.al n).1 hn
      obtain ⟨b, hb', e2⟩ := h.gw.pl.cb c hc
      exact ⟨b, hb', by omega⟩
  refine ⟨v, ss, rfl, hO, by rw [hP.length_eq]; exact hlen, fun x hx => ?_, hb, fun W hW => ?_⟩
  · obtain ⟨b, hb', rfl⟩ := (hm x).1 hx
    have h1 := h.gw.pl.bdn b hb'
    rw [h.gw.dn] at h1
    omega
  · obtain ⟨d, gB, cB, ao, ca, hR, hB, hk⟩ := (h.up (hb.trans (hW.mono hb.size))).lok
    refine (rdirty_any hR hB hk.len).mono ?_
    rintro r w2 ⟨v2, rfl, hO2, hb2⟩
    rw [hl, ← hss] at hO2
    exact ⟨v2, rfl, hO2, hb2⟩
end
end Go.Proofs.YtadadidccbhopaaGreat
/- Spoil of a slice of any row of bytes; equal lists of numbers. -/
namespace Go.Proofs.YtadadidccbhopaaGreat
open Go.RowKit
set_option maxRecDepth 100000
set_option maxHeartbeats 2000000 in
theorem eqInts_any {w : World} {ao bo : Option Addr} {l : List Int} (h : SrcI w ao l) (h2 : SrcI w bo l) (hl : l.length ≤ 1000) (cap cap2 : Nat) :
    Calls Tryz.prog 19 #[.slice ao l.length cap, .slice bo l.length cap2] w fun e w' => e = .returned (.bool true) ∧ Below w.heap.size w w' := by
  have HH : Hid (SrcI w ao l ∧ SrcI w bo l) := ⟨h, h2⟩
  have hl' : (l.length : Int) ≤ 1000 := by omega
  clear h h2
  go_enter Tryz.func19, Tryz.ntmps19
  go_wp2_with fail
  go_loopg [5] l.length (fun gg t5 W => ∃ (gw : World) (k : Nat), gw = W ∧ t5 = .int .i64 k ∧ k ≤ l.length ∧ l.length - k ≤ gg ∧ Hid (Below w.heap.size w gw))
  case atStart => exact ⟨_, 0, rfl, rfl, by omega, by omega, Below.refl _ _⟩
  case round =>
    obtain ⟨gw, k, rfl, rfl, hk, hgk, HG⟩ := hrel
    by_cases hlt : (k : Int) < (l.length : Int)
    · have hkl : k < l.length := by omega
      obtain ⟨g, o, e1, d0⟩ : ∃ g o, ao = some ⟨g, o, none⟩ ∧ gw.cell? ⟨g, o + k, none⟩ = some (.int .i64 (l.getD k 0)) := by
        rcases HH.out.1 with e | ⟨b, o, e, hb, hc⟩
        · rw [e] at hkl; cases hkl
        · exact ⟨b, o, e, (HG.out.cell (p := ⟨b, o + k, none⟩) hb).trans (hc k hkl)⟩
      obtain ⟨g2, o2, e2, d2⟩ : ∃ g o, bo = some ⟨g, o, none⟩ ∧ gw.cell? ⟨g, o + k, none⟩ = some (.int .i64 (l.getD k 0)) := by
        rcases HH.out.2 with e | ⟨b, o, e, hb, hc⟩
        · rw [e] at hkl; cases hkl
        · exact ⟨b, o, e, (HG.out.cell (p := ⟨b, o + k, none⟩) hb).trans (hc k hkl)⟩
      subst e1 e2
      generalize l.getD k 0 = x at *
      clear hkl
      go_upto_region 6 with fail
      go_quiet (fail)
      have HGN : Hid (Below w.heap.size w (gw.drewN nq)) := HG.out.trans ((belowN (Below.refl _ _) nq).mono HG.out.size)
      go_wp2_with fail
      go_roundg (l.length - (k + 1))
      case measure => omega
      case rel => exact ⟨_, k + 1, rfl, by go_num, by omega, by omega, HGN.out⟩
    · go_wp2_with fail
      go_ret
      exact ⟨rfl, HG.out⟩
end Go.Proofs.YtadadidccbhopaaGreat
/- disk.Bytes. -/
namespace Go.Proofs.YtadadidccbhopaaGreat
open Go.RowKit
set_option maxRecDepth 100000
section
variable {w : World} {base p n : Nat} {en : Bool} {lf : Int} {sf : Nat → List UInt8} {ws : Nat → List (List UInt8)} {q : Nat} {vs : Nat → Value}
def bytesP (y : Nat → List UInt8) (n k : Nat) : List UInt8 := (List.range k).flatMap y ++ List.replicate ((n - k) * 256) 0
theorem flat_length (y : Nat → List UInt8) (hy : ∀ i, (y i).length = 256) : ∀ k, ((List.range k).flatMap y).length = k * 256
  | 0 => rfl
  | k + 1 => by rw [List.range_succ, List.flatMap_append, List.length_append, flat_length y hy k]; simp [hy]; omega
theorem bytesP_step (y : Nat → List UInt8) (hy : ∀ i, (y i).length = 256) (n k : Nat) (hk : k < n) : (bytesP y n k).take (k * 256) ++ (y k).take (n * 256 - k * 256) ++ (bytesP y n k).drop (k * 256 + min 256 (n * 256 - k * 256)) = bytesP y n (k + 1) := by
  have hA := flat_length y hy k
  have h1 : (bytesP y n k).take (k * 256) = (List.range k).flatMap y := by unfold bytesP; rw [List.take_left' hA]
  have h2 : (y k).take (n * 256 - k * 256) = y k := List.take_of_length_le (by rw [hy]; omega)
  have h3 : (bytesP y n k).drop (k * 256 + min 256 (n * 256 - k * 256)) = List.replicate ((n - (k + 1)) * 256) 0 := by
    unfold bytesP
    have hm : min 256 (n * 256 - k * 256) = 256 := by omega
    have he : (n - k) * 256 - 256 = (n - (k + 1)) * 256 := by omega
    rw [hm, ← List.drop_drop, List.drop_left' hA, List.drop_replicate, he]
  rw [h1, h2, h3]
  unfold bytesP
  rw [List.range_succ, List.flatMap_append]; simp
set_option maxHeartbeats 2000000 in
set_option maxRecDepth 100000 in
theorem dbytes_any (h : DiskAt w base p n en lf sf ws q vs) (y : Nat → List UInt8) (hy : ∀ i, i < n → y i = lastOf (sf i) (ws i)) (hyl : ∀ i, (y i).length = 256) :
    Calls Tryz.prog 17 #[.pointer (some ⟨p, 0, none⟩)] w fun e w' => ∃ g, e = .returned (.slice (some ⟨g, 0, none⟩) (n * 256) (n * 256)) ∧ Blk w' g 5 ((List.range n).flatMap y) ∧ w.heap.size ≤ g ∧ Below w.heap.size w w' := by
  have LEN := len_any h
  have hnn := h.nn
  have hmk : (Instr.makeSlice 36 (.int .i64 ((n : Int) * 256)) (.int .i64 ((n : Int) * 256))).run Tryz.prog w = .ok (.slice (some ⟨w.heap.size, 0, none⟩) (n * 256) (n * 256)) (w.alloc (.cells (bvs (List.replicate (n * 256) 0)).toArray 5)) := by
    have := make_any w (n * 256) (n * 256) (Nat.le_refl _) (by omega)
    rw [show ((n * 256 : Nat) : Int) = (n : Int) * 256 by omega] at this
    exact this
  have hb0 : Below w.heap.size w (w.alloc (.cells (bvs (List.replicate (n * 256) 0)).toArray 5)) := (Below.refl _ _).alloc (Nat.le_refl _) _
  have hg0 : Blk (w.alloc (.cells (bvs (List.replicate (n * 256) 0)).toArray 5)) w.heap.size 5 (bytesP y n 0) := by
    have e : bytesP y n 0 = List.replicate (n * 256) 0 := by simp [bytesP]
    rw [e]; exact heap_alloc_new _ _
  have H : Hid _ := h
  have hq := h.ql
  have hp := h.pl
  clear h
  obtain ⟨w0, HW⟩ : ∃ w0, Hid (w0 = w.alloc (.cells (bvs (List.replicate (n * 256) 0)).toArray 5)) := ⟨_, rfl⟩
  rw [← HW.out] at hmk hb0 hg0
  have LEN0 := len_any (H.out.below hb0 (Nat.le_refl _))
  clear HW
  go_enter Tryz.func17, Tryz.ntmps17
  go_wp2_with fail
  refine LEN.mono ?_
  rintro e w1 ⟨rfl, rfl⟩
  clear LEN
  have hn1 : (n : Int) ≤ 4096 := by omega
  have hn0 : (0 : Int) ≤ n := by omega
  go_wp2_with fail
  refine LEN0.mono ?_
  rintro e w2 ⟨rfl, rfl⟩
  clear LEN0 hmk
  obtain ⟨Z, hz, hzs, hinfo, HZ⟩ := Tryz.zero132
  clear HZ hinfo
  go_wp2_with fail
  go_loopw [12] (fun i wr => ∃ k : Nat, k ≤ n ∧ i = .int .i64 k ∧ Blk wr w1.heap.size 5 (bytesP y n k) ∧ Below w1.heap.size w1 wr) (fun i _ => n - (intOf i).toNat)
  case atStart => exact ⟨0, by omega, rfl, hg0, hb0⟩
  case round =>
    obtain ⟨k, hk, rfl, hB, hbw⟩ := hrel
    by_cases hlt : (k : Int) < n
    · have hD := H.out.below hbw (Nat.le_refl _)
      have LAST := last_any hD k (by omega)
      rw [← hy k (by omega)] at LAST
      obtain ⟨cq, hcq1, hcq2, c0⟩ := hD.c0
      have hyk := hyl k
      clear hD
      go_wp2_with fail
      refine LAST.mono ?_
      rintro e w3 ⟨rfl, hb3⟩
      clear LAST
      have hs3 := hb3.size
      have hbZ : Below wr.heap.size wr (w3.alloc (.cells Z 132)) := hb3.alloc hs3 _
      go_wp2_with ((with_reducible show wpList _ _ _ ({ dst := _, op := Op.store 132 _ _, type := _, pos := _, after := _, guard := _ } :: _) _ _); refine wpList_store_blk rfl (.tmp 5) (.tmp 21) rfl w3.heap.size Z (y k) rfl rfl (heap_alloc_new _ _) hzs hyk wr.heap.size wr hbZ hs3 ?_; intro w4 hg4 hb4 hx1 hy1; clear hx1 hy1)
      have hlt0 := hB.lt
      have hB4 : Blk w4.drew w1.heap.size 5 (bytesP y n k) := hB.below hb4.drew hlt0
      have hPl : (bytesP y n k).length = n * 256 := by unfold bytesP; rw [List.length_append, flat_length y hyl, List.length_replicate]; omega
      obtain ⟨w5, hcp, hB5, hb5, hs5⟩ := copy_any (w := w4.drew) (g := w1.heap.size) (off := k * 256) (dLen := n * 256 - k * 256) (n * 256 - k * 256) (sp := some ⟨w3.heap.size, 0, none⟩) 256 256 hB4 (show Src w4.drew (some ⟨w3.heap.size, 0, none⟩) (y k) from hg4.src) hyk (by rw [hPl]; omega)
      have hmul : IntKind.i64.wrap ((k : Int) * 256) = ((k * 256 : Nat) : Int) := by rw [IntKind.wrap_i64]; omega
      have hk0 : (0 : Int) ≤ (k : Int) * 256 := by omega
      have htn : ((k : Int) * 256).toNat = k * 256 := by omega
      have hne : ¬ n * 256 = k * 256 := by omega
      dsimp only [Act.put]
      have hb6 : Below w1.heap.size w1 w5 := (hbw.trans ((hb4.mono hbw.size).drew)).trans hb5
      rw [bytesP_step y hyl n k (by omega)] at hB5
      have HB5 : Hid _ := hB5
      clear hB5 hB4 hB hPl
      go_region
      go_wp2
      go_roundw
      case rel => exact ⟨k + 1, by omega, by go_num, HB5.out, hb6⟩
      case measure => simp [intOf]; omega
    · obtain rfl : k = n := by omega
      go_wp2
      go_ret
      refine ⟨_, rfl, ?_, Nat.le_refl _, hbw⟩
      have e : bytesP y k k = (List.range k).flatMap y := by simp [bytesP]
      rw [← e]; exact hB
end
end Go.Proofs.YtadadidccbhopaaGreat
/- The document's disk: Bytes, Open. -/
namespace Go.Proofs.YtadadidccbhopaaGreat
open Go.RowKit
set_option maxRecDepth 100000
section
variable {w : World} {base r n : Nat} {held : Bool} {left : Int} {ver : Nat → List (List UInt8)} {gb cb : Nat} {va vc : Nat → Nat}
set_option maxHeartbeats 4000000 in
theorem rbytesd_any (h : RefW w base r n held left ver gb cb va vc) (y : Nat → List UInt8) (hy : ∀ i, i < n → ∃ m, (ver i).length = m + 1 ∧ (ver i)[m]? = some (y i)) (hyl : ∀ i, (y i).length = 256) :
    Calls Tryz.prog 18 #[.pointer (some ⟨r, 0, none⟩)] w fun e w' => ∃ v, e = .returned v ∧ Own w' w.heap.size v ((List.range n).flatMap y) ∧ Below w.heap.size w w' := by
  have hnn : (n : Int) ≤ 4096 := by have := h.at'.nn; omega
  have H : Hid _ := h
  have HY : Hid _ := hy
  clear h hy
  go_enter Tryz.func18, Tryz.ntmps18
  go_wp2_with fail
  go_loopw [3, 4] (fun v s wr => ∃ k : Nat, k ≤ n ∧ s = .int .i64 k ∧ Hid (Own wr w.heap.size v ((List.range k).flatMap y)) ∧ Hid (Below w.heap.size w wr)) (fun _ s _ => n - (intOf s).toNat)
  case atStart => exact ⟨0, by omega, rfl, Own.nil _ _, Below.refl _ _⟩
  case round =>
    obtain ⟨k, hk, rfl, HO, HB⟩ := hrel
    have R : RefW wr base r n held left ver gb cb va vc := H.out.below HB.out
    have c0 := R.at'.c0
    by_cases hlt : (k : Int) < n
    · obtain ⟨mm, hm1, hm2⟩ := HY.out k (by omega)
      have RD := rread_in R.at' k (by omega) mm (y k) hm1 hm2
      rw [hyl k] at RD
      have hlk := flat_length y hyl k
      have hz := HB.out.size
      clear R hm1 hm2
      go_wp2_with fail
      refine RD.mono ?_
      rintro e w2 ⟨g, c, rfl, sg, hb2⟩
      have HO2 : Hid (Own w2 w.heap.size _ ((List.range k).flatMap y)) := HO.out.below hb2 (Nat.le_refl _)
      have HB2 : Hid (Below w.heap.size w w2) := HB.out.trans (hb2.mono hz)
      have hz2 := hb2.size
      clear RD c0 hb2 HO HB
      go_wp2_with (at_builtin; refine wpList_append_bytes rfl (.tmp 22) (.tmp 23) rfl w.heap.size ((List.range k).flatMap y) (y k) _ rfl _ _ _ rfl (hyl k).symm HO2.out sg (by omega) (by rw [hlk, hyl k]; omega) (fun h => by cases h) ?_; intro v3 w3 hO3 hb3)
      have HO3 : Hid (Own w3 w.heap.size v3 ((List.range (k + 1)).flatMap y)) := by
        show Own _ _ _ _
        rw [List.range_succ, List.flatMap_append]
        simpa using hO3
      have HB3 : Hid (Below w.heap.size w w3) := HB2.out.trans hb3
      clear hO3 hb3 HO2 HB2 sg
      go_roundw
      case rel => exact ⟨k + 1, by omega, by go_num, HO3, HB3⟩
      case measure => simp [intOf]; omega
    · obtain rfl : k = n := by omega
      clear R
      go_wp2_with fail
      go_ret
      exact ⟨_, rfl, HO.out, HB.out⟩
set_option maxHeartbeats 4000000 in
theorem rdopen_any (h : RefW w base r n held left ver gb cb va vc) (ws : Nat → List (List UInt8)) (hws : ∀ i, i < n → (ver i).length = (ws i).length + 1) :
    Calls Tryz.prog 21 #[.pointer (some ⟨r, 0, none⟩)] w fun e w' => ∃ v, e = .returned v ∧ OwnNt w' w.heap.size v (openL ws n) ∧ Below w.heap.size w w' := by
  have hnn : (n : Int) ≤ 4096 := by have := h.at'.nn; omega
  have H : Hid _ := h
  have HY : Hid _ := hws
  obtain ⟨i0, hi, hz0, hz1, hz2⟩ := info_parts Tryz.infoNt
  clear h hws
  go_enter Tryz.func21, Tryz.ntmps21
  go_wp2_with fail
  go_loopw [3, 4] (fun v s wr => ∃ k : Nat, k ≤ n ∧ s = .int .i64 k ∧ Hid (OwnNt wr w.heap.size v (openL ws k)) ∧ Hid (Below w.heap.size w wr)) (fun _ s _ => n - (intOf s).toNat)
  case atStart => exact ⟨0, by omega, rfl, World.ownsRow_nil _ _ _ _, Below.refl _ _⟩
  case round =>
    obtain ⟨k, hk, rfl, HO, HB⟩ := hrel
    have R : RefW wr base r n held left ver gb cb va vc := H.out.below HB.out
    have c0 := R.at'.c0
    have hs := HB.out.size
    have hll := openL_len ws k
    by_cases hlt : (k : Int) < n
    · have WR := rwrites_in R.at' k (by omega)
      rw [show (((ver k).length : Int) - 1) = ((ws k).length : Int) from by rw [HY.out k (by omega)]; omega] at WR
      have HSN : Hid _ := openL_succ ws k
      clear R
      by_cases hpos : 0 < (ws k).length
      · have hpos' : (0 : Int) < (ws k).length := by omega
        go_wp2_with fail
        refine WR.mono ?_
        rintro e w2 ⟨rfl, rfl⟩
        clear WR c0
        go_wp2_with (first | (at_builtin; refine wpList_append_own _ rfl (.tmp 18) (.tmp 20) 49 rfl w.heap.size 3 i0 (.int .i64 0) 1 8 Tryz.underlying49 hi hz0 hz1 hz2 rfl (by decide) u3 _ _ rfl (World.ownsRow.alloc HO.out _) ⟨w2.heap.size, 0, none⟩ 1 1 [.int .i64 (k : Int)] rfl rfl (cell_one_new _ _ _) (by intro u hu; simp at hu; subst hu; rfl) (by unfold maxLen; omega) (by omega) (by simp; omega) ?_; intro v' w3 hown2 hgrow2 hnil2; clear hnil2))
        have hb2 : Below w.heap.size w w3 := (HB.out.alloc hs _).grown hgrow2 (by simp; omega) (fun j hj => (World.ownsRow.lt HO.out j hj).1)
        have hO2 : OwnNt w3 w.heap.size v' (openL ws (k + 1)) := by
          rw [HSN.out, if_pos hpos]
          unfold OwnNt
          rw [List.length_append, show ints (openL ws k ++ [k]) = ints (openL ws k) ++ [Value.int .i64 (k : Int)] from by simp [ints]]
          exact hown2
        clear hown2 hgrow2 HO HB
        go_roundw
        case rel => exact ⟨k + 1, by omega, by go_num, hO2, hb2⟩
        case measure => simp [intOf]; omega
      · have hz : (ws k).length = 0 := by omega
        rw [hz] at WR
        go_wp2_with fail
        refine WR.mono ?_
        rintro e w2 ⟨rfl, rfl⟩
        clear WR c0
        go_wp2
        go_roundw
        case rel => exact ⟨k + 1, by omega, by go_num, by show OwnNt _ _ _ _; rw [HSN.out, if_neg hpos, List.append_nil]; exact HO.out, HB⟩
        case measure => simp [intOf]; omega
    · obtain rfl : k = n := by omega
      clear R
      go_wp2_with fail
      go_ret
      exact ⟨_, rfl, HO.out, HB.out⟩
end
end Go.Proofs.YtadadidccbhopaaGreat
