/- The document's Waits (leveeref11). -/
import Derived.Test.YthaogbbclocmaaaGreatJRimg7
import Derived.Test.YthaogbbclocmaaaGreatJRst4
namespace Go.Proofs.YthaogbbclocmaaaGreat
open Go.RowKit
set_option maxRecDepth 100000
/-- Whom a change must be safe with: those that it was told of, and those ahead that it meets. -/
def EdR (L : List RCh) (i n : Nat) : Prop := ∃ r, L[i]? = some r ∧ ((∃ a ∈ r.A, findI L a 0 = (n : Int)) ∨ (n < i ∧ ∃ e, L[n]? = some e ∧ meetR e r = true))
/-- What holds of the marks: those from i on are closed. -/
structure WM (L : List RCh) (S : Nat → Prop) (k i : Nat) (bs : List Bool) : Prop where
  len : bs.length = L.length
  k : bs[k]? = some true
  snd : ∀ j : Nat, bs[j]? = some true → S j
  clo : ∀ j : Nat, i ≤ j → bs[j]? = some true → ∀ n, EdR L j n → bs[n]? = some true
/-- Marks that have become more, below i. -/
structure Mo (i : Nat) (bs bs' : List Bool) : Prop where
  len : bs'.length = bs.length
  ge : ∀ j : Nat, i ≤ j → bs'[j]? = bs[j]?
  le : ∀ j : Nat, bs[j]? = some true → bs'[j]? = some true
theorem Mo.refl (i : Nat) (bs : List Bool) : Mo i bs bs := ⟨rfl, fun _ _ => rfl, fun _ h => h⟩
theorem set_true {bs : List Bool} {n j : Nat} (h : bs[j]? = some true) : (bs.set n true)[j]? = some true := by
  rw [List.getElem?_set]
  split
  · rename_i e
    subst e
    rw [if_pos (List.getElem?_eq_some_iff.1 h).1]
  · exact h
theorem Mo.set {i : Nat} {bs bs' : List Bool} (h : Mo i bs bs') {n : Nat} (hn : n < i) : Mo i bs (bs'.set n true) :=
  ⟨by rw [List.length_set]; exact h.len, fun j hj => by rw [List.getElem?_set_ne (by omega)]; exact h.ge j hj, fun j hj => set_true (h.le j hj)⟩
theorem WM.next {L : List RCh} {S : Nat → Prop} {k i : Nat} {bs bs' : List Bool} (h : WM L S k (i + 1) bs) (hm : Mo i bs bs') (hs : ∀ j : Nat, bs'[j]? = some true → S j) (hc : bs'[i]? = some true → ∀ n, EdR L i n → bs'[n]? = some true) : WM L S k i bs' :=
  ⟨hm.len.trans h.len, hm.le k h.k, hs, fun j hj hb n hE => by
    by_cases e : j = i
    · subst e; exact hc hb n hE
    · rw [hm.ge j (by omega)] at hb
      exact hm.le n (h.clo j (by omega) hb n hE)⟩
/-- The numbers of those that are marked. -/
def idsR : List RCh → List Bool → List Int
  | r :: L, b :: bs => if b then (r.id : Int) :: idsR L bs else idsR L bs
  | _, _ => []
theorem idsR_take : ∀ {L : List RCh} {bs : List Bool} {k : Nat} {r : RCh} {b : Bool}, L[k]? = some r → bs[k]? = some b → idsR (L.take (k + 1)) (bs.take (k + 1)) = idsR (L.take k) (bs.take k) ++ if b then [(r.id : Int)] else []
  | [], _, k, _, _, h, _ => by cases h
  | x :: L, [], k, _, _, _, h => by cases h
  | x :: L, y :: bs, 0, r, b, h, h2 => by
    cases h; cases h2
    cases y <;> rfl
  | x :: L, y :: bs, k + 1, r, b, h, h2 => by
    have ih := idsR_take (L := L) (bs := bs) (k := k) (r := r) (b := b) (by simpa using h) (by simpa using h2)
    simp only [List.take_succ_cons, idsR]
    rw [ih]
    cases y <;> simp
theorem idsR_len : ∀ (L : List RCh) (bs : List Bool), (idsR L bs).length ≤ L.length
  | [], _ => by simp [idsR]
  | x :: L, [] => by simp [idsR]
  | x :: L, y :: bs => by
    have := idsR_len L bs
    simp only [idsR]
    split <;> simp <;> omega
/-- What Waits answers. -/
structure WtD (w w' : World) (L : List RCh) (S : Nat → Prop) (id : Int) (e : Ending) : Prop where
  out : ∃ v xs, e = .returned v ∧ OwnL w' w.heap.size v xs ∧ Below w.heap.size w w' ∧ ((findI L id 0 < 0 ∧ xs = []) ∨ ∃ (k : Nat) (bs : List Bool), findI L id 0 = (k : Int) ∧ WM L S k 0 bs ∧ xs = idsR L bs)
section
variable {w : World} {q d : Nat} {vB : Value} {ao : Option Addr} {ca : Nat} {L : List RCh} {last : Nat}
set_option maxHeartbeats 16000000 in
theorem rwaits_any (h : RAt w q d vB ao ca L last) (hk : LOk w L) (id : Int) (hf : ∀ (i : Nat) (c : RCh), L[i]? = some c → ∀ a ∈ c.A, findI L a 0 < (i : Int)) (S : Nat → Prop) (hS0 : ∀ k : Nat, findI L id 0 = (k : Int) → S k) (hSE : ∀ i n, S i → EdR L i n → S n) :
    Calls Tryz.prog 77 #[.pointer (some ⟨q, 0, none⟩), .int .i64 id] w fun e w' => WtD w w' L S id e := by
  have HR : Hid (RAt w q d vB ao ca L last) := h
  have HK : Hid (LOk w L) := hk
  have HF : Hid (∀ (i : Nat) (c : RCh), L[i]? = some c → ∀ a ∈ c.A, findI L a 0 < (i : Int)) := hf
  have HS : Hid ((∀ k : Nat, findI L id 0 = (k : Int) → S k) ∧ ∀ i n, S i → EdR L i n → S n) := ⟨hS0, hSE⟩
  have c2 := h.c2
  have hll : L.length ≤ 1000 := hk.len
  have hl1 : (L.length : Int) ≤ 1000 := by omega
  have hca : (ca : Int) ≤ 9223372036854775807 := h.ls.cap.2
  have MB := make_bools w L.length (by omega)
  have HQ : Hid (q < w.heap.size) := (Array.getElem?_eq_some_iff.1 h.at').1
  have HB0 : Hid (Below w.heap.size w (w.alloc (.cells (bvl (List.replicate L.length false)).toArray 4)) ∧ RowB (w.alloc (.cells (bvl (List.replicate L.length false)).toArray 4)) w.heap.size (List.replicate L.length false)) := ⟨(Below.refl _ _).alloc (Nat.le_refl _) _, heap_alloc_new _ _⟩
  have FI := rfind_any (HR.out.up HB0.out.1) (by omega) id
  obtain ⟨hf1, hf2⟩ := findI_lt L id 0
  obtain ⟨kf, hkf⟩ : ∃ kf, findI L id 0 = kf := ⟨_, rfl⟩
  have HKF : Hid (findI L id 0 = kf) := hkf
  rw [hkf] at FI hf1 hf2
  clear h hk hf hS0 hSE hkf
  go_enter Tryz.func77, Tryz.ntmps77
  go_upto_region 3 with (first | (go_at_call 115; refine FI.mono ?_; rintro r w1 ⟨rfl, hw1⟩; obtain rfl := hw1))
  clear FI MB
  generalize w.alloc (.cells (bvl (List.replicate L.length false)).toArray 4) = W0 at *
  by_cases hk0 : kf < 0
  · go_wp2_with fail
    go_ret
    exact ⟨⟨_, [], rfl, OwnL.nil _ _, HB0.out.1, .inl ⟨by rw [HKF.out]; exact hk0, rfl⟩⟩⟩
  · obtain ⟨k, rfl⟩ : ∃ k : Nat, kf = (k : Int) := ⟨kf.toNat, by omega⟩
    have hkl : (k : Int) < (L.length : Int) := by omega
    obtain ⟨g, hao, hgl, hcc⟩ : ∃ g, ao = some ⟨g, 0, none⟩ ∧ g < w.heap.size ∧ ∀ (i : Nat) (c : RCh), L[i]? = some c → ∀ (j : Nat) (v : Value), (rcL c)[j]? = some v → w.cell? ⟨g, i * 6 + j, none⟩ = some v := by
      rcases HR.out.ls.cells with e | h
      · rw [e] at hkl; simp at hkl; omega
      · exact h
    subst hao
    have HCC : Hid (∀ (i : Nat) (c : RCh), L[i]? = some c → ∀ (j : Nat) (v : Value), (rcL c)[j]? = some v → w.cell? ⟨g, i * 6 + j, none⟩ = some v) := hcc
    have b0 : W0.cell? ⟨w.heap.size, k, none⟩ = some (.bool false) := HB0.out.2.cell (by rw [List.getElem?_replicate, if_pos (by omega)])
    have f0 := HB0.out.2.frozen k
    have HW0 : Hid (Below w.heap.size w (W0.setCell ⟨w.heap.size, k, none⟩ (.bool true)) ∧ RowB (W0.setCell ⟨w.heap.size, k, none⟩ (.bool true)) w.heap.size ((List.replicate L.length false).set k true) ∧ WM L S k (k + 1) ((List.replicate L.length false).set k true)) := by
      have hat : ∀ j, ((List.replicate L.length false).set k true)[j]? = some true → j = k := fun j hj => by
        rw [List.getElem?_set] at hj
        split at hj
        · rename_i e; exact e.symm
        · rw [List.getElem?_replicate] at hj
          split at hj <;> cases hj
      refine ⟨HB0.out.1.setCell (Nat.le_refl _) _, HB0.out.2.set k true, ⟨by simp, ?_, fun j hj => ?_, fun j hj hb n hE => ?_⟩⟩
      · rw [List.getElem?_set, if_pos rfl, if_pos (by simp; omega)]
      · rw [hat j hj]; exact HS.out.1 k HKF.out
      · have := hat j hb; omega
    clear hcc
    go_upto_region 6 with fail
    clear b0 f0 HB0
    generalize W0.setCell ⟨w.heap.size, k, none⟩ (.bool true) = W1 at *
    go_wp2_with fail
    go_loopg [7, 8, 9, 10] 1001 (fun gg t7 _ _ _ W => ∃ (gw : World) (i : Nat) (bs : List Bool), gw = W ∧ i ≤ k + 1 ∧ i ≤ gg ∧ t7 = .int .i64 ((i : Int) - 1) ∧ Hid (Below w.heap.size w gw ∧ RowB gw w.heap.size bs ∧ WM L S k i bs))
    case atStart => exact ⟨_, k + 1, _, rfl, by omega, by omega, by go_num, HW0.out⟩
    case round =>
      clear HW0
      obtain ⟨gw, i1, bs, rfl, hi1, hgi, rfl, HG⟩ := hrel
      have c2' : gw.cell? ⟨q, 2, none⟩ = some (.slice (some ⟨g, 0, none⟩) L.length ca) := (HG.out.1.cell (p := ⟨q, 2, none⟩) HQ.out).trans c2
      by_cases hi0 : i1 = 0
      · subst hi0
        have hm1 : ((0 : Nat) : Int) - 1 = -1 := by omega
        rw [hm1]
        clear hm1 c2'
        have HZB : Hid (w.heap.size < gw.heap.size) := HG.out.2.1.lt
        go_upto_region 22 with fail
        go_wp2_with fail
        go_loopg [11, 12] L.length (fun gg t11 t12 W => ∃ (g2 : World) (j : Nat) (v : Value), g2 = W ∧ t12 = .int .i64 j ∧ j ≤ L.length ∧ L.length - j ≤ gg ∧ v = t11 ∧ Hid (OwnL g2 gw.heap.size v (idsR (L.take j) (bs.take j)) ∧ Below gw.heap.size gw g2))
        case atStart => exact ⟨_, 0, _, rfl, rfl, by omega, by omega, rfl, OwnL.nil _ _, Below.refl _ _⟩
        case round =>
          obtain ⟨g2, j, v, rfl, rfl, hj, hgj, rfl, H2⟩ := hrel
          have hbe : Below w.heap.size w g2 := HG.out.1.trans (H2.out.2.mono HG.out.1.size)
          have c2' : g2.cell? ⟨q, 2, none⟩ = some (.slice (some ⟨g, 0, none⟩) L.length ca) := (hbe.cell (p := ⟨q, 2, none⟩) HQ.out).trans c2
          by_cases hjl : (j : Int) < (L.length : Int)
          · obtain ⟨c, hc⟩ : ∃ c, L[j]? = some c := ⟨_, List.getElem?_eq_getElem (by omega)⟩
            obtain ⟨bj, hbj⟩ : ∃ bj, bs[j]? = some bj := ⟨_, List.getElem?_eq_getElem (by rw [HG.out.2.2.len]; omega)⟩
            have bc : g2.cell? ⟨w.heap.size, j, none⟩ = some (.bool bj) := (H2.out.2.cell (p := ⟨w.heap.size, j, none⟩) HZB.out).trans (HG.out.2.1.cell hbj)
            have d0 : g2.cell? ⟨g, j * 6, none⟩ = some (.int .i64 (c.id : Int)) := (hbe.cell (p := ⟨g, j * 6, none⟩) hgl).trans (HCC.out j c hc 0 _ rfl)
            have HI : Hid (idsR (L.take (j + 1)) (bs.take (j + 1)) = idsR (L.take j) (bs.take j) ++ if bj then [(c.id : Int)] else []) := idsR_take hc hbj
            clear hc hbj hbe
            cases bj with
            | false =>
              go_wp2_with fail
              go_roundg (L.length - (j + 1))
              case measure => omega
              case rel =>
                refine ⟨_, j + 1, _, rfl, by go_num, by omega, by omega, rfl, ?_, H2.out.2⟩
                rw [HI.out]
                simpa using H2.out.1
            | true =>
              obtain ⟨ido, hido⟩ : ∃ ido, idsR (L.take j) (bs.take j) = ido := ⟨_, rfl⟩
              have HLN : Hid (ido.length ≤ 1000) := by
                show _ ≤ _
                rw [← hido]
                have := idsR_len (L.take j) (bs.take j)
                rw [List.length_take] at this
                omega
              have HO : Hid (OwnL g2 gw.heap.size v ido ∧ Below gw.heap.size gw g2) := by
                have := H2.out
                rw [hido] at this
                exact this
              have HI2 : Hid (idsR (L.take (j + 1)) (bs.take (j + 1)) = ido ++ [(c.id : Int)]) := by
                have := HI.out
                rw [hido, if_pos rfl] at this
                exact this
              clear hido H2 HI
              obtain ⟨aa, ac, hva, _⟩ := HO.out.1.form
              subst hva
              go_wp2_with (first | (at_builtin; refine Hid.out ?_))
              change wpList _ _ _ _ _ _
              refine wpList_append_l rfl (.tmp 104) (.tmp 113) rfl gw.heap.size ido (c.id : Int) _ rfl _ _ rfl (row_same HO.out.1 (fun l hl => Below.heap_alloc _ _ _ (HO.out.1.lt l hl).2)) (heap_alloc_new _ _) (by rw [size_alloc]; have := HO.out.2.size; omega) (by have := HLN.out; omega) ?_
              intro G1 k1 w6 ho6 hg6 hat6
              have H6 : Hid (OwnL w6 gw.heap.size (.slice (some ⟨G1, 0, none⟩) (ido.length + 1) k1) (ido ++ [(c.id : Int)]) ∧ Below gw.heap.size gw w6) := ⟨ho6, (HO.out.2.alloc HO.out.2.size _).trans ((Below.refl _ _).grown hg6 (by rw [size_alloc]; have := HO.out.2.size; omega) (fun k hk => (HO.out.1.lt k hk).1))⟩
              clear ho6 hg6 hat6
              go_wp2_with fail
              go_roundg (L.length - (j + 1))
              case measure => omega
              case rel =>
                refine ⟨_, j + 1, _, rfl, by go_num, by omega, by omega, rfl, ?_, H6.out.2⟩
                rw [HI2.out]
                exact H6.out.1
          · obtain rfl : j = L.length := by omega
            go_wp2_with fail
            go_ret
            have h1 := H2.out.1
            rw [List.take_length, List.take_of_length_le (by rw [HG.out.2.2.len]; omega)] at h1
            refine ⟨⟨_, idsR L bs, rfl, ⟨h1.1, h1.2.imp (fun h => h) ?_⟩, hbe, .inr ⟨k, bs, HKF.out, HG.out.2.2, rfl⟩⟩⟩
            rintro ⟨g', cap', cur', a1, a2, a3⟩
            exact ⟨g', cap', cur', a1, by have := HZB.out; omega, a3⟩
      · obtain ⟨i, rfl⟩ : ∃ i, i1 = i + 1 := ⟨i1 - 1, by omega⟩
        have hiI : ((i + 1 : Nat) : Int) - 1 = (i : Int) := by omega
        rw [hiI]
        have hiL : (i : Int) < (L.length : Int) := by omega
        have hi0' : (0 : Int) ≤ (i : Int) := by omega
        obtain ⟨c, hc⟩ : ∃ c, L[i]? = some c := ⟨_, List.getElem?_eq_getElem (by omega)⟩
        obtain ⟨bi, hbi⟩ : ∃ bi, bs[i]? = some bi := ⟨_, List.getElem?_eq_getElem (by rw [HG.out.2.2.len]; omega)⟩
        have bc : gw.cell? ⟨w.heap.size, i, none⟩ = some (.bool bi) := HG.out.2.1.cell hbi
        have HC : Hid (L[i]? = some c ∧ bs[i]? = some bi) := ⟨hc, hbi⟩
        clear hc hbi hiI hi0
        cases bi with
        | false =>
          go_wp2_with fail
          go_roundg i
          case measure => omega
          case rel =>
            refine ⟨_, i, bs, rfl, by omega, by omega, by go_num, HG.out.1, HG.out.2.1, HG.out.2.2.next (Mo.refl _ _) HG.out.2.2.snd fun hb => ?_⟩
            rw [HC.out.2] at hb
            cases hb
        | true =>
          have HAL : Hid (SrcI w c.ap c.A ∧ c.A.length ≤ c.ac ∧ (c.ac : Int) ≤ 9223372036854775807) := HK.out.sr c (List.mem_of_getElem? HC.out.1)
          have hacl : (c.A.length : Int) ≤ 9223372036854775807 := by have := HAL.out; omega
          have HSi : Hid (S i) := HG.out.2.2.snd i HC.out.2
          go_upto_region 10 with fail
          clear c2' bc
          go_wp2_with fail
          go_loopg [8, 9] c.A.length (fun gg t8 _ W => ∃ (g2 : World) (j : Nat) (bs' : List Bool), g2 = W ∧ j ≤ c.A.length ∧ c.A.length - j ≤ gg ∧ t8 = .int .i64 j ∧ Hid (Below w.heap.size w g2 ∧ RowB g2 w.heap.size bs' ∧ Mo i bs bs' ∧ (∀ j : Nat, bs'[j]? = some true → S j) ∧ ∀ a ∈ c.A.take j, ∀ n : Nat, findI L a 0 = (n : Int) → bs'[n]? = some true))
          case atStart => exact ⟨_, 0, bs, rfl, by omega, by omega, rfl, HG.out.1, HG.out.2.1, Mo.refl _ _, HG.out.2.2.snd, fun a ha => by simp at ha⟩
          case round =>
            obtain ⟨g2, j, bs', rfl, hj, hgj, rfl, H2⟩ := hrel
            have c2' : g2.cell? ⟨q, 2, none⟩ = some (.slice (some ⟨g, 0, none⟩) L.length ca) := (H2.out.1.cell (p := ⟨q, 2, none⟩) HQ.out).trans c2
            have d4 : g2.cell? ⟨g, i * 6 + 4, none⟩ = some (.slice c.ap c.A.length c.ac) := (H2.out.1.cell (p := ⟨g, i * 6 + 4, none⟩) hgl).trans (HCC.out i c HC.out.1 4 _ rfl)
            by_cases hjl : (j : Int) < (c.A.length : Int)
            · obtain ⟨yb, yo, y, hap, hyc, hym, hyt⟩ : ∃ yb yo y, c.ap = some ⟨yb, yo, none⟩ ∧ g2.cell? ⟨yb, yo + j, none⟩ = some (.int .i64 y) ∧ y ∈ c.A ∧ c.A.take (j + 1) = c.A.take j ++ [y] := by
                rcases HAL.out.1 with e | ⟨yb, yo, e, hl, hcc⟩
                · have : c.A.length = 0 := by rw [e]; rfl
                  omega
                · have hjn : j < c.A.length := by omega
                  refine ⟨yb, yo, c.A.getD j 0, e, (H2.out.1.cell (p := ⟨yb, yo + j, none⟩) hl).trans (hcc j hjn), getD_mem hjn, ?_⟩
                  rw [List.take_add_one, List.getElem?_eq_getElem hjn, List.getD_eq_getElem?_getD, List.getElem?_eq_getElem hjn]
                  rfl
              rw [hap] at d4
              have FI := rfind_any (HR.out.up H2.out.1) (by omega) y
              obtain ⟨hf1, hf2⟩ := findI_lt L y 0
              have hfi := HF.out i c HC.out.1 y hym
              obtain ⟨nf, hnf⟩ : ∃ nf, findI L y 0 = nf := ⟨_, rfl⟩
              rw [hnf] at FI hf1 hf2 hfi
              have HNF : Hid (findI L y 0 = nf ∧ y ∈ c.A ∧ c.A.take (j + 1) = c.A.take j ++ [y]) := ⟨hnf, hym, hyt⟩
              clear hnf hym hyt hap
              go_upto_region 14 with (first | (go_at_call 115; refine FI.mono ?_; rintro r w3 ⟨rfl, hw3⟩; obtain rfl : g2 = w3 := hw3.symm))
              clear FI d4 hyc c2'
              by_cases hn0 : 0 ≤ nf
              · obtain ⟨nk, rfl⟩ : ∃ nk : Nat, nf = (nk : Int) := ⟨nf.toNat, by omega⟩
                have hnl : (nk : Int) < (L.length : Int) := by omega
                obtain ⟨b1, hb1⟩ : ∃ b1, bs'[nk]? = some b1 := ⟨_, List.getElem?_eq_getElem (by rw [H2.out.2.2.1.len, HG.out.2.2.len]; omega)⟩
                have e1 := H2.out.2.1.cell hb1
                have fz := H2.out.2.1.frozen nk
                have H3 : Hid (Below w.heap.size w (g2.setCell ⟨w.heap.size, nk, none⟩ (.bool true)) ∧ RowB (g2.setCell ⟨w.heap.size, nk, none⟩ (.bool true)) w.heap.size (bs'.set nk true) ∧ Mo i bs (bs'.set nk true) ∧ (∀ j : Nat, (bs'.set nk true)[j]? = some true → S j) ∧ ∀ a ∈ c.A.take (j + 1), ∀ n : Nat, findI L a 0 = (n : Int) → (bs'.set nk true)[n]? = some true) := by
                  have hset : (bs'.set nk true)[nk]? = some true := by rw [List.getElem?_set, if_pos rfl, if_pos (List.getElem?_eq_some_iff.1 hb1).1]
                  refine ⟨H2.out.1.setCell (Nat.le_refl _) _, H2.out.2.1.set nk true, H2.out.2.2.1.set (by omega), fun j hj => ?_, fun a ha n hn => ?_⟩
                  · by_cases e : j = nk
                    · rw [e]
                      exact HS.out.2 i nk HSi.out ⟨c, HC.out.1, .inl ⟨y, HNF.out.2.1, HNF.out.1⟩⟩
                    · rw [List.getElem?_set_ne (fun e2 => e e2.symm)] at hj
                      exact H2.out.2.2.2.1 j hj
                  · rw [HNF.out.2.2] at ha
                    rcases List.mem_append.1 ha with ha | ha
                    · exact set_true (H2.out.2.2.2.2 a ha n hn)
                    · rw [List.mem_singleton.1 ha, HNF.out.1] at hn
                      have : n = nk := by omega
                      rw [this]; exact hset
                clear hb1
                go_wp2_with fail
                go_roundg (c.A.length - (j + 1))
                case measure => omega
                case rel => exact ⟨_, j + 1, _, rfl, by omega, by omega, by go_num, H3.out⟩
              · go_wp2_with fail
                go_roundg (c.A.length - (j + 1))
                case measure => omega
                case rel =>
                  refine ⟨_, j + 1, bs', rfl, by omega, by omega, by go_num, H2.out.1, H2.out.2.1, H2.out.2.2.1, H2.out.2.2.2.1, fun a ha n hn => ?_⟩
                  rw [HNF.out.2.2] at ha
                  rcases List.mem_append.1 ha with ha | ha
                  · exact H2.out.2.2.2.2 a ha n hn
                  · rw [List.mem_singleton.1 ha, HNF.out.1] at hn
                    omega
            · have HT : Hid (c.A.take j = c.A) := List.take_of_length_le (by omega)
              have H3 : Hid (Below w.heap.size w g2 ∧ RowB g2 w.heap.size bs' ∧ Mo i bs bs' ∧ (∀ j : Nat, bs'[j]? = some true → S j) ∧ ∀ a ∈ c.A, ∀ n : Nat, findI L a 0 = (n : Int) → bs'[n]? = some true) := by
                have := H2.out
                rw [HT.out] at this
                exact this
              clear H2
              go_upto_region 16 with fail
              clear d4 c2'
              go_wp2_with fail
              go_loopg [10] i (fun gg t10 W => ∃ (g4 : World) (m : Nat) (b4 : List Bool), g4 = W ∧ m ≤ i ∧ i - m ≤ gg ∧ t10 = .int .i64 m ∧ Hid (Below w.heap.size w g4 ∧ RowB g4 w.heap.size b4 ∧ Mo i bs b4 ∧ (∀ j : Nat, b4[j]? = some true → S j) ∧ (∀ a ∈ c.A, ∀ n : Nat, findI L a 0 = (n : Int) → b4[n]? = some true) ∧ ∀ n, n < m → ∀ e, L[n]? = some e → meetR e c = true → b4[n]? = some true))
              case atStart => exact ⟨_, 0, bs', rfl, by omega, by omega, rfl, H3.out.1, H3.out.2.1, H3.out.2.2.1, H3.out.2.2.2.1, H3.out.2.2.2.2, fun n hn => by omega⟩
              case round =>
                clear H3
                obtain ⟨g4, m, b4, rfl, hm, hgm, rfl, H4⟩ := hrel
                by_cases hml : (m : Int) < (i : Int)
                · obtain ⟨e, he⟩ : ∃ e, L[m]? = some e := ⟨_, List.getElem?_eq_getElem (by omega)⟩
                  have hmL : (m : Int) < (L.length : Int) := by omega
                  have c2' : g4.cell? ⟨q, 2, none⟩ = some (.slice (some ⟨g, 0, none⟩) L.length ca) := (H4.out.1.cell (p := ⟨q, 2, none⟩) HQ.out).trans c2
                  have HE : Hid (L[m]? = some e) := he
                  have ME := fun W => rmeet_any e c W (HK.out.bd e (List.mem_of_getElem? he)) (HK.out.bd c (List.mem_of_getElem? HC.out.1))
                  have X : ∀ j v, (rcL e)[j]? = some v → g4.cell? ⟨g, m * 6 + j, none⟩ = some v := fun j v hv => (H4.out.1.cell (p := ⟨g, m * 6 + j, none⟩) hgl).trans (HCC.out m e he j v hv)
                  have Y : ∀ j v, (rcL c)[j]? = some v → g4.cell? ⟨g, i * 6 + j, none⟩ = some v := fun j v hv => (H4.out.1.cell (p := ⟨g, i * 6 + j, none⟩) hgl).trans (HCC.out i c HC.out.1 j v hv)
                  have x0 : g4.cell? ⟨g, m * 6, none⟩ = some (.int .i64 (e.id : Int)) := X 0 _ rfl
                  have x1 := X 1 _ rfl
                  have x2 := X 2 _ rfl
                  have x3 := X 3 _ rfl
                  have x4 := X 4 _ rfl
                  have x5 := X 5 _ rfl
                  have y0 : g4.cell? ⟨g, i * 6, none⟩ = some (.int .i64 (c.id : Int)) := Y 0 _ rfl
                  have y1 := Y 1 _ rfl
                  have y2 := Y 2 _ rfl
                  have y3 := Y 3 _ rfl
                  have y4 := Y 4 _ rfl
                  have y5 := Y 5 _ rfl
                  clear he X Y
                  obtain ⟨mt, hmt⟩ : ∃ mt, meetR e c = mt := ⟨_, rfl⟩
                  have HMT : Hid (meetR e c = mt) := hmt
                  rw [hmt] at ME
                  clear hmt
                  have HBD0 : Hid (Below g4.heap.size g4 g4.drew) := (Below.refl _ _).drew
                  have HQ4 : Hid (q < g4.heap.size) := Nat.lt_of_lt_of_le HQ.out H4.out.1.size
                  have HGL4 : Hid (g < g4.heap.size) := Nat.lt_of_lt_of_le hgl H4.out.1.size
                  have CC2 : Hid (g4.cell? ⟨q, 2, none⟩ = some (.slice (some ⟨g, 0, none⟩) L.length ca)) := c2'
                  clear c2'
                  go_upto_region 19 with fail
                  refine wp_region_held_drew (S := (fun W => Below g4.heap.size g4 W)) (by kernel_rfl) HBD0.out (fun hH => ?_)
                  refine takeH (i := 0) (dst := some 73) (v := ?v1) rfl rfl (by kernel_rfl) (by kernel_rfl) (by kernel_rfl) (fun _ _ _ h => h) rfl ?hy1 hH rfl ?rest1
                  case hy1 => (intro W hW; (try dsimp only at hW); go_simp; try with_reducible rfl)
                  (try simp only [Act.put, List.setIfInBounds_toArray, List.set_cons_zero, List.set_cons_succ])
                  refine takeH (i := 1) (dst := some 74) (v := ?v2) rfl rfl (by kernel_rfl) (by kernel_rfl) (by kernel_rfl) (fun _ _ _ h => h) rfl ?hy2 hH rfl ?rest2
                  case hy2 => (intro W hW; (try dsimp only at hW); go_simp; try with_reducible rfl)
                  (try simp only [Act.put, List.setIfInBounds_toArray, List.set_cons_zero, List.set_cons_succ])
                  refine takeH (i := 2) (dst := some 75) (v := ?v3) rfl rfl (by kernel_rfl) (by kernel_rfl) (by kernel_rfl) (fun _ _ _ h => h) rfl ?hy3 hH rfl ?rest3
                  case hy3 => (intro W hW; (try dsimp only at hW); go_simp; try with_reducible rfl)
                  (try simp only [Act.put, List.setIfInBounds_toArray, List.set_cons_zero, List.set_cons_succ])
                  refine takeH (i := 3) (dst := some 76) (v := ?v4) rfl rfl (by kernel_rfl) (by kernel_rfl) (by kernel_rfl) (fun _ _ _ h => h) rfl ?hy4 hH rfl ?rest4
                  case hy4 => (intro W hW; have k2 := (hW.cell (p := ⟨q, 2, none⟩) HQ4.out).trans CC2.out; clear hW; go_simp; try with_reducible rfl)
                  (try simp only [Act.put, List.setIfInBounds_toArray, List.set_cons_zero, List.set_cons_succ])
                  refine takeH (i := 4) (dst := some 77) (v := ?v5) rfl rfl (by kernel_rfl) (by kernel_rfl) (by kernel_rfl) (fun _ _ _ h => h) rfl ?hy5 hH rfl ?rest5
                  case hy5 => (intro W hW; (try dsimp only at hW); go_simp; try with_reducible rfl)
                  (try simp only [Act.put, List.setIfInBounds_toArray, List.set_cons_zero, List.set_cons_succ])
                  refine takeH (i := 5) (dst := some 78) (v := ?v6) rfl rfl (by kernel_rfl) (by kernel_rfl) (by kernel_rfl) (fun _ _ _ h => h) rfl ?hy6 hH rfl ?rest6
                  case hy6 => (intro W hW; (try dsimp only at hW); go_simp; try with_reducible rfl)
                  (try simp only [Act.put, List.setIfInBounds_toArray, List.set_cons_zero, List.set_cons_succ])
                  refine takeH (i := 6) (dst := some 79) (v := ?v7) rfl rfl (by kernel_rfl) (by kernel_rfl) (by kernel_rfl) (fun _ _ _ h => h) rfl ?hy7 hH rfl ?rest7
                  case hy7 => (intro W hW; have k0 := (hW.cell (p := ⟨g, m * 6, none⟩) HGL4.out).trans x0; have k1 := (hW.cell (p := ⟨g, m * 6 + 1, none⟩) HGL4.out).trans x1; have k2 := (hW.cell (p := ⟨g, m * 6 + 2, none⟩) HGL4.out).trans x2; have k3 := (hW.cell (p := ⟨g, m * 6 + 3, none⟩) HGL4.out).trans x3; have k4 := (hW.cell (p := ⟨g, m * 6 + 4, none⟩) HGL4.out).trans x4; have k5 := (hW.cell (p := ⟨g, m * 6 + 5, none⟩) HGL4.out).trans x5; clear hW; go_simp; try with_reducible rfl)
                  (try simp only [Act.put, List.setIfInBounds_toArray, List.set_cons_zero, List.set_cons_succ])
                  refine takeH (i := 7) (dst := some 80) (v := ?v8) rfl rfl (by kernel_rfl) (by kernel_rfl) (by kernel_rfl) (fun _ _ _ h => h) rfl ?hy8 hH rfl ?rest8
                  case hy8 => (intro W hW; (try dsimp only at hW); go_simp; try with_reducible rfl)
                  (try simp only [Act.put, List.setIfInBounds_toArray, List.set_cons_zero, List.set_cons_succ])
                  refine takeH (i := 8) (dst := some 81) (v := ?v9) rfl rfl (by kernel_rfl) (by kernel_rfl) (by kernel_rfl) (fun _ _ _ h => h) rfl ?hy9 hH rfl ?rest9
                  case hy9 => (intro W hW; (try dsimp only at hW); go_simp; try with_reducible rfl)
                  (try simp only [Act.put, List.setIfInBounds_toArray, List.set_cons_zero, List.set_cons_succ])
                  refine takeH (i := 9) (dst := some 82) (v := ?v10) rfl rfl (by kernel_rfl) (by kernel_rfl) (by kernel_rfl) (fun _ _ _ h => h) rfl ?hy10 hH rfl ?rest10
                  case hy10 => (intro W hW; (try dsimp only at hW); go_simp; try with_reducible rfl)
                  (try simp only [Act.put, List.setIfInBounds_toArray, List.set_cons_zero, List.set_cons_succ])
                  refine takeH (i := 10) (dst := some 83) (v := ?v11) rfl rfl (by kernel_rfl) (by kernel_rfl) (by kernel_rfl) (fun _ _ _ h => h) rfl ?hy11 hH rfl ?rest11
                  case hy11 => (intro W hW; have k2 := (hW.cell (p := ⟨q, 2, none⟩) HQ4.out).trans CC2.out; clear hW; go_simp; try with_reducible rfl)
                  (try simp only [Act.put, List.setIfInBounds_toArray, List.set_cons_zero, List.set_cons_succ])
                  refine takeH (i := 11) (dst := some 84) (v := ?v12) rfl rfl (by kernel_rfl) (by kernel_rfl) (by kernel_rfl) (fun _ _ _ h => h) rfl ?hy12 hH rfl ?rest12
                  case hy12 => (intro W hW; (try dsimp only at hW); go_simp; try with_reducible rfl)
                  (try simp only [Act.put, List.setIfInBounds_toArray, List.set_cons_zero, List.set_cons_succ])
                  refine takeH (i := 12) (dst := some 85) (v := ?v13) rfl rfl (by kernel_rfl) (by kernel_rfl) (by kernel_rfl) (fun _ _ _ h => h) rfl ?hy13 hH rfl ?rest13
                  case hy13 => (intro W hW; (try dsimp only at hW); go_simp; try with_reducible rfl)
                  (try simp only [Act.put, List.setIfInBounds_toArray, List.set_cons_zero, List.set_cons_succ])
                  refine takeH (i := 13) (dst := some 86) (v := ?v14) rfl rfl (by kernel_rfl) (by kernel_rfl) (by kernel_rfl) (fun _ _ _ h => h) rfl ?hy14 hH rfl ?rest14
                  case hy14 => (intro W hW; have k0 := (hW.cell (p := ⟨g, i * 6, none⟩) HGL4.out).trans y0; have k1 := (hW.cell (p := ⟨g, i * 6 + 1, none⟩) HGL4.out).trans y1; have k2 := (hW.cell (p := ⟨g, i * 6 + 2, none⟩) HGL4.out).trans y2; have k3 := (hW.cell (p := ⟨g, i * 6 + 3, none⟩) HGL4.out).trans y3; have k4 := (hW.cell (p := ⟨g, i * 6 + 4, none⟩) HGL4.out).trans y4; have k5 := (hW.cell (p := ⟨g, i * 6 + 5, none⟩) HGL4.out).trans y5; clear hW; go_simp; try with_reducible rfl)
                  (try simp only [Act.put, List.setIfInBounds_toArray, List.set_cons_zero, List.set_cons_succ])
                  refine callH (i := 14) { dst := some 87, op := Go.Op.call { callee := Go.Callee.value (Go.Operand.func 116), args := #[Go.Operand.tmp 79, Go.Operand.tmp 86], argTypes := #[177, 177] }, type := 4, pos := "ref.go:222", after := #[{ on := 6, ground := Go.Ground.data }, { on := 13, ground := Go.Ground.data }], guard := none } (by kernel_rfl) rfl rfl (fun K hK => ?_)
                  go_simp
                  refine (ME _).mono ?_
                  rintro r w5 ⟨rfl, hb5⟩
                  have HB5 : Hid (Below g4.heap.size g4 w5) := hH.trans (hb5.mono hH.size)
                  clear hb5
                  clear hH
                  refine hK.out _ _ HB5.out (fun hH => ?_)
                  clear hK K
                  (try simp only [Act.put, List.setIfInBounds_toArray, List.set_cons_zero, List.set_cons_succ])
                  refine wpAnyH_done (by kernel_rfl) ?_ _
                  clear hH
                  clear x0 x1 x2 x3 x4 x5 y0 y1 y2 y3 y4 y5 CC2 ME
                  have H5 : Hid (Below w.heap.size w w5 ∧ RowB w5 w.heap.size b4) := ⟨H4.out.1.trans (HB5.out.mono H4.out.1.size), H4.out.2.1.below HB5.out H4.out.2.1.lt⟩
                  cases mt with
                  | true =>
                    obtain ⟨b1, hb1⟩ : ∃ b1, b4[m]? = some b1 := ⟨_, List.getElem?_eq_getElem (by rw [H4.out.2.2.1.len, HG.out.2.2.len]; omega)⟩
                    have e1 := H5.out.2.cell hb1
                    have fz := H5.out.2.frozen m
                    have H6 : Hid (Below w.heap.size w (w5.setCell ⟨w.heap.size, m, none⟩ (.bool true)) ∧ RowB (w5.setCell ⟨w.heap.size, m, none⟩ (.bool true)) w.heap.size (b4.set m true) ∧ Mo i bs (b4.set m true) ∧ (∀ j : Nat, (b4.set m true)[j]? = some true → S j) ∧ (∀ a ∈ c.A, ∀ n : Nat, findI L a 0 = (n : Int) → (b4.set m true)[n]? = some true) ∧ ∀ n, n < m + 1 → ∀ e, L[n]? = some e → meetR e c = true → (b4.set m true)[n]? = some true) := by
                      have hset : (b4.set m true)[m]? = some true := by rw [List.getElem?_set, if_pos rfl, if_pos (List.getElem?_eq_some_iff.1 hb1).1]
                      refine ⟨H5.out.1.setCell (Nat.le_refl _) _, H5.out.2.set m true, H4.out.2.2.1.set (by omega), fun j hj => ?_, fun a ha n hn => set_true (H4.out.2.2.2.2.1 a ha n hn), fun n hn e' he' hm' => ?_⟩
                      · by_cases e2 : j = m
                        · rw [e2]
                          exact HS.out.2 i m HSi.out ⟨c, HC.out.1, .inr ⟨by omega, e, HE.out, HMT.out⟩⟩
                        · rw [List.getElem?_set_ne (fun e3 => e2 e3.symm)] at hj
                          exact H4.out.2.2.2.1 j hj
                      · by_cases e2 : n = m
                        · rw [e2]; exact hset
                        · exact set_true (H4.out.2.2.2.2.2 n (by omega) e' he' hm')
                    clear hb1
                    go_wp2_with fail
                    go_roundg (i - (m + 1))
                    case measure => omega
                    case rel => exact ⟨_, m + 1, _, rfl, by omega, by omega, by go_num, H6.out⟩
                  | false =>
                    go_wp2_with fail
                    go_roundg (i - (m + 1))
                    case measure => omega
                    case rel =>
                      refine ⟨_, m + 1, b4, rfl, by omega, by omega, by go_num, H5.out.1, H5.out.2, H4.out.2.2.1, H4.out.2.2.2.1, H4.out.2.2.2.2.1, fun n hn e' he' hm' => ?_⟩
                      by_cases e2 : n = m
                      · rw [e2, HE.out] at he'
                        cases he'
                        rw [HMT.out] at hm'
                        cases hm'
                      · exact H4.out.2.2.2.2.2 n (by omega) e' he' hm'
                · obtain rfl : m = i := by omega
                  have H7 : Hid (WM L S k m b4) := HG.out.2.2.next H4.out.2.2.1 H4.out.2.2.2.1 fun _ n hE => by
                    obtain ⟨r, hr, hE⟩ := hE
                    rw [HC.out.1] at hr
                    cases hr
                    rcases hE with ⟨a, ha, hn⟩ | ⟨hn, e, he, hm⟩
                    · exact H4.out.2.2.2.2.1 a ha n hn
                    · exact H4.out.2.2.2.2.2 n hn e he hm
                  go_wp2_with fail
                  go_roundg m
                  case measure => omega
                  case rel => exact ⟨_, m, b4, rfl, by omega, by omega, by go_num, H4.out.1, H4.out.2.1, H7.out⟩
end
end Go.Proofs.YthaogbbclocmaaaGreat
