/- leveelaw06.given. -/
import Derived.Test.YtfbbdpapnegmcaaGget
import Derived.Deep.DeepCutAuto
namespace Go.Proofs.Ytfbbdpapnegmcaa
open Go.RowKit
/-- The first n bytes, with 0 behind the last. -/
def pd (n : Nat) (l : List UInt8) : List UInt8 := l.take n ++ List.replicate (n - l.length) 0
theorem pd_length (n : Nat) (l : List UInt8) : (pd n l).length = n := by simp [pd]; omega
/-- The first k bytes, n in all. -/
def pk (n k : Nat) (l : List UInt8) : List UInt8 := l.take k ++ List.replicate (n - k) 0
theorem pk_step (n k : Nat) (l : List UInt8) (hk : k < n) (hl : k < l.length) : (pk n k l).set k l[k] = pk n (k + 1) l := by
  unfold pk
  have h1 : (l.take k).length = k := by simp; omega
  obtain ⟨m, hm⟩ : ∃ m, n - k = m + 1 := ⟨n - k - 1, by omega⟩
  rw [hm, List.replicate_succ, List.take_succ_eq_append_getElem hl, List.set_append_right _ _ (by omega), h1, Nat.sub_self, List.set_cons_zero, show n - (k + 1) = m by omega, List.append_assoc]
  rfl
theorem pk_end (n k : Nat) (l : List UInt8) (hk : k ≤ n) (hl : k ≤ l.length) (h : k = n ∨ k = l.length) : pk n k l = pd n l := by
  unfold pk pd
  rcases h with rfl | rfl
  · rw [show k - l.length = 0 by omega, Nat.sub_self]
  · rw [List.take_of_length_le (by omega), List.take_of_length_le hk]
theorem HeadAt.setB {w : World} {p : Nat} {no : Int} {bl sl : List UInt8} (h : HeadAt w p no bl sl) (k : Nat) (x : UInt8) (hk : k < bl.length) : HeadAt (w.setCell ⟨p, 1 + k, none⟩ (bv x)) p no (bl.set k x) sl := by
  refine ⟨?_, by rw [List.length_set]; exact h.lb, h.ls⟩
  rw [heap_setCell_same w p (1 + k) _ _ (bv x) h.row]
  have e : (hA no bl sl).setIfInBounds (1 + k) (bv x) = hA no (bl.set k x) sl := by
    rw [Nat.add_comm]
    simp [hA, hL, bvs, hk]
  rw [e]
theorem HeadAt.setS {w : World} {p : Nat} {no : Int} {bl sl : List UInt8} (h : HeadAt w p no bl sl) (k : Nat) (x : UInt8) : HeadAt (w.setCell ⟨p, 17 + k, none⟩ (bv x)) p no bl (sl.set k x) := by
  refine ⟨?_, h.lb, by rw [List.length_set]; exact h.ls⟩
  rw [heap_setCell_same w p (17 + k) _ _ (bv x) h.row]
  have hb := h.lb
  have e : (hA no bl sl).setIfInBounds (17 + k) (bv x) = hA no bl (sl.set k x) := by
    rw [show 17 + k = (16 + k) + 1 by omega]
    simp [hA, hL, bvs, hb]
  rw [e]
theorem HeadAt.fr {w : World} {p q : Nat} {no : Int} {bl sl : List UInt8} (h : HeadAt w p no bl sl) (hq : p ≠ q) (j : Nat) (v : Value) : HeadAt (w.setCell ⟨q, j, none⟩ v) p no bl sl :=
  ⟨by rw [heap_setCell_other w ⟨q, j, none⟩ p v hq]; exact h.row, h.lb, h.ls⟩
attribute [local go_sem] wrapI
set_option maxHeartbeats 4000000 in
theorem given_any (no : Int) (s1 s2 : Option Addr) (c1 c2 : Nat) (l1 l2 : List UInt8) (w : World) (h1 : Arg w s1 c1 l1) (h2 : Arg w s2 c2 l2) :
    Calls Try.prog 6 #[.int .i64 no, .slice s1 l1.length c1, .slice s2 l2.length c2] w fun e w' => e = .returned (.agg (hA no (pd 16 l1) (pd 8 l2))) ∧ Below w.heap.size w w' := by
  have hz := zero28
  have hne := hA_ne 0 z16 z8
  have zn := zero_no no
  have len1 := h1.len
  have len2 := h2.len
  have HF : Hid (HeadAt (w.alloc (.cells (hA 0 z16 z8) 28)) w.heap.size 0 z16 z8) := head_new w 0 z16 z8 rfl rfl
  have HFB : Hid (Below w.heap.size w (w.alloc (.cells (hA 0 z16 z8) 28))) := (Below.refl _ _).alloc (Nat.le_refl _) _
  obtain ⟨w1, hw1⟩ : ∃ w1, w.alloc (.cells (hA 0 z16 z8) 28) = w1 := ⟨_, rfl⟩
  rw [hw1] at HF HFB
  have hl1 : w.heap.size < w1.heap.size := HF.out.lt
  have HN : Hid (HeadAt (w1.alloc (.cells (hA 0 z16 z8) 28)) w1.heap.size 0 z16 z8) := head_new w1 0 z16 z8 rfl rfl
  have HNB : Hid (Below w1.heap.size w1 (w1.alloc (.cells (hA 0 z16 z8) 28))) := (Below.refl _ _).alloc (Nat.le_refl _) _
  have HS1 : Hid (Src w s1 l1) := h1.src
  have HS2 : Hid (Src w s2 l2) := h2.src
  clear h1 h2
  go_enter Try.func6, Try.ntmps6
  go_upto_region 1 with fail
  clear hw1
  go_upto_region 2 with (first | ((with_reducible show wpList _ _ _ ({ dst := _, op := Op.store 28 _ _, type := _, pos := _, after := _, guard := _ } :: _) _ _); refine wpList_store_head rfl _ _ rfl (HN.out) rfl rfl rfl rfl ?_; intro w2 H2 b2 z2))
  have b2' : Below w1.heap.size w1 w2 := HNB.out.trans b2
  have HH2 : Hid (HeadAt w2 w1.heap.size no (pk 16 0 l1) z8) := H2
  have HR2 : Hid (HeadAt w2 w.heap.size 0 z16 z8) := HF.out.up b2'
  have HB2 : Hid (Below w.heap.size w w2) := HFB.out.trans (b2'.mono (by omega))
  obtain ⟨q, hq⟩ : ∃ q, Hid (q = w1.heap.size) := ⟨_, rfl⟩
  rw [← hq.out] at HH2 hl1 ⊢
  clear H2 b2 z2 b2' HN HNB HF HFB hq hne zn
  go_wp2_with fail
  go_loopw [8] (fun s wr => ∃ k : Nat, k ≤ 16 ∧ k ≤ l1.length ∧ s = .int .i64 k ∧ Hid (HeadAt wr q no (pk 16 k l1) z8) ∧ Hid (HeadAt wr w.heap.size 0 z16 z8) ∧ Hid (Below w.heap.size w wr)) (fun s _ => 16 - (intOf s).toNat)
  case atStart => exact ⟨0, by omega, by omega, rfl, HH2, HR2, HB2⟩
  case round =>
    obtain ⟨k, hk, hkl, rfl, HH, HR, HB⟩ := hrel
    clear HH2 HR2 HB2
    by_cases hlt : (k : Int) < 16 ∧ (k : Int) < l1.length
    · obtain ⟨hA1, hA2⟩ := hlt
      obtain ⟨bb, off, rfl, hbb, hc⟩ := HS1.out.at' (by omega)
      have cc := (HB.out.cell (p := ⟨bb, off + k, none⟩) hbb).trans (hc k (by omega))
      rw [bv_nth (by omega)] at cc
      have lbk : (pk 16 k l1).length = 16 := HH.out.lb
      have cd := HH.out.srcB.cell k (by omega)
      have fd := HH.out.frozen (1 + k)
      have HH3 : Hid (HeadAt (wr.setCell ⟨q, 1 + k, none⟩ (.int .u8 (nth l1 k))) q no (pk 16 (k + 1) l1) z8) := by
        have h := HH.out.setB k l1[k] (by omega)
        rw [bv_nth (by omega), pk_step 16 k l1 (by omega) (by omega)] at h
        exact h
      have HR3 : Hid (HeadAt (wr.setCell ⟨q, 1 + k, none⟩ (.int .u8 (nth l1 k))) w.heap.size 0 z16 z8) := HR.out.fr (by omega) _ _
      have HB3 : Hid (Below w.heap.size w (wr.setCell ⟨q, 1 + k, none⟩ (.int .u8 (nth l1 k)))) := HB.out.setCell (p := ⟨q, 1 + k, none⟩) (show w.heap.size ≤ q by omega) _
      clear hc HH HR HB
      go_wp2_with fail
      go_round
      case rel => exact ⟨k + 1, by omega, by omega, by go_num, HH3, HR3, HB3⟩
      case measure => simp [intOf]; omega
    · have hE := pk_end 16 k l1 hk hkl (by omega)
      rw [hE] at HH
      have HH' : Hid (HeadAt wr q no (pd 16 l1) (pk 8 0 l2)) := HH
      have hends : (¬ (k : Int) < 16) ∨ ((k : Int) < 16 ∧ ¬ (k : Int) < l1.length) := by omega
      clear hE HH hlt
      rcases hends with hx | ⟨hx, hy⟩
      all_goals
        go_wp2_with fail
        go_loopw [9] (fun s wr => ∃ k : Nat, k ≤ 8 ∧ k ≤ l2.length ∧ s = .int .i64 k ∧ Hid (HeadAt wr q no (pd 16 l1) (pk 8 k l2)) ∧ Hid (HeadAt wr w.heap.size 0 z16 z8) ∧ Hid (Below w.heap.size w wr)) (fun s _ => 8 - (intOf s).toNat)
        case atStart => exact ⟨0, by omega, by omega, rfl, HH', HR, HB⟩
        case round =>
          clear HH' HR HB
          obtain ⟨t, hk, hkl, rfl, HH, HR, HB⟩ := hrel
          by_cases hlt : (t : Int) < 8 ∧ (t : Int) < l2.length
          · obtain ⟨hA1, hA2⟩ := hlt
            obtain ⟨bb, off, rfl, hbb, hc⟩ := HS2.out.at' (by omega)
            have cc := (HB.out.cell (p := ⟨bb, off + t, none⟩) hbb).trans (hc t (by omega))
            rw [bv_nth (by omega)] at cc
            have lsk : (pk 8 t l2).length = 8 := HH.out.ls
            have cd := HH.out.srcS.cell t (by omega)
            have fd := HH.out.frozen (17 + t)
            have HH3 : Hid (HeadAt (wr.setCell ⟨q, 17 + t, none⟩ (.int .u8 (nth l2 t))) q no (pd 16 l1) (pk 8 (t + 1) l2)) := by
              have h := HH.out.setS t l2[t]
              rw [bv_nth (by omega), pk_step 8 t l2 (by omega) (by omega)] at h
              exact h
            have HR3 : Hid (HeadAt (wr.setCell ⟨q, 17 + t, none⟩ (.int .u8 (nth l2 t))) w.heap.size 0 z16 z8) := HR.out.fr (by omega) _ _
            have HB3 : Hid (Below w.heap.size w (wr.setCell ⟨q, 17 + t, none⟩ (.int .u8 (nth l2 t)))) := HB.out.setCell (p := ⟨q, 17 + t, none⟩) (show w.heap.size ≤ q by omega) _
            clear hc HH HR HB
            go_wp2_with fail
            go_round
            case rel => exact ⟨t + 1, by omega, by omega, by go_num, HH3, HR3, HB3⟩
            case measure => simp [intOf]; omega
          · have hE := pk_end 8 t l2 hk hkl (by omega)
            rw [hE] at HH
            have hends : (¬ (t : Int) < 8) ∨ ((t : Int) < 8 ∧ ¬ (t : Int) < l2.length) := by omega
            clear hE hlt
            rcases hends with hu | ⟨hu, hv⟩
            all_goals
              go_wp2_with (first | ((with_reducible show wpList _ _ _ ({ dst := _, op := Op.load 28 _, type := _, pos := _, after := _, guard := _ } :: _) _ _); refine wpList_load_head rfl _ rfl (HH.out) rfl ?_) | ((with_reducible show wpList _ _ _ ({ dst := _, op := Op.store 28 _ _, type := _, pos := _, after := _, guard := _ } :: _) _ _); refine wpList_store_head rfl _ _ rfl (HR.out) HH.out.lb HH.out.ls rfl rfl ?_; intro w7 H7 b7 z7))
              exact bodyPost_ret (results_cell_row rfl _ _ w.heap.size 28 _ (0, 0) _ rfl H7.row Try.underlying28 rfl (by rw [Try.sz28, hA_size H7.lb H7.ls])) rfl ⟨rfl, HB.out.trans b7⟩
end Go.Proofs.Ytfbbdpapnegmcaa
