/- The document's store: there, Image, Ready, Read. -/
import Derived.Test.YtadadidccbhopaaGreatJRdisk7
import Derived.Test.YtadadidccbhopaaGreatKRmay
import Derived.Deep.DeepCutAuto
namespace Go.Proofs.YtadadidccbhopaaGreat
open Go.RowKit
set_option maxRecDepth 100000
theorem own_ge {w : World} {base n c : Nat} {yo : Option Addr} {l : List UInt8} (h : Own w base (.slice yo n c) l) : ∀ b o, yo = some ⟨b, o, none⟩ → base ≤ b := by
  rintro b o rfl
  obtain ⟨_, h2⟩ := h
  rcases h2 with ⟨h2, _⟩ | ⟨g, cap, cur, hv, hg, _⟩
  · cases h2
  · cases hv; exact hg
/-- The bases of the blocks. -/
structure BAt (w : World) (g c : Nat) (B : List (List UInt8)) : Prop where
  lt : g < w.heap.size
  cap : B.length ≤ c ∧ (c : Int) ≤ 9223372036854775807
  len : B.length ≤ 1000 ∧ ∀ b ∈ B, b.length = 256
  cells : ∀ (i : Nat) (b : List UInt8), B[i]? = some b → w.cell? ⟨g, i, none⟩ = some (.string (str b))
theorem BAt.up {w w' : World} {g c : Nat} {B : List (List UInt8)} (h : BAt w g c B) (hb : Below w.heap.size w w') : BAt w' g c B :=
  ⟨by have := hb.size; have := h.lt; omega, h.cap, h.len, fun i b hi => (hb.cell (p := ⟨g, i, none⟩) h.lt).trans (h.cells i b hi)⟩
/-- Bytes with those changes laid upon them that V names. -/
def laidR (V : Nat → Bool) : List RCh → Nat → List UInt8 → List UInt8
  | [], _, x => x
  | c :: L, k, x => laidR V L (k + 1) (if V k then layB x c.fr c.d else x)
theorem laidR_drop (V : Nat → Bool) (L : List RCh) (k : Nat) (c : RCh) (x : List UInt8) (h : L[k]? = some c) : laidR V (L.drop k) k x = laidR V (L.drop (k + 1)) (k + 1) (if V k then layB x c.fr c.d else x) := by
  obtain ⟨hk, e⟩ := List.getElem?_eq_some_iff.1 h
  rw [List.drop_eq_getElem_cons hk, laidR, e]
section
variable {w : World} {q d gB cB : Nat} {B : List (List UInt8)} {ao : Option Addr} {ca : Nat} {L : List RCh} {last : Nat}
theorem RAt.c1 {vB : Value} (h : RAt w q d vB ao ca L last) : w.cell? ⟨q, 1, none⟩ = some vB := (cell_of_row _ _ _ _ _ _ h.at').trans rfl
set_option maxHeartbeats 1000000 in
theorem rthere_any (h : RAt w q d (.slice (some ⟨gB, 0, none⟩) B.length cB) ao ca L last) (hB : BAt w gB cB B) (n : Int) :
    Calls Tryz.prog 114 #[.pointer (some ⟨q, 0, none⟩), .int .i64 n] w fun e w' => e = .returned (.bool (decide (0 ≤ n) && decide (n < (B.length : Int)))) ∧ w' = w := by
  have c1 := h.c1
  have hl : (B.length : Int) ≤ 1000 := by have := hB.len.1; omega
  clear h hB
  obtain ⟨r, hr⟩ : ∃ r, (decide (0 ≤ n) && decide (n < (B.length : Int))) = r := ⟨_, rfl⟩
  rw [hr]
  go_enter Tryz.func114, Tryz.ntmps114
  by_cases h0 : 0 ≤ n
  · by_cases h1 : n < (B.length : Int)
    · obtain rfl : r = true := by rw [← hr, decide_eq_true h0, decide_eq_true h1]; rfl
      clear hr
      go_wp2_with fail
      go_ret
      exact ⟨rfl, rfl⟩
    · obtain rfl : r = false := by rw [← hr, decide_eq_true h0, decide_eq_false h1]; rfl
      clear hr
      go_wp2_with fail
      go_ret
      exact ⟨rfl, rfl⟩
  · obtain rfl : r = false := by rw [← hr, decide_eq_false h0]; rfl
    clear hr
    go_wp2_with fail
    go_ret
    exact ⟨rfl, rfl⟩
set_option maxHeartbeats 1000000 in
theorem rimage_out (h : RAt w q d (.slice (some ⟨gB, 0, none⟩) B.length cB) ao ca L last) (hB : BAt w gB cB B) (n : Int) (hn : (decide (0 ≤ n) && decide (n < (B.length : Int))) = false) :
    Calls Tryz.prog 70 #[.pointer (some ⟨q, 0, none⟩), .int .i64 n] w fun e w' => e = .returned (.tuple #[.slice none 0 0, .int .i64 3]) ∧ w' = w := by
  have TH := rthere_any h hB n
  rw [hn] at TH
  clear h hB hn
  go_enter Tryz.func70, Tryz.ntmps70
  go_wp2_with (first | (go_at_call 114; refine TH.mono ?_; rintro r w1 ⟨rfl, rfl⟩))
  go_ret2
  exact ⟨rfl, rfl⟩
set_option maxHeartbeats 4000000 in
theorem rimage_any (h : RAt w q d (.slice (some ⟨gB, 0, none⟩) B.length cB) ao ca L last) (hB : BAt w gB cB B) (hk : LOk w L) (hu : ∀ c ∈ L, c.fr + c.d.length ≤ 256 ∧ 0 < c.d.length) (n : Nat) (b0 : List UInt8) (hb0 : B[n]? = some b0) (V : Nat → Bool) (hV : ∀ (i : Nat) (c : RCh), L[i]? = some c → V i = (decide ((c.b : Int) = (n : Int)) && (!c.A.any (badA L V (n : Int)) && !(List.range i).any (badM L V c)))) (hf : ∀ (i : Nat) (c : RCh), L[i]? = some c → ∀ a ∈ c.A, findI L a 0 < (i : Int)) :
    Calls Tryz.prog 70 #[.pointer (some ⟨q, 0, none⟩), .int .i64 (n : Int)] w fun e w' => ∃ xo xc, e = .returned (.tuple #[.slice xo 256 xc, .int .i64 0]) ∧ Arg w' xo xc (laidR V L 0 b0) ∧ (laidR V L 0 b0).length = 256 ∧ Below w.heap.size w w' ∧ ∀ b o, xo = some ⟨b, o, none⟩ → w.heap.size ≤ b := by
  have hnl : n < B.length := (List.getElem?_eq_some_iff.1 hb0).1
  have TH := rthere_any h hB (n : Int)
  rw [decide_eq_true (by omega), decide_eq_true (by omega)] at TH
  have HB0 : Hid (b0.length = 256) := hB.len.2 b0 (List.mem_of_getElem? hb0)
  obtain ⟨xc0, w2, hcv, hav, hbv⟩ := str_arg w b0 (by have := HB0.out; omega) (by have := HB0.out; omega)
  have MY := rmay_any (h.up hbv) ⟨hk.len, hk.bd, fun c hc => ⟨(hk.sr c hc).1.below hbv (Nat.le_refl _), (hk.sr c hc).2⟩⟩ (n : Int) V hV hf
  have c1 := h.c1
  have bc := hB.cells n b0 hb0
  have hl : (B.length : Int) ≤ 1000 := by have := hB.len.1; omega
  have hll : (L.length : Int) ≤ 1000 := by have := hk.len; omega
  have hcB := hB.cap.2
  have hnl' : (n : Int) < (B.length : Int) := by omega
  have HR : Hid (RAt w q d (.slice (some ⟨gB, 0, none⟩) B.length cB) ao ca L last) := h
  have HU : Hid (∀ c ∈ L, c.fr + c.d.length ≤ 256 ∧ 0 < c.d.length) := hu
  have HAV : Hid (Arg w2 (some ⟨w.heap.size, 0, none⟩) xc0 b0) := hav
  have HBV : Hid (Below w.heap.size w w2) := hbv
  clear h hB hk hu hb0 hV hf hav hbv hnl
  go_enter Tryz.func70, Tryz.ntmps70
  go_wp2_with (first | (go_at_call 114; refine TH.mono ?_; clear TH; rintro r w1 ⟨rfl, hw1⟩; obtain rfl : w = w1 := hw1.symm) | (go_at_call 109; refine MY.mono ?_; clear MY; rintro r w3 ⟨rfl, hrow, hb3⟩; have H3 : Hid (RowB w3 w2.heap.size (upTo V L.length L.length) ∧ Below w2.heap.size w2 w3) := ⟨hrow, hb3⟩; clear hrow hb3))
  have HS : Hid (w.heap.size ≤ w2.heap.size ∧ w2.heap.size < w3.heap.size) := ⟨HBV.out.size, H3.out.1.lt⟩
  have H4 : Hid (RowB w3 w2.heap.size (upTo V L.length L.length) ∧ Below w.heap.size w w3 ∧ Arg w3 (some ⟨w.heap.size, 0, none⟩) xc0 b0) := ⟨H3.out.1, HBV.out.trans (H3.out.2.mono HS.out.1), HAV.out.below H3.out.2 (Nat.le_refl _)⟩
  clear HAV H3 hcv c1 bc hw1
  go_loopg [6, 8] 1000 (fun gg t6 t8 W => ∃ (gw : World) (k : Nat) (xo : Option Addr) (xc : Nat) (x : List UInt8), gw = W ∧ k ≤ L.length ∧ L.length - k ≤ gg ∧ t8 = .int .i64 k ∧ t6 = .slice xo x.length xc ∧ Hid (RowB gw w2.heap.size (upTo V L.length L.length) ∧ Below w.heap.size w gw ∧ Arg gw xo xc x ∧ x.length = 256 ∧ w3.heap.size ≤ gw.heap.size ∧ laidR V L 0 b0 = laidR V (L.drop k) k x ∧ ∀ b o, xo = some ⟨b, o, none⟩ → w.heap.size ≤ b))
  case atStart => exact ⟨_, 0, _, _, _, rfl, by omega, by omega, rfl, rfl, H4.out.1, H4.out.2.1, H4.out.2.2, HB0.out, Nat.le_refl _, rfl, fun b o e => by cases e; exact Nat.le_refl _⟩
  case round =>
    clear H4
    obtain ⟨gw, k, xo, xc, x, rfl, hkl, hgk, rfl, rfl, HG⟩ := hrel
    have c2 := (HR.out.up HG.out.2.1).c2
    by_cases hlt : (k : Int) < (L.length : Int)
    · obtain ⟨c, hc⟩ : ∃ c, L[k]? = some c := ⟨_, List.getElem?_eq_getElem (by omega)⟩
      obtain ⟨g, rfl, hgl, hcc⟩ : ∃ g, ao = some ⟨g, 0, none⟩ ∧ g < gw.heap.size ∧ ∀ (j : Nat) (v : Value), (rcL c)[j]? = some v → gw.cell? ⟨g, k * 6 + j, none⟩ = some v := by
        rcases (HR.out.up HG.out.2.1).ls.cells with e | ⟨g, e, hl, h⟩
        · rw [e] at hc; cases hc
        · exact ⟨g, e, hl, fun j v hj => h k c hc j v hj⟩
      have cv : gw.cell? ⟨w2.heap.size, k, none⟩ = some (.bool (V k)) := HG.out.1.cell (upTo_get (by omega) (by omega))
      have hca : (ca : Int) ≤ 9223372036854775807 := HR.out.ls.cap.2
      have HD := HG.out.2.2.2.2.2.1.trans (laidR_drop V L k c x hc)
      have HDD : Hid (laidR V L 0 b0 = laidR V (L.drop (k + 1)) (k + 1) (if V k then layB x c.fr c.d else x)) := HD
      clear HD
      generalize V k = vk at *
      cases vk with
      | true =>
        have UP := rupon_any c xo xc x gw HG.out.2.2.1 HG.out.2.2.2.1 (HU.out c (List.mem_of_getElem? hc)).1 (HU.out c (List.mem_of_getElem? hc)).2
        have HLY : Hid ((layB x c.fr c.d).length = 256) := by
          have h1 := HG.out.2.2.2.1
          have h2 := (HU.out c (List.mem_of_getElem? hc)).1
          show _ = _
          rw [layB_length (by omega), h1]
        simp only [rcL] at UP
        have x0 := hcc 0 _ rfl
        have x1 := hcc 1 _ rfl
        have x2 := hcc 2 _ rfl
        have x3 := hcc 3 _ rfl
        have x4 := hcc 4 _ rfl
        have x5 := hcc 5 _ rfl
        rw [Nat.add_zero] at x0
        obtain ⟨y, hy⟩ : ∃ y, layB x c.fr c.d = y := ⟨_, rfl⟩
        have HY : Hid (layB x c.fr c.d = y) := hy
        rw [hy] at UP
        clear hcc hc hy
        go_wp2_with (first | (go_at_call 112; refine UP.mono ?_; clear UP; rintro r w5 ⟨v, rfl, ho, hb5⟩; have H5 : Hid (Own w5 gw.heap.size v y ∧ Below gw.heap.size gw w5) := ⟨ho, hb5⟩; clear ho hb5))
        rw [HY.out] at HLY HDD
        obtain ⟨yo, yc, rfl, hya⟩ := H5.out.1.arg (by have := HLY.out; omega)
        have hge := own_ge H5.out.1
        go_roundg (L.length - (k + 1))
        case measure => omega
        case rel => exact ⟨_, k + 1, yo, yc, y, rfl, by omega, by omega, by go_num, rfl, HG.out.1.below H5.out.2 (by have := HG.out.1.lt; omega), HG.out.2.1.trans (H5.out.2.mono (HG.out.2.1.size)), hya, HLY.out, by have := H5.out.2.size; have := HG.out.2.2.2.2.1; omega, HDD.out, fun b o e => by have := hge b o e; have := HG.out.2.1.size; omega⟩
      | false =>
        clear hcc hc
        go_wp2_with fail
        go_roundg (L.length - (k + 1))
        case measure => omega
        case rel => exact ⟨_, k + 1, xo, xc, x, rfl, by omega, by omega, by go_num, rfl, HG.out.1, HG.out.2.1, HG.out.2.2.1, HG.out.2.2.2.1, HG.out.2.2.2.2.1, HDD.out, HG.out.2.2.2.2.2.2⟩
    · have HE : Hid (laidR V L 0 b0 = x) := by
        show _ = _
        rw [HG.out.2.2.2.2.2.1, List.drop_eq_nil_of_le (by omega)]; rfl
      have HX := HG.out.2.2.2.1
      rw [HX]
      clear HX
      go_wp2_with fail
      go_ret2
      exact ⟨xo, xc, rfl, by rw [HE.out]; exact HG.out.2.2.1, by rw [HE.out]; exact HG.out.2.2.2.1, HG.out.2.1, HG.out.2.2.2.2.2.2⟩
end
end Go.Proofs.YtadadidccbhopaaGreat
/- The document's store: Read, Ready, Safe, Block. -/
namespace Go.Proofs.YtadadidccbhopaaGreat
open Go.RowKit
set_option maxRecDepth 100000
/-- Is the change at a place one of block n? -/
def ofR (L : List RCh) (n k : Nat) : Bool := match L[k]? with
  | some c => decide (c.b = n)
  | none => false
/-- How many of those that V names were not written yet. -/
def rdyR (V : Nat → Bool) : List RCh → Nat → Nat → Nat
  | [], _, a => a
  | c :: L, k, a => rdyR V L (k + 1) (if V k && !c.out then a + 1 else a)
theorem rdyR_drop (V : Nat → Bool) (L : List RCh) (k : Nat) (c : RCh) (a : Nat) (h : L[k]? = some c) : rdyR V (L.drop k) k a = rdyR V (L.drop (k + 1)) (k + 1) (if V k && !c.out then a + 1 else a) := by
  obtain ⟨hk, e⟩ := List.getElem?_eq_some_iff.1 h
  rw [List.drop_eq_getElem_cons hk, rdyR, e]
section
variable {w : World} {q d gB cB : Nat} {B : List (List UInt8)} {ao : Option Addr} {ca : Nat} {L : List RCh} {last : Nat}
set_option maxHeartbeats 1000000 in
theorem rsread_out (h : RAt w q d (.slice (some ⟨gB, 0, none⟩) B.length cB) ao ca L last) (hB : BAt w gB cB B) (n : Int) (hn : (decide (0 ≤ n) && decide (n < (B.length : Int))) = false) :
    Calls Tryz.prog 68 #[.pointer (some ⟨q, 0, none⟩), .int .i64 n] w fun e w' => e = .returned (.tuple #[.slice none 0 0, .int .i64 3]) ∧ w' = w := by
  have TH := rthere_any h hB n
  rw [hn] at TH
  clear h hB hn
  go_enter Tryz.func68, Tryz.ntmps68
  go_wp2_with (first | (go_at_call 114; refine TH.mono ?_; rintro r w1 ⟨rfl, rfl⟩))
  go_ret2
  exact ⟨rfl, rfl⟩
set_option maxHeartbeats 2000000 in
theorem rready_any {vB : Value} (h : RAt w q d vB ao ca L last) (hk : LOk w L) (n : Int) (V : Nat → Bool) (hV : ∀ (i : Nat) (c : RCh), L[i]? = some c → V i = (decide ((c.b : Int) = n) && (!c.A.any (badA L V n) && !(List.range i).any (badM L V c)))) (hf : ∀ (i : Nat) (c : RCh), L[i]? = some c → ∀ a ∈ c.A, findI L a 0 < (i : Int)) :
    Calls Tryz.prog 73 #[.pointer (some ⟨q, 0, none⟩), .int .i64 n] w fun e w' => e = .returned (.int .i64 (rdyR V L 0 0 : Nat)) ∧ Below w.heap.size w w' := by
  have MY := rmay_any h hk n V hV hf
  have hll : (L.length : Int) ≤ 1000 := by have := hk.len; omega
  have HR : Hid (RAt w q d vB ao ca L last) := h
  clear h hk hV hf
  go_enter Tryz.func73, Tryz.ntmps73
  go_wp2_with (first | (go_at_call 109; refine MY.mono ?_; clear MY; rintro r w3 ⟨rfl, hrow, hb3⟩; have H3 : Hid (RowB w3 w.heap.size (upTo V L.length L.length) ∧ Below w.heap.size w w3) := ⟨hrow, hb3⟩; clear hrow hb3))
  go_loopg [5, 7] 1000 (fun gg t5 t7 W => ∃ (k a : Nat), W = w3 ∧ k ≤ L.length ∧ L.length - k ≤ gg ∧ t7 = .int .i64 k ∧ t5 = .int .i64 (a : Int) ∧ (a : Int) ≤ (k : Int) ∧ Hid (rdyR V L 0 0 = rdyR V (L.drop k) k a))
  case atStart => exact ⟨0, 0, rfl, by omega, by omega, rfl, rfl, by omega, rfl⟩
  case round =>
    obtain ⟨k, a, hW, hkl, hgk, rfl, rfl, hak, HD⟩ := hrel
    cases hW
    have c2 := (HR.out.up H3.out.2).c2
    by_cases hlt : (k : Int) < (L.length : Int)
    · obtain ⟨c, hc⟩ : ∃ c, L[k]? = some c := ⟨_, List.getElem?_eq_getElem (by omega)⟩
      obtain ⟨g, rfl, hgl, hcc⟩ : ∃ g, ao = some ⟨g, 0, none⟩ ∧ g < w3.heap.size ∧ w3.cell? ⟨g, k * 6 + 5, none⟩ = some (.bool c.out) := by
        rcases (HR.out.up H3.out.2).ls.cells with e | ⟨g, e, hl, h⟩
        · rw [e] at hc; cases hc
        · exact ⟨g, e, hl, h k c hc 5 _ rfl⟩
      have cv : w3.cell? ⟨w.heap.size, k, none⟩ = some (.bool (V k)) := H3.out.1.cell (upTo_get (by omega) (by omega))
      have hca : (ca : Int) ≤ 9223372036854775807 := HR.out.ls.cap.2
      have hD2 := HD.out.trans (rdyR_drop V L k c a hc)
      have HDD : Hid (rdyR V L 0 0 = rdyR V (L.drop (k + 1)) (k + 1) (if V k && !c.out then a + 1 else a)) := hD2
      clear hD2 HD hc
      generalize V k = vk at *
      generalize c.out = co at *
      cases vk <;> cases co
      · go_wp2_with fail
        go_roundg (L.length - (k + 1))
        case measure => omega
        case rel => exact ⟨k + 1, a, rfl, by omega, by omega, by go_num, rfl, by omega, HDD.out⟩
      · go_wp2_with fail
        go_roundg (L.length - (k + 1))
        case measure => omega
        case rel => exact ⟨k + 1, a, rfl, by omega, by omega, by go_num, rfl, by omega, HDD.out⟩
      · go_wp2_with fail
        go_roundg (L.length - (k + 1))
        case measure => omega
        case rel => exact ⟨k + 1, a + 1, rfl, by omega, by omega, by go_num, by go_num, by omega, HDD.out⟩
      · go_wp2_with fail
        go_roundg (L.length - (k + 1))
        case measure => omega
        case rel => exact ⟨k + 1, a, rfl, by omega, by omega, by go_num, rfl, by omega, HDD.out⟩
    · have HE : Hid (rdyR V L 0 0 = a) := by
        show _ = _
        rw [HD.out, List.drop_eq_nil_of_le (by omega)]; rfl
      go_wp2_with fail
      go_ret
      exact ⟨by rw [HE.out]; rfl, H3.out.2⟩
end
end Go.Proofs.YtadadidccbhopaaGreat
/- The document's disk: what a store leaves; goes. -/
namespace Go.Proofs.YtadadidccbhopaaGreat
open Go.RowKit
set_option maxRecDepth 100000
section
variable {w : World} {base r n : Nat} {held : Bool} {left : Int} {ver : Nat → List (List UInt8)} {gb cb : Nat} {va vc : Nat → Nat}
/-- The blocks of the document's disk. -/
def Rk (r gb n : Nat) (va : Nat → Nat) : Nat → Prop := fun k => k = r ∨ k = gb ∨ ∃ i, i < n ∧ va i = k
theorem RefAt.fr (h : RefAt w base r n held left ver gb cb va vc) {S : Nat → Prop} {w' : World} (hf : Fr S w w') (hS : ∀ k, Rk r gb n va k → ¬ S k) : RefAt w' base r n held left ver gb cb va vc := by
  have hr : r < w.heap.size := block_lt_of_cell h.c0
  have hg := h.gl
  have hs := hf.size
  have sr := hS r (.inl rfl)
  have sg := hS gb (.inr (.inl rfl))
  exact {
    nn := h.nn, rb := h.rb, gl := by omega, cl := h.cl,
    c0 := (fr_cell hf (a := ⟨r, 0, none⟩) hr sr).trans h.c0,
    c1 := (fr_cell hf (a := ⟨r, 1, none⟩) hr sr).trans h.c1,
    c2 := (fr_cell hf (a := ⟨r, 2, none⟩) hr sr).trans h.c2,
    row := fun i hi => ⟨(fr_cell hf (a := ⟨gb, i, none⟩) hg sg).trans (h.row i hi).1, by have := (h.row i hi).2.1; omega, (h.row i hi).2.2⟩,
    vers := fun i hi j hj => (fr_cell hf (a := ⟨va i, j, none⟩) (h.row i hi).2.1 (hS _ (.inr (.inr ⟨i, hi, rfl⟩)))).trans (h.vers i hi j hj) }
end
section
variable {w : World} {base r n : Nat} {held : Bool} {left : Int} {ver : Nat → List (List UInt8)} {gb cb : Nat} {va vc : Nat → Nat}
theorem RefW.keep (h : RefW w base r n held left ver gb cb va vc) {S : Nat → Prop} {w' : World} (hf : Fr S w w') (hS : ∀ k, Rk r gb n va k → ¬ S k) : RefW w' base r n held left ver gb cb va vc :=
  ⟨h.at'.fr hf hS, fun o => (fr_frozen hf (a := ⟨r, o, none⟩) h.rl (hS r (.inl rfl))).trans (h.fr o), fun o => (fr_frozen hf (a := ⟨gb, o, none⟩) h.at'.gl (hS gb (.inr (.inl rfl)))).trans (h.fg o), h.rg, h.ar⟩
theorem RefW.below (h : RefW w base r n held left ver gb cb va vc) {w' : World} (hb : Below w.heap.size w w') : RefW w' base r n held left ver gb cb va vc :=
  h.keep (S := fun _ => False) (Fr.of_below hb) (fun _ _ h => h)
theorem RefW.set2 (h : RefW w base r n held left ver gb cb va vc) (x : Int) : RefW (w.setCell ⟨r, 2, none⟩ (.int .i64 x)) base r n held x ver gb cb va vc := by
  have k := h.at'
  refine ⟨{ nn := k.nn, rb := k.rb, gl := (by simpa [World.setCell] using k.gl), cl := k.cl, c0 := (World.cell?_setCell_other _ _ _ _ (by simp)).trans k.c0, c1 := (World.cell?_setCell_other _ _ _ _ (by simp)).trans k.c1, c2 := World.cell?_setCell_same _ _ _ k.c2, row := fun i hi => ⟨(World.cell?_setCell_other _ _ _ _ (by intro e; exact h.rg (congrArg Addr.block e))).trans (k.row i hi).1, (by have := (k.row i hi).2.1; simpa [World.setCell] using this), (k.row i hi).2.2⟩, vers := fun i hi j hj => (World.cell?_setCell_other _ _ _ _ (by intro e; exact (h.ar i hi).1 (congrArg Addr.block e).symm)).trans (k.vers i hi j hj) }, fun o => by simpa using h.fr o, fun o => by simpa using h.fg o, h.rg, h.ar⟩
def updN (f : Nat → Nat) (i x : Nat) : Nat → Nat := fun j => if j = i then x else f j
/-- One block's list of versions is laid anew. -/
theorem RefW.setV (h : RefW w base r n held left ver gb cb va vc) (i : Nat) (hi : i < n) (l : List (List UInt8)) (g c : Nat) (hl : 1 ≤ l.length ∧ l.length ≤ 1000000 ∧ l.length ≤ c ∧ (c : Int) ≤ 9223372036854775807) (hg : g < w.heap.size) (h1 : g ≠ r) (h2 : g ≠ gb) (hv : ∀ j, (hj : j < l.length) → w.cell? ⟨g, j, none⟩ = some (.string (str l[j]))) :
    RefW (w.setCell ⟨gb, i, none⟩ (.slice (some ⟨g, 0, none⟩) l.length c)) base r n held left (upd ver i l) gb cb (updN va i g) (updN vc i c) := by
  have k := h.at'
  have hr : ∀ o, (w.setCell ⟨gb, i, none⟩ (.slice (some ⟨g, 0, none⟩) l.length c)).cell? ⟨r, o, none⟩ = w.cell? ⟨r, o, none⟩ := fun o => World.cell?_setCell_other _ _ _ _ (by intro e; exact h.rg (congrArg Addr.block e).symm)
  refine ⟨{ nn := k.nn, rb := k.rb, gl := (by simpa [World.setCell] using k.gl), cl := k.cl, c0 := (hr 0).trans k.c0, c1 := (hr 1).trans k.c1, c2 := (hr 2).trans k.c2, row := fun j hj => ?_, vers := fun j hj t ht => ?_ }, fun o => by simpa using h.fr o, fun o => by simpa using h.fg o, h.rg, fun j hj => ?_⟩
  · unfold upd updN
    by_cases e : j = i
    · subst e
      simp only [if_true]
      exact ⟨World.cell?_setCell_same _ _ _ (k.row j hj).1, by simpa [World.setCell] using hg, hl.1, hl.2.1, hl.2.2.1, hl.2.2.2⟩
    · simp only [if_neg e]
      exact ⟨(World.cell?_setCell_other _ _ _ _ (by intro e2; exact e (congrArg Addr.off e2).symm)).trans (k.row j hj).1, (by have := (k.row j hj).2.1; simpa [World.setCell] using this), (k.row j hj).2.2⟩
  · unfold upd at ht ⊢
    unfold updN
    by_cases e : j = i
    · subst e
      simp only [if_true] at ht ⊢
      exact (World.cell?_setCell_other _ _ _ _ (by intro e2; exact h2 (congrArg Addr.block e2).symm)).trans (hv t ht)
    · simp only [if_neg e] at ht ⊢
      exact (World.cell?_setCell_other _ _ _ _ (by intro e2; exact (h.ar j hj).2 (congrArg Addr.block e2).symm)).trans (k.vers j hj t ht)
  · unfold updN
    by_cases e : j = i
    · simp only [if_pos e]; exact ⟨h1, h2⟩
    · simp only [if_neg e]; exact h.ar j hj
set_option maxHeartbeats 1000000 in
theorem rgoes_any (h : RefW w base r n held left ver gb cb va vc) (hl : 0 ≤ left ∧ left ≤ 9223372036854775807) :
    Calls Tryz.prog 138 #[.pointer (some ⟨r, 0, none⟩)] w fun e w' => e = .returned (.bool (goesB held left)) ∧ RefW w' base r n held (goesL held left) ver gb cb va vc ∧ Fr (fun k => k = r) w w' := by
  have ST := rstopped_any h.at'
  have c1 := h.at'.c1
  have c2 := h.at'.c2
  have f2 := h.fr 2
  have H0 : Hid _ := h
  have H1 : Hid (RefW (w.setCell ⟨r, 2, none⟩ (.int .i64 (left - 1))) base r n held (left - 1) ver gb cb va vc) := h.set2 _
  have F1 : Hid (Fr (fun k => k = r) w (w.setCell ⟨r, 2, none⟩ (.int .i64 (left - 1)))) := (Fr.refl (fun k => k = r) w).setCell r 2 _ rfl
  clear h
  cases held with
  | false =>
    go_enter Tryz.func138, Tryz.ntmps138
    go_wp2_with fail
    refine ST.mono ?_
    rintro e w2 ⟨rfl, rfl⟩
    go_wp2
    go_ret
    exact ⟨rfl, H0.out, Fr.refl _ _⟩
  | true =>
    by_cases h0 : left = 0
    · subst h0
      go_enter Tryz.func138, Tryz.ntmps138
      go_wp2_with fail
      refine ST.mono ?_
      rintro e w2 ⟨rfl, rfl⟩
      go_wp2
      go_ret
      exact ⟨rfl, H0.out, Fr.refl _ _⟩
    · have hb : (left == 0) = false := by simpa using h0
      have HG : Hid (goesB true left = true ∧ goesL true left = left - 1) := by
        show _ ∧ _
        unfold goesB goesL
        rw [hb]; exact ⟨rfl, rfl⟩
      rw [HG.out.1, HG.out.2]
      rw [hb] at ST
      clear h0
      go_enter Tryz.func138, Tryz.ntmps138
      go_wp2_with fail
      refine ST.mono ?_
      rintro e w2 ⟨rfl, rfl⟩
      go_wp2
      go_ret
      exact ⟨rfl, H1.out, F1.out⟩
end
end Go.Proofs.YtadadidccbhopaaGreat
/- The document's disk: Flush. -/
namespace Go.Proofs.YtadadidccbhopaaGreat
open Go.RowKit
set_option maxRecDepth 100000
/-- The last version. -/
def lv (l : List (List UInt8)) : List UInt8 := l.getD (l.length - 1) []
/-- The first k blocks have their last version alone. -/
def verK (ver : Nat → List (List UInt8)) (k : Nat) : Nat → List (List UInt8) := fun i => if i < k then [lv (ver i)] else ver i
theorem verK_step (ver : Nat → List (List UInt8)) (k : Nat) : upd (verK ver k) k [lv (ver k)] = verK ver (k + 1) := by
  funext j
  unfold upd verK
  by_cases e : j = k
  · subst e; simp
  · rw [if_neg e]
    by_cases h : j < k
    · rw [if_pos h, if_pos (by omega)]
    · rw [if_neg h, if_neg (by omega)]
section
variable {w : World} {base r n : Nat} {held : Bool} {left : Int} {ver : Nat → List (List UInt8)} {gb cb : Nat} {va vc : Nat → Nat}
attribute [local go_sem] wrapI
/-- Each list of versions is as it was, or new. -/
def VA (w : World) (n : Nat) (va va' : Nat → Nat) : Prop := ∀ i, i < n → va' i = va i ∨ w.heap.size ≤ va' i
def RG (r gb : Nat) : Nat → Prop := fun k => k = r ∨ k = gb
set_option maxHeartbeats 4000000 in
theorem rflush_go (h : RefW w base r n held left ver gb cb va vc) (hl : 0 ≤ left ∧ left ≤ 9223372036854775807) (hg : goesB held left = true) :
    Calls Tryz.prog 111 #[.pointer (some ⟨r, 0, none⟩)] w fun e w' => e = .returned (.int .i64 0) ∧ (∃ va', (∃ vc', RefW w' base r n held (goesL held left) (fun i => if i < n then [lv (ver i)] else ver i) gb cb va' vc') ∧ VA w n va va') ∧ Fr (RG r gb) w w' := by
  have GO := rgoes_any h hl
  rw [hg] at GO
  have hlw : r < w.heap.size := h.rl
  have hgw : gb < w.heap.size := h.at'.gl
  have hrow0 : ∀ i, i < n → 1 ≤ (ver i).length ∧ (ver i).length ≤ 1000000 := fun i hi => ⟨(h.at'.row i hi).2.2.1, (h.at'.row i hi).2.2.2.1⟩
  have HROW : Hid _ := hrow0
  clear h hrow0
  go_enter Tryz.func111, Tryz.ntmps111
  go_wp2_with fail
  refine GO.mono ?_
  rintro e w2 ⟨rfl, h2, f2⟩
  have HF2 : Hid (Fr (RG r gb) w w2) := f2.mono (fun k _ h => .inl h)
  have H2 : Hid (RefW w2 base r n held (goesL held left) (verK ver 0) gb cb va vc) := by
    have e : verK ver 0 = ver := by funext i; unfold verK; rw [if_neg (by omega)]
    show RefW _ _ _ _ _ _ _ _ _ _ _
    rw [e]; exact h2
  have hnn : (n : Int) ≤ 4096 := by have := h2.at'.nn; omega
  clear f2 h2 GO
  go_wp2_with fail
  go_loopw [3] (fun s wr => ∃ (k : Nat) (va' vc' : Nat → Nat), k ≤ n ∧ s = .int .i64 k ∧ Hid (RefW wr base r n held (goesL held left) (verK ver k) gb cb va' vc') ∧ Hid (VA w n va va') ∧ Hid (Fr (RG r gb) w wr)) (fun s _ => n - (intOf s).toNat)
  case atStart => exact ⟨0, va, vc, by omega, rfl, H2, fun _ _ => .inl rfl, HF2⟩
  case round =>
    obtain ⟨k, va', vc', hk, rfl, HR, HV, HF⟩ := hrel
    clear H2 HF2
    have c0 := HR.out.at'.c0
    by_cases hlt : (k : Int) < n
    · have hk' : k < n := by omega
      have hrow := HR.out.at'.row k hk'
      have hver := HR.out.at'.vers k hk'
      rw [show verK ver k k = ver k by unfold verK; rw [if_neg (by omega)]] at hrow hver
      obtain ⟨m, hm⟩ : ∃ m, (ver k).length = m + 1 := ⟨(ver k).length - 1, by have := (HROW.out k hk').1; omega⟩
      have hmm := (HROW.out k hk').2
      have cs : wr.cell? ⟨va' k, m, none⟩ = some (.string (str (lv (ver k)))) := by
        have hml : m < (ver k).length := by omega
        have e : lv (ver k) = (ver k)[m] := by
          unfold lv
          rw [show (ver k).length - 1 = m by omega]
          simp [hml]
        rw [hver m hml, e]
      obtain ⟨cg, va_lt, _⟩ := hrow
      rw [hm] at cg
      have hvne := HR.out.ar k hk'
      have fgk := HR.out.fg k
      have HSV := fun (W : World) (hW : RefW W base r n held (goesL held left) (verK ver k) gb cb va' vc') (g : Nat) (hgl : g < W.heap.size) (h1 : g ≠ r) (h2 : g ≠ gb) (hc : W.cell? ⟨g, 0, none⟩ = some (.string (str (lv (ver k))))) => hW.setV k hk' [lv (ver k)] g 1 (by simp) hgl h1 h2 (fun j hj => by
        have : j = 0 := by simp at hj; omega
        subst this; exact hc)
      have HS : Hid _ := HSV
      have im : In64 (m : Int) := ⟨by omega⟩
      have hmi : (m : Int) < (m : Int) + 1 := by omega
      have hszr : w.heap.size ≤ wr.heap.size := HF.out.size
      generalize hY : lv (ver k) = y at *
      have HY : Hid (lv (ver k) = y) := hY
      clear hver hm hY HSV hmm
      go_wp2_with fail
      have hS0 : wr.drew.cell? ⟨r, 0, none⟩ = some (.slice (some ⟨gb, 0, none⟩) n cb) ∧ wr.drew.cell? ⟨va' k, m, none⟩ = some (.string (str y)) := ⟨c0, cs⟩
      refine wp_region_held_drew (S := (fun W => W.cell? ⟨r, 0, none⟩ = some (.slice (some ⟨gb, 0, none⟩) n cb) ∧ W.cell? ⟨va' k, m, none⟩ = some (.string (str y)))) (by kernel_rfl) hS0 (fun hH => ?_)
      refine takeH (i := 0) (dst := some 25) (v := ?v1) rfl rfl (by kernel_rfl) (by kernel_rfl) (by kernel_rfl) (fun _ _ _ h => h) rfl ?hy1 hH rfl ?rest1
      case hy1 => (intro W hW; obtain ⟨q0, q1⟩ := hW; go_simp; try with_reducible rfl)
      (try simp only [Act.put, List.setIfInBounds_toArray, List.set_cons_zero, List.set_cons_succ])
      refine takeH (i := 1) (dst := some 26) (v := ?v2) rfl rfl (by kernel_rfl) (by kernel_rfl) (by kernel_rfl) (fun _ _ _ h => h) rfl ?hy2 hH rfl ?rest2
      case hy2 => (intro W hW; obtain ⟨q0, q1⟩ := hW; go_simp; try with_reducible rfl)
      (try simp only [Act.put, List.setIfInBounds_toArray, List.set_cons_zero, List.set_cons_succ])
      refine takeH (i := 2) (dst := some 27) (v := ?v3) rfl rfl (by kernel_rfl) (by kernel_rfl) (by kernel_rfl) (fun _ _ _ h => h) rfl ?hy3 hH rfl ?rest3
      case hy3 => (intro W hW; obtain ⟨q0, q1⟩ := hW; go_simp; try with_reducible rfl)
      (try simp only [Act.put, List.setIfInBounds_toArray, List.set_cons_zero, List.set_cons_succ])
      refine takeH (i := 3) (dst := some 28) (v := ?v4) rfl rfl (by kernel_rfl) (by kernel_rfl) (by kernel_rfl) (fun _ _ _ h => h) rfl ?hy4 hH rfl ?rest4
      case hy4 => (intro W hW; obtain ⟨q0, q1⟩ := hW; go_simp; try with_reducible rfl)
      (try simp only [Act.put, List.setIfInBounds_toArray, List.set_cons_zero, List.set_cons_succ])
      refine takeH (i := 4) (dst := some 29) (v := ?v5) rfl rfl (by kernel_rfl) (by kernel_rfl) (by kernel_rfl) (fun _ _ _ h => h) rfl ?hy5 hH rfl ?rest5
      case hy5 => (intro W hW; obtain ⟨q0, q1⟩ := hW; go_simp; try with_reducible rfl)
      (try simp only [Act.put, List.setIfInBounds_toArray, List.set_cons_zero, List.set_cons_succ])
      refine takeH (i := 5) (dst := some 30) (v := ?v6) rfl rfl (by kernel_rfl) (by kernel_rfl) (by kernel_rfl) (fun _ _ _ h => h) rfl ?hy6 hH rfl ?rest6
      case hy6 => (intro W hW; obtain ⟨q0, q1⟩ := hW; go_simp; try with_reducible rfl)
      (try simp only [Act.put, List.setIfInBounds_toArray, List.set_cons_zero, List.set_cons_succ])
      refine takeH (i := 6) (dst := some 31) (v := ?v7) rfl rfl (by kernel_rfl) (by kernel_rfl) (by kernel_rfl) (fun _ _ _ h => h) rfl ?hy7 hH rfl ?rest7
      case hy7 => (intro W hW; obtain ⟨q0, q1⟩ := hW; go_simp; try with_reducible rfl)
      (try simp only [Act.put, List.setIfInBounds_toArray, List.set_cons_zero, List.set_cons_succ])
      refine takeH (i := 7) (dst := some 32) (v := ?v8) rfl rfl (by kernel_rfl) (by kernel_rfl) (by kernel_rfl) (fun _ _ _ h => h) rfl ?hy8 hH rfl ?rest8
      case hy8 => (intro W hW; obtain ⟨q0, q1⟩ := hW; go_simp; try with_reducible rfl)
      (try simp only [Act.put, List.setIfInBounds_toArray, List.set_cons_zero, List.set_cons_succ])
      refine takeH (i := 8) (dst := some 33) (v := ?v9) rfl rfl (by kernel_rfl) (by kernel_rfl) (by kernel_rfl) (fun _ _ _ h => h) rfl ?hy9 hH rfl ?rest9
      case hy9 => (intro W hW; obtain ⟨q0, q1⟩ := hW; go_simp; try with_reducible rfl)
      (try simp only [Act.put, List.setIfInBounds_toArray, List.set_cons_zero, List.set_cons_succ])
      refine takeH (i := 9) (dst := some 34) (v := ?v10) rfl rfl (by kernel_rfl) (by kernel_rfl) (by kernel_rfl) (fun _ _ _ h => h) rfl ?hy10 hH rfl ?rest10
      case hy10 => (intro W hW; obtain ⟨q0, q1⟩ := hW; go_simp; try with_reducible rfl)
      (try simp only [Act.put, List.setIfInBounds_toArray, List.set_cons_zero, List.set_cons_succ])
      refine takeH (i := 10) (dst := some 35) (v := ?v11) rfl rfl (by kernel_rfl) (by kernel_rfl) (by kernel_rfl) (fun _ _ _ h => h) rfl ?hy11 hH rfl ?rest11
      case hy11 => (intro W hW; obtain ⟨q0, q1⟩ := hW; go_simp; try with_reducible rfl)
      (try simp only [Act.put, List.setIfInBounds_toArray, List.set_cons_zero, List.set_cons_succ])
      refine callH (i := 11) { dst := some 36, op := Go.Op.buildSlice 40 1 #[(0, Go.Operand.tmp 35)], type := 40, pos := "ref.go:110", after := #[{ on := 10, ground := Go.Ground.data }], guard := none } (by kernel_rfl) rfl rfl (fun K hK => ?_)
      go_simp
      have hA : (wr.alloc (.cells #[.string (str y)] 9)).drew.cell? ⟨r, 0, none⟩ = some (.slice (some ⟨gb, 0, none⟩) n cb) ∧ (wr.alloc (.cells #[.string (str y)] 9)).drew.cell? ⟨va' k, m, none⟩ = some (.string (str y)) := ⟨(World.cell?_alloc_lt _ _ _ (show r < wr.heap.size by omega)).trans c0, (World.cell?_alloc_lt _ _ _ va_lt).trans cs⟩
      clear hH
      refine hK.out _ _ hA (fun hH => ?_)
      clear hK K
      (try simp only [Act.put, List.setIfInBounds_toArray, List.set_cons_zero, List.set_cons_succ])
      refine takeH (i := 12) (dst := some 37) (v := ?v12) rfl rfl (by kernel_rfl) (by kernel_rfl) (by kernel_rfl) (fun _ _ _ h => h) rfl ?hy12 hH rfl ?rest12
      case hy12 => (intro W hW; obtain ⟨q0, q1⟩ := hW; go_simp; try with_reducible rfl)
      (try simp only [Act.put, List.setIfInBounds_toArray, List.set_cons_zero, List.set_cons_succ])
      refine takeH (i := 13) (dst := some 38) (v := ?v13) rfl rfl (by kernel_rfl) (by kernel_rfl) (by kernel_rfl) (fun _ _ _ h => h) rfl ?hy13 hH rfl ?rest13
      case hy13 => (intro W hW; obtain ⟨q0, q1⟩ := hW; go_simp; try with_reducible rfl)
      (try simp only [Act.put, List.setIfInBounds_toArray, List.set_cons_zero, List.set_cons_succ])
      have cg1 : (wr.alloc (.cells #[.string (str y)] 9)).drew.cell? ⟨gb, k, none⟩ = some (.slice (some ⟨va' k, 0, none⟩) (m + 1) (vc' k)) := (World.cell?_alloc_lt _ _ _ (show gb < wr.heap.size by omega)).trans cg
      have fg1 : (wr.alloc (.cells #[.string (str y)] 9)).drew.frozen? ⟨gb, k, none⟩ = false := (HR.out.below (((Below.refl _ wr).alloc (Nat.le_refl _) _).drew)).fg k
      refine callH (i := 14) { dst := none, op := Go.Op.store 40 (Go.Operand.tmp 38) (Go.Operand.tmp 36), type := 0, pos := "ref.go:110", after := #[{ on := 13, ground := Go.Ground.data }, { on := 11, ground := Go.Ground.data }, { on := 0, ground := Go.Ground.phase }, { on := 1, ground := Go.Ground.phase }, { on := 2, ground := Go.Ground.phase }, { on := 3, ground := Go.Ground.phase }, { on := 4, ground := Go.Ground.phase }, { on := 5, ground := Go.Ground.phase }, { on := 6, ground := Go.Ground.phase }, { on := 7, ground := Go.Ground.phase }, { on := 8, ground := Go.Ground.phase }, { on := 9, ground := Go.Ground.phase }, { on := 10, ground := Go.Ground.phase }, { on := 11, ground := Go.Ground.phase }], guard := none } (by kernel_rfl) rfl rfl (fun K hK => ?_)
      go_simp
      have al : Below wr.heap.size wr (wr.alloc (.cells #[.string (str y)] 9)).drew := ((Below.refl _ wr).alloc (Nat.le_refl _) _).drew
      have R1 := HR.out.below al
      have hz1 := al.size
      have hz2 : (wr.alloc (.cells #[.string (str y)] 9)).drew.heap.size = wr.heap.size + 1 := by show (wr.heap.push _).size = _; simp
      have R2 := HS.out _ R1 wr.heap.size (by omega) (by omega) (by omega) (by
        exact (cell_of_row (wr.alloc (.cells #[.string (str y)] 9)) wr.heap.size 0 #[.string (str y)] 9 (0, 0) (heap_alloc_new wr _)).trans rfl)
      have F1 : Fr (RG r gb) w ((wr.alloc (.cells #[.string (str y)] 9)).drew.setCell ⟨gb, k, none⟩ (.slice (some ⟨wr.heap.size, 0, none⟩) 1 1)) := (HF.out.trans (Fr.of_below al)).setCell gb k _ (.inr rfl)
      have hB : ((wr.alloc (.cells #[.string (str y)] 9)).drew.setCell ⟨gb, k, none⟩ (.slice (some ⟨wr.heap.size, 0, none⟩) 1 1)).cell? ⟨r, 0, none⟩ = some (.slice (some ⟨gb, 0, none⟩) n cb) ∧ ((wr.alloc (.cells #[.string (str y)] 9)).drew.setCell ⟨gb, k, none⟩ (.slice (some ⟨wr.heap.size, 0, none⟩) 1 1)).cell? ⟨va' k, m, none⟩ = some (.string (str y)) := ⟨(World.cell?_setCell_other _ _ _ _ (by intro e; exact HR.out.rg (congrArg Addr.block e).symm)).trans hA.1, (World.cell?_setCell_other _ _ _ _ (by intro e; exact hvne.2 (congrArg Addr.block e).symm)).trans hA.2⟩
      clear hH
      refine hK.out _ _ hB (fun hH => ?_)
      clear hK K
      (try simp only [Act.put, List.setIfInBounds_toArray, List.set_cons_zero, List.set_cons_succ])
      refine wpAnyH_done (by kernel_rfl) ?_ _
      clear hH
      have HR2 : Hid (RefW ((wr.alloc (.cells #[.string (str y)] 9)).drew.setCell ⟨gb, k, none⟩ (.slice (some ⟨wr.heap.size, 0, none⟩) 1 1)) base r n held (goesL held left) (verK ver (k + 1)) gb cb (updN va' k wr.heap.size) (updN vc' k 1)) := by
        have e := verK_step ver k
        rw [HY.out] at e
        show RefW _ _ _ _ _ _ _ _ _ _ _
        rw [← e]; exact R2
      have HV2 : Hid (VA w n va (updN va' k wr.heap.size)) := by
        intro i hi
        unfold updN
        by_cases e : i = k
        · rw [if_pos e]; exact .inr hszr
        · rw [if_neg e]; exact HV.out i hi
      have HF2 : Hid _ := F1
      clear R1 R2 F1 hA hB cg1 fg1 hz1 hz2 al HR HV HF HS hS0 c0 cs cg
      go_wp2_with fail
      go_round
      case rel => exact ⟨k + 1, _, _, by omega, by go_num, HR2, HV2, HF2⟩
      case measure => simp [intOf]; omega
    · obtain rfl : k = n := by omega
      have HR' : Hid (RefW wr base r k held (goesL held left) (fun i => if i < k then [lv (ver i)] else ver i) gb cb va' vc') := HR.out
      clear HR
      go_wp2_with fail
      go_ret
      exact ⟨rfl, ⟨va', ⟨vc', HR'.out⟩, HV.out⟩, HF.out⟩
end
end Go.Proofs.YtadadidccbhopaaGreat
/- The document's disk: Write. -/
namespace Go.Proofs.YtadadidccbhopaaGreat
open Go.RowKit
set_option maxRecDepth 100000
theorem Tryz.infoS : (Tryz.prog.info? 9).map (fun i => (i.zero, i.size, i.bytes)) = some (some (.string ⟨#[]⟩), 1, 16) := by kernel_rfl
def strs (l : List (List UInt8)) : List Value := l.map fun x => .string (str x)
theorem strs_length (l : List (List UInt8)) : (strs l).length = l.length := by simp [strs]
theorem strs_one (l : List (List UInt8)) : ∀ v ∈ strs l, v.oneCell' = true := by
  intro v hv; simp only [strs, List.mem_map] at hv; obtain ⟨b, _, rfl⟩ := hv; rfl
/-- A list of strings of the call's own. -/
def OwnS (w : World) (base : Nat) (v : Value) (l : List (List UInt8)) : Prop := w.ownsRow base 9 1 v l.length (strs l)
theorem OwnS.nil (w : World) (base : Nat) : OwnS w base (.slice none 0 0) [] := World.ownsRow_nil _ _ _ _
/-- From an address on lie these strings. -/
def SrcS (w : World) (b off : Nat) (l : List (List UInt8)) : Prop := ∀ j, (h : j < l.length) → w.cell? ⟨b, off + j, none⟩ = some (.string (str l[j]))
theorem append_str {w : World} {base b off : Nat} {v : Value} {l m : List (List UInt8)} (ty : TypeId) (c : Nat) (h : OwnS w base v l) (hs : SrcS w b off m) (hbase : base ≤ w.heap.size) (hb : l.length + m.length ≤ 2000000) :
    ∃ v' w', (Builtin.append_ #[40, 40] ty #[v, .slice (some ⟨b, off, none⟩) m.length c]).run Tryz.prog w = .ok v' w' ∧ OwnS w' base v' (l ++ m) ∧ Below base w w' := by
  obtain ⟨i0, hi, hz0, hz1, hz2⟩ := info_parts Tryz.infoS
  have hcs : ∀ j u, (strs m)[j]? = some u → w.cell? ((⟨b, off, none⟩ : Addr).add j) = some u := by
    intro j u hj
    have hjl : j < m.length := by
      rcases Nat.lt_or_ge j m.length with h | h
      · exact h
      · rw [List.getElem?_eq_none (by rw [strs_length]; exact h)] at hj; cases hj
    rw [addr_add, hs j hjl, ← hj]; simp [strs, hjl]
  obtain ⟨v', w', hr, hown, hgr, _⟩ := run_append_own (P := Tryz.prog) w base 40 ty 9 i0 _ 1 16 Tryz.underlying40 hi hz0 hz1 hz2 rfl (by decide) v l.length (strs l) h ⟨b, off, none⟩ m.length c (strs m) (by simp [strs_length]) hcs (strs_one _) (by unfold maxLen; omega) (by omega) hbase
  refine ⟨v', w', hr, ?_, (Below.refl _ _).grown hgr hbase (fun k hk => (World.ownsRow.lt h k hk).1)⟩
  unfold OwnS
  rw [List.length_append, show strs (l ++ m) = strs l ++ strs m by simp [strs]]
  exact hown
theorem wpList_append_str {w : World} {ops : Array Oper} {rest : List Oper} {o : Oper} {a : Act} {Q : Exit → Act → World → Prop} (hgd : o.guard = none) (s x : Operand)
    (ho : o.op = .call { callee := .builtin .append, args := #[s, x], argTypes := #[40, 40] }) (base : Nat) (l m : List (List UInt8)) (v : Value) (hs : a.eval s = v) (b off n c : Nat) (hx : a.eval x = .slice (some ⟨b, off, none⟩) n c) (hn : n = m.length)
    (hown : OwnS w base v l) (hsrc : SrcS w b off m) (hbase : base ≤ w.heap.size) (hb : l.length + m.length ≤ 2000000)
    (h : ∀ v' w', OwnS w' base v' (l ++ m) → Below base w w' → wpList Tryz.prog ops Q rest (a.put o.dst v') w') : wpList Tryz.prog ops Q (o :: rest) a w := by
  subst hn
  refine wpList_plain hgd fun K hK => ?_
  obtain ⟨v', w', hrun, h1, h2⟩ := append_str o.type c hown hsrc hbase hb
  unfold Oper.wp execOp
  simp only [ho, resolve, invoke, builtin]
  simp [hs, hx, hrun, Result.andThen]
  exact hK _ _ (h v' w' h1 h2)
theorem wp_append_str {w : World} {o : Oper} {a : Act} {K : Act → World → Prop} {Q : Exit → Act → World → Prop} (s x : Operand)
    (ho : o.op = .call { callee := .builtin .append, args := #[s, x], argTypes := #[40, 40] }) (base : Nat) (l m : List (List UInt8)) (v : Value) (hs : a.eval s = v) (b off n c : Nat) (hx : a.eval x = .slice (some ⟨b, off, none⟩) n c) (hn : n = m.length)
    (hown : OwnS w base v l) (hsrc : SrcS w b off m) (hbase : base ≤ w.heap.size) (hb : l.length + m.length ≤ 2000000)
    (h : ∀ v' w', OwnS w' base v' (l ++ m) → Below base w w' → K (a.put o.dst v') w') : o.wp Tryz.prog a w K Q := by
  subst hn
  obtain ⟨v', w', hrun, h1, h2⟩ := append_str o.type c hown hsrc hbase hb
  unfold Oper.wp execOp
  simp only [ho, resolve, invoke, builtin]
  simp [hs, hx, hrun, Result.andThen]
  exact h v' w' h1 h2
theorem OwnS.at0 {w : World} {base : Nat} {v : Value} {l : List (List UInt8)} (h : OwnS w base v l) (hl : 0 < l.length) : ∃ g c, v = .slice (some ⟨g, 0, none⟩) l.length c ∧ base ≤ g ∧ g < w.heap.size ∧ l.length ≤ c ∧ (c : Int) ≤ 9223372036854775807 ∧ SrcS w g 0 l := by
  obtain ⟨h1, h2⟩ := h
  rcases h2 with ⟨rfl, h3⟩ | ⟨g, cap, cur, rfl, hg, hh, hn, hm, hs, hx⟩
  · omega
  · refine ⟨g, cap, rfl, hg, (Array.getElem?_eq_some_iff.1 hh).1, hn, by unfold maxLen at hm; omega, fun j hj => ?_⟩
    rw [Nat.zero_add, cell_of_row w g j _ _ _ hh]
    have e : (cur.toList.take (l.length * 1))[j]? = (strs l)[j]? := by rw [hx]
    rw [List.getElem?_take] at e
    simp only [Nat.mul_one, hj, if_true] at e
    simpa [strs, hj] using e
theorem OwnS.grow {w w' : World} {base : Nat} {v : Value} {l : List (List UInt8)} (h : OwnS w base v l) (hb : Below w.heap.size w w') : OwnS w' base v l := owns_below h hb (Nat.le_refl _)
/-- What the last region of Write reads. -/
structure XS (W : World) (r gb n cb bb off : Nat) (d : List UInt8) : Prop where
  c0 : W.cell? ⟨r, 0, none⟩ = some (.slice (some ⟨gb, 0, none⟩) n cb)
  s : Src W (some ⟨bb, off, none⟩) d
section
variable {w : World} {base r n : Nat} {held : Bool} {left : Int} {ver : Nat → List (List UInt8)} {gb cb : Nat} {va vc : Nat → Nat}
attribute [local go_sem] wrapI
set_option maxHeartbeats 4000000 in
theorem rwrite_go (h : RefW w base r n held left ver gb cb va vc) (hl : 0 ≤ left ∧ left ≤ 9223372036854775807) (hg : goesB held left = true) (i : Nat) (hi : i < n) (hwn : (ver i).length < 1000000) (d : List UInt8) (hd : d.length = 256) (sp : Option Addr) (cap : Nat) (hs : Src w sp d) (hsr : ∀ b off, sp = some ⟨b, off, none⟩ → b ≠ r ∧ b ≠ gb) :
    Calls Tryz.prog 110 #[.pointer (some ⟨r, 0, none⟩), .int .i64 (i : Int), .slice sp 256 cap] w fun e w' => e = .returned (.int .i64 0) ∧ (∃ g, (∃ c, RefW w' base r n held (goesL held left) (upd ver i (ver i ++ [d])) gb cb (updN va i g) (updN vc i c)) ∧ w.heap.size ≤ g) ∧ Fr (RG r gb) w w' := by
  have TH := there_in h.at' i hi
  have GO := rgoes_any h hl
  rw [hg] at GO
  have hi' : (i : Int) < n := by omega
  have hrl := h.rl
  have hgl := h.at'.gl
  obtain ⟨bb, off, rfl, hbb, hcd⟩ := hs.at' (by omega)
  have HSR : Hid (bb ≠ r ∧ bb ≠ gb) := hsr bb off rfl
  have HS : Hid (Src w (some ⟨bb, off, none⟩) d) := hs
  clear h hs hsr hcd
  go_enter Tryz.func110, Tryz.ntmps110
  go_wp2_with fail
  refine TH.mono ?_
  rintro e w1 ⟨rfl, rfl⟩
  clear TH
  go_wp2_with fail
  refine GO.mono ?_
  rintro e w2 ⟨rfl, h2, f2⟩
  have HF2 : Hid (Fr (RG r gb) w1 w2) := f2.mono (fun k _ h => .inl h)
  have H2 : Hid _ := h2
  have c0 := h2.at'.c0
  have hrow := h2.at'.row i hi
  obtain ⟨cg, va_lt, hv1, hv2, hv3, hv4⟩ := hrow
  have hsv : SrcS w2 (va i) 0 (ver i) := fun j hj => by rw [Nat.zero_add]; exact h2.at'.vers i hi j hj
  have HSV : Hid (SrcS w2 (va i) 0 (ver i)) := hsv
  have HS2 : Hid (Src w2 (some ⟨bb, off, none⟩) d) := by
    rcases HS.out with h | ⟨b', off', e, hb1, hb2⟩
    · rw [h] at hd; simp at hd
    · cases e
      exact .inr ⟨bb, off, rfl, by have := f2.size; omega, fun j hj => (fr_cell f2 (a := ⟨bb, off + j, none⟩) hbb (fun e => HSR.out.1 e)).trans (hb2 j hj)⟩
  have hz2 := f2.size
  have HVL : Hid (∀ k, Rk r gb n va k → ¬ w2.heap.size ≤ k) := by
    rintro k (rfl | rfl | ⟨j, hj, rfl⟩)
    · have := h2.rl; omega
    · have := h2.at'.gl; omega
    · have := (h2.at'.row j hj).2.1; omega
  clear GO h2 f2 hsv HS
  go_upto_region 9 with (at_builtin; refine wpList_append_str rfl (.tmp 18) (.tmp 26) rfl w2.heap.size [] (ver i) _ rfl (va i) 0 _ _ rfl rfl (OwnS.nil _ _) HSV.out (Nat.le_refl _) (by simp; omega) ?_; intro v3 w3 o3 b3)
  rw [List.nil_append] at o3
  have H3 : Hid (RefW w3 base r n held (goesL held left) ver gb cb va vc) := H2.out.below b3
  have HF3 : Hid (Fr (RG r gb) w1 w3) := HF2.out.trans (Fr.of_below b3)
  have HS3 : Hid (Src w3 (some ⟨bb, off, none⟩) d) := HS2.out.below b3 (Nat.le_refl _)
  have HO3 : Hid (OwnS w3 w2.heap.size v3 (ver i)) := o3
  have hz3 := b3.size
  clear c0 cg o3 b3 HSV HF2 HS2 H2
  obtain ⟨g3, k3, rfl, _⟩ := HO3.out.at0 (by omega)
  have hS0 : XS w3.drew r gb n cb bb off d := ⟨H3.out.at'.c0, HS3.out⟩
  refine wp_region_held_drew (S := (fun W => XS W r gb n cb bb off d)) (by kernel_rfl) hS0 (fun hH => ?_)
  refine takeH (i := 0) (dst := some 28) (v := ?v1) rfl rfl (by kernel_rfl) (by kernel_rfl) (by kernel_rfl) (fun _ _ _ h => h) rfl ?hy1 hH rfl ?rest1
  case hy1 => (intro W hW; have q0 := hW.c0; have k1 := conv_str hW.s 256 cap hd.symm; clear hW; go_simp; try with_reducible rfl)
  (try simp only [Act.put, List.setIfInBounds_toArray, List.set_cons_zero, List.set_cons_succ])
  refine takeH (i := 1) (dst := some 29) (v := ?v2) rfl rfl (by kernel_rfl) (by kernel_rfl) (by kernel_rfl) (fun _ _ _ h => h) rfl ?hy2 hH rfl ?rest2
  case hy2 => (intro W hW; have q0 := hW.c0; have k1 := conv_str hW.s 256 cap hd.symm; clear hW; go_simp; try with_reducible rfl)
  (try simp only [Act.put, List.setIfInBounds_toArray, List.set_cons_zero, List.set_cons_succ])
  refine takeH (i := 2) (dst := some 30) (v := ?v3) rfl rfl (by kernel_rfl) (by kernel_rfl) (by kernel_rfl) (fun _ _ _ h => h) rfl ?hy3 hH rfl ?rest3
  case hy3 => (intro W hW; have q0 := hW.c0; have k1 := conv_str hW.s 256 cap hd.symm; clear hW; go_simp; try with_reducible rfl)
  (try simp only [Act.put, List.setIfInBounds_toArray, List.set_cons_zero, List.set_cons_succ])
  refine takeH (i := 3) (dst := some 31) (v := ?v4) rfl rfl (by kernel_rfl) (by kernel_rfl) (by kernel_rfl) (fun _ _ _ h => h) rfl ?hy4 hH rfl ?rest4
  case hy4 => (intro W hW; have q0 := hW.c0; have k1 := conv_str hW.s 256 cap hd.symm; clear hW; go_simp; try with_reducible rfl)
  (try simp only [Act.put, List.setIfInBounds_toArray, List.set_cons_zero, List.set_cons_succ])
  refine takeH (i := 4) (dst := some 32) (v := ?v5) rfl rfl (by kernel_rfl) (by kernel_rfl) (by kernel_rfl) (fun _ _ _ h => h) rfl ?hy5 hH rfl ?rest5
  case hy5 => (intro W hW; have q0 := hW.c0; have k1 := conv_str hW.s 256 cap hd.symm; clear hW; go_simp; try with_reducible rfl)
  (try simp only [Act.put, List.setIfInBounds_toArray, List.set_cons_zero, List.set_cons_succ])
  refine takeH (i := 5) (dst := some 33) (v := ?v6) rfl rfl (by kernel_rfl) (by kernel_rfl) (by kernel_rfl) (fun _ _ _ h => h) rfl ?hy6 hH rfl ?rest6
  case hy6 => (intro W hW; have q0 := hW.c0; have k1 := conv_str hW.s 256 cap hd.symm; clear hW; go_simp; try with_reducible rfl)
  (try simp only [Act.put, List.setIfInBounds_toArray, List.set_cons_zero, List.set_cons_succ])
  refine takeH (i := 6) (dst := some 34) (v := ?v7) rfl rfl (by kernel_rfl) (by kernel_rfl) (by kernel_rfl) (fun _ _ _ h => h) rfl ?hy7 hH rfl ?rest7
  case hy7 => (intro W hW; have q0 := hW.c0; have k1 := conv_str hW.s 256 cap hd.symm; clear hW; go_simp; try with_reducible rfl)
  (try simp only [Act.put, List.setIfInBounds_toArray, List.set_cons_zero, List.set_cons_succ])
  refine takeH (i := 7) (dst := some 35) (v := ?v8) rfl rfl (by kernel_rfl) (by kernel_rfl) (by kernel_rfl) (fun _ _ _ h => h) rfl ?hy8 hH rfl ?rest8
  case hy8 => (intro W hW; have q0 := hW.c0; have k1 := conv_str hW.s 256 cap hd.symm; clear hW; go_simp; try with_reducible rfl)
  (try simp only [Act.put, List.setIfInBounds_toArray, List.set_cons_zero, List.set_cons_succ])
  refine callH (i := 8) { dst := some 36, op := Go.Op.buildSlice 40 1 #[(0, Go.Operand.tmp 35)], type := 40, pos := "ref.go:99", after := #[{ on := 7, ground := Go.Ground.data }], guard := none } (by kernel_rfl) rfl rfl (fun K hK => ?_)
  go_simp
  have al : Below w3.heap.size w3 (w3.alloc (.cells #[.string (str d)] 9)).drew := ((Below.refl _ w3).alloc (Nat.le_refl _) _).drew
  have X4 : XS (w3.alloc (.cells #[.string (str d)] 9)).drew r gb n cb bb off d := ⟨(H3.out.below al).at'.c0, HS3.out.below al (Nat.le_refl _)⟩
  clear hH
  refine hK.out _ _ X4 (fun hH => ?_)
  clear hK K
  (try simp only [Act.put, List.setIfInBounds_toArray, List.set_cons_zero, List.set_cons_succ])
  refine callH (i := 9) { dst := some 37, op := Go.Op.call { callee := Go.Callee.builtin Go.Builtin.append, args := #[Go.Operand.tmp 33, Go.Operand.tmp 36], argTypes := #[40, 40] }, type := 40, pos := "ref.go:99", after := #[{ on := 5, ground := Go.Ground.data }, { on := 8, ground := Go.Ground.data }], guard := none } (by kernel_rfl) rfl rfl (fun K hK => ?_)
  rw [if_pos (by rfl)]
  refine wp_append_str _ _ rfl w2.heap.size (ver i) [d] (.slice (some ⟨g3, 0, none⟩) (ver i).length k3) rfl w3.heap.size 0 1 1 rfl rfl (HO3.out.grow al) (fun j hj => ?sr) (by have := al.size; omega) (by simp; omega) ?_
  case sr =>
    have : j = 0 := by simp at hj; omega
    subst this
    exact (cell_of_row (w3.alloc (.cells #[.string (str d)] 9)) w3.heap.size 0 #[.string (str d)] 9 (0, 0) (heap_alloc_new w3 _)).trans rfl
  intro v5 w5 o5 b5
  have hz4 := al.size
  have A4 : RefW (w3.alloc (.cells #[.string (str d)] 9)).drew base r n held (goesL held left) ver gb cb va vc := H3.out.below al
  have R5 : RefW w5 base r n held (goesL held left) ver gb cb va vc := A4.keep (S := fun k => w2.heap.size ≤ k) ⟨b5.size, fun k _ hS => b5.block k (by omega), b5.os, b5.tape, b5.output⟩ HVL.out
  have F5 : Fr (RG r gb) w1 w5 := ⟨by have := b5.size; have := HF3.out.size; omega, fun k hk hS => (b5.block k (by omega)).trans ((HF3.out.trans (Fr.of_below al)).blk k hk hS), b5.os.trans (HF3.out.trans (Fr.of_below al)).os, b5.tape.trans (HF3.out.trans (Fr.of_below al)).tape, b5.output.trans (HF3.out.trans (Fr.of_below al)).output⟩
  have X5 : XS w5 r gb n cb bb off d := ⟨R5.at'.c0, by
    rcases X4.s with h | ⟨b', off', e, hb1, hb2⟩
    · exact .inl h
    · cases e
      exact .inr ⟨bb, off, rfl, by have := b5.size; omega, fun j hj => (b5.cell (p := ⟨bb, off + j, none⟩) (show bb < w2.heap.size by omega)).trans (hb2 j hj)⟩⟩
  obtain ⟨g5, k5, e5, hg5, l5, hk5, hk6, s5⟩ := o5.at0 (by simp)
  rw [List.length_append, List.length_singleton] at e5 hk5
  subst e5
  clear al A4 b5 o5

  clear hH
  refine hK.out _ _ X5 (fun hH => ?_)
  clear hK K
  (try simp only [Act.put, List.setIfInBounds_toArray, List.set_cons_zero, List.set_cons_succ])
  refine takeH (i := 10) (dst := some 38) (v := ?v9) rfl rfl (by kernel_rfl) (by kernel_rfl) (by kernel_rfl) (fun _ _ _ h => h) rfl ?hy9 hH rfl ?rest9
  case hy9 => (intro W hW; have q0 := hW.c0; have k1 := conv_str hW.s 256 cap hd.symm; clear hW; go_simp; try with_reducible rfl)
  (try simp only [Act.put, List.setIfInBounds_toArray, List.set_cons_zero, List.set_cons_succ])
  refine takeH (i := 11) (dst := some 39) (v := ?v10) rfl rfl (by kernel_rfl) (by kernel_rfl) (by kernel_rfl) (fun _ _ _ h => h) rfl ?hy10 hH rfl ?rest10
  case hy10 => (intro W hW; have q0 := hW.c0; have k1 := conv_str hW.s 256 cap hd.symm; clear hW; go_simp; try with_reducible rfl)
  (try simp only [Act.put, List.setIfInBounds_toArray, List.set_cons_zero, List.set_cons_succ])
  have cg5 := (R5.at'.row i hi).1
  have fg5 := R5.fg i
  refine callH (i := 12) { dst := none, op := Go.Op.store 40 (Go.Operand.tmp 39) (Go.Operand.tmp 37), type := 0, pos := "ref.go:99", after := #[{ on := 11, ground := Go.Ground.data }, { on := 9, ground := Go.Ground.data }, { on := 9, ground := Go.Ground.chain }, { on := 0, ground := Go.Ground.phase }, { on := 1, ground := Go.Ground.phase }, { on := 2, ground := Go.Ground.phase }, { on := 3, ground := Go.Ground.phase }, { on := 4, ground := Go.Ground.phase }, { on := 5, ground := Go.Ground.phase }, { on := 6, ground := Go.Ground.phase }, { on := 7, ground := Go.Ground.phase }, { on := 8, ground := Go.Ground.phase }, { on := 9, ground := Go.Ground.phase }], guard := none } (by kernel_rfl) rfl rfl (fun K hK => ?_)
  go_simp
  have R6 := R5.setV i hi (ver i ++ [d]) g5 k5 (by simp; omega) l5 (by omega) (by omega) (fun j hj => by have := s5 j hj; rw [Nat.zero_add] at this; exact this)
  rw [List.length_append, List.length_singleton] at R6
  have F6 : Fr (RG r gb) w1 (w5.setCell ⟨gb, i, none⟩ (.slice (some ⟨g5, 0, none⟩) ((ver i).length + 1) k5)) := F5.setCell gb i _ (.inr rfl)
  have X6 : XS (w5.setCell ⟨gb, i, none⟩ (.slice (some ⟨g5, 0, none⟩) ((ver i).length + 1) k5)) r gb n cb bb off d := ⟨R6.at'.c0, by
    rcases X5.s with h | ⟨b', off', e, hb1, hb2⟩
    · exact .inl h
    · cases e
      exact .inr ⟨bb, off, rfl, by simpa [World.setCell] using hb1, fun j hj => (World.cell?_setCell_other _ _ _ _ (by intro e; exact HSR.out.2 (congrArg Addr.block e).symm)).trans (hb2 j hj)⟩⟩
  clear hH
  refine hK.out _ _ X6 (fun hH => ?_)
  clear hK K
  (try simp only [Act.put, List.setIfInBounds_toArray, List.set_cons_zero, List.set_cons_succ])
  refine wpAnyH_done (by kernel_rfl) ?_ _
  clear hH
  have HR6 : Hid _ := R6
  have HF6 : Hid _ := F6
  have hge : w1.heap.size ≤ g5 := by omega
  clear R6 F6 X6 X5 R5 F5 cg5 fg5 s5 hS0 X4
  go_wp2_with fail
  go_ret
  exact ⟨rfl, ⟨g5, ⟨k5, HR6.out⟩, hge⟩, HF6.out⟩
end
end Go.Proofs.YtadadidccbhopaaGreat
