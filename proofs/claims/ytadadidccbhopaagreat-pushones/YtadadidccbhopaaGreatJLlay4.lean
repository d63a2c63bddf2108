/- leveelaw12.lay: changes in both stores. -/
import Derived.Test.YtadadidccbhopaaGreatJPk123
import Derived.Deep.RegionWith
import Derived.Deep.RegionLaw
import Derived.Test.YtadadidccbhopaaGreatJRpat7
import Derived.Deep.CutBlock
import Derived.Deep.DeepCutAuto
import Derived.Test.YtadadidccbhopaaGreatJLone6
namespace Go.Proofs.YtadadidccbhopaaGreat
open Go.RowKit
set_option maxRecDepth 100000
theorem ownL_form3 {w : World} {base : Nat} {v : Value} {l : List Int} (h : OwnL w base v l) : ∃ ao cap, v = .slice ao l.length cap ∧ SrcI w ao l ∧ ((ao = none ∧ l = []) ∨ ∃ b o, ao = some ⟨b, o, none⟩) ∧ (∀ b o, ao = some ⟨b, o, none⟩ → base ≤ b ∧ b < w.heap.size) := by
  obtain ⟨ao, cap, rfl, hs, _, _, _⟩ := h.form
  refine ⟨ao, cap, rfl, hs, ?_, fun b o e => h.lt b (by rw [e]; rfl)⟩
  obtain ⟨h1, h2⟩ := h
  rcases h2 with ⟨e, h3⟩ | ⟨g, cap, cur, e, _⟩
  · simp only [Value.slice.injEq] at e
    exact .inl ⟨e.1, List.eq_nil_of_length_eq_zero h3⟩
  · simp only [Value.slice.injEq] at e
    exact .inr ⟨_, _, e.1⟩
/-- A change in a box of its own. -/
def Bx (w : World) (g : Nat) (c : Chg) : Prop := w.heap[g]? = some (.cells #[.int .i64 c.B, .int .i64 c.F, .slice c.dp c.D.length c.dc, .slice c.ap c.A.length c.ac, .int .i64 c.W, .bool c.R] 157 (0, 0))
theorem Bx.fr {w w' : World} {g : Nat} {c : Chg} (h : Bx w g c) {S : Nat → Prop} (hf : Fr S w w') (hS : ¬ S g) : Bx w' g c := (hf.blk g (Array.getElem?_eq_some_iff.1 h).1 hS).trans h
theorem Bx.cells {w : World} {g : Nat} {c : Chg} (h : Bx w g c) : w.cell? ⟨g, 0, none⟩ = some (.int .i64 c.B) ∧ w.cell? ⟨g, 1, none⟩ = some (.int .i64 c.F) ∧ w.cell? ⟨g, 2, none⟩ = some (.slice c.dp c.D.length c.dc) ∧ w.cell? ⟨g, 4, none⟩ = some (.int .i64 c.W) ∧ w.cell? ⟨g, 5, none⟩ = some (.bool c.R) :=
  ⟨(cell_of_row _ _ _ _ _ _ h).trans rfl, (cell_of_row _ _ _ _ _ _ h).trans rfl, (cell_of_row _ _ _ _ _ _ h).trans rfl, (cell_of_row _ _ _ _ _ _ h).trans rfl, (cell_of_row _ _ _ _ _ _ h).trans rfl⟩
theorem tmod_bd {a b : Int} (hb : 0 < b) : -b < a.tmod b ∧ a.tmod b < b := by
  have h1 := Int.tmod_lt_of_pos a hb
  have h2 := Int.tmod_lt_of_pos (-a) hb
  rw [Int.neg_tmod] at h2
  omega
theorem Fr.and {S T : Nat → Prop} {a b c : World} (h : Fr S a b) (k : Fr T b c) (hT : ∀ i, i < a.heap.size → T i → S i) : Fr S a c :=
  ⟨by have := h.size; have := k.size; omega, fun j hj hS => (k.blk j (by have := h.size; omega) fun t => hS (hT j hj t)).trans (h.blk j hj hS), k.os.trans h.os, k.tape.trans h.tape, k.output.trans h.output⟩
/-- From both stores as they were to both as they are: nothing else has changed. -/
structure Lf (w w' : World) (s : PSt) (D : Nat → Prop) (s' : PSt) (D' : Nat → Prop) : Prop where
  fr : Fr (fun k => Ak s k ∨ D k) w w'
  sub : ∀ k, Ak s' k ∨ D' k → (Ak s k ∨ D k) ∨ w.heap.size ≤ k
theorem Lf.refl (w : World) (s : PSt) (D : Nat → Prop) : Lf w w s D s D := ⟨Fr.refl _ _, fun _ h => .inl h⟩
theorem Lf.up {w w' w'' : World} {s s' : PSt} {D D' : Nat → Prop} (h : Lf w w' s D s' D') (hb : Below w'.heap.size w' w'') : Lf w w'' s D s' D' := ⟨h.fr.trans (Fr.of_below hb), h.sub⟩
theorem Lf.next {w g w1 w2 : World} {s s1 s2 : PSt} {D D1 D2 : Nat → Prop} (h : Lf w g s D s1 D1) (hf1 : Fr (Ak s1) g w1) (hf2 : Fr D1 w1 w2) (hs : ∀ k, Ak s2 k ∨ D2 k → (Ak s1 k ∨ D1 k) ∨ g.heap.size ≤ k) : Lf w w2 s D s2 D2 := by
  refine ⟨(h.fr.and hf1 fun i hi t => (h.sub i (.inl t)).resolve_right (by omega)).and hf2 fun i hi t => (h.sub i (.inr t)).resolve_right (by omega), fun k hk => ?_⟩
  rcases hs k hk with h1 | h1
  · exact h.sub k h1
  · exact .inr (by have := h.fr.size; omega)
end Go.Proofs.YtadadidccbhopaaGreat
/- Patch of both stores: unknown numbers; the document's bytes lie elsewhere. -/
namespace Go.Proofs.YtadadidccbhopaaGreat
open Go.RowKit
set_option maxRecDepth 100000
section
variable {w : World} {q d gB cB : Nat} {B : List (List UInt8)} {ao : Option Addr} {ca : Nat} {L : List RCh} {last : Nat}
set_option maxHeartbeats 4000000 in
theorem rspatch_arg (h : RAt w q d (.slice (some ⟨gB, 0, none⟩) B.length cB) ao ca L last) (hB : BAt w gB cB B) (n fr : Nat) (hn : n < B.length) (m : Nat) (sp : Option Addr) (dc : Nat) (hd1 : 1 ≤ m) (hf : fr + m ≤ 256) (after : List Int) (asp : Option Addr) (ac : Nat) (has : SrcI w asp after) (hal : after.length ≤ 1000) (hun : ∃ i ∈ after, i < 1 ∨ (last : Int) < i) :
    Calls Tryz.prog 65 #[.pointer (some ⟨q, 0, none⟩), .int .i64 (n : Int), .int .i64 (fr : Int), .slice sp m dc, .slice asp after.length ac] w fun e w' => e = .returned (.tuple #[.int .i64 0, .int .i64 1]) ∧ Below w.heap.size w w' := by
  have TH := rthere_any h hB (n : Int)
  rw [decide_eq_true (by omega), decide_eq_true (by omega)] at TH
  have hql : q < w.heap.size := (Array.getElem?_eq_some_iff.1 h.at').1
  have HAS : Hid (SrcI w asp after ∧ ∃ i ∈ after, i < 1 ∨ (last : Int) < i) := ⟨has, hun⟩
  have q3 := h.c3
  clear has hun h hB
  obtain ⟨ma, hma⟩ : ∃ ma, ma = after.length := ⟨_, rfl⟩
  have HMA : Hid (ma = after.length) := hma
  rw [← hma] at hal ⊢
  clear hma
  have hf' : (fr : Int) ≤ 256 - (m : Int) := by omega
  have hm0 : ¬ (m : Int) = 0 := by omega
  have hm0b : ((m : Int) == 0) = false := by simpa using hm0
  have hfr2 : ¬ (256 : Int) < (fr : Int) := by omega
  have hfr3 : ¬ (256 : Int) - (fr : Int) < (m : Int) := by omega
  go_enter Tryz.func65, Tryz.ntmps65
  go_wp2_with (first | (go_at_call 114; refine TH.mono ?_; rintro r w1 ⟨rfl, hw1⟩; obtain rfl : w = w1 := hw1.symm))
  clear TH
  go_loopg [12] 1000 (fun gg t12 W => ∃ (gw : World) (k : Nat), gw = W ∧ k ≤ ma ∧ ma - k ≤ gg ∧ t12 = .int .i64 k ∧ Hid (Below w.heap.size w gw ∧ ∀ j, j < k → 1 ≤ after.getD j 0 ∧ after.getD j 0 ≤ (last : Int)))
  case atStart => exact ⟨_, 0, rfl, by omega, by omega, rfl, Below.refl _ _, fun j hj => by omega⟩
  case round =>
    obtain ⟨gw, k, rfl, hk, hgk, rfl, HG⟩ := hrel
    have hkm : k < ma := by
      rcases Nat.lt_or_ge k ma with h | h
      · exact h
      · obtain ⟨i, hi, hb⟩ := HAS.out.2
        obtain ⟨j, hj, e⟩ := List.getElem_of_mem hi
        have h2 := HG.out.2 j (by have := HMA.out; omega)
        rw [List.getD_eq_getElem?_getD, List.getElem?_eq_getElem hj, Option.getD_some, e] at h2
        omega
    have hlt : (k : Int) < (ma : Int) := by omega
    obtain ⟨b, o, x, rfl, hx, hxe⟩ : ∃ b o x, asp = some ⟨b, o, none⟩ ∧ gw.cell? ⟨b, o + k, none⟩ = some (.int .i64 x) ∧ x = after.getD k 0 := by
      have hkl : k < after.length := by have := HMA.out; omega
      rcases HAS.out.1 with e | ⟨b, o, e, hl, hc⟩
      · rw [e] at hkl; cases hkl
      · exact ⟨b, o, _, e, (HG.out.1.cell (p := ⟨b, o + k, none⟩) hl).trans (hc k hkl), rfl⟩
    have q3g := (HG.out.1.cell (p := ⟨q, 3, none⟩) hql).trans q3
    have HXE : Hid (x = after.getD k 0) := hxe
    clear hxe
    by_cases hx1 : x < 1
    · go_upto_region 8 with fail
      go_quiet (fail)
      have HGN : Hid (Below w.heap.size w (gw.drewN nq)) := HG.out.1.trans ((belowN (Below.refl _ _) nq).mono HG.out.1.size)
      go_wp2_with fail
      go_ret2
      exact ⟨rfl, HGN.out⟩
    · by_cases hx2 : (last : Int) < x
      · go_upto_region 8 with fail
        go_quiet (fail)
        have HGN : Hid (Below w.heap.size w (gw.drewN nq)) := HG.out.1.trans ((belowN (Below.refl _ _) nq).mono HG.out.1.size)
        go_wp2_with fail
        go_ret2
        exact ⟨rfl, HGN.out⟩
      · go_upto_region 8 with fail
        go_quiet (fail)
        have HGN : Hid (Below w.heap.size w (gw.drewN nq)) := HG.out.1.trans ((belowN (Below.refl _ _) nq).mono HG.out.1.size)
        go_wp2_with fail
        go_roundg (ma - (k + 1))
        case measure => omega
        case rel =>
          refine ⟨_, k + 1, rfl, by omega, by omega, by go_num, HGN.out, fun j hj => ?_⟩
          by_cases e : j = k
          · rw [e, ← HXE.out]; omega
          · exact HG.out.2 j (by omega)
end
section
variable {N : Nat} {w0 w w' : World} {p dp ed q : Nat} {s s' : PSt} {ops ops' : Nat → List Int} {κ m last : Nat} {A : Nat → List Int} {L : List RCh} {D : Nat → Prop}
theorem rs_patch_arg (h : RS w q N m L last D) (n fr : Nat) (hn : n < N) (sp : Option Addr) (l dc : Nat) (hd1 : 1 ≤ l) (hf : fr + l ≤ 256) (after : List Int) (asp : Option Addr) (ac : Nat) (has : SrcI w asp after) (hal : after.length ≤ 1000) (hun : ∃ i ∈ after, i < 1 ∨ (last : Int) < i) :
    Calls Tryz.prog 65 #[.pointer (some ⟨q, 0, none⟩), .int .i64 (n : Int), .int .i64 (fr : Int), .slice sp l dc, .slice asp after.length ac] w fun e w' => e = .returned (.tuple #[.int .i64 0, .int .i64 1]) ∧ Below w.heap.size w w' := by
  obtain ⟨d, gB, cB, B, ao, ca, base, gb, cb, ver, va, vc, h⟩ := h
  exact rspatch_arg h.at' h.bs n fr (by rw [h.bl]; exact hn) l sp dc hd1 hf after asp ac has hal hun
/-- Both are changed. -/
theorem xb_patch2 (h : BX N w0 w p dp ed q s ops κ m A L D) (hκ : κ ≤ 900) (n fr : Int) (hfr : -9223372036854775808 ≤ fr ∧ fr ≤ 9223372036854775807) (data : List UInt8) (sp : Option Addr) (dc : Nat) (hds : Src w sp data) (hdl : (data.length : Int) ≤ 9223372036854775807) (hsp : 1 ≤ data.length → ∀ b o, sp = some ⟨b, o, none⟩ → ¬ Ak s b ∧ ¬ D b ∧ b < w.heap.size) (after : List Int) (asp : Option Addr) (ac : Nat) (has : SrcI w asp after) (hap : 1 ≤ after.length → ∀ b o, asp = some ⟨b, o, none⟩ → ¬ Ak s b ∧ ¬ D b ∧ b < w.heap.size) (hal : after.length ≤ 1000) (sp2 : Option Addr) (dc2 : Nat) (hds2 : Src w sp2 data) (hsp2 : 1 ≤ data.length → ∀ b o, sp2 = some ⟨b, o, none⟩ → ¬ Ak s b ∧ ¬ D b ∧ b < w.heap.size) :
    Calls Tryz.prog 28 #[.pointer (some ⟨p, 0, none⟩), .int .i64 n, .int .i64 fr, .slice sp data.length dc, .slice asp after.length ac] w fun r w1 => ∃ (id e : Int), r = .returned (.tuple #[.int .i64 id, .int .i64 e]) ∧ Fr (Ak s) w w1 ∧
      Calls Tryz.prog 65 #[.pointer (some ⟨q, 0, none⟩), .int .i64 n, .int .i64 fr, .slice sp2 data.length dc2, .slice asp after.length ac] w1 fun r2 w2 => r2 = .returned (.tuple #[.int .i64 id, .int .i64 e]) ∧ Fr D w1 w2 ∧ ∃ s' ops' D' L' A', BX N w0 w2 p dp ed q s' ops' (κ + 1) m A' L' D' ∧ s'.cnt ≤ s.cnt + 1 ∧ (∀ k, Ak s' k ∨ D' k → (Ak s k ∨ D k) ∨ w.heap.size ≤ k) := by
  have hp : s.p = p := h.gw.p
  have hN8 := h.gw.le8
  by_cases hout : n < 0 ∨ (N : Int) ≤ n
  · have PW := ppatch_out h.gw.pm n (by rw [h.gw.dn]; exact hout) fr (.slice sp data.length dc) (.slice asp after.length ac)
    rw [hp] at PW
    refine PW.mono ?_
    rintro r w1 ⟨rfl, rfl⟩
    refine ⟨0, 3, rfl, Fr.refl _ _, (rs_patch_out h.rs n hout fr _ _).mono ?_⟩
    rintro r w2 ⟨rfl, rfl⟩
    exact ⟨rfl, Fr.refl _ _, s, ops, D, L, A, h.more (by omega) (Nat.le_refl _), by omega, fun k hk => .inl hk⟩
  · obtain ⟨n, rfl⟩ : ∃ n' : Nat, n = (n' : Int) := ⟨n.toNat, by omega⟩
    have hn5 : n < N := by omega
    by_cases hbad : data.length = 0 ∨ fr < 0 ∨ 256 - (data.length : Int) < fr
    · have PW := ppatch_size h.gw.pm n (by rw [h.gw.dn]; exact hn5) fr hfr sp data.length dc hdl (.slice asp after.length ac) hbad
      rw [hp] at PW
      refine PW.mono ?_
      rintro r w1 ⟨rfl, rfl⟩
      refine ⟨0, 4, rfl, Fr.refl _ _, (rs_patch_size h.rs n hn5 fr hfr sp2 data.length dc2 hdl (by omega) _).mono ?_⟩
      rintro r w2 ⟨rfl, rfl⟩
      exact ⟨rfl, Fr.refl _ _, s, ops, D, L, A, h.more (by omega) (Nat.le_refl _), by omega, fun k hk => .inl hk⟩
    · obtain ⟨fr, rfl⟩ : ∃ f' : Nat, fr = (f' : Int) := ⟨fr.toNat, by omega⟩
      have hd1 : 1 ≤ data.length := by omega
      have hf : fr + data.length ≤ 256 := by omega
      by_cases hkn : ∀ i ∈ after, 1 ≤ i ∧ i ≤ (s.cnt : Int)
      case neg =>
        have hun : ∃ i ∈ after, i < 1 ∨ (s.cnt : Int) < i := Classical.byContradiction fun hc => hkn fun i hi => by
          by_cases h1 : i < 1
          · exact absurd ⟨i, hi, .inl h1⟩ hc
          · by_cases h2 : (s.cnt : Int) < i
            · exact absurd ⟨i, hi, .inr h2⟩ hc
            · omega
        have PW := ppatch_arg h.gw.pm n (by rw [h.gw.dn]; exact hn5) fr sp data.length dc hd1 hf asp ac after has hal hun
        rw [hp] at PW
        refine PW.mono ?_
        rintro r w1 ⟨rfl, nq, hw1⟩
        have hb1 : Below w.heap.size w w1 := by rw [hw1]; exact belowN (Below.refl _ _) nq
        have h1 := h.up hb1
        refine ⟨0, 1, rfl, Fr.of_below hb1, (rs_patch_arg h1.rs n fr hn5 sp2 data.length dc2 hd1 hf after asp ac (srcI_fr has (Fr.of_below (S := fun _ => False) hb1) (.inr fun _ _ _ h => h)) hal hun).mono ?_⟩
        rintro r w2 ⟨rfl, hb2⟩
        exact ⟨rfl, Fr.of_below hb2, s, ops, D, L, A, (h1.up hb2).more (by omega) (Nat.le_refl _), by omega, fun k hk => .inl hk⟩
      obtain ⟨gd, od, rfl, _, _⟩ := hds.at' hd1
      replace hsp := hsp hd1
      replace hsp2 := hsp2 hd1
      have h1 := hsp gd od rfl
      refine (gn_patch h.gw h.pa (by omega) n fr hn5 data gd od dc hds hd1 hf asp ac after has (fun h1 b o e => ⟨(hap h1 b o e).1, (hap h1 b o e).2.2⟩) h1.1 hal hkn).mono ?_
      rintro r w1 ⟨rfl, s', ops', c, hg, hpa, hS, hf1, hs⟩
      have hcnt := h.gw.pl.bd.1
      obtain ⟨ver, hrt, hver⟩ := h.rtOf hf1
      refine ⟨_, _, rfl, hf1, (rt_patch hrt (by have := h.len; omega) (by omega) n fr hn5 (by omega) data _ dc2 (src_fr hds2 hf1 (fun b o e => (hsp2 b o e).1)) hd1 hf after asp ac (srcI_fr has hf1 ((Classical.em (after = [])).elim (fun e0 => .inl e0) (fun e0 => .inr fun b o e => (hap (List.length_pos_iff.2 e0) b o e).1))) hal hkn (fun b o e => (hsp2 b o e).2.1) (fun h1 b o e => (hap h1 b o e).2.1)).mono ?_⟩
      rintro r w2 ⟨rfl, x, x1, x2, x3, x4, x5, x6, hrs, hf2⟩
      obtain ⟨k1, k2⟩ := h.next hg hpa hs hf1.size hf2 (by rw [hS.cnt, basS_same hS.sf]; exact hrs) (fun i hi => by rw [hver i hi, hS.sf, hS.ws]) (by
        rw [hS.C]
        exact h.al.more (fun c hc => (h.gw.pl.idr c hc).2) hS.id (by rw [x1, hS.id]) (by rw [x2, hS.b]) (by rw [x3, hS.fr]) (by rw [x4, hS.d]) (by rw [x5, hS.wr]) x6)
      exact ⟨rfl, hf2, s', ops', _, _, _, k1, by rw [hS.cnt]; omega, k2⟩
end
end Go.Proofs.YtadadidccbhopaaGreat
/- leveelaw12.lay: both stores, alike to each byte. -/
namespace Go.Proofs.YtadadidccbhopaaGreat
open Go.RowKit
set_option maxRecDepth 100000
set_option maxHeartbeats 16000000 in
theorem xlay_fr {w0 w : World} {p dp ed q : Nat} {s : PSt} {D : Nat → Prop} (sp : Option Addr) (m cap : Nat) (X : Nat → Chg) (hX : ChgsAt w0 sp m X) (hm : m ≤ cap) (hcap : (cap : Int) ≤ 9223372036854775807) (h : BX 5 w0 w p dp ed q s (fun _ => []) 0 1 (fun _ => []) [] D) (hcnt : s.cnt = 0) :
    Calls Tryz.prog 36 #[.pointer (some ⟨p, 0, none⟩), .pointer (some ⟨q, 0, none⟩), .slice sp m cap] w fun e w' => e = .returned (.bool true) ∧ ∃ s' ops' A' L' D', BX 5 w0 w' p dp ed q s' ops' 90 31 A' L' D' ∧ s'.cnt ≤ 30 ∧ Lf w w' s D s' D' := by
  have HX : Hid (ChgsAt w0 sp m X) := hX
  have HH : Hid (BX 5 w0 w p dp ed q s (fun _ => []) 0 1 (fun _ => []) [] D ∧ s.cnt = 0) := ⟨h, hcnt⟩
  have hmz : (m : Int) ≤ 9223372036854775807 := by omega
  clear hX h hcnt
  go_enter Tryz.func36, Tryz.ntmps36
  go_wp2_with fail
  go_loopg [7, 8, 9, 10, 11, 12, 13, 14, 15] 30 (fun gg t7 _ _ _ _ _ _ _ _ W => ∃ (gw : World) (k : Nat), gw = W ∧ t7 = .int .i64 k ∧ k ≤ 30 ∧ 30 - k ≤ gg ∧ Hid (∃ s' ops' A' L' D', BX 5 w0 gw p dp ed q s' ops' (3 * k) (k + 1) A' L' D' ∧ s'.cnt ≤ k ∧ Lf w gw s D s' D'))
  case atStart => exact ⟨_, 0, rfl, rfl, by omega, by omega, s, _, _, _, _, HH.out.1, by rw [HH.out.2]; omega, Lf.refl _ _ _⟩
  case round =>
    obtain ⟨gw, k, rfl, rfl, hk30, hgk, HB⟩ := hrel
    clear HH
    by_cases hlt : (k : Int) < (m : Int)
    · by_cases hk3 : (k : Int) < 30
      · obtain ⟨s1, o1, A1, L1, D1, hB1, hc1, hF1⟩ := HB.out
        have HF1 : Hid (Lf w gw s D s1 D1) := hF1
        clear HB hF1
        obtain ⟨b, off, hsp, hbl, hXk⟩ := HX.out (by omega)
        obtain ⟨hat, hok⟩ := hXk k (by omega)
        subst hsp
        obtain ⟨c, hc⟩ : ∃ c, X k = c := ⟨_, rfl⟩
        rw [hc] at hat hok
        have HOK : Hid (c.Ok w0) := hok
        have HB1 : Hid (BX 5 w0 gw p dp ed q s1 o1 (3 * k) (k + 1) A1 L1 D1 ∧ s1.cnt ≤ k) := ⟨hB1, hc1⟩
        have HBE : Hid (Below w0.heap.size w0 gw) := hB1.gw.be
        have cl : ∀ j v, w0.cell? ⟨b, off + k * 6 + j, none⟩ = some v → gw.cell? ⟨b, off + k * 6 + j, none⟩ = some v := fun j v hj => (hB1.gw.be.cell (p := ⟨b, off + k * 6 + j, none⟩) hbl).trans hj
        unfold Chg.at' at hat
        simp only [addr_add] at hat
        have x0 := cl 0 _ hat.1
        have x1 := cl 1 _ hat.2.1
        have x2 := cl 2 _ hat.2.2.1
        have x3 := cl 3 _ hat.2.2.2.1
        have x4 := cl 4 _ hat.2.2.2.2.1
        have x5 := cl 5 _ hat.2.2.2.2.2
        rw [Nat.add_zero] at x0
        clear cl hat hok hB1 hc1 hXk hc
        go_upto_region 5 with fail
        have HB5 : Hid (Below gw.heap.size gw (gw.alloc (.cells #[.int .i64 c.B, .int .i64 c.F, .slice c.dp c.D.length c.dc, .slice c.ap c.A.length c.ac, .int .i64 c.W, .bool c.R] 157))) := (Below.refl _ _).alloc (Nat.le_refl _) _
        have HL5 : Hid ((gw.alloc (.cells #[.int .i64 c.B, .int .i64 c.F, .slice c.dp c.D.length c.dc, .slice c.ap c.A.length c.ac, .int .i64 c.W, .bool c.R] 157)).heap[gw.heap.size]? = some (.cells #[.int .i64 c.B, .int .i64 c.F, .slice c.dp c.D.length c.dc, .slice c.ap c.A.length c.ac, .int .i64 c.W, .bool c.R] 157 (0, 0))) := heap_alloc_new _ _
        clear x0 x1 x2 x3 x4 x5
        generalize gw.alloc (.cells #[.int .i64 c.B, .int .i64 c.F, .slice c.dp c.D.length c.dc, .slice c.ap c.A.length c.ac, .int .i64 c.W, .bool c.R] 157) = W5 at *
        have hbx : gw.heap.size < W5.heap.size := (Array.getElem?_eq_some_iff.1 HL5.out).1
        have HBW5 : Hid (BX 5 w0 W5 p dp ed q s1 o1 (3 * k) (k + 1) A1 L1 D1) := HB1.out.1.up HB5.out
        have hcn : (s1.cnt : Int) ≤ 30 := by have := HB1.out.2; omega
        have hAl := HOK.out.al
        go_wp2_with fail
        go_loopg [9, 10, 11] 4 (fun gg t9 t10 _ W => ∃ (g2 : World) (j : Nat) (v : Value) (ids : List Int), g2 = W ∧ t10 = .int .i64 j ∧ t9 = v ∧ j ≤ 4 ∧ 4 - j ≤ gg ∧ Hid (Below W5.heap.size W5 g2 ∧ OwnL g2 W5.heap.size v ids ∧ ids.length = j ∧ ∀ i ∈ ids, 1 ≤ i ∧ i ≤ (s1.cnt : Int)))
        case atStart => exact ⟨_, 0, _, [], rfl, rfl, rfl, by omega, by omega, Below.refl _ _, OwnL.nil _ _, rfl, fun i hi => by cases hi⟩
        case round =>
          obtain ⟨g2, j, v, ids, rfl, rfl, rfl, hj4, hgj, H2⟩ := hrel
          have hbx2 := H2.out.1.size
          have HZ2 : Hid (gw.heap.size < g2.heap.size) := by show _ < _; omega
          have bx : ∀ i u, (#[Value.int .i64 c.B, .int .i64 c.F, .slice c.dp c.D.length c.dc, .slice c.ap c.A.length c.ac, .int .i64 c.W, .bool c.R] : Array Value)[i]? = some u → g2.cell? ⟨gw.heap.size, i, none⟩ = some u := fun i u hi => (H2.out.1.cell (p := ⟨gw.heap.size, i, none⟩) hbx).trans ((cell_of_row _ _ _ _ _ _ HL5.out).trans hi)
          have q3 := (HBW5.out.up H2.out.1).rs.c3
          have y3 := bx 3 _ rfl
          go_upto_region 7 with fail
          go_cut [45] (fun t45 wc => t45 = .bool (decide ((j : Int) < (c.A.length : Int) ∧ (j : Int) < 4 ∧ (0 : Int) < (s1.cnt : Int))) ∧ wc = g2)
          case first =>
            by_cases hjl : (j : Int) < (c.A.length : Int)
            · by_cases hj3 : (j : Int) < 4
              · by_cases hc0 : (0 : Int) < (s1.cnt : Int)
                · have HD : Hid (decide ((j : Int) < (c.A.length : Int) ∧ (j : Int) < 4 ∧ (0 : Int) < (s1.cnt : Int)) = true) := decide_eq_true ⟨hjl, hj3, hc0⟩
                  have hcn0 : 0 < s1.cnt := by omega
                  go_wp2_with fail
                  go_meet
                  exact ⟨by rw [HD.out], rfl⟩
                · have HD : Hid (decide ((j : Int) < (c.A.length : Int) ∧ (j : Int) < 4 ∧ (0 : Int) < (s1.cnt : Int)) = false) := decide_eq_false (fun h => hc0 h.2.2)
                  have hcn0 : ¬ 0 < s1.cnt := by omega
                  go_wp2_with fail
                  go_meet
                  exact ⟨by rw [HD.out], rfl⟩
              · have HD : Hid (decide ((j : Int) < (c.A.length : Int) ∧ (j : Int) < 4 ∧ (0 : Int) < (s1.cnt : Int)) = false) := decide_eq_false (fun h => hj3 h.2.1)
                go_wp2_with fail
                go_meet
                exact ⟨by rw [HD.out], rfl⟩
            · have HD : Hid (decide ((j : Int) < (c.A.length : Int) ∧ (j : Int) < 4 ∧ (0 : Int) < (s1.cnt : Int)) = false) := decide_eq_false (fun h => hjl h.1)
              go_wp2_with fail
              go_meet
              exact ⟨by rw [HD.out], rfl⟩
          case rest =>
            obtain ⟨rfl, hwc⟩ := hcut
            obtain rfl : g2 = wc := hwc.symm
            by_cases hcond : (j : Int) < (c.A.length : Int) ∧ (j : Int) < 4 ∧ (0 : Int) < (s1.cnt : Int)
            · rw [decide_eq_true hcond]
              obtain ⟨hjl, hj3, hc0⟩ := hcond
              obtain ⟨ab, ao, z, hap, hz, hzb⟩ : ∃ ab ao z, c.ap = some ⟨ab, ao, none⟩ ∧ g2.cell? ⟨ab, ao + j, none⟩ = some (.int .i64 z) ∧ (-9223372036854775808 ≤ z ∧ z ≤ 9223372036854775807) := by
                rcases HOK.out.a with e | ⟨ab, ao, e, hl, hcc⟩
                · rw [e] at hjl; simp at hjl; omega
                · have hjn : j < c.A.length := by omega
                  have hbe : Below w0.heap.size w0 g2 := HBE.out.trans ((HB5.out.trans (H2.out.1.mono HB5.out.size)).mono HBE.out.size)
                  exact ⟨ab, ao, _, e, (hbe.cell (p := ⟨ab, ao + j, none⟩) hl).trans (hcc j hjn), HOK.out.ab _ (getD_mem' hjn)⟩
              rw [hap] at y3
              have HAP : Hid (c.ap = some ⟨ab, ao, none⟩) := hap
              have hcz : ¬ (s1.cnt : Int) = 0 := by omega
              have hczb : ((s1.cnt : Int) == 0) = false := by simpa using hcz
              have htm := tmod_bd (a := z) hc0
              go_upto_region 9 with fail
              go_quiet (fail)
              clear hap
              have HGN : Hid (Below W5.heap.size W5 (g2.drewN nq) ∧ OwnL (g2.drewN nq) W5.heap.size u9 ids) := ⟨H2.out.1.trans ((belowN (Below.refl _ _) nq).mono H2.out.1.size), row_same H2.out.2.1 fun _ _ => rfl⟩
              have q3n : (g2.drewN nq).cell? ⟨q, 3, none⟩ = some (.int .i64 (s1.cnt : Int)) := q3
              have HIL : Hid (ids.length = j) := H2.out.2.2.1
              generalize z.tmod (s1.cnt : Int) = zz at *
              clear q3 hz y3 bx
              generalize g2.drewN nq = g3 at *
              obtain ⟨nn, hnn⟩ : ∃ nn : Nat, nn = zz.natAbs := ⟨_, rfl⟩
              have HNN : Hid (nn = zz.natAbs) := hnn
              have hnc : (nn : Int) < (s1.cnt : Int) := by omega
              have hbz : W5.heap.size ≤ g3.heap.size := HGN.out.1.size
              clear hnn
              by_cases hz0 : zz < 0
              · have hzz : -zz = (nn : Int) := by have := HNN.out; omega
                go_upto_region 12 with fail
                clear hz0
                go_wp2_with (first | (at_builtin; refine Hid.out ?_))
                change wpList _ _ _ _ _ _
                refine wpList_append_l rfl (.tmp 62) (.tmp 69) rfl W5.heap.size ids ((s1.cnt : Int) - (nn : Int)) _ rfl _ _ rfl (row_same HGN.out.2 (fun l hl => Below.heap_alloc _ _ _ (HGN.out.2.lt l hl).2)) (heap_alloc_new _ _) (by rw [size_alloc]; omega) (by have := HIL.out; omega) ?_
                intro G1 k1 w6 ho6 hg6 hat6
                have HB6 : Hid (Below W5.heap.size W5 w6) := (HGN.out.1.alloc HGN.out.1.size _).trans ((Below.refl _ _).grown hg6 (Nat.le_trans HGN.out.1.size (by rw [size_alloc]; omega)) (fun k hk => (HGN.out.2.lt k hk).1))
                have HO6 : Hid (OwnL w6 W5.heap.size (.slice (some ⟨G1, 0, none⟩) (ids.length + 1) k1) (ids ++ [(s1.cnt : Int) - (nn : Int)])) := ho6
                clear ho6 hg6 hat6
                go_wp2_with fail
                go_roundg (4 - (j + 1))
                case measure => omega
                case rel =>
                  have hBl := HIL.out
                  refine ⟨_, j + 1, _, ids ++ [(s1.cnt : Int) - (nn : Int)], rfl, by go_num, rfl, by omega, by omega, HB6.out, HO6.out, by simp [hBl], ?_⟩
                  intro z hz
                  rcases List.mem_append.1 hz with hz | hz
                  · exact H2.out.2.2.2 z hz
                  · rw [List.mem_singleton.1 hz]; omega
              · obtain rfl : zz = (nn : Int) := by have := HNN.out; omega
                go_upto_region 12 with fail
                clear hz0
                go_wp2_with (first | (at_builtin; refine Hid.out ?_))
                change wpList _ _ _ _ _ _
                refine wpList_append_l rfl (.tmp 62) (.tmp 69) rfl W5.heap.size ids ((s1.cnt : Int) - (nn : Int)) _ rfl _ _ rfl (row_same HGN.out.2 (fun l hl => Below.heap_alloc _ _ _ (HGN.out.2.lt l hl).2)) (heap_alloc_new _ _) (by rw [size_alloc]; omega) (by have := HIL.out; omega) ?_
                intro G1 k1 w6 ho6 hg6 hat6
                have HB6 : Hid (Below W5.heap.size W5 w6) := (HGN.out.1.alloc HGN.out.1.size _).trans ((Below.refl _ _).grown hg6 (Nat.le_trans HGN.out.1.size (by rw [size_alloc]; omega)) (fun k hk => (HGN.out.2.lt k hk).1))
                have HO6 : Hid (OwnL w6 W5.heap.size (.slice (some ⟨G1, 0, none⟩) (ids.length + 1) k1) (ids ++ [(s1.cnt : Int) - (nn : Int)])) := ho6
                clear ho6 hg6 hat6
                go_wp2_with fail
                go_roundg (4 - (j + 1))
                case measure => omega
                case rel =>
                  have hBl := HIL.out
                  refine ⟨_, j + 1, _, ids ++ [(s1.cnt : Int) - (nn : Int)], rfl, by go_num, rfl, by omega, by omega, HB6.out, HO6.out, by simp [hBl], ?_⟩
                  intro z hz
                  rcases List.mem_append.1 hz with hz | hz
                  · exact H2.out.2.2.2 z hz
                  · rw [List.mem_singleton.1 hz]; omega
            · rw [decide_eq_false hcond]
              have HM : Hid (ids.length ≤ 4) := by have := H2.out.2.2.1; show _ ≤ _; omega
              clear bx y3 q3 hcond
              obtain ⟨ao, ca, rfl, hsi, hfm, hao⟩ := ownL_form3 H2.out.2.1
              have HBX : Hid (Bx g2 gw.heap.size c) := (H2.out.1.block gw.heap.size hbx).trans HL5.out
              have nA : ∀ k, Ak s1 k ∨ D1 k → k < gw.heap.size := fun k hk => by
                rcases hk with hk | hk
                · exact HB1.out.1.gw.pm.lt hk
                · exact HB1.out.1.rs.ltD k hk
              have HNA : Hid (∀ k, Ak s1 k ∨ D1 k → k < gw.heap.size) := nA
              have hbe : Below w0.heap.size w0 g2 := HBE.out.trans ((HB5.out.trans (H2.out.1.mono HB5.out.size)).mono HBE.out.size)
              have PC := xb_patch2 (HBW5.out.up H2.out.1) (by omega) c.B c.F HOK.out.f c.D c.dp c.dc (HOK.out.d.below hbe (Nat.le_refl _)) HOK.out.dl (fun hd1 b o e => by
                obtain ⟨b', o', e', hl, _⟩ := HOK.out.d.at' hd1
                rw [e'] at e
                simp only [Option.some.injEq, Addr.mk.injEq] at e
                obtain ⟨rfl, _, _⟩ := e
                refine ⟨fun hA => ?_, fun hD => ?_, by have := hbe.size; omega⟩
                · have := HB1.out.1.gw.pm.base hA; omega
                · have := HB1.out.1.db _ hD; omega) ids ao ca hsi (fun _ b o e => by
                have h1 := hao b o e
                refine ⟨fun hA => ?_, fun hD => ?_, h1.2⟩
                · have := nA b (.inl hA); omega
                · have := nA b (.inr hD); omega) (by have := HM.out; omega) c.dp c.dc (HOK.out.d.below hbe (Nat.le_refl _)) (fun hd1 b o e => by
                obtain ⟨b', o', e', hl, _⟩ := HOK.out.d.at' hd1
                rw [e'] at e
                simp only [Option.some.injEq, Addr.mk.injEq] at e
                obtain ⟨rfl, _, _⟩ := e
                refine ⟨fun hA => ?_, fun hD => ?_, by have := hbe.size; omega⟩
                · have := HB1.out.1.gw.pm.base hA; omega
                · have := HB1.out.1.db _ hD; omega)
              obtain ⟨y0, y1, y2, y4, y5⟩ := HBX.out.cells
              clear hsi hfm hao nA hbe
              go_upto_region 14 with (first | (go_at_call 28; refine PC.mono ?_; rintro r w1 ⟨id, e, rfl, hf1, PC2⟩; have HBX1 : Hid (Bx w1 gw.heap.size c) := HBX.out.fr hf1 (fun hA => by have := HNA.out _ (.inl hA); omega); obtain ⟨x0, x1, x2, x4, x5⟩ := HBX1.out.cells; have HF1a : Hid (Fr (Ak s1) g2 w1) := hf1; clear hf1))
              clear y0 y1 y2 y4 y5 PC
              go_upto_region 15 with (first | (go_at_call 65; refine PC2.mono ?_; rintro r w2 ⟨rfl, hf2, s2, o2, D2, L2, A2, hB2, hc2, hs2⟩; have HBX2 : Hid (Bx w2 gw.heap.size c) := HBX1.out.fr hf2 (fun hA => by have := HNA.out _ (.inr hA); omega); have HF2 : Hid (Lf w w2 s D s2 D2) := (HF1.out.up (HB5.out.trans (H2.out.1.mono HB5.out.size))).next HF1a.out hf2 hs2; have HB2 : Hid (BX 5 w0 w2 p dp ed q s2 o2 (3 * k + 1) (k + 1) A2 L2 D2 ∧ s2.cnt ≤ s1.cnt + 1 ∧ ¬ (Ak s2 gw.heap.size ∨ D2 gw.heap.size)) := ⟨hB2, hc2, fun hk => by rcases hs2 _ hk with h1 | h1; (have := HNA.out _ h1; omega); (have := HZ2.out; omega)⟩; clear hf2 hB2 hc2 hs2))
              clear x0 x1 x2 x4 x5 PC2
              obtain ⟨x0, x1, x2, x4, x5⟩ := HBX2.out.cells
              clear x0 x1 x2 x5
              go_cut [113] (fun t wc => t = .bool false ∧ ∃ (w4 : World) (s3 : PSt) (L3 : List RCh) (D3 : Nat → Prop), w4 = wc ∧ Hid (BX 5 w0 w4 p dp ed q s3 o2 (3 * k + 2) (k + 2) A2 L3 D3 ∧ s3.cnt ≤ s1.cnt + 1 ∧ Bx w4 gw.heap.size c ∧ ¬ (Ak s3 gw.heap.size ∨ D3 gw.heap.size) ∧ Lf w w4 s D s3 D3))
              case first =>
                have HW2 : Hid (BX 5 w0 w2.drew p dp ed q s2 o2 (3 * k + 1) (k + 1) A2 L2 D2) := HB2.out.1.up ((Below.refl _ _).drew)
                have WR := xb_write HW2.out (by omega) (by omega) c.W
                have HC0 : Hid (w2.drew.cell? ⟨gw.heap.size, 4, none⟩ = some (.int .i64 c.W)) := x4
                have HBD : Hid (Bx w2.drew gw.heap.size c) := HBX2.out
                clear x4
                refine wp_region_held_drew (S := (fun W => W.cell? ⟨gw.heap.size, 4, none⟩ = some (.int .i64 c.W))) (by kernel_rfl) HC0.out (fun hH => ?_)
                refine takeH (i := 0) (dst := some 95) (v := ?v1) rfl rfl (by kernel_rfl) (by kernel_rfl) (by kernel_rfl) (fun _ _ _ h => h) rfl ?hy1 hH rfl ?rest1
                case hy1 => (intro W hW; (try dsimp only at hW); go_simp; try with_reducible rfl)
                (try simp only [Act.put, List.setIfInBounds_toArray, List.set_cons_zero, List.set_cons_succ])
                refine takeH (i := 1) (dst := some 96) (v := ?v2) rfl rfl (by kernel_rfl) (by kernel_rfl) (by kernel_rfl) (fun _ _ _ h => h) rfl ?hy2 hH rfl ?rest2
                case hy2 => (intro W hW; (try dsimp only at hW); go_simp; try with_reducible rfl)
                (try simp only [Act.put, List.setIfInBounds_toArray, List.set_cons_zero, List.set_cons_succ])
                refine takeH (i := 2) (dst := some 97) (v := .bool false) rfl rfl (by kernel_rfl) (by kernel_rfl) (by kernel_rfl) (fun _ _ _ h => h) rfl (fun W hW => by (try dsimp only at hW); go_simp) hH rfl ?_
                (try simp only [Act.put, List.setIfInBounds_toArray, List.set_cons_zero, List.set_cons_succ])
                refine takeH (i := 3) (dst := some 98) (v := ?v3) rfl rfl (by kernel_rfl) (by kernel_rfl) (by kernel_rfl) (fun _ _ _ h => h) rfl ?hy3 hH rfl ?rest3
                case hy3 => (intro W hW; (try dsimp only at hW); go_simp; try with_reducible rfl)
                (try simp only [Act.put, List.setIfInBounds_toArray, List.set_cons_zero, List.set_cons_succ])
                refine takeH (i := 4) (dst := some 99) (v := ?v4) rfl rfl (by kernel_rfl) (by kernel_rfl) (by kernel_rfl) (fun _ _ _ h => h) rfl ?hy4 hH rfl ?rest4
                case hy4 => (intro W hW; (try dsimp only at hW); go_simp; try with_reducible rfl)
                (try simp only [Act.put, List.setIfInBounds_toArray, List.set_cons_zero, List.set_cons_succ])
                refine takeH (i := 5) (dst := some 100) (v := ?v5) rfl rfl (by kernel_rfl) (by kernel_rfl) (by kernel_rfl) (fun _ _ _ h => h) rfl ?hy5 hH rfl ?rest5
                case hy5 => (intro W hW; (try dsimp only at hW); go_simp; try with_reducible rfl)
                (try simp only [Act.put, List.setIfInBounds_toArray, List.set_cons_zero, List.set_cons_succ])
                refine takeH (i := 6) (dst := some 101) (v := .bool false) rfl rfl (by kernel_rfl) (by kernel_rfl) (by kernel_rfl) (fun _ _ _ h => h) rfl (fun W hW => by (try dsimp only at hW); go_simp) hH rfl ?_
                (try simp only [Act.put, List.setIfInBounds_toArray, List.set_cons_zero, List.set_cons_succ])
                refine takeH (i := 7) (dst := some 102) (v := .bool false) rfl rfl (by kernel_rfl) (by kernel_rfl) (by kernel_rfl) (fun _ _ _ h => h) rfl (fun W hW => by (try dsimp only at hW); go_simp) hH rfl ?_
                (try simp only [Act.put, List.setIfInBounds_toArray, List.set_cons_zero, List.set_cons_succ])
                refine takeH (i := 8) (dst := some 103) (v := ?v6) rfl rfl (by kernel_rfl) (by kernel_rfl) (by kernel_rfl) (fun _ _ _ h => h) rfl ?hy6 hH rfl ?rest6
                case hy6 => (intro W hW; (try dsimp only at hW); go_simp; try with_reducible rfl)
                (try simp only [Act.put, List.setIfInBounds_toArray, List.set_cons_zero, List.set_cons_succ])
                refine takeH (i := 9) (dst := some 104) (v := ?v7) rfl rfl (by kernel_rfl) (by kernel_rfl) (by kernel_rfl) (fun _ _ _ h => h) rfl ?hy7 hH rfl ?rest7
                case hy7 => (intro W hW; (try dsimp only at hW); go_simp; try with_reducible rfl)
                (try simp only [Act.put, List.setIfInBounds_toArray, List.set_cons_zero, List.set_cons_succ])
                refine takeH (i := 10) (dst := some 105) (v := ?v8) rfl rfl (by kernel_rfl) (by kernel_rfl) (by kernel_rfl) (fun _ _ _ h => h) rfl ?hy8 hH rfl ?rest8
                case hy8 => (intro W hW; (try dsimp only at hW); go_simp; try with_reducible rfl)
                (try simp only [Act.put, List.setIfInBounds_toArray, List.set_cons_zero, List.set_cons_succ])
                refine takeH (i := 11) (dst := some 106) (v := ?v9) rfl rfl (by kernel_rfl) (by kernel_rfl) (by kernel_rfl) (fun _ _ _ h => h) rfl ?hy9 hH rfl ?rest9
                case hy9 => (intro W hW; have k4 := hW; clear hW; go_simp; try with_reducible rfl)
                (try simp only [Act.put, List.setIfInBounds_toArray, List.set_cons_zero, List.set_cons_succ])
                refine takeH (i := 13) (dst := some 108) (v := ?v10) rfl rfl (by kernel_rfl) (by kernel_rfl) (by kernel_rfl) (fun _ _ _ h => h) rfl ?hy10 hH rfl ?rest10
                case hy10 => (intro W hW; (try dsimp only at hW); go_simp; try with_reducible rfl)
                (try simp only [Act.put, List.setIfInBounds_toArray, List.set_cons_zero, List.set_cons_succ])
                refine takeH (i := 14) (dst := some 109) (v := ?v11) rfl rfl (by kernel_rfl) (by kernel_rfl) (by kernel_rfl) (fun _ _ _ h => h) rfl ?hy11 hH rfl ?rest11
                case hy11 => (intro W hW; (try dsimp only at hW); go_simp; try with_reducible rfl)
                (try simp only [Act.put, List.setIfInBounds_toArray, List.set_cons_zero, List.set_cons_succ])
                refine takeH (i := 15) (dst := some 110) (v := ?v12) rfl rfl (by kernel_rfl) (by kernel_rfl) (by kernel_rfl) (fun _ _ _ h => h) rfl ?hy12 hH rfl ?rest12
                case hy12 => (intro W hW; have k4 := hW; clear hW; go_simp; try with_reducible rfl)
                (try simp only [Act.put, List.setIfInBounds_toArray, List.set_cons_zero, List.set_cons_succ])
                refine callH (i := 12) { dst := some 107, op := Go.Op.call { callee := Go.Callee.value (Go.Operand.func 26), args := #[Go.Operand.tmp 104, Go.Operand.tmp 106], argTypes := #[30, 3] }, type := 24, pos := "law.go:47", after := #[{ on := 9, ground := Go.Ground.data }, { on := 11, ground := Go.Ground.data }, { on := 8, ground := Go.Ground.chain }, { on := 8, ground := Go.Ground.guard }], guard := some (8, false) } (by kernel_rfl) rfl rfl (fun K hK => ?_)
                go_simp
                refine WR.mono ?_
                rintro r w3 ⟨e2, rfl, hf3, WR2⟩
                have HBX3 : Hid (Bx w3 gw.heap.size c) := HBD.out.fr hf3 (fun hA => HB2.out.2.2 (.inl hA))
                have HF3 : Hid (Fr (Ak s2) w2.drew w3) := hf3
                clear hf3
                clear hH
                refine hK.out _ _ HBX3.out.cells.2.2.2.1 (fun hH => ?_)
                clear hK K
                (try simp only [Act.put, List.setIfInBounds_toArray, List.set_cons_zero, List.set_cons_succ])
                refine callH (i := 16) { dst := some 111, op := Go.Op.call { callee := Go.Callee.value (Go.Operand.func 55), args := #[Go.Operand.tmp 108, Go.Operand.tmp 110], argTypes := #[34, 3] }, type := 24, pos := "law.go:47", after := #[{ on := 13, ground := Go.Ground.data }, { on := 15, ground := Go.Ground.data }, { on := 12, ground := Go.Ground.chain }, { on := 8, ground := Go.Ground.guard }], guard := some (8, false) } (by kernel_rfl) rfl rfl (fun K hK => ?_)
                go_simp
                refine WR2.mono ?_
                rintro r w4 ⟨rfl, hf4, s3, D3, L3, hB3, hc3, hs3⟩
                have H4 : Hid (BX 5 w0 w4 p dp ed q s3 o2 (3 * k + 2) (k + 2) A2 L3 D3 ∧ s3.cnt ≤ s1.cnt + 1 ∧ Bx w4 gw.heap.size c ∧ ¬ (Ak s3 gw.heap.size ∨ D3 gw.heap.size) ∧ Lf w w4 s D s3 D3) := ⟨hB3, by have := HB2.out.2.1; omega, HBX3.out.fr hf4 (fun hD => HB2.out.2.2 (.inr hD)), fun hk => (hs3 _ hk).elim HB2.out.2.2 (fun h1 => by have h2 : gw.heap.size < w2.heap.size := (Array.getElem?_eq_some_iff.1 HBX2.out).1; have h3 : w2.heap.size ≤ gw.heap.size := h1; omega), (HF2.out.up ((Below.refl _ _).drew)).next HF3.out hf4 hs3⟩
                clear hf4 hB3 hc3 hs3
                clear hH
                refine hK.out _ _ H4.out.2.2.1.cells.2.2.2.1 (fun hH => ?_)
                clear hK K
                (try simp only [Act.put, List.setIfInBounds_toArray, List.set_cons_zero, List.set_cons_succ])
                refine takeH (i := 17) (dst := some 112) (v := .bool false) rfl rfl (by kernel_rfl) (by kernel_rfl) (by kernel_rfl) (fun _ _ _ h => h) rfl (fun W hW => by (try dsimp only at hW); go_simp) hH rfl ?_
                (try simp only [Act.put, List.setIfInBounds_toArray, List.set_cons_zero, List.set_cons_succ])
                refine takeH (i := 18) (dst := some 113) (v := .bool false) rfl rfl (by kernel_rfl) (by kernel_rfl) (by kernel_rfl) (fun _ _ _ h => h) rfl (fun W hW => by (try dsimp only at hW); go_simp) hH rfl ?_
                (try simp only [Act.put, List.setIfInBounds_toArray, List.set_cons_zero, List.set_cons_succ])
                refine wpAnyH_done (by kernel_rfl) ?_ _
                clear hH
                go_wp2_with fail
                go_meet
                exact ⟨rfl, _, _, _, _, rfl, H4⟩
              case rest =>
                obtain ⟨rfl, w4, s3, L3, D3, rfl, H4⟩ := hcut
                obtain ⟨z0, z1, z2, z4, z5⟩ := H4.out.2.2.1.cells
                clear z0 z1 z2 z4 x4
                cases hR : c.R with
                | false =>
                  rw [hR] at z5
                  go_wp2_with fail
                  go_roundg (30 - (k + 1))
                  case measure => omega
                  case rel => exact ⟨_, k + 1, rfl, by go_num, by omega, by omega, s3, o2, A2, L3, D3, H4.out.1.more (by omega) (by omega), by have := H4.out.2.1; have := HB1.out.2; omega, H4.out.2.2.2.2⟩
                | true =>
                  rw [hR] at z5
                  have FL := xb_flush H4.out.1 (by omega) (by omega)
                  go_wp2_with (first | (go_at_call 27; refine FL.mono ?_; rintro r w5 ⟨rfl, hf5, FL2⟩; have HF5 : Hid (Fr (Ak s3) w4 w5) := hf5; clear hf5) | (go_at_call 56; refine FL2.mono ?_; rintro r w6 ⟨rfl, hf6, s5, o5, D5, L5, hB6, hc5, hs5⟩; have H6 : Hid (BX 5 w0 w6 p dp ed q s5 o5 (3 * k + 2 + 1) (k + 2) A2 L5 D5 ∧ s5.cnt = s3.cnt ∧ Lf w w6 s D s5 D5) := ⟨hB6, hc5, H4.out.2.2.2.2.next HF5.out hf6 hs5⟩; clear hf6 hB6 hc5 hs5))
                  go_roundg (30 - (k + 1))
                  case measure => omega
                  case rel => exact ⟨_, k + 1, rfl, by go_num, by omega, by omega, s5, o5, A2, L5, D5, H6.out.1.more (by omega) (by omega), by have := H6.out.2.1; have := H4.out.2.1; have := HB1.out.2; omega, H6.out.2.2⟩
      · go_wp2_with fail
        go_ret
        obtain ⟨s1, o1, A1, L1, D1, hB1, hc1, hF1⟩ := HB.out
        exact ⟨rfl, s1, o1, A1, L1, D1, hB1.more (by omega) (by omega), by omega, hF1⟩
    · go_wp2_with fail
      go_ret
      obtain ⟨s1, o1, A1, L1, D1, hB1, hc1, hF1⟩ := HB.out
      exact ⟨rfl, s1, o1, A1, L1, D1, hB1.more (by omega) (by omega), by omega, hF1⟩
end Go.Proofs.YtadadidccbhopaaGreat
/- Step, of the program and of the document. -/
namespace Go.Proofs.YtadadidccbhopaaGreat
open Go.RowKit
set_option maxRecDepth 100000
/-- Which of l blocks the n-th is, round and round. -/
def idxS (n : Int) (l : Nat) : Int := if n.tmod (l : Int) < 0 then n.tmod (l : Int) + (l : Int) else n.tmod (l : Int)
theorem idxS_lt {n : Int} {l : Nat} (h : 0 < l) : 0 ≤ idxS n l ∧ idxS n l < (l : Int) := by
  have := tmod_bd (a := n) (b := (l : Int)) (by omega)
  unfold idxS
  split <;> omega
/-- What a step does. -/
inductive SpS (A : Nat → List Int) : PSt → Int → PSt → Int → Int → Prop
  | none {s : PSt} {n : Int} : s.C = [] → SpS A s n s 0 20
  | wr {s s' : PSt} {n : Int} {L : List Int} {k b : Nat} : nxAl2 s.C L → k < L.length → (k : Int) = idxS n L.length → L.getD k 0 = (b : Int) → WrS A s b s' → SpS A s n s' (b : Int) 0
section
variable {w0 w w' : World} {p dp ed q : Nat} {s s' : PSt} {ops : Nat → List Int} {κ m : Nat} {A : Nat → List Int} {L0 : List RCh} {D : Nat → Prop}
set_option maxHeartbeats 4000000 in
theorem pstep_S (h : GW w0 w p dp s ops κ) (hA : PA s A) (hκ : κ ≤ 900) (n : Int) :
    Calls Tryz.prog 37 #[.pointer (some ⟨p, 0, none⟩), .int .i64 n] w fun e w' => ∃ (x er : Int) (s' : PSt), e = .returned (.tuple #[.int .i64 x, .int .i64 er]) ∧ GW w0 w' p dp s' ops (κ + 1) ∧ PA s' A ∧ SpS A s n s' x er ∧ s'.cnt = s.cnt ∧ Fr (Ak s) w w' ∧ (∀ k, Ak s' k → Ak s k ∨ w.heap.size ≤ k) := by
  have DT := gx_dirty h
  have HH : Hid (GW w0 w p dp s ops κ ∧ PA s A) := ⟨h, hA⟩
  clear h hA
  go_enter Tryz.func37, Tryz.ntmps37
  go_wp2_with (first | (go_at_call 33; refine Hid.out ?_))
  change Calls _ _ _ _ _
  refine DT.mono ?_
  clear DT
  rintro r w1 ⟨v, L, rfl, hO, hnx, hl5, hm, hb⟩
  have hfr : ∀ b o c0, v = .slice (some ⟨b, o, none⟩) L.length c0 → w.heap.size ≤ b ∧ b < w1.heap.size := fun b o c0 e => by
    rw [e] at hO
    rcases (own_at hO).2 with ⟨e1, _⟩ | ⟨g, e1, e2, e3⟩
    · cases e1
    · cases e1; exact ⟨e2, e3⟩
  obtain ⟨ao, ca, rfl, hsr, _⟩ := hO.form
  have H1 : Hid (GW w0 w1 p dp s ops κ ∧ nxAl2 s.C L ∧ (∀ x ∈ L, ∃ n : Nat, x = (n : Int) ∧ n < 5 ∧ ∃ c ∈ s.C, c.b = n) ∧ Below w.heap.size w w1 ∧ SrcI w1 ao L ∧ ∀ b o c0, Value.slice ao L.length ca = .slice (some ⟨b, o, none⟩) L.length c0 → w.heap.size ≤ b ∧ b < w1.heap.size) := ⟨HH.out.1.up hb, hnx, hm, hb, hsr, hfr⟩
  have hL5 : (L.length : Int) ≤ 5 := by omega
  clear hO hnx hl5 hm hb hsr hfr
  by_cases hL : L = []
  · subst hL
    have HE : Hid (GW w0 w1 p dp s ops (κ + 1) ∧ PA s A ∧ SpS A s n s 0 20 ∧ Fr (Ak s) w w1) := ⟨H1.out.1.more (by omega), HH.out.2, .none (nxAll_nil (nxAl2_all H1.out.2.1)), Fr.of_below H1.out.2.2.2.1⟩
    go_wp2_with fail
    go_ret2
    exact ⟨0, 20, s, rfl, HE.out.1, HE.out.2.1, HE.out.2.2.1, rfl, HE.out.2.2.2, fun _ hk => .inl hk⟩
  · have hl0 : 0 < L.length := by
      cases L with
      | nil => exact absurd rfl hL
      | cons x l => simp
    have hl0b : ((L.length : Int) == 0) = false := by simp; omega
    have hl0n : ¬ (L.length : Int) = 0 := by omega
    have htm := tmod_bd (a := n) (b := (L.length : Int)) (by omega)
    obtain ⟨k, hk⟩ : ∃ k : Nat, (k : Int) = idxS n L.length := ⟨(idxS n L.length).toNat, by have := idxS_lt (n := n) hl0; omega⟩
    have hkl : k < L.length := by have := idxS_lt (n := n) hl0; omega
    obtain ⟨yb, yo, b, hao, hyc, hgb, hb5, hcb⟩ : ∃ yb yo, ∃ b : Nat, ao = some ⟨yb, yo, none⟩ ∧ w1.cell? ⟨yb, yo + k, none⟩ = some (.int .i64 (b : Int)) ∧ L.getD k 0 = (b : Int) ∧ b < 5 ∧ ∃ c ∈ s.C, c.b = b := by
      obtain ⟨b, e1, e2, e3⟩ := H1.out.2.2.1 _ (getD_mem hkl)
      rcases H1.out.2.2.2.2.1 with e | ⟨yb, yo, e, hl, hcc⟩
      · exact absurd e hL
      · exact ⟨yb, yo, b, e, by rw [← e1]; exact hcc k hkl, e1, e2, e3⟩
    have HB : Hid (L.getD k 0 = (b : Int) ∧ b < 5 ∧ (∃ c ∈ s.C, c.b = b) ∧ k < L.length ∧ (k : Int) = idxS n L.length) := ⟨hgb, hb5, hcb, hkl, hk⟩
    have hki : (k : Int) < (L.length : Int) := by omega
    subst hao
    have WR := gx_write H1.out.1 HH.out.2 (by omega) b hb5 hcb
    clear hgb hb5 hcb hL hl0 hkl
    go_upto_if 21 with fail
    go_cut [7] (fun t wc => t = .int .i64 (k : Int) ∧ wc = w1)
    case first =>
      have HK : Hid ((k : Int) = if n.tmod (L.length : Int) < 0 then n.tmod (L.length : Int) + (L.length : Int) else n.tmod (L.length : Int)) := hk
      clear hk
      generalize n.tmod (L.length : Int) = tm at *
      by_cases hneg : tm < 0
      · go_wp2_with fail
        go_meet
        have := HK.out
        rw [if_pos hneg] at this
        exact ⟨by rw [this], rfl⟩
      · go_wp2_with fail
        go_meet
        have := HK.out
        rw [if_neg (by omega)] at this
        exact ⟨by rw [this], rfl⟩
    case rest =>
      obtain ⟨rfl, hwc⟩ := hcut
      obtain rfl : w1 = wc := hwc.symm
      clear hk htm
      have HYB : Hid (w.heap.size ≤ yb ∧ yb < w1.heap.size) := H1.out.2.2.2.2.2 yb yo ca rfl
      have HYC : Hid (w1.cell? ⟨yb, yo + k, none⟩ = some (.int .i64 (b : Int))) := hyc
      go_wp2_with (first | (go_at_call 26; refine Hid.out ?_))
      change Calls _ _ _ _ _
      refine WR.mono ?_
      clear WR hyc
      rintro r w2 ⟨s', rfl, hG, hW, hf, hs⟩
      have hyc : w2.cell? ⟨yb, yo + k, none⟩ = some (.int .i64 (b : Int)) := by
        refine (fr_cell hf (a := ⟨yb, yo + k, none⟩) HYB.out.2 (fun hA => ?_)).trans HYC.out
        have h1 : yb < w.heap.size := HH.out.1.pm.lt hA
        have := HYB.out.1
        omega
      have HE : Hid (GW w0 w2 p dp s' ops (κ + 1) ∧ PA s' A ∧ SpS A s n s' (b : Int) 0 ∧ s'.cnt = s.cnt ∧ Fr (Ak s) w w2 ∧ (∀ k, Ak s' k → Ak s k ∨ w.heap.size ≤ k)) := by
        refine ⟨hG, hW.pa, .wr H1.out.2.1 HB.out.2.2.2.1 HB.out.2.2.2.2 HB.out.1 hW, hW.cnt, (Fr.of_below H1.out.2.2.2.1).trans hf, fun k hk => ?_⟩
        have hz := H1.out.2.2.2.1.size
        rcases hs k hk with h1 | h1
        · exact .inl h1
        · exact .inr (by omega)
      clear hG hW hf hs
      go_wp2_with fail
      go_ret2
      exact ⟨(b : Int), 0, s', rfl, HE.out⟩
set_option maxHeartbeats 8000000 in
theorem dstep_any (h : DX 5 w ed q s ops κ m A L0 D) (hm : m ≤ 900000) (n : Int) {x er : Int} (hS : SpS A s n s' x er) :
    Calls Tryz.prog 38 #[.pointer (some ⟨q, 0, none⟩), .int .i64 n] w fun e w' => e = .returned (.tuple #[.int .i64 x, .int .i64 er]) ∧ DW w w' ed q s' (m + 1) A D := by
  have DT := dx_dirty h
  have HH : Hid (DX 5 w ed q s ops κ m A L0 D ∧ m ≤ 900000) := ⟨h, hm⟩
  clear h hm
  cases hS with
  | none hC =>
    go_enter Tryz.func38, Tryz.ntmps38
    go_wp2_with (first | (go_at_call 75; refine Hid.out ?_))
    change Calls _ _ _ _ _
    refine DT.mono ?_
    clear DT
    rintro r w1 ⟨v, L, rfl, hO, hP, hmx, hb⟩
    obtain rfl : L = [] := List.eq_nil_iff_forall_not_mem.2 fun x hx => by
      obtain ⟨c, hc, _⟩ := (hmx x).1 hx
      rw [hC] at hc
      cases hc
    obtain ⟨ao, ca, rfl, hsr, _⟩ := hO.form
    have HE : Hid (DW w w1 ed q s (m + 1) A D) := (HH.out.1.dw.up hb).more (by omega)
    clear hO hP hmx hb hsr hC
    go_wp2_with fail
    go_ret2
    exact ⟨rfl, HE.out⟩
  | @wr _ _ Lx k b hnx hkl hk hgb hW =>
    have HS : Hid (nxAl2 s.C Lx ∧ WrS A s b s') := ⟨hnx, hW⟩
    clear hnx hW
    go_enter Tryz.func38, Tryz.ntmps38
    go_wp2_with (first | (go_at_call 75; refine Hid.out ?_))
    change Calls _ _ _ _ _
    refine DT.mono ?_
    clear DT
    rintro r w1 ⟨v, L, rfl, hO, hP, hmx, hb⟩
    obtain rfl : L = Lx := asc_ext hP HS.out.1.1 fun x => by rw [hmx x, HS.out.1.2 x]
    have hfr : ∀ b o c0, v = .slice (some ⟨b, o, none⟩) L.length c0 → w.heap.size ≤ b ∧ b < w1.heap.size := fun b o c0 e => by
      rw [e] at hO
      rcases (own_at hO).2 with ⟨e1, _⟩ | ⟨g, e1, e2, e3⟩
      · cases e1
      · cases e1; exact ⟨e2, e3⟩
    have hl5 : L.length ≤ 5 := asc_le5 hP fun x hx => by
      obtain ⟨c, hc, e⟩ := (hmx x).1 hx
      exact ⟨c.b, e.symm, HH.out.1.b5 c hc⟩
    obtain ⟨ao, ca, rfl, hsr, _⟩ := hO.form
    obtain ⟨yb, yo, hao, hyc⟩ : ∃ yb yo, ao = some ⟨yb, yo, none⟩ ∧ w1.cell? ⟨yb, yo + k, none⟩ = some (.int .i64 (b : Int)) := by
      rcases hsr with e | ⟨yb, yo, e, hl, hcc⟩
      · rw [e] at hkl; simp at hkl
      · exact ⟨yb, yo, e, by rw [← hgb]; exact hcc k hkl⟩
    subst hao
    have HYB : Hid (w.heap.size ≤ yb ∧ yb < w1.heap.size) := hfr yb yo ca rfl
    have HB1 : Hid (Below w.heap.size w w1) := hb
    have HYC : Hid (w1.cell? ⟨yb, yo + k, none⟩ = some (.int .i64 (b : Int))) := hyc
    have hL5 : (L.length : Int) ≤ 5 := by omega
    have hl0b : ((L.length : Int) == 0) = false := by simp; intro e; rw [e] at hkl; simp at hkl
    have hl0n : ¬ (L.length : Int) = 0 := by omega
    have htm := tmod_bd (a := n) (b := (L.length : Int)) (by omega)
    have hki : (k : Int) < (L.length : Int) := by omega
    clear hO hP hmx hb hsr hfr hl5 hkl hgb
    go_upto_if 18 with fail
    go_cut [7] (fun t wc => t = .int .i64 (k : Int) ∧ wc = w1)
    case first =>
      have HK : Hid ((k : Int) = if n.tmod (L.length : Int) < 0 then n.tmod (L.length : Int) + (L.length : Int) else n.tmod (L.length : Int)) := hk
      clear hk
      generalize n.tmod (L.length : Int) = tm at *
      by_cases hneg : tm < 0
      · go_wp2_with fail
        go_meet
        have := HK.out
        rw [if_pos hneg] at this
        exact ⟨by rw [this], rfl⟩
      · go_wp2_with fail
        go_meet
        have := HK.out
        rw [if_neg (by omega)] at this
        exact ⟨by rw [this], rfl⟩
    case rest =>
      obtain ⟨rfl, hwc⟩ := hcut
      obtain rfl : w1 = wc := hwc.symm
      clear hk htm hyc
      go_upto_region 7 with fail
      have HBD : Hid (Below w.heap.size w w1.drew) := HB1.out.trans ((Below.refl w1.heap.size w1).drew.mono HB1.out.size)
      have HY0 : Hid (w1.drew.cell? ⟨yb, yo + k, none⟩ = some (.int .i64 (b : Int))) := HYC.out
      have hX1 := HH.out.1.up HBD.out
      have HX1 : Hid (DX 5 w1.drew ed q s ops κ m A L0 D) := hX1
      have WR := dw_write hX1.dw HH.out.2 HS.out.2
      clear hX1
      have HDX := HH.out.1.ltD
      have HLT : Hid (∀ k, D k → k < w.heap.size) := HDX
      clear HDX
      refine wp_region_held_drew (S := (fun W => W.cell? ⟨yb, yo + k, none⟩ = some (.int .i64 (b : Int)))) (by kernel_rfl) HY0.out (fun hH => ?_)
      refine takeH (i := 0) (dst := some 23) (v := ?v1) rfl rfl (by kernel_rfl) (by kernel_rfl) (by kernel_rfl) (fun _ _ _ h => h) rfl ?hy1 hH rfl ?rest1
      case hy1 => (intro W hW; (try dsimp only at hW); go_simp; try with_reducible rfl)
      (try simp only [Act.put, List.setIfInBounds_toArray, List.set_cons_zero, List.set_cons_succ])
      refine takeH (i := 1) (dst := some 24) (v := ?v2) rfl rfl (by kernel_rfl) (by kernel_rfl) (by kernel_rfl) (fun _ _ _ h => h) rfl ?hy2 hH rfl ?rest2
      case hy2 => (intro W hW; (try dsimp only at hW); go_simp; try with_reducible rfl)
      (try simp only [Act.put, List.setIfInBounds_toArray, List.set_cons_zero, List.set_cons_succ])
      refine takeH (i := 2) (dst := some 25) (v := ?v3) rfl rfl (by kernel_rfl) (by kernel_rfl) (by kernel_rfl) (fun _ _ _ h => h) rfl ?hy3 hH rfl ?rest3
      case hy3 => (intro W hW; (try dsimp only at hW); go_simp; try with_reducible rfl)
      (try simp only [Act.put, List.setIfInBounds_toArray, List.set_cons_zero, List.set_cons_succ])
      refine takeH (i := 3) (dst := some 26) (v := ?v4) rfl rfl (by kernel_rfl) (by kernel_rfl) (by kernel_rfl) (fun _ _ _ h => h) rfl ?hy4 hH rfl ?rest4
      case hy4 => (intro W hW; (try dsimp only at hW); go_simp; try with_reducible rfl)
      (try simp only [Act.put, List.setIfInBounds_toArray, List.set_cons_zero, List.set_cons_succ])
      refine takeH (i := 4) (dst := some 27) (v := ?v5) rfl rfl (by kernel_rfl) (by kernel_rfl) (by kernel_rfl) (fun _ _ _ h => h) rfl ?hy5 hH rfl ?rest5
      case hy5 => (intro W hW; (try dsimp only at hW); go_simp; try with_reducible rfl)
      (try simp only [Act.put, List.setIfInBounds_toArray, List.set_cons_zero, List.set_cons_succ])
      refine takeH (i := 5) (dst := some 28) (v := ?v6) rfl rfl (by kernel_rfl) (by kernel_rfl) (by kernel_rfl) (fun _ _ _ h => h) rfl ?hy6 hH rfl ?rest6
      case hy6 => (intro W hW; (try dsimp only at hW); go_simp; try with_reducible rfl)
      (try simp only [Act.put, List.setIfInBounds_toArray, List.set_cons_zero, List.set_cons_succ])
      refine takeH (i := 6) (dst := some 29) (v := ?v7) rfl rfl (by kernel_rfl) (by kernel_rfl) (by kernel_rfl) (fun _ _ _ h => h) rfl ?hy7 hH rfl ?rest7
      case hy7 => (intro W hW; (try dsimp only at hW); go_simp; try with_reducible rfl)
      (try simp only [Act.put, List.setIfInBounds_toArray, List.set_cons_zero, List.set_cons_succ])
      refine takeH (i := 7) (dst := some 30) (v := ?v8) rfl rfl (by kernel_rfl) (by kernel_rfl) (by kernel_rfl) (fun _ _ _ h => h) rfl ?hy8 hH rfl ?rest8
      case hy8 => (intro W hW; (try dsimp only at hW); go_simp; try with_reducible rfl)
      (try simp only [Act.put, List.setIfInBounds_toArray, List.set_cons_zero, List.set_cons_succ])
      refine takeH (i := 8) (dst := some 31) (v := ?v9) rfl rfl (by kernel_rfl) (by kernel_rfl) (by kernel_rfl) (fun _ _ _ h => h) rfl ?hy9 hH rfl ?rest9
      case hy9 => (intro W hW; (try dsimp only at hW); go_simp; try with_reducible rfl)
      (try simp only [Act.put, List.setIfInBounds_toArray, List.set_cons_zero, List.set_cons_succ])
      refine callH (i := 9) { dst := some 32, op := Go.Op.call { callee := Go.Callee.value (Go.Operand.func 55), args := #[Go.Operand.tmp 27, Go.Operand.tmp 31], argTypes := #[34, 3] }, type := 24, pos := "ref.go:106", after := #[{ on := 4, ground := Go.Ground.data }, { on := 8, ground := Go.Ground.data }], guard := none } (by kernel_rfl) rfl rfl (fun K hK => ?_)
      go_simp
      refine WR.mono ?_
      clear WR
      rintro r w2 ⟨rfl, h2⟩
      have HE : Hid (DW w w2 ed q s' (m + 1) A D) := DW.trans (fun k hk => .inl hk) (Fr.of_below HBD.out) h2
      have HY2 : Hid (w2.cell? ⟨yb, yo + k, none⟩ = some (.int .i64 (b : Int))) := (fr_cell h2.fr (a := ⟨yb, yo + k, none⟩) HYB.out.2 (fun hA => by have := HLT.out yb hA; have := HYB.out.1; omega)).trans HY0.out
      clear h2
      clear hH
      refine hK.out _ _ HY2.out (fun hH => ?_)
      clear hK K
      (try simp only [Act.put, List.setIfInBounds_toArray, List.set_cons_zero, List.set_cons_succ])
      refine takeH (i := 10) (dst := some 4) (v := ?v10) rfl rfl (by kernel_rfl) (by kernel_rfl) (by kernel_rfl) (fun _ _ _ h => h) rfl ?hy10 hH rfl ?rest10
      case hy10 => (intro W hW; (try dsimp only at hW); go_simp; try with_reducible rfl)
      (try simp only [Act.put, List.setIfInBounds_toArray, List.set_cons_zero, List.set_cons_succ])
      refine takeH (i := 11) (dst := some 5) (v := ?v11) rfl rfl (by kernel_rfl) (by kernel_rfl) (by kernel_rfl) (fun _ _ _ h => h) rfl ?hy11 hH rfl ?rest11
      case hy11 => (intro W hW; (try dsimp only at hW); go_simp; try with_reducible rfl)
      (try simp only [Act.put, List.setIfInBounds_toArray, List.set_cons_zero, List.set_cons_succ])
      refine wpAnyH_done (by kernel_rfl) ?_ _
      clear hH
      go_wp2_with fail
      go_ret2
      exact ⟨rfl, HE.out⟩
end
end Go.Proofs.YtadadidccbhopaaGreat
