/- Both stores, opened: alike to each byte. -/
import Derived.Test.YtadadidccbhopaaGreatJRpat7
import Derived.Test.YtadadidccbhopaaGreatJPk123
import Derived.Test.YtadadidccbhopaaGreatKYsame
import Derived.Deep.CutBlock
import Derived.Deep.DeepCutAuto
namespace Go.Proofs.YtadadidccbhopaaGreat
open Go.RowKit
set_option maxRecDepth 100000
/-- The document's store that was opened: as one thing. -/
theorem rt_open {w0 w : World} {d q base gb cb : Nat} {v : Value} {va vc : Nat → Nat} {N : Nat} (hN : 1 ≤ N ∧ N ≤ 8) (h : RSt0 w0 w d q N v) (hd : RefW w base d N false 0 (fun _ => zer :: []) gb cb va vc) (hd0 : d < w0.heap.size ∧ gb < w0.heap.size ∧ ∀ i, i < N → va i < w0.heap.size) :
    RT w q d N 1 (List.replicate N zer) (fun _ => zer :: []) [] 0 (fun k => (Rk d gb N va k ∨ w0.heap.size ≤ k) ∧ k < w.heap.size) := by
  obtain ⟨hl, h2⟩ := h.ow
  have hq := h.qe
  have hz := h.sz
  rcases h2 with ⟨_, h0⟩ | ⟨g, cap, cur, hv, hg, hh, hn, hm, hs, hx⟩
  · omega
  have hlt : g < w.heap.size := (Array.getElem?_eq_some_iff.1 hh).1
  subst hv
  refine ⟨g, cap, none, 0, base, gb, cb, va, vc, {
    at' := ⟨by simpa using h.at', ⟨⟨by simp, by omega⟩, .inl rfl⟩⟩
    bs := ⟨hlt, ⟨by simpa using hn, by unfold maxLen at hm; omega⟩, ⟨by simp; omega, fun b hb => by rw [List.eq_of_mem_replicate hb]; simp [zer]⟩, fun i b hi => ?_⟩
    fz := fun o => frozen_of_row _ _ _ _ _ hh
    bl := by simp
    ds := hd
    vl := fun i _ => by simp
    lk := ⟨by simp, fun c hc => (by cases hc), fun c hc => (by cases hc)⟩
    ao' := .inl rfl
    a1 := by omega
    a2 := fun g o e => by cases e
    a3 := fun i hi => by have := hd0.2.2 i hi; omega
    a4 := fun c hc => by cases hc
    k1 := ⟨⟨.inr (by omega), by omega⟩, ⟨.inr (by omega), hlt⟩⟩
    k2 := fun k hk => ⟨.inl hk, by
      rcases hk with e | e | ⟨i, hi, e⟩
      · omega
      · omega
      · have := hd0.2.2 i hi; omega⟩
    k3 := fun g o e => by cases e
    lt := fun k hk => hk.2 }⟩
  have hi5 : i < N := by
    have := (List.getElem?_eq_some_iff.1 hi).1
    simpa using this
  rw [List.getElem?_replicate, if_pos hi5] at hi
  cases hi
  rw [cell_of_row _ _ _ _ _ _ hh]
  have e : (cur.toList.take (N * 1))[i]? = (txs N)[i]? := by rw [hx]
  rw [List.getElem?_take, if_pos (by omega)] at e
  rw [← Array.getElem?_toList, e]
  unfold txs
  rw [List.getElem?_replicate, if_pos hi5]
/-- Both stores of N blocks of which nothing was changed. -/
theorem bx_open {N : Nat} (hN : 1 ≤ N ∧ N ≤ 8) {w w1 w2 w3 w4 : World} {dp dq gb cb p cm bm cp mb : Nat} {va vc : Nat → Nat} {v4 : Value} {s2 : PSt}
    (hD1 : DiskAt w1 w.heap.size dp N false 0 (fun _ => zer) (fun _ => []) dq (fun _ => .slice none 0 0)) (hb1 : Below w.heap.size w w1)
    (hR2 : RefW w2 w1.heap.size w1.heap.size N false 0 (fun _ => zer :: []) gb cb va vc) (hgb : w1.heap.size ≤ gb) (hva : ∀ i, i < N → w1.heap.size ≤ va i) (hb2 : Below w1.heap.size w1 w2)
    (hs2 : s2 = newS p cm bm ⟨cp, mb, 0, .slice none 0 0, N, [], dp, N, dq, false, 0, fun _ => zer, fun _ => [], fun _ => .slice none 0 0⟩)
    (hP2 : PM w3 w.heap.size s2 (fun _ => [])) (hbd : w2.heap.size ≤ p ∧ w2.heap.size ≤ cm ∧ w2.heap.size ≤ bm ∧ w2.heap.size ≤ cp ∧ w2.heap.size ≤ mb) (hb3 : Below w2.heap.size w2 w3)
    (hS4 : RSt0 w3 w4 w1.heap.size w3.heap.size N v4) : s2.cnt = 0 ∧ ∃ D, BX N w w4 p dp w1.heap.size w3.heap.size s2 (fun _ => []) 0 1 (fun _ => []) [] D := by
  have hL2 : PL s2 (fun _ => []) [] 0 := by rw [hs2]; exact PL.made rfl ⟨by show N ≤ N; omega, by show N ≤ 8; omega⟩ ⟨rfl, rfl⟩ rfl rfl
  have e2 : s2.p = p ∧ s2.σ.dp = dp ∧ s2.σ.dn = N ∧ s2.cnt = 0 ∧ s2.C = [] ∧ s2.B = [] := by rw [hs2]; exact ⟨rfl, rfl, rfl, rfl, rfl, rfl⟩
  have hsf : s2.σ.sf = fun _ => zer := by rw [hs2]; rfl
  have hws : s2.σ.ws = fun _ => [] := by rw [hs2]; rfl
  have hAK : ∀ k, Ak s2 k → k < w1.heap.size ∨ (w2.heap.size ≤ k ∧ k < w3.heap.size) := fun k hk => by
    have hlt := hP2.lt hk
    rw [hs2] at hk
    rcases hk with (hk | hk | hk | ⟨c, hc, _⟩ | ⟨b, hb, _⟩) | (hk | hk | hk | ⟨e, he, _⟩) | hk
    · have hk' : k = p := hk
      exact .inr ⟨by omega, hlt⟩
    · have hk' : k = cm := hk
      exact .inr ⟨by omega, hlt⟩
    · have hk' : k = bm := hk
      exact .inr ⟨by omega, hlt⟩
    · cases hc
    · cases hb
    · have hk' : k = cp := hk
      exact .inr ⟨by omega, hlt⟩
    · have hk' : k = mb := hk
      exact .inr ⟨by omega, hlt⟩
    · have hk' : (none : Option Nat) = some k := hk
      cases hk'
    · cases he
    · exact .inl (hD1.dk_lt hk).1
  have hB2 : Below w.heap.size w w2 := hb1.trans (hb2.mono hb1.size)
  have hG3 : GN N w w3 p dp s2 (fun _ => []) 0 := ⟨hP2, hL2, hB2.trans (hb3.mono hB2.size), e2.1, e2.2.1, e2.2.2.1⟩
  have hR3 := hR2.below hb3
  have hz : w1.heap.size ≤ w2.heap.size ∧ w2.heap.size ≤ w3.heap.size ∧ w.heap.size ≤ w1.heap.size := ⟨hb2.size, hb3.size, hb1.size⟩
  have hl : w1.heap.size < w2.heap.size ∧ gb < w2.heap.size ∧ ∀ i, i < N → va i < w2.heap.size := ⟨hR2.rl, hR2.at'.gl, fun i hi => (hR2.at'.row i hi).2.1⟩
  have hR4 := hR3.below hS4.be
  have hbas : basS N s2 = List.replicate N zer := by
    unfold basS
    rw [hsf]
    apply List.ext_getElem
    · simp
    · intro i h1 h2; simp
  refine ⟨e2.2.2.2.1, _, hG3.up hS4.be, PA.made e2.2.2.2.2.1 e2.2.2.2.2.2, ⟨_, by rw [e2.2.2.2.1, hbas]; exact rt_open hN hS4 hR4 ⟨by omega, by omega, fun i hi => by have := hl.2.2 i hi; omega⟩, fun i hi => by rw [hsf, hws]⟩, by rw [e2.2.2.2.2.1]; rfl, fun k hk hA => ?_, fun k hk => ?_⟩
  · rcases hAK k hA with h1 | h1
    · rcases hk.1 with (e | e | ⟨i, hi, e⟩) | e
      · omega
      · omega
      · have := hva i hi; omega
      · omega
    · rcases hk.1 with (e | e | ⟨i, hi, e⟩) | e
      · omega
      · omega
      · have := hl.2.2 i hi; omega
      · omega
  · rcases hk.1 with (e | e | ⟨i, hi, e⟩) | e
    · omega
    · omega
    · have := hva i hi; omega
    · omega
end Go.Proofs.YtadadidccbhopaaGreat
/- leveelaw12.known. -/
namespace Go.Proofs.YtadadidccbhopaaGreat
open Go.RowKit
set_option maxRecDepth 100000
/-- Work of which nothing waits, beside a store. -/
structure QK (w : World) (s : PSt) (q : Nat) : Prop where
  at' : w.heap[q]? = some (.cells #[.slice none 0 0] 169 (0, 0))
  no : ¬ Ak s q
section
variable {w0 w : World} {p dp : Nat} {s s' : PSt} {ops : Nat → List Int} {κ : Nat}
theorem QK.run {w' : World} {q : Nat} (h : QK w s q) (hf : Fr (Ak s) w w') (hs : ∀ k, Ak s' k → Ak s k ∨ w.heap.size ≤ k) : QK w' s' q := by
  have hl : q < w.heap.size := (Array.getElem?_eq_some_iff.1 h.at').1
  refine ⟨(hf.blk q hl h.no).trans h.at', fun hA => ?_⟩
  rcases hs q hA with h1 | h1
  · exact h.no h1
  · omega
theorem kp0 (h : GW w0 w p dp s ops κ) (hκ : κ ≤ 1000) (x : UInt8) (n f : Nat) (hn : n < 5) (hf : f + 1 ≤ 256) :
    Calls Tryz.prog 28 #[.pointer (some ⟨p, 0, none⟩), .int .i64 (n : Int), .int .i64 (f : Int), .slice (some ⟨w.heap.size, 0, none⟩) 1 1, .slice none 0 0] (w.alloc (.cells #[bv x] 5 (1, 2))) fun r w' => r = .returned (.tuple #[.int .i64 ((s.cnt + 1 : Nat) : Int), .int .i64 0]) ∧ ∃ s' ops' c, GW w0 w' p dp s' ops' (κ + 1) ∧ PatchS s n f [x] [] s' c ∧ Fr (Ak s) w w' ∧ (∀ k, Ak s' k → Ak s k ∨ w.heap.size ≤ k) := by
  have hb : Below w.heap.size w (w.alloc (.cells #[bv x] 5 (1, 2))) := (Below.refl _ _).alloc (Nat.le_refl _) _
  have hg := h.up hb
  have PT := pw_patch hg.pm hg.pl (by omega) n f (by rw [hg.dn]; exact hn) [x] w.heap.size 0 1 (src_one w x) (by simp) (by simp; omega) none 0 [] (.inl rfl) (.inl ⟨rfl, rfl⟩) (fun b o e => by cases e) (fun hA => by have := h.pm.lt hA; omega) (by simp) (fun i hi => by cases hi)
  rw [hg.p] at PT
  refine PT.mono ?_
  rintro r w' ⟨rfl, s', o', c, hR, hL, hS⟩
  exact ⟨rfl, s', o', c, hg.run hR hL hS.p hS.dp hS.dn, hS, (Fr.of_below hb).trans hR.fr, fun k hk => (hR.sub k hk).imp_right fun e => by have := hb.size; omega⟩
theorem kp1 (h : GW w0 w p dp s ops κ) (hκ : κ ≤ 1000) (x : UInt8) (n f : Nat) (hn : n < 5) (hf : f + 1 ≤ 256) (i : Int) (hi : 1 ≤ i ∧ i ≤ (s.cnt : Int)) :
    Calls Tryz.prog 28 #[.pointer (some ⟨p, 0, none⟩), .int .i64 (n : Int), .int .i64 (f : Int), .slice (some ⟨w.heap.size, 0, none⟩) 1 1, .slice (some ⟨w.heap.size + 1, 0, none⟩) 1 1] ((w.alloc (.cells #[bv x] 5 (1, 2))).alloc (.cells #[.int .i64 i] 2)) fun r w' => r = .returned (.tuple #[.int .i64 ((s.cnt + 1 : Nat) : Int), .int .i64 0]) ∧ ∃ s' ops' c, GW w0 w' p dp s' ops' (κ + 1) ∧ PatchS s n f [x] [i] s' c ∧ Fr (Ak s) w w' ∧ (∀ k, Ak s' k → Ak s k ∨ w.heap.size ≤ k) := by
  have z1 := size_alloc w (.cells #[bv x] 5 (1, 2))
  have z2 := size_alloc (w.alloc (.cells #[bv x] 5 (1, 2))) (.cells #[.int .i64 i] 2)
  have hb1 : Below (w.alloc (.cells #[bv x] 5 (1, 2))).heap.size (w.alloc (.cells #[bv x] 5 (1, 2))) ((w.alloc (.cells #[bv x] 5 (1, 2))).alloc (.cells #[.int .i64 i] 2)) := (Below.refl _ _).alloc (Nat.le_refl _) _
  have hb : Below w.heap.size w ((w.alloc (.cells #[bv x] 5 (1, 2))).alloc (.cells #[.int .i64 i] 2)) := ((Below.refl _ _).alloc (Nat.le_refl _) _).alloc (by omega) _
  have hg := h.up hb
  have hsi := srcI_one (w.alloc (.cells #[bv x] 5 (1, 2))) i
  rw [z1] at hsi
  have PT := pw_patch hg.pm hg.pl (by omega) n f (by rw [hg.dn]; exact hn) [x] w.heap.size 0 1 ((src_one w x).below hb1 (Nat.le_refl _)) (by simp) (by simp; omega) (some ⟨w.heap.size + 1, 0, none⟩) 1 [i] hsi (.inr ⟨_, _, rfl⟩) (fun b o e => by
    cases e
    exact ⟨fun hA => by have := h.pm.lt hA; omega, by omega⟩) (fun hA => by have := h.pm.lt hA; omega) (by simp) (fun j hj => by
    have : j = i := by simpa using hj
    omega)
  rw [hg.p] at PT
  refine PT.mono ?_
  rintro r w' ⟨rfl, s', o', c, hR, hL, hS⟩
  exact ⟨rfl, s', o', c, hg.run hR hL hS.p hS.dp hS.dn, hS, (Fr.of_below hb).trans hR.fr, fun k hk => (hR.sub k hk).imp_right fun e => by have := hb.size; omega⟩
end
set_option maxHeartbeats 8000000 in
theorem known12_any (w : World) : Calls Tryz.prog 44 #[] w fun e w' => e = .returned (.bool true) ∧ Below w.heap.size w w' := by
  have OP := open12_any w
  go_enter Tryz.func44, Tryz.ntmps44
  go_wp2_with (first | (go_at_call 35; refine Hid.out ?_))
  change Calls _ _ _ _ _
  refine OP.mono ?_
  clear OP
  rintro r w1 ⟨p, dp, rs, s1, rfl, he1, hG1⟩
  have HG1 : Hid (GW w w1 p dp s1 (fun _ => []) 0) := hG1
  have HE1 : Hid (s1.cnt = 0 ∧ s1.C = []) := he1
  have NW := wnew_any w1
  clear hG1 he1
  go_wp2_with (first | (go_at_call 47; refine Hid.out ?_))
  change Calls _ _ _ _ _
  refine NW.mono ?_
  clear NW
  rintro r w2 ⟨rfl, hW2, hb2⟩
  have HQ2 : Hid (QK w2 s1 w1.heap.size) := ⟨hW2.at', fun hA => by have := HG1.out.pm.lt hA; omega⟩
  have HG2 : Hid (GW w w2 p dp s1 (fun _ => []) 0) := HG1.out.up hb2
  have HQB : Hid (w.heap.size ≤ w1.heap.size) := HG1.out.be.size
  clear hW2 hb2 HG1
  generalize w1.heap.size = q at *
  have cv := conv_const w2 #[.int .u8 97] 1 1
  have PT := kp0 HG2.out (by omega) 97 3 0 (by omega) (by omega)
  rw [HE1.out.1] at PT
  change Calls _ _ #[.pointer (some ⟨p, 0, none⟩), .int .i64 3, .int .i64 0, .slice (some ⟨w2.heap.size, 0, none⟩) 1 1, .slice none 0 0] (w2.alloc (.cells #[.int .u8 97] 5 (1, 2))) fun r w' => r = .returned (.tuple #[.int .i64 1, .int .i64 0]) ∧ _ at PT
  go_wp2_with (first | (go_at_call 28; refine Hid.out ?_))
  change Calls _ _ _ _ _
  refine PT.mono ?_
  clear PT cv
  rintro r w3 ⟨rfl, s3, o3, c1, hG, hS, hf, hs⟩
  have HG3 : Hid (GW w w3 p dp s3 o3 1) := hG
  have HQ3 : Hid (QK w3 s3 q) := HQ2.out.run hf hs
  have F1 : Hid (c1.id = 1 ∧ c1.b = 3 ∧ c1.wr = false ∧ c1.ah = []) := ⟨by rw [hS.id, HE1.out.1], hS.b, hS.wr, List.eq_nil_iff_forall_not_mem.2 fun i hi => by
    have := hS.ah i hi
    rw [HE1.out.2] at this; cases this⟩
  have HE3 : Hid (s3.cnt = 1 ∧ s3.C = [c1]) := ⟨by rw [hS.cnt, HE1.out.1], by rw [hS.C, HE1.out.2]; rfl⟩
  clear hG hS hf hs HG2 HQ2 HE1
  have cv := conv_const w3 #[.int .u8 98] 1 1
  have PT := kp1 HG3.out (by omega) 98 4 0 (by omega) (by omega) 1 (by have := HE3.out.1; omega)
  rw [HE3.out.1] at PT
  change Calls _ _ #[.pointer (some ⟨p, 0, none⟩), .int .i64 4, .int .i64 0, .slice (some ⟨w3.heap.size, 0, none⟩) 1 1, .slice (some ⟨w3.heap.size + 1, 0, none⟩) 1 1] ((w3.alloc (.cells #[.int .u8 98] 5 (1, 2))).alloc (.cells #[.int .i64 1] 2)) fun r w' => r = .returned (.tuple #[.int .i64 2, .int .i64 0]) ∧ _ at PT
  go_wp2_with (first | (go_at_call 28; refine Hid.out ?_))
  change Calls _ _ _ _ _
  refine PT.mono ?_
  clear PT cv
  rintro r w4 ⟨rfl, s4, o4, c2, hG, hS, hf, hs⟩
  have HG4 : Hid (GW w w4 p dp s4 o4 2) := hG
  have HQ4 : Hid (QK w4 s4 q) := HQ3.out.run hf hs
  have F2 : Hid (c2.id = 2 ∧ c2.b = 4 ∧ c2.wr = false ∧ (1 : Int) ∈ c2.ah ∧ ∀ i ∈ c2.ah, i = 1) := ⟨by rw [hS.id, HE3.out.1], hS.b, hS.wr, hS.tp 1 (by simp) (by rw [HE3.out.1]; rfl) (by rw [HE3.out.2]; simp [opn, F1.out.1]), fun i hi => by
    have := hS.ah i hi
    rw [HE3.out.2] at this
    simp [opn, F1.out.1] at this
    omega⟩
  have HE4 : Hid (s4.cnt = 2 ∧ s4.C = [c1, c2]) := ⟨by rw [hS.cnt, HE3.out.1], by rw [hS.C, HE3.out.2]; rfl⟩
  clear hG hS hf hs HG3 HQ3 HE3
  have cv := conv_const w4 #[.int .u8 99] 1 1
  have PT := kp1 HG4.out (by omega) 99 3 1 (by omega) (by omega) 2 (by have := HE4.out.1; omega)
  rw [HE4.out.1] at PT
  change Calls _ _ #[.pointer (some ⟨p, 0, none⟩), .int .i64 3, .int .i64 1, .slice (some ⟨w4.heap.size, 0, none⟩) 1 1, .slice (some ⟨w4.heap.size + 1, 0, none⟩) 1 1] ((w4.alloc (.cells #[.int .u8 99] 5 (1, 2))).alloc (.cells #[.int .i64 2] 2)) fun r w' => r = .returned (.tuple #[.int .i64 3, .int .i64 0]) ∧ _ at PT
  go_wp2_with (first | (go_at_call 28; refine Hid.out ?_))
  change Calls _ _ _ _ _
  refine PT.mono ?_
  clear PT cv
  rintro r w5 ⟨rfl, s5, o5, c3, hG, hS, hf, hs⟩
  have HG5 : Hid (GW w w5 p dp s5 o5 3) := hG
  have HQ5 : Hid (QK w5 s5 q) := HQ4.out.run hf hs
  have HK3 : Hid (K3 c1 c2 c3) := ⟨F1.out.1, F2.out.1, by rw [hS.id, HE4.out.1], F1.out.2.1, F2.out.2.1, hS.b, F1.out.2.2.1, F2.out.2.2.1, hS.wr, F1.out.2.2.2, F2.out.2.2.2.2, F2.out.2.2.2.1, fun i hi => by
    have := hS.ah i hi
    rw [HE4.out.2] at this
    simp [opn, F1.out.1, F2.out.1] at this
    omega, hS.tp 2 (by simp) (by rw [HE4.out.1]; rfl) (by rw [HE4.out.2]; simp [opn, F2.out.1])⟩
  have HE5 : Hid (s5.cnt = 3 ∧ s5.C = [c1, c2, c3]) := ⟨by rw [hS.cnt, HE4.out.1], by rw [hS.C, HE4.out.2]; rfl⟩
  clear hG hS hf hs HG4 HQ4 HE4 F1 F2
  have hz5 : w.heap.size ≤ w5.heap.size := HG5.out.be.size
  have LT := later_any (w := w5) (base := w.heap.size) (q := q) (v := .slice none 0 0) (l := []) ⟨HQ5.out.at', World.ownsRow_nil _ _ _ _, by simp [Value.ownBlock], HQB.out⟩ 3 1 7 (by omega) (by simp) hz5
  go_wp2_with (first | (go_at_call 48; refine Hid.out ?_))
  change Calls _ _ _ _ _
  refine LT.mono ?_
  clear LT
  rintro r w6 ⟨rfl, v6, hW6, hf6, hb6, hn6⟩
  obtain ⟨g6, c6, rfl, hg6, hk6⟩ := hW6.one
  have hpm6 : PM w6 w.heap.size s5 o5 := HG5.out.pm.fr hf6 fun k hk e => by
    rcases e with e | e
    · exact HQ5.out.no (e ▸ hk)
    · cases e
  have HG6 : Hid (GW w w6 p dp s5 o5 3) := { HG5.out with pm := hpm6, be := HG5.out.be.trans hb6 }
  have HW6 : Hid (Wk1 w6 q g6 c6 ⟨1, 7, 3⟩ ∧ ¬ Ak s5 q ∧ ¬ Ak s5 g6) := ⟨hk6, HQ5.out.no, fun hA => by
    rcases hn6 g6 rfl with e | e
    · cases e
    · have := HG5.out.pm.lt hA; omega⟩
  have HRP : Hid (rpB s5 ⟨1, 7, 3⟩ = false) := by
    show rpB s5 ⟨1, 7, 3⟩ = false
    unfold rpB
    have hf : ¬ s5.fC 3 = 0 := by
      rw [HG5.out.pl.fc]
      have := lkC_at HG5.out.pl.asc (c := c3) (by rw [HE5.out.2]; simp)
      rw [HK3.out.i3] at this
      show ¬ lkC s5.C ((3 : Nat) : Int) = 0
      rw [this]; omega
    simp [hf]
  have RN := ripe_not HG6.out HW6.out.1 (by show _ ≤ (3 : Int) ∧ (3 : Int) ≤ _; omega) HRP.out
  clear hW6 hf6 hb6 hn6 hk6 hg6 HG5 HQ5 hz5 hpm6
  go_wp2_with (first | (go_at_call 53; refine Hid.out ?_))
  change Calls _ _ _ _ _
  refine RN.mono ?_
  clear RN
  rintro r w7 ⟨rfl, hb7⟩
  have HG7 : Hid (GW w w7 p dp s5 o5 3) := HG6.out.up hb7
  have HW7 : Hid (Wk1 w7 q g6 c6 ⟨1, 7, 3⟩) := HW6.out.1.up hb7
  have ON := one_any HG7.out 100 (by rw [HE5.out.2]; simp) (by omega) 3 (by omega)
  clear hb7 HG6
  go_wp2_with (first | (go_at_call 39; refine Hid.out ?_))
  change Calls _ _ _ _ _
  refine ON.mono ?_
  clear ON
  rintro r w8 ⟨n, s8, o8, rfl, hG8, hr8, hc8, hf8, hs8⟩
  rw [HE5.out.2] at hr8
  obtain ⟨rfl, hC8⟩ := HK3.out.rds hr8
  have HG8 : Hid (GW w w8 p dp s8 o8 100) := hG8
  have HE8 : Hid (s8.cnt = 3 ∧ s8.C = []) := ⟨hc8.trans HE5.out.1, hC8⟩
  have HW8 : Hid (Wk1 w8 q g6 c6 ⟨1, 7, 3⟩ ∧ ¬ Ak s8 q) := ⟨HW7.out.fr hf8 HW6.out.2.1 HW6.out.2.2, fun hA => by
    rcases hs8 q hA with e | e
    · exact HW6.out.2.1 e
    · have := HW7.out.ql; omega⟩
  have HF8 : Hid (s8.fC 3 = 0) := by show s8.fC 3 = 0; rw [hG8.pl.fc, hC8]; rfl
  have RY := ripe_yes HG8.out HW8.out.1 HW8.out.2 HQB.out (by show _ ≤ (3 : Int) ∧ (3 : Int) ≤ _; omega) (by unfold rpB; simp [HE8.out.1, HF8.out])
  rw [show ((3 : Nat) : Int) = 3 from rfl]
  clear hG8 hr8 hc8 hf8 hs8 hC8 HG7 HW7 HW6 HRP
  go_wp2_with (first | (go_at_call 53; refine Hid.out ?_))
  change Calls _ _ _ _ _
  refine RY.mono ?_
  clear RY
  rintro r w9 ⟨G, c, rfl, hn9, hq9, hf9, ho9, ht9, hu9⟩
  have HG9 : Hid (GW w w9 p dp s8 o8 100) := { HG8.out with pm := HG8.out.pm.fr hf9 (fun k hk e => HW8.out.2 (e ▸ hk)), be := HG8.out.be.trans ⟨ho9, ht9, hu9, hf9.size, fun k hk => hf9.blk k (by have := HG8.out.be.size; omega) (fun e => by have := HQB.out; omega)⟩ }
  have SF := psafe_any HG9.out.pm 3 (by omega)
  rw [HG9.out.p, decide_eq_true (show 1 ≤ (3 : Int) ∧ (3 : Int) ≤ (s8.cnt : Int) ∧ s8.fC 3 = 0 from ⟨by omega, by rw [HE8.out.1]; omega, HF8.out⟩)] at SF
  have LE := wlen_cell hq9
  clear hf9 ho9 ht9 hu9
  go_wp2_with (first | (go_at_call 29; refine Hid.out ?_))
  change Calls _ _ _ _ _
  refine SF.mono ?_
  clear SF
  rintro r wx ⟨rfl, hwx⟩
  obtain rfl : w9 = wx := hwx.symm
  go_wp2_with (first | (go_at_call 58; refine Hid.out ?_))
  change Calls _ _ _ _ _
  refine LE.mono ?_
  clear LE
  rintro r wy ⟨rfl, hwy⟩
  obtain rfl : w9 = wy := hwy.symm
  go_wp2_with fail
  go_ret
  exact ⟨rfl, HG9.out.be⟩
end Go.Proofs.YtadadidccbhopaaGreat
/- leveelaw12.PushOnes: the walk. -/
namespace Go.Proofs.YtadadidccbhopaaGreat
open Go.RowKit
set_option maxRecDepth 100000
set_option maxHeartbeats 4000000 in
theorem open12x_any (w : World) :
    Calls Tryz.prog 35 #[] w fun e w' => ∃ p dp ed q s D, e = .returned (.tuple #[.pointer (some ⟨p, 0, none⟩), .pointer (some ⟨dp, 0, none⟩), .pointer (some ⟨q, 0, none⟩), .bool true]) ∧ s.cnt = 0 ∧ BX 5 w w' p dp ed q s (fun _ => []) 0 1 (fun _ => []) [] D := by
  have NW := new_any w 5 (by omega) (by omega)
  rw [show ((5 : Nat) : Int) = 5 from rfl] at NW
  have RN := fun W => rnew_any 5 (by omega) (by omega) W
  rw [show ((5 : Nat) : Int) = 5 from rfl] at RN
  go_enter Tryz.func35, Tryz.ntmps35
  go_wp2_with fail
  refine NW.mono ?_
  clear NW
  rintro r w1 ⟨dp, dq, rfl, hD1, hb1⟩
  have HD1 : Hid (DiskAt w1 w.heap.size dp 5 false 0 (fun _ => zer) (fun _ => []) dq (fun _ => .slice none 0 0)) := hD1
  have HB1 : Hid (Below w.heap.size w w1) := hb1
  clear hD1 hb1
  go_wp2_with fail
  refine (RN _).mono ?_
  clear RN
  rintro r w2 ⟨rfl, ⟨gb, cb, va, vc, hR2, hgb, hva⟩, hb2⟩
  have HR2 : Hid (RefW w2 w1.heap.size w1.heap.size 5 false 0 (fun _ => zer :: []) gb cb va vc ∧ w1.heap.size ≤ gb ∧ ∀ i, i < 5 → w1.heap.size ≤ va i) := ⟨hR2, hgb, hva⟩
  have HB2 : Hid (Below w.heap.size w w2) := HB1.out.trans (hb2.mono HB1.out.size)
  have HB12 : Hid (Below w1.heap.size w1 w2) := hb2
  have PO := popn_any2 (HD1.out.below hb2 (Nat.le_refl _)) 5 (by omega) (by omega)
  rw [show ((5 : Nat) : Int) = 5 from rfl] at PO
  clear hR2 hb2 hgb hva
  go_wp2_with fail
  refine PO.mono ?_
  clear PO
  rintro r w3 ⟨p, cm, bm, cp, mb, rfl, hP2, hbd, hb3⟩
  obtain ⟨s2, hs2⟩ : ∃ s2, s2 = newS p cm bm ⟨cp, mb, 0, .slice none 0 0, 5, [], dp, 5, dq, false, 0, fun _ => zer, fun _ => [], fun _ => .slice none 0 0⟩ := ⟨_, rfl⟩
  rw [← hs2] at hP2
  have HP : Hid (s2 = newS p cm bm ⟨cp, mb, 0, .slice none 0 0, 5, [], dp, 5, dq, false, 0, fun _ => zer, fun _ => [], fun _ => .slice none 0 0⟩ ∧ PM w3 w.heap.size s2 (fun _ => []) ∧ (w2.heap.size ≤ p ∧ w2.heap.size ≤ cm ∧ w2.heap.size ≤ bm ∧ w2.heap.size ≤ cp ∧ w2.heap.size ≤ mb) ∧ Below w2.heap.size w2 w3) := ⟨hs2, hP2, hbd, hb3⟩
  have RO := ropen_any ((HR2.out.1.below hb3).at') (by omega)
  clear hs2 hP2 hb3 hbd
  go_wp2_with (first | (go_at_call 13; refine Hid.out ?_))
  change Calls _ _ _ _ _
  refine RO.mono ?_
  clear RO
  rintro r w4 ⟨rfl, v4, hS4⟩
  have HBX : Hid (s2.cnt = 0 ∧ ∃ D, BX 5 w w4 p dp w1.heap.size w3.heap.size s2 (fun _ => []) 0 1 (fun _ => []) [] D) := bx_open (by omega) HD1.out HB1.out HR2.out.1 HR2.out.2.1 HR2.out.2.2 HB12.out HP.out.1 HP.out.2.1 HP.out.2.2.1 HP.out.2.2.2 hS4
  clear hS4
  go_wp2_with fail
  (try simp only [Exit.inBlock, Exit.then])
  refine bodyPost_ret (results_tmp4 rfl _ _ _) rfl ?_
  obtain ⟨hc, D, hD⟩ := HBX.out
  exact ⟨p, dp, w1.heap.size, w3.heap.size, s2, D, rfl, hc, hD⟩
section
variable {w0 w w1 w2 : World} {p dp ed q : Nat} {s s' : PSt} {ops ops' : Nat → List Int} {κ κ' m m' : Nat} {A : Nat → List Int} {L : List RCh} {D : Nat → Prop}
/-- The program's store has gone on, then the document's as far. -/
theorem BX.join (h : BX 5 w0 w p dp ed q s ops κ m A L D) (hg : GW w0 w1 p dp s' ops' κ') (hs : ∀ k, Ak s' k → Ak s k ∨ w.heap.size ≤ k) (hd : DW w1 w2 ed q s' m' A D) : ∃ L' D', BX 5 w0 w2 p dp ed q s' ops' κ' m' A L' D' := by
  obtain ⟨ops2, κ2, L2, D2, h1, h2⟩ := hd.dx
  have hap : ∀ k, Ak s' k → ¬ D k := fun k hA hD => by
    rcases hs k hA with h3 | h3
    · exact h.no k hD h3
    · have := h.dx.ltD k hD; omega
  refine ⟨L2, D2, hg.gn.keep hd.fr hap h.db, h1.pa, h1.rt, h1.al, fun k hk hA => ?_, fun k hk => ?_⟩
  · rcases h2 k hk with h3 | h3
    · exact hap k hA h3
    · have := hg.pm.lt hA; omega
  · rcases h2 k hk with h3 | h3
    · exact h.db k h3
    · have := hg.be.size; omega
end
set_option maxHeartbeats 16000000 in
theorem pushOnes_any (sp : Option Addr) (m cap : Nat) (X : Nat → Chg) (id0 n : Int) (all : Bool) (hid : -9223372036854775808 ≤ id0 ∧ id0 ≤ 9223372036854775807) (w : World) (h1 : m ≤ cap ∧ (cap : Int) ≤ 9223372036854775807 ∧ ChgsAt w sp m X) :
    Calls Tryz.prog 6 #[.slice sp m cap, .int .i64 id0, .int .i64 n, .bool all] w fun e w' => e = .returned (.bool true) ∧ Below w.heap.size w w' := by
  obtain ⟨hm1, hm2, hA⟩ := h1
  have OP := open12x_any w
  have HAA : Hid (ChgsAt w sp m X) := hA
  have HM0 : Hid (m ≤ cap ∧ (cap : Int) ≤ 9223372036854775807) := ⟨hm1, hm2⟩
  clear hA hm1 hm2
  go_enter Tryz.func6, Tryz.ntmps6
  go_wp2_with fail
  refine OP.mono ?_
  clear OP
  rintro r w1 ⟨p, dp, ed, q, s0, D0, rfl, hc0, hB0⟩
  have LY := xlay_fr sp m cap X HAA.out HM0.out.1 HM0.out.2 hB0 hc0
  clear hB0 hc0
  go_wp2_with (first | (go_at_call 36; refine Hid.out ?_))
  change Calls _ _ _ _ _
  refine LY.mono ?_
  clear LY
  rintro r w2 ⟨rfl, s, ops, A, L0, D, hB, hcnt, _⟩
  have ST := pstep_S hB.gw.gw hB.pa (by omega) n
  have HB : Hid (BX 5 w w2 p dp ed q s ops 90 31 A L0 D ∧ s.cnt ≤ 30) := ⟨hB, hcnt⟩
  clear hB hcnt HAA HM0
  go_wp2_with (first | (go_at_call 37; refine Hid.out ?_))
  change Calls _ _ _ _ _
  refine ST.mono ?_
  clear ST
  rintro r w3 ⟨x, er, s1, rfl, hG1, hA1, hS1, hc1, hf1, hs1⟩
  have DS := dstep_any (HB.out.1.dx.keep hf1 HB.out.1.no) (by omega) n hS1
  have H1 : Hid (GW w w3 p dp s1 ops 91 ∧ s1.cnt ≤ 30 ∧ ∀ k, Ak s1 k → Ak s k ∨ w2.heap.size ≤ k) := ⟨hG1, by rw [hc1]; exact HB.out.2, hs1⟩
  clear hG1 hA1 hS1 hc1 hf1 hs1
  go_wp2_with (first | (go_at_call 38; refine Hid.out ?_))
  change Calls _ _ _ _ _
  refine DS.mono ?_
  clear DS
  rintro r w4 ⟨rfl, hd4⟩
  obtain ⟨L1, D1, hB1⟩ := HB.out.1.join H1.out.1 H1.out.2.2 hd4
  have q3 := hB1.rs.c3
  have HB1 : Hid (BX 5 w w4 p dp ed q s1 ops 91 32 A L1 D1 ∧ s1.cnt ≤ 30) := ⟨hB1, H1.out.2.1⟩
  have hcn : (s1.cnt : Int) ≤ 30 := by have := H1.out.2.1; omega
  clear hd4 hB1 HB H1
  go_upto_if 60 with fail
  go_cut [1] (fun t wc => ∃ id : Int, t = .int .i64 id ∧ (-9223372036854775808 ≤ id ∧ id ≤ 9223372036854775807) ∧ wc = w4)
  case first =>
    by_cases hc0 : (0 : Int) < (s1.cnt : Int)
    · have hz : ¬ (s1.cnt : Int) + 2 = 0 := by omega
      have hzb : ((s1.cnt : Int) + 2 == 0) = false := by simpa using hz
      have htm := tmod_bd (a := id0) (b := (s1.cnt : Int) + 2) (by omega)
      go_wp2_with fail
      go_meet
      exact ⟨_, rfl, by omega, rfl⟩
    · go_wp2_with fail
      go_meet
      exact ⟨_, rfl, hid, rfl⟩
  case rest =>
    obtain ⟨id, rfl, hidb, hwc⟩ := hcut
    obtain rfl : w4 = wc := hwc.symm
    clear q3 hcn hid
    have HCL : Hid (s1.C.length ≤ 31) := by
      show _ ≤ _
      have h1 := HB1.out.1.gw.pl.clen
      have h2 := HB1.out.2
      omega
    have ON := one_S HB1.out.1.gw.gw HB1.out.1.pa 308 (by have := HCL.out; omega) (by omega) id hidb
    go_wp2_with (first | (go_at_call 39; refine Hid.out ?_))
    change Calls _ _ _ _ _
    refine ON.mono ?_
    clear ON
    rintro r w5 ⟨n5, s5, ops5, rfl, hG5, _, hR5, hc5, hf5, hs5⟩
    have DO := rone_any (HB1.out.1.dx.keep hf5 HB1.out.1.no) id (by have := HCL.out; omega) (by omega) hR5
    have H5 : Hid (GW w w5 p dp s5 ops5 308 ∧ s5.cnt ≤ 30 ∧ ∀ k, Ak s5 k → Ak s1 k ∨ w4.heap.size ≤ k) := ⟨hG5, by rw [hc5]; exact HB1.out.2, hs5⟩
    clear hG5 hR5 hc5 hf5 hs5
    go_wp2_with (first | (go_at_call 40; refine Hid.out ?_))
    change Calls _ _ _ _ _
    refine DO.mono ?_
    clear DO
    rintro r w6 ⟨rfl, hd6⟩
    obtain ⟨L6, D6, hB6⟩ := HB1.out.1.join H5.out.1 H5.out.2.2 hd6
    have SM := same12_any hB6 (by omega)
    have HC6 : Hid (s5.cnt ≤ 30 ∧ 32 + 5 * s1.C.length ≤ 200) := ⟨H5.out.2.1, by have := HCL.out; omega⟩
    clear hd6 hB6 H5 HB1
    go_wp2_with (first | (go_at_call 41; refine Hid.out ?_))
    change Calls _ _ _ _ _
    refine SM.mono ?_
    clear SM
    rintro r w7 ⟨rfl, s7, hB7, hc7, _⟩
    have HB7 : Hid (BX 5 w w7 p dp ed q s7 ops5 313 200 A L6 D6 ∧ s7.cnt ≤ 30) := ⟨hB7.more (by omega) HC6.out.2, by rw [hc7]; exact HC6.out.1⟩
    clear hB7 hc7 HC6 HCL
    cases all with
    | false =>
      have KN := known12_any w7
      go_wp2_with (first | (go_at_call 44; refine Hid.out ?_))
      change Calls _ _ _ _ _
      refine KN.mono ?_
      clear KN
      rintro r wk ⟨rfl, hbk⟩
      have HBK : Hid (Below w.heap.size w wk) := HB7.out.1.gw.be.trans (hbk.mono HB7.out.1.gw.be.size)
      clear hbk
      go_wp2_with fail
      go_ret
      exact ⟨rfl, HBK.out⟩
    | true =>
      have HCL : Hid (s7.C.length ≤ 31) := by
        show _ ≤ _
        have h1 := HB7.out.1.gw.pl.clen
        have h2 := HB7.out.2
        omega
      have AL := all_S HB7.out.1.gw.gw HB7.out.1.pa 530 (by have := HCL.out; omega) (by omega)
      go_wp2_with (first | (go_at_call 42; refine Hid.out ?_))
      change Calls _ _ _ _ _
      refine AL.mono ?_
      clear AL
      rintro r w8 ⟨n8, s8, ops8, rfl, hG8, _, hR8, hc8, hf8, hs8⟩
      have DA := rall_any (HB7.out.1.dx.keep hf8 HB7.out.1.no) (by have := HCL.out; omega) (by omega) hR8
      have H8 : Hid (GW w w8 p dp s8 ops8 530 ∧ ∀ k, Ak s8 k → Ak s7 k ∨ w7.heap.size ≤ k) := ⟨hG8, hs8⟩
      clear hG8 hR8 hc8 hf8 hs8
      go_wp2_with (first | (go_at_call 43; refine Hid.out ?_))
      change Calls _ _ _ _ _
      refine DA.mono ?_
      clear DA
      rintro r w9 ⟨rfl, hd9⟩
      obtain ⟨L9, D9, hB9⟩ := HB7.out.1.join H8.out.1 H8.out.2 hd9
      have SM := same12_any hB9 (by omega)
      clear hd9 hB9 H8 HB7 HCL
      go_wp2_with (first | (go_at_call 41; refine Hid.out ?_))
      change Calls _ _ _ _ _
      refine SM.mono ?_
      clear SM
      rintro r wa ⟨rfl, sa, hBa, _⟩
      have HBa : Hid (Below w.heap.size w wa) := hBa.gw.be
      have KN := known12_any wa
      clear hBa
      go_wp2_with (first | (go_at_call 44; refine Hid.out ?_))
      change Calls _ _ _ _ _
      refine KN.mono ?_
      clear KN
      rintro r wk ⟨rfl, hbk⟩
      have HBK : Hid (Below w.heap.size w wk) := HBa.out.trans (hbk.mono HBa.out.size)
      clear hbk
      go_wp2_with fail
      go_ret
      exact ⟨rfl, HBK.out⟩
theorem pushOnes_law (sp : Option Addr) (m cap : Nat) (X : Nat → Chg) (id0 n : Int) (all : Bool) (w : World) (h1 : m ≤ cap ∧ (cap : Int) ≤ 9223372036854775807 ∧ ChgsAt w sp m X) (hid : -9223372036854775808 ≤ id0 ∧ id0 ≤ 9223372036854775807) :
    Calls Tryz.prog 6 #[.slice sp m cap, .int .i64 id0, .int .i64 n, .bool all] w fun e w' => e = .returned (.bool true) ∧ Below w.heap.size w w' := pushOnes_any sp m cap X id0 n all hid w h1
end Go.Proofs.YtadadidccbhopaaGreat
