/- leveelaw12.open: both stores. -/
import Derived.Test.YthaogbbclocmaaaGreatJRpat5
import Derived.Test.YthaogbbclocmaaaGreatJRdisk8
import Derived.Test.YthaogbbclocmaaaGreatKPacts
import Derived.Deep.RegionWith
import Derived.Deep.RegionLaw
namespace Go.Proofs.YthaogbbclocmaaaGreat
open Go.RowKit
set_option maxRecDepth 100000
/-- The document's store that was opened: as one thing. -/
theorem rs_open {w0 w : World} {d q base gb cb : Nat} {v : Value} {va vc : Nat → Nat} (h : RSt0 w0 w d q 5 v) (hd : RefW w base d 5 false 0 (fun _ => zer :: []) gb cb va vc) (hd0 : d < w0.heap.size ∧ gb < w0.heap.size ∧ ∀ i, i < 5 → va i < w0.heap.size) :
    RS w q 5 1 [] 0 (fun k => (Rk d gb 5 va k ∨ w0.heap.size ≤ k) ∧ k < w.heap.size) := by
  obtain ⟨hl, h2⟩ := h.ow
  have hq := h.qe
  have hz := h.sz
  rcases h2 with ⟨_, h0⟩ | ⟨g, cap, cur, hv, hg, hh, hn, hm, hs, hx⟩
  · omega
  have hlt : g < w.heap.size := (Array.getElem?_eq_some_iff.1 hh).1
  subst hv
  refine ⟨d, g, cap, List.replicate 5 zer, none, 0, base, gb, cb, fun _ => zer :: [], va, vc, {
    at' := ⟨by simpa using h.at', ⟨⟨by simp, by omega⟩, .inl rfl⟩⟩
    bs := ⟨hlt, ⟨by simpa using hn, by unfold maxLen at hm; omega⟩, ⟨by simp, fun b hb => by rw [List.eq_of_mem_replicate hb]; simp [zer]⟩, fun i b hi => ?_⟩
    fz := fun o => frozen_of_row _ _ _ _ _ hh
    bl := by simp
    ds := hd
    vl := fun i _ => by simp
    lk := ⟨by simp, fun c hc => (by cases hc), fun c hc => (by cases hc)⟩
    ao' := .inl rfl
    a1 := by omega
    a2 := fun g o e => by cases e
    a3 := fun i hi => by have := hd0.2.2 i hi; omega
    a4 := fun c hc => by cases hc
    k1 := ⟨⟨.inr (by omega), by omega⟩, ⟨.inr (by omega), hlt⟩⟩
    k2 := fun k hk => ⟨.inl hk, by
      rcases hk with e | e | ⟨i, hi, e⟩
      · omega
      · omega
      · have := hd0.2.2 i hi; omega⟩
    k3 := fun g o e => by cases e
    lt := fun k hk => hk.2 }⟩
  have hi5 : i < 5 := by
    have := (List.getElem?_eq_some_iff.1 hi).1
    simpa using this
  rw [List.getElem?_replicate, if_pos hi5] at hi
  cases hi
  rw [cell_of_row _ _ _ _ _ _ hh]
  have e : (cur.toList.take (5 * 1))[i]? = (txs 5)[i]? := by rw [hx]
  rw [List.getElem?_take, if_pos (by omega)] at e
  rw [← Array.getElem?_toList, e]
  unfold txs
  rw [List.getElem?_replicate, if_pos hi5]
set_option maxHeartbeats 2000000 in
theorem popn_any2 {w : World} {base : Nat} {dp dn dq : Nat} {en : Bool} {lf : Int} {sf : Nat → List UInt8} {ws : Nat → List (List UInt8)} {vs : Nat → Value} (h : DiskAt w base dp dn en lf sf ws dq vs) (most : Nat) (h1 : 1 ≤ most) (h2 : most ≤ 4096) :
    Calls Tryz.prog 11 #[.pointer (some ⟨dp, 0, none⟩), .int .i64 (most : Int)] w fun r w' => ∃ p cm bm cp mb, r = .returned (.tuple #[.pointer (some ⟨p, 0, none⟩), .int .i64 0]) ∧ PM w' base (newS p cm bm ⟨cp, mb, 0, .slice none 0 0, most, [], dp, dn, dq, en, lf, sf, ws, vs⟩) (fun _ => []) ∧ (w.heap.size ≤ p ∧ w.heap.size ≤ cm ∧ w.heap.size ≤ bm ∧ w.heap.size ≤ cp ∧ w.heap.size ≤ mb) ∧ Below w.heap.size w w' := by
  have CN := cnew_any h most h1 h2
  clear h
  go_enter Tryz.func11, Tryz.ntmps11
  go_wp2_with fail
  refine CN.mono ?_
  clear CN
  rintro r w1 ⟨cp, mb, rfl, hC, hcp, hmb, hb1⟩
  have HC : Hid (CS w1 base ⟨cp, mb, 0, .slice none 0 0, most, [], dp, dn, dq, en, lf, sf, ws, vs⟩ []) := hC
  have HB : Hid (Below w.heap.size w w1) := hb1
  have hm1 := fun w => run_makeMap (P := Tryz.prog) 121 w
  have hm2 := fun w => run_makeMap (P := Tryz.prog) 122 w
  clear hC hb1
  go_wp2
  go_ret2
  have s1 : ∀ (v : World) (o : Obj), (v.alloc o).heap.size = v.heap.size + 1 := fun v o => by show (v.heap.push o).size = _; simp
  have b0 : Below w1.heap.size w1 (w1.alloc (.map #[] 0)) := (Below.refl _ _).alloc (Nat.le_refl _) _
  have b1 : Below w1.heap.size w1 ((w1.alloc (.map #[] 0)).alloc (.map #[] 0)) := b0.alloc (by rw [s1]; omega) _
  have b2 : Below w1.heap.size w1 (((w1.alloc (.map #[] 0)).alloc (.map #[] 0)).alloc (.cells #[.pointer (some ⟨dp, 0, none⟩), .pointer (some ⟨cp, 0, none⟩), .int .i64 0, .map (some w1.heap.size), .map (some (w1.heap.size + 1))] 124)) := b1.alloc (by rw [s1, s1]; omega) _
  refine ⟨w1.heap.size + 2, w1.heap.size, w1.heap.size + 1, cp, mb, rfl, PM.made HC.out b2 ⟨by omega, by omega, by omega⟩ ⟨by omega, by omega, by omega⟩ ?_ ?_ ?_, by have := HB.out.size; omega, HB.out.trans (b2.mono HB.out.size)⟩
  · have := heap_alloc_new ((w1.alloc (.map #[] 0)).alloc (.map #[] 0)) (.cells #[.pointer (some ⟨dp, 0, none⟩), .pointer (some ⟨cp, 0, none⟩), .int .i64 0, .map (some w1.heap.size), .map (some (w1.heap.size + 1))] 124)
    rw [s1, s1] at this; exact this
  · exact ((KMap.made w1).same (Below.heap_alloc _ _ _ (by rw [s1]; omega))).same (Below.heap_alloc _ _ _ (by rw [s1, s1]; omega))
  · have := KMap.made (kt := 3) (w1.alloc (.map #[] 0))
    rw [s1] at this
    exact this.same (Below.heap_alloc _ _ _ (by rw [s1, s1]; omega))
set_option maxHeartbeats 4000000 in
theorem open12b_any (w : World) :
    Calls Tryz.prog 35 #[] w fun e w' => ∃ p dp q s D, e = .returned (.tuple #[.pointer (some ⟨p, 0, none⟩), .pointer (some ⟨dp, 0, none⟩), .pointer (some ⟨q, 0, none⟩), .bool true]) ∧ s.cnt = 0 ∧ BW w w' p dp q s (fun _ => []) 0 1 (fun _ => []) [] D := by
  have NW := new_any w 5 (by omega) (by omega)
  rw [show ((5 : Nat) : Int) = 5 from rfl] at NW
  have RN := fun W => rnew_any 5 (by omega) (by omega) W
  rw [show ((5 : Nat) : Int) = 5 from rfl] at RN
  go_enter Tryz.func35, Tryz.ntmps35
  go_wp2_with fail
  refine NW.mono ?_
  clear NW
  rintro r w1 ⟨dp, dq, rfl, hD1, hb1⟩
  have HD1 : Hid (DiskAt w1 w.heap.size dp 5 false 0 (fun _ => zer) (fun _ => []) dq (fun _ => .slice none 0 0)) := hD1
  have HB1 : Hid (Below w.heap.size w w1) := hb1
  clear hD1 hb1
  go_wp2_with fail
  refine (RN _).mono ?_
  clear RN
  rintro r w2 ⟨rfl, ⟨gb, cb, va, vc, hR2, hgb, hva⟩, hb2⟩
  have HR2 : Hid (RefW w2 w1.heap.size w1.heap.size 5 false 0 (fun _ => zer :: []) gb cb va vc ∧ w1.heap.size ≤ gb ∧ ∀ i, i < 5 → w1.heap.size ≤ va i) := ⟨hR2, hgb, hva⟩
  have HB2 : Hid (Below w.heap.size w w2) := HB1.out.trans (hb2.mono HB1.out.size)
  have HB12 : Hid (Below w1.heap.size w1 w2) := hb2
  have PO := popn_any2 (HD1.out.below hb2 (Nat.le_refl _)) 5 (by omega) (by omega)
  rw [show ((5 : Nat) : Int) = 5 from rfl] at PO
  clear hR2 hb2 hgb hva
  go_wp2_with fail
  refine PO.mono ?_
  clear PO
  rintro r w3 ⟨p, cm, bm, cp, mb, rfl, hP2, hbd, hb3⟩
  obtain ⟨s2, hs2⟩ : ∃ s2, s2 = newS p cm bm ⟨cp, mb, 0, .slice none 0 0, 5, [], dp, 5, dq, false, 0, fun _ => zer, fun _ => [], fun _ => .slice none 0 0⟩ := ⟨_, rfl⟩
  have hL2 : PL s2 (fun _ => []) [] 0 := by rw [hs2]; exact PL.made rfl ⟨by show 5 ≤ 5; omega, by show 5 ≤ 8; omega⟩ ⟨rfl, rfl⟩ rfl rfl
  rw [← hs2] at hP2
  have e2 : s2.p = p ∧ s2.σ.dp = dp ∧ s2.σ.dn = 5 ∧ s2.cnt = 0 ∧ s2.C = [] ∧ s2.B = [] := by rw [hs2]; exact ⟨rfl, rfl, rfl, rfl, rfl, rfl⟩
  have HAK : Hid (∀ k, Ak s2 k → k < w1.heap.size ∨ (w2.heap.size ≤ k ∧ k < w3.heap.size)) := fun k hk => by
    have hlt := hP2.lt hk
    rw [hs2] at hk
    rcases hk with (hk | hk | hk | ⟨c, hc, _⟩ | ⟨b, hb, _⟩) | (hk | hk | hk | ⟨e, he, _⟩) | hk
    · have hk' : k = p := hk
      exact .inr ⟨by omega, hlt⟩
    · have hk' : k = cm := hk
      exact .inr ⟨by omega, hlt⟩
    · have hk' : k = bm := hk
      exact .inr ⟨by omega, hlt⟩
    · cases hc
    · cases hb
    · have hk' : k = cp := hk
      exact .inr ⟨by omega, hlt⟩
    · have hk' : k = mb := hk
      exact .inr ⟨by omega, hlt⟩
    · have hk' : (none : Option Nat) = some k := hk
      cases hk'
    · cases he
    · exact .inl (HD1.out.dk_lt hk).1
  have HG3 : Hid ((s2.cnt = 0 ∧ s2.C = [] ∧ s2.B = []) ∧ GW w w3 p dp s2 (fun _ => []) 0) := ⟨⟨e2.2.2.2.1, e2.2.2.2.2⟩, hP2, hL2, HB2.out.trans (hb3.mono HB2.out.size), e2.1, e2.2.1, e2.2.2.1⟩
  have RO := ropen_any ((HR2.out.1.below hb3).at') (by omega)
  have HR3 : Hid (RefW w3 w1.heap.size w1.heap.size 5 false 0 (fun _ => zer :: []) gb cb va vc) := HR2.out.1.below hb3
  have HZ3 : Hid (w1.heap.size ≤ w2.heap.size ∧ w2.heap.size ≤ w3.heap.size ∧ w.heap.size ≤ w1.heap.size) := ⟨HB12.out.size, hb3.size, HB1.out.size⟩
  have HLT : Hid (w1.heap.size < w2.heap.size ∧ gb < w2.heap.size ∧ ∀ i, i < 5 → va i < w2.heap.size) := ⟨HR2.out.1.rl, HR2.out.1.at'.gl, fun i hi => (HR2.out.1.at'.row i hi).2.1⟩
  clear hs2 hL2 hP2 e2 hb3 hbd
  go_wp2_with (first | (go_at_call 13; refine Hid.out ?_))
  change Calls _ _ _ _ _
  refine RO.mono ?_
  clear RO
  rintro r w4 ⟨rfl, v4, hS4⟩
  have HBW : Hid (∃ D, BW w w4 p dp w3.heap.size s2 (fun _ => []) 0 1 (fun _ => []) [] D) := by
    have hz := HZ3.out
    have hl := HLT.out
    have hR4 := HR3.out.below hS4.be
    refine ⟨_, HG3.out.2.up hS4.be, PA.made HG3.out.1.2.1 HG3.out.1.2.2, by rw [HG3.out.1.1]; exact rs_open hS4 hR4 ⟨by omega, by omega, fun i hi => by have := hl.2.2 i hi; omega⟩, by rw [HG3.out.1.2.1]; rfl, fun k hk hA => ?_, fun k hk => ?_⟩
    · rcases HAK.out k hA with h1 | h1
      · rcases hk.1 with (e | e | ⟨i, hi, e⟩) | e
        · omega
        · have := HR2.out.2.1; omega
        · have := HR2.out.2.2 i hi; omega
        · omega
      · rcases hk.1 with (e | e | ⟨i, hi, e⟩) | e
        · omega
        · omega
        · have := hl.2.2 i hi; omega
        · omega
    · rcases hk.1 with (e | e | ⟨i, hi, e⟩) | e
      · omega
      · have := HR2.out.2.1; omega
      · have := HR2.out.2.2 i hi; omega
      · omega
  clear hS4
  go_wp2_with fail
  (try simp only [Exit.inBlock, Exit.then])
  refine bodyPost_ret (results_tmp4 rfl _ _ _) rfl ?_
  obtain ⟨D, hD⟩ := HBW.out
  exact ⟨p, dp, w3.heap.size, s2, D, rfl, HG3.out.1.1, hD⟩
end Go.Proofs.YthaogbbclocmaaaGreat
/- Slices of changes that came in: leveelaw12.Change. -/
namespace Go.Proofs.YthaogbbclocmaaaGreat
open Go.ChangeShapes Go.WideShapes Go.ChangeAt Go.RowKit
set_option maxRecDepth 100000
/-- A change: block, place, bytes, numbers, the block that is written behind it, and whether all is flushed. -/
structure Chg where
  B : Int
  F : Int
  dp : Option Addr
  D : List UInt8
  dc : Nat
  ap : Option Addr
  A : List Int
  ac : Nat
  W : Int
  R : Bool
/-- Where it lies. -/
def Chg.at' (q : Chg) (W : World) (a : Addr) : Prop :=
  W.cell? (a.add 0) = some (.int .i64 q.B) ∧ W.cell? (a.add 1) = some (.int .i64 q.F) ∧ W.cell? (a.add 2) = some (.slice q.dp q.D.length q.dc) ∧ W.cell? (a.add 3) = some (.slice q.ap q.A.length q.ac) ∧ W.cell? (a.add 4) = some (.int .i64 q.W) ∧ W.cell? (a.add 5) = some (.bool q.R)
/-- What is known of it. -/
structure Chg.Ok (q : Chg) (W : World) : Prop where
  k : -9223372036854775808 ≤ q.B ∧ q.B ≤ 9223372036854775807
  f : -9223372036854775808 ≤ q.F ∧ q.F ≤ 9223372036854775807
  n : -9223372036854775808 ≤ q.W ∧ q.W ≤ 9223372036854775807
  d : Src W q.dp q.D
  dl : (q.D.length : Int) ≤ 9223372036854775807
  a : SrcI W q.ap q.A
  al : (q.A.length : Int) ≤ 9223372036854775807
  ab : ∀ i ∈ q.A, -9223372036854775808 ≤ i ∧ i ≤ 9223372036854775807
theorem chg_fields : ∃ f0 f1 f2 f3 f4 f5 : Field, Tryz.prog.underlying 157 = some (.struct #[f0, f1, f2, f3, f4, f5]) ∧ (f0.type = 3 ∧ f0.offset = 0) ∧ (f1.type = 3 ∧ f1.offset = 1) ∧ (f2.type = 36 ∧ f2.offset = 2) ∧ (f3.type = 37 ∧ f3.offset = 3) ∧ (f4.type = 3 ∧ f4.offset = 4) ∧ (f5.type = 4 ∧ f5.offset = 5) := by
  have h : (match Tryz.prog.underlying 157 with | some (.struct fs) => some (fs.toList.map fun f => (f.type, f.offset)) | _ => none) = some [(3, 0), (3, 1), (36, 2), (37, 3), (3, 4), (4, 5)] := by kernel_rfl
  cases hu : Tryz.prog.underlying 157 with
  | none => rw [hu] at h; cases h
  | some d =>
    rw [hu] at h
    cases d with
    | struct fs =>
      have h' : (fs.toList.map fun f => (f.type, f.offset)) = [(3, 0), (3, 1), (36, 2), (37, 3), (3, 4), (4, 5)] := Option.some.inj h
      obtain ⟨f0, f1, f2, f3, f4, f5, hf⟩ := six_of (l := fs.toList) (by have := congrArg List.length h'; simpa using this)
      rw [hf] at h'
      simp only [List.map_cons, List.map_nil, List.cons.injEq, Prod.mk.injEq, and_true] at h'
      refine ⟨f0, f1, f2, f3, f4, f5, ?_, h'.1, h'.2.1, h'.2.2.1, h'.2.2.2.1, h'.2.2.2.2.1, h'.2.2.2.2.2⟩
      have : fs = #[f0, f1, f2, f3, f4, f5] := by cases fs; simp_all
      rw [this]
    | _ => cases h
/-- A slice of m changes. -/
def ChgsAt (w : World) (sp : Option Addr) (m : Nat) (A : Nat → Chg) : Prop :=
  0 < m → ∃ b off, sp = some ⟨b, off, none⟩ ∧ b < w.heap.size ∧ ∀ k, k < m → (A k).at' w ⟨b, off + k * 6, none⟩ ∧ (A k).Ok w
theorem open_chgs {H : Type} {enc : TypeId × Value → H} {W : World} {base : Nat} {v : Value} {d : DataW H} {p : List MemPlace}
    (hv : Value.okWide Tryz.prog W .any base 67 v) (h : DataW.Trod enc Tryz.prog W 0 (fun _ => true) true 67 v d p) :
    ∃ sp m cap, ∃ A : Nat → Chg, v = .slice sp m cap ∧ (m ≤ cap ∧ (cap : Int) ≤ 9223372036854775807 ∧ ChgsAt W sp m A) := by
  obtain ⟨a0, len0, cap0, rfl⟩ := okWide_slice Tryz.underlying67 hv
  obtain ⟨fuel, hf⟩ := h
  have hce : Tryz.prog.cellsOf 157 = 6 := by kernel_rfl
  have hc3 : Tryz.prog.cellsOf 3 = 1 := by kernel_rfl
  have hcb : Tryz.prog.cellsOf 36 = 1 := by kernel_rfl
  have hcl : Tryz.prog.cellsOf 37 = 1 := by kernel_rfl
  have hco : Tryz.prog.cellsOf 4 = 1 := by kernel_rfl
  obtain ⟨f0, f1, f2, f3, f4, f5, hu, ⟨t0, o0⟩, ⟨t1, o1⟩, ⟨t2, o2⟩, ⟨t3, o3⟩, ⟨t4, o4⟩, ⟨t5, o5⟩⟩ := chg_fields
  rcases Deep.open_slice Tryz.underlying67 hf with ⟨hcs, _⟩ | ⟨x, len, cap, m, n, D, Pl, hcs, _, hl, hm, hmm, hx, hel⟩
  · simp [Value.cells] at hcs
    obtain ⟨rfl, rfl, rfl⟩ := hcs
    exact ⟨none, 0, 0, fun _ => ⟨0, 0, none, [], 0, none, [], 0, 0, false⟩, rfl, Nat.le_refl _, by omega, fun h => by omega⟩
  · simp [Value.cells] at hcs
    obtain ⟨rfl, rfl, rfl⟩ := hcs
    simp only [if_true] at hmm
    subst hmm
    have each : ∀ i, i < len0 → ∃ q : Chg, q.at' W (x.add (i * 6)) ∧ q.Ok W := by
      intro i hi
      obtain ⟨cs', h1, h2⟩ := hel i (by omega)
      rw [hce] at h1
      obtain ⟨_, hlen, hcell⟩ := World.cells?_some h1
      obtain ⟨y0, y1, y2, y3, y4, y5, k, _, g0, g1, g2, g3, g4, g5⟩ := trod_struct6 hu h2
      obtain ⟨v0, v1, v2, v3, v4, v5, rfl⟩ := six_of hlen
      rw [t0, o0, hc3] at g0
      rw [t1, o1, hc3] at g1
      rw [t2, o2, hcb] at g2
      rw [t3, o3, hcl] at g3
      rw [t4, o4, hc3] at g4
      rw [t5, o5, hco] at g5
      obtain ⟨n0, e0, _, w0⟩ := DataW.trod_int Tryz.underlying3 g0
      obtain ⟨n1, e1, _, w1⟩ := DataW.trod_int Tryz.underlying3 g1
      obtain ⟨n2, e4, _, w2⟩ := DataW.trod_int Tryz.underlying3 g4
      obtain ⟨sd, cd, ld, e2, hsd, hld⟩ := open_data (v := v2) (by simpa using g2)
      obtain ⟨sa, ca, la, e3, hsa, hla, hba⟩ := open_longs (v := v3) (by simpa using g3)
      obtain ⟨bo, e5, _⟩ := DataW.trod_bool Tryz.underlying4 g5
      simp at e0 e1 e4 e5
      subst e0 e1 e2 e3 e4 e5
      have bd0 := bounds_i64 w0
      have bd1 := bounds_i64 w1
      have bd2 := bounds_i64 w2
      exact ⟨⟨n0, n1, sd, ld, cd, sa, la, ca, n2, bo⟩, ⟨by simpa using hcell 0 (by omega), by simpa using hcell 1 (by omega), by simpa using hcell 2 (by omega), by simpa using hcell 3 (by omega), by simpa using hcell 4 (by omega), by simpa using hcell 5 (by omega)⟩, ⟨bd0.1, (show n0 ≤ 9223372036854775807 by omega)⟩, ⟨bd1.1, (show n1 ≤ 9223372036854775807 by omega)⟩, ⟨bd2.1, (show n2 ≤ 9223372036854775807 by omega)⟩, hsd, hld, hsa, hla, hba⟩
    have hinh : Inhabited Chg := ⟨⟨0, 0, none, [], 0, none, [], 0, 0, false⟩⟩
    obtain ⟨q, hq⟩ := Deep.choose_lt (α := Chg) each
    refine ⟨some x, len0, m, q, rfl, hl, by unfold maxLen at hm; omega, fun h0 => ?_⟩
    have hsp : x.spot = none := by
      have h1 := (hq 0 h0).1.1
      simpa [Addr.add] using World.cell?_spot h1
    obtain ⟨b, off, rfl⟩ : ∃ b off, x = ⟨b, off, none⟩ := ⟨x.block, x.off, by cases x; simp_all⟩
    refine ⟨b, off, rfl, ?_, fun k hk => ?_⟩
    · have h1 := (hq 0 h0).1.1
      rw [addr_add, addr_add] at h1
      exact block_lt_of_cell h1
    · have := hq k hk
      rw [addr_add] at this; exact this
end Go.Proofs.YthaogbbclocmaaaGreat
/- leveelaw12.lay: changes in both stores. -/
namespace Go.Proofs.YthaogbbclocmaaaGreat
open Go.RowKit
set_option maxRecDepth 100000
theorem ownL_form3 {w : World} {base : Nat} {v : Value} {l : List Int} (h : OwnL w base v l) : ∃ ao cap, v = .slice ao l.length cap ∧ SrcI w ao l ∧ ((ao = none ∧ l = []) ∨ ∃ b o, ao = some ⟨b, o, none⟩) ∧ (∀ b o, ao = some ⟨b, o, none⟩ → base ≤ b ∧ b < w.heap.size) := by
  obtain ⟨ao, cap, rfl, hs, _, _, _⟩ := h.form
  refine ⟨ao, cap, rfl, hs, ?_, fun b o e => h.lt b (by rw [e]; rfl)⟩
  obtain ⟨h1, h2⟩ := h
  rcases h2 with ⟨e, h3⟩ | ⟨g, cap, cur, e, _⟩
  · simp only [Value.slice.injEq] at e
    exact .inl ⟨e.1, List.eq_nil_of_length_eq_zero h3⟩
  · simp only [Value.slice.injEq] at e
    exact .inr ⟨_, _, e.1⟩
/-- A change in a box of its own. -/
def Bx (w : World) (g : Nat) (c : Chg) : Prop := w.heap[g]? = some (.cells #[.int .i64 c.B, .int .i64 c.F, .slice c.dp c.D.length c.dc, .slice c.ap c.A.length c.ac, .int .i64 c.W, .bool c.R] 157 (0, 0))
theorem Bx.fr {w w' : World} {g : Nat} {c : Chg} (h : Bx w g c) {S : Nat → Prop} (hf : Fr S w w') (hS : ¬ S g) : Bx w' g c := (hf.blk g (Array.getElem?_eq_some_iff.1 h).1 hS).trans h
theorem Bx.cells {w : World} {g : Nat} {c : Chg} (h : Bx w g c) : w.cell? ⟨g, 0, none⟩ = some (.int .i64 c.B) ∧ w.cell? ⟨g, 1, none⟩ = some (.int .i64 c.F) ∧ w.cell? ⟨g, 2, none⟩ = some (.slice c.dp c.D.length c.dc) ∧ w.cell? ⟨g, 4, none⟩ = some (.int .i64 c.W) ∧ w.cell? ⟨g, 5, none⟩ = some (.bool c.R) :=
  ⟨(cell_of_row _ _ _ _ _ _ h).trans rfl, (cell_of_row _ _ _ _ _ _ h).trans rfl, (cell_of_row _ _ _ _ _ _ h).trans rfl, (cell_of_row _ _ _ _ _ _ h).trans rfl, (cell_of_row _ _ _ _ _ _ h).trans rfl⟩
theorem tmod_bd {a b : Int} (hb : 0 < b) : -b < a.tmod b ∧ a.tmod b < b := by
  have h1 := Int.tmod_lt_of_pos a hb
  have h2 := Int.tmod_lt_of_pos (-a) hb
  rw [Int.neg_tmod] at h2
  omega
theorem Fr.and {S T : Nat → Prop} {a b c : World} (h : Fr S a b) (k : Fr T b c) (hT : ∀ i, i < a.heap.size → T i → S i) : Fr S a c :=
  ⟨by have := h.size; have := k.size; omega, fun j hj hS => (k.blk j (by have := h.size; omega) fun t => hS (hT j hj t)).trans (h.blk j hj hS), k.os.trans h.os, k.tape.trans h.tape, k.output.trans h.output⟩
/-- From both stores as they were to both as they are: nothing else has changed. -/
structure Lf (w w' : World) (s : PSt) (D : Nat → Prop) (s' : PSt) (D' : Nat → Prop) : Prop where
  fr : Fr (fun k => Ak s k ∨ D k) w w'
  sub : ∀ k, Ak s' k ∨ D' k → (Ak s k ∨ D k) ∨ w.heap.size ≤ k
theorem Lf.refl (w : World) (s : PSt) (D : Nat → Prop) : Lf w w s D s D := ⟨Fr.refl _ _, fun _ h => .inl h⟩
theorem Lf.up {w w' w'' : World} {s s' : PSt} {D D' : Nat → Prop} (h : Lf w w' s D s' D') (hb : Below w'.heap.size w' w'') : Lf w w'' s D s' D' := ⟨h.fr.trans (Fr.of_below hb), h.sub⟩
theorem Lf.next {w g w1 w2 : World} {s s1 s2 : PSt} {D D1 D2 : Nat → Prop} (h : Lf w g s D s1 D1) (hf1 : Fr (Ak s1) g w1) (hf2 : Fr D1 w1 w2) (hs : ∀ k, Ak s2 k ∨ D2 k → (Ak s1 k ∨ D1 k) ∨ g.heap.size ≤ k) : Lf w w2 s D s2 D2 := by
  refine ⟨(h.fr.and hf1 fun i hi t => (h.sub i (.inl t)).resolve_right (by omega)).and hf2 fun i hi t => (h.sub i (.inr t)).resolve_right (by omega), fun k hk => ?_⟩
  rcases hs k hk with h1 | h1
  · exact h.sub k h1
  · exact .inr (by have := h.fr.size; omega)
set_option maxHeartbeats 16000000 in
theorem blay_fr {w0 w : World} {p dp q : Nat} {s : PSt} {D : Nat → Prop} (sp : Option Addr) (m cap : Nat) (X : Nat → Chg) (hX : ChgsAt w0 sp m X) (hm : m ≤ cap) (hcap : (cap : Int) ≤ 9223372036854775807) (h : BW w0 w p dp q s (fun _ => []) 0 1 (fun _ => []) [] D) (hcnt : s.cnt = 0) :
    Calls Tryz.prog 36 #[.pointer (some ⟨p, 0, none⟩), .pointer (some ⟨q, 0, none⟩), .slice sp m cap] w fun e w' => e = .returned (.bool true) ∧ ∃ s' ops' A' L' D', BW w0 w' p dp q s' ops' 90 31 A' L' D' ∧ s'.cnt ≤ 30 ∧ Lf w w' s D s' D' := by
  have HX : Hid (ChgsAt w0 sp m X) := hX
  have HH : Hid (BW w0 w p dp q s (fun _ => []) 0 1 (fun _ => []) [] D ∧ s.cnt = 0) := ⟨h, hcnt⟩
  have hmz : (m : Int) ≤ 9223372036854775807 := by omega
  clear hX h hcnt
  go_enter Tryz.func36, Tryz.ntmps36
  go_wp2_with fail
  go_loopg [7, 8, 9, 10, 11, 12, 13, 14, 15] 30 (fun gg t7 _ _ _ _ _ _ _ _ W => ∃ (gw : World) (k : Nat), gw = W ∧ t7 = .int .i64 k ∧ k ≤ 30 ∧ 30 - k ≤ gg ∧ Hid (∃ s' ops' A' L' D', BW w0 gw p dp q s' ops' (3 * k) (k + 1) A' L' D' ∧ s'.cnt ≤ k ∧ Lf w gw s D s' D'))
  case atStart => exact ⟨_, 0, rfl, rfl, by omega, by omega, s, _, _, _, _, HH.out.1, by rw [HH.out.2]; omega, Lf.refl _ _ _⟩
  case round =>
    obtain ⟨gw, k, rfl, rfl, hk30, hgk, HB⟩ := hrel
    clear HH
    by_cases hlt : (k : Int) < (m : Int)
    · by_cases hk3 : (k : Int) < 30
      · obtain ⟨s1, o1, A1, L1, D1, hB1, hc1, hF1⟩ := HB.out
        have HF1 : Hid (Lf w gw s D s1 D1) := hF1
        clear HB hF1
        obtain ⟨b, off, hsp, hbl, hXk⟩ := HX.out (by omega)
        obtain ⟨hat, hok⟩ := hXk k (by omega)
        subst hsp
        obtain ⟨c, hc⟩ : ∃ c, X k = c := ⟨_, rfl⟩
        rw [hc] at hat hok
        have HOK : Hid (c.Ok w0) := hok
        have HB1 : Hid (BW w0 gw p dp q s1 o1 (3 * k) (k + 1) A1 L1 D1 ∧ s1.cnt ≤ k) := ⟨hB1, hc1⟩
        have HBE : Hid (Below w0.heap.size w0 gw) := hB1.gw.be
        have cl : ∀ j v, w0.cell? ⟨b, off + k * 6 + j, none⟩ = some v → gw.cell? ⟨b, off + k * 6 + j, none⟩ = some v := fun j v hj => (hB1.gw.be.cell (p := ⟨b, off + k * 6 + j, none⟩) hbl).trans hj
        unfold Chg.at' at hat
        simp only [addr_add] at hat
        have x0 := cl 0 _ hat.1
        have x1 := cl 1 _ hat.2.1
        have x2 := cl 2 _ hat.2.2.1
        have x3 := cl 3 _ hat.2.2.2.1
        have x4 := cl 4 _ hat.2.2.2.2.1
        have x5 := cl 5 _ hat.2.2.2.2.2
        rw [Nat.add_zero] at x0
        clear cl hat hok hB1 hc1 hXk hc
        go_upto_region 5 with fail
        have HB5 : Hid (Below gw.heap.size gw (gw.alloc (.cells #[.int .i64 c.B, .int .i64 c.F, .slice c.dp c.D.length c.dc, .slice c.ap c.A.length c.ac, .int .i64 c.W, .bool c.R] 157))) := (Below.refl _ _).alloc (Nat.le_refl _) _
        have HL5 : Hid ((gw.alloc (.cells #[.int .i64 c.B, .int .i64 c.F, .slice c.dp c.D.length c.dc, .slice c.ap c.A.length c.ac, .int .i64 c.W, .bool c.R] 157)).heap[gw.heap.size]? = some (.cells #[.int .i64 c.B, .int .i64 c.F, .slice c.dp c.D.length c.dc, .slice c.ap c.A.length c.ac, .int .i64 c.W, .bool c.R] 157 (0, 0))) := heap_alloc_new _ _
        clear x0 x1 x2 x3 x4 x5
        generalize gw.alloc (.cells #[.int .i64 c.B, .int .i64 c.F, .slice c.dp c.D.length c.dc, .slice c.ap c.A.length c.ac, .int .i64 c.W, .bool c.R] 157) = W5 at *
        have hbx : gw.heap.size < W5.heap.size := (Array.getElem?_eq_some_iff.1 HL5.out).1
        have HBW5 : Hid (BW w0 W5 p dp q s1 o1 (3 * k) (k + 1) A1 L1 D1) := HB1.out.1.up HB5.out
        have hcn : (s1.cnt : Int) ≤ 30 := by have := HB1.out.2; omega
        have hAl := HOK.out.al
        go_wp2_with fail
        go_loopg [9, 10, 11] 4 (fun gg t9 t10 _ W => ∃ (g2 : World) (j : Nat) (v : Value) (ids : List Int), g2 = W ∧ t10 = .int .i64 j ∧ t9 = v ∧ j ≤ 4 ∧ 4 - j ≤ gg ∧ Hid (Below W5.heap.size W5 g2 ∧ OwnL g2 W5.heap.size v ids ∧ ids.length = j ∧ ∀ i ∈ ids, 1 ≤ i ∧ i ≤ (s1.cnt : Int)))
        case atStart => exact ⟨_, 0, _, [], rfl, rfl, rfl, by omega, by omega, Below.refl _ _, OwnL.nil _ _, rfl, fun i hi => by cases hi⟩
        case round =>
          obtain ⟨g2, j, v, ids, rfl, rfl, rfl, hj4, hgj, H2⟩ := hrel
          have hbx2 := H2.out.1.size
          have HZ2 : Hid (gw.heap.size < g2.heap.size) := by show _ < _; omega
          have bx : ∀ i u, (#[Value.int .i64 c.B, .int .i64 c.F, .slice c.dp c.D.length c.dc, .slice c.ap c.A.length c.ac, .int .i64 c.W, .bool c.R] : Array Value)[i]? = some u → g2.cell? ⟨gw.heap.size, i, none⟩ = some u := fun i u hi => (H2.out.1.cell (p := ⟨gw.heap.size, i, none⟩) hbx).trans ((cell_of_row _ _ _ _ _ _ HL5.out).trans hi)
          have q3 := (HBW5.out.up H2.out.1).rs.c3
          have y3 := bx 3 _ rfl
          go_upto_region 7 with fail
          go_cut [45] (fun t45 wc => t45 = .bool (decide ((j : Int) < (c.A.length : Int) ∧ (j : Int) < 4 ∧ (0 : Int) < (s1.cnt : Int))) ∧ wc = g2)
          case first =>
            by_cases hjl : (j : Int) < (c.A.length : Int)
            · by_cases hj3 : (j : Int) < 4
              · by_cases hc0 : (0 : Int) < (s1.cnt : Int)
                · have HD : Hid (decide ((j : Int) < (c.A.length : Int) ∧ (j : Int) < 4 ∧ (0 : Int) < (s1.cnt : Int)) = true) := decide_eq_true ⟨hjl, hj3, hc0⟩
                  have hcn0 : 0 < s1.cnt := by omega
                  go_wp2_with fail
                  go_meet
                  exact ⟨by rw [HD.out], rfl⟩
                · have HD : Hid (decide ((j : Int) < (c.A.length : Int) ∧ (j : Int) < 4 ∧ (0 : Int) < (s1.cnt : Int)) = false) := decide_eq_false (fun h => hc0 h.2.2)
                  have hcn0 : ¬ 0 < s1.cnt := by omega
                  go_wp2_with fail
                  go_meet
                  exact ⟨by rw [HD.out], rfl⟩
              · have HD : Hid (decide ((j : Int) < (c.A.length : Int) ∧ (j : Int) < 4 ∧ (0 : Int) < (s1.cnt : Int)) = false) := decide_eq_false (fun h => hj3 h.2.1)
                go_wp2_with fail
                go_meet
                exact ⟨by rw [HD.out], rfl⟩
            · have HD : Hid (decide ((j : Int) < (c.A.length : Int) ∧ (j : Int) < 4 ∧ (0 : Int) < (s1.cnt : Int)) = false) := decide_eq_false (fun h => hjl h.1)
              go_wp2_with fail
              go_meet
              exact ⟨by rw [HD.out], rfl⟩
          case rest =>
            obtain ⟨rfl, hwc⟩ := hcut
            obtain rfl : g2 = wc := hwc.symm
            by_cases hcond : (j : Int) < (c.A.length : Int) ∧ (j : Int) < 4 ∧ (0 : Int) < (s1.cnt : Int)
            · rw [decide_eq_true hcond]
              obtain ⟨hjl, hj3, hc0⟩ := hcond
              obtain ⟨ab, ao, z, hap, hz, hzb⟩ : ∃ ab ao z, c.ap = some ⟨ab, ao, none⟩ ∧ g2.cell? ⟨ab, ao + j, none⟩ = some (.int .i64 z) ∧ (-9223372036854775808 ≤ z ∧ z ≤ 9223372036854775807) := by
                rcases HOK.out.a with e | ⟨ab, ao, e, hl, hcc⟩
                · rw [e] at hjl; simp at hjl; omega
                · have hjn : j < c.A.length := by omega
                  have hbe : Below w0.heap.size w0 g2 := HBE.out.trans ((HB5.out.trans (H2.out.1.mono HB5.out.size)).mono HBE.out.size)
                  exact ⟨ab, ao, _, e, (hbe.cell (p := ⟨ab, ao + j, none⟩) hl).trans (hcc j hjn), HOK.out.ab _ (getD_mem' hjn)⟩
              rw [hap] at y3
              have HAP : Hid (c.ap = some ⟨ab, ao, none⟩) := hap
              have hcz : ¬ (s1.cnt : Int) = 0 := by omega
              have hczb : ((s1.cnt : Int) == 0) = false := by simpa using hcz
              have htm := tmod_bd (a := z) hc0
              go_upto_region 9 with fail
              go_quiet (fail)
              clear hap
              have HGN : Hid (Below W5.heap.size W5 (g2.drewN nq) ∧ OwnL (g2.drewN nq) W5.heap.size u9 ids) := ⟨H2.out.1.trans ((belowN (Below.refl _ _) nq).mono H2.out.1.size), row_same H2.out.2.1 fun _ _ => rfl⟩
              have q3n : (g2.drewN nq).cell? ⟨q, 3, none⟩ = some (.int .i64 (s1.cnt : Int)) := q3
              have HIL : Hid (ids.length = j) := H2.out.2.2.1
              generalize z.tmod (s1.cnt : Int) = zz at *
              clear q3 hz y3 bx
              generalize g2.drewN nq = g3 at *
              obtain ⟨nn, hnn⟩ : ∃ nn : Nat, nn = zz.natAbs := ⟨_, rfl⟩
              have HNN : Hid (nn = zz.natAbs) := hnn
              have hnc : (nn : Int) < (s1.cnt : Int) := by omega
              have hbz : W5.heap.size ≤ g3.heap.size := HGN.out.1.size
              clear hnn
              by_cases hz0 : zz < 0
              · have hzz : -zz = (nn : Int) := by have := HNN.out; omega
                go_upto_region 12 with fail
                clear hz0
                go_wp2_with (first | (at_builtin; refine Hid.out ?_))
                change wpList _ _ _ _ _ _
                refine wpList_append_l rfl (.tmp 62) (.tmp 69) rfl W5.heap.size ids ((s1.cnt : Int) - (nn : Int)) _ rfl _ _ rfl (row_same HGN.out.2 (fun l hl => Below.heap_alloc _ _ _ (HGN.out.2.lt l hl).2)) (heap_alloc_new _ _) (by rw [size_alloc]; omega) (by have := HIL.out; omega) ?_
                intro G1 k1 w6 ho6 hg6 hat6
                have HB6 : Hid (Below W5.heap.size W5 w6) := (HGN.out.1.alloc HGN.out.1.size _).trans ((Below.refl _ _).grown hg6 (Nat.le_trans HGN.out.1.size (by rw [size_alloc]; omega)) (fun k hk => (HGN.out.2.lt k hk).1))
                have HO6 : Hid (OwnL w6 W5.heap.size (.slice (some ⟨G1, 0, none⟩) (ids.length + 1) k1) (ids ++ [(s1.cnt : Int) - (nn : Int)])) := ho6
                clear ho6 hg6 hat6
                go_wp2_with fail
                go_roundg (4 - (j + 1))
                case measure => omega
                case rel =>
                  have hBl := HIL.out
                  refine ⟨_, j + 1, _, ids ++ [(s1.cnt : Int) - (nn : Int)], rfl, by go_num, rfl, by omega, by omega, HB6.out, HO6.out, by simp [hBl], ?_⟩
                  intro z hz
                  rcases List.mem_append.1 hz with hz | hz
                  · exact H2.out.2.2.2 z hz
                  · rw [List.mem_singleton.1 hz]; omega
              · obtain rfl : zz = (nn : Int) := by have := HNN.out; omega
                go_upto_region 12 with fail
                clear hz0
                go_wp2_with (first | (at_builtin; refine Hid.out ?_))
                change wpList _ _ _ _ _ _
                refine wpList_append_l rfl (.tmp 62) (.tmp 69) rfl W5.heap.size ids ((s1.cnt : Int) - (nn : Int)) _ rfl _ _ rfl (row_same HGN.out.2 (fun l hl => Below.heap_alloc _ _ _ (HGN.out.2.lt l hl).2)) (heap_alloc_new _ _) (by rw [size_alloc]; omega) (by have := HIL.out; omega) ?_
                intro G1 k1 w6 ho6 hg6 hat6
                have HB6 : Hid (Below W5.heap.size W5 w6) := (HGN.out.1.alloc HGN.out.1.size _).trans ((Below.refl _ _).grown hg6 (Nat.le_trans HGN.out.1.size (by rw [size_alloc]; omega)) (fun k hk => (HGN.out.2.lt k hk).1))
                have HO6 : Hid (OwnL w6 W5.heap.size (.slice (some ⟨G1, 0, none⟩) (ids.length + 1) k1) (ids ++ [(s1.cnt : Int) - (nn : Int)])) := ho6
                clear ho6 hg6 hat6
                go_wp2_with fail
                go_roundg (4 - (j + 1))
                case measure => omega
                case rel =>
                  have hBl := HIL.out
                  refine ⟨_, j + 1, _, ids ++ [(s1.cnt : Int) - (nn : Int)], rfl, by go_num, rfl, by omega, by omega, HB6.out, HO6.out, by simp [hBl], ?_⟩
                  intro z hz
                  rcases List.mem_append.1 hz with hz | hz
                  · exact H2.out.2.2.2 z hz
                  · rw [List.mem_singleton.1 hz]; omega
            · rw [decide_eq_false hcond]
              have HM : Hid (ids.length ≤ 4) := by have := H2.out.2.2.1; show _ ≤ _; omega
              clear bx y3 q3 hcond
              obtain ⟨ao, ca, rfl, hsi, hfm, hao⟩ := ownL_form3 H2.out.2.1
              have HBX : Hid (Bx g2 gw.heap.size c) := (H2.out.1.block gw.heap.size hbx).trans HL5.out
              have nA : ∀ k, Ak s1 k ∨ D1 k → k < gw.heap.size := fun k hk => by
                rcases hk with hk | hk
                · exact HB1.out.1.gw.pm.lt hk
                · exact HB1.out.1.rs.ltD k hk
              have HNA : Hid (∀ k, Ak s1 k ∨ D1 k → k < gw.heap.size) := nA
              have hbe : Below w0.heap.size w0 g2 := HBE.out.trans ((HB5.out.trans (H2.out.1.mono HB5.out.size)).mono HBE.out.size)
              have PC := both_patch (HBW5.out.up H2.out.1) (by omega) c.B c.F HOK.out.f c.D c.dp c.dc (HOK.out.d.below hbe (Nat.le_refl _)) HOK.out.dl (fun hd1 b o e => by
                obtain ⟨b', o', e', hl, _⟩ := HOK.out.d.at' hd1
                rw [e'] at e
                simp only [Option.some.injEq, Addr.mk.injEq] at e
                obtain ⟨rfl, _, _⟩ := e
                refine ⟨fun hA => ?_, fun hD => ?_, by have := hbe.size; omega⟩
                · have := HB1.out.1.gw.pm.base hA; omega
                · have := HB1.out.1.db _ hD; omega) ids ao ca hsi hfm (fun b o e => by
                have h1 := hao b o e
                refine ⟨fun hA => ?_, fun hD => ?_, h1.2⟩
                · have := nA b (.inl hA); omega
                · have := nA b (.inr hD); omega) (by have := HM.out; omega) H2.out.2.2.2
              obtain ⟨y0, y1, y2, y4, y5⟩ := HBX.out.cells
              clear hsi hfm hao nA hbe
              go_upto_region 14 with (first | (go_at_call 28; refine PC.mono ?_; rintro r w1 ⟨id, e, rfl, hf1, PC2⟩; have HBX1 : Hid (Bx w1 gw.heap.size c) := HBX.out.fr hf1 (fun hA => by have := HNA.out _ (.inl hA); omega); obtain ⟨x0, x1, x2, x4, x5⟩ := HBX1.out.cells; have HF1a : Hid (Fr (Ak s1) g2 w1) := hf1; clear hf1))
              clear y0 y1 y2 y4 y5 PC
              go_upto_region 15 with (first | (go_at_call 65; refine PC2.mono ?_; rintro r w2 ⟨rfl, hf2, s2, o2, D2, L2, A2, hB2, hc2, hs2⟩; have HBX2 : Hid (Bx w2 gw.heap.size c) := HBX1.out.fr hf2 (fun hA => by have := HNA.out _ (.inr hA); omega); have HF2 : Hid (Lf w w2 s D s2 D2) := (HF1.out.up (HB5.out.trans (H2.out.1.mono HB5.out.size))).next HF1a.out hf2 hs2; have HB2 : Hid (BW w0 w2 p dp q s2 o2 (3 * k + 1) (k + 1) A2 L2 D2 ∧ s2.cnt ≤ s1.cnt + 1 ∧ ¬ (Ak s2 gw.heap.size ∨ D2 gw.heap.size)) := ⟨hB2, hc2, fun hk => by rcases hs2 _ hk with h1 | h1; (have := HNA.out _ h1; omega); (have := HZ2.out; omega)⟩; clear hf2 hB2 hc2 hs2))
              clear x0 x1 x2 x4 x5 PC2
              obtain ⟨x0, x1, x2, x4, x5⟩ := HBX2.out.cells
              clear x0 x1 x2 x5
              go_cut [113] (fun t wc => t = .bool false ∧ ∃ (w4 : World) (s3 : PSt) (L3 : List RCh) (D3 : Nat → Prop), w4 = wc ∧ Hid (BW w0 w4 p dp q s3 o2 (3 * k + 2) (k + 2) A2 L3 D3 ∧ s3.cnt ≤ s1.cnt + 1 ∧ Bx w4 gw.heap.size c ∧ ¬ (Ak s3 gw.heap.size ∨ D3 gw.heap.size) ∧ Lf w w4 s D s3 D3))
              case first =>
                have HW2 : Hid (BW w0 w2.drew p dp q s2 o2 (3 * k + 1) (k + 1) A2 L2 D2) := HB2.out.1.up ((Below.refl _ _).drew)
                have WR := both_write HW2.out (by omega) (by omega) c.W
                have HC0 : Hid (w2.drew.cell? ⟨gw.heap.size, 4, none⟩ = some (.int .i64 c.W)) := x4
                have HBD : Hid (Bx w2.drew gw.heap.size c) := HBX2.out
                clear x4
                refine wp_region_held_drew (S := (fun W => W.cell? ⟨gw.heap.size, 4, none⟩ = some (.int .i64 c.W))) (by kernel_rfl) HC0.out (fun hH => ?_)
                refine takeH (i := 0) (dst := some 95) (v := ?v1) rfl rfl (by kernel_rfl) (by kernel_rfl) (by kernel_rfl) (fun _ _ _ h => h) rfl ?hy1 hH rfl ?rest1
                case hy1 => (intro W hW; (try dsimp only at hW); go_simp; try with_reducible rfl)
                (try simp only [Act.put, List.setIfInBounds_toArray, List.set_cons_zero, List.set_cons_succ])
                refine takeH (i := 1) (dst := some 96) (v := ?v2) rfl rfl (by kernel_rfl) (by kernel_rfl) (by kernel_rfl) (fun _ _ _ h => h) rfl ?hy2 hH rfl ?rest2
                case hy2 => (intro W hW; (try dsimp only at hW); go_simp; try with_reducible rfl)
                (try simp only [Act.put, List.setIfInBounds_toArray, List.set_cons_zero, List.set_cons_succ])
                refine takeH (i := 2) (dst := some 97) (v := .bool false) rfl rfl (by kernel_rfl) (by kernel_rfl) (by kernel_rfl) (fun _ _ _ h => h) rfl (fun W hW => by (try dsimp only at hW); go_simp) hH rfl ?_
                (try simp only [Act.put, List.setIfInBounds_toArray, List.set_cons_zero, List.set_cons_succ])
                refine takeH (i := 3) (dst := some 98) (v := ?v3) rfl rfl (by kernel_rfl) (by kernel_rfl) (by kernel_rfl) (fun _ _ _ h => h) rfl ?hy3 hH rfl ?rest3
                case hy3 => (intro W hW; (try dsimp only at hW); go_simp; try with_reducible rfl)
                (try simp only [Act.put, List.setIfInBounds_toArray, List.set_cons_zero, List.set_cons_succ])
                refine takeH (i := 4) (dst := some 99) (v := ?v4) rfl rfl (by kernel_rfl) (by kernel_rfl) (by kernel_rfl) (fun _ _ _ h => h) rfl ?hy4 hH rfl ?rest4
                case hy4 => (intro W hW; (try dsimp only at hW); go_simp; try with_reducible rfl)
                (try simp only [Act.put, List.setIfInBounds_toArray, List.set_cons_zero, List.set_cons_succ])
                refine takeH (i := 5) (dst := some 100) (v := ?v5) rfl rfl (by kernel_rfl) (by kernel_rfl) (by kernel_rfl) (fun _ _ _ h => h) rfl ?hy5 hH rfl ?rest5
                case hy5 => (intro W hW; (try dsimp only at hW); go_simp; try with_reducible rfl)
                (try simp only [Act.put, List.setIfInBounds_toArray, List.set_cons_zero, List.set_cons_succ])
                refine takeH (i := 6) (dst := some 101) (v := .bool false) rfl rfl (by kernel_rfl) (by kernel_rfl) (by kernel_rfl) (fun _ _ _ h => h) rfl (fun W hW => by (try dsimp only at hW); go_simp) hH rfl ?_
                (try simp only [Act.put, List.setIfInBounds_toArray, List.set_cons_zero, List.set_cons_succ])
                refine takeH (i := 7) (dst := some 102) (v := .bool false) rfl rfl (by kernel_rfl) (by kernel_rfl) (by kernel_rfl) (fun _ _ _ h => h) rfl (fun W hW => by (try dsimp only at hW); go_simp) hH rfl ?_
                (try simp only [Act.put, List.setIfInBounds_toArray, List.set_cons_zero, List.set_cons_succ])
                refine takeH (i := 8) (dst := some 103) (v := ?v6) rfl rfl (by kernel_rfl) (by kernel_rfl) (by kernel_rfl) (fun _ _ _ h => h) rfl ?hy6 hH rfl ?rest6
                case hy6 => (intro W hW; (try dsimp only at hW); go_simp; try with_reducible rfl)
                (try simp only [Act.put, List.setIfInBounds_toArray, List.set_cons_zero, List.set_cons_succ])
                refine takeH (i := 9) (dst := some 104) (v := ?v7) rfl rfl (by kernel_rfl) (by kernel_rfl) (by kernel_rfl) (fun _ _ _ h => h) rfl ?hy7 hH rfl ?rest7
                case hy7 => (intro W hW; (try dsimp only at hW); go_simp; try with_reducible rfl)
                (try simp only [Act.put, List.setIfInBounds_toArray, List.set_cons_zero, List.set_cons_succ])
                refine takeH (i := 10) (dst := some 105) (v := ?v8) rfl rfl (by kernel_rfl) (by kernel_rfl) (by kernel_rfl) (fun _ _ _ h => h) rfl ?hy8 hH rfl ?rest8
                case hy8 => (intro W hW; (try dsimp only at hW); go_simp; try with_reducible rfl)
                (try simp only [Act.put, List.setIfInBounds_toArray, List.set_cons_zero, List.set_cons_succ])
                refine takeH (i := 11) (dst := some 106) (v := ?v9) rfl rfl (by kernel_rfl) (by kernel_rfl) (by kernel_rfl) (fun _ _ _ h => h) rfl ?hy9 hH rfl ?rest9
                case hy9 => (intro W hW; have k4 := hW; clear hW; go_simp; try with_reducible rfl)
                (try simp only [Act.put, List.setIfInBounds_toArray, List.set_cons_zero, List.set_cons_succ])
                refine takeH (i := 13) (dst := some 108) (v := ?v10) rfl rfl (by kernel_rfl) (by kernel_rfl) (by kernel_rfl) (fun _ _ _ h => h) rfl ?hy10 hH rfl ?rest10
                case hy10 => (intro W hW; (try dsimp only at hW); go_simp; try with_reducible rfl)
                (try simp only [Act.put, List.setIfInBounds_toArray, List.set_cons_zero, List.set_cons_succ])
                refine takeH (i := 14) (dst := some 109) (v := ?v11) rfl rfl (by kernel_rfl) (by kernel_rfl) (by kernel_rfl) (fun _ _ _ h => h) rfl ?hy11 hH rfl ?rest11
                case hy11 => (intro W hW; (try dsimp only at hW); go_simp; try with_reducible rfl)
                (try simp only [Act.put, List.setIfInBounds_toArray, List.set_cons_zero, List.set_cons_succ])
                refine takeH (i := 15) (dst := some 110) (v := ?v12) rfl rfl (by kernel_rfl) (by kernel_rfl) (by kernel_rfl) (fun _ _ _ h => h) rfl ?hy12 hH rfl ?rest12
                case hy12 => (intro W hW; have k4 := hW; clear hW; go_simp; try with_reducible rfl)
                (try simp only [Act.put, List.setIfInBounds_toArray, List.set_cons_zero, List.set_cons_succ])
                refine callH (i := 12) { dst := some 107, op := Go.Op.call { callee := Go.Callee.value (Go.Operand.func 26), args := #[Go.Operand.tmp 104, Go.Operand.tmp 106], argTypes := #[30, 3] }, type := 24, pos := "law.go:47", after := #[{ on := 9, ground := Go.Ground.data }, { on := 11, ground := Go.Ground.data }, { on := 8, ground := Go.Ground.chain }, { on := 8, ground := Go.Ground.guard }], guard := some (8, false) } (by kernel_rfl) rfl rfl (fun K hK => ?_)
                go_simp
                refine WR.mono ?_
                rintro r w3 ⟨e2, rfl, hf3, WR2⟩
                have HBX3 : Hid (Bx w3 gw.heap.size c) := HBD.out.fr hf3 (fun hA => HB2.out.2.2 (.inl hA))
                have HF3 : Hid (Fr (Ak s2) w2.drew w3) := hf3
                clear hf3
                clear hH
                refine hK.out _ _ HBX3.out.cells.2.2.2.1 (fun hH => ?_)
                clear hK K
                (try simp only [Act.put, List.setIfInBounds_toArray, List.set_cons_zero, List.set_cons_succ])
                refine callH (i := 16) { dst := some 111, op := Go.Op.call { callee := Go.Callee.value (Go.Operand.func 55), args := #[Go.Operand.tmp 108, Go.Operand.tmp 110], argTypes := #[34, 3] }, type := 24, pos := "law.go:47", after := #[{ on := 13, ground := Go.Ground.data }, { on := 15, ground := Go.Ground.data }, { on := 12, ground := Go.Ground.chain }, { on := 8, ground := Go.Ground.guard }], guard := some (8, false) } (by kernel_rfl) rfl rfl (fun K hK => ?_)
                go_simp
                refine WR2.mono ?_
                rintro r w4 ⟨rfl, hf4, s3, D3, L3, hB3, hc3, hs3⟩
                have H4 : Hid (BW w0 w4 p dp q s3 o2 (3 * k + 2) (k + 2) A2 L3 D3 ∧ s3.cnt ≤ s1.cnt + 1 ∧ Bx w4 gw.heap.size c ∧ ¬ (Ak s3 gw.heap.size ∨ D3 gw.heap.size) ∧ Lf w w4 s D s3 D3) := ⟨hB3, by have := HB2.out.2.1; omega, HBX3.out.fr hf4 (fun hD => HB2.out.2.2 (.inr hD)), fun hk => (hs3 _ hk).elim HB2.out.2.2 (fun h1 => by have h2 : gw.heap.size < w2.heap.size := (Array.getElem?_eq_some_iff.1 HBX2.out).1; have h3 : w2.heap.size ≤ gw.heap.size := h1; omega), (HF2.out.up ((Below.refl _ _).drew)).next HF3.out hf4 hs3⟩
                clear hf4 hB3 hc3 hs3
                clear hH
                refine hK.out _ _ H4.out.2.2.1.cells.2.2.2.1 (fun hH => ?_)
                clear hK K
                (try simp only [Act.put, List.setIfInBounds_toArray, List.set_cons_zero, List.set_cons_succ])
                refine takeH (i := 17) (dst := some 112) (v := .bool false) rfl rfl (by kernel_rfl) (by kernel_rfl) (by kernel_rfl) (fun _ _ _ h => h) rfl (fun W hW => by (try dsimp only at hW); go_simp) hH rfl ?_
                (try simp only [Act.put, List.setIfInBounds_toArray, List.set_cons_zero, List.set_cons_succ])
                refine takeH (i := 18) (dst := some 113) (v := .bool false) rfl rfl (by kernel_rfl) (by kernel_rfl) (by kernel_rfl) (fun _ _ _ h => h) rfl (fun W hW => by (try dsimp only at hW); go_simp) hH rfl ?_
                (try simp only [Act.put, List.setIfInBounds_toArray, List.set_cons_zero, List.set_cons_succ])
                refine wpAnyH_done (by kernel_rfl) ?_ _
                clear hH
                go_wp2_with fail
                go_meet
                exact ⟨rfl, _, _, _, _, rfl, H4⟩
              case rest =>
                obtain ⟨rfl, w4, s3, L3, D3, rfl, H4⟩ := hcut
                obtain ⟨z0, z1, z2, z4, z5⟩ := H4.out.2.2.1.cells
                clear z0 z1 z2 z4 x4
                cases hR : c.R with
                | false =>
                  rw [hR] at z5
                  go_wp2_with fail
                  go_roundg (30 - (k + 1))
                  case measure => omega
                  case rel => exact ⟨_, k + 1, rfl, by go_num, by omega, by omega, s3, o2, A2, L3, D3, H4.out.1.more (by omega) (by omega), by have := H4.out.2.1; have := HB1.out.2; omega, H4.out.2.2.2.2⟩
                | true =>
                  rw [hR] at z5
                  have FL := both_flush H4.out.1 (by omega) (by omega)
                  go_wp2_with (first | (go_at_call 27; refine FL.mono ?_; rintro r w5 ⟨rfl, hf5, FL2⟩; have HF5 : Hid (Fr (Ak s3) w4 w5) := hf5; clear hf5) | (go_at_call 56; refine FL2.mono ?_; rintro r w6 ⟨rfl, hf6, s5, o5, D5, L5, hB6, hc5, hs5⟩; have H6 : Hid (BW w0 w6 p dp q s5 o5 (3 * k + 2 + 1) (k + 2) A2 L5 D5 ∧ s5.cnt = s3.cnt ∧ Lf w w6 s D s5 D5) := ⟨hB6, hc5, H4.out.2.2.2.2.next HF5.out hf6 hs5⟩; clear hf6 hB6 hc5 hs5))
                  go_roundg (30 - (k + 1))
                  case measure => omega
                  case rel => exact ⟨_, k + 1, rfl, by go_num, by omega, by omega, s5, o5, A2, L5, D5, H6.out.1.more (by omega) (by omega), by have := H6.out.2.1; have := H4.out.2.1; have := HB1.out.2; omega, H6.out.2.2⟩
      · go_wp2_with fail
        go_ret
        obtain ⟨s1, o1, A1, L1, D1, hB1, hc1, hF1⟩ := HB.out
        exact ⟨rfl, s1, o1, A1, L1, D1, hB1.more (by omega) (by omega), by omega, hF1⟩
    · go_wp2_with fail
      go_ret
      obtain ⟨s1, o1, A1, L1, D1, hB1, hc1, hF1⟩ := HB.out
      exact ⟨rfl, s1, o1, A1, L1, D1, hB1.more (by omega) (by omega), by omega, hF1⟩
end Go.Proofs.YthaogbbclocmaaaGreat
