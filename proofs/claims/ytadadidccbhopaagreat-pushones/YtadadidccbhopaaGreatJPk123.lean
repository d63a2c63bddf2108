/- leveelaw12: open; the changes of known. -/
import Derived.Test.YtadadidccbhopaaGreatJPwork3
import Derived.Test.YtadadidccbhopaaGreatJRpat7
import Derived.Test.YtadadidccbhopaaGreatKPacts
namespace Go.Proofs.YtadadidccbhopaaGreat
open Go.RowKit
set_option maxRecDepth 100000
theorem results_tmp4 {fn : Func} {t u v x : Tmp} (h : fn.results = #[.tmp t, .tmp u, .tmp v, .tmp x]) (tmps : Array Value) (P : Program) (w : World) :
    (results fn tmps).run P w = .ok (.tuple #[tmps.getD t undef, tmps.getD u undef, tmps.getD v undef, tmps.getD x undef]) w := by
  simp [results, h]
set_option maxHeartbeats 2000000 in
theorem open12_any (w : World) :
    Calls Tryz.prog 35 #[] w fun e w' => ∃ p dp rs s, e = .returned (.tuple #[.pointer (some ⟨p, 0, none⟩), .pointer (some ⟨dp, 0, none⟩), .pointer (some ⟨rs, 0, none⟩), .bool true]) ∧ (s.cnt = 0 ∧ s.C = []) ∧ GW w w' p dp s (fun _ => []) 0 := by
  have NW := new_any w 5 (by omega) (by omega)
  rw [show ((5 : Nat) : Int) = 5 from rfl] at NW
  have RN := fun W => rnew_any 5 (by omega) (by omega) W
  rw [show ((5 : Nat) : Int) = 5 from rfl] at RN
  go_enter Tryz.func35, Tryz.ntmps35
  go_wp2_with fail
  refine NW.mono ?_
  clear NW
  rintro r w1 ⟨dp, dq, rfl, hD1, hb1⟩
  have HD1 : Hid (DiskAt w1 w.heap.size dp 5 false 0 (fun _ => zer) (fun _ => []) dq (fun _ => .slice none 0 0)) := hD1
  have HB1 : Hid (Below w.heap.size w w1) := hb1
  clear hD1 hb1
  go_wp2_with fail
  refine (RN _).mono ?_
  clear RN
  rintro r w2 ⟨rfl, ⟨gb, cb, va, vc, hR2, _, _⟩, hb2⟩
  have HR2 : Hid (RefAt w2 w1.heap.size w1.heap.size 5 false 0 (fun _ => zer :: []) gb cb va vc) := hR2.at'
  have HB2 : Hid (Below w.heap.size w w2) := HB1.out.trans (hb2.mono HB1.out.size)
  have PO := popn_any (HD1.out.below hb2 (Nat.le_refl _)) 5 (by omega) (by omega)
  rw [show ((5 : Nat) : Int) = 5 from rfl] at PO
  clear hR2 hb2 HD1
  go_wp2_with fail
  refine PO.mono ?_
  clear PO
  rintro r w3 ⟨p, cm, bm, cp, mb, rfl, hP2, hb3⟩
  obtain ⟨s2, hs2⟩ : ∃ s2, s2 = newS p cm bm ⟨cp, mb, 0, .slice none 0 0, 5, [], dp, 5, dq, false, 0, fun _ => zer, fun _ => [], fun _ => .slice none 0 0⟩ := ⟨_, rfl⟩
  have hL2 : PL s2 (fun _ => []) [] 0 := by rw [hs2]; exact PL.made rfl ⟨by show 5 ≤ 5; omega, by show 5 ≤ 8; omega⟩ ⟨rfl, rfl⟩ rfl rfl
  rw [← hs2] at hP2
  have e2 : s2.p = p ∧ s2.σ.dp = dp ∧ s2.σ.dn = 5 ∧ s2.cnt = 0 ∧ s2.C = [] := by rw [hs2]; exact ⟨rfl, rfl, rfl, rfl, rfl⟩
  have HG3 : Hid ((s2.cnt = 0 ∧ s2.C = []) ∧ GW w w3 p dp s2 (fun _ => []) 0) := ⟨⟨e2.2.2.2.1, e2.2.2.2.2⟩, hP2, hL2, HB2.out.trans (hb3.mono HB2.out.size), e2.1, e2.2.1, e2.2.2.1⟩
  have RO := ropen_any (HR2.out.below hb3 (Nat.le_refl _)) (by omega)
  clear hs2 hL2 hP2 e2 hb3
  go_wp2_with (first | (go_at_call 13; refine Hid.out ?_))
  change Calls _ _ _ _ _
  refine RO.mono ?_
  clear RO
  rintro r w4 ⟨rfl, v4, hS4⟩
  have HG4 : Hid (GW w w4 p dp s2 (fun _ => []) 0) := HG3.out.2.up hS4.be
  clear hS4
  go_wp2_with fail
  (try simp only [Exit.inBlock, Exit.then])
  refine bodyPost_ret (results_tmp4 rfl _ _ _) rfl ?_
  exact ⟨p, dp, w3.heap.size, s2, rfl, HG3.out.1, HG4.out⟩
section
variable {c1 c2 c3 : Ch}
theorem K3.of3 (h : K3 c1 c2 c3) : ofB [c1, c2, c3] 3 = [c1, c3] := by simp [ofB, h.b1, h.b2, h.b3]
theorem K3.alw3 (h : K3 c1 c2 c3) : alw [c1, c2, c3] 3 = [1] := by
  unfold alw
  rw [h.of3]
  have e : c3.ah.any (holdsB [c1, c2, c3] [1]) = true := List.any_eq_true.2 ⟨2, h.a3', by simp [holdsB, opn, h.i2]⟩
  simp [allowG, h.a1, h.i1, e]
theorem setW_no {al : List Int} {c : Ch} (h : (c.id : Int) ∉ al) : setW al c = c := by unfold setW; rw [if_neg h]
theorem K3.step3 (h : K3 c1 c2 c3) : stepW [c1, c2, c3] 3 = ([setW [1] c1, c2, c3], 1) := by
  unfold stepW rdyN
  rw [show (3 : Int).toNat = 3 from rfl, h.alw3, h.of3]
  have e : nwr (pickC [c1, c3] [1]) = [c1] := by simp [nwr, pickC, h.i1, h.i3, h.w1]
  rw [e, if_neg (by simp)]
  simp [setW_no (c := c2) (al := [1]) (by simp [h.i2]), setW_no (c := c3) (al := [1]) (by simp [h.i3])]
theorem K3.step4 (h : K3 c1 c2 c3) : stepW [setW [1] c1, c2, c3] 4 = ([setW [1] c1, c2, c3], 0) := by
  have hi := (setW_id [1] c1).1
  have hb := (setW_id [1] c1).2
  unfold stepW rdyN
  rw [show (4 : Int).toNat = 4 from rfl]
  have e0 : ofB [setW [1] c1, c2, c3] 4 = [c2] := by simp [ofB, hb, h.b1, h.b2, h.b3]
  have e1 : alw [setW [1] c1, c2, c3] 4 = [] := by
    unfold alw
    rw [e0]
    have e : c2.ah.any (holdsB [setW [1] c1, c2, c3] []) = true := List.any_eq_true.2 ⟨1, h.a2', by simp [holdsB, opn, hi, h.i1]⟩
    simp [allowG, e]
  rw [e1, if_pos (by simp [pickC, nwr])]
theorem K3.round1 (h : K3 c1 c2 c3) : foldW [c1, c2, c3] [3, 4] = ([setW [1] c1, c2, c3], 1) := by
  simp only [foldW, h.step3, h.step4]
theorem K3.left1 (h : K3 c1 c2 c3) : nwr [setW [1] c1, c2, c3] = [c2, c3] := by
  have : (setW [1] c1).wr = true := by unfold setW; rw [if_pos (by simp [h.i1])]
  simp [nwr, this, h.w2, h.w3]
theorem K3.round2 (h : K3 c1 c2 c3) : foldW [c2, c3] [3, 4] = ([setW [2] c2, c3], 1) := by
  have e3 : stepW [c2, c3] 3 = ([c2, c3], 0) := by
    unfold stepW rdyN
    rw [show (3 : Int).toNat = 3 from rfl]
    have e0 : ofB [c2, c3] 3 = [c3] := by simp [ofB, h.b2, h.b3]
    have e1 : alw [c2, c3] 3 = [] := by
      unfold alw
      rw [e0]
      have e : c3.ah.any (holdsB [c2, c3] []) = true := List.any_eq_true.2 ⟨2, h.a3', by simp [holdsB, opn, h.i2]⟩
      simp [allowG, e]
    rw [e1, if_pos (by simp [pickC, nwr])]
  have e4 : stepW [c2, c3] 4 = ([setW [2] c2, c3], 1) := by
    unfold stepW rdyN
    rw [show (4 : Int).toNat = 4 from rfl]
    have e0 : ofB [c2, c3] 4 = [c2] := by simp [ofB, h.b2, h.b3]
    have e1 : alw [c2, c3] 4 = [2] := by
      unfold alw
      rw [e0]
      have e : c2.ah.any (holdsB [c2, c3] []) = false := by
        rw [List.any_eq_false]
        intro i hi
        rw [h.a2 i hi]
        simp [holdsB, opn, h.i2, h.i3]
      simp [allowG, e, h.i2]
    rw [e1, e0]
    have e : nwr (pickC [c2] [2]) = [c2] := by simp [nwr, pickC, h.i2, h.w2]
    rw [e, if_neg (by simp)]
    simp [setW_no (c := c3) (al := [2]) (by simp [h.i3])]
  simp only [foldW, e3, e4]
theorem K3.left2 (h : K3 c1 c2 c3) : nwr [setW [2] c2, c3] = [c3] := by
  have : (setW [2] c2).wr = true := by unfold setW; rw [if_pos (by simp [h.i2])]
  simp [nwr, this, h.w3]
theorem K3.round3 (h : K3 c1 c2 c3) : foldW [c3] [3] = ([setW [3] c3], 1) := by
  have e4 : stepW [c3] 3 = ([setW [3] c3], 1) := by
    unfold stepW rdyN
    rw [show (3 : Int).toNat = 3 from rfl]
    have e0 : ofB [c3] 3 = [c3] := by simp [ofB, h.b3]
    have e1 : alw [c3] 3 = [3] := by
      unfold alw
      rw [e0]
      have e : c3.ah.any (holdsB [c3] []) = false := by
        rw [List.any_eq_false]
        intro i hi
        rcases h.a3 i hi with rfl | rfl <;> simp [holdsB, opn, h.i3]
      simp [allowG, e, h.i3]
    rw [e1, e0]
    have e : nwr (pickC [c3] [3]) = [c3] := by simp [nwr, pickC, h.i3, h.w3]
    rw [e, if_neg (by simp)]
    simp
  simp only [foldW, e4]
theorem K3.left3 (h : K3 c1 c2 c3) : nwr [setW [3] c3] = [] := by
  have : (setW [3] c3).wr = true := by unfold setW; rw [if_pos (by simp [h.i3])]
  simp [nwr, this]
/-- The rounds of known: three writes. -/
theorem K3.rds (h : K3 c1 c2 c3) {C' : List Ch} {n : Nat} (hr : Rds (nxOne 3) [c1, c2, c3] C' n) : n = 3 ∧ C' = [] := by
  have s1 : opn [c1, c2, c3] 3 = true := by simp [opn, h.i3]
  have r3 : Rch [c1, c2, c3] 3 c3.id := by rw [h.i3]; exact .self s1
  have r2 : Rch [c1, c2, c3] 3 c2.id := .ahead (c := c3) (by simp) r3 (by rw [h.i2]; exact h.a3') (by simp [opn])
  cases hr with
  | done hd => exact absurd ((hd.2 3).2 ⟨c3, by simp, r3, by rw [h.b3]; rfl⟩) (by simp)
  | @step _ _ L1 n1 hnx hl hr =>
    obtain rfl : L1 = [3, 4] := asc_ext hnx.1 (by simp) fun x => by
      rw [hnx.2 x]
      constructor
      · rintro ⟨c, hc, _, e⟩
        simp at hc
        rcases hc with rfl | rfl | rfl
        · rw [h.b1] at e; simp; omega
        · rw [h.b2] at e; simp; omega
        · rw [h.b3] at e; simp; omega
      · intro hx
        simp at hx
        rcases hx with rfl | rfl
        · exact ⟨c3, by simp, r3, by rw [h.b3]; rfl⟩
        · exact ⟨c2, by simp, r2, by rw [h.b2]; rfl⟩
    rw [h.round1, h.left1] at hr
    have t3 : Rch [c2, c3] 3 c3.id := by rw [h.i3]; exact .self (by simp [opn, h.i3])
    have t2 : Rch [c2, c3] 3 c2.id := .ahead (c := c3) (by simp) t3 (by rw [h.i2]; exact h.a3') (by simp [opn])
    cases hr with
    | done hd => exact absurd ((hd.2 3).2 ⟨c3, by simp, t3, by rw [h.b3]; rfl⟩) (by simp)
    | @step _ _ L2 n2 hnx2 hl2 hr =>
      obtain rfl : L2 = [3, 4] := asc_ext hnx2.1 (by simp) fun x => by
        rw [hnx2.2 x]
        constructor
        · rintro ⟨c, hc, _, e⟩
          simp at hc
          rcases hc with rfl | rfl
          · rw [h.b2] at e; simp; omega
          · rw [h.b3] at e; simp; omega
        · intro hx
          simp at hx
          rcases hx with rfl | rfl
          · exact ⟨c3, by simp, t3, by rw [h.b3]; rfl⟩
          · exact ⟨c2, by simp, t2, by rw [h.b2]; rfl⟩
      rw [h.round2, h.left2] at hr
      have u3 : Rch [c3] 3 c3.id := by rw [h.i3]; exact .self (by simp [opn, h.i3])
      cases hr with
      | done hd => exact absurd ((hd.2 3).2 ⟨c3, by simp, u3, by rw [h.b3]; rfl⟩) (by simp)
      | @step _ _ L3 n3 hnx3 hl3 hr =>
        obtain rfl : L3 = [3] := asc_ext hnx3.1 (by simp) fun x => by
          rw [hnx3.2 x]
          constructor
          · rintro ⟨c, hc, _, e⟩
            simp at hc
            subst hc
            rw [h.b3] at e; simp; omega
          · intro hx
            simp at hx
            subst hx
            exact ⟨c3, by simp, u3, by rw [h.b3]; rfl⟩
        rw [h.round3, h.left3] at hr
        cases hr with
        | done _ => exact ⟨by simp [h.round1, h.round2, h.round3], rfl⟩
        | @step _ _ L4 n4 hnx4 hl4 _ =>
          exfalso
          cases L4 with
          | nil => simp at hl4
          | cons x r =>
            obtain ⟨c, hc, _⟩ := (hnx4.2 x).1 (by simp)
            cases hc
end
end Go.Proofs.YtadadidccbhopaaGreat
/- leveelaw12.open: both stores. -/
namespace Go.Proofs.YtadadidccbhopaaGreat
open Go.RowKit
set_option maxRecDepth 100000
set_option maxHeartbeats 2000000 in
theorem popn_any2 {w : World} {base : Nat} {dp dn dq : Nat} {en : Bool} {lf : Int} {sf : Nat → List UInt8} {ws : Nat → List (List UInt8)} {vs : Nat → Value} (h : DiskAt w base dp dn en lf sf ws dq vs) (most : Nat) (h1 : 1 ≤ most) (h2 : most ≤ 4096) :
    Calls Tryz.prog 11 #[.pointer (some ⟨dp, 0, none⟩), .int .i64 (most : Int)] w fun r w' => ∃ p cm bm cp mb, r = .returned (.tuple #[.pointer (some ⟨p, 0, none⟩), .int .i64 0]) ∧ PM w' base (newS p cm bm ⟨cp, mb, 0, .slice none 0 0, most, [], dp, dn, dq, en, lf, sf, ws, vs⟩) (fun _ => []) ∧ (w.heap.size ≤ p ∧ w.heap.size ≤ cm ∧ w.heap.size ≤ bm ∧ w.heap.size ≤ cp ∧ w.heap.size ≤ mb) ∧ Below w.heap.size w w' := by
  have CN := cnew_any h most h1 h2
  clear h
  go_enter Tryz.func11, Tryz.ntmps11
  go_wp2_with fail
  refine CN.mono ?_
  clear CN
  rintro r w1 ⟨cp, mb, rfl, hC, hcp, hmb, hb1⟩
  have HC : Hid (CS w1 base ⟨cp, mb, 0, .slice none 0 0, most, [], dp, dn, dq, en, lf, sf, ws, vs⟩ []) := hC
  have HB : Hid (Below w.heap.size w w1) := hb1
  have hm1 := fun w => run_makeMap (P := Tryz.prog) 121 w
  have hm2 := fun w => run_makeMap (P := Tryz.prog) 122 w
  clear hC hb1
  go_wp2
  go_ret2
  have s1 : ∀ (v : World) (o : Obj), (v.alloc o).heap.size = v.heap.size + 1 := fun v o => by show (v.heap.push o).size = _; simp
  have b0 : Below w1.heap.size w1 (w1.alloc (.map #[] 0)) := (Below.refl _ _).alloc (Nat.le_refl _) _
  have b1 : Below w1.heap.size w1 ((w1.alloc (.map #[] 0)).alloc (.map #[] 0)) := b0.alloc (by rw [s1]; omega) _
  have b2 : Below w1.heap.size w1 (((w1.alloc (.map #[] 0)).alloc (.map #[] 0)).alloc (.cells #[.pointer (some ⟨dp, 0, none⟩), .pointer (some ⟨cp, 0, none⟩), .int .i64 0, .map (some w1.heap.size), .map (some (w1.heap.size + 1))] 124)) := b1.alloc (by rw [s1, s1]; omega) _
  refine ⟨w1.heap.size + 2, w1.heap.size, w1.heap.size + 1, cp, mb, rfl, PM.made HC.out b2 ⟨by omega, by omega, by omega⟩ ⟨by omega, by omega, by omega⟩ ?_ ?_ ?_, by have := HB.out.size; omega, HB.out.trans (b2.mono HB.out.size)⟩
  · have := heap_alloc_new ((w1.alloc (.map #[] 0)).alloc (.map #[] 0)) (.cells #[.pointer (some ⟨dp, 0, none⟩), .pointer (some ⟨cp, 0, none⟩), .int .i64 0, .map (some w1.heap.size), .map (some (w1.heap.size + 1))] 124)
    rw [s1, s1] at this; exact this
  · exact ((KMap.made w1).same (Below.heap_alloc _ _ _ (by rw [s1]; omega))).same (Below.heap_alloc _ _ _ (by rw [s1, s1]; omega))
  · have := KMap.made (kt := 3) (w1.alloc (.map #[] 0))
    rw [s1] at this
    exact this.same (Below.heap_alloc _ _ _ (by rw [s1, s1]; omega))
end Go.Proofs.YtadadidccbhopaaGreat
/- Slices of changes that came in: leveelaw12.Change. -/
namespace Go.Proofs.YtadadidccbhopaaGreat
open Go.ChangeShapes Go.WideShapes Go.ChangeAt Go.RowKit
set_option maxRecDepth 100000
/-- A change: block, place, bytes, numbers, the block that is written behind it, and whether all is flushed. -/
structure Chg where
  B : Int
  F : Int
  dp : Option Addr
  D : List UInt8
  dc : Nat
  ap : Option Addr
  A : List Int
  ac : Nat
  W : Int
  R : Bool
/-- Where it lies. -/
def Chg.at' (q : Chg) (W : World) (a : Addr) : Prop :=
  W.cell? (a.add 0) = some (.int .i64 q.B) ∧ W.cell? (a.add 1) = some (.int .i64 q.F) ∧ W.cell? (a.add 2) = some (.slice q.dp q.D.length q.dc) ∧ W.cell? (a.add 3) = some (.slice q.ap q.A.length q.ac) ∧ W.cell? (a.add 4) = some (.int .i64 q.W) ∧ W.cell? (a.add 5) = some (.bool q.R)
/-- What is known of it. -/
structure Chg.Ok (q : Chg) (W : World) : Prop where
  k : -9223372036854775808 ≤ q.B ∧ q.B ≤ 9223372036854775807
  f : -9223372036854775808 ≤ q.F ∧ q.F ≤ 9223372036854775807
  n : -9223372036854775808 ≤ q.W ∧ q.W ≤ 9223372036854775807
  d : Src W q.dp q.D
  dl : (q.D.length : Int) ≤ 9223372036854775807
  a : SrcI W q.ap q.A
  al : (q.A.length : Int) ≤ 9223372036854775807
  ab : ∀ i ∈ q.A, -9223372036854775808 ≤ i ∧ i ≤ 9223372036854775807
theorem chg_fields : ∃ f0 f1 f2 f3 f4 f5 : Field, Tryz.prog.underlying 157 = some (.struct #[f0, f1, f2, f3, f4, f5]) ∧ (f0.type = 3 ∧ f0.offset = 0) ∧ (f1.type = 3 ∧ f1.offset = 1) ∧ (f2.type = 36 ∧ f2.offset = 2) ∧ (f3.type = 37 ∧ f3.offset = 3) ∧ (f4.type = 3 ∧ f4.offset = 4) ∧ (f5.type = 4 ∧ f5.offset = 5) := by
  have h : (match Tryz.prog.underlying 157 with | some (.struct fs) => some (fs.toList.map fun f => (f.type, f.offset)) | _ => none) = some [(3, 0), (3, 1), (36, 2), (37, 3), (3, 4), (4, 5)] := by kernel_rfl
  cases hu : Tryz.prog.underlying 157 with
  | none => rw [hu] at h; cases h
  | some d =>
    rw [hu] at h
    cases d with
    | struct fs =>
      have h' : (fs.toList.map fun f => (f.type, f.offset)) = [(3, 0), (3, 1), (36, 2), (37, 3), (3, 4), (4, 5)] := Option.some.inj h
      obtain ⟨f0, f1, f2, f3, f4, f5, hf⟩ := six_of (l := fs.toList) (by have := congrArg List.length h'; simpa using this)
      rw [hf] at h'
      simp only [List.map_cons, List.map_nil, List.cons.injEq, Prod.mk.injEq, and_true] at h'
      refine ⟨f0, f1, f2, f3, f4, f5, ?_, h'.1, h'.2.1, h'.2.2.1, h'.2.2.2.1, h'.2.2.2.2.1, h'.2.2.2.2.2⟩
      have : fs = #[f0, f1, f2, f3, f4, f5] := by cases fs; simp_all
      rw [this]
    | _ => cases h
/-- A slice of m changes. -/
def ChgsAt (w : World) (sp : Option Addr) (m : Nat) (A : Nat → Chg) : Prop :=
  0 < m → ∃ b off, sp = some ⟨b, off, none⟩ ∧ b < w.heap.size ∧ ∀ k, k < m → (A k).at' w ⟨b, off + k * 6, none⟩ ∧ (A k).Ok w
theorem open_chgs {H : Type} {enc : TypeId × Value → H} {W : World} {base : Nat} {v : Value} {d : DataW H} {p : List MemPlace}
    (hv : Value.okWide Tryz.prog W .any base 67 v) (h : DataW.Trod enc Tryz.prog W 0 (fun _ => true) true 67 v d p) :
    ∃ sp m cap, ∃ A : Nat → Chg, v = .slice sp m cap ∧ (m ≤ cap ∧ (cap : Int) ≤ 9223372036854775807 ∧ ChgsAt W sp m A) := by
  obtain ⟨a0, len0, cap0, rfl⟩ := okWide_slice Tryz.underlying67 hv
  obtain ⟨fuel, hf⟩ := h
  have hce : Tryz.prog.cellsOf 157 = 6 := by kernel_rfl
  have hc3 : Tryz.prog.cellsOf 3 = 1 := by kernel_rfl
  have hcb : Tryz.prog.cellsOf 36 = 1 := by kernel_rfl
  have hcl : Tryz.prog.cellsOf 37 = 1 := by kernel_rfl
  have hco : Tryz.prog.cellsOf 4 = 1 := by kernel_rfl
  obtain ⟨f0, f1, f2, f3, f4, f5, hu, ⟨t0, o0⟩, ⟨t1, o1⟩, ⟨t2, o2⟩, ⟨t3, o3⟩, ⟨t4, o4⟩, ⟨t5, o5⟩⟩ := chg_fields
  rcases Deep.open_slice Tryz.underlying67 hf with ⟨hcs, _⟩ | ⟨x, len, cap, m, n, D, Pl, hcs, _, hl, hm, hmm, hx, hel⟩
  · simp [Value.cells] at hcs
    obtain ⟨rfl, rfl, rfl⟩ := hcs
    exact ⟨none, 0, 0, fun _ => ⟨0, 0, none, [], 0, none, [], 0, 0, false⟩, rfl, Nat.le_refl _, by omega, fun h => by omega⟩
  · simp [Value.cells] at hcs
    obtain ⟨rfl, rfl, rfl⟩ := hcs
    simp only [if_true] at hmm
    subst hmm
    have each : ∀ i, i < len0 → ∃ q : Chg, q.at' W (x.add (i * 6)) ∧ q.Ok W := by
      intro i hi
      obtain ⟨cs', h1, h2⟩ := hel i (by omega)
      rw [hce] at h1
      obtain ⟨_, hlen, hcell⟩ := World.cells?_some h1
      obtain ⟨y0, y1, y2, y3, y4, y5, k, _, g0, g1, g2, g3, g4, g5⟩ := trod_struct6 hu h2
      obtain ⟨v0, v1, v2, v3, v4, v5, rfl⟩ := six_of hlen
      rw [t0, o0, hc3] at g0
      rw [t1, o1, hc3] at g1
      rw [t2, o2, hcb] at g2
      rw [t3, o3, hcl] at g3
      rw [t4, o4, hc3] at g4
      rw [t5, o5, hco] at g5
      obtain ⟨n0, e0, _, w0⟩ := DataW.trod_int Tryz.underlying3 g0
      obtain ⟨n1, e1, _, w1⟩ := DataW.trod_int Tryz.underlying3 g1
      obtain ⟨n2, e4, _, w2⟩ := DataW.trod_int Tryz.underlying3 g4
      obtain ⟨sd, cd, ld, e2, hsd, hld⟩ := open_data (v := v2) (by simpa using g2)
      obtain ⟨sa, ca, la, e3, hsa, hla, hba⟩ := open_longs (v := v3) (by simpa using g3)
      obtain ⟨bo, e5, _⟩ := DataW.trod_bool Tryz.underlying4 g5
      simp at e0 e1 e4 e5
      subst e0 e1 e2 e3 e4 e5
      have bd0 := bounds_i64 w0
      have bd1 := bounds_i64 w1
      have bd2 := bounds_i64 w2
      exact ⟨⟨n0, n1, sd, ld, cd, sa, la, ca, n2, bo⟩, ⟨by simpa using hcell 0 (by omega), by simpa using hcell 1 (by omega), by simpa using hcell 2 (by omega), by simpa using hcell 3 (by omega), by simpa using hcell 4 (by omega), by simpa using hcell 5 (by omega)⟩, ⟨bd0.1, (show n0 ≤ 9223372036854775807 by omega)⟩, ⟨bd1.1, (show n1 ≤ 9223372036854775807 by omega)⟩, ⟨bd2.1, (show n2 ≤ 9223372036854775807 by omega)⟩, hsd, hld, hsa, hla, hba⟩
    have hinh : Inhabited Chg := ⟨⟨0, 0, none, [], 0, none, [], 0, 0, false⟩⟩
    obtain ⟨q, hq⟩ := Deep.choose_lt (α := Chg) each
    refine ⟨some x, len0, m, q, rfl, hl, by unfold maxLen at hm; omega, fun h0 => ?_⟩
    have hsp : x.spot = none := by
      have h1 := (hq 0 h0).1.1
      simpa [Addr.add] using World.cell?_spot h1
    obtain ⟨b, off, rfl⟩ : ∃ b off, x = ⟨b, off, none⟩ := ⟨x.block, x.off, by cases x; simp_all⟩
    refine ⟨b, off, rfl, ?_, fun k hk => ?_⟩
    · have h1 := (hq 0 h0).1.1
      rw [addr_add, addr_add] at h1
      exact block_lt_of_cell h1
    · have := hq k hk
      rw [addr_add] at this; exact this
end Go.Proofs.YtadadidccbhopaaGreat
