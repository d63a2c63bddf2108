/- Package patch: the answers of Patch and Write where nothing is done. -/
import Derived.Test.YthaogbbclocmaaaGreatJPlog9
import Derived.Test.YthaogbbclocmaaaGreatKOpens
import Derived.Test.YthaogbbclocmaaaGreatKRay
import Derived.Deep.Slices
import Derived.Deep.Strs
import Derived.Test.YthaogbbclocmaaaGreatJDOpen3
import Derived.Test.YthaogbbclocmaaaGreatKPmark
import Derived.Deep.CutBlock
import Derived.Deep.DeepCutAuto
namespace Go.Proofs.YthaogbbclocmaaaGreat
open Go.RowKit
set_option maxRecDepth 100000
section
variable {w w' w0 : World} {base : Nat} {s : PSt} {ops : Nat → List Int} {κ : Nat}
set_option maxHeartbeats 2000000 in
theorem pwrite_out (h : PM w base s ops) (b : Int) (hb : b < 0 ∨ (s.σ.dn : Int) ≤ b) :
    Calls Tryz.prog 26 #[.pointer (some ⟨s.p, 0, none⟩), .int .i64 b] w fun r w' => r = .returned (.int .i64 3) ∧ w' = w := by
  have RC := preach_any h b
  rw [if_pos hb] at RC
  clear h
  go_enter Tryz.func26, Tryz.ntmps26
  go_wp2_with (first | (go_at_call 82; refine RC.mono ?_; rintro e w1 ⟨rfl, hw1⟩; obtain rfl : w = w1 := hw1.symm))
  go_ret
  exact ⟨rfl, rfl⟩
set_option maxHeartbeats 2000000 in
theorem pwrite_none (h : PM w base s ops) (n : Nat) (hn : n < s.σ.dn) (hdn : s.σ.dn ≤ 4096) (hf : s.fB n = 0) :
    Calls Tryz.prog 26 #[.pointer (some ⟨s.p, 0, none⟩), .int .i64 (n : Int)] w fun r w' => r = .returned (.int .i64 20) ∧ w' = w := by
  have RC := preach_any h (n : Int)
  rw [if_neg (by omega)] at RC
  have LK := h.lookB (n : Int) (by omega)
  rw [hf] at LK
  simp only [ptrV] at LK
  have c4 := h.c4
  clear h
  go_enter Tryz.func26, Tryz.ntmps26
  go_wp2_with (first | (go_at_call 82; refine RC.mono ?_; rintro e w1 ⟨rfl, hw1⟩; obtain rfl : w = w1 := hw1.symm))
  go_ret
  exact ⟨rfl, rfl⟩
set_option maxHeartbeats 2000000 in
theorem ppatch_out (h : PM w base s ops) (b : Int) (hb : b < 0 ∨ (s.σ.dn : Int) ≤ b) (fr : Int) (v v2 : Value) :
    Calls Tryz.prog 28 #[.pointer (some ⟨s.p, 0, none⟩), .int .i64 b, .int .i64 fr, v, v2] w fun r w' => r = .returned (.tuple #[.int .i64 0, .int .i64 3]) ∧ w' = w := by
  have RC := preach_any h b
  rw [if_pos hb] at RC
  clear h
  go_enter Tryz.func28, Tryz.ntmps28
  go_wp2_with (first | (go_at_call 82; refine RC.mono ?_; rintro e w1 ⟨rfl, hw1⟩; obtain rfl : w = w1 := hw1.symm))
  go_ret2
  exact ⟨rfl, rfl⟩
set_option maxHeartbeats 2000000 in
theorem ppatch_size (h : PM w base s ops) (n : Nat) (hn : n < s.σ.dn) (fr : Int) (hfr : -9223372036854775808 ≤ fr ∧ fr ≤ 9223372036854775807) (sp : Option Addr) (m cap : Nat) (hm : (m : Int) ≤ 9223372036854775807) (v2 : Value) (hs : m = 0 ∨ fr < 0 ∨ 256 - (m : Int) < fr) :
    Calls Tryz.prog 28 #[.pointer (some ⟨s.p, 0, none⟩), .int .i64 (n : Int), .int .i64 fr, .slice sp m cap, v2] w fun r w' => r = .returned (.tuple #[.int .i64 0, .int .i64 4]) ∧ w' = w := by
  have RC := preach_any h (n : Int)
  rw [if_neg (by omega)] at RC
  clear h
  by_cases h1 : m = 0
  · subst h1
    go_enter Tryz.func28, Tryz.ntmps28
    go_wp2_with (first | (go_at_call 82; refine RC.mono ?_; rintro e w1 ⟨rfl, hw1⟩; obtain rfl : w = w1 := hw1.symm))
    go_ret2
    exact ⟨rfl, rfl⟩
  · have hm0 : ¬ (m : Int) = 0 := by omega
    have hm0b : ((m : Int) == 0) = false := by simpa using hm0
    by_cases h2 : fr < 0
    · go_enter Tryz.func28, Tryz.ntmps28
      go_wp2_with (first | (go_at_call 82; refine RC.mono ?_; rintro e w1 ⟨rfl, hw1⟩; obtain rfl : w = w1 := hw1.symm))
      go_ret2
      exact ⟨rfl, rfl⟩
    · have h3 : 256 - (m : Int) < fr := by omega
      have h4 : -9223372036854775808 ≤ 256 - (m : Int) ∧ 256 - (m : Int) ≤ 9223372036854775807 := by omega
      go_enter Tryz.func28, Tryz.ntmps28
      go_wp2_with (first | (go_at_call 82; refine RC.mono ?_; rintro e w1 ⟨rfl, hw1⟩; obtain rfl : w = w1 := hw1.symm))
      go_ret2
      exact ⟨rfl, rfl⟩
set_option maxHeartbeats 2000000 in
theorem ppatch_arg (h : PM w base s ops) (n : Nat) (hn : n < s.σ.dn) (fr : Nat) (sp : Option Addr) (m cap : Nat) (hm1 : 1 ≤ m) (hf : fr + m ≤ 256) (asp : Option Addr) (ac : Nat) (after : List Int) (has : SrcI w asp after) (hal : after.length ≤ 1000) (hun : ∃ i ∈ after, i < 1 ∨ (s.cnt : Int) < i) :
    Calls Tryz.prog 28 #[.pointer (some ⟨s.p, 0, none⟩), .int .i64 (n : Int), .int .i64 (fr : Int), .slice sp m cap, .slice asp after.length ac] w fun r w' => r = .returned (.tuple #[.int .i64 0, .int .i64 1]) ∧ ∃ q, w' = w.drewN q := by
  have RC := preach_any h (n : Int)
  rw [if_neg (by omega)] at RC
  have egu : ∀ args w, (callFunc 89 args).run Tryz.prog w = .ok (.enter 89 args) w := enters_of Tryz.func89 (by kernel_rfl) rfl
  have CF := containsFunc_m 89 (.pointer (some ⟨s.p, 0, none⟩)) egu (fun x => decide (x < 1 ∨ (s.cnt : Int) < x)) asp ac after w has (by omega) (fun x hx m => (unknown_any (h.up (belowN (Below.refl _ _) m)) x).mono fun e w' hh => ⟨hh.1, m, hh.2⟩)
  rw [show after.any (fun x => decide (x < 1 ∨ (s.cnt : Int) < x)) = true by
    rw [List.any_eq_true]
    obtain ⟨i, hi, h1⟩ := hun
    exact ⟨i, hi, by simpa using h1⟩] at CF
  have hf' : (fr : Int) ≤ 256 - (m : Int) := by omega
  have hm0 : ¬ (m : Int) = 0 := by omega
  have hm0b : ((m : Int) == 0) = false := by simpa using hm0
  have hm256 : (m : Int) ≤ 256 := by omega
  clear h egu hun has
  go_enter Tryz.func28, Tryz.ntmps28
  go_wp2_with (first | (go_at_call 82; refine RC.mono ?_; rintro e w1 ⟨rfl, hw1⟩; obtain rfl : w = w1 := hw1.symm) | (go_at_call 88; refine Hid.out ?_))
  change Calls _ _ _ _ _
  refine CF.mono ?_
  clear CF RC
  rintro e w2 ⟨⟨q0, rfl⟩, rfl⟩
  go_wp2
  go_ret2
  exact ⟨rfl, q0, rfl⟩
end
end Go.Proofs.YthaogbbclocmaaaGreat
/- leveeref01.Count; package patch: Block. -/
namespace Go.Proofs.YthaogbbclocmaaaGreat
open Go.RowKit
set_option maxRecDepth 100000
section
variable {w w' : World} {base : Nat} {s : PSt} {ops : Nat → List Int} {κ : Nat}
set_option maxHeartbeats 2000000 in
theorem pblock_no (h : PM w base s ops) (x : Int) (hx : -9223372036854775808 ≤ x ∧ x ≤ 9223372036854775807) (hf : s.fC x = 0) :
    Calls Tryz.prog 46 #[.pointer (some ⟨s.p, 0, none⟩), .int .i64 x] w fun r w' => r = .returned (.tuple #[.int .i64 0, .int .i64 20]) ∧ w' = w := by
  have CL := closed_any h x hx
  rw [decide_eq_true hf] at CL
  clear h
  go_enter Tryz.func46, Tryz.ntmps46
  go_wp2_with (first | (go_at_call 96; refine CL.mono ?_; rintro e w1 ⟨rfl, hw1⟩; obtain rfl : w = w1 := hw1.symm))
  go_ret2
  exact ⟨rfl, rfl⟩
set_option maxHeartbeats 2000000 in
theorem pblock_ok (h : PM w base s ops) {c : Ch} (hc : c ∈ s.C) (hx : (c.id : Int) ≤ 1000000) (hf : s.fC c.id = c.q + 1) :
    Calls Tryz.prog 46 #[.pointer (some ⟨s.p, 0, none⟩), .int .i64 (c.id : Int)] w fun r w' => r = .returned (.tuple #[.int .i64 (c.b : Int), .int .i64 0]) ∧ w' = w := by
  have CL := closed_any h (c.id : Int) (by omega)
  rw [hf, decide_eq_false (by omega)] at CL
  have LK := h.lookC (c.id : Int) (by omega)
  rw [hf] at LK
  simp only [ptrV] at LK
  have c3 := h.c3
  have x0 : w.cell? ⟨c.q, 0, none⟩ = some (.int .i64 (c.b : Int)) := (h.ch c hc).c0
  clear h hc
  go_enter Tryz.func46, Tryz.ntmps46
  go_wp2_with (first | (go_at_call 96; refine CL.mono ?_; rintro e w1 ⟨rfl, hw1⟩; obtain rfl : w = w1 := hw1.symm))
  go_ret2
  exact ⟨rfl, rfl⟩
end
end Go.Proofs.YthaogbbclocmaaaGreat
/- Slices of calls that came in: leveelaw11.Act. -/
namespace Go.Proofs.YthaogbbclocmaaaGreat
open Go.ChangeShapes Go.WideShapes Go.ChangeAt Go.RowKit
set_option maxRecDepth 100000
/-- A call: kind, block, place, bytes, numbers, and whether these are taken as they are. -/
structure Act6 where
  K : Int
  N : Int
  F : Int
  dp : Option Addr
  D : List UInt8
  dc : Nat
  ap : Option Addr
  A : List Int
  ac : Nat
  R : Bool
/-- Where it lies. -/
def Act6.at' (q : Act6) (W : World) (a : Addr) : Prop :=
  W.cell? (a.add 0) = some (.int .i64 q.K) ∧ W.cell? (a.add 1) = some (.int .i64 q.N) ∧ W.cell? (a.add 2) = some (.int .i64 q.F) ∧ W.cell? (a.add 3) = some (.slice q.dp q.D.length q.dc) ∧ W.cell? (a.add 4) = some (.slice q.ap q.A.length q.ac) ∧ W.cell? (a.add 5) = some (.bool q.R)
/-- What is known of it. -/
structure Act6.Ok (q : Act6) (W : World) : Prop where
  k : -9223372036854775808 ≤ q.K ∧ q.K ≤ 9223372036854775807
  n : -9223372036854775808 ≤ q.N ∧ q.N ≤ 9223372036854775807
  f : -9223372036854775808 ≤ q.F ∧ q.F ≤ 9223372036854775807
  d : Src W q.dp q.D
  dl : (q.D.length : Int) ≤ 9223372036854775807
  a : SrcI W q.ap q.A
  al : (q.A.length : Int) ≤ 9223372036854775807
  ab : ∀ i ∈ q.A, -9223372036854775808 ≤ i ∧ i ≤ 9223372036854775807
theorem six_of {α : Type} {l : List α} (h : l.length = 6) : ∃ a b c d e f, l = [a, b, c, d, e, f] := by
  match l, h with
  | [a, b, c, d, e, f], _ => exact ⟨a, b, c, d, e, f, rfl⟩
theorem act_fields : ∃ f0 f1 f2 f3 f4 f5 : Field, Tryz.prog.underlying 39 = some (.struct #[f0, f1, f2, f3, f4, f5]) ∧ (f0.type = 3 ∧ f0.offset = 0) ∧ (f1.type = 3 ∧ f1.offset = 1) ∧ (f2.type = 3 ∧ f2.offset = 2) ∧ (f3.type = 36 ∧ f3.offset = 3) ∧ (f4.type = 37 ∧ f4.offset = 4) ∧ (f5.type = 4 ∧ f5.offset = 5) := by
  have h : (match Tryz.prog.underlying 39 with | some (.struct fs) => some (fs.toList.map fun f => (f.type, f.offset)) | _ => none) = some [(3, 0), (3, 1), (3, 2), (36, 3), (37, 4), (4, 5)] := by kernel_rfl
  cases hu : Tryz.prog.underlying 39 with
  | none => rw [hu] at h; cases h
  | some d =>
    rw [hu] at h
    cases d with
    | struct fs =>
      have h' : (fs.toList.map fun f => (f.type, f.offset)) = [(3, 0), (3, 1), (3, 2), (36, 3), (37, 4), (4, 5)] := Option.some.inj h
      obtain ⟨f0, f1, f2, f3, f4, f5, hf⟩ := six_of (l := fs.toList) (by have := congrArg List.length h'; simpa using this)
      rw [hf] at h'
      simp only [List.map_cons, List.map_nil, List.cons.injEq, Prod.mk.injEq, and_true] at h'
      refine ⟨f0, f1, f2, f3, f4, f5, ?_, h'.1, h'.2.1, h'.2.2.1, h'.2.2.2.1, h'.2.2.2.2.1, h'.2.2.2.2.2⟩
      have : fs = #[f0, f1, f2, f3, f4, f5] := by cases fs; simp_all
      rw [this]
    | _ => cases h
/-- A slice of bytes inside another value. -/
theorem open_data {H : Type} {enc : TypeId × Value → H} {W : World} {fuel : Nat} {v : Value} {x : DataW H × List MemPlace}
    (h : DataW.trod enc Tryz.prog W 0 (fun _ => true) true fuel 36 [v] = some x) : ∃ sp cap, ∃ l : List UInt8, v = .slice sp l.length cap ∧ Src W sp l ∧ (l.length : Int) ≤ 9223372036854775807 := by
  rcases open_ints Tryz.underlying36 Tryz.underlying5 (by kernel_rfl) h with ⟨hcs, _⟩ | ⟨x, l, c, zs, hcs, _, hl, hm, hz, hx, hcell, hwz⟩
  · simp at hcs
    subst hcs
    exact ⟨none, 0, [], rfl, .inl rfl, by simp⟩
  · simp at hcs
    subst hcs
    simp only [if_true] at hz
    have hlen : ((zs.take l).map fun z => UInt8.ofNat z.toNat).length = l := by simp; omega
    refine ⟨some x, c, (zs.take l).map fun z => UInt8.ofNat z.toNat, by rw [hlen], ?_, by rw [hlen]; unfold maxLen at hm; omega⟩
    by_cases hc : l = 0
    · exact .inl (List.eq_nil_of_length_eq_zero (by rw [hlen]; omega))
    · obtain ⟨b, off, rfl, hc2⟩ := ints_at hcell (by omega)
      refine .inr ⟨b, off, rfl, block_lt_of_cell (hc2 0 (by omega)), fun j hj => ?_⟩
      rw [hlen] at hj
      rw [hc2 j (by omega)]
      have hjz : j < zs.length := by omega
      simp only [bv, List.getElem_map, List.getElem_take]
      rw [byteLit (hwz _ (List.getElem_mem hjz))]
      simp [hjz]
/-- A slice of numbers inside another value. -/
theorem open_longs {H : Type} {enc : TypeId × Value → H} {W : World} {fuel : Nat} {v : Value} {x : DataW H × List MemPlace}
    (h : DataW.trod enc Tryz.prog W 0 (fun _ => true) true fuel 37 [v] = some x) : ∃ sp cap, ∃ l : List Int, v = .slice sp l.length cap ∧ SrcI W sp l ∧ (l.length : Int) ≤ 9223372036854775807 ∧ ∀ i ∈ l, -9223372036854775808 ≤ i ∧ i ≤ 9223372036854775807 := by
  rcases open_ints Tryz.underlying37 Tryz.underlying2 (by kernel_rfl) h with ⟨hcs, _⟩ | ⟨x, l, c, zs, hcs, _, hl, hm, hz, hx, hcell, hwz⟩
  · simp at hcs
    subst hcs
    exact ⟨none, 0, [], rfl, .inl rfl, by simp, fun i hi => by cases hi⟩
  · simp at hcs
    subst hcs
    simp only [if_true] at hz
    have hlen : (zs.take l).length = l := by simp; omega
    refine ⟨some x, c, zs.take l, by rw [hlen], ?_, by rw [hlen]; unfold maxLen at hm; omega, fun i hi => ?_⟩
    · by_cases hc : l = 0
      · exact .inl (List.eq_nil_of_length_eq_zero (by rw [hlen]; omega))
      · obtain ⟨b, off, rfl, hc2⟩ := ints_at hcell (by omega)
        refine .inr ⟨b, off, rfl, block_lt_of_cell (hc2 0 (by omega)), fun j hj => ?_⟩
        rw [hlen] at hj
        rw [hc2 j (by omega)]
        have hjz : j < zs.length := by omega
        simp [hjz, hj]
    · have := bounds_i64 (hwz i (List.mem_of_mem_take hi))
      omega
end Go.Proofs.YthaogbbclocmaaaGreat
/- Three changes: which may be written, and what is laid. -/
namespace Go.Proofs.YthaogbbclocmaaaGreat
open Go.RowKit
set_option maxRecDepth 100000
structure C3 (c1 c2 c3 : Ch) : Prop where
  i1 : c1.id = 1
  b1 : c1.b = 5
  f1 : c1.fr = 0
  d1 : c1.d = [97]
  w1 : c1.wr = false
  a1 : c1.ah = []
  i2 : c2.id = 2
  b2 : c2.b = 6
  w2 : c2.wr = false
  a2 : (1 : Int) ∈ c2.ah
  a2' : ∀ i ∈ c2.ah, i = 1
  i3 : c3.id = 3
  b3 : c3.b = 5
  f3 : c3.fr = 1
  d3 : c3.d = [99]
  w3 : c3.wr = false
  a3 : (2 : Int) ∈ c3.ah
  a3' : ∀ i ∈ c3.ah, i = 1 ∨ i = 2
section
variable {c1 c2 c3 : Ch}
theorem C3.of6 (h : C3 c1 c2 c3) : ofB [c1, c2, c3] 6 = [c2] := by simp [ofB, h.b1, h.b2, h.b3]
theorem C3.of5 (h : C3 c1 c2 c3) : ofB [c1, c2, c3] 5 = [c1, c3] := by simp [ofB, h.b1, h.b2, h.b3]
theorem C3.alw6 (h : C3 c1 c2 c3) : alw [c1, c2, c3] 6 = [] := by
  unfold alw
  rw [h.of6]
  have e : c2.ah.any (holdsB [c1, c2, c3] []) = true := List.any_eq_true.2 ⟨1, h.a2, by simp [holdsB, opn, h.i1]⟩
  simp [allowG, e]
theorem C3.alw5 (h : C3 c1 c2 c3) : alw [c1, c2, c3] 5 = [1] := by
  unfold alw
  rw [h.of5]
  have e : c3.ah.any (holdsB [c1, c2, c3] [1]) = true := List.any_eq_true.2 ⟨2, h.a3, by simp [holdsB, opn, h.i2]⟩
  simp [allowG, h.a1, h.i1, e]
theorem C3.pick6 (h : C3 c1 c2 c3) : pickC (ofB [c1, c2, c3] 6) (alw [c1, c2, c3] 6) = [] := by rw [h.alw6]; simp [pickC]
theorem C3.pick5 (h : C3 c1 c2 c3) : pickC (ofB [c1, c2, c3] 5) (alw [c1, c2, c3] 5) = [c1] := by
  rw [h.alw5, h.of5]; simp [pickC, h.i1, h.i3]
theorem C3.wr5 (h : C3 c1 c2 c3) : nwr ([c1, c2, c3].map (setW (alw [c1, c2, c3] 5))) = [c2, c3] := by
  rw [h.alw5]
  simp [nwr, setW, h.i1, h.i2, h.i3, h.w2, h.w3]
theorem C3.alw6' (h : C3 c1 c2 c3) : alw [c2, c3] 6 = [2] := by
  have e0 : ofB [c2, c3] 6 = [c2] := by simp [ofB, h.b2, h.b3]
  unfold alw
  rw [e0]
  have e : c2.ah.any (holdsB [c2, c3] []) = false := by
    rw [List.any_eq_false]
    intro i hi
    rw [h.a2' i hi]
    simp [holdsB, opn, h.i2, h.i3]
  simp [allowG, e, h.i2]
theorem C3.wr6 (h : C3 c1 c2 c3) : nwr ([c2, c3].map (setW (alw [c2, c3] 6))) = [c3] := by
  rw [h.alw6']
  simp [nwr, setW, h.i2, h.i3, h.w3]
theorem C3.ready (h : C3 c1 c2 c3) : nwr (pickC (ofB [c3] 5) (alw [c3] 5)) = [c3] := by
  have e0 : ofB [c3] 5 = [c3] := by simp [ofB, h.b3]
  have e : c3.ah.any (holdsB [c3] []) = false := by
    rw [List.any_eq_false]
    intro i hi
    rcases h.a3' i hi with rfl | rfl
    · simp [holdsB, opn, h.i3]
    · simp [holdsB, opn, h.i3]
  have e2 : alw [c3] 5 = [3] := by
    unfold alw; rw [e0]; simp [allowG, e, h.i3]
  rw [e0, e2]
  simp [pickC, nwr, h.i3, h.w3]
theorem zer_get (j : Nat) (hj : j < 256) : zer[j]? = some 0 := by
  unfold zer
  rw [List.getElem?_replicate, if_pos hj]
theorem C3.im5 (h : C3 c1 c2 c3) : (lays zer [c1])[0]? = some 97 ∧ (lays zer [c1])[1]? = some 0 := by
  have hz : zer.length = 256 := by simp [zer]
  rw [lays_cons, lays_nil, h.f1, h.d1]
  rw [layB_get (by rw [hz]; simp), layB_get (by rw [hz]; simp), zer_get 1 (by omega)]
  simp
theorem C3.rd5 (h : C3 c1 c2 c3) : (lays zer [c1, c3])[1]? = some 99 := by
  have hz : zer.length = 256 := by simp [zer]
  rw [lays_cons, lays_cons, lays_nil, h.f3, h.d3]
  rw [layB_get (by rw [layB_length (by rw [h.f1, h.d1, hz]; simp), hz]; simp)]
  simp
end
theorem src_one (w : World) (x : UInt8) : Src (w.alloc (.cells #[bv x] 5 (1, 2))) (some ⟨w.heap.size, 0, none⟩) [x] := by
  refine .inr ⟨w.heap.size, 0, rfl, by show _ < (w.heap.push _).size; simp, fun j hj => ?_⟩
  have hj0 : j = 0 := by simpa using hj
  subst hj0
  have := heap_alloc_new w (.cells #[bv x] 5 (1, 2))
  exact (cell_of_row _ _ _ _ _ _ this).trans rfl
theorem srcI_one (w : World) (i : Int) : SrcI (w.alloc (.cells #[.int .i64 i] 2)) (some ⟨w.heap.size, 0, none⟩) [i] := by
  refine .inr ⟨w.heap.size, 0, rfl, by show _ < (w.heap.push _).size; simp, fun j hj => ?_⟩
  have hj0 : j = 0 := by simpa using hj
  subst hj0
  have := heap_alloc_new w (.cells #[.int .i64 i] 2)
  exact (cell_of_row _ _ _ _ _ _ this).trans rfl
/-- The store of a walk that began at w0. -/
structure KW (w0 w : World) (p : Nat) (s : PSt) (ops : Nat → List Int) (κ : Nat) : Prop where
  pm : PM w w0.heap.size s ops
  pl : PL s ops [] κ
  be : Below w0.heap.size w0 w
  p : s.p = p
  dn : s.σ.dn = 8
theorem KW.up {w0 w w' : World} {p : Nat} {s : PSt} {ops : Nat → List Int} {κ : Nat} (h : KW w0 w p s ops κ) (hb : Below w.heap.size w w') : KW w0 w' p s ops κ :=
  ⟨h.pm.up hb, h.pl, h.be.trans (hb.mono h.be.size), h.p, h.dn⟩
theorem KW.run {w0 w w' : World} {p : Nat} {s s' : PSt} {ops ops' : Nat → List Int} {κ κ' : Nat} (h : KW w0 w p s ops κ) (hR : PRun w0.heap.size s w s' ops' w') (hL : PL s' ops' [] κ') (hp : s'.p = s.p) (hd : s'.σ.dn = s.σ.dn) : KW w0 w' p s' ops' κ' :=
  ⟨hR.pm, hL, h.be.trans hR.be, hp.trans h.p, hd.trans h.dn⟩
section
variable {w0 w : World} {p : Nat} {s : PSt} {ops : Nat → List Int} {κ : Nat}
theorem PL.bkOf (h : PL s ops [] κ) {n : Nat} (hc : ∃ c ∈ s.C, c.b = n) : ∃ b ∈ s.B, b.n = n ∧ b.ba = s.σ.sf n := by
  obtain ⟨c, hc, hcb⟩ := hc
  obtain ⟨b, hb, hbn⟩ := h.cb c hc
  rw [hcb] at hbn
  have := h.sfb b hb
  rw [hbn, if_neg (by simp)] at this
  exact ⟨b, hb, hbn, this.symm⟩
theorem kw_image (h : KW w0 w p s ops κ) (hκ : κ ≤ 1000) (n : Nat) (hn : n < 8) (hc : ∃ c ∈ s.C, c.b = n) :
    Calls Tryz.prog 69 #[.pointer (some ⟨p, 0, none⟩), .int .i64 (n : Int)] w fun r w' => ∃ g s', r = .returned (.tuple #[.slice (some ⟨g, 0, none⟩) 256 256, .int .i64 0]) ∧ KW w0 w' p s' ops (κ + 1) ∧ PRun w0.heap.size s w s' ops w' ∧ (s'.cnt = s.cnt ∧ s'.C = s.C ∧ s'.σ.sf = s.σ.sf) ∧ ∀ j x, (lays (s.σ.sf n) (pickC (ofB s.C n) (alw s.C n)))[j]? = some x → Cl w' s' g j (bv x) := by
  obtain ⟨b, hb, hbn, hba⟩ := h.pl.bkOf hc
  have := pimage_any h.pm h.pl (by omega) n (by rw [h.dn]; exact hn) hb hbn
  rw [h.p] at this
  refine this.mono ?_
  rintro r w' ⟨g, σ', d, pn, rfl, hg, hgl, hR, hL, hd, hC, hA⟩
  refine ⟨g, _, rfl, h.run hR hL h.p.symm hC.dn, hR, ⟨rfl, rfl, hC.sf⟩, fun j x hx => ⟨hg.lt, hA, ?_⟩⟩
  rw [hba] at hg
  obtain ⟨hj, e⟩ := List.getElem?_eq_some_iff.1 hx
  rw [hg.cell j hj, e]
theorem kw_read (h : KW w0 w p s ops κ) (hκ : κ ≤ 1000) (n : Nat) (hn : n < 8) (hc : ∃ c ∈ s.C, c.b = n) :
    Calls Tryz.prog 34 #[.pointer (some ⟨p, 0, none⟩), .int .i64 (n : Int)] w fun r w' => ∃ g cap s', r = .returned (.tuple #[.slice (some ⟨g, 0, none⟩) 256 cap, .int .i64 0]) ∧ KW w0 w' p s' ops (κ + 1) ∧ PRun w0.heap.size s w s' ops w' ∧ (s'.cnt = s.cnt ∧ s'.C = s.C ∧ s'.σ.sf = s.σ.sf) ∧ ∀ j x, (lays (s.σ.sf n) (ofB s.C n))[j]? = some x → Cl w' s' g j (bv x) := by
  obtain rfl : s.p = p := h.p
  obtain ⟨b, hb, hbn, hba⟩ := h.pl.bkOf hc
  have := pread_any h.pm h.pl (by omega) n (by rw [h.dn]; exact hn)
  refine this.mono ?_
  rintro r w' ⟨v, d, pn, σ', rfl, hd, hO, hdl, hR, hL, hC, hS⟩
  obtain ⟨g, cap, t, r, rfl, hgl, hg, _, _⟩ := hO.row hdl
  have hcab := h.pl.cab b hb
  rw [hbn] at hcab
  rw [hcab] at hd
  have hd' : d = lays b.ba (ofB s.C n) := by simpa using congrArg Prod.fst hd
  refine ⟨g, cap, _, rfl, h.run hR hL rfl hC.dn, hR, ⟨rfl, rfl, hC.sf⟩, fun j x hx => ⟨(Array.getElem?_eq_some_iff.1 hg).1, fun hA => ?_, ?_⟩⟩
  · rcases hA with hA | hA
    · have := (h.pm.fk g hA).2.1
      omega
    · exact hS g rfl hA
  · rw [← hba, ← hd'] at hx
    obtain ⟨hj, e⟩ := List.getElem?_eq_some_iff.1 hx
    rw [cell_of_row _ _ _ _ _ _ hg]
    simp [bvs, List.getElem?_append_left, hj, e]
theorem kw_safe (h : KW w0 w p s ops κ) (x : Int) (hx : 1 ≤ x ∧ x ≤ (s.cnt : Int) ∧ x ≤ 1000) :
    Calls Tryz.prog 29 #[.pointer (some ⟨p, 0, none⟩), .int .i64 x] w fun r w' => r = .returned (.bool (!opn s.C x)) ∧ w' = w := by
  have := psafe_any h.pm x (by omega)
  rw [h.p] at this
  refine this.mono ?_
  rintro r w' ⟨rfl, rfl⟩
  refine ⟨?_, rfl⟩
  have h1 := lkC_opn h.pl.asc x
  rw [← h.pl.fc] at h1
  rw [← h1]
  congr 2
  by_cases h2 : s.fC x = 0
  · simp [h2]; omega
  · simp [h2]
theorem kw_write (h : KW w0 w p s ops κ) (hκ : κ ≤ 1000) (n : Nat) (hn : n < 8) (hc : ∃ c ∈ s.C, c.b = n) :
    Calls Tryz.prog 26 #[.pointer (some ⟨p, 0, none⟩), .int .i64 (n : Int)] w fun r w' => r = .returned (.int .i64 0) ∧ ∃ s', KW w0 w' p s' ops (κ + 1) ∧ PRun w0.heap.size s w s' ops w' ∧ s'.cnt = s.cnt ∧ s'.C = s.C.map (setW (alw s.C n)) := by
  have := pw_write h.pm h.pl (by omega) n (by rw [h.dn]; exact hn) hc
  rw [h.p] at this
  refine this.mono ?_
  rintro r w' ⟨rfl, s', hR, hL, hC, hcnt, hp, hdn, _⟩
  exact ⟨rfl, s', h.run hR hL (hp.trans h.p.symm) hdn, hR, hcnt, hC⟩
theorem kw_flush (h : KW w0 w p s ops κ) (hκ : κ ≤ 1000) :
    Calls Tryz.prog 27 #[.pointer (some ⟨p, 0, none⟩)] w fun r w' => r = .returned (.int .i64 0) ∧ ∃ s' ops', KW w0 w' p s' ops' (κ + 1) ∧ PRun w0.heap.size s w s' ops' w' ∧ s'.cnt = s.cnt ∧ s'.C = nwr s.C := by
  have := pflush_any h.pm h.pl (by omega)
  rw [h.p] at this
  refine this.mono ?_
  rintro r w' ⟨rfl, s', ops', hR, hL, hC, hcnt, hp, _, hdn, _⟩
  exact ⟨rfl, s', ops', h.run hR hL (hp.trans h.p.symm) hdn, hR, hcnt, hC⟩
end
end Go.Proofs.YthaogbbclocmaaaGreat
/- known() of leveelaw11. -/
namespace Go.Proofs.YthaogbbclocmaaaGreat
open Go.RowKit
set_option maxRecDepth 100000
set_option maxHeartbeats 8000000 in
theorem pknown_any (w : World) : Calls Tryz.prog 24 #[] w fun e w' => e = .returned (.bool true) ∧ Below w.heap.size w w' := by
  have s1 : ∀ (v : World) (o : Obj), (v.alloc o).heap.size = v.heap.size + 1 := fun v o => by show (v.heap.push o).size = _; simp
  have HS1 : Hid (∀ (v : World) (o : Obj), (v.alloc o).heap.size = v.heap.size + 1) := s1
  clear s1
  have NW := new_any w 8 (by omega) (by omega)
  rw [show ((8 : Nat) : Int) = 8 from rfl] at NW
  go_enter Tryz.func24, Tryz.ntmps24
  go_wp2_with fail
  refine NW.mono ?_
  clear NW
  rintro r w1 ⟨dp, dq, rfl, hD1, hb1⟩
  have PO := popn_any hD1 8 (by omega) (by omega)
  rw [show ((8 : Nat) : Int) = 8 from rfl] at PO
  have HB1 : Hid (Below w.heap.size w w1) := hb1
  clear hD1 hb1
  go_wp2_with fail
  refine PO.mono ?_
  clear PO
  rintro r w2 ⟨p, cm, bm, cp, mb, rfl, hP2, hb2⟩
  obtain ⟨s2, hs2⟩ : ∃ s2, s2 = newS p cm bm ⟨cp, mb, 0, .slice none 0 0, 8, [], dp, 8, dq, false, 0, fun _ => zer, fun _ => [], fun _ => .slice none 0 0⟩ := ⟨_, rfl⟩
  have hL2 : PL s2 (fun _ => []) [] 0 := by rw [hs2]; exact PL.made rfl ⟨by show 8 ≤ 8; omega, by show 8 ≤ 8; omega⟩ ⟨rfl, rfl⟩ rfl rfl
  rw [← hs2] at hP2
  have e2 : s2.p = p ∧ s2.cnt = 0 ∧ s2.C = [] ∧ s2.σ.dn = 8 ∧ s2.σ.sf = (fun _ => zer) := by rw [hs2]; exact ⟨rfl, rfl, rfl, rfl, rfl⟩
  have K2 : Hid (KW w w2 p s2 (fun _ => []) 0) := ⟨hP2, hL2, HB1.out.trans (hb2.mono HB1.out.size), e2.1, e2.2.2.2.1⟩
  have HE2 : Hid (s2.cnt = 0 ∧ s2.C = [] ∧ s2.σ.sf = (fun _ => zer)) := ⟨e2.2.1, e2.2.2.1, e2.2.2.2.2⟩
  clear hs2 hL2 hP2 e2 hb2 HB1
  -- the first change
  have cv := conv_const w2 #[.int .u8 97] 1 1
  have K2' := K2.out.up ((Below.refl _ _).alloc (Nat.le_refl _) (.cells #[bv 97] 5 (1, 2)))
  have PT := pw_patch K2'.pm K2'.pl (by omega) 5 0 (by rw [K2'.dn]; omega) [97] w2.heap.size 0 1 (src_one w2 97) (by simp) (by simp) none 0 [] (.inl rfl) (.inl ⟨rfl, rfl⟩) (fun b o e => by cases e) (fun hA => by have := K2.out.pm.lt hA; omega) (by simp) (fun i hi => by cases hi)
  rw [K2'.p, HE2.out.1] at PT
  change Calls _ _ #[.pointer (some ⟨p, 0, none⟩), .int .i64 5, .int .i64 0, .slice (some ⟨w2.heap.size, 0, none⟩) 1 1, .slice none 0 0] (w2.alloc (.cells #[.int .u8 97] 5 (1, 2))) fun r w' => r = .returned (.tuple #[.int .i64 1, .int .i64 0]) ∧ _ at PT
  have HK2 : Hid (KW w (w2.alloc (.cells #[bv 97] 5 (1, 2))) p s2 (fun _ => []) 0) := K2'
  clear K2 K2'
  go_wp2_with (go_at_call 28; refine Hid.out ?_)
  change Calls _ _ _ _ _
  refine PT.mono ?_
  clear PT cv
  rintro r w3 ⟨rfl, s3, o3, c1, hR3, hL3, hS3⟩
  have K3 : Hid (KW w w3 p s3 o3 1) := HK2.out.run hR3 hL3 hS3.p hS3.dn
  have F1 : Hid (c1.id = 1 ∧ c1.b = 5 ∧ c1.fr = 0 ∧ c1.d = [97] ∧ c1.wr = false ∧ c1.ah = []) := ⟨by rw [hS3.id, HE2.out.1], hS3.b, hS3.fr, hS3.d, hS3.wr, List.eq_nil_iff_forall_not_mem.2 fun i hi => by
    have := hS3.ah i hi
    rw [HE2.out.2.1] at this; cases this⟩
  have HE3 : Hid (s3.cnt = 1 ∧ s3.C = [c1] ∧ s3.σ.sf = (fun _ => zer)) := ⟨by rw [hS3.cnt, HE2.out.1], by rw [hS3.C, HE2.out.2.1]; rfl, by rw [hS3.sf]; exact HE2.out.2.2⟩
  clear hR3 hL3 hS3 HK2 HE2
  -- the second
  have cv := conv_const w3 #[.int .u8 98] 1 1
  have K3' := (K3.out.up ((Below.refl _ _).alloc (Nat.le_refl _) (.cells #[bv 98] 5 (1, 2))))
  have K3'' := K3'.up ((Below.refl _ _).alloc (Nat.le_refl _) (.cells #[.int .i64 1] 2))
  have PT := pw_patch K3''.pm K3''.pl (by omega) 6 0 (by rw [K3''.dn]; omega) [98] w3.heap.size 0 1 ((src_one w3 98).below ((Below.refl _ _).alloc (Nat.le_refl _) (.cells #[.int .i64 1] 2)) (Nat.le_refl _)) (by simp) (by simp) (some ⟨(w3.alloc (.cells #[bv 98] 5 (1, 2))).heap.size, 0, none⟩) 1 [1] (srcI_one _ 1) (.inr ⟨_, _, rfl⟩) (fun b o e => by
    cases e
    exact ⟨fun hA => by have := K3'.pm.lt hA; omega, by have := HS1.out (w3.alloc (.cells #[bv 98] 5 (1, 2))) (.cells #[.int .i64 1] 2); omega⟩) (fun hA => by have := K3.out.pm.lt hA; omega) (by simp) (fun i hi => by
    have hi' : i = 1 := by simpa using hi
    have := HE3.out.1
    omega)
  rw [K3''.p, HE3.out.1, HS1.out] at PT
  change Calls _ _ #[.pointer (some ⟨p, 0, none⟩), .int .i64 6, .int .i64 0, .slice (some ⟨w3.heap.size, 0, none⟩) 1 1, .slice (some ⟨w3.heap.size + 1, 0, none⟩) 1 1] ((w3.alloc (.cells #[.int .u8 98] 5 (1, 2))).alloc (.cells #[.int .i64 1] 2)) fun r w' => r = .returned (.tuple #[.int .i64 2, .int .i64 0]) ∧ _ at PT
  have HK3 : Hid (KW w ((w3.alloc (.cells #[bv 98] 5 (1, 2))).alloc (.cells #[.int .i64 1] 2)) p s3 o3 1) := K3''
  clear K3 K3' K3''
  go_wp2_with (go_at_call 28; refine Hid.out ?_)
  change Calls _ _ _ _ _
  refine PT.mono ?_
  clear PT cv
  rintro r w4 ⟨rfl, s4, o4, c2, hR4, hL4, hS4⟩
  have K4 : Hid (KW w w4 p s4 o4 2) := HK3.out.run hR4 hL4 hS4.p hS4.dn
  have F2 : Hid (c2.id = 2 ∧ c2.b = 6 ∧ c2.wr = false ∧ (1 : Int) ∈ c2.ah ∧ ∀ i ∈ c2.ah, i = 1) := ⟨by rw [hS4.id, HE3.out.1], hS4.b, hS4.wr, hS4.tp 1 (by simp) (by rw [HE3.out.1]; rfl) (by rw [HE3.out.2.1]; simp [opn, F1.out.1]), fun i hi => by
    have := hS4.ah i hi
    rw [HE3.out.2.1] at this
    simp [opn, F1.out.1] at this
    omega⟩
  have HE4 : Hid (s4.cnt = 2 ∧ s4.C = [c1, c2] ∧ s4.σ.sf = (fun _ => zer)) := ⟨by rw [hS4.cnt, HE3.out.1], by rw [hS4.C, HE3.out.2.1]; rfl, by rw [hS4.sf]; exact HE3.out.2.2⟩
  clear hR4 hL4 hS4 HK3 HE3
  -- the third
  have cv := conv_const w4 #[.int .u8 99] 1 1
  have K4' := (K4.out.up ((Below.refl _ _).alloc (Nat.le_refl _) (.cells #[bv 99] 5 (1, 2))))
  have K4'' := K4'.up ((Below.refl _ _).alloc (Nat.le_refl _) (.cells #[.int .i64 2] 2))
  have PT := pw_patch K4''.pm K4''.pl (by omega) 5 1 (by rw [K4''.dn]; omega) [99] w4.heap.size 0 1 ((src_one w4 99).below ((Below.refl _ _).alloc (Nat.le_refl _) (.cells #[.int .i64 2] 2)) (Nat.le_refl _)) (by simp) (by simp) (some ⟨(w4.alloc (.cells #[bv 99] 5 (1, 2))).heap.size, 0, none⟩) 1 [2] (srcI_one _ 2) (.inr ⟨_, _, rfl⟩) (fun b o e => by
    cases e
    exact ⟨fun hA => by have := K4'.pm.lt hA; omega, by have := HS1.out (w4.alloc (.cells #[bv 99] 5 (1, 2))) (.cells #[.int .i64 2] 2); omega⟩) (fun hA => by have := K4.out.pm.lt hA; omega) (by simp) (fun i hi => by
    have hi' : i = 2 := by simpa using hi
    have := HE4.out.1
    omega)
  rw [K4''.p, HE4.out.1, HS1.out] at PT
  change Calls _ _ #[.pointer (some ⟨p, 0, none⟩), .int .i64 5, .int .i64 1, .slice (some ⟨w4.heap.size, 0, none⟩) 1 1, .slice (some ⟨w4.heap.size + 1, 0, none⟩) 1 1] ((w4.alloc (.cells #[.int .u8 99] 5 (1, 2))).alloc (.cells #[.int .i64 2] 2)) fun r w' => r = .returned (.tuple #[.int .i64 3, .int .i64 0]) ∧ _ at PT
  have HK4 : Hid (KW w ((w4.alloc (.cells #[bv 99] 5 (1, 2))).alloc (.cells #[.int .i64 2] 2)) p s4 o4 2) := K4''
  clear K4 K4' K4''
  go_wp2_with (go_at_call 28; refine Hid.out ?_)
  change Calls _ _ _ _ _
  refine PT.mono ?_
  clear PT cv
  rintro r w5 ⟨rfl, s5, o5, c3, hR5, hL5, hS5⟩
  have K5 : Hid (KW w w5 p s5 o5 3) := HK4.out.run hR5 hL5 hS5.p hS5.dn
  have F3 : Hid (C3 c1 c2 c3) := ⟨F1.out.1, F1.out.2.1, F1.out.2.2.1, F1.out.2.2.2.1, F1.out.2.2.2.2.1, F1.out.2.2.2.2.2, F2.out.1, F2.out.2.1, F2.out.2.2.1, F2.out.2.2.2.1, F2.out.2.2.2.2, by rw [hS5.id, HE4.out.1], hS5.b, hS5.fr, hS5.d, hS5.wr, hS5.tp 2 (by simp) (by rw [HE4.out.1]; rfl) (by rw [HE4.out.2.1]; simp [opn, F2.out.1]), fun i hi => by
    have := hS5.ah i hi
    rw [HE4.out.2.1] at this
    simp [opn, F1.out.1, F2.out.1] at this
    omega⟩
  have HE5 : Hid (s5.cnt = 3 ∧ s5.C = [c1, c2, c3] ∧ s5.σ.sf = (fun _ => zer)) := ⟨by rw [hS5.cnt, HE4.out.1], by rw [hS5.C, HE4.out.2.1]; rfl, by rw [hS5.sf]; exact HE4.out.2.2⟩
  clear hR5 hL5 hS5 HK4 HE4 F1 F2
  -- what may be written
  have IM := kw_image K5.out (by omega) 6 (by omega) ⟨c2, by rw [HE5.out.2.1]; simp, F3.out.b2⟩
  rw [HE5.out.2.2, HE5.out.2.1, F3.out.pick6, lays_nil] at IM
  rw [show ((6 : Nat) : Int) = 6 from rfl] at IM
  go_wp2_with (go_at_call 69; refine Hid.out ?_)
  change Calls _ _ _ _ _
  refine IM.mono ?_
  clear IM
  rintro r w6 ⟨gx, s6, rfl, hK6, hR6, hE6, hx6⟩
  have K6 : Hid (KW w w6 p s6 o5 4) := hK6
  have HE6 : Hid (s6.cnt = 3 ∧ s6.C = [c1, c2, c3] ∧ s6.σ.sf = (fun _ => zer)) := ⟨hE6.1.trans HE5.out.1, hE6.2.1, hE6.2.2⟩
  have X6 : Hid (Cl w6 s6 gx 0 (bv 0)) := hx6 0 0 (zer_get 0 (by omega))
  clear hK6 hR6 hE6 hx6 K5 HE5
  have IM := kw_image K6.out (by omega) 5 (by omega) ⟨c1, by rw [HE6.out.2.1]; simp, F3.out.b1⟩
  rw [HE6.out.2.2, HE6.out.2.1, F3.out.pick5] at IM
  rw [show ((5 : Nat) : Int) = 5 from rfl] at IM
  go_wp2_with (go_at_call 69; refine Hid.out ?_)
  change Calls _ _ _ _ _
  refine IM.mono ?_
  clear IM
  rintro r w7 ⟨gy, s7, rfl, hK7, hR7, hE7, hx7⟩
  have K7 : Hid (KW w w7 p s7 o5 5) := hK7
  have HE7 : Hid (s7.cnt = 3 ∧ s7.C = [c1, c2, c3] ∧ s7.σ.sf = (fun _ => zer)) := ⟨hE7.1.trans HE6.out.1, hE7.2.1, hE7.2.2⟩
  have X7 : Hid (Cl w7 s7 gx 0 (bv 0)) := X6.out.run hR7
  have Y7 : Hid (Cl w7 s7 gy 0 (bv 97) ∧ Cl w7 s7 gy 1 (bv 0)) := ⟨hx7 0 97 F3.out.im5.1, hx7 1 0 F3.out.im5.2⟩
  clear hK7 hR7 hE7 hx7 K6 HE6 X6
  have RD := kw_read K7.out (by omega) 5 (by omega) ⟨c1, by rw [HE7.out.2.1]; simp, F3.out.b1⟩
  rw [HE7.out.2.2, HE7.out.2.1, F3.out.of5] at RD
  rw [show ((5 : Nat) : Int) = 5 from rfl] at RD
  go_wp2_with (go_at_call 34; refine Hid.out ?_)
  change Calls _ _ _ _ _
  refine RD.mono ?_
  clear RD
  rintro r w8 ⟨gz, cz, s8, rfl, hK8, hR8, hE8, hx8⟩
  have K8 : Hid (KW w w8 p s8 o5 6) := hK8
  have HE8 : Hid (s8.cnt = 3 ∧ s8.C = [c1, c2, c3]) := ⟨hE8.1.trans HE7.out.1, hE8.2.1⟩
  have X8 : Hid (Cl w8 s8 gx 0 (bv 0) ∧ Cl w8 s8 gy 0 (bv 97) ∧ Cl w8 s8 gy 1 (bv 0) ∧ Cl w8 s8 gz 1 (bv 99)) := ⟨X7.out.run hR8, Y7.out.1.run hR8, Y7.out.2.run hR8, hx8 1 99 F3.out.rd5⟩
  clear hK8 hR8 hE8 hx8 K7 HE7 X7 Y7
  have WR := kw_write K8.out (by omega) 5 (by omega) ⟨c1, by rw [HE8.out.2]; simp, F3.out.b1⟩
  rw [HE8.out.2] at WR
  rw [show ((5 : Nat) : Int) = 5 from rfl] at WR
  go_wp2_with (go_at_call 26; refine Hid.out ?_)
  change Calls _ _ _ _ _
  refine WR.mono ?_
  clear WR
  rintro r w9 ⟨rfl, s9, hK9, hR9, hcnt9, hC9⟩
  have K9 : Hid (KW w w9 p s9 o5 7) := hK9
  have HE9 : Hid (s9.cnt = 3 ∧ nwr s9.C = [c2, c3]) := ⟨hcnt9.trans HE8.out.1, by rw [hC9]; exact F3.out.wr5⟩
  have X9 : Hid (Cl w9 s9 gx 0 (bv 0) ∧ Cl w9 s9 gy 0 (bv 97) ∧ Cl w9 s9 gy 1 (bv 0) ∧ Cl w9 s9 gz 1 (bv 99)) := ⟨X8.out.1.run hR9, X8.out.2.1.run hR9, X8.out.2.2.1.run hR9, X8.out.2.2.2.run hR9⟩
  clear hK9 hR9 hcnt9 hC9 K8 HE8 X8
  have FL := kw_flush K9.out (by omega)
  rw [HE9.out.2] at FL
  go_wp2_with (go_at_call 27; refine Hid.out ?_)
  change Calls _ _ _ _ _
  refine FL.mono ?_
  clear FL
  rintro r w10 ⟨rfl, s10, o10, hK10, hR10, hcnt10, hC10⟩
  have K10 : Hid (KW w w10 p s10 o10 8) := hK10
  have HE10 : Hid (s10.cnt = 3 ∧ s10.C = [c2, c3]) := ⟨hcnt10.trans HE9.out.1, hC10⟩
  have X10 : Hid (Cl w10 s10 gx 0 (bv 0) ∧ Cl w10 s10 gy 0 (bv 97) ∧ Cl w10 s10 gy 1 (bv 0) ∧ Cl w10 s10 gz 1 (bv 99)) := ⟨X9.out.1.run hR10, X9.out.2.1.run hR10, X9.out.2.2.1.run hR10, X9.out.2.2.2.run hR10⟩
  clear hK10 hR10 hcnt10 hC10 K9 HE9 X9
  have S1 := kw_safe K10.out 1 (by have := HE10.out.1; omega)
  have S2 := kw_safe K10.out 2 (by have := HE10.out.1; omega)
  have S3 := kw_safe K10.out 3 (by have := HE10.out.1; omega)
  rw [HE10.out.2, show (!opn [c2, c3] 1) = true by simp [opn, F3.out.i2, F3.out.i3]] at S1
  rw [HE10.out.2, show (!opn [c2, c3] 2) = false by simp [opn, F3.out.i2]] at S2
  rw [HE10.out.2, show (!opn [c2, c3] 3) = false by simp [opn, F3.out.i3]] at S3
  go_wp2_with (first | (go_at_call 29; refine Hid.out ?_))
  change Calls _ _ _ _ _
  refine S1.mono ?_
  rintro r w11 ⟨rfl, hw11⟩
  obtain rfl : w10 = w11 := hw11.symm
  go_wp2_with (first | (go_at_call 29; refine Hid.out ?_))
  change Calls _ _ _ _ _
  refine S2.mono ?_
  rintro r w11 ⟨rfl, hw11⟩
  obtain rfl : w10 = w11 := hw11.symm
  go_wp2_with (first | (go_at_call 29; refine Hid.out ?_))
  change Calls _ _ _ _ _
  refine S3.mono ?_
  rintro r w11 ⟨rfl, hw11⟩
  obtain rfl : w10 = w11 := hw11.symm
  clear S1 S2 S3
  have WR := kw_write K10.out (by omega) 6 (by omega) ⟨c2, by rw [HE10.out.2]; simp, F3.out.b2⟩
  rw [HE10.out.2] at WR
  rw [show ((6 : Nat) : Int) = 6 from rfl] at WR
  go_wp2_with (go_at_call 26; refine Hid.out ?_)
  change Calls _ _ _ _ _
  refine WR.mono ?_
  clear WR
  rintro r w12 ⟨rfl, s12, hK12, hR12, hcnt12, hC12⟩
  have K12 : Hid (KW w w12 p s12 o10 9) := hK12
  have HE12 : Hid (s12.cnt = 3 ∧ nwr s12.C = [c3]) := ⟨hcnt12.trans HE10.out.1, by rw [hC12]; exact F3.out.wr6⟩
  have X12 : Hid (Cl w12 s12 gx 0 (bv 0) ∧ Cl w12 s12 gy 0 (bv 97) ∧ Cl w12 s12 gy 1 (bv 0) ∧ Cl w12 s12 gz 1 (bv 99)) := ⟨X10.out.1.run hR12, X10.out.2.1.run hR12, X10.out.2.2.1.run hR12, X10.out.2.2.2.run hR12⟩
  clear hK12 hR12 hcnt12 hC12 K10 HE10 X10
  have FL := kw_flush K12.out (by omega)
  rw [HE12.out.2] at FL
  go_wp2_with (go_at_call 27; refine Hid.out ?_)
  change Calls _ _ _ _ _
  refine FL.mono ?_
  clear FL
  rintro r w13 ⟨rfl, s13, o13, hK13, hR13, hcnt13, hC13⟩
  have K13 : Hid (KW w w13 p s13 o13 10) := hK13
  have HE13 : Hid (s13.cnt = 3 ∧ s13.C = [c3]) := ⟨hcnt13.trans HE12.out.1, hC13⟩
  have x1 : w13.cell? ⟨gx, 0, none⟩ = some (.int .u8 0) := (X12.out.1.run hR13).at'
  have x2 : w13.cell? ⟨gy, 0, none⟩ = some (.int .u8 97) := (X12.out.2.1.run hR13).at'
  have x3 : w13.cell? ⟨gy, 1, none⟩ = some (.int .u8 0) := (X12.out.2.2.1.run hR13).at'
  have x4 : w13.cell? ⟨gz, 1, none⟩ = some (.int .u8 99) := (X12.out.2.2.2.run hR13).at'
  clear hK13 hR13 hcnt13 hC13 K12 HE12 X12
  have S2 := kw_safe K13.out 2 (by have := HE13.out.1; omega)
  rw [HE13.out.2, show (!opn [c3] 2) = true by simp [opn, F3.out.i3]] at S2
  go_wp2_with (first | (go_at_call 29; refine Hid.out ?_))
  change Calls _ _ _ _ _
  refine S2.mono ?_
  rintro r w14 ⟨rfl, hw14⟩
  obtain rfl : w13 = w14 := hw14.symm
  clear S2 x1 x2 x3 x4
  obtain ⟨b, hb, hbn, _⟩ := K13.out.pl.bkOf (n := 5) ⟨c3, by rw [HE13.out.2]; simp, F3.out.b3⟩
  have RY := pready_any K13.out.pm K13.out.pl (by omega) 5 (by rw [K13.out.dn]; omega) hb hbn
  rw [K13.out.p, HE13.out.2, F3.out.ready, show ((5 : Nat) : Int) = 5 from rfl, show (([c3] : List Ch).length : Int) = 1 from rfl] at RY
  clear hb hbn
  go_wp2_with (first | (go_at_call 72; refine Hid.out ?_))
  change Calls _ _ _ _ _
  refine RY.mono ?_
  clear RY
  rintro r w15 ⟨rfl, hb15⟩
  have K15 : Hid (KW w w15 p s13 o13 10) := K13.out.up hb15
  have OP := popen_any K15.out.pm
  rw [K15.out.p, K15.out.pl.kc, HE13.out.2, show ((cids [c3]).length : Int) = 1 from rfl] at OP
  clear K13 hb15
  go_wp2_with (first | (go_at_call 32; refine Hid.out ?_))
  change Calls _ _ _ _ _
  refine OP.mono ?_
  clear OP
  rintro r w16 ⟨rfl, hw16⟩
  obtain rfl : w15 = w16 := hw16.symm
  go_wp2
  go_ret
  exact ⟨rfl, K15.out.be⟩
end Go.Proofs.YthaogbbclocmaaaGreat
/- The walk of leveelaw11.PatchOrder: two rows of numbers that grow; a mark more. -/
namespace Go.Proofs.YthaogbbclocmaaaGreat
open Go.RowKit
set_option maxRecDepth 100000
theorem getD_mem {l : List Int} {j : Nat} (h : j < l.length) : l.getD j 0 ∈ l := by
  rw [List.getD_eq_getElem?_getD, List.getElem?_eq_getElem h]
  exact List.getElem_mem h
theorem size_alloc (W : World) (o : Obj) : (W.alloc o).heap.size = W.heap.size + 1 := by show (W.heap.push o).size = _; simp
theorem own_at {w : World} {base e size m c n : Nat} {i : Option Addr} {xs : List Value} (h : w.ownsRow base e size (.slice i m c) n xs) : m = n ∧ ((i = none ∧ n = 0) ∨ ∃ g, i = some ⟨g, 0, none⟩ ∧ base ≤ g ∧ g < w.heap.size) := by
  obtain ⟨h1, h2⟩ := h
  rcases h2 with ⟨hv, h3⟩ | ⟨g, cap, cur, hv, hg, hh, r⟩
  · cases hv; exact ⟨h3.symm, .inl ⟨rfl, h3⟩⟩
  · cases hv; exact ⟨rfl, .inr ⟨g, rfl, hg, (Array.getElem?_eq_some_iff.1 hh).1⟩⟩
end Go.Proofs.YthaogbbclocmaaaGreat
/- leveelaw11.after: numbers of changes ahead, made of any. -/
namespace Go.Proofs.YthaogbbclocmaaaGreat
open Go.RowKit
set_option maxRecDepth 100000
theorem ownsRow_mono {w : World} {base b' e size n : Nat} {v : Value} {xs : List Value} (h : w.ownsRow base e size v n xs) (hb : b' ≤ base) : w.ownsRow b' e size v n xs := by
  obtain ⟨h1, h2⟩ := h
  refine ⟨h1, ?_⟩
  rcases h2 with h2 | ⟨g, cap, cur, hv, hg, rest⟩
  · exact .inl h2
  · exact .inr ⟨g, cap, cur, hv, by omega, rest⟩
/-- The number that is made of x. -/
theorem after_num (x last : Int) (h : 1 ≤ last) : -last < x.tmod last ∧ x.tmod last < last := by
  exact ⟨by have := Int.lt_tmod_of_pos x (show (0:Int) < last by omega); omega, Int.tmod_lt_of_pos x (by omega)⟩
section
variable (q : Act6) (w : World)
set_option maxHeartbeats 2000000 in
theorem after_raw (last : Int) (h : last < 1) :
    Calls Tryz.prog 14 #[.agg #[.int .i64 q.K, .int .i64 q.N, .int .i64 q.F, .slice q.dp q.D.length q.dc, .slice q.ap q.A.length q.ac, .bool false], .int .i64 last] w fun e w' => e = .returned (.slice q.ap q.A.length q.ac) ∧ Below w.heap.size w w' := by
  go_enter Tryz.func14, Tryz.ntmps14
  go_wp2
  go_ret
  exact ⟨rfl, (Below.refl _ _).alloc (Nat.le_refl _) _⟩
set_option maxHeartbeats 4000000 in
theorem after_any (hok : q.Ok w) (last : Int) (h : 1 ≤ last) (h2 : last ≤ 1000000) :
    Calls Tryz.prog 14 #[.agg #[.int .i64 q.K, .int .i64 q.N, .int .i64 q.F, .slice q.dp q.D.length q.dc, .slice q.ap q.A.length q.ac, .bool false], .int .i64 last] w fun e w' => ∃ v L, e = .returned v ∧ OwnL w' w.heap.size v L ∧ L.length ≤ 4 ∧ (1 ≤ q.A.length → 1 ≤ L.length) ∧ (∀ x ∈ L, 1 ≤ x ∧ x ≤ last) ∧ Below w.heap.size w w' := by
  have HOK : Hid (q.Ok w) := hok
  have hqal : (q.A.length : Int) ≤ 9223372036854775807 := hok.al
  clear hok
  go_enter Tryz.func14, Tryz.ntmps14
  go_wp2
  obtain ⟨W0, hW0⟩ : ∃ W0, W0 = w.alloc (.cells #[.int .i64 q.K, .int .i64 q.N, .int .i64 q.F, .slice q.dp q.D.length q.dc, .slice q.ap q.A.length q.ac, .bool false] 39) := ⟨_, rfl⟩
  have HB0 : Hid (Below w.heap.size w W0) := by rw [hW0]; exact (Below.refl _ _).alloc (Nat.le_refl _) _
  have HZ0 : Hid (w.heap.size < W0.heap.size) := by show _ < _; rw [hW0, size_alloc]; omega
  have hb4 : W0.cell? ⟨w.heap.size, 4, none⟩ = some (.slice q.ap q.A.length q.ac) := by rw [hW0]; exact (cell_of_row _ _ _ _ _ _ (heap_alloc_new _ _)).trans rfl
  rw [← hW0]
  clear hW0
  go_loopg [5, 6, 7] 4 (fun gg t5 t6 _ W => ∃ (g3 : World) (j : Nat) (L : List Int) (i1 : Option Addr) (c1 : Nat), g3 = W ∧ j ≤ 4 ∧ 4 - j ≤ gg ∧ t6 = .int .i64 j ∧ t5 = .slice i1 j c1 ∧ Hid (L.length = j ∧ j ≤ q.A.length ∧ (∀ x ∈ L, 1 ≤ x ∧ x ≤ last) ∧ Below W0.heap.size W0 g3 ∧ OwnL g3 W0.heap.size (.slice i1 j c1) L))
  case atStart => exact ⟨_, 0, [], none, 0, rfl, by omega, by omega, rfl, rfl, rfl, by omega, (fun x hx => by cases hx), Below.refl _ _, OwnL.nil _ _⟩
  case round =>
    obtain ⟨g3, j, L, i1, c1, rfl, hj, hgj, rfl, rfl, HG⟩ := hrel
    have b4' : g3.cell? ⟨w.heap.size, 4, none⟩ = some (.slice q.ap q.A.length q.ac) := (HG.out.2.2.2.1.cell (p := ⟨w.heap.size, 4, none⟩) HZ0.out).trans hb4
    by_cases hin : j < q.A.length ∧ j < 4
    · have in1 : (j : Int) < (q.A.length : Int) := by omega
      have in2 : (j : Int) < 4 := by omega
      obtain ⟨qb, qo, hqp, hx, hxb⟩ : ∃ qb qo, q.ap = some ⟨qb, qo, none⟩ ∧ g3.cell? ⟨qb, qo + j, none⟩ = some (.int .i64 (q.A.getD j 0)) ∧ (-9223372036854775808 ≤ q.A.getD j 0 ∧ q.A.getD j 0 ≤ 9223372036854775807) := by
        rcases HOK.out.a with e | ⟨qb, qo, e, hl, hc⟩
        · rw [e] at hin; simp at hin
        · refine ⟨qb, qo, e, ?_, ?_⟩
          · exact ((HG.out.2.2.2.1.mono HB0.out.size).cell (p := ⟨qb, qo + j, none⟩) hl).trans ((HB0.out.cell (p := ⟨qb, qo + j, none⟩) hl).trans (hc j hin.1))
          · exact HOK.out.ab _ (getD_mem hin.1)
      rw [hqp] at b4'
      generalize q.A.getD j 0 = x at *
      obtain ⟨hx1, hx2⟩ := after_num x last h
      have hl0 : ¬ last = 0 := by omega
      clear hqp hin
      go_upto_if 35 with fail
      go_cut [7] (fun t wc => ∃ y : Int, t = .int .i64 y ∧ 0 ≤ y ∧ y < last ∧ wc = g3)
      case first =>
        by_cases hneg : x.tmod last < 0
        · go_wp2_with fail
          go_meet
          exact ⟨-(x.tmod last), rfl, by omega, by omega, rfl⟩
        · go_wp2_with fail
          go_meet
          exact ⟨x.tmod last, rfl, by omega, by omega, rfl⟩
      case rest =>
        obtain ⟨y, rfl, hy1, hy2, hwc⟩ := hcut
        obtain rfl := hwc
        clear hx hxb hx1 hx2
        go_wp2_with (first | (at_builtin; refine Hid.out ?_))
        change wpList _ _ _ _ _ _
        refine wpList_append_l rfl (.tmp 38) (.tmp 42) rfl W0.heap.size L (last - y) _ rfl _ _ rfl (row_same HG.out.2.2.2.2 (fun l hl => Below.heap_alloc _ _ _ (HG.out.2.2.2.2.lt l hl).2)) (heap_alloc_new _ _) (by have := HG.out.2.2.2.1.size; rw [size_alloc]; omega) (by have := HG.out.1; omega) ?_
        intro G1 k1 w6 ho6 hg6 hat6
        have HB6 : Hid (Below W0.heap.size W0 w6) := (HG.out.2.2.2.1.alloc HG.out.2.2.2.1.size _).trans ((Below.refl _ _).grown hg6 (Nat.le_trans HG.out.2.2.2.1.size (by rw [size_alloc]; omega)) (fun k hk => (HG.out.2.2.2.2.lt k hk).1))
        have HO6 : Hid (OwnL w6 W0.heap.size (.slice (some ⟨G1, 0, none⟩) (L.length + 1) k1) (L ++ [last - y])) := ho6
        clear ho6 hg6 hat6
        go_wp2_with fail
        go_roundg (4 - (j + 1))
        case measure => omega
        case rel =>
          have hBl := HG.out.1
          refine ⟨_, j + 1, L ++ [last - y], some ⟨G1, 0, none⟩, k1, rfl, by omega, by omega, by go_num, by simp [hBl], by simp [hBl], by omega, ?_, HB6.out, ?_⟩
          · intro z hz
            rcases List.mem_append.1 hz with hz | hz
            · exact HG.out.2.2.1 z hz
            · rw [List.mem_singleton.1 hz]; omega
          · have := HO6.out
            rw [hBl] at this
            exact this
    · go_upto_region 5 with fail
      go_cut [24] (fun t wc => t = .bool false ∧ wc = g3)
      case first =>
        by_cases in1 : (j : Int) < (q.A.length : Int)
        · have in2 : ¬ (j : Int) < 4 := by omega
          go_wp2_with fail
          go_meet
          exact ⟨rfl, rfl⟩
        · go_wp2_with fail
          go_meet
          exact ⟨rfl, rfl⟩
      case rest =>
        obtain ⟨rfl, hwc⟩ := hcut
        obtain rfl := hwc
        clear b4'
        go_wp2_with fail
        go_ret
        obtain ⟨h1, h2, h3, h4, h5⟩ := HG.out
        subst h1
        refine ⟨_, L, rfl, ?_, by omega, by omega, h3, HB0.out.trans (h4.mono HB0.out.size)⟩
        exact ownsRow_mono h5 HB0.out.size
end
end Go.Proofs.YthaogbbclocmaaaGreat
