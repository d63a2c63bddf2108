/- Slices of calls that came in: leveelaw11.Act. -/
import Derived.Test.YtanelcdeekichaaGreatKOpens
import Derived.Test.YtanelcdeekichaaGreatKRay
import Derived.Deep.Slices
import Derived.Deep.Strs
namespace Go.Proofs.YtanelcdeekichaaGreat
open Go.ChangeShapes Go.WideShapes Go.ChangeAt Go.RowKit
set_option maxRecDepth 100000
/-- A call: kind, block, place, bytes, numbers, and whether these are taken as they are. -/
structure Act6 where
  K : Int
  N : Int
  F : Int
  dp : Option Addr
  D : List UInt8
  dc : Nat
  ap : Option Addr
  A : List Int
  ac : Nat
  R : Bool
/-- Where it lies. -/
def Act6.at' (q : Act6) (W : World) (a : Addr) : Prop :=
  W.cell? (a.add 0) = some (.int .i64 q.K) ∧ W.cell? (a.add 1) = some (.int .i64 q.N) ∧ W.cell? (a.add 2) = some (.int .i64 q.F) ∧ W.cell? (a.add 3) = some (.slice q.dp q.D.length q.dc) ∧ W.cell? (a.add 4) = some (.slice q.ap q.A.length q.ac) ∧ W.cell? (a.add 5) = some (.bool q.R)
/-- What is known of it. -/
structure Act6.Ok (q : Act6) (W : World) : Prop where
  k : -9223372036854775808 ≤ q.K ∧ q.K ≤ 9223372036854775807
  n : -9223372036854775808 ≤ q.N ∧ q.N ≤ 9223372036854775807
  f : -9223372036854775808 ≤ q.F ∧ q.F ≤ 9223372036854775807
  d : Src W q.dp q.D
  dl : (q.D.length : Int) ≤ 9223372036854775807
  a : SrcI W q.ap q.A
  al : (q.A.length : Int) ≤ 9223372036854775807
  ab : ∀ i ∈ q.A, -9223372036854775808 ≤ i ∧ i ≤ 9223372036854775807
theorem six_of {α : Type} {l : List α} (h : l.length = 6) : ∃ a b c d e f, l = [a, b, c, d, e, f] := by
  match l, h with
  | [a, b, c, d, e, f], _ => exact ⟨a, b, c, d, e, f, rfl⟩
theorem act_fields : ∃ f0 f1 f2 f3 f4 f5 : Field, Tryz.prog.underlying 39 = some (.struct #[f0, f1, f2, f3, f4, f5]) ∧ (f0.type = 3 ∧ f0.offset = 0) ∧ (f1.type = 3 ∧ f1.offset = 1) ∧ (f2.type = 3 ∧ f2.offset = 2) ∧ (f3.type = 36 ∧ f3.offset = 3) ∧ (f4.type = 37 ∧ f4.offset = 4) ∧ (f5.type = 4 ∧ f5.offset = 5) := by
  have h : (match Tryz.prog.underlying 39 with | some (.struct fs) => some (fs.toList.map fun f => (f.type, f.offset)) | _ => none) = some [(3, 0), (3, 1), (3, 2), (36, 3), (37, 4), (4, 5)] := by kernel_rfl
  cases hu : Tryz.prog.underlying 39 with
  | none => rw [hu] at h; cases h
  | some d =>
    rw [hu] at h
    cases d with
    | struct fs =>
      have h' : (fs.toList.map fun f => (f.type, f.offset)) = [(3, 0), (3, 1), (3, 2), (36, 3), (37, 4), (4, 5)] := Option.some.inj h
      obtain ⟨f0, f1, f2, f3, f4, f5, hf⟩ := six_of (l := fs.toList) (by have := congrArg List.length h'; simpa using this)
      rw [hf] at h'
      simp only [List.map_cons, List.map_nil, List.cons.injEq, Prod.mk.injEq, and_true] at h'
      refine ⟨f0, f1, f2, f3, f4, f5, ?_, h'.1, h'.2.1, h'.2.2.1, h'.2.2.2.1, h'.2.2.2.2.1, h'.2.2.2.2.2⟩
      have : fs = #[f0, f1, f2, f3, f4, f5] := by cases fs; simp_all
      rw [this]
    | _ => cases h
theorem trod_struct6 {H : Type} {enc : TypeId × Value → H} {W : World} {t : TypeId} {f0 f1 f2 f3 f4 f5 : Field} {fuel : Nat} {cs : List Value} {x : DataW H × List MemPlace} (ht : Tryz.prog.underlying t = some (.struct #[f0, f1, f2, f3, f4, f5])) (h : DataW.trod enc Tryz.prog W 0 (fun _ => true) true fuel t cs = some x) :
    ∃ y0 y1 y2 y3 y4 y5 n, cs.length = Tryz.prog.cellsOf t ∧ DataW.trod enc Tryz.prog W 0 (fun _ => true) true n f0.type ((cs.drop f0.offset).take (Tryz.prog.cellsOf f0.type)) = some y0 ∧
      DataW.trod enc Tryz.prog W 0 (fun _ => true) true n f1.type ((cs.drop f1.offset).take (Tryz.prog.cellsOf f1.type)) = some y1 ∧ DataW.trod enc Tryz.prog W 0 (fun _ => true) true n f2.type ((cs.drop f2.offset).take (Tryz.prog.cellsOf f2.type)) = some y2 ∧
      DataW.trod enc Tryz.prog W 0 (fun _ => true) true n f3.type ((cs.drop f3.offset).take (Tryz.prog.cellsOf f3.type)) = some y3 ∧ DataW.trod enc Tryz.prog W 0 (fun _ => true) true n f4.type ((cs.drop f4.offset).take (Tryz.prog.cellsOf f4.type)) = some y4 ∧
      DataW.trod enc Tryz.prog W 0 (fun _ => true) true n f5.type ((cs.drop f5.offset).take (Tryz.prog.cellsOf f5.type)) = some y5 := by
  obtain ⟨xs, n, _, rfl, hl, hlen, hf⟩ := DataW.trod_struct ht h
  match xs, hlen with
  | [y0, y1, y2, y3, y4, y5], _ => exact ⟨y0, y1, y2, y3, y4, y5, n, hl, by simpa using hf 0 f0 rfl, by simpa using hf 1 f1 rfl, by simpa using hf 2 f2 rfl, by simpa using hf 3 f3 rfl, by simpa using hf 4 f4 rfl, by simpa using hf 5 f5 rfl⟩
/-- A slice of bytes inside another value. -/
theorem open_data {H : Type} {enc : TypeId × Value → H} {W : World} {fuel : Nat} {v : Value} {x : DataW H × List MemPlace}
    (h : DataW.trod enc Tryz.prog W 0 (fun _ => true) true fuel 36 [v] = some x) : ∃ sp cap, ∃ l : List UInt8, v = .slice sp l.length cap ∧ Src W sp l ∧ (l.length : Int) ≤ 9223372036854775807 := by
  rcases open_ints Tryz.underlying36 Tryz.underlying5 (by kernel_rfl) h with ⟨hcs, _⟩ | ⟨x, l, c, zs, hcs, _, hl, hm, hz, hx, hcell, hwz⟩
  · simp at hcs
    subst hcs
    exact ⟨none, 0, [], rfl, .inl rfl, by simp⟩
  · simp at hcs
    subst hcs
    simp only [if_true] at hz
    have hlen : ((zs.take l).map fun z => UInt8.ofNat z.toNat).length = l := by simp; omega
    refine ⟨some x, c, (zs.take l).map fun z => UInt8.ofNat z.toNat, by rw [hlen], ?_, by rw [hlen]; unfold maxLen at hm; omega⟩
    by_cases hc : l = 0
    · exact .inl (List.eq_nil_of_length_eq_zero (by rw [hlen]; omega))
    · obtain ⟨b, off, rfl, hc2⟩ := ints_at hcell (by omega)
      refine .inr ⟨b, off, rfl, block_lt_of_cell (hc2 0 (by omega)), fun j hj => ?_⟩
      rw [hlen] at hj
      rw [hc2 j (by omega)]
      have hjz : j < zs.length := by omega
      simp only [bv, List.getElem_map, List.getElem_take]
      rw [byteLit (hwz _ (List.getElem_mem hjz))]
      simp [hjz]
/-- A slice of numbers inside another value. -/
theorem open_longs {H : Type} {enc : TypeId × Value → H} {W : World} {fuel : Nat} {v : Value} {x : DataW H × List MemPlace}
    (h : DataW.trod enc Tryz.prog W 0 (fun _ => true) true fuel 37 [v] = some x) : ∃ sp cap, ∃ l : List Int, v = .slice sp l.length cap ∧ SrcI W sp l ∧ (l.length : Int) ≤ 9223372036854775807 ∧ ∀ i ∈ l, -9223372036854775808 ≤ i ∧ i ≤ 9223372036854775807 := by
  rcases open_ints Tryz.underlying37 Tryz.underlying2 (by kernel_rfl) h with ⟨hcs, _⟩ | ⟨x, l, c, zs, hcs, _, hl, hm, hz, hx, hcell, hwz⟩
  · simp at hcs
    subst hcs
    exact ⟨none, 0, [], rfl, .inl rfl, by simp, fun i hi => by cases hi⟩
  · simp at hcs
    subst hcs
    simp only [if_true] at hz
    have hlen : (zs.take l).length = l := by simp; omega
    refine ⟨some x, c, zs.take l, by rw [hlen], ?_, by rw [hlen]; unfold maxLen at hm; omega, fun i hi => ?_⟩
    · by_cases hc : l = 0
      · exact .inl (List.eq_nil_of_length_eq_zero (by rw [hlen]; omega))
      · obtain ⟨b, off, rfl, hc2⟩ := ints_at hcell (by omega)
        refine .inr ⟨b, off, rfl, block_lt_of_cell (hc2 0 (by omega)), fun j hj => ?_⟩
        rw [hlen] at hj
        rw [hc2 j (by omega)]
        have hjz : j < zs.length := by omega
        simp [hjz, hj]
    · have := bounds_i64 (hwz i (List.mem_of_mem_take hi))
      omega
/-- A slice of m calls. -/
def ActsAt (w : World) (sp : Option Addr) (m : Nat) (A : Nat → Act6) : Prop :=
  0 < m → ∃ b off, sp = some ⟨b, off, none⟩ ∧ b < w.heap.size ∧ ∀ k, k < m → (A k).at' w ⟨b, off + k * 6, none⟩ ∧ (A k).Ok w
theorem open_acts {H : Type} {enc : TypeId × Value → H} {W : World} {base : Nat} {v : Value} {d : DataW H} {p : List MemPlace}
    (hv : Value.okWide Tryz.prog W .any base 22 v) (h : DataW.Trod enc Tryz.prog W 0 (fun _ => true) true 22 v d p) :
    ∃ sp m cap, ∃ A : Nat → Act6, v = .slice sp m cap ∧ (m ≤ cap ∧ (cap : Int) ≤ 9223372036854775807 ∧ ActsAt W sp m A) := by
  obtain ⟨a0, len0, cap0, rfl⟩ := okWide_slice Tryz.underlying22 hv
  obtain ⟨fuel, hf⟩ := h
  have hce : Tryz.prog.cellsOf 39 = 6 := by kernel_rfl
  have hc3 : Tryz.prog.cellsOf 3 = 1 := by kernel_rfl
  have hcb : Tryz.prog.cellsOf 36 = 1 := by kernel_rfl
  have hcl : Tryz.prog.cellsOf 37 = 1 := by kernel_rfl
  have hco : Tryz.prog.cellsOf 4 = 1 := by kernel_rfl
  obtain ⟨f0, f1, f2, f3, f4, f5, hu, ⟨t0, o0⟩, ⟨t1, o1⟩, ⟨t2, o2⟩, ⟨t3, o3⟩, ⟨t4, o4⟩, ⟨t5, o5⟩⟩ := act_fields
  rcases Deep.open_slice Tryz.underlying22 hf with ⟨hcs, _⟩ | ⟨x, len, cap, m, n, D, Pl, hcs, _, hl, hm, hmm, hx, hel⟩
  · simp [Value.cells] at hcs
    obtain ⟨rfl, rfl, rfl⟩ := hcs
    exact ⟨none, 0, 0, fun _ => ⟨0, 0, 0, none, [], 0, none, [], 0, false⟩, rfl, Nat.le_refl _, by omega, fun h => by omega⟩
  · simp [Value.cells] at hcs
    obtain ⟨rfl, rfl, rfl⟩ := hcs
    simp only [if_true] at hmm
    subst hmm
    have each : ∀ i, i < len0 → ∃ q : Act6, q.at' W (x.add (i * 6)) ∧ q.Ok W := by
      intro i hi
      obtain ⟨cs', h1, h2⟩ := hel i (by omega)
      rw [hce] at h1
      obtain ⟨_, hlen, hcell⟩ := World.cells?_some h1
      obtain ⟨y0, y1, y2, y3, y4, y5, k, _, g0, g1, g2, g3, g4, g5⟩ := trod_struct6 hu h2
      obtain ⟨v0, v1, v2, v3, v4, v5, rfl⟩ := six_of hlen
      rw [t0, o0, hc3] at g0
      rw [t1, o1, hc3] at g1
      rw [t2, o2, hc3] at g2
      rw [t3, o3, hcb] at g3
      rw [t4, o4, hcl] at g4
      rw [t5, o5, hco] at g5
      obtain ⟨n0, e0, _, w0⟩ := DataW.trod_int Tryz.underlying3 g0
      obtain ⟨n1, e1, _, w1⟩ := DataW.trod_int Tryz.underlying3 g1
      obtain ⟨n2, e2, _, w2⟩ := DataW.trod_int Tryz.underlying3 g2
      obtain ⟨sd, cd, ld, e3, hsd, hld⟩ := open_data (v := v3) (by simpa using g3)
      obtain ⟨sa, ca, la, e4, hsa, hla, hba⟩ := open_longs (v := v4) (by simpa using g4)
      obtain ⟨bo, e5, _⟩ := DataW.trod_bool Tryz.underlying4 g5
      simp at e0 e1 e2 e5
      subst e0 e1 e2 e3 e4 e5
      have bd0 := bounds_i64 w0
      have bd1 := bounds_i64 w1
      have bd2 := bounds_i64 w2
      exact ⟨⟨n0, n1, n2, sd, ld, cd, sa, la, ca, bo⟩, ⟨by simpa using hcell 0 (by omega), by simpa using hcell 1 (by omega), by simpa using hcell 2 (by omega), by simpa using hcell 3 (by omega), by simpa using hcell 4 (by omega), by simpa using hcell 5 (by omega)⟩, ⟨bd0.1, (show n0 ≤ 9223372036854775807 by omega)⟩, ⟨bd1.1, (show n1 ≤ 9223372036854775807 by omega)⟩, ⟨bd2.1, (show n2 ≤ 9223372036854775807 by omega)⟩, hsd, hld, hsa, hla, hba⟩
    have hinh : Inhabited Act6 := ⟨⟨0, 0, 0, none, [], 0, none, [], 0, false⟩⟩
    obtain ⟨q, hq⟩ := Deep.choose_lt (α := Act6) each
    refine ⟨some x, len0, m, q, rfl, hl, by unfold maxLen at hm; omega, fun h0 => ?_⟩
    have hsp : x.spot = none := by
      have h1 := (hq 0 h0).1.1
      simpa [Addr.add] using World.cell?_spot h1
    obtain ⟨b, off, rfl⟩ : ∃ b off, x = ⟨b, off, none⟩ := ⟨x.block, x.off, by cases x; simp_all⟩
    refine ⟨b, off, rfl, ?_, fun k hk => ?_⟩
    · have h1 := (hq 0 h0).1.1
      rw [addr_add, addr_add] at h1
      exact block_lt_of_cell h1
    · have := hq k hk
      rw [addr_add] at this; exact this
end Go.Proofs.YtanelcdeekichaaGreat
