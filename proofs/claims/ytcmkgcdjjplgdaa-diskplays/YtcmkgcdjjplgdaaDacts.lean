/- Slices of calls that came in: leveelaw02.Act. -/
import Derived.Test.YtcmkgcdjjplgdaaOpens
import Derived.Deep.Slices
import Derived.Deep.Strs
import Derived.Lib.SmallJoins
import Derived.SizedLaws
namespace Go.Proofs.Ytcmkgcdjjplgdaa
open Go.ChangeShapes Go.WideShapes Go.ChangeAt Go.RowKit
set_option maxRecDepth 100000
/-- A list of calls: kind, number, bytes, numbers. -/
structure Acts where
  K : Nat → Int
  N : Nat → Int
  P : Nat → Option Addr
  D : Nat → List UInt8
  C : Nat → Nat
  Q : Nat → Option Addr
  M : Nat → Nat
  R : Nat → Nat
  Z : Nat → Nat → Int
/-- One call. -/
structure ActOk (w : World) (a0 : Int) (a1 : Int) (sp : Option Addr) (l : List UInt8) (c : Nat) (sq : Option Addr) (m r : Nat) (z : Nat → Int) : Prop where
  b1 : -9223372036854775808 ≤ a1 ∧ a1 ≤ 9223372036854775807
  b0 : -9223372036854775808 ≤ a0 ∧ a0 ≤ 9223372036854775807
  arg : Arg w sp c l
  mr : m ≤ r ∧ (r : Int) ≤ 9223372036854775807
  pick : 0 < m → ∃ g o, sq = some ⟨g, o, none⟩ ∧ g < w.heap.size ∧ ∀ k, k < m → w.cell? ⟨g, o + k, none⟩ = some (.int .i64 (z k))
/-- A slice of m calls. -/
def ActsAt (w : World) (sp : Option Addr) (m : Nat) (A : Acts) : Prop :=
  0 < m → ∃ b off, sp = some ⟨b, off, none⟩ ∧ b < w.heap.size ∧ ∀ k, k < m → w.cell? ⟨b, off + k * 4, none⟩ = some (.int .i64 (A.K k)) ∧ w.cell? ⟨b, off + k * 4 + 1, none⟩ = some (.int .i64 (A.N k)) ∧ w.cell? ⟨b, off + k * 4 + 2, none⟩ = some (.slice (A.P k) (A.D k).length (A.C k)) ∧ w.cell? ⟨b, off + k * 4 + 3, none⟩ = some (.slice (A.Q k) (A.M k) (A.R k)) ∧ ActOk w (A.K k) (A.N k) (A.P k) (A.D k) (A.C k) (A.Q k) (A.M k) (A.R k) (A.Z k)
theorem four_of {α : Type} {l : List α} (h : l.length = 4) : ∃ a b c d, l = [a, b, c, d] := by
  match l, h with
  | [a, b, c, d], _ => exact ⟨a, b, c, d, rfl⟩
theorem act_fields : ∃ f0 f1 f2 f3 : Field, Try.prog.underlying 34 = some (.struct #[f0, f1, f2, f3]) ∧ (f0.type = 3 ∧ f0.offset = 0) ∧ (f1.type = 3 ∧ f1.offset = 1) ∧ (f2.type = 31 ∧ f2.offset = 2) ∧ (f3.type = 32 ∧ f3.offset = 3) := by
  have h : (match Try.prog.underlying 34 with | some (.struct fs) => some (fs.toList.map fun f => (f.type, f.offset)) | _ => none) = some [(3, 0), (3, 1), (31, 2), (32, 3)] := by kernel_rfl
  cases hu : Try.prog.underlying 34 with
  | none => rw [hu] at h; cases h
  | some d =>
    rw [hu] at h
    cases d with
    | struct fs =>
      have h' : (fs.toList.map fun f => (f.type, f.offset)) = [(3, 0), (3, 1), (31, 2), (32, 3)] := Option.some.inj h
      obtain ⟨f0, f1, f2, f3, hf⟩ := four_of (l := fs.toList) (by have := congrArg List.length h'; simpa using this)
      rw [hf] at h'
      simp only [List.map_cons, List.map_nil, List.cons.injEq, Prod.mk.injEq, and_true] at h'
      refine ⟨f0, f1, f2, f3, ?_, h'.1, h'.2.1, h'.2.2.1, h'.2.2.2⟩
      have : fs = #[f0, f1, f2, f3] := by cases fs; simp_all
      rw [this]
    | _ => cases h
theorem weights_all {H : Type} {P : Program} {e : TypeId} : ∀ {l : List (DataW H)} {d : DataW H}, d ∈ l → ∀ x ∈ d.weights P e, x ∈ DataW.weightsAll P e l
  | [], _, h, _, _ => by cases h
  | a :: r, d, h, x, hx => by
    rw [DataW.weightsAll, List.mem_append]
    rcases List.mem_cons.1 h with rfl | h
    · exact .inl hx
    · exact .inr (weights_all h x hx)
/-- A slice of bytes inside another value. -/
theorem open_data {H : Type} {enc : TypeId × Value → H} {W : World} {fuel : Nat} {v : Value} {x : DataW H × List MemPlace}
    (h : DataW.trod enc Try.prog W 0 (fun _ => true) true fuel 31 [v] = some x) (hsz : ∀ m ∈ x.1.weights Try.prog 31, m ≤ reachBytes) : ∃ sp cap, ∃ l : List UInt8, v = .slice sp l.length cap ∧ Arg W sp cap l := by
  rcases open_ints Try.underlying31 Try.underlying5 (by kernel_rfl) h with ⟨hcs, _⟩ | ⟨a, len0, cap0, zs, hcs, _, hl, hm, hz, hx, hcell, hwz⟩
  · simp at hcs
    subst hcs
    exact ⟨none, 0, [], rfl, .inl ⟨rfl, rfl⟩⟩
  · simp at hcs
    subst hcs
    simp only [if_true] at hz
    subst hx
    have hs := hsz ((zs.take len0).length * 1 + (zs.drop len0).length * 1) (by simp [DataW.weights, Try.underlying31, lits, bytes5])
    simp only [List.length_take, List.length_drop, reachBytes] at hs
    have hlen : ((zs.take len0).map fun z => UInt8.ofNat z.toNat).length = len0 := by simp; omega
    refine ⟨some a, cap0, (zs.take len0).map fun z => UInt8.ofNat z.toNat, by rw [hlen], ?_⟩
    by_cases hc : cap0 = 0
    · exact .inl ⟨hc, List.eq_nil_of_length_eq_zero (by rw [hlen]; omega)⟩
    · obtain ⟨b, off, rfl, hc2⟩ := ints_at hcell (by omega)
      refine .inr ⟨b, off, rfl, by omega, by rw [hlen]; exact hl, by unfold maxLen at hm; omega, by rw [hlen]; omega, .inr ⟨b, off, rfl, block_lt_of_cell (hc2 0 (by omega)), fun j hj => ?_⟩⟩
      rw [hlen] at hj
      rw [hc2 j (by omega)]
      have hjz : j < zs.length := by omega
      simp only [bv, List.getElem_map, List.getElem_take]
      rw [byteLit (hwz _ (List.getElem_mem hjz))]
      simp [hjz]
/-- A slice of numbers inside another value. -/
theorem open_pick {H : Type} {enc : TypeId × Value → H} {W : World} {fuel : Nat} {v : Value} {x : DataW H × List MemPlace}
    (h : DataW.trod enc Try.prog W 0 (fun _ => true) true fuel 32 [v] = some x) : ∃ sp m cap, ∃ z : Nat → Int, v = .slice sp m cap ∧ (m ≤ cap ∧ (cap : Int) ≤ 9223372036854775807) ∧ (0 < m → ∃ g o, sp = some ⟨g, o, none⟩ ∧ g < W.heap.size ∧ ∀ k, k < m → W.cell? ⟨g, o + k, none⟩ = some (.int .i64 (z k))) := by
  rcases open_ints Try.underlying32 Try.underlying3 (by kernel_rfl) h with ⟨hcs, _⟩ | ⟨x, l, c, zs, hcs, _, hl, hm, hz, hx, hcell, hwz⟩
  · simp at hcs
    subst hcs
    exact ⟨none, 0, 0, fun _ => 0, rfl, ⟨Nat.le_refl _, by omega⟩, fun h => by omega⟩
  · simp at hcs
    subst hcs
    simp only [if_true] at hz
    refine ⟨some x, l, c, fun k => zs.getD k 0, rfl, ⟨hl, by unfold maxLen at hm; omega⟩, fun h0 => ?_⟩
    obtain ⟨b, off, rfl, hc2⟩ := ints_at hcell (by omega)
    exact ⟨b, off, rfl, block_lt_of_cell (hc2 0 (by omega)), fun k hk => hc2 k (by omega)⟩
theorem open_acts {H : Type} {enc : TypeId × Value → H} {W : World} {base : Nat} {v : Value} {d : DataW H} {p : List MemPlace}
    (hv : Value.okWide Try.prog W .any base 22 v) (h : DataW.Trod enc Try.prog W 0 (fun _ => true) true 22 v d p) (hsz : ∀ m ∈ d.weights Try.prog 22, m ≤ reachBytes) :
    ∃ sp m cap, ∃ A : Acts, v = .slice sp m cap ∧ (m ≤ cap ∧ (cap : Int) ≤ 9223372036854775807 ∧ ActsAt W sp m A) := by
  obtain ⟨a0, len0, cap0, rfl⟩ := okWide_slice Try.underlying22 hv
  obtain ⟨fuel, hf⟩ := h
  have hce : Try.prog.cellsOf 34 = 4 := by kernel_rfl
  have hc3 : Try.prog.cellsOf 3 = 1 := by kernel_rfl
  have hc4 : Try.prog.cellsOf 31 = 1 := by kernel_rfl
  have hc5 : Try.prog.cellsOf 32 = 1 := by kernel_rfl
  obtain ⟨f0, f1, f2, f3, hu, ⟨t0, o0⟩, ⟨t1, o1⟩, ⟨t2, o2⟩, ⟨t3, o3⟩⟩ := act_fields
  rcases Deep.open_slice Try.underlying22 hf with ⟨hcs, _⟩ | ⟨x, len, cap, m, n, D, Pl, hcs, _, hl, hm, hmm, hx, hel⟩
  · simp [Value.cells] at hcs
    obtain ⟨rfl, rfl, rfl⟩ := hcs
    exact ⟨none, 0, 0, ⟨fun _ => 0, fun _ => 0, fun _ => none, fun _ => [], fun _ => 0, fun _ => none, fun _ => 0, fun _ => 0, fun _ _ => 0⟩, rfl, Nat.le_refl _, by omega, fun h => by omega⟩
  · simp [Value.cells] at hcs
    obtain ⟨rfl, rfl, rfl⟩ := hcs
    simp only [if_true] at hmm
    subst hmm
    simp only [Prod.mk.injEq] at hx
    have each : ∀ i, i < len0 → ∃ q : (Int × Int) × (Option Addr × List UInt8 × Nat) × (Option Addr × Nat × Nat × (Nat → Int)), W.cell? ((x.add (i * 4)).add 0) = some (.int .i64 q.1.1) ∧ W.cell? ((x.add (i * 4)).add 1) = some (.int .i64 q.1.2) ∧ W.cell? ((x.add (i * 4)).add 2) = some (.slice q.2.1.1 q.2.1.2.1.length q.2.1.2.2) ∧ W.cell? ((x.add (i * 4)).add 3) = some (.slice q.2.2.1 q.2.2.2.1 q.2.2.2.2.1) ∧ ActOk W q.1.1 q.1.2 q.2.1.1 q.2.1.2.1 q.2.1.2.2 q.2.2.1 q.2.2.2.1 q.2.2.2.2.1 q.2.2.2.2.2 := by
      intro i hi
      obtain ⟨cs', h1, h2⟩ := hel i (by omega)
      rw [hce] at h1
      obtain ⟨_, hlen, hcell⟩ := World.cells?_some h1
      obtain ⟨y0, y1, y2, y3, k, hD, _, g0, g1, g2, g3⟩ := Joins.trod_struct4 hu h2
      obtain ⟨v0, v1, v2, v3, rfl⟩ := four_of hlen
      rw [t0, o0, hc3] at g0
      rw [t1, o1, hc3] at g1
      rw [t2, o2, hc4] at g2
      rw [t3, o3, hc5] at g3
      obtain ⟨n0, e0, _, w0⟩ := DataW.trod_int Try.underlying3 g0
      obtain ⟨n1, e1, _, w1⟩ := DataW.trod_int Try.underlying3 g1
      simp only [Prod.mk.injEq] at hD
      have hw : ∀ z ∈ y2.1.weights Try.prog 31, z ≤ reachBytes := fun z hz => by
        refine hsz z ?_
        rw [hx.1]
        simp only [DataW.weights, Try.underlying22]
        refine List.mem_cons_of_mem _ (List.mem_append.2 (.inl (weights_all (d := D i) (List.mem_map.2 ⟨i, List.mem_range.2 hi, rfl⟩) z ?_)))
        rw [hD.1]
        simp only [DataW.weights, hu]
        exact DataW.weights_mem_each (j := 2) (t := 31) (d := y2.1) (by simp [t2]) rfl z hz
      obtain ⟨sd, cd, ld, e2, hsd⟩ := open_data (v := v2) (by simpa using g2) hw
      obtain ⟨sq, mq, cq, zq, e3, hmq, hpq⟩ := open_pick (v := v3) (by simpa using g3)
      simp at e0 e1
      subst e0 e1 e2 e3
      have bd := bounds_i64 w1
      have bd0 := bounds_i64 w0
      exact ⟨((n0, n1), (sd, ld, cd), (sq, mq, cq, zq)), by simpa using hcell 0 (by omega), by simpa using hcell 1 (by omega), by simpa using hcell 2 (by omega), by simpa using hcell 3 (by omega), ⟨⟨bd.1, (show n1 ≤ 9223372036854775807 by omega)⟩, ⟨bd0.1, (show n0 ≤ 9223372036854775807 by omega)⟩, hsd, hmq, hpq⟩⟩
    obtain ⟨q, hq⟩ := Deep.choose_lt (α := (Int × Int) × (Option Addr × List UInt8 × Nat) × (Option Addr × Nat × Nat × (Nat → Int))) each
    refine ⟨some x, len0, m, ⟨fun k => (q k).1.1, fun k => (q k).1.2, fun k => (q k).2.1.1, fun k => (q k).2.1.2.1, fun k => (q k).2.1.2.2, fun k => (q k).2.2.1, fun k => (q k).2.2.2.1, fun k => (q k).2.2.2.2.1, fun k => (q k).2.2.2.2.2⟩, rfl, hl, by unfold maxLen at hm; omega, fun h0 => ?_⟩
    have hsp : x.spot = none := by
      have h1 := (hq 0 h0).1
      simpa [Addr.add] using World.cell?_spot h1
    obtain ⟨b, off, rfl⟩ : ∃ b off, x = ⟨b, off, none⟩ := ⟨x.block, x.off, by cases x; simp_all⟩
    refine ⟨b, off, rfl, ?_, fun k hk => ?_⟩
    · have h1 := (hq 0 h0).1
      rw [addr_add, addr_add] at h1
      exact block_lt_of_cell h1
    · obtain ⟨c0, c1, c2, c3, rest⟩ := hq k hk
      rw [addr_add, addr_add] at c0 c1 c2 c3
      exact ⟨c0, c1, c2, c3, rest⟩
end Go.Proofs.Ytcmkgcdjjplgdaa
