/- Slices of calls that came in: leveelaw10.Act. -/
import Derived.Test.YtglmbihahldfcaaOpens
import Derived.Deep.Slices
import Derived.Deep.Strs
namespace Go.Proofs.Ytglmbihahldfcaa
open Go.ChangeShapes Go.WideShapes Go.ChangeAt Go.RowKit
set_option maxRecDepth 100000
/-- A list of calls: kind, number, bytes. -/
structure Acts where
  K : Nat → Int
  N : Nat → Int
  P : Nat → Option Addr
  D : Nat → List UInt8
  C : Nat → Nat
/-- A slice of m calls. -/
def ActsAt (w : World) (sp : Option Addr) (m : Nat) (A : Acts) : Prop :=
  0 < m → ∃ b off, sp = some ⟨b, off, none⟩ ∧ b < w.heap.size ∧ ∀ k, k < m → w.cell? ⟨b, off + k * 3, none⟩ = some (.int .i64 (A.K k)) ∧ w.cell? ⟨b, off + k * 3 + 1, none⟩ = some (.int .i64 (A.N k)) ∧ w.cell? ⟨b, off + k * 3 + 2, none⟩ = some (.slice (A.P k) (A.D k).length (A.C k)) ∧ (-9223372036854775808 ≤ A.N k ∧ A.N k ≤ 9223372036854775807) ∧ (-9223372036854775808 ≤ A.K k ∧ A.K k ≤ 9223372036854775807) ∧ Src w (A.P k) (A.D k) ∧ ((A.D k).length : Int) ≤ 9223372036854775807
theorem three_of {α : Type} {l : List α} (h : l.length = 3) : ∃ a b c, l = [a, b, c] := by
  match l, h with
  | [a, b, c], _ => exact ⟨a, b, c, rfl⟩
theorem act_fields : ∃ f0 f1 f2 : Field, Try.prog.underlying 41 = some (.struct #[f0, f1, f2]) ∧ (f0.type = 3 ∧ f0.offset = 0) ∧ (f1.type = 3 ∧ f1.offset = 1) ∧ (f2.type = 39 ∧ f2.offset = 2) := by
  have h : (match Try.prog.underlying 41 with | some (.struct fs) => some (fs.toList.map fun f => (f.type, f.offset)) | _ => none) = some [(3, 0), (3, 1), (39, 2)] := by kernel_rfl
  cases hu : Try.prog.underlying 41 with
  | none => rw [hu] at h; cases h
  | some d =>
    rw [hu] at h
    cases d with
    | struct fs =>
      have h' : (fs.toList.map fun f => (f.type, f.offset)) = [(3, 0), (3, 1), (39, 2)] := Option.some.inj h
      obtain ⟨f0, f1, f2, hf⟩ := three_of (l := fs.toList) (by have := congrArg List.length h'; simpa using this)
      rw [hf] at h'
      simp only [List.map_cons, List.map_nil, List.cons.injEq, Prod.mk.injEq, and_true] at h'
      refine ⟨f0, f1, f2, ?_, h'.1, h'.2.1, h'.2.2⟩
      have : fs = #[f0, f1, f2] := by cases fs; simp_all
      rw [this]
    | _ => cases h
/-- A slice of bytes inside another value. -/
theorem open_data {H : Type} {enc : TypeId × Value → H} {W : World} {fuel : Nat} {v : Value} {x : DataW H × List MemPlace}
    (h : DataW.trod enc Try.prog W 0 (fun _ => true) true fuel 39 [v] = some x) : ∃ sp cap, ∃ l : List UInt8, v = .slice sp l.length cap ∧ Src W sp l ∧ (l.length : Int) ≤ 9223372036854775807 := by
  rcases open_ints Try.underlying39 Try.underlying5 (by kernel_rfl) h with ⟨hcs, _⟩ | ⟨x, l, c, zs, hcs, _, hl, hm, hz, hx, hcell, hwz⟩
  · simp at hcs
    subst hcs
    exact ⟨none, 0, [], rfl, .inl rfl, by simp⟩
  · simp at hcs
    subst hcs
    simp only [if_true] at hz
    have hlen : ((zs.take l).map fun z => UInt8.ofNat z.toNat).length = l := by simp; omega
    refine ⟨some x, c, (zs.take l).map fun z => UInt8.ofNat z.toNat, by rw [hlen], ?_, by rw [hlen]; unfold maxLen at hm; omega⟩
    by_cases hc : l = 0
    · exact .inl (List.eq_nil_of_length_eq_zero (by rw [hlen]; omega))
    · obtain ⟨b, off, rfl, hc2⟩ := ints_at hcell (by omega)
      refine .inr ⟨b, off, rfl, block_lt_of_cell (hc2 0 (by omega)), fun j hj => ?_⟩
      rw [hlen] at hj
      rw [hc2 j (by omega)]
      have hjz : j < zs.length := by omega
      simp only [bv, List.getElem_map, List.getElem_take]
      rw [byteLit (hwz _ (List.getElem_mem hjz))]
      simp [hjz]
theorem open_acts {H : Type} {enc : TypeId × Value → H} {W : World} {base : Nat} {v : Value} {d : DataW H} {p : List MemPlace}
    (hv : Value.okWide Try.prog W .any base 22 v) (h : DataW.Trod enc Try.prog W 0 (fun _ => true) true 22 v d p) :
    ∃ sp m cap, ∃ A : Acts, v = .slice sp m cap ∧ (m ≤ cap ∧ (cap : Int) ≤ 9223372036854775807 ∧ ActsAt W sp m A) := by
  obtain ⟨a0, len0, cap0, rfl⟩ := okWide_slice Try.underlying22 hv
  obtain ⟨fuel, hf⟩ := h
  have hce : Try.prog.cellsOf 41 = 3 := by kernel_rfl
  have hc3 : Try.prog.cellsOf 3 = 1 := by kernel_rfl
  have hc4 : Try.prog.cellsOf 39 = 1 := by kernel_rfl
  obtain ⟨f0, f1, f2, hu, ⟨t0, o0⟩, ⟨t1, o1⟩, ⟨t2, o2⟩⟩ := act_fields
  rcases Deep.open_slice Try.underlying22 hf with ⟨hcs, _⟩ | ⟨x, len, cap, m, n, D, Pl, hcs, _, hl, hm, hmm, hx, hel⟩
  · simp [Value.cells] at hcs
    obtain ⟨rfl, rfl, rfl⟩ := hcs
    exact ⟨none, 0, 0, ⟨fun _ => 0, fun _ => 0, fun _ => none, fun _ => [], fun _ => 0⟩, rfl, Nat.le_refl _, by omega, fun h => by omega⟩
  · simp [Value.cells] at hcs
    obtain ⟨rfl, rfl, rfl⟩ := hcs
    simp only [if_true] at hmm
    subst hmm
    have each : ∀ i, i < len0 → ∃ q : Int × Int × Option Addr × List UInt8 × Nat, W.cell? ((x.add (i * 3)).add 0) = some (.int .i64 q.1) ∧ W.cell? ((x.add (i * 3)).add 1) = some (.int .i64 q.2.1) ∧ W.cell? ((x.add (i * 3)).add 2) = some (.slice q.2.2.1 q.2.2.2.1.length q.2.2.2.2) ∧ (-9223372036854775808 ≤ q.2.1 ∧ q.2.1 ≤ 9223372036854775807) ∧ (-9223372036854775808 ≤ q.1 ∧ q.1 ≤ 9223372036854775807) ∧ Src W q.2.2.1 q.2.2.2.1 ∧ (q.2.2.2.1.length : Int) ≤ 9223372036854775807 := by
      intro i hi
      obtain ⟨cs', h1, h2⟩ := hel i (by omega)
      rw [hce] at h1
      obtain ⟨_, hlen, hcell⟩ := World.cells?_some h1
      obtain ⟨y0, y1, y2, k, _, _, g0, g1, g2⟩ := Deep.trod_struct3 hu h2
      obtain ⟨v0, v1, v2, rfl⟩ := three_of hlen
      rw [t0, o0, hc3] at g0
      rw [t1, o1, hc3] at g1
      rw [t2, o2, hc4] at g2
      obtain ⟨n0, e0, _, w0⟩ := DataW.trod_int Try.underlying3 g0
      obtain ⟨n1, e1, _, w1⟩ := DataW.trod_int Try.underlying3 g1
      obtain ⟨sd, cd, ld, e2, hsd, hld⟩ := open_data (v := v2) (by simpa using g2)
      simp at e0 e1
      subst e0 e1 e2
      have bd := bounds_i64 w1
      have bd0 := bounds_i64 w0
      exact ⟨(n0, n1, sd, ld, cd), by simpa using hcell 0 (by omega), by simpa using hcell 1 (by omega), by simpa using hcell 2 (by omega), ⟨bd.1, (show n1 ≤ 9223372036854775807 by omega)⟩, ⟨bd0.1, (show n0 ≤ 9223372036854775807 by omega)⟩, hsd, hld⟩
    obtain ⟨q, hq⟩ := Deep.choose_lt (α := Int × Int × Option Addr × List UInt8 × Nat) each
    refine ⟨some x, len0, m, ⟨fun k => (q k).1, fun k => (q k).2.1, fun k => (q k).2.2.1, fun k => (q k).2.2.2.1, fun k => (q k).2.2.2.2⟩, rfl, hl, by unfold maxLen at hm; omega, fun h0 => ?_⟩
    have hsp : x.spot = none := by
      have h1 := (hq 0 h0).1
      simpa [Addr.add] using World.cell?_spot h1
    obtain ⟨b, off, rfl⟩ : ∃ b off, x = ⟨b, off, none⟩ := ⟨x.block, x.off, by cases x; simp_all⟩
    refine ⟨b, off, rfl, ?_, fun k hk => ?_⟩
    · have h1 := (hq 0 h0).1
      rw [addr_add, addr_add] at h1
      exact block_lt_of_cell h1
    · obtain ⟨c0, c1, c2, rest⟩ := hq k hk
      rw [addr_add, addr_add] at c0 c1 c2
      exact ⟨c0, c1, c2, rest⟩
end Go.Proofs.Ytglmbihahldfcaa
