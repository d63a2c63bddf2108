/- Slices of calls, and shapes, that came in. -/
import Derived.Test.YtfbbdpapnegmcaaOpens
import Derived.Deep.Slices
import Derived.Deep.Strs
namespace Go.Proofs.Ytfbbdpapnegmcaa
open Go.ChangeShapes Go.WideShapes Go.ChangeAt Go.RowKit
/-- A list of calls: kind, number, bool. -/
structure Acts where
  K : Nat → Int
  N : Nat → Int
  O : Nat → Bool
/-- A slice of m calls. -/
def ActsAt (w : World) (sp : Option Addr) (m : Nat) (A : Acts) : Prop :=
  0 < m → ∃ b off, sp = some ⟨b, off, none⟩ ∧ b < w.heap.size ∧ ∀ k, k < m → w.cell? ⟨b, off + k * 3, none⟩ = some (.int .i64 (A.K k)) ∧ w.cell? ⟨b, off + k * 3 + 1, none⟩ = some (.int .i64 (A.N k)) ∧ w.cell? ⟨b, off + k * 3 + 2, none⟩ = some (.bool (A.O k)) ∧ (-9223372036854775808 ≤ A.N k ∧ A.N k ≤ 9223372036854775807) ∧ (-9223372036854775808 ≤ A.K k ∧ A.K k ≤ 9223372036854775807)
theorem ActsAt.below {w w' : World} {sp : Option Addr} {m : Nat} {A : Acts} (h : ActsAt w sp m A) {B : Nat} (hb : Below B w w') (hB : w.heap.size ≤ B) : ActsAt w' sp m A := by
  intro h0
  obtain ⟨b, off, h1, h2, h3⟩ := h h0
  refine ⟨b, off, h1, by have := hb.size; omega, fun k hk => ?_⟩
  obtain ⟨c0, c1, c2, bd⟩ := h3 k hk
  exact ⟨(hb.cell (p := ⟨b, off + k * 3, none⟩) (show b < B by omega)).trans c0, (hb.cell (p := ⟨b, off + k * 3 + 1, none⟩) (show b < B by omega)).trans c1, (hb.cell (p := ⟨b, off + k * 3 + 2, none⟩) (show b < B by omega)).trans c2, bd⟩
theorem three_of {α : Type} {l : List α} (h : l.length = 3) : ∃ a b c, l = [a, b, c] := by
  match l, h with
  | [a, b, c], _ => exact ⟨a, b, c, rfl⟩
theorem act_fields : ∃ f0 f1 f2 : Field, Try.prog.underlying 52 = some (.struct #[f0, f1, f2]) ∧ (f0.type = 3 ∧ f0.offset = 0) ∧ (f1.type = 3 ∧ f1.offset = 1) ∧ (f2.type = 4 ∧ f2.offset = 2) := by
  have h : (match Try.prog.underlying 52 with | some (.struct fs) => some (fs.toList.map fun f => (f.type, f.offset)) | _ => none) = some [(3, 0), (3, 1), (4, 2)] := by kernel_rfl
  cases hu : Try.prog.underlying 52 with
  | none => rw [hu] at h; cases h
  | some d =>
    rw [hu] at h
    cases d with
    | struct fs =>
      have h' : (fs.toList.map fun f => (f.type, f.offset)) = [(3, 0), (3, 1), (4, 2)] := Option.some.inj h
      obtain ⟨f0, f1, f2, hf⟩ := three_of (l := fs.toList) (by have := congrArg List.length h'; simpa using this)
      rw [hf] at h'
      simp only [List.map_cons, List.map_nil, List.cons.injEq, Prod.mk.injEq, and_true] at h'
      refine ⟨f0, f1, f2, ?_, h'.1, h'.2.1, h'.2.2⟩
      have : fs = #[f0, f1, f2] := by cases fs; simp_all
      rw [this]
    | _ => cases h
theorem open_acts {H : Type} {enc : TypeId × Value → H} {W : World} {base : Nat} {v : Value} {d : DataW H} {p : List MemPlace}
    (hv : Value.okWide Try.prog W .any base 50 v) (h : DataW.Trod enc Try.prog W 0 (fun _ => true) true 50 v d p) :
    ∃ sp m cap, ∃ A : Acts, v = .slice sp m cap ∧ (m ≤ cap ∧ (cap : Int) ≤ 9223372036854775807 ∧ ActsAt W sp m A) := by
  obtain ⟨a0, len0, cap0, rfl⟩ := okWide_slice Try.underlying50 hv
  obtain ⟨fuel, hf⟩ := h
  have hce : Try.prog.cellsOf 52 = 3 := by kernel_rfl
  have hc3 : Try.prog.cellsOf 3 = 1 := by kernel_rfl
  have hc4 : Try.prog.cellsOf 4 = 1 := by kernel_rfl
  obtain ⟨f0, f1, f2, hu, ⟨t0, o0⟩, ⟨t1, o1⟩, ⟨t2, o2⟩⟩ := act_fields
  rcases Deep.open_slice Try.underlying50 hf with ⟨hcs, _⟩ | ⟨x, len, cap, m, n, D, Pl, hcs, _, hl, hm, hmm, hx, hel⟩
  · simp [Value.cells] at hcs
    obtain ⟨rfl, rfl, rfl⟩ := hcs
    exact ⟨none, 0, 0, ⟨fun _ => 0, fun _ => 0, fun _ => false⟩, rfl, Nat.le_refl _, by omega, fun h => by omega⟩
  · simp [Value.cells] at hcs
    obtain ⟨rfl, rfl, rfl⟩ := hcs
    simp only [if_true] at hmm
    subst hmm
    have each : ∀ i, i < len0 → ∃ q : Int × Int × Bool, W.cell? ((x.add (i * 3)).add 0) = some (.int .i64 q.1) ∧ W.cell? ((x.add (i * 3)).add 1) = some (.int .i64 q.2.1) ∧ W.cell? ((x.add (i * 3)).add 2) = some (.bool q.2.2) ∧ (-9223372036854775808 ≤ q.2.1 ∧ q.2.1 ≤ 9223372036854775807) ∧ (-9223372036854775808 ≤ q.1 ∧ q.1 ≤ 9223372036854775807) := by
      intro i hi
      obtain ⟨cs', h1, h2⟩ := hel i (by omega)
      rw [hce] at h1
      obtain ⟨_, hlen, hcell⟩ := World.cells?_some h1
      obtain ⟨y0, y1, y2, k, _, _, g0, g1, g2⟩ := Deep.trod_struct3 hu h2
      obtain ⟨v0, v1, v2, rfl⟩ := three_of hlen
      rw [t0, o0, hc3] at g0
      rw [t1, o1, hc3] at g1
      rw [t2, o2, hc4] at g2
      obtain ⟨n0, e0, _, w0⟩ := DataW.trod_int Try.underlying3 g0
      obtain ⟨n1, e1, _, w1⟩ := DataW.trod_int Try.underlying3 g1
      obtain ⟨b2, e2, _⟩ := DataW.trod_bool Try.underlying4 g2
      simp at e0 e1 e2
      subst e0 e1 e2
      have bd := bounds_i64 w1
      have bd0 := bounds_i64 w0
      exact ⟨(n0, n1, b2), by simpa using hcell 0 (by omega), by simpa using hcell 1 (by omega), by simpa using hcell 2 (by omega), ⟨bd.1, (show n1 ≤ 9223372036854775807 by omega)⟩, ⟨bd0.1, (show n0 ≤ 9223372036854775807 by omega)⟩⟩
    obtain ⟨q, hq⟩ := Deep.choose_lt (α := Int × Int × Bool) each
    refine ⟨some x, len0, m, ⟨fun k => (q k).1, fun k => (q k).2.1, fun k => (q k).2.2⟩, rfl, hl, by unfold maxLen at hm; omega, fun h0 => ?_⟩
    have hsp : x.spot = none := by
      have h1 := (hq 0 h0).1
      simpa [Addr.add] using World.cell?_spot h1
    obtain ⟨b, off, rfl⟩ : ∃ b off, x = ⟨b, off, none⟩ := ⟨x.block, x.off, by cases x; simp_all⟩
    refine ⟨b, off, rfl, ?_, fun k hk => ?_⟩
    · have h1 := (hq 0 h0).1
      rw [addr_add, addr_add] at h1
      exact block_lt_of_cell h1
    · obtain ⟨c0, c1, c2, bd, bd0⟩ := hq k hk
      rw [addr_add, addr_add] at c0 c1 c2
      exact ⟨c0, c1, c2, bd, bd0⟩
end Go.Proofs.Ytfbbdpapnegmcaa
