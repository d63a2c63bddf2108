/- Both stores, opened: alike to each byte. -/
import Derived.Test.YthaogbbclocmaaaGreatJRpat8
import Derived.Test.YthaogbbclocmaaaGreatJXdo4
import Derived.Test.YthaogbbclocmaaaGreatJPerr7
import Derived.Test.YthaogbbclocmaaaGreatJPmeet4
import Derived.Test.YthaogbbclocmaaaGreatJRimg7
namespace Go.Proofs.YthaogbbclocmaaaGreat
open Go.RowKit
set_option maxRecDepth 100000
/-- The document's store that was opened: as one thing. -/
theorem rt_open {w0 w : World} {d q base gb cb : Nat} {v : Value} {va vc : Nat → Nat} {N : Nat} (hN : 1 ≤ N ∧ N ≤ 8) (h : RSt0 w0 w d q N v) (hd : RefW w base d N false 0 (fun _ => zer :: []) gb cb va vc) (hd0 : d < w0.heap.size ∧ gb < w0.heap.size ∧ ∀ i, i < N → va i < w0.heap.size) :
    RT w q d N 1 (List.replicate N zer) (fun _ => zer :: []) [] 0 (fun k => (Rk d gb N va k ∨ w0.heap.size ≤ k) ∧ k < w.heap.size) := by
  obtain ⟨hl, h2⟩ := h.ow
  have hq := h.qe
  have hz := h.sz
  rcases h2 with ⟨_, h0⟩ | ⟨g, cap, cur, hv, hg, hh, hn, hm, hs, hx⟩
  · omega
  have hlt : g < w.heap.size := (Array.getElem?_eq_some_iff.1 hh).1
  subst hv
  refine ⟨g, cap, none, 0, base, gb, cb, va, vc, {
    at' := ⟨by simpa using h.at', ⟨⟨by simp, by omega⟩, .inl rfl⟩⟩
    bs := ⟨hlt, ⟨by simpa using hn, by unfold maxLen at hm; omega⟩, ⟨by simp; omega, fun b hb => by rw [List.eq_of_mem_replicate hb]; simp [zer]⟩, fun i b hi => ?_⟩
    fz := fun o => frozen_of_row _ _ _ _ _ hh
    bl := by simp
    ds := hd
    vl := fun i _ => by simp
    lk := ⟨by simp, fun c hc => (by cases hc), fun c hc => (by cases hc)⟩
    ao' := .inl rfl
    a1 := by omega
    a2 := fun g o e => by cases e
    a3 := fun i hi => by have := hd0.2.2 i hi; omega
    a4 := fun c hc => by cases hc
    k1 := ⟨⟨.inr (by omega), by omega⟩, ⟨.inr (by omega), hlt⟩⟩
    k2 := fun k hk => ⟨.inl hk, by
      rcases hk with e | e | ⟨i, hi, e⟩
      · omega
      · omega
      · have := hd0.2.2 i hi; omega⟩
    k3 := fun g o e => by cases e
    lt := fun k hk => hk.2 }⟩
  have hi5 : i < N := by
    have := (List.getElem?_eq_some_iff.1 hi).1
    simpa using this
  rw [List.getElem?_replicate, if_pos hi5] at hi
  cases hi
  rw [cell_of_row _ _ _ _ _ _ hh]
  have e : (cur.toList.take (N * 1))[i]? = (txs N)[i]? := by rw [hx]
  rw [List.getElem?_take, if_pos (by omega)] at e
  rw [← Array.getElem?_toList, e]
  unfold txs
  rw [List.getElem?_replicate, if_pos hi5]
/-- Both stores of N blocks of which nothing was changed. -/
theorem bx_open {N : Nat} (hN : 1 ≤ N ∧ N ≤ 8) {w w1 w2 w3 w4 : World} {dp dq gb cb p cm bm cp mb : Nat} {va vc : Nat → Nat} {v4 : Value} {s2 : PSt}
    (hD1 : DiskAt w1 w.heap.size dp N false 0 (fun _ => zer) (fun _ => []) dq (fun _ => .slice none 0 0)) (hb1 : Below w.heap.size w w1)
    (hR2 : RefW w2 w1.heap.size w1.heap.size N false 0 (fun _ => zer :: []) gb cb va vc) (hgb : w1.heap.size ≤ gb) (hva : ∀ i, i < N → w1.heap.size ≤ va i) (hb2 : Below w1.heap.size w1 w2)
    (hs2 : s2 = newS p cm bm ⟨cp, mb, 0, .slice none 0 0, N, [], dp, N, dq, false, 0, fun _ => zer, fun _ => [], fun _ => .slice none 0 0⟩)
    (hP2 : PM w3 w.heap.size s2 (fun _ => [])) (hbd : w2.heap.size ≤ p ∧ w2.heap.size ≤ cm ∧ w2.heap.size ≤ bm ∧ w2.heap.size ≤ cp ∧ w2.heap.size ≤ mb) (hb3 : Below w2.heap.size w2 w3)
    (hS4 : RSt0 w3 w4 w1.heap.size w3.heap.size N v4) : s2.cnt = 0 ∧ ∃ D, BX N w w4 p dp w1.heap.size w3.heap.size s2 (fun _ => []) 0 1 (fun _ => []) [] D := by
  have hL2 : PL s2 (fun _ => []) [] 0 := by rw [hs2]; exact PL.made rfl ⟨by show N ≤ N; omega, by show N ≤ 8; omega⟩ ⟨rfl, rfl⟩ rfl rfl
  have e2 : s2.p = p ∧ s2.σ.dp = dp ∧ s2.σ.dn = N ∧ s2.cnt = 0 ∧ s2.C = [] ∧ s2.B = [] := by rw [hs2]; exact ⟨rfl, rfl, rfl, rfl, rfl, rfl⟩
  have hsf : s2.σ.sf = fun _ => zer := by rw [hs2]; rfl
  have hws : s2.σ.ws = fun _ => [] := by rw [hs2]; rfl
  have hAK : ∀ k, Ak s2 k → k < w1.heap.size ∨ (w2.heap.size ≤ k ∧ k < w3.heap.size) := fun k hk => by
    have hlt := hP2.lt hk
    rw [hs2] at hk
    rcases hk with (hk | hk | hk | ⟨c, hc, _⟩ | ⟨b, hb, _⟩) | (hk | hk | hk | ⟨e, he, _⟩) | hk
    · have hk' : k = p := hk
      exact .inr ⟨by omega, hlt⟩
    · have hk' : k = cm := hk
      exact .inr ⟨by omega, hlt⟩
    · have hk' : k = bm := hk
      exact .inr ⟨by omega, hlt⟩
    · cases hc
    · cases hb
    · have hk' : k = cp := hk
      exact .inr ⟨by omega, hlt⟩
    · have hk' : k = mb := hk
      exact .inr ⟨by omega, hlt⟩
    · have hk' : (none : Option Nat) = some k := hk
      cases hk'
    · cases he
    · exact .inl (hD1.dk_lt hk).1
  have hB2 : Below w.heap.size w w2 := hb1.trans (hb2.mono hb1.size)
  have hG3 : GN N w w3 p dp s2 (fun _ => []) 0 := ⟨hP2, hL2, hB2.trans (hb3.mono hB2.size), e2.1, e2.2.1, e2.2.2.1⟩
  have hR3 := hR2.below hb3
  have hz : w1.heap.size ≤ w2.heap.size ∧ w2.heap.size ≤ w3.heap.size ∧ w.heap.size ≤ w1.heap.size := ⟨hb2.size, hb3.size, hb1.size⟩
  have hl : w1.heap.size < w2.heap.size ∧ gb < w2.heap.size ∧ ∀ i, i < N → va i < w2.heap.size := ⟨hR2.rl, hR2.at'.gl, fun i hi => (hR2.at'.row i hi).2.1⟩
  have hR4 := hR3.below hS4.be
  have hbas : basS N s2 = List.replicate N zer := by
    unfold basS
    rw [hsf]
    apply List.ext_getElem
    · simp
    · intro i h1 h2; simp
  refine ⟨e2.2.2.2.1, _, hG3.up hS4.be, PA.made e2.2.2.2.2.1 e2.2.2.2.2.2, ⟨_, by rw [e2.2.2.2.1, hbas]; exact rt_open hN hS4 hR4 ⟨by omega, by omega, fun i hi => by have := hl.2.2 i hi; omega⟩, fun i hi => by rw [hsf, hws]⟩, by rw [e2.2.2.2.2.1]; rfl, fun k hk hA => ?_, fun k hk => ?_⟩
  · rcases hAK k hA with h1 | h1
    · rcases hk.1 with (e | e | ⟨i, hi, e⟩) | e
      · omega
      · omega
      · have := hva i hi; omega
      · omega
    · rcases hk.1 with (e | e | ⟨i, hi, e⟩) | e
      · omega
      · omega
      · have := hl.2.2 i hi; omega
      · omega
  · rcases hk.1 with (e | e | ⟨i, hi, e⟩) | e
    · omega
    · omega
    · have := hva i hi; omega
    · omega
end Go.Proofs.YthaogbbclocmaaaGreat
/- Slices of calls that came in, with a bound on each of their slices of bytes. -/
namespace Go.Proofs.YthaogbbclocmaaaGreat
open Go.ChangeShapes Go.WideShapes Go.ChangeAt Go.RowKit
set_option maxRecDepth 100000
theorem weightsAll_in {H : Type} {P : Program} {e : TypeId} : ∀ {l : List (DataW H)} {d : DataW H}, d ∈ l → ∀ n ∈ d.weights P e, n ∈ DataW.weightsAll P e l
  | d' :: r, d, hd, n, hn => by
    simp only [DataW.weightsAll, List.mem_append]
    rcases List.mem_cons.1 hd with rfl | h
    · exact Or.inl hn
    · exact Or.inr (weightsAll_in h n hn)
theorem trod_struct6x {H : Type} {enc : TypeId × Value → H} {W : World} {t : TypeId} {f0 f1 f2 f3 f4 f5 : Field} {fuel : Nat} {cs : List Value} {x : DataW H × List MemPlace} (ht : Tryz.prog.underlying t = some (.struct #[f0, f1, f2, f3, f4, f5])) (h : DataW.trod enc Tryz.prog W 0 (fun _ => true) true fuel t cs = some x) :
    ∃ y0 y1 y2 y3 y4 y5 n, x.1 = .agg [y0.1, y1.1, y2.1, y3.1, y4.1, y5.1] ∧ cs.length = Tryz.prog.cellsOf t ∧ DataW.trod enc Tryz.prog W 0 (fun _ => true) true n f0.type ((cs.drop f0.offset).take (Tryz.prog.cellsOf f0.type)) = some y0 ∧
      DataW.trod enc Tryz.prog W 0 (fun _ => true) true n f1.type ((cs.drop f1.offset).take (Tryz.prog.cellsOf f1.type)) = some y1 ∧ DataW.trod enc Tryz.prog W 0 (fun _ => true) true n f2.type ((cs.drop f2.offset).take (Tryz.prog.cellsOf f2.type)) = some y2 ∧
      DataW.trod enc Tryz.prog W 0 (fun _ => true) true n f3.type ((cs.drop f3.offset).take (Tryz.prog.cellsOf f3.type)) = some y3 ∧ DataW.trod enc Tryz.prog W 0 (fun _ => true) true n f4.type ((cs.drop f4.offset).take (Tryz.prog.cellsOf f4.type)) = some y4 ∧
      DataW.trod enc Tryz.prog W 0 (fun _ => true) true n f5.type ((cs.drop f5.offset).take (Tryz.prog.cellsOf f5.type)) = some y5 := by
  obtain ⟨xs, n, _, rfl, hl, hlen, hf⟩ := DataW.trod_struct ht h
  match xs, hlen with
  | [y0, y1, y2, y3, y4, y5], _ => exact ⟨y0, y1, y2, y3, y4, y5, n, rfl, hl, by simpa using hf 0 f0 rfl, by simpa using hf 1 f1 rfl, by simpa using hf 2 f2 rfl, by simpa using hf 3 f3 rfl, by simpa using hf 4 f4 rfl, by simpa using hf 5 f5 rfl⟩
theorem open_data2 {H : Type} {enc : TypeId × Value → H} {W : World} {fuel : Nat} {v : Value} {x : DataW H × List MemPlace}
    (h : DataW.trod enc Tryz.prog W 0 (fun _ => true) true fuel 36 [v] = some x) (hw : ∀ n ∈ x.1.weights Tryz.prog 36, n ≤ reachBytes) : ∃ sp cap, ∃ l : List UInt8, v = .slice sp l.length cap ∧ Arg W sp cap l := by
  rcases open_ints Tryz.underlying36 Tryz.underlying5 (by kernel_rfl) h with ⟨hcs, _⟩ | ⟨x, l, c, zs, hcs, _, hl, hm, hz, hx, hcell, hwz⟩
  · simp at hcs
    subst hcs
    exact ⟨none, 0, [], rfl, .inl ⟨rfl, rfl⟩⟩
  · simp at hcs
    subst hcs
    simp only [if_true] at hz
    have hs : ((lits .u8 (zs.take l)).length + (lits .u8 (zs.drop l)).length) * Tryz.prog.bytesOf 5 ≤ reachBytes := hw _ (by
      rw [hx]
      simp only [DataW.weights, Tryz.underlying36, List.mem_cons]
      exact .inl rfl)
    rw [bytes5] at hs
    simp only [lits, List.length_map, List.length_take, List.length_drop, reachBytes] at hs
    have hlen : ((zs.take l).map fun z => UInt8.ofNat z.toNat).length = l := by simp; omega
    refine ⟨some x, c, (zs.take l).map fun z => UInt8.ofNat z.toNat, by rw [hlen], ?_⟩
    by_cases hc : c = 0
    · exact .inl ⟨hc, List.eq_nil_of_length_eq_zero (by rw [hlen]; omega)⟩
    · obtain ⟨b, off, rfl, hc2⟩ := ints_at hcell (by omega)
      refine .inr ⟨b, off, rfl, by omega, by rw [hlen]; exact hl, by unfold maxLen at hm; omega, by rw [hlen]; omega, .inr ⟨b, off, rfl, block_lt_of_cell (hc2 0 (by omega)), fun j hj => ?_⟩⟩
      rw [hlen] at hj
      rw [hc2 j (by omega)]
      have hjz : j < zs.length := by omega
      simp only [bv, List.getElem_map, List.getElem_take]
      rw [byteLit (hwz _ (List.getElem_mem hjz))]
      simp [hjz]
/-- A slice of m calls. -/
def ActsAt2 (w : World) (sp : Option Addr) (m : Nat) (A : Nat → Act6) : Prop :=
  0 < m → ∃ b off, sp = some ⟨b, off, none⟩ ∧ b < w.heap.size ∧ ∀ k, k < m → (A k).at' w ⟨b, off + k * 6, none⟩ ∧ (A k).Ok w ∧ Arg w (A k).dp (A k).dc (A k).D
theorem open_acts2 {H : Type} {enc : TypeId × Value → H} {W : World} {base : Nat} {v : Value} {d : DataW H} {p : List MemPlace}
    (hv : Value.okWide Tryz.prog W .any base 22 v) (h : DataW.Trod enc Tryz.prog W 0 (fun _ => true) true 22 v d p) (hw : ∀ n ∈ d.weights Tryz.prog 22, n ≤ reachBytes) :
    ∃ sp m cap, ∃ A : Nat → Act6, v = .slice sp m cap ∧ (m ≤ cap ∧ (cap : Int) ≤ 9223372036854775807 ∧ ActsAt2 W sp m A) := by
  obtain ⟨a0, len0, cap0, rfl⟩ := okWide_slice Tryz.underlying22 hv
  obtain ⟨fuel, hf⟩ := h
  have hce : Tryz.prog.cellsOf 39 = 6 := by kernel_rfl
  have hc3 : Tryz.prog.cellsOf 3 = 1 := by kernel_rfl
  have hcb : Tryz.prog.cellsOf 36 = 1 := by kernel_rfl
  have hcl : Tryz.prog.cellsOf 37 = 1 := by kernel_rfl
  have hco : Tryz.prog.cellsOf 4 = 1 := by kernel_rfl
  obtain ⟨f0, f1, f2, f3, f4, f5, hu, ⟨t0, o0⟩, ⟨t1, o1⟩, ⟨t2, o2⟩, ⟨t3, o3⟩, ⟨t4, o4⟩, ⟨t5, o5⟩⟩ := act_fields
  rcases Deep.open_slice Tryz.underlying22 hf with ⟨hcs, _⟩ | ⟨x, len, cap, m, n, D, Pl, hcs, _, hl, hm, hmm, hx, hel⟩
  · simp [Value.cells] at hcs
    obtain ⟨rfl, rfl, rfl⟩ := hcs
    exact ⟨none, 0, 0, fun _ => ⟨0, 0, 0, none, [], 0, none, [], 0, false⟩, rfl, Nat.le_refl _, by omega, fun h => by omega⟩
  · simp [Value.cells] at hcs
    obtain ⟨rfl, rfl, rfl⟩ := hcs
    simp only [if_true] at hmm
    subst hmm
    have each : ∀ i, i < len0 → ∃ q : Act6, q.at' W (x.add (i * 6)) ∧ q.Ok W ∧ Arg W q.dp q.dc q.D := by
      intro i hi
      obtain ⟨cs', h1, h2⟩ := hel i (by omega)
      rw [hce] at h1
      obtain ⟨_, hlen, hcell⟩ := World.cells?_some h1
      obtain ⟨y0, y1, y2, y3, y4, y5, k, hxe, _, g0, g1, g2, g3, g4, g5⟩ := trod_struct6x hu h2
      obtain ⟨v0, v1, v2, v3, v4, v5, rfl⟩ := six_of hlen
      rw [t0, o0, hc3] at g0
      rw [t1, o1, hc3] at g1
      rw [t2, o2, hc3] at g2
      rw [t3, o3, hcb] at g3
      rw [t4, o4, hcl] at g4
      rw [t5, o5, hco] at g5
      obtain ⟨n0, e0, _, w0⟩ := DataW.trod_int Tryz.underlying3 g0
      obtain ⟨n1, e1, _, w1⟩ := DataW.trod_int Tryz.underlying3 g1
      obtain ⟨n2, e2, _, w2⟩ := DataW.trod_int Tryz.underlying3 g2
      obtain ⟨sd, cd, ld, e3, hag⟩ := open_data2 (v := v3) (x := y3) (by simpa using g3) (fun n hn => hw n (by
        simp only [Prod.mk.injEq] at hx
        rw [hx.1]
        simp only [DataW.weights, Tryz.underlying22, List.mem_cons, List.mem_append]
        refine .inr (.inl (weightsAll_in (List.mem_map.2 ⟨i, List.mem_range.2 hi, rfl⟩) n ?_))
        rw [show D i = _ from hxe]
        simp only [DataW.weights, hu, DataW.weightsEach, List.map_cons, List.mem_append, t3]
        exact .inr (.inr (.inr (.inl hn)))))
      have hsd := hag.src
      have hld : (ld.length : Int) ≤ 9223372036854775807 := by have := hag.len; omega
      obtain ⟨sa, ca, la, e4, hsa, hla, hba⟩ := open_longs (v := v4) (by simpa using g4)
      obtain ⟨bo, e5, _⟩ := DataW.trod_bool Tryz.underlying4 g5
      simp at e0 e1 e2 e5
      subst e0 e1 e2 e3 e4 e5
      have bd0 := bounds_i64 w0
      have bd1 := bounds_i64 w1
      have bd2 := bounds_i64 w2
      exact ⟨⟨n0, n1, n2, sd, ld, cd, sa, la, ca, bo⟩, ⟨by simpa using hcell 0 (by omega), by simpa using hcell 1 (by omega), by simpa using hcell 2 (by omega), by simpa using hcell 3 (by omega), by simpa using hcell 4 (by omega), by simpa using hcell 5 (by omega)⟩, ⟨⟨bd0.1, (show n0 ≤ 9223372036854775807 by omega)⟩, ⟨bd1.1, (show n1 ≤ 9223372036854775807 by omega)⟩, ⟨bd2.1, (show n2 ≤ 9223372036854775807 by omega)⟩, hsd, hld, hsa, hla, hba⟩, hag⟩
    have hinh : Inhabited Act6 := ⟨⟨0, 0, 0, none, [], 0, none, [], 0, false⟩⟩
    obtain ⟨q, hq⟩ := Deep.choose_lt (α := Act6) each
    refine ⟨some x, len0, m, q, rfl, hl, by unfold maxLen at hm; omega, fun h0 => ?_⟩
    have hsp : x.spot = none := by
      have h1 := (hq 0 h0).1.1
      simpa [Addr.add] using World.cell?_spot h1
    obtain ⟨b, off, rfl⟩ : ∃ b off, x = ⟨b, off, none⟩ := ⟨x.block, x.off, by cases x; simp_all⟩
    refine ⟨b, off, rfl, ?_, fun k hk => ?_⟩
    · have h1 := (hq 0 h0).1.1
      rw [addr_add, addr_add] at h1
      exact block_lt_of_cell h1
    · have := hq k hk
      rw [addr_add] at this; exact this
end Go.Proofs.YthaogbbclocmaaaGreat
/- disk.Bytes. -/
namespace Go.Proofs.YthaogbbclocmaaaGreat
open Go.RowKit
set_option maxRecDepth 100000
section
variable {w : World} {base p n : Nat} {en : Bool} {lf : Int} {sf : Nat → List UInt8} {ws : Nat → List (List UInt8)} {q : Nat} {vs : Nat → Value}
def bytesP (y : Nat → List UInt8) (n k : Nat) : List UInt8 := (List.range k).flatMap y ++ List.replicate ((n - k) * 256) 0
theorem flat_length (y : Nat → List UInt8) (hy : ∀ i, (y i).length = 256) : ∀ k, ((List.range k).flatMap y).length = k * 256
  | 0 => rfl
  | k + 1 => by rw [List.range_succ, List.flatMap_append, List.length_append, flat_length y hy k]; simp [hy]; omega
theorem bytesP_step (y : Nat → List UInt8) (hy : ∀ i, (y i).length = 256) (n k : Nat) (hk : k < n) : (bytesP y n k).take (k * 256) ++ (y k).take (n * 256 - k * 256) ++ (bytesP y n k).drop (k * 256 + min 256 (n * 256 - k * 256)) = bytesP y n (k + 1) := by
  have hA := flat_length y hy k
  have h1 : (bytesP y n k).take (k * 256) = (List.range k).flatMap y := by unfold bytesP; rw [List.take_left' hA]
  have h2 : (y k).take (n * 256 - k * 256) = y k := List.take_of_length_le (by rw [hy]; omega)
  have h3 : (bytesP y n k).drop (k * 256 + min 256 (n * 256 - k * 256)) = List.replicate ((n - (k + 1)) * 256) 0 := by
    unfold bytesP
    have hm : min 256 (n * 256 - k * 256) = 256 := by omega
    have he : (n - k) * 256 - 256 = (n - (k + 1)) * 256 := by omega
    rw [hm, ← List.drop_drop, List.drop_left' hA, List.drop_replicate, he]
  rw [h1, h2, h3]
  unfold bytesP
  rw [List.range_succ, List.flatMap_append]; simp
set_option maxHeartbeats 2000000 in
set_option maxRecDepth 100000 in
theorem dbytes_any (h : DiskAt w base p n en lf sf ws q vs) (y : Nat → List UInt8) (hy : ∀ i, i < n → y i = lastOf (sf i) (ws i)) (hyl : ∀ i, (y i).length = 256) :
    Calls Tryz.prog 17 #[.pointer (some ⟨p, 0, none⟩)] w fun e w' => ∃ g, e = .returned (.slice (some ⟨g, 0, none⟩) (n * 256) (n * 256)) ∧ Blk w' g 5 ((List.range n).flatMap y) ∧ w.heap.size ≤ g ∧ Below w.heap.size w w' := by
  have LEN := len_any h
  have hnn := h.nn
  have hmk : (Instr.makeSlice 36 (.int .i64 ((n : Int) * 256)) (.int .i64 ((n : Int) * 256))).run Tryz.prog w = .ok (.slice (some ⟨w.heap.size, 0, none⟩) (n * 256) (n * 256)) (w.alloc (.cells (bvs (List.replicate (n * 256) 0)).toArray 5)) := by
    have := make_any w (n * 256) (n * 256) (Nat.le_refl _) (by omega)
    rw [show ((n * 256 : Nat) : Int) = (n : Int) * 256 by omega] at this
    exact this
  have hb0 : Below w.heap.size w (w.alloc (.cells (bvs (List.replicate (n * 256) 0)).toArray 5)) := (Below.refl _ _).alloc (Nat.le_refl _) _
  have hg0 : Blk (w.alloc (.cells (bvs (List.replicate (n * 256) 0)).toArray 5)) w.heap.size 5 (bytesP y n 0) := by
    have e : bytesP y n 0 = List.replicate (n * 256) 0 := by simp [bytesP]
    rw [e]; exact heap_alloc_new _ _
  have H : Hid _ := h
  have hq := h.ql
  have hp := h.pl
  clear h
  obtain ⟨w0, HW⟩ : ∃ w0, Hid (w0 = w.alloc (.cells (bvs (List.replicate (n * 256) 0)).toArray 5)) := ⟨_, rfl⟩
  rw [← HW.out] at hmk hb0 hg0
  have LEN0 := len_any (H.out.below hb0 (Nat.le_refl _))
  clear HW
  go_enter Tryz.func17, Tryz.ntmps17
  go_wp2_with fail
  refine LEN.mono ?_
  rintro e w1 ⟨rfl, rfl⟩
  clear LEN
  have hn1 : (n : Int) ≤ 4096 := by omega
  have hn0 : (0 : Int) ≤ n := by omega
  go_wp2_with fail
  refine LEN0.mono ?_
  rintro e w2 ⟨rfl, rfl⟩
  clear LEN0 hmk
  obtain ⟨Z, hz, hzs, hinfo, HZ⟩ := Tryz.zero132
  clear HZ hinfo
  go_wp2_with fail
  go_loopw [12] (fun i wr => ∃ k : Nat, k ≤ n ∧ i = .int .i64 k ∧ Blk wr w1.heap.size 5 (bytesP y n k) ∧ Below w1.heap.size w1 wr) (fun i _ => n - (intOf i).toNat)
  case atStart => exact ⟨0, by omega, rfl, hg0, hb0⟩
  case round =>
    obtain ⟨k, hk, rfl, hB, hbw⟩ := hrel
    by_cases hlt : (k : Int) < n
    · have hD := H.out.below hbw (Nat.le_refl _)
      have LAST := last_any hD k (by omega)
      rw [← hy k (by omega)] at LAST
      obtain ⟨cq, hcq1, hcq2, c0⟩ := hD.c0
      have hyk := hyl k
      clear hD
      go_wp2_with fail
      refine LAST.mono ?_
      rintro e w3 ⟨rfl, hb3⟩
      clear LAST
      have hs3 := hb3.size
      have hbZ : Below wr.heap.size wr (w3.alloc (.cells Z 132)) := hb3.alloc hs3 _
      go_wp2_with ((with_reducible show wpList _ _ _ ({ dst := _, op := Op.store 132 _ _, type := _, pos := _, after := _, guard := _ } :: _) _ _); refine wpList_store_blk rfl (.tmp 5) (.tmp 21) rfl w3.heap.size Z (y k) rfl rfl (heap_alloc_new _ _) hzs hyk wr.heap.size wr hbZ hs3 ?_; intro w4 hg4 hb4 hx1 hy1; clear hx1 hy1)
      have hlt0 := hB.lt
      have hB4 : Blk w4.drew w1.heap.size 5 (bytesP y n k) := hB.below hb4.drew hlt0
      have hPl : (bytesP y n k).length = n * 256 := by unfold bytesP; rw [List.length_append, flat_length y hyl, List.length_replicate]; omega
      obtain ⟨w5, hcp, hB5, hb5, hs5⟩ := copy_any (w := w4.drew) (g := w1.heap.size) (off := k * 256) (dLen := n * 256 - k * 256) (n * 256 - k * 256) (sp := some ⟨w3.heap.size, 0, none⟩) 256 256 hB4 (show Src w4.drew (some ⟨w3.heap.size, 0, none⟩) (y k) from hg4.src) hyk (by rw [hPl]; omega)
      have hmul : IntKind.i64.wrap ((k : Int) * 256) = ((k * 256 : Nat) : Int) := by rw [IntKind.wrap_i64]; omega
      have hk0 : (0 : Int) ≤ (k : Int) * 256 := by omega
      have htn : ((k : Int) * 256).toNat = k * 256 := by omega
      have hne : ¬ n * 256 = k * 256 := by omega
      dsimp only [Act.put]
      have hb6 : Below w1.heap.size w1 w5 := (hbw.trans ((hb4.mono hbw.size).drew)).trans hb5
      rw [bytesP_step y hyl n k (by omega)] at hB5
      have HB5 : Hid _ := hB5
      clear hB5 hB4 hB hPl
      go_region
      go_wp2
      go_roundw
      case rel => exact ⟨k + 1, by omega, by go_num, HB5.out, hb6⟩
      case measure => simp [intOf]; omega
    · obtain rfl : k = n := by omega
      go_wp2
      go_ret
      refine ⟨_, rfl, ?_, Nat.le_refl _, hbw⟩
      have e : bytesP y k k = (List.range k).flatMap y := by simp [bytesP]
      rw [← e]; exact hB
end
end Go.Proofs.YthaogbbclocmaaaGreat
/- The document's disk: Bytes, Open. -/
namespace Go.Proofs.YthaogbbclocmaaaGreat
open Go.RowKit
set_option maxRecDepth 100000
section
variable {w : World} {base r n : Nat} {held : Bool} {left : Int} {ver : Nat → List (List UInt8)} {gb cb : Nat} {va vc : Nat → Nat}
set_option maxHeartbeats 4000000 in
theorem rbytesd_any (h : RefW w base r n held left ver gb cb va vc) (y : Nat → List UInt8) (hy : ∀ i, i < n → ∃ m, (ver i).length = m + 1 ∧ (ver i)[m]? = some (y i)) (hyl : ∀ i, (y i).length = 256) :
    Calls Tryz.prog 18 #[.pointer (some ⟨r, 0, none⟩)] w fun e w' => ∃ v, e = .returned v ∧ Own w' w.heap.size v ((List.range n).flatMap y) ∧ Below w.heap.size w w' := by
  have hnn : (n : Int) ≤ 4096 := by have := h.at'.nn; omega
  have H : Hid _ := h
  have HY : Hid _ := hy
  clear h hy
  go_enter Tryz.func18, Tryz.ntmps18
  go_wp2_with fail
  go_loopw [3, 4] (fun v s wr => ∃ k : Nat, k ≤ n ∧ s = .int .i64 k ∧ Hid (Own wr w.heap.size v ((List.range k).flatMap y)) ∧ Hid (Below w.heap.size w wr)) (fun _ s _ => n - (intOf s).toNat)
  case atStart => exact ⟨0, by omega, rfl, Own.nil _ _, Below.refl _ _⟩
  case round =>
    obtain ⟨k, hk, rfl, HO, HB⟩ := hrel
    have R : RefW wr base r n held left ver gb cb va vc := H.out.below HB.out
    have c0 := R.at'.c0
    by_cases hlt : (k : Int) < n
    · obtain ⟨mm, hm1, hm2⟩ := HY.out k (by omega)
      have RD := rread_in R.at' k (by omega) mm (y k) hm1 hm2
      rw [hyl k] at RD
      have hlk := flat_length y hyl k
      have hz := HB.out.size
      clear R hm1 hm2
      go_wp2_with fail
      refine RD.mono ?_
      rintro e w2 ⟨g, c, rfl, sg, hb2⟩
      have HO2 : Hid (Own w2 w.heap.size _ ((List.range k).flatMap y)) := HO.out.below hb2 (Nat.le_refl _)
      have HB2 : Hid (Below w.heap.size w w2) := HB.out.trans (hb2.mono hz)
      have hz2 := hb2.size
      clear RD c0 hb2 HO HB
      go_wp2_with (at_builtin; refine wpList_append_bytes rfl (.tmp 22) (.tmp 23) rfl w.heap.size ((List.range k).flatMap y) (y k) _ rfl _ _ _ rfl (hyl k).symm HO2.out sg (by omega) (by rw [hlk, hyl k]; omega) (fun h => by cases h) ?_; intro v3 w3 hO3 hb3)
      have HO3 : Hid (Own w3 w.heap.size v3 ((List.range (k + 1)).flatMap y)) := by
        show Own _ _ _ _
        rw [List.range_succ, List.flatMap_append]
        simpa using hO3
      have HB3 : Hid (Below w.heap.size w w3) := HB2.out.trans hb3
      clear hO3 hb3 HO2 HB2 sg
      go_roundw
      case rel => exact ⟨k + 1, by omega, by go_num, HO3, HB3⟩
      case measure => simp [intOf]; omega
    · obtain rfl : k = n := by omega
      clear R
      go_wp2_with fail
      go_ret
      exact ⟨_, rfl, HO.out, HB.out⟩
set_option maxHeartbeats 4000000 in
theorem rdopen_any (h : RefW w base r n held left ver gb cb va vc) (ws : Nat → List (List UInt8)) (hws : ∀ i, i < n → (ver i).length = (ws i).length + 1) :
    Calls Tryz.prog 21 #[.pointer (some ⟨r, 0, none⟩)] w fun e w' => ∃ v, e = .returned v ∧ OwnNt w' w.heap.size v (openL ws n) ∧ Below w.heap.size w w' := by
  have hnn : (n : Int) ≤ 4096 := by have := h.at'.nn; omega
  have H : Hid _ := h
  have HY : Hid _ := hws
  obtain ⟨i0, hi, hz0, hz1, hz2⟩ := info_parts Tryz.infoNt
  clear h hws
  go_enter Tryz.func21, Tryz.ntmps21
  go_wp2_with fail
  go_loopw [3, 4] (fun v s wr => ∃ k : Nat, k ≤ n ∧ s = .int .i64 k ∧ Hid (OwnNt wr w.heap.size v (openL ws k)) ∧ Hid (Below w.heap.size w wr)) (fun _ s _ => n - (intOf s).toNat)
  case atStart => exact ⟨0, by omega, rfl, World.ownsRow_nil _ _ _ _, Below.refl _ _⟩
  case round =>
    obtain ⟨k, hk, rfl, HO, HB⟩ := hrel
    have R : RefW wr base r n held left ver gb cb va vc := H.out.below HB.out
    have c0 := R.at'.c0
    have hs := HB.out.size
    have hll := openL_len ws k
    by_cases hlt : (k : Int) < n
    · have WR := rwrites_in R.at' k (by omega)
      rw [show (((ver k).length : Int) - 1) = ((ws k).length : Int) from by rw [HY.out k (by omega)]; omega] at WR
      have HSN : Hid _ := openL_succ ws k
      clear R
      by_cases hpos : 0 < (ws k).length
      · have hpos' : (0 : Int) < (ws k).length := by omega
        go_wp2_with fail
        refine WR.mono ?_
        rintro e w2 ⟨rfl, rfl⟩
        clear WR c0
        go_wp2_with (first | (at_builtin; refine wpList_append_own _ rfl (.tmp 18) (.tmp 20) 49 rfl w.heap.size 3 i0 (.int .i64 0) 1 8 Tryz.underlying49 hi hz0 hz1 hz2 rfl (by decide) u3 _ _ rfl (World.ownsRow.alloc HO.out _) ⟨w2.heap.size, 0, none⟩ 1 1 [.int .i64 (k : Int)] rfl rfl (cell_one_new _ _ _) (by intro u hu; simp at hu; subst hu; rfl) (by unfold maxLen; omega) (by omega) (by simp; omega) ?_; intro v' w3 hown2 hgrow2 hnil2; clear hnil2))
        have hb2 : Below w.heap.size w w3 := (HB.out.alloc hs _).grown hgrow2 (by simp; omega) (fun j hj => (World.ownsRow.lt HO.out j hj).1)
        have hO2 : OwnNt w3 w.heap.size v' (openL ws (k + 1)) := by
          rw [HSN.out, if_pos hpos]
          unfold OwnNt
          rw [List.length_append, show ints (openL ws k ++ [k]) = ints (openL ws k) ++ [Value.int .i64 (k : Int)] from by simp [ints]]
          exact hown2
        clear hown2 hgrow2 HO HB
        go_roundw
        case rel => exact ⟨k + 1, by omega, by go_num, hO2, hb2⟩
        case measure => simp [intOf]; omega
      · have hz : (ws k).length = 0 := by omega
        rw [hz] at WR
        go_wp2_with fail
        refine WR.mono ?_
        rintro e w2 ⟨rfl, rfl⟩
        clear WR c0
        go_wp2
        go_roundw
        case rel => exact ⟨k + 1, by omega, by go_num, by show OwnNt _ _ _ _; rw [HSN.out, if_neg hpos, List.append_nil]; exact HO.out, HB⟩
        case measure => simp [intOf]; omega
    · obtain rfl : k = n := by omega
      clear R
      go_wp2_with fail
      go_ret
      exact ⟨_, rfl, HO.out, HB.out⟩
end
end Go.Proofs.YthaogbbclocmaaaGreat
