/- How both caches begin; leveelaw10.do for every kind of act. -/
import Derived.Test.YtikpnfnbmbaljaaJDSafe4
import Derived.Test.YtikpnfnbmbaljaaJZdo14
import Derived.Test.YtikpnfnbmbaljaaKCacts
namespace Go.Proofs.Ytikpnfnbmbaljaa
open Go.RowKit
set_option maxRecDepth 100000
set_option maxHeartbeats 1000000 in
theorem count_any (k n : Int) (w : World) (hk : -9223372036854775808 ≤ k ∧ k ≤ 9223372036854775807) (h1 : 1 ≤ n) (h2 : n ≤ 8000) :
    Calls Try.prog 4 #[.int .i64 k, .int .i64 n] w fun e w' => ∃ m : Nat, e = .returned (.int .i64 m) ∧ (m : Int) < n ∧ w' = w := by
  have e1 : k.tmod n = if 0 ≤ k then k % n else -((-k) % n) := by
    split
    · rw [Int.tmod_eq_emod_of_nonneg (by assumption)]
    · rw [← Int.tmod_eq_emod_of_nonneg (by omega), Int.neg_tmod, Int.neg_neg]
  have hb1 := Int.emod_nonneg k (show n ≠ 0 by omega)
  have hb2 := Int.emod_lt_of_pos k (show 0 < n by omega)
  have hb3 := Int.emod_nonneg (-k) (show n ≠ 0 by omega)
  have hb4 := Int.emod_lt_of_pos (-k) (show 0 < n by omega)
  have hr1 : -n < k.tmod n := by rw [e1]; split <;> omega
  have hr2 : k.tmod n < n := by rw [e1]; split <;> omega
  clear e1 hb1 hb2 hb3 hb4
  by_cases hneg : k.tmod n < 0
  · go_enter Try.func4, Try.ntmps4
    go_wp2
    go_ret
    exact ⟨(k.tmod n + n).toNat, by rw [Int.toNat_of_nonneg (by omega)]; rfl, by omega, rfl⟩
  · go_enter Try.func4, Try.ntmps4
    go_wp2
    go_ret
    exact ⟨(k.tmod n).toNat, by rw [Int.toNat_of_nonneg (by omega)]; rfl, by omega, rfl⟩
theorem cnew_no (w : World) (dp : Nat) (most : Int) (h : most < 1 ∨ 4096 < most) :
    Calls Try.prog 7 #[.pointer (some ⟨dp, 0, none⟩), .int .i64 most] w fun e w' => e = .returned (.tuple #[.pointer none, .int .i64 1]) ∧ w' = w := by
  by_cases m1 : most < 1
  · clear h
    go_enter Try.func7, Try.ntmps7
    go_wp2_with fail
    go_ret2
    exact ⟨rfl, rfl⟩
  · have m2 : (4096 : Int) < most := by omega
    clear h
    go_enter Try.func7, Try.ntmps7
    go_wp2_with fail
    go_ret2
    exact ⟨rfl, rfl⟩
theorem KX.start {w w1 w2 w3 w4 : World} {n dp dq p mb most gb cb : Nat} {va vc : Nat → Nat} (hn : 1 ≤ n ∧ n ≤ 8) (hD : DiskAt w1 w.heap.size dp n false 0 (fun _ => zer) (fun _ => []) dq (fun _ => .slice none 0 0)) (hb1 : Below w.heap.size w w1)
    (hR : RefW w2 w1.heap.size w1.heap.size n false 0 (fun _ => zer :: []) gb cb va vc) (hgb : w1.heap.size ≤ gb) (hva : ∀ i, i < n → w1.heap.size ≤ va i) (hb2 : Below w1.heap.size w1 w2)
    (hC : CS w3 w.heap.size ⟨p, mb, 0, .slice none 0 0, most, [], dp, n, dq, false, 0, fun _ => zer, fun _ => [], fun _ => .slice none 0 0⟩ []) (hp : w2.heap.size ≤ p) (hmb : w2.heap.size ≤ mb) (hb3 : Below w2.heap.size w2 w3)
    (hQ : QC w4 w3.heap.size w1.heap.size most (.slice none 0 0) []) (hb4 : Below w3.heap.size w3 w4) :
    KX dp n w w4 p w3.heap.size w1.heap.size ⟨p, mb, 0, .slice none 0 0, most, [], dp, n, dq, false, 0, fun _ => zer, fun _ => [], fun _ => .slice none 0 0⟩ 0 (fun k => k = w3.heap.size ∨ Rk w1.heap.size gb n va k) := by
  have z1 := hb1.size
  have z2 := hb2.size
  have z3 := hb3.size
  have z4 := hb4.size
  have hrk : ∀ k, Rk w1.heap.size gb n va k → w1.heap.size ≤ k ∧ k < w2.heap.size := fun k hk => by
    rcases hk with e | e | ⟨i, hi, e⟩
    · rw [e]; exact ⟨Nat.le_refl _, hR.rl⟩
    · rw [e]; exact ⟨hgb, hR.at'.gl⟩
    · rw [← e]; exact ⟨hva i hi, (hR.at'.row i hi).2.1⟩
  have hw4 : w3.heap.size < w4.heap.size := hQ.ql
  refine ⟨hC.up hb4, hb1.trans ((hb2.mono z1).trans ((hb3.mono (by omega)).trans (hb4.mono (by omega)))), rfl, rfl, rfl, hn, Nat.zero_le _, ⟨Nat.le_refl _, fun _ => Nat.le_refl _⟩, ⟨rfl, rfl⟩, ⟨.slice none 0 0, _, _, gb, cb, va, vc, hQ, hR.below (hb3.trans (hb4.mono (by omega))), fun _ _ => rfl, fun k hk => ⟨by have := hrk k hk; omega, fun e => by cases e⟩, fun k hk => ?_⟩, fun k hk => ?_⟩
  · rcases hk with e | e | e
    · exact .inl e
    · cases e
    · exact .inr e
  · rcases hk with e | e
    · refine ⟨fun hs => ?_, by omega, by omega⟩
      have := hC.sk_size hs
      omega
    · have h2 := hrk k e
      refine ⟨fun hs => ?_, by omega, by omega⟩
      rcases hs with (hs | hs | hs | ⟨x, hx, _⟩) | hs
      · have hs' : k = p := hs
        omega
      · have hs' : k = mb := hs
        omega
      · cases hs
      · cases hx
      · have := hD.dk_lt hs
        omega
section
variable {pd n : Nat} {w0 w : World} {p q ed : Nat} {σ : CSt} {κ : Nat} {D : Nat → Prop}
theorem cdo_any (h : KX pd n w0 w p q ed σ κ D) (hκ : κ ≤ 900) (K B : Int) (hB : -9223372036854775808 ≤ B ∧ B ≤ 9223372036854775807) (sp : Option Addr) (cap : Nat) (l : List UInt8) (ha : Arg w0 sp cap l) :
    Calls Try.prog 10 #[.pointer (some ⟨p, 0, none⟩), .pointer (some ⟨q, 0, none⟩), .agg #[.int .i64 K, .int .i64 B, .slice sp l.length cap]] w fun e w' => e = .returned (.bool true) ∧ DoP pd n w0 p q ed (κ + 1) w' := by
  have hab : 1 ≤ l.length → ∀ b o, sp = some ⟨b, o, none⟩ → b < w0.heap.size := fun hl b o e => by
    rcases ha.src with h1 | ⟨b', o', h1, h2, _⟩
    · rw [h1] at hl; simp at hl
    · rw [h1] at e; cases e; exact h2
  by_cases h0 : K < 0
  · exact cdo_lo h hκ K h0 B hB sp cap l ha hab
  by_cases h1 : 11 < K
  · exact cdo_hi h hκ K h1 B hB sp cap l ha hab
  have hc : K = 0 ∨ K = 1 ∨ K = 2 ∨ K = 3 ∨ K = 4 ∨ K = 5 ∨ K = 6 ∨ K = 7 ∨ K = 8 ∨ K = 9 ∨ K = 10 ∨ K = 11 := by omega
  rcases hc with rfl | rfl | rfl | rfl | rfl | rfl | rfl | rfl | rfl | rfl | rfl | rfl
  · exact cdo_0 h hκ B hB sp cap l ha hab
  · exact cdo_1 h hκ B hB sp cap l ha hab
  · exact cdo_2 h hκ B hB sp cap l ha hab
  · exact cdo_3 h hκ B hB sp cap l ha hab
  · exact cdo_4 h hκ B hB sp cap l ha hab
  · exact cdo_5 h hκ B hB sp cap l ha hab
  · exact cdo_6 h hκ B hB sp cap l ha hab
  · exact cdo_7 h hκ B hB sp cap l ha hab
  · exact cdo_8 h hκ B hB sp cap l ha hab
  · exact cdo_9 h hκ B hB sp cap l ha hab
  · exact cdo_10 h hκ B hB sp cap l ha hab
  · exact cdo_11 h hκ B hB sp cap l ha hab
end
end Go.Proofs.Ytikpnfnbmbaljaa
/- Slices of calls that came in: leveelaw10.Act, each with a bound on its bytes. -/
namespace Go.Proofs.Ytikpnfnbmbaljaa
open Go.ChangeShapes Go.WideShapes Go.ChangeAt Go.RowKit
set_option maxRecDepth 100000
theorem weightsAll_in {H : Type} {P : Program} {e : TypeId} : ∀ {l : List (DataW H)} {d : DataW H}, d ∈ l → ∀ n ∈ d.weights P e, n ∈ DataW.weightsAll P e l
  | d' :: r, d, hd, n, hn => by
    simp only [DataW.weightsAll, List.mem_append]
    rcases List.mem_cons.1 hd with rfl | h
    · exact Or.inl hn
    · exact Or.inr (weightsAll_in h n hn)
theorem trod_struct3x {H : Type} {enc : TypeId × Value → H} {W : World} {t : TypeId} {f0 f1 f2 : Field} {fuel : Nat} {cs : List Value} {x : DataW H × List MemPlace} (ht : Try.prog.underlying t = some (.struct #[f0, f1, f2])) (h : DataW.trod enc Try.prog W 0 (fun _ => true) true fuel t cs = some x) :
    ∃ y0 y1 y2 n, x.1 = .agg [y0.1, y1.1, y2.1] ∧ cs.length = Try.prog.cellsOf t ∧ DataW.trod enc Try.prog W 0 (fun _ => true) true n f0.type ((cs.drop f0.offset).take (Try.prog.cellsOf f0.type)) = some y0 ∧
      DataW.trod enc Try.prog W 0 (fun _ => true) true n f1.type ((cs.drop f1.offset).take (Try.prog.cellsOf f1.type)) = some y1 ∧ DataW.trod enc Try.prog W 0 (fun _ => true) true n f2.type ((cs.drop f2.offset).take (Try.prog.cellsOf f2.type)) = some y2 := by
  obtain ⟨xs, n, _, rfl, hl, hlen, hf⟩ := DataW.trod_struct ht h
  match xs, hlen with
  | [y0, y1, y2], _ => exact ⟨y0, y1, y2, n, rfl, hl, by simpa using hf 0 f0 rfl, by simpa using hf 1 f1 rfl, by simpa using hf 2 f2 rfl⟩
theorem open_data2 {H : Type} {enc : TypeId × Value → H} {W : World} {fuel : Nat} {v : Value} {x : DataW H × List MemPlace}
    (h : DataW.trod enc Try.prog W 0 (fun _ => true) true fuel 39 [v] = some x) (hw : ∀ n ∈ x.1.weights Try.prog 39, n ≤ reachBytes) : ∃ sp cap, ∃ l : List UInt8, v = .slice sp l.length cap ∧ Arg W sp cap l := by
  rcases open_ints Try.underlying39 Try.underlying5 (by kernel_rfl) h with ⟨hcs, _⟩ | ⟨x, l, c, zs, hcs, _, hl, hm, hz, hx, hcell, hwz⟩
  · simp at hcs
    subst hcs
    exact ⟨none, 0, [], rfl, .inl ⟨rfl, rfl⟩⟩
  · simp at hcs
    subst hcs
    simp only [if_true] at hz
    have hs : ((lits .u8 (zs.take l)).length + (lits .u8 (zs.drop l)).length) * Try.prog.bytesOf 5 ≤ reachBytes := hw _ (by
      rw [hx]
      simp only [DataW.weights, Try.underlying39, List.mem_cons]
      exact .inl rfl)
    rw [bytes5] at hs
    simp only [lits, List.length_map, List.length_take, List.length_drop, reachBytes] at hs
    have hlen : ((zs.take l).map fun z => UInt8.ofNat z.toNat).length = l := by simp; omega
    refine ⟨some x, c, (zs.take l).map fun z => UInt8.ofNat z.toNat, by rw [hlen], ?_⟩
    by_cases hc : c = 0
    · exact .inl ⟨hc, List.eq_nil_of_length_eq_zero (by rw [hlen]; omega)⟩
    · obtain ⟨b, off, rfl, hc2⟩ := ints_at hcell (by omega)
      refine .inr ⟨b, off, rfl, by omega, by rw [hlen]; exact hl, by unfold maxLen at hm; omega, by rw [hlen]; omega, .inr ⟨b, off, rfl, block_lt_of_cell (hc2 0 (by omega)), fun j hj => ?_⟩⟩
      rw [hlen] at hj
      rw [hc2 j (by omega)]
      have hjz : j < zs.length := by omega
      simp only [bv, List.getElem_map, List.getElem_take]
      rw [byteLit (hwz _ (List.getElem_mem hjz))]
      simp [hjz]
/-- A slice of m calls, each with bytes that the memory holds. -/
def ActsAt3 (w : World) (sp : Option Addr) (m : Nat) (A : Acts) : Prop :=
  0 < m → ∃ b off, sp = some ⟨b, off, none⟩ ∧ b < w.heap.size ∧ ∀ k, k < m → w.cell? ⟨b, off + k * 3, none⟩ = some (.int .i64 (A.K k)) ∧ w.cell? ⟨b, off + k * 3 + 1, none⟩ = some (.int .i64 (A.N k)) ∧ w.cell? ⟨b, off + k * 3 + 2, none⟩ = some (.slice (A.P k) (A.D k).length (A.C k)) ∧ (-9223372036854775808 ≤ A.N k ∧ A.N k ≤ 9223372036854775807) ∧ (-9223372036854775808 ≤ A.K k ∧ A.K k ≤ 9223372036854775807) ∧ Arg w (A.P k) (A.C k) (A.D k)
theorem open_acts3 {H : Type} {enc : TypeId × Value → H} {W : World} {base : Nat} {v : Value} {d : DataW H} {p : List MemPlace}
    (hv : Value.okWide Try.prog W .any base 22 v) (h : DataW.Trod enc Try.prog W 0 (fun _ => true) true 22 v d p) (hw : ∀ n ∈ d.weights Try.prog 22, n ≤ reachBytes) :
    ∃ sp m cap, ∃ A : Acts, v = .slice sp m cap ∧ (m ≤ cap ∧ (cap : Int) ≤ 9223372036854775807 ∧ ActsAt3 W sp m A) := by
  obtain ⟨a0, len0, cap0, rfl⟩ := okWide_slice Try.underlying22 hv
  obtain ⟨fuel, hf⟩ := h
  have hce : Try.prog.cellsOf 41 = 3 := by kernel_rfl
  have hc3 : Try.prog.cellsOf 3 = 1 := by kernel_rfl
  have hc4 : Try.prog.cellsOf 39 = 1 := by kernel_rfl
  obtain ⟨f0, f1, f2, hu, ⟨t0, o0⟩, ⟨t1, o1⟩, ⟨t2, o2⟩⟩ := act_fields
  rcases Deep.open_slice Try.underlying22 hf with ⟨hcs, _⟩ | ⟨x, len, cap, m, n, D, Pl, hcs, _, hl, hm, hmm, hx, hel⟩
  · simp [Value.cells] at hcs
    obtain ⟨rfl, rfl, rfl⟩ := hcs
    exact ⟨none, 0, 0, ⟨fun _ => 0, fun _ => 0, fun _ => none, fun _ => [], fun _ => 0⟩, rfl, Nat.le_refl _, by omega, fun h => by omega⟩
  · simp [Value.cells] at hcs
    obtain ⟨rfl, rfl, rfl⟩ := hcs
    simp only [if_true] at hmm
    subst hmm
    have each : ∀ i, i < len0 → ∃ q : Int × Int × Option Addr × List UInt8 × Nat, W.cell? ((x.add (i * 3)).add 0) = some (.int .i64 q.1) ∧ W.cell? ((x.add (i * 3)).add 1) = some (.int .i64 q.2.1) ∧ W.cell? ((x.add (i * 3)).add 2) = some (.slice q.2.2.1 q.2.2.2.1.length q.2.2.2.2) ∧ (-9223372036854775808 ≤ q.2.1 ∧ q.2.1 ≤ 9223372036854775807) ∧ (-9223372036854775808 ≤ q.1 ∧ q.1 ≤ 9223372036854775807) ∧ Arg W q.2.2.1 q.2.2.2.2 q.2.2.2.1 := by
      intro i hi
      obtain ⟨cs', h1, h2⟩ := hel i (by omega)
      rw [hce] at h1
      obtain ⟨_, hlen, hcell⟩ := World.cells?_some h1
      obtain ⟨y0, y1, y2, k, hxe, _, g0, g1, g2⟩ := trod_struct3x hu h2
      obtain ⟨v0, v1, v2, rfl⟩ := three_of hlen
      rw [t0, o0, hc3] at g0
      rw [t1, o1, hc3] at g1
      rw [t2, o2, hc4] at g2
      obtain ⟨n0, e0, _, w0⟩ := DataW.trod_int Try.underlying3 g0
      obtain ⟨n1, e1, _, w1⟩ := DataW.trod_int Try.underlying3 g1
      obtain ⟨sd, cd, ld, e2, hag⟩ := open_data2 (v := v2) (x := y2) (by simpa using g2) (fun n hn => hw n (by
        simp only [Prod.mk.injEq] at hx
        rw [hx.1]
        simp only [DataW.weights, Try.underlying22, List.mem_cons, List.mem_append]
        refine .inr (.inl (weightsAll_in (List.mem_map.2 ⟨i, List.mem_range.2 hi, rfl⟩) n ?_))
        rw [show D i = _ from hxe]
        simp only [DataW.weights, hu, DataW.weightsEach, List.map_cons, List.mem_append, t2]
        exact .inr (.inr (.inl hn))))
      simp at e0 e1
      subst e0 e1 e2
      have bd := bounds_i64 w1
      have bd0 := bounds_i64 w0
      exact ⟨(n0, n1, sd, ld, cd), by simpa using hcell 0 (by omega), by simpa using hcell 1 (by omega), by simpa using hcell 2 (by omega), ⟨bd.1, (show n1 ≤ 9223372036854775807 by omega)⟩, ⟨bd0.1, (show n0 ≤ 9223372036854775807 by omega)⟩, hag⟩
    obtain ⟨q, hq⟩ := Deep.choose_lt (α := Int × Int × Option Addr × List UInt8 × Nat) each
    refine ⟨some x, len0, m, ⟨fun k => (q k).1, fun k => (q k).2.1, fun k => (q k).2.2.1, fun k => (q k).2.2.2.1, fun k => (q k).2.2.2.2⟩, rfl, hl, by unfold maxLen at hm; omega, fun h0 => ?_⟩
    have hsp : x.spot = none := by
      have h1 := (hq 0 h0).1
      simpa [Addr.add] using World.cell?_spot h1
    obtain ⟨b, off, rfl⟩ : ∃ b off, x = ⟨b, off, none⟩ := ⟨x.block, x.off, by cases x; simp_all⟩
    refine ⟨b, off, rfl, ?_, fun k hk => ?_⟩
    · have h1 := (hq 0 h0).1
      rw [addr_add, addr_add] at h1
      exact block_lt_of_cell h1
    · obtain ⟨c0, c1, c2, rest⟩ := hq k hk
      rw [addr_add, addr_add] at c0 c1 c2
      exact ⟨c0, c1, c2, rest⟩
end Go.Proofs.Ytikpnfnbmbaljaa
