/- The walk of leveelaw06.GroupUses: the loop. -/
import Derived.Test.YtfbbdpapnegmcaaGmath
import Derived.Test.YtfbbdpapnegmcaaActs
import Derived.Deep.DeepCutAuto
import Derived.Deep.LoopGhost
namespace Go.Proofs.Ytfbbdpapnegmcaa
open Go.RowKit
theorem callH2 {P : Program} {ops : Array Oper} {md : Region.Mode} {Q : Exit → Act → World → Prop} {S : World → Prop} {i j : Nat} (oi oj : Oper) {fuel : Nat} {listed l2 l3 : Array Bool} {a : Act} {w : World} (hr : Region.ready md ops listed = [i, j]) (hi : ops[i]? = some oi) (hj : ops[j]? = some oj) (hl2 : listed.setIfInBounds i true = l2) (hl3 : listed.setIfInBounds j true = l3)
    (h1 : ∀ K : Act → World → Prop, Shut (∀ a w, S w → (S w → wpAnyH P md ops Q S fuel l2 a w) → K a w) → if Region.wanted oi (yielded ops a.tmps) = true then Oper.wp P oi a w K Q else K (a.put oi.dst undef) w)
    (h2 : ∀ K : Act → World → Prop, Shut (∀ a w, S w → (S w → wpAnyH P md ops Q S fuel l3 a w) → K a w) → if Region.wanted oj (yielded ops a.tmps) = true then Oper.wp P oj a w K Q else K (a.put oj.dst undef) w) : wpAnyH P md ops Q S (fuel + 1) listed a w :=
  wpAnyH_ready hr (by simp) (AllReadyH.cons hi (fun K hK => h1 K (by rw [← hl2]; exact hK)) (AllReadyH.cons hj (fun K hK => h2 K (by rw [← hl3]; exact hK)) AllReadyH.nil))
theorem wp_store_head {op : Oper} {a : Act} {w : World} {K : Act → World → Prop} {Q : Exit → Act → World → Prop} (x y : Operand) (ho : op.op = .store 28 x y)
    {p : Nat} {no no2 : Int} {bl sl bl2 sl2 : List UInt8} (H : HeadAt w p no bl sl) (hb2 : bl2.length = 16) (hs2 : sl2.length = 8) (hx : a.eval x = .pointer (some ⟨p, 0, none⟩)) (hy : a.eval y = .agg (hA no2 bl2 sl2))
    (h : ∀ w', HeadAt w' p no2 bl2 sl2 → Below p w w' → w'.heap.size = w.heap.size → K (a.put op.dst undef) w') : op.wp Try.prog a w K Q := by
  have hrun := run_storeVar_row (P := Try.prog) w p 28 28 (hA no bl sl) (hA no2 bl2 sl2) H.row (by rw [Try.sz28, hA_size hb2 hs2]) (by rw [hA_size H.lb H.ls, hA_size hb2 hs2]) (hA_one _ _ _)
  unfold Oper.wp execOp
  simp only [ho, hx, hy, Instr.storeAt, Instr.sureAddr, Sem.run_bind, Sem.run_pure, Result.andThen_ok, hrun]
  exact h _ ⟨setRow_heap w p _ _ 28 _ H.row, hb2, hs2⟩ (below_setRow (Below.refl _ _) (Nat.le_refl _) _) (by simp)
theorem wpList_neq_headG {ops : Array Oper} {rest : List Oper} {op : Oper} {a : Act} {w : World} {Q : Exit → Act → World → Prop} (hw : Region.wanted op (yielded ops a.tmps) = true) (x y : Operand) (ho : op.op = .binOp .neq 28 x y 28)
    {no no2 : Int} {bl sl bl2 sl2 : List UInt8} (hx : a.eval x = .agg (hA no bl sl)) (hy : a.eval y = .agg (hA no2 bl2 sl2)) (hb : bl.length = 16) (hs : sl.length = 8) (hb2 : bl2.length = 16) (hs2 : sl2.length = 8) {b : Bool} (he : (!eqB no no2 bl bl2 sl sl2) = b)
    (h : wpList Try.prog ops Q rest (a.put op.dst (.bool b)) w) : wpList Try.prog ops Q (op :: rest) a w := by
  subst he
  refine wpList_want hw fun K hK => ?_
  have hg : ∀ X Y (w : World), (eqGuard .neq 28 x y (.agg X) (.agg Y)).run Try.prog w = .ok () w := fun X Y w => run_eqGuard_agg w .neq 28 x y X Y (by kernel_rfl)
  unfold Oper.wp execOp
  simp only [ho, hx, hy]
  simp [hg, run_neq_struct, run_eq_head hb hs hb2 hs2, Result.andThen]
  exact hK _ _ h
/-- A shape lies at the first place, a header at q. -/
structure PW (w0 : World) (a i n no : Int) (bl sl : List UInt8) (q : Nat) (W : World) : Prop where
  geo : Lies w0 w0.heap.size a i n W
  head : HeadAt W q no bl sl
  lt : w0.heap.size < q
section
variable {w0 W W' : World} {a i n no : Int} {bl sl : List UInt8} {q : Nat}
theorem lies_below (h : Lies w0 w0.heap.size a i n W) {B : Nat} (hb : Below B W W') (hB : w0.heap.size < B) : Lies w0 w0.heap.size a i n W' :=
  ⟨(hb.cell (p := ⟨w0.heap.size, 0, none⟩) hB).trans h.1, (hb.cell (p := ⟨w0.heap.size, 1, none⟩) hB).trans h.2.1, (hb.cell (p := ⟨w0.heap.size, 2, none⟩) hB).trans h.2.2.1, h.2.2.2.trans (hb.mono (by omega))⟩
theorem PW.below (h : PW w0 a i n no bl sl q W) {B : Nat} (hb : Below B W W') (hB : q < B) : PW w0 a i n no bl sl q W' :=
  ⟨lies_below h.geo hb (by have := h.lt; omega), h.head.below hb hB, h.lt⟩
theorem PW.up (h : PW w0 a i n no bl sl q W) (hb : Below W.heap.size W W') : PW w0 a i n no bl sl q W' := h.below hb h.head.lt
theorem PW.lq (h : PW w0 a i n no bl sl q W) : q < W.heap.size := h.head.lt
theorem PW.set (h : PW w0 a i n no bl sl q W) {no2 : Int} {bl2 sl2 : List UInt8} (hb : Below q W W') (hh : HeadAt W' q no2 bl2 sl2) : PW w0 a i n no2 bl2 sl2 q W' := ⟨lies_below h.geo hb h.lt, hh, h.lt⟩
end
/-- What a use of any number answers: an error, or a header that can be. -/
theorem useBlock_all (a i n no k : Int) (on : Bool) (bl sl : List UInt8) (hb : bl.length = 16) (hs : sl.length = 8) (hr : rgB a i n no bl sl = true) (W : World) :
    Calls Try.prog 20 #[.agg #[.int .i64 a, .int .i64 i, .int .i64 n], .agg (hA no bl sl), .int .i64 k, .bool on] W fun e w' => ∃ no2 bl2 sl2 er, e = .returned (.tuple #[.agg (hA no2 bl2 sl2), .int .i64 er]) ∧ bl2.length = 16 ∧ sl2.length = 8 ∧ (er = 0 → no2 = no ∧ rgB a i n no bl2 sl2 = true) ∧ Below W.heap.size W w' := by
  by_cases h : k < (kbl i : Nat) ∨ a ≤ k
  · exact (useBlock_range a i n no k on bl sl hb hs hr h W).mono fun _ _ ⟨h1, h2⟩ => ⟨_, _, _, _, h1, rfl, rfl, fun e => by omega, h2⟩
  · obtain ⟨m, rfl⟩ := Int.eq_ofNat_of_zero_le (show 0 ≤ k by omega)
    cases hq : (gb bl m == on)
    · exact (useBlock_ok a i n no m on bl sl hb hs hr (by omega) (by omega) hq W).mono fun _ _ ⟨h1, h2⟩ => ⟨_, _, _, _, h1, by rw [setb_length]; exact hb, hs, fun _ => ⟨rfl, rgB_setB hb hs hr (by omega) (by omega)⟩, h2⟩
    · exact (useBlock_same a i n no m on bl sl hb hs hr (by omega) (by omega) hq W).mono fun _ _ ⟨h1, h2⟩ => ⟨_, _, _, _, h1, rfl, rfl, fun e => by omega, h2⟩
theorem useSlot_all (a i n no k : Int) (on : Bool) (bl sl : List UInt8) (hb : bl.length = 16) (hs : sl.length = 8) (hr : rgB a i n no bl sl = true) (W : World) :
    Calls Try.prog 22 #[.agg #[.int .i64 a, .int .i64 i, .int .i64 n], .agg (hA no bl sl), .int .i64 k, .bool on] W fun e w' => ∃ no2 bl2 sl2 er, e = .returned (.tuple #[.agg (hA no2 bl2 sl2), .int .i64 er]) ∧ bl2.length = 16 ∧ sl2.length = 8 ∧ (er = 0 → no2 = no ∧ rgB a i n no bl2 sl2 = true) ∧ Below W.heap.size W w' := by
  by_cases h : k < (ksl no : Nat) ∨ i ≤ k
  · exact (useSlot_range a i n no k on bl sl hb hs hr h W).mono fun _ _ ⟨h1, h2⟩ => ⟨_, _, _, _, h1, rfl, rfl, fun e => by omega, h2⟩
  · obtain ⟨m, rfl⟩ := Int.eq_ofNat_of_zero_le (show 0 ≤ k by omega)
    cases hq : (gb sl m == on)
    · exact (useSlot_ok a i n no m on bl sl hb hs hr (by omega) (by omega) hq W).mono fun _ _ ⟨h1, h2⟩ => ⟨_, _, _, _, h1, hb, by rw [setb_length]; exact hs, fun _ => ⟨rfl, rgB_setS hb hs hr (by omega) (by omega)⟩, h2⟩
    · exact (useSlot_same a i n no m on bl sl hb hs hr (by omega) (by omega) hq W).mono fun _ _ ⟨h1, h2⟩ => ⟨_, _, _, _, h1, rfl, rfl, fun e => by omega, h2⟩
end Go.Proofs.Ytfbbdpapnegmcaa
