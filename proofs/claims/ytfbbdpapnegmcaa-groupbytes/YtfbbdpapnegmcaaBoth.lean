/- The program's calls beside the document's. -/
import Derived.Test.YtfbbdpapnegmcaaRfresh
namespace Go.Proofs.Ytfbbdpapnegmcaa
open Go.RowKit
/-- Nothing but block q has changed. -/
structure Only (q : Nat) (W W' : World) : Prop where
  bel : Below q W W'
  blk : ∀ j, j ≠ q → W'.heap[j]? = W.heap[j]?
section
variable {w0 W W' : World} {q p : Nat}
theorem Only.cell (h : Only q W W') {a : Addr} (ha : a.block ≠ q) : W'.cell? a = W.cell? a := World.cell?_of_block (w := W) (h.blk _ ha)
theorem HeadAt.only {no : Int} {bl sl : List UInt8} (h : HeadAt W p no bl sl) (ho : Only q W W') (hp : p ≠ q) : HeadAt W' p no bl sl := ⟨by rw [ho.blk p hp]; exact h.row, h.lb, h.ls⟩
theorem Row3.only {t : TypeId} {x y z : Value} (h : Row3 W p t x y z) (ho : Only q W W') (hp : p ≠ q) : Row3 W' p t x y z := by unfold Row3; rw [ho.blk p hp]; exact h
theorem Src.only {sp : Option Addr} {l : List UInt8} (h : Src W sp l) (ho : Only q W W') (hp : ∀ b off, sp = some ⟨b, off, none⟩ → b ≠ q) : Src W' sp l := by
  rcases h with h | ⟨b, off, h1, h2, h3⟩
  · exact .inl h
  · exact .inr ⟨b, off, h1, by have := ho.bel.size; omega, fun k hk => (ho.cell (a := ⟨b, off + k, none⟩) (hp b off h1)).trans (h3 k hk)⟩
theorem Arg.only {sp : Option Addr} {cap : Nat} {l : List UInt8} (h : Arg W sp cap l) (ho : Only q W W') (hp : ∀ b off, sp = some ⟨b, off, none⟩ → b ≠ q) : Arg W' sp cap l := by
  rcases h with h | ⟨b, off, h1, h2, h3, h4, h5, h6⟩
  · exact .inl h
  · exact .inr ⟨b, off, h1, h2, h3, h4, h5, h6.only ho hp⟩
theorem only_set3 (W : World) (q : Nat) (x y z : Value) : Only q W (((W.setCell ⟨q, 0, none⟩ x).setCell ⟨q, 1, none⟩ y).setCell ⟨q, 2, none⟩ z) :=
  ⟨below_set3 (Below.refl q W) (Nat.le_refl _) _ _ _, fun j hj => by rw [heap_setCell_other _ ⟨q, 2, none⟩ j z hj, heap_setCell_other _ ⟨q, 1, none⟩ j y hj, heap_setCell_other _ ⟨q, 0, none⟩ j x hj]⟩
theorem only_setRow (W : World) (q : Nat) (cs : Array Value) : Only q W (W.setRow q cs) :=
  ⟨below_setRow (Below.refl _ _) (Nat.le_refl _) _, fun j hj => by
    show (W.heap.modify q _)[j]? = _
    rw [Array.getElem?_modify, if_neg (fun e => hj e.symm)]⟩
end
/-- The store of a whole header: nothing else changes. -/
theorem wpList_store_headO {ops : Array Oper} {rest : List Oper} {op : Oper} {a : Act} {w : World} {Q : Exit → Act → World → Prop} (hgd : op.guard = none) (x y : Operand) (ho : op.op = .store 28 x y)
    {p : Nat} {no no2 : Int} {bl sl bl2 sl2 : List UInt8} (H : HeadAt w p no bl sl) (hb2 : bl2.length = 16) (hs2 : sl2.length = 8) (hx : a.eval x = .pointer (some ⟨p, 0, none⟩)) (hy : a.eval y = .agg (hA no2 bl2 sl2))
    (h : ∀ w', HeadAt w' p no2 bl2 sl2 → Only p w w' → w'.heap.size = w.heap.size → wpList Try.prog ops Q rest (a.put op.dst undef) w') : wpList Try.prog ops Q (op :: rest) a w := by
  refine wpList_plain hgd fun K hK => ?_
  have hrun := run_storeVar_row (P := Try.prog) w p 28 28 (hA no bl sl) (hA no2 bl2 sl2) H.row (by rw [Try.sz28, hA_size hb2 hs2]) (by rw [hA_size H.lb H.ls, hA_size hb2 hs2]) (hA_one _ _ _)
  unfold Oper.wp execOp
  simp only [ho, hx, hy, Instr.storeAt, Instr.sureAddr, Sem.run_bind, Sem.run_pure, Result.andThen_ok, hrun]
  exact hK _ _ (h _ ⟨setRow_heap w p _ _ 28 _ H.row, hb2, hs2⟩ (only_setRow _ _ _) (by simp))
/-- An address that is none of two blocks. -/
def Off2 (sp : Option Addr) (q r : Nat) : Prop := ∀ b off, sp = some ⟨b, off, none⟩ → b ≠ q ∧ b ≠ r
theorem Off2.l {sp : Option Addr} {q r : Nat} (h : Off2 sp q r) : ∀ b off, sp = some ⟨b, off, none⟩ → b ≠ q := fun b off e => (h b off e).1
theorem Off2.r {sp : Option Addr} {q r : Nat} (h : Off2 sp q r) : ∀ b off, sp = some ⟨b, off, none⟩ → b ≠ r := fun b off e => (h b off e).2
/-- An address that is none of some blocks. -/
def OffS (sp : Option Addr) (S : Nat → Prop) : Prop := ∀ b off, sp = some ⟨b, off, none⟩ → ¬ S b
/-- What a call that changes a header, and the document's, come to. -/
structure Both (a i n no : Int) (S : Nat → Prop) (er no2 : Int) (bl2 sl2 : List UInt8) (x0 : Int) (p3 : Option Addr) (n3 c3 : Nat) (p4 : Option Addr) (n4 c4 : Nat) (W : World) : Prop where
  yes : er = 0 → no2 = no ∧ x0 = no ∧ n3 = 16 ∧ n4 = 8 ∧ rgB a i n no bl2 sl2 = true ∧ Arg W p3 c3 bl2 ∧ Arg W p4 c4 sl2 ∧ OffS p3 S ∧ OffS p4 S
  not : er ≠ 0 → no2 = 0 ∧ bl2 = z16 ∧ sl2 = z8
theorem Both.up {a i n no : Int} {S : Nat → Prop} {er no2 : Int} {bl2 sl2 : List UInt8} {x0 : Int} {p3 : Option Addr} {n3 c3 : Nat} {p4 : Option Addr} {n4 c4 : Nat} {W W' : World} (h : Both a i n no S er no2 bl2 sl2 x0 p3 n3 c3 p4 n4 c4 W) (hb : Below W.heap.size W W') : Both a i n no S er no2 bl2 sl2 x0 p3 n3 c3 p4 n4 c4 W' :=
  ⟨fun e => by obtain ⟨h1, h2, h3, h4, h5, h6, h7, h8⟩ := h.yes e; exact ⟨h1, h2, h3, h4, h5, h6.below hb (Nat.le_refl _), h7.below hb (Nat.le_refl _), h8⟩, h.not⟩
theorem Both.only {a i n no : Int} {S : Nat → Prop} {er no2 : Int} {bl2 sl2 : List UInt8} {x0 : Int} {p3 : Option Addr} {n3 c3 : Nat} {p4 : Option Addr} {n4 c4 : Nat} {W W' : World} {p : Nat} (h : Both a i n no S er no2 bl2 sl2 x0 p3 n3 c3 p4 n4 c4 W) (ho : Only p W W') (hp : S p) : Both a i n no S er no2 bl2 sl2 x0 p3 n3 c3 p4 n4 c4 W' :=
  ⟨fun e => by
    obtain ⟨h1, h2, h3, h4, h5, h6, h7, h8, h9⟩ := h.yes e
    exact ⟨h1, h2, h3, h4, h5, h6.only ho (fun b off e hb => h8 b off e (by rw [hb]; exact hp)), h7.only ho (fun b off e hb => h9 b off e (by rw [hb]; exact hp)), h8, h9⟩, h.not⟩
theorem same_both {a i n no : Int} {S : Nat → Prop} {er no2 : Int} {bl2 sl2 : List UInt8} {x0 : Int} {p3 : Option Addr} {n3 c3 : Nat} {p4 : Option Addr} {n4 c4 : Nat} {W : World} (hb2 : bl2.length = 16) (hs2 : sl2.length = 8) (h : Both a i n no S er no2 bl2 sl2 x0 p3 n3 c3 p4 n4 c4 W) :
    Calls Try.prog 15 #[.agg (hA no2 bl2 sl2), .int .i64 er, .agg #[.int .i64 x0, .slice p3 n3 c3, .slice p4 n4 c4], .int .i64 er] W fun e w' => e = .returned (.bool true) ∧ Below W.heap.size W w' := by
  by_cases he : er = 0
  · obtain ⟨rfl, rfl, rfl, rfl, _, h1, h2, _⟩ := h.yes he
    subst he
    exact same_yes x0 bl2 sl2 p3 p4 c3 c4 hb2 hs2 W h1.src h2.src
  · obtain ⟨rfl, rfl, rfl⟩ := h.not he
    exact same_no er he _ _ _ W
theorem useBlock_both (a i n no k : Int) (on : Bool) (bl sl : List UInt8) (S : Nat → Prop) (spb sps : Option Addr) (capb caps : Nat) (hb : bl.length = 16) (hs : sl.length = 8) (hr : rgB a i n no bl sl = true) (_ob : OffS spb S) (os : OffS sps S) :
    ∃ er no2 bl2 sl2, bl2.length = 16 ∧ sl2.length = 8 ∧ (∀ W, Calls Try.prog 20 #[.agg #[.int .i64 a, .int .i64 i, .int .i64 n], .agg (hA no bl sl), .int .i64 k, .bool on] W fun e w' => e = .returned (.tuple #[.agg (hA no2 bl2 sl2), .int .i64 er]) ∧ Below W.heap.size W w') ∧
      (∀ W, Arg W spb capb bl → Arg W sps caps sl → (∀ j, S j → j < W.heap.size) → Calls Try.prog 21 #[.agg #[.int .i64 a, .int .i64 i, .int .i64 n], .agg #[.int .i64 no, .slice spb 16 capb, .slice sps 8 caps], .int .i64 k, .bool on] W fun e w' => ∃ x0 p3 n3 c3 p4 n4 c4, e = .returned (.tuple #[.agg #[.int .i64 x0, .slice p3 n3 c3, .slice p4 n4 c4], .int .i64 er]) ∧ Both a i n no S er no2 bl2 sl2 x0 p3 n3 c3 p4 n4 c4 w' ∧ Below W.heap.size W w') := by
  obtain ⟨hok, _, _⟩ := rgB_ok hr
  have hbx := hok.box
  obtain ⟨ke, kl⟩ := kbl_of hok
  by_cases h : k < (kbl i : Nat) ∨ a ≤ k
  · exact ⟨3, 0, z16, z8, rfl, rfl, fun W => useBlock_range a i n no k on bl sl hb hs hr h W, fun W hab has _ => (ruseBlock_range a i n no k on bl sl spb sps capb caps hb hs hr (by omega) W hab has).mono fun _ _ ⟨h1, h2⟩ => ⟨_, _, _, _, _, _, _, h1, ⟨fun e => by omega, fun _ => ⟨rfl, rfl, rfl⟩⟩, h2⟩⟩
  · obtain ⟨m, rfl⟩ := Int.eq_ofNat_of_zero_le (show 0 ≤ k by omega)
    cases hq : (gb bl m == on)
    · have hq2 : gb bl m = !on := by
        generalize gb bl m = c at hq
        cases c <;> cases on <;> simp_all
      refine ⟨0, no, setb bl m on, sl, by rw [setb_length]; exact hb, hs, fun W => useBlock_ok a i n no m on bl sl hb hs hr (by omega) (by omega) hq W, fun W hab has lq => (ruseBlock_ok a i n no m on bl sl spb sps capb caps hb hs hr (by omega) (by omega) hq2 W hab has).mono ?_⟩
      rintro _ w' ⟨sp2, cap2, h1, h2, h3, h4⟩
      exact ⟨_, _, _, _, _, _, _, h1, ⟨fun _ => ⟨rfl, rfl, rfl, rfl, rgB_setB hb hs hr (by omega) (by omega), h2, has.below h4 (Nat.le_refl _), fun b off e hS => by have := h3 b off e; have := lq b hS; omega, os⟩, fun e => absurd rfl e⟩, h4⟩
    · have hq2 : gb bl m = on := by simpa using hq
      exact ⟨6, 0, z16, z8, rfl, rfl, fun W => useBlock_same a i n no m on bl sl hb hs hr (by omega) (by omega) hq W, fun W hab has _ => (ruseBlock_same a i n no m on bl sl spb sps capb caps hb hs hr (by omega) (by omega) hq2 W hab has).mono fun _ _ ⟨h1, h2⟩ => ⟨_, _, _, _, _, _, _, h1, ⟨fun e => by omega, fun _ => ⟨rfl, rfl, rfl⟩⟩, h2⟩⟩
theorem useSlot_both (a i n no k : Int) (on : Bool) (bl sl : List UInt8) (S : Nat → Prop) (spb sps : Option Addr) (capb caps : Nat) (hb : bl.length = 16) (hs : sl.length = 8) (hr : rgB a i n no bl sl = true) (ob : OffS spb S) (_os : OffS sps S) :
    ∃ er no2 bl2 sl2, bl2.length = 16 ∧ sl2.length = 8 ∧ (∀ W, Calls Try.prog 22 #[.agg #[.int .i64 a, .int .i64 i, .int .i64 n], .agg (hA no bl sl), .int .i64 k, .bool on] W fun e w' => e = .returned (.tuple #[.agg (hA no2 bl2 sl2), .int .i64 er]) ∧ Below W.heap.size W w') ∧
      (∀ W, Arg W spb capb bl → Arg W sps caps sl → (∀ j, S j → j < W.heap.size) → Calls Try.prog 23 #[.agg #[.int .i64 a, .int .i64 i, .int .i64 n], .agg #[.int .i64 no, .slice spb 16 capb, .slice sps 8 caps], .int .i64 k, .bool on] W fun e w' => ∃ x0 p3 n3 c3 p4 n4 c4, e = .returned (.tuple #[.agg #[.int .i64 x0, .slice p3 n3 c3, .slice p4 n4 c4], .int .i64 er]) ∧ Both a i n no S er no2 bl2 sl2 x0 p3 n3 c3 p4 n4 c4 w' ∧ Below W.heap.size W w') := by
  obtain ⟨hok, _, _⟩ := rgB_ok hr
  have hbx := hok.box
  have hks : (no = 0 ∧ ksl no = 2) ∨ (¬ no = 0 ∧ ksl no = 0) := by
    unfold ksl
    by_cases h : no = 0
    · rw [if_pos h]; exact .inl ⟨h, rfl⟩
    · rw [if_neg h]; exact .inr ⟨h, rfl⟩
  by_cases h : k < (ksl no : Nat) ∨ i ≤ k
  · exact ⟨3, 0, z16, z8, rfl, rfl, fun W => useSlot_range a i n no k on bl sl hb hs hr h W, fun W hab has _ => (ruseSlot_range a i n no k on bl sl spb sps capb caps hb hs hr (by omega) W hab has).mono fun _ _ ⟨h1, h2⟩ => ⟨_, _, _, _, _, _, _, h1, ⟨fun e => by omega, fun _ => ⟨rfl, rfl, rfl⟩⟩, h2⟩⟩
  · obtain ⟨m, rfl⟩ := Int.eq_ofNat_of_zero_le (show 0 ≤ k by omega)
    cases hq : (gb sl m == on)
    · have hq2 : gb sl m = !on := by
        generalize gb sl m = c at hq
        cases c <;> cases on <;> simp_all
      refine ⟨0, no, bl, setb sl m on, hb, by rw [setb_length]; exact hs, fun W => useSlot_ok a i n no m on bl sl hb hs hr (by omega) (by omega) hq W, fun W hab has lq => (ruseSlot_ok a i n no m on bl sl spb sps capb caps hb hs hr (by omega) (by omega) hq2 W hab has).mono ?_⟩
      rintro _ w' ⟨sp2, cap2, h1, h2, h3, h4⟩
      exact ⟨_, _, _, _, _, _, _, h1, ⟨fun _ => ⟨rfl, rfl, rfl, rfl, rgB_setS hb hs hr (by omega) (by omega), hab.below h4 (Nat.le_refl _), h2, ob, fun b off e hS => by have := h3 b off e; have := lq b hS; omega⟩, fun e => absurd rfl e⟩, h4⟩
    · have hq2 : gb sl m = on := by simpa using hq
      exact ⟨6, 0, z16, z8, rfl, rfl, fun W => useSlot_same a i n no m on bl sl hb hs hr (by omega) (by omega) hq W, fun W hab has _ => (ruseSlot_same a i n no m on bl sl spb sps capb caps hb hs hr (by omega) (by omega) hq2 W hab has).mono fun _ _ ⟨h1, h2⟩ => ⟨_, _, _, _, _, _, _, h1, ⟨fun e => by omega, fun _ => ⟨rfl, rfl, rfl⟩⟩, h2⟩⟩
/-- Where a header and the document's lie. -/
structure QW (w0 : World) (a i n no : Int) (bl sl : List UInt8) (q r : Nat) (p1 : Option Addr) (c1 : Nat) (p2 : Option Addr) (c2 : Nat) (W : World) : Prop where
  pw : PW w0 a i n no bl sl q W
  row : Row3 W r 31 (.int .i64 no) (.slice p1 16 c1) (.slice p2 8 c2)
  ab : Arg W p1 c1 bl
  asl : Arg W p2 c2 sl
  lr : q < r
  o1 : Off2 p1 q r
  o2 : Off2 p2 q r
section
variable {w0 W W' : World} {a i n no : Int} {bl sl : List UInt8} {q r : Nat} {p1 p2 : Option Addr} {c1 c2 : Nat}
theorem QW.up (h : QW w0 a i n no bl sl q r p1 c1 p2 c2 W) (hb : Below W.heap.size W W') : QW w0 a i n no bl sl q r p1 c1 p2 c2 W' :=
  ⟨h.pw.up hb, h.row.up hb, h.ab.below hb (Nat.le_refl _), h.asl.below hb (Nat.le_refl _), h.lr, h.o1, h.o2⟩
theorem QW.lt (h : QW w0 a i n no bl sl q r p1 c1 p2 c2 W) : r < W.heap.size := h.row.lt
theorem lies_only {w0 : World} (h : Lies w0 w0.heap.size a i n W) {p : Nat} (ho : Only p W W') (hp : w0.heap.size < p) : Lies w0 w0.heap.size a i n W' := lies_below h ho.bel hp
/-- A change of a block that is none of its own. -/
theorem QW.only (h : QW w0 a i n no bl sl q r p1 c1 p2 c2 W) {p : Nat} (ho : Only p W W') (hp : r < p) (h1 : ∀ b off, p1 = some ⟨b, off, none⟩ → b ≠ p) (h2 : ∀ b off, p2 = some ⟨b, off, none⟩ → b ≠ p) : QW w0 a i n no bl sl q r p1 c1 p2 c2 W' :=
  have l := h.lr
  ⟨h.pw.below ho.bel (by omega), h.row.only ho (by omega), h.ab.only ho h1, h.asl.only ho h2, h.lr, h.o1, h.o2⟩
/-- Both headers are laid anew. -/
theorem QW.new (h : QW w0 a i n no bl sl q r p1 c1 p2 c2 W) {bl2 sl2 : List UInt8} {p3 p4 : Option Addr} {c3 c4 : Nat} (A3 : Arg W p3 c3 bl2) (A4 : Arg W p4 c4 sl2) (o3 : Off2 p3 q r) (o4 : Off2 p4 q r) (ho : Only q W W') (hh : HeadAt W' q no bl2 sl2) :
    QW w0 a i n no bl2 sl2 q r p3 c3 p4 c4 (((W'.setCell ⟨r, 0, none⟩ (.int .i64 no)).setCell ⟨r, 1, none⟩ (.slice p3 16 c3)).setCell ⟨r, 2, none⟩ (.slice p4 8 c4)) := by
  have l := h.lr
  have o := only_set3 W' r (.int .i64 no) (.slice p3 16 c3) (.slice p4 8 c4)
  have h2 := h.pw.set ho.bel hh
  exact ⟨h2.below o.bel l, (h.row.only ho (by omega)).set _ _ _, (A3.only ho o3.l).only o o3.r, (A4.only ho o4.l).only o o4.r, l, o3, o4⟩
end
theorem Arg.lt {W : World} {sp : Option Addr} {cap : Nat} {l : List UInt8} (h : Arg W sp cap l) (h0 : 0 < l.length) : ∀ b off, sp = some ⟨b, off, none⟩ → b < W.heap.size := by
  intro b off e
  rcases h.src with h | ⟨b', off', h1, h2, _⟩
  · subst h; simp at h0
  · rw [h1] at e; cases e; exact h2
end Go.Proofs.Ytfbbdpapnegmcaa
