/- leveeref06.UseBlock, UseSlot. -/
import Derived.Test.YtfbbdpapnegmcaaRfree
namespace Go.Proofs.Ytfbbdpapnegmcaa
open Go.RowKit
theorem Try.sz31 : (Try.prog.info? 31).map (·.size) = some 3 := by kernel_rfl
section
variable {w w' : World} {p q : Nat} {t : TypeId} {x y z : Value}
theorem Row3.set (h : Row3 w p t x y z) (x' y' z' : Value) : Row3 (((w.setCell ⟨p, 0, none⟩ x').setCell ⟨p, 1, none⟩ y').setCell ⟨p, 2, none⟩ z') p t x' y' z' := by
  have h0 := heap_setCell_same w p 0 _ _ x' h
  have h1 := heap_setCell_same _ p 1 _ _ y' h0
  have h2 := heap_setCell_same _ p 2 _ _ z' h1
  rw [Row3, h2]; rfl
theorem Row3.set1 (h : Row3 w p t x y z) (y' : Value) : Row3 (w.setCell ⟨p, 1, none⟩ y') p t x y' z := by
  have h1 := heap_setCell_same w p 1 _ _ y' h
  rw [Row3, h1]; rfl
theorem Row3.set2 (h : Row3 w p t x y z) (z' : Value) : Row3 (w.setCell ⟨p, 2, none⟩ z') p t x y z' := by
  have h1 := heap_setCell_same w p 2 _ _ z' h
  rw [Row3, h1]; rfl
theorem Row3.other (h : Row3 w p t x y z) (hq : p ≠ q) (j : Nat) (v : Value) : Row3 (w.setCell ⟨q, j, none⟩ v) p t x y z := by
  unfold Row3
  rw [heap_setCell_other w ⟨q, j, none⟩ p v hq]; exact h
theorem Src.other {sp : Option Addr} {l : List UInt8} (h : Src w sp l) (hq : ∀ b off, sp = some ⟨b, off, none⟩ → b ≠ q) (j : Nat) (v : Value) : Src (w.setCell ⟨q, j, none⟩ v) sp l := by
  rcases h with h | ⟨b, off, h1, h2, h3⟩
  · exact .inl h
  · refine .inr ⟨b, off, h1, by simpa [World.setCell] using h2, fun k hk => ?_⟩
    rw [World.cell?_setCell_other _ _ _ _ (by intro e; cases e; exact hq _ _ h1 rfl)]
    exact h3 k hk
theorem Arg.other {sp : Option Addr} {cap : Nat} {l : List UInt8} (h : Arg w sp cap l) (hq : ∀ b off, sp = some ⟨b, off, none⟩ → b ≠ q) (j : Nat) (v : Value) : Arg (w.setCell ⟨q, j, none⟩ v) sp cap l := by
  rcases h with h | ⟨b, off, h1, h2, h3, h4, h5, h6⟩
  · exact .inl h
  · exact .inr ⟨b, off, h1, h2, h3, h4, h5, h6.other hq j v⟩
end
theorem below_set3 {w0 w : World} {B p : Nat} (h : Below B w0 w) (hp : B ≤ p) (u v x : Value) : Below B w0 (((w.setCell ⟨p, 0, none⟩ u).setCell ⟨p, 1, none⟩ v).setCell ⟨p, 2, none⟩ x) :=
  ((h.setCell (p := ⟨p, 0, none⟩) hp _).setCell (p := ⟨p, 1, none⟩) hp _).setCell (p := ⟨p, 2, none⟩) hp _
theorem results_r3 {fn : Func} {p u : Tmp} (h : fn.results = #[.cell p 31, .tmp u]) (tmps : Array Value) (w : World) (G : Nat) (x y z : Value) (hp : tmps.getD p undef = .pointer (some ⟨G, 0, none⟩)) (hg : Row3 w G 31 x y z) :
    (results fn tmps).run Try.prog w = .ok (.tuple #[.agg #[x, y, z], tmps.getD u undef]) w := by
  rw [results_cell_tmp h, hp]
  simp [asAddr, run_loadVar_row w G 31 31 _ _ _ hg Try.underlying31 rfl Try.sz31, Result.andThen]
/-- A shape, the document's header and a place for the answer. -/
structure YW (w0 : World) (a i n : Int) (x y z : Value) (W : World) : Prop where
  x : XW w0 a i n x y z W
  res : Row3 W (w0.heap.size + 1 + 1) 31 (.int .i64 0) (.slice none 0 0) (.slice none 0 0)
theorem YW.up {w0 W W' : World} {a i n : Int} {x y z : Value} (h : YW w0 a i n x y z W) (hb : Below W.heap.size W W') : YW w0 a i n x y z W' := ⟨h.x.up hb, h.res.up hb⟩
theorem YW.start (w : World) (a i n : Int) (x y z : Value) : YW w a i n x y z (((w.alloc (.cells #[.int .i64 a, .int .i64 i, .int .i64 n] 23)).alloc (.cells #[x, y, z] 31)).alloc (.cells #[.int .i64 0, .slice none 0 0, .slice none 0 0] 31)) := by
  have X := XW.start w a i n x y z
  have X2 := X.up ((Below.refl _ _).alloc (Nat.le_refl _) (.cells #[.int .i64 0, .slice none 0 0, .slice none 0 0] 31))
  have h := heap_alloc_new ((w.alloc (.cells #[.int .i64 a, .int .i64 i, .int .i64 n] 23)).alloc (.cells #[x, y, z] 31)) (.cells #[.int .i64 0, .slice none 0 0, .slice none 0 0] 31)
  rw [show ((w.alloc (.cells #[.int .i64 a, .int .i64 i, .int .i64 n] 23)).alloc (.cells #[x, y, z] 31)).heap.size = w.heap.size + 1 + 1 by simp] at h
  exact ⟨X2, h⟩
set_option maxHeartbeats 4000000 in
theorem ruseBlock_no (a i n no k : Int) (on : Bool) (bl sl : List UInt8) (spb sps : Option Addr) (capb caps : Nat) (hb : bl.length = 16) (hs : sl.length = 8) (hr : rgB a i n no bl sl = false) (w : World) (hab : Arg w spb capb bl) (has : Arg w sps caps sl) :
    Calls Try.prog 21 #[.agg #[.int .i64 a, .int .i64 i, .int .i64 n], .agg #[.int .i64 no, .slice spb 16 capb, .slice sps 8 caps], .int .i64 k, .bool on] w fun e w' => e = .returned (.tuple #[.agg #[.int .i64 0, .slice none 0 0, .slice none 0 0], .int .i64 1]) ∧ Below w.heap.size w w' := by
  have HY0 : Hid _ := YW.start w a i n (.int .i64 no) (.slice spb 16 capb) (.slice sps 8 caps)
  have RT := fun W (h : Below w.heap.size w W) => rright6_any a i n no bl sl spb sps capb caps hb hs W (hab.src.below h (Nat.le_refl _)) (has.src.below h (Nat.le_refl _))
  rw [hr] at RT
  clear hr
  go_enter Try.func21, Try.ntmps21
  go_wp2_with fail
  refine (RT _ HY0.out.x.geo.2.2.2).mono ?_
  rintro e w1 ⟨rfl, h1⟩
  have Y1 := HY0.out.up h1
  have HY1 : Hid _ := Y1
  have q0 := Y1.x.geo.1; have q1 := Y1.x.geo.2.1; have q2 := Y1.x.geo.2.2.1; have r0 := Y1.x.head.c0; have r1 := Y1.x.head.c1; have r2 := Y1.x.head.c2; have s0 := Y1.res.c0; have s1 := Y1.res.c1; have s2 := Y1.res.c2; have f0 := Y1.res.fz 0; have f1 := Y1.res.fz 1; have f2 := Y1.res.fz 2; have g1 := Y1.x.head.fz 1; have g2 := Y1.x.head.fz 2
  clear Y1 h1 HY0 RT
  go_wp2_with fail
  exact bodyPost_ret (results_r3 rfl _ _ (w.heap.size + 1 + 1) _ _ _ rfl (HY1.out.res.set _ _ _)) rfl ⟨rfl, below_set3 HY1.out.x.geo.2.2.2 (by omega) _ _ _⟩
set_option maxHeartbeats 4000000 in
theorem ruseBlock_range (a i n no k : Int) (on : Bool) (bl sl : List UInt8) (spb sps : Option Addr) (capb caps : Nat) (hb : bl.length = 16) (hs : sl.length = 8) (hr : rgB a i n no bl sl = true) (hk : (k < 1 + i / 4) ∨ a ≤ k) (w : World) (hab : Arg w spb capb bl) (has : Arg w sps caps sl) :
    Calls Try.prog 21 #[.agg #[.int .i64 a, .int .i64 i, .int .i64 n], .agg #[.int .i64 no, .slice spb 16 capb, .slice sps 8 caps], .int .i64 k, .bool on] w fun e w' => e = .returned (.tuple #[.agg #[.int .i64 0, .slice none 0 0, .slice none 0 0], .int .i64 3]) ∧ Below w.heap.size w w' := by
  obtain ⟨hok, _, _⟩ := rgB_ok hr
  have hbx := hok.box
  have HY0 : Hid _ := YW.start w a i n (.int .i64 no) (.slice spb 16 capb) (.slice sps 8 caps)
  have RT := fun W (h : Below w.heap.size w W) => rright6_any a i n no bl sl spb sps capb caps hb hs W (hab.src.below h (Nat.le_refl _)) (has.src.below h (Nat.le_refl _))
  rw [hr] at RT
  clear hr hok
  have hcs : (k < 1 + i / 4) ∨ (¬ k < 1 + i / 4 ∧ a ≤ k) := by omega
  rcases hcs with h1 | ⟨h1, h2⟩
  all_goals
    clear hk
    go_enter Try.func21, Try.ntmps21
    go_wp2_with fail
    refine (RT _ HY0.out.x.geo.2.2.2).mono ?_
    rintro e w1 ⟨rfl, h1⟩
    have Y1 := HY0.out.up h1
    have HY1 : Hid _ := Y1
    have q0 := Y1.x.geo.1; have q1 := Y1.x.geo.2.1; have q2 := Y1.x.geo.2.2.1; have r0 := Y1.x.head.c0; have r1 := Y1.x.head.c1; have r2 := Y1.x.head.c2; have s0 := Y1.res.c0; have s1 := Y1.res.c1; have s2 := Y1.res.c2; have f0 := Y1.res.fz 0; have f1 := Y1.res.fz 1; have f2 := Y1.res.fz 2; have g1 := Y1.x.head.fz 1; have g2 := Y1.x.head.fz 2
    clear Y1 h1 HY0 RT
    go_wp2_with fail
    exact bodyPost_ret (results_r3 rfl _ _ (w.heap.size + 1 + 1) _ _ _ rfl (HY1.out.res.set _ _ _)) rfl ⟨rfl, below_set3 HY1.out.x.geo.2.2.2 (by omega) _ _ _⟩
set_option maxHeartbeats 4000000 in
theorem ruseBlock_same (a i n no : Int) (k : Nat) (on : Bool) (bl sl : List UInt8) (spb sps : Option Addr) (capb caps : Nat) (hb : bl.length = 16) (hs : sl.length = 8) (hr : rgB a i n no bl sl = true) (hk1 : 1 + i / 4 ≤ (k : Int)) (hk2 : (k : Int) < a) (hq : gb bl k = on) (w : World) (hab : Arg w spb capb bl) (has : Arg w sps caps sl) :
    Calls Try.prog 21 #[.agg #[.int .i64 a, .int .i64 i, .int .i64 n], .agg #[.int .i64 no, .slice spb 16 capb, .slice sps 8 caps], .int .i64 k, .bool on] w fun e w' => e = .returned (.tuple #[.agg #[.int .i64 0, .slice none 0 0, .slice none 0 0], .int .i64 6]) ∧ Below w.heap.size w w' := by
  obtain ⟨hok, _, _⟩ := rgB_ok hr
  have hbx := hok.box
  have HY0 : Hid _ := YW.start w a i n (.int .i64 no) (.slice spb 16 capb) (.slice sps 8 caps)
  have RT := fun W (h : Below w.heap.size w W) => rright6_any a i n no bl sl spb sps capb caps hb hs W (hab.src.below h (Nat.le_refl _)) (has.src.below h (Nat.le_refl _))
  rw [hr] at RT
  have hklo : ¬ (k : Int) < 1 + i / 4 := by omega
  have hkhi : ¬ a ≤ (k : Int) := by omega
  have GT : ∀ W, Below w.heap.size w W → Calls Try.prog 43 #[.slice spb 16 capb, .int .i64 k] W fun e w' => e = .returned (.bool on) ∧ w' = W := by
    intro W hW
    have h := rget_yes spb bl capb k W (hab.src.below hW (Nat.le_refl _)) (by omega) (by omega)
    rw [hq, hb] at h
    exact h
  clear hr hok hq
  go_enter Try.func21, Try.ntmps21
  go_wp2_with fail
  refine (RT _ HY0.out.x.geo.2.2.2).mono ?_
  rintro e w1 ⟨rfl, h1⟩
  have Y1 := HY0.out.up h1
  have HY1 : Hid _ := Y1
  have q0 := Y1.x.geo.1; have q1 := Y1.x.geo.2.1; have q2 := Y1.x.geo.2.2.1; have r0 := Y1.x.head.c0; have r1 := Y1.x.head.c1; have r2 := Y1.x.head.c2; have s0 := Y1.res.c0; have s1 := Y1.res.c1; have s2 := Y1.res.c2; have f0 := Y1.res.fz 0; have f1 := Y1.res.fz 1; have f2 := Y1.res.fz 2; have g1 := Y1.x.head.fz 1; have g2 := Y1.x.head.fz 2
  clear Y1 h1 HY0 RT
  go_wp2_with fail
  refine (GT _ HY1.out.x.geo.2.2.2).mono ?_
  rintro e w2 ⟨rfl, rfl⟩
  clear GT
  cases on <;> go_wp2_with fail
  all_goals exact bodyPost_ret (results_r3 rfl _ _ (w.heap.size + 1 + 1) _ _ _ rfl (HY1.out.res.set _ _ _)) rfl ⟨rfl, below_set3 HY1.out.x.geo.2.2.2 (by omega) _ _ _⟩
set_option maxHeartbeats 4000000 in
theorem ruseBlock_ok (a i n no : Int) (k : Nat) (on : Bool) (bl sl : List UInt8) (spb sps : Option Addr) (capb caps : Nat) (hb : bl.length = 16) (hs : sl.length = 8) (hr : rgB a i n no bl sl = true) (hk1 : 1 + i / 4 ≤ (k : Int)) (hk2 : (k : Int) < a) (hq : gb bl k = !on) (w : World) (hab : Arg w spb capb bl) (has : Arg w sps caps sl) :
    Calls Try.prog 21 #[.agg #[.int .i64 a, .int .i64 i, .int .i64 n], .agg #[.int .i64 no, .slice spb 16 capb, .slice sps 8 caps], .int .i64 k, .bool on] w fun e w' => ∃ sp2 cap2, e = .returned (.tuple #[.agg #[.int .i64 no, .slice sp2 16 cap2, .slice sps 8 caps], .int .i64 0]) ∧ Arg w' sp2 cap2 (setb bl k on) ∧ (∀ b off, sp2 = some ⟨b, off, none⟩ → w.heap.size ≤ b) ∧ Below w.heap.size w w' := by
  obtain ⟨hok, _, _⟩ := rgB_ok hr
  have hbx := hok.box
  have HY0 : Hid _ := YW.start w a i n (.int .i64 no) (.slice spb 16 capb) (.slice sps 8 caps)
  have RT := fun W (h : Below w.heap.size w W) => rright6_any a i n no bl sl spb sps capb caps hb hs W (hab.src.below h (Nat.le_refl _)) (has.src.below h (Nat.le_refl _))
  rw [hr] at RT
  have hklo : ¬ (k : Int) < 1 + i / 4 := by omega
  have hkhi : ¬ a ≤ (k : Int) := by omega
  have GT : ∀ W, Below w.heap.size w W → Calls Try.prog 43 #[.slice spb 16 capb, .int .i64 k] W fun e w' => e = .returned (.bool (!on)) ∧ w' = W := by
    intro W hW
    have h := rget_yes spb bl capb k W (hab.src.below hW (Nat.le_refl _)) (by omega) (by omega)
    rw [hq, hb] at h
    exact h
  have SE : ∀ W, Below w.heap.size w W → Calls Try.prog 40 #[.slice spb 16 capb, .int .i64 k, .bool on] W fun e w' => ∃ g2 cap2, e = .returned (.tuple #[.slice (some ⟨g2, 0, none⟩) 16 cap2, .int .i64 0]) ∧ Arg w' (some ⟨g2, 0, none⟩) cap2 (setb bl k on) ∧ W.heap.size ≤ g2 ∧ Below W.heap.size W w' := by
    intro W hW
    have h := rset_yes spb bl capb k on W (hab.below hW (Nat.le_refl _)) (by omega)
    rw [hb] at h
    refine h.mono ?_
    rintro e w' ⟨v, h1, h2, h3⟩
    have hl2 : (setb bl k on).length = 16 := by rw [setb_length]; exact hb
    obtain ⟨ao, cap2, hv, harg⟩ := h2.arg (by omega)
    obtain ⟨h4, h5⟩ := h2
    rcases h5 with ⟨rfl, h6⟩ | ⟨g, cap3, cur, rfl, hg, hh, _⟩
    · omega
    · obtain ⟨rfl, _, rfl⟩ : ao = some ⟨g, 0, none⟩ ∧ (setb bl k on).length = (setb bl k on).length ∧ cap2 = cap3 := by simpa [eq_comm] using hv
      rw [hl2] at h1
      exact ⟨g, cap2, h1, harg, hg, h3⟩
  clear hr hok hq
  go_enter Try.func21, Try.ntmps21
  go_wp2_with fail
  refine (RT _ HY0.out.x.geo.2.2.2).mono ?_
  rintro e w1 ⟨rfl, h1⟩
  have Y1 := HY0.out.up h1
  have HY1 : Hid _ := Y1
  have q0 := Y1.x.geo.1; have q1 := Y1.x.geo.2.1; have q2 := Y1.x.geo.2.2.1; have r0 := Y1.x.head.c0; have r1 := Y1.x.head.c1; have r2 := Y1.x.head.c2; have s0 := Y1.res.c0; have s1 := Y1.res.c1; have s2 := Y1.res.c2; have f0 := Y1.res.fz 0; have f1 := Y1.res.fz 1; have f2 := Y1.res.fz 2; have g1 := Y1.x.head.fz 1; have g2 := Y1.x.head.fz 2
  clear Y1 h1 HY0 RT
  go_wp2_with fail
  refine (GT _ HY1.out.x.geo.2.2.2).mono ?_
  rintro e w2 ⟨rfl, rfl⟩
  clear GT
  cases on
  all_goals
    go_wp2_with fail
    refine (SE _ HY1.out.x.geo.2.2.2).mono ?_
    rintro e w3 ⟨g3, cap3, rfl, ha3, hg3, h3⟩
    have Y3 := HY1.out.up h3
    have HY3 : Hid _ := Y3
    have HA3 : Hid (Arg w3 (some ⟨g3, 0, none⟩) cap3 (setb bl k _)) := ha3
    have hlt3 := HY1.out.res.lt
    clear q0 q1 q2 r0 r1 r2 s0 s1 s2 f0 f1 f2 g1 g2
    have q0 := Y3.x.geo.1; have q1 := Y3.x.geo.2.1; have q2 := Y3.x.geo.2.2.1; have r0 := Y3.x.head.c0; have r1 := Y3.x.head.c1; have r2 := Y3.x.head.c2; have s0 := Y3.res.c0; have s1 := Y3.res.c1; have s2 := Y3.res.c2; have f0 := Y3.res.fz 0; have f1 := Y3.res.fz 1; have f2 := Y3.res.fz 2; have g1 := Y3.x.head.fz 1; have g2 := Y3.x.head.fz 2
    clear Y3 h3 HY1 SE ha3
    go_wp2_with fail
    have HR3 : Hid _ := (HY3.out.res.other (q := w.heap.size + 1) (by omega) 1 (.slice (some ⟨g3, 0, none⟩) 16 cap3)).set (.int .i64 no) (.slice (some ⟨g3, 0, none⟩) 16 cap3) (.slice sps 8 caps)
    refine bodyPost_ret (results_r3 rfl _ _ (w.heap.size + 1 + 1) _ _ _ rfl HR3.out) rfl ⟨_, _, rfl, ?_, (by intro b off e; cases e; omega), below_set3 (HY3.out.x.geo.2.2.2.setCell (p := ⟨w.heap.size + 1, 1, none⟩) (show w.heap.size ≤ w.heap.size + 1 by omega) _) (by omega) _ _ _⟩
    have hne1 : ∀ b off, some (⟨g3, 0, none⟩ : Addr) = some ⟨b, off, none⟩ → b ≠ w.heap.size + 1 := by intro b off e; cases e; omega
    have hne2 : ∀ b off, some (⟨g3, 0, none⟩ : Addr) = some ⟨b, off, none⟩ → b ≠ w.heap.size + 1 + 1 := by intro b off e; cases e; omega
    exact (((HA3.out.other hne1 _ _).other hne2 _ _).other hne2 _ _).other hne2 _ _
set_option maxHeartbeats 4000000 in
theorem ruseSlot_no (a i n no k : Int) (on : Bool) (bl sl : List UInt8) (spb sps : Option Addr) (capb caps : Nat) (hb : bl.length = 16) (hs : sl.length = 8) (hr : rgB a i n no bl sl = false) (w : World) (hab : Arg w spb capb bl) (has : Arg w sps caps sl) :
    Calls Try.prog 23 #[.agg #[.int .i64 a, .int .i64 i, .int .i64 n], .agg #[.int .i64 no, .slice spb 16 capb, .slice sps 8 caps], .int .i64 k, .bool on] w fun e w' => e = .returned (.tuple #[.agg #[.int .i64 0, .slice none 0 0, .slice none 0 0], .int .i64 1]) ∧ Below w.heap.size w w' := by
  have HY0 : Hid _ := YW.start w a i n (.int .i64 no) (.slice spb 16 capb) (.slice sps 8 caps)
  have RT := fun W (h : Below w.heap.size w W) => rright6_any a i n no bl sl spb sps capb caps hb hs W (hab.src.below h (Nat.le_refl _)) (has.src.below h (Nat.le_refl _))
  rw [hr] at RT
  clear hr
  go_enter Try.func23, Try.ntmps23
  go_wp2_with fail
  refine (RT _ HY0.out.x.geo.2.2.2).mono ?_
  rintro e w1 ⟨rfl, h1⟩
  have Y1 := HY0.out.up h1
  have HY1 : Hid _ := Y1
  have q0 := Y1.x.geo.1; have q1 := Y1.x.geo.2.1; have q2 := Y1.x.geo.2.2.1; have r0 := Y1.x.head.c0; have r1 := Y1.x.head.c1; have r2 := Y1.x.head.c2; have s0 := Y1.res.c0; have s1 := Y1.res.c1; have s2 := Y1.res.c2; have f0 := Y1.res.fz 0; have f1 := Y1.res.fz 1; have f2 := Y1.res.fz 2; have g1 := Y1.x.head.fz 1; have g2 := Y1.x.head.fz 2
  clear Y1 h1 HY0 RT
  go_wp2_with fail
  exact bodyPost_ret (results_r3 rfl _ _ (w.heap.size + 1 + 1) _ _ _ rfl (HY1.out.res.set _ _ _)) rfl ⟨rfl, below_set3 HY1.out.x.geo.2.2.2 (by omega) _ _ _⟩
set_option maxHeartbeats 4000000 in
theorem ruseSlot_range (a i n no k : Int) (on : Bool) (bl sl : List UInt8) (spb sps : Option Addr) (capb caps : Nat) (hb : bl.length = 16) (hs : sl.length = 8) (hr : rgB a i n no bl sl = true) (hk : (k < 0 ∨ i ≤ k) ∨ (no = 0 ∧ k < 2)) (w : World) (hab : Arg w spb capb bl) (has : Arg w sps caps sl) :
    Calls Try.prog 23 #[.agg #[.int .i64 a, .int .i64 i, .int .i64 n], .agg #[.int .i64 no, .slice spb 16 capb, .slice sps 8 caps], .int .i64 k, .bool on] w fun e w' => e = .returned (.tuple #[.agg #[.int .i64 0, .slice none 0 0, .slice none 0 0], .int .i64 3]) ∧ Below w.heap.size w w' := by
  obtain ⟨hok, _, _⟩ := rgB_ok hr
  have hbx := hok.box
  have HY0 : Hid _ := YW.start w a i n (.int .i64 no) (.slice spb 16 capb) (.slice sps 8 caps)
  have RT := fun W (h : Below w.heap.size w W) => rright6_any a i n no bl sl spb sps capb caps hb hs W (hab.src.below h (Nat.le_refl _)) (has.src.below h (Nat.le_refl _))
  rw [hr] at RT
  clear hr hok
  have hcs : (k < 0) ∨ (¬ k < 0 ∧ i ≤ k) ∨ (¬ k < 0 ∧ ¬ i ≤ k ∧ (no == 0) = true ∧ k < 2) := by
    by_cases e : no = 0
    · have h0 : (no == 0) = true := by simpa using e
      have hd : (k < 0) ∨ (¬ k < 0 ∧ i ≤ k) ∨ (¬ k < 0 ∧ ¬ i ≤ k ∧ k < 2) := by omega
      rcases hd with h | h | ⟨h1, h2, h3⟩
      · exact .inl h
      · exact .inr (.inl h)
      · exact .inr (.inr ⟨h1, h2, h0, h3⟩)
    · have hd : (k < 0) ∨ (¬ k < 0 ∧ i ≤ k) := by omega
      rcases hd with h | h
      · exact .inl h
      · exact .inr (.inl h)
  rcases hcs with h1 | ⟨h1, h2⟩ | ⟨h1, h2, h3, h4⟩
  all_goals
    clear hk
    go_enter Try.func23, Try.ntmps23
    go_wp2_with fail
    refine (RT _ HY0.out.x.geo.2.2.2).mono ?_
    rintro e w1 ⟨rfl, h1⟩
    have Y1 := HY0.out.up h1
    have HY1 : Hid _ := Y1
    have q0 := Y1.x.geo.1; have q1 := Y1.x.geo.2.1; have q2 := Y1.x.geo.2.2.1; have r0 := Y1.x.head.c0; have r1 := Y1.x.head.c1; have r2 := Y1.x.head.c2; have s0 := Y1.res.c0; have s1 := Y1.res.c1; have s2 := Y1.res.c2; have f0 := Y1.res.fz 0; have f1 := Y1.res.fz 1; have f2 := Y1.res.fz 2; have g1 := Y1.x.head.fz 1; have g2 := Y1.x.head.fz 2
    clear Y1 h1 HY0 RT
    go_wp2_with fail
    exact bodyPost_ret (results_r3 rfl _ _ (w.heap.size + 1 + 1) _ _ _ rfl (HY1.out.res.set _ _ _)) rfl ⟨rfl, below_set3 HY1.out.x.geo.2.2.2 (by omega) _ _ _⟩
set_option maxHeartbeats 4000000 in
theorem ruseSlot_same (a i n no : Int) (k : Nat) (on : Bool) (bl sl : List UInt8) (spb sps : Option Addr) (capb caps : Nat) (hb : bl.length = 16) (hs : sl.length = 8) (hr : rgB a i n no bl sl = true) (hk1 : no = 0 → 2 ≤ k) (hk2 : (k : Int) < i) (hq : gb sl k = on) (w : World) (hab : Arg w spb capb bl) (has : Arg w sps caps sl) :
    Calls Try.prog 23 #[.agg #[.int .i64 a, .int .i64 i, .int .i64 n], .agg #[.int .i64 no, .slice spb 16 capb, .slice sps 8 caps], .int .i64 k, .bool on] w fun e w' => e = .returned (.tuple #[.agg #[.int .i64 0, .slice none 0 0, .slice none 0 0], .int .i64 6]) ∧ Below w.heap.size w w' := by
  obtain ⟨hok, _, _⟩ := rgB_ok hr
  have hbx := hok.box
  have HY0 : Hid _ := YW.start w a i n (.int .i64 no) (.slice spb 16 capb) (.slice sps 8 caps)
  have RT := fun W (h : Below w.heap.size w W) => rright6_any a i n no bl sl spb sps capb caps hb hs W (hab.src.below h (Nat.le_refl _)) (has.src.below h (Nat.le_refl _))
  rw [hr] at RT
  have hklo : ¬ (k : Int) < 0 := by omega
  have hkhi : ¬ i ≤ (k : Int) := by omega
  have hzz : (no == 0) = false ∨ ((no == 0) = true ∧ ¬ (k : Int) < 2) := by
    by_cases e : no = 0
    · right; exact ⟨by simpa using e, by have := hk1 e; omega⟩
    · left; simpa using e
  clear hk1
  have GT : ∀ W, Below w.heap.size w W → Calls Try.prog 43 #[.slice sps 8 caps, .int .i64 k] W fun e w' => e = .returned (.bool on) ∧ w' = W := by
    intro W hW
    have h := rget_yes sps sl caps k W (has.src.below hW (Nat.le_refl _)) (by omega) (by omega)
    rw [hq, hs] at h
    exact h
  clear hr hok hq
  rcases hzz with hz0 | ⟨hz0, hz1⟩
  all_goals
    go_enter Try.func23, Try.ntmps23
    go_wp2_with fail
    refine (RT _ HY0.out.x.geo.2.2.2).mono ?_
    rintro e w1 ⟨rfl, h1⟩
    have Y1 := HY0.out.up h1
    have HY1 : Hid _ := Y1
    have q0 := Y1.x.geo.1; have q1 := Y1.x.geo.2.1; have q2 := Y1.x.geo.2.2.1; have r0 := Y1.x.head.c0; have r1 := Y1.x.head.c1; have r2 := Y1.x.head.c2; have s0 := Y1.res.c0; have s1 := Y1.res.c1; have s2 := Y1.res.c2; have f0 := Y1.res.fz 0; have f1 := Y1.res.fz 1; have f2 := Y1.res.fz 2; have g1 := Y1.x.head.fz 1; have g2 := Y1.x.head.fz 2
    clear Y1 h1 HY0 RT
    go_wp2_with fail
    refine (GT _ HY1.out.x.geo.2.2.2).mono ?_
    rintro e w2 ⟨rfl, rfl⟩
    clear GT
    cases on <;> go_wp2_with fail
    all_goals exact bodyPost_ret (results_r3 rfl _ _ (w.heap.size + 1 + 1) _ _ _ rfl (HY1.out.res.set _ _ _)) rfl ⟨rfl, below_set3 HY1.out.x.geo.2.2.2 (by omega) _ _ _⟩
set_option maxHeartbeats 4000000 in
theorem ruseSlot_ok (a i n no : Int) (k : Nat) (on : Bool) (bl sl : List UInt8) (spb sps : Option Addr) (capb caps : Nat) (hb : bl.length = 16) (hs : sl.length = 8) (hr : rgB a i n no bl sl = true) (hk1 : no = 0 → 2 ≤ k) (hk2 : (k : Int) < i) (hq : gb sl k = !on) (w : World) (hab : Arg w spb capb bl) (has : Arg w sps caps sl) :
    Calls Try.prog 23 #[.agg #[.int .i64 a, .int .i64 i, .int .i64 n], .agg #[.int .i64 no, .slice spb 16 capb, .slice sps 8 caps], .int .i64 k, .bool on] w fun e w' => ∃ sp2 cap2, e = .returned (.tuple #[.agg #[.int .i64 no, .slice spb 16 capb, .slice sp2 8 cap2], .int .i64 0]) ∧ Arg w' sp2 cap2 (setb sl k on) ∧ (∀ b off, sp2 = some ⟨b, off, none⟩ → w.heap.size ≤ b) ∧ Below w.heap.size w w' := by
  obtain ⟨hok, _, _⟩ := rgB_ok hr
  have hbx := hok.box
  have HY0 : Hid _ := YW.start w a i n (.int .i64 no) (.slice spb 16 capb) (.slice sps 8 caps)
  have RT := fun W (h : Below w.heap.size w W) => rright6_any a i n no bl sl spb sps capb caps hb hs W (hab.src.below h (Nat.le_refl _)) (has.src.below h (Nat.le_refl _))
  rw [hr] at RT
  have hklo : ¬ (k : Int) < 0 := by omega
  have hkhi : ¬ i ≤ (k : Int) := by omega
  have hzz : (no == 0) = false ∨ ((no == 0) = true ∧ ¬ (k : Int) < 2) := by
    by_cases e : no = 0
    · right; exact ⟨by simpa using e, by have := hk1 e; omega⟩
    · left; simpa using e
  clear hk1
  have GT : ∀ W, Below w.heap.size w W → Calls Try.prog 43 #[.slice sps 8 caps, .int .i64 k] W fun e w' => e = .returned (.bool (!on)) ∧ w' = W := by
    intro W hW
    have h := rget_yes sps sl caps k W (has.src.below hW (Nat.le_refl _)) (by omega) (by omega)
    rw [hq, hs] at h
    exact h
  have SE : ∀ W, Below w.heap.size w W → Calls Try.prog 40 #[.slice sps 8 caps, .int .i64 k, .bool on] W fun e w' => ∃ g2 cap2, e = .returned (.tuple #[.slice (some ⟨g2, 0, none⟩) 8 cap2, .int .i64 0]) ∧ Arg w' (some ⟨g2, 0, none⟩) cap2 (setb sl k on) ∧ W.heap.size ≤ g2 ∧ Below W.heap.size W w' := by
    intro W hW
    have h := rset_yes sps sl caps k on W (has.below hW (Nat.le_refl _)) (by omega)
    rw [hs] at h
    refine h.mono ?_
    rintro e w' ⟨v, h1, h2, h3⟩
    have hl2 : (setb sl k on).length = 8 := by rw [setb_length]; exact hs
    obtain ⟨ao, cap2, hv, harg⟩ := h2.arg (by omega)
    obtain ⟨h4, h5⟩ := h2
    rcases h5 with ⟨rfl, h6⟩ | ⟨g, cap3, cur, rfl, hg, hh, _⟩
    · omega
    · obtain ⟨rfl, _, rfl⟩ : ao = some ⟨g, 0, none⟩ ∧ (setb sl k on).length = (setb sl k on).length ∧ cap2 = cap3 := by simpa [eq_comm] using hv
      rw [hl2] at h1
      exact ⟨g, cap2, h1, harg, hg, h3⟩
  clear hr hok hq
  rcases hzz with hz0 | ⟨hz0, hz1⟩
  all_goals
    go_enter Try.func23, Try.ntmps23
    go_wp2_with fail
    refine (RT _ HY0.out.x.geo.2.2.2).mono ?_
    rintro e w1 ⟨rfl, h1⟩
    have Y1 := HY0.out.up h1
    have HY1 : Hid _ := Y1
    have q0 := Y1.x.geo.1; have q1 := Y1.x.geo.2.1; have q2 := Y1.x.geo.2.2.1; have r0 := Y1.x.head.c0; have r1 := Y1.x.head.c1; have r2 := Y1.x.head.c2; have s0 := Y1.res.c0; have s1 := Y1.res.c1; have s2 := Y1.res.c2; have f0 := Y1.res.fz 0; have f1 := Y1.res.fz 1; have f2 := Y1.res.fz 2; have g1 := Y1.x.head.fz 1; have g2 := Y1.x.head.fz 2
    clear Y1 h1 HY0 RT
    go_wp2_with fail
    refine (GT _ HY1.out.x.geo.2.2.2).mono ?_
    rintro e w2 ⟨rfl, rfl⟩
    clear GT
    cases on
    all_goals
      go_wp2_with fail
      refine (SE _ HY1.out.x.geo.2.2.2).mono ?_
      rintro e w3 ⟨g3, cap3, rfl, ha3, hg3, h3⟩
      have Y3 := HY1.out.up h3
      have HY3 : Hid _ := Y3
      have HA3 : Hid (Arg w3 (some ⟨g3, 0, none⟩) cap3 (setb sl k _)) := ha3
      have hlt3 := HY1.out.res.lt
      clear q0 q1 q2 r0 r1 r2 s0 s1 s2 f0 f1 f2 g1 g2
      have q0 := Y3.x.geo.1; have q1 := Y3.x.geo.2.1; have q2 := Y3.x.geo.2.2.1; have r0 := Y3.x.head.c0; have r1 := Y3.x.head.c1; have r2 := Y3.x.head.c2; have s0 := Y3.res.c0; have s1 := Y3.res.c1; have s2 := Y3.res.c2; have f0 := Y3.res.fz 0; have f1 := Y3.res.fz 1; have f2 := Y3.res.fz 2; have g1 := Y3.x.head.fz 1; have g2 := Y3.x.head.fz 2
      clear Y3 h3 HY1 SE ha3
      go_wp2_with fail
      have HR3 : Hid _ := (HY3.out.res.other (q := w.heap.size + 1) (by omega) 2 (.slice (some ⟨g3, 0, none⟩) 8 cap3)).set (.int .i64 no) (.slice spb 16 capb) (.slice (some ⟨g3, 0, none⟩) 8 cap3)
      refine bodyPost_ret (results_r3 rfl _ _ (w.heap.size + 1 + 1) _ _ _ rfl HR3.out) rfl ⟨_, _, rfl, ?_, (by intro b off e; cases e; omega), below_set3 (HY3.out.x.geo.2.2.2.setCell (p := ⟨w.heap.size + 1, 2, none⟩) (show w.heap.size ≤ w.heap.size + 1 by omega) _) (by omega) _ _ _⟩
      have hne1 : ∀ b off, some (⟨g3, 0, none⟩ : Addr) = some ⟨b, off, none⟩ → b ≠ w.heap.size + 1 := by intro b off e; cases e; omega
      have hne2 : ∀ b off, some (⟨g3, 0, none⟩ : Addr) = some ⟨b, off, none⟩ → b ≠ w.heap.size + 1 + 1 := by intro b off e; cases e; omega
      exact (((HA3.out.other hne1 _ _).other hne2 _ _).other hne2 _ _).other hne2 _ _
end Go.Proofs.Ytfbbdpapnegmcaa
