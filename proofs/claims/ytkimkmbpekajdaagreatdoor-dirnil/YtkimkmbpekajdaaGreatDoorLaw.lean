/- For every slot and name: of no volume there are no directories, of a slot without a thing, with a file, or beyond all slots it is told, and known() answers true: so leveelaw16.DirNil returns true at every argument. Conditions: the reach of the row's form; the package's table is laid as the program's text lays it (the card ties it). -/
import Derived.Test.YtkimkmbpekajdaaGreatDoorPc1
import Derived.Test.YtkimkmbpekajdaaGreatDoorPc2
import Derived.Test.YtkimkmbpekajdaaGreatDoorPc3
import Derived.Test.YtkimkmbpekajdaaGreatDoorPc4
import Derived.Test.YtkimkmbpekajdaaGreatDoorPc5
import Derived.Test.YtkimkmbpekajdaaGreatDoorPc6
import Derived.Test.YtkimkmbpekajdaaGreatDoorPc7
import Derived.Test.YtkimkmbpekajdaaGreatDoorPc8
import Derived.Test.YtkimkmbpekajdaaGreatDoorRows
import Derived.Test.YtkimkmbpekajdaaGreatDoorTie
import Derived.Test.YtkimkmbpekajdaaGreatDoorCards
import Derived.SevenTiedAt
import Derived.Test.YtkimkmbpekajdaaGreatDoorFacts
import Derived.Lib.LaidTab
import Derived.ChangeArms
import Derived.LaidMore
namespace Go.Proofs.YtkimkmbpekajdaaGreatDoor
open Go.ChangeShapes Go.WideShapes Go.ChangeAt Go.RowKit Go.Ev Go.EvT
set_option maxRecDepth 100000
def tab : List Int := [0, 498536548, 997073096, 651767980, 1994146192, 1802195444, 1303535960, 1342533948, 3988292384, 4027552580, 3604390888, 3412177804, 2607071920, 2262029012, 2685067896, 3183342108]
def init : List (Nat × LB) := [(0, .row 246 0 (tab.map fun z => .mk 37 z.toNat 0 0 0 []))]
theorem ownV : ownKnob Tryz.prog.godebug = none := by kernel_rfl
theorem gQ : Tryz.prog.globalNamed "levee/num.quarters" = some 0 := by kernel_rfl
theorem tQ : (Tryz.prog.globals[0]?).map (·.type) = some 246 := by kernel_rfl
theorem cQ1 : Tryz.prog.cellsOf 176 = 1 := by kernel_rfl
theorem cQ16 : Tryz.prog.cellsOf 246 = 16 := by kernel_rfl
theorem laidOutV : laidOutB Tryz.prog = true := by kernel_rfl
def laidQ : List (String × DataW Unit) := [("levee/num.quarters", Rows.laid_levee_num_quarters)]
theorem door_met (os : Os) (args : Array Value) : laidMetH Tryz.prog laidQ ((World.doorLaid Tryz.prog 400 os).forCall (fun _ _ => 0) ⟨#[], args, []⟩).memory :=
  laidMetH_of_parts3 (fuel := 8) (laidMet_of_run' 8 (by kernel_rfl) (by kernel_rfl)) (by kernel_rfl) (by kernel_rfl)
theorem row0 : ((begin Tryz.prog (fun _ _ => 0) default).world.heap[0]?).bind Obj.row? = some ((tab.map fun _ => Value.int .u32 0).toArray, 246) := by kernel_rfl
theorem globalsN : Tryz.prog.globals.size = 1 := by kernel_rfl
theorem block0 {W : World} (hs : W.ShapedOpen Tryz.prog) (h : laidMetH Tryz.prog laidQ W) : W.heap[0]? = some (.cells (tab.map fun z => Value.int .u32 z).toArray 246) := by
  rw [MakeChecks.laidMetH_plain _ _ _ (by kernel_rfl)] at h
  have h2 : Lib.TabIs Tryz.prog W "levee/num.quarters" .u32 tab := Lib.tabIs_of_head gQ tQ Tryz.underlying246 Tryz.underlying176 cQ1 cQ16 h
  obtain ⟨cs, h3, _, _⟩ := hs.1 0 _ _ (by rw [globalsN]; decide) row0
  unfold Lib.TabIs World.var? at h2
  rw [gQ] at h2
  simp only [Option.bind_some, h3, Option.some.injEq] at h2
  rw [h3, h2]
theorem rep0 (D : Nat → Prop) (R : Ren) : BRep Tryz.prog D R 0 (.row 246 0 (tab.map fun z => .mk 37 z.toNat 0 0 0 [])) (some (.cells (tab.map fun z => Value.int .u32 z).toArray 246)) := by
  refine ⟨_, 0, 0, rfl, .inl rfl, tab.map fun z => Value.int .u32 z, [], fun R' _ => ?_, by simp, fun _ => rfl, fun z e => by cases e⟩
  simp only [tab, List.map, cellsOf, den, List.nil_append, List.cons_append]
  rfl
noncomputable def memos : List Memo := [mem7, mem6, mem5, mem4, mem3, mem2, mem1, mem0]
theorem memos_ok : ∀ m ∈ memos, MemoOk Tryz.prog m := by
  intro m hm
  simp only [memos, List.mem_cons, List.not_mem_nil, or_false] at hm
  rcases hm with rfl | rfl | rfl | rfl | rfl | rfl | rfl | rfl
  · exact EvT.pc7
  · exact EvT.pc6
  · exact EvT.pc5
  · exact EvT.pc4
  · exact EvT.pc3
  · exact EvT.pc2
  · exact EvT.pc1
  · exact EvT.pc0
/-- a call that was reckoned from the start is one of the machine's -/
theorem law_of {args : List V} {xs : List Value} {nx : Nat} {R : Ren} (hcl : closed EvT.E memos 100000 3 args nx init = true) (hnx : 1 ≤ nx) (hat : ∀ g, g < 1 → R.at_ g = g) (hd : DenL (fun i => i < nx) R args xs)
    (W : World) (hs : W.ShapedOpen Tryz.prog) (hL : laidMetH Tryz.prog laidQ W) : Go.Calls Tryz.prog 3 xs.toArray W fun e W' => e = .returned (.bool true) ∧ Below W.heap.size W W' := by
  have h0 := block0 hs hL
  have hsz : 0 < W.heap.size := by
    rcases Nat.lt_or_ge 0 W.heap.size with e | e
    · exact e
    · rw [Array.getElem?_eq_none (by omega)] at h0; cases h0
  have a0 : R.at_ 0 = 0 := hat 0 (by decide)
  refine closed_calls Go.EvT.envT memos_ok hcl ?_ ?_ hd ?_
  · intro p hp
    obtain rfl : p = _ := by simpa [init] using hp
    show R.at_ 0 < _ ∧ BRep _ _ _ _ _ W.heap[R.at_ 0]?
    rw [a0]
    refine ⟨hsz, ?_⟩
    rw [h0]
    exact rep0 _ _
  · intro p hp q hq _
    obtain rfl : p = _ := by simpa [init] using hp
    obtain rfl : q = _ := by simpa [init] using hq
    rfl
  · intro g hg
    rw [globalsN] at hg
    exact ⟨Nat.lt_of_lt_of_le hg hnx, hat g hg⟩
theorem run00 : closed EvT.E memos 100000 3 [.mk 21 10 0 5 0 [], .mk 19 20 21 0 0 []] 100 init = true := by kernel_rfl
theorem run10 : closed EvT.E memos 100000 3 [.mk 21 10 0 5 1 [], .mk 19 20 21 0 0 []] 100 init = true := by kernel_rfl
theorem run20 : closed EvT.E memos 100000 3 [.mk 21 10 0 5 2 [], .mk 19 20 21 0 0 []] 100 init = true := by kernel_rfl
theorem run30 : closed EvT.E memos 100000 3 [.mk 21 10 0 5 3 [], .mk 19 20 21 0 0 []] 100 init = true := by kernel_rfl
theorem run40 : closed EvT.E memos 100000 3 [.mk 21 10 0 5 4 [], .mk 19 20 21 0 0 []] 100 init = true := by kernel_rfl
theorem run50 : closed EvT.E memos 100000 3 [.mk 21 10 1 5 0 [], .mk 19 20 21 0 0 []] 100 init = true := by kernel_rfl
theorem run60 : closed EvT.E memos 100000 3 [.mk 21 10 1 5 1 [], .mk 19 20 21 0 0 []] 100 init = true := by kernel_rfl
theorem run70 : closed EvT.E memos 100000 3 [.mk 21 10 1 5 2 [], .mk 19 20 21 0 0 []] 100 init = true := by kernel_rfl
theorem run80 : closed EvT.E memos 100000 3 [.mk 21 10 1 5 3 [], .mk 19 20 21 0 0 []] 100 init = true := by kernel_rfl
theorem run90 : closed EvT.E memos 100000 3 [.mk 21 10 1 5 4 [], .mk 19 20 21 0 0 []] 100 init = true := by kernel_rfl
theorem law_any (a : Int) (ha : (Lit.int .i64 a).wf = true) (b : ByteArray) (W : World) (hs : W.ShapedOpen Tryz.prog) (hL : laidMetH Tryz.prog laidQ W) :
    Go.Calls Tryz.prog 3 #[.int .i64 a, .string b] W fun e W' => e = .returned (.bool true) ∧ Below W.heap.size W W' := by
  rcases sgn_or a with ea | ea <;> rcases rest5_or a with fa | fa | fa | fa | fa
  · refine law_of (R := { at_ := fun i => i, room := fun i => if i = 10 then a.natAbs / 5 else if i = 20 then b.size else if i = 21 then ofBytes b.data.toList else 0 }) run00 (by decide) (fun g hg => by
      have : g < 1 := hg
      have : g ≠ 10 ∧ g ≠ 20 ∧ g ≠ 30 ∧ g ≠ 40 := by omega
      first | rfl | simp [this]) (fun R' hR' => ?_) W hs hL
    · have hR' : ∀ i, i < 100 → R'.at_ i = _ ∧ R'.room i = _ := hR'
      have r10 : R'.room 10 = a.natAbs / 5 := (hR' 10 (by decide)).2
      have d10 := den_rest R' 10 5 a ha r10
      rw [ea, fa] at d10
      have d20 := den_txt R' 20 21 b (hR' 20 (by decide)).2 (hR' 21 (by decide)).2
      simp only [denL]
      rw [d10, d20]
  · refine law_of (R := { at_ := fun i => i, room := fun i => if i = 10 then a.natAbs / 5 else if i = 20 then b.size else if i = 21 then ofBytes b.data.toList else 0 }) run10 (by decide) (fun g hg => by
      have : g < 1 := hg
      have : g ≠ 10 ∧ g ≠ 20 ∧ g ≠ 30 ∧ g ≠ 40 := by omega
      first | rfl | simp [this]) (fun R' hR' => ?_) W hs hL
    · have hR' : ∀ i, i < 100 → R'.at_ i = _ ∧ R'.room i = _ := hR'
      have r10 : R'.room 10 = a.natAbs / 5 := (hR' 10 (by decide)).2
      have d10 := den_rest R' 10 5 a ha r10
      rw [ea, fa] at d10
      have d20 := den_txt R' 20 21 b (hR' 20 (by decide)).2 (hR' 21 (by decide)).2
      simp only [denL]
      rw [d10, d20]
  · refine law_of (R := { at_ := fun i => i, room := fun i => if i = 10 then a.natAbs / 5 else if i = 20 then b.size else if i = 21 then ofBytes b.data.toList else 0 }) run20 (by decide) (fun g hg => by
      have : g < 1 := hg
      have : g ≠ 10 ∧ g ≠ 20 ∧ g ≠ 30 ∧ g ≠ 40 := by omega
      first | rfl | simp [this]) (fun R' hR' => ?_) W hs hL
    · have hR' : ∀ i, i < 100 → R'.at_ i = _ ∧ R'.room i = _ := hR'
      have r10 : R'.room 10 = a.natAbs / 5 := (hR' 10 (by decide)).2
      have d10 := den_rest R' 10 5 a ha r10
      rw [ea, fa] at d10
      have d20 := den_txt R' 20 21 b (hR' 20 (by decide)).2 (hR' 21 (by decide)).2
      simp only [denL]
      rw [d10, d20]
  · refine law_of (R := { at_ := fun i => i, room := fun i => if i = 10 then a.natAbs / 5 else if i = 20 then b.size else if i = 21 then ofBytes b.data.toList else 0 }) run30 (by decide) (fun g hg => by
      have : g < 1 := hg
      have : g ≠ 10 ∧ g ≠ 20 ∧ g ≠ 30 ∧ g ≠ 40 := by omega
      first | rfl | simp [this]) (fun R' hR' => ?_) W hs hL
    · have hR' : ∀ i, i < 100 → R'.at_ i = _ ∧ R'.room i = _ := hR'
      have r10 : R'.room 10 = a.natAbs / 5 := (hR' 10 (by decide)).2
      have d10 := den_rest R' 10 5 a ha r10
      rw [ea, fa] at d10
      have d20 := den_txt R' 20 21 b (hR' 20 (by decide)).2 (hR' 21 (by decide)).2
      simp only [denL]
      rw [d10, d20]
  · refine law_of (R := { at_ := fun i => i, room := fun i => if i = 10 then a.natAbs / 5 else if i = 20 then b.size else if i = 21 then ofBytes b.data.toList else 0 }) run40 (by decide) (fun g hg => by
      have : g < 1 := hg
      have : g ≠ 10 ∧ g ≠ 20 ∧ g ≠ 30 ∧ g ≠ 40 := by omega
      first | rfl | simp [this]) (fun R' hR' => ?_) W hs hL
    · have hR' : ∀ i, i < 100 → R'.at_ i = _ ∧ R'.room i = _ := hR'
      have r10 : R'.room 10 = a.natAbs / 5 := (hR' 10 (by decide)).2
      have d10 := den_rest R' 10 5 a ha r10
      rw [ea, fa] at d10
      have d20 := den_txt R' 20 21 b (hR' 20 (by decide)).2 (hR' 21 (by decide)).2
      simp only [denL]
      rw [d10, d20]
  · refine law_of (R := { at_ := fun i => i, room := fun i => if i = 10 then a.natAbs / 5 else if i = 20 then b.size else if i = 21 then ofBytes b.data.toList else 0 }) run50 (by decide) (fun g hg => by
      have : g < 1 := hg
      have : g ≠ 10 ∧ g ≠ 20 ∧ g ≠ 30 ∧ g ≠ 40 := by omega
      first | rfl | simp [this]) (fun R' hR' => ?_) W hs hL
    · have hR' : ∀ i, i < 100 → R'.at_ i = _ ∧ R'.room i = _ := hR'
      have r10 : R'.room 10 = a.natAbs / 5 := (hR' 10 (by decide)).2
      have d10 := den_rest R' 10 5 a ha r10
      rw [ea, fa] at d10
      have d20 := den_txt R' 20 21 b (hR' 20 (by decide)).2 (hR' 21 (by decide)).2
      simp only [denL]
      rw [d10, d20]
  · refine law_of (R := { at_ := fun i => i, room := fun i => if i = 10 then a.natAbs / 5 else if i = 20 then b.size else if i = 21 then ofBytes b.data.toList else 0 }) run60 (by decide) (fun g hg => by
      have : g < 1 := hg
      have : g ≠ 10 ∧ g ≠ 20 ∧ g ≠ 30 ∧ g ≠ 40 := by omega
      first | rfl | simp [this]) (fun R' hR' => ?_) W hs hL
    · have hR' : ∀ i, i < 100 → R'.at_ i = _ ∧ R'.room i = _ := hR'
      have r10 : R'.room 10 = a.natAbs / 5 := (hR' 10 (by decide)).2
      have d10 := den_rest R' 10 5 a ha r10
      rw [ea, fa] at d10
      have d20 := den_txt R' 20 21 b (hR' 20 (by decide)).2 (hR' 21 (by decide)).2
      simp only [denL]
      rw [d10, d20]
  · refine law_of (R := { at_ := fun i => i, room := fun i => if i = 10 then a.natAbs / 5 else if i = 20 then b.size else if i = 21 then ofBytes b.data.toList else 0 }) run70 (by decide) (fun g hg => by
      have : g < 1 := hg
      have : g ≠ 10 ∧ g ≠ 20 ∧ g ≠ 30 ∧ g ≠ 40 := by omega
      first | rfl | simp [this]) (fun R' hR' => ?_) W hs hL
    · have hR' : ∀ i, i < 100 → R'.at_ i = _ ∧ R'.room i = _ := hR'
      have r10 : R'.room 10 = a.natAbs / 5 := (hR' 10 (by decide)).2
      have d10 := den_rest R' 10 5 a ha r10
      rw [ea, fa] at d10
      have d20 := den_txt R' 20 21 b (hR' 20 (by decide)).2 (hR' 21 (by decide)).2
      simp only [denL]
      rw [d10, d20]
  · refine law_of (R := { at_ := fun i => i, room := fun i => if i = 10 then a.natAbs / 5 else if i = 20 then b.size else if i = 21 then ofBytes b.data.toList else 0 }) run80 (by decide) (fun g hg => by
      have : g < 1 := hg
      have : g ≠ 10 ∧ g ≠ 20 ∧ g ≠ 30 ∧ g ≠ 40 := by omega
      first | rfl | simp [this]) (fun R' hR' => ?_) W hs hL
    · have hR' : ∀ i, i < 100 → R'.at_ i = _ ∧ R'.room i = _ := hR'
      have r10 : R'.room 10 = a.natAbs / 5 := (hR' 10 (by decide)).2
      have d10 := den_rest R' 10 5 a ha r10
      rw [ea, fa] at d10
      have d20 := den_txt R' 20 21 b (hR' 20 (by decide)).2 (hR' 21 (by decide)).2
      simp only [denL]
      rw [d10, d20]
  · refine law_of (R := { at_ := fun i => i, room := fun i => if i = 10 then a.natAbs / 5 else if i = 20 then b.size else if i = 21 then ofBytes b.data.toList else 0 }) run90 (by decide) (fun g hg => by
      have : g < 1 := hg
      have : g ≠ 10 ∧ g ≠ 20 ∧ g ≠ 30 ∧ g ≠ 40 := by omega
      first | rfl | simp [this]) (fun R' hR' => ?_) W hs hL
    · have hR' : ∀ i, i < 100 → R'.at_ i = _ ∧ R'.room i = _ := hR'
      have r10 : R'.room 10 = a.natAbs / 5 := (hR' 10 (by decide)).2
      have d10 := den_rest R' 10 5 a ha r10
      rw [ea, fa] at d10
      have d20 := den_txt R' 20 21 b (hR' 20 (by decide)).2 (hR' 21 (by decide)).2
      simp only [denL]
      rw [d10, d20]
theorem law_lifted (os : Os) (started : os.Started) (H : Type) (enc : TypeId × Value → H) :
    ReturnsInHanded {} Tryz.checked os 3 .any (fun w args => (Rows.dirNilSpec.pre enc Tryz.prog Tryz.f3 [] false w args ∧ laidMetH Tryz.prog laidQ w) ∧ sizedMet enc Tryz.prog Tryz.f3 (OpenSpec.ofChange Rows.dirNilSpec) false w args)
      (Rows.dirNilSpec.post enc Tryz.prog Tryz.f3 false true false false) := by
  refine handed_shaped (C := Tryz.checked) (X := fun w _ => laidMetH Tryz.prog laidQ w) (fun _ _ _ hh h => h.of_heap hh) ownV started (by kernel_rfl) Tryz.func3
    (ChangeSpec.witness_shaped (enc := enc) (C := Tryz.checked) (os := os) (X := fun w _ => laidMetH Tryz.prog laidQ w) false (World.doorLaid Tryz.prog 400 os) #[.int .i64 0, .string ⟨#[]⟩] 8 rfl (World.shaped_of_RefB (by kernel_rfl) (by kernel_rfl)) (by kernel_rfl) (by kernel_rfl) (by kernel_rfl) (door_met os _)) ?_
  intro W base args ds gs before hsh hval0 hW hL
  have hval : ∀ (j : Nat) t v, Tryz.f3.params[j]? = some t → args[j]? = some v → Value.okWide Tryz.prog W .any base t v := hval0
  have hW' := hW
  obtain ⟨p, q, hA0, hV, rfl, hfz, hnd⟩ := hW
  have hA : DataW.TrodAll enc Tryz.prog W 0 (fun _ => true) true Tryz.f3.params.toList args.toList ds p := hA0
  rw [Tryz.params3] at hA hval
  obtain ⟨v0, vs0, d0, ds0, p0, q0, hargs, rfl, rfl, h0, r0⟩ := trodAll_cons hA
  obtain ⟨v1, vs1, d1, ds1, p1, q1, rfl, rfl, rfl, h1, r1⟩ := trodAll_cons r0
  obtain ⟨rfl, rfl, rfl⟩ := trodAll_nil r1
  obtain rfl : args = #[v0, v1] := by cases args; simp_all
  obtain ⟨rfl, rfl⟩ := trodVars_none hV
  obtain ⟨a0, rfl, rfl, rfl, w0⟩ := open_int Tryz.underlying3 (hval 0 3 v0 rfl rfl) h0
  have k1 := h1
  have lt1 : ∀ x ∈ p1, x.block < W.heap.size := by obtain ⟨m, hm⟩ := k1; exact DataW.trod_lt m _ _ _ hm
  obtain ⟨a1, rfl⟩ := okWide_string Tryz.underlying9 (hval 1 9 v1 rfl rfl)
  clear hA0 hval0
  have WALK := law_any a0 w0 a1 W hsh hL
  refine WALK.mono fun e W' ⟨he, bel⟩ => ?_
  subst he
  exact ⟨_, rfl, _, _, _, [], _, [], hW', trodAll_mk1 (shut_bool Tryz.underlying4 _), (trodAll_cons_mk (shut_int Tryz.underlying3 w0) (trodAll_cons_mk (Below.trod laidOutV (by kernel_rfl) (of_decide_eq_true (by kernel_rfl)) k1 bel lt1) trodAll_mk0)), rfl, bel.frame _, fun h => by cases h⟩
theorem law_over : Rows.DirNilSaid :=
  OpenClaim.holds_of_wide 3 Tryz.f3 rfl rfl rfl rfl rfl rfl rfl ⟨rfl, rfl, rfl, rfl, rfl⟩ rfl rfl rfl rfl rfl cfE Tryz.func3 facts
    (of_decide_eq_true (by kernel_rfl)) (by unfold Func.isWrapper; first | (rw [if_pos (by decide +kernel)]; kernel_rfl) | (rw [if_neg (by decide +kernel)]; exact ⟨rfl, rfl⟩))
    (fun os started H enc _ => law_lifted os started H enc)
theorem dirNil_card : Rows.DirNilCardSaid :=
  Claim7.holds_tied_plain_at .later [] [.data] true (true, "87dc4ef8dbbf1a7a8b12d39bdf916394abff40822951bbc43dbf74b1ce223f81") false
    law_over (fun _ h => by cases h) cfA (fun _ h => by cases h) dirNil_row_tie rfl ⟨rfl, rfl⟩ cfB rfl
    (fun f fn hf hfn => by
      obtain rfl : f = 3 := Option.some.inj ((cfE).symm.trans hf) |>.symm
      obtain rfl : fn = Tryz.f3 := (Option.some.inj (Tryz.func3.symm.trans hfn)).symm
      exact ⟨cfC, fun j t ht => by
        rw [Tryz.params3] at ht
        have hm : t ∈ [3, 9] := by simpa using Array.mem_of_getElem? ht
        have hall : ([3, 9].all fun u => !Tryz.prog.wantsStandIn u) = true := by kernel_rfl
        exact (show Tryz.prog.wantsStandIn t = false by simpa using List.all_eq_true.1 hall t hm)⟩)
    cfD
#print axioms dirNil_card
end Go.Proofs.YtkimkmbpekajdaaGreatDoor
