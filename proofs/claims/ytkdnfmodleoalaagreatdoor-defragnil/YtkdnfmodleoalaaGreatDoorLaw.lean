/- For every number: of no volume nothing is put in order, and known() answers true: so leveelaw25.DefragNil returns true at every argument. Conditions: the reach of the row's form; the package's table is laid as the program's text lays it (the card ties it). -/
import Derived.Test.YtkdnfmodleoalaaGreatDoorPc1
import Derived.Test.YtkdnfmodleoalaaGreatDoorPc2
import Derived.Test.YtkdnfmodleoalaaGreatDoorPc3
import Derived.Test.YtkdnfmodleoalaaGreatDoorPc4
import Derived.Test.YtkdnfmodleoalaaGreatDoorPc5
import Derived.Test.YtkdnfmodleoalaaGreatDoorPc6
import Derived.Test.YtkdnfmodleoalaaGreatDoorPc7
import Derived.Test.YtkdnfmodleoalaaGreatDoorPc8
import Derived.Test.YtkdnfmodleoalaaGreatDoorPc9
import Derived.Test.YtkdnfmodleoalaaGreatDoorPc10
import Derived.Test.YtkdnfmodleoalaaGreatDoorPc11
import Derived.Test.YtkdnfmodleoalaaGreatDoorPc12
import Derived.Test.YtkdnfmodleoalaaGreatDoorPc13
import Derived.Test.YtkdnfmodleoalaaGreatDoorPc14
import Derived.Test.YtkdnfmodleoalaaGreatDoorPc15
import Derived.Test.YtkdnfmodleoalaaGreatDoorPc16
import Derived.Test.YtkdnfmodleoalaaGreatDoorPc17
import Derived.Test.YtkdnfmodleoalaaGreatDoorPc18
import Derived.Test.YtkdnfmodleoalaaGreatDoorPc19
import Derived.Test.YtkdnfmodleoalaaGreatDoorPc20
import Derived.Test.YtkdnfmodleoalaaGreatDoorPc21
import Derived.Test.YtkdnfmodleoalaaGreatDoorPc22
import Derived.Test.YtkdnfmodleoalaaGreatDoorPc23
import Derived.Test.YtkdnfmodleoalaaGreatDoorPc24
import Derived.Test.YtkdnfmodleoalaaGreatDoorPc25
import Derived.Test.YtkdnfmodleoalaaGreatDoorPc26
import Derived.Test.YtkdnfmodleoalaaGreatDoorPc27
import Derived.Test.YtkdnfmodleoalaaGreatDoorPc28
import Derived.Test.YtkdnfmodleoalaaGreatDoorPc29
import Derived.Test.YtkdnfmodleoalaaGreatDoorPc30
import Derived.Test.YtkdnfmodleoalaaGreatDoorPc31
import Derived.Test.YtkdnfmodleoalaaGreatDoorPc32
import Derived.Test.YtkdnfmodleoalaaGreatDoorRows
import Derived.Test.YtkdnfmodleoalaaGreatDoorTie
import Derived.Test.YtkdnfmodleoalaaGreatDoorCards
import Derived.SevenTiedAt
import Derived.Test.YtkdnfmodleoalaaGreatDoorFacts
import Derived.Lib.LaidTab
import Derived.ChangeArms
import Derived.Lay
namespace Go.Proofs.YtkdnfmodleoalaaGreatDoor
open Go.ChangeShapes Go.WideShapes Go.ChangeAt Go.RowKit Go.Ev Go.EvT
set_option maxRecDepth 100000
def tab : List Int := [0, 498536548, 997073096, 651767980, 1994146192, 1802195444, 1303535960, 1342533948, 3988292384, 4027552580, 3604390888, 3412177804, 2607071920, 2262029012, 2685067896, 3183342108]
def init : List (Nat × LB) := [(0, .row 312 0 (tab.map fun z => .mk 37 z.toNat 0 0 0 []))]
theorem ownV : ownKnob Tryz.prog.godebug = none := by kernel_rfl
theorem gQ : Tryz.prog.globalNamed "levee/num.quarters" = some 0 := by kernel_rfl
theorem tQ : (Tryz.prog.globals[0]?).map (·.type) = some 312 := by kernel_rfl
theorem cQ1 : Tryz.prog.cellsOf 238 = 1 := by kernel_rfl
theorem cQ16 : Tryz.prog.cellsOf 312 = 16 := by kernel_rfl

def laidQ : List (String × DataW Unit) := [("levee/num.quarters", Rows.laid_levee_num_quarters), ("unicode/utf8.acceptRanges", Rows.laid_unicode_utf8_acceptRanges), ("unicode/utf8.first", Rows.laid_unicode_utf8_first)]
theorem row0 : ((begin Tryz.prog (fun _ _ => 0) default).world.heap[0]?).bind Obj.row? = some ((tab.map fun _ => Value.int .u32 0).toArray, 312) := by kernel_rfl
theorem globalsN : Tryz.prog.globals.size = 4 := by kernel_rfl
theorem block0 {W : World} (hs : W.ShapedOpen Tryz.prog) (h : laidMetH Tryz.prog laidQ W) : W.heap[0]? = some (.cells (tab.map fun z => Value.int .u32 z).toArray 312) := by
  rw [MakeChecks.laidMetH_plain _ _ _ (by kernel_rfl)] at h
  have h2 : Lib.TabIs Tryz.prog W "levee/num.quarters" .u32 tab := Lib.tabIs_of_head gQ tQ Tryz.underlying312 Tryz.underlying238 cQ1 cQ16 h
  obtain ⟨cs, h3, _, _⟩ := hs.1 0 _ _ (by rw [globalsN]; decide) row0
  unfold Lib.TabIs World.var? at h2
  rw [gQ] at h2
  simp only [Option.bind_some, h3, Option.some.injEq] at h2
  rw [h3, h2]
theorem rep0 (D : Nat → Prop) (R : Ren) (hb : R.base 0 = 0) : BRep Tryz.prog D R 0 (.row 312 0 (tab.map fun z => .mk 37 z.toNat 0 0 0 [])) (some (.cells (tab.map fun z => Value.int .u32 z).toArray 312)) := by
  refine ⟨_, 0, 0, rfl, .inl rfl, [], tab.map fun z => Value.int .u32 z, [], fun R' _ => ?_, by simp, by rw [hb]; rfl, fun _ => ⟨rfl, hb⟩, fun z e => by cases e⟩
  simp only [tab, List.map, cellsOf, den, List.nil_append, List.cons_append]
  rfl
noncomputable def memos : List Memo := [mem31, mem30, mem29, mem28, mem27, mem26, mem25, mem24, mem23, mem22, mem21, mem20, mem19, mem18, mem17, mem16, mem15, mem14, mem13, mem12, mem11, mem10, mem9, mem8, mem7, mem6, mem5, mem4, mem3, mem2, mem1, mem0]
theorem memos_ok : ∀ m ∈ memos, MemoOk Tryz.prog m := by
  intro m hm
  simp only [memos, List.mem_cons, List.not_mem_nil, or_false] at hm
  rcases hm with rfl | rfl | rfl | rfl | rfl | rfl | rfl | rfl | rfl | rfl | rfl | rfl | rfl | rfl | rfl | rfl | rfl | rfl | rfl | rfl | rfl | rfl | rfl | rfl | rfl | rfl | rfl | rfl | rfl | rfl | rfl | rfl
  · exact EvT.pc31
  · exact EvT.pc30
  · exact EvT.pc29
  · exact EvT.pc28
  · exact EvT.pc27
  · exact EvT.pc26
  · exact EvT.pc25
  · exact EvT.pc24
  · exact EvT.pc23
  · exact EvT.pc22
  · exact EvT.pc21
  · exact EvT.pc20
  · exact EvT.pc19
  · exact EvT.pc18
  · exact EvT.pc17
  · exact EvT.pc16
  · exact EvT.pc15
  · exact EvT.pc14
  · exact EvT.pc13
  · exact EvT.pc12
  · exact EvT.pc11
  · exact EvT.pc10
  · exact EvT.pc9
  · exact EvT.pc8
  · exact EvT.pc7
  · exact EvT.pc6
  · exact EvT.pc5
  · exact EvT.pc4
  · exact EvT.pc3
  · exact EvT.pc2
  · exact EvT.pc1
  · exact EvT.pc0
/-- a call that was reckoned from the start is one of the machine's -/
theorem law_of {args : List V} {xs : List Value} {nx : Nat} {R : Ren} (hcl : closed EvT.E memos 100000 3 args nx init = true) (hnx : 4 ≤ nx) (hat : ∀ g, g < 4 → R.at_ g = g) (hbs : ∀ i, R.base i = 0) (hd : DenL (fun i => i < nx) R args xs)
    (W : World) (hs : W.ShapedOpen Tryz.prog) (hL : laidMetH Tryz.prog laidQ W) : Go.Calls Tryz.prog 3 xs.toArray W fun e W' => e = .returned (.bool true) ∧ Below W.heap.size W W' := by
  have h0 := block0 hs hL
  have hsz : 0 < W.heap.size := by
    rcases Nat.lt_or_ge 0 W.heap.size with e | e
    · exact e
    · rw [Array.getElem?_eq_none (by omega)] at h0; cases h0
  have a0 : R.at_ 0 = 0 := hat 0 (by decide)
  refine closed_calls Go.EvT.envT memos_ok hcl ?_ ?_ hd ?_
  · intro p hp
    obtain rfl : p = _ := by simpa [init] using hp
    show R.at_ 0 < _ ∧ BRep _ _ _ _ _ W.heap[R.at_ 0]?
    rw [a0]
    refine ⟨hsz, ?_⟩
    rw [h0]
    exact rep0 _ _ (hbs _)
  · intro p hp q hq _
    obtain rfl : p = _ := by simpa [init] using hp
    obtain rfl : q = _ := by simpa [init] using hq
    rfl
  · intro g hg
    rw [globalsN] at hg
    exact ⟨Nat.lt_of_lt_of_le hg hnx, hat g hg, hbs g⟩
theorem run0 : closed EvT.E memos 100000 3 [.mk 18 10 0 0 0 []] 100 init = true := by kernel_rfl
theorem run1 : closed EvT.E memos 100000 3 [.mk 18 10 1 0 0 []] 100 init = true := by kernel_rfl
theorem law_any (a : Int) (ha : (Lit.int .i64 a).wf = true) (W : World) (hs : W.ShapedOpen Tryz.prog) (hL : laidMetH Tryz.prog laidQ W) :
    Go.Calls Tryz.prog 3 #[.int .i64 a] W fun e W' => e = .returned (.bool true) ∧ Below W.heap.size W W' := by
  rcases sgn_or a with ea | ea
  · refine law_of (R := { at_ := fun i => i, room := fun i => if i = 10 then mag a else 0, base := fun _ => 0 }) run0 (by decide) (fun g hg => by
      have : g < 4 := hg
      have : g ≠ 10 ∧ g ≠ 20 ∧ g ≠ 30 ∧ g ≠ 40 := by omega
      first | rfl | simp [this]) (fun _ => rfl) (fun R' hR' => ?_) W hs hL
    · have hR' : ∀ i, i < 100 → R'.at_ i = _ ∧ R'.room i = _ ∧ R'.base i = _ := hR'
      have r10 : R'.room 10 = mag a := (hR' 10 (by decide)).2.1
      have d10 := den_sgn R' 10 a ha r10
      rw [ea] at d10
      simp only [denL]
      rw [d10]
  · refine law_of (R := { at_ := fun i => i, room := fun i => if i = 10 then mag a else 0, base := fun _ => 0 }) run1 (by decide) (fun g hg => by
      have : g < 4 := hg
      have : g ≠ 10 ∧ g ≠ 20 ∧ g ≠ 30 ∧ g ≠ 40 := by omega
      first | rfl | simp [this]) (fun _ => rfl) (fun R' hR' => ?_) W hs hL
    · have hR' : ∀ i, i < 100 → R'.at_ i = _ ∧ R'.room i = _ ∧ R'.base i = _ := hR'
      have r10 : R'.room 10 = mag a := (hR' 10 (by decide)).2.1
      have d10 := den_sgn R' 10 a ha r10
      rw [ea] at d10
      simp only [denL]
      rw [d10]
theorem law_lifted (os : Os) (started : os.Started) (H : Type) (enc : TypeId × Value → H) :
    ReturnsInHanded {} Tryz.checked os 3 .any (fun w args => (Rows.defragNilSpec.pre enc Tryz.prog Tryz.f3 [] false w args ∧ laidMetH Tryz.prog laidQ w) ∧ sizedMet enc Tryz.prog Tryz.f3 (OpenSpec.ofChange Rows.defragNilSpec) false w args)
      (Rows.defragNilSpec.post enc Tryz.prog Tryz.f3 false true false false) := by
  refine handed_shaped (C := Tryz.checked) (X := fun w _ => laidMetH Tryz.prog laidQ w) (fun _ _ _ hh h => h.of_heap hh) ownV started (by kernel_rfl) Tryz.func3
    (ChangeSpec.witness_shaped (enc := enc) (C := Tryz.checked) (os := os) (X := fun w _ => laidMetH Tryz.prog laidQ w) false (World.laidAll Tryz.prog os laidQ) #[.int .i64 0] 8 (World.laidAll_os _ _ _) (World.shaped_of_ZipB (by kernel_rfl) (by kernel_rfl)) (by kernel_rfl) (by kernel_rfl) (by kernel_rfl) (by rw [MakeChecks.laidMetH_plain _ _ _ (by kernel_rfl)]; exact laidMet_laidAll _ (by kernel_rfl) (by kernel_rfl))) ?_
  intro W base args ds gs before hsh hval0 hW hL
  have hval : ∀ (j : Nat) t v, Tryz.f3.params[j]? = some t → args[j]? = some v → Value.okWide Tryz.prog W .any base t v := hval0
  have hW' := hW
  obtain ⟨p, q, hA0, hV, rfl, hfz, hnd⟩ := hW
  have hA : DataW.TrodAll enc Tryz.prog W 0 (fun _ => true) true Tryz.f3.params.toList args.toList ds p := hA0
  rw [Tryz.params3] at hA hval
  obtain ⟨v0, vs0, d0, ds0, p0, q0, hargs, rfl, rfl, h0, r0⟩ := trodAll_cons hA
  obtain ⟨rfl, rfl, rfl⟩ := trodAll_nil r0
  obtain rfl : args = #[v0] := by cases args; simp_all
  obtain ⟨rfl, rfl⟩ := trodVars_none hV
  obtain ⟨a0, rfl, rfl, rfl, w0⟩ := open_int Tryz.underlying3 (hval 0 3 v0 rfl rfl) h0
  clear hA0 hval0
  have WALK := law_any a0 w0 W hsh hL
  refine WALK.mono fun e W' ⟨he, bel⟩ => ?_
  subst he
  exact ⟨_, rfl, _, _, _, [], _, [], hW', trodAll_mk1 (shut_bool Tryz.underlying4 _), (trodAll_cons_mk (shut_int Tryz.underlying3 w0) trodAll_mk0), rfl, bel.frame _, fun h => by cases h⟩
theorem law_over : Rows.DefragNilSaid :=
  OpenClaim.holds_of_wide 3 Tryz.f3 rfl rfl rfl rfl rfl rfl rfl ⟨rfl, rfl, rfl, rfl, rfl⟩ rfl rfl rfl rfl rfl cfE Tryz.func3 facts
    (of_decide_eq_true (by kernel_rfl)) (by unfold Func.isWrapper; first | (rw [if_pos (by decide +kernel)]; kernel_rfl) | (rw [if_neg (by decide +kernel)]; exact ⟨rfl, rfl⟩))
    (fun os started H enc _ => law_lifted os started H enc)
theorem defragNil_card : Rows.DefragNilCardSaid :=
  Claim7.holds_tied_plain_at .later [] [.data, .data, .pinned] true (true, "08f06fcb58fb3fcbe99cd5e39246bc905864252f7ab857ea3d097397251b8ed0") false
    law_over (fun _ h => by cases h) cfA (fun _ h => by cases h) defragNil_row_tie rfl ⟨rfl, rfl⟩ cfB rfl
    (fun f fn hf hfn => by
      obtain rfl : f = 3 := Option.some.inj ((cfE).symm.trans hf) |>.symm
      obtain rfl : fn = Tryz.f3 := (Option.some.inj (Tryz.func3.symm.trans hfn)).symm
      exact ⟨cfC, fun j t ht => by
        rw [Tryz.params3] at ht
        have hm : t ∈ [3] := by simpa using Array.mem_of_getElem? ht
        have hall : ([3].all fun u => !Tryz.prog.wantsStandIn u) = true := by kernel_rfl
        exact (show Tryz.prog.wantsStandIn t = false by simpa using List.all_eq_true.1 hall t hm)⟩)
    cfD
#print axioms defragNil_card
end Go.Proofs.YtkdnfmodleoalaaGreatDoor
