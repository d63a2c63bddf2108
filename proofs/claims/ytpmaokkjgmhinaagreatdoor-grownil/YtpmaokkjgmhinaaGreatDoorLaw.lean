/- For every number: of no volume nothing gets larger, and known() answers true: so leveelaw23.GrowNil returns true at every argument. Conditions: the reach of the row's form; the package's table is laid as the program's text lays it (the card ties it). -/
import Derived.Test.YtpmaokkjgmhinaaGreatDoorPc1
import Derived.Test.YtpmaokkjgmhinaaGreatDoorPc2
import Derived.Test.YtpmaokkjgmhinaaGreatDoorPc3
import Derived.Test.YtpmaokkjgmhinaaGreatDoorRows
import Derived.Test.YtpmaokkjgmhinaaGreatDoorTie
import Derived.Test.YtpmaokkjgmhinaaGreatDoorCards
import Derived.SevenTiedAt
import Derived.Lib.LaidTab
namespace Go.Proofs.YtpmaokkjgmhinaaGreatDoor
open Go.ChangeShapes Go.WideShapes Go.ChangeAt Go.RowKit Go.Ev Go.EvT
set_option maxRecDepth 100000
def tab : List Int := [0, 498536548, 997073096, 651767980, 1994146192, 1802195444, 1303535960, 1342533948, 3988292384, 4027552580, 3604390888, 3412177804, 2607071920, 2262029012, 2685067896, 3183342108]
def init : List (Nat × LB) := [(0, .row 256 0 (tab.map fun z => .mk 37 z.toNat 0 0 0 []))]
theorem ownV : ownKnob Tryz.prog.godebug = none := by kernel_rfl
theorem gQ : Tryz.prog.globalNamed "levee/num.quarters" = some 0 := by kernel_rfl
theorem tQ : (Tryz.prog.globals[0]?).map (·.type) = some 256 := by kernel_rfl
theorem cQ1 : Tryz.prog.cellsOf 210 = 1 := by kernel_rfl
theorem cQ16 : Tryz.prog.cellsOf 256 = 16 := by kernel_rfl
def laidQ : List (String × DataW Unit) := [("levee/num.quarters", Rows.laid_levee_num_quarters)]
theorem door_met (os : Os) (args : Array Value) : laidMetH Tryz.prog laidQ ((World.doorLaid Tryz.prog 400 os).forCall (fun _ _ => 0) ⟨#[], args, []⟩).memory :=
  laidMetH_of_parts3 (fuel := 8) (laidMet_of_run' 8 (by kernel_rfl) (by kernel_rfl)) (by kernel_rfl) (by kernel_rfl)
theorem row0 : ((begin Tryz.prog (fun _ _ => 0) default).world.heap[0]?).bind Obj.row? = some ((tab.map fun _ => Value.int .u32 0).toArray, 256) := by kernel_rfl
theorem globals1 : Tryz.prog.globals.size = 1 := by kernel_rfl
theorem block0 {W : World} (hs : W.ShapedOpen Tryz.prog) (h : laidMetH Tryz.prog laidQ W) : W.heap[0]? = some (.cells (tab.map fun z => Value.int .u32 z).toArray 256) := by
  rw [MakeChecks.laidMetH_plain _ _ _ (by kernel_rfl)] at h
  have h2 : Lib.TabIs Tryz.prog W "levee/num.quarters" .u32 tab := Lib.tabIs_of_head (rest := []) gQ tQ Tryz.underlying256 Tryz.underlying210 cQ1 cQ16 h
  obtain ⟨cs, h3, _, _⟩ := hs.1 0 _ _ (by rw [globals1]; decide) row0
  unfold Lib.TabIs World.var? at h2
  rw [gQ] at h2
  simp only [Option.bind_some, h3, Option.some.injEq] at h2
  rw [h3, h2]
theorem rep0 (D : Nat → Prop) (R : Ren) : BRep Tryz.prog D R 0 (.row 256 0 (tab.map fun z => .mk 37 z.toNat 0 0 0 [])) (some (.cells (tab.map fun z => Value.int .u32 z).toArray 256)) := by
  refine ⟨_, 0, 0, rfl, .inl rfl, tab.map fun z => Value.int .u32 z, [], fun R' _ => ?_, by simp, fun _ => rfl, fun z e => by cases e⟩
  simp only [tab, List.map, cellsOf, den, List.nil_append, List.cons_append]
  rfl
theorem law_any {ms : List Memo} (hms : ∀ m ∈ ms, MemoOk Tryz.prog m) {N : Nat} {nx : Nat → Nat} (hnx : ∀ b, 2 ≤ nx b)
    (hcl : ∀ a : Nat, (a = 0 ∨ a = 1) → closedK Go.EvT.E ⟨98, 136, 3⟩ ms N 3 [.mk 18 1 a 0 0 []] (nx a) init = true)
    (a : Int) (ha : (Lit.int .i64 a).wf = true) (W : World) (hs : W.ShapedOpen Tryz.prog) (hL : laidMetH Tryz.prog laidQ W) :
    Go.Calls Tryz.prog 3 #[.int .i64 a] W fun e W' => e = .returned (.bool true) ∧ Below W.heap.size W W' := by
  have h0 := block0 hs hL
  have hsz : 0 < W.heap.size := by
    rcases Nat.eq_zero_or_pos W.heap.size with e | e
    · rw [Array.getElem?_eq_none (by omega)] at h0; cases h0
    · exact e
  refine closedK_calls Go.EvT.envT keys_do hms (xs := [.int .i64 a]) (R := { at_ := fun i => i, room := fun i => mag a }) (hcl _ (sgn_or a)) ?_ ?_ ?_ ?_
  · intro p hp
    obtain rfl : p = _ := by simpa [init] using hp
    refine ⟨hsz, ?_⟩
    rw [show W.heap[(0 : Nat)]? = _ from h0]
    exact rep0 _ _
  · intro p hp q hq _
    obtain rfl : p = _ := by simpa [init] using hp
    obtain rfl : q = _ := by simpa [init] using hq
    rfl
  · intro R' hR'
    have h1 := (hR' 1 (by have := hnx (sgn a); show 1 < _; omega)).2
    simp only [denL]
    rw [den_sgn R' 1 a ha (h1.trans rfl)]
  · intro g hg
    rw [globals1] at hg
    have : g = 0 := by omega
    subst this
    exact ⟨by have := hnx (sgn a); show 0 < _; omega, rfl⟩
theorem law_lifted (any : ∀ (a : Int) (_ : (Lit.int .i64 a).wf = true) (W : World) (_ : W.ShapedOpen Tryz.prog) (_ : laidMetH Tryz.prog laidQ W), Go.Calls Tryz.prog 3 #[.int .i64 a] W fun e W' => e = .returned (.bool true) ∧ Below W.heap.size W W') (os : Os) (started : os.Started) (H : Type) (enc : TypeId × Value → H) :
    ReturnsInHanded {} Tryz.checked os 3 .any (fun w args => (Rows.growNilSpec.pre enc Tryz.prog Tryz.f3 [] false w args ∧ laidMetH Tryz.prog laidQ w) ∧ sizedMet enc Tryz.prog Tryz.f3 (OpenSpec.ofChange Rows.growNilSpec) false w args)
      (Rows.growNilSpec.post enc Tryz.prog Tryz.f3 false true false false) := by
  refine handed_shaped (C := Tryz.checked) (X := fun w _ => laidMetH Tryz.prog laidQ w) (fun _ _ _ hh h => h.of_heap hh) ownV started (by kernel_rfl) Tryz.func3
    (ChangeSpec.witness_shaped (enc := enc) (C := Tryz.checked) (os := os) (X := fun w _ => laidMetH Tryz.prog laidQ w) false (World.doorLaid Tryz.prog 400 os) #[.int .i64 0] 8 rfl (World.shaped_of_RefB (by kernel_rfl) (by kernel_rfl)) (by kernel_rfl) (by kernel_rfl) (by kernel_rfl) (door_met os _)) ?_
  intro W base args ds gs before hsh hval0 hW hL
  have hval : ∀ (j : Nat) t v, Tryz.f3.params[j]? = some t → args[j]? = some v → Value.okWide Tryz.prog W .any base t v := hval0
  have hW' := hW
  obtain ⟨p, q, hA0, hV, rfl, hfz, hnd⟩ := hW
  have hA : DataW.TrodAll enc Tryz.prog W 0 (fun _ => true) true Tryz.f3.params.toList args.toList ds p := hA0
  rw [Tryz.params3] at hA hval
  obtain ⟨v0, vs0, d0, ds0, p0, q0, hargs, rfl, rfl, h0, r0⟩ := trodAll_cons hA
  obtain ⟨rfl, rfl, rfl⟩ := trodAll_nil r0
  obtain rfl : args = #[v0] := by cases args; simp_all
  obtain ⟨rfl, rfl⟩ := trodVars_none hV
  obtain ⟨a0, rfl, rfl, rfl, w0⟩ := open_int Tryz.underlying3 (hval 0 3 v0 rfl rfl) h0
  clear hA0 hval0
  have WALK := any a0 w0 W hsh hL
  refine WALK.mono fun e W' ⟨he, bel⟩ => ?_
  subst he
  exact ⟨_, rfl, _, _, _, [], _, [], hW', trodAll_mk1 (shut_bool Tryz.underlying4 _), (trodAll_cons_mk (shut_int Tryz.underlying3 w0) trodAll_mk0), rfl, bel.frame _, fun h => by cases h⟩
theorem law_over (any : ∀ (a : Int) (_ : (Lit.int .i64 a).wf = true) (W : World) (_ : W.ShapedOpen Tryz.prog) (_ : laidMetH Tryz.prog laidQ W), Go.Calls Tryz.prog 3 #[.int .i64 a] W fun e W' => e = .returned (.bool true) ∧ Below W.heap.size W W') : Rows.GrowNilSaid :=
  OpenClaim.holds_of_wide 3 Tryz.f3 rfl rfl rfl rfl rfl rfl rfl ⟨rfl, rfl, rfl, rfl, rfl⟩ rfl rfl rfl rfl rfl (by kernel_rfl) Tryz.func3 (by kernel_rfl)
    (of_decide_eq_true (by kernel_rfl)) (by unfold Func.isWrapper; first | (rw [if_pos (by decide +kernel)]; kernel_rfl) | (rw [if_neg (by decide +kernel)]; exact ⟨rfl, rfl⟩))
    (fun os started H enc _ => law_lifted any os started H enc)
theorem law_card0 (any : ∀ (a : Int) (_ : (Lit.int .i64 a).wf = true) (W : World) (_ : W.ShapedOpen Tryz.prog) (_ : laidMetH Tryz.prog laidQ W), Go.Calls Tryz.prog 3 #[.int .i64 a] W fun e W' => e = .returned (.bool true) ∧ Below W.heap.size W W') : Rows.GrowNilCardSaid :=
  Claim7.holds_tied_plain_at .later [] [.data] true (true, "e2b28a71c15d36335f5cf2fd4da49888235460a0900223a1baa658d4041c6e25") false
    (law_over any) (fun _ h => by cases h) (by kernel_rfl) (fun _ h => by cases h) growNil_row_tie rfl ⟨rfl, rfl⟩ (by kernel_rfl) rfl
    (fun f fn hf hfn => by
      obtain rfl : f = 3 := Option.some.inj ((show Tryz.prog.funcNamed "levee/leveelaw23.GrowNil" = some 3 by kernel_rfl).symm.trans hf) |>.symm
      obtain rfl : fn = Tryz.f3 := (Option.some.inj (Tryz.func3.symm.trans hfn)).symm
      exact ⟨by kernel_rfl, fun j t ht => by
        rw [Tryz.params3] at ht
        have hm : t ∈ [3] := by simpa using Array.mem_of_getElem? ht
        have hall : ([3].all fun u => !Tryz.prog.wantsStandIn u) = true := by kernel_rfl
        exact (show Tryz.prog.wantsStandIn t = false by simpa using List.all_eq_true.1 hall t hm)⟩)
    (by kernel_rfl)
noncomputable def memos : List Memo := [mem8, mem7, mem6, mem5, mem4, mem3, mem2, mem1, mem0]
theorem memos_ok : ∀ m ∈ memos, MemoOk Tryz.prog m := by
  intro m hm
  simp only [memos, List.mem_cons, List.not_mem_nil, or_false] at hm
  rcases hm with rfl | rfl | rfl | rfl | rfl | rfl | rfl | rfl | rfl
  · exact EvT.pc8
  · exact EvT.pc7
  · exact EvT.pc6
  · exact EvT.pc5
  · exact EvT.pc4
  · exact EvT.pc3
  · exact EvT.pc2
  · exact EvT.pc1
  · exact EvT.pc0
def from_ (a : Nat) : Nat := if a = 0 then 100 else 100
theorem run0 : closedK EvT.E ⟨98, 136, 3⟩ memos 100000 3 [.mk 18 1 0 0 0 []] 100 init = true := by kernel_rfl
theorem run1 : closedK EvT.E ⟨98, 136, 3⟩ memos 100000 3 [.mk 18 1 1 0 0 []] 100 init = true := by kernel_rfl
theorem growNil_card : Rows.GrowNilCardSaid :=
  law_card0 fun a ha W hs hL => law_any (N := 100000) (nx := from_) memos_ok (fun a => by unfold from_; split <;> omega) (fun a ha => by
    rcases ha with rfl | rfl
    · exact run0
    · exact run1) a ha W hs hL
#print axioms growNil_card
end Go.Proofs.YtpmaokkjgmhinaaGreatDoor
