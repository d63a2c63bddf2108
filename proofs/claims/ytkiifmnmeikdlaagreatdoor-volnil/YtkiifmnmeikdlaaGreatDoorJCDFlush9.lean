/- What DFlush of the disk leaves as it was. -/
import Derived.Test.YtkiifmnmeikdlaaGreatDoorJCWrite5
import Derived.Maps.OwnSet
import Derived.Maps.Views
import Derived.Lib.SlKeysI
import Derived.Laws.Cover3
import Derived.Deep.DeepCutAuto
import Derived.WalkSpells
import Derived.Stop.BytesEq
namespace Go.Proofs.YtkiifmnmeikdlaaGreatDoor
open Go.RowKit
set_option maxRecDepth 100000
/-- The disk's own two blocks. -/
def PQ (p q : Nat) : Nat → Prop := fun k => k = p ∨ k = q
/-- Each list of writes is as it was, or nil. -/
def VN (vs vs' : Nat → Value) : Prop := ∀ i, vs' i = vs i ∨ vs' i = .slice none 0 0
theorem VN.upd {vs vs' : Nat → Value} (h : VN vs vs') (i : Nat) : VN vs (upd vs' i (.slice none 0 0)) := by
  intro j
  unfold Go.Proofs.YtkiifmnmeikdlaaGreatDoor.upd
  split
  · exact .inr rfl
  · exact h j
section
variable {w : World} {base p n : Nat} {en : Bool} {lf : Int} {sf : Nat → List UInt8} {ws : Nat → List (List UInt8)} {q : Nat} {vs : Nat → Value}
set_option maxHeartbeats 2000000 in
theorem flush_fr (h : DiskAt w base p n en lf sf ws q vs) (hl : 0 ≤ lf ∧ lf ≤ 9223372036854775807) (hg : goesB en lf = true) (L : List Nat) (hL : L = openL ws n) :
    Calls Tryz.prog 80 #[.pointer (some ⟨p, 0, none⟩)] w fun e w' => e = .returned (.int .i64 0) ∧ (∃ vs', DiskAt w' base p n en (goesL en lf) (setS L (fun _ l => l.length) sf ws L.length).1 (setS L (fun _ l => l.length) sf ws L.length).2 q vs' ∧ VN vs vs') ∧ Below base w w' ∧ Fr (PQ p q) w w' := by
  have GOES := goes_any h hl
  rw [hg] at GOES
  have hLl := openL_lt ws n
  have hLn : L.length ≤ n := by rw [hL]; exact openL_len ws n
  rw [← hL] at hLl
  have HL : Hid _ := hL
  clear hL
  clear h
  go_enter Tryz.func80, Tryz.ntmps80
  go_wp2_with fail
  refine GOES.mono ?_
  rintro e w2 ⟨rfl, h2, hb2, hz2, hk2⟩
  have HF2 : Hid (Fr (PQ p q) w w2) := ⟨by omega, fun k _ hS => hk2 k fun e => hS (.inl e), hb2.os, hb2.tape, hb2.output⟩
  clear hz2 hk2
  clear GOES
  have OPEN := open_any h2
  rw [← HL.out] at OPEN
  go_wp2_with fail
  refine OPEN.mono ?_
  rintro e w3 ⟨v, rfl, hown, hb3⟩
  clear OPEN
  have h3 := h2.below hb3 (Nat.le_refl _)
  have hq2 := h2.ql
  have hqb := h2.qb
  have hb03 : Below base w w3 := hb2.trans (hb3.mono (by omega))
  have hnn := h2.nn
  have HF3 : Hid (Fr (PQ p q) w w3) := HF2.out.trans (Fr.of_below hb3)
  obtain ⟨ao, ac, rfl, hac, hao, _⟩ := hown.form
  clear h2 hb2
  have H3 : Hid _ := h3
  clear h3
  go_wp2
  go_loopw [12] (fun i wr => ∃ k : Nat, k ≤ L.length ∧ i = .int .i64 k ∧ (∃ vs', DiskAt wr base p n en (goesL en lf) (setS L (fun _ l => l.length) sf ws k).1 (setS L (fun _ l => l.length) sf ws k).2 q vs' ∧ VN vs vs') ∧ OwnNt wr w2.heap.size (.slice ao L.length ac) L ∧ Below base w wr ∧ Hid (Fr (PQ p q) w wr)) (fun i _ => L.length - (Go.RowKit.intOf i).toNat)
  case atStart => exact ⟨0, by omega, rfl, ⟨_, H3.out, fun _ => .inl rfl⟩, hown, hb03, HF3⟩
  case round =>
    obtain ⟨k, hk, rfl, ⟨vs', hD, hV⟩, hO, hbw, HFW⟩ := hrel
    have HV : Hid (VN vs vs') := hV
    clear hV
    by_cases hlt : (k : Int) < L.length
    · obtain ⟨g, rfl⟩ := hao (by omega)
      obtain ⟨ao', ac', e, _, _, hcell⟩ := hO.form
      cases e
      have cL := hcell k (by omega) g rfl
      clear hcell
      have hb : L.getD k 0 < n := by
        have hk' : k < L.length := by omega
        have hm : L.getD k 0 ∈ L := by rw [List.getD_eq_getElem?_getD, List.getElem?_eq_getElem hk']; exact List.getElem_mem hk'
        exact (hLl _ hm).1
      have WR := writes_any hD.drew (L.getD k 0) hb
      have ST := settle_any hD.drew (L.getD k 0) hb _ (Nat.le_refl _)
      obtain ⟨cq, hcq1, hcq2, c0⟩ := hD.c0
      have hsucc : Hid (setS L (fun _ l => l.length) sf ws (k + 1) = (upd (setS L (fun _ l => l.length) sf ws k).1 (L.getD k 0) (lastOf ((setS L (fun _ l => l.length) sf ws k).1 (L.getD k 0)) (((setS L (fun _ l => l.length) sf ws k).2 (L.getD k 0)).take ((setS L (fun _ l => l.length) sf ws k).2 (L.getD k 0)).length)), upd (setS L (fun _ l => l.length) sf ws k).2 (L.getD k 0) [])) := rfl
      generalize L.getD k 0 = b at *
      have hqs := hD.ql
      have hqB : q < w2.heap.size := by omega
      have HO : Hid _ := hO
      have HD : Hid _ := hD
      clear hO hD
      go_wp2_with fail
      go_region_with (first | (go_at_call 122; refine WR.mono ?_; rintro e w4 ⟨rfl, rfl⟩) | (go_at_call 121; refine ST.mono ?_; rintro e w4 ⟨rfl, h4, he4⟩))
      all_goals
        have hD4 : ∃ vs', DiskAt w4 base p n en (goesL en lf) (setS L (fun _ l => l.length) sf ws (k + 1)).1 (setS L (fun _ l => l.length) sf ws (k + 1)).2 q vs' ∧ VN vs vs' := ⟨_, by rw [hsucc.out]; exact h4, HV.out.upd b⟩
        have HF4 : Hid (Fr (PQ p q) w w4) := HFW.out.drew.trans (Fr.of_edit he4 (.inr rfl))
        have hO4 : OwnNt w4 w2.heap.size (.slice (some ⟨g, 0, none⟩) L.length ac) L := own_edit he4 (show OwnNt wr.drew w2.heap.size (.slice (some ⟨g, 0, none⟩) L.length ac) L from HO.out) hqB
        have hb4 : Below base w w4 := (hbw.drew).trans (he4.below hqb (by have := HD.out.ql; show base ≤ wr.heap.size; omega))
        clear h4 he4 WR ST HO HD hsucc hbw
        go_wp2
        go_roundw
        case rel => exact ⟨k + 1, by omega, by go_num, hD4, hO4, hb4, HF4⟩
        case measure => simp [Go.RowKit.intOf]; omega
    · obtain rfl : k = L.length := by omega
      go_wp2
      go_ret
      exact ⟨rfl, ⟨_, hD, HV.out⟩, hbw, HFW.out⟩
end
end Go.Proofs.YtkiifmnmeikdlaaGreatDoor
/- Changes and blocks, as lists: what is laid upon what, which may be written. Nothing of a program. -/
namespace Go.Proofs.YtkiifmnmeikdlaaGreatDoor
open Go.RowKit
set_option maxRecDepth 100000
/-- A change: its number, block, place, bytes, whom it waits for, whether it was written; where it lies. -/
structure Ch where
  id : Nat
  b : Nat
  fr : Nat
  d : List UInt8
  ah : List Int
  wr : Bool
  q : Nat
  dv : Value
  av : Value
/-- A block with open changes. -/
structure Bk where
  n : Nat
  q : Nat
  ba : List UInt8
  ov : Value
  la : List Int
def layB (x : List UInt8) (fr : Nat) (d : List UInt8) : List UInt8 := x.take fr ++ d ++ x.drop (fr + d.length)
def lays (x : List UInt8) (l : List Ch) : List UInt8 := l.foldl (fun x c => layB x c.fr c.d) x
def cov (c : Ch) (j : Nat) : Prop := c.fr ≤ j ∧ j < c.fr + c.d.length
def fits (c : Ch) : Prop := c.fr + c.d.length ≤ 256
/-- Is this the number of an open change? -/
def opn (C : List Ch) (i : Int) : Bool := C.any fun c => decide ((c.id : Int) = i)
def ofB (C : List Ch) (n : Nat) : List Ch := C.filter fun c => decide (c.b = n)
def cids (l : List Ch) : List Int := l.map fun c => (c.id : Int)
def Asc (C : List Ch) : Prop := C.Pairwise fun a b => a.id < b.id
end Go.Proofs.YtkiifmnmeikdlaaGreatDoor
/- A map from numbers to pointers. -/
namespace Go.Proofs.YtkiifmnmeikdlaaGreatDoor
open Go.RowKit
set_option maxRecDepth 100000
/-- How a pointer reads: none as 0, the head of block q as q + 1. -/
def ptrR : Value → Option (DataW Unit × List MemPlace)
  | .pointer none => some (.lit (.int .i64 0), [])
  | .pointer (some ⟨q, 0, none⟩) => some (.lit (.int .i64 ((q : Int) + 1)), [])
  | _ => none
/-- The pointer of a code. -/
def ptrV : Nat → Value
  | 0 => .pointer none
  | q + 1 => .pointer (some ⟨q, 0, none⟩)
theorem ptrR_V (k : Nat) : ptrR (ptrV k) = some (.lit (.int .i64 (k : Int)), []) := by
  cases k <;> simp [ptrR, ptrV]
theorem ptrR_inv {v : Value} {k : Nat} {ps : List MemPlace} (h : ptrR v = some (.lit (.int .i64 (k : Int)), ps)) : v = ptrV k := by
  unfold ptrR at h
  split at h
  · have : k = 0 := by simp at h; omega
    subst this; rfl
  · rename_i q
    have : k = q + 1 := by simp at h; omega
    subst this; rfl
  · cases h
/-- Block b is a map that says f; it was written at most K times. -/
structure PMap (w : World) (b K : Nat) (f : Int → Nat) : Prop where
  own : ∃ D : DataW Unit, w.ownsMap Tryz.prog 159 ptrR b K D ∧ (∃ es, D = .map es) ∧ ∀ x : Int, (Lit.int .i64 x).wf = true → D.atKey (.int .i64 x) (.lit (.int .i64 0)) = .lit (.int .i64 (f x))
theorem PMap.lt {w : World} {b K : Nat} {f : Int → Nat} (h : PMap w b K f) : b < w.heap.size := by
  obtain ⟨D, h1, _⟩ := h.own
  exact h1.lt
theorem PMap.same {w w' : World} {b K : Nat} {f : Int → Nat} (h : PMap w b K f) (hb : w'.heap[b]? = w.heap[b]?) : PMap w' b K f := by
  obtain ⟨D, ⟨es, clock, h1, r1⟩, r⟩ := h.own
  exact ⟨D, ⟨es, clock, by rw [hb]; exact h1, r1⟩, r⟩
theorem PMap.made (w : World) : PMap (w.alloc (.map #[] 0)) w.heap.size 0 (fun _ => 0) :=
  ⟨.map [], World.ownsMap_made w Tryz.prog 159 _, ⟨[], rfl⟩, fun x _ => by simp [DataW.atKey]⟩
theorem zeroP (w : World) : (zeroValue 156).run Tryz.prog w = .ok (.pointer none) w := by
  have h : (Tryz.prog.info? 156).map (fun i => i.zero) = some (some (.pointer none)) := by kernel_rfl
  cases hi : Tryz.prog.info? 156 with
  | none => rw [hi] at h; cases h
  | some i =>
    rw [hi] at h
    have hz : i.zero = some (.pointer none) := Option.some.inj h
    simp [zeroValue, typeInfo, hi, hz]
theorem PMap.look {w : World} {b K : Nat} {f : Int → Nat} (h : PMap w b K f) (x : Int) (hx : (Lit.int .i64 x).wf = true) : (Instr.lookup 150 (.map (some b)) (.int .i64 x) false).run Tryz.prog w = .ok (ptrV (f x)) w := by
  obtain ⟨D, h1, _, h2⟩ := h.own
  obtain ⟨v, ps, hrun, hv⟩ := h1.lookup (Maps.int_keyed Tryz.underlying159) Tryz.underlying150 (zeroP w) (ptrR_V 0) (Maps.keyOf_int_mk Tryz.underlying159 hx)
  have hv' : ptrR v = some (.lit (.int .i64 (f x)), ps) := by rw [hv]; congr 2; exact h2 x hx
  rw [ptrR_inv hv'] at hrun
  exact hrun
def setF (f : Int → Nat) (x : Int) (k : Nat) : Int → Nat := fun y => if y = x then k else f y
theorem PMap.put {w : World} {b K : Nat} {f : Int → Nat} (h : PMap w b K f) (x : Int) (hx : (Lit.int .i64 x).wf = true) (k : Nat) (hK : K ≤ 1000000) :
    ∃ w', (Instr.mapUpdate 150 (.map (some b)) (.int .i64 x) (ptrV k)).run Tryz.prog w = .ok () w' ∧ PMap w' b (K + 1) (setF f x k) ∧ w.grownBy w' (some b) := by
  obtain ⟨D, h1, ⟨es, hes⟩, h2⟩ := h.own
  obtain ⟨w', hrun, hown, hgr⟩ := h1.update (Maps.int_keyed Tryz.underlying159) Tryz.underlying150 (by unfold maxLen; omega) (Maps.keyOf_int_mk Tryz.underlying159 hx) (ptrR_V k)
  refine ⟨w', hrun, ⟨_, hown, ?_, ?_⟩, hgr⟩
  · subst hes; exact ⟨_, rfl⟩
  · intro y hy
    subst hes
    by_cases hxy : y = x
    · subst hxy
      rw [Maps.atKey_put_same (k := .int .i64 y) ⟨es, rfl⟩ (show WideAt.IsKeyLit (Lit.int .i64 y) from trivial)]
      simp [setF]
    · rw [Maps.atKey_put_other (by simpa using hxy), h2 y hy]
      simp [setF, hxy]
theorem PMap.del {w : World} {b K : Nat} {f : Int → Nat} (h : PMap w b K f) (x : Int) (hx : (Lit.int .i64 x).wf = true) (ty : TypeId) :
    ∃ w', (Builtin.delete_ #[150, 159] ty #[.map (some b), .int .i64 x]).run Tryz.prog w = .ok (.tuple #[]) w' ∧ PMap w' b K (setF f x 0) ∧ w.grownBy w' (some b) := by
  obtain ⟨D, h1, ⟨es, hes⟩, h2⟩ := h.own
  obtain ⟨w', hrun, hown, hgr⟩ := h1.drop (Maps.int_keyed Tryz.underlying159) Tryz.underlying150 (Maps.keyOf_int_mk Tryz.underlying159 hx) ty
  refine ⟨w', hrun, ⟨_, hown, ?_, ?_⟩, hgr.grown⟩
  · subst hes; exact ⟨_, rfl⟩
  · intro y hy
    subst hes
    by_cases hxy : y = x
    · subst hxy
      rw [Maps.atKey_del_same]
      simp [setF]
    · rw [Maps.atKey_del_other (by simpa using hxy), h2 y hy]
      simp [setF, hxy]
end Go.Proofs.YtkiifmnmeikdlaaGreatDoor
/- Maps from numbers to pointers, and their keys. -/
namespace Go.Proofs.YtkiifmnmeikdlaaGreatDoor
open Go.RowKit
set_option maxRecDepth 100000
/-- Block b is a map that says f, of the keys ks. -/
structure KMap (kt : TypeId) (w : World) (b K : Nat) (f : Int → Nat) (ks : List Int) : Prop where
  own : ∃ D : DataW Unit, w.ownsMap Tryz.prog kt ptrR b K D ∧ Maps.Tidy D ∧ (∀ x : Int, D.atKey (.int .i64 x) (.lit (.int .i64 0)) = .lit (.int .i64 (f x))) ∧ (∀ x : Int, Maps.has D (.int .i64 x) = decide (x ∈ ks)) ∧ Maps.size D = ks.length
  nd : ks.Nodup
section
variable {kt mt et : TypeId} {w w' : World} {b K : Nat} {f : Int → Nat} {ks : List Int}
theorem KMap.lt (h : KMap kt w b K f ks) : b < w.heap.size := by
  obtain ⟨D, h1, _⟩ := h.own
  exact h1.lt
theorem KMap.same (h : KMap kt w b K f ks) (hb : w'.heap[b]? = w.heap[b]?) : KMap kt w' b K f ks := by
  obtain ⟨D, ⟨es, clock, h1, r1⟩, r⟩ := h.own
  exact ⟨⟨D, ⟨es, clock, by rw [hb]; exact h1, r1⟩, r⟩, h.nd⟩
theorem KMap.made (w : World) : KMap kt (w.alloc (.map #[] 0)) w.heap.size 0 (fun _ => 0) [] :=
  ⟨⟨.map [], World.ownsMap_made w Tryz.prog kt _, Maps.tidy_empty, fun x => by simp [DataW.atKey], fun x => by simp [Maps.has], rfl⟩, List.nodup_nil⟩
end
end Go.Proofs.YtkiifmnmeikdlaaGreatDoor
/- Rows of block numbers: slices.Index and slices.Delete. -/
namespace Go.Proofs.YtkiifmnmeikdlaaGreatDoor
open Go.RowKit
set_option maxRecDepth 100000
theorem Tryz.infoN : (Tryz.prog.info? 159).map (fun i => (i.zero, i.size, i.bytes)) = some (some (.int .i64 0), 1, 8) := by kernel_rfl
/-- The slice v is the call's own, and its numbers are l. -/
def OwnN (w : World) (base : Nat) (v : Value) (l : List Int) : Prop := w.ownsRow base 159 1 v l.length (ivs l)
theorem OwnN.nil (w : World) (base : Nat) : OwnN w base (.slice none 0 0) [] := World.ownsRow_nil _ _ _ _
theorem OwnN.form {w : World} {base : Nat} {v : Value} {l : List Int} (h : OwnN w base v l) : ∃ ao cap, v = .slice ao l.length cap ∧ SrcI w ao l ∧ l.length ≤ cap ∧ (cap : Int) ≤ 9223372036854775807 ∧ (ao = none → cap = 0) := by
  obtain ⟨h1, h2⟩ := h
  rcases h2 with ⟨rfl, h3⟩ | ⟨g, cap, cur, rfl, hg, hh, hn, hm, hs, hx⟩
  · obtain rfl : l = [] := List.eq_nil_of_length_eq_zero h3
    exact ⟨none, 0, rfl, SrcI.nil _ _, by simp, by omega, fun _ => rfl⟩
  · refine ⟨some ⟨g, 0, none⟩, cap, rfl, .inr ⟨g, 0, rfl, (Array.getElem?_eq_some_iff.1 hh).1, fun j hj => ?_⟩, hn, by unfold maxLen at hm; omega, fun h => by cases h⟩
    rw [Nat.zero_add, cell_of_row w g j _ _ _ hh]
    have e : (cur.toList.take (l.length * 1))[j]? = (ivs l)[j]? := by rw [hx]
    rw [List.getElem?_take] at e
    simp only [Nat.mul_one, hj, if_true] at e
    simpa [ivs, hj] using e
theorem OwnN.lt {w : World} {base : Nat} {v : Value} {l : List Int} (h : OwnN w base v l) : ∀ k, v.ownBlock = some k → base ≤ k ∧ k < w.heap.size := World.ownsRow.lt h
theorem OwnN.below {w w' : World} {base B : Nat} {v : Value} {l : List Int} (h : OwnN w base v l) (hb : Below B w w') (hB : w.heap.size ≤ B) : OwnN w' base v l := by
  obtain ⟨h1, h2⟩ := h
  refine ⟨h1, ?_⟩
  rcases h2 with h2 | ⟨g, cap, cur, hv, hg, hh, r⟩
  · exact .inl h2
  · have hlt : g < w.heap.size := (Array.getElem?_eq_some_iff.1 hh).1
    exact .inr ⟨g, cap, cur, hv, hg, by rw [hb.block g (by omega)]; exact hh, r⟩
theorem OwnN.same {w w' : World} {base : Nat} {v : Value} {l : List Int} (h : OwnN w base v l) (hb : ∀ k, v.ownBlock = some k → w'.heap[k]? = w.heap[k]?) : OwnN w' base v l := by
  obtain ⟨h1, h2⟩ := h
  refine ⟨h1, ?_⟩
  rcases h2 with h2 | ⟨g, cap, cur, hv, hg, hh, r⟩
  · exact .inl h2
  · exact .inr ⟨g, cap, cur, hv, hg, by rw [hb g (by rw [hv]; rfl)]; exact hh, r⟩
set_option maxHeartbeats 1000000 in
theorem index_any (b off n c : Nat) (l : List Int) (x : Int) (i : Nat) (w : World) (hs : ∀ j, j < n → w.cell? ⟨b, off + j, none⟩ = some (.int .i64 (l.getD j 0))) (hm : (n : Int) ≤ 9223372036854775807) (hi : i < n) (hx : l.getD i 0 = x) (hne : ∀ j, j < i → ¬ x = l.getD j 0) :
    Calls Tryz.prog 147 #[.slice (some ⟨b, off, none⟩) n c, .int .i64 x] w fun e w' => e = .returned (.int .i64 (i : Int)) ∧ w' = w := by
  have HS : Hid _ := hs
  have HNE : Hid _ := hne
  have HX : Hid _ := hx
  clear hs hne hx
  go_enter Tryz.func147, Tryz.ntmps147
  go_wp2
  go_loop [8] (fun t => ∃ k : Nat, k ≤ i ∧ t = .int .i64 k) (fun t => n - (Go.RowKit.intOf t).toNat)
  case atStart => exact ⟨0, by omega, rfl⟩
  case round =>
    obtain ⟨k, hk, rfl⟩ := hrel
    have hkn : (k : Int) < n := by omega
    have c0 := HS.out k (by omega)
    by_cases hki : k = i
    · subst hki
      rw [HX.out] at c0
      go_wp2
      go_ret
      exact ⟨rfl, rfl⟩
    · have h2 : ¬ x = l.getD k 0 := HNE.out k (by omega)
      have h3 : (x == l.getD k 0) = false := beq_eq_false_iff_ne.2 h2
      generalize l.getD k 0 = y at *
      go_wp2
      go_round
      case rel => exact ⟨k + 1, by omega, by go_num⟩
      case measure => simp [Go.RowKit.intOf]; omega
theorem run_clear_one {P : Program} {w : World} (dT ty elem : TypeId) (hu : P.underlying dT = some (.slice elem)) (hz : (P.info? elem).map (·.zero) = some (some (.int .i64 0)))
    (g off dCap : Nat) (t : TypeId) (cur : Array Value) (hg : w.heap[g]? = some (.cells cur t (0, 0))) (hn : off < cur.size) :
    (Builtin.clear_ #[dT] ty #[.slice (some ⟨g, off, none⟩) 1 dCap]).run P w = .ok (.tuple #[]) (w.setRow g (cur.toList.take off ++ [Value.int .i64 0] ++ cur.toList.drop (off + 1)).toArray) := by
  have hst := run_storeCells_at P g off t [Value.int .i64 0] 0 cur w hg (by simp; omega) (fun v hv => by simp at hv; subst hv; rfl)
  have hzv : (zeroValue elem).run P w = .ok (.int .i64 0) w := by
    cases hq : P.info? elem with
    | none => simp [hq] at hz
    | some i =>
      have hi : i.zero = some (.int .i64 0) := by simpa [hq] using hz
      simp [zeroValue, typeInfo, hq, hi]
  have e : (Builtin.zeroCells (Value.int IntKind.i64 0).cells 1).toList = [Value.int .i64 0] := by
    have : (Builtin.zeroCells #[Value.int IntKind.i64 0] 1).toList = List.replicate 1 (Value.int .i64 0) := by
      simp only [Builtin.zeroCells]
      apply List.ext_getElem
      · simp
      · intro i h1 h2
        simp [Nat.mod_one]
    exact this
  simp [Builtin.clear_, run_underlying hu, hzv, e, hst]
theorem Tryz.zeroN : (Tryz.prog.info? 159).map (·.zero) = some (some (.int .i64 0)) := by kernel_rfl
theorem sizeN (w : World) : (sizeOf 159).run Tryz.prog w = .ok 1 w := by
  have h : (Tryz.prog.info? 159).map (·.size) = some 1 := by kernel_rfl
  cases hq : Tryz.prog.info? 159 with
  | none => simp [hq] at h
  | some i =>
    have hi : i.size = 1 := by simpa [hq] using h
    simp [sizeOf, typeInfo, hq, hi]
/-- The row behind a Delete of one place. -/
theorem del_row (cur : List Value) (l : List Int) (i m : Nat) (hl : l.length = m) (hi : i < m) (hx : cur.take m = ivs l) :
    ((cur.take i ++ ivs (l.drop (i + 1)) ++ cur.drop (i + (m - (i + 1)))).take (m - 1)) = ivs (l.eraseIdx i) := by
  have e1 : cur.take i = ivs (l.take i) := by
    rw [ivs_take, ← hx, List.take_take, Nat.min_eq_left (by omega)]
  rw [e1, ← ivs_append, List.take_append_of_le_length (by simp [ivs_length]; omega), List.take_of_length_le (by simp [ivs_length]; omega), List.eraseIdx_eq_take_drop_succ]
theorem run_appN {P : Program} {o : Oper} {a : Act} {w w' : World} {s x : Operand} {sv xv v : Value} (hop : o.op = .call { callee := .builtin .append, args := #[s, x], argTypes := #[151, 151] }) (hty : o.type = 151) (hs : a.eval s = sv) (hx : a.eval x = xv) (hL : (Builtin.append_ #[151, 151] 151 #[sv, xv]).run P w = .ok v w') : (execOp a.eval o).run P w = .ok (.value v) w' := by
  unfold execOp
  simp only [hop, hty, resolve, invoke, builtin]
  simp [hs, hx, hL, Result.andThen]
set_option maxHeartbeats 2000000 in
theorem delete_any (base g cap m i : Nat) (l : List Int) (w : World) (h : OwnN w base (.slice (some ⟨g, 0, none⟩) (m + 1) cap) l) (hl : l.length = m + 1) (hi : i < m + 1) (hcm : (cap : Int) ≤ 9223372036854775807) :
    Calls Tryz.prog 148 #[.slice (some ⟨g, 0, none⟩) (m + 1) cap, .int .i64 (i : Int), .int .i64 ((i : Int) + 1)] w fun e w' => e = .returned (.slice (some ⟨g, 0, none⟩) m cap) ∧ OwnN w' base (.slice (some ⟨g, 0, none⟩) m cap) (l.eraseIdx i) ∧ w.grownBy w' (some g) := by
  obtain ⟨i0, hi0, hz0, hz1, hz2⟩ := info_parts Tryz.infoN
  obtain ⟨h1, h2⟩ := h
  rcases h2 with ⟨h2, _⟩ | ⟨g', cap', cur, hv, hgb, hh, hn, hmx, hs, hx⟩
  · cases h2
  obtain ⟨rfl, rfl⟩ : g' = g ∧ cap' = cap := by simp only [Value.slice.injEq, Option.some.injEq, Addr.mk.injEq] at hv; exact ⟨hv.1.1.symm, hv.2.2.symm⟩
  clear hv
  rw [hl] at hn hx
  rw [Nat.mul_one] at hx hs
  have hcs : ∀ j u, (ivs (l.drop (i + 1)))[j]? = some u → w.drew.cell? ((if cap' = i + 1 then (⟨g', 0, none⟩ : Addr) else (⟨g', i + 1, none⟩ : Addr)).add j) = some u := by
    intro j u hj
    have hjl : j < l.length - (i + 1) := by
      have := (List.getElem?_eq_some_iff.1 hj).1
      simpa [ivs_length] using this
    rw [if_neg (by omega), addr_add]
    show w.cell? _ = _
    rw [cell_of_row w g' _ _ _ _ hh]
    have e : (cur.toList.take (m + 1))[i + 1 + j]? = (ivs l)[i + 1 + j]? := by rw [hx]
    rw [List.getElem?_take] at e
    rw [if_pos (by omega)] at e
    rw [← Array.getElem?_toList, e, ← hj, ivs_drop, List.getElem?_drop]
  have hel : Tryz.prog.elem 151 = 159 := by kernel_rfl
  have hs1 : ∀ W, (Instr.slice 151 (.slice (some ⟨g', 0, none⟩) (m + 1) cap') none (some (.int .i64 (i : Int))) none).run Tryz.prog W = .ok (.slice (some ⟨g', 0, none⟩) i cap') W := by
    intro W
    rw [run_slice_h W 151 _ _ _ (by kernel_rfl) .i64 _ (by omega) (by omega), hel, sizeN]
    simp [sliced, addr_add]
  have hs2 : ∀ W, (Instr.slice 151 (.slice (some ⟨g', 0, none⟩) (m + 1) cap') (some (.int .i64 ((i : Int) + 1))) none none).run Tryz.prog W = .ok (.slice (some (if cap' = i + 1 then (⟨g', 0, none⟩ : Addr) else (⟨g', i + 1, none⟩ : Addr))) (m - i) (cap' - (i + 1))) W := by
    intro W
    rw [run_slice_l W 151 _ _ _ (by kernel_rfl) .i64 _ (by omega) (by omega), hel, sizeN]
    rw [show ((i : Int) + 1).toNat = i + 1 by omega]
    simp only [Result.andThen_ok, sliced]
    split <;> simp [addr_add]
  have hs3 : ∀ W, (Instr.slice 151 (.slice (some ⟨g', 0, none⟩) m cap') (some (.int .i64 (m : Int))) (some (.int .i64 ((m : Int) + 1))) none).run Tryz.prog W = .ok (.slice (some ⟨g', m, none⟩) 1 (cap' - m)) W := by
    intro W
    rw [run_slice_lh W 151 _ _ _ (by kernel_rfl) .i64 .i64 _ _ (by omega) (by omega) (by omega), hel, sizeN]
    rw [show ((m : Int) + 1).toNat = m + 1 by omega, show ((m : Int)).toNat = m by omega]
    simp only [Result.andThen_ok, sliced]
    rw [if_neg (by omega)]
    simp [addr_add]
  have hs4 : ∀ W, (Instr.slice 151 (.slice (some ⟨g', 0, none⟩) (m + 1) cap') (some (.int .i64 (i : Int))) (some (.int .i64 ((i : Int) + 1))) (some (.int .i64 ((m : Int) + 1)))).run Tryz.prog W = .ok (sliced (some ⟨g', 0, none⟩) i (i + 1) (m + 1) 1) W := by
    intro W
    rw [run_slice_lhm W 151 _ _ _ (by kernel_rfl) .i64 .i64 .i64 _ _ _ (by omega) (by omega) (by omega) (by omega), hel, sizeN]
    rw [show ((i : Int) + 1).toNat = i + 1 by omega, show ((m : Int) + 1).toNat = m + 1 by omega, show ((i : Int)).toNat = i by omega]
    rfl
  generalize sliced (some ⟨g', 0, none⟩) i (i + 1) (m + 1) 1 = v13 at *
  have hap := run_append_room (P := Tryz.prog) w.drew 151 151 159 i0 Tryz.underlying151 hi0 g' i cap' cur hh (if cap' = i + 1 then (⟨g', 0, none⟩ : Addr) else (⟨g', i + 1, none⟩ : Addr)) (m - i) (cap' - (i + 1)) (ivs (l.drop (i + 1))) (by simp [ivs_length, hz1, hl]) hcs (ivs_one _) (by omega) (by simp [hz1, ivs_length, hl, hs]; omega)
  rw [hz1, Nat.mul_one, show i + (m - i) = m by omega] at hap
  clear hcs
  generalize (if cap' = i + 1 then (⟨g', 0, none⟩ : Addr) else (⟨g', i + 1, none⟩ : Addr)) = A25 at *
  obtain ⟨C1, hC1⟩ : ∃ C1, C1 = (cur.toList.take i ++ ivs (l.drop (i + 1)) ++ cur.toList.drop (i + (ivs (l.drop (i + 1))).length)).toArray := ⟨_, rfl⟩
  rw [← hC1] at hap
  have hC1s : C1.size = cap' := by
    rw [hC1]; simp [ivs_length, hl]
    rw [Array.length_toList, hs] at *
    omega
  have hrow1 : (w.drew.setRow g' C1).heap[g']? = some (.cells C1 159 (0, 0)) := setRow_heap w.drew g' _ _ _ _ hh
  have hcl := run_clear_one (P := Tryz.prog) (w := w.drew.setRow g' C1) 151 0 159 Tryz.underlying151 Tryz.zeroN g' m (cap' - m) _ C1 hrow1 (by omega)
  have hfin := setRow_heap (w.drew.setRow g' C1) g' _ (C1.toList.take m ++ [Value.int .i64 0] ++ C1.toList.drop (m + 1)).toArray _ _ hrow1
  have HT : Hid (C1.toList.take m = ivs (l.eraseIdx i)) := by
    show _ = _
    rw [hC1, List.toList_toArray, ivs_length, List.length_drop, hl]
    exact del_row cur.toList l i (m + 1) hl hi hx
  have HT2 : Hid ((C1.toList.take m ++ [Value.int .i64 0] ++ C1.toList.drop (m + 1)).take m = ivs (l.eraseIdx i)) := by
    show _ = _
    rw [List.append_assoc, List.take_append_of_le_length (by simp; omega), List.take_take, Nat.min_self]
    exact HT.out
  have HS2 : Hid ((C1.toList.take m ++ [Value.int .i64 0] ++ C1.toList.drop (m + 1)).toArray.size = cap') := by
    show _ = _
    simp; omega
  have HF : Hid _ := hfin
  have hneq : ((i : Int) == (i : Int) + 1) = false := beq_eq_false_iff_ne.2 (by omega)
  have HC : Hid (C1.size = cap') := hC1s
  have HI : Hid (base ≤ g' ∧ cap' ≤ maxLen) := ⟨hgb, hmx⟩
  have HLL : Hid (l.length = m + 1) := hl
  clear hx hh hz0 hz1 hz2 hi0 hC1 hs hrow1 hfin h1 hmx hgb hl hC1s
  obtain ⟨C2, hC2⟩ : ∃ C2, C2 = (C1.toList.take m ++ [Value.int .i64 0] ++ C1.toList.drop (m + 1)).toArray := ⟨_, rfl⟩
  have HT3 : Hid (C2.toList.take m = ivs (l.eraseIdx i)) := by rw [hC2]; exact HT2.out
  rw [← hC2] at hcl HF HS2
  clear hC2 HT2 HT
  go_enter Tryz.func148, Tryz.ntmps148
  go_wp2_with fail
  refine wp_region_held_drew (S := (fun _ => True)) (by kernel_rfl) trivial (fun hH => ?_)
  refine takeH (i := 0) (dst := some 20) (v := ?v1) rfl rfl (by kernel_rfl) (by kernel_rfl) (by kernel_rfl) (fun _ _ _ h => h) rfl ?hy1 hH rfl ?rest1
  case hy1 => (intro W hW; clear hW; go_simp; try with_reducible rfl)
  (try simp only [Act.put, List.setIfInBounds_toArray, List.set_cons_zero, List.set_cons_succ])
  refine takeH (i := 1) (dst := some 21) (v := ?v2) rfl rfl (by kernel_rfl) (by kernel_rfl) (by kernel_rfl) (fun _ _ _ h => h) rfl ?hy2 hH rfl ?rest2
  case hy2 => (intro W hW; clear hW; go_simp; try with_reducible rfl)
  (try simp only [Act.put, List.setIfInBounds_toArray, List.set_cons_zero, List.set_cons_succ])
  refine takeH (i := 2) (dst := some 22) (v := ?v3) rfl rfl (by kernel_rfl) (by kernel_rfl) (by kernel_rfl) (fun _ _ _ h => h) rfl ?hy3 hH rfl ?rest3
  case hy3 => (intro W hW; clear hW; go_simp; try with_reducible rfl)
  (try simp only [Act.put, List.setIfInBounds_toArray, List.set_cons_zero, List.set_cons_succ])
  refine takeH (i := 3) (dst := some 23) (v := ?v4) rfl rfl (by kernel_rfl) (by kernel_rfl) (by kernel_rfl) (fun _ _ _ h => h) rfl ?hy4 hH rfl ?rest4
  case hy4 => (intro W hW; clear hW; go_simp; try with_reducible rfl)
  (try simp only [Act.put, List.setIfInBounds_toArray, List.set_cons_zero, List.set_cons_succ])
  refine takeH (i := 4) (dst := some 24) (v := ?v5) rfl rfl (by kernel_rfl) (by kernel_rfl) (by kernel_rfl) (fun _ _ _ h => h) rfl ?hy5 hH rfl ?rest5
  case hy5 => (intro W hW; clear hW; go_simp; try with_reducible rfl)
  (try simp only [Act.put, List.setIfInBounds_toArray, List.set_cons_zero, List.set_cons_succ])
  refine takeH (i := 5) (dst := some 25) (v := ?v6) rfl rfl (by kernel_rfl) (by kernel_rfl) (by kernel_rfl) (fun _ _ _ h => h) rfl ?hy6 hH rfl ?rest6
  case hy6 => (intro W hW; clear hW; go_simp; try with_reducible rfl)
  (try simp only [Act.put, List.setIfInBounds_toArray, List.set_cons_zero, List.set_cons_succ])
  refine callH (i := 6) { dst := some 26, op := Go.Op.call { callee := Go.Callee.builtin Go.Builtin.append, args := #[Go.Operand.tmp 22, Go.Operand.tmp 25], argTypes := #[151, 151] }, type := 151, pos := "slices.go:232", after := #[{ on := 2, ground := Go.Ground.data }, { on := 5, ground := Go.Ground.data }], guard := none } (by kernel_rfl) rfl rfl (fun K hK => ?_)
  rw [if_pos (by rfl)]
  unfold Oper.wp
  rw [run_appN (s := .tmp 22) (x := .tmp 25) rfl rfl rfl rfl hap]
  clear hH
  refine hK.out _ _ trivial (fun hH => ?_)
  clear hK K
  (try simp only [Act.put, List.setIfInBounds_toArray, List.set_cons_zero, List.set_cons_succ])
  refine takeH (i := 7) (dst := some 0) (v := ?v7) rfl rfl (by kernel_rfl) (by kernel_rfl) (by kernel_rfl) (fun _ _ _ h => h) rfl ?hy7 hH rfl ?rest7
  case hy7 => (intro W hW; clear hW; go_simp; try with_reducible rfl)
  (try simp only [Act.put, List.setIfInBounds_toArray, List.set_cons_zero])
  refine wpAnyH_done (by kernel_rfl) ?_ _
  clear hH
  go_wp2
  go_ret
  have hlen : (l.eraseIdx i).length = m := by rw [List.length_eraseIdx, if_pos (by rw [HLL.out]; omega), HLL.out]; omega
  refine ⟨rfl, ⟨by simp [ivs_length], .inr ⟨g', cap', C2, by rw [hlen], HI.out.1, HF.out, by omega, HI.out.2, by rw [HS2.out, Nat.mul_one], by rw [hlen, Nat.mul_one]; exact HT3.out⟩⟩, ?_⟩
  refine ⟨rfl, rfl, rfl, by simp, fun k _ hk => ?_⟩
  have hne : k ≠ g' := fun e => hk (by rw [e])
  rw [setRow_other _ _ _ _ hne, setRow_other _ _ _ _ hne]
  rfl
end Go.Proofs.YtkiifmnmeikdlaaGreatDoor
/- A cache in memory. -/
namespace Go.Proofs.YtkiifmnmeikdlaaGreatDoor
open Go.RowKit
set_option maxRecDepth 100000
/-- A block in memory: its number, where it lies, its bytes, how often it is pinned. -/
structure CE where
  n : Nat
  q : Nat
  d : List UInt8
  pin : Nat
def beL (e : CE) : List Value := bvs e.d ++ [.int .i64 (e.pin : Int)]
def nums (L : List CE) : List Int := L.map fun e => (e.n : Int)
theorem nums_length (L : List CE) : (nums L).length = L.length := by simp [nums]
theorem nums_append (A B : List CE) : nums (A ++ B) = nums A ++ nums B := by simp [nums]
/-- What the map says. -/
def lookF : List CE → Int → Nat
  | [], _ => 0
  | e :: r, x => if (e.n : Int) = x then e.q + 1 else lookF r x
theorem lookF_none : ∀ {L : List CE} {x : Int}, (∀ e ∈ L, ¬ (e.n : Int) = x) → lookF L x = 0
  | [], _, _ => rfl
  | e :: r, x, h => by
    rw [lookF, if_neg (h e (by simp))]
    exact lookF_none fun e he => h e (by simp [he])
theorem lookF_app : ∀ {A B : List CE} {x : Int}, (∀ e ∈ A, ¬ (e.n : Int) = x) → lookF (A ++ B) x = lookF B x
  | [], _, _, _ => rfl
  | e :: r, B, x, h => by
    rw [List.cons_append, lookF, if_neg (h e (by simp))]
    exact lookF_app fun e he => h e (by simp [he])
theorem lookF_app2 : ∀ {A B : List CE} {x : Int}, (∀ e ∈ B, ¬ (e.n : Int) = x) → lookF (A ++ B) x = lookF A x
  | [], B, x, h => by simp [lookF_none h, lookF]
  | e :: r, B, x, h => by
    rw [List.cons_append, lookF, lookF, lookF_app2 h]
/-- No number stands twice. -/
def NoTwo (A : List CE) (e : CE) (B : List CE) : Prop := (∀ x ∈ A, ¬ x.n = e.n) ∧ ∀ x ∈ B, ¬ x.n = e.n
theorem noTwo_of {A B : List CE} {e : CE} (h : ((A ++ e :: B).map (·.n)).Nodup) : NoTwo A e B := by
  simp only [List.map_append, List.map_cons, List.nodup_append, List.nodup_cons, List.mem_map, List.mem_cons] at h
  obtain ⟨_, ⟨h2, _⟩, h4⟩ := h
  refine ⟨fun x hx hn => h4 x.n ⟨x, hx, rfl⟩ e.n (.inl rfl) hn, fun x hx hn => h2 ⟨x, hx, hn⟩⟩
theorem lookF_at {A B : List CE} {e : CE} (h : NoTwo A e B) : lookF (A ++ e :: B) e.n = e.q + 1 := by
  rw [lookF_app (fun x hx hn => h.1 x hx (by omega)), lookF, if_pos rfl]
theorem lookF_del {A B : List CE} {e : CE} (h : NoTwo A e B) : setF (lookF (A ++ e :: B)) e.n 0 = lookF (A ++ B) := by
  funext x
  unfold setF
  by_cases hx : x = e.n
  · rw [if_pos hx, lookF_none]
    intro y hy hn
    rcases List.mem_append.1 hy with hy | hy
    · exact h.1 y hy (by omega)
    · exact h.2 y hy (by omega)
  · rw [if_neg hx]
    clear h
    induction A with
    | nil => rw [List.nil_append, List.nil_append, lookF, if_neg (fun c => hx c.symm)]
    | cons a r ih => rw [List.cons_append, List.cons_append, lookF, lookF, ih]
theorem lookF_add {L : List CE} {e : CE} (h : ∀ x ∈ L, ¬ x.n = e.n) : setF (lookF L) e.n (e.q + 1) = lookF (L ++ [e]) := by
  funext x
  unfold setF
  by_cases hx : x = e.n
  · rw [if_pos hx, lookF_app (fun y hy hn => h y hy (by omega)), lookF, if_pos hx.symm]
  · rw [if_neg hx, lookF_app2]
    intro y hy hn
    simp at hy
    subst hy
    exact hx hn.symm
theorem lookF_touch {A B : List CE} {e : CE} (h : NoTwo A e B) : lookF (A ++ B ++ [e]) = lookF (A ++ e :: B) := by
  rw [← lookF_add (fun x hx => ?_), ← lookF_del h]
  · funext x
    unfold setF
    by_cases hx : x = e.n
    · rw [if_pos hx, hx, lookF_at h]
    · rw [if_neg hx, if_neg hx]
  · rcases List.mem_append.1 hx with hx | hx
    · exact h.1 x hx
    · exact h.2 x hx
/-- A cache and its disk. -/
structure CSt where
  p : Nat
  mb : Nat
  K : Nat
  ov : Value
  most : Nat
  L : List CE
  dp : Nat
  dn : Nat
  dq : Nat
  en : Bool
  lf : Int
  sf : Nat → List UInt8
  ws : Nat → List (List UInt8)
  vs : Nat → Value
/-- Its own blocks; the disk's too. -/
def Ck (σ : CSt) (k : Nat) : Prop := k = σ.p ∨ k = σ.mb ∨ σ.ov.ownBlock = some k ∨ ∃ e ∈ σ.L, e.q = k
def Sk (σ : CSt) (k : Nat) : Prop := Ck σ k ∨ Dk σ.dp σ.dq σ.dn σ.vs k
/-- The cache σ lies in w; the order says O. -/
structure CS (w : World) (base : Nat) (σ : CSt) (O : List Int) : Prop where
  disk : DiskAt w base σ.dp σ.dn σ.en σ.lf σ.sf σ.ws σ.dq σ.vs
  c0 : w.cell? ⟨σ.p, 0, none⟩ = some (.pointer (some ⟨σ.dp, 0, none⟩))
  c1 : w.cell? ⟨σ.p, 1, none⟩ = some (.int .i64 (σ.most : Int))
  c2 : w.cell? ⟨σ.p, 2, none⟩ = some (.map (some σ.mb))
  c3 : w.cell? ⟨σ.p, 3, none⟩ = some σ.ov
  fp : ∀ o, w.frozen? ⟨σ.p, o, none⟩ = false
  ord : OwnN w base σ.ov O
  map : PMap w σ.mb σ.K (lookF σ.L)
  blk : ∀ e ∈ σ.L, w.heap[e.q]? = some (.cells (beL e).toArray 163 (0, 0)) ∧ e.d.length = 256 ∧ e.n < σ.dn ∧ e.pin ≤ σ.K
  nd : (σ.L.map (·.n)).Nodup
  qd : (σ.L.map (·.q)).Nodup
  pm : σ.p ≠ σ.mb
  po : σ.ov.ownBlock ≠ some σ.p
  mo : σ.ov.ownBlock ≠ some σ.mb
  bq : ∀ e ∈ σ.L, e.q ≠ σ.p ∧ e.q ≠ σ.mb ∧ σ.ov.ownBlock ≠ some e.q ∧ base ≤ e.q
  pb : base ≤ σ.p
  mbb : base ≤ σ.mb
  dk : ∀ k, Dk σ.dp σ.dq σ.dn σ.vs k → ¬ Ck σ k
  m1 : 1 ≤ σ.most ∧ σ.most ≤ 4096
section
variable {w w' : World} {base : Nat} {σ : CSt} {O : List Int}
theorem CS.pl (h : CS w base σ O) : σ.p < w.heap.size := block_lt_of_cell h.c0
theorem CS.sk_lt (h : CS w base σ O) {k : Nat} (hk : Ck σ k) : k < w.heap.size := by
  rcases hk with rfl | rfl | hk | ⟨e, he, rfl⟩
  · exact h.pl
  · exact h.map.lt
  · exact (h.ord.lt k hk).2
  · exact (Array.getElem?_eq_some_iff.1 (h.blk e he).1).1
/-- The cache under changes of other blocks. -/
theorem CS.fr (h : CS w base σ O) {S : Nat → Prop} (hf : Fr S w w') (hS : ∀ k, Sk σ k → ¬ S k) : CS w' base σ O := by
  have hp : ¬ S σ.p := hS _ (.inl (.inl rfl))
  have cp : ∀ o, w'.cell? ⟨σ.p, o, none⟩ = w.cell? ⟨σ.p, o, none⟩ := fun o => fr_cell hf (a := ⟨σ.p, o, none⟩) h.pl hp
  exact {
    disk := h.disk.fr hf fun k hk => hS k (.inr hk)
    c0 := (cp 0).trans h.c0, c1 := (cp 1).trans h.c1, c2 := (cp 2).trans h.c2, c3 := (cp 3).trans h.c3
    fp := fun o => (fr_frozen hf (a := ⟨σ.p, o, none⟩) h.pl hp).trans (h.fp o)
    ord := h.ord.same fun k hk => hf.blk k (h.ord.lt k hk).2 (hS k (.inl (.inr (.inr (.inl hk)))))
    map := h.map.same (hf.blk _ h.map.lt (hS _ (.inl (.inr (.inl rfl)))))
    blk := fun e he => ⟨(hf.blk e.q (h.sk_lt (.inr (.inr (.inr ⟨e, he, rfl⟩)))) (hS _ (.inl (.inr (.inr (.inr ⟨e, he, rfl⟩)))))).trans (h.blk e he).1, (h.blk e he).2⟩
    nd := h.nd, qd := h.qd, pm := h.pm, po := h.po, mo := h.mo, bq := h.bq, pb := h.pb, mbb := h.mbb, dk := h.dk, m1 := h.m1 }
theorem CS.up (h : CS w base σ O) (hb : Below w.heap.size w w') : CS w' base σ O :=
  h.fr (S := fun _ => False) (Fr.of_below hb) (fun _ _ c => c)
theorem CS.drew (h : CS w base σ O) : CS w.drew base σ O := h.up ((Below.refl _ _).drew)
theorem CS.split {A B : List CE} {e : CE} (h : CS w base σ O) (hL : σ.L = A ++ e :: B) : NoTwo A e B := noTwo_of (by rw [← hL]; exact h.nd)
theorem CS.look (h : CS w base σ O) (x : Int) (hx : -9223372036854775808 ≤ x ∧ x ≤ 9223372036854775807) : (Instr.lookup 150 (.map (some σ.mb)) (.int .i64 x) false).run Tryz.prog w = .ok (ptrV (lookF σ.L x)) w :=
  h.map.look x (by simp only [Lit.wf, Bool.and_eq_true, decide_eq_true_eq]; exact hx)
theorem CS.cell (h : CS w base σ O) {e : CE} (he : e ∈ σ.L) (j : Nat) : w.cell? ⟨e.q, j, none⟩ = (beL e)[j]? := by
  rw [cell_of_row w e.q j _ _ _ (h.blk e he).1]; simp
theorem CS.pin (h : CS w base σ O) {e : CE} (he : e ∈ σ.L) : w.cell? ⟨e.q, 256, none⟩ = some (.int .i64 (e.pin : Int)) := by
  rw [h.cell he, beL, List.getElem?_append_right (by rw [bvs_length, (h.blk e he).2.1]; omega), bvs_length, (h.blk e he).2.1]
  rfl
theorem CS.range (h : CS w base σ O) {e : CE} (he : e ∈ σ.L) : w.rangeAt e.q 0 (bvs e.d) := fun j v hv => by
  have hj : j < (bvs e.d).length := (List.getElem?_eq_some_iff.1 hv).1
  rw [Nat.zero_add, h.cell he, beL, List.getElem?_append_left hj]; exact hv
end
end Go.Proofs.YtkiifmnmeikdlaaGreatDoor
/- Package cache: content.set, content.bytes, Cache.stands. -/
namespace Go.Proofs.YtkiifmnmeikdlaaGreatDoor
open Go.RowKit
set_option maxRecDepth 100000
theorem Tryz.zeroC : ∃ Z : Array Value, (∀ w, (zeroValue 161).run Tryz.prog w = .ok (.agg Z) w) ∧ Z.size = 256 ∧ (Tryz.prog.info? 161).map (·.size) = some 256 ∧ Hid (Z = (bvs (List.replicate 256 0)).toArray) := by
  have h : (Tryz.prog.info? 161).map (fun i => (i.zero, i.size)) = some (some (.agg (bvs (List.replicate 256 0)).toArray), 256) := by kernel_rfl
  obtain ⟨h1, h2⟩ := zero_of_info h
  exact ⟨_, h1, by rw [List.size_toArray, bvs_length, List.length_replicate], h2, rfl⟩
/-- The load of a whole content. -/
theorem wpList_load_con {ops : Array Oper} {rest : List Oper} {op : Oper} {a : Act} {w : World} {Q : Exit → Act → World → Prop} (hgd : op.guard = none) (x : Operand) (ho : op.op = .load 161 x)
    (b o : Nat) (hx : a.eval x = .pointer (some ⟨b, o, none⟩)) (s : List UInt8) (hc : w.rangeAt b o (bvs s)) (hs : s.length = 256)
    (h : wpList Tryz.prog ops Q rest (a.put op.dst (.agg (bvs s).toArray)) w) : wpList Tryz.prog ops Q (op :: rest) a w := by
  obtain ⟨Z, _, _, hinfo, _⟩ := Tryz.zeroC
  exact wpList_load_mid hgd 161 x ho b o hx _ _ hc Tryz.underlying161 rfl (by rw [hinfo, bvs_length, hs]) h
theorem load_con {w : World} {b o : Nat} {s : List UInt8} (hc : w.rangeAt b o (bvs s)) (hs : s.length = 256) : (Instr.loadAt 161 (.pointer (some ⟨b, o, none⟩))).run Tryz.prog w = .ok (.agg (bvs s).toArray) w := by
  obtain ⟨Z, _, _, hinfo, _⟩ := Tryz.zeroC
  exact run_loadAt_mid w b o 161 (bvs s) _ hc Tryz.underlying161 rfl (by rw [hinfo, bvs_length, hs])
theorem wpList_store_con {ops : Array Oper} {rest : List Oper} {op : Oper} {a : Act} {w : World} {Q : Exit → Act → World → Prop} (hgd : op.guard = none) (x y : Operand) (ho : op.op = .store 161 x y)
    (g : Nat) (cur : Array Value) (s : List UInt8) (hx : a.eval x = .pointer (some ⟨g, 0, none⟩)) (hy : a.eval y = .agg (bvs s).toArray)
    (hg : w.heap[g]? = some (.cells cur 161 (0, 0))) (hc : cur.size = 256) (hs : s.length = 256)
    (h : ∀ w', Blk w' g 161 s → Below g w w' → w'.heap.size = w.heap.size → wpList Tryz.prog ops Q rest (a.put op.dst undef) w') : wpList Tryz.prog ops Q (op :: rest) a w := by
  obtain ⟨Z, _, _, hinfo, _⟩ := Tryz.zeroC
  refine wpList_plain hgd fun K hK => ?_
  have hsz : (bvs s).toArray.size = 256 := by rw [List.size_toArray, bvs_length, hs]
  have hrun := run_storeVar_row (P := Tryz.prog) w g 161 161 cur (bvs s).toArray hg (by rw [hinfo, hsz]) (by rw [hc, hsz]) (all_oneCell_toArray (bvs_one _))
  unfold Oper.wp execOp
  simp only [ho, hx, hy, Instr.storeAt, Instr.sureAddr, Sem.run_bind, Sem.run_pure, Result.andThen_ok, hrun]
  exact hK _ _ (h _ (setRow_heap w g _ _ 161 _ hg) (below_setRow (Below.refl _ _) (Nat.le_refl _) _) (by simp))
set_option maxHeartbeats 1000000 in
theorem set_any (g : Nat) (t : TypeId) (x data : List UInt8) (r : List Value) (sp : Option Addr) (cap : Nat) (w : World) (hg : w.heap[g]? = some (.cells (bvs x ++ r).toArray t (0, 0))) (hx : x.length = 256) (hs : Src w sp data) (hd : data.length = 256) :
    Calls Tryz.prog 100 #[.pointer (some ⟨g, 0, none⟩), .slice sp 256 cap] w fun e w' => e = .returned (.tuple #[]) ∧ w'.heap[g]? = some (.cells (bvs data ++ r).toArray t (0, 0)) ∧ Fr (fun k => k = g) w w' ∧ Below g w w' ∧ w'.heap.size = w.heap.size := by
  obtain ⟨ad, had, hcs⟩ := hs.pos 256 (by rw [bvs_length, List.length_take, hd]; omega)
  subst had
  rw [List.take_of_length_le (by omega)] at hcs
  have hrun := run_copy_row (P := Tryz.prog) w 42 42 3 5 g 0 256 256 ad 256 cap (bvs x ++ r).toArray t (bvs data) Tryz.underlying42 Tryz.elem1 hg (by rw [bvs_length, hd]; rfl) hcs (by simp [bvs_length, hx, hd]) (bvs_one _)
  rw [bvs_length, hd] at hrun
  have e1 : ((bvs x ++ r).toArray.toList.take 0 ++ bvs data ++ (bvs x ++ r).toArray.toList.drop (0 + 256)) = bvs data ++ r := by
    rw [List.toList_toArray, List.take_zero, List.nil_append, Nat.zero_add, List.drop_left' (by rw [bvs_length, hx])]
  rw [e1] at hrun
  have hfin := setRow_heap w g _ (bvs data ++ r).toArray t _ hg
  have HF : Hid _ := hfin
  clear hfin hg hcs hs e1
  go_enter Tryz.func100, Tryz.ntmps100
  go_wp2
  go_end0
  exact ⟨rfl, HF.out, ⟨by simp, fun k _ hk => setRow_other _ _ _ _ hk, rfl, rfl, rfl⟩, below_setRow (Below.refl _ _) (Nat.le_refl _) _, by simp⟩
set_option maxHeartbeats 1000000 in
theorem clone_any (b o c : Nat) (l : List UInt8) (w : World) (hs : Src w (some ⟨b, o, none⟩) l) (hl : l.length = 256) :
    Calls Tryz.prog 59 #[.slice (some ⟨b, o, none⟩) 256 c] w fun e w' => ∃ v, e = .returned v ∧ Own w' w.heap.size v l ∧ Below w.heap.size w w' := by
  have EQ : ∀ W : World, (binOp .eql 42 (.slice (some ⟨b, o, none⟩) 256 c) (.slice none 0 0)).run Tryz.prog W = .ok (.bool false) W := fun W => run_eql_nil_slice W 42 5 (some ⟨b, o, none⟩) 256 c 0 0 Tryz.underlying42
  have HB0 : Hid (Below w.heap.size w (w.alloc (.cells #[] 5))) := (Below.refl _ _).alloc (Nat.le_refl _) _
  have HS : Hid (Src (w.alloc (.cells #[] 5)) (some ⟨b, o, none⟩) l) := hs.below HB0.out (Nat.le_refl _)
  have HL : Hid (l.length = 256) := hl
  clear hs hl
  go_enter Tryz.func59, Tryz.ntmps59
  go_upto_region 3 with fail
  go_wp2_with (at_builtin; refine wpList_append_new rfl (.tmp 5) (.tmp 6) rfl w.heap.size [] l w.heap.size 0 0 rfl _ _ _ rfl HL.out.symm (Src.nil _ _) HS.out (by rw [HL.out]; omega) (by rw [HL.out]; simp) HB0.out.size (by rw [HL.out]; simp) ?_; intro v' w2 hO2 hb2)
  rw [List.nil_append] at hO2
  have HO : Hid _ := hO2
  have HB : Hid _ := HB0.out.trans hb2
  clear hO2 hb2 EQ
  go_wp2_with fail
  go_ret
  exact ⟨_, rfl, HO.out, HB.out⟩
set_option maxHeartbeats 1000000 in
theorem bytes_any (g : Nat) (t : TypeId) (x : List UInt8) (r : List Value) (w : World) (hg : w.heap[g]? = some (.cells (bvs x ++ r).toArray t (0, 0))) (hx : x.length = 256) :
    Calls Tryz.prog 88 #[.pointer (some ⟨g, 0, none⟩)] w fun e w' => ∃ v, e = .returned v ∧ Own w' w.heap.size v x ∧ Below w.heap.size w w' := by
  have hs : Src w (some ⟨g, 0, none⟩) x := .inr ⟨g, 0, rfl, (Array.getElem?_eq_some_iff.1 hg).1, fun j hj => by
    rw [Nat.zero_add, cell_of_row w g j _ _ _ hg]
    simp only [List.getElem?_toArray]
    rw [List.getElem?_append_left (by rw [bvs_length]; exact hj)]
    simp [bvs, hj]⟩
  have CL := clone_any g 0 256 x w hs hx
  clear hs hg
  go_enter Tryz.func88, Tryz.ntmps88
  go_wp2_with fail
  refine CL.mono ?_
  rintro e w1 ⟨v, rfl, h1, h2⟩
  go_wp2
  go_ret
  exact ⟨v, rfl, h1, h2⟩
/-- What the disk has of a block. -/
def lst (σ : CSt) (n : Nat) : List UInt8 := lastOf (σ.sf n) (σ.ws n)
theorem lst_len {w : World} {base : Nat} {σ : CSt} {O : List Int} (h : CS w base σ O) (n : Nat) (hn : n < σ.dn) : (lst σ n).length = 256 := h.disk.lastLen n hn
set_option maxHeartbeats 1000000 in
theorem stands_any {w : World} {base : Nat} {σ : CSt} {O : List Int} (h : CS w base σ O) (n : Nat) (hn : n < σ.dn) :
    Calls Tryz.prog 129 #[.pointer (some ⟨σ.p, 0, none⟩), .int .i64 (n : Int)] w fun e w' => e = .returned (.agg (bvs (lst σ n)).toArray) ∧ Below w.heap.size w w' := by
  obtain ⟨Z, hz, hzs, hinfo, HZ⟩ := Tryz.zeroC
  have HZ2 : Hid (Z = (bvs (List.replicate 256 0) ++ []).toArray) := by show _ = _; rw [List.append_nil]; exact HZ.out
  have s1 : ∀ (v : World) (o : Obj), (v.alloc o).heap.size = v.heap.size + 1 := fun v o => by show (v.heap.push o).size = _; simp
  have HB0 : Hid (Below w.heap.size w ((w.alloc (.cells Z 161)).alloc (.cells Z 161))) := ((Below.refl _ _).alloc (Nat.le_refl _) _).alloc (by rw [s1]; omega) _
  have h1 := h.up HB0.out
  have HL : Hid ((lst σ n).length = 256) := lst_len h n hn
  have RD := read_anyP h1.disk n hn
  have HG0 : Hid (((w.alloc (.cells Z 161)).alloc (.cells Z 161)).heap[w.heap.size + 1]? = some (.cells Z 161 (0, 0))) := by
    have := heap_alloc_new (w.alloc (.cells Z 161)) (.cells Z 161)
    rw [s1] at this; exact this
  have HG1 : Hid (((w.alloc (.cells Z 161)).alloc (.cells Z 161)).heap[w.heap.size]? = some (.cells Z 161 (0, 0))) :=
    (Below.heap_alloc _ _ _ (by rw [s1]; omega)).trans (heap_alloc_new w _)
  have HSZ : Hid (((w.alloc (.cells Z 161)).alloc (.cells Z 161)).heap.size = w.heap.size + 2) := by show _ = _; rw [s1, s1]
  have q0 := h1.c0
  clear h1 h HZ s1
  go_enter Tryz.func129, Tryz.ntmps129
  go_wp2_with fail
  generalize (w.alloc (.cells Z 161)).alloc (.cells Z 161) = w0 at *
  refine RD.mono ?_
  clear RD
  rintro e w1 ⟨g, rfl, hg, hge, hb1⟩
  have hl0 : w.heap.size + 1 < w0.heap.size := by rw [HSZ.out]; omega
  have hl1 : w.heap.size < w0.heap.size := by omega
  have HR1 : Hid (w1.heap[w.heap.size + 1]? = some (.cells (bvs (List.replicate 256 0) ++ []).toArray 161 (0, 0))) := by rw [← HZ2.out]; exact (hb1.block _ hl0).trans HG0.out
  have HR0 : Hid (w1.heap[w.heap.size]? = some (.cells Z 161 (0, 0))) := (hb1.block _ hl1).trans HG1.out
  have HB1 : Hid (Below w.heap.size w w1) := HB0.out.trans (hb1.mono HB0.out.size)
  have ST := set_any (w.heap.size + 1) _ _ (lst σ n) [] (some ⟨g, 0, none⟩) 256 w1 HR1.out (by rw [List.length_replicate]) hg.src HL.out
  clear hg hge hb1 HR1 HG0 HG1 HB0 HSZ HZ2 q0
  go_wp2_with fail
  refine ST.mono ?_
  clear ST
  rintro e w2 ⟨rfl, hg2, hf2, hb2, hz2⟩
  have HB2 : Hid (Below w.heap.size w w2) := HB1.out.trans (hb2.mono (by omega))
  have HR2 : Hid (w2.heap[w.heap.size]? = some (.cells Z 161 (0, 0))) := (hb2.block _ (by omega)).trans HR0.out
  have HG2 : Hid (Blk w2 (w.heap.size + 1) 161 (lst σ n)) := by rw [List.append_nil] at hg2; exact hg2
  have HRG : Hid (w2.rangeAt (w.heap.size + 1) 0 (bvs (lst σ n))) := fun j v hv => by
    rw [Nat.zero_add, cell_of_row w2 _ j _ _ _ HG2.out]; simpa using hv
  clear hg2 hf2 hb2 hz2 HB1 HR0
  go_wp2_with (first | ((with_reducible show wpList _ _ _ ({ dst := _, op := Op.load 161 _, type := _, pos := _, after := _, guard := _ } :: _) _ _); refine wpList_load_con rfl (.tmp 5) rfl (w.heap.size + 1) 0 rfl (lst σ n) HRG.out HL.out ?_) | ((with_reducible show wpList _ _ _ ({ dst := _, op := Op.store 161 _ _, type := _, pos := _, after := _, guard := _ } :: _) _ _); refine wpList_store_con rfl (.tmp 4) (.tmp 19) rfl w.heap.size Z (lst σ n) rfl rfl HR2.out hzs HL.out ?_; intro w3 hg3 hb3 hz3))
  exact bodyPost_ret (v := .agg (bvs (lst σ n)).toArray) (results_cell_row rfl _ _ w.heap.size 161 _ _ _ rfl hg3 Tryz.underlying161 rfl (by rw [hinfo, List.size_toArray, bvs_length, HL.out])) rfl ⟨rfl, HB2.out.trans hb3⟩
end Go.Proofs.YtkiifmnmeikdlaaGreatDoor
/- Package cache: reach, find, dirty, mayGo, unlist. -/
namespace Go.Proofs.YtkiifmnmeikdlaaGreatDoor
open Go.RowKit
set_option maxRecDepth 100000
theorem run_neq_con {x y : List UInt8} (hx : x.length = 256) (hy : y.length = 256) (w : World) : (binOp .neq 161 (.agg (bvs x).toArray) (.agg (bvs y).toArray)).run Tryz.prog w = .ok (.bool (!(x == y))) w := by
  rw [run_neq_struct, show (Op.equalIn 10000 161 (.agg (bvs x).toArray) (.agg (bvs y).toArray)).run Tryz.prog w = .ok (x == y) w from run_equalIn_bytes w 9998 161 5 256 Tryz.underlying161 Tryz.underlying5 size5 x y hx hy]
  rfl
theorem exec_neq_con {ev : Operand → Value} {oi : Oper} {X Y : Operand} {w : World} {x y : List UInt8} (hx : x.length = 256) (hy : y.length = 256) {b : Bool} (hb : (!(x == y)) = b) (ho : oi.op = .binOp .neq 161 X Y 161) (eX : ev X = .agg (bvs x).toArray) (eY : ev Y = .agg (bvs y).toArray) :
    (execOp ev oi).run Tryz.prog w = .ok (.value (.bool b)) w := by
  subst hb
  have hg : ∀ A B (w : World), (eqGuard .neq 161 X Y (.agg A) (.agg B)).run Tryz.prog w = .ok () w := fun A B w => run_eqGuard_agg w .neq 161 X Y A B (by kernel_rfl)
  unfold execOp
  simp only [ho, eX, eY]
  simp [hg, run_neq_con hx hy, Result.andThen]
theorem exec_load_con {ev : Operand → Value} {oi : Oper} {x : Operand} {w : World} {b o : Nat} {l : List UInt8} (H : w.rangeAt b o (bvs l)) (hl : l.length = 256) (ho : oi.op = .load 161 x) (hx : ev x = .pointer (some ⟨b, o, none⟩)) :
    (execOp ev oi).run Tryz.prog w = .ok (.value (.agg (bvs l).toArray)) w := by
  unfold execOp
  simp only [ho, hx, Sem.run_bind, load_con H hl, Result.andThen_ok, Sem.run_pure]
section
variable {w w' : World} {base : Nat} {σ : CSt} {O : List Int}
set_option maxHeartbeats 1000000 in
theorem reach_ok (h : CS w base σ O) (n : Nat) (hn : (n : Int) < σ.dn) :
    Calls Tryz.prog 86 #[.pointer (some ⟨σ.p, 0, none⟩), .int .i64 (n : Int)] w fun e w' => e = .returned (.int .i64 0) ∧ w' = w := by
  have LN := len_any h.disk
  have q0 := h.c0
  clear h
  go_enter Tryz.func86, Tryz.ntmps86
  go_wp2_with (first | (go_at_call 22; refine LN.mono ?_; rintro e w1 ⟨rfl, rfl⟩))
  go_ret
  exact ⟨rfl, rfl⟩
theorem CS.lookE (h : CS w base σ O) {A B : List CE} {e : CE} (hL : σ.L = A ++ e :: B) : (Instr.lookup 150 (.map (some σ.mb)) (.int .i64 (e.n : Int)) false).run Tryz.prog w = .ok (.pointer (some ⟨e.q, 0, none⟩)) w := by
  have hn := (h.blk e (by rw [hL]; simp)).2.2.1
  have hd := h.disk.nn
  have := h.look (e.n : Int) (by omega)
  rw [hL, lookF_at (h.split hL)] at this
  exact this
/-- Is a block in memory dirty? May it go? -/
def dirtyB (σ : CSt) (e : CE) : Bool := !(e.d == lst σ e.n)
def goB (σ : CSt) (e : CE) : Bool := (e.pin == 0) && !dirtyB σ e
set_option maxHeartbeats 1000000 in
theorem dirty_any (h : CS w base σ O) {A B : List CE} {e : CE} (hL : σ.L = A ++ e :: B) :
    Calls Tryz.prog 180 #[.pointer (some ⟨σ.p, 0, none⟩), .int .i64 (e.n : Int)] w fun r w' => r = .returned (.bool (dirtyB σ e)) ∧ Below w.heap.size w w' := by
  have he : e ∈ σ.L := by rw [hL]; simp
  have hb := h.blk e he
  have HE : Hid (e ∈ σ.L) := he
  have HN : Hid (e.n < σ.dn) := hb.2.2.1
  have HD : Hid (e.d.length = 256) := hb.2.1
  have HX : Hid ((lst σ e.n).length = 256) := lst_len h e.n hb.2.2.1
  have HLK : Hid (∀ W, CS W base σ O → (Instr.lookup 150 (.map (some σ.mb)) (.int .i64 (e.n : Int)) false).run Tryz.prog W = .ok (.pointer (some ⟨e.q, 0, none⟩)) W) := fun W hW => hW.lookE hL
  have HC : Hid (CS w.drew base σ O ∧ Below w.heap.size w w.drew) := ⟨h.drew, (Below.refl _ _).drew⟩
  clear h hb he hL
  go_enter Tryz.func180, Tryz.ntmps180
  go_wp2_with fail
  refine wp_region_held_drew (S := (fun W => CS W base σ O ∧ Below w.heap.size w W)) (by kernel_rfl) HC.out (fun hH => ?_)
  refine takeH (i := 0) (dst := some 5) (v := ?v1) rfl rfl (by kernel_rfl) (by kernel_rfl) (by kernel_rfl) (fun _ _ _ h => h) rfl ?hy1 hH rfl ?rest1
  case hy1 => (intro W hW; have q2 := hW.1.c2; have lk := HLK.out W hW.1; clear hW; go_simp; try with_reducible rfl)
  (try simp only [Act.put, List.setIfInBounds_toArray, List.set_cons_zero, List.set_cons_succ])
  refine takeH (i := 1) (dst := some 6) (v := ?v2) rfl rfl (by kernel_rfl) (by kernel_rfl) (by kernel_rfl) (fun _ _ _ h => h) rfl ?hy2 hH rfl ?rest2
  case hy2 => (intro W hW; have q2 := hW.1.c2; have lk := HLK.out W hW.1; clear hW; go_simp; try with_reducible rfl)
  (try simp only [Act.put, List.setIfInBounds_toArray, List.set_cons_zero, List.set_cons_succ])
  refine takeH (i := 2) (dst := some 7) (v := ?v3) rfl rfl (by kernel_rfl) (by kernel_rfl) (by kernel_rfl) (fun _ _ _ h => h) rfl ?hy3 hH rfl ?rest3
  case hy3 => (intro W hW; have q2 := hW.1.c2; have lk := HLK.out W hW.1; clear hW; go_simp; try with_reducible rfl)
  (try simp only [Act.put, List.setIfInBounds_toArray, List.set_cons_zero, List.set_cons_succ])
  refine takeH (i := 3) (dst := some 8) (v := ?v4) rfl rfl (by kernel_rfl) (by kernel_rfl) (by kernel_rfl) (fun _ _ _ h => h) rfl ?hy4 hH rfl ?rest4
  case hy4 => (intro W hW; have q2 := hW.1.c2; have lk := HLK.out W hW.1; clear hW; go_simp; try with_reducible rfl)
  (try simp only [Act.put, List.setIfInBounds_toArray, List.set_cons_zero, List.set_cons_succ])
  refine takeH (i := 4) (dst := some 9) (v := ?v5) rfl rfl (by kernel_rfl) (by kernel_rfl) (by kernel_rfl) (fun _ _ _ h => h) rfl ?hy5 hH rfl ?rest5
  case hy5 => (intro W hW; have q2 := hW.1.c2; have lk := HLK.out W hW.1; clear hW; go_simp; try with_reducible rfl)
  (try simp only [Act.put, List.setIfInBounds_toArray, List.set_cons_zero, List.set_cons_succ])
  refine takeH (i := 5) (dst := some 10) (v := ?v6) rfl rfl (by kernel_rfl) (by kernel_rfl) (by kernel_rfl) (fun _ _ _ h => h) rfl ?hy6 hH rfl ?rest6
  case hy6 => (intro W hW; have q2 := hW.1.c2; have lk := HLK.out W hW.1; clear hW; go_simp; try with_reducible rfl)
  (try simp only [Act.put, List.setIfInBounds_toArray, List.set_cons_zero, List.set_cons_succ])
  refine takeH (i := 6) (dst := some 11) (v := ?v7) rfl rfl (by kernel_rfl) (by kernel_rfl) (by kernel_rfl) (fun _ _ _ h => h) rfl ?hy7 hH rfl ?rest7
  case hy7 => (intro W hW; have q2 := hW.1.c2; have lk := HLK.out W hW.1; clear hW; go_simp; try with_reducible rfl)
  (try simp only [Act.put, List.setIfInBounds_toArray, List.set_cons_zero, List.set_cons_succ])
  refine takeH (i := 7) (dst := some 12) (v := ?v8) rfl rfl (by kernel_rfl) (by kernel_rfl) (by kernel_rfl) (fun _ _ _ h => h) rfl ?hy8 hH rfl ?rest8
  case hy8 => (intro W hW; have q2 := hW.1.c2; have lk := HLK.out W hW.1; clear hW; go_simp; try with_reducible rfl)
  (try simp only [Act.put, List.setIfInBounds_toArray, List.set_cons_zero, List.set_cons_succ])
  refine takeH (i := 8) (dst := some 13) (v := ?v9) rfl rfl (by kernel_rfl) (by kernel_rfl) (by kernel_rfl) (fun _ _ _ h => h) rfl ?hy9 hH rfl ?rest9
  case hy9 => (intro W hW; refine exec_load_con (x := Operand.tmp 12) (hW.1.range HE.out) HD.out ?_ ?_ <;> rfl)
  (try simp only [Act.put, List.setIfInBounds_toArray, List.set_cons_zero, List.set_cons_succ])
  refine takeH (i := 9) (dst := some 14) (v := ?v10) rfl rfl (by kernel_rfl) (by kernel_rfl) (by kernel_rfl) (fun _ _ _ h => h) rfl ?hy10 hH rfl ?rest10
  case hy10 => (intro W hW; have q2 := hW.1.c2; have lk := HLK.out W hW.1; clear hW; go_simp; try with_reducible rfl)
  (try simp only [Act.put, List.setIfInBounds_toArray, List.set_cons_zero, List.set_cons_succ])
  refine takeH (i := 10) (dst := some 15) (v := ?v11) rfl rfl (by kernel_rfl) (by kernel_rfl) (by kernel_rfl) (fun _ _ _ h => h) rfl ?hy11 hH rfl ?rest11
  case hy11 => (intro W hW; have q2 := hW.1.c2; have lk := HLK.out W hW.1; clear hW; go_simp; try with_reducible rfl)
  (try simp only [Act.put, List.setIfInBounds_toArray, List.set_cons_zero, List.set_cons_succ])
  refine callH (i := 11) { dst := some 16, op := Go.Op.call { callee := Go.Callee.value (Go.Operand.func 129), args := #[Go.Operand.tmp 14, Go.Operand.tmp 15], argTypes := #[94, 159] }, type := 161, pos := "cache.go:100", after := #[{ on := 9, ground := Go.Ground.data }, { on := 10, ground := Go.Ground.data }], guard := none } (by kernel_rfl) rfl rfl (fun K hK => ?_)
  go_simp
  refine (stands_any hH.1 e.n HN.out).mono ?_
  rintro r v1 ⟨rfl, k1⟩
  have m1 := And.intro (hH.1.up k1) (hH.2.trans (k1.mono hH.2.size))
  clear k1
  clear hH
  refine hK.out _ _ m1 (fun hH => ?_)
  clear hK K
  (try simp only [Act.put, List.setIfInBounds_toArray, List.set_cons_zero, List.set_cons_succ])
  refine takeH (i := 12) (dst := some 17) (v := ?v12) rfl rfl (by kernel_rfl) (by kernel_rfl) (by kernel_rfl) (fun _ _ _ h => h) rfl ?hy12 hH rfl ?rest12
  case hy12 => (intro W hW; refine exec_neq_con (X := Operand.tmp 13) (Y := Operand.tmp 16) HD.out HX.out (b := dirtyB σ e) rfl ?_ ?_ ?_ <;> rfl)
  (try simp only [Act.put, List.setIfInBounds_toArray, List.set_cons_zero, List.set_cons_succ])
  refine takeH (i := 13) (dst := some 4) (v := ?v13) rfl rfl (by kernel_rfl) (by kernel_rfl) (by kernel_rfl) (fun _ _ _ h => h) rfl ?hy13 hH rfl ?rest13
  case hy13 => (intro W hW; have q2 := hW.1.c2; have lk := HLK.out W hW.1; clear hW; go_simp; try with_reducible rfl)
  (try simp only [Act.put, List.setIfInBounds_toArray, List.set_cons_zero, List.set_cons_succ])
  refine wpAnyH_done (by kernel_rfl) ?_ _
  clear hH
  go_wp2
  go_ret
  exact ⟨rfl, m1.2⟩
set_option maxHeartbeats 1000000 in
theorem mayGo_any (h : CS w base σ O) {A B : List CE} {e : CE} (hL : σ.L = A ++ e :: B) :
    Calls Tryz.prog 149 #[.pointer (some ⟨σ.p, 0, none⟩), .int .i64 (e.n : Int)] w fun r w' => r = .returned (.bool (goB σ e)) ∧ Below w.heap.size w w' := by
  have DT := dirty_any h hL
  have LK := h.lookE hL
  have q2 := h.c2
  have qp := h.pin (e := e) (by rw [hL]; simp)
  clear h hL
  unfold goB
  generalize dirtyB σ e = D at *
  by_cases h0 : e.pin = 0
  · rw [h0] at qp ⊢
    go_enter Tryz.func149, Tryz.ntmps149
    go_wp2_with (first | (go_at_call 180; refine DT.mono ?_; rintro r w1 ⟨rfl, k1⟩))
    go_ret
    exact ⟨by cases D <;> rfl, k1⟩
  · have h1 : ((e.pin : Int) == 0) = false := beq_eq_false_iff_ne.2 (by omega)
    have h2 : (e.pin == 0) = false := beq_eq_false_iff_ne.2 h0
    rw [h2]
    clear h2
    generalize e.pin = pn at *
    go_enter Tryz.func149, Tryz.ntmps149
    go_wp2_with (first | (go_at_call 180; refine DT.mono ?_; rintro r w1 ⟨rfl, k1⟩))
    go_ret
    exact ⟨rfl, Below.refl _ _⟩
theorem DiskAt.dk_lt {w : World} {base p n : Nat} {en : Bool} {lf : Int} {sf : Nat → List UInt8} {ws : Nat → List (List UInt8)} {q : Nat} {vs : Nat → Value} (h : DiskAt w base p n en lf sf ws q vs) {k : Nat} (hk : Dk p q n vs k) : k < w.heap.size ∧ base ≤ k := by
  rcases hk with rfl | rfl | ⟨i, hi, hk⟩
  · exact ⟨h.pl, h.pb⟩
  · exact ⟨h.ql, h.qb⟩
  · have := World.ownsRow.lt (h.wr i hi).1 k hk
    exact ⟨this.2, this.1⟩
/-- Another order. -/
theorem CS.reord (h : CS w base σ O) {v' : Value} {O' : List Int} (hf : Fr (fun k => k = σ.p ∨ σ.ov.ownBlock = some k) w w') (hc : ∀ o, ¬ o = 3 → w'.cell? ⟨σ.p, o, none⟩ = w.cell? ⟨σ.p, o, none⟩) (h3 : w'.cell? ⟨σ.p, 3, none⟩ = some v') (hfp : ∀ o, w'.frozen? ⟨σ.p, o, none⟩ = false)
    (ho : OwnN w' base v' O') (hs : ∀ k, v'.ownBlock = some k → σ.ov.ownBlock = some k ∨ w.heap.size ≤ k) : CS w' base { σ with ov := v' } O' := by
  have ne : ∀ k, k < w.heap.size → ¬ σ.ov.ownBlock = some k → ¬ v'.ownBlock = some k := fun k hk hn hv => by
    rcases hs k hv with h1 | h1
    · exact hn h1
    · omega
  exact {
    disk := h.disk.fr hf fun k hk hS => h.dk k hk (by
      rcases hS with hS | hS
      · exact .inl hS
      · exact .inr (.inr (.inl hS)))
    c0 := (hc 0 (by omega)).trans h.c0, c1 := (hc 1 (by omega)).trans h.c1, c2 := (hc 2 (by omega)).trans h.c2, c3 := h3, fp := hfp, ord := ho
    map := h.map.same (hf.blk _ h.map.lt (fun hS => by
      rcases hS with hS | hS
      · exact h.pm hS.symm
      · exact h.mo hS))
    blk := fun e he => ⟨(hf.blk e.q (h.sk_lt (.inr (.inr (.inr ⟨e, he, rfl⟩)))) (fun hS => by
      rcases hS with hS | hS
      · exact (h.bq e he).1 hS
      · exact (h.bq e he).2.2.1 hS)).trans (h.blk e he).1, (h.blk e he).2⟩
    nd := h.nd, qd := h.qd, pm := h.pm
    po := ne _ h.pl h.po
    mo := ne _ h.map.lt h.mo
    bq := fun e he => ⟨(h.bq e he).1, (h.bq e he).2.1, ne _ (h.sk_lt (.inr (.inr (.inr ⟨e, he, rfl⟩)))) (h.bq e he).2.2.1, (h.bq e he).2.2.2⟩
    pb := h.pb, mbb := h.mbb
    dk := fun k hk hC => by
      rcases hC with hC | hC | hC | hC
      · exact h.dk k hk (.inl hC)
      · exact h.dk k hk (.inr (.inl hC))
      · rcases hs k hC with h1 | h1
        · exact h.dk k hk (.inr (.inr (.inl h1)))
        · have := (h.disk.dk_lt hk).1; omega
      · exact h.dk k hk (.inr (.inr (.inr hC)))
    m1 := h.m1 }
/-- From one cache to another: only its own blocks turn, and what it comes to own is new. -/
structure Step (σ σ' : CSt) (w w' : World) : Prop where
  fr : Fr (Sk σ) w w'
  sub : ∀ k, Sk σ' k → Sk σ k ∨ w.heap.size ≤ k
theorem Step.refl (σ : CSt) {w w' : World} (hb : Below w.heap.size w w') : Step σ σ w w' := ⟨Fr.of_below hb, fun _ h => .inl h⟩
theorem Step.trans {σ σ' σ'' : CSt} {a b c : World} (h : Step σ σ' a b) (k : Step σ' σ'' b c) : Step σ σ'' a c := by
  have hz := h.fr.size
  refine ⟨⟨Nat.le_trans h.fr.size k.fr.size, fun j hj hn => ?_, k.fr.os.trans h.fr.os, k.fr.tape.trans h.fr.tape, k.fr.output.trans h.fr.output⟩, fun j hj => ?_⟩
  · refine (k.fr.blk j (by omega) (fun hs => ?_)).trans (h.fr.blk j hj hn)
    rcases h.sub j hs with h1 | h1
    · exact hn h1
    · omega
  · rcases k.sub j hj with h1 | h1
    · exact h.sub j h1
    · exact .inr (by omega)
theorem Step.ord {σ : CSt} {w w' : World} {v' : Value} (hf : Fr (fun k => k = σ.p ∨ σ.ov.ownBlock = some k) w w') (hs : ∀ k, v'.ownBlock = some k → σ.ov.ownBlock = some k ∨ w.heap.size ≤ k) : Step σ { σ with ov := v' } w w' := by
  refine ⟨hf.mono fun k _ hk => ?_, fun k hk => ?_⟩
  · rcases hk with hk | hk
    · exact .inl (.inl hk)
    · exact .inl (.inr (.inr (.inl hk)))
  · rcases hk with (hk | hk | hk | hk) | hk
    · exact .inl (.inl (.inl hk))
    · exact .inl (.inl (.inr (.inl hk)))
    · rcases hs k hk with h1 | h1
      · exact .inl (.inl (.inr (.inr (.inl h1))))
      · exact .inr h1
    · exact .inl (.inl (.inr (.inr (.inr hk))))
    · exact .inl (.inr hk)
end
end Go.Proofs.YtkiifmnmeikdlaaGreatDoor
/- Package cache: unlist, leave. -/
namespace Go.Proofs.YtkiifmnmeikdlaaGreatDoor
open Go.RowKit
set_option maxRecDepth 100000
theorem getD_app (X Z : List Int) (y : Int) : (X ++ y :: Z).getD X.length 0 = y := by simp
theorem erase_app (X Z : List Int) (y : Int) : (X ++ y :: Z).eraseIdx X.length = X ++ Z := by
  rw [List.eraseIdx_append_of_length_le (Nat.le_refl _)]; simp
theorem Fr.of_grown {w w' : World} {g : Nat} (h : w.grownBy w' (some g)) : Fr (fun k => k = g) w w' := ⟨h.size, fun k hk hn => h.block k hk (fun e => hn (Option.some.inj e)), h.os, h.tape, h.output⟩
section
variable {w w' : World} {base : Nat} {σ : CSt} {O : List Int}
set_option maxHeartbeats 1000000 in
theorem unlist_any (h : CS w base σ O) {X Z : List Int} {y : Int} (hO : O = X ++ y :: Z) (hy : ∀ x ∈ X, ¬ y = x) :
    Calls Tryz.prog 127 #[.pointer (some ⟨σ.p, 0, none⟩), .int .i64 y] w fun r w' => r = .returned (.tuple #[]) ∧ ∃ v', CS w' base { σ with ov := v' } (X ++ Z) ∧ Step σ { σ with ov := v' } w w' ∧ Below base w w' := by
  have hord := h.ord
  obtain ⟨ao, cap, hov, hsrc, hlc, hcm, hnil⟩ := hord.form
  have hlen : O.length = X.length + Z.length + 1 := by rw [hO]; simp; omega
  rcases hsrc with hsrc | ⟨g, off, rfl, hgl, hcell⟩
  · rw [hsrc] at hlen; simp at hlen
  have hg0 : off = 0 ∧ base ≤ g := by
    rcases hord.2 with ⟨h2, _⟩ | ⟨g', cap', cur, hv, hgb, _⟩
    · rw [hov] at h2; cases h2
    · rw [hov] at hv
      simp only [Value.slice.injEq, Option.some.injEq, Addr.mk.injEq] at hv
      exact ⟨hv.1.2.1, by omega⟩
  obtain ⟨rfl, hgb⟩ := hg0
  have hob : σ.ov.ownBlock = some g := by rw [hov]; rfl
  have hgp : ¬ σ.p = g := fun e => h.po (by rw [hob, e])
  rw [hov, hlen] at hord
  have IX := index_any g 0 (X.length + Z.length + 1) cap O y X.length w (fun j hj => hcell j (by omega)) (by omega) (by omega) (by rw [hO]; exact getD_app X Z y) (fun j hj => by
    rw [hO, List.getD_eq_getElem?_getD, List.getElem?_append_left hj]
    rw [List.getElem?_eq_getElem hj]
    exact hy _ (List.getElem_mem hj))
  have DL := delete_any base g cap (X.length + Z.length) X.length O w hord hlen (by omega) hcm
  rw [show O.eraseIdx X.length = X ++ Z by rw [hO]; exact erase_app X Z y] at DL
  have q3 := h.c3
  rw [hov, hlen] at q3
  have HH : Hid (CS w base σ O) := h
  have HOB : Hid (σ.ov.ownBlock = some g) := hob
  have HPL : Hid (σ.p < w.heap.size) := h.pl
  have hib : (X.length : Int) + 1 ≤ 9223372036854775807 := by omega
  clear hcell hord h hob hov hO hy hlen hnil hlc hgl
  obtain ⟨m, hm⟩ : ∃ m, m = X.length + Z.length := ⟨_, rfl⟩
  obtain ⟨i, hi⟩ : ∃ i, i = X.length := ⟨_, rfl⟩
  rw [← hm] at IX DL q3
  rw [← hi] at IX DL hib
  clear hm hi
  go_enter Tryz.func127, Tryz.ntmps127
  go_wp2_with fail
  refine IX.mono ?_
  rintro e w1 ⟨rfl, hw1⟩
  obtain rfl : w = w1 := hw1.symm
  clear IX
  go_wp2_with fail

  refine DL.mono ?_
  clear DL
  rintro e w2 ⟨rfl, ho2, hg2⟩
  have q3' : w2.cell? ⟨σ.p, 3, none⟩ = _ := (World.cell?_of_block (a := ⟨σ.p, 3, none⟩) (hg2.block σ.p HPL.out (fun e => hgp (Option.some.inj e)))).trans q3
  have qf : w2.frozen? ⟨σ.p, 3, none⟩ = false := (World.frozen?_of_block (a := ⟨σ.p, 3, none⟩) (hg2.block σ.p HPL.out (fun e => hgp (Option.some.inj e)))).trans (HH.out.fp 3)
  go_wp2
  go_end0
  have hP := hg2.block σ.p HPL.out (fun e => hgp (Option.some.inj e))
  have hf : Fr (fun k => k = σ.p ∨ σ.ov.ownBlock = some k) w (w2.setCell ⟨σ.p, 3, none⟩ (.slice (some ⟨g, 0, none⟩) m cap)) :=
    ((Fr.of_grown hg2).mono fun k _ hk => .inr (by rw [HOB.out, hk])).setCell σ.p 3 _ (.inl rfl)
  have hs : ∀ k, (Value.slice (some ⟨g, 0, none⟩) m cap).ownBlock = some k → σ.ov.ownBlock = some k ∨ w.heap.size ≤ k := fun k hk => .inl (by rw [HOB.out]; exact hk)
  refine ⟨rfl, _, HH.out.reord hf ?_ ?_ ?_ ?_ hs, Step.ord hf hs, ?_⟩
  · intro o ho
    exact (World.cell?_setCell_other _ _ _ _ (fun c => ho (by injection c with _ c2; exact c2.symm))).trans (World.cell?_of_block (a := ⟨σ.p, o, none⟩) hP)
  · exact World.cell?_setCell_same _ _ _ q3'
  · intro o
    rw [World.frozen?_setCell]
    exact (World.frozen?_of_block (a := ⟨σ.p, o, none⟩) hP).trans (HH.out.fp o)
  · exact ho2.same fun k hk => heap_setCell_other _ _ _ _ (fun e => by cases hk; exact hgp e.symm)
  · exact ((Below.refl _ _).grown hg2 (by have := HH.out.pb; have := HPL.out; omega) (fun k hk => by cases hk; exact hgb)).setCell HH.out.pb _
/-- One block less. -/
theorem CS.dropL (h : CS w base σ O) {A B : List CE} {e : CE} (hL : σ.L = A ++ e :: B) (hf : Fr (fun k => k = σ.mb) w w') (hm : PMap w' σ.mb σ.K (lookF (A ++ B))) : CS w' base { σ with L := A ++ B } O := by
  have sub : ∀ x, x ∈ A ++ B → x ∈ σ.L := fun x hx => by
    rw [hL]
    rcases List.mem_append.1 hx with hx | hx
    · exact List.mem_append.2 (.inl hx)
    · exact List.mem_append.2 (.inr (List.mem_cons_of_mem _ hx))
  have cp : ∀ o, w'.cell? ⟨σ.p, o, none⟩ = w.cell? ⟨σ.p, o, none⟩ := fun o => fr_cell hf (a := ⟨σ.p, o, none⟩) h.pl h.pm
  have nodup : ∀ f : CE → Nat, (σ.L.map f).Nodup → ((A ++ B).map f).Nodup := fun f hd => by
    rw [hL] at hd
    refine List.Nodup.sublist ?_ hd
    rw [List.map_append, List.map_append]
    exact List.Sublist.append (List.Sublist.refl _) (by rw [List.map_cons]; exact List.sublist_cons_self _ _)
  exact {
    disk := h.disk.fr hf fun k hk hS => h.dk k hk (.inr (.inl hS))
    c0 := (cp 0).trans h.c0, c1 := (cp 1).trans h.c1, c2 := (cp 2).trans h.c2, c3 := (cp 3).trans h.c3
    fp := fun o => (fr_frozen hf (a := ⟨σ.p, o, none⟩) h.pl h.pm).trans (h.fp o)
    ord := h.ord.same fun k hk => hf.blk k (h.ord.lt k hk).2 (fun e => h.mo (by rw [hk, e]))
    map := hm
    blk := fun x hx => ⟨(hf.blk x.q (h.sk_lt (.inr (.inr (.inr ⟨x, sub x hx, rfl⟩)))) (h.bq x (sub x hx)).2.1).trans (h.blk x (sub x hx)).1, (h.blk x (sub x hx)).2⟩
    nd := nodup _ h.nd, qd := nodup _ h.qd, pm := h.pm, po := h.po, mo := h.mo
    bq := fun x hx => h.bq x (sub x hx)
    pb := h.pb, mbb := h.mbb
    dk := fun k hk hC => h.dk k hk (by
      rcases hC with hC | hC | hC | ⟨x, hx, hq⟩
      · exact .inl hC
      · exact .inr (.inl hC)
      · exact .inr (.inr (.inl hC))
      · exact .inr (.inr (.inr ⟨x, sub x hx, hq⟩)))
    m1 := h.m1 }
theorem Step.dropL {A B : List CE} {e : CE} (hL : σ.L = A ++ e :: B) (hf : Fr (fun k => k = σ.mb) w w') : Step σ { σ with L := A ++ B } w w' := by
  refine ⟨hf.mono fun k _ hk => .inl (.inr (.inl hk)), fun k hk => .inl ?_⟩
  rcases hk with (hk | hk | hk | ⟨x, hx, hq⟩) | hk
  · exact .inl (.inl hk)
  · exact .inl (.inr (.inl hk))
  · exact .inl (.inr (.inr (.inl hk)))
  · refine .inl (.inr (.inr (.inr ⟨x, ?_, hq⟩)))
    rw [hL]
    rcases List.mem_append.1 hx with hx | hx
    · exact List.mem_append.2 (.inl hx)
    · exact List.mem_append.2 (.inr (List.mem_cons_of_mem _ hx))
  · exact .inr hk
/-- One block more. -/
theorem CS.addL (h : CS w base σ O) {e : CE} (hq : w.heap[e.q]? = some (.cells (beL e).toArray 163 (0, 0))) (hd : e.d.length = 256) (hn : e.n < σ.dn) (hp : e.pin ≤ σ.K + 1) (hb : base ≤ e.q) (hS : ¬ Sk σ e.q) (hne : ∀ x ∈ σ.L, ¬ x.n = e.n)
    (hf : Fr (fun k => k = σ.mb) w w') (hm : PMap w' σ.mb (σ.K + 1) (setF (lookF σ.L) e.n (e.q + 1))) : CS w' base { σ with L := σ.L ++ [e], K := σ.K + 1 } O := by
  have cp : ∀ o, w'.cell? ⟨σ.p, o, none⟩ = w.cell? ⟨σ.p, o, none⟩ := fun o => fr_cell hf (a := ⟨σ.p, o, none⟩) h.pl h.pm
  have hql : e.q < w.heap.size := (Array.getElem?_eq_some_iff.1 hq).1
  have hqm : ¬ e.q = σ.mb := fun c => hS (.inl (.inr (.inl c)))
  exact {
    disk := h.disk.fr hf fun k hk hS => h.dk k hk (.inr (.inl hS))
    c0 := (cp 0).trans h.c0, c1 := (cp 1).trans h.c1, c2 := (cp 2).trans h.c2, c3 := (cp 3).trans h.c3
    fp := fun o => (fr_frozen hf (a := ⟨σ.p, o, none⟩) h.pl h.pm).trans (h.fp o)
    ord := h.ord.same fun k hk => hf.blk k (h.ord.lt k hk).2 (fun e => h.mo (by rw [hk, e]))
    map := by rw [← lookF_add hne]; exact hm
    blk := fun x hx => by
      rcases List.mem_append.1 hx with hx | hx
      · have := h.blk x hx
        exact ⟨(hf.blk x.q (h.sk_lt (.inr (.inr (.inr ⟨x, hx, rfl⟩)))) (h.bq x hx).2.1).trans this.1, this.2.1, this.2.2.1, by have := this.2.2.2; show _ ≤ σ.K + 1; omega⟩
      · simp only [List.mem_singleton] at hx
        subst hx
        exact ⟨(hf.blk _ hql hqm).trans hq, hd, hn, hp⟩
    nd := by
      rw [List.map_append, List.nodup_append]
      refine ⟨h.nd, by simp, fun a ha b hb => ?_⟩
      obtain ⟨x, hx, rfl⟩ := List.mem_map.1 ha
      simp only [List.map_cons, List.map_nil, List.mem_singleton] at hb
      subst hb
      exact hne x hx
    qd := by
      rw [List.map_append, List.nodup_append]
      refine ⟨h.qd, by simp, fun a ha b hb => ?_⟩
      obtain ⟨x, hx, rfl⟩ := List.mem_map.1 ha
      simp only [List.map_cons, List.map_nil, List.mem_singleton] at hb
      subst hb
      exact fun c => hS (.inl (.inr (.inr (.inr ⟨x, hx, c⟩))))
    pm := h.pm, po := h.po, mo := h.mo
    bq := fun x hx => by
      rcases List.mem_append.1 hx with hx | hx
      · exact h.bq x hx
      · simp only [List.mem_singleton] at hx
        subst hx
        exact ⟨fun c => hS (.inl (.inl c)), hqm, fun c => hS (.inl (.inr (.inr (.inl c)))), hb⟩
    pb := h.pb, mbb := h.mbb
    dk := fun k hk hC => by
      rcases hC with hC | hC | hC | ⟨x, hx, hq2⟩
      · exact h.dk k hk (.inl hC)
      · exact h.dk k hk (.inr (.inl hC))
      · exact h.dk k hk (.inr (.inr (.inl hC)))
      · rcases List.mem_append.1 hx with hx | hx
        · exact h.dk k hk (.inr (.inr (.inr ⟨x, hx, hq2⟩)))
        · simp only [List.mem_singleton] at hx
          subst hx
          subst hq2
          exact hS (.inr hk)
    m1 := h.m1 }
theorem wfN {n : Nat} (h : n ≤ 4096) : (Lit.int .i64 (n : Int)).wf = true := by
  simp only [Lit.wf, Bool.and_eq_true, decide_eq_true_eq]
  exact ⟨by show -9223372036854775808 ≤ _; omega, by show _ ≤ 9223372036854775807; omega⟩
theorem NoTwo.order {A B : List CE} {e : CE} (h : NoTwo A e B) : ∀ x ∈ nums A, ¬ (e.n : Int) = x := fun x hx => by
  obtain ⟨y, hy, rfl⟩ := List.mem_map.1 hx
  have := h.1 y hy
  omega
set_option maxHeartbeats 1000000 in
theorem leave_any (h : CS w base σ (nums σ.L)) {A B : List CE} {e : CE} (hL : σ.L = A ++ e :: B) :
    Calls Tryz.prog 150 #[.pointer (some ⟨σ.p, 0, none⟩), .int .i64 (e.n : Int)] w fun r w' => r = .returned (.tuple #[]) ∧ ∃ v', CS w' base { σ with ov := v', L := A ++ B } (nums (A ++ B)) ∧ Step σ { σ with ov := v', L := A ++ B } w w' ∧ Below base w w' := by
  have hn := (h.blk e (by rw [hL]; simp)).2.2.1
  have hd := h.disk.nn
  obtain ⟨w1, hrun, hm, hg⟩ := h.map.del (e.n : Int) (wfN (by omega)) 0
  rw [hL, lookF_del (h.split hL)] at hm
  have hf := Fr.of_grown hg
  have h1 := h.dropL hL hf hm
  have HS1 : Hid (Step σ { σ with L := A ++ B } w w1) := Step.dropL hL hf
  have HB1 : Hid (Below base w w1) := (Below.refl _ _).grown hg (by have := h.mbb; have := h.map.lt; omega) (fun k hk => by cases hk; exact h.mbb)
  have UL := unlist_any h1 (X := nums A) (Z := nums B) (y := (e.n : Int)) (by rw [hL]; simp [nums]) (h.split hL).order
  rw [← nums_append] at UL
  have q2 := h.c2
  clear h h1 hm hg hf hL
  go_enter Tryz.func150, Tryz.ntmps150
  go_wp2_with (first | (go_at_call 127; refine UL.mono ?_; rintro r w2 ⟨rfl, v', k1, k2, k3⟩))
  go_end0
  exact ⟨rfl, v', k1, HS1.out.trans k2, HB1.out.trans k3⟩
end
end Go.Proofs.YtkiifmnmeikdlaaGreatDoor
