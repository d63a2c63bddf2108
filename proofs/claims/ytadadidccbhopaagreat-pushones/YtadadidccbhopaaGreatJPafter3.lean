/- leveelaw11.after: numbers of changes ahead, made of any. -/
import Derived.Test.YtadadidccbhopaaGreatKPordy
import Derived.Deep.CutBlock
import Derived.Deep.DeepCutAuto
import Derived.Test.YtadadidccbhopaaGreatJKMap2
import Derived.Deep.QuietTactic
import Derived.BigQuiet
namespace Go.Proofs.YtadadidccbhopaaGreat
open Go.RowKit
set_option maxRecDepth 100000
theorem ownsRow_mono {w : World} {base b' e size n : Nat} {v : Value} {xs : List Value} (h : w.ownsRow base e size v n xs) (hb : b' ≤ base) : w.ownsRow b' e size v n xs := by
  obtain ⟨h1, h2⟩ := h
  refine ⟨h1, ?_⟩
  rcases h2 with h2 | ⟨g, cap, cur, hv, hg, rest⟩
  · exact .inl h2
  · exact .inr ⟨g, cap, cur, hv, by omega, rest⟩
section
variable (q : Act6) (w : World)
end
end Go.Proofs.YtadadidccbhopaaGreat
/- Package patch: the closure of Waits. -/
namespace Go.Proofs.YtadadidccbhopaaGreat
open Go.RowKit
set_option maxRecDepth 100000
/-- What Waits holds, that began at w0: the boxes of the store, of the list and of the map, the map and the list. -/
structure WS (w0 w : World) (bm mp ba p : Nat) (ks : List Int) (v : Value) : Prop where
  be : Below w0.heap.size w0 w
  rs : w.heap[w0.heap.size]? = some (.cells #[.pointer (some ⟨p, 0, none⟩)] 30 (0, 0))
  rm : w.heap[bm]? = some (.cells #[.map (some mp)] 162 (0, 0))
  ra : w.heap[ba]? = some (.cells #[v] 37 (0, 0))
  sm : SMap w mp ks.length ks
  ow : OwnL w (w0.heap.size + 4) v ks
  bb : w0.heap.size < bm ∧ bm < w0.heap.size + 4 ∧ w0.heap.size < mp ∧ mp < w0.heap.size + 4 ∧ w0.heap.size < ba ∧ ba < w0.heap.size + 4
  ne : bm ≠ mp ∧ bm ≠ ba ∧ mp ≠ ba
  sz : w0.heap.size + 4 ≤ w.heap.size
section
variable {w0 w w' : World} {bm mp ba p base : Nat} {ks : List Int} {v : Value} {s : PSt} {ops : Nat → List Int}
theorem WS.up (h : WS w0 w bm mp ba p ks v) (hb : Below w.heap.size w w') : WS w0 w' bm mp ba p ks v := by
  have hz := h.sz
  have hs := hb.size
  have hbb := h.bb
  exact {
    be := h.be.trans (hb.mono h.be.size)
    rs := (hb.block _ (by omega)).trans h.rs
    rm := (hb.block _ (by omega)).trans h.rm
    ra := (hb.block _ (by omega)).trans h.ra
    sm := h.sm.same (hb.block _ (by omega))
    ow := row_same h.ow fun k hk => hb.block k (h.ow.lt k hk).2
    bb := h.bb
    ne := h.ne
    sz := by omega }
/-- The map has one more. -/
theorem WS.put (h : WS w0 w bm mp ba p ks v) (hg : w.grownBy w' (some mp)) :
    Below w0.heap.size w0 w' ∧ w'.heap[w0.heap.size]? = some (.cells #[.pointer (some ⟨p, 0, none⟩)] 30 (0, 0)) ∧ w'.heap[bm]? = some (.cells #[.map (some mp)] 162 (0, 0)) ∧ w'.heap[ba]? = some (.cells #[v] 37 (0, 0)) ∧ OwnL w' (w0.heap.size + 4) v ks ∧ w0.heap.size + 4 ≤ w'.heap.size := by
  have hz := h.sz
  have hs := hg.size
  have hbb := h.bb
  have hne := h.ne
  have bl : ∀ k, k < w.heap.size → k ≠ mp → w'.heap[k]? = w.heap[k]? := fun k hk he => hg.block k hk (fun e => he (Option.some.inj e))
  refine ⟨h.be.trans ((Below.refl _ _).grown hg h.be.size (fun k hk => by cases hk; omega)), (bl _ (by omega) (by omega)).trans h.rs, (bl _ (by omega) (by omega)).trans h.rm, (bl _ (by omega) (by omega)).trans h.ra, row_same h.ow fun k hk => ?_, by omega⟩
  have := h.ow.lt k hk
  exact bl k this.2 (by omega)
/-- The list too. -/
theorem WS.both (h : WS w0 w bm mp ba p ks v) {x : Int} {w2 w3 : World} (hg : w.grownBy w2 (some mp)) (hS : SMap w2 mp (ks.length + 1) (ks ++ [x])) {o : Obj} {G cap : Nat} (ho : OwnL w3 (w0.heap.size + 4) (.slice (some ⟨G, 0, none⟩) (ks.length + 1) cap) (ks ++ [x])) (hg3 : (w2.alloc o).grownBy w3 v.ownBlock) :
    WS w0 (w3.setCell ⟨ba, 0, none⟩ (.slice (some ⟨G, 0, none⟩) (ks.length + 1) cap)) bm mp ba p (ks ++ [x]) (.slice (some ⟨G, 0, none⟩) (ks.length + 1) cap) := by
  obtain ⟨p1, p2, p3, p4, p5, p6⟩ := h.put hg
  have hbb := h.bb
  have hne := h.ne
  have hz3 := hg3.size
  rw [size_alloc] at hz3
  have bl : ∀ k, k < w2.heap.size → k < w0.heap.size + 4 → w3.heap[k]? = w2.heap[k]? := fun k hk he => by
    rw [hg3.block k (by rw [size_alloc]; omega) (fun e => by have := (h.ow.lt k e.symm).1; omega)]
    exact Below.heap_alloc _ _ _ hk
  have st : ∀ k, k ≠ ba → (w3.setCell ⟨ba, 0, none⟩ (.slice (some ⟨G, 0, none⟩) (ks.length + 1) cap)).heap[k]? = w3.heap[k]? := fun k hk => heap_setCell_other w3 ⟨ba, 0, none⟩ k _ hk
  have hb3 : Below w0.heap.size w0 w3 := (p1.alloc p1.size o).trans ((Below.refl _ _).grown hg3 (by rw [size_alloc]; omega) (fun k hk => by have := (h.ow.lt k hk).1; omega))
  exact {
    be := hb3.setCell (by show _ ≤ ba; omega) _
    rs := (st _ (by omega)).trans ((bl _ (by omega) (by omega)).trans p2)
    rm := (st _ (by omega)).trans ((bl _ (by omega) (by omega)).trans p3)
    ra := by
      have e := (bl ba (by omega) (by omega)).trans p4
      exact heap_setCell_same w3 ba 0 _ _ _ e
    sm := by
      rw [List.length_append]
      exact hS.same ((st _ (by omega)).trans (bl _ (by omega) (by omega)))
    ow := row_same ho fun k hk => st k (by have := (ho.lt k hk).1; omega)
    bb := h.bb
    ne := h.ne
    sz := by rw [show (w3.setCell ⟨ba, 0, none⟩ (.slice (some ⟨G, 0, none⟩) (ks.length + 1) cap)).heap.size = w3.heap.size by simp [World.setCell]]; omega }
set_option maxHeartbeats 2000000 in
theorem meet_no (h : PM w base s ops) (H : WS w0 w bm mp ba s.p ks v) (x : Int) (hx : -9223372036854775808 ≤ x ∧ x ≤ 9223372036854775807) (hno : x ∈ ks ∨ s.fC x = 0) :
    Calls Tryz.prog 104 #[.int .i64 x, .pointer (some ⟨bm, 0, none⟩), .pointer (some ⟨w0.heap.size, 0, none⟩), .pointer (some ⟨ba, 0, none⟩)] w fun e w' => e = .returned (.tuple #[]) ∧ Below w.heap.size w w' := by
  have q1 : w.cell? ⟨bm, 0, none⟩ = some (.map (some mp)) := (cell_of_row _ _ _ _ _ _ H.rm).trans rfl
  have LK := H.sm.look x hx
  have HB : Hid (Below w.heap.size w (w.alloc (.cells #[] 163))) := (Below.refl _ _).alloc (Nat.le_refl _) _
  have H2 := H.up HB.out
  have q2 : (w.alloc (.cells #[] 163)).cell? ⟨w0.heap.size, 0, none⟩ = some (.pointer (some ⟨s.p, 0, none⟩)) := (cell_of_row _ _ _ _ _ _ H2.rs).trans rfl
  have CL := closed_any (h.up HB.out) x hx
  clear H H2
  by_cases hin : x ∈ ks
  · rw [decide_eq_true hin] at LK
    clear h hno hin CL
    go_enter Tryz.func104, Tryz.ntmps104
    go_wp2
    refine bodyPost_ret (results_none rfl _ _ _) rfl ?_
    exact ⟨rfl, HB.out⟩
  · rw [decide_eq_false hin] at LK
    rw [decide_eq_true (hno.resolve_left hin)] at CL
    clear h hno hin
    go_enter Tryz.func104, Tryz.ntmps104
    go_wp2_with (first | (go_at_call 96; refine Hid.out ?_))
    change Calls _ _ _ _ _
    refine CL.mono ?_
    rintro r w1 ⟨rfl, rfl⟩
    go_wp2
    refine bodyPost_ret (results_none rfl _ _ _) rfl ?_
    exact ⟨rfl, HB.out⟩
set_option maxHeartbeats 2000000 in
theorem meet_yes (h : PM w base s ops) (H : WS w0 w bm mp ba s.p ks v) (x : Int) (hx : -9223372036854775808 ≤ x ∧ x ≤ 9223372036854775807) (hin : x ∉ ks) (ho : ¬ s.fC x = 0) (hl : ks.length ≤ 1000) :
    Calls Tryz.prog 104 #[.int .i64 x, .pointer (some ⟨bm, 0, none⟩), .pointer (some ⟨w0.heap.size, 0, none⟩), .pointer (some ⟨ba, 0, none⟩)] w fun e w' => e = .returned (.tuple #[]) ∧ ∃ v', WS w0 w' bm mp ba s.p (ks ++ [x]) v' := by
  have q1 : w.cell? ⟨bm, 0, none⟩ = some (.map (some mp)) := (cell_of_row _ _ _ _ _ _ H.rm).trans rfl
  have LK := H.sm.look x hx
  have HB : Hid (Below w.heap.size w (w.alloc (.cells #[] 163))) := (Below.refl _ _).alloc (Nat.le_refl _) _
  have H2 := H.up HB.out
  have HH2 : Hid (WS w0 (w.alloc (.cells #[] 163)) bm mp ba s.p ks v) := H2
  have q2 : (w.alloc (.cells #[] 163)).cell? ⟨w0.heap.size, 0, none⟩ = some (.pointer (some ⟨s.p, 0, none⟩)) := (cell_of_row _ _ _ _ _ _ H2.rs).trans rfl
  have q3 : (w.alloc (.cells #[] 163)).cell? ⟨bm, 0, none⟩ = some (.map (some mp)) := (cell_of_row _ _ _ _ _ _ H2.rm).trans rfl
  have CL := closed_any (h.up HB.out) x hx
  rw [decide_eq_false hin] at LK
  rw [decide_eq_false ho] at CL
  clear h hin ho H2 H
  go_enter Tryz.func104, Tryz.ntmps104
  go_wp2_with (first | (go_at_call 96; refine Hid.out ?_))
  change Calls _ _ _ _ _
  refine CL.mono ?_
  rintro r w1 ⟨rfl, rfl⟩
  clear CL LK q1
  generalize w.alloc (.cells #[] 163) = W1 at *
  go_wp2_with (first | (at_mapUpdate; refine Hid.out ?_))
  change wpList _ _ _ _ _ _
  refine wpList_sput rfl (.tmp 19) (.tmp 20) (.tmp 21) rfl HH2.out.sm hx (by omega) rfl rfl rfl ?_
  intro w2 hS2 hg2
  have HP : Hid _ := HH2.out.put hg2
  have r3 : w2.cell? ⟨ba, 0, none⟩ = some v := (cell_of_row _ _ _ _ _ _ HP.out.2.2.2.1).trans rfl
  obtain ⟨ao, ca, hv, _⟩ := HH2.out.ow.form
  rw [hv] at r3
  have HG2 : Hid (W1.grownBy w2 (some mp) ∧ SMap w2 mp (ks.length + 1) (ks ++ [x])) := ⟨hg2, hS2⟩
  have HV : Hid (v = .slice ao ks.length ca) := hv
  clear hS2 hg2 hv
  go_wp2_with (first | (at_builtin; refine Hid.out ?_))
  change wpList _ _ _ _ _ _
  refine wpList_append_l rfl (.tmp 22) (.tmp 24) rfl (w0.heap.size + 4) ks x _ rfl _ _ rfl (row_same (by rw [← HV.out]; exact HP.out.2.2.2.2.1) (fun l hl => Below.heap_alloc _ _ _ (HP.out.2.2.2.2.1.lt l (by rw [HV.out]; exact hl)).2)) (heap_alloc_new _ _) (by rw [size_alloc]; have := HP.out.2.2.2.2.2; omega) (by omega) ?_
  intro G cap w3 ho3 hg3 hat3
  rw [← HV.out] at hg3
  have HF : Hid _ := HH2.out.both HG2.out.1 HG2.out.2 ho3 hg3
  have fz : w3.frozen? ⟨ba, 0, none⟩ = false := by
    have hb := HH2.out.bb
    have hz := HP.out.2.2.2.2.2
    have e : w3.heap[ba]? = w2.heap[ba]? := by
      rw [hg3.block ba (by rw [size_alloc]; omega) (fun e => by have := (HH2.out.ow.lt ba e.symm).1; omega)]
      exact Below.heap_alloc _ _ _ (by omega)
    exact frozen_of_row w3 ba 0 _ _ (e.trans HP.out.2.2.2.1)
  have cz : w3.cell? ⟨ba, 0, none⟩ = some (.slice ao ks.length ca) := by
    have hb := HH2.out.bb
    have hz := HP.out.2.2.2.2.2
    have e : w3.heap[ba]? = w2.heap[ba]? := by
      rw [hg3.block ba (by rw [size_alloc]; omega) (fun e => by have := (HH2.out.ow.lt ba e.symm).1; omega)]
      exact Below.heap_alloc _ _ _ (by omega)
    rw [← HV.out]
    exact (cell_of_row _ _ _ _ _ _ (e.trans HP.out.2.2.2.1)).trans rfl
  clear ho3 hg3 hat3 r3
  go_wp2_with fail
  go_end0
  exact ⟨rfl, _, HF.out⟩
end
end Go.Proofs.YtadadidccbhopaaGreat
/- Package patch: Waits. -/
namespace Go.Proofs.YtadadidccbhopaaGreat
open Go.RowKit
set_option maxRecDepth 100000
/-- The open changes that one comes to from id. -/
inductive Rch (C : List Ch) (id : Int) : Int → Prop
  | self : opn C id = true → Rch C id id
  | ahead {c : Ch} {i : Int} : c ∈ C → Rch C id c.id → i ∈ c.ah → opn C i = true → Rch C id i
theorem Rch.opn {C : List Ch} {id x : Int} (h : Rch C id x) : opn C x = true := by
  cases h with
  | self h => exact h
  | ahead _ _ _ h => exact h
/-- The list behind one more that is met. -/
def meetL (C : List Ch) (ks : List Int) (x : Int) : List Int := if x ∈ ks ∨ opn C x = false then ks else ks ++ [x]
/-- What holds of the list: the changes ahead of the first i are there. -/
structure WI (C : List Ch) (id : Int) (ks : List Int) (i : Nat) : Prop where
  nd : ks.Nodup
  rc : ∀ x ∈ ks, Rch C id x
  se : opn C id = true → id ∈ ks
  cl : ∀ (j : Nat) (x : Int), j < i → ks[j]? = some x → ∀ c ∈ C, (c.id : Int) = x → ∀ a ∈ c.ah, opn C a = true → a ∈ ks
theorem meetL_sub (C : List Ch) (ks : List Int) (x : Int) : ∃ r, meetL C ks x = ks ++ r := by
  unfold meetL; split
  · exact ⟨[], by simp⟩
  · exact ⟨[x], rfl⟩
theorem WI.start (C : List Ch) (id : Int) : WI C id (meetL C [] id) 0 := by
  unfold meetL
  by_cases ho : opn C id = true
  · rw [if_neg (by simp [ho])]
    exact ⟨by simp, (fun x hx => by simp at hx; subst hx; exact .self ho), (fun _ => by simp), (fun j x hj => by omega)⟩
  · rw [if_pos (.inr (by simpa using ho))]
    exact ⟨List.nodup_nil, (fun x hx => by cases hx), (fun h => absurd h ho), (fun j x hj => by omega)⟩
theorem WI.meet {C : List Ch} {id : Int} {ks : List Int} {i : Nat} (h : WI C id ks i) (hi : i ≤ ks.length) {x : Int} (hr : opn C x = true → Rch C id x) : WI C id (meetL C ks x) i := by
  unfold meetL
  by_cases hm : x ∈ ks ∨ opn C x = false
  · rw [if_pos hm]; exact h
  · rw [if_neg hm]
    have hx : x ∉ ks := fun c => hm (.inl c)
    have ho : opn C x = true := by
      cases hc : opn C x with
      | true => rfl
      | false => exact absurd (.inr hc) hm
    refine ⟨?_, fun y hy => ?_, fun hs => List.mem_append.2 (.inl (h.se hs)), fun j y hj hy c hc e a ha hoa => List.mem_append.2 (.inl (h.cl j y hj ?_ c hc e a ha hoa))⟩
    · rw [List.nodup_append]
      exact ⟨h.nd, by simp, fun a ha b hb e => hx (by simp at hb; rw [← hb, ← e]; exact ha)⟩
    · rcases List.mem_append.1 hy with hy | hy
      · exact h.rc y hy
      · rw [List.mem_singleton.1 hy]; exact hr ho
    · rw [List.getElem?_append_left (by omega)] at hy; exact hy
theorem WI.done {C : List Ch} {id : Int} {ks : List Int} (h : WI C id ks ks.length) (x : Int) : x ∈ ks ↔ Rch C id x := by
  refine ⟨h.rc x, fun hr => ?_⟩
  induction hr with
  | self ho => exact h.se ho
  | ahead hc _ ha ho ih =>
    obtain ⟨j, hj, e⟩ := List.getElem_of_mem ih
    exact h.cl j _ hj (by rw [List.getElem?_eq_getElem hj, e]) _ hc rfl _ ha ho
theorem WI.len {C : List Ch} {id : Int} {ks : List Int} {i m : Nat} (h : WI C id ks i) (hC : ∀ c ∈ C, c.id ≤ m) : ks.length ≤ m + 1 := by
  have h1 : ∀ x ∈ ks, ∃ n : Nat, x = (n : Int) ∧ n ≤ m := fun x hx => by
    obtain ⟨c, hc, e⟩ := opn_iff.1 (h.rc x hx).opn
    exact ⟨c.id, e.symm, hC c hc⟩
  have := nodup_lt_len (m + 1) (ks.map Int.toNat) ?_ fun y hy => ?_
  · simpa using this
  · unfold List.Nodup
    rw [List.pairwise_map]
    refine h.nd.imp_of_mem fun {a b} ha hb hne e => hne ?_
    obtain ⟨n1, e1, _⟩ := h1 a ha
    obtain ⟨n2, e2, _⟩ := h1 b hb
    omega
  · obtain ⟨x, hx, rfl⟩ := List.mem_map.1 hy
    obtain ⟨n1, e1, h2⟩ := h1 x hx
    omega
section
variable {w0 w : World} {base : Nat} {s : PSt} {ops : Nat → List Int} {κ bm mp ba : Nat} {ks : List Int} {v : Value}
theorem meet_any (h : PM w0 base s ops) (hL : PL s ops [] κ) (H : WS w0 w bm mp ba s.p ks v) (x : Int) (hx : -9223372036854775808 ≤ x ∧ x ≤ 9223372036854775807) (hl : ks.length ≤ 1000) :
    Calls Tryz.prog 104 #[.int .i64 x, .pointer (some ⟨bm, 0, none⟩), .pointer (some ⟨w0.heap.size, 0, none⟩), .pointer (some ⟨ba, 0, none⟩)] w fun e w' => e = .returned (.tuple #[]) ∧ ∃ v', WS w0 w' bm mp ba s.p (meetL s.C ks x) v' := by
  have hop := lkC_opn hL.asc x
  rw [← hL.fc] at hop
  by_cases hm : x ∈ ks ∨ opn s.C x = false
  · refine (meet_no (h.up H.be) H x hx (hm.imp id fun ho => ?_)).mono ?_
    · rw [ho] at hop; exact of_decide_eq_true hop
    · rintro r w' ⟨rfl, hb⟩
      refine ⟨rfl, v, ?_⟩
      unfold meetL
      rw [if_pos hm]
      exact H.up hb
  · refine (meet_yes (h.up H.be) H x hx (fun c => hm (.inl c)) (fun c => ?_) hl).mono ?_
    · rw [decide_eq_true c] at hop
      exact hm (.inr (by simpa using hop.symm))
    · rintro r w' ⟨rfl, v', hW⟩
      refine ⟨rfl, v', ?_⟩
      unfold meetL
      rw [if_neg hm]
      exact hW
theorem sortL_any {base : Nat} {v : Value} (l : List Int) (w : World) (h : OwnL w base v l) (hl : l.length ≤ 1000000) :
    Calls Tryz.prog 105 #[v] w fun e w' => e = .returned (.tuple #[]) ∧ OwnL w' base v (l.mergeSort fun x y => decide (x ≤ y)) ∧ w.grownBy w' v.ownBlock := by
  obtain ⟨ao, ca, rfl, _⟩ := h.form
  rcases (own_at h).2 with ⟨rfl, e2⟩ | ⟨g, rfl, _⟩
  · obtain rfl : l = [] := List.eq_nil_of_length_eq_zero e2
    refine Calls.mono (AnyM.slices_Sort_int_none Tryz.sortL _ _ w) ?_
    rintro e w' ⟨rfl, rfl⟩
    exact ⟨rfl, by simpa using h, World.grownBy.refl _ _⟩
  · exact sort_own base g ca l w h hl
set_option maxHeartbeats 4000000 in
theorem waits_any (h : PM w base s ops) (hL : PL s ops [] κ) (hκ : κ ≤ 900) (id : Int) (hid : -9223372036854775808 ≤ id ∧ id ≤ 9223372036854775807) :
    Calls Tryz.prog 45 #[.pointer (some ⟨s.p, 0, none⟩), .int .i64 id] w fun e w' => ∃ v L, e = .returned v ∧ OwnL w' w.heap.size v L ∧ L.Pairwise (· < ·) ∧ (∀ x, x ∈ L ↔ Rch s.C id x) ∧ Below w.heap.size w w' := by
  have HH : Hid (PM w base s ops) := h
  have HL : Hid (PL s ops [] κ) := hL
  have eg : ∀ args w, (callFunc 104 args).run Tryz.prog w = .ok (.enter 104 args) w := enters_of Tryz.func104 (by kernel_rfl) rfl
  have MM := fun W => run_makeMap (P := Tryz.prog) 162 W
  clear h hL
  go_enter Tryz.func45, Tryz.ntmps45
  go_wp2_with fail
  obtain ⟨W4, hW4⟩ : ∃ W4, W4 = (((w.alloc (.cells #[.pointer (some ⟨s.p, 0, none⟩)] 30)).alloc (.cells #[.slice none 0 0] 37)).alloc (.map #[] 0)).alloc (.cells #[.map (some (w.heap.size + 1 + 1))] 162) := ⟨_, rfl⟩
  have HS4 : Hid (WS w W4 (w.heap.size + 1 + 1 + 1) (w.heap.size + 1 + 1) (w.heap.size + 1) s.p [] (.slice none 0 0)) := by
    have z1 := size_alloc w (.cells #[.pointer (some ⟨s.p, 0, none⟩)] 30)
    have z2 := size_alloc (w.alloc (.cells #[.pointer (some ⟨s.p, 0, none⟩)] 30)) (.cells #[.slice none 0 0] 37)
    have z3 := size_alloc ((w.alloc (.cells #[.pointer (some ⟨s.p, 0, none⟩)] 30)).alloc (.cells #[.slice none 0 0] 37)) (.map #[] 0)
    have z4 := size_alloc (((w.alloc (.cells #[.pointer (some ⟨s.p, 0, none⟩)] 30)).alloc (.cells #[.slice none 0 0] 37)).alloc (.map #[] 0)) (.cells #[.map (some (w.heap.size + 1 + 1))] 162)
    subst hW4
    exact {
      be := ((((Below.refl _ _).alloc (Nat.le_refl _) _).alloc (by omega) _).alloc (by omega) _).alloc (by omega) _
      rs := by
        rw [Below.heap_alloc _ _ _ (by omega), Below.heap_alloc _ _ _ (by omega), Below.heap_alloc _ _ _ (by omega)]
        exact heap_alloc_new _ _
      rm := by
        have := heap_alloc_new (((w.alloc (.cells #[.pointer (some ⟨s.p, 0, none⟩)] 30)).alloc (.cells #[.slice none 0 0] 37)).alloc (.map #[] 0)) (.cells #[.map (some (w.heap.size + 1 + 1))] 162)
        rw [z3, z2, z1] at this
        exact this
      ra := by
        rw [Below.heap_alloc _ _ _ (by omega), Below.heap_alloc _ _ _ (by omega)]
        have := heap_alloc_new (w.alloc (.cells #[.pointer (some ⟨s.p, 0, none⟩)] 30)) (.cells #[.slice none 0 0] 37)
        rw [z1] at this
        exact this
      sm := by
        have := SMap.made ((w.alloc (.cells #[.pointer (some ⟨s.p, 0, none⟩)] 30)).alloc (.cells #[.slice none 0 0] 37))
        rw [z2, z1] at this
        exact this.same (Below.heap_alloc _ _ _ (by omega))
      ow := OwnL.nil _ _
      bb := by omega
      ne := by omega
      sz := by omega }
  rw [← hW4]
  clear hW4
  refine (meet_any HH.out HL.out HS4.out id hid (by simp)).mono ?_
  rintro r W5 ⟨rfl, v5, hW5⟩
  have HI5 : Hid (WI s.C id (meetL s.C [] id) 0) := WI.start _ _
  generalize meetL s.C [] id = ks5 at *
  have HW5 : Hid (WS w W5 (w.heap.size + 1 + 1 + 1) (w.heap.size + 1 + 1) (w.heap.size + 1) s.p ks5 v5) := hW5
  clear hW5 HS4 MM
  obtain ⟨N, hN⟩ : ∃ N, N = s.cnt + 1 := ⟨_, rfl⟩
  have HN : Hid (N = s.cnt + 1) := hN
  clear hN
  go_wp2_with fail
  go_loopg [8, 10] N (fun gg t8 _ W => ∃ (gw : World) (i : Nat) (ks : List Int) (v : Value), gw = W ∧ t8 = .int .i64 i ∧ i ≤ ks.length ∧ N - i ≤ gg ∧ Hid (WS w gw (w.heap.size + 1 + 1 + 1) (w.heap.size + 1 + 1) (w.heap.size + 1) s.p ks v ∧ WI s.C id ks i))
  case atStart => exact ⟨_, 0, ks5, v5, rfl, rfl, by omega, by omega, HW5.out, HI5.out⟩
  case round =>
    clear HW5 HI5
    obtain ⟨gw, i, ks, v, rfl, rfl, hi, hgg, HG⟩ := hrel
    have hkl : ks.length ≤ N := by rw [HN.out]; exact HG.out.2.len fun c hc => (HL.out.idr c hc).2
    have hN900 : (N : Int) ≤ 901 := by have := HL.out.bd.1; have := HN.out; omega
    obtain ⟨ao, ca, hv, hsr, _, _, _⟩ := HG.out.1.ow.form
    have q0 : gw.cell? ⟨w.heap.size, 0, none⟩ = some (.pointer (some ⟨s.p, 0, none⟩)) := (cell_of_row _ _ _ _ _ _ HG.out.1.rs).trans rfl
    have q1 : gw.cell? ⟨w.heap.size + 1, 0, none⟩ = some (.slice ao ks.length ca) := by rw [← hv]; exact (cell_of_row _ _ _ _ _ _ HG.out.1.ra).trans rfl
    by_cases hlt : (i : Int) < (ks.length : Int)
    · obtain ⟨x, hxg⟩ : ∃ x, ks[i]? = some x := ⟨_, List.getElem?_eq_getElem (by omega)⟩
      obtain ⟨c, hc, hcx⟩ := opn_iff.1 (HG.out.2.rc x (List.mem_of_getElem? hxg)).opn
      have hPM := HH.out.up HG.out.1.be
      have LK := fun nq => (hPM.up (belowN (Below.refl _ _) nq)).lookC x (by have := HL.out.idr c hc; have := HL.out.bd.1; omega)
      rw [HL.out.fc, ← hcx, lkC_at HL.out.asc hc] at LK
      simp only [ptrV] at LK
      have c3 := hPM.c3
      have h3 := (hPM.ch c hc).c3
      obtain ⟨aa, cc, hav, hsa, _, _, _⟩ := (HH.out.ch c hc).ahd.form
      rw [hav] at h3
      have hahl : (c.ah.length : Int) ≤ 2000 := by have := (HL.out.ah c hc).2; omega
      have HSA : Hid (SrcI w aa c.ah) := hsa
      obtain ⟨xb, xo, hao, hxc⟩ : ∃ xb xo, ao = some ⟨xb, xo, none⟩ ∧ gw.cell? ⟨xb, xo + i, none⟩ = some (.int .i64 (c.id : Int)) := by
        rcases hsr with e | ⟨xb, xo, e, hl, hcc⟩
        · have : ks.length = 0 := by rw [e]; rfl
          omega
        · refine ⟨xb, xo, e, ?_⟩
          rw [hcc i (by omega), List.getD_eq_getElem?_getD, hxg, hcx]
          rfl
      subst hao
      have HX : Hid (ks[i]? = some (c.id : Int)) := by show _ = _; rw [hcx]; exact hxg
      have HC : Hid (c ∈ s.C) := hc
      have HAB : Hid (∀ y ∈ c.ah, 1 ≤ y ∧ y < (c.id : Int) ∧ (c.id : Int) ≤ 901) := fun y hy => ⟨((HL.out.ah c hc).1 y hy).1, ((HL.out.ah c hc).1 y hy).2, by have := HL.out.idr c hc; have := HL.out.bd.1; omega⟩
      clear hPM hav hsa hxg hc hcx hv hsr
      go_upto_region 10 with fail
      go_quiet (fail)
      have HGN : Hid (WS w (gw.drewN nq) (w.heap.size + 1 + 1 + 1) (w.heap.size + 1 + 1) (w.heap.size + 1) s.p ks v) := HG.out.1.up (belowN (Below.refl _ _) nq)
      go_wp2_with fail
      go_loopg [10, 37] 2000 (fun gg _ t37 W => ∃ (g2 : World) (j : Nat) (ks2 : List Int) (v2 : Value), g2 = W ∧ t37 = .int .i64 j ∧ j ≤ c.ah.length ∧ c.ah.length - j ≤ gg ∧ Hid (WS w g2 (w.heap.size + 1 + 1 + 1) (w.heap.size + 1 + 1) (w.heap.size + 1) s.p ks2 v2 ∧ WI s.C id ks2 i ∧ (∃ r, ks2 = ks ++ r) ∧ ∀ a ∈ c.ah.take j, opn s.C a = true → a ∈ ks2))
      case atStart => exact ⟨_, 0, ks, v, rfl, rfl, by omega, by omega, HGN.out, HG.out.2, ⟨[], by simp⟩, fun a ha => by cases ha⟩
      case round =>
        obtain ⟨g2, j, ks2, v2, rfl, rfl, hj, hgj, H2⟩ := hrel
        by_cases hjl : (j : Int) < (c.ah.length : Int)
        · obtain ⟨yb, yo, y, haa, hyc, hym, hyt⟩ : ∃ yb yo y, aa = some ⟨yb, yo, none⟩ ∧ g2.cell? ⟨yb, yo + j, none⟩ = some (.int .i64 y) ∧ y ∈ c.ah ∧ c.ah.take (j + 1) = c.ah.take j ++ [y] := by
            rcases HSA.out with e | ⟨yb, yo, e, hl, hcc⟩
            · have : c.ah.length = 0 := by rw [e]; rfl
              omega
            · have hjn : j < c.ah.length := by omega
              refine ⟨yb, yo, c.ah.getD j 0, e, (H2.out.1.be.cell (p := ⟨yb, yo + j, none⟩) hl).trans (hcc j hjn), getD_mem hjn, ?_⟩
              rw [List.take_add_one, List.getElem?_eq_getElem hjn, List.getD_eq_getElem?_getD, List.getElem?_eq_getElem hjn]
              rfl
          subst haa
          have hyb := HAB.out y hym
          have hk2 : ks2.length ≤ N := by rw [HN.out]; exact H2.out.2.1.len fun c hc => (HL.out.idr c hc).2
          have ME := meet_any HH.out HL.out H2.out.1 y (by omega) (by omega)
          go_wp2_with fail
          refine ME.mono ?_
          clear ME
          rintro r w3 ⟨rfl, v3, hW3⟩
          have H3 : Hid (WS w w3 (w.heap.size + 1 + 1 + 1) (w.heap.size + 1 + 1) (w.heap.size + 1) s.p (meetL s.C ks2 y) v3 ∧ WI s.C id (meetL s.C ks2 y) i ∧ (∃ r, meetL s.C ks2 y = ks ++ r) ∧ ∀ a ∈ c.ah.take (j + 1), opn s.C a = true → a ∈ meetL s.C ks2 y) := by
            obtain ⟨r0, hr0⟩ := H2.out.2.2.1
            obtain ⟨r1, hr1⟩ := meetL_sub s.C ks2 y
            have hxi := HX.out
            refine ⟨hW3, H2.out.2.1.meet (by rw [hr0, List.length_append]; omega) (fun ho => .ahead HC.out (HG.out.2.rc _ (List.mem_of_getElem? hxi)) hym ho), ⟨r0 ++ r1, by rw [hr1, hr0, List.append_assoc]⟩, fun a ha ho => ?_⟩
            rw [hyt] at ha
            rcases List.mem_append.1 ha with ha | ha
            · rw [hr1]; exact List.mem_append.2 (.inl (H2.out.2.2.2 a ha ho))
            · have := List.mem_singleton.1 ha
              subst this
              unfold meetL
              by_cases hm : a ∈ ks2 ∨ opn s.C a = false
              · rw [if_pos hm]
                rcases hm with hm | hm
                · exact hm
                · rw [ho] at hm; cases hm
              · rw [if_neg hm]; simp
          clear hW3 hym hyt
          go_wp2_with fail
          go_roundg (c.ah.length - (j + 1))
          case measure => omega
          case rel => exact ⟨_, j + 1, _, v3, rfl, by go_num, by omega, by omega, H3.out⟩
        · have HT : Hid (c.ah.take j = c.ah) := List.take_of_length_le (by omega)
          have H4 : Hid (i + 1 ≤ ks2.length ∧ WI s.C id ks2 (i + 1)) := by
            obtain ⟨r0, hr0⟩ := H2.out.2.2.1
            have hcl := H2.out.2.2.2
            rw [HT.out] at hcl
            refine ⟨by rw [hr0, List.length_append]; omega, ⟨H2.out.2.1.nd, H2.out.2.1.rc, H2.out.2.1.se, fun l z hl hz c' hc' e a ha ho => ?_⟩⟩
            by_cases hli : l < i
            · exact H2.out.2.1.cl l z hli hz c' hc' e a ha ho
            · obtain rfl : l = i := by omega
              rw [hr0, List.getElem?_append_left (by omega), HX.out] at hz
              have : c'.id = c.id := by have := Option.some.inj hz; omega
              have := HL.out.asc.inj hc' HC.out this
              subst this
              exact hcl a ha ho
          go_wp2_with fail
          go_roundg (N - (i + 1))
          case measure => omega
          case rel => exact ⟨_, i + 1, ks2, v2, rfl, by go_num, H4.out.1, by omega, H2.out.1, H4.out.2⟩
    · have hik : i = ks.length := by omega
      subst hik
      have SO := sortL_any ks gw HG.out.1.ow (by omega)
      rw [hv] at SO
      go_wp2_with (first | (go_at_call 105; refine Hid.out ?_))
      change Calls _ _ _ _ _
      refine SO.mono ?_
      clear SO
      rintro r w9 ⟨rfl, hO9, hg9⟩
      have q9 : w9.cell? ⟨w.heap.size + 1, 0, none⟩ = some (.slice ao ks.length ca) := by
        have hz := HG.out.1.sz
        refine (World.cell?_of_block (w := gw) (a := ⟨w.heap.size + 1, 0, none⟩) (hg9.block _ (by show w.heap.size + 1 < _; omega) (fun e => ?_))).trans q1
        rw [← hv] at e
        have h4 : w.heap.size + 4 ≤ w.heap.size + 1 := (HG.out.1.ow.lt _ e.symm).1
        omega
      have H9 : Hid (OwnL w9 w.heap.size (.slice ao ks.length ca) (ks.mergeSort fun x y => decide (x ≤ y)) ∧ Below w.heap.size w w9) := ⟨ownsRow_mono hO9 (by omega), HG.out.1.be.trans ((Below.refl _ _).grown hg9 HG.out.1.be.size (fun k hk => by rw [← hv] at hk; have := (HG.out.1.ow.lt _ hk).1; omega))⟩
      clear hO9 hg9
      go_wp2_with fail
      go_ret
      have hp : (ks.mergeSort fun x y => decide (x ≤ y)).Perm ks := List.mergeSort_perm _ _
      refine ⟨_, _, rfl, H9.out.1, ?_, fun x => by rw [hp.mem_iff]; exact HG.out.2.done x, H9.out.2⟩
      have hs : (ks.mergeSort fun x y => decide (x ≤ y)).Pairwise (fun x y => decide (x ≤ y) = true) := List.pairwise_mergeSort (fun a b c h1 h2 => by simp at *; omega) (fun a b => by simp; omega) ks
      have hn : (ks.mergeSort fun x y => decide (x ≤ y)).Nodup := hp.nodup_iff.2 HG.out.2.nd
      exact (hs.and hn).imp fun h => by have := of_decide_eq_true h.1; have := h.2; omega
end
end Go.Proofs.YtadadidccbhopaaGreat
