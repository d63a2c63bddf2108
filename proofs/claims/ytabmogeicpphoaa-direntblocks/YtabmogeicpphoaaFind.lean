/- dirent.Find. -/
import Derived.Test.YtabmogeicpphoaaEnts
namespace Go.Proofs.Ytabmogeicpphoaa
open Go.RowKit Go.Shelf
attribute [local go_sem] Oper.semAt_some
/-- Is there an entry of that name at the place? -/
def findP (l nm : List UInt8) (x : Fin 8) : Bool := entB l x && ((egetV (part8 l x)).nm == nm)
def findL (l nm : List UInt8) : Int := if l.length = 256 then firstOf (findP l nm) else -1
def nameB (l nm : List UInt8) (x : PlaceE l) : Bool := (egetV (part8 l x.1)).nm == nm
theorem find_no {l nm : List UInt8} {xs : List (PlaceE l)} (hs : entS l xs) (hn : ∀ x ∈ xs, nameB l nm x = false) : findL l nm = -1 := by
  unfold findL
  by_cases hl : l.length = 256
  · rw [if_pos hl]
    unfold entS at hs
    rw [if_pos hl] at hs
    refine first_no (fun x hx => ?_)
    unfold findP
    cases he : entB l x
    · rfl
    · have hm : x ∈ xs.map (·.1) := by rw [hs]; exact List.mem_filter.2 ⟨hx, he⟩
      obtain ⟨y, hy, e⟩ := List.mem_map.1 hm
      have := hn y hy
      unfold nameB at this
      rw [e] at this
      rw [this]; rfl
  · rw [if_neg hl]
theorem filter_last {p : Fin 8 → Bool} {ini : List (Fin 8)} {last : Fin 8} : ∀ {k : Nat}, k ≤ 8 → (come k).filter p = ini ++ [last] → ∃ j, ∃ h : j < 8, last = ⟨j, h⟩ ∧ (come j).filter p = ini ∧ p last = true
  | 0, _, e => by simp [come] at e
  | k + 1, hk, e => by
    rw [come_succ (by omega), List.filter_append] at e
    cases hp : p ⟨k, by omega⟩
    · rw [List.filter_cons, hp] at e
      simp only [Bool.false_eq_true, if_false, List.filter_nil, List.append_nil] at e
      exact filter_last (by omega) e
    · rw [List.filter_cons, hp] at e
      simp only [if_true, List.filter_nil] at e
      obtain ⟨e1, e2⟩ := List.append_inj' e rfl
      have e3 : (⟨k, by omega⟩ : Fin 8) = last := by simpa using e2
      exact ⟨k, by omega, e3.symm, e1, by rw [← e3]; exact hp⟩
theorem find_at {l nm : List UInt8} {ini : List (PlaceE l)} {last : PlaceE l} (hs : entSp l (ini ++ [last])) (hn : ∀ x ∈ ini, nameB l nm x = false) (hl : nameB l nm last = true) : findL l nm = (last.1.1 : Int) := by
  obtain ⟨h, k, hk, e⟩ := hs
  rw [List.map_append] at e
  obtain ⟨j, hj, e1, e2, e3⟩ := filter_last hk e.symm
  unfold findL
  have e1' : last.1 = ⟨j, hj⟩ := e1
  rw [if_pos h, e1']
  refine first_at hj (fun x hx => ?_) ?_
  · unfold findP
    cases he : entB l x
    · rfl
    · have hm : x ∈ ini.map (·.1) := by rw [← e2]; exact List.mem_filter.2 ⟨hx, he⟩
      obtain ⟨y, hy, e⟩ := List.mem_map.1 hm
      have := hn y hy
      unfold nameB at this
      rw [e] at this
      rw [this]; rfl
  · unfold findP
    unfold nameB at hl
    rw [← e1', hl, last.2]; rfl
/-- What Find has laid: the name, the answer, the slice. -/
structure FV (w : World) (l nm : List UInt8) (pre : List (PlaceE l)) (W : World) (T : Nat → Prop) : Prop where
  no : ∀ x ∈ pre, nameB l nm x = false
  nam : Boxed W w.heap.size 9 (.string (str nm))
  res : Boxed W (w.heap.size + 1) 3 (.int .i64 0)
  b : Below w.heap.size w W
  t : T = (fun k => k = w.heap.size + 1)
structure FX (w : World) (l nm : List UInt8) (pre : List (PlaceE l)) (W : World) : Prop where
  ends : ∃ ini last, pre = ini ++ [last] ∧ (∀ x ∈ ini, nameB l nm x = false) ∧ nameB l nm last = true ∧ Boxed W (w.heap.size + 1) 3 (.int .i64 (last.1.1 : Int))
  b : Below w.heap.size w W
theorem box_turn {A B : World} {q : Nat} {t : TypeId} {v : Value} {row : Option Nat} (h : Boxed A q t v) (hg : A.grownBy B row) (hr : ∀ r, row = some r → ∃ o : Obj, A.heap[r]? = some o ∧ o.isCells = false) : Boxed B q t v :=
  boxed_own q t (fun (_ : Unit) => v) () A B row h hg hr
theorem bel_turn {w A B : World} {n N : Nat} {row : Option Nat} (h : Below n w A) (hn : n ≤ N) (hA : n ≤ A.heap.size) (hg : A.grownBy B row) (hr : ∀ r, row = some r → N ≤ r ∧ ∃ o : Obj, A.heap[r]? = some o ∧ o.isCells = false) : Below n w B :=
  h.grown hg hA (fun k e => by have := (hr k e).1; omega)
theorem FV.own {w : World} {l nm : List UInt8} {N : Nat} (hN : w.heap.size ≤ N) (T : Nat → Prop) : OwnFrom N (fun s W => FV w l nm s W T) := fun _ _ _ _ h hg hr =>
  ⟨h.no, box_turn h.nam hg (fun r e => (hr r e).2), box_turn h.res hg (fun r e => (hr r e).2), bel_turn h.b hN h.b.size hg hr, h.t⟩
theorem FX.own {w : World} {l nm : List UInt8} {N : Nat} (hN : w.heap.size ≤ N) : OwnFrom N (fun s W => FX w l nm s W) := fun _ _ _ _ h hg hr => by
  obtain ⟨ini, last, e1, e2, e3, e4⟩ := h.ends
  exact ⟨⟨ini, last, e1, e2, e3, box_turn e4 hg (fun r e => (hr r e).2)⟩, bel_turn h.b hN h.b.size hg hr⟩
theorem ent_turn {A B : World} {q : Nat} {e : Ent} {row : Option Nat} (h : EntAt A q e) (hg : A.grownBy B row) (hr : ∀ r, row = some r → ∃ o : Obj, A.heap[r]? = some o ∧ o.isCells = false) : EntAt B q e :=
  ⟨(hg.block q h.lt (fun e' => by obtain ⟨o, ho, hc⟩ := hr q e'.symm; rw [h.row] at ho; cases ho; cases hc)).trans h.row⟩
theorem Boxed.below {A B : World} {q n : Nat} {t : TypeId} {v : Value} (h : Boxed A q t v) (hb : Below n A B) (hq : q < n) : Boxed B q t v := (hb.block q hq).trans h
theorem boxed_at {A : World} {q : Nat} {t : TypeId} {v : Value} (h : Boxed A q t v) : CellAt A q := ⟨_, h, rfl⟩
theorem Below.oth {W : World} {q : Nat} {v : Value} {n : Nat} (h : n ≤ q) : Below n W (W.setCell ⟨q, 0, none⟩ v) := (Below.refl n W).setCell (p := ⟨q, 0, none⟩) h v
set_option maxRecDepth 100000 in
set_option maxHeartbeats 400000 in
theorem find_in (sp : Option Addr) (cap : Nat) (l nm : List UInt8) (w : World) (ha : Arg w sp cap l) :
    Calls Try.prog 42 #[.slice sp l.length cap, .string (str nm)] w fun e w' => e = .returned (.int .i64 (findL l nm)) ∧ Below w.heap.size w w' := by
  refine (callsIn_wide (n := 9)).1 ?_
  refine callsIn_of_wp_marks Try.func42 rfl trivial ?_ rfl
  simp only [Try.ntmps42, List.size_toArray, List.length_cons, List.length_nil, Nat.reduceAdd, Nat.reduceSub, Array.replicate_succ, Array.replicate_zero, List.push_toArray, List.append_toArray, List.nil_append, List.cons_append]
  gi_wp2_with fail
  refine ⟨trivial, (callsIn_wide.2 (entries_any _ _ _ _)).mono ?_⟩
  rintro e w1' ⟨rfl, hw1'⟩
  rw [hw1']
  clear hw1' w1'
  obtain ⟨w1, hw1⟩ : ∃ w1, w1 = ((w.alloc (.cells #[.string (str nm)] 9)).alloc (.cells #[.int .i64 0] 3)).alloc (.cells #[.slice sp l.length cap] 25) := ⟨_, rfl⟩
  have z1 : w1.heap.size = w.heap.size + 3 := by rw [hw1]; simp
  have hB1 : Below w.heap.size w w1 := by rw [hw1]; exact (((Below.refl _ _).alloc (Nat.le_refl _) _).alloc (by simp) _).alloc (by simp; omega) _
  have bA : Boxed w1 w.heap.size 9 (.string (str nm)) := by rw [hw1]; exact ((Boxed.new _ _ _).alloc _).alloc _
  have bR : Boxed w1 (w.heap.size + 1) 3 (.int .i64 0) := by rw [hw1]; have := (Boxed.new (w.alloc (.cells #[.string (str nm)] 9)) 3 (.int .i64 0)).alloc (.cells #[.slice sp l.length cap] 25); rw [World.size_alloc] at this; exact this
  have bN : Boxed w1 (w.heap.size + 1 + 1) 25 (.slice sp l.length cap) := by rw [hw1]; have := Boxed.new ((w.alloc (.cells #[.string (str nm)] 9)).alloc (.cells #[.int .i64 0] 3)) 25 (.slice sp l.length cap); rw [World.size_alloc, World.size_alloc] at this; exact this
  rw [← hw1]
  clear hw1
  have Z1 : Hid (w1.heap.size = w.heap.size + 3) := z1
  clear z1
  gi_wp2_with fail
  refine range_runs (gf := 77) (lb := #[.pointer (some ⟨w.heap.size + 1 + 1, 0, none⟩)]) rfl (enters_of Try.func77 (by kernel_rfl) rfl)
    (entries_runs (w.heap.size + 1 + 1) sp cap l (fun k => k = w.heap.size + 1) w1 (ha.below hB1 (Nat.le_refl _)) (by have := Z1.out; omega) bN.cell (fun k hk => ⟨fun hl => ?hT, by have := Z1.out; omega⟩))
    (fun k hk => by rw [hk]; exact boxed_at bR) (fun _ => rfl) (FV w l nm) (FX w l nm) (fun T => FV.own (by have := Z1.out; omega) T) (FX.own (by have := Z1.out; omega)) ⟨fun x hx => absurd hx (by simp), bA, bR, hB1, rfl⟩
    (fun x a' W => ∃ q, EntAt W q (egetV (part8 l x.1)) ∧ a' = { tmps := #[.slice sp l.length cap, .string (str nm), undef, .pointer (some ⟨w.heap.size, 0, none⟩), .pointer (some ⟨w.heap.size + 1, 0, none⟩), .int .i64 (x.1.1 : Int), .pointer (some ⟨q, 0, none⟩), .slice sp l.length cap, .func (.func 77) #[] #[.pointer (some ⟨w.heap.size + 1 + 1, 0, none⟩)], .int .i64 (x.1.1 : Int), .agg (eA (egetV (part8 l x.1))), undef, undef, undef, undef, undef], defers := [] })
    (fun x a' => ?hAx) ?assign ?body ?done ?stop
  case hT =>
    obtain ⟨b, off, e, hb, _⟩ := ha.src.at' (by omega)
    rw [e]
    show k ≠ b
    omega
  case hAx =>
    rintro s A B row ⟨q, hq, e⟩ hg hr
    exact ⟨q, ent_turn hq hg (fun r e => (hr r e).2), e⟩
  case assign =>
    intro L m pre x W T K hi hK
    have HF : Hid (FV w l nm pre W T) := hi
    have HK : Hid _ := hK
    clear hi hK
    dsimp only [encE]
    rw [eA_lit]
    gi_wp2
    exact HK.out _ _ ((Below.refl _ _).alloc (Nat.le_refl _) _) ((FV.own (N := w.heap.size) (Nat.le_refl _) T).alloc _ HF.out) ⟨W.heap.size, ent_new W _, rfl⟩
  case body =>
    rintro L m pre x a' W T hF hTc ⟨q, hq, rfl⟩ hlt
    have hc2 := hq.c2
    have hcn := hF.nam.cell
    have hcr := hF.res.cell
    have hfr := hF.res.frozen
    have HF : Hid (FV w l nm pre W T) := hF
    have HN : Hid (nameB l nm x = ((egetV (part8 l x.1)).nm == nm)) := rfl
    clear hF hTc hq hlt
    generalize (egetV (part8 l x.1)).nm = y at *
    rw [← str_beqD] at HN
    gi_wp2
    · have hx : ((str y).toList == (str nm).toList) = true := by assumption
      rw [hx] at HN
      have hF := HF.out
      refine ⟨⟨⟨pre, x, rfl, hF.no, HN.out, hF.res.set _⟩, hF.b.setCell (p := ⟨w.heap.size + 1, 0, none⟩) (by simp) _⟩, ⟨(Below.oth (n := 0) (Nat.zero_le _)).size, fun k _ ht => ?_⟩⟩
      rw [hF.t] at ht
      exact Below.heap_setCell _ _ _ _ ht
    · have hx : ((str y).toList == (str nm).toList) = false := by assumption
      rw [hx] at HN
      have hF := HF.out
      refine ⟨⟨T, ⟨fun z hz => ?_, hF.nam, hF.res, hF.b, hF.t⟩, fun k hk => ⟨.inl hk, ?_⟩⟩, Upto.refl _ _⟩
      · rcases List.mem_append.1 hz with h | h
        · exact hF.no z h
        · rw [List.mem_singleton.1 h]; exact HN.out
      · rw [hF.t] at hk
        rw [hk]
        exact boxed_at hF.res
  case done =>
    rintro D ys W T hD hys hF hK
    have HF : Hid (FV w l nm ys W T) := hF
    have HS : Hid (entS l ys) := hys
    have HD : Hid (w1.heap.size ≤ D) := hD
    have hcr := hF.res.cell
    have hfr := hF.res.frozen
    clear hF hys hD
    gi_wp2
    have hK' := (KeepsOthers.setCell W ⟨w.heap.size + 1, 0, none⟩ (.int .i64 (-1))).same D _ hK rfl
    refine ⟨by simp, .inl ⟨_, _, rfl, run_takeDeferred hK', ?_⟩⟩
    have hc5 := cell_kept (World.cell?_setCell_same' W ⟨w.heap.size + 1, 0, none⟩ (.int .i64 (-1)) (by rw [hcr]; rfl)) (grownBy_putObj' _ D (.deferred none)) (fun r e => by cases e; exact ⟨_, hK', rfl⟩)
    refine ⟨.int .i64 (-1), ?_, by rw [find_no HS.out HF.out.no], (HF.out.b.setCell (p := ⟨w.heap.size + 1, 0, none⟩) (by simp) _).trans (belowK_b (w := w) (Nat.le_refl _) _ D _ _ (by have := HD.out; have := Z1.out; omega) hK' rfl rfl)⟩
    simp [results, Try.f42, go_sem, hc5]
  case stop =>
    rintro D pre W hD hs hF hK
    have HF : Hid (FX w l nm pre W) := hF
    have HS : Hid (entSp l pre) := hs
    have HD : Hid (w1.heap.size ≤ D) := hD
    clear hF hs hD
    gi_wp2
    refine ⟨by simp, .inl ⟨_, _, rfl, run_takeDeferred hK, ?_⟩⟩
    obtain ⟨ini, last, e1, e2, e3, bX⟩ := HF.out.ends
    have hs := HS.out
    rw [e1] at hs
    have hc5 := cell_kept bX.cell (grownBy_putObj' _ D (.deferred none)) (fun r e => by cases e; exact ⟨_, hK, rfl⟩)
    refine ⟨.int .i64 (last.1.1 : Int), ?_, by rw [find_at hs e2 e3], HF.out.b.trans (belowK_b (w := w) (Nat.le_refl _) W D _ _ (by have := HD.out; have := Z1.out; omega) hK rfl rfl)⟩
    simp [results, Try.f42, go_sem, hc5]
end Go.Proofs.Ytabmogeicpphoaa
