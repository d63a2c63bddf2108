/- dirent.List. -/
import Derived.Test.YtabmogeicpphoaaKSame8
import Derived.Shelf.RegionOpen
namespace Go.Proofs.Ytabmogeicpphoaa
open Go.RowKit Go.Shelf
attribute [local go_sem] Oper.semAt_some
/-- The blocks that the loop of List writes. -/
def tset (w : World) (v1 v2 : Value) : Nat → Prop := fun k => k = w.heap.size ∨ k = w.heap.size + 1 ∨ v1.ownBlock = some k ∨ v2.ownBlock = some k
/-- What List has laid. -/
structure LW (w : World) (l : List UInt8) (pre : List (PlaceE l)) (W : World) (T : Nat → Prop) (v1 v2 : Value) : Prop where
  b1 : Boxed W w.heap.size 55 v1
  b2 : Boxed W (w.heap.size + 1) 40 v2
  r1 : OwnEn W w.heap.size v1 (entsOf l (pre.map (·.1)))
  r2 : OwnI W w.heap.size v2 (atsOf (pre.map (·.1)))
  b : Below w.heap.size w W
  t : T = tset w v1 v2
theorem row_turn {A B : World} {base e size n : Nat} {v : Value} {xs : List Value} {row : Option Nat} (h : A.ownsRow base e size v n xs) (hg : A.grownBy B row) (hr : ∀ r, row = some r → ∃ o : Obj, A.heap[r]? = some o ∧ o.isCells = false) : B.ownsRow base e size v n xs :=
  row_keep h (fun g hb => hg.block g (row_lt h hb) (fun e' => by
    obtain ⟨o, ho, hc⟩ := hr g e'.symm
    obtain ⟨cur, hh⟩ := row_cells h hb
    rw [hh] at ho; cases ho; cases hc))
theorem LW.own {w : World} {l : List UInt8} {N : Nat} (hN : w.heap.size ≤ N) (T : Nat → Prop) : OwnFrom N (fun s W => ∃ v1 v2, LW w l s W T v1 v2) := by
  rintro s A B row ⟨v1, v2, h⟩ hg hr
  exact ⟨v1, v2, box_turn h.b1 hg (fun r e => (hr r e).2), box_turn h.b2 hg (fun r e => (hr r e).2), row_turn h.r1 hg (fun r e => (hr r e).2), row_turn h.r2 hg (fun r e => (hr r e).2), bel_turn h.b hN h.b.size hg hr, h.t⟩
theorem OwnEn.succ {w : World} {base : Nat} {v : Value} {es : List Ent} {y : Ent} (h : OwnEn w base v (es ++ [y])) : ∃ g n cap, v = .slice (some ⟨g, 0, none⟩) n cap := by
  rcases h.2 with ⟨_, h2⟩ | ⟨g, cap, cur, rfl, _⟩
  · simp at h2
  · exact ⟨g, _, cap, rfl⟩
theorem OwnI.succ {w : World} {base : Nat} {v : Value} {l : List Int} {y : Int} (h : OwnI w base v (l ++ [y])) : ∃ g n cap, v = .slice (some ⟨g, 0, none⟩) n cap := by
  rcases h.2 with ⟨_, h2⟩ | ⟨g, cap, cur, rfl, _⟩
  · simp at h2
  · exact ⟨g, _, cap, rfl⟩
theorem set_other (W : World) (q k : Nat) (v : Value) (h : k ≠ q) : (W.setCell ⟨q, 0, none⟩ v).heap[k]? = W.heap[k]? := Below.heap_setCell W ⟨q, 0, none⟩ v k h
theorem set_size (W : World) (q : Nat) (v : Value) : W.heap.size ≤ (W.setCell ⟨q, 0, none⟩ v).heap.size := (Below.oth (n := 0) (Nat.zero_le _)).size
/-- Behind the first append and store. -/
structure LM (w : World) (l : List UInt8) (pre : List (PlaceE l)) (x : PlaceE l) (W : World) (T : Nat → Prop) (v1' v2 : Value) (V : World) : Prop where
  b1 : Boxed V w.heap.size 55 v1'
  b2 : Boxed V (w.heap.size + 1) 40 v2
  r1 : OwnEn V w.heap.size v1' (entsOf l ((pre ++ [x]).map (·.1)))
  r2 : OwnI V w.heap.size v2 (atsOf (pre.map (·.1)))
  b : Below w.heap.size w V
  u : Upto T W V
  n1 : ∀ k, v1'.ownBlock = some k → T k ∨ W.heap.size ≤ k
  n2 : ∀ k, v2.ownBlock = some k → T k
  t1 : T w.heap.size
  t2 : T (w.heap.size + 1)
theorem LW.one {w : World} {l : List UInt8} {pre : List (PlaceE l)} {W w3 : World} {T : Nat → Prop} {v1 v2 v1' : Value} (h : LW w l pre W T v1 v2) (x : PlaceE l) (o : Obj)
    (hO : OwnEn w3 w.heap.size v1' (entsOf l (pre.map (·.1)) ++ [egetV (part8 l x.1)])) (hg : (W.alloc o).grownBy w3 v1.ownBlock) (hb : v1'.ownBlock = v1.ownBlock ∨ v1'.ownBlock = some (W.alloc o).heap.size) :
    Boxed w3 w.heap.size 55 v1 ∧ LM w l pre x W T v1' v2 (w3.setCell ⟨w.heap.size, 0, none⟩ v1') := by
  have hT : T = tset w v1 v2 := h.t
  have al : Below W.heap.size W (W.alloc o) := (Below.refl _ _).alloc (Nat.le_refl _) _
  have r1a := h.r1.below al
  have r2a := h.r2.below al (Nat.le_refl _)
  have b1a := h.b1.alloc o
  have b2a := h.b2.alloc o
  have ne1 : ∀ g, v1.ownBlock = some g → g ≠ w.heap.size := fun g hg' => row_ne r1a hg' b1a (by decide)
  have ne2 : ∀ g, v1.ownBlock = some g → g ≠ w.heap.size + 1 := fun g hg' => row_ne r1a hg' b2a (by decide)
  have b1c : Boxed w3 w.heap.size 55 v1 := b1a.kept hg (fun e => ne1 _ e.symm rfl)
  have b2c : Boxed w3 (w.heap.size + 1) 40 v2 := b2a.kept hg (fun e => ne2 _ e.symm rfl)
  have r2c := r2a.away hg (own_apart r1a r2a)
  have z3 := hg.size
  have zW : (W.alloc o).heap.size = W.heap.size + 1 := World.size_alloc _ _
  have hbz := h.b.size
  refine ⟨b1c, b1c.set v1', b2c.other (by omega) v1', ?_, ?_, ?_, ⟨?_, ?_⟩, ?_, fun k e => by rw [hT]; exact .inr (.inr (.inr e)), by rw [hT]; exact .inl rfl, by rw [hT]; exact .inr (.inl rfl)⟩
  · have e : entsOf l ((pre ++ [x]).map (·.1)) = entsOf l (pre.map (·.1)) ++ [egetV (part8 l x.1)] := by simp [entsOf]
    rw [e]
    exact row_keep hO (fun g hg' => set_other _ _ _ _ (row_ne hO hg' b1c (by decide)))
  · exact row_keep r2c (fun g hg' => set_other _ _ _ _ (row_ne r2c hg' b1c (by decide)))
  · exact ((h.b.alloc hbz o).grown hg (by omega) (fun g e => h.r1.ge e)).setCell (p := ⟨w.heap.size, 0, none⟩) (Nat.le_refl _) _
  · have := set_size w3 w.heap.size v1'; omega
  · intro k hk ht
    rw [hT] at ht
    rw [set_other _ _ _ _ (fun e => ht (.inl e)), hg.block k (by omega) (fun e => ht (.inr (.inr (.inl e.symm)))), al.block k hk]
  · intro k e
    rcases hb with hb | hb
    · rw [hb] at e; left; rw [hT]; exact .inr (.inr (.inl e))
    · rw [hb] at e; cases e; right; omega
theorem LM.two {w : World} {l : List UInt8} {pre : List (PlaceE l)} {x : PlaceE l} {W V w5 : World} {T : Nat → Prop} {v1 v2 v2' : Value} (h : LM w l pre x W T v1 v2 V) (o : Obj)
    (hO : OwnI w5 w.heap.size v2' (atsOf (pre.map (·.1)) ++ [(x.1.1 : Int)])) (hg : (V.alloc o).grownBy w5 v2.ownBlock) (hb : v2'.ownBlock = v2.ownBlock ∨ v2'.ownBlock = some (V.alloc o).heap.size) :
    Boxed w5 (w.heap.size + 1) 40 v2 ∧ (∃ T', (∃ v1 v2, LW w l (pre ++ [x]) (w5.setCell ⟨w.heap.size + 1, 0, none⟩ v2') T' v1 v2) ∧ ∀ k, T' k → (T k ∨ W.heap.size ≤ k) ∧ CellAt (w5.setCell ⟨w.heap.size + 1, 0, none⟩ v2') k) ∧ Upto T W (w5.setCell ⟨w.heap.size + 1, 0, none⟩ v2') := by
  have al : Below V.heap.size V (V.alloc o) := (Below.refl _ _).alloc (Nat.le_refl _) _
  have r1a := h.r1.below al
  have r2a := h.r2.below al (Nat.le_refl _)
  have b1a := h.b1.alloc o
  have b2a := h.b2.alloc o
  have ne1 : ∀ g, v2.ownBlock = some g → g ≠ w.heap.size := fun g hg' => row_ne r2a hg' b1a (by decide)
  have ne2 : ∀ g, v2.ownBlock = some g → g ≠ w.heap.size + 1 := fun g hg' => row_ne r2a hg' b2a (by decide)
  have b1c : Boxed w5 w.heap.size 55 v1 := b1a.kept hg (fun e => ne1 _ e.symm rfl)
  have b2c : Boxed w5 (w.heap.size + 1) 40 v2 := b2a.kept hg (fun e => ne2 _ e.symm rfl)
  have r1c := r1a.away hg (fun g e e' => own_apart r1a r2a g e' e)
  have z3 := hg.size
  have zW : (V.alloc o).heap.size = V.heap.size + 1 := World.size_alloc _ _
  have hbz := h.b.size
  have hu := h.u.size
  have e : atsOf ((pre ++ [x]).map (·.1)) = atsOf (pre.map (·.1)) ++ [(x.1.1 : Int)] := by simp [atsOf]
  have R1 : OwnEn (w5.setCell ⟨w.heap.size + 1, 0, none⟩ v2') w.heap.size v1 (entsOf l ((pre ++ [x]).map (·.1))) := row_keep r1c (fun g hg' => set_other _ _ _ _ (row_ne r1c hg' b2c (by decide)))
  have R2 : OwnI (w5.setCell ⟨w.heap.size + 1, 0, none⟩ v2') w.heap.size v2' (atsOf ((pre ++ [x]).map (·.1))) := by
    rw [e]
    exact row_keep hO (fun g hg' => set_other _ _ _ _ (row_ne hO hg' b2c (by decide)))
  have B1 : Boxed (w5.setCell ⟨w.heap.size + 1, 0, none⟩ v2') w.heap.size 55 v1 := b1c.other (by omega) v2'
  have B2 : Boxed (w5.setCell ⟨w.heap.size + 1, 0, none⟩ v2') (w.heap.size + 1) 40 v2' := b2c.set v2'
  have BB : Below w.heap.size w (w5.setCell ⟨w.heap.size + 1, 0, none⟩ v2') := ((h.b.alloc hbz o).grown hg (by omega) (fun g e => h.r2.ge e)).setCell (p := ⟨w.heap.size + 1, 0, none⟩) (by simp) _
  refine ⟨b2c, ⟨tset w v1 v2', ⟨v1, v2', B1, B2, R1, R2, BB, rfl⟩, ?_⟩, ⟨?_, ?_⟩⟩
  · rintro k (rfl | rfl | e | e)
    · exact ⟨.inl h.t1, boxed_at B1⟩
    · exact ⟨.inl h.t2, boxed_at B2⟩
    · obtain ⟨cur, hh⟩ := row_cells R1 e
      exact ⟨h.n1 k e, _, hh, rfl⟩
    · obtain ⟨cur, hh⟩ := row_cells R2 e
      refine ⟨?_, _, hh, rfl⟩
      rcases hb with hb | hb
      · rw [hb] at e; exact .inl (h.n2 k e)
      · rw [hb] at e; cases e; right; omega
  · have := set_size w5 (w.heap.size + 1) v2'; omega
  · intro k hk ht
    rw [set_other _ _ _ _ (fun e => ht (by rw [e]; exact h.t2)), hg.block k (by omega) (fun e => ht (h.n2 k e.symm)), al.block k (by omega), h.u.same k hk ht]
set_option maxRecDepth 100000 in
set_option maxHeartbeats 1000000 in
theorem list_in (sp : Option Addr) (cap : Nat) (l : List UInt8) (w : World) (ha : Arg w sp cap l) :
    Calls Try.prog 39 #[.slice sp l.length cap] w fun e w' => ∃ v1 v2, e = .returned (.tuple #[v1, v2, .int .i64 (listE l)]) ∧ OwnEn w' w.heap.size v1 (listV l) ∧ OwnI w' w.heap.size v2 (listA l) ∧ Below w.heap.size w w' := by
  unfold listE listV listA
  by_cases hl : l.length = 256
  · rw [if_pos hl, if_pos hl, if_pos hl]
    refine (callsIn_wide (n := 9)).1 ?_
    refine callsIn_of_wp_marks Try.func39 rfl trivial ?_ rfl
    simp only [Try.ntmps39, List.size_toArray, List.length_cons, List.length_nil, Nat.reduceAdd, Nat.reduceSub, Array.replicate_succ, Array.replicate_zero, List.push_toArray, List.append_toArray, List.nil_append, List.cons_append]
    have HL : Hid (l.length = 256) := hl
    rw [hl]
    clear hl
    gi_wp2_with fail
    refine ⟨trivial, (callsIn_wide.2 (entries_any _ _ _ _)).mono ?_⟩
    rintro e w1' ⟨rfl, hw1'⟩
    rw [hw1']
    clear hw1' w1'
    obtain ⟨w1, hw1⟩ : ∃ w1, w1 = ((w.alloc (.cells #[.slice none 0 0] 55)).alloc (.cells #[.slice none 0 0] 40)).alloc (.cells #[.slice sp 256 cap] 25) := ⟨_, rfl⟩
    have z1 : w1.heap.size = w.heap.size + 3 := by rw [hw1]; simp
    have hB1 : Below w.heap.size w w1 := by rw [hw1]; exact (((Below.refl _ _).alloc (Nat.le_refl _) _).alloc (by simp) _).alloc (by simp; omega) _
    have bA : Boxed w1 w.heap.size 55 (.slice none 0 0) := by rw [hw1]; exact ((Boxed.new _ _ _).alloc _).alloc _
    have bR : Boxed w1 (w.heap.size + 1) 40 (.slice none 0 0) := by rw [hw1]; have := (Boxed.new (w.alloc (.cells #[.slice none 0 0] 55)) 40 (.slice none 0 0)).alloc (.cells #[.slice sp 256 cap] 25); rw [World.size_alloc] at this; exact this
    have bN : Boxed w1 (w.heap.size + 1 + 1) 25 (.slice sp l.length cap) := by rw [HL.out, hw1]; have := Boxed.new ((w.alloc (.cells #[.slice none 0 0] 55)).alloc (.cells #[.slice none 0 0] 40)) 25 (.slice sp 256 cap); rw [World.size_alloc, World.size_alloc] at this; exact this
    rw [← hw1]
    clear hw1
    have Z1 : Hid (w1.heap.size = w.heap.size + 3) := z1
    clear z1
    gi_wp2_with fail
    refine range_runs (gf := 77) (lb := #[.pointer (some ⟨w.heap.size + 1 + 1, 0, none⟩)]) rfl (enters_of Try.func77 (by kernel_rfl) rfl)
      (entries_runs (w.heap.size + 1 + 1) sp cap l (tset w (.slice none 0 0) (.slice none 0 0)) w1 (ha.below hB1 (Nat.le_refl _)) (by have := Z1.out; omega) bN.cell (fun k hk => ⟨fun hl => ?hT, ?hU⟩))
      ?hC (fun _ => rfl) (fun pre W T => ∃ v1 v2, LW w l pre W T v1 v2) (fun _ _ => False) (fun T => LW.own (by have := Z1.out; omega) T) (fun _ _ _ _ h _ _ => h) ⟨_, _, bA, bR, OwnEn.nil _ _, OwnI.nil _ _, hB1, rfl⟩
      (fun x a' W => ∃ q, EntAt W q (egetV (part8 l x.1)) ∧ a' = { tmps := #[.slice sp 256 cap, undef, .slice none 0 0, .slice none 0 0, .int .i64 0, .pointer (some ⟨w.heap.size, 0, none⟩), .pointer (some ⟨w.heap.size + 1, 0, none⟩), .int .i64 (x.1.1 : Int), .pointer (some ⟨q, 0, none⟩), .slice sp 256 cap, .int .i64 256, .bool false, .slice sp 256 cap, .func (.func 77) #[] #[.pointer (some ⟨w.heap.size + 1 + 1, 0, none⟩)], .int .i64 (x.1.1 : Int), .agg (eA (egetV (part8 l x.1))), undef, undef, undef, undef, undef, undef, undef, undef, undef, undef], defers := [] })
      (fun x a' => ?hAx) ?assign ?body ?done ?stop
    case hT =>
      obtain ⟨b, off, e, hb, _⟩ := ha.src.at' (by omega)
      rw [e]
      show k ≠ b
      rcases hk with h | h | h | h
      · omega
      · omega
      · cases h
      · cases h
    case hU =>
      have := Z1.out
      rcases hk with h | h | h | h
      · omega
      · omega
      · cases h
      · cases h
    case hC =>
      intro k hk
      rcases hk with h | h | h | h
      · rw [h]; exact boxed_at bA
      · rw [h]; exact boxed_at bR
      · cases h
      · cases h
    case hAx =>
      rintro s A B row ⟨q, hq, e⟩ hg hr
      exact ⟨q, ent_turn hq hg (fun r e => (hr r e).2), e⟩
    case assign =>
      intro L m pre x W T K hi hK
      have HF : Hid (∃ v1 v2, LW w l pre W T v1 v2) := hi
      have HK : Hid _ := hK
      clear hi hK
      dsimp only [encE]
      rw [eA_lit]
      gi_wp2
      exact HK.out _ _ ((Below.refl _ _).alloc (Nat.le_refl _) _) ((LW.own (N := w.heap.size) (Nat.le_refl _) T).alloc _ HF.out) ⟨W.heap.size, ent_new W _, rfl⟩
    case body =>
      rintro L m pre x a' W T ⟨v1, v2, hF⟩ hTc ⟨q, hq, rfl⟩ hlt
      have c0 := hq.c0
      have c1 := hq.c1
      have c2 := hq.c2
      have k1 := hF.b1.cell
      have hl1 : (entsOf l (pre.map (·.1))).length ≤ 1000000 := by have : nOf l.length ≤ 8 := by unfold nOf; split <;> omega
                                                                   simp [entsOf]; omega
      have hl2 : (atsOf (pre.map (·.1))).length ≤ 1000000 := by have : nOf l.length ≤ 8 := by unfold nOf; split <;> omega
                                                                simp [atsOf]; omega
      have hz1 := hF.b.size
      have hO1 := hF.r1.below ((Below.refl _ _).alloc (Nat.le_refl _) (.cells (eA (egetV (part8 l x.1))) 48))
      have HF : Hid (LW w l pre W T v1 v2) := hF
      clear hF hTc hq hlt
      gi_wp2_with (first | ((with_reducible show wpListIn _ _ _ _ _ ({ dst := _, op := Op.buildSlice 55 _ _, type := _, pos := _, after := _, guard := _ } :: _) _ _); refine wpListIn_bslice rfl _ rfl (egetV (part8 l x.1)) rfl ?_) | (gi_at_builtin; refine wpListIn_append_ent rfl (.tmp 16) (.tmp 18) rfl w.heap.size (entsOf l (pre.map (·.1))) (egetV (part8 l x.1)) v1 rfl _ _ rfl hO1 (ent_new _ _) (by simp; omega) hl1 ?_; intro v1' w3 hO3 hg3 hb3; obtain ⟨g1, n1, cp1, hv1⟩ := hO3.succ; obtain ⟨bb3, hM⟩ := HF.out.one x _ hO3 hg3 hb3; subst hv1; have k3 := bb3.cell; have f3 := bb3.frozen; have k6 := hM.b2.cell; have HM : Hid _ := hM; clear hO3 hg3 hb3 hM bb3) | (gi_at_builtin; refine Hid.out ?_))
      show wpListIn _ _ _ _ _ _ _ _
      have hrow : RowI ((w3.setCell ⟨w.heap.size, 0, none⟩ (.slice (some ⟨g1, 0, none⟩) n1 cp1)).alloc (.cells #[.int .i64 (x.1.1 : Int)] 3)) w3.heap.size 3 [(x.1.1 : Int)] := by
        have h := heap_alloc_new (w3.setCell ⟨w.heap.size, 0, none⟩ (.slice (some ⟨g1, 0, none⟩) n1 cp1)) (.cells #[.int .i64 (x.1.1 : Int)] 3)
        rw [show (w3.setCell ⟨w.heap.size, 0, none⟩ (.slice (some ⟨g1, 0, none⟩) n1 cp1)).heap.size = w3.heap.size by simp [World.setCell]] at h
        exact h
      refine wpListIn_append_intG rfl (.tmp 20) (.tmp 22) rfl w.heap.size (atsOf (pre.map (·.1))) (x.1.1 : Int) v2 rfl _ _ rfl (HM.out.r2.below ((Below.refl _ _).alloc (Nat.le_refl _) _) (Nat.le_refl _)) hrow (Nat.le_trans HM.out.b.size (by simp)) hl2 ?_
      intro v2' w5 hO5 hg5 hb5
      obtain ⟨g2, n2, cp2, hv2⟩ := hO5.succ
      obtain ⟨bb5, hFin⟩ := HM.out.two _ hO5 hg5 hb5
      subst hv2
      have k5 := bb5.cell
      have f5 := bb5.frozen
      have HFIN : Hid _ := hFin
      clear hO5 hg5 hb5 hFin bb5 HM
      gi_wp2
      exact HFIN.out
    case done =>
      rintro D ys W T hD hys ⟨v1, v2, hF⟩ hK
      have hx : ys.map (·.1) = listX l 8 := by
        unfold entS at hys
        rw [if_pos HL.out] at hys
        exact hys
      have k1 := hF.b1.cell
      have k2 := hF.b2.cell
      have HF : Hid (LW w l ys W T v1 v2) := hF
      have HX : Hid (ys.map (·.1) = listX l 8) := hx
      have HD : Hid (w1.heap.size ≤ D) := hD
      clear hF hx hD hys
      have hmx : Try.prog.follows .mixedOrders = true := by kernel_rfl
      gi_wp2
      gi_region_o
      all_goals gi_wp2
      have hKd : W.drew.heap[D]? = some (.deferred (some [])) := hK
      have away : ∀ g cur t f, W.heap[g]? = some (.cells cur t f) → g ≠ D := by
        rintro g cur t f hg rfl
        rw [hg] at hK; cases hK
      refine ⟨by simp, .inl ⟨_, _, rfl, run_takeDeferred hKd, ?_⟩⟩
      refine ⟨_, results_tmp3 rfl _ _ _, v1, v2, rfl, ?_, ?_, HF.out.b.drew.trans (belowK_b (w := w) (Nat.le_refl _) W.drew D _ _ (by have := HD.out; have := Z1.out; omega) hKd rfl rfl)⟩
      · rw [← HX.out]
        refine row_keep HF.out.r1 (fun g hg => ?_)
        obtain ⟨cur, hh⟩ := row_cells HF.out.r1 hg
        exact World.putObj_heap_other (w := W.drew) (away g cur _ _ hh)
      · rw [← HX.out]
        refine row_keep HF.out.r2 (fun g hg => ?_)
        obtain ⟨cur, hh⟩ := row_cells HF.out.r2 hg
        exact World.putObj_heap_other (w := W.drew) (away g cur _ _ hh)
    case stop =>
      rintro D pre W hD hs hF hK
      exact hF.elim
  · rw [if_neg hl, if_neg hl, if_neg hl]
    have hl3 : ¬ (l.length : Int) = 256 := by omega
    clear ha hl
    go_enter Try.func39, Try.ntmps39
    go_wp2
    exact bodyPost_ret (results_tmp3 rfl _ _ _) rfl ⟨_, _, rfl, OwnEn.nil _ _, OwnI.nil _ _, Below.refl _ _⟩
end Go.Proofs.Ytabmogeicpphoaa
/- leveelaw08.DirentBlocks: the walk. -/
namespace Go.Proofs.Ytabmogeicpphoaa
open Go.RowKit
/-- What lies there. -/
structure BL (w0 : World) (l : List UInt8) (V : Ent) (sp : Option Addr) (cap g p q : Nat) (W : World) : Prop where
  b : Below w0.heap.size w0 W
  own : Blk W g 5 (l ++ a5)
  arg : Arg W sp cap l
  p : EntAt W p V
  q : EntAt W q V
theorem BL.up {w0 W W' : World} {l : List UInt8} {V : Ent} {sp : Option Addr} {cap g p q : Nat} (h : BL w0 l V sp cap g p q W) (hb : Below W.heap.size W W') : BL w0 l V sp cap g p q W' :=
  ⟨h.b.trans (hb.mono h.b.size), h.own.below hb h.own.lt, h.arg.below hb (Nat.le_refl _), h.p.up hb, h.q.up hb⟩
theorem listV_len (l : List UInt8) : (listV l).length ≤ 8 := by
  unfold listV
  split
  · have := listX_len l (Nat.le_refl 8); simp [entsOf]; omega
  · simp
theorem listA_len (l : List UInt8) : (listA l).length ≤ 8 := by
  unfold listA
  split
  · have := listX_len l (Nat.le_refl 8); simp [atsOf]; omega
  · simp
set_option maxRecDepth 100000 in
set_option maxHeartbeats 8000000 in
theorem direntBlocks_any (sp : Option Addr) (cap : Nat) (l : List UInt8) (p : Int) (nm : List UInt8) (w : World) (ha : Arg w sp cap l) :
    Calls Try.prog 7 #[.slice sp l.length cap, .int .i64 p, .string (str nm)] w fun e w' => e = .returned (.bool true) ∧ Below w.heap.size w w' := by
  have la := ha.len
  have hz := zeroE
  have LT := lent_any sp cap l w ha
  have HA : Hid (Arg w sp cap l) := ha
  have HV8 : Hid ((listV l).length ≤ 8) := listV_len l
  have HA8 : Hid ((listA l).length ≤ 8) := listA_len l
  clear ha
  go_enter Try.func7, Try.ntmps7
  go_wp2_with fail
  refine LT.mono ?_
  rintro e w1 ⟨g, rfl, hg1, hG1, h1⟩
  have HO1 : Hid (Blk w1 g 5 (l ++ a5)) := hg1
  have HB1 : Hid (Below w.heap.size w w1) := h1
  have HA1 : Hid (Arg w1 sp cap l) := HA.out.below h1 (Nat.le_refl _)
  clear LT hg1 h1 HA
  have RD := dreadT_any (some ⟨g, 0, none⟩) (l.length + 8) l p w1 (lent_arg HO1.out (by omega))
  go_upto_region 2 with fail
  go_wp2_with fail
  refine RD.mono ?_
  rintro e w2 ⟨rfl, h2⟩
  have HO2 : Hid (Blk w2 g 5 (l ++ a5)) := HO1.out.below h2 HO1.out.lt
  have HB2 : Hid (Below w.heap.size w w2) := HB1.out.trans (h2.mono HB1.out.size)
  have HA2 : Hid (Arg w2 sp cap l) := HA1.out.below h2 (Nat.le_refl _)
  clear RD HO1 HB1 HA1 h2
  have HZ : Hid (EntAt (w2.alloc (.cells (eA zent) 48)) w2.heap.size zent) := ent_new w2 zent
  have HZB : Hid (Below w2.heap.size w2 (w2.alloc (.cells (eA zent) 48))) := (Below.refl _ _).alloc (Nat.le_refl _) _
  go_upto_region 3 with (first | ((with_reducible show wpList _ _ _ ({ dst := _, op := Op.store 48 _ _, type := _, pos := _, after := _, guard := _ } :: _) _ _); refine wpList_store_ent rfl _ _ rfl (HZ.out) rfl rfl ?_; intro w3 H3 b3 z3))
  have h3 : Below w2.heap.size w2 w3 := HZB.out.trans b3.bel
  have HO3 : Hid (Blk w3 g 5 (l ++ a5)) := HO2.out.below h3 HO2.out.lt
  have HB3 : Hid (Below w.heap.size w w3) := HB2.out.trans (h3.mono HB2.out.size)
  have HA3 : Hid (Arg w3 sp cap l) := HA2.out.below h3 (Nat.le_refl _)
  have HP3 : Hid (EntAt w3 w2.heap.size (ereadV l p)) := H3
  clear HO2 HB2 HA2 HZ HZB h3 H3 b3 z3
  have RR := rdreadT_any sp cap l p w3 HA3.out
  go_wp2_with fail
  refine RR.mono ?_
  rintro e w4 ⟨rfl, h4⟩
  have HO4 : Hid (Blk w4 g 5 (l ++ a5)) := HO3.out.below h4 HO3.out.lt
  have HB4 : Hid (Below w.heap.size w w4) := HB3.out.trans (h4.mono HB3.out.size)
  have HA4 : Hid (Arg w4 sp cap l) := HA3.out.below h4 (Nat.le_refl _)
  have HP4 : Hid (EntAt w4 w2.heap.size (ereadV l p)) := HP3.out.up h4
  clear RR HO3 HB3 HA3 HP3 h4
  have HZ : Hid (EntAt (w4.alloc (.cells (eA zent) 48)) w4.heap.size zent) := ent_new w4 zent
  have HZB : Hid (Below w4.heap.size w4 (w4.alloc (.cells (eA zent) 48))) := (Below.refl _ _).alloc (Nat.le_refl _) _
  go_upto_region 4 with (first | ((with_reducible show wpList _ _ _ ({ dst := _, op := Op.store 48 _ _, type := _, pos := _, after := _, guard := _ } :: _) _ _); refine wpList_store_ent rfl _ _ rfl (HZ.out) rfl rfl ?_; intro w5 H5 b5 z5))
  have h5 : Below w4.heap.size w4 w5 := HZB.out.trans b5.bel
  have M5 : Hid (BL w l (ereadV l p) sp cap g w2.heap.size w4.heap.size w5) := ⟨HB4.out.trans (h5.mono HB4.out.size), HO4.out.below h5 HO4.out.lt, HA4.out.below h5 (Nat.le_refl _), HP4.out.up h5, H5⟩
  clear HO4 HB4 HA4 HP4 HZ HZB h5 H5 b5 z5 hz
  have LI := list_in (some ⟨g, 0, none⟩) (l.length + 8) l w5 (lent_arg M5.out.own (by omega))
  go_wp2_with fail
  refine LI.mono ?_
  rintro e w6 ⟨v1, v2, rfl, r1, r2, h6⟩
  have M6 : Hid _ := M5.out.up h6
  have R1 : Hid (OwnEn w6 w5.heap.size v1 (listV l)) := r1
  have R2 : Hid (OwnI w6 w5.heap.size v2 (listA l)) := r2
  clear LI M5 r1 r2 h6
  have RL := rlist_any sp cap l w6 M6.out.arg
  go_upto_region 5 with fail
  go_wp2_with fail
  refine RL.mono ?_
  rintro e w7 ⟨v3, v4, rfl, r3, r4, h7⟩
  have M7 : Hid _ := M6.out.up h7
  obtain ⟨a1, c1, e1, s1, _, _⟩ := (R1.out.below h7).form
  obtain ⟨a2, c2, e2, s2, _, _, _⟩ := (R2.out.below h7 (Nat.le_refl _)).form
  obtain ⟨a3, c3, e3, s3, _, _⟩ := r3.form
  obtain ⟨a4, c4, e4, s4, _, _, _⟩ := r4.form
  subst e1; subst e2; subst e3; subst e4
  have SM := same8_any a1 a3 c1 c3 (listV l) w7 s1 s3 (by have := HV8.out; omega)
  have HIN : Hid (∀ W, Below w7.heap.size w7 W → Calls Try.prog 20 #[.slice a2 (listA l).length c2, .slice a4 (listA l).length c4] W fun e w' => e = .returned (.bool (listA l == listA l)) ∧ Below W.heap.size W w') := fun W hW => ints_any a2 a4 (listA l) (listA l) c2 c4 W (s2.below hW (Nat.le_refl _)) (s4.below hW (Nat.le_refl _)) (by have := HA8.out; omega) (by have := HA8.out; omega)
  clear RL M6 R1 R2 r3 r4 h7 s1 s2 s3 s4
  have HEQ : Hid (eqE (ereadV l p) (ereadV l p) = true) := eqE_refl _
  have hAA : (listA l == listA l) = true := by simp
  rw [hAA] at HIN
  generalize hE1 : ereadE l p = E1 at *
  generalize hE2 : listE l = E2 at *
  clear hE1 hE2 hAA
  generalize (listV l).length = n1 at *
  generalize (listA l).length = n2 at *
  go_upto_region 6 with fail
  go_wp2_with (first | ((with_reducible show wpList _ _ _ ({ dst := _, op := Op.load 48 _, type := _, pos := _, after := _, guard := _ } :: _) _ _); refine wpList_load_ent rfl _ rfl (M7.out.p) rfl ?_) | ((with_reducible show wpList _ _ _ ({ dst := _, op := Op.load 48 _, type := _, pos := _, after := _, guard := _ } :: _) _ _); refine wpList_load_ent rfl _ rfl (M7.out.q) rfl ?_) | ((with_reducible show wpList _ _ _ ({ dst := _, op := Op.binOp BinOp.eql 48 _ _ 48, type := _, pos := _, after := _, guard := _ } :: _) _ _); refine wpList_eq_ent rfl _ _ rfl rfl rfl HEQ.out ?_))
  refine SM.mono ?_
  rintro e w8 ⟨rfl, h8⟩
  have M8 : Hid _ := M7.out.up h8
  have IN := HIN.out w8 h8
  clear SM M7 h8 HIN
  go_wp2_with fail
  refine IN.mono ?_
  rintro e w9 ⟨rfl, h9⟩
  have M9 : Hid _ := M8.out.up h9
  clear IN M8 h9
  have FD := find_in (some ⟨g, 0, none⟩) (l.length + 8) l nm w9 (lent_arg M9.out.own (by omega))
  go_wp2_with fail
  refine FD.mono ?_
  rintro e w10 ⟨rfl, h10⟩
  have M10 : Hid _ := M9.out.up h10
  clear FD M9 h10
  have RF := rfind_any sp cap l nm w10 M10.out.arg
  go_wp2_with fail
  refine RF.mono ?_
  rintro e w11 ⟨rfl, h11⟩
  have M11 : Hid _ := M10.out.up h11
  clear RF M10 h11
  have RM := room_in (some ⟨g, 0, none⟩) (l.length + 8) l w11 (lent_arg M11.out.own (by omega))
  generalize findL l nm = FL at *
  go_wp2_with fail
  refine RM.mono ?_
  rintro e w12 ⟨rfl, h12⟩
  have M12 : Hid _ := M11.out.up h12
  clear RM M11 h12
  have RRM := rroom_any sp cap l w12 M12.out.arg
  go_wp2_with fail
  refine RRM.mono ?_
  rintro e w13 ⟨rfl, hw13⟩
  rw [hw13]
  clear hw13 w13 RRM
  have KP := kept_any g sp cap l w12 M12.out.own M12.out.arg
  generalize roomL l = RL at *
  go_wp2_with fail
  refine KP.mono ?_
  rintro e w14 ⟨rfl, h14⟩
  have M14 : Hid _ := M12.out.up h14
  clear KP M12 h14
  go_wp2_with fail
  refine (eknown_any _).mono ?_
  rintro e w15 ⟨rfl, h15⟩
  have hB := (M14.out.up h15).b
  go_wp2
  go_ret
  exact ⟨rfl, hB⟩
end Go.Proofs.Ytabmogeicpphoaa
