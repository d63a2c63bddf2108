/- vol.fresh: its iterator. -/
import Derived.Test.YtkiifmnmeikdlaaGreatDoorJCPends213
namespace Go.Proofs.YtkiifmnmeikdlaaGreatDoor
open Go.RowKit Go.Shelf
set_option maxRecDepth 100000
attribute [local go_sem] Oper.semAt_some
/-- A block that is yielded: its number, where its bytes lie, their room. -/
abbrev Fb := Nat × Nat × Nat
def encF (x : Fb) : Array Value := #[.int .i64 (x.1 : Int), .slice (some ⟨x.2.1, 0, none⟩) 256 x.2.2]
/-- What block b of group k has at first. -/
def frL (k b : Nat) : List UInt8 := if b = 2 + 16 * k then hdrL k else tabL b
theorem fr_len (k b : Nat) (hk : k < 2) : (frL k b).length = 256 := by
  unfold frL
  split
  · exact hdr_len k hk
  · exact tab_len b
def preF (B k : Nat) (x : Fb) (W : World) : Prop := Src W (some ⟨x.2.1, 0, none⟩) (frL k x.1) ∧ B ≤ x.2.1 ∧ x.1 < 34
/-- The shape's block and the number's are as they were, and no part of T. -/
structure FI (W : World) (Bg Bk : Nat) (V : World) (T : Nat → Prop) : Prop where
  g : V.heap[Bg]? = W.heap[Bg]?
  k : V.heap[Bk]? = W.heap[Bk]?
  z : W.heap.size ≤ V.heap.size
  ng : ¬ T Bg
  nk : ¬ T Bk
section
variable {W V V' : World} {Bg Bk : Nat} {T T' : Nat → Prop}
theorem FI.up (h : FI W Bg Bk V T) (h1 : Bg < W.heap.size) (h2 : Bk < W.heap.size) (hb : Below V.heap.size V V') : FI W Bg Bk V' T :=
  have z := h.z
  ⟨(hb.block Bg (by omega)).trans h.g, (hb.block Bk (by omega)).trans h.k, Nat.le_trans h.z hb.size, h.ng, h.nk⟩
theorem FI.round (h : FI W Bg Bk V T) (h1 : Bg < W.heap.size) (h2 : Bk < W.heap.size) {L : Nat} (hg : Bg ≠ L) (hk : Bk ≠ L) (hK : Kept L T V V') (ht : ∀ j, T' j → T j ∨ V.heap.size ≤ j) : FI W Bg Bk V' T' :=
  have z := h.z
  ⟨(hK.same Bg (by omega) hg h.ng).trans h.g, (hK.same Bk (by omega) hk h.nk).trans h.k, Nat.le_trans h.z hK.size, fun c => by rcases ht _ c with c | c; exact h.ng c; omega, fun c => by rcases ht _ c with c | c; exact h.nk c; omega⟩
theorem FI.shp (h : FI W Bg Bk V T) (hs : Shp W Bg) : Shp V Bg := ⟨h.g.trans hs.row⟩
theorem FI.num (h : FI W Bg Bk V T) {v : Value} (hs : W.cell? ⟨Bk, 0, none⟩ = some v) : V.cell? ⟨Bk, 0, none⟩ = some v := (World.cell?_of_block (a := ⟨Bk, 0, none⟩) h.k).trans hs
end
theorem grown_belV {W W' : World} (h : Below W.heap.size W W') : W.grownBy W' none := ⟨h.os, h.tape, h.output, h.size, fun k hk _ => h.block k hk⟩
theorem headV_v (k : Nat) (hk : k < 2) : headV 16 8 2 k = (2 + 16 * k : Nat) ∧ headE 16 8 2 k = 0 := ⟨by rw [← headV_in okV (by omega) (by omega)]; omega, (headE_in okV (by omega) (by omega)).symm⟩
set_option maxRecDepth 100000 in
set_option maxHeartbeats 4000000 in
theorem fresh_runs0 (Bg Bk : Nat) (T0 : Nat → Prop) (w : World) (hg : Shp w Bg) (hn : w.cell? ⟨Bk, 0, none⟩ = some (.int .i64 0)) (hTg : ¬ T0 Bg) (hTk : ¬ T0 Bk) :
    RunsP Tryz.prog 68 #[.pointer (some ⟨Bg, 0, none⟩), .pointer (some ⟨Bk, 0, none⟩)] encF T0 (fun xs => xs.map (·.1) = [2, 3, 4]) (fun _ => True) 3 (preF w.heap.size 0) w := by
  intro L J Jx W hL hwL hW hJ hJx hJc hY h0 n
  have hBk : Bk < w.heap.size := block_lt_of_cell hn
  have hws := hW.size
  have hG : Shp W Bg := hg.below hW hg.lt
  have hN : W.cell? ⟨Bk, 0, none⟩ = some (.int .i64 0) := (hW.cell (p := ⟨Bk, 0, none⟩) hBk).trans hn
  have F0 : FI W Bg Bk W T0 := ⟨rfl, rfl, Nat.le_refl _, hTg, hTk⟩
  have HE := Head_any 16 8 2 0 W
  rw [show headV 16 8 2 0 = 2 from (headV_v 0 (by omega)).1, show headE 16 8 2 0 = 0 from (headV_v 0 (by omega)).2] at HE
  have FS : ∀ V, Calls Tryz.prog 69 #[.agg #[.int .i64 16, .int .i64 8, .int .i64 2], .int .i64 0] V fun e w' => e = .returned (.tuple #[.agg (hA 0 bl0 (sl0 0)), .int .i64 0]) ∧ Below V.heap.size V w' := fun V => fresh_yes 16 8 2 0 (numV 0 (by omega)) V
  have PT : ∀ V, Calls Tryz.prog 33 #[.agg #[.int .i64 16, .int .i64 8, .int .i64 2], .agg (hA 0 bl0 (sl0 0))] V fun e w' => ∃ G, e = .returned (.tuple #[.slice (some ⟨G, 0, none⟩) 256 256, .int .i64 0]) ∧ Blk w' G 126 (hdrL 0) ∧ V.heap.size ≤ G ∧ Below V.heap.size V w' := fun V => gput_yes 16 8 2 0 bl0 (sl0 0) bl0_len (sl0_len 0 (by omega)) (hdr_rg 0 (by omega)) V
  have hz := zero28
  have HL1 : Hid (bl0.length = 16) := bl0_len
  have HL2 : Hid ((sl0 0).length = 8) := sl0_len 0 (by omega)
  have c0 := hG.c0
  have c1 := hG.c1
  have c2 := hG.c2
  refine callsIn_wide.2 ?_
  show Calls _ _ #[.func (.yield L) #[] #[], .pointer (some ⟨Bg, 0, none⟩), .pointer (some ⟨Bk, 0, none⟩)] W _
  have HG : Hid (Shp W Bg) := hG
  have HN : Hid (W.cell? ⟨Bk, 0, none⟩ = some (.int .i64 0)) := hN
  have HF0 : Hid (FI W Bg Bk W T0) := F0
  have HJ0 : Hid (J [] W T0) := h0
  have HYY : Hid (∀ (pre : List Fb) (x : Fb) (W1 : World) (T : Nat → Prop) (m : Nat), J pre W1 T → preF w.heap.size 0 x W1 → pre.length < 3 → YieldAt Fence.wide m Tryz.prog L (encF x) W1 fun e W' =>
      (e = .returned (.bool true) ∧ (∃ T', J (pre ++ [x]) W' T' ∧ ∀ k, T' k → T k ∨ W1.heap.size ≤ k) ∧ Kept L T W1 W') ∨ (e = .returned (.bool false) ∧ Jx (pre ++ [x]) W' ∧ Kept L T W1 W')) := hY
  have HJ : Hid (∀ T, OwnFrom W.heap.size (fun s W => J s W T)) := hJ
  have HW : Hid (Below w.heap.size w W) := hW
  have HB : Hid (Bg < w.heap.size ∧ Bk < w.heap.size ∧ w.heap.size ≤ L ∧ w.heap.size ≤ W.heap.size ∧ L < W.heap.size) := ⟨hg.lt, hBk, hwL, hws, hL⟩
  clear hG F0 h0 hY hJ hW hg hn hTg hTk hBk hwL hws hL hJx hJc
  go_enter Tryz.func68, Tryz.ntmps68
  go_wp2_with fail
  refine HE.mono ?_
  rintro e w1 ⟨rfl, h1⟩
  have HF1 : Hid (FI W Bg Bk w1 T0) := HF0.out.up (by have := HB.out; omega) (by have := HB.out; omega) h1
  have HB1 : Hid (Below W.heap.size W w1) := h1
  clear h1 HE c0 c1 c2 hN HF0
  have c0 := (HF1.out.shp HG.out).c0
  have c1 := (HF1.out.shp HG.out).c1
  have c2 := (HF1.out.shp HG.out).c2
  have hN := HF1.out.num HN.out
  go_wp2_with fail
  refine (FS _).mono ?_
  rintro e w2 ⟨rfl, h2⟩
  have HF2 : Hid (FI W Bg Bk w2 T0) := HF1.out.up (by have := HB.out; omega) (by have := HB.out; omega) h2
  have HB2 : Hid (Below W.heap.size W w2) := HB1.out.trans (h2.mono HB1.out.size)
  clear h2 HB1 HF1 c0 c1 c2 hN FS
  have HNW : Hid (HeadAt (w2.alloc (.cells (hA 0 z16 z8) 38)) w2.heap.size 0 z16 z8) := head_new w2 0 z16 z8 rfl rfl
  have HNB : Hid (Below w2.heap.size w2 (w2.alloc (.cells (hA 0 z16 z8) 38))) := (Below.refl _ _).alloc (Nat.le_refl _) _
  go_upto_region 2 with (first | ((with_reducible show wpList _ _ _ ({ dst := _, op := Op.store 38 _ _, type := _, pos := _, after := _, guard := _ } :: _) _ _); refine wpList_store_head rfl _ _ rfl (HNW.out) HL1.out HL2.out rfl rfl ?_; intro w3 H3 b3 z3))
  have f3 : Below w2.heap.size w2 w3 := HNB.out.trans b3
  have HF3 : Hid (FI W Bg Bk w3 T0) := HF2.out.up (by have := HB.out; omega) (by have := HB.out; omega) f3
  have HB3 : Hid (Below W.heap.size W w3) := HB2.out.trans (f3.mono HB2.out.size)
  have HH3 : Hid (HeadAt w3 w2.heap.size 0 bl0 (sl0 0)) := H3
  clear f3 b3 z3 H3 HNW HNB HF2 HB2 hz
  have c0 := (HF3.out.shp HG.out).c0
  have c1 := (HF3.out.shp HG.out).c1
  have c2 := (HF3.out.shp HG.out).c2
  go_wp2_with (first | ((with_reducible show wpList _ _ _ ({ dst := _, op := Op.load 38 _, type := _, pos := _, after := _, guard := _ } :: _) _ _); refine wpList_load_head rfl _ rfl (HH3.out) rfl ?_))
  refine (PT _).mono ?_
  rintro e w4 ⟨G, rfl, hB4, hg4, h4⟩
  have HF4 : Hid (FI W Bg Bk w4 T0) := HF3.out.up (by have := HB.out; omega) (by have := HB.out; omega) h4
  have HB4 : Hid (Below W.heap.size W w4) := HB3.out.trans (h4.mono HB3.out.size)
  have HK4 : Hid (Blk w4 G 126 (hdrL 0)) := hB4
  have HG4 : Hid (w3.heap.size ≤ G) := hg4
  have HZ3 : Hid (W.heap.size ≤ w3.heap.size) := HB3.out.size
  clear c0 c1 c2 PT hB4 hg4 h4 HF3 HB3 HH3 HL1 HL2
  go_upto_region 3 with fail
  refine wpIn_wide.1 (?_ : Code.wpIn Fence.wide 9 _ _ _ _ _)
  have j4 : J [] w4 T0 := HJ.out T0 [] W w4 none HJ0.out (grown_belV HB4.out) (fun r e => by cases e)
  have p4 : preF w.heap.size 0 (2, G, 256) w4 := ⟨by show Src w4 _ (frL 0 2); rw [frL, if_pos rfl]; exact HK4.out.src, by show w.heap.size ≤ G; have := HB.out; have := HG4.out; have := HZ3.out; omega, by show 2 < 34; omega⟩
  obtain ⟨fn, tmps, assign, body, hy, hR⟩ := HYY.out [] (2, G, 256) w4 T0 9 j4 p4 (by simp)
  dsimp only [encF] at hy
  rw [show ((2 : Nat) : Int) = 2 from rfl] at hy
  have HR : Hid (RoundIn Fence.wide _ _ _ _ _ _ _ _ _) := hR
  clear hR j4 p4
  gi_wp2
  refine (round_any HR.out).mono ?_
  clear hy HR
  rintro e V1 (⟨rfl, ⟨T1, j1, t1⟩, k1⟩ | ⟨rfl, jx, _⟩)
  rotate_left
  · have HJX : Hid (Jx ([] ++ [(2, G, 256)]) V1) := jx
    clear jx
    gi_wp2
    go_wp2
    exact bodyPost_ret (results_none rfl _ _ _) rfl ⟨⟨_, rfl⟩, .inr ⟨_, trivial, HJX.out⟩⟩
  have HF5 : Hid (FI W Bg Bk V1 T1) := HF4.out.round (by have := HB.out; omega) (by have := HB.out; omega) (by have := HB.out; omega) (by have := HB.out; omega) k1 t1
  have HJ5 : Hid (J ([] ++ [(2, G, 256)]) V1 T1) := j1
  clear j1 t1 k1
  have TB := tables_any 16 8 2 V1
  rw [if_pos okV, show (8 : Int) / 4 = 2 from rfl] at TB
  have c0 := (HF5.out.shp HG.out).c0
  have c1 := (HF5.out.shp HG.out).c1
  have c2 := (HF5.out.shp HG.out).c2
  gi_wp2
  go_wp2_with fail
  refine TB.mono ?_
  rintro e V2 ⟨rfl, h2⟩
  have HF6 : Hid (FI W Bg Bk V2 T1) := HF5.out.up (by have := HB.out; omega) (by have := HB.out; omega) h2
  have HJ6 : Hid (J [(2, G, 256)] V2 T1) := HJ.out T1 _ V1 V2 none HJ5.out (grown_belV h2) (fun r e => by cases e)
  clear TB c0 c1 c2 h2 HF5 HJ5
  go_wp2_with fail
  refine wp_loop_rounds 3 ?_
  rw [rounds_succ]
  have TA3 := table_any 3 V2
  have c0 := (HF6.out.shp HG.out).c0
  have c1 := (HF6.out.shp HG.out).c1
  have c2 := (HF6.out.shp HG.out).c2
  go_upto_region 8 with fail
  refine wpIn_wide.1 (?_ : Code.wpIn Fence.wide 9 _ _ _ _ _)
  gi_wp2_with fail
  refine ⟨trivial, (callsIn_wide.2 TA3).mono ?_⟩
  rintro e X3 ⟨g3, r3, rfl, hs3, hg3, hb3⟩
  have HFa3 : Hid (FI W Bg Bk X3 T1) := HF6.out.up (by have := HB.out; omega) (by have := HB.out; omega) hb3
  have ja3 : J [(2, G, 256)] X3 T1 := HJ.out T1 _ V2 X3 none HJ6.out (grown_belV hb3) (fun r e => by cases e)
  have pa3 : preF w.heap.size 0 (3, g3, r3) X3 := ⟨by show Src X3 _ (frL 0 3); rw [frL, if_neg (by omega)]; exact hs3, by show w.heap.size ≤ g3; have := HB.out; have := HF6.out.z; omega, by show 3 < 34; omega⟩
  obtain ⟨fn, tmps, assign, body, hy, hR⟩ := HYY.out [(2, G, 256)] (3, g3, r3) X3 T1 9 ja3 pa3 (by simp)
  dsimp only [encF] at hy
  rw [show ((3 : Nat) : Int) = 3 from rfl] at hy
  have HR : Hid (RoundIn Fence.wide _ _ _ _ _ _ _ _ _) := hR
  clear hR ja3 pa3 TA3 c0 c1 c2 hs3 hg3 hb3
  dsimp only
  gi_wp2
  refine (round_any HR.out).mono ?_
  clear hy HR
  rintro e V3 (⟨rfl, ⟨T3, j3, t3⟩, k3⟩ | ⟨rfl, jx, _⟩)
  rotate_left
  · have HJX : Hid (Jx ([(2, G, 256)] ++ [(3, g3, r3)]) V3) := jx
    clear jx
    gi_wp2
    go_wp2
    exact bodyPost_ret (results_none rfl _ _ _) rfl ⟨⟨_, rfl⟩, .inr ⟨_, trivial, HJX.out⟩⟩
  have HFb3 : Hid (FI W Bg Bk V3 T3) := HFa3.out.round (by have := HB.out; omega) (by have := HB.out; omega) (by have := HB.out; omega) (by have := HB.out; omega) k3 t3
  have HJb3 : Hid (J ([(2, G, 256)] ++ [(3, g3, r3)]) V3 T3) := j3
  clear j3 t3 k3 HFa3 HF6 HJ6
  gi_wp2
  go_wp2_with fail
  rw [rounds_succ]
  have TA4 := table_any 4 V3
  have c0 := (HFb3.out.shp HG.out).c0
  have c1 := (HFb3.out.shp HG.out).c1
  have c2 := (HFb3.out.shp HG.out).c2
  go_upto_region 8 with fail
  refine wpIn_wide.1 (?_ : Code.wpIn Fence.wide 9 _ _ _ _ _)
  gi_wp2_with fail
  refine ⟨trivial, (callsIn_wide.2 TA4).mono ?_⟩
  rintro e X4 ⟨g4, r4, rfl, hs4, hg4, hb4⟩
  have HFa4 : Hid (FI W Bg Bk X4 T3) := HFb3.out.up (by have := HB.out; omega) (by have := HB.out; omega) hb4
  have ja4 : J ([(2, G, 256)] ++ [(3, g3, r3)]) X4 T3 := HJ.out T3 _ V3 X4 none HJb3.out (grown_belV hb4) (fun r e => by cases e)
  have pa4 : preF w.heap.size 0 (4, g4, r4) X4 := ⟨by show Src X4 _ (frL 0 4); rw [frL, if_neg (by omega)]; exact hs4, by show w.heap.size ≤ g4; have := HB.out; have := HFb3.out.z; omega, by show 4 < 34; omega⟩
  obtain ⟨fn, tmps, assign, body, hy, hR⟩ := HYY.out ([(2, G, 256)] ++ [(3, g3, r3)]) (4, g4, r4) X4 T3 9 ja4 pa4 (by simp)
  dsimp only [encF] at hy
  rw [show ((4 : Nat) : Int) = 4 from rfl] at hy
  have HR : Hid (RoundIn Fence.wide _ _ _ _ _ _ _ _ _) := hR
  clear hR ja4 pa4 TA4 c0 c1 c2 hs4 hg4 hb4
  dsimp only
  gi_wp2
  refine (round_any HR.out).mono ?_
  clear hy HR
  rintro e V4 (⟨rfl, ⟨T4, j4, t4⟩, k4⟩ | ⟨rfl, jx, _⟩)
  rotate_left
  · have HJX : Hid (Jx (([(2, G, 256)] ++ [(3, g3, r3)]) ++ [(4, g4, r4)]) V4) := jx
    clear jx
    gi_wp2
    go_wp2
    exact bodyPost_ret (results_none rfl _ _ _) rfl ⟨⟨_, rfl⟩, .inr ⟨_, trivial, HJX.out⟩⟩
  have HFb4 : Hid (FI W Bg Bk V4 T4) := HFa4.out.round (by have := HB.out; omega) (by have := HB.out; omega) (by have := HB.out; omega) (by have := HB.out; omega) k4 t4
  have HJb4 : Hid (J (([(2, G, 256)] ++ [(3, g3, r3)]) ++ [(4, g4, r4)]) V4 T4) := j4
  clear j4 t4 k4 HFa4 HFb3 HJb3
  gi_wp2
  go_wp2_with fail
  rw [rounds_succ]
  go_wp2
  go_end0
  exact ⟨⟨_, rfl⟩, .inl ⟨_, _, rfl, HJb4.out⟩⟩
set_option maxRecDepth 100000 in
set_option maxHeartbeats 4000000 in
theorem fresh_runs1 (Bg Bk : Nat) (T0 : Nat → Prop) (w : World) (hg : Shp w Bg) (hn : w.cell? ⟨Bk, 0, none⟩ = some (.int .i64 1)) (hTg : ¬ T0 Bg) (hTk : ¬ T0 Bk) :
    RunsP Tryz.prog 68 #[.pointer (some ⟨Bg, 0, none⟩), .pointer (some ⟨Bk, 0, none⟩)] encF T0 (fun xs => xs.map (·.1) = [18, 19, 20]) (fun _ => True) 3 (preF w.heap.size 1) w := by
  intro L J Jx W hL hwL hW hJ hJx hJc hY h0 n
  have hBk : Bk < w.heap.size := block_lt_of_cell hn
  have hws := hW.size
  have hG : Shp W Bg := hg.below hW hg.lt
  have hN : W.cell? ⟨Bk, 0, none⟩ = some (.int .i64 1) := (hW.cell (p := ⟨Bk, 0, none⟩) hBk).trans hn
  have F0 : FI W Bg Bk W T0 := ⟨rfl, rfl, Nat.le_refl _, hTg, hTk⟩
  have HE := Head_any 16 8 2 1 W
  rw [show headV 16 8 2 1 = 18 from (headV_v 1 (by omega)).1, show headE 16 8 2 1 = 0 from (headV_v 1 (by omega)).2] at HE
  have FS : ∀ V, Calls Tryz.prog 69 #[.agg #[.int .i64 16, .int .i64 8, .int .i64 2], .int .i64 1] V fun e w' => e = .returned (.tuple #[.agg (hA 1 bl0 (sl0 1)), .int .i64 0]) ∧ Below V.heap.size V w' := fun V => fresh_yes 16 8 2 1 (numV 1 (by omega)) V
  have PT : ∀ V, Calls Tryz.prog 33 #[.agg #[.int .i64 16, .int .i64 8, .int .i64 2], .agg (hA 1 bl0 (sl0 1))] V fun e w' => ∃ G, e = .returned (.tuple #[.slice (some ⟨G, 0, none⟩) 256 256, .int .i64 0]) ∧ Blk w' G 126 (hdrL 1) ∧ V.heap.size ≤ G ∧ Below V.heap.size V w' := fun V => gput_yes 16 8 2 1 bl0 (sl0 1) bl0_len (sl0_len 1 (by omega)) (hdr_rg 1 (by omega)) V
  have hz := zero28
  have HL1 : Hid (bl0.length = 16) := bl0_len
  have HL2 : Hid ((sl0 1).length = 8) := sl0_len 1 (by omega)
  have c0 := hG.c0
  have c1 := hG.c1
  have c2 := hG.c2
  refine callsIn_wide.2 ?_
  show Calls _ _ #[.func (.yield L) #[] #[], .pointer (some ⟨Bg, 0, none⟩), .pointer (some ⟨Bk, 0, none⟩)] W _
  have HG : Hid (Shp W Bg) := hG
  have HN : Hid (W.cell? ⟨Bk, 0, none⟩ = some (.int .i64 1)) := hN
  have HF0 : Hid (FI W Bg Bk W T0) := F0
  have HJ0 : Hid (J [] W T0) := h0
  have HYY : Hid (∀ (pre : List Fb) (x : Fb) (W1 : World) (T : Nat → Prop) (m : Nat), J pre W1 T → preF w.heap.size 1 x W1 → pre.length < 3 → YieldAt Fence.wide m Tryz.prog L (encF x) W1 fun e W' =>
      (e = .returned (.bool true) ∧ (∃ T', J (pre ++ [x]) W' T' ∧ ∀ k, T' k → T k ∨ W1.heap.size ≤ k) ∧ Kept L T W1 W') ∨ (e = .returned (.bool false) ∧ Jx (pre ++ [x]) W' ∧ Kept L T W1 W')) := hY
  have HJ : Hid (∀ T, OwnFrom W.heap.size (fun s W => J s W T)) := hJ
  have HW : Hid (Below w.heap.size w W) := hW
  have HB : Hid (Bg < w.heap.size ∧ Bk < w.heap.size ∧ w.heap.size ≤ L ∧ w.heap.size ≤ W.heap.size ∧ L < W.heap.size) := ⟨hg.lt, hBk, hwL, hws, hL⟩
  clear hG F0 h0 hY hJ hW hg hn hTg hTk hBk hwL hws hL hJx hJc
  go_enter Tryz.func68, Tryz.ntmps68
  go_wp2_with fail
  refine HE.mono ?_
  rintro e w1 ⟨rfl, h1⟩
  have HF1 : Hid (FI W Bg Bk w1 T0) := HF0.out.up (by have := HB.out; omega) (by have := HB.out; omega) h1
  have HB1 : Hid (Below W.heap.size W w1) := h1
  clear h1 HE c0 c1 c2 hN HF0
  have c0 := (HF1.out.shp HG.out).c0
  have c1 := (HF1.out.shp HG.out).c1
  have c2 := (HF1.out.shp HG.out).c2
  have hN := HF1.out.num HN.out
  go_wp2_with fail
  refine (FS _).mono ?_
  rintro e w2 ⟨rfl, h2⟩
  have HF2 : Hid (FI W Bg Bk w2 T0) := HF1.out.up (by have := HB.out; omega) (by have := HB.out; omega) h2
  have HB2 : Hid (Below W.heap.size W w2) := HB1.out.trans (h2.mono HB1.out.size)
  clear h2 HB1 HF1 c0 c1 c2 hN FS
  have HNW : Hid (HeadAt (w2.alloc (.cells (hA 0 z16 z8) 38)) w2.heap.size 0 z16 z8) := head_new w2 0 z16 z8 rfl rfl
  have HNB : Hid (Below w2.heap.size w2 (w2.alloc (.cells (hA 0 z16 z8) 38))) := (Below.refl _ _).alloc (Nat.le_refl _) _
  go_upto_region 2 with (first | ((with_reducible show wpList _ _ _ ({ dst := _, op := Op.store 38 _ _, type := _, pos := _, after := _, guard := _ } :: _) _ _); refine wpList_store_head rfl _ _ rfl (HNW.out) HL1.out HL2.out rfl rfl ?_; intro w3 H3 b3 z3))
  have f3 : Below w2.heap.size w2 w3 := HNB.out.trans b3
  have HF3 : Hid (FI W Bg Bk w3 T0) := HF2.out.up (by have := HB.out; omega) (by have := HB.out; omega) f3
  have HB3 : Hid (Below W.heap.size W w3) := HB2.out.trans (f3.mono HB2.out.size)
  have HH3 : Hid (HeadAt w3 w2.heap.size 1 bl0 (sl0 1)) := H3
  clear f3 b3 z3 H3 HNW HNB HF2 HB2 hz
  have c0 := (HF3.out.shp HG.out).c0
  have c1 := (HF3.out.shp HG.out).c1
  have c2 := (HF3.out.shp HG.out).c2
  go_wp2_with (first | ((with_reducible show wpList _ _ _ ({ dst := _, op := Op.load 38 _, type := _, pos := _, after := _, guard := _ } :: _) _ _); refine wpList_load_head rfl _ rfl (HH3.out) rfl ?_))
  refine (PT _).mono ?_
  rintro e w4 ⟨G, rfl, hB4, hg4, h4⟩
  have HF4 : Hid (FI W Bg Bk w4 T0) := HF3.out.up (by have := HB.out; omega) (by have := HB.out; omega) h4
  have HB4 : Hid (Below W.heap.size W w4) := HB3.out.trans (h4.mono HB3.out.size)
  have HK4 : Hid (Blk w4 G 126 (hdrL 1)) := hB4
  have HG4 : Hid (w3.heap.size ≤ G) := hg4
  have HZ3 : Hid (W.heap.size ≤ w3.heap.size) := HB3.out.size
  clear c0 c1 c2 PT hB4 hg4 h4 HF3 HB3 HH3 HL1 HL2
  go_upto_region 3 with fail
  refine wpIn_wide.1 (?_ : Code.wpIn Fence.wide 9 _ _ _ _ _)
  have j4 : J [] w4 T0 := HJ.out T0 [] W w4 none HJ0.out (grown_belV HB4.out) (fun r e => by cases e)
  have p4 : preF w.heap.size 1 (18, G, 256) w4 := ⟨by show Src w4 _ (frL 1 18); rw [frL, if_pos rfl]; exact HK4.out.src, by show w.heap.size ≤ G; have := HB.out; have := HG4.out; have := HZ3.out; omega, by show 18 < 34; omega⟩
  obtain ⟨fn, tmps, assign, body, hy, hR⟩ := HYY.out [] (18, G, 256) w4 T0 9 j4 p4 (by simp)
  dsimp only [encF] at hy
  rw [show ((18 : Nat) : Int) = 18 from rfl] at hy
  have HR : Hid (RoundIn Fence.wide _ _ _ _ _ _ _ _ _) := hR
  clear hR j4 p4
  gi_wp2
  refine (round_any HR.out).mono ?_
  clear hy HR
  rintro e V1 (⟨rfl, ⟨T1, j1, t1⟩, k1⟩ | ⟨rfl, jx, _⟩)
  rotate_left
  · have HJX : Hid (Jx ([] ++ [(18, G, 256)]) V1) := jx
    clear jx
    gi_wp2
    go_wp2
    exact bodyPost_ret (results_none rfl _ _ _) rfl ⟨⟨_, rfl⟩, .inr ⟨_, trivial, HJX.out⟩⟩
  have HF5 : Hid (FI W Bg Bk V1 T1) := HF4.out.round (by have := HB.out; omega) (by have := HB.out; omega) (by have := HB.out; omega) (by have := HB.out; omega) k1 t1
  have HJ5 : Hid (J ([] ++ [(18, G, 256)]) V1 T1) := j1
  clear j1 t1 k1
  have TB := tables_any 16 8 2 V1
  rw [if_pos okV, show (8 : Int) / 4 = 2 from rfl] at TB
  have c0 := (HF5.out.shp HG.out).c0
  have c1 := (HF5.out.shp HG.out).c1
  have c2 := (HF5.out.shp HG.out).c2
  gi_wp2
  go_wp2_with fail
  refine TB.mono ?_
  rintro e V2 ⟨rfl, h2⟩
  have HF6 : Hid (FI W Bg Bk V2 T1) := HF5.out.up (by have := HB.out; omega) (by have := HB.out; omega) h2
  have HJ6 : Hid (J [(18, G, 256)] V2 T1) := HJ.out T1 _ V1 V2 none HJ5.out (grown_belV h2) (fun r e => by cases e)
  clear TB c0 c1 c2 h2 HF5 HJ5
  go_wp2_with fail
  refine wp_loop_rounds 3 ?_
  rw [rounds_succ]
  have TA3 := table_any 19 V2
  have c0 := (HF6.out.shp HG.out).c0
  have c1 := (HF6.out.shp HG.out).c1
  have c2 := (HF6.out.shp HG.out).c2
  go_upto_region 8 with fail
  refine wpIn_wide.1 (?_ : Code.wpIn Fence.wide 9 _ _ _ _ _)
  gi_wp2_with fail
  refine ⟨trivial, (callsIn_wide.2 TA3).mono ?_⟩
  rintro e X3 ⟨g3, r3, rfl, hs3, hg3, hb3⟩
  have HFa3 : Hid (FI W Bg Bk X3 T1) := HF6.out.up (by have := HB.out; omega) (by have := HB.out; omega) hb3
  have ja3 : J [(18, G, 256)] X3 T1 := HJ.out T1 _ V2 X3 none HJ6.out (grown_belV hb3) (fun r e => by cases e)
  have pa3 : preF w.heap.size 1 (19, g3, r3) X3 := ⟨by show Src X3 _ (frL 1 19); rw [frL, if_neg (by omega)]; exact hs3, by show w.heap.size ≤ g3; have := HB.out; have := HF6.out.z; omega, by show 19 < 34; omega⟩
  obtain ⟨fn, tmps, assign, body, hy, hR⟩ := HYY.out [(18, G, 256)] (19, g3, r3) X3 T1 9 ja3 pa3 (by simp)
  dsimp only [encF] at hy
  rw [show ((19 : Nat) : Int) = 19 from rfl] at hy
  have HR : Hid (RoundIn Fence.wide _ _ _ _ _ _ _ _ _) := hR
  clear hR ja3 pa3 TA3 c0 c1 c2 hs3 hg3 hb3
  dsimp only
  gi_wp2
  refine (round_any HR.out).mono ?_
  clear hy HR
  rintro e V3 (⟨rfl, ⟨T3, j3, t3⟩, k3⟩ | ⟨rfl, jx, _⟩)
  rotate_left
  · have HJX : Hid (Jx ([(18, G, 256)] ++ [(19, g3, r3)]) V3) := jx
    clear jx
    gi_wp2
    go_wp2
    exact bodyPost_ret (results_none rfl _ _ _) rfl ⟨⟨_, rfl⟩, .inr ⟨_, trivial, HJX.out⟩⟩
  have HFb3 : Hid (FI W Bg Bk V3 T3) := HFa3.out.round (by have := HB.out; omega) (by have := HB.out; omega) (by have := HB.out; omega) (by have := HB.out; omega) k3 t3
  have HJb3 : Hid (J ([(18, G, 256)] ++ [(19, g3, r3)]) V3 T3) := j3
  clear j3 t3 k3 HFa3 HF6 HJ6
  gi_wp2
  go_wp2_with fail
  rw [rounds_succ]
  have TA4 := table_any 20 V3
  have c0 := (HFb3.out.shp HG.out).c0
  have c1 := (HFb3.out.shp HG.out).c1
  have c2 := (HFb3.out.shp HG.out).c2
  go_upto_region 8 with fail
  refine wpIn_wide.1 (?_ : Code.wpIn Fence.wide 9 _ _ _ _ _)
  gi_wp2_with fail
  refine ⟨trivial, (callsIn_wide.2 TA4).mono ?_⟩
  rintro e X4 ⟨g4, r4, rfl, hs4, hg4, hb4⟩
  have HFa4 : Hid (FI W Bg Bk X4 T3) := HFb3.out.up (by have := HB.out; omega) (by have := HB.out; omega) hb4
  have ja4 : J ([(18, G, 256)] ++ [(19, g3, r3)]) X4 T3 := HJ.out T3 _ V3 X4 none HJb3.out (grown_belV hb4) (fun r e => by cases e)
  have pa4 : preF w.heap.size 1 (20, g4, r4) X4 := ⟨by show Src X4 _ (frL 1 20); rw [frL, if_neg (by omega)]; exact hs4, by show w.heap.size ≤ g4; have := HB.out; have := HFb3.out.z; omega, by show 20 < 34; omega⟩
  obtain ⟨fn, tmps, assign, body, hy, hR⟩ := HYY.out ([(18, G, 256)] ++ [(19, g3, r3)]) (20, g4, r4) X4 T3 9 ja4 pa4 (by simp)
  dsimp only [encF] at hy
  rw [show ((20 : Nat) : Int) = 20 from rfl] at hy
  have HR : Hid (RoundIn Fence.wide _ _ _ _ _ _ _ _ _) := hR
  clear hR ja4 pa4 TA4 c0 c1 c2 hs4 hg4 hb4
  dsimp only
  gi_wp2
  refine (round_any HR.out).mono ?_
  clear hy HR
  rintro e V4 (⟨rfl, ⟨T4, j4, t4⟩, k4⟩ | ⟨rfl, jx, _⟩)
  rotate_left
  · have HJX : Hid (Jx (([(18, G, 256)] ++ [(19, g3, r3)]) ++ [(20, g4, r4)]) V4) := jx
    clear jx
    gi_wp2
    go_wp2
    exact bodyPost_ret (results_none rfl _ _ _) rfl ⟨⟨_, rfl⟩, .inr ⟨_, trivial, HJX.out⟩⟩
  have HFb4 : Hid (FI W Bg Bk V4 T4) := HFa4.out.round (by have := HB.out; omega) (by have := HB.out; omega) (by have := HB.out; omega) (by have := HB.out; omega) k4 t4
  have HJb4 : Hid (J (([(18, G, 256)] ++ [(19, g3, r3)]) ++ [(20, g4, r4)]) V4 T4) := j4
  clear j4 t4 k4 HFa4 HFb3 HJb3
  gi_wp2
  go_wp2_with fail
  rw [rounds_succ]
  go_wp2
  go_end0
  exact ⟨⟨_, rfl⟩, .inl ⟨_, _, rfl, HJb4.out⟩⟩
end Go.Proofs.YtkiifmnmeikdlaaGreatDoor
/- vol.Format: what lies while it goes. -/
namespace Go.Proofs.YtkiifmnmeikdlaaGreatDoor
open Go.RowKit Go.Shelf
set_option maxRecDepth 100000
theorem cellAt_of {w : World} {b o : Nat} {v : Value} (h : w.cell? ⟨b, o, none⟩ = some v) : CellAt w b := by
  unfold World.cell? at h
  cases hb : w.heap[b]? with
  | none => rw [hb] at h; cases h
  | some x =>
    cases x with
    | cells c t f => exact ⟨_, hb, rfl⟩
    | _ => rw [hb] at h; cases h
theorem not_cells {w : World} {b : Nat} {l : Option (List Deferred)} (h : w.heap[b]? = some (.deferred l)) : ¬ CellAt w b := fun ⟨o, ho, hc⟩ => by
  rw [h] at ho; cases ho; cases hc
/-- A block of cells is as it was, whatever other block was turned. -/
theorem CellAt.kept {A B : World} {k : Nat} {row : Option Nat} (h : CellAt A k) (hg : A.grownBy B row) (hr : ∀ r, row = some r → ∃ o : Obj, A.heap[r]? = some o ∧ o.isCells = false) : B.heap[k]? = A.heap[k]? :=
  hg.block k h.lt (fun e => by
    obtain ⟨o, ho, hc⟩ := hr k e.symm
    obtain ⟨o', ho', hc'⟩ := h
    rw [ho] at ho'; cases ho'; rw [hc] at hc'; cases hc')
section
variable {w w' : World} {base p k : Nat} {C : Nat → List UInt8} {D : Nat → Prop}
theorem DW.cells (h : DW w base p C k D) {j : Nat} (hj : D j) : CellAt w j := by
  obtain ⟨sf, ws, q, vs, hD, _, _, rfl⟩ := h
  rcases hj with rfl | rfl | ⟨i, hi, hj⟩
  · exact cellAt_of hD.c1
  · exact cellAt_of (hD.row 0 (by omega)).2.2
  · obtain ⟨_, h2⟩ := (hD.wr i hi).1
    rcases h2 with ⟨e, _⟩ | ⟨g, cap, cur, e, _, hh, _⟩
    · rw [e] at hj; cases hj
    · rw [e] at hj
      obtain rfl : g = j := by simpa [Value.ownBlock] using hj
      exact ⟨_, hh, rfl⟩
theorem DW.grown (h : DW w base p C k D) {row : Option Nat} (hg : w.grownBy w' row) (hr : ∀ r, row = some r → ∃ o : Obj, w.heap[r]? = some o ∧ o.isCells = false) : DW w' base p C k D := by
  have hc := fun j (hj : D j) => (h.cells hj).kept hg hr
  refine h.fr (S := fun j => ¬ D j) ⟨hg.size, fun j _ hj => hc j (Classical.byContradiction hj), hg.os, hg.tape, hg.output⟩ (fun j hj hn => hn hj)
end
/-- Of w0 on: the disk p, its contents C; the boxes of Format; the new superblock's bytes in block G. -/
structure FS (w0 : World) (D0 : Nat → Prop) (base p G : Nat) (C : Nat → List UInt8) (k : Nat) (D : Nat → Prop) (V : World) : Prop where
  dw : DW V base p C k D
  sub : ∀ j, D j → D0 j ∨ w0.heap.size + 2 ≤ j
  bd : V.heap[w0.heap.size]? = some (.cells #[.pointer (some ⟨p, 0, none⟩)] 56 (0, 0))
  bg : Shp V (w0.heap.size + 1)
  fr : Fr D0 w0 V
  gs : Blk V G 126 supL
  gn : ¬ D G
  gw : w0.heap.size + 2 ≤ G
  d0 : ∀ j, D0 j → j < w0.heap.size
section
variable {w0 V V' : World} {D0 D D' : Nat → Prop} {base p G k k' : Nat} {C C' : Nat → List UInt8}
theorem FS.bdl (h : FS w0 D0 base p G C k D V) : w0.heap.size < V.heap.size := (Array.getElem?_eq_some_iff.1 h.bd).1
theorem FS.cell (h : FS w0 D0 base p G C k D V) : V.cell? ⟨w0.heap.size, 0, none⟩ = some (.pointer (some ⟨p, 0, none⟩)) := by rw [cell_of_row _ _ _ _ _ _ h.bd]; rfl
theorem FS.up (h : FS w0 D0 base p G C k D V) (hb : Below V.heap.size V V') : FS w0 D0 base p G C k D V' :=
  ⟨h.dw.up hb, h.sub, (hb.block _ h.bdl).trans h.bd, h.bg.up hb, h.fr.trans (Fr.of_below hb), h.gs.below hb h.gs.lt, h.gn, h.gw, h.d0⟩
theorem FS.turn (h : FS w0 D0 base p G C k D V) (hd : DW V' base p C' k' D') (hs : ∀ j, D' j → D j ∨ V.heap.size ≤ j) (hf : Fr D V V') : FS w0 D0 base p G C' k' D' V' := by
  have n0 : ∀ j, D j → D0 j ∨ w0.heap.size + 2 ≤ j := h.sub
  have z0 := h.bdl
  have z1 := h.bg.lt
  have nb : ¬ D w0.heap.size := fun c => by rcases n0 _ c with c | c; have := h.d0 _ c; omega; omega
  have ng : ¬ D (w0.heap.size + 1) := fun c => by rcases n0 _ c with c | c; have := h.d0 _ c; omega; omega
  refine ⟨hd, fun j hj => ?_, (hf.blk _ z0 nb).trans h.bd, ⟨(hf.blk _ z1 ng).trans h.bg.row⟩, ⟨Nat.le_trans h.fr.size hf.size, fun j hj hn => ?_, hf.os.trans h.fr.os, hf.tape.trans h.fr.tape, hf.output.trans h.fr.output⟩, ?_, fun c => ?_, h.gw, h.d0⟩
  · rcases hs j hj with c | c
    · exact n0 j c
    · exact .inr (by omega)
  · exact (hf.blk j (by omega) fun c => by rcases n0 j c with c | c; exact hn c; omega).trans (h.fr.blk j hj hn)
  · exact (hf.blk G h.gs.lt h.gn).trans h.gs
  · rcases hs G c with c | c
    · exact h.gn c
    · have := h.gs.lt; omega
theorem FS.grown (h : FS w0 D0 base p G C k D V) {row : Option Nat} (hg : V.grownBy V' row) (hr : ∀ r, row = some r → w0.heap.size ≤ r ∧ ∃ o : Obj, V.heap[r]? = some o ∧ o.isCells = false) : FS w0 D0 base p G C k D V' := by
  have hr' := fun r e => (hr r e).2
  refine ⟨h.dw.grown hg hr', h.sub, (CellAt.kept ⟨_, h.bd, rfl⟩ hg hr').trans h.bd, ⟨(CellAt.kept ⟨_, h.bg.row, rfl⟩ hg hr').trans h.bg.row⟩, ⟨Nat.le_trans h.fr.size hg.size, fun j hj hn => ?_, hg.os.trans h.fr.os, hg.tape.trans h.fr.tape, hg.output.trans h.fr.output⟩, (CellAt.kept ⟨_, h.gs, rfl⟩ hg hr').trans h.gs, h.gn, h.gw, h.d0⟩
  have z := h.fr.size
  exact (hg.block j (by omega) fun e => by have := (hr j e.symm).1; omega).trans (h.fr.blk j hj hn)
end
/-- The contents behind the blocks l of group k. -/
def cF (k : Nat) (C : Nat → List UInt8) (l : List Nat) : Nat → List UInt8 := l.foldl (fun C b => upd C b (frL k b)) C
theorem cF_add (k : Nat) (C : Nat → List UInt8) (l : List Nat) (b : Nat) : cF k C (l ++ [b]) = upd (cF k C l) b (frL k b) := by unfold cF; rw [List.foldl_append]; rfl
/-- The contents of a new volume. -/
def fmtC (C : Nat → List UInt8) : Nat → List UInt8 := upd (cF 1 (cF 0 (upd (upd C 0 zeros) 1 zeros) [2, 3, 4]) [18, 19, 20]) 1 supL
set_option maxHeartbeats 1000000 in
theorem vfresh_any (k : Int) (w : World) : Calls Tryz.prog 38 #[.agg #[.int .i64 16, .int .i64 8, .int .i64 2], .int .i64 k] w fun e w' => e = .returned (.func (.func 68) #[] #[.pointer (some ⟨w.heap.size, 0, none⟩), .pointer (some ⟨w.heap.size + 1, 0, none⟩)]) ∧ w' = (w.alloc (.cells #[.int .i64 16, .int .i64 8, .int .i64 2] 23)).alloc (.cells #[.int .i64 k] 3) := by
  go_enter Tryz.func38, Tryz.ntmps38
  go_wp2
  go_ret
  exact ⟨by simp, rfl⟩
end Go.Proofs.YtkiifmnmeikdlaaGreatDoor
/- vol.Format, at the shape of 16 blocks, 8 slots and 2 groups. -/
namespace Go.Proofs.YtkiifmnmeikdlaaGreatDoor
open Go.RowKit Go.Shelf
set_option maxRecDepth 100000
attribute [local go_sem] Oper.semAt_some
theorem preF.grown {B k : Nat} {x : Fb} {W W' : World} (hk : k < 2) (h : preF B k x W) {row : Option Nat} (hg : W.grownBy W' row) (hr : ∀ r, row = some r → ∃ o : Obj, W.heap[r]? = some o ∧ o.isCells = false) : preF B k x W' := by
  obtain ⟨h1, h2⟩ := h
  refine ⟨?_, h2⟩
  obtain ⟨b, off, e, hb, hc⟩ := h1.at' (by rw [fr_len k x.1 hk]; omega)
  have hC : CellAt W b := cellAt_of (hc 0 (by rw [fr_len k x.1 hk]; omega))
  have hs := hC.kept hg hr
  exact .inr ⟨b, off, e, Nat.lt_of_lt_of_le hb hg.size, fun j hj => (World.cell?_of_block (a := ⟨b, off + j, none⟩) hs).trans (hc j hj)⟩
theorem FS.more' {w0 V : World} {D0 D : Nat → Prop} {base p G k m : Nat} {C : Nat → List UInt8} (h : FS w0 D0 base p G C k D V) (e : k = m) : FS w0 D0 base p G C m D V := e ▸ h
/-- The marks of loops that are over. -/
def Marks (Ms : List Nat) (V : World) : Prop := ∀ m ∈ Ms, V.heap[m]? = some (.deferred (some []))
theorem Marks.fr {Ms : List Nat} {V V' : World} (h : Marks Ms V) {D : Nat → Prop} (hf : Fr D V V') (hD : ∀ j, D j → CellAt V j) : Marks Ms V' := fun m hm =>
  (hf.blk m (Array.getElem?_eq_some_iff.1 (h m hm)).1 fun c => not_cells (h m hm) (hD m c)).trans (h m hm)
theorem Marks.up {Ms : List Nat} {V V' : World} (h : Marks Ms V) (hb : Below V.heap.size V V') : Marks Ms V' := fun m hm =>
  (hb.block m (Array.getElem?_eq_some_iff.1 (h m hm)).1).trans (h m hm)
theorem Marks.grown {Ms : List Nat} {B : Nat} {V V' : World} (h : Marks Ms V) (hB : ∀ m ∈ Ms, m < B) {row : Option Nat} (hg : V.grownBy V' row) (hr : ∀ r, row = some r → B ≤ r ∧ ∃ o : Obj, V.heap[r]? = some o ∧ o.isCells = false) : Marks Ms V' := fun m hm =>
  (hg.block m (Array.getElem?_eq_some_iff.1 (h m hm)).1 fun e => by have := (hr m e.symm).1; have := hB m hm; omega).trans (h m hm)
/-- No panic. -/
def calm (Q : Exit → Act → World → Prop) : Exit → Act → World → Prop
  | .panic _, _, _ => False
  | .outgrown, _, _ => False
  | e, a, w => Q e a w
theorem calm_of {Q : Exit → Act → World → Prop} {e : Exit} {a : Act} {w : World} (h : calm Q e a w) : Q e a w := by
  cases e <;> first | exact h | exact h.elim
set_option maxRecDepth 100000 in
set_option maxHeartbeats 8000000 in
theorem format_any {w : World} {base p k : Nat} {C : Nat → List UInt8} {D : Nat → Prop} (h : DW w base p C k D) (hk : k ≤ 100) (ht : Tab w) :
    Calls Tryz.prog 44 #[.pointer (some ⟨p, 0, none⟩), .agg #[.int .i64 16, .int .i64 8, .int .i64 2]] w fun e w' => e = .returned (.int .i64 0) ∧ ∃ D', DW w' base p (fmtC C) 0 D' ∧ (∀ j, D' j → D j ∨ w.heap.size ≤ j) ∧ Fr D w w' := by
  have hw0 : 0 < w.heap.size := block_lt_of_cell (ht 0 (by omega))
  obtain ⟨w2, hw2⟩ : ∃ w2, (w.alloc (.cells #[.pointer (some ⟨p, 0, none⟩)] 56)).alloc (.cells #[.int .i64 16, .int .i64 8, .int .i64 2] 23) = w2 := ⟨_, rfl⟩
  have hb2 : Below w.heap.size w w2 := by rw [← hw2]; exact ((Below.refl _ _).alloc (Nat.le_refl _) _).alloc (by simp) _
  have z2 : w2.heap.size = w.heap.size + 2 := by rw [← hw2]; simp
  have bd2 : w2.heap[w.heap.size]? = some (.cells #[.pointer (some ⟨p, 0, none⟩)] 56 (0, 0)) := by rw [← hw2]; exact heap_alloc2_old _ _ _
  have bg2 : Shp w2 (w.heap.size + 1) := ⟨by rw [← hw2]; exact heap_alloc2_new _ _ _⟩
  have SP : Calls Tryz.prog 41 #[.agg #[.int .i64 1, .int .i64 16, .int .i64 8, .int .i64 2]] w2 fun e w' => ∃ G, e = .returned (.tuple #[.slice (some ⟨G, 0, none⟩) 256 256, .int .i64 0]) ∧ Blk w' G 126 supL ∧ w2.heap.size ≤ G ∧ Below w2.heap.size w2 w' := sput_ok 1 16 8 2 w2 (ht.below hb2 hw0) sup_ok
  have hbu : ∀ W, (Instr.build 58 #[(0, .int .i64 1), (1, .agg #[.int .i64 16, .int .i64 8, .int .i64 2])]).run Tryz.prog W = .ok (.agg #[.int .i64 1, .int .i64 16, .int .i64 8, .int .i64 2]) W := fun W => Go.run_build W 58 _ _ (by kernel_rfl)
  have cd : w2.cell? ⟨w.heap.size, 0, none⟩ = some (.pointer (some ⟨p, 0, none⟩)) := by rw [cell_of_row _ _ _ _ _ _ bd2]; rfl
  have c0 := bg2.c0
  have c1 := bg2.c1
  have c2 := bg2.c2
  have HF : Hid (∀ (G : Nat) (w3 : World), Blk w3 G 126 supL → w2.heap.size ≤ G → Below w2.heap.size w2 w3 → FS w D base p G C k D w3) := fun G w3 hB hG hb =>
    have hd2 := h.up hb2
    ⟨hd2.up hb, fun j hj => .inl hj, (hb.block _ (by omega)).trans bd2, bg2.up hb, (Fr.of_below hb2).trans (Fr.of_below hb), hB, fun c => by have := (h.lt c).1; omega, by omega, fun j hj => (h.lt hj).1⟩
  have HK : Hid (k ≤ 100) := hk
  have HZ : Hid (w2.heap.size = w.heap.size + 2) := z2
  have HP : Hid (D p ∧ ∀ j, D j → j < w.heap.size) := ⟨h.pin, fun j hj => (h.lt hj).1⟩
  clear hb2 z2 bd2 bg2 h ht hw0 hk
  refine (callsIn_wide (n := 9)).1 ?_
  refine callsIn_of_wp_marks Tryz.func44 rfl trivial ?_ rfl
  simp only [Tryz.ntmps44, List.size_toArray, List.length_cons, List.length_nil, Nat.reduceAdd, Nat.reduceSub, Array.replicate_succ, Array.replicate_zero, List.push_toArray, List.append_toArray, List.nil_append, List.cons_append]
  refine wpIn_mono ?_ (fun e a w h => calm_of h)
  refine wpIn_wide.2 ?_
  go_wp2_with fail
  refine SP.mono ?_
  rintro e w3 ⟨G, rfl, hG3, hg3, h3⟩
  have H3 : Hid (FS w D base p G C k D w3) := HF.out G w3 hG3 hg3 h3
  clear HF HZ SP hbu cd c0 c1 c2 hG3 hg3 h3 hw2
  have H3d : Hid (FS w D base p G C k D w3.drew) := H3.out.up (Below.refl _ _).drew
  go_upto_region 6 with fail
  have LN := dw_len H3d.out.dw
  refine wp_region_held_drew (S := (fun W => FS w D base p G C k D W)) (by kernel_rfl) H3d.out (fun hH => ?_)
  refine takeH (i := 0) (dst := some 22) (v := ?v1) rfl rfl (by kernel_rfl) (by kernel_rfl) (by kernel_rfl) (fun _ _ _ h => h) rfl ?hy1 hH rfl ?rest1
  case hy1 => (intro W hW; have e0 := hW.cell; clear hW; go_simp; try with_reducible rfl)
  (try simp only [Act.put, List.setIfInBounds_toArray, List.set_cons_zero, List.set_cons_succ])
  refine takeH (i := 2) (dst := some 24) (v := ?v2) rfl rfl (by kernel_rfl) (by kernel_rfl) (by kernel_rfl) (fun _ _ _ h => h) rfl ?hy2 hH rfl ?rest2
  case hy2 => (intro W hW; have e0 := hW.bg.c0; have e1 := hW.bg.c1; have e2 := hW.bg.c2; clear hW; go_simp; try with_reducible rfl)
  (try simp only [Act.put, List.setIfInBounds_toArray, List.set_cons_zero, List.set_cons_succ])
  refine callH (i := 1) { dst := some 23, op := Go.Op.call { callee := Go.Callee.value (Go.Operand.func 22), args := #[Go.Operand.tmp 22], argTypes := #[56] }, type := 3, pos := "shape.go:62", after := #[{ on := 0, ground := Go.Ground.data }], guard := none } (by kernel_rfl) rfl rfl (fun K hK => ?_)
  go_simp
  refine LN.mono ?_
  clear LN
  rintro e w4 ⟨rfl, hw4⟩
  have S4 : Hid (FS w D base p G C k D w4) := by rw [hw4]; exact H3d.out
  have SZ := size_any 16 8 2 w4
  rw [if_pos okV, show (2 : Int) + 2 * 16 = 34 from rfl] at SZ
  clear hw4
  clear hH
  refine hK.out _ _ S4.out (fun hH => ?_)
  clear hK K
  (try simp only [Act.put, List.setIfInBounds_toArray, List.set_cons_zero, List.set_cons_succ])
  refine callH (i := 3) { dst := some 25, op := Go.Op.call { callee := Go.Callee.value (Go.Operand.func 37), args := #[Go.Operand.tmp 24], argTypes := #[23] }, type := 3, pos := "shape.go:62", after := #[{ on := 2, ground := Go.Ground.data }, { on := 1, ground := Go.Ground.chain }], guard := none } (by kernel_rfl) rfl rfl (fun K hK => ?_)
  go_simp
  refine SZ.mono ?_
  clear SZ
  rintro e w5 ⟨rfl, h5⟩
  have S5 : Hid (FS w D base p G C k D w5) := S4.out.up h5
  clear h5
  clear hH
  refine hK.out _ _ S5.out (fun hH => ?_)
  clear hK K
  (try simp only [Act.put, List.setIfInBounds_toArray, List.set_cons_zero, List.set_cons_succ])
  refine takeH (i := 4) (dst := some 26) (v := ?v3) rfl rfl (by kernel_rfl) (by kernel_rfl) (by kernel_rfl) (fun _ _ _ h => h) rfl ?hy3 hH rfl ?rest3
  case hy3 => (intro W hW; (try dsimp only at hW); go_simp; try with_reducible rfl)
  (try simp only [Act.put, List.setIfInBounds_toArray, List.set_cons_zero, List.set_cons_succ])
  refine wpAnyH_done (by kernel_rfl) ?_ _
  clear hH
  clear S4 H3d H3
  go_wp2_with fail
  refine wp_loop_rounds 3 ?_
  rw [rounds_succ]
  go_upto_region 11 with fail
  have gd : FS w D base p G C k D w5.drew := S5.out.up (Below.refl _ _).drew
  refine wp_region_held_drew (S := (fun W => W.cell? ⟨w.heap.size, 0, none⟩ = some (.pointer (some ⟨p, 0, none⟩)))) (by kernel_rfl) gd.cell (fun hH => ?_)
  generalize w5.drew = wd0 at *
  obtain ⟨wm0, hwm⟩ : ∃ wm, wd0.alloc (.cells (bvs zeros).toArray 5) = wm := ⟨_, rfl⟩
  have hmk : (Instr.makeSlice 42 (.int .i64 256) (.int .i64 256)).run Tryz.prog wd0 = .ok (.slice (some ⟨wd0.heap.size, 0, none⟩) 256 256) wm0 := by rw [← hwm]; exact make_any wd0 256 256 (by omega) (by omega)
  have hbm : Below wd0.heap.size wd0 wm0 := by rw [← hwm]; exact (Below.refl _ _).alloc (Nat.le_refl _) _
  have hBm : Blk wm0 wd0.heap.size 5 zeros := by rw [← hwm]; exact heap_alloc_new _ _
  have HFm : Hid (FS w D base p G C k D wm0) := gd.up hbm
  have HCm : Hid (wm0.cell? ⟨w.heap.size, 0, none⟩ = some (.pointer (some ⟨p, 0, none⟩))) := HFm.out.cell
  have WR := dw_write HFm.out.dw (by have := HK.out; omega) 0 (by omega) zeros zeros_length wd0.heap.size 0 256 hBm.src (fun e => by have := (gd.dw.lt gd.dw.pin).1; omega)
  rw [show ((0 : Nat) : Int) = 0 from rfl] at WR
  clear hbm hBm hwm gd
  refine takeH (i := 0) (dst := some 30) (v := ?v4) rfl rfl (by kernel_rfl) (by kernel_rfl) (by kernel_rfl) (fun _ _ _ h => h) rfl ?hy4 hH rfl ?rest4
  case hy4 => (intro W hW; have e0 := hW; clear hW; go_simp; try with_reducible rfl)
  (try simp only [Act.put, List.setIfInBounds_toArray, List.set_cons_zero, List.set_cons_succ])
  refine takeH (i := 1) (dst := some 31) (v := ?v5) rfl rfl (by kernel_rfl) (by kernel_rfl) (by kernel_rfl) (fun _ _ _ h => h) rfl ?hy5 hH rfl ?rest5
  case hy5 => (intro W hW; (try dsimp only at hW); go_simp; try with_reducible rfl)
  (try simp only [Act.put, List.setIfInBounds_toArray, List.set_cons_zero, List.set_cons_succ])
  refine callH (i := 2) { dst := some 32, op := Go.Op.makeSlice 42 (Go.Operand.const (Go.Value.int Go.IntKind.i64 256)) (Go.Operand.const (Go.Value.int Go.IntKind.i64 256)), type := 42, pos := "shape.go:66", after := #[], guard := none } (by kernel_rfl) rfl rfl (fun K hK => ?_)
  go_simp
  clear hH
  refine hK.out _ _ HCm.out (fun hH => ?_)
  clear hK K
  (try simp only [Act.put, List.setIfInBounds_toArray, List.set_cons_zero, List.set_cons_succ])
  refine callH (i := 3) { dst := some 33, op := Go.Op.call { callee := Go.Callee.value (Go.Operand.func 79), args := #[Go.Operand.tmp 30, Go.Operand.tmp 31, Go.Operand.tmp 32], argTypes := #[56, 3, 42] }, type := 25, pos := "shape.go:66", after := #[{ on := 0, ground := Go.Ground.data }, { on := 1, ground := Go.Ground.data }, { on := 2, ground := Go.Ground.data }], guard := none } (by kernel_rfl) rfl rfl (fun K hK => ?_)
  go_simp
  refine WR.mono ?_
  clear WR
  rintro e wr0 ⟨rfl, D1, hd, hs, hf⟩
  have HR0 : Hid (FS w D base p G (upd C 0 zeros) (k + 1) D1 wr0) := HFm.out.turn hd hs hf
  clear hd hs hf
  clear hH
  refine hK.out _ _ HR0.out.cell (fun hH => ?_)
  clear hK K
  (try simp only [Act.put, List.setIfInBounds_toArray, List.set_cons_zero, List.set_cons_succ])
  refine wpAnyH_done (by kernel_rfl) ?_ _
  clear hH
  clear HFm HCm hmk S5
  go_wp2_with fail
  rw [rounds_succ]
  go_upto_region 11 with fail
  have gd : FS w D base p G (upd C 0 zeros) (k + 1) D1 wr0.drew := HR0.out.up (Below.refl _ _).drew
  refine wp_region_held_drew (S := (fun W => W.cell? ⟨w.heap.size, 0, none⟩ = some (.pointer (some ⟨p, 0, none⟩)))) (by kernel_rfl) gd.cell (fun hH => ?_)
  generalize wr0.drew = wd1 at *
  obtain ⟨wm1, hwm⟩ : ∃ wm, wd1.alloc (.cells (bvs zeros).toArray 5) = wm := ⟨_, rfl⟩
  have hmk : (Instr.makeSlice 42 (.int .i64 256) (.int .i64 256)).run Tryz.prog wd1 = .ok (.slice (some ⟨wd1.heap.size, 0, none⟩) 256 256) wm1 := by rw [← hwm]; exact make_any wd1 256 256 (by omega) (by omega)
  have hbm : Below wd1.heap.size wd1 wm1 := by rw [← hwm]; exact (Below.refl _ _).alloc (Nat.le_refl _) _
  have hBm : Blk wm1 wd1.heap.size 5 zeros := by rw [← hwm]; exact heap_alloc_new _ _
  have HFm : Hid (FS w D base p G (upd C 0 zeros) (k + 1) D1 wm1) := gd.up hbm
  have HCm : Hid (wm1.cell? ⟨w.heap.size, 0, none⟩ = some (.pointer (some ⟨p, 0, none⟩))) := HFm.out.cell
  have WR := dw_write HFm.out.dw (by have := HK.out; omega) 1 (by omega) zeros zeros_length wd1.heap.size 0 256 hBm.src (fun e => by have := (gd.dw.lt gd.dw.pin).1; omega)
  rw [show ((1 : Nat) : Int) = 1 from rfl] at WR
  clear hbm hBm hwm gd
  refine takeH (i := 0) (dst := some 30) (v := ?v6) rfl rfl (by kernel_rfl) (by kernel_rfl) (by kernel_rfl) (fun _ _ _ h => h) rfl ?hy6 hH rfl ?rest6
  case hy6 => (intro W hW; have e0 := hW; clear hW; go_simp; try with_reducible rfl)
  (try simp only [Act.put, List.setIfInBounds_toArray, List.set_cons_zero, List.set_cons_succ])
  refine takeH (i := 1) (dst := some 31) (v := ?v7) rfl rfl (by kernel_rfl) (by kernel_rfl) (by kernel_rfl) (fun _ _ _ h => h) rfl ?hy7 hH rfl ?rest7
  case hy7 => (intro W hW; (try dsimp only at hW); go_simp; try with_reducible rfl)
  (try simp only [Act.put, List.setIfInBounds_toArray, List.set_cons_zero, List.set_cons_succ])
  refine callH (i := 2) { dst := some 32, op := Go.Op.makeSlice 42 (Go.Operand.const (Go.Value.int Go.IntKind.i64 256)) (Go.Operand.const (Go.Value.int Go.IntKind.i64 256)), type := 42, pos := "shape.go:66", after := #[], guard := none } (by kernel_rfl) rfl rfl (fun K hK => ?_)
  go_simp
  clear hH
  refine hK.out _ _ HCm.out (fun hH => ?_)
  clear hK K
  (try simp only [Act.put, List.setIfInBounds_toArray, List.set_cons_zero, List.set_cons_succ])
  refine callH (i := 3) { dst := some 33, op := Go.Op.call { callee := Go.Callee.value (Go.Operand.func 79), args := #[Go.Operand.tmp 30, Go.Operand.tmp 31, Go.Operand.tmp 32], argTypes := #[56, 3, 42] }, type := 25, pos := "shape.go:66", after := #[{ on := 0, ground := Go.Ground.data }, { on := 1, ground := Go.Ground.data }, { on := 2, ground := Go.Ground.data }], guard := none } (by kernel_rfl) rfl rfl (fun K hK => ?_)
  go_simp
  refine WR.mono ?_
  clear WR
  rintro e wr1 ⟨rfl, D2, hd, hs, hf⟩
  have HR1 : Hid (FS w D base p G (upd (upd C 0 zeros) 1 zeros) ((k + 1) + 1) D2 wr1) := HFm.out.turn hd hs hf
  clear hd hs hf
  clear hH
  refine hK.out _ _ HR1.out.cell (fun hH => ?_)
  clear hK K
  (try simp only [Act.put, List.setIfInBounds_toArray, List.set_cons_zero, List.set_cons_succ])
  refine wpAnyH_done (by kernel_rfl) ?_ _
  clear hH
  clear HFm HCm hmk HR0
  go_wp2_with fail
  rw [rounds_succ]
  have FL := dw_flush HR1.out.dw
  have cd := HR1.out.cell
  go_wp2_with fail
  refine FL.mono ?_
  rintro e wf ⟨rfl, D3, hd, hs, hf⟩
  have HFf : Hid (FS w D base p G (upd (upd C 0 zeros) 1 zeros) 0 D3 wf) := HR1.out.turn hd (fun j hj => .inl (hs j hj)) hf
  clear hd hs hf FL cd HR1
  have HM0 : Hid (Marks [] wf) := fun m hm => by cases hm
  have cd := HFf.out.cell
  have c0 := HFf.out.bg.c0
  have c1 := HFf.out.bg.c1
  have c2 := HFf.out.bg.c2
  go_wp2_with fail
  clear cd c0 c1 c2
  refine wp_loop_rounds 3 ?_
  rw [rounds_succ]
  have cd := HFf.out.cell
  have c0 := HFf.out.bg.c0
  have c1 := HFf.out.bg.c1
  have c2 := HFf.out.bg.c2
  have FR := vfresh_any 0 wf
  go_wp2_with fail
  refine FR.mono ?_
  clear FR cd c0 c1 c2
  rintro e wx0 ⟨rfl, hwx⟩
  have hbx : Below wf.heap.size wf wx0 := by rw [hwx]; exact ((Below.refl _ _).alloc (Nat.le_refl _) _).alloc (by simp) _
  have bgx : Shp wx0 wf.heap.size := ⟨by rw [hwx]; exact heap_alloc2_old _ _ _⟩
  have bkx : wx0.heap[wf.heap.size + 1]? = some (.cells #[.int .i64 0] 3 (0, 0)) := by rw [hwx]; exact heap_alloc2_new _ _ _
  have HX : Hid (FS w D base p G (upd (upd C 0 zeros) 1 zeros) 0 D3 wx0) := HFf.out.up hbx
  have HMX : Hid (Marks [] wx0) := HM0.out.up hbx
  have HMB : Hid (∀ m ∈ [], m < wx0.heap.size) := fun m hm => (Array.getElem?_eq_some_iff.1 (HMX.out m hm)).1
  have RU := fresh_runs0 wf.heap.size (wf.heap.size + 1) D3 wx0 bgx (by rw [cell_of_row _ _ _ _ _ _ bkx]; rfl) (fun c => by have := (HFf.out.dw.lt c).1; omega) (fun c => by have := (HFf.out.dw.lt c).1; omega)
  have HRU : Hid (RunsP _ _ _ _ _ _ _ _ _ _) := RU
  have HPX : Hid (p < wx0.heap.size) := (HX.out.dw.lt HX.out.dw.pin).1
  have HWX : Hid (w.heap.size ≤ wx0.heap.size) := HX.out.fr.size
  clear hbx bgx bkx RU hwx HFf HM0
  go_wp2_with fail
  refine wpIn_wide.1 (?_ : Code.wpIn Fence.wide 9 _ _ _ _ _)
  refine range_runsA (A := ?A0) (gf := 68) (lb := #[.pointer (some ⟨wf.heap.size, 0, none⟩), .pointer (some ⟨wf.heap.size + 1, 0, none⟩)]) rfl (enters_of Tryz.func68 (by kernel_rfl) rfl) HRU.out (fun j hj => HX.out.dw.cells hj) (fun x => rfl)
    (fun pre V T => FS w D base p G (cF 0 (upd (upd C 0 zeros) 1 zeros) (pre.map (·.1))) (0 + pre.length) T V ∧ Marks [] V) (fun _ _ => False) ?hI ?hIx ⟨HX.out, HMX.out⟩ ?hPre ?hassign ?hbody ?hdone ?hstop
  case hassign =>
    intro l m pre x V T K hi hpre hK
    dsimp only [encF]
    gi_wp2
    exact hK
  case hI =>
    intro T s A B row hs hg hr
    exact ⟨hs.1.grown hg (fun r e => ⟨by have := (hr r e).1; have := HWX.out; omega, (hr r e).2⟩), hs.2.grown HMB.out hg hr⟩
  case hIx => exact fun s A B row hs _ _ => hs
  case hPre =>
    intro x s A B row hs hg hr
    exact hs.grown (by omega) hg (fun r e => (hr r e).2)
  case hstop => exact fun _ _ _ _ _ h _ => h.elim
  case hbody =>
    rintro l m pre ⟨b, g, c⟩ V T ⟨hF, hM⟩ hT hpre hlt
    have WR := dw_write hF.dw (by omega) b hpre.2.2 (frL 0 b) (fr_len 0 b (by omega)) g 0 c hpre.1 (fun e => by have := HPX.out; have h2 : wx0.heap.size ≤ g := hpre.2.1; omega)
    have cd := hF.cell
    have HF : Hid (FS w D base p G (cF 0 (upd (upd C 0 zeros) 1 zeros) (pre.map (·.1))) (0 + pre.length) T V) := hF
    have HM : Hid (Marks [] V) := hM
    have HC : Hid (∀ k, T k → CellAt V k) := hT
    clear hF hM hT hpre hlt
    dsimp only
    gi_wp2_with fail
    refine ⟨trivial, fun h => (by cases h), (CallsIn.inRound l (callsIn_wide.2 WR)).mono ?_⟩
    rintro e V' ⟨rfl, T', hd, hs, hf⟩
    have h1 := HF.out.turn hd hs hf
    have h2 := HM.out.fr hf HC.out
    have HN : Hid (Left (fun pre V T => FS w D base p G (cF 0 (upd (upd C 0 zeros) 1 zeros) (pre.map (·.1))) (0 + pre.length) T V ∧ Marks [] V) (fun _ _ => False) T (pre ++ [(b, g, c)]) V Exit.normal { tmps := #[], defers := [] } V') := ⟨⟨T', ⟨by rw [List.map_append, List.length_append]; show FS _ _ _ _ _ (cF _ _ (_ ++ [b])) (0 + pre.length + 1) _ _; rw [cF_add]; exact h1, h2⟩, fun j hj => ⟨hs j hj, hd.cells hj⟩⟩, ⟨hf.size, fun j hj hn => hf.blk j hj hn⟩⟩
    clear h1 h2 hd hs hf WR cd
    dsimp only
    gi_wp2
    exact HN.out
  clear HRU HMX HPX HX
  case hdone =>
  rintro M0 xs wg T0 hMz hS ⟨hF, hM⟩ hM0
  have HMA : Hid (w.heap.size ≤ M0) := Nat.le_trans HWX.out hMz
  clear hMz HWX
  rw [hS] at hF
  have HG0 : Hid (FS w D base p G (cF 0 (upd (upd C 0 zeros) 1 zeros) [2, 3, 4]) 3 T0 wg) := hF.more' (by have := congrArg List.length hS; simp at this; omega)
  have HM1 : Hid (Marks [M0] wg) := fun m hm => by
    obtain rfl : m = M0 := by simpa using hm
    exact hM0
  clear hF hM hM0 hS HMB
  dsimp only
  go_wp2_with fail
  rw [rounds_succ]
  have cd := HG0.out.cell
  have c0 := HG0.out.bg.c0
  have c1 := HG0.out.bg.c1
  have c2 := HG0.out.bg.c2
  have FR := vfresh_any 1 wg
  go_wp2_with fail
  refine FR.mono ?_
  clear FR cd c0 c1 c2
  rintro e wx1 ⟨rfl, hwx⟩
  have hbx : Below wg.heap.size wg wx1 := by rw [hwx]; exact ((Below.refl _ _).alloc (Nat.le_refl _) _).alloc (by simp) _
  have bgx : Shp wx1 wg.heap.size := ⟨by rw [hwx]; exact heap_alloc2_old _ _ _⟩
  have bkx : wx1.heap[wg.heap.size + 1]? = some (.cells #[.int .i64 1] 3 (0, 0)) := by rw [hwx]; exact heap_alloc2_new _ _ _
  have HX : Hid (FS w D base p G (cF 0 (upd (upd C 0 zeros) 1 zeros) [2, 3, 4]) 3 T0 wx1) := HG0.out.up hbx
  have HMX : Hid (Marks [M0] wx1) := HM1.out.up hbx
  have HMB : Hid (∀ m ∈ [M0], m < wx1.heap.size) := fun m hm => (Array.getElem?_eq_some_iff.1 (HMX.out m hm)).1
  have RU := fresh_runs1 wg.heap.size (wg.heap.size + 1) T0 wx1 bgx (by rw [cell_of_row _ _ _ _ _ _ bkx]; rfl) (fun c => by have := (HG0.out.dw.lt c).1; omega) (fun c => by have := (HG0.out.dw.lt c).1; omega)
  have HRU : Hid (RunsP _ _ _ _ _ _ _ _ _ _) := RU
  have HPX : Hid (p < wx1.heap.size) := (HX.out.dw.lt HX.out.dw.pin).1
  have HWX : Hid (w.heap.size ≤ wx1.heap.size) := HX.out.fr.size
  clear hbx bgx bkx RU hwx HG0 HM1
  go_wp2_with fail
  refine wpIn_wide.1 (?_ : Code.wpIn Fence.wide 9 _ _ _ _ _)
  refine range_runsA (A := ?A1) (gf := 68) (lb := #[.pointer (some ⟨wg.heap.size, 0, none⟩), .pointer (some ⟨wg.heap.size + 1, 0, none⟩)]) rfl (enters_of Tryz.func68 (by kernel_rfl) rfl) HRU.out (fun j hj => HX.out.dw.cells hj) (fun x => rfl)
    (fun pre V T => FS w D base p G (cF 1 (cF 0 (upd (upd C 0 zeros) 1 zeros) [2, 3, 4]) (pre.map (·.1))) (3 + pre.length) T V ∧ Marks [M0] V) (fun _ _ => False) ?hI ?hIx ⟨HX.out, HMX.out⟩ ?hPre ?hassign ?hbody ?hdone ?hstop
  case hassign =>
    intro l m pre x V T K hi hpre hK
    dsimp only [encF]
    gi_wp2
    exact hK
  case hI =>
    intro T s A B row hs hg hr
    exact ⟨hs.1.grown hg (fun r e => ⟨by have := (hr r e).1; have := HWX.out; omega, (hr r e).2⟩), hs.2.grown HMB.out hg hr⟩
  case hIx => exact fun s A B row hs _ _ => hs
  case hPre =>
    intro x s A B row hs hg hr
    exact hs.grown (by omega) hg (fun r e => (hr r e).2)
  case hstop => exact fun _ _ _ _ _ h _ => h.elim
  case hbody =>
    rintro l m pre ⟨b, g, c⟩ V T ⟨hF, hM⟩ hT hpre hlt
    have WR := dw_write hF.dw (by omega) b hpre.2.2 (frL 1 b) (fr_len 1 b (by omega)) g 0 c hpre.1 (fun e => by have := HPX.out; have h2 : wx1.heap.size ≤ g := hpre.2.1; omega)
    have cd := hF.cell
    have HF : Hid (FS w D base p G (cF 1 (cF 0 (upd (upd C 0 zeros) 1 zeros) [2, 3, 4]) (pre.map (·.1))) (3 + pre.length) T V) := hF
    have HM : Hid (Marks [M0] V) := hM
    have HC : Hid (∀ k, T k → CellAt V k) := hT
    clear hF hM hT hpre hlt
    dsimp only
    gi_wp2_with fail
    refine ⟨trivial, fun h => (by cases h), (CallsIn.inRound l (callsIn_wide.2 WR)).mono ?_⟩
    rintro e V' ⟨rfl, T', hd, hs, hf⟩
    have h1 := HF.out.turn hd hs hf
    have h2 := HM.out.fr hf HC.out
    have HN : Hid (Left (fun pre V T => FS w D base p G (cF 1 (cF 0 (upd (upd C 0 zeros) 1 zeros) [2, 3, 4]) (pre.map (·.1))) (3 + pre.length) T V ∧ Marks [M0] V) (fun _ _ => False) T (pre ++ [(b, g, c)]) V Exit.normal { tmps := #[], defers := [] } V') := ⟨⟨T', ⟨by rw [List.map_append, List.length_append]; show FS _ _ _ _ _ (cF _ _ (_ ++ [b])) (3 + pre.length + 1) _ _; rw [cF_add]; exact h1, h2⟩, fun j hj => ⟨hs j hj, hd.cells hj⟩⟩, ⟨hf.size, fun j hj hn => hf.blk j hj hn⟩⟩
    clear h1 h2 hd hs hf WR cd
    dsimp only
    gi_wp2
    exact HN.out
  clear HRU HMX HPX HX
  case hdone =>
  rintro M1 xs wh T1 hM1 hS ⟨hF, hM⟩ hM2
  rw [hS] at hF
  have HG1 : Hid (FS w D base p G (cF 1 (cF 0 (upd (upd C 0 zeros) 1 zeros) [2, 3, 4]) [18, 19, 20]) 6 T1 wh) := hF.more' (by have := congrArg List.length hS; simp at this; omega)
  have HM3 : Hid (Marks [M1, M0] wh) := fun m hm => by
    rcases (show m = M1 ∨ m = M0 by simpa using hm) with rfl | rfl
    · exact hM2
    · exact hM _ (by simp)
  have HMW : Hid (w.heap.size ≤ M1 ∧ w.heap.size ≤ M0) := ⟨Nat.le_trans HWX.out hM1, HMA.out⟩
  have HNE : Hid (M0 ≠ M1) := fun e => by have := HMB.out M0 (by simp); omega
  clear hF hM hM2 hS hM1 HMB HWX HMA
  dsimp only
  go_wp2_with fail
  rw [rounds_succ]
  have FL := dw_flush HG1.out.dw
  have cd := HG1.out.cell
  go_wp2_with fail
  refine FL.mono ?_
  rintro e wi ⟨rfl, D5, hd, hs, hf⟩
  have HF5 : Hid (FS w D base p G (cF 1 (cF 0 (upd (upd C 0 zeros) 1 zeros) [2, 3, 4]) [18, 19, 20]) 0 D5 wi) := HG1.out.turn hd (fun j hj => .inl (hs j hj)) hf
  have HM5 : Hid (Marks [M1, M0] wi) := HM3.out.fr hf (fun j hj => HG1.out.dw.cells hj)
  clear hd hs hf FL cd HG1 HM3
  have WR := dw_write HF5.out.dw (by omega) 1 (by omega) supL sup_len G 0 256 HF5.out.gs.src (fun e => HF5.out.gn (e ▸ HF5.out.dw.pin))
  rw [show ((1 : Nat) : Int) = 1 from rfl] at WR
  have cd := HF5.out.cell
  go_wp2_with fail
  refine WR.mono ?_
  rintro e wj ⟨rfl, D6, hd, hs, hf⟩
  have HF6 : Hid (FS w D base p G (fmtC C) 1 D6 wj) := HF5.out.turn hd hs hf
  have HM6 : Hid (Marks [M1, M0] wj) := HM5.out.fr hf (fun j hj => HF5.out.dw.cells hj)
  clear hd hs hf WR cd HF5 HM5
  have FL := dw_flush HF6.out.dw
  have cd := HF6.out.cell
  go_wp2_with fail
  refine FL.mono ?_
  rintro e wk ⟨rfl, D7, hd, hs, hf⟩
  have HF7 : Hid (FS w D base p G (fmtC C) 0 D7 wk) := HF6.out.turn hd (fun j hj => .inl (hs j hj)) hf
  have HM7 : Hid (Marks [M1, M0] wk) := HM6.out.fr hf (fun j hj => HF6.out.dw.cells hj)
  clear hd hs hf FL cd HF6 HM6
  go_wp2_with fail
  have h1 : wk.heap[M1]? = some (.deferred (some [])) := HM7.out M1 (by simp)
  have h2 : (wk.putObj M1 (.deferred none)).heap[M0]? = some (.deferred (some [])) := (World.putObj_heap_other HNE.out).trans (HM7.out M0 (by simp))
  have hz : w.heap.size ≤ M1 ∧ w.heap.size ≤ M0 := HMW.out
  have f1 := HF7.out.grown (grownBy_putObj' wk M1 (.deferred none)) (fun r e => by cases e; exact ⟨hz.1, _, h1, rfl⟩)
  have f2 := f1.grown (grownBy_putObj' _ M0 (.deferred none)) (fun r e => by cases e; exact ⟨hz.2, _, h2, rfl⟩)
  refine ⟨by simp, .inl ⟨_, _, rfl, run_takeDeferred h1, ⟨by simp, .inl ⟨_, _, rfl, run_takeDeferred h2, ?_⟩⟩⟩⟩
  refine ⟨.int .i64 0, ?_, rfl, D7, f2.dw, fun j hj => (f2.sub j hj).imp_right (fun e => by omega), f2.fr⟩
  simp [results, Tryz.f44, go_sem]
end Go.Proofs.YtkiifmnmeikdlaaGreatDoor
/- vol.thing and vol.head, whoever reads. -/
namespace Go.Proofs.YtkiifmnmeikdlaaGreatDoor
open Go.RowKit
set_option maxRecDepth 100000
theorem Only.fr {q : Nat} {w w' : World} (h : Only q w w') (hz : w'.heap.size = w.heap.size) : Fr (fun j => j = q) w w' := ⟨by omega, fun j _ hj => h.blk j hj, h.bel.os, h.bel.tape, h.bel.output⟩
set_option maxHeartbeats 4000000 in
theorem thing_gen (fR : Nat) (rcv : Value) (s : Int) (b P : Nat) (l : List UInt8) (i0 : Ino) (hpb : placeB 16 8 2 s = (b : Int)) (hpp : placeP 16 8 2 s = (P : Int)) (hpe : placeE 16 8 2 s = 0) (hP : (P : Int) < 4) (hl : l.length = 256)
    (hv : getV ((l.drop (64 * P)).take 64) = i0) (he : getEI ((l.drop (64 * P)).take 64) = 0) (hn : i0.ns.length = 8) (w : World) (R : World → World → Prop)
    (hR : ∀ W, Below w.heap.size w W → Calls Tryz.prog fR #[rcv, .int .i64 (b : Int)] W fun e w' => ∃ g c, e = .returned (.tuple #[.slice (some ⟨g, 0, none⟩) 256 c, .int .i64 0]) ∧ Arg w' (some ⟨g, 0, none⟩) c l ∧ R W w')
    (hK : ∀ W w', Below w.heap.size w W → R W w' → W.heap.size ≤ w'.heap.size ∧ ∀ j, w.heap.size ≤ j → j < W.heap.size → w'.heap[j]? = W.heap[j]?)
    (eg : ∀ args W, (callFunc fR args).run Tryz.prog W = .ok (.enter fR args) W) :
    Calls Tryz.prog 26 #[.func (.func fR) #[rcv] #[], .agg #[.int .i64 16, .int .i64 8, .int .i64 2], .int .i64 s] w fun e w' => e = .returned (.tuple #[.agg (iA i0), .int .i64 0]) ∧ ∃ W1 w1, Below w.heap.size w W1 ∧ w.heap.size + 1 < W1.heap.size ∧ R W1 w1 ∧ Fr (fun j => j = w.heap.size + 1) w1 w' := by
  obtain ⟨w1, hw1⟩ : ∃ w1, (w.alloc (.cells #[.int .i64 16, .int .i64 8, .int .i64 2] 23)).alloc (.cells (iA zino) 30) = w1 := ⟨_, rfl⟩
  have hb1 : Below w.heap.size w w1 := by rw [← hw1]; exact ((Below.refl _ _).alloc (Nat.le_refl _) _).alloc (by simp) _
  have z1 : w1.heap.size = w.heap.size + 2 := by rw [← hw1]; simp
  have bg1 : Shp w1 w.heap.size := ⟨by rw [← hw1]; exact heap_alloc2_old _ _ _⟩
  have bi1 : InoAt w1 (w.heap.size + 1) zino := ⟨by rw [← hw1]; exact heap_alloc2_new _ _ _, rfl⟩
  have hz := zeroI
  have PL := place_any 16 8 2 s w1
  rw [hpb, hpp, hpe] at PL
  have c0 := bg1.c0
  have c1 := bg1.c1
  have c2 := bg1.c2
  have IR := fun (g c : Nat) W (ha : Arg W (some ⟨g, 0, none⟩) c l) => ireadT_ok g 0 c l P hl hP W ha
  rw [hv, he] at IR
  have HR : Hid (∀ W, Below w.heap.size w W → Calls Tryz.prog fR #[rcv, .int .i64 (b : Int)] W fun e w' => ∃ g c, e = .returned (.tuple #[.slice (some ⟨g, 0, none⟩) 256 c, .int .i64 0]) ∧ Arg w' (some ⟨g, 0, none⟩) c l ∧ R W w') := hR
  have HK : Hid (∀ W w', Below w.heap.size w W → R W w' → W.heap.size ≤ w'.heap.size ∧ ∀ j, w.heap.size ≤ j → j < W.heap.size → w'.heap[j]? = W.heap[j]?) := hK
  have HN : Hid (i0.ns.length = 8) := hn
  have HB1 : Hid (Below w.heap.size w w1) := hb1
  have HI1 : Hid (InoAt w1 (w.heap.size + 1) zino) := bi1
  have HZ : Hid (w1.heap.size = w.heap.size + 2) := z1
  clear hR hK hn hv he hpb hpp hpe hb1 z1 bg1 bi1 hl hP
  go_enter Tryz.func26, Tryz.ntmps26
  go_wp2_with fail
  refine PL.mono ?_
  clear PL c0 c1 c2
  rintro e w2 ⟨rfl, h2⟩
  have HB2 : Hid (Below w.heap.size w w2) := HB1.out.trans (h2.mono HB1.out.size)
  have HI2 : Hid (InoAt w2 (w.heap.size + 1) zino) := HI1.out.up h2
  have HZ2 : Hid (w.heap.size + 2 ≤ w2.heap.size) := by have := h2.size; have := HZ.out; show _ ≤ _; omega
  clear h2 HB1 HI1 HZ hw1 hz
  have RD := HR.out w2 HB2.out
  go_wp2_with fail
  refine RD.mono ?_
  clear RD
  rintro e w3 ⟨g, c, rfl, ha3, hR3⟩
  have k3 := HK.out w2 w3 HB2.out hR3
  have HI3 : Hid (InoAt w3 (w.heap.size + 1) zino) := ⟨(k3.2 _ (by omega) (by have := HZ2.out; omega)).trans HI2.out.row, rfl⟩
  have RI := IR g c w3 ha3
  have HR3 : Hid (R w2 w3) := hR3
  clear ha3 hR3 k3 HI2 IR
  go_wp2_with fail
  refine RI.mono ?_
  clear RI
  rintro e w4 ⟨rfl, h4⟩
  have HI4 : Hid (InoAt w4 (w.heap.size + 1) zino) := HI3.out.up h4
  have HF4 : Hid (Below w3.heap.size w3 w4) := h4
  clear h4 HI3
  go_wp2_with (first | ((with_reducible show wpList _ _ _ ({ dst := _, op := Op.store 30 _ _, type := _, pos := _, after := _, guard := _ } :: _) _ _); refine wpList_store_inoO rfl _ _ rfl HI4.out HN.out rfl rfl ?_; intro w5 H5 b5 z5))
  exact bodyPost_ret (results_ino rfl _ H5 rfl) rfl ⟨rfl, w2, w3, HB2.out, by have := HZ2.out; omega, HR3.out, (Fr.of_below HF4.out).trans (b5.fr z5)⟩
/-- Of a disk's block. -/
theorem dw_readA {w : World} {base p k : Nat} {C : Nat → List UInt8} {D : Nat → Prop} (h : DW w base p C k D) (i : Nat) (hi : i < 34) (hl : (C i).length = 256) :
    Calls Tryz.prog 45 #[.pointer (some ⟨p, 0, none⟩), .int .i64 (i : Int)] w fun e w' => ∃ g c, e = .returned (.tuple #[.slice (some ⟨g, 0, none⟩) 256 c, .int .i64 0]) ∧ Arg w' (some ⟨g, 0, none⟩) c (C i) ∧ Below w.heap.size w w' := by
  refine (dw_read h i hi).mono ?_
  rintro e w' ⟨g, rfl, hB, _, hb⟩
  refine ⟨g, 256, rfl, ?_, hb⟩
  have := hB.arg (by rw [hl]; omega) (by rw [hl]; omega)
  rw [hl] at this
  exact this
/-- The tables of a new volume. -/
def Tabs34 (C : Nat → List UInt8) : Prop := ∀ s : Nat, s < 16 → C (3 + s / 8 * 16 + s % 8 / 4) = tabL ((3 + s / 8 * 16 + s % 8 / 4 : Nat) : Int)
theorem thing_disk {w : World} {base p k : Nat} {C : Nat → List UInt8} {D : Nat → Prop} (h : DW w base p C k D) (hC : Tabs34 C) (s : Nat) (hs : s < 16) :
    Calls Tryz.prog 26 #[.func (.func 45) #[.pointer (some ⟨p, 0, none⟩)] #[], .agg #[.int .i64 16, .int .i64 8, .int .i64 2], .int .i64 (s : Int)] w fun e w' => e = .returned (.tuple #[.agg (iA (inoS s)), .int .i64 0]) ∧ Below w.heap.size w w' := by
  have hin : (inoS s).ns.length = 8 := by unfold inoS; split <;> rfl
  refine (thing_gen 45 (.pointer (some ⟨p, 0, none⟩)) s (3 + s / 8 * 16 + s % 8 / 4) (s % 8 % 4) (C (3 + s / 8 * 16 + s % 8 / 4)) (inoS s) (by rw [placeV_b (by omega)]; omega) (by rw [placeV_p (by omega)]; omega) (placeV_e (by omega)) (by omega) (by rw [hC s hs]; exact tab_len _)
    (by rw [hC s hs]; exact tabR_v s hs) (by rw [hC s hs]; exact tabR_e s hs) hin w (fun W w' => Below W.heap.size W w')
    (fun W hb => dw_readA (h.up hb) _ (by omega) (by rw [hC s hs]; exact tab_len _))
    (fun W w' hb hr => ⟨hr.size, fun j _ hj => hr.block j hj⟩) (enters_of Tryz.func45 (by kernel_rfl) rfl)).mono ?_
  rintro e w' ⟨rfl, W1, w1, hb, hz, hr, hf⟩
  refine ⟨rfl, ?_⟩
  have h1 := hb.trans (hr.mono hb.size)
  exact h1.trans (hf.below h1.size (fun j e => by omega))
set_option maxHeartbeats 4000000 in
theorem head_disk {w : World} {base p k : Nat} {C : Nat → List UInt8} {D : Nat → Prop} (h : DW w base p C k D) (K : Nat) (hK : K < 2) (hC : C (2 + 16 * K) = hdrL K) :
    Calls Tryz.prog 31 #[.func (.func 45) #[.pointer (some ⟨p, 0, none⟩)] #[], .agg #[.int .i64 16, .int .i64 8, .int .i64 2], .int .i64 (K : Int)] w fun e w' => e = .returned (.tuple #[.agg (hA K (rdB (hdrL K)) (rdS (hdrL K))), .int .i64 0]) ∧ Below w.heap.size w w' := by
  obtain ⟨w1, hw1⟩ : ∃ w1, (w.alloc (.cells #[.int .i64 16, .int .i64 8, .int .i64 2] 23)).alloc (.cells (hA 0 z16 z8) 38) = w1 := ⟨_, rfl⟩
  have hb1 : Below w.heap.size w w1 := by rw [← hw1]; exact ((Below.refl _ _).alloc (Nat.le_refl _) _).alloc (by simp) _
  have z1 : w1.heap.size = w.heap.size + 2 := by rw [← hw1]; simp
  have bg1 : Shp w1 w.heap.size := ⟨by rw [← hw1]; exact heap_alloc2_old _ _ _⟩
  have bi1 : HeadAt w1 (w.heap.size + 1) 0 z16 z8 := ⟨by rw [← hw1]; exact heap_alloc2_new _ _ _, rfl, rfl⟩
  have hz := zero28
  obtain ⟨b, hb⟩ : ∃ b : Nat, b = 2 + 16 * K := ⟨_, rfl⟩
  have HE := Head_any 16 8 2 K w1
  rw [(headV_v K hK).1, (headV_v K hK).2, ← hb] at HE
  have c0 := bg1.c0
  have c1 := bg1.c1
  have c2 := bg1.c2
  have eg := enters_of Tryz.func45 (by kernel_rfl) rfl
  have HD : Hid (DW w1 base p C k D) := h.up hb1
  have HB1 : Hid (Below w.heap.size w w1) := hb1
  have HI1 : Hid (HeadAt w1 (w.heap.size + 1) 0 z16 z8) := bi1
  have HC : Hid (C b = hdrL K ∧ b < 34 ∧ K < 2) := ⟨by rw [hb]; exact hC, by omega, hK⟩
  have HL1 : Hid ((rdB (hdrL K)).length = 16) := rdB_length (hdr_len K hK)
  have HL2 : Hid ((rdS (hdrL K)).length = 8) := rdS_length (hdr_len K hK)
  clear h hb1 z1 bg1 bi1 hC hb
  go_enter Tryz.func31, Tryz.ntmps31
  go_wp2_with fail
  refine HE.mono ?_
  clear HE
  rintro e w2 ⟨rfl, h2⟩
  have HB2 : Hid (Below w.heap.size w w2) := HB1.out.trans (h2.mono HB1.out.size)
  have HI2 : Hid (HeadAt w2 (w.heap.size + 1) 0 z16 z8) := HI1.out.up h2
  have HG2 : Hid (Shp w2 w.heap.size) := (show Shp w1 w.heap.size from ⟨by rw [← hw1]; exact heap_alloc2_old _ _ _⟩).up h2
  have RD := dw_readA (HD.out.up h2) b HC.out.2.1 (by rw [HC.out.1]; exact hdr_len K HC.out.2.2)
  rw [HC.out.1] at RD
  clear h2 HB1 HI1 HD hw1 hz c0 c1 c2
  go_wp2_with fail
  refine RD.mono ?_
  clear RD
  rintro e w3 ⟨g, c, rfl, ha3, h3⟩
  have HB3 : Hid (Below w.heap.size w w3) := HB2.out.trans (h3.mono HB2.out.size)
  have HI3 : Hid (HeadAt w3 (w.heap.size + 1) 0 z16 z8) := HI2.out.up h3
  have bg3 := HG2.out.up h3
  have la := ha3.len
  rw [hdr_len K HC.out.2.2] at la
  have GE := gget_ok 16 8 2 g 0 c (hdrL K) (hdr_len K HC.out.2.2) (by decide) (hdr_rgr K HC.out.2.2) (hdr_back K HC.out.2.2) w3 ha3.src (by omega) (by omega)
  rw [hdr_rdN K HC.out.2.2] at GE
  have c0 := bg3.c0
  have c1 := bg3.c1
  have c2 := bg3.c2
  clear ha3 h3 HB2 HI2 HG2 bg3 la HC
  go_wp2_with fail
  refine GE.mono ?_
  clear GE
  rintro e w4 ⟨rfl, h4⟩
  have HB4 : Hid (Below w.heap.size w w4) := HB3.out.trans (h4.mono HB3.out.size)
  have HI4 : Hid (HeadAt w4 (w.heap.size + 1) 0 z16 z8) := HI3.out.up h4
  clear h4 HB3 HI3 c0 c1 c2
  go_wp2_with (first | ((with_reducible show wpList _ _ _ ({ dst := _, op := Op.store 38 _ _, type := _, pos := _, after := _, guard := _ } :: _) _ _); refine wpList_store_head rfl _ _ rfl (HI4.out) HL1.out HL2.out rfl rfl ?_; intro w5 H5 b5 z5))
  exact bodyPost_ret (results_head rfl _ H5 rfl) rfl ⟨rfl, HB4.out.trans (b5.mono (by omega))⟩
end Go.Proofs.YtkiifmnmeikdlaaGreatDoor
