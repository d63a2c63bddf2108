/- The walk of leveelaw01.NumParts. -/
import Derived.Test.YtmedfjodkeplfaaDoorLent
import Derived.Test.YtmedfjodkeplfaaDoorRefs
import Derived.Test.YtmedfjodkeplfaaDoorRefDiff
import Derived.Test.YtmedfjodkeplfaaDoorKnown
namespace Go.Proofs.YtmedfjodkeplfaaDoor
open Go.RowKit
theorem lentArg {w : World} {g : Nat} {l : List UInt8} (h : Blk w g 5 (l ++ a5)) (hl : l.length ≤ 140737488355328) : Arg w (some ⟨g, 0, none⟩) (l.length + 8) l := by
  have := h.src.pre l.length
  rw [List.take_left' rfl] at this
  exact .inr ⟨g, 0, rfl, by omega, by omega, by omega, hl, this⟩
theorem cutL_len (l : List UInt8) (f n : Int) : (cutL l f n).length ≤ l.length := by
  unfold cutL; split
  · simp; omega
  · simp
theorem layL_len (l : List UInt8) (f : Int) (c : List UInt8) : (layL l f c).length ≤ l.length := by
  unfold layL; split
  · rename_i h; simp [inB] at h; simp; omega
  · simp
set_option maxHeartbeats 2000000 in
theorem parts_walk (sp : Option Addr) (cap : Nat) (l : List UInt8) (f n : Int) (sc : Option Addr) (cc : Nat) (c : List UInt8) (w : World) (ha : Arg w sp cap l) (hf : -9223372036854775808 ≤ f ∧ f ≤ 9223372036854775807) (hn : -9223372036854775808 ≤ n ∧ n ≤ 9223372036854775807) (hc : Arg w sc cc c) (ht : Tab w) :
    Calls Tryd.prog 4 #[.slice sp l.length cap, .int .i64 f, .int .i64 n, .slice sc c.length cc] w fun e w' => e = .returned (.bool true) ∧ Below w.heap.size w w' := by
  have hw0 : 0 < w.heap.size := block_lt_of_cell (ht 0 (by omega))
  have la := ha.len
  have lc := hc.len
  have lcu := cutL_len l f n
  have lla := layL_len l f c
  go_enter Tryd.func4, Tryd.ntmps4
  go_wp2_with fail
  refine (lent_any sp cap l w ha).mono ?_
  rintro e w1 ⟨g0, rfl, hg0, hz0, hb1⟩
  have hs1 := hb1.size
  have hl0 := hg0.lt
  go_wp2_with fail
  refine (lent_any sc cc c w1 (hc.below hb1 (Nat.le_refl _))).mono ?_
  rintro e w2 ⟨g1, rfl, hg1, hz1, hb2⟩
  have hs2 := hb2.size
  have hl1 := hg1.lt
  have hg02 : Blk w2 g0 5 (l ++ a5) := hg0.below hb2 hl0
  have hb02 : Below w.heap.size w w2 := hb1.trans (hb2.mono hs1)
  go_wp2_with fail
  refine (cut_any _ l _ f n w2 (lentArg hg02 (by omega)) hf hn).mono ?_
  rintro e w3 ⟨x, rfl, hx, hb3⟩
  have hs3 := hb3.size
  have hb03 : Below w.heap.size w w3 := hb02.trans (hb3.mono (by omega))
  go_wp2_with fail
  refine (rcut_any sp l cap f n w3 (ha.below hb03 (Nat.le_refl _)) hf hn).mono ?_
  rintro e w4 ⟨y, rfl, hy, hb4⟩
  have hs4 := hb4.size
  have hb24 : Below w2.heap.size w2 w4 := hb3.trans (hb4.mono (by omega))
  have hb04 : Below w.heap.size w w4 := hb03.trans (hb4.mono (by omega))
  have hg04 : Blk w4 g0 5 (l ++ a5) := hg02.below hb24 (by omega)
  have hg14 : Blk w4 g1 5 (c ++ a5) := hg1.below hb24 (by omega)
  go_wp2_with fail
  refine (lay_any _ _ l c _ _ f w4 (lentArg hg04 (by omega)).src (lentArg hg14 (by omega)).src (by omega) (by omega) hf).mono ?_
  rintro e w5 ⟨p, rfl, hp, hb5⟩
  have hs5 := hb5.size
  have hb05 : Below w.heap.size w w5 := hb04.trans (hb5.mono (by omega))
  go_wp2_with fail
  refine (rlay_any sp sc l c cap cc f w5 (ha.below hb05 (Nat.le_refl _)) (hc.below hb05 (Nat.le_refl _)) hf).mono ?_
  rintro e w6 ⟨q, rfl, hq, hb6⟩
  have hs6 := hb6.size
  have hb46 : Below w4.heap.size w4 w6 := hb5.trans (hb6.mono (by omega))
  have hb06 : Below w.heap.size w w6 := hb05.trans (hb6.mono (by omega))
  have hg06 : Blk w6 g0 5 (l ++ a5) := hg04.below hb46 (by omega)
  have hg16 : Blk w6 g1 5 (c ++ a5) := hg14.below hb46 (by omega)
  go_wp2_with fail
  refine (diff_any _ _ l c _ _ w6 (lentArg hg06 (by omega)).src (lentArg hg16 (by omega)).src (by omega) (by omega)).mono ?_
  rintro e w7 ⟨rfl, hb7⟩
  have hs7 := hb7.size
  have hb07 : Below w.heap.size w w7 := hb06.trans (hb7.mono (by omega))
  go_wp2_with fail
  refine (rdiff_any sp sc l c cap cc w7 (ha.src.below hb07 (Nat.le_refl _)) (hc.src.below hb07 (Nat.le_refl _)) (by omega) (by omega)).mono ?_
  rintro e w8 ⟨rfl, hb8⟩
  have hs8 := hb8.size
  have hb08 : Below w.heap.size w w8 := hb07.trans (hb8.mono (by omega))
  have hb68 : Below w6.heap.size w6 w8 := hb7.trans (hb8.mono (by omega))
  have hb58 : Below w5.heap.size w5 w8 := hb6.trans (hb68.mono (by omega))
  have hb48 : Below w4.heap.size w4 w8 := hb5.trans (hb58.mono (by omega))
  have hb38 : Below w3.heap.size w3 w8 := hb4.trans (hb48.mono (by omega))
  have hg08 : Blk w8 g0 5 (l ++ a5) := hg06.below hb68 (by omega)
  have hg18 : Blk w8 g1 5 (c ++ a5) := hg16.below hb68 (by omega)
  have hx8 : Own w8 w2.heap.size x (cutL l f n) := hx.below hb38 (Nat.le_refl _)
  have hy8 : Own w8 w3.heap.size y (cutL l f n) := hy.below hb48 (Nat.le_refl _)
  have hp8 : Own w8 w4.heap.size p (layL l f c) := hp.below hb58 (Nat.le_refl _)
  have hq8 : Own w8 w5.heap.size q (layL l f c) := hq.below hb68 (Nat.le_refl _)
  have SX := spoil_any _ x _ w8 hx8 (by omega)
  have SP := fun wx (h : Own wx w4.heap.size p (layL l f c)) => spoil_any _ p _ wx h (by omega)
  have hxl := hx.lt
  have hpl := hp.lt
  have hxy : p.ownBlock = none ∨ p.ownBlock ≠ x.ownBlock := by
    cases hpo : p.ownBlock with
    | none => exact .inl rfl
    | some k =>
      right; intro he
      have h1 := hpl k hpo
      have h2 := hxl k he.symm
      omega
  obtain ⟨ax, cx, hfx, hsx, _⟩ := hx8.form
  obtain ⟨ay, cy, hfy, hsy, _⟩ := hy8.form
  obtain ⟨ap, cp, hfp, hsp, _⟩ := hp8.form
  obtain ⟨aq, cq, hfq, hsq, _⟩ := hq8.form
  have k1 : Sem.run Tryd.prog (convert 23 9 x) w8 = .ok (.string (str (cutL l f n))) w8 := by rw [hfx]; exact conv_str hsx _ _ rfl
  have k2 : Sem.run Tryd.prog (convert 23 9 y) w8 = .ok (.string (str (cutL l f n))) w8 := by rw [hfy]; exact conv_str hsy _ _ rfl
  have k3 : Sem.run Tryd.prog (convert 23 9 p) w8 = .ok (.string (str (layL l f c))) w8 := by rw [hfp]; exact conv_str hsp _ _ rfl
  have k4 : Sem.run Tryd.prog (convert 23 9 q) w8 = .ok (.string (str (layL l f c))) w8 := by rw [hfq]; exact conv_str hsq _ _ rfl
  clear hfx hfy hfp hfq hsx hsy hsp hsq hg0 hg1 hg02 hg04 hg14 hg06 hg16 hx hy hp hq
  clear hxl hpl
  go_wp2_with fail
  refine SX.mono ?_
  rintro e w9 ⟨rfl, hgx⟩
  have hp9 := hp8.kept hgx hxy
  have hb9 : Below w2.heap.size w8 w9 := (Below.refl _ _).grown hgx (by omega) (fun k hk => (hx8.lt k hk).1)
  clear SX hgx
  go_wp2_with fail
  refine (SP w9 hp9).mono ?_
  rintro e w10 ⟨rfl, hgp⟩
  have hs9 := hb9.size
  have hb10 : Below w2.heap.size w8 w10 := hb9.trans ((Below.refl _ _).grown hgp (by omega) (fun k hk => by have := (hp9.lt k hk).1; omega))
  have hs10 := hb10.size
  clear SP hgp hb9 hp9 hx8 hy8 hp8 hq8 k1 k2 k3 k4
  have hb010 : Below w.heap.size w w10 := hb08.trans (hb10.mono (by omega))
  have hg010 : Blk w10 g0 5 (l ++ a5) := hg08.below hb10 (by omega)
  have hg110 : Blk w10 g1 5 (c ++ a5) := hg18.below hb10 (by omega)
  go_wp2_with fail
  refine (kept_any g0 sp cap l w10 hg010 (ha.below hb010 (Nat.le_refl _))).mono ?_
  rintro e w11 ⟨rfl, hb11⟩
  have hs11 := hb11.size
  have hb011 : Below w.heap.size w w11 := hb010.trans (hb11.mono (by omega))
  have hg111 : Blk w11 g1 5 (c ++ a5) := hg110.below hb11 (by omega)
  go_wp2_with fail
  refine (kept_any g1 sc cc c w11 hg111 (hc.below hb011 (Nat.le_refl _))).mono ?_
  rintro e w12 ⟨rfl, hb12⟩
  have hs12 := hb12.size
  have hb012 : Below w.heap.size w w12 := hb011.trans (hb12.mono (by omega))
  go_wp2_with fail
  refine (known_any w12 (ht.below hb012 hw0)).mono ?_
  rintro e w13 ⟨rfl, hb13⟩
  go_wp2
  go_ret
  exact ⟨rfl, hb012.trans (hb13.mono (by omega))⟩
end Go.Proofs.YtmedfjodkeplfaaDoor
