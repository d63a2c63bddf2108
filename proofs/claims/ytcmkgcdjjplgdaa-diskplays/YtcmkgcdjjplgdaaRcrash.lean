/- The document's Crash. -/
import Derived.Test.YtcmkgcdjjplgdaaRwrite
namespace Go.Proofs.Ytcmkgcdjjplgdaa
open Go.RowKit
/-- The version that is kept. -/
theorem kept_at (s : List UInt8) (l : List (List UInt8)) (k : Nat) (hk : k ≤ l.length) : (s :: l)[k]? = some (lastOf s (l.take k)) := by
  cases k with
  | zero => rfl
  | succ j => rw [lastOf_snoc s l j (by omega)]; simp [show j < l.length by omega]
theorem pick_set {w : World} {q : Nat} {sp : Option Addr} {m : Nat} {pk : Nat → Int} (h : PickAt w q sp m pk) (o : Nat) (v : Value) : PickAt (w.setCell ⟨q, o, none⟩ v) q sp m pk := fun hm => by
  obtain ⟨g, off, e, hg, hl, hc⟩ := h hm
  exact ⟨g, off, e, hg, by simpa [World.setCell] using hl, fun k hk => (World.cell?_setCell_other _ _ _ _ (by intro e; exact hg (congrArg Addr.block e).symm)).trans (hc k hk)⟩
structure XC (W : World) (r gb n cb gl k b vb kk : Nat) (y : List UInt8) : Prop where
  c0 : W.cell? ⟨r, 0, none⟩ = some (.slice (some ⟨gb, 0, none⟩) n cb)
  cl : W.cell? ⟨gl, k, none⟩ = some (.int .i64 (b : Int))
  cs : W.cell? ⟨vb, kk, none⟩ = some (.string (str y))
section
variable {w : World} {base r n : Nat} {held : Bool} {left : Int} {gb cb : Nat} {va vc : Nat → Nat} {sf : Nat → List UInt8} {ws : Nat → List (List UInt8)} {ver : Nat → List (List UInt8)}
theorem RefW.congr (h : RefW w base r n held left ver gb cb va vc) {ver2 : Nat → List (List UInt8)} (e : ver = ver2) : RefW w base r n held left ver2 gb cb va vc := by rw [← e]; exact h
attribute [local go_sem] wrapI
set_option maxRecDepth 100000 in
set_option maxHeartbeats 8000000 in
theorem rcrash_any (h : RefW w base r n held left (fun i => sf i :: ws i) gb cb va vc) (sp : Option Addr) (m cap : Nat) (pk : Nat → Int) (hpk : PickAt w gb sp m pk) (hm : m ≤ cap ∧ (cap : Int) ≤ 9223372036854775807) (L : List Nat) (hL : L = openL ws n) :
    Calls Try.prog 39 #[.pointer (some ⟨r, 0, none⟩), .slice sp m cap] w fun e w' => e = .returned (.tuple #[]) ∧ (∃ va', (∃ vc', RefW w' base r n false 0 (fun i => (setS L (keepN m pk) sf ws L.length).1 i :: (setS L (keepN m pk) sf ws L.length).2 i) gb cb va' vc') ∧ VA w n va va') ∧ Fr (RG r gb) w w' := by
  have hLl := openL_lt ws n
  have hLn : L.length ≤ n := by rw [hL]; exact openL_len ws n
  rw [← hL] at hLl
  have OPEN := ropen_any h.at' ws (fun i _ => by simp)
  rw [← hL] at OPEN
  have H : Hid _ := h
  have HPK : Hid (PickAt w gb sp m pk) := hpk
  have hgw := h.at'.gl
  have hrw := h.rl
  have hnn : (n : Int) ≤ 4096 := by have := h.at'.nn; omega
  clear hL h hpk
  go_enter Try.func39, Try.ntmps39
  go_wp2_with fail
  refine OPEN.mono ?_
  rintro e w3 ⟨v, rfl, hown, hb3⟩
  clear OPEN
  have H3 : Hid (RefW w3 base r n held left (fun i => (setS L (keepN m pk) sf ws 0).1 i :: (setS L (keepN m pk) sf ws 0).2 i) gb cb va vc) := H.out.below hb3
  have HP3 : Hid (PickAt w3 gb sp m pk) := HPK.out.below hb3
  have HF3 : Hid (Fr (RG r gb) w w3) := Fr.of_below hb3
  have HO3 : Hid (OwnI w3 w.heap.size v L) := hown
  obtain ⟨ao, ac, rfl, hac, hao, _⟩ := hown.form
  clear H HPK hb3 hown
  go_wp2_with fail
  go_loopw [5] (fun s wr => ∃ (k : Nat) (va' vc' : Nat → Nat), k ≤ L.length ∧ s = .int .i64 k ∧ Hid (RefW wr base r n held left (fun i => (setS L (keepN m pk) sf ws k).1 i :: (setS L (keepN m pk) sf ws k).2 i) gb cb va' vc') ∧ Hid (VA w n va va') ∧ Hid (Fr (RG r gb) w wr) ∧ Hid (PickAt wr gb sp m pk) ∧ Hid (OwnI wr w.heap.size (.slice ao L.length ac) L)) (fun s _ => L.length - (intOf s).toNat)
  case atStart => exact ⟨0, va, vc, by omega, rfl, H3, fun _ _ => .inl rfl, HF3, HP3, HO3⟩
  case round =>
    obtain ⟨k, va', vc', hk, rfl, HR, HV, HF, HP, HO⟩ := hrel
    clear H3 HF3 HP3 HO3
    by_cases hlt : (k : Int) < L.length
    · obtain ⟨gl, rfl⟩ := hao (by omega)
      obtain ⟨ao', ac', e, _, _, hcell⟩ := HO.out.form
      cases e
      have cL := hcell k (by omega) gl rfl
      clear hcell
      have hb : L.getD k 0 < n := by
        have hk' : k < L.length := by omega
        have hm : L.getD k 0 ∈ L := by rw [List.getD_eq_getElem?_getD, List.getElem?_eq_getElem hk']; exact List.getElem_mem hk'
        exact (hLl _ hm).1
      have hsucc : Hid (setS L (keepN m pk) sf ws (k + 1) = (upd (setS L (keepN m pk) sf ws k).1 (L.getD k 0) (lastOf ((setS L (keepN m pk) sf ws k).1 (L.getD k 0)) (((setS L (keepN m pk) sf ws k).2 (L.getD k 0)).take (keepN m pk k ((setS L (keepN m pk) sf ws k).2 (L.getD k 0))))), upd (setS L (keepN m pk) sf ws k).2 (L.getD k 0) [])) := rfl
      generalize hT2 : setS L (keepN m pk) sf ws (k + 1) = T2 at *
      have HT2 : Hid (setS L (keepN m pk) sf ws (k + 1) = T2) := hT2
      clear hT2
      generalize setS L (keepN m pk) sf ws k = T at *
      generalize L.getD k 0 = b at *
      have hkk := keepN_le m pk k (T.2 b)
      have hrow := HR.out.at'.row b hb
      obtain ⟨cg, va_lt, _, hlen6, hlc, _⟩ := hrow
      have cs : wr.cell? ⟨va' b, keepN m pk k (T.2 b), none⟩ = some (.string (str (lastOf (T.1 b) ((T.2 b).take (keepN m pk k (T.2 b)))))) := by
        have h1 : keepN m pk k (T.2 b) < (T.1 b :: T.2 b).length := by simp; omega
        have h2 := kept_at (T.1 b) (T.2 b) _ hkk
        rw [List.getElem?_eq_getElem h1] at h2
        rw [HR.out.at'.vers b hb _ h1, Option.some.inj h2]
      have hbi : (b : Int) < n := by omega
      have WR : Calls Try.prog 45 #[.pointer (some ⟨r, 0, none⟩), .int .i64 (b : Int)] wr fun e w' => e = .returned (.int .i64 ((T.2 b).length : Int)) ∧ wr = w' := by
        have h := rwrites_in HR.out.at' b hb
        refine h.mono fun e w' ⟨h1, h2⟩ => ⟨by rw [h1]; simp, h2.symm⟩
      have hlen : (T.1 b :: T.2 b).length = (T.2 b).length + 1 := by simp
      rw [hlen] at cg hlen6
      have hcase : ((k : Int) < m ∧ 0 < pk k ∧ ¬ (((T.2 b).length : Nat) : Int) < pk k ∧ ((keepN m pk k (T.2 b) : Nat) : Int) = pk k) ∨ ((k : Int) < m ∧ 0 < pk k ∧ (((T.2 b).length : Nat) : Int) < pk k ∧ keepN m pk k (T.2 b) = (T.2 b).length) ∨ ((k : Int) < m ∧ ¬ 0 < pk k ∧ keepN m pk k (T.2 b) = 0) ∨ (¬ (k : Int) < m ∧ keepN m pk k (T.2 b) = 0) := by
        unfold keepN
        by_cases hkm : k < m
        · rw [if_pos hkm]; omega
        · rw [if_neg hkm]; omega
      have hSV := fun (W : World) (hW : RefW W base r n held left (fun i => T.1 i :: T.2 i) gb cb va' vc') (g : Nat) (y : List UInt8) (hgl : g < W.heap.size) (h1 : g ≠ r) (h2 : g ≠ gb) (hc : W.cell? ⟨g, 0, none⟩ = some (.string (str y))) => hW.setV b hb [y] g 1 (by simp) hgl h1 h2 (fun j hj => by
        have : j = 0 := by simp at hj; omega
        subst this; exact hc)
      have HS : Hid _ := hSV
      have hvne := HR.out.ar b hb
      have hszr : w.heap.size ≤ wr.heap.size := HF.out.size
      have hl0 : ¬ (((T.2 b).length : Nat) : Int) < 0 := by omega
      have HKK : Hid (keepN m pk k (T.2 b) ≤ (T.2 b).length) := hkk
      obtain ⟨y, hy⟩ : ∃ y, y = lastOf (T.1 b) ((T.2 b).take (keepN m pk k (T.2 b))) := ⟨_, rfl⟩
      have HY : Hid (lastOf (T.1 b) ((T.2 b).take (keepN m pk k (T.2 b))) = y) := hy.symm
      rw [← hy] at cs
      obtain ⟨kk, hkq⟩ : ∃ kk, kk = keepN m pk k (T.2 b) := ⟨_, rfl⟩
      rw [← hkq] at cs hcase hkk
      have c0 := HR.out.at'.c0
      have hcp : (k : Int) < m → ∃ gp op, sp = some ⟨gp, op, none⟩ ∧ wr.cell? ⟨gp, op + k, none⟩ = some (.int .i64 (pk k)) := fun h => by
        obtain ⟨gp, op, e, _, _, hpc⟩ := HP.out (by omega)
        exact ⟨gp, op, e, hpc k (by omega)⟩
      have hkl : (kk : Int) < ((T.2 b).length : Int) + 1 := by omega
      have ikk : In64 (kk : Int) := ⟨by omega⟩
      clear hSV hlen hy hkq
      have hgl2 : gl < wr.heap.size := block_lt_of_cell cL
      rcases hcase with ⟨hA1, hA2, hA3, hA4⟩ | ⟨hA1, hA2, hA3, hA4⟩ | ⟨hA1, hA2, hA4⟩ | ⟨hA1, hA4⟩
      · obtain ⟨gp, op, rfl, cp⟩ := hcp hA1
        rw [← hA4] at cp hA2 hA3
        clear hA4 hcp
        go_wp2_with fail
        refine WR.mono ?_
        rintro e w4 ⟨rfl, rfl⟩
        clear WR
        go_wp2_with fail
        have hS0 : XC wr.drew r gb n cb gl k b (va' b) (kk) y := ⟨c0, cL, cs⟩
        have cgd : wr.drew.cell? ⟨gb, b, none⟩ = some (.slice (some ⟨va' b, 0, none⟩) ((T.2 b).length + 1) (vc' b)) := cg
        refine wp_region_held_drew (S := (fun W => XC W r gb n cb gl k b (va' b) (kk) y)) (by kernel_rfl) hS0 (fun hH => ?_)
        refine takeH (i := 0) (dst := some 44) (v := ?v1) rfl rfl (by kernel_rfl) (by kernel_rfl) (by kernel_rfl) (fun _ _ _ h => h) rfl ?hy1 hH rfl ?rest1
        case hy1 => (intro W hW; have q0 := hW.c0; have q1 := hW.cl; have q2 := hW.cs; clear hW; go_simp; try with_reducible rfl)
        (try simp only [Act.put, List.setIfInBounds_toArray, List.set_cons_zero, List.set_cons_succ])
        refine takeH (i := 1) (dst := some 45) (v := ?v2) rfl rfl (by kernel_rfl) (by kernel_rfl) (by kernel_rfl) (fun _ _ _ h => h) rfl ?hy2 hH rfl ?rest2
        case hy2 => (intro W hW; have q0 := hW.c0; have q1 := hW.cl; have q2 := hW.cs; clear hW; go_simp; try with_reducible rfl)
        (try simp only [Act.put, List.setIfInBounds_toArray, List.set_cons_zero, List.set_cons_succ])
        refine takeH (i := 2) (dst := some 46) (v := ?v3) rfl rfl (by kernel_rfl) (by kernel_rfl) (by kernel_rfl) (fun _ _ _ h => h) rfl ?hy3 hH rfl ?rest3
        case hy3 => (intro W hW; have q0 := hW.c0; have q1 := hW.cl; have q2 := hW.cs; clear hW; go_simp; try with_reducible rfl)
        (try simp only [Act.put, List.setIfInBounds_toArray, List.set_cons_zero, List.set_cons_succ])
        refine takeH (i := 3) (dst := some 47) (v := ?v4) rfl rfl (by kernel_rfl) (by kernel_rfl) (by kernel_rfl) (fun _ _ _ h => h) rfl ?hy4 hH rfl ?rest4
        case hy4 => (intro W hW; have q0 := hW.c0; have q1 := hW.cl; have q2 := hW.cs; clear hW; go_simp; try with_reducible rfl)
        (try simp only [Act.put, List.setIfInBounds_toArray, List.set_cons_zero, List.set_cons_succ])
        refine takeH (i := 4) (dst := some 48) (v := ?v5) rfl rfl (by kernel_rfl) (by kernel_rfl) (by kernel_rfl) (fun _ _ _ h => h) rfl ?hy5 hH rfl ?rest5
        case hy5 => (intro W hW; have q0 := hW.c0; have q1 := hW.cl; have q2 := hW.cs; clear hW; go_simp; try with_reducible rfl)
        (try simp only [Act.put, List.setIfInBounds_toArray, List.set_cons_zero, List.set_cons_succ])
        refine takeH (i := 5) (dst := some 49) (v := ?v6) rfl rfl (by kernel_rfl) (by kernel_rfl) (by kernel_rfl) (fun _ _ _ h => h) rfl ?hy6 hH rfl ?rest6
        case hy6 => (intro W hW; have q0 := hW.c0; have q1 := hW.cl; have q2 := hW.cs; clear hW; go_simp; try with_reducible rfl)
        (try simp only [Act.put, List.setIfInBounds_toArray, List.set_cons_zero, List.set_cons_succ])
        refine takeH (i := 6) (dst := some 50) (v := ?v7) rfl rfl (by kernel_rfl) (by kernel_rfl) (by kernel_rfl) (fun _ _ _ h => h) rfl ?hy7 hH rfl ?rest7
        case hy7 => (intro W hW; have q0 := hW.c0; have q1 := hW.cl; have q2 := hW.cs; clear hW; go_simp; try with_reducible rfl)
        (try simp only [Act.put, List.setIfInBounds_toArray, List.set_cons_zero, List.set_cons_succ])
        refine takeH (i := 7) (dst := some 51) (v := ?v8) rfl rfl (by kernel_rfl) (by kernel_rfl) (by kernel_rfl) (fun _ _ _ h => h) rfl ?hy8 hH rfl ?rest8
        case hy8 => (intro W hW; have q0 := hW.c0; have q1 := hW.cl; have q2 := hW.cs; clear hW; go_simp; try with_reducible rfl)
        (try simp only [Act.put, List.setIfInBounds_toArray, List.set_cons_zero, List.set_cons_succ])
        refine takeH (i := 8) (dst := some 52) (v := ?v9) rfl rfl (by kernel_rfl) (by kernel_rfl) (by kernel_rfl) (fun _ _ _ h => h) rfl ?hy9 hH rfl ?rest9
        case hy9 => (intro W hW; have q0 := hW.c0; have q1 := hW.cl; have q2 := hW.cs; clear hW; go_simp; try with_reducible rfl)
        (try simp only [Act.put, List.setIfInBounds_toArray, List.set_cons_zero, List.set_cons_succ])
        refine takeH (i := 9) (dst := some 53) (v := ?v10) rfl rfl (by kernel_rfl) (by kernel_rfl) (by kernel_rfl) (fun _ _ _ h => h) rfl ?hy10 hH rfl ?rest10
        case hy10 => (intro W hW; have q0 := hW.c0; have q1 := hW.cl; have q2 := hW.cs; clear hW; go_simp; try with_reducible rfl)
        (try simp only [Act.put, List.setIfInBounds_toArray, List.set_cons_zero, List.set_cons_succ])
        refine takeH (i := 10) (dst := some 54) (v := ?v11) rfl rfl (by kernel_rfl) (by kernel_rfl) (by kernel_rfl) (fun _ _ _ h => h) rfl ?hy11 hH rfl ?rest11
        case hy11 => (intro W hW; have q0 := hW.c0; have q1 := hW.cl; have q2 := hW.cs; clear hW; go_simp; try with_reducible rfl)
        (try simp only [Act.put, List.setIfInBounds_toArray, List.set_cons_zero, List.set_cons_succ])
        refine takeH (i := 11) (dst := some 55) (v := ?v12) rfl rfl (by kernel_rfl) (by kernel_rfl) (by kernel_rfl) (fun _ _ _ h => h) rfl ?hy12 hH rfl ?rest12
        case hy12 => (intro W hW; have q0 := hW.c0; have q1 := hW.cl; have q2 := hW.cs; clear hW; go_simp; try with_reducible rfl)
        (try simp only [Act.put, List.setIfInBounds_toArray, List.set_cons_zero, List.set_cons_succ])
        refine takeH (i := 12) (dst := some 56) (v := ?v13) rfl rfl (by kernel_rfl) (by kernel_rfl) (by kernel_rfl) (fun _ _ _ h => h) rfl ?hy13 hH rfl ?rest13
        case hy13 => (intro W hW; have q0 := hW.c0; have q1 := hW.cl; have q2 := hW.cs; clear hW; go_simp; try with_reducible rfl)
        (try simp only [Act.put, List.setIfInBounds_toArray, List.set_cons_zero, List.set_cons_succ])
        refine takeH (i := 13) (dst := some 57) (v := ?v14) rfl rfl (by kernel_rfl) (by kernel_rfl) (by kernel_rfl) (fun _ _ _ h => h) rfl ?hy14 hH rfl ?rest14
        case hy14 => (intro W hW; have q0 := hW.c0; have q1 := hW.cl; have q2 := hW.cs; clear hW; go_simp; try with_reducible rfl)
        (try simp only [Act.put, List.setIfInBounds_toArray, List.set_cons_zero, List.set_cons_succ])
        refine takeH (i := 14) (dst := some 58) (v := ?v15) rfl rfl (by kernel_rfl) (by kernel_rfl) (by kernel_rfl) (fun _ _ _ h => h) rfl ?hy15 hH rfl ?rest15
        case hy15 => (intro W hW; have q0 := hW.c0; have q1 := hW.cl; have q2 := hW.cs; clear hW; go_simp; try with_reducible rfl)
        (try simp only [Act.put, List.setIfInBounds_toArray, List.set_cons_zero, List.set_cons_succ])
        refine takeH (i := 15) (dst := some 59) (v := ?v16) rfl rfl (by kernel_rfl) (by kernel_rfl) (by kernel_rfl) (fun _ _ _ h => h) rfl ?hy16 hH rfl ?rest16
        case hy16 => (intro W hW; have q0 := hW.c0; have q1 := hW.cl; have q2 := hW.cs; clear hW; go_simp; try with_reducible rfl)
        (try simp only [Act.put, List.setIfInBounds_toArray, List.set_cons_zero, List.set_cons_succ])
        refine takeH (i := 16) (dst := some 60) (v := ?v17) rfl rfl (by kernel_rfl) (by kernel_rfl) (by kernel_rfl) (fun _ _ _ h => h) rfl ?hy17 hH rfl ?rest17
        case hy17 => (intro W hW; have q0 := hW.c0; have q1 := hW.cl; have q2 := hW.cs; clear hW; go_simp; try with_reducible rfl)
        (try simp only [Act.put, List.setIfInBounds_toArray, List.set_cons_zero, List.set_cons_succ])
        refine takeH (i := 17) (dst := some 61) (v := ?v18) rfl rfl (by kernel_rfl) (by kernel_rfl) (by kernel_rfl) (fun _ _ _ h => h) rfl ?hy18 hH rfl ?rest18
        case hy18 => (intro W hW; have q0 := hW.c0; have q1 := hW.cl; have q2 := hW.cs; clear hW; go_simp; try with_reducible rfl)
        (try simp only [Act.put, List.setIfInBounds_toArray, List.set_cons_zero, List.set_cons_succ])
        refine takeH (i := 19) (dst := some 63) (v := ?v19) rfl rfl (by kernel_rfl) (by kernel_rfl) (by kernel_rfl) (fun _ _ _ h => h) rfl ?hy19 hH rfl ?rest19
        case hy19 => (intro W hW; have q0 := hW.c0; have q1 := hW.cl; have q2 := hW.cs; clear hW; go_simp; try with_reducible rfl)
        (try simp only [Act.put, List.setIfInBounds_toArray, List.set_cons_zero, List.set_cons_succ])
        refine callH (i := 18) { dst := some 62, op := Go.Op.load 65 (Go.Operand.tmp 61), type := 65, pos := "ref.go:145", after := #[{ on := 17, ground := Go.Ground.data }], guard := none } (by kernel_rfl) rfl rfl (fun K hK => ?_)
        go_simp
        have hS1 := hS0
        clear hH
        refine hK.out _ _ hS1 (fun hH => ?_)
        clear hK K
        (try simp only [Act.put, List.setIfInBounds_toArray, List.set_cons_zero, List.set_cons_succ])
        refine takeH (i := 20) (dst := some 64) (v := ?v20) rfl rfl (by kernel_rfl) (by kernel_rfl) (by kernel_rfl) (fun _ _ _ h => h) rfl ?hy20 hH rfl ?rest20
        case hy20 => (intro W hW; have q0 := hW.c0; have q1 := hW.cl; have q2 := hW.cs; clear hW; go_simp; try with_reducible rfl)
        (try simp only [Act.put, List.setIfInBounds_toArray, List.set_cons_zero, List.set_cons_succ])
        refine takeH (i := 21) (dst := some 65) (v := ?v21) rfl rfl (by kernel_rfl) (by kernel_rfl) (by kernel_rfl) (fun _ _ _ h => h) rfl ?hy21 hH rfl ?rest21
        case hy21 => (intro W hW; have q0 := hW.c0; have q1 := hW.cl; have q2 := hW.cs; clear hW; go_simp; try with_reducible rfl)
        (try simp only [Act.put, List.setIfInBounds_toArray, List.set_cons_zero, List.set_cons_succ])
        refine callH (i := 22) { dst := some 66, op := Go.Op.buildSlice 65 1 #[(0, Go.Operand.tmp 65)], type := 65, pos := "ref.go:145", after := #[{ on := 21, ground := Go.Ground.data }], guard := none } (by kernel_rfl) rfl rfl (fun K hK => ?_)
        go_simp
        have X1 : XC (wr.alloc (.cells #[.string (str y)] 9)).drew r gb n cb gl k b (va' b) (kk) y := ⟨(World.cell?_alloc_lt _ _ _ (show r < wr.heap.size by omega)).trans c0, (World.cell?_alloc_lt _ _ _ hgl2).trans cL, (World.cell?_alloc_lt _ _ _ va_lt).trans cs⟩
        clear hH
        refine hK.out _ _ X1 (fun hH => ?_)
        clear hK K
        (try simp only [Act.put, List.setIfInBounds_toArray, List.set_cons_zero, List.set_cons_succ])
        refine takeH (i := 23) (dst := some 67) (v := ?v22) rfl rfl (by kernel_rfl) (by kernel_rfl) (by kernel_rfl) (fun _ _ _ h => h) rfl ?hy22 hH rfl ?rest22
        case hy22 => (intro W hW; have q0 := hW.c0; have q1 := hW.cl; have q2 := hW.cs; clear hW; go_simp; try with_reducible rfl)
        (try simp only [Act.put, List.setIfInBounds_toArray, List.set_cons_zero, List.set_cons_succ])
        refine takeH (i := 24) (dst := some 68) (v := ?v23) rfl rfl (by kernel_rfl) (by kernel_rfl) (by kernel_rfl) (fun _ _ _ h => h) rfl ?hy23 hH rfl ?rest23
        case hy23 => (intro W hW; have q0 := hW.c0; have q1 := hW.cl; have q2 := hW.cs; clear hW; go_simp; try with_reducible rfl)
        (try simp only [Act.put, List.setIfInBounds_toArray, List.set_cons_zero, List.set_cons_succ])
        have cg1 : (wr.alloc (.cells #[.string (str y)] 9)).drew.cell? ⟨gb, b, none⟩ = some (.slice (some ⟨va' b, 0, none⟩) ((T.2 b).length + 1) (vc' b)) := (World.cell?_alloc_lt _ _ _ (show gb < wr.heap.size by omega)).trans cg
        have fg1 : (wr.alloc (.cells #[.string (str y)] 9)).drew.frozen? ⟨gb, b, none⟩ = false := (HR.out.below (((Below.refl _ wr).alloc (Nat.le_refl _) _).drew)).fg b
        refine callH (i := 25) { dst := none, op := Go.Op.store 65 (Go.Operand.tmp 68) (Go.Operand.tmp 66), type := 0, pos := "ref.go:145", after := #[{ on := 24, ground := Go.Ground.data }, { on := 22, ground := Go.Ground.data }, { on := 0, ground := Go.Ground.phase }, { on := 1, ground := Go.Ground.phase }, { on := 2, ground := Go.Ground.phase }, { on := 3, ground := Go.Ground.phase }, { on := 4, ground := Go.Ground.phase }, { on := 5, ground := Go.Ground.phase }, { on := 6, ground := Go.Ground.phase }, { on := 7, ground := Go.Ground.phase }, { on := 8, ground := Go.Ground.phase }, { on := 9, ground := Go.Ground.phase }, { on := 10, ground := Go.Ground.phase }, { on := 11, ground := Go.Ground.phase }, { on := 12, ground := Go.Ground.phase }, { on := 13, ground := Go.Ground.phase }, { on := 14, ground := Go.Ground.phase }, { on := 15, ground := Go.Ground.phase }, { on := 16, ground := Go.Ground.phase }, { on := 17, ground := Go.Ground.phase }, { on := 18, ground := Go.Ground.phase }, { on := 19, ground := Go.Ground.phase }, { on := 20, ground := Go.Ground.phase }, { on := 21, ground := Go.Ground.phase }, { on := 22, ground := Go.Ground.phase }], guard := none } (by kernel_rfl) rfl rfl (fun K hK => ?_)
        go_simp
        have al : Below wr.heap.size wr (wr.alloc (.cells #[.string (str y)] 9)).drew := ((Below.refl _ wr).alloc (Nat.le_refl _) _).drew
        have R1 := HR.out.below al
        have hz2 : (wr.alloc (.cells #[.string (str y)] 9)).drew.heap.size = wr.heap.size + 1 := by show (wr.heap.push _).size = _; simp
        have R2 := HS.out _ R1 wr.heap.size y (by omega) (by omega) (by omega) ((cell_of_row (wr.alloc (.cells #[.string (str y)] 9)) wr.heap.size 0 #[.string (str y)] 9 (0, 0) (heap_alloc_new wr _)).trans rfl)
        have F1 : Fr (RG r gb) w ((wr.alloc (.cells #[.string (str y)] 9)).drew.setCell ⟨gb, b, none⟩ (.slice (some ⟨wr.heap.size, 0, none⟩) 1 1)) := (HF.out.trans (Fr.of_below al)).setCell gb b _ (.inr rfl)
        have P1 : PickAt ((wr.alloc (.cells #[.string (str y)] 9)).drew.setCell ⟨gb, b, none⟩ (.slice (some ⟨wr.heap.size, 0, none⟩) 1 1)) gb (some ⟨gp, op, none⟩) m pk := pick_set (HP.out.below al) b _
        have O1 : OwnI ((wr.alloc (.cells #[.string (str y)] 9)).drew.setCell ⟨gb, b, none⟩ (.slice (some ⟨wr.heap.size, 0, none⟩) 1 1)) w.heap.size (.slice (some ⟨gl, 0, none⟩) L.length ac) L := ownsRow_setCell_below (owns_below HO.out al (Nat.le_refl _)) (a := ⟨gb, b, none⟩) (show gb < w.heap.size by omega) _
        have hglb : gl ≠ gb := by
          intro e
          obtain ⟨o1, o2⟩ := HO.out
          rcases o2 with ⟨h, _⟩ | ⟨g, _, _, hv, hg, _⟩
          · cases h
          · cases hv; omega
        have X2 : XC ((wr.alloc (.cells #[.string (str y)] 9)).drew.setCell ⟨gb, b, none⟩ (.slice (some ⟨wr.heap.size, 0, none⟩) 1 1)) r gb n cb gl k b (va' b) (kk) y := ⟨(World.cell?_setCell_other _ _ _ _ (by intro e; exact HR.out.rg (congrArg Addr.block e).symm)).trans X1.c0, (World.cell?_setCell_other _ _ _ _ (by intro e; exact hglb (congrArg Addr.block e).symm)).trans X1.cl, (World.cell?_setCell_other _ _ _ _ (by intro e; exact hvne.2 (congrArg Addr.block e).symm)).trans X1.cs⟩
        clear hH
        refine hK.out _ _ X2 (fun hH => ?_)
        clear hK K
        (try simp only [Act.put, List.setIfInBounds_toArray, List.set_cons_zero, List.set_cons_succ])
        refine wpAnyH_done (by kernel_rfl) ?_ _
        clear hH
        have HR2 : Hid (RefW ((wr.alloc (.cells #[.string (str y)] 9)).drew.setCell ⟨gb, b, none⟩ (.slice (some ⟨wr.heap.size, 0, none⟩) 1 1)) base r n held left (fun i => T2.1 i :: T2.2 i) gb cb (updN va' b wr.heap.size) (updN vc' b 1)) := by
          refine RefW.congr R2 ?_
          funext j
          rw [hsucc.out]
          simp only [HY.out]
          unfold upd
          by_cases e : j = b
          · rw [if_pos e, if_pos e, if_pos e]
          · rw [if_neg e, if_neg e, if_neg e]
        have HV2 : Hid (VA w n va (updN va' b wr.heap.size)) := by
          intro j hj
          unfold updN
          by_cases e : j = b
          · rw [if_pos e]; exact .inr hszr
          · rw [if_neg e]; exact HV.out j hj
        have HF2 : Hid _ := F1
        have HP2 : Hid (PickAt _ _ _ _ _) := P1
        have HO2 : Hid (OwnI _ _ _ _) := O1
        clear R1 R2 F1 P1 O1 X1 X2 cg1 fg1 hz2 al HR HV HF HP HO HS hS0 hS1 c0 cs cg cL cgd HY hsucc
        go_wp2_with fail
        go_round
        case rel => exact ⟨k + 1, updN va' b wr.heap.size, updN vc' b 1, by omega, by go_num, by rw [HT2.out]; exact HR2.out, HV2, HF2, HP2, HO2⟩
        case measure => simp [intOf]; omega
      · obtain ⟨gp, op, rfl, cp⟩ := hcp hA1
        subst hA4
        clear hcp
        go_wp2_with fail
        refine WR.mono ?_
        rintro e w4 ⟨rfl, rfl⟩
        go_wp2_with fail
        refine WR.mono ?_
        rintro e w4 ⟨rfl, rfl⟩
        clear WR
        go_wp2_with fail
        have hS0 : XC wr.drew r gb n cb gl k b (va' b) ((T.2 b).length) y := ⟨c0, cL, cs⟩
        have cgd : wr.drew.cell? ⟨gb, b, none⟩ = some (.slice (some ⟨va' b, 0, none⟩) ((T.2 b).length + 1) (vc' b)) := cg
        refine wp_region_held_drew (S := (fun W => XC W r gb n cb gl k b (va' b) ((T.2 b).length) y)) (by kernel_rfl) hS0 (fun hH => ?_)
        refine takeH (i := 0) (dst := some 44) (v := ?v24) rfl rfl (by kernel_rfl) (by kernel_rfl) (by kernel_rfl) (fun _ _ _ h => h) rfl ?hy24 hH rfl ?rest24
        case hy24 => (intro W hW; have q0 := hW.c0; have q1 := hW.cl; have q2 := hW.cs; clear hW; go_simp; try with_reducible rfl)
        (try simp only [Act.put, List.setIfInBounds_toArray, List.set_cons_zero, List.set_cons_succ])
        refine takeH (i := 1) (dst := some 45) (v := ?v25) rfl rfl (by kernel_rfl) (by kernel_rfl) (by kernel_rfl) (fun _ _ _ h => h) rfl ?hy25 hH rfl ?rest25
        case hy25 => (intro W hW; have q0 := hW.c0; have q1 := hW.cl; have q2 := hW.cs; clear hW; go_simp; try with_reducible rfl)
        (try simp only [Act.put, List.setIfInBounds_toArray, List.set_cons_zero, List.set_cons_succ])
        refine takeH (i := 2) (dst := some 46) (v := ?v26) rfl rfl (by kernel_rfl) (by kernel_rfl) (by kernel_rfl) (fun _ _ _ h => h) rfl ?hy26 hH rfl ?rest26
        case hy26 => (intro W hW; have q0 := hW.c0; have q1 := hW.cl; have q2 := hW.cs; clear hW; go_simp; try with_reducible rfl)
        (try simp only [Act.put, List.setIfInBounds_toArray, List.set_cons_zero, List.set_cons_succ])
        refine takeH (i := 3) (dst := some 47) (v := ?v27) rfl rfl (by kernel_rfl) (by kernel_rfl) (by kernel_rfl) (fun _ _ _ h => h) rfl ?hy27 hH rfl ?rest27
        case hy27 => (intro W hW; have q0 := hW.c0; have q1 := hW.cl; have q2 := hW.cs; clear hW; go_simp; try with_reducible rfl)
        (try simp only [Act.put, List.setIfInBounds_toArray, List.set_cons_zero, List.set_cons_succ])
        refine takeH (i := 4) (dst := some 48) (v := ?v28) rfl rfl (by kernel_rfl) (by kernel_rfl) (by kernel_rfl) (fun _ _ _ h => h) rfl ?hy28 hH rfl ?rest28
        case hy28 => (intro W hW; have q0 := hW.c0; have q1 := hW.cl; have q2 := hW.cs; clear hW; go_simp; try with_reducible rfl)
        (try simp only [Act.put, List.setIfInBounds_toArray, List.set_cons_zero, List.set_cons_succ])
        refine takeH (i := 5) (dst := some 49) (v := ?v29) rfl rfl (by kernel_rfl) (by kernel_rfl) (by kernel_rfl) (fun _ _ _ h => h) rfl ?hy29 hH rfl ?rest29
        case hy29 => (intro W hW; have q0 := hW.c0; have q1 := hW.cl; have q2 := hW.cs; clear hW; go_simp; try with_reducible rfl)
        (try simp only [Act.put, List.setIfInBounds_toArray, List.set_cons_zero, List.set_cons_succ])
        refine takeH (i := 6) (dst := some 50) (v := ?v30) rfl rfl (by kernel_rfl) (by kernel_rfl) (by kernel_rfl) (fun _ _ _ h => h) rfl ?hy30 hH rfl ?rest30
        case hy30 => (intro W hW; have q0 := hW.c0; have q1 := hW.cl; have q2 := hW.cs; clear hW; go_simp; try with_reducible rfl)
        (try simp only [Act.put, List.setIfInBounds_toArray, List.set_cons_zero, List.set_cons_succ])
        refine takeH (i := 7) (dst := some 51) (v := ?v31) rfl rfl (by kernel_rfl) (by kernel_rfl) (by kernel_rfl) (fun _ _ _ h => h) rfl ?hy31 hH rfl ?rest31
        case hy31 => (intro W hW; have q0 := hW.c0; have q1 := hW.cl; have q2 := hW.cs; clear hW; go_simp; try with_reducible rfl)
        (try simp only [Act.put, List.setIfInBounds_toArray, List.set_cons_zero, List.set_cons_succ])
        refine takeH (i := 8) (dst := some 52) (v := ?v32) rfl rfl (by kernel_rfl) (by kernel_rfl) (by kernel_rfl) (fun _ _ _ h => h) rfl ?hy32 hH rfl ?rest32
        case hy32 => (intro W hW; have q0 := hW.c0; have q1 := hW.cl; have q2 := hW.cs; clear hW; go_simp; try with_reducible rfl)
        (try simp only [Act.put, List.setIfInBounds_toArray, List.set_cons_zero, List.set_cons_succ])
        refine takeH (i := 9) (dst := some 53) (v := ?v33) rfl rfl (by kernel_rfl) (by kernel_rfl) (by kernel_rfl) (fun _ _ _ h => h) rfl ?hy33 hH rfl ?rest33
        case hy33 => (intro W hW; have q0 := hW.c0; have q1 := hW.cl; have q2 := hW.cs; clear hW; go_simp; try with_reducible rfl)
        (try simp only [Act.put, List.setIfInBounds_toArray, List.set_cons_zero, List.set_cons_succ])
        refine takeH (i := 10) (dst := some 54) (v := ?v34) rfl rfl (by kernel_rfl) (by kernel_rfl) (by kernel_rfl) (fun _ _ _ h => h) rfl ?hy34 hH rfl ?rest34
        case hy34 => (intro W hW; have q0 := hW.c0; have q1 := hW.cl; have q2 := hW.cs; clear hW; go_simp; try with_reducible rfl)
        (try simp only [Act.put, List.setIfInBounds_toArray, List.set_cons_zero, List.set_cons_succ])
        refine takeH (i := 11) (dst := some 55) (v := ?v35) rfl rfl (by kernel_rfl) (by kernel_rfl) (by kernel_rfl) (fun _ _ _ h => h) rfl ?hy35 hH rfl ?rest35
        case hy35 => (intro W hW; have q0 := hW.c0; have q1 := hW.cl; have q2 := hW.cs; clear hW; go_simp; try with_reducible rfl)
        (try simp only [Act.put, List.setIfInBounds_toArray, List.set_cons_zero, List.set_cons_succ])
        refine takeH (i := 12) (dst := some 56) (v := ?v36) rfl rfl (by kernel_rfl) (by kernel_rfl) (by kernel_rfl) (fun _ _ _ h => h) rfl ?hy36 hH rfl ?rest36
        case hy36 => (intro W hW; have q0 := hW.c0; have q1 := hW.cl; have q2 := hW.cs; clear hW; go_simp; try with_reducible rfl)
        (try simp only [Act.put, List.setIfInBounds_toArray, List.set_cons_zero, List.set_cons_succ])
        refine takeH (i := 13) (dst := some 57) (v := ?v37) rfl rfl (by kernel_rfl) (by kernel_rfl) (by kernel_rfl) (fun _ _ _ h => h) rfl ?hy37 hH rfl ?rest37
        case hy37 => (intro W hW; have q0 := hW.c0; have q1 := hW.cl; have q2 := hW.cs; clear hW; go_simp; try with_reducible rfl)
        (try simp only [Act.put, List.setIfInBounds_toArray, List.set_cons_zero, List.set_cons_succ])
        refine takeH (i := 14) (dst := some 58) (v := ?v38) rfl rfl (by kernel_rfl) (by kernel_rfl) (by kernel_rfl) (fun _ _ _ h => h) rfl ?hy38 hH rfl ?rest38
        case hy38 => (intro W hW; have q0 := hW.c0; have q1 := hW.cl; have q2 := hW.cs; clear hW; go_simp; try with_reducible rfl)
        (try simp only [Act.put, List.setIfInBounds_toArray, List.set_cons_zero, List.set_cons_succ])
        refine takeH (i := 15) (dst := some 59) (v := ?v39) rfl rfl (by kernel_rfl) (by kernel_rfl) (by kernel_rfl) (fun _ _ _ h => h) rfl ?hy39 hH rfl ?rest39
        case hy39 => (intro W hW; have q0 := hW.c0; have q1 := hW.cl; have q2 := hW.cs; clear hW; go_simp; try with_reducible rfl)
        (try simp only [Act.put, List.setIfInBounds_toArray, List.set_cons_zero, List.set_cons_succ])
        refine takeH (i := 16) (dst := some 60) (v := ?v40) rfl rfl (by kernel_rfl) (by kernel_rfl) (by kernel_rfl) (fun _ _ _ h => h) rfl ?hy40 hH rfl ?rest40
        case hy40 => (intro W hW; have q0 := hW.c0; have q1 := hW.cl; have q2 := hW.cs; clear hW; go_simp; try with_reducible rfl)
        (try simp only [Act.put, List.setIfInBounds_toArray, List.set_cons_zero, List.set_cons_succ])
        refine takeH (i := 17) (dst := some 61) (v := ?v41) rfl rfl (by kernel_rfl) (by kernel_rfl) (by kernel_rfl) (fun _ _ _ h => h) rfl ?hy41 hH rfl ?rest41
        case hy41 => (intro W hW; have q0 := hW.c0; have q1 := hW.cl; have q2 := hW.cs; clear hW; go_simp; try with_reducible rfl)
        (try simp only [Act.put, List.setIfInBounds_toArray, List.set_cons_zero, List.set_cons_succ])
        refine takeH (i := 19) (dst := some 63) (v := ?v42) rfl rfl (by kernel_rfl) (by kernel_rfl) (by kernel_rfl) (fun _ _ _ h => h) rfl ?hy42 hH rfl ?rest42
        case hy42 => (intro W hW; have q0 := hW.c0; have q1 := hW.cl; have q2 := hW.cs; clear hW; go_simp; try with_reducible rfl)
        (try simp only [Act.put, List.setIfInBounds_toArray, List.set_cons_zero, List.set_cons_succ])
        refine callH (i := 18) { dst := some 62, op := Go.Op.load 65 (Go.Operand.tmp 61), type := 65, pos := "ref.go:145", after := #[{ on := 17, ground := Go.Ground.data }], guard := none } (by kernel_rfl) rfl rfl (fun K hK => ?_)
        go_simp
        have hS1 := hS0
        clear hH
        refine hK.out _ _ hS1 (fun hH => ?_)
        clear hK K
        (try simp only [Act.put, List.setIfInBounds_toArray, List.set_cons_zero, List.set_cons_succ])
        refine takeH (i := 20) (dst := some 64) (v := ?v43) rfl rfl (by kernel_rfl) (by kernel_rfl) (by kernel_rfl) (fun _ _ _ h => h) rfl ?hy43 hH rfl ?rest43
        case hy43 => (intro W hW; have q0 := hW.c0; have q1 := hW.cl; have q2 := hW.cs; clear hW; go_simp; try with_reducible rfl)
        (try simp only [Act.put, List.setIfInBounds_toArray, List.set_cons_zero, List.set_cons_succ])
        refine takeH (i := 21) (dst := some 65) (v := ?v44) rfl rfl (by kernel_rfl) (by kernel_rfl) (by kernel_rfl) (fun _ _ _ h => h) rfl ?hy44 hH rfl ?rest44
        case hy44 => (intro W hW; have q0 := hW.c0; have q1 := hW.cl; have q2 := hW.cs; clear hW; go_simp; try with_reducible rfl)
        (try simp only [Act.put, List.setIfInBounds_toArray, List.set_cons_zero, List.set_cons_succ])
        refine callH (i := 22) { dst := some 66, op := Go.Op.buildSlice 65 1 #[(0, Go.Operand.tmp 65)], type := 65, pos := "ref.go:145", after := #[{ on := 21, ground := Go.Ground.data }], guard := none } (by kernel_rfl) rfl rfl (fun K hK => ?_)
        go_simp
        have X1 : XC (wr.alloc (.cells #[.string (str y)] 9)).drew r gb n cb gl k b (va' b) ((T.2 b).length) y := ⟨(World.cell?_alloc_lt _ _ _ (show r < wr.heap.size by omega)).trans c0, (World.cell?_alloc_lt _ _ _ hgl2).trans cL, (World.cell?_alloc_lt _ _ _ va_lt).trans cs⟩
        clear hH
        refine hK.out _ _ X1 (fun hH => ?_)
        clear hK K
        (try simp only [Act.put, List.setIfInBounds_toArray, List.set_cons_zero, List.set_cons_succ])
        refine takeH (i := 23) (dst := some 67) (v := ?v45) rfl rfl (by kernel_rfl) (by kernel_rfl) (by kernel_rfl) (fun _ _ _ h => h) rfl ?hy45 hH rfl ?rest45
        case hy45 => (intro W hW; have q0 := hW.c0; have q1 := hW.cl; have q2 := hW.cs; clear hW; go_simp; try with_reducible rfl)
        (try simp only [Act.put, List.setIfInBounds_toArray, List.set_cons_zero, List.set_cons_succ])
        refine takeH (i := 24) (dst := some 68) (v := ?v46) rfl rfl (by kernel_rfl) (by kernel_rfl) (by kernel_rfl) (fun _ _ _ h => h) rfl ?hy46 hH rfl ?rest46
        case hy46 => (intro W hW; have q0 := hW.c0; have q1 := hW.cl; have q2 := hW.cs; clear hW; go_simp; try with_reducible rfl)
        (try simp only [Act.put, List.setIfInBounds_toArray, List.set_cons_zero, List.set_cons_succ])
        have cg1 : (wr.alloc (.cells #[.string (str y)] 9)).drew.cell? ⟨gb, b, none⟩ = some (.slice (some ⟨va' b, 0, none⟩) ((T.2 b).length + 1) (vc' b)) := (World.cell?_alloc_lt _ _ _ (show gb < wr.heap.size by omega)).trans cg
        have fg1 : (wr.alloc (.cells #[.string (str y)] 9)).drew.frozen? ⟨gb, b, none⟩ = false := (HR.out.below (((Below.refl _ wr).alloc (Nat.le_refl _) _).drew)).fg b
        refine callH (i := 25) { dst := none, op := Go.Op.store 65 (Go.Operand.tmp 68) (Go.Operand.tmp 66), type := 0, pos := "ref.go:145", after := #[{ on := 24, ground := Go.Ground.data }, { on := 22, ground := Go.Ground.data }, { on := 0, ground := Go.Ground.phase }, { on := 1, ground := Go.Ground.phase }, { on := 2, ground := Go.Ground.phase }, { on := 3, ground := Go.Ground.phase }, { on := 4, ground := Go.Ground.phase }, { on := 5, ground := Go.Ground.phase }, { on := 6, ground := Go.Ground.phase }, { on := 7, ground := Go.Ground.phase }, { on := 8, ground := Go.Ground.phase }, { on := 9, ground := Go.Ground.phase }, { on := 10, ground := Go.Ground.phase }, { on := 11, ground := Go.Ground.phase }, { on := 12, ground := Go.Ground.phase }, { on := 13, ground := Go.Ground.phase }, { on := 14, ground := Go.Ground.phase }, { on := 15, ground := Go.Ground.phase }, { on := 16, ground := Go.Ground.phase }, { on := 17, ground := Go.Ground.phase }, { on := 18, ground := Go.Ground.phase }, { on := 19, ground := Go.Ground.phase }, { on := 20, ground := Go.Ground.phase }, { on := 21, ground := Go.Ground.phase }, { on := 22, ground := Go.Ground.phase }], guard := none } (by kernel_rfl) rfl rfl (fun K hK => ?_)
        go_simp
        have al : Below wr.heap.size wr (wr.alloc (.cells #[.string (str y)] 9)).drew := ((Below.refl _ wr).alloc (Nat.le_refl _) _).drew
        have R1 := HR.out.below al
        have hz2 : (wr.alloc (.cells #[.string (str y)] 9)).drew.heap.size = wr.heap.size + 1 := by show (wr.heap.push _).size = _; simp
        have R2 := HS.out _ R1 wr.heap.size y (by omega) (by omega) (by omega) ((cell_of_row (wr.alloc (.cells #[.string (str y)] 9)) wr.heap.size 0 #[.string (str y)] 9 (0, 0) (heap_alloc_new wr _)).trans rfl)
        have F1 : Fr (RG r gb) w ((wr.alloc (.cells #[.string (str y)] 9)).drew.setCell ⟨gb, b, none⟩ (.slice (some ⟨wr.heap.size, 0, none⟩) 1 1)) := (HF.out.trans (Fr.of_below al)).setCell gb b _ (.inr rfl)
        have P1 : PickAt ((wr.alloc (.cells #[.string (str y)] 9)).drew.setCell ⟨gb, b, none⟩ (.slice (some ⟨wr.heap.size, 0, none⟩) 1 1)) gb (some ⟨gp, op, none⟩) m pk := pick_set (HP.out.below al) b _
        have O1 : OwnI ((wr.alloc (.cells #[.string (str y)] 9)).drew.setCell ⟨gb, b, none⟩ (.slice (some ⟨wr.heap.size, 0, none⟩) 1 1)) w.heap.size (.slice (some ⟨gl, 0, none⟩) L.length ac) L := ownsRow_setCell_below (owns_below HO.out al (Nat.le_refl _)) (a := ⟨gb, b, none⟩) (show gb < w.heap.size by omega) _
        have hglb : gl ≠ gb := by
          intro e
          obtain ⟨o1, o2⟩ := HO.out
          rcases o2 with ⟨h, _⟩ | ⟨g, _, _, hv, hg, _⟩
          · cases h
          · cases hv; omega
        have X2 : XC ((wr.alloc (.cells #[.string (str y)] 9)).drew.setCell ⟨gb, b, none⟩ (.slice (some ⟨wr.heap.size, 0, none⟩) 1 1)) r gb n cb gl k b (va' b) ((T.2 b).length) y := ⟨(World.cell?_setCell_other _ _ _ _ (by intro e; exact HR.out.rg (congrArg Addr.block e).symm)).trans X1.c0, (World.cell?_setCell_other _ _ _ _ (by intro e; exact hglb (congrArg Addr.block e).symm)).trans X1.cl, (World.cell?_setCell_other _ _ _ _ (by intro e; exact hvne.2 (congrArg Addr.block e).symm)).trans X1.cs⟩
        clear hH
        refine hK.out _ _ X2 (fun hH => ?_)
        clear hK K
        (try simp only [Act.put, List.setIfInBounds_toArray, List.set_cons_zero, List.set_cons_succ])
        refine wpAnyH_done (by kernel_rfl) ?_ _
        clear hH
        have HR2 : Hid (RefW ((wr.alloc (.cells #[.string (str y)] 9)).drew.setCell ⟨gb, b, none⟩ (.slice (some ⟨wr.heap.size, 0, none⟩) 1 1)) base r n held left (fun i => T2.1 i :: T2.2 i) gb cb (updN va' b wr.heap.size) (updN vc' b 1)) := by
          refine RefW.congr R2 ?_
          funext j
          rw [hsucc.out]
          simp only [HY.out]
          unfold upd
          by_cases e : j = b
          · rw [if_pos e, if_pos e, if_pos e]
          · rw [if_neg e, if_neg e, if_neg e]
        have HV2 : Hid (VA w n va (updN va' b wr.heap.size)) := by
          intro j hj
          unfold updN
          by_cases e : j = b
          · rw [if_pos e]; exact .inr hszr
          · rw [if_neg e]; exact HV.out j hj
        have HF2 : Hid _ := F1
        have HP2 : Hid (PickAt _ _ _ _ _) := P1
        have HO2 : Hid (OwnI _ _ _ _) := O1
        clear R1 R2 F1 P1 O1 X1 X2 cg1 fg1 hz2 al HR HV HF HP HO HS hS0 hS1 c0 cs cg cL cgd HY hsucc
        go_wp2_with fail
        go_round
        case rel => exact ⟨k + 1, updN va' b wr.heap.size, updN vc' b 1, by omega, by go_num, by rw [HT2.out]; exact HR2.out, HV2, HF2, HP2, HO2⟩
        case measure => simp [intOf]; omega
      · obtain ⟨gp, op, rfl, cp⟩ := hcp hA1
        subst hA4
        clear hcp
        go_wp2_with fail
        refine WR.mono ?_
        rintro e w4 ⟨rfl, rfl⟩
        clear WR
        go_wp2_with fail
        have hS0 : XC wr.drew r gb n cb gl k b (va' b) (0) y := ⟨c0, cL, cs⟩
        have cgd : wr.drew.cell? ⟨gb, b, none⟩ = some (.slice (some ⟨va' b, 0, none⟩) ((T.2 b).length + 1) (vc' b)) := cg
        refine wp_region_held_drew (S := (fun W => XC W r gb n cb gl k b (va' b) (0) y)) (by kernel_rfl) hS0 (fun hH => ?_)
        refine takeH (i := 0) (dst := some 44) (v := ?v47) rfl rfl (by kernel_rfl) (by kernel_rfl) (by kernel_rfl) (fun _ _ _ h => h) rfl ?hy47 hH rfl ?rest47
        case hy47 => (intro W hW; have q0 := hW.c0; have q1 := hW.cl; have q2 := hW.cs; clear hW; go_simp; try with_reducible rfl)
        (try simp only [Act.put, List.setIfInBounds_toArray, List.set_cons_zero, List.set_cons_succ])
        refine takeH (i := 1) (dst := some 45) (v := ?v48) rfl rfl (by kernel_rfl) (by kernel_rfl) (by kernel_rfl) (fun _ _ _ h => h) rfl ?hy48 hH rfl ?rest48
        case hy48 => (intro W hW; have q0 := hW.c0; have q1 := hW.cl; have q2 := hW.cs; clear hW; go_simp; try with_reducible rfl)
        (try simp only [Act.put, List.setIfInBounds_toArray, List.set_cons_zero, List.set_cons_succ])
        refine takeH (i := 2) (dst := some 46) (v := ?v49) rfl rfl (by kernel_rfl) (by kernel_rfl) (by kernel_rfl) (fun _ _ _ h => h) rfl ?hy49 hH rfl ?rest49
        case hy49 => (intro W hW; have q0 := hW.c0; have q1 := hW.cl; have q2 := hW.cs; clear hW; go_simp; try with_reducible rfl)
        (try simp only [Act.put, List.setIfInBounds_toArray, List.set_cons_zero, List.set_cons_succ])
        refine takeH (i := 3) (dst := some 47) (v := ?v50) rfl rfl (by kernel_rfl) (by kernel_rfl) (by kernel_rfl) (fun _ _ _ h => h) rfl ?hy50 hH rfl ?rest50
        case hy50 => (intro W hW; have q0 := hW.c0; have q1 := hW.cl; have q2 := hW.cs; clear hW; go_simp; try with_reducible rfl)
        (try simp only [Act.put, List.setIfInBounds_toArray, List.set_cons_zero, List.set_cons_succ])
        refine takeH (i := 4) (dst := some 48) (v := ?v51) rfl rfl (by kernel_rfl) (by kernel_rfl) (by kernel_rfl) (fun _ _ _ h => h) rfl ?hy51 hH rfl ?rest51
        case hy51 => (intro W hW; have q0 := hW.c0; have q1 := hW.cl; have q2 := hW.cs; clear hW; go_simp; try with_reducible rfl)
        (try simp only [Act.put, List.setIfInBounds_toArray, List.set_cons_zero, List.set_cons_succ])
        refine takeH (i := 5) (dst := some 49) (v := ?v52) rfl rfl (by kernel_rfl) (by kernel_rfl) (by kernel_rfl) (fun _ _ _ h => h) rfl ?hy52 hH rfl ?rest52
        case hy52 => (intro W hW; have q0 := hW.c0; have q1 := hW.cl; have q2 := hW.cs; clear hW; go_simp; try with_reducible rfl)
        (try simp only [Act.put, List.setIfInBounds_toArray, List.set_cons_zero, List.set_cons_succ])
        refine takeH (i := 6) (dst := some 50) (v := ?v53) rfl rfl (by kernel_rfl) (by kernel_rfl) (by kernel_rfl) (fun _ _ _ h => h) rfl ?hy53 hH rfl ?rest53
        case hy53 => (intro W hW; have q0 := hW.c0; have q1 := hW.cl; have q2 := hW.cs; clear hW; go_simp; try with_reducible rfl)
        (try simp only [Act.put, List.setIfInBounds_toArray, List.set_cons_zero, List.set_cons_succ])
        refine takeH (i := 7) (dst := some 51) (v := ?v54) rfl rfl (by kernel_rfl) (by kernel_rfl) (by kernel_rfl) (fun _ _ _ h => h) rfl ?hy54 hH rfl ?rest54
        case hy54 => (intro W hW; have q0 := hW.c0; have q1 := hW.cl; have q2 := hW.cs; clear hW; go_simp; try with_reducible rfl)
        (try simp only [Act.put, List.setIfInBounds_toArray, List.set_cons_zero, List.set_cons_succ])
        refine takeH (i := 8) (dst := some 52) (v := ?v55) rfl rfl (by kernel_rfl) (by kernel_rfl) (by kernel_rfl) (fun _ _ _ h => h) rfl ?hy55 hH rfl ?rest55
        case hy55 => (intro W hW; have q0 := hW.c0; have q1 := hW.cl; have q2 := hW.cs; clear hW; go_simp; try with_reducible rfl)
        (try simp only [Act.put, List.setIfInBounds_toArray, List.set_cons_zero, List.set_cons_succ])
        refine takeH (i := 9) (dst := some 53) (v := ?v56) rfl rfl (by kernel_rfl) (by kernel_rfl) (by kernel_rfl) (fun _ _ _ h => h) rfl ?hy56 hH rfl ?rest56
        case hy56 => (intro W hW; have q0 := hW.c0; have q1 := hW.cl; have q2 := hW.cs; clear hW; go_simp; try with_reducible rfl)
        (try simp only [Act.put, List.setIfInBounds_toArray, List.set_cons_zero, List.set_cons_succ])
        refine takeH (i := 10) (dst := some 54) (v := ?v57) rfl rfl (by kernel_rfl) (by kernel_rfl) (by kernel_rfl) (fun _ _ _ h => h) rfl ?hy57 hH rfl ?rest57
        case hy57 => (intro W hW; have q0 := hW.c0; have q1 := hW.cl; have q2 := hW.cs; clear hW; go_simp; try with_reducible rfl)
        (try simp only [Act.put, List.setIfInBounds_toArray, List.set_cons_zero, List.set_cons_succ])
        refine takeH (i := 11) (dst := some 55) (v := ?v58) rfl rfl (by kernel_rfl) (by kernel_rfl) (by kernel_rfl) (fun _ _ _ h => h) rfl ?hy58 hH rfl ?rest58
        case hy58 => (intro W hW; have q0 := hW.c0; have q1 := hW.cl; have q2 := hW.cs; clear hW; go_simp; try with_reducible rfl)
        (try simp only [Act.put, List.setIfInBounds_toArray, List.set_cons_zero, List.set_cons_succ])
        refine takeH (i := 12) (dst := some 56) (v := ?v59) rfl rfl (by kernel_rfl) (by kernel_rfl) (by kernel_rfl) (fun _ _ _ h => h) rfl ?hy59 hH rfl ?rest59
        case hy59 => (intro W hW; have q0 := hW.c0; have q1 := hW.cl; have q2 := hW.cs; clear hW; go_simp; try with_reducible rfl)
        (try simp only [Act.put, List.setIfInBounds_toArray, List.set_cons_zero, List.set_cons_succ])
        refine takeH (i := 13) (dst := some 57) (v := ?v60) rfl rfl (by kernel_rfl) (by kernel_rfl) (by kernel_rfl) (fun _ _ _ h => h) rfl ?hy60 hH rfl ?rest60
        case hy60 => (intro W hW; have q0 := hW.c0; have q1 := hW.cl; have q2 := hW.cs; clear hW; go_simp; try with_reducible rfl)
        (try simp only [Act.put, List.setIfInBounds_toArray, List.set_cons_zero, List.set_cons_succ])
        refine takeH (i := 14) (dst := some 58) (v := ?v61) rfl rfl (by kernel_rfl) (by kernel_rfl) (by kernel_rfl) (fun _ _ _ h => h) rfl ?hy61 hH rfl ?rest61
        case hy61 => (intro W hW; have q0 := hW.c0; have q1 := hW.cl; have q2 := hW.cs; clear hW; go_simp; try with_reducible rfl)
        (try simp only [Act.put, List.setIfInBounds_toArray, List.set_cons_zero, List.set_cons_succ])
        refine takeH (i := 15) (dst := some 59) (v := ?v62) rfl rfl (by kernel_rfl) (by kernel_rfl) (by kernel_rfl) (fun _ _ _ h => h) rfl ?hy62 hH rfl ?rest62
        case hy62 => (intro W hW; have q0 := hW.c0; have q1 := hW.cl; have q2 := hW.cs; clear hW; go_simp; try with_reducible rfl)
        (try simp only [Act.put, List.setIfInBounds_toArray, List.set_cons_zero, List.set_cons_succ])
        refine takeH (i := 16) (dst := some 60) (v := ?v63) rfl rfl (by kernel_rfl) (by kernel_rfl) (by kernel_rfl) (fun _ _ _ h => h) rfl ?hy63 hH rfl ?rest63
        case hy63 => (intro W hW; have q0 := hW.c0; have q1 := hW.cl; have q2 := hW.cs; clear hW; go_simp; try with_reducible rfl)
        (try simp only [Act.put, List.setIfInBounds_toArray, List.set_cons_zero, List.set_cons_succ])
        refine takeH (i := 17) (dst := some 61) (v := ?v64) rfl rfl (by kernel_rfl) (by kernel_rfl) (by kernel_rfl) (fun _ _ _ h => h) rfl ?hy64 hH rfl ?rest64
        case hy64 => (intro W hW; have q0 := hW.c0; have q1 := hW.cl; have q2 := hW.cs; clear hW; go_simp; try with_reducible rfl)
        (try simp only [Act.put, List.setIfInBounds_toArray, List.set_cons_zero, List.set_cons_succ])
        refine takeH (i := 19) (dst := some 63) (v := ?v65) rfl rfl (by kernel_rfl) (by kernel_rfl) (by kernel_rfl) (fun _ _ _ h => h) rfl ?hy65 hH rfl ?rest65
        case hy65 => (intro W hW; have q0 := hW.c0; have q1 := hW.cl; have q2 := hW.cs; clear hW; go_simp; try with_reducible rfl)
        (try simp only [Act.put, List.setIfInBounds_toArray, List.set_cons_zero, List.set_cons_succ])
        refine callH (i := 18) { dst := some 62, op := Go.Op.load 65 (Go.Operand.tmp 61), type := 65, pos := "ref.go:145", after := #[{ on := 17, ground := Go.Ground.data }], guard := none } (by kernel_rfl) rfl rfl (fun K hK => ?_)
        go_simp
        have hS1 := hS0
        clear hH
        refine hK.out _ _ hS1 (fun hH => ?_)
        clear hK K
        (try simp only [Act.put, List.setIfInBounds_toArray, List.set_cons_zero, List.set_cons_succ])
        refine takeH (i := 20) (dst := some 64) (v := ?v66) rfl rfl (by kernel_rfl) (by kernel_rfl) (by kernel_rfl) (fun _ _ _ h => h) rfl ?hy66 hH rfl ?rest66
        case hy66 => (intro W hW; have q0 := hW.c0; have q1 := hW.cl; have q2 := hW.cs; clear hW; go_simp; try with_reducible rfl)
        (try simp only [Act.put, List.setIfInBounds_toArray, List.set_cons_zero, List.set_cons_succ])
        refine takeH (i := 21) (dst := some 65) (v := ?v67) rfl rfl (by kernel_rfl) (by kernel_rfl) (by kernel_rfl) (fun _ _ _ h => h) rfl ?hy67 hH rfl ?rest67
        case hy67 => (intro W hW; have q0 := hW.c0; have q1 := hW.cl; have q2 := hW.cs; clear hW; go_simp; try with_reducible rfl)
        (try simp only [Act.put, List.setIfInBounds_toArray, List.set_cons_zero, List.set_cons_succ])
        refine callH (i := 22) { dst := some 66, op := Go.Op.buildSlice 65 1 #[(0, Go.Operand.tmp 65)], type := 65, pos := "ref.go:145", after := #[{ on := 21, ground := Go.Ground.data }], guard := none } (by kernel_rfl) rfl rfl (fun K hK => ?_)
        go_simp
        have X1 : XC (wr.alloc (.cells #[.string (str y)] 9)).drew r gb n cb gl k b (va' b) (0) y := ⟨(World.cell?_alloc_lt _ _ _ (show r < wr.heap.size by omega)).trans c0, (World.cell?_alloc_lt _ _ _ hgl2).trans cL, (World.cell?_alloc_lt _ _ _ va_lt).trans cs⟩
        clear hH
        refine hK.out _ _ X1 (fun hH => ?_)
        clear hK K
        (try simp only [Act.put, List.setIfInBounds_toArray, List.set_cons_zero, List.set_cons_succ])
        refine takeH (i := 23) (dst := some 67) (v := ?v68) rfl rfl (by kernel_rfl) (by kernel_rfl) (by kernel_rfl) (fun _ _ _ h => h) rfl ?hy68 hH rfl ?rest68
        case hy68 => (intro W hW; have q0 := hW.c0; have q1 := hW.cl; have q2 := hW.cs; clear hW; go_simp; try with_reducible rfl)
        (try simp only [Act.put, List.setIfInBounds_toArray, List.set_cons_zero, List.set_cons_succ])
        refine takeH (i := 24) (dst := some 68) (v := ?v69) rfl rfl (by kernel_rfl) (by kernel_rfl) (by kernel_rfl) (fun _ _ _ h => h) rfl ?hy69 hH rfl ?rest69
        case hy69 => (intro W hW; have q0 := hW.c0; have q1 := hW.cl; have q2 := hW.cs; clear hW; go_simp; try with_reducible rfl)
        (try simp only [Act.put, List.setIfInBounds_toArray, List.set_cons_zero, List.set_cons_succ])
        have cg1 : (wr.alloc (.cells #[.string (str y)] 9)).drew.cell? ⟨gb, b, none⟩ = some (.slice (some ⟨va' b, 0, none⟩) ((T.2 b).length + 1) (vc' b)) := (World.cell?_alloc_lt _ _ _ (show gb < wr.heap.size by omega)).trans cg
        have fg1 : (wr.alloc (.cells #[.string (str y)] 9)).drew.frozen? ⟨gb, b, none⟩ = false := (HR.out.below (((Below.refl _ wr).alloc (Nat.le_refl _) _).drew)).fg b
        refine callH (i := 25) { dst := none, op := Go.Op.store 65 (Go.Operand.tmp 68) (Go.Operand.tmp 66), type := 0, pos := "ref.go:145", after := #[{ on := 24, ground := Go.Ground.data }, { on := 22, ground := Go.Ground.data }, { on := 0, ground := Go.Ground.phase }, { on := 1, ground := Go.Ground.phase }, { on := 2, ground := Go.Ground.phase }, { on := 3, ground := Go.Ground.phase }, { on := 4, ground := Go.Ground.phase }, { on := 5, ground := Go.Ground.phase }, { on := 6, ground := Go.Ground.phase }, { on := 7, ground := Go.Ground.phase }, { on := 8, ground := Go.Ground.phase }, { on := 9, ground := Go.Ground.phase }, { on := 10, ground := Go.Ground.phase }, { on := 11, ground := Go.Ground.phase }, { on := 12, ground := Go.Ground.phase }, { on := 13, ground := Go.Ground.phase }, { on := 14, ground := Go.Ground.phase }, { on := 15, ground := Go.Ground.phase }, { on := 16, ground := Go.Ground.phase }, { on := 17, ground := Go.Ground.phase }, { on := 18, ground := Go.Ground.phase }, { on := 19, ground := Go.Ground.phase }, { on := 20, ground := Go.Ground.phase }, { on := 21, ground := Go.Ground.phase }, { on := 22, ground := Go.Ground.phase }], guard := none } (by kernel_rfl) rfl rfl (fun K hK => ?_)
        go_simp
        have al : Below wr.heap.size wr (wr.alloc (.cells #[.string (str y)] 9)).drew := ((Below.refl _ wr).alloc (Nat.le_refl _) _).drew
        have R1 := HR.out.below al
        have hz2 : (wr.alloc (.cells #[.string (str y)] 9)).drew.heap.size = wr.heap.size + 1 := by show (wr.heap.push _).size = _; simp
        have R2 := HS.out _ R1 wr.heap.size y (by omega) (by omega) (by omega) ((cell_of_row (wr.alloc (.cells #[.string (str y)] 9)) wr.heap.size 0 #[.string (str y)] 9 (0, 0) (heap_alloc_new wr _)).trans rfl)
        have F1 : Fr (RG r gb) w ((wr.alloc (.cells #[.string (str y)] 9)).drew.setCell ⟨gb, b, none⟩ (.slice (some ⟨wr.heap.size, 0, none⟩) 1 1)) := (HF.out.trans (Fr.of_below al)).setCell gb b _ (.inr rfl)
        have P1 : PickAt ((wr.alloc (.cells #[.string (str y)] 9)).drew.setCell ⟨gb, b, none⟩ (.slice (some ⟨wr.heap.size, 0, none⟩) 1 1)) gb (some ⟨gp, op, none⟩) m pk := pick_set (HP.out.below al) b _
        have O1 : OwnI ((wr.alloc (.cells #[.string (str y)] 9)).drew.setCell ⟨gb, b, none⟩ (.slice (some ⟨wr.heap.size, 0, none⟩) 1 1)) w.heap.size (.slice (some ⟨gl, 0, none⟩) L.length ac) L := ownsRow_setCell_below (owns_below HO.out al (Nat.le_refl _)) (a := ⟨gb, b, none⟩) (show gb < w.heap.size by omega) _
        have hglb : gl ≠ gb := by
          intro e
          obtain ⟨o1, o2⟩ := HO.out
          rcases o2 with ⟨h, _⟩ | ⟨g, _, _, hv, hg, _⟩
          · cases h
          · cases hv; omega
        have X2 : XC ((wr.alloc (.cells #[.string (str y)] 9)).drew.setCell ⟨gb, b, none⟩ (.slice (some ⟨wr.heap.size, 0, none⟩) 1 1)) r gb n cb gl k b (va' b) (0) y := ⟨(World.cell?_setCell_other _ _ _ _ (by intro e; exact HR.out.rg (congrArg Addr.block e).symm)).trans X1.c0, (World.cell?_setCell_other _ _ _ _ (by intro e; exact hglb (congrArg Addr.block e).symm)).trans X1.cl, (World.cell?_setCell_other _ _ _ _ (by intro e; exact hvne.2 (congrArg Addr.block e).symm)).trans X1.cs⟩
        clear hH
        refine hK.out _ _ X2 (fun hH => ?_)
        clear hK K
        (try simp only [Act.put, List.setIfInBounds_toArray, List.set_cons_zero, List.set_cons_succ])
        refine wpAnyH_done (by kernel_rfl) ?_ _
        clear hH
        have HR2 : Hid (RefW ((wr.alloc (.cells #[.string (str y)] 9)).drew.setCell ⟨gb, b, none⟩ (.slice (some ⟨wr.heap.size, 0, none⟩) 1 1)) base r n held left (fun i => T2.1 i :: T2.2 i) gb cb (updN va' b wr.heap.size) (updN vc' b 1)) := by
          refine RefW.congr R2 ?_
          funext j
          rw [hsucc.out]
          simp only [HY.out]
          unfold upd
          by_cases e : j = b
          · rw [if_pos e, if_pos e, if_pos e]
          · rw [if_neg e, if_neg e, if_neg e]
        have HV2 : Hid (VA w n va (updN va' b wr.heap.size)) := by
          intro j hj
          unfold updN
          by_cases e : j = b
          · rw [if_pos e]; exact .inr hszr
          · rw [if_neg e]; exact HV.out j hj
        have HF2 : Hid _ := F1
        have HP2 : Hid (PickAt _ _ _ _ _) := P1
        have HO2 : Hid (OwnI _ _ _ _) := O1
        clear R1 R2 F1 P1 O1 X1 X2 cg1 fg1 hz2 al HR HV HF HP HO HS hS0 hS1 c0 cs cg cL cgd HY hsucc
        go_wp2_with fail
        go_round
        case rel => exact ⟨k + 1, updN va' b wr.heap.size, updN vc' b 1, by omega, by go_num, by rw [HT2.out]; exact HR2.out, HV2, HF2, HP2, HO2⟩
        case measure => simp [intOf]; omega
      · subst hA4
        clear hcp
        go_wp2_with fail
        refine WR.mono ?_
        rintro e w4 ⟨rfl, rfl⟩
        clear WR
        go_wp2_with fail
        have hS0 : XC wr.drew r gb n cb gl k b (va' b) (0) y := ⟨c0, cL, cs⟩
        have cgd : wr.drew.cell? ⟨gb, b, none⟩ = some (.slice (some ⟨va' b, 0, none⟩) ((T.2 b).length + 1) (vc' b)) := cg
        refine wp_region_held_drew (S := (fun W => XC W r gb n cb gl k b (va' b) (0) y)) (by kernel_rfl) hS0 (fun hH => ?_)
        refine takeH (i := 0) (dst := some 44) (v := ?v70) rfl rfl (by kernel_rfl) (by kernel_rfl) (by kernel_rfl) (fun _ _ _ h => h) rfl ?hy70 hH rfl ?rest70
        case hy70 => (intro W hW; have q0 := hW.c0; have q1 := hW.cl; have q2 := hW.cs; clear hW; go_simp; try with_reducible rfl)
        (try simp only [Act.put, List.setIfInBounds_toArray, List.set_cons_zero, List.set_cons_succ])
        refine takeH (i := 1) (dst := some 45) (v := ?v71) rfl rfl (by kernel_rfl) (by kernel_rfl) (by kernel_rfl) (fun _ _ _ h => h) rfl ?hy71 hH rfl ?rest71
        case hy71 => (intro W hW; have q0 := hW.c0; have q1 := hW.cl; have q2 := hW.cs; clear hW; go_simp; try with_reducible rfl)
        (try simp only [Act.put, List.setIfInBounds_toArray, List.set_cons_zero, List.set_cons_succ])
        refine takeH (i := 2) (dst := some 46) (v := ?v72) rfl rfl (by kernel_rfl) (by kernel_rfl) (by kernel_rfl) (fun _ _ _ h => h) rfl ?hy72 hH rfl ?rest72
        case hy72 => (intro W hW; have q0 := hW.c0; have q1 := hW.cl; have q2 := hW.cs; clear hW; go_simp; try with_reducible rfl)
        (try simp only [Act.put, List.setIfInBounds_toArray, List.set_cons_zero, List.set_cons_succ])
        refine takeH (i := 3) (dst := some 47) (v := ?v73) rfl rfl (by kernel_rfl) (by kernel_rfl) (by kernel_rfl) (fun _ _ _ h => h) rfl ?hy73 hH rfl ?rest73
        case hy73 => (intro W hW; have q0 := hW.c0; have q1 := hW.cl; have q2 := hW.cs; clear hW; go_simp; try with_reducible rfl)
        (try simp only [Act.put, List.setIfInBounds_toArray, List.set_cons_zero, List.set_cons_succ])
        refine takeH (i := 4) (dst := some 48) (v := ?v74) rfl rfl (by kernel_rfl) (by kernel_rfl) (by kernel_rfl) (fun _ _ _ h => h) rfl ?hy74 hH rfl ?rest74
        case hy74 => (intro W hW; have q0 := hW.c0; have q1 := hW.cl; have q2 := hW.cs; clear hW; go_simp; try with_reducible rfl)
        (try simp only [Act.put, List.setIfInBounds_toArray, List.set_cons_zero, List.set_cons_succ])
        refine takeH (i := 5) (dst := some 49) (v := ?v75) rfl rfl (by kernel_rfl) (by kernel_rfl) (by kernel_rfl) (fun _ _ _ h => h) rfl ?hy75 hH rfl ?rest75
        case hy75 => (intro W hW; have q0 := hW.c0; have q1 := hW.cl; have q2 := hW.cs; clear hW; go_simp; try with_reducible rfl)
        (try simp only [Act.put, List.setIfInBounds_toArray, List.set_cons_zero, List.set_cons_succ])
        refine takeH (i := 6) (dst := some 50) (v := ?v76) rfl rfl (by kernel_rfl) (by kernel_rfl) (by kernel_rfl) (fun _ _ _ h => h) rfl ?hy76 hH rfl ?rest76
        case hy76 => (intro W hW; have q0 := hW.c0; have q1 := hW.cl; have q2 := hW.cs; clear hW; go_simp; try with_reducible rfl)
        (try simp only [Act.put, List.setIfInBounds_toArray, List.set_cons_zero, List.set_cons_succ])
        refine takeH (i := 7) (dst := some 51) (v := ?v77) rfl rfl (by kernel_rfl) (by kernel_rfl) (by kernel_rfl) (fun _ _ _ h => h) rfl ?hy77 hH rfl ?rest77
        case hy77 => (intro W hW; have q0 := hW.c0; have q1 := hW.cl; have q2 := hW.cs; clear hW; go_simp; try with_reducible rfl)
        (try simp only [Act.put, List.setIfInBounds_toArray, List.set_cons_zero, List.set_cons_succ])
        refine takeH (i := 8) (dst := some 52) (v := ?v78) rfl rfl (by kernel_rfl) (by kernel_rfl) (by kernel_rfl) (fun _ _ _ h => h) rfl ?hy78 hH rfl ?rest78
        case hy78 => (intro W hW; have q0 := hW.c0; have q1 := hW.cl; have q2 := hW.cs; clear hW; go_simp; try with_reducible rfl)
        (try simp only [Act.put, List.setIfInBounds_toArray, List.set_cons_zero, List.set_cons_succ])
        refine takeH (i := 9) (dst := some 53) (v := ?v79) rfl rfl (by kernel_rfl) (by kernel_rfl) (by kernel_rfl) (fun _ _ _ h => h) rfl ?hy79 hH rfl ?rest79
        case hy79 => (intro W hW; have q0 := hW.c0; have q1 := hW.cl; have q2 := hW.cs; clear hW; go_simp; try with_reducible rfl)
        (try simp only [Act.put, List.setIfInBounds_toArray, List.set_cons_zero, List.set_cons_succ])
        refine takeH (i := 10) (dst := some 54) (v := ?v80) rfl rfl (by kernel_rfl) (by kernel_rfl) (by kernel_rfl) (fun _ _ _ h => h) rfl ?hy80 hH rfl ?rest80
        case hy80 => (intro W hW; have q0 := hW.c0; have q1 := hW.cl; have q2 := hW.cs; clear hW; go_simp; try with_reducible rfl)
        (try simp only [Act.put, List.setIfInBounds_toArray, List.set_cons_zero, List.set_cons_succ])
        refine takeH (i := 11) (dst := some 55) (v := ?v81) rfl rfl (by kernel_rfl) (by kernel_rfl) (by kernel_rfl) (fun _ _ _ h => h) rfl ?hy81 hH rfl ?rest81
        case hy81 => (intro W hW; have q0 := hW.c0; have q1 := hW.cl; have q2 := hW.cs; clear hW; go_simp; try with_reducible rfl)
        (try simp only [Act.put, List.setIfInBounds_toArray, List.set_cons_zero, List.set_cons_succ])
        refine takeH (i := 12) (dst := some 56) (v := ?v82) rfl rfl (by kernel_rfl) (by kernel_rfl) (by kernel_rfl) (fun _ _ _ h => h) rfl ?hy82 hH rfl ?rest82
        case hy82 => (intro W hW; have q0 := hW.c0; have q1 := hW.cl; have q2 := hW.cs; clear hW; go_simp; try with_reducible rfl)
        (try simp only [Act.put, List.setIfInBounds_toArray, List.set_cons_zero, List.set_cons_succ])
        refine takeH (i := 13) (dst := some 57) (v := ?v83) rfl rfl (by kernel_rfl) (by kernel_rfl) (by kernel_rfl) (fun _ _ _ h => h) rfl ?hy83 hH rfl ?rest83
        case hy83 => (intro W hW; have q0 := hW.c0; have q1 := hW.cl; have q2 := hW.cs; clear hW; go_simp; try with_reducible rfl)
        (try simp only [Act.put, List.setIfInBounds_toArray, List.set_cons_zero, List.set_cons_succ])
        refine takeH (i := 14) (dst := some 58) (v := ?v84) rfl rfl (by kernel_rfl) (by kernel_rfl) (by kernel_rfl) (fun _ _ _ h => h) rfl ?hy84 hH rfl ?rest84
        case hy84 => (intro W hW; have q0 := hW.c0; have q1 := hW.cl; have q2 := hW.cs; clear hW; go_simp; try with_reducible rfl)
        (try simp only [Act.put, List.setIfInBounds_toArray, List.set_cons_zero, List.set_cons_succ])
        refine takeH (i := 15) (dst := some 59) (v := ?v85) rfl rfl (by kernel_rfl) (by kernel_rfl) (by kernel_rfl) (fun _ _ _ h => h) rfl ?hy85 hH rfl ?rest85
        case hy85 => (intro W hW; have q0 := hW.c0; have q1 := hW.cl; have q2 := hW.cs; clear hW; go_simp; try with_reducible rfl)
        (try simp only [Act.put, List.setIfInBounds_toArray, List.set_cons_zero, List.set_cons_succ])
        refine takeH (i := 16) (dst := some 60) (v := ?v86) rfl rfl (by kernel_rfl) (by kernel_rfl) (by kernel_rfl) (fun _ _ _ h => h) rfl ?hy86 hH rfl ?rest86
        case hy86 => (intro W hW; have q0 := hW.c0; have q1 := hW.cl; have q2 := hW.cs; clear hW; go_simp; try with_reducible rfl)
        (try simp only [Act.put, List.setIfInBounds_toArray, List.set_cons_zero, List.set_cons_succ])
        refine takeH (i := 17) (dst := some 61) (v := ?v87) rfl rfl (by kernel_rfl) (by kernel_rfl) (by kernel_rfl) (fun _ _ _ h => h) rfl ?hy87 hH rfl ?rest87
        case hy87 => (intro W hW; have q0 := hW.c0; have q1 := hW.cl; have q2 := hW.cs; clear hW; go_simp; try with_reducible rfl)
        (try simp only [Act.put, List.setIfInBounds_toArray, List.set_cons_zero, List.set_cons_succ])
        refine takeH (i := 19) (dst := some 63) (v := ?v88) rfl rfl (by kernel_rfl) (by kernel_rfl) (by kernel_rfl) (fun _ _ _ h => h) rfl ?hy88 hH rfl ?rest88
        case hy88 => (intro W hW; have q0 := hW.c0; have q1 := hW.cl; have q2 := hW.cs; clear hW; go_simp; try with_reducible rfl)
        (try simp only [Act.put, List.setIfInBounds_toArray, List.set_cons_zero, List.set_cons_succ])
        refine callH (i := 18) { dst := some 62, op := Go.Op.load 65 (Go.Operand.tmp 61), type := 65, pos := "ref.go:145", after := #[{ on := 17, ground := Go.Ground.data }], guard := none } (by kernel_rfl) rfl rfl (fun K hK => ?_)
        go_simp
        have hS1 := hS0
        clear hH
        refine hK.out _ _ hS1 (fun hH => ?_)
        clear hK K
        (try simp only [Act.put, List.setIfInBounds_toArray, List.set_cons_zero, List.set_cons_succ])
        refine takeH (i := 20) (dst := some 64) (v := ?v89) rfl rfl (by kernel_rfl) (by kernel_rfl) (by kernel_rfl) (fun _ _ _ h => h) rfl ?hy89 hH rfl ?rest89
        case hy89 => (intro W hW; have q0 := hW.c0; have q1 := hW.cl; have q2 := hW.cs; clear hW; go_simp; try with_reducible rfl)
        (try simp only [Act.put, List.setIfInBounds_toArray, List.set_cons_zero, List.set_cons_succ])
        refine takeH (i := 21) (dst := some 65) (v := ?v90) rfl rfl (by kernel_rfl) (by kernel_rfl) (by kernel_rfl) (fun _ _ _ h => h) rfl ?hy90 hH rfl ?rest90
        case hy90 => (intro W hW; have q0 := hW.c0; have q1 := hW.cl; have q2 := hW.cs; clear hW; go_simp; try with_reducible rfl)
        (try simp only [Act.put, List.setIfInBounds_toArray, List.set_cons_zero, List.set_cons_succ])
        refine callH (i := 22) { dst := some 66, op := Go.Op.buildSlice 65 1 #[(0, Go.Operand.tmp 65)], type := 65, pos := "ref.go:145", after := #[{ on := 21, ground := Go.Ground.data }], guard := none } (by kernel_rfl) rfl rfl (fun K hK => ?_)
        go_simp
        have X1 : XC (wr.alloc (.cells #[.string (str y)] 9)).drew r gb n cb gl k b (va' b) (0) y := ⟨(World.cell?_alloc_lt _ _ _ (show r < wr.heap.size by omega)).trans c0, (World.cell?_alloc_lt _ _ _ hgl2).trans cL, (World.cell?_alloc_lt _ _ _ va_lt).trans cs⟩
        clear hH
        refine hK.out _ _ X1 (fun hH => ?_)
        clear hK K
        (try simp only [Act.put, List.setIfInBounds_toArray, List.set_cons_zero, List.set_cons_succ])
        refine takeH (i := 23) (dst := some 67) (v := ?v91) rfl rfl (by kernel_rfl) (by kernel_rfl) (by kernel_rfl) (fun _ _ _ h => h) rfl ?hy91 hH rfl ?rest91
        case hy91 => (intro W hW; have q0 := hW.c0; have q1 := hW.cl; have q2 := hW.cs; clear hW; go_simp; try with_reducible rfl)
        (try simp only [Act.put, List.setIfInBounds_toArray, List.set_cons_zero, List.set_cons_succ])
        refine takeH (i := 24) (dst := some 68) (v := ?v92) rfl rfl (by kernel_rfl) (by kernel_rfl) (by kernel_rfl) (fun _ _ _ h => h) rfl ?hy92 hH rfl ?rest92
        case hy92 => (intro W hW; have q0 := hW.c0; have q1 := hW.cl; have q2 := hW.cs; clear hW; go_simp; try with_reducible rfl)
        (try simp only [Act.put, List.setIfInBounds_toArray, List.set_cons_zero, List.set_cons_succ])
        have cg1 : (wr.alloc (.cells #[.string (str y)] 9)).drew.cell? ⟨gb, b, none⟩ = some (.slice (some ⟨va' b, 0, none⟩) ((T.2 b).length + 1) (vc' b)) := (World.cell?_alloc_lt _ _ _ (show gb < wr.heap.size by omega)).trans cg
        have fg1 : (wr.alloc (.cells #[.string (str y)] 9)).drew.frozen? ⟨gb, b, none⟩ = false := (HR.out.below (((Below.refl _ wr).alloc (Nat.le_refl _) _).drew)).fg b
        refine callH (i := 25) { dst := none, op := Go.Op.store 65 (Go.Operand.tmp 68) (Go.Operand.tmp 66), type := 0, pos := "ref.go:145", after := #[{ on := 24, ground := Go.Ground.data }, { on := 22, ground := Go.Ground.data }, { on := 0, ground := Go.Ground.phase }, { on := 1, ground := Go.Ground.phase }, { on := 2, ground := Go.Ground.phase }, { on := 3, ground := Go.Ground.phase }, { on := 4, ground := Go.Ground.phase }, { on := 5, ground := Go.Ground.phase }, { on := 6, ground := Go.Ground.phase }, { on := 7, ground := Go.Ground.phase }, { on := 8, ground := Go.Ground.phase }, { on := 9, ground := Go.Ground.phase }, { on := 10, ground := Go.Ground.phase }, { on := 11, ground := Go.Ground.phase }, { on := 12, ground := Go.Ground.phase }, { on := 13, ground := Go.Ground.phase }, { on := 14, ground := Go.Ground.phase }, { on := 15, ground := Go.Ground.phase }, { on := 16, ground := Go.Ground.phase }, { on := 17, ground := Go.Ground.phase }, { on := 18, ground := Go.Ground.phase }, { on := 19, ground := Go.Ground.phase }, { on := 20, ground := Go.Ground.phase }, { on := 21, ground := Go.Ground.phase }, { on := 22, ground := Go.Ground.phase }], guard := none } (by kernel_rfl) rfl rfl (fun K hK => ?_)
        go_simp
        have al : Below wr.heap.size wr (wr.alloc (.cells #[.string (str y)] 9)).drew := ((Below.refl _ wr).alloc (Nat.le_refl _) _).drew
        have R1 := HR.out.below al
        have hz2 : (wr.alloc (.cells #[.string (str y)] 9)).drew.heap.size = wr.heap.size + 1 := by show (wr.heap.push _).size = _; simp
        have R2 := HS.out _ R1 wr.heap.size y (by omega) (by omega) (by omega) ((cell_of_row (wr.alloc (.cells #[.string (str y)] 9)) wr.heap.size 0 #[.string (str y)] 9 (0, 0) (heap_alloc_new wr _)).trans rfl)
        have F1 : Fr (RG r gb) w ((wr.alloc (.cells #[.string (str y)] 9)).drew.setCell ⟨gb, b, none⟩ (.slice (some ⟨wr.heap.size, 0, none⟩) 1 1)) := (HF.out.trans (Fr.of_below al)).setCell gb b _ (.inr rfl)
        have P1 : PickAt ((wr.alloc (.cells #[.string (str y)] 9)).drew.setCell ⟨gb, b, none⟩ (.slice (some ⟨wr.heap.size, 0, none⟩) 1 1)) gb sp m pk := pick_set (HP.out.below al) b _
        have O1 : OwnI ((wr.alloc (.cells #[.string (str y)] 9)).drew.setCell ⟨gb, b, none⟩ (.slice (some ⟨wr.heap.size, 0, none⟩) 1 1)) w.heap.size (.slice (some ⟨gl, 0, none⟩) L.length ac) L := ownsRow_setCell_below (owns_below HO.out al (Nat.le_refl _)) (a := ⟨gb, b, none⟩) (show gb < w.heap.size by omega) _
        have hglb : gl ≠ gb := by
          intro e
          obtain ⟨o1, o2⟩ := HO.out
          rcases o2 with ⟨h, _⟩ | ⟨g, _, _, hv, hg, _⟩
          · cases h
          · cases hv; omega
        have X2 : XC ((wr.alloc (.cells #[.string (str y)] 9)).drew.setCell ⟨gb, b, none⟩ (.slice (some ⟨wr.heap.size, 0, none⟩) 1 1)) r gb n cb gl k b (va' b) (0) y := ⟨(World.cell?_setCell_other _ _ _ _ (by intro e; exact HR.out.rg (congrArg Addr.block e).symm)).trans X1.c0, (World.cell?_setCell_other _ _ _ _ (by intro e; exact hglb (congrArg Addr.block e).symm)).trans X1.cl, (World.cell?_setCell_other _ _ _ _ (by intro e; exact hvne.2 (congrArg Addr.block e).symm)).trans X1.cs⟩
        clear hH
        refine hK.out _ _ X2 (fun hH => ?_)
        clear hK K
        (try simp only [Act.put, List.setIfInBounds_toArray, List.set_cons_zero, List.set_cons_succ])
        refine wpAnyH_done (by kernel_rfl) ?_ _
        clear hH
        have HR2 : Hid (RefW ((wr.alloc (.cells #[.string (str y)] 9)).drew.setCell ⟨gb, b, none⟩ (.slice (some ⟨wr.heap.size, 0, none⟩) 1 1)) base r n held left (fun i => T2.1 i :: T2.2 i) gb cb (updN va' b wr.heap.size) (updN vc' b 1)) := by
          refine RefW.congr R2 ?_
          funext j
          rw [hsucc.out]
          simp only [HY.out]
          unfold upd
          by_cases e : j = b
          · rw [if_pos e, if_pos e, if_pos e]
          · rw [if_neg e, if_neg e, if_neg e]
        have HV2 : Hid (VA w n va (updN va' b wr.heap.size)) := by
          intro j hj
          unfold updN
          by_cases e : j = b
          · rw [if_pos e]; exact .inr hszr
          · rw [if_neg e]; exact HV.out j hj
        have HF2 : Hid _ := F1
        have HP2 : Hid (PickAt _ _ _ _ _) := P1
        have HO2 : Hid (OwnI _ _ _ _) := O1
        clear R1 R2 F1 P1 O1 X1 X2 cg1 fg1 hz2 al HR HV HF HP HO HS hS0 hS1 c0 cs cg cL cgd HY hsucc
        go_wp2_with fail
        go_round
        case rel => exact ⟨k + 1, updN va' b wr.heap.size, updN vc' b 1, by omega, by go_num, by rw [HT2.out]; exact HR2.out, HV2, HF2, HP2, HO2⟩
        case measure => simp [intOf]; omega
    · obtain rfl : k = L.length := by omega
      have R1 : Hid _ := (HR.out.set1 false).set2 0
      have F1 : Hid (Fr (RG r gb) w ((wr.setCell ⟨r, 1, none⟩ (.bool false)).setCell ⟨r, 2, none⟩ (.int .i64 0))) := (HF.out.setCell r 1 _ (.inl rfl)).setCell r 2 _ (.inl rfl)
      have f1 := HR.out.fr 1; have f2 := HR.out.fr 2; have c1 := HR.out.at'.c1; have c2 := HR.out.at'.c2
      clear HR HF HP HO
      go_wp2_with fail
      go_end0
      exact ⟨rfl, ⟨va', ⟨vc', R1.out⟩, HV.out⟩, F1.out⟩
end
end Go.Proofs.Ytcmkgcdjjplgdaa
