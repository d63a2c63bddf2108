/- group.Put, group.read. -/
import Derived.Test.YtfbbdpapnegmcaaGlay
import Derived.Test.YtfbbdpapnegmcaaNGet
namespace Go.Proofs.Ytfbbdpapnegmcaa
open Go.RowKit
set_option maxHeartbeats 4000000 in
theorem gput_no (a i n no : Int) (bl sl : List UInt8) (hb : bl.length = 16) (hs : sl.length = 8) (hr : rgB a i n no bl sl = false) (w : World) :
    Calls Try.prog 8 #[.agg #[.int .i64 a, .int .i64 i, .int .i64 n], .agg (hA no bl sl)] w fun e w' => e = .returned (.tuple #[.slice none 0 0, .int .i64 1]) ∧ Below w.heap.size w w' := by
  have R0 := RW.start w a i n no bl sl hb hs
  have RT := gright_any a i n no bl sl hb hs
  rw [hr] at RT
  have HR : Hid _ := R0
  clear R0 hr
  go_enter Try.func8, Try.ntmps8
  go_wp2_with (first | ((with_reducible show wpList _ _ _ ({ dst := _, op := Op.load 28 _, type := _, pos := _, after := _, guard := _ } :: _) _ _); refine wpList_load_head rfl _ rfl (HR.out.head) rfl ?_))
  refine (RT _).mono ?_
  rintro e w1 ⟨rfl, h1⟩
  have R1 := HR.out.up h1
  go_wp2
  go_ret2
  exact ⟨rfl, R1.geo.2.2.2⟩
set_option maxRecDepth 100000 in
set_option maxHeartbeats 4000000 in
theorem gput_yes (a i n : Int) (no : Nat) (bl sl : List UInt8) (hb : bl.length = 16) (hs : sl.length = 8) (hr : rgB a i n no bl sl = true) (w : World) :
    Calls Try.prog 8 #[.agg #[.int .i64 a, .int .i64 i, .int .i64 n], .agg (hA no bl sl)] w fun e w' => ∃ G, e = .returned (.tuple #[.slice (some ⟨G, 0, none⟩) 256 256, .int .i64 0]) ∧ Blk w' G 62 (layL no (frN bl a).toNat (frN sl i).toNat bl sl) ∧ w.heap.size ≤ G ∧ Below w.heap.size w w' := by
  have R0 := RW.start w a i n no bl sl hb hs
  have RT := gright_any a i n no bl sl hb hs
  have LA := fun W => lay_yes a i n no bl sl hb hs hr W
  have HLN : Hid ((layL no (frN bl a).toNat (frN sl i).toNat bl sl).length = 256) := layL_length _ _ _ _ _ hb hs
  generalize layL no (frN bl a).toNat (frN sl i).toNat bl sl = B at LA HLN ⊢
  rw [hr] at RT
  obtain ⟨Z, hz, hzs, HZ⟩ := zero62
  clear HZ
  have HR : Hid _ := R0
  clear R0 hr
  go_enter Try.func8, Try.ntmps8
  go_wp2_with (first | ((with_reducible show wpList _ _ _ ({ dst := _, op := Op.load 28 _, type := _, pos := _, after := _, guard := _ } :: _) _ _); refine wpList_load_head rfl _ rfl (HR.out.head) rfl ?_))
  refine (RT _).mono ?_
  rintro e w1 ⟨rfl, h1⟩
  have HR1 : Hid _ := HR.out.up h1
  have q0 := HR1.out.geo.1; have q1 := HR1.out.geo.2.1; have q2 := HR1.out.geo.2.2.1
  clear HR h1 RT
  go_wp2_with (first | ((with_reducible show wpList _ _ _ ({ dst := _, op := Op.load 28 _, type := _, pos := _, after := _, guard := _ } :: _) _ _); refine wpList_load_head rfl _ rfl (HR1.out.head) rfl ?_))
  refine (LA _).mono ?_
  rintro e w2 ⟨rfl, h2⟩
  have HR2 : Hid (Below w.heap.size w w2) := (HR1.out.up h2).geo.2.2.2
  have HN : Hid ((w2.alloc (.cells Z 62)).heap[w2.heap.size]? = some (.cells Z 62 (0, 0))) := heap_alloc_new _ _
  have HNB : Hid (Below w.heap.size w (w2.alloc (.cells Z 62))) := HR2.out.alloc HR2.out.size _
  clear HR1 h2 LA q0 q1 q2
  go_wp2_with (first | ((with_reducible show wpList _ _ _ ({ dst := _, op := Op.store 62 _ _, type := _, pos := _, after := _, guard := _ } :: _) _ _); refine wpList_store_256 rfl _ _ rfl HN.out hzs HLN.out rfl rfl ?_; intro w8 G8 b8 z8))
  have HG8 : Hid _ := G8
  have HB8 : Hid (Below w.heap.size w w8) := HNB.out.trans (b8.mono HR2.out.size)
  clear G8 b8 z8
  go_wp2
  go_ret2
  exact ⟨_, rfl, HG8.out, HR2.out.size, HB8.out⟩
theorem getNum_two (x y : UInt8) : getNum [x, y] = x.toNat + 256 * y.toNat := by
  simp [getNum, pad8, leNum]
theorem two_of {l : List UInt8} (h : l.length = 2) : ∃ x y, l = [x, y] := by
  match l, h with
  | [x, y], _ => exact ⟨x, y, rfl⟩
theorem getNum_2lt {l : List UInt8} (h : l.length = 2) : getNum l < 65536 := by
  obtain ⟨x, y, rfl⟩ := two_of h
  have := x.toNat_lt; have := y.toNat_lt
  rw [getNum_two]; omega
theorem Src.part {w : World} {bb off : Nat} {l : List UInt8} (hs : Src w (some ⟨bb, off, none⟩) l) (o k : Nat) (h0 : 0 < l.length) (h : o + k ≤ l.length) : Src w (some ⟨bb, off + o, none⟩) ((l.drop o).take k) := by
  rcases hs with h1 | ⟨b', off', h1, h2, h3⟩
  · rw [h1] at h0; simp at h0
  · obtain ⟨rfl, rfl⟩ : bb = b' ∧ off = off' := by simpa using h1
    exact .inr ⟨bb, off + o, rfl, h2, fun j hj => by
      simp only [List.length_take, List.length_drop] at hj
      rw [Nat.add_assoc, h3 (o + j) (by omega)]; simp⟩
/-- 'copy' of the first of some bytes into the middle of a row. -/
theorem copy_midL {w : World} {g off n : Nat} (cap : Nat) {sp : Option Addr} (sLen sCap : Nat) {t : TypeId} {L : List Value} {l : List UInt8} (hg : RowAt w g t L) (hs : Src w sp l) (hl : l.length = n) (h0 : 0 < n) (hsl : n ≤ sLen) (hd : off + n ≤ L.length) :
    ∃ w1, (Builtin.copy_ #[24, 24] 3 #[.slice (some ⟨g, off, none⟩) n cap, .slice sp sLen sCap]).run Try.prog w = .ok (.int .i64 (n : Nat)) w1 ∧
      RowAt w1 g t (L.take off ++ bvs l ++ L.drop (off + n)) ∧ Below g w w1 ∧ w1.heap.size = w.heap.size := by
  obtain ⟨ad, had, hcs⟩ := hs.pos n (by rw [bvs_length, List.length_take]; omega)
  subst had
  rw [List.take_of_length_le (by omega)] at hcs
  have hrun := run_copy_row (P := Try.prog) w 24 24 3 5 g off n cap ad sLen sCap L.toArray t (bvs l) Try.underlying24 Try.elem1 hg (by rw [bvs_length, hl]; exact (Nat.min_eq_right hsl).symm) hcs (by simp only [bvs_length, List.size_toArray]; omega) (bvs_one _)
  rw [bvs_length, hl] at hrun
  refine ⟨_, hrun, ?_, below_setRow (Below.refl _ _) (Nat.le_refl _) _, by simp⟩
  unfold RowAt
  rw [setRow_heap w g _ (L.toArray.toList.take off ++ bvs l ++ L.toArray.toList.drop (off + n)).toArray t _ hg]
/-- What the bytes say. -/
def rdN (l : List UInt8) : Nat := getNum ((l.drop 4).take 2)
def rdB (l : List UInt8) : List UInt8 := (l.drop 16).take 16
def rdS (l : List UInt8) : List UInt8 := (l.drop 32).take 8
theorem rdB_length {l : List UInt8} (h : l.length = 256) : (rdB l).length = 16 := by simp [rdB, h]
theorem rdS_length {l : List UInt8} (h : l.length = 256) : (rdS l).length = 8 := by simp [rdS, h]
theorem rdN_lt {l : List UInt8} (h : l.length = 256) : rdN l < 65536 := getNum_2lt (by simp [h])
attribute [local go_sem] wrapI
set_option maxHeartbeats 4000000 in
theorem read_any (bb off cap : Nat) (l : List UInt8) (hl : l.length = 256) (w : World) (hsrc : Src w (some ⟨bb, off, none⟩) l) (hc : (256 : Int) ≤ cap) (hm : (cap : Int) ≤ 9223372036854775807) :
    Calls Try.prog 34 #[.slice (some ⟨bb, off, none⟩) 256 cap] w fun e w' => e = .returned (.agg (hA (rdN l) (rdB l) (rdS l))) ∧ Below w.heap.size w w' := by
  have hz := zero28
  have hne := hA_ne 0 z16 z8
  have HF : Hid (HeadAt (w.alloc (.cells (hA 0 z16 z8) 28)) w.heap.size 0 z16 z8) := head_new w 0 z16 z8 rfl rfl
  have HFB : Hid (Below w.heap.size w (w.alloc (.cells (hA 0 z16 z8) 28))) := (Below.refl _ _).alloc (Nat.le_refl _) _
  have NG : ∀ W, Below w.heap.size w W → Calls Try.prog 53 #[.slice (some ⟨bb, off + 4, none⟩) 2 (cap - 4)] W fun e w' => e = .returned (.int .u64 (rdN l : Int)) ∧ Below W.heap.size W w' := by
    intro W hW
    have h := nget_any (some ⟨bb, off + 4, none⟩) ((l.drop 4).take 2) (cap - 4) W ((hsrc.part 4 2 (by omega) (by omega)).below hW (Nat.le_refl _))
    rw [show ((l.drop 4).take 2).length = 2 by simp [hl]] at h
    exact h
  have zn := zero_no (rdN l : Int)
  have hlt := rdN_lt hl
  have HSB : Hid (Src w (some ⟨bb, off + 16, none⟩) (rdB l)) := hsrc.part 16 16 (by omega) (by omega)
  have HSS : Hid (Src w (some ⟨bb, off + 32, none⟩) (rdS l)) := hsrc.part 32 8 (by omega) (by omega)
  have HLB : Hid ((rdB l).length = 16) := rdB_length hl
  have HLS : Hid ((rdS l).length = 8) := rdS_length hl
  clear hsrc hl
  generalize rdN l = N at *
  generalize rdB l = BL at *
  generalize rdS l = SL at *
  have iN : In64 (N : Int) := ⟨by omega⟩
  have b1 : (6 : Int) ≤ cap := by omega
  have b2 : (16 : Int) ≤ cap := by omega
  have b3 : (32 : Int) ≤ cap := by omega
  have n1 : ¬ cap = 4 := by omega
  have n2 : ¬ cap = 16 := by omega
  have n3 : ¬ cap = 32 := by omega
  go_enter Try.func34, Try.ntmps34
  go_wp2_with fail
  refine (NG _ HFB.out).mono ?_
  rintro e w1 ⟨rfl, h1⟩
  have HF1 : Hid (HeadAt w1 w.heap.size 0 z16 z8) := HF.out.up h1
  have hl1 : w.heap.size < w1.heap.size := HF1.out.lt
  have HB1 : Hid (Below w.heap.size w w1) := HFB.out.trans (h1.mono HFB.out.size)
  have HN : Hid (HeadAt (w1.alloc (.cells (hA 0 z16 z8) 28)) w1.heap.size 0 z16 z8) := head_new w1 0 z16 z8 rfl rfl
  have HNB : Hid (Below w1.heap.size w1 (w1.alloc (.cells (hA 0 z16 z8) 28))) := (Below.refl _ _).alloc (Nat.le_refl _) _
  clear NG HF HFB h1
  go_wp2_with (first | ((with_reducible show wpList _ _ _ ({ dst := _, op := Op.store 28 _ _, type := _, pos := _, after := _, guard := _ } :: _) _ _); refine wpList_store_head rfl _ _ rfl (HN.out) rfl rfl rfl rfl ?_; intro w2 H2 b2' z2))
  have HB2 : Hid (Below w1.heap.size w1 w2) := HNB.out.trans b2'
  have H2' := H2.drew
  obtain ⟨w3, c3, r3, b3', _⟩ := copy_midL (off := 1) (n := 16) 16 240 (cap - 16) H2'.rowAt ((HSB.out.below (HB1.out.trans ((HB2.out).mono (by omega))) (Nat.le_refl _)).below (Below.refl _ _).drew (Nat.le_refl _)) HLB.out (by omega) (by omega) (by rw [hL_length rfl rfl]; omega)
  rw [hL_putB rfl] at r3
  have h3 : HeadAt w3 w1.heap.size N BL z8 := ⟨r3, HLB.out, rfl⟩
  have hb3 : Below w1.heap.size w1 w3 := (HB2.out.drew).trans b3'
  clear HN HNB H2 b2' z2 r3 b3' hne zn
  refine wp_region_held_drew (S := (fun W => True)) (by kernel_rfl) trivial (fun hH => ?_)
  refine takeH (i := 0) (dst := some 9) (v := ?v1) rfl rfl (by kernel_rfl) (by kernel_rfl) (by kernel_rfl) (fun _ _ _ h => h) rfl ?hy1 hH rfl ?rest1
  case hy1 => (intro W hW; clear hW; go_simp; try with_reducible rfl)
  (try simp only [Act.put, List.setIfInBounds_toArray, List.set_cons_zero, List.set_cons_succ])
  refine takeH (i := 1) (dst := some 10) (v := ?v2) rfl rfl (by kernel_rfl) (by kernel_rfl) (by kernel_rfl) (fun _ _ _ h => h) rfl ?hy2 hH rfl ?rest2
  case hy2 => (intro W hW; clear hW; go_simp; try with_reducible rfl)
  (try simp only [Act.put, List.setIfInBounds_toArray, List.set_cons_zero, List.set_cons_succ])
  refine takeH (i := 2) (dst := some 11) (v := ?v3) rfl rfl (by kernel_rfl) (by kernel_rfl) (by kernel_rfl) (fun _ _ _ h => h) rfl ?hy3 hH rfl ?rest3
  case hy3 => (intro W hW; clear hW; go_simp; try with_reducible rfl)
  (try simp only [Act.put, List.setIfInBounds_toArray, List.set_cons_zero, List.set_cons_succ])
  refine takeH (i := 3) (dst := some 12) (v := ?v4) rfl rfl (by kernel_rfl) (by kernel_rfl) (by kernel_rfl) (fun _ _ _ h => h) rfl ?hy4 hH rfl ?rest4
  case hy4 => (intro W hW; clear hW; go_simp; try with_reducible rfl)
  (try simp only [Act.put, List.setIfInBounds_toArray, List.set_cons_zero, List.set_cons_succ])
  refine callH (i := 4) { dst := some 13, op := Go.Op.call { callee := Go.Callee.builtin Go.Builtin.copy, args := #[Go.Operand.tmp 10, Go.Operand.tmp 12], argTypes := #[24, 24] }, type := 3, pos := "group.go:136", after := #[{ on := 1, ground := Go.Ground.data }, { on := 3, ground := Go.Ground.data }], guard := none } (by kernel_rfl) rfl rfl (fun K hK => ?_)
  go_simp
  clear hH
  refine hK.out _ _ trivial (fun hH => ?_)
  clear hK K
  (try simp only [Act.put, List.setIfInBounds_toArray, List.set_cons_zero, List.set_cons_succ])
  refine wpAnyH_done (by kernel_rfl) ?_ _
  clear hH
  have HH3 : Hid _ := h3
  have HB3 : Hid _ := hb3
  clear c3 h3 hb3 H2' HB2
  go_wp2_with fail
  have H3' := HH3.out.drew
  obtain ⟨w4, c4, r4, b4', _⟩ := copy_midL (off := 17) (n := 8) 8 224 (cap - 32) H3'.rowAt ((HSS.out.below (HB1.out.trans ((HB3.out).mono (by omega))) (Nat.le_refl _)).below (Below.refl _ _).drew (Nat.le_refl _)) HLS.out (by omega) (by omega) (by rw [hL_length HLB.out rfl]; omega)
  rw [hL_putS HLB.out rfl] at r4
  have h4 : HeadAt w4 w1.heap.size N BL SL := ⟨r4, HLB.out, HLS.out⟩
  have hb4 : Below w1.heap.size w1 w4 := (HB3.out.drew).trans b4'
  clear r4 b4'
  refine wp_region_held_drew (S := (fun W => True)) (by kernel_rfl) trivial (fun hH => ?_)
  refine takeH (i := 0) (dst := some 14) (v := ?v5) rfl rfl (by kernel_rfl) (by kernel_rfl) (by kernel_rfl) (fun _ _ _ h => h) rfl ?hy5 hH rfl ?rest5
  case hy5 => (intro W hW; clear hW; go_simp; try with_reducible rfl)
  (try simp only [Act.put, List.setIfInBounds_toArray, List.set_cons_zero, List.set_cons_succ])
  refine takeH (i := 1) (dst := some 15) (v := ?v6) rfl rfl (by kernel_rfl) (by kernel_rfl) (by kernel_rfl) (fun _ _ _ h => h) rfl ?hy6 hH rfl ?rest6
  case hy6 => (intro W hW; clear hW; go_simp; try with_reducible rfl)
  (try simp only [Act.put, List.setIfInBounds_toArray, List.set_cons_zero, List.set_cons_succ])
  refine takeH (i := 2) (dst := some 16) (v := ?v7) rfl rfl (by kernel_rfl) (by kernel_rfl) (by kernel_rfl) (fun _ _ _ h => h) rfl ?hy7 hH rfl ?rest7
  case hy7 => (intro W hW; clear hW; go_simp; try with_reducible rfl)
  (try simp only [Act.put, List.setIfInBounds_toArray, List.set_cons_zero, List.set_cons_succ])
  refine takeH (i := 3) (dst := some 17) (v := ?v8) rfl rfl (by kernel_rfl) (by kernel_rfl) (by kernel_rfl) (fun _ _ _ h => h) rfl ?hy8 hH rfl ?rest8
  case hy8 => (intro W hW; clear hW; go_simp; try with_reducible rfl)
  (try simp only [Act.put, List.setIfInBounds_toArray, List.set_cons_zero, List.set_cons_succ])
  refine callH (i := 4) { dst := some 18, op := Go.Op.call { callee := Go.Callee.builtin Go.Builtin.copy, args := #[Go.Operand.tmp 15, Go.Operand.tmp 17], argTypes := #[24, 24] }, type := 3, pos := "group.go:137", after := #[{ on := 1, ground := Go.Ground.data }, { on := 3, ground := Go.Ground.data }], guard := none } (by kernel_rfl) rfl rfl (fun K hK => ?_)
  go_simp
  clear hH
  refine hK.out _ _ trivial (fun hH => ?_)
  clear hK K
  (try simp only [Act.put, List.setIfInBounds_toArray, List.set_cons_zero, List.set_cons_succ])
  refine wpAnyH_done (by kernel_rfl) ?_ _
  clear hH
  have HH4 : Hid _ := h4
  have HR4 : Hid _ := HF1.out.below hb4 hl1
  have HB4 : Hid (Below w.heap.size w w4) := HB1.out.trans (hb4.mono (by omega))
  clear c4 h4 hb4 H3' HB3 HH3 HF1
  go_wp2_with (first | ((with_reducible show wpList _ _ _ ({ dst := _, op := Op.load 28 _, type := _, pos := _, after := _, guard := _ } :: _) _ _); refine wpList_load_head rfl _ rfl (HH4.out) rfl ?_) | ((with_reducible show wpList _ _ _ ({ dst := _, op := Op.store 28 _ _, type := _, pos := _, after := _, guard := _ } :: _) _ _); refine wpList_store_head rfl _ _ rfl (HR4.out) HLB.out HLS.out rfl rfl ?_; intro w7 H7 b7 z7))
  exact bodyPost_ret (results_cell_row rfl _ _ w.heap.size 28 _ (0, 0) _ rfl H7.row Try.underlying28 rfl (by rw [Try.sz28, hA_size H7.lb H7.ls])) rfl ⟨rfl, HB4.out.trans (b7.mono (by omega))⟩
end Go.Proofs.Ytfbbdpapnegmcaa
