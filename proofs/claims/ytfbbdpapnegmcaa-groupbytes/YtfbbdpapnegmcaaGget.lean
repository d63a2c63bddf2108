/- group.Get. -/
import Derived.Test.YtfbbdpapnegmcaaGread
import Derived.Laws.Cover3
namespace Go.Proofs.Ytfbbdpapnegmcaa
open Go.RowKit
theorem exec_load_head {ev : Operand → Value} {oi : Oper} {x : Operand} {w : World} {p : Nat} {no : Int} {bl sl : List UInt8} (H : HeadAt w p no bl sl) (ho : oi.op = .load 28 x) (hx : ev x = .pointer (some ⟨p, 0, none⟩)) :
    (execOp ev oi).run Try.prog w = .ok (.value (.agg (hA no bl sl))) w := by
  unfold execOp
  simp only [ho, hx, Instr.loadAt, Instr.sureAddr, Sem.run_bind, Sem.run_pure, Result.andThen_ok, run_loadVar_row w p 28 28 _ _ _ H.row Try.underlying28 rfl (by rw [Try.sz28, hA_size H.lb H.ls])]
theorem src_range {w : World} {b o : Nat} {l : List UInt8} (h : Src w (some ⟨b, o, none⟩) l) : w.rangeAt b o (bvs l) := fun j v hv => by
  have hj : j < (bvs l).length := (List.getElem?_eq_some_iff.1 hv).1
  rw [bvs_length] at hj
  rw [h.cell j hj]
  simpa [bvs, hj] using hv
theorem exec_load_256 {ev : Operand → Value} {oi : Oper} {x : Operand} {w : World} {b o : Nat} {l : List UInt8} (H : Src w (some ⟨b, o, none⟩) l) (hl : l.length = 256) (ho : oi.op = .load 62 x) (hx : ev x = .pointer (some ⟨b, o, none⟩)) :
    (execOp ev oi).run Try.prog w = .ok (.value (.agg (bvs l).toArray)) w := by
  unfold execOp
  simp only [ho, hx, Instr.loadAt, Instr.sureAddr, Sem.run_bind, Sem.run_pure, Result.andThen_ok, run_loadVar_mid w b o 62 (bvs l) _ (src_range H) Try.underlying62 rfl (by rw [Try.sz62, bvs_length, hl])]
theorem run_neq_256 {x y : List UInt8} (hx : x.length = 256) (hy : y.length = 256) (w : World) : (binOp .neq 62 (.agg (bvs x).toArray) (.agg (bvs y).toArray)).run Try.prog w = .ok (.bool (!(x == y))) w := by
  rw [run_neq_struct, show (Op.equalIn 10000 62 (.agg (bvs x).toArray) (.agg (bvs y).toArray)).run Try.prog w = .ok (x == y) w from run_equalIn_bytes w 9998 62 5 256 Try.underlying62 Try.underlying5 size5 x y hx hy]
  rfl
theorem exec_neq_256 {ev : Operand → Value} {oi : Oper} {X Y : Operand} {w : World} {x y : List UInt8} (hx : x.length = 256) (hy : y.length = 256) {b : Bool} (hb : (!(x == y)) = b) (ho : oi.op = .binOp .neq 62 X Y 62) (eX : ev X = .agg (bvs x).toArray) (eY : ev Y = .agg (bvs y).toArray) :
    (execOp ev oi).run Try.prog w = .ok (.value (.bool b)) w := by
  subst hb
  have hg : ∀ A B (w : World), (eqGuard .neq 62 X Y (.agg A) (.agg B)).run Try.prog w = .ok () w := fun A B w => run_eqGuard_agg w .neq 62 X Y A B (by kernel_rfl)
  unfold execOp
  simp only [ho, eX, eY]
  simp [hg, run_neq_256 hx hy, Result.andThen]
/-- What Get has laid. -/
structure GW (w0 : World) (a i n : Int) (bb off : Nat) (l : List UInt8) (q : Nat) (W : World) : Prop where
  f : F0 w0 a i n W
  head : HeadAt W q (rdN l : Int) (rdB l) (rdS l)
  src : Src W (some ⟨bb, off, none⟩) l
theorem GW.geo {w0 W : World} {a i n : Int} {bb off q : Nat} {l : List UInt8} (h : GW w0 a i n bb off l q W) : Lies w0 w0.heap.size a i n W := h.f.geo
theorem GW.up {w0 W W' : World} {a i n : Int} {bb off q : Nat} {l : List UInt8} (h : GW w0 a i n bb off l q W) (hb : Below W.heap.size W W') : GW w0 a i n bb off l q W' := ⟨h.f.up hb, h.head.up hb, h.src.below hb (Nat.le_refl _)⟩
set_option maxHeartbeats 4000000 in
theorem gget_geo (a i n : Int) (sp : Option Addr) (len cap : Nat) (hok : okB a i n = false) (w : World) :
    Calls Try.prog 11 #[.agg #[.int .i64 a, .int .i64 i, .int .i64 n], .slice sp len cap] w fun e w' => e = .returned (.tuple #[.agg (hA 0 z16 z8), .int .i64 1]) ∧ Below w.heap.size w w' := by
  have HF : Hid _ := F0.start w a i n
  have RT := right_any a i n
  rw [hok] at RT
  have hz := zero28
  clear hok
  go_enter Try.func11, Try.ntmps11
  go_wp2_with fail
  refine (RT _).mono ?_
  rintro e w1 ⟨rfl, h1⟩
  have HF1 : Hid _ := HF.out.up h1
  clear HF RT h1
  go_wp2_with (first | ((with_reducible show wpList _ _ _ ({ dst := _, op := Op.store 28 _ _, type := _, pos := _, after := _, guard := _ } :: _) _ _); refine wpList_store_head rfl _ _ rfl (HF1.out.res) rfl rfl rfl rfl ?_; intro w4 H4 b4 z4))
  exact bodyPost_ret (results_head rfl _ H4 rfl) rfl ⟨rfl, HF1.out.geo.2.2.2.trans (b4.mono (by omega))⟩
set_option maxHeartbeats 4000000 in
theorem gget_size (a i n : Int) (sp : Option Addr) (len cap : Nat) (hok : okB a i n = true) (hl : ¬ (len : Int) = 256) (w : World) :
    Calls Try.prog 11 #[.agg #[.int .i64 a, .int .i64 i, .int .i64 n], .slice sp len cap] w fun e w' => e = .returned (.tuple #[.agg (hA 0 z16 z8), .int .i64 4]) ∧ Below w.heap.size w w' := by
  have HF : Hid _ := F0.start w a i n
  have RT := right_any a i n
  rw [hok] at RT
  have hz := zero28
  clear hok
  go_enter Try.func11, Try.ntmps11
  go_wp2_with fail
  refine (RT _).mono ?_
  rintro e w1 ⟨rfl, h1⟩
  have HF1 : Hid _ := HF.out.up h1
  clear HF RT h1
  go_wp2_with (first | ((with_reducible show wpList _ _ _ ({ dst := _, op := Op.store 28 _ _, type := _, pos := _, after := _, guard := _ } :: _) _ _); refine wpList_store_head rfl _ _ rfl (HF1.out.res) rfl rfl rfl rfl ?_; intro w4 H4 b4 z4))
  exact bodyPost_ret (results_head rfl _ H4 rfl) rfl ⟨rfl, HF1.out.geo.2.2.2.trans (b4.mono (by omega))⟩
/-- The bytes that the header would have that these bytes say. -/
def backL (a i : Int) (l : List UInt8) : List UInt8 := layL (rdN l) (frN (rdB l) a).toNat (frN (rdS l) i).toNat (rdB l) (rdS l)
/-- Are the bytes those of a header? -/
def formB (a i n : Int) (l : List UInt8) : Bool := rgB a i n (rdN l) (rdB l) (rdS l) && (backL a i l == l)
set_option maxRecDepth 100000 in
set_option maxHeartbeats 4000000 in
theorem gget_bad (a i n : Int) (bb off cap : Nat) (l : List UInt8) (hl : l.length = 256) (hok : okB a i n = true) (hr : rgB a i n (rdN l) (rdB l) (rdS l) = false) (w : World) (hsrc : Src w (some ⟨bb, off, none⟩) l) (hc : (256 : Int) ≤ cap) (hm : (cap : Int) ≤ 9223372036854775807) :
    Calls Try.prog 11 #[.agg #[.int .i64 a, .int .i64 i, .int .i64 n], .slice (some ⟨bb, off, none⟩) 256 cap] w fun e w' => e = .returned (.tuple #[.agg (hA 0 z16 z8), .int .i64 8]) ∧ Below w.heap.size w w' := by
  have HF : Hid _ := F0.start w a i n
  have RT := right_any a i n
  rw [hok] at RT
  have hz := zero28
  have RD := fun W (h : Src W (some ⟨bb, off, none⟩) l) => read_any bb off cap l hl W h hc hm
  have HSR : Hid (Src w (some ⟨bb, off, none⟩) l) := hsrc
  have HLB : Hid ((rdB l).length = 16) := rdB_length hl
  have HLS : Hid ((rdS l).length = 8) := rdS_length hl
  have GR := gright_any a i n (rdN l) (rdB l) (rdS l) HLB.out HLS.out
  rw [hr] at GR
  clear hok hsrc
  go_enter Try.func11, Try.ntmps11
  go_wp2_with fail
  refine (RT _).mono ?_
  rintro e w1 ⟨rfl, h1⟩
  have HF1 : Hid _ := HF.out.up h1
  have hsz1 := HF1.out.geo.2.2.2.size
  clear HF RT h1
  go_wp2_with fail
  refine (RD _ (HSR.out.below HF1.out.geo.2.2.2 (Nat.le_refl _))).mono ?_
  rintro e w2 ⟨rfl, h2⟩
  have HF2 : Hid _ := HF1.out.up h2
  have hl2 := HF2.out.res.lt
  clear RD HF1 h2
  have HN : Hid (HeadAt (w2.alloc (.cells (hA 0 z16 z8) 28)) w2.heap.size 0 z16 z8) := head_new w2 0 z16 z8 rfl rfl
  have HNB : Hid (Below w2.heap.size w2 (w2.alloc (.cells (hA 0 z16 z8) 28))) := (Below.refl _ _).alloc (Nat.le_refl _) _
  go_wp2_with (first | ((with_reducible show wpList _ _ _ ({ dst := _, op := Op.store 28 _ _, type := _, pos := _, after := _, guard := _ } :: _) _ _); refine wpList_store_head rfl _ _ rfl (HN.out) HLB.out HLS.out rfl rfl ?_; intro w3 H3 b3 z3))
  have f3 : F0 w a i n w3 := (HF2.out.up HNB.out).below b3 hl2
  have g3 : GW w a i n bb off l w2.heap.size w3 := ⟨f3, H3, HSR.out.below f3.geo.2.2.2 (Nat.le_refl _)⟩
  have gd := g3.up (Below.refl _ _).drew
  clear f3 g3 H3 b3 z3 HN HNB HF2 HSR
  refine wp_region_held_drew (S := (fun W => GW w a i n bb off l w2.heap.size W)) (by kernel_rfl) gd (fun hH => ?_)
  refine takeH (i := 0) (dst := some 17) (v := ?v1) rfl rfl (by kernel_rfl) (by kernel_rfl) (by kernel_rfl) (fun _ _ _ h => h) rfl ?hy1 hH rfl ?rest1
  case hy1 => (intro W hW; have q0 := hW.geo.1; have q1 := hW.geo.2.1; have q2 := hW.geo.2.2.1; clear hW; go_simp; try with_reducible rfl)
  (try simp only [Act.put, List.setIfInBounds_toArray, List.set_cons_zero, List.set_cons_succ])
  refine takeH (i := 1) (dst := some 18) (v := ?v2) rfl rfl (by kernel_rfl) (by kernel_rfl) (by kernel_rfl) (fun _ _ _ h => h) rfl ?hy2 hH rfl ?rest2
  case hy2 => (intro W hW; refine exec_load_head (x := Operand.tmp 6) hW.head ?_ ?_ <;> rfl)
  (try simp only [Act.put, List.setIfInBounds_toArray, List.set_cons_zero, List.set_cons_succ])
  refine callH (i := 2) { dst := some 19, op := Go.Op.call { callee := Go.Callee.value (Go.Operand.func 16), args := #[Go.Operand.tmp 17, Go.Operand.tmp 18], argTypes := #[23, 28] }, type := 4, pos := "group.go:127", after := #[{ on := 0, ground := Go.Ground.data }, { on := 1, ground := Go.Ground.data }], guard := none } (by kernel_rfl) rfl rfl (fun K hK => ?_)
  go_simp
  refine (GR _).mono ?_
  rintro e v1 ⟨rfl, n1⟩
  have m1 := gd.up n1
  clear n1
  clear hH
  refine hK.out _ _ m1 (fun hH => ?_)
  clear hK K
  (try simp only [Act.put, List.setIfInBounds_toArray, List.set_cons_zero, List.set_cons_succ])
  refine takeH (i := 3) (dst := some 20) (v := ?v3) rfl rfl (by kernel_rfl) (by kernel_rfl) (by kernel_rfl) (fun _ _ _ h => h) rfl ?hy3 hH rfl ?rest3
  case hy3 => (intro W hW; have q0 := hW.geo.1; have q1 := hW.geo.2.1; have q2 := hW.geo.2.2.1; clear hW; go_simp; try with_reducible rfl)
  (try simp only [Act.put, List.setIfInBounds_toArray, List.set_cons_zero, List.set_cons_succ])
  refine takeH (i := 4) (dst := some 21) (v := ?v4) rfl rfl (by kernel_rfl) (by kernel_rfl) (by kernel_rfl) (fun _ _ _ h => h) rfl ?hy4 hH rfl ?rest4
  case hy4 => (intro W hW; have q0 := hW.geo.1; have q1 := hW.geo.2.1; have q2 := hW.geo.2.2.1; clear hW; go_simp; try with_reducible rfl)
  (try simp only [Act.put, List.setIfInBounds_toArray, List.set_cons_zero, List.set_cons_succ])
  refine takeU (i := 5) (dst := some 22) rfl rfl (by kernel_rfl) (by kernel_rfl) (by kernel_rfl) (fun _ _ _ h => h) rfl hH rfl ?_
  (try simp only [Act.put, List.setIfInBounds_toArray, List.set_cons_zero, List.set_cons_succ])
  refine takeU (i := 6) (dst := some 23) rfl rfl (by kernel_rfl) (by kernel_rfl) (by kernel_rfl) (fun _ _ _ h => h) rfl hH rfl ?_
  (try simp only [Act.put, List.setIfInBounds_toArray, List.set_cons_zero, List.set_cons_succ])
  refine takeU (i := 7) (dst := some 24) rfl rfl (by kernel_rfl) (by kernel_rfl) (by kernel_rfl) (fun _ _ _ h => h) rfl hH rfl ?_
  (try simp only [Act.put, List.setIfInBounds_toArray, List.set_cons_zero, List.set_cons_succ])
  refine takeU (i := 8) (dst := some 25) rfl rfl (by kernel_rfl) (by kernel_rfl) (by kernel_rfl) (fun _ _ _ h => h) rfl hH rfl ?_
  (try simp only [Act.put, List.setIfInBounds_toArray, List.set_cons_zero, List.set_cons_succ])
  refine takeU (i := 9) (dst := some 26) rfl rfl (by kernel_rfl) (by kernel_rfl) (by kernel_rfl) (fun _ _ _ h => h) rfl hH rfl ?_
  (try simp only [Act.put, List.setIfInBounds_toArray, List.set_cons_zero, List.set_cons_succ])
  refine takeU (i := 10) (dst := some 27) rfl rfl (by kernel_rfl) (by kernel_rfl) (by kernel_rfl) (fun _ _ _ h => h) rfl hH rfl ?_
  (try simp only [Act.put, List.setIfInBounds_toArray, List.set_cons_zero, List.set_cons_succ])
  refine takeU (i := 11) (dst := some 28) rfl rfl (by kernel_rfl) (by kernel_rfl) (by kernel_rfl) (fun _ _ _ h => h) rfl hH rfl ?_
  (try simp only [Act.put, List.setIfInBounds_toArray, List.set_cons_zero, List.set_cons_succ])
  refine takeH (i := 12) (dst := some 29) (v := ?v5) rfl rfl (by kernel_rfl) (by kernel_rfl) (by kernel_rfl) (fun _ _ _ h => h) rfl ?hy5 hH rfl ?rest5
  case hy5 => (intro W hW; have q0 := hW.geo.1; have q1 := hW.geo.2.1; have q2 := hW.geo.2.2.1; clear hW; go_simp; try with_reducible rfl)
  (try simp only [Act.put, List.setIfInBounds_toArray, List.set_cons_zero, List.set_cons_succ])
  refine wpAnyH_done (by kernel_rfl) ?_ _
  clear hH
  have HM : Hid _ := m1
  clear m1 gd
  go_wp2_with (first | ((with_reducible show wpList _ _ _ ({ dst := _, op := Op.store 28 _ _, type := _, pos := _, after := _, guard := _ } :: _) _ _); refine wpList_store_head rfl _ _ rfl (HM.out.f.res) rfl rfl rfl rfl ?_; intro w7 H7 b7 z7))
  exact bodyPost_ret (results_head rfl _ H7 rfl) rfl ⟨rfl, HM.out.geo.2.2.2.trans (b7.mono (by omega))⟩
set_option maxRecDepth 100000 in
set_option maxHeartbeats 4000000 in
theorem gget_form (a i n : Int) (bb off cap : Nat) (l : List UInt8) (hl : l.length = 256) (hok : okB a i n = true) (hr : rgB a i n (rdN l) (rdB l) (rdS l) = true) (hne : (backL a i l == l) = false) (w : World) (hsrc : Src w (some ⟨bb, off, none⟩) l) (hc : (256 : Int) ≤ cap) (hm : (cap : Int) ≤ 9223372036854775807) :
    Calls Try.prog 11 #[.agg #[.int .i64 a, .int .i64 i, .int .i64 n], .slice (some ⟨bb, off, none⟩) 256 cap] w fun e w' => e = .returned (.tuple #[.agg (hA 0 z16 z8), .int .i64 8]) ∧ Below w.heap.size w w' := by
  have HF : Hid _ := F0.start w a i n
  have RT := right_any a i n
  rw [hok] at RT
  have hz := zero28
  have RD := fun W (h : Src W (some ⟨bb, off, none⟩) l) => read_any bb off cap l hl W h hc hm
  have HSR : Hid (Src w (some ⟨bb, off, none⟩) l) := hsrc
  have HLB : Hid ((rdB l).length = 16) := rdB_length hl
  have HLS : Hid ((rdS l).length = 8) := rdS_length hl
  have GR := gright_any a i n (rdN l) (rdB l) (rdS l) HLB.out HLS.out
  rw [hr] at GR
  have LA := fun W => lay_yes a i n (rdN l) (rdB l) (rdS l) HLB.out HLS.out hr W
  have HBL : Hid ((backL a i l).length = 256) := layL_length _ _ _ _ _ HLB.out HLS.out
  have HNE : Hid ((!(backL a i l == l)) = true) := by rw [show (backL a i l == l) = false from hne]; rfl
  rw [show layL (rdN l) (frN (rdB l) a).toNat (frN (rdS l) i).toNat (rdB l) (rdS l) = backL a i l from rfl] at LA
  clear hne
  have hat : ∀ w, (Instr.arrayAt 62 (.slice (some ⟨bb, off, none⟩) 256 cap)).run Try.prog w = .ok (.pointer (some ⟨bb, off, none⟩)) w := fun w => run_arrayAt w 62 _ 256 _ 256 cap Try.underlying62 (Nat.le_refl _)
  clear hok hsrc
  go_enter Try.func11, Try.ntmps11
  go_wp2_with fail
  refine (RT _).mono ?_
  rintro e w1 ⟨rfl, h1⟩
  have HF1 : Hid _ := HF.out.up h1
  have hsz1 := HF1.out.geo.2.2.2.size
  clear HF RT h1
  go_wp2_with fail
  refine (RD _ (HSR.out.below HF1.out.geo.2.2.2 (Nat.le_refl _))).mono ?_
  rintro e w2 ⟨rfl, h2⟩
  have HF2 : Hid _ := HF1.out.up h2
  have hl2 := HF2.out.res.lt
  clear RD HF1 h2
  have HN : Hid (HeadAt (w2.alloc (.cells (hA 0 z16 z8) 28)) w2.heap.size 0 z16 z8) := head_new w2 0 z16 z8 rfl rfl
  have HNB : Hid (Below w2.heap.size w2 (w2.alloc (.cells (hA 0 z16 z8) 28))) := (Below.refl _ _).alloc (Nat.le_refl _) _
  go_wp2_with (first | ((with_reducible show wpList _ _ _ ({ dst := _, op := Op.store 28 _ _, type := _, pos := _, after := _, guard := _ } :: _) _ _); refine wpList_store_head rfl _ _ rfl (HN.out) HLB.out HLS.out rfl rfl ?_; intro w3 H3 b3 z3))
  have f3 : F0 w a i n w3 := (HF2.out.up HNB.out).below b3 hl2
  have g3 : GW w a i n bb off l w2.heap.size w3 := ⟨f3, H3, HSR.out.below f3.geo.2.2.2 (Nat.le_refl _)⟩
  have gd := g3.up (Below.refl _ _).drew
  clear f3 g3 H3 b3 z3 HN HNB HF2 HSR
  refine wp_region_held_drew (S := (fun W => GW w a i n bb off l w2.heap.size W)) (by kernel_rfl) gd (fun hH => ?_)
  refine takeH (i := 0) (dst := some 17) (v := ?v6) rfl rfl (by kernel_rfl) (by kernel_rfl) (by kernel_rfl) (fun _ _ _ h => h) rfl ?hy6 hH rfl ?rest6
  case hy6 => (intro W hW; have q0 := hW.geo.1; have q1 := hW.geo.2.1; have q2 := hW.geo.2.2.1; clear hW; go_simp; try with_reducible rfl)
  (try simp only [Act.put, List.setIfInBounds_toArray, List.set_cons_zero, List.set_cons_succ])
  refine takeH (i := 1) (dst := some 18) (v := ?v7) rfl rfl (by kernel_rfl) (by kernel_rfl) (by kernel_rfl) (fun _ _ _ h => h) rfl ?hy7 hH rfl ?rest7
  case hy7 => (intro W hW; refine exec_load_head (x := Operand.tmp 6) hW.head ?_ ?_ <;> rfl)
  (try simp only [Act.put, List.setIfInBounds_toArray, List.set_cons_zero, List.set_cons_succ])
  refine callH (i := 2) { dst := some 19, op := Go.Op.call { callee := Go.Callee.value (Go.Operand.func 16), args := #[Go.Operand.tmp 17, Go.Operand.tmp 18], argTypes := #[23, 28] }, type := 4, pos := "group.go:127", after := #[{ on := 0, ground := Go.Ground.data }, { on := 1, ground := Go.Ground.data }], guard := none } (by kernel_rfl) rfl rfl (fun K hK => ?_)
  go_simp
  refine (GR _).mono ?_
  rintro e v1 ⟨rfl, n1⟩
  have m1 := gd.up n1
  clear n1
  clear hH
  refine hK.out _ _ m1 (fun hH => ?_)
  clear hK K
  (try simp only [Act.put, List.setIfInBounds_toArray, List.set_cons_zero, List.set_cons_succ])
  refine takeH (i := 3) (dst := some 20) (v := ?v8) rfl rfl (by kernel_rfl) (by kernel_rfl) (by kernel_rfl) (fun _ _ _ h => h) rfl ?hy8 hH rfl ?rest8
  case hy8 => (intro W hW; have q0 := hW.geo.1; have q1 := hW.geo.2.1; have q2 := hW.geo.2.2.1; clear hW; go_simp; try with_reducible rfl)
  (try simp only [Act.put, List.setIfInBounds_toArray, List.set_cons_zero, List.set_cons_succ])
  refine takeH (i := 4) (dst := some 21) (v := ?v9) rfl rfl (by kernel_rfl) (by kernel_rfl) (by kernel_rfl) (fun _ _ _ h => h) rfl ?hy9 hH rfl ?rest9
  case hy9 => (intro W hW; have q0 := hW.geo.1; have q1 := hW.geo.2.1; have q2 := hW.geo.2.2.1; clear hW; go_simp; try with_reducible rfl)
  (try simp only [Act.put, List.setIfInBounds_toArray, List.set_cons_zero, List.set_cons_succ])
  refine takeH (i := 5) (dst := some 22) (v := ?v10) rfl rfl (by kernel_rfl) (by kernel_rfl) (by kernel_rfl) (fun _ _ _ h => h) rfl ?hy10 hH rfl ?rest10
  case hy10 => (intro W hW; have q0 := hW.geo.1; have q1 := hW.geo.2.1; have q2 := hW.geo.2.2.1; clear hW; go_simp; try with_reducible rfl)
  (try simp only [Act.put, List.setIfInBounds_toArray, List.set_cons_zero, List.set_cons_succ])
  refine takeH (i := 6) (dst := some 23) (v := ?v11) rfl rfl (by kernel_rfl) (by kernel_rfl) (by kernel_rfl) (fun _ _ _ h => h) rfl ?hy11 hH rfl ?rest11
  case hy11 => (intro W hW; refine exec_load_head (x := Operand.tmp 6) hW.head ?_ ?_ <;> rfl)
  (try simp only [Act.put, List.setIfInBounds_toArray, List.set_cons_zero, List.set_cons_succ])
  refine takeH (i := 8) (dst := some 25) (v := ?v12) rfl rfl (by kernel_rfl) (by kernel_rfl) (by kernel_rfl) (fun _ _ _ h => h) rfl ?hy12 hH rfl ?rest12
  case hy12 => (intro W hW; have q0 := hW.geo.1; have q1 := hW.geo.2.1; have q2 := hW.geo.2.2.1; clear hW; go_simp; try with_reducible rfl)
  (try simp only [Act.put, List.setIfInBounds_toArray, List.set_cons_zero, List.set_cons_succ])
  refine takeH (i := 9) (dst := some 26) (v := ?v13) rfl rfl (by kernel_rfl) (by kernel_rfl) (by kernel_rfl) (fun _ _ _ h => h) rfl ?hy13 hH rfl ?rest13
  case hy13 => (intro W hW; have q0 := hW.geo.1; have q1 := hW.geo.2.1; have q2 := hW.geo.2.2.1; clear hW; go_simp; try with_reducible rfl)
  (try simp only [Act.put, List.setIfInBounds_toArray, List.set_cons_zero, List.set_cons_succ])
  refine takeH (i := 10) (dst := some 27) (v := ?v14) rfl rfl (by kernel_rfl) (by kernel_rfl) (by kernel_rfl) (fun _ _ _ h => h) rfl ?hy14 hH rfl ?rest14
  case hy14 => (intro W hW; refine exec_load_256 (x := Operand.tmp 26) hW.src hl ?_ ?_ <;> rfl)
  (try simp only [Act.put, List.setIfInBounds_toArray, List.set_cons_zero, List.set_cons_succ])
  refine callH (i := 7) { dst := some 24, op := Go.Op.call { callee := Go.Callee.value (Go.Operand.func 31), args := #[Go.Operand.tmp 22, Go.Operand.tmp 23], argTypes := #[23, 28] }, type := 62, pos := "group.go:127", after := #[{ on := 5, ground := Go.Ground.data }, { on := 6, ground := Go.Ground.data }, { on := 4, ground := Go.Ground.chain }, { on := 4, ground := Go.Ground.guard }], guard := some (4, false) } (by kernel_rfl) rfl rfl (fun K hK => ?_)
  go_simp
  refine (LA _).mono ?_
  rintro e v2 ⟨rfl, n2⟩
  have m2 := m1.up n2
  clear n2
  clear hH
  refine hK.out _ _ m2 (fun hH => ?_)
  clear hK K
  (try simp only [Act.put, List.setIfInBounds_toArray, List.set_cons_zero, List.set_cons_succ])
  refine takeH (i := 11) (dst := some 28) (v := ?v15) rfl rfl (by kernel_rfl) (by kernel_rfl) (by kernel_rfl) (fun _ _ _ h => h) rfl ?hy15 hH rfl ?rest15
  case hy15 => (intro W hW; refine exec_neq_256 (X := Operand.tmp 24) (Y := Operand.tmp 27) HBL.out hl HNE.out ?_ ?_ ?_ <;> rfl)
  (try simp only [Act.put, List.setIfInBounds_toArray, List.set_cons_zero, List.set_cons_succ])
  refine takeH (i := 12) (dst := some 29) (v := ?v16) rfl rfl (by kernel_rfl) (by kernel_rfl) (by kernel_rfl) (fun _ _ _ h => h) rfl ?hy16 hH rfl ?rest16
  case hy16 => (intro W hW; have q0 := hW.geo.1; have q1 := hW.geo.2.1; have q2 := hW.geo.2.2.1; clear hW; go_simp; try with_reducible rfl)
  (try simp only [Act.put, List.setIfInBounds_toArray, List.set_cons_zero, List.set_cons_succ])
  refine wpAnyH_done (by kernel_rfl) ?_ _
  clear hH
  have HM : Hid _ := m2
  clear m2 gd m1
  go_wp2_with (first | ((with_reducible show wpList _ _ _ ({ dst := _, op := Op.store 28 _ _, type := _, pos := _, after := _, guard := _ } :: _) _ _); refine wpList_store_head rfl _ _ rfl (HM.out.f.res) rfl rfl rfl rfl ?_; intro w7 H7 b7 z7))
  exact bodyPost_ret (results_head rfl _ H7 rfl) rfl ⟨rfl, HM.out.geo.2.2.2.trans (b7.mono (by omega))⟩
set_option maxRecDepth 100000 in
set_option maxHeartbeats 4000000 in
theorem gget_ok (a i n : Int) (bb off cap : Nat) (l : List UInt8) (hl : l.length = 256) (hok : okB a i n = true) (hr : rgB a i n (rdN l) (rdB l) (rdS l) = true) (hne : (backL a i l == l) = true) (w : World) (hsrc : Src w (some ⟨bb, off, none⟩) l) (hc : (256 : Int) ≤ cap) (hm : (cap : Int) ≤ 9223372036854775807) :
    Calls Try.prog 11 #[.agg #[.int .i64 a, .int .i64 i, .int .i64 n], .slice (some ⟨bb, off, none⟩) 256 cap] w fun e w' => e = .returned (.tuple #[.agg (hA (rdN l) (rdB l) (rdS l)), .int .i64 0]) ∧ Below w.heap.size w w' := by
  have HF : Hid _ := F0.start w a i n
  have RT := right_any a i n
  rw [hok] at RT
  have hz := zero28
  have RD := fun W (h : Src W (some ⟨bb, off, none⟩) l) => read_any bb off cap l hl W h hc hm
  have HSR : Hid (Src w (some ⟨bb, off, none⟩) l) := hsrc
  have HLB : Hid ((rdB l).length = 16) := rdB_length hl
  have HLS : Hid ((rdS l).length = 8) := rdS_length hl
  have GR := gright_any a i n (rdN l) (rdB l) (rdS l) HLB.out HLS.out
  rw [hr] at GR
  have LA := fun W => lay_yes a i n (rdN l) (rdB l) (rdS l) HLB.out HLS.out hr W
  have HBL : Hid ((backL a i l).length = 256) := layL_length _ _ _ _ _ HLB.out HLS.out
  have HNE : Hid ((!(backL a i l == l)) = false) := by rw [show (backL a i l == l) = true from hne]; rfl
  rw [show layL (rdN l) (frN (rdB l) a).toNat (frN (rdS l) i).toNat (rdB l) (rdS l) = backL a i l from rfl] at LA
  clear hne
  have hat : ∀ w, (Instr.arrayAt 62 (.slice (some ⟨bb, off, none⟩) 256 cap)).run Try.prog w = .ok (.pointer (some ⟨bb, off, none⟩)) w := fun w => run_arrayAt w 62 _ 256 _ 256 cap Try.underlying62 (Nat.le_refl _)
  clear hok hsrc
  go_enter Try.func11, Try.ntmps11
  go_wp2_with fail
  refine (RT _).mono ?_
  rintro e w1 ⟨rfl, h1⟩
  have HF1 : Hid _ := HF.out.up h1
  have hsz1 := HF1.out.geo.2.2.2.size
  clear HF RT h1
  go_wp2_with fail
  refine (RD _ (HSR.out.below HF1.out.geo.2.2.2 (Nat.le_refl _))).mono ?_
  rintro e w2 ⟨rfl, h2⟩
  have HF2 : Hid _ := HF1.out.up h2
  have hl2 := HF2.out.res.lt
  clear RD HF1 h2
  have HN : Hid (HeadAt (w2.alloc (.cells (hA 0 z16 z8) 28)) w2.heap.size 0 z16 z8) := head_new w2 0 z16 z8 rfl rfl
  have HNB : Hid (Below w2.heap.size w2 (w2.alloc (.cells (hA 0 z16 z8) 28))) := (Below.refl _ _).alloc (Nat.le_refl _) _
  go_wp2_with (first | ((with_reducible show wpList _ _ _ ({ dst := _, op := Op.store 28 _ _, type := _, pos := _, after := _, guard := _ } :: _) _ _); refine wpList_store_head rfl _ _ rfl (HN.out) HLB.out HLS.out rfl rfl ?_; intro w3 H3 b3 z3))
  have f3 : F0 w a i n w3 := (HF2.out.up HNB.out).below b3 hl2
  have g3 : GW w a i n bb off l w2.heap.size w3 := ⟨f3, H3, HSR.out.below f3.geo.2.2.2 (Nat.le_refl _)⟩
  have gd := g3.up (Below.refl _ _).drew
  clear f3 g3 H3 b3 z3 HN HNB HF2 HSR
  refine wp_region_held_drew (S := (fun W => GW w a i n bb off l w2.heap.size W)) (by kernel_rfl) gd (fun hH => ?_)
  refine takeH (i := 0) (dst := some 17) (v := ?v17) rfl rfl (by kernel_rfl) (by kernel_rfl) (by kernel_rfl) (fun _ _ _ h => h) rfl ?hy17 hH rfl ?rest17
  case hy17 => (intro W hW; have q0 := hW.geo.1; have q1 := hW.geo.2.1; have q2 := hW.geo.2.2.1; clear hW; go_simp; try with_reducible rfl)
  (try simp only [Act.put, List.setIfInBounds_toArray, List.set_cons_zero, List.set_cons_succ])
  refine takeH (i := 1) (dst := some 18) (v := ?v18) rfl rfl (by kernel_rfl) (by kernel_rfl) (by kernel_rfl) (fun _ _ _ h => h) rfl ?hy18 hH rfl ?rest18
  case hy18 => (intro W hW; refine exec_load_head (x := Operand.tmp 6) hW.head ?_ ?_ <;> rfl)
  (try simp only [Act.put, List.setIfInBounds_toArray, List.set_cons_zero, List.set_cons_succ])
  refine callH (i := 2) { dst := some 19, op := Go.Op.call { callee := Go.Callee.value (Go.Operand.func 16), args := #[Go.Operand.tmp 17, Go.Operand.tmp 18], argTypes := #[23, 28] }, type := 4, pos := "group.go:127", after := #[{ on := 0, ground := Go.Ground.data }, { on := 1, ground := Go.Ground.data }], guard := none } (by kernel_rfl) rfl rfl (fun K hK => ?_)
  go_simp
  refine (GR _).mono ?_
  rintro e v1 ⟨rfl, n1⟩
  have m1 := gd.up n1
  clear n1
  clear hH
  refine hK.out _ _ m1 (fun hH => ?_)
  clear hK K
  (try simp only [Act.put, List.setIfInBounds_toArray, List.set_cons_zero, List.set_cons_succ])
  refine takeH (i := 3) (dst := some 20) (v := ?v19) rfl rfl (by kernel_rfl) (by kernel_rfl) (by kernel_rfl) (fun _ _ _ h => h) rfl ?hy19 hH rfl ?rest19
  case hy19 => (intro W hW; have q0 := hW.geo.1; have q1 := hW.geo.2.1; have q2 := hW.geo.2.2.1; clear hW; go_simp; try with_reducible rfl)
  (try simp only [Act.put, List.setIfInBounds_toArray, List.set_cons_zero, List.set_cons_succ])
  refine takeH (i := 4) (dst := some 21) (v := ?v20) rfl rfl (by kernel_rfl) (by kernel_rfl) (by kernel_rfl) (fun _ _ _ h => h) rfl ?hy20 hH rfl ?rest20
  case hy20 => (intro W hW; have q0 := hW.geo.1; have q1 := hW.geo.2.1; have q2 := hW.geo.2.2.1; clear hW; go_simp; try with_reducible rfl)
  (try simp only [Act.put, List.setIfInBounds_toArray, List.set_cons_zero, List.set_cons_succ])
  refine takeH (i := 5) (dst := some 22) (v := ?v21) rfl rfl (by kernel_rfl) (by kernel_rfl) (by kernel_rfl) (fun _ _ _ h => h) rfl ?hy21 hH rfl ?rest21
  case hy21 => (intro W hW; have q0 := hW.geo.1; have q1 := hW.geo.2.1; have q2 := hW.geo.2.2.1; clear hW; go_simp; try with_reducible rfl)
  (try simp only [Act.put, List.setIfInBounds_toArray, List.set_cons_zero, List.set_cons_succ])
  refine takeH (i := 6) (dst := some 23) (v := ?v22) rfl rfl (by kernel_rfl) (by kernel_rfl) (by kernel_rfl) (fun _ _ _ h => h) rfl ?hy22 hH rfl ?rest22
  case hy22 => (intro W hW; refine exec_load_head (x := Operand.tmp 6) hW.head ?_ ?_ <;> rfl)
  (try simp only [Act.put, List.setIfInBounds_toArray, List.set_cons_zero, List.set_cons_succ])
  refine takeH (i := 8) (dst := some 25) (v := ?v23) rfl rfl (by kernel_rfl) (by kernel_rfl) (by kernel_rfl) (fun _ _ _ h => h) rfl ?hy23 hH rfl ?rest23
  case hy23 => (intro W hW; have q0 := hW.geo.1; have q1 := hW.geo.2.1; have q2 := hW.geo.2.2.1; clear hW; go_simp; try with_reducible rfl)
  (try simp only [Act.put, List.setIfInBounds_toArray, List.set_cons_zero, List.set_cons_succ])
  refine takeH (i := 9) (dst := some 26) (v := ?v24) rfl rfl (by kernel_rfl) (by kernel_rfl) (by kernel_rfl) (fun _ _ _ h => h) rfl ?hy24 hH rfl ?rest24
  case hy24 => (intro W hW; have q0 := hW.geo.1; have q1 := hW.geo.2.1; have q2 := hW.geo.2.2.1; clear hW; go_simp; try with_reducible rfl)
  (try simp only [Act.put, List.setIfInBounds_toArray, List.set_cons_zero, List.set_cons_succ])
  refine takeH (i := 10) (dst := some 27) (v := ?v25) rfl rfl (by kernel_rfl) (by kernel_rfl) (by kernel_rfl) (fun _ _ _ h => h) rfl ?hy25 hH rfl ?rest25
  case hy25 => (intro W hW; refine exec_load_256 (x := Operand.tmp 26) hW.src hl ?_ ?_ <;> rfl)
  (try simp only [Act.put, List.setIfInBounds_toArray, List.set_cons_zero, List.set_cons_succ])
  refine callH (i := 7) { dst := some 24, op := Go.Op.call { callee := Go.Callee.value (Go.Operand.func 31), args := #[Go.Operand.tmp 22, Go.Operand.tmp 23], argTypes := #[23, 28] }, type := 62, pos := "group.go:127", after := #[{ on := 5, ground := Go.Ground.data }, { on := 6, ground := Go.Ground.data }, { on := 4, ground := Go.Ground.chain }, { on := 4, ground := Go.Ground.guard }], guard := some (4, false) } (by kernel_rfl) rfl rfl (fun K hK => ?_)
  go_simp
  refine (LA _).mono ?_
  rintro e v2 ⟨rfl, n2⟩
  have m2 := m1.up n2
  clear n2
  clear hH
  refine hK.out _ _ m2 (fun hH => ?_)
  clear hK K
  (try simp only [Act.put, List.setIfInBounds_toArray, List.set_cons_zero, List.set_cons_succ])
  refine takeH (i := 11) (dst := some 28) (v := ?v26) rfl rfl (by kernel_rfl) (by kernel_rfl) (by kernel_rfl) (fun _ _ _ h => h) rfl ?hy26 hH rfl ?rest26
  case hy26 => (intro W hW; refine exec_neq_256 (X := Operand.tmp 24) (Y := Operand.tmp 27) HBL.out hl HNE.out ?_ ?_ ?_ <;> rfl)
  (try simp only [Act.put, List.setIfInBounds_toArray, List.set_cons_zero, List.set_cons_succ])
  refine takeH (i := 12) (dst := some 29) (v := ?v27) rfl rfl (by kernel_rfl) (by kernel_rfl) (by kernel_rfl) (fun _ _ _ h => h) rfl ?hy27 hH rfl ?rest27
  case hy27 => (intro W hW; have q0 := hW.geo.1; have q1 := hW.geo.2.1; have q2 := hW.geo.2.2.1; clear hW; go_simp; try with_reducible rfl)
  (try simp only [Act.put, List.setIfInBounds_toArray, List.set_cons_zero, List.set_cons_succ])
  refine wpAnyH_done (by kernel_rfl) ?_ _
  clear hH
  have HM : Hid _ := m2
  clear m2 gd m1
  go_wp2_with (first | ((with_reducible show wpList _ _ _ ({ dst := _, op := Op.load 28 _, type := _, pos := _, after := _, guard := _ } :: _) _ _); refine wpList_load_head rfl _ rfl (HM.out.head) rfl ?_) | ((with_reducible show wpList _ _ _ ({ dst := _, op := Op.store 28 _ _, type := _, pos := _, after := _, guard := _ } :: _) _ _); refine wpList_store_head rfl _ _ rfl (HM.out.f.res) HLB.out HLS.out rfl rfl ?_; intro w7 H7 b7 z7))
  exact bodyPost_ret (results_head rfl _ H7 rfl) rfl ⟨rfl, HM.out.geo.2.2.2.trans (b7.mono (by omega))⟩
end Go.Proofs.Ytfbbdpapnegmcaa
