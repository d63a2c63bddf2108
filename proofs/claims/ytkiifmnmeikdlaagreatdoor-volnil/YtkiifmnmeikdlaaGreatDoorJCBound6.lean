/- inode.bounded, inode.Right. -/
import Derived.Test.YtkiifmnmeikdlaaGreatDoorJCGfresh8
import Derived.Deep.DeepCutAuto
import Derived.Laws.Cover3
namespace Go.Proofs.YtkiifmnmeikdlaaGreatDoor
open Go.RowKit
set_option maxRecDepth 100000
/-- A block's name. -/
def okN (x : Int) : Bool := decide (0 ≤ x) && decide (x < 4096)
def lkB (i : Ino) : Bool := decide (0 ≤ i.l) && (decide (i.l ≤ 1000) && (decide (1 ≤ i.d) && decide (i.d ≤ 4611686018427387904)))
def bndB (i : Ino) : Bool := i.ns.all okN && lkB i
theorem all_step {l : List Int} {k : Nat} (h : k < l.length) : (l.take (k + 1)).all okN = ((l.take k).all okN && okN (l.getD k 0)) := by
  have e : l.getD k 0 = l[k] := by simp [h]
  rw [List.take_succ_eq_append_getElem h, List.all_append, e]; simp only [List.all_cons, List.all_nil, Bool.and_true]
theorem all_no {l : List Int} {k : Nat} (h : k < l.length) (hk : okN (l.getD k 0) = false) : l.all okN = false := by
  rw [List.all_eq_false]
  exact ⟨l[k], List.getElem_mem h, by simpa [h] using hk⟩
set_option maxHeartbeats 2000000 in
theorem bounded_any (i : Ino) (hn : i.ns.length = 8) (w : World) :
    Calls Tryz.prog 90 #[.agg (iA i)] w fun e w' => e = .returned (.bool (bndB i)) ∧ Below w.heap.size w w' := by
  have HI : Hid (InoAt (w.alloc (.cells (iA i) 30)) w.heap.size i) := ino_new w i hn
  have HB : Hid (Below w.heap.size w (w.alloc (.cells (iA i) 30))) := (Below.refl _ _).alloc (Nat.le_refl _) _
  have NA := fun W => named_any i hn W
  have HN : Hid (i.ns.length = 8) := hn
  clear hn
  go_enter Tryz.func90, Tryz.ntmps90
  go_wp2_with (first | ((with_reducible show wpList _ _ _ ({ dst := _, op := Op.load 30 _, type := _, pos := _, after := _, guard := _ } :: _) _ _); refine wpList_load_ino rfl _ rfl (HI.out) rfl ?_))
  refine (NA _).mono ?_
  rintro e w1 ⟨rfl, h1⟩
  have HI1 : Hid (InoAt w1 w.heap.size i) := HI.out.up h1
  have HB1 : Hid (Below w.heap.size w w1) := HB.out.trans (h1.mono HB.out.size)
  clear NA HI HB h1
  go_wp2
  go_loop [7] (fun t => ∃ k : Nat, k ≤ 8 ∧ t = .int .i64 k ∧ (i.ns.take k).all okN = true) (fun t => 8 - (Go.RowKit.intOf t).toNat)
  case atStart => exact ⟨0, by omega, rfl, by simp⟩
  case round =>
    obtain ⟨k, hk, rfl, hall⟩ := hrel
    have HA : Hid ((i.ns.take k).all okN = true) := hall
    clear hall
    by_cases hlt : (k : Int) < 8
    · have hix := run_index8 HN.out k (by omega)
      have HS : Hid _ := all_step (l := i.ns) (k := k) (by rw [HN.out]; omega)
      have HO : Hid (∀ h : okN (i.ns.getD k 0) = false, i.ns.all okN = false) := fun h => all_no (by rw [HN.out]; omega) h
      generalize i.ns.getD k 0 = x at *
      by_cases h0 : x < 0
      · go_wp2
        go_ret
        exact ⟨ret_bool (by unfold bndB; rw [HO.out (by simp [okN]; omega)]; rfl), HB1.out⟩
      by_cases h1 : 4096 ≤ x
      · go_wp2
        go_ret
        exact ⟨ret_bool (by unfold bndB; rw [HO.out (by simp [okN]; omega)]; rfl), HB1.out⟩
      · go_wp2
        go_round
        case rel => exact ⟨k + 1, by omega, by go_num, by rw [HS.out, HA.out]; simp [okN]; omega⟩
        case measure => simp [Go.RowKit.intOf]; omega
    · have HALL : Hid (i.ns.all okN = true) := by
        have := HA.out
        rw [List.take_of_length_le (by rw [HN.out]; omega)] at this
        exact this
      have q1 := HI1.out.c1
      have q3 := HI1.out.c3
      have FIN : Hid (∀ b, lkB i = b → Ending.returned (.bool b) = .returned (.bool (bndB i))) := fun b hb => by rw [bndB, HALL.out, hb]; rfl
      unfold lkB at FIN
      generalize i.l = L at *
      generalize i.d = D at *
      by_cases g0 : L < 0
      · have d0 : decide (0 ≤ L) = false := by simp; omega
        go_wp2
        go_ret
        exact ⟨FIN.out _ (by simp; omega), HB1.out⟩
      by_cases g1 : 1000 < L
      · have d1 : decide (L ≤ 1000) = false := by simp; omega
        go_wp2
        go_ret
        exact ⟨FIN.out _ (by simp; omega), HB1.out⟩
      by_cases g2 : D < 1
      · have d2 : decide (1 ≤ D) = false := by simp; omega
        go_wp2
        go_ret
        exact ⟨FIN.out _ (by simp; omega), HB1.out⟩
      by_cases g3 : 4611686018427387904 < D
      · have d3 : decide (D ≤ 4611686018427387904) = false := by simp; omega
        go_wp2
        go_ret
        exact ⟨FIN.out _ (by simp; omega), HB1.out⟩
      have d0 : decide (0 ≤ L) = true := by simp; omega
      have d1 : decide (L ≤ 1000) = true := by simp; omega
      have d2 : decide (1 ≤ D) = true := by simp; omega
      have d3 : decide (D ≤ 4611686018427387904) = true := by simp; omega
      go_wp2
      go_ret
      exact ⟨FIN.out _ (by rw [d0, d1, d2]; simp; omega), HB1.out⟩
end Go.Proofs.YtkiifmnmeikdlaaGreatDoor
/- inode.Right, leveeref07.Right. -/
namespace Go.Proofs.YtkiifmnmeikdlaaGreatDoor
open Go.RowKit
set_option maxRecDepth 100000
/-- An inode that can be. -/
def szB (i : Ino) : Bool := if i.k = 3 then decide (1 ≤ i.s) && decide (i.s ≤ 255) else (decide (0 ≤ i.s) && decide (i.s ≤ 1066496)) && (decide (i.k ≠ 2) || decide (i.s % 256 = 0))
def rtB (i : Ino) : Bool := if i.k = 0 then eqI i zino else (decide (1 ≤ i.k) && decide (i.k ≤ 3)) && (szB i && bndB i)
theorem emod_tmod {x : Int} (h : x.tmod 256 = 0) : x % 256 = 0 := Int.emod_eq_zero_of_dvd (Int.dvd_of_tmod_eq_zero h)
theorem tmod_emod {x : Int} (h : x % 256 = 0) : x.tmod 256 = 0 := Int.tmod_eq_zero_of_dvd (Int.dvd_of_emod_eq_zero h)
set_option maxHeartbeats 2000000 in
theorem iright_any (i : Ino) (hn : i.ns.length = 8) (w : World) :
    Calls Tryz.prog 54 #[.agg (iA i)] w fun e w' => e = .returned (.bool (rtB i)) ∧ Below w.heap.size w w' := by
  have hz := zeroI
  have HI : Hid (InoAt (w.alloc (.cells (iA i) 30)) w.heap.size i) := ino_new w i hn
  have HB : Hid (Below w.heap.size w (w.alloc (.cells (iA i) 30))) := (Below.refl _ _).alloc (Nat.le_refl _) _
  have BA := fun W => bounded_any i hn W
  have HN : Hid (i.ns.length = 8) := hn
  have q0 := HI.out.c0
  have q2 := HI.out.c2
  have FR : Hid (i.k = 0 → ∀ b, eqI i zino = b → Ending.returned (.bool b) = .returned (.bool (rtB i))) := fun h b hb => by rw [rtB, if_pos h, hb]
  have FB : Hid (∀ h : (¬ i.k = 0), ∀ b, ((decide (1 ≤ i.k) && decide (i.k ≤ 3)) && (szB i && bndB i)) = b → Ending.returned (.bool b) = .returned (.bool (rtB i))) := fun h b hb => by rw [rtB, if_neg h, hb]
  unfold szB at FB
  clear hn
  obtain ⟨K, HK⟩ : ∃ x, Hid (x = i.k) := ⟨_, rfl⟩
  obtain ⟨S, HS⟩ : ∃ x, Hid (x = i.s) := ⟨_, rfl⟩
  rw [← HK.out] at q0 FR FB
  rw [← HS.out] at q2 FB
  by_cases k0 : K = 0
  · go_enter Tryz.func54, Tryz.ntmps54
    go_wp2_with (first | ((with_reducible show wpList _ _ _ ({ dst := _, op := Op.load 30 _, type := _, pos := _, after := _, guard := _ } :: _) _ _); refine wpList_load_ino rfl _ rfl (HI.out) rfl ?_) | ((with_reducible show wpList _ _ _ ({ dst := _, op := Op.binOp BinOp.eql 30 _ _ 30, type := _, pos := _, after := _, guard := _ } :: _) _ _); refine wpList_eq_ino rfl _ _ rfl rfl rfl HN.out rfl rfl ?_))
    go_ret
    exact ⟨FR.out k0 _ rfl, HB.out⟩
  by_cases k2 : K = 2
  · by_cases s2 : S.tmod 256 = 0
    · by_cases s0 : S < 0
      · have d0 : decide (0 ≤ S) = false := by simp; omega
        go_enter Tryz.func54, Tryz.ntmps54
        go_wp2_with (first | ((with_reducible show wpList _ _ _ ({ dst := _, op := Op.load 30 _, type := _, pos := _, after := _, guard := _ } :: _) _ _); refine wpList_load_ino rfl _ rfl (HI.out) rfl ?_))
        go_ret
        exact ⟨FB.out k0 _ (by simp [k2]; omega), HB.out⟩
      by_cases s1 : 1066496 < S
      · have d0 : decide (S ≤ 1066496) = false := by simp; omega
        go_enter Tryz.func54, Tryz.ntmps54
        go_wp2_with (first | ((with_reducible show wpList _ _ _ ({ dst := _, op := Op.load 30 _, type := _, pos := _, after := _, guard := _ } :: _) _ _); refine wpList_load_ino rfl _ rfl (HI.out) rfl ?_))
        go_ret
        exact ⟨FB.out k0 _ (by simp [k2]; omega), HB.out⟩
      · generalize bndB i = B at *
        have d0 : 0 ≤ S := by omega
        have d1 : S ≤ 1066496 := by omega
        go_enter Tryz.func54, Tryz.ntmps54
        go_wp2_with (first | ((with_reducible show wpList _ _ _ ({ dst := _, op := Op.load 30 _, type := _, pos := _, after := _, guard := _ } :: _) _ _); refine wpList_load_ino rfl _ rfl (HI.out) rfl ?_))
        refine (BA _).mono ?_
        rintro e w1 ⟨rfl, h1⟩
        go_wp2
        go_ret
        exact ⟨FB.out k0 _ (by have := emod_tmod s2; simp [k2]; omega), HB.out.trans (h1.mono HB.out.size)⟩
    · have s2' : ¬ S % 256 = 0 := fun h => s2 (tmod_emod h)
      go_enter Tryz.func54, Tryz.ntmps54
      go_wp2_with (first | ((with_reducible show wpList _ _ _ ({ dst := _, op := Op.load 30 _, type := _, pos := _, after := _, guard := _ } :: _) _ _); refine wpList_load_ino rfl _ rfl (HI.out) rfl ?_))
      go_ret
      exact ⟨FB.out k0 _ (by simp [k2]; omega), HB.out⟩
  by_cases k1 : K = 1
  · by_cases s0 : S < 0
    · have d0 : decide (0 ≤ S) = false := by simp; omega
      go_enter Tryz.func54, Tryz.ntmps54
      go_wp2_with (first | ((with_reducible show wpList _ _ _ ({ dst := _, op := Op.load 30 _, type := _, pos := _, after := _, guard := _ } :: _) _ _); refine wpList_load_ino rfl _ rfl (HI.out) rfl ?_))
      go_ret
      exact ⟨FB.out k0 _ (by simp [k1]; omega), HB.out⟩
    by_cases s1 : 1066496 < S
    · have d0 : decide (S ≤ 1066496) = false := by simp; omega
      go_enter Tryz.func54, Tryz.ntmps54
      go_wp2_with (first | ((with_reducible show wpList _ _ _ ({ dst := _, op := Op.load 30 _, type := _, pos := _, after := _, guard := _ } :: _) _ _); refine wpList_load_ino rfl _ rfl (HI.out) rfl ?_))
      go_ret
      exact ⟨FB.out k0 _ (by simp [k1]; omega), HB.out⟩
    · generalize bndB i = B at *
      have d0 : 0 ≤ S := by omega
      have d1 : S ≤ 1066496 := by omega
      go_enter Tryz.func54, Tryz.ntmps54
      go_wp2_with (first | ((with_reducible show wpList _ _ _ ({ dst := _, op := Op.load 30 _, type := _, pos := _, after := _, guard := _ } :: _) _ _); refine wpList_load_ino rfl _ rfl (HI.out) rfl ?_))
      refine (BA _).mono ?_
      rintro e w1 ⟨rfl, h1⟩
      go_wp2
      go_ret
      exact ⟨FB.out k0 _ (by simp [k1]; omega), HB.out.trans (h1.mono HB.out.size)⟩
  by_cases k3 : K = 3
  · by_cases s0 : S < 1
    · have d0 : decide (1 ≤ S) = false := by simp; omega
      go_enter Tryz.func54, Tryz.ntmps54
      go_wp2_with (first | ((with_reducible show wpList _ _ _ ({ dst := _, op := Op.load 30 _, type := _, pos := _, after := _, guard := _ } :: _) _ _); refine wpList_load_ino rfl _ rfl (HI.out) rfl ?_))
      go_ret
      exact ⟨FB.out k0 _ (by simp [k3]; omega), HB.out⟩
    by_cases s1 : 255 < S
    · have d0 : decide (S ≤ 255) = false := by simp; omega
      go_enter Tryz.func54, Tryz.ntmps54
      go_wp2_with (first | ((with_reducible show wpList _ _ _ ({ dst := _, op := Op.load 30 _, type := _, pos := _, after := _, guard := _ } :: _) _ _); refine wpList_load_ino rfl _ rfl (HI.out) rfl ?_))
      go_ret
      exact ⟨FB.out k0 _ (by simp [k3]; omega), HB.out⟩
    · generalize bndB i = B at *
      have d0 : 1 ≤ S := by omega
      have d1 : S ≤ 255 := by omega
      go_enter Tryz.func54, Tryz.ntmps54
      go_wp2_with (first | ((with_reducible show wpList _ _ _ ({ dst := _, op := Op.load 30 _, type := _, pos := _, after := _, guard := _ } :: _) _ _); refine wpList_load_ino rfl _ rfl (HI.out) rfl ?_))
      refine (BA _).mono ?_
      rintro e w1 ⟨rfl, h1⟩
      go_wp2
      go_ret
      exact ⟨FB.out k0 _ (by simp [k3]; omega), HB.out.trans (h1.mono HB.out.size)⟩
  · go_enter Tryz.func54, Tryz.ntmps54
    go_wp2_with (first | ((with_reducible show wpList _ _ _ ({ dst := _, op := Op.load 30 _, type := _, pos := _, after := _, guard := _ } :: _) _ _); refine wpList_load_ino rfl _ rfl (HI.out) rfl ?_))
    go_ret
    exact ⟨FB.out k0 _ (by simp; omega), HB.out⟩
end Go.Proofs.YtkiifmnmeikdlaaGreatDoor
/- The bytes of an inode, as inode.lay lays them. -/
namespace Go.Proofs.YtkiifmnmeikdlaaGreatDoor
open Go.RowKit
set_option maxRecDepth 100000
def z64 : List UInt8 := List.replicate 64 0
theorem z64_length : z64.length = 64 := List.length_replicate
/-- The names from the place 16 on. -/
def layN : List Int → List UInt8
  | [] => []
  | x :: r => leB 2 x.toNat ++ layN r
theorem layN_length : ∀ l : List Int, (layN l).length = 2 * l.length
  | [] => rfl
  | x :: r => by simp [layN, leB_length, layN_length r]; omega
theorem layN_append : ∀ a b : List Int, layN (a ++ b) = layN a ++ layN b
  | [], b => rfl
  | x :: r, b => by simp [layN, layN_append r b]
/-- The first 16 bytes. -/
def headL (i : Ino) : List UInt8 := [UInt8.ofNat i.k.toNat, 0] ++ leB 2 i.l.toNat ++ leB 4 i.s.toNat ++ leB 8 i.d.toNat
theorem headL_length (i : Ino) : (headL i).length = 16 := by simp [headL, leB_length]
def layI (i : Ino) : List UInt8 := headL i ++ layN i.ns ++ List.replicate 32 0
theorem layI_length {i : Ino} (h : i.ns.length = 8) : (layI i).length = 64 := by simp [layI, headL_length, layN_length, h]
theorem four_of {l : List UInt8} (h : l.length = 4) : ∃ a b c d, l = [a, b, c, d] := by
  match l, h with
  | [a, b, c, d], _ => exact ⟨a, b, c, d, rfl⟩
/-- The four parts ahead of the names, one behind the other. -/
theorem head_laid (b : UInt8) (i : Ino) : layAt (layAt (layAt (z64.set 0 b) 2 (leB 2 i.l.toNat)) 4 (leB 4 i.s.toNat)) 8 (leB 8 i.d.toNat) = [b, 0] ++ leB 2 i.l.toNat ++ leB 4 i.s.toNat ++ leB 8 i.d.toNat ++ List.replicate 48 0 := by
  obtain ⟨a0, a1, h0⟩ := two_of (leB_length 2 i.l.toNat)
  obtain ⟨b0, b1, b2, b3, h1⟩ := four_of (leB_length 4 i.s.toNat)
  obtain ⟨c0, c1, c2, c3, c4, c5, c6, c7, h2⟩ := eight (leB_length 8 i.d.toNat)
  rw [h0, h1, h2]
  rfl
/-- One name more. -/
theorem name_laid (H : List UInt8) (hH : H.length = 16) (ns : List Int) (hn : ns.length = 8) (k : Nat) (hk : k < 8) :
    layAt (H ++ layN (ns.take k) ++ List.replicate (48 - 2 * k) 0) (16 + 2 * k) (leB 2 (ns.getD k 0).toNat) = H ++ layN (ns.take (k + 1)) ++ List.replicate (48 - 2 * (k + 1)) 0 := by
  have e : ns.getD k 0 = ns[k] := by simp [show k < ns.length by omega]
  have hA : (H ++ layN (ns.take k)).length = 16 + 2 * k := by simp [layN_length, hH, hn]; omega
  rw [List.take_succ_eq_append_getElem (by omega), layN_append, e]
  unfold layAt
  have hd : List.drop (16 + 2 * k + 2) (H ++ layN (ns.take k) ++ List.replicate (48 - 2 * k) (0 : UInt8)) = List.replicate (48 - 2 * (k + 1)) 0 := by
    rw [List.drop_append, List.drop_eq_nil_of_le (by omega), hA, List.drop_replicate, List.nil_append]
    congr 1
    omega
  rw [List.take_left' hA, leB_length, hd]
  simp [layN]
end Go.Proofs.YtkiifmnmeikdlaaGreatDoor
/- inode.lay. -/
namespace Go.Proofs.YtkiifmnmeikdlaaGreatDoor
open Go.RowKit
set_option maxRecDepth 100000
theorem zero64 : ∃ Z : Array Value, (∀ w, (zeroValue 111).run Tryz.prog w = .ok (.agg Z) w) ∧ Z.size = 64 ∧ Hid (Z = (bvs z64).toArray) := by
  have h : (Tryz.prog.info? 111).map (fun i => i.zero) = some (some (.agg (bvs z64).toArray)) := by kernel_rfl
  cases hi : Tryz.prog.info? 111 with
  | none => rw [hi] at h; cases h
  | some i =>
    rw [hi] at h
    have hz : i.zero = some (.agg (bvs z64).toArray) := Option.some.inj h
    have key : ∀ (v : Value) (w : World), i.zero = some v → (zeroValue 111).run Tryz.prog w = .ok v w := by
      intro v w hv
      simp [zeroValue, typeInfo, hi, hv]
    exact ⟨_, fun w => key _ w hz, by rw [List.size_toArray, bvs_length, z64_length], rfl⟩
theorem Tryz.sz111 : (Tryz.prog.info? 111).map (·.size) = some 64 := by kernel_rfl
theorem wpList_load_64 {ops : Array Oper} {rest : List Oper} {op : Oper} {a : Act} {w : World} {Q : Exit → Act → World → Prop} (hgd : op.guard = none) (x : Operand) (ho : op.op = .load 111 x)
    {G : Nat} {t : TypeId} {s : List UInt8} (H : Blk w G t s) (hs : s.length = 64) (hx : a.eval x = .pointer (some ⟨G, 0, none⟩))
    (h : wpList Tryz.prog ops Q rest (a.put op.dst (.agg (bvs s).toArray)) w) : wpList Tryz.prog ops Q (op :: rest) a w :=
  wpList_load_mid hgd 111 x ho G 0 hx (bvs s) _ (fun j v hv => by
    rw [Nat.zero_add, cell_of_row w G j _ _ _ H]; simpa using hv) Tryz.underlying111 rfl (by rw [Tryz.sz111, bvs_length, hs]) h
theorem wpList_store_64 {ops : Array Oper} {rest : List Oper} {op : Oper} {a : Act} {w : World} {Q : Exit → Act → World → Prop} (hgd : op.guard = none) (x y : Operand) (ho : op.op = .store 111 x y)
    {G : Nat} {Z : Array Value} {s : List UInt8} (H : w.heap[G]? = some (.cells Z 111 (0, 0))) (hZ : Z.size = 64) (hs : s.length = 64) (hx : a.eval x = .pointer (some ⟨G, 0, none⟩)) (hy : a.eval y = .agg (bvs s).toArray)
    (h : ∀ w', Blk w' G 111 s → Below G w w' → w'.heap.size = w.heap.size → wpList Tryz.prog ops Q rest (a.put op.dst undef) w') : wpList Tryz.prog ops Q (op :: rest) a w := by
  refine wpList_plain hgd fun K hK => ?_
  have hsz : (bvs s).toArray.size = 64 := by rw [List.size_toArray, bvs_length, hs]
  have hrun := run_storeVar_row (P := Tryz.prog) w G 111 111 Z (bvs s).toArray H (by rw [Tryz.sz111, hsz]) (by rw [hZ, hsz]) (all_oneCell_toArray (bvs_one _))
  unfold Oper.wp execOp
  simp only [ho, hx, hy, Instr.storeAt, Instr.sureAddr, Sem.run_bind, Sem.run_pure, Result.andThen_ok, hrun]
  exact hK _ _ (h _ (setRow_heap w G _ _ 111 _ H) (below_setRow (Below.refl _ _) (Nat.le_refl _) _) (by simp))
/-- What lay has laid. -/
structure LI (w0 : World) (i : Ino) (Z : Array Value) (q : Nat) (cur : List UInt8) (W : World) : Prop where
  b : Below w0.heap.size w0 W
  ino : InoAt W w0.heap.size i
  res : W.heap[w0.heap.size + 1]? = some (.cells Z 111 (0, 0))
  blk : Blk W q 111 cur
  lt : w0.heap.size + 1 < q
section
variable {w0 W W' : World} {i : Ino} {cur cur' : List UInt8} {Z : Array Value} {q : Nat}
theorem LI.low (h : LI w0 i Z q cur W) (hb : Below q W W') (hc : Blk W' q 111 cur') : LI w0 i Z q cur' W' :=
  have hl := h.lt
  ⟨h.b.trans (hb.mono (by omega)), h.ino.below hb (by omega), by rw [hb.block _ (by omega)]; exact h.res, hc, hl⟩
theorem LI.up (h : LI w0 i Z q cur W) (hb : Below W.heap.size W W') : LI w0 i Z q cur W' :=
  h.low (hb.mono (by have := h.blk.lt; omega)) (h.blk.below hb h.blk.lt)
theorem LI.drew (h : LI w0 i Z q cur W) : LI w0 i Z q cur W.drew := ⟨h.b.drew, h.ino.drew, h.res, h.blk, h.lt⟩
theorem Blk.set {w : World} {g : Nat} {t : TypeId} {l : List UInt8} (h : Blk w g t l) (j : Nat) (x : UInt8) : Blk (w.setCell ⟨g, j, none⟩ (bv x)) g t (l.set j x) := by
  have e : bvs (l.set j x) = (bvs l).set j (bv x) := by simp [bvs]
  have e2 : (bvs (l.set j x)).toArray = (bvs l).toArray.setIfInBounds j (bv x) := by rw [e]; simp
  unfold Blk at h ⊢
  rw [e2]
  exact heap_setCell_same w g j _ t _ h
end
theorem LI.start (w : World) (i : Ino) (Z : Array Value) (hn : i.ns.length = 8) (hz : Z = (bvs z64).toArray) :
    LI w i Z (w.heap.size + 2) z64 (((w.alloc (.cells (iA i) 30)).alloc (.cells Z 111)).alloc (.cells Z 111)) := by
  have s1 : (w.alloc (.cells (iA i) 30)).heap.size = w.heap.size + 1 := by simp
  have s2 : ((w.alloc (.cells (iA i) 30)).alloc (.cells Z 111)).heap.size = w.heap.size + 2 := by simp
  have h1 := heap_alloc_new (w.alloc (.cells (iA i) 30)) (.cells Z 111)
  have h2 := heap_alloc_new ((w.alloc (.cells (iA i) 30)).alloc (.cells Z 111)) (.cells Z 111)
  rw [s1] at h1
  rw [s2] at h2
  refine ⟨(((Below.refl _ _).alloc (Nat.le_refl _) _).alloc (by simp) _).alloc (by simp; omega) _, ((ino_new w i hn).alloc _).alloc _, (Below.heap_alloc _ _ _ (by rw [s2]; omega)).trans h1, ?_, by omega⟩
  unfold Blk
  rw [← hz]
  exact h2
/-- The numbers of an inode that can be. -/
structure InR (i : Ino) : Prop where
  k : 0 ≤ i.k ∧ i.k ≤ 3
  l : 0 ≤ i.l ∧ i.l ≤ 1000
  s : 0 ≤ i.s ∧ i.s ≤ 1066496
  d : 0 ≤ i.d ∧ i.d ≤ 4611686018427387904
  ns : ∀ k, 0 ≤ i.ns.getD k 0 ∧ i.ns.getD k 0 < 4096
theorem getD_okN {l : List Int} (h : l.all okN = true) (k : Nat) : 0 ≤ l.getD k 0 ∧ l.getD k 0 < 4096 := by
  by_cases hk : k < l.length
  · have := List.all_eq_true.1 h _ (List.getElem_mem hk)
    simp [okN] at this
    simpa [hk] using this
  · simp [show l.length ≤ k by omega]
theorem rtB_inR {i : Ino} (h : rtB i = true) : InR i := by
  unfold rtB at h
  by_cases hk : i.k = 0
  · rw [if_pos hk, eqI_iff] at h
    subst h
    exact ⟨by simp [zino], by simp [zino], by simp [zino], by simp [zino], fun k => getD_okN (by decide) k⟩
  · rw [if_neg hk] at h
    simp only [Bool.and_eq_true, decide_eq_true_eq, bndB, lkB, szB] at h
    obtain ⟨h1, h2, h3, h4⟩ := h
    refine ⟨by omega, by omega, ?_, by omega, fun k => getD_okN h3 k⟩
    by_cases h3k : i.k = 3
    · rw [if_pos h3k] at h2; simp at h2; omega
    · rw [if_neg h3k] at h2; simp at h2; omega
theorem lay_len64 {cur : List UInt8} {o : Nat} {x : List UInt8} (hc : cur.length = 64) (h : o + x.length ≤ 64) : (layAt cur o x).length = 64 := by
  rw [layAt_length _ _ _ (by rw [hc]; exact h)]; exact hc
/-- A part of an array of bytes in memory. -/
theorem slice_arr (t : TypeId) (n : Nat) (ht : Tryz.prog.underlying t = some (.array (Tryz.prog.arrayLen t) (Tryz.prog.elem t))) (hn : Tryz.prog.arrayLen t = n) (he : Tryz.prog.elem t = 5) (q o l : Nat) (a b : Int) (ha : a = (o : Int)) (hb : b = (o : Int) + (l : Int)) (h1 : o < n) (h : o + l ≤ n) (w : World) :
    (Instr.sliceAt t (.pointer (some ⟨q, 0, none⟩)) (some (.int .i64 a)) (some (.int .i64 b)) none).run Tryz.prog w = .ok (.slice (some ⟨q, o, none⟩) l (n - o)) w := by
  subst ha; subst hb
  rw [run_sliceAt_array_lh w t ⟨q, 0, none⟩ ht .i64 .i64 _ _ (by omega) (by omega) (by rw [hn]; omega), he, size5, hn]
  simp only [Result.andThen_ok, slicedAt, Int.toNat_natCast]
  rw [show ((o : Int) + (l : Int)).toNat = o + l by omega, if_neg (by omega), addr_add]
  simp
attribute [local go_sem] wrapU
set_option maxRecDepth 100000 in
set_option maxHeartbeats 4000000 in
theorem ilay_any (i : Ino) (hn : i.ns.length = 8) (hr : InR i) (w : World) :
    Calls Tryz.prog 55 #[.agg (iA i)] w fun e w' => e = .returned (.agg (bvs (layI i)).toArray) ∧ Below w.heap.size w w' := by
  obtain ⟨Z, hz, hzs, HZ⟩ := zero64
  have HS : Hid _ := LI.start w i Z hn HZ.out
  have NA := fun W => named_any i hn W
  have HN : Hid (i.ns.length = 8) := hn
  have hk := hr.k
  have HR : Hid (InR i) := hr
  clear hr hn
  go_enter Tryz.func55, Tryz.ntmps55
  go_upto_region 2 with fail
  generalize ((w.alloc (.cells (iA i) 30)).alloc (.cells Z 111)).alloc (.cells Z 111) = W at *
  generalize w.heap.size + 2 = q at *
  have hq := HS.out.lt
  have q0 := HS.out.ino.c0
  have r0 := HS.out.blk.cell 0 (by rw [z64_length]; omega)
  have f0 := HS.out.blk.frozen 0
  obtain ⟨bk, HBK⟩ : ∃ b : UInt8, Hid (b = UInt8.ofNat i.k.toNat) := ⟨_, rfl⟩
  have hbk : bv bk = .int .u8 i.k := by
    rw [HBK.out]; unfold bv; congr 1
    have : (UInt8.ofNat i.k.toNat).toNat = i.k.toNat := by simp; omega
    rw [this]; omega
  have HB0 : Hid _ := HS.out.blk.set 0 bk
  rw [hbk] at HB0
  have HS2 : Hid (LI w i Z q (z64.set 0 bk) (W.setCell ⟨q, 0, none⟩ (.int .u8 i.k))) := HS.out.low ((Below.refl _ _).setCell (by simp) _) HB0.out
  go_upto_region 3 with fail
  clear HS HB0 q0 r0 f0 hbk HZ
  generalize W.setCell ⟨q, 0, none⟩ (.int .u8 i.k) = W3 at *
  obtain ⟨L, HL⟩ : ∃ n : Nat, Hid (i.l = (n : Int)) := ⟨i.l.toNat, by have := HR.out.l; show _ = _; omega⟩
  obtain ⟨S, HSS⟩ : ∃ n : Nat, Hid (i.s = (n : Int)) := ⟨i.s.toNat, by have := HR.out.s; show _ = _; omega⟩
  obtain ⟨D, HD⟩ : ∃ n : Nat, Hid (i.d = (n : Int)) := ⟨i.d.toNat, by have := HR.out.d; show _ = _; omega⟩
  have hL : L ≤ 1000 := by have := HR.out.l; rw [HL.out] at this; omega
  have hS : S ≤ 1066496 := by have := HR.out.s; rw [HSS.out] at this; omega
  have hD : D ≤ 4611686018427387904 := by have := HR.out.d; rw [HD.out] at this; omega
  have u1 : InU (L : Int) := ⟨by omega⟩
  have u2 : InU (S : Int) := ⟨by omega⟩
  have u3 : InU (D : Int) := ⟨by omega⟩
  have d3 := HS2.out.drew
  refine wp_region_held_drew (S := (fun W => InoAt W w.heap.size i)) (by kernel_rfl) d3.ino (fun hH => ?_)
  refine takeH (i := 0) (dst := some 11) (v := ?v1) rfl rfl (by kernel_rfl) (by kernel_rfl) (by kernel_rfl) (fun _ _ _ h => h) rfl ?hy1 hH rfl ?rest1
  case hy1 => (intro W hW; have q1 := hW.c1; have q2 := hW.c2; have q3 := hW.c3; rw [HL.out] at q1; rw [HSS.out] at q2; rw [HD.out] at q3; clear hW; go_simp; try with_reducible rfl)
  (try simp only [Act.put, List.setIfInBounds_toArray, List.set_cons_zero, List.set_cons_succ])
  refine takeH (i := 1) (dst := some 12) (v := ?v2) rfl rfl (by kernel_rfl) (by kernel_rfl) (by kernel_rfl) (fun _ _ _ h => h) rfl ?hy2 hH rfl ?rest2
  case hy2 => (intro W hW; have q1 := hW.c1; have q2 := hW.c2; have q3 := hW.c3; rw [HL.out] at q1; rw [HSS.out] at q2; rw [HD.out] at q3; clear hW; go_simp; try with_reducible rfl)
  (try simp only [Act.put, List.setIfInBounds_toArray, List.set_cons_zero, List.set_cons_succ])
  refine takeH (i := 2) (dst := some 13) (v := ?v3) rfl rfl (by kernel_rfl) (by kernel_rfl) (by kernel_rfl) (fun _ _ _ h => h) rfl ?hy3 hH rfl ?rest3
  case hy3 => (intro W hW; have q1 := hW.c1; have q2 := hW.c2; have q3 := hW.c3; rw [HL.out] at q1; rw [HSS.out] at q2; rw [HD.out] at q3; clear hW; go_simp; try with_reducible rfl)
  (try simp only [Act.put, List.setIfInBounds_toArray, List.set_cons_zero, List.set_cons_succ])
  refine takeH (i := 3) (dst := some 14) (v := ?v4) rfl rfl (by kernel_rfl) (by kernel_rfl) (by kernel_rfl) (fun _ _ _ h => h) rfl ?hy4 hH rfl ?rest4
  case hy4 => (intro W hW; have q1 := hW.c1; have q2 := hW.c2; have q3 := hW.c3; rw [HL.out] at q1; rw [HSS.out] at q2; rw [HD.out] at q3; clear hW; go_simp; try with_reducible rfl)
  (try simp only [Act.put, List.setIfInBounds_toArray, List.set_cons_zero, List.set_cons_succ])
  refine callH (i := 4) { dst := some 15, op := Go.Op.call { callee := Go.Callee.value (Go.Operand.func 76), args := #[Go.Operand.tmp 11, Go.Operand.tmp 14], argTypes := #[42, 138] }, type := 0, pos := "inode.go:78", after := #[{ on := 0, ground := Go.Ground.data }, { on := 3, ground := Go.Ground.data }], guard := none } (by kernel_rfl) rfl rfl (fun K hK => ?_)
  go_simp
  refine (putAt_any q 111 _ 2 2 62 L (by omega) (by omega) (by omega) (by simp [z64_length]) _ d3.blk (by omega) (by omega)).mono ?_
  rintro e v3 ⟨rfl, g3, b3⟩
  have m3 := d3.low b3 g3
  clear g3 b3
  clear hH
  refine hK.out _ _ m3.ino (fun hH => ?_)
  clear hK K
  (try simp only [Act.put, List.setIfInBounds_toArray, List.set_cons_zero, List.set_cons_succ])
  refine wpAnyH_done (by kernel_rfl) ?_ _
  clear hH
  have H3 : Hid _ := m3
  clear m3 d3 HS2
  go_upto_region 4 with fail
  have d4 := H3.out.drew
  refine wp_region_held_drew (S := (fun W => InoAt W w.heap.size i)) (by kernel_rfl) d4.ino (fun hH => ?_)
  refine takeH (i := 0) (dst := some 16) (v := ?v5) rfl rfl (by kernel_rfl) (by kernel_rfl) (by kernel_rfl) (fun _ _ _ h => h) rfl ?hy5 hH rfl ?rest5
  case hy5 => (intro W hW; have q1 := hW.c1; have q2 := hW.c2; have q3 := hW.c3; rw [HL.out] at q1; rw [HSS.out] at q2; rw [HD.out] at q3; clear hW; go_simp; try with_reducible rfl)
  (try simp only [Act.put, List.setIfInBounds_toArray, List.set_cons_zero, List.set_cons_succ])
  refine takeH (i := 1) (dst := some 17) (v := ?v6) rfl rfl (by kernel_rfl) (by kernel_rfl) (by kernel_rfl) (fun _ _ _ h => h) rfl ?hy6 hH rfl ?rest6
  case hy6 => (intro W hW; have q1 := hW.c1; have q2 := hW.c2; have q3 := hW.c3; rw [HL.out] at q1; rw [HSS.out] at q2; rw [HD.out] at q3; clear hW; go_simp; try with_reducible rfl)
  (try simp only [Act.put, List.setIfInBounds_toArray, List.set_cons_zero, List.set_cons_succ])
  refine takeH (i := 2) (dst := some 18) (v := ?v7) rfl rfl (by kernel_rfl) (by kernel_rfl) (by kernel_rfl) (fun _ _ _ h => h) rfl ?hy7 hH rfl ?rest7
  case hy7 => (intro W hW; have q1 := hW.c1; have q2 := hW.c2; have q3 := hW.c3; rw [HL.out] at q1; rw [HSS.out] at q2; rw [HD.out] at q3; clear hW; go_simp; try with_reducible rfl)
  (try simp only [Act.put, List.setIfInBounds_toArray, List.set_cons_zero, List.set_cons_succ])
  refine takeH (i := 3) (dst := some 19) (v := ?v8) rfl rfl (by kernel_rfl) (by kernel_rfl) (by kernel_rfl) (fun _ _ _ h => h) rfl ?hy8 hH rfl ?rest8
  case hy8 => (intro W hW; have q1 := hW.c1; have q2 := hW.c2; have q3 := hW.c3; rw [HL.out] at q1; rw [HSS.out] at q2; rw [HD.out] at q3; clear hW; go_simp; try with_reducible rfl)
  (try simp only [Act.put, List.setIfInBounds_toArray, List.set_cons_zero, List.set_cons_succ])
  refine callH (i := 4) { dst := some 20, op := Go.Op.call { callee := Go.Callee.value (Go.Operand.func 76), args := #[Go.Operand.tmp 16, Go.Operand.tmp 19], argTypes := #[42, 138] }, type := 0, pos := "inode.go:79", after := #[{ on := 0, ground := Go.Ground.data }, { on := 3, ground := Go.Ground.data }], guard := none } (by kernel_rfl) rfl rfl (fun K hK => ?_)
  go_simp
  refine (putAt_any q 111 _ 4 4 60 S (by omega) (by omega) (by omega) (by rw [lay_len64 (by simp [z64_length]) (by rw [leB_length]; omega)]; omega) _ d4.blk (by omega) (by omega)).mono ?_
  rintro e v4 ⟨rfl, g4, b4⟩
  have m4 := d4.low b4 g4
  clear g4 b4
  clear hH
  refine hK.out _ _ m4.ino (fun hH => ?_)
  clear hK K
  (try simp only [Act.put, List.setIfInBounds_toArray, List.set_cons_zero, List.set_cons_succ])
  refine wpAnyH_done (by kernel_rfl) ?_ _
  clear hH
  have H4 : Hid _ := m4
  clear m4 d4 H3
  go_upto_region 5 with fail
  have d5 := H4.out.drew
  refine wp_region_held_drew (S := (fun W => InoAt W w.heap.size i)) (by kernel_rfl) d5.ino (fun hH => ?_)
  refine takeH (i := 0) (dst := some 21) (v := ?v9) rfl rfl (by kernel_rfl) (by kernel_rfl) (by kernel_rfl) (fun _ _ _ h => h) rfl ?hy9 hH rfl ?rest9
  case hy9 => (intro W hW; have q1 := hW.c1; have q2 := hW.c2; have q3 := hW.c3; rw [HL.out] at q1; rw [HSS.out] at q2; rw [HD.out] at q3; clear hW; go_simp; try with_reducible rfl)
  (try simp only [Act.put, List.setIfInBounds_toArray, List.set_cons_zero, List.set_cons_succ])
  refine takeH (i := 1) (dst := some 22) (v := ?v10) rfl rfl (by kernel_rfl) (by kernel_rfl) (by kernel_rfl) (fun _ _ _ h => h) rfl ?hy10 hH rfl ?rest10
  case hy10 => (intro W hW; have q1 := hW.c1; have q2 := hW.c2; have q3 := hW.c3; rw [HL.out] at q1; rw [HSS.out] at q2; rw [HD.out] at q3; clear hW; go_simp; try with_reducible rfl)
  (try simp only [Act.put, List.setIfInBounds_toArray, List.set_cons_zero, List.set_cons_succ])
  refine takeH (i := 2) (dst := some 23) (v := ?v11) rfl rfl (by kernel_rfl) (by kernel_rfl) (by kernel_rfl) (fun _ _ _ h => h) rfl ?hy11 hH rfl ?rest11
  case hy11 => (intro W hW; have q1 := hW.c1; have q2 := hW.c2; have q3 := hW.c3; rw [HL.out] at q1; rw [HSS.out] at q2; rw [HD.out] at q3; clear hW; go_simp; try with_reducible rfl)
  (try simp only [Act.put, List.setIfInBounds_toArray, List.set_cons_zero, List.set_cons_succ])
  refine takeH (i := 3) (dst := some 24) (v := ?v12) rfl rfl (by kernel_rfl) (by kernel_rfl) (by kernel_rfl) (fun _ _ _ h => h) rfl ?hy12 hH rfl ?rest12
  case hy12 => (intro W hW; have q1 := hW.c1; have q2 := hW.c2; have q3 := hW.c3; rw [HL.out] at q1; rw [HSS.out] at q2; rw [HD.out] at q3; clear hW; go_simp; try with_reducible rfl)
  (try simp only [Act.put, List.setIfInBounds_toArray, List.set_cons_zero, List.set_cons_succ])
  refine callH (i := 4) { dst := some 25, op := Go.Op.call { callee := Go.Callee.value (Go.Operand.func 76), args := #[Go.Operand.tmp 21, Go.Operand.tmp 24], argTypes := #[42, 138] }, type := 0, pos := "inode.go:80", after := #[{ on := 0, ground := Go.Ground.data }, { on := 3, ground := Go.Ground.data }], guard := none } (by kernel_rfl) rfl rfl (fun K hK => ?_)
  go_simp
  refine (putAt_any q 111 _ 8 8 56 D (by omega) (by omega) (by omega) (by rw [lay_len64 (lay_len64 (by simp [z64_length]) (by rw [leB_length]; omega)) (by rw [leB_length]; omega)]; omega) _ d5.blk (by omega) (by omega)).mono ?_
  rintro e v5 ⟨rfl, g5, b5⟩
  have m5 := d5.low b5 g5
  clear g5 b5
  clear hH
  refine hK.out _ _ m5.ino (fun hH => ?_)
  clear hK K
  (try simp only [Act.put, List.setIfInBounds_toArray, List.set_cons_zero, List.set_cons_succ])
  refine wpAnyH_done (by kernel_rfl) ?_ _
  clear hH
  have hcur := head_laid bk i
  rw [HL.out, HSS.out, HD.out, Int.toNat_natCast, Int.toNat_natCast, Int.toNat_natCast] at hcur
  rw [hcur] at m5
  have H5 : Hid _ := m5
  clear m5 d5 H4 hcur
  have HH : Hid ([bk, 0] ++ leB 2 L ++ leB 4 S ++ leB 8 D = headL i) := by
    show _ = _
    unfold headL
    rw [HL.out, HSS.out, HD.out, Int.toNat_natCast, Int.toNat_natCast, Int.toNat_natCast, HBK.out]
  rw [HH.out] at H5
  clear HH
  go_upto_region 6 with fail
  go_wp2_with (first | ((with_reducible show wpList _ _ _ ({ dst := _, op := Op.load 30 _, type := _, pos := _, after := _, guard := _ } :: _) _ _); refine wpList_load_ino rfl _ rfl (H5.out.ino) rfl ?_))
  refine (NA _).mono ?_
  rintro e v6 ⟨rfl, h6⟩
  have H6 : Hid _ := H5.out.up h6
  clear NA H5 h6
  go_wp2_with fail
  go_loopw [28] (fun t wr => ∃ k : Nat, k ≤ 8 ∧ t = .int .i64 k ∧ LI w i Z q (headL i ++ layN (i.ns.take k) ++ List.replicate (48 - 2 * k) 0) wr) (fun t _ => 8 - (Go.RowKit.intOf t).toNat)
  case atStart => exact ⟨0, by omega, rfl, by simpa [layN] using H6.out⟩
  case round =>
    obtain ⟨k, hk8, rfl, hli⟩ := hrel
    have HLI : Hid _ := hli
    clear hli H6
    by_cases hlt : (k : Int) < 8
    · have hix := run_index8 HN.out k (by omega)
      have hx := HR.out.ns k
      obtain ⟨x, HX⟩ : ∃ n : Nat, Hid (i.ns.getD k 0 = (n : Int)) := ⟨(i.ns.getD k 0).toNat, by show _ = _; omega⟩
      rw [HX.out] at hix hx
      have u4 : InU (x : Int) := ⟨by omega⟩
      have hsl := slice_arr 111 64 (by kernel_rfl) (by kernel_rfl) (by kernel_rfl) q (16 + 2 * k) 2 (16 + (k : Int) * 2) (16 + (k : Int) * 2 + 2) (by omega) (by omega) (by omega) (by omega)
      have HHN : Hid _ := name_laid (headL i) (headL_length i) i.ns HN.out k (by omega)
      rw [HX.out, Int.toNat_natCast] at HHN
      have hlen : (headL i ++ layN (i.ns.take k) ++ List.replicate (48 - 2 * k) 0).length = 64 := by simp [headL_length, layN_length, HN.out]; omega
      have HLN : Hid _ := hlen
      clear hlen
      go_wp2_with fail
      refine (putAt_any q 111 _ (16 + 2 * k) 2 (64 - (16 + 2 * k)) x (by omega) (by omega) (by omega) (by rw [HLN.out]; omega) _ HLI.out.blk (by omega) (by omega)).mono ?_
      rintro e v8 ⟨rfl, g8, b8⟩
      rw [HHN.out] at g8
      have H8 : Hid _ := HLI.out.low b8 g8
      clear g8 b8 HLI HHN HLN
      go_wp2_with fail
      go_roundw
      case rel => exact ⟨k + 1, by omega, by go_num, H8.out⟩
      case measure => simp [Go.RowKit.intOf]; omega
    · obtain rfl : k = 8 := by omega
      have HG : Hid (LI w i Z q (layI i) wr) := by
        have h := HLI.out
        rw [List.take_of_length_le (by rw [HN.out]; omega)] at h
        exact h
      have HLN : Hid ((layI i).length = 64) := layI_length HN.out
      clear HLI
      go_wp2_with (first | ((with_reducible show wpList _ _ _ ({ dst := _, op := Op.load 111 _, type := _, pos := _, after := _, guard := _ } :: _) _ _); refine wpList_load_64 rfl _ rfl HG.out.blk HLN.out rfl ?_) | ((with_reducible show wpList _ _ _ ({ dst := _, op := Op.store 111 _ _, type := _, pos := _, after := _, guard := _ } :: _) _ _); refine wpList_store_64 rfl _ _ rfl HG.out.res hzs HLN.out rfl rfl ?_; intro w9 G9 b9 z9))
      exact bodyPost_ret (results_cell_row rfl _ _ (w.heap.size + 1) 111 _ (0, 0) _ rfl G9 Tryz.underlying111 rfl (by rw [Tryz.sz111, List.size_toArray, bvs_length, HLN.out])) rfl ⟨rfl, HG.out.b.trans (b9.mono (by omega))⟩
end Go.Proofs.YtkiifmnmeikdlaaGreatDoor
/- inode.Put. -/
namespace Go.Proofs.YtkiifmnmeikdlaaGreatDoor
open Go.RowKit
set_option maxRecDepth 100000
set_option maxHeartbeats 4000000 in
theorem iput_no (i : Ino) (hn : i.ns.length = 8) (hr : rtB i = false) (w : World) :
    Calls Tryz.prog 29 #[.agg (iA i)] w fun e w' => e = .returned (.tuple #[.slice none 0 0, .int .i64 1]) ∧ Below w.heap.size w w' := by
  have HI : Hid (InoAt (w.alloc (.cells (iA i) 30)) w.heap.size i) := ino_new w i hn
  have HB : Hid (Below w.heap.size w (w.alloc (.cells (iA i) 30))) := (Below.refl _ _).alloc (Nat.le_refl _) _
  have RT := iright_any i hn
  rw [hr] at RT
  clear hn hr
  go_enter Tryz.func29, Tryz.ntmps29
  go_wp2_with (first | ((with_reducible show wpList _ _ _ ({ dst := _, op := Op.load 30 _, type := _, pos := _, after := _, guard := _ } :: _) _ _); refine wpList_load_ino rfl _ rfl (HI.out) rfl ?_))
  refine (RT _).mono ?_
  rintro e w1 ⟨rfl, h1⟩
  go_wp2
  go_ret2
  exact ⟨rfl, HB.out.trans (h1.mono HB.out.size)⟩
set_option maxRecDepth 100000 in
set_option maxHeartbeats 4000000 in
theorem iput_yes (i : Ino) (hn : i.ns.length = 8) (hr : rtB i = true) (w : World) :
    Calls Tryz.prog 29 #[.agg (iA i)] w fun e w' => ∃ G, e = .returned (.tuple #[.slice (some ⟨G, 0, none⟩) 64 64, .int .i64 0]) ∧ Blk w' G 111 (layI i) ∧ w.heap.size ≤ G ∧ Below w.heap.size w w' := by
  have HI : Hid (InoAt (w.alloc (.cells (iA i) 30)) w.heap.size i) := ino_new w i hn
  have HB : Hid (Below w.heap.size w (w.alloc (.cells (iA i) 30))) := (Below.refl _ _).alloc (Nat.le_refl _) _
  have RT := iright_any i hn
  have LA := fun W => ilay_any i hn (rtB_inR hr) W
  have HLN : Hid ((layI i).length = 64) := layI_length hn
  generalize layI i = B at LA HLN ⊢
  rw [hr] at RT
  obtain ⟨Z, hz, hzs, HZ⟩ := zero64
  clear HZ hn hr
  go_enter Tryz.func29, Tryz.ntmps29
  go_wp2_with (first | ((with_reducible show wpList _ _ _ ({ dst := _, op := Op.load 30 _, type := _, pos := _, after := _, guard := _ } :: _) _ _); refine wpList_load_ino rfl _ rfl (HI.out) rfl ?_))
  refine (RT _).mono ?_
  rintro e w1 ⟨rfl, h1⟩
  have HI1 : Hid (InoAt w1 w.heap.size i) := HI.out.up h1
  have HB1 : Hid (Below w.heap.size w w1) := HB.out.trans (h1.mono HB.out.size)
  clear HI HB h1 RT
  go_wp2_with (first | ((with_reducible show wpList _ _ _ ({ dst := _, op := Op.load 30 _, type := _, pos := _, after := _, guard := _ } :: _) _ _); refine wpList_load_ino rfl _ rfl (HI1.out) rfl ?_))
  refine (LA _).mono ?_
  rintro e w2 ⟨rfl, h2⟩
  have HB2 : Hid (Below w.heap.size w w2) := HB1.out.trans (h2.mono HB1.out.size)
  have HN : Hid ((w2.alloc (.cells Z 111)).heap[w2.heap.size]? = some (.cells Z 111 (0, 0))) := heap_alloc_new _ _
  have HNB : Hid (Below w.heap.size w (w2.alloc (.cells Z 111))) := HB2.out.alloc HB2.out.size _
  clear HI1 h2 LA
  go_wp2_with (first | ((with_reducible show wpList _ _ _ ({ dst := _, op := Op.store 111 _ _, type := _, pos := _, after := _, guard := _ } :: _) _ _); refine wpList_store_64 rfl _ _ rfl HN.out hzs HLN.out rfl rfl ?_; intro w8 G8 b8 z8))
  have HG8 : Hid _ := G8
  have HB8 : Hid (Below w.heap.size w w8) := HNB.out.trans (b8.mono HB2.out.size)
  clear G8 b8 z8
  go_wp2
  go_ret2
  exact ⟨_, rfl, HG8.out, HB2.out.size, HB8.out⟩
end Go.Proofs.YtkiifmnmeikdlaaGreatDoor
/- inode.read. -/
namespace Go.Proofs.YtkiifmnmeikdlaaGreatDoor
open Go.RowKit
set_option maxRecDepth 100000
/-- A part of a slice of bytes. -/
theorem slice_sl (bb off len cap o l : Nat) (a b : Int) (ha : a = (o : Int)) (hb : b = (o : Int) + (l : Int)) (h1 : o < cap) (h : o + l ≤ cap) (w : World) :
    (Instr.slice 42 (.slice (some ⟨bb, off, none⟩) len cap) (some (.int .i64 a)) (some (.int .i64 b)) none).run Tryz.prog w = .ok (.slice (some ⟨bb, off + o, none⟩) l (cap - o)) w := by
  subst ha; subst hb
  have he : Tryz.prog.elem 42 = 5 := by kernel_rfl
  rw [run_slice_lh w 42 _ _ _ (by kernel_rfl) .i64 .i64 _ _ (by omega) (by omega) (by omega), he, size5]
  simp only [Result.andThen_ok, sliced, Int.toNat_natCast]
  rw [show ((o : Int) + (l : Int)).toNat = o + l by omega]
  simp [show ¬ cap = o by omega, addr_add]
theorem getNum_lt {l : List UInt8} {n : Nat} (h : l.length = n) (hn : n ≤ 8) : getNum l < 2 ^ (8 * n) := by
  have e : getNum l = leNum l := by
    unfold getNum pad8
    rw [List.take_of_length_le (by omega)]
    have z : ∀ (k : Nat) (l : List UInt8), leNum (l ++ List.replicate k 0) = leNum l := by
      intro k
      induction k with
      | zero => intro l; simp
      | succ k ih => intro l; rw [List.replicate_succ', ← List.append_assoc, leNum_snoc, ih]; simp
    exact z _ _
  rw [e, ← h]
  exact leNum_lt l
/-- What the bytes say. -/
def rdP (l : List UInt8) (o n : Nat) : Nat := getNum ((l.drop o).take n)
theorem rdP_lt {l : List UInt8} {o n m : Nat} (hl : l.length = m) (h : o + n ≤ m) (hn : n ≤ 8) : rdP l o n < 2 ^ (8 * n) := getNum_lt (by simp [hl]; omega) hn
def rdNm (l : List UInt8) (k : Nat) : Int := (rdP l (16 + 2 * k) 2 : Int)
def rdNs (l : List UInt8) : List Int := (List.range 8).map (rdNm l)
def rdII (l : List UInt8) : Ino := ⟨nth l 0, rdP l 2 2, rdP l 4 4, IntKind.i64.wrap (rdP l 8 8 : Int), rdNs l⟩
theorem rdNs_length (l : List UInt8) : (rdNs l).length = 8 := by simp [rdNs]
theorem rdI_length (l : List UInt8) : (rdII l).ns.length = 8 := rdNs_length l
theorem run_build_ino (k l s d : Int) (ns : List Int) (hn : ns.length = 8) (w : World) :
    (Instr.build 30 #[(0, .int .i64 k), (1, .int .i64 l), (2, .int .i64 s), (3, .int .i64 d), (4, .agg (ivs (ns.take 6)).toArray), (5, .int .i64 (ns.getD 6 0)), (6, .int .i64 (ns.getD 7 0))]).run Tryz.prog w = .ok (.agg (iA ⟨k, l, s, d, ns⟩)) w := by
  obtain ⟨a0, a1, a2, a3, a4, a5, a6, a7, rfl⟩ := eight_i hn
  exact run_build w 30 _ _ (by kernel_rfl)
/-- Nothing but block q has changed. -/
structure Only (q : Nat) (W W' : World) : Prop where
  bel : Below q W W'
  blk : ∀ j, j ≠ q → W'.heap[j]? = W.heap[j]?
section
variable {w0 W W' : World} {q p : Nat}
theorem Only.cell (h : Only q W W') {a : Addr} (ha : a.block ≠ q) : W'.cell? a = W.cell? a := World.cell?_of_block (w := W) (h.blk _ ha)
theorem Src.only {sp : Option Addr} {l : List UInt8} (h : Src W sp l) (ho : Only q W W') (hp : ∀ b off, sp = some ⟨b, off, none⟩ → b ≠ q) : Src W' sp l := by
  rcases h with h | ⟨b, off, h1, h2, h3⟩
  · exact .inl h
  · exact .inr ⟨b, off, h1, by have := ho.bel.size; omega, fun k hk => (ho.cell (a := ⟨b, off + k, none⟩) (hp b off h1)).trans (h3 k hk)⟩
theorem only_setRow (W : World) (q : Nat) (cs : Array Value) : Only q W (W.setRow q cs) :=
  ⟨below_setRow (Below.refl _ _) (Nat.le_refl _) _, fun j hj => setRow_other W q j cs hj⟩
theorem RowI.only {t : TypeId} {l : List Int} (h : RowI W p t l) (ho : Only q W W') (hp : p ≠ q) : RowI W' p t l := by unfold RowI; rw [ho.blk p hp]; exact h
end
theorem wp_store_inoO {op : Oper} {a : Act} {w : World} {K : Act → World → Prop} {Q : Exit → Act → World → Prop} (x y : Operand) (ho : op.op = .store 30 x y)
    {p : Nat} {i j : Ino} (H : InoAt w p i) (hj : j.ns.length = 8) (hx : a.eval x = .pointer (some ⟨p, 0, none⟩)) (hy : a.eval y = .agg (iA j))
    (h : ∀ w', InoAt w' p j → Only p w w' → w'.heap.size = w.heap.size → K (a.put op.dst undef) w') : op.wp Tryz.prog a w K Q := by
  have hrun := run_storeVar_row (P := Tryz.prog) w p 30 30 (iA i) (iA j) H.row (by rw [Tryz.sz30, iA_size hj]) (by rw [iA_size H.ln, iA_size hj]) (iA_one _)
  unfold Oper.wp execOp
  simp only [ho, hx, hy, Instr.storeAt, Instr.sureAddr, Sem.run_bind, Sem.run_pure, Result.andThen_ok, hrun]
  exact h _ ⟨setRow_heap w p _ _ 30 _ H.row, hj⟩ (only_setRow _ _ _) (by simp)
theorem wpList_store_inoO {ops : Array Oper} {rest : List Oper} {op : Oper} {a : Act} {w : World} {Q : Exit → Act → World → Prop} (hgd : op.guard = none) (x y : Operand) (ho : op.op = .store 30 x y)
    {p : Nat} {i j : Ino} (H : InoAt w p i) (hj : j.ns.length = 8) (hx : a.eval x = .pointer (some ⟨p, 0, none⟩)) (hy : a.eval y = .agg (iA j))
    (h : ∀ w', InoAt w' p j → Only p w w' → w'.heap.size = w.heap.size → wpList Tryz.prog ops Q rest (a.put op.dst undef) w') : wpList Tryz.prog ops Q (op :: rest) a w :=
  wpList_plain hgd fun _ hK => wp_store_inoO x y ho H hj hx hy fun w' h1 h2 h3 => hK _ _ (h w' h1 h2 h3)
/-- What read has laid. -/
structure RI (w0 : World) (bb off : Nat) (l : List UInt8) (ns : List Int) (W : World) : Prop where
  b : Below w0.heap.size w0 W
  row : RowI W (w0.heap.size + 1) 164 ns
  src : Src W (some ⟨bb, off, none⟩) l
  hl : l.length = 64
section
variable {w0 W W' : World} {bb off : Nat} {l : List UInt8} {ns ns' : List Int}
theorem RI.up (h : RI w0 bb off l ns W) (hb : Below W.heap.size W W') : RI w0 bb off l ns W' :=
  ⟨h.b.trans (hb.mono h.b.size), h.row.up hb, h.src.below hb (Nat.le_refl _), h.hl⟩
theorem RI.c0 (h : RI w0 bb off l ns W) : W.cell? ⟨bb, off, none⟩ = some (.int .u8 (nth l 0)) := by
  have := h.src.cell 0 (by have := h.hl; omega)
  rw [bv_nth (by have := h.hl; omega)] at this
  exact this
theorem RI.n6 (h : RI w0 bb off l (rdNs l) W) : W.cell? ⟨w0.heap.size + 1, 6, none⟩ = some (.int .i64 ((rdNs l).getD 6 0)) := h.row.cell 6 (by simp [rdNs])
theorem RI.n7 (h : RI w0 bb off l (rdNs l) W) : W.cell? ⟨w0.heap.size + 1, 7, none⟩ = some (.int .i64 ((rdNs l).getD 7 0)) := h.row.cell 7 (by simp [rdNs])
end
theorem RI.only {w0 W W' : World} {bb off : Nat} {l : List UInt8} {ns : List Int} (h : RI w0 bb off l ns W) (ho : Only w0.heap.size W W') (hbb : bb < w0.heap.size) : RI w0 bb off l ns W' :=
  ⟨h.b.trans ho.bel, h.row.only ho (by omega), h.src.only ho (fun b o e => by cases e; omega), h.hl⟩
theorem RI.start (w : World) (Z : Array Value) (bb off : Nat) (l : List UInt8) (hl : l.length = 64) (hs : Src w (some ⟨bb, off, none⟩) l) (hz : Z = (ivs [0, 0, 0, 0, 0, 0, 0, 0]).toArray) :
    RI w bb off l [0, 0, 0, 0, 0, 0, 0, 0] ((w.alloc (.cells (iA zino) 30)).alloc (.cells Z 164)) := by
  have s1 : (w.alloc (.cells (iA zino) 30)).heap.size = w.heap.size + 1 := by simp
  have h1 := heap_alloc_new (w.alloc (.cells (iA zino) 30)) (.cells Z 164)
  rw [s1] at h1
  have hb : Below w.heap.size w ((w.alloc (.cells (iA zino) 30)).alloc (.cells Z 164)) := ((Below.refl _ _).alloc (Nat.le_refl _) _).alloc (by simp) _
  refine ⟨hb, ?_, hs.below hb (Nat.le_refl _), hl⟩
  unfold RowI
  rw [← hz]
  exact h1
/-- A number more in the row. -/
theorem RI.set {w0 W : World} {bb off : Nat} {l : List UInt8} {ns : List Int} (h : RI w0 bb off l ns W) (hbb : bb < w0.heap.size) (j : Nat) (x : Int) : RI w0 bb off l (ns.set j x) (W.setCell ⟨w0.heap.size + 1, j, none⟩ (.int .i64 x)) := by
  have hb : Below (w0.heap.size + 1) W (W.setCell ⟨w0.heap.size + 1, j, none⟩ (.int .i64 x)) := (Below.refl _ _).setCell (by simp) _
  refine ⟨h.b.trans (hb.mono (by omega)), h.row.set j x, ?_, h.hl⟩
  rcases h.src with h1 | ⟨b', off', h1, h2, h3⟩
  · exact .inl h1
  · obtain ⟨rfl, rfl⟩ : bb = b' ∧ off = off' := by simpa using h1
    exact .inr ⟨bb, off, rfl, by have := hb.size; omega, fun j hj => (hb.cell (p := ⟨bb, off + j, none⟩) (show bb < w0.heap.size + 1 by omega)).trans (h3 j hj)⟩
/-- The names up to k. -/
def upN (l : List UInt8) (k : Nat) : List Int := (List.range k).map (rdNm l) ++ List.replicate (8 - k) 0
theorem upN_set (l : List UInt8) (k : Nat) (hk : k < 8) : (upN l k).set k (rdNm l k) = upN l (k + 1) := by
  unfold upN
  rw [List.set_append_right _ _ (by simp), List.range_succ, List.map_append, show 8 - k = (8 - (k + 1)) + 1 by omega, List.replicate_succ]
  simp
theorem upN_length (l : List UInt8) (k : Nat) (hk : k ≤ 8) : (upN l k).length = 8 := by simp [upN]; omega
theorem exec_build_ino {ev : Operand → Value} {oi : Oper} {w : World} {x0 x1 x2 x3 x4 x5 x6 : Operand} {k l s d : Int} {ns : List Int} (hn : ns.length = 8) (ho : oi.op = .build 30 #[(0, x0), (1, x1), (2, x2), (3, x3), (4, x4), (5, x5), (6, x6)])
    (e0 : ev x0 = .int .i64 k) (e1 : ev x1 = .int .i64 l) (e2 : ev x2 = .int .i64 s) (e3 : ev x3 = .int .i64 d) (e4 : ev x4 = .agg (ivs (ns.take 6)).toArray) (e5 : ev x5 = .int .i64 (ns.getD 6 0)) (e6 : ev x6 = .int .i64 (ns.getD 7 0)) :
    (execOp ev oi).run Tryz.prog w = .ok (.value (.agg (iA ⟨k, l, s, d, ns⟩))) w := by
  have h := run_build_ino k l s d ns hn w
  unfold execOp
  simp only [ho, List.map_toArray, List.map_cons, List.map_nil, e0, e1, e2, e3, e4, e5, e6, Sem.run_bind, h, Result.andThen_ok]
  rfl
theorem exec_load_six {ev : Operand → Value} {oi : Oper} {x : Operand} {w : World} {g : Nat} {t : TypeId} {ns : List Int} (H : RowI w g t ns) (hn : ns.length = 8) (ho : oi.op = .load 28 x) (hx : ev x = .pointer (some ⟨g, 0, none⟩)) :
    (execOp ev oi).run Tryz.prog w = .ok (.value (.agg (ivs (ns.take 6)).toArray)) w := by
  unfold execOp
  simp only [ho, hx, Instr.loadAt, Instr.sureAddr, Sem.run_bind, Sem.run_pure, Result.andThen_ok, run_loadVar_mid w g 0 28 (ivs (ns.take 6)) _ (fun j v hv => by
    have hj : j < (ivs (ns.take 6)).length := (List.getElem?_eq_some_iff.1 hv).1
    rw [ivs_length, List.length_take] at hj
    rw [Nat.zero_add, H.cell j (by omega), ← hv]
    simp [ivs, hn, show j < 6 by omega, show j < 8 by omega]) Tryz.underlying28 rfl (by rw [show (Tryz.prog.info? 28).map (·.size) = some 6 by kernel_rfl, ivs_length]; simp [hn])]
attribute [local go_sem] wrapI
set_option maxRecDepth 100000 in
set_option maxHeartbeats 4000000 in
theorem iread_any (bb off cap : Nat) (l : List UInt8) (hl : l.length = 64) (w : World) (hsrc : Src w (some ⟨bb, off, none⟩) l) (hbb : bb < w.heap.size) (hc : (64 : Int) ≤ cap) (hm : (cap : Int) ≤ 9223372036854775807) :
    Calls Tryz.prog 126 #[.slice (some ⟨bb, off, none⟩) 64 cap] w fun e w' => e = .returned (.agg (iA (rdII l))) ∧ Below w.heap.size w w' := by
  obtain ⟨Z, hz, hzs, HZ⟩ := zeroN
  have hz2 := zeroI
  have HS : Hid _ := RI.start w Z bb off l hl hsrc HZ.out
  have HZI : Hid (InoAt ((w.alloc (.cells (iA zino) 30)).alloc (.cells Z 164)) w.heap.size zino) := (ino_new w zino rfl).alloc _
  have NG : ∀ o n : Nat, o + n ≤ 64 → ∀ W, Src W (some ⟨bb, off, none⟩) l → Calls Tryz.prog 123 #[.slice (some ⟨bb, off + o, none⟩) n (cap - o)] W fun e w' => e = .returned (.int .u64 (rdP l o n : Int)) ∧ Below W.heap.size W w' := by
    intro o n ho W hW
    have h := nget_any (some ⟨bb, off + o, none⟩) ((l.drop o).take n) (cap - o) W (hW.part o n (by omega) (by omega))
    rw [show ((l.drop o).take n).length = n by simp [hl]; omega] at h
    exact h
  have HL : Hid (l.length = 64) := hl
  clear HZ hsrc hl
  go_enter Tryz.func126, Tryz.ntmps126
  go_wp2_with fail
  generalize (w.alloc (.cells (iA zino) 30)).alloc (.cells Z 164) = W at *
  go_loopw [6] (fun t wr => ∃ k : Nat, k ≤ 8 ∧ t = .int .i64 k ∧ RI w bb off l (upN l k) wr ∧ InoAt wr w.heap.size zino) (fun t _ => 8 - (Go.RowKit.intOf t).toNat)
  case atStart => exact ⟨0, by omega, rfl, HS.out, HZI.out⟩
  case round =>
    obtain ⟨k, hk8, rfl, hri, hrz⟩ := hrel
    have HRI : Hid _ := hri
    have HRZ : Hid _ := hrz
    clear hri hrz HS HZI
    by_cases hlt : (k : Int) < 8
    · have hsl := slice_sl bb off 64 cap (16 + 2 * k) 2 (16 + (k : Int) * 2) (16 + (k : Int) * 2 + 2) (by omega) (by omega) (by omega) (by omega)
      have hx := rdP_lt (l := l) (o := 16 + 2 * k) (n := 2) HL.out (by omega) (by omega)
      have HU : Hid _ := upN_set l k (by omega)
      unfold rdNm at HU
      have HNG : Hid _ := NG (16 + 2 * k) 2 (by omega)
      clear NG
      generalize rdP l (16 + 2 * k) 2 = x at *
      have i1 : In64 (x : Int) := ⟨by omega⟩
      go_wp2_with fail
      refine (HNG.out _ HRI.out.src).mono ?_
      rintro e v8 ⟨rfl, h8⟩
      have H8 : Hid _ := HRI.out.up h8
      have H9z : Hid (InoAt (v8.setCell ⟨w.heap.size + 1, k, none⟩ (.int .i64 x)) w.heap.size zino) := (HRZ.out.up h8).below ((Below.refl (w.heap.size + 1) _).setCell (by simp) _) (by omega)
      have rc := H8.out.row.cell k (by rw [upN_length l k hk8]; omega)
      have rf := H8.out.row.frozen k
      have H9 : Hid (RI w bb off l (upN l (k + 1)) (v8.setCell ⟨w.heap.size + 1, k, none⟩ (.int .i64 x))) := by
        have := H8.out.set hbb k (x : Int)
        rw [HU.out] at this
        exact this
      clear h8 HRI HNG HU
      go_wp2_with fail
      go_roundw
      case rel => exact ⟨k + 1, by omega, by go_num, H9.out, H9z.out⟩
      case measure => simp [Go.RowKit.intOf]; omega
    · obtain rfl : k = 8 := by omega
      have HG : Hid (RI w bb off l (rdNs l) wr) := by
        have h := HRI.out
        rw [show upN l 8 = rdNs l by simp [upN, rdNs]] at h
        exact h
      clear HRI
      go_upto_region 8 with fail
      have hs2 := slice_sl bb off 64 cap 2 2 2 4 (by omega) (by omega) (by omega) (by omega)
      have hs4 := slice_sl bb off 64 cap 4 4 4 8 (by omega) (by omega) (by omega) (by omega)
      have hs8 := slice_sl bb off 64 cap 8 8 8 16 (by omega) (by omega) (by omega) (by omega)
      have hat : ∀ w', (Instr.arrayAt 28 (.slice (some ⟨w.heap.size + 1, 0, none⟩) 6 8)).run Tryz.prog w' = .ok (.pointer (some ⟨w.heap.size + 1, 0, none⟩)) w' := fun w' => run_arrayAt w' 28 _ 6 _ 6 8 Tryz.underlying28 (Nat.le_refl _)
      have n2 := NG 2 2 (by omega)
      have n4 := NG 4 4 (by omega)
      have n8 := NG 8 8 (by omega)
      have x2 := rdP_lt (l := l) (o := 2) (n := 2) HL.out (by omega) (by omega)
      have x4 := rdP_lt (l := l) (o := 4) (n := 4) HL.out (by omega) (by omega)
      have x8 := rdP_lt (l := l) (o := 8) (n := 8) HL.out (by omega) (by omega)
      have HRD : Hid (rdII l = ⟨nth l 0, rdP l 2 2, rdP l 4 4, IntKind.i64.wrap (rdP l 8 8 : Int), rdNs l⟩) := rfl
      generalize rdP l 2 2 = A2 at *
      generalize rdP l 4 4 = A4 at *
      obtain ⟨D8, HD8⟩ : ∃ x, Hid (x = IntKind.i64.wrap (rdP l 8 8 : Int)) := ⟨_, rfl⟩
      rw [← HD8.out] at HRD
      have hcv : IntKind.i64.wrap (rdP l 8 8 : Int) = D8 := HD8.out.symm
      generalize rdP l 8 8 = A8 at *
      have i2 : In64 (A2 : Int) := ⟨by omega⟩
      have i0 : In64 (nth l 0) := ⟨by have := nth_lo l 0; have := nth_hi l 0; omega⟩
      have i4 : In64 (A4 : Int) := ⟨by omega⟩
      have z0 := nth_lo l 0
      have z1 := nth_hi l 0
      obtain ⟨nm6, HN6⟩ : ∃ x, Hid (x = (rdNs l).getD 6 0) := ⟨_, rfl⟩
      obtain ⟨nm7, HN7⟩ : ∃ x, Hid (x = (rdNs l).getD 7 0) := ⟨_, rfl⟩
      have gd := HG.out.up (Below.refl _ _).drew
      have gz := HRZ.out.drew
      clear NG HG HRZ
      refine wp_region_held_drew (S := (fun W => RI w bb off l (rdNs l) W)) (by kernel_rfl) gd (fun hH => ?_)
      refine takeH (i := 0) (dst := some 22) (v := ?v1) rfl rfl (by kernel_rfl) (by kernel_rfl) (by kernel_rfl) (fun _ _ _ h => h) rfl ?hy1 hH rfl ?rest1
      case hy1 => (intro W hW; have s1 := hW.c0; have rc6 := hW.n6; have rc7 := hW.n7; rw [← HN6.out] at rc6; rw [← HN7.out] at rc7; clear hW; go_simp; try with_reducible rfl)
      (try simp only [Act.put, List.setIfInBounds_toArray, List.set_cons_zero, List.set_cons_succ])
      refine takeH (i := 1) (dst := some 23) (v := ?v2) rfl rfl (by kernel_rfl) (by kernel_rfl) (by kernel_rfl) (fun _ _ _ h => h) rfl ?hy2 hH rfl ?rest2
      case hy2 => (intro W hW; have s1 := hW.c0; have rc6 := hW.n6; have rc7 := hW.n7; rw [← HN6.out] at rc6; rw [← HN7.out] at rc7; clear hW; go_simp; try with_reducible rfl)
      (try simp only [Act.put, List.setIfInBounds_toArray, List.set_cons_zero, List.set_cons_succ])
      refine takeH (i := 2) (dst := some 24) (v := ?v3) rfl rfl (by kernel_rfl) (by kernel_rfl) (by kernel_rfl) (fun _ _ _ h => h) rfl ?hy3 hH rfl ?rest3
      case hy3 => (intro W hW; have s1 := hW.c0; have rc6 := hW.n6; have rc7 := hW.n7; rw [← HN6.out] at rc6; rw [← HN7.out] at rc7; clear hW; go_simp; try with_reducible rfl)
      (try simp only [Act.put, List.setIfInBounds_toArray, List.set_cons_zero, List.set_cons_succ])
      refine takeH (i := 3) (dst := some 25) (v := ?v4) rfl rfl (by kernel_rfl) (by kernel_rfl) (by kernel_rfl) (fun _ _ _ h => h) rfl ?hy4 hH rfl ?rest4
      case hy4 => (intro W hW; have s1 := hW.c0; have rc6 := hW.n6; have rc7 := hW.n7; rw [← HN6.out] at rc6; rw [← HN7.out] at rc7; clear hW; go_simp; try with_reducible rfl)
      (try simp only [Act.put, List.setIfInBounds_toArray, List.set_cons_zero, List.set_cons_succ])
      refine takeH (i := 4) (dst := some 26) (v := ?v5) rfl rfl (by kernel_rfl) (by kernel_rfl) (by kernel_rfl) (fun _ _ _ h => h) rfl ?hy5 hH rfl ?rest5
      case hy5 => (intro W hW; have s1 := hW.c0; have rc6 := hW.n6; have rc7 := hW.n7; rw [← HN6.out] at rc6; rw [← HN7.out] at rc7; clear hW; go_simp; try with_reducible rfl)
      (try simp only [Act.put, List.setIfInBounds_toArray, List.set_cons_zero, List.set_cons_succ])
      refine takeH (i := 5) (dst := some 27) (v := ?v6) rfl rfl (by kernel_rfl) (by kernel_rfl) (by kernel_rfl) (fun _ _ _ h => h) rfl ?hy6 hH rfl ?rest6
      case hy6 => (intro W hW; have s1 := hW.c0; have rc6 := hW.n6; have rc7 := hW.n7; rw [← HN6.out] at rc6; rw [← HN7.out] at rc7; clear hW; go_simp; try with_reducible rfl)
      (try simp only [Act.put, List.setIfInBounds_toArray, List.set_cons_zero, List.set_cons_succ])
      refine takeH (i := 8) (dst := some 30) (v := ?v7) rfl rfl (by kernel_rfl) (by kernel_rfl) (by kernel_rfl) (fun _ _ _ h => h) rfl ?hy7 hH rfl ?rest7
      case hy7 => (intro W hW; have s1 := hW.c0; have rc6 := hW.n6; have rc7 := hW.n7; rw [← HN6.out] at rc6; rw [← HN7.out] at rc7; clear hW; go_simp; try with_reducible rfl)
      (try simp only [Act.put, List.setIfInBounds_toArray, List.set_cons_zero, List.set_cons_succ])
      refine takeH (i := 9) (dst := some 31) (v := ?v8) rfl rfl (by kernel_rfl) (by kernel_rfl) (by kernel_rfl) (fun _ _ _ h => h) rfl ?hy8 hH rfl ?rest8
      case hy8 => (intro W hW; have s1 := hW.c0; have rc6 := hW.n6; have rc7 := hW.n7; rw [← HN6.out] at rc6; rw [← HN7.out] at rc7; clear hW; go_simp; try with_reducible rfl)
      (try simp only [Act.put, List.setIfInBounds_toArray, List.set_cons_zero, List.set_cons_succ])
      refine takeH (i := 12) (dst := some 34) (v := ?v9) rfl rfl (by kernel_rfl) (by kernel_rfl) (by kernel_rfl) (fun _ _ _ h => h) rfl ?hy9 hH rfl ?rest9
      case hy9 => (intro W hW; have s1 := hW.c0; have rc6 := hW.n6; have rc7 := hW.n7; rw [← HN6.out] at rc6; rw [← HN7.out] at rc7; clear hW; go_simp; try with_reducible rfl)
      (try simp only [Act.put, List.setIfInBounds_toArray, List.set_cons_zero, List.set_cons_succ])
      refine takeH (i := 13) (dst := some 35) (v := ?v10) rfl rfl (by kernel_rfl) (by kernel_rfl) (by kernel_rfl) (fun _ _ _ h => h) rfl ?hy10 hH rfl ?rest10
      case hy10 => (intro W hW; have s1 := hW.c0; have rc6 := hW.n6; have rc7 := hW.n7; rw [← HN6.out] at rc6; rw [← HN7.out] at rc7; clear hW; go_simp; try with_reducible rfl)
      (try simp only [Act.put, List.setIfInBounds_toArray, List.set_cons_zero, List.set_cons_succ])
      refine takeH (i := 16) (dst := some 38) (v := ?v11) rfl rfl (by kernel_rfl) (by kernel_rfl) (by kernel_rfl) (fun _ _ _ h => h) rfl ?hy11 hH rfl ?rest11
      case hy11 => (intro W hW; have s1 := hW.c0; have rc6 := hW.n6; have rc7 := hW.n7; rw [← HN6.out] at rc6; rw [← HN7.out] at rc7; clear hW; go_simp; try with_reducible rfl)
      (try simp only [Act.put, List.setIfInBounds_toArray, List.set_cons_zero, List.set_cons_succ])
      refine takeH (i := 17) (dst := some 39) (v := ?v12) rfl rfl (by kernel_rfl) (by kernel_rfl) (by kernel_rfl) (fun _ _ _ h => h) rfl ?hy12 hH rfl ?rest12
      case hy12 => (intro W hW; have s1 := hW.c0; have rc6 := hW.n6; have rc7 := hW.n7; rw [← HN6.out] at rc6; rw [← HN7.out] at rc7; clear hW; go_simp; try with_reducible rfl)
      (try simp only [Act.put, List.setIfInBounds_toArray, List.set_cons_zero, List.set_cons_succ])
      refine takeH (i := 18) (dst := some 40) (v := ?v13) rfl rfl (by kernel_rfl) (by kernel_rfl) (by kernel_rfl) (fun _ _ _ h => h) rfl ?hy13 hH rfl ?rest13
      case hy13 => (intro W hW; refine exec_load_six (x := Operand.tmp 39) hW.row (rdNs_length l) ?_ ?_ <;> rfl)
      (try simp only [Act.put, List.setIfInBounds_toArray, List.set_cons_zero, List.set_cons_succ])
      refine takeH (i := 19) (dst := some 41) (v := ?v14) rfl rfl (by kernel_rfl) (by kernel_rfl) (by kernel_rfl) (fun _ _ _ h => h) rfl ?hy14 hH rfl ?rest14
      case hy14 => (intro W hW; have s1 := hW.c0; have rc6 := hW.n6; have rc7 := hW.n7; rw [← HN6.out] at rc6; rw [← HN7.out] at rc7; clear hW; go_simp; try with_reducible rfl)
      (try simp only [Act.put, List.setIfInBounds_toArray, List.set_cons_zero, List.set_cons_succ])
      refine takeH (i := 20) (dst := some 42) (v := ?v15) rfl rfl (by kernel_rfl) (by kernel_rfl) (by kernel_rfl) (fun _ _ _ h => h) rfl ?hy15 hH rfl ?rest15
      case hy15 => (intro W hW; have s1 := hW.c0; have rc6 := hW.n6; have rc7 := hW.n7; rw [← HN6.out] at rc6; rw [← HN7.out] at rc7; clear hW; go_simp; try with_reducible rfl)
      (try simp only [Act.put, List.setIfInBounds_toArray, List.set_cons_zero, List.set_cons_succ])
      refine takeH (i := 21) (dst := some 43) (v := ?v16) rfl rfl (by kernel_rfl) (by kernel_rfl) (by kernel_rfl) (fun _ _ _ h => h) rfl ?hy16 hH rfl ?rest16
      case hy16 => (intro W hW; have s1 := hW.c0; have rc6 := hW.n6; have rc7 := hW.n7; rw [← HN6.out] at rc6; rw [← HN7.out] at rc7; clear hW; go_simp; try with_reducible rfl)
      (try simp only [Act.put, List.setIfInBounds_toArray, List.set_cons_zero, List.set_cons_succ])
      refine takeH (i := 22) (dst := some 44) (v := ?v17) rfl rfl (by kernel_rfl) (by kernel_rfl) (by kernel_rfl) (fun _ _ _ h => h) rfl ?hy17 hH rfl ?rest17
      case hy17 => (intro W hW; have s1 := hW.c0; have rc6 := hW.n6; have rc7 := hW.n7; rw [← HN6.out] at rc6; rw [← HN7.out] at rc7; clear hW; go_simp; try with_reducible rfl)
      (try simp only [Act.put, List.setIfInBounds_toArray, List.set_cons_zero, List.set_cons_succ])
      refine callH (i := 6) { dst := some 28, op := Go.Op.call { callee := Go.Callee.value (Go.Operand.func 123), args := #[Go.Operand.tmp 27], argTypes := #[42] }, type := 138, pos := "inode.go:109", after := #[{ on := 5, ground := Go.Ground.data }], guard := none } (by kernel_rfl) rfl rfl (fun K hK => ?_)
      go_simp
      refine (n2 _ gd.src).mono ?_
      rintro e v1 ⟨rfl, k1⟩
      have m1 := gd.up k1
      have r1 := gz.up k1
      clear k1
      clear hH
      refine hK.out _ _ m1 (fun hH => ?_)
      clear hK K
      (try simp only [Act.put, List.setIfInBounds_toArray, List.set_cons_zero, List.set_cons_succ])
      refine takeH (i := 7) (dst := some 29) (v := ?v18) rfl rfl (by kernel_rfl) (by kernel_rfl) (by kernel_rfl) (fun _ _ _ h => h) rfl ?hy18 hH rfl ?rest18
      case hy18 => (intro W hW; have s1 := hW.c0; have rc6 := hW.n6; have rc7 := hW.n7; rw [← HN6.out] at rc6; rw [← HN7.out] at rc7; clear hW; go_simp; try with_reducible rfl)
      (try simp only [Act.put, List.setIfInBounds_toArray, List.set_cons_zero, List.set_cons_succ])
      refine callH (i := 10) { dst := some 32, op := Go.Op.call { callee := Go.Callee.value (Go.Operand.func 123), args := #[Go.Operand.tmp 31], argTypes := #[42] }, type := 138, pos := "inode.go:110", after := #[{ on := 9, ground := Go.Ground.data }, { on := 6, ground := Go.Ground.chain }], guard := none } (by kernel_rfl) rfl rfl (fun K hK => ?_)
      go_simp
      refine (n4 _ m1.src).mono ?_
      rintro e v2 ⟨rfl, k2⟩
      have m2 := m1.up k2
      have r2 := r1.up k2
      clear k2
      clear hH
      refine hK.out _ _ m2 (fun hH => ?_)
      clear hK K
      (try simp only [Act.put, List.setIfInBounds_toArray, List.set_cons_zero, List.set_cons_succ])
      refine takeH (i := 11) (dst := some 33) (v := ?v19) rfl rfl (by kernel_rfl) (by kernel_rfl) (by kernel_rfl) (fun _ _ _ h => h) rfl ?hy19 hH rfl ?rest19
      case hy19 => (intro W hW; have s1 := hW.c0; have rc6 := hW.n6; have rc7 := hW.n7; rw [← HN6.out] at rc6; rw [← HN7.out] at rc7; clear hW; go_simp; try with_reducible rfl)
      (try simp only [Act.put, List.setIfInBounds_toArray, List.set_cons_zero, List.set_cons_succ])
      refine callH (i := 14) { dst := some 36, op := Go.Op.call { callee := Go.Callee.value (Go.Operand.func 123), args := #[Go.Operand.tmp 35], argTypes := #[42] }, type := 138, pos := "inode.go:111", after := #[{ on := 13, ground := Go.Ground.data }, { on := 10, ground := Go.Ground.chain }], guard := none } (by kernel_rfl) rfl rfl (fun K hK => ?_)
      go_simp
      refine (n8 _ m2.src).mono ?_
      rintro e v3 ⟨rfl, k3⟩
      have m3 := m2.up k3
      have r3 := r2.up k3
      clear k3
      clear hH
      refine hK.out _ _ m3 (fun hH => ?_)
      clear hK K
      (try simp only [Act.put, List.setIfInBounds_toArray, List.set_cons_zero, List.set_cons_succ])
      refine takeH (i := 15) (dst := some 37) (v := ?v20) rfl rfl (by kernel_rfl) (by kernel_rfl) (by kernel_rfl) (fun _ _ _ h => h) rfl ?hy20 hH rfl ?rest20
      case hy20 => (intro W hW; have s1 := hW.c0; have rc6 := hW.n6; have rc7 := hW.n7; rw [← HN6.out] at rc6; rw [← HN7.out] at rc7; clear hW; go_simp; try with_reducible rfl)
      (try simp only [Act.put, List.setIfInBounds_toArray, List.set_cons_zero, List.set_cons_succ])
      refine takeH (i := 23) (dst := some 45) (v := ?v21) rfl rfl (by kernel_rfl) (by kernel_rfl) (by kernel_rfl) (fun _ _ _ h => h) rfl ?hy21 hH rfl ?rest21
      case hy21 => (intro W hW; refine exec_build_ino (k := nth l 0) (l := A2) (s := A4) (d := D8) (x0 := Operand.tmp 25) (x1 := Operand.tmp 29) (x2 := Operand.tmp 33) (x3 := Operand.tmp 37) (x4 := Operand.tmp 40) (x5 := Operand.tmp 42) (x6 := Operand.tmp 44) (rdNs_length l) ?_ ?_ ?_ ?_ ?_ ?_ ?_ ?_ <;> first | rfl | exact congrArg _ HN6.out | exact congrArg _ HN7.out)
      (try simp only [Act.put, List.setIfInBounds_toArray, List.set_cons_zero, List.set_cons_succ])
      refine callH (i := 24) { dst := none, op := Go.Op.store 30 (Go.Operand.tmp 2) (Go.Operand.tmp 45), type := 0, pos := "inode.go:107", after := #[{ on := 23, ground := Go.Ground.data }, { on := 14, ground := Go.Ground.chain }, { on := 0, ground := Go.Ground.phase }, { on := 1, ground := Go.Ground.phase }, { on := 2, ground := Go.Ground.phase }, { on := 3, ground := Go.Ground.phase }, { on := 4, ground := Go.Ground.phase }, { on := 5, ground := Go.Ground.phase }, { on := 6, ground := Go.Ground.phase }, { on := 7, ground := Go.Ground.phase }, { on := 8, ground := Go.Ground.phase }, { on := 9, ground := Go.Ground.phase }, { on := 10, ground := Go.Ground.phase }, { on := 11, ground := Go.Ground.phase }, { on := 12, ground := Go.Ground.phase }, { on := 13, ground := Go.Ground.phase }, { on := 14, ground := Go.Ground.phase }, { on := 15, ground := Go.Ground.phase }, { on := 16, ground := Go.Ground.phase }, { on := 17, ground := Go.Ground.phase }, { on := 18, ground := Go.Ground.phase }, { on := 19, ground := Go.Ground.phase }, { on := 20, ground := Go.Ground.phase }, { on := 21, ground := Go.Ground.phase }, { on := 22, ground := Go.Ground.phase }, { on := 23, ground := Go.Ground.phase }], guard := none } (by kernel_rfl) rfl rfl (fun K hK => ?_)
      rw [if_pos (by rfl)]
      refine wp_store_inoO _ _ rfl r3 (rdNs_length l) rfl rfl ?_
      intro w9 h9 b9 z9
      have m9 := m3.only b9 hbb
      clear hH
      refine hK.out _ _ m9 (fun hH => ?_)
      clear hK K
      (try simp only [Act.put])
      refine wpAnyH_done (by kernel_rfl) ?_ _
      clear hH
      go_wp2_with fail
      rw [HRD.out]
      exact bodyPost_ret (results_cell_row rfl _ _ w.heap.size 30 _ (0, 0) _ rfl h9.row Tryz.underlying30 rfl (by rw [Tryz.sz30, iA_size (rdNs_length l)])) rfl ⟨rfl, m9.b⟩
end Go.Proofs.YtkiifmnmeikdlaaGreatDoor
