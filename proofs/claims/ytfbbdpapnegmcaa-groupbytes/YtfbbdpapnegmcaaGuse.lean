/- group.UseBlock, UseSlot. -/
import Derived.Test.YtfbbdpapnegmcaaGturn
namespace Go.Proofs.Ytfbbdpapnegmcaa
open Go.RowKit
/-- A shape, a header and a place for the answer lie where a function has laid them. -/
structure UW (w0 : World) (a i n no : Int) (bl sl : List UInt8) (W : World) : Prop where
  geo : Lies w0 w0.heap.size a i n W
  head : HeadAt W (w0.heap.size + 1) no bl sl
  res : HeadAt W (w0.heap.size + 1 + 1) 0 z16 z8
section
variable {w0 W W' : World} {a i n no : Int} {bl sl : List UInt8}
theorem UW.below (h : UW w0 a i n no bl sl W) {B : Nat} (hb : Below B W W') (hB : w0.heap.size + 2 < B) : UW w0 a i n no bl sl W' :=
  ⟨⟨(hb.cell (p := ⟨w0.heap.size, 0, none⟩) (show w0.heap.size < B by omega)).trans h.geo.1, (hb.cell (p := ⟨w0.heap.size, 1, none⟩) (show w0.heap.size < B by omega)).trans h.geo.2.1, (hb.cell (p := ⟨w0.heap.size, 2, none⟩) (show w0.heap.size < B by omega)).trans h.geo.2.2.1, h.geo.2.2.2.trans (hb.mono (by omega))⟩, h.head.below hb (by omega), h.res.below hb (by omega)⟩
theorem UW.up (h : UW w0 a i n no bl sl W) (hb : Below W.heap.size W W') : UW w0 a i n no bl sl W' := h.below hb h.res.lt
theorem UW.start (w : World) (a i n no : Int) (bl sl : List UInt8) (hb : bl.length = 16) (hs : sl.length = 8) : UW w a i n no bl sl (((w.alloc (.cells #[.int .i64 a, .int .i64 i, .int .i64 n] 23)).alloc (.cells (hA no bl sl) 28)).alloc (.cells (hA 0 z16 z8) 28)) := by
  have R := RW.start w a i n no bl sl hb hs
  have R2 := R.up (((Below.refl _ _).alloc (Nat.le_refl _) (.cells (hA 0 z16 z8) 28)))
  have h := head_new ((w.alloc (.cells #[.int .i64 a, .int .i64 i, .int .i64 n] 23)).alloc (.cells (hA no bl sl) 28)) 0 z16 z8 rfl rfl
  rw [show ((w.alloc (.cells #[.int .i64 a, .int .i64 i, .int .i64 n] 23)).alloc (.cells (hA no bl sl) 28)).heap.size = w.heap.size + 1 + 1 by simp] at h
  exact ⟨R2.geo, R2.head, h⟩
end
theorem eqB_setb {no : Int} {l s : List UInt8} {k : Nat} {on : Bool} (hk : k < 8 * l.length) : eqB no no (setb l k on) l s s = (gb l k == on) ∧ eqB no no s s (setb l k on) l = (gb l k == on) := by
  have e : (setb l k on == l) = (gb l k == on) := by
    by_cases h : gb l k = on
    · rw [setb_same l k on (by omega) h, h]; simp
    · have : setb l k on ≠ l := fun e => h (by have := gb_setb' l k k on hk; rw [if_pos rfl, e] at this; exact this)
      have h1 : (gb l k == on) = false := by simpa using h
      have h2 : (setb l k on == l) = false := by simpa using this
      rw [h1, h2]
  constructor
  · unfold eqB; rw [e]; simp
  · unfold eqB; rw [e]; simp
set_option maxHeartbeats 4000000 in
theorem useBlock_no (a i n no k : Int) (on : Bool) (bl sl : List UInt8) (hb : bl.length = 16) (hs : sl.length = 8) (hr : rgB a i n no bl sl = false) (w : World) :
    Calls Try.prog 20 #[.agg #[.int .i64 a, .int .i64 i, .int .i64 n], .agg (hA no bl sl), .int .i64 k, .bool on] w fun e w' => e = .returned (.tuple #[.agg (hA 0 z16 z8), .int .i64 1]) ∧ Below w.heap.size w w' := by
  have U0 := UW.start w a i n no bl sl hb hs
  have RT := gright_any a i n no bl sl hb hs
  rw [hr] at RT
  have hz := zero28
  have HU : Hid _ := U0
  clear U0 hr
  go_enter Try.func20, Try.ntmps20
  go_wp2_with (first | ((with_reducible show wpList _ _ _ ({ dst := _, op := Op.load 28 _, type := _, pos := _, after := _, guard := _ } :: _) _ _); refine wpList_load_head rfl _ rfl (HU.out.head) rfl ?_))
  refine (RT _).mono ?_
  rintro e w1 ⟨rfl, h1⟩
  have HU1 : Hid _ := HU.out.up h1
  clear HU h1 RT
  go_wp2_with (first | ((with_reducible show wpList _ _ _ ({ dst := _, op := Op.store 28 _ _, type := _, pos := _, after := _, guard := _ } :: _) _ _); refine wpList_store_head rfl _ _ rfl (HU1.out.res) rfl rfl rfl rfl ?_; intro w4 H4 b4 z4))
  exact bodyPost_ret (results_head rfl _ H4 rfl) rfl ⟨rfl, HU1.out.geo.2.2.2.trans (b4.mono (by omega))⟩
set_option maxHeartbeats 4000000 in
theorem useBlock_range (a i n no k : Int) (on : Bool) (bl sl : List UInt8) (hb : bl.length = 16) (hs : sl.length = 8) (hr : rgB a i n no bl sl = true) (hk : k < (kbl i : Nat) ∨ a ≤ k) (w : World) :
    Calls Try.prog 20 #[.agg #[.int .i64 a, .int .i64 i, .int .i64 n], .agg (hA no bl sl), .int .i64 k, .bool on] w fun e w' => e = .returned (.tuple #[.agg (hA 0 z16 z8), .int .i64 3]) ∧ Below w.heap.size w w' := by
  have U0 := UW.start w a i n no bl sl hb hs
  have RT := gright_any a i n no bl sl hb hs
  obtain ⟨hok, _, _⟩ := rgB_ok hr
  obtain ⟨ke, kl⟩ := kbl_of hok
  rw [hr] at RT
  have hz := zero28
  have KB : ∀ W, UW w a i n no bl sl W → Calls Try.prog 38 #[.agg #[.int .i64 a, .int .i64 i, .int .i64 n]] W fun e w' => e = .returned (.int .i64 (kbl i : Nat)) ∧ UW w a i n no bl sl w' := by
    intro W hW
    have h := keptBlocks_any a i n W hok
    rw [ke] at h
    exact h.mono fun _ _ ⟨h1, h2⟩ => ⟨h1, hW.up h2⟩
  have HLO : Hid (k < (kbl i : Nat) ∨ a ≤ k) := hk
  have HU : Hid _ := U0
  clear U0 hr ke kl hk hok
  generalize kbl i = kk at KB HLO
  rcases HLO.out with hk | hk
  · clear HLO
    go_enter Try.func20, Try.ntmps20
    go_wp2_with (first | ((with_reducible show wpList _ _ _ ({ dst := _, op := Op.load 28 _, type := _, pos := _, after := _, guard := _ } :: _) _ _); refine wpList_load_head rfl _ rfl (HU.out.head) rfl ?_))
    refine (RT _).mono ?_
    rintro e w1 ⟨rfl, h1⟩
    have HU1 : Hid _ := HU.out.up h1
    have q0 := HU1.out.geo.1; have q1 := HU1.out.geo.2.1; have q2 := HU1.out.geo.2.2.1; have q3 := HU1.out.head.c0
    clear HU h1 RT
    go_wp2_with fail
    refine (KB _ HU1.out).mono ?_
    rintro e w2 ⟨rfl, u2⟩
    have HU2 : Hid _ := u2
    clear KB u2 HU1 q0 q1 q2 q3
    go_wp2_with (first | ((with_reducible show wpList _ _ _ ({ dst := _, op := Op.store 28 _ _, type := _, pos := _, after := _, guard := _ } :: _) _ _); refine wpList_store_head rfl _ _ rfl (HU2.out.res) rfl rfl rfl rfl ?_; intro w4 H4 b4 z4))
    exact bodyPost_ret (results_head rfl _ H4 rfl) rfl ⟨rfl, HU2.out.geo.2.2.2.trans (b4.mono (by omega))⟩
  · by_cases hlo : k < (kk : Nat)
    · clear HLO
      go_enter Try.func20, Try.ntmps20
      go_wp2_with (first | ((with_reducible show wpList _ _ _ ({ dst := _, op := Op.load 28 _, type := _, pos := _, after := _, guard := _ } :: _) _ _); refine wpList_load_head rfl _ rfl (HU.out.head) rfl ?_))
      refine (RT _).mono ?_
      rintro e w1 ⟨rfl, h1⟩
      have HU1 : Hid _ := HU.out.up h1
      have q0 := HU1.out.geo.1; have q1 := HU1.out.geo.2.1; have q2 := HU1.out.geo.2.2.1; have q3 := HU1.out.head.c0
      clear HU h1 RT
      go_wp2_with fail
      refine (KB _ HU1.out).mono ?_
      rintro e w2 ⟨rfl, u2⟩
      have HU2 : Hid _ := u2
      clear KB u2 HU1 q0 q1 q2 q3
      go_wp2_with (first | ((with_reducible show wpList _ _ _ ({ dst := _, op := Op.store 28 _ _, type := _, pos := _, after := _, guard := _ } :: _) _ _); refine wpList_store_head rfl _ _ rfl (HU2.out.res) rfl rfl rfl rfl ?_; intro w4 H4 b4 z4))
      exact bodyPost_ret (results_head rfl _ H4 rfl) rfl ⟨rfl, HU2.out.geo.2.2.2.trans (b4.mono (by omega))⟩
    · clear HLO
      go_enter Try.func20, Try.ntmps20
      go_wp2_with (first | ((with_reducible show wpList _ _ _ ({ dst := _, op := Op.load 28 _, type := _, pos := _, after := _, guard := _ } :: _) _ _); refine wpList_load_head rfl _ rfl (HU.out.head) rfl ?_))
      refine (RT _).mono ?_
      rintro e w1 ⟨rfl, h1⟩
      have HU1 : Hid _ := HU.out.up h1
      have q0 := HU1.out.geo.1; have q1 := HU1.out.geo.2.1; have q2 := HU1.out.geo.2.2.1; have q3 := HU1.out.head.c0
      clear HU h1 RT
      go_wp2_with fail
      refine (KB _ HU1.out).mono ?_
      rintro e w2 ⟨rfl, u2⟩
      have HU2 : Hid _ := u2
      clear KB HU1 q0 q1 q2 q3
      have q0 := u2.geo.1; have q1 := u2.geo.2.1; have q2 := u2.geo.2.2.1
      clear u2
      go_wp2_with (first | ((with_reducible show wpList _ _ _ ({ dst := _, op := Op.store 28 _ _, type := _, pos := _, after := _, guard := _ } :: _) _ _); refine wpList_store_head rfl _ _ rfl (HU2.out.res) rfl rfl rfl rfl ?_; intro w4 H4 b4 z4))
      exact bodyPost_ret (results_head rfl _ H4 rfl) rfl ⟨rfl, HU2.out.geo.2.2.2.trans (b4.mono (by omega))⟩
set_option maxHeartbeats 4000000 in
theorem useBlock_ok (a i n no : Int) (k : Nat) (on : Bool) (bl sl : List UInt8) (hb : bl.length = 16) (hs : sl.length = 8) (hr : rgB a i n no bl sl = true) (hk : kbl i ≤ k) (hk2 : (k : Int) < a) (hq : (gb bl k == on) = false) (w : World) :
    Calls Try.prog 20 #[.agg #[.int .i64 a, .int .i64 i, .int .i64 n], .agg (hA no bl sl), .int .i64 k, .bool on] w fun e w' => e = .returned (.tuple #[.agg (hA no (setb bl k on) sl), .int .i64 0]) ∧ Below w.heap.size w w' := by
  have U0 := UW.start w a i n no bl sl hb hs
  have RT := gright_any a i n no bl sl hb hs
  obtain ⟨hok, _, _⟩ := rgB_ok hr
  have hbx := hok.box
  obtain ⟨ke, kl⟩ := kbl_of hok
  rw [hr] at RT
  have hz := zero28
  have KB : ∀ W, UW w a i n no bl sl W → Calls Try.prog 38 #[.agg #[.int .i64 a, .int .i64 i, .int .i64 n]] W fun e w' => e = .returned (.int .i64 (kbl i : Nat)) ∧ UW w a i n no bl sl w' := by
    intro W hW
    have h := keptBlocks_any a i n W hok
    rw [ke] at h
    exact h.mono fun _ _ ⟨h1, h2⟩ => ⟨h1, hW.up h2⟩
  have hkL : k < 128 := by omega
  have hk8 : k < 8 * bl.length := by omega
  have HEQ : Hid _ := (eqB_setb (no := no) (l := bl) (s := sl) (k := k) (on := on) hk8).1
  have hlb : (setb bl k on).length = bl.length := setb_length _ _ _
  have HU : Hid _ := U0
  have HLO : Hid (kbl i ≤ k) := hk
  have HXX : Hid ((setb bl k on).length = 16 ∧ sl.length = 8) := ⟨by rw [setb_length]; exact hb, hs⟩
  have CH := fun W => changed_any no no bl sl (setb bl k on) sl  W hb hs HXX.out.1 HXX.out.2
  rw [HEQ.out, hq] at CH
  simp only [Bool.false_eq_true, if_false] at CH
  clear U0 hr ke kl hk hok hbx HEQ hlb
  generalize kbl i = kk at KB HLO
  have hklo : ¬ (k : Int) < (kk : Nat) := by have := HLO.out; omega
  have hkhi : ¬ a ≤ (k : Int) := by omega
  clear HLO
  go_enter Try.func20, Try.ntmps20
  go_wp2_with (first | ((with_reducible show wpList _ _ _ ({ dst := _, op := Op.load 28 _, type := _, pos := _, after := _, guard := _ } :: _) _ _); refine wpList_load_head rfl _ rfl (HU.out.head) rfl ?_))
  refine (RT _).mono ?_
  rintro e w1 ⟨rfl, h1⟩
  have HU1 : Hid _ := HU.out.up h1
  have q0 := HU1.out.geo.1; have q1 := HU1.out.geo.2.1; have q2 := HU1.out.geo.2.2.1; have q3 := HU1.out.head.c0
  clear HU h1 RT
  go_wp2_with fail
  refine (KB _ HU1.out).mono ?_
  rintro e w2 ⟨rfl, u2⟩
  have HU2 : Hid _ := u2
  clear KB HU1 q0 q1 q2 q3
  have q0 := u2.geo.1; have q1 := u2.geo.2.1; have q2 := u2.geo.2.2.1
  have hl2 := u2.res.lt
  clear u2
  have HN : Hid (HeadAt (w2.alloc (.cells (hA 0 z16 z8) 28)) w2.heap.size 0 z16 z8) := head_new w2 0 z16 z8 rfl rfl
  go_wp2_with (first | ((with_reducible show wpList _ _ _ ({ dst := _, op := Op.load 28 _, type := _, pos := _, after := _, guard := _ } :: _) _ _); refine wpList_load_head rfl _ rfl (HU2.out.head) rfl ?_) | ((with_reducible show wpList _ _ _ ({ dst := _, op := Op.store 28 _ _, type := _, pos := _, after := _, guard := _ } :: _) _ _); refine wpList_store_head rfl _ _ rfl (HN.out) hb hs rfl rfl ?_; intro w4 H4 b4 z4))
  refine (turnB_any H4 k on (by omega)).mono ?_
  rintro e w5 ⟨rfl, H5, b5⟩
  have U5 : UW w a i n no bl sl w5 := ((HU2.out.up ((Below.refl _ _).alloc (Nat.le_refl _) _)).below b4 (by omega)).below b5 (by omega)
  have HH5 : Hid _ := H5
  have HU5 : Hid _ := U5
  clear U5 H5 H4 b4 b5 HU2 HN q0 q1 q2 z4
  go_wp2_with (first | ((with_reducible show wpList _ _ _ ({ dst := _, op := Op.load 28 _, type := _, pos := _, after := _, guard := _ } :: _) _ _); refine wpList_load_head rfl _ rfl (HU5.out.head) rfl ?_) | ((with_reducible show wpList _ _ _ ({ dst := _, op := Op.load 28 _, type := _, pos := _, after := _, guard := _ } :: _) _ _); refine wpList_load_head rfl _ rfl (HH5.out) rfl ?_))
  refine (CH _).mono ?_
  rintro e w6 ⟨rfl, b6⟩
  have HU6 : Hid _ := HU5.out.up b6
  clear CH HU5 HH5 b6
  go_wp2_with (first | ((with_reducible show wpList _ _ _ ({ dst := _, op := Op.store 28 _ _, type := _, pos := _, after := _, guard := _ } :: _) _ _); refine wpList_store_head rfl _ _ rfl (HU6.out.res) HXX.out.1 HXX.out.2 rfl rfl ?_; intro w7 H7 b7 z7))
  exact bodyPost_ret (results_head rfl _ H7 rfl) rfl ⟨rfl, HU6.out.geo.2.2.2.trans (b7.mono (by omega))⟩
set_option maxHeartbeats 4000000 in
theorem useBlock_same (a i n no : Int) (k : Nat) (on : Bool) (bl sl : List UInt8) (hb : bl.length = 16) (hs : sl.length = 8) (hr : rgB a i n no bl sl = true) (hk : kbl i ≤ k) (hk2 : (k : Int) < a) (hq : (gb bl k == on) = true) (w : World) :
    Calls Try.prog 20 #[.agg #[.int .i64 a, .int .i64 i, .int .i64 n], .agg (hA no bl sl), .int .i64 k, .bool on] w fun e w' => e = .returned (.tuple #[.agg (hA 0 z16 z8), .int .i64 6]) ∧ Below w.heap.size w w' := by
  have U0 := UW.start w a i n no bl sl hb hs
  have RT := gright_any a i n no bl sl hb hs
  obtain ⟨hok, _, _⟩ := rgB_ok hr
  have hbx := hok.box
  obtain ⟨ke, kl⟩ := kbl_of hok
  rw [hr] at RT
  have hz := zero28
  have KB : ∀ W, UW w a i n no bl sl W → Calls Try.prog 38 #[.agg #[.int .i64 a, .int .i64 i, .int .i64 n]] W fun e w' => e = .returned (.int .i64 (kbl i : Nat)) ∧ UW w a i n no bl sl w' := by
    intro W hW
    have h := keptBlocks_any a i n W hok
    rw [ke] at h
    exact h.mono fun _ _ ⟨h1, h2⟩ => ⟨h1, hW.up h2⟩
  have hkL : k < 128 := by omega
  have hk8 : k < 8 * bl.length := by omega
  have HEQ : Hid _ := (eqB_setb (no := no) (l := bl) (s := sl) (k := k) (on := on) hk8).1
  have hlb : (setb bl k on).length = bl.length := setb_length _ _ _
  have HU : Hid _ := U0
  have HLO : Hid (kbl i ≤ k) := hk
  have HXX : Hid ((setb bl k on).length = 16 ∧ sl.length = 8) := ⟨by rw [setb_length]; exact hb, hs⟩
  have CH := fun W => changed_any no no bl sl (setb bl k on) sl  W hb hs HXX.out.1 HXX.out.2
  rw [HEQ.out, hq] at CH
  simp only [if_true] at CH
  clear U0 hr ke kl hk hok hbx HEQ hlb
  generalize kbl i = kk at KB HLO
  have hklo : ¬ (k : Int) < (kk : Nat) := by have := HLO.out; omega
  have hkhi : ¬ a ≤ (k : Int) := by omega
  clear HLO
  go_enter Try.func20, Try.ntmps20
  go_wp2_with (first | ((with_reducible show wpList _ _ _ ({ dst := _, op := Op.load 28 _, type := _, pos := _, after := _, guard := _ } :: _) _ _); refine wpList_load_head rfl _ rfl (HU.out.head) rfl ?_))
  refine (RT _).mono ?_
  rintro e w1 ⟨rfl, h1⟩
  have HU1 : Hid _ := HU.out.up h1
  have q0 := HU1.out.geo.1; have q1 := HU1.out.geo.2.1; have q2 := HU1.out.geo.2.2.1; have q3 := HU1.out.head.c0
  clear HU h1 RT
  go_wp2_with fail
  refine (KB _ HU1.out).mono ?_
  rintro e w2 ⟨rfl, u2⟩
  have HU2 : Hid _ := u2
  clear KB HU1 q0 q1 q2 q3
  have q0 := u2.geo.1; have q1 := u2.geo.2.1; have q2 := u2.geo.2.2.1
  have hl2 := u2.res.lt
  clear u2
  have HN : Hid (HeadAt (w2.alloc (.cells (hA 0 z16 z8) 28)) w2.heap.size 0 z16 z8) := head_new w2 0 z16 z8 rfl rfl
  go_wp2_with (first | ((with_reducible show wpList _ _ _ ({ dst := _, op := Op.load 28 _, type := _, pos := _, after := _, guard := _ } :: _) _ _); refine wpList_load_head rfl _ rfl (HU2.out.head) rfl ?_) | ((with_reducible show wpList _ _ _ ({ dst := _, op := Op.store 28 _ _, type := _, pos := _, after := _, guard := _ } :: _) _ _); refine wpList_store_head rfl _ _ rfl (HN.out) hb hs rfl rfl ?_; intro w4 H4 b4 z4))
  refine (turnB_any H4 k on (by omega)).mono ?_
  rintro e w5 ⟨rfl, H5, b5⟩
  have U5 : UW w a i n no bl sl w5 := ((HU2.out.up ((Below.refl _ _).alloc (Nat.le_refl _) _)).below b4 (by omega)).below b5 (by omega)
  have HH5 : Hid _ := H5
  have HU5 : Hid _ := U5
  clear U5 H5 H4 b4 b5 HU2 HN q0 q1 q2 z4
  go_wp2_with (first | ((with_reducible show wpList _ _ _ ({ dst := _, op := Op.load 28 _, type := _, pos := _, after := _, guard := _ } :: _) _ _); refine wpList_load_head rfl _ rfl (HU5.out.head) rfl ?_) | ((with_reducible show wpList _ _ _ ({ dst := _, op := Op.load 28 _, type := _, pos := _, after := _, guard := _ } :: _) _ _); refine wpList_load_head rfl _ rfl (HH5.out) rfl ?_))
  refine (CH _).mono ?_
  rintro e w6 ⟨rfl, b6⟩
  have HU6 : Hid _ := HU5.out.up b6
  clear CH HU5 HH5 b6
  go_wp2_with (first | ((with_reducible show wpList _ _ _ ({ dst := _, op := Op.store 28 _ _, type := _, pos := _, after := _, guard := _ } :: _) _ _); refine wpList_store_head rfl _ _ rfl (HU6.out.res) rfl rfl rfl rfl ?_; intro w7 H7 b7 z7))
  exact bodyPost_ret (results_head rfl _ H7 rfl) rfl ⟨rfl, HU6.out.geo.2.2.2.trans (b7.mono (by omega))⟩
set_option maxHeartbeats 4000000 in
theorem useSlot_no (a i n no k : Int) (on : Bool) (bl sl : List UInt8) (hb : bl.length = 16) (hs : sl.length = 8) (hr : rgB a i n no bl sl = false) (w : World) :
    Calls Try.prog 22 #[.agg #[.int .i64 a, .int .i64 i, .int .i64 n], .agg (hA no bl sl), .int .i64 k, .bool on] w fun e w' => e = .returned (.tuple #[.agg (hA 0 z16 z8), .int .i64 1]) ∧ Below w.heap.size w w' := by
  have U0 := UW.start w a i n no bl sl hb hs
  have RT := gright_any a i n no bl sl hb hs
  rw [hr] at RT
  have hz := zero28
  have HU : Hid _ := U0
  clear U0 hr
  go_enter Try.func22, Try.ntmps22
  go_wp2_with (first | ((with_reducible show wpList _ _ _ ({ dst := _, op := Op.load 28 _, type := _, pos := _, after := _, guard := _ } :: _) _ _); refine wpList_load_head rfl _ rfl (HU.out.head) rfl ?_))
  refine (RT _).mono ?_
  rintro e w1 ⟨rfl, h1⟩
  have HU1 : Hid _ := HU.out.up h1
  clear HU h1 RT
  go_wp2_with (first | ((with_reducible show wpList _ _ _ ({ dst := _, op := Op.store 28 _ _, type := _, pos := _, after := _, guard := _ } :: _) _ _); refine wpList_store_head rfl _ _ rfl (HU1.out.res) rfl rfl rfl rfl ?_; intro w4 H4 b4 z4))
  exact bodyPost_ret (results_head rfl _ H4 rfl) rfl ⟨rfl, HU1.out.geo.2.2.2.trans (b4.mono (by omega))⟩
set_option maxHeartbeats 4000000 in
theorem useSlot_range (a i n no k : Int) (on : Bool) (bl sl : List UInt8) (hb : bl.length = 16) (hs : sl.length = 8) (hr : rgB a i n no bl sl = true) (hk : k < (ksl no : Nat) ∨ i ≤ k) (w : World) :
    Calls Try.prog 22 #[.agg #[.int .i64 a, .int .i64 i, .int .i64 n], .agg (hA no bl sl), .int .i64 k, .bool on] w fun e w' => e = .returned (.tuple #[.agg (hA 0 z16 z8), .int .i64 3]) ∧ Below w.heap.size w w' := by
  have U0 := UW.start w a i n no bl sl hb hs
  have RT := gright_any a i n no bl sl hb hs
  obtain ⟨hok, _, _⟩ := rgB_ok hr
  obtain ⟨ke, kl⟩ := kbl_of hok
  rw [hr] at RT
  have hz := zero28
  have KB : ∀ W, UW w a i n no bl sl W → Calls Try.prog 39 #[.int .i64 no] W fun e w' => e = .returned (.int .i64 (ksl no : Nat)) ∧ UW w a i n no bl sl w' :=
    fun W hW => (keptSlots_any no W).mono fun _ _ ⟨h1, h2⟩ => ⟨h1, by rw [h2]; exact hW⟩
  have HLO : Hid (k < (ksl no : Nat) ∨ i ≤ k) := hk
  have HU : Hid _ := U0
  clear U0 hr ke kl hk hok
  generalize ksl no = kk at KB HLO
  rcases HLO.out with hk | hk
  · clear HLO
    go_enter Try.func22, Try.ntmps22
    go_wp2_with (first | ((with_reducible show wpList _ _ _ ({ dst := _, op := Op.load 28 _, type := _, pos := _, after := _, guard := _ } :: _) _ _); refine wpList_load_head rfl _ rfl (HU.out.head) rfl ?_))
    refine (RT _).mono ?_
    rintro e w1 ⟨rfl, h1⟩
    have HU1 : Hid _ := HU.out.up h1
    have q0 := HU1.out.geo.1; have q1 := HU1.out.geo.2.1; have q2 := HU1.out.geo.2.2.1; have q3 := HU1.out.head.c0
    clear HU h1 RT
    go_wp2_with fail
    refine (KB _ HU1.out).mono ?_
    rintro e w2 ⟨rfl, u2⟩
    have HU2 : Hid _ := u2
    clear KB u2 HU1 q0 q1 q2 q3
    go_wp2_with (first | ((with_reducible show wpList _ _ _ ({ dst := _, op := Op.store 28 _ _, type := _, pos := _, after := _, guard := _ } :: _) _ _); refine wpList_store_head rfl _ _ rfl (HU2.out.res) rfl rfl rfl rfl ?_; intro w4 H4 b4 z4))
    exact bodyPost_ret (results_head rfl _ H4 rfl) rfl ⟨rfl, HU2.out.geo.2.2.2.trans (b4.mono (by omega))⟩
  · by_cases hlo : k < (kk : Nat)
    · clear HLO
      go_enter Try.func22, Try.ntmps22
      go_wp2_with (first | ((with_reducible show wpList _ _ _ ({ dst := _, op := Op.load 28 _, type := _, pos := _, after := _, guard := _ } :: _) _ _); refine wpList_load_head rfl _ rfl (HU.out.head) rfl ?_))
      refine (RT _).mono ?_
      rintro e w1 ⟨rfl, h1⟩
      have HU1 : Hid _ := HU.out.up h1
      have q0 := HU1.out.geo.1; have q1 := HU1.out.geo.2.1; have q2 := HU1.out.geo.2.2.1; have q3 := HU1.out.head.c0
      clear HU h1 RT
      go_wp2_with fail
      refine (KB _ HU1.out).mono ?_
      rintro e w2 ⟨rfl, u2⟩
      have HU2 : Hid _ := u2
      clear KB u2 HU1 q0 q1 q2 q3
      go_wp2_with (first | ((with_reducible show wpList _ _ _ ({ dst := _, op := Op.store 28 _ _, type := _, pos := _, after := _, guard := _ } :: _) _ _); refine wpList_store_head rfl _ _ rfl (HU2.out.res) rfl rfl rfl rfl ?_; intro w4 H4 b4 z4))
      exact bodyPost_ret (results_head rfl _ H4 rfl) rfl ⟨rfl, HU2.out.geo.2.2.2.trans (b4.mono (by omega))⟩
    · clear HLO
      go_enter Try.func22, Try.ntmps22
      go_wp2_with (first | ((with_reducible show wpList _ _ _ ({ dst := _, op := Op.load 28 _, type := _, pos := _, after := _, guard := _ } :: _) _ _); refine wpList_load_head rfl _ rfl (HU.out.head) rfl ?_))
      refine (RT _).mono ?_
      rintro e w1 ⟨rfl, h1⟩
      have HU1 : Hid _ := HU.out.up h1
      have q0 := HU1.out.geo.1; have q1 := HU1.out.geo.2.1; have q2 := HU1.out.geo.2.2.1; have q3 := HU1.out.head.c0
      clear HU h1 RT
      go_wp2_with fail
      refine (KB _ HU1.out).mono ?_
      rintro e w2 ⟨rfl, u2⟩
      have HU2 : Hid _ := u2
      clear KB HU1 q0 q1 q2 q3
      have q0 := u2.geo.1; have q1 := u2.geo.2.1; have q2 := u2.geo.2.2.1
      clear u2
      go_wp2_with (first | ((with_reducible show wpList _ _ _ ({ dst := _, op := Op.store 28 _ _, type := _, pos := _, after := _, guard := _ } :: _) _ _); refine wpList_store_head rfl _ _ rfl (HU2.out.res) rfl rfl rfl rfl ?_; intro w4 H4 b4 z4))
      exact bodyPost_ret (results_head rfl _ H4 rfl) rfl ⟨rfl, HU2.out.geo.2.2.2.trans (b4.mono (by omega))⟩
set_option maxHeartbeats 4000000 in
theorem useSlot_ok (a i n no : Int) (k : Nat) (on : Bool) (bl sl : List UInt8) (hb : bl.length = 16) (hs : sl.length = 8) (hr : rgB a i n no bl sl = true) (hk : ksl no ≤ k) (hk2 : (k : Int) < i) (hq : (gb sl k == on) = false) (w : World) :
    Calls Try.prog 22 #[.agg #[.int .i64 a, .int .i64 i, .int .i64 n], .agg (hA no bl sl), .int .i64 k, .bool on] w fun e w' => e = .returned (.tuple #[.agg (hA no bl (setb sl k on)), .int .i64 0]) ∧ Below w.heap.size w w' := by
  have U0 := UW.start w a i n no bl sl hb hs
  have RT := gright_any a i n no bl sl hb hs
  obtain ⟨hok, _, _⟩ := rgB_ok hr
  have hbx := hok.box
  obtain ⟨ke, kl⟩ := kbl_of hok
  rw [hr] at RT
  have hz := zero28
  have KB : ∀ W, UW w a i n no bl sl W → Calls Try.prog 39 #[.int .i64 no] W fun e w' => e = .returned (.int .i64 (ksl no : Nat)) ∧ UW w a i n no bl sl w' :=
    fun W hW => (keptSlots_any no W).mono fun _ _ ⟨h1, h2⟩ => ⟨h1, by rw [h2]; exact hW⟩
  have hkL : k < 64 := by omega
  have hk8 : k < 8 * sl.length := by omega
  have HEQ : Hid _ := (eqB_setb (no := no) (l := sl) (s := bl) (k := k) (on := on) hk8).2
  have hlb : (setb sl k on).length = sl.length := setb_length _ _ _
  have HU : Hid _ := U0
  have HLO : Hid (ksl no ≤ k) := hk
  have HXX : Hid (bl.length = 16 ∧ (setb sl k on).length = 8) := ⟨hb, by rw [setb_length]; exact hs⟩
  have CH := fun W => changed_any no no bl sl bl (setb sl k on)  W hb hs HXX.out.1 HXX.out.2
  rw [HEQ.out, hq] at CH
  simp only [Bool.false_eq_true, if_false] at CH
  clear U0 hr ke kl hk hok hbx HEQ hlb
  generalize ksl no = kk at KB HLO
  have hklo : ¬ (k : Int) < (kk : Nat) := by have := HLO.out; omega
  have hkhi : ¬ i ≤ (k : Int) := by omega
  clear HLO
  go_enter Try.func22, Try.ntmps22
  go_wp2_with (first | ((with_reducible show wpList _ _ _ ({ dst := _, op := Op.load 28 _, type := _, pos := _, after := _, guard := _ } :: _) _ _); refine wpList_load_head rfl _ rfl (HU.out.head) rfl ?_))
  refine (RT _).mono ?_
  rintro e w1 ⟨rfl, h1⟩
  have HU1 : Hid _ := HU.out.up h1
  have q0 := HU1.out.geo.1; have q1 := HU1.out.geo.2.1; have q2 := HU1.out.geo.2.2.1; have q3 := HU1.out.head.c0
  clear HU h1 RT
  go_wp2_with fail
  refine (KB _ HU1.out).mono ?_
  rintro e w2 ⟨rfl, u2⟩
  have HU2 : Hid _ := u2
  clear KB HU1 q0 q1 q2 q3
  have q0 := u2.geo.1; have q1 := u2.geo.2.1; have q2 := u2.geo.2.2.1
  have hl2 := u2.res.lt
  clear u2
  have HN : Hid (HeadAt (w2.alloc (.cells (hA 0 z16 z8) 28)) w2.heap.size 0 z16 z8) := head_new w2 0 z16 z8 rfl rfl
  go_wp2_with (first | ((with_reducible show wpList _ _ _ ({ dst := _, op := Op.load 28 _, type := _, pos := _, after := _, guard := _ } :: _) _ _); refine wpList_load_head rfl _ rfl (HU2.out.head) rfl ?_) | ((with_reducible show wpList _ _ _ ({ dst := _, op := Op.store 28 _ _, type := _, pos := _, after := _, guard := _ } :: _) _ _); refine wpList_store_head rfl _ _ rfl (HN.out) hb hs rfl rfl ?_; intro w4 H4 b4 z4))
  refine (turnS_any H4 k on (by omega)).mono ?_
  rintro e w5 ⟨rfl, H5, b5⟩
  have U5 : UW w a i n no bl sl w5 := ((HU2.out.up ((Below.refl _ _).alloc (Nat.le_refl _) _)).below b4 (by omega)).below b5 (by omega)
  have HH5 : Hid _ := H5
  have HU5 : Hid _ := U5
  clear U5 H5 H4 b4 b5 HU2 HN q0 q1 q2 z4
  go_wp2_with (first | ((with_reducible show wpList _ _ _ ({ dst := _, op := Op.load 28 _, type := _, pos := _, after := _, guard := _ } :: _) _ _); refine wpList_load_head rfl _ rfl (HU5.out.head) rfl ?_) | ((with_reducible show wpList _ _ _ ({ dst := _, op := Op.load 28 _, type := _, pos := _, after := _, guard := _ } :: _) _ _); refine wpList_load_head rfl _ rfl (HH5.out) rfl ?_))
  refine (CH _).mono ?_
  rintro e w6 ⟨rfl, b6⟩
  have HU6 : Hid _ := HU5.out.up b6
  clear CH HU5 HH5 b6
  go_wp2_with (first | ((with_reducible show wpList _ _ _ ({ dst := _, op := Op.store 28 _ _, type := _, pos := _, after := _, guard := _ } :: _) _ _); refine wpList_store_head rfl _ _ rfl (HU6.out.res) HXX.out.1 HXX.out.2 rfl rfl ?_; intro w7 H7 b7 z7))
  exact bodyPost_ret (results_head rfl _ H7 rfl) rfl ⟨rfl, HU6.out.geo.2.2.2.trans (b7.mono (by omega))⟩
set_option maxHeartbeats 4000000 in
theorem useSlot_same (a i n no : Int) (k : Nat) (on : Bool) (bl sl : List UInt8) (hb : bl.length = 16) (hs : sl.length = 8) (hr : rgB a i n no bl sl = true) (hk : ksl no ≤ k) (hk2 : (k : Int) < i) (hq : (gb sl k == on) = true) (w : World) :
    Calls Try.prog 22 #[.agg #[.int .i64 a, .int .i64 i, .int .i64 n], .agg (hA no bl sl), .int .i64 k, .bool on] w fun e w' => e = .returned (.tuple #[.agg (hA 0 z16 z8), .int .i64 6]) ∧ Below w.heap.size w w' := by
  have U0 := UW.start w a i n no bl sl hb hs
  have RT := gright_any a i n no bl sl hb hs
  obtain ⟨hok, _, _⟩ := rgB_ok hr
  have hbx := hok.box
  obtain ⟨ke, kl⟩ := kbl_of hok
  rw [hr] at RT
  have hz := zero28
  have KB : ∀ W, UW w a i n no bl sl W → Calls Try.prog 39 #[.int .i64 no] W fun e w' => e = .returned (.int .i64 (ksl no : Nat)) ∧ UW w a i n no bl sl w' :=
    fun W hW => (keptSlots_any no W).mono fun _ _ ⟨h1, h2⟩ => ⟨h1, by rw [h2]; exact hW⟩
  have hkL : k < 64 := by omega
  have hk8 : k < 8 * sl.length := by omega
  have HEQ : Hid _ := (eqB_setb (no := no) (l := sl) (s := bl) (k := k) (on := on) hk8).2
  have hlb : (setb sl k on).length = sl.length := setb_length _ _ _
  have HU : Hid _ := U0
  have HLO : Hid (ksl no ≤ k) := hk
  have HXX : Hid (bl.length = 16 ∧ (setb sl k on).length = 8) := ⟨hb, by rw [setb_length]; exact hs⟩
  have CH := fun W => changed_any no no bl sl bl (setb sl k on)  W hb hs HXX.out.1 HXX.out.2
  rw [HEQ.out, hq] at CH
  simp only [if_true] at CH
  clear U0 hr ke kl hk hok hbx HEQ hlb
  generalize ksl no = kk at KB HLO
  have hklo : ¬ (k : Int) < (kk : Nat) := by have := HLO.out; omega
  have hkhi : ¬ i ≤ (k : Int) := by omega
  clear HLO
  go_enter Try.func22, Try.ntmps22
  go_wp2_with (first | ((with_reducible show wpList _ _ _ ({ dst := _, op := Op.load 28 _, type := _, pos := _, after := _, guard := _ } :: _) _ _); refine wpList_load_head rfl _ rfl (HU.out.head) rfl ?_))
  refine (RT _).mono ?_
  rintro e w1 ⟨rfl, h1⟩
  have HU1 : Hid _ := HU.out.up h1
  have q0 := HU1.out.geo.1; have q1 := HU1.out.geo.2.1; have q2 := HU1.out.geo.2.2.1; have q3 := HU1.out.head.c0
  clear HU h1 RT
  go_wp2_with fail
  refine (KB _ HU1.out).mono ?_
  rintro e w2 ⟨rfl, u2⟩
  have HU2 : Hid _ := u2
  clear KB HU1 q0 q1 q2 q3
  have q0 := u2.geo.1; have q1 := u2.geo.2.1; have q2 := u2.geo.2.2.1
  have hl2 := u2.res.lt
  clear u2
  have HN : Hid (HeadAt (w2.alloc (.cells (hA 0 z16 z8) 28)) w2.heap.size 0 z16 z8) := head_new w2 0 z16 z8 rfl rfl
  go_wp2_with (first | ((with_reducible show wpList _ _ _ ({ dst := _, op := Op.load 28 _, type := _, pos := _, after := _, guard := _ } :: _) _ _); refine wpList_load_head rfl _ rfl (HU2.out.head) rfl ?_) | ((with_reducible show wpList _ _ _ ({ dst := _, op := Op.store 28 _ _, type := _, pos := _, after := _, guard := _ } :: _) _ _); refine wpList_store_head rfl _ _ rfl (HN.out) hb hs rfl rfl ?_; intro w4 H4 b4 z4))
  refine (turnS_any H4 k on (by omega)).mono ?_
  rintro e w5 ⟨rfl, H5, b5⟩
  have U5 : UW w a i n no bl sl w5 := ((HU2.out.up ((Below.refl _ _).alloc (Nat.le_refl _) _)).below b4 (by omega)).below b5 (by omega)
  have HH5 : Hid _ := H5
  have HU5 : Hid _ := U5
  clear U5 H5 H4 b4 b5 HU2 HN q0 q1 q2 z4
  go_wp2_with (first | ((with_reducible show wpList _ _ _ ({ dst := _, op := Op.load 28 _, type := _, pos := _, after := _, guard := _ } :: _) _ _); refine wpList_load_head rfl _ rfl (HU5.out.head) rfl ?_) | ((with_reducible show wpList _ _ _ ({ dst := _, op := Op.load 28 _, type := _, pos := _, after := _, guard := _ } :: _) _ _); refine wpList_load_head rfl _ rfl (HH5.out) rfl ?_))
  refine (CH _).mono ?_
  rintro e w6 ⟨rfl, b6⟩
  have HU6 : Hid _ := HU5.out.up b6
  clear CH HU5 HH5 b6
  go_wp2_with (first | ((with_reducible show wpList _ _ _ ({ dst := _, op := Op.store 28 _ _, type := _, pos := _, after := _, guard := _ } :: _) _ _); refine wpList_store_head rfl _ _ rfl (HU6.out.res) rfl rfl rfl rfl ?_; intro w7 H7 b7 z7))
  exact bodyPost_ret (results_head rfl _ H7 rfl) rfl ⟨rfl, HU6.out.geo.2.2.2.trans (b7.mono (by omega))⟩
end Go.Proofs.Ytfbbdpapnegmcaa
