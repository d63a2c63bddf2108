/- disk.Bytes. -/
import Derived.Test.YtanelcdeekichaaGreatKDSafe
import Derived.Test.YtanelcdeekichaaGreatJProunds2
import Derived.Test.YtanelcdeekichaaGreatJPax4
import Derived.Test.YtanelcdeekichaaGreatJLopen3
import Derived.Test.YtanelcdeekichaaGreatJRdisk8
import Derived.Test.YtanelcdeekichaaGreatJPah5
import Derived.Test.YtanelcdeekichaaGreatJPerr2
import Derived.Deep.CutBlock
import Derived.Deep.DeepCutAuto
namespace Go.Proofs.YtanelcdeekichaaGreat
open Go.RowKit
set_option maxRecDepth 100000
section
variable {w : World} {base p n : Nat} {en : Bool} {lf : Int} {sf : Nat → List UInt8} {ws : Nat → List (List UInt8)} {q : Nat} {vs : Nat → Value}
def bytesP (y : Nat → List UInt8) (n k : Nat) : List UInt8 := (List.range k).flatMap y ++ List.replicate ((n - k) * 256) 0
theorem flat_length (y : Nat → List UInt8) (hy : ∀ i, (y i).length = 256) : ∀ k, ((List.range k).flatMap y).length = k * 256
  | 0 => rfl
  | k + 1 => by rw [List.range_succ, List.flatMap_append, List.length_append, flat_length y hy k]; simp [hy]; omega
theorem bytesP_step (y : Nat → List UInt8) (hy : ∀ i, (y i).length = 256) (n k : Nat) (hk : k < n) : (bytesP y n k).take (k * 256) ++ (y k).take (n * 256 - k * 256) ++ (bytesP y n k).drop (k * 256 + min 256 (n * 256 - k * 256)) = bytesP y n (k + 1) := by
  have hA := flat_length y hy k
  have h1 : (bytesP y n k).take (k * 256) = (List.range k).flatMap y := by unfold bytesP; rw [List.take_left' hA]
  have h2 : (y k).take (n * 256 - k * 256) = y k := List.take_of_length_le (by rw [hy]; omega)
  have h3 : (bytesP y n k).drop (k * 256 + min 256 (n * 256 - k * 256)) = List.replicate ((n - (k + 1)) * 256) 0 := by
    unfold bytesP
    have hm : min 256 (n * 256 - k * 256) = 256 := by omega
    have he : (n - k) * 256 - 256 = (n - (k + 1)) * 256 := by omega
    rw [hm, ← List.drop_drop, List.drop_left' hA, List.drop_replicate, he]
  rw [h1, h2, h3]
  unfold bytesP
  rw [List.range_succ, List.flatMap_append]; simp
set_option maxHeartbeats 2000000 in
set_option maxRecDepth 100000 in
theorem dbytes_any (h : DiskAt w base p n en lf sf ws q vs) (y : Nat → List UInt8) (hy : ∀ i, i < n → y i = lastOf (sf i) (ws i)) (hyl : ∀ i, (y i).length = 256) :
    Calls Tryz.prog 17 #[.pointer (some ⟨p, 0, none⟩)] w fun e w' => ∃ g, e = .returned (.slice (some ⟨g, 0, none⟩) (n * 256) (n * 256)) ∧ Blk w' g 5 ((List.range n).flatMap y) ∧ w.heap.size ≤ g ∧ Below w.heap.size w w' := by
  have LEN := len_any h
  have hnn := h.nn
  have hmk : (Instr.makeSlice 36 (.int .i64 ((n : Int) * 256)) (.int .i64 ((n : Int) * 256))).run Tryz.prog w = .ok (.slice (some ⟨w.heap.size, 0, none⟩) (n * 256) (n * 256)) (w.alloc (.cells (bvs (List.replicate (n * 256) 0)).toArray 5)) := by
    have := make_any w (n * 256) (n * 256) (Nat.le_refl _) (by omega)
    rw [show ((n * 256 : Nat) : Int) = (n : Int) * 256 by omega] at this
    exact this
  have hb0 : Below w.heap.size w (w.alloc (.cells (bvs (List.replicate (n * 256) 0)).toArray 5)) := (Below.refl _ _).alloc (Nat.le_refl _) _
  have hg0 : Blk (w.alloc (.cells (bvs (List.replicate (n * 256) 0)).toArray 5)) w.heap.size 5 (bytesP y n 0) := by
    have e : bytesP y n 0 = List.replicate (n * 256) 0 := by simp [bytesP]
    rw [e]; exact heap_alloc_new _ _
  have H : Hid _ := h
  have hq := h.ql
  have hp := h.pl
  clear h
  obtain ⟨w0, HW⟩ : ∃ w0, Hid (w0 = w.alloc (.cells (bvs (List.replicate (n * 256) 0)).toArray 5)) := ⟨_, rfl⟩
  rw [← HW.out] at hmk hb0 hg0
  have LEN0 := len_any (H.out.below hb0 (Nat.le_refl _))
  clear HW
  go_enter Tryz.func17, Tryz.ntmps17
  go_wp2_with fail
  refine LEN.mono ?_
  rintro e w1 ⟨rfl, rfl⟩
  clear LEN
  have hn1 : (n : Int) ≤ 4096 := by omega
  have hn0 : (0 : Int) ≤ n := by omega
  go_wp2_with fail
  refine LEN0.mono ?_
  rintro e w2 ⟨rfl, rfl⟩
  clear LEN0 hmk
  obtain ⟨Z, hz, hzs, hinfo, HZ⟩ := Tryz.zero111
  clear HZ hinfo
  go_wp2_with fail
  go_loopw [12] (fun i wr => ∃ k : Nat, k ≤ n ∧ i = .int .i64 k ∧ Blk wr w1.heap.size 5 (bytesP y n k) ∧ Below w1.heap.size w1 wr) (fun i _ => n - (intOf i).toNat)
  case atStart => exact ⟨0, by omega, rfl, hg0, hb0⟩
  case round =>
    obtain ⟨k, hk, rfl, hB, hbw⟩ := hrel
    by_cases hlt : (k : Int) < n
    · have hD := H.out.below hbw (Nat.le_refl _)
      have LAST := last_any hD k (by omega)
      rw [← hy k (by omega)] at LAST
      obtain ⟨cq, hcq1, hcq2, c0⟩ := hD.c0
      have hyk := hyl k
      clear hD
      go_wp2_with fail
      refine LAST.mono ?_
      rintro e w3 ⟨rfl, hb3⟩
      clear LAST
      have hs3 := hb3.size
      have hbZ : Below wr.heap.size wr (w3.alloc (.cells Z 111)) := hb3.alloc hs3 _
      go_wp2_with ((with_reducible show wpList _ _ _ ({ dst := _, op := Op.store 111 _ _, type := _, pos := _, after := _, guard := _ } :: _) _ _); refine wpList_store_blk rfl (.tmp 5) (.tmp 21) rfl w3.heap.size Z (y k) rfl rfl (heap_alloc_new _ _) hzs hyk wr.heap.size wr hbZ hs3 ?_; intro w4 hg4 hb4 hx1 hy1; clear hx1 hy1)
      have hlt0 := hB.lt
      have hB4 : Blk w4.drew w1.heap.size 5 (bytesP y n k) := hB.below hb4.drew hlt0
      have hPl : (bytesP y n k).length = n * 256 := by unfold bytesP; rw [List.length_append, flat_length y hyl, List.length_replicate]; omega
      obtain ⟨w5, hcp, hB5, hb5, hs5⟩ := copy_any (w := w4.drew) (g := w1.heap.size) (off := k * 256) (dLen := n * 256 - k * 256) (n * 256 - k * 256) (sp := some ⟨w3.heap.size, 0, none⟩) 256 256 hB4 (show Src w4.drew (some ⟨w3.heap.size, 0, none⟩) (y k) from hg4.src) hyk (by rw [hPl]; omega)
      have hmul : IntKind.i64.wrap ((k : Int) * 256) = ((k * 256 : Nat) : Int) := by rw [IntKind.wrap_i64]; omega
      have hk0 : (0 : Int) ≤ (k : Int) * 256 := by omega
      have htn : ((k : Int) * 256).toNat = k * 256 := by omega
      have hne : ¬ n * 256 = k * 256 := by omega
      dsimp only [Act.put]
      have hb6 : Below w1.heap.size w1 w5 := (hbw.trans ((hb4.mono hbw.size).drew)).trans hb5
      rw [bytesP_step y hyl n k (by omega)] at hB5
      have HB5 : Hid _ := hB5
      clear hB5 hB4 hB hPl
      go_region
      go_wp2
      go_roundw
      case rel => exact ⟨k + 1, by omega, by go_num, HB5.out, hb6⟩
      case measure => simp [intOf]; omega
    · obtain rfl : k = n := by omega
      go_wp2
      go_ret
      refine ⟨_, rfl, ?_, Nat.le_refl _, hbw⟩
      have e : bytesP y k k = (List.range k).flatMap y := by simp [bytesP]
      rw [← e]; exact hB
end
end Go.Proofs.YtanelcdeekichaaGreat
/- push.One and push.All: what they leave on the disk. -/
namespace Go.Proofs.YtanelcdeekichaaGreat
open Go.RowKit
set_option maxRecDepth 100000
/-- What All goes on with. -/
def nxAll (C : List Ch) (L : List Int) : Prop := (∀ x ∈ L, ∃ c ∈ C, (c.b : Int) = x) ∧ ∀ c ∈ C, (c.b : Int) ∈ L
theorem nxAll_goes : NextGoes nxAll := fun C L hA hah hnx hL => by
  obtain ⟨x, hx⟩ : ∃ x, x ∈ L := by
    cases L with
    | nil => simp at hL
    | cons x r => exact ⟨x, by simp⟩
  obtain ⟨c0, hc0, _⟩ := hnx.1 x hx
  obtain ⟨c, hc, _, hm⟩ := least_ch (fun _ => True) c0.id C ⟨c0, hc0, trivial, Nat.le_refl _⟩
  refine fold_less hA hah hc (fun i hi => ?_) (hnx.2 c hc)
  cases ho : opn C i with
  | false => rfl
  | true =>
    obtain ⟨d, hd, e⟩ := opn_iff.1 ho
    have h1 := hm d hd trivial
    have h2 := hah c hc i hi
    omega
theorem nxAll_nil {C : List Ch} (h : nxAll C []) : C = [] := by
  cases C with
  | nil => rfl
  | cons c r => have := h.2 c (by simp); cases this
theorem Rds.last {nx : List Ch → List Int → Prop} {C C' : List Ch} {n : Nat} (h : Rds nx C C' n) : nx C' [] := by
  induction h with
  | done h => exact h
  | step _ _ _ ih => exact ih
theorem rds_len {nx : List Ch → List Int → Prop} {C C' : List Ch} {n : Nat} (h : Rds nx C C' n) : C'.length ≤ C.length := by
  induction h with
  | done _ => exact Nat.le_refl _
  | step _ _ _ ih =>
    rename_i C C' L n _ _ _
    have hl : (foldW C L).1.length = C.length := by
      have := congrArg List.length (foldW_same L C)
      simpa using this
    refine Nat.le_trans ih (Nat.le_trans (List.length_filter_le _ _) (by omega))
section
variable {w0 w : World} {p dp : Nat} {s : PSt} {ops : Nat → List Int} {κ : Nat}
theorem nxAll_ok : NextOk w0 p dp 33 #[.pointer (some ⟨p, 0, none⟩)] nxAll := fun w s ops κ h hκ => by
  refine (gw_dirty h).mono ?_
  rintro r w' ⟨v, L, rfl, hO, hl, hm, hall, _, hb⟩
  exact ⟨v, L, rfl, hO, ⟨fun x hx => by obtain ⟨n, e, _, c, hc, hcb⟩ := hm x hx; exact ⟨c, hc, by omega⟩, hall⟩, hl, hm, hb⟩
set_option maxHeartbeats 1000000 in
theorem all_any (h : GW w0 w p dp s ops κ) (K0 : Nat) (hK : κ + 7 * s.C.length ≤ K0) (hK0 : K0 ≤ 900) :
    Calls Tryz.prog 42 #[.pointer (some ⟨p, 0, none⟩)] w fun e w' => ∃ (n : Nat) (s' : PSt) (ops' : Nat → List Int), e = .returned (.tuple #[.int .i64 (n : Int), .int .i64 0]) ∧ GW w0 w' p dp s' ops' K0 ∧ s'.C = [] ∧ Rds nxAll s.C s'.C n ∧ s'.cnt = s.cnt ∧ Fr (Ak s) w w' ∧ (∀ k, Ak s' k → Ak s k ∨ w.heap.size ≤ k) := by
  have RD := rounds_any h K0 hK hK0 33 #[.pointer (some ⟨p, 0, none⟩)] nxAll nxAll_ok nxAll_goes (enters_of Tryz.func33 (by kernel_rfl) rfl)
  clear h
  go_enter Tryz.func42, Tryz.ntmps42
  go_wp2_with (first | (go_at_call 93; refine Hid.out ?_))
  change Calls _ _ _ _ _
  refine RD.mono ?_
  clear RD
  rintro r w1 ⟨n, s', ops', rfl, h1, h2, h3⟩
  have HF : Hid (GW w0 w1 p dp s' ops' K0 ∧ s'.C = [] ∧ Rds nxAll s.C s'.C n ∧ s'.cnt = s.cnt ∧ Fr (Ak s) w w1 ∧ (∀ k, Ak s' k → Ak s k ∨ w.heap.size ≤ k)) := ⟨h1, nxAll_nil h2.last, h2, h3⟩
  clear h1 h2 h3
  go_wp2_with fail
  go_ret2
  exact ⟨n, s', ops', rfl, HF.out⟩
/-- Fewer changes of the same kind. -/
def SubC (C C0 : List Ch) : Prop := ∀ c ∈ C, ∃ c0 ∈ C0, c0.id = c.id ∧ c0.b = c.b ∧ c0.ah = c.ah
theorem SubC.opn {C C0 : List Ch} (h : SubC C C0) {i : Int} (ho : opn C i = true) : Go.Proofs.YtanelcdeekichaaGreat.opn C0 i = true := by
  obtain ⟨c, hc, e⟩ := opn_iff.1 ho
  obtain ⟨c0, hc0, e1, _⟩ := h c hc
  exact opn_iff.2 ⟨c0, hc0, by omega⟩
theorem SubC.rch {C C0 : List Ch} (h : SubC C C0) {id x : Int} (hr : Rch C id x) : Rch C0 id x := by
  induction hr with
  | self ho => exact .self (h.opn ho)
  | ahead hc _ hi ho ih =>
    obtain ⟨c0, hc0, e1, _, e3⟩ := h _ hc
    exact .ahead hc0 (by rw [e1]; exact ih) (by rw [e3]; exact hi) (h.opn ho)
/-- All that one reaches is written, if it is. -/
theorem rch_back {C : List Ch} (hA : Asc C) (hw : ∀ c ∈ C, c.wr = true → ∀ i ∈ c.ah, opn C i = true → ∃ y ∈ C, (y.id : Int) = i ∧ y.b = c.b ∧ y.wr = true) {id x : Int} (hr : Rch C id x) : opn (nwr C) x = true → Rch (nwr C) id x := by
  induction hr with
  | self _ => exact fun ho => .self ho
  | @ahead c i hc _ hi ho ih =>
    intro ho'
    cases hcw : c.wr with
    | true =>
      exfalso
      obtain ⟨y, hy, e, _, hyw⟩ := hw c hc hcw i hi ho
      obtain ⟨z, hz, ez⟩ := opn_iff.1 ho'
      obtain ⟨hz1, hz2⟩ := List.mem_filter.1 hz
      obtain rfl : y = z := hA.inj hy hz1 (by omega)
      simp [hyw] at hz2
    | false =>
      have hm : c ∈ nwr C := List.mem_filter.2 ⟨hc, by simp [hcw]⟩
      exact .ahead hm (ih (opn_iff.2 ⟨c, hm, rfl⟩)) hi ho'
theorem rch_setW {C : List Ch} {al : List Int} {id x : Int} (hr : Rch C id x) : Rch (C.map (setW al)) id x := by
  induction hr with
  | self ho => exact .self (by rw [opn_map]; exact ho)
  | @ahead c i hc _ hi ho ih =>
    exact .ahead (c := setW al c) (List.mem_map.2 ⟨c, hc, rfl⟩) (by rw [(setW_eqs al c).1]; exact ih) (by rw [(setW_eqs al c).2.2.2.2.1]; exact hi) (by rw [opn_map]; exact ho)
/-- What holds while One goes on: of the changes that there were, those that are open are reached still; blocks with none that was reached are as they were. -/
structure JOne (id : Int) (C0 : List Ch) (l0 : Nat → List UInt8) (s : PSt) : Prop where
  sub : SubC s.C C0
  rc : ∀ x, Rch C0 id x → opn s.C x = true → Rch s.C id x
  ls : ∀ m, ¬ (∃ c ∈ C0, Rch C0 id c.id ∧ c.b = m) → lst s.σ m = l0 m
theorem jone_end {id : Int} {C0 : List Ch} {l0 : Nat → List UInt8} {s : PSt} (h : JOne id C0 l0 s) (hl : nxOne id s.C []) {x : Int} (hx : Rch C0 id x) : opn s.C x = false := by
  cases ho : opn s.C x with
  | false => rfl
  | true =>
    exfalso
    have hr := h.rc x hx ho
    obtain ⟨c, hc, e⟩ := opn_iff.1 ho
    have := (hl.2 _).2 ⟨c, hc, by rw [e]; exact hr, rfl⟩
    cases this
set_option maxHeartbeats 1000000 in
theorem one_anyJ (h : GW w0 w p dp s ops κ) (K0 : Nat) (hK : κ + 7 * s.C.length ≤ K0) (hK0 : K0 ≤ 900) (id : Int) (hid : -9223372036854775808 ≤ id ∧ id ≤ 9223372036854775807) :
    Calls Tryz.prog 41 #[.pointer (some ⟨p, 0, none⟩), .int .i64 id] w fun e w' => ∃ (n : Nat) (s' : PSt) (ops' : Nat → List Int), e = .returned (.tuple #[.int .i64 (n : Int), .int .i64 0]) ∧ GW w0 w' p dp s' ops' K0 ∧ s'.cnt = s.cnt ∧ (∀ x, Rch s.C id x → opn s'.C x = false) ∧ (∀ m, ¬ (∃ c ∈ s.C, Rch s.C id c.id ∧ c.b = m) → lst s'.σ m = lst s.σ m) ∧ s'.C.length ≤ s.C.length ∧ Fr (Ak s) w w' ∧ (∀ k, Ak s' k → Ak s k ∨ w.heap.size ≤ k) := by
  have RD := rounds_anyJ h K0 hK hK0 94 #[.agg #[.pointer (some ⟨p, 0, none⟩), .int .i64 id]] (nxOne id) (nxOne_ok id hid) (nxOne_goes id) (enters_of Tryz.func94 (by kernel_rfl) rfl)
    (fun m => ∃ c ∈ s.C, Rch s.C id c.id ∧ c.b = m) (JOne id s.C (lst s.σ)) ⟨fun c hc => ⟨c, hc, rfl, rfl, rfl⟩, fun x hx _ => hx, fun m _ => rfl⟩
    (fun s1 L hJ hnx n hn => by
      obtain ⟨c, hc, hr, e⟩ := (hnx.2 _).1 hn
      obtain ⟨c0, hc0, e1, e2, _⟩ := hJ.sub c hc
      exact ⟨c0, hc0, by rw [e1]; exact hJ.sub.rch hr, by omega⟩)
    (fun s1 s2 n hJ hn hC hl => ⟨fun c hc => by
        rw [hC] at hc
        obtain ⟨y, hy, rfl⟩ := List.mem_map.1 hc
        have es := setW_eqs (alw s1.C n) y
        obtain ⟨c0, hc0, e1, e2, e3⟩ := hJ.sub y hy
        exact ⟨c0, hc0, by rw [es.1]; exact e1, by rw [es.2.1]; exact e2, by rw [es.2.2.2.2.1]; exact e3⟩, fun x hx ho => by
        rw [hC, opn_map] at ho
        rw [hC]
        exact rch_setW (hJ.rc x hx ho), fun m hm => by
        rw [hl m (fun e => hm (by rw [e]; exact hn))]
        exact hJ.ls m hm⟩)
    (fun s1 s2 hJ hA hw hC hl => ⟨fun c hc => by
        rw [hC] at hc
        exact hJ.sub c (List.mem_filter.1 hc).1, fun x hx ho => by
        rw [hC] at ho ⊢
        have ho1 : opn s1.C x = true := by
          obtain ⟨c, hc, e⟩ := opn_iff.1 ho
          exact opn_iff.2 ⟨c, (List.mem_filter.1 hc).1, e⟩
        exact rch_back hA hw (hJ.rc x hx ho1) ho, fun m hm => by rw [hl m]; exact hJ.ls m hm⟩)
  have hlen : ∀ C' n, Rds (nxOne id) s.C C' n → C'.length ≤ s.C.length := fun C' n hr => rds_len hr
  clear h
  go_enter Tryz.func41, Tryz.ntmps41
  go_wp2_with (first | (go_at_call 93; refine Hid.out ?_))
  change Calls _ _ _ _ _
  refine RD.mono ?_
  clear RD
  rintro r w1 ⟨n, s', ops', rfl, h1, h2, h3, h4, h5, h6⟩
  have HF : Hid (GW w0 w1 p dp s' ops' K0 ∧ s'.cnt = s.cnt ∧ (∀ x, Rch s.C id x → opn s'.C x = false) ∧ (∀ m, ¬ (∃ c ∈ s.C, Rch s.C id c.id ∧ c.b = m) → lst s'.σ m = lst s.σ m) ∧ s'.C.length ≤ s.C.length ∧ Fr (Ak s) w w1 ∧ (∀ k, Ak s' k → Ak s k ∨ w.heap.size ≤ k)) := ⟨h1, h3, fun x hx => jone_end h6 h2.last hx, h6.ls, hlen _ _ h2, h4, h5⟩
  clear h1 h2 h3 h4 h5 h6 hlen
  go_wp2_with fail
  go_ret2
  exact ⟨n, s', ops', rfl, HF.out⟩
end
end Go.Proofs.YtanelcdeekichaaGreat
/- The walk of leveelaw12.PushSafe. -/
namespace Go.Proofs.YtanelcdeekichaaGreat
open Go.RowKit
set_option maxRecDepth 100000
/-- The store, the row of numbers and the row of bools. -/
structure SQ (w0 w : World) (p dp : Nat) (s : PSt) (ops : Nat → List Int) (κ : Nat) (ao : Option Addr) (L : List Int) (g : Nat) (bs : List Bool) : Prop where
  gw : GW w0 w p dp s ops κ
  src : SrcI w ao L
  off : ∀ b o, ao = some ⟨b, o, none⟩ → ¬ Ak s b ∧ b < w.heap.size ∧ b ≠ g
  row : RowB w g bs
  gA : ¬ Ak s g
  gb : w0.heap.size ≤ g
section
variable {w0 w w' : World} {p dp : Nat} {s s' : PSt} {ops ops' : Nat → List Int} {κ κ' : Nat} {ao : Option Addr} {L : List Int} {g : Nat} {bs : List Bool}
theorem SQ.set (h : SQ w0 w p dp s ops κ ao L g bs) (j : Nat) (b : Bool) : SQ w0 (w.setCell ⟨g, j, none⟩ (.bool b)) p dp s ops κ ao L g (bs.set j b) := by
  have hf : Fr (fun k => k = g) w (w.setCell ⟨g, j, none⟩ (.bool b)) := (Fr.refl _ w).setCell g j _ rfl
  refine ⟨h.gw.keep hf (fun k hk e => h.gA (e ▸ hk)) (fun k e => e ▸ h.gb), srcI_fr h.src hf (.inr fun b o e => (h.off b o e).2.2), fun b o e => ?_, h.row.set j b, h.gA, h.gb⟩
  have := h.off b o e
  exact ⟨this.1, by have := hf.size; omega, this.2.2⟩
theorem SQ.up (h : SQ w0 w p dp s ops κ ao L g bs) (hb : Below w.heap.size w w') : SQ w0 w' p dp s ops κ ao L g bs :=
  ⟨h.gw.up hb, h.src.below hb (Nat.le_refl _), fun b o e => ⟨(h.off b o e).1, by have := hb.size; have := (h.off b o e).2.1; omega, (h.off b o e).2.2⟩, h.row.below hb h.row.lt, h.gA, h.gb⟩
theorem SQ.run (h : SQ w0 w p dp s ops κ ao L g bs) (hg : GW w0 w' p dp s' ops' κ') (hf : Fr (Ak s) w w') (hs : ∀ k, Ak s' k → Ak s k ∨ w.heap.size ≤ k) : SQ w0 w' p dp s' ops' κ' ao L g bs := by
  refine ⟨hg, srcI_fr h.src hf (.inr fun b o e => (h.off b o e).1), fun b o e => ?_, h.row.fr hf h.gA, fun hA => ?_, h.gb⟩
  · have h1 := h.off b o e
    refine ⟨fun hA => ?_, by have := hf.size; omega, h1.2.2⟩
    rcases hs b hA with h2 | h2
    · exact h1.1 h2
    · omega
  · rcases hs g hA with h2 | h2
    · exact h.gA h2
    · have := h.row.lt; omega
theorem flat5 (y : Nat → List UInt8) (hy : ∀ i, (y i).length = 256) : ((List.range 5).flatMap y).length = 1280 := by
  simp [List.length_flatMap, hy]
  rfl
theorem ext_flat (y : Nat → List UInt8) (hy : ∀ i, (y i).length = 256) (b : Nat) (hb : b < 5) : (str ((List.range 5).flatMap y)).extract (256 * b) (256 * b + 256) = str (y b) := by
  apply ByteArray.ext
  rw [ByteArray.data_extract]
  show ((List.range 5).flatMap y).toArray.extract (256 * b) (256 * b + 256) = (y b).toArray
  rw [List.extract_toArray, List.extract_eq_take_drop, show 256 * b + 256 - 256 * b = 256 by omega]
  congr 1
  have e : (List.range 5).flatMap y = y 0 ++ (y 1 ++ (y 2 ++ (y 3 ++ (y 4 ++ [])))) := rfl
  rw [e]
  have st : ∀ (k i : Nat) (r : List UInt8), (y i ++ r).drop (256 + k) = r.drop k := fun k i r => by rw [← hy i, List.drop_append]; simp
  have tk : ∀ (i : Nat) (r : List UInt8), (y i ++ r).take 256 = y i := fun i r => by rw [← hy i, List.take_left']; rfl
  rcases b with _ | _ | _ | _ | _ | b
  · exact tk _ _
  · rw [show 256 * (0 + 1) = 256 + 0 from rfl, st]; exact tk _ _
  · rw [show 256 * (0 + 1 + 1) = 256 + (256 + 0) from rfl, st, st]; exact tk _ _
  · rw [show 256 * (0 + 1 + 1 + 1) = 256 + (256 + (256 + 0)) from rfl, st, st, st]; exact tk _ _
  · rw [show 256 * (0 + 1 + 1 + 1 + 1) = 256 + (256 + (256 + (256 + 0))) from rfl, st, st, st, st]; exact tk _ _
  · omega
/-- The disk of a store, each block as it was written last. -/
def yS (s : PSt) (i : Nat) : List UInt8 := if i < 5 then lst s.σ i else zer
theorem yS_len (h : GW w0 w p dp s ops κ) (i : Nat) : (yS s i).length = 256 := by
  unfold yS
  split
  · exact lst_len h.pm.cs i (by rw [h.dn]; omega)
  · rfl
theorem gw_bytes (h : GW w0 w p dp s ops κ) :
    Calls Tryz.prog 17 #[.pointer (some ⟨dp, 0, none⟩)] w fun e w' => ∃ g, e = .returned (.slice (some ⟨g, 0, none⟩) 1280 1280) ∧ Blk w' g 5 ((List.range 5).flatMap (yS s)) ∧ Below w.heap.size w w' := by
  have hD := h.pm.cs.disk
  rw [h.dp, h.dn] at hD
  refine (dbytes_any hD (yS s) (fun i hi => by unfold yS; rw [if_pos hi]; rfl) (yS_len h)).mono ?_
  rintro e w' ⟨g, rfl, hg, _, hb⟩
  exact ⟨g, rfl, hg, hb⟩
end
set_option maxHeartbeats 16000000 in
theorem pushSafe_any (sp : Option Addr) (m cap : Nat) (X : Nat → Chg) (id0 : Int) (hid : -9223372036854775808 ≤ id0 ∧ id0 ≤ 9223372036854775807) (w : World) (h1 : m ≤ cap ∧ (cap : Int) ≤ 9223372036854775807 ∧ ChgsAt w sp m X) :
    Calls Tryz.prog 7 #[.slice sp m cap, .int .i64 id0] w fun e w' => e = .returned (.bool true) ∧ Below w.heap.size w w' := by
  obtain ⟨hm1, hm2, hA⟩ := h1
  have OP := open12b_any w
  have HAA : Hid (ChgsAt w sp m X) := hA
  have HM0 : Hid (m ≤ cap ∧ (cap : Int) ≤ 9223372036854775807) := ⟨hm1, hm2⟩
  clear hA hm1 hm2
  go_enter Tryz.func7, Tryz.ntmps7
  go_wp2_with fail
  refine OP.mono ?_
  clear OP
  rintro r w1 ⟨p, dp, q, s0, D0, rfl, hc0, hB0⟩
  have LY := blay_any sp m cap X HAA.out HM0.out.1 HM0.out.2 hB0 hc0
  clear hB0 hc0
  go_wp2_with (first | (go_at_call 40; refine Hid.out ?_))
  change Calls _ _ _ _ _
  refine LY.mono ?_
  clear LY
  rintro r w2 ⟨rfl, s, ops, A, L0, D, hB, hcnt⟩
  have q3 := hB.rs.c3
  have HB : Hid (BW w w2 p dp q s ops 90 31 A L0 D ∧ s.cnt ≤ 30) := ⟨hB, hcnt⟩
  have hcn : (s.cnt : Int) ≤ 30 := by omega
  clear hB hcnt
  go_upto_if 42 with fail
  go_cut [1] (fun t wc => ∃ id : Int, t = .int .i64 id ∧ (-9223372036854775808 ≤ id ∧ id ≤ 9223372036854775807) ∧ wc = w2)
  case first =>
    by_cases hc0 : (0 : Int) < (s.cnt : Int)
    · have hz : ¬ (s.cnt : Int) + 1 = 0 := by omega
      have hzb : ((s.cnt : Int) + 1 == 0) = false := by simpa using hz
      have htm := tmod_bd (a := id0) (b := (s.cnt : Int) + 1) (by omega)
      go_wp2_with fail
      go_meet
      exact ⟨_, rfl, by omega, rfl⟩
    · go_wp2_with fail
      go_meet
      exact ⟨_, rfl, hid, rfl⟩
  case rest =>
    obtain ⟨id, rfl, hidb, hwc⟩ := hcut
    obtain rfl : w2 = wc := hwc.symm
    clear q3
    have hpp : s.p = p := HB.out.1.gw.p
    have WT := waits_any HB.out.1.gw.pm HB.out.1.gw.pl (by omega) id hidb
    rw [hpp] at WT
    clear hpp
    go_wp2_with (first | (go_at_call 38; refine Hid.out ?_))
    change Calls _ _ _ _ _
    refine WT.mono ?_
    clear WT
    rintro r w3 ⟨v, L, rfl, hO, _, hmem, hb3⟩
    have hLb : (L.length : Int) ≤ 9223372036854775807 := by obtain ⟨_, _, _, _, hl1, hl2, _⟩ := hO.form; omega
    obtain ⟨ao, ca, rfl, hsi, hfm, hao⟩ := ownL_form3 hO
    have HQ4 : Hid (SQ w (w3.alloc (.cells (bvl [false, false, false, false, false]).toArray 4)) p dp s ops 90 ao L w3.heap.size [false, false, false, false, false]) := by
      have hb4 : Below w3.heap.size w3 (w3.alloc (.cells (bvl [false, false, false, false, false]).toArray 4)) := (Below.refl _ _).alloc (Nat.le_refl _) _
      have hg3 := HB.out.1.gw.up hb3
      refine ⟨hg3.up hb4, hsi.below hb4 (Nat.le_refl _), fun b o e => ?_, heap_alloc_new _ _, fun hA => ?_, hg3.be.size⟩
      · have h1 := hao b o e
        have h2 := hb4.size
        refine ⟨fun hA => ?_, by omega, by omega⟩
        have := HB.out.1.gw.pm.lt hA
        omega
      · have := hg3.pm.lt hA
        omega
    have HM : Hid (∀ x, x ∈ L ↔ Rch s.C id x) := hmem
    have HC : Hid (s.cnt ≤ 30 ∧ PL s ops [] 90 ∧ ∀ c ∈ s.C, c.b < 5) := ⟨HB.out.2, HB.out.1.gw.pl, fun c hc => by
      obtain ⟨b, hb, hbn⟩ := HB.out.1.gw.pl.cb c hc
      have h2 := HB.out.1.gw.pl.bdn b hb
      have h3 := HB.out.1.gw.dn
      omega⟩
    have MB := make_bools w3 5 (by omega)
    rw [show ((5 : Nat) : Int) = 5 from rfl, show List.replicate 5 false = [false, false, false, false, false] from rfl] at MB
    clear hO hsi hfm hao hmem hb3 HB
    go_upto_block 0 with fail
    clear MB
    generalize w3.alloc (.cells (bvl [false, false, false, false, false]).toArray 4) = W4 at *
    obtain ⟨g, hg⟩ : ∃ g, w3.heap.size = g := ⟨_, rfl⟩
    rw [hg] at HQ4 ⊢
    clear hg
    go_cut [11, 12, 13] (fun _ _ _ wc => ∃ (w5 : World) (bs : List Bool), w5 = wc ∧ Hid (SQ w w5 p dp s ops 90 ao L g bs ∧ bs.length = 5 ∧ ∀ c ∈ s.C, (c.id : Int) ∈ L → bs[c.b]? = some true))
    case first =>
      go_wp2_with fail
      go_loopg [11, 12, 13] L.length (fun gg t11 _ _ W => ∃ (gw : World) (i : Nat) (bs : List Bool), gw = W ∧ t11 = .int .i64 i ∧ i ≤ L.length ∧ L.length - i ≤ gg ∧ Hid (SQ w gw p dp s ops 90 ao L g bs ∧ bs.length = 5 ∧ ∀ c ∈ s.C, (c.id : Int) ∈ L.take i → bs[c.b]? = some true))
      case atStart => exact ⟨_, 0, _, rfl, rfl, by omega, by omega, HQ4.out, rfl, fun c _ h => by simp at h⟩
      case round =>
        obtain ⟨gw, i, bs, rfl, rfl, hi, hgi, H⟩ := hrel
        clear HQ4
        by_cases hlt : (i : Int) < (L.length : Int)
        · obtain ⟨rb, ro, x, hao, hx, hxm, htk⟩ : ∃ rb ro x, ao = some ⟨rb, ro, none⟩ ∧ gw.cell? ⟨rb, ro + i, none⟩ = some (.int .i64 x) ∧ x ∈ L ∧ L.take (i + 1) = L.take i ++ [x] := by
            have hin : i < L.length := by omega
            rcases H.out.1.src with e | ⟨rb, ro, e, hl, hc⟩
            · rw [e] at hin; simp at hin
            · refine ⟨rb, ro, _, e, hc i hin, getD_mem' hin, ?_⟩
              rw [List.take_add_one, List.getElem?_eq_getElem hin, List.getD_eq_getElem?_getD, List.getElem?_eq_getElem hin]
              rfl
          obtain ⟨c, hcC, hcx⟩ := opn_iff.1 ((HM.out x).1 hxm).opn
          subst hcx
          have hpp : s.p = p := H.out.1.gw.p
          have hcr := HC.out.2.1.idr c hcC
          have hcb := HC.out.2.2 c hcC
          have PB := pblock_ok H.out.1.gw.pm hcC (by have := HC.out.1; omega) (by rw [HC.out.2.1.fc]; exact lkC_at HC.out.2.1.asc hcC)
          rw [hpp] at PB
          have HT : Hid (L.take (i + 1) = L.take i ++ [(c.id : Int)] ∧ c ∈ s.C) := ⟨htk, hcC⟩
          subst hao
          clear hpp hcr htk hxm hcC
          obtain ⟨b0, hb0⟩ : ∃ b0, bs[c.b]? = some b0 := ⟨_, List.getElem?_eq_getElem (by rw [H.out.2.1]; exact hcb)⟩
          have y0 := H.out.1.row.cell hb0
          have f0 := H.out.1.row.frozen c.b
          have hcb5 : (c.b : Int) < 5 := by omega
          clear hb0 hcb
          go_wp2_with (first | (go_at_call 36; refine PB.mono ?_; rintro r w5 ⟨rfl, hw5⟩; obtain rfl : gw = w5 := hw5.symm))
          go_roundg (L.length - (i + 1))
          case measure => omega
          case rel =>
            refine ⟨_, i + 1, bs.set c.b true, rfl, by go_num, by omega, by omega, H.out.1.set c.b true, by rw [List.length_set]; exact H.out.2.1, fun c' hc' hm' => ?_⟩
            rw [HT.out.1] at hm'
            have h5 := HC.out.2.2 c' hc'
            rw [List.getElem?_set]
            by_cases e : c.b = c'.b
            · rw [if_pos e, if_pos (by rw [H.out.2.1]; omega)]
            · rw [if_neg e]
              rcases List.mem_append.1 hm' with hm' | hm'
              · exact H.out.2.2 c' hc' hm'
              · have e2 : c'.id = c.id := by have := List.mem_singleton.1 hm'; omega
                exact absurd (congrArg Ch.b (HC.out.2.1.asc.inj HT.out.2 hc' e2.symm)) e
        · go_wp2_with fail
          go_meet
          have ht : L.take i = L := List.take_of_length_le (by omega)
          exact ⟨_, bs, rfl, H.out.1, H.out.2.1, fun c hc hm => H.out.2.2 c hc (by rw [ht]; exact hm)⟩
    case rest =>
      obtain ⟨w5, bs, rfl, H5⟩ := hcut
      have BY := gw_bytes H5.out.1.gw
      clear HQ4
      go_wp2_with (first | (go_at_call 17; refine Hid.out ?_))
      change Calls _ _ _ _ _
      refine BY.mono ?_
      clear BY
      rintro r w6 ⟨g6, rfl, hk6, hb6⟩
      have HL6 : Hid (((List.range 5).flatMap (yS s)).length = 1280) := flat5 _ (yS_len H5.out.1.gw)
      have HYL : Hid (∀ i, (yS s i).length = 256) := yS_len H5.out.1.gw
      have CV := conv_str hk6.src 1280 1280 HL6.out.symm
      have H6 : Hid (SQ w w6 p dp s ops 90 ao L g bs ∧ bs.length = 5 ∧ ∀ c ∈ s.C, (c.id : Int) ∈ L → bs[c.b]? = some true) := ⟨H5.out.1.up hb6, H5.out.2⟩
      obtain ⟨was, hwas⟩ : ∃ was, (List.range 5).flatMap (yS s) = was := ⟨_, rfl⟩
      have HWAS : Hid ((List.range 5).flatMap (yS s) = was) := hwas
      rw [hwas] at CV
      clear hk6 hb6 H5 hwas
      go_upto_region 15 with fail
      clear CV
      have hCl : s.C.length ≤ 31 := by have h1 := HC.out.2.1.clen; have h2 := HC.out.1; omega
      have ON := one_anyJ H6.out.1.gw 307 (by omega) (by omega) id hidb
      go_wp2_with (first | (go_at_call 41; refine Hid.out ?_))
      change Calls _ _ _ _ _
      refine ON.mono ?_
      clear ON
      rintro r w7 ⟨nw, s7, ops7, rfl, hG7, hcnt7, hop7, hlst7, hlen7, hf7, hs7⟩
      have H7 : Hid (SQ w w7 p dp s7 ops7 307 ao L g bs) := H6.out.1.run hG7 hf7 hs7
      have HO7 : Hid (s7.cnt = s.cnt ∧ (∀ x, Rch s.C id x → opn s7.C x = false) ∧ (∀ m, ¬ (∃ c ∈ s.C, Rch s.C id c.id ∧ c.b = m) → lst s7.σ m = lst s.σ m) ∧ s7.C.length ≤ 31) := ⟨hcnt7, hop7, hlst7, by omega⟩
      have HBS : Hid (bs.length = 5 ∧ ∀ c ∈ s.C, (c.id : Int) ∈ L → bs[c.b]? = some true) := H6.out.2
      clear hG7 hcnt7 hop7 hlst7 hlen7 hf7 hs7 hCl H6
      have BY := gw_bytes H7.out.gw
      go_wp2_with (first | (go_at_call 17; refine Hid.out ?_))
      change Calls _ _ _ _ _
      refine BY.mono ?_
      clear BY
      rintro r w8 ⟨g8, rfl, hk8, hb8⟩
      have HL8 : Hid (((List.range 5).flatMap (yS s7)).length = 1280) := flat5 _ (yS_len H7.out.gw)
      have CV := conv_str hk8.src 1280 1280 HL8.out.symm
      have H8 : Hid (SQ w w8 p dp s7 ops7 307 ao L g bs) := H7.out.up hb8
      obtain ⟨now, hnow⟩ : ∃ now, (List.range 5).flatMap (yS s7) = now := ⟨_, rfl⟩
      have HNOW : Hid ((List.range 5).flatMap (yS s7) = now) := hnow
      rw [hnow] at CV
      clear hk8 hb8 hnow H7
      go_upto_block 2 with fail
      clear CV
      go_cut [16] (fun _ wc => wc = w8)
      case first =>
        go_wp2_with fail
        go_loopg [16] L.length (fun gg t16 W => ∃ (i : Nat), w8 = W ∧ t16 = .int .i64 i ∧ i ≤ L.length ∧ L.length - i ≤ gg)
        case atStart => exact ⟨0, rfl, rfl, by omega, by omega⟩
        case round =>
          obtain ⟨i, rfl, rfl, hi, hgi⟩ := hrel
          by_cases hlt : (i : Int) < (L.length : Int)
          · obtain ⟨rb, ro, x, hao, hx, hxm⟩ : ∃ rb ro x, ao = some ⟨rb, ro, none⟩ ∧ w8.cell? ⟨rb, ro + i, none⟩ = some (.int .i64 x) ∧ x ∈ L := by
              have hin : i < L.length := by omega
              rcases H8.out.src with e | ⟨rb, ro, e, hl, hc⟩
              · rw [e] at hin; simp at hin
              · exact ⟨rb, ro, _, e, hc i hin, getD_mem' hin⟩
            have hr := (HM.out x).1 hxm
            obtain ⟨c, hcC, hcx⟩ := opn_iff.1 hr.opn
            have hcr := HC.out.2.1.idr c hcC
            have hpp : s7.p = p := H8.out.gw.p
            have SF := psafe_any H8.out.gw.pm x (by have := HC.out.1; omega)
            have hd : decide (1 ≤ x ∧ x ≤ (s7.cnt : Int) ∧ s7.fC x = 0) = true := by
              have h1 := HO7.out.1
              have h2 := lkC_opn H8.out.gw.pl.asc x
              rw [HO7.out.2.1 x hr] at h2
              rw [H8.out.gw.pl.fc]
              exact decide_eq_true ⟨by omega, by omega, of_decide_eq_true h2⟩
            rw [hpp, hd] at SF
            subst hao
            clear hpp hd hr hcC hcx hcr hxm
            go_wp2_with (first | (go_at_call 29; refine SF.mono ?_; rintro r w9 ⟨rfl, hw9⟩; obtain rfl : w8 = w9 := hw9.symm))
            go_roundg (L.length - (i + 1))
            case measure => omega
            case rel => exact ⟨i + 1, rfl, by go_num, by omega, by omega⟩
          · go_wp2_with fail
            go_meet
            rfl
      case rest =>
        obtain rfl : w8 = wc := hcut.symm
        go_upto_block 4 with fail
        go_cut [17] (fun _ wc => ∃ w9 : World, w9 = wc ∧ Hid (SQ w w9 p dp s7 ops7 307 ao L g bs))
        case first =>
          have z1 : (str was).size = 1280 := by have h1 := HL6.out; rw [HWAS.out] at h1; show was.toArray.size = 1280; simpa using h1
          have z2 : (str now).size = 1280 := by have h1 := HL8.out; rw [HNOW.out] at h1; show now.toArray.size = 1280; simpa using h1
          go_wp2_with fail
          go_loopg [17] 5 (fun gg t17 W => ∃ (gw : World) (b : Nat), gw = W ∧ t17 = .int .i64 b ∧ b ≤ 5 ∧ 5 - b ≤ gg ∧ Hid (SQ w gw p dp s7 ops7 307 ao L g bs))
          case atStart => exact ⟨_, 0, rfl, rfl, by omega, by omega, H8.out⟩
          case round =>
            obtain ⟨gw, b, rfl, rfl, hb5, hgb, H9⟩ := hrel
            clear H8
            by_cases hlt : (b : Int) < 5
            · obtain ⟨vb, hvb⟩ : ∃ vb, bs[b]? = some vb := ⟨_, List.getElem?_eq_getElem (by rw [HBS.out.1]; omega)⟩
              have y0 := H9.out.row.cell hvb
              go_upto_region 25 with fail
              go_cut [125] (fun t wc => t = .bool false ∧ ∃ w9 : World, w9 = wc ∧ Hid (SQ w w9 p dp s7 ops7 307 ao L g bs))
              case first =>
                cases vb with
                | true =>
                  go_quiet (fail)
                  go_wp2
                  go_meet
                  exact ⟨rfl, _, rfl, H9.out.up (belowN (Below.refl _ _) _)⟩
                | false =>
                  go_quiet (fail)
                  go_wp2
                  go_meet
                  refine ⟨?_, _, rfl, H9.out.up (belowN (Below.refl _ _) _)⟩
                  have e1 := ext_flat (yS s) HYL.out b (by omega)
                  have e2 := ext_flat (yS s7) (yS_len H9.out.gw) b (by omega)
                  rw [HWAS.out] at e1
                  rw [HNOW.out] at e2
                  have e3 : yS s7 b = yS s b := by
                    unfold yS
                    rw [if_pos (by omega), if_pos (by omega)]
                    refine HO7.out.2.2.1 b ?_
                    rintro ⟨c, hc, hr, rfl⟩
                    have h1 := HBS.out.2 c hc ((HM.out _).2 hr)
                    rw [hvb] at h1
                    cases h1
                  rw [e1, e2, e3]
                  simp
              case rest =>
                obtain ⟨rfl, w9, rfl, H10⟩ := hcut
                clear y0
                go_wp2_with fail
                go_roundg (5 - (b + 1))
                case measure => omega
                case rel => exact ⟨_, b + 1, rfl, by go_num, by omega, by omega, H10.out⟩
            · go_wp2_with fail
              go_meet
              exact ⟨_, rfl, H9⟩
        case rest =>
          obtain ⟨w9, rfl, H9⟩ := hcut
          clear H8
          have AL := all_any H9.out.gw 524 (by have := HO7.out.2.2.2; omega) (by omega)
          go_wp2_with (first | (go_at_call 42; refine Hid.out ?_))
          change Calls _ _ _ _ _
          refine AL.mono ?_
          clear AL
          rintro r g6 ⟨na, s6, o6, rfl, hG6, hC6, _, _, _, _⟩
          have HZ : Hid (s6.C = [] ∧ GW w g6 p dp s6 o6 700) := ⟨hC6, hG6.more (by omega)⟩
          clear hG6 hC6
          go_wp2_with fail
          go_loopg [18, 19, 20, 21, 22] 5 (fun gg t18 _ _ _ _ W => ∃ (g9 : World) (b : Nat) (s : PSt) (ops : Nat → List Int), g9 = W ∧ b ≤ 5 ∧ 5 - b ≤ gg ∧ t18 = .int .i64 b ∧ Hid (s.C = [] ∧ GW w g9 p dp s ops (700 + b)))
          case atStart => exact ⟨_, 0, s6, o6, rfl, by omega, by omega, rfl, HZ.out⟩
          case round =>
            clear HZ
            obtain ⟨g9, b, s, ops, rfl, hb, hgb, rfl, H9⟩ := hrel
            by_cases hb5 : (b : Int) < 5
            · have RD := gw_read H9.out.2 H9.out.1 (by omega) b (by omega)
              go_wp2_with (first | (go_at_call 34; refine Hid.out ?_))
              change Calls _ _ _ _ _
              refine RD.mono ?_
              clear RD
              rintro r wa ⟨v, sa, rfl, hGa, hCa, hOa, hla, hDa⟩
              obtain ⟨ao, ca, rfl, hsr, _⟩ := hOa.form
              rw [hla]
              have SF := safe_any hDa b (by omega)
              have HSR : Hid (Src wa ao (sa.σ.sf b) ∧ (sa.σ.sf b).length = 256) := ⟨hsr, hla⟩
              have HGa : Hid (sa.C = [] ∧ GW w wa p dp sa ops (700 + b + 1)) := ⟨hCa, hGa⟩
              clear hGa hCa hOa hla hDa hsr
              go_wp2_with (first | (go_at_call 22; refine Hid.out ?_))
              change Calls _ _ _ _ _
              refine SF.mono ?_
              clear SF
              rintro r wb ⟨gx, rfl, hblk, hgx, hbb⟩
              have CV1 := conv_str (HSR.out.1.below hbb (Nat.le_refl _)) 256 ca HSR.out.2.symm
              have CV2 := conv_str hblk.src 256 256 HSR.out.2.symm
              have HGb : Hid (sa.C = [] ∧ GW w wb p dp sa ops (700 + (b + 1))) := ⟨HGa.out.1, HGa.out.2.up hbb⟩
              clear hblk hbb HSR HGa hgx
              generalize str (sa.σ.sf b) = S at *
              go_wp2_with fail
              go_roundg (5 - (b + 1))
              case measure => omega
              case rel => exact ⟨_, b + 1, sa, ops, rfl, by omega, by omega, by go_num, HGb.out⟩
            · have OP := gw_open H9.out.2
              rw [H9.out.1] at OP
              go_wp2_with (first | (go_at_call 32; refine Hid.out ?_))
              change Calls _ _ _ _ _
              refine OP.mono ?_
              clear OP
              rintro r wx ⟨rfl, hwx⟩
              obtain rfl : g9 = wx := hwx.symm
              rw [show (([] : List Ch).length : Int) = 0 from rfl]
              have KN := fun W => known12_any W
              go_wp2_with (first | (go_at_call 43; refine Hid.out ?_))
              change Calls _ _ _ _ _
              refine (KN _).mono ?_
              clear KN
              rintro r wk ⟨rfl, hbk⟩
              have HBK : Hid (Below w.heap.size w wk) := H9.out.2.be.trans (hbk.mono H9.out.2.be.size)
              clear hbk
              go_wp2_with fail
              go_ret
              exact ⟨rfl, HBK.out⟩
theorem pushSafe_law (sp : Option Addr) (m cap : Nat) (X : Nat → Chg) (id0 : Int) (w : World) (h1 : m ≤ cap ∧ (cap : Int) ≤ 9223372036854775807 ∧ ChgsAt w sp m X) (hid : -9223372036854775808 ≤ id0 ∧ id0 ≤ 9223372036854775807) :
    Calls Tryz.prog 7 #[.slice sp m cap, .int .i64 id0] w fun e w' => e = .returned (.bool true) ∧ Below w.heap.size w w' := pushSafe_any sp m cap X id0 hid w h1
end Go.Proofs.YtanelcdeekichaaGreat
