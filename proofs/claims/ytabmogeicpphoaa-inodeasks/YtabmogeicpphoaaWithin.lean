/- inode.Within. -/
import Derived.Test.YtabmogeicpphoaaMet
import Derived.Test.YtabmogeicpphoaaKindG
namespace Go.Proofs.Ytabmogeicpphoaa
open Go.RowKit
/-- Are all data blocks, none twice? -/
def k4 (a i n : Int) (N : List Int) : Bool := N.all (fun x => kindV a i n x == 4)
def nodB (N : List Int) : Bool := decide N.Nodup
def wiB (a i n : Int) (N : List Int) : Bool := okB a i n && (k4 a i n N && nodB N)
theorem getD_at {N : List Int} {k : Nat} (h : k < N.length) : N.getD k 0 = N[k] := by simp [h]
theorem k4_step {a i n : Int} {N : List Int} {k : Nat} (h : k < N.length) : k4 a i n (N.take (k + 1)) = (k4 a i n (N.take k) && (kindV a i n (N.getD k 0) == 4)) := by
  unfold k4
  rw [getD_at h, List.take_succ_eq_append_getElem h, List.all_append]; simp only [List.all_cons, List.all_nil, Bool.and_true]
theorem nod_step {N : List Int} {k : Nat} (h : k < N.length) : nodB (N.take (k + 1)) = (nodB (N.take k) && decide (¬ N.getD k 0 ∈ N.take k)) := by
  unfold nodB
  rw [getD_at h, List.take_succ_eq_append_getElem h, Bool.eq_iff_iff]
  simp only [decide_eq_true_eq, Bool.and_eq_true, List.nodup_append, List.nodup_cons, List.not_mem_nil, not_false_eq_true, List.nodup_nil, and_self, List.mem_cons, or_false, true_and]
  constructor
  · rintro ⟨h1, h2⟩; exact ⟨h1, fun hm => h2 _ hm _ rfl rfl⟩
  · rintro ⟨h1, h2⟩; exact ⟨h1, fun x hx y hy e => h2 (by rw [← hy, ← e]; exact hx)⟩
theorem k4_no {a i n : Int} {N : List Int} {k : Nat} (h : k < N.length) (hk : ¬ kindV a i n (N.getD k 0) = 4) : k4 a i n N = false := by
  unfold k4
  rw [List.all_eq_false]
  exact ⟨N[k], List.getElem_mem h, by rw [← getD_at h]; simpa using hk⟩
theorem nod_no {N : List Int} {k : Nat} (h : k < N.length) (hk : N.getD k 0 ∈ N.take k) : nodB N = false := by
  unfold nodB
  rw [decide_eq_false_iff_not]
  intro hn
  have h2 : (N.take (k + 1)).Nodup := hn.sublist (List.take_sublist _ _)
  have h3 : nodB (N.take (k + 1)) = true := by unfold nodB; simpa using h2
  rw [nod_step h] at h3
  simp at h3
  exact h3.2 (by simpa [h] using hk)
/-- What Within has laid. -/
structure WI (w0 : World) (a i n : Int) (mb : Nat) (ao : Option Addr) (N : List Int) (k : Nat) (W : World) : Prop where
  lies : Lies w0 w0.heap.size a i n W
  met : Met W mb (N.take k)
  src : SrcI W ao N
  hmb : w0.heap.size < mb
  hao : ∀ b o, ao = some ⟨b, o, none⟩ → b ≠ mb
section
variable {w0 W W' : World} {a i n : Int} {mb k : Nat} {ao : Option Addr} {N : List Int}
theorem lies_up (h : Lies w0 w0.heap.size a i n W) (hb : Below W.heap.size W W') : Lies w0 w0.heap.size a i n W' :=
  ⟨(hb.cell (p := ⟨w0.heap.size, 0, none⟩) (block_lt_of_cell h.1)).trans h.1, (hb.cell (p := ⟨w0.heap.size, 1, none⟩) (block_lt_of_cell h.2.1)).trans h.2.1, (hb.cell (p := ⟨w0.heap.size, 2, none⟩) (block_lt_of_cell h.2.2.1)).trans h.2.2.1, h.2.2.2.trans (hb.mono h.2.2.2.size)⟩
theorem lies_low (h : Lies w0 w0.heap.size a i n W) {B : Nat} (hb : Below B W W') (hB : w0.heap.size < B) : Lies w0 w0.heap.size a i n W' :=
  ⟨(hb.cell (p := ⟨w0.heap.size, 0, none⟩) hB).trans h.1, (hb.cell (p := ⟨w0.heap.size, 1, none⟩) hB).trans h.2.1, (hb.cell (p := ⟨w0.heap.size, 2, none⟩) hB).trans h.2.2.1, h.2.2.2.trans (hb.mono (by omega))⟩
theorem WI.up (h : WI w0 a i n mb ao N k W) (hb : Below W.heap.size W W') : WI w0 a i n mb ao N k W' :=
  ⟨lies_up h.lies hb, h.met.up hb, h.src.below hb (Nat.le_refl _), h.hmb, h.hao⟩
theorem WI.grown {k' : Nat} (h : WI w0 a i n mb ao N k W) (hg : W.grownBy W' (some mb)) (hm : Met W' mb (N.take k')) : WI w0 a i n mb ao N k' W' := by
  have hb : Below mb W W' := (Below.refl _ _).grown hg (by have := h.met.lt; omega) (fun k hk => by cases hk; exact Nat.le_refl _)
  refine ⟨lies_low h.lies hb h.hmb, hm, ?_, h.hmb, h.hao⟩
  rcases h.src with h1 | ⟨b, o, e, k1, k2⟩
  · exact .inl h1
  · refine .inr ⟨b, o, e, by have := hg.size; omega, fun j hj => ?_⟩
    have hbb := hg.block b k1 (by have := h.hao b o e; simpa using this)
    exact (World.cell?_of_block (w := W) (a := ⟨b, o + j, none⟩) hbb).trans (k2 j hj)
end
set_option maxRecDepth 100000 in
set_option maxHeartbeats 4000000 in
theorem within_iany (a i n : Int) (t : Ino) (hn : t.ns.length = 8) (hwn : ∀ x ∈ nz t.ns, (Lit.int .i64 x).wf = true) (w : World) :
    Calls Try.prog 23 #[.agg #[.int .i64 a, .int .i64 i, .int .i64 n], .agg (iA t)] w fun e w' => e = .returned (.bool (wiB a i n (nz t.ns))) ∧ Below w.heap.size w w' := by
  have hb0 : Below w.heap.size w ((w.alloc (.cells #[.int .i64 a, .int .i64 i, .int .i64 n] 37)).alloc (.cells (iA t) 24)) := ((Below.refl _ _).alloc (Nat.le_refl _) _).alloc (by simp) _
  have HL0 : Hid (Lies w w.heap.size a i n ((w.alloc (.cells #[.int .i64 a, .int .i64 i, .int .i64 n] 37)).alloc (.cells (iA t) 24))) := ⟨by go_simp, by go_simp, by go_simp, hb0⟩
  have HI0 : Hid (InoAt ((w.alloc (.cells #[.int .i64 a, .int .i64 i, .int .i64 n] 37)).alloc (.cells (iA t) 24)) (w.heap.size + 1) t) := by
    have := ino_new (w.alloc (.cells #[.int .i64 a, .int .i64 i, .int .i64 n] 37)) t hn
    rw [show (w.alloc (.cells #[.int .i64 a, .int .i64 i, .int .i64 n] 37)).heap.size = w.heap.size + 1 by simp] at this
    exact this
  have NM := names_any t hn
  have HLN : Hid ((nz t.ns).length ≤ 8) := by have := nz_len t.ns; show _ ≤ _; omega
  have HWN : Hid (∀ x ∈ nz t.ns, (Lit.int .i64 x).wf = true) := hwn
  have RT := right_any a i n
  clear hb0 hwn
  cases hok : okB a i n
  · rw [hok] at RT
    have hw : wiB a i n (nz t.ns) = false := by unfold wiB; rw [hok]; rfl
    rw [hw]
    clear hw hok
    go_enter Try.func23, Try.ntmps23
    go_wp2_with fail
    refine (RT _).mono ?_
    rintro e w1 ⟨rfl, h1⟩
    have HB := (lies_up HL0.out h1).2.2.2
    go_wp2
    go_ret
    exact ⟨rfl, HB⟩
  rw [hok] at RT
  have HOK : Hid (okB a i n = true) := hok
  clear hok
  generalize nz t.ns = N at *
  go_enter Try.func23, Try.ntmps23
  go_wp2_with fail
  refine (RT _).mono ?_
  rintro e w1 ⟨rfl, h1⟩
  have HL1 : Hid _ := lies_up HL0.out h1
  have HI1 : Hid _ := HI0.out.up h1
  clear HL0 HI0 RT h1
  have HM2 : Hid (Met (w1.alloc (.map #[] 0)) w1.heap.size []) := Met.made w1
  have al : Below w1.heap.size w1 (w1.alloc (.map #[] 0)) := (Below.refl _ _).alloc (Nat.le_refl _) _
  have HL2 : Hid _ := lies_up HL1.out al
  have HI2 : Hid _ := HI1.out.up al
  have hlm : w.heap.size + 1 < w1.heap.size := HI1.out.lt
  clear HL1 HI1 al
  have hmk : (Instr.makeMap 73 none).run Try.prog w1 = .ok (.map (some w1.heap.size)) (w1.alloc (.map #[] 0)) := run_makeMap 73 w1
  go_wp2_with (first | ((with_reducible show wpList _ _ _ ({ dst := _, op := Op.load 24 _, type := _, pos := _, after := _, guard := _ } :: _) _ _); refine wpList_load_ino rfl _ rfl (HI2.out) rfl ?_))
  refine (NM _).mono ?_
  rintro e w3 ⟨v, rfl, hv, h3⟩
  obtain ⟨ao, cap, rfl, hs3, _, _, _⟩ := hv.form
  have HW3 : Hid (WI w a i n w1.heap.size ao N 0 w3) := by
    refine ⟨lies_up HL2.out h3, by rw [List.take_zero]; exact HM2.out.up h3, hs3, by omega, fun b o e => ?_⟩
    subst e
    have := (hv.lt b rfl).1
    simp at this
    omega
  clear HM2 HL2 HI2 hv h3 hs3 NM
  have HKD : Hid _ := kind_any a i n
  go_wp2_with fail
  go_loopw [17] (fun u wr => ∃ k : Nat, k ≤ N.length ∧ u = .int .i64 k ∧ WI w a i n w1.heap.size ao N k wr ∧ Hid (k4 a i n (N.take k) = true ∧ nodB (N.take k) = true)) (fun u _ => N.length - (intOf u).toNat)
  case atStart => exact ⟨0, by omega, rfl, HW3.out, by exact ⟨by simp [k4], by simp [nodB]⟩⟩
  case round =>
    obtain ⟨k, hk, rfl, hwi, HALL⟩ := hrel
    have HWI : Hid _ := hwi
    clear hwi HW3
    have hl8 := HLN.out
    by_cases hlt : (k : Int) < N.length
    · obtain ⟨b, o, rfl, hbl, hc⟩ : ∃ b o, ao = some ⟨b, o, none⟩ ∧ b < wr.heap.size ∧ ∀ j, j < N.length → wr.cell? ⟨b, o + j, none⟩ = some (.int .i64 (N.getD j 0)) := by
        rcases HWI.out.src with h | h
        · rw [h] at hlt; simp at hlt; omega
        · exact h
      have hx := hc k (by omega)
      have hwx : (Lit.int .i64 (N.getD k 0)).wf = true := HWN.out _ (by rw [getD_at (by omega)]; exact List.getElem_mem _)
      have lk := HWI.out.met.look (N.getD k 0) hwx
      have HK4 : Hid _ := k4_step (a := a) (i := i) (n := n) (N := N) (k := k) (by omega)
      have HND : Hid _ := nod_step (N := N) (k := k) (by omega)
      have HNK : Hid (¬ kindV a i n (N.getD k 0) = 4 → k4 a i n N = false) := fun h => k4_no (by omega) h
      have HNN : Hid (N.getD k 0 ∈ N.take k → nodB N = false) := fun h => nod_no (by omega) h
      have HTK : Hid (N.take (k + 1) = N.take k ++ [N.getD k 0]) := by show _ = _; rw [List.take_succ_eq_append_getElem (by omega), getD_at (by omega)]
      have hcn : (N.take k).count (N.getD k 0) ≤ 8 := by
        have := List.count_le_length (a := N.getD k 0) (l := N.take k)
        rw [List.length_take] at this; omega
      have HCM : Hid ((N.take k).count (N.getD k 0) = 0 ↔ ¬ N.getD k 0 ∈ N.take k) := List.count_eq_zero
      have hl1000 : (N.take k).length ≤ 1000 := by rw [List.length_take]; omega
      have KD := HKD.out (N.getD k 0)
      clear hc
      generalize N.getD k 0 = x at *
      obtain ⟨c, HC⟩ : ∃ c : Nat, Hid (c = (N.take k).count x) := ⟨_, rfl⟩
      rw [← HC.out] at lk hcn HCM
      go_upto_region 8 with (first | ((with_reducible show wpList _ _ _ ({ dst := _, op := Op.mapUpdate 73 _ _ _, type := _, pos := _, after := _, guard := _ } :: _) _ _); refine wpList_met rfl _ _ _ rfl HWI.out.met hwx hl1000 rfl rfl (by rw [← HC.out]; rfl) ?_; intro w5 hm5 hg5))
      rw [← HTK.out] at hm5
      have HW5 : Hid (WI w a i n w1.heap.size (some ⟨b, o, none⟩) N (k + 1) w5) := HWI.out.grown hg5 hm5
      have q0 := HW5.out.lies.1; have q1 := HW5.out.lies.2.1; have q2 := HW5.out.lies.2.2.1
      clear hm5 hg5 HWI lk hx
      go_wp2_with fail
      refine (KD _).mono ?_
      rintro e w6 ⟨rfl, h6⟩
      have HW6 : Hid _ := HW5.out.up h6
      have lk6 := HW6.out.met.look x hwx
      have hc6 : (N.take (k + 1)).count x = c + 1 := by rw [HTK.out, HC.out]; simp
      rw [hc6] at lk6
      clear h6 HW5 KD q0 q1 q2 hc6
      generalize kindV a i n x = KV at *
      by_cases hk4 : KV = 4
      · by_cases hc0 : c = 0
        · subst hc0
          go_wp2
          go_roundw
          case rel => exact ⟨k + 1, by omega, by go_num, HW6.out, ⟨by rw [HK4.out, HALL.out.1, hk4]; rfl, by rw [HND.out, HALL.out.2]; simpa using HCM.out.1 (by simp)⟩⟩
          case measure => simp [intOf]; omega
        · have hc1 : (1 : Int) < (c : Int) + 1 := by omega
          have HB := HW6.out.lies.2.2.2
          go_wp2
          go_ret
          exact ⟨ret_bool (by unfold wiB; rw [HNN.out (by have := HCM.out; by_cases hm : x ∈ N.take k; exact hm; exact absurd (this.2 hm) hc0)]; simp), HB⟩
      · have hkb : (KV == 4) = false := by simpa using hk4
        have HB := HW6.out.lies.2.2.2
        go_wp2
        go_ret
        exact ⟨ret_bool (by unfold wiB; rw [HNK.out hk4]; simp), HB⟩
    · have hk' : k = N.length := by omega
      subst hk'
      have HF : Hid (wiB a i n N = true) := by
        have h := HALL.out
        rw [List.take_of_length_le (Nat.le_refl _)] at h
        show _ = _
        unfold wiB; rw [HOK.out, h.1, h.2]; rfl
      have HB := HWI.out.lies.2.2.2
      clear HALL
      go_wp2
      go_ret
      exact ⟨ret_bool HF.out.symm, HB⟩
end Go.Proofs.Ytabmogeicpphoaa
