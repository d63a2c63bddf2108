/- The document's cache: Pin, Unpin, Drop. -/
import Derived.Test.YtikpnfnbmbaljaaJZb4
namespace Go.Proofs.Ytikpnfnbmbaljaa
open Go.RowKit
set_option maxRecDepth 100000
theorem bfs_append (A B : List Bf) : bfs (A ++ B) = bfs A ++ bfs B := by simp [bfs]
theorem bfs_cons (x : Bf) (B : List Bf) : bfs (x :: B) = bfL x ++ bfs B := by simp [bfs]
theorem bfs_length : ∀ A : List Bf, (bfs A).length = A.length * 3
  | [] => rfl
  | a :: A => by rw [bfs_cons, List.length_append, bfs_length A]; show 3 + _ = (A.length + 1) * 3; omega
theorem bfs_set {A B : List Bf} {x x' : Bf} {j : Nat} {u : Value} (hj : j < 3) (hu : (bfL x).set j u = bfL x') : (bfs (A ++ x :: B)).set (A.length * 3 + j) u = bfs (A ++ x' :: B) := by
  rw [bfs_append, bfs_append, bfs_cons, bfs_cons, List.set_append_right _ _ (by rw [bfs_length]; omega), bfs_length, show A.length * 3 + j - A.length * 3 = j by omega, List.set_append_left _ _ (by show j < 3; exact hj), hu]
section
variable {w w' : World} {q ed most : Nat} {v : Value} {L : List Bf}
/-- A cell of the row is another one. -/
theorem OwnB.set {g ca : Nat} {A B : List Bf} {x x' : Bf} {j : Nat} {u : Value} (h : OwnB w (.slice (some ⟨g, 0, none⟩) (A ++ x :: B).length ca) (A ++ x :: B)) (hj : j < 3) (hu : (bfL x).set j u = bfL x') :
    OwnB (w.setCell ⟨g, A.length * 3 + j, none⟩ u) (.slice (some ⟨g, 0, none⟩) (A ++ x :: B).length ca) (A ++ x' :: B) ∧ ∀ o, w.frozen? ⟨g, o, none⟩ = false := by
  have hlen : (A ++ x' :: B).length = (A ++ x :: B).length := by simp
  obtain ⟨h1, h2⟩ := h
  rcases h2 with ⟨h2, _⟩ | ⟨g', cap, cur, hv, hg, hh, hn, hm, hs, hx⟩
  · cases h2
  · cases hv
    refine ⟨⟨by rw [bfs_length], .inr ⟨g, ca, cur.setIfInBounds (A.length * 3 + j) u, by rw [hlen], hg, heap_setCell_same _ _ _ _ _ _ hh, by rw [hlen]; exact hn, hm, by rw [Array.size_setIfInBounds]; exact hs, ?_⟩⟩, fun o => frozen_of_row _ _ _ _ _ hh⟩
    rw [Array.toList_setIfInBounds, List.take_set, hlen, hx]
    exact bfs_set hj hu
theorem QC.set {g ca : Nat} {A B : List Bf} {x x' : Bf} {j : Nat} {u : Value} (h : QC w q ed most (.slice (some ⟨g, 0, none⟩) (A ++ x :: B).length ca) (A ++ x :: B)) (hj : j < 3) (hu : (bfL x).set j u = bfL x') :
    QC (w.setCell ⟨g, A.length * 3 + j, none⟩ u) q ed most (.slice (some ⟨g, 0, none⟩) (A ++ x :: B).length ca) (A ++ x' :: B) ∧ Fr (fun k => k = g) w (w.setCell ⟨g, A.length * 3 + j, none⟩ u) := by
  have hgq : g ≠ q := fun e => h.qv (by rw [← e]; rfl)
  exact ⟨⟨(heap_setCell_other w ⟨g, A.length * 3 + j, none⟩ q u hgq.symm).trans h.at', (h.own.set hj hu).1, h.qv, by have := h.len; simp at this ⊢; omega⟩, (Fr.refl (fun k => k = g) w).setCell g _ u rfl⟩
/-- Where a block's record lies. -/
theorem QC.at {A B : List Bf} {x : Bf} (h : QC w q ed most v (A ++ x :: B)) : ∃ g ca, v = .slice (some ⟨g, 0, none⟩) (A ++ x :: B).length ca ∧ (ca : Int) ≤ 9223372036854775807 ∧ g < w.heap.size ∧ (∀ (j : Nat) (u : Value), (bfL x)[j]? = some u → w.cell? ⟨g, A.length * 3 + j, none⟩ = some u) ∧ ∀ o, w.frozen? ⟨g, o, none⟩ = false := by
  obtain ⟨ao, ca, hv, hB⟩ := h.own.form
  rcases hB.cells with e | ⟨g, e, hg, hcc⟩
  · simp at e
  · subst e
    refine ⟨g, ca, hv, hB.cap.2, hg, fun j u hj => hcc A.length x (by simp) j u hj, ?_⟩
    have ho := h.own
    rw [hv] at ho
    exact (ho.set (x' := ⟨x.b, x.d, 0⟩) (j := 2) (u := .int .i64 ((0 : Nat) : Int)) (by omega) rfl).2
set_option maxHeartbeats 1000000 in
theorem qpin_no (h : QC w q ed most v L) (b : Int) (hb : ∀ c ∈ L, ¬ (c.b : Int) = b) :
    Calls Try.prog 29 #[.pointer (some ⟨q, 0, none⟩), .int .i64 b] w fun e w' => e = .returned (.int .i64 20) ∧ w' = w := by
  have FI := qfind_any h b
  rw [fdB_no hb] at FI
  clear h
  go_enter Try.func29, Try.ntmps29
  go_wp2_with (first | (go_at_call 39; refine FI.mono ?_; rintro r w1 ⟨rfl, hw1⟩; obtain rfl : w = w1 := hw1.symm))
  go_ret
  exact ⟨rfl, rfl⟩
set_option maxHeartbeats 1000000 in
theorem qunpin_no (h : QC w q ed most v L) (b : Int) (hb : ∀ c ∈ L, ¬ (c.b : Int) = b) :
    Calls Try.prog 31 #[.pointer (some ⟨q, 0, none⟩), .int .i64 b] w fun e w' => e = .returned (.int .i64 20) ∧ w' = w := by
  have FI := qfind_any h b
  rw [fdB_no hb] at FI
  clear h
  go_enter Try.func31, Try.ntmps31
  go_wp2_with (first | (go_at_call 39; refine FI.mono ?_; rintro r w1 ⟨rfl, hw1⟩; obtain rfl : w = w1 := hw1.symm))
  go_ret
  exact ⟨rfl, rfl⟩
set_option maxHeartbeats 1000000 in
theorem qdrop_no (h : QC w q ed most v L) (b : Int) (hb : ∀ c ∈ L, ¬ (c.b : Int) = b) :
    Calls Try.prog 33 #[.pointer (some ⟨q, 0, none⟩), .int .i64 b] w fun e w' => e = .returned (.int .i64 20) ∧ w' = w := by
  have FI := qfind_any h b
  rw [fdB_no hb] at FI
  clear h
  go_enter Try.func33, Try.ntmps33
  go_wp2_with (first | (go_at_call 39; refine FI.mono ?_; rintro r w1 ⟨rfl, hw1⟩; obtain rfl : w = w1 := hw1.symm))
  go_ret
  exact ⟨rfl, rfl⟩
set_option maxHeartbeats 2000000 in
theorem qpin_ok {A B : List Bf} {x : Bf} (h : QC w q ed most v (A ++ x :: B)) (hA : ∀ c ∈ A, ¬ c.b = x.b) (hp : x.pin ≤ 1000000) :
    Calls Try.prog 29 #[.pointer (some ⟨q, 0, none⟩), .int .i64 (x.b : Int)] w fun e w' => e = .returned (.int .i64 0) ∧ QC w' q ed most v (A ++ ⟨x.b, x.d, x.pin + 1⟩ :: B) ∧ Fr (fun k => v.ownBlock = some k) w w' := by
  have FI := qfind_any h (x.b : Int)
  rw [fdB_at hA, Nat.zero_add] at FI
  obtain ⟨g, ca, rfl, hca, hg, hcc, hfz⟩ := h.at
  have c1 := h.c1
  have x2 := hcc 2 _ rfl
  have f2 := hfz (A.length * 3 + 2)
  have hal : (A.length : Int) < ((A ++ x :: B).length : Int) := by rw [List.length_append, List.length_cons]; omega
  have hll : ((A ++ x :: B).length : Int) ≤ 4096 := by have := h.len; omega
  have HE : Hid (QC (w.setCell ⟨g, A.length * 3 + 2, none⟩ (.int .i64 ((x.pin + 1 : Nat) : Int))) q ed most (.slice (some ⟨g, 0, none⟩) (A ++ x :: B).length ca) (A ++ ⟨x.b, x.d, x.pin + 1⟩ :: B) ∧ Fr (fun k => k = g) w (w.setCell ⟨g, A.length * 3 + 2, none⟩ (.int .i64 ((x.pin + 1 : Nat) : Int)))) := h.set (by omega) rfl
  have hp' : (x.pin : Int) ≤ 1000000 := by omega
  rw [show ((x.pin + 1 : Nat) : Int) = (x.pin : Int) + 1 by omega] at HE
  clear h hcc hfz hg hA hp
  generalize (A ++ x :: B).length = ll at *
  go_enter Try.func29, Try.ntmps29
  go_wp2_with (first | (go_at_call 39; refine FI.mono ?_; rintro r w1 ⟨rfl, hw1⟩; obtain rfl : w = w1 := hw1.symm))
  go_ret
  exact ⟨rfl, HE.out.1, HE.out.2.mono fun k _ hk => by rw [hk]; rfl⟩
set_option maxHeartbeats 2000000 in
theorem qunpin_zero {A B : List Bf} {x : Bf} (h : QC w q ed most v (A ++ x :: B)) (hA : ∀ c ∈ A, ¬ c.b = x.b) (hp : x.pin = 0) :
    Calls Try.prog 31 #[.pointer (some ⟨q, 0, none⟩), .int .i64 (x.b : Int)] w fun e w' => e = .returned (.int .i64 6) ∧ w' = w := by
  have FI := qfind_any h (x.b : Int)
  rw [fdB_at hA, Nat.zero_add] at FI
  obtain ⟨g, ca, rfl, hca, hg, hcc, hfz⟩ := h.at
  have c1 := h.c1
  have x2 := hcc 2 _ rfl
  rw [hp] at x2
  have hal : (A.length : Int) < ((A ++ x :: B).length : Int) := by rw [List.length_append, List.length_cons]; omega
  have hll : ((A ++ x :: B).length : Int) ≤ 4096 := by have := h.len; omega
  clear h hcc hfz hg hA hp
  generalize (A ++ x :: B).length = ll at *
  go_enter Try.func31, Try.ntmps31
  go_wp2_with (first | (go_at_call 39; refine FI.mono ?_; rintro r w1 ⟨rfl, hw1⟩; obtain rfl : w = w1 := hw1.symm))
  go_ret
  exact ⟨rfl, rfl⟩
set_option maxHeartbeats 2000000 in
theorem qunpin_ok {A B : List Bf} {x : Bf} (h : QC w q ed most v (A ++ x :: B)) (hA : ∀ c ∈ A, ¬ c.b = x.b) (hp : x.pin ≤ 1000000) (hp1 : 1 ≤ x.pin) :
    Calls Try.prog 31 #[.pointer (some ⟨q, 0, none⟩), .int .i64 (x.b : Int)] w fun e w' => e = .returned (.int .i64 0) ∧ QC w' q ed most v (A ++ ⟨x.b, x.d, x.pin - 1⟩ :: B) ∧ Fr (fun k => v.ownBlock = some k) w w' := by
  have FI := qfind_any h (x.b : Int)
  rw [fdB_at hA, Nat.zero_add] at FI
  obtain ⟨g, ca, rfl, hca, hg, hcc, hfz⟩ := h.at
  have c1 := h.c1
  have x2 := hcc 2 _ rfl
  have f2 := hfz (A.length * 3 + 2)
  have hal : (A.length : Int) < ((A ++ x :: B).length : Int) := by rw [List.length_append, List.length_cons]; omega
  have hll : ((A ++ x :: B).length : Int) ≤ 4096 := by have := h.len; omega
  have HE : Hid (QC (w.setCell ⟨g, A.length * 3 + 2, none⟩ (.int .i64 ((x.pin - 1 : Nat) : Int))) q ed most (.slice (some ⟨g, 0, none⟩) (A ++ x :: B).length ca) (A ++ ⟨x.b, x.d, x.pin - 1⟩ :: B) ∧ Fr (fun k => k = g) w (w.setCell ⟨g, A.length * 3 + 2, none⟩ (.int .i64 ((x.pin - 1 : Nat) : Int)))) := h.set (by omega) rfl
  have hp' : (x.pin : Int) ≤ 1000000 := by omega
  have hp0 : ((x.pin : Int) == 0) = false := by simp; omega
  rw [show ((x.pin - 1 : Nat) : Int) = (x.pin : Int) - 1 by omega] at HE
  clear h hcc hfz hg hA hp hp1
  generalize (A ++ x :: B).length = ll at *
  go_enter Try.func31, Try.ntmps31
  go_wp2_with (first | (go_at_call 39; refine FI.mono ?_; rintro r w1 ⟨rfl, hw1⟩; obtain rfl : w = w1 := hw1.symm))
  go_ret
  exact ⟨rfl, HE.out.1, HE.out.2.mono fun k _ hk => by rw [hk]; rfl⟩
set_option maxHeartbeats 2000000 in
theorem qdrop_busy {A B : List Bf} {x : Bf} (h : QC w q ed most v (A ++ x :: B)) (hA : ∀ c ∈ A, ¬ c.b = x.b) (hp : 1 ≤ x.pin) :
    Calls Try.prog 33 #[.pointer (some ⟨q, 0, none⟩), .int .i64 (x.b : Int)] w fun e w' => e = .returned (.int .i64 32) ∧ w' = w := by
  have FI := qfind_any h (x.b : Int)
  rw [fdB_at hA, Nat.zero_add] at FI
  obtain ⟨g, ca, rfl, hca, hg, hcc, hfz⟩ := h.at
  have c1 := h.c1
  have x2 := hcc 2 _ rfl
  have hp0 : (0 : Int) < (x.pin : Int) := by omega
  have hal : (A.length : Int) < ((A ++ x :: B).length : Int) := by rw [List.length_append, List.length_cons]; omega
  have hll : ((A ++ x :: B).length : Int) ≤ 4096 := by have := h.len; omega
  clear h hcc hfz hg hA hp
  generalize (A ++ x :: B).length = ll at *
  go_enter Try.func33, Try.ntmps33
  go_wp2_with (first | (go_at_call 39; refine FI.mono ?_; rintro r w1 ⟨rfl, hw1⟩; obtain rfl : w = w1 := hw1.symm))
  go_ret
  exact ⟨rfl, rfl⟩
set_option maxHeartbeats 2000000 in
theorem qdrop_ok {A B : List Bf} {x : Bf} (h : QC w q ed most v (A ++ x :: B)) (hnd : ((A ++ x :: B).map (·.b)).Nodup) (hp : x.pin = 0) :
    Calls Try.prog 33 #[.pointer (some ⟨q, 0, none⟩), .int .i64 (x.b : Int)] w fun e w' => e = .returned (.int .i64 0) ∧ ∃ v', QC w' q ed most v' (A ++ B) ∧ Fr (fun k => k = q) w w' ∧ ∀ k, v'.ownBlock = some k → w.heap.size ≤ k := by
  have FI := qfind_any h (x.b : Int)
  rw [fdB_at (uniqB hnd).1, Nat.zero_add] at FI
  have TK := qtake_any h (x.b : Int)
  rw [(take_hit hnd).2.2] at TK
  obtain ⟨g, ca, rfl, hca, hg, hcc, hfz⟩ := h.at
  have c1 := h.c1
  have x2 := hcc 2 _ rfl
  rw [hp] at x2
  have hal : (A.length : Int) < ((A ++ x :: B).length : Int) := by rw [List.length_append, List.length_cons]; omega
  have hll : ((A ++ x :: B).length : Int) ≤ 4096 := by have := h.len; omega
  clear h hcc hfz hg hp hnd
  generalize (A ++ x :: B).length = ll at *
  go_enter Try.func33, Try.ntmps33
  go_wp2_with (first | (go_at_call 39; refine FI.mono ?_; rintro r w1 ⟨rfl, hw1⟩; obtain rfl : w = w1 := hw1.symm) | (go_at_call 61; refine Hid.out ?_))
  change Calls _ _ _ _ _
  refine TK.mono ?_
  rintro r w2 ⟨rfl, v', h1⟩
  have HE : Hid _ := h1
  clear h1 TK FI
  go_wp2_with fail
  go_ret
  exact ⟨rfl, v', HE.out⟩
end
end Go.Proofs.Ytikpnfnbmbaljaa
/- The document's cache: New, Held, Dirty. -/
namespace Go.Proofs.Ytikpnfnbmbaljaa
open Go.RowKit
set_option maxRecDepth 100000
/-- The numbers of blocks. -/
def bns (L : List Bf) : List Int := L.map fun c => (c.b : Int)
theorem bns_take {L : List Bf} {k : Nat} {c : Bf} (hc : L[k]? = some c) : bns (L.take (k + 1)) = bns (L.take k) ++ [(c.b : Int)] := by
  unfold bns
  rw [List.take_add_one, hc]
  simp
/-- Is block k there, with other bytes than the disk's? -/
def dtB (y : Nat → List UInt8) (L : List Bf) (k : Nat) : Bool := L.any fun c => (c.b == k) && !(y c.b == c.d)
def dlB (y : Nat → List UInt8) (L : List Bf) : Nat → List Int
  | 0 => []
  | k + 1 => if dtB y L k = true then dlB y L k ++ [(k : Int)] else dlB y L k
theorem dlB_len (y : Nat → List UInt8) (L : List Bf) : ∀ k, (dlB y L k).length ≤ k
  | 0 => by simp [dlB]
  | k + 1 => by
    have := dlB_len y L k
    unfold dlB
    split
    · rw [List.length_append]; simp; omega
    · omega
theorem dlB_mem (y : Nat → List UInt8) (L : List Bf) : ∀ (k : Nat) (x : Int), x ∈ dlB y L k ↔ ∃ n : Nat, x = (n : Int) ∧ n < k ∧ dtB y L n = true
  | 0, x => by simp [dlB]
  | k + 1, x => by
    have ih := dlB_mem y L k x
    unfold dlB
    cases hk : dtB y L k with
    | true =>
      rw [if_pos rfl, List.mem_append, ih]
      constructor
      · rintro (⟨n, h1, h2, h3⟩ | h1)
        · exact ⟨n, h1, by omega, h3⟩
        · exact ⟨k, List.mem_singleton.1 h1, by omega, hk⟩
      · rintro ⟨n, h1, h2, h3⟩
        by_cases e : n = k
        · exact .inr (by rw [h1, e]; simp)
        · exact .inl ⟨n, h1, by omega, h3⟩
    | false =>
      rw [if_neg (by simp), ih]
      constructor
      · rintro ⟨n, h1, h2, h3⟩
        exact ⟨n, h1, by omega, h3⟩
      · rintro ⟨n, h1, h2, h3⟩
        by_cases e : n = k
        · rw [e, hk] at h3; cases h3
        · exact ⟨n, h1, by omega, h3⟩
theorem dlB_asc (y : Nat → List UInt8) (L : List Bf) : ∀ k, (dlB y L k).Pairwise (· < ·)
  | 0 => by simp [dlB]
  | k + 1 => by
    have ih := dlB_asc y L k
    unfold dlB
    split
    · rw [List.pairwise_append]
      refine ⟨ih, by simp, fun a ha b hb => ?_⟩
      obtain ⟨n, h1, h2, _⟩ := (dlB_mem y L k a).1 ha
      rw [List.mem_singleton.1 hb]
      omega
    · exact ih
section
variable {w w' : World} {q ed most : Nat} {v : Value} {L : List Bf}
set_option maxHeartbeats 2000000 in
theorem qheld_any (h : QC w q ed most v L) :
    Calls Try.prog 13 #[.pointer (some ⟨q, 0, none⟩)] w fun e w' => ∃ v', e = .returned v' ∧ OwnI w' w.heap.size v' (bns L) ∧ Below w.heap.size w w' := by
  have HH : Hid (QC w q ed most v L) := h
  obtain ⟨ao, ca, rfl, hLA⟩ := h.own.form
  have hca : (ca : Int) ≤ 9223372036854775807 := hLA.cap.2
  have hl : (L.length : Int) ≤ 4096 := by have := h.len; omega
  have HLA : Hid (BAt w ao ca L) := hLA
  clear h hLA
  go_enter Try.func13, Try.ntmps13
  go_wp2_with fail
  go_loopg [3, 4] 4096 (fun gg t3 t4 W => ∃ (gw : World) (k : Nat) (v3 : Value), gw = W ∧ v3 = t3 ∧ k ≤ L.length ∧ L.length - k ≤ gg ∧ t4 = .int .i64 k ∧ Hid (OwnI gw w.heap.size v3 (bns (L.take k)) ∧ Below w.heap.size w gw))
  case atStart => exact ⟨_, 0, _, rfl, rfl, by omega, by omega, rfl, OwnI.nil _ _, Below.refl _ _⟩
  case round =>
    obtain ⟨gw, k, v3, rfl, rfl, hk, hgk, rfl, HG⟩ := hrel
    have c1 := (HH.out.up HG.out.2).c1
    by_cases hlt : (k : Int) < (L.length : Int)
    · obtain ⟨c, hc⟩ : ∃ c, L[k]? = some c := ⟨_, List.getElem?_eq_getElem (by omega)⟩
      obtain ⟨g, rfl, x0⟩ : ∃ g, ao = some ⟨g, 0, none⟩ ∧ gw.cell? ⟨g, k * 3, none⟩ = some (.int .i64 (c.b : Int)) := by
        rcases HLA.out.cells with e | ⟨g, e, hg, hcc⟩
        · rw [e] at hc; cases hc
        · exact ⟨g, e, (HG.out.2.cell (p := ⟨g, k * 3, none⟩) hg).trans (hcc k c hc 0 _ rfl)⟩
      have HB : Hid (bns (L.take (k + 1)) = bns (L.take k) ++ [(c.b : Int)]) := bns_take hc
      have HLN : Hid ((bns (L.take k)).length ≤ 4096) := by show _ ≤ _; unfold bns; rw [List.length_map, List.length_take]; omega
      clear hc
      go_wp2_with (first | (at_builtin; refine Hid.out ?_))
      change wpList _ _ _ _ _ _
      refine wpList_append_int rfl (.tmp 14) (.tmp 23) rfl w.heap.size (bns (L.take k)) (c.b : Int) _ rfl _ _ rfl (row_same HG.out.1 (fun j hj => Below.heap_alloc _ _ _ (HG.out.1.lt j hj).2)) (heap_alloc_new _ _) (by rw [size_alloc]; have := HG.out.2.size; omega) (by have := HLN.out; omega) ?_
      intro v4 w4 ho hb
      have HE : Hid (OwnI w4 w.heap.size v4 (bns (L.take k) ++ [(c.b : Int)]) ∧ Below w.heap.size w w4) := ⟨ho, (HG.out.2.alloc HG.out.2.size _).trans hb⟩
      clear ho hb
      go_wp2_with fail
      go_roundg (L.length - (k + 1))
      case measure => omega
      case rel => exact ⟨_, k + 1, v4, rfl, rfl, by omega, by omega, by go_num, by rw [HB.out]; exact HE.out.1, HE.out.2⟩
    · have HT : Hid (L.take k = L) := List.take_of_length_le (by omega)
      have HE : Hid (OwnI gw w.heap.size v3 (bns L) ∧ Below w.heap.size w gw) := by have := HG.out; rw [HT.out] at this; exact this
      go_wp2_with fail
      go_ret
      exact ⟨_, rfl, HE.out⟩
theorem qnew_any (w : World) (ed most : Nat) (h1 : 1 ≤ most) (h2 : most ≤ 4096) :
    Calls Try.prog 8 #[.pointer (some ⟨ed, 0, none⟩), .int .i64 (most : Int)] w fun e w' => e = .returned (.tuple #[.pointer (some ⟨w.heap.size, 0, none⟩), .int .i64 0]) ∧ QC w' w.heap.size ed most (.slice none 0 0) [] ∧ Below w.heap.size w w' := by
  have m1 : ¬ (most : Int) < 1 := by omega
  have m2 : ¬ (4096 : Int) < (most : Int) := by omega
  have HE : Hid (QC (w.alloc (.cells #[.pointer (some ⟨ed, 0, none⟩), .slice none 0 0, .int .i64 (most : Int)] 63)) w.heap.size ed most (.slice none 0 0) [] ∧ Below w.heap.size w (w.alloc (.cells #[.pointer (some ⟨ed, 0, none⟩), .slice none 0 0, .int .i64 (most : Int)] 63))) :=
    ⟨⟨heap_alloc_new _ _, World.ownsRow_nil _ _ _ _, (fun e => by cases e), by simp⟩, (Below.refl _ _).alloc (Nat.le_refl _) _⟩
  clear h1 h2
  go_enter Try.func8, Try.ntmps8
  go_wp2_with fail
  go_ret2
  exact ⟨rfl, HE.out⟩
theorem qnew_no (w : World) (ed : Nat) (most : Int) (h : most < 1 ∨ 4096 < most) :
    Calls Try.prog 8 #[.pointer (some ⟨ed, 0, none⟩), .int .i64 most] w fun e w' => e = .returned (.tuple #[.pointer none, .int .i64 1]) ∧ w' = w := by
  by_cases m1 : most < 1
  · clear h
    go_enter Try.func8, Try.ntmps8
    go_wp2_with fail
    go_ret2
    exact ⟨rfl, rfl⟩
  · have m2 : (4096 : Int) < most := by omega
    clear h
    go_enter Try.func8, Try.ntmps8
    go_wp2_with fail
    go_ret2
    exact ⟨rfl, rfl⟩
set_option maxHeartbeats 4000000 in
theorem qdirtyl_any {base n gb cb : Nat} {ver : Nat → List (List UInt8)} {va vc : Nat → Nat} {y : Nat → List UInt8} (h : QC w q ed most v L) (hd : RefW w base ed n false 0 ver gb cb va vc) (hy : ∀ i, i < n → ∃ m, (ver i).length = m + 1 ∧ (ver i)[m]? = some (y i)) (hnd : (L.map (·.b)).Nodup) :
    Calls Try.prog 15 #[.pointer (some ⟨q, 0, none⟩)] w fun e w' => ∃ v', e = .returned v' ∧ OwnI w' w.heap.size v' (dlB y L n) ∧ Below w.heap.size w w' := by
  have HH : Hid (QC w q ed most v L ∧ RefW w base ed n false 0 ver gb cb va vc ∧ (∀ i, i < n → ∃ m, (ver i).length = m + 1 ∧ (ver i)[m]? = some (y i)) ∧ (L.map (·.b)).Nodup) := ⟨h, hd, hy, hnd⟩
  obtain ⟨ao, ca, rfl, hLA⟩ := h.own.form
  have hca : (ca : Int) ≤ 9223372036854775807 := hLA.cap.2
  have hl : (L.length : Int) ≤ 4096 := by have := h.len; omega
  have hn : (n : Int) ≤ 4096 := by have := hd.at'.nn; omega
  have hcb : (cb : Int) ≤ 9223372036854775807 := hd.at'.cl.2
  have HLA : Hid (BAt w ao ca L) := hLA
  clear h hLA hd hy hnd
  go_enter Try.func15, Try.ntmps15
  go_wp2_with fail
  go_loopg [3, 4, 5] 4096 (fun gg t3 t4 _ W => ∃ (gw : World) (k : Nat) (v3 : Value), gw = W ∧ v3 = t3 ∧ k ≤ n ∧ n - k ≤ gg ∧ t4 = .int .i64 k ∧ Hid (OwnI gw w.heap.size v3 (dlB y L k) ∧ Below w.heap.size w gw))
  case atStart => exact ⟨_, 0, _, rfl, rfl, by omega, by omega, rfl, OwnI.nil _ _, Below.refl _ _⟩
  case round =>
    obtain ⟨gw, k, v3, rfl, rfl, hk, hgk, rfl, HG⟩ := hrel
    have hq := HH.out.1.up HG.out.2
    have hr := HH.out.2.1.below HG.out.2
    have c0 := hq.c0
    have c1 := hq.c1
    have e0 := hr.at'.c0
    have FI := qfind_any hq (k : Int)
    by_cases hlt : (k : Int) < (n : Int)
    · rcases splitB (fun c => decide (c.b = k)) L with hno | ⟨A, x, B, hL, _, hxb⟩
      · rw [fdB_no (fun c hc => by have := hno c hc; simp at this; omega)] at FI
        have HD : Hid (dlB y L (k + 1) = dlB y L k) := by
          show _ = _
          have : dtB y L k = false := by
            unfold dtB
            rw [List.any_eq_false]
            intro c hc
            have := hno c hc
            simp at this
            simp [this]
          rw [dlB, if_neg (by rw [this]; simp)]
        clear hno hq hr
        go_wp2_with (first | (go_at_call 39; refine FI.mono ?_; rintro r w1 ⟨rfl, hw1⟩; obtain rfl : gw = w1 := hw1.symm))
        go_roundg (n - (k + 1))
        case measure => omega
        case rel => exact ⟨_, k + 1, v3, rfl, rfl, by omega, by omega, by go_num, by rw [HD.out]; exact HG.out.1, HG.out.2⟩
      · obtain rfl : x.b = k := by simpa using hxb
        subst hL
        have hun := uniqB HH.out.2.2.2
        rw [fdB_at hun.1, Nat.zero_add] at FI
        obtain ⟨m1, hm1, hm2⟩ := HH.out.2.2.1 x.b (by omega)
        have DI := qdirty_any hq hr x (by omega) m1 (y x.b) hm1 hm2
        obtain ⟨g, ca', hv, _, hg, hcc, _⟩ := hq.at
        cases hv
        have x0 := hcc 0 _ rfl
        have x1 := hcc 1 _ rfl
        have x2 := hcc 2 _ rfl
        rw [Nat.add_zero] at x0
        have hal : (A.length : Int) < ((A ++ x :: B).length : Int) := by rw [List.length_append, List.length_cons]; omega
        obtain ⟨eqb, heq⟩ : ∃ eqb, (y x.b == x.d) = eqb := ⟨_, rfl⟩
        have HD : Hid (dtB y (A ++ x :: B) x.b = !eqb) := by
          show _ = _
          unfold dtB
          rw [List.any_append, List.any_cons]
          have eA : (A.any fun c => (c.b == x.b) && !(y c.b == c.d)) = false := by
            rw [List.any_eq_false]; intro c hc; have := hun.1 c hc; simp [this]
          have eB : (B.any fun c => (c.b == x.b) && !(y c.b == c.d)) = false := by
            rw [List.any_eq_false]; intro c hc; have := hun.2 c hc; simp [this]
          rw [eA, eB, heq]
          simp
        rw [heq] at DI
        have HXB : Hid (x.b < n) := by show _ < _; omega
        clear heq hm1 hm2 hcc hg hun hq hr hxb
        generalize (A ++ x :: B).length = ll at *
        go_wp2_with (first | (go_at_call 39; refine FI.mono ?_; rintro r w1 ⟨rfl, hw1⟩; obtain rfl : gw = w1 := hw1.symm) | (go_at_call 40; refine Hid.out ?_))
        change Calls _ _ _ _ _
        refine DI.mono ?_
        clear DI FI x0 x1 x2 c0 c1 e0
        rintro r w4 ⟨rfl, hb4⟩
        have HG4 : Hid (OwnI w4 w.heap.size v3 (dlB y (A ++ x :: B) x.b) ∧ Below w.heap.size w w4) := ⟨HG.out.1.below hb4 (Nat.le_refl _), HG.out.2.trans (hb4.mono HG.out.2.size)⟩
        clear hb4
        cases eqb with
        | true =>
          have HD2 : Hid (dlB y (A ++ x :: B) (x.b + 1) = dlB y (A ++ x :: B) x.b) := by show _ = _; rw [dlB, HD.out]; rfl
          go_wp2_with fail
          go_roundg (n - (x.b + 1))
          case measure => omega
          case rel => exact ⟨_, x.b + 1, v3, rfl, rfl, by omega, by omega, by go_num, by rw [HD2.out]; exact HG4.out.1, HG4.out.2⟩
        | false =>
          have HD2 : Hid (dlB y (A ++ x :: B) (x.b + 1) = dlB y (A ++ x :: B) x.b ++ [(x.b : Int)]) := by show _ = _; rw [dlB, HD.out]; rfl
          have HLN : Hid ((dlB y (A ++ x :: B) x.b).length ≤ 4096) := by show _ ≤ _; have := dlB_len y (A ++ x :: B) x.b; omega
          go_wp2_with (first | (at_builtin; refine Hid.out ?_))
          change wpList _ _ _ _ _ _
          refine wpList_append_int rfl (.tmp 34) (.tmp 36) rfl w.heap.size (dlB y (A ++ x :: B) x.b) (x.b : Int) _ rfl _ _ rfl (row_same HG4.out.1 (fun j hj => Below.heap_alloc _ _ _ (HG4.out.1.lt j hj).2)) (heap_alloc_new _ _) (by rw [size_alloc]; have := HG4.out.2.size; omega) (by have := HLN.out; omega) ?_
          intro v5 w5 ho hb
          have HE : Hid (OwnI w5 w.heap.size v5 (dlB y (A ++ x :: B) x.b ++ [(x.b : Int)]) ∧ Below w.heap.size w w5) := ⟨ho, (HG4.out.2.alloc HG4.out.2.size _).trans hb⟩
          clear ho hb
          go_wp2_with fail
          go_roundg (n - (x.b + 1))
          case measure => omega
          case rel => exact ⟨_, x.b + 1, v5, rfl, rfl, by omega, by omega, by go_num, by rw [HD2.out]; exact HE.out.1, HE.out.2⟩
    · obtain rfl : k = n := by omega
      clear hq hr FI
      go_wp2_with fail
      go_ret
      exact ⟨_, rfl, HG.out⟩
end
end Go.Proofs.Ytikpnfnbmbaljaa
/- The document's cache: Read, Lay, Write. -/
namespace Go.Proofs.Ytikpnfnbmbaljaa
open Go.RowKit
set_option maxRecDepth 100000
theorem AskD.last {most : Nat} {y : Nat → List UInt8} {L L' : List Bf} {n : Nat} (h : AskD most y L n L') : ∃ P x, L' = P ++ [x] ∧ x.b = n := by
  cases h with
  | hit hL hn => exact ⟨_, _, rfl, hn⟩
  | free => exact ⟨_, _, rfl, rfl⟩
  | evict => exact ⟨_, _, rfl, rfl⟩
section
variable {w w' : World} {q ed most : Nat} {v : Value} {L : List Bf}
/-- No room: what there was is as it was. -/
def FullQ (q ed most : Nat) (y : Nat → List UInt8) (L : List Bf) (n : Nat) (w w' : World) : Prop := FullD most y L n ∧ ∃ v', QC w' q ed most v' L ∧ ∀ k, v'.ownBlock = some k → w.heap.size ≤ k
structure ReadQ (q ed most : Nat) (y : Nat → List UInt8) (L : List Bf) (n : Nat) (w : World) (e : Ending) (w' : World) : Prop where
  out : (∃ P x v' g c, e = .returned (.tuple #[.slice (some ⟨g, 0, none⟩) x.d.length c, .int .i64 0]) ∧ AskD most y L n (P ++ [x]) ∧ QC w' q ed most v' (P ++ [x]) ∧ (∀ k, v'.ownBlock = some k → w.heap.size ≤ k) ∧ Src w' (some ⟨g, 0, none⟩) x.d) ∨ (e = .returned (.tuple #[.slice none 0 0, .int .i64 5]) ∧ FullQ q ed most y L n w w')
  fr : Fr (fun k => k = q) w w'
set_option maxHeartbeats 4000000 in
theorem qread_any {base n gb cb : Nat} {ver : Nat → List (List UInt8)} {va vc : Nat → Nat} {y : Nat → List UInt8} (h : QC w q ed most v L) (hd : RefW w base ed n false 0 ver gb cb va vc) (hq : ∀ k, Rk ed gb n va k → k ≠ q) (hy : ∀ i, i < n → ∃ m, (ver i).length = m + 1 ∧ (ver i)[m]? = some (y i)) (hbn : ∀ x ∈ L, x.b < n) (hnd : (L.map (·.b)).Nodup) (hl4 : L.length < 4096) (b : Nat) (hb : b < n) :
    Calls Try.prog 24 #[.pointer (some ⟨q, 0, none⟩), .int .i64 (b : Int)] w (ReadQ q ed most y L b w) := by
  have AK := qask_any h hd hq hy hbn hnd hl4 b hb
  clear h hd hq hy hbn hnd hl4 hb
  go_enter Try.func24, Try.ntmps24
  go_wp2_with (first | (go_at_call 56; refine Hid.out ?_))
  change Calls _ _ _ _ _
  refine AK.mono ?_
  clear AK
  rintro r w1 ⟨⟨L', v', rfl, hAD, hQ, hv⟩ | ⟨v', rfl, hF, hQ, hv⟩, hfr⟩
  · obtain ⟨P, x, rfl, hxb⟩ := hAD.last
    obtain ⟨g, ca, rfl, hca, hg, hcc, hfz⟩ := hQ.at
    have HQ : Hid (QC w1 q ed most (.slice (some ⟨g, 0, none⟩) (P ++ [x]).length ca) (P ++ [x]) ∧ AskD most y L b (P ++ [x]) ∧ (∀ k, (Value.slice (some ⟨g, 0, none⟩) (P ++ [x]).length ca).ownBlock = some k → w.heap.size ≤ k) ∧ Fr (fun k => k = q) w w1) := ⟨hQ, hAD, hv, hfr⟩
    have S0 : Hid (w1.drew.cell? ⟨q, 1, none⟩ = some (.slice (some ⟨g, 0, none⟩) (P.length + 1) ca) ∧ w1.drew.cell? ⟨g, P.length * 3 + 1, none⟩ = some (.string (str x.d))) := ⟨by have := hQ.c1; rw [List.length_append] at this; exact this, hcc 1 _ rfl⟩
    have hll : (P.length : Int) + 1 ≤ 4096 := by have := hQ.len; rw [List.length_append] at this; simp at this; omega
    obtain ⟨cx, w2, hcv, hsx, hbx⟩ := str_bytes w1.drew x.d
    have S2 : Hid (w2.cell? ⟨q, 1, none⟩ = some (.slice (some ⟨g, 0, none⟩) (P.length + 1) ca) ∧ w2.cell? ⟨g, P.length * 3 + 1, none⟩ = some (.string (str x.d))) := ⟨(hbx.cell (p := ⟨q, 1, none⟩) hQ.ql).trans S0.out.1, (hbx.cell (p := ⟨g, P.length * 3 + 1, none⟩) hg).trans S0.out.2⟩
    have HX : Hid (Src w2 (some ⟨w1.drew.heap.size, 0, none⟩) x.d ∧ Below w1.drew.heap.size w1.drew w2) := ⟨hsx, hbx⟩
    clear hAD hQ hv hfr hcc hfz hg hsx hbx
    have HXB : Hid (Below w1.heap.size w1.drew w2) := HX.out.2
    generalize w1.drew.heap.size = gx at *
    have HKL : Hid ((P.length : Int) < (P.length : Int) + 1) := by show _ < _; omega
    have kw : IntKind.i64.wrap (P.length : Int) = (P.length : Int) := by rw [IntKind.wrap_i64]; omega
    go_upto_region 4 with fail
    refine wp_region_held_drew (S := (fun W => W.cell? ⟨q, 1, none⟩ = some (.slice (some ⟨g, 0, none⟩) (P.length + 1) ca) ∧ W.cell? ⟨g, P.length * 3 + 1, none⟩ = some (.string (str x.d)))) (by kernel_rfl) S0.out (fun hH => ?_)
    refine takeH (i := 0) (dst := some 13) (v := ?v1) rfl rfl (by kernel_rfl) (by kernel_rfl) (by kernel_rfl) (fun _ _ _ h => h) rfl ?hy1 hH rfl ?rest1
    case hy1 => (intro W hW; (try dsimp only at hW); go_simp; try with_reducible rfl)
    (try simp only [Act.put, List.setIfInBounds_toArray, List.set_cons_zero, List.set_cons_succ])
    refine takeH (i := 1) (dst := some 14) (v := ?v2) rfl rfl (by kernel_rfl) (by kernel_rfl) (by kernel_rfl) (fun _ _ _ h => h) rfl ?hy2 hH rfl ?rest2
    case hy2 => (intro W hW; (try dsimp only at hW); go_simp; try with_reducible rfl)
    (try simp only [Act.put, List.setIfInBounds_toArray, List.set_cons_zero, List.set_cons_succ])
    refine takeH (i := 2) (dst := some 15) (v := ?v3) rfl rfl (by kernel_rfl) (by kernel_rfl) (by kernel_rfl) (fun _ _ _ h => h) rfl ?hy3 hH rfl ?rest3
    case hy3 => (intro W hW; (try dsimp only at hW); go_simp; try with_reducible rfl)
    (try simp only [Act.put, List.setIfInBounds_toArray, List.set_cons_zero, List.set_cons_succ])
    refine takeH (i := 3) (dst := some 16) (v := ?v4) rfl rfl (by kernel_rfl) (by kernel_rfl) (by kernel_rfl) (fun _ _ _ h => h) rfl ?hy4 hH rfl ?rest4
    case hy4 => (intro W hW; obtain ⟨e1, _⟩ := hW; go_simp; try with_reducible rfl)
    (try simp only [Act.put, List.setIfInBounds_toArray, List.set_cons_zero, List.set_cons_succ])
    refine takeH (i := 4) (dst := some 17) (v := ?v5) rfl rfl (by kernel_rfl) (by kernel_rfl) (by kernel_rfl) (fun _ _ _ h => h) rfl ?hy5 hH rfl ?rest5
    case hy5 => (intro W hW; (try dsimp only at hW); go_simp; try with_reducible rfl)
    (try simp only [Act.put, List.setIfInBounds_toArray, List.set_cons_zero, List.set_cons_succ])
    refine takeH (i := 5) (dst := some 18) (v := ?v6) rfl rfl (by kernel_rfl) (by kernel_rfl) (by kernel_rfl) (fun _ _ _ h => h) rfl ?hy6 hH rfl ?rest6
    case hy6 => (intro W hW; (try dsimp only at hW); go_simp; try with_reducible rfl)
    (try simp only [Act.put, List.setIfInBounds_toArray, List.set_cons_zero, List.set_cons_succ])
    refine takeH (i := 6) (dst := some 19) (v := ?v7) rfl rfl (by kernel_rfl) (by kernel_rfl) (by kernel_rfl) (fun _ _ _ h => h) rfl ?hy7 hH rfl ?rest7
    case hy7 => (intro W hW; (try dsimp only at hW); go_simp; try with_reducible rfl)
    (try simp only [Act.put, List.setIfInBounds_toArray, List.set_cons_zero, List.set_cons_succ])
    refine takeH (i := 7) (dst := some 20) (v := ?v8) rfl rfl (by kernel_rfl) (by kernel_rfl) (by kernel_rfl) (fun _ _ _ h => h) rfl ?hy8 hH rfl ?rest8
    case hy8 => (intro W hW; obtain ⟨e1, _⟩ := hW; go_simp; try with_reducible rfl)
    (try simp only [Act.put, List.setIfInBounds_toArray, List.set_cons_zero, List.set_cons_succ])
    refine takeH (i := 8) (dst := some 21) (v := ?v9) rfl rfl (by kernel_rfl) (by kernel_rfl) (by kernel_rfl) (fun _ _ _ h => h) rfl ?hy9 hH rfl ?rest9
    case hy9 => (intro W hW; (try dsimp only at hW); go_simp; try with_reducible rfl)
    (try simp only [Act.put, List.setIfInBounds_toArray, List.set_cons_zero, List.set_cons_succ])
    refine takeH (i := 9) (dst := some 22) (v := ?v10) rfl rfl (by kernel_rfl) (by kernel_rfl) (by kernel_rfl) (fun _ _ _ h => h) rfl ?hy10 hH rfl ?rest10
    case hy10 => (intro W hW; (try dsimp only at hW); go_simp; try with_reducible rfl)
    (try simp only [Act.put, List.setIfInBounds_toArray, List.set_cons_zero, List.set_cons_succ])
    refine takeH (i := 10) (dst := some 23) (v := ?v11) rfl rfl (by kernel_rfl) (by kernel_rfl) (by kernel_rfl) (fun _ _ _ h => h) rfl ?hy11 hH rfl ?rest11
    case hy11 => (intro W hW; clear hW; go_simp; exact if_pos HKL.out)
    (try simp only [Act.put, List.setIfInBounds_toArray, List.set_cons_zero, List.set_cons_succ])
    refine takeH (i := 11) (dst := some 24) (v := ?v12) rfl rfl (by kernel_rfl) (by kernel_rfl) (by kernel_rfl) (fun _ _ _ h => h) rfl ?hy12 hH rfl ?rest12
    case hy12 => (intro W hW; (try dsimp only at hW); go_simp; try with_reducible rfl)
    (try simp only [Act.put, List.setIfInBounds_toArray, List.set_cons_zero, List.set_cons_succ])
    refine takeH (i := 12) (dst := some 25) (v := ?v13) rfl rfl (by kernel_rfl) (by kernel_rfl) (by kernel_rfl) (fun _ _ _ h => h) rfl ?hy13 hH rfl ?rest13
    case hy13 => (intro W hW; obtain ⟨_, e2⟩ := hW; go_simp; try with_reducible rfl)
    (try simp only [Act.put, List.setIfInBounds_toArray, List.set_cons_zero, List.set_cons_succ])
    refine callH (i := 13) { dst := some 26, op := Go.Op.convert 9 39 (Go.Operand.tmp 25), type := 39, pos := "ref.go:97", after := #[{ on := 12, ground := Go.Ground.data }], guard := none } (by kernel_rfl) rfl rfl (fun K hK => ?_)
    go_simp
    clear hH
    refine hK.out _ _ S2.out (fun hH => ?_)
    clear hK K
    (try simp only [Act.put, List.setIfInBounds_toArray, List.set_cons_zero, List.set_cons_succ])
    refine takeH (i := 14) (dst := some 4) (v := ?v14) rfl rfl (by kernel_rfl) (by kernel_rfl) (by kernel_rfl) (fun _ _ _ h => h) rfl ?hy14 hH rfl ?rest14
    case hy14 => (intro W hW; (try dsimp only at hW); go_simp; try with_reducible rfl)
    (try simp only [Act.put, List.setIfInBounds_toArray, List.set_cons_zero, List.set_cons_succ])
    refine takeH (i := 15) (dst := some 5) (v := ?v15) rfl rfl (by kernel_rfl) (by kernel_rfl) (by kernel_rfl) (fun _ _ _ h => h) rfl ?hy15 hH rfl ?rest15
    case hy15 => (intro W hW; (try dsimp only at hW); go_simp; try with_reducible rfl)
    (try simp only [Act.put, List.setIfInBounds_toArray, List.set_cons_zero, List.set_cons_succ])
    refine wpAnyH_done (by kernel_rfl) ?_ _
    clear hH
    go_wp2_with fail
    go_ret2
    exact ⟨.inl ⟨P, x, _, gx, cx, rfl, HQ.out.2.1, HQ.out.1.up (((Below.refl w1.heap.size w1).drew).trans (HXB.out)), HQ.out.2.2.1, HX.out.1⟩, HQ.out.2.2.2.trans ((Fr.of_below (Below.refl w1.heap.size w1).drew).trans (Fr.of_below HXB.out))⟩
  · have HE : Hid (FullQ q ed most y L b w w1 ∧ Fr (fun k => k = q) w w1) := ⟨⟨hF, v', hQ, hv⟩, hfr⟩
    clear hF hQ hv hfr
    go_wp2_with fail
    go_ret2
    exact ⟨.inr ⟨rfl, HE.out.1⟩, HE.out.2⟩
set_option maxHeartbeats 2000000 in
theorem qask_out {base n gb cb : Nat} {ver : Nat → List (List UInt8)} {va vc : Nat → Nat} (h : QC w q ed most v L) (hd : RefW w base ed n false 0 ver gb cb va vc) (b : Int) (hb : b < 0 ∨ (n : Int) ≤ b) :
    Calls Try.prog 56 #[.pointer (some ⟨q, 0, none⟩), .int .i64 b] w fun e w' => e = .returned (.int .i64 3) ∧ w' = w := by
  have RD := rread_out hd.at' b hb
  have c0 := h.c0
  clear h hd hb
  go_enter Try.func56, Try.ntmps56
  go_wp2_with (first | (go_at_call 57; refine RD.mono ?_; rintro r w1 ⟨rfl, hw1⟩; obtain rfl : w = w1 := hw1.symm))
  go_ret
  exact ⟨rfl, rfl⟩
set_option maxHeartbeats 2000000 in
theorem qread_out {base n gb cb : Nat} {ver : Nat → List (List UInt8)} {va vc : Nat → Nat} (h : QC w q ed most v L) (hd : RefW w base ed n false 0 ver gb cb va vc) (b : Int) (hb : b < 0 ∨ (n : Int) ≤ b) :
    Calls Try.prog 24 #[.pointer (some ⟨q, 0, none⟩), .int .i64 b] w fun e w' => e = .returned (.tuple #[.slice none 0 0, .int .i64 3]) ∧ w' = w := by
  have AK := qask_out h hd b hb
  clear h hd hb
  go_enter Try.func24, Try.ntmps24
  go_wp2_with (first | (go_at_call 56; refine AK.mono ?_; rintro r w1 ⟨rfl, hw1⟩; obtain rfl : w = w1 := hw1.symm))
  go_ret2
  exact ⟨rfl, rfl⟩
set_option maxHeartbeats 2000000 in
theorem qlay_out {base n gb cb : Nat} {ver : Nat → List (List UInt8)} {va vc : Nat → Nat} (h : QC w q ed most v L) (hd : RefW w base ed n false 0 ver gb cb va vc) (b : Int) (hb : b < 0 ∨ (n : Int) ≤ b) (sp : Option Addr) (len cap : Nat) :
    Calls Try.prog 26 #[.pointer (some ⟨q, 0, none⟩), .int .i64 b, .slice sp len cap] w fun e w' => e = .returned (.int .i64 3) ∧ w' = w := by
  have RD := rread_out hd.at' b hb
  have c0 := h.c0
  clear h hd hb
  go_enter Try.func26, Try.ntmps26
  go_wp2_with (first | (go_at_call 57; refine RD.mono ?_; rintro r w1 ⟨rfl, hw1⟩; obtain rfl : w = w1 := hw1.symm))
  go_ret
  exact ⟨rfl, rfl⟩
set_option maxHeartbeats 2000000 in
theorem qwrite_out {base n gb cb : Nat} {ver : Nat → List (List UInt8)} {va vc : Nat → Nat} (h : QC w q ed most v L) (hd : RefW w base ed n false 0 ver gb cb va vc) (b : Int) (hb : b < 0 ∨ (n : Int) ≤ b) (sp : Option Addr) (len cap : Nat) :
    Calls Try.prog 27 #[.pointer (some ⟨q, 0, none⟩), .int .i64 b, .slice sp len cap] w fun e w' => e = .returned (.int .i64 3) ∧ w' = w := by
  have RD := rread_out hd.at' b hb
  have c0 := h.c0
  clear h hd hb
  go_enter Try.func27, Try.ntmps27
  go_wp2_with (first | (go_at_call 57; refine RD.mono ?_; rintro r w1 ⟨rfl, hw1⟩; obtain rfl : w = w1 := hw1.symm))
  go_ret
  exact ⟨rfl, rfl⟩
set_option maxHeartbeats 2000000 in
theorem qlay_size {base n gb cb : Nat} {ver : Nat → List (List UInt8)} {va vc : Nat → Nat} {y : Nat → List UInt8} (h : QC w q ed most v L) (hd : RefW w base ed n false 0 ver gb cb va vc) (hy : ∀ i, i < n → ∃ m, (ver i).length = m + 1 ∧ (ver i)[m]? = some (y i)) (b : Nat) (hb : b < n) (sp : Option Addr) (len cap : Nat) (hlen : ¬ len = 256) :
    Calls Try.prog 26 #[.pointer (some ⟨q, 0, none⟩), .int .i64 (b : Int), .slice sp len cap] w fun e w' => e = .returned (.int .i64 4) ∧ Below w.heap.size w w' := by
  obtain ⟨m0, hm0, hm2⟩ := hy b hb
  have RD := rread_new hd.at' b hb m0 (y b) hm0 hm2
  have c0 := h.c0
  have hlb : ((len : Int) == 256) = false := by simp; omega
  clear h hd hy hb hm0 hm2 hlen
  go_enter Try.func26, Try.ntmps26
  go_wp2_with (first | (go_at_call 57; refine Hid.out ?_))
  change Calls _ _ _ _ _
  refine RD.mono ?_
  clear RD c0
  rintro r w1 ⟨gd, cd, rfl, _, hb1, _⟩
  have HE : Hid (Below w.heap.size w w1) := hb1
  clear hb1
  go_wp2_with fail
  go_ret
  exact ⟨rfl, HE.out⟩
set_option maxHeartbeats 2000000 in
theorem qwrite_size {base n gb cb : Nat} {ver : Nat → List (List UInt8)} {va vc : Nat → Nat} {y : Nat → List UInt8} (h : QC w q ed most v L) (hd : RefW w base ed n false 0 ver gb cb va vc) (hy : ∀ i, i < n → ∃ m, (ver i).length = m + 1 ∧ (ver i)[m]? = some (y i)) (b : Nat) (hb : b < n) (sp : Option Addr) (len cap : Nat) (hlen : ¬ len = 256) (hlen0 : ¬ len = 0) :
    Calls Try.prog 27 #[.pointer (some ⟨q, 0, none⟩), .int .i64 (b : Int), .slice sp len cap] w fun e w' => e = .returned (.int .i64 4) ∧ Below w.heap.size w w' := by
  obtain ⟨m0, hm0, hm2⟩ := hy b hb
  have RD := rread_new hd.at' b hb m0 (y b) hm0 hm2
  have c0 := h.c0
  have hlb : ((len : Int) == 256) = false := by simp; omega
  have hlc : ((len : Int) == 0) = false := by simp; omega
  have hle : ¬ (len : Int) = 256 := by omega
  have hlf : ((len : Int) != 256) = true := by simp; omega
  have hlg : ((len : Int) != 0) = true := by simp; omega
  clear h hd hy hb hm0 hm2 hlen hlen0
  go_enter Try.func27, Try.ntmps27
  go_wp2_with (first | (go_at_call 57; refine Hid.out ?_))
  change Calls _ _ _ _ _
  refine RD.mono ?_
  clear RD c0
  rintro r w1 ⟨gd, cd, rfl, _, hb1, _⟩
  have HE : Hid (Below w.heap.size w w1) := hb1
  clear hb1
  go_wp2_with fail
  go_ret
  exact ⟨rfl, HE.out⟩
end
end Go.Proofs.Ytikpnfnbmbaljaa
/- The document's cache: Lay, Write. -/
namespace Go.Proofs.Ytikpnfnbmbaljaa
open Go.RowKit
set_option maxRecDepth 100000
theorem src_any {w w' : World} {sp : Option Addr} {l : List UInt8} {S : Nat → Prop} (h : Src w sp l) (hf : Fr S w w') (hS : ∀ b o, sp = some ⟨b, o, none⟩ → ¬ S b) : Src w' sp l := by
  rcases h with h | ⟨b, o, e, hl, hc⟩
  · exact .inl h
  · exact .inr ⟨b, o, e, by have := hf.size; omega, fun j hj => (fr_cell hf (a := ⟨b, o + j, none⟩) hl (hS b o e)).trans (hc j hj)⟩
theorem AskD.len {most : Nat} {y : Nat → List UInt8} {L L' : List Bf} {n : Nat} (h : AskD most y L n L') (hL : ∀ x ∈ L, x.d.length = 256) (hy : (y n).length = 256) : ∀ x ∈ L', x.d.length = 256 := by
  cases h with
  | hit e hn =>
    subst e
    intro x hx
    refine hL x ?_
    simp at hx ⊢
    rcases hx with hx | hx | hx
    · exact .inl hx
    · exact .inr (.inr hx)
    · exact .inr (.inl hx)
  | free hne hl =>
    intro x hx
    rcases List.mem_append.1 hx with hx | hx
    · exact hL x hx
    · rw [List.mem_singleton.1 hx]; exact hy
  | evict hne hl e hA he =>
    subst e
    intro x hx
    rcases List.mem_append.1 hx with hx | hx
    · refine hL x ?_
      simp at hx ⊢
      rcases hx with hx | hx
      · exact .inl hx
      · exact .inr (.inr hx)
    · rw [List.mem_singleton.1 hx]; exact hy
section
variable {w w' : World} {q ed most : Nat} {v : Value} {L : List Bf}
structure LayQ (q ed most : Nat) (y : Nat → List UInt8) (L : List Bf) (n : Nat) (data : List UInt8) (w : World) (e : Ending) (w' : World) : Prop where
  out : (∃ P x v', e = .returned (.int .i64 0) ∧ AskD most y L n (P ++ [x]) ∧ QC w' q ed most v' (P ++ [⟨x.b, data, x.pin⟩]) ∧ (∀ k, v'.ownBlock = some k → w.heap.size ≤ k)) ∨ (e = .returned (.int .i64 5) ∧ FullQ q ed most y L n w w')
  fr : Fr (fun k => k = q) w w'
set_option maxHeartbeats 8000000 in
theorem qlay_any {base n gb cb : Nat} {ver : Nat → List (List UInt8)} {va vc : Nat → Nat} {y : Nat → List UInt8} (h : QC w q ed most v L) (hd : RefW w base ed n false 0 ver gb cb va vc) (hq : ∀ k, Rk ed gb n va k → k ≠ q) (hy : ∀ i, i < n → ∃ m, (ver i).length = m + 1 ∧ (ver i)[m]? = some (y i)) (hbn : ∀ x ∈ L, x.b < n) (hnd : (L.map (·.b)).Nodup) (hl4 : L.length < 4096) (b : Nat) (hb : b < n) (data : List UInt8) (sp : Option Addr) (cap : Nat) (hs : Src w sp data) (hdl : data.length = 256) (hsq : ∀ b o, sp = some ⟨b, o, none⟩ → b ≠ q ∧ b < w.heap.size) :
    Calls Try.prog 26 #[.pointer (some ⟨q, 0, none⟩), .int .i64 (b : Int), .slice sp 256 cap] w (LayQ q ed most y L b data w) := by
  obtain ⟨m0, hm0, hm2⟩ := hy b hb
  have RD := rread_new hd.at' b hb m0 (y b) hm0 hm2
  have c0 := h.c0
  have HH : Hid (QC w q ed most v L ∧ RefW w base ed n false 0 ver gb cb va vc ∧ (∀ k, Rk ed gb n va k → k ≠ q) ∧ q < w.heap.size) := ⟨h, hd, hq, h.ql⟩
  have AKF := fun w1 (hb1 : Below w.heap.size w w1) => qask_any (h.up hb1) (hd.below hb1) hq hy hbn hnd hl4 b hb
  have HS : Hid (Src w sp data ∧ data.length = 256 ∧ ∀ b o, sp = some ⟨b, o, none⟩ → b ≠ q ∧ b < w.heap.size) := ⟨hs, hdl, hsq⟩
  clear h hd hq hy hbn hnd hl4 hb hm0 hm2 hs hdl hsq
  go_enter Try.func26, Try.ntmps26
  go_wp2_with (first | (go_at_call 57; refine Hid.out ?_))
  change Calls _ _ _ _ _
  refine RD.mono ?_
  clear RD c0
  rintro r w1 ⟨gd, cd, rfl, _, hb1, _⟩
  have AK := AKF w1 hb1
  have HB1 : Hid (Below w.heap.size w w1) := hb1
  clear hb1 AKF
  go_wp2_with (first | (go_at_call 56; refine Hid.out ?_))
  change Calls _ _ _ _ _
  refine AK.mono ?_
  clear AK
  rintro r w2 ⟨⟨L', v', rfl, hAD, hQ, hv⟩ | ⟨v', rfl, hF, hQ, hv⟩, hfr⟩
  · obtain ⟨P, x, rfl, hxb⟩ := hAD.last
    obtain ⟨g, ca, rfl, hca, hg, hcc, hfz⟩ := hQ.at
    have hgn : w1.heap.size ≤ g := hv g rfl
    have HQ : Hid (QC w2 q ed most (.slice (some ⟨g, 0, none⟩) (P ++ [x]).length ca) (P ++ [x]) ∧ AskD most y L b (P ++ [x]) ∧ w1.heap.size ≤ g ∧ Fr (fun k => k = q) w1 w2 ∧ Src w2 sp data) := ⟨hQ, hAD, hgn, hfr, src_any (HS.out.1.below HB1.out (Nat.le_refl _)) hfr (fun b o e => (HS.out.2.2 b o e).1)⟩
    have hE := (hQ.up (Below.refl w2.heap.size w2).drew).set (x' := ⟨x.b, data, x.pin⟩) (j := 1) (u := .string (str data)) (by omega) rfl
    have HE : Hid (QC (w2.drew.setCell ⟨g, P.length * 3 + 1, none⟩ (.string (str data))) q ed most (.slice (some ⟨g, 0, none⟩) (P ++ [x]).length ca) (P ++ [⟨x.b, data, x.pin⟩]) ∧ Fr (fun k => k = g) w2.drew (w2.drew.setCell ⟨g, P.length * 3 + 1, none⟩ (.string (str data)))) := hE
    have hsd : Src w2.drew sp data := HQ.out.2.2.2.2.below (Below.refl w2.heap.size w2).drew (Nat.le_refl _)
    have S0 : Hid (w2.drew.cell? ⟨q, 1, none⟩ = some (.slice (some ⟨g, 0, none⟩) (P.length + 1) ca) ∧ Sem.run Try.prog (convert 39 9 (.slice sp 256 cap)) w2.drew = .ok (.string (str data)) w2.drew) := ⟨by have := hQ.c1; rw [List.length_append] at this; exact this, conv_str hsd 256 cap HS.out.2.1.symm⟩
    have S2 : Hid ((w2.drew.setCell ⟨g, P.length * 3 + 1, none⟩ (.string (str data))).cell? ⟨q, 1, none⟩ = some (.slice (some ⟨g, 0, none⟩) (P.length + 1) ca) ∧ Sem.run Try.prog (convert 39 9 (.slice sp 256 cap)) (w2.drew.setCell ⟨g, P.length * 3 + 1, none⟩ (.string (str data))) = .ok (.string (str data)) (w2.drew.setCell ⟨g, P.length * 3 + 1, none⟩ (.string (str data)))) := ⟨by have := HE.out.1.c1; rw [List.length_append] at this; exact this, conv_str (src_any hsd HE.out.2 (fun b o e => by have := (HS.out.2.2 b o e).2; have := HB1.out.size; omega)) 256 cap HS.out.2.1.symm⟩
    have x1 : w2.drew.cell? ⟨g, P.length * 3 + 1, none⟩ = some (.string (str x.d)) := hcc 1 _ rfl
    have f1 : w2.drew.frozen? ⟨g, P.length * 3 + 1, none⟩ = false := hfz _
    have hll : (P.length : Int) + 1 ≤ 4096 := by have := hQ.len; rw [List.length_append] at this; simp at this; omega
    have HKL : Hid ((P.length : Int) < (P.length : Int) + 1) := by show _ < _; omega
    have kw : IntKind.i64.wrap (P.length : Int) = (P.length : Int) := by rw [IntKind.wrap_i64]; omega
    clear hAD hQ hv hfr hcc hfz hg hgn hE hsd
    go_upto_region 8 with fail
    refine wp_region_held_drew (S := (fun W => W.cell? ⟨q, 1, none⟩ = some (.slice (some ⟨g, 0, none⟩) (P.length + 1) ca) ∧ Sem.run Try.prog (convert 39 9 (.slice sp 256 cap)) W = .ok (.string (str data)) W)) (by kernel_rfl) S0.out (fun hH => ?_)
    refine takeH (i := 0) (dst := some 29) (v := ?v1) rfl rfl (by kernel_rfl) (by kernel_rfl) (by kernel_rfl) (fun _ _ _ h => h) rfl ?hy1 hH rfl ?rest1
    case hy1 => (intro W hW; (try dsimp only at hW); go_simp; try with_reducible rfl)
    (try simp only [Act.put, List.setIfInBounds_toArray, List.set_cons_zero, List.set_cons_succ])
    refine takeH (i := 1) (dst := some 30) (v := ?v2) rfl rfl (by kernel_rfl) (by kernel_rfl) (by kernel_rfl) (fun _ _ _ h => h) rfl ?hy2 hH rfl ?rest2
    case hy2 => (intro W hW; (try dsimp only at hW); go_simp; try with_reducible rfl)
    (try simp only [Act.put, List.setIfInBounds_toArray, List.set_cons_zero, List.set_cons_succ])
    refine takeH (i := 2) (dst := some 31) (v := ?v3) rfl rfl (by kernel_rfl) (by kernel_rfl) (by kernel_rfl) (fun _ _ _ h => h) rfl ?hy3 hH rfl ?rest3
    case hy3 => (intro W hW; (try dsimp only at hW); go_simp; try with_reducible rfl)
    (try simp only [Act.put, List.setIfInBounds_toArray, List.set_cons_zero, List.set_cons_succ])
    refine takeH (i := 3) (dst := some 32) (v := ?v4) rfl rfl (by kernel_rfl) (by kernel_rfl) (by kernel_rfl) (fun _ _ _ h => h) rfl ?hy4 hH rfl ?rest4
    case hy4 => (intro W hW; obtain ⟨e1, _⟩ := hW; go_simp; try with_reducible rfl)
    (try simp only [Act.put, List.setIfInBounds_toArray, List.set_cons_zero, List.set_cons_succ])
    refine takeH (i := 4) (dst := some 33) (v := ?v5) rfl rfl (by kernel_rfl) (by kernel_rfl) (by kernel_rfl) (fun _ _ _ h => h) rfl ?hy5 hH rfl ?rest5
    case hy5 => (intro W hW; (try dsimp only at hW); go_simp; try with_reducible rfl)
    (try simp only [Act.put, List.setIfInBounds_toArray, List.set_cons_zero, List.set_cons_succ])
    refine takeH (i := 5) (dst := some 34) (v := ?v6) rfl rfl (by kernel_rfl) (by kernel_rfl) (by kernel_rfl) (fun _ _ _ h => h) rfl ?hy6 hH rfl ?rest6
    case hy6 => (intro W hW; (try dsimp only at hW); go_simp; try with_reducible rfl)
    (try simp only [Act.put, List.setIfInBounds_toArray, List.set_cons_zero, List.set_cons_succ])
    refine takeH (i := 6) (dst := some 35) (v := ?v7) rfl rfl (by kernel_rfl) (by kernel_rfl) (by kernel_rfl) (fun _ _ _ h => h) rfl ?hy7 hH rfl ?rest7
    case hy7 => (intro W hW; (try dsimp only at hW); go_simp; try with_reducible rfl)
    (try simp only [Act.put, List.setIfInBounds_toArray, List.set_cons_zero, List.set_cons_succ])
    refine takeH (i := 7) (dst := some 36) (v := ?v8) rfl rfl (by kernel_rfl) (by kernel_rfl) (by kernel_rfl) (fun _ _ _ h => h) rfl ?hy8 hH rfl ?rest8
    case hy8 => (intro W hW; obtain ⟨e1, _⟩ := hW; go_simp; try with_reducible rfl)
    (try simp only [Act.put, List.setIfInBounds_toArray, List.set_cons_zero, List.set_cons_succ])
    refine takeH (i := 8) (dst := some 37) (v := ?v9) rfl rfl (by kernel_rfl) (by kernel_rfl) (by kernel_rfl) (fun _ _ _ h => h) rfl ?hy9 hH rfl ?rest9
    case hy9 => (intro W hW; (try dsimp only at hW); go_simp; try with_reducible rfl)
    (try simp only [Act.put, List.setIfInBounds_toArray, List.set_cons_zero, List.set_cons_succ])
    refine takeH (i := 9) (dst := some 38) (v := ?v10) rfl rfl (by kernel_rfl) (by kernel_rfl) (by kernel_rfl) (fun _ _ _ h => h) rfl ?hy10 hH rfl ?rest10
    case hy10 => (intro W hW; (try dsimp only at hW); go_simp; try with_reducible rfl)
    (try simp only [Act.put, List.setIfInBounds_toArray, List.set_cons_zero, List.set_cons_succ])
    refine takeH (i := 10) (dst := some 39) (v := ?v11) rfl rfl (by kernel_rfl) (by kernel_rfl) (by kernel_rfl) (fun _ _ _ h => h) rfl ?hy11 hH rfl ?rest11
    case hy11 => (intro W hW; (try dsimp only at hW); go_simp; try with_reducible rfl)
    (try simp only [Act.put, List.setIfInBounds_toArray, List.set_cons_zero, List.set_cons_succ])
    refine takeH (i := 11) (dst := some 40) (v := ?v12) rfl rfl (by kernel_rfl) (by kernel_rfl) (by kernel_rfl) (fun _ _ _ h => h) rfl ?hy12 hH rfl ?rest12
    case hy12 => (intro W hW; obtain ⟨_, e2⟩ := hW; go_simp; try with_reducible rfl)
    (try simp only [Act.put, List.setIfInBounds_toArray, List.set_cons_zero, List.set_cons_succ])
    refine takeH (i := 12) (dst := some 41) (v := ?v13) rfl rfl (by kernel_rfl) (by kernel_rfl) (by kernel_rfl) (fun _ _ _ h => h) rfl ?hy13 hH rfl ?rest13
    case hy13 => (intro W hW; clear hW; go_simp; exact if_pos HKL.out)
    (try simp only [Act.put, List.setIfInBounds_toArray, List.set_cons_zero, List.set_cons_succ])
    refine takeH (i := 13) (dst := some 42) (v := ?v14) rfl rfl (by kernel_rfl) (by kernel_rfl) (by kernel_rfl) (fun _ _ _ h => h) rfl ?hy14 hH rfl ?rest14
    case hy14 => (intro W hW; (try dsimp only at hW); go_simp; try with_reducible rfl)
    (try simp only [Act.put, List.setIfInBounds_toArray, List.set_cons_zero, List.set_cons_succ])
    refine callH (i := 14) { dst := none, op := Go.Op.store 9 (Go.Operand.tmp 42) (Go.Operand.tmp 40), type := 0, pos := "ref.go:111", after := #[{ on := 13, ground := Go.Ground.data }, { on := 11, ground := Go.Ground.data }, { on := 0, ground := Go.Ground.phase }, { on := 1, ground := Go.Ground.phase }, { on := 2, ground := Go.Ground.phase }, { on := 3, ground := Go.Ground.phase }, { on := 4, ground := Go.Ground.phase }, { on := 5, ground := Go.Ground.phase }, { on := 6, ground := Go.Ground.phase }, { on := 7, ground := Go.Ground.phase }, { on := 8, ground := Go.Ground.phase }, { on := 9, ground := Go.Ground.phase }, { on := 10, ground := Go.Ground.phase }, { on := 11, ground := Go.Ground.phase }], guard := none } (by kernel_rfl) rfl rfl (fun K hK => ?_)
    go_simp
    clear hH
    refine hK.out _ _ S2.out (fun hH => ?_)
    clear hK K
    (try simp only [Act.put])
    refine wpAnyH_done (by kernel_rfl) ?_ _
    clear hH
    go_wp2_with fail
    go_ret
    have hz := HB1.out.size
    refine ⟨.inl ⟨P, x, _, rfl, HQ.out.2.1, HE.out.1, fun k hk => by cases hk; have := HQ.out.2.2.1; show w.heap.size ≤ g; omega⟩, ?_⟩
    exact fr_step (D' := fun k => k = g) (fr_step (D' := fun k => k = q) (Fr.of_below HB1.out) (fun k hk => .inl hk) (HQ.out.2.2.2.1.trans (Fr.of_below (Below.refl w2.heap.size w2).drew))) (fun k hk => .inr (by have := HQ.out.2.2.1; omega)) HE.out.2
  · have HE : Hid (FullQ q ed most y L b w w2 ∧ Fr (fun k => k = q) w w2) := ⟨⟨hF, v', hQ, fun k hk => by have := hv k hk; have := HB1.out.size; omega⟩, fr_step (D' := fun k => k = q) (Fr.of_below HB1.out) (fun k hk => .inl hk) hfr⟩
    clear hF hQ hv hfr
    go_wp2_with fail
    go_ret
    exact ⟨.inr ⟨rfl, HE.out.1⟩, HE.out.2⟩
/-- What Write leaves. -/
structure WriteQ (q ed most : Nat) (y : Nat → List UInt8) (L : List Bf) (b : Nat) (im : Bf → List UInt8) (base n gb cb : Nat) (ver : Nat → List (List UInt8)) (va vc : Nat → Nat) (w : World) (e : Ending) (w' : World) : Prop where
  out : (∃ P x v' g c, e = .returned (.int .i64 0) ∧ AskD most y L b (P ++ [x]) ∧ QC w' q ed most v' (P ++ [x]) ∧ (∀ k, v'.ownBlock = some k → w.heap.size ≤ k) ∧ RefW w' base ed n false 0 (upd ver b (ver b ++ [im x])) gb cb (updN va b g) (updN vc b c) ∧ w.heap.size ≤ g ∧ ∀ k, v'.ownBlock = some k → k < g) ∨ (e = .returned (.int .i64 5) ∧ FullQ q ed most y L b w w' ∧ Fr (fun k => k = q) w w')
  fr : Fr (fun k => k = q ∨ k = ed ∨ k = gb) w w'
set_option maxHeartbeats 8000000 in
theorem qwrite_img {base n gb cb : Nat} {ver : Nat → List (List UInt8)} {va vc : Nat → Nat} {y : Nat → List UInt8} (h : QC w q ed most v L) (hd : RefW w base ed n false 0 ver gb cb va vc) (hq : ∀ k, Rk ed gb n va k → k ≠ q) (hy : ∀ i, i < n → ∃ m, (ver i).length = m + 1 ∧ (ver i)[m]? = some (y i)) (hbn : ∀ x ∈ L, x.b < n) (hnd : (L.map (·.b)).Nodup) (hl4 : L.length < 4096) (hwn : ∀ i, i < n → (ver i).length < 1000000) (b : Nat) (hb : b < n) (data : List UInt8) (sp : Option Addr) (cap : Nat) (hs : Src w sp data) (hdl : data.length = 256) (hsq : ∀ b o, sp = some ⟨b, o, none⟩ → b ≠ q ∧ b ≠ ed ∧ b ≠ gb ∧ b < w.heap.size) :
    Calls Try.prog 27 #[.pointer (some ⟨q, 0, none⟩), .int .i64 (b : Int), .slice sp 256 cap] w (WriteQ q ed most y L b (fun _ => data) base n gb cb ver va vc w) := by
  obtain ⟨m0, hm0, hm2⟩ := hy b hb
  have RD := rread_new hd.at' b hb m0 (y b) hm0 hm2
  have c0 := h.c0
  have HH : Hid (QC w q ed most v L ∧ RefW w base ed n false 0 ver gb cb va vc ∧ (∀ k, Rk ed gb n va k → k ≠ q) ∧ q < w.heap.size) := ⟨h, hd, hq, h.ql⟩
  have AKF := fun w1 (hb1 : Below w.heap.size w w1) => qask_any (h.up hb1) (hd.below hb1) hq hy hbn hnd hl4 b hb
  have HS : Hid (Src w sp data ∧ data.length = 256 ∧ (∀ b o, sp = some ⟨b, o, none⟩ → b ≠ q ∧ b ≠ ed ∧ b ≠ gb ∧ b < w.heap.size) ∧ b < n ∧ (ver b).length < 1000000 ∧ ed < w.heap.size ∧ gb < w.heap.size) := ⟨hs, hdl, hsq, hb, hwn b hb, hd.rl, hd.at'.gl⟩
  clear h hd hq hy hbn hnd hl4 hb hm0 hm2 hs hdl hsq hwn
  go_enter Try.func27, Try.ntmps27
  go_wp2_with (first | (go_at_call 57; refine Hid.out ?_))
  change Calls _ _ _ _ _
  refine RD.mono ?_
  clear RD c0
  rintro r w1 ⟨gd, cd, rfl, _, hb1, _⟩
  have AK := AKF w1 hb1
  have HB1 : Hid (Below w.heap.size w w1) := hb1
  clear hb1 AKF
  go_wp2_with (first | (go_at_call 56; refine Hid.out ?_))
  change Calls _ _ _ _ _
  refine AK.mono ?_
  clear AK
  rintro r w2 ⟨⟨L', v', rfl, hAD, hQ, hv⟩ | ⟨v', rfl, hF, hQ, hv⟩, hfr⟩
  · obtain ⟨P, x, rfl, hxb⟩ := hAD.last
    have hF2 : Fr (fun k => k = q) w w2 := fr_step (D' := fun k => k = q) (Fr.of_below HB1.out) (fun k hk => .inl hk) hfr
    have hR2 : RefW w2 base ed n false 0 ver gb cb va vc := HH.out.2.1.keep hF2 (fun k hk e => HH.out.2.2.1 k hk e)
    have WR := rwrite_go hR2 ⟨by omega, by omega⟩ rfl b HS.out.2.2.2.1 HS.out.2.2.2.2.1 data HS.out.2.1 sp cap (src_any (HS.out.1.below HB1.out (Nat.le_refl _)) hfr (fun b o e => (HS.out.2.2.1 b o e).1)) (fun b o e => ⟨(HS.out.2.2.1 b o e).2.1, (HS.out.2.2.1 b o e).2.2.1⟩)
    have c0 := hQ.c0
    have HQ : Hid (QC w2 q ed most v' (P ++ [x]) ∧ AskD most y L b (P ++ [x]) ∧ (∀ k, v'.ownBlock = some k → w1.heap.size ≤ k) ∧ Fr (fun k => k = q) w w2) := ⟨hQ, hAD, hv, hF2⟩
    clear hAD hQ hv hfr hF2 hR2
    go_wp2_with (first | (go_at_call 58; refine Hid.out ?_))
    change Calls _ _ _ _ _
    refine WR.mono ?_
    clear WR c0
    rintro r w3 ⟨rfl, ⟨g3, ⟨c3, hR3⟩, hg3⟩, hf3⟩
    have HE : Hid (QC w3 q ed most v' (P ++ [x]) ∧ RefW w3 base ed n false 0 (upd ver b (ver b ++ [data])) gb cb (updN va b g3) (updN vc b c3) ∧ w.heap.size ≤ g3 ∧ Fr (fun k => k = q ∨ k = ed ∨ k = gb) w w3 ∧ ∀ k, v'.ownBlock = some k → w.heap.size ≤ k ∧ k < g3) := by
      have hz1 := HB1.out.size
      have hz2 := HQ.out.2.2.2.size
      refine ⟨HQ.out.1.keep hf3 (fun e => ?_) (fun k hk e => ?_), hR3, by omega, (HQ.out.2.2.2.mono (T := fun k => k = q ∨ k = ed ∨ k = gb) (fun k _ hk => .inl hk)).trans (hf3.mono (fun k _ hk => .inr hk)), fun k hk => by have := HQ.out.2.2.1 k hk; have := HQ.out.1.own.lt k hk; omega⟩
      · rcases e with e | e
        · exact HH.out.2.2.1 ed (.inl rfl) e.symm
        · exact HH.out.2.2.1 gb (.inr (.inl rfl)) e.symm
      · have h1 := HQ.out.2.2.1 k hk
        rcases e with e | e
        · have := HS.out.2.2.2.2.2.1; omega
        · have := HS.out.2.2.2.2.2.2; omega
    clear hR3 hg3 hf3
    go_wp2_with fail
    go_ret
    exact ⟨.inl ⟨P, x, v', g3, c3, rfl, HQ.out.2.1, HE.out.1, fun k hk => (HE.out.2.2.2.2 k hk).1, HE.out.2.1, HE.out.2.2.1, fun k hk => (HE.out.2.2.2.2 k hk).2⟩, HE.out.2.2.2.1⟩
  · have HE : Hid (FullQ q ed most y L b w w2 ∧ Fr (fun k => k = q) w w2) := ⟨⟨hF, v', hQ, fun k hk => by have := hv k hk; have := HB1.out.size; omega⟩, fr_step (D' := fun k => k = q) (Fr.of_below HB1.out) (fun k hk => .inl hk) hfr⟩
    clear hF hQ hv hfr
    go_wp2_with fail
    go_ret
    exact ⟨.inr ⟨rfl, HE.out.1, HE.out.2⟩, HE.out.2.mono fun k _ hk => .inl hk⟩
set_option maxHeartbeats 8000000 in
theorem qwrite_own {base n gb cb : Nat} {ver : Nat → List (List UInt8)} {va vc : Nat → Nat} {y : Nat → List UInt8} (h : QC w q ed most v L) (hd : RefW w base ed n false 0 ver gb cb va vc) (hq : ∀ k, Rk ed gb n va k → k ≠ q) (hy : ∀ i, i < n → ∃ m, (ver i).length = m + 1 ∧ (ver i)[m]? = some (y i)) (hbn : ∀ x ∈ L, x.b < n) (hnd : (L.map (·.b)).Nodup) (hl4 : L.length < 4096) (hwn : ∀ i, i < n → (ver i).length < 1000000) (h256 : ∀ x ∈ L, x.d.length = 256) (hyl : ∀ i, i < n → (y i).length = 256) (b : Nat) (hb : b < n) (sp : Option Addr) (cap : Nat) :
    Calls Try.prog 27 #[.pointer (some ⟨q, 0, none⟩), .int .i64 (b : Int), .slice sp 0 cap] w (WriteQ q ed most y L b (fun x => x.d) base n gb cb ver va vc w) := by
  obtain ⟨m0, hm0, hm2⟩ := hy b hb
  have RD := rread_new hd.at' b hb m0 (y b) hm0 hm2
  have c0 := h.c0
  have HH : Hid (QC w q ed most v L ∧ RefW w base ed n false 0 ver gb cb va vc ∧ (∀ k, Rk ed gb n va k → k ≠ q) ∧ q < w.heap.size) := ⟨h, hd, hq, h.ql⟩
  have AKF := fun w1 (hb1 : Below w.heap.size w w1) => qask_any (h.up hb1) (hd.below hb1) hq hy hbn hnd hl4 b hb
  have HS : Hid ((∀ x ∈ L, x.d.length = 256) ∧ (y b).length = 256 ∧ b < n ∧ (ver b).length < 1000000 ∧ ed < w.heap.size ∧ gb < w.heap.size) := ⟨h256, hyl b hb, hb, hwn b hb, hd.rl, hd.at'.gl⟩
  clear h hd hq hy hbn hnd hl4 hb hm0 hm2 hwn h256 hyl
  go_enter Try.func27, Try.ntmps27
  go_wp2_with (first | (go_at_call 57; refine Hid.out ?_))
  change Calls _ _ _ _ _
  refine RD.mono ?_
  clear RD c0
  rintro r w1 ⟨gd, cd, rfl, _, hb1, _⟩
  have AK := AKF w1 hb1
  have HB1 : Hid (Below w.heap.size w w1) := hb1
  clear hb1 AKF
  go_wp2_with (first | (go_at_call 56; refine Hid.out ?_))
  change Calls _ _ _ _ _
  refine AK.mono ?_
  clear AK
  rintro r w2 ⟨⟨L', v', rfl, hAD, hQ, hv⟩ | ⟨v', rfl, hF, hQ, hv⟩, hfr⟩
  · obtain ⟨P, x, rfl, hxb⟩ := hAD.last
    have hx256 : x.d.length = 256 := hAD.len HS.out.1 HS.out.2.1 x (by simp)
    obtain ⟨g, ca, rfl, hca, hg, hcc, hfz⟩ := hQ.at
    have hF2 : Fr (fun k => k = q) w w2 := fr_step (D' := fun k => k = q) (Fr.of_below HB1.out) (fun k hk => .inl hk) hfr
    have hR2 : RefW w2 base ed n false 0 ver gb cb va vc := HH.out.2.1.keep hF2 (fun k hk e => HH.out.2.2.1 k hk e)
    obtain ⟨cx, w4, hcv, hsx, hbx⟩ := str_bytes w2.drew x.d
    have hb24 : Below w2.heap.size w2 w4 := ((Below.refl w2.heap.size w2).drew).trans hbx
    have WR := rwrite_go (hR2.below hb24) ⟨by omega, by omega⟩ rfl b HS.out.2.2.1 HS.out.2.2.2.1 x.d hx256 (some ⟨w2.drew.heap.size, 0, none⟩) cx hsx (fun b o e => by
      cases e
      have := hF2.size
      have h1 := HS.out.2.2.2.2.1
      have h2 := HS.out.2.2.2.2.2
      have h3 : w2.drew.heap.size = w2.heap.size := rfl
      omega)
    rw [hx256] at hcv
    have S0 : Hid (w2.drew.cell? ⟨q, 0, none⟩ = some (.pointer (some ⟨ed, 0, none⟩)) ∧ w2.drew.cell? ⟨q, 1, none⟩ = some (.slice (some ⟨g, 0, none⟩) (P.length + 1) ca) ∧ w2.drew.cell? ⟨g, P.length * 3 + 1, none⟩ = some (.string (str x.d))) := ⟨hQ.c0, by have := hQ.c1; rw [List.length_append] at this; exact this, hcc 1 _ rfl⟩
    have S4 : Hid (w4.cell? ⟨q, 0, none⟩ = some (.pointer (some ⟨ed, 0, none⟩)) ∧ w4.cell? ⟨q, 1, none⟩ = some (.slice (some ⟨g, 0, none⟩) (P.length + 1) ca) ∧ w4.cell? ⟨g, P.length * 3 + 1, none⟩ = some (.string (str x.d))) := ⟨(hb24.cell (p := ⟨q, 0, none⟩) hQ.ql).trans S0.out.1, (hb24.cell (p := ⟨q, 1, none⟩) hQ.ql).trans S0.out.2.1, (hb24.cell (p := ⟨g, P.length * 3 + 1, none⟩) hg).trans S0.out.2.2⟩
    have HQ : Hid (QC w2 q ed most (.slice (some ⟨g, 0, none⟩) (P ++ [x]).length ca) (P ++ [x]) ∧ AskD most y L b (P ++ [x]) ∧ w1.heap.size ≤ g ∧ Fr (fun k => k = q) w w2 ∧ Below w2.heap.size w2 w4 ∧ g < w2.heap.size) := ⟨hQ, hAD, hv g rfl, hF2, hb24, hg⟩
    have hll : (P.length : Int) + 1 ≤ 4096 := by have := hQ.len; rw [List.length_append] at this; simp at this; omega
    have HKL : Hid ((P.length : Int) < (P.length : Int) + 1) := by show _ < _; omega
    have kw : IntKind.i64.wrap (P.length : Int) = (P.length : Int) := by rw [IntKind.wrap_i64]; omega
    clear hAD hQ hv hfr hcc hfz hg hF2 hR2 hsx hbx hb24 hx256
    go_upto_region 10 with fail
    refine wp_region_held_drew (S := (fun W => W.cell? ⟨q, 0, none⟩ = some (.pointer (some ⟨ed, 0, none⟩)) ∧ W.cell? ⟨q, 1, none⟩ = some (.slice (some ⟨g, 0, none⟩) (P.length + 1) ca) ∧ W.cell? ⟨g, P.length * 3 + 1, none⟩ = some (.string (str x.d)))) (by kernel_rfl) S0.out (fun hH => ?_)
    refine takeH (i := 0) (dst := some 38) (v := ?v15) rfl rfl (by kernel_rfl) (by kernel_rfl) (by kernel_rfl) (fun _ _ _ h => h) rfl ?hy15 hH rfl ?rest15
    case hy15 => (intro W hW; (try dsimp only at hW); go_simp; try with_reducible rfl)
    (try simp only [Act.put, List.setIfInBounds_toArray, List.set_cons_zero, List.set_cons_succ])
    refine takeH (i := 1) (dst := some 39) (v := ?v16) rfl rfl (by kernel_rfl) (by kernel_rfl) (by kernel_rfl) (fun _ _ _ h => h) rfl ?hy16 hH rfl ?rest16
    case hy16 => (intro W hW; (try dsimp only at hW); go_simp; try with_reducible rfl)
    (try simp only [Act.put, List.setIfInBounds_toArray, List.set_cons_zero, List.set_cons_succ])
    refine takeH (i := 2) (dst := some 40) (v := ?v17) rfl rfl (by kernel_rfl) (by kernel_rfl) (by kernel_rfl) (fun _ _ _ h => h) rfl ?hy17 hH rfl ?rest17
    case hy17 => (intro W hW; (try dsimp only at hW); go_simp; try with_reducible rfl)
    (try simp only [Act.put, List.setIfInBounds_toArray, List.set_cons_zero, List.set_cons_succ])
    refine takeH (i := 3) (dst := some 41) (v := ?v18) rfl rfl (by kernel_rfl) (by kernel_rfl) (by kernel_rfl) (fun _ _ _ h => h) rfl ?hy18 hH rfl ?rest18
    case hy18 => (intro W hW; obtain ⟨e0, _⟩ := hW; go_simp; try with_reducible rfl)
    (try simp only [Act.put, List.setIfInBounds_toArray, List.set_cons_zero, List.set_cons_succ])
    refine takeH (i := 4) (dst := some 42) (v := ?v19) rfl rfl (by kernel_rfl) (by kernel_rfl) (by kernel_rfl) (fun _ _ _ h => h) rfl ?hy19 hH rfl ?rest19
    case hy19 => (intro W hW; (try dsimp only at hW); go_simp; try with_reducible rfl)
    (try simp only [Act.put, List.setIfInBounds_toArray, List.set_cons_zero, List.set_cons_succ])
    refine takeH (i := 5) (dst := some 43) (v := ?v20) rfl rfl (by kernel_rfl) (by kernel_rfl) (by kernel_rfl) (fun _ _ _ h => h) rfl ?hy20 hH rfl ?rest20
    case hy20 => (intro W hW; (try dsimp only at hW); go_simp; try with_reducible rfl)
    (try simp only [Act.put, List.setIfInBounds_toArray, List.set_cons_zero, List.set_cons_succ])
    refine takeH (i := 6) (dst := some 44) (v := ?v21) rfl rfl (by kernel_rfl) (by kernel_rfl) (by kernel_rfl) (fun _ _ _ h => h) rfl ?hy21 hH rfl ?rest21
    case hy21 => (intro W hW; (try dsimp only at hW); go_simp; try with_reducible rfl)
    (try simp only [Act.put, List.setIfInBounds_toArray, List.set_cons_zero, List.set_cons_succ])
    refine takeH (i := 7) (dst := some 45) (v := ?v22) rfl rfl (by kernel_rfl) (by kernel_rfl) (by kernel_rfl) (fun _ _ _ h => h) rfl ?hy22 hH rfl ?rest22
    case hy22 => (intro W hW; (try dsimp only at hW); go_simp; try with_reducible rfl)
    (try simp only [Act.put, List.setIfInBounds_toArray, List.set_cons_zero, List.set_cons_succ])
    refine takeH (i := 8) (dst := some 46) (v := ?v23) rfl rfl (by kernel_rfl) (by kernel_rfl) (by kernel_rfl) (fun _ _ _ h => h) rfl ?hy23 hH rfl ?rest23
    case hy23 => (intro W hW; obtain ⟨_, e1, _⟩ := hW; go_simp; try with_reducible rfl)
    (try simp only [Act.put, List.setIfInBounds_toArray, List.set_cons_zero, List.set_cons_succ])
    refine takeH (i := 9) (dst := some 47) (v := ?v24) rfl rfl (by kernel_rfl) (by kernel_rfl) (by kernel_rfl) (fun _ _ _ h => h) rfl ?hy24 hH rfl ?rest24
    case hy24 => (intro W hW; (try dsimp only at hW); go_simp; try with_reducible rfl)
    (try simp only [Act.put, List.setIfInBounds_toArray, List.set_cons_zero, List.set_cons_succ])
    refine takeH (i := 10) (dst := some 48) (v := ?v25) rfl rfl (by kernel_rfl) (by kernel_rfl) (by kernel_rfl) (fun _ _ _ h => h) rfl ?hy25 hH rfl ?rest25
    case hy25 => (intro W hW; (try dsimp only at hW); go_simp; try with_reducible rfl)
    (try simp only [Act.put, List.setIfInBounds_toArray, List.set_cons_zero, List.set_cons_succ])
    refine takeH (i := 11) (dst := some 49) (v := ?v26) rfl rfl (by kernel_rfl) (by kernel_rfl) (by kernel_rfl) (fun _ _ _ h => h) rfl ?hy26 hH rfl ?rest26
    case hy26 => (intro W hW; (try dsimp only at hW); go_simp; try with_reducible rfl)
    (try simp only [Act.put, List.setIfInBounds_toArray, List.set_cons_zero, List.set_cons_succ])
    refine takeH (i := 12) (dst := some 50) (v := ?v27) rfl rfl (by kernel_rfl) (by kernel_rfl) (by kernel_rfl) (fun _ _ _ h => h) rfl ?hy27 hH rfl ?rest27
    case hy27 => (intro W hW; obtain ⟨_, e1, _⟩ := hW; go_simp; try with_reducible rfl)
    (try simp only [Act.put, List.setIfInBounds_toArray, List.set_cons_zero, List.set_cons_succ])
    refine takeH (i := 13) (dst := some 51) (v := ?v28) rfl rfl (by kernel_rfl) (by kernel_rfl) (by kernel_rfl) (fun _ _ _ h => h) rfl ?hy28 hH rfl ?rest28
    case hy28 => (intro W hW; (try dsimp only at hW); go_simp; try with_reducible rfl)
    (try simp only [Act.put, List.setIfInBounds_toArray, List.set_cons_zero, List.set_cons_succ])
    refine takeH (i := 14) (dst := some 52) (v := ?v29) rfl rfl (by kernel_rfl) (by kernel_rfl) (by kernel_rfl) (fun _ _ _ h => h) rfl ?hy29 hH rfl ?rest29
    case hy29 => (intro W hW; (try dsimp only at hW); go_simp; try with_reducible rfl)
    (try simp only [Act.put, List.setIfInBounds_toArray, List.set_cons_zero, List.set_cons_succ])
    refine takeH (i := 15) (dst := some 53) (v := ?v30) rfl rfl (by kernel_rfl) (by kernel_rfl) (by kernel_rfl) (fun _ _ _ h => h) rfl ?hy30 hH rfl ?rest30
    case hy30 => (intro W hW; clear hW; go_simp; exact if_pos HKL.out)
    (try simp only [Act.put, List.setIfInBounds_toArray, List.set_cons_zero, List.set_cons_succ])
    refine takeH (i := 16) (dst := some 54) (v := ?v31) rfl rfl (by kernel_rfl) (by kernel_rfl) (by kernel_rfl) (fun _ _ _ h => h) rfl ?hy31 hH rfl ?rest31
    case hy31 => (intro W hW; (try dsimp only at hW); go_simp; try with_reducible rfl)
    (try simp only [Act.put, List.setIfInBounds_toArray, List.set_cons_zero, List.set_cons_succ])
    refine takeH (i := 17) (dst := some 55) (v := ?v32) rfl rfl (by kernel_rfl) (by kernel_rfl) (by kernel_rfl) (fun _ _ _ h => h) rfl ?hy32 hH rfl ?rest32
    case hy32 => (intro W hW; obtain ⟨_, _, e2⟩ := hW; go_simp; try with_reducible rfl)
    (try simp only [Act.put, List.setIfInBounds_toArray, List.set_cons_zero, List.set_cons_succ])
    refine callH (i := 18) { dst := some 56, op := Go.Op.convert 9 39 (Go.Operand.tmp 55), type := 39, pos := "ref.go:130", after := #[{ on := 17, ground := Go.Ground.data }], guard := none } (by kernel_rfl) rfl rfl (fun K hK => ?_)
    go_simp
    clear hH
    refine hK.out _ _ S4.out (fun hH => ?_)
    clear hK K
    (try simp only [Act.put, List.setIfInBounds_toArray, List.set_cons_zero, List.set_cons_succ])
    refine callH (i := 19) { dst := some 57, op := Go.Op.call { callee := Go.Callee.value (Go.Operand.func 58), args := #[Go.Operand.tmp 41, Go.Operand.tmp 42, Go.Operand.tmp 56], argTypes := #[28, 3, 39] }, type := 25, pos := "ref.go:130", after := #[{ on := 3, ground := Go.Ground.data }, { on := 4, ground := Go.Ground.data }, { on := 18, ground := Go.Ground.data }], guard := none } (by kernel_rfl) rfl rfl (fun K hK => ?_)
    go_simp
    refine WR.mono ?_
    clear WR
    rintro r w3 ⟨rfl, ⟨g3, ⟨c3, hR3⟩, hg3⟩, hf3⟩
    have HE : Hid (QC w3 q ed most (.slice (some ⟨g, 0, none⟩) (P ++ [x]).length ca) (P ++ [x]) ∧ RefW w3 base ed n false 0 (upd ver b (ver b ++ [x.d])) gb cb (updN va b g3) (updN vc b c3) ∧ w.heap.size ≤ g3 ∧ Fr (fun k => k = q ∨ k = ed ∨ k = gb) w w3 ∧ ∀ k, (Value.slice (some ⟨g, 0, none⟩) (P ++ [x]).length ca).ownBlock = some k → w.heap.size ≤ k ∧ k < g3) := by
      have hz1 := HB1.out.size
      have hz2 := HQ.out.2.2.2.1.size
      have hz4 := HQ.out.2.2.2.2.1.size
      refine ⟨(HQ.out.1.up HQ.out.2.2.2.2.1).keep hf3 (fun e => ?_) (fun k hk e => ?_), hR3, by omega, ((HQ.out.2.2.2.1.mono (T := fun k => k = q ∨ k = ed ∨ k = gb) (fun k _ hk => .inl hk)).trans (Fr.of_below HQ.out.2.2.2.2.1)).trans (hf3.mono (fun k _ hk => .inr hk)), fun k hk => by cases hk; have := HQ.out.2.2.1; have := HQ.out.2.2.2.2.2; show w.heap.size ≤ g ∧ g < g3; omega⟩
      · rcases e with e | e
        · exact HH.out.2.2.1 ed (.inl rfl) e.symm
        · exact HH.out.2.2.1 gb (.inr (.inl rfl)) e.symm
      · cases hk
        have h1 := HQ.out.2.2.1
        rcases e with e | e
        · have e' : g = ed := e
          have := HS.out.2.2.2.2.1; omega
        · have e' : g = gb := e
          have := HS.out.2.2.2.2.2; omega
    have S3 : Hid (w3.cell? ⟨q, 0, none⟩ = some (.pointer (some ⟨ed, 0, none⟩)) ∧ w3.cell? ⟨q, 1, none⟩ = some (.slice (some ⟨g, 0, none⟩) (P.length + 1) ca) ∧ w3.cell? ⟨g, P.length * 3 + 1, none⟩ = some (.string (str x.d))) := ⟨HE.out.1.c0, by have := HE.out.1.c1; rw [List.length_append] at this; exact this, by
      obtain ⟨g', ca', hv', _, _, hcc', _⟩ := HE.out.1.at
      cases hv'
      exact hcc' 1 _ rfl⟩
    clear hR3 hg3 hf3
    clear hH
    refine hK.out _ _ S3.out (fun hH => ?_)
    clear hK K
    (try simp only [Act.put, List.setIfInBounds_toArray, List.set_cons_zero, List.set_cons_succ])
    refine takeH (i := 20) (dst := some 6) (v := ?v33) rfl rfl (by kernel_rfl) (by kernel_rfl) (by kernel_rfl) (fun _ _ _ h => h) rfl ?hy33 hH rfl ?rest33
    case hy33 => (intro W hW; (try dsimp only at hW); go_simp; try with_reducible rfl)
    (try simp only [Act.put, List.setIfInBounds_toArray, List.set_cons_zero, List.set_cons_succ])
    refine wpAnyH_done (by kernel_rfl) ?_ _
    clear hH
    go_wp2_with fail
    go_ret
    exact ⟨.inl ⟨P, x, _, g3, c3, rfl, HQ.out.2.1, HE.out.1, fun k hk => (HE.out.2.2.2.2 k hk).1, HE.out.2.1, HE.out.2.2.1, fun k hk => (HE.out.2.2.2.2 k hk).2⟩, HE.out.2.2.2.1⟩
  · have HE : Hid (FullQ q ed most y L b w w2 ∧ Fr (fun k => k = q) w w2) := ⟨⟨hF, v', hQ, fun k hk => by have := hv k hk; have := HB1.out.size; omega⟩, fr_step (D' := fun k => k = q) (Fr.of_below HB1.out) (fun k hk => .inl hk) hfr⟩
    clear hF hQ hv hfr
    go_wp2_with fail
    go_ret
    exact ⟨.inr ⟨rfl, HE.out.1, HE.out.2⟩, HE.out.2.mono fun k _ hk => .inl hk⟩
end
end Go.Proofs.Ytikpnfnbmbaljaa
