/- slices.Sort of at most twelve numbers: pdqsort, bits.Len. -/
import Derived.Test.YtglmbihahldfcaaIsort
namespace Go.Proofs.Ytglmbihahldfcaa
open Go.RowKit
set_option maxRecDepth 100000
theorem wpList_index_tab {ops : Array Oper} {rest : List Oper} {o : Oper} {a : Act} {w : World} {Q : Exit → Act → World → Prop} (hgd : o.guard = none) (s : ByteArray) (y : Operand) (ho : o.op = .index 9 (.const (.string s)) y) (x : Int) (hy : a.eval y = .int .u8 x) (hs : 256 ≤ s.size) (h0 : 0 ≤ x ∧ x < 256)
    (h : ∀ b : Nat, b ≤ 255 → wpList Try.prog ops Q rest (a.put o.dst (.int .u8 (b : Int))) w) : wpList Try.prog ops Q (o :: rest) a w := by
  refine wpList_plain hgd fun K hK => ?_
  have hi : 0 ≤ x ∧ x < s.size := ⟨h0.1, by omega⟩
  have hrun := run_index_string (P := Try.prog) w 9 s .u8 x Try.underlying9
  rw [dif_pos hi] at hrun
  have hc : a.eval (.const (.string s)) = .string s := rfl
  unfold Oper.wp execOp
  simp only [ho, hy, hc, hrun, Sem.run_bind, Result.andThen_ok, Sem.run_pure]
  refine hK _ _ (h _ ?_)
  have := (s[x.toNat]'(by omega)).toNat_lt
  omega
set_option maxHeartbeats 1000000 in
theorem len64_any (x : Int) (w : World) (h0 : 0 ≤ x) (h1 : x ≤ 255) : Calls Try.prog 90 #[.int .u64 x] w fun e w' => (∃ k, e = .returned (.int .i64 k)) ∧ w' = w := by
  go_enter Try.func90, Try.ntmps90
  go_wp2_with (first | ((with_reducible show wpList _ _ _ ({ dst := _, op := Op.index 9 _ _, type := _, pos := _, after := _, guard := _ } :: _) _ _); refine wpList_index_tab rfl _ (.tmp 21) rfl x rfl (of_decide_eq_true (by kernel_rfl)) ⟨h0, by omega⟩ ?_; intro b hb))
  go_ret
  exact ⟨⟨_, rfl⟩, rfl⟩
set_option maxHeartbeats 1000000 in
theorem len_bits (x : Int) (w : World) (h0 : 0 ≤ x) (h1 : x ≤ 255) : Calls Try.prog 72 #[.int .u64 x] w fun e w' => (∃ k, e = .returned (.int .i64 k)) ∧ w' = w := by
  have L6 := len64_any x
  go_enter Try.func72, Try.ntmps72
  go_wp2_with (first | (go_at_call 90; refine (L6 _ h0 h1).mono ?_; rintro e w1 ⟨⟨k, rfl⟩, rfl⟩))
  go_ret
  exact ⟨⟨_, rfl⟩, rfl⟩
set_option maxHeartbeats 1000000 in
theorem pdq_any (base g m cap : Nat) (l : List Int) (lim : Int) (w : World) (h : OwnI w base (.slice (some ⟨g, 0, none⟩) m cap) l) (hl : l.length = m) (hm : (m : Int) ≤ 12) :
    Calls Try.prog 71 #[.slice (some ⟨g, 0, none⟩) m cap, .int .i64 0, .int .i64 (m : Int), .int .i64 lim] w fun e w' => e = .returned (.tuple #[]) ∧ ∃ Y, OwnI w' base (.slice (some ⟨g, 0, none⟩) m cap) Y ∧ Up Y m ∧ Y.Perm l ∧ w.grownBy w' (some g) := by
  have IS := isort_any base g m cap l w h hl (by omega)
  clear h hl
  go_enter Try.func71, Try.ntmps71
  go_wp2_with fail
  refine wp_loop_rounds 1 ?_
  rw [rounds_succ]
  go_wp2_with fail
  refine IS.mono ?_
  rintro e w1 ⟨rfl, Y, k1, k2, k3, k4⟩
  go_wp2
  refine bodyPost_ret (results_none rfl _ _ _) rfl ?_
  exact ⟨rfl, Y, k1, k2, k3, k4⟩
set_option maxHeartbeats 1000000 in
theorem sort_any (base g m cap : Nat) (l : List Int) (w : World) (h : OwnI w base (.slice (some ⟨g, 0, none⟩) m cap) l) (hl : l.length = m) (hm : (m : Int) ≤ 12) :
    Calls Try.prog 44 #[.slice (some ⟨g, 0, none⟩) m cap] w fun e w' => e = .returned (.tuple #[]) ∧ ∃ Y, OwnI w' base (.slice (some ⟨g, 0, none⟩) m cap) Y ∧ Up Y m ∧ Y.Perm l ∧ w.grownBy w' (some g) := by
  have PD := fun lim => pdq_any base g m cap l lim w h hl hm
  have LB := fun W => len_bits (m : Int) W (by omega) (by omega)
  clear h hl
  go_enter Try.func44, Try.ntmps44
  go_wp2_with fail
  refine (LB _).mono ?_
  clear LB
  rintro e w1 ⟨⟨k, rfl⟩, hw⟩
  obtain rfl : w = w1 := hw.symm
  go_wp2_with fail
  refine (PD k).mono ?_
  clear PD
  rintro e w1 ⟨rfl, Y, k1, k2, k3, k4⟩
  go_wp2
  go_end0
  exact ⟨rfl, Y, k1, k2, k3, k4⟩
set_option maxHeartbeats 1000000 in
theorem isort_nil (w : World) : Calls Try.prog 80 #[.slice none 0 0, .int .i64 0, .int .i64 0] w fun e w' => e = .returned (.tuple #[]) ∧ w' = w := by
  go_enter Try.func80, Try.ntmps80
  go_wp2
  refine wp_loop_rounds 1 ?_
  rw [rounds_succ]
  go_wp2
  go_end0
  exact ⟨rfl, rfl⟩
set_option maxHeartbeats 1000000 in
theorem pdq_nil (lim : Int) (w : World) : Calls Try.prog 71 #[.slice none 0 0, .int .i64 0, .int .i64 0, .int .i64 lim] w fun e w' => e = .returned (.tuple #[]) ∧ w' = w := by
  have IS := isort_nil w
  go_enter Try.func71, Try.ntmps71
  go_wp2_with fail
  refine wp_loop_rounds 1 ?_
  rw [rounds_succ]
  go_wp2_with fail
  refine IS.mono ?_
  rintro e w1 ⟨rfl, rfl⟩
  go_wp2
  refine bodyPost_ret (results_none rfl _ _ _) rfl ?_
  exact ⟨rfl, rfl⟩
set_option maxHeartbeats 1000000 in
theorem sort_nil (w : World) : Calls Try.prog 44 #[.slice none 0 0] w fun e w' => e = .returned (.tuple #[]) ∧ w' = w := by
  have PD := fun lim => pdq_nil lim w
  have LB := fun W => len_bits 0 W (by omega) (by omega)
  go_enter Try.func44, Try.ntmps44
  go_wp2_with fail
  refine (LB _).mono ?_
  clear LB
  rintro e w1 ⟨⟨k, rfl⟩, hw⟩
  obtain rfl : w = w1 := hw.symm
  go_wp2_with fail
  refine (PD k).mono ?_
  clear PD
  rintro e w1 ⟨rfl, rfl⟩
  go_wp2
  go_end0
  exact ⟨rfl, rfl⟩
end Go.Proofs.Ytglmbihahldfcaa
