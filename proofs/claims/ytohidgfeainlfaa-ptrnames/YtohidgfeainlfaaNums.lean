/- leveeref01.Bytes and Get. -/
import Derived.Test.YtohidgfeainlfaaSl
import Derived.Test.YtohidgfeainlfaaNPut
import Derived.Test.YtohidgfeainlfaaLentG
import Derived.Deep.DeepCutAuto
namespace Go.Proofs.Ytohidgfeainlfaa
open Go.RowKit
attribute [local go_sem] wrapU
theorem leB_snoc : ∀ k n, leB (k + 1) n = leB k n ++ [UInt8.ofNat (n / 2 ^ (8 * k) % 256)]
  | 0, n => by simp [leB]
  | k + 1, n => by
    have e : 2 ^ (8 * (k + 1)) = 256 * 2 ^ (8 * k) := by rw [Nat.mul_add, Nat.pow_add]; omega
    rw [leB, leB_snoc k (n / 256), e, ← Nat.div_div_eq_div_mul]; rfl
theorem leB_zero_at (n k : Nat) (hn : n < 18446744073709551616) (hk : 8 ≤ k) : UInt8.ofNat (n / 2 ^ (8 * k) % 256) = 0 := by
  have h : n / 2 ^ (8 * k) = 0 := Nat.div_eq_of_lt (Nat.lt_of_lt_of_le (show n < 2 ^ 64 from hn) (Nat.pow_le_pow_right (by omega) (by omega)))
  rw [h]; rfl
theorem byte_shr (n k : Nat) : ((n : Int) / 2 ^ (8 * k) % 256) = (((UInt8.ofNat (n / 2 ^ (8 * k) % 256)).toNat : Nat) : Int) := by
  simp
set_option maxHeartbeats 1000000 in
theorem rbytes_any (n size : Nat) (w : World) (hn : (n : Int) < 18446744073709551616) (hs : (size : Int) ≤ 100) :
    Calls Try.prog 32 #[.int .u64 (n : Int), .int .i64 (size : Int)] w fun e w' => ∃ v, e = .returned v ∧ Own w' w.heap.size v (leB size n) ∧ Below w.heap.size w w' := by
  go_enter Try.func32, Try.ntmps32
  go_wp2
  go_loopw [5, 6] (fun v i wr => ∃ k : Nat, k ≤ size ∧ i = .int .i64 k ∧ Own wr w.heap.size v (leB k n) ∧ Below w.heap.size w wr) (fun _ i _ => size - (intOf i).toNat)
  case atStart => exact ⟨0, by omega, rfl, Own.nil _ _, Below.refl _ _⟩
  case round =>
    obtain ⟨k, hk, rfl, hown, hbw⟩ := hrel
    have hz := hbw.size
    have hll := leB_length k n
    by_cases hlt : (k : Int) < size
    · have hsn := leB_snoc k n
      by_cases h8 : (k : Int) < 8
      · have hx := byte_shr n k
        generalize UInt8.ofNat (n / 2 ^ (8 * k) % 256) = x at *
        have HSN : Hid _ := hsn
        clear hsn
        go_wp2_with (at_builtin; refine wpList_append_bytes rfl (.tmp 14) (.tmp 21) rfl w.heap.size (leB k n) [x] _ rfl _ _ _ rfl rfl (hown.below ((Below.refl _ _).alloc (Nat.le_refl _) _) (Nat.le_refl _)) (Blk.src (t := 5) (heap_alloc_new _ _)) (by simp; omega) (by rw [hll]; simp; omega) (fun h => by cases h) ?_; intro v' w1 hown1 hb1)
        have hb2 : Below w.heap.size w w1 := (hbw.alloc hz _).trans hb1
        rw [← HSN.out] at hown1
        clear hown
        go_roundw
        case rel => exact ⟨k + 1, by omega, by go_num, hown1, hb2⟩
        case measure => simp [intOf]; omega
      · have hx := leB_zero_at n k (by omega) (by omega)
        rw [hx] at hsn
        have HSN : Hid _ := hsn
        clear hsn hx
        go_wp2_with (at_builtin; refine wpList_append_bytes rfl (.tmp 23) (.tmp 24) rfl w.heap.size (leB k n) [0] _ rfl _ _ _ rfl rfl (hown.below ((Below.refl _ _).alloc (Nat.le_refl _) _) (Nat.le_refl _)) (Blk.src (t := 5) (heap_alloc_new _ _)) (by simp; omega) (by rw [hll]; simp; omega) (fun h => by cases h) ?_; intro v' w1 hown1 hb1)
        have hb2 : Below w.heap.size w w1 := (hbw.alloc hz _).trans hb1
        rw [← HSN.out] at hown1
        clear hown
        go_roundw
        case rel => exact ⟨k + 1, by omega, by go_num, hown1, hb2⟩
        case measure => simp [intOf]; omega
    · obtain rfl : k = size := by omega
      clear hll
      go_wp2
      go_ret
      exact ⟨_, rfl, hown, hbw⟩
/-- 'append' onto bytes that leave no room, whosever they are: new memory. -/
theorem append_new {w : World} {base b off : Nat} {l m : List UInt8} {sp : Option Addr} (ty : TypeId) (cap c : Nat) (h : Src w (some ⟨b, off, none⟩) l) (hs : Src w sp m) (hm : 0 < m.length) (hcap : cap < l.length + m.length) (hbase : base ≤ w.heap.size) (hb : l.length + m.length ≤ 140737488355328) :
    ∃ v' w', (Builtin.append_ #[40, 40] ty #[.slice (some ⟨b, off, none⟩) l.length cap, .slice sp m.length c]).run Try.prog w = .ok v' w' ∧ Own w' base v' (l ++ m) ∧ Below base w w' := by
  obtain ⟨i0, hi, hz0, hz1, hz2⟩ := info_parts Try.info5
  obtain ⟨b2, off2, rfl, _, hc2⟩ := hs.at' hm
  have cs : ∀ (bb oo : Nat) (x : List UInt8), (∀ j, (hj : j < x.length) → w.cell? ⟨bb, oo + j, none⟩ = some (bv x[j])) → ∀ j u, (bvs x)[j]? = some u → w.cell? ((⟨bb, oo, none⟩ : Addr).add j) = some u := by
    intro bb oo x hx j u hj
    have hjl : j < x.length := by
      rcases Nat.lt_or_ge j x.length with h | h
      · exact h
      · rw [List.getElem?_eq_none (by rw [bvs_length]; exact h)] at hj; cases hj
    rw [addr_add, hx j hjl, ← hj]; simp [bvs, hjl]
  have hl1 : ∀ j, (hj : j < l.length) → w.cell? ⟨b, off + j, none⟩ = some (bv l[j]) := fun j hj => h.cell j hj
  have hr := run_append_grow (P := Try.prog) w 40 ty 5 i0 _ Try.underlying40 hi hz0 ⟨b, off, none⟩ l.length cap (bvs l) (by rw [bvs_length, hz1, Nat.mul_one]) (cs b off l hl1) ⟨b2, off2, none⟩ m.length c (bvs m) (by rw [bvs_length, hz1, Nat.mul_one]) (cs b2 off2 m hc2) hcap (by omega) (growslice_fits (by omega) (by rw [hz2]; omega))
  have hge := grownCap_ge w (l.length + m.length) cap 5
  have hcm : grownCap w (l.length + m.length) cap 5 ≤ maxLen := grownCap_le_maxLen w _ cap 5 (by unfold maxLen; omega)
  refine ⟨_, _, hr, ⟨by rw [bvs_length]; simp, .inr ⟨w.heap.size, _, _, by rw [List.length_append], hbase, heap_alloc_new w.drew _, by rw [List.length_append]; exact hge, hcm, ?_, ?_⟩⟩, ?_⟩
  · simp only [Array.size_append, List.size_toArray, size_zeroCells, bvs_length]
    show l.length + m.length + (grownCap w (l.length + m.length) cap 5 - (l.length + m.length)) * 1 = _
    omega
  · rw [Array.toList_append, Array.toList_append, bvs_append, show (bvs l).toArray.toList ++ (bvs m).toArray.toList = bvs l ++ bvs m from rfl, show (l ++ m).length * 1 = (bvs l ++ bvs m).length by simp [bvs_length]]
    exact List.take_left
  · exact (Below.refl _ _).drew.alloc hbase _
theorem wpList_append_new {w : World} {ops : Array Oper} {rest : List Oper} {o : Oper} {a : Act} {Q : Exit → Act → World → Prop} (hgd : o.guard = none) (s x : Operand)
    (ho : o.op = .call { callee := .builtin .append, args := #[s, x], argTypes := #[40, 40] }) (base : Nat) (l m : List UInt8) (b off cap : Nat) (hs : a.eval s = .slice (some ⟨b, off, none⟩) l.length cap) (sp : Option Addr) (n c : Nat) (hx : a.eval x = .slice sp n c) (hn : n = m.length)
    (hown : Src w (some ⟨b, off, none⟩) l) (hsrc : Src w sp m) (hm : 0 < m.length) (hcap : cap < l.length + m.length) (hbase : base ≤ w.heap.size) (hb : l.length + m.length ≤ 140737488355328)
    (h : ∀ v' w', Own w' base v' (l ++ m) → Below base w w' → wpList Try.prog ops Q rest (a.put o.dst v') w') : wpList Try.prog ops Q (o :: rest) a w := by
  subst hn
  refine wpList_plain hgd fun K hK => ?_
  obtain ⟨v', w', hrun, h1, h2⟩ := append_new o.type cap c hown hsrc hm hcap hbase hb
  unfold Oper.wp execOp
  simp only [ho, resolve, invoke, builtin]
  simp [hs, hx, hrun, Result.andThen]
  exact hK _ _ (h v' w' h1 h2)
def slen : Value → Nat
  | .slice _ n _ => n
  | _ => 0
theorem Own.mono {w : World} {base b' : Nat} {v : Value} {l : List UInt8} (h : Own w base v l) (hb : b' ≤ base) : Own w b' v l := by
  obtain ⟨h1, h2⟩ := h
  refine ⟨h1, ?_⟩
  rcases h2 with h2 | ⟨g, cap, cur, hv, hg, rest⟩
  · exact .inl h2
  · exact .inr ⟨g, cap, cur, hv, by omega, rest⟩
theorem rep_step (l : List UInt8) (k : Nat) : (l ++ List.replicate k 0) ++ [0] = l ++ List.replicate (k + 1) 0 := by
  rw [List.append_assoc, ← List.replicate_succ']
theorem getNum_le {l : List UInt8} (hl : l.length ≤ 8) : getNum l = leNum l := by
  unfold getNum pad8
  rw [List.take_of_length_le (by omega)]
  have z : ∀ (k : Nat) (l : List UInt8), leNum (l ++ List.replicate k 0) = leNum l := by
    intro k
    induction k with
    | zero => intro l; simp
    | succ k ih => intro l; rw [List.replicate_succ', ← List.append_assoc, leNum_snoc, ih]; simp
  exact z _ _
set_option maxHeartbeats 1000000 in
theorem rgetn_any (sp : Option Addr) (l : List UInt8) (n cap : Nat) (w : World) (hs : Src w sp l) (hl : l.length = n) (h0 : 0 < n) (h8 : n ≤ 8) :
    Calls Try.prog 29 #[.slice sp n cap] w fun e w' => e = .returned (.int .u64 (getNum l : Int)) ∧ w' = w := by
  obtain ⟨bb, off, rfl, _, hc⟩ := hs.at' (by omega)
  have HG : Hid (getNum l = leNum (l.take n)) := by
    show _ = _
    rw [List.take_of_length_le (by omega)]
    exact getNum_le (by omega)
  clear hs
  go_enter Try.func29, Try.ntmps29
  go_wp2_with fail
  go_loop [3, 4] (fun v i => ∃ k : Nat, k ≤ n ∧ i = .int .i64 k ∧ v = .int .u64 (leNum (l.take k))) (fun _ i => n - (intOf i).toNat)
  case atStart => exact ⟨0, by omega, rfl, by simp [leNum]⟩
  case round =>
    obtain ⟨k, hk, rfl, rfl⟩ := hrel
    by_cases hlt : (k : Int) < n
    · have h1 := hc k (by omega)
      have h8' : (k : Int) < 8 := by omega
      rw [bv_nth (by omega)] at h1
      have HS : Hid (bits .or .u64 (leNum (l.take k) : Int) (IntKind.u64.wrap (IntKind.u64.wrap (nth l k) * 2 ^ (8 * k))) = (leNum (l.take (k + 1)) : Int)) := get_step l k (by omega) (by omega)
      go_wp2
      go_round
      case rel => exact ⟨k + 1, by omega, by go_num, by rw [← HS.out]⟩
      case measure => simp [intOf]; omega
    · obtain rfl : k = n := by omega
      go_wp2
      go_ret
      exact ⟨by rw [HG.out]; rfl, rfl⟩
end Go.Proofs.Ytohidgfeainlfaa
