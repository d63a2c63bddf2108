/- slices.Clone of a list of writes. -/
import Derived.Test.YtcmkgcdjjplgdaaRnew
import Derived.WalkSpells
namespace Go.Proofs.Ytcmkgcdjjplgdaa
open Go.RowKit
/-- 'append' of some elements onto an empty slice without room: new memory. -/
theorem append_clone {w : World} {base : Nat} (t ty e : TypeId) (i : TypeInfo) (z : Value) (sz : Nat) (ht : Try.prog.underlying t = some (.slice e)) (hi : Try.prog.info? e = some i) (hz : i.zero = some z) (hsz : i.size = sz) (hzs : z.cells.size = sz) (hby : i.bytes ≤ 280) (b a : Addr) (n c : Nat) (news : List Value) (hl : news.length = n * sz) (hnews : ∀ j v, news[j]? = some v → w.cell? (a.add j) = some v) (h1 : 1 ≤ n) (hn : n ≤ 1000000) (hbase : base ≤ w.heap.size) :
    ∃ g cp w', (Builtin.append_ #[t, t] ty #[.slice (some b) 0 0, .slice (some a) n c]).run Try.prog w = .ok (.slice (some ⟨g, 0, none⟩) n cp) w' ∧ w'.ownsRow base e sz (.slice (some ⟨g, 0, none⟩) n cp) n news ∧ w.heap.size ≤ g ∧ Below w.heap.size w w' := by
  have hfit : Builtin.nextslicecap (0 + n) 0 * i.bytes ≤ 281474976710656 := by
    have := Nat.mul_le_mul hn hby
    rw [Nat.zero_add]
    exact growslice_fits (by omega) (by omega)
  have hr := run_append_grow (P := Try.prog) (w := w) t ty e i z ht hi hz b 0 0 [] (by simp) (by simp) a n c news (by rw [hsz]; exact hl) hnews (by omega) (by omega) hfit
  rw [Nat.zero_add] at hr
  refine ⟨_, _, _, hr, ⟨by rw [hl], .inr ⟨w.heap.size, _, _, rfl, hbase, heap_alloc_new w.drew _, ?_, ?_, ?_, ?_⟩⟩, Nat.le_refl _, (Below.refl _ _).drew.alloc (Nat.le_refl _) _⟩
  · exact grownCap_ge w n 0 e
  · exact grownCap_le_maxLen w _ 0 e (by unfold maxLen; omega)
  · have := grownCap_ge w n 0 e
    simp only [Array.size_append, List.size_toArray, size_zeroCells, List.length_nil, hl, hzs]
    rw [Nat.zero_add, ← Nat.add_mul]
    congr 1
    omega
  · rw [Array.toList_append, Array.toList_append]
    simp only [List.nil_append]
    rw [← hl]
    exact List.take_left
theorem wpList_append_clone {w : World} {ops : Array Oper} {rest : List Oper} {o : Oper} {a : Act} {Q : Exit → Act → World → Prop} (t : TypeId) (hgd : o.guard = none) (s x : Operand)
    (ho : o.op = .call { callee := .builtin .append, args := #[s, x], argTypes := #[t, t] }) (base : Nat) (e : TypeId) (sz n c : Nat) (b d : Addr) (news : List Value) (hs : a.eval s = .slice (some b) 0 0) (hx : a.eval x = .slice (some d) n c)
    (hrun : ∃ g cp w', (Builtin.append_ #[t, t] o.type #[.slice (some b) 0 0, .slice (some d) n c]).run Try.prog w = .ok (.slice (some ⟨g, 0, none⟩) n cp) w' ∧ w'.ownsRow base e sz (.slice (some ⟨g, 0, none⟩) n cp) n news ∧ w.heap.size ≤ g ∧ Below w.heap.size w w')
    (h : ∀ g cp w', w'.ownsRow base e sz (.slice (some ⟨g, 0, none⟩) n cp) n news → w.heap.size ≤ g → Below w.heap.size w w' → wpList Try.prog ops Q rest (a.put o.dst (.slice (some ⟨g, 0, none⟩) n cp)) w') : wpList Try.prog ops Q (o :: rest) a w := by
  refine wpList_plain hgd fun K hK => ?_
  obtain ⟨g, cp, w', hr, h1, h2, h3⟩ := hrun
  unfold Oper.wp execOp
  simp only [ho, resolve, invoke, builtin]
  simp [hs, hx, hr, Result.andThen]
  exact hK _ _ (h g cp w' h1 h2 h3)
set_option maxHeartbeats 1000000 in
/-- slices.Clone of a list of images. -/
theorem clone_imgs (g m c : Nat) (news : List Value) (hl : news.length = m * 256) (h1 : 1 ≤ m) (hm : m ≤ 1000000) (w : World) (hg : g < w.heap.size) (hnews : ∀ j v, news[j]? = some v → w.cell? ⟨g, j, none⟩ = some v) :
    Calls Try.prog 33 #[.slice (some ⟨g, 0, none⟩) m c] w fun e w' => ∃ g' c', e = .returned (.slice (some ⟨g', 0, none⟩) m c') ∧ w'.ownsRow w.heap.size 70 256 (.slice (some ⟨g', 0, none⟩) m c') m news ∧ w.heap.size ≤ g' ∧ Below w.heap.size w w' := by
  obtain ⟨i0, Z, hi0, hz0, hz1, hz2, hz3⟩ := Try.info70
  have AP : ∀ (W : World) (b : Addr), Below w.heap.size w W → ∃ g' cp w', (Builtin.append_ #[71, 71] 71 #[.slice (some b) 0 0, .slice (some ⟨g, 0, none⟩) m c]).run Try.prog W = .ok (.slice (some ⟨g', 0, none⟩) m cp) w' ∧ w'.ownsRow w.heap.size 70 256 (.slice (some ⟨g', 0, none⟩) m cp) m news ∧ W.heap.size ≤ g' ∧ Below W.heap.size W w' := fun W b hW =>
    append_clone 71 71 70 i0 (.agg Z) 256 Try.underlying71 hi0 hz0 hz1 hz3 (by omega) b ⟨g, 0, none⟩ m c news hl (fun j v hv => by rw [addr_add, Nat.zero_add]; exact (hW.cell (p := ⟨g, j, none⟩) hg).trans (hnews j v hv)) h1 hm hW.size
  have EQ : ∀ W : World, (binOp .eql 71 (.slice (some ⟨g, 0, none⟩) m c) (.slice none 0 0)).run Try.prog W = .ok (.bool false) W := fun W => run_eql_nil_slice W 71 70 (some ⟨g, 0, none⟩) m c 0 0 Try.underlying71
  have HB0 : Hid (Below w.heap.size w (w.alloc (.cells #[] 70))) := (Below.refl _ _).alloc (Nat.le_refl _) _
  clear hnews hl
  go_enter Try.func33, Try.ntmps33
  go_upto_region 3 with fail
  go_wp2_with (at_builtin; refine wpList_append_clone 71 rfl (.tmp 5) (.tmp 6) rfl w.heap.size 70 256 m c _ _ news rfl rfl (AP _ _ HB0.out) ?_; intro g2 cp w2 ho hg2 hb2)
  have hz0 := HB0.out.size
  have HO : Hid _ := ho
  have HB : Hid (Below w.heap.size w w2) := HB0.out.trans (hb2.mono hz0)
  have hge : w.heap.size ≤ g2 := by omega
  clear ho hb2 AP EQ
  go_wp2_with fail
  go_ret
  exact ⟨g2, cp, rfl, HO.out, hge, HB.out⟩
set_option maxHeartbeats 1000000 in
/-- slices.Clone of the blocks. -/
theorem clone_blks (g m c : Nat) (news : List Value) (hl : news.length = m * 257) (h1 : 1 ≤ m) (hm : m ≤ 1000000) (w : World) (hg : g < w.heap.size) (hnews : ∀ j v, news[j]? = some v → w.cell? ⟨g, j, none⟩ = some v) :
    Calls Try.prog 32 #[.slice (some ⟨g, 0, none⟩) m c] w fun e w' => ∃ g' c', e = .returned (.slice (some ⟨g', 0, none⟩) m c') ∧ w'.ownsRow w.heap.size 73 257 (.slice (some ⟨g', 0, none⟩) m c') m news ∧ w.heap.size ≤ g' ∧ Below w.heap.size w w' := by
  obtain ⟨i0, Z, hi0, hz0, hz1, hz2, hz3⟩ := Try.info73
  have hzs : Z.size = 257 := by rw [← Array.length_toList, hz3]; simp [bvs_length, zer_length]
  have AP : ∀ (W : World) (b : Addr), Below w.heap.size w W → ∃ g' cp w', (Builtin.append_ #[58, 58] 58 #[.slice (some b) 0 0, .slice (some ⟨g, 0, none⟩) m c]).run Try.prog W = .ok (.slice (some ⟨g', 0, none⟩) m cp) w' ∧ w'.ownsRow w.heap.size 73 257 (.slice (some ⟨g', 0, none⟩) m cp) m news ∧ W.heap.size ≤ g' ∧ Below W.heap.size W w' := fun W b hW =>
    append_clone 58 58 73 i0 (.agg Z) 257 Try.underlying58 hi0 hz0 hz1 hzs (by omega) b ⟨g, 0, none⟩ m c news hl (fun j v hv => by rw [addr_add, Nat.zero_add]; exact (hW.cell (p := ⟨g, j, none⟩) hg).trans (hnews j v hv)) h1 hm hW.size
  have EQ : ∀ W : World, (binOp .eql 58 (.slice (some ⟨g, 0, none⟩) m c) (.slice none 0 0)).run Try.prog W = .ok (.bool false) W := fun W => run_eql_nil_slice W 58 73 (some ⟨g, 0, none⟩) m c 0 0 Try.underlying58
  have HB0 : Hid (Below w.heap.size w (w.alloc (.cells #[] 73))) := (Below.refl _ _).alloc (Nat.le_refl _) _
  clear hnews hl
  go_enter Try.func32, Try.ntmps32
  go_upto_region 3 with fail
  go_wp2_with (at_builtin; refine wpList_append_clone 58 rfl (.tmp 5) (.tmp 6) rfl w.heap.size 73 257 m c _ _ news rfl rfl (AP _ _ HB0.out) ?_; intro g2 cp w2 ho hg2 hb2)
  have hz0 := HB0.out.size
  have HO : Hid _ := ho
  have HB : Hid (Below w.heap.size w w2) := HB0.out.trans (hb2.mono hz0)
  have hge : w.heap.size ≤ g2 := by omega
  clear ho hb2 AP EQ
  go_wp2_with fail
  go_ret
  exact ⟨g2, cp, rfl, HO.out, hge, HB.out⟩
end Go.Proofs.Ytcmkgcdjjplgdaa
