/- The builtins make, copy and append on slices of bytes, as equations of their runs. -/
import Derived.Test.YtikpnfnbmbaljaaKBase
import Derived.OwnWalk
namespace Go.Proofs.Ytikpnfnbmbaljaa
open Go.RowKit
set_option maxRecDepth 100000

theorem Try.info5 : (Try.prog.info? 5).map (fun i => (i.zero, i.size, i.bytes)) = some (some (.int .u8 0), 1, 1) := by kernel_rfl

/-- 'make' of n bytes, with room for c. -/
theorem make_any (w : World) (n c : Nat) (hnc : n ≤ c) (hc : c ≤ 281474976710656) :
    (Instr.makeSlice 39 (.int .i64 (n : Int)) (.int .i64 (c : Int))).run Try.prog w = .ok (.slice (some ⟨w.heap.size, 0, none⟩) n c) (w.alloc (.cells (bvs (List.replicate c 0)).toArray 5)) := by
  obtain ⟨i0, hi, hz0, hz1, hz2⟩ := info_parts Try.info5
  have h := run_make (P := Try.prog) w 39 5 i0 _ Try.underlying39 hi hz0 .i64 .i64 (n : Int) (c : Int) (by omega) (by omega) (by rw [hz2]; omega) (by omega)
  rw [h]
  congr 3
  have e : madeCells (Value.int IntKind.u8 0).cells ((c : Int).toNat * i0.size) = (bvs (List.replicate c 0)).toArray := by
    apply Array.toList_inj.1
    rw [hz1, Int.toNat_natCast, Nat.mul_one, bvs_rep]
    exact toList_madeCells_one _ _
  rw [e]

/-- 'copy' into a place of a block. -/
theorem copy_any {w : World} {g off dLen : Nat} (dCap : Nat) {sp : Option Addr} (sLen sCap : Nat) {t : TypeId} {cur l : List UInt8} (hg : Blk w g t cur) (hs : Src w sp l) (hl : l.length = sLen) (hd : off + dLen ≤ cur.length) :
    ∃ w1, (Builtin.copy_ #[39, 39] 3 #[.slice (some ⟨g, off, none⟩) dLen dCap, .slice sp sLen sCap]).run Try.prog w = .ok (.int .i64 (min sLen dLen : Nat)) w1 ∧
      Blk w1 g t (cur.take off ++ l.take dLen ++ cur.drop (off + min sLen dLen)) ∧ Below g w w1 ∧ w1.heap.size = w.heap.size := by
  have hlen : (l.take dLen).length = min sLen dLen := by simp [hl, Nat.min_comm]
  by_cases h0 : min sLen dLen = 0
  · have hnil : l.take dLen = [] := List.eq_nil_of_length_eq_zero (by rw [hlen]; exact h0)
    refine ⟨w, ?_, ?_, Below.refl _ _, rfl⟩
    · have h := run_copy_none (P := Try.prog) w 39 39 3 5 (some ⟨g, off, none⟩) sp dLen dCap sLen sCap Try.underlying39 Try.elem1 h0
      rw [h, h0]; rfl
    · rw [hnil, h0]; simpa using hg
  · obtain ⟨ad, had, hcs⟩ := hs.pos dLen (by rw [bvs_length, hlen]; omega)
    subst had
    have hrun := run_copy_row (P := Try.prog) w 39 39 3 5 g off dLen dCap ad sLen sCap (bvs cur).toArray t (bvs (l.take dLen)) Try.underlying39 Try.elem1 hg (by rw [bvs_length, hlen]) hcs (by simp only [bvs_length, hlen, List.size_toArray]; omega) (bvs_one _)
    rw [bvs_length, hlen] at hrun
    refine ⟨_, hrun, ?_, below_setRow (Below.refl _ _) (Nat.le_refl _) _, by simp⟩
    have hrow := setRow_heap w g _ ((bvs cur).toArray.toList.take off ++ bvs (l.take dLen) ++ (bvs cur).toArray.toList.drop (off + min sLen dLen)).toArray t _ hg
    rw [Blk, hrow]
    simp only [bvs_append, bvs_drop, bvs_take]

/-- The slice v is the call's own (from block number base on), and its bytes are l. -/
def Own (w : World) (base : Nat) (v : Value) (l : List UInt8) : Prop := w.ownsRow base 5 1 v l.length (bvs l)
theorem Own.nil (w : World) (base : Nat) : Own w base (.slice none 0 0) [] := World.ownsRow_nil _ _ _ _
theorem Own.form {w : World} {base : Nat} {v : Value} {l : List UInt8} (h : Own w base v l) : ∃ ao cap, v = .slice ao l.length cap ∧ Src w ao l ∧ l.length ≤ cap ∧ (cap : Int) ≤ 9223372036854775807 ∧ (ao = none → cap = 0) := by
  obtain ⟨h1, h2⟩ := h
  rcases h2 with ⟨rfl, h3⟩ | ⟨g, cap, cur, rfl, hg, hh, hn, hm, hs, hx⟩
  · obtain rfl : l = [] := List.eq_nil_of_length_eq_zero h3
    exact ⟨none, 0, rfl, Src.nil _ _, by simp, by omega, fun _ => rfl⟩
  · refine ⟨some ⟨g, 0, none⟩, cap, rfl, .inr ⟨g, 0, rfl, (Array.getElem?_eq_some_iff.1 hh).1, fun j hj => ?_⟩, hn, by unfold maxLen at hm; omega, fun h => by cases h⟩
    rw [Nat.zero_add, cell_of_row w g j _ _ _ hh]
    have e : (cur.toList.take (l.length * 1))[j]? = (bvs l)[j]? := by rw [hx]
    rw [List.getElem?_take] at e
    simp only [Nat.mul_one, hj, if_true] at e
    simpa [bvs, hj] using e
theorem Own.lt {w : World} {base : Nat} {v : Value} {l : List UInt8} (h : Own w base v l) : ∀ k, v.ownBlock = some k → base ≤ k ∧ k < w.heap.size := World.ownsRow.lt h
theorem Own.below {w w' : World} {base B : Nat} {v : Value} {l : List UInt8} (h : Own w base v l) (hb : Below B w w') (hB : w.heap.size ≤ B) : Own w' base v l := by
  obtain ⟨h1, h2⟩ := h
  refine ⟨h1, ?_⟩
  rcases h2 with h2 | ⟨g, cap, cur, hv, hg, hh, r⟩
  · exact .inl h2
  · have hlt : g < w.heap.size := (Array.getElem?_eq_some_iff.1 hh).1
    exact .inr ⟨g, cap, cur, hv, hg, by rw [hb.block g (by omega)]; exact hh, r⟩

/-- A slice that reads as the bytes l: nil, without room, or in a block. -/
def Arg (w : World) (sp : Option Addr) (cap : Nat) (l : List UInt8) : Prop :=
  (cap = 0 ∧ l = []) ∨ ∃ b off, sp = some ⟨b, off, none⟩ ∧ 0 < cap ∧ l.length ≤ cap ∧ (cap : Int) ≤ 9223372036854775807 ∧ l.length ≤ 140737488355328 ∧ Src w sp l
theorem Arg.src {w : World} {sp : Option Addr} {cap : Nat} {l : List UInt8} (h : Arg w sp cap l) : Src w sp l := by
  rcases h with ⟨_, rfl⟩ | ⟨_, _, _, _, _, _, _, h⟩
  · exact Src.nil _ _
  · exact h
theorem Arg.below {w w' : World} {sp : Option Addr} {cap : Nat} {l : List UInt8} (h : Arg w sp cap l) {B : Nat} (hb : Below B w w') (hB : w.heap.size ≤ B) : Arg w' sp cap l := by
  rcases h with h | ⟨b, off, h1, h2, h3, h4, h5, h6⟩
  · exact .inl h
  · exact .inr ⟨b, off, h1, h2, h3, h4, h5, h6.below hb hB⟩
theorem Arg.len {w : World} {sp : Option Addr} {cap : Nat} {l : List UInt8} (h : Arg w sp cap l) : l.length ≤ cap ∧ (cap : Int) ≤ 9223372036854775807 ∧ l.length ≤ 140737488355328 := by
  rcases h with ⟨rfl, rfl⟩ | ⟨_, _, _, _, h3, h4, h5, _⟩
  · simp
  · exact ⟨h3, h4, h5⟩
theorem Arg.nilcap {w : World} {sp : Option Addr} {cap : Nat} {l : List UInt8} (h : Arg w sp cap l) : sp = none → cap = 0 := by
  rcases h with ⟨rfl, _⟩ | ⟨_, _, h1, _⟩
  · exact fun _ => rfl
  · intro h; rw [h] at h1; cases h1
theorem Src.pre {w : World} {sp : Option Addr} {l : List UInt8} (h : Src w sp l) (k : Nat) : Src w sp (l.take k) := by
  rcases h with rfl | ⟨b, off, h1, h2, h3⟩
  · simp; exact Src.nil _ _
  · refine .inr ⟨b, off, h1, h2, fun j hj => ?_⟩
    simp only [List.length_take] at hj
    rw [h3 j (by omega)]; simp

/-- 'append' onto a slice of the call's own. -/
theorem append_any {w : World} {base : Nat} {v : Value} {l m : List UInt8} {sp : Option Addr} (ty : TypeId) (c : Nat) (h : Own w base v l) (hs : Src w sp m) (hbase : base ≤ w.heap.size) (hb : l.length + m.length ≤ 140737488355328) (hnil : sp = none → c = 0) :
    ∃ v' w', (Builtin.append_ #[39, 39] ty #[v, .slice sp m.length c]).run Try.prog w = .ok v' w' ∧ Own w' base v' (l ++ m) ∧ Below base w w' := by
  obtain ⟨i0, hi, hz0, hz1, hz2⟩ := info_parts Try.info5
  cases sp with
  | none =>
    obtain rfl : m = [] := by
      rcases hs with h | ⟨b, off, h1, _⟩
      · exact h
      · cases h1
    obtain rfl := hnil rfl
    refine ⟨v, w, run_append_owned_none (P := Try.prog) w base 39 ty 5 i0 1 Try.underlying39 hi v l.length (bvs l) h, ?_, Below.refl _ _⟩
    rw [List.append_nil]; exact h
  | some ad =>
    have hcs : ∀ j u, (bvs m)[j]? = some u → w.cell? (ad.add j) = some u := by
      intro j u hj
      have hjl : j < m.length := by
        rcases Nat.lt_or_ge j m.length with h | h
        · exact h
        · rw [List.getElem?_eq_none (by rw [bvs_length]; exact h)] at hj; cases hj
      obtain ⟨ad', e, hc⟩ := hs.pos m.length (by simp [bvs_length]; omega)
      cases e
      exact hc j u (by rw [List.take_length]; exact hj)
    obtain ⟨v', w', hr, hown, hgr, _⟩ := run_append_own (P := Try.prog) w base 39 ty 5 i0 _ 1 1 Try.underlying39 hi hz0 hz1 hz2 rfl (by decide) v l.length (bvs l) h ad m.length c (bvs m) (by simp [bvs_length]) hcs (bvs_one _) (by unfold maxLen; omega) (by omega) hbase
    refine ⟨v', w', hr, ?_, (Below.refl _ _).grown hgr hbase (fun k hk => (h.lt k hk).1)⟩
    unfold Own
    rw [List.length_append, bvs_append]
    exact hown
/-- The same as a law for the walk: 'go_wp2_with (at_builtin; refine wpList_append_bytes ..)'. -/
theorem wpList_append_bytes {w : World} {ops : Array Oper} {rest : List Oper} {o : Oper} {a : Act} {Q : Exit → Act → World → Prop} (hgd : o.guard = none) (s x : Operand)
    (ho : o.op = .call { callee := .builtin .append, args := #[s, x], argTypes := #[39, 39] }) (base : Nat) (l m : List UInt8) (v : Value) (hs : a.eval s = v) (sp : Option Addr) (n c : Nat) (hx : a.eval x = .slice sp n c) (hn : n = m.length)
    (hown : Own w base v l) (hsrc : Src w sp m) (hbase : base ≤ w.heap.size) (hb : l.length + m.length ≤ 140737488355328) (hnil : sp = none → c = 0)
    (h : ∀ v' w', Own w' base v' (l ++ m) → Below base w w' → wpList Try.prog ops Q rest (a.put o.dst v') w') : wpList Try.prog ops Q (o :: rest) a w := by
  subst hn
  refine wpList_plain hgd fun K hK => ?_
  obtain ⟨v', w', hrun, h1, h2⟩ := append_any o.type c hown hsrc hbase hb hnil
  unfold Oper.wp execOp
  simp only [ho, resolve, invoke, builtin]
  simp [hs, hx, hrun, Result.andThen]
  exact hK _ _ (h v' w' h1 h2)
/-- 'append' where there is room, onto the head of a block that is known whole. -/
theorem append_room {w : World} {g n cap : Nat} {cur m : List UInt8} {sp : Option Addr} (ty : TypeId) (c : Nat) (hg : Blk w g 5 cur) (hcap : cur.length = cap) (hs : Src w sp m) (hroom : n + m.length ≤ cap) (hm : cap ≤ 281474976710656) (hnil : sp = none → c = 0) :
    ∃ w', (Builtin.append_ #[39, 39] ty #[.slice (some ⟨g, 0, none⟩) n cap, .slice sp m.length c]).run Try.prog w = .ok (.slice (some ⟨g, 0, none⟩) (n + m.length) cap) w' ∧ Blk w' g 5 (cur.take n ++ m ++ cur.drop (n + m.length)) ∧ Below g w w' ∧ w'.heap.size = w.heap.size := by
  obtain ⟨i0, hi, hz0, hz1, hz2⟩ := info_parts Try.info5
  cases sp with
  | none =>
    obtain rfl : m = [] := by
      rcases hs with h | ⟨b, off, h1, _⟩
      · exact h
      · cases h1
    obtain rfl := hnil rfl
    have hown : w.ownsRow g 5 1 (.slice (some ⟨g, 0, none⟩) n cap) n (bvs (cur.take n)) :=
      ⟨by simp only [bvs_length, List.length_take]; simp at hroom; omega, .inr ⟨g, cap, _, rfl, Nat.le_refl _, hg, by simpa using hroom, by unfold maxLen; omega, by simp [bvs_length, hcap], by simp [bvs_take]⟩⟩
    refine ⟨w, run_append_owned_none (P := Try.prog) w g 39 ty 5 i0 1 Try.underlying39 hi _ n _ hown, ?_, Below.refl _ _, rfl⟩
    simpa using hg
  | some ad =>
    have hcs : ∀ j u, (bvs m)[j]? = some u → w.cell? (ad.add j) = some u := by
      intro j u hj
      have hjl : j < m.length := by
        rcases Nat.lt_or_ge j m.length with h | h
        · exact h
        · rw [List.getElem?_eq_none (by rw [bvs_length]; exact h)] at hj; cases hj
      obtain ⟨ad', e, hc⟩ := hs.pos m.length (by simp [bvs_length]; omega)
      cases e
      exact hc j u (by rw [List.take_length]; exact hj)
    have hr := run_append_room (P := Try.prog) w 39 ty 5 i0 Try.underlying39 hi g n cap (bvs cur).toArray hg ad m.length c (bvs m) (by simp [bvs_length, hz1]) hcs (bvs_one _) hroom (by simp only [hz1, bvs_length, List.size_toArray]; omega)
    refine ⟨_, hr, ?_, below_setRow (Below.refl _ _) (Nat.le_refl _) _, by simp⟩
    rw [Blk, setRow_heap w g _ _ 5 _ hg]
    simp only [hz1, Nat.mul_one, bvs_append, bvs_take, bvs_drop, bvs_length, List.append_assoc]
theorem wpList_append_room {w : World} {ops : Array Oper} {rest : List Oper} {o : Oper} {a : Act} {Q : Exit → Act → World → Prop} (hgd : o.guard = none) (s x : Operand)
    (ho : o.op = .call { callee := .builtin .append, args := #[s, x], argTypes := #[39, 39] }) (g k cap : Nat) (cur m : List UInt8) (hs : a.eval s = .slice (some ⟨g, 0, none⟩) k cap) (sp : Option Addr) (n c : Nat) (hx : a.eval x = .slice sp n c) (hn : n = m.length)
    (hg : Blk w g 5 cur) (hcap : cur.length = cap) (hsrc : Src w sp m) (hroom : k + m.length ≤ cap) (hm : cap ≤ 281474976710656) (hnil : sp = none → c = 0)
    (h : ∀ w', Blk w' g 5 (cur.take k ++ m ++ cur.drop (k + m.length)) → Below g w w' → w'.heap.size = w.heap.size → wpList Try.prog ops Q rest (a.put o.dst (.slice (some ⟨g, 0, none⟩) (k + m.length) cap)) w') : wpList Try.prog ops Q (o :: rest) a w := by
  subst hn
  refine wpList_plain hgd fun K hK => ?_
  obtain ⟨w', hrun, h1, h2, h3⟩ := append_room o.type c hg hcap hsrc hroom hm hnil
  unfold Oper.wp execOp
  simp only [ho, resolve, invoke, builtin]
  simp [hs, hx, hrun, Result.andThen]
  exact hK _ _ (h w' h1 h2 h3)
end Go.Proofs.Ytikpnfnbmbaljaa
