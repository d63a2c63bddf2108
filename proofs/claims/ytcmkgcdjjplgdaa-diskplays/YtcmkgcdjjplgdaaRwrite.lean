/- The document's Write. -/
import Derived.Test.YtcmkgcdjjplgdaaRflush
import Derived.Deep.DeepCutAuto
namespace Go.Proofs.Ytcmkgcdjjplgdaa
open Go.RowKit
theorem Try.infoS : (Try.prog.info? 9).map (fun i => (i.zero, i.size, i.bytes)) = some (some (.string ⟨#[]⟩), 1, 16) := by kernel_rfl
def strs (l : List (List UInt8)) : List Value := l.map fun x => .string (str x)
theorem strs_length (l : List (List UInt8)) : (strs l).length = l.length := by simp [strs]
theorem strs_one (l : List (List UInt8)) : ∀ v ∈ strs l, v.oneCell' = true := by
  intro v hv; simp only [strs, List.mem_map] at hv; obtain ⟨b, _, rfl⟩ := hv; rfl
/-- A list of strings of the call's own. -/
def OwnS (w : World) (base : Nat) (v : Value) (l : List (List UInt8)) : Prop := w.ownsRow base 9 1 v l.length (strs l)
theorem OwnS.nil (w : World) (base : Nat) : OwnS w base (.slice none 0 0) [] := World.ownsRow_nil _ _ _ _
/-- From an address on lie these strings. -/
def SrcS (w : World) (b off : Nat) (l : List (List UInt8)) : Prop := ∀ j, (h : j < l.length) → w.cell? ⟨b, off + j, none⟩ = some (.string (str l[j]))
theorem append_str {w : World} {base b off : Nat} {v : Value} {l m : List (List UInt8)} (ty : TypeId) (c : Nat) (h : OwnS w base v l) (hs : SrcS w b off m) (hbase : base ≤ w.heap.size) (hb : l.length + m.length ≤ 2000000) :
    ∃ v' w', (Builtin.append_ #[65, 65] ty #[v, .slice (some ⟨b, off, none⟩) m.length c]).run Try.prog w = .ok v' w' ∧ OwnS w' base v' (l ++ m) ∧ Below base w w' := by
  obtain ⟨i0, hi, hz0, hz1, hz2⟩ := info_parts Try.infoS
  have hcs : ∀ j u, (strs m)[j]? = some u → w.cell? ((⟨b, off, none⟩ : Addr).add j) = some u := by
    intro j u hj
    have hjl : j < m.length := by
      rcases Nat.lt_or_ge j m.length with h | h
      · exact h
      · rw [List.getElem?_eq_none (by rw [strs_length]; exact h)] at hj; cases hj
    rw [addr_add, hs j hjl, ← hj]; simp [strs, hjl]
  obtain ⟨v', w', hr, hown, hgr, _⟩ := run_append_own (P := Try.prog) w base 65 ty 9 i0 _ 1 16 Try.underlying65 hi hz0 hz1 hz2 rfl (by decide) v l.length (strs l) h ⟨b, off, none⟩ m.length c (strs m) (by simp [strs_length]) hcs (strs_one _) (by unfold maxLen; omega) (by omega) hbase
  refine ⟨v', w', hr, ?_, (Below.refl _ _).grown hgr hbase (fun k hk => (World.ownsRow.lt h k hk).1)⟩
  unfold OwnS
  rw [List.length_append, show strs (l ++ m) = strs l ++ strs m by simp [strs]]
  exact hown
theorem wpList_append_str {w : World} {ops : Array Oper} {rest : List Oper} {o : Oper} {a : Act} {Q : Exit → Act → World → Prop} (hgd : o.guard = none) (s x : Operand)
    (ho : o.op = .call { callee := .builtin .append, args := #[s, x], argTypes := #[65, 65] }) (base : Nat) (l m : List (List UInt8)) (v : Value) (hs : a.eval s = v) (b off n c : Nat) (hx : a.eval x = .slice (some ⟨b, off, none⟩) n c) (hn : n = m.length)
    (hown : OwnS w base v l) (hsrc : SrcS w b off m) (hbase : base ≤ w.heap.size) (hb : l.length + m.length ≤ 2000000)
    (h : ∀ v' w', OwnS w' base v' (l ++ m) → Below base w w' → wpList Try.prog ops Q rest (a.put o.dst v') w') : wpList Try.prog ops Q (o :: rest) a w := by
  subst hn
  refine wpList_plain hgd fun K hK => ?_
  obtain ⟨v', w', hrun, h1, h2⟩ := append_str o.type c hown hsrc hbase hb
  unfold Oper.wp execOp
  simp only [ho, resolve, invoke, builtin]
  simp [hs, hx, hrun, Result.andThen]
  exact hK _ _ (h v' w' h1 h2)
theorem wp_append_str {w : World} {o : Oper} {a : Act} {K : Act → World → Prop} {Q : Exit → Act → World → Prop} (s x : Operand)
    (ho : o.op = .call { callee := .builtin .append, args := #[s, x], argTypes := #[65, 65] }) (base : Nat) (l m : List (List UInt8)) (v : Value) (hs : a.eval s = v) (b off n c : Nat) (hx : a.eval x = .slice (some ⟨b, off, none⟩) n c) (hn : n = m.length)
    (hown : OwnS w base v l) (hsrc : SrcS w b off m) (hbase : base ≤ w.heap.size) (hb : l.length + m.length ≤ 2000000)
    (h : ∀ v' w', OwnS w' base v' (l ++ m) → Below base w w' → K (a.put o.dst v') w') : o.wp Try.prog a w K Q := by
  subst hn
  obtain ⟨v', w', hrun, h1, h2⟩ := append_str o.type c hown hsrc hbase hb
  unfold Oper.wp execOp
  simp only [ho, resolve, invoke, builtin]
  simp [hs, hx, hrun, Result.andThen]
  exact h v' w' h1 h2
theorem OwnS.at0 {w : World} {base : Nat} {v : Value} {l : List (List UInt8)} (h : OwnS w base v l) (hl : 0 < l.length) : ∃ g c, v = .slice (some ⟨g, 0, none⟩) l.length c ∧ base ≤ g ∧ g < w.heap.size ∧ l.length ≤ c ∧ (c : Int) ≤ 9223372036854775807 ∧ SrcS w g 0 l := by
  obtain ⟨h1, h2⟩ := h
  rcases h2 with ⟨rfl, h3⟩ | ⟨g, cap, cur, rfl, hg, hh, hn, hm, hs, hx⟩
  · omega
  · refine ⟨g, cap, rfl, hg, (Array.getElem?_eq_some_iff.1 hh).1, hn, by unfold maxLen at hm; omega, fun j hj => ?_⟩
    rw [Nat.zero_add, cell_of_row w g j _ _ _ hh]
    have e : (cur.toList.take (l.length * 1))[j]? = (strs l)[j]? := by rw [hx]
    rw [List.getElem?_take] at e
    simp only [Nat.mul_one, hj, if_true] at e
    simpa [strs, hj] using e
theorem OwnS.grow {w w' : World} {base : Nat} {v : Value} {l : List (List UInt8)} (h : OwnS w base v l) (hb : Below w.heap.size w w') : OwnS w' base v l := owns_below h hb (Nat.le_refl _)
/-- What the last region of Write reads. -/
structure XS (W : World) (r gb n cb bb off : Nat) (d : List UInt8) : Prop where
  c0 : W.cell? ⟨r, 0, none⟩ = some (.slice (some ⟨gb, 0, none⟩) n cb)
  s : Src W (some ⟨bb, off, none⟩) d
section
variable {w : World} {base r n : Nat} {held : Bool} {left : Int} {ver : Nat → List (List UInt8)} {gb cb : Nat} {va vc : Nat → Nat}
attribute [local go_sem] wrapI
set_option maxHeartbeats 4000000 in
theorem rwrite_go (h : RefW w base r n held left ver gb cb va vc) (hl : 0 ≤ left ∧ left ≤ 9223372036854775807) (hg : goesB held left = true) (i : Nat) (hi : i < n) (hwn : (ver i).length < 1000000) (d : List UInt8) (hd : d.length = 256) (sp : Option Addr) (cap : Nat) (hs : Src w sp d) (hsr : ∀ b off, sp = some ⟨b, off, none⟩ → b ≠ r ∧ b ≠ gb) :
    Calls Try.prog 37 #[.pointer (some ⟨r, 0, none⟩), .int .i64 (i : Int), .slice sp 256 cap] w fun e w' => e = .returned (.int .i64 0) ∧ (∃ g, (∃ c, RefW w' base r n held (goesL held left) (upd ver i (ver i ++ [d])) gb cb (updN va i g) (updN vc i c)) ∧ w.heap.size ≤ g) ∧ Fr (RG r gb) w w' := by
  have TH := there_in h.at' i hi
  have GO := rgoes_any h hl
  rw [hg] at GO
  have hi' : (i : Int) < n := by omega
  have hrl := h.rl
  have hgl := h.at'.gl
  obtain ⟨bb, off, rfl, hbb, hcd⟩ := hs.at' (by omega)
  have HSR : Hid (bb ≠ r ∧ bb ≠ gb) := hsr bb off rfl
  have HS : Hid (Src w (some ⟨bb, off, none⟩) d) := hs
  clear h hs hsr hcd
  go_enter Try.func37, Try.ntmps37
  go_wp2_with fail
  refine TH.mono ?_
  rintro e w1 ⟨rfl, rfl⟩
  clear TH
  go_wp2_with fail
  refine GO.mono ?_
  rintro e w2 ⟨rfl, h2, f2⟩
  have HF2 : Hid (Fr (RG r gb) w1 w2) := f2.mono (fun k _ h => .inl h)
  have H2 : Hid _ := h2
  have c0 := h2.at'.c0
  have hrow := h2.at'.row i hi
  obtain ⟨cg, va_lt, hv1, hv2, hv3, hv4⟩ := hrow
  have hsv : SrcS w2 (va i) 0 (ver i) := fun j hj => by rw [Nat.zero_add]; exact h2.at'.vers i hi j hj
  have HSV : Hid (SrcS w2 (va i) 0 (ver i)) := hsv
  have HS2 : Hid (Src w2 (some ⟨bb, off, none⟩) d) := by
    rcases HS.out with h | ⟨b', off', e, hb1, hb2⟩
    · rw [h] at hd; simp at hd
    · cases e
      exact .inr ⟨bb, off, rfl, by have := f2.size; omega, fun j hj => (fr_cell f2 (a := ⟨bb, off + j, none⟩) hbb (fun e => HSR.out.1 e)).trans (hb2 j hj)⟩
  have hz2 := f2.size
  have HVL : Hid (∀ k, Rk r gb n va k → ¬ w2.heap.size ≤ k) := by
    rintro k (rfl | rfl | ⟨j, hj, rfl⟩)
    · have := h2.rl; omega
    · have := h2.at'.gl; omega
    · have := (h2.at'.row j hj).2.1; omega
  clear GO h2 f2 hsv HS
  go_upto_region 9 with (at_builtin; refine wpList_append_str rfl (.tmp 18) (.tmp 26) rfl w2.heap.size [] (ver i) _ rfl (va i) 0 _ _ rfl rfl (OwnS.nil _ _) HSV.out (Nat.le_refl _) (by simp; omega) ?_; intro v3 w3 o3 b3)
  rw [List.nil_append] at o3
  have H3 : Hid (RefW w3 base r n held (goesL held left) ver gb cb va vc) := H2.out.below b3
  have HF3 : Hid (Fr (RG r gb) w1 w3) := HF2.out.trans (Fr.of_below b3)
  have HS3 : Hid (Src w3 (some ⟨bb, off, none⟩) d) := HS2.out.below b3 (Nat.le_refl _)
  have HO3 : Hid (OwnS w3 w2.heap.size v3 (ver i)) := o3
  have hz3 := b3.size
  clear c0 cg o3 b3 HSV HF2 HS2 H2
  obtain ⟨g3, k3, rfl, _⟩ := HO3.out.at0 (by omega)
  have hS0 : XS w3.drew r gb n cb bb off d := ⟨H3.out.at'.c0, HS3.out⟩
  refine wp_region_held_drew (S := (fun W => XS W r gb n cb bb off d)) (by kernel_rfl) hS0 (fun hH => ?_)
  refine takeH (i := 0) (dst := some 28) (v := ?v1) rfl rfl (by kernel_rfl) (by kernel_rfl) (by kernel_rfl) (fun _ _ _ h => h) rfl ?hy1 hH rfl ?rest1
  case hy1 => (intro W hW; have q0 := hW.c0; have k1 := conv_str hW.s 256 cap hd.symm; clear hW; go_simp; try with_reducible rfl)
  (try simp only [Act.put, List.setIfInBounds_toArray, List.set_cons_zero, List.set_cons_succ])
  refine takeH (i := 1) (dst := some 29) (v := ?v2) rfl rfl (by kernel_rfl) (by kernel_rfl) (by kernel_rfl) (fun _ _ _ h => h) rfl ?hy2 hH rfl ?rest2
  case hy2 => (intro W hW; have q0 := hW.c0; have k1 := conv_str hW.s 256 cap hd.symm; clear hW; go_simp; try with_reducible rfl)
  (try simp only [Act.put, List.setIfInBounds_toArray, List.set_cons_zero, List.set_cons_succ])
  refine takeH (i := 2) (dst := some 30) (v := ?v3) rfl rfl (by kernel_rfl) (by kernel_rfl) (by kernel_rfl) (fun _ _ _ h => h) rfl ?hy3 hH rfl ?rest3
  case hy3 => (intro W hW; have q0 := hW.c0; have k1 := conv_str hW.s 256 cap hd.symm; clear hW; go_simp; try with_reducible rfl)
  (try simp only [Act.put, List.setIfInBounds_toArray, List.set_cons_zero, List.set_cons_succ])
  refine takeH (i := 3) (dst := some 31) (v := ?v4) rfl rfl (by kernel_rfl) (by kernel_rfl) (by kernel_rfl) (fun _ _ _ h => h) rfl ?hy4 hH rfl ?rest4
  case hy4 => (intro W hW; have q0 := hW.c0; have k1 := conv_str hW.s 256 cap hd.symm; clear hW; go_simp; try with_reducible rfl)
  (try simp only [Act.put, List.setIfInBounds_toArray, List.set_cons_zero, List.set_cons_succ])
  refine takeH (i := 4) (dst := some 32) (v := ?v5) rfl rfl (by kernel_rfl) (by kernel_rfl) (by kernel_rfl) (fun _ _ _ h => h) rfl ?hy5 hH rfl ?rest5
  case hy5 => (intro W hW; have q0 := hW.c0; have k1 := conv_str hW.s 256 cap hd.symm; clear hW; go_simp; try with_reducible rfl)
  (try simp only [Act.put, List.setIfInBounds_toArray, List.set_cons_zero, List.set_cons_succ])
  refine takeH (i := 5) (dst := some 33) (v := ?v6) rfl rfl (by kernel_rfl) (by kernel_rfl) (by kernel_rfl) (fun _ _ _ h => h) rfl ?hy6 hH rfl ?rest6
  case hy6 => (intro W hW; have q0 := hW.c0; have k1 := conv_str hW.s 256 cap hd.symm; clear hW; go_simp; try with_reducible rfl)
  (try simp only [Act.put, List.setIfInBounds_toArray, List.set_cons_zero, List.set_cons_succ])
  refine takeH (i := 6) (dst := some 34) (v := ?v7) rfl rfl (by kernel_rfl) (by kernel_rfl) (by kernel_rfl) (fun _ _ _ h => h) rfl ?hy7 hH rfl ?rest7
  case hy7 => (intro W hW; have q0 := hW.c0; have k1 := conv_str hW.s 256 cap hd.symm; clear hW; go_simp; try with_reducible rfl)
  (try simp only [Act.put, List.setIfInBounds_toArray, List.set_cons_zero, List.set_cons_succ])
  refine takeH (i := 7) (dst := some 35) (v := ?v8) rfl rfl (by kernel_rfl) (by kernel_rfl) (by kernel_rfl) (fun _ _ _ h => h) rfl ?hy8 hH rfl ?rest8
  case hy8 => (intro W hW; have q0 := hW.c0; have k1 := conv_str hW.s 256 cap hd.symm; clear hW; go_simp; try with_reducible rfl)
  (try simp only [Act.put, List.setIfInBounds_toArray, List.set_cons_zero, List.set_cons_succ])
  refine callH (i := 8) { dst := some 36, op := Go.Op.buildSlice 65 1 #[(0, Go.Operand.tmp 35)], type := 65, pos := "ref.go:99", after := #[{ on := 7, ground := Go.Ground.data }], guard := none } (by kernel_rfl) rfl rfl (fun K hK => ?_)
  go_simp
  have al : Below w3.heap.size w3 (w3.alloc (.cells #[.string (str d)] 9)).drew := ((Below.refl _ w3).alloc (Nat.le_refl _) _).drew
  have X4 : XS (w3.alloc (.cells #[.string (str d)] 9)).drew r gb n cb bb off d := ⟨(H3.out.below al).at'.c0, HS3.out.below al (Nat.le_refl _)⟩
  clear hH
  refine hK.out _ _ X4 (fun hH => ?_)
  clear hK K
  (try simp only [Act.put, List.setIfInBounds_toArray, List.set_cons_zero, List.set_cons_succ])
  refine callH (i := 9) { dst := some 37, op := Go.Op.call { callee := Go.Callee.builtin Go.Builtin.append, args := #[Go.Operand.tmp 33, Go.Operand.tmp 36], argTypes := #[65, 65] }, type := 65, pos := "ref.go:99", after := #[{ on := 5, ground := Go.Ground.data }, { on := 8, ground := Go.Ground.data }], guard := none } (by kernel_rfl) rfl rfl (fun K hK => ?_)
  rw [if_pos (by rfl)]
  refine wp_append_str _ _ rfl w2.heap.size (ver i) [d] (.slice (some ⟨g3, 0, none⟩) (ver i).length k3) rfl w3.heap.size 0 1 1 rfl rfl (HO3.out.grow al) (fun j hj => ?sr) (by have := al.size; omega) (by simp; omega) ?_
  case sr =>
    have : j = 0 := by simp at hj; omega
    subst this
    exact (cell_of_row (w3.alloc (.cells #[.string (str d)] 9)) w3.heap.size 0 #[.string (str d)] 9 (0, 0) (heap_alloc_new w3 _)).trans rfl
  intro v5 w5 o5 b5
  have hz4 := al.size
  have A4 : RefW (w3.alloc (.cells #[.string (str d)] 9)).drew base r n held (goesL held left) ver gb cb va vc := H3.out.below al
  have R5 : RefW w5 base r n held (goesL held left) ver gb cb va vc := A4.keep (S := fun k => w2.heap.size ≤ k) ⟨b5.size, fun k _ hS => b5.block k (by omega), b5.os, b5.tape, b5.output⟩ HVL.out
  have F5 : Fr (RG r gb) w1 w5 := ⟨by have := b5.size; have := HF3.out.size; omega, fun k hk hS => (b5.block k (by omega)).trans ((HF3.out.trans (Fr.of_below al)).blk k hk hS), b5.os.trans (HF3.out.trans (Fr.of_below al)).os, b5.tape.trans (HF3.out.trans (Fr.of_below al)).tape, b5.output.trans (HF3.out.trans (Fr.of_below al)).output⟩
  have X5 : XS w5 r gb n cb bb off d := ⟨R5.at'.c0, by
    rcases X4.s with h | ⟨b', off', e, hb1, hb2⟩
    · exact .inl h
    · cases e
      exact .inr ⟨bb, off, rfl, by have := b5.size; omega, fun j hj => (b5.cell (p := ⟨bb, off + j, none⟩) (show bb < w2.heap.size by omega)).trans (hb2 j hj)⟩⟩
  obtain ⟨g5, k5, e5, hg5, l5, hk5, hk6, s5⟩ := o5.at0 (by simp)
  rw [List.length_append, List.length_singleton] at e5 hk5
  subst e5
  clear al A4 b5 o5

  clear hH
  refine hK.out _ _ X5 (fun hH => ?_)
  clear hK K
  (try simp only [Act.put, List.setIfInBounds_toArray, List.set_cons_zero, List.set_cons_succ])
  refine takeH (i := 10) (dst := some 38) (v := ?v9) rfl rfl (by kernel_rfl) (by kernel_rfl) (by kernel_rfl) (fun _ _ _ h => h) rfl ?hy9 hH rfl ?rest9
  case hy9 => (intro W hW; have q0 := hW.c0; have k1 := conv_str hW.s 256 cap hd.symm; clear hW; go_simp; try with_reducible rfl)
  (try simp only [Act.put, List.setIfInBounds_toArray, List.set_cons_zero, List.set_cons_succ])
  refine takeH (i := 11) (dst := some 39) (v := ?v10) rfl rfl (by kernel_rfl) (by kernel_rfl) (by kernel_rfl) (fun _ _ _ h => h) rfl ?hy10 hH rfl ?rest10
  case hy10 => (intro W hW; have q0 := hW.c0; have k1 := conv_str hW.s 256 cap hd.symm; clear hW; go_simp; try with_reducible rfl)
  (try simp only [Act.put, List.setIfInBounds_toArray, List.set_cons_zero, List.set_cons_succ])
  have cg5 := (R5.at'.row i hi).1
  have fg5 := R5.fg i
  refine callH (i := 12) { dst := none, op := Go.Op.store 65 (Go.Operand.tmp 39) (Go.Operand.tmp 37), type := 0, pos := "ref.go:99", after := #[{ on := 11, ground := Go.Ground.data }, { on := 9, ground := Go.Ground.data }, { on := 9, ground := Go.Ground.chain }, { on := 0, ground := Go.Ground.phase }, { on := 1, ground := Go.Ground.phase }, { on := 2, ground := Go.Ground.phase }, { on := 3, ground := Go.Ground.phase }, { on := 4, ground := Go.Ground.phase }, { on := 5, ground := Go.Ground.phase }, { on := 6, ground := Go.Ground.phase }, { on := 7, ground := Go.Ground.phase }, { on := 8, ground := Go.Ground.phase }, { on := 9, ground := Go.Ground.phase }], guard := none } (by kernel_rfl) rfl rfl (fun K hK => ?_)
  go_simp
  have R6 := R5.setV i hi (ver i ++ [d]) g5 k5 (by simp; omega) l5 (by omega) (by omega) (fun j hj => by have := s5 j hj; rw [Nat.zero_add] at this; exact this)
  rw [List.length_append, List.length_singleton] at R6
  have F6 : Fr (RG r gb) w1 (w5.setCell ⟨gb, i, none⟩ (.slice (some ⟨g5, 0, none⟩) ((ver i).length + 1) k5)) := F5.setCell gb i _ (.inr rfl)
  have X6 : XS (w5.setCell ⟨gb, i, none⟩ (.slice (some ⟨g5, 0, none⟩) ((ver i).length + 1) k5)) r gb n cb bb off d := ⟨R6.at'.c0, by
    rcases X5.s with h | ⟨b', off', e, hb1, hb2⟩
    · exact .inl h
    · cases e
      exact .inr ⟨bb, off, rfl, by simpa [World.setCell] using hb1, fun j hj => (World.cell?_setCell_other _ _ _ _ (by intro e; exact HSR.out.2 (congrArg Addr.block e).symm)).trans (hb2 j hj)⟩⟩
  clear hH
  refine hK.out _ _ X6 (fun hH => ?_)
  clear hK K
  (try simp only [Act.put, List.setIfInBounds_toArray, List.set_cons_zero, List.set_cons_succ])
  refine wpAnyH_done (by kernel_rfl) ?_ _
  clear hH
  have HR6 : Hid _ := R6
  have HF6 : Hid _ := F6
  have hge : w1.heap.size ≤ g5 := by omega
  clear R6 F6 X6 X5 R5 F5 cg5 fg5 s5 hS0 X4
  go_wp2_with fail
  go_ret
  exact ⟨rfl, ⟨g5, ⟨k5, HR6.out⟩, hge⟩, HF6.out⟩
end
end Go.Proofs.Ytcmkgcdjjplgdaa
