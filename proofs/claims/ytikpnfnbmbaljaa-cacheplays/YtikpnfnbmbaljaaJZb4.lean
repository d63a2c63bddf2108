/- The document's cache in memory: a row of blocks; find. -/
import Derived.Test.YtikpnfnbmbaljaaJZdisk5
import Derived.Test.YtikpnfnbmbaljaaKCknown
import Derived.Deep.RegionLaw
import Derived.Deep.CutBlock
import Derived.Deep.DeepCutAuto
namespace Go.Proofs.Ytikpnfnbmbaljaa
open Go.RowKit
set_option maxRecDepth 100000
theorem size_alloc (w : World) (o : Obj) : (w.alloc o).heap.size = w.heap.size + 1 := alloc_size w o
set_option maxHeartbeats 1000000 in
theorem rread_new {w : World} {base r n : Nat} {held : Bool} {left : Int} {ver : Nat → List (List UInt8)} {gb cb : Nat} {va vc : Nat → Nat} (h : RefAt w base r n held left ver gb cb va vc) (i : Nat) (hi : i < n) (m : Nat) (y : List UInt8) (hm : (ver i).length = m + 1) (hy : (ver i)[m]? = some y) :
    Calls Try.prog 57 #[.pointer (some ⟨r, 0, none⟩), .int .i64 (i : Int)] w fun e w' => ∃ g c, e = .returned (.tuple #[.slice (some ⟨g, 0, none⟩) y.length c, .int .i64 0]) ∧ Src w' (some ⟨g, 0, none⟩) y ∧ Below w.heap.size w w' ∧ w.heap.size ≤ g := by
  have TH := there_in h i hi
  have c0 := h.c0
  have hi' : (i : Int) < n := by omega
  have hn := h.nn
  have hn' : (n : Int) ≤ 4096 := by omega
  obtain ⟨cr, _, hv1, hv2, _, _⟩ := h.row i hi
  have cv := h.vers i hi m (by omega)
  rw [show (ver i)[m] = y from by rw [List.getElem?_eq_getElem (by omega)] at hy; exact Option.some.inj hy] at cv
  rw [hm] at cr hv2
  have hm2 : (m : Int) + 1 ≤ 1000000 := by omega
  obtain ⟨c, w2, hcv, hsv, hbv⟩ := str_bytes w y
  clear h hm hy hv1
  go_enter Try.func57, Try.ntmps57
  go_wp2_with fail
  refine TH.mono ?_
  rintro e w1 ⟨rfl, rfl⟩
  clear TH
  go_wp2
  go_ret2
  exact ⟨_, _, rfl, hsv, hbv, Nat.le_refl _⟩
theorem ownsRow_mono {w : World} {base b' e size n : Nat} {v : Value} {xs : List Value} (h : w.ownsRow base e size v n xs) (hb : b' ≤ base) : w.ownsRow b' e size v n xs := by
  obtain ⟨h1, h2⟩ := h
  refine ⟨h1, ?_⟩
  rcases h2 with h2 | ⟨g, cap, cur, hv, hg, rest⟩
  · exact .inl h2
  · exact .inr ⟨g, cap, cur, hv, by omega, rest⟩
theorem row_same {w w' : World} {base e size : Nat} {v : Value} {m : Nat} {xs : List Value} (h : w.ownsRow base e size v m xs) (hb : ∀ k, v.ownBlock = some k → w'.heap[k]? = w.heap[k]?) : w'.ownsRow base e size v m xs := by
  obtain ⟨h1, h2⟩ := h
  refine ⟨h1, ?_⟩
  rcases h2 with h2 | ⟨g, cap, cur, hv, hg, hh, r⟩
  · exact .inl h2
  · exact .inr ⟨g, cap, cur, hv, hg, by rw [hb g (by rw [hv]; rfl)]; exact hh, r⟩
theorem step_app {ops : Array Oper} {o : Oper} {a : Act} {w : World} {K : Act → World → Prop} {Q : Exit → Act → World → Prop} {E : Prop} (hgd : o.guard = none) (s x : Operand) (t : TypeId)
    (ho : o.op = .call { callee := .builtin .append, args := #[s, x], argTypes := #[t, t] }) (base e : Nat) (i0 : TypeInfo) (z : Value) (size bytes : Nat) (hu : Try.prog.underlying t = some (.slice e)) (hi : Try.prog.info? e = some i0) (hz0 : i0.zero = some z) (hz1 : i0.size = size) (hz2 : i0.bytes = bytes) (hz3 : z.cells.size = size) (hsz : 0 < size) (hby : bytes ≤ 1000)
    (n : Nat) (xs ys : List Value) (v : Value) (hs : a.eval s = v) (g c : Nat) (hx : a.eval x = .slice (some ⟨g, 0, none⟩) 1 c) (hown : w.ownsRow base e size v n xs) (hyl : ys.length = size) (hsrc : ∀ j u, ys[j]? = some u → w.cell? ⟨g, j, none⟩ = some u) (hone : ∀ u ∈ ys, u.oneCell' = true) (hbase : base ≤ w.heap.size) (hb : n ≤ 1000000)
    (h : ∀ G cap w', w'.ownsRow base e size (.slice (some ⟨G, 0, none⟩) (n + 1) cap) (n + 1) (xs ++ ys) → w.grownBy w' v.ownBlock → (v.ownBlock = some G ∨ w.heap.size ≤ G) → K (a.put o.dst (.slice (some ⟨G, 0, none⟩) (n + 1) cap)) w') :
    if Region.wanted o (yielded ops a.tmps) = true then Oper.wp Try.prog o a w K Q else E := by
  have hw : Region.wanted o (yielded ops a.tmps) = true := by simp [Region.wanted, hgd]
  rw [if_pos hw]
  obtain ⟨G, cap, w', hr, hown', hgr, hat, _⟩ := run_append_lies (P := Try.prog) w t o.type base e i0 z size bytes hu hi hz0 hz1 hz2 hz3 hsz v n xs hown ⟨g, 0, none⟩ 1 c ys (by rw [hyl]; omega) (fun j u hj => by rw [addr_add, Nat.zero_add]; exact hsrc j u hj) hone (by omega) (by unfold maxLen; omega) (by
    have : (n + 1) * bytes ≤ 1000001 * 1000 := Nat.mul_le_mul (by omega) hby
    omega) hbase _ rfl
  unfold Oper.wp execOp
  simp only [ho, resolve, invoke, builtin]
  simp [hs, hx, hr, Result.andThen]
  refine h G cap w' hown' hgr ?_
  rcases hat with hat | hat
  · exact .inl hat
  · exact .inr (by omega)
theorem wpList_app {ops : Array Oper} {rest : List Oper} {o : Oper} {a : Act} {w : World} {Q : Exit → Act → World → Prop} (hgd : o.guard = none) (s x : Operand) (t : TypeId)
    (ho : o.op = .call { callee := .builtin .append, args := #[s, x], argTypes := #[t, t] }) (base e : Nat) (i0 : TypeInfo) (z : Value) (size bytes : Nat) (hu : Try.prog.underlying t = some (.slice e)) (hi : Try.prog.info? e = some i0) (hz0 : i0.zero = some z) (hz1 : i0.size = size) (hz2 : i0.bytes = bytes) (hz3 : z.cells.size = size) (hsz : 0 < size) (hby : bytes ≤ 1000)
    (n : Nat) (xs ys : List Value) (v : Value) (hs : a.eval s = v) (g c : Nat) (hx : a.eval x = .slice (some ⟨g, 0, none⟩) 1 c) (hown : w.ownsRow base e size v n xs) (hyl : ys.length = size) (hsrc : ∀ j u, ys[j]? = some u → w.cell? ⟨g, j, none⟩ = some u) (hone : ∀ u ∈ ys, u.oneCell' = true) (hbase : base ≤ w.heap.size) (hb : n ≤ 1000000)
    (h : ∀ G cap w', w'.ownsRow base e size (.slice (some ⟨G, 0, none⟩) (n + 1) cap) (n + 1) (xs ++ ys) → w.grownBy w' v.ownBlock → (v.ownBlock = some G ∨ w.heap.size ≤ G) → wpList Try.prog ops Q rest (a.put o.dst (.slice (some ⟨G, 0, none⟩) (n + 1) cap)) w') : wpList Try.prog ops Q (o :: rest) a w := by
  obtain ⟨G, cap, w', hr, hown', hgr, hat, _⟩ := run_append_lies (P := Try.prog) w t o.type base e i0 z size bytes hu hi hz0 hz1 hz2 hz3 hsz v n xs hown ⟨g, 0, none⟩ 1 c ys (by rw [hyl]; omega) (fun j u hj => by rw [addr_add, Nat.zero_add]; exact hsrc j u hj) hone (by omega) (by unfold maxLen; omega) (by
    have : (n + 1) * bytes ≤ 1000001 * 1000 := Nat.mul_le_mul (by omega) hby
    omega) hbase _ rfl
  refine wpList_plain hgd fun K hK => ?_
  unfold Oper.wp execOp
  simp only [ho, resolve, invoke, builtin]
  simp [hs, hx, hr, Result.andThen]
  refine hK _ _ (h G cap w' hown' hgr ?_)
  rcases hat with hat | hat
  · exact .inl hat
  · exact .inr (by omega)
/-- A block in the document's memory. -/
structure Bf where
  b : Nat
  d : List UInt8
  pin : Nat
def bfL (x : Bf) : List Value := [.int .i64 (x.b : Int), .string (str x.d), .int .i64 (x.pin : Int)]
def bfs (L : List Bf) : List Value := (L.map bfL).flatten
theorem bfs_snoc (L : List Bf) (c : Bf) : bfs (L ++ [c]) = bfs L ++ bfL c := by simp [bfs]
theorem Try.infoBf : (Try.prog.info? 74).map (fun i => (i.zero.map fun z => z.cells.size, i.size, i.bytes)) = some (some 3, 3, 32) := by kernel_rfl
theorem infoBf_parts : ∃ i0 z, Try.prog.info? 74 = some i0 ∧ i0.zero = some z ∧ z.cells.size = 3 ∧ i0.size = 3 ∧ i0.bytes = 32 := by
  have h := Try.infoBf
  cases hi : Try.prog.info? 74 with
  | none => rw [hi] at h; cases h
  | some i0 =>
    rw [hi] at h
    simp only [Option.map_some, Option.some.injEq, Prod.mk.injEq] at h
    cases hz : i0.zero with
    | none => rw [hz] at h; cases h.1
    | some z =>
      rw [hz] at h
      exact ⟨i0, z, rfl, hz, Option.some.inj h.1, h.2.1, h.2.2⟩
theorem bfs_get : ∀ (L : List Bf) (i : Nat) (c : Bf), L[i]? = some c → ∀ (j : Nat) (v : Value), (bfL c)[j]? = some v → (bfs L)[i * 3 + j]? = some v
  | [], i, c, h, _, _, _ => by cases h
  | a :: L, 0, c, h, j, v, hv => by
    cases h
    have hj : j < (bfL a).length := (List.getElem?_eq_some_iff.1 hv).1
    show ((bfL a) ++ bfs L)[0 * 3 + j]? = _
    rw [Nat.zero_mul, Nat.zero_add, List.getElem?_append_left hj]
    exact hv
  | a :: L, i + 1, c, h, j, v, hv => by
    have := bfs_get L i c (by simpa using h) j v hv
    show ((bfL a) ++ bfs L)[(i + 1) * 3 + j]? = _
    rw [List.getElem?_append_right (by show 3 ≤ _; omega), show (i + 1) * 3 + j - (bfL a).length = i * 3 + j by show (i + 1) * 3 + j - 3 = _; omega]
    exact this
/-- A row of blocks, cell by cell. -/
structure BAt (w : World) (ao : Option Addr) (ca : Nat) (L : List Bf) : Prop where
  cap : L.length ≤ ca ∧ (ca : Int) ≤ 9223372036854775807
  cells : L = [] ∨ ∃ g, ao = some ⟨g, 0, none⟩ ∧ g < w.heap.size ∧ ∀ (i : Nat) (c : Bf), L[i]? = some c → ∀ (j : Nat) (v : Value), (bfL c)[j]? = some v → w.cell? ⟨g, i * 3 + j, none⟩ = some v
/-- A row of one's own. -/
def OwnB (w : World) (v : Value) (L : List Bf) : Prop := w.ownsRow 0 74 3 v L.length (bfs L)
theorem OwnB.form {w : World} {v : Value} {L : List Bf} (h : OwnB w v L) : ∃ ao ca, v = .slice ao L.length ca ∧ BAt w ao ca L := by
  obtain ⟨h1, h2⟩ := h
  rcases h2 with ⟨rfl, h3⟩ | ⟨g, cap, cur, rfl, hg, hh, hn, hm, hs, hx⟩
  · have e : L = [] := List.eq_nil_of_length_eq_zero h3
    subst e
    exact ⟨none, 0, rfl, ⟨by simp, .inl rfl⟩⟩
  · refine ⟨_, cap, rfl, ⟨⟨hn, by unfold maxLen at hm; omega⟩, .inr ⟨g, rfl, (Array.getElem?_eq_some_iff.1 hh).1, fun i c hi j v hj => ?_⟩⟩⟩
    have hr := bfs_get L i c hi j v hj
    have hlt : i * 3 + j < L.length * 3 := by rw [← h1]; exact (List.getElem?_eq_some_iff.1 hr).1
    rw [cell_of_row _ _ _ _ _ _ hh, ← Array.getElem?_toList, ← hr, ← hx, List.getElem?_take, if_pos hlt]
theorem OwnB.lt {w : World} {v : Value} {L : List Bf} (h : OwnB w v L) : ∀ k, v.ownBlock = some k → k < w.heap.size := fun k hk => (World.ownsRow.lt h k hk).2
theorem OwnB.keep {w w' : World} {v : Value} {L : List Bf} {S : Nat → Prop} (h : OwnB w v L) (hf : Fr S w w') (hS : ∀ k, v.ownBlock = some k → ¬ S k) : OwnB w' v L := row_same h fun k hk => hf.blk k (h.lt k hk) (hS k hk)
/-- The document's cache at q: its disk, its row of blocks, how many there may be. -/
structure QC (w : World) (q ed most : Nat) (v : Value) (L : List Bf) : Prop where
  at' : w.heap[q]? = some (.cells #[.pointer (some ⟨ed, 0, none⟩), v, .int .i64 (most : Int)] 63 (0, 0))
  own : OwnB w v L
  qv : v.ownBlock ≠ some q
  len : L.length ≤ 4096
section
variable {w w' : World} {q ed most : Nat} {v : Value} {L : List Bf}
theorem QC.ql (h : QC w q ed most v L) : q < w.heap.size := (Array.getElem?_eq_some_iff.1 h.at').1
theorem QC.c0 (h : QC w q ed most v L) : w.cell? ⟨q, 0, none⟩ = some (.pointer (some ⟨ed, 0, none⟩)) := (cell_of_row _ _ _ _ _ _ h.at').trans rfl
theorem QC.c1 (h : QC w q ed most v L) : w.cell? ⟨q, 1, none⟩ = some v := (cell_of_row _ _ _ _ _ _ h.at').trans rfl
theorem QC.c2 (h : QC w q ed most v L) : w.cell? ⟨q, 2, none⟩ = some (.int .i64 (most : Int)) := (cell_of_row _ _ _ _ _ _ h.at').trans rfl
theorem QC.keep (h : QC w q ed most v L) {S : Nat → Prop} (hf : Fr S w w') (hq : ¬ S q) (hS : ∀ k, v.ownBlock = some k → ¬ S k) : QC w' q ed most v L :=
  ⟨(hf.blk q h.ql hq).trans h.at', h.own.keep hf hS, h.qv, h.len⟩
theorem QC.up (h : QC w q ed most v L) (hb : Below w.heap.size w w') : QC w' q ed most v L := h.keep (S := fun _ => False) (Fr.of_below hb) (fun h => h) (fun _ _ h => h)
/-- Where a block stands. -/
def fdB : List Bf → Int → Nat → Int
  | [], _, _ => -1
  | c :: L, x, k => if (c.b : Int) = x then (k : Int) else fdB L x (k + 1)
theorem fdB_drop (L : List Bf) (x : Int) (k : Nat) (c : Bf) (h : L[k]? = some c) : fdB (L.drop k) x k = if (c.b : Int) = x then (k : Int) else fdB (L.drop (k + 1)) x (k + 1) := by
  obtain ⟨hk, e⟩ := List.getElem?_eq_some_iff.1 h
  rw [List.drop_eq_getElem_cons hk, fdB, e]
set_option maxHeartbeats 2000000 in
theorem qfind_any (h : QC w q ed most v L) (x : Int) :
    Calls Try.prog 39 #[.pointer (some ⟨q, 0, none⟩), .int .i64 x] w fun e w' => e = .returned (.int .i64 (fdB L x 0)) ∧ w' = w := by
  obtain ⟨ao, ca, rfl, hLA⟩ := h.own.form
  have c1 := h.c1
  have HL : Hid (BAt w ao ca L) := hLA
  have hca : (ca : Int) ≤ 9223372036854775807 := hLA.cap.2
  have hl : L.length ≤ 1000000 := by have := h.len; omega
  clear hLA
  clear h
  go_enter Try.func39, Try.ntmps39
  go_wp2_with fail
  go_loopg [5] L.length (fun gg t5 W => ∃ (gw : World) (k : Nat), gw = W ∧ Hid (w = gw) ∧ k ≤ L.length ∧ L.length - k ≤ gg ∧ t5 = .int .i64 k ∧ Hid (fdB L x 0 = fdB (L.drop k) x k))
  case atStart => exact ⟨_, 0, rfl, rfl, by omega, by omega, rfl, rfl⟩
  case round =>
    obtain ⟨gw, k, rfl, HW, hk, hgk, rfl, HF⟩ := hrel
    obtain rfl : w = gw := HW.out
    clear HW
    by_cases hlt : (k : Int) < (L.length : Int)
    · obtain ⟨c, hc⟩ : ∃ c, L[k]? = some c := ⟨_, List.getElem?_eq_getElem (by omega)⟩
      obtain ⟨g, rfl, hg, hcc⟩ : ∃ g, ao = some ⟨g, 0, none⟩ ∧ g < w.heap.size ∧ w.cell? ⟨g, k * 3, none⟩ = some (.int .i64 (c.b : Int)) := by
        rcases HL.out.cells with e | ⟨g, e, hg, hcc⟩
        · rw [e] at hc; cases hc
        · exact ⟨g, e, hg, hcc k c hc 0 _ rfl⟩
      have HF2 : Hid (fdB L x 0 = if (c.b : Int) = x then (k : Int) else fdB (L.drop (k + 1)) x (k + 1)) := HF.out.trans (fdB_drop L x k c hc)
      clear HF hc
      by_cases hx : (c.b : Int) = x
      · have hxb : ((c.b : Int) == x) = true := by simpa using hx
        go_wp2_with fail
        go_ret
        exact ⟨by rw [HF2.out, if_pos hx]; rfl, rfl⟩
      · have hxb : ((c.b : Int) == x) = false := by simpa using hx
        have HF3 : Hid (fdB L x 0 = fdB (L.drop (k + 1)) x (k + 1)) := by show _ = _; rw [HF2.out, if_neg hx]
        have HX : Hid (¬ (c.b : Int) = x) := hx
        clear hx HF2
        go_wp2_with fail
        go_roundg (L.length - (k + 1))
        case measure => omega
        case rel => exact ⟨_, k + 1, rfl, rfl, by omega, by omega, by go_num, HF3⟩
    · have HE : Hid (fdB L x 0 = -1) := by
        show _ = _
        rw [HF.out, List.drop_eq_nil_of_le (by omega)]; rfl
      go_wp2_with fail
      go_ret
      exact ⟨by rw [HE.out]; rfl, rfl⟩
theorem fdB_no : ∀ {L : List Bf} {x : Int} {k : Nat}, (∀ c ∈ L, ¬ (c.b : Int) = x) → fdB L x k = -1
  | [], _, _, _ => rfl
  | c :: L, x, k, h => by
    rw [fdB, if_neg (h c (by simp))]
    exact fdB_no fun d hd => h d (by simp [hd])
theorem fdB_at : ∀ {A B : List Bf} {c : Bf} {k : Nat}, (∀ d ∈ A, ¬ d.b = c.b) → fdB (A ++ c :: B) (c.b : Int) k = ((k + A.length : Nat) : Int)
  | [], B, c, k, _ => by simp [fdB]
  | d :: A, B, c, k, h => by
    have h1 := h d (by simp)
    rw [List.cons_append, fdB, if_neg (by omega), fdB_at fun e he => h e (by simp [he])]
    simp only [List.length_cons]
    omega
end
end Go.Proofs.Ytikpnfnbmbaljaa
/- The document's cache: dirty, take. -/
namespace Go.Proofs.Ytikpnfnbmbaljaa
open Go.RowKit
set_option maxRecDepth 100000
section
variable {w w' : World} {q ed most : Nat} {v : Value} {L : List Bf}
theorem str_eq (a b : List UInt8) : ((str a).toList == (str b).toList) = (a == b) := by
  rw [Bool.eq_iff_iff]
  constructor
  · intro h
    have h2 := beq_iff_eq.1 h
    have : a = b := by
      apply str_inj
      rw [ByteArray.toList_eq, ByteArray.toList_eq] at h2
      exact WideShapes.bytes_inj h2
    simp [this]
  · intro h
    rw [beq_iff_eq.1 h]; simp
set_option maxHeartbeats 2000000 in
theorem qdirty_any {base n gb cb : Nat} {ver : Nat → List (List UInt8)} {va vc : Nat → Nat} (h : QC w q ed most v L) (hd : RefW w base ed n false 0 ver gb cb va vc) (x : Bf) (hx : x.b < n) (m : Nat) (y : List UInt8) (hm : (ver x.b).length = m + 1) (hy : (ver x.b)[m]? = some y) :
    Calls Try.prog 40 #[.pointer (some ⟨q, 0, none⟩), .agg (bfL x).toArray] w fun e w' => e = .returned (.bool (!(y == x.d))) ∧ Below w.heap.size w w' := by
  have HB1 : Hid (Below w.heap.size w (w.alloc (.cells (bfL x).toArray 74))) := (Below.refl _ _).alloc (Nat.le_refl _) _
  have hrow := heap_alloc_new w (.cells (bfL x).toArray 74)
  have hz1 := size_alloc w (.cells (bfL x).toArray 74)
  have HH : Hid (QC w q ed most v L ∧ RefW w base ed n false 0 ver gb cb va vc) := ⟨h, hd⟩
  have HX : Hid (x.b < n ∧ (ver x.b).length = m + 1 ∧ (ver x.b)[m]? = some y) := ⟨hx, hm, hy⟩
  clear h hd hx hm hy
  unfold bfL at *
  go_enter Try.func40, Try.ntmps40
  go_upto_region 1 with fail
  have b0 : (w.alloc (.cells #[.int .i64 (x.b : Int), .string (str x.d), .int .i64 (x.pin : Int)] 74)).cell? ⟨w.heap.size, 0, none⟩ = some (.int .i64 (x.b : Int)) := (cell_of_row _ _ _ _ _ _ hrow).trans rfl
  have b1 : (w.alloc (.cells #[.int .i64 (x.b : Int), .string (str x.d), .int .i64 (x.pin : Int)] 74)).cell? ⟨w.heap.size, 1, none⟩ = some (.string (str x.d)) := (cell_of_row _ _ _ _ _ _ hrow).trans rfl
  generalize w.alloc (.cells #[.int .i64 (x.b : Int), .string (str x.d), .int .i64 (x.pin : Int)] 74) = W1 at *
  have HBD : Hid (Below w.heap.size w W1.drew) := HB1.out.trans ((Below.refl W1.heap.size W1).drew.mono HB1.out.size)
  have HZ : Hid (w.heap.size < W1.heap.size) := by show _ < _; omega
  have S0 : Hid (W1.drew.cell? ⟨q, 0, none⟩ = some (.pointer (some ⟨ed, 0, none⟩)) ∧ W1.drew.cell? ⟨w.heap.size, 0, none⟩ = some (.int .i64 (x.b : Int))) := ⟨(HH.out.1.up HBD.out).c0, b0⟩
  have HB1C : Hid (W1.drew.cell? ⟨w.heap.size, 1, none⟩ = some (.string (str x.d))) := b1
  have RD := rread_in (HH.out.2.below HBD.out).at' x.b HX.out.1 m y HX.out.2.1 HX.out.2.2
  clear hrow hz1 b0 b1
  refine wp_region_held_drew (S := (fun W => W.cell? ⟨q, 0, none⟩ = some (.pointer (some ⟨ed, 0, none⟩)) ∧ W.cell? ⟨w.heap.size, 0, none⟩ = some (.int .i64 (x.b : Int)))) (by kernel_rfl) S0.out (fun hH => ?_)
  refine takeH (i := 0) (dst := some 8) (v := ?v1) rfl rfl (by kernel_rfl) (by kernel_rfl) (by kernel_rfl) (fun _ _ _ h => h) rfl ?hy1 hH rfl ?rest1
  case hy1 => (intro W hW; (try dsimp only at hW); go_simp; try with_reducible rfl)
  (try simp only [Act.put, List.setIfInBounds_toArray, List.set_cons_zero, List.set_cons_succ])
  refine takeH (i := 1) (dst := some 9) (v := ?v2) rfl rfl (by kernel_rfl) (by kernel_rfl) (by kernel_rfl) (fun _ _ _ h => h) rfl ?hy2 hH rfl ?rest2
  case hy2 => (intro W hW; (try dsimp only at hW); go_simp; try with_reducible rfl)
  (try simp only [Act.put, List.setIfInBounds_toArray, List.set_cons_zero, List.set_cons_succ])
  refine takeH (i := 2) (dst := some 10) (v := ?v3) rfl rfl (by kernel_rfl) (by kernel_rfl) (by kernel_rfl) (fun _ _ _ h => h) rfl ?hy3 hH rfl ?rest3
  case hy3 => (intro W hW; (try dsimp only at hW); go_simp; try with_reducible rfl)
  (try simp only [Act.put, List.setIfInBounds_toArray, List.set_cons_zero, List.set_cons_succ])
  refine takeH (i := 3) (dst := some 11) (v := ?v4) rfl rfl (by kernel_rfl) (by kernel_rfl) (by kernel_rfl) (fun _ _ _ h => h) rfl ?hy4 hH rfl ?rest4
  case hy4 => (intro W hW; obtain ⟨e0, e1⟩ := hW; go_simp; try with_reducible rfl)
  (try simp only [Act.put, List.setIfInBounds_toArray, List.set_cons_zero, List.set_cons_succ])
  refine takeH (i := 4) (dst := some 12) (v := ?v5) rfl rfl (by kernel_rfl) (by kernel_rfl) (by kernel_rfl) (fun _ _ _ h => h) rfl ?hy5 hH rfl ?rest5
  case hy5 => (intro W hW; (try dsimp only at hW); go_simp; try with_reducible rfl)
  (try simp only [Act.put, List.setIfInBounds_toArray, List.set_cons_zero, List.set_cons_succ])
  refine takeH (i := 5) (dst := some 13) (v := ?v6) rfl rfl (by kernel_rfl) (by kernel_rfl) (by kernel_rfl) (fun _ _ _ h => h) rfl ?hy6 hH rfl ?rest6
  case hy6 => (intro W hW; obtain ⟨e0, e1⟩ := hW; go_simp; try with_reducible rfl)
  (try simp only [Act.put, List.setIfInBounds_toArray, List.set_cons_zero, List.set_cons_succ])
  refine callH (i := 6) { dst := some 14, op := Go.Op.call { callee := Go.Callee.value (Go.Operand.func 57), args := #[Go.Operand.tmp 11, Go.Operand.tmp 13], argTypes := #[28, 3] }, type := 64, pos := "ref.go:33", after := #[{ on := 3, ground := Go.Ground.data }, { on := 5, ground := Go.Ground.data }], guard := none } (by kernel_rfl) rfl rfl (fun K hK => ?_)
  go_simp
  refine RD.mono ?_
  clear RD
  rintro r w2 ⟨g, c, rfl, hs, hb⟩
  have CV := conv_str hs y.length c rfl
  have b1 : w2.cell? ⟨w.heap.size, 1, none⟩ = some (.string (str x.d)) := (hb.cell (p := ⟨w.heap.size, 1, none⟩) HZ.out).trans HB1C.out
  have HB2 : Hid (Below w.heap.size w w2) := HBD.out.trans (hb.mono HBD.out.size)
  have S2 : Hid (w2.cell? ⟨q, 0, none⟩ = some (.pointer (some ⟨ed, 0, none⟩)) ∧ w2.cell? ⟨w.heap.size, 0, none⟩ = some (.int .i64 (x.b : Int))) := ⟨(HH.out.1.up HB2.out).c0, (hb.cell (p := ⟨w.heap.size, 0, none⟩) HZ.out).trans S0.out.2⟩
  clear hs hb
  clear hH
  refine hK.out _ _ S2.out (fun hH => ?_)
  clear hK K
  (try simp only [Act.put, List.setIfInBounds_toArray, List.set_cons_zero, List.set_cons_succ])
  refine takeH (i := 7) (dst := some 7) (v := ?v7) rfl rfl (by kernel_rfl) (by kernel_rfl) (by kernel_rfl) (fun _ _ _ h => h) rfl ?hy7 hH rfl ?rest7
  case hy7 => (intro W hW; (try dsimp only at hW); go_simp; try with_reducible rfl)
  (try simp only [Act.put, List.setIfInBounds_toArray, List.set_cons_zero, List.set_cons_succ])
  refine takeH (i := 8) (dst := some 15) (v := ?v8) rfl rfl (by kernel_rfl) (by kernel_rfl) (by kernel_rfl) (fun _ _ _ h => h) rfl ?hy8 hH rfl ?rest8
  case hy8 => (intro W hW; (try dsimp only at hW); go_simp; try with_reducible rfl)
  (try simp only [Act.put, List.setIfInBounds_toArray, List.set_cons_zero, List.set_cons_succ])
  refine takeH (i := 9) (dst := some 16) (v := ?v9) rfl rfl (by kernel_rfl) (by kernel_rfl) (by kernel_rfl) (fun _ _ _ h => h) rfl ?hy9 hH rfl ?rest9
  case hy9 => (intro W hW; (try dsimp only at hW); go_simp; try with_reducible rfl)
  (try simp only [Act.put, List.setIfInBounds_toArray, List.set_cons_zero, List.set_cons_succ])
  refine takeH (i := 10) (dst := some 5) (v := ?v10) rfl rfl (by kernel_rfl) (by kernel_rfl) (by kernel_rfl) (fun _ _ _ h => h) rfl ?hy10 hH rfl ?rest10
  case hy10 => (intro W hW; (try dsimp only at hW); go_simp; try with_reducible rfl)
  (try simp only [Act.put, List.setIfInBounds_toArray, List.set_cons_zero, List.set_cons_succ])
  refine takeH (i := 11) (dst := some 6) (v := ?v11) rfl rfl (by kernel_rfl) (by kernel_rfl) (by kernel_rfl) (fun _ _ _ h => h) rfl ?hy11 hH rfl ?rest11
  case hy11 => (intro W hW; (try dsimp only at hW); go_simp; try with_reducible rfl)
  (try simp only [Act.put, List.setIfInBounds_toArray, List.set_cons_zero, List.set_cons_succ])
  refine wpAnyH_done (by kernel_rfl) ?_ _
  clear hH
  have RE := str_eq y x.d
  obtain ⟨eqb, heq⟩ : ∃ eqb, (y == x.d) = eqb := ⟨_, rfl⟩
  rw [heq] at RE
  have HEQ : Hid ((y == x.d) = eqb) := heq
  clear heq
  go_wp2_with fail
  go_ret
  exact ⟨by rw [HEQ.out]; rfl, HB2.out⟩
end
end Go.Proofs.Ytikpnfnbmbaljaa
/- The document's cache: take. -/
namespace Go.Proofs.Ytikpnfnbmbaljaa
open Go.RowKit
set_option maxRecDepth 100000
/-- The last one of a number. -/
def tkB (L : List Bf) (b : Int) : Bf := ((L.filter fun c => decide ((c.b : Int) = b)).getLast?).getD ⟨0, [], 0⟩
def hsB (L : List Bf) (b : Int) : Bool := L.any fun c => decide ((c.b : Int) = b)
def ltB (L : List Bf) (b : Int) : List Bf := L.filter fun c => !decide ((c.b : Int) = b)
theorem take_yes {L : List Bf} {k : Nat} {c : Bf} {b : Int} (hc : L[k]? = some c) (h : (c.b : Int) = b) : tkB (L.take (k + 1)) b = c ∧ hsB (L.take (k + 1)) b = true ∧ ltB (L.take (k + 1)) b = ltB (L.take k) b := by
  have e : L.take (k + 1) = L.take k ++ [c] := by rw [List.take_add_one, hc]; rfl
  rw [e]
  unfold tkB hsB ltB
  refine ⟨?_, ?_, ?_⟩
  · rw [List.filter_append, List.filter_cons_of_pos (by simpa using h)]
    simp
  · rw [List.any_append]; simp [h]
  · rw [List.filter_append, List.filter_cons_of_neg (by simpa using h)]
    simp
theorem take_no {L : List Bf} {k : Nat} {c : Bf} {b : Int} (hc : L[k]? = some c) (h : ¬ (c.b : Int) = b) : tkB (L.take (k + 1)) b = tkB (L.take k) b ∧ hsB (L.take (k + 1)) b = hsB (L.take k) b ∧ ltB (L.take (k + 1)) b = ltB (L.take k) b ++ [c] := by
  have e : L.take (k + 1) = L.take k ++ [c] := by rw [List.take_add_one, hc]; rfl
  rw [e]
  unfold tkB hsB ltB
  refine ⟨?_, ?_, ?_⟩
  · rw [List.filter_append, List.filter_cons_of_neg (by simpa using h)]
    simp
  · rw [List.any_append]; simp [h]
  · rw [List.filter_append, List.filter_cons_of_pos (by simpa using h)]
    simp
theorem ltB_len (L : List Bf) (b : Int) : (ltB L b).length ≤ L.length := List.length_filter_le _ _
section
variable {w w' : World} {q ed most : Nat} {v : Value} {L : List Bf}
/-- A record of a block in memory. -/
def BoxB (w : World) (p : Nat) (x : Bf) : Prop := w.heap[p]? = some (.cells (bfL x).toArray 74 (0, 0))
theorem BoxB.set {p : Nat} {x : Bf} (h : BoxB w p x) (y : Bf) : BoxB (((w.setCell ⟨p, 0, none⟩ (.int .i64 (y.b : Int))).setCell ⟨p, 1, none⟩ (.string (str y.d))).setCell ⟨p, 2, none⟩ (.int .i64 (y.pin : Int))) p y :=
  heap_setCell_same _ _ _ _ _ _ (heap_setCell_same _ _ _ _ _ _ (heap_setCell_same _ _ _ _ _ _ h))
theorem BoxB.fr {p : Nat} {x : Bf} {S : Nat → Prop} (h : BoxB w p x) (hf : Fr S w w') (hp : ¬ S p) : BoxB w' p x := (hf.blk p (Array.getElem?_eq_some_iff.1 h).1 hp).trans h
theorem fr_set3 (w : World) (p : Nat) (a b c : Value) : Fr (fun k => k = p) w (((w.setCell ⟨p, 0, none⟩ a).setCell ⟨p, 1, none⟩ b).setCell ⟨p, 2, none⟩ c) :=
  (((Fr.refl (fun k => k = p) w).setCell p 0 a rfl).setCell p 1 b rfl).setCell p 2 c rfl
theorem Try.szBf : (Try.prog.info? 74).map (·.size) = some 3 := by kernel_rfl
theorem results_bf {fn : Func} {p u : Tmp} (h : fn.results = #[.cell p 74, .tmp u]) (tmps : Array Value) {g : Nat} {x : Bf} (H : BoxB w g x) (hp : tmps.getD p undef = .pointer (some ⟨g, 0, none⟩)) :
    (results fn tmps).run Try.prog w = .ok (.tuple #[.agg (bfL x).toArray, tmps.getD u undef]) w := by
  rw [results_cell_tmp h, hp]
  simp [asAddr, run_loadVar_row w g 74 74 _ _ _ H Try.underlying74 rfl (by rw [Try.szBf]; rfl), Result.andThen]
theorem fr_step {w0 : World} {D D' : Nat → Prop} (h : Fr D w0 w) (hD : ∀ k, D' k → D k ∨ w0.heap.size ≤ k) (hf : Fr D' w w') : Fr D w0 w' := by
  have hz := h.size
  refine ⟨by have := hf.size; omega, fun k hk hn => (hf.blk k (by omega) (fun hA => ?_)).trans (h.blk k hk hn), hf.os.trans h.os, hf.tape.trans h.tape, hf.output.trans h.output⟩
  rcases hD k hA with h1 | h1
  · exact hn h1
  · omega
set_option maxHeartbeats 4000000 in
theorem qtake_any (h : QC w q ed most v L) (b : Int) :
    Calls Try.prog 61 #[.pointer (some ⟨q, 0, none⟩), .int .i64 b] w fun e w' => e = .returned (.tuple #[.agg (bfL (tkB L b)).toArray, .bool (hsB L b)]) ∧ ∃ v', QC w' q ed most v' (ltB L b) ∧ Fr (fun k => k = q) w w' ∧ ∀ k, v'.ownBlock = some k → w.heap.size ≤ k := by
  have HH : Hid (QC w q ed most v L) := h
  obtain ⟨ao, ca, rfl, hLA⟩ := h.own.form
  have hca : (ca : Int) ≤ 9223372036854775807 := hLA.cap.2
  have hl : (L.length : Int) ≤ 4096 := by have := h.len; omega
  have HLA : Hid (BAt w ao ca L) := hLA
  clear h hLA
  go_enter Try.func61, Try.ntmps61
  go_upto_region 3 with fail
  have hz1 := size_alloc w (.cells #[.int .i64 0, .string ⟨#[]⟩, .int .i64 0] 74)
  have HB2 : Hid (Below w.heap.size w ((w.alloc (.cells #[.int .i64 0, .string ⟨#[]⟩, .int .i64 0] 74)).alloc (.cells #[.int .i64 0, .string ⟨#[]⟩, .int .i64 0] 74))) := ((Below.refl _ _).alloc (Nat.le_refl _) _).alloc (by rw [size_alloc]; omega) _
  have hb4 := (Below.heap_alloc (w.alloc (.cells #[.int .i64 0, .string ⟨#[]⟩, .int .i64 0] 74)) (.cells #[.int .i64 0, .string ⟨#[]⟩, .int .i64 0] 74) w.heap.size (by omega)).trans (heap_alloc_new w (.cells #[.int .i64 0, .string ⟨#[]⟩, .int .i64 0] 74))
  have hb7 := heap_alloc_new (w.alloc (.cells #[.int .i64 0, .string ⟨#[]⟩, .int .i64 0] 74)) (.cells #[.int .i64 0, .string ⟨#[]⟩, .int .i64 0] 74)
  rw [hz1] at hb7
  have hz2 := size_alloc (w.alloc (.cells #[.int .i64 0, .string ⟨#[]⟩, .int .i64 0] 74)) (.cells #[.int .i64 0, .string ⟨#[]⟩, .int .i64 0] 74)
  rw [hz1] at hz2
  generalize (w.alloc (.cells #[.int .i64 0, .string ⟨#[]⟩, .int .i64 0] 74)).alloc (.cells #[.int .i64 0, .string ⟨#[]⟩, .int .i64 0] 74) = W2 at *
  have H0 : Hid (BoxB W2 w.heap.size ⟨0, [], 0⟩ ∧ BoxB W2 (w.heap.size + 1) ⟨0, [], 0⟩ ∧ W2.heap.size = w.heap.size + 2) := ⟨hb4, hb7, by omega⟩
  have HQL : Hid (q < w.heap.size ∧ ∀ g o, ao = some ⟨g, o, none⟩ → 0 < L.length → g < w.heap.size) := ⟨HH.out.ql, fun g o e hl => by
    rcases HLA.out.cells with e2 | ⟨g2, e2, h2, _⟩
    · rw [e2] at hl; simp at hl
    · rw [e] at e2; cases e2; exact h2⟩
  clear hz1 hz2 hb4 hb7
  go_wp2_with fail
  go_loopg [6, 8, 9] 4096 (fun gg t6 t8 t9 W => ∃ (gw : World) (k : Nat) (v6 : Value), gw = W ∧ k ≤ L.length ∧ L.length - k ≤ gg ∧ t9 = .int .i64 k ∧ t8 = .bool (hsB (L.take k) b) ∧ v6 = t6 ∧ Hid (BoxB gw (w.heap.size + 1) (tkB (L.take k) b) ∧ gw.ownsRow W2.heap.size 74 3 v6 (ltB (L.take k) b).length (bfs (ltB (L.take k) b)) ∧ Fr (fun j => j = w.heap.size + 1) W2 gw))
  case atStart => exact ⟨_, 0, _, rfl, by omega, by omega, rfl, rfl, rfl, H0.out.2.1, World.ownsRow_nil _ _ _ _, Fr.refl _ _⟩
  case round =>
    obtain ⟨gw, k, v6, rfl, hk, hgk, rfl, rfl, rfl, HG⟩ := hrel
    have hfr : Fr (fun j => j = w.heap.size + 1) W2 gw := HG.out.2.2
    have hzz : w.heap.size + 2 ≤ gw.heap.size := by have := hfr.size; have := H0.out.2.2; omega
    have HTR : Hid (∀ g o, g < w.heap.size → gw.cell? ⟨g, o, none⟩ = w.cell? ⟨g, o, none⟩) := fun g o hg => (fr_cell hfr (a := ⟨g, o, none⟩) (by show g < _; have := H0.out.2.2; omega) (by show ¬ g = _; omega)).trans (HB2.out.cell (p := ⟨g, o, none⟩) hg)
    have c1 : gw.cell? ⟨q, 1, none⟩ = some (.slice ao L.length ca) := (HTR.out q 1 HQL.out.1).trans HH.out.c1
    have HZ : Hid (w.heap.size + 2 ≤ gw.heap.size) := hzz
    clear hfr hzz
    by_cases hlt : (k : Int) < (L.length : Int)
    · obtain ⟨c, hc⟩ : ∃ c, L[k]? = some c := ⟨_, List.getElem?_eq_getElem (by omega)⟩
      obtain ⟨g, rfl, hcc⟩ : ∃ g, ao = some ⟨g, 0, none⟩ ∧ ∀ (j : Nat) (u : Value), (bfL c)[j]? = some u → gw.cell? ⟨g, k * 3 + j, none⟩ = some u := by
        rcases HLA.out.cells with e | ⟨g, e, hg, hcc⟩
        · rw [e] at hc; cases hc
        · exact ⟨g, e, fun j u hj => (HTR.out g _ hg).trans (hcc k c hc j u hj)⟩
      have x0 := hcc 0 _ rfl
      have x1 := hcc 1 _ rfl
      have x2 := hcc 2 _ rfl
      rw [Nat.add_zero] at x0
      clear hcc
      by_cases hx : (c.b : Int) = b
      · have hxb : ((c.b : Int) == b) = true := by simpa using hx
        have HY : Hid (tkB (L.take (k + 1)) b = c ∧ hsB (L.take (k + 1)) b = true ∧ ltB (L.take (k + 1)) b = ltB (L.take k) b) := take_yes hc hx
        obtain ⟨z, hz⟩ : ∃ z, tkB (L.take k) b = z := ⟨_, rfl⟩
        have hbx : BoxB gw (w.heap.size + 1) z := by rw [← hz]; exact HG.out.1
        have y0 : gw.cell? ⟨w.heap.size + 1, 0, none⟩ = some (.int .i64 (z.b : Int)) := (cell_of_row _ _ _ _ _ _ hbx).trans rfl
        have y1 : gw.cell? ⟨w.heap.size + 1, 1, none⟩ = some (.string (str z.d)) := (cell_of_row _ _ _ _ _ _ hbx).trans rfl
        have y2 : gw.cell? ⟨w.heap.size + 1, 2, none⟩ = some (.int .i64 (z.pin : Int)) := (cell_of_row _ _ _ _ _ _ hbx).trans rfl
        have f0 : ∀ o, gw.frozen? ⟨w.heap.size + 1, o, none⟩ = false := fun o => frozen_of_row _ _ _ _ _ hbx
        have HE : Hid (BoxB (((gw.setCell ⟨w.heap.size + 1, 0, none⟩ (.int .i64 (c.b : Int))).setCell ⟨w.heap.size + 1, 1, none⟩ (.string (str c.d))).setCell ⟨w.heap.size + 1, 2, none⟩ (.int .i64 (c.pin : Int))) (w.heap.size + 1) c ∧ Fr (fun j => j = w.heap.size + 1) gw (((gw.setCell ⟨w.heap.size + 1, 0, none⟩ (.int .i64 (c.b : Int))).setCell ⟨w.heap.size + 1, 1, none⟩ (.string (str c.d))).setCell ⟨w.heap.size + 1, 2, none⟩ (.int .i64 (c.pin : Int)))) := ⟨hbx.set c, fr_set3 _ _ _ _ _⟩
        clear hx hc hz hbx
        go_wp2_with fail
        go_roundg (L.length - (k + 1))
        case measure => omega
        case rel =>
          refine ⟨_, k + 1, v6, rfl, by omega, by omega, by go_num, by rw [HY.out.2.1], rfl, by rw [HY.out.1]; exact HE.out.1, by
            rw [HY.out.2.2]
            exact row_same HG.out.2.1 fun j hj => HE.out.2.blk j (World.ownsRow.lt HG.out.2.1 j hj).2 (fun e => by have := (World.ownsRow.lt HG.out.2.1 j hj).1; have := H0.out.2.2; omega), HG.out.2.2.trans HE.out.2⟩
      · have hxb : ((c.b : Int) == b) = false := by simpa using hx
        have HY : Hid (tkB (L.take (k + 1)) b = tkB (L.take k) b ∧ hsB (L.take (k + 1)) b = hsB (L.take k) b ∧ ltB (L.take (k + 1)) b = ltB (L.take k) b ++ [c]) := take_no hc hx
        obtain ⟨i0, z, hi0, hz0, hz3, hzs, hzb⟩ := infoBf_parts
        have HI : Hid (Try.prog.info? 74 = some i0 ∧ i0.zero = some z ∧ z.cells.size = 3 ∧ i0.size = 3 ∧ i0.bytes = 32) := ⟨hi0, hz0, hz3, hzs, hzb⟩
        have HX : Hid (¬ (c.b : Int) = b) := hx
        have HLN : Hid ((ltB (L.take k) b).length ≤ 4096) := by
          show _ ≤ _
          have := ltB_len (L.take k) b
          rw [List.length_take] at this
          omega
        clear hi0 hz0 hz3 hzs hzb hx hc
        go_wp2_with (first | (at_builtin; refine Hid.out ?_))
        change wpList _ _ _ _ _ _
        refine wpList_app rfl (.tmp 36) (.tmp 44) 61 rfl W2.heap.size 74 i0 z 3 32 Try.underlying61 HI.out.1 HI.out.2.1 HI.out.2.2.2.1 HI.out.2.2.2.2 HI.out.2.2.1 (by decide) (by decide) (ltB (L.take k) b).length (bfs (ltB (L.take k) b)) (bfL c) _ rfl _ _ rfl (row_same HG.out.2.1 (fun j hj => Below.heap_alloc _ _ _ (World.ownsRow.lt HG.out.2.1 j hj).2)) rfl (fun j u hj => (cell_of_row _ _ _ _ _ _ (heap_alloc_new gw _)).trans (by rw [← hj]; rcases j with _ | _ | _ | j <;> rfl)) (fun u hu => by simp [bfL] at hu; rcases hu with rfl | rfl | rfl <;> rfl) (by rw [size_alloc]; have := HG.out.2.2.size; omega) (by have := HLN.out; omega) ?_
        intro G cap w' ho hg hat
        have HE : Hid (BoxB w' (w.heap.size + 1) (tkB (L.take k) b) ∧ w'.ownsRow W2.heap.size 74 3 (.slice (some ⟨G, 0, none⟩) ((ltB (L.take k) b).length + 1) cap) ((ltB (L.take k) b).length + 1) (bfs (ltB (L.take k) b) ++ bfL c) ∧ Fr (fun j => j = w.heap.size + 1) W2 w') := by
          have hlt2 : ∀ j, v6.ownBlock = some j → W2.heap.size ≤ j := fun j hj => (World.ownsRow.lt HG.out.2.1 j hj).1
          have hf2 : Fr (fun j => v6.ownBlock = some j) gw w' := by
            have h1 : Fr (fun j => v6.ownBlock = some j) gw (gw.alloc (.cells (bfL c).toArray 74)) := Fr.of_below ((Below.refl _ _).alloc (Nat.le_refl _) _)
            exact h1.trans ⟨hg.size, fun j hj hn => hg.block j hj (fun e => hn (by exact e.symm)), hg.os, hg.tape, hg.output⟩
          refine ⟨HG.out.1.fr hf2 (fun e => by have := hlt2 _ e; have := H0.out.2.2; omega), ho, fr_step HG.out.2.2 (fun j hS => .inr (hlt2 j hS)) hf2⟩
        clear ho hg hat
        go_wp2_with fail
        go_roundg (L.length - (k + 1))
        case measure => omega
        case rel =>
          refine ⟨_, k + 1, _, rfl, by omega, by omega, by go_num, by rw [HY.out.2.1], rfl, by rw [HY.out.1]; exact HE.out.1, ?_, HE.out.2.2⟩
          rw [HY.out.2.2, List.length_append, bfs_snoc]
          exact HE.out.2.1
    · have HT : Hid (L.take k = L) := List.take_of_length_le (by omega)
      have HG2 : Hid (BoxB gw (w.heap.size + 1) (tkB L b) ∧ gw.ownsRow W2.heap.size 74 3 v6 (ltB L b).length (bfs (ltB L b)) ∧ Fr (fun j => j = w.heap.size + 1) W2 gw) := by
        have := HG.out
        rw [HT.out] at this
        exact this
      rw [HT.out]
      clear HG HT
      have fq : gw.frozen? ⟨q, 1, none⟩ = false := by
        have hq : gw.heap[q]? = _ := ((HG2.out.2.2.blk q (by have := HQL.out.1; have := H0.out.2.2; omega) (by show ¬ q = _; have := HQL.out.1; omega)).trans (HB2.out.block q HQL.out.1)).trans HH.out.at'
        exact frozen_of_row _ _ _ _ _ hq
      obtain ⟨z, hz⟩ : ∃ z, tkB L b = z := ⟨_, rfl⟩
      have HZE : Hid (tkB L b = z) := hz
      have hbx : BoxB gw (w.heap.size + 1) z := by rw [← hz]; exact HG2.out.1
      have hb4 : BoxB gw w.heap.size ⟨0, [], 0⟩ := H0.out.1.fr HG2.out.2.2 (by omega)
      clear hz
      obtain ⟨ai, ci, hv6⟩ : ∃ i c, v6 = .slice i (ltB L b).length c := by
        obtain ⟨_, h2⟩ := HG2.out.2.1
        rcases h2 with ⟨h2, h3⟩ | ⟨g, cap, cur, h2, _⟩
        · exact ⟨none, 0, by rw [h2, h3]⟩
        · exact ⟨_, cap, h2⟩
      subst hv6
      have HQ3 : Hid ((gw.setCell ⟨q, 1, none⟩ (.slice ai (ltB L b).length ci)).heap[q]? = some (.cells #[.pointer (some ⟨ed, 0, none⟩), (.slice ai (ltB L b).length ci), .int .i64 (most : Int)] 63 (0, 0)) ∧ Fr (fun j => j = q) gw (gw.setCell ⟨q, 1, none⟩ (.slice ai (ltB L b).length ci))) := by
        have hq : gw.heap[q]? = _ := ((HG2.out.2.2.blk q (by have := HQL.out.1; have := H0.out.2.2; omega) (by show ¬ q = _; have := HQL.out.1; omega)).trans (HB2.out.block q HQL.out.1)).trans HH.out.at'
        exact ⟨heap_setCell_same _ _ _ _ _ _ hq, (Fr.refl (fun j => j = q) gw).setCell q 1 (.slice ai (ltB L b).length ci) rfl⟩
      go_upto_region 12 with fail
      have hbx3 := hbx.fr HQ3.out.2 (by have := HQL.out.1; omega)
      have hb43 := hb4.fr HQ3.out.2 (by have := HQL.out.1; omega)
      have HW : Hid (Fr (fun j => j = q ∨ j = w.heap.size + 1) W2 (gw.setCell ⟨q, 1, none⟩ (.slice ai (ltB L b).length ci))) := (HG2.out.2.2.mono (T := fun j => j = q ∨ j = w.heap.size + 1) (fun k _ hk => .inr hk)).trans (HQ3.out.2.mono fun k _ hk => .inl hk)
      clear hbx hb4 fq c1
      generalize gw.setCell ⟨q, 1, none⟩ (.slice ai (ltB L b).length ci) = W3 at *
      have y0 : W3.cell? ⟨w.heap.size + 1, 0, none⟩ = some (.int .i64 (z.b : Int)) := (cell_of_row _ _ _ _ _ _ hbx3).trans rfl
      have y1 : W3.cell? ⟨w.heap.size + 1, 1, none⟩ = some (.string (str z.d)) := (cell_of_row _ _ _ _ _ _ hbx3).trans rfl
      have y2 : W3.cell? ⟨w.heap.size + 1, 2, none⟩ = some (.int .i64 (z.pin : Int)) := (cell_of_row _ _ _ _ _ _ hbx3).trans rfl
      have u0 : W3.cell? ⟨w.heap.size, 0, none⟩ = some (.int .i64 0) := (cell_of_row _ _ _ _ _ _ hb43).trans rfl
      have u1 : W3.cell? ⟨w.heap.size, 1, none⟩ = some (.string (str [])) := (cell_of_row _ _ _ _ _ _ hb43).trans rfl
      have u2 : W3.cell? ⟨w.heap.size, 2, none⟩ = some (.int .i64 0) := (cell_of_row _ _ _ _ _ _ hb43).trans rfl
      have f0 : ∀ o, W3.frozen? ⟨w.heap.size, o, none⟩ = false := fun o => frozen_of_row _ _ _ _ _ hb43
      have HE : Hid (BoxB (((W3.setCell ⟨w.heap.size, 0, none⟩ (.int .i64 (z.b : Int))).setCell ⟨w.heap.size, 1, none⟩ (.string (str z.d))).setCell ⟨w.heap.size, 2, none⟩ (.int .i64 (z.pin : Int))) w.heap.size z ∧ Fr (fun j => j = w.heap.size) W3 (((W3.setCell ⟨w.heap.size, 0, none⟩ (.int .i64 (z.b : Int))).setCell ⟨w.heap.size, 1, none⟩ (.string (str z.d))).setCell ⟨w.heap.size, 2, none⟩ (.int .i64 (z.pin : Int)))) := ⟨hb43.set z, fr_set3 _ _ _ _ _⟩
      clear hbx3 hb43
      go_wp2_with fail
      (try simp only [Exit.inBlock, Exit.then])
      refine bodyPost_ret (results_bf rfl _ HE.out.1 rfl) rfl ?_
      have hvb : ∀ k, (Value.slice ai (ltB L b).length ci).ownBlock = some k → w.heap.size + 2 ≤ k ∧ k < gw.heap.size := fun k hk => by
        have h1 := World.ownsRow.lt HG2.out.2.1 k hk
        have := H0.out.2.2
        omega
      have hql := HQL.out.1
      refine ⟨by rw [HZE.out]; rfl, .slice ai (ltB L b).length ci, ⟨?_, ?_, ?_, ?_⟩, ?_, fun k hk => by have := hvb k hk; omega⟩
      · exact (HE.out.2.blk q (Array.getElem?_eq_some_iff.1 HQ3.out.1).1 (by show ¬ q = _; omega)).trans HQ3.out.1
      · refine row_same (ownsRow_mono HG2.out.2.1 (Nat.zero_le _)) fun k hk => ?_
        have h1 := hvb k hk
        exact (HE.out.2.blk k (by have := HQ3.out.2.size; omega) (by show ¬ k = _; omega)).trans (HQ3.out.2.blk k h1.2 (by show ¬ k = _; omega))
      · intro e
        have := hvb q e
        omega
      · have := ltB_len L b
        have := HH.out.len
        omega
      · have f1 : Fr (fun k => k = q) w W3 := fr_step (D' := fun j => j = q ∨ j = w.heap.size + 1) (Fr.of_below HB2.out) (fun k hk => by rcases hk with hk | hk; exact .inl hk; exact .inr (by omega)) HW.out
        exact fr_step f1 (fun k hk => .inr (by omega)) HE.out.2
end
end Go.Proofs.Ytikpnfnbmbaljaa
/- The document's cache: ask. -/
namespace Go.Proofs.Ytikpnfnbmbaljaa
open Go.RowKit
set_option maxRecDepth 100000
/-- May a block go? -/
def goD (y : Nat → List UInt8) (x : Bf) : Bool := (x.pin == 0) && (y x.b == x.d)
/-- How a block that is asked comes to the end. -/
inductive AskD (most : Nat) (y : Nat → List UInt8) (L : List Bf) (n : Nat) : List Bf → Prop
  | hit {A B : List Bf} {x : Bf} (hL : L = A ++ x :: B) (hn : x.b = n) : AskD most y L n (A ++ B ++ [x])
  | free (hne : ∀ x ∈ L, ¬ x.b = n) (hl : L.length < most) : AskD most y L n (L ++ [⟨n, y n, 0⟩])
  | evict {A B : List Bf} {x : Bf} (hne : ∀ x ∈ L, ¬ x.b = n) (hl : most ≤ L.length) (hL : L = A ++ x :: B) (hA : ∀ c ∈ A, goD y c = false) (he : goD y x = true) : AskD most y L n (A ++ B ++ [⟨n, y n, 0⟩])
/-- There is no room for it. -/
structure FullD (most : Nat) (y : Nat → List UInt8) (L : List Bf) (n : Nat) : Prop where
  ne : ∀ x ∈ L, ¬ x.b = n
  le : most ≤ L.length
  no : ∀ x ∈ L, goD y x = false
theorem splitB (p : Bf → Bool) : ∀ L : List Bf, (∀ x ∈ L, p x = false) ∨ ∃ A e B, L = A ++ e :: B ∧ (∀ x ∈ A, p x = false) ∧ p e = true
  | [] => .inl fun _ h => by cases h
  | c :: L => by
    cases hc : p c with
    | true => exact .inr ⟨[], c, L, rfl, fun _ h => by (cases h), hc⟩
    | false =>
      rcases splitB p L with h | ⟨A, e, B, h1, h2, h3⟩
      · exact .inl fun x hx => by
          rcases List.mem_cons.1 hx with e | hx
          · rw [e]; exact hc
          · exact h x hx
      · refine .inr ⟨c :: A, e, B, by rw [h1]; rfl, fun x hx => ?_, h3⟩
        rcases List.mem_cons.1 hx with e | hx
        · rw [e]; exact hc
        · exact h2 x hx
theorem uniqB {A B : List Bf} {x : Bf} (h : ((A ++ x :: B).map (·.b)).Nodup) : (∀ c ∈ A, ¬ c.b = x.b) ∧ ∀ c ∈ B, ¬ c.b = x.b := by
  rw [List.map_append, List.map_cons, List.nodup_append] at h
  obtain ⟨_, h2, h3⟩ := h
  refine ⟨fun c hc e => h3 c.b (List.mem_map.2 ⟨c, hc, rfl⟩) x.b (by simp) e, fun c hc e => ?_⟩
  exact (List.nodup_cons.1 h2).1 (List.mem_map.2 ⟨c, hc, e⟩)
theorem take_hit {A B : List Bf} {x : Bf} (h : ((A ++ x :: B).map (·.b)).Nodup) : tkB (A ++ x :: B) (x.b : Int) = x ∧ hsB (A ++ x :: B) (x.b : Int) = true ∧ ltB (A ++ x :: B) (x.b : Int) = A ++ B := by
  obtain ⟨hA, hB⟩ := uniqB h
  have fA : A.filter (fun c => decide ((c.b : Int) = (x.b : Int))) = [] := List.filter_eq_nil_iff.2 fun c hc => by have := hA c hc; simp; omega
  have fB : B.filter (fun c => decide ((c.b : Int) = (x.b : Int))) = [] := List.filter_eq_nil_iff.2 fun c hc => by have := hB c hc; simp; omega
  have gA : A.filter (fun c => !decide ((c.b : Int) = (x.b : Int))) = A := List.filter_eq_self.2 fun c hc => by have := hA c hc; simp; omega
  have gB : B.filter (fun c => !decide ((c.b : Int) = (x.b : Int))) = B := List.filter_eq_self.2 fun c hc => by have := hB c hc; simp; omega
  unfold tkB hsB ltB
  refine ⟨?_, ?_, ?_⟩
  · rw [List.filter_append, List.filter_cons_of_pos (by simp), fA, fB]; rfl
  · simp
  · rw [List.filter_append, List.filter_cons_of_neg (by simp), gA, gB]
theorem take_none {L : List Bf} {b : Int} (h : ∀ c ∈ L, ¬ (c.b : Int) = b) : hsB L b = false ∧ ltB L b = L ∧ tkB L b = ⟨0, [], 0⟩ := by
  have f : L.filter (fun c => decide ((c.b : Int) = b)) = [] := List.filter_eq_nil_iff.2 fun c hc => by simpa using h c hc
  refine ⟨?_, ?_, ?_⟩
  · unfold hsB
    rw [List.any_eq_false]
    intro c hc
    simpa using h c hc
  · exact List.filter_eq_self.2 fun c hc => by simpa using h c hc
  · unfold tkB
    rw [f]
    rfl
section
variable {w w' : World} {q ed most : Nat} {v : Value} {L : List Bf}
theorem qc_next {W1 w' : World} {x : Bf} {G cap : Nat} {o : Obj} (h : QC W1 q ed most v L) (ho : w'.ownsRow 0 74 3 (.slice (some ⟨G, 0, none⟩) (L.length + 1) cap) (L.length + 1) (bfs L ++ bfL x)) (hg : (W1.drew.alloc o).grownBy w' v.ownBlock) (hat : v.ownBlock = some G ∨ (W1.drew.alloc o).heap.size ≤ G) (hq : w'.heap[q]? = some (.cells #[.pointer (some ⟨ed, 0, none⟩), v, .int .i64 (most : Int)] 63 (0, 0))) (hl : L.length < 4096) :
    QC (w'.setCell ⟨q, 1, none⟩ (.slice (some ⟨G, 0, none⟩) (L.length + 1) cap)) q ed most (.slice (some ⟨G, 0, none⟩) (L.length + 1) cap) (L ++ [x]) ∧ Fr (fun k => k = q ∨ v.ownBlock = some k) W1 (w'.setCell ⟨q, 1, none⟩ (.slice (some ⟨G, 0, none⟩) (L.length + 1) cap)) ∧ (∀ k, (Value.slice (some ⟨G, 0, none⟩) (L.length + 1) cap).ownBlock = some k → v.ownBlock = some k ∨ W1.heap.size ≤ k) := by
  have hql : q < W1.heap.size := h.ql
  have hz : W1.drew.heap.size = W1.heap.size := rfl
  have hgz := hg.size
  rw [size_alloc, hz] at hgz
  rw [size_alloc, hz] at hat
  have hGq : G ≠ q := fun e => by
    rcases hat with e1 | e1
    · exact h.qv (by rw [e1, e])
    · omega
  have st : ∀ k, k ≠ q → (w'.setCell ⟨q, 1, none⟩ (.slice (some ⟨G, 0, none⟩) (L.length + 1) cap)).heap[k]? = w'.heap[k]? := fun k hk => heap_setCell_other w' ⟨q, 1, none⟩ k _ hk
  have hsz : (w'.setCell ⟨q, 1, none⟩ (.slice (some ⟨G, 0, none⟩) (L.length + 1) cap)).heap.size = w'.heap.size := by simp [World.setCell]
  refine ⟨⟨heap_setCell_same _ _ _ _ _ _ hq, ?_, fun e => hGq (by cases e; rfl), by rw [List.length_append]; simp; omega⟩, ⟨by rw [hsz]; omega, fun k hk hn => ?_, hg.os, hg.tape, hg.output⟩, fun k hk => ?_⟩
  · show World.ownsRow _ 0 _ 3 _ (L ++ [x]).length (bfs (L ++ [x]))
    rw [List.length_append, bfs_snoc]
    exact row_same ho fun k hk => st k (fun e => hGq (by cases hk; exact e))
  · have h1 : ¬ k = q := fun e => hn (.inl e)
    have h2 : ¬ v.ownBlock = some k := fun e => hn (.inr e)
    rw [st k h1, hg.block k (by rw [size_alloc, hz]; omega) (fun e => h2 e.symm), Below.heap_alloc _ _ _ (by rw [hz]; omega)]
    rfl
  · cases hk
    exact hat.imp_right fun e => (show W1.heap.size ≤ G by omega)
theorem src_q {w w' : World} {sp : Nat} {l : List UInt8} {S : Nat → Prop} (h : Src w (some ⟨sp, 0, none⟩) l) (hf : Fr S w w') (hS : ¬ S sp) : Src w' (some ⟨sp, 0, none⟩) l := by
  rcases h with h | ⟨b, o, e, hl, hc⟩
  · exact .inl h
  · cases e
    exact .inr ⟨sp, 0, rfl, by have := hf.size; omega, fun j hj => (fr_cell hf (a := ⟨sp, 0 + j, none⟩) hl hS).trans (hc j hj)⟩
/-- What ask leaves. -/
structure AskP (q ed most : Nat) (y : Nat → List UInt8) (L : List Bf) (n : Nat) (w : World) (e : Ending) (w' : World) : Prop where
  out : (∃ L' v', e = .returned (.int .i64 0) ∧ AskD most y L n L' ∧ QC w' q ed most v' L' ∧ ∀ k, v'.ownBlock = some k → w.heap.size ≤ k) ∨ (∃ v', e = .returned (.int .i64 5) ∧ FullD most y L n ∧ QC w' q ed most v' L ∧ ∀ k, v'.ownBlock = some k → w.heap.size ≤ k)
  fr : Fr (fun k => k = q) w w'
set_option maxHeartbeats 16000000 in
theorem qask_any {base n gb cb : Nat} {ver : Nat → List (List UInt8)} {va vc : Nat → Nat} {y : Nat → List UInt8} (h : QC w q ed most v L) (hd : RefW w base ed n false 0 ver gb cb va vc) (hq : ∀ k, Rk ed gb n va k → k ≠ q) (hy : ∀ i, i < n → ∃ m, (ver i).length = m + 1 ∧ (ver i)[m]? = some (y i)) (hbn : ∀ x ∈ L, x.b < n) (hnd : (L.map (·.b)).Nodup) (hl4 : L.length < 4096) (b : Nat) (hb : b < n) :
    Calls Try.prog 56 #[.pointer (some ⟨q, 0, none⟩), .int .i64 (b : Int)] w (AskP q ed most y L b w) := by
  obtain ⟨m0, hm0, hm2⟩ := hy b hb
  have RD := rread_new hd.at' b hb m0 (y b) hm0 hm2
  have c0 := h.c0
  have HH : Hid (QC w q ed most v L ∧ RefW w base ed n false 0 ver gb cb va vc ∧ (∀ k, Rk ed gb n va k → k ≠ q) ∧ (∀ i, i < n → ∃ m, (ver i).length = m + 1 ∧ (ver i)[m]? = some (y i)) ∧ (∀ x ∈ L, x.b < n) ∧ (L.map (·.b)).Nodup) := ⟨h, hd, hq, hy, hbn, hnd⟩
  have hlz : (L.length : Int) < 4096 := by omega
  clear h hd hq hy hbn hnd hm0 hm2
  go_enter Try.func56, Try.ntmps56
  go_wp2_with (first | (go_at_call 57; refine Hid.out ?_))
  change Calls _ _ _ _ _
  refine RD.mono ?_
  clear RD
  rintro r w1 ⟨gd, cd, rfl, hsd, hb1, hgd⟩
  have HD : Hid (Src w1 (some ⟨gd, 0, none⟩) (y b) ∧ Below w.heap.size w w1) := ⟨hsd, hb1⟩
  have HDG : Hid (w.heap.size ≤ gd) := hgd
  have TK := qtake_any (HH.out.1.up hb1) (b : Int)
  clear hsd hb1 c0 hgd
  go_wp2_with (first | (go_at_call 61; refine Hid.out ?_))
  change Calls _ _ _ _ _
  refine TK.mono ?_
  clear TK
  rintro r w2 ⟨rfl, v2, hQ2, hf2, hv2⟩
  obtain ⟨i0, z, hi0, hz0, hz3, hzs, hzb⟩ := infoBf_parts
  have HI : Hid (Try.prog.info? 74 = some i0 ∧ i0.zero = some z ∧ z.cells.size = 3 ∧ i0.size = 3 ∧ i0.bytes = 32) := ⟨hi0, hz0, hz3, hzs, hzb⟩
  clear hi0 hz0 hz3 hzs hzb
  rcases splitB (fun c => decide (c.b = b)) L with hno | ⟨A, x, B, hL, _, hxb⟩
  · have hne : ∀ c ∈ L, ¬ c.b = b := fun c hc => by simpa using hno c hc
    obtain ⟨e1, e2, e3⟩ := take_none (L := L) (b := (b : Int)) (fun c hc => by have := hne c hc; omega)
    rw [e2] at hQ2
    rw [e1, e3]
    have H2 : Hid (QC w2 q ed most v2 L ∧ Fr (fun k => k = q) w w2 ∧ (∀ k, v2.ownBlock = some k → w.heap.size ≤ k) ∧ (∀ c ∈ L, ¬ c.b = b) ∧ Src w2 (some ⟨gd, 0, none⟩) (y b)) := ⟨hQ2, fr_step (D' := fun k => k = q) (Fr.of_below HD.out.2) (fun k hk => .inl hk) hf2, fun k hk => by have := hv2 k hk; have := HD.out.2.size; omega, hne, src_q HD.out.1 hf2 (fun e => by have := HH.out.1.ql; have := HDG.out; omega)⟩
    clear hQ2 hf2 hv2 hno hne e1 e2 e3
    unfold bfL
    go_upto_region 8 with fail
    have HB3 : Hid (Below w2.heap.size w2 (w2.alloc (.cells #[.int .i64 0, .string (str []), .int .i64 0] 74))) := (Below.refl _ _).alloc (Nat.le_refl _) _
    generalize w2.alloc (.cells #[.int .i64 0, .string (str []), .int .i64 0] 74) = W3 at *
    have hq3 := H2.out.1.up HB3.out
    obtain ⟨a3, k3, hv3, hB3⟩ := hq3.own.form
    subst hv3
    have H3 : Hid (QC W3 q ed most (.slice a3 L.length k3) L ∧ Fr (fun k => k = q) w W3 ∧ (∀ k, (Value.slice a3 L.length k3).ownBlock = some k → w.heap.size ≤ k) ∧ (∀ c ∈ L, ¬ c.b = b) ∧ Src W3 (some ⟨gd, 0, none⟩) (y b)) := ⟨hq3, H2.out.2.1.trans (Fr.of_below HB3.out), H2.out.2.2.1, H2.out.2.2.2.1, src_q (H2.out.2.2.2.2) (S := fun _ => False) (Fr.of_below HB3.out) (fun h => h)⟩
    have S0 : Hid (W3.drew.cell? ⟨q, 1, none⟩ = some (.slice a3 L.length k3) ∧ W3.drew.cell? ⟨q, 2, none⟩ = some (.int .i64 (most : Int))) := ⟨hq3.c1, hq3.c2⟩
    have hk3 : (k3 : Int) ≤ 9223372036854775807 := hB3.cap.2
    clear hq3 hB3 H2 HB3 HD
    obtain ⟨fb, hfb⟩ : ∃ fb, decide (most ≤ L.length) = fb := ⟨_, rfl⟩
    have HFB : Hid (decide (most ≤ L.length) = fb) := hfb
    clear hfb
    refine wp_region_held_drew (S := (fun W => W.cell? ⟨q, 1, none⟩ = some (.slice a3 L.length k3) ∧ W.cell? ⟨q, 2, none⟩ = some (.int .i64 (most : Int)))) (by kernel_rfl) S0.out (fun hH => ?_)
    refine takeH (i := 0) (dst := some 40) (v := ?v1) rfl rfl (by kernel_rfl) (by kernel_rfl) (by kernel_rfl) (fun _ _ _ h => h) rfl ?hy1 hH rfl ?rest1
    case hy1 => (intro W hW; (try dsimp only at hW); go_simp; try with_reducible rfl)
    (try simp only [Act.put, List.setIfInBounds_toArray, List.set_cons_zero, List.set_cons_succ])
    refine takeH (i := 1) (dst := some 41) (v := ?v2) rfl rfl (by kernel_rfl) (by kernel_rfl) (by kernel_rfl) (fun _ _ _ h => h) rfl ?hy2 hH rfl ?rest2
    case hy2 => (intro W hW; (try dsimp only at hW); go_simp; try with_reducible rfl)
    (try simp only [Act.put, List.setIfInBounds_toArray, List.set_cons_zero, List.set_cons_succ])
    refine takeH (i := 2) (dst := some 42) (v := ?v3) rfl rfl (by kernel_rfl) (by kernel_rfl) (by kernel_rfl) (fun _ _ _ h => h) rfl ?hy3 hH rfl ?rest3
    case hy3 => (intro W hW; (try dsimp only at hW); go_simp; try with_reducible rfl)
    (try simp only [Act.put, List.setIfInBounds_toArray, List.set_cons_zero, List.set_cons_succ])
    refine takeH (i := 3) (dst := some 43) (v := ?v4) rfl rfl (by kernel_rfl) (by kernel_rfl) (by kernel_rfl) (fun _ _ _ h => h) rfl ?hy4 hH rfl ?rest4
    case hy4 => (intro W hW; obtain ⟨e1, _⟩ := hW; go_simp; try with_reducible rfl)
    (try simp only [Act.put, List.setIfInBounds_toArray, List.set_cons_zero, List.set_cons_succ])
    refine takeH (i := 4) (dst := some 44) (v := ?v5) rfl rfl (by kernel_rfl) (by kernel_rfl) (by kernel_rfl) (fun _ _ _ h => h) rfl ?hy5 hH rfl ?rest5
    case hy5 => (intro W hW; (try dsimp only at hW); go_simp; try with_reducible rfl)
    (try simp only [Act.put, List.setIfInBounds_toArray, List.set_cons_zero, List.set_cons_succ])
    refine takeH (i := 5) (dst := some 45) (v := ?v6) rfl rfl (by kernel_rfl) (by kernel_rfl) (by kernel_rfl) (fun _ _ _ h => h) rfl ?hy6 hH rfl ?rest6
    case hy6 => (intro W hW; (try dsimp only at hW); go_simp; try with_reducible rfl)
    (try simp only [Act.put, List.setIfInBounds_toArray, List.set_cons_zero, List.set_cons_succ])
    refine takeH (i := 6) (dst := some 46) (v := ?v7) rfl rfl (by kernel_rfl) (by kernel_rfl) (by kernel_rfl) (fun _ _ _ h => h) rfl ?hy7 hH rfl ?rest7
    case hy7 => (intro W hW; (try dsimp only at hW); go_simp; try with_reducible rfl)
    (try simp only [Act.put, List.setIfInBounds_toArray, List.set_cons_zero, List.set_cons_succ])
    refine takeH (i := 7) (dst := some 47) (v := ?v8) rfl rfl (by kernel_rfl) (by kernel_rfl) (by kernel_rfl) (fun _ _ _ h => h) rfl ?hy8 hH rfl ?rest8
    case hy8 => (intro W hW; (try dsimp only at hW); go_simp; try with_reducible rfl)
    (try simp only [Act.put, List.setIfInBounds_toArray, List.set_cons_zero, List.set_cons_succ])
    refine takeH (i := 8) (dst := some 48) (v := ?v9) rfl rfl (by kernel_rfl) (by kernel_rfl) (by kernel_rfl) (fun _ _ _ h => h) rfl ?hy9 hH rfl ?rest9
    case hy9 => (intro W hW; obtain ⟨_, e2⟩ := hW; go_simp; try with_reducible rfl)
    (try simp only [Act.put, List.setIfInBounds_toArray, List.set_cons_zero, List.set_cons_succ])
    refine takeH (i := 9) (dst := some 49) (v := ?v10) rfl rfl (by kernel_rfl) (by kernel_rfl) (by kernel_rfl) (fun _ _ _ h => h) rfl ?hy10 hH rfl ?rest10
    case hy10 => (intro W hW; have e9 := HFB.out; clear hW; go_simp; try with_reducible rfl)
    (try simp only [Act.put, List.setIfInBounds_toArray, List.set_cons_zero, List.set_cons_succ])
    refine wpAnyH_done (by kernel_rfl) ?_ _
    clear hH
    go_upto_if 49 with fail
    go_cut [9, 10] (fun _ _ wc => ∃ (W5 : World) (v5 : Value) (L5 : List Bf), W5 = wc ∧ Hid (QC W5 q ed most v5 L5 ∧ Fr (fun k => k = q) w W5 ∧ (∀ k, v5.ownBlock = some k → w.heap.size ≤ k) ∧ Src W5 (some ⟨gd, 0, none⟩) (y b) ∧ AskD most y L b (L5 ++ [⟨b, y b, 0⟩]) ∧ L5.length < 4096))
    case first =>
      cases fb with
      | true =>
        have HFL : Hid (most ≤ L.length) := by show _ ≤ _; have := of_decide_eq_true HFB.out; omega
        have HY : Hid (∀ W, Fr (fun k => k = q) w W → RefW W base ed n false 0 ver gb cb va vc) := fun W hW => HH.out.2.1.keep hW (fun k hk e => HH.out.2.2.1 k hk e)
        go_wp2_with fail
        go_loopg [9, 10] 4097 (fun gg t9 t10 W => ∃ (gw : World) (k : Nat) (gone : Bool) (v2 : Value) (L2 : List Bf), gw = W ∧ t9 = .bool gone ∧ t10 = .int .i64 k ∧ k ≤ L.length + 1 ∧ L.length + 1 - k ≤ gg ∧ Hid ((gone = false ∧ k ≤ L.length ∧ L2 = L ∧ (∀ c ∈ L.take k, goD y c = false)) ∨ (gone = true ∧ ∃ A x B, L = A ++ x :: B ∧ L2 = A ++ B ∧ (∀ c ∈ A, goD y c = false) ∧ goD y x = true)) ∧ Hid (QC gw q ed most v2 L2 ∧ Fr (fun k => k = q) w gw ∧ (∀ k, v2.ownBlock = some k → w.heap.size ≤ k) ∧ Src gw (some ⟨gd, 0, none⟩) (y b)))
        case atStart => exact ⟨_, 0, false, _, L, rfl, rfl, rfl, by omega, by omega, .inl ⟨rfl, by omega, rfl, by simp⟩, H3.out.1.up (Below.refl _ _).drew, H3.out.2.1.trans (Fr.of_below (Below.refl _ _).drew), H3.out.2.2.1, H3.out.2.2.2.2⟩
        case round =>
          obtain ⟨gw, k, gone, v2, L2, rfl, rfl, rfl, hk, hgk, HC, HG⟩ := hrel
          obtain ⟨a2, k2, hv2, hB2⟩ := HG.out.1.own.form
          subst hv2
          have c1 := HG.out.1.c1
          have hk2 : (k2 : Int) ≤ 9223372036854775807 := hB2.cap.2
          have hl2 : (L2.length : Int) ≤ 4096 := by have := HG.out.1.len; omega
          have HB2 : Hid (BAt gw a2 k2 L2) := hB2
          clear hB2
          cases gone with
          | true =>
            obtain ⟨A, x, B, hL, hL2, hA, hx⟩ : ∃ A x B, L = A ++ x :: B ∧ L2 = A ++ B ∧ (∀ c ∈ A, goD y c = false) ∧ goD y x = true := by
              rcases HC.out with h | h
              · cases h.1
              · exact h.2
            have HE : Hid (AskD most y L b (L2 ++ [⟨b, y b, 0⟩]) ∧ L2.length < 4096) := by
              refine ⟨by rw [hL2]; exact .evict H3.out.2.2.2.1 HFL.out hL hA hx, ?_⟩
              rw [hL2]
              rw [hL] at hl4
              rw [List.length_append] at hl4 ⊢
              rw [List.length_cons] at hl4
              omega
            clear hL hL2 hA hx HC
            by_cases hlt : (k : Int) < (L2.length : Int)
            · go_wp2_with fail
              go_meet
              exact ⟨_, _, L2, rfl, HG.out.1, HG.out.2.1, HG.out.2.2.1, HG.out.2.2.2, HE.out⟩
            · go_wp2_with fail
              go_meet
              exact ⟨_, _, L2, rfl, HG.out.1, HG.out.2.1, HG.out.2.2.1, HG.out.2.2.2, HE.out⟩
          | false =>
            obtain ⟨hkL, hL2, hT⟩ : k ≤ L.length ∧ L2 = L ∧ (∀ c ∈ L.take k, goD y c = false) := by
              rcases HC.out with h | h
              · exact h.2
              · cases h.1
            subst hL2
            have HT : Hid (∀ c ∈ L2.take k, goD y c = false) := hT
            clear hT HC
            by_cases hlt : (k : Int) < (L2.length : Int)
            · have hkn : k < L2.length := by omega
              obtain ⟨c, hc⟩ : ∃ c, L2[k]? = some c := ⟨_, List.getElem?_eq_getElem hkn⟩
              have hcm : c ∈ L2 := List.mem_of_getElem? hc
              have htk : L2.take (k + 1) = L2.take k ++ [c] := by rw [List.take_add_one, hc]; rfl
              have hsp : L2 = L2.take k ++ c :: L2.drop (k + 1) := by
                have h1 := List.take_append_drop k L2
                rw [List.drop_eq_getElem_cons hkn] at h1
                rw [List.getElem?_eq_getElem hkn] at hc
                cases hc
                exact h1.symm
              obtain ⟨g, rfl, hgl, hcc⟩ : ∃ g, a2 = some ⟨g, 0, none⟩ ∧ g < gw.heap.size ∧ ∀ (j : Nat) (u : Value), (bfL c)[j]? = some u → gw.cell? ⟨g, k * 3 + j, none⟩ = some u := by
                rcases HB2.out.cells with e | ⟨g, e, hg, hcc⟩
                · rw [e] at hc; cases hc
                · exact ⟨g, e, hg, fun j u hj => hcc k c hc j u hj⟩
              have HS : Hid (c ∈ L2 ∧ L2.take (k + 1) = L2.take k ++ [c] ∧ L2 = L2.take k ++ c :: L2.drop (k + 1) ∧ g < gw.heap.size) := ⟨hcm, htk, hsp, hgl⟩
              have x0 := hcc 0 _ rfl
              have x1 := hcc 1 _ rfl
              have x2 := hcc 2 _ rfl
              rw [Nat.add_zero] at x0
              have HX0 : Hid (gw.cell? ⟨g, k * 3, none⟩ = some (.int .i64 (c.b : Int))) := x0
              have HR : Hid (gw.heap.size = gw.heap.size) := rfl
              clear hc hcm htk hsp hcc hgl
              by_cases hp : c.pin = 0
              · have hpb : ((c.pin : Int) == 0) = true := by simp [hp]
                obtain ⟨m1, hm1', hm2'⟩ := HH.out.2.2.2.1 c.b (HH.out.2.2.2.2.1 c HS.out.1)
                have DI := qdirty_any HG.out.1 (HY.out gw HG.out.2.1) c (HH.out.2.2.2.2.1 c HS.out.1) m1 (y c.b) hm1' hm2'
                have HP : Hid (c.pin = 0) := hp
                obtain ⟨eqb, heq⟩ : ∃ eqb, (y c.b == c.d) = eqb := ⟨_, rfl⟩
                rw [heq] at DI
                have HEQ : Hid (goD y c = eqb) := by show _ = _; unfold goD; rw [hp, heq]; simp
                clear hm1' hm2' hp heq
                go_wp2_with (first | (go_at_call 40; refine Hid.out ?_))
                change Calls _ _ _ _ _
                refine DI.mono ?_
                clear DI
                rintro r w4 ⟨rfl, hb4⟩
                have HG4 : Hid (QC w4 q ed most (.slice (some ⟨g, 0, none⟩) L2.length k2) L2 ∧ Fr (fun k => k = q) w w4 ∧ (∀ k, (Value.slice (some ⟨g, 0, none⟩) L2.length k2).ownBlock = some k → w.heap.size ≤ k) ∧ Src w4 (some ⟨gd, 0, none⟩) (y b)) := ⟨HG.out.1.up hb4, HG.out.2.1.trans (Fr.of_below hb4), HG.out.2.2.1, src_q HG.out.2.2.2 (S := fun _ => False) (Fr.of_below hb4) (fun h => h)⟩
                have c14 := HG4.out.1.c1
                have x04 : w4.cell? ⟨g, k * 3, none⟩ = some (.int .i64 (c.b : Int)) := (hb4.cell (p := ⟨g, k * 3, none⟩) HS.out.2.2.2).trans HX0.out
                clear hb4 x0 x1 x2 c1
                cases eqb with
                | true =>
                  have TK := qtake_any HG4.out.1 (c.b : Int)
                  have hnd := HH.out.2.2.2.2.2
                  have e3 : ltB L2 (c.b : Int) = L2.take k ++ L2.drop (k + 1) := by
                    have h1 := HS.out.2.2.1
                    rw [h1] at hnd
                    have h2 := (take_hit hnd).2.2
                    rw [← h1] at h2
                    exact h2
                  rw [e3] at TK
                  clear hnd e3
                  go_wp2_with (first | (go_at_call 61; refine Hid.out ?_))
                  change Calls _ _ _ _ _
                  refine TK.mono ?_
                  clear TK
                  rintro r w5 ⟨rfl, v5, hQ5, hf5, hv5⟩
                  have HG5 : Hid (QC w5 q ed most v5 (L2.take k ++ L2.drop (k + 1)) ∧ Fr (fun k => k = q) w w5 ∧ (∀ k, v5.ownBlock = some k → w.heap.size ≤ k) ∧ Src w5 (some ⟨gd, 0, none⟩) (y b)) := ⟨hQ5, HG4.out.2.1.trans hf5, fun j hj => by have := hv5 j hj; have := HG4.out.2.1.size; omega, src_q HG4.out.2.2.2 hf5 (fun e => by have := HH.out.1.ql; have := HDG.out; omega)⟩
                  have HC5 : Hid (∃ A x B, L2 = A ++ x :: B ∧ (L2.take k ++ L2.drop (k + 1)) = A ++ B ∧ (∀ c ∈ A, goD y c = false) ∧ goD y x = true) := ⟨_, c, _, HS.out.2.2.1, rfl, HT.out, HEQ.out⟩
                  clear hQ5 hf5 hv5 c14 x04
                  go_wp2_with fail
                  go_roundg (L2.length + 1 - (k + 1))
                  case measure => omega
                  case rel => exact ⟨_, k + 1, true, v5, _, rfl, rfl, by go_num, by omega, by omega, .inr ⟨rfl, HC5.out⟩, HG5.out⟩
                | false =>
                  have HC5 : Hid (∀ d ∈ L2.take (k + 1), goD y d = false) := by
                    intro d hd
                    rw [HS.out.2.1] at hd
                    rcases List.mem_append.1 hd with hd | hd
                    · exact HT.out d hd
                    · rw [List.mem_singleton.1 hd]; exact HEQ.out
                  clear c14 x04
                  go_wp2_with fail
                  go_roundg (L2.length + 1 - (k + 1))
                  case measure => omega
                  case rel => exact ⟨_, k + 1, false, _, L2, rfl, rfl, by go_num, by omega, by omega, .inl ⟨rfl, by omega, rfl, HC5.out⟩, HG4.out⟩
              · have hpb : ((c.pin : Int) == 0) = false := by simp; omega
                have HC5 : Hid (∀ d ∈ L2.take (k + 1), goD y d = false) := by
                  intro d hd
                  rw [HS.out.2.1] at hd
                  rcases List.mem_append.1 hd with hd | hd
                  · exact HT.out d hd
                  · rw [List.mem_singleton.1 hd]; unfold goD; simp [hp]
                clear hp
                go_wp2_with fail
                go_roundg (L2.length + 1 - (k + 1))
                case measure => omega
                case rel => exact ⟨_, k + 1, false, _, L2, rfl, rfl, by go_num, by omega, by omega, .inl ⟨rfl, by omega, rfl, HC5.out⟩, HG.out⟩
            · have HE : Hid (FullD most y L2 b) := ⟨H3.out.2.2.2.1, HFL.out, fun c hc => HT.out c (by rw [List.take_of_length_le (by omega)]; exact hc)⟩
              go_wp2_with fail
              go_ret
              exact ⟨.inr ⟨_, rfl, HE.out, HG.out.1, HG.out.2.2.1⟩, HG.out.2.1⟩
      | false =>
        have HAD : Hid (AskD most y L b (L ++ [⟨b, y b, 0⟩])) := .free H3.out.2.2.2.1 (by have := of_decide_eq_false HFB.out; omega)
        go_wp2_with fail
        go_meet
        exact ⟨_, _, L, rfl, H3.out.1.up (Below.refl _ _).drew, H3.out.2.1.trans (Fr.of_below (Below.refl _ _).drew), H3.out.2.2.1, H3.out.2.2.2.2, HAD.out, by omega⟩
    case rest =>
      obtain ⟨W5, v5, L5, rfl, H5⟩ := hcut
      obtain ⟨ai, ci, hv, _⟩ := H5.out.1.own.form
      subst hv
      have HQ1 : Hid (QC W5 q ed most (.slice ai L5.length ci) L5) := H5.out.1
      have HQL1 : Hid (q < W5.heap.size) := H5.out.1.ql
      have q1 : W5.cell? ⟨q, 1, none⟩ = some (.slice ai L5.length ci) := H5.out.1.c1
      have q1' : (W5.alloc (.cells #[.int .i64 (b : Int), .string (str (y b)), .int .i64 0] 74)).cell? ⟨q, 1, none⟩ = some (.slice ai L5.length ci) := (World.cell?_of_block (w := W5) (a := ⟨q, 1, none⟩) (Below.heap_alloc _ _ _ HQL1.out)).trans q1
      have CV1 := conv_str (H5.out.2.2.2.1.below (Below.refl W5.heap.size W5).drew (Nat.le_refl _)) (y b).length cd rfl
      have hlen : L5.length < 4096 := H5.out.2.2.2.2.2
      clear hlz hl4
      go_upto_region 18 with fail
      go_region_law (refine step_app rfl (.tmp 100) (.tmp 105) 61 rfl 0 74 i0 z 3 32 Try.underlying61 HI.out.1 HI.out.2.1 HI.out.2.2.2.1 HI.out.2.2.2.2 HI.out.2.2.1 (by decide) (by decide) L5.length (bfs L5) (bfL ⟨b, y b, 0⟩) (.slice ai L5.length ci) (by simp [Act.eval]) W5.heap.size 1 (by simp [Act.eval]) (row_same HQ1.out.own (fun j hj => Below.heap_alloc _ _ _ (HQ1.out.own.lt j hj))) rfl (fun j u hj => (cell_of_row _ _ _ _ _ _ (heap_alloc_new W5.drew _)).trans (by rw [← hj]; rcases j with _ | _ | _ | j <;> rfl)) (fun u hu => by simp [bfL] at hu; rcases hu with rfl | rfl | rfl <;> rfl) (Nat.zero_le _) (by have := HQ1.out.len; omega) ?_; intro G cap w' ho hg hat; have hat' : w'.heap[q]? = some (.cells #[.pointer (some ⟨ed, 0, none⟩), .slice ai L5.length ci, .int .i64 (most : Int)] 63 (0, 0)) := ((hg.block q (show q < (W5.drew.alloc (.cells #[.int .i64 (b : Int), .string (str (y b)), .int .i64 0] 74)).heap.size by rw [size_alloc]; have := HQL1.out; show q < W5.heap.size + 1; omega) (fun e => HQ1.out.qv e.symm)).trans (Below.heap_alloc W5.drew _ _ HQL1.out)).trans HQ1.out.at'; have qz : w'.cell? ⟨q, 1, none⟩ = some (.slice ai L5.length ci) := (cell_of_row _ _ _ _ _ _ hat').trans rfl; have fzz : w'.frozen? ⟨q, 1, none⟩ = false := frozen_of_row w' _ 1 _ _ hat'; have HN : Hid (w'.ownsRow 0 74 3 (.slice (some ⟨G, 0, none⟩) (L5.length + 1) cap) (L5.length + 1) (bfs L5 ++ bfL ⟨b, y b, 0⟩) ∧ (W5.drew.alloc (.cells #[.int .i64 (b : Int), .string (str (y b)), .int .i64 0] 74)).grownBy w' (Value.slice ai L5.length ci).ownBlock ∧ ((Value.slice ai L5.length ci).ownBlock = some G ∨ (W5.drew.alloc (.cells #[.int .i64 (b : Int), .string (str (y b)), .int .i64 0] 74)).heap.size ≤ G) ∧ w'.heap[q]? = some (.cells #[.pointer (some ⟨ed, 0, none⟩), .slice ai L5.length ci, .int .i64 (most : Int)] 63 (0, 0))) := ⟨ho, hg, hat, hat'⟩; clear ho hg hat hat')
      all_goals (
        go_wp2_with fail
        go_ret)
      all_goals (
        obtain ⟨n1, n2, n3⟩ := qc_next HQ1.out HN.out.1 HN.out.2.1 HN.out.2.2.1 HN.out.2.2.2 hlen
        have hz := H5.out.2.1.size
        refine ⟨.inl ⟨_, _, rfl, H5.out.2.2.2.2.1, n1, fun k hk => ?_⟩, fr_step H5.out.2.1 (fun k hk => hk.imp_right fun e => H5.out.2.2.1 k e) n2⟩
        rcases n3 k hk with e | e
        · exact H5.out.2.2.1 k e
        · omega)
  · obtain rfl : x.b = b := by simpa using hxb
    subst hL
    obtain ⟨e1, e2, e3⟩ := take_hit HH.out.2.2.2.2.2
    rw [e3] at hQ2
    rw [e1, e2]
    have H2 : Hid (QC w2 q ed most v2 (A ++ B) ∧ Fr (fun k => k = q) w w2 ∧ (∀ k, v2.ownBlock = some k → w.heap.size ≤ k)) := ⟨hQ2, fr_step (D' := fun k => k = q) (Fr.of_below HD.out.2) (fun k hk => .inl hk) hf2, fun k hk => by have := hv2 k hk; have := HD.out.2.size; omega⟩
    have hlen : (A ++ B).length < 4096 := by rw [List.length_append] at hl4 ⊢; rw [List.length_cons] at hl4; omega
    clear hQ2 hf2 hv2 e1 e2 e3 hxb hlz hl4
    have HAD : Hid (AskD most y (A ++ x :: B) x.b (A ++ B ++ [x])) := .hit rfl rfl
    generalize A ++ B = LL at *
    unfold bfL
    go_upto_region 6 with fail
    have HB3 : Hid (Below w2.heap.size w2 (w2.alloc (.cells #[.int .i64 (x.b : Int), .string (str x.d), .int .i64 (x.pin : Int)] 74))) := (Below.refl _ _).alloc (Nat.le_refl _) _
    have hrow := heap_alloc_new w2 (.cells #[.int .i64 (x.b : Int), .string (str x.d), .int .i64 (x.pin : Int)] 74)
    have x0 : (w2.alloc (.cells #[.int .i64 (x.b : Int), .string (str x.d), .int .i64 (x.pin : Int)] 74)).cell? ⟨w2.heap.size, 0, none⟩ = some (.int .i64 (x.b : Int)) := (cell_of_row _ _ _ _ _ _ hrow).trans rfl
    have x1 : (w2.alloc (.cells #[.int .i64 (x.b : Int), .string (str x.d), .int .i64 (x.pin : Int)] 74)).cell? ⟨w2.heap.size, 1, none⟩ = some (.string (str x.d)) := (cell_of_row _ _ _ _ _ _ hrow).trans rfl
    have x2 : (w2.alloc (.cells #[.int .i64 (x.b : Int), .string (str x.d), .int .i64 (x.pin : Int)] 74)).cell? ⟨w2.heap.size, 2, none⟩ = some (.int .i64 (x.pin : Int)) := (cell_of_row _ _ _ _ _ _ hrow).trans rfl
    generalize w2.alloc (.cells #[.int .i64 (x.b : Int), .string (str x.d), .int .i64 (x.pin : Int)] 74) = W3 at *
    have hq1 := H2.out.1.up HB3.out
    obtain ⟨ai, ci, hv, _⟩ := hq1.own.form
    subst hv
    have HQ1 : Hid (QC W3 q ed most (.slice ai LL.length ci) LL) := hq1
    have HQL1 : Hid (q < W3.heap.size) := hq1.ql
    have HZW : Hid (w2.heap.size < W3.heap.size) := (Array.getElem?_eq_some_iff.1 hrow).1
    have q1 : W3.cell? ⟨q, 1, none⟩ = some (.slice ai LL.length ci) := hq1.c1
    have q1' : (W3.alloc (.cells #[.int .i64 (x.b : Int), .string (str x.d), .int .i64 (x.pin : Int)] 74)).cell? ⟨q, 1, none⟩ = some (.slice ai LL.length ci) := (World.cell?_of_block (w := W3) (a := ⟨q, 1, none⟩) (Below.heap_alloc _ _ _ hq1.ql)).trans q1
    clear hrow hq1
    go_region_law (refine step_app rfl (.tmp 34) (.tmp 36) 61 rfl 0 74 i0 z 3 32 Try.underlying61 HI.out.1 HI.out.2.1 HI.out.2.2.2.1 HI.out.2.2.2.2 HI.out.2.2.1 (by decide) (by decide) LL.length (bfs LL) (bfL x) (.slice ai LL.length ci) (by simp [Act.eval]) W3.heap.size 1 (by simp [Act.eval]) (row_same HQ1.out.own (fun j hj => Below.heap_alloc _ _ _ (HQ1.out.own.lt j hj))) rfl (fun j u hj => (cell_of_row _ _ _ _ _ _ (heap_alloc_new W3.drew _)).trans (by rw [← hj]; rcases j with _ | _ | _ | j <;> rfl)) (fun u hu => by simp [bfL] at hu; rcases hu with rfl | rfl | rfl <;> rfl) (Nat.zero_le _) (by have := HQ1.out.len; omega) ?_; intro G cap w' ho hg hat; have hat' : w'.heap[q]? = some (.cells #[.pointer (some ⟨ed, 0, none⟩), .slice ai LL.length ci, .int .i64 (most : Int)] 63 (0, 0)) := ((hg.block q (show q < (W3.drew.alloc (.cells #[.int .i64 (x.b : Int), .string (str x.d), .int .i64 (x.pin : Int)] 74)).heap.size by rw [size_alloc]; have := HQL1.out; show q < W3.heap.size + 1; omega) (fun e => HQ1.out.qv e.symm)).trans (Below.heap_alloc W3.drew _ _ HQL1.out)).trans HQ1.out.at'; have qz : w'.cell? ⟨q, 1, none⟩ = some (.slice ai LL.length ci) := (cell_of_row _ _ _ _ _ _ hat').trans rfl; have fzz : w'.frozen? ⟨q, 1, none⟩ = false := frozen_of_row w' _ 1 _ _ hat'; have HN : Hid (w'.ownsRow 0 74 3 (.slice (some ⟨G, 0, none⟩) (LL.length + 1) cap) (LL.length + 1) (bfs LL ++ bfL x) ∧ (W3.drew.alloc (.cells #[.int .i64 (x.b : Int), .string (str x.d), .int .i64 (x.pin : Int)] 74)).grownBy w' (Value.slice ai LL.length ci).ownBlock ∧ ((Value.slice ai LL.length ci).ownBlock = some G ∨ (W3.drew.alloc (.cells #[.int .i64 (x.b : Int), .string (str x.d), .int .i64 (x.pin : Int)] 74)).heap.size ≤ G) ∧ w'.heap[q]? = some (.cells #[.pointer (some ⟨ed, 0, none⟩), .slice ai LL.length ci, .int .i64 (most : Int)] 63 (0, 0))) := ⟨ho, hg, hat, hat'⟩; clear ho hg hat hat')
    all_goals (
      go_wp2_with fail
      go_ret)
    all_goals (
      obtain ⟨n1, n2, n3⟩ := qc_next HQ1.out HN.out.1 HN.out.2.1 HN.out.2.2.1 HN.out.2.2.2 hlen
      have hz := H2.out.2.1.size
      refine ⟨.inl ⟨LL ++ [x], _, rfl, HAD.out, n1, fun k hk => ?_⟩, fr_step (H2.out.2.1.trans (Fr.of_below HB3.out)) (fun k hk => hk.imp_right fun e => H2.out.2.2 k e) n2⟩
      rcases n3 k hk with e | e
      · exact H2.out.2.2 k e
      · have := HZW.out; omega)
end
end Go.Proofs.Ytikpnfnbmbaljaa
