/- The document's store (leveeref11.Store) in memory; there, find, meet. -/
import Derived.Test.YthaogbbclocmaaaGreatJPah6
import Derived.Test.YthaogbbclocmaaaGreatKSl
import Derived.Test.YthaogbbclocmaaaGreatKLentG
import Derived.Deep.DeepCutAuto
import Derived.Test.YthaogbbclocmaaaGreatJPerr7
namespace Go.Proofs.YthaogbbclocmaaaGreat
open Go.RowKit
set_option maxRecDepth 100000
/-- A change of the document's. -/
structure RCh where
  id : Nat
  b : Nat
  fr : Nat
  d : List UInt8
  ap : Option Addr
  A : List Int
  ac : Nat
  out : Bool
def rcL (c : RCh) : List Value := [.int .i64 (c.id : Int), .int .i64 (c.b : Int), .int .i64 (c.fr : Int), .string (str c.d), .slice c.ap c.A.length c.ac, .bool c.out]
/-- The list of open changes lies at v. -/
structure LAt (w : World) (ao : Option Addr) (ca : Nat) (L : List RCh) : Prop where
  cap : L.length ≤ ca ∧ (ca : Int) ≤ 9223372036854775807
  cells : L = [] ∨ ∃ g, ao = some ⟨g, 0, none⟩ ∧ g < w.heap.size ∧ ∀ (i : Nat) (c : RCh), L[i]? = some c → ∀ (j : Nat) (v : Value), (rcL c)[j]? = some v → w.cell? ⟨g, i * 6 + j, none⟩ = some v
theorem LAt.up {w w' : World} {ao : Option Addr} {ca : Nat} {L : List RCh} (h : LAt w ao ca L) (hb : Below w.heap.size w w') : LAt w' ao ca L := by
  refine ⟨h.cap, ?_⟩
  rcases h.cells with e | ⟨g, e, hl, hc⟩
  · exact .inl e
  · exact .inr ⟨g, e, by have := hb.size; omega, fun i c hi j v hv => (hb.cell (p := ⟨g, i * 6 + j, none⟩) hl).trans (hc i c hi j v hv)⟩
/-- The document's store at q: its disk d, its bases vB, its changes, the last number. -/
structure RAt (w : World) (q d : Nat) (vB : Value) (ao : Option Addr) (ca : Nat) (L : List RCh) (last : Nat) : Prop where
  at' : w.heap[q]? = some (.cells #[.pointer (some ⟨d, 0, none⟩), vB, .slice ao L.length ca, .int .i64 (last : Int)] 43 (0, 0))
  ls : LAt w ao ca L
section
variable {w : World} {q d : Nat} {vB : Value} {ao : Option Addr} {ca : Nat} {L : List RCh} {last : Nat}
theorem RAt.up {w' : World} (h : RAt w q d vB ao ca L last) (hb : Below w.heap.size w w') : RAt w' q d vB ao ca L last :=
  ⟨(hb.block q (Array.getElem?_eq_some_iff.1 h.at').1).trans h.at', h.ls.up hb⟩
theorem RAt.c2 (h : RAt w q d vB ao ca L last) : w.cell? ⟨q, 2, none⟩ = some (.slice ao L.length ca) := (cell_of_row _ _ _ _ _ _ h.at').trans rfl
theorem RAt.c3 (h : RAt w q d vB ao ca L last) : w.cell? ⟨q, 3, none⟩ = some (.int .i64 (last : Int)) := (cell_of_row _ _ _ _ _ _ h.at').trans rfl
/-- Where an open change stands. -/
def findI : List RCh → Int → Nat → Int
  | [], _, _ => -1
  | c :: L, x, k => if (c.id : Int) = x then (k : Int) else findI L x (k + 1)
theorem findI_drop (L : List RCh) (x : Int) (k : Nat) (c : RCh) (h : L[k]? = some c) : findI (L.drop k) x k = if (c.id : Int) = x then (k : Int) else findI (L.drop (k + 1)) x (k + 1) := by
  obtain ⟨hk, e⟩ := List.getElem?_eq_some_iff.1 h
  rw [List.drop_eq_getElem_cons hk, findI, e]
set_option maxHeartbeats 2000000 in
theorem rfind_any (h : RAt w q d vB ao ca L last) (hl : L.length ≤ 1000000) (x : Int) :
    Calls Tryz.prog 115 #[.pointer (some ⟨q, 0, none⟩), .int .i64 x] w fun e w' => e = .returned (.int .i64 (findI L x 0)) ∧ w' = w := by
  have c2 := h.c2
  have HL : Hid (LAt w ao ca L) := h.ls
  have hca : (ca : Int) ≤ 9223372036854775807 := h.ls.cap.2
  clear h
  go_enter Tryz.func115, Tryz.ntmps115
  go_wp2_with fail
  go_loopg [5] L.length (fun gg t5 W => ∃ (gw : World) (k : Nat), gw = W ∧ Hid (w = gw) ∧ k ≤ L.length ∧ L.length - k ≤ gg ∧ t5 = .int .i64 k ∧ Hid (findI L x 0 = findI (L.drop k) x k))
  case atStart => exact ⟨_, 0, rfl, rfl, by omega, by omega, rfl, rfl⟩
  case round =>
    obtain ⟨gw, k, rfl, HW, hk, hgk, rfl, HF⟩ := hrel
    obtain rfl : w = gw := HW.out
    clear HW
    by_cases hlt : (k : Int) < (L.length : Int)
    · obtain ⟨c, hc⟩ : ∃ c, L[k]? = some c := ⟨_, List.getElem?_eq_getElem (by omega)⟩
      obtain ⟨g, rfl, hg, hcc⟩ : ∃ g, ao = some ⟨g, 0, none⟩ ∧ g < w.heap.size ∧ w.cell? ⟨g, k * 6, none⟩ = some (.int .i64 (c.id : Int)) := by
        rcases HL.out.cells with e | ⟨g, e, hg, hcc⟩
        · rw [e] at hc; cases hc
        · exact ⟨g, e, hg, hcc k c hc 0 _ rfl⟩
      have HF2 : Hid (findI L x 0 = if (c.id : Int) = x then (k : Int) else findI (L.drop (k + 1)) x (k + 1)) := HF.out.trans (findI_drop L x k c hc)
      clear HF hc
      by_cases hx : (c.id : Int) = x
      · have hxb : ((c.id : Int) == x) = true := by simpa using hx
        go_wp2_with fail
        go_ret
        exact ⟨by rw [HF2.out, if_pos hx]; rfl, rfl⟩
      · have hxb : ((c.id : Int) == x) = false := by simpa using hx
        have HF3 : Hid (findI L x 0 = findI (L.drop (k + 1)) x (k + 1)) := by show _ = _; rw [HF2.out, if_neg hx]
        have HX : Hid (¬ (c.id : Int) = x) := hx
        clear hx HF2
        go_wp2_with fail
        go_roundg (L.length - (k + 1))
        case measure => omega
        case rel => exact ⟨_, k + 1, rfl, rfl, by omega, by omega, by go_num, HF3⟩
    · have HE : Hid (findI L x 0 = -1) := by
        show _ = _
        rw [HF.out, List.drop_eq_nil_of_le (by omega)]; rfl
      go_wp2_with fail
      go_ret
      exact ⟨by rw [HE.out]; rfl, rfl⟩
end
/-- Do two changes meet? -/
def meetR (a c : RCh) : Bool := decide (a.b = c.b) && (decide (a.fr < c.fr + c.d.length) && decide (c.fr < a.fr + a.d.length))
set_option maxHeartbeats 2000000 in
theorem rmeet_any (a c : RCh) (w : World) (ha : a.b ≤ 1000 ∧ a.fr ≤ 1000 ∧ a.d.length ≤ 1000) (hc : c.b ≤ 1000 ∧ c.fr ≤ 1000 ∧ c.d.length ≤ 1000) :
    Calls Tryz.prog 116 #[.agg (rcL a).toArray, .agg (rcL c).toArray] w fun e w' => e = .returned (.bool (meetR a c)) ∧ Below w.heap.size w w' := by
  have HB : Hid (Below w.heap.size w ((w.alloc (.cells (rcL a).toArray 177)).alloc (.cells (rcL c).toArray 177))) := ((Below.refl _ _).alloc (Nat.le_refl _) _).alloc (by rw [size_alloc]; omega) _
  have HM : Hid (meetR a c = (decide (a.b = c.b) && (decide (a.fr < c.fr + c.d.length) && decide (c.fr < a.fr + a.d.length)))) := rfl
  have l1 : (str a.d).size = a.d.length := by simp [str, ByteArray.size]
  have l2 : (str c.d).size = c.d.length := by simp [str, ByteArray.size]
  generalize meetR a c = mr at *
  unfold rcL at *
  go_enter Tryz.func116, Tryz.ntmps116
  by_cases h1 : a.b = c.b
  · have h1b : ((a.b : Int) == (c.b : Int)) = true := by simp; omega
    have H1 : Hid (a.b = c.b) := h1
    clear h1
    by_cases h2 : a.fr < c.fr + c.d.length
    · have h2' : (a.fr : Int) < (c.fr : Int) + (c.d.length : Int) := by omega
      by_cases h3 : c.fr < a.fr + a.d.length
      · have h3' : (c.fr : Int) < (a.fr : Int) + (a.d.length : Int) := by omega
        go_wp2_with fail
        go_ret
        exact ⟨by rw [HM.out, decide_eq_true H1.out, decide_eq_true h2, decide_eq_true h3]; rfl, HB.out⟩
      · have h3' : ¬ (c.fr : Int) < (a.fr : Int) + (a.d.length : Int) := by omega
        have H3 : Hid (¬ c.fr < a.fr + a.d.length) := h3
        clear h3
        go_wp2_with fail
        go_ret
        exact ⟨by rw [HM.out, decide_eq_true H1.out, decide_eq_true h2, decide_eq_false H3.out]; rfl, HB.out⟩
    · have h2' : ¬ (a.fr : Int) < (c.fr : Int) + (c.d.length : Int) := by omega
      have H2 : Hid (¬ a.fr < c.fr + c.d.length) := h2
      clear h2
      go_wp2_with fail
      go_ret
      exact ⟨by rw [HM.out, decide_eq_true H1.out, decide_eq_false H2.out]; rfl, HB.out⟩
  · have h1b : ((a.b : Int) == (c.b : Int)) = false := by simp; omega
    have H1 : Hid (¬ a.b = c.b) := h1
    clear h1
    go_wp2_with fail
    go_ret
    exact ⟨by rw [HM.out, decide_eq_false H1.out]; rfl, HB.out⟩
end Go.Proofs.YthaogbbclocmaaaGreat
/- leveeref01.Lay. -/
namespace Go.Proofs.YthaogbbclocmaaaGreat
open Go.RowKit
set_option maxRecDepth 100000
/-- May n bytes be taken from the place 'from' on, of so many? -/
def inB (len : Nat) (f n : Int) : Bool := decide (0 ≤ f) && decide (0 ≤ n) && decide (f ≤ len) && decide (n ≤ len - f)
def errR (ok : Bool) : Int := if ok then 0 else 3
/-- What Lay answers. -/
def layL (l : List UInt8) (f : Int) (c : List UInt8) : List UInt8 := if inB l.length f c.length then l.take f.toNat ++ c ++ l.drop (f.toNat + c.length) else []
set_option maxHeartbeats 1000000 in
theorem rlay_empty (sp sc : Option Addr) (cc : Nat) (w : World) (hnc : sc = none → cc = 0) :
    Calls Tryz.prog 139 #[.slice sp 0 0, .int .i64 0, .slice sc 0 cc] w fun e w' => ∃ v, e = .returned (.tuple #[v, .int .i64 (errR true)]) ∧ Own w' w.heap.size v [] ∧ Below w.heap.size w w' := by
  go_enter Tryz.func139, Tryz.ntmps139
  go_wp2_with (first | (at_builtin; refine wpList_append_bytes rfl (.tmp 26) (.tmp 29) rfl w.heap.size [] [] _ rfl _ _ _ rfl rfl (Own.nil _ _) (Src.nil _ _) (Nat.le_refl _) (by simp) (fun _ => rfl) ?_; intro v1 w1 hown1 hb1; have hz1 := hb1.size) | (at_builtin; refine wpList_append_bytes rfl (.tmp 31) (.tmp 32) rfl w.heap.size _ [] _ rfl _ _ _ rfl rfl hown1 (Src.nil _ _) hz1 (by simp) hnc ?_; intro v2 w2 hown2 hb2; have hz2 := hb2.size; have hb12 := hb1.trans hb2) | (at_builtin; refine wpList_append_bytes rfl (.tmp 34) (.tmp 40) rfl w.heap.size _ [] _ rfl _ _ _ rfl rfl hown2 (Src.nil _ _) (by omega) (by simp) (fun _ => rfl) ?_; intro v3 w3 hown3 hb3))
  go_ret2
  exact ⟨_, rfl, hown3, hb12.trans hb3⟩
set_option maxHeartbeats 1000000 in
theorem rlay_any (sp sc : Option Addr) (l c : List UInt8) (cap cc : Nat) (f : Int) (w : World) (ha : Arg w sp cap l) (hc : Arg w sc cc c) (hf : -9223372036854775808 ≤ f ∧ f ≤ 9223372036854775807) :
    Calls Tryz.prog 139 #[.slice sp l.length cap, .int .i64 f, .slice sc c.length cc] w fun e w' => ∃ v, e = .returned (.tuple #[v, .int .i64 (errR (inB l.length f c.length))]) ∧ Own w' w.heap.size v (layL l f c) ∧ Below w.heap.size w w' := by
  have hlen := ha.len
  have hlc := hc.len
  cases hin : inB l.length f c.length with
  | false =>
    have hno : ∀ w', Own w' w.heap.size (.slice none 0 0) (layL l f c) := fun w' => by rw [layL, hin]; exact Own.nil _ _
    simp [inB] at hin
    by_cases h1 : f < 0
    · clear hin
      go_enter Tryz.func139, Tryz.ntmps139
      go_wp2
      go_ret2
      exact ⟨_, rfl, hno _, Below.refl _ _⟩
    by_cases h3 : (l.length : Int) < f
    · clear hin
      go_enter Tryz.func139, Tryz.ntmps139
      go_wp2
      go_ret2
      exact ⟨_, rfl, hno _, Below.refl _ _⟩
    have h4 : (l.length : Int) - f < c.length := by omega
    clear hin
    go_enter Tryz.func139, Tryz.ntmps139
    go_wp2
    go_ret2
    exact ⟨_, rfl, hno _, Below.refl _ _⟩
  | true =>
    have hin' := hin
    simp [inB] at hin'
    obtain ⟨F, rfl⟩ := Int.eq_ofNat_of_zero_le hin'.1.1
    have hL : layL l F c = ([] ++ l.take F ++ c) ++ l.drop (F + c.length) := by rw [layL, hin]; simp
    have hFc : (F : Int) + c.length ≤ l.length := by omega
    have htl : (l.take F).length = F := by simp; omega
    have hdl : (l.drop (F + c.length)).length = l.length - (F + c.length) := by simp
    rw [hL]
    clear hL
    rcases ha with ⟨rfl, rfl⟩ | ⟨b, off, rfl, hcap, hlc2, _, _, hs⟩
    · obtain rfl : F = 0 := by simp at hin'; omega
      have hc0 : c = [] := List.eq_nil_of_length_eq_zero (by simp at hin'; omega)
      subst hc0
      exact rlay_empty sp sc cc w hc.nilcap
    have hs1 : Src w (some ⟨b, off, none⟩) (l.take F) := hs.pre F
    have hs3 : Src w (some ⟨b, off + (F + c.length), none⟩) (l.drop (F + c.length)) := hs.off _
    have hcap' : (0 : Int) < cap := by omega
    have hF0 : (0 : Int) ≤ F := by omega
    rcases (show (F : Int) + c.length = cap ∨ (F : Int) + c.length < cap by omega) with hce | hce
    · have hdn : l.drop (F + c.length) = [] := List.drop_eq_nil_of_le (by omega)
      have hsn : ∀ (sx : Option Addr) (wx : World), Src wx sx (l.drop (F + c.length)) := fun sx wx => by rw [hdn]; exact Src.nil _ _
      have hdl0 : (l.drop (F + c.length)).length = 0 := by rw [hdn]; rfl
      have HD : Hid (l.length = F + c.length) := by show _ = _; omega
      have HC : Hid (cap = F + c.length) := by show _ = _; omega
      have hle1 : (l.length : Int) ≤ F + c.length := by omega
      have hle2 : (cap : Int) ≤ F + c.length := by omega
      have hle3 : (F : Int) + c.length ≤ cap := by omega
      clear hce hdn hdl hs3
      go_enter Tryz.func139, Tryz.ntmps139
      go_wp2_with (first | (at_builtin; refine wpList_append_bytes rfl (.tmp 26) (.tmp 29) rfl w.heap.size [] (l.take F) _ rfl _ _ _ rfl (by first | exact htl.symm | omega) (Own.nil _ _) hs1 (Nat.le_refl _) (by rw [htl, List.length_nil]; omega) (fun h => by cases h) ?_; intro v1 w1 hown1 hb1; have hz1 := hb1.size) | (at_builtin; refine wpList_append_bytes rfl (.tmp 31) (.tmp 32) rfl w.heap.size _ c _ rfl _ _ _ rfl rfl hown1 (hc.src.below hb1 (Nat.le_refl _)) hz1 (by simp only [List.length_append, List.length_nil, htl]; omega) hc.nilcap ?_; intro v2 w2 hown2 hb2; have hz2 := hb2.size; have hb12 := hb1.trans hb2) | (at_builtin; refine wpList_append_bytes rfl (.tmp 34) (.tmp 40) rfl w.heap.size _ (l.drop (F + c.length)) _ rfl _ _ _ rfl (by first | exact hdl0.symm | omega) hown2 (hsn _ _) (by omega) (by rw [hdl0]; simp only [List.length_append, List.length_nil, htl]; omega) (fun h => by cases h) ?_; intro v3 w3 hown3 hb3))
      go_ret2
      exact ⟨_, rfl, hown3, hb12.trans hb3⟩
    · go_enter Tryz.func139, Tryz.ntmps139
      go_wp2_with (first | (at_builtin; refine wpList_append_bytes rfl (.tmp 26) (.tmp 29) rfl w.heap.size [] (l.take F) _ rfl _ _ _ rfl (by first | exact htl.symm | omega) (Own.nil _ _) hs1 (Nat.le_refl _) (by rw [htl, List.length_nil]; omega) (fun h => by cases h) ?_; intro v1 w1 hown1 hb1; have hz1 := hb1.size) | (at_builtin; refine wpList_append_bytes rfl (.tmp 31) (.tmp 32) rfl w.heap.size _ c _ rfl _ _ _ rfl rfl hown1 (hc.src.below hb1 (Nat.le_refl _)) hz1 (by simp only [List.length_append, List.length_nil, htl]; omega) hc.nilcap ?_; intro v2 w2 hown2 hb2; have hz2 := hb2.size; have hb12 := hb1.trans hb2) | (at_builtin; refine wpList_append_bytes rfl (.tmp 34) (.tmp 40) rfl w.heap.size _ (l.drop (F + c.length)) _ rfl (some ⟨b, off + (F + c.length), none⟩) _ _ rfl (by first | exact hdl.symm | omega) hown2 (hs3.below hb12 (Nat.le_refl _)) (by omega) (by rw [hdl]; simp only [List.length_append, List.length_nil, htl]; omega) (fun h => by cases h) ?_; intro v3 w3 hown3 hb3))
      go_ret2
      exact ⟨_, rfl, hown3, hb12.trans hb3⟩
end Go.Proofs.YthaogbbclocmaaaGreat
/- The document's store: upon (a change laid upon bytes). -/
namespace Go.Proofs.YthaogbbclocmaaaGreat
open Go.RowKit
set_option maxRecDepth 100000
theorem own_less {w : World} {base base' : Nat} {v : Value} {l : List UInt8} (h : Own w base v l) (hb : base' ≤ base) : Own w base' v l := by
  obtain ⟨h1, h2⟩ := h
  refine ⟨h1, ?_⟩
  rcases h2 with h2 | ⟨g, cap, cur, hv, hg, r⟩
  · exact .inl h2
  · exact .inr ⟨g, cap, cur, hv, by omega, r⟩
/-- The bytes of a text, as an argument of a call. -/
theorem str_arg (w : World) (l : List UInt8) (h0 : 0 < l.length) (hl : l.length ≤ 1000000) : ∃ c w', (convert 9 36 (.string (str l))).run Tryz.prog w = .ok (.slice (some ⟨w.heap.size, 0, none⟩) l.length c) w' ∧ Arg w' (some ⟨w.heap.size, 0, none⟩) c l ∧ Below w.heap.size w w' := by
  have hsz : (str l).size = l.length := by simp [str, ByteArray.size]
  have h := Lib.run_convert_string_bytes (P := Tryz.prog) w 9 36 5 (str l) Tryz.underlying9 Tryz.underlying36 Tryz.underlying5
  rw [hsz] at h
  have g1 := grownCap_ge w l.length 0 5
  have g2 := grownCap_le_maxLen w l.length 0 5 (by unfold maxLen; omega)
  refine ⟨_, _, h, .inr ⟨_, _, rfl, by omega, g1, by unfold maxLen at g2; omega, by omega, ?_⟩, ⟨rfl, rfl, rfl, by rw [Lib.bytesWorld_size]; omega, fun k hk => Lib.bytesWorld_at_old w 5 (str l) k hk⟩⟩
  refine .inr ⟨_, _, rfl, by rw [Lib.bytesWorld_size]; omega, fun j hj => ?_⟩
  rw [Nat.zero_add, Lib.bytesWorld_cell w 5 (str l) j (by rw [hsz]; exact hj)]
  simp [str, bv, hj]
set_option maxHeartbeats 2000000 in
theorem rupon_any (c : RCh) (sp : Option Addr) (cap : Nat) (l : List UInt8) (w : World) (ha : Arg w sp cap l) (hl : l.length = 256) (hf : c.fr + c.d.length ≤ 256) (h0 : 0 < c.d.length) :
    Calls Tryz.prog 112 #[.slice sp l.length cap, .agg (rcL c).toArray] w fun e w' => ∃ v, e = .returned v ∧ Own w' w.heap.size v (layB l c.fr c.d) ∧ Below w.heap.size w w' := by
  have HB : Hid (Below w.heap.size w (w.alloc (.cells (rcL c).toArray 177))) := (Below.refl _ _).alloc (Nat.le_refl _) _
  have x2 : (w.alloc (.cells (rcL c).toArray 177)).cell? ⟨w.heap.size, 2, none⟩ = some (.int .i64 (c.fr : Int)) := (cell_of_row _ _ _ _ _ _ (heap_alloc_new _ _)).trans rfl
  have x3 : (w.alloc (.cells (rcL c).toArray 177)).cell? ⟨w.heap.size, 3, none⟩ = some (.string (str c.d)) := (cell_of_row _ _ _ _ _ _ (heap_alloc_new _ _)).trans rfl
  have HA : Hid (Arg w sp cap l) := ha
  have HL : Hid (l.length = 256 ∧ c.fr + c.d.length ≤ 256 ∧ 0 < c.d.length) := ⟨hl, hf, h0⟩
  clear ha hl hf h0
  unfold rcL at *
  go_enter Tryz.func112, Tryz.ntmps112
  go_upto_region 1 with fail
  generalize w.alloc (.cells #[.int .i64 (c.id : Int), .int .i64 (c.b : Int), .int .i64 (c.fr : Int), .string (str c.d), .slice c.ap c.A.length c.ac, .bool c.out] 177) = W0 at *
  obtain ⟨cc, w2, hcv, hav, hbv⟩ := str_arg W0 c.d HL.out.2.2 (by have := HL.out; omega)
  have HSZ : Hid (w.heap.size ≤ W0.heap.size ∧ W0.heap.size ≤ w2.heap.size) := ⟨HB.out.size, hbv.size⟩
  have LY := rlay_any sp (some ⟨W0.heap.size, 0, none⟩) l c.d cap cc (c.fr : Int) w2 ((HA.out.below HB.out (Nat.le_refl _)).below hbv (Nat.le_refl _)) hav (by have := HL.out; omega)
  have HE : Hid (layL l (c.fr : Int) c.d = layB l c.fr c.d) := by
    show _ = _
    unfold layL
    rw [if_pos (by have := HL.out; simp [inB]; omega)]
    rfl
  have HB2 : Hid (Below w.heap.size w w2) := HB.out.trans (hbv.mono HSZ.out.1)
  rw [HE.out] at LY
  clear HB hav hbv HE
  obtain ⟨y, hy⟩ : ∃ y, layB l c.fr c.d = y := ⟨_, rfl⟩
  have HY : Hid (layB l c.fr c.d = y) := hy
  rw [hy] at LY
  clear hy
  generalize errR (inB l.length (c.fr : Int) c.d.length) = ib at *
  generalize W0.heap.size = z0 at *
  go_wp2_with (first | (go_at_call 139; refine LY.mono ?_; rintro r w3 ⟨v, rfl, ho, hb3⟩))
  go_ret
  exact ⟨_, rfl, by rw [HY.out]; exact own_less ho (by have := HSZ.out; omega), HB2.out.trans (hb3.mono (by have := HSZ.out; omega))⟩
end Go.Proofs.YthaogbbclocmaaaGreat
/- The walk of leveelaw11.PatchOrder: rows of bools; what holds behind the crash. -/
namespace Go.Proofs.YthaogbbclocmaaaGreat
open Go.RowKit
set_option maxRecDepth 100000
def bvl (l : List Bool) : List Value := l.map Value.bool
/-- A row of bools. -/
def RowB (w : World) (g : Nat) (l : List Bool) : Prop := w.heap[g]? = some (.cells (bvl l).toArray 4 (0, 0))
theorem RowB.below {w w' : World} {g B : Nat} {l : List Bool} (h : RowB w g l) (hb : Below B w w') (hg : g < B) : RowB w' g l := by unfold RowB; rw [hb.block g hg]; exact h
theorem RowB.lt {w : World} {g : Nat} {l : List Bool} (h : RowB w g l) : g < w.heap.size := (Array.getElem?_eq_some_iff.1 h).1
theorem RowB.cell {w : World} {g : Nat} {l : List Bool} (h : RowB w g l) {j : Nat} {b : Bool} (hj : l[j]? = some b) : w.cell? ⟨g, j, none⟩ = some (.bool b) := by
  rw [cell_of_row w g j _ _ _ h]
  simp [bvl, hj]
theorem RowB.frozen {w : World} {g : Nat} {l : List Bool} (h : RowB w g l) (j : Nat) : w.frozen? ⟨g, j, none⟩ = false := frozen_of_row w g j _ _ h
theorem RowB.set {w : World} {g : Nat} {l : List Bool} (h : RowB w g l) (j : Nat) (b : Bool) : RowB (w.setCell ⟨g, j, none⟩ (.bool b)) g (l.set j b) := by
  have e2 : (bvl (l.set j b)).toArray = (bvl l).toArray.setIfInBounds j (.bool b) := by
    rw [show bvl (l.set j b) = (bvl l).set j (.bool b) by simp [bvl]]; simp
  unfold RowB at h ⊢
  rw [e2]
  exact heap_setCell_same w g j _ 4 _ h
theorem Tryz.infoB : (Tryz.prog.info? 4).map (fun i => (i.zero, i.size, i.bytes)) = some (some (.bool false), 1, 1) := by kernel_rfl
theorem make_bools (w : World) (n : Nat) (hn : n ≤ 1000000) :
    (Instr.makeSlice 63 (.int .i64 (n : Int)) (.int .i64 (n : Int))).run Tryz.prog w = .ok (.slice (some ⟨w.heap.size, 0, none⟩) n n) (w.alloc (.cells (bvl (List.replicate n false)).toArray 4)) := by
  obtain ⟨i0, hi, hz0, hz1, hz2⟩ := info_parts Tryz.infoB
  have h := run_make (P := Tryz.prog) w 63 4 i0 _ Tryz.underlying63 hi hz0 .i64 .i64 (n : Int) (n : Int) (by omega) (by omega) (by rw [hz2]; omega) (by omega)
  rw [h]
  congr 3
  have e : madeCells (Value.bool false).cells ((n : Int).toNat * i0.size) = (bvl (List.replicate n false)).toArray := by
    apply Array.toList_inj.1
    rw [hz1, Int.toNat_natCast, Nat.mul_one]
    rw [show bvl (List.replicate n false) = List.replicate n (Value.bool false) by simp [bvl]]
    exact toList_madeCells_one _ _
  rw [e]
/-- The first i of a row that is told by f, the others not. -/
def upTo (f : Nat → Bool) (i n : Nat) : List Bool := (List.range n).map fun j => decide (j < i) && f j
theorem upTo_zero (f : Nat → Bool) (n : Nat) : upTo f 0 n = List.replicate n false := by
  apply List.ext_getElem
  · simp [upTo]
  · intro i h1 h2; simp [upTo]
theorem upTo_get {f : Nat → Bool} {i n j : Nat} (hj : j < i) (hi : i ≤ n) : (upTo f i n)[j]? = some (f j) := by
  simp [upTo, show j < n by omega, hj]
theorem upTo_set (f : Nat → Bool) (i n : Nat) : (upTo f i n).set i (f i) = upTo f (i + 1) n := by
  apply List.ext_getElem
  · simp [upTo]
  · intro j h1 h2
    rw [List.getElem_set]
    by_cases e : i = j
    · subst e; simp [upTo]
    · rw [if_neg e]
      simp only [upTo, List.getElem_map, List.getElem_range]
      congr 1
      simp; omega
theorem upTo_length (f : Nat → Bool) (i n : Nat) : (upTo f i n).length = n := by simp [upTo]
end Go.Proofs.YthaogbbclocmaaaGreat
