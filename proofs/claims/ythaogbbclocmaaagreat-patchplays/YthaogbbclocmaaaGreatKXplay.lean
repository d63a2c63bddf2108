/- leveelaw11.PatchPlays: the walk. -/
import Derived.Test.YthaogbbclocmaaaGreatJXdo4
import Derived.Test.YthaogbbclocmaaaGreatKXsame
import Derived.Test.YthaogbbclocmaaaGreatJXopen4
import Derived.Test.YthaogbbclocmaaaGreatJPerr7
import Derived.Deep.CutBlock
import Derived.Deep.DeepCutAuto
namespace Go.Proofs.YthaogbbclocmaaaGreat
open Go.RowKit
set_option maxRecDepth 100000
theorem wpAnyH_sub {P : Program} {md : Region.Mode} {ops : Array Oper} {Q : Exit → Act → World → Prop} {S T : World → Prop} (hs : ∀ w, T w → S w) : ∀ (fuel : Nat) (listed : Array Bool) (a : Act) (w : World), wpAnyH P md ops Q T fuel listed a w → wpAnyH P md ops Q S fuel listed a w
  | 0, _, _, _, h => h
  | fuel + 1, _, _, _, h => ⟨h.1, fun i hi => wpOp_mono (fun a' w' h' => ⟨hs _ h'.1, wpAnyH_sub hs fuel _ a' w' h'.2⟩) (h.2 i hi)⟩
theorem lastOf_at : ∀ (sf : List UInt8) (ws : List (List UInt8)), (sf :: ws)[ws.length]? = some (lastOf sf ws)
  | sf, [] => rfl
  | sf, x :: ws => by
    show (x :: ws)[ws.length]? = some ((x :: ws).getLast (by simp))
    rw [List.getLast_eq_getElem, List.getElem?_eq_getElem (by simp)]
    simp
/-- Both stores between two calls of the walk. -/
structure PlI (w gw : World) (p dp ed q k : Nat) : Prop where
  out : ∃ s ops A L D, BX 6 w gw p dp ed q s ops (5 * k) (k + 1) A L D
/-- Both disks at the end. -/
theorem BX.disks {N : Nat} {w0 w : World} {p dp ed q : Nat} {s : PSt} {ops : Nat → List Int} {κ m : Nat} {A : Nat → List Int} {L : List RCh} {D : Nat → Prop} (h : BX N w0 w p dp ed q s ops κ m A L D) :
    ∃ (y : Nat → List UInt8) (ver : Nat → List (List UInt8)) (base gb cb : Nat) (va vc : Nat → Nat), DiskAt w w0.heap.size dp N s.σ.en s.σ.lf s.σ.sf s.σ.ws s.σ.dq s.σ.vs ∧ RefW w base ed N false 0 ver gb cb va vc ∧ (∀ i, i < N → y i = lastOf (s.σ.sf i) (s.σ.ws i)) ∧ (∀ i, (y i).length = 256) ∧ (∀ i, i < N → ver i = s.σ.sf i :: s.σ.ws i) ∧ ∀ i, i < N → (s.σ.sf i).length = 256 := by
  obtain ⟨ver, ⟨gB, cB, ao, ca, base, gb, cb, va, vc, hx⟩, hv⟩ := h.rt
  have hD := h.gw.pm.cs.disk
  rw [h.gw.dp, h.gw.dn] at hD
  refine ⟨fun i => if i < N then lastOf (s.σ.sf i) (s.σ.ws i) else zer, ver, base, gb, cb, va, vc, hD, hx.ds, fun i hi => if_pos hi, fun i => ?_, hv, fun i hi => (hD.row i hi).2.1⟩
  show (if i < N then lastOf (s.σ.sf i) (s.σ.ws i) else zer).length = 256
  split
  · rename_i hi
    exact lastOf_length (hD.row i hi).2.1 (hD.wr i hi).2.1
  · simp [zer]
theorem own_nt {w : World} {base : Nat} {v : Value} {l : List Nat} (h : OwnNt w base v l) : ∃ i c, v = .slice i l.length c ∧ SrcI w i (l.map fun k : Nat => (k : Int)) := by
  obtain ⟨h1, h2⟩ := h
  rcases h2 with ⟨rfl, h3⟩ | ⟨g, cap, cur, rfl, hg, hh, hn, hm, hs, hx⟩
  · exact ⟨none, 0, by rw [h3], .inl (by rw [List.eq_nil_of_length_eq_zero h3]; rfl)⟩
  · refine ⟨_, cap, rfl, .inr ⟨g, 0, rfl, (Array.getElem?_eq_some_iff.1 hh).1, fun j hj => ?_⟩⟩
    rw [List.length_map] at hj
    rw [Nat.zero_add, cell_of_row _ _ _ _ _ _ hh]
    have e : (cur.toList.take (l.length * 1))[j]? = (ints l)[j]? := by rw [hx]
    rw [List.getElem?_take, if_pos (by omega)] at e
    rw [← Array.getElem?_toList, e]
    simp [ints, hj]
set_option maxHeartbeats 32000000 in
theorem patchPlays_any (sp : Option Addr) (m cap : Nat) (AA : Nat → Act6) (w : World) (h1 : m ≤ cap ∧ (cap : Int) ≤ 9223372036854775807 ∧ ActsAt2 w sp m AA) :
    Calls Tryz.prog 3 #[.slice sp m cap] w fun e w' => e = .returned (.bool true) ∧ Below w.heap.size w w' := by
  obtain ⟨hm1, hm2, hA⟩ := h1
  have NW := new_any w 6 (by omega) (by omega)
  rw [show ((6 : Nat) : Int) = 6 from rfl] at NW
  have RN := fun W => rnew_any 6 (by omega) (by omega) W
  rw [show ((6 : Nat) : Int) = 6 from rfl] at RN
  have HAA : Hid (ActsAt2 w sp m AA) := hA
  have hmm : (m : Int) ≤ 9223372036854775807 := by omega
  clear hA
  go_enter Tryz.func3, Tryz.ntmps3
  go_wp2_with fail
  refine NW.mono ?_
  clear NW
  rintro r w1 ⟨dp, dq, rfl, hD1, hb1⟩
  have HD1 : Hid (DiskAt w1 w.heap.size dp 6 false 0 (fun _ => zer) (fun _ => []) dq (fun _ => .slice none 0 0)) := hD1
  have HB1 : Hid (Below w.heap.size w w1) := hb1
  clear hD1 hb1
  go_wp2_with fail
  refine (RN _).mono ?_
  clear RN
  rintro r w2 ⟨rfl, ⟨gb, cb, va, vc, hR2, hgb, hva⟩, hb2⟩
  have HR2 : Hid (RefW w2 w1.heap.size w1.heap.size 6 false 0 (fun _ => zer :: []) gb cb va vc ∧ w1.heap.size ≤ gb ∧ ∀ i, i < 6 → w1.heap.size ≤ va i) := ⟨hR2, hgb, hva⟩
  have HB12 : Hid (Below w1.heap.size w1 w2) := hb2
  have PO := popn_any2 (HD1.out.below hb2 (Nat.le_refl _)) 6 (by omega) (by omega)
  rw [show ((6 : Nat) : Int) = 6 from rfl] at PO
  clear hR2 hb2 hgb hva
  go_wp2_with fail
  refine PO.mono ?_
  clear PO
  rintro r w3 ⟨p, cm, bm, cp, mb, rfl, hP3, hbd, hb3⟩
  obtain ⟨s2, hs2⟩ : ∃ s2, s2 = newS p cm bm ⟨cp, mb, 0, .slice none 0 0, 6, [], dp, 6, dq, false, 0, fun _ => zer, fun _ => [], fun _ => .slice none 0 0⟩ := ⟨_, rfl⟩
  rw [← hs2] at hP3
  have LN := plen_any hP3
  rw [show s2.p = p from by rw [hs2]; rfl, show s2.σ.dn = 6 from by rw [hs2]; rfl, show ((6 : Nat) : Int) = 6 from rfl] at LN
  have RO := ropen_any (HR2.out.1.below hb3).at' (by omega)
  have BO := fun (w4 : World) (v4 : Value) (hS4 : RSt0 w3 w4 w1.heap.size w3.heap.size 6 v4) => bx_open (by omega) HD1.out HB1.out HR2.out.1 HR2.out.2.1 HR2.out.2.2 HB12.out hs2 hP3 hbd hb3 hS4
  have HBO : Hid (∀ (w4 : World) (v4 : Value), RSt0 w3 w4 w1.heap.size w3.heap.size 6 v4 → s2.cnt = 0 ∧ ∃ D, BX 6 w w4 p dp w1.heap.size w3.heap.size s2 (fun _ => []) 0 1 (fun _ => []) [] D) := BO
  clear BO hP3 hbd hb3 hs2 HD1 HB1 HR2 HB12
  go_upto_region 6 with (first | (go_at_call 12; refine LN.mono ?_; rintro r wx ⟨rfl, hwx⟩; obtain rfl : w3 = wx := hwx.symm))
  clear LN
  go_wp2_with (first | (go_at_call 13; refine Hid.out ?_))
  change Calls _ _ _ _ _
  refine RO.mono ?_
  clear RO
  rintro r w4 ⟨rfl, v4, hS4⟩
  have HP4 : Hid (PlI w w4 p dp w1.heap.size w3.heap.size 0) := by
    obtain ⟨_, D, hB⟩ := HBO.out w4 v4 hS4
    exact ⟨s2, _, _, _, D, hB⟩
  clear HBO hS4
  generalize w1.heap.size = ed at *
  generalize w3.heap.size = q at *
  go_wp2_with fail
  go_loopg [10, 11, 12] 40 (fun gg t10 _ _ W => ∃ (gw : World) (k : Nat), gw = W ∧ k ≤ 40 ∧ 40 - k ≤ gg ∧ t10 = .int .i64 k ∧ Hid (PlI w gw p dp ed q k))
  case atStart => exact ⟨_, 0, rfl, by omega, by omega, rfl, HP4⟩
  case round =>
    clear HP4
    obtain ⟨gw, k, rfl, hk, hgg, rfl, HW⟩ := hrel
    by_cases hlt : k < m ∧ k < 40
    · have hlt1 : (k : Int) < (m : Int) := by omega
      have hlt2 : (k : Int) < 40 := by omega
      obtain ⟨s, ops, A, L, D, hBX⟩ := HW.out.out
      have HX : Hid (BX 6 w gw p dp ed q s ops (5 * k) (k + 1) A L D) := hBX
      clear HW hBX
      obtain ⟨ab, aoff, rfl, hab, hcc⟩ := HAA.out (by omega)
      obtain ⟨⟨a0, a1, a2, a3, a4, a5⟩, hok⟩ := hcc k hlt.1
      rw [addr_add] at a0 a1 a2 a3 a4 a5
      have tr : ∀ o, gw.cell? ⟨ab, o, none⟩ = w.cell? ⟨ab, o, none⟩ := fun o => HX.out.gw.be.cell (p := ⟨ab, o, none⟩) hab
      rw [← tr] at a0 a1 a2 a3 a4 a5
      rw [Nat.add_zero] at a0
      clear tr
      obtain ⟨a, ha⟩ : ∃ a, a = AA k := ⟨_, rfl⟩
      rw [← ha] at a0 a1 a2 a3 a4 a5 hok
      have HOK : Hid (a.Ok w ∧ Arg w a.dp a.dc a.D) := hok
      have hal : (a.A.length : Int) ≤ 9223372036854775807 := HOK.out.1.al
      clear hcc hok ha
      go_upto_region 11 with fail
      have HB3 : Hid (Below gw.heap.size gw (gw.alloc (.cells #[.int .i64 a.K, .int .i64 a.N, .int .i64 a.F, .slice a.dp a.D.length a.dc, .slice a.ap a.A.length a.ac, .bool a.R] 39))) := (Below.refl _ _).alloc (Nat.le_refl _) _
      have HX3 : Hid (BX 6 w (gw.alloc (.cells #[.int .i64 a.K, .int .i64 a.N, .int .i64 a.F, .slice a.dp a.D.length a.dc, .slice a.ap a.A.length a.ac, .bool a.R] 39)) p dp ed q s ops (5 * k) (k + 1) A L D) := HX.out.up HB3.out
      have HROW : Hid ((gw.alloc (.cells #[.int .i64 a.K, .int .i64 a.N, .int .i64 a.F, .slice a.dp a.D.length a.dc, .slice a.ap a.A.length a.ac, .bool a.R] 39)).heap[gw.heap.size]? = some (.cells #[.int .i64 a.K, .int .i64 a.N, .int .i64 a.F, .slice a.dp a.D.length a.dc, .slice a.ap a.A.length a.ac, .bool a.R] 39 (0, 0))) := heap_alloc_new _ _
      have HZ3 : Hid (gw.heap.size < (gw.alloc (.cells #[.int .i64 a.K, .int .i64 a.N, .int .i64 a.F, .slice a.dp a.D.length a.dc, .slice a.ap a.A.length a.ac, .bool a.R] 39)).heap.size) := by show _ < _; rw [size_alloc]; omega
      have HNB : Hid (¬ Ak s gw.heap.size ∧ ¬ D gw.heap.size) := ⟨fun hk => by have := HX.out.gw.pm.lt hk; omega, fun hk => by have := HX.out.rs.ltD _ hk; omega⟩
      clear a0 a1 a2 a3 a4 a5 HX
      generalize gw.alloc (.cells #[.int .i64 a.K, .int .i64 a.N, .int .i64 a.F, .slice a.dp a.D.length a.dc, .slice a.ap a.A.length a.ac, .bool a.R] 39) = W3 at *
      generalize gw.heap.size = g at *
      have b4 : W3.cell? ⟨g, 4, none⟩ = some (.slice a.ap a.A.length a.ac) := (cell_of_row _ _ _ _ _ _ HROW.out).trans rfl
      by_cases h20 : (20 : Int) < (a.A.length : Int)
      · go_wp2_with fail
        go_roundg (40 - (k + 1))
        case measure => omega
        case rel => exact ⟨_, k + 1, rfl, by omega, by omega, by go_num, ⟨s, ops, A, L, D, HX3.out.more (by omega) (by omega)⟩⟩
      · have h20' : a.A.length ≤ 20 := by omega
        have b5 : W3.cell? ⟨g, 5, none⟩ = some (.bool a.R) := (cell_of_row _ _ _ _ _ _ HROW.out).trans rfl
        have q3 : W3.cell? ⟨q, 3, none⟩ = some (.int .i64 (s.cnt : Int)) := HX3.out.rs.c3
        have hcn : (s.cnt : Int) ≤ 1000 := by have := HX3.out.gw.pl.bd.1; omega
        go_upto_region 13 with fail
        go_cut [81] (fun t wc => ∃ b : Bool, t = .bool b ∧ wc = W3 ∧ Hid (b = true → 1 ≤ a.A.length ∧ a.R = false))
        case first =>
          by_cases c1 : (0 : Int) < (a.A.length : Int)
          · have HC1 : Hid (1 ≤ a.A.length) := by show _ ≤ _; omega
            cases hR : a.R with
            | true =>
              rw [hR] at b5
              go_wp2_with fail
              go_meet
              exact ⟨false, rfl, rfl, fun h => by cases h⟩
            | false =>
              rw [hR] at b5
              by_cases c2 : (0 : Int) < (s.cnt : Int)
              · go_wp2_with fail
                go_meet
                exact ⟨true, congrArg Value.bool (decide_eq_true (by omega)), rfl, fun _ => ⟨HC1.out, hR⟩⟩
              · go_wp2_with fail
                go_meet
                exact ⟨false, congrArg Value.bool (decide_eq_false (by omega)), rfl, fun h => by cases h⟩
          · go_wp2_with fail
            go_meet
            exact ⟨false, rfl, rfl, fun h => by cases h⟩
        case rest =>
        obtain ⟨bb, rfl, hwc, HBB⟩ := hcut
        obtain rfl : W3 = wc := hwc.symm
        go_upto_if 81 with fail
        go_cut [12] (fun t wc => ∃ (W5 : World) (x : Int), W5 = wc ∧ t = .int .i64 x ∧ Hid (-9223372036854775808 ≤ x ∧ x ≤ 9223372036854775807) ∧ Hid (Below W3.heap.size W3 W5))
        case first =>
          have no : Hid (-9223372036854775808 ≤ (s.cnt : Int) ∧ (s.cnt : Int) ≤ 9223372036854775807) := by show _ ∧ _; omega
          cases bb with
          | false =>
            go_wp2_with fail
            go_meet
            exact ⟨_, _, rfl, rfl, no, Below.refl _ _⟩
          | true =>
            have HC1 : Hid (1 ≤ a.A.length) := (HBB.out rfl).1
            have HRR : Hid (a.R = false) := (HBB.out rfl).2
            go_upto_region 14 with fail
            have HBD : Hid (Below W3.heap.size W3 W3.drew) := (Below.refl _ _).drew
            have S1 : Hid (W3.drew.cell? ⟨g, 0, none⟩ = some (.int .i64 a.K) ∧ W3.drew.cell? ⟨g, 1, none⟩ = some (.int .i64 a.N) ∧ W3.drew.cell? ⟨g, 2, none⟩ = some (.int .i64 a.F) ∧ W3.drew.cell? ⟨g, 3, none⟩ = some (.slice a.dp a.D.length a.dc) ∧ W3.drew.cell? ⟨g, 4, none⟩ = some (.slice a.ap a.A.length a.ac) ∧ W3.drew.cell? ⟨g, 5, none⟩ = some (.bool a.R) ∧ W3.drew.cell? ⟨q, 3, none⟩ = some (.int .i64 (s.cnt : Int))) := ⟨(cell_of_row _ _ _ _ _ _ (show W3.drew.heap[g]? = _ from HROW.out)).trans rfl, (cell_of_row _ _ _ _ _ _ (show W3.drew.heap[g]? = _ from HROW.out)).trans rfl, (cell_of_row _ _ _ _ _ _ (show W3.drew.heap[g]? = _ from HROW.out)).trans rfl, (cell_of_row _ _ _ _ _ _ (show W3.drew.heap[g]? = _ from HROW.out)).trans rfl, (cell_of_row _ _ _ _ _ _ (show W3.drew.heap[g]? = _ from HROW.out)).trans rfl, (cell_of_row _ _ _ _ _ _ (show W3.drew.heap[g]? = _ from HROW.out)).trans rfl, q3⟩
            have HX4 : Hid (BX 6 w W3.drew p dp ed q s ops (5 * k) (k + 1) A L D) := HX3.out.up HBD.out
            have AF := after_gen a W3.drew ⟨HOK.out.1.k, HOK.out.1.n, HOK.out.1.f, HOK.out.1.d.below HX4.out.gw.be (Nat.le_refl _), HOK.out.1.dl, HOK.out.1.a.below HX4.out.gw.be (Nat.le_refl _), HOK.out.1.al, HOK.out.1.ab⟩ h20' (s.cnt : Int) (by omega)
            clear b4 b5 q3
            refine wp_region_held_drew (S := (fun W => W.cell? ⟨g, 0, none⟩ = some (.int .i64 a.K) ∧ W.cell? ⟨g, 1, none⟩ = some (.int .i64 a.N) ∧ W.cell? ⟨g, 2, none⟩ = some (.int .i64 a.F) ∧ W.cell? ⟨g, 3, none⟩ = some (.slice a.dp a.D.length a.dc) ∧ W.cell? ⟨g, 4, none⟩ = some (.slice a.ap a.A.length a.ac) ∧ W.cell? ⟨g, 5, none⟩ = some (.bool a.R) ∧ W.cell? ⟨q, 3, none⟩ = some (.int .i64 (s.cnt : Int)))) (by kernel_rfl) S1.out (fun hH => ?_)
            refine takeH (i := 0) (dst := some 82) (v := ?v1) rfl rfl (by kernel_rfl) (by kernel_rfl) (by kernel_rfl) (fun _ _ _ h => h) rfl ?hy1 hH rfl ?rest1
            case hy1 => (intro W hW; obtain ⟨e0, e1, e2, e3, e4, e5, e6⟩ := hW; go_simp; try with_reducible rfl)
            (try simp only [Act.put, List.setIfInBounds_toArray, List.set_cons_zero, List.set_cons_succ])
            refine takeH (i := 1) (dst := some 83) (v := ?v2) rfl rfl (by kernel_rfl) (by kernel_rfl) (by kernel_rfl) (fun _ _ _ h => h) rfl ?hy2 hH rfl ?rest2
            case hy2 => (intro W hW; (try dsimp only at hW); go_simp; try with_reducible rfl)
            (try simp only [Act.put, List.setIfInBounds_toArray, List.set_cons_zero, List.set_cons_succ])
            refine takeH (i := 2) (dst := some 84) (v := ?v3) rfl rfl (by kernel_rfl) (by kernel_rfl) (by kernel_rfl) (fun _ _ _ h => h) rfl ?hy3 hH rfl ?rest3
            case hy3 => (intro W hW; (try dsimp only at hW); go_simp; try with_reducible rfl)
            (try simp only [Act.put, List.setIfInBounds_toArray, List.set_cons_zero, List.set_cons_succ])
            refine takeH (i := 3) (dst := some 85) (v := ?v4) rfl rfl (by kernel_rfl) (by kernel_rfl) (by kernel_rfl) (fun _ _ _ h => h) rfl ?hy4 hH rfl ?rest4
            case hy4 => (intro W hW; (try dsimp only at hW); go_simp; try with_reducible rfl)
            (try simp only [Act.put, List.setIfInBounds_toArray, List.set_cons_zero, List.set_cons_succ])
            refine takeH (i := 4) (dst := some 86) (v := ?v5) rfl rfl (by kernel_rfl) (by kernel_rfl) (by kernel_rfl) (fun _ _ _ h => h) rfl ?hy5 hH rfl ?rest5
            case hy5 => (intro W hW; obtain ⟨e0, e1, e2, e3, e4, e5, e6⟩ := hW; go_simp; try with_reducible rfl)
            (try simp only [Act.put, List.setIfInBounds_toArray, List.set_cons_zero, List.set_cons_succ])
            refine callH (i := 5) { dst := some 87, op := Go.Op.call { callee := Go.Callee.value (Go.Operand.func 14), args := #[Go.Operand.tmp 82, Go.Operand.tmp 86], argTypes := #[39, 2] }, type := 37, pos := "law.go:112", after := #[{ on := 0, ground := Go.Ground.data }, { on := 4, ground := Go.Ground.data }], guard := none } (by kernel_rfl) rfl rfl (fun K hK => ?_)
            go_simp
            refine AF.mono ?_
            clear AF
            rintro r w6 ⟨asp, LA, aca, rfl, h6s, h6l, _, h61, h6b, hb6⟩
            have h6p : 1 ≤ LA.length := h61 HC1.out
            obtain ⟨ib, io, rfl, hx6⟩ : ∃ b o, asp = some ⟨b, o, none⟩ ∧ w6.cell? ⟨b, o, none⟩ = some (.int .i64 (LA.getD 0 0)) := by
              rcases h6s with e | ⟨b, o, e, _, hc⟩
              · rw [e] at h6p; simp at h6p
              · exact ⟨b, o, e, by have h0 := hc 0 (by omega); rw [Nat.add_zero] at h0; exact h0⟩
            have HXB : Hid (-9223372036854775808 ≤ LA.getD 0 0 ∧ LA.getD 0 0 ≤ 9223372036854775807) := h6b _ (getD_mem (by omega))
            have HL6 : Hid (0 < LA.length) := h6p
            have HB5 : Hid (Below W3.heap.size W3 w6) := HBD.out.trans (hb6.mono HBD.out.size)
            have tr6 : ∀ o, w6.cell? ⟨g, o, none⟩ = W3.drew.cell? ⟨g, o, none⟩ := fun o => hb6.cell (p := ⟨g, o, none⟩) HZ3.out
            have S2 : Hid (w6.cell? ⟨g, 0, none⟩ = some (.int .i64 a.K) ∧ w6.cell? ⟨g, 1, none⟩ = some (.int .i64 a.N) ∧ w6.cell? ⟨g, 2, none⟩ = some (.int .i64 a.F) ∧ w6.cell? ⟨g, 3, none⟩ = some (.slice a.dp a.D.length a.dc) ∧ w6.cell? ⟨g, 4, none⟩ = some (.slice a.ap a.A.length a.ac) ∧ w6.cell? ⟨g, 5, none⟩ = some (.bool a.R) ∧ w6.cell? ⟨q, 3, none⟩ = some (.int .i64 (s.cnt : Int))) := ⟨(tr6 0).trans S1.out.1, (tr6 1).trans S1.out.2.1, (tr6 2).trans S1.out.2.2.1, (tr6 3).trans S1.out.2.2.2.1, (tr6 4).trans S1.out.2.2.2.2.1, (tr6 5).trans S1.out.2.2.2.2.2.1, (HX4.out.up hb6).rs.c3⟩
            generalize LA.getD 0 0 = x6 at *
            clear h6s h61 h6b hb6 tr6
            clear hH
            refine hK.out _ _ S2.out (fun hH => ?_)
            clear hK K
            (try simp only [Act.put, List.setIfInBounds_toArray, List.set_cons_zero, List.set_cons_succ])
            refine wpAnyH_sub (T := fun W => (W.cell? ⟨g, 0, none⟩ = some (.int .i64 a.K) ∧ W.cell? ⟨g, 1, none⟩ = some (.int .i64 a.N) ∧ W.cell? ⟨g, 2, none⟩ = some (.int .i64 a.F) ∧ W.cell? ⟨g, 3, none⟩ = some (.slice a.dp a.D.length a.dc) ∧ W.cell? ⟨g, 4, none⟩ = some (.slice a.ap a.A.length a.ac) ∧ W.cell? ⟨g, 5, none⟩ = some (.bool a.R) ∧ W.cell? ⟨q, 3, none⟩ = some (.int .i64 (s.cnt : Int))) ∧ W.cell? ⟨ib, io, none⟩ = some (.int .i64 x6)) (fun _ h => h.1) _ _ _ _ ?_
            replace hH := And.intro hH hx6
            refine takeH (i := 6) (dst := some 88) (v := ?v6) rfl rfl (by kernel_rfl) (by kernel_rfl) (by kernel_rfl) (fun _ _ _ h => h) rfl ?hy6 hH rfl ?rest6
            case hy6 => (intro W hW; clear hW; go_simp; exact if_pos HL6.out)
            (try simp only [Act.put, List.setIfInBounds_toArray, List.set_cons_zero, List.set_cons_succ])
            refine takeH (i := 7) (dst := some 89) (v := ?v7) rfl rfl (by kernel_rfl) (by kernel_rfl) (by kernel_rfl) (fun _ _ _ h => h) rfl ?hy7 hH rfl ?rest7
            case hy7 => (intro W hW; obtain ⟨_, e7⟩ := hW; go_simp; try with_reducible rfl)
            (try simp only [Act.put, List.setIfInBounds_toArray, List.set_cons_zero, List.set_cons_succ])
            refine takeH (i := 8) (dst := some 12) (v := ?v8) rfl rfl (by kernel_rfl) (by kernel_rfl) (by kernel_rfl) (fun _ _ _ h => h) rfl ?hy8 hH rfl ?rest8
            case hy8 => (intro W hW; (try dsimp only at hW); go_simp; try with_reducible rfl)
            (try simp only [Act.put, List.setIfInBounds_toArray, List.set_cons_zero, List.set_cons_succ])
            refine wpAnyH_done (by kernel_rfl) ?_ _
            clear hH
            go_wp2_with fail
            go_meet
            exact ⟨_, _, rfl, rfl, HXB, HB5.out⟩
        case rest =>
          obtain ⟨W5, x, rfl, rfl, HXB, HB5⟩ := hcut
          clear b4 b5 q3 hcn
          go_upto_region 15 with fail
          have HBD : Hid (Below W3.heap.size W3 W5.drew) := HB5.out.trans ((Below.refl W5.heap.size W5).drew.mono HB5.out.size)
          have HX5 : Hid (BX 6 w W5.drew p dp ed q s ops (5 * k) (k + 1) A L D) := HX3.out.up HBD.out
          have hrow5 : W5.drew.heap[g]? = some (.cells #[.int .i64 a.K, .int .i64 a.N, .int .i64 a.F, .slice a.dp a.D.length a.dc, .slice a.ap a.A.length a.ac, .bool a.R] 39 (0, 0)) := (HBD.out.block _ HZ3.out).trans HROW.out
          have S1 : Hid (W5.drew.cell? ⟨g, 0, none⟩ = some (.int .i64 a.K) ∧ W5.drew.cell? ⟨g, 1, none⟩ = some (.int .i64 a.N) ∧ W5.drew.cell? ⟨g, 2, none⟩ = some (.int .i64 a.F) ∧ W5.drew.cell? ⟨g, 3, none⟩ = some (.slice a.dp a.D.length a.dc) ∧ W5.drew.cell? ⟨g, 4, none⟩ = some (.slice a.ap a.A.length a.ac) ∧ W5.drew.cell? ⟨g, 5, none⟩ = some (.bool a.R)) := ⟨(cell_of_row _ _ _ _ _ _ hrow5).trans rfl, (cell_of_row _ _ _ _ _ _ hrow5).trans rfl, (cell_of_row _ _ _ _ _ _ hrow5).trans rfl, (cell_of_row _ _ _ _ _ _ hrow5).trans rfl, (cell_of_row _ _ _ _ _ _ hrow5).trans rfl, (cell_of_row _ _ _ _ _ _ hrow5).trans rfl⟩
          have HG5 : Hid (g < W5.drew.heap.size) := Nat.lt_of_lt_of_le HZ3.out HBD.out.size
          have DO := do_any HX5.out (by omega) (by omega) a HOK.out.1 HOK.out.2 h20'
          clear hrow5
          refine wp_region_held_drew (S := (fun W => W.cell? ⟨g, 0, none⟩ = some (.int .i64 a.K) ∧ W.cell? ⟨g, 1, none⟩ = some (.int .i64 a.N) ∧ W.cell? ⟨g, 2, none⟩ = some (.int .i64 a.F) ∧ W.cell? ⟨g, 3, none⟩ = some (.slice a.dp a.D.length a.dc) ∧ W.cell? ⟨g, 4, none⟩ = some (.slice a.ap a.A.length a.ac) ∧ W.cell? ⟨g, 5, none⟩ = some (.bool a.R))) (by kernel_rfl) S1.out (fun hH => ?_)
          refine takeH (i := 0) (dst := some 90) (v := ?v9) rfl rfl (by kernel_rfl) (by kernel_rfl) (by kernel_rfl) (fun _ _ _ h => h) rfl ?hy9 hH rfl ?rest9
          case hy9 => (intro W hW; (try dsimp only at hW); go_simp; try with_reducible rfl)
          (try simp only [Act.put, List.setIfInBounds_toArray, List.set_cons_zero, List.set_cons_succ])
          refine takeH (i := 1) (dst := some 91) (v := ?v10) rfl rfl (by kernel_rfl) (by kernel_rfl) (by kernel_rfl) (fun _ _ _ h => h) rfl ?hy10 hH rfl ?rest10
          case hy10 => (intro W hW; (try dsimp only at hW); go_simp; try with_reducible rfl)
          (try simp only [Act.put, List.setIfInBounds_toArray, List.set_cons_zero, List.set_cons_succ])
          refine takeH (i := 2) (dst := some 92) (v := ?v11) rfl rfl (by kernel_rfl) (by kernel_rfl) (by kernel_rfl) (fun _ _ _ h => h) rfl ?hy11 hH rfl ?rest11
          case hy11 => (intro W hW; obtain ⟨e0, e1, e2, e3, e4, e5⟩ := hW; go_simp; try with_reducible rfl)
          (try simp only [Act.put, List.setIfInBounds_toArray, List.set_cons_zero, List.set_cons_succ])
          refine callH (i := 3) { dst := some 93, op := Go.Op.call { callee := Go.Callee.value (Go.Operand.func 15), args := #[Go.Operand.tmp 90, Go.Operand.tmp 91, Go.Operand.tmp 92], argTypes := #[30, 34, 39] }, type := 4, pos := "law.go:114", after := #[{ on := 0, ground := Go.Ground.data }, { on := 1, ground := Go.Ground.data }, { on := 2, ground := Go.Ground.data }], guard := none } (by kernel_rfl) rfl rfl (fun K hK => ?_)
          go_simp
          refine DO.mono ?_
          clear DO
          rintro r w6 ⟨rfl, hdid⟩
          obtain ⟨s6, ops6, A6, L6, D6, hX6, hc6, hf6, hs6⟩ := hdid.out
          have HX6 : Hid (BX 6 w w6 p dp ed q s6 ops6 (5 * k + 1) (k + 1 + 1) A6 L6 D6) := hX6
          have HN6 : Hid (¬ Ak s6 g ∧ ¬ D6 g ∧ g < w6.heap.size) := ⟨fun h => by
            rcases hs6 g (.inl h) with (h | h) | h
            · exact HNB.out.1 h
            · exact HNB.out.2 h
            · have := HG5.out; omega, fun h => by
            rcases hs6 g (.inr h) with (h | h) | h
            · exact HNB.out.1 h
            · exact HNB.out.2 h
            · have := HG5.out; omega, Nat.lt_of_lt_of_le HG5.out hf6.size⟩
          have tr6 : ∀ o, w6.cell? ⟨g, o, none⟩ = W5.drew.cell? ⟨g, o, none⟩ := fun o => World.cell?_of_block (w := W5.drew) (a := ⟨g, o, none⟩) (hf6.blk g HG5.out (fun h => h.elim HNB.out.1 HNB.out.2))
          have S2 : Hid (w6.cell? ⟨g, 0, none⟩ = some (.int .i64 a.K) ∧ w6.cell? ⟨g, 1, none⟩ = some (.int .i64 a.N) ∧ w6.cell? ⟨g, 2, none⟩ = some (.int .i64 a.F) ∧ w6.cell? ⟨g, 3, none⟩ = some (.slice a.dp a.D.length a.dc) ∧ w6.cell? ⟨g, 4, none⟩ = some (.slice a.ap a.A.length a.ac) ∧ w6.cell? ⟨g, 5, none⟩ = some (.bool a.R)) := ⟨(tr6 0).trans S1.out.1, (tr6 1).trans S1.out.2.1, (tr6 2).trans S1.out.2.2.1, (tr6 3).trans S1.out.2.2.2.1, (tr6 4).trans S1.out.2.2.2.2.1, (tr6 5).trans S1.out.2.2.2.2.2⟩
          have SM1 := same11_any HX6.out (by omega) a.N x HXB.out
          have q36 := HX6.out.rs.c3
          clear hdid hX6 hc6 hf6 hs6 tr6
          clear hH
          refine hK.out _ _ S2.out (fun hH => ?_)
          clear hK K
          (try simp only [Act.put, List.setIfInBounds_toArray, List.set_cons_zero, List.set_cons_succ])
          refine wpAnyH_sub (T := fun W => (W.cell? ⟨g, 0, none⟩ = some (.int .i64 a.K) ∧ W.cell? ⟨g, 1, none⟩ = some (.int .i64 a.N) ∧ W.cell? ⟨g, 2, none⟩ = some (.int .i64 a.F) ∧ W.cell? ⟨g, 3, none⟩ = some (.slice a.dp a.D.length a.dc) ∧ W.cell? ⟨g, 4, none⟩ = some (.slice a.ap a.A.length a.ac) ∧ W.cell? ⟨g, 5, none⟩ = some (.bool a.R)) ∧ W.cell? ⟨q, 3, none⟩ = some (.int .i64 (s6.cnt : Int))) (fun _ h => h.1) _ _ _ _ ?_
          replace hH := And.intro hH q36
          clear q36
          refine takeH (i := 4) (dst := some 94) (v := ?v12) rfl rfl (by kernel_rfl) (by kernel_rfl) (by kernel_rfl) (fun _ _ _ h => h) rfl ?hy12 hH rfl ?rest12
          case hy12 => (intro W hW; (try dsimp only at hW); go_simp; try with_reducible rfl)
          (try simp only [Act.put, List.setIfInBounds_toArray, List.set_cons_zero, List.set_cons_succ])
          refine takeH (i := 5) (dst := some 95) (v := ?v13) rfl rfl (by kernel_rfl) (by kernel_rfl) (by kernel_rfl) (fun _ _ _ h => h) rfl ?hy13 hH rfl ?rest13
          case hy13 => (intro W hW; (try dsimp only at hW); go_simp; try with_reducible rfl)
          (try simp only [Act.put, List.setIfInBounds_toArray, List.set_cons_zero, List.set_cons_succ])
          refine takeH (i := 6) (dst := some 96) (v := ?v14) rfl rfl (by kernel_rfl) (by kernel_rfl) (by kernel_rfl) (fun _ _ _ h => h) rfl ?hy14 hH rfl ?rest14
          case hy14 => (intro W hW; (try dsimp only at hW); go_simp; try with_reducible rfl)
          (try simp only [Act.put, List.setIfInBounds_toArray, List.set_cons_zero, List.set_cons_succ])
          refine takeH (i := 7) (dst := some 97) (v := ?v15) rfl rfl (by kernel_rfl) (by kernel_rfl) (by kernel_rfl) (fun _ _ _ h => h) rfl ?hy15 hH rfl ?rest15
          case hy15 => (intro W hW; (try dsimp only at hW); go_simp; try with_reducible rfl)
          (try simp only [Act.put, List.setIfInBounds_toArray, List.set_cons_zero, List.set_cons_succ])
          refine takeH (i := 8) (dst := some 98) (v := ?v16) rfl rfl (by kernel_rfl) (by kernel_rfl) (by kernel_rfl) (fun _ _ _ h => h) rfl ?hy16 hH rfl ?rest16
          case hy16 => (intro W hW; (try dsimp only at hW); go_simp; try with_reducible rfl)
          (try simp only [Act.put, List.setIfInBounds_toArray, List.set_cons_zero, List.set_cons_succ])
          refine takeH (i := 9) (dst := some 99) (v := ?v17) rfl rfl (by kernel_rfl) (by kernel_rfl) (by kernel_rfl) (fun _ _ _ h => h) rfl ?hy17 hH rfl ?rest17
          case hy17 => (intro W hW; obtain ⟨⟨e0, e1, e2, e3, e4, e5⟩, e6⟩ := hW; go_simp; try with_reducible rfl)
          (try simp only [Act.put, List.setIfInBounds_toArray, List.set_cons_zero, List.set_cons_succ])
          refine takeH (i := 10) (dst := some 100) (v := ?v18) rfl rfl (by kernel_rfl) (by kernel_rfl) (by kernel_rfl) (fun _ _ _ h => h) rfl ?hy18 hH rfl ?rest18
          case hy18 => (intro W hW; (try dsimp only at hW); go_simp; try with_reducible rfl)
          (try simp only [Act.put, List.setIfInBounds_toArray, List.set_cons_zero, List.set_cons_succ])
          refine callH (i := 11) { dst := some 101, op := Go.Op.call { callee := Go.Callee.value (Go.Operand.func 16), args := #[Go.Operand.tmp 96, Go.Operand.tmp 97, Go.Operand.tmp 99, Go.Operand.tmp 100], argTypes := #[30, 34, 3, 2] }, type := 4, pos := "law.go:114", after := #[{ on := 6, ground := Go.Ground.data }, { on := 7, ground := Go.Ground.data }, { on := 9, ground := Go.Ground.data }, { on := 10, ground := Go.Ground.data }, { on := 5, ground := Go.Ground.chain }, { on := 5, ground := Go.Ground.guard }], guard := some (5, false) } (by kernel_rfl) rfl rfl (fun K hK => ?_)
          go_simp
          refine SM1.mono ?_
          clear SM1
          rintro r w7 ⟨rfl, hse⟩
          obtain ⟨s7, hX7, hc7, hf7, hk7⟩ := hse.out
          have HX7 : Hid (BX 6 w w7 p dp ed q s7 ops6 (5 * k + 1 + 2) (k + 1 + 1) A6 L6 D6) := hX7
          have HC7 : Hid (s7.cnt = s6.cnt) := hc7
          have HN7 : Hid (¬ Ak s7 g ∧ ¬ D6 g ∧ g < w7.heap.size) := ⟨fun h => by
            rcases hk7 g h with h | h
            · exact HN6.out.1 h
            · have := HN6.out.2.2; omega, HN6.out.2.1, Nat.lt_of_lt_of_le HN6.out.2.2 hf7.size⟩
          have tr7 : ∀ o, w7.cell? ⟨g, o, none⟩ = w6.cell? ⟨g, o, none⟩ := fun o => World.cell?_of_block (w := w6) (a := ⟨g, o, none⟩) (hf7.blk g HN6.out.2.2 HN6.out.1)
          have S3 : Hid ((w7.cell? ⟨g, 0, none⟩ = some (.int .i64 a.K) ∧ w7.cell? ⟨g, 1, none⟩ = some (.int .i64 a.N) ∧ w7.cell? ⟨g, 2, none⟩ = some (.int .i64 a.F) ∧ w7.cell? ⟨g, 3, none⟩ = some (.slice a.dp a.D.length a.dc) ∧ w7.cell? ⟨g, 4, none⟩ = some (.slice a.ap a.A.length a.ac) ∧ w7.cell? ⟨g, 5, none⟩ = some (.bool a.R)) ∧ w7.cell? ⟨q, 3, none⟩ = some (.int .i64 (s6.cnt : Int))) := ⟨⟨(tr7 0).trans S2.out.1, (tr7 1).trans S2.out.2.1, (tr7 2).trans S2.out.2.2.1, (tr7 3).trans S2.out.2.2.2.1, (tr7 4).trans S2.out.2.2.2.2.1, (tr7 5).trans S2.out.2.2.2.2.2⟩, (HX7.out.rs.c3).trans (by rw [HC7.out])⟩
          have SM2 := same11_any HX7.out (by omega) a.N (s6.cnt : Int) (by have := HX6.out.gw.pl.bd.1; omega)
          clear hse hX7 hc7 hf7 hk7 tr7
          clear hH
          refine hK.out _ _ S3.out (fun hH => ?_)
          clear hK K
          (try simp only [Act.put, List.setIfInBounds_toArray, List.set_cons_zero, List.set_cons_succ])
          refine takeH (i := 12) (dst := some 102) (v := ?v19) rfl rfl (by kernel_rfl) (by kernel_rfl) (by kernel_rfl) (fun _ _ _ h => h) rfl ?hy19 hH rfl ?rest19
          case hy19 => (intro W hW; (try dsimp only at hW); go_simp; try with_reducible rfl)
          (try simp only [Act.put, List.setIfInBounds_toArray, List.set_cons_zero, List.set_cons_succ])
          refine takeH (i := 13) (dst := some 103) (v := ?v20) rfl rfl (by kernel_rfl) (by kernel_rfl) (by kernel_rfl) (fun _ _ _ h => h) rfl ?hy20 hH rfl ?rest20
          case hy20 => (intro W hW; (try dsimp only at hW); go_simp; try with_reducible rfl)
          (try simp only [Act.put, List.setIfInBounds_toArray, List.set_cons_zero, List.set_cons_succ])
          refine takeH (i := 14) (dst := some 104) (v := ?v21) rfl rfl (by kernel_rfl) (by kernel_rfl) (by kernel_rfl) (fun _ _ _ h => h) rfl ?hy21 hH rfl ?rest21
          case hy21 => (intro W hW; (try dsimp only at hW); go_simp; try with_reducible rfl)
          (try simp only [Act.put, List.setIfInBounds_toArray, List.set_cons_zero, List.set_cons_succ])
          refine takeH (i := 15) (dst := some 105) (v := ?v22) rfl rfl (by kernel_rfl) (by kernel_rfl) (by kernel_rfl) (fun _ _ _ h => h) rfl ?hy22 hH rfl ?rest22
          case hy22 => (intro W hW; (try dsimp only at hW); go_simp; try with_reducible rfl)
          (try simp only [Act.put, List.setIfInBounds_toArray, List.set_cons_zero, List.set_cons_succ])
          refine takeH (i := 16) (dst := some 106) (v := ?v23) rfl rfl (by kernel_rfl) (by kernel_rfl) (by kernel_rfl) (fun _ _ _ h => h) rfl ?hy23 hH rfl ?rest23
          case hy23 => (intro W hW; (try dsimp only at hW); go_simp; try with_reducible rfl)
          (try simp only [Act.put, List.setIfInBounds_toArray, List.set_cons_zero, List.set_cons_succ])
          refine takeH (i := 17) (dst := some 107) (v := ?v24) rfl rfl (by kernel_rfl) (by kernel_rfl) (by kernel_rfl) (fun _ _ _ h => h) rfl ?hy24 hH rfl ?rest24
          case hy24 => (intro W hW; (try dsimp only at hW); go_simp; try with_reducible rfl)
          (try simp only [Act.put, List.setIfInBounds_toArray, List.set_cons_zero, List.set_cons_succ])
          refine takeH (i := 18) (dst := some 108) (v := ?v25) rfl rfl (by kernel_rfl) (by kernel_rfl) (by kernel_rfl) (fun _ _ _ h => h) rfl ?hy25 hH rfl ?rest25
          case hy25 => (intro W hW; obtain ⟨⟨e0, e1, e2, e3, e4, e5⟩, e6⟩ := hW; go_simp; try with_reducible rfl)
          (try simp only [Act.put, List.setIfInBounds_toArray, List.set_cons_zero, List.set_cons_succ])
          refine takeH (i := 19) (dst := some 109) (v := ?v26) rfl rfl (by kernel_rfl) (by kernel_rfl) (by kernel_rfl) (fun _ _ _ h => h) rfl ?hy26 hH rfl ?rest26
          case hy26 => (intro W hW; (try dsimp only at hW); go_simp; try with_reducible rfl)
          (try simp only [Act.put, List.setIfInBounds_toArray, List.set_cons_zero, List.set_cons_succ])
          refine takeH (i := 20) (dst := some 110) (v := ?v27) rfl rfl (by kernel_rfl) (by kernel_rfl) (by kernel_rfl) (fun _ _ _ h => h) rfl ?hy27 hH rfl ?rest27
          case hy27 => (intro W hW; (try dsimp only at hW); go_simp; try with_reducible rfl)
          (try simp only [Act.put, List.setIfInBounds_toArray, List.set_cons_zero, List.set_cons_succ])
          refine takeH (i := 21) (dst := some 111) (v := ?v28) rfl rfl (by kernel_rfl) (by kernel_rfl) (by kernel_rfl) (fun _ _ _ h => h) rfl ?hy28 hH rfl ?rest28
          case hy28 => (intro W hW; (try dsimp only at hW); go_simp; try with_reducible rfl)
          (try simp only [Act.put, List.setIfInBounds_toArray, List.set_cons_zero, List.set_cons_succ])
          refine takeH (i := 22) (dst := some 112) (v := ?v29) rfl rfl (by kernel_rfl) (by kernel_rfl) (by kernel_rfl) (fun _ _ _ h => h) rfl ?hy29 hH rfl ?rest29
          case hy29 => (intro W hW; obtain ⟨⟨e0, e1, e2, e3, e4, e5⟩, e6⟩ := hW; go_simp; try with_reducible rfl)
          (try simp only [Act.put, List.setIfInBounds_toArray, List.set_cons_zero, List.set_cons_succ])
          refine callH (i := 23) { dst := some 113, op := Go.Op.call { callee := Go.Callee.value (Go.Operand.func 16), args := #[Go.Operand.tmp 105, Go.Operand.tmp 106, Go.Operand.tmp 108, Go.Operand.tmp 112], argTypes := #[30, 34, 3, 2] }, type := 4, pos := "law.go:114", after := #[{ on := 15, ground := Go.Ground.data }, { on := 16, ground := Go.Ground.data }, { on := 18, ground := Go.Ground.data }, { on := 22, ground := Go.Ground.data }, { on := 14, ground := Go.Ground.chain }, { on := 14, ground := Go.Ground.guard }], guard := some (14, false) } (by kernel_rfl) rfl rfl (fun K hK => ?_)
          go_simp
          refine SM2.mono ?_
          clear SM2
          rintro r w8 ⟨rfl, hse⟩
          obtain ⟨s8, hX8, hc8, hf8, hk8⟩ := hse.out
          have HX8 : Hid (BX 6 w w8 p dp ed q s8 ops6 (5 * k + 1 + 2 + 2) (k + 1 + 1) A6 L6 D6) := hX8
          have HC8 : Hid (s8.cnt = s6.cnt) := hc8.trans HC7.out
          have HN8 : Hid (¬ Ak s8 g ∧ ¬ D6 g ∧ g < w8.heap.size) := ⟨fun h => by
            rcases hk8 g h with h | h
            · exact HN7.out.1 h
            · have := HN7.out.2.2; omega, HN7.out.2.1, Nat.lt_of_lt_of_le HN7.out.2.2 hf8.size⟩
          have tr8 : ∀ o, w8.cell? ⟨g, o, none⟩ = w7.cell? ⟨g, o, none⟩ := fun o => World.cell?_of_block (w := w7) (a := ⟨g, o, none⟩) (hf8.blk g HN7.out.2.2 HN7.out.1)
          have S4 : Hid ((w8.cell? ⟨g, 0, none⟩ = some (.int .i64 a.K) ∧ w8.cell? ⟨g, 1, none⟩ = some (.int .i64 a.N) ∧ w8.cell? ⟨g, 2, none⟩ = some (.int .i64 a.F) ∧ w8.cell? ⟨g, 3, none⟩ = some (.slice a.dp a.D.length a.dc) ∧ w8.cell? ⟨g, 4, none⟩ = some (.slice a.ap a.A.length a.ac) ∧ w8.cell? ⟨g, 5, none⟩ = some (.bool a.R)) ∧ w8.cell? ⟨q, 3, none⟩ = some (.int .i64 (s6.cnt : Int))) := ⟨⟨(tr8 0).trans S3.out.1.1, (tr8 1).trans S3.out.1.2.1, (tr8 2).trans S3.out.1.2.2.1, (tr8 3).trans S3.out.1.2.2.2.1, (tr8 4).trans S3.out.1.2.2.2.2.1, (tr8 5).trans S3.out.1.2.2.2.2.2⟩, (HX8.out.rs.c3).trans (by rw [HC8.out])⟩
          have HEND : Hid (PlI w w8 p dp ed q (k + 1)) := ⟨s8, ops6, A6, L6, D6, HX8.out.more (by omega) (by omega)⟩
          clear hse hX8 hc8 hf8 hk8 tr8
          clear hH
          refine hK.out _ _ S4.out (fun hH => ?_)
          clear hK K
          (try simp only [Act.put, List.setIfInBounds_toArray, List.set_cons_zero, List.set_cons_succ])
          refine takeH (i := 24) (dst := some 114) (v := ?v30) rfl rfl (by kernel_rfl) (by kernel_rfl) (by kernel_rfl) (fun _ _ _ h => h) rfl ?hy30 hH rfl ?rest30
          case hy30 => (intro W hW; (try dsimp only at hW); go_simp; try with_reducible rfl)
          (try simp only [Act.put, List.setIfInBounds_toArray, List.set_cons_zero, List.set_cons_succ])
          refine takeH (i := 25) (dst := some 115) (v := ?v31) rfl rfl (by kernel_rfl) (by kernel_rfl) (by kernel_rfl) (fun _ _ _ h => h) rfl ?hy31 hH rfl ?rest31
          case hy31 => (intro W hW; (try dsimp only at hW); go_simp; try with_reducible rfl)
          (try simp only [Act.put, List.setIfInBounds_toArray, List.set_cons_zero, List.set_cons_succ])
          refine wpAnyH_done (by kernel_rfl) ?_ _
          clear hH
          go_wp2_with fail
          go_roundg (40 - (k + 1))
          case measure => omega
          case rel => exact ⟨_, k + 1, rfl, by omega, by omega, by go_num, HEND⟩
    · clear hgg
      go_upto_region 8 with fail
      go_cut [51] (fun t wc => t = .bool false ∧ wc = gw)
      case first =>
        by_cases h1 : (k : Int) < (m : Int)
        · have h2 : ¬ (k : Int) < 40 := by omega
          go_wp2_with fail
          go_meet
          exact ⟨rfl, rfl⟩
        · go_wp2_with fail
          go_meet
          exact ⟨rfl, rfl⟩
      case rest =>
        obtain ⟨rfl, hwc⟩ := hcut
        obtain rfl : gw = wc := hwc.symm
        clear hlt
        obtain ⟨s, ops, A, L, D, hBX⟩ := HW.out.out
        have HBE : Hid (Below w.heap.size w gw) := hBX.gw.be
        obtain ⟨y, ver, base, gb, cb, va, vc, hd1, hd2, hy, hyl, hv, hsl⟩ := hBX.disks
        have HDD : Hid (DiskAt gw w.heap.size dp 6 s.σ.en s.σ.lf s.σ.sf s.σ.ws s.σ.dq s.σ.vs ∧ RefW gw base ed 6 false 0 ver gb cb va vc) := ⟨hd1, hd2⟩
        have HVV : Hid ((∀ i, i < 6 → y i = lastOf (s.σ.sf i) (s.σ.ws i)) ∧ (∀ i, (y i).length = 256) ∧ (∀ i, i < 6 → ver i = s.σ.sf i :: s.σ.ws i) ∧ ∀ i, i < 6 → (s.σ.sf i).length = 256) := ⟨hy, hyl, hv, hsl⟩
        clear hBX hd1 hd2 hy hyl hv hsl HW HAA
        go_upto_region 17 with fail
        have HBD : Hid (Below gw.heap.size gw gw.drew) := (Below.refl _ _).drew
        have BY := dbytes_any (HDD.out.1.below HBD.out (Nat.le_refl _)) y HVV.out.1 HVV.out.2.1
        refine wp_region_held_drew (S := (fun _ => True)) (by kernel_rfl) trivial (fun hH => ?_)
        refine takeH (i := 0) (dst := some 116) (v := ?v32) rfl rfl (by kernel_rfl) (by kernel_rfl) (by kernel_rfl) (fun _ _ _ h => h) rfl ?hy32 hH rfl ?rest32
        case hy32 => (intro W hW; (try dsimp only at hW); go_simp; try with_reducible rfl)
        (try simp only [Act.put, List.setIfInBounds_toArray, List.set_cons_zero, List.set_cons_succ])
        refine takeH (i := 3) (dst := some 119) (v := ?v33) rfl rfl (by kernel_rfl) (by kernel_rfl) (by kernel_rfl) (fun _ _ _ h => h) rfl ?hy33 hH rfl ?rest33
        case hy33 => (intro W hW; (try dsimp only at hW); go_simp; try with_reducible rfl)
        (try simp only [Act.put, List.setIfInBounds_toArray, List.set_cons_zero, List.set_cons_succ])
        refine callH (i := 1) { dst := some 117, op := Go.Op.call { callee := Go.Callee.value (Go.Operand.func 17), args := #[Go.Operand.tmp 116], argTypes := #[23] }, type := 36, pos := "law.go:118", after := #[{ on := 0, ground := Go.Ground.data }], guard := none } (by kernel_rfl) rfl rfl (fun K hK => ?_)
        go_simp
        refine BY.mono ?_
        clear BY
        rintro r w6 ⟨e1, rfl, hk1, _, hb6⟩
        have HB6 : Hid (Below gw.heap.size gw w6) := HBD.out.trans (hb6.mono HBD.out.size)
        have HY1 : Hid (Src w6 (some ⟨e1, 0, none⟩) ((List.range 6).flatMap y)) := hk1.src
        have hl1 : 6 * 256 = ((List.range 6).flatMap y).length := by rw [flat_length y HVV.out.2.1]
        have t1 := conv_str HY1.out (6 * 256) (6 * 256) hl1
        have BZ := rbytesd_any (HDD.out.2.below HB6.out) y (fun i hi => ⟨(s.σ.ws i).length, by rw [HVV.out.2.2.1 i hi]; rfl, by rw [HVV.out.2.2.1 i hi, lastOf_at, ← HVV.out.1 i hi]⟩) HVV.out.2.1
        have HLY : Hid (6 * 256 = ((List.range 6).flatMap y).length) := hl1
        clear hk1 hb6 hl1
        clear hH
        refine hK.out _ _ trivial (fun hH => ?_)
        clear hK K
        (try simp only [Act.put, List.setIfInBounds_toArray, List.set_cons_zero, List.set_cons_succ])
        refine wpAnyH_sub (T := fun W => Sem.run Tryz.prog (convert 36 9 (.slice (some ⟨e1, 0, none⟩) (6 * 256) (6 * 256))) W = .ok (.string (str ((List.range 6).flatMap y))) W) (fun _ _ => trivial) _ _ _ _ ?_
        replace hH := t1
        clear t1
        refine takeH (i := 2) (dst := some 118) (v := ?v34) rfl rfl (by kernel_rfl) (by kernel_rfl) (by kernel_rfl) (fun _ _ _ h => h) rfl ?hy34 hH rfl ?rest34
        case hy34 => (intro W hW; have e1' := hW; clear hW; go_simp; try with_reducible rfl)
        (try simp only [Act.put, List.setIfInBounds_toArray, List.set_cons_zero, List.set_cons_succ])
        refine callH (i := 4) { dst := some 120, op := Go.Op.call { callee := Go.Callee.value (Go.Operand.func 18), args := #[Go.Operand.tmp 119], argTypes := #[27] }, type := 36, pos := "law.go:118", after := #[{ on := 3, ground := Go.Ground.data }, { on := 1, ground := Go.Ground.chain }], guard := none } (by kernel_rfl) rfl rfl (fun K hK => ?_)
        go_simp
        refine BZ.mono ?_
        clear BZ
        rintro r w7 ⟨v7, rfl, hO7, hb7⟩
        obtain ⟨e2, c7, rfl, hs7, _⟩ := hO7.form
        rw [← HLY.out] at hO7 ⊢
        have HB7 : Hid (Below gw.heap.size gw w7) := HB6.out.trans (hb7.mono HB6.out.size)
        have HY2 : Hid (Src w7 e2 ((List.range 6).flatMap y)) := hs7
        have t1 := conv_str (HY1.out.below hb7 (Nat.le_refl _)) (6 * 256) (6 * 256) HLY.out
        have t2 := conv_str HY2.out (6 * 256) c7 HLY.out
        have OA := open_any (HDD.out.1.below HB7.out (Nat.le_refl _))
        have HY3 : Hid (Src w7 (some ⟨e1, 0, none⟩) ((List.range 6).flatMap y)) := HY1.out.below hb7 (Nat.le_refl _)
        clear hO7 hb7 hs7
        clear hH
        refine hK.out _ _ t1 (fun hH => ?_)
        clear hK K
        (try simp only [Act.put, List.setIfInBounds_toArray, List.set_cons_zero, List.set_cons_succ])
        refine wpAnyH_sub (T := fun W => Sem.run Tryz.prog (convert 36 9 (.slice (some ⟨e1, 0, none⟩) (6 * 256) (6 * 256))) W = .ok (.string (str ((List.range 6).flatMap y))) W ∧ Sem.run Tryz.prog (convert 36 9 (.slice e2 (6 * 256) c7)) W = .ok (.string (str ((List.range 6).flatMap y))) W) (fun _ h => h.1) _ _ _ _ ?_
        replace hH := And.intro hH t2
        clear t1 t2
        refine takeH (i := 5) (dst := some 121) (v := ?v35) rfl rfl (by kernel_rfl) (by kernel_rfl) (by kernel_rfl) (fun _ _ _ h => h) rfl ?hy35 hH rfl ?rest35
        case hy35 => (intro W hW; obtain ⟨_, e2'⟩ := hW; go_simp; try with_reducible rfl)
        (try simp only [Act.put, List.setIfInBounds_toArray, List.set_cons_zero, List.set_cons_succ])
        refine takeH (i := 6) (dst := some 122) (v := ?v36) rfl rfl (by kernel_rfl) (by kernel_rfl) (by kernel_rfl) (fun _ _ _ h => h) rfl ?hy36 hH rfl ?rest36
        case hy36 => (intro W hW; (try dsimp only at hW); go_simp; try with_reducible rfl)
        (try simp only [Act.put, List.setIfInBounds_toArray, List.set_cons_zero, List.set_cons_succ])
        refine takeH (i := 7) (dst := some 123) (v := ?v37) rfl rfl (by kernel_rfl) (by kernel_rfl) (by kernel_rfl) (fun _ _ _ h => h) rfl ?hy37 hH rfl ?rest37
        case hy37 => (intro W hW; (try dsimp only at hW); go_simp; try with_reducible rfl)
        (try simp only [Act.put, List.setIfInBounds_toArray, List.set_cons_zero, List.set_cons_succ])
        refine takeH (i := 8) (dst := some 124) (v := ?v38) rfl rfl (by kernel_rfl) (by kernel_rfl) (by kernel_rfl) (fun _ _ _ h => h) rfl ?hy38 hH rfl ?rest38
        case hy38 => (intro W hW; (try dsimp only at hW); go_simp; try with_reducible rfl)
        (try simp only [Act.put, List.setIfInBounds_toArray, List.set_cons_zero, List.set_cons_succ])
        refine takeH (i := 10) (dst := some 126) (v := ?v39) rfl rfl (by kernel_rfl) (by kernel_rfl) (by kernel_rfl) (fun _ _ _ h => h) rfl ?hy39 hH rfl ?rest39
        case hy39 => (intro W hW; (try dsimp only at hW); go_simp; try with_reducible rfl)
        (try simp only [Act.put, List.setIfInBounds_toArray, List.set_cons_zero, List.set_cons_succ])
        refine callH (i := 9) { dst := some 125, op := Go.Op.call { callee := Go.Callee.value (Go.Operand.func 20), args := #[Go.Operand.tmp 124], argTypes := #[23] }, type := 49, pos := "law.go:118", after := #[{ on := 8, ground := Go.Ground.data }, { on := 7, ground := Go.Ground.chain }, { on := 7, ground := Go.Ground.guard }], guard := some (7, false) } (by kernel_rfl) rfl rfl (fun K hK => ?_)
        go_simp
        refine OA.mono ?_
        clear OA
        rintro r w8 ⟨v8, rfl, hO8, hb8⟩
        have HC8 : Hid (Below w7.heap.size w7 w8) := hb8
        obtain ⟨i8, c8, rfl, hs8⟩ := own_nt hO8
        have HI8 : Hid (SrcI w8 i8 ((openL s.σ.ws 6).map fun k : Nat => (k : Int))) := hs8
        have HB8 : Hid (Below gw.heap.size gw w8) := HB7.out.trans (hb8.mono HB7.out.size)
        have OB := rdopen_any (HDD.out.2.below HB8.out) s.σ.ws (fun i hi => by rw [HVV.out.2.2.1 i hi]; rfl)
        have t1 : Sem.run Tryz.prog (convert 36 9 (.slice (some ⟨e1, 0, none⟩) (6 * 256) (6 * 256))) w8 = .ok (.string (str ((List.range 6).flatMap y))) w8 ∧ Sem.run Tryz.prog (convert 36 9 (.slice e2 (6 * 256) c7)) w8 = .ok (.string (str ((List.range 6).flatMap y))) w8 := ⟨conv_str (HY3.out.below HC8.out (Nat.le_refl _)) _ _ HLY.out, conv_str (HY2.out.below HC8.out (Nat.le_refl _)) _ _ HLY.out⟩
        clear hO8 hb8 hs8
        clear hH
        refine hK.out _ _ t1 (fun hH => ?_)
        clear hK K
        (try simp only [Act.put, List.setIfInBounds_toArray, List.set_cons_zero, List.set_cons_succ])
        clear t1
        refine callH (i := 11) { dst := some 127, op := Go.Op.call { callee := Go.Callee.value (Go.Operand.func 21), args := #[Go.Operand.tmp 126], argTypes := #[27] }, type := 49, pos := "law.go:118", after := #[{ on := 10, ground := Go.Ground.data }, { on := 9, ground := Go.Ground.chain }, { on := 7, ground := Go.Ground.guard }], guard := some (7, false) } (by kernel_rfl) rfl rfl (fun K hK => ?_)
        go_simp
        refine OB.mono ?_
        clear OB
        rintro r w9 ⟨v9, rfl, hO9, hb9⟩
        have HC9 : Hid (Below w7.heap.size w7 w9) := HC8.out.trans (hb9.mono HC8.out.size)
        obtain ⟨i9, c9, rfl, hs9⟩ := own_nt hO9
        have HB9 : Hid (Below gw.heap.size gw w9) := HB8.out.trans (hb9.mono HB8.out.size)
        have IN := eqInts_any (HI8.out.below hb9 (Nat.le_refl _)) hs9 (by have := openL_len s.σ.ws 6; simp; omega) c8 c9
        rw [List.length_map] at IN
        have t1 : Sem.run Tryz.prog (convert 36 9 (.slice (some ⟨e1, 0, none⟩) (6 * 256) (6 * 256))) w9 = .ok (.string (str ((List.range 6).flatMap y))) w9 ∧ Sem.run Tryz.prog (convert 36 9 (.slice e2 (6 * 256) c7)) w9 = .ok (.string (str ((List.range 6).flatMap y))) w9 := ⟨conv_str (HY3.out.below HC9.out (Nat.le_refl _)) _ _ HLY.out, conv_str (HY2.out.below HC9.out (Nat.le_refl _)) _ _ HLY.out⟩
        clear hO9 hb9 hs9
        clear hH
        refine hK.out _ _ t1 (fun hH => ?_)
        clear hK K
        (try simp only [Act.put, List.setIfInBounds_toArray, List.set_cons_zero, List.set_cons_succ])
        clear t1
        refine callH (i := 12) { dst := some 128, op := Go.Op.call { callee := Go.Callee.value (Go.Operand.func 19), args := #[Go.Operand.tmp 125, Go.Operand.tmp 127], argTypes := #[49, 49] }, type := 4, pos := "law.go:118", after := #[{ on := 9, ground := Go.Ground.data }, { on := 11, ground := Go.Ground.data }, { on := 11, ground := Go.Ground.chain }, { on := 7, ground := Go.Ground.guard }], guard := some (7, false) } (by kernel_rfl) rfl rfl (fun K hK => ?_)
        go_simp
        refine IN.mono ?_
        clear IN
        rintro r w10 ⟨rfl, hb10⟩
        have HC10 : Hid (Below w7.heap.size w7 w10) := HC9.out.trans (hb10.mono HC9.out.size)
        have HBE2 : Hid (Below gw.heap.size gw w10) := HB9.out.trans (hb10.mono HB9.out.size)
        have t1 : Sem.run Tryz.prog (convert 36 9 (.slice (some ⟨e1, 0, none⟩) (6 * 256) (6 * 256))) w10 = .ok (.string (str ((List.range 6).flatMap y))) w10 ∧ Sem.run Tryz.prog (convert 36 9 (.slice e2 (6 * 256) c7)) w10 = .ok (.string (str ((List.range 6).flatMap y))) w10 := ⟨conv_str (HY3.out.below HC10.out (Nat.le_refl _)) _ _ HLY.out, conv_str (HY2.out.below HC10.out (Nat.le_refl _)) _ _ HLY.out⟩
        clear hb10
        clear hH
        refine hK.out _ _ t1 (fun hH => ?_)
        clear hK K
        (try simp only [Act.put, List.setIfInBounds_toArray, List.set_cons_zero, List.set_cons_succ])
        clear t1
        refine takeH (i := 13) (dst := some 129) (v := ?v40) rfl rfl (by kernel_rfl) (by kernel_rfl) (by kernel_rfl) (fun _ _ _ h => h) rfl ?hy40 hH rfl ?rest40
        case hy40 => (intro W hW; (try dsimp only at hW); go_simp; try with_reducible rfl)
        (try simp only [Act.put, List.setIfInBounds_toArray, List.set_cons_zero, List.set_cons_succ])
        refine takeH (i := 14) (dst := some 130) (v := ?v41) rfl rfl (by kernel_rfl) (by kernel_rfl) (by kernel_rfl) (fun _ _ _ h => h) rfl ?hy41 hH rfl ?rest41
        case hy41 => (intro W hW; (try dsimp only at hW); go_simp; try with_reducible rfl)
        (try simp only [Act.put, List.setIfInBounds_toArray, List.set_cons_zero, List.set_cons_succ])
        refine wpAnyH_done (by kernel_rfl) ?_ _
        clear hH
        go_wp2_with fail
        go_loopg [13, 14, 15, 16, 17] 6 (fun gg t13 _ _ _ _ W => ∃ (g2 : World) (j : Nat), g2 = W ∧ j ≤ 6 ∧ 6 - j ≤ gg ∧ t13 = .int .i64 j ∧ Hid (Below gw.heap.size gw g2))
        case atStart => exact ⟨_, 0, rfl, by omega, by omega, rfl, HBE2⟩
        case round =>
          clear HBE2
          obtain ⟨g2, j, rfl, hj, hgj, rfl, HB2⟩ := hrel
          by_cases hj6 : (j : Int) < 6
          · have SA := safe_any (HDD.out.1.below HB2.out (Nat.le_refl _)) j (by omega)
            go_wp2_with (first | (go_at_call 22; refine Hid.out ?_))
            change Calls _ _ _ _ _
            refine SA.mono ?_
            clear SA
            rintro r g3 ⟨e1, rfl, hk1, _, hb3⟩
            have HB3 : Hid (Below gw.heap.size gw g3) := HB2.out.trans (hb3.mono HB2.out.size)
            have HS1 : Hid (Src g3 (some ⟨e1, 0, none⟩) (s.σ.sf j)) := hk1.src
            have SB := rsafe_in (HDD.out.2.below HB3.out).at' j (by omega) (s.σ.sf j) (by rw [HVV.out.2.2.1 j (by omega)]; rfl)
            rw [HVV.out.2.2.2 j (by omega)] at SB
            clear hk1 hb3
            go_wp2_with (first | (go_at_call 23; refine Hid.out ?_))
            change Calls _ _ _ _ _
            refine SB.mono ?_
            clear SB
            rintro r g4 ⟨e2, c2, rfl, hs2, hb4⟩
            have HB4 : Hid (Below gw.heap.size gw g4) := HB3.out.trans (hb4.mono HB3.out.size)
            have t1 := conv_str (HS1.out.below hb4 (Nat.le_refl _)) 256 256 (HVV.out.2.2.2 j (by omega)).symm
            have t2 := conv_str hs2 256 c2 (HVV.out.2.2.2 j (by omega)).symm
            clear hs2 hb4
            go_wp2_with fail
            go_roundg (6 - (j + 1))
            case measure => omega
            case rel => exact ⟨_, j + 1, rfl, by omega, by omega, by go_num, HB4⟩
          · have KN := pknown_any g2
            go_wp2_with (first | (go_at_call 24; refine Hid.out ?_))
            change Calls _ _ _ _ _
            refine KN.mono ?_
            clear KN
            rintro r wk ⟨rfl, hbk⟩
            have HBK : Hid (Below w.heap.size w wk) := (HBE.out.trans (HB2.out.mono HBE.out.size)).trans (hbk.mono (Nat.le_trans HBE.out.size HB2.out.size))
            clear hbk
            go_wp2_with fail
            go_ret
            exact ⟨rfl, HBK.out⟩
end Go.Proofs.YthaogbbclocmaaaGreat
