/- Both stores' Waits: the same list. -/
import Derived.Test.YthaogbbclocmaaaGreatJRpat8
import Derived.Test.YthaogbbclocmaaaGreatKRwaits
import Derived.Test.YthaogbbclocmaaaGreatJPmeet4
import Derived.Test.YthaogbbclocmaaaGreatJRimg7
import Derived.Test.YthaogbbclocmaaaGreatJPerr7
namespace Go.Proofs.YthaogbbclocmaaaGreat
open Go.RowKit
set_option maxRecDepth 100000
theorem sorted_ext : ∀ {a b : List Int}, a.Pairwise (· < ·) → b.Pairwise (· < ·) → (∀ x, x ∈ a ↔ x ∈ b) → a = b
  | [], [], _, _, _ => rfl
  | [], y :: b, _, _, h => absurd ((h y).2 (by simp)) (by simp)
  | x :: a, [], _, _, h => absurd ((h x).1 (by simp)) (by simp)
  | x :: a, y :: b, ha, hb, h => by
    obtain ⟨a1, a2⟩ := List.pairwise_cons.1 ha
    obtain ⟨b1, b2⟩ := List.pairwise_cons.1 hb
    have e : x = y := by
      have h1 := (h x).1 (by simp)
      have h2 := (h y).2 (by simp)
      rcases List.mem_cons.1 h1 with h1 | h1
      · exact h1
      · rcases List.mem_cons.1 h2 with h2 | h2
        · exact h2.symm
        · have := a1 y h2; have := b1 x h1; omega
    subst e
    congr 1
    refine sorted_ext a2 b2 fun z => ⟨fun hz => ?_, fun hz => ?_⟩
    · rcases List.mem_cons.1 ((h z).1 (by simp [hz])) with e | e
      · have := a1 z hz; omega
      · exact e
    · rcases List.mem_cons.1 ((h z).2 (by simp [hz])) with e | e
      · have := b1 z hz; omega
      · exact e
theorem idsR_mem : ∀ {L : List RCh} {bs : List Bool} {x : Int}, x ∈ idsR L bs ↔ ∃ (j : Nat) (r : RCh), L[j]? = some r ∧ bs[j]? = some true ∧ (r.id : Int) = x
  | [], _, x => by simp [idsR]
  | r :: L, [], x => by simp [idsR]
  | r :: L, b :: bs, x => by
    have ih := idsR_mem (L := L) (bs := bs) (x := x)
    constructor
    · intro h
      cases b with
      | true =>
        rcases List.mem_cons.1 (show x ∈ (r.id : Int) :: idsR L bs from h) with e | e
        · exact ⟨0, r, rfl, rfl, e.symm⟩
        · obtain ⟨j, r', h1, h2, h3⟩ := ih.1 e
          exact ⟨j + 1, r', h1, h2, h3⟩
      | false =>
        obtain ⟨j, r', h1, h2, h3⟩ := ih.1 (show x ∈ idsR L bs from h)
        exact ⟨j + 1, r', h1, h2, h3⟩
    · rintro ⟨j, r', h1, h2, h3⟩
      cases j with
      | zero =>
        cases h1; cases h2
        show x ∈ (r.id : Int) :: idsR L bs
        rw [h3]; simp
      | succ j =>
        have h4 := ih.2 ⟨j, r', by simpa using h1, by simpa using h2, h3⟩
        cases b with
        | true => show x ∈ (r.id : Int) :: idsR L bs; simp [h4]
        | false => exact h4
theorem idsR_sub : ∀ (L : List RCh) (bs : List Bool), (idsR L bs).Sublist (L.map fun r => (r.id : Int))
  | [], _ => by simp [idsR]
  | r :: L, [] => by simp [idsR]
  | r :: L, b :: bs => by
    have ih := idsR_sub L bs
    cases b with
    | true => exact ih.cons_cons _
    | false => exact ih.cons _
theorem rch_base {C : List Ch} {id x : Int} (h : Rch C id x) : opn C id = true := by
  induction h with
  | self h => exact h
  | ahead _ _ _ _ ih => exact ih
theorem rch_rea {C : List Ch} {id i : Int} {c : Ch} (hR : Rea C c i) (hc : c ∈ C) (h : Rch C id c.id) (ho : opn C i = true) : Rch C id i := by
  induction hR with
  | ahead hi => exact .ahead hc h hi ho
  | step hd hi _ ih => exact ih hd (.ahead hc h hi (opn_iff.2 ⟨_, hd, rfl⟩)) ho
theorem findI_at {L : List RCh} {x : Int} {n : Nat} (h : findI L x 0 = (n : Int)) : ∃ r, L[n]? = some r ∧ (r.id : Int) = x := by
  rcases findI_spec L x 0 with ⟨e, _⟩ | ⟨j, c, hc, e, e2⟩
  · rw [e] at h; omega
  · rw [e2] at h
    have : j = n := by omega
    rw [← this]; exact ⟨c, hc, e⟩
section
variable {N : Nat} {w0 w w' : World} {p dp ed q : Nat} {s : PSt} {ops : Nat → List Int} {κ m : Nat} {A : Nat → List Int} {L : List RCh} {D : Nat → Prop}
theorem findI_of (h : BX N w0 w p dp ed q s ops κ m A L D) {n : Nat} {r : RCh} (hr : L[n]? = some r) : findI L (r.id : Int) 0 = (n : Int) := by
  rcases findI_spec L (r.id : Int) 0 with ⟨e, hn⟩ | ⟨j, c, hc, e, e2⟩
  · exact absurd rfl (hn r (List.mem_of_getElem? hr))
  · rw [e2]
    obtain ⟨c1, h1, k1, _⟩ := h.al.at hc
    obtain ⟨c2, h2, k2, _⟩ := h.al.at hr
    have hid : c1.id = c2.id := by omega
    have hlt : ¬ j < n := fun hl => by have := asc_at h.gw.pl.asc h1 h2 hl; omega
    have hgt : ¬ n < j := fun hl => by have := asc_at h.gw.pl.asc h2 h1 hl; omega
    omega
/-- Whom the document marks are those that are reached. -/
theorem BX.marks (h : BX N w0 w p dp ed q s ops κ m A L D) (id : Int) : (∀ k : Nat, findI L id 0 = (k : Int) → ∃ r, L[k]? = some r ∧ Rch s.C id r.id) ∧ (∀ i n, (∃ r, L[i]? = some r ∧ Rch s.C id r.id) → EdR L i n → ∃ r, L[n]? = some r ∧ Rch s.C id r.id) := by
  constructor
  · intro k hk
    obtain ⟨r, hr, e⟩ := findI_at hk
    obtain ⟨c, hc, e1, _⟩ := h.al.at hr
    refine ⟨r, hr, ?_⟩
    rw [e]
    exact .self (opn_iff.2 ⟨c, List.mem_of_getElem? hc, by omega⟩)
  · rintro i n ⟨r, hr, hR⟩ ⟨r', hr', hE⟩
    rw [hr] at hr'
    cases hr'
    obtain ⟨c, hc, e1, e2, e3, e4, _, e6⟩ := h.al.at hr
    have hcm := List.mem_of_getElem? hc
    rw [e1] at hR
    rcases hE with ⟨a, ha, hn⟩ | ⟨hn, e, he, hm⟩
    · obtain ⟨r2, hr2, e⟩ := findI_at hn
      obtain ⟨c2, hc2, k1, _⟩ := h.al.at hr2
      have ho : opn s.C a = true := opn_iff.2 ⟨c2, List.mem_of_getElem? hc2, by omega⟩
      refine ⟨r2, hr2, ?_⟩
      rw [e]
      rw [e6] at ha
      exact rch_rea (h.pa.afc c hcm a ha ho) hcm hR ho
    · obtain ⟨c2, hc2, k1, k2, k3, k4, _⟩ := h.al.at he
      refine ⟨e, he, ?_⟩
      have hlt := asc_at h.gw.pl.asc hc2 hc hn
      have hmt := (meetR_iff k2 k3 k4 e2 e3 e4).1 hm
      obtain ⟨m1, m2, m3⟩ := hmt
      rw [k1]
      refine rch_rea (h.gw.pl.ahm c hcm c2 (List.mem_of_getElem? hc2) m1 hlt (max c2.fr c.fr) ?_ ?_) hcm hR (opn_iff.2 ⟨c2, List.mem_of_getElem? hc2, rfl⟩)
      · have := (h.gw.pl.ft c2 (List.mem_of_getElem? hc2)).2
        unfold cov; omega
      · have := (h.gw.pl.ft c hcm).2
        unfold cov; omega
theorem BX.waits (h : BX N w0 w p dp ed q s ops κ m A L D) {id : Int} {k : Nat} {bs : List Bool} (hk : findI L id 0 = (k : Int)) (hW : WM L (fun j => ∃ r, L[j]? = some r ∧ Rch s.C id r.id) k 0 bs) : (∀ x, x ∈ idsR L bs ↔ Rch s.C id x) ∧ (idsR L bs).Pairwise (· < ·) := by
  constructor
  · intro x
    rw [idsR_mem]
    constructor
    · rintro ⟨j, r, hr, hb, rfl⟩
      obtain ⟨r', hr', hR⟩ := hW.snd j hb
      rw [hr] at hr'
      cases hr'
      exact hR
    · intro hR
      induction hR with
      | self _ =>
        obtain ⟨r, hr, e⟩ := findI_at hk
        exact ⟨k, r, hr, hW.k, e⟩
      | @ahead c i hc _ hi ho ih =>
        obtain ⟨j, r, hr, hb, e⟩ := ih
        obtain ⟨c1, hc1, e1, e2, e3, e4, _, e6⟩ := h.al.at hr
        obtain rfl : c1 = c := h.gw.pl.asc.inj (List.mem_of_getElem? hc1) hc (by omega)
        obtain ⟨y, hy, rfl⟩ := opn_iff.1 ho
        obtain ⟨n, hn⟩ := List.mem_iff_getElem?.1 hy
        obtain ⟨r2, hr2, k1, k2, k3, k4, _⟩ := h.al.of hn
        have hE : EdR L j n := by
          refine ⟨r, hr, ?_⟩
          rcases h.pa.ahc c1 hc _ hi ho with ha | ⟨y', hy', ei, eb, elt, jj, cv1, cv2⟩
          · refine .inl ⟨(y.id : Int), by rw [e6]; exact ha, ?_⟩
            rw [← k1]
            exact findI_of h hr2
          · obtain rfl : y' = y := h.gw.pl.asc.inj hy' hy (by omega)
            refine .inr ⟨asc_lt h.gw.pl.asc hn hc1 elt, r2, hr2, (meetR_iff k2 k3 k4 e2 e3 e4).2 ⟨eb, ?_, ?_⟩⟩
            · unfold cov at cv1 cv2; omega
            · unfold cov at cv1 cv2; omega
        exact ⟨n, r2, hr2, hW.clo j (Nat.zero_le _) hb n hE, by omega⟩
  · refine List.Pairwise.sublist (idsR_sub L bs) ?_
    have e : L.map (fun r => (r.id : Int)) = s.C.map fun c => (c.id : Int) := by
      have h1 := congrArg (List.map fun t : Nat × Nat × Nat × List UInt8 × Bool × List Int => (t.1 : Int)) h.al
      simpa [List.map_map, absR, absC, Function.comp_def] using h1
    rw [e]
    exact h.gw.pl.asc.cids
theorem BX.lok (h : BX N w0 w p dp ed q s ops κ m A L D) : ∃ d gB cB ao ca, RAt w q d (.slice (some ⟨gB, 0, none⟩) (basS N s).length cB) ao ca L s.cnt ∧ BAt w gB cB (basS N s) ∧ LOk w L := by
  obtain ⟨ver, ⟨gB, cB, ao, ca, base, gb, cb, va, vc, h1⟩, _⟩ := h.rt
  exact ⟨_, gB, cB, ao, ca, h1.at', h1.bs, h1.lk⟩
/-- Both are asked whom one waits for. -/
theorem xb_waits (h : BX N w0 w p dp ed q s ops κ m A L D) (hκ : κ ≤ 900) (id : Int) (hid : -9223372036854775808 ≤ id ∧ id ≤ 9223372036854775807) :
    Calls Tryz.prog 45 #[.pointer (some ⟨p, 0, none⟩), .int .i64 id] w fun r w1 => ∃ v xs, r = .returned v ∧ OwnL w1 w.heap.size v xs ∧ (∀ x, x ∈ xs ↔ Rch s.C id x) ∧ xs.length ≤ 1000 ∧ Below w.heap.size w w1 ∧
      ∀ W, Below w1.heap.size w1 W → Calls Tryz.prog 77 #[.pointer (some ⟨q, 0, none⟩), .int .i64 id] W fun r2 w2 => ∃ v2, r2 = .returned v2 ∧ OwnL w2 W.heap.size v2 xs ∧ Below W.heap.size W w2 := by
  have hp : s.p = p := h.gw.p
  have WT := waits_any h.gw.pm h.gw.pl hκ id hid
  rw [hp] at WT
  refine WT.mono ?_
  rintro r w1 ⟨v, xs, rfl, hO, hP, hm, hb⟩
  have hlen : xs.length ≤ 1000 := by
    have h1 : ∀ x ∈ xs, 1 ≤ x ∧ x ≤ (s.cnt : Int) := fun x hx => by
      obtain ⟨c, hc, e⟩ := opn_iff.1 ((hm x).1 hx).opn
      have := h.gw.pl.idr c hc
      omega
    have h2 : (xs.map Int.toNat).Nodup := by
      unfold List.Nodup
      rw [List.pairwise_map]
      exact List.Pairwise.imp_of_mem (fun {a b} ha hb hlt => by have := h1 a ha; have := h1 b hb; omega) hP
    have h3 := nodup_len 1000 _ h2 fun x hx => by
      obtain ⟨y, hy, rfl⟩ := List.mem_map.1 hx
      have h4 := h1 y hy
      have h5 := h.gw.pl.bd.1
      omega
    rwa [List.length_map] at h3
  refine ⟨v, xs, rfl, hO, hm, hlen, hb, fun W hW => ?_⟩
  have hX := (h.up hb).up hW
  obtain ⟨d, gB, cB, ao, ca, hR, hB, hk⟩ := hX.lok
  obtain ⟨hS0, hSE⟩ := hX.marks id
  refine (rwaits_any hR hk id (hX.al.ahead hX.pa hX.gw.pl) (fun j => ∃ r, L[j]? = some r ∧ Rch s.C id r.id) hS0 hSE).mono ?_
  rintro r w2 ⟨v2, ys, rfl, hO2, hb2, hcase⟩
  refine ⟨v2, rfl, ?_, hb2⟩
  have e : xs = ys := by
    rcases hcase with ⟨hneg, e⟩ | ⟨k, bs, hk, hW, e⟩
    · rw [e]
      refine List.eq_nil_iff_forall_not_mem.2 fun x hx => ?_
      have ho := rch_base ((hm x).1 hx)
      obtain ⟨c, hc, e2⟩ := opn_iff.1 ho
      obtain ⟨n, hn⟩ := List.mem_iff_getElem?.1 hc
      obtain ⟨r, hr, k1, _⟩ := h.al.of hn
      have := findI_of h hr
      rw [show (r.id : Int) = id by omega] at this
      omega
    · obtain ⟨h1, h2⟩ := h.waits hk hW
      rw [e]
      exact sorted_ext hP h2 fun x => by rw [hm, h1]
  rw [e]
  exact hO2
end
end Go.Proofs.YthaogbbclocmaaaGreat
/- The document's store: Dirty, Block. -/
namespace Go.Proofs.YthaogbbclocmaaaGreat
open Go.RowKit
set_option maxRecDepth 100000
/-- Stands a change in block k? -/
def hasR (L : List RCh) (k : Nat) : Bool := L.any fun c => (c.b : Int) == (k : Int)
/-- The blocks below m in which changes stand. -/
def dirR (L : List RCh) : Nat → List Int
  | 0 => []
  | k + 1 => if hasR L k then dirR L k ++ [(k : Int)] else dirR L k
theorem dirR_len (L : List RCh) : ∀ k, (dirR L k).length ≤ k
  | 0 => Nat.le_refl _
  | k + 1 => by
    have := dirR_len L k
    unfold dirR
    split
    · simp; omega
    · omega
section
variable {w : World} {q d gB cB : Nat} {B : List (List UInt8)} {ao : Option Addr} {ca : Nat} {L : List RCh} {last : Nat}
set_option maxHeartbeats 4000000 in
theorem rdirty_any (h : RAt w q d (.slice (some ⟨gB, 0, none⟩) B.length cB) ao ca L last) (hB : BAt w gB cB B) (hl : L.length ≤ 1000) :
    Calls Tryz.prog 75 #[.pointer (some ⟨q, 0, none⟩)] w fun e w' => ∃ v, e = .returned v ∧ OwnI w' w.heap.size v (dirR L B.length) ∧ Below w.heap.size w w' := by
  have HR : Hid (RAt w q d (.slice (some ⟨gB, 0, none⟩) B.length cB) ao ca L last) := h
  have hbl : (B.length : Int) ≤ 1000 := by have := hB.len.1; omega
  have hll : (L.length : Int) ≤ 1000 := by omega
  have hca : (ca : Int) ≤ 9223372036854775807 := h.ls.cap.2
  clear h hB hl
  go_enter Tryz.func75, Tryz.ntmps75
  go_wp2_with fail
  go_loopg [3, 4, 5, 6] 1000 (fun gg t3 t4 _ _ W => ∃ (gw : World) (k : Nat), gw = W ∧ k ≤ B.length ∧ B.length - k ≤ gg ∧ t4 = .int .i64 k ∧ Hid (OwnI gw w.heap.size t3 (dirR L k) ∧ Below w.heap.size w gw))
  case atStart => exact ⟨_, 0, rfl, by omega, by omega, rfl, OwnI.nil _ _, Below.refl _ _⟩
  case round =>
    obtain ⟨gw, k, rfl, hk, hgk, rfl, HG⟩ := hrel
    have c1 := (HR.out.up HG.out.2).c1
    have c2 := (HR.out.up HG.out.2).c2
    by_cases hlt : (k : Int) < (B.length : Int)
    · go_wp2_with fail
      clear c1
      go_loopg [5, 6] 1000 (fun gg t5 t6 W => ∃ (i : Nat), W = gw ∧ i ≤ L.length ∧ L.length - i ≤ gg ∧ t6 = .int .i64 i ∧ t5 = .bool ((L.take i).any fun c => (c.b : Int) == (k : Int)))
      case atStart => exact ⟨0, rfl, by omega, by omega, rfl, rfl⟩
      case round =>
        obtain ⟨i, hW, hi, hgi, rfl, rfl⟩ := hrel
        cases hW
        by_cases hil : (i : Int) < (L.length : Int)
        · obtain ⟨c, hc⟩ : ∃ c, L[i]? = some c := ⟨_, List.getElem?_eq_getElem (by omega)⟩
          obtain ⟨g, rfl, hgl, hcc⟩ : ∃ g, ao = some ⟨g, 0, none⟩ ∧ g < gw.heap.size ∧ gw.cell? ⟨g, i * 6 + 1, none⟩ = some (.int .i64 (c.b : Int)) := by
            rcases (HR.out.up HG.out.2).ls.cells with e | ⟨g, e, hl, h⟩
            · rw [e] at hc; cases hc
            · exact ⟨g, e, hl, h i c hc 1 _ rfl⟩
          have HT : Hid (((L.take (i + 1)).any fun c => (c.b : Int) == (k : Int)) = (((L.take i).any fun c => (c.b : Int) == (k : Int)) || ((c.b : Int) == (k : Int)))) := by
            show _ = _
            rw [List.take_add_one, hc, List.any_append]
            simp
          clear hc
          generalize ((L.take i).any fun c => (c.b : Int) == (k : Int)) = av at *
          obtain ⟨eb, heb⟩ : ∃ eb, ((c.b : Int) == (k : Int)) = eb := ⟨_, rfl⟩
          rw [heb] at HT
          cases av
          · cases eb
            · go_wp2_with fail
              go_roundg (L.length - (i + 1))
              case measure => omega
              case rel => exact ⟨i + 1, rfl, by omega, by omega, by go_num, by rw [HT.out]; rfl⟩
            · go_wp2_with fail
              go_roundg (L.length - (i + 1))
              case measure => omega
              case rel => exact ⟨i + 1, rfl, by omega, by omega, by go_num, by rw [HT.out]; rfl⟩
          · go_wp2_with fail
            go_roundg (L.length - (i + 1))
            case measure => omega
            case rel => exact ⟨i + 1, rfl, by omega, by omega, by go_num, by rw [HT.out]; rfl⟩
        · obtain ⟨hv, hhv⟩ : ∃ hv, hasR L k = hv := ⟨_, rfl⟩
          have HH : Hid (hasR L k = hv) := hhv
          have e : ((L.take i).any fun c => (c.b : Int) == (k : Int)) = hv := by rw [← hhv, List.take_of_length_le (by omega)]; rfl
          rw [e]
          clear e hhv
          have HN : Hid (dirR L (k + 1) = if hv then dirR L k ++ [(k : Int)] else dirR L k) := by show _ = _; rw [dirR, HH.out]
          cases hv with
          | false =>
            have H2 : Hid (OwnI gw w.heap.size u3 (dirR L (k + 1)) ∧ Below w.heap.size w gw) := by
              show OwnI gw w.heap.size u3 (dirR L (k + 1)) ∧ Below w.heap.size w gw
              rw [HN.out]; exact HG.out
            go_wp2_with fail
            go_roundg (B.length - (k + 1))
            case measure => omega
            case rel => exact ⟨_, k + 1, rfl, by omega, by omega, by go_num, H2.out⟩
          | true =>
            have HLN : Hid ((dirR L k).length ≤ 1000000) := by have := dirR_len L k; show _ ≤ _; omega
            go_wp2_with (first | (at_builtin; refine Hid.out ?_))
            change wpList _ _ _ _ _ _
            refine wpList_append_int rfl (.tmp 39) (.tmp 41) rfl w.heap.size (dirR L k) (k : Int) _ rfl _ _ rfl (HG.out.1.below ((Below.refl _ _).alloc (Nat.le_refl _) _) (Nat.le_refl _)) (heap_alloc_new _ _) (by rw [size_alloc]; have := HG.out.2.size; omega) HLN.out ?_
            intro v' w3 hO3 hb3
            have H2 : Hid (OwnI w3 w.heap.size v' (dirR L (k + 1)) ∧ Below w.heap.size w w3) := by
              refine ⟨?_, (HG.out.2.alloc HG.out.2.size _).trans hb3⟩
              rw [HN.out]; exact hO3
            clear hO3 hb3
            go_wp2_with fail
            go_roundg (B.length - (k + 1))
            case measure => omega
            case rel => exact ⟨_, k + 1, rfl, by omega, by omega, by go_num, H2.out⟩
    · obtain rfl : k = B.length := by omega
      go_wp2_with fail
      go_ret
      exact ⟨_, rfl, HG.out.1, HG.out.2⟩
set_option maxHeartbeats 1000000 in
theorem rblock_any {vB : Value} (h : RAt w q d vB ao ca L last) (hl : L.length ≤ 1000) (x : Int) :
    Calls Tryz.prog 71 #[.pointer (some ⟨q, 0, none⟩), .int .i64 x] w fun e w' => e = .returned (.tuple #[.int .i64 (if findI L x 0 < 0 then 0 else bAt L (findI L x 0)), .int .i64 (if findI L x 0 < 0 then 20 else 0)]) ∧ w' = w := by
  have FI := rfind_any h (by omega) x
  have hF := findI_lt L x 0
  by_cases h0 : findI L x 0 < 0
  · rw [if_pos h0, if_pos h0]
    generalize findI L x 0 = f at *
    clear h hF
    go_enter Tryz.func71, Tryz.ntmps71
    go_wp2_with (first | (go_at_call 115; refine FI.mono ?_; rintro r w1 ⟨rfl, rfl⟩))
    go_ret2
    exact ⟨rfl, rfl⟩
  · rw [if_neg h0, if_neg h0]
    obtain ⟨k, hk⟩ : ∃ k : Nat, findI L x 0 = (k : Int) := ⟨(findI L x 0).toNat, by omega⟩
    rw [hk] at FI hF ⊢
    obtain ⟨c, hc⟩ : ∃ c, L[k]? = some c := ⟨_, List.getElem?_eq_getElem (by omega)⟩
    obtain ⟨g, rfl, hgl, hcc⟩ : ∃ g, ao = some ⟨g, 0, none⟩ ∧ g < w.heap.size ∧ w.cell? ⟨g, k * 6 + 1, none⟩ = some (.int .i64 (c.b : Int)) := by
      rcases h.ls.cells with e | ⟨g, e, hl, h⟩
      · rw [e] at hc; cases hc
      · exact ⟨g, e, hl, h k c hc 1 _ rfl⟩
    have hkl : (k : Int) < (L.length : Int) := by have := (List.getElem?_eq_some_iff.1 hc).1; omega
    have HB : Hid (bAt L (k : Int) = (c.b : Int)) := by show _ = _; unfold bAt; rw [Int.toNat_natCast, hc]
    have c2 := h.c2
    have hca : (ca : Int) ≤ 9223372036854775807 := h.ls.cap.2
    rw [HB.out]
    clear h hF h0 hk hc
    go_enter Tryz.func71, Tryz.ntmps71
    go_wp2_with (first | (go_at_call 115; refine FI.mono ?_; rintro r w1 ⟨rfl, hw1⟩; obtain rfl : w = w1 := hw1.symm))
    go_ret2
    exact ⟨rfl, rfl⟩
end
end Go.Proofs.YthaogbbclocmaaaGreat
/- The document's Read: its bytes lie in new memory. -/
namespace Go.Proofs.YthaogbbclocmaaaGreat
open Go.RowKit
set_option maxRecDepth 100000
section
variable {w : World} {q d gB cB : Nat} {B : List (List UInt8)} {ao : Option Addr} {ca : Nat} {L : List RCh} {last : Nat}
set_option maxHeartbeats 4000000 in
theorem rsread_fresh (h : RAt w q d (.slice (some ⟨gB, 0, none⟩) B.length cB) ao ca L last) (hB : BAt w gB cB B) (hll : (L.length : Int) ≤ 1000) (hu : ∀ c ∈ L, c.fr + c.d.length ≤ 256 ∧ 0 < c.d.length) (n : Nat) (b0 : List UInt8) (hb0 : B[n]? = some b0) :
    Calls Tryz.prog 68 #[.pointer (some ⟨q, 0, none⟩), .int .i64 (n : Int)] w fun e w' => ∃ xo xc, e = .returned (.tuple #[.slice xo 256 xc, .int .i64 0]) ∧ Arg w' xo xc (laidR (ofR L n) L 0 b0) ∧ (laidR (ofR L n) L 0 b0).length = 256 ∧ Below w.heap.size w w' ∧ ∀ b o, xo = some ⟨b, o, none⟩ → w.heap.size ≤ b := by
  have hnl : n < B.length := (List.getElem?_eq_some_iff.1 hb0).1
  have TH := rthere_any h hB (n : Int)
  rw [decide_eq_true (by omega), decide_eq_true (by omega)] at TH
  have HB0 : Hid (b0.length = 256) := hB.len.2 b0 (List.mem_of_getElem? hb0)
  obtain ⟨xc0, w2, hcv, hav, hbv⟩ := str_arg w b0 (by have := HB0.out; omega) (by have := HB0.out; omega)
  have c1 := h.c1
  have bc := hB.cells n b0 hb0
  have hl : (B.length : Int) ≤ 1000 := by have := hB.len.1; omega
  have hcB := hB.cap.2
  have hnl' : (n : Int) < (B.length : Int) := by omega
  have HR : Hid (RAt w q d (.slice (some ⟨gB, 0, none⟩) B.length cB) ao ca L last) := h
  have HU : Hid (∀ c ∈ L, c.fr + c.d.length ≤ 256 ∧ 0 < c.d.length) := hu
  have HAV : Hid (Arg w2 (some ⟨w.heap.size, 0, none⟩) xc0 b0) := hav
  have HBV : Hid (Below w.heap.size w w2) := hbv
  obtain ⟨V, hVe⟩ : ∃ V, ofR L n = V := ⟨_, rfl⟩
  have HVE : Hid (ofR L n = V) := hVe
  rw [hVe]
  clear h hB hu hb0 hav hbv hnl hVe
  go_enter Tryz.func68, Tryz.ntmps68
  go_wp2_with (first | (go_at_call 114; refine TH.mono ?_; clear TH; rintro r w1 ⟨rfl, hw1⟩; obtain rfl : w = w1 := hw1.symm))
  clear hcv c1 bc hw1
  go_loopg [6, 7] 1000 (fun gg t6 t8 W => ∃ (gw : World) (k : Nat) (xo : Option Addr) (xc : Nat) (x : List UInt8), gw = W ∧ k ≤ L.length ∧ L.length - k ≤ gg ∧ t8 = .int .i64 k ∧ t6 = .slice xo x.length xc ∧ Hid (Below w.heap.size w gw ∧ Arg gw xo xc x ∧ x.length = 256 ∧ laidR V L 0 b0 = laidR V (L.drop k) k x ∧ ∀ b o, xo = some ⟨b, o, none⟩ → w.heap.size ≤ b))
  case atStart => exact ⟨_, 0, _, _, _, rfl, by omega, by omega, rfl, rfl, HBV.out, HAV.out, HB0.out, rfl, fun b o e => by cases e; exact Nat.le_refl _⟩
  case round =>
    clear HAV HBV
    obtain ⟨gw, k, xo, xc, x, rfl, hkl, hgk, rfl, rfl, HG⟩ := hrel
    have c2 := (HR.out.up HG.out.1).c2
    by_cases hlt : (k : Int) < (L.length : Int)
    · obtain ⟨c, hc⟩ : ∃ c, L[k]? = some c := ⟨_, List.getElem?_eq_getElem (by omega)⟩
      obtain ⟨g, rfl, hgl, hcc⟩ : ∃ g, ao = some ⟨g, 0, none⟩ ∧ g < gw.heap.size ∧ ∀ (j : Nat) (v : Value), (rcL c)[j]? = some v → gw.cell? ⟨g, k * 6 + j, none⟩ = some v := by
        rcases (HR.out.up HG.out.1).ls.cells with e | ⟨g, e, hl, h⟩
        · rw [e] at hc; cases hc
        · exact ⟨g, e, hl, fun j v hj => h k c hc j v hj⟩
      have hca : (ca : Int) ≤ 9223372036854775807 := HR.out.ls.cap.2
      have hVk : V k = decide (c.b = n) := by rw [← HVE.out, ofR, hc]
      have HD := HG.out.2.2.2.1.trans (laidR_drop V L k c x hc)
      rw [hVk] at HD
      have HDD : Hid (laidR V L 0 b0 = laidR V (L.drop (k + 1)) (k + 1) (if decide (c.b = n) then layB x c.fr c.d else x)) := HD
      clear HD hVk
      have x1 := hcc 1 _ rfl
      by_cases hbn : c.b = n
      · have hbb : ((c.b : Int) == (n : Int)) = true := by simp; omega
        rw [decide_eq_true hbn] at HDD
        have UP := rupon_any c xo xc x gw HG.out.2.1 HG.out.2.2.1 (HU.out c (List.mem_of_getElem? hc)).1 (HU.out c (List.mem_of_getElem? hc)).2
        have HLY : Hid ((layB x c.fr c.d).length = 256) := by
          have h1 := HG.out.2.2.1
          have h2 := (HU.out c (List.mem_of_getElem? hc)).1
          show _ = _
          rw [layB_length (by omega), h1]
        simp only [rcL] at UP
        have x0 := hcc 0 _ rfl
        have x2 := hcc 2 _ rfl
        have x3 := hcc 3 _ rfl
        have x4 := hcc 4 _ rfl
        have x5 := hcc 5 _ rfl
        rw [Nat.add_zero] at x0
        obtain ⟨y, hy⟩ : ∃ y, layB x c.fr c.d = y := ⟨_, rfl⟩
        have HY : Hid (layB x c.fr c.d = y) := hy
        rw [hy] at UP
        clear hcc hc hy hbn
        go_wp2_with (first | (go_at_call 112; refine UP.mono ?_; clear UP; rintro r w5 ⟨v, rfl, ho, hb5⟩; have H5 : Hid (Own w5 gw.heap.size v y ∧ Below gw.heap.size gw w5) := ⟨ho, hb5⟩; clear ho hb5))
        rw [HY.out] at HLY HDD
        obtain ⟨yo, yc, rfl, hya⟩ := H5.out.1.arg (by have := HLY.out; omega)
        go_roundg (L.length - (k + 1))
        case measure => omega
        case rel => exact ⟨_, k + 1, yo, yc, y, rfl, by omega, by omega, by go_num, rfl, HG.out.1.trans (H5.out.2.mono (HG.out.1.size)), hya, HLY.out, HDD.out, fun b o e => by have h1 := (Own.lt H5.out.1 b (by rw [e]; rfl)).1; have h2 := HG.out.1.size; omega⟩
      · have hbb : ((c.b : Int) == (n : Int)) = false := by simp; omega
        rw [decide_eq_false hbn] at HDD
        clear hcc hc hbn
        go_wp2_with fail
        go_roundg (L.length - (k + 1))
        case measure => omega
        case rel => exact ⟨_, k + 1, xo, xc, x, rfl, by omega, by omega, by go_num, rfl, HG.out.1, HG.out.2.1, HG.out.2.2.1, HDD.out, HG.out.2.2.2.2⟩
    · have HE : Hid (laidR V L 0 b0 = x) := by
        show _ = _
        rw [HG.out.2.2.2.1, List.drop_eq_nil_of_le (by omega)]; rfl
      have HX := HG.out.2.2.1
      rw [HX]
      clear HX
      go_wp2_with fail
      go_ret2
      exact ⟨xo, xc, rfl, by rw [HE.out]; exact HG.out.2.1, by rw [HE.out]; exact HG.out.2.2.1, HG.out.1, HG.out.2.2.2.2⟩
end
end Go.Proofs.YthaogbbclocmaaaGreat
/- Both stores are asked: Read, Block, Safe, Open, Dirty. -/
namespace Go.Proofs.YthaogbbclocmaaaGreat
open Go.RowKit
set_option maxRecDepth 100000
section
variable {N : Nat} {w0 w w' : World} {p dp ed q : Nat} {s : PSt} {ops : Nat → List Int} {κ m : Nat} {A : Nat → List Int} {L : List RCh} {D : Nat → Prop}
theorem PA.cache (h : PA s A) (σ' : CSt) : PA { s with σ := σ' } A := ⟨h.lac, h.ahc, h.afc, h.alt⟩
/-- What is read of a block. -/
def conS (s : PSt) (n : Nat) : List UInt8 := lays (s.σ.sf n) (ofB s.C n)
theorem BX.cont (h : BX N w0 w p dp ed q s ops κ m A L D) {n : Nat} (hn : n < N) : ((ent s.σ.L n).getD (lst s.σ n, 0)).1 = conS s n := by
  unfold conS
  by_cases hc : ∃ c ∈ s.C, c.b = n
  · obtain ⟨c, hc, e⟩ := hc
    obtain ⟨b, hb, hbn⟩ := h.gw.pl.cb c hc
    have h1 := h.gw.pl.cab b hb
    have h2 := h.gw.pl.sfb b hb
    rw [if_neg (by simp)] at h2
    rw [show b.n = n by omega] at h1 h2
    rw [h1, h2]
    rfl
  · obtain ⟨_, h2, h3⟩ := h.clean hn hc
    have hB : ∀ b ∈ s.B, ¬ b.n = n := fun b hb e => by
      obtain ⟨c, hc', e2⟩ := h.gw.pl.bc b hb (by simp)
      exact hc ⟨c, hc', by omega⟩
    rw [h3]
    rcases (h.gw.pl.cao n (by rw [h.gw.dn]; exact hn) hB).2 with e | e
    · rw [e]
      show lst s.σ n = _
      unfold lst lastOf
      rw [h2]
      rfl
    · rw [e]; rfl
theorem laidR_of : ∀ (C : List Ch) (L : List RCh) (V : Nat → Bool) (n k : Nat) (x : List UInt8), Alike C L A → (∀ i r, L[i]? = some r → V (k + i) = decide (r.b = n)) → laidR V L k x = lays x (ofB C n)
  | [], L, _, _, _, _, h, _ => by
    have hl := h.len
    obtain rfl : L = [] := List.eq_nil_of_length_eq_zero hl
    rfl
  | c :: C, [], _, _, _, _, h, _ => by have hl := h.len; cases hl
  | c :: C, r :: L, V, n, k, x, h, hV => by
    have h1 : absR r = absC A c ∧ L.map absR = C.map (absC A) := by
      have h0 : absR r :: L.map absR = absC A c :: C.map (absC A) := h
      exact ⟨(List.cons.inj h0).1, (List.cons.inj h0).2⟩
    have ih := fun y => laidR_of C L V n (k + 1) y h1.2 (fun i r' hr' => by have := hV (i + 1) r' hr'; rw [← this]; congr 1; omega)
    have hv := hV 0 r rfl
    rw [Nat.add_zero] at hv
    have h2 := h1.1
    unfold absR absC at h2
    simp only [Prod.mk.injEq] at h2
    obtain ⟨_, a2, a3, a4, _, _⟩ := h2
    unfold laidR
    rw [ih, hv, a2, a3, a4]
    by_cases hm : c.b = n
    · rw [decide_eq_true hm, if_pos rfl]
      have e : ofB (c :: C) n = c :: ofB C n := by unfold ofB; rw [List.filter_cons_of_pos (by simpa using hm)]
      rw [e, lays_cons]
    · rw [decide_eq_false hm, if_neg (by simp)]
      have e : ofB (c :: C) n = ofB C n := by unfold ofB; rw [List.filter_cons_of_neg (by simpa using hm)]
      rw [e]
/-- A slice of bytes that lies in new memory, none of the stores'. -/
def NewB (w w1 : World) (s : PSt) (v : Value) (d : List UInt8) : Prop := (v = .slice none 0 0 ∧ d = []) ∨ (Own w1 w.heap.size v d ∧ d.length = 256 ∧ ∀ k, v.ownBlock = some k → ¬ Ak s k)
/-- The state behind a block that was read: the cache alone is another one. -/
theorem BX.touched (h : BX N w0 w p dp ed q s ops κ m A L D) {σ' : CSt} {n : Nat} {x : Option (List UInt8 × Nat)} (hR : PRun w0.heap.size s w { s with σ := σ' } ops w') (hL : PL { s with σ := σ' } ops [] (κ + 1)) (hC : CRel s.σ σ' n x) : BX N w0 w' p dp ed q { s with σ := σ' } ops (κ + 1) m A L D := by
  obtain ⟨ver, h1, h2⟩ := h.rt
  refine ⟨h.gw.run hR hL rfl hC.dp hC.dn, h.pa.cache σ', ⟨ver, ?_, fun i hi => ?_⟩, h.al, fun k hk hA => ?_, h.db⟩
  · have e : basS N { s with σ := σ' } = basS N s := by
      unfold basS
      show (List.range N).map σ'.sf = _
      rw [hC.sf]
    rw [e]
    exact h1.keep hR.fr h.no
  · show ver i = σ'.sf i :: σ'.ws i
    rw [hC.sf, hC.ws]
    exact h2 i hi
  · rcases hR.sub k hA with h3 | h3
    · exact h.no k hk h3
    · have := h.rs.ltD k hk; omega
set_option maxHeartbeats 1000000 in
theorem pread_out (h : PM w w0.heap.size s ops) (b : Int) (hb : b < 0 ∨ (s.σ.dn : Int) ≤ b) :
    Calls Tryz.prog 34 #[.pointer (some ⟨s.p, 0, none⟩), .int .i64 b] w fun r w' => r = .returned (.tuple #[.slice none 0 0, .int .i64 3]) ∧ w' = w := by
  have RD := cread_out h.cs b hb
  have c1 := h.c1
  clear h
  go_enter Tryz.func34, Tryz.ntmps34
  go_wp2_with fail
  refine RD.mono ?_
  clear RD
  rintro r w1 ⟨rfl, rfl⟩
  go_wp2
  go_ret2
  exact ⟨rfl, rfl⟩
/-- The same bytes of the document's block. -/
theorem xr_read (h : BX N w0 w p dp ed q s ops κ m A L D) (hκ : κ ≤ 950) {n : Nat} (hn : n < N) :
    Calls Tryz.prog 68 #[.pointer (some ⟨q, 0, none⟩), .int .i64 (n : Int)] w fun r w' => ∃ xo xc, r = .returned (.tuple #[.slice xo 256 xc, .int .i64 0]) ∧ Src w' xo (conS s n) ∧ (conS s n).length = 256 ∧ Below w.heap.size w w' ∧ ∀ b o, xo = some ⟨b, o, none⟩ → w.heap.size ≤ b := by
  obtain ⟨d, gB, cB, ao, ca, hR, hB, hk⟩ := h.lok
  have hb0 : (basS N s)[n]? = some (s.σ.sf n) := by unfold basS; rw [List.getElem?_map, List.getElem?_range hn]; rfl
  have hu : ∀ c ∈ L, c.fr + c.d.length ≤ 256 ∧ 0 < c.d.length := fun c hc => ⟨(h.fitN c hc).1, (h.fitN c hc).2.1⟩
  have e : laidR (ofR L n) L 0 (s.σ.sf n) = conS s n := laidR_of (A := A) s.C L _ n 0 _ h.al (fun i r hr => by rw [Nat.zero_add]; unfold ofR; rw [hr])
  refine (rsread_fresh hR hB (by have := h.len; omega) hu n _ hb0).mono ?_
  rintro r w' ⟨xo, xc, rfl, ha, hl, hb, hn⟩
  rw [e] at ha hl
  exact ⟨xo, xc, rfl, ha.src, hl, hb, hn⟩
/-- Both are read. -/
theorem xb_read (h : BX N w0 w p dp ed q s ops κ m A L D) (hκ : κ ≤ 900) (n : Int) :
    Calls Tryz.prog 34 #[.pointer (some ⟨p, 0, none⟩), .int .i64 n] w fun r w1 => ∃ v d e s', r = .returned (.tuple #[v, .int .i64 e]) ∧ NewB w w1 s' v d ∧ BX N w0 w1 p dp ed q s' ops (κ + 1) m A L D ∧ s'.C = s.C ∧ s'.cnt = s.cnt ∧ s'.σ.sf = s.σ.sf ∧ Fr (Ak s) w w1 ∧ (∀ k, Ak s' k → Ak s k ∨ w.heap.size ≤ k) ∧
      Calls Tryz.prog 68 #[.pointer (some ⟨q, 0, none⟩), .int .i64 n] w1 fun r2 w2 => ∃ xo xc, r2 = .returned (.tuple #[.slice xo d.length xc, .int .i64 e]) ∧ Src w2 xo d ∧ Below w1.heap.size w1 w2 ∧ ∀ b o, xo = some ⟨b, o, none⟩ → w1.heap.size ≤ b := by
  obtain rfl : s.p = p := h.gw.p
  by_cases hout : n < 0 ∨ (N : Int) ≤ n
  · have PR := pread_out h.gw.pm n (by rw [h.gw.dn]; exact hout)
    refine PR.mono ?_
    rintro r w1 ⟨rfl, rfl⟩
    refine ⟨.slice none 0 0, [], 3, s, rfl, .inl ⟨rfl, rfl⟩, h.more (by omega) (Nat.le_refl _), rfl, rfl, rfl, Fr.refl _ _, fun k hk => .inl hk, ?_⟩
    obtain ⟨d, gB, cB, ao, ca, hR, hB, hk⟩ := h.lok
    have hl : (basS N s).length = N := by unfold basS; simp
    refine (rsread_out hR hB n (by
      rw [hl]
      rcases hout with e | e
      · rw [decide_eq_false (by omega)]; rfl
      · rw [decide_eq_false (show ¬ n < (N : Int) by omega)]; simp)).mono ?_
    rintro r w2 ⟨rfl, rfl⟩
    exact ⟨none, 0, rfl, Src.nil _ _, Below.refl _ _, fun b o e => by cases e⟩
  · obtain ⟨n, rfl⟩ : ∃ n' : Nat, n = (n' : Int) := ⟨n.toNat, by omega⟩
    have hn5 : n < N := by omega
    have PR := pread_any h.gw.pm h.gw.pl (by omega) n (by rw [h.gw.dn]; exact hn5)
    refine PR.mono ?_
    rintro r w1 ⟨v, d, pn, σ', rfl, hd, hO, hl, hR, hL, hC, hS⟩
    have hcon := h.cont hn5
    rw [← hd] at hcon
    have hX := h.touched hR hL hC
    have hds : d = conS { s with σ := σ' } n := by
      unfold conS
      show d = lays (σ'.sf n) _
      rw [hC.sf]
      exact hcon
    refine ⟨v, d, 0, { s with σ := σ' }, rfl, .inr ⟨hO, hl, fun k hk hA => ?_⟩, hX, rfl, rfl, hC.sf, hR.fr, hR.sub, ?_⟩
    · rcases hA with hA | hA
      · have h1 : Ak s k := .inl hA
        have h2 := h.gw.pm.lt h1
        have h3 := (Own.lt hO k hk).1
        omega
      · exact hS k hk hA
    · refine (xr_read hX (by omega) hn5).mono ?_
      rintro r w2 ⟨xo, xc, rfl, hs, hl2, hb, hn⟩
      rw [← hds] at hs
      exact ⟨xo, xc, by rw [hl], hs, hb, hn⟩
theorem findI_opn (h : BX N w0 w p dp ed q s ops κ m A L D) (x : Int) : (findI L x 0 < 0) ↔ opn s.C x = false := by
  rcases findI_spec L x 0 with ⟨e, hn⟩ | ⟨j, c, hc, e, e2⟩
  · rw [e]
    refine ⟨fun _ => ?_, fun _ => by omega⟩
    cases ho : opn s.C x with
    | false => rfl
    | true =>
      obtain ⟨c, hc, e3⟩ := opn_iff.1 ho
      obtain ⟨k, hk⟩ := List.mem_iff_getElem?.1 hc
      obtain ⟨r, hr, k1, _⟩ := h.al.of hk
      exact absurd (show (r.id : Int) = x by omega) (hn r (List.mem_of_getElem? hr))
  · refine ⟨fun h => by rw [e2] at h; omega, fun h3 => ?_⟩
    obtain ⟨c', hc', k1, _⟩ := h.al.mem (List.mem_of_getElem? hc)
    have : opn s.C x = true := opn_iff.2 ⟨c', hc', by omega⟩
    rw [this] at h3; cases h3
/-- Both tell the block of a change. -/
theorem xb_block (h : BX N w0 w p dp ed q s ops κ m A L D) (hκ : κ ≤ 900) (x : Int) (hx : -9223372036854775808 ≤ x ∧ x ≤ 9223372036854775807) :
    ∃ u e : Int, (Calls Tryz.prog 46 #[.pointer (some ⟨p, 0, none⟩), .int .i64 x] w fun r w1 => r = .returned (.tuple #[.int .i64 u, .int .i64 e]) ∧ w1 = w) ∧
      ∀ W, Below w.heap.size w W → Calls Tryz.prog 71 #[.pointer (some ⟨q, 0, none⟩), .int .i64 x] W fun r w1 => r = .returned (.tuple #[.int .i64 u, .int .i64 e]) ∧ w1 = W := by
  have hp : s.p = p := h.gw.p
  have hlen : L.length ≤ 1000 := by have := h.len; omega
  have RB : ∀ W, Below w.heap.size w W → Calls Tryz.prog 71 #[.pointer (some ⟨q, 0, none⟩), .int .i64 x] W fun e w' => e = .returned (.tuple #[.int .i64 (if findI L x 0 < 0 then 0 else bAt L (findI L x 0)), .int .i64 (if findI L x 0 < 0 then 20 else 0)]) ∧ w' = W := fun W hW => by
    obtain ⟨d, gB, cB, ao, ca, hR, hB, hk⟩ := (h.up hW).lok
    exact rblock_any hR hlen x
  cases ho : opn s.C x with
  | false =>
    have hf := (findI_opn h x).2 ho
    rw [if_pos hf, if_pos hf] at RB
    have h1 := lkC_opn h.gw.pl.asc x
    rw [ho] at h1
    have PB := pblock_no h.gw.pm x hx (by rw [h.gw.pl.fc]; exact of_decide_eq_true h1)
    rw [hp] at PB
    exact ⟨0, 20, PB, RB⟩
  | true =>
    have hf : ¬ findI L x 0 < 0 := fun e => by rw [(findI_opn h x).1 e] at ho; cases ho
    rw [if_neg hf, if_neg hf] at RB
    obtain ⟨c, hc, rfl⟩ := opn_iff.1 ho
    have hcr := h.gw.pl.idr c hc
    have hcn := h.gw.pl.bd.1
    have PB := pblock_ok h.gw.pm hc (by omega) (by rw [h.gw.pl.fc]; exact lkC_at h.gw.pl.asc hc)
    rw [hp] at PB
    obtain ⟨k, hk⟩ := List.mem_iff_getElem?.1 hc
    obtain ⟨r, hr, k1, k2, _⟩ := h.al.of hk
    have hfk := findI_of h hr
    rw [show (r.id : Int) = (c.id : Int) by omega] at hfk
    have hb : bAt L (findI L (c.id : Int) 0) = (c.b : Int) := by
      rw [hfk]
      unfold bAt
      rw [Int.toNat_natCast, hr]
      show (r.b : Int) = _
      omega
    rw [hb] at RB
    exact ⟨c.b, 0, PB, RB⟩
/-- Both tell whether a change is safe. -/
theorem xb_safe (h : BX N w0 w p dp ed q s ops κ m A L D) (x : Int) (hx : -9223372036854775808 ≤ x ∧ x ≤ 9223372036854775807) :
    ∃ b : Bool, (Calls Tryz.prog 29 #[.pointer (some ⟨p, 0, none⟩), .int .i64 x] w fun r w1 => r = .returned (.bool b) ∧ w1 = w) ∧
      ∀ W, Below w.heap.size w W → Calls Tryz.prog 74 #[.pointer (some ⟨q, 0, none⟩), .int .i64 x] W fun r w1 => r = .returned (.bool b) ∧ w1 = W := by
  have hp : s.p = p := h.gw.p
  have PS := psafe_any h.gw.pm x hx
  rw [hp] at PS
  refine ⟨_, PS, fun W hW => ?_⟩
  obtain ⟨d, gB, cB, ao, ca, hR, hB, hk⟩ := (h.up hW).lok
  have e : decide (1 ≤ x ∧ x ≤ (s.cnt : Int) ∧ s.fC x = 0) = (decide (1 ≤ x) && (decide (x ≤ (s.cnt : Int)) && decide (findI L x 0 < 0))) := by
    have h1 := lkC_opn h.gw.pl.asc x
    rw [h.gw.pl.fc]
    have h3 : (lkC s.C x = 0) ↔ opn s.C x = false := by
      rw [← decide_eq_true_iff (p := lkC s.C x = 0), h1]
      simp
    have h4 : (lkC s.C x = 0) ↔ findI L x 0 < 0 := h3.trans (findI_opn h x).symm
    by_cases a1 : 1 ≤ x <;> by_cases a2 : x ≤ (s.cnt : Int) <;> by_cases a3 : lkC s.C x = 0
    all_goals (have a4 := a3; rw [h4] at a4; simp [a1, a2, a3, a4])
  rw [e]
  exact rsafe_any hR hk.len x
/-- How many are open. -/
theorem xb_open (h : BX N w0 w p dp ed q s ops κ m A L D) :
    (Calls Tryz.prog 32 #[.pointer (some ⟨p, 0, none⟩)] w fun r w1 => r = .returned (.int .i64 (L.length : Int)) ∧ w1 = w) ∧ ∃ ao ca, w.cell? ⟨q, 2, none⟩ = some (.slice ao L.length ca) := by
  have hp : s.p = p := h.gw.p
  have PO := popen_any h.gw.pm
  rw [hp, h.gw.pl.kc] at PO
  have e : (cids s.C).length = L.length := by unfold cids; rw [List.length_map]; exact h.al.len.symm
  rw [e] at PO
  obtain ⟨d, gB, cB, ao, ca, hR, hB, hk⟩ := h.lok
  exact ⟨PO, ao, ca, hR.c2⟩
end
end Go.Proofs.YthaogbbclocmaaaGreat
/- Both stores are asked: Image, Ready, Dirty. -/
namespace Go.Proofs.YthaogbbclocmaaaGreat
open Go.RowKit
set_option maxRecDepth 100000
section
variable {N : Nat} {w0 w w' : World} {p dp ed q : Nat} {s : PSt} {ops : Nat → List Int} {κ m : Nat} {A : Nat → List Int} {L : List RCh} {D : Nat → Prop}
set_option maxHeartbeats 2000000 in
theorem pimage_none {base : Nat} (h : PM w base s ops) (hL : PL s ops [] κ) (hκ : κ ≤ 30000) (n : Nat) (hn : n < s.σ.dn) (hf : s.fB n = 0) :
    Calls Tryz.prog 69 #[.pointer (some ⟨s.p, 0, none⟩), .int .i64 (n : Int)] w fun r w' => ∃ v d pn σ', r = .returned (.tuple #[v, .int .i64 0]) ∧ (d, pn) = (ent s.σ.L n).getD (lst s.σ n, 0) ∧ Own w' w.heap.size v d ∧ d.length = 256 ∧ PRun base s w { s with σ := σ' } ops w' ∧ PL { s with σ := σ' } ops [] (κ + 1) ∧ CRel s.σ σ' n (some (d, pn)) ∧ (∀ k, v.ownBlock = some k → ¬ Sk σ' k) := by
  have RD := pread_any h hL (by omega) n hn
  have hdn := hL.mdn
  clear h hL
  go_enter Tryz.func69, Tryz.ntmps69
  go_wp2_with (go_at_call 34; refine Hid.out ?_)
  change Calls _ _ _ _ _
  refine RD.mono ?_
  clear RD
  rintro r w1 ⟨v, d, pn, σ', rfl, hd, hO, hdl, hR, hL1, hC, hS⟩
  have LK := hR.pm.lookB (n : Int) (by omega)
  dsimp only at LK
  rw [hf] at LK
  simp only [ptrV] at LK
  have c4 := hR.pm.c4
  have HX : Hid ((d, pn) = (ent s.σ.L n).getD (lst s.σ n, 0) ∧ Own w1 w.heap.size v d ∧ d.length = 256 ∧ PRun base s w { s with σ := σ' } ops w1 ∧ PL { s with σ := σ' } ops [] (κ + 1) ∧ CRel s.σ σ' n (some (d, pn)) ∧ (∀ k, v.ownBlock = some k → ¬ Sk σ' k)) := ⟨hd, hO, hdl, hR, hL1, hC, hS⟩
  dsimp only at c4
  clear hd hO hdl hR hL1 hC hS
  go_wp2
  go_ret2
  exact ⟨v, d, pn, σ', rfl, HX.out⟩
set_option maxHeartbeats 1000000 in
theorem pimage_out (h : PM w w0.heap.size s ops) (b : Int) (hb : b < 0 ∨ (s.σ.dn : Int) ≤ b) :
    Calls Tryz.prog 69 #[.pointer (some ⟨s.p, 0, none⟩), .int .i64 b] w fun r w' => r = .returned (.tuple #[.slice none 0 0, .int .i64 3]) ∧ w' = w := by
  have RD := pread_out h b hb
  clear h
  go_enter Tryz.func69, Tryz.ntmps69
  go_wp2_with (go_at_call 34; refine Hid.out ?_)
  change Calls _ _ _ _ _
  refine RD.mono ?_
  clear RD
  rintro r w1 ⟨rfl, rfl⟩
  go_wp2
  go_ret2
  exact ⟨rfl, rfl⟩
/-- What may be written of a block. -/
def imgS (s : PSt) (n : Nat) : List UInt8 := lays (s.σ.sf n) (pickC (ofB s.C n) (alw s.C n))
theorem xr_image (h : BX N w0 w p dp ed q s ops κ m A L D) {n : Nat} (hn : n < N) :
    Calls Tryz.prog 70 #[.pointer (some ⟨q, 0, none⟩), .int .i64 (n : Int)] w fun r w' => ∃ xo xc, r = .returned (.tuple #[.slice xo 256 xc, .int .i64 0]) ∧ Src w' xo (imgS s n) ∧ (imgS s n).length = 256 ∧ Below w.heap.size w w' := by
  obtain ⟨d, gB, cB, ao, ca, hR, hB, hk⟩ := h.lok
  have hb0 : (basS N s)[n]? = some (s.σ.sf n) := by unfold basS; rw [List.getElem?_map, List.getElem?_range hn]; rfl
  have hu : ∀ c ∈ L, c.fr + c.d.length ≤ 256 ∧ 0 < c.d.length := fun c hc => ⟨(h.fitN c hc).1, (h.fitN c hc).2.1⟩
  have e : laidR (mayV s.C L n) L 0 (s.σ.sf n) = imgS s n := laidR_lays (A := A) s.C L _ (alw s.C n) n 0 _ h.al (fun i r hr => by rw [Nat.zero_add]; exact mayV_at hr) (alw_b h.gw.pl.asc)
  refine (rimage_any hR hB hk hu n _ hb0 (mayV s.C L n) (h.al.may h.pa h.gw.pl n) (h.al.ahead h.pa h.gw.pl)).mono ?_
  rintro r w' ⟨xo, xc, rfl, ha, hl, hb, _⟩
  rw [e] at ha hl
  exact ⟨xo, xc, rfl, ha.src, hl, hb⟩
/-- A slice of 256 bytes in a row of its own, or none: what may be spoilt. -/
def NewI (w w1 : World) (s : PSt) (v : Value) (d : List UInt8) : Prop := NewB w w1 s v d ∨ ∃ g, v = .slice (some ⟨g, 0, none⟩) 256 256 ∧ Blk w1 g 131 d ∧ d.length = 256 ∧ w.heap.size ≤ g ∧ ¬ Ak s g
/-- Both images. -/
theorem xb_image (h : BX N w0 w p dp ed q s ops κ m A L D) (hκ : κ ≤ 900) (n : Int) :
    Calls Tryz.prog 69 #[.pointer (some ⟨p, 0, none⟩), .int .i64 n] w fun r w1 => ∃ v d e s', r = .returned (.tuple #[v, .int .i64 e]) ∧ NewI w w1 s' v d ∧ BX N w0 w1 p dp ed q s' ops (κ + 1) m A L D ∧ s'.C = s.C ∧ s'.cnt = s.cnt ∧ Fr (Ak s) w w1 ∧ (∀ k, Ak s' k → Ak s k ∨ w.heap.size ≤ k) ∧
      Calls Tryz.prog 70 #[.pointer (some ⟨q, 0, none⟩), .int .i64 n] w1 fun r2 w2 => ∃ xo xc, r2 = .returned (.tuple #[.slice xo d.length xc, .int .i64 e]) ∧ Src w2 xo d ∧ Below w1.heap.size w1 w2 := by
  obtain rfl : s.p = p := h.gw.p
  by_cases hout : n < 0 ∨ (N : Int) ≤ n
  · refine (pimage_out h.gw.pm n (by rw [h.gw.dn]; exact hout)).mono ?_
    rintro r w1 ⟨rfl, rfl⟩
    refine ⟨.slice none 0 0, [], 3, s, rfl, .inl (.inl ⟨rfl, rfl⟩), h.more (by omega) (Nat.le_refl _), rfl, rfl, Fr.refl _ _, fun k hk => .inl hk, ?_⟩
    obtain ⟨d, gB, cB, ao, ca, hR, hB, hk⟩ := h.lok
    have hl : (basS N s).length = N := by unfold basS; simp
    refine (rimage_out hR hB n (by
      rw [hl]
      rcases hout with e | e
      · rw [decide_eq_false (by omega)]; rfl
      · rw [decide_eq_false (show ¬ n < (N : Int) by omega)]; simp)).mono ?_
    rintro r w2 ⟨rfl, rfl⟩
    exact ⟨none, 0, rfl, Src.nil _ _, Below.refl _ _⟩
  · obtain ⟨n, rfl⟩ : ∃ n' : Nat, n = (n' : Int) := ⟨n.toNat, by omega⟩
    have hn5 : n < N := by omega
    by_cases hc : ∃ c ∈ s.C, c.b = n
    · obtain ⟨c, hc, e⟩ := hc
      obtain ⟨b, hb, hbn⟩ := h.gw.pl.cb c hc
      have hbn' : b.n = n := by omega
      have hsf := h.gw.pl.sfb b hb
      rw [if_neg (by simp), hbn'] at hsf
      refine (pimage_any h.gw.pm h.gw.pl (by omega) n (by rw [h.gw.dn]; exact hn5) hb hbn').mono ?_
      rintro r w1 ⟨g, σ', d, pn, rfl, hg, hgl, hR, hL, hd, hC, hA⟩
      have hX := h.touched hR hL hC
      have himg : lays b.ba (pickC (ofB s.C n) (alw s.C n)) = imgS { s with σ := σ' } n := by
        unfold imgS
        show _ = lays (σ'.sf n) _
        rw [hC.sf, hsf]
      rw [himg] at hg
      have hl2 : (imgS { s with σ := σ' } n).length = 256 := by
        unfold imgS
        refine lays_length ?_ (fun c hc => (h.gw.pl.ft c (List.mem_filter.1 (List.mem_filter.1 hc).1).1).1)
        show (σ'.sf n).length = 256
        rw [hC.sf, hsf]
        exact (h.gw.pl.bal b hb).1
      refine ⟨_, imgS { s with σ := σ' } n, 0, { s with σ := σ' }, rfl, .inr ⟨g, rfl, hg, hl2, hgl, hA⟩, hX, rfl, rfl, hR.fr, hR.sub, ?_⟩
      refine (xr_image hX hn5).mono ?_
      rintro r w2 ⟨xo, xc, rfl, hs, _, hb2⟩
      exact ⟨xo, xc, by rw [hl2], hs, hb2⟩
    · obtain ⟨hfB, _, hof⟩ := h.clean hn5 hc
      refine (pimage_none h.gw.pm h.gw.pl (by omega) n (by rw [h.gw.dn]; exact hn5) hfB).mono ?_
      rintro r w1 ⟨v, d, pn, σ', rfl, hd, hO, hl, hR, hL, hC, hS⟩
      have hcon := h.cont hn5
      rw [← hd] at hcon
      have hX := h.touched hR hL hC
      have hds : d = imgS { s with σ := σ' } n := by
        unfold imgS
        show d = lays (σ'.sf n) (pickC (ofB s.C n) (alw s.C n))
        rw [hC.sf, hof]
        have : d = conS s n := hcon
        rw [this]
        unfold conS
        rw [hof]
        rfl
      refine ⟨v, d, 0, { s with σ := σ' }, rfl, .inl (.inr ⟨hO, hl, fun k hk hA => ?_⟩), hX, rfl, rfl, hR.fr, hR.sub, ?_⟩
      · rcases hA with hA | hA
        · have h1 : Ak s k := .inl hA
          have h2 := h.gw.pm.lt h1
          have h3 := (Own.lt hO k hk).1
          omega
        · exact hS k hk hA
      · refine (xr_image hX hn5).mono ?_
        rintro r w2 ⟨xo, xc, rfl, hs, _, hb2⟩
        rw [← hds] at hs
        exact ⟨xo, xc, by rw [hl], hs, hb2⟩
set_option maxHeartbeats 1000000 in
theorem pready_out {base : Nat} (h : PM w base s ops) (b : Int) (hb : b < 0 ∨ (s.σ.dn : Int) ≤ b) :
    Calls Tryz.prog 72 #[.pointer (some ⟨s.p, 0, none⟩), .int .i64 b] w fun r w' => r = .returned (.int .i64 0) ∧ Below w.heap.size w w' := by
  have RC := preach_any h b
  rw [if_pos hb] at RC
  clear h
  go_enter Tryz.func72, Tryz.ntmps72
  go_wp2_with (first | (go_at_call 82; refine RC.mono ?_; rintro e w1 ⟨rfl, hw1⟩; obtain rfl : w = w1 := hw1.symm))
  go_ret
  exact ⟨rfl, Below.refl _ _⟩
set_option maxHeartbeats 1000000 in
theorem pready_none {base : Nat} (h : PM w base s ops) (n : Nat) (hn : n < s.σ.dn) (hdn : s.σ.dn ≤ 4096) (hf : s.fB n = 0) :
    Calls Tryz.prog 72 #[.pointer (some ⟨s.p, 0, none⟩), .int .i64 (n : Int)] w fun r w' => r = .returned (.int .i64 0) ∧ Below w.heap.size w w' := by
  have RC := preach_any h (n : Int)
  rw [if_neg (by omega)] at RC
  have LK := h.lookB (n : Int) (by omega)
  rw [hf] at LK
  simp only [ptrV] at LK
  have c4 := h.c4
  clear h
  go_enter Tryz.func72, Tryz.ntmps72
  go_wp2_with (first | (go_at_call 82; refine RC.mono ?_; rintro e w1 ⟨rfl, hw1⟩; obtain rfl : w = w1 := hw1.symm))
  go_ret
  exact ⟨rfl, Below.refl _ _⟩
theorem rdyR_len : ∀ (C : List Ch) (L : List RCh) (V : Nat → Bool) (al : List Int) (n k a : Nat), Alike C L A → (∀ i r, L[i]? = some r → V (k + i) = decide ((r.id : Int) ∈ al)) → (∀ c ∈ C, (c.id : Int) ∈ al → c.b = n) → rdyR V L k a = a + (nwr (pickC (ofB C n) al)).length
  | [], L, _, _, _, _, _, h, _, _ => by
    have hl := h.len
    obtain rfl : L = [] := List.eq_nil_of_length_eq_zero hl
    rfl
  | c :: C, [], _, _, _, _, _, h, _, _ => by have hl := h.len; cases hl
  | c :: C, r :: L, V, al, n, k, a, h, hV, hb => by
    have h1 : absR r = absC A c ∧ L.map absR = C.map (absC A) := by
      have h0 : absR r :: L.map absR = absC A c :: C.map (absC A) := h
      exact ⟨(List.cons.inj h0).1, (List.cons.inj h0).2⟩
    have ih := fun y => rdyR_len C L V al n (k + 1) y h1.2 (fun i r' hr' => by have := hV (i + 1) r' hr'; rw [← this]; congr 1; omega) (fun c hc => hb c (by simp [hc]))
    have hv := hV 0 r rfl
    rw [Nat.add_zero] at hv
    have h2 := h1.1
    unfold absR absC at h2
    simp only [Prod.mk.injEq] at h2
    obtain ⟨a1, a2, _, _, a5, _⟩ := h2
    unfold rdyR
    rw [ih, hv, a1, a5]
    by_cases hm : (c.id : Int) ∈ al
    · have hcb := hb c (by simp) hm
      have e : pickC (ofB (c :: C) n) al = c :: pickC (ofB C n) al := by
        unfold pickC ofB
        rw [List.filter_cons_of_pos (by simpa using hcb), List.filter_cons_of_pos (by simpa using hm)]
      rw [decide_eq_true hm, e]
      unfold nwr
      cases hw : c.wr with
      | true => rw [List.filter_cons_of_neg (by simp [hw])]; simp
      | false => rw [List.filter_cons_of_pos (by simp [hw])]; simp; omega
    · rw [decide_eq_false hm]
      have e : pickC (ofB (c :: C) n) al = pickC (ofB C n) al := by
        unfold pickC ofB
        by_cases hcb : c.b = n
        · rw [List.filter_cons_of_pos (by simpa using hcb), List.filter_cons_of_neg (by simpa using hm)]
        · rw [List.filter_cons_of_neg (by simpa using hcb)]
      rw [e]
      simp
theorem rdyR_false : ∀ (L : List RCh) (k a : Nat), rdyR (fun _ => false) L k a = a
  | [], _, _ => rfl
  | c :: L, k, a => by unfold rdyR; rw [rdyR_false]; simp
/-- How many may be written, of both. -/
theorem xb_ready (h : BX N w0 w p dp ed q s ops κ m A L D) (hκ : κ ≤ 900) (n : Int) :
    Calls Tryz.prog 72 #[.pointer (some ⟨p, 0, none⟩), .int .i64 n] w fun r w1 => ∃ k : Int, r = .returned (.int .i64 k) ∧ Below w.heap.size w w1 ∧
      ∀ W, Below w1.heap.size w1 W → Calls Tryz.prog 73 #[.pointer (some ⟨q, 0, none⟩), .int .i64 n] W fun r2 w2 => r2 = .returned (.int .i64 k) ∧ Below W.heap.size W w2 := by
  obtain rfl : s.p = p := h.gw.p
  have hN8 := h.gw.le8
  have doc0 : ∀ W, Below w.heap.size w W → (∀ c ∈ L, ¬ (c.b : Int) = n) → Calls Tryz.prog 73 #[.pointer (some ⟨q, 0, none⟩), .int .i64 n] W fun r2 w2 => r2 = .returned (.int .i64 0) ∧ Below W.heap.size W w2 := fun W hW hno => by
    obtain ⟨d, gB, cB, ao, ca, hR, hB, hk⟩ := (h.up hW).lok
    refine (rready_any hR hk n (fun _ => false) (fun i c hc => by rw [decide_eq_false (hno c (List.mem_of_getElem? hc))]; rfl) (h.al.ahead h.pa h.gw.pl)).mono ?_
    rintro r w2 ⟨rfl, hb⟩
    rw [rdyR_false]
    exact ⟨rfl, hb⟩
  by_cases hout : n < 0 ∨ (N : Int) ≤ n
  · refine (pready_out h.gw.pm n (by rw [h.gw.dn]; exact hout)).mono ?_
    rintro r w1 ⟨rfl, hb⟩
    refine ⟨0, rfl, hb, fun W hW => doc0 W (hb.trans (hW.mono hb.size)) fun c hc e => ?_⟩
    have := (h.fitN c hc).2.2
    omega
  · obtain ⟨n, rfl⟩ : ∃ n' : Nat, n = (n' : Int) := ⟨n.toNat, by omega⟩
    have hn5 : n < N := by omega
    by_cases hc : ∃ c ∈ s.C, c.b = n
    · obtain ⟨c, hc, e⟩ := hc
      obtain ⟨b, hb, hbn⟩ := h.gw.pl.cb c hc
      refine (pready_any h.gw.pm h.gw.pl (by omega) n (by rw [h.gw.dn]; exact hn5) hb (by omega)).mono ?_
      rintro r w1 ⟨rfl, hb1⟩
      refine ⟨_, rfl, hb1, fun W hW => ?_⟩
      obtain ⟨d, gB, cB, ao, ca, hR, hB, hk⟩ := (h.up (hb1.trans (hW.mono hb1.size))).lok
      refine (rready_any hR hk (n : Int) (mayV s.C L n) (h.al.may h.pa h.gw.pl n) (h.al.ahead h.pa h.gw.pl)).mono ?_
      rintro r w2 ⟨rfl, hb2⟩
      rw [rdyR_len (A := A) s.C L (mayV s.C L n) (alw s.C n) n 0 0 h.al (fun i r hr => by rw [Nat.zero_add]; exact mayV_at hr) (alw_b h.gw.pl.asc), Nat.zero_add]
      exact ⟨rfl, hb2⟩
    · obtain ⟨hfB, _, hof⟩ := h.clean hn5 hc
      refine (pready_none h.gw.pm n (by rw [h.gw.dn]; exact hn5) (by rw [h.gw.dn]; omega) hfB).mono ?_
      rintro r w1 ⟨rfl, hb⟩
      refine ⟨0, rfl, hb, fun W hW => doc0 W (hb.trans (hW.mono hb.size)) fun c hc' e => ?_⟩
      obtain ⟨c2, hc2, _, k2, _⟩ := h.al.mem hc'
      exact hc ⟨c2, hc2, by omega⟩
theorem dirR_mem (L : List RCh) : ∀ (k : Nat) (x : Int), x ∈ dirR L k ↔ ∃ n : Nat, x = (n : Int) ∧ n < k ∧ hasR L n = true
  | 0, x => by simp [dirR]
  | k + 1, x => by
    have ih := dirR_mem L k x
    unfold dirR
    cases hk : hasR L k with
    | true =>
      rw [if_pos rfl, List.mem_append, ih]
      constructor
      · rintro (⟨n, h1, h2, h3⟩ | h1)
        · exact ⟨n, h1, by omega, h3⟩
        · exact ⟨k, List.mem_singleton.1 h1, by omega, hk⟩
      · rintro ⟨n, h1, h2, h3⟩
        by_cases e : n = k
        · exact .inr (by rw [h1, e]; simp)
        · exact .inl ⟨n, h1, by omega, h3⟩
    | false =>
      rw [if_neg (by simp), ih]
      constructor
      · rintro ⟨n, h1, h2, h3⟩
        exact ⟨n, h1, by omega, h3⟩
      · rintro ⟨n, h1, h2, h3⟩
        by_cases e : n = k
        · rw [e, hk] at h3; cases h3
        · exact ⟨n, h1, by omega, h3⟩
theorem dirR_asc (L : List RCh) : ∀ k, (dirR L k).Pairwise (· < ·)
  | 0 => by simp [dirR]
  | k + 1 => by
    have ih := dirR_asc L k
    unfold dirR
    split
    · rw [List.pairwise_append]
      refine ⟨ih, by simp, fun a ha b hb => ?_⟩
      obtain ⟨n, h1, h2, _⟩ := (dirR_mem L k a).1 ha
      rw [List.mem_singleton.1 hb]
      omega
    · exact ih
theorem lt_of_le_nodup {l : List Int} (h : l.Pairwise (· ≤ ·)) (hn : l.Nodup) : l.Pairwise (· < ·) := by
  refine List.Pairwise.imp (R := fun a b => a ≤ b ∧ a ≠ b) (fun ⟨h1, h2⟩ => by omega) ?_
  exact List.Pairwise.and h hn
/-- The dirty blocks of both. -/
theorem xb_dirty (h : BX N w0 w p dp ed q s ops κ m A L D) :
    Calls Tryz.prog 33 #[.pointer (some ⟨p, 0, none⟩)] w fun r w1 => ∃ v xs, r = .returned v ∧ OwnI w1 w.heap.size v xs ∧ xs.length ≤ 8 ∧ (∀ x ∈ xs, 0 ≤ x ∧ x < (N : Int)) ∧ Below w.heap.size w w1 ∧
      ∀ W, Below w1.heap.size w1 W → Calls Tryz.prog 75 #[.pointer (some ⟨q, 0, none⟩)] W fun r2 w2 => ∃ v2, r2 = .returned v2 ∧ OwnI w2 W.heap.size v2 xs ∧ Below W.heap.size W w2 := by
  obtain rfl : s.p = p := h.gw.p
  have hnd : s.kB.Nodup := by
    rw [h.gw.pl.kb]
    unfold bns
    have := h.gw.pl.bn
    rw [show (fun b : Bk => (b.n : Int)) = (fun x : Nat => (x : Int)) ∘ (fun b : Bk => b.n) from rfl, ← List.map_map]
    exact List.Pairwise.map _ (fun a b hab e => hab (by omega)) this
  have hlen : s.kB.length ≤ 8 := by
    rw [h.gw.pl.kb]
    have e : (bns s.B).length = (s.B.map (·.n)).length := by unfold bns; simp
    rw [e]
    exact nodup_len 8 _ h.gw.pl.bn fun x hx => by
      obtain ⟨b, hb, rfl⟩ := List.mem_map.1 hx
      have h1 := h.gw.pl.bdn b hb
      have h2 := h.gw.pl.mdn
      show b.n < 8
      omega
  refine (pdirty_any h.gw.pm (by omega)).mono ?_
  rintro r w1 ⟨v, ss, rfl, hO, hP, hle, hb⟩
  have hm : ∀ x, x ∈ ss ↔ ∃ b ∈ s.B, x = (b.n : Int) := fun x => by
    rw [hP.mem_iff, h.gw.pl.kb]
    unfold bns
    simp [eq_comm]
  have hlt := lt_of_le_nodup hle (hP.nodup_iff.2 hnd)
  have hl : (basS N s).length = N := by unfold basS; simp
  have hss : ss = dirR L N := by
    refine sorted_ext hlt (dirR_asc L N) fun x => ?_
    rw [hm, dirR_mem]
    constructor
    · rintro ⟨b, hb', rfl⟩
      have h1 := h.gw.pl.bdn b hb'
      rw [h.gw.dn] at h1
      obtain ⟨c, hc, e⟩ := h.gw.pl.bc b hb' (by simp)
      exact ⟨b.n, rfl, h1, (alike_any h.al b.n).2 ⟨c, hc, e⟩⟩
    · rintro ⟨n, rfl, _, hn⟩
      obtain ⟨c, hc, e⟩ := (alike_any h.al n).1 hn
      obtain ⟨b, hb', e2⟩ := h.gw.pl.cb c hc
      exact ⟨b, hb', by omega⟩
  refine ⟨v, ss, rfl, hO, by rw [hP.length_eq]; exact hlen, fun x hx => ?_, hb, fun W hW => ?_⟩
  · obtain ⟨b, hb', rfl⟩ := (hm x).1 hx
    have h1 := h.gw.pl.bdn b hb'
    rw [h.gw.dn] at h1
    omega
  · obtain ⟨d, gB, cB, ao, ca, hR, hB, hk⟩ := (h.up (hb.trans (hW.mono hb.size))).lok
    refine (rdirty_any hR hB hk.len).mono ?_
    rintro r w2 ⟨v2, rfl, hO2, hb2⟩
    rw [hl, ← hss] at hO2
    exact ⟨v2, rfl, hO2, hb2⟩
end
end Go.Proofs.YthaogbbclocmaaaGreat
/- Spoil of a slice of any row of bytes; equal lists of numbers. -/
namespace Go.Proofs.YthaogbbclocmaaaGreat
open Go.RowKit
set_option maxRecDepth 100000
/-- A slice whose bytes may be spoilt. -/
def SpB (w : World) (v : Value) (n : Nat) : Prop := (v = .slice none 0 0 ∧ n = 0) ∨ ∃ (g cap : Nat) (ty : TypeId) (arr : Array Value), v = .slice (some ⟨g, 0, none⟩) n cap ∧ w.heap[g]? = some (.cells arr ty (0, 0)) ∧ ∀ j, j < n → ∃ x : UInt8, arr[j]? = some (bv x)
theorem SpB.fr {w w' : World} {v : Value} {n : Nat} (h : SpB w v n) {S : Nat → Prop} (hf : Fr S w w') (hS : ∀ k, v.ownBlock = some k → ¬ S k) : SpB w' v n := by
  rcases h with h | ⟨g, cap, ty, arr, rfl, hg, hx⟩
  · exact .inl h
  · exact .inr ⟨g, cap, ty, arr, rfl, (hf.blk g (Array.getElem?_eq_some_iff.1 hg).1 (hS g rfl)).trans hg, hx⟩
theorem SpB.of_own {w : World} {base : Nat} {v : Value} {d : List UInt8} (h : Own w base v d) : SpB w v d.length := by
  obtain ⟨h1, h2⟩ := h
  rcases h2 with ⟨rfl, h3⟩ | ⟨g, cap, cur, rfl, hg, hh, hn, hm, hs, hx⟩
  · exact .inl ⟨rfl, h3⟩
  · refine .inr ⟨g, cap, 5, cur, rfl, hh, fun j hj => ⟨d[j], ?_⟩⟩
    have e : (cur.toList.take (d.length * 1))[j]? = (bvs d)[j]? := by rw [hx]
    rw [List.getElem?_take, if_pos (by omega)] at e
    rw [← Array.getElem?_toList, e]
    simp [bvs, hj]
theorem SpB.of_blk {w : World} {g : Nat} {ty : TypeId} {d : List UInt8} (h : Blk w g ty d) (hl : d.length = 256) : SpB w (.slice (some ⟨g, 0, none⟩) 256 256) 256 :=
  .inr ⟨g, 256, ty, (bvs d).toArray, rfl, h, fun j hj => ⟨d[j], by simp [bvs, hl, hj]⟩⟩
set_option maxHeartbeats 2000000 in
theorem spoilX_any {w : World} {v : Value} {n : Nat} (h : SpB w v n) (hn : n ≤ 140737488355328) : Calls Tryz.prog 67 #[v] w fun e w' => e = .returned (.tuple #[]) ∧ Fr (fun k => v.ownBlock = some k) w w' := by
  rcases h with ⟨rfl, rfl⟩ | ⟨g, cap, ty, arr, rfl, hg, hx⟩
  · go_enter Tryz.func67, Tryz.ntmps67
    go_wp2
    refine wp_loop_rounds 1 ?_
    rw [rounds_succ]; go_wp2
    go_end0
    exact ⟨rfl, Fr.refl _ _⟩
  · have HG : Hid (w.heap[g]? = some (.cells arr ty (0, 0)) ∧ ∀ j, j < n → ∃ x : UInt8, arr[j]? = some (bv x)) := ⟨hg, hx⟩
    have hn' : (n : Int) ≤ 140737488355328 := by omega
    clear hg hx
    go_enter Tryz.func67, Tryz.ntmps67
    go_wp2_with fail
    go_loopg [2] n (fun gg t2 W => ∃ (gw : World) (k : Nat) (ar : Array Value), gw = W ∧ t2 = .int .i64 k ∧ k ≤ n ∧ n - k ≤ gg ∧ Hid (gw.heap[g]? = some (.cells ar ty (0, 0)) ∧ (∀ j, j < n → ∃ x : UInt8, ar[j]? = some (bv x)) ∧ Fr (fun j => j = g) w gw))
    case atStart => exact ⟨_, 0, arr, rfl, rfl, by omega, by omega, HG.out.1, HG.out.2, Fr.refl _ _⟩
    case round =>
      obtain ⟨gw, k, ar, rfl, rfl, hk, hgk, H⟩ := hrel
      clear HG
      by_cases hlt : (k : Int) < (n : Int)
      · obtain ⟨x, hx⟩ := H.out.2.1 k (by omega)
        have c0 : gw.cell? ⟨g, k, none⟩ = some (bv x) := (cell_of_row _ _ _ _ _ _ H.out.1).trans hx
        have f0 : gw.frozen? ⟨g, k, none⟩ = false := frozen_of_row _ _ _ _ _ H.out.1
        have H2 : Hid ((gw.setCell ⟨g, k, none⟩ (bv 90)).heap[g]? = some (.cells (ar.setIfInBounds k (bv 90)) ty (0, 0)) ∧ (∀ j, j < n → ∃ x : UInt8, (ar.setIfInBounds k (bv 90))[j]? = some (bv x)) ∧ Fr (fun j => j = g) w (gw.setCell ⟨g, k, none⟩ (bv 90))) := by
          refine ⟨heap_setCell_same gw g k _ _ _ H.out.1, fun j hj => ?_, H.out.2.2.setCell g k _ rfl⟩
          rw [Array.getElem?_setIfInBounds]
          split
          · rename_i e
            subst e
            split
            · exact ⟨90, rfl⟩
            · rename_i hs
              obtain ⟨y, hy⟩ := H.out.2.1 k hj
              exact absurd (Array.getElem?_eq_some_iff.1 hy).1 hs
          · exact H.out.2.1 j hj
        unfold bv at c0
        clear hx
        go_wp2_with fail
        go_roundg (n - (k + 1))
        case measure => omega
        case rel => exact ⟨_, k + 1, _, rfl, by go_num, by omega, by omega, H2.out⟩
      · go_wp2_with fail
        go_end0
        exact ⟨rfl, H.out.2.2.mono fun k _ e => by rw [e]; rfl⟩
set_option maxHeartbeats 2000000 in
theorem eqInts_any {w : World} {ao bo : Option Addr} {l : List Int} (h : SrcI w ao l) (h2 : SrcI w bo l) (hl : l.length ≤ 1000) (cap cap2 : Nat) :
    Calls Tryz.prog 19 #[.slice ao l.length cap, .slice bo l.length cap2] w fun e w' => e = .returned (.bool true) ∧ Below w.heap.size w w' := by
  have HH : Hid (SrcI w ao l ∧ SrcI w bo l) := ⟨h, h2⟩
  have hl' : (l.length : Int) ≤ 1000 := by omega
  clear h h2
  go_enter Tryz.func19, Tryz.ntmps19
  go_wp2_with fail
  go_loopg [5] l.length (fun gg t5 W => ∃ (gw : World) (k : Nat), gw = W ∧ t5 = .int .i64 k ∧ k ≤ l.length ∧ l.length - k ≤ gg ∧ Hid (Below w.heap.size w gw))
  case atStart => exact ⟨_, 0, rfl, rfl, by omega, by omega, Below.refl _ _⟩
  case round =>
    obtain ⟨gw, k, rfl, rfl, hk, hgk, HG⟩ := hrel
    by_cases hlt : (k : Int) < (l.length : Int)
    · have hkl : k < l.length := by omega
      obtain ⟨g, o, e1, d0⟩ : ∃ g o, ao = some ⟨g, o, none⟩ ∧ gw.cell? ⟨g, o + k, none⟩ = some (.int .i64 (l.getD k 0)) := by
        rcases HH.out.1 with e | ⟨b, o, e, hb, hc⟩
        · rw [e] at hkl; cases hkl
        · exact ⟨b, o, e, (HG.out.cell (p := ⟨b, o + k, none⟩) hb).trans (hc k hkl)⟩
      obtain ⟨g2, o2, e2, d2⟩ : ∃ g o, bo = some ⟨g, o, none⟩ ∧ gw.cell? ⟨g, o + k, none⟩ = some (.int .i64 (l.getD k 0)) := by
        rcases HH.out.2 with e | ⟨b, o, e, hb, hc⟩
        · rw [e] at hkl; cases hkl
        · exact ⟨b, o, e, (HG.out.cell (p := ⟨b, o + k, none⟩) hb).trans (hc k hkl)⟩
      subst e1 e2
      generalize l.getD k 0 = x at *
      clear hkl
      go_upto_region 6 with fail
      go_quiet (fail)
      have HGN : Hid (Below w.heap.size w (gw.drewN nq)) := HG.out.trans ((belowN (Below.refl _ _) nq).mono HG.out.size)
      go_wp2_with fail
      go_roundg (l.length - (k + 1))
      case measure => omega
      case rel => exact ⟨_, k + 1, rfl, by go_num, by omega, by omega, HGN.out⟩
    · go_wp2_with fail
      go_ret
      exact ⟨rfl, HG.out⟩
set_option maxHeartbeats 2000000 in
theorem eqLongs_any {w : World} {ao bo : Option Addr} {l : List Int} (h : SrcI w ao l) (h2 : SrcI w bo l) (hl : l.length ≤ 1000) (cap cap2 : Nat) :
    Calls Tryz.prog 76 #[.slice ao l.length cap, .slice bo l.length cap2] w fun e w' => e = .returned (.bool true) ∧ Below w.heap.size w w' := by
  have HH : Hid (SrcI w ao l ∧ SrcI w bo l) := ⟨h, h2⟩
  have hl' : (l.length : Int) ≤ 1000 := by omega
  clear h h2
  go_enter Tryz.func76, Tryz.ntmps76
  go_wp2_with fail
  go_loopg [5] l.length (fun gg t5 W => ∃ (gw : World) (k : Nat), gw = W ∧ t5 = .int .i64 k ∧ k ≤ l.length ∧ l.length - k ≤ gg ∧ Hid (Below w.heap.size w gw))
  case atStart => exact ⟨_, 0, rfl, rfl, by omega, by omega, Below.refl _ _⟩
  case round =>
    obtain ⟨gw, k, rfl, rfl, hk, hgk, HG⟩ := hrel
    by_cases hlt : (k : Int) < (l.length : Int)
    · have hkl : k < l.length := by omega
      obtain ⟨g, o, e1, d0⟩ : ∃ g o, ao = some ⟨g, o, none⟩ ∧ gw.cell? ⟨g, o + k, none⟩ = some (.int .i64 (l.getD k 0)) := by
        rcases HH.out.1 with e | ⟨b, o, e, hb, hc⟩
        · rw [e] at hkl; cases hkl
        · exact ⟨b, o, e, (HG.out.cell (p := ⟨b, o + k, none⟩) hb).trans (hc k hkl)⟩
      obtain ⟨g2, o2, e2, d2⟩ : ∃ g o, bo = some ⟨g, o, none⟩ ∧ gw.cell? ⟨g, o + k, none⟩ = some (.int .i64 (l.getD k 0)) := by
        rcases HH.out.2 with e | ⟨b, o, e, hb, hc⟩
        · rw [e] at hkl; cases hkl
        · exact ⟨b, o, e, (HG.out.cell (p := ⟨b, o + k, none⟩) hb).trans (hc k hkl)⟩
      subst e1 e2
      generalize l.getD k 0 = x at *
      clear hkl
      go_upto_region 6 with fail
      go_quiet (fail)
      have HGN : Hid (Below w.heap.size w (gw.drewN nq)) := HG.out.trans ((belowN (Below.refl _ _) nq).mono HG.out.size)
      go_wp2_with fail
      go_roundg (l.length - (k + 1))
      case measure => omega
      case rel => exact ⟨_, k + 1, rfl, by go_num, by omega, by omega, HGN.out⟩
    · go_wp2_with fail
      go_ret
      exact ⟨rfl, HG.out⟩
end Go.Proofs.YthaogbbclocmaaaGreat
