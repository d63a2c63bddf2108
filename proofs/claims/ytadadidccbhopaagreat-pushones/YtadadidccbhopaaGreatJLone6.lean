/- push.One and push.All: what they leave on the disk. -/
import Derived.Test.YtadadidccbhopaaGreatJPah3
import Derived.Test.YtadadidccbhopaaGreatKProunds
import Derived.Test.YtadadidccbhopaaGreatJRwaits9
import Derived.WalkMore
import Derived.Deep.CutBlock
import Derived.Deep.DeepCutAuto
namespace Go.Proofs.YtadadidccbhopaaGreat
open Go.RowKit
set_option maxRecDepth 100000
/-- What All goes on with. -/
def nxAll (C : List Ch) (L : List Int) : Prop := (∀ x ∈ L, ∃ c ∈ C, (c.b : Int) = x) ∧ ∀ c ∈ C, (c.b : Int) ∈ L
theorem nxAll_goes : NextGoes nxAll := fun C L hA hah hnx hL => by
  obtain ⟨x, hx⟩ : ∃ x, x ∈ L := by
    cases L with
    | nil => simp at hL
    | cons x r => exact ⟨x, by simp⟩
  obtain ⟨c0, hc0, _⟩ := hnx.1 x hx
  obtain ⟨c, hc, _, hm⟩ := least_ch (fun _ => True) c0.id C ⟨c0, hc0, trivial, Nat.le_refl _⟩
  refine fold_less hA hah hc (fun i hi => ?_) (hnx.2 c hc)
  cases ho : opn C i with
  | false => rfl
  | true =>
    obtain ⟨d, hd, e⟩ := opn_iff.1 ho
    have h1 := hm d hd trivial
    have h2 := hah c hc i hi
    omega
theorem nxAll_nil {C : List Ch} (h : nxAll C []) : C = [] := by
  cases C with
  | nil => rfl
  | cons c r => have := h.2 c (by simp); cases this
section
variable {w0 w : World} {p dp : Nat} {s : PSt} {ops : Nat → List Int} {κ : Nat}
end
end Go.Proofs.YtadadidccbhopaaGreat
/- The document's store held against a store of ours that is only thought of: what it answers, and what comes of it. -/
namespace Go.Proofs.YtadadidccbhopaaGreat
open Go.RowKit
set_option maxRecDepth 100000
/-- What must hold of a store of ours that is thought of. -/
structure GP (N : Nat) (s : PSt) (ops : Nat → List Int) (κ : Nat) : Prop where
  pl : PL s ops [] κ
  dn : s.σ.dn = N
/-- The document's store is as that one. -/
structure DX (N : Nat) (w : World) (ed q : Nat) (s : PSt) (ops : Nat → List Int) (κ m : Nat) (A : Nat → List Int) (L : List RCh) (D : Nat → Prop) : Prop where
  gw : GP N s ops κ
  pa : PA s A
  rt : ∃ ver, RT w q ed N m (basS N s) ver L s.cnt D ∧ ∀ i, i < N → ver i = s.σ.sf i :: s.σ.ws i
  al : Alike s.C L A
section
variable {N : Nat} {w w' : World} {ed q : Nat} {s s' : PSt} {ops ops' : Nat → List Int} {κ κ' m : Nat} {A : Nat → List Int} {L : List RCh} {D : Nat → Prop}
theorem BX.dx {w0 : World} {p dp : Nat} (h : BX N w0 w p dp ed q s ops κ m A L D) : DX N w ed q s ops κ m A L D := ⟨⟨h.gw.pl, h.gw.dn⟩, h.pa, h.rt, h.al⟩
theorem DX.up (h : DX N w ed q s ops κ m A L D) (hb : Below w.heap.size w w') : DX N w' ed q s ops κ m A L D := by
  obtain ⟨ver, h1, h2⟩ := h.rt
  exact { h with rt := ⟨ver, h1.up hb, h2⟩ }
theorem DX.keep (h : DX N w ed q s ops κ m A L D) {S : Nat → Prop} (hf : Fr S w w') (hS : ∀ k, D k → ¬ S k) : DX N w' ed q s ops κ m A L D := by
  obtain ⟨ver, h1, h2⟩ := h.rt
  exact { h with rt := ⟨ver, h1.keep hf hS, h2⟩ }
theorem DX.more (h : DX N w ed q s ops κ m A L D) {m' : Nat} (hm : m ≤ m') : DX N w ed q s ops κ m' A L D := by
  obtain ⟨ver, h1, h2⟩ := h.rt
  exact { h with rt := ⟨ver, h1.more hm, h2⟩ }
theorem DX.fitN (h : DX N w ed q s ops κ m A L D) : ∀ c ∈ L, c.fr + c.d.length ≤ 256 ∧ 0 < c.d.length ∧ c.b < N := by
  intro r hr
  obtain ⟨c, hc, _, e2, e3, e4, _⟩ := h.al.mem hr
  have h1 := h.gw.pl.ft c hc
  obtain ⟨b, hb, hbn⟩ := h.gw.pl.cb c hc
  have h2 := h.gw.pl.bdn b hb
  have h3 := h.gw.dn
  unfold fits at h1
  rw [e2, e3, e4]
  exact ⟨h1.1, by omega, by omega⟩
theorem DX.clean (h : DX N w ed q s ops κ m A L D) {n : Nat} (hn : n < N) (hc : ¬ ∃ c ∈ s.C, c.b = n) : s.fB n = 0 ∧ s.σ.ws n = [] ∧ ofB s.C n = [] := by
  have hB : ∀ b ∈ s.B, ¬ b.n = n := fun b hb e => by
    obtain ⟨c, hc', e2⟩ := h.gw.pl.bc b hb (by simp)
    exact hc ⟨c, hc', by omega⟩
  refine ⟨?_, (h.gw.pl.cao n (by rw [h.gw.dn]; exact hn) hB).1, ?_⟩
  · rw [h.gw.pl.fb]
    exact lkB_none fun b hb e => hB b hb (by omega)
  · unfold ofB
    rw [List.filter_eq_nil_iff]
    intro c hc' e
    exact hc ⟨c, hc', of_decide_eq_true e⟩
theorem DX.bases (h : DX N w ed q s ops κ m A L D) (hsf : s'.σ.sf = lst s.σ) : flB L (basS N s) = basS N s' := by
  have hbl : (basS N s).length = N := by unfold basS; simp
  apply List.ext_getElem?
  intro n
  by_cases hn : n < N
  · have e1 : (flB L (basS N s))[n]? = some ((flB L (basS N s)).getD n []) := by
      rw [List.getD_eq_getElem?_getD, List.getElem?_eq_getElem (by rw [flB_length, hbl]; exact hn)]
      rfl
    have e2 : (basS N s')[n]? = some (s'.σ.sf n) := by
      unfold basS
      rw [List.getElem?_map, List.getElem?_range hn]
      rfl
    rw [e1, e2, flB_at (A := A) s.C L _ n h.al (fun c hc => by
      obtain ⟨b, hb, hbn⟩ := h.gw.pl.cb c hc
      have h2 := h.gw.pl.bdn b hb
      have h3 := h.gw.dn
      omega) (by omega), basS_at hn, hsf]
    congr 1
    by_cases hc : ∃ c ∈ s.C, c.b = n
    · obtain ⟨c, hc, e⟩ := hc
      obtain ⟨b, hb, hbn⟩ := h.gw.pl.cb c hc
      have h1 := h.gw.pl.lsb b hb
      have h2 := h.gw.pl.sfb b hb
      rw [if_neg (by simp)] at h2
      rw [show b.n = n by omega] at h1 h2
      rw [h1, h2]
    · obtain ⟨_, h2, h3⟩ := h.clean hn hc
      rw [h3]
      unfold lst lastOf
      rw [h2]
      rfl
  · rw [List.getElem?_eq_none (by rw [flB_length, hbl]; omega), List.getElem?_eq_none (by unfold basS; simp; omega)]
theorem findI_dx (h : DX N w ed q s ops κ m A L D) {n : Nat} {r : RCh} (hr : L[n]? = some r) : findI L (r.id : Int) 0 = (n : Int) := by
  rcases findI_spec L (r.id : Int) 0 with ⟨e, hn⟩ | ⟨j, c, hc, e, e2⟩
  · exact absurd rfl (hn r (List.mem_of_getElem? hr))
  · rw [e2]
    obtain ⟨c1, h1, k1, _⟩ := h.al.at hc
    obtain ⟨c2, h2, k2, _⟩ := h.al.at hr
    have hid : c1.id = c2.id := by omega
    have hlt : ¬ j < n := fun hl => by have := asc_at h.gw.pl.asc h1 h2 hl; omega
    have hgt : ¬ n < j := fun hl => by have := asc_at h.gw.pl.asc h2 h1 hl; omega
    omega
theorem DX.marks (h : DX N w ed q s ops κ m A L D) (id : Int) : (∀ k : Nat, findI L id 0 = (k : Int) → ∃ r, L[k]? = some r ∧ Rch s.C id r.id) ∧ (∀ i n, (∃ r, L[i]? = some r ∧ Rch s.C id r.id) → EdR L i n → ∃ r, L[n]? = some r ∧ Rch s.C id r.id) := by
  constructor
  · intro k hk
    obtain ⟨r, hr, e⟩ := findI_at hk
    obtain ⟨c, hc, e1, _⟩ := h.al.at hr
    refine ⟨r, hr, ?_⟩
    rw [e]
    exact .self (opn_iff.2 ⟨c, List.mem_of_getElem? hc, by omega⟩)
  · rintro i n ⟨r, hr, hR⟩ ⟨r', hr', hE⟩
    rw [hr] at hr'
    cases hr'
    obtain ⟨c, hc, e1, e2, e3, e4, _, e6⟩ := h.al.at hr
    have hcm := List.mem_of_getElem? hc
    rw [e1] at hR
    rcases hE with ⟨a, ha, hn⟩ | ⟨hn, e, he, hm⟩
    · obtain ⟨r2, hr2, e⟩ := findI_at hn
      obtain ⟨c2, hc2, k1, _⟩ := h.al.at hr2
      have ho : opn s.C a = true := opn_iff.2 ⟨c2, List.mem_of_getElem? hc2, by omega⟩
      refine ⟨r2, hr2, ?_⟩
      rw [e]
      rw [e6] at ha
      exact rch_rea (h.pa.afc c hcm a ha ho) hcm hR ho
    · obtain ⟨c2, hc2, k1, k2, k3, k4, _⟩ := h.al.at he
      refine ⟨e, he, ?_⟩
      have hlt := asc_at h.gw.pl.asc hc2 hc hn
      have hmt := (meetR_iff k2 k3 k4 e2 e3 e4).1 hm
      obtain ⟨m1, m2, m3⟩ := hmt
      rw [k1]
      refine rch_rea (h.gw.pl.ahm c hcm c2 (List.mem_of_getElem? hc2) m1 hlt (max c2.fr c.fr) ?_ ?_) hcm hR (opn_iff.2 ⟨c2, List.mem_of_getElem? hc2, rfl⟩)
      · have := (h.gw.pl.ft c2 (List.mem_of_getElem? hc2)).2
        unfold cov; omega
      · have := (h.gw.pl.ft c hcm).2
        unfold cov; omega
theorem DX.waits (h : DX N w ed q s ops κ m A L D) {id : Int} {k : Nat} {bs : List Bool} (hk : findI L id 0 = (k : Int)) (hW : WM L (fun j => ∃ r, L[j]? = some r ∧ Rch s.C id r.id) k 0 bs) : (∀ x, x ∈ idsR L bs ↔ Rch s.C id x) ∧ (idsR L bs).Pairwise (· < ·) := by
  constructor
  · intro x
    rw [idsR_mem]
    constructor
    · rintro ⟨j, r, hr, hb, rfl⟩
      obtain ⟨r', hr', hR⟩ := hW.snd j hb
      rw [hr] at hr'
      cases hr'
      exact hR
    · intro hR
      induction hR with
      | self _ =>
        obtain ⟨r, hr, e⟩ := findI_at hk
        exact ⟨k, r, hr, hW.k, e⟩
      | @ahead c i hc _ hi ho ih =>
        obtain ⟨j, r, hr, hb, e⟩ := ih
        obtain ⟨c1, hc1, e1, e2, e3, e4, _, e6⟩ := h.al.at hr
        obtain rfl : c1 = c := h.gw.pl.asc.inj (List.mem_of_getElem? hc1) hc (by omega)
        obtain ⟨y, hy, rfl⟩ := opn_iff.1 ho
        obtain ⟨n, hn⟩ := List.mem_iff_getElem?.1 hy
        obtain ⟨r2, hr2, k1, k2, k3, k4, _⟩ := h.al.of hn
        have hE : EdR L j n := by
          refine ⟨r, hr, ?_⟩
          rcases h.pa.ahc c1 hc _ hi ho with ha | ⟨y', hy', ei, eb, elt, jj, cv1, cv2⟩
          · refine .inl ⟨(y.id : Int), by rw [e6]; exact ha, ?_⟩
            rw [← k1]
            exact findI_dx h hr2
          · obtain rfl : y' = y := h.gw.pl.asc.inj hy' hy (by omega)
            refine .inr ⟨asc_lt h.gw.pl.asc hn hc1 elt, r2, hr2, (meetR_iff k2 k3 k4 e2 e3 e4).2 ⟨eb, ?_, ?_⟩⟩
            · unfold cov at cv1 cv2; omega
            · unfold cov at cv1 cv2; omega
        exact ⟨n, r2, hr2, hW.clo j (Nat.zero_le _) hb n hE, by omega⟩
  · refine List.Pairwise.sublist (idsR_sub L bs) ?_
    have e : L.map (fun r => (r.id : Int)) = s.C.map fun c => (c.id : Int) := by
      have h1 := congrArg (List.map fun t : Nat × Nat × Nat × List UInt8 × Bool × List Int => (t.1 : Int)) h.al
      simpa [List.map_map, absR, absC, Function.comp_def] using h1
    rw [e]
    exact h.gw.pl.asc.cids
theorem DX.lok (h : DX N w ed q s ops κ m A L D) : ∃ d gB cB ao ca, RAt w q d (.slice (some ⟨gB, 0, none⟩) (basS N s).length cB) ao ca L s.cnt ∧ BAt w gB cB (basS N s) ∧ LOk w L := by
  obtain ⟨ver, ⟨gB, cB, ao, ca, base, gb, cb, va, vc, h1⟩, _⟩ := h.rt
  exact ⟨_, gB, cB, ao, ca, h1.at', h1.bs, h1.lk⟩
theorem findI_dopn (h : DX N w ed q s ops κ m A L D) (x : Int) : (findI L x 0 < 0) ↔ opn s.C x = false := by
  rcases findI_spec L x 0 with ⟨e, hn⟩ | ⟨j, c, hc, e, e2⟩
  · rw [e]
    refine ⟨fun _ => ?_, fun _ => by omega⟩
    cases ho : opn s.C x with
    | false => rfl
    | true =>
      obtain ⟨c, hc, e3⟩ := opn_iff.1 ho
      obtain ⟨k, hk⟩ := List.mem_iff_getElem?.1 hc
      obtain ⟨r, hr, k1, _⟩ := h.al.of hk
      exact absurd (show (r.id : Int) = x by omega) (hn r (List.mem_of_getElem? hr))
  · refine ⟨fun h => by rw [e2] at h; omega, fun h3 => ?_⟩
    obtain ⟨c', hc', k1, _⟩ := h.al.mem (List.mem_of_getElem? hc)
    have : opn s.C x = true := opn_iff.2 ⟨c', hc', by omega⟩
    rw [this] at h3; cases h3
theorem DX.ltD (h : DX N w ed q s ops κ m A L D) : ∀ k, D k → k < w.heap.size := by
  obtain ⟨ver, ⟨gB, cB, ao, ca, base, gb, cb, va, vc, h1⟩, _⟩ := h.rt
  exact h1.lt
theorem DX.len (h : DX N w ed q s ops κ m A L D) : L.length ≤ 1000 := by
  obtain ⟨d, gB, cB, ao, ca, hR, hB, hk⟩ := h.lok
  exact hk.len
/-- Whom one waits for. -/
theorem dx_waits (h : DX N w ed q s ops κ m A L D) (id : Int) :
    Calls Tryz.prog 77 #[.pointer (some ⟨q, 0, none⟩), .int .i64 id] w fun r w2 => ∃ v xs, r = .returned v ∧ OwnL w2 w.heap.size v xs ∧ (∀ x, x ∈ xs ↔ Rch s.C id x) ∧ xs.length ≤ 1000 ∧ Below w.heap.size w w2 := by
  obtain ⟨d, gB, cB, ao, ca, hR, hB, hk⟩ := h.lok
  obtain ⟨hS0, hSE⟩ := h.marks id
  refine (rwaits_any hR hk id (h.al.ahead h.pa h.gw.pl) (fun j => ∃ r, L[j]? = some r ∧ Rch s.C id r.id) hS0 hSE).mono ?_
  rintro r w2 ⟨v2, ys, rfl, hO2, hb2, hcase⟩
  rcases hcase with ⟨hneg, e⟩ | ⟨k, bs, hk', hW, e⟩
  · refine ⟨v2, ys, rfl, hO2, fun x => ?_, by rw [e]; simp, hb2⟩
    rw [e]
    refine ⟨fun hx => by simp at hx, fun hx => ?_⟩
    exfalso
    have ho := rch_base hx
    rw [(findI_dopn h id).1 hneg] at ho
    cases ho
  · obtain ⟨h1, h2⟩ := h.waits hk' hW
    exact ⟨v2, ys, rfl, hO2, fun x => by rw [e]; exact h1 x, by rw [e]; exact Nat.le_trans (idsR_len L bs) hk.len, hb2⟩
/-- The block of an open change. -/
theorem dx_block (h : DX N w ed q s ops κ m A L D) {c : Ch} (hc : c ∈ s.C) :
    Calls Tryz.prog 71 #[.pointer (some ⟨q, 0, none⟩), .int .i64 (c.id : Int)] w fun r w' => r = .returned (.tuple #[.int .i64 (c.b : Int), .int .i64 0]) ∧ w' = w := by
  obtain ⟨d, gB, cB, ao, ca, hR, hB, hk⟩ := h.lok
  have RB := rblock_any hR hk.len (c.id : Int)
  have hf : ¬ findI L (c.id : Int) 0 < 0 := fun e => by
    have := (findI_dopn h _).1 e
    rw [opn_iff.2 ⟨c, hc, rfl⟩] at this
    cases this
  rw [if_neg hf, if_neg hf] at RB
  obtain ⟨k, hk'⟩ := List.mem_iff_getElem?.1 hc
  obtain ⟨r, hr, k1, k2, _⟩ := h.al.of hk'
  have hfk := findI_dx h hr
  rw [show (r.id : Int) = (c.id : Int) by omega] at hfk
  have hb : bAt L (findI L (c.id : Int) 0) = (c.b : Int) := by
    rw [hfk]
    unfold bAt
    rw [Int.toNat_natCast, hr]
    show (r.b : Int) = _
    omega
  rw [hb] at RB
  exact RB
/-- How many may be written of a block. -/
theorem dx_ready (h : DX N w ed q s ops κ m A L D) (n : Nat) :
    Calls Tryz.prog 73 #[.pointer (some ⟨q, 0, none⟩), .int .i64 (n : Int)] w fun r w' => r = .returned (.int .i64 (rdyN s.C n : Int)) ∧ Below w.heap.size w w' := by
  obtain ⟨d, gB, cB, ao, ca, hR, hB, hk⟩ := h.lok
  refine (rready_any hR hk (n : Int) (mayV s.C L n) (h.al.may h.pa h.gw.pl n) (h.al.ahead h.pa h.gw.pl)).mono ?_
  rintro r w2 ⟨rfl, hb2⟩
  rw [rdyR_len (A := A) s.C L (mayV s.C L n) (alw s.C n) n 0 0 h.al (fun i r hr => by rw [Nat.zero_add]; exact mayV_at hr) (alw_b h.gw.pl.asc), Nat.zero_add]
  exact ⟨rfl, hb2⟩
/-- The dirty blocks, the least first. -/
theorem dx_dirty (h : DX N w ed q s ops κ m A L D) :
    Calls Tryz.prog 75 #[.pointer (some ⟨q, 0, none⟩)] w fun r w' => ∃ v xs, r = .returned v ∧ OwnI w' w.heap.size v xs ∧ xs.Pairwise (· < ·) ∧ (∀ x, x ∈ xs ↔ ∃ c ∈ s.C, (c.b : Int) = x) ∧ Below w.heap.size w w' := by
  obtain ⟨d, gB, cB, ao, ca, hR, hB, hk⟩ := h.lok
  have hl : (basS N s).length = N := by unfold basS; simp
  refine (rdirty_any hR hB hk.len).mono ?_
  rintro r w2 ⟨v2, rfl, hO2, hb2⟩
  rw [hl] at hO2
  refine ⟨v2, _, rfl, hO2, dirR_asc L N, fun x => ?_, hb2⟩
  rw [dirR_mem]
  constructor
  · rintro ⟨n, rfl, _, hn⟩
    obtain ⟨c, hc, e⟩ := (alike_any h.al n).1 hn
    exact ⟨c, hc, by omega⟩
  · rintro ⟨c, hc, rfl⟩
    obtain ⟨b, hb', e2⟩ := h.gw.pl.cb c hc
    have h1 := h.gw.pl.bdn b hb'
    rw [h.gw.dn] at h1
    exact ⟨c.b, rfl, by omega, (alike_any h.al c.b).2 ⟨c, hc, rfl⟩⟩
/-- A block of ours is written. -/
structure WrS (A : Nat → List Int) (s : PSt) (n : Nat) (s' : PSt) : Prop where
  n5 : n < 5
  has : ∃ c ∈ s.C, c.b = n
  C : s'.C = s.C.map (setW (alw s.C n))
  cnt : s'.cnt = s.cnt
  sf : s'.σ.sf = s.σ.sf
  ws : s'.σ.ws = upd s.σ.ws n (s.σ.ws n ++ [lays (s.σ.sf n) (pickC (ofB s.C n) (alw s.C n))])
  gp : ∃ ops κ, GP 5 s' ops κ
  pa : PA s' A
/-- All that was is flushed. -/
structure FlS (A : Nat → List Int) (s s' : PSt) : Prop where
  C : s'.C = nwr s.C
  cnt : s'.cnt = s.cnt
  sf : s'.σ.sf = lst s.σ
  ws : s'.σ.ws = fun _ => []
  gp : ∃ ops κ, GP 5 s' ops κ
  pa : PA s' A
/-- A block is written, if it is ready. -/
inductive StS (A : Nat → List Int) : PSt → Int → PSt → Nat → Prop
  | no {s : PSt} {n : Nat} : rdyN s.C n = 0 → StS A s (n : Int) s 0
  | yes {s s' : PSt} {n : Nat} : rdyN s.C n ≠ 0 → WrS A s n s' → StS A s (n : Int) s' 1
/-- Blocks are, one after another. -/
inductive FoS (A : Nat → List Int) : PSt → List Int → PSt → Nat → Prop
  | nil {s : PSt} : FoS A s [] s 0
  | cons {s s1 s2 : PSt} {x : Int} {l : List Int} {a b : Nat} : StS A s x s1 a → FoS A s1 l s2 b → FoS A s (x :: l) s2 (a + b)
theorem FoS.snoc {s s1 s2 : PSt} {x : Int} {l : List Int} {a b : Nat} (h : FoS A s l s1 a) (h2 : StS A s1 x s2 b) : FoS A s (l ++ [x]) s2 (a + b) := by
  induction h with
  | nil => have := FoS.cons h2 (FoS.nil (A := A) (s := s2)); rw [Nat.add_comm] at this; exact this
  | @cons s s1' s2' y l' a' b' h3 _ ih =>
    have := FoS.cons h3 (ih h2)
    rw [← Nat.add_assoc] at this
    exact this
/-- Rounds, till there is nothing more to write. -/
inductive RdS (nx : List Ch → List Int → Prop) (A : Nat → List Int) : PSt → PSt → Nat → Prop
  | done {s : PSt} : nx s.C [] → RdS nx A s s 0
  | step {s s1 s2 s' : PSt} {L : List Int} {k n : Nat} : nx s.C L → 1 ≤ L.length → L.length ≤ 5 → FoS A s L s1 k → FlS A s1 s2 → s2.C.length + 1 ≤ s.C.length → RdS nx A s2 s' n → RdS nx A s s' (k + n)
theorem dx_write (h : DX 5 w ed q s ops κ m A L D) (hm : m ≤ 900000) {n : Nat} (hW : WrS A s n s') :
    Calls Tryz.prog 55 #[.pointer (some ⟨q, 0, none⟩), .int .i64 (n : Int)] w fun r w2 => r = .returned (.int .i64 0) ∧ Fr D w w2 ∧ ∃ ops' κ' L', DX 5 w2 ed q s' ops' κ' (m + 1) A L' (newD D w w2) := by
  obtain ⟨ver, hrt, hver⟩ := h.rt
  have hn5 := hW.n5
  have hV := h.al.may h.pa h.gw.pl n
  have hf := h.al.ahead h.pa h.gw.pl
  have hu : ∀ c ∈ L, c.fr + c.d.length ≤ 256 ∧ 0 < c.d.length := fun c hc => ⟨(h.fitN c hc).1, (h.fitN c hc).2.1⟩
  refine (rt_write hrt n hn5 hm hu (mayV s.C L n) hV hf).mono ?_
  rintro r w2 (⟨hany, _⟩ | ⟨_, rfl, hrs, hf2⟩)
  · exfalso
    rw [(alike_any h.al n).2 hW.has] at hany
    cases hany
  · obtain ⟨ops', κ', hgp⟩ := hW.gp
    have himg : laidR (mayV s.C L n) L 0 ((basS 5 s).getD n []) = lays (s.σ.sf n) (pickC (ofB s.C n) (alw s.C n)) := by
      rw [basS_at hn5]
      exact laidR_lays (A := A) s.C L _ (alw s.C n) n 0 _ h.al (fun i r hr => by rw [Nat.zero_add]; exact mayV_at hr) (alw_b h.gw.pl.asc)
    refine ⟨rfl, hf2, ops', κ', _, hgp, hW.pa, ⟨_, by rw [hW.cnt, basS_same hW.sf]; exact hrs, fun i hi => ?_⟩, by rw [hW.C]; exact outR_alike s.C L (mayV s.C L n) (alw s.C n) 0 h.al (fun i r hr => by rw [Nat.zero_add]; exact mayV_at hr)⟩
    unfold upd
    rw [hW.sf, hW.ws, himg]
    by_cases e : i = n
    · subst e
      rw [if_pos rfl, hver i hi]
      unfold upd
      rw [if_pos rfl]
      rfl
    · rw [if_neg e, hver i hi]
      unfold upd
      rw [if_neg e]
theorem dx_flush (h : DX 5 w ed q s ops κ m A L D) (hm : 1 ≤ m) (hF : FlS A s s') :
    Calls Tryz.prog 56 #[.pointer (some ⟨q, 0, none⟩)] w fun r w2 => r = .returned (.int .i64 0) ∧ Fr D w w2 ∧ ∃ ops' κ' L', DX 5 w2 ed q s' ops' κ' m A L' (newD D w w2) := by
  obtain ⟨ver, hrt, hver⟩ := h.rt
  obtain ⟨ops', κ', hgp⟩ := hF.gp
  refine (rt_flush hrt hm h.fitN).mono ?_
  rintro r w2 ⟨rfl, hrs, hf2⟩
  rw [h.bases hF.sf] at hrs
  refine ⟨rfl, hf2, ops', κ', _, hgp, hF.pa, ⟨_, by rw [hF.cnt]; exact hrs, fun i hi => ?_⟩, by rw [hF.C]; exact keptR_alike h.al⟩
  rw [if_pos hi, hver i hi, lv_lst, hF.sf, hF.ws]
end
end Go.Proofs.YtadadidccbhopaaGreat
/- Package push: rounds, One, All and Step, with each state of the store told. -/
namespace Go.Proofs.YtadadidccbhopaaGreat
open Go.RowKit
set_option maxRecDepth 100000
section
variable {w0 w : World} {p dp : Nat} {s : PSt} {ops : Nat → List Int} {κ : Nat} {A : Nat → List Int}
theorem GW.gn (h : GW w0 w p dp s ops κ) : GN 5 w0 w p dp s ops κ := ⟨h.pm, h.pl, h.be, h.p, h.dp, h.dn⟩
theorem gx_write (h : GW w0 w p dp s ops κ) (hA : PA s A) (hκ : κ ≤ 1000) (n : Nat) (hn : n < 5) (hc : ∃ c ∈ s.C, c.b = n) :
    Calls Tryz.prog 26 #[.pointer (some ⟨p, 0, none⟩), .int .i64 (n : Int)] w fun r w' => ∃ s', r = .returned (.int .i64 0) ∧ GW w0 w' p dp s' ops (κ + 1) ∧ WrS A s n s' ∧ Fr (Ak s) w w' ∧ (∀ k, Ak s' k → Ak s k ∨ w.heap.size ≤ k) := by
  refine (gn_write h.gn hA hκ n hn hc).mono ?_
  rintro r w' ⟨s', rfl, hg, hpa, hC, hcnt, hsf, hws, hf, hs⟩
  exact ⟨s', rfl, hg.gw, ⟨hn, hc, hC, hcnt, hsf, hws, ⟨_, _, hg.pl, hg.dn⟩, hpa⟩, hf, hs⟩
theorem gx_flush (h : GW w0 w p dp s ops κ) (hA : PA s A) (hκ : κ ≤ 1000) :
    Calls Tryz.prog 27 #[.pointer (some ⟨p, 0, none⟩)] w fun r w' => ∃ s' ops', r = .returned (.int .i64 0) ∧ GW w0 w' p dp s' ops' (κ + 1) ∧ FlS A s s' ∧ Fr (Ak s) w w' ∧ (∀ k, Ak s' k → Ak s k ∨ w.heap.size ≤ k) := by
  refine (gn_flush h.gn hA hκ).mono ?_
  rintro r w' ⟨s', ops', rfl, hg, hpa, hC, hcnt, hsf, hws, hf, hs⟩
  exact ⟨s', ops', rfl, hg.gw, ⟨hC, hcnt, hsf, hws, ⟨_, _, hg.pl, hg.dn⟩, hpa⟩, hf, hs⟩
set_option maxHeartbeats 8000000 in
theorem rounds_S (h : GW w0 w p dp s ops κ) (hA : PA s A) (K0 : Nat) (hK : κ + 7 * s.C.length ≤ K0) (hK0 : K0 ≤ 900) (f : Nat) (ba : Array Value) (nx : List Ch → List Int → Prop) (hnx : NextOk w0 p dp f ba nx) (hgo : NextGoes nx)
    (eg : ∀ args w, (callFunc f args).run Tryz.prog w = .ok (.enter f args) w) :
    Calls Tryz.prog 101 #[.pointer (some ⟨p, 0, none⟩), .func (.func f) ba #[]] w fun e w' => ∃ (n : Nat) (s' : PSt) (ops' : Nat → List Int), e = .returned (.tuple #[.int .i64 (n : Int), .int .i64 0]) ∧ GW w0 w' p dp s' ops' K0 ∧ PA s' A ∧ RdS nx A s s' n ∧ s'.cnt = s.cnt ∧ Fr (Ak s) w w' ∧ (∀ k, Ak s' k → Ak s k ∨ w.heap.size ≤ k) := by
  have HJ : Hid (PA s A) := hA
  clear hA
  have HH : Hid (GW w0 w p dp s ops κ) := h
  have HNX : Hid (NextOk w0 p dp f ba nx) := hnx
  have HGO : Hid (NextGoes nx) := hgo
  have NX0 := hnx w s ops κ h (by omega)
  clear h hnx hgo
  go_enter Tryz.func101, Tryz.ntmps101
  go_wp2_with fail
  go_step3
  go_wp2_with fail
  go_step3
  go_wp2_with fail
  refine NX0.mono ?_
  clear NX0
  rintro r w1 ⟨v1, L1, rfl, hO1, hx1, hl1, hm1, hb1⟩
  obtain ⟨i1, c1, rfl, hsr1, _⟩ := hO1.form
  have H1 : Hid (GW w0 w1 p dp s ops κ ∧ nx s.C L1 ∧ (∀ x ∈ L1, ∃ n : Nat, x = (n : Int) ∧ n < 5 ∧ ∃ c ∈ s.C, c.b = n) ∧ RowF w1 s i1 L1 ∧ Below w.heap.size w w1) := by
    refine ⟨HH.out.up hb1, hx1, hm1, ⟨hsr1, fun b o e => ?_⟩, hb1⟩
    subst e
    rcases (own_at hO1).2 with ⟨e1, _⟩ | ⟨g, e1, e2, e3⟩
    · cases e1
    · cases e1; exact ⟨fun hA => by have := HH.out.pm.lt hA; omega, e3⟩
  have hl1' : (L1.length : Int) ≤ 5 := by omega
  clear hO1 hx1 hl1 hm1 hb1 hsr1
  obtain ⟨N, hN⟩ : ∃ N, N = s.C.length := ⟨_, rfl⟩
  have HN : Hid (N = s.C.length) := hN
  have hN900 : N ≤ 900 := by omega
  rw [← hN] at hK
  clear hN
  go_wp2_with fail
  go_loopg [6, 7, 8, 10] N (fun gg t6 t7 t8 _ W => ∃ (gw : World) (n κ' : Nat) (s' : PSt) (ops' : Nat → List Int) (L : List Int) (i1 : Option Addr) (c1 : Nat), gw = W ∧ t6 = .int .i64 n ∧ t7 = .int .i64 0 ∧ t8 = .slice i1 L.length c1 ∧ (L.length : Int) ≤ 5 ∧ n ≤ 5000 ∧ Hid (s'.C.length ≤ gg) ∧ Hid (κ' + 7 * s'.C.length ≤ K0 ∧ n + 5 * s'.C.length ≤ 5 * N) ∧ Hid (GW w0 gw p dp s' ops' κ' ∧ nx s'.C L ∧ (∀ x ∈ L, ∃ n : Nat, x = (n : Int) ∧ n < 5 ∧ ∃ c ∈ s'.C, c.b = n) ∧ RowF gw s' i1 L ∧ s'.cnt = s.cnt ∧ Fr (Ak s) w gw ∧ (∀ k, Ak s' k → Ak s k ∨ w.heap.size ≤ k) ∧ PA s' A ∧ ∀ S' m, RdS nx A s' S' m → RdS nx A s S' (n + m)))
  case atStart => exact ⟨_, 0, κ, s, ops, L1, i1, c1, rfl, rfl, rfl, rfl, hl1', by omega, by show _ ≤ _; rw [← HN.out]; exact Nat.le_refl _, ⟨by rw [← HN.out]; exact hK, by rw [← HN.out]; omega⟩, H1.out.1, H1.out.2.1, H1.out.2.2.1, H1.out.2.2.2.1, rfl, Fr.of_below H1.out.2.2.2.2, fun _ hk => .inl hk, HJ.out, fun S' m hr => by rw [Nat.zero_add]; exact hr⟩
  case round =>
    clear H1
    obtain ⟨gw, n, κ', s', ops', L, i1, c1, rfl, rfl, rfl, rfl, hl5, hn5, HM, HK, HG⟩ := hrel
    by_cases hL0 : (0 : Int) < (L.length : Int)
    · have HK' : Hid (κ' + 7 ≤ K0) := by
        obtain ⟨hg1, hg2⟩ := HK.out
        have : 1 ≤ s'.C.length := by
          have hm := HG.out.2.2.1
          cases hLL : L with
          | nil => rw [hLL] at hL0; simp at hL0
          | cons x r =>
            obtain ⟨_, _, _, c, hc, _⟩ := hm x (by rw [hLL]; simp)
            exact List.length_pos_of_mem hc
        show _ ≤ _
        omega
      have hL1 : 0 < L.length := by omega
      go_wp2_with fail
      go_loopg [6, 7, 10, 20] 5 (fun gg t6 t7 _ t20 W => ∃ (g2 : World) (j n2 : Nat) (s2 : PSt), g2 = W ∧ t20 = .int .i64 j ∧ t6 = .int .i64 n2 ∧ t7 = .int .i64 0 ∧ j ≤ L.length ∧ n2 ≤ 5000 + j ∧ L.length - j ≤ gg ∧ Hid (n2 = n + (foldW s'.C (L.take j)).2 ∧ s2.C = (foldW s'.C (L.take j)).1 ∧ GW w0 g2 p dp s2 ops' (κ' + j) ∧ RowF g2 s2 i1 L ∧ s2.cnt = s.cnt ∧ Fr (Ak s) w g2 ∧ (∀ k, Ak s2 k → Ak s k ∨ w.heap.size ≤ k) ∧ PA s2 A ∧ FoS A s' (L.take j) s2 (foldW s'.C (L.take j)).2))
      case atStart => exact ⟨_, 0, n, s', rfl, rfl, rfl, rfl, by omega, by omega, by omega, rfl, rfl, HG.out.1, HG.out.2.2.2.1, HG.out.2.2.2.2.1, HG.out.2.2.2.2.2.1, HG.out.2.2.2.2.2.2.1, HG.out.2.2.2.2.2.2.2.1, FoS.nil⟩
      case round =>
        obtain ⟨g2, j, n2, s2, rfl, rfl, rfl, rfl, hj, hn2, hgj, H2⟩ := hrel
        by_cases hjl : (j : Int) < (L.length : Int)
        · obtain ⟨yb, yo, nb, hao, hyc, hnb, hcb, htk⟩ : ∃ yb yo, ∃ nb : Nat, i1 = some ⟨yb, yo, none⟩ ∧ g2.cell? ⟨yb, yo + j, none⟩ = some (.int .i64 (nb : Int)) ∧ nb < 5 ∧ (∃ c ∈ s2.C, c.b = nb) ∧ L.take (j + 1) = L.take j ++ [(nb : Int)] := by
            rcases H2.out.2.2.2.1.sr with e | ⟨yb, yo, e, hl, hcc⟩
            · have : L.length = 0 := by rw [e]; rfl
              omega
            · have hjn : j < L.length := by omega
              obtain ⟨nb, e1, e2, e3⟩ := HG.out.2.2.1 _ (getD_mem hjn)
              refine ⟨yb, yo, nb, e, by rw [← e1]; exact hcc j hjn, e2, ?_, ?_⟩
              · rw [H2.out.2.1]; exact same_mem (foldW_same _ _) e3
              · rw [List.take_add_one, List.getElem?_eq_getElem hjn, ← e1, List.getD_eq_getElem?_getD, List.getElem?_eq_getElem hjn]
                rfl
          have hk1 : κ' + j ≤ 1000 := by have := HK'.out; omega
          have RY := gw_ready H2.out.2.2.1 hk1 nb hnb hcb
          have HST : Hid (foldW s'.C (L.take (j + 1)) = ((stepW s2.C (nb : Int)).1, (foldW s'.C (L.take j)).2 + (stepW s2.C (nb : Int)).2)) := by show _ = _; rw [htk, foldW_snoc, ← H2.out.2.1]
          have HNB : Hid (nb < 5 ∧ ∃ c ∈ s2.C, c.b = nb) := ⟨hnb, hcb⟩
          have HTK : Hid (L.take (j + 1) = L.take j ++ [(nb : Int)]) := htk
          obtain ⟨rd, hrd⟩ : ∃ rd, rdyN s2.C nb = rd := ⟨_, rfl⟩
          rw [hrd] at RY
          have HRD : Hid (rdyN s2.C nb = rd) := hrd
          subst hao
          clear hcb htk hrd
          go_upto_region 8 with fail
          go_wp2_with (first | (go_at_call 72; refine Hid.out ?_))
          change Calls _ _ _ _ _
          refine RY.mono ?_
          clear RY
          rintro r w3 ⟨rfl, hb3⟩
          have HG3 : Hid (GW w0 w3 p dp s2 ops' (κ' + j) ∧ RowF w3 s2 (some ⟨yb, yo, none⟩) L ∧ Fr (Ak s) w w3 ∧ g2.heap.size ≤ w3.heap.size) := ⟨H2.out.2.2.1.up hb3, H2.out.2.2.2.1.up hb3, H2.out.2.2.2.2.2.1.trans (Fr.of_below hb3), hb3.size⟩
          clear hb3
          by_cases hrd0 : rd = 0
          · subst hrd0
            have H5 : Hid (n2 = n + (foldW s'.C (L.take (j + 1))).2 ∧ s2.C = (foldW s'.C (L.take (j + 1))).1 ∧ FoS A s' (L.take (j + 1)) s2 (foldW s'.C (L.take (j + 1))).2) := by
              have hs : stepW s2.C (nb : Int) = (s2.C, 0) := by unfold stepW; rw [Int.toNat_natCast, if_pos HRD.out]
              rw [HST.out, hs]
              exact ⟨H2.out.1, rfl, by rw [HTK.out]; exact H2.out.2.2.2.2.2.2.2.2.snoc (.no HRD.out)⟩
            go_wp2_with fail
            go_roundg (L.length - (j + 1))
            case measure => omega
            case rel => exact ⟨_, j + 1, n2, s2, rfl, by go_num, rfl, rfl, by omega, by omega, by omega, H5.out.1, H5.out.2.1, HG3.out.1.more (by omega), HG3.out.2.1, H2.out.2.2.2.2.1, HG3.out.2.2.1, H2.out.2.2.2.2.2.2.1, H2.out.2.2.2.2.2.2.2.1, H5.out.2.2⟩
          · have hrdb : ((rd : Int) == 0) = false := by simp; exact hrd0
            have WR := gx_write HG3.out.1 H2.out.2.2.2.2.2.2.2.1 hk1 nb HNB.out.1 HNB.out.2
            go_wp2_with (first | (go_at_call 26; refine Hid.out ?_))
            change Calls _ _ _ _ _
            refine WR.mono ?_
            clear WR
            rintro r w4 ⟨s4, rfl, hG4, hW4, hf4, hs4⟩
            have hC4 := hW4.C
            have hc4 := hW4.cnt
            have H5 : Hid (n2 + 1 = n + (foldW s'.C (L.take (j + 1))).2 ∧ s4.C = (foldW s'.C (L.take (j + 1))).1 ∧ GW w0 w4 p dp s4 ops' (κ' + (j + 1)) ∧ RowF w4 s4 (some ⟨yb, yo, none⟩) L ∧ s4.cnt = s.cnt ∧ Fr (Ak s) w w4 ∧ (∀ k, Ak s4 k → Ak s k ∨ w.heap.size ≤ k) ∧ PA s4 A ∧ FoS A s' (L.take (j + 1)) s4 (foldW s'.C (L.take (j + 1))).2) := by
              have hs : stepW s2.C (nb : Int) = (s2.C.map (setW (alw s2.C nb)), 1) := by unfold stepW; rw [Int.toNat_natCast, if_neg (by rw [HRD.out]; exact hrd0)]
              rw [HST.out, hs]
              have hsub := H2.out.2.2.2.2.2.2.1
              have hz := HG3.out.2.2.1.size
              refine ⟨by have := H2.out.1; omega, hC4, hG4, HG3.out.2.1.run hf4 hs4, hc4.trans H2.out.2.2.2.2.1, ⟨by have := hf4.size; omega, fun k hk hn => ?_, hf4.os.trans HG3.out.2.2.1.os, hf4.tape.trans HG3.out.2.2.1.tape, hf4.output.trans HG3.out.2.2.1.output⟩, fun k hk => ?_, hW4.pa, by rw [HTK.out]; exact H2.out.2.2.2.2.2.2.2.2.snoc (.yes (by rw [HRD.out]; exact hrd0) hW4)⟩
              · refine (hf4.blk k (by omega) (fun hA => ?_)).trans (HG3.out.2.2.1.blk k hk hn)
                rcases hsub k hA with h | h
                · exact hn h
                · omega
              · rcases hs4 k hk with h | h
                · exact hsub k h
                · exact .inr (by omega)
            clear hG4 hC4 hc4 hf4 hs4 hW4
            go_wp2_with fail
            go_roundg (L.length - (j + 1))
            case measure => omega
            case rel => exact ⟨_, j + 1, n2 + 1, s4, rfl, by go_num, by go_num, rfl, by omega, by omega, by omega, H5.out⟩
        · have HT : Hid (L.take j = L) := List.take_of_length_le (by omega)
          have hk1 : κ' + j ≤ 1000 := by have := HK'.out; omega
          have FL := gx_flush H2.out.2.2.1 H2.out.2.2.2.2.2.2.2.1 hk1
          go_wp2_with (first | (go_at_call 27; refine Hid.out ?_))
          change Calls _ _ _ _ _
          refine FL.mono ?_
          clear FL
          rintro r w5 ⟨s5, o5, rfl, hG5, hF5, hf5, hs5⟩
          have hC5 := hF5.C
          have hc5 := hF5.cnt
          have HF5 : Hid (FlS A s2 s5) := hF5
          clear hF5
          have hsub := H2.out.2.2.2.2.2.2.1
          have hz := H2.out.2.2.2.2.2.1.size
          have H5 : Hid (GW w0 w5 p dp s5 o5 (κ' + 6) ∧ s5.C = nwr (foldW s'.C L).1 ∧ s5.cnt = s.cnt ∧ Fr (Ak s) w w5 ∧ (∀ k, Ak s5 k → Ak s k ∨ w.heap.size ≤ k) ∧ n2 = n + (foldW s'.C L).2) := by
            refine ⟨hG5.more (by omega), by rw [hC5, H2.out.2.1, HT.out], hc5.trans H2.out.2.2.2.2.1, ⟨by have := hf5.size; omega, fun k hk hn => ?_, hf5.os.trans H2.out.2.2.2.2.2.1.os, hf5.tape.trans H2.out.2.2.2.2.2.1.tape, hf5.output.trans H2.out.2.2.2.2.2.1.output⟩, fun k hk => ?_, by have := H2.out.1; rw [HT.out] at this; exact this⟩
            · refine (hf5.blk k (by omega) (fun hA => ?_)).trans (H2.out.2.2.2.2.2.1.blk k hk hn)
              rcases hsub k hA with h | h
              · exact hn h
              · omega
            · rcases hs5 k hk with h | h
              · exact hsub k h
              · exact .inr (by omega)
          have HLT : Hid (s5.C.length + 1 ≤ s'.C.length ∧ n2 ≤ n + 5) := by
            refine ⟨by rw [H5.out.2.1]; exact HGO.out s'.C L HG.out.1.pl.asc (fun c hc i hi => ((HG.out.1.pl.ah c hc).1 i hi).2) HG.out.2.1 (by omega), ?_⟩
            have := foldW_le L s'.C
            have := H5.out.2.2.2.2.2
            omega
          clear hG5 hC5 hc5 hf5 hs5 hsub hz
          have NX := HNX.out w5 s5 o5 (κ' + 6) H5.out.1 (by have := HK'.out; omega)
          go_wp2_with fail
          refine NX.mono ?_
          clear NX
          rintro r w6 ⟨v6, L6, rfl, hO6, hx6, hl6, hm6, hb6⟩
          obtain ⟨i6, c6, rfl, hsr6, _⟩ := hO6.form
          have H6 : Hid (GW w0 w6 p dp s5 o5 (κ' + 6) ∧ nx s5.C L6 ∧ (∀ x ∈ L6, ∃ n : Nat, x = (n : Int) ∧ n < 5 ∧ ∃ c ∈ s5.C, c.b = n) ∧ RowF w6 s5 i6 L6 ∧ s5.cnt = s.cnt ∧ Fr (Ak s) w w6 ∧ (∀ k, Ak s5 k → Ak s k ∨ w.heap.size ≤ k) ∧ PA s5 A ∧ ∀ S' m, RdS nx A s5 S' m → RdS nx A s S' (n2 + m)) := by
            refine ⟨H5.out.1.up hb6, hx6, hm6, ⟨hsr6, fun b o e => ?_⟩, H5.out.2.2.1, H5.out.2.2.2.1.trans (Fr.of_below hb6), H5.out.2.2.2.2.1, HF5.out.pa, fun S' m hr => ?_⟩
            · subst e
              rcases (own_at hO6).2 with ⟨e1, _⟩ | ⟨g, e1, e2, e3⟩
              · cases e1
              · cases e1; exact ⟨fun hA => by have := H5.out.1.pm.lt hA; omega, e3⟩
            · have hfo := H2.out.2.2.2.2.2.2.2.2
              rw [HT.out] at hfo
              rw [H5.out.2.2.2.2.2, Nat.add_assoc]
              exact HG.out.2.2.2.2.2.2.2.2 S' _ (.step HG.out.2.1 (by omega) (by omega) hfo HF5.out HLT.out.1 hr)
          have hl6' : (L6.length : Int) ≤ 5 := by omega
          clear hO6 hx6 hl6 hm6 hb6 hsr6
          go_wp2_with fail
          go_roundg s5.C.length
          case measure => have := HLT.out.1; have := HM.out; omega
          case rel => exact ⟨_, n2, κ' + 6, s5, o5, L6, i6, c6, rfl, rfl, rfl, rfl, hl6', by have := HK.out.2; have := HLT.out; omega, Nat.le_refl _, ⟨by have := HK.out.1; have := HLT.out.1; omega, by have := HK.out.2; have := HLT.out; omega⟩, H6.out⟩
    · obtain rfl : L = [] := List.eq_nil_of_length_eq_zero (by omega)
      go_wp2_with fail
      go_ret2
      refine ⟨n, s', ops', rfl, HG.out.1.more (by have := HK.out.1; omega), HG.out.2.2.2.2.2.2.2.1, ?_, HG.out.2.2.2.2.1, HG.out.2.2.2.2.2.1, HG.out.2.2.2.2.2.2.1⟩
      have := HG.out.2.2.2.2.2.2.2.2 s' 0 (.done HG.out.2.1)
      rw [Nat.add_zero] at this
      exact this
/-- What All goes on with, the least first. -/
def nxAl2 (C : List Ch) (L : List Int) : Prop := L.Pairwise (· < ·) ∧ ∀ x, x ∈ L ↔ ∃ c ∈ C, (c.b : Int) = x
theorem nxAl2_all {C : List Ch} {L : List Int} (h : nxAl2 C L) : nxAll C L := ⟨fun x hx => (h.2 x).1 hx, fun c hc => (h.2 _).2 ⟨c, hc, rfl⟩⟩
theorem nxAl2_goes : NextGoes nxAl2 := fun C L hA hah hnx hL => nxAll_goes C L hA hah (nxAl2_all hnx) hL
theorem gx_dirty (h : GW w0 w p dp s ops κ) :
    Calls Tryz.prog 33 #[.pointer (some ⟨p, 0, none⟩)] w fun r w' => ∃ (v : Value) (L : List Int), r = .returned v ∧ OwnI w' w.heap.size v L ∧ nxAl2 s.C L ∧ L.length ≤ 5 ∧ (∀ x ∈ L, ∃ n : Nat, x = (n : Int) ∧ n < 5 ∧ ∃ c ∈ s.C, c.b = n) ∧ Below w.heap.size w w' := by
  obtain rfl : s.p = p := h.p
  have hnd : s.kB.Nodup := by
    rw [h.pl.kb]
    unfold bns
    have := h.pl.bn
    rw [show (fun b : Bk => (b.n : Int)) = (fun x : Nat => (x : Int)) ∘ (fun b : Bk => b.n) from rfl, ← List.map_map]
    exact List.Pairwise.map _ (fun a b hab e => hab (by omega)) this
  have hlen : s.kB.length ≤ 8 := by
    rw [h.pl.kb]
    have e : (bns s.B).length = (s.B.map (·.n)).length := by unfold bns; simp
    rw [e]
    exact nodup_len 8 _ h.pl.bn fun x hx => by
      obtain ⟨b, hb, rfl⟩ := List.mem_map.1 hx
      have h1 := h.pl.bdn b hb
      have h2 := h.pl.mdn
      show b.n < 8
      omega
  refine (pdirty_any h.pm (by omega)).mono ?_
  rintro r w1 ⟨v, ss, rfl, hO, hP, hle, hb⟩
  have hm : ∀ x, x ∈ ss ↔ ∃ b ∈ s.B, x = (b.n : Int) := fun x => by
    rw [hP.mem_iff, h.pl.kb]
    unfold bns
    simp [eq_comm]
  have hlt := lt_of_le_nodup hle (hP.nodup_iff.2 hnd)
  have h5 : ∀ x ∈ ss, ∃ n : Nat, x = (n : Int) ∧ n < 5 ∧ ∃ c ∈ s.C, c.b = n := fun x hx => by
    obtain ⟨b, hb', rfl⟩ := (hm x).1 hx
    have h1 := h.pl.bdn b hb'
    rw [h.dn] at h1
    obtain ⟨c, hc, e⟩ := h.pl.bc b hb' (by simp)
    exact ⟨b.n, rfl, h1, c, hc, e⟩
  refine ⟨v, ss, rfl, hO, ⟨hlt, fun x => ?_⟩, asc_le5 hlt (fun x hx => by obtain ⟨n, e, h1, _⟩ := h5 x hx; exact ⟨n, e, h1⟩), h5, hb⟩
  rw [hm]
  constructor
  · rintro ⟨b, hb', rfl⟩
    obtain ⟨c, hc, e⟩ := h.pl.bc b hb' (by simp)
    exact ⟨c, hc, by omega⟩
  · rintro ⟨c, hc, rfl⟩
    obtain ⟨b, hb', e2⟩ := h.pl.cb c hc
    exact ⟨b, hb', by omega⟩
theorem nxAl2_ok : NextOk w0 p dp 33 #[.pointer (some ⟨p, 0, none⟩)] nxAl2 := fun w s ops κ h hκ => by
  refine (gx_dirty h).mono ?_
  rintro r w' ⟨v, L, rfl, hO, hn, hl, hm, hb⟩
  exact ⟨v, L, rfl, hO, hn, hl, hm, hb⟩
set_option maxHeartbeats 1000000 in
theorem all_S (h : GW w0 w p dp s ops κ) (hA : PA s A) (K0 : Nat) (hK : κ + 7 * s.C.length ≤ K0) (hK0 : K0 ≤ 900) :
    Calls Tryz.prog 42 #[.pointer (some ⟨p, 0, none⟩)] w fun e w' => ∃ (n : Nat) (s' : PSt) (ops' : Nat → List Int), e = .returned (.tuple #[.int .i64 (n : Int), .int .i64 0]) ∧ GW w0 w' p dp s' ops' K0 ∧ PA s' A ∧ RdS nxAl2 A s s' n ∧ s'.cnt = s.cnt ∧ Fr (Ak s) w w' ∧ (∀ k, Ak s' k → Ak s k ∨ w.heap.size ≤ k) := by
  have RD := rounds_S h hA K0 hK hK0 33 #[.pointer (some ⟨p, 0, none⟩)] nxAl2 nxAl2_ok nxAl2_goes (enters_of Tryz.func33 (by kernel_rfl) rfl)
  clear h hA
  go_enter Tryz.func42, Tryz.ntmps42
  go_wp2_with (first | (go_at_call 101; refine Hid.out ?_))
  change Calls _ _ _ _ _
  refine RD.mono ?_
  clear RD
  rintro r w1 ⟨n, s', ops', rfl, h1⟩
  have HF : Hid _ := h1
  clear h1
  go_wp2_with fail
  go_ret2
  exact ⟨n, s', ops', rfl, HF.out⟩
set_option maxHeartbeats 1000000 in
theorem one_S (h : GW w0 w p dp s ops κ) (hA : PA s A) (K0 : Nat) (hK : κ + 7 * s.C.length ≤ K0) (hK0 : K0 ≤ 900) (id : Int) (hid : -9223372036854775808 ≤ id ∧ id ≤ 9223372036854775807) :
    Calls Tryz.prog 39 #[.pointer (some ⟨p, 0, none⟩), .int .i64 id] w fun e w' => ∃ (n : Nat) (s' : PSt) (ops' : Nat → List Int), e = .returned (.tuple #[.int .i64 (n : Int), .int .i64 0]) ∧ GW w0 w' p dp s' ops' K0 ∧ PA s' A ∧ RdS (nxOne id) A s s' n ∧ s'.cnt = s.cnt ∧ Fr (Ak s) w w' ∧ (∀ k, Ak s' k → Ak s k ∨ w.heap.size ≤ k) := by
  have RD := rounds_S h hA K0 hK hK0 102 #[.agg #[.pointer (some ⟨p, 0, none⟩), .int .i64 id]] (nxOne id) (nxOne_ok id hid) (nxOne_goes id) (enters_of Tryz.func102 (by kernel_rfl) rfl)
  clear h hA
  go_enter Tryz.func39, Tryz.ntmps39
  go_wp2_with (first | (go_at_call 101; refine Hid.out ?_))
  change Calls _ _ _ _ _
  refine RD.mono ?_
  clear RD
  rintro r w1 ⟨n, s', ops', rfl, h1⟩
  have HF : Hid _ := h1
  clear h1
  go_wp2_with fail
  go_ret2
  exact ⟨n, s', ops', rfl, HF.out⟩
end
end Go.Proofs.YtadadidccbhopaaGreat
/- The document's push: round, One and All, held against the states that the program's store went through. -/
namespace Go.Proofs.YtadadidccbhopaaGreat
open Go.RowKit
set_option maxRecDepth 100000
/-- The document's store in a walk that began in w0 with its blocks D. -/
structure DW (w0 w : World) (ed q : Nat) (s : PSt) (m : Nat) (A : Nat → List Int) (D : Nat → Prop) : Prop where
  dx : ∃ ops κ L D', DX 5 w ed q s ops κ m A L D' ∧ ∀ k, D' k → D k ∨ w0.heap.size ≤ k
  fr : Fr D w0 w
section
variable {w0 w w' : World} {ed q : Nat} {s s' : PSt} {ops : Nat → List Int} {κ m : Nat} {A : Nat → List Int} {L : List RCh} {D : Nat → Prop}
theorem fr_step {D' : Nat → Prop} (h : Fr D w0 w) (hD : ∀ k, D' k → D k ∨ w0.heap.size ≤ k) (hf : Fr D' w w') : Fr D w0 w' := by
  have hz := h.size
  refine ⟨by have := hf.size; omega, fun k hk hn => (hf.blk k (by omega) (fun hA => ?_)).trans (h.blk k hk hn), hf.os.trans h.os, hf.tape.trans h.tape, hf.output.trans h.output⟩
  rcases hD k hA with h1 | h1
  · exact hn h1
  · omega
theorem DX.dw (h : DX 5 w ed q s ops κ m A L D) : DW w w ed q s m A D := ⟨⟨ops, κ, L, D, h, fun _ hk => .inl hk⟩, Fr.refl _ _⟩
theorem DW.up (h : DW w0 w ed q s m A D) (hb : Below w.heap.size w w') : DW w0 w' ed q s m A D := by
  obtain ⟨ops, κ, L, D', h1, h2⟩ := h.dx
  exact ⟨⟨ops, κ, L, D', h1.up hb, h2⟩, h.fr.trans (Fr.of_below hb)⟩
theorem DW.more (h : DW w0 w ed q s m A D) {m' : Nat} (hm : m ≤ m') : DW w0 w ed q s m' A D := by
  obtain ⟨ops, κ, L, D', h1, h2⟩ := h.dx
  exact ⟨⟨ops, κ, L, D', h1.more hm, h2⟩, h.fr⟩
theorem DW.trans {w1 : World} {D1 : Nat → Prop} (h1 : ∀ k, D1 k → D k ∨ w0.heap.size ≤ k) (hf : Fr D w0 w1) (h2 : DW w1 w ed q s m A D1) : DW w0 w ed q s m A D := by
  obtain ⟨ops', κ', L', D', h3, h4⟩ := h2.dx
  have hz := hf.size
  refine ⟨⟨ops', κ', L', D', h3, fun k hk => ?_⟩, fr_step hf h1 h2.fr⟩
  rcases h4 k hk with h5 | h5
  · exact h1 k h5
  · exact .inr (by omega)
theorem dw_write (h : DW w0 w ed q s m A D) (hm : m ≤ 900000) {n : Nat} (hW : WrS A s n s') :
    Calls Tryz.prog 55 #[.pointer (some ⟨q, 0, none⟩), .int .i64 (n : Int)] w fun r w2 => r = .returned (.int .i64 0) ∧ DW w0 w2 ed q s' (m + 1) A D := by
  obtain ⟨ops, κ, L, D', h1, h2⟩ := h.dx
  have hz := h.fr.size
  refine (dx_write h1 hm hW).mono ?_
  rintro r w2 ⟨rfl, hf, ops', κ', L', h3⟩
  refine ⟨rfl, ⟨ops', κ', L', _, h3, fun k hk => ?_⟩, fr_step h.fr h2 hf⟩
  rcases hk with hk | hk
  · exact h2 k hk
  · exact .inr (by omega)
theorem dw_flush (h : DW w0 w ed q s m A D) (hm : 1 ≤ m) (hF : FlS A s s') :
    Calls Tryz.prog 56 #[.pointer (some ⟨q, 0, none⟩)] w fun r w2 => r = .returned (.int .i64 0) ∧ DW w0 w2 ed q s' m A D := by
  obtain ⟨ops, κ, L, D', h1, h2⟩ := h.dx
  have hz := h.fr.size
  refine (dx_flush h1 hm hF).mono ?_
  rintro r w2 ⟨rfl, hf, ops', κ', L', h3⟩
  refine ⟨rfl, ⟨ops', κ', L', _, h3, fun k hk => ?_⟩, fr_step h.fr h2 hf⟩
  rcases hk with hk | hk
  · exact h2 k hk
  · exact .inr (by omega)
theorem dw_ready (h : DW w0 w ed q s m A D) (n : Nat) :
    Calls Tryz.prog 73 #[.pointer (some ⟨q, 0, none⟩), .int .i64 (n : Int)] w fun r w' => r = .returned (.int .i64 (rdyN s.C n : Int)) ∧ DW w0 w' ed q s m A D := by
  obtain ⟨ops, κ, L, D', h1, h2⟩ := h.dx
  refine (dx_ready h1 n).mono ?_
  rintro r w2 ⟨rfl, hb⟩
  exact ⟨rfl, h.up hb⟩
theorem StS.inv {x : Int} {a : Nat} (h : StS A s x s' a) : ∃ n : Nat, x = (n : Int) ∧ ((rdyN s.C n = 0 ∧ s = s' ∧ a = 0) ∨ (rdyN s.C n ≠ 0 ∧ WrS A s n s' ∧ a = 1)) := by
  cases h with
  | no h1 => exact ⟨_, rfl, .inl ⟨h1, rfl, rfl⟩⟩
  | yes h1 h2 => exact ⟨_, rfl, .inr ⟨h1, h2, rfl⟩⟩
theorem FoS.inv {x : Int} {l : List Int} {a : Nat} (h : FoS A s (x :: l) s' a) : ∃ s1 b c, StS A s x s1 b ∧ FoS A s1 l s' c ∧ b + c = a := by
  cases h with
  | cons h1 h2 => exact ⟨_, _, _, h1, h2, rfl⟩
theorem FoS.inv0 {a : Nat} (h : FoS A s [] s' a) : s = s' ∧ a = 0 := by
  cases h with
  | nil => exact ⟨rfl, rfl⟩
theorem FoS.le {l : List Int} {a : Nat} (h : FoS A s l s' a) : a ≤ l.length := by
  induction h with
  | nil => exact Nat.le_refl _
  | cons h1 _ ih =>
    rw [List.length_cons]
    cases h1 <;> omega
theorem RdS.le {nx : List Ch → List Int → Prop} {n : Nat} (h : RdS nx A s s' n) : n ≤ 5 * s.C.length := by
  induction h with
  | done _ => omega
  | step _ _ h5 h1 _ hl _ ih =>
    have := h1.le
    omega
theorem RdS.inv {nx : List Ch → List Int → Prop} {n : Nat} (h : RdS nx A s s' n) : (nx s.C [] ∧ s = s' ∧ n = 0) ∨ ∃ L s1 s2 k n', nx s.C L ∧ 1 ≤ L.length ∧ L.length ≤ 5 ∧ FoS A s L s1 k ∧ FlS A s1 s2 ∧ s2.C.length + 1 ≤ s.C.length ∧ RdS nx A s2 s' n' ∧ n = k + n' := by
  cases h with
  | done h1 => exact .inl ⟨h1, rfl, rfl⟩
  | step h1 h2 h3 h4 h5 h6 h7 => exact .inr ⟨_, _, _, _, _, h1, h2, h3, h4, h5, h6, h7, rfl⟩
set_option maxHeartbeats 8000000 in
theorem rround_any (h : DX 5 w ed q s ops κ m A L D) (hm : m ≤ 800000) (hm1 : 1 ≤ m) {xs : List Int} {s1 s2 : PSt} {k : Nat} (hfo : FoS A s xs s1 k) (hfl : FlS A s1 s2) (hxl : xs.length ≤ 5) (ao : Option Addr) (ca : Nat) (hsr : SrcI w ao xs) (hno : ∀ b o, ao = some ⟨b, o, none⟩ → ¬ D b ∧ b < w.heap.size) :
    Calls Tryz.prog 103 #[.pointer (some ⟨q, 0, none⟩), .slice ao xs.length ca] w fun e w' => e = .returned (.int .i64 (k : Int)) ∧ DW w w' ed q s2 (m + 5) A D := by
  have HR : Hid (SrcI w ao xs ∧ (∀ b o, ao = some ⟨b, o, none⟩ → ¬ D b ∧ b < w.heap.size)) := ⟨hsr, hno⟩
  have HFL : Hid (FlS A s1 s2) := hfl
  have H0 : Hid (DW w w ed q s m A D ∧ FoS A s xs s1 k) := ⟨h.dw, hfo⟩
  have HM : Hid (m ≤ 800000 ∧ 1 ≤ m) := ⟨hm, hm1⟩
  have hx5 : (xs.length : Int) ≤ 5 := by omega
  clear h hsr hno hfl hfo hxl hm hm1
  go_enter Tryz.func103, Tryz.ntmps103
  go_wp2_with fail
  go_loopg [5, 6] 5 (fun gg t5 t6 W => ∃ (gw : World) (j n2 r2 : Nat) (s3 : PSt), gw = W ∧ t6 = .int .i64 j ∧ t5 = .int .i64 n2 ∧ j ≤ xs.length ∧ xs.length - j ≤ gg ∧ n2 ≤ j ∧ Hid (FoS A s3 (xs.drop j) s1 r2 ∧ n2 + r2 = k ∧ DW w gw ed q s3 (m + j) A D))
  case atStart => exact ⟨_, 0, 0, k, s, rfl, rfl, rfl, by omega, by omega, by omega, H0.out.2, by omega, H0.out.1⟩
  case round =>
    clear H0
    obtain ⟨gw, j, n2, r2, s3, rfl, rfl, rfl, hj, hgj, hn2, HG⟩ := hrel
    by_cases hjl : (j : Int) < (xs.length : Int)
    · obtain ⟨yb, yo, nb, s4, a, b, hao, hcell, hst, hfo, hab⟩ : ∃ yb yo, ∃ nb : Nat, ∃ (s4 : PSt) (a b : Nat), ao = some ⟨yb, yo, none⟩ ∧ (∀ W, Fr D w W → W.cell? ⟨yb, yo + j, none⟩ = some (.int .i64 (nb : Int))) ∧ ((rdyN s3.C nb = 0 ∧ s3 = s4 ∧ a = 0) ∨ (rdyN s3.C nb ≠ 0 ∧ WrS A s3 nb s4 ∧ a = 1)) ∧ FoS A s4 (xs.drop (j + 1)) s1 b ∧ a + b = r2 := by
        have hjn : j < xs.length := by omega
        obtain ⟨f1, f2, f3⟩ := HG.out
        rw [List.drop_eq_getElem_cons hjn] at f1
        obtain ⟨s4, a, b, g1, g2, g3⟩ := f1.inv
        obtain ⟨nb, e1, g4⟩ := g1.inv
        rcases HR.out.1 with e | ⟨yb, yo, e, hl, hcc⟩
        · have : xs.length = 0 := by rw [e]; rfl
          omega
        · refine ⟨yb, yo, nb, s4, a, b, e, fun W hW => ?_, g4, g2, g3⟩
          rw [fr_cell hW (a := ⟨yb, yo + j, none⟩) hl (HR.out.2 yb yo e).1]
          rw [← e1]
          have := hcc j hjn
          rw [List.getD_eq_getElem?_getD, List.getElem?_eq_getElem hjn] at this
          exact this
      have hyc := hcell _ HG.out.2.2.fr
      have HCELL : Hid (∀ W, Fr D w W → W.cell? ⟨yb, yo + j, none⟩ = some (.int .i64 (nb : Int))) := hcell
      have HFO : Hid (FoS A s4 (xs.drop (j + 1)) s1 b ∧ n2 + (a + b) = k) := ⟨hfo, by rw [hab]; exact HG.out.2.1⟩
      have RY := dw_ready HG.out.2.2 nb
      subst hao
      clear hcell hfo hab
      obtain ⟨rd, hrd⟩ : ∃ rd, rdyN s3.C nb = rd := ⟨_, rfl⟩
      rw [hrd] at RY hst
      clear hrd
      have HM5 : Hid (m + j ≤ 900000) := by show _ ≤ _; have := HM.out.1; omega
      rcases hst with ⟨e1, e2, e3⟩ | ⟨e1, e2, e3⟩
      · subst e1; subst e2; subst e3
        go_wp2_with (first | (go_at_call 73; refine Hid.out ?_))
        change Calls _ _ _ _ _
        refine RY.mono ?_
        clear RY
        rintro r w3 ⟨rfl, h3⟩
        have H3 : Hid (DW w w3 ed q s3 (m + j) A D) := h3
        clear h3
        go_wp2_with fail
        go_roundg (xs.length - (j + 1))
        case measure => omega
        case rel => exact ⟨_, j + 1, n2, b, s3, rfl, by go_num, rfl, by omega, by omega, by omega, HFO.out.1, by have := HFO.out.2; omega, H3.out.more (by omega)⟩
      · subst e3
        have HW4 : Hid (WrS A s3 nb s4) := e2
        have hrd0 : (0 : Int) < (rd : Int) := by omega
        clear e1 e2
        go_wp2_with (first | (go_at_call 73; refine Hid.out ?_))
        change Calls _ _ _ _ _
        refine RY.mono ?_
        clear RY
        rintro r w3 ⟨rfl, h3⟩
        have hyc3 := HCELL.out _ h3.fr
        have WR := dw_write h3 HM5.out HW4.out
        clear h3
        go_wp2_with (first | (go_at_call 55; refine Hid.out ?_))
        change Calls _ _ _ _ _
        refine WR.mono ?_
        clear WR
        rintro r w4 ⟨rfl, h4⟩
        have H4 : Hid (DW w w4 ed q s4 (m + (j + 1)) A D) := h4
        clear h4
        go_wp2_with fail
        go_roundg (xs.length - (j + 1))
        case measure => omega
        case rel => exact ⟨_, j + 1, n2 + 1, b, s4, rfl, by go_num, by go_num, by omega, by omega, by omega, HFO.out.1, by have := HFO.out.2; omega, H4.out⟩
    · obtain ⟨hs3, hk⟩ : s3 = s1 ∧ n2 = k := by
        obtain ⟨f1, f2, _⟩ := HG.out
        rw [List.drop_eq_nil_of_le (by omega)] at f1
        obtain ⟨g1, g2⟩ := f1.inv0
        exact ⟨g1, by omega⟩
      subst hs3; subst hk
      have FL := dw_flush HG.out.2.2 (by have := HM.out.2; omega) HFL.out
      go_wp2_with (first | (go_at_call 56; refine Hid.out ?_))
      change Calls _ _ _ _ _
      refine FL.mono ?_
      clear FL
      rintro r w5 ⟨rfl, h5⟩
      have H5 : Hid (DW w w5 ed q s2 (m + 5) A D) := h5.more (by omega)
      clear h5
      go_wp2_with fail
      go_ret
      exact ⟨rfl, H5.out⟩
end
end Go.Proofs.YtadadidccbhopaaGreat
/- The document's push: One and All. -/
namespace Go.Proofs.YtadadidccbhopaaGreat
open Go.RowKit
set_option maxRecDepth 100000
section
variable {w0 w w' : World} {ed q : Nat} {s s' : PSt} {ops : Nat → List Int} {κ m : Nat} {A : Nat → List Int} {L : List RCh} {D : Nat → Prop}
theorem DX.base (h : DX 5 w ed q s ops κ m A L D) : ∃ gB cB : Nat, 5 ≤ (cB : Int) ∧ (cB : Int) ≤ 9223372036854775807 ∧ ∀ W, Below w.heap.size w W → W.cell? ⟨q, 1, none⟩ = some (.slice (some ⟨gB, 0, none⟩) 5 cB) := by
  obtain ⟨d, gB, cB, ao, ca, hR, hB, hk⟩ := h.lok
  have hl : (basS 5 s).length = 5 := by unfold basS; simp
  have hc := hB.cap
  rw [hl] at hR hc
  refine ⟨gB, cB, by have := hc.1; omega, hc.2, fun W hW => (cell_of_row _ _ _ _ _ _ (hR.up hW).at').trans rfl⟩
theorem DX.b5 (h : DX 5 w ed q s ops κ m A L D) : ∀ c ∈ s.C, c.b < 5 := fun c hc => by
  obtain ⟨b, hb, e⟩ := h.gw.pl.cb c hc
  have h1 := h.gw.pl.bdn b hb
  have h2 := h.gw.dn
  omega
set_option maxHeartbeats 16000000 in
theorem rone_any (h : DX 5 w ed q s ops κ m A L D) (id : Int) {n : Nat} (hm : m + 5 * s.C.length ≤ 700000) (hm1 : 1 ≤ m) (hr : RdS (nxOne id) A s s' n) :
    Calls Tryz.prog 40 #[.pointer (some ⟨q, 0, none⟩), .int .i64 id] w fun e w' => e = .returned (.int .i64 (n : Int)) ∧ DW w w' ed q s' (m + 5 * s.C.length) A D := by
  have hc1000 : s.C.length ≤ 1000 := by have := h.len; have := h.al.len; omega
  obtain ⟨M, hM⟩ : ∃ M, M = m + 5 * s.C.length := ⟨_, rfl⟩
  rw [← hM] at hm ⊢
  have HM : Hid (M ≤ 700000) := hm
  have hn : n ≤ 5000 := by have := hr.le; omega
  have HN5 : Hid (n ≤ 5000) := hn
  have H0 : Hid (DW w w ed q s m A D ∧ RdS (nxOne id) A s s' n ∧ m + 5 * s.C.length ≤ M ∧ 1 ≤ m) := ⟨h.dw, hr, by omega, hm1⟩
  obtain ⟨N, hN⟩ : ∃ N, N = s.C.length := ⟨_, rfl⟩
  have HN : Hid (s.C.length ≤ N) := by show _ ≤ _; omega
  clear h hr hm hm1 hM hN hc1000 hn
  go_enter Tryz.func40, Tryz.ntmps40
  go_wp2_with fail
  go_loopg [5, 6, 7, 8, 9, 10, 11, 12] N (fun gg t5 _ _ _ _ _ _ _ W => ∃ (gw : World) (n1 r1 m1 : Nat) (s1 : PSt), gw = W ∧ t5 = .int .i64 n1 ∧ n1 ≤ 5000 ∧ Hid (s1.C.length ≤ gg) ∧ Hid (RdS (nxOne id) A s1 s' r1 ∧ n1 + r1 = n ∧ m1 + 5 * s1.C.length ≤ M ∧ 1 ≤ m1 ∧ DW w gw ed q s1 m1 A D))
  case atStart => exact ⟨_, 0, n, m, s, rfl, rfl, by omega, HN.out, H0.out.2.1, by omega, H0.out.2.2.1, H0.out.2.2.2, H0.out.1⟩
  case round =>
    clear H0 HN
    obtain ⟨gw, n1, r1, m1, s1, rfl, rfl, hn1, HGG, HG⟩ := hrel
    obtain ⟨ops1, κ1, L1, D1, hD1, hD1D⟩ := HG.out.2.2.2.2.dx
    have HD1 : Hid (DX 5 gw ed q s1 ops1 κ1 m1 A L1 D1 ∧ (∀ k, D1 k → D k ∨ w.heap.size ≤ k)) := ⟨hD1, hD1D⟩
    have WT := dx_waits hD1 id
    clear hD1 hD1D
    go_wp2_with (first | (go_at_call 77; refine Hid.out ?_))
    change Calls _ _ _ _ _
    refine WT.mono ?_
    clear WT
    rintro r W2 ⟨v, xs, rfl, hO, hmx, hxl, hb⟩
    obtain ⟨ao, ca, rfl, hsr, _⟩ := hO.form
    have HX : Hid (SrcI W2 ao xs ∧ (∀ x, x ∈ xs ↔ Rch s1.C id x) ∧ Below gw.heap.size gw W2) := ⟨hsr, hmx, hb⟩
    have hxl' : (xs.length : Int) ≤ 1000 := by omega
    clear hO hsr hmx hb hxl
    by_cases hx0 : xs = []
    · obtain ⟨e1, e2⟩ : s1 = s' ∧ n1 = n := by
        obtain ⟨f1, f2, _⟩ := HG.out
        rcases f1.inv with ⟨_, e1, e2⟩ | ⟨Lx, _, _, _, _, g1, g2, _⟩
        · exact ⟨e1, by omega⟩
        · exfalso
          cases Lx with
          | nil => simp at g2
          | cons x l =>
            obtain ⟨c, hc, hr, _⟩ := (g1.2 x).1 (by simp)
            have := (HX.out.2.1 _).2 hr
            rw [hx0] at this
            cases this
      subst e1; subst e2; subst hx0
      have HE : Hid (DW w W2 ed q s1 M A D) := (HG.out.2.2.2.2.up HX.out.2.2).more (by have := HG.out.2.2.1; omega)
      go_wp2_with fail
      go_ret
      exact ⟨rfl, HE.out⟩
    · obtain ⟨Lx, s2, s3, k, r3, hnx, _, hL5, hfo, hfl, hlt, hrd, hk⟩ : ∃ Lx s2 s3 k r3, nxOne id s1.C Lx ∧ 1 ≤ Lx.length ∧ Lx.length ≤ 5 ∧ FoS A s1 Lx s2 k ∧ FlS A s2 s3 ∧ s3.C.length + 1 ≤ s1.C.length ∧ RdS (nxOne id) A s3 s' r3 ∧ r1 = k + r3 := by
        rcases HG.out.1.inv with ⟨g1, _, _⟩ | h
        · exfalso
          obtain ⟨x, hx⟩ : ∃ x, x ∈ xs := by
            cases xs with
            | nil => exact absurd rfl hx0
            | cons x l => exact ⟨x, by simp⟩
          have hR := (HX.out.2.1 x).1 hx
          obtain ⟨c, hc, e⟩ := opn_iff.1 hR.opn
          have := (g1.2 _).2 ⟨c, hc, by rw [e]; exact hR, rfl⟩
          cases this
        · exact h
      have HS : Hid (nxOne id s1.C Lx ∧ Lx.length ≤ 5 ∧ FoS A s1 Lx s2 k ∧ FlS A s2 s3 ∧ s3.C.length + 1 ≤ s1.C.length ∧ RdS (nxOne id) A s3 s' r3 ∧ r1 = k + r3) := ⟨hnx, hL5, hfo, hfl, hlt, hrd, hk⟩
      have hx0b : ((xs.length : Int) == 0) = false := by
        simp; exact hx0
      have hk5 : (n1 : Int) + (k : Int) ≤ 5000 := by have := HG.out.2.1; have := HN5.out; omega
      clear hnx hL5 hfo hfl hlt hrd hk hx0
      obtain ⟨gB, cB, hcB, hcB2, hbase⟩ := (HD1.out.1.up HX.out.2.2).base
      have HBASE : Hid (∀ W, Below W2.heap.size W2 W → W.cell? ⟨q, 1, none⟩ = some (.slice (some ⟨gB, 0, none⟩) 5 cB)) := hbase
      clear hbase
      go_wp2_with fail
      go_loopg [7, 8, 9, 10, 11, 12] 5 (fun gg t7 t8 _ _ _ _ W => ∃ (g2 : World) (j : Nat) (B : List Int) (v : Value), g2 = W ∧ v = t7 ∧ (∃ i1 c1, v = .slice i1 B.length c1) ∧ t8 = .int .i64 j ∧ j ≤ 5 ∧ 5 - j ≤ gg ∧ Hid (Below W2.heap.size W2 g2 ∧ OwnI g2 W2.heap.size v B ∧ B.length ≤ j ∧ B.Pairwise (· < ·) ∧ ∀ x, x ∈ B ↔ ∃ c ∈ s1.C, Rch s1.C id c.id ∧ (c.b : Int) = x ∧ c.b < j))
      case atStart => exact ⟨_, 0, [], _, rfl, rfl, ⟨none, 0, rfl⟩, rfl, by omega, by omega, Below.refl _ _, OwnI.nil _ _, Nat.le_refl _, List.Pairwise.nil, fun x => by simp⟩
      case round =>
        obtain ⟨g2, j, B, v, rfl, rfl, ⟨i1, c1, rfl⟩, rfl, hj, hgj, H3⟩ := hrel
        have cq := HBASE.out g2 H3.out.1
        by_cases hj5 : (j : Int) < 5
        · go_wp2_with fail
          go_loopg [9, 10, 11, 12] 1000 (fun gg t9 t10 _ _ W => ∃ (g3 : World) (i : Nat) (b0 : Bool), g3 = W ∧ t9 = .bool b0 ∧ t10 = .int .i64 i ∧ i ≤ xs.length ∧ xs.length - i ≤ gg ∧ Hid (Below W2.heap.size W2 g3 ∧ OwnI g3 W2.heap.size (.slice i1 B.length c1) B ∧ (b0 = true ↔ ∃ c ∈ s1.C, (c.id : Int) ∈ xs.take i ∧ c.b = j)))
          case atStart => exact ⟨_, 0, false, rfl, rfl, rfl, by omega, by omega, H3.out.1, H3.out.2.1, by simp⟩
          case round =>
            obtain ⟨g3, i, b0, rfl, rfl, rfl, hi, hgi, H4⟩ := hrel
            by_cases hil : (i : Int) < (xs.length : Int)
            · obtain ⟨yb, yo, c, hao, hyc, hcm, htk⟩ : ∃ yb yo, ∃ c : Ch, ao = some ⟨yb, yo, none⟩ ∧ g3.cell? ⟨yb, yo + i, none⟩ = some (.int .i64 (c.id : Int)) ∧ c ∈ s1.C ∧ xs.take (i + 1) = xs.take i ++ [(c.id : Int)] := by
                rcases HX.out.1 with e | ⟨yb, yo, e, hl, hcc⟩
                · have : xs.length = 0 := by rw [e]; rfl
                  omega
                · have hjn : i < xs.length := by omega
                  obtain ⟨c, hc, e2⟩ := opn_iff.1 ((HX.out.2.1 _).1 (getD_mem hjn)).opn
                  refine ⟨yb, yo, c, e, ?_, hc, ?_⟩
                  · rw [e2]; exact (H4.out.1.cell (p := ⟨yb, yo + i, none⟩) hl).trans (hcc i hjn)
                  · rw [List.take_add_one, List.getElem?_eq_getElem hjn, e2, List.getD_eq_getElem?_getD, List.getElem?_eq_getElem hjn]
                    rfl
              subst hao
              have BK := dx_block ((HD1.out.1.up HX.out.2.2).up H4.out.1) hcm
              have HTK : Hid (c ∈ s1.C ∧ xs.take (i + 1) = xs.take i ++ [(c.id : Int)]) := ⟨hcm, htk⟩
              have HAB : Hid (∀ d ∈ s1.C, (d.id : Int) ∈ xs.take (i + 1) ↔ ((d.id : Int) ∈ xs.take i ∨ d = c)) := by
                intro d hd
                rw [htk, List.mem_append, List.mem_singleton]
                refine or_congr Iff.rfl ⟨fun e => HD1.out.1.gw.pl.asc.inj hd hcm (by omega), fun e => by rw [e]⟩
              clear hcm htk
              go_wp2_with (first | (go_at_call 71; refine Hid.out ?_))
              change Calls _ _ _ _ _
              refine BK.mono ?_
              clear BK
              rintro r w4 ⟨rfl, hw4⟩
              obtain rfl : g3 = w4 := hw4.symm
              cases b0 with
              | true =>
                have H5 : Hid (∃ c ∈ s1.C, (c.id : Int) ∈ xs.take (i + 1) ∧ c.b = j) := by
                  obtain ⟨d, hd, h1, h2⟩ := H4.out.2.2.1 rfl
                  exact ⟨d, hd, (HAB.out d hd).2 (.inl h1), h2⟩
                go_wp2_with fail
                go_roundg (xs.length - (i + 1))
                case measure => omega
                case rel => exact ⟨_, i + 1, true, rfl, rfl, by go_num, by omega, by omega, H4.out.1, H4.out.2.1, fun _ => H5.out, fun _ => rfl⟩
              | false =>
                have H5 : Hid (((c.b : Int) == (j : Int)) = true ↔ ∃ c ∈ s1.C, (c.id : Int) ∈ xs.take (i + 1) ∧ c.b = j) := by
                  constructor
                  · intro e
                    have e' : c.b = j := by have := eq_of_beq e; omega
                    exact ⟨c, HTK.out.1, (HAB.out c HTK.out.1).2 (.inr rfl), e'⟩
                  · rintro ⟨d, hd, h1, h2⟩
                    rcases (HAB.out d hd).1 h1 with h1 | h1
                    · exact absurd (H4.out.2.2.2 ⟨d, hd, h1, h2⟩) (by simp)
                    · subst h1; simp; omega
                go_wp2_with fail
                go_roundg (xs.length - (i + 1))
                case measure => omega
                case rel => exact ⟨_, i + 1, ((c.b : Int) == (j : Int)), rfl, rfl, by go_num, by omega, by omega, H4.out.1, H4.out.2.1, H5.out⟩
            · have HT : Hid (b0 = true ↔ ∃ c ∈ s1.C, Rch s1.C id c.id ∧ c.b = j) := by
                show _ ↔ _
                rw [H4.out.2.2, List.take_of_length_le (by omega)]
                exact ⟨fun ⟨c, h1, h2, h3⟩ => ⟨c, h1, (HX.out.2.1 _).1 h2, h3⟩, fun ⟨c, h1, h2, h3⟩ => ⟨c, h1, (HX.out.2.1 _).2 h2, h3⟩⟩
              cases b0 with
              | false =>
                have H6 : Hid (∀ x, x ∈ B ↔ ∃ c ∈ s1.C, Rch s1.C id c.id ∧ (c.b : Int) = x ∧ c.b < j + 1) := by
                  intro x
                  rw [H3.out.2.2.2.2 x]
                  constructor
                  · rintro ⟨c, h1, h2, h3, h4⟩; exact ⟨c, h1, h2, h3, by omega⟩
                  · rintro ⟨c, h1, h2, h3, h4⟩
                    by_cases e : c.b = j
                    · exact absurd (HT.out.2 ⟨c, h1, h2, e⟩) (by simp)
                    · exact ⟨c, h1, h2, h3, by omega⟩
                go_wp2_with fail
                go_roundg (5 - (j + 1))
                case measure => omega
                case rel => exact ⟨_, j + 1, B, _, rfl, rfl, ⟨i1, c1, rfl⟩, by go_num, by omega, by omega, H4.out.1, H4.out.2.1, by have := H3.out.2.2.1; omega, H3.out.2.2.2.1, H6.out⟩
              | true =>
                go_wp2_with (first | (at_builtin; refine Hid.out ?_))
                change wpList _ _ _ _ _ _
                refine wpList_append_iG rfl (.tmp 51) (.tmp 53) rfl W2.heap.size B (j : Int) _ rfl _ _ rfl (row_same H4.out.2.1 (fun l hl => Below.heap_alloc _ _ _ (H4.out.2.1.lt l hl).2)) (heap_alloc_new _ _) (by have := H4.out.1.size; rw [size_alloc]; omega) (by have := H3.out.2.2.1; omega) ?_
                intro G1 k1 w6 ho6 hg6 hat6
                have H6 : Hid (Below W2.heap.size W2 w6 ∧ OwnI w6 W2.heap.size (.slice (some ⟨G1, 0, none⟩) (B.length + 1) k1) (B ++ [(j : Int)]) ∧ (B ++ [(j : Int)]).length ≤ j + 1 ∧ (B ++ [(j : Int)]).Pairwise (· < ·) ∧ ∀ x, x ∈ B ++ [(j : Int)] ↔ ∃ c ∈ s1.C, Rch s1.C id c.id ∧ (c.b : Int) = x ∧ c.b < j + 1) := by
                  refine ⟨(H4.out.1.alloc H4.out.1.size _).trans ((Below.refl _ _).grown hg6 (Nat.le_trans H4.out.1.size (by rw [size_alloc]; omega)) (fun k hk => (H4.out.2.1.lt k hk).1)), ho6, by rw [List.length_append]; have := H3.out.2.2.1; simp; omega, ?_, fun x => ?_⟩
                  · rw [List.pairwise_append]
                    refine ⟨H3.out.2.2.2.1, by simp, fun a ha b hb => ?_⟩
                    obtain ⟨c, _, _, h3, h4⟩ := (H3.out.2.2.2.2 a).1 ha
                    rw [List.mem_singleton.1 hb]
                    omega
                  · rw [List.mem_append, H3.out.2.2.2.2 x, List.mem_singleton]
                    constructor
                    · rintro (⟨c, h1, h2, h3, h4⟩ | h1)
                      · exact ⟨c, h1, h2, h3, by omega⟩
                      · obtain ⟨c, h2, h3, h4⟩ := HT.out.1 (by simp)
                        exact ⟨c, h2, h3, by omega, by omega⟩
                    · rintro ⟨c, h1, h2, h3, h4⟩
                      by_cases e : c.b = j
                      · exact .inr (by omega)
                      · exact .inl ⟨c, h1, h2, h3, by omega⟩
                clear ho6 hg6 hat6
                go_wp2_with fail
                go_roundg (5 - (j + 1))
                case measure => omega
                case rel => exact ⟨_, j + 1, B ++ [(j : Int)], _, rfl, rfl, ⟨some ⟨G1, 0, none⟩, k1, by simp⟩, by go_num, by omega, by omega, H6.out⟩
        · have hB : B = Lx := by
            refine asc_ext H3.out.2.2.2.1 HS.out.1.1 fun x => ?_
            rw [H3.out.2.2.2.2 x, HS.out.1.2 x]
            constructor
            · rintro ⟨c, h1, h2, h3, _⟩; exact ⟨c, h1, h2, h3⟩
            · rintro ⟨c, h1, h2, h3⟩; exact ⟨c, h1, h2, h3, by have := HD1.out.1.b5 c h1; omega⟩
          subst hB
          have hX2 := (HD1.out.1.up HX.out.2.2).up H3.out.1
          have hzD : ∀ k, D1 k → k < gw.heap.size := HD1.out.1.ltD
          obtain ⟨i1', c1', e1, hsr, _⟩ := H3.out.2.1.form
          have RR := rround_any hX2 (by have := HG.out.2.2.1; have := HM.out; omega) HG.out.2.2.2.1 HS.out.2.2.1 HS.out.2.2.2.1 HS.out.2.1 i1' c1' hsr (fun b o e => by
            have hOw := H3.out.2.1
            rw [e1, e] at hOw
            rcases (own_at hOw).2 with ⟨e2, _⟩ | ⟨g, e2, e3, e4⟩
            · cases e2
            · cases e2
              refine ⟨fun hD => ?_, e4⟩
              have := hzD _ hD
              have := HX.out.2.2.size
              omega)
          rw [← e1] at RR
          have HX2 : Hid (DX 5 g2 ed q s1 ops1 κ1 m1 A L1 D1) := hX2
          clear hX2 hzD hsr e1
          go_wp2_with (first | (go_at_call 103; refine Hid.out ?_))
          change Calls _ _ _ _ _
          refine RR.mono ?_
          clear RR
          rintro r w5 ⟨rfl, h5⟩
          have H5 : Hid (DW w w5 ed q s3 (m1 + 5) A D) := DW.trans HD1.out.2 ((HG.out.2.2.2.2.fr.trans (Fr.of_below HX.out.2.2)).trans (Fr.of_below H3.out.1)) h5
          clear h5
          go_wp2_with fail
          go_roundg s3.C.length
          case measure => have := HS.out.2.2.2.2.1; have := HGG.out; omega
          case rel => exact ⟨_, n1 + k, r3, m1 + 5, s3, rfl, by go_num, by omega, Nat.le_refl _, HS.out.2.2.2.2.2.1, by have := HG.out.2.1; have := HS.out.2.2.2.2.2.2; omega, by have := HG.out.2.2.1; have := HS.out.2.2.2.2.1; omega, by omega, H5.out⟩
end
end Go.Proofs.YtadadidccbhopaaGreat
/- The document's push: All. -/
namespace Go.Proofs.YtadadidccbhopaaGreat
open Go.RowKit
set_option maxRecDepth 100000
section
variable {w0 w w' : World} {ed q : Nat} {s s' : PSt} {ops : Nat → List Int} {κ m : Nat} {A : Nat → List Int} {L : List RCh} {D : Nat → Prop}
set_option maxHeartbeats 8000000 in
theorem rall_any (h : DX 5 w ed q s ops κ m A L D) {n : Nat} (hm : m + 5 * s.C.length ≤ 700000) (hm1 : 1 ≤ m) (hr : RdS nxAl2 A s s' n) :
    Calls Tryz.prog 43 #[.pointer (some ⟨q, 0, none⟩)] w fun e w' => e = .returned (.int .i64 (n : Int)) ∧ DW w w' ed q s' (m + 5 * s.C.length) A D := by
  have hc1000 : s.C.length ≤ 1000 := by have := h.len; have := h.al.len; omega
  obtain ⟨M, hM⟩ : ∃ M, M = m + 5 * s.C.length := ⟨_, rfl⟩
  rw [← hM] at hm ⊢
  have HM : Hid (M ≤ 700000) := hm
  have hn : n ≤ 5000 := by have := hr.le; omega
  have HN5 : Hid (n ≤ 5000) := hn
  have H0 : Hid (DW w w ed q s m A D ∧ RdS nxAl2 A s s' n ∧ m + 5 * s.C.length ≤ M ∧ 1 ≤ m) := ⟨h.dw, hr, by omega, hm1⟩
  obtain ⟨N, hN⟩ : ∃ N, N = s.C.length := ⟨_, rfl⟩
  have HN : Hid (s.C.length ≤ N) := by show _ ≤ _; omega
  clear h hr hm hm1 hM hN hc1000 hn
  go_enter Tryz.func43, Tryz.ntmps43
  go_wp2_with fail
  go_loopg [3] N (fun gg t3 W => ∃ (gw : World) (n1 r1 m1 : Nat) (s1 : PSt), gw = W ∧ t3 = .int .i64 n1 ∧ n1 ≤ 5000 ∧ Hid (s1.C.length ≤ gg) ∧ Hid (RdS nxAl2 A s1 s' r1 ∧ n1 + r1 = n ∧ m1 + 5 * s1.C.length ≤ M ∧ 1 ≤ m1 ∧ DW w gw ed q s1 m1 A D))
  case atStart => exact ⟨_, 0, n, m, s, rfl, rfl, by omega, HN.out, H0.out.2.1, by omega, H0.out.2.2.1, H0.out.2.2.2, H0.out.1⟩
  case round =>
    clear H0 HN
    obtain ⟨gw, n1, r1, m1, s1, rfl, rfl, hn1, HGG, HG⟩ := hrel
    obtain ⟨ops1, κ1, L1, D1, hD1, hD1D⟩ := HG.out.2.2.2.2.dx
    have HD1 : Hid (DX 5 gw ed q s1 ops1 κ1 m1 A L1 D1 ∧ (∀ k, D1 k → D k ∨ w.heap.size ≤ k)) := ⟨hD1, hD1D⟩
    have hL1 := hD1.al.len
    obtain ⟨d, gB, cB, ao, ca, hR, hB, hk⟩ := hD1.lok
    have c2 := hR.c2
    have hca : (ca : Int) ≤ 9223372036854775807 := hR.ls.cap.2
    have hlk : (L1.length : Int) ≤ 1000 := by have := hk.len; omega
    have DT := dx_dirty hD1
    clear hD1 hD1D hR hB hk
    by_cases hx0 : L1 = []
    · obtain ⟨e1, e2⟩ : s1 = s' ∧ n1 = n := by
        obtain ⟨f1, f2, _⟩ := HG.out
        rcases f1.inv with ⟨_, e1, e2⟩ | ⟨Lx, _, _, _, _, g1, g2, _⟩
        · exact ⟨e1, by omega⟩
        · exfalso
          cases Lx with
          | nil => simp at g2
          | cons x l =>
            obtain ⟨c, hc, _⟩ := (g1.2 x).1 (by simp)
            have h1 := List.length_pos_of_mem hc
            rw [hx0] at hL1
            simp at hL1
            omega
      subst e1; subst e2; subst hx0
      clear hL1
      have HE : Hid (DW w gw ed q s1 M A D) := HG.out.2.2.2.2.more (by have := HG.out.2.2.1; omega)
      go_wp2_with fail
      go_ret
      exact ⟨rfl, HE.out⟩
    · obtain ⟨Lx, s2, s3, k, r3, hnx, _, hL5, hfo, hfl, hlt, hrd, hk⟩ : ∃ Lx s2 s3 k r3, nxAl2 s1.C Lx ∧ 1 ≤ Lx.length ∧ Lx.length ≤ 5 ∧ FoS A s1 Lx s2 k ∧ FlS A s2 s3 ∧ s3.C.length + 1 ≤ s1.C.length ∧ RdS nxAl2 A s3 s' r3 ∧ r1 = k + r3 := by
        rcases HG.out.1.inv with ⟨g1, _, _⟩ | h
        · exfalso
          have h1 := nxAll_nil (nxAl2_all g1)
          rw [h1] at hL1
          exact hx0 (List.eq_nil_of_length_eq_zero hL1)
        · exact h
      have HS : Hid (nxAl2 s1.C Lx ∧ Lx.length ≤ 5 ∧ FoS A s1 Lx s2 k ∧ FlS A s2 s3 ∧ s3.C.length + 1 ≤ s1.C.length ∧ RdS nxAl2 A s3 s' r3 ∧ r1 = k + r3) := ⟨hnx, hL5, hfo, hfl, hlt, hrd, hk⟩
      have hx0b : (0 : Int) < (L1.length : Int) := by
        have : L1.length ≠ 0 := fun e => hx0 (List.eq_nil_of_length_eq_zero e)
        omega
      have hk5 : (n1 : Int) + (k : Int) ≤ 5000 := by have := HG.out.2.1; have := HN5.out; omega
      clear hnx hL5 hfo hfl hlt hrd hk hx0 hL1
      go_wp2_with (first | (go_at_call 75; refine Hid.out ?_))
      change Calls _ _ _ _ _
      refine DT.mono ?_
      clear DT
      rintro r W2 ⟨v, xs, rfl, hO, hP, hmx, hb⟩
      have hB : xs = Lx := asc_ext hP HS.out.1.1 fun x => by rw [hmx x, HS.out.1.2 x]
      subst hB
      obtain ⟨i1, c1, rfl, hsr, _⟩ := hO.form
      have hX2 := HD1.out.1.up hb
      have hzD : ∀ k, D1 k → k < gw.heap.size := HD1.out.1.ltD
      have RR := rround_any hX2 (by have := HG.out.2.2.1; have := HM.out; omega) HG.out.2.2.2.1 HS.out.2.2.1 HS.out.2.2.2.1 HS.out.2.1 i1 c1 hsr (fun b o e => by
        rw [e] at hO
        rcases (own_at hO).2 with ⟨e2, _⟩ | ⟨g, e2, e3, e4⟩
        · cases e2
        · cases e2
          refine ⟨fun hD => ?_, e4⟩
          have := hzD _ hD
          omega)
      have HX2 : Hid (DX 5 W2 ed q s1 ops1 κ1 m1 A L1 D1 ∧ Below gw.heap.size gw W2) := ⟨hX2, hb⟩
      clear hX2 hzD hsr hO hP hmx hb
      go_wp2_with (first | (go_at_call 103; refine Hid.out ?_))
      change Calls _ _ _ _ _
      refine RR.mono ?_
      clear RR
      rintro r w5 ⟨rfl, h5⟩
      have H5 : Hid (DW w w5 ed q s3 (m1 + 5) A D) := DW.trans HD1.out.2 (HG.out.2.2.2.2.fr.trans (Fr.of_below HX2.out.2)) h5
      clear h5
      go_wp2_with fail
      go_roundg s3.C.length
      case measure => have := HS.out.2.2.2.2.1; have := HGG.out; omega
      case rel => exact ⟨_, n1 + k, r3, m1 + 5, s3, rfl, by go_num, by omega, Nat.le_refl _, HS.out.2.2.2.2.2.1, by have := HG.out.2.1; have := HS.out.2.2.2.2.2.2; omega, by have := HG.out.2.2.1; have := HS.out.2.2.2.2.1; omega, by omega, H5.out⟩
end
end Go.Proofs.YtadadidccbhopaaGreat
