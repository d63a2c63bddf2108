/- Package push: rounds. -/
import Derived.Test.YtadadidccbhopaaGreatKPblocks
import Derived.WalkMore
import Derived.Deep.CutBlock
import Derived.Deep.DeepCutAuto
namespace Go.Proofs.YtadadidccbhopaaGreat
open Go.RowKit
set_option maxRecDepth 100000
/-- How many changes of block n may be written and are not yet. -/
def rdyN (C : List Ch) (n : Nat) : Nat := (nwr (pickC (ofB C n) (alw C n))).length
/-- A block that is written if it is ready. -/
def stepW (C : List Ch) (x : Int) : List Ch × Nat := if rdyN C x.toNat = 0 then (C, 0) else (C.map (setW (alw C x.toNat)), 1)
/-- Blocks that are, one after another. -/
def foldW : List Ch → List Int → List Ch × Nat
  | C, [] => (C, 0)
  | C, x :: l => ((foldW (stepW C x).1 l).1, (stepW C x).2 + (foldW (stepW C x).1 l).2)
theorem foldW_snoc : ∀ (l : List Int) (C : List Ch) (x : Int), foldW C (l ++ [x]) = ((stepW (foldW C l).1 x).1, (foldW C l).2 + (stepW (foldW C l).1 x).2)
  | [], C, x => by simp [foldW]
  | y :: l, C, x => by
    rw [List.cons_append]
    simp only [foldW]
    rw [foldW_snoc l]
    simp only [Nat.add_assoc]
theorem stepW_le (C : List Ch) (x : Int) : (stepW C x).2 ≤ 1 := by unfold stepW; split <;> simp
theorem foldW_le : ∀ (l : List Int) (C : List Ch), (foldW C l).2 ≤ l.length
  | [], C => by simp [foldW]
  | y :: l, C => by
    simp only [foldW, List.length_cons]
    have := foldW_le l (stepW C y).1
    have := stepW_le C y
    omega
theorem setWs_same (al : List Int) (C : List Ch) : (C.map (setW al)).map (fun c => (c.id, c.b)) = C.map (fun c => (c.id, c.b)) := by
  rw [List.map_map]
  refine List.map_congr_left fun c _ => ?_
  have := setW_id al c
  show ((setW al c).id, (setW al c).b) = _
  rw [this.1, this.2]
theorem stepW_same (C : List Ch) (x : Int) : (stepW C x).1.map (fun c => (c.id, c.b)) = C.map (fun c => (c.id, c.b)) := by
  unfold stepW; split
  · rfl
  · exact setWs_same _ _
theorem foldW_same : ∀ (l : List Int) (C : List Ch), (foldW C l).1.map (fun c => (c.id, c.b)) = C.map (fun c => (c.id, c.b))
  | [], C => rfl
  | y :: l, C => by
    simp only [foldW]
    rw [foldW_same l, stepW_same]
theorem same_mem {C C' : List Ch} (h : C'.map (fun c => (c.id, c.b)) = C.map (fun c => (c.id, c.b))) {n : Nat} (hc : ∃ c ∈ C, c.b = n) : ∃ c ∈ C', c.b = n := by
  obtain ⟨c, hc, e⟩ := hc
  have : (c.id, c.b) ∈ C'.map (fun c => (c.id, c.b)) := by rw [h]; exact List.mem_map.2 ⟨c, hc, rfl⟩
  obtain ⟨c', hc', e'⟩ := List.mem_map.1 this
  exact ⟨c', hc', by have := (Prod.mk.inj e').2; omega⟩
/-- Rounds, till there are no next blocks: the changes ahead, those behind, how many writes. -/
inductive Rds (nx : List Ch → List Int → Prop) : List Ch → List Ch → Nat → Prop
  | done {C : List Ch} : nx C [] → Rds nx C C 0
  | step {C C' : List Ch} {L : List Int} {n : Nat} : nx C L → 1 ≤ L.length → Rds nx (nwr (foldW C L).1) C' n → Rds nx C C' ((foldW C L).2 + n)
section
variable {w0 w : World} {p dp : Nat} {s : PSt} {ops : Nat → List Int} {κ : Nat}
theorem gw_ready (h : GW w0 w p dp s ops κ) (hκ : κ ≤ 1000) (n : Nat) (hn : n < 5) (hc : ∃ c ∈ s.C, c.b = n) :
    Calls Tryz.prog 72 #[.pointer (some ⟨p, 0, none⟩), .int .i64 (n : Int)] w fun r w' => r = .returned (.int .i64 (rdyN s.C n : Int)) ∧ Below w.heap.size w w' := by
  obtain rfl : s.p = p := h.p
  obtain ⟨c, hc, rfl⟩ := hc
  obtain ⟨b, hb, hbn⟩ := h.pl.cb c hc
  exact pready_any h.pm h.pl (by omega) c.b (by rw [h.dn]; exact hn) hb hbn
theorem gw_write_ex (h : GW w0 w p dp s ops κ) (hκ : κ ≤ 1000) (n : Nat) (hn : n < 5) (hc : ∃ c ∈ s.C, c.b = n) :
    Calls Tryz.prog 26 #[.pointer (some ⟨p, 0, none⟩), .int .i64 (n : Int)] w fun r w' => ∃ s', r = .returned (.int .i64 0) ∧ GW w0 w' p dp s' ops (κ + 1) ∧ s'.C = s.C.map (setW (alw s.C n)) ∧ s'.cnt = s.cnt ∧ Fr (Ak s) w w' ∧ (∀ k, Ak s' k → Ak s k ∨ w.heap.size ≤ k) ∧ (∀ m, m ≠ n → lst s'.σ m = lst s.σ m) := by
  obtain rfl : s.p = p := h.p
  refine (pw_write h.pm h.pl (by omega) n (by rw [h.dn]; exact hn) hc).mono ?_
  rintro r w' ⟨rfl, s', hR, hL, hC, hcnt, hp, hdn, hsf, hws, hdp⟩
  exact ⟨s', rfl, h.run hR hL hp hdp hdn, hC, hcnt, hR.fr, hR.sub, fun m hm => by unfold lst; rw [hws, hsf]; unfold upd; rw [if_neg hm]⟩
theorem gw_flush_ex (h : GW w0 w p dp s ops κ) (hκ : κ ≤ 1000) :
    Calls Tryz.prog 27 #[.pointer (some ⟨p, 0, none⟩)] w fun r w' => ∃ s' ops', r = .returned (.int .i64 0) ∧ GW w0 w' p dp s' ops' (κ + 1) ∧ s'.C = nwr s.C ∧ s'.cnt = s.cnt ∧ Fr (Ak s) w w' ∧ (∀ k, Ak s' k → Ak s k ∨ w.heap.size ≤ k) ∧ (∀ m, lst s'.σ m = lst s.σ m) := by
  obtain rfl : s.p = p := h.p
  refine (pflush_any h.pm h.pl (by omega)).mono ?_
  rintro r w' ⟨rfl, s', ops', hR, hL, hC, hcnt, hp, hsf, hdn, _, hdp, hws⟩
  exact ⟨s', ops', rfl, h.run hR hL hp hdp hdn, hC, hcnt, hR.fr, hR.sub, fun m => by rw [show lst s'.σ m = s'.σ.sf m by unfold lst; rw [hws]; rfl, hsf]⟩
/-- A row of numbers that is none of the store's. -/
structure RowF (w : World) (s : PSt) (ao : Option Addr) (L : List Int) : Prop where
  sr : SrcI w ao L
  no : ∀ b o, ao = some ⟨b, o, none⟩ → ¬ Ak s b ∧ b < w.heap.size
theorem RowF.run {w' : World} {s' : PSt} {ao : Option Addr} {L : List Int} (h : RowF w s ao L) (hf : Fr (Ak s) w w') (hs : ∀ k, Ak s' k → Ak s k ∨ w.heap.size ≤ k) : RowF w' s' ao L := by
  have hz := hf.size
  refine ⟨?_, fun b o e => ?_⟩
  · rcases h.sr with e | ⟨b, o, e, hl, hc⟩
    · exact .inl e
    · have := h.no b o e
      exact .inr ⟨b, o, e, by omega, fun l hl2 => (fr_cell hf (a := ⟨b, o + l, none⟩) hl this.1).trans (hc l hl2)⟩
  · obtain ⟨h1, h2⟩ := h.no b o e
    refine ⟨fun hA => ?_, by omega⟩
    rcases hs b hA with h3 | h3
    · exact h1 h3
    · omega
theorem RowF.up {w' : World} {ao : Option Addr} {L : List Int} (h : RowF w s ao L) (hb : Below w.heap.size w w') : RowF w' s ao L := h.run (Fr.of_below hb) fun _ hk => .inl hk
/-- What next must answer. -/
def NextOk (w0 : World) (p dp f : Nat) (ba : Array Value) (nx : List Ch → List Int → Prop) : Prop :=
  ∀ (w : World) (s : PSt) (ops : Nat → List Int) (κ : Nat), GW w0 w p dp s ops κ → κ ≤ 900 →
    Calls Tryz.prog f ba w fun e w' => ∃ v L, e = .returned v ∧ OwnI w' w.heap.size v L ∧ nx s.C L ∧ L.length ≤ 5 ∧ (∀ x ∈ L, ∃ n : Nat, x = (n : Int) ∧ n < 5 ∧ ∃ c ∈ s.C, c.b = n) ∧ Below w.heap.size w w'
/-- One more change is safe, each round. -/
def NextGoes (nx : List Ch → List Int → Prop) : Prop :=
  ∀ C L, Asc C → (∀ c ∈ C, ∀ i ∈ c.ah, i < (c.id : Int)) → nx C L → 1 ≤ L.length → (nwr (foldW C L).1).length + 1 ≤ C.length
set_option maxHeartbeats 8000000 in
theorem rounds_anyJ (h : GW w0 w p dp s ops κ) (K0 : Nat) (hK : κ + 7 * s.C.length ≤ K0) (hK0 : K0 ≤ 900) (f : Nat) (ba : Array Value) (nx : List Ch → List Int → Prop) (hnx : NextOk w0 p dp f ba nx) (hgo : NextGoes nx)
    (eg : ∀ args w, (callFunc f args).run Tryz.prog w = .ok (.enter f args) w) (In : Nat → Prop) (J : PSt → Prop) (hJ : J s) (hJL : ∀ (s : PSt) (L : List Int), J s → nx s.C L → ∀ n : Nat, (n : Int) ∈ L → In n) (hJw : ∀ (s s' : PSt) (n : Nat), J s → In n → s'.C = s.C.map (setW (alw s.C n)) → (∀ m, m ≠ n → lst s'.σ m = lst s.σ m) → J s') (hJf : ∀ (s s' : PSt), J s → Asc s.C → (∀ c ∈ s.C, c.wr = true → ∀ i ∈ c.ah, opn s.C i = true → ∃ y ∈ s.C, (y.id : Int) = i ∧ y.b = c.b ∧ y.wr = true) → s'.C = nwr s.C → (∀ m, lst s'.σ m = lst s.σ m) → J s') :
    Calls Tryz.prog 101 #[.pointer (some ⟨p, 0, none⟩), .func (.func f) ba #[]] w fun e w' => ∃ (n : Nat) (s' : PSt) (ops' : Nat → List Int), e = .returned (.tuple #[.int .i64 (n : Int), .int .i64 0]) ∧ GW w0 w' p dp s' ops' K0 ∧ Rds nx s.C s'.C n ∧ s'.cnt = s.cnt ∧ Fr (Ak s) w w' ∧ (∀ k, Ak s' k → Ak s k ∨ w.heap.size ≤ k) ∧ J s' := by
  have HJ : Hid (J s) := hJ
  have HJS : Hid ((∀ (s : PSt) (L : List Int), J s → nx s.C L → ∀ n : Nat, (n : Int) ∈ L → In n) ∧ (∀ (s s' : PSt) (n : Nat), J s → In n → s'.C = s.C.map (setW (alw s.C n)) → (∀ m, m ≠ n → lst s'.σ m = lst s.σ m) → J s') ∧ (∀ (s s' : PSt), J s → Asc s.C → (∀ c ∈ s.C, c.wr = true → ∀ i ∈ c.ah, opn s.C i = true → ∃ y ∈ s.C, (y.id : Int) = i ∧ y.b = c.b ∧ y.wr = true) → s'.C = nwr s.C → (∀ m, lst s'.σ m = lst s.σ m) → J s')) := ⟨hJL, hJw, hJf⟩
  clear hJ hJL hJw hJf
  have HH : Hid (GW w0 w p dp s ops κ) := h
  have HNX : Hid (NextOk w0 p dp f ba nx) := hnx
  have HGO : Hid (NextGoes nx) := hgo
  have NX0 := hnx w s ops κ h (by omega)
  clear h hnx hgo
  go_enter Tryz.func101, Tryz.ntmps101
  go_wp2_with fail
  go_step3
  go_wp2_with fail
  go_step3
  go_wp2_with fail
  refine NX0.mono ?_
  clear NX0
  rintro r w1 ⟨v1, L1, rfl, hO1, hx1, hl1, hm1, hb1⟩
  obtain ⟨i1, c1, rfl, hsr1, _⟩ := hO1.form
  have H1 : Hid (GW w0 w1 p dp s ops κ ∧ nx s.C L1 ∧ (∀ x ∈ L1, ∃ n : Nat, x = (n : Int) ∧ n < 5 ∧ ∃ c ∈ s.C, c.b = n) ∧ RowF w1 s i1 L1 ∧ Below w.heap.size w w1) := by
    refine ⟨HH.out.up hb1, hx1, hm1, ⟨hsr1, fun b o e => ?_⟩, hb1⟩
    subst e
    rcases (own_at hO1).2 with ⟨e1, _⟩ | ⟨g, e1, e2, e3⟩
    · cases e1
    · cases e1; exact ⟨fun hA => by have := HH.out.pm.lt hA; omega, e3⟩
  have hl1' : (L1.length : Int) ≤ 5 := by omega
  clear hO1 hx1 hl1 hm1 hb1 hsr1
  obtain ⟨N, hN⟩ : ∃ N, N = s.C.length := ⟨_, rfl⟩
  have HN : Hid (N = s.C.length) := hN
  have hN900 : N ≤ 900 := by omega
  rw [← hN] at hK
  clear hN
  go_wp2_with fail
  go_loopg [6, 7, 8, 10] N (fun gg t6 t7 t8 _ W => ∃ (gw : World) (n κ' : Nat) (s' : PSt) (ops' : Nat → List Int) (L : List Int) (i1 : Option Addr) (c1 : Nat), gw = W ∧ t6 = .int .i64 n ∧ t7 = .int .i64 0 ∧ t8 = .slice i1 L.length c1 ∧ (L.length : Int) ≤ 5 ∧ n ≤ 5000 ∧ Hid (s'.C.length ≤ gg) ∧ Hid (κ' + 7 * s'.C.length ≤ K0 ∧ n + 5 * s'.C.length ≤ 5 * N) ∧ Hid (GW w0 gw p dp s' ops' κ' ∧ nx s'.C L ∧ (∀ x ∈ L, ∃ n : Nat, x = (n : Int) ∧ n < 5 ∧ ∃ c ∈ s'.C, c.b = n) ∧ RowF gw s' i1 L ∧ s'.cnt = s.cnt ∧ Fr (Ak s) w gw ∧ (∀ k, Ak s' k → Ak s k ∨ w.heap.size ≤ k) ∧ J s' ∧ ∀ C' m, Rds nx s'.C C' m → Rds nx s.C C' (n + m)))
  case atStart => exact ⟨_, 0, κ, s, ops, L1, i1, c1, rfl, rfl, rfl, rfl, hl1', by omega, by show _ ≤ _; rw [← HN.out]; exact Nat.le_refl _, ⟨by rw [← HN.out]; exact hK, by rw [← HN.out]; omega⟩, H1.out.1, H1.out.2.1, H1.out.2.2.1, H1.out.2.2.2.1, rfl, Fr.of_below H1.out.2.2.2.2, fun _ hk => .inl hk, HJ.out, fun C' m hr => by rw [Nat.zero_add]; exact hr⟩
  case round =>
    clear H1
    obtain ⟨gw, n, κ', s', ops', L, i1, c1, rfl, rfl, rfl, rfl, hl5, hn5, HM, HK, HG⟩ := hrel
    by_cases hL0 : (0 : Int) < (L.length : Int)
    · have HK' : Hid (κ' + 7 ≤ K0) := by
        obtain ⟨hg1, hg2⟩ := HK.out
        have : 1 ≤ s'.C.length := by
          have hm := HG.out.2.2.1
          cases hLL : L with
          | nil => rw [hLL] at hL0; simp at hL0
          | cons x r =>
            obtain ⟨_, _, _, c, hc, _⟩ := hm x (by rw [hLL]; simp)
            exact List.length_pos_of_mem hc
        show _ ≤ _
        omega
      have hL1 : 0 < L.length := by omega
      go_wp2_with fail
      go_loopg [6, 7, 10, 20] 5 (fun gg t6 t7 _ t20 W => ∃ (g2 : World) (j n2 : Nat) (s2 : PSt), g2 = W ∧ t20 = .int .i64 j ∧ t6 = .int .i64 n2 ∧ t7 = .int .i64 0 ∧ j ≤ L.length ∧ n2 ≤ 5000 + j ∧ L.length - j ≤ gg ∧ Hid (n2 = n + (foldW s'.C (L.take j)).2 ∧ s2.C = (foldW s'.C (L.take j)).1 ∧ GW w0 g2 p dp s2 ops' (κ' + j) ∧ RowF g2 s2 i1 L ∧ s2.cnt = s.cnt ∧ Fr (Ak s) w g2 ∧ (∀ k, Ak s2 k → Ak s k ∨ w.heap.size ≤ k) ∧ J s2))
      case atStart => exact ⟨_, 0, n, s', rfl, rfl, rfl, rfl, by omega, by omega, by omega, rfl, rfl, HG.out.1, HG.out.2.2.2.1, HG.out.2.2.2.2.1, HG.out.2.2.2.2.2.1, HG.out.2.2.2.2.2.2.1, HG.out.2.2.2.2.2.2.2.1⟩
      case round =>
        obtain ⟨g2, j, n2, s2, rfl, rfl, rfl, rfl, hj, hn2, hgj, H2⟩ := hrel
        by_cases hjl : (j : Int) < (L.length : Int)
        · obtain ⟨yb, yo, nb, hao, hyc, hnb, hcb, htk⟩ : ∃ yb yo, ∃ nb : Nat, i1 = some ⟨yb, yo, none⟩ ∧ g2.cell? ⟨yb, yo + j, none⟩ = some (.int .i64 (nb : Int)) ∧ nb < 5 ∧ (∃ c ∈ s2.C, c.b = nb) ∧ L.take (j + 1) = L.take j ++ [(nb : Int)] := by
            rcases H2.out.2.2.2.1.sr with e | ⟨yb, yo, e, hl, hcc⟩
            · have : L.length = 0 := by rw [e]; rfl
              omega
            · have hjn : j < L.length := by omega
              obtain ⟨nb, e1, e2, e3⟩ := HG.out.2.2.1 _ (getD_mem hjn)
              refine ⟨yb, yo, nb, e, by rw [← e1]; exact hcc j hjn, e2, ?_, ?_⟩
              · rw [H2.out.2.1]; exact same_mem (foldW_same _ _) e3
              · rw [List.take_add_one, List.getElem?_eq_getElem hjn, ← e1, List.getD_eq_getElem?_getD, List.getElem?_eq_getElem hjn]
                rfl
          have hk1 : κ' + j ≤ 1000 := by have := HK'.out; omega
          have RY := gw_ready H2.out.2.2.1 hk1 nb hnb hcb
          have HST : Hid (foldW s'.C (L.take (j + 1)) = ((stepW s2.C (nb : Int)).1, (foldW s'.C (L.take j)).2 + (stepW s2.C (nb : Int)).2)) := by show _ = _; rw [htk, foldW_snoc, ← H2.out.2.1]
          have HNB : Hid (nb < 5 ∧ ∃ c ∈ s2.C, c.b = nb) := ⟨hnb, hcb⟩
          have HIN : Hid (In nb) := HJS.out.1 s' L HG.out.2.2.2.2.2.2.2.1 HG.out.2.1 nb (List.mem_of_mem_take (i := j + 1) (by rw [htk]; simp))
          obtain ⟨rd, hrd⟩ : ∃ rd, rdyN s2.C nb = rd := ⟨_, rfl⟩
          rw [hrd] at RY
          have HRD : Hid (rdyN s2.C nb = rd) := hrd
          subst hao
          clear hcb htk hrd
          go_upto_region 8 with fail
          go_wp2_with (first | (go_at_call 72; refine Hid.out ?_))
          change Calls _ _ _ _ _
          refine RY.mono ?_
          clear RY
          rintro r w3 ⟨rfl, hb3⟩
          have HG3 : Hid (GW w0 w3 p dp s2 ops' (κ' + j) ∧ RowF w3 s2 (some ⟨yb, yo, none⟩) L ∧ Fr (Ak s) w w3 ∧ g2.heap.size ≤ w3.heap.size) := ⟨H2.out.2.2.1.up hb3, H2.out.2.2.2.1.up hb3, H2.out.2.2.2.2.2.1.trans (Fr.of_below hb3), hb3.size⟩
          clear hb3
          by_cases hrd0 : rd = 0
          · subst hrd0
            have H5 : Hid (n2 = n + (foldW s'.C (L.take (j + 1))).2 ∧ s2.C = (foldW s'.C (L.take (j + 1))).1) := by
              have hs : stepW s2.C (nb : Int) = (s2.C, 0) := by unfold stepW; rw [Int.toNat_natCast, if_pos HRD.out]
              rw [HST.out, hs]
              exact ⟨H2.out.1, rfl⟩
            go_wp2_with fail
            go_roundg (L.length - (j + 1))
            case measure => omega
            case rel => exact ⟨_, j + 1, n2, s2, rfl, by go_num, rfl, rfl, by omega, by omega, by omega, H5.out.1, H5.out.2, HG3.out.1.more (by omega), HG3.out.2.1, H2.out.2.2.2.2.1, HG3.out.2.2.1, H2.out.2.2.2.2.2.2⟩
          · have hrdb : ((rd : Int) == 0) = false := by simp; exact hrd0
            have WR := gw_write_ex HG3.out.1 hk1 nb HNB.out.1 HNB.out.2
            go_wp2_with (first | (go_at_call 26; refine Hid.out ?_))
            change Calls _ _ _ _ _
            refine WR.mono ?_
            clear WR
            rintro r w4 ⟨s4, rfl, hG4, hC4, hc4, hf4, hs4, hl4⟩
            have HJ4 : Hid (J s4) := HJS.out.2.1 s2 s4 nb H2.out.2.2.2.2.2.2.2 HIN.out hC4 hl4
            clear hl4
            have H5 : Hid (n2 + 1 = n + (foldW s'.C (L.take (j + 1))).2 ∧ s4.C = (foldW s'.C (L.take (j + 1))).1 ∧ GW w0 w4 p dp s4 ops' (κ' + (j + 1)) ∧ RowF w4 s4 (some ⟨yb, yo, none⟩) L ∧ s4.cnt = s.cnt ∧ Fr (Ak s) w w4 ∧ (∀ k, Ak s4 k → Ak s k ∨ w.heap.size ≤ k) ∧ J s4) := by
              have hs : stepW s2.C (nb : Int) = (s2.C.map (setW (alw s2.C nb)), 1) := by unfold stepW; rw [Int.toNat_natCast, if_neg (by rw [HRD.out]; exact hrd0)]
              rw [HST.out, hs]
              have hsub := H2.out.2.2.2.2.2.2.1
              have hz := HG3.out.2.2.1.size
              refine ⟨by have := H2.out.1; omega, hC4, hG4, HG3.out.2.1.run hf4 hs4, hc4.trans H2.out.2.2.2.2.1, ⟨by have := hf4.size; omega, fun k hk hn => ?_, hf4.os.trans HG3.out.2.2.1.os, hf4.tape.trans HG3.out.2.2.1.tape, hf4.output.trans HG3.out.2.2.1.output⟩, fun k hk => ?_, HJ4.out⟩
              · refine (hf4.blk k (by omega) (fun hA => ?_)).trans (HG3.out.2.2.1.blk k hk hn)
                rcases hsub k hA with h | h
                · exact hn h
                · omega
              · rcases hs4 k hk with h | h
                · exact hsub k h
                · exact .inr (by omega)
            clear hG4 hC4 hc4 hf4 hs4
            go_wp2_with fail
            go_roundg (L.length - (j + 1))
            case measure => omega
            case rel => exact ⟨_, j + 1, n2 + 1, s4, rfl, by go_num, by go_num, rfl, by omega, by omega, by omega, H5.out⟩
        · have HT : Hid (L.take j = L) := List.take_of_length_le (by omega)
          have hk1 : κ' + j ≤ 1000 := by have := HK'.out; omega
          have FL := gw_flush_ex H2.out.2.2.1 hk1
          go_wp2_with (first | (go_at_call 27; refine Hid.out ?_))
          change Calls _ _ _ _ _
          refine FL.mono ?_
          clear FL
          rintro r w5 ⟨s5, o5, rfl, hG5, hC5, hc5, hf5, hs5, hl5'⟩
          have HJ5 : Hid (J s5) := HJS.out.2.2 s2 s5 H2.out.2.2.2.2.2.2.2 H2.out.2.2.1.pl.asc H2.out.2.2.1.pl.wra hC5 hl5'
          clear hl5'
          have hsub := H2.out.2.2.2.2.2.2.1
          have hz := H2.out.2.2.2.2.2.1.size
          have H5 : Hid (GW w0 w5 p dp s5 o5 (κ' + 6) ∧ s5.C = nwr (foldW s'.C L).1 ∧ s5.cnt = s.cnt ∧ Fr (Ak s) w w5 ∧ (∀ k, Ak s5 k → Ak s k ∨ w.heap.size ≤ k) ∧ n2 = n + (foldW s'.C L).2) := by
            refine ⟨hG5.more (by omega), by rw [hC5, H2.out.2.1, HT.out], hc5.trans H2.out.2.2.2.2.1, ⟨by have := hf5.size; omega, fun k hk hn => ?_, hf5.os.trans H2.out.2.2.2.2.2.1.os, hf5.tape.trans H2.out.2.2.2.2.2.1.tape, hf5.output.trans H2.out.2.2.2.2.2.1.output⟩, fun k hk => ?_, by have := H2.out.1; rw [HT.out] at this; exact this⟩
            · refine (hf5.blk k (by omega) (fun hA => ?_)).trans (H2.out.2.2.2.2.2.1.blk k hk hn)
              rcases hsub k hA with h | h
              · exact hn h
              · omega
            · rcases hs5 k hk with h | h
              · exact hsub k h
              · exact .inr (by omega)
          have HLT : Hid (s5.C.length + 1 ≤ s'.C.length ∧ n2 ≤ n + 5) := by
            refine ⟨by rw [H5.out.2.1]; exact HGO.out s'.C L HG.out.1.pl.asc (fun c hc i hi => ((HG.out.1.pl.ah c hc).1 i hi).2) HG.out.2.1 (by omega), ?_⟩
            have := foldW_le L s'.C
            have := H5.out.2.2.2.2.2
            omega
          clear hG5 hC5 hc5 hf5 hs5 hsub hz
          have NX := HNX.out w5 s5 o5 (κ' + 6) H5.out.1 (by have := HK'.out; omega)
          go_wp2_with fail
          refine NX.mono ?_
          clear NX
          rintro r w6 ⟨v6, L6, rfl, hO6, hx6, hl6, hm6, hb6⟩
          obtain ⟨i6, c6, rfl, hsr6, _⟩ := hO6.form
          have H6 : Hid (GW w0 w6 p dp s5 o5 (κ' + 6) ∧ nx s5.C L6 ∧ (∀ x ∈ L6, ∃ n : Nat, x = (n : Int) ∧ n < 5 ∧ ∃ c ∈ s5.C, c.b = n) ∧ RowF w6 s5 i6 L6 ∧ s5.cnt = s.cnt ∧ Fr (Ak s) w w6 ∧ (∀ k, Ak s5 k → Ak s k ∨ w.heap.size ≤ k) ∧ J s5 ∧ ∀ C' m, Rds nx s5.C C' m → Rds nx s.C C' (n2 + m)) := by
            refine ⟨H5.out.1.up hb6, hx6, hm6, ⟨hsr6, fun b o e => ?_⟩, H5.out.2.2.1, H5.out.2.2.2.1.trans (Fr.of_below hb6), H5.out.2.2.2.2.1, HJ5.out, fun C' m hr => ?_⟩
            · subst e
              rcases (own_at hO6).2 with ⟨e1, _⟩ | ⟨g, e1, e2, e3⟩
              · cases e1
              · cases e1; exact ⟨fun hA => by have := H5.out.1.pm.lt hA; omega, e3⟩
            · rw [H5.out.2.1] at hr
              rw [H5.out.2.2.2.2.2, Nat.add_assoc]
              exact HG.out.2.2.2.2.2.2.2.2 C' _ (.step HG.out.2.1 (by omega) hr)
          have hl6' : (L6.length : Int) ≤ 5 := by omega
          clear hO6 hx6 hl6 hm6 hb6 hsr6
          go_wp2_with fail
          go_roundg s5.C.length
          case measure => have := HLT.out.1; have := HM.out; omega
          case rel => exact ⟨_, n2, κ' + 6, s5, o5, L6, i6, c6, rfl, rfl, rfl, rfl, hl6', by have := HK.out.2; have := HLT.out; omega, Nat.le_refl _, ⟨by have := HK.out.1; have := HLT.out.1; omega, by have := HK.out.2; have := HLT.out; omega⟩, H6.out⟩
    · obtain rfl : L = [] := List.eq_nil_of_length_eq_zero (by omega)
      go_wp2_with fail
      go_ret2
      refine ⟨n, s', ops', rfl, HG.out.1.more (by have := HK.out.1; omega), ?_, HG.out.2.2.2.2.1, HG.out.2.2.2.2.2.1, HG.out.2.2.2.2.2.2.1, HG.out.2.2.2.2.2.2.2.1⟩
      have := HG.out.2.2.2.2.2.2.2.2 s'.C 0 (.done HG.out.2.1)
      rw [Nat.add_zero] at this
      exact this
theorem rounds_any (h : GW w0 w p dp s ops κ) (K0 : Nat) (hK : κ + 7 * s.C.length ≤ K0) (hK0 : K0 ≤ 900) (f : Nat) (ba : Array Value) (nx : List Ch → List Int → Prop) (hnx : NextOk w0 p dp f ba nx) (hgo : NextGoes nx)
    (eg : ∀ args w, (callFunc f args).run Tryz.prog w = .ok (.enter f args) w) :
    Calls Tryz.prog 101 #[.pointer (some ⟨p, 0, none⟩), .func (.func f) ba #[]] w fun e w' => ∃ (n : Nat) (s' : PSt) (ops' : Nat → List Int), e = .returned (.tuple #[.int .i64 (n : Int), .int .i64 0]) ∧ GW w0 w' p dp s' ops' K0 ∧ Rds nx s.C s'.C n ∧ s'.cnt = s.cnt ∧ Fr (Ak s) w w' ∧ (∀ k, Ak s' k → Ak s k ∨ w.heap.size ≤ k) := by
  refine (rounds_anyJ h K0 hK hK0 f ba nx hnx hgo eg (fun _ => True) (fun _ => True) trivial (fun _ _ _ _ _ _ => trivial) (fun _ _ _ _ _ _ _ => trivial) (fun _ _ _ _ _ _ _ => trivial)).mono ?_
  rintro e w' ⟨n, s', ops', h1, h2, h3, h4, h5, h6, _⟩
  exact ⟨n, s', ops', h1, h2, h3, h4, h5, h6⟩
end
end Go.Proofs.YtadadidccbhopaaGreat
