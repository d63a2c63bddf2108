/- Package patch: ends. -/
import Derived.Test.YtadadidccbhopaaGreatKPends
import Derived.Test.YtadadidccbhopaaGreatKPfn1
import Derived.Test.YtadadidccbhopaaGreatKPrea
namespace Go.Proofs.YtadadidccbhopaaGreat
open Go.RowKit Go.Shelf
set_option maxRecDepth 100000
attribute [local go_sem] Oper.semAt_some
theorem getD_mem' {l : List Int} {j : Nat} (h : j < l.length) : l.getD j 0 ∈ l := by
  rw [List.getD_eq_getElem?_getD, List.getElem?_eq_getElem h]
  exact List.getElem_mem h
/-- What holds when the places pre have come. -/
def I0 (w : World) (s : PSt) (Z : List Ch) (L : List Int) (pre : List (Fin L.length)) (W : World) : Prop :=
  ∃ M E v K, ES w W s.p K M E v ∧ K ≤ 2000 * pre.length ∧ E.length ≤ pre.length ∧ (∀ i ∈ E, i ∈ L) ∧ (∀ x ∈ pre, L.getD x.1 0 ∈ E ∨ L.getD x.1 0 ∈ M) ∧ (∀ i ∈ M, ∃ z ∈ Z, (z.id : Int) ∈ L ∧ i ∈ z.ah)
theorem I0.start {w W : World} {s : PSt} {Z : List Ch} {L : List Int} {v : Value} (h : ES w W s.p 0 [] [] v) : I0 w s Z L [] W := by
  refine ⟨[], [], v, 0, h, Nat.zero_le _, Nat.zero_le _, ?_, ?_, ?_⟩
  · intro i hi; cases hi
  · intro x hx; cases hx
  · intro i hi; cases hi
set_option maxRecDepth 100000 in
set_option maxHeartbeats 8000000 in
theorem ends_any {w : World} {base : Nat} {s : PSt} {ops : Nat → List Int} (h : PM w base s ops) (Z : List Ch) (hah : ∀ z ∈ s.C, z.ah.length ≤ 2000 ∧ ∀ i ∈ z.ah, -9223372036854775808 ≤ i ∧ i ≤ 9223372036854775807) (sp : Option Addr) (cap : Nat) (L : List Int) (hs : SrcI w sp L) (hsp : ∀ b o, sp = some ⟨b, o, none⟩ → b < w.heap.size) (hL : L.length ≤ 2000)
    (hZ : ∀ i ∈ L, (-9223372036854775808 ≤ i ∧ i ≤ 9223372036854775807) ∧ ∃ z ∈ s.C, (z ∈ Z ∧ (z.id : Int) = i) ∧ s.fC i = z.q + 1) :
    Calls Tryz.prog 127 #[.pointer (some ⟨s.p, 0, none⟩), .slice sp L.length cap] w fun e w' => ∃ v E, e = .returned v ∧ OwnL w' w.heap.size v E ∧ EndsOf Z (fun i => i ∈ L) E ∧ E.length ≤ 2000 ∧ Below w.heap.size w w' := by
  refine (callsIn_wide (n := 9)).1 ?_
  refine callsIn_of_wp_marks Tryz.func127 rfl trivial ?_ rfl
  simp only [Tryz.ntmps127, List.size_toArray, List.length_cons, List.length_nil, Nat.reduceAdd, Nat.reduceSub, Array.replicate_succ, Array.replicate_zero, List.push_toArray, List.append_toArray, List.nil_append, List.cons_append]
  have HH : Hid (PM w base s ops) := h
  have HSP : Hid (∀ b o, sp = some ⟨b, o, none⟩ → b < w.heap.size) := hsp
  have HAH : Hid (∀ z ∈ s.C, z.ah.length ≤ 2000 ∧ ∀ i ∈ z.ah, -9223372036854775808 ≤ i ∧ i ≤ 9223372036854775807) := hah
  have HSL : Hid (SrcI w sp L) := hs
  have HLZ : Hid (L.length ≤ 2000 ∧ ∀ i ∈ L, (-9223372036854775808 ≤ i ∧ i ≤ 9223372036854775807) ∧ ∃ z ∈ s.C, (z ∈ Z ∧ (z.id : Int) = i) ∧ s.fC i = z.q + 1) := ⟨hL, hZ⟩
  clear h hsp hah hs hZ hL
  have MM := fun W => run_makeMap (P := Tryz.prog) 162 W
  gi_wp2_with fail
  refine ⟨trivial, (callsIn_wide.2 (back_any _ _ _ _)).mono ?_⟩
  rintro e w1 ⟨rfl, hw1⟩
  have HES : Hid (ES w w1 s.p 0 [] [] (.slice none 0 0) ∧ w1.heap.size = w.heap.size + 5 ∧ w1.cell? ⟨w.heap.size + 4, 0, none⟩ = some (.slice sp L.length cap)) := by
    have z1 := World.size_alloc w (.cells #[.pointer (some ⟨s.p, 0, none⟩)] 30)
    have z2 := World.size_alloc (w.alloc (.cells #[.pointer (some ⟨s.p, 0, none⟩)] 30)) (.cells #[.slice none 0 0] 37)
    have z3 := World.size_alloc ((w.alloc (.cells #[.pointer (some ⟨s.p, 0, none⟩)] 30)).alloc (.cells #[.slice none 0 0] 37)) (.map #[] 0)
    have z4 := World.size_alloc (((w.alloc (.cells #[.pointer (some ⟨s.p, 0, none⟩)] 30)).alloc (.cells #[.slice none 0 0] 37)).alloc (.map #[] 0)) (.cells #[.map (some (w.heap.size + 1 + 1))] 162)
    have z5 := World.size_alloc ((((w.alloc (.cells #[.pointer (some ⟨s.p, 0, none⟩)] 30)).alloc (.cells #[.slice none 0 0] 37)).alloc (.map #[] 0)).alloc (.cells #[.map (some (w.heap.size + 1 + 1))] 162)) (.cells #[.slice sp L.length cap] 37)
    have h5 := heap_alloc_new ((((w.alloc (.cells #[.pointer (some ⟨s.p, 0, none⟩)] 30)).alloc (.cells #[.slice none 0 0] 37)).alloc (.map #[] 0)).alloc (.cells #[.map (some (w.heap.size + 1 + 1))] 162)) (.cells #[.slice sp L.length cap] 37)
    rw [z4, z3, z2, z1] at h5
    rw [hw1]
    refine ⟨{
      be := (((((Below.refl _ _).alloc (Nat.le_refl _) _).alloc (by omega) _).alloc (by omega) _).alloc (by omega) _).alloc (by omega) _
      rs := by
        rw [Below.heap_alloc _ _ _ (by omega), Below.heap_alloc _ _ _ (by omega), Below.heap_alloc _ _ _ (by omega), Below.heap_alloc _ _ _ (by omega)]
        exact heap_alloc_new _ _
      ra := by
        rw [Below.heap_alloc _ _ _ (by omega), Below.heap_alloc _ _ _ (by omega), Below.heap_alloc _ _ _ (by omega)]
        have := heap_alloc_new (w.alloc (.cells #[.pointer (some ⟨s.p, 0, none⟩)] 30)) (.cells #[.slice none 0 0] 37)
        rw [z1] at this
        exact this
      sm := by
        have := SMap.made ((w.alloc (.cells #[.pointer (some ⟨s.p, 0, none⟩)] 30)).alloc (.cells #[.slice none 0 0] 37))
        rw [z2, z1] at this
        exact this.same ((Below.heap_alloc _ _ _ (by omega)).trans (Below.heap_alloc _ _ _ (by omega)))
      rm := by
        rw [Below.heap_alloc _ _ _ (by omega)]
        have := heap_alloc_new (((w.alloc (.cells #[.pointer (some ⟨s.p, 0, none⟩)] 30)).alloc (.cells #[.slice none 0 0] 37)).alloc (.map #[] 0)) (.cells #[.map (some (w.heap.size + 1 + 1))] 162)
        rw [z3, z2, z1] at this
        exact this
      ow := OwnL.nil _ _
      sz := by omega }, by omega, (cell_of_row _ _ _ _ _ _ h5).trans rfl⟩
  clear hw1 MM
  gi_wp2_with fail
  simp only [Nat.add_assoc, Nat.reduceAdd]
  have hz1 := HES.out.2.1
  refine wpIn_rangeFunc_ownG rfl (by omega) (gf := 168) (lb := #[.pointer (some ⟨w.heap.size + 4, 0, none⟩)]) rfl trivial (enters_of Tryz.func168 (by kernel_rfl) rfl)
    (back_stops (w.heap.size + 4) _ sp cap L (by have := HLZ.out.1; omega) w1 (by omega) HES.out.2.2 (HSL.out.below HES.out.1.be (Nat.le_refl _))) (fun h k => h.trans k) (sameB_b (by omega) (fun b o e => by have := HSP.out b o e; omega)) (Below.refl _ _) (fun _ => rfl)
    (I0 w s Z L) (fun _ _ _ => False) (fun pre A B row hs hg hr => by
      obtain ⟨M, E, v, K, hes, hrest⟩ := hs
      exact ⟨M, E, v, K, hes.own hg (fun r e => by rw [← hz1]; exact hr r e), hrest⟩) (fun c s A B row hs => hs.elim)
    (I0.start HES.out.1)
    (fun x => { tmps := #[.pointer (some ⟨s.p, 0, none⟩), .slice sp L.length cap, .pointer (some ⟨w.heap.size, 0, none⟩), undef, .slice none 0 0, .pointer (some ⟨w.heap.size + 1, 0, none⟩), .pointer (some ⟨w.heap.size + 3, 0, none⟩), undef, .int .i64 (L.getD x.1 0), undef, undef, undef, undef, .map (some (w.heap.size + 2)), .slice sp L.length cap, .func (.func 168) #[] #[.pointer (some ⟨w.heap.size + 4, 0, none⟩)], .int .i64 (x.1 : Int), .int .i64 (L.getD x.1 0), undef, undef, undef, undef, undef, undef, undef, undef, undef, undef, undef, undef, undef, undef, undef, undef, undef, undef, undef, undef, undef, undef, undef, undef, undef, undef, undef, undef, undef, undef, undef], defers := [] }) ?assign ?body ?done ?stop
  case assign =>
    intro l x W K hK
    dsimp only [encB] at hK ⊢
    generalize L.getD x.1 0 = y at *
    gi_wp2
    exact hK
  case body =>
    rintro l pre x W ⟨M, E, v, K, hes, hK, hE, hEL, hpre, hMZ⟩ hlt
    have hxL : L.getD x.1 0 ∈ L := getD_mem' x.2
    obtain ⟨y, hy⟩ : ∃ y, y = L.getD x.1 0 := ⟨_, rfl⟩
    rw [← hy] at hxL
    dsimp only
    rw [← hy]
    obtain ⟨hyr, z, hzC, hzZ, hzf⟩ := HLZ.out.2 y hxL
    have HZ : Hid (z ∈ s.C ∧ (z ∈ Z ∧ (z.id : Int) ∈ L) ∧ s.fC y = z.q + 1) := ⟨hzC, ⟨hzZ.1, by rw [hzZ.2]; exact hxL⟩, hzf⟩
    have HY : Hid (y = L.getD x.1 0 ∧ y ∈ L) := ⟨hy, hxL⟩
    have HK : Hid (K ≤ 2000 * pre.length ∧ pre.length < 2000) := ⟨hK, by have := HLZ.out.1; omega⟩
    have HMZ : Hid (∀ i ∈ M, ∃ z ∈ Z, (z.id : Int) ∈ L ∧ i ∈ z.ah) := hMZ
    have HE : Hid (E.length ≤ pre.length ∧ (∀ i ∈ E, i ∈ L) ∧ ∀ x ∈ pre, L.getD x.1 0 ∈ E ∨ L.getD x.1 0 ∈ M) := ⟨hE, hEL, hpre⟩
    have HWz : Hid (w.heap.size + 5 ≤ W.heap.size) := hes.sz
    have q3 : W.cell? ⟨w.heap.size + 3, 0, none⟩ = some (.map (some (w.heap.size + 2))) := (cell_of_row _ _ _ _ _ _ hes.rm).trans rfl
    have LK := hes.sm.look y hyr
    have HS1 := hes.up (w' := W.alloc (.cells #[] 163)) ((Below.refl _ _).alloc (Nat.le_refl _) _)
    have HS : Hid (ES w (W.alloc (.cells #[] 163)) s.p K M E v ∧ Away w W (W.alloc (.cells #[] 163))) := HS1
    clear hK hMZ hE hEL hpre hxL hy hes HS1 hzC hzZ hzf hlt
    by_cases hin : y ∈ M
    · rw [decide_eq_true hin] at LK
      have HS2 : Hid (ES w (W.alloc (.cells #[] 163)) s.p K M E v) := HS.out.1
      have HA2 : Hid (Away w W (W.alloc (.cells #[] 163))) := HS.out.2
      have HE2 : Hid (E.length ≤ pre.length + 1 ∧ (∀ i ∈ E, i ∈ L) ∧ ∀ x' ∈ pre ++ [x], L.getD x'.1 0 ∈ E ∨ L.getD x'.1 0 ∈ M) := ⟨by have := HE.out.1; omega, HE.out.2.1, fun x' hx' => by
        rcases List.mem_append.1 hx' with h1 | h1
        · exact HE.out.2.2 x' h1
        · rw [List.mem_singleton.1 h1, ← HY.out.1]; exact .inr hin⟩
      clear hin
      have hz2 := HS2.out.sz
      have q2 : (W.alloc (.cells #[] 163)).cell? ⟨w.heap.size, 0, none⟩ = some (.pointer (some ⟨s.p, 0, none⟩)) := (cell_of_row _ _ _ _ _ _ HS2.out.rs).trans rfl
      have hPM := HH.out.up HS2.out.be
      have LKC := hPM.lookC y hyr
      rw [HZ.out.2.2] at LKC
      simp only [ptrV] at LKC
      have c3 := hPM.c3
      have h3 := (hPM.ch z HZ.out.1).c3
      obtain ⟨aa, cc, hav, hsa, _, _, _⟩ := (HH.out.ch z HZ.out.1).ahd.form
      rw [hav] at h3
      have hahl : (z.ah.length : Int) ≤ 2000 := by have := (HAH.out z HZ.out.1).1; omega
      have HSA : Hid (SrcI w aa z.ah) := hsa
      clear hPM hav hsa
      obtain ⟨n, hn⟩ : ∃ n, n = z.ah.length := ⟨_, rfl⟩
      have HN : Hid (n = z.ah.length) := hn
      rw [← hn] at hahl h3
      clear hn
      gi_wp2
      gi_loopw [12, 40] (fun _ t40 W3 => ∃ (g2 : World) (j : Nat) (M3 : List Int), g2 = W3 ∧ t40 = .int .i64 j ∧ j ≤ n ∧ Hid (ES w g2 s.p (K + j) M3 E v ∧ Away w (W.alloc (.cells #[] 163)) g2 ∧ (∀ i ∈ M, i ∈ M3) ∧ (∀ i ∈ z.ah.take j, i ∈ M3) ∧ ∀ i ∈ M3, i ∈ M ∨ i ∈ z.ah))
        (fun _ t40 _ => n - (valI t40).toNat)
      case atStart => exact ⟨_, 0, M, rfl, rfl, Nat.zero_le _, HS2.out, Away.refl _ _, fun i hi => hi, fun i hi => (by cases hi), fun i hi => .inl hi⟩
      case round =>
        obtain ⟨g2, j, M3, rfl, rfl, hj, H3⟩ := hrel
        by_cases hjl : (j : Int) < (n : Int)
        · obtain ⟨yb, yo, u, haa, hyc, hym, hyt⟩ : ∃ yb yo u, aa = some ⟨yb, yo, none⟩ ∧ g2.cell? ⟨yb, yo + j, none⟩ = some (.int .i64 u) ∧ u ∈ z.ah ∧ z.ah.take (j + 1) = z.ah.take j ++ [u] := by
            rcases HSA.out with e | ⟨yb, yo, e, hl, hcc⟩
            · have : z.ah.length = 0 := by rw [e]; rfl
              have := HN.out
              omega
            · have hjn : j < z.ah.length := by have := HN.out; omega
              refine ⟨yb, yo, z.ah.getD j 0, e, (H3.out.1.be.cell (p := ⟨yb, yo + j, none⟩) hl).trans (hcc j hjn), getD_mem' hjn, ?_⟩
              rw [List.take_add_one, List.getElem?_eq_getElem hjn, List.getD_eq_getElem?_getD, List.getElem?_eq_getElem hjn]
              rfl
          subst haa
          have q3 : g2.cell? ⟨w.heap.size + 3, 0, none⟩ = some (.map (some (w.heap.size + 2))) := (cell_of_row _ _ _ _ _ _ H3.out.1.rm).trans rfl
          have hub := (HAH.out z HZ.out.1).2 u hym
          have HU : Hid (z.ah.take (j + 1) = z.ah.take j ++ [u] ∧ u ∈ z.ah) := ⟨hyt, hym⟩
          have hKj : K + j ≤ 1000000000 := by have := HK.out; omega
          have HSM : Hid (SMap g2 (w.heap.size + 2) (K + j) M3) := H3.out.1.sm
          clear hyt hym
          gi_wp2_with (first | ((with_reducible show wpListIn _ _ _ _ _ ({ dst := _, op := Op.mapUpdate 162 _ _ _, type := _, pos := _, after := _, guard := _ } :: _) _ _); refine Hid.out ?_))
          show wpListIn _ _ _ _ _ _ _ _
          refine wpListIn_sput rfl _ _ _ rfl HSM.out hub hKj rfl rfl rfl ?_
          intro w5 hS5 hg5
          have H5 := H3.out.1.put hS5 hg5
          have HF5 : Hid (ES w w5 s.p (K + (j + 1)) (M3 ++ [u]) E v ∧ Away w (W.alloc (.cells #[] 163)) w5 ∧ (∀ i ∈ M, i ∈ M3 ++ [u]) ∧ (∀ i ∈ z.ah.take (j + 1), i ∈ M3 ++ [u]) ∧ ∀ i ∈ M3 ++ [u], i ∈ M ∨ i ∈ z.ah) := ⟨H5.1, H3.out.2.1.trans H5.2, fun i hi => List.mem_append.2 (.inl (H3.out.2.2.1 i hi)), fun i hi => by
            rw [HU.out.1] at hi
            rcases List.mem_append.1 hi with hi | hi
            · exact List.mem_append.2 (.inl (H3.out.2.2.2.1 i hi))
            · exact List.mem_append.2 (.inr hi), fun i hi => by
            rcases List.mem_append.1 hi with hi | hi
            · exact H3.out.2.2.2.2 i hi
            · rw [List.mem_singleton.1 hi]; exact .inr HU.out.2⟩
          clear hS5 hg5 H5
          gi_wp2
          go_roundw
          case rel => exact ⟨_, j + 1, _, rfl, by go_num, by omega, HF5.out⟩
          case measure => simp [valI]; omega
        · have hjn : j = n := by omega
          have HFI : Hid (I0 w s Z L (pre ++ [x]) g2 ∧ Away w W g2) := by
            refine ⟨⟨M3, E, v, K + j, H3.out.1, by have := HK.out; rw [List.length_append]; simp; omega, by have := HE2.out.1; simp only [List.length_append, List.length_cons, List.length_nil] at this ⊢; omega, HE2.out.2.1, fun i hi => ?_, fun i hi => ?_⟩, HA2.out.trans H3.out.2.1⟩
            · rcases HE2.out.2.2 i hi with h1 | h1
              · exact .inl h1
              · exact .inr (H3.out.2.2.1 _ h1)
            · rcases H3.out.2.2.2.2 i hi with h1 | h1
              · exact HMZ.out i h1
              · exact ⟨z, HZ.out.2.1.1, HZ.out.2.1.2, h1⟩
          gi_wp2
          exact ⟨HFI.out.2.keeps, HFI.out.2.sameB HWz.out HSP.out, HFI.out.1⟩
    · rw [decide_eq_false hin] at LK
      clear hin
      have q1 : (W.alloc (.cells #[] 163)).cell? ⟨w.heap.size + 1, 0, none⟩ = some v := (cell_of_row _ _ _ _ _ _ HS.out.1.ra).trans rfl
      gi_wp2_with (first | (gi_at_builtin; refine Hid.out ?_))
      show wpListIn _ _ _ _ _ _ _ _
      have hrow : RowI ((W.alloc (.cells #[] 163)).alloc (.cells #[.int .i64 y] 2)) (W.heap.size + 1) 2 [y] := by
        have h := heap_alloc_new (W.alloc (.cells #[] 163)) (.cells #[.int .i64 y] 2)
        rw [World.size_alloc] at h
        exact h
      refine wpListIn_append_l rfl _ _ rfl (w.heap.size + 5) E y v rfl _ _ rfl (row_same HS.out.1.ow fun k hk => Below.heap_alloc _ _ _ (HS.out.1.ow.lt k hk).2) hrow (by have := HS.out.1.sz; rw [World.size_alloc]; omega) (by have := HE.out.1; have := HK.out; omega) ?_
      intro G cp w3 ho3 hg3
      obtain ⟨ra3, hes3, haw3⟩ := HS.out.1.app ho3 hg3
      have q1b : w3.cell? ⟨w.heap.size + 1, 0, none⟩ = some v := (cell_of_row _ _ _ _ _ _ ra3).trans rfl
      have q1f : w3.frozen? ⟨w.heap.size + 1, 0, none⟩ = false := frozen_of_row _ _ _ _ _ ra3
      have HS2 : Hid (ES w (w3.setCell ⟨w.heap.size + 1, 0, none⟩ (.slice (some ⟨G, 0, none⟩) (E.length + 1) cp)) s.p K M (E ++ [y]) (.slice (some ⟨G, 0, none⟩) (E.length + 1) cp)) := hes3
      have HA2 : Hid (Away w W (w3.setCell ⟨w.heap.size + 1, 0, none⟩ (.slice (some ⟨G, 0, none⟩) (E.length + 1) cp))) := HS.out.2.trans haw3
      have HE2 : Hid ((E ++ [y]).length ≤ pre.length + 1 ∧ (∀ i ∈ E ++ [y], i ∈ L) ∧ ∀ x' ∈ pre ++ [x], L.getD x'.1 0 ∈ E ++ [y] ∨ L.getD x'.1 0 ∈ M) := ⟨by have := HE.out.1; simp; omega, fun i hi => by
        rcases List.mem_append.1 hi with h1 | h1
        · exact HE.out.2.1 i h1
        · rw [List.mem_singleton.1 h1]; exact HY.out.2, fun x' hx' => by
        rcases List.mem_append.1 hx' with h1 | h1
        · rcases HE.out.2.2 x' h1 with h2 | h2
          · exact .inl (List.mem_append.2 (.inl h2))
          · exact .inr h2
        · rw [List.mem_singleton.1 h1, ← HY.out.1]; exact .inl (by simp)⟩
      clear ho3 hg3 ra3 hes3 haw3 q1
      have hz2 := HS2.out.sz
      have q2 : (w3.setCell ⟨w.heap.size + 1, 0, none⟩ (.slice (some ⟨G, 0, none⟩) (E.length + 1) cp)).cell? ⟨w.heap.size, 0, none⟩ = some (.pointer (some ⟨s.p, 0, none⟩)) := (cell_of_row _ _ _ _ _ _ HS2.out.rs).trans rfl
      have hPM := HH.out.up HS2.out.be
      have LKC := hPM.lookC y hyr
      rw [HZ.out.2.2] at LKC
      simp only [ptrV] at LKC
      have c3 := hPM.c3
      have h3 := (hPM.ch z HZ.out.1).c3
      obtain ⟨aa, cc, hav, hsa, _, _, _⟩ := (HH.out.ch z HZ.out.1).ahd.form
      rw [hav] at h3
      have hahl : (z.ah.length : Int) ≤ 2000 := by have := (HAH.out z HZ.out.1).1; omega
      have HSA : Hid (SrcI w aa z.ah) := hsa
      clear hPM hav hsa
      obtain ⟨n, hn⟩ : ∃ n, n = z.ah.length := ⟨_, rfl⟩
      have HN : Hid (n = z.ah.length) := hn
      rw [← hn] at hahl h3
      clear hn
      gi_wp2
      gi_loopw [12, 40] (fun _ t40 W3 => ∃ (g2 : World) (j : Nat) (M3 : List Int), g2 = W3 ∧ t40 = .int .i64 j ∧ j ≤ n ∧ Hid (ES w g2 s.p (K + j) M3 (E ++ [y]) (.slice (some ⟨G, 0, none⟩) (E.length + 1) cp) ∧ Away w (w3.setCell ⟨w.heap.size + 1, 0, none⟩ (.slice (some ⟨G, 0, none⟩) (E.length + 1) cp)) g2 ∧ (∀ i ∈ M, i ∈ M3) ∧ (∀ i ∈ z.ah.take j, i ∈ M3) ∧ ∀ i ∈ M3, i ∈ M ∨ i ∈ z.ah))
        (fun _ t40 _ => n - (valI t40).toNat)
      case atStart => exact ⟨_, 0, M, rfl, rfl, Nat.zero_le _, HS2.out, Away.refl _ _, fun i hi => hi, fun i hi => (by cases hi), fun i hi => .inl hi⟩
      case round =>
        obtain ⟨g2, j, M3, rfl, rfl, hj, H3⟩ := hrel
        by_cases hjl : (j : Int) < (n : Int)
        · obtain ⟨yb, yo, u, haa, hyc, hym, hyt⟩ : ∃ yb yo u, aa = some ⟨yb, yo, none⟩ ∧ g2.cell? ⟨yb, yo + j, none⟩ = some (.int .i64 u) ∧ u ∈ z.ah ∧ z.ah.take (j + 1) = z.ah.take j ++ [u] := by
            rcases HSA.out with e | ⟨yb, yo, e, hl, hcc⟩
            · have : z.ah.length = 0 := by rw [e]; rfl
              have := HN.out
              omega
            · have hjn : j < z.ah.length := by have := HN.out; omega
              refine ⟨yb, yo, z.ah.getD j 0, e, (H3.out.1.be.cell (p := ⟨yb, yo + j, none⟩) hl).trans (hcc j hjn), getD_mem' hjn, ?_⟩
              rw [List.take_add_one, List.getElem?_eq_getElem hjn, List.getD_eq_getElem?_getD, List.getElem?_eq_getElem hjn]
              rfl
          subst haa
          have q3 : g2.cell? ⟨w.heap.size + 3, 0, none⟩ = some (.map (some (w.heap.size + 2))) := (cell_of_row _ _ _ _ _ _ H3.out.1.rm).trans rfl
          have hub := (HAH.out z HZ.out.1).2 u hym
          have HU : Hid (z.ah.take (j + 1) = z.ah.take j ++ [u] ∧ u ∈ z.ah) := ⟨hyt, hym⟩
          have hKj : K + j ≤ 1000000000 := by have := HK.out; omega
          have HSM : Hid (SMap g2 (w.heap.size + 2) (K + j) M3) := H3.out.1.sm
          clear hyt hym
          gi_wp2_with (first | ((with_reducible show wpListIn _ _ _ _ _ ({ dst := _, op := Op.mapUpdate 162 _ _ _, type := _, pos := _, after := _, guard := _ } :: _) _ _); refine Hid.out ?_))
          show wpListIn _ _ _ _ _ _ _ _
          refine wpListIn_sput rfl _ _ _ rfl HSM.out hub hKj rfl rfl rfl ?_
          intro w5 hS5 hg5
          have H5 := H3.out.1.put hS5 hg5
          have HF5 : Hid (ES w w5 s.p (K + (j + 1)) (M3 ++ [u]) (E ++ [y]) (.slice (some ⟨G, 0, none⟩) (E.length + 1) cp) ∧ Away w (w3.setCell ⟨w.heap.size + 1, 0, none⟩ (.slice (some ⟨G, 0, none⟩) (E.length + 1) cp)) w5 ∧ (∀ i ∈ M, i ∈ M3 ++ [u]) ∧ (∀ i ∈ z.ah.take (j + 1), i ∈ M3 ++ [u]) ∧ ∀ i ∈ M3 ++ [u], i ∈ M ∨ i ∈ z.ah) := ⟨H5.1, H3.out.2.1.trans H5.2, fun i hi => List.mem_append.2 (.inl (H3.out.2.2.1 i hi)), fun i hi => by
            rw [HU.out.1] at hi
            rcases List.mem_append.1 hi with hi | hi
            · exact List.mem_append.2 (.inl (H3.out.2.2.2.1 i hi))
            · exact List.mem_append.2 (.inr hi), fun i hi => by
            rcases List.mem_append.1 hi with hi | hi
            · exact H3.out.2.2.2.2 i hi
            · rw [List.mem_singleton.1 hi]; exact .inr HU.out.2⟩
          clear hS5 hg5 H5
          gi_wp2
          go_roundw
          case rel => exact ⟨_, j + 1, _, rfl, by go_num, by omega, HF5.out⟩
          case measure => simp [valI]; omega
        · have hjn : j = n := by omega
          have HFI : Hid (I0 w s Z L (pre ++ [x]) g2 ∧ Away w W g2) := by
            refine ⟨⟨M3, (E ++ [y]), (.slice (some ⟨G, 0, none⟩) (E.length + 1) cp), K + j, H3.out.1, by have := HK.out; rw [List.length_append]; simp; omega, by have := HE2.out.1; simp only [List.length_append, List.length_cons, List.length_nil] at this ⊢; omega, HE2.out.2.1, fun i hi => ?_, fun i hi => ?_⟩, HA2.out.trans H3.out.2.1⟩
            · rcases HE2.out.2.2 i hi with h1 | h1
              · exact .inl h1
              · exact .inr (H3.out.2.2.1 _ h1)
            · rcases H3.out.2.2.2.2 i hi with h1 | h1
              · exact HMZ.out i h1
              · exact ⟨z, HZ.out.2.1.1, HZ.out.2.1.2, h1⟩
          gi_wp2
          exact ⟨HFI.out.2.keeps, HFI.out.2.sameB HWz.out HSP.out, HFI.out.1⟩
  case done =>
    rintro D ys W hD hys ⟨M, E, v, K, hes, hK, hE, hEL, hpre, hMZ⟩ hK2
    have q1 : W.cell? ⟨w.heap.size + 1, 0, none⟩ = some v := (cell_of_row _ _ _ _ _ _ hes.ra).trans rfl
    have HF : Hid (ES w W s.p K M E v) := hes
    have HR : Hid (EndsOf Z (fun i => i ∈ L) E ∧ E.length ≤ 2000) := by
      refine ⟨⟨hEL, fun i hi => ?_⟩, ?_⟩
      · obtain ⟨k, hk, rfl⟩ := List.getElem_of_mem hi
        have h1 := hpre ⟨k, hk⟩ (by rw [hys]; exact backs_all _ _)
        rw [List.getD_eq_getElem?_getD, List.getElem?_eq_getElem hk] at h1
        rcases h1 with h1 | h1
        · exact .inl h1
        · exact .inr (hMZ _ h1)
      · have h1 := HLZ.out.1
        rw [hys, backs_length (Nat.le_refl _)] at hE
        omega
    have HD : Hid (w1.heap.size ≤ D) := hD
    clear hes hE hEL hpre hMZ hK hys hD
    gi_wp2
    refine ⟨by simp, .inl ⟨_, _, rfl, run_takeDeferred hK2, ?_⟩⟩
    refine ⟨_, results_tmp rfl _ _ _, v, E, rfl, ?_, HR.out.1, HR.out.2, HF.out.be.trans (belowK_b (w := w) (Nat.le_refl _) W D _ _ (by have := HD.out; omega) hK2 rfl rfl)⟩
    refine row_mono (row_same HF.out.ow fun g hg => World.putObj_heap_other (w := W) (fun e => ?_)) (by omega)
    obtain ⟨cur, hh⟩ := HF.out.ow.isC hg
    rw [e, hK2] at hh
    cases hh
  case stop =>
    rintro D c pre W hD _ hF
    exact hF.elim
end Go.Proofs.YtadadidccbhopaaGreat
