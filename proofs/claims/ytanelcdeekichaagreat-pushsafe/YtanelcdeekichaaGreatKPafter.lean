/- leveelaw11.after: numbers of changes ahead, made of any. -/
import Derived.Test.YtanelcdeekichaaGreatJPordw2
import Derived.Deep.CutBlock
import Derived.Deep.DeepCutAuto
namespace Go.Proofs.YtanelcdeekichaaGreat
open Go.RowKit
set_option maxRecDepth 100000
theorem ownsRow_mono {w : World} {base b' e size n : Nat} {v : Value} {xs : List Value} (h : w.ownsRow base e size v n xs) (hb : b' ≤ base) : w.ownsRow b' e size v n xs := by
  obtain ⟨h1, h2⟩ := h
  refine ⟨h1, ?_⟩
  rcases h2 with h2 | ⟨g, cap, cur, hv, hg, rest⟩
  · exact .inl h2
  · exact .inr ⟨g, cap, cur, hv, by omega, rest⟩
/-- The number that is made of x. -/
theorem after_num (x last : Int) (h : 1 ≤ last) : -last < x.tmod last ∧ x.tmod last < last := by
  exact ⟨by have := Int.lt_tmod_of_pos x (show (0:Int) < last by omega); omega, Int.tmod_lt_of_pos x (by omega)⟩
section
variable (q : Act6) (w : World)
set_option maxHeartbeats 2000000 in
theorem after_raw (last : Int) (h : last < 1) :
    Calls Tryz.prog 14 #[.agg #[.int .i64 q.K, .int .i64 q.N, .int .i64 q.F, .slice q.dp q.D.length q.dc, .slice q.ap q.A.length q.ac, .bool false], .int .i64 last] w fun e w' => e = .returned (.slice q.ap q.A.length q.ac) ∧ Below w.heap.size w w' := by
  go_enter Tryz.func14, Tryz.ntmps14
  go_wp2
  go_ret
  exact ⟨rfl, (Below.refl _ _).alloc (Nat.le_refl _) _⟩
set_option maxHeartbeats 4000000 in
theorem after_any (hok : q.Ok w) (last : Int) (h : 1 ≤ last) (h2 : last ≤ 1000000) :
    Calls Tryz.prog 14 #[.agg #[.int .i64 q.K, .int .i64 q.N, .int .i64 q.F, .slice q.dp q.D.length q.dc, .slice q.ap q.A.length q.ac, .bool false], .int .i64 last] w fun e w' => ∃ v L, e = .returned v ∧ OwnL w' w.heap.size v L ∧ L.length ≤ 4 ∧ (1 ≤ q.A.length → 1 ≤ L.length) ∧ (∀ x ∈ L, 1 ≤ x ∧ x ≤ last) ∧ Below w.heap.size w w' := by
  have HOK : Hid (q.Ok w) := hok
  have hqal : (q.A.length : Int) ≤ 9223372036854775807 := hok.al
  clear hok
  go_enter Tryz.func14, Tryz.ntmps14
  go_wp2
  obtain ⟨W0, hW0⟩ : ∃ W0, W0 = w.alloc (.cells #[.int .i64 q.K, .int .i64 q.N, .int .i64 q.F, .slice q.dp q.D.length q.dc, .slice q.ap q.A.length q.ac, .bool false] 39) := ⟨_, rfl⟩
  have HB0 : Hid (Below w.heap.size w W0) := by rw [hW0]; exact (Below.refl _ _).alloc (Nat.le_refl _) _
  have HZ0 : Hid (w.heap.size < W0.heap.size) := by show _ < _; rw [hW0, size_alloc]; omega
  have hb4 : W0.cell? ⟨w.heap.size, 4, none⟩ = some (.slice q.ap q.A.length q.ac) := by rw [hW0]; exact (cell_of_row _ _ _ _ _ _ (heap_alloc_new _ _)).trans rfl
  rw [← hW0]
  clear hW0
  go_loopg [5, 6, 7] 4 (fun gg t5 t6 _ W => ∃ (g3 : World) (j : Nat) (L : List Int) (i1 : Option Addr) (c1 : Nat), g3 = W ∧ j ≤ 4 ∧ 4 - j ≤ gg ∧ t6 = .int .i64 j ∧ t5 = .slice i1 j c1 ∧ Hid (L.length = j ∧ j ≤ q.A.length ∧ (∀ x ∈ L, 1 ≤ x ∧ x ≤ last) ∧ Below W0.heap.size W0 g3 ∧ OwnL g3 W0.heap.size (.slice i1 j c1) L))
  case atStart => exact ⟨_, 0, [], none, 0, rfl, by omega, by omega, rfl, rfl, rfl, by omega, (fun x hx => by cases hx), Below.refl _ _, OwnL.nil _ _⟩
  case round =>
    obtain ⟨g3, j, L, i1, c1, rfl, hj, hgj, rfl, rfl, HG⟩ := hrel
    have b4' : g3.cell? ⟨w.heap.size, 4, none⟩ = some (.slice q.ap q.A.length q.ac) := (HG.out.2.2.2.1.cell (p := ⟨w.heap.size, 4, none⟩) HZ0.out).trans hb4
    by_cases hin : j < q.A.length ∧ j < 4
    · have in1 : (j : Int) < (q.A.length : Int) := by omega
      have in2 : (j : Int) < 4 := by omega
      obtain ⟨qb, qo, hqp, hx, hxb⟩ : ∃ qb qo, q.ap = some ⟨qb, qo, none⟩ ∧ g3.cell? ⟨qb, qo + j, none⟩ = some (.int .i64 (q.A.getD j 0)) ∧ (-9223372036854775808 ≤ q.A.getD j 0 ∧ q.A.getD j 0 ≤ 9223372036854775807) := by
        rcases HOK.out.a with e | ⟨qb, qo, e, hl, hc⟩
        · rw [e] at hin; simp at hin
        · refine ⟨qb, qo, e, ?_, ?_⟩
          · exact ((HG.out.2.2.2.1.mono HB0.out.size).cell (p := ⟨qb, qo + j, none⟩) hl).trans ((HB0.out.cell (p := ⟨qb, qo + j, none⟩) hl).trans (hc j hin.1))
          · exact HOK.out.ab _ (getD_mem hin.1)
      rw [hqp] at b4'
      generalize q.A.getD j 0 = x at *
      obtain ⟨hx1, hx2⟩ := after_num x last h
      have hl0 : ¬ last = 0 := by omega
      clear hqp hin
      go_upto_if 35 with fail
      go_cut [7] (fun t wc => ∃ y : Int, t = .int .i64 y ∧ 0 ≤ y ∧ y < last ∧ wc = g3)
      case first =>
        by_cases hneg : x.tmod last < 0
        · go_wp2_with fail
          go_meet
          exact ⟨-(x.tmod last), rfl, by omega, by omega, rfl⟩
        · go_wp2_with fail
          go_meet
          exact ⟨x.tmod last, rfl, by omega, by omega, rfl⟩
      case rest =>
        obtain ⟨y, rfl, hy1, hy2, hwc⟩ := hcut
        obtain rfl := hwc
        clear hx hxb hx1 hx2
        go_wp2_with (first | (at_builtin; refine Hid.out ?_))
        change wpList _ _ _ _ _ _
        refine wpList_append_l rfl (.tmp 38) (.tmp 42) rfl W0.heap.size L (last - y) _ rfl _ _ rfl (row_same HG.out.2.2.2.2 (fun l hl => Below.heap_alloc _ _ _ (HG.out.2.2.2.2.lt l hl).2)) (heap_alloc_new _ _) (by have := HG.out.2.2.2.1.size; rw [size_alloc]; omega) (by have := HG.out.1; omega) ?_
        intro G1 k1 w6 ho6 hg6 hat6
        have HB6 : Hid (Below W0.heap.size W0 w6) := (HG.out.2.2.2.1.alloc HG.out.2.2.2.1.size _).trans ((Below.refl _ _).grown hg6 (Nat.le_trans HG.out.2.2.2.1.size (by rw [size_alloc]; omega)) (fun k hk => (HG.out.2.2.2.2.lt k hk).1))
        have HO6 : Hid (OwnL w6 W0.heap.size (.slice (some ⟨G1, 0, none⟩) (L.length + 1) k1) (L ++ [last - y])) := ho6
        clear ho6 hg6 hat6
        go_wp2_with fail
        go_roundg (4 - (j + 1))
        case measure => omega
        case rel =>
          have hBl := HG.out.1
          refine ⟨_, j + 1, L ++ [last - y], some ⟨G1, 0, none⟩, k1, rfl, by omega, by omega, by go_num, by simp [hBl], by simp [hBl], by omega, ?_, HB6.out, ?_⟩
          · intro z hz
            rcases List.mem_append.1 hz with hz | hz
            · exact HG.out.2.2.1 z hz
            · rw [List.mem_singleton.1 hz]; omega
          · have := HO6.out
            rw [hBl] at this
            exact this
    · go_upto_region 5 with fail
      go_cut [24] (fun t wc => t = .bool false ∧ wc = g3)
      case first =>
        by_cases in1 : (j : Int) < (q.A.length : Int)
        · have in2 : ¬ (j : Int) < 4 := by omega
          go_wp2_with fail
          go_meet
          exact ⟨rfl, rfl⟩
        · go_wp2_with fail
          go_meet
          exact ⟨rfl, rfl⟩
      case rest =>
        obtain ⟨rfl, hwc⟩ := hcut
        obtain rfl := hwc
        clear b4'
        go_wp2_with fail
        go_ret
        obtain ⟨h1, h2, h3, h4, h5⟩ := HG.out
        subst h1
        refine ⟨_, L, rfl, ?_, by omega, by omega, h3, HB0.out.trans (h4.mono HB0.out.size)⟩
        exact ownsRow_mono h5 HB0.out.size
end
end Go.Proofs.YtanelcdeekichaaGreat
