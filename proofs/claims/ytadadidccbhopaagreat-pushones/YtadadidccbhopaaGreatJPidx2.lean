/- slices.IndexFunc, ContainsFunc, DeleteFunc at rows of numbers, with a method bound, or a closure. -/
import Derived.Test.YtadadidccbhopaaGreatKPfn1
import Derived.Shelf.Abstract
namespace Go.Proofs.YtadadidccbhopaaGreat
open Go.RowKit
set_option maxRecDepth 100000
set_option maxHeartbeats 2000000 in
theorem indexFunc_m (G : Nat) (rv : Value) (eg : ∀ args w, (callFunc G args).run Tryz.prog w = .ok (.enter G args) w) (p : Int → Bool) (sp : Option Addr) (c : Nat) (l : List Int) (w : World) (hs : SrcI w sp l) (hl : (l.length : Int) ≤ 9223372036854775807)
    (hp : ∀ x ∈ l, ∀ m, Calls Tryz.prog G #[rv, .int .i64 x] (w.drewN m) fun e w' => e = .returned (.bool (p x)) ∧ ∃ q, w' = w.drewN q) :
    Calls Tryz.prog 125 #[.slice sp l.length c, .func (.func G) #[rv] #[]] w fun e w' => (∃ q, w' = w.drewN q) ∧ ((e = .returned (.int .i64 (-1)) ∧ ∀ x ∈ l, p x = false) ∨ ∃ i : Nat, i < l.length ∧ e = .returned (.int .i64 (i : Int)) ∧ p (l.getD i 0) = true ∧ ∀ j, j < i → p (l.getD j 0) = false) := by
  have HS : Hid (SrcI w sp l) := hs
  have HP : Hid (∀ x ∈ l, ∀ m, Calls Tryz.prog G #[rv, .int .i64 x] (w.drewN m) fun e w' => e = .returned (.bool (p x)) ∧ ∃ q, w' = w.drewN q) := hp
  obtain ⟨n, hn⟩ : ∃ n, n = l.length := ⟨_, rfl⟩
  have HN : Hid (n = l.length) := hn
  rw [← hn] at hl ⊢
  clear hs hp hn
  go_enter Tryz.func125, Tryz.ntmps125
  go_wp2
  go_loopg [5, 8] n (fun gg _ s8 wr => ∃ kk q : Nat, kk ≤ n ∧ n - kk ≤ gg ∧ s8 = .int .i64 kk ∧ wr = w.drewN q ∧ Hid (∀ j, j < kk → p (l.getD j 0) = false))
  case atStart => exact ⟨0, 0, Nat.zero_le _, by omega, rfl, rfl, fun j hj => absurd hj (Nat.not_lt_zero _)⟩
  case round =>
    obtain ⟨kk, q, hkk, hg, rfl, rfl, A⟩ := hrel
    by_cases hlt : kk < n
    · have hltz : (kk : Int) < (n : Int) := by omega
      rcases HS.out with h0 | ⟨b, off, rfl, hb, hc⟩
      · exact absurd hlt (by rw [HN.out, h0]; simp)
      have hcell : w.cell? ⟨b, off + kk, none⟩ = some (.int .i64 (l.getD kk 0)) := hc kk (by rw [← HN.out]; exact hlt)
      have hmem : l.getD kk 0 ∈ l := by
        have hk : kk < l.length := by rw [← HN.out]; exact hlt
        rw [List.getD_eq_getElem?_getD, List.getElem?_eq_getElem hk]; exact List.getElem_mem hk
      have hcall := HP.out _ hmem q
      clear hc hmem
      generalize hy : l.getD kk 0 = y at hcell hcall
      have B : Hid (l.getD kk 0 = y) := hy
      clear hy
      cases hq : p y with
      | true =>
        rw [hq] at hcall
        go_wp2_with (go_at_fn G; refine hcall.mono ?_; rintro e w' ⟨rfl, q', rfl⟩)
        go_ret
        exact ⟨⟨_, rfl⟩, .inr ⟨kk, hlt, rfl, by rw [B.out]; exact hq, A.out⟩⟩
      | false =>
        rw [hq] at hcall
        go_wp2_with (go_at_fn G; refine hcall.mono ?_; rintro e w' ⟨rfl, q', rfl⟩)
        go_roundg (n - (kk + 1))
        case measure => omega
        case rel =>
          refine ⟨kk + 1, _, by omega, by omega, by go_num, rfl, (show Hid _ from fun j hj => ?_)⟩
          by_cases e : j = kk
          · subst e
            rw [B.out]; exact hq
          · exact A.out j (by omega)
    · have hltz : ¬ (kk : Int) < (n : Int) := by omega
      have : kk = n := by omega
      subst this
      go_wp2
      go_ret
      refine ⟨⟨q, rfl⟩, .inl ⟨rfl, fun x hx => ?_⟩⟩
      obtain ⟨j, hj, rfl⟩ := List.getElem_of_mem hx
      have := A.out j (by rw [HN.out]; exact hj)
      rwa [List.getD_eq_getElem?_getD, List.getElem?_eq_getElem hj] at this
set_option maxHeartbeats 1000000 in
theorem containsFunc_m (G : Nat) (rv : Value) (eg : ∀ args w, (callFunc G args).run Tryz.prog w = .ok (.enter G args) w) (p : Int → Bool) (sp : Option Addr) (c : Nat) (l : List Int) (w : World) (hs : SrcI w sp l) (hl : (l.length : Int) ≤ 9223372036854775807)
    (hp : ∀ x ∈ l, ∀ m, Calls Tryz.prog G #[rv, .int .i64 x] (w.drewN m) fun e w' => e = .returned (.bool (p x)) ∧ ∃ q, w' = w.drewN q) :
    Calls Tryz.prog 88 #[.slice sp l.length c, .func (.func G) #[rv] #[]] w fun e w' => (∃ q, w' = w.drewN q) ∧ e = .returned (.bool (l.any p)) := by
  have IX := indexFunc_m G rv eg p sp c l w hs hl hp
  clear hp hs eg
  go_enter Tryz.func88, Tryz.ntmps88
  go_wp2_with fail
  refine IX.mono ?_
  rintro e w1 ⟨⟨q, rfl⟩, ⟨rfl, hno⟩ | ⟨i, hi, rfl, hyes, _⟩⟩
  · have ea : l.any p = false := by rw [List.any_eq_false]; exact fun x hx => by rw [hno x hx]; simp
    have HEA : Hid (l.any p = false) := ea
    clear hno IX ea
    go_wp2
    go_ret
    refine ⟨⟨q, rfl⟩, ?_⟩
    rw [HEA.out]
    rfl
  · have ea : l.any p = true := by
      rw [List.any_eq_true]
      exact ⟨l.getD i 0, by rw [List.getD_eq_getElem?_getD, List.getElem?_eq_getElem hi]; exact List.getElem_mem hi, hyes⟩
    have HEA : Hid (l.any p = true) := ea
    clear hyes IX ea
    go_wp2
    go_ret
    refine ⟨⟨q, rfl⟩, ?_⟩
    rw [HEA.out]
    rfl
set_option maxHeartbeats 2000000 in
theorem indexFunc_c (G : Nat) (u1 u2 : Value) (eg : ∀ args w, (callFunc G args).run Tryz.prog w = .ok (.enter G args) w) (p : Int → Bool) (sp : Option Addr) (c : Nat) (l : List Int) (w : World) (hs : SrcI w sp l) (hl : (l.length : Int) ≤ 9223372036854775807)
    (hp : ∀ x ∈ l, ∀ m, Calls Tryz.prog G #[.int .i64 x, u1, u2] (w.drewN m) fun e w' => e = .returned (.bool (p x)) ∧ ∃ q, w' = w.drewN q) :
    Calls Tryz.prog 125 #[.slice sp l.length c, .func (.func G) #[] #[u1, u2]] w fun e w' => (∃ q, w' = w.drewN q) ∧ ((e = .returned (.int .i64 (-1)) ∧ ∀ x ∈ l, p x = false) ∨ ∃ i : Nat, i < l.length ∧ e = .returned (.int .i64 (i : Int)) ∧ p (l.getD i 0) = true ∧ ∀ j, j < i → p (l.getD j 0) = false) := by
  have HS : Hid (SrcI w sp l) := hs
  have HP : Hid (∀ x ∈ l, ∀ m, Calls Tryz.prog G #[.int .i64 x, u1, u2] (w.drewN m) fun e w' => e = .returned (.bool (p x)) ∧ ∃ q, w' = w.drewN q) := hp
  obtain ⟨n, hn⟩ : ∃ n, n = l.length := ⟨_, rfl⟩
  have HN : Hid (n = l.length) := hn
  rw [← hn] at hl ⊢
  clear hs hp hn
  go_enter Tryz.func125, Tryz.ntmps125
  go_wp2
  go_loopg [5, 8] n (fun gg _ s8 wr => ∃ kk q : Nat, kk ≤ n ∧ n - kk ≤ gg ∧ s8 = .int .i64 kk ∧ wr = w.drewN q ∧ Hid (∀ j, j < kk → p (l.getD j 0) = false))
  case atStart => exact ⟨0, 0, Nat.zero_le _, by omega, rfl, rfl, fun j hj => absurd hj (Nat.not_lt_zero _)⟩
  case round =>
    obtain ⟨kk, q, hkk, hg, rfl, rfl, A⟩ := hrel
    by_cases hlt : kk < n
    · have hltz : (kk : Int) < (n : Int) := by omega
      rcases HS.out with h0 | ⟨b, off, rfl, hb, hc⟩
      · exact absurd hlt (by rw [HN.out, h0]; simp)
      have hcell : w.cell? ⟨b, off + kk, none⟩ = some (.int .i64 (l.getD kk 0)) := hc kk (by rw [← HN.out]; exact hlt)
      have hmem : l.getD kk 0 ∈ l := by
        have hk : kk < l.length := by rw [← HN.out]; exact hlt
        rw [List.getD_eq_getElem?_getD, List.getElem?_eq_getElem hk]; exact List.getElem_mem hk
      have hcall := HP.out _ hmem q
      clear hc hmem
      generalize hy : l.getD kk 0 = y at hcell hcall
      have B : Hid (l.getD kk 0 = y) := hy
      clear hy
      cases hq : p y with
      | true =>
        rw [hq] at hcall
        go_wp2_with (go_at_fn G; refine hcall.mono ?_; rintro e w' ⟨rfl, q', rfl⟩)
        go_ret
        exact ⟨⟨_, rfl⟩, .inr ⟨kk, hlt, rfl, by rw [B.out]; exact hq, A.out⟩⟩
      | false =>
        rw [hq] at hcall
        go_wp2_with (go_at_fn G; refine hcall.mono ?_; rintro e w' ⟨rfl, q', rfl⟩)
        go_roundg (n - (kk + 1))
        case measure => omega
        case rel =>
          refine ⟨kk + 1, _, by omega, by omega, by go_num, rfl, (show Hid _ from fun j hj => ?_)⟩
          by_cases e : j = kk
          · subst e
            rw [B.out]; exact hq
          · exact A.out j (by omega)
    · have hltz : ¬ (kk : Int) < (n : Int) := by omega
      have : kk = n := by omega
      subst this
      go_wp2
      go_ret
      refine ⟨⟨q, rfl⟩, .inl ⟨rfl, fun x hx => ?_⟩⟩
      obtain ⟨j, hj, rfl⟩ := List.getElem_of_mem hx
      have := A.out j (by rw [HN.out]; exact hj)
      rwa [List.getD_eq_getElem?_getD, List.getElem?_eq_getElem hj] at this
set_option maxHeartbeats 1000000 in
theorem containsFunc_c (G : Nat) (u1 u2 : Value) (eg : ∀ args w, (callFunc G args).run Tryz.prog w = .ok (.enter G args) w) (p : Int → Bool) (sp : Option Addr) (c : Nat) (l : List Int) (w : World) (hs : SrcI w sp l) (hl : (l.length : Int) ≤ 9223372036854775807)
    (hp : ∀ x ∈ l, ∀ m, Calls Tryz.prog G #[.int .i64 x, u1, u2] (w.drewN m) fun e w' => e = .returned (.bool (p x)) ∧ ∃ q, w' = w.drewN q) :
    Calls Tryz.prog 88 #[.slice sp l.length c, .func (.func G) #[] #[u1, u2]] w fun e w' => (∃ q, w' = w.drewN q) ∧ e = .returned (.bool (l.any p)) := by
  have IX := indexFunc_c G u1 u2 eg p sp c l w hs hl hp
  clear hp hs eg
  go_enter Tryz.func88, Tryz.ntmps88
  go_wp2_with fail
  refine IX.mono ?_
  rintro e w1 ⟨⟨q, rfl⟩, ⟨rfl, hno⟩ | ⟨i, hi, rfl, hyes, _⟩⟩
  · have ea : l.any p = false := by rw [List.any_eq_false]; exact fun x hx => by rw [hno x hx]; simp
    have HEA : Hid (l.any p = false) := ea
    clear hno IX ea
    go_wp2
    go_ret
    refine ⟨⟨q, rfl⟩, ?_⟩
    rw [HEA.out]
    rfl
  · have ea : l.any p = true := by
      rw [List.any_eq_true]
      exact ⟨l.getD i 0, by rw [List.getD_eq_getElem?_getD, List.getElem?_eq_getElem hi]; exact List.getElem_mem hi, hyes⟩
    have HEA : Hid (l.any p = true) := ea
    clear hyes IX ea
    go_wp2
    go_ret
    refine ⟨⟨q, rfl⟩, ?_⟩
    rw [HEA.out]
    rfl
end Go.Proofs.YtadadidccbhopaaGreat
/- slices.DeleteFunc at rows of numbers, with a method bound. -/
namespace Go.Proofs.YtadadidccbhopaaGreat
open Go.RowKit
set_option maxRecDepth 100000
theorem run_clear_many {P : Program} {w : World} (dT ty elem : TypeId) (hu : P.underlying dT = some (.slice elem)) (hz : (P.info? elem).map (·.zero) = some (some (.int .i64 0)))
    (g off m dCap : Nat) (t : TypeId) (cur : Array Value) (hg : w.heap[g]? = some (.cells cur t (0, 0))) (hn : off + (m + 1) ≤ cur.size) :
    (Builtin.clear_ #[dT] ty #[.slice (some ⟨g, off, none⟩) (m + 1) dCap]).run P w = .ok (.tuple #[]) (w.setRow g (cur.toList.take off ++ List.replicate (m + 1) (Value.int .i64 0) ++ cur.toList.drop (off + (m + 1))).toArray) := by
  have hst := run_storeCells_at P g off t (List.replicate (m + 1) (Value.int .i64 0)) 0 cur w hg (by simp; omega) (fun v hv => by rw [List.eq_of_mem_replicate hv]; rfl)
  have hzv : (zeroValue elem).run P w = .ok (.int .i64 0) w := by
    cases hq : P.info? elem with
    | none => simp [hq] at hz
    | some i =>
      have hi : i.zero = some (.int .i64 0) := by simpa [hq] using hz
      simp [zeroValue, typeInfo, hq, hi]
  have e : (Builtin.zeroCells (Value.int IntKind.i64 0).cells (m + 1)).toList = List.replicate (m + 1) (Value.int .i64 0) := by
    have : (Builtin.zeroCells #[Value.int IntKind.i64 0] (m + 1)).toList = List.replicate (m + 1) (Value.int .i64 0) := by
      simp only [Builtin.zeroCells]
      apply List.ext_getElem
      · simp
      · intro i h1 h2
        simp [Nat.mod_one]
    exact this
  simp only [List.length_replicate, Nat.add_zero] at hst
  simp only [Builtin.clear_]
  simp [run_underlying hu, hzv, e, hst]
theorem belowN {B : Nat} {w w' : World} (h : Below B w w') (q : Nat) : Below B w (w'.drewN q) := by
  induction q generalizing w' with
  | zero => exact h
  | succ q ih => rw [show w'.drewN (q + 1) = w'.drew.drewN q by rw [World.drewN_drew]; congr 1; omega]; exact ih h.drew
theorem ivs_get {l : List Int} {r : List Value} {j : Nat} (hj : j < l.length) : (ivs l ++ r).toArray[j]? = some (.int .i64 (l.getD j 0)) := by
  rw [List.getElem?_toArray, List.getElem?_append_left (by rw [ivs_length]; exact hj)]
  simp [ivs, hj]
theorem Tryz.zeroL : (Tryz.prog.info? 2).map (·.zero) = some (some (.int .i64 0)) := by kernel_rfl
theorem size2 (w : World) : (sizeOf 2).run Tryz.prog w = .ok 1 w := size_of (by kernel_rfl) w
/-- What is left of the first j, and what stands behind. -/
structure DelI (p : Int → Bool) (l cur : List Int) (i j : Nat) : Prop where
  len : cur.length = l.length
  ij : i < j
  jl : j ≤ l.length
  pre : cur.take i = (l.take j).filter fun x => !p x
  suf : cur.drop j = l.drop j
theorem DelI.get {p : Int → Bool} {l cur : List Int} {i j : Nat} (h : DelI p l cur i j) : cur.getD j 0 = l.getD j 0 := by
  have : (cur.drop j)[0]? = (l.drop j)[0]? := by rw [h.suf]
  simp only [List.getElem?_drop, Nat.add_zero] at this
  rw [List.getD_eq_getElem?_getD, this, List.getD_eq_getElem?_getD]
theorem take_succ_getD (l : List Int) (j : Nat) (hj : j < l.length) : l.take (j + 1) = l.take j ++ [l.getD j 0] := by
  rw [List.take_add_one, List.getD_eq_getElem?_getD, List.getElem?_eq_getElem hj]; simp
theorem DelI.skip {p : Int → Bool} {l cur : List Int} {i j : Nat} (h : DelI p l cur i j) (hj : j < l.length) (hp : p (l.getD j 0) = true) : DelI p l cur i (j + 1) :=
  ⟨h.len, by have := h.ij; omega, hj, by rw [take_succ_getD l j hj, List.filter_append, h.pre]; generalize l.getD j 0 = y at hp; simp [hp], by rw [← List.drop_drop, h.suf, List.drop_drop]⟩
theorem DelI.keep {p : Int → Bool} {l cur : List Int} {i j : Nat} (h : DelI p l cur i j) (hj : j < l.length) (hp : p (l.getD j 0) = false) : DelI p l (cur.set i (l.getD j 0)) (i + 1) (j + 1) := by
  have hij := h.ij
  have hl := h.len
  refine ⟨by rw [List.length_set]; exact hl, by omega, hj, ?_, ?_⟩
  · rw [take_succ_getD l j hj, List.filter_append, ← h.pre, take_succ_getD _ i (by rw [List.length_set]; omega), List.take_set_of_le (Nat.le_refl _)]
    generalize l.getD j 0 = y at hp ⊢
    rw [show (cur.set i y).getD i 0 = y by simp [List.getD_eq_getElem?_getD, show i < cur.length by omega]]
    simp [hp]
  · rw [List.drop_set_of_lt (by omega), ← List.drop_drop, h.suf, List.drop_drop]
theorem DelI.start {p : Int → Bool} {l : List Int} {i : Nat} (hi : i < l.length) (h1 : p (l.getD i 0) = true) (h0 : ∀ j, j < i → p (l.getD j 0) = false) : DelI p l l i (i + 1) := by
  refine ⟨rfl, by omega, hi, ?_, rfl⟩
  rw [take_succ_getD l i hi, List.filter_append, List.filter_eq_self.2]
  · generalize l.getD i 0 = y at h1 ⊢
    simp [h1]
  · intro x hx
    obtain ⟨k, hk, rfl⟩ := List.getElem_of_mem hx
    have hk' : k < i := by simp at hk; omega
    have := h0 k hk'
    rw [List.getD_eq_getElem?_getD, List.getElem?_eq_getElem (by omega)] at this
    simp only [Option.getD_some] at this
    rw [List.getElem_take, this]; rfl
theorem slice_lo (g n cap i : Nat) (hi : i < n) (hc : n ≤ cap) (w : World) : (Instr.slice 37 (.slice (some ⟨g, 0, none⟩) n cap) (some (.int .i64 (i : Int))) none none).run Tryz.prog w = .ok (.slice (some ⟨g, i, none⟩) (n - i) (cap - i)) w := by
  have he : Tryz.prog.elem 37 = 2 := by kernel_rfl
  rw [run_slice_l w 37 _ _ _ (by kernel_rfl) .i64 _ (by omega) (by omega), he, size2]
  simp only [Result.andThen_ok, sliced, Int.toNat_natCast]
  rw [if_neg (by omega)]
  simp [addr_add]
theorem slice_hi (g n cap i : Nat) (hi : i < n) (hc : n ≤ cap) (w : World) : (Instr.slice 37 (.slice (some ⟨g, 0, none⟩) n cap) none (some (.int .i64 (i : Int))) none).run Tryz.prog w = .ok (.slice (some ⟨g, 0, none⟩) i cap) w := by
  have he : Tryz.prog.elem 37 = 2 := by kernel_rfl
  rw [run_slice_h w 37 _ _ _ (by kernel_rfl) .i64 _ (by omega) (by omega), he, size2]
  simp [sliced, addr_add]
set_option maxHeartbeats 2000000 in
theorem deleteFunc_m (G : Nat) (rv : Value) (eg : ∀ args w, (callFunc G args).run Tryz.prog w = .ok (.enter G args) w) (p : Int → Bool) (base g cap : Nat) (l : List Int) (w : World) (r : List Value) (hg : w.heap[g]? = some (.cells (ivs l ++ r).toArray 2 (0, 0))) (hgb : base ≤ g) (hc : l.length + r.length = cap) (hcm : (cap : Int) ≤ 9223372036854775807) (hl1 : 1 ≤ l.length)
    (hp : ∀ x ∈ l, ∀ W, Fr (fun k => k = g) w W → Calls Tryz.prog G #[rv, .int .i64 x] W fun e w' => e = .returned (.bool (p x)) ∧ w' = W) :
    Calls Tryz.prog 128 #[.slice (some ⟨g, 0, none⟩) l.length cap, .func (.func G) #[rv] #[]] w fun e w' => ∃ m, e = .returned (.slice (some ⟨g, 0, none⟩) m cap) ∧ m = (l.filter fun x => !p x).length ∧ OwnL w' base (.slice (some ⟨g, 0, none⟩) m cap) (l.filter fun x => !p x) ∧ Fr (fun k => k = g) w w' ∧ Below base w w' := by
  have hsrc : SrcI w (some ⟨g, 0, none⟩) l := .inr ⟨g, 0, rfl, (Array.getElem?_eq_some_iff.1 hg).1, fun j hj => by
    rw [Nat.zero_add, cell_of_row w g j _ _ _ hg]
    exact ivs_get hj⟩
  have IX := indexFunc_m G rv eg p (some ⟨g, 0, none⟩) cap l w hsrc (by omega) (fun x hx m => (hp x hx (w.drewN m) (Fr.of_below (belowN (Below.refl _ _) _))).mono fun e w' h => ⟨h.1, m, h.2⟩)
  have HP : Hid _ := hp
  have HC : Hid (l.length + r.length = cap) := hc
  obtain ⟨n, hn⟩ : ∃ n, n = l.length := ⟨_, rfl⟩
  have HN : Hid (n = l.length) := hn
  have hnc : n ≤ cap := by omega
  rw [← hn] at IX ⊢
  have HG : Hid (w.heap[g]? = some (.cells (ivs l ++ r).toArray 2 (0, 0))) := hg
  have hn1 : 1 ≤ n := by omega
  clear hsrc hp hc hg hn hl1
  go_enter Tryz.func128, Tryz.ntmps128
  go_wp2_with fail
  refine IX.mono ?_
  clear IX
  rintro e w1 ⟨⟨q, rfl⟩, ⟨rfl, hno⟩ | ⟨i, hi, rfl, hyes, hbe⟩⟩
  · have HF : Hid ((l.filter fun x => !p x) = l) := List.filter_eq_self.2 fun x hx => by rw [hno x hx]; rfl
    clear hno
    go_wp2
    go_ret
    refine ⟨n, rfl, by rw [HF.out, HN.out], ?_, (Fr.of_below (belowN (Below.refl _ _) _)), belowN (Below.refl _ _) q⟩
    rw [HF.out]
    refine ⟨by simp [ivs_length], .inr ⟨g, cap, (ivs l ++ r).toArray, by rw [HN.out], hgb, HG.out, by rw [← HN.out]; exact hnc, by unfold maxLen; omega, by simp [ivs_length, HC.out], by simp [ivs_length]⟩⟩
  · have HD : Hid (DelI p l l i (i + 1)) := DelI.start (by rw [← HN.out]; exact hi) hyes hbe
    have hi2 : i < n := hi
    clear hyes hbe hi
    go_wp2
    go_loopg [5, 6, 7] n (fun gg t5 t6 _ W => ∃ (gw : World) (i j : Nat) (cur : List Int), gw = W ∧ j ≤ n ∧ i < j ∧ n - j ≤ gg ∧ t5 = .int .i64 i ∧ t6 = .int .i64 j ∧ Hid (DelI p l cur i j) ∧ Hid (W.heap[g]? = some (.cells (ivs cur ++ r).toArray 2 (0, 0))) ∧ Hid (Fr (fun k => k = g) w W) ∧ Hid (Below base w W))
    case atStart => exact ⟨_, i, i + 1, l, rfl, by omega, by omega, by omega, rfl, by go_num, HD, HG, (Fr.of_below (belowN (Below.refl _ _) _)), belowN (Below.refl _ _) q⟩
    case round =>
      clear HD hi2
      obtain ⟨gw, i', j, cur, rfl, hj, hij, hgg, rfl, rfl, HD, HW, HFr, HB⟩ := hrel
      have HL : Hid (cur.length = n) := by rw [HN.out]; exact HD.out.len
      by_cases hlt : j < n
      · have hjl : j < l.length := by rw [← HN.out]; exact hlt
        have hcell : gw.cell? ⟨g, j, none⟩ = some (.int .i64 (l.getD j 0)) := by
          rw [← HD.out.get, cell_of_row gw g j _ _ _ HW.out]
          exact ivs_get (by rw [HL.out]; exact hlt)
        have hmem : l.getD j 0 ∈ l := by rw [List.getD_eq_getElem?_getD, List.getElem?_eq_getElem hjl]; exact List.getElem_mem hjl
        have hcall := HP.out _ hmem gw HFr.out
        have hltz : (j : Int) < (n : Int) := by omega
        clear hmem hjl
        generalize hy : l.getD j 0 = y at hcell hcall
        have HY : Hid (l.getD j 0 = y) := hy
        clear hy
        cases hq : p y with
        | true =>
          rw [hq] at hcall
          go_wp2_with (go_at_fn G; refine hcall.mono ?_; rintro e w' ⟨rfl, rfl⟩)
          go_roundg (n - (j + 1))
          case measure => omega
          case rel => exact ⟨_, i', j + 1, cur, rfl, by omega, by omega, by omega, rfl, by go_num, HD.out.skip (by rw [← HN.out]; exact hlt) (by rw [HY.out]; exact hq), HW, HFr, HB⟩
        | false =>
          rw [hq] at hcall
          have ci : ∃ v, gw.cell? ⟨g, i', none⟩ = some v := ⟨_, by rw [cell_of_row gw g i' _ _ _ HW.out]; exact ivs_get (by rw [HL.out]; omega)⟩
          obtain ⟨v, ci⟩ := ci
          have fi : gw.frozen? ⟨g, i', none⟩ = false := frozen_of_row gw g i' _ _ HW.out
          have hiz : (i' : Int) < (n : Int) := by omega
          go_wp2_with (go_at_fn G; refine hcall.mono ?_; rintro e w' ⟨rfl, rfl⟩)
          go_roundg (n - (j + 1))
          case measure => omega
          case rel =>
            have hset := heap_setCell_same _ g i' _ 2 (.int .i64 y) HW.out
            refine ⟨_, i' + 1, j + 1, cur.set i' y, rfl, by omega, by omega, by omega, by go_num, by go_num, ?_, ?_, HFr.out.setCell g i' _ rfl, HB.out.setCell hgb _⟩
            · have := HD.out.keep (by rw [← HN.out]; exact hlt) (by rw [HY.out]; exact hq)
              rw [HY.out] at this; exact this
            · have e : (ivs (cur.set i' y) ++ r).toArray = (ivs cur ++ r).toArray.setIfInBounds i' (.int .i64 y) := by
                simp only [ivs, List.map_set, List.setIfInBounds_toArray]
                rw [List.set_append_left _ _ (by simp; rw [HL.out]; omega)]
              show (World.setCell _ _ _).heap[g]? = _
              rw [e]; exact hset
      · have hje : j = n := by omega
        subst hje
        have hltz : ¬ (j : Int) < (j : Int) := by omega
        have S1 := slice_lo g j cap i' hij hnc
        have S2 := slice_hi g j cap i' hij hnc
        obtain ⟨m, hm⟩ : ∃ m, j - i' = m + 1 := ⟨j - i' - 1, by omega⟩
        rw [hm] at S1
        have CL := run_clear_many (P := Tryz.prog) (w := gw) 37 0 2 Tryz.underlying37 Tryz.zeroL g i' m (cap - i') 2 _ HW.out (by simp [ivs_length, HL.out]; omega)
        have e1 : i' + (m + 1) = j := by omega
        rw [e1] at CL
        have hfin := setRow_heap gw g _ ((ivs cur ++ r).toArray.toList.take i' ++ List.replicate (m + 1) (Value.int .i64 0) ++ (ivs cur ++ r).toArray.toList.drop j).toArray 2 _ HW.out
        have HT : Hid (((ivs cur ++ r).toArray.toList.take i' ++ List.replicate (m + 1) (Value.int .i64 0) ++ (ivs cur ++ r).toArray.toList.drop j).take i' = ivs (l.filter fun x => !p x) ∧ (l.filter fun x => !p x).length = i' ∧ ((ivs cur ++ r).toArray.toList.take i' ++ List.replicate (m + 1) (Value.int .i64 0) ++ (ivs cur ++ r).toArray.toList.drop j).length = cap) := by
          have hpre := HD.out.pre
          rw [HN.out, List.take_of_length_le (Nat.le_refl _)] at hpre
          have hcl : cur.length = j := HL.out
          refine ⟨?_, ?_, ?_⟩
          · rw [List.toList_toArray, List.append_assoc, List.take_append_of_le_length (by simp [ivs_length]; omega), List.take_take, Nat.min_self, List.take_append_of_le_length (by simp [ivs_length]; omega), ← ivs_take, hpre]
          · rw [← hpre, List.length_take]; omega
          · have := HC.out
            have h2 := HN.out
            simp [ivs_length]; omega
        have HF : Hid _ := hfin
        clear hfin
        generalize ((ivs cur ++ r).toArray.toList.take i' ++ List.replicate (m + 1) (Value.int .i64 0) ++ (ivs cur ++ r).toArray.toList.drop j) = AA at *
        go_wp2
        go_ret
        refine ⟨i', rfl, HT.out.2.1.symm, ⟨by simp [ivs_length], .inr ⟨g, cap, AA.toArray, by rw [HT.out.2.1], hgb, HF.out, by rw [HT.out.2.1]; omega, by unfold maxLen; omega, by simp [HT.out.2.2], by rw [HT.out.2.1, Nat.mul_one, List.toList_toArray]; exact HT.out.1⟩⟩, HFr.out.trans ⟨by simp, fun k _ hk => setRow_other _ _ _ _ hk, rfl, rfl, rfl⟩, HB.out.trans (below_setRow (Below.refl _ _) hgb _)⟩
end Go.Proofs.YtadadidccbhopaaGreat
