/- The reckoner of closed calls, third part: what code, calls and pieces of a call do on the machine: what it answers true for returns true. No condition. -/
import Derived.Test.YtkdnfmodleoalaaGreatDoorR2
import Derived.Laws.AppendOwn
import Derived.Laws.BytesArg
import Derived.Lib.ConvBytes
import Derived.OpenShut
import Derived.Laws.RangeString
import Derived.Below
import Derived.ProofKit
import Derived.LaidMore
import Derived.Stop.Joined
import Derived.Lib.LaidTab
import Derived.ChangeOld
import Derived.Handed
import Derived.MapKept
/- Operations, one by one: what is read of slices at once, and stored at once: copy, clear. -/
namespace Go.Ev
variable {P : Program} {E : Env} {ro : Option Nat} {o : Oper}

/-- a slice of m elements, or a text of m bytes -/
def LenIs (v : V) (m : Nat) : Prop := ∀ R, (∃ a c, den R v = .slice a m c) ∨ ∃ st, den R v = .string st ∧ st.size = m

def FirstC (P : Program) (z n : Nat) (v : V) : Comp (Array Value) := fun D R w K => ∀ xv, Den D R v xv → ∃ cells, (∀ w2 : World, w2.heap = w.heap → (Builtin.firstCells z n xv).run P w2 = .ok cells w2) ∧ K cells w
theorem FirstC.mono {z n : Nat} {v : V} : Mono (FirstC P z n v) := fun _ _ _ _ _ h hh xv hx => let ⟨c, h1, h2⟩ := hh xv hx; ⟨c, h1, h _ _ h2⟩

theorem loadCells_zero (a : Addr) (w : World) : (loadCells a 0).run P w = .ok #[] w := by
  have := run_loadCells_list (P := P) w a [] (fun j v h => by simp at h)
  exact this

theorem first_zero {z : Nat} {v : V} {m : Nat} (hv : LenIs v m) (s : St) : Snd P (FirstC P z 0 v) (fun D R cells => DenC D R [] cells.toList) s s := by
  refine Snd.pure (fun D R w xv hx => ?_) FirstC.mono
  have e := hx R (Agr.refl _ _)
  have hnil : ∀ cells : Array Value, cells = #[] → DenC D R [] cells.toList := fun cells h R' _ => by subst h; simp [cellsOf]
  rcases hv R with ⟨a, c, hd⟩ | ⟨st, hd, _⟩
  · rw [hd] at e
    subst e
    cases a with
    | none => exact ⟨#[], fun _ _ => by simp [Builtin.firstCells], rfl, hnil _ rfl⟩
    | some a => exact ⟨#[], fun _ _ => by simp [Builtin.firstCells, loadCells_zero], rfl, hnil _ rfl⟩
  · rw [hd] at e
    subst e
    have hz : (st.extract 0 0).data = #[] := by
      apply Array.ext'
      simp
    exact ⟨#[], fun _ _ => by simp [Builtin.firstCells], rfl, hnil _ rfl⟩

theorem load_part {D : Nat → Prop} {R : Ren} {cs : List V} {oo off id n : Nat} {c : Array Value} {el lo hi : Nat} {pre xs post : List Value} {w : World} (har : Around D R cs oo off w.heap[R.at_ id]? c el lo hi pre xs post) (hle : oo + n ≤ wide cs) :
    (∀ w2 : World, w2.heap = w.heap → (loadCells ⟨R.at_ id, off, none⟩ n).run P w2 = .ok ((xs.drop oo).take n).toArray w2) ∧ ∀ R', Agr D R R' → cellsOf R' (takeC (dropC cs oo) n) = (xs.drop oo).take n := by
  have hxs : ∀ R', Agr D R R' → cellsOf R' cs = xs := har.den
  have hlen : oo + n ≤ xs.length := by rw [wide_eq R, hxs R (Agr.refl _ _)] at hle; exact hle
  constructor
  · intro w2 hw2
    rw [← hw2] at har
    have hl : ((xs.drop oo).take n).length = n := by simp; omega
    have := run_loadCells_list (P := P) w2 ⟨R.at_ id, off, none⟩ ((xs.drop oo).take n) (fun j v hj => by
      have hj' : xs[oo + j]? = some v := by
        rw [List.getElem?_take] at hj
        split at hj
        · rw [List.getElem?_drop] at hj; exact hj
        · cases hj
      have hc := har.cell hj'
      unfold Addr.add
      split
      · rename_i hz; subst hz; simpa using hc
      · exact hc)
    rw [hl] at this
    exact this
  · intro R' ha
    rw [takeC_cells, dropC_cells, hxs R' ha]

theorem around_row {D : Nat → Prop} {R : Ren} {id el op : Nat} {cs : List V} {ob : Option Obj} (off : Nat) (h : BRep P D R id (.row el op cs) ob) : ∃ c lo hi pre xs post, Around D R cs off (R.base id + off) ob c el lo hi pre xs post := by
  obtain ⟨c, lo, hi, ho, hf, pre, xs, spare, h1, h2, hb, h3, h4⟩ := h
  exact ⟨c, lo, hi, pre, xs, spare, ho, hf, h1, h2, by omega⟩

theorem firstK_snd {z : Nat} (hz : 0 < z) {n m : Nat} {v : V} (hv : LenIs v m) (hnm : n ≤ m) {s : St} {k : List V → St → Bool} (h : firstK s z n v k = true) (hw : ∃ G, Wf s G) :
    ∃ cs s', k cs s' = true ∧ Snd P (FirstC P z n v) (fun D R cells => DenC D R cs cells.toList) s s' := by
  obtain ⟨G, hG⟩ := hw
  unfold firstK at h
  rw [ifB_iff] at h
  rcases h with ⟨h0, h⟩ | ⟨h0, h⟩
  · have := Nat.eq_of_beq_eq_true h0
    subst this
    exact ⟨[], s, h, first_zero hv s⟩
  obtain ⟨t, a, b, c, d, l⟩ := v
  have h' : ifB (Nat.beq t 6) (rowPart s a b (Nat.mul n z) k)
    (ifB (Nat.beq t 7) (wh (Nat.beq d z) (openPart s a z (Nat.mul b z) (Nat.mul n z) k)) (wh (Nat.beq t 3) (k [.mk 16 n (low b n) 0 0 []] s))) = true := h
  rw [ifB_iff, ifB_iff, wh_iff, wh_iff] at h'
  rcases h' with ⟨h6, h'⟩ | ⟨_, ⟨h7, h'⟩ | ⟨_, h3, h'⟩⟩
  · have e := Nat.eq_of_beq_eq_true h6
    subst e
    unfold rowPart atK at h'
    obtain ⟨hid, hk⟩ := look_eq hG a _ h'
    obtain ⟨cs, oo, q, hk, hdead, hrep, _⟩ := cellsK_inv (P := P) (hG.ok a) hk
    rw [wh_iff] at hk
    have hle : oo + n * z ≤ wide cs := Nat.le_of_ble_eq_true hk.1
    refine ⟨_, _, hk.2, Snd.read hid (fun G' hG' => by rw [wf_unique hG hG']; exact hdead) (fun G' hG' D R w hD hlt hb xv hx => ?_) FirstC.mono⟩
    rw [wf_unique hG hG'] at hb
    obtain ⟨cc, el, lo, hi, pre, xs, post, har⟩ := hrep D R a _ hb
    obtain ⟨q1, q2⟩ := load_part (P := P) har hle
    have e := hx R (Agr.refl _ _)
    simp only [den] at e
    subst e
    exact ⟨_, q1, rfl, fun R' ha => by simpa using q2 R' ha⟩
  · have e := Nat.eq_of_beq_eq_true h7
    subst e
    have e := Nat.eq_of_beq_eq_true h'.1
    subst e
    obtain ⟨hid, el, op, cs, hrow, hk⟩ := rowK_inv hG h'.2
    rw [wh_iff, wh_iff] at hk
    have hop := Nat.eq_of_beq_eq_true hk.1
    have hop : op = d + 1 := hop
    subst hop
    have hle : b * d + n * d ≤ wide cs := Nat.le_of_ble_eq_true hk.2.1
    refine ⟨_, _, hk.2.2, Snd.read hid (fun G' hG' => by rw [wf_unique hG hG', Al, hrow]; simp) (fun G' hG' D R w hD hlt hb xv hx => ?_) FirstC.mono⟩
    rw [wf_unique hG hG', hrow] at hb
    have hroom := room_le hb (b + n) (by rw [Nat.add_mul]; exact hle) hz
    have hn0 : n ≠ 0 := by intro e; subst e; cases h0
    have hne : R.room a ≠ b := by omega
    obtain ⟨cc, lo, hi, pre, xs, post, har⟩ := around_row (P := P) (b * d) hb
    obtain ⟨q1, q2⟩ := load_part (P := P) har hle
    have e := hx R (Agr.refl _ _)
    simp only [den, if_neg hne] at e
    subst e
    exact ⟨_, q1, rfl, fun R' ha => by simpa using q2 R' ha⟩
  · have e := Nat.eq_of_beq_eq_true h3
    subst e
    refine ⟨_, s, h', Snd.pure (fun D R w xv hx => ?_) FirstC.mono⟩
    have e := hx R (Agr.refl _ _)
    simp only [den] at e
    subst e
    have hm : a = m := by
      rcases hv R with ⟨q, c', hd⟩ | ⟨st, hd, hs⟩
      · simp [den] at hd
      · simp only [den] at hd
        cases hd
        rw [text_size] at hs
        exact hs
    subst hm
    refine ⟨_, fun _ _ => rfl, rfl, fun R' _ => ?_⟩
    simp only [cellsOf, List.append_nil]
    rw [text_cut a b 0 n (by omega) hnm]
    have hsh : Nat.shiftRight b (Nat.mul 8 0) = b := rfl
    rw [hsh, Nat.sub_zero]
    simp only [Array.toList_map, text_list, List.map_map, bytesOf]
    refine List.map_congr_left fun i _ => ?_
    have hl := byteAt_lt (low b n) i
    simp [Nat.mod_eq_of_lt hl]

/-! ### stores into slices -/
def StoreC (P : Program) (v : V) (new : List V) : Comp Unit := fun D R w K => ∀ xv vals, Den D R v xv → DenC D R new vals → ∃ a l c w', xv = .slice (some a) l c ∧ (storeCells a vals).run P w = .ok () w' ∧ K () w'
theorem StoreC.mono {v : V} {new : List V} : Mono (StoreC P v new) := fun _ _ _ _ _ h hh xv vals h1 h2 => let ⟨a, l, c, w', q1, q2, q3⟩ := hh xv vals h1 h2; ⟨a, l, c, w', q1, q2, h _ _ q3⟩

theorem storeO_inv {s : St} {G : Nat → HB} (hG : Wf s G) {id z off w : Nat} {new : List V} {k : St → Bool} (h : storeO s id z off new w k = true) :
    id < s.nx ∧ Al G id ∧ ∃ b', HBok b' ∧ k { s with h := mk4 (upd G id b'), r := s.r ||| mask id, w := s.w ||| mask id } = true ∧ (∃ el cs, G id = .row el (z + 1) cs ∧ off + w ≤ wide cs) ∧
      ∀ D R W vs, R.at_ id < W.heap.size → BRep P D R id (G id) W.heap[R.at_ id]? → DenC D R new vs →
        ∃ ob, (storeCells ⟨R.at_ id, R.base id + off, none⟩ vs).run P W = .ok () { W with heap := W.heap.setIfInBounds (R.at_ id) ob } ∧ BRep P D R id b' (some ob) ∧ vs.length = w := by
  unfold storeO at h
  rw [wh_iff, wh_iff] at h
  obtain ⟨hok, hw, h⟩ := h
  have hw := Nat.eq_of_beq_eq_true hw
  obtain ⟨hid, el, op, cs, hrow, h⟩ := rowK_inv hG h
  rw [wh_iff, wh_iff] at h
  obtain ⟨hop, hle, hk⟩ := h
  have hop := Nat.eq_of_beq_eq_true hop
  have hop : op = z + 1 := hop
  subst hop
  have hle : off + w ≤ wide cs := Nat.le_of_ble_eq_true hle
  have hk := lay_ok hG hk
  refine ⟨hid, by rw [Al, hrow]; simp, .row el (z + 1) (putC cs off new w), trivial, hk, ⟨el, cs, hrow, hle⟩, fun D R W vs hlt hb hvs => ?_⟩
  rw [hrow] at hb
  obtain ⟨c, lo, hi, ho, hf, pre, xs, spare, h1, h2, hb0, h3, h4⟩ := hb
  have hR := Agr.refl D R
  have hwl : vs.length = w := by rw [← hw, wide_eq R, hvs R hR]
  have hxl : wide cs = xs.length := by rw [wide_eq R, h1 R hR]
  have hcl : c.toList.length = pre.length + (xs.length + spare.length) := by rw [h2]; simp
  have hone : ∀ v ∈ vs, v.oneCell' = true := by
    rw [← hvs R hR]
    exact cells_one R new (okC_inv new hok)
  have hrun := run_cells (P := P) (R.at_ id) el (lo, hi) (.inr trivial) vs (R.base id + off) 0 W c ho hf (by simp at hcl; omega) hone
  have e : c.toList.take (R.base id + off + 0) ++ (vs ++ c.toList.drop (R.base id + off + 0 + vs.length)) = pre ++ ((xs.take off ++ (vs ++ xs.drop (off + w))) ++ spare) := by
    rw [h2, ← hb0, hwl]
    simp only [Nat.add_zero]
    rw [List.take_append, List.take_of_length_le (l := pre) (by omega), Nat.add_sub_cancel_left, List.take_append_of_le_length (l₁ := xs) (by omega)]
    rw [List.drop_append, List.drop_of_length_le (l := pre) (by omega), List.nil_append]
    rw [show pre.length + off + w - pre.length = off + w by omega, List.drop_append_of_le_length (by omega)]
    simp
  rw [e] at hrun
  refine ⟨_, hrun, ⟨_, lo, hi, rfl, ?_, pre, xs.take off ++ (vs ++ xs.drop (off + w)), spare, fun R' ha => ?_, by simp, hb0, fun q => by omega, fun z' ez => ?_⟩, hwl⟩
  · rcases hf with q | q
    · exact .inl q
    · refine .inr ?_
      have : (pre ++ ((xs.take off ++ (vs ++ xs.drop (off + w))) ++ spare)).toArray.size = c.size := by
        have := hcl
        simp at this ⊢
        omega
      omega
  · show cellsOf R' (putC cs off new w) = _
    rw [putC_cells, h1 R' ha, hvs R' ha]
  · have : (pre ++ ((xs.take off ++ (vs ++ xs.drop (off + w))) ++ spare)).toArray.size = c.size := by
      have := hcl
      simp at this ⊢
      omega
    rw [this]
    exact h4 z' ez

theorem storeS_snd {z n : Nat} (hz : 0 < z) (hn : 0 < n) {v : V} {new : List V} {s : St} {k : St → Bool} (h : storeS s v z new n k = true) (hw : ∃ G, Wf s G) : ∃ s', k s' = true ∧ Snd P (StoreC P v new) (fun _ _ _ => True) s s' := by
  obtain ⟨G, hG⟩ := hw
  obtain ⟨t, id, off, c, y, l⟩ := v
  have h' : ifB (Nat.beq t 6) (storeC s id off new (Nat.mul n z) k) (wh (Nat.beq t 7) (wh (Nat.beq y z) (storeO s id z (Nat.mul off z) new (Nat.mul n z) k))) = true := h
  rw [ifB_iff, wh_iff, wh_iff] at h'
  rcases h' with ⟨h6, h'⟩ | ⟨_, h7, hy, h'⟩
  · have e := Nat.eq_of_beq_eq_true h6
    subst e
    obtain ⟨hid, hal, b', hok, hk, hst⟩ := storeC_inv (P := P) hG h'
    refine ⟨_, hk, Snd.write hG hid hal hok (fun D R w hD hlt hb xv vals hx hv => ?_) StoreC.mono⟩
    obtain ⟨ob, hrun, hbrep, hlen⟩ := hst D R w _ hlt hb hv
    have e := hx R (Agr.refl _ _)
    simp only [den] at e
    subst e
    exact ⟨_, _, _, _, rfl, hrun, ⟨ob, rfl, hbrep⟩, trivial⟩
  · have e := Nat.eq_of_beq_eq_true h7
    subst e
    have e := Nat.eq_of_beq_eq_true hy
    subst e
    obtain ⟨hid, hal, b', hok, hk, ⟨el, cs, hrow, hle⟩, hst⟩ := storeO_inv (P := P) hG h'
    refine ⟨_, hk, Snd.write hG hid hal hok (fun D R w hD hlt hb xv vals hx hv => ?_) StoreC.mono⟩
    obtain ⟨ob, hrun, hbrep, hlen⟩ := hst D R w _ hlt hb hv
    have hroom := room_le (hrow ▸ hb) (off + n) (by rw [Nat.add_mul]; exact hle) hz
    have hne : R.room id ≠ off := by omega
    have e := hx R (Agr.refl _ _)
    simp only [den, if_neg hne] at e
    subst e
    exact ⟨_, _, _, _, rfl, hrun, ⟨ob, rfl, hbrep⟩, trivial⟩
theorem lenIs_of {v : V} {k : Nat → Bool} (h : lenK v k = true) : ∃ n, k n = true ∧ LenIs v n := lenK_inv h

theorem run_lenOf {v : V} {m : Nat} (hv : LenIs v m) (R : Ren) (w : World) : (Builtin.lenOf (den R v)).run P w = .ok m w := by
  rcases hv R with ⟨a, c, hd⟩ | ⟨st, hd, hs⟩
  · rw [hd]; simp [Builtin.lenOf]
  · rw [hd]; simp [Builtin.lenOf, hs]

theorem copy_snd {t e : TypeId} {l : List TypeId} {a x : Operand} (ho : o.op = .call ⟨.builtin .copy, #[a, x], (t :: l).toArray⟩) (hu : P.underlying t = some (.slice e)) {y : ATy} (hT : TyOk P e y) (hpos : 1 ≤ y.size)
    {c : OpC} (hf : c2 a x (copyK y.size) = some c) (ha : OpOk P a) (hx : OpOk P x) (rec : Rec) : OpSnd P ro o (c.f rec) := by
  obtain ⟨f⟩ := c
  refine c2_snd hf ha hx rec fun v u s K hk hw => ?_
  obtain ⟨n, hk1, hlen⟩ := lenIs_of (show lenK u (fun n => slK v (fun m => wh (Nat.ble (Nat.min n m) 4294967296) (ifB (Nat.beq (Nat.min n m) 0) (K (.mk 38 0 0 0 0 []) s)
    (firstK s y.size (Nat.min n m) u (fun new s => storeS s v y.size new (Nat.min n m) (fun s => K (.mk 38 (Nat.min n m) 0 0 0 []) s)))))) = true from hk)
  obtain ⟨m, hk2, hsl⟩ := slK_inv hk1
  rw [wh_iff] at hk2
  have hsmall : Nat.min n m ≤ 4294967296 := Nat.le_of_ble_eq_true hk2.1
  -- what the machine does
  have run0 : ∀ (D : Nat → Prop) (R : Ren) (ρ : Operand → Value) (w : World), Den D R v (ρ a) → Den D R u (ρ x) → ∀ cells w', (Builtin.firstCells y.size (Nat.min n m) (ρ x)).run P w = .ok cells w →
      (∀ ad l c, ρ a = .slice (some ad) l c → (storeCells ad cells.toList).run P w = .ok () w') → (∀ l c, ρ a = .slice none l c → w' = w) → (execOp ρ o).run P w = .ok (.value (goInt (Nat.min n m))) w' := by
    intro D R ρ w h1 h2 cells w' hc hs hn
    have e1 := h1 R (Agr.refl _ _)
    have e2 := h2 R (Agr.refl _ _)
    obtain ⟨base, cp, hd⟩ := hsl R
    rw [hd] at e1
    have hlo : (Builtin.lenOf (ρ x)).run P w = .ok n w := by rw [← e2]; exact run_lenOf hlen R w
    have hsz := hT.size w
    rw [run_builtin2 _ ho, ← e1]
    cases base with
    | none =>
      have := hn m cp e1.symm
      subst this
      simp [builtin, Builtin.copy_, run_underlying hu, Sem.run_bind, Result.andThen, hlo, hsz, hc]
    | some ad =>
      have := hs ad m cp e1.symm
      simp [builtin, Builtin.copy_, run_underlying hu, Sem.run_bind, Result.andThen, hlo, hsz, hc, this]
  have hk2 := hk2.2
  rw [ifB_iff] at hk2
  rcases hk2 with ⟨h0, hk2⟩ | ⟨h0, hk2⟩
  · have h0 : Nat.min n m = 0 := Nat.eq_of_beq_eq_true h0
    refine ⟨_, s, hk2, ?_⟩
    have hz := first_zero (P := P) (z := y.size) hlen s
    refine hz.weakM FirstC.mono (fun _ => goInt 0) (fun D R w K hh ρ hρ => ?_) fun D R x _ R' _ => den_len R' 0 (by omega)
    obtain ⟨cells, q1, ⟨D', R', q2⟩, q3⟩ := hh (ρ x) hρ.2
    have hcn : cells = #[] := by
      have := q2 R' (Agr.refl _ _)
      simp only [cellsOf] at this
      apply Array.ext'; exact this.symm
    subst hcn
    have hr := run0 D R ρ w hρ.1 hρ.2 #[] w (by rw [h0]; exact q1 w rfl) (fun ad l c _ => by simp [storeCells]) (fun _ _ _ => rfl)
    rw [h0] at hr
    exact does_value (by rw [ho]; simp) hr q3
  · have hn0 : 0 < Nat.min n m := by
      rcases Nat.eq_zero_or_pos (Nat.min n m) with q | q
      · rw [q] at h0; cases h0
      · exact q
    obtain ⟨cs, s1, hk3, hs1⟩ := firstK_snd (P := P) hpos hlen (Nat.min_le_left n m) hk2 hw
    obtain ⟨s2, hk4, hs2⟩ := storeS_snd (P := P) hpos hn0 hk3 (hs1.wf hw)
    refine ⟨_, s2, hk4, ?_⟩
    refine Snd.weakM (Snd.then (k := fun D R (cells : Array Value) w₁ K => ∀ av, Den D R v av → ∃ ad l c w', av = .slice (some ad) l c ∧ (storeCells ad cells.toList).run P w₁ = .ok () w' ∧ K () w') hs1 hs2 FirstC.mono StoreC.mono ?_) ?_ (fun _ => goInt (Nat.min n m)) ?_ (fun D R x _ R' _ => den_len R' _ hsmall)
    · intro D R D' R' w K cells ag hsub hq hh av hav
      exact hh av cells.toList (hav.more hsub ag) hq
    · exact fun D R w K K' h hh => FirstC.mono _ _ _ _ _ (fun cells w q av hav => let ⟨ad, l, c, w', q1, q2, q3⟩ := q av hav; ⟨ad, l, c, w', q1, q2, h _ _ q3⟩) hh
    · intro D R w K hh ρ hρ
      obtain ⟨cells, q1, q2⟩ := hh (ρ x) hρ.2
      obtain ⟨ad, ll, cc, w', q3, q4, q5⟩ := q2 (ρ a) hρ.1
      refine does_value (by rw [ho]; simp) (run0 D R ρ w hρ.1 hρ.2 cells w' (q1 w rfl) (fun ad' l' c' e => ?_) (fun l' c' e => ?_)) q5.2
      · rw [q3] at e; cases e; exact q4
      · rw [q3] at e; cases e

theorem clear_snd {t e : TypeId} {l : List TypeId} {x : Operand} (ho : o.op = .call ⟨.builtin .clear, #[x], (t :: l).toArray⟩) (hu : P.underlying t = some (.slice e)) {y : ATy} (hT : TyOk P e y) (hpos : 1 ≤ y.size)
    {c : OpC} (hf : c1 x (clearK y.size y.zero) = some c) (hx : OpOk P x) (rec : Rec) : OpSnd P ro o (c.f rec) := by
  obtain ⟨f⟩ := c
  refine c1_snd hf hx rec fun v s K hk hw => ?_
  obtain ⟨n, hk1, hsl⟩ := slK_inv (show slK v (fun n => ifB (Nat.beq n 0) (K und s) (storeS s v y.size (rep n y.zero) n (fun s => K und s))) = true from hk)
  rw [ifB_iff] at hk1
  rcases hk1 with ⟨h0, hk1⟩ | ⟨h0, hk1⟩
  · have h0 := Nat.eq_of_beq_eq_true h0
    subst h0
    refine ⟨und, s, hk1, snd_value (by rw [ho]; simp) fun D R ρ w h => ⟨.tuple #[], ?_, fun R' _ => den_und R'⟩⟩
    have e1 := h R (Agr.refl _ _)
    obtain ⟨base, cp, hd⟩ := hsl R
    rw [hd] at e1
    rw [run_builtin1 _ ho, ← e1]
    cases base <;> simp [builtin, Builtin.clear_, run_underlying hu, Result.andThen]
  · have hn0 : 0 < n := by
      rcases Nat.eq_zero_or_pos n with q | q
      · rw [q] at h0; cases h0
      · exact q
    obtain ⟨s2, hk4, hs2⟩ := storeS_snd (P := P) hpos hn0 hk1 hw
    obtain ⟨zv, hz1, hz2, _⟩ := hT.zeroV
    refine ⟨und, s2, hk4, hs2.weakM StoreC.mono (fun _ => .tuple #[]) (fun D R w K hh ρ hρ => ?_) fun D R x _ R' _ => den_und R'⟩
    have hzsz : zv.cells.size = y.size := by
      have := hT.width R
      rw [hz2] at this
      simpa using this
    obtain ⟨ad, ll, cc, w', q3, q4, q5⟩ := hh (ρ x) (List.replicate n zv.cells.toList).flatten hρ (fun R' _ => by rw [rep_cells, hz2 R'])
    have hzc : (Builtin.zeroCells zv.cells n).toList = (List.replicate n zv.cells.toList).flatten := by
      unfold Builtin.zeroCells
      rw [hzsz]
      simpa using range_mod zv.cells y.size hzsz n
    have e1 := hρ R (Agr.refl _ _)
    obtain ⟨base, cp, hd⟩ := hsl R
    rw [hd, q3] at e1
    cases e1
    refine does_value (by rw [ho]; simp) ?_ q5.2
    rw [run_builtin1 _ ho, q3]
    have hne : n ≠ 0 := by omega
    cases n with
    | zero => omega
    | succ n =>
      simp [builtin, Builtin.clear_, run_underlying hu, Sem.run_bind, Result.andThen, hz1, hzc, q4]
end Go.Ev
/- Operations, one by one: append. -/
namespace Go.Ev
variable {P : Program} {E : Env} {ro : Option Nat} {o : Oper}

/-- one block dies, another one comes; it may lie where that one lay -/
theorem Snd.renew {β : Type} {c : Comp β} {Q : (Nat → Prop) → Ren → β → Prop} {s : St} {G : Nat → HB} {id : Nat} {b : HB} (hG : Wf s G) (hid : id < s.nx) (hal : Al G id) (hn : s.nx < 65536) (hok : HBok b)
    (h : ∀ D R w, (∀ i, D i → i ≠ s.nx) → D id → R.at_ id < w.heap.size → BRep P D R id (G id) w.heap[R.at_ id]? → c D R w fun x w' => ∃ pl room bs ob,
      ((pl = R.at_ id ∧ w' = { w with heap := w.heap.setIfInBounds (R.at_ id) ob, drawn := w'.drawn }) ∨ (pl = w.heap.size ∧ w' = { w with heap := w.heap.push ob, drawn := w'.drawn })) ∧
      ∀ R', Agr D R R' → R'.at_ s.nx = pl → R'.room s.nx = room → R'.base s.nx = bs → BRep P (Plus D s.nx (s.nx + 1)) R' s.nx b (some ob) ∧ Q (Plus D s.nx (s.nx + 1)) R' x) (hm : Mono c) :
    Snd P c Q s { s with h := mk4 (upd (upd G id .dead) s.nx b), nx := s.nx + 1, r := s.r ||| mask id, w := s.w ||| mask id } := by
  intro G' hG'
  have := wf_unique hG hG'
  subst this
  have hne : id ≠ s.nx := by omega
  refine ⟨upd (upd G' id .dead) s.nx b, mask id, mask id, ⟨⟨rfl, hn, ?_, ?_⟩, Nat.le_succ _, rfl, rfl, ?_, ?_⟩, fun D R w hD hpre => ?_⟩
  · intro i hi
    have hi : s.nx + 1 ≤ i := hi
    rw [upd_other _ _ _ _ (by omega)]
    by_cases e : i = id
    · rw [e, upd_same]
    · rw [upd_other _ _ _ _ e]; exact hG.beyond i (by omega)
  · intro i
    by_cases e : i = s.nx
    · rw [e, upd_same]; exact hok
    · rw [upd_other _ _ _ _ e]
      by_cases e2 : i = id
      · rw [e2, upd_same]; trivial
      · rw [upd_other _ _ _ _ e2]; exact hG.ok i
  · intro i hw hni
    have e1 : i ≠ s.nx := fun e => hni ⟨by omega, by show i < s.nx + 1; omega⟩
    have e2 : i ≠ id := fun e => hw (e ▸ mask_in id)
    rw [upd_other _ _ _ _ e1, upd_other _ _ _ _ e2]
  · intro i hi hd
    rw [upd_other _ _ _ _ (by omega)]
    by_cases e2 : i = id
    · rw [e2, upd_same]
    · rw [upd_other _ _ _ _ e2]; exact hd
  have hin : In (mask id ||| mask id) id := in_or.2 (.inl (mask_in id))
  obtain ⟨h1, h2, h3⟩ := hpre.rep id hid hin hal
  have one : ∀ i, New s.nx (s.nx + 1) i → i = s.nx := fun i h => by have := h.1; have := h.2; omega
  have hDn : ∀ i, D i → i ≠ s.nx := fun i hi e => hD i hi ⟨by omega, by show i < s.nx + 1; omega⟩
  refine hm _ _ _ _ _ ?_ (h D R w hDn h1 h2 h3)
  rintro x w' ⟨pl, room, bs, ob, hw', hb⟩
  let R' : Ren := ⟨fun i => if i = s.nx then pl else R.at_ i, fun i => if i = s.nx then room else R.room i, fun i => if i = s.nx then bs else R.base i⟩
  have hoff : ∀ i, i ≠ s.nx → R'.at_ i = R.at_ i ∧ R'.room i = R.room i ∧ R'.base i = R.base i := fun i hi => by simp [R', hi]
  have hat : R'.at_ s.nx = pl := by simp [R']
  have hroom : R'.room s.nx = room := by simp [R']
  have hbase : R'.base s.nx = bs := by simp [R']
  obtain ⟨hb, hq⟩ := hb R' (fun i hi => hoff i (hDn i hi)) hat hroom hbase
  have alive : ∀ {i}, i < s.nx → Al (upd (upd G' id .dead) s.nx b) i → i ≠ id ∧ Al G' i := fun {i} hi ha => by
    have hn : i ≠ s.nx := by omega
    rw [Al, upd_other _ _ _ _ hn] at ha
    have hni : i ≠ id := by
      intro e; rw [e, upd_same] at ha; exact ha rfl
    rw [upd_other _ _ _ _ hni] at ha
    exact ⟨hni, ha⟩
  have stays : ∀ {i}, i < s.nx → In (mask id ||| mask id) i → Al (upd (upd G' id .dead) s.nx b) i → D i ∧ R.at_ i < w.heap.size ∧ R.at_ id ≠ R.at_ i ∧ BRep P D R i (G' i) w.heap[R.at_ i]? := fun {i} hi hm ha => by
    obtain ⟨hni, hg⟩ := alive hi ha
    have hr := hpre.rep i hi hm hg
    exact ⟨hr.1, hr.2.1, fun e => hni (hpre.inj i id hi hid hm hin hg hal e.symm), hr.2.2⟩
  have hobj : pl < w'.heap.size ∧ w'.heap[pl]? = some ob := by
    rcases hw' with ⟨e, hw'⟩ | ⟨e, hw'⟩
    · rw [e, hw']
      simp only [Array.size_setIfInBounds, Array.getElem?_setIfInBounds_self_of_lt h2]
      exact ⟨h2, trivial⟩
    · rw [e, hw']
      simp only [Array.size_push, Array.getElem?_push_size]
      exact ⟨Nat.lt_succ_self _, trivial⟩
  refine ⟨R', ⟨fun i hni => hoff i fun e => hni (e ▸ ⟨Nat.le_refl _, Nat.lt_succ_self _⟩), ?_, ?_, ?_, ?_, ?_, ?_, ?_, ?_⟩, hq⟩
  · rintro i (hi | hi) ha
    · obtain ⟨hd, hlt, hne2, hr⟩ := stays hi.1 hi.2 ha
      have hn : i ≠ s.nx := by omega
      rw [upd_other _ _ _ _ hn, upd_other _ _ _ _ (alive hi.1 ha).1, (hoff i hn).1]
      have hbr := BRep.more P hr hd (Plus.sub (nx := s.nx) (nx' := s.nx + 1)) (fun j hj => hoff j (hDn j hj))
      rcases hw' with ⟨_, hw'⟩ | ⟨_, hw'⟩
      · rw [hw']
        simp only [Array.size_setIfInBounds, Array.getElem?_setIfInBounds_ne hne2]
        exact ⟨hlt, hbr⟩
      · rw [hw']
        simp only [Array.size_push, Array.getElem?_push, Nat.ne_of_lt hlt, if_false]
        exact ⟨by omega, hbr⟩
    · have e := one i hi
      subst e
      rw [upd_same, hat]
      exact ⟨hobj.1, by rw [hobj.2]; exact hb⟩
  · rintro i j (hi | hi) (hj | hj) hai haj _
    · rename_i he
      rw [(hoff i (by omega)).1, (hoff j (by omega)).1] at he
      exact hpre.inj i j hi.1 hj.1 hi.2 hj.2 (alive hi.1 hai).2 (alive hj.1 haj).2 he
    · rename_i he
      obtain ⟨_, hlt, hne2, _⟩ := stays hi.1 hi.2 hai
      rw [(hoff i (by omega)).1, one j hj, hat] at he
      rcases hw' with ⟨e, _⟩ | ⟨e, _⟩
      · exact (hne2 (by rw [he, e])).elim
      · omega
    · rename_i he
      obtain ⟨_, hlt, hne2, _⟩ := stays hj.1 hj.2 haj
      rw [(hoff j (by omega)).1, one i hi, hat] at he
      rcases hw' with ⟨e, _⟩ | ⟨e, _⟩
      · exact (hne2 (by rw [← he, e])).elim
      · omega
    · rw [one i hi, one j hj]
  · intro i hi _
    rw [one i hi, hat]
    rcases hw' with ⟨e, _⟩ | ⟨e, _⟩
    · exact .inr ⟨id, hid, mask_in id, hal, by rw [upd_other _ _ _ _ hne, upd_same], e⟩
    · exact .inl (by omega)
  · intro q hq' hk
    have hne' : R.at_ id ≠ q := hk id hid (mask_in id) hal
    rcases hw' with ⟨_, hw'⟩ | ⟨_, hw'⟩
    · rw [hw']; simp [Array.getElem?_setIfInBounds_ne hne']
    · rw [hw']; simp [Array.getElem?_push, Nat.ne_of_lt hq']
  · rcases hw' with ⟨_, hw'⟩ | ⟨_, hw'⟩ <;> rw [hw'] <;> simp
  · rcases hw' with ⟨_, hw'⟩ | ⟨_, hw'⟩ <;> rw [hw']
  · rcases hw' with ⟨_, hw'⟩ | ⟨_, hw'⟩ <;> rw [hw']
  · rcases hw' with ⟨_, hw'⟩ | ⟨_, hw'⟩ <;> rw [hw']

/-! ### what the machine does -/
structure AppTy (P : Program) (t t2 e : TypeId) (y : ATy) : Prop where
  hu : P.underlying t = some (.slice e)
  h2 : (∃ e', P.underlying t2 = some (.slice e')) ∨ P.underlying t2 = some .string
  hT : TyOk P e y
  pos : 1 ≤ y.size

theorem run_append_fit {t t2 e ty : TypeId} {y : ATy} (h : AppTy P t t2 e y) {base : Option Addr} {sLen sCap n : Nat} {xv : Value} {news : Array Value} {w w' : World} (hl : (Builtin.lenOf xv).run P w = .ok n w)
    (hnew : (Builtin.firstCells y.size n xv).run P w = .ok news w) (hfit : sLen + n ≤ sCap) (hs : ∀ a, base = some a → (storeCells (a.add (sLen * y.size)) news.toList).run P w = .ok () w') (hn : base = none → w' = w) :
    (Builtin.append_ #[t, t2] ty #[.slice base sLen sCap, xv]).run P w = .ok (.slice base (sLen + n) sCap) w' := by
  have hsz := h.hT.size w
  have hz : ∃ d, P.underlying t2 = some d ∧ (match d with | .int _ => true | _ => false) = false := by
    rcases h.h2 with ⟨e', q⟩ | q
    · exact ⟨_, q, rfl⟩
    · exact ⟨_, q, rfl⟩
  cases base with
  | none =>
    have := hn rfl
    subst this
    rcases h.h2 with ⟨e', q⟩ | q <;> simp [Builtin.append_, run_underlying h.hu, run_underlying q, Sem.run_bind, Result.andThen, hsz, hl, hfit, hnew]
  | some a =>
    have := hs a rfl
    rcases h.h2 with ⟨e', q⟩ | q <;> simp [Builtin.append_, run_underlying h.hu, run_underlying q, Sem.run_bind, Result.andThen, hsz, hl, hfit, hnew, this]

theorem run_append_more {t t2 e ty : TypeId} {y : ATy} (h : AppTy P t t2 e y) {base : Option Addr} {sLen sCap n : Nat} {xv : Value} {news olds : Array Value} {w : World} (hl : (Builtin.lenOf xv).run P w = .ok n w)
    (hnew : ∀ w2 : World, w2.heap = w.heap → (Builtin.firstCells y.size n xv).run P w2 = .ok news w2) (hold : ∀ w2 : World, w2.heap = w.heap → (Builtin.firstCells y.size sLen (.slice base sLen sCap)).run P w2 = .ok olds w2)
    (hfit : sCap < sLen + n) (hsmall : sLen + n ≤ 65536) :
    ∃ k rest, sLen + n ≤ k ∧ rest.length = (k - (sLen + n)) * y.size ∧ (Builtin.append_ #[t, t2] ty #[.slice base sLen sCap, xv]).run P w = .ok (.slice (some ⟨w.heap.size, 0, none⟩) (sLen + n) k)
      { w with heap := w.heap.push (.cells (olds.toList ++ (news.toList ++ rest)).toArray e (0, 0)), drawn := w.drawn + 1 } := by
  obtain ⟨i, hi, hisz, z, hz, hzc, _, _⟩ := h.hT.info
  have hby := h.hT.bytes i hi
  have hn : ¬ (sLen + n ≤ sCap) := by omega
  have hle := nextslicecap_le (need := sLen + n) (old := sCap) hfit
  have h48 : ¬ (281474976710656 < Builtin.nextslicecap (sLen + n) sCap * i.bytes) := by
    have h1 : Builtin.nextslicecap (sLen + n) sCap * i.bytes ≤ 131072 * 2147483648 := Nat.mul_le_mul (by omega) hby
    omega
  have h63' : ¬ (9223372036854775807 < ((sLen : Int) + (n : Int))) := by omega
  have hfn := hnew w.drew rfl
  have hfo := hold w.drew rfl
  rw [← hisz] at hfn hfo
  have hzsz : z.cells.size = y.size := by
    have := h.hT.width ⟨fun i => i, fun i => i, fun i => i⟩
    rw [hzc] at this
    simpa using this
  refine ⟨grownCap w (sLen + n) sCap e, (Builtin.zeroCells z.cells (grownCap w (sLen + n) sCap e - (sLen + n))).toList, grownCap_ge _ _ _ _, by simp [Builtin.zeroCells, hzsz], ?_⟩
  have hc : (olds.toList ++ (news.toList ++ (Builtin.zeroCells z.cells (grownCap w (sLen + n) sCap e - (sLen + n))).toList)).toArray = olds ++ news ++ Builtin.zeroCells z.cells (grownCap w (sLen + n) sCap e - (sLen + n)) := by
    apply Array.ext'; simp
  rw [hc]
  rcases h.h2 with ⟨e', q⟩ | q <;>
    simp [Builtin.append_, run_underlying h.hu, run_underlying q, sizeOf, typeInfo, zeroValue, hi, hz, hl, hn, h63', h48, Question.forced, hfo, hfn, Go.newRow, grownCap] <;> rfl
theorem firstCells_nil (z l c : Nat) (w : World) : (Builtin.firstCells z 0 (.slice none l c)).run P w = .ok #[] w := by simp [Builtin.firstCells]
theorem firstCells_none0 (z c : Nat) (a : Option Addr) (w : World) : (Builtin.firstCells z 0 (.slice a 0 c)).run P w = .ok #[] w := by
  cases a with
  | none => simp [Builtin.firstCells]
  | some a => simp [Builtin.firstCells, loadCells_zero]

/-- a row that comes, with more room than is told -/
def GrowC (e z total : Nat) (cs : List V) : Comp Value := fun D R w K => ∀ (vals rest : List Value) (k : Nat), DenC D R cs vals → vals.length = total * z → total ≤ k → rest.length = (k - total) * z →
  K (.slice (some ⟨w.heap.size, 0, none⟩) total k) { w with heap := w.heap.push (.cells (vals ++ rest).toArray e (0, 0)), drawn := w.drawn + 1 }
theorem grow_brep {D : Nat → Prop} {R' : Ren} {id e z total k : Nat} {cs : List V} {vals rest : List Value} (hc : DenC D R' cs vals) (hv : vals.length = total * z) (hk : total ≤ k) (hr : rest.length = (k - total) * z) (hroom : R'.room id = k) (hbs : R'.base id = 0) :
    BRep P D R' id (.row e (z + 1) cs) (some (.cells (vals ++ rest).toArray e (0, 0))) := by
  refine ⟨_, 0, 0, rfl, .inl rfl, [], vals, rest, hc, by simp, by rw [hbs]; rfl, fun q => by omega, fun z' ez => ?_⟩
  have : z' = z := by omega
  subst this
  rw [hroom, hbs]
  obtain ⟨d, rfl⟩ : ∃ d, k = total + d := ⟨k - total, by omega⟩
  rw [Nat.add_sub_cancel_left] at hr
  simp [hv, hr, Nat.add_mul]
theorem grow_snd {s : St} {G : Nat → HB} (hG : Wf s G) (hn : s.nx < 65536) {e z total : Nat} {cs : List V} : Snd P (GrowC e z total cs) (ValQ (.mk 7 s.nx 0 total z [])) s { s with h := mk4 (upd G s.nx (.row e (z + 1) cs)), nx := s.nx + 1 } := by
  intro G' hG'
  have := wf_unique hG hG'
  subst this
  refine Snd.make (c := GrowC e z total cs) (Q := ValQ (.mk 7 s.nx 0 total z [])) (b := .row e (z + 1) cs) hG' hn trivial (fun D R w hD vals rest k hc hv hk hr => ?_) (fun D R w K K' h hh vals rest k hc hv hk hr => h _ _ (hh vals rest k hc hv hk hr)) G' hG'
  refine ⟨_, k, rfl, fun R' hag hat hroom hbs => ⟨grow_brep (hc.more Plus.sub hag) hv hk hr hroom hbs, fun R'' ha'' => ?_⟩⟩
  have hnew := ha'' s.nx (.inr ⟨Nat.le_refl _, Nat.lt_succ_self _⟩)
  simp only [den]
  rw [hnew.1, hnew.2.1, hnew.2.2, hat, hroom, hbs]
  simp [plN]

def App2 (P : Program) (t t2 ty z n : Nat) (v : V) (new : List V) : Comp Value := fun D R w K => ∀ av xv (news : Array Value), Den D R v av → (∀ w2 : World, (Builtin.lenOf xv).run P w2 = .ok n w2) →
  (∀ w2 : World, w2.heap = w.heap → (Builtin.firstCells z n xv).run P w2 = .ok news w2) → DenC D R new news.toList → ∃ val w', (Builtin.append_ #[t, t2] ty #[av, xv]).run P w = .ok val w' ∧ K val w'
theorem App2.mono {t t2 ty z n : Nat} {v : V} {new : List V} : Mono (App2 P t t2 ty z n v new) := fun _ _ _ _ _ h hh av xv news h1 h2 h3 h4 => let ⟨val, w', q1, q2⟩ := hh av xv news h1 h2 h3 h4; ⟨val, w', q1, h _ _ q2⟩

/-- out of a row that comes: what was there and what is new -/
theorem app_grow {t t2 e ty : TypeId} {y : ATy} (h : AppTy P t t2 e y) {n sLen sCap : Nat} {base : Option Addr} {xv : Value} {news olds : Array Value} {w : World} {D : Nat → Prop} {R : Ren} {cs : List V} {K : Value → World → Prop}
    (hh : GrowC e y.size (sLen + n) cs D R w K) (hl : (Builtin.lenOf xv).run P w = .ok n w) (hnew : ∀ w2 : World, w2.heap = w.heap → (Builtin.firstCells y.size n xv).run P w2 = .ok news w2)
    (hold : ∀ w2 : World, w2.heap = w.heap → (Builtin.firstCells y.size sLen (.slice base sLen sCap)).run P w2 = .ok olds w2) (hfit : sCap < sLen + n) (hsmall : sLen + n ≤ 65536)
    (hc : DenC D R cs (olds.toList ++ news.toList)) (hlen : (olds.toList ++ news.toList).length = (sLen + n) * y.size) :
    ∃ val w', (Builtin.append_ #[t, t2] ty #[.slice base sLen sCap, xv]).run P w = .ok val w' ∧ K val w' := by
  obtain ⟨k, rest, h1, h2, h3⟩ := run_append_more (ty := ty) h hl hnew hold hfit hsmall
  refine ⟨_, _, h3, ?_⟩
  have := hh (olds.toList ++ news.toList) rest k hc hlen h1 h2
  rwa [List.append_assoc] at this
end Go.Ev
/- Operations, one by one: append, put together. -/
namespace Go.Ev
variable {P : Program} {E : Env} {ro : Option Nat} {o : Oper}

theorem fresh_wf {s : St} {G : Nat → HB} (hG : Wf s G) (hn : s.nx < 65536) {b : HB} (hok : HBok b) : Wf { s with h := mk4 (upd G s.nx b), nx := s.nx + 1 } (upd G s.nx b) := by
  refine ⟨rfl, hn, fun i hi => ?_, fun i => ?_⟩
  · have hi : s.nx + 1 ≤ i := hi
    rw [upd_other _ _ _ _ (by omega)]; exact hG.beyond i (by omega)
  · by_cases e : i = s.nx
    · rw [e, upd_same]; exact hok
    · rw [upd_other _ _ _ _ e]; exact hG.ok i

theorem news_len {D : Nat → Prop} {R : Ren} {new : List V} {news : Array Value} (h : DenC D R new news.toList) : news.toList.length = wide new := by
  rw [wide_eq R, h R (Agr.refl _ _)]

theorem appSome_snd {t t2 e ty : TypeId} {y : ATy} (h : AppTy P t t2 e y) {n : Nat} (hn0 : 0 < n) {v : V} {new : List V} (hw : wide new = n * y.size) {s : St} {K : KV} (hk : appSome e y.size n v new s K = true) (hwf : ∃ G, Wf s G) :
    ∃ r s', K r s' = true ∧ Snd P (App2 P t t2 ty y.size n v new) (ValQ r) s s' := by
  obtain ⟨G, hG⟩ := hwf
  obtain ⟨tt, id, off, len, cap, m⟩ := v
  have hpos := h.pos
  have hk' : ifB (Nat.beq tt 8) (wh (Nat.ble n 65536) (freshRow s e new n y.size K))
    (wh (Nat.ble (Nat.add len n) 65536) (ifB (Nat.beq tt 7) (wh (Nat.beq cap y.size) (appOpen s e y.size id off len n new K))
    (wh (Nat.beq tt 6) (appKnown s e y.size id off len cap n new K)))) = true := hk
  rw [ifB_iff, wh_iff, wh_iff, ifB_iff, wh_iff, wh_iff] at hk'
  rcases hk' with ⟨h8, hle, hk'⟩ | ⟨_, hle, ⟨h7, hcap, hk'⟩ | ⟨_, h6, hk'⟩⟩
  · -- nil
    have e8 := Nat.eq_of_beq_eq_true h8
    subst e8
    have hle : n ≤ 65536 := Nat.le_of_ble_eq_true hle
    obtain ⟨hn, hk'⟩ := fresh_eq hG _ _ hk'
    refine ⟨_, _, hk', (grow_snd hG hn).weak (fun D R w K K' h hh vals rest k a1 a2 a3 a4 => h _ _ (hh vals rest k a1 a2 a3 a4)) (fun D R w K hh av xv news hav hl hnew hden => ?_) fun _ _ _ q => q⟩
    have ev := hav R (Agr.refl _ _)
    simp only [den] at ev
    subst ev
    have hlen := news_len hden
    rw [hw] at hlen
    have := app_grow (ty := ty) h (sLen := 0) (sCap := 0) (base := none) (olds := #[]) (cs := new) (K := K) (by rw [Nat.zero_add]; exact hh) (hl w) hnew (fun w2 _ => firstCells_nil _ _ _ w2) (by omega) (by omega) (by simpa using hden) (by simpa using hlen)
    exact this
  · -- an open row
    have e7 := Nat.eq_of_beq_eq_true h7
    subst e7
    have ec := Nat.eq_of_beq_eq_true hcap
    subst ec
    have hle : len + n ≤ 65536 := Nat.le_of_ble_eq_true hle
    unfold appOpen at hk'
    obtain ⟨hid, el, op, cs, hrow, hk'⟩ := rowK_inv hG hk'
    rw [wh_iff, ifB_iff] at hk'
    obtain ⟨hop, hk'⟩ := hk'
    have hop := Nat.eq_of_beq_eq_true hop
    have hop : op = y.size + 1 := hop
    subst hop
    have hG1 : Wf { s with r := s.r ||| mask id } G := ⟨hG.h, hG.nx, hG.beyond, hG.ok⟩
    rcases hk' with ⟨hfit, hk'⟩ | ⟨hnot, hk'⟩
    · have hfit : (off + (len + n)) * y.size ≤ wide cs := Nat.le_of_ble_eq_true hfit
      obtain ⟨hid', hal, b', hok, hk', hst⟩ := storeC_inv (P := P) hG1 hk'
      have hr : s.r ||| mask id ||| mask id = s.r ||| mask id := by rw [Nat.or_assoc, Nat.or_self]
      refine ⟨_, _, hk', ?_⟩
      show Snd P _ _ s { s with h := mk4 (upd G id b'), r := s.r ||| mask id ||| mask id, w := s.w ||| mask id }
      rw [hr]
      refine Snd.write hG hid hal hok (fun D R w hD hlt hb av xv news hav hl hnew hden => ?_) App2.mono
      have hb2 := hb
      rw [hrow] at hb2
      have hroom := room_le hb2 _ hfit hpos
      have hne : R.room id ≠ off := by omega
      have ev := hav R (Agr.refl _ _)
      simp only [den, if_neg hne] at ev
      subst ev
      obtain ⟨ob, hrun, hbrep, hlen⟩ := hst D R w _ hlt hb hden
      refine ⟨.slice (some ⟨R.at_ id, R.base id + off * y.size, none⟩) (len + n) (R.room id - off), _, run_append_fit (w' := { w with heap := w.heap.setIfInBounds (R.at_ id) ob }) h (hl w) (hnew w rfl) (by omega) (fun a ha => ?_) (fun q => by cases q), ⟨ob, rfl, hbrep⟩, fun R' ha => ?_⟩
      · cases ha
        rw [addr_add]
        have : R.base id + off * y.size + len * y.size = R.base id + (off + len) * y.size := by rw [Nat.add_mul, Nat.add_assoc]
        rw [this]
        exact hrun
      · have := ha id hD
        simp only [den]
        rw [this.1, this.2.1, this.2.2, if_neg hne]
        rfl
    · rw [wh_iff, wh_iff, wh_iff] at hk'
      obtain ⟨hel, hokn, hlw, hk3⟩ := hk'
      have hel := Nat.eq_of_beq_eq_true hel
      rw [hel] at hrow
      have hlw : (off + len) * y.size ≤ wide cs := Nat.le_of_ble_eq_true hlw
      have hk4 := lay_ok hG hk3
      have hG2 : Wf { s with h := mk4 (upd G id .dead), r := s.r ||| mask id, w := s.w ||| mask id } (upd G id .dead) := by
        refine ⟨rfl, hG.nx, fun i hi => ?_, fun i => ?_⟩
        · have hi : s.nx ≤ i := hi
          rw [upd_other _ _ _ _ (by omega)]; exact hG.beyond i hi
        · by_cases e : i = id
          · rw [e, upd_same]; trivial
          · rw [upd_other _ _ _ _ e]; exact hG.ok i
      obtain ⟨hn, hk5⟩ := fresh_eq hG2 _ _ hk4
      refine ⟨_, _, hk5, Snd.renew (b := .row e (y.size + 1) (appC (takeC (from_ cs off y.size) (Nat.mul len y.size)) new)) hG hid (by rw [Al, hrow]; simp) hn trivial (fun D R w hDn hD hlt hb av xv news hav hl hnew hden => ?_) App2.mono⟩
      have hbb := hb
      rw [hrow] at hb
      have hge := room_ge hb
      obtain ⟨c, lo, hi, hob, hfz, pre, xs, spare, hx1, hx2, hbs, hx3, hx4⟩ := hb
      have hcsz := hx4 y.size rfl
      have hR := Agr.refl D R
      have hxl : wide cs = xs.length := by rw [wide_eq R, hx1 R hR]
      have hle1 : off + len ≤ R.room id := Nat.le_of_mul_le_mul_right (Nat.le_trans hlw hge) hpos
      have ev := hav R hR
      simp only [den] at ev
      subst ev
      have hnl := news_len hden
      rw [hw] at hnl
      have hcl : c.toList.length = pre.length + (xs.length + spare.length) := by rw [hx2]; simp
      have hcl' : c.size = pre.length + (xs.length + spare.length) := by rw [← hcl]; simp
      have hfrom : ∀ R', cellsOf R' (from_ cs off y.size) = (cellsOf R' cs).drop (off * y.size) := fun R' => by
        unfold from_
        rw [ifL_eq]
        split
        · rename_i h0
          have h0 := Nat.eq_of_beq_eq_true h0
          subst h0; simp
        · exact dropC_cells _ _ _
      have htake : ∀ R', Agr D R R' → cellsOf R' (appC (takeC (from_ cs off y.size) (Nat.mul len y.size)) new) = (xs.drop (off * y.size)).take (len * y.size) ++ news.toList := fun R' ha => by
        rw [appC_cells, takeC_cells, hfrom, hx1 R' ha, hden R' ha]; rfl
      rw [hxl, Nat.add_mul] at hlw
      have htl : ((xs.drop (off * y.size)).take (len * y.size)).length = len * y.size := by simp; omega
      have hval : ∀ (R' R'' : Ren) (pl room bs : Nat), R'.at_ s.nx = pl → R'.room s.nx = room → R'.base s.nx = bs → Agr (Plus D s.nx (s.nx + 1)) R' R'' → den R'' (.mk 7 s.nx 0 (len + n) y.size []) = .slice (some ⟨pl, bs, none⟩) (len + n) room := fun R' R'' pl room bs h1 h2 h3 ha'' => by
        have hnew := ha'' s.nx (.inr ⟨Nat.le_refl _, Nat.lt_succ_self _⟩)
        simp only [den]
        rw [hnew.1, hnew.2.1, hnew.2.2, h1, h2, h3]
        simp [plN]
      by_cases hroom : len + n ≤ R.room id - off
      · -- it lies where that one lay
        have hne : R.room id ≠ off := by omega
        rw [if_neg hne]
        have hmul : (off + (len + n)) * y.size ≤ R.room id * y.size := Nat.mul_le_mul_right _ (by omega)
        rw [Nat.add_mul, Nat.add_mul] at hmul
        have hone : ∀ v ∈ news.toList, v.oneCell' = true := by
          rw [← hden R hR]
          exact cells_one R new (okC_inv new hokn)
        have hrun := run_cells (P := P) (R.at_ id) e (lo, hi) (.inr trivial) news.toList (R.base id + off * y.size + len * y.size) 0 w c hob hfz (by omega) hone
        have ee : c.toList.take (R.base id + off * y.size + len * y.size + 0) ++ (news.toList ++ c.toList.drop (R.base id + off * y.size + len * y.size + 0 + news.toList.length)) =
            (pre ++ xs.take (off * y.size)) ++ (((xs.drop (off * y.size)).take (len * y.size) ++ news.toList) ++ c.toList.drop (R.base id + off * y.size + len * y.size + n * y.size)) := by
          have e1 : c.toList.take (R.base id + off * y.size + len * y.size) = (pre ++ xs.take (off * y.size)) ++ (xs.drop (off * y.size)).take (len * y.size) := by
            rw [hx2, ← hbs, List.take_append, List.take_of_length_le (l := pre) (by omega)]
            rw [show pre.length + off * y.size + len * y.size - pre.length = off * y.size + len * y.size by omega]
            rw [List.take_append_of_le_length (l₁ := xs) (by omega), List.take_add, List.append_assoc]
          rw [Nat.add_zero, hnl, e1]
          simp
        rw [ee] at hrun
        have hsz : ((pre ++ xs.take (off * y.size)) ++ (((xs.drop (off * y.size)).take (len * y.size) ++ news.toList) ++ c.toList.drop (R.base id + off * y.size + len * y.size + n * y.size))).toArray.size = c.size := by
          have hns : news.size = n * y.size := by simpa using hnl
          simp
          rw [Nat.min_eq_left (by omega), Nat.min_eq_left (by omega)]
          omega
        refine ⟨_, _, run_append_fit (w' := { w with heap := w.heap.setIfInBounds (R.at_ id) _ }) h (hl w) (hnew w rfl) hroom (fun a ha => ?_) (fun q => by cases q), R.at_ id, R.room id - off, R.base id + off * y.size, _, .inl ⟨rfl, rfl⟩, fun R' hag hat hrm hbs' => ⟨⟨_, lo, hi, rfl, ?_, pre ++ xs.take (off * y.size), _, c.toList.drop (R.base id + off * y.size + len * y.size + n * y.size), fun R'' ha => htake R'' (hag.trans (ha.sub Plus.sub)), rfl, ?_, fun q => by omega, fun z' ez => ?_⟩, fun R'' ha'' => hval R' R'' _ _ _ hat hrm hbs' ha''⟩⟩
        · cases ha
          rw [addr_add]
          exact hrun
        · rcases hfz with q | q
          · exact .inl q
          · exact .inr (by rw [hsz]; exact q)
        · rw [hbs', List.length_append, List.length_take, Nat.min_eq_left (by omega), hbs]
        · have : z' = y.size := by omega
          subst this
          rw [hsz, hcsz, hrm, hbs', Nat.sub_mul]
          omega
      · have holds : ∀ w2 : World, w2.heap = w.heap → (Builtin.firstCells y.size len (.slice (some ⟨R.at_ id, R.base id + (if R.room id = off then plN m else off * y.size), none⟩) len (R.room id - off))).run P w2 = .ok ((xs.drop (off * y.size)).take (len * y.size)).toArray w2 := fun w2 hw2 => by
          by_cases hl0 : len = 0
          · subst hl0
            rw [firstCells_none0]
            simp
          · rw [if_neg (by omega)]
            obtain ⟨cc, lo', hi', pre', xs', post, har⟩ := around_row (P := P) (off * y.size) (hrow ▸ hbb)
            have hxs : xs' = xs := by rw [← har.den R hR, hx1 R hR]
            subst hxs
            exact (load_part (P := P) (n := len * y.size) har (by rw [hxl]; omega)).1 w2 hw2
        obtain ⟨k, rest, a1, a2, a3⟩ := run_append_more (ty := ty) h (hl w) hnew holds (by omega) hle
        refine ⟨_, _, a3, w.heap.size, k, 0, _, .inr ⟨rfl, rfl⟩, fun R' hag hat hrm hbs' => ⟨?_, fun R'' ha'' => hval R' R'' _ _ _ hat hrm hbs' ha''⟩⟩
        have := grow_brep (P := P) (id := s.nx) (e := e) (D := Plus D s.nx (s.nx + 1)) (R' := R') (cs := appC (takeC (from_ cs off y.size) (Nat.mul len y.size)) new) (vals := (xs.drop (off * y.size)).take (len * y.size) ++ news.toList) (rest := rest) (total := len + n) (z := y.size) (fun R'' ha => htake R'' (hag.trans (ha.sub Plus.sub))) (by rw [List.length_append, htl, hnl, Nat.add_mul]) a1 a2 hrm hbs'
        simpa using this
  · -- a row that is known
    have e6 := Nat.eq_of_beq_eq_true h6
    subst e6
    have hle : len + n ≤ 65536 := Nat.le_of_ble_eq_true hle
    unfold appKnown at hk'
    rw [ifB_iff, ifB_iff] at hk'
    rcases hk' with ⟨hfit, hk'⟩ | ⟨hnot, hk'⟩
    · have hfit : len + n ≤ cap := Nat.le_of_ble_eq_true hfit
      obtain ⟨hid, hal, b', hok, hk2, hst⟩ := storeC_inv (P := P) hG hk'
      refine ⟨_, _, hk2, Snd.write hG hid hal hok (fun D R w hD hlt hb av xv news hav hl hnew hden => ?_) App2.mono⟩
      have ev := hav R (Agr.refl _ _)
      simp only [den] at ev
      subst ev
      obtain ⟨ob, hrun, hbrep, hlen⟩ := hst D R w _ hlt hb hden
      refine ⟨.slice (some ⟨R.at_ id, R.base id + off, none⟩) (len + n) cap, _, run_append_fit (w' := { w with heap := w.heap.setIfInBounds (R.at_ id) ob }) h (hl w) (hnew w rfl) hfit (fun a ha => ?_) (fun q => by cases q), ⟨ob, rfl, hbrep⟩, fun R' ha => ?_⟩
      · cases ha
        rw [addr_add, Nat.add_assoc]
        exact hrun
      · simp only [den]
        rw [(ha id hD).1, (ha id hD).2.2]
        rfl
    · have hnot : cap < len + n := by
        rcases Nat.lt_or_ge cap (len + n) with q | q
        · exact q
        · have : Nat.ble (Nat.add len n) cap = true := Nat.ble_eq_true_of_le q
          rw [this] at hnot; cases hnot
      rcases hk' with ⟨h0, hk'⟩ | ⟨h0, hk'⟩
      · have h0 := Nat.eq_of_beq_eq_true h0
        subst h0
        obtain ⟨hn, hk2⟩ := fresh_eq hG _ _ hk'
        refine ⟨_, _, hk2, (grow_snd hG hn).weak (fun D R w K K' h hh vals rest k a1 a2 a3 a4 => h _ _ (hh vals rest k a1 a2 a3 a4)) (fun D R w K hh av xv news hav hl hnew hden => ?_) fun _ _ _ q => q⟩
        have ev := hav R (Agr.refl _ _)
        simp only [den] at ev
        subst ev
        have hlen := news_len hden
        rw [hw] at hlen
        exact app_grow (ty := ty) h (sLen := 0) (sCap := cap) (base := some ⟨R.at_ id, R.base id + off, none⟩) (olds := #[]) (cs := new) (K := K) (by rw [Nat.zero_add]; exact hh) (hl w) hnew (fun w2 _ => firstCells_none0 _ _ _ w2) hnot hle (by simpa using hden) (by simpa using hlen)
      · have hlen0 : len ≠ 0 := by intro e; subst e; cases h0
        have hfk : firstK s y.size len (.mk 6 id off len cap m) (fun old s => wh (Nat.beq (wide old) (Nat.mul len y.size)) (freshRow s e (appC old new) (Nat.add len n) y.size K)) = true := by
          unfold firstK
          simp only []
          rw [beq_false hlen0]
          exact hk'
        obtain ⟨old, s1, hk2, hs1⟩ := firstK_snd (P := P) hpos (v := .mk 6 id off len cap m) (fun R => .inl ⟨_, _, by simp only [den]; rfl⟩) (Nat.le_refl len) hfk ⟨G, hG⟩
        obtain ⟨G1, hG1⟩ := hs1.wf ⟨G, hG⟩
        rw [wh_iff] at hk2
        have hwo : wide old = len * y.size := Nat.eq_of_beq_eq_true hk2.1
        obtain ⟨hn, hk3⟩ := fresh_eq hG1 _ _ hk2.2
        have hg := grow_snd (P := P) hG1 hn (e := e) (z := y.size) (total := len + n) (cs := appC old new)
        refine ⟨_, _, hk3, Snd.weak (Snd.then (k := fun D R (olds : Array Value) w₁ K => ∀ (news rest : List Value) (k : Nat), DenC D R new news → news.length = n * y.size → len + n ≤ k → rest.length = (k - (len + n)) * y.size →
            K (.slice (some ⟨w₁.heap.size, 0, none⟩) (len + n) k) { w₁ with heap := w₁.heap.push (.cells ((olds.toList ++ news) ++ rest).toArray e (0, 0)), drawn := w₁.drawn + 1 }) hs1 hg FirstC.mono
          (fun D R w K K' h hh vals rest k a1 a2 a3 a4 => h _ _ (hh vals rest k a1 a2 a3 a4)) ?_) ?_ ?_ fun _ _ _ q => q⟩
        · intro D R D' R' w K olds ag hsub hq hh news rest k hd a1 a2 a3
          have hol : olds.toList.length = len * y.size := by rw [news_len hq, hwo]
          refine hh (olds.toList ++ news) rest k (fun R'' ha => ?_) (by rw [List.length_append, hol, a1, Nat.add_mul]) a2 a3
          rw [appC_cells, hq R'' ha, (hd.more hsub ag) R'' ha]
        · exact fun D R w K K' h hh => FirstC.mono _ _ _ _ _ (fun olds w q news rest k a1 a2 a3 a4 => h _ _ (q news rest k a1 a2 a3 a4)) hh
        · intro D R w K hh av xv news hav hl hnew hden
          obtain ⟨olds, q1, q2⟩ := hh av hav
          have ev := hav R (Agr.refl _ _)
          simp only [den] at ev
          subst ev
          obtain ⟨k, rest, a1, a2, a3⟩ := run_append_more (ty := ty) h (hl w) hnew q1 hnot hle
          have hnl := news_len hden
          rw [hw] at hnl
          refine ⟨_, _, a3, ?_⟩
          have := q2 news.toList rest k hden hnl a1 a2
          rwa [List.append_assoc] at this
theorem appNone_snd {t t2 e ty : TypeId} {y : ATy} (h : AppTy P t t2 e y) {v : V} {s : St} {K : KV} (hk : appNone y.size v s K = true) (hwf : ∃ G, Wf s G) :
    ∃ s', K v s' = true ∧ Snd P (fun D R w K => ∀ av xv, Den D R v av → (∀ w2 : World, (Builtin.lenOf xv).run P w2 = .ok 0 w2) → (Builtin.firstCells y.size 0 xv).run P w = .ok #[] w → (Builtin.append_ #[t, t2] ty #[av, xv]).run P w = .ok av w ∧ K av w) (ValQ v) s s' := by
  obtain ⟨G, hG⟩ := hwf
  obtain ⟨tt, id, off, len, cap, m⟩ := v
  have hk' : ifB (Nat.beq tt 8) (K (.mk tt id off len cap m) s) (ifB (Nat.beq tt 6) (wh (Nat.ble len cap) (K (.mk tt id off len cap m) s))
    (wh (Nat.beq tt 7) (wh (Nat.beq cap y.size) (rowK s id (fun _ op cs s => wh (Nat.beq op (Nat.add y.size 1)) (wh (Nat.ble (Nat.mul (Nat.add off len) y.size) (wide cs)) (K (.mk tt id off len cap m) s))))))) = true := hk
  have stay : ∀ (base : Option Addr) (l c : Nat) (w : World) (xv : Value), l ≤ c → (Builtin.lenOf xv).run P w = .ok 0 w → (Builtin.firstCells y.size 0 xv).run P w = .ok #[] w → (Builtin.append_ #[t, t2] ty #[.slice base l c, xv]).run P w = .ok (.slice base l c) w := fun base l c w xv hlc hl hf =>
    run_append_fit (w' := w) h hl hf (by omega) (fun a _ => by simp [storeCells]) (fun _ => rfl)
  have mono : Mono (fun (D : Nat → Prop) (R : Ren) (w : World) (K : Value → World → Prop) => ∀ av xv, Den D R (.mk tt id off len cap m) av → (∀ w2 : World, (Builtin.lenOf xv).run P w2 = .ok 0 w2) → (Builtin.firstCells y.size 0 xv).run P w = .ok #[] w → (Builtin.append_ #[t, t2] ty #[av, xv]).run P w = .ok av w ∧ K av w) := fun D R w K K' h hh av xv a1 a2 a3 => ⟨(hh av xv a1 a2 a3).1, h _ _ (hh av xv a1 a2 a3).2⟩
  rw [ifB_iff, ifB_iff, wh_iff, wh_iff, wh_iff] at hk'
  rcases hk' with ⟨h8, hk'⟩ | ⟨_, ⟨h6, hle, hk'⟩ | ⟨_, h7, hcap, hk'⟩⟩
  · have e8 := Nat.eq_of_beq_eq_true h8
    subst e8
    refine ⟨s, hk', Snd.pure (fun D R w av xv hav hl hf => ?_) mono⟩
    have ev := hav R (Agr.refl _ _)
    simp only [den] at ev
    subst ev
    exact ⟨stay _ _ _ w xv (Nat.le_refl _) (hl w) hf, rfl, hav⟩
  · have e6 := Nat.eq_of_beq_eq_true h6
    subst e6
    refine ⟨s, hk', Snd.pure (fun D R w av xv hav hl hf => ?_) mono⟩
    have ev := hav R (Agr.refl _ _)
    simp only [den] at ev
    subst ev
    exact ⟨stay _ _ _ w xv (Nat.le_of_ble_eq_true hle) (hl w) hf, rfl, hav⟩
  · have e7 := Nat.eq_of_beq_eq_true h7
    subst e7
    have ec := Nat.eq_of_beq_eq_true hcap
    subst ec
    obtain ⟨hid, el, op, cs, hrow, hk2⟩ := rowK_inv hG hk'
    rw [wh_iff, wh_iff] at hk2
    have hop := Nat.eq_of_beq_eq_true hk2.1
    have hop : op = y.size + 1 := hop
    subst hop
    have hwd : (off + len) * y.size ≤ wide cs := Nat.le_of_ble_eq_true hk2.2.1
    refine ⟨_, hk2.2.2, Snd.read hid (fun G' hG' => by rw [wf_unique hG hG', Al, hrow]; simp) (fun G' hG' D R w hD hlt hb av xv hav hl hf => ?_) mono⟩
    rw [wf_unique hG hG', hrow] at hb
    have hroom := room_le hb _ hwd h.pos
    have ev := hav R (Agr.refl _ _)
    simp only [den] at ev
    subst ev
    exact ⟨stay _ _ _ w xv (by omega) (hl w) hf, rfl, hav⟩

theorem append_snd {t t2 e : TypeId} {y : ATy} (h : AppTy P t t2 e y) {a x : Operand} (ho : o.op = .call ⟨.builtin .append, #[a, x], #[t, t2]⟩) {c : OpC} (hf : c2 a x (appendK e y.size) = some c) (ha : OpOk P a) (hx : OpOk P x) (rec : Rec) : OpSnd P ro o (c.f rec) := by
  obtain ⟨f⟩ := c
  refine c2_snd hf ha hx rec fun v u s K hk hw => ?_
  obtain ⟨n, hk1, hlen⟩ := lenIs_of (show lenK u (fun n => ifB (Nat.beq n 0) (appNone y.size v s K) (firstK s y.size n u (fun new s => wh (Nat.beq (wide new) (Nat.mul n y.size)) (appSome e y.size n v new s K)))) = true from hk)
  have lenAt : ∀ (D : Nat → Prop) (R : Ren) (xv : Value), Den D R u xv → ∀ w2 : World, (Builtin.lenOf xv).run P w2 = .ok n w2 := fun D R xv hxv w2 => by
    rw [← hxv R (Agr.refl _ _)]; exact run_lenOf hlen R w2
  have run : ∀ (ρ : Operand → Value) (w w' : World) (val : Value), (Builtin.append_ #[t, t2] o.type #[ρ a, ρ x]).run P w = .ok val w' → (execOp ρ o).run P w = .ok (.value val) w' := fun ρ w w' val hr => by
    rw [run_builtin2 _ ho]
    simp [builtin, hr, Result.andThen]
  rw [ifB_iff] at hk1
  rcases hk1 with ⟨h0, hk1⟩ | ⟨h0, hk1⟩
  · have h0 := Nat.eq_of_beq_eq_true h0
    subst h0
    obtain ⟨s', hk2, hs⟩ := appNone_snd (P := P) (ty := o.type) h hk1 hw
    refine ⟨v, s', hk2, hs.weak (fun D R w K K' h hh av xv a1 a2 a3 => ⟨(hh av xv a1 a2 a3).1, h _ _ (hh av xv a1 a2 a3).2⟩) (fun D R w K hh ρ hρ => ?_) fun _ _ _ q => q⟩
    have hfc : (Builtin.firstCells y.size 0 (ρ x)).run P w = .ok #[] w := by
      rw [← hρ.2 R (Agr.refl _ _)]
      rcases hlen R with ⟨b, c', hd⟩ | ⟨st, hd, _⟩
      · rw [hd]; exact firstCells_none0 _ _ _ w
      · rw [hd]; simp [Builtin.firstCells]
    obtain ⟨q1, q2⟩ := hh (ρ a) (ρ x) hρ.1 (lenAt D R _ hρ.2) hfc
    exact does_value (by rw [ho]; simp) (run ρ w w _ q1) q2
  · have hn0 : 0 < n := by
      rcases Nat.eq_zero_or_pos n with q | q
      · rw [q] at h0; cases h0
      · exact q
    obtain ⟨new, s1, hk2, hs1⟩ := firstK_snd (P := P) h.pos hlen (Nat.le_refl n) hk1 hw
    rw [wh_iff] at hk2
    have hwn : wide new = n * y.size := Nat.eq_of_beq_eq_true hk2.1
    obtain ⟨r, s2, hk3, hs2⟩ := appSome_snd (P := P) (ty := o.type) h hn0 hwn hk2.2 (hs1.wf hw)
    refine ⟨r, s2, hk3, Snd.weak (Snd.then (k := fun D R (news : Array Value) w₁ K => ∀ av xv, Den D R v av → (∀ w2 : World, (Builtin.lenOf xv).run P w2 = .ok n w2) →
      (∀ w2 : World, w2.heap = w₁.heap → (Builtin.firstCells y.size n xv).run P w2 = .ok news w2) → ∃ val w', (Builtin.append_ #[t, t2] o.type #[av, xv]).run P w₁ = .ok val w' ∧ K val w') hs1 hs2 FirstC.mono App2.mono ?_) ?_ ?_ fun _ _ _ q => q⟩
    · intro D R D' R' w K news ag hsub hq hh av xv a1 a2 a3
      exact hh av xv news (a1.more hsub ag) a2 a3 hq
    · exact fun D R w K K' h hh => FirstC.mono _ _ _ _ _ (fun news w q av xv a1 a2 a3 => let ⟨val, w', q1, q2⟩ := q av xv a1 a2 a3; ⟨val, w', q1, h _ _ q2⟩) hh
    · intro D R w K hh ρ hρ
      obtain ⟨news, q1, q2⟩ := hh (ρ x) hρ.2
      obtain ⟨val, w', q3, q4⟩ := q2 (ρ a) (ρ x) hρ.1 (lenAt D R _ hρ.2) q1
      exact does_value (by rw [ho]; simp) (run ρ w w' _ q3) q4
end Go.Ev
/- Operations, one by one: a slice that becomes a pointer to an array. -/
namespace Go.Ev
variable {P : Program} {E : Env} {ro : Option Nat} {o : Oper}

theorem s2a_snd {t : TypeId} {x : Operand} (ho : o.op = .sliceToArrayPointer t x) {n : Nat} {e : TypeId} (hu : P.underlying t = some (.array n e))
    {f : Rec → Tm → St → KV → Bool} (hf : c1 x (kS2a n) = some ⟨f⟩) (hx : OpOk P x) (rec : Rec) : OpSnd P ro o (f rec) := by
  refine c1_snd hf hx rec fun v s K hk ⟨G, hG⟩ => ?_
  obtain ⟨tt, a, b, c, d, m⟩ := v
  have hk' : wh (Nat.ble n c) (ifB (Nat.beq tt 6) (K (.mk 4 a b 0 0 []) s) (wh (Nat.beq tt 7) (wh (lt 0 c) (wh (Nat.ble 1 d) (rowK s a (fun _ op cs s => wh (Nat.beq op (Nat.add d 1)) (wh (Nat.ble (Nat.mul (Nat.add b 1) d) (wide cs)) (K (.mk 4 a (Nat.mul b d) 0 0 []) s)))))))) = true := hk
  rw [wh_iff, ifB_iff, wh_iff, wh_iff, wh_iff] at hk'
  obtain ⟨hn, ⟨h6, hk'⟩ | ⟨_, h7, h0, hd1, hk'⟩⟩ := hk'
  all_goals have hn : n ≤ c := Nat.le_of_ble_eq_true hn
  · have h6 := Nat.eq_of_beq_eq_true h6
    subst h6
    refine ⟨_, s, hk', snd_value (by rw [ho]; simp) fun D R ρ w h => ⟨.pointer (some ⟨R.at_ a, R.base a + b, none⟩), ?_, fun R' ha => ?_⟩⟩
    · have hv := h R (Agr.refl _ _)
      simp only [den] at hv
      have hund := run_underlying hu w
      simp only [execOp, ho, ← hv, Instr.arrayAt, Sem.run_bind, hund, Result.andThen]
      rw [if_neg (by omega)]
      rfl
    · have h1 := h R (Agr.refl _ _)
      have h2 := h R' ha
      rw [← h1] at h2
      simp only [den] at h2
      rw [den_ptr]
      have : R'.at_ a = R.at_ a ∧ R'.base a = R.base a := by simpa using h2
      rw [this.1, this.2]
  · have h7 := Nat.eq_of_beq_eq_true h7
    subst h7
    obtain ⟨hid, el, op, cs, hrow, hk2⟩ := rowK_inv hG hk'
    rw [wh_iff, wh_iff] at hk2
    obtain ⟨hop, hwide, hk3⟩ := hk2
    have hop := Nat.eq_of_beq_eq_true hop
    have hop : op = d + 1 := hop
    subst hop
    have hwide : (b + 1) * d ≤ wide cs := Nat.le_of_ble_eq_true hwide
    refine ⟨_, _, hk3, Snd.read hid (fun G' hG' => by rw [Al, wf_same hG hG' hid, hrow]; simp) (fun G' hG' D R w hD hlt' hb ρ h => ?_) OpA.mono⟩
    rw [wf_same hG hG' hid, hrow] at hb
    have hd1 : 1 ≤ d := Nat.le_of_ble_eq_true hd1
    have hoff : (if R.room a = b then plN m else b * d) = b * d := by
      have := room_le hb _ hwide hd1
      rw [if_neg (by omega)]
    refine does_value (v := .pointer (some ⟨R.at_ a, R.base a + b * d, none⟩)) (by rw [ho]; simp) ?_ ⟨rfl, fun R' ha => ?_⟩
    · have hv := h R (Agr.refl _ _)
      simp only [den, hoff] at hv
      have hund := run_underlying hu w
      simp only [execOp, ho, ← hv, Instr.arrayAt, Sem.run_bind, hund, Result.andThen]
      rw [if_neg (by omega)]
      rfl
    · rw [den_ptr, (ha a hD).1, (ha a hD).2.2]; rfl

end Go.Ev
/- Operations, one by one: conversions of bytes to strings. -/
namespace Go.Ev
variable {P : Program} {E : Env} {ro : Option Nat} {o : Oper}

theorem bytes_text (n d : Nat) : ((List.range n).map fun i => ((byteAt d i : Nat) : Int)).foldl (fun (r : ByteArray) n => r.push (UInt8.ofNat n.toNat)) ByteArray.empty = textOf n (low d n) := by
  rw [foldl_push_bytes]
  have e : (ByteArray.empty).data = #[] := rfl
  rw [e, List.map_map]
  simp only [textOf, Array.empty_append]
  congr 2
  refine List.map_congr_left fun i hi => ?_
  rw [byteAt_low _ _ _ (by simpa using hi)]
  simp

theorem lenK_tags {tt a b c d : Nat} {l : List V} {k : Nat → Bool} (q : lenK (.mk tt a b c d l) k = true) : tt = 6 ∨ tt = 7 ∨ tt = 3 ∨ tt = 8 := by
  unfold lenK at q
  rw [vB_eq, ifB_iff, ifB_iff, ifB_iff, wh_iff] at q
  rcases q with ⟨q, _⟩ | ⟨_, ⟨q, _⟩ | ⟨_, ⟨q, _⟩ | ⟨_, q, _⟩⟩⟩
  · exact .inl (Nat.eq_of_beq_eq_true q)
  · exact .inr (.inl (Nat.eq_of_beq_eq_true q))
  · exact .inr (.inr (.inl (Nat.eq_of_beq_eq_true q)))
  · exact .inr (.inr (.inr (Nat.eq_of_beq_eq_true q)))

theorem convS_snd {src dst : TypeId} {x : Operand} {b : Bool} (ho : o.op = .convert src dst x) (hs : (P.underlying src).isSome = true) (hd : P.underlying dst = some .string)
    (hb : b = true → ∃ e, P.underlying src = some (.slice e) ∧ P.underlying e = some (.int .u8))
    {f : Rec → Tm → St → KV → Bool} (hf : c1 x (convS b) = some ⟨f⟩) (hx : OpOk P x) (rec : Rec) : OpSnd P ro o (f rec) := by
  refine c1_snd hf hx rec fun v s K hk hw => ?_
  obtain ⟨tt, a, b', c, d, l⟩ := v
  have hk' : ifB (Nat.beq tt 3) (K (.mk tt a b' c d l) s) (wh b (convRow (.mk tt a b' c d l) s K)) = true := hk
  rw [ifB_iff, wh_iff] at hk'
  rcases hk' with ⟨h3, hk'⟩ | ⟨h3, hbt, hk'⟩
  · have e := Nat.eq_of_beq_eq_true h3
    subst e
    refine ⟨_, s, hk', snd_value (by rw [ho]; simp) fun D R ρ w h => ⟨ρ x, ?_, h⟩⟩
    have hv := h R (Agr.refl _ _)
    simp only [den] at hv
    obtain ⟨q, hq⟩ := Option.isSome_iff_exists.mp hs
    have h1 := run_underlying hq w
    have h2 := run_underlying hd w
    simp only [execOp, ho, ← hv, convert, Sem.run_bind, h1, h2, Result.andThen]
    simp
  · obtain ⟨e, hse, he⟩ := hb hbt
    have ht3 : tt ≠ 3 := by intro q; subst q; cases h3
    obtain ⟨n, hk1, hlen⟩ := lenIs_of (show lenK (.mk tt a b' c d l) (fun n => ifB (Nat.beq n 0) (K (.mk 3 0 0 0 0 []) s) (firstK s 1 n (.mk tt a b' c d l) (fun cs s => match cs with
      | [v] => vB v (fun t a b _ _ _ => wh (Nat.beq t 16) (wh (Nat.beq a n) (K (.mk 3 n (low b n) 0 0 []) s)))
      | _ => false))) = true from hk')
    have run : ∀ (ρ : Operand → Value) (w : World) a l c val, ρ x = .slice a l c → (Conv.bytesToString (.slice a l c)).run P w = .ok val w → (execOp ρ o).run P w = .ok (.value val) w := by
      intro ρ w a l c val hρ hr
      simp only [execOp, ho, hρ, Sem.run_bind]
      rw [run_convert_bytes_string w src dst e a l c hse he hd, hr]
      rfl
    have htags : tt = 6 ∨ tt = 7 ∨ tt = 8 := by
      have q := lenK_tags (show lenK (.mk tt a b' c d l) (fun n => ifB (Nat.beq n 0) (K (.mk 3 0 0 0 0 []) s) (firstK s 1 n (.mk tt a b' c d l) (fun cs s => match cs with
        | [v] => vB v (fun t a b _ _ _ => wh (Nat.beq t 16) (wh (Nat.beq a n) (K (.mk 3 n (low b n) 0 0 []) s)))
        | _ => false))) = true from hk')
      rcases q with q | q | q | q
      · exact .inl q
      · exact .inr (.inl q)
      · exact absurd q ht3
      · exact .inr (.inr q)
    have hsl : ∀ R, ∃ a2 c2, den R (.mk tt a b' c d l) = .slice a2 n c2 := fun R => by
      rcases hlen R with q | ⟨st, q, _⟩
      · exact q
      · rcases htags with h | h | h <;> subst h <;> simp only [den] at q <;> cases q
    rw [ifB_iff] at hk1
    rcases hk1 with ⟨h0, hk1⟩ | ⟨h0, hk1⟩
    · have h0 := Nat.eq_of_beq_eq_true h0
      subst h0
      refine ⟨_, s, hk1, snd_value (by rw [ho]; simp) fun D R ρ w h => ⟨.string (textOf 0 0), ?_, fun R' ha => by simp only [den]⟩⟩
      obtain ⟨a2, c2, hv⟩ := hsl R
      rw [h R (Agr.refl _ _)] at hv
      refine run ρ w a2 0 c2 _ hv ?_
      cases a2 with
      | none => simp [Conv.bytesToString, textOf, Sem.run_pure]; rfl
      | some ad =>
        have := run_bytesToString (P := P) w ad 0 c2 [] (by simpa using loadCells_zero ad w)
        rw [this]; rfl
    · obtain ⟨cs, s1, hk2, hs1⟩ := firstK_snd (P := P) (by omega) hlen (Nat.le_refl n) hk1 hw
      match cs, hk2, hs1 with
      | [], hk2, _ => cases hk2
      | _ :: _ :: _, hk2, _ => cases hk2
      | [.mk t1 n1 d1 _ _ _], hk2, hs1 =>
        have hk2 : wh (Nat.beq t1 16) (wh (Nat.beq n1 n) (K (.mk 3 n (low d1 n) 0 0 []) s1)) = true := hk2
        rw [wh_iff, wh_iff] at hk2
        obtain ⟨e1, e2, hk3⟩ := hk2
        have e1 := Nat.eq_of_beq_eq_true e1
        have e2 := Nat.eq_of_beq_eq_true e2
        subst e1
        subst e2
        refine ⟨_, s1, hk3, hs1.weakM FirstC.mono (fun _ => .string (textOf n1 (low d1 n1))) (fun D R w K hh ρ hρ => ?_) fun D R x hx R' ha => by simp only [den]⟩
        obtain ⟨cells, q1, ⟨D', R', q2⟩, q3⟩ := hh (ρ x) hρ
        have q2 := q2 R' (Agr.refl _ _)
        simp only [cellsOf, List.append_nil] at q2
        obtain ⟨a2, c2, hv⟩ := hsl R
        rw [hρ R (Agr.refl _ _)] at hv
        refine does_value (by rw [ho]; simp) (run ρ w a2 n1 c2 _ hv ?_) q3
        have hcells : cells = (((List.range n1).map fun i => ((byteAt d1 i : Nat) : Int)).map (Value.int .u8)).toArray := by
          apply Array.ext'
          rw [← q2]
          simp [bytesOf]
        have q1 := q1 w rfl
        rw [hv] at q1
        cases a2 with
        | none =>
          have q1 : cells = #[] := by
            simp only [Builtin.firstCells, Sem.run_pure] at q1
            cases q1; rfl
          rw [q1] at q2
          have : (bytesOf n1 d1).length = 0 := by rw [q2]; rfl
          rw [bytesOf_length] at this
          subst this
          cases h0
        | some ad =>
          simp only [Builtin.firstCells, Nat.mul_one] at q1
          rw [hcells] at q1
          rw [run_bytesToString w ad n1 c2 _ q1, bytes_text]
end Go.Ev
/- Operations, one by one: conversions of strings to bytes. -/
namespace Go.Ev
variable {P : Program} {E : Env} {ro : Option Nat} {o : Oper}

theorem modify_push (a : Array Obj) (x : Obj) (f : Obj → Obj) : (a.push x).modify a.size f = a.push (f x) := by
  apply Array.ext
  · simp
  · intro i h1 h2
    simp only [Array.getElem_modify, Array.getElem_push]
    by_cases h : a.size = i
    · subst h
      simp
    · have hi : i < a.size := by simp at h1; omega
      simp [h, hi]

theorem bytesWorld_eq (w : World) (e : TypeId) (s : ByteArray) :
    Lib.bytesWorld w e s = { w with heap := w.heap.push (.cells (Lib.bytesCells w e s) e ((Lib.bytesCells w e s).size, (Lib.bytesCells w e s).size + 1)), drawn := w.drawn + 1 } := by
  unfold Lib.bytesWorld World.freeze
  rw [if_neg (by decide)]
  show ({ w.drew.alloc (.cells (Lib.bytesCells w e s) e) with heap := (w.heap.push (.cells (Lib.bytesCells w e s) e)).modify w.heap.size _ } : World) = _
  rw [modify_push]
  rfl

/-- a row of bytes that comes out of a string -/
def GrowB (e total : Nat) (cs : List V) : Comp Value := fun D R w K => ∀ (vals rest : List Value) (k : Nat), DenC D R cs vals → vals.length = total → total ≤ k → rest.length = k - total →
  K (.slice (some ⟨w.heap.size, 0, none⟩) total k) { w with heap := w.heap.push (.cells (vals ++ rest).toArray e (k, k + 1)), drawn := w.drawn + 1 }
theorem growB_snd {s : St} {G : Nat → HB} (hG : Wf s G) (hn : s.nx < 65536) {e total : Nat} {cs : List V} : Snd P (GrowB e total cs) (ValQ (.mk 7 s.nx 0 total 1 [])) s { s with h := mk4 (upd G s.nx (.row e (1 + 1) cs)), nx := s.nx + 1 } := by
  intro G' hG'
  have := wf_unique hG hG'
  subst this
  refine Snd.make (c := GrowB e total cs) (Q := ValQ (.mk 7 s.nx 0 total 1 [])) (b := .row e (1 + 1) cs) hG' hn trivial (fun D R w hD vals rest k hc hv hk hr => ?_) (fun D R w K K' h hh vals rest k hc hv hk hr => h _ _ (hh vals rest k hc hv hk hr)) G' hG'
  refine ⟨_, k, rfl, fun R' hag hat hroom hbs => ⟨⟨_, k, k + 1, rfl, .inr (by simp [hv, hr]; omega), [], vals, rest, hc.more Plus.sub hag, by simp, by rw [hbs]; rfl, fun q => by omega, fun z' ez => ?_⟩, fun R'' ha'' => ?_⟩⟩
  · have : z' = 1 := by omega
    subst this
    rw [hroom, hbs]
    simp [hv, hr]; omega
  · have hnew := ha'' s.nx (.inr ⟨Nat.le_refl _, Nat.lt_succ_self _⟩)
    simp only [den]
    rw [hnew.1, hnew.2.1, hnew.2.2, hat, hroom, hbs]
    simp [plN]

theorem convB_snd {src dst e : TypeId} {x : Operand} {b : Bool} (ho : o.op = .convert src dst x) (hs : (P.underlying src).isSome = true) (hd : P.underlying dst = some (.slice e)) (he : P.underlying e = some (.int .u8))
    (hb : b = true → src = dst)
    {f : Rec → Tm → St → KV → Bool} (hf : c1 x (convB b e) = some ⟨f⟩) (hx : OpOk P x) (rec : Rec) : OpSnd P ro o (f rec) := by
  refine c1_snd hf hx rec fun v s K hk ⟨G, hG⟩ => ?_
  obtain ⟨tt, a, b', c, d, l⟩ := v
  have hk' : ifB (Nat.beq tt 3) (ifB (Nat.beq a 0) (freshRow s e [] 0 1 K) (freshRow s e [.mk 16 a b' 0 0 []] a 1 K))
    (wh b (wh (Nat.beq tt 6) (rowK s a (fun el op cs s => lay s a (.row el op cs) (fun s => K (.mk tt a b' c d l) s))))) = true := hk
  rw [ifB_iff, wh_iff, wh_iff] at hk'
  rcases hk' with ⟨h3, hk'⟩ | ⟨h3, hbt, h6, hk'⟩
  · have e3 := Nat.eq_of_beq_eq_true h3
    subst e3
    have main : ∀ cs : List V, (∀ R, cellsOf R cs = bytesOf a b') → freshRow s e cs a 1 K = true →
        ∃ r s', K r s' = true ∧ Snd P (OpA P ro o fun D R ρ => Den D R (.mk 3 a b' c d l) (ρ x)) (ValQ r) s s' := by
      intro cs hcs hk
      obtain ⟨hn, hk2⟩ := fresh_eq hG _ _ hk
      refine ⟨_, _, hk2, (growB_snd hG hn).weak (fun D R w K K' h hh vals rest k a1 a2 a3 a4 => h _ _ (hh vals rest k a1 a2 a3 a4)) (fun D R w K hh ρ hρ => ?_) fun _ _ _ q => q⟩
      have hv := hρ R (Agr.refl _ _)
      simp only [den] at hv
      obtain ⟨q, hq⟩ := Option.isSome_iff_exists.mp hs
      have hrun := Lib.run_convert_string_bytes (P := P) w src dst e (textOf a b') hq hd he
      rw [bytesWorld_eq] at hrun
      have hsz : (textOf a b').size = a := text_size a b'
      have hge := grownCap_ge w a 0 e
      have hbytes : (Lib.bytesCells w e (textOf a b')) = (bytesOf a b' ++ List.replicate (grownCap w a 0 e - a) (Value.int .u8 0)).toArray := by
        apply Array.ext'
        simp only [Lib.bytesCells, Array.toList_append, Array.toList_map, text_list, List.map_map, hsz, Array.toList_replicate]
        congr 1
        simp only [bytesOf]
        refine List.map_congr_left fun i _ => ?_
        have hl := byteAt_lt b' i
        simp [Nat.mod_eq_of_lt hl]
      have hcsz : (Lib.bytesCells w e (textOf a b')).size = grownCap w a 0 e := by
        rw [hbytes]; simp [bytesOf_length]; omega
      rw [hcsz, hbytes, hsz] at hrun
      refine does_value (by rw [ho]; simp) (by simp only [execOp, ho, ← hv, Sem.run_bind, hrun]; rfl) (hh (bytesOf a b') _ _ (fun R' _ => hcs R') (bytesOf_length _ _) hge (by simp))
    rw [ifB_iff] at hk'
    rcases hk' with ⟨h0, hk'⟩ | ⟨_, hk'⟩
    · have h0 := Nat.eq_of_beq_eq_true h0
      subst h0
      exact main [] (fun R => by simp [cellsOf, bytesOf]) hk'
    · exact main _ (fun R => by simp only [cellsOf, List.append_nil]) hk'
  · have e6 := Nat.eq_of_beq_eq_true h6
    subst e6
    obtain ⟨hid, el, op, cs, hrow, hk2⟩ := rowK_inv hG hk'
    have hk3 := lay_ok hG hk2
    refine ⟨_, _, hk3, Snd.write hG hid (by rw [Al, hrow]; simp) trivial (fun D R w hD hlt hrep ρ hρ => ?_) OpA.mono⟩
    rw [hrow] at hrep
    obtain ⟨cc, lo, hi, hoj, hf, pre, xs, spare, h1, h2, hbs, h3', h4⟩ := hrep
    have hv := hρ R (Agr.refl _ _)
    simp only [den] at hv
    have hsd := hb hbt
    subst hsd
    have hob : w.heap[R.at_ a] = .cells cc el (lo, hi) := by
      rw [Array.getElem?_eq_getElem hlt] at hoj
      exact Option.some.inj hoj
    have hfr : w.freeze ⟨R.at_ a, cc.size, none⟩ 1 = { w with heap := w.heap.setIfInBounds (R.at_ a) (.cells cc el (if lo == hi then (cc.size, cc.size + 1) else (min lo cc.size, max hi (cc.size + 1)))) } := by
      unfold World.freeze
      rw [if_neg (by decide)]
      congr 1
      refine Array.ext_getElem? fun i => ?_
      rw [Array.getElem?_modify, Array.getElem?_setIfInBounds]
      by_cases h : R.at_ a = i
      · subst h
        simp [hlt, hob]
      · simp [h]
    have hsh : w.shape? (R.at_ a) = some (el, cc.size) := by simp [World.shape?, hoj]
    have hrun : (convert src src (.slice (some ⟨R.at_ a, R.base a + b', none⟩) c d)).run P w = .ok (.slice (some ⟨R.at_ a, R.base a + b', none⟩) c d) (w.freeze ⟨R.at_ a, cc.size, none⟩ 1) := by
      simp [convert, run_underlying hd, run_underlying he, markStringish, hsh]
    rw [hfr] at hrun
    obtain ⟨lo', hi', hpair, hlo'⟩ : ∃ lo' hi', (if lo == hi then (cc.size, cc.size + 1) else (min lo cc.size, max hi (cc.size + 1))) = (lo', hi') ∧ cc.size ≤ lo' := by
      split
      · exact ⟨_, _, rfl, Nat.le_refl _⟩
      · rename_i hne
        refine ⟨_, _, rfl, ?_⟩
        rcases hf with q | q
        · exact absurd (by simpa using q) hne
        · omega
    rw [hpair] at hrun
    refine does_value (by rw [ho]; simp) (by simp only [execOp, ho, ← hv, Sem.run_bind, hrun]; rfl) ⟨⟨_, rfl, cc, lo', hi', rfl, .inr hlo', pre, xs, spare, h1, h2, hbs, h3', h4⟩, fun R' ha => ?_⟩
    have := hρ R' ha
    simp only [den] at this ⊢
    rw [this, hv]
end Go.Ev
/- Comparisons of structs and arrays whose parts are all numbers. -/
namespace Go.Ev
variable {P : Program} {E : Env} {ro : Option Nat} {o : Oper}

def litOf : Value → Lit
  | .int k n => .int k n
  | .string s => .string s.data.toList
  | .bool b => .bool b
  | _ => .bool false
/-- a value of a kind -/
def Fits1 : CKind → Value → Prop
  | .num k, v => ∃ n, v = .int k n ∧ (Lit.int k n).wf = true
  | .txt, v => ∃ s, v = .string s ∧ s.size ≤ maxLen
  | .bl, v => ∃ b, v = .bool b
def Ints : List CKind → List Value → Prop
  | [], [] => True
  | k :: ks, v :: cs => Fits1 k v ∧ Ints ks cs
  | _, _ => False

theorem Ints.len : ∀ {ks : List CKind} {cs : List Value}, Ints ks cs → cs.length = ks.length
  | [], [], _ => rfl
  | _ :: ks, _ :: cs, h => by simp only [List.length_cons]; rw [Ints.len h.2]
  | [], _ :: _, h => h.elim
  | _ :: _, [], h => h.elim
theorem Ints.app : ∀ {a b : List CKind} {cs : List Value}, Ints (a ++ b) cs → Ints a (cs.take a.length) ∧ Ints b (cs.drop a.length)
  | [], b, cs, h => by simpa [Ints] using h
  | k :: a, b, [], h => h.elim
  | k :: a, b, v :: cs, h => by
    have := Ints.app (a := a) (b := b) h.2
    exact ⟨⟨h.1, by simpa using this.1⟩, by simpa using this.2⟩
theorem bytes_ext {s t : ByteArray} : s.data.toList = t.data.toList ↔ s = t := ⟨fun h => ByteArray.ext (Array.toList_inj.1 h), fun h => by rw [h]⟩
theorem Ints.inj : ∀ {ks : List CKind} {a b : List Value}, Ints ks a → Ints ks b → (a.map litOf = b.map litOf ↔ a = b)
  | [], [], [], _, _ => by simp
  | .num k :: ks, x :: a, y :: b, h, g => by
    obtain ⟨n, rfl, _⟩ := h.1
    obtain ⟨m, rfl, _⟩ := g.1
    simp only [List.map_cons, litOf, List.cons.injEq, Ints.inj h.2 g.2, Lit.int.injEq, Value.int.injEq]
  | .txt :: ks, x :: a, y :: b, h, g => by
    obtain ⟨n, rfl, _⟩ := h.1
    obtain ⟨m, rfl, _⟩ := g.1
    simp only [List.map_cons, litOf, List.cons.injEq, Ints.inj h.2 g.2, Lit.string.injEq, Value.string.injEq, bytes_ext]
  | .bl :: ks, x :: a, y :: b, h, g => by
    obtain ⟨n, rfl⟩ := h.1
    obtain ⟨m, rfl⟩ := g.1
    simp only [List.map_cons, litOf, List.cons.injEq, Ints.inj h.2 g.2, Lit.bool.injEq, Value.bool.injEq]
  | [], _ :: _, _, h, _ => h.elim
  | [], [], _ :: _, _, h => h.elim
  | _ :: _, [], _, h, _ => h.elim
  | _ :: _, _ :: _, [], _, h => h.elim

theorem ints_fields {g : TypeId → Option (List CKind)} {h : TypeId → List Value → Option (List Lit)} (hg : ∀ t l, g t = some l → l.length = P.cellsOf t ∧ ∀ cs, Ints l cs → h t cs = some (cs.map litOf)) (cs : List Value) :
    ∀ (fs : List Field) (off : Nat) (ks : List CKind), kindsFs g fs off = some ks → Ints ks (cs.drop off) →
      ∃ r, fs.mapM (fun f => h f.type ((cs.drop f.offset).take (P.cellsOf f.type))) = some r ∧ r.flatten = (cs.drop off).map litOf
  | [], off, ks, hk, hi => by
    simp only [kindsFs] at hk
    cases hk
    cases hd : cs.drop off with
    | nil => exact ⟨[], by simp, by simp⟩
    | cons x xs => rw [hd] at hi; exact hi.elim
  | f :: fs, off, ks, hk, hi => by
    unfold kindsFs at hk
    split at hk
    · rename_i hf
      split at hk
      · rename_i l hl
        split at hk
        · rename_i r hr
          cases hk
          obtain ⟨i1, i2⟩ := hi.app
          obtain ⟨e1, e2⟩ := hg _ _ hl
          rw [List.drop_drop] at i2
          obtain ⟨r', q1, q2⟩ := ints_fields hg cs fs _ _ hr i2
          have q := e2 _ i1
          rw [e1] at q
          refine ⟨((cs.drop off).take (P.cellsOf f.type)).map litOf :: r', ?_, ?_⟩
          · rw [List.mapM_cons, hf.1, q, q1]; rfl
          · simp only [List.flatten_cons, q2]
            rw [← List.map_append, ← List.drop_drop, e1, List.take_append_drop]
        · cases hk
      · cases hk
    · cases hk

theorem ints_items {h : List Value → Option (List Lit)} {l : List CKind} (hg : ∀ cs, Ints l cs → h cs = some (cs.map litOf)) (cs : List Value) :
    ∀ (n m : Nat), Ints (List.replicate n l).flatten (cs.drop (m * l.length)) →
      ∃ r, (List.range' m n).mapM (fun i => h ((cs.drop (i * l.length)).take l.length)) = some r ∧ r.flatten = (cs.drop (m * l.length)).map litOf
  | 0, m, hi => by
    cases hd : cs.drop (m * l.length) with
    | nil => exact ⟨[], by simp, by simp⟩
    | cons x xs => rw [hd] at hi; exact hi.elim
  | n + 1, m, hi => by
    rw [List.replicate_succ, List.flatten_cons] at hi
    obtain ⟨i1, i2⟩ := hi.app
    rw [List.drop_drop, ← Nat.succ_mul] at i2
    obtain ⟨r', q1, q2⟩ := ints_items hg cs n (m + 1) i2
    refine ⟨((cs.drop (m * l.length)).take l.length).map litOf :: r', ?_, ?_⟩
    · rw [List.range'_succ, List.mapM_cons, hg _ i1, q1]; rfl
    · simp only [List.flatten_cons, q2]
      rw [← List.map_append, Nat.succ_mul, ← List.drop_drop, List.take_append_drop]

theorem names_of {g : TypeId → Option (List CKind)} {fs : Array Field} {ks : List CKind} (h : kindsFs g fs.toList 0 = some ks) : fs.all (·.name != "_") = true := by
  have key : ∀ (l : List Field) (off : Nat) (ks : List CKind), kindsFs g l off = some ks → l.all (·.name != "_") = true := by
    intro l
    induction l with
    | nil => intro off ks _; rfl
    | cons f l ih =>
      intro off ks hk
      unfold kindsFs at hk
      split at hk
      · rename_i hf
        split at hk
        · split at hk
          · rename_i hr
            rw [List.all_cons, ih _ _ hr, hf.2]; rfl
          · cases hk
        · cases hk
      · cases hk
  rw [← Array.all_toList]
  exact key _ _ _ h

theorem keyLits_ints : ∀ (d : Nat) (t : TypeId) (ks : List CKind), kindsAt P d t = some ks → ∀ cs, Ints ks cs → P.keyLits d t cs = some (cs.map litOf)
  | 0, _, _, h, _, _ => by simp [kindsAt] at h
  | d + 1, t, ks, h, cs, hi => by
    unfold kindsAt at h
    unfold Program.keyLits
    cases hu : P.underlying t with
    | none => simp [hu] at h
    | some y =>
      rw [hu] at h
      cases y <;> simp only [] at h <;> try (cases h; done)
      case int q =>
        cases h
        match cs, hi with
        | [x], hi =>
          obtain ⟨n, rfl, hw⟩ : ∃ n, x = .int q n ∧ (Lit.int q n).wf = true := hi.1
          simp [hw, litOf]
        | _ :: _ :: _, hi => exact hi.2.elim
      case bool =>
        cases h
        match cs, hi with
        | [x], hi =>
          obtain ⟨n, rfl⟩ : ∃ b, x = .bool b := hi.1
          simp [litOf]
        | _ :: _ :: _, hi => exact hi.2.elim
      case string =>
        cases h
        match cs, hi with
        | [x], hi =>
          obtain ⟨n, rfl, hw⟩ : ∃ b : ByteArray, x = .string b ∧ b.size ≤ maxLen := hi.1
          simp [hw, litOf]
        | _ :: _ :: _, hi => exact hi.2.elim
      case array n e =>
        split at h
        · rename_i l hl
          split at h
          · rename_i hlen
            cases h
            have hcl := hi.len
            simp only [List.length_flatten, List.map_replicate, List.sum_replicate_nat] at hcl
            obtain ⟨r, q1, q2⟩ := ints_items (fun cs hc => keyLits_ints d e l hl cs hc) cs n 0 (by simpa using hi)
            simp only []
            rw [if_pos (by rw [hcl, hlen.2]), List.range_eq_range', ← hlen.1, q1]
            simp [q2]
          · cases h
        · cases h
      case struct fs =>
        split at h
        · rename_i l hl
          split at h
          · rename_i hlen
            cases h
            have hnames : fs.all (·.name != "_") = true := names_of hl
            obtain ⟨r, q1, q2⟩ := ints_fields (P := P) (h := fun t cs => P.keyLits d t cs) (fun t l ht => by
              split at ht
              · rename_i l' hl'
                split at ht
                · rename_i hc; cases ht; exact ⟨hc, fun cs hc => keyLits_ints d t _ hl' cs hc⟩
                · cases ht
              · cases ht) cs fs.toList 0 _ hl (by simpa using hi)
            simp only []
            rw [if_pos ⟨by rw [hi.len, hlen], hnames⟩, q1]
            simp [q2]
          · cases h
        · cases h

/-! ### cells of numbers -/
theorem bytes_same (n d e : Nat) : Nat.beq (low d n) (low e n) = true ↔ bytesOf n d = bytesOf n e := by
  rw [Nat.beq_eq]
  constructor
  · intro h
    refine List.map_congr_left fun i hi => ?_
    have hi : i < n := by simpa using hi
    rw [← byteAt_low d n i hi, ← byteAt_low e n i hi, h]
  · intro h
    refine low_congr n fun i hi => ?_
    have := congrArg (fun l => l[i]?) h
    simp [bytesOf, hi] at this
    omega

theorem Ints.join : ∀ {a b : List CKind} {x y : List Value}, Ints a x → Ints b y → Ints (a ++ b) (x ++ y)
  | [], _b, [], _y, _, h => h
  | _k :: _a, _b, _v :: _x, _y, h, g => ⟨h.1, Ints.join h.2 g⟩
  | [], _, _ :: _, _, h, _ => h.elim
  | _ :: _, _, [], _, h, _ => h.elim
theorem ints_bytes (f : Nat → Nat) (hf : ∀ i, f i < 256) : ∀ (l : List Nat), Ints (List.replicate l.length (.num .u8)) (l.map fun i => Value.int .u8 (f i))
  | [] => trivial
  | i :: l => ⟨⟨_, rfl, by
    have := hf i
    have h1 : IntKind.u8.min = 0 := by decide
    have h2 : IntKind.u8.max = 255 := by decide
    simp only [Lit.wf, h1, h2, Bool.and_eq_true, decide_eq_true_eq]
    omega⟩, ints_bytes f hf l⟩

theorem num_tag {t : Nat} (h1 : 32 ≤ t) (h2 : t ≤ 39) : ∃ k, t = k + 32 ∧ k < 8 := ⟨t - 32, by omega, by omega⟩
theorem alike1_inv {t a u c : Nat} {rest : Bool} (h : alike1 t a u c rest = true) :
    (t = 16 ∧ u = 16 ∧ a = c ∧ rest = true) ∨ (t = 2 ∧ u = 2 ∧ rest = true) ∨ (t = 3 ∧ u = 3 ∧ (a ≤ 4294967296 ∧ c ≤ 4294967296) ∧ rest = true) ∨ (t ≠ 16 ∧ t ≠ 2 ∧ t ≠ 3 ∧ 32 ≤ t ∧ t ≤ 39 ∧ t = u ∧ rest = true) := by
  have no : ∀ {x y : Nat}, Nat.beq x y = false → x ≠ y := fun {x y} hq he => by rw [he, Nat.beq_refl] at hq; cases hq
  unfold alike1 at h
  rw [ifB_iff] at h
  rcases h with ⟨h1, h⟩ | ⟨h1, h⟩
  · rw [wh_iff, wh_iff] at h
    exact .inl ⟨Nat.eq_of_beq_eq_true h1, Nat.eq_of_beq_eq_true h.1, Nat.eq_of_beq_eq_true h.2.1, h.2.2⟩
  · rw [ifB_iff] at h
    rcases h with ⟨h2, h⟩ | ⟨h2, h⟩
    · rw [wh_iff] at h
      exact .inr (.inl ⟨Nat.eq_of_beq_eq_true h2, Nat.eq_of_beq_eq_true h.1, h.2⟩)
    · rw [ifB_iff] at h
      rcases h with ⟨h3, h⟩ | ⟨h3, h⟩
      · rw [wh_iff, wh_iff, wh_iff] at h
        exact .inr (.inr (.inl ⟨Nat.eq_of_beq_eq_true h3, Nat.eq_of_beq_eq_true h.1, ⟨Nat.le_of_ble_eq_true h.2.1, Nat.le_of_ble_eq_true h.2.2.1⟩, h.2.2.2⟩))
      · rw [wh_iff, wh_iff, wh_iff] at h
        exact .inr (.inr (.inr ⟨no h1, no h2, no h3, Nat.le_of_ble_eq_true h.1, Nat.le_of_ble_eq_true h.2.1, Nat.eq_of_beq_eq_true h.2.2.1, h.2.2.2⟩))
theorem kindsV_num (k a b c d : Nat) (l z : List V) : kindsV (.mk (k + 32) a b c d l :: z) = [.num (kindOf k)] ++ kindsV z := by
  simp only [kindsV]
  rw [Nat.add_sub_cancel]
theorem cells_num (R : Ren) (j c b2 c2 d2 : Nat) (l2 l : List V) : cellsOf R (.mk (j + 32) c b2 c2 d2 l2 :: l) = .int (kindOf j) ((kindOf j).wrap c) :: cellsOf R l := by
  rw [cellsOf_one _ _ _ _ _ _ _ _ (by omega), den_int]
theorem alike_ints : ∀ (z l : List V), alikeK z l = true → ∀ R, Ints (kindsV z) (cellsOf R l)
  | [], [], _, _ => trivial
  | [], _ :: _, h, _ => by cases h
  | _ :: _, [], h, _ => by cases h
  | .mk t a b1 c1 d1 l1 :: z, .mk u c b2 c2 d2 l2 :: l, h, R => by
    rcases alike1_inv (show alike1 t a u c (alikeK z l) = true from h) with ⟨e1, e2, e3, h'⟩ | ⟨e1, e2, h'⟩ | ⟨e1, e2, e3, h'⟩ | ⟨n1, n2, n3, e2, e3, e4, h'⟩
    · subst e1 e2 e3
      simp only [kindsV, cellsOf]
      refine Ints.join ?_ (alike_ints z l h' R)
      have := ints_bytes (byteAt b2) (byteAt_lt b2) (List.range a)
      simpa [bytesOf] using this
    · subst e1 e2
      rw [cellsOf_one _ _ _ _ _ _ _ _ (by decide)]
      exact ⟨⟨_, by simp only [den]; rfl⟩, alike_ints z l h' R⟩
    · subst e1 e2
      rw [cellsOf_one _ _ _ _ _ _ _ _ (by decide)]
      exact ⟨⟨textOf c b2, by simp only [den], by rw [text_size]; unfold maxLen; omega⟩, alike_ints z l h' R⟩
    · subst e4
      obtain ⟨k, rfl, hk⟩ := num_tag e2 e3
      rw [kindsV_num, cells_num]
      exact ⟨⟨_, rfl, wf_wrap _ _⟩, alike_ints z l h' R⟩
theorem sameStr_iff (n d m e : Nat) : sameStr n d m e = true ↔ textOf n d = textOf m e := by
  rw [← text_same, beq_iff_eq, Lib.toList_data, Lib.toList_data, bytes_ext]
theorem beq_nat (c d : Nat) : (c == d) = Nat.beq c d := by
  by_cases h : c = d
  · subst h; rw [Nat.beq_refl]; simp
  · have h1 : Nat.beq c d = false := by
      cases hb : Nat.beq c d with
      | true => exact (h (Nat.eq_of_beq_eq_true hb)).elim
      | false => rfl
    rw [h1]; exact beq_eq_false_iff_ne.2 h
theorem boolEq_iff (x y : Bool) : boolEq x y = true ↔ x = y := by cases x <;> cases y <;> simp [boolEq, notB]
theorem sameL_inv : ∀ (z l m : List V) (k : Bool → Bool), alikeK z l = true → alikeK z m = true → sameL l m k = true → ∃ r, k r = true ∧ ∀ R, (r = true ↔ cellsOf R l = cellsOf R m)
  | [], [], [], k, _, _, h => ⟨true, h, fun R => by simp⟩
  | [], _ :: _, _, _, h, _, _ => by cases h
  | [], [], _ :: _, _, _, h, _ => by cases h
  | _ :: _, [], _, _, h, _, _ => by cases h
  | _ :: _, _ :: _, [], _, _, h, _ => by cases h
  | .mk t a b1 c1 d1 l1 :: z, .mk u c b2 c2 d2 l2 :: l, .mk v e b3 c3 d3 l3 :: m, k, h1, h2, h3 => by
    have g3 : ifB (Nat.beq u 16) (wh (Nat.beq v 16) (wh (Nat.beq c e) (sameL l m (fun r => k (wh (Nat.beq (low b2 c) (low b3 e)) r)))))
      (ifB (Nat.beq u 2) (sameBool (.mk u c b2 c2 d2 l2) (.mk v e b3 c3 d3 l3) (fun r1 => sameL l m (fun r => k (wh r1 r)))) (ifB (Nat.beq u 3) (sameTxt (.mk u c b2 c2 d2 l2) (.mk v e b3 c3 d3 l3) (fun r1 => sameL l m (fun r => k (wh r1 r)))) (same1 (.mk u c b2 c2 d2 l2) (.mk v e b3 c3 d3 l3) (fun r1 => sameL l m (fun r => k (wh r1 r)))))) = true := h3
    clear h3
    have g2 := alike1_inv (show alike1 t a v e (alikeK z m) = true from h2)
    rcases alike1_inv (show alike1 t a u c (alikeK z l) = true from h1) with ⟨e1, e2, e3, g1⟩ | ⟨e1, e2, g1⟩ | ⟨e1, e2, e3, g1⟩ | ⟨n1, n2, n3, e2, e3, e4, g1⟩
    · subst e1 e2 e3
      rcases g2 with ⟨_, f2, f3, g2⟩ | ⟨q, _⟩ | ⟨q, _⟩ | ⟨q, _⟩
      · subst f2 f3
        rw [ifB_iff, wh_iff, wh_iff] at g3
        rcases g3 with ⟨_, _, _, g3⟩ | ⟨q, _⟩
        · obtain ⟨r, hr, hh⟩ := sameL_inv z l m _ g1 g2 g3
          refine ⟨_, hr, fun R => ?_⟩
          simp only [cellsOf]
          rw [wh_iff, bytes_same, hh R]
          constructor
          · rintro ⟨q1, q2⟩; rw [q1, q2]
          · intro q
            exact List.append_inj q (by simp [bytesOf_length])
        · cases q
      · omega
      · omega
      · omega
    · subst e1 e2
      rcases g2 with ⟨q, _⟩ | ⟨_, f2, g2⟩ | ⟨q, _⟩ | ⟨_, q, _⟩
      · omega
      · subst f2
        have g4 : sameL l m (fun r => k (wh (boolEq (Nat.beq c 1) (Nat.beq e 1)) r)) = true := g3
        obtain ⟨r, hr, hh⟩ := sameL_inv z l m _ g1 g2 g4
        refine ⟨_, hr, fun R => ?_⟩
        rw [cellsOf_one _ _ _ _ _ _ _ _ (by decide), cellsOf_one _ _ _ _ _ _ _ _ (by decide)]
        simp only [den, List.cons.injEq, Value.bool.injEq]
        rw [wh_iff, boolEq_iff, hh R, beq_nat, beq_nat]
      · omega
      · omega
    · subst e1 e2
      rcases g2 with ⟨q, _⟩ | ⟨q, _⟩ | ⟨_, f2, _, g2⟩ | ⟨_, _, q, _⟩
      · omega
      · omega
      · subst f2
        have g4 : sameL l m (fun r => k (wh (sameStr c b2 e b3) r)) = true := g3
        obtain ⟨r, hr, hh⟩ := sameL_inv z l m _ g1 g2 g4
        refine ⟨_, hr, fun R => ?_⟩
        rw [cellsOf_one _ _ _ _ _ _ _ _ (by decide), cellsOf_one _ _ _ _ _ _ _ _ (by decide)]
        simp only [den, List.cons.injEq, Value.string.injEq]
        rw [wh_iff, sameStr_iff, hh R]
      · omega
    · subst e4
      rcases g2 with ⟨q, _⟩ | ⟨q, _⟩ | ⟨q, _⟩ | ⟨_, _, _, f2, f3, f4, g2⟩
      · omega
      · omega
      · omega
      · subst f4
        obtain ⟨j, rfl, hj⟩ := num_tag e2 e3
        have yes : ∀ {x y : Nat}, x ≠ y → Nat.beq x y = false := fun {x y} hq => by
          cases hb : Nat.beq x y with
          | true => exact (hq (Nat.eq_of_beq_eq_true hb)).elim
          | false => rfl
        rw [yes n1, yes n2, yes n3] at g3
        have g4 : wh (Nat.ble 32 (j + 32)) (wh (Nat.ble (j + 32) 39) (wh (Nat.beq (j + 32) (j + 32)) (sameL l m (fun r => k (wh (Nat.beq (Nat.land c (maskN (Nat.sub (j + 32) 32))) (Nat.land e (maskN (Nat.sub (j + 32) 32)))) r))))) = true := g3
        rw [wh_iff, wh_iff, wh_iff] at g4
        obtain ⟨r, hr, hh⟩ := sameL_inv z l m _ g1 g2 g4.2.2.2
        refine ⟨_, hr, fun R => ?_⟩
        have ej : Nat.sub (j + 32) 32 = j := Nat.add_sub_cancel j 32
        rw [cells_num, cells_num, wh_iff, ej, eqN_iff j c e hj, hh R]
        simp
theorem alike_self : ∀ (z l : List V), alikeK z l = true → alikeK z z = true
  | [], _, _ => rfl
  | _ :: _, [], h => by cases h
  | .mk t a b1 c1 d1 l1 :: z, .mk u c b2 c2 d2 l2 :: l, h => by
    have ih := alike_self z l
    show alike1 t a t a (alikeK z z) = true
    have bl : ∀ {x y : Nat}, x ≤ y → Nat.ble x y = true := fun h => Nat.ble_eq_true_of_le h
    have yes : ∀ {x y : Nat}, x ≠ y → Nat.beq x y = false := fun {x y} hq => by
      cases hb : Nat.beq x y with
      | true => exact (hq (Nat.eq_of_beq_eq_true hb)).elim
      | false => rfl
    unfold alike1
    rcases alike1_inv (show alike1 t a u c (alikeK z l) = true from h) with ⟨e1, e2, e3, g⟩ | ⟨e1, e2, g⟩ | ⟨e1, e2, e3, g⟩ | ⟨n1, n2, n3, e2, e3, e4, g⟩
    · subst e1
      rw [ih g, Nat.beq_refl a]; rfl
    · subst e1
      rw [ih g]; rfl
    · subst e1
      rw [ih g, bl e3.1]; rfl
    · rw [yes n1, yes n2, yes n3, ih g, bl e2, bl e3, Nat.beq_refl t]; rfl

theorem sameAgg_ok {t : TypeId} {z : List V} (h : alikeK z z = true → AggOk P t z) : SameOk P t (sameAgg z) := by
  intro x y k hk
  obtain ⟨t1, a1, b1, c1, d1, l⟩ := x
  obtain ⟨t2, a2, b2, c2, d2, m⟩ := y
  have h' : wh (Nat.beq t1 14) (wh (Nat.beq t2 14) (wh (alikeK z l) (wh (alikeK z m) (sameL l m k)))) = true := hk
  rw [wh_iff, wh_iff, wh_iff, wh_iff] at h'
  obtain ⟨e1, e2, al, am, hs⟩ := h'
  have h := h (alike_self _ _ al)
  have e1 := Nat.eq_of_beq_eq_true e1
  have e2 := Nat.eq_of_beq_eq_true e2
  subst e1 e2
  obtain ⟨r, hr, hh⟩ := sameL_inv z l m k al am hs
  refine ⟨r, hr, fun D R v u w hv hu => ?_⟩
  have q1 := hv R (Agr.refl _ _)
  have q2 := hu R (Agr.refl _ _)
  simp only [den] at q1 q2
  subst q1 q2
  obtain ⟨mm, hm, hkt, dd, hks⟩ := h.kinds
  have i1 := alike_ints z l al R
  have i2 := alike_ints z m am R
  have k1 := keyLits_ints dd t _ hks _ i1
  have k2 := keyLits_ints dd t _ hks _ i2
  have formed : ∀ xs : List Value, Ints (kindsV z) xs → Value.formed P t (.agg xs.toArray) = true := fun xs hx => by
    have := hx.len
    rcases h.agg with ⟨fs, hu⟩ | ⟨n, e, hu⟩ <;> simp [Value.formed, hu, this, h.len]
  refine ⟨fun X Y op => ?_, ?_, ⟨rfl, rfl⟩⟩
  · have hg := h.guard
    cases op <;> simp [eqGuard, program, bind, Sem.bind, pure] <;> simp [Sem.run, hg]
  · obtain ⟨r', hr', hiff⟩ := run_equalIn_deep (P := P) (10000 - mm) mm t hkt w dd dd (.agg (cellsOf R l).toArray) (.agg (cellsOf R m).toArray) _ _ (formed _ i1) (formed _ i2) (by simpa [Value.cells] using k1) (by simpa [Value.cells] using k2)
    rw [equal_eq]
    rw [show 10000 - mm + mm = 9999 + 1 by omega] at hr'
    rw [hr']
    congr 1
    rw [Bool.eq_iff_iff, hiff, hh R, Ints.inj i1 i2]
end Go.Ev
/- Operators on two operands, all together. -/
namespace Go.Ev
variable {P : Program} {E : Env} {ro : Option Nat} {o : Oper}

theorem cmp2_inv {K M : Nat} {g : Nat → Nat → K1 → Bool} {p : Nat → Bool} {x y : V} {k : K1} (h : cmp2 K M g p x y k = true) :
    int2 K g x y k = true ∨ (K = 38 ∧ ∃ a b c d l e c' d' e' l', x = .mk 18 a b c d l ∧ y = .mk 38 e c' d' e' l' ∧ Nat.land e M = 0 ∧ k (bv (p b)) = true) := by
  obtain ⟨t, a, b, c, d, l⟩ := x
  obtain ⟨u, e, c', d', e', l'⟩ := y
  unfold cmp2 at h
  rw [vB_eq, ifB_iff] at h
  rcases h with ⟨h1, h2⟩ | ⟨_, h2⟩
  · left
    unfold int2
    rw [vB_eq, wh_iff]
    exact ⟨h1, h2⟩
  · right
    rw [wh_iff, wh_iff, vB_eq, wh_iff, wh_iff] at h2
    obtain ⟨h1, h2, h3, h4, h5⟩ := h2
    have h1 := Nat.eq_of_beq_eq_true h1
    have h3 := Nat.eq_of_beq_eq_true h3
    subst h1 h3
    exact ⟨Nat.eq_of_beq_eq_true h2, a, b, c, d, l, e, c', d', e', l', rfl, rfl, Nat.eq_of_beq_eq_true h4, h5⟩
theorem den_18 (R : Ren) (a b c d : Nat) (l : List V) : den R (.mk 18 a b c d l) = .int .i64 (if b = 0 then ((R.room a % 9223372036854775808 : Nat) : Int) else -((R.room a % 9223372036854775808 : Nat) : Int) - 1) := by
  simp only [den]
theorem wrap_natlow {k e : Nat} (hk : k < 8) (h : Nat.land e (maskN k) = 0) : (kindOf k).wrap (e : Int) = 0 := by
  rw [land_mask _ _ hk] at h
  have e1 : (kindOf k).wrap (e : Int) = (kindOf k).wrap ((0 : Nat) : Int) := by
    refine wrap_congr _ ?_
    have hc : (((2 : Nat) ^ (kindOf k).bits : Nat) : Int) = 2 ^ (kindOf k).bits := by simp
    rw [← hc, ← Int.natCast_emod, h]; simp
  rw [e1]
  cases kindOf k <;> decide
theorem cmp_snd {ro : Option Nat} {o : Oper} {op : BinOp} {t u : TypeId} {x y : Operand} {k : Nat} (hk : k < 8) (ho : o.op = .binOp op t x y u) {g : Nat → Nat → K1 → Bool} {p : Nat → Bool} (hi : IntOk P op k g)
    (hp : ∀ (z : Int) (b : Nat) (w : World), (if b = 0 then 0 ≤ z else z < 0) → (do eqGuard op t x y (.int .i64 z) (.int .i64 0); binOp op t (.int .i64 z) (.int .i64 0) : Sem Value).run P w = .ok (.bool (p b)) w)
    {f : Rec → Tm → St → KV → Bool} (hf : c2 x y (pure2 (cmp2 (Nat.add 32 k) (maskN k) g p)) = some ⟨f⟩) (hx : OpOk P x) (hy : OpOk P y) (rec : Rec) : OpSnd P ro o (f rec) := by
  refine c2_snd hf hx hy rec fun v u s K hk' _ => ?_
  unfold pure2 at hk'
  rcases cmp2_inv hk' with h | ⟨e38, a, b, c, d, l, e, c', d', e', l', rfl, rfl, hz, hq⟩
  · obtain ⟨a, b, ⟨b1, c1, d1, l1, rfl⟩, ⟨b2, c2, d2, l2, rfl⟩, hr⟩ := int2_inv h
    obtain ⟨r, hq, hrun⟩ := hi t x y a b _ hr
    refine ⟨r, s, hq, snd_value (by rw [ho]; simp) fun D R ρ w h => ⟨den R r, ?_, fun R' ha => ?_⟩⟩
    · have e1 := h.1 R (Agr.refl _ _)
      have e2 := h.2 R (Agr.refl _ _)
      have ek : Nat.add 32 k = k + 32 := Nat.add_comm _ _
      rw [ek, den_int] at e1 e2
      have := hrun R w
      simp only [execOp, ho]
      rw [← e1, ← e2]
      refine (Sem.run_bind' P _ _ w).trans ?_
      rw [this]
      rfl
    · have h1 := hrun R default
      have h2 := hrun R' default
      rw [h1] at h2
      simpa using h2.symm
  · have hk6 : k = 6 := by have : Nat.add 32 k = 32 + k := rfl; omega
    subst hk6
    refine ⟨_, s, hq, snd_value (by rw [ho]; simp) fun D R ρ w h => ⟨.bool (p b), ?_, fun R' ha => den_bv R' _⟩⟩
    have e1 := h.1 R (Agr.refl _ _)
    have e2 := h.2 R (Agr.refl _ _)
    rw [den_18] at e1
    have e2 : den R (.mk (6 + 32) e c' d' e' l') = ρ y := e2
    rw [den_int, wrap_natlow (by decide) hz] at e2
    have := hp _ b w (by split <;> rename_i hb; (· exact Int.natCast_nonneg _); (· omega) : if b = 0 then 0 ≤ (if b = 0 then ((R.room a % 9223372036854775808 : Nat) : Int) else -((R.room a % 9223372036854775808 : Nat) : Int) - 1) else (if b = 0 then ((R.room a % 9223372036854775808 : Nat) : Int) else -((R.room a % 9223372036854775808 : Nat) : Int) - 1) < 0)
    simp only [execOp, ho]
    rw [← e1, ← e2]
    refine (Sem.run_bind' P _ _ w).trans ?_
    rw [show kindOf 6 = .i64 from rfl, this]
    rfl

theorem den_21 (R : Ren) (a b c d : Nat) (l : List V) : den R (.mk 21 a b c d l) = .int .i64 (modZ (R.room a) b c d) := by simp only [den]
theorem modZ_rem (r b c d : Nat) (h : d < c) : Int.tmod (modZ r b c d) (c : Int) = if b = 0 then (d : Int) else -(d : Int) := by
  have h0 : Int.tmod (d : Int) (c : Int) = d := Int.tmod_eq_of_lt (by omega) (by omega)
  have h1 : Int.tmod ((r * c + d : Nat) : Int) (c : Int) = d := by
    show ((((r * c + d) % c : Nat)) : Int) = d
    rw [Nat.mul_comm, Nat.mul_add_mod, Nat.mod_eq_of_lt h]
  unfold modZ
  split <;> split
  · exact h1
  · exact h0
  · rw [Int.neg_tmod, h1]
  · rw [Int.neg_tmod, h0]
theorem rem2_inv {K M G : Nat} {x y : V} {k : K1} (h : rem2 K M G x y k = true) :
    int2 K (nRem K M G) x y k = true ∨ (K = 38 ∧ ∃ a b c d l c' d' e' l', x = .mk 21 a b c d l ∧ y = .mk 38 c c' d' e' l' ∧ d < c ∧ c ≤ 65536 ∧ k (.mk 38 (restN b d) 0 0 0 []) = true) := by
  obtain ⟨t, a, b, c, d, l⟩ := x
  obtain ⟨u, e, c', d', e', l'⟩ := y
  unfold rem2 at h
  rw [vB_eq, ifB_iff] at h
  rcases h with ⟨h1, h2⟩ | ⟨_, h2⟩
  · left
    unfold int2
    rw [vB_eq, wh_iff]
    exact ⟨h1, h2⟩
  · right
    rw [wh_iff, wh_iff, vB_eq, wh_iff, wh_iff, wh_iff, wh_iff, lt_iff] at h2
    obtain ⟨h1, h2, h3, h4, h5, h6, h7⟩ := h2
    have h1 := Nat.eq_of_beq_eq_true h1
    have h3 := Nat.eq_of_beq_eq_true h3
    have h4 := Nat.eq_of_beq_eq_true h4
    subst h1 h3 h4
    exact ⟨Nat.eq_of_beq_eq_true h2, a, b, e, d, l, c', d', e', l', rfl, rfl, h5, Nat.le_of_ble_eq_true h6, h7⟩
theorem rem2_snd {ro : Option Nat} {o : Oper} {t u : TypeId} {x y : Operand} {k : Nat} (hk : k < 8) (ho : o.op = .binOp .rem t x y u)
    {f : Rec → Tm → St → KV → Bool} (hf : c2 x y (pure2 (rem2 (Nat.add 32 k) (maskN k) (signN k))) = some ⟨f⟩) (hx : OpOk P x) (hy : OpOk P y) (rec : Rec) : OpSnd P ro o (f rec) := by
  refine c2_snd hf hx hy rec fun v u s K hk' _ => ?_
  unfold pure2 at hk'
  rcases rem2_inv hk' with h | ⟨e38, a, b, c, d, l, c', d', e', l', rfl, rfl, hd, hc, hq⟩
  · obtain ⟨a, b, ⟨b1, c1, d1, l1, rfl⟩, ⟨b2, c2, d2, l2, rfl⟩, hr⟩ := int2_inv h
    obtain ⟨r, hq, hrun⟩ := rem_ok (P := P) hk t x y a b _ hr
    refine ⟨r, s, hq, snd_value (by rw [ho]; simp) fun D R ρ w h => ⟨den R r, ?_, fun R' ha => ?_⟩⟩
    · have e1 := h.1 R (Agr.refl _ _)
      have e2 := h.2 R (Agr.refl _ _)
      have ek : Nat.add 32 k = k + 32 := Nat.add_comm _ _
      rw [ek, den_int] at e1 e2
      have := hrun R w
      simp only [execOp, ho]
      rw [← e1, ← e2]
      refine (Sem.run_bind' P _ _ w).trans ?_
      rw [this]
      rfl
    · have h1 := hrun R default
      have h2 := hrun R' default
      rw [h1] at h2
      simpa using h2.symm
  · have hk6 : k = 6 := by have : Nat.add 32 k = 32 + k := rfl; omega
    subst hk6
    have ec : (kindOf 6).wrap (c : Int) = (c : Int) := by
      simp only [kindOf, IntKind.wrap, IntKind.signed, IntKind.bits]
      simp
      omega
    have er : ∀ R' : Ren, den R' (.mk 38 (restN b d) 0 0 0 []) = .int .i64 (if b = 0 then (d : Int) else -(d : Int)) := by
      intro R'
      have e : den R' (.mk 38 (restN b d) 0 0 0 []) = .int (kindOf 6) ((kindOf 6).wrap ((restN b d : Nat) : Int)) := den_int R' 6 _ 0 0 0 []
      rw [e]
      have : (kindOf 6).wrap ((restN b d : Nat) : Int) = if b = 0 then (d : Int) else -(d : Int) := by
        unfold restN ifN
        by_cases hb : b = 0
        · subst hb
          simp only [kindOf, IntKind.wrap, IntKind.signed, IntKind.bits]
          simp
          omega
        · rw [beq_false hb, if_neg hb]
          show (kindOf 6).wrap (((18446744073709551616 - d : Nat)) : Int) = _
          simp only [kindOf, IntKind.wrap, IntKind.signed, IntKind.bits]
          simp
          omega
      rw [this]; rfl
    refine ⟨_, s, hq, snd_value (by rw [ho]; simp) fun D R ρ w h => ⟨.int .i64 (if b = 0 then (d : Int) else -(d : Int)), ?_, fun R' ha => er R'⟩⟩
    have e1 := h.1 R (Agr.refl _ _)
    have e2 := h.2 R (Agr.refl _ _)
    rw [den_21] at e1
    have e2 : den R (.mk (6 + 32) c c' d' e' l') = ρ y := e2
    rw [den_int, ec] at e2
    simp only [execOp, ho]
    rw [← e1, ← e2]
    have hr := modZ_rem (R.room a) b c d hd
    have hc0 : (c : Int) ≠ 0 := by omega
    have hw : IntKind.i64.wrap (if b = 0 then (d : Int) else -(d : Int)) = if b = 0 then (d : Int) else -(d : Int) := by
      simp only [IntKind.wrap, IntKind.signed, IntKind.bits]
      split <;> simp <;> omega
    refine (Sem.run_bind' P _ _ w).trans ?_
    have key : (do eqGuard .rem t x y (.int .i64 (modZ (R.room a) b c d)) (.int .i64 c); binOp .rem t (.int .i64 (modZ (R.room a) b c d)) (.int .i64 c) : Sem Value).run P w = .ok (.int .i64 (if b = 0 then (d : Int) else -(d : Int))) w := by
      simp [eqGuard, binOp, Op.intDiv, bind, Sem.bind, pure, hr]
      intro e
      exact absurd e (by omega)
    rw [show kindOf 6 = .i64 from rfl, key]
    rfl

theorem intC_snd {op : BinOp} {t u : TypeId} {x y : Operand} {k : Nat} (hk : k < 8) (ho : o.op = .binOp op t x y u) {b : BinC} (hb : intC op (Nat.add 32 k) (bitsN k) (maskN k) (signN k) = some b)
    {f : Rec → Tm → St → KV → Bool} (hf : c2 x y (pure2 b.f) = some ⟨f⟩) (hx : OpOk P x) (hy : OpOk P y) (rec : Rec) : OpSnd P ro o (f rec) := by
  cases op <;> simp only [intC, Option.some.injEq] at hb <;> subst hb
  case add => exact arith_snd hk ho (fun a b q => add_ok hk t x y a b q) hf hx hy rec
  case sub => exact arith_snd hk ho (fun a b q => sub_ok hk t x y a b q) hf hx hy rec
  case mul => exact arith_snd hk ho (fun a b q => mul_ok hk t x y a b q) hf hx hy rec
  case quo => exact arith_snd hk ho (fun a b q => quo_ok hk t x y a b q) hf hx hy rec
  case rem => exact rem2_snd hk ho hf hx hy rec
  case eql => exact arith_snd hk ho (fun a b q => eq_ok hk t x y a b q) hf hx hy rec
  case neq => exact arith_snd hk ho (fun a b q => ne_ok hk t x y a b q) hf hx hy rec
  case lss => exact cmp_snd hk ho (lt_ok hk) (fun z b w h => by
    have e : notB (Nat.beq b 0) = decide (z < 0) := by
      by_cases hb : b = 0
      · subst hb; rw [if_pos rfl] at h
        have : ¬ z < 0 := by omega
        simp [this, notB]
      · rw [if_neg hb] at h
        rw [beq_false hb]; simp [h, notB]
    rw [e]
    simp [eqGuard, binOp, Op.intCmp, bind, Sem.bind, pure]) hf hx hy rec
  case leq => exact arith_snd hk ho (fun a b q => le_ok hk t x y a b q) hf hx hy rec
  case gtr => exact arith_snd hk ho (fun a b q => gt_ok hk t x y a b q) hf hx hy rec
  case geq => exact cmp_snd hk ho (ge_ok hk) (fun z b w h => by
    have e : Nat.beq b 0 = decide (0 ≤ z) := by
      by_cases hb : b = 0
      · subst hb; rw [if_pos rfl] at h
        simp [h]
      · rw [if_neg hb] at h
        have : ¬ 0 ≤ z := by omega
        rw [beq_false hb]; simp [this]
    rw [e]
    simp [eqGuard, binOp, Op.intCmp, bind, Sem.bind, pure]) hf hx hy rec
  case and => exact arith_snd hk ho (fun a b q => and_ok t x y a b q) hf hx hy rec
  case or => exact arith_snd hk ho (fun a b q => or_ok t x y a b q) hf hx hy rec
  case xor => exact arith_snd hk ho (fun a b q => xor_ok t x y a b q) hf hx hy rec
  case andNot => exact arith_snd hk ho (fun a b q => andNot_ok t x y a b q) hf hx hy rec
  case shl => exact shift_snd ho (.inl rfl) (fun a n q h => shl_ok hk a n q h) hf hx hy rec
  case shr => exact shift_snd ho (.inr rfl) (fun a n q h => shr_ok hk a n q h) hf hx hy rec

theorem binOp_snd (hE : EnvOk P E) {op : BinOp} {t u : TypeId} {x y : Operand} (ho : o.op = .binOp op t x y u) {c : OpC} (hc : opC E (.binOp op t x y u) = some c) (hx : OpOk P x) (hy : OpOk P y) (rec : Rec) : OpSnd P ro o (c.f rec) := by
  have hc' : (match E.ty t with | some ty => (match binC E op ty with | some ⟨f⟩ => c2 x y (pure2 f) | none => none) | none => none) = some c := hc
  split at hc'
  · rename_i ty hty
    have hT := hE.ty _ _ hty
    split at hc'
    · rename_i f hf
      obtain ⟨n, ag, z, kd⟩ := ty
      have hk := hT.kind
      obtain ⟨cf⟩ := c
      unfold binC at hf
      cases kd with
      | int k => exact intC_snd hk.1 ho hf hc' hx hy rec
      | str => exact str_snd ho hf hc' hx hy rec
      | bool => exact eqC_snd ho (sameBool_ok hk) hf hc' hx hy rec
      | ptr e =>
        simp only at hf
        split at hf
        · rename_i n' _ _ _ he
          split at hf
          · rename_i hn
            exact eqC_snd ho (samePtr_ok hk (hE.ty _ _ he) (Nat.le_of_ble_eq_true hn)) hf hc' hx hy rec
          · cases hf
        · cases hf
      | slice e => exact eqC_snd ho (nilSl_ok hk) hf hc' hx hy rec
      | map k e => exact eqC_snd ho (nilMap_ok hk) hf hc' hx hy rec
      | func =>
        obtain ⟨a, b, c', hk⟩ := hk
        exact eqC_snd ho (nilFunc_ok hk) hf hc' hx hy rec
      | struct fs => exact eqC_snd ho (sameAgg_ok (hE.aggs _ _ hty (.inl ⟨_, rfl⟩))) hf hc' hx hy rec
      | arr n e => exact eqC_snd ho (sameAgg_ok (hE.aggs _ _ hty (.inr ⟨_, _, rfl⟩))) hf hc' hx hy rec
      | other => cases hf
    · cases hc'
  · cases hc'

theorem convert_snd (hE : EnvOk P E) {a b : TypeId} {x : Operand} (ho : o.op = .convert a b x) {c : OpC} (hc : opC E (.convert a b x) = some c) (hx : OpOk P x) (rec : Rec) : OpSnd P ro o (c.f rec) := by
  have hc' : cConv E a b x = some c := hc
  obtain ⟨cf⟩ := c
  unfold cConv at hc'
  split at hc'
  · cases hc'
  · rename_i hsrc
    have hs : (P.underlying a).isSome = true := by
      unfold convSrc at hsrc
      split at hsrc
      · rename_i h; have := (hE.ty _ _ h).kind; rw [this.2]; rfl
      · rename_i h; have := (hE.ty _ _ h).kind; simp only [KindOk] at this; rw [this]; rfl
      · rename_i h; have := (hE.ty _ _ h).kind; simp only [KindOk] at this; rw [this]; rfl
      · cases hsrc
    have byteOk : ∀ e, byteT E e = true → P.underlying e = some (.int .u8) := fun e he => by
      unfold byteT at he
      split at he
      · rename_i k h
        have hk := (hE.ty _ _ h).kind
        have e1 := Nat.eq_of_beq_eq_true he
        subst e1
        exact hk.2
      · cases he
    split at hc'
    · rename_i k h
      have hk := (hE.ty _ _ h).kind
      exact convI_snd hk.1 ho hs hk.2 hc' hx rec
    · rename_i h
      have hk := (hE.ty _ _ h).kind
      refine convS_snd ho hs hk (fun hb => ?_) hc' hx rec
      unfold byteSl at hb
      split at hb
      · rename_i e he
        exact ⟨e, (hE.ty _ _ he).kind, byteOk e hb⟩
      · cases hb
    · rename_i e h
      have hk := (hE.ty _ _ h).kind
      split at hc'
      · rename_i he
        exact convB_snd ho hs hk (byteOk e he) (fun q => Nat.eq_of_beq_eq_true q) hc' hx rec
      · cases hc'
    · cases hc'
end Go.Ev
/- The operations put together: the plain ones. -/
namespace Go.Ev
variable {P : Program} {E : Env}

/-! ### the signs of a text -/
theorem range_snd' {ro : Option Nat} {o : Oper} {t : TypeId} {x : Operand} (ho : o.op = .range t x) (hu : P.underlying t = some .string) {f : Rec → Tm → St → KV → Bool} (hf : c1 x kRange = some ⟨f⟩) (hx : OpOk P x) (rec : Rec) : OpSnd P ro o (f rec) := by
  refine c1_snd hf hx rec fun v s K hk ⟨G, hG⟩ => ?_
  obtain ⟨tt, n, d, c', d', l'⟩ := v
  unfold kRange at hk
  rw [vB_eq, wh_iff] at hk
  obtain ⟨ht, hk⟩ := hk
  have ht := Nat.eq_of_beq_eq_true ht
  subst ht
  obtain ⟨hn, hk⟩ := fresh_eq hG _ _ hk
  refine ⟨_, _, hk, Snd.make hG hn trivial (fun D R w hD ρ hρ => ?_) OpA.mono⟩
  have hv : ρ x = .string (textOf n d) := by
    have := hρ R (Agr.refl _ _); simp only [den] at this; exact this.symm
  refine does_value (by rw [ho]; simp) (w' := w.iter (textOf n d) 0) (v := .pointer (some ⟨w.heap.size, 0, none⟩)) ?_ ⟨.stringIter (textOf n d) 0, 0, rfl, fun R' ha hat _ hbs => ⟨⟨rfl, hbs⟩, fun R'' ha'' => ?_⟩⟩
  · simp only [execOp, ho, hv, Sem.run_bind, run_range_string w t _ hu, Result.andThen, Sem.run_pure]
  · simp only [den]
    rw [(ha'' s.nx (.inr ⟨Nat.le_refl _, Nat.lt_succ_self _⟩)).1, (ha'' s.nx (.inr ⟨Nat.le_refl _, Nat.lt_succ_self _⟩)).2.2, hat, hbs]
theorem next_at {w : World} {b : Nat} {s : ByteArray} {pos : Nat} (hb : w.heap[b]? = some (.stringIter s pos)) (ty : TypeId) :
    (∀ (h : pos < s.size) (_ : (s[pos]'h).toNat < 128), (Instr.next (.pointer (some ⟨b, 0, none⟩)) true ty).run P w = .ok (.tuple #[.bool true, .int .i64 pos, .int .i32 (s[pos]'h).toNat]) { w with heap := w.heap.setIfInBounds b (.stringIter s (pos + 1)) }) ∧
    (¬ pos < s.size → (Instr.next (.pointer (some ⟨b, 0, none⟩)) true ty).run P w = .ok (.tuple #[.bool false]) w) := by
  constructor
  · intro h ha
    simp only [Instr.next, getObj, setObj, Sem.run_bind, Sem.run, hb, Result.andThen, h, if_true, decode_ascii s pos h ha]
    simp [goInt]
  · intro h
    simp [Instr.next, getObj, Sem.run, hb, h]
theorem next_snd {ro : Option Nat} {o : Oper} {x : Operand} (ho : o.op = .next x true) {f : Rec → Tm → St → KV → Bool} (hf : c1 x kNext = some ⟨f⟩) (hx : OpOk P x) (rec : Rec) : OpSnd P ro o (f rec) := by
  refine c1_snd hf hx rec fun v s K hk ⟨G, hG⟩ => ?_
  obtain ⟨tt, id, off, c', d', l'⟩ := v
  unfold kNext at hk
  rw [vB_eq, wh_iff, wh_iff] at hk
  obtain ⟨ht, hoff, hk⟩ := hk
  have ht := Nat.eq_of_beq_eq_true ht
  have hoff := Nat.eq_of_beq_eq_true hoff
  subst ht hoff
  obtain ⟨hid, hk⟩ := look_eq hG id _ hk
  obtain ⟨n, d, pos, hb⟩ : ∃ n d pos, G id = .sit n d pos := by
    revert hk
    generalize G id = b
    intro hk
    cases b with
    | sit n d pos => exact ⟨_, _, _, rfl⟩
    | _ => cases hk
  rw [hb] at hk
  have hk : ifB (lt pos n) (wh (lt pos 4294967296) (wh (lt (byteAt d pos) 128) (lay { s with r := s.r ||| mask id } id (.sit n d (Nat.add pos 1)) (fun s => K (.mk 15 0 0 0 0 [bv true, .mk 38 pos 0 0 0 [], .mk 36 (byteAt d pos) 0 0 0 []]) s)))) (K (.mk 15 0 0 0 0 [bv false]) { s with r := s.r ||| mask id }) = true := hk
  have hal : Al G id := by rw [Al, hb]; simp
  rw [ifB_iff] at hk
  rcases hk with ⟨h1, hk⟩ | ⟨h1, hk⟩
  · rw [wh_iff, wh_iff] at hk
    obtain ⟨h2, h3, hk⟩ := hk
    rw [lt_iff] at h1 h2 h3
    have hG1 : Wf { s with r := s.r ||| mask id } G := ⟨hG.h, hG.nx, hG.beyond, hG.ok⟩
    obtain ⟨_, hk⟩ := lay_eq hG1 id _ _ hk
    refine ⟨_, _, hk, Snd.write hG hid hal trivial (fun D R w hD hlt hr ρ hρ => ?_) OpA.mono⟩
    rw [hb] at hr
    obtain ⟨hr, hbs⟩ : w.heap[R.at_ id]? = some (.stringIter (textOf n d) pos) ∧ R.base id = 0 := hr
    have hv : ρ x = .pointer (some ⟨R.at_ id, 0, none⟩) := by
      have := hρ R (Agr.refl _ _); simp only [den, hbs] at this; exact this.symm
    have hsz : pos < (textOf n d).size := by rw [text_size]; exact h1
    have hget : (textOf n d)[pos]'hsz = UInt8.ofNat (byteAt d pos) := by
      have := text_get n d pos h1
      rw [getElem?_pos (textOf n d) pos hsz] at this
      exact Option.some.inj this
    have hnat : ((textOf n d)[pos]'hsz).toNat = byteAt d pos := by
      rw [hget]
      simp only [UInt8.toNat_ofNat']
      omega
    have hrun := (next_at (P := P) hr o.type).1 hsz (by rw [hnat]; exact h3)
    rw [hnat] at hrun
    refine does_value (by rw [ho]; simp) (v := .tuple #[.bool true, .int .i64 pos, .int .i32 (byteAt d pos : Nat)]) (w' := { w with heap := w.heap.setIfInBounds (R.at_ id) (.stringIter (textOf n d) (pos + 1)) }) ?_ ⟨⟨.stringIter (textOf n d) (pos + 1), rfl, rfl, hbs⟩, fun R' _ => ?_⟩
    · simp only [execOp, ho, hv, Sem.run_bind, hrun, Result.andThen, Sem.run_pure]
    · have e1 := wrap_small pos (by omega)
      have e2 : (IntKind.i32).wrap ((byteAt d pos : Nat) : Int) = (byteAt d pos : Nat) := by
        have := wrap_ext 4 (byteAt d pos) (by omega) (by simp [kindOf, IntKind.bits]; omega)
        have e : Nat.land (byteAt d pos) (signN 4) = 0 := (top_bit 31 _ (by omega)).2 (by omega)
        rw [if_pos e] at this
        exact this
      show Value.tuple (denL R' _).toArray = _
      simp only [denL, den_bv]
      rw [show (V.mk 38 pos 0 0 0 []) = .mk (6 + 32) pos 0 0 0 [] from rfl, show (V.mk 36 (byteAt d pos) 0 0 0 []) = .mk (4 + 32) (byteAt d pos) 0 0 0 [] from rfl, den_int, den_int]
      rw [show kindOf 6 = .i64 from rfl, show kindOf 4 = .i32 from rfl, e1, e2]
  · refine ⟨_, _, hk, Snd.read hid (fun G' hG' => by rw [wf_unique hG hG']; exact hal) (fun G' hG' D R w hD hlt hr ρ hρ => ?_) OpA.mono⟩
    rw [wf_unique hG hG', hb] at hr
    obtain ⟨hr, hbs⟩ : w.heap[R.at_ id]? = some (.stringIter (textOf n d) pos) ∧ R.base id = 0 := hr
    have hv : ρ x = .pointer (some ⟨R.at_ id, 0, none⟩) := by
      have := hρ R (Agr.refl _ _); simp only [den, hbs] at this; exact this.symm
    have hsz : ¬ pos < (textOf n d).size := by
      rw [text_size]; intro h; rw [(lt_iff _ _).2 h] at h1; cases h1
    have hrun := (next_at (P := P) hr o.type).2 hsz
    refine does_value (by rw [ho]; simp) (v := .tuple #[.bool false]) (w' := w) ?_ ⟨rfl, fun R' _ => ?_⟩
    · simp only [execOp, ho, hv, Sem.run_bind, hrun, Result.andThen, Sem.run_pure]
    · show Value.tuple (denL R' _).toArray = _
      simp only [denL, den_bv]

/-- the operations that are put together elsewhere -/
def Other : Op → Prop
  | .slice .. | .field .. | .fieldAddr .. | .indexAddr .. | .index .. | .lookup .. | .mapUpdate .. | .makeMap .. | .call .. => True
  | _ => False

theorem hops_plain (hE : EnvOk P E) {ro : Option Nat} {rec : Rec} {o : Oper} {c : OpC} (hc : opX E o.op = some c) (hn : ¬ Other o.op) : OpSnd P ro o (c.f rec) := by
  have hok := opX_ok hE hc
  have hc := opX_inv hc
  generalize ho : o.op = op at hok hc hn
  obtain ⟨f⟩ := c
  cases op
  case move x => exact move_snd (.inl ho) hc (hok x (by simp [Op.operands])) rec
  case assign x => exact move_snd (.inr ho) hc (hok x (by simp [Op.operands])) rec
  case pick a b d => exact pick_snd ho hc (hok a (by simp [Op.operands])) (hok b (by simp [Op.operands])) (hok d (by simp [Op.operands])) rec
  case alloc t =>
    have hc' : (match E.ty t with | some ⟨_, _, z, _⟩ => some (⟨fun _ _ s K => fresh s (.row t 0 z) (fun id s => K (.mk 4 id 0 0 0 []) s)⟩ : OpC) | none => none) = some ⟨f⟩ := hc
    split at hc'
    · rename_i h; cases hc'; exact alloc_snd hE ho h
    · cases hc'
  case box t x => exact box_snd ho hc (hok x (by simp [Op.operands])) rec
  case build t ps => exact build_snd hE ho hc (fun x hx => hok x.2 (by simp only [Op.operands, List.mem_toArray, List.mem_map]; exact ⟨x, by simpa using hx, rfl⟩)) rec
  case buildSlice t n ps => exact buildSlice_snd hE ho hc (fun x hx => hok x.2 (by simp only [Op.operands, List.mem_toArray, List.mem_map]; exact ⟨x, by simpa using hx, rfl⟩)) rec
  case load t a =>
    have hc' : (match E.ty t with | some ⟨n, g, _, _⟩ => c1 a (kLoad g n) | none => none) = some ⟨f⟩ := hc
    split at hc'
    · rename_i h; exact load_snd hE ho h hc' (hok a (by simp [Op.operands])) rec
    · cases hc'
  case store t a x =>
    have hc' : (match E.ty t with | some ⟨n, g, _, _⟩ => (match g with | true => c2 a x (kStoreN n) | false => c2 a x kStore1) | none => none) = some ⟨f⟩ := hc
    have ha := hok a (by simp [Op.operands])
    have hx := hok x (by simp [Op.operands])
    split at hc'
    · rename_i h
      split at hc'
      · exact storeN_snd hE ho h hc' ha hx rec
      · exact store1_snd hE ho h hc' ha hx rec
    · cases hc'
  case nilCheck x => exact nil_snd ho hc (hok x (by simp [Op.operands])) rec
  case binOp op t x y u => exact binOp_snd hE ho hc (hok x (by simp [Op.operands])) (hok y (by simp [Op.operands])) rec
  case unOp op t x => exact unOp_snd ho hc (hok x (by simp [Op.operands])) rec
  case convert a b x => exact convert_snd hE ho hc (hok x (by simp [Op.operands])) rec
  case sliceToArrayPointer t x =>
    have hc' : (match E.ty t with | some ⟨_, _, _, .arr n _⟩ => c1 x (kS2a n) | _ => none) = some ⟨f⟩ := hc
    split at hc'
    · rename_i h; exact s2a_snd ho (hE.ty _ _ h).kind hc' (hok x (by simp [Op.operands])) rec
    · cases hc'
  case makeFunc g a b => exact makeFunc_snd ho hc (fun x hx => hok x (by simp [Op.operands, hx])) (fun x hx => hok x (by simp [Op.operands, hx])) rec
  case makeSlice t l c =>
    have hc' : (match elemA E t with | some (e, ⟨z, _, zero, _⟩) => c2 l c (kMakeSlice e z zero) | none => none) = some ⟨f⟩ := hc
    split at hc'
    · rename_i e z g zero kd h
      unfold elemA at h
      split at h
      · rename_i h1
        split at h
        · rename_i h2
          cases h
          exact makeSlice_snd ho (hE.ty _ _ h1).kind (hE.ty _ _ h2) hc' (hok l (by simp [Op.operands])) (hok c (by simp [Op.operands])) rec
        · cases h
      · cases h
    · cases hc'
  case range t x =>
    have hc' : (match isStrT E t with | true => c1 x kRange | false => none) = some ⟨f⟩ := hc
    split at hc'
    · rename_i h
      unfold isStrT at h
      split at h
      · rename_i h1; exact range_snd' ho (hE.ty _ _ h1).kind hc' (hok x (by simp [Op.operands])) rec
      · cases h
    · cases hc'
  case next x b =>
    have hc' : (match b with | true => c1 x kNext | false => none) = some ⟨f⟩ := hc
    split at hc'
    · exact next_snd ho hc' (hok x (by simp [Op.operands])) rec
    · cases hc'
  case extract t i => exact extract_snd ho hc (hok t (by simp [Op.operands])) rec
  all_goals first | (exact absurd trivial hn) | (cases hc; done)
end Go.Ev
/- The operations put together: parts, places, maps. -/
namespace Go.Ev
variable {P : Program} {E : Env}

theorem nth_get {α : Type} : ∀ (l : List α) (i : Nat), nth l i = l[i]?
  | [], i => by cases i <;> rfl
  | _ :: _, 0 => rfl
  | _ :: l, i + 1 => nth_get l i
theorem fieldOf_inv (hE : EnvOk P E) {t i off ft : Nat} (h : fieldOf E t i = some (off, ft)) : ∃ (fields : Array Field) (fd : Field), P.underlying t = some (.struct fields) ∧ fields[i]? = some fd ∧ fd.offset = off ∧ fd.type = ft := by
  unfold fieldOf at h
  split at h
  · rename_i fs hty
    obtain ⟨fields, hu, hfs⟩ := (hE.ty _ _ hty).kind
    rw [nth_get, hfs, List.getElem?_map] at h
    cases hg : fields.toList[i]? with
    | none => rw [hg] at h; cases h
    | some fd =>
      rw [hg] at h
      simp only [Option.map_some, Option.some.injEq, Prod.mk.injEq] at h
      exact ⟨fields, fd, hu, by simpa using hg, h.1, h.2⟩
  · cases h

def Calls : Op → Prop
  | .slice .. | .call .. => True
  | _ => False

theorem hops_parts (hE : EnvOk P E) {ro : Option Nat} {rec : Rec} {o : Oper} {c : OpC} (hc : opX E o.op = some c) (hn : ¬ Calls o.op) : OpSnd P ro o (c.f rec) := by
  by_cases hp : Other o.op
  rotate_left
  · exact hops_plain hE hc hp
  have hok := opX_ok hE hc
  have hc := opX_inv hc
  generalize ho : o.op = op at hok hc hn hp
  cases op
  case field t x i =>
    have hc' : cField E t x i = some c := hc
    unfold cField at hc'
    split at hc'
    · rename_i off ft hf
      split at hc'
      · rename_i n g _ _ hty
        obtain ⟨fields, fd, hu, hfd, ho', ht⟩ := fieldOf_inv hE hf
        subst ht
        obtain ⟨f⟩ := c
        exact field_snd ho hu hfd ho' (hE.ty _ _ hty) hc' (hok x (by simp [Op.operands])) rec
      · cases hc'
    · cases hc'
  case fieldAddr t x i =>
    have hc' : (match fieldOf E t i with | some (o, ft) => (match hasCells E ft with | true => c1 x (kFieldAddr o) | false => none) | none => none) = some c := hc
    split at hc'
    · rename_i off ft hf
      split at hc'
      · rename_i hh
        obtain ⟨fields, fd, hu, hfd, ho', ht⟩ := fieldOf_inv hE hf
        subst ht
        obtain ⟨f⟩ := c
        unfold hasCells at hh
        split at hh
        · rename_i n _ _ _ hty
          have h1 : 1 ≤ n := Nat.le_of_ble_eq_true hh
          refine fieldAddr_snd ho hu hfd ho' (fun w => ⟨n - 1, ?_⟩) hc' (hok x (by simp [Op.operands])) rec
          rw [Nat.sub_add_cancel h1]
          exact (hE.ty _ _ hty).size w
        · cases hh
      · cases hc'
    · cases hc'
  case indexAddr t x i =>
    have hc' : cIndexAddr E t x i = some c := hc
    obtain ⟨f⟩ := c
    have hx := hok x (by simp [Op.operands])
    have hi := hok i (by simp [Op.operands])
    unfold cIndexAddr at hc'
    split at hc'
    · rename_i hty
      split at hc'
      · rename_i hte; exact indexAddrA_snd ho (hE.ty _ _ hty).kind (hE.ty _ _ hte) hc' hx hi rec
      · cases hc'
    · rename_i hty
      split at hc'
      · rename_i hte
        split at hc'
        · rename_i hpos; exact indexAddrS_snd ho (hE.ty _ _ hty).kind (hE.ty _ _ hte) hc' hx hi rec (Nat.le_of_ble_eq_true hpos)
        · cases hc'
      · cases hc'
    · cases hc'
  case index t x i =>
    have hc' : cIndex E t x i = some c := hc
    obtain ⟨f⟩ := c
    have hx := hok x (by simp [Op.operands])
    have hi := hok i (by simp [Op.operands])
    unfold cIndex at hc'
    split at hc'
    · rename_i hty
      split at hc'
      · rename_i hte; exact indexA_snd ho (hE.ty _ _ hty).kind (hE.ty _ _ hte) hc' hx hi rec
      · cases hc'
    · rename_i hty
      exact indexT_snd ho (hE.ty _ _ hty).kind hc' hx hi rec
    · cases hc'
  case lookup t x i ok =>
    have hc' : cLookup E t x i ok = some c := hc
    have hx := hok x (by simp [Op.operands])
    have hi := hok i (by simp [Op.operands])
    unfold cLookup at hc'
    split at hc'
    · rename_i hty
      split at hc'
      · rename_i hk
        split at hc'
        · rename_i hte
          split at hc'
          · rename_i hz
            exact lookup_snd ho (hE.ty _ _ hty).kind (hE.ty _ _ hk).kind.2 (hE.ty _ _ hte) hz hc' hx hi rec
          · cases hc'
        · cases hc'
      · cases hc'
    · cases hc'
  case mapUpdate t m i x =>
    have hc' : cUpdate E t m i x = some c := hc
    unfold cUpdate at hc'
    split at hc'
    · rename_i hty
      split at hc'
      · rename_i hk
        exact update_snd ho (hE.ty _ _ hty).kind (hE.ty _ _ hk).kind.2 hc' (hok m (by simp [Op.operands])) (hok i (by simp [Op.operands])) (hok x (by simp [Op.operands])) rec
      · cases hc'
    · cases hc'
  case makeMap t r =>
    have hc' : (match isMapT E t with | true => (match accO r with | some ⟨f⟩ => some (⟨fun _ T s K => f T (fun v => kMap v s K)⟩ : OpC) | none => none) | false => none) = some c := hc
    split at hc'
    · rename_i hm
      split at hc'
      · rename_i f hf
        cases hc'
        unfold isMapT at hm
        split at hm
        · rename_i hty
          exact makeMap_snd ho hf (fun y hy => hok y (by simp [Op.operands, hy])) (fun _ => ⟨_, _, (hE.ty _ _ hty).kind⟩)
        · cases hm
      · cases hc'
    · cases hc'
  all_goals first | (exact absurd trivial hn) | (exact hp.elim)
end Go.Ev
/- The operations put together: calls. -/
namespace Go.Ev
variable {P : Program} {E : Env}

theorem builtin_snd (hE : EnvOk P E) {ro : Option Nat} {rec : Rec} {o : Oper} {b : Builtin} {args : Array Operand} {ts : Array TypeId} (ho : o.op = .call ⟨.builtin b, args, ts⟩) {c : OpC} (hc : builtinC E b ts.toList args.toList = some c)
    (ha : ∀ x ∈ args, OpOk P x) : OpSnd P ro o (c.f rec) := by
  obtain ⟨args⟩ := args
  obtain ⟨ts⟩ := ts
  have ha : ∀ x ∈ args, OpOk P x := fun x hx => ha x (by simpa using hx)
  unfold builtinC at hc
  match args, ts, ho, hc, ha with
  | [x], t :: l, ho, hc, ha =>
    have hx := ha x (by simp)
    simp only [] at hc
    cases b <;> simp only [] at hc <;> try (cases hc; done)
    case clear =>
      split at hc
      · rename_i hty
        split at hc
        · rename_i hte
          split at hc
          · rename_i hpos; exact clear_snd ho (hE.ty _ _ hty).kind (hE.ty _ _ hte) (Nat.le_of_ble_eq_true hpos) hc hx rec
          · cases hc
        · cases hc
      · rename_i hty; exact clearM_snd ho (hE.ty _ _ hty).kind hc hx rec
      · cases hc
    case len =>
      split at hc
      · rename_i hty
        split at hc
        · rename_i hn; cases hc; exact lenArr_snd ho (hE.ty _ _ hty).kind (Nat.le_of_ble_eq_true hn)
        · cases hc
      · rename_i hty; exact lenM_snd ho (hE.ty _ _ hty).kind hc hx rec
      · rename_i hty; exact lenL_snd ho (hE.ty _ _ hty).kind hc hx rec
      · rename_i hty; exact lenS_snd ho (hE.ty _ _ hty).kind hc hx rec
      · cases hc
  | [a, x], t :: l, ho, hc, ha =>
    have ha' := ha a (by simp)
    have hx := ha x (by simp)
    simp only [] at hc
    cases b <;> simp only [] at hc <;> try (cases hc; done)
    case append =>
      split at hc
      · rename_i e hty
        split at hc
        · rename_i z g zero kd hte
          split at hc
          · rename_i hw
            rw [wh_iff] at hw
            match l, hw.2, ho with
            | [t2], hn, ho =>
              have h2 : (∃ e', P.underlying t2 = some (.slice e')) ∨ P.underlying t2 = some .string := by
                unfold notInt at hn
                simp only [] at hn
                split at hn
                · rename_i h; exact .inl ⟨_, (hE.ty _ _ h).kind⟩
                · rename_i h; exact .inr (hE.ty _ _ h).kind
                · cases hn
              exact append_snd ⟨(hE.ty _ _ hty).kind, h2, hE.ty _ _ hte, Nat.le_of_ble_eq_true hw.1⟩ ho hc ha' hx rec
            | [], hn, _ => cases hn
            | _ :: _ :: _, hn, _ => cases hn
          · cases hc
        · cases hc
      · cases hc
    case copy =>
      split at hc
      · rename_i hty
        split at hc
        · rename_i hte
          split at hc
          · rename_i hpos; exact copy_snd ho (hE.ty _ _ hty).kind (hE.ty _ _ hte) (Nat.le_of_ble_eq_true hpos) hc ha' hx rec
          · cases hc
        · cases hc
      · cases hc
    case delete =>
      split at hc
      · rename_i hty
        split at hc
        · rename_i hk; exact delete_snd ho (hE.ty _ _ hty).kind (hE.ty _ _ hk).kind.2 hc ha' hx rec
        · cases hc
      · cases hc
    case max =>
      split at hc
      · rename_i hty; exact max_snd (hE.ty _ _ hty).kind.1 ho hc ha' hx rec
      · cases hc
    case min =>
      split at hc
      · rename_i hty; exact min_snd (hE.ty _ _ hty).kind.1 ho hc ha' hx rec
      · cases hc
  | [], _, _, hc, _ => cases hc
  | [_], [], _, hc, _ => cases hc
  | [_, _], [], _, hc, _ => cases hc
  | _ :: _ :: _ :: _, _, _, hc, _ => cases hc
end Go.Ev
/- The operations put together: slices; all of them. -/
namespace Go.Ev
variable {P : Program} {E : Env}

theorem slice_snd' {ro : Option Nat} {o : Oper} {t : TypeId} {x : Operand} {lo hi mx : Option Operand} {fx : Tm → (V → Bool) → Bool} {fl fh fm : Tm → (Option V → Bool) → Bool}
    {g : V → Option V → Option V → Option V → St → KV → Bool} (ho : o.op = .slice t x lo hi mx) (hx : acc x = some ⟨fx⟩) (hl : accO lo = some ⟨fl⟩) (hh : accO hi = some ⟨fh⟩) (hm : accO mx = some ⟨fm⟩)
    (gx : OpOk P x) (gl : ∀ y, lo = some y → OpOk P y) (gh : ∀ y, hi = some y → OpOk P y) (gm : ∀ y, mx = some y → OpOk P y)
    (hk : ∀ v l h m s K, (m.isSome = true → h.isSome = true) → g v l h m s K = true → (∃ G, Wf s G) → ∃ r s', K r s' = true ∧ Snd P (SlComp P ro t v l h m) (ValQ r) s s') (hmax : maxOk hi mx = true) :
    OpSnd P ro o (fun T s K => fx T (fun v => fl T (fun lo => fh T (fun hi => fm T (fun mx => g v lo hi mx s K))))) := by
  intro F s K h hw
  obtain ⟨v, h1, d1⟩ := acc_snd hx h gx
  obtain ⟨l, h2, d2⟩ := accO_snd hl h1 gl
  obtain ⟨hv, h3, d3⟩ := accO_snd hh h2 gh
  obtain ⟨m, h4, d4⟩ := accO_snd hm h3 gm
  have hmh : m.isSome = true → hv.isSome = true := fun hs => by
    rcases d4 with ⟨_, e⟩ | ⟨y, u, e1, e2, _⟩
    · subst e; cases hs
    · subst e1
      rcases d3 with ⟨e, _⟩ | ⟨y', u', _, e, _⟩
      · subst e; cases hmax
      · subst e; rfl
  obtain ⟨r, s', hr, hs⟩ := hk v l hv m s K hmh h4 hw
  refine ⟨r, s', hr, hs.weak SlComp.mono (fun D R w K hh tmps hsl hg => ?_) fun _ _ _ h => h⟩
  have key : ∀ (q : Option Operand) (ov : Option V), ((q = none ∧ ov = none) ∨ ∃ y v, q = some y ∧ ov = some v ∧ ∀ D R tmps, Slots D R F tmps → Glob P D R → Den D R v (evalT tmps y)) →
      (∀ u, ov = some u → ∃ y, q.map (evalT tmps) = some y ∧ Den D R u y) ∧ (ov = none → q.map (evalT tmps) = none) := by
    rintro q ov (⟨rfl, rfl⟩ | ⟨y, v, rfl, rfl, hd⟩)
    · exact ⟨fun u hu => (by cases hu), fun _ => rfl⟩
    · refine ⟨fun u hu => ?_, fun hu => (by cases hu)⟩
      cases hu
      exact ⟨_, rfl, hd D R tmps hsl hg⟩
  have k1 := key _ _ d2
  have k2 := key _ _ d3
  have k3 := key _ _ d4
  have := hh _ _ _ _ (d1 D R tmps hsl hg) k1.1 k1.2 k2.1 k2.2 k3.1 k3.2
  unfold Does
  rw [Oper.semAt_eq _ _ _ (by rw [ho]; simp)]
  simp only [execOp, ho]
  exact this

theorem sliceOp_snd (hE : EnvOk P E) {ro : Option Nat} {rec : Rec} {o : Oper} {t : TypeId} {x : Operand} {lo hi mx : Option Operand} (ho : o.op = .slice t x lo hi mx) {c : OpC} (hc : cSlice E t x lo hi mx = some c)
    (gx : OpOk P x) (gl : ∀ y, lo = some y → OpOk P y) (gh : ∀ y, hi = some y → OpOk P y) (gm : ∀ y, mx = some y → OpOk P y) : OpSnd P ro o (c.f rec) := by
  unfold cSlice at hc
  split at hc
  · rename_i hmax
    split at hc
    · rename_i y hty
      split at hc
      · rename_i g hg
        split at hc
        · rename_i fx hfx
          split at hc
          · rename_i fl hfl
            split at hc
            · rename_i fh hfh
              split at hc
              · rename_i fm hfm
                cases hc
                have hT := (hE.ty _ _ hty).kind
                refine slice_snd' ho hfx hfl hfh hfm gx gl gh gm (fun v l h m s K hmh hk hw => ?_) hmax
                unfold slC at hg
                split at hg
                · cases hg
                  cases m with
                  | none => exact slStr_snd hT v l h s K hk
                  | some _ => cases hk
                · split at hg
                  · rename_i hte
                    split at hg
                    · rename_i hpos
                      cases hg
                      exact slSlice_snd hT (hE.ty _ _ hte) (Nat.le_of_ble_eq_true hpos) v l h m hmh s K hw hk
                    · cases hg
                  · cases hg
                · split at hg
                  · rename_i hte
                    cases hg
                    exact slArr_snd hT (hE.ty _ _ hte) v l h m hmh s K hk
                  · cases hg
                · cases hg
              · cases hc
            · cases hc
          · cases hc
        · cases hc
      · cases hc
    · cases hc
  · cases hc

/-- a byte that is looked for -/
theorem idxN_eq (n d c : Nat) (hc : c < 256) : ∀ k, (match (List.range' k (n - k)).find? fun i => (textOf n d)[i]! == c.toUInt8 with | some i => (i : Int) | none => -1) = (if idxN d c (List.range' k (n - k)) = 18446744073709551615 then (-1 : Int) else (idxN d c (List.range' k (n - k)) : Nat)) ∨ 18446744073709551615 ≤ n := by
  intro k
  by_cases hbig : 18446744073709551615 ≤ n
  · exact .inr hbig
  left
  induction hm : n - k generalizing k with
  | zero => simp [idxN]
  | succ m ih =>
    have hk : k < n := by omega
    rw [List.range'_succ, List.find?_cons]
    have hget : (textOf n d)[k]! = UInt8.ofNat (byteAt d k) := by
      have h1 := text_get n d k hk
      have hsz : k < (textOf n d).size := by rw [text_size]; exact hk
      rw [getElem?_pos (textOf n d) k hsz] at h1
      rw [getElem!_pos (textOf n d) k hsz]
      exact Option.some.inj h1
    have hb : byteAt d k < 256 := by
      show Nat.land _ 255 < 256
      exact Nat.lt_succ_of_le Nat.and_le_right
    have hiff : ((textOf n d)[k]! == c.toUInt8) = Nat.beq (byteAt d k) c := by
      rw [hget]
      by_cases e : byteAt d k = c
      · rw [e, Nat.beq_refl]; simp
      · have : Nat.beq (byteAt d k) c = false := by
          cases hq : Nat.beq (byteAt d k) c with
          | true => exact (e (Nat.eq_of_beq_eq_true hq)).elim
          | false => rfl
        rw [this]
        refine beq_eq_false_iff_ne.2 fun he => e ?_
        have := congrArg UInt8.toNat he
        simp only [UInt8.toNat_ofNat', Nat.toUInt8] at this
        rw [Nat.mod_eq_of_lt hb, Nat.mod_eq_of_lt hc] at this
        exact this
    rw [hiff]
    have hstep : idxN d c (k :: List.range' (k + 1) m) = ifN (Nat.beq (byteAt d k) c) k (idxN d c (List.range' (k + 1) m)) := rfl
    rw [hstep]
    cases hq : Nat.beq (byteAt d k) c with
    | true =>
      show (k : Int) = if k = 18446744073709551615 then (-1 : Int) else (k : Nat)
      rw [if_neg (by omega)]
    | false =>
      have := ih (k + 1) (by omega)
      have e : n - (k + 1) = m := by omega
      exact this
theorem ix_snd (hE : EnvOk P E) {o : Oper} {cl : Call} (ho : o.op = .call cl) {c : OpC} (hf : ixC E cl = some c) (hx : ∀ x ∈ cl.operands, OpOk P x) {rec : Rec} : OpSnd P none o (c.f rec) := by
  unfold ixC at hf
  split at hf
  · cases hf
  rename_i i hi
  obtain ⟨callee, args, ts⟩ := cl
  simp only at hf
  split at hf
  · rename_i f
    split at hf
    · rename_i hfi
      split at hf
      · rename_i ga hga
        cases hf
        intro F s K h hw
        obtain ⟨vs, h2, hl2, hd2⟩ := accL_snd (P := P) hga h (fun x hx' => hx x (by simp only [Call.operands]; simp; exact .inr (by simpa using hx')))
        have hfe : f = .func i := by
          unfold isFunc at hfi
          split at hfi
          · rw [Nat.eq_of_beq_eq_true hfi]
          · cases hfi
        subst hfe
        match vs, h2, hl2 with
        | [x, y], h2, hl2 =>
          obtain ⟨t, n, d, b1, b2, b3⟩ := x
          obtain ⟨u, cc, b4, b5, b6, b7⟩ := y
          have h3 : wh (Nat.beq t 3) (wh (lt n 4294967296) (wh (Nat.beq u 33) (wh (lt cc 256) (K (.mk 38 (idxN d cc (List.range n)) 0 0 0 []) s)))) = true := h2
          clear h h2
          rw [wh_iff, wh_iff, wh_iff, wh_iff, lt_iff, lt_iff] at h3
          obtain ⟨h4, h5, h6, h7, h8⟩ := h3
          have h4 := Nat.eq_of_beq_eq_true h4
          have h6 := Nat.eq_of_beq_eq_true h6
          subst h4 h6
          refine ⟨_, s, h8, Snd.pure (fun D R w tmps hsl hg => ?_) OpDoes.mono⟩
          have e2 := hd2 D R tmps hsl hg R (Agr.refl _ _)
          simp only [denL] at e2
          have ev1 : den R (.mk 3 n d b1 b2 b3) = .string (textOf n d) := by simp only [den]
          have ev2 : den R (.mk 33 cc b4 b5 b6 b7) = .int .u8 cc := by
            rw [show (V.mk 33 cc b4 b5 b6 b7) = .mk (1 + 32) cc b4 b5 b6 b7 from rfl, den_int]
            have := wrap_ext 1 cc (by omega) (by simp [kindOf, IntKind.bits]; omega)
            rw [this]
            have hs : signN 1 = 0 := rfl
            rw [hs]
            show Value.int .u8 (if Nat.land cc 0 = 0 then _ else _) = _
            rw [if_pos (by show cc &&& 0 = 0; exact Nat.and_zero cc)]
          rw [ev1, ev2] at e2
          have hargs : args.map (evalT tmps) = #[.string (textOf n d), .int .u8 cc] := by
            apply Array.ext'
            rw [Array.toList_map, ← e2]
          refine does_value (v := .int .i64 (firstIdx (textOf n d) (cc : Int).toNat.toUInt8)) (w' := w) (by rw [ho]; simp) ?_ ⟨rfl, fun R' _ => ?_⟩
          · have hres : resolve (evalT tmps) ⟨.value (.func i), args, ts⟩ o.type = Deferred.ofValue (evalT tmps (.func i)) (args.map (evalT tmps)) := rfl
            simp only [execOp, ho, hres, evalT, Deferred.ofValue, Sem.run_bind, Sem.run_pure, Result.andThen]
            have := hE.ix i hi (textOf n d) cc w
            rw [← hargs] at this
            show (callFunc i _).run P w = _
            rw [← this]
            congr 2
            apply Array.ext'
            simp
          · have hq := idxN_eq n d cc h7 0
            rw [Nat.sub_zero, ← List.range_eq_range'] at hq
            have hq := hq.resolve_right (by omega)
            have hfi : firstIdx (textOf n d) (cc : Int).toNat.toUInt8 = if idxN d cc (List.range n) = 18446744073709551615 then (-1 : Int) else (idxN d cc (List.range n) : Nat) := by
              rw [← hq]
              unfold firstIdx
              rw [text_size]
              rfl
            rw [hfi, show (V.mk 38 (idxN d cc (List.range n)) 0 0 0 []) = .mk (6 + 32) (idxN d cc (List.range n)) 0 0 0 [] from rfl, den_int]
            show Value.int .i64 _ = _
            congr 1
            have hle : ∀ l : List Nat, (∀ x ∈ l, x < 4294967296) → idxN d cc l = 18446744073709551615 ∨ idxN d cc l < 4294967296 := by
              intro l
              induction l with
              | nil => intro _; exact .inl rfl
              | cons a l ih =>
                intro hl
                have hstep : idxN d cc (a :: l) = ifN (Nat.beq (byteAt d a) cc) a (idxN d cc l) := rfl
                rw [hstep]
                cases Nat.beq (byteAt d a) cc with
                | true => exact .inr (hl a (by simp))
                | false => exact ih fun x hx => hl x (by simp [hx])
            rcases hle (List.range n) (fun x hx => by have := List.mem_range.1 hx; omega) with e | e
            · rw [e, if_pos rfl]
              decide
            · rw [if_neg (by omega)]
              have := wrap_small (idxN d cc (List.range n)) (by omega)
              exact this
        | [], h2, _ => cases h2
        | [_], h2, _ => cases h2
        | _ :: _ :: _ :: _, h2, _ => cases h2
      · cases hf
    · cases hf
  · cases hf
/-- EVERY OPERATION -/
theorem hops (hE : EnvOk P E) {rec : Rec} (hr : RecSnd P rec) (o : Oper) (c : OpC) (hc : opX E o.op = some c) : OpSnd P none o (c.f rec) := by
  by_cases hp : Calls o.op
  rotate_left
  · exact hops_parts hE hc hp
  have hok := opX_ok hE hc
  have hc := opX_inv hc
  generalize ho : o.op = op at hok hc hp
  cases op <;> first | (exact hp.elim) | skip
  case slice t x lo hi mx =>
    have hc' : cSlice E t x lo hi mx = some c := hc
    exact sliceOp_snd hE ho hc' (hok x (by simp [Op.operands])) (fun y hy => hok y (by simp [Op.operands, hy])) (fun y hy => hok y (by simp [Op.operands, hy])) (fun y hy => hok y (by simp [Op.operands, hy]))
  case call cl =>
    have hc0 : callX E cl = some c := hc
    unfold callX at hc0
    split at hc0
    · rename_i hix
      cases hc0
      exact ix_snd hE ho hix (fun x hx => hok x (by simpa [Op.operands] using hx))
    have hc' : callC E cl = some c := hc0
    obtain ⟨callee, args, ts⟩ := cl
    cases callee with
    | builtin b => exact builtin_snd hE ho hc' (fun x hx => hok x (by simp [Op.operands, Call.operands, hx]))
    | value g => exact callValue_snd ho hc' (hok g (by simp [Op.operands, Call.operands])) (fun x hx => hok x (by simp [Op.operands, Call.operands, hx])) hr
    | _ => unfold callC at hc'; cases hc'

/-- THE RECKONER IS RIGHT -/
theorem reckoner (hE : EnvOk P E) : ∀ n, RecSnd P (ev E n) := ev_snd hE fun _ hr o c hc => hops hE hr o c hc
end Go.Ev
/- Calls that were reckoned by themselves, each from a memory of its own, and used again where they are met. -/
namespace Go.Ev
noncomputable section
variable (E : Env)

def eqV (x : V) : V → Bool :=
  V.rec (motive_1 := fun _ => V → Bool) (motive_2 := fun _ => List V → Bool)
    (fun t a b c d _ ih y => vB y (fun u e f g h m => wh (Nat.beq t u) (wh (Nat.beq a e) (wh (Nat.beq b f) (wh (Nat.beq c g) (wh (Nat.beq d h) (ih m)))))))
    (fun m => List.rec (motive := fun _ => Bool) true (fun _ _ _ => false) m)
    (fun _ _ ihx ihl m => List.rec (motive := fun _ => Bool) false (fun y m _ => wh (ihx y) (ihl m)) m) x
def eqL (l : List V) : List V → Bool :=
  List.rec (motive := fun _ => List V → Bool) (fun m => List.rec (motive := fun _ => Bool) true (fun _ _ _ => false) m)
    (fun x _ ih m => List.rec (motive := fun _ => Bool) false (fun y m _ => wh (eqV x y) (ih m)) m) l
/-- a block that is told: a row, a map, or a table of rows, of which those are told that are not d -/
inductive LB where
  | row (el op : Nat) (cs : List V)
  | mp (es : List V) (clock : Nat)
  | tab (el z n : Nat) (d : List V) (l : List (Nat × List V))
def tabF (d : List V) (l : List (Nat × List V)) (i : Nat) : List V :=
  List.rec (motive := fun _ => List V) d (fun p _ ih => ifL (Nat.beq p.1 i) p.2 ih) l
def hbOf (x : LB) : HB :=
  LB.rec (motive := fun _ => HB) (fun el op cs => .row el op cs) (fun es c => .mp es c) (fun el z n d l => .tab el z n (mk4 (tabF d l))) x
def eqT (t u : T4 (List V)) (n : Nat) : Bool :=
  Nat.rec (motive := fun _ => Bool) true (fun i ih => get4 i t (fun a => get4 i u (fun b => wh (eqL a b) ih))) n
def tabB (b : HB) (k : Nat → Nat → Nat → T4 (List V) → Bool) : Bool :=
  HB.rec (motive := fun _ => Bool) false (fun _ _ _ => false) (fun _ _ => false) (fun _ _ _ _ _ _ _ _ _ => false) false (fun _ _ _ => false) k b
def eqB (x : LB) (b : HB) : Bool :=
  LB.rec (motive := fun _ => Bool)
    (fun el op cs => rowB b (fun el' op' cs' => wh (Nat.beq el el') (wh (Nat.beq op op') (eqL cs cs'))))
    (fun es c => mapB b (fun es' c' => wh (Nat.beq c c') (eqL es es')))
    (fun el z n d l => tabB b (fun el' z' n' t => wh (Nat.beq el el') (wh (Nat.beq z z') (wh (Nat.beq n n') (eqT (mk4 (tabF d l)) t n))))) x
def okB (x : LB) : Bool := LB.rec (motive := fun _ => Bool) (fun _ _ _ => true) (fun _ _ => true) (fun _ _ n _ _ => Nat.ble n 65536) x

/-- a call that was reckoned: from a memory in which those blocks lie, and what came of it -/
structure Memo where
  f : Nat
  args : List V
  nx : Nat
  ro : List (Nat × LB)
  pre : List (Nat × LB)
  v : V
  nx' : Nat
  post : List (Nat × LB)

def layAll (l : List (Nat × LB)) : T4 HB → (T4 HB → Bool) → Bool :=
  List.rec (motive := fun _ => T4 HB → (T4 HB → Bool) → Bool) (fun t k => k t) (fun p _ ih t k => put4 p.1 (hbOf p.2) t (fun t => ih t k)) l
def killAll (l : List (Nat × LB)) : T4 HB → (T4 HB → Bool) → Bool :=
  List.rec (motive := fun _ => T4 HB → (T4 HB → Bool) → Bool) (fun t k => k t) (fun p _ ih t k => put4 p.1 .dead t (fun t => ih t k)) l
def areAll (l : List (Nat × LB)) (t : T4 HB) (k : Bool) : Bool :=
  List.rec (motive := fun _ => Bool) k (fun p _ ih => get4 p.1 t (fun b => wh (eqB p.2 b) ih)) l
def allIn (l : List (Nat × LB)) (n : Nat) : Bool :=
  List.rec (motive := fun _ => Bool) true (fun p _ ih => wh (Nat.ble (Nat.add p.1 1) n) (wh (okB p.2) ih)) l
def marks (l : List (Nat × LB)) : Nat := List.rec (motive := fun _ => Nat) 0 (fun p _ ih => Nat.lor (mask p.1) ih) l

/-- none of them was written -/
def keptB (l : List (Nat × LB)) (w : Nat) : Bool := List.rec (motive := fun _ => Bool) true (fun p _ ih => wh (notB (bit w p.1)) ih) l
def pieceEnd (v0 : V) (nx' : Nat) (ro post : List (Nat × LB)) (v : V) (s : St) : Bool :=
  St.rec (motive := fun _ => Bool) (fun h nx _ w => wh (eqV v0 v) (wh (Nat.beq nx nx') (wh (keptB ro w) (areAll post h true)))) s
def piece (rec : Rec) (m : Memo) : Bool :=
  match m with
  | ⟨f, args, nx, ro, pre, v, nx', post⟩ => wh (Nat.ble nx 65536) (wh (allIn (ro ++ pre) nx) (wh (allIn post nx') (wh (keptB ro (marks post)) (layAll (ro ++ pre) (all4 .dead) (fun h => rec true f args ⟨h, nx, 0, 0⟩ (pieceEnd v nx' ro post))))))
def useM (m : Memo) (args : List V) (s : St) (K : KV) : Bool :=
  match m with
  | ⟨_, xs, nx0, ro, pre, v, nx', post⟩ => St.rec (motive := fun _ => Bool) (fun h nx r w => wh (Nat.beq nx nx0) (wh (eqL xs args) (areAll (ro ++ pre) h (killAll pre h (fun h => layAll post h (fun h => K v ⟨h, nx', Nat.lor r (marks (ro ++ pre)), Nat.lor w (marks pre)⟩)))))) s
def isM (m : Memo) (f : Nat) (s : St) : Bool := match m with | ⟨g, _, nx0, _, _, _, _, _⟩ => St.rec (motive := fun _ => Bool) (fun _ nx _ _ => wh (Nat.beq f g) (Nat.beq nx nx0)) s
def findM (ms : List Memo) (f : Nat) (args : List V) (s : St) (K : KV) (d : Bool) : Bool :=
  List.rec (motive := fun _ => Bool) d (fun m _ ih => ifB (isM m f s) (useM m args s K) ih) ms
def stepM (ms : List Memo) (rec : Rec) (b : Bool) (f : Nat) (args : List V) (s : St) (K : KV) : Bool :=
  ifB b (findM ms f args s K (tCall E rec f args s K)) (tRound E rec f args s K)
def evM (ms : List Memo) (n : Nat) : Rec := Nat.rec (motive := fun _ => Rec) (fun _ _ _ _ _ => false) (fun _ ih => stepM E ms ih) n
end

theorem eqV_eq (x : V) : ∀ y, eqV x y = true → x = y := by
  refine V.rec (motive_1 := fun x => ∀ y, eqV x y = true → x = y)
    (motive_2 := fun l => (∀ m, (V.rec (motive_1 := fun _ => V → Bool) (motive_2 := fun _ => List V → Bool)
    (fun t a b c d _ ih y => vB y (fun u e f g h m => wh (Nat.beq t u) (wh (Nat.beq a e) (wh (Nat.beq b f) (wh (Nat.beq c g) (wh (Nat.beq d h) (ih m)))))))
    (fun m => List.rec (motive := fun _ => Bool) true (fun _ _ _ => false) m)
    (fun _ _ ihx ihl m => List.rec (motive := fun _ => Bool) false (fun y m _ => wh (ihx y) (ihl m)) m) (.mk 0 0 0 0 0 l) : V → Bool) (.mk 0 0 0 0 0 m) = true → l = m)) ?_ ?_ ?_ x
  · intro t a b c d l ih y h
    obtain ⟨u, e, f, g, i, m⟩ := y
    have h' : wh (Nat.beq t u) (wh (Nat.beq a e) (wh (Nat.beq b f) (wh (Nat.beq c g) (wh (Nat.beq d i) _)))) = true := h
    simp only [wh_iff] at h'
    obtain ⟨h1, h2, h3, h4, h5, h6⟩ := h'
    have := ih m h6
    rw [Nat.eq_of_beq_eq_true h1, Nat.eq_of_beq_eq_true h2, Nat.eq_of_beq_eq_true h3, Nat.eq_of_beq_eq_true h4, Nat.eq_of_beq_eq_true h5, this]
  · intro m h
    cases m with
    | nil => rfl
    | cons _ _ => cases h
  · intro x l ihx ihl m h
    cases m with
    | nil => cases h
    | cons y m =>
      have h' : wh (eqV x y) _ = true := h
      rw [wh_iff] at h'
      rw [ihx y h'.1, ihl m h'.2]

theorem eqL_eq (l : List V) : ∀ m, eqL l m = true → l = m := by
  induction l with
  | nil =>
    intro m h
    cases m with
    | nil => rfl
    | cons _ _ => cases h
  | cons x l ih =>
    intro m h
    cases m with
    | nil => cases h
    | cons y m =>
      have h' : wh (eqV x y) (eqL l m) = true := h
      rw [wh_iff] at h'
      rw [eqV_eq x y h'.1, ih m h'.2]
theorem mk4_injA {α : Type} {F F' : Nat → α} (h : mk4 F = mk4 F') (i : Nat) (hi : i < 65536) : F i = F' i := by
  by_cases hd : F i = F' i
  · exact hd
  · exfalso
    have e1 : ∀ K : α → Bool, K (F i) = K (F' i) := fun K => by rw [← get4_mk F K i hi, ← get4_mk F' K i hi, h]
    have := e1 (fun x => @decide (x = F' i) (Classical.propDecidable _))
    simp [hd] at this
theorem eqT_eq {F F' : Nat → List V} : ∀ n, n ≤ 65536 → eqT (mk4 F) (mk4 F') n = true → ∀ i, i < n → F i = F' i := by
  intro n
  induction n with
  | zero => intro _ _ i hi; omega
  | succ n ih =>
    intro hn h i hi
    have h' : get4 n (mk4 F) (fun a => get4 n (mk4 F') (fun b => wh (eqL a b) (eqT (mk4 F) (mk4 F') n))) = true := h
    rw [get4_mk _ _ _ (by omega), get4_mk _ _ _ (by omega), wh_iff] at h'
    by_cases e : i = n
    · rw [e]; exact eqL_eq _ _ h'.1
    · exact ih (by omega) h'.2 i (by omega)
/-- two blocks that stand for the same -/
def Alike (b b' : HB) : Prop := ∀ (P : Program) (D : Nat → Prop) (R : Ren) (id : Nat) (o : Option Obj), BRep P D R id b o ↔ BRep P D R id b' o
theorem Alike.refl (b : HB) : Alike b b := fun _ _ _ _ _ => Iff.rfl
theorem brep_tab (P : Program) {D : Nat → Prop} {R : Ren} {id el z n : Nat} {F F' : Nat → List V} {o : Option Obj} (he : ∀ i, i < n → F i = F' i) (h : BRep P D R id (.tab el z n (mk4 F)) o) : BRep P D R id (.tab el z n (mk4 F')) o := by
  obtain ⟨c, lo, hi, ho, hf, F2, X, h1, h2, h3, h4⟩ := h
  refine ⟨c, lo, hi, ho, hf, F', X, rfl, h2, fun i hi => ?_, h4⟩
  rw [← he i hi, mk4_injA h1 i (by omega)]
  exact h3 i hi
theorem eqB_eq {x : LB} {b : HB} (h : eqB x b = true) (hb : HBok b) : b ≠ .dead ∧ Alike (hbOf x) b := by
  cases x with
  | row el op cs =>
    cases b with
    | row el' op' cs' =>
      have h' : wh (Nat.beq el el') (wh (Nat.beq op op') (eqL cs cs')) = true := h
      rw [wh_iff, wh_iff] at h'
      rw [Nat.eq_of_beq_eq_true h'.1, Nat.eq_of_beq_eq_true h'.2.1, eqL_eq _ _ h'.2.2]
      exact ⟨by simp, Alike.refl _⟩
    | _ => cases h
  | mp es c =>
    cases b with
    | mp es' c' =>
      have h' : wh (Nat.beq c c') (eqL es es') = true := h
      rw [wh_iff] at h'
      rw [Nat.eq_of_beq_eq_true h'.1, eqL_eq _ _ h'.2]
      exact ⟨by simp, Alike.refl _⟩
    | _ => cases h
  | tab el z n d l =>
    cases b with
    | tab el' z' n' t =>
      have h' : wh (Nat.beq el el') (wh (Nat.beq z z') (wh (Nat.beq n n') (eqT (mk4 (tabF d l)) t n))) = true := h
      rw [wh_iff, wh_iff, wh_iff] at h'
      obtain ⟨h1, h2, h3, h4⟩ := h'
      obtain ⟨hn, F, rfl⟩ := hb
      rw [Nat.eq_of_beq_eq_true h1, Nat.eq_of_beq_eq_true h2]
      have h3 := Nat.eq_of_beq_eq_true h3
      subst h3
      have he := eqT_eq n hn h4
      exact ⟨by simp, fun P D R id o => ⟨brep_tab P he, brep_tab P fun i hi => (he i hi).symm⟩⟩
    | _ => cases h
theorem okB_eq {x : LB} (h : okB x = true) : hbOf x ≠ .dead ∧ HBok (hbOf x) := by
  cases x with
  | row el op cs => exact ⟨by simp [hbOf], trivial⟩
  | mp es c => exact ⟨by simp [hbOf], trivial⟩
  | tab el z n d l => exact ⟨by simp [hbOf], Nat.le_of_ble_eq_true h, _, rfl⟩

theorem in_marks {l : List (Nat × LB)} {p : Nat × LB} (h : p ∈ l) : In (marks l) p.1 := by
  induction l with
  | nil => cases h
  | cons q l ih =>
    show In (mask q.1 ||| marks l) p.1
    rcases List.mem_cons.1 h with e | e
    · rw [e]; exact in_or.2 (.inl (mask_in _))
    · exact in_or.2 (.inr (ih e))

/-! ### tables that are laid -/
noncomputable def lays : List (Nat × HB) → (Nat → HB) → Nat → HB
  | [], G => G
  | p :: l, G => lays l (upd G p.1 p.2)
theorem lays_or (l : List (Nat × HB)) : ∀ G i, (lays l G i = G i ∧ ∀ b, (i, b) ∉ l) ∨ ∃ b, (i, b) ∈ l ∧ lays l G i = b := by
  induction l with
  | nil => intro G i; exact .inl ⟨rfl, by simp⟩
  | cons p l ih =>
    intro G i
    rcases ih (upd G p.1 p.2) i with ⟨h1, h2⟩ | ⟨b, h1, h2⟩
    · by_cases e : i = p.1
      · refine .inr ⟨p.2, by simp [e], ?_⟩
        show lays l _ i = _
        rw [h1, e, upd_same]
      · refine .inl ⟨?_, fun b hb => ?_⟩
        · show lays l _ i = _
          rw [h1, upd_other _ _ _ _ e]
        · rcases List.mem_cons.1 hb with q | q
          · exact e (by rw [← q])
          · exact h2 b q
    · exact .inr ⟨b, by simp [h1], h2⟩
noncomputable def toB (l : List (Nat × LB)) : List (Nat × HB) := l.map fun p => (p.1, hbOf p.2)
theorem layAll_eq (l : List (Nat × LB)) (n : Nat) (hn : n ≤ 65536) : ∀ G k, (∀ p ∈ l, p.1 < n) → layAll l (mk4 G) k = k (mk4 (lays (toB l) G)) := by
  induction l with
  | nil => intro G k _; rfl
  | cons p l ih =>
    intro G k h
    show put4 p.1 (hbOf p.2) (mk4 G) (fun t => layAll l t k) = _
    rw [put4_mk _ _ _ _ (Nat.lt_of_lt_of_le (h p (by simp)) hn), ih _ _ (fun q hq => h q (by simp [hq]))]
    rfl
theorem killAll_eq (l : List (Nat × LB)) (n : Nat) (hn : n ≤ 65536) : ∀ G k, (∀ p ∈ l, p.1 < n) → killAll l (mk4 G) k = k (mk4 (lays (l.map fun p => (p.1, .dead)) G)) := by
  induction l with
  | nil => intro G k _; rfl
  | cons p l ih =>
    intro G k h
    show put4 p.1 .dead (mk4 G) (fun t => killAll l t k) = _
    rw [put4_mk _ _ _ _ (Nat.lt_of_lt_of_le (h p (by simp)) hn), ih _ _ (fun q hq => h q (by simp [hq]))]
    rfl
theorem areAll_eq (l : List (Nat × LB)) (n : Nat) (hn : n ≤ 65536) (G : Nat → HB) (hG : ∀ i, HBok (G i)) (k : Bool) : (∀ p ∈ l, p.1 < n) → areAll l (mk4 G) k = true → k = true ∧ ∀ p ∈ l, G p.1 ≠ .dead ∧ Alike (hbOf p.2) (G p.1) := by
  induction l with
  | nil => intro _ h; exact ⟨h, by simp⟩
  | cons p l ih =>
    intro hl h
    have h' : get4 p.1 (mk4 G) (fun b => wh (eqB p.2 b) (areAll l (mk4 G) k)) = true := h
    rw [get4_mk _ _ _ (Nat.lt_of_lt_of_le (hl p (by simp)) hn), wh_iff] at h'
    obtain ⟨h1, h2⟩ := ih (fun q hq => hl q (by simp [hq])) h'.2
    refine ⟨h1, fun q hq => ?_⟩
    rcases List.mem_cons.1 hq with e | e
    · rw [e]; exact eqB_eq h'.1 (hG _)
    · exact h2 q e
theorem allIn_eq (l : List (Nat × LB)) (n : Nat) (h : allIn l n = true) : ∀ p ∈ toB l, p.1 < n ∧ p.2 ≠ .dead ∧ HBok p.2 := by
  induction l with
  | nil => simp [toB]
  | cons p l ih =>
    have h' : wh (Nat.ble (Nat.add p.1 1) n) (wh (okB p.2) (allIn l n)) = true := h
    rw [wh_iff, wh_iff] at h'
    intro q hq
    rcases List.mem_cons.1 (show q ∈ (p.1, hbOf p.2) :: toB l from hq) with e | e
    · rw [e]; exact ⟨Nat.le_of_ble_eq_true h'.1, okB_eq h'.2.1⟩
    · exact ih h'.2.2 q e
theorem mem_toB {l : List (Nat × LB)} {p : Nat × LB} (h : p ∈ l) : (p.1, hbOf p.2) ∈ toB l := List.mem_map.2 ⟨p, h, rfl⟩

variable {P : Program}

/-- what a piece says from a part of memory, it says from all of it -/
theorem Snd.frame {β : Type} {c : Comp β} {Q : (Nat → Prop) → Ren → β → Prop} {s0 s0' s : St} {G0 G G1 : Nat → HB} (hm : Mono c) (h0 : Wf s0 G0) (hs : Snd P c Q s0 s0') (hG : Wf s G) (hnx : s.nx = s0.nx)
    (hA : ∀ i, Al G0 i → Al G i ∧ Alike (G0 i) (G i)) (h0w : s0.w = 0) (hB : ∀ G0', Wf s0' G0' → (∀ i, i < s0.nx → ¬ In s0'.w i → G0' i = G0 i) → ∀ i, Al G1 i → (Al G0' i ∧ Alike (G1 i) (G0' i)) ∨ (G1 i = G i ∧ G0 i = .dead))
    {mr mw : Nat} (hM : ∀ i, i < s.nx → Al G0 i → In mr i) (hMw : ∀ i, i < s.nx → Al G0 i → In s0'.w i → In mw i) (hM2 : ∀ i, i < s.nx → ¬ In mw i → G1 i = G i)
    (hW : Wf { s with h := mk4 G1, nx := s0'.nx, r := s.r ||| mr, w := s.w ||| mw } G1) :
    Snd P c Q s { s with h := mk4 G1, nx := s0'.nx, r := s.r ||| mr, w := s.w ||| mw } := by
  intro G' hG'
  rw [wf_unique hG hG']
  clear hG' G'
  obtain ⟨G0', rm, wm, m0, run⟩ := hs G0 h0
  have hwe : s0'.w = wm := by rw [m0.w, h0w]; exact Nat.zero_or _
  rw [hwe] at hMw hB
  have hB := hB G0' m0.wf (fun i hi hw => m0.keep i hw (fun hn => by have := hn.1; omega))
  have hle := m0.le
  have alA : ∀ {i}, Al G0 i → Al G i := fun {i} h => (hA i h).1
  have old : ∀ {i}, i < s.nx → Al G1 i → Al G i := fun {i} hi ha => by
    rcases hB i ha with q | ⟨q, _⟩
    · exact alA fun e => q.1 (m0.dead i (by omega) e)
    · rw [Al, ← q]; exact ha
  have gone : ∀ {j}, Al G0 j → G0' j = .dead → G1 j = .dead := fun {j} h0j hd => by
    by_cases ha : Al G1 j
    · rcases hB j ha with q | ⟨_, q⟩
      · exact (q.1 hd).elim
      · exact (h0j q).elim
    · exact Classical.not_not.1 ha
  refine ⟨G1, mr, mw, ⟨hW, by rw [hnx]; exact hle, rfl, rfl, fun i hi hn => ?_, fun i hi hd => Classical.not_not.1 fun ha => old hi ha hd⟩, fun D R w hD hpre => ?_⟩
  · by_cases hi' : i < s.nx
    · exact hM2 i hi' hi
    · rw [hG.beyond i (by omega)]
      have : s0'.nx ≤ i := Nat.le_of_not_lt fun h => hn ⟨by omega, h⟩
      exact hW.beyond i this
  have h0M : ∀ {i}, i < s0.nx → Al G0 i → In (mr ||| mw) i := fun hi ha => in_or.2 (.inl (hM _ (by omega) ha))
  have h0W : ∀ {i}, i < s0.nx → Al G0 i → In wm i → In mw i := fun hi ha hw => hMw _ (by omega) ha hw
  have hpre0 : Pre P D R G0 s0.nx (rm ||| wm) w := by
    constructor
    · intro i hi _ ha
      have := hpre.rep i (by omega) (h0M hi ha) (alA ha)
      exact ⟨this.1, this.2.1, ((hA i ha).2 P D R i _).2 this.2.2⟩
    · intro i j hi hj _ _ hai haj
      exact hpre.inj i j (by omega) (by omega) (h0M hi hai) (h0M hj haj) (alA hai) (alA haj)
  have hD0 : ∀ i, D i → ¬ New s0.nx s0'.nx i := fun i hi hn => hD i hi ⟨by have := hn.1; omega, hn.2⟩
  refine hm _ _ _ _ _ ?_ (run D R w hD0 hpre0)
  rintro x w' ⟨R', hp, hq⟩
  rw [hnx]
  refine ⟨R', ?_, hq⟩
  have ag := hp.agr hD0
  have ren : ∀ {i}, i < s0.nx → R'.at_ i = R.at_ i := fun hi => (hp.ren _ (fun hn => by have := hn.1; omega)).1
  -- what the piece did not touch lies as it lay
  have alone : ∀ i, i < s0.nx → In (mr ||| mw) i → Al G i → (∀ j, j < s0.nx → In wm j → Al G0 j → j ≠ i) → w'.heap[R.at_ i]? = w.heap[R.at_ i]? := by
    intro i hi hmi ha hj
    refine hp.keep _ (hpre.rep i (by omega) hmi ha).2.1 fun j hjn hjw hja he => hj j hjn hjw hja ?_
    exact hpre.inj j i (by omega) (by omega) (h0M hjn hja) hmi (alA hja) ha he
  have untouched : ∀ i, i < s0.nx → In (mr ||| mw) i → Al G i → (∀ j, j < s0.nx → In wm j → Al G0 j → j ≠ i) → R'.at_ i < w'.heap.size ∧ BRep P (Plus D s0.nx s0'.nx) R' i (G i) w'.heap[R'.at_ i]? := by
    intro i hi hmi ha hj
    have hr := hpre.rep i (by omega) hmi ha
    rw [ren hi, alone i hi hmi ha hj]
    exact ⟨Nat.lt_of_lt_of_le hr.2.1 hp.size, BRep.more P hr.2.2 hr.1 Plus.sub ag⟩
  -- each block that is there is one that the piece tells of, or one that lies as it lay
  have kinds : ∀ i, (i < s0.nx ∧ In (mr ||| mw) i ∨ New s0.nx s0'.nx i) → Al G1 i →
      ((i < s0.nx ∧ In (rm ||| wm) i ∨ New s0.nx s0'.nx i) ∧ Al G0' i ∧ Alike (G1 i) (G0' i)) ∨ (i < s0.nx ∧ In (mr ||| mw) i ∧ Al G i ∧ Alike (G1 i) (G i) ∧ ∀ j, j < s0.nx → In wm j → Al G0 j → j ≠ i) := by
    intro i hi ha
    rcases hB i ha with ⟨ha', q⟩ | ⟨q, qd⟩
    · rcases hi with hi | hi
      · by_cases ht : In (rm ||| wm) i
        · exact .inl ⟨.inl ⟨hi.1, ht⟩, ha', q⟩
        · have hw : ¬ In wm i := fun h => ht (in_or.2 (.inr h))
          have hk : G0' i = G0 i := m0.keep i hw (fun hn => by have := hn.1; have := hi.1; omega)
          have ha0 : Al G0 i := by rw [Al, ← hk]; exact ha'
          exact .inr ⟨hi.1, hi.2, alA ha0, fun P D R id o => (q P D R id o).trans (by rw [hk]; exact (hA i ha0).2 P D R id o), fun j _ hjw _ e => hw (e ▸ hjw)⟩
      · exact .inl ⟨.inr hi, ha', q⟩
    · have hi' : i < s0.nx ∧ In (mr ||| mw) i := by
        rcases hi with hi | hi
        · exact ⟨hi.1, hi.2⟩
        · have := hG.beyond i (by have := hi.1; omega)
          exact (ha (q.trans this)).elim
      exact .inr ⟨hi'.1, hi'.2, by rw [Al, ← q]; exact ha, by rw [q]; exact Alike.refl _, fun j _ _ hja e => by subst e; exact hja qd⟩
  refine ⟨hp.ren, ?_, ?_, ?_, ?_, hp.size, hp.tape, hp.os, hp.out⟩
  · intro i hi ha
    rcases kinds i hi ha with ⟨h1, h2, h3⟩ | ⟨h1, hmi, h2, h3, h4⟩
    · have := hp.rep i h1 h2
      exact ⟨this.1, (h3 _ _ _ _ _).2 this.2⟩
    · have := untouched i h1 hmi h2 h4
      exact ⟨this.1, (h3 _ _ _ _ _).2 this.2⟩
  · intro i j hi hj hai haj he
    have mixed : ∀ i j, (i < s0.nx ∧ In (rm ||| wm) i ∨ New s0.nx s0'.nx i) → Al G0' i → j < s0.nx → In (mr ||| mw) j → Al G j → Al G1 j → (∀ k, k < s0.nx → In wm k → Al G0 k → k ≠ j) → R'.at_ i = R'.at_ j → i = j := by
      intro i j hi hai hj hmj hgj haj hk he
      rw [ren hj] at he
      have hrj := hpre.rep j (by omega) hmj hgj
      rcases hi with hi | hi
      · rw [ren hi.1] at he
        have : Al G0 i := fun e => hai (m0.dead i hi.1 e)
        exact hpre.inj i j (by have := hi.1; omega) (by omega) (h0M hi.1 this) hmj (alA this) hgj he
      · rcases hp.fresh i hi hai with hf | ⟨k, hkn, hkw, hka, hkd, hf⟩
        · rw [he] at hf; have := hrj.2.1; omega
        · rw [he] at hf
          have := hpre.inj j k (by omega) (by omega) hmj (h0M hkn hka) hgj (alA hka) hf
          exact (hk k hkn hkw hka this.symm).elim
    rcases kinds i hi hai with ⟨h1, h2, h3⟩ | ⟨h1, hmi, h2, h3, h4⟩ <;> rcases kinds j hj haj with ⟨k1, k2, k3⟩ | ⟨k1, hmj, k2, k3, k4⟩
    · exact hp.inj i j h1 k1 h2 k2 he
    · exact mixed i j h1 h2 k1 hmj k2 haj k4 he
    · exact (mixed j i k1 k2 h1 hmi h2 hai h4 he.symm).symm
    · rw [ren h1, ren k1] at he
      exact hpre.inj i j (by omega) (by omega) hmi hmj h2 k2 he
  · intro i hi ha
    rcases kinds i (.inr hi) ha with ⟨h1, h2, h3⟩ | ⟨h1, _⟩
    · rcases hp.fresh i hi h2 with q | ⟨j, q1, q2, q3, q4, q5⟩
      · exact .inl q
      · exact .inr ⟨j, q1, h0W q1 q3 q2, alA q3, gone q3 q4, q5⟩
    · have := hi.1; omega
  · intro b hb hk
    exact hp.keep b hb fun j hj hjw hja => hk j hj (h0W hj hja hjw) (alA hja)

/-- a call that was reckoned by itself says what the machine does -/
def MemoOk (P : Program) (m : Memo) : Prop := ∀ args s K, useM m args s K = true → (∃ G, Wf s G) → ∃ v s', K v s' = true ∧ Snd P (CallDoes P m.f args) (ValQ v) s s'

theorem keptB_eq (l : List (Nat × LB)) (w : Nat) (h : keptB l w = true) : ∀ p ∈ l, ¬ InA w p.1 := by
  induction l with
  | nil => simp
  | cons q l ih =>
    have h' : wh (notB (bit w q.1)) (keptB l w) = true := h
    rw [wh_iff] at h'
    intro p hp hi
    rcases List.mem_cons.1 hp with e | e
    · subst e
      have := (bit_iff _ _).2 hi
      rw [this] at h'
      cases h'.1
    · exact ih h'.2 p e hi

theorem piece_ok {rec : Rec} (hr : RecSnd P rec) {m : Memo} (h : piece rec m = true) : MemoOk P m := by
  obtain ⟨f, xs, nx0, ro, pre, v, nx', post⟩ := m
  have h' : wh (Nat.ble nx0 65536) (wh (allIn (ro ++ pre) nx0) (wh (allIn post nx') (wh (keptB ro (marks post)) (layAll (ro ++ pre) (all4 .dead) (fun h => rec true f xs ⟨h, nx0, 0, 0⟩ (pieceEnd v nx' ro post)))))) = true := h
  rw [wh_iff, wh_iff, wh_iff, wh_iff] at h'
  obtain ⟨h1, h2, h3, h5, h4⟩ := h'
  have hn0 : nx0 ≤ 65536 := Nat.le_of_ble_eq_true h1
  have hpre := allIn_eq _ _ h2
  have hpost := allIn_eq _ _ h3
  rw [all4_mk, layAll_eq _ _ hn0 _ _ (fun p hp => (hpre _ (mem_toB hp)).1)] at h4
  have hW0 : Wf (⟨mk4 (lays (toB (ro ++ pre)) fun _ => .dead), nx0, 0, 0⟩ : St) (lays (toB (ro ++ pre)) fun _ => .dead) := by
    refine ⟨rfl, hn0, fun i hi => ?_, fun i => ?_⟩
    · rcases lays_or (toB (ro ++ pre)) (fun _ => .dead) i with ⟨q, _⟩ | ⟨b, q, _⟩
      · exact q
      · have := (hpre _ q).1
        have hi : nx0 ≤ i := hi
        simp only at this; omega
    · rcases lays_or (toB (ro ++ pre)) (fun _ => .dead) i with ⟨q, _⟩ | ⟨b, q, e⟩
      · rw [q]; trivial
      · rw [e]; exact (hpre _ q).2.2
  obtain ⟨u, s0', hk, hs⟩ := hr.call f xs _ _ h4 ⟨_, hW0⟩
  obtain ⟨sh, snx, sr, sw⟩ := s0'
  have hk' : wh (eqV v u) (wh (Nat.beq snx nx') (wh (keptB ro sw) (areAll post sh true))) = true := hk
  rw [wh_iff, wh_iff, wh_iff] at hk'
  obtain ⟨k1, k2, k4, k3⟩ := hk'
  have k1 := eqV_eq _ _ k1
  have k2 := Nat.eq_of_beq_eq_true k2
  subst k1 k2
  intro args s K hu ⟨G, hG⟩
  obtain ⟨hh, nx, r, w⟩ := s
  have e : hh = mk4 G := hG.h
  subst e
  have hu' : wh (Nat.beq nx nx0) (wh (eqL xs args) (areAll (ro ++ pre) (mk4 G) (killAll pre (mk4 G) (fun h => layAll post h (fun h => K v ⟨h, snx, Nat.lor r (marks (ro ++ pre)), Nat.lor w (marks pre)⟩))))) = true := hu
  rw [wh_iff, wh_iff] at hu'
  obtain ⟨u1, u2, u3⟩ := hu'
  have u1 := Nat.eq_of_beq_eq_true u1
  have u2 := eqL_eq _ _ u2
  subst u1 u2
  obtain ⟨u4, u5⟩ := areAll_eq (ro ++ pre) nx hn0 G hG.ok _ (fun p hp => (hpre _ (mem_toB hp)).1) u3
  rw [killAll_eq pre nx hn0 _ _ (fun p hp => (hpre _ (mem_toB (List.mem_append_right ro hp))).1)] at u4
  obtain ⟨G0', rm, wm, m0, run⟩ := hs _ hW0
  have hsn : snx ≤ 65536 := m0.wf.nx
  rw [layAll_eq post snx hsn _ _ (fun p hp => (hpost _ (mem_toB hp)).1)] at u4
  refine ⟨v, _, u4, ?_⟩
  have are : ∀ G', Wf ⟨sh, snx, sr, sw⟩ G' → ∀ p ∈ post, G' p.1 ≠ .dead ∧ Alike (hbOf p.2) (G' p.1) := by
    intro G' hG'
    have e : sh = mk4 G' := hG'.h
    rw [e] at k3
    exact (areAll_eq post snx hsn G' hG'.ok _ (fun p hp => (hpost _ (mem_toB hp)).1) k3).2
  have part : ∀ i, Al (lays (toB (ro ++ pre)) fun _ => HB.dead) i → Al G i ∧ Alike ((lays (toB (ro ++ pre)) fun _ => HB.dead) i) (G i) := by
    intro i ha
    rcases lays_or (toB (ro ++ pre)) (fun _ => HB.dead) i with ⟨q, _⟩ | ⟨b, q, e⟩
    · exact (ha q).elim
    · obtain ⟨p, hp, hq⟩ := List.mem_map.1 q
      have := u5 p hp
      cases hq
      rw [e]; exact this
  have kept : ∀ {i b}, (i, b) ∈ ro → ¬ In sw i := fun {i b} hp h => by
    have hi : i < nx := (hpre _ (mem_toB (List.mem_append_left pre hp))).1
    have h' : InA sw i := by
      have e : Go.Ev.hs i = i := Nat.mod_eq_of_lt (by omega)
      have := h
      rw [In, e] at this
      exact this
    exact keptB_eq ro sw k4 _ hp h'
  refine Snd.frame CallDoes.mono hW0 hs hG rfl part rfl (fun G' hG' hkeep i ha => ?_) (fun i hi ha => ?_) (fun i hi ha hw => ?_) (fun i hi hn => ?_) ?_
  · rcases lays_or (toB post) (lays (pre.map fun p => (p.1, HB.dead)) G) i with ⟨q, _⟩ | ⟨b, q, e⟩
    · rcases lays_or (pre.map fun p => (p.1, HB.dead)) G i with ⟨q', q2⟩ | ⟨b, q', e⟩
      · rcases lays_or (toB (ro ++ pre)) (fun _ => HB.dead) i with ⟨t, _⟩ | ⟨b, t, te⟩
        · exact .inr ⟨q.trans q', t⟩
        · obtain ⟨p, hp, hq⟩ := List.mem_map.1 t
          rcases List.mem_append.1 hp with hp | hp
          · have hi : i < nx := (hpre _ t).1
            have hni : ¬ In sw i := by
              have : (i, p.2) ∈ ro := by cases hq; exact hp
              exact kept this
            have hk := hkeep i hi hni
            have hal : Al (lays (toB (ro ++ pre)) fun _ => HB.dead) i := by rw [Al, te]; exact (hpre _ t).2.1
            have := (part i hal).2
            refine .inl ⟨by rw [Al, hk]; exact hal, ?_⟩
            rw [hk, q, q']
            exact fun P D R id o => (this P D R id o).symm
          · exact (q2 .dead (List.mem_map.2 ⟨p, hp, by cases hq; rfl⟩)).elim
      · exfalso
        obtain ⟨p, _, hp⟩ := List.mem_map.1 q'
        have : b = .dead := by cases hp; rfl
        exact ha (q.trans (e.trans this))
    · obtain ⟨p, hp, hq⟩ := List.mem_map.1 q
      have := are G' hG' p hp
      cases hq
      rw [e]; exact .inl this
  · rcases lays_or (toB (ro ++ pre)) (fun _ => HB.dead) i with ⟨q, _⟩ | ⟨b, q, e⟩
    · exact (ha q).elim
    · obtain ⟨p, hp, hq⟩ := List.mem_map.1 q
      have := in_marks hp
      cases hq
      exact this
  · rcases lays_or (toB (ro ++ pre)) (fun _ => HB.dead) i with ⟨q, _⟩ | ⟨b, q, e⟩
    · exact (ha q).elim
    · obtain ⟨p, hp, hq⟩ := List.mem_map.1 q
      rcases List.mem_append.1 hp with hp | hp
      · exfalso
        have : (i, p.2) ∈ ro := by cases hq; exact hp
        exact kept this hw
      · have := in_marks hp
        cases hq
        exact this
  · rcases lays_or (toB post) (lays (pre.map fun p => (p.1, HB.dead)) G) i with ⟨q, _⟩ | ⟨b, q, e⟩
    · rcases lays_or (pre.map fun p => (p.1, HB.dead)) G i with ⟨q', _⟩ | ⟨b, q', e⟩
      · exact q.trans q'
      · obtain ⟨p, hp, hq⟩ := List.mem_map.1 q'
        have := in_marks hp
        cases hq
        exact (hn this).elim
    · obtain ⟨p, hp, hq⟩ := List.mem_map.1 q
      have hal := (are G0' m0.wf p hp).1
      have hpi : p.1 = i := by cases hq; rfl
      rw [hpi] at hal
      exfalso
      rcases lays_or (toB (ro ++ pre)) (fun _ => HB.dead) i with ⟨q', _⟩ | ⟨b', q', _⟩
      · exact hal (m0.dead i hi q')
      · obtain ⟨p', hp', hq'⟩ := List.mem_map.1 q'
        rcases List.mem_append.1 hp' with hp' | hp'
        · have : (i, p'.2) ∈ ro := by cases hq'; exact hp'
          refine keptB_eq ro _ h5 _ this ?_
          have hin := in_marks hp
          have e : Go.Ev.hs i = i := Nat.mod_eq_of_lt (by have hi : i < nx := hi; omega)
          rw [hpi, In, e] at hin
          exact hin
        · have := in_marks hp'
          cases hq'
          exact hn this
  · refine ⟨rfl, hsn, fun i hi => ?_, fun i => ?_⟩
    · have hi : snx ≤ i := hi
      rcases lays_or (toB post) (lays (pre.map fun p => (p.1, HB.dead)) G) i with ⟨q, _⟩ | ⟨b, q, e⟩
      · have hle : nx ≤ snx := m0.le
        rcases lays_or (pre.map fun p => (p.1, HB.dead)) G i with ⟨q', q2⟩ | ⟨b, q', e⟩
        · exact q.trans (q'.trans (hG.beyond i (by show nx ≤ i; omega)))
        · obtain ⟨p, _, hp⟩ := List.mem_map.1 q'
          have : b = .dead := by cases hp; rfl
          exact q.trans (e.trans this)
      · have := (hpost _ q).1
        simp only at this; omega
    · rcases lays_or (toB post) (lays (pre.map fun p => (p.1, HB.dead)) G) i with ⟨q, _⟩ | ⟨b, q, e⟩
      · rcases lays_or (pre.map fun p => (p.1, HB.dead)) G i with ⟨q', q2⟩ | ⟨b, q', e⟩
        · rw [q, q']; exact hG.ok i
        · obtain ⟨p, _, hp⟩ := List.mem_map.1 q'
          have : b = .dead := by cases hp; rfl
          rw [q, e, this]; trivial
      · rw [e]; exact (hpost _ q).2.2

theorem findM_ok {ms : List Memo} {f : Nat} {args : List V} {s : St} {K : KV} {d : Bool} (hms : ∀ m ∈ ms, MemoOk P m) (hw : ∃ G, Wf s G)
    (hd : d = true → ∃ v s', K v s' = true ∧ Snd P (CallDoes P f args) (ValQ v) s s') (h : findM ms f args s K d = true) : ∃ v s', K v s' = true ∧ Snd P (CallDoes P f args) (ValQ v) s s' := by
  induction ms with
  | nil => exact hd h
  | cons m ms ih =>
    have h' : ifB (isM m f s) (useM m args s K) (findM ms f args s K d) = true := h
    rw [ifB_iff] at h'
    rcases h' with ⟨h1, h2⟩ | ⟨_, h2⟩
    · have hf : f = m.f := by
        obtain ⟨g, xs, nx0, ro, pre, v, nx', post⟩ := m
        obtain ⟨hh, nx, r, w⟩ := s
        have h1' : wh (Nat.beq f g) (Nat.beq nx nx0) = true := h1
        rw [wh_iff] at h1'
        exact Nat.eq_of_beq_eq_true h1'.1
      rw [hf]
      exact hms m (by simp) args s K h2 hw
    · exact ih (fun m hm => hms m (by simp [hm])) h2

/-- THE RECKONER IS RIGHT, with calls that were reckoned ahead -/
theorem reckonerM {E : Env} (hE : EnvOk P E) {ms : List Memo} (hms : ∀ m ∈ ms, MemoOk P m) : ∀ n, RecSnd P (evM E ms n) := by
  intro n
  induction n with
  | zero => exact ⟨fun f args s K h => (by cases h), fun l args s K h => (by cases h)⟩
  | succ n ih =>
    refine ⟨fun f args s K h hw => ?_, fun l args s K h hw => round_snd hE ih (fun o c hc => hops hE ih o c hc) (show tRound E (evM E ms n) l args s K = true from h) hw⟩
    have h' : findM ms f args s K (tCall E (evM E ms n) f args s K) = true := h
    exact findM_ok hms hw (fun hd => call_snd hE ih (fun o c hc => hops hE ih o c hc) hd hw) h'
end Go.Ev
/- The table of types of a reckoning: what must be asked of it, asked by a program. -/
namespace Go.Ev

/-- a zero value of one cell, and what it stands for -/
def zeroOneB (t : Nat) (v : Value) : Bool :=
  match v with
  | .bool b => Nat.beq t 2 && !b
  | .string s => Nat.beq t 3 && Nat.beq s.data.toList.length 0
  | .pointer none => Nat.beq t 5
  | .slice none 0 0 => Nat.beq t 8
  | .map none => Nat.beq t 10
  | .nilFunc => Nat.beq t 13
  | .int k n => Nat.beq t (Nat.add 32 (kindN k)) && decide (n = 0)
  | _ => false
def byteZero (v : Value) : Bool := match v with | .int .u8 n => decide (n = 0) | _ => false
/-- n zero bytes ahead -/
def bytesB (k : List Value → Bool) : Nat → List Value → Bool
  | 0, l => k l
  | _n + 1, [] => false
  | n + 1, v :: l => byteZero v && bytesB k n l
def zeroB : List V → List Value → Bool
  | [], [] => true
  | .mk t a b _ _ _ :: r, vs => if Nat.beq t 16 then Nat.beq b 0 && bytesB (zeroB r) a vs else
    match vs with
    | v :: vs => Nat.beq a 0 && (Nat.beq b 0 && zeroOneB t v) && zeroB r vs
    | [] => false
  | [], _ :: _ => false

theorem wrap_zero (k : IntKind) : k.wrap 0 = 0 := by cases k <;> decide
theorem zeroOneB_den {t : Nat} {v : Value} (h : zeroOneB t v = true) (c d : Nat) (l : List V) (R : Ren) : den R (.mk t 0 0 c d l) = v ∨ (t = 8 ∧ v = .slice none 0 0) := by
  unfold zeroOneB at h
  split at h
  · rename_i b
    simp at h
    obtain ⟨h1, h2⟩ := h
    subst h1 h2
    left; simp [den]
  · rename_i s
    rw [Bool.and_eq_true] at h
    obtain ⟨h1, h2⟩ := h
    have h1 := Nat.eq_of_beq_eq_true h1
    have h2 := List.eq_nil_of_length_eq_zero (Nat.eq_of_beq_eq_true h2)
    subst h1
    left
    simp only [den]
    congr 1
    obtain ⟨⟨l⟩⟩ := s
    have h2 : l = [] := h2
    subst h2
    rfl
  · have := Nat.eq_of_beq_eq_true h; subst this; left; simp [den]
  · have := Nat.eq_of_beq_eq_true h; subst this; left; simp [den]
  · have := Nat.eq_of_beq_eq_true h; subst this; left; simp [den]
  · have := Nat.eq_of_beq_eq_true h; subst this; left; simp [den]
  · rename_i k n
    simp only [Bool.and_eq_true, decide_eq_true_eq] at h
    obtain ⟨h1, h2⟩ := h
    have := Nat.eq_of_beq_eq_true h1
    subst this h2
    left
    rw [den_kind]
    congr 1
    exact wrap_zero k
  · cases h
theorem zeroOneB_tag {t : Nat} {v : Value} (h : zeroOneB t v = true) : t ≠ 16 := by
  rintro rfl
  unfold zeroOneB at h
  split at h
  · simp at h
  · simp at h
  · cases h
  · cases h
  · cases h
  · cases h
  · rename_i k n
    cases k <;> simp [kindN] at h <;> cases h.1
  · cases h

theorem bytesB_eq {k : List Value → Bool} : ∀ n l, bytesB k n l = true → ∃ m, l = List.replicate n (.int .u8 0) ++ m ∧ k m = true := by
  intro n
  induction n with
  | zero => intro l h; exact ⟨l, rfl, h⟩
  | succ n ih =>
    intro l h
    cases l with
    | nil => cases h
    | cons v l =>
      simp only [bytesB, Bool.and_eq_true] at h
      obtain ⟨m, h1, h2⟩ := ih l h.2
      refine ⟨m, ?_, h2⟩
      have hv : v = .int .u8 0 := by
        have := h.1
        unfold byteZero at this
        split at this
        · rename_i n; simp at this; rw [this]
        · cases this
      rw [hv, h1]; rfl
theorem bytesOf_zerosA (n : Nat) : bytesOf n 0 = List.replicate n (.int .u8 0) := by
  refine List.ext_getElem (by simp [bytesOf]) fun i h1 h2 => ?_
  simp [bytesOf, byteAt_eq]
theorem zeroB_eq : ∀ (l : List V) (vs : List Value), zeroB l vs = true → ∀ R, cellsOf R l = vs := by
  intro l
  induction l with
  | nil =>
    intro vs h R
    cases vs with
    | nil => exact cellsOf_nil R
    | cons _ _ => cases h
  | cons x l ih =>
    intro vs h R
    obtain ⟨t, a, b, c, d, m⟩ := x
    unfold zeroB at h
    split at h
    · rename_i ht
      have := Nat.eq_of_beq_eq_true ht
      subst this
      simp only [Bool.and_eq_true] at h
      have hb := Nat.eq_of_beq_eq_true h.1
      subst hb
      obtain ⟨m', h1, h2⟩ := bytesB_eq _ _ h.2
      rw [cellsOf_run, bytesOf_zerosA, ih m' h2 R, h1]
    · cases vs with
      | nil => cases h
      | cons v vs =>
        simp only [Bool.and_eq_true] at h
        obtain ⟨⟨h1, h2, h3⟩, h4⟩ := h
        have h1 := Nat.eq_of_beq_eq_true h1
        have h2 := Nat.eq_of_beq_eq_true h2
        subst h1 h2
        rw [cellsOf_one _ _ _ _ _ _ _ _ (zeroOneB_tag h3), ih vs h4 R]
        rcases zeroOneB_den h3 c d m R with e | ⟨e1, e2⟩
        · rw [e]
        · subst e1 e2; congr 1

def descB (k : AKind) (d : TypeDesc) : Bool :=
  match k with
  | .int k => (match d with | .int q => Nat.beq k (kindN q) | _ => false)
  | .str => (match d with | .string => true | _ => false)
  | .bool => (match d with | .bool => true | _ => false)
  | .slice e => (match d with | .slice e' => Nat.beq e e' | _ => false)
  | .arr n e => (match d with | .array n' e' => Nat.beq n n' && Nat.beq e e' | _ => false)
  | .struct fs => (match d with | .struct fields => decide (fs = fields.toList.map fun f => (f.offset, f.type)) | _ => false)
  | .ptr e => (match d with | .pointer e' => Nat.beq e e' | _ => false)
  | .map k e => (match d with | .map k' e' => Nat.beq k k' && Nat.beq e e' | _ => false)
  | .func => (match d with | .func _ _ _ => true | _ => false)
  | .other => true
def aggT (d : TypeDesc) : Bool := match d with | .struct _ => true | .array _ _ => true | _ => false
def isAggV (v : Value) : Bool := match v with | .agg _ => true | _ => false
def infoB (y : ATy) (i : TypeInfo) : Bool :=
  Nat.beq i.size y.size && (Nat.ble i.bytes 2147483648 && match i.zero with
    | some z => zeroB y.zero z.cells.toList && ((isAggV z == y.agg) && Nat.beq z.cells.toList.length y.size)
    | none => false)
def descsB (P : Program) (t : TypeId) (y : ATy) : Bool := match P.underlying t with | some d => descB y.kind d && (aggT d == y.agg) | none => false
def tyB (P : Program) (t : TypeId) (y : ATy) : Bool :=
  (match P.info? t with | some i => infoB y i | none => false) && (descsB P t y && (y.agg || Nat.beq y.size 1))

theorem kindOf_of {k : Nat} {q : IntKind} (h : Nat.beq k (kindN q) = true) : k < 8 ∧ q = kindOf k := by
  have := Nat.eq_of_beq_eq_true h
  subst this
  cases q <;> exact ⟨by decide, rfl⟩
theorem tyB_ok {P : Program} {t : TypeId} {y : ATy} (h : tyB P t y = true) : TyOk P t y := by
  unfold tyB at h
  simp only [Bool.and_eq_true] at h
  obtain ⟨h1, h2, h4⟩ := h
  cases hi : P.info? t with
  | none => rw [hi] at h1; cases h1
  | some i =>
    rw [hi] at h1
    unfold infoB at h1
    simp only [Bool.and_eq_true] at h1
    obtain ⟨a1, a2, a3⟩ := h1
    cases hz : i.zero with
    | none => rw [hz] at a3; cases a3
    | some z =>
      rw [hz] at a3
      simp only [Bool.and_eq_true] at a3
      obtain ⟨b1, b2, b3⟩ := a3
      have b1 := zeroB_eq _ _ b1
      have b2 : isAggV z = y.agg := by simpa using b2
      have b3 := Nat.eq_of_beq_eq_true b3
      obtain ⟨d, hd, h2, h3⟩ : ∃ d, P.underlying t = some d ∧ descB y.kind d = true ∧ aggT d = y.agg := by
        unfold descsB at h2
        cases hd : P.underlying t with
        | none => rw [hd] at h2; cases h2
        | some d => rw [hd] at h2; simp only [Bool.and_eq_true, beq_iff_eq] at h2; exact ⟨d, rfl, h2.1, h2.2⟩
      refine ⟨⟨i, hi, Nat.eq_of_beq_eq_true a1, z, hz, b1, ?_, ?_⟩, ?_, ?_, ?_, ?_, ?_⟩
      · intro ha xs e
        rw [e, ha] at b2; cases b2
      · intro ha
        rw [ha] at b2
        cases z <;> first | exact ⟨_, rfl⟩ | cases b2
      · unfold KindOk
        rw [hd]
        cases hk : y.kind <;> rw [hk] at h2 <;> simp only
        · cases d <;> first | (cases h2; done) | (have := kindOf_of h2; exact ⟨this.1, by rw [this.2]⟩)
        · cases d <;> first | (cases h2; done) | rfl
        · cases d <;> first | (cases h2; done) | rfl
        · cases d <;> first | (cases h2; done) | (rw [Nat.eq_of_beq_eq_true h2])
        · cases d <;> first | (cases h2; done) | (simp only [descB, Bool.and_eq_true] at h2; rw [Nat.eq_of_beq_eq_true h2.1, Nat.eq_of_beq_eq_true h2.2])
        · cases d <;> first | (cases h2; done) | exact ⟨_, rfl, of_decide_eq_true h2⟩
        · cases d <;> first | (cases h2; done) | (rw [Nat.eq_of_beq_eq_true h2])
        · cases d <;> first | (cases h2; done) | (simp only [descB, Bool.and_eq_true] at h2; rw [Nat.eq_of_beq_eq_true h2.1, Nat.eq_of_beq_eq_true h2.2])
        · cases d <;> first | (cases h2; done) | exact ⟨_, _, _, rfl⟩
      · funext w
        rw [← h3]
        simp only [isAgg, Sem.run_bind, run_underlying hd, Result.andThen]
        cases d <;> rfl
      · intro ha
        rw [ha] at h4
        exact Nat.eq_of_beq_eq_true (by simpa using h4)
      · intro i' hi'
        rw [hi] at hi'
        cases hi'
        exact Nat.le_of_ble_eq_true a2
      · intro R
        rw [b1 R, b3]

/-- what is asked of a type of structs or arrays of numbers -/
noncomputable def aggB (P : Program) (t : TypeId) (y : ATy) : Bool :=
  !(alikeK y.zero y.zero) || !(aggT ((P.underlying t).getD .string)) ||
    (P.keyTypeAt 40 t && (decide (kindsAt P 40 t = some (kindsV y.zero)) && (!(P.eqGuardType P.depth t) && Nat.beq (kindsV y.zero).length (P.cellsOf t))))
theorem aggB_ok {P : Program} {t : TypeId} {y : ATy} (h : aggB P t y = true) (hk : TyOk P t y) (ha : (∃ fs, y.kind = .struct fs) ∨ (∃ n e, y.kind = .arr n e)) (hz : alikeK y.zero y.zero = true) : AggOk P t y.zero := by
  have hag : (∃ fs, P.underlying t = some (.struct fs)) ∨ ∃ n e, P.underlying t = some (.array n e) := by
    have := hk.kind
    rcases ha with ⟨fs, e⟩ | ⟨n, e, e'⟩
    · rw [e] at this; obtain ⟨f, h1, _⟩ := this; exact .inl ⟨f, h1⟩
    · rw [e'] at this; exact .inr ⟨n, e, this⟩
  unfold aggB at h
  have h2 : aggT ((P.underlying t).getD .string) = true := by
    rcases hag with ⟨fs, e⟩ | ⟨n, e, e'⟩
    · rw [e]; rfl
    · rw [e']; rfl
  rw [hz, h2] at h
  simp only [Bool.not_true, Bool.false_or, Bool.and_eq_true, decide_eq_true_eq] at h
  obtain ⟨h3, h4, h5, h6⟩ := h
  exact ⟨⟨40, by decide, h3, 40, h4⟩, hag, by simpa using h5, Nat.eq_of_beq_eq_true h6⟩

/-- all types of a table -/
noncomputable def allTy (P : Program) (ty : Nat → Option ATy) (n : Nat) : Bool :=
  Nat.rec (motive := fun _ => Bool) true (fun t ih => (match ty t with | some y => tyB P t y && aggB P t y | none => true) && ih) n
theorem allTy_ok {P : Program} {ty : Nat → Option ATy} : ∀ n, allTy P ty n = true → ∀ t y, t < n → ty t = some y → TyOk P t y ∧ aggB P t y = true := by
  intro n
  induction n with
  | zero => intro _ t y ht; omega
  | succ n ih =>
    intro h t y ht hy
    have h' : ((match ty n with | some y => tyB P n y && aggB P n y | none => true) && allTy P ty n) = true := h
    rw [Bool.and_eq_true] at h'
    by_cases e : t = n
    · subst e
      rw [hy, Bool.and_eq_true] at h'
      exact ⟨tyB_ok h'.1.1, h'.1.2⟩
    · exact ih h'.2 t y (by omega) hy
def namesB (l : List Func) : Bool := l.all fun g => !(g.name == "runtime.NumGoroutine")
theorem envOk {P : Program} {E : Env} {n : Nat} (hn : ∀ t, n ≤ t → E.ty t = none) (ht : allTy P E.ty n = true) (hf : ∀ f, E.fn f = P.funcs[f]?) (hm : P.follows .mixedOrders = true) (hg : E.ng ≤ P.globals.size) (hs : namesB P.funcs.toList = true)
    (hx : ∀ i, E.ix = some i → ∀ (s : ByteArray) (c : Int) (w : World), (callFunc i #[.string s, .int .u8 c]).run P w = .ok (.value (.int .i64 (firstIdx s c.toNat.toUInt8))) w) : EnvOk P E := by
  have small : ∀ t y, E.ty t = some y → t < n := fun t y h => Nat.lt_of_not_le fun hle => by rw [hn t hle] at h; cases h
  refine ⟨fun t y h => (allTy_ok n ht t y (small t y h) h).1, fun f g h => by rw [← hf]; exact h, hm, hg, fun t y h ha hz => ?_, fun f g h => ?_, hx⟩
  · have := allTy_ok n ht t y (small t y h) h
    exact aggB_ok this.2 this.1 ha hz
  · rw [hf] at h
    have : g ∈ P.funcs.toList := by
      rw [Array.getElem?_eq_some_iff] at h
      obtain ⟨hlt, e⟩ := h
      rw [← e]; simp
    have := List.all_eq_true.1 hs g this
    simpa using this
/-- the function that looks for a byte in a text, of a program -/
theorem ix_ok {P : Program} {i : Nat} {fn : Func} (hf : P.funcs[i]? = some fn) (hname : (fn.name == "runtime.NumGoroutine") = false) (hb : fn.body.isNone = true) (hn : Extern.findNext fn = none)
    (he : Extern.find fn = some Extern.BytealgIndexByte.indexByte) (s : ByteArray) (c : Int) (w : World) :
    (callFunc i #[.string s, .int .u8 c]).run P w = .ok (.value (.int .i64 (firstIdx s c.toNat.toUInt8))) w := by
  rw [run_callFunc_extern hf hname hb hn he, run_indexByte_string]
  rfl
end Go.Ev
/- A closed call that the reckoner answers true for is one of the machine's that returns true and leaves all that lay. -/
namespace Go.Ev
open Go.RowKit
variable {P : Program}

noncomputable def isTrueK (init : List (Nat × LB)) (v : V) (s : St) : Bool :=
  St.rec (motive := fun _ => Bool) (fun _ _ _ w => wh (eqV (.mk 2 1 0 0 0 []) v) (keptB init w)) s
noncomputable def closedR (rec : Rec) (f : Nat) (args : List V) (nx : Nat) (init : List (Nat × LB)) : Bool :=
  wh (Nat.ble nx 65536) (wh (allIn init nx) (layAll init (all4 .dead) (fun h => rec true f args ⟨h, nx, 0, 0⟩ (isTrueK init))))
noncomputable def closed (E : Env) (ms : List Memo) (n f : Nat) (args : List V) (nx : Nat) (init : List (Nat × LB)) : Bool := closedR (evM E ms n) f args nx init

theorem closedR_calls {rec : Rec} (hrec : RecSnd P rec) {f nx : Nat} {args : List V} {init : List (Nat × LB)} (h : closedR rec f args nx init = true)
    {W : World} {R : Ren} {xs : List Value}
    (hrep : ∀ p ∈ init, R.at_ p.1 < W.heap.size ∧ BRep P (fun i => i < nx) R p.1 (hbOf p.2) W.heap[R.at_ p.1]?)
    (hinj : ∀ p ∈ init, ∀ q ∈ init, R.at_ p.1 = R.at_ q.1 → p.1 = q.1)
    (hargs : DenL (fun i => i < nx) R args xs) (hglob : Glob P (fun i => i < nx) R) :
    Go.Calls P f xs.toArray W fun e w' => e = .returned (.bool true) ∧ Below W.heap.size W w' := by
  have h' : wh (Nat.ble nx 65536) (wh (allIn init nx) (layAll init (all4 .dead) (fun h => rec true f args ⟨h, nx, 0, 0⟩ (isTrueK init)))) = true := h
  rw [wh_iff, wh_iff] at h'
  obtain ⟨h1, h2, h4⟩ := h'
  have hn0 : nx ≤ 65536 := Nat.le_of_ble_eq_true h1
  have hpre := allIn_eq _ _ h2
  rw [all4_mk, layAll_eq _ _ hn0 _ _ (fun p hp => (hpre _ (mem_toB hp)).1)] at h4
  have are : ∀ i, Al (lays (toB init) fun _ => HB.dead) i → ∃ p ∈ init, p.1 = i ∧ (lays (toB init) fun _ => HB.dead) i = hbOf p.2 := by
    intro i ha
    rcases lays_or (toB init) (fun _ => HB.dead) i with ⟨q, _⟩ | ⟨b, q, e⟩
    · exact (ha q).elim
    · obtain ⟨p, hp, hq⟩ := List.mem_map.1 q
      cases hq
      exact ⟨p, hp, rfl, e⟩
  have hW0 : Wf (⟨mk4 (lays (toB init) fun _ => .dead), nx, 0, 0⟩ : St) (lays (toB init) fun _ => .dead) := by
    refine ⟨rfl, hn0, fun i hi => ?_, fun i => ?_⟩
    · rcases lays_or (toB init) (fun _ => .dead) i with ⟨q, _⟩ | ⟨b, q, _⟩
      · exact q
      · have := (hpre _ q).1
        have hi : nx ≤ i := hi
        simp only at this; omega
    · rcases lays_or (toB init) (fun _ => .dead) i with ⟨q, _⟩ | ⟨b, q, e⟩
      · rw [q]; trivial
      · rw [e]; exact (hpre _ q).2.2
  obtain ⟨v, s', hk, hs⟩ := hrec.call f args _ _ h4 ⟨_, hW0⟩
  obtain ⟨sh, snx, sr, sw⟩ := s'
  have hk' : wh (eqV (.mk 2 1 0 0 0 []) v) (keptB init sw) = true := hk
  rw [wh_iff] at hk'
  obtain ⟨k1, k2⟩ := hk'
  have k1 := eqV_eq _ _ k1
  subst k1
  obtain ⟨G', rm, wm, m0, run⟩ := hs _ hW0
  have hwm : sw = wm := by have := m0.w; rw [show (0 ||| wm : Nat) = wm from Nat.zero_or _] at this; exact this
  subst hwm
  have hpre' : Pre P (fun i => i < nx) R (lays (toB init) fun _ => HB.dead) nx (rm ||| sw) W := by
    constructor
    · intro i hi _ ha
      obtain ⟨p, hp, rfl, e⟩ := are i ha
      rw [e]
      exact ⟨hi, hrep p hp⟩
    · intro i j hi hj _ _ hai haj he
      obtain ⟨p, hp, rfl, _⟩ := are i hai
      obtain ⟨q, hq, rfl, _⟩ := are j haj
      exact hinj p hp q hq he
  have hc := (run (fun i => i < nx) R W (fun i hi hn => by have := hn.1; have hi : i < nx := hi; simp only at this; omega) hpre' xs hargs hglob).2
  have hc : CallsIn Fence.wide 0 P f xs.toArray W _ := hc
  rw [callsIn_wide] at hc
  refine hc.mono fun e w' hg => ?_
  cases e with
  | returned x =>
    obtain ⟨R', hp, hv⟩ : ∃ R', Post P _ R _ G' nx snx (rm ||| sw) sw W R' w' ∧ Den _ R' _ x := hg
    have hx : den R' (.mk 2 1 0 0 0 []) = x := hv R' (Agr.refl _ _)
    refine ⟨by rw [← hx]; simp [den], hp.os, hp.tape, hp.out, hp.size, fun b hb => hp.keep b hb fun i hi hw ha => ?_⟩
    obtain ⟨p, hp', rfl, _⟩ := are i ha
    exfalso
    refine keptB_eq init sw k2 p hp' ?_
    have hlt : p.1 < 65536 := by have hi : p.1 < nx := hi; omega
    have e : Go.Ev.hs p.1 = p.1 := Nat.mod_eq_of_lt hlt
    rw [In, e] at hw
    exact hw
  | _ => exact hg.elim
theorem closed_calls {E : Env} (hE : EnvOk P E) {ms : List Memo} (hms : ∀ m ∈ ms, MemoOk P m) {n f nx : Nat} {args : List V} {init : List (Nat × LB)} (h : closed E ms n f args nx init = true)
    {W : World} {R : Ren} {xs : List Value}
    (hrep : ∀ p ∈ init, R.at_ p.1 < W.heap.size ∧ BRep P (fun i => i < nx) R p.1 (hbOf p.2) W.heap[R.at_ p.1]?)
    (hinj : ∀ p ∈ init, ∀ q ∈ init, R.at_ p.1 = R.at_ q.1 → p.1 = q.1)
    (hargs : DenL (fun i => i < nx) R args xs) (hglob : Glob P (fun i => i < nx) R) :
    Go.Calls P f xs.toArray W fun e w' => e = .returned (.bool true) ∧ Below W.heap.size W w' := closedR_calls (reckonerM hE hms n) h hrep hinj hargs hglob
end Go.Ev
/- A row whose law is a closed call: its arguments are integers of which only the signs are looked at; what lies at the start is one table of the program's. -/
namespace Go.Ev
open Go.ChangeShapes Go.WideShapes Go.ChangeAt Go.RowKit

/-- an integer as a number of which the sign is told -/
def sgn (a : Int) : Nat := if 0 ≤ a then 0 else 1
def mag (a : Int) : Nat := if 0 ≤ a then a.toNat else (-a - 1).toNat
theorem den_sgn (R : Ren) (i : Nat) (a : Int) (ha : (Lit.int .i64 a).wf = true) (hr : R.room i = mag a) : den R (.mk 18 i (sgn a) 0 0 []) = .int .i64 a := by
  rw [den_18, hr]
  have h : IntKind.i64.min ≤ a ∧ a ≤ IntKind.i64.max := by simpa [Lit.wf] using ha
  have e1 : IntKind.i64.min = -9223372036854775808 := by decide
  have e2 : IntKind.i64.max = 9223372036854775807 := by decide
  rw [e1, e2] at h
  congr 1
  unfold sgn mag
  by_cases h0 : 0 ≤ a
  · simp only [h0, if_true]
    rw [Nat.mod_eq_of_lt (by omega)]
    omega
  · simp only [h0, if_false]
    rw [Nat.mod_eq_of_lt (by omega)]
    simp only [Nat.one_ne_zero, if_false]
    omega
theorem sgn_or (a : Int) : sgn a = 0 ∨ sgn a = 1 := by unfold sgn; split <;> simp

/-- a text, and a slice, of which nothing is looked at -/
theorem den_rest (R : Ren) (i c : Nat) (a : Int) (ha : (Lit.int .i64 a).wf = true) (hr : R.room i = a.natAbs / c) : den R (.mk 21 i (sgn a) c (a.natAbs % c) []) = .int .i64 a := by
  have h : IntKind.i64.min ≤ a ∧ a ≤ IntKind.i64.max := by simpa [Lit.wf] using ha
  have e1 : IntKind.i64.min = -9223372036854775808 := by decide
  have e2 : IntKind.i64.max = 9223372036854775807 := by decide
  rw [e1, e2] at h
  have e : a.natAbs / c * c + a.natAbs % c = a.natAbs := by rw [Nat.mul_comm]; exact Nat.div_add_mod _ _
  have : den R (.mk 21 i (sgn a) c (a.natAbs % c) []) = .int .i64 (modZ (R.room i) (sgn a) c (a.natAbs % c)) := by simp only [den]
  rw [this, hr]
  unfold modZ sgn
  rw [e]
  by_cases h0 : 0 ≤ a
  · simp only [h0, if_true]
    rw [if_pos (by omega)]
    congr 1
    omega
  · simp only [h0, if_false]
    rw [if_neg (by decide), if_pos (by omega)]
    congr 1
    omega
theorem rest5_or (a : Int) : a.natAbs % 5 = 0 ∨ a.natAbs % 5 = 1 ∨ a.natAbs % 5 = 2 ∨ a.natAbs % 5 = 3 ∨ a.natAbs % 5 = 4 := by omega

theorem den_txt (R : Ren) (i j : Nat) (s : ByteArray) (h1 : R.room i = s.size) (h2 : R.room j = ofBytes s.data.toList) : den R (.mk 19 i j 0 0 []) = .string s := by
  simp only [den]
  rw [h1, h2, textOf_ofBytes]
def spotN (x : Option Nat) : Nat := match x with | none => 0 | some k => k + 1
theorem den_slc (R : Ren) (i j k l : Nat) (a : Addr) (len cap : Nat) (h0 : R.at_ i = a.block) (h1 : R.room i = a.off) (h2 : R.room j = len) (h3 : R.room k = cap) (h4 : R.room l = spotN a.spot) :
    den R (.mk 20 i j k l []) = .slice (some a) len cap := by
  simp only [den]
  rw [h0, h1, h2, h3, h4]
  obtain ⟨b, o, sp⟩ := a
  cases sp <;> simp [spotN]

/-- the row of a law, with what the start's shape says of memory -/
theorem handed_shaped {a : Assume} {C : Checked} {os : Os} {f : FuncId} {fn : Func} {H : Type} {enc : TypeId × Value → H} {s : ChangeSpec} {conds : List PathCond} {apart fresh handsOn again : Bool} {X : World → Array Value → Prop}
    (hX : ∀ (w w' : World) (args : Array Value), w.heap = w'.heap → X w args → X w' args)
    (own : ownKnob C.prog.godebug = none) (started : os.Started) (noInit : C.prog.inits.idxOf? f = none) (hfn : C.prog.funcs[f]? = some fn)
    (witness : ∃ (w : World) (tape : Tape) (i : Input), w.os = os ∧ (w.forCall tape i).Shaped C.prog ∧ i.vars = [] ∧ Input.okWide C.prog (w.forCall tape i) .any w.heap.size f i ∧
      ((s.pre enc C.prog fn conds apart (w.forCall tape i).memory i.args ∧ X (w.forCall tape i).memory i.args) ∧ sizedMet enc C.prog fn (OpenSpec.ofChange s) apart (w.forCall tape i).memory i.args) ∧ a.holds C.prog (lone (Frame.enter C.prog f i.args .normal) [] (w.forCall tape i)))
    (contract : ∀ (W : World) (base : Nat) (args : Array Value) (ds gs : List (DataW H)) (before : List MemPlace), W.ShapedOpen C.prog →
      (∀ (j : Nat) t v, fn.params[j]? = some t → args[j]? = some v → Value.okWide C.prog W .any base t v) →
      DataW.Whole enc C.prog fn.params.toList s.vars apart W args.toList ds gs before → X W args →
      Go.Calls C.prog f args W fun e W' => ∃ v, e = .returned v ∧ s.post enc C.prog fn apart fresh handsOn again W args v W') :
    ReturnsInHanded a C os f .any (fun w args => (s.pre enc C.prog fn conds apart w args ∧ X w args) ∧ sizedMet enc C.prog fn (OpenSpec.ofChange s) apart w args) (s.post enc C.prog fn apart fresh handsOn again) := by
  refine returnsInHanded_of_calls own started noInit witness ?_
  intro w tape i _ hsh _ hok hpre _
  obtain ⟨_, _, _, fn', hfn', _, _, _, _, hval⟩ := hok
  have e : fn' = fn := Option.some.inj (hfn'.symm.trans hfn)
  subst e
  obtain ⟨⟨⟨ds, gs, before, hw, hc⟩, hx⟩, hz⟩ := hpre
  have hw' := DataW.Whole.of_heap (w' := w.forCall tape i) (by rfl) hw
  refine (contract (w.forCall tape i) w.heap.size i.args ds gs before hsh hval hw' (hX _ _ _ (by rfl) hx)).mono fun e W' ⟨v, he, hp⟩ => ?_
  subst he
  exact ChangeSpec.post_blind hp
end Go.Ev
/- The keys of a map of numbers, sorted: a call whose contract is told, within the reckoning. -/
namespace Go.Ev
open Go.RowKit Go.MapKept
noncomputable section
variable (E : Env)

def insN (x : Nat) (l : List Nat) : List Nat := List.rec (motive := fun _ => List Nat) [x] (fun y r ih => Bool.rec (motive := fun _ => List Nat) (y :: ih) (x :: y :: r) (Nat.ble x y)) l
def sortN (l : List Nat) : List Nat := List.rec (motive := fun _ => List Nat) [] (fun x _ ih => insN x ih) l
/-- rising from a number on -/
def ascB (l : List Nat) : Nat → Bool := List.rec (motive := fun _ => Nat → Bool) (fun _ => true) (fun x _ ih n => wh (Nat.ble n x) (ih (Nat.add x 1))) l
def belowB (l : List Nat) (n : Nat) : Bool := List.rec (motive := fun _ => Bool) true (fun x _ ih => wh (lt x n) ih) l
def loneV (l : List V) (k : V → Bool) : Bool := match l with | [v] => k v | _ => false
def pairV (l : List V) (k : V → Bool) : Bool := match l with | [v, _] => k v | _ => false
def entK (es : List V) : (List Nat → List Nat → Bool) → Bool :=
  List.rec (motive := fun _ => (List Nat → List Nat → Bool) → Bool) (fun k => k [] []) (fun e _ ih k => vB e (fun t b _ _ _ l => wh (Nat.beq t 17) (pairV l (fun kv => vB kv (fun u a _ _ _ _ => wh (Nat.beq u 38) (wh (lt a 9223372036854775808) (ih (fun bs ks => k (b :: bs) (a :: ks)))))))) ) es
def numV (n : Nat) : V := .mk 38 n 0 0 0 []
def keysEnd (el : Nat) (ns : List Nat) (s : St) (K : KV) : Bool :=
  match ns with
  | [] => K (.mk 8 0 0 0 0 []) s
  | n :: r => fresh s (.row el 2 ((n :: r).map numV)) (fun id s => K (.mk 7 id 0 (lengthN ((n :: r).map numV)) 1 []) s)
def keysM (el : Nat) (m : Nat) (s : St) (K : KV) : Bool :=
  look s m (fun hb s => mapB hb (fun es clock => entK es (fun bs ks => wh (belowB bs clock) (wh (ascB bs 0) (wh (ascB (sortN ks) 0) (wh (Nat.ble es.length 1000000) (keysEnd el (sortN ks) s K)))))))
def keysC (el : Nat) (c : Nat) (s : St) (K : KV) : Bool :=
  look s c (fun hb s => rowB hb (fun _ op cs => wh (Nat.beq op 0) (loneV cs (fun mv => vB mv (fun q m _ _ _ _ => wh (Nat.beq q 9) (keysM el m s K))))))
def keysK (fK el : Nat) (args : List V) (s : St) (K : KV) : Bool :=
  loneV args (fun f => vB f (fun t a b _ _ l => wh (Nat.beq t 11) (wh (Nat.beq a fK) (wh (Nat.beq b 0) (loneV l (fun p => vB p (fun u c o _ _ _ => wh (Nat.beq u 4) (wh (Nat.beq o 0) (keysC el c s K)))))))))
structure KO where
  fS : Nat
  fK : Nat
  el : Nat
def stepK (o : KO) (ms : List Memo) (rec : Rec) (b : Bool) (f : Nat) (args : List V) (s : St) (K : KV) : Bool :=
  ifB b (match o with | ⟨fS, fK, el⟩ => ifB (Nat.beq f fS) (keysK fK el args s K) (findM ms f args s K (tCall E rec f args s K))) (tRound E rec f args s K)
def evK (o : KO) (ms : List Memo) (n : Nat) : Rec := Nat.rec (motive := fun _ => Rec) (fun _ _ _ _ _ => false) (fun _ ih => stepK E o ms ih) n
end

theorem loneV_inv {l : List V} {k : V → Bool} (h : loneV l k = true) : ∃ v, l = [v] ∧ k v = true := by
  unfold loneV at h
  split at h
  · exact ⟨_, rfl, h⟩
  · cases h
theorem pairV_inv {l : List V} {k : V → Bool} (h : pairV l k = true) : ∃ v u, l = [v, u] ∧ k v = true := by
  unfold pairV at h
  split at h
  · exact ⟨_, _, rfl, h⟩
  · cases h
theorem insN_perm (x : Nat) (l : List Nat) : (insN x l).Perm (x :: l) := by
  induction l with
  | nil => exact List.Perm.refl _
  | cons y r ih =>
    show (Bool.rec (motive := fun _ => List Nat) (y :: insN x r) (x :: y :: r) (Nat.ble x y)).Perm _
    cases Nat.ble x y with
    | true => exact List.Perm.refl _
    | false => exact (List.Perm.cons y ih).trans (List.Perm.swap x y r)
theorem sortN_perm (l : List Nat) : (sortN l).Perm l := by
  induction l with
  | nil => exact List.Perm.refl _
  | cons x l ih => exact (insN_perm x (sortN l)).trans (List.Perm.cons x ih)
theorem ascB_lt : ∀ (l : List Nat) (n : Nat), ascB l n = true → l.Pairwise (· < ·) ∧ ∀ x ∈ l, n ≤ x := by
  intro l
  induction l with
  | nil => intro n _; exact ⟨List.Pairwise.nil, by simp⟩
  | cons x l ih =>
    intro n h
    have h' : wh (Nat.ble n x) (ascB l (Nat.add x 1)) = true := h
    rw [wh_iff] at h'
    obtain ⟨h1, h2⟩ := ih _ h'.2
    have h0 := Nat.le_of_ble_eq_true h'.1
    refine ⟨List.pairwise_cons.2 ⟨fun y hy => ?_, h1⟩, fun y hy => ?_⟩
    · have : x + 1 ≤ y := h2 y hy
      omega
    · rcases List.mem_cons.1 hy with e | e
      · rw [e]; exact h0
      · have : x + 1 ≤ y := h2 y e
        omega
theorem belowB_lt (l : List Nat) (n : Nat) (h : belowB l n = true) : ∀ x ∈ l, x < n := by
  induction l with
  | nil => simp
  | cons x l ih =>
    have h' : wh (lt x n) (belowB l n) = true := h
    rw [wh_iff, lt_iff] at h'
    intro y hy
    rcases List.mem_cons.1 hy with e | e
    · rw [e]; exact h'.1
    · exact ih h'.2 y e

theorem entK_inv : ∀ (es : List V) (k : List Nat → List Nat → Bool), entK es k = true → ∃ bs ks, k bs ks = true ∧ (∀ a ∈ ks, a < 9223372036854775808) ∧
    ∀ D R xs, EReps D R es xs → xs.map (·.born) = bs ∧ xs.map (·.key) = ks.map fun n : Nat => Value.int .i64 (n : Int) := by
  intro es
  induction es with
  | nil =>
    intro k h
    refine ⟨[], [], h, by simp, fun D R xs hx => ?_⟩
    cases hx
    exact ⟨rfl, rfl⟩
  | cons e es ih =>
    intro k h
    obtain ⟨t, b, c1, c2, c3, l⟩ := e
    have h' : wh (Nat.beq t 17) (pairV l (fun kv => vB kv (fun u a _ _ _ _ => wh (Nat.beq u 38) (wh (lt a 9223372036854775808) (entK es (fun bs ks => k (b :: bs) (a :: ks))))))) = true := h
    rw [wh_iff] at h'
    obtain ⟨_, h'⟩ := h'
    obtain ⟨kv, v, rfl, h'⟩ := pairV_inv h'
    clear h
    · obtain ⟨u, a, a1, a2, a3, l'⟩ := kv
      replace h' : wh (Nat.beq u 38) (wh (lt a 9223372036854775808) (entK es (fun bs ks => k (b :: bs) (a :: ks)))) = true := h'
      rw [wh_iff, wh_iff, lt_iff] at h'
      obtain ⟨hu, ha, h9⟩ := h'
      have hu := Nat.eq_of_beq_eq_true hu
      subst hu
      obtain ⟨bs, ks, h1, h2, h3⟩ := ih _ h9
      refine ⟨b :: bs, a :: ks, h1, fun x hx => ?_, fun D R xs hx => ?_⟩
      · rcases List.mem_cons.1 hx with e | e
        · rw [e]; exact ha
        · exact h2 x e
      · cases hx with
        | cons hx hxs =>
          rename_i x xs
          obtain ⟨q1, q2⟩ := h3 D R _ hxs
          have hb : b = x.born := by
            obtain ⟨_, _, e, _, _⟩ := hx
            injection e with _ e2 _ _ _ _
          obtain ⟨k1, _, _⟩ := erep_key (K := 6) (a' := a) hx
          refine ⟨by rw [List.map_cons, q1, hb], ?_⟩
          rw [List.map_cons, List.map_cons, q2, k1]
          congr 1
          have hw := wrap_ext 6 a (by omega) (by simp [kindOf, IntKind.bits]; omega)
          have he : Nat.land a (signN 6) = 0 := (top_bit 63 a (by omega)).2 (by omega)
          rw [if_pos he] at hw
          show Value.int (kindOf 6) ((kindOf 6).wrap a) = _
          rw [hw]; rfl

/-- what is told of slices.Sorted(maps.Keys(m)): function fS at the closure fK of a cell that holds the map -/
structure KeysDo (P : Program) (fS fK el : Nat) : Prop where
  enters : ∀ args w, (callFunc fS args).run P w = .ok (.enter fS args) w
  calls : ∀ (w : World) (cb mb : Nat) (es : Array MapEntry) (clock : Nat) (ks : List Int), w.cell? ⟨cb, 0, none⟩ = some (.map (some mb)) → cb < w.heap.size → w.heap[mb]? = some (.map es clock) →
    es.size ≤ 1000000 → Stamped es clock → es.toList.map (·.key) = ks.map (Value.int .i64) → (∀ k ∈ ks, (Lit.int .i64 k).wf = true) →
    Go.Calls P fS #[.func (.func fK) #[] #[.pointer (some ⟨cb, 0, none⟩)]] w fun e w' => ∃ (v : Value) (ss : List Int), e = .returned v ∧ ss.Perm ks ∧ ss.Pairwise (· ≤ ·) ∧ w'.ownsRow w.heap.size el 1 v ss.length (ss.map (Value.int .i64)) ∧ (v = .slice none 0 0 ↔ ss = []) ∧ Below w.heap.size w w'

theorem nodup_of_map {α β : Type} {f : α → β} {l : List α} (h : (l.map f).Nodup) : l.Nodup := by
  induction l with
  | nil => exact List.nodup_nil
  | cons a l ih =>
    rw [List.map_cons, List.nodup_cons] at h
    exact List.nodup_cons.2 ⟨fun ha => h.1 (List.mem_map_of_mem ha), ih h.2⟩
theorem sorted_unique {l m : List Int} (h : l.Perm m) (hl : l.Pairwise (· ≤ ·)) (hm : m.Pairwise (· ≤ ·)) : l = m :=
  List.Perm.eq_of_pairwise (fun _a _b _ _ h1 h2 => Int.le_antisymm h1 h2) hl hm h
theorem asc_le {l : List Nat} {n : Nat} (h : ascB l n = true) : (l.map fun x : Nat => (x : Int)).Pairwise (· ≤ ·) := by
  rw [List.pairwise_map]
  exact (ascB_lt l n h).1.imp fun {a b} hab => by omega
theorem asc_nodup {l : List Nat} {n : Nat} (h : ascB l n = true) : l.Nodup := (ascB_lt l n h).1.imp fun {a b} hab => by omega

theorem denL_numV (R : Ren) (l : List Nat) (h : ∀ a ∈ l, a < 9223372036854775808) : cellsOf R (l.map numV) = l.map fun n : Nat => Value.int .i64 (n : Int) := by
  induction l with
  | nil => simp [cellsOf]
  | cons a l ih =>
    rw [List.map_cons, List.map_cons]
    show cellsOf R (.mk 38 a 0 0 0 [] :: l.map numV) = _
    rw [cellsOf_one _ _ _ _ _ _ _ _ (by decide), ih fun b hb => h b (by simp [hb])]
    congr 1
    rw [show (V.mk 38 a 0 0 0 []) = .mk (6 + 32) a 0 0 0 [] from rfl, den_int]
    have ha := h a (by simp)
    have hw := wrap_ext 6 a (by omega) (by simp [kindOf, IntKind.bits]; omega)
    have he : Nat.land a (signN 6) = 0 := (top_bit 63 a (by omega)).2 (by omega)
    rw [if_pos he] at hw
    rw [hw]; rfl

/-- the reading of two blocks, and a block more: what a call with a contract does -/
theorem keys_snd {P : Program} {fS fK el : Nat} (hP : KeysDo P fS fK el) {args : List V} {s : St} {K : KV} (hk : keysK fK el args s K = true) (hw : ∃ G, Wf s G) :
    ∃ v s', K v s' = true ∧ Snd P (CallDoes P fS args) (ValQ v) s s' := by
  obtain ⟨G, hG⟩ := hw
  obtain ⟨f, rfl, hk⟩ := loneV_inv hk
  obtain ⟨t, a, b, c1, c2, l⟩ := f
  replace hk : wh (Nat.beq t 11) (wh (Nat.beq a fK) (wh (Nat.beq b 0) (loneV l (fun p => vB p (fun u c o _ _ _ => wh (Nat.beq u 4) (wh (Nat.beq o 0) (keysC el c s K))))))) = true := hk
  rw [wh_iff, wh_iff, wh_iff] at hk
  obtain ⟨e1, e2, e3, hkA⟩ := hk
  try clear hk
  have e1 := Nat.eq_of_beq_eq_true e1
  have e2 := Nat.eq_of_beq_eq_true e2
  have e3 := Nat.eq_of_beq_eq_true e3
  subst e1 e2 e3
  obtain ⟨p, rfl, hk⟩ := loneV_inv hkA
  try clear hkA
  obtain ⟨u, c, o, d1, d2, l'⟩ := p
  replace hk : wh (Nat.beq u 4) (wh (Nat.beq o 0) (keysC el c s K)) = true := hk
  rw [wh_iff, wh_iff] at hk
  obtain ⟨e1, e2, hkB⟩ := hk
  try clear hk
  have e1 := Nat.eq_of_beq_eq_true e1
  have e2 := Nat.eq_of_beq_eq_true e2
  subst e1 e2
  obtain ⟨hc, hk⟩ := look_eq hG c _ hkB
  try clear hkB
  obtain ⟨el', cs, hbc, hk⟩ : ∃ el' cs, G c = .row el' 0 cs ∧ loneV cs (fun mv => vB mv (fun q m _ _ _ _ => wh (Nat.beq q 9) (keysM el m { s with r := s.r ||| mask c } K))) = true := by
    revert hk
    generalize G c = hb
    intro hk
    cases hb with
    | row x y z =>
      replace hk : wh (Nat.beq y 0) (loneV z (fun mv => vB mv (fun q m _ _ _ _ => wh (Nat.beq q 9) (keysM el m { s with r := s.r ||| mask c } K)))) = true := hk
      rw [wh_iff] at hk
      have e := Nat.eq_of_beq_eq_true hk.1
      subst e
      exact ⟨x, z, rfl, hk.2⟩
    | _ => cases hk
  obtain ⟨mv, rfl, hk⟩ := loneV_inv hk
  obtain ⟨q, m, m1, m2, m3, m4⟩ := mv
  replace hk : wh (Nat.beq q 9) (keysM el m { s with r := s.r ||| mask c } K) = true := hk
  rw [wh_iff] at hk
  obtain ⟨e1, hkC⟩ := hk
  try clear hk
  have e1 := Nat.eq_of_beq_eq_true e1
  subst e1
  have hG1 : Wf { s with r := s.r ||| mask c } G := ⟨hG.h, hG.nx, hG.beyond, hG.ok⟩
  obtain ⟨hm, hkD⟩ := look_eq hG1 m _ hkC
  try clear hkC
  have hm : m < s.nx := hm
  obtain ⟨es, clock, hbm, hkE⟩ := mapB_inv hkD
  try clear hkD
  obtain ⟨bs, ks, hkF, hsmall, hreps⟩ := entK_inv es _ hkE
  try clear hkE
  rw [wh_iff, wh_iff, wh_iff, wh_iff] at hkF
  obtain ⟨k1, k2, k3, k4, hk⟩ := hkF
  try clear hkF
  have k4 : es.length ≤ 1000000 := Nat.le_of_ble_eq_true k4
  have hsn : ∀ x ∈ sortN ks, x < 9223372036854775808 := fun x hx => hsmall x ((sortN_perm ks).mem_iff.1 hx)
  have hG2 : Wf { s with r := s.r ||| mask c ||| mask m } G := ⟨hG.h, hG.nx, hG.beyond, hG.ok⟩
  -- what the machine's call does
  have run : ∀ D R w, (∀ x, In (mask c ||| mask m) x → x < s.nx → Al G x → D x ∧ R.at_ x < w.heap.size ∧ BRep P D R x (G x) w.heap[R.at_ x]?) →
      ∀ xs, DenL D R [.mk 11 a 0 c1 c2 [.mk 4 c 0 d1 d2 l']] xs → Go.Calls P fS xs.toArray w fun e w' => ∃ (v : Value), e = .returned v ∧
        w'.ownsRow w.heap.size el 1 v (sortN ks).length ((sortN ks).map fun n : Nat => Value.int .i64 (n : Int)) ∧ (v = .slice none 0 0 ↔ sortN ks = []) ∧ Below w.heap.size w w' := by
    intro D R w hpre xs hxs
    have hx := hxs R (Agr.refl _ _)
    obtain ⟨h1, h2, h3⟩ := hpre c (in_or.2 (.inl (mask_in c))) hc (by rw [Al, hbc]; simp)
    obtain ⟨g1, g2, g3⟩ := hpre m (in_or.2 (.inr (mask_in m))) hm (by rw [Al, hbm]; simp)
    rw [hbc] at h3
    rw [hbm] at g3
    obtain ⟨cc, lo, hi, ho, _, pre, xs0, spare, hden, hlist, hbl, hop, _⟩ := h3
    have hb0 := (hop rfl).2
    rw [hb0] at hbl
    obtain rfl := List.eq_nil_of_length_eq_zero hbl
    rw [List.nil_append] at hlist
    simp only [denL, den, List.take_zero, List.drop_zero, hb0] at hx
    subst hx
    have hcell := hden R (Agr.refl _ _)
    simp only [cellsOf, den, List.append_nil] at hcell
    obtain ⟨mes, hmo, hlen, hent⟩ := g3
    have hER : EReps D R es mes.toList := EReps.of es mes.toList (by simpa using hlen) fun i hi => by
      obtain ⟨e, q1, q2⟩ := hent i (by simpa using hi)
      exact ⟨e, q1, by simpa using q2⟩
    obtain ⟨r1, r2⟩ := hreps D R _ hER
    have hst : Stamped mes clock := by
      refine ⟨fun x hx => ?_, ?_, ?_⟩
      · exact belowB_lt bs clock k1 _ (by rw [← r1]; exact List.mem_map_of_mem hx)
      · rw [r1]; exact asc_nodup k2
      · rw [r2]
        show List.Pairwise _ _
        rw [List.pairwise_map]
        refine List.Pairwise.imp (fun {x y} hxy he => hxy ?_) ((sortN_perm ks).nodup_iff.1 (asc_nodup k3))
        simp only [Value.int.injEq, true_and] at he
        omega
    have hcall := hP.calls w (R.at_ c) (R.at_ m) mes clock (ks.map fun n : Nat => (n : Int)) (by
        have e : w.cell? ⟨R.at_ c, 0, none⟩ = cc[0]? := by simp [World.cell?, ho]
        rw [e, show cc[0]? = cc.toList[0]? by simp, hlist, ← hcell]
        rfl) h2 hmo (by rw [← hlen]; exact k4) hst (by rw [r2, List.map_map]; rfl) (fun k hk' => by
        obtain ⟨n, hn, rfl⟩ := List.mem_map.1 hk'
        have := hsmall n hn
        simp only [Lit.wf, Bool.and_eq_true, decide_eq_true_eq]
        have e1 : IntKind.i64.min = -9223372036854775808 := by decide
        have e2 : IntKind.i64.max = 9223372036854775807 := by decide
        rw [e1, e2]; omega)
    refine hcall.mono fun e w' ⟨v, ss, he, hperm, hsort, hrow, hnil, hbel⟩ => ?_
    have hss : ss = (sortN ks).map fun n : Nat => (n : Int) := sorted_unique (hperm.trans (List.Perm.map _ (sortN_perm ks).symm)) hsort (asc_le k3)
    subst hss
    rw [List.length_map, List.map_map] at hrow
    refine ⟨v, he, hrow, ?_, hbel⟩
    rw [hnil]; simp
  clear hreps
  unfold keysEnd at hk
  split at hk
  · rename_i hns
    refine ⟨_, _, hk, fun G' hG' => ?_⟩
    have := wf_unique hG hG'
    subst this
    refine ⟨G', mask c ||| mask m, 0, ⟨⟨hG.h, hG.nx, hG.beyond, hG.ok⟩, Nat.le_refl _, (Nat.or_assoc _ _ _), by simp, fun _ _ _ => rfl, fun _ _ h => h⟩, fun D R w hD hpre xs hxs _ => ?_⟩
    refine ⟨fun w => hP.enters _ w, callsIn_wide.2 ((run D R w (fun x hx hlt ha => hpre.rep x hlt (in_or.2 (.inl hx)) ha) xs hxs).mono fun e w' ⟨v, he, hrow, hnil, hbel⟩ => ?_)⟩
    subst he
    have hv := hnil.2 hns
    subst hv
    refine ⟨R, ⟨fun _ _ => ⟨rfl, rfl, rfl⟩, fun i hi ha => ?_, fun i j hi hj hai haj he => ?_, fun i hi => by have := hi.1; have := hi.2; simp only at *; omega, fun b hb _ => hbel.block b hb, hbel.size, hbel.tape, hbel.os, hbel.output⟩, fun R' _ => by simp [den]⟩
    · rcases hi with hi | hi
      · obtain ⟨p1, p2, p3⟩ := hpre.rep i hi.1 hi.2 ha
        refine ⟨Nat.lt_of_lt_of_le p2 hbel.size, ?_⟩
        rw [hbel.block _ p2]
        exact p3.more P p1 Plus.sub (Agr.refl _ _)
      · have := hi.1; have := hi.2; simp only at *; omega
    · rcases hi with hi | hi <;> rcases hj with hj | hj
      · exact hpre.inj i j hi.1 hj.1 hi.2 hj.2 hai haj he
      all_goals (exfalso; first | (have := hj.1; have := hj.2; simp only at *; omega) | (have := hi.1; have := hi.2; simp only at *; omega))
  · rename_i n r hns
    rw [← hns] at hk
    obtain ⟨hn, hk⟩ := fresh_eq hG2 _ _ hk
    have hn : s.nx < 65536 := hn
    refine ⟨_, _, hk, fun G' hG' => ?_⟩
    have := wf_unique hG hG'
    subst this
    refine ⟨upd G' s.nx (.row el 2 ((sortN ks).map numV)), mask c ||| mask m, 0, ⟨?_, Nat.le_succ _, (Nat.or_assoc _ _ _), by simp, fun i hi hni => ?_, fun i hi hd => ?_⟩, fun D R w hD hpre xs hxs _ => ?_⟩
    · exact ⟨rfl, hn, fun i hi => by
        have hi : s.nx + 1 ≤ i := hi
        rw [upd_other _ _ _ _ (by omega)]; exact hG.beyond i (by omega), fun i => by
        by_cases e : i = s.nx
        · rw [e, upd_same]; trivial
        · rw [upd_other _ _ _ _ e]; exact hG.ok i⟩
    · rw [upd_other _ _ _ _ (fun e => hni ⟨by rw [e]; exact Nat.le_refl _, by rw [e]; exact Nat.lt_succ_self _⟩)]
    · rw [upd_other _ _ _ _ (by omega)]; exact hd
    · refine ⟨fun w => hP.enters _ w, callsIn_wide.2 ((run D R w (fun x hx hlt ha => hpre.rep x hlt (in_or.2 (.inl hx)) ha) xs hxs).mono fun e w' ⟨v, he, hrow, hnil, hbel⟩ => ?_)⟩
      subst he
      obtain ⟨hrl, hrow⟩ := hrow
      rcases hrow with ⟨hv, h0⟩ | ⟨g, cap, cur, hv, hg, hblk, hnc, hcap, hcs, htake⟩
      · rw [hns] at h0; simp at h0
      subst hv
      have hgl : g < w'.heap.size := (Array.getElem?_eq_some_iff.1 hblk).1
      have hnD : ¬ D s.nx := fun h => hD _ h ⟨Nat.le_refl _, Nat.lt_succ_self _⟩
      let R' : Ren := { at_ := fun i => if i = s.nx then g else R.at_ i, room := fun i => if i = s.nx then cap else R.room i, base := fun i => if i = s.nx then 0 else R.base i }
      have ag : Agr D R R' := fun i hi => by
        have : i ≠ s.nx := fun e => hnD (e ▸ hi)
        simp [R', this]
      have old : ∀ {i}, i ≠ s.nx → R'.at_ i = R.at_ i := fun {i} h => by simp [R', h]
      have new : R'.at_ s.nx = g := by simp [R']
      have newB : R'.base s.nx = 0 := by simp [R']
      have isNew : ∀ {i}, New s.nx (s.nx + 1) i → i = s.nx := fun {i} h => by have := h.1; have := h.2; omega
      have hup : ∀ {i}, i ≠ s.nx → upd G' s.nx (.row el 2 ((sortN ks).map numV)) i = G' i := fun {i} h => upd_other _ _ _ _ h
      have hal : ∀ {i}, i ≠ s.nx → Al (upd G' s.nx (.row el 2 ((sortN ks).map numV))) i → Al G' i := fun {i} h ha => by rw [Al, ← hup h]; exact ha
      refine ⟨R', ⟨fun i hi => ?_, fun i hi ha => ?_, fun i j hi hj hai haj he => ?_, fun i hi _ => ?_, fun b hb _ => hbel.block b hb, hbel.size, hbel.tape, hbel.os, hbel.output⟩, fun R'' ha'' => ?_⟩
      · have : i ≠ s.nx := fun e => hi (by rw [e]; exact ⟨Nat.le_refl _, Nat.lt_succ_self _⟩)
        simp [R', this]
      · by_cases e : i = s.nx
        · subst e
          rw [new, upd_same]
          refine ⟨hgl, cur, 0, 0, hblk, .inl rfl, [], ((sortN ks).map fun n : Nat => Value.int .i64 (n : Int)), cur.toList.drop (sortN ks).length, fun R2 _ => denL_numV R2 _ hsn, ?_, by rw [newB]; rfl, by simp, fun z hz => ?_⟩
          · rw [Nat.mul_one] at htake
            rw [← htake, List.take_append_drop, List.nil_append]
          · have : z = 1 := by omega
            subst this
            rw [newB]
            show cur.size = 0 + (if s.nx = s.nx then cap else R.room s.nx) * 1
            rw [if_pos rfl, Nat.zero_add]; exact hcs
        · rcases hi with hi | hi
          · replace ha := hal e ha
            rw [hup e]
            obtain ⟨p1, p2, p3⟩ := hpre.rep i hi.1 hi.2 ha
            rw [old e]
            refine ⟨Nat.lt_of_lt_of_le p2 hbel.size, ?_⟩
            rw [hbel.block _ p2]
            exact p3.more P p1 Plus.sub ag
          · exact (e (isNew hi)).elim
      · by_cases ei : i = s.nx <;> by_cases ej : j = s.nx
        · rw [ei, ej]
        · rcases hj with hj | hj
          · replace haj := hal ej haj
            have := (hpre.rep j hj.1 hj.2 haj).2.1
            rw [ei, new, old ej] at he
            omega
          · exact (ej (isNew hj)).elim
        · rcases hi with hi | hi
          · replace hai := hal ei hai
            have := (hpre.rep i hi.1 hi.2 hai).2.1
            rw [ej, new, old ei] at he
            omega
          · exact (ei (isNew hi)).elim
        · rcases hi with hi | hi
          · rcases hj with hj | hj
            · replace hai := hal ei hai
              replace haj := hal ej haj
              rw [old ei, old ej] at he
              exact hpre.inj i j hi.1 hj.1 hi.2 hj.2 hai haj he
            · exact (ej (isNew hj)).elim
          · exact (ei (isNew hi)).elim
      · have e := isNew hi
        subst e
        rw [new]; exact .inl hg
      · have e1 := ha'' s.nx (.inr ⟨Nat.le_refl _, Nat.lt_succ_self _⟩)
        simp only [den]
        rw [e1.1, e1.2.1, e1.2.2]
        show Value.slice (some ⟨R'.at_ s.nx, R'.base s.nx + (if R'.room s.nx = 0 then 0 else 0 * 1), none⟩) _ (R'.room s.nx - 0) = _
        have er : R'.room s.nx = cap := by simp [R']
        rw [new, er, newB, lengthN_eq]
        simp

/-- THE RECKONER IS RIGHT, with calls that were reckoned ahead, and sorted keys by their contract -/
theorem reckonerK {P : Program} {E : Env} (hE : EnvOk P E) {o : KO} (ho : KeysDo P o.fS o.fK o.el) {ms : List Memo} (hms : ∀ m ∈ ms, MemoOk P m) : ∀ n, RecSnd P (evK E o ms n) := by
  intro n
  induction n with
  | zero => exact ⟨fun f args s K h => (by cases h), fun l args s K h => (by cases h)⟩
  | succ n ih =>
    refine ⟨fun f args s K h hw => ?_, fun l args s K h hw => round_snd hE ih (fun o c hc => hops hE ih o c hc) (show tRound E (evK E o ms n) l args s K = true from h) hw⟩
    obtain ⟨fS, fK, el⟩ := o
    have h' : ifB (Nat.beq f fS) (keysK fK el args s K) (findM ms f args s K (tCall E (evK E ⟨fS, fK, el⟩ ms n) f args s K)) = true := h
    rw [ifB_iff] at h'
    rcases h' with ⟨h1, h2⟩ | ⟨_, h2⟩
    · rw [Nat.eq_of_beq_eq_true h1]
      exact keys_snd ho h2 hw
    · exact findM_ok hms hw (fun hd => call_snd hE ih (fun o c hc => hops hE ih o c hc) hd hw) h2
noncomputable def closedK (E : Env) (o : KO) (ms : List Memo) (n f : Nat) (args : List V) (nx : Nat) (init : List (Nat × LB)) : Bool := closedR (evK E o ms n) f args nx init
theorem closedK_calls {P : Program} {E : Env} (hE : EnvOk P E) {o : KO} (ho : KeysDo P o.fS o.fK o.el) {ms : List Memo} (hms : ∀ m ∈ ms, MemoOk P m) {n f nx : Nat} {args : List V} {init : List (Nat × LB)} (h : closedK E o ms n f args nx init = true)
    {W : World} {R : Ren} {xs : List Value}
    (hrep : ∀ p ∈ init, R.at_ p.1 < W.heap.size ∧ BRep P (fun i => i < nx) R p.1 (hbOf p.2) W.heap[R.at_ p.1]?)
    (hinj : ∀ p ∈ init, ∀ q ∈ init, R.at_ p.1 = R.at_ q.1 → p.1 = q.1)
    (hargs : DenL (fun i => i < nx) R args xs) (hglob : Glob P (fun i => i < nx) R) :
    Go.Calls P f xs.toArray W fun e w' => e = .returned (.bool true) ∧ Below W.heap.size W w' := closedR_calls (reckonerK hE ho hms n) h hrep hinj hargs hglob
end Go.Ev
