/- Package patch: image. -/
import Derived.Test.YtadadidccbhopaaGreatKPallow
import Derived.Deep.RegionWith
namespace Go.Proofs.YtadadidccbhopaaGreat
open Go.RowKit
set_option maxRecDepth 100000
theorem Tryz.zeroA : ∃ Z : Array Value, (∀ w, (zeroValue 131).run Tryz.prog w = .ok (.agg Z) w) ∧ Z.size = 256 ∧ (Tryz.prog.info? 131).map (·.size) = some 256 ∧ Hid (Z = (bvs (List.replicate 256 0)).toArray) := by
  have h : (Tryz.prog.info? 131).map (fun i => (i.zero, i.size)) = some (some (.agg (bvs (List.replicate 256 0)).toArray), 256) := by kernel_rfl
  obtain ⟨h1, h2⟩ := zero_of_info h
  exact ⟨_, h1, by rw [List.size_toArray, bvs_length, List.length_replicate], h2, rfl⟩
/-- The load of a whole content. -/
theorem wpList_load_arr {ops : Array Oper} {rest : List Oper} {op : Oper} {a : Act} {w : World} {Q : Exit → Act → World → Prop} (hgd : op.guard = none) (x : Operand) (ho : op.op = .load 131 x)
    (b o : Nat) (hx : a.eval x = .pointer (some ⟨b, o, none⟩)) (s : List UInt8) (hc : w.rangeAt b o (bvs s)) (hs : s.length = 256)
    (h : wpList Tryz.prog ops Q rest (a.put op.dst (.agg (bvs s).toArray)) w) : wpList Tryz.prog ops Q (op :: rest) a w := by
  obtain ⟨Z, _, _, hinfo, _⟩ := Tryz.zeroA
  exact wpList_load_mid hgd 131 x ho b o hx _ _ hc Tryz.underlying131 rfl (by rw [hinfo, bvs_length, hs]) h
theorem wpList_store_arr {ops : Array Oper} {rest : List Oper} {op : Oper} {a : Act} {w : World} {Q : Exit → Act → World → Prop} (hgd : op.guard = none) (x y : Operand) (ho : op.op = .store 131 x y)
    (g : Nat) (cur : Array Value) (s : List UInt8) (hx : a.eval x = .pointer (some ⟨g, 0, none⟩)) (hy : a.eval y = .agg (bvs s).toArray)
    (hg : w.heap[g]? = some (.cells cur 131 (0, 0))) (hc : cur.size = 256) (hs : s.length = 256)
    (h : ∀ w', Blk w' g 131 s → Below g w w' → w'.heap.size = w.heap.size → wpList Tryz.prog ops Q rest (a.put op.dst undef) w') : wpList Tryz.prog ops Q (op :: rest) a w := by
  obtain ⟨Z, _, _, hinfo, _⟩ := Tryz.zeroA
  refine wpList_plain hgd fun K hK => ?_
  have hsz : (bvs s).toArray.size = 256 := by rw [List.size_toArray, bvs_length, hs]
  have hrun := run_storeVar_row (P := Tryz.prog) w g 131 131 cur (bvs s).toArray hg (by rw [hinfo, hsz]) (by rw [hc, hsz]) (all_oneCell_toArray (bvs_one _))
  unfold Oper.wp execOp
  simp only [ho, hx, hy, Instr.storeAt, Instr.sureAddr, Sem.run_bind, Sem.run_pure, Result.andThen_ok, hrun]
  exact hK _ _ (h _ (setRow_heap w g _ _ 131 _ hg) (below_setRow (Below.refl _ _) (Nat.le_refl _) _) (by simp))

section
variable {w w' w0 : World} {base : Nat} {s s' s0 : PSt} {ops ops' : Nat → List Int}
set_option maxHeartbeats 4000000 in
theorem image_any (h : PM w base s ops) {b : Bk} (hb : b ∈ s.B) (S : List Ch) (sp : Option Addr) (c : Nat) (hs : SrcI w sp (cids S)) (hS : ∀ x ∈ S, x ∈ s.C ∧ s.fC x.id = x.q + 1 ∧ (x.id : Int) ≤ 1000000 ∧ fits x ∧ 1 ≤ x.d.length) (hlen : S.length ≤ 1000000) :
    Calls Tryz.prog 85 #[.pointer (some ⟨s.p, 0, none⟩), .pointer (some ⟨b.q, 0, none⟩), .slice sp S.length c] w fun e w' => ∃ g, e = .returned (.slice (some ⟨g, 0, none⟩) 256 256) ∧ Blk w' g 131 (lays b.ba S) ∧ w.heap.size ≤ g ∧ Below w.heap.size w w' := by
  have hbk := h.bk b hb
  have HRG : Hid (w.rangeAt b.q 0 (bvs b.ba)) := hbk.range
  have HL1 : Hid (b.ba.length = 256) := hbk.l1
  obtain ⟨Z, hz, hzs, hinfo, HZ⟩ := Tryz.zeroA
  clear HZ hinfo
  have HH : Hid (PM w base s ops) := h
  have HSS : Hid (∀ x ∈ S, x ∈ s.C ∧ s.fC x.id = x.q + 1 ∧ (x.id : Int) ≤ 1000000 ∧ fits x ∧ 1 ≤ x.d.length) := hS
  have HS : Hid (SrcI w sp (cids S)) := hs
  obtain ⟨n, hn⟩ : ∃ n, n = S.length := ⟨_, rfl⟩
  have HN : Hid (n = S.length) := hn
  rw [← hn] at hlen ⊢
  have HB3 : Hid (Below w.heap.size w (w.alloc (.cells Z 131))) := (Below.refl _ _).alloc (Nat.le_refl _) _
  clear h hs hS hn hbk
  go_enter Tryz.func85, Tryz.ntmps85
  go_upto_region 2 with (first | ((with_reducible show wpList _ _ _ ({ dst := _, op := Op.load 131 _, type := _, pos := _, after := _, guard := _ } :: _) _ _); refine wpList_load_arr rfl (.tmp 12) rfl b.q 0 rfl b.ba HRG.out HL1.out ?_) | ((with_reducible show wpList _ _ _ ({ dst := _, op := Op.store 131 _ _, type := _, pos := _, after := _, guard := _ } :: _) _ _); refine wpList_store_arr rfl (.tmp 7) (.tmp 13) rfl w.heap.size Z b.ba rfl rfl (heap_alloc_new _ _) hzs HL1.out ?_; intro w3 hg3 hb3 hz3; have HW3 : Hid (Blk w3 w.heap.size 131 b.ba ∧ Below w.heap.size w w3) := ⟨hg3, HB3.out.trans hb3⟩; clear hg3 hb3 hz3))
  go_wp2
  go_loopg [9, 16] n (fun gg _ s16 W => ∃ (gw : World) (k : Nat), gw = W ∧ k ≤ n ∧ n - k ≤ gg ∧ s16 = .int .i64 k ∧ Hid (Blk gw w.heap.size 131 (lays b.ba (S.take k)) ∧ Below w.heap.size w gw))
  case atStart => exact ⟨_, 0, rfl, by omega, by omega, rfl, HW3⟩
  case round =>
    clear HW3
    obtain ⟨gw, k, rfl, hk, hgg, rfl, HW⟩ := hrel
    by_cases hlt : k < n
    · have hkl : k < S.length := by rw [← HN.out]; exact hlt
      have hltz : (k : Int) < (n : Int) := by omega
      obtain ⟨x, hx⟩ : ∃ x, x = S[k] := ⟨_, rfl⟩
      have hxS : x ∈ S := by rw [hx]; exact List.getElem_mem hkl
      obtain ⟨hxC, hfx, hid, hfit, hdl⟩ := HSS.out x hxS
      have PW := HH.out.up HW.out.2
      obtain ⟨g0, off, rfl, hg0, hcc⟩ : ∃ b off, sp = some ⟨b, off, none⟩ ∧ b < w.heap.size ∧ ∀ j, j < (cids S).length → w.cell? ⟨b, off + j, none⟩ = some (.int .i64 ((cids S).getD j 0)) := by
        rcases HS.out with h0 | h1
        · have h2 : (cids S).length = 0 := by rw [h0]; rfl
          rw [show (cids S).length = S.length by simp [cids]] at h2
          omega
        · exact h1
      have ck : gw.cell? ⟨g0, off + k, none⟩ = some (.int .i64 (x.id : Int)) := by
        rw [hx, ← cids_get S k hkl]; exact (HW.out.2.cell (p := ⟨g0, off + k, none⟩) hg0).trans (hcc k (by simp [cids]; omega))
      have c3 := PW.c3
      have LK := (PW.up (w' := gw.drew) ((Below.refl _ _).drew)).lookC (x.id : Int) (by omega)
      rw [hfx] at LK
      simp only [ptrV] at LK
      have hca := PW.ch x hxC
      obtain ⟨da, dc, hdv, hdsrc, _, _, _⟩ := hca.dat.form
      obtain ⟨gd, od, rfl, hgd, hdc⟩ := hdsrc.at' (by omega)
      have hod : od = 0 := by
        rcases hca.dat.2 with ⟨h2, _⟩ | ⟨g', cap', cur, hv, _⟩
        · rw [hdv] at h2; cases h2
        · rw [hdv] at hv
          simp only [Value.slice.injEq, Option.some.injEq, Addr.mk.injEq] at hv
          exact hv.1.2.1
      subst hod
      have d1 := hca.c1
      have d2 := hca.c2
      rw [hdv] at d2
      have LY := lay_any x.q w.heap.size gd x.fr 256 dc 131 (lays b.ba (S.take k)) x.d [] gw.drew d1 d2 (hdsrc.below ((Below.refl gw.heap.size gw).drew) (Nat.le_refl _)) hdl hfit (by rw [List.append_nil]; exact HW.out.1) (lays_length HL1.out fun c hc => (HSS.out c (List.mem_of_mem_take hc)).2.2.2.1) (Nat.le_refl _)
      rw [List.append_nil] at LY
      have HNX : Hid (lays b.ba (S.take (k + 1)) = layB (lays b.ba (S.take k)) x.fr x.d) := by
        rw [List.take_add_one, List.getElem?_eq_getElem hkl, Option.toList_some, lays_append, ← hx]; exact (rfl : _ = _)
      have HX : Hid _ := hca
      clear hx hxS PW hcc hca hdsrc hdc hfit hdl hid hdv d1 d2 hxC hfx hgd
      go_wp2
      go_region_with (go_at_call 94; refine LY.mono ?_; rintro e w' ⟨rfl, hr2, hf2, hb2⟩; have HR2 : Hid _ := And.intro hr2 (And.intro hf2 hb2); clear hr2 hf2 hb2)
      go_wp2
      go_roundg (n - (k + 1))
      case measure => omega
      case rel =>
        refine ⟨_, k + 1, rfl, by omega, by omega, by go_num, ?_, HW.out.2.trans ((Below.refl _ _).drew.trans HR2.out.2.2)⟩
        rw [HNX.out]
        exact HR2.out.1
    · have hltz : ¬ (k : Int) < (n : Int) := by omega
      have hkn : k = n := by omega
      subst hkn
      have HO2 : Hid (Blk gw w.heap.size 131 (lays b.ba S)) := by
        have := HW.out.1
        rw [HN.out, List.take_of_length_le (Nat.le_refl _)] at this
        exact this
      go_wp2
      go_ret
      exact ⟨_, rfl, HO2.out, Nat.le_refl _, HW.out.2⟩
end
end Go.Proofs.YtadadidccbhopaaGreat
/- Package patch: opened. -/
namespace Go.Proofs.YtadadidccbhopaaGreat
open Go.RowKit
set_option maxRecDepth 100000
theorem fill_pb (A : Array Value) (z r : List Value) (h1 : A.size = 256) (h2 : z.length = 256) : Instr.fill (([(0, 256), (256, 1), (257, 256)] : List (Nat × Nat)).toArray[·]?) (z ++ r).toArray [(0, .agg A)] = some (A.toList ++ r).toArray := by
  have h3 : (Value.agg A).cells = A := rfl
  have hf : A.zipIdx.foldl (fun cs (p : Value × Nat) => cs.setIfInBounds (0 + p.2) p.1) (z ++ r).toArray = (A.toList ++ r).toArray := by
    apply Array.toList_inj.1
    have := fold_set0 A.toList 0 (z ++ r).toArray (by simp [h1, h2])
    rw [List.take_zero, List.nil_append, Nat.zero_add, List.toList_toArray, Array.length_toList, h1, List.drop_left' h2] at this
    rw [List.toList_toArray, ← this]
    congr 1
    rw [← Array.foldl_toList, Array.toList_zipIdx]
  unfold Instr.fill
  simp only [h3, h1]
  rw [show (([(0, 256), (256, 1), (257, 256)] : List (Nat × Nat)).toArray[0]?) = some (0, 256) from rfl]
  simp only [Instr.fill]
  rw [if_neg (by simp [h2])]
  exact congrArg some hf
theorem arr_atA (b o c : Nat) (w : World) : (Instr.arrayAt 131 (.slice (some ⟨b, o, none⟩) 256 c)).run Tryz.prog w = .ok (.pointer (some ⟨b, o, none⟩)) w := by kernel_rfl
def restB : List Value := .slice none 0 0 :: ivs (List.replicate 256 0)
theorem build_pb (d : List UInt8) (hd : d.length = 256) (w : World) : (Instr.build 190 #[(0, .agg (bvs d).toArray)]).run Tryz.prog w = .ok (.agg (bvs d ++ restB).toArray) w := by
  refine Go.run_build w 190 _ _ ?_
  have hz : (Tryz.prog.info? 190).map (fun i => i.zero) = some (some (.agg (bvs (List.replicate 256 0) ++ restB).toArray)) := by kernel_rfl
  have hp : (match Tryz.prog.underlying 190 with | some (.struct fields) => fields.toList.mapM (fun f => (Tryz.prog.info? f.type).map fun i => (f.offset, i.size)) | _ => none) = some [(0, 256), (256, 1), (257, 256)] := by kernel_rfl
  unfold Program.built
  cases hi : Tryz.prog.info? 190 with
  | none => rw [hi] at hz; cases hz
  | some it =>
    rw [hi] at hz
    have hz' : it.zero = some (.agg (bvs (List.replicate 256 0) ++ restB).toArray) := Option.some.inj hz
    have hA : (bvs d).toArray.size = 256 := by rw [List.size_toArray, bvs_length, hd]
    have hF := fill_pb (bvs d).toArray (bvs (List.replicate 256 0)) restB hA (by rw [bvs_length, List.length_replicate])
    revert hp
    cases hu : Tryz.prog.underlying 190 with
    | none => intro hp; cases hp
    | some D =>
      cases D <;> intro hp <;> first | (cases hp; done) | skip
      simp only [] at hp ⊢
      rw [hz', hp]
      exact hF
theorem wpList_build_pb {ops : Array Oper} {rest : List Oper} {op : Oper} {a : Act} {w : World} {Q : Exit → Act → World → Prop} (hgd : op.guard = none) {x0 : Operand} {d : List UInt8} (hd : d.length = 256) (ho : op.op = .build 190 #[(0, x0)])
    (e0 : a.eval x0 = .agg (bvs d).toArray)
    (h : wpList Tryz.prog ops Q rest (a.put op.dst (.agg (bvs d ++ restB).toArray)) w) : wpList Tryz.prog ops Q (op :: rest) a w :=
  wpList_plain hgd fun K hK => by
    have hb := build_pb d hd w
    unfold Oper.wp execOp
    simp only [ho, List.map_toArray, List.map_cons, List.map_nil, e0, Sem.run_bind, hb, Result.andThen_ok, Sem.run_pure]
    exact hK _ _ h
theorem wpList_kput {ops : Array Oper} {rest : List Oper} {o : Oper} {a : Act} {w : World} {Q : Exit → Act → World → Prop} (hgd : o.guard = none) (kt mt et : TypeId) (hU : Tryz.prog.underlying kt = some (.int .i64)) (hM : Tryz.prog.underlying mt = some (.map kt et)) (m x v : Operand) (ho : o.op = .mapUpdate mt m x v) {b K q : Nat} {n : Int} {f : Int → Nat} {ks : List Int}
    (H : KMap kt w b K f ks) (hn : -9223372036854775808 ≤ n ∧ n ≤ 9223372036854775807) (hK : K ≤ 1000000) (hno : n ∉ ks) (hm : a.eval m = .map (some b)) (hx : a.eval x = .int .i64 n) (hv : a.eval v = .pointer (some ⟨q, 0, none⟩))
    (h : ∀ w', KMap kt w' b (K + 1) (setF f n (q + 1)) (ks ++ [n]) → w.grownBy w' (some b) → wpList Tryz.prog ops Q rest (a.put o.dst undef) w') : wpList Tryz.prog ops Q (o :: rest) a w := by
  refine wpList_plain hgd fun K hK' => ?_
  obtain ⟨w', hrun, h1, h2⟩ := H.put hU hM n hn (q + 1) hK hno
  unfold ptrV at hrun
  unfold Oper.wp
  simp [execOp, ho, hm, hx, hv, hrun, Result.andThen]
  exact hK' _ _ (h w' h1 h2)
section
variable {w w' w0 : World} {base : Nat} {s s' s0 : PSt} {ops ops' : Nat → List Int}
set_option maxHeartbeats 1000000 in
theorem opened_old (h : PM w base s ops) (n : Nat) (hn : (n : Int) ≤ 1000000) (q : Nat) (hf : s.fB n = q + 1) (v : Value) :
    Calls Tryz.prog 93 #[.pointer (some ⟨s.p, 0, none⟩), .int .i64 (n : Int), v] w fun e w' => e = .returned (.pointer (some ⟨q, 0, none⟩)) ∧ w' = w := by
  have LK := h.lookB (n : Int) (by omega)
  rw [hf] at LK
  simp only [ptrV] at LK
  have c4 := h.c4
  clear h hf
  go_enter Tryz.func93, Tryz.ntmps93
  go_wp2
  go_ret
  exact ⟨rfl, rfl⟩
def newBk (n q : Nat) (d : List UInt8) : Bk := ⟨n, q, d, .slice none 0 0, List.replicate 256 0⟩
set_option maxHeartbeats 2000000 in
theorem opened_new (h : PRun base s0 w0 s ops w) (n : Nat) (hn : (n : Int) ≤ 1000000) (hf : s.fB n = 0) (hk : (n : Int) ∉ s.kB) (hkb : s.kb ≤ 1000000) (g c : Nat) (d : List UInt8) (hs : Src w (some ⟨g, 0, none⟩) d) (hd : d.length = 256) {A B : List CE} {e : CE} (hL : s.σ.L = A ++ e :: B) (hen : e.n = n) (hK : s.σ.K ≤ 1000000) :
    Calls Tryz.prog 93 #[.pointer (some ⟨s.p, 0, none⟩), .int .i64 (n : Int), .slice (some ⟨g, 0, none⟩) 256 c] w fun r w' => ∃ q tg, r = .returned (.pointer (some ⟨q, 0, none⟩)) ∧ w.heap.size ≤ q ∧ PRun base s0 w0 { s with B := s.B ++ [newBk n q d], tag := tg, kb := s.kb + 1, fB := setF s.fB n (q + 1), kB := s.kB ++ [(n : Int)], σ := { s.σ with L := A ++ { e with pin := e.pin + 1 } :: B, K := s.σ.K + 1 } } (fun k => if k = q then [] else ops k) w' ∧ Fr (Ak s) w w' := by
  have LK := h.pm.lookB (n : Int) (by omega)
  rw [hf] at LK
  simp only [ptrV] at LK
  have c4 := h.pm.c4
  have HRG : Hid (w.rangeAt g 0 (bvs d)) := fun j v hv => by
    have hj : j < (bvs d).length := (List.getElem?_eq_some_iff.1 hv).1
    rw [bvs_length] at hj
    rw [hs.cell j hj]
    rw [List.getElem?_eq_getElem (by rw [bvs_length]; exact hj)] at hv
    simpa [bvs] using hv
  have HD : Hid (d.length = 256) := hd
  have HH : Hid (PRun base s0 w0 s ops w) := h
  have HL : Hid (s.σ.L = A ++ e :: B) := hL
  have HK : Hid ((n : Int) ∉ s.kB) := hk
  have harr := fun W => arr_atA g 0 c W
  have HB1 : Hid (Below w.heap.size w (w.alloc (.cells (bvs d ++ restB).toArray 190))) := (Below.refl _ _).alloc (Nat.le_refl _) _
  have HB2 : Hid ((w.alloc (.cells (bvs d ++ restB).toArray 190)).heap[w.heap.size]? = some (.cells (bvs d ++ restB).toArray 190 (0, 0))) := heap_alloc_new _ _
  subst hen
  clear h hs hd hL hk hf
  go_enter Tryz.func93, Tryz.ntmps93
  go_upto_region 4 with (first | ((with_reducible show wpList _ _ _ ({ dst := _, op := Op.load 131 _, type := _, pos := _, after := _, guard := _ } :: _) _ _); refine wpList_load_arr rfl (.tmp 17) rfl g 0 rfl d HRG.out HD.out ?_) | ((with_reducible show wpList _ _ _ ({ dst := _, op := Op.build 190 _, type := _, pos := _, after := _, guard := _ } :: _) _ _); refine wpList_build_pb rfl HD.out rfl rfl ?_))
  have HAT : Hid (BkAt (w.alloc (.cells (bvs d ++ restB).toArray 190)) base (newBk e.n w.heap.size d) []) := ⟨HB2.out, HD.out, by simp [newBk], OwnL.nil _ _⟩
  obtain ⟨tg, hR1⟩ := HH.out.newB HB1.out HAT.out (Nat.le_refl _) rfl
  have HR1 : Hid _ := hR1
  have HF1 : Hid (Fr (Ak s) w (w.alloc (.cells (bvs d ++ restB).toArray 190))) := Fr.of_below HB1.out
  have HLT : Hid (∀ k, Ak s k → k < w.heap.size) := fun k hk => HH.out.pm.lt hk
  have d4 := hR1.pm.c4
  dsimp only at d4
  obtain ⟨q, hq⟩ : ∃ q, q = w.heap.size := ⟨_, rfl⟩
  rw [← hq] at HR1
  have HQ : Hid (q = w.heap.size) := hq
  rw [← hq]
  clear hR1 HAT HB1 HB2 HRG c4 LK harr hq
  generalize w.alloc (.cells (bvs d ++ restB).toArray 190) = w1 at *
  go_upto_region 5 with (first | (at_mapUpdate; refine wpList_kput rfl 3 122 141 Tryz.underlying3 Tryz.underlying122 (.tmp 24) (.tmp 25) (.tmp 26) rfl HR1.out.pm.mb (by omega) hkb HK.out rfl rfl rfl ?_; intro w2 hm2 hg2))
  have HR2 : Hid _ := HR1.out.mapB hg2 hm2
  have HF2 : Hid (Fr (Ak s) w w2) := HF1.out.trans ((Fr.of_grown hg2).mono fun k _ hk => .inl (.inr (.inr (.inl hk))))
  have PN := pin_ok HR2.out.pm.cs (A := A) (B := B) (e := e) HL.out hK
  have d1 := HR2.out.pm.c1
  dsimp only at PN d1
  clear hm2 hg2 HR1 HF1 d4
  go_wp2_with (first | (go_at_call 130; refine PN.mono ?_; rintro r w3 ⟨rfl, hD3⟩; have HD3 : Hid _ := hD3; clear hD3))
  go_ret
  refine ⟨q, tg, rfl, by rw [HQ.out]; exact Nat.le_refl _, HR2.out.cache HD3.out rfl rfl, HF2.out.trans ?_⟩
  exact HD3.out.st.fr.mono fun k _ hk => .inr hk
end
end Go.Proofs.YtadadidccbhopaaGreat
