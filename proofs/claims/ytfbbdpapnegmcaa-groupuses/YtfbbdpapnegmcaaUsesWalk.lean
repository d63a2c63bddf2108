/- The walk of leveelaw06.GroupUses. -/
import Derived.Test.YtfbbdpapnegmcaaUses
namespace Go.Proofs.Ytfbbdpapnegmcaa
open Go.RowKit
set_option maxRecDepth 100000 in
set_option maxHeartbeats 16000000 in
theorem groupUses_walk (a i n no fr : Int) (sp : Option Addr) (m cap : Nat) (A : Acts) (_hcap : m ≤ cap ∧ (cap : Int) ≤ 9223372036854775807) (w : World) (ha : ActsAt w sp m A) (hnb : numB a i n no = true) :
    Calls Try.prog 5 #[.agg #[.int .i64 a, .int .i64 i, .int .i64 n], .int .i64 no, .slice sp m cap, .int .i64 fr] w fun e w' => e = .returned (.bool true) ∧ Below w.heap.size w w' := by
  obtain ⟨hok, hno0, hnon⟩ := numB_ok hnb
  have hz := zero28
  have L0 : Lies w w.heap.size a i n (w.alloc (.cells #[.int .i64 a, .int .i64 i, .int .i64 n] 23)) := ⟨by simp, by simp, by simp, (Below.refl _ _).alloc (Nat.le_refl _) _⟩
  have RR := fun W => rright_ok hok W
  have FR := fun W => fresh_yes a i n no hnb W
  have HRG : Hid (rgB a i n no (fillb z16 (kbl i)) (fillb z8 (ksl no)) = true) := fresh_right hnb
  have HLB : Hid ((fillb z16 (kbl i)).length = 16) := fillb_length _ _
  have HLS : Hid ((fillb z8 (ksl no)).length = 8) := fillb_length _ _
  generalize fillb z16 (kbl i) = B0 at FR HRG HLB
  generalize fillb z8 (ksl no) = S0 at FR HRG HLS
  have HL0 : Hid _ := L0
  have HOK : Hid (okG a i n) := hok
  clear hnb L0 hok
  have hn0' : ¬ no < 0 := by omega
  have hn1' : ¬ n ≤ no := by omega
  go_enter Try.func5, Try.ntmps5
  go_wp2_with fail
  refine (keep3 w.heap.size a i n w HL0.out (RR _)).mono ?_
  rintro e w1 ⟨rfl, k0, k1, k2, kb⟩
  have HL1 : Hid (Lies w w.heap.size a i n w1) := ⟨k0, k1, k2, kb⟩
  clear RR HL0 kb
  go_wp2_with fail
  refine (keep3 w.heap.size a i n w HL1.out (FR _)).mono ?_
  rintro e w2 ⟨rfl, m0, m1, m2, mb⟩
  have HL2 : Hid (Lies w w.heap.size a i n w2) := ⟨m0, m1, m2, mb⟩
  have hl2 : w.heap.size < w2.heap.size := block_lt_of_cell m0
  clear FR HL1 k0 k1 k2 m0 m1 m2 mb
  have HN : Hid (HeadAt (w2.alloc (.cells (hA 0 z16 z8) 28)) w2.heap.size 0 z16 z8) := head_new w2 0 z16 z8 rfl rfl
  have HNB : Hid (Below w2.heap.size w2 (w2.alloc (.cells (hA 0 z16 z8) 28))) := (Below.refl _ _).alloc (Nat.le_refl _) _
  go_upto_region 4 with (first | ((with_reducible show wpList _ _ _ ({ dst := _, op := Op.store 28 _ _, type := _, pos := _, after := _, guard := _ } :: _) _ _); refine wpList_store_head rfl _ _ rfl (HN.out) HLB.out HLS.out rfl rfl ?_; intro w3 H3 b3 z3))
  have HP3 : Hid (PW w a i n no B0 S0 w2.heap.size w3) := ⟨lies_below (lies_below HL2.out HNB.out hl2) b3 hl2, H3, hl2⟩
  obtain ⟨q, hq⟩ : ∃ q, Hid (q = w2.heap.size) := ⟨_, rfl⟩
  rw [← hq.out] at HP3 ⊢
  clear H3 b3 z3 HN HNB HL2 hl2 HLB HLS hq
  go_wp2_with fail
  go_loopg [11] 61 (fun gk s11 wr => ∃ (k : Nat) (bl sl : List UInt8), k + gk = 61 ∧ s11 = .int .i64 k ∧ Hid (PW w a i n no bl sl q wr) ∧ Hid (rgB a i n no bl sl = true))
  case atStart => exact ⟨0, B0, S0, rfl, rfl, HP3, HRG⟩
  case round =>
    obtain ⟨k, bl, sl, hk, rfl, HP, HR⟩ := hrel
    by_cases hlt : (k : Int) < m ∧ (k : Int) < 60
    · obtain ⟨hlm, hl60⟩ := hlt
      obtain ⟨b, off, rfl, hbl, hcell⟩ := ha (by omega)
      have HC1 : Hid (w.cell? ⟨b, off + k * 3 + 1, none⟩ = some (.int .i64 (A.N k))) := (hcell k (by omega)).2.1
      have UB := fun W => useBlock_all a i n no (A.N k) true bl sl HP.out.head.lb HP.out.head.ls HR.out W
      clear hcell
      go_upto_region 7 with fail
      go_cut [12, 13] (fun s12 s13 wc => ∃ p no2 bl2 sl2 er, s12 = .pointer (some ⟨p, 0, none⟩) ∧ s13 = .int .i64 er ∧ HeadAt wc p no2 bl2 sl2 ∧ PW w a i n no bl sl q wc ∧ Hid (er = 0 → no2 = no ∧ rgB a i n no bl2 sl2 = true) ∧ q < p)
      case first =>
        have hH0 := HP.out.up (Below.refl _ _).drew
        refine wp_region_held_drew (S := (fun W => PW w a i n no bl sl q W)) (by kernel_rfl) hH0 (fun hH => ?_)
        refine takeH (i := 0) (dst := some 63) (v := ?v2043) rfl rfl (by kernel_rfl) (by kernel_rfl) (by kernel_rfl) (fun _ _ _ h => h) rfl ?hy2043 hH rfl ?rest2043
        case hy2043 => (intro W hW; have q0 := hW.geo.1; have q1 := hW.geo.2.1; have q2 := hW.geo.2.2.1; have c1 := (hW.geo.2.2.2.cell (p := ⟨b, off + k * 3 + 1, none⟩) hbl).trans HC1.out; clear hW; go_simp; try with_reducible rfl)
        (try simp only [Act.put, List.setIfInBounds_toArray, List.set_cons_zero, List.set_cons_succ])
        refine takeH (i := 1) (dst := some 64) (v := ?v2044) rfl rfl (by kernel_rfl) (by kernel_rfl) (by kernel_rfl) (fun _ _ _ h => h) rfl ?hy2044 hH rfl ?rest2044
        case hy2044 => (intro W hW; refine exec_load_head (x := Operand.tmp 9) hW.head ?_ ?_ <;> rfl)
        (try simp only [Act.put, List.setIfInBounds_toArray, List.set_cons_zero, List.set_cons_succ])
        refine takeH (i := 2) (dst := some 65) (v := ?v2045) rfl rfl (by kernel_rfl) (by kernel_rfl) (by kernel_rfl) (fun _ _ _ h => h) rfl ?hy2045 hH rfl ?rest2045
        case hy2045 => (intro W hW; have q0 := hW.geo.1; have q1 := hW.geo.2.1; have q2 := hW.geo.2.2.1; have c1 := (hW.geo.2.2.2.cell (p := ⟨b, off + k * 3 + 1, none⟩) hbl).trans HC1.out; clear hW; go_simp; try with_reducible rfl)
        (try simp only [Act.put, List.setIfInBounds_toArray, List.set_cons_zero, List.set_cons_succ])
        refine takeH (i := 3) (dst := some 66) (v := ?v2046) rfl rfl (by kernel_rfl) (by kernel_rfl) (by kernel_rfl) (fun _ _ _ h => h) rfl ?hy2046 hH rfl ?rest2046
        case hy2046 => (intro W hW; have q0 := hW.geo.1; have q1 := hW.geo.2.1; have q2 := hW.geo.2.2.1; have c1 := (hW.geo.2.2.2.cell (p := ⟨b, off + k * 3 + 1, none⟩) hbl).trans HC1.out; clear hW; go_simp; try with_reducible rfl)
        (try simp only [Act.put, List.setIfInBounds_toArray, List.set_cons_zero, List.set_cons_succ])
        refine takeH (i := 4) (dst := some 67) (v := ?v2047) rfl rfl (by kernel_rfl) (by kernel_rfl) (by kernel_rfl) (fun _ _ _ h => h) rfl ?hy2047 hH rfl ?rest2047
        case hy2047 => (intro W hW; have q0 := hW.geo.1; have q1 := hW.geo.2.1; have q2 := hW.geo.2.2.1; have c1 := (hW.geo.2.2.2.cell (p := ⟨b, off + k * 3 + 1, none⟩) hbl).trans HC1.out; clear hW; go_simp; try with_reducible rfl)
        (try simp only [Act.put, List.setIfInBounds_toArray, List.set_cons_zero, List.set_cons_succ])
        refine takeH (i := 5) (dst := some 68) (v := ?v2048) rfl rfl (by kernel_rfl) (by kernel_rfl) (by kernel_rfl) (fun _ _ _ h => h) rfl ?hy2048 hH rfl ?rest2048
        case hy2048 => (intro W hW; have q0 := hW.geo.1; have q1 := hW.geo.2.1; have q2 := hW.geo.2.2.1; have c1 := (hW.geo.2.2.2.cell (p := ⟨b, off + k * 3 + 1, none⟩) hbl).trans HC1.out; clear hW; go_simp; try with_reducible rfl)
        (try simp only [Act.put, List.setIfInBounds_toArray, List.set_cons_zero, List.set_cons_succ])
        refine takeH (i := 6) (dst := some 69) (v := ?v2049) rfl rfl (by kernel_rfl) (by kernel_rfl) (by kernel_rfl) (fun _ _ _ h => h) rfl ?hy2049 hH rfl ?rest2049
        case hy2049 => (intro W hW; have q0 := hW.geo.1; have q1 := hW.geo.2.1; have q2 := hW.geo.2.2.1; have c1 := (hW.geo.2.2.2.cell (p := ⟨b, off + k * 3 + 1, none⟩) hbl).trans HC1.out; clear hW; go_simp; try with_reducible rfl)
        (try simp only [Act.put, List.setIfInBounds_toArray, List.set_cons_zero, List.set_cons_succ])
        refine callH2 (i := 7) (j := 11) { dst := some 70, op := Go.Op.call { callee := Go.Callee.value (Go.Operand.func 20), args := #[Go.Operand.tmp 63, Go.Operand.tmp 64, Go.Operand.tmp 69, Go.Operand.const (Go.Value.bool true)], argTypes := #[23, 28, 3, 4] }, type := 38, pos := "law.go:129", after := #[{ on := 0, ground := Go.Ground.data }, { on := 1, ground := Go.Ground.data }, { on := 6, ground := Go.Ground.data }], guard := none } { dst := some 12, op := Go.Op.alloc 28, type := 0, pos := "law.go:129", after := #[], guard := none } (by kernel_rfl) rfl rfl rfl rfl (fun K hK => ?_) (fun K hK => ?_)
        · go_simp
          refine (UB _).mono ?_
          rintro e v2050 ⟨no2050, bl2050, sl2050, er2050, rfl, lb2050, ls2050, hx2050, b2050⟩
          have HX2050 : Hid (er2050 = 0 → no2050 = no ∧ rgB a i n no bl2050 sl2050 = true) := hx2050
          clear hx2050
          have d2050 := hH0.up b2050
          clear hH b2050
          refine hK.out _ _ d2050 (fun hH => ?_)
          clear hK K
          (try simp only [Act.put, List.setIfInBounds_toArray, List.set_cons_zero, List.set_cons_succ])
          refine takeH (i := 8) (dst := some 62) (v := ?v2051) rfl rfl (by kernel_rfl) (by kernel_rfl) (by kernel_rfl) (fun _ _ _ h => h) rfl ?hy2051 hH rfl ?rest2051
          case hy2051 => (intro W hW; have q0 := hW.geo.1; have q1 := hW.geo.2.1; have q2 := hW.geo.2.2.1; have c1 := (hW.geo.2.2.2.cell (p := ⟨b, off + k * 3 + 1, none⟩) hbl).trans HC1.out; clear hW; go_simp; try with_reducible rfl)
          (try simp only [Act.put, List.setIfInBounds_toArray, List.set_cons_zero, List.set_cons_succ])
          refine takeH (i := 9) (dst := some 71) (v := ?v2052) rfl rfl (by kernel_rfl) (by kernel_rfl) (by kernel_rfl) (fun _ _ _ h => h) rfl ?hy2052 hH rfl ?rest2052
          case hy2052 => (intro W hW; have q0 := hW.geo.1; have q1 := hW.geo.2.1; have q2 := hW.geo.2.2.1; have c1 := (hW.geo.2.2.2.cell (p := ⟨b, off + k * 3 + 1, none⟩) hbl).trans HC1.out; clear hW; go_simp; try with_reducible rfl)
          (try simp only [Act.put, List.setIfInBounds_toArray, List.set_cons_zero, List.set_cons_succ])
          refine takeH (i := 10) (dst := some 72) (v := ?v2053) rfl rfl (by kernel_rfl) (by kernel_rfl) (by kernel_rfl) (fun _ _ _ h => h) rfl ?hy2053 hH rfl ?rest2053
          case hy2053 => (intro W hW; have q0 := hW.geo.1; have q1 := hW.geo.2.1; have q2 := hW.geo.2.2.1; have c1 := (hW.geo.2.2.2.cell (p := ⟨b, off + k * 3 + 1, none⟩) hbl).trans HC1.out; clear hW; go_simp; try with_reducible rfl)
          (try simp only [Act.put, List.setIfInBounds_toArray, List.set_cons_zero, List.set_cons_succ])
          refine callH (i := 11) { dst := some 12, op := Go.Op.alloc 28, type := 0, pos := "law.go:129", after := #[], guard := none } (by kernel_rfl) rfl rfl (fun K hK => ?_)
          go_simp
          have al2054 : Below v2050.heap.size v2050 (v2050.alloc (.cells (hA 0 z16 z8) 28)) := (Below.refl _ _).alloc (Nat.le_refl _) _
          have d2054 := d2050.up al2054
          have hd2054 : HeadAt (v2050.alloc (.cells (hA 0 z16 z8) 28)) v2050.heap.size 0 z16 z8 := head_new _ 0 z16 z8 rfl rfl
          have lq2054 := d2050.lq
          clear hH al2054
          refine hK.out _ _ d2054 (fun hH => ?_)
          clear hK K
          (try simp only [Act.put, List.setIfInBounds_toArray, List.set_cons_zero, List.set_cons_succ])
          refine callH (i := 12) { dst := none, op := Go.Op.store 28 (Go.Operand.tmp 12) (Go.Operand.tmp 71), type := 0, pos := "law.go:129", after := #[{ on := 11, ground := Go.Ground.data }, { on := 9, ground := Go.Ground.data }, { on := 7, ground := Go.Ground.chain }, { on := 0, ground := Go.Ground.phase }, { on := 1, ground := Go.Ground.phase }, { on := 2, ground := Go.Ground.phase }, { on := 3, ground := Go.Ground.phase }, { on := 4, ground := Go.Ground.phase }, { on := 5, ground := Go.Ground.phase }, { on := 6, ground := Go.Ground.phase }, { on := 7, ground := Go.Ground.phase }, { on := 8, ground := Go.Ground.phase }, { on := 9, ground := Go.Ground.phase }, { on := 10, ground := Go.Ground.textOnly Go.Departure.lateStores }, { on := 11, ground := Go.Ground.phase }], guard := none } (by kernel_rfl) rfl rfl (fun K hK => ?_)
          rw [if_pos (by rfl)]
          refine wp_store_head _ _ rfl hd2054 lb2050 ls2050 rfl rfl ?_
          intro v2055 hd2055 b2055 z2055
          have d2055 := d2054.below b2055 lq2054
          clear hH b2055 z2055 hd2054
          refine hK.out _ _ d2055 (fun hH => ?_)
          clear hK K
          (try simp only [Act.put])
          refine takeH (i := 13) (dst := some 13) (v := ?v2056) rfl rfl (by kernel_rfl) (by kernel_rfl) (by kernel_rfl) (fun _ _ _ h => h) rfl ?hy2056 hH rfl ?rest2056
          case hy2056 => (intro W hW; have q0 := hW.geo.1; have q1 := hW.geo.2.1; have q2 := hW.geo.2.2.1; have c1 := (hW.geo.2.2.2.cell (p := ⟨b, off + k * 3 + 1, none⟩) hbl).trans HC1.out; clear hW; go_simp; try with_reducible rfl)
          (try simp only [Act.put, List.setIfInBounds_toArray, List.set_cons_zero, List.set_cons_succ])
          refine wpAnyH_done (by kernel_rfl) ?_ _
          clear hH
          go_wp2_with fail
          go_meet
          case rel => exact ⟨_, no2050, bl2050, sl2050, er2050, rfl, rfl, hd2055, d2055, HX2050, lq2054⟩
        · go_simp
          have al2057 : Below wr.drew.heap.size wr.drew (wr.drew.alloc (.cells (hA 0 z16 z8) 28)) := (Below.refl _ _).alloc (Nat.le_refl _) _
          have d2057 := hH0.up al2057
          have hd2057 : HeadAt (wr.drew.alloc (.cells (hA 0 z16 z8) 28)) wr.drew.heap.size 0 z16 z8 := head_new _ 0 z16 z8 rfl rfl
          have lq2057 := hH0.lq
          clear hH al2057
          refine hK.out _ _ d2057 (fun hH => ?_)
          clear hK K
          (try simp only [Act.put, List.setIfInBounds_toArray, List.set_cons_zero, List.set_cons_succ])
          refine callH (i := 7) { dst := some 70, op := Go.Op.call { callee := Go.Callee.value (Go.Operand.func 20), args := #[Go.Operand.tmp 63, Go.Operand.tmp 64, Go.Operand.tmp 69, Go.Operand.const (Go.Value.bool true)], argTypes := #[23, 28, 3, 4] }, type := 38, pos := "law.go:129", after := #[{ on := 0, ground := Go.Ground.data }, { on := 1, ground := Go.Ground.data }, { on := 6, ground := Go.Ground.data }], guard := none } (by kernel_rfl) rfl rfl (fun K hK => ?_)
          go_simp
          refine (UB _).mono ?_
          rintro e v2058 ⟨no2058, bl2058, sl2058, er2058, rfl, lb2058, ls2058, hx2058, b2058⟩
          have HX2058 : Hid (er2058 = 0 → no2058 = no ∧ rgB a i n no bl2058 sl2058 = true) := hx2058
          clear hx2058
          have d2058 := d2057.up b2058
          have hd2058 := hd2057.up b2058
          clear hH b2058
          refine hK.out _ _ d2058 (fun hH => ?_)
          clear hK K
          (try simp only [Act.put, List.setIfInBounds_toArray, List.set_cons_zero, List.set_cons_succ])
          refine takeH (i := 8) (dst := some 62) (v := ?v2059) rfl rfl (by kernel_rfl) (by kernel_rfl) (by kernel_rfl) (fun _ _ _ h => h) rfl ?hy2059 hH rfl ?rest2059
          case hy2059 => (intro W hW; have q0 := hW.geo.1; have q1 := hW.geo.2.1; have q2 := hW.geo.2.2.1; have c1 := (hW.geo.2.2.2.cell (p := ⟨b, off + k * 3 + 1, none⟩) hbl).trans HC1.out; clear hW; go_simp; try with_reducible rfl)
          (try simp only [Act.put, List.setIfInBounds_toArray, List.set_cons_zero, List.set_cons_succ])
          refine takeH (i := 9) (dst := some 71) (v := ?v2060) rfl rfl (by kernel_rfl) (by kernel_rfl) (by kernel_rfl) (fun _ _ _ h => h) rfl ?hy2060 hH rfl ?rest2060
          case hy2060 => (intro W hW; have q0 := hW.geo.1; have q1 := hW.geo.2.1; have q2 := hW.geo.2.2.1; have c1 := (hW.geo.2.2.2.cell (p := ⟨b, off + k * 3 + 1, none⟩) hbl).trans HC1.out; clear hW; go_simp; try with_reducible rfl)
          (try simp only [Act.put, List.setIfInBounds_toArray, List.set_cons_zero, List.set_cons_succ])
          refine takeH (i := 10) (dst := some 72) (v := ?v2061) rfl rfl (by kernel_rfl) (by kernel_rfl) (by kernel_rfl) (fun _ _ _ h => h) rfl ?hy2061 hH rfl ?rest2061
          case hy2061 => (intro W hW; have q0 := hW.geo.1; have q1 := hW.geo.2.1; have q2 := hW.geo.2.2.1; have c1 := (hW.geo.2.2.2.cell (p := ⟨b, off + k * 3 + 1, none⟩) hbl).trans HC1.out; clear hW; go_simp; try with_reducible rfl)
          (try simp only [Act.put, List.setIfInBounds_toArray, List.set_cons_zero, List.set_cons_succ])
          refine callH (i := 12) { dst := none, op := Go.Op.store 28 (Go.Operand.tmp 12) (Go.Operand.tmp 71), type := 0, pos := "law.go:129", after := #[{ on := 11, ground := Go.Ground.data }, { on := 9, ground := Go.Ground.data }, { on := 7, ground := Go.Ground.chain }, { on := 0, ground := Go.Ground.phase }, { on := 1, ground := Go.Ground.phase }, { on := 2, ground := Go.Ground.phase }, { on := 3, ground := Go.Ground.phase }, { on := 4, ground := Go.Ground.phase }, { on := 5, ground := Go.Ground.phase }, { on := 6, ground := Go.Ground.phase }, { on := 7, ground := Go.Ground.phase }, { on := 8, ground := Go.Ground.phase }, { on := 9, ground := Go.Ground.phase }, { on := 10, ground := Go.Ground.textOnly Go.Departure.lateStores }, { on := 11, ground := Go.Ground.phase }], guard := none } (by kernel_rfl) rfl rfl (fun K hK => ?_)
          rw [if_pos (by rfl)]
          refine wp_store_head _ _ rfl hd2058 lb2058 ls2058 rfl rfl ?_
          intro v2062 hd2062 b2062 z2062
          have d2062 := d2058.below b2062 lq2057
          clear hH b2062 z2062 hd2058
          refine hK.out _ _ d2062 (fun hH => ?_)
          clear hK K
          (try simp only [Act.put])
          refine takeH (i := 13) (dst := some 13) (v := ?v2063) rfl rfl (by kernel_rfl) (by kernel_rfl) (by kernel_rfl) (fun _ _ _ h => h) rfl ?hy2063 hH rfl ?rest2063
          case hy2063 => (intro W hW; have q0 := hW.geo.1; have q1 := hW.geo.2.1; have q2 := hW.geo.2.2.1; have c1 := (hW.geo.2.2.2.cell (p := ⟨b, off + k * 3 + 1, none⟩) hbl).trans HC1.out; clear hW; go_simp; try with_reducible rfl)
          (try simp only [Act.put, List.setIfInBounds_toArray, List.set_cons_zero, List.set_cons_succ])
          refine wpAnyH_done (by kernel_rfl) ?_ _
          clear hH
          go_wp2_with fail
          go_meet
          case rel => exact ⟨_, no2058, bl2058, sl2058, er2058, rfl, rfl, hd2062, d2062, HX2058, lq2057⟩
      case rest =>
        obtain ⟨p2, no2, bl2, sl2, er2, rfl, rfl, hd2, hp2, HX2, hqp2⟩ := hcut
        have HD2 : Hid _ := hd2
        have HP2 : Hid _ := hp2
        clear hd2 hp2 UB
        by_cases he2 : er2 = 0
        · obtain ⟨hno2, hr2⟩ := HX2.out he2
          rw [hno2] at HD2
          clear hno2
          have HR2 : Hid _ := hr2
          subst he2
          clear hr2 HX2
          go_upto_region 10 with (first | ((with_reducible show wpList _ _ _ ({ dst := _, op := Op.load 28 _, type := _, pos := _, after := _, guard := _ } :: _) _ _); refine wpList_load_head rfl _ rfl (HD2.out) rfl ?_) | ((with_reducible show wpList _ _ _ ({ dst := _, op := Op.store 28 _ _, type := _, pos := _, after := _, guard := _ } :: _) _ _); refine wpList_store_head rfl _ _ rfl (HP2.out.head) HD2.out.lb HD2.out.ls rfl rfl ?_; intro wq H5 b5 z5))
          (try simp only [Act.put, List.setIfInBounds_toArray, List.set_cons_zero, List.set_cons_succ])
          have HQ : Hid _ := HP2.out.set b5 H5
          have HRQ : Hid _ := HR2
          obtain ⟨BL, hBL⟩ : ∃ BL, Hid (BL = bl2) := ⟨_, rfl⟩
          obtain ⟨SL, hSL⟩ : ∃ SL, Hid (SL = sl2) := ⟨_, rfl⟩
          rw [← hBL.out, ← hSL.out] at HQ HRQ
          clear H5 b5 z5 HD2 HP2 HP HR HR2 hBL hSL
          go_cut [14, 15] (fun s14 s15 wc => ∃ p no2 bl2 sl2 er, s14 = .pointer (some ⟨p, 0, none⟩) ∧ s15 = .int .i64 er ∧ HeadAt wc p no2 bl2 sl2 ∧ PW w a i n no BL SL q wc ∧ Hid (er = 0 → no2 = no ∧ rgB a i n no bl2 sl2 = true) ∧ q < p)
          case first =>
            have hH0 := HQ.out.up (Below.refl _ _).drew
            have US := fun W => useSlot_all a i n no (A.N k) true BL SL HQ.out.head.lb HQ.out.head.ls HRQ.out W
            refine wp_region_held_drew (S := (fun W => PW w a i n no BL SL q W)) (by kernel_rfl) hH0 (fun hH => ?_)
            refine takeH (i := 0) (dst := some 77) (v := ?v2001) rfl rfl (by kernel_rfl) (by kernel_rfl) (by kernel_rfl) (fun _ _ _ h => h) rfl ?hy2001 hH rfl ?rest2001
            case hy2001 => (intro W hW; have q0 := hW.geo.1; have q1 := hW.geo.2.1; have q2 := hW.geo.2.2.1; have c1 := (hW.geo.2.2.2.cell (p := ⟨b, off + k * 3 + 1, none⟩) hbl).trans HC1.out; clear hW; go_simp; try with_reducible rfl)
            (try simp only [Act.put, List.setIfInBounds_toArray, List.set_cons_zero, List.set_cons_succ])
            refine takeH (i := 1) (dst := some 78) (v := ?v2002) rfl rfl (by kernel_rfl) (by kernel_rfl) (by kernel_rfl) (fun _ _ _ h => h) rfl ?hy2002 hH rfl ?rest2002
            case hy2002 => (intro W hW; refine exec_load_head (x := Operand.tmp 9) hW.head ?_ ?_ <;> rfl)
            (try simp only [Act.put, List.setIfInBounds_toArray, List.set_cons_zero, List.set_cons_succ])
            refine takeH (i := 2) (dst := some 79) (v := ?v2003) rfl rfl (by kernel_rfl) (by kernel_rfl) (by kernel_rfl) (fun _ _ _ h => h) rfl ?hy2003 hH rfl ?rest2003
            case hy2003 => (intro W hW; have q0 := hW.geo.1; have q1 := hW.geo.2.1; have q2 := hW.geo.2.2.1; have c1 := (hW.geo.2.2.2.cell (p := ⟨b, off + k * 3 + 1, none⟩) hbl).trans HC1.out; clear hW; go_simp; try with_reducible rfl)
            (try simp only [Act.put, List.setIfInBounds_toArray, List.set_cons_zero, List.set_cons_succ])
            refine takeH (i := 3) (dst := some 80) (v := ?v2004) rfl rfl (by kernel_rfl) (by kernel_rfl) (by kernel_rfl) (fun _ _ _ h => h) rfl ?hy2004 hH rfl ?rest2004
            case hy2004 => (intro W hW; have q0 := hW.geo.1; have q1 := hW.geo.2.1; have q2 := hW.geo.2.2.1; have c1 := (hW.geo.2.2.2.cell (p := ⟨b, off + k * 3 + 1, none⟩) hbl).trans HC1.out; clear hW; go_simp; try with_reducible rfl)
            (try simp only [Act.put, List.setIfInBounds_toArray, List.set_cons_zero, List.set_cons_succ])
            refine takeH (i := 4) (dst := some 81) (v := ?v2005) rfl rfl (by kernel_rfl) (by kernel_rfl) (by kernel_rfl) (fun _ _ _ h => h) rfl ?hy2005 hH rfl ?rest2005
            case hy2005 => (intro W hW; have q0 := hW.geo.1; have q1 := hW.geo.2.1; have q2 := hW.geo.2.2.1; have c1 := (hW.geo.2.2.2.cell (p := ⟨b, off + k * 3 + 1, none⟩) hbl).trans HC1.out; clear hW; go_simp; try with_reducible rfl)
            (try simp only [Act.put, List.setIfInBounds_toArray, List.set_cons_zero, List.set_cons_succ])
            refine takeH (i := 5) (dst := some 82) (v := ?v2006) rfl rfl (by kernel_rfl) (by kernel_rfl) (by kernel_rfl) (fun _ _ _ h => h) rfl ?hy2006 hH rfl ?rest2006
            case hy2006 => (intro W hW; have q0 := hW.geo.1; have q1 := hW.geo.2.1; have q2 := hW.geo.2.2.1; have c1 := (hW.geo.2.2.2.cell (p := ⟨b, off + k * 3 + 1, none⟩) hbl).trans HC1.out; clear hW; go_simp; try with_reducible rfl)
            (try simp only [Act.put, List.setIfInBounds_toArray, List.set_cons_zero, List.set_cons_succ])
            refine takeH (i := 6) (dst := some 83) (v := ?v2007) rfl rfl (by kernel_rfl) (by kernel_rfl) (by kernel_rfl) (fun _ _ _ h => h) rfl ?hy2007 hH rfl ?rest2007
            case hy2007 => (intro W hW; have q0 := hW.geo.1; have q1 := hW.geo.2.1; have q2 := hW.geo.2.2.1; have c1 := (hW.geo.2.2.2.cell (p := ⟨b, off + k * 3 + 1, none⟩) hbl).trans HC1.out; clear hW; go_simp; try with_reducible rfl)
            (try simp only [Act.put, List.setIfInBounds_toArray, List.set_cons_zero, List.set_cons_succ])
            refine callH2 (i := 7) (j := 11) { dst := some 84, op := Go.Op.call { callee := Go.Callee.value (Go.Operand.func 22), args := #[Go.Operand.tmp 77, Go.Operand.tmp 78, Go.Operand.tmp 83, Go.Operand.const (Go.Value.bool true)], argTypes := #[23, 28, 3, 4] }, type := 38, pos := "law.go:133", after := #[{ on := 0, ground := Go.Ground.data }, { on := 1, ground := Go.Ground.data }, { on := 6, ground := Go.Ground.data }], guard := none } { dst := some 14, op := Go.Op.alloc 28, type := 0, pos := "law.go:133", after := #[], guard := none } (by kernel_rfl) rfl rfl rfl rfl (fun K hK => ?_) (fun K hK => ?_)
            · go_simp
              refine (US _).mono ?_
              rintro e v2008 ⟨no2008, bl2008, sl2008, er2008, rfl, lb2008, ls2008, hx2008, b2008⟩
              have HX2008 : Hid (er2008 = 0 → no2008 = no ∧ rgB a i n no bl2008 sl2008 = true) := hx2008
              clear hx2008
              have d2008 := hH0.up b2008
              clear hH b2008
              refine hK.out _ _ d2008 (fun hH => ?_)
              clear hK K
              (try simp only [Act.put, List.setIfInBounds_toArray, List.set_cons_zero, List.set_cons_succ])
              refine takeH (i := 8) (dst := some 76) (v := ?v2009) rfl rfl (by kernel_rfl) (by kernel_rfl) (by kernel_rfl) (fun _ _ _ h => h) rfl ?hy2009 hH rfl ?rest2009
              case hy2009 => (intro W hW; have q0 := hW.geo.1; have q1 := hW.geo.2.1; have q2 := hW.geo.2.2.1; have c1 := (hW.geo.2.2.2.cell (p := ⟨b, off + k * 3 + 1, none⟩) hbl).trans HC1.out; clear hW; go_simp; try with_reducible rfl)
              (try simp only [Act.put, List.setIfInBounds_toArray, List.set_cons_zero, List.set_cons_succ])
              refine takeH (i := 9) (dst := some 85) (v := ?v2010) rfl rfl (by kernel_rfl) (by kernel_rfl) (by kernel_rfl) (fun _ _ _ h => h) rfl ?hy2010 hH rfl ?rest2010
              case hy2010 => (intro W hW; have q0 := hW.geo.1; have q1 := hW.geo.2.1; have q2 := hW.geo.2.2.1; have c1 := (hW.geo.2.2.2.cell (p := ⟨b, off + k * 3 + 1, none⟩) hbl).trans HC1.out; clear hW; go_simp; try with_reducible rfl)
              (try simp only [Act.put, List.setIfInBounds_toArray, List.set_cons_zero, List.set_cons_succ])
              refine takeH (i := 10) (dst := some 86) (v := ?v2011) rfl rfl (by kernel_rfl) (by kernel_rfl) (by kernel_rfl) (fun _ _ _ h => h) rfl ?hy2011 hH rfl ?rest2011
              case hy2011 => (intro W hW; have q0 := hW.geo.1; have q1 := hW.geo.2.1; have q2 := hW.geo.2.2.1; have c1 := (hW.geo.2.2.2.cell (p := ⟨b, off + k * 3 + 1, none⟩) hbl).trans HC1.out; clear hW; go_simp; try with_reducible rfl)
              (try simp only [Act.put, List.setIfInBounds_toArray, List.set_cons_zero, List.set_cons_succ])
              refine callH (i := 11) { dst := some 14, op := Go.Op.alloc 28, type := 0, pos := "law.go:133", after := #[], guard := none } (by kernel_rfl) rfl rfl (fun K hK => ?_)
              go_simp
              have al2012 : Below v2008.heap.size v2008 (v2008.alloc (.cells (hA 0 z16 z8) 28)) := (Below.refl _ _).alloc (Nat.le_refl _) _
              have d2012 := d2008.up al2012
              have hd2012 : HeadAt (v2008.alloc (.cells (hA 0 z16 z8) 28)) v2008.heap.size 0 z16 z8 := head_new _ 0 z16 z8 rfl rfl
              have lq2012 := d2008.lq
              clear hH al2012
              refine hK.out _ _ d2012 (fun hH => ?_)
              clear hK K
              (try simp only [Act.put, List.setIfInBounds_toArray, List.set_cons_zero, List.set_cons_succ])
              refine callH (i := 12) { dst := none, op := Go.Op.store 28 (Go.Operand.tmp 14) (Go.Operand.tmp 85), type := 0, pos := "law.go:133", after := #[{ on := 11, ground := Go.Ground.data }, { on := 9, ground := Go.Ground.data }, { on := 7, ground := Go.Ground.chain }, { on := 0, ground := Go.Ground.phase }, { on := 1, ground := Go.Ground.phase }, { on := 2, ground := Go.Ground.phase }, { on := 3, ground := Go.Ground.phase }, { on := 4, ground := Go.Ground.phase }, { on := 5, ground := Go.Ground.phase }, { on := 6, ground := Go.Ground.phase }, { on := 7, ground := Go.Ground.phase }, { on := 8, ground := Go.Ground.phase }, { on := 9, ground := Go.Ground.phase }, { on := 10, ground := Go.Ground.textOnly Go.Departure.lateStores }, { on := 11, ground := Go.Ground.phase }], guard := none } (by kernel_rfl) rfl rfl (fun K hK => ?_)
              rw [if_pos (by rfl)]
              refine wp_store_head _ _ rfl hd2012 lb2008 ls2008 rfl rfl ?_
              intro v2013 hd2013 b2013 z2013
              have d2013 := d2012.below b2013 lq2012
              clear hH b2013 z2013 hd2012
              refine hK.out _ _ d2013 (fun hH => ?_)
              clear hK K
              (try simp only [Act.put])
              refine takeH (i := 13) (dst := some 15) (v := ?v2014) rfl rfl (by kernel_rfl) (by kernel_rfl) (by kernel_rfl) (fun _ _ _ h => h) rfl ?hy2014 hH rfl ?rest2014
              case hy2014 => (intro W hW; have q0 := hW.geo.1; have q1 := hW.geo.2.1; have q2 := hW.geo.2.2.1; have c1 := (hW.geo.2.2.2.cell (p := ⟨b, off + k * 3 + 1, none⟩) hbl).trans HC1.out; clear hW; go_simp; try with_reducible rfl)
              (try simp only [Act.put, List.setIfInBounds_toArray, List.set_cons_zero, List.set_cons_succ])
              refine wpAnyH_done (by kernel_rfl) ?_ _
              clear hH
              go_wp2_with fail
              go_meet
              case rel => exact ⟨_, no2008, bl2008, sl2008, er2008, rfl, rfl, hd2013, d2013, HX2008, lq2012⟩
            · go_simp
              have al2015 : Below wq.drew.heap.size wq.drew (wq.drew.alloc (.cells (hA 0 z16 z8) 28)) := (Below.refl _ _).alloc (Nat.le_refl _) _
              have d2015 := hH0.up al2015
              have hd2015 : HeadAt (wq.drew.alloc (.cells (hA 0 z16 z8) 28)) wq.drew.heap.size 0 z16 z8 := head_new _ 0 z16 z8 rfl rfl
              have lq2015 := hH0.lq
              clear hH al2015
              refine hK.out _ _ d2015 (fun hH => ?_)
              clear hK K
              (try simp only [Act.put, List.setIfInBounds_toArray, List.set_cons_zero, List.set_cons_succ])
              refine callH (i := 7) { dst := some 84, op := Go.Op.call { callee := Go.Callee.value (Go.Operand.func 22), args := #[Go.Operand.tmp 77, Go.Operand.tmp 78, Go.Operand.tmp 83, Go.Operand.const (Go.Value.bool true)], argTypes := #[23, 28, 3, 4] }, type := 38, pos := "law.go:133", after := #[{ on := 0, ground := Go.Ground.data }, { on := 1, ground := Go.Ground.data }, { on := 6, ground := Go.Ground.data }], guard := none } (by kernel_rfl) rfl rfl (fun K hK => ?_)
              go_simp
              refine (US _).mono ?_
              rintro e v2016 ⟨no2016, bl2016, sl2016, er2016, rfl, lb2016, ls2016, hx2016, b2016⟩
              have HX2016 : Hid (er2016 = 0 → no2016 = no ∧ rgB a i n no bl2016 sl2016 = true) := hx2016
              clear hx2016
              have d2016 := d2015.up b2016
              have hd2016 := hd2015.up b2016
              clear hH b2016
              refine hK.out _ _ d2016 (fun hH => ?_)
              clear hK K
              (try simp only [Act.put, List.setIfInBounds_toArray, List.set_cons_zero, List.set_cons_succ])
              refine takeH (i := 8) (dst := some 76) (v := ?v2017) rfl rfl (by kernel_rfl) (by kernel_rfl) (by kernel_rfl) (fun _ _ _ h => h) rfl ?hy2017 hH rfl ?rest2017
              case hy2017 => (intro W hW; have q0 := hW.geo.1; have q1 := hW.geo.2.1; have q2 := hW.geo.2.2.1; have c1 := (hW.geo.2.2.2.cell (p := ⟨b, off + k * 3 + 1, none⟩) hbl).trans HC1.out; clear hW; go_simp; try with_reducible rfl)
              (try simp only [Act.put, List.setIfInBounds_toArray, List.set_cons_zero, List.set_cons_succ])
              refine takeH (i := 9) (dst := some 85) (v := ?v2018) rfl rfl (by kernel_rfl) (by kernel_rfl) (by kernel_rfl) (fun _ _ _ h => h) rfl ?hy2018 hH rfl ?rest2018
              case hy2018 => (intro W hW; have q0 := hW.geo.1; have q1 := hW.geo.2.1; have q2 := hW.geo.2.2.1; have c1 := (hW.geo.2.2.2.cell (p := ⟨b, off + k * 3 + 1, none⟩) hbl).trans HC1.out; clear hW; go_simp; try with_reducible rfl)
              (try simp only [Act.put, List.setIfInBounds_toArray, List.set_cons_zero, List.set_cons_succ])
              refine takeH (i := 10) (dst := some 86) (v := ?v2019) rfl rfl (by kernel_rfl) (by kernel_rfl) (by kernel_rfl) (fun _ _ _ h => h) rfl ?hy2019 hH rfl ?rest2019
              case hy2019 => (intro W hW; have q0 := hW.geo.1; have q1 := hW.geo.2.1; have q2 := hW.geo.2.2.1; have c1 := (hW.geo.2.2.2.cell (p := ⟨b, off + k * 3 + 1, none⟩) hbl).trans HC1.out; clear hW; go_simp; try with_reducible rfl)
              (try simp only [Act.put, List.setIfInBounds_toArray, List.set_cons_zero, List.set_cons_succ])
              refine callH (i := 12) { dst := none, op := Go.Op.store 28 (Go.Operand.tmp 14) (Go.Operand.tmp 85), type := 0, pos := "law.go:133", after := #[{ on := 11, ground := Go.Ground.data }, { on := 9, ground := Go.Ground.data }, { on := 7, ground := Go.Ground.chain }, { on := 0, ground := Go.Ground.phase }, { on := 1, ground := Go.Ground.phase }, { on := 2, ground := Go.Ground.phase }, { on := 3, ground := Go.Ground.phase }, { on := 4, ground := Go.Ground.phase }, { on := 5, ground := Go.Ground.phase }, { on := 6, ground := Go.Ground.phase }, { on := 7, ground := Go.Ground.phase }, { on := 8, ground := Go.Ground.phase }, { on := 9, ground := Go.Ground.phase }, { on := 10, ground := Go.Ground.textOnly Go.Departure.lateStores }, { on := 11, ground := Go.Ground.phase }], guard := none } (by kernel_rfl) rfl rfl (fun K hK => ?_)
              rw [if_pos (by rfl)]
              refine wp_store_head _ _ rfl hd2016 lb2016 ls2016 rfl rfl ?_
              intro v2020 hd2020 b2020 z2020
              have d2020 := d2016.below b2020 lq2015
              clear hH b2020 z2020 hd2016
              refine hK.out _ _ d2020 (fun hH => ?_)
              clear hK K
              (try simp only [Act.put])
              refine takeH (i := 13) (dst := some 15) (v := ?v2021) rfl rfl (by kernel_rfl) (by kernel_rfl) (by kernel_rfl) (fun _ _ _ h => h) rfl ?hy2021 hH rfl ?rest2021
              case hy2021 => (intro W hW; have q0 := hW.geo.1; have q1 := hW.geo.2.1; have q2 := hW.geo.2.2.1; have c1 := (hW.geo.2.2.2.cell (p := ⟨b, off + k * 3 + 1, none⟩) hbl).trans HC1.out; clear hW; go_simp; try with_reducible rfl)
              (try simp only [Act.put, List.setIfInBounds_toArray, List.set_cons_zero, List.set_cons_succ])
              refine wpAnyH_done (by kernel_rfl) ?_ _
              clear hH
              go_wp2_with fail
              go_meet
              case rel => exact ⟨_, no2016, bl2016, sl2016, er2016, rfl, rfl, hd2020, d2020, HX2016, lq2015⟩
          case rest =>
            obtain ⟨p3, no3, bl3, sl3, er3, rfl, rfl, hd3, hp3, HX3, hqp3⟩ := hcut
            have HD3 : Hid _ := hd3
            have HP3' : Hid _ := hp3
            clear hd3 hp3
            by_cases he3 : er3 = 0
            · obtain ⟨hno3, hr3⟩ := HX3.out he3
              rw [hno3] at HD3
              clear hno3
              have HR3 : Hid _ := hr3
              subst he3
              clear hr3 HX3
              go_wp2_with (first | ((with_reducible show wpList _ _ _ ({ dst := _, op := Op.load 28 _, type := _, pos := _, after := _, guard := _ } :: _) _ _); refine wpList_load_head rfl _ rfl (HD3.out) rfl ?_) | ((with_reducible show wpList _ _ _ ({ dst := _, op := Op.store 28 _ _, type := _, pos := _, after := _, guard := _ } :: _) _ _); refine wpList_store_head rfl _ _ rfl (HP3'.out.head) HD3.out.lb HD3.out.ls rfl rfl ?_; intro w6 H6 b6 z6))
              have HP6 : Hid _ := HP3'.out.set b6 H6
              clear H6 b6 z6 HD3 HP3'
              go_roundg (gk - 1)
              case measure => omega
              case rel => exact ⟨k + 1, bl3, sl3, by omega, by go_num, HP6, HR3⟩
            · clear HX3 HD3
              go_wp2_with fail
              go_roundg (gk - 1)
              case measure => omega
              case rel => exact ⟨k + 1, BL, SL, by omega, by go_num, HP3', HRQ⟩
        · clear HX2 HD2
          go_upto_region 10 with fail
          obtain ⟨wq, hwq⟩ : ∃ wq, Hid (wq = wc) := ⟨_, rfl⟩
          rw [← hwq.out] at HP2 ⊢
          have HQ : Hid _ := HP2
          have HRQ : Hid _ := HR
          obtain ⟨BL, hBL⟩ : ∃ BL, Hid (BL = bl) := ⟨_, rfl⟩
          obtain ⟨SL, hSL⟩ : ∃ SL, Hid (SL = sl) := ⟨_, rfl⟩
          rw [← hBL.out, ← hSL.out] at HQ HRQ
          clear HP2 HP HR hBL hSL hwq
          go_cut [14, 15] (fun s14 s15 wc => ∃ p no2 bl2 sl2 er, s14 = .pointer (some ⟨p, 0, none⟩) ∧ s15 = .int .i64 er ∧ HeadAt wc p no2 bl2 sl2 ∧ PW w a i n no BL SL q wc ∧ Hid (er = 0 → no2 = no ∧ rgB a i n no bl2 sl2 = true) ∧ q < p)
          case first =>
            have hH0 := HQ.out.up (Below.refl _ _).drew
            have US := fun W => useSlot_all a i n no (A.N k) true BL SL HQ.out.head.lb HQ.out.head.ls HRQ.out W
            refine wp_region_held_drew (S := (fun W => PW w a i n no BL SL q W)) (by kernel_rfl) hH0 (fun hH => ?_)
            refine takeH (i := 0) (dst := some 77) (v := ?v2022) rfl rfl (by kernel_rfl) (by kernel_rfl) (by kernel_rfl) (fun _ _ _ h => h) rfl ?hy2022 hH rfl ?rest2022
            case hy2022 => (intro W hW; have q0 := hW.geo.1; have q1 := hW.geo.2.1; have q2 := hW.geo.2.2.1; have c1 := (hW.geo.2.2.2.cell (p := ⟨b, off + k * 3 + 1, none⟩) hbl).trans HC1.out; clear hW; go_simp; try with_reducible rfl)
            (try simp only [Act.put, List.setIfInBounds_toArray, List.set_cons_zero, List.set_cons_succ])
            refine takeH (i := 1) (dst := some 78) (v := ?v2023) rfl rfl (by kernel_rfl) (by kernel_rfl) (by kernel_rfl) (fun _ _ _ h => h) rfl ?hy2023 hH rfl ?rest2023
            case hy2023 => (intro W hW; refine exec_load_head (x := Operand.tmp 9) hW.head ?_ ?_ <;> rfl)
            (try simp only [Act.put, List.setIfInBounds_toArray, List.set_cons_zero, List.set_cons_succ])
            refine takeH (i := 2) (dst := some 79) (v := ?v2024) rfl rfl (by kernel_rfl) (by kernel_rfl) (by kernel_rfl) (fun _ _ _ h => h) rfl ?hy2024 hH rfl ?rest2024
            case hy2024 => (intro W hW; have q0 := hW.geo.1; have q1 := hW.geo.2.1; have q2 := hW.geo.2.2.1; have c1 := (hW.geo.2.2.2.cell (p := ⟨b, off + k * 3 + 1, none⟩) hbl).trans HC1.out; clear hW; go_simp; try with_reducible rfl)
            (try simp only [Act.put, List.setIfInBounds_toArray, List.set_cons_zero, List.set_cons_succ])
            refine takeH (i := 3) (dst := some 80) (v := ?v2025) rfl rfl (by kernel_rfl) (by kernel_rfl) (by kernel_rfl) (fun _ _ _ h => h) rfl ?hy2025 hH rfl ?rest2025
            case hy2025 => (intro W hW; have q0 := hW.geo.1; have q1 := hW.geo.2.1; have q2 := hW.geo.2.2.1; have c1 := (hW.geo.2.2.2.cell (p := ⟨b, off + k * 3 + 1, none⟩) hbl).trans HC1.out; clear hW; go_simp; try with_reducible rfl)
            (try simp only [Act.put, List.setIfInBounds_toArray, List.set_cons_zero, List.set_cons_succ])
            refine takeH (i := 4) (dst := some 81) (v := ?v2026) rfl rfl (by kernel_rfl) (by kernel_rfl) (by kernel_rfl) (fun _ _ _ h => h) rfl ?hy2026 hH rfl ?rest2026
            case hy2026 => (intro W hW; have q0 := hW.geo.1; have q1 := hW.geo.2.1; have q2 := hW.geo.2.2.1; have c1 := (hW.geo.2.2.2.cell (p := ⟨b, off + k * 3 + 1, none⟩) hbl).trans HC1.out; clear hW; go_simp; try with_reducible rfl)
            (try simp only [Act.put, List.setIfInBounds_toArray, List.set_cons_zero, List.set_cons_succ])
            refine takeH (i := 5) (dst := some 82) (v := ?v2027) rfl rfl (by kernel_rfl) (by kernel_rfl) (by kernel_rfl) (fun _ _ _ h => h) rfl ?hy2027 hH rfl ?rest2027
            case hy2027 => (intro W hW; have q0 := hW.geo.1; have q1 := hW.geo.2.1; have q2 := hW.geo.2.2.1; have c1 := (hW.geo.2.2.2.cell (p := ⟨b, off + k * 3 + 1, none⟩) hbl).trans HC1.out; clear hW; go_simp; try with_reducible rfl)
            (try simp only [Act.put, List.setIfInBounds_toArray, List.set_cons_zero, List.set_cons_succ])
            refine takeH (i := 6) (dst := some 83) (v := ?v2028) rfl rfl (by kernel_rfl) (by kernel_rfl) (by kernel_rfl) (fun _ _ _ h => h) rfl ?hy2028 hH rfl ?rest2028
            case hy2028 => (intro W hW; have q0 := hW.geo.1; have q1 := hW.geo.2.1; have q2 := hW.geo.2.2.1; have c1 := (hW.geo.2.2.2.cell (p := ⟨b, off + k * 3 + 1, none⟩) hbl).trans HC1.out; clear hW; go_simp; try with_reducible rfl)
            (try simp only [Act.put, List.setIfInBounds_toArray, List.set_cons_zero, List.set_cons_succ])
            refine callH2 (i := 7) (j := 11) { dst := some 84, op := Go.Op.call { callee := Go.Callee.value (Go.Operand.func 22), args := #[Go.Operand.tmp 77, Go.Operand.tmp 78, Go.Operand.tmp 83, Go.Operand.const (Go.Value.bool true)], argTypes := #[23, 28, 3, 4] }, type := 38, pos := "law.go:133", after := #[{ on := 0, ground := Go.Ground.data }, { on := 1, ground := Go.Ground.data }, { on := 6, ground := Go.Ground.data }], guard := none } { dst := some 14, op := Go.Op.alloc 28, type := 0, pos := "law.go:133", after := #[], guard := none } (by kernel_rfl) rfl rfl rfl rfl (fun K hK => ?_) (fun K hK => ?_)
            · go_simp
              refine (US _).mono ?_
              rintro e v2029 ⟨no2029, bl2029, sl2029, er2029, rfl, lb2029, ls2029, hx2029, b2029⟩
              have HX2029 : Hid (er2029 = 0 → no2029 = no ∧ rgB a i n no bl2029 sl2029 = true) := hx2029
              clear hx2029
              have d2029 := hH0.up b2029
              clear hH b2029
              refine hK.out _ _ d2029 (fun hH => ?_)
              clear hK K
              (try simp only [Act.put, List.setIfInBounds_toArray, List.set_cons_zero, List.set_cons_succ])
              refine takeH (i := 8) (dst := some 76) (v := ?v2030) rfl rfl (by kernel_rfl) (by kernel_rfl) (by kernel_rfl) (fun _ _ _ h => h) rfl ?hy2030 hH rfl ?rest2030
              case hy2030 => (intro W hW; have q0 := hW.geo.1; have q1 := hW.geo.2.1; have q2 := hW.geo.2.2.1; have c1 := (hW.geo.2.2.2.cell (p := ⟨b, off + k * 3 + 1, none⟩) hbl).trans HC1.out; clear hW; go_simp; try with_reducible rfl)
              (try simp only [Act.put, List.setIfInBounds_toArray, List.set_cons_zero, List.set_cons_succ])
              refine takeH (i := 9) (dst := some 85) (v := ?v2031) rfl rfl (by kernel_rfl) (by kernel_rfl) (by kernel_rfl) (fun _ _ _ h => h) rfl ?hy2031 hH rfl ?rest2031
              case hy2031 => (intro W hW; have q0 := hW.geo.1; have q1 := hW.geo.2.1; have q2 := hW.geo.2.2.1; have c1 := (hW.geo.2.2.2.cell (p := ⟨b, off + k * 3 + 1, none⟩) hbl).trans HC1.out; clear hW; go_simp; try with_reducible rfl)
              (try simp only [Act.put, List.setIfInBounds_toArray, List.set_cons_zero, List.set_cons_succ])
              refine takeH (i := 10) (dst := some 86) (v := ?v2032) rfl rfl (by kernel_rfl) (by kernel_rfl) (by kernel_rfl) (fun _ _ _ h => h) rfl ?hy2032 hH rfl ?rest2032
              case hy2032 => (intro W hW; have q0 := hW.geo.1; have q1 := hW.geo.2.1; have q2 := hW.geo.2.2.1; have c1 := (hW.geo.2.2.2.cell (p := ⟨b, off + k * 3 + 1, none⟩) hbl).trans HC1.out; clear hW; go_simp; try with_reducible rfl)
              (try simp only [Act.put, List.setIfInBounds_toArray, List.set_cons_zero, List.set_cons_succ])
              refine callH (i := 11) { dst := some 14, op := Go.Op.alloc 28, type := 0, pos := "law.go:133", after := #[], guard := none } (by kernel_rfl) rfl rfl (fun K hK => ?_)
              go_simp
              have al2033 : Below v2029.heap.size v2029 (v2029.alloc (.cells (hA 0 z16 z8) 28)) := (Below.refl _ _).alloc (Nat.le_refl _) _
              have d2033 := d2029.up al2033
              have hd2033 : HeadAt (v2029.alloc (.cells (hA 0 z16 z8) 28)) v2029.heap.size 0 z16 z8 := head_new _ 0 z16 z8 rfl rfl
              have lq2033 := d2029.lq
              clear hH al2033
              refine hK.out _ _ d2033 (fun hH => ?_)
              clear hK K
              (try simp only [Act.put, List.setIfInBounds_toArray, List.set_cons_zero, List.set_cons_succ])
              refine callH (i := 12) { dst := none, op := Go.Op.store 28 (Go.Operand.tmp 14) (Go.Operand.tmp 85), type := 0, pos := "law.go:133", after := #[{ on := 11, ground := Go.Ground.data }, { on := 9, ground := Go.Ground.data }, { on := 7, ground := Go.Ground.chain }, { on := 0, ground := Go.Ground.phase }, { on := 1, ground := Go.Ground.phase }, { on := 2, ground := Go.Ground.phase }, { on := 3, ground := Go.Ground.phase }, { on := 4, ground := Go.Ground.phase }, { on := 5, ground := Go.Ground.phase }, { on := 6, ground := Go.Ground.phase }, { on := 7, ground := Go.Ground.phase }, { on := 8, ground := Go.Ground.phase }, { on := 9, ground := Go.Ground.phase }, { on := 10, ground := Go.Ground.textOnly Go.Departure.lateStores }, { on := 11, ground := Go.Ground.phase }], guard := none } (by kernel_rfl) rfl rfl (fun K hK => ?_)
              rw [if_pos (by rfl)]
              refine wp_store_head _ _ rfl hd2033 lb2029 ls2029 rfl rfl ?_
              intro v2034 hd2034 b2034 z2034
              have d2034 := d2033.below b2034 lq2033
              clear hH b2034 z2034 hd2033
              refine hK.out _ _ d2034 (fun hH => ?_)
              clear hK K
              (try simp only [Act.put])
              refine takeH (i := 13) (dst := some 15) (v := ?v2035) rfl rfl (by kernel_rfl) (by kernel_rfl) (by kernel_rfl) (fun _ _ _ h => h) rfl ?hy2035 hH rfl ?rest2035
              case hy2035 => (intro W hW; have q0 := hW.geo.1; have q1 := hW.geo.2.1; have q2 := hW.geo.2.2.1; have c1 := (hW.geo.2.2.2.cell (p := ⟨b, off + k * 3 + 1, none⟩) hbl).trans HC1.out; clear hW; go_simp; try with_reducible rfl)
              (try simp only [Act.put, List.setIfInBounds_toArray, List.set_cons_zero, List.set_cons_succ])
              refine wpAnyH_done (by kernel_rfl) ?_ _
              clear hH
              go_wp2_with fail
              go_meet
              case rel => exact ⟨_, no2029, bl2029, sl2029, er2029, rfl, rfl, hd2034, d2034, HX2029, lq2033⟩
            · go_simp
              have al2036 : Below wq.drew.heap.size wq.drew (wq.drew.alloc (.cells (hA 0 z16 z8) 28)) := (Below.refl _ _).alloc (Nat.le_refl _) _
              have d2036 := hH0.up al2036
              have hd2036 : HeadAt (wq.drew.alloc (.cells (hA 0 z16 z8) 28)) wq.drew.heap.size 0 z16 z8 := head_new _ 0 z16 z8 rfl rfl
              have lq2036 := hH0.lq
              clear hH al2036
              refine hK.out _ _ d2036 (fun hH => ?_)
              clear hK K
              (try simp only [Act.put, List.setIfInBounds_toArray, List.set_cons_zero, List.set_cons_succ])
              refine callH (i := 7) { dst := some 84, op := Go.Op.call { callee := Go.Callee.value (Go.Operand.func 22), args := #[Go.Operand.tmp 77, Go.Operand.tmp 78, Go.Operand.tmp 83, Go.Operand.const (Go.Value.bool true)], argTypes := #[23, 28, 3, 4] }, type := 38, pos := "law.go:133", after := #[{ on := 0, ground := Go.Ground.data }, { on := 1, ground := Go.Ground.data }, { on := 6, ground := Go.Ground.data }], guard := none } (by kernel_rfl) rfl rfl (fun K hK => ?_)
              go_simp
              refine (US _).mono ?_
              rintro e v2037 ⟨no2037, bl2037, sl2037, er2037, rfl, lb2037, ls2037, hx2037, b2037⟩
              have HX2037 : Hid (er2037 = 0 → no2037 = no ∧ rgB a i n no bl2037 sl2037 = true) := hx2037
              clear hx2037
              have d2037 := d2036.up b2037
              have hd2037 := hd2036.up b2037
              clear hH b2037
              refine hK.out _ _ d2037 (fun hH => ?_)
              clear hK K
              (try simp only [Act.put, List.setIfInBounds_toArray, List.set_cons_zero, List.set_cons_succ])
              refine takeH (i := 8) (dst := some 76) (v := ?v2038) rfl rfl (by kernel_rfl) (by kernel_rfl) (by kernel_rfl) (fun _ _ _ h => h) rfl ?hy2038 hH rfl ?rest2038
              case hy2038 => (intro W hW; have q0 := hW.geo.1; have q1 := hW.geo.2.1; have q2 := hW.geo.2.2.1; have c1 := (hW.geo.2.2.2.cell (p := ⟨b, off + k * 3 + 1, none⟩) hbl).trans HC1.out; clear hW; go_simp; try with_reducible rfl)
              (try simp only [Act.put, List.setIfInBounds_toArray, List.set_cons_zero, List.set_cons_succ])
              refine takeH (i := 9) (dst := some 85) (v := ?v2039) rfl rfl (by kernel_rfl) (by kernel_rfl) (by kernel_rfl) (fun _ _ _ h => h) rfl ?hy2039 hH rfl ?rest2039
              case hy2039 => (intro W hW; have q0 := hW.geo.1; have q1 := hW.geo.2.1; have q2 := hW.geo.2.2.1; have c1 := (hW.geo.2.2.2.cell (p := ⟨b, off + k * 3 + 1, none⟩) hbl).trans HC1.out; clear hW; go_simp; try with_reducible rfl)
              (try simp only [Act.put, List.setIfInBounds_toArray, List.set_cons_zero, List.set_cons_succ])
              refine takeH (i := 10) (dst := some 86) (v := ?v2040) rfl rfl (by kernel_rfl) (by kernel_rfl) (by kernel_rfl) (fun _ _ _ h => h) rfl ?hy2040 hH rfl ?rest2040
              case hy2040 => (intro W hW; have q0 := hW.geo.1; have q1 := hW.geo.2.1; have q2 := hW.geo.2.2.1; have c1 := (hW.geo.2.2.2.cell (p := ⟨b, off + k * 3 + 1, none⟩) hbl).trans HC1.out; clear hW; go_simp; try with_reducible rfl)
              (try simp only [Act.put, List.setIfInBounds_toArray, List.set_cons_zero, List.set_cons_succ])
              refine callH (i := 12) { dst := none, op := Go.Op.store 28 (Go.Operand.tmp 14) (Go.Operand.tmp 85), type := 0, pos := "law.go:133", after := #[{ on := 11, ground := Go.Ground.data }, { on := 9, ground := Go.Ground.data }, { on := 7, ground := Go.Ground.chain }, { on := 0, ground := Go.Ground.phase }, { on := 1, ground := Go.Ground.phase }, { on := 2, ground := Go.Ground.phase }, { on := 3, ground := Go.Ground.phase }, { on := 4, ground := Go.Ground.phase }, { on := 5, ground := Go.Ground.phase }, { on := 6, ground := Go.Ground.phase }, { on := 7, ground := Go.Ground.phase }, { on := 8, ground := Go.Ground.phase }, { on := 9, ground := Go.Ground.phase }, { on := 10, ground := Go.Ground.textOnly Go.Departure.lateStores }, { on := 11, ground := Go.Ground.phase }], guard := none } (by kernel_rfl) rfl rfl (fun K hK => ?_)
              rw [if_pos (by rfl)]
              refine wp_store_head _ _ rfl hd2037 lb2037 ls2037 rfl rfl ?_
              intro v2041 hd2041 b2041 z2041
              have d2041 := d2037.below b2041 lq2036
              clear hH b2041 z2041 hd2037
              refine hK.out _ _ d2041 (fun hH => ?_)
              clear hK K
              (try simp only [Act.put])
              refine takeH (i := 13) (dst := some 15) (v := ?v2042) rfl rfl (by kernel_rfl) (by kernel_rfl) (by kernel_rfl) (fun _ _ _ h => h) rfl ?hy2042 hH rfl ?rest2042
              case hy2042 => (intro W hW; have q0 := hW.geo.1; have q1 := hW.geo.2.1; have q2 := hW.geo.2.2.1; have c1 := (hW.geo.2.2.2.cell (p := ⟨b, off + k * 3 + 1, none⟩) hbl).trans HC1.out; clear hW; go_simp; try with_reducible rfl)
              (try simp only [Act.put, List.setIfInBounds_toArray, List.set_cons_zero, List.set_cons_succ])
              refine wpAnyH_done (by kernel_rfl) ?_ _
              clear hH
              go_wp2_with fail
              go_meet
              case rel => exact ⟨_, no2037, bl2037, sl2037, er2037, rfl, rfl, hd2041, d2041, HX2037, lq2036⟩
          case rest =>
            obtain ⟨p3, no3, bl3, sl3, er3, rfl, rfl, hd3, hp3, HX3, hqp3⟩ := hcut
            have HD3 : Hid _ := hd3
            have HP3' : Hid _ := hp3
            clear hd3 hp3
            by_cases he3 : er3 = 0
            · obtain ⟨hno3, hr3⟩ := HX3.out he3
              rw [hno3] at HD3
              clear hno3
              have HR3 : Hid _ := hr3
              subst he3
              clear hr3 HX3
              go_wp2_with (first | ((with_reducible show wpList _ _ _ ({ dst := _, op := Op.load 28 _, type := _, pos := _, after := _, guard := _ } :: _) _ _); refine wpList_load_head rfl _ rfl (HD3.out) rfl ?_) | ((with_reducible show wpList _ _ _ ({ dst := _, op := Op.store 28 _ _, type := _, pos := _, after := _, guard := _ } :: _) _ _); refine wpList_store_head rfl _ _ rfl (HP3'.out.head) HD3.out.lb HD3.out.ls rfl rfl ?_; intro w6 H6 b6 z6))
              have HP6 : Hid _ := HP3'.out.set b6 H6
              clear H6 b6 z6 HD3 HP3'
              go_roundg (gk - 1)
              case measure => omega
              case rel => exact ⟨k + 1, bl3, sl3, by omega, by go_num, HP6, HR3⟩
            · clear HX3 HD3
              go_wp2_with fail
              go_roundg (gk - 1)
              case measure => omega
              case rel => exact ⟨k + 1, BL, SL, by omega, by go_num, HP3', HRQ⟩
    · have hbx := HOK.out.box
      have hlb := HP.out.head.lb
      have hls := HP.out.head.ls
      have FE := fun W => free_yes a i n no bl sl hlb hls HR.out W
      have FB := fun W => findBlock_yes a i n no fr bl sl hlb hls HR.out W
      have FS := fun W => findSlot_yes a i n no fr bl sl hlb hls HR.out W
      have HXA : Hid (∀ r, IsFirst (gb bl) a.toNat (frz a.toNat fr) r → (0 ≤ r ↔ 0 < frN bl a)) := by
        intro r hr
        have h := (first_pos hr).1
        unfold frN; omega
      have HYA : Hid (∀ r, IsFirst (gb sl) i.toNat (frz i.toNat fr) r → (0 ≤ r ↔ 0 < frN sl i)) := by
        intro r hr
        have h := (first_pos hr).1
        unfold frN; omega
      have hXb : frN bl a ≤ 128 ∧ 0 ≤ frN bl a := by have := cnt_le (gb bl) a.toNat; unfold frN; omega
      have hYb : frN sl i ≤ 64 ∧ 0 ≤ frN sl i := by have := cnt_le (gb sl) i.toNat; unfold frN; omega
      obtain ⟨X, hX⟩ : ∃ X, Hid (frN bl a = X) := ⟨_, rfl⟩
      obtain ⟨Y, hY⟩ : ∃ Y, Hid (frN sl i = Y) := ⟨_, rfl⟩
      rw [hX.out] at FE HXA hXb
      rw [hY.out] at FE HYA hYb
      have HLB : Hid (bl.length = 16) := hlb
      have HLS : Hid (sl.length = 8) := hls
      have HBX : Hid _ := hbx
      clear hlb hls hbx
      have qq0 := HP.out.geo.1; have qq1 := HP.out.geo.2.1; have qq2 := HP.out.geo.2.2.1
      have hends : (¬ (k : Int) < m) ∨ ((k : Int) < m ∧ ¬ (k : Int) < 60) := by omega
      clear hlt
      rcases hends with hlm | ⟨hlm, hl60⟩
      all_goals
        go_wp2_with (first | ((with_reducible show wpList _ _ _ ({ dst := _, op := Op.load 28 _, type := _, pos := _, after := _, guard := _ } :: _) _ _); refine wpList_load_head rfl _ rfl (HP.out.head) rfl ?_))
        refine (FE _).mono ?_
        rintro e w4 ⟨rfl, h4⟩
        have HP4 : Hid _ := HP.out.up h4
        clear FE h4 HP qq0 qq1 qq2
        have q0 := HP4.out.geo.1; have q1 := HP4.out.geo.2.1; have q2 := HP4.out.geo.2.2.1
        go_wp2_with (first | ((with_reducible show wpList _ _ _ ({ dst := _, op := Op.load 28 _, type := _, pos := _, after := _, guard := _ } :: _) _ _); refine wpList_load_head rfl _ rfl (HP4.out.head) rfl ?_))
        refine (FB _).mono ?_
        rintro e w5 ⟨⟨r, rfl, hr⟩, h5⟩
        have HRF : Hid _ := hr
        have HP5 : Hid _ := HP4.out.up h5
        clear FB h5 HP4 q0 q1 q2 hr
        have q0 := HP5.out.geo.1; have q1 := HP5.out.geo.2.1; have q2 := HP5.out.geo.2.2.1
        go_wp2_with (first | ((with_reducible show wpList _ _ _ ({ dst := _, op := Op.load 28 _, type := _, pos := _, after := _, guard := _ } :: _) _ _); refine wpList_load_head rfl _ rfl (HP5.out.head) rfl ?_))
        refine (FS _).mono ?_
        rintro e w6 ⟨⟨s, rfl, hs⟩, h6⟩
        have HSF : Hid _ := hs
        have HP6 : Hid _ := HP5.out.up h6
        clear FS h6 HP5 q0 q1 q2 hs
        have hrX := HXA.out r HRF.out
        have hsY := HYA.out s HSF.out
        have hdr : decide (0 ≤ r) = decide (0 < X) := by rw [Bool.eq_iff_iff]; simpa using hrX
        have hds : decide (0 ≤ s) = decide (0 < Y) := by rw [Bool.eq_iff_iff]; simpa using hsY
        have HrX : Hid _ := hrX
        have HsY : Hid _ := hsY
        clear hrX hsY HXA HYA
        go_upto_if 117 with fail
        go_cut [] (fun wc => PW w a i n no bl sl q wc)
        case first =>
          by_cases hr0 : 0 ≤ r
          · have hpos := HrX.out.1 hr0
            obtain ⟨p, rfl, hpa, hgp⟩ := (first_pos HRF.out).2.1 hr0
            have hrg := (rgB_iff HLB.out HLS.out).1 HR.out
            have hbx := HBX.out
            have hkp : kbl i ≤ p := by
              rcases Nat.lt_or_ge p (kbl i) with h | h
              · have := hrg.2.1.1 p h; rw [hgp] at this; cases this
              · exact h
            have hp8 : p < 8 * bl.length := by rw [HLB.out]; omega
            have hr2 := rgB_setB HLB.out HLS.out HR.out (k := p) (on := true) hkp (by omega)
            have hlb2 : (setb bl p true).length = 16 := by rw [setb_length]; exact HLB.out
            have hls2 : (setb sl p true).length = 8 := by rw [setb_length]; exact HLS.out
            have UB1 := fun W => useBlock_ok a i n no p true bl sl HLB.out HLS.out HR.out hkp (by omega) (by rw [hgp]; rfl) W
            have FE2 := fun W => free_yes a i n no (setb bl p true) sl hlb2 HLS.out hr2 W
            have UB2 := fun W => useBlock_ok a i n no p false (setb bl p true) sl hlb2 HLS.out hr2 hkp (by omega) (by rw [gb_setb' bl p p true hp8, if_pos rfl]; rfl) W
            rw [setb_back hp8 hgp] at UB2
            rw [frN_set hp8 hgp (by omega), hX.out, hY.out] at FE2
            have HL2 : Hid (((setb bl p true)).length = 16 ∧ (sl).length = 8) := ⟨hlb2, HLS.out⟩
            have HEQ : Hid ((!eqB no no bl bl sl sl) = false) := by show (!eqB no no bl bl sl sl) = false; rw [eqB_true.2 ⟨rfl, rfl, rfl⟩]; rfl
            clear hrg hbx hkp hp8 hr2 hlb2 hls2 hgp hpa
            generalize setb bl p true = NL at *
            have q0 := HP6.out.geo.1; have q1 := HP6.out.geo.2.1; have q2 := HP6.out.geo.2.2.1
            go_wp2_with (first | ((with_reducible show wpList _ _ _ ({ dst := _, op := Op.load 28 _, type := _, pos := _, after := _, guard := _ } :: _) _ _); refine wpList_load_head rfl _ rfl (HP6.out.head) rfl ?_))
            refine (UB1 _).mono ?_
            rintro e w7 ⟨rfl, h7⟩
            have HP7 : Hid _ := HP6.out.up h7
            have hl7 := HP7.out.lq
            clear UB1 h7 q0 q1 q2
            have HN : Hid (HeadAt (w7.alloc (.cells (hA 0 z16 z8) 28)) w7.heap.size 0 z16 z8) := head_new w7 0 z16 z8 rfl rfl
            have HNB : Hid (Below w7.heap.size w7 (w7.alloc (.cells (hA 0 z16 z8) 28))) := (Below.refl _ _).alloc (Nat.le_refl _) _
            go_upto_region 20 with (first | ((with_reducible show wpList _ _ _ ({ dst := _, op := Op.store 28 _ _, type := _, pos := _, after := _, guard := _ } :: _) _ _); refine wpList_store_head rfl _ _ rfl (HN.out) HL2.out.1 HL2.out.2 rfl rfl ?_; intro w8 H8 b8 z8))
            have HP8 : Hid _ := (HP7.out.up HNB.out).below b8 hl7
            have HH8 : Hid _ := H8
            clear HP7 HN HNB H8 b8 z8
            have q0 := HP8.out.geo.1; have q1 := HP8.out.geo.2.1; have q2 := HP8.out.geo.2.2.1
            go_wp2_with (first | ((with_reducible show wpList _ _ _ ({ dst := _, op := Op.load 28 _, type := _, pos := _, after := _, guard := _ } :: _) _ _); refine wpList_load_head rfl _ rfl (HH8.out) rfl ?_))
            refine (FE2 _).mono ?_
            rintro e w9 ⟨rfl, h9⟩
            have HP9 : Hid _ := HP8.out.up h9
            have HH9 : Hid _ := HH8.out.up h9
            clear FE2 HP8 HH8 h9 q0 q1 q2
            have q0 := HP9.out.geo.1; have q1 := HP9.out.geo.2.1; have q2 := HP9.out.geo.2.2.1
            go_wp2_with (first | ((with_reducible show wpList _ _ _ ({ dst := _, op := Op.load 28 _, type := _, pos := _, after := _, guard := _ } :: _) _ _); refine wpList_load_head rfl _ rfl (HH9.out) rfl ?_))
            refine (UB2 _).mono ?_
            rintro e w10 ⟨rfl, h10⟩
            have HP10 : Hid _ := HP9.out.up h10
            have hl10 := HP10.out.lq
            clear UB2 HP9 HH9 h10 q0 q1 q2
            have HN : Hid (HeadAt (w10.alloc (.cells (hA 0 z16 z8) 28)) w10.heap.size 0 z16 z8) := head_new w10 0 z16 z8 rfl rfl
            have HNB : Hid (Below w10.heap.size w10 (w10.alloc (.cells (hA 0 z16 z8) 28))) := (Below.refl _ _).alloc (Nat.le_refl _) _
            go_upto_region 22 with (first | ((with_reducible show wpList _ _ _ ({ dst := _, op := Op.store 28 _ _, type := _, pos := _, after := _, guard := _ } :: _) _ _); refine wpList_store_head rfl _ _ rfl (HN.out) HLB.out HLS.out rfl rfl ?_; intro w11 H11 b11 z11))
            have HP11 : Hid _ := (HP10.out.up HNB.out).below b11 hl10
            have HH11 : Hid _ := H11
            clear HP10 HN HNB H11 b11 z11
            go_wp2_with (first | ((with_reducible show wpList _ _ _ ({ dst := _, op := Op.load 28 _, type := _, pos := _, after := _, guard := _ } :: _) _ _); refine wpList_load_headG rfl _ rfl (HH11.out) rfl ?_) | ((with_reducible show wpList _ _ _ ({ dst := _, op := Op.load 28 _, type := _, pos := _, after := _, guard := _ } :: _) _ _); refine wpList_load_headG rfl _ rfl (HP11.out.head) rfl ?_) | ((with_reducible show wpList _ _ _ ({ dst := _, op := Op.binOp BinOp.neq 28 _ _ 28, type := _, pos := _, after := _, guard := _ } :: _) _ _); refine wpList_neq_headG rfl _ _ rfl rfl rfl HLB.out HLS.out HLB.out HLS.out HEQ.out ?_))
            go_meet
            case rel => exact HP11.out
          · have hneg : ¬ 0 < X := by have := HrX.out; omega
            go_wp2_with fail
            go_meet
            case rel => exact HP6.out
        case rest =>
        have HPc : Hid _ := hcut
        clear hcut HP6
        go_upto_if 156 with fail
        obtain ⟨wd, hwd⟩ : ∃ wd, Hid (wd = wc) := ⟨_, rfl⟩
        rw [← hwd.out] at HPc ⊢
        clear hwd
        go_cut [] (fun wc => PW w a i n no bl sl q wc)
        case first =>
          by_cases hr0 : 0 ≤ s
          · have hpos := HsY.out.1 hr0
            obtain ⟨p, rfl, hpa, hgp⟩ := (first_pos HSF.out).2.1 hr0
            have hrg := (rgB_iff HLB.out HLS.out).1 HR.out
            have hbx := HBX.out
            have hkp : ksl no ≤ p := by
              rcases Nat.lt_or_ge p (ksl no) with h | h
              · have := hrg.2.2.1 p h; rw [hgp] at this; cases this
              · exact h
            have hp8 : p < 8 * sl.length := by rw [HLS.out]; omega
            have hr2 := rgB_setS HLB.out HLS.out HR.out (k := p) (on := true) hkp (by omega)
            have hlb2 : (setb bl p true).length = 16 := by rw [setb_length]; exact HLB.out
            have hls2 : (setb sl p true).length = 8 := by rw [setb_length]; exact HLS.out
            have UB1 := fun W => useSlot_ok a i n no p true bl sl HLB.out HLS.out HR.out hkp (by omega) (by rw [hgp]; rfl) W
            have FE2 := fun W => free_yes a i n no bl (setb sl p true) HLB.out hls2 hr2 W
            have UB2 := fun W => useSlot_ok a i n no p false bl (setb sl p true) HLB.out hls2 hr2 hkp (by omega) (by rw [gb_setb' sl p p true hp8, if_pos rfl]; rfl) W
            rw [setb_back hp8 hgp] at UB2
            rw [frN_set hp8 hgp (by omega), hX.out, hY.out] at FE2
            have HL2 : Hid ((bl).length = 16 ∧ ((setb sl p true)).length = 8) := ⟨HLB.out, hls2⟩
            have HEQ : Hid ((!eqB no no bl bl sl sl) = false) := by show (!eqB no no bl bl sl sl) = false; rw [eqB_true.2 ⟨rfl, rfl, rfl⟩]; rfl
            clear hrg hbx hkp hp8 hr2 hlb2 hls2 hgp hpa
            generalize setb sl p true = NL at *
            have q0 := HPc.out.geo.1; have q1 := HPc.out.geo.2.1; have q2 := HPc.out.geo.2.2.1
            go_wp2_with (first | ((with_reducible show wpList _ _ _ ({ dst := _, op := Op.load 28 _, type := _, pos := _, after := _, guard := _ } :: _) _ _); refine wpList_load_head rfl _ rfl (HPc.out.head) rfl ?_))
            refine (UB1 _).mono ?_
            rintro e w7 ⟨rfl, h7⟩
            have HP7 : Hid _ := HPc.out.up h7
            have hl7 := HP7.out.lq
            clear UB1 h7 q0 q1 q2
            have HN : Hid (HeadAt (w7.alloc (.cells (hA 0 z16 z8) 28)) w7.heap.size 0 z16 z8) := head_new w7 0 z16 z8 rfl rfl
            have HNB : Hid (Below w7.heap.size w7 (w7.alloc (.cells (hA 0 z16 z8) 28))) := (Below.refl _ _).alloc (Nat.le_refl _) _
            go_upto_region 26 with (first | ((with_reducible show wpList _ _ _ ({ dst := _, op := Op.store 28 _ _, type := _, pos := _, after := _, guard := _ } :: _) _ _); refine wpList_store_head rfl _ _ rfl (HN.out) HL2.out.1 HL2.out.2 rfl rfl ?_; intro w8 H8 b8 z8))
            have HP8 : Hid _ := (HP7.out.up HNB.out).below b8 hl7
            have HH8 : Hid _ := H8
            clear HP7 HN HNB H8 b8 z8
            have q0 := HP8.out.geo.1; have q1 := HP8.out.geo.2.1; have q2 := HP8.out.geo.2.2.1
            go_wp2_with (first | ((with_reducible show wpList _ _ _ ({ dst := _, op := Op.load 28 _, type := _, pos := _, after := _, guard := _ } :: _) _ _); refine wpList_load_head rfl _ rfl (HH8.out) rfl ?_))
            refine (FE2 _).mono ?_
            rintro e w9 ⟨rfl, h9⟩
            have HP9 : Hid _ := HP8.out.up h9
            have HH9 : Hid _ := HH8.out.up h9
            clear FE2 HP8 HH8 h9 q0 q1 q2
            have q0 := HP9.out.geo.1; have q1 := HP9.out.geo.2.1; have q2 := HP9.out.geo.2.2.1
            go_wp2_with (first | ((with_reducible show wpList _ _ _ ({ dst := _, op := Op.load 28 _, type := _, pos := _, after := _, guard := _ } :: _) _ _); refine wpList_load_head rfl _ rfl (HH9.out) rfl ?_))
            refine (UB2 _).mono ?_
            rintro e w10 ⟨rfl, h10⟩
            have HP10 : Hid _ := HP9.out.up h10
            have hl10 := HP10.out.lq
            clear UB2 HP9 HH9 h10 q0 q1 q2
            have HN : Hid (HeadAt (w10.alloc (.cells (hA 0 z16 z8) 28)) w10.heap.size 0 z16 z8) := head_new w10 0 z16 z8 rfl rfl
            have HNB : Hid (Below w10.heap.size w10 (w10.alloc (.cells (hA 0 z16 z8) 28))) := (Below.refl _ _).alloc (Nat.le_refl _) _
            go_upto_region 28 with (first | ((with_reducible show wpList _ _ _ ({ dst := _, op := Op.store 28 _ _, type := _, pos := _, after := _, guard := _ } :: _) _ _); refine wpList_store_head rfl _ _ rfl (HN.out) HLB.out HLS.out rfl rfl ?_; intro w11 H11 b11 z11))
            have HP11 : Hid _ := (HP10.out.up HNB.out).below b11 hl10
            have HH11 : Hid _ := H11
            clear HP10 HN HNB H11 b11 z11
            go_wp2_with (first | ((with_reducible show wpList _ _ _ ({ dst := _, op := Op.load 28 _, type := _, pos := _, after := _, guard := _ } :: _) _ _); refine wpList_load_headG rfl _ rfl (HH11.out) rfl ?_) | ((with_reducible show wpList _ _ _ ({ dst := _, op := Op.load 28 _, type := _, pos := _, after := _, guard := _ } :: _) _ _); refine wpList_load_headG rfl _ rfl (HP11.out.head) rfl ?_) | ((with_reducible show wpList _ _ _ ({ dst := _, op := Op.binOp BinOp.neq 28 _ _ 28, type := _, pos := _, after := _, guard := _ } :: _) _ _); refine wpList_neq_headG rfl _ _ rfl rfl rfl HLB.out HLS.out HLB.out HLS.out HEQ.out ?_))
            go_meet
            case rel => exact HP11.out
          · have hneg : ¬ 0 < Y := by have := HsY.out; omega
            go_wp2_with fail
            go_meet
            case rel => exact HPc.out
        case rest =>
        have HPe : Hid _ := hcut
        clear hcut
        go_wp2_with fail
        refine (known_any _).mono ?_
        rintro e w20 ⟨rfl, h20⟩
        have HB : Hid (Below w.heap.size w w20) := (HPe.out.up h20).geo.2.2.2
        clear h20
        go_wp2
        go_ret
        exact ⟨rfl, HB.out⟩
end Go.Proofs.Ytfbbdpapnegmcaa
