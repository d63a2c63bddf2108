/- leveelaw10.do: what comes ahead of the call, and behind it. -/
import Derived.Test.YtikpnfnbmbaljaaJZx3
import Derived.Test.YtikpnfnbmbaljaaKCacts
namespace Go.Proofs.Ytikpnfnbmbaljaa
open Go.RowKit
set_option maxRecDepth 100000
/-- A slice whose bytes may be spoilt. -/
def SpB (w : World) (v : Value) (n : Nat) : Prop := (v = .slice none 0 0 ∧ n = 0) ∨ ∃ (g cap : Nat) (ty : TypeId) (arr : Array Value), v = .slice (some ⟨g, 0, none⟩) n cap ∧ w.heap[g]? = some (.cells arr ty (0, 0)) ∧ ∀ j, j < n → ∃ x : UInt8, arr[j]? = some (bv x)
theorem SpB.of_own {w : World} {base : Nat} {v : Value} {d : List UInt8} (h : Own w base v d) : SpB w v d.length := by
  obtain ⟨h1, h2⟩ := h
  rcases h2 with ⟨rfl, h3⟩ | ⟨g, cap, cur, rfl, hg, hh, hn, hm, hs, hx⟩
  · exact .inl ⟨rfl, h3⟩
  · refine .inr ⟨g, cap, 5, cur, rfl, hh, fun j hj => ⟨d[j], ?_⟩⟩
    have e : (cur.toList.take (d.length * 1))[j]? = (bvs d)[j]? := by rw [hx]
    rw [List.getElem?_take, if_pos (by omega)] at e
    rw [← Array.getElem?_toList, e]
    simp [bvs, hj]
set_option maxHeartbeats 2000000 in
theorem spoilX_any {w : World} {v : Value} {n : Nat} (h : SpB w v n) (hn : n ≤ 140737488355328) : Calls Try.prog 25 #[v] w fun e w' => e = .returned (.tuple #[]) ∧ Fr (fun k => v.ownBlock = some k) w w' := by
  rcases h with ⟨rfl, rfl⟩ | ⟨g, cap, ty, arr, rfl, hg, hx⟩
  · go_enter Try.func25, Try.ntmps25
    go_wp2
    refine wp_loop_rounds 1 ?_
    rw [rounds_succ]; go_wp2
    go_end0
    exact ⟨rfl, Fr.refl _ _⟩
  · have HG : Hid (w.heap[g]? = some (.cells arr ty (0, 0)) ∧ ∀ j, j < n → ∃ x : UInt8, arr[j]? = some (bv x)) := ⟨hg, hx⟩
    have hn' : (n : Int) ≤ 140737488355328 := by omega
    clear hg hx
    go_enter Try.func25, Try.ntmps25
    go_wp2_with fail
    go_loopg [2] n (fun gg t2 W => ∃ (gw : World) (k : Nat) (ar : Array Value), gw = W ∧ t2 = .int .i64 k ∧ k ≤ n ∧ n - k ≤ gg ∧ Hid (gw.heap[g]? = some (.cells ar ty (0, 0)) ∧ (∀ j, j < n → ∃ x : UInt8, ar[j]? = some (bv x)) ∧ Fr (fun j => j = g) w gw))
    case atStart => exact ⟨_, 0, arr, rfl, rfl, by omega, by omega, HG.out.1, HG.out.2, Fr.refl _ _⟩
    case round =>
      obtain ⟨gw, k, ar, rfl, rfl, hk, hgk, H⟩ := hrel
      clear HG
      by_cases hlt : (k : Int) < (n : Int)
      · obtain ⟨x, hx⟩ := H.out.2.1 k (by omega)
        have c0 : gw.cell? ⟨g, k, none⟩ = some (bv x) := (cell_of_row _ _ _ _ _ _ H.out.1).trans hx
        have f0 : gw.frozen? ⟨g, k, none⟩ = false := frozen_of_row _ _ _ _ _ H.out.1
        have H2 : Hid ((gw.setCell ⟨g, k, none⟩ (bv 90)).heap[g]? = some (.cells (ar.setIfInBounds k (bv 90)) ty (0, 0)) ∧ (∀ j, j < n → ∃ x : UInt8, (ar.setIfInBounds k (bv 90))[j]? = some (bv x)) ∧ Fr (fun j => j = g) w (gw.setCell ⟨g, k, none⟩ (bv 90))) := by
          refine ⟨heap_setCell_same gw g k _ _ _ H.out.1, fun j hj => ?_, H.out.2.2.setCell g k _ rfl⟩
          rw [Array.getElem?_setIfInBounds]
          split
          · rename_i e
            subst e
            split
            · exact ⟨90, rfl⟩
            · rename_i hs
              obtain ⟨y, hy⟩ := H.out.2.1 k hj
              exact absurd (Array.getElem?_eq_some_iff.1 hy).1 hs
          · exact H.out.2.1 j hj
        unfold bv at c0
        clear hx
        go_wp2_with fail
        go_roundg (n - (k + 1))
        case measure => omega
        case rel => exact ⟨_, k + 1, _, rfl, by go_num, by omega, by omega, H2.out⟩
      · go_wp2_with fail
        go_end0
        exact ⟨rfl, H.out.2.2.mono fun k _ e => by rw [e]; rfl⟩
section
variable {pd n : Nat} {w0 w w' w1 w2 : World} {p q ed : Nat} {σ σ' : CSt} {κ : Nat} {D : Nat → Prop}
theorem CS.sk_ge {base : Nat} {O : List Int} (h : CS w base σ O) {k : Nat} (hk : Sk σ k) : base ≤ k := by
  rcases hk with (hk | hk | hk | ⟨e, he, hk⟩) | hk
  · rw [hk]; exact h.pb
  · rw [hk]; exact h.mbb
  · exact (World.ownsRow.lt h.ord k hk).1
  · rw [← hk]; exact (h.bq e he).2.2.2
  · exact (h.disk.dk_lt hk).2
/-- The bytes that a call is given, in the program's own memory and the document's. -/
structure Giv (pd n : Nat) (w0 w : World) (p q ed : Nat) (σ : CSt) (κ : Nat) (D : Nat → Prop) (go : Nat) (dsp : Option Addr) (dcap : Nat) (dl : List UInt8) : Prop where
  kx : KX pd n w0 w p q ed σ κ D
  bo : Blk w go 5 (dl ++ a5)
  arg : Arg w dsp dcap dl
  no : ¬ Sk σ go ∧ ¬ D go ∧ w0.heap.size ≤ go ∧ go < w.heap.size
  nd : 1 ≤ dl.length → ∀ b o, dsp = some ⟨b, o, none⟩ → ¬ Sk σ b ∧ ¬ D b ∧ b < w.heap.size ∧ b ≠ go
theorem Giv.ext1 {go : Nat} {dsp : Option Addr} {dcap : Nat} {dl : List UInt8} (h : Giv pd n w0 w p q ed σ κ D go dsp dcap dl) : Ext w σ D (some ⟨go, 0, none⟩) dl := ⟨by
  have := h.bo.src.pre dl.length
  rw [List.take_left' rfl] at this
  exact this, fun _ b o e => by cases e; exact ⟨h.no.1, h.no.2.1, h.no.2.2.2⟩⟩
theorem Giv.ext2 {go : Nat} {dsp : Option Addr} {dcap : Nat} {dl : List UInt8} (h : Giv pd n w0 w p q ed σ κ D go dsp dcap dl) : Ext w σ D dsp dl := ⟨h.arg.src, fun hl b o e => ⟨(h.nd (by omega) b o e).1, (h.nd (by omega) b o e).2.1, (h.nd (by omega) b o e).2.2.1⟩⟩
/-- Behind the call. -/
theorem Giv.next {go : Nat} {dsp : Option Addr} {dcap : Nat} {dl : List UInt8} (h : Giv pd n w0 w p q ed σ κ D go dsp dcap dl) {κ' : Nat} {D' : Nat → Prop} (hK : KX pd n w0 w2 p q ed σ' κ' D') (hsub : ∀ k, Sk σ' k ∨ D' k → (Sk σ k ∨ D k) ∨ w.heap.size ≤ k) (hf : Fr (fun k => Sk σ k ∨ D k) w w2) : Giv pd n w0 w2 p q ed σ' κ' D' go dsp dcap dl := by
  have hz := hf.size
  have hno : ∀ b, ¬ Sk σ b → ¬ D b → b < w.heap.size → ¬ Sk σ' b ∧ ¬ D' b := fun b h1 h2 h3 => by
    refine ⟨fun h4 => ?_, fun h4 => ?_⟩
    · rcases hsub b (.inl h4) with (h5 | h5) | h5
      · exact h1 h5
      · exact h2 h5
      · omega
    · rcases hsub b (.inr h4) with (h5 | h5) | h5
      · exact h1 h5
      · exact h2 h5
      · omega
  have hg := hno go h.no.1 h.no.2.1 h.no.2.2.2
  refine ⟨hK, (hf.blk go h.no.2.2.2 (fun hs => hs.elim h.no.1 h.no.2.1)).trans h.bo, ?_, ⟨hg.1, hg.2, h.no.2.2.1, by have := h.no.2.2.2; omega⟩, fun hl b o e => ?_⟩
  · rcases h.arg with h1 | ⟨b, o, e, h1, h2, h3, h4, h5⟩
    · exact .inl h1
    · by_cases h0 : dl.length = 0
      · have e0 : dl = [] := List.eq_nil_of_length_eq_zero h0
        refine .inr ⟨b, o, e, h1, h2, h3, h4, by rw [e0]; exact Src.nil _ _⟩
      · exact .inr ⟨b, o, e, h1, h2, h3, h4, src_any h5 hf (fun b o e hs => hs.elim (h.nd (by omega) b o e).1 (h.nd (by omega) b o e).2.1)⟩
  · have h1 := h.nd hl b o e
    have h2 := hno b h1.1 h1.2.1 h1.2.2.1
    exact ⟨h2.1, h2.2, by have := h1.2.2.1; omega, h1.2.2.2⟩
theorem Giv.up {go : Nat} {dsp : Option Addr} {dcap : Nat} {dl : List UInt8} (h : Giv pd n w0 w p q ed σ κ D go dsp dcap dl) (hb : Below w.heap.size w w') : Giv pd n w0 w' p q ed σ κ D go dsp dcap dl := h.next (h.kx.up hb) (fun _ hk => .inl hk) (Fr.of_below hb)
theorem Giv.ofP {go : Nat} {dsp : Option Addr} {dcap : Nat} {dl : List UInt8} (h : Giv pd n w0 w p q ed σ κ D go dsp dcap dl) {κ' : Nat} (hP : KP pd n w0 p q ed σ κ' D w w2) : ∃ σ' D', Giv pd n w0 w2 p q ed σ' κ' D' go dsp dcap dl := by
  obtain ⟨⟨σ', D', h1, h2⟩, h3⟩ := hP
  exact ⟨σ', D', h.next h1 h2 h3⟩
theorem Giv.keep {go : Nat} {dsp : Option Addr} {dcap : Nat} {dl : List UInt8} (h : Giv pd n w0 w p q ed σ κ D go dsp dcap dl) {S : Nat → Prop} (hf : Fr S w w') (hS : ∀ k, Sk σ k ∨ D k → ¬ S k) (hb : ∀ k, S k → w0.heap.size ≤ k) (hg : ¬ S go) (hd : ∀ b o, dsp = some ⟨b, o, none⟩ → 1 ≤ dl.length → ¬ S b) : Giv pd n w0 w' p q ed σ κ D go dsp dcap dl := by
  have hz := hf.size
  refine ⟨h.kx.keep hf hS hb, (hf.blk go h.no.2.2.2 hg).trans h.bo, ?_, ⟨h.no.1, h.no.2.1, h.no.2.2.1, by have := h.no.2.2.2; omega⟩, fun hl b o e => ?_⟩
  · rcases h.arg with h1 | ⟨b, o, e, h1, h2, h3, h4, h5⟩
    · exact .inl h1
    · by_cases h0 : dl.length = 0
      · have e0 : dl = [] := List.eq_nil_of_length_eq_zero h0
        refine .inr ⟨b, o, e, h1, h2, h3, h4, by rw [e0]; exact Src.nil _ _⟩
      · exact .inr ⟨b, o, e, h1, h2, h3, h4, src_any h5 hf (fun b o e => hd b o e (by omega))⟩
  · have h1 := h.nd hl b o e
    exact ⟨h1.1, h1.2.1, by have := h1.2.2.1; omega, h1.2.2.2⟩
/-- All that a call of do leaves. -/
structure DoP (pd n : Nat) (w0 : World) (p q ed κ : Nat) (w' : World) : Prop where
  out : ∃ σ' D', KX pd n w0 w' p q ed σ' κ D'
theorem Giv.kept {go : Nat} {dsp : Option Addr} {dcap : Nat} {dl : List UInt8} (h : Giv pd n w0 w p q ed σ κ D go dsp dcap dl) :
    Calls Try.prog 36 #[.slice (some ⟨go, 0, none⟩) dl.length (dl.length + 8), .slice dsp dl.length dcap] w fun e w1 => e = .returned (.bool true) ∧
      Calls Try.prog 25 #[.slice (some ⟨go, 0, none⟩) dl.length (dl.length + 8)] w1 fun e2 w2 => e2 = .returned (.tuple #[]) ∧ DoP pd n w0 p q ed κ w2 := by
  refine (kept_any go dsp dcap dl w h.bo h.arg).mono ?_
  rintro e w1 ⟨rfl, hb⟩
  refine ⟨rfl, ?_⟩
  have h1 := h.up hb
  have hsp : SpB w1 (.slice (some ⟨go, 0, none⟩) dl.length (dl.length + 8)) dl.length := .inr ⟨go, _, 5, _, rfl, h1.bo, fun j hj => ⟨(dl ++ a5)[j]'(by rw [List.length_append]; omega), by simp [bvs, List.getElem?_append_left, hj]⟩⟩
  refine (spoilX_any hsp (by have := h.arg.len; omega)).mono ?_
  rintro e w2 ⟨rfl, hf⟩
  refine ⟨rfl, ⟨σ, D, h1.kx.keep hf (fun k hk e => ?_) (fun k e => ?_)⟩⟩
  · cases e
    exact hk.elim h1.no.1 h1.no.2.1
  · cases e
    exact h1.no.2.2.1
end
end Go.Proofs.Ytikpnfnbmbaljaa
