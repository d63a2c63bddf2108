/- leveeref01.Lent and leveeref01.Kept. -/
import Derived.Test.YtikpnfnbmbaljaaKOps
import Derived.Deep.QuietTactic
import Derived.BigQuiet
import Derived.WalkSmall
namespace Go.Proofs.Ytikpnfnbmbaljaa
open Go.RowKit
set_option maxRecDepth 100000
def a5 : List UInt8 := [165, 165, 165, 165, 165, 165, 165, 165]
set_option maxHeartbeats 1000000 in
theorem lent_any (sp : Option Addr) (cap : Nat) (l : List UInt8) (w : World) (ha : Arg w sp cap l) :
    Calls Try.prog 23 #[.slice sp l.length cap] w fun e w' => ∃ g, e = .returned (.slice (some ⟨g, 0, none⟩) l.length (l.length + 8)) ∧ Blk w' g 5 (l ++ a5) ∧ w.heap.size ≤ g ∧ Below w.heap.size w w' := by
  have la := ha.len
  have hmk : (Instr.makeSlice 39 (.int .i64 0) (.int .i64 ((l.length : Int) + 8))).run Try.prog w = .ok (.slice (some ⟨w.heap.size, 0, none⟩) 0 (l.length + 8)) (w.alloc (.cells (bvs (List.replicate (l.length + 8) 0)).toArray 5)) := make_any w 0 (l.length + 8) (by omega) (by omega)
  have hb0 : Below w.heap.size w (w.alloc (.cells (bvs (List.replicate (l.length + 8) 0)).toArray 5)) := (Below.refl _ _).alloc (Nat.le_refl _) _
  have hg0 : Blk (w.alloc (.cells (bvs (List.replicate (l.length + 8) 0)).toArray 5)) w.heap.size 5 (List.replicate (l.length + 8) 0) := heap_alloc_new _ _
  go_enter Try.func23, Try.ntmps23
  have e1 : List.take 0 (List.replicate (l.length + 8) (0 : UInt8)) ++ l ++ List.drop (0 + l.length) (List.replicate (l.length + 8) 0) = l ++ List.replicate 8 0 := by simp
  have E1 : Hid _ := e1
  clear e1
  go_wp2_with (first | (at_builtin; refine wpList_append_room rfl (.tmp 8) (.tmp 9) rfl w.heap.size 0 (l.length + 8) (List.replicate (l.length + 8) 0) l rfl _ _ _ rfl rfl hg0 (by simp) (ha.src.below hb0 (Nat.le_refl _)) (by omega) (by omega) ha.nilcap ?_; intro w1 hg1 hb1 hz1; clear hz1; have hlt := hg1.lt; have hb2 := hb0.trans hb1; rw [E1.out] at hg1) | (at_builtin; refine wpList_append_room rfl (.tmp 11) (.tmp 12) rfl w.heap.size l.length (l.length + 8) (l ++ List.replicate 8 0) a5 rfl _ _ _ rfl rfl ((Below.heap_alloc _ _ _ hlt).trans hg1) (by simp) (Blk.src (t := 5) (heap_alloc_new _ _)) (by simp [a5]) (by omega) (fun h => by cases h) ?_; intro w2 hg3 hb4 hz2; clear hz2))
  have hb3 : Below w.heap.size w (w1.alloc (.cells (bvs a5).toArray 5)) := hb2.alloc (by omega) _
  have hg4 : Blk w2 w.heap.size 5 (l ++ a5) := by
    have e : List.take l.length (l ++ List.replicate 8 (0 : UInt8)) ++ a5 ++ List.drop (l.length + a5.length) (l ++ List.replicate 8 0) = l ++ a5 := by
      rw [List.take_left' rfl, List.drop_of_length_le (by simp [a5])]; simp
    rw [e] at hg3; exact hg3
  go_wp2
  go_ret
  exact ⟨_, rfl, hg4, Nat.le_refl _, hb3.trans hb4⟩
theorem str_a5 (l : List UInt8) : ((str (l ++ a5)).toList == (str l ++ ({ data := #[165, 165, 165, 165, 165, 165, 165, 165] } : ByteArray)).toList) = true := by
  have e : str l ++ ({ data := #[165, 165, 165, 165, 165, 165, 165, 165] } : ByteArray) = str (l ++ a5) := ByteArray.mk_append_mk l a5
  rw [e]; simp
set_option maxHeartbeats 1000000 in
theorem kept_any (g : Nat) (sp : Option Addr) (cap : Nat) (l : List UInt8) (w : World) (hg : Blk w g 5 (l ++ a5)) (ha : Arg w sp cap l) :
    Calls Try.prog 36 #[.slice (some ⟨g, 0, none⟩) l.length (l.length + 8), .slice sp l.length cap] w fun e w' => e = .returned (.bool true) ∧ Below w.heap.size w w' := by
  have la := ha.len
  have hd : ∀ n, Below w.heap.size w (w.drewN n) := fun n => below_drewN (Below.refl _ _) n
  have hs1 : Src w (some ⟨g, 0, none⟩) l := by
    have := hg.src.pre l.length
    rw [List.take_left' rfl] at this
    exact this
  have h1 := conv_str hs1 l.length (l.length + 8) rfl
  have h2 := conv_str ha.src l.length cap rfl
  have h2' : ∀ n, Sem.run Try.prog (convert 39 9 (.slice sp l.length cap)) (w.drewN n) = .ok (.string (str l)) (w.drewN n) := fun n => conv_str (ha.src.below (hd n) (Nat.le_refl _)) l.length cap rfl
  have h3 : ∀ n, Sem.run Try.prog (convert 39 9 (.slice (some ⟨g, 0, none⟩) (l.length + 8) (l.length + 8))) (w.drewN n) = .ok (.string (str (l ++ a5))) (w.drewN n) := fun n => conv_str (hg.src.below (hd n) (Nat.le_refl _)) (l.length + 8) (l.length + 8) (by simp [a5])
  have h4 : (str l).size = l.length := by simp [str, ByteArray.size]
  clear hs1
  go_enter Try.func36, Try.ntmps36
  go_wp2
  go_quiet (fail)
  go_wp2
  go_ret
  exact ⟨congrArg (fun b => Ending.returned (.bool b)) (str_a5 l), below_drewN (Below.refl _ _) _⟩
theorem grown_trans {a b c : World} {row : Option Nat} (h : a.grownBy b row) (k : b.grownBy c row) : a.grownBy c row :=
  ⟨k.os.trans h.os, k.tape.trans h.tape, k.output.trans h.output, Nat.le_trans h.size k.size, fun i hi hne => (k.block i (by have := h.size; omega) hne).trans (h.block i hi hne)⟩
end Go.Proofs.Ytikpnfnbmbaljaa
