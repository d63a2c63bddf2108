/- The document's Write that does not take place or is asked wrongly; none; Bytes. -/
import Derived.Test.YtcmkgcdjjplgdaaRwrite
namespace Go.Proofs.Ytcmkgcdjjplgdaa
open Go.RowKit
section
variable {w : World} {base r n : Nat} {held : Bool} {left : Int} {ver : Nat → List (List UInt8)} {gb cb : Nat} {va vc : Nat → Nat}
theorem rwrite_out (h : RefW w base r n held left ver gb cb va vc) (b : Int) (v : Value) (hb : b < 0 ∨ (n : Int) ≤ b) :
    Calls Try.prog 37 #[.pointer (some ⟨r, 0, none⟩), .int .i64 b, v] w fun e w' => e = .returned (.int .i64 3) ∧ w' = w := by
  have TH := there_out h.at' b hb
  clear h hb
  go_enter Try.func37, Try.ntmps37
  go_wp2_with fail
  refine TH.mono ?_
  rintro e w1 ⟨rfl, rfl⟩
  go_wp2
  go_ret
  exact ⟨rfl, rfl⟩
theorem rwrite_size (h : RefW w base r n held left ver gb cb va vc) (i : Nat) (hi : i < n) (sp : Option Addr) (m c : Nat) (hm : ¬ (m : Int) = 256) :
    Calls Try.prog 37 #[.pointer (some ⟨r, 0, none⟩), .int .i64 (i : Int), .slice sp m c] w fun e w' => e = .returned (.int .i64 4) ∧ w' = w := by
  have TH := there_in h.at' i hi
  have hmb : ((m : Int) == 256) = false := by simpa using hm
  clear h hm
  go_enter Try.func37, Try.ntmps37
  go_wp2_with fail
  refine TH.mono ?_
  rintro e w1 ⟨rfl, rfl⟩
  go_wp2
  go_ret
  exact ⟨rfl, rfl⟩
theorem rwrite_no (h : RefW w base r n held left ver gb cb va vc) (hl : 0 ≤ left ∧ left ≤ 9223372036854775807) (hg : goesB held left = false) (i : Nat) (hi : i < n) (sp : Option Addr) (c : Nat) :
    Calls Try.prog 37 #[.pointer (some ⟨r, 0, none⟩), .int .i64 (i : Int), .slice sp 256 c] w fun e w' => e = .returned (.int .i64 0) ∧ RefW w' base r n held (goesL held left) ver gb cb va vc ∧ Fr (RG r gb) w w' := by
  have TH := there_in h.at' i hi
  have GO := rgoes_any h hl
  rw [hg] at GO
  clear h
  go_enter Try.func37, Try.ntmps37
  go_wp2_with fail
  refine TH.mono ?_
  rintro e w1 ⟨rfl, rfl⟩
  clear TH
  go_wp2_with fail
  refine GO.mono ?_
  rintro e w2 ⟨rfl, h2, f2⟩
  have HF : Hid (Fr (RG r gb) w1 w2) := f2.mono (fun k _ h => .inl h)
  have H2 : Hid _ := h2
  clear f2 h2 GO
  go_wp2
  go_ret
  exact ⟨rfl, H2.out, HF.out⟩
end
/-- none: a block of 0 as a string. -/
theorem rnone_any (w : World) : Calls Try.prog 31 #[] w fun e w' => e = .returned (.string (str zer)) ∧ Below w.heap.size w w' := by
  have mk : (Instr.makeSlice 31 (.int .i64 256) (.int .i64 256)).run Try.prog w = .ok (.slice (some ⟨w.heap.size, 0, none⟩) 256 256) (w.alloc (.cells (bvs zer).toArray 5)) := make_any w 256 256 (by omega) (by omega)
  have hb : Blk (w.alloc (.cells (bvs zer).toArray 5)) w.heap.size 5 zer := heap_alloc_new _ _
  have cv := conv_str hb.src 256 256 zer_length.symm
  have HB : Hid (Below w.heap.size w (w.alloc (.cells (bvs zer).toArray 5))) := (Below.refl _ _).alloc (Nat.le_refl _) _
  clear hb
  go_enter Try.func31, Try.ntmps31
  go_wp2
  go_ret
  exact ⟨rfl, HB.out⟩
end Go.Proofs.Ytcmkgcdjjplgdaa
