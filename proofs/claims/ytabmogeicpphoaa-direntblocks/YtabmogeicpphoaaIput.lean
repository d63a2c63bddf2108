/- inode.Put. -/
import Derived.Test.YtabmogeicpphoaaIlay2
namespace Go.Proofs.Ytabmogeicpphoaa
open Go.RowKit
set_option maxHeartbeats 4000000 in
theorem iput_no (i : Ino) (hn : i.ns.length = 8) (hr : rtB i = false) (w : World) :
    Calls Try.prog 9 #[.agg (iA i)] w fun e w' => e = .returned (.tuple #[.slice none 0 0, .int .i64 1]) ∧ Below w.heap.size w w' := by
  have HI : Hid (InoAt (w.alloc (.cells (iA i) 24)) w.heap.size i) := ino_new w i hn
  have HB : Hid (Below w.heap.size w (w.alloc (.cells (iA i) 24))) := (Below.refl _ _).alloc (Nat.le_refl _) _
  have RT := iright_any i hn
  rw [hr] at RT
  clear hn hr
  go_enter Try.func9, Try.ntmps9
  go_wp2_with (first | ((with_reducible show wpList _ _ _ ({ dst := _, op := Op.load 24 _, type := _, pos := _, after := _, guard := _ } :: _) _ _); refine wpList_load_ino rfl _ rfl (HI.out) rfl ?_))
  refine (RT _).mono ?_
  rintro e w1 ⟨rfl, h1⟩
  go_wp2
  go_ret2
  exact ⟨rfl, HB.out.trans (h1.mono HB.out.size)⟩
set_option maxRecDepth 100000 in
set_option maxHeartbeats 4000000 in
theorem iput_yes (i : Ino) (hn : i.ns.length = 8) (hr : rtB i = true) (w : World) :
    Calls Try.prog 9 #[.agg (iA i)] w fun e w' => ∃ G, e = .returned (.tuple #[.slice (some ⟨G, 0, none⟩) 64 64, .int .i64 0]) ∧ Blk w' G 64 (layI i) ∧ w.heap.size ≤ G ∧ Below w.heap.size w w' := by
  have HI : Hid (InoAt (w.alloc (.cells (iA i) 24)) w.heap.size i) := ino_new w i hn
  have HB : Hid (Below w.heap.size w (w.alloc (.cells (iA i) 24))) := (Below.refl _ _).alloc (Nat.le_refl _) _
  have RT := iright_any i hn
  have LA := fun W => ilay_any i hn (rtB_inR hr) W
  have HLN : Hid ((layI i).length = 64) := layI_length hn
  generalize layI i = B at LA HLN ⊢
  rw [hr] at RT
  obtain ⟨Z, hz, hzs, HZ⟩ := zero64
  clear HZ hn hr
  go_enter Try.func9, Try.ntmps9
  go_wp2_with (first | ((with_reducible show wpList _ _ _ ({ dst := _, op := Op.load 24 _, type := _, pos := _, after := _, guard := _ } :: _) _ _); refine wpList_load_ino rfl _ rfl (HI.out) rfl ?_))
  refine (RT _).mono ?_
  rintro e w1 ⟨rfl, h1⟩
  have HI1 : Hid (InoAt w1 w.heap.size i) := HI.out.up h1
  have HB1 : Hid (Below w.heap.size w w1) := HB.out.trans (h1.mono HB.out.size)
  clear HI HB h1 RT
  go_wp2_with (first | ((with_reducible show wpList _ _ _ ({ dst := _, op := Op.load 24 _, type := _, pos := _, after := _, guard := _ } :: _) _ _); refine wpList_load_ino rfl _ rfl (HI1.out) rfl ?_))
  refine (LA _).mono ?_
  rintro e w2 ⟨rfl, h2⟩
  have HB2 : Hid (Below w.heap.size w w2) := HB1.out.trans (h2.mono HB1.out.size)
  have HN : Hid ((w2.alloc (.cells Z 64)).heap[w2.heap.size]? = some (.cells Z 64 (0, 0))) := heap_alloc_new _ _
  have HNB : Hid (Below w.heap.size w (w2.alloc (.cells Z 64))) := HB2.out.alloc HB2.out.size _
  clear HI1 h2 LA
  go_wp2_with (first | ((with_reducible show wpList _ _ _ ({ dst := _, op := Op.store 64 _ _, type := _, pos := _, after := _, guard := _ } :: _) _ _); refine wpList_store_64 rfl _ _ rfl HN.out hzs HLN.out rfl rfl ?_; intro w8 G8 b8 z8))
  have HG8 : Hid _ := G8
  have HB8 : Hid (Below w.heap.size w w8) := HNB.out.trans (b8.mono HB2.out.size)
  clear G8 b8 z8
  go_wp2
  go_ret2
  exact ⟨_, rfl, HG8.out, HB2.out.size, HB8.out⟩
end Go.Proofs.Ytabmogeicpphoaa
