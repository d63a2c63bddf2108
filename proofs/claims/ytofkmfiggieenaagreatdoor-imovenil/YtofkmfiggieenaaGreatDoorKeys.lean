/- What slices.Sorted(maps.Keys(m)) gives at this program, of a map whose keys are ints: the keys, rising, in a new row; nothing else is turned. Conditions: the map has at most 1000000 entries, stamped as the model stamps them. -/
import Derived.Test.YtofkmfiggieenaaGreatDoorR3
import Derived.Test.YtofkmfiggieenaaGreatDoorShelf
import Derived.Shelf.AbstractIn
import Derived.Lib.SlKeysI
namespace Go.Proofs.YtofkmfiggieenaaGreatDoor
open Go.RowKit Go.Maps Go.Sort Go.Shelf Go.Ev Go.MapKept
open Go.WideElems (Fit rd rg)
theorem sortsA (m : Nat) : AnyZI.SortsIn Tryz.prog Tryz.sortedL_ren Fence.wide m :=
  ⟨fun blk off cap ss W hH hblk hsz => callsIn_wide.2 (AnyM.slices_Sort_int Tryz.sortI blk off cap ss W hH hblk hsz),
   fun p cap W => callsIn_wide.2 (AnyM.slices_Sort_int_none Tryz.sortI p cap W)⟩
def flatR : Value → Option (DataW Unit × List MemPlace) := fun _ => some (.lit (.bool true), [])
theorem keys_do : KeysDo Tryz.prog 307 343 3 := by
  refine ⟨Tryz.sortedL.f6.enters rfl, fun w cb mb es clock ks hcell hcb hmap hsz hst hkeys hwf => ?_⟩
  have hk : ∀ x ∈ es.toList, ∃ k : Int, x.key = .int .i64 k ∧ rd Tryz.prog 3 flatR x = some (.int .i64 k, .lit (.bool true)) := by
    intro x hx
    have : x.key ∈ ks.map (Value.int .i64) := by rw [← hkeys]; exact List.mem_map_of_mem hx
    obtain ⟨k, hk, he⟩ := List.mem_map.1 this
    refine ⟨k, he.symm, ?_⟩
    unfold Go.WideElems.rd
    rw [← he, Maps.keyOf_int_mk Tryz.underlying3 (hwf k hk)]
    rfl
  have hint : ∀ (l : List MapEntry) (m : List Int), (∀ x ∈ l, ∃ k : Int, x.key = .int .i64 k ∧ rd Tryz.prog 3 flatR x = some (.int .i64 k, .lit (.bool true))) → l.map (·.key) = m.map (Value.int .i64) → intKeys (DataW.map (l.map (rg Tryz.prog 3 flatR)) : DataW Unit) = m := by
    intro l
    induction l with
    | nil =>
      intro m _ h
      cases m with
      | nil => rfl
      | cons _ _ => cases h
    | cons x l ih =>
      intro m hx h
      cases m with
      | nil => cases h
      | cons a m =>
        simp only [List.map_cons, List.cons.injEq] at h
        obtain ⟨k, h1, h2⟩ := hx x (by simp)
        have hih := ih m (fun y hy => hx y (by simp [hy])) h.2
        simp only [intKeys, List.map_cons, List.cons.injEq] at hih ⊢
        refine ⟨?_, hih⟩
        have hka : k = a := by have := h1.symm.trans h.1; simpa using this
        unfold Go.WideElems.rg
        rw [h2, hka]
        rfl
  have hfit : Fit Tryz.prog 3 flatR es clock := ⟨by unfold maxLen; omega, hst, fun x hx => let ⟨k, _, h⟩ := hk x hx; ⟨_, h⟩⟩
  have hown : w.ownsMap Tryz.prog 3 flatR mb es.size (.map ((es.toList.map (rg Tryz.prog 3 flatR)).foldr DataW.insert [])) := ⟨es, clock, hmap, hfit, Nat.le_refl _, rfl⟩
  have hsize : Maps.size (DataW.map ((es.toList.map (rg Tryz.prog 3 flatR)).foldr DataW.insert []) : DataW Unit) = es.size := by
    show List.length _ = _
    rw [length_sorted]; simp
  have hperm : (intKeys (DataW.map ((es.toList.map (rg Tryz.prog 3 flatR)).foldr DataW.insert []) : DataW Unit)).Perm ks := by
    have h2 := hint es.toList ks hk hkeys
    have h3 := Go.WideShapes.sorted_perm (es.toList.map (rg Tryz.prog 3 flatR))
    refine List.Perm.trans ?_ (List.Perm.of_eq h2)
    unfold intKeys
    exact List.Perm.map _ h3
  have hseq : SeqGives Fence.wide 2 Tryz.prog 343 #[.pointer (some ⟨cb, 0, none⟩)] (Value.int .i64) (fun ss => ss.Perm (intKeys (DataW.map ((es.toList.map (rg Tryz.prog 3 flatR)).foldr DataW.insert []) : DataW Unit))) (Maps.size (DataW.map ((es.toList.map (rg Tryz.prog 3 flatR)).foldr DataW.insert []) : DataW Unit)) w :=
    AnyZI.keys_gives (ρ := Tryz.keysL_ren) { Tryz.keysL with } Fence.wide _ trivial rfl (by omega) cb mb es.size _ w hcb hcell hown
  have cS := AnyZI.sorted_in Tryz.sortedL Fence.wide 5 trivial trivial trivial trivial rfl (by omega) (sortsA _) (enters_of Tryz.func214 (by kernel_rfl) rfl) 343 #[.pointer (some ⟨cb, 0, none⟩)] trivial (enters_of Tryz.func343 (by kernel_rfl) rfl) _ _ (by rw [hsize]; unfold maxLen; omega) (by rw [hsize]; omega) _ hseq
  have cS2 := callsIn_wide.1 cS
  refine Go.Calls.mono cS2 ?_
  rintro e w' ⟨v, ss, rfl, hS, hrow, hnil, hb⟩
  refine ⟨v, ss.mergeSort (fun x y => decide (x ≤ y)), rfl, ((List.mergeSort_perm ss _).trans hS).trans hperm, ?_, ?_, ?_, hb⟩
  · exact List.Pairwise.imp (fun h => by simpa using h) (List.pairwise_mergeSort (le := fun x y : Int => decide (x ≤ y)) (fun a b c h1 h2 => by simp only [decide_eq_true_eq] at *; omega) (fun a b => by simp only [Bool.or_eq_true, decide_eq_true_eq]; omega) ss)
  · rw [List.length_mergeSort]; exact hrow
  · rw [hnil]
    constructor
    · rintro rfl; simp
    · intro h
      have := congrArg List.length h
      rw [List.length_mergeSort] at this
      exact List.eq_nil_of_length_eq_zero this
end Go.Proofs.YtofkmfiggieenaaGreatDoor
