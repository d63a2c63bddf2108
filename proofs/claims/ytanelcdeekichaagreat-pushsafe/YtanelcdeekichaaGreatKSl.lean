/- Parts of slices; what turns but one block. -/
import Derived.Test.YtanelcdeekichaaGreatKRay
import Derived.Laws.Cover3
namespace Go.Proofs.YtanelcdeekichaaGreat
open Go.RowKit
set_option maxRecDepth 100000
theorem size_of {t : TypeId} {n : Nat} (h : (Tryz.prog.info? t).map (fun i => i.size) = some n) (w : World) : (sizeOf t).run Tryz.prog w = .ok n w := by
  cases hi : Tryz.prog.info? t with
  | none => rw [hi] at h; cases h
  | some i => rw [hi] at h; have := Option.some.inj h; simp [sizeOf, typeInfo, hi]; exact this
theorem size5 (w : World) : (sizeOf 5).run Tryz.prog w = .ok 1 w := size_of (by kernel_rfl) w
/-- A part of a slice of bytes. -/
theorem slice_sl (bb off len cap o l : Nat) (a b : Int) (ha : a = (o : Int)) (hb : b = (o : Int) + (l : Int)) (h1 : o < cap) (h : o + l ≤ cap) (w : World) :
    (Instr.slice 36 (.slice (some ⟨bb, off, none⟩) len cap) (some (.int .i64 a)) (some (.int .i64 b)) none).run Tryz.prog w = .ok (.slice (some ⟨bb, off + o, none⟩) l (cap - o)) w := by
  subst ha; subst hb
  have he : Tryz.prog.elem 36 = 5 := by kernel_rfl
  rw [run_slice_lh w 36 _ _ _ (by kernel_rfl) .i64 .i64 _ _ (by omega) (by omega) (by omega), he, size5]
  simp only [Result.andThen_ok, sliced, Int.toNat_natCast]
  rw [show ((o : Int) + (l : Int)).toNat = o + l by omega]
  simp [show ¬ cap = o by omega, addr_add]
theorem Src.part {w : World} {bb off : Nat} {l : List UInt8} (hs : Src w (some ⟨bb, off, none⟩) l) (o k : Nat) (h0 : 0 < l.length) (h : o + k ≤ l.length) : Src w (some ⟨bb, off + o, none⟩) ((l.drop o).take k) := by
  rcases hs with h1 | ⟨b', off', h1, h2, h3⟩
  · rw [h1] at h0; simp at h0
  · obtain ⟨rfl, rfl⟩ : bb = b' ∧ off = off' := by simpa using h1
    exact .inr ⟨bb, off + o, rfl, h2, fun j hj => by
      simp only [List.length_take, List.length_drop] at hj
      rw [Nat.add_assoc, h3 (o + j) (by omega)]; simp⟩
theorem getNum_lt {l : List UInt8} {n : Nat} (h : l.length = n) (hn : n ≤ 8) : getNum l < 2 ^ (8 * n) := by
  have e : getNum l = leNum l := by
    unfold getNum pad8
    rw [List.take_of_length_le (by omega)]
    have z : ∀ (k : Nat) (l : List UInt8), leNum (l ++ List.replicate k 0) = leNum l := by
      intro k
      induction k with
      | zero => intro l; simp
      | succ k ih => intro l; rw [List.replicate_succ', ← List.append_assoc, leNum_snoc, ih]; simp
    exact z _ _
  rw [e, ← h]
  exact leNum_lt l
/-- Nothing but block q has changed. -/
structure Only (q : Nat) (W W' : World) : Prop where
  bel : Below q W W'
  blk : ∀ j, j ≠ q → W'.heap[j]? = W.heap[j]?
section
variable {w0 W W' : World} {q p : Nat}
theorem Only.cell (h : Only q W W') {a : Addr} (ha : a.block ≠ q) : W'.cell? a = W.cell? a := World.cell?_of_block (w := W) (h.blk _ ha)
theorem Src.only {sp : Option Addr} {l : List UInt8} (h : Src W sp l) (ho : Only q W W') (hp : ∀ b off, sp = some ⟨b, off, none⟩ → b ≠ q) : Src W' sp l := by
  rcases h with h | ⟨b, off, h1, h2, h3⟩
  · exact .inl h
  · exact .inr ⟨b, off, h1, by have := ho.bel.size; omega, fun k hk => (ho.cell (a := ⟨b, off + k, none⟩) (hp b off h1)).trans (h3 k hk)⟩
theorem Arg.only {sp : Option Addr} {cap : Nat} {l : List UInt8} (h : Arg W sp cap l) (ho : Only q W W') (hp : ∀ b off, sp = some ⟨b, off, none⟩ → b ≠ q) : Arg W' sp cap l := by
  rcases h with h | ⟨b, off, h1, h2, h3, h4, h5, h6⟩
  · exact .inl h
  · exact .inr ⟨b, off, h1, h2, h3, h4, h5, h6.only ho hp⟩
theorem only_setRow (W : World) (q : Nat) (cs : Array Value) : Only q W (W.setRow q cs) :=
  ⟨below_setRow (Below.refl _ _) (Nat.le_refl _) _, fun j hj => setRow_other W q j cs hj⟩
theorem RowI.only {t : TypeId} {l : List Int} (h : RowI W p t l) (ho : Only q W W') (hp : p ≠ q) : RowI W' p t l := by unfold RowI; rw [ho.blk p hp]; exact h
theorem Blk.only {t : TypeId} {l : List UInt8} (h : Blk W p t l) (ho : Only q W W') (hp : p ≠ q) : Blk W' p t l := by unfold Blk; rw [ho.blk p hp]; exact h
end
theorem Arg.part {w : World} {b off cap : Nat} {l : List UInt8} (h : Arg w (some ⟨b, off, none⟩) cap l) (o k : Nat) (h0 : 0 < k) (hl : o + k ≤ l.length) : Arg w (some ⟨b, off + o, none⟩) (cap - o) ((l.drop o).take k) := by
  have la := h.len
  have hs := h.src.part o k (by omega) hl
  exact .inr ⟨b, off + o, rfl, by omega, by simp; omega, by omega, by simp; omega, hs⟩
theorem Blk.arg {w : World} {g : Nat} {t : TypeId} {l : List UInt8} (h : Blk w g t l) (h0 : 0 < l.length) (hl : l.length ≤ 140737488355328) : Arg w (some ⟨g, 0, none⟩) l.length l :=
  .inr ⟨g, 0, rfl, h0, Nat.le_refl _, by omega, hl, h.src⟩
end Go.Proofs.YtanelcdeekichaaGreat
