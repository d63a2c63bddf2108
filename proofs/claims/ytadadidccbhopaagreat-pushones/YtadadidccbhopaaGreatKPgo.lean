/- The walk of leveelaw11.PatchGoes: the store between its calls, and what each call leaves. -/
import Derived.Test.YtadadidccbhopaaGreatJPafter3
import Derived.Test.YtadadidccbhopaaGreatJDOpen3
namespace Go.Proofs.YtadadidccbhopaaGreat
open Go.RowKit
set_option maxRecDepth 100000
/-- What a store owns lies behind the base. -/
theorem PM.base {w : World} {base : Nat} {s : PSt} {ops : Nat → List Int} (h : PM w base s ops) {k : Nat} (hk : Ak s k) : base ≤ k := by
  rcases hk with hk | hk | hk
  · exact (h.fk k hk).1
  · rcases hk with rfl | rfl | hk | ⟨e, he, rfl⟩
    · exact h.cs.pb
    · exact h.cs.mbb
    · exact (World.ownsRow.lt h.cs.ord k hk).1
    · exact (h.cs.bq e he).2.2.2
  · rcases hk with rfl | rfl | ⟨i, hi, hk⟩
    · exact h.cs.disk.pb
    · exact h.cs.disk.qb
    · exact (World.ownsRow.lt (h.cs.disk.wr i hi).1 k hk).1
/-- The store of a walk that began at w0. -/
structure GW (w0 w : World) (p dp : Nat) (s : PSt) (ops : Nat → List Int) (κ : Nat) : Prop where
  pm : PM w w0.heap.size s ops
  pl : PL s ops [] κ
  be : Below w0.heap.size w0 w
  p : s.p = p
  dp : s.σ.dp = dp
  dn : s.σ.dn = 5
section
variable {w0 w w' : World} {p dp : Nat} {s s' : PSt} {ops ops' : Nat → List Int} {κ κ' : Nat}
theorem GW.up (h : GW w0 w p dp s ops κ) (hb : Below w.heap.size w w') : GW w0 w' p dp s ops κ := { h with pm := h.pm.up hb, be := h.be.trans (hb.mono h.be.size) }
theorem GW.more (h : GW w0 w p dp s ops κ) (hk : κ ≤ κ') : GW w0 w p dp s ops κ' := { h with pl := h.pl.mono hk }
theorem GW.run (h : GW w0 w p dp s ops κ) (hR : PRun w0.heap.size s w s' ops' w') (hL : PL s' ops' [] κ') (hp : s'.p = s.p) (hd : s'.σ.dp = s.σ.dp) (hn : s'.σ.dn = s.σ.dn) : GW w0 w' p dp s' ops' κ' :=
  ⟨hR.pm, hL, h.be.trans hR.be, hp.trans h.p, hd.trans h.dp, hn.trans h.dn⟩
theorem nodup_len : ∀ (n : Nat) (l : List Nat), l.Nodup → (∀ x ∈ l, x < n) → l.length ≤ n
  | 0, l, _, h => by
    cases l with
    | nil => exact Nat.le_refl _
    | cons x r => exact absurd (h x List.mem_cons_self) (Nat.not_lt_zero _)
  | n + 1, l, hd, h => by
    have h1 := filter_ne_len n hd
    have h2 := nodup_len n (l.filter fun y => decide (y ≠ n)) (hd.sublist List.filter_sublist) fun x hx => by
      obtain ⟨hx1, hx2⟩ := List.mem_filter.1 hx
      have := h x hx1
      have := of_decide_eq_true hx2
      omega
    omega
theorem setW_id (al : List Int) (c : Ch) : (setW al c).id = c.id ∧ (setW al c).b = c.b := by unfold setW; split <;> exact ⟨rfl, rfl⟩
theorem setW_wr2 {al : List Int} {c : Ch} (h : c.wr = true) : (setW al c).wr = true := by unfold setW; split <;> first | rfl | exact h
end
end Go.Proofs.YtadadidccbhopaaGreat
