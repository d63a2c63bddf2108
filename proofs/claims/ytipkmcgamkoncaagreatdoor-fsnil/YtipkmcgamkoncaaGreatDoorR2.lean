/- The reckoner of closed calls, second part: what its operations do on the machine. No condition. -/
import Derived.Test.YtipkmcgamkoncaaGreatDoorR1
import Derived.OrdersIn
import Derived.RangeFuncLeaves
import Derived.RangeFuncNested
import Derived.RangeFuncRecord
import Derived.Laws.Sem
import Derived.Lib.Bytealg
import Derived.Laws.Append
import Derived.DeepKeys
import Derived.LaidEqlPtr
/- Regions whose order is left open: any order comes to what the order of the text comes to. -/
namespace Go.Ev

/-- j must go ahead of k -/
inductive Anc (ops : Array Oper) : Nat → Nat → Prop
  | edge {k : Nat} {o : Oper} {e : Edge} : ops[k]? = some o → e ∈ o.after → Region.binds .any e = true → Anc ops e.on k
  | trans {j k : Nat} {o : Oper} {e : Edge} : ops[k]? = some o → e ∈ o.after → Region.binds .any e = true → Anc ops j e.on → Anc ops j k

def dstAt (ops : Array Oper) (i : Nat) : Option Nat := (ops[i]?).bind (·.dst)
def looksOf (ops : Array Oper) (i : Nat) : List Nat := match ops[i]? with | some o => o.looksAt ops | none => []

/-- what an operation does, asked for by the slots that it looks at -/
def StepAt (P : Program) (ops : Array Oper) (i nx nx' m wm : Nat) (H H' : Nat → HB) (F : Nat → V) (v : V) : Prop :=
  ∀ ro D R w a Q, (∀ b, D b → ¬ New nx nx' b) → Pre P D R H nx m w → (∀ t, t ∈ looksOf ops i → t < 256 → Den D R (F t) (a.tmps.getD t undef)) → Glob P D R →
    ∀ K : Act → World → Prop, (∀ x w' R', Post P D R H H' nx nx' m wm w R' w' → Den (Plus D nx nx') R' v x → K (a.put (dstAt ops i) x) w') → wpOpIn (Fr ro) 0 P ops Q i K a w

/-- all operations of a region, in the order of the text -/
structure Seq (P : Program) (ops : Array Oper) (N : Nat) (nx : Nat → Nat) (G : Nat → Nat → HB) (Fv : Nat → Nat → V) (rm wm : Nat → Nat) (v : Nat → V) : Prop where
  le : ∀ i, i < ops.size → nx i ≤ nx (i + 1)
  beyond : ∀ i, i ≤ ops.size → ∀ b, nx i ≤ b → G i b = .dead
  keep : ∀ i, i < ops.size → ∀ b, ¬ In (wm i) b → ¬ New (nx i) (nx (i + 1)) b → G (i + 1) b = G i b
  dead : ∀ i, i < ops.size → ∀ b, b < nx i → G i b = .dead → G (i + 1) b = .dead
  step : ∀ i, i < ops.size → StepAt P ops i (nx i) (nx (i + 1)) (rm i ||| wm i) (wm i) (G i) (G (i + 1)) (Fv i) (v i)
  slot : ∀ i, i < ops.size → ∀ t, Fv (i + 1) t = if dstAt ops i = some t then v i else Fv i t
  small : ∀ i t, dstAt ops i = some t → t < N
  mem : ∀ j k, j < k → k < ops.size → ¬ Anc ops j k → ∀ b, (In (wm k) b → ¬ (In (rm j) b ∨ In (wm j) b ∨ New (nx j) (nx (j + 1)) b)) ∧ (In (wm j) b ∨ New (nx j) (nx (j + 1)) b → ¬ In (rm k) b)
  tmp : ∀ j k, j < k → k < ops.size → ¬ Anc ops j k → ∀ t, (dstAt ops j = some t → t ∉ looksOf ops k ∧ dstAt ops k ≠ some t) ∧ (dstAt ops k = some t → t ∉ looksOf ops j)
  edges : ∀ k o, ops[k]? = some o → ∀ e ∈ o.after, Region.binds .any e = true → e.on < k

theorem countP_lt {l : List Nat} {p q : Nat → Bool} (h : ∀ x, q x = true → p x = true) {i : Nat} (hi : i ∈ l) (hp : p i = true) (hq : q i = false) : l.countP q < l.countP p := by
  induction l with
  | nil => cases hi
  | cons x l ih =>
    have hle : l.countP q ≤ l.countP p := List.countP_mono_left fun x _ => h x
    rcases List.mem_cons.1 hi with rfl | hi
    · simp [hp, hq]; omega
    · have := ih hi
      simp only [List.countP_cons]
      have h2 : (if q x = true then 1 else 0) ≤ (if p x = true then 1 else 0) := by
        by_cases hqx : q x = true
        · simp [hqx, h x hqx]
        · simp [hqx]
      omega

variable {P : Program} {ro : Option Nat} {ops : Array Oper} {N : Nat} {nx : Nat → Nat} {G : Nat → Nat → HB} {Fv : Nat → Nat → V} {rm wm : Nat → Nat} {v : Nat → V}

theorem Seq.mono (h : Seq P ops N nx G Fv rm wm v) : ∀ d i, i + d ≤ ops.size → nx i ≤ nx (i + d) := by
  intro d
  induction d with
  | zero => intro i _; exact Nat.le_refl _
  | succ d ih => intro i hi; exact Nat.le_trans (ih i (by omega)) (h.le (i + d) (by omega))
theorem Seq.mono' (h : Seq P ops N nx G Fv rm wm v) {i j : Nat} (hij : i ≤ j) (hj : j ≤ ops.size) : nx i ≤ nx j := by
  have := h.mono (j - i) i (by omega)
  rwa [show i + (j - i) = j by omega] at this

/-- an operation changes a block -/
def Wr (nx wm : Nat → Nat) (j b : Nat) : Prop := (b < nx j ∧ In (wm j) b) ∨ New (nx j) (nx (j + 1)) b

theorem Seq.chain (h : Seq P ops N nx G Fv rm wm v) (b i : Nat) : ∀ d, i + d ≤ ops.size → (∀ j, i ≤ j → j < i + d → ¬ Wr nx wm j b) → G (i + d) b = G i b := by
  intro d
  induction d with
  | zero => intro _ _; rfl
  | succ d ih =>
    intro hi hw
    have h1 := ih (by omega) fun j h1 h2 => hw j h1 (by omega)
    rw [← h1]
    have hn := hw (i + d) (by omega) (by omega)
    have hnn : ¬ New (nx (i + d)) (nx (i + d + 1)) b := fun q => hn (.inr q)
    by_cases hb : b < nx (i + d)
    · exact h.keep (i + d) (by omega) b (fun q => hn (.inl ⟨hb, q⟩)) hnn
    · have h2 : nx (i + d + 1) ≤ b := by
        rcases Nat.lt_or_ge b (nx (i + d + 1)) with q | q
        · exact (hnn ⟨by omega, q⟩).elim
        · exact q
      rw [h.beyond (i + d) (by omega) b (by omega)]
      exact h.beyond (i + d + 1) (by omega) b h2
theorem Seq.chain' (h : Seq P ops N nx G Fv rm wm v) {b i j : Nat} (hij : i ≤ j) (hj : j ≤ ops.size) (hw : ∀ k, i ≤ k → k < j → ¬ Wr nx wm k b) : G j b = G i b := by
  have := h.chain b i (j - i) (by omega) fun k h1 h2 => hw k h1 (by omega)
  rwa [show i + (j - i) = j by omega] at this

theorem Seq.chainS (h : Seq P ops N nx G Fv rm wm v) (t i : Nat) : ∀ d, i + d ≤ ops.size → (∀ j, i ≤ j → j < i + d → dstAt ops j ≠ some t) → Fv (i + d) t = Fv i t := by
  intro d
  induction d with
  | zero => intro _ _; rfl
  | succ d ih =>
    intro hi hw
    rw [← ih (by omega) fun j h1 h2 => hw j h1 (by omega)]
    have := h.slot (i + d) (by omega) t
    rw [if_neg (hw (i + d) (by omega) (by omega))] at this
    exact this
theorem Seq.chainS' (h : Seq P ops N nx G Fv rm wm v) {t i j : Nat} (hij : i ≤ j) (hj : j ≤ ops.size) (hw : ∀ k, i ≤ k → k < j → dstAt ops k ≠ some t) : Fv j t = Fv i t := by
  have := h.chainS t i (j - i) (by omega) fun k h1 h2 => hw k h1 (by omega)
  rwa [show i + (j - i) = j by omega] at this

theorem Seq.deadFrom (h : Seq P ops N nx G Fv rm wm v) (b : Nat) (hb : b < nx 0) (h0 : G 0 b = .dead) : ∀ i, i ≤ ops.size → G i b = .dead := by
  intro i
  induction i with
  | zero => intro _; exact h0
  | succ i ih => intro hi; exact h.dead i (by omega) b (Nat.lt_of_lt_of_le hb (h.mono' (by omega) (by omega))) (ih (by omega))

/-- a block that came in came in with one of the operations -/
theorem Seq.maker (_h : Seq P ops N nx G Fv rm wm v) (b : Nat) (h0 : nx 0 ≤ b) : ∀ i, b < nx i → ∃ j, j < i ∧ New (nx j) (nx (j + 1)) b := by
  intro i
  induction i with
  | zero => intro hb; omega
  | succ i ih =>
    intro hb
    by_cases hi : b < nx i
    · obtain ⟨j, h1, h2⟩ := ih hi; exact ⟨j, by omega, h2⟩
    · exact ⟨i, by omega, by omega, hb⟩

abbrev On (l : Array Bool) (i : Nat) : Prop := l[i]? = some true

/-- those that came in with what was done -/
def NS (nx : Nat → Nat) (l : Array Bool) (b : Nat) : Prop := ∃ i, On l i ∧ New (nx i) (nx (i + 1)) b

structure Inv (P : Program) (ops : Array Oper) (N : Nat) (nx : Nat → Nat) (G : Nat → Nat → HB) (Fv : Nat → Nat → V) (wm : Nat → Nat) (mt wt : Nat) (df : List Deferred) (D : Nat → Prop) (R : Ren) (w₀ : World)
    (l : Array Bool) (a : Act) (w : World) (GS : Nat → HB) (FS : Nat → V) (RS : Ren) : Prop where
  size : l.size = ops.size
  closed : ∀ k o, On l k → ops[k]? = some o → ∀ e ∈ o.after, Region.binds .any e = true → On l e.on
  post : PostN P D R (G 0) GS (NS nx l) (fun b => b < nx 0 ∧ In mt b) (fun b => b < nx 0 ∧ In wt b) w₀ RS w
  mem : ∀ b i, i ≤ ops.size → (∀ j, j < ops.size → Wr nx wm j b → (On l j ↔ j < i)) → GS b = G i b
  tmp : ∀ t i, i ≤ ops.size → (∀ j, j < ops.size → dstAt ops j = some t → (On l j ↔ j < i)) → FS t = Fv i t
  dead : ∀ b, b < nx 0 → G 0 b = .dead → GS b = .dead
  are : ∀ t, t < 256 → Den (fun b => D b ∨ NS nx l b) RS (FS t) (a.tmps.getD t undef)
  tmps : a.tmps.size = N
  defers : a.defers = df

theorem Inv.anc {mt wt : Nat} {df : List Deferred} {D : Nat → Prop} {R : Ren} {w₀ : World} {l : Array Bool} {a : Act} {w : World} {GS : Nat → HB} {FS : Nat → V} {RS : Ren}
    (h : Inv P ops N nx G Fv wm mt wt df D R w₀ l a w GS FS RS) {j k : Nat} (hjk : Anc ops j k) : On l k → On l j := by
  induction hjk with
  | edge ho he hb => intro hk; exact h.closed _ _ hk ho _ he hb
  | trans ho he hb _ ih => intro hk; exact ih (h.closed _ _ hk ho _ he hb)

theorem on_set (l : Array Bool) (i j : Nat) (hi : i < l.size) : On (l.setIfInBounds i true) j ↔ On l j ∨ j = i := by
  unfold On
  by_cases h : j = i
  · subst h; simp [hi]
  · rw [Array.getElem?_setIfInBounds_ne (Ne.symm h)]; simp [h]

theorem not_getD {l : Array Bool} {n i : Nat} (hs : l.size = n) (hi : i < n) : l.getD i true = false ↔ ¬ On l i := by
  have h : i < l.size := by omega
  unfold On
  simp [h]
theorem getD_on {l : Array Bool} {i : Nat} : l.getD i false = true ↔ On l i := by
  unfold On
  by_cases h : i < l.size
  · simp [h]
  · simp [h]

theorem Seq.newIn (h : Seq P ops N nx G Fv rm wm v) {i : Nat} (hi : i < ops.size) {b : Nat} (hb : New (nx i) (nx (i + 1)) b) : New (nx 0) (nx ops.size) b :=
  ⟨Nat.le_trans (h.mono' (by omega) (by omega)) hb.1, Nat.lt_of_lt_of_le hb.2 (h.mono' (by omega) (by omega))⟩
theorem Seq.newOne (h : Seq P ops N nx G Fv rm wm v) {i j : Nat} (hi : i < ops.size) (hj : j < ops.size) {b : Nat} (h1 : New (nx i) (nx (i + 1)) b) (h2 : New (nx j) (nx (j + 1)) b) : i = j := by
  rcases Nat.lt_trichotomy i j with q | q | q
  · have := h.mono' (i := i + 1) (j := j) (by omega) (by omega); have := h1.2; have := h2.1; omega
  · exact q
  · have := h.mono' (i := j + 1) (j := i) (by omega) (by omega); have := h1.1; have := h2.2; omega

section
variable {mt wt : Nat} {df : List Deferred} {D : Nat → Prop} {R : Ren} {w₀ : World} {l : Array Bool} {a : Act} {w : World} {GS : Nat → HB} {FS : Nat → V} {RS : Ren}

/-- all is done -/
theorem Inv.final (h : Seq P ops N nx G Fv rm wm v) (hI : Inv P ops N nx G Fv wm mt wt df D R w₀ l a w GS FS RS) (hall : ∀ i, i < ops.size → On l i) :
    Post P D R (G 0) (G ops.size) (nx 0) (nx ops.size) mt wt w₀ RS w ∧ (∀ t, t < 256 → Den (Plus D (nx 0) (nx ops.size)) RS (Fv ops.size t) (a.tmps.getD t undef)) := by
  have hon : ∀ j, j < ops.size → (On l j ↔ j < ops.size) := fun j hj => ⟨fun _ => hj, fun _ => hall j hj⟩
  have hG : GS = G ops.size := by funext b; exact hI.mem b ops.size (Nat.le_refl _) fun j hj _ => hon j hj
  have hF : FS = Fv ops.size := by funext t; exact hI.tmp t ops.size (Nat.le_refl _) fun j hj _ => hon j hj
  have lt_of_on : ∀ {i}, On l i → i < ops.size := fun {i} hi => by
    rcases Nat.lt_or_ge i ops.size with q | q
    · exact q
    · unfold On at hi; rw [Array.getElem?_eq_none (by rw [hI.size]; exact q)] at hi; cases hi
  have hNS : ∀ b, NS nx l b ↔ New (nx 0) (nx ops.size) b := by
    intro b
    constructor
    · rintro ⟨i, hi, hb⟩; exact h.newIn (lt_of_on hi) hb
    · intro hb
      obtain ⟨j, hj, hn⟩ := h.maker b hb.1 ops.size hb.2
      exact ⟨j, hall j hj, hn⟩
  have hP : (fun b => D b ∨ NS nx l b) = Plus D (nx 0) (nx ops.size) := by funext b; simp only [Plus, hNS]
  have p := hI.post
  rw [hG] at p
  refine ⟨⟨fun i hi => p.ren i fun q => hi ((hNS i).1 q), fun i hi ha => ?_, fun i j hi hj => p.inj i j ?_ ?_, fun i hi ha => ?_, fun b hb hk => p.keep b hb fun i hi => hk i hi.1 hi.2, p.size, p.tape, p.os, p.out⟩, ?_⟩
  · have := p.rep i (hi.imp id (hNS i).2) ha
    rwa [hP] at this
  · exact hi.imp id (hNS i).2
  · exact hj.imp id (hNS j).2
  · rcases p.fresh i ((hNS i).2 hi) ha with q | ⟨j, h1, h2, h3, h4⟩
    · exact .inl q
    · exact .inr ⟨j, h1.1, h1.2, h2, h3, h4⟩
  · intro t ht
    have := hI.are t ht
    rwa [hP, hF] at this

/-- one more is done -/
theorem Inv.next (h : Seq P ops N nx G Fv rm wm v) (_hN : N ≤ 256)
    (hmt : ∀ i, i < ops.size → ∀ b, In (rm i ||| wm i) b → In mt b) (hwt : ∀ i, i < ops.size → ∀ b, In (wm i) b → In wt b) (hwm : ∀ b, In wt b → In mt b)
    (hD : ∀ b, D b → ¬ New (nx 0) (nx ops.size) b) (hpre : Pre P D R (G 0) (nx 0) mt w₀) (hg : Glob P D R) {Q : Exit → Act → World → Prop}
    (hI : Inv P ops N nx G Fv wm mt wt df D R w₀ l a w GS FS RS) {i : Nat} (hi : i < ops.size) (hoff : ¬ On l i) (hrd : ∀ j, Anc ops j i → On l j) (hrd' : ∀ o, ops[i]? = some o → ∀ e ∈ o.after, Region.binds .any e = true → On l e.on)
    {K : Act → World → Prop} (hK : ∀ a' w' GS' FS' RS', Inv P ops N nx G Fv wm mt wt df D R w₀ (l.setIfInBounds i true) a' w' GS' FS' RS' → K a' w') :
    wpOpIn (Fr ro) 0 P ops Q i K a w := by
  have lt_of_on : ∀ {i}, On l i → i < ops.size := fun {i} hi => by
    rcases Nat.lt_or_ge i ops.size with q | q
    · exact q
    · unfold On at hi; rw [Array.getElem?_eq_none (by rw [hI.size]; exact q)] at hi; cases hi
  have p := hI.post
  have nle : nx 0 ≤ nx i := h.mono' (by omega) (by omega)
  -- those that meet it
  have before : ∀ j, j < i → ∀ b, (In (rm i ||| wm i) b ∧ (In (wm j) b ∨ New (nx j) (nx (j + 1)) b)) → On l j := by
    intro j hj b hb
    refine hrd j (Classical.byContradiction fun hn => ?_)
    have := h.mem j i hj hi hn b
    rcases in_or.1 hb.1 with q | q
    · exact this.2 hb.2 q
    · exact this.1 q (.inr hb.2)
  have behind : ∀ j, i < j → j < ops.size → ∀ b, (In (rm i) b ∨ In (wm i) b ∨ New (nx i) (nx (i + 1)) b) → In (wm j) b → ¬ On l j := by
    intro j hj hj' b hb hw hon
    refine hoff (hI.anc (Classical.byContradiction fun hn => ?_) hon)
    exact (h.mem i j hj hj' hn b).1 hw hb
  have hag : ∀ b, b < nx i → In (rm i ||| wm i) b → GS b = G i b := by
    intro b hb hm
    refine hI.mem b i (by omega) fun j hj hw => ?_
    rcases Nat.lt_trichotomy j i with q | q | q
    · exact ⟨fun _ => q, fun _ => before j q b ⟨hm, hw.imp (·.2) id⟩⟩
    · subst q; exact ⟨fun q => (hoff q).elim, fun q => by omega⟩
    · refine ⟨fun hon => ?_, fun q' => by omega⟩
      rcases hw with hw | hw
      · exact (behind j q hj b (by rcases in_or.1 hm with q | q; (· exact .inl q); (· exact .inr (.inl q))) hw.2 hon).elim
      · have := h.mono' (i := i) (j := j) (by omega) (by omega)
        have := hw.1; omega
  have hnewer : ∀ b, b < nx i → In (rm i ||| wm i) b → ¬ b < nx 0 → NS nx l b := by
    intro b hb hm h0
    obtain ⟨j, hj, hn⟩ := h.maker b (by omega) i hb
    exact ⟨j, before j hj b ⟨hm, .inr hn⟩, hn⟩
  have ht : ∀ b, b < nx i → In (rm i ||| wm i) b → Al (G i) b → (b < nx 0 ∧ In mt b) ∨ NS nx l b := by
    intro b hb hm _
    by_cases h0 : b < nx 0
    · exact .inl ⟨h0, hmt i hi b hm⟩
    · exact .inr (hnewer b hb hm h0)
  have notNS : ∀ b, New (nx i) (nx (i + 1)) b → ¬ NS nx l b := by
    rintro b hb ⟨j, hj, hn⟩
    have := h.newOne hi (lt_of_on hj) hb hn
    exact hoff (this ▸ hj)
  have alive0 : ∀ b, b < nx 0 → Al GS b → Al (G 0) b := fun b hb ha e => ha (hI.dead b hb e)
  have hDN : ∀ b, D b → ¬ NS nx l b := by
    rintro b hb ⟨j, hj, hn⟩
    exact hD b hb (h.newIn (lt_of_on hj) hn)
  have agS : Agr D R RS := fun b hb => p.ren b (hDN b hb)
  have look : ∀ t, t ∈ looksOf ops i → FS t = Fv i t := by
    intro t hlt
    refine hI.tmp t i (by omega) fun j hj hd => ?_
    rcases Nat.lt_trichotomy j i with q | q | q
    · refine ⟨fun _ => q, fun _ => hrd j (Classical.byContradiction fun hn => ?_)⟩
      exact ((h.tmp j i q hi hn t).1 hd).1 hlt
    · subst q; exact ⟨fun q => (hoff q).elim, fun q => by omega⟩
    · refine ⟨fun hon => (hoff (hI.anc (Classical.byContradiction fun hn => ?_) hon)).elim, fun q' => by omega⟩
      exact (h.tmp i j q hj hn t).2 hd hlt
  refine h.step i hi ro (fun b => D b ∨ NS nx l b) RS w a Q ?_ ⟨?_, ?_⟩ (fun t hl ht => look t hl ▸ hI.are t ht) (hg.more (fun _ hb => .inl hb) agS) K fun x w' R' pp hx => ?_
  · rintro b (hb | hb) hn
    · exact hD b hb (h.newIn hi hn)
    · exact notNS b hn hb
  · intro b hb hm ha
    have haS : Al GS b := by rw [Al, hag b hb hm]; exact ha
    have hmn := ht b hb hm ha
    have hr := p.rep b hmn haS
    rw [hag b hb hm] at hr
    refine ⟨?_, hr⟩
    rcases hmn with q | q
    · exact .inl (hpre.rep b q.1 q.2 (alive0 b q.1 haS)).1
    · exact .inr q
  · intro b c hb hc hmb hmc hab hac he
    exact p.inj b c (ht b hb hmb hab) (ht c hc hmc hac) (by rw [Al, hag b hb hmb]; exact hab) (by rw [Al, hag c hc hmc]; exact hac) he
  · -- what holds then
    have hdi : ∀ t, dstAt ops i = some t → t < a.tmps.size := fun t ht => by rw [hI.tmps]; exact h.small i t ht
    have on' : ∀ j, On (l.setIfInBounds i true) j ↔ On l j ∨ j = i := fun j => on_set l i j (by rw [hI.size]; exact hi)
    have hNS' : ∀ b, NS nx (l.setIfInBounds i true) b ↔ NS nx l b ∨ New (nx i) (nx (i + 1)) b := by
      intro b
      constructor
      · rintro ⟨j, hj, hn⟩
        rcases (on' j).1 hj with q | q
        · exact .inl ⟨j, q, hn⟩
        · subst q; exact .inr hn
      · rintro (⟨j, hj, hn⟩ | hn)
        · exact ⟨j, (on' j).2 (.inl hj), hn⟩
        · exact ⟨i, (on' i).2 (.inr rfl), hn⟩
    have hNSf : NS nx (l.setIfInBounds i true) = fun b => NS nx l b ∨ New (nx i) (nx (i + 1)) b := by funext b; exact propext (hNS' b)
    have hPl : Plus (fun b => D b ∨ NS nx l b) (nx i) (nx (i + 1)) = fun b => D b ∨ NS nx (l.setIfInBounds i true) b := by
      funext b; simp only [Plus, hNS', or_assoc]
    classical
    refine hK _ _ (fun b => if Wr nx wm i b then G (i + 1) b else GS b) (fun t => if dstAt ops i = some t then v i else FS t) R' ⟨by simp [hI.size], ?_, ?_, ?_, ?_, ?_, ?_, ?_, ?_⟩
    · intro k o hk ho e he hb
      rcases (on' k).1 hk with q | q
      · exact (on' _).2 (.inl (hI.closed k o q ho e he hb))
      · subst q; exact (on' _).2 (.inl (hrd' o ho e he hb))
    · rw [hNSf]
      refine p.step pp (fun b hb => ?_) (fun b hb ha => (hpre.rep b hb.1 hb.2 ha).1) (fun b hb ha => alive0 b hb.1 ha) (fun b hb => ⟨hb.1, hwm b hb.2⟩) hag ht (fun b hb => in_or.2 (.inr hb)) ?_ ?_ ?_ ?_ ?_ (h.keep i hi) (h.dead i hi)
      · rintro ⟨j, hj, hn⟩
        have := (h.newIn (lt_of_on hj) hn).1; have := hb.1; omega
      · intro b hb hw ha hn
        by_cases h0 : b < nx 0
        · exact ⟨h0, hwt i hi b hw⟩
        · exact (hn (hnewer b hb (in_or.2 (.inr hw)) h0)).elim
      · intro b hb
        refine ⟨fun q => ?_, notNS b hb, fun q => hD b q (h.newIn hi hb)⟩
        have := q.1; have := hb.1; omega
      · intro b hb hw; rw [if_pos (.inl ⟨hb, hw⟩)]
      · intro b hb; rw [if_pos (.inr hb)]
      · intro b h1 h2; rw [if_neg (fun q => q.elim h1 h2)]
    · intro b i' hi' hh
      by_cases hw : Wr nx wm i b
      · rw [if_pos hw]
        have hlt : i < i' := (hh i hi hw).1 ((on' i).2 (.inr rfl))
        refine (h.chain' (by omega) hi' fun j h1 h2 hwj => ?_).symm
        have hj : j < ops.size := by omega
        have hon : On l j := ((on' j).1 ((hh j hj hwj).2 h2)).resolve_right (by omega)
        have hm := h.mono' (i := i + 1) (j := j) (by omega) (by omega)
        rcases hwj with q | q
        · exact behind j (by omega) hj b (hw.elim (fun q => .inr (.inl q.2)) (fun q => .inr (.inr q))) q.2 hon
        · have h3 := q.1
          rcases hw with q' | q'
          · have := h.le i hi; have := q'.1; omega
          · have := q'.2; omega
      · rw [if_neg hw]
        refine hI.mem b i' hi' fun j hj hwj => ?_
        rw [← hh j hj hwj, on' j]
        refine ⟨.inl, fun q => q.resolve_right fun e => ?_⟩
        subst e; exact hw hwj
    · intro t i' hi' hh
      show (if dstAt ops i = some t then v i else FS t) = Fv i' t
      by_cases hd : dstAt ops i = some t
      · rw [if_pos hd]
        have hlt : i < i' := (hh i hi hd).1 ((on' i).2 (.inr rfl))
        have hs := h.slot i hi t
        rw [if_pos hd] at hs
        rw [← hs]
        refine (h.chainS' (by omega) hi' fun j h1 h2 hdj => ?_).symm
        have hj : j < ops.size := by omega
        have hon : On l j := ((on' j).1 ((hh j hj hdj).2 h2)).resolve_right (by omega)
        refine hoff (hI.anc (Classical.byContradiction fun hn => ?_) hon)
        exact ((h.tmp i j (by omega) hj hn t).1 hd).2 hdj
      · rw [if_neg hd]
        refine hI.tmp t i' hi' fun j hj hdj => ?_
        rw [← hh j hj hdj, on' j]
        refine ⟨.inl, fun q => q.resolve_right fun e => ?_⟩
        subst e; exact hd hdj
    · intro b hb h0
      show (if Wr nx wm i b then G (i + 1) b else GS b) = .dead
      by_cases hw : Wr nx wm i b
      · rw [if_pos hw]
        exact h.deadFrom b hb h0 (i + 1) (by omega)
      · rw [if_neg hw]; exact hI.dead b hb h0
    · intro t ht
      show Den _ R' (if dstAt ops i = some t then v i else FS t) _
      rw [← hPl]
      have hagp : Agr (fun b => D b ∨ NS nx l b) RS R' := by
        intro b hb
        refine pp.ren b fun hn => ?_
        rcases hb with q | q
        · exact hD b q (h.newIn hi hn)
        · exact notNS b hn q
      cases hd : dstAt ops i with
      | none =>
        simp only [Act.put]
        rw [if_neg (by simp)]
        exact (hI.are t ht).more Plus.sub hagp
      | some d =>
        by_cases e : d = t
        · subst e
          rw [if_pos rfl]
          have := hdi d hd
          simp only [Act.put, Array.getD_eq_getD_getElem?, Array.getElem?_setIfInBounds_self_of_lt this, Option.getD_some]
          exact hx
        · rw [if_neg (by simpa using e)]
          simp only [Act.put, Array.getD_eq_getD_getElem?, Array.getElem?_setIfInBounds_ne e]
          have := (hI.are t ht).more (Plus.sub (nx := nx i) (nx' := nx (i + 1))) hagp
          simpa [Array.getD_eq_getD_getElem?] using this
    · cases hd : dstAt ops i <;> simp [Act.put, hI.tmps]
    · cases hd : dstAt ops i <;> simp [Act.put, hI.defers]
end

theorem any_sound (h : Seq P ops N nx G Fv rm wm v) {mt wt : Nat} {df : List Deferred} {D : Nat → Prop} {R : Ren} {w₀ : World} (hN : N ≤ 256)
    (hmt : ∀ i, i < ops.size → ∀ b, In (rm i ||| wm i) b → In mt b) (hwt : ∀ i, i < ops.size → ∀ b, In (wm i) b → In wt b) (hwm : ∀ b, In wt b → In mt b)
    (hD : ∀ b, D b → ¬ New (nx 0) (nx ops.size) b) (hpre : Pre P D R (G 0) (nx 0) mt w₀) (hg : Glob P D R) {Q : Exit → Act → World → Prop}
    (hfin : ∀ a w R', a.defers = df → a.tmps.size = N → Post P D R (G 0) (G ops.size) (nx 0) (nx ops.size) mt wt w₀ R' w → (∀ t, t < 256 → Den (Plus D (nx 0) (nx ops.size)) R' (Fv ops.size t) (a.tmps.getD t undef)) → Q .normal a w) :
    ∀ fuel l a w GS FS RS, Inv P ops N nx G Fv wm mt wt df D R w₀ l a w GS FS RS → (List.range ops.size).countP (fun i => l[i]? != some true) ≤ fuel → wpAnyIn (Fr ro) 0 P .any ops Q fuel l a w := by
  -- nothing is ready: all is done
  have over : ∀ l a w GS FS RS, Inv P ops N nx G Fv wm mt wt df D R w₀ l a w GS FS RS → Region.ready .any ops l = [] → Q .normal a w := by
    intro l a w GS FS RS hI hnil
    have hall : ∀ i, i < ops.size → On l i := by
      intro i
      induction i using Nat.strongRecOn with
      | _ i ih =>
        intro hi
        refine Classical.byContradiction fun hoff => ?_
        have : i ∈ Region.ready .any ops l := by
          refine mem_ready.2 ⟨(not_getD hI.size hi).2 hoff, ops[i], by simp [hi], fun e he hb => getD_on.2 ?_⟩
          have := h.edges i ops[i] (by simp [hi]) e he hb
          exact ih e.on this (by omega)
        rw [hnil] at this
        cases this
    obtain ⟨h1, h2⟩ := hI.final h hall
    exact hfin a w RS hI.defers hI.tmps h1 h2
  intro fuel
  induction fuel with
  | zero =>
    intro l a w GS FS RS hI hc
    have hall : ∀ i, i < ops.size → On l i := by
      intro i hi
      have := List.countP_eq_zero.1 (Nat.le_zero.1 hc) i (List.mem_range.2 hi)
      simpa using this
    have hnil : Region.ready .any ops l = [] := by
      cases hr : Region.ready .any ops l with
      | nil => rfl
      | cons x xs =>
        have hx : x ∈ Region.ready .any ops l := by rw [hr]; simp
        obtain ⟨h1, o, h2, _⟩ := mem_ready.1 hx
        have hx' : x < ops.size := by
          rcases Nat.lt_or_ge x ops.size with q | q
          · exact q
          · rw [Array.getElem?_eq_none q] at h2; cases h2
        exact ((not_getD hI.size hx').1 h1 (hall x hx')).elim
    exact ⟨hnil, over l a w GS FS RS hI hnil⟩
  | succ fuel ih =>
    intro l a w GS FS RS hI hc
    refine ⟨over l a w GS FS RS hI, fun i hr => ?_⟩
    obtain ⟨h1, o, h2, h3⟩ := mem_ready.1 hr
    have hi : i < ops.size := by
      rcases Nat.lt_or_ge i ops.size with q | q
      · exact q
      · rw [Array.getElem?_eq_none q] at h2; cases h2
    have hoff := (not_getD hI.size hi).1 h1
    have hdir : ∀ o, ops[i]? = some o → ∀ e ∈ o.after, Region.binds .any e = true → On l e.on := by
      intro o' ho' e he hb
      rw [h2] at ho'; cases ho'
      exact getD_on.1 (h3 e he hb)
    have hanc : ∀ j, Anc ops j i → On l j := by
      intro j hj
      cases hj with
      | edge ho he hb => exact hdir _ ho _ he hb
      | trans ho he hb hh => exact hI.anc hh (hdir _ ho _ he hb)
    refine hI.next h hN hmt hwt hwm hD hpre hg hi hoff hanc hdir fun a' w' GS' FS' RS' hI' => ih _ _ _ _ _ _ hI' ?_
    have : (List.range ops.size).countP (fun j => (l.setIfInBounds i true)[j]? != some true) < (List.range ops.size).countP (fun j => l[j]? != some true) := by
      refine countP_lt (i := i) (fun x hx => ?_) (List.mem_range.2 hi) (by simpa using hoff) (by simp [hI.size, hi])
      simp only [bne_iff_ne, ne_eq] at hx ⊢
      intro e
      exact hx ((on_set l i x (by rw [hI.size]; exact hi)).2 (.inl e))
    omega
end Go.Ev
/- An operation's closure reads its operands' slots alone. -/
namespace Go.Ev

def SameAt (l : List Operand) (F F' : Nat → V) : Prop := ∀ t, .tmp t ∈ l → F t = F' t

theorem acc_congr {x : Operand} {f : Tm → (V → Bool) → Bool} (hx : acc x = some ⟨f⟩) {F F' : Nat → V} (h : ∀ t, x = .tmp t → F t = F' t) (K : V → Bool) : f (mk2 F) K = f (mk2 F') K := by
  cases x with
  | tmp t =>
    unfold acc at hx
    simp only at hx
    split at hx
    · rename_i ht
      have ht2 : t < 256 := Nat.lt_succ_of_le (Nat.le_of_ble_eq_true ht)
      have e : f = (slot t : Slot V).g := by
        revert hx
        generalize (slot t : Slot V) = q
        obtain ⟨g, p⟩ := q
        intro hx; cases hx; rfl
      rw [e, slot_g F K t ht2, slot_g F' K t ht2, h t rfl]
    · cases hx
  | const v =>
    unfold acc at hx
    simp only at hx
    split at hx
    · cases hx; rfl
    · cases hx
  | global g => cases hx; rfl
  | func f' => cases hx; rfl

theorem accL_congr {l : List Operand} : ∀ {f : Tm → (List V → Bool) → Bool}, accL l = some ⟨f⟩ → ∀ {F F' : Nat → V}, SameAt l F F' → ∀ K, f (mk2 F) K = f (mk2 F') K := by
  induction l with
  | nil => intro f hf F F' _ K; cases hf; rfl
  | cons x l ih =>
    intro f hf F F' h K
    have hf' : (match acc x with
      | some ⟨f⟩ => (match accL l with | some ⟨g⟩ => some (⟨fun T K => f T (fun v => g T (fun r => K (v :: r)))⟩ : AccL) | none => none)
      | none => none) = some ⟨f⟩ := hf
    cases hx : acc x with
    | none => rw [hx] at hf'; cases hf'
    | some q =>
      obtain ⟨fx⟩ := q
      rw [hx] at hf'
      cases hl : accL l with
      | none => rw [hl] at hf'; cases hf'
      | some q =>
        obtain ⟨fl⟩ := q
        rw [hl] at hf'
        cases hf'
        show fx (mk2 F) _ = fx (mk2 F') _
        rw [acc_congr hx (fun t e => h t (by simp [e]))]
        congr 1; funext v
        exact ih hl (fun t e => h t (by simp [e])) _

theorem accP_congr {l : List (Nat × Operand)} : ∀ {f : Tm → (List (Nat × V) → Bool) → Bool}, accP l = some ⟨f⟩ → ∀ {F F' : Nat → V}, SameAt (l.map (·.2)) F F' → ∀ K, f (mk2 F) K = f (mk2 F') K := by
  induction l with
  | nil => intro f hf F F' _ K; cases hf; rfl
  | cons x l ih =>
    intro f hf F F' h K
    obtain ⟨i, x⟩ := x
    have hf' : (match acc x with
      | some ⟨f⟩ => (match accP l with | some ⟨g⟩ => some (⟨fun T K => f T (fun v => g T (fun r => K ((i, v) :: r)))⟩ : AccP) | none => none)
      | none => none) = some ⟨f⟩ := hf
    cases hx : acc x with
    | none => rw [hx] at hf'; cases hf'
    | some q =>
      obtain ⟨fx⟩ := q
      rw [hx] at hf'
      cases hl : accP l with
      | none => rw [hl] at hf'; cases hf'
      | some q =>
        obtain ⟨fl⟩ := q
        rw [hl] at hf'
        cases hf'
        show fx (mk2 F) _ = fx (mk2 F') _
        rw [acc_congr hx (fun t e => h t (by simp [e]))]
        congr 1; funext v
        exact ih hl (fun t e => h t (by simp at e ⊢; exact .inr e)) _

theorem accO_congr {x : Option Operand} {f : Tm → (Option V → Bool) → Bool} (hx : accO x = some ⟨f⟩) {F F' : Nat → V} (h : ∀ t, x = some (.tmp t) → F t = F' t) (K : Option V → Bool) : f (mk2 F) K = f (mk2 F') K := by
  cases x with
  | none => cases hx; rfl
  | some x =>
    have hx' : (match acc x with | some ⟨f⟩ => some (⟨fun T K => f T (fun v => K (some v))⟩ : AccO) | none => none) = some ⟨f⟩ := hx
    cases ha : acc x with
    | none => rw [ha] at hx'; cases hx'
    | some q =>
      obtain ⟨fx⟩ := q
      rw [ha] at hx'
      cases hx'
      exact acc_congr ha (fun t e => h t (by rw [e])) _

/-- reads these operands' slots alone -/
def Looks (l : List Operand) (c : OpC) : Prop := ∀ rec F F' s K, SameAt l F F' → c.f rec (mk2 F) s K = c.f rec (mk2 F') s K

theorem c1_congr {x : Operand} {k : V → St → KV → Bool} {c : OpC} (hf : c1 x k = some c) : Looks [x] c := by
  intro rec F F' s K h
  unfold c1 at hf
  cases ha : acc x with
  | none => rw [ha] at hf; cases hf
  | some q =>
    obtain ⟨fx⟩ := q
    rw [ha] at hf
    cases hf
    exact acc_congr ha (fun t e => h t (by simp [e])) _
theorem c2_congr {x y : Operand} {k : V → V → St → KV → Bool} {c : OpC} (hf : c2 x y k = some c) : Looks [x, y] c := by
  intro rec F F' s K h
  unfold c2 at hf
  cases ha : acc x with
  | none => rw [ha] at hf; cases hf
  | some q =>
    obtain ⟨fx⟩ := q
    rw [ha] at hf
    cases hb : acc y with
    | none => rw [hb] at hf; cases hf
    | some q =>
      obtain ⟨fy⟩ := q
      rw [hb] at hf
      cases hf
      show fx (mk2 F) _ = fx (mk2 F') _
      rw [acc_congr ha (fun t e => h t (by simp [e]))]
      congr 1; funext v
      exact acc_congr hb (fun t e => h t (by simp [e])) _
theorem c3_congr {x y z : Operand} {k : V → V → V → St → KV → Bool} {c : OpC} (hf : c3 x y z k = some c) : Looks [x, y, z] c := by
  intro rec F F' s K h
  unfold c3 at hf
  cases ha : acc x with
  | none => rw [ha] at hf; cases hf
  | some q =>
    obtain ⟨fx⟩ := q
    rw [ha] at hf
    cases hb : acc y with
    | none => rw [hb] at hf; cases hf
    | some q =>
      obtain ⟨fy⟩ := q
      rw [hb] at hf
      cases hc : acc z with
      | none => rw [hc] at hf; cases hf
      | some q =>
        obtain ⟨fz⟩ := q
        rw [hc] at hf
        cases hf
        show fx (mk2 F) _ = fx (mk2 F') _
        rw [acc_congr ha (fun t e => h t (by simp [e]))]
        congr 1; funext v
        show fy (mk2 F) _ = fy (mk2 F') _
        rw [acc_congr hb (fun t e => h t (by simp [e]))]
        congr 1; funext u
        exact acc_congr hc (fun t e => h t (by simp [e])) _
theorem Looks.sub {l l' : List Operand} {c : OpC} (h : Looks l c) (hs : ∀ x ∈ l, x ∈ l') : Looks l' c := fun rec F F' s K hh => h rec F F' s K fun t ht => hh t (hs _ ht)

theorem slice_congr {E : Env} {t : Nat} {x : Operand} {lo hi mx : Option Operand} {c : OpC} (hf : cSlice E t x lo hi mx = some c) : Looks ([x] ++ lo.toList ++ hi.toList ++ mx.toList) c := by
  intro rec F F' s K h
  unfold cSlice at hf
  split at hf
  · split at hf
    · split at hf
      · split at hf
        · rename_i hx
          split at hf
          · rename_i hl
            split at hf
            · rename_i hh
              split at hf
              · rename_i hm
                cases hf
                show (_ : Tm → (V → Bool) → Bool) (mk2 F) _ = _
                rw [acc_congr hx (fun t e => h t (by simp [e]))]
                congr 1; funext v
                show (_ : Tm → (Option V → Bool) → Bool) (mk2 F) _ = _
                rw [accO_congr hl (fun t e => h t (by simp [e]))]
                congr 1; funext v
                show (_ : Tm → (Option V → Bool) → Bool) (mk2 F) _ = _
                rw [accO_congr hh (fun t e => h t (by simp [e]))]
                congr 1; funext v
                exact accO_congr hm (fun t e => h t (by simp [e])) _
              · cases hf
            · cases hf
          · cases hf
        · cases hf
      · cases hf
    · cases hf
  · cases hf

theorem func_congr {f : Fn} {a b : List Operand} {c : OpC} (hf : cFunc f a b = some c) : Looks (a ++ b) c := by
  intro rec F F' s K h
  unfold cFunc at hf
  split at hf
  · split at hf
    · rename_i ha
      split at hf
      · rename_i hb
        cases hf
        show (_ : Tm → (List V → Bool) → Bool) (mk2 F) _ = _
        rw [accL_congr ha (fun t e => h t (by simp [e]))]
        congr 1; funext v
        exact accL_congr hb (fun t e => h t (by simp [e])) _
      · cases hf
    · cases hf
  · cases hf

theorem build_congr {E : Env} {t : Nat} {ps : List (Nat × Operand)} {c : OpC} (hf : cBuild E t ps = some c) : Looks (ps.map (·.2)) c := by
  intro rec F F' s K h
  unfold cBuild at hf
  split at hf
  · split at hf
    · rename_i hp
      split at hf
      · split at hf
        · cases hf; exact accP_congr hp h _
        · cases hf
      · split at hf
        · cases hf; exact accP_congr hp h _
        · cases hf
      · cases hf
    · cases hf
  · cases hf
theorem buildSlice_congr {E : Env} {t n : Nat} {ps : List (Nat × Operand)} {c : OpC} (hf : cBuildSlice E t n ps = some c) : Looks (ps.map (·.2)) c := by
  intro rec F F' s K h
  unfold cBuildSlice at hf
  split at hf
  · split at hf
    · rename_i hp
      split at hf
      · cases hf; exact accP_congr hp h _
      · cases hf
    · cases hf
  · cases hf

theorem builtin_congr {E : Env} {b : Builtin} {ts : List Nat} {args : List Operand} {c : OpC} (hf : builtinC E b ts args = some c) : Looks args c := by
  unfold builtinC at hf
  split at hf
  · split at hf
    · split at hf
      · split at hf
        · split at hf
          · cases hf; exact fun _ _ _ _ _ _ => rfl
          · cases hf
        · exact c1_congr hf
        · exact c1_congr hf
        · exact c1_congr hf
        · cases hf
      · split at hf
        · split at hf
          · split at hf
            · exact c1_congr hf
            · cases hf
          · cases hf
        · exact c1_congr hf
        · cases hf
      · cases hf
    · cases hf
  · split at hf
    · split at hf
      · split at hf
        · split at hf
          · split at hf
            · exact c2_congr hf
            · cases hf
          · cases hf
        · cases hf
      · split at hf
        · split at hf
          · split at hf
            · exact c2_congr hf
            · cases hf
          · cases hf
        · cases hf
      · split at hf
        · exact c2_congr hf
        · cases hf
      · split at hf
        · exact c2_congr hf
        · cases hf
      · split at hf
        · split at hf
          · exact c2_congr hf
          · cases hf
        · cases hf
      · cases hf
    · cases hf
  · cases hf

theorem call_congr {E : Env} {cl : Call} {c : OpC} (hf : callC E cl = some c) : Looks cl.operands.toList c := by
  unfold callC at hf
  obtain ⟨callee, args, ts⟩ := cl
  simp only at hf
  split at hf
  · exact (builtin_congr hf).sub fun x hx => by simp only [Call.operands]; simpa using hx
  · split at hf
    · rename_i f _ ha
      split at hf
      · rename_i hfn
        cases hf
        intro rec F F' s K h
        show (_ : Tm → (V → Bool) → Bool) (mk2 F) _ = _
        rw [acc_congr hfn (fun t e => h t (by simp [Call.operands, e]))]
        congr 1; funext v
        exact accL_congr ha (fun t e => h t (by simp [Call.operands] at e ⊢; simp [e])) _
      · cases hf
    · cases hf
  · cases hf

theorem ix_congr {E : Env} {cl : Call} {c : OpC} (hf : ixC E cl = some c) : Looks cl.operands.toList c := by
  unfold ixC at hf
  split at hf
  · cases hf
  · obtain ⟨callee, args, ts⟩ := cl
    simp only at hf
    split at hf
    · split at hf
      · split at hf
        · rename_i ha
          cases hf
          intro rec F F' s K h
          exact accL_congr ha (fun t e => h t (by simp only [Call.operands]; simp; exact .inr (by simpa using e))) _
        · cases hf
      · cases hf
    · cases hf
theorem callX_congr {E : Env} {cl : Call} {c : OpC} (hf : callX E cl = some c) : Looks cl.operands.toList c := by
  unfold callX at hf
  split at hf
  · rename_i h; cases hf; exact ix_congr h
  · exact call_congr hf
theorem opC_congr {E : Env} {op : Op} {c : OpC} (hf : opC E op = some c) : Looks op.operands.toList c := by
  cases op <;> simp only [opC] at hf <;> simp only [Op.operands]
  case move x => exact c1_congr hf
  case assign x => exact c1_congr hf
  case pick a b d => exact c3_congr hf
  case alloc t => split at hf; (· cases hf; exact fun _ _ _ _ _ _ => rfl); (· cases hf)
  case box t x => exact c1_congr hf
  case build t ps => simpa using build_congr hf
  case buildSlice t n ps => simpa using buildSlice_congr hf
  case load t a => split at hf; (· exact c1_congr hf); (· cases hf)
  case store t a x => split at hf; (· split at hf <;> exact c2_congr hf); (· cases hf)
  case nilCheck x => exact c1_congr hf
  case binOp op t x y u => split at hf; (· split at hf; (· exact c2_congr hf); (· cases hf)); (· cases hf)
  case unOp op t x => exact c1_congr hf
  case convert a b x =>
    unfold cConv at hf
    split at hf
    · cases hf
    · split at hf
      · exact c1_congr hf
      · exact c1_congr hf
      · split at hf
        · exact c1_congr hf
        · cases hf
      · cases hf
  case range t x => split at hf; (· exact c1_congr hf); (· cases hf)
  case next x b => split at hf; (· exact c1_congr hf); (· cases hf)
  case sliceToArrayPointer t x => split at hf; (· exact c1_congr hf); (· cases hf)
  case makeFunc f a b => simpa using func_congr hf
  case makeMap t r =>
    split at hf
    · split at hf
      · rename_i hr
        cases hf
        intro rec F F' s K h
        exact accO_congr hr (fun t e => h t (by simp [e])) _
      · cases hf
    · cases hf
  case makeSlice t l c => split at hf; (· exact c2_congr hf); (· cases hf)
  case slice t x lo hi mx => simpa using slice_congr hf
  case fieldAddr t x f => split at hf; (· split at hf; (· exact c1_congr hf); (· cases hf)); (· cases hf)
  case field t x f =>
    unfold cField at hf
    split at hf
    · split at hf; (· exact c1_congr hf); (· cases hf)
    · cases hf
  case indexAddr t x i =>
    unfold cIndexAddr at hf
    split at hf
    · split at hf; (· exact c2_congr hf); (· cases hf)
    · split at hf
      · split at hf; (· exact c2_congr hf); (· cases hf)
      · cases hf
    · cases hf
  case index t x i =>
    unfold cIndex at hf
    split at hf
    · split at hf; (· exact c2_congr hf); (· cases hf)
    · exact c2_congr hf
    · cases hf
  case lookup t x i ok =>
    unfold cLookup at hf
    split at hf
    · split at hf
      · split at hf
        · split at hf; (· exact c2_congr hf); (· cases hf)
        · cases hf
      · cases hf
    · cases hf
  case mapUpdate a m k x =>
    unfold cUpdate at hf
    split at hf
    · split at hf
      · exact c3_congr hf
      · cases hf
    · cases hf
  case extract t i => exact c1_congr hf
  case call c => exact callX_congr hf
  all_goals cases hf
end Go.Ev
/- Regions whose order is left open: the closure of a region, step by step. -/
namespace Go.Ev
variable {P : Program}

theorem edgeBinds_eq (e : Edge) : edgeBinds e.ground = Region.binds .any e := by
  obtain ⟨on, g⟩ := e
  cases g <;> rfl

/-! ### masks of operations -/
theorem bit_iff (m k : Nat) : bit m k = true ↔ InA m k := by
  show Nat.beq ((m >>> k) &&& 1) 1 = true ↔ m.testBit k = true
  rw [Nat.beq_eq, Nat.testBit]
  have : 1 &&& m >>> k = m >>> k &&& 1 := Nat.and_comm _ _
  rw [this]
  have h2 : m >>> k &&& 1 = (m >>> k) % 2 := Nat.and_one_is_mod _
  rw [h2]
  have : (m >>> k) % 2 = 0 ∨ (m >>> k) % 2 = 1 := by omega
  rcases this with h | h <;> simp [h]

theorem newM_in {a b i : Nat} (hi : New a b i) : In (newM a b) i := by
  obtain ⟨h1, h2⟩ := hi
  show (((1 <<< (b - a) - 1) <<< (a % 65536)) ||| (((1 <<< (b - a) - 1) <<< (a % 65536)) >>> 65536)).testBit (i % 65536) = true
  rw [Nat.testBit_or, Nat.testBit_shiftRight, Nat.testBit_shiftLeft, Nat.testBit_shiftLeft, Nat.one_shiftLeft, Nat.testBit_two_pow_sub_one, Nat.testBit_two_pow_sub_one]
  simp only [Bool.or_eq_true, Bool.and_eq_true, decide_eq_true_eq]
  omega
theorem made_in {a b w i : Nat} (h : In w i ∨ New a b i) : In (made a b w) i := by
  unfold made
  by_cases hab : a = b
  · subst hab
    have : Nat.beq a a = true := by simp
    rw [this]
    exact h.resolve_right New.none
  · rw [beq_false hab]
    show In (w ||| newM a b) i
    exact in_or.2 (h.imp id newM_in)

/-- what the operations ahead of n did -/
noncomputable def feet (nx rm wm : Nat → Nat) : Nat → List Foot
  | 0 => []
  | n + 1 => ⟨rm n, made (nx n) (nx (n + 1)) (wm n)⟩ :: feet nx rm wm n


theorem apartA_inv {nx rm wm : Nat → Nat} {anc r w : Nat} : ∀ n, apartA anc r w (feet nx rm wm n) n = true → ∀ j, j < n → InA anc j ∨ (∀ i, In w i → ¬ (In (rm j) i ∨ In (made (nx j) (nx (j + 1)) (wm j)) i)) ∧ (∀ i, In (made (nx j) (nx (j + 1)) (wm j)) i → ¬ In r i) := by
  intro n
  induction n with
  | zero => intro _ j hj; omega
  | succ n ih =>
    intro h j hj
    have h' : ifB (bit anc n) (apartA anc r w (feet nx rm wm n) n)
      (wh (Nat.beq (Nat.land w (Nat.lor (rm n) (made (nx n) (nx (n + 1)) (wm n)))) 0) (wh (Nat.beq (Nat.land (made (nx n) (nx (n + 1)) (wm n)) r) 0) (apartA anc r w (feet nx rm wm n) n))) = true := h
    rw [ifB_iff] at h'
    have zero : ∀ x y i : Nat, Nat.beq (Nat.land x y) 0 = true → In x i → ¬ In y i := by
      intro x y i hz hx hy
      have : x &&& y = 0 := Nat.eq_of_beq_eq_true hz
      have : (x &&& y).testBit (hs i) = true := by rw [Nat.testBit_and]; simp [show x.testBit (hs i) = true from hx, show y.testBit (hs i) = true from hy]
      simp_all
    rcases h' with ⟨h1, h2⟩ | ⟨h1, h2⟩
    · by_cases e : j = n
      · subst e; exact .inl ((bit_iff _ _).1 h1)
      · exact ih h2 j (by omega)
    · rw [wh_iff, wh_iff] at h2
      by_cases e : j = n
      · subst e
        refine .inr ⟨fun i hi hh => zero _ _ i h2.1 hi (in_or.2 hh), fun i hi hr => zero _ _ i h2.2.1 hi hr⟩
      · exact ih h2.2.2 j (by omega)

/-- the masks of those ahead -/
def AncOk (ops : Array Oper) (n : Nat) (as : List Nat) : Prop := ∀ j, j < n → ∃ m, nth as (n - 1 - j) = some m ∧ ∀ i, InA m i → Anc ops i j
theorem nth_eq {α : Type} (l : List α) (i : Nat) : nth l i = l[i]? := by
  induction l generalizing i with
  | nil => simp [nth]
  | cons x l ih =>
    cases i with
    | zero => rfl
    | succ i => exact ih i

theorem ancOf_inv {ops : Array Oper} {n : Nat} {as : List Nat} (ha : AncOk ops n as) {o : Oper} (ho : ops[n]? = some o) : ∀ es, (∀ e ∈ es, e ∈ o.after) → edgesBack n es = true → (∀ i, InA (ancOf as n es) i → Anc ops i n) ∧ (∀ e ∈ es, Region.binds .any e = true → e.on < n) := by
  intro es
  induction es with
  | nil => intro _ _; exact ⟨fun i h => by simp [ancOf, InA] at h, fun e h => by cases h⟩
  | cons e es ih =>
    intro hes hb
    have hb' : (match edgeBinds e.ground with | false => edgesBack n es | true => wh (Nat.ble (Nat.add e.on 1) n) (edgesBack n es)) = true := hb
    have hanc : ancOf as n (e :: es) = (match edgeBinds e.ground with
      | false => ancOf as n es
      | true => (match nth as (Nat.sub (Nat.sub n 1) e.on) with | some a => Nat.lor (Nat.lor (ancOf as n es) (maskA e.on)) a | none => ancOf as n es)) := rfl
    rw [hanc]
    have hbe := edgeBinds_eq e
    cases hg : edgeBinds e.ground with
    | false =>
      rw [hg] at hb' hbe
      obtain ⟨h1, h2⟩ := ih (fun e he => hes e (by simp [he])) hb'
      refine ⟨h1, fun e' he' hbd => ?_⟩
      rcases List.mem_cons.1 he' with q | q
      · subst q; rw [← hbe] at hbd; cases hbd
      · exact h2 e' q hbd
    | true =>
      rw [hg] at hb' hbe
      simp only [wh_iff] at hb'
      have hlt : e.on < n := Nat.le_of_ble_eq_true hb'.1
      obtain ⟨h1, h2⟩ := ih (fun e he => hes e (by simp [he])) hb'.2
      refine ⟨fun i hi => ?_, fun e' he' hbd => ?_⟩
      · obtain ⟨m, hm, hmi⟩ := ha e.on hlt
        have hm' : nth as (Nat.sub (Nat.sub n 1) e.on) = some m := hm
        rw [hm'] at hi
        rcases inA_or.1 hi with q | q
        · rcases inA_or.1 q with q | q
          · exact h1 i q
          · rw [inA_mask q]; exact .edge ho (hes e (by simp)) hbe.symm
        · exact .trans ho (hes e (by simp)) hbe.symm (hmi i q)
      · rcases List.mem_cons.1 he' with q | q
        · subst q; exact hlt
        · exact h2 e' q hbd

theorem apartS_inv {ops : Array Oper} {anc : Nat} {o : Oper} : ∀ n (ps : List Oper), ps.length = n → apartS ops anc o ps n = true → ∀ j, j < n → InA anc j ∨ ∃ p, ps[n - 1 - j]? = some p ∧ p.apart ops o = true := by
  intro n
  induction n with
  | zero => intro _ _ _ j hj; omega
  | succ n ih =>
    intro ps hl h j hj
    cases ps with
    | nil => simp at hl
    | cons p ps =>
      have h' : wh (ifB (bit anc n) true (p.apart ops o)) (apartS ops anc o ps n) = true := h
      rw [wh_iff, ifB_iff] at h'
      by_cases e : j = n
      · subst e
        rcases h'.1 with q | q
        · exact .inl ((bit_iff _ _).1 q.1)
        · exact .inr ⟨p, by simp, q.2⟩
      · rcases ih ps (by simpa using hl) h'.2 j (by omega) with q | ⟨p', q1, q2⟩
        · exact .inl q
        · refine .inr ⟨p', ?_, q2⟩
          rw [show n + 1 - 1 - j = (n - 1 - j) + 1 by omega]
          simpa using q1
end Go.Ev
/- One operation of a region. -/
namespace Go.Ev
variable {P : Program}

theorem does_upon {ro : Option Nat} {o : Oper} {a : Act} {Q : Exit → Act → World → Prop} {K : Value → World → Prop} {next : Act → World → Prop} (h : ∀ v w, K v w → next (a.put o.dst v) w) :
    ∀ r, DoesR P ro K r → o.uponIn (Fr ro) 0 P a next Q r
  | .ok (.value _) _, hh => h _ _ hh
  | .ok .skip _, hh => h _ _ hh
  | .ok (.enter _ _) _, hh => ⟨fun q => by simp [Fr, Fence.wide] at q, CallsIn.mono hh fun e w he => by cases e <;> first | exact h _ _ he | exact he.elim⟩
  | .ok (.round ..) _, hh => ⟨fun q => by simp [Fr, Fence.wide] at q, RoundIn.mono hh fun e w he => by cases e <;> first | exact h _ _ he | exact he.elim⟩
  | .ok (.defer _) _, hh => hh.elim
  | .ok .recover _, hh => hh.elim
  | .ok (.spawn _) _, hh => hh.elim
  | .ok (.comm ..) _, hh => hh.elim
  | .ok .numGoroutine _, hh => hh.elim
  | .ok .collect _, hh => hh.elim
  | .ok (.watch _) _, hh => hh.elim
  | .ok (.newcoro ..) _, hh => hh.elim
  | .ok (.coroswitch ..) _, hh => hh.elim
  | .ok (.sleep _) _, hh => hh.elim
  | .ok (.timer _) _, hh => hh.elim
  | .ok (.alone ..) _, hh => hh.elim
  | .ok (.callThen ..) _, hh => hh.elim
  | .ok (.row ..) _, hh => hh.elim
  | .ok (.stack ..) _, hh => hh.elim
  | .halt .., hh => hh.elim

/-- an operation that is none of those that are left out -/
def Plain (o : Oper) : Prop := (∀ c, o.op ≠ .defer c) ∧ ∀ cs b, o.op ≠ .select cs b
theorem opC_plain {E : Env} {o : Oper} {c : OpC} (h : opC E o.op = some c) : Plain o := by
  constructor
  · intro c' e; rw [e] at h; cases h
  · intro cs b e; rw [e] at h; cases h

theorem does_congr {ro : Option Nat} {o : Oper} {ρ ρ' : Operand → Value} {w : World} {K : Value → World → Prop} (hp : Plain o) (h : ∀ x ∈ o.op.operands, ρ x = ρ' x) (hd : Does P ro o ρ w K) : Does P ro o ρ' w K := by
  unfold Does at *
  rw [Oper.semAt_eq _ _ _ hp.1] at *
  rwa [← execOp_congr o hp.2 h]

theorem den_und (R : Ren) : den R und = undef := by simp [den, und, undef]

/-- the slots that are looked at, all others empty -/
noncomputable def onlyAt (l : List Nat) (F : Nat → V) : Nat → V := fun t => if t ∈ l then F t else und

theorem bound_list (l : List Nat) : ∃ M, 256 ≤ M ∧ ∀ t, t ∈ l → t < M := by
  induction l with
  | nil => exact ⟨256, Nat.le_refl _, fun _ h => by cases h⟩
  | cons x l ih =>
    obtain ⟨M, h1, h2⟩ := ih
    refine ⟨M + x + 1, by omega, fun t ht => ?_⟩
    rcases List.mem_cons.1 ht with q | q
    · omega
    · have := h2 t q; omega
theorem does_at {ro : Option Nat} {o : Oper} {F : Nat → V} {D : Nat → Prop} {R : Ren} {w : World} {K : Value → World → Prop} {a : Act} {l : List Nat} (hp : Plain o) (hl : ∀ t, .tmp t ∈ o.op.operands → t ∈ l)
    (h : OpDoes P ro o (onlyAt l F) D R w K) (ha : ∀ t, t ∈ l → t < 256 → Den D R (F t) (a.tmps.getD t undef)) (hg : Glob P D R) : Does P ro o a.eval w K := by
  classical
  obtain ⟨M, hM, hlM⟩ := bound_list l
  have := h ((Array.range M).map fun t => if t ∈ l then a.tmps.getD t undef else undef) ?_ hg
  · refine does_congr hp (fun x hx => ?_) this
    cases x with
    | tmp t =>
      have h1 := hl t hx
      have h2 := hlM t h1
      simp [evalT, Act.eval, h1, h2]
    | const v => rfl
    | global g => rfl
    | func f => rfl
  · intro t ht
    have ht' : t < M := by omega
    unfold onlyAt
    by_cases h1 : t ∈ l
    · rw [if_pos h1]
      have := ha t h1 ht
      simpa [h1, ht'] using this
    · rw [if_neg h1]
      intro R' _
      rw [den_und]
      simp [h1, ht']

theorem den_bool_only (R : Ren) (t a b c d : Nat) (l : List V) (x : Bool) (h : den R (.mk t a b c d l) = .bool x) : t = 2 ∧ x = (a == 1) := by
  have hc : t = 2 ∨ t ≠ 2 := by omega
  rcases hc with h2 | h2
  · subst h2; simp only [den] at h; exact ⟨rfl, by simpa using h.symm⟩
  · exfalso
    unfold den at h
    split at h
    · exact h2 rfl
    all_goals first | (cases h; done) | (split at h <;> cases h)

/-- the guard's word is the region's -/
theorem guard_ok {ops : Array Oper} {o : Oper} {j : Nat} {want : Bool} (hg : o.guard = some (j, want)) {d : Nat} (hd : (ops[j]?).bind (·.dst) = some d) {D : Nat → Prop} {R : Ren} {v : V} {tmps : Array Value} (h : Den D R v (tmps.getD d undef)) {k : Bool → Bool} (hk : isB (wantN want) v k = true) :
    k (Region.wanted o (yielded ops tmps)) = true := by
  obtain ⟨t, a, b, c, e, l⟩ := v
  have hk' : k (wh (Nat.beq t 2) (ifB (Nat.beq (wantN want) 1) (Nat.beq a 1) (notB (Nat.beq a 1)))) = true := hk
  have hden := h R (Agr.refl _ _)
  have key : Region.wanted o (yielded ops tmps) = wh (Nat.beq t 2) (ifB (Nat.beq (wantN want) 1) (Nat.beq a 1) (notB (Nat.beq a 1))) := by
    unfold Region.wanted yielded
    rw [hg]
    simp only [hd, Option.bind_some]
    by_cases ht : t = 2
    · subst ht
      simp only [den] at hden
      have hb : tmps[d]? = some (.bool (a == 1)) := by
        rcases Nat.lt_or_ge d tmps.size with q | q
        · simp [q] at hden ⊢; exact hden.symm
        · simp [Array.getElem?_eq_none q, undef] at hden
      rw [hb]
      have e1 : Nat.beq a 1 = (a == 1) := Bool.eq_iff_iff.2 (by simp)
      rw [e1]
      cases want <;> cases (a == 1) <;> rfl
    · rw [beq_false ht]
      have : ∀ x, tmps[d]? ≠ some (.bool x) := by
        intro x hx
        have e2 : tmps.getD d undef = .bool x := by simp [Array.getD_eq_getD_getElem?, hx]
        rw [e2] at hden
        exact ht (den_bool_only _ _ _ _ _ _ _ _ hden).1
      split
      · rename_i b hb; exact (this b hb).elim
      · rfl
  rw [key]; exact hk'
end Go.Ev
/- A region whose order is left open: its closure goes along the text; any order comes to the same. -/
namespace Go.Ev

structure SeqTo (P : Program) (ops : Array Oper) (N n : Nat) (nx : Nat → Nat) (G : Nat → Nat → HB) (Fv : Nat → Nat → V) (rm wm : Nat → Nat) (v : Nat → V) : Prop where
  le : ∀ i, i < n → nx i ≤ nx (i + 1)
  beyond : ∀ i, i ≤ n → ∀ b, nx i ≤ b → G i b = .dead
  keep : ∀ i, i < n → ∀ b, ¬ In (wm i) b → ¬ New (nx i) (nx (i + 1)) b → G (i + 1) b = G i b
  dead : ∀ i, i < n → ∀ b, b < nx i → G i b = .dead → G (i + 1) b = .dead
  step : ∀ i, i < n → StepAt P ops i (nx i) (nx (i + 1)) (rm i ||| wm i) (wm i) (G i) (G (i + 1)) (Fv i) (v i)
  slot : ∀ i, i < n → ∀ t, Fv (i + 1) t = if dstAt ops i = some t then v i else Fv i t
  small : ∀ i, i < n → ∀ t, dstAt ops i = some t → t < N
  mem : ∀ j k, j < k → k < n → ¬ Anc ops j k → ∀ b, (In (wm k) b → ¬ (In (rm j) b ∨ In (wm j) b ∨ New (nx j) (nx (j + 1)) b)) ∧ (In (wm j) b ∨ New (nx j) (nx (j + 1)) b → ¬ In (rm k) b)
  tmp : ∀ j k, j < k → k < n → ¬ Anc ops j k → ∀ t, (dstAt ops j = some t → t ∉ looksOf ops k ∧ dstAt ops k ≠ some t) ∧ (dstAt ops k = some t → t ∉ looksOf ops j)
  edges : ∀ k, k < n → ∀ o, ops[k]? = some o → ∀ e ∈ o.after, Region.binds .any e = true → e.on < k

section
variable {P : Program} {ops : Array Oper} {N n : Nat} {nx nx' : Nat → Nat} {G G' : Nat → Nat → HB} {Fv Fv' : Nat → Nat → V} {rm wm rm' wm' : Nat → Nat} {v v' : Nat → V}

theorem SeqTo.seq (h : SeqTo P ops N ops.size nx G Fv rm wm v) : Seq P ops N nx G Fv rm wm v where
  le := h.le
  beyond := h.beyond
  keep := h.keep
  dead := h.dead
  step := h.step
  slot := h.slot
  small := fun i t ht => h.small i (by
    rcases Nat.lt_or_ge i ops.size with q | q
    · exact q
    · unfold dstAt at ht; rw [Array.getElem?_eq_none q] at ht; cases ht) t ht
  mem := h.mem
  tmp := h.tmp
  edges := fun k o ho => h.edges k (by
    rcases Nat.lt_or_ge k ops.size with q | q
    · exact q
    · rw [Array.getElem?_eq_none q] at ho; cases ho) o ho

theorem SeqTo.congr (h : SeqTo P ops N n nx G Fv rm wm v) (h1 : ∀ i, i ≤ n → nx' i = nx i) (h2 : ∀ i, i ≤ n → G' i = G i) (h3 : ∀ i, i ≤ n → Fv' i = Fv i) (h4 : ∀ i, i < n → rm' i = rm i) (h5 : ∀ i, i < n → wm' i = wm i) (h6 : ∀ i, i < n → v' i = v i) :
    SeqTo P ops N n nx' G' Fv' rm' wm' v' where
  le := fun i hi => by rw [h1 i (by omega), h1 (i + 1) (by omega)]; exact h.le i hi
  beyond := fun i hi b => by rw [h1 i hi, h2 i hi]; exact h.beyond i hi b
  keep := fun i hi b => by rw [h1 i (by omega), h1 (i + 1) (by omega), h2 i (by omega), h2 (i + 1) (by omega), h5 i hi]; exact h.keep i hi b
  dead := fun i hi b => by rw [h1 i (by omega), h2 i (by omega), h2 (i + 1) (by omega)]; exact h.dead i hi b
  step := fun i hi => by rw [h1 i (by omega), h1 (i + 1) (by omega), h2 i (by omega), h2 (i + 1) (by omega), h3 i (by omega), h4 i hi, h5 i hi, h6 i hi]; exact h.step i hi
  slot := fun i hi t => by rw [h3 i (by omega), h3 (i + 1) (by omega), h6 i hi]; exact h.slot i hi t
  small := h.small
  mem := fun j k hjk hk hn b => by rw [h1 j (by omega), h1 (j + 1) (by omega), h4 j (by omega), h4 k hk, h5 j (by omega), h5 k hk]; exact h.mem j k hjk hk hn b
  tmp := h.tmp
  edges := h.edges

theorem SeqTo.ext (h : SeqTo P ops N n nx G Fv rm wm v) (a1 : nx n ≤ nx (n + 1)) (a2 : ∀ b, nx (n + 1) ≤ b → G (n + 1) b = .dead) (a3 : ∀ b, ¬ In (wm n) b → ¬ New (nx n) (nx (n + 1)) b → G (n + 1) b = G n b)
    (a4 : ∀ b, b < nx n → G n b = .dead → G (n + 1) b = .dead) (a5 : StepAt P ops n (nx n) (nx (n + 1)) (rm n ||| wm n) (wm n) (G n) (G (n + 1)) (Fv n) (v n)) (a6 : ∀ t, Fv (n + 1) t = if dstAt ops n = some t then v n else Fv n t)
    (a7 : ∀ t, dstAt ops n = some t → t < N) (a8 : ∀ j, j < n → ¬ Anc ops j n → ∀ b, (In (wm n) b → ¬ (In (rm j) b ∨ In (wm j) b ∨ New (nx j) (nx (j + 1)) b)) ∧ (In (wm j) b ∨ New (nx j) (nx (j + 1)) b → ¬ In (rm n) b))
    (a9 : ∀ j, j < n → ¬ Anc ops j n → ∀ t, (dstAt ops j = some t → t ∉ looksOf ops n ∧ dstAt ops n ≠ some t) ∧ (dstAt ops n = some t → t ∉ looksOf ops j)) (a10 : ∀ o, ops[n]? = some o → ∀ e ∈ o.after, Region.binds .any e = true → e.on < n) :
    SeqTo P ops N (n + 1) nx G Fv rm wm v := by
  have sp : ∀ {i}, i < n + 1 → i < n ∨ i = n := fun h => by omega
  constructor
  · intro i hi; rcases sp hi with q | q; (· exact h.le i q); (· subst q; exact a1)
  · intro i hi
    rcases Nat.lt_or_ge n i with q | q
    · have : i = n + 1 := by omega
      subst this; exact a2
    · exact h.beyond i q
  · intro i hi; rcases sp hi with q | q; (· exact h.keep i q); (· subst q; exact a3)
  · intro i hi; rcases sp hi with q | q; (· exact h.dead i q); (· subst q; exact a4)
  · intro i hi; rcases sp hi with q | q; (· exact h.step i q); (· subst q; exact a5)
  · intro i hi; rcases sp hi with q | q; (· exact h.slot i q); (· subst q; exact a6)
  · intro i hi; rcases sp hi with q | q; (· exact h.small i q); (· subst q; exact a7)
  · intro j k hjk hk; rcases sp hk with q | q; (· exact h.mem j k hjk q); (· subst q; exact a8 j hjk)
  · intro j k hjk hk; rcases sp hk with q | q; (· exact h.tmp j k hjk q); (· subst q; exact a9 j hjk)
  · intro i hi; rcases sp hi with q | q; (· exact h.edges i q); (· subst q; exact a10)

theorem feet_congr (h1 : ∀ i, i ≤ n → nx' i = nx i) (h4 : ∀ i, i < n → rm' i = rm i) (h5 : ∀ i, i < n → wm' i = wm i) : feet nx' rm' wm' n = feet nx rm wm n := by
  induction n with
  | zero => rfl
  | succ n ih =>
    show _ :: feet nx' rm' wm' n = _ :: feet nx rm wm n
    rw [ih (fun i hi => h1 i (by omega)) (fun i hi => h4 i (by omega)) (fun i hi => h5 i (by omega)), h1 n (by omega), h1 (n + 1) (by omega), h4 n (by omega), h5 n (by omega)]

/-- one more operation -/
theorem SeqTo.more (h : SeqTo P ops N n nx G Fv rm wm v) {x r w : Nat} {H : Nat → HB} {F : Nat → V} {u : V} (a1 : nx n ≤ x) (a2 : ∀ b, x ≤ b → H b = .dead) (a3 : ∀ b, ¬ In w b → ¬ New (nx n) x b → H b = G n b)
    (a4 : ∀ b, b < nx n → G n b = .dead → H b = .dead) (a5 : StepAt P ops n (nx n) x (r ||| w) w (G n) H (Fv n) u) (a6 : ∀ t, F t = if dstAt ops n = some t then u else Fv n t)
    (a7 : ∀ t, dstAt ops n = some t → t < N) (a8 : ∀ j, j < n → ¬ Anc ops j n → ∀ b, (In w b → ¬ (In (rm j) b ∨ In (wm j) b ∨ New (nx j) (nx (j + 1)) b)) ∧ (In (wm j) b ∨ New (nx j) (nx (j + 1)) b → ¬ In r b))
    (a9 : ∀ j, j < n → ¬ Anc ops j n → ∀ t, (dstAt ops j = some t → t ∉ looksOf ops n ∧ dstAt ops n ≠ some t) ∧ (dstAt ops n = some t → t ∉ looksOf ops j)) (a10 : ∀ o, ops[n]? = some o → ∀ e ∈ o.after, Region.binds .any e = true → e.on < n) :
    SeqTo P ops N (n + 1) (upd nx (n + 1) x) (upd G (n + 1) H) (upd Fv (n + 1) F) (upd rm n r) (upd wm n w) (upd v n u) ∧ feet (upd nx (n + 1) x) (upd rm n r) (upd wm n w) (n + 1) = ⟨r, made (nx n) x w⟩ :: feet nx rm wm n := by
  have h1 : ∀ i, i ≤ n → upd nx (n + 1) x i = nx i := fun i hi => upd_other _ _ _ _ (by omega)
  have h2 : ∀ i, i ≤ n → upd G (n + 1) H i = G i := fun i hi => upd_other _ _ _ _ (by omega)
  have h3 : ∀ i, i ≤ n → upd Fv (n + 1) F i = Fv i := fun i hi => upd_other _ _ _ _ (by omega)
  have h4 : ∀ i, i < n → upd rm n r i = rm i := fun i hi => upd_other _ _ _ _ (by omega)
  have h5 : ∀ i, i < n → upd wm n w i = wm i := fun i hi => upd_other _ _ _ _ (by omega)
  have h6 : ∀ i, i < n → upd v n u i = v i := fun i hi => upd_other _ _ _ _ (by omega)
  constructor
  · refine (h.congr h1 h2 h3 h4 h5 h6).ext ?_ ?_ ?_ ?_ ?_ ?_ a7 ?_ a9 a10
    · rw [upd_same, h1 n (by omega)]; exact a1
    · rw [upd_same, upd_same]; exact a2
    · rw [upd_same, upd_same, upd_same, h1 n (by omega), h2 n (by omega)]; exact a3
    · rw [upd_same, h1 n (by omega), h2 n (by omega)]; exact a4
    · rw [upd_same, upd_same, upd_same, upd_same, upd_same, h1 n (by omega), h2 n (by omega), h3 n (by omega)]; exact a5
    · rw [upd_same, upd_same, h3 n (by omega)]; exact a6
    · intro j hj hn
      rw [upd_same, upd_same, h1 j (by omega), h1 (j + 1) (by omega), h4 j hj, h5 j hj]
      exact a8 j hj hn
  · show (⟨upd rm n r n, made (upd nx (n + 1) x n) (upd nx (n + 1) x (n + 1)) (upd wm n w n)⟩ : Foot) :: feet _ _ _ n = _
    rw [upd_same, upd_same, upd_same, h1 n (by omega), feet_congr h1 h4 h5]
end

variable {P : Program}

theorem Post.refl {D : Nat → Prop} {R : Ren} {G : Nat → HB} {nx m : Nat} {w : World} (h : Pre P D R G nx m w) : Post P D R G G nx nx m 0 w R w := by
  refine ⟨fun _ _ => ⟨rfl, rfl, rfl⟩, ?_, ?_, ?_, fun _ _ _ => rfl, Nat.le_refl _, rfl, rfl, rfl⟩
  · rintro i (hi | hi) ha
    · have := h.rep i hi.1 hi.2 ha
      rw [Plus.none]; exact ⟨this.2.1, this.2.2⟩
    · exact (New.none hi).elim
  · rintro i j (hi | hi) (hj | hj) hai haj he
    · exact h.inj i j hi.1 hj.1 hi.2 hj.2 hai haj he
    · exact (New.none hj).elim
    · exact (New.none hi).elim
    · exact (New.none hi).elim
  · intro i hi; exact (New.none hi).elim

def putF (dst : Option Nat) (v : V) (F : Nat → V) : Nat → V := match dst with | some d => upd F d v | none => F
theorem putF_eq (dst : Option Nat) (v : V) (F : Nat → V) (t : Nat) : putF dst v F t = if dst = some t then v else F t := by
  cases dst with
  | none => simp [putF]
  | some d =>
    by_cases e : d = t
    · subst e; simp [putF, upd_same]
    · rw [if_neg (by simpa using e)]; exact upd_other _ _ _ _ (Ne.symm e)

theorem slotC_inv {N : Nat} {dst : Option Nat} {p : V → Tm → (Tm → Bool) → Bool} (hN : N ≤ 256) (h : slotC N dst = some ⟨p⟩) : (∀ d, dst = some d → d < N) ∧ ∀ v F K, p v (mk2 F) K = K (mk2 (putF dst v F)) := by
  cases dst with
  | none => cases h; exact ⟨by simp, fun _ _ _ => rfl⟩
  | some d =>
    unfold slotC at h
    simp only at h
    split at h
    · rename_i hd
      have hd' : d < N := Nat.le_of_ble_eq_true hd
      have e : p = (slot d : Slot V).p := by
        revert h
        generalize (slot d : Slot V) = q
        obtain ⟨g, p'⟩ := q
        intro h; cases h; rfl
      refine ⟨fun d' e' => by cases e'; exact hd', fun v F K => ?_⟩
      rw [e, slot_p F v K d (by omega)]; rfl
    · cases h

theorem dstOf_eq (ops : Array Oper) (j : Nat) : dstOf ops.toList j = (ops[j]?).bind (·.dst) := by
  unfold dstOf
  rw [nth_eq, Array.getElem?_toList]
  cases ops[j]? <;> rfl

/-- what the guard comes to -/
def Wants (ops : Array Oper) (o : Oper) (F : Nat → V) (b : Bool) : Prop :=
  ∀ D R (a : Act), (∀ t, t ∈ o.looksAt ops → t < 256 → Den D R (F t) (a.tmps.getD t undef)) → Region.wanted o (yielded ops a.tmps) = b

theorem guard_inv {ops : Array Oper} {o : Oper} {g : Option Guard} (h : guardC ops.toList o.guard = some g) {F : Nat → V} :
    (g = none ∧ Wants ops o F true) ∨ ∃ f, g = some ⟨f⟩ ∧ ∀ k, f (mk2 F) k = true → ∃ b, k b = true ∧ Wants ops o F b := by
  cases hg : o.guard with
  | none => rw [hg] at h; cases h; exact .inl ⟨rfl, fun D R a _ => by simp [Region.wanted, hg]⟩
  | some p =>
    obtain ⟨j, want⟩ := p
    rw [hg] at h
    unfold guardC at h
    simp only [dstOf_eq] at h
    split at h
    · rename_i d hd
      split at h
      · rename_i f hf
        cases h
        refine .inr ⟨_, rfl, fun k hk => ?_⟩
        have hd256 : d < 256 := by
          unfold acc at hf
          simp only at hf
          split at hf
          · rename_i q; exact Nat.lt_succ_of_le (Nat.le_of_ble_eq_true q)
          · cases hf
        have e : f = (slot d : Slot V).g := by
          unfold acc at hf
          simp only at hf
          split at hf
          · revert hf
            generalize (slot d : Slot V) = q
            obtain ⟨g, p⟩ := q
            intro hf; cases hf; rfl
          · cases hf
        rw [e, slot_g F _ d hd256] at hk
        cases hv : F d with
        | mk t a b c e' l =>
          rw [hv] at hk
          have hk' : k (wh (Nat.beq t 2) (ifB (Nat.beq (wantN want) 1) (Nat.beq a 1) (notB (Nat.beq a 1)))) = true := hk
          refine ⟨_, hk', fun D R act ha => ?_⟩
          have hmem : d ∈ o.looksAt ops := by
            refine List.mem_append_right _ ?_
            simp [hg, hd]
          have h1 := ha d hmem hd256
          have := guard_ok (k := fun x => x == wh (Nat.beq t 2) (ifB (Nat.beq (wantN want) 1) (Nat.beq a 1) (notB (Nat.beq a 1)))) hg hd h1 (by rw [hv]; show (_ == _) = true; simp)
          exact eq_of_beq this
      · cases h
    · rename_i hd
      cases h
      refine .inr ⟨_, rfl, fun k hk => ⟨false, hk, fun D R a _ => ?_⟩⟩
      unfold Region.wanted yielded
      rw [hg]
      simp only [hd]
      rfl

theorem opX_inv {E : Env} {op : Op} {c : OpC} (h : opX E op = some c) : opC E op = some c := by
  unfold opX at h
  split at h
  · exact h
  · cases h
theorem okL_inv {P : Program} {ng : Nat} (hng : ng ≤ P.globals.size) : ∀ (l : List Operand), okL ng l = true → ∀ x ∈ l, OpOk P x := by
  intro l
  induction l with
  | nil => intro _ x hx; cases hx
  | cons y l ih =>
    intro h x hx
    cases y with
    | global g =>
      have h' : wh (Nat.ble (Nat.add g 1) ng) (okL ng l) = true := h
      rw [wh_iff] at h'
      rcases List.mem_cons.1 hx with q | q
      · subst q; exact Nat.lt_of_lt_of_le (Nat.le_of_ble_eq_true h'.1) hng
      · exact ih h'.2 x q
    | tmp t =>
      rcases List.mem_cons.1 hx with q | q
      · subst q; trivial
      · exact ih h x q
    | const v =>
      rcases List.mem_cons.1 hx with q | q
      · subst q; trivial
      · exact ih h x q
    | func f =>
      rcases List.mem_cons.1 hx with q | q
      · subst q; trivial
      · exact ih h x q
theorem opX_ok {P : Program} {E : Env} (hE : EnvOk P E) {op : Op} {c : OpC} (h : opX E op = some c) : ∀ x ∈ op.operands, OpOk P x := by
  unfold opX at h
  split at h
  · rename_i hk; exact fun x hx => okL_inv hE.ng _ hk x (by simpa using hx)
  · cases h

theorem doesR_any {ro : Option Nat} {K : Value → World → Prop} : ∀ r, DoesR P none K r → DoesR P ro K r
  | .ok (.value _) _, hh => hh
  | .ok .skip _, hh => hh
  | .ok (.enter _ _) _, hh => hh
  | .ok (.round ..) _, hh => hh
  | .ok (.defer _) _, hh => hh.elim
  | .ok .recover _, hh => hh.elim
  | .ok (.spawn _) _, hh => hh.elim
  | .ok (.comm ..) _, hh => hh.elim
  | .ok .numGoroutine _, hh => hh.elim
  | .ok .collect _, hh => hh.elim
  | .ok (.watch _) _, hh => hh.elim
  | .ok (.newcoro ..) _, hh => hh.elim
  | .ok (.coroswitch ..) _, hh => hh.elim
  | .ok (.sleep _) _, hh => hh.elim
  | .ok (.timer _) _, hh => hh.elim
  | .ok (.alone ..) _, hh => hh.elim
  | .ok (.callThen ..) _, hh => hh.elim
  | .ok (.row ..) _, hh => hh.elim
  | .ok (.stack ..) _, hh => hh.elim
  | .halt .., hh => hh.elim
theorem does_any {ro : Option Nat} {o : Oper} {ρ : Operand → Value} {w : World} {K : Value → World → Prop} (hp : Plain o) (h : Does P none o ρ w K) : Does P ro o ρ w K := by
  unfold Does at *
  rw [Oper.semAt_eq _ _ _ hp.1] at *
  exact doesR_any _ h

theorem made_self (a w : Nat) : made a a w = w := by
  unfold made
  have : Nat.beq a a = true := by simp
  rw [this]; rfl

section
variable {E : Env} {ops : Array Oper} {N : Nat}
theorem opsD_cons {o : Oper} {l : List Oper} {n : Nat} {as : List Nat} {ps : List Oper} {c : OpsD} (h : opsD E N ops (o :: l) n as ps = some c) :
    edgesBack n o.after.toList = true ∧ apartS ops (ancOf as n o.after.toList) o ps n = true ∧ ∃ oc p g k, opX E o.op = some oc ∧ slotC N o.dst = some p ∧ guardC ops.toList o.guard = some g ∧
      opsD E N ops l (n + 1) (ancOf as n o.after.toList :: as) (o :: ps) = some k ∧ c = opsD1 (ancOf as n o.after.toList) n oc p g k := by
  have h' : (match wh (edgesBack n o.after.toList) (apartS ops (ancOf as n o.after.toList) o ps n) with
      | true => (match opX E o.op with
        | some oc => (match slotC N o.dst with
          | some p => (match guardC ops.toList o.guard with
            | some g => (match opsD E N ops l (Nat.add n 1) (ancOf as n o.after.toList :: as) (o :: ps) with
              | some k => some (opsD1 (ancOf as n o.after.toList) n oc p g k)
              | none => none)
            | none => none)
          | none => none)
        | none => none)
      | false => none) = some c := h
  split at h'
  · rename_i hw
    rw [wh_iff] at hw
    split at h'
    · rename_i oc hoc
      split at h'
      · rename_i p hp
        split at h'
        · rename_i g hg
          split at h'
          · rename_i k hk
            cases h'
            exact ⟨hw.1, hw.2, oc, p, g, k, hoc, hp, hg, hk, rfl⟩
          · cases h'
        · cases h'
      · cases h'
    · cases h'
  · cases h'

theorem cleanK_eq (s : St) (k : St → Bool) : cleanK s k = k ⟨s.h, s.nx, 0, 0⟩ := by cases s; rfl
theorem Wf.clean {s : St} {G : Nat → HB} (h : Wf s G) (r w : Nat) : Wf ⟨s.h, s.nx, r, w⟩ G := ⟨h.h, h.nx, h.beyond, h.ok⟩

theorem thenD_eq (anc n : Nat) (fs : List Foot) (p : V → Tm → (Tm → Bool) → Bool) (T : Tm) (s0 : St) (k : List Foot → Tm → St → Bool) (v : V) (s : St) :
    thenD anc n fs p T s0 k v s = wh (apartA anc s.r (made s0.nx s.nx s.w) fs n) (p v T (fun T => k (⟨s.r, made s0.nx s.nx s.w⟩ :: fs) T ⟨s.h, s.nx, s0.r, s0.w⟩)) := by cases s; cases s0; rfl

theorem trace (hN : N ≤ 256) {rec : Rec} (hall : ∀ o ∈ ops.toList, ∀ c, opX E o.op = some c → OpSnd P none o (c.f rec)) :
    ∀ (l : List Oper) (n : Nat) (as : List Nat) (ps : List Oper) (c : OpsD), opsD E N ops l n as ps = some c → ops.toList = ps.reverse ++ l → ps.length = n → AncOk ops n as →
    ∀ nx G Fv rm wm v, SeqTo P ops N n nx G Fv rm wm v → ∀ s K, c.f rec (feet nx rm wm n) (mk2 (Fv n)) s K = true → Wf s (G n) → s.nx = nx n →
    ∃ nx' G' Fv' rm' wm' v', SeqTo P ops N ops.size nx' G' Fv' rm' wm' v' ∧ nx' 0 = nx 0 ∧ G' 0 = G 0 ∧ Fv' 0 = Fv 0 ∧ ∃ s', K (mk2 (Fv' ops.size)) s' = true ∧ Wf s' (G' ops.size) ∧ s'.nx = nx' ops.size ∧
      s'.r = footR (feet nx' rm' wm' ops.size) s.r ∧ s'.w = footW (feet nx' rm' wm' ops.size) s.w := by
  intro l
  induction l with
  | nil =>
    intro n as ps c hc hl hn _ nx G Fv rm wm v hq s K h hw hnx
    have hn' : n = ops.size := by
      have := congrArg List.length hl
      simp at this; omega
    subst hn'
    have hc' : some (⟨fun _ fs T s K => St.rec (motive := fun _ => Bool) (fun h nx r w => K T ⟨h, nx, footR fs r, footW fs w⟩) s⟩ : OpsD) = some c := hc
    cases hc'
    refine ⟨nx, G, Fv, rm, wm, v, hq, rfl, rfl, rfl, ⟨s.h, s.nx, footR (feet nx rm wm ops.size) s.r, footW (feet nx rm wm ops.size) s.w⟩, ?_, hw.clean _ _, hnx, rfl, rfl⟩
    obtain ⟨h0, nx0, r0, w0⟩ := s
    exact h
  | cons o l ih =>
    intro n as ps c hc hl hn has nx G Fv rm wm v hq s K h hw hnx
    obtain ⟨hback, hap, oc, p, g, k, hoc, hp, hg, hk, rfl⟩ := opsD_cons hc
    obtain ⟨fo⟩ := oc
    obtain ⟨p⟩ := p
    obtain ⟨k⟩ := k
    have ho : ops[n]? = some o := by
      rw [← Array.getElem?_toList, hl, List.getElem?_append_right (by simp [hn])]
      simp [hn]
    have hmem : o ∈ ops.toList := by rw [hl]; simp
    have hdst : dstAt ops n = o.dst := by unfold dstAt; rw [ho]; rfl
    have hlk : looksOf ops n = o.looksAt ops := by unfold looksOf; rw [ho]
    have hplain := opC_plain (opX_inv hoc)
    obtain ⟨hanc, hedge⟩ := ancOf_inv has ho o.after.toList (fun e he => by simpa using he) hback
    obtain ⟨hsm, hput⟩ := slotC_inv hN hp
    have hl' : ops.toList = (o :: ps).reverse ++ l := by rw [hl]; simp
    have hn' : (o :: ps).length = n + 1 := by simp [hn]
    have has' : AncOk ops (n + 1) (ancOf as n o.after.toList :: as) := by
      intro j hj
      by_cases e : j = n
      · subst e
        exact ⟨ancOf as j o.after.toList, by rw [show j + 1 - 1 - j = 0 by omega]; rfl, hanc⟩
      · obtain ⟨m, h1, h2⟩ := has j (by omega)
        refine ⟨m, ?_, h2⟩
        rw [show n + 1 - 1 - j = (n - 1 - j) + 1 by omega]
        exact h1
    have a7 : ∀ t, dstAt ops n = some t → t < N := fun t ht => hsm t (hdst ▸ ht)
    have a9 : ∀ j, j < n → ¬ Anc ops j n → ∀ t, (dstAt ops j = some t → t ∉ looksOf ops n ∧ dstAt ops n ≠ some t) ∧ (dstAt ops n = some t → t ∉ looksOf ops j) := by
      intro j hj hna t
      rcases apartS_inv n ps hn hap j hj with q | ⟨p', q1, q2⟩
      · exact (hna (hanc j q)).elim
      · have hpj : ops[j]? = some p' := by
          rw [← Array.getElem?_toList, hl, List.getElem?_append_left (by simp; omega), List.getElem?_reverse (by omega)]
          rw [hn]; exact q1
        obtain ⟨b1, b2, b3⟩ := Oper.apart_spec q2
        have e1 : dstAt ops j = p'.dst := by unfold dstAt; rw [hpj]; rfl
        have e2 : looksOf ops j = p'.looksAt ops := by unfold looksOf; rw [hpj]
        rw [e1, e2, hdst, hlk]
        exact ⟨fun q => ⟨b1 t q, b2 t q⟩, fun q => b3 t q⟩
    have a10 : ∀ o', ops[n]? = some o' → ∀ e ∈ o'.after, Region.binds .any e = true → e.on < n := by
      intro o' ho' e he hb
      rw [ho] at ho'; cases ho'
      exact hedge e (by simpa using he) hb
    -- it is done
    have doit : Wants ops o (Fv n) true → fo rec (mk2 (Fv n)) ⟨s.h, s.nx, 0, 0⟩ (thenD (ancOf as n o.after.toList) n (feet nx rm wm n) p (mk2 (Fv n)) s (fun fs T s => k rec fs T s K)) = true →
        ∃ nx' G' Fv' rm' wm' v', SeqTo P ops N ops.size nx' G' Fv' rm' wm' v' ∧ nx' 0 = nx 0 ∧ G' 0 = G 0 ∧ Fv' 0 = Fv 0 ∧ ∃ s', K (mk2 (Fv' ops.size)) s' = true ∧ Wf s' (G' ops.size) ∧ s'.nx = nx' ops.size ∧
          s'.r = footR (feet nx' rm' wm' ops.size) s.r ∧ s'.w = footW (feet nx' rm' wm' ops.size) s.w := by
      intro hwants hrun
      classical
      have hin : ∀ t, Operand.tmp t ∈ o.op.operands → t ∈ o.looksAt ops := fun t ht => List.mem_append_left _ (List.mem_filterMap.2 ⟨.tmp t, by simpa using ht, rfl⟩)
      have hlook := opC_congr (opX_inv hoc) rec (Fv n) (onlyAt (o.looksAt ops) (Fv n)) ⟨s.h, s.nx, 0, 0⟩ (thenD (ancOf as n o.after.toList) n (feet nx rm wm n) p (mk2 (Fv n)) s (fun fs T s => k rec fs T s K)) (fun t ht => by
        unfold onlyAt; rw [if_pos (hin t (by simpa using ht))])
      have hrun' : fo rec (mk2 (onlyAt (o.looksAt ops) (Fv n))) ⟨s.h, s.nx, 0, 0⟩ (thenD (ancOf as n o.after.toList) n (feet nx rm wm n) p (mk2 (Fv n)) s (fun fs T s => k rec fs T s K)) = true := hlook.symm.trans hrun
      obtain ⟨u, s1, hthen, hsnd⟩ := hall o hmem _ hoc _ _ _ hrun' ⟨G n, hw.clean 0 0⟩
      rw [thenD_eq, wh_iff] at hthen
      obtain ⟨hapart, hgo⟩ := hthen
      rw [hput] at hgo
      obtain ⟨G1, r1, w1, mv, run⟩ := hsnd (G n) (hw.clean 0 0)
      have er : s1.r = r1 := by have := mv.r; simpa using this
      have ew : s1.w = w1 := by have := mv.w; simpa using this
      have hle : nx n ≤ s1.nx := hnx ▸ mv.le
      have hstep : StepAt P ops n (nx n) s1.nx (r1 ||| w1) w1 (G n) G1 (Fv n) u := by
        intro ro D R w a Q hD hpre hsl hg' K' hK'
        unfold wpOpIn
        rw [ho]
        simp only
        rw [hlk] at hsl
        rw [hwants D R a hsl, if_pos rfl]
        refine ⟨fun _ _ => trivial, ?_⟩
        have hd := run D R w (fun i hi => by show ¬ New s.nx s1.nx i; rw [hnx]; exact hD i hi) (by show Pre P D R (G n) s.nx _ w; rw [hnx]; exact hpre)
        refine does_upon (K := fun x w' => ∃ R', Post P D R (G n) G1 (nx n) s1.nx (r1 ||| w1) w1 w R' w' ∧ Den (Plus D (nx n) s1.nx) R' u x) (fun x w' hx => ?_) _ (does_any hplain (does_at hplain hin (by rw [← hnx]; exact hd) hsl hg'))
        obtain ⟨R', p1, p2⟩ := hx
        have := hK' x w' R' p1 p2
        rwa [hdst] at this
      obtain ⟨q1, q2⟩ := hq.more (x := s1.nx) (r := r1) (w := w1) (H := G1) (F := putF o.dst u (Fv n)) (u := u) hle (fun b hb => mv.wf.beyond b hb) (fun b h1 h2 => mv.keep b h1 (by show ¬ New s.nx s1.nx b; rw [hnx]; exact h2))
        (fun b hb => mv.dead b (by show b < s.nx; rw [hnx]; exact hb)) hstep (fun t => by rw [hdst]; exact putF_eq _ _ _ _) a7 (fun j hj hna b => by
          rw [hnx, er, ew] at hapart
          have hlej := hq.le j hj
          rcases apartA_inv n hapart j hj with q | ⟨b1, b2⟩
          · exact (hna (hanc j q)).elim
          · refine ⟨fun hb hh => b1 b (made_in (.inl hb)) ?_, fun hb => b2 b (made_in hb)⟩
            rcases hh with q | q
            · exact .inl q
            · exact .inr (made_in q)) a9 a10
      have hgo' : k rec (feet (upd nx (n + 1) s1.nx) (upd rm n r1) (upd wm n w1) (n + 1)) (mk2 (upd Fv (n + 1) (putF o.dst u (Fv n)) (n + 1))) ⟨s1.h, s1.nx, s.r, s.w⟩ K = true := by
        rw [q2, upd_same, ← er, ← ew, ← hnx]; exact hgo
      obtain ⟨nx', G', Fv', rm', wm', v', c1, c2, c3, c4, s', c5⟩ := ih (n + 1) _ _ _ hk hl' hn' has' _ _ _ _ _ _ q1 ⟨s1.h, s1.nx, s.r, s.w⟩ K hgo' (by rw [upd_same]; exact mv.wf.clean _ _) (by rw [upd_same])
      exact ⟨nx', G', Fv', rm', wm', v', c1, c2.trans (upd_other _ _ _ _ (by omega)), c3.trans (upd_other _ _ _ _ (by omega)), c4.trans (upd_other _ _ _ _ (by omega)), s', c5⟩
    -- it is not wanted
    have skip : Wants ops o (Fv n) false → p und (mk2 (Fv n)) (fun T => k rec (⟨0, 0⟩ :: feet nx rm wm n) T s K) = true →
        ∃ nx' G' Fv' rm' wm' v', SeqTo P ops N ops.size nx' G' Fv' rm' wm' v' ∧ nx' 0 = nx 0 ∧ G' 0 = G 0 ∧ Fv' 0 = Fv 0 ∧ ∃ s', K (mk2 (Fv' ops.size)) s' = true ∧ Wf s' (G' ops.size) ∧ s'.nx = nx' ops.size ∧
          s'.r = footR (feet nx' rm' wm' ops.size) s.r ∧ s'.w = footW (feet nx' rm' wm' ops.size) s.w := by
      intro hwants hgo
      rw [hput] at hgo
      have hstep : StepAt P ops n (nx n) (nx n) (0 ||| 0) 0 (G n) (G n) (Fv n) und := by
        intro ro D R w a Q hD hpre hsl hg' K' hK'
        unfold wpOpIn
        rw [ho]
        simp only
        rw [hlk] at hsl
        rw [hwants D R a hsl, if_neg (by simp)]
        refine ⟨fun _ _ => trivial, ?_⟩
        have := hK' undef w R (Post.refl hpre) (fun R' _ => den_und R')
        rwa [hdst] at this
      obtain ⟨q1, q2⟩ := hq.more (x := nx n) (r := 0) (w := 0) (H := G n) (F := putF o.dst und (Fv n)) (u := und) (Nat.le_refl _) (hq.beyond n (Nat.le_refl _)) (fun b _ _ => rfl) (fun b _ h => h) hstep
        (fun t => by rw [hdst]; exact putF_eq _ _ _ _) a7 (fun j hj hna b => ⟨fun h => by simp [In] at h, fun _ h => by simp [In] at h⟩) a9 a10
      have hgo' : k rec (feet (upd nx (n + 1) (nx n)) (upd rm n 0) (upd wm n 0) (n + 1)) (mk2 (upd Fv (n + 1) (putF o.dst und (Fv n)) (n + 1))) s K = true := by
        rw [q2, upd_same, made_self]; exact hgo
      obtain ⟨nx', G', Fv', rm', wm', v', c1, c2, c3, c4, s', c5⟩ := ih (n + 1) _ _ _ hk hl' hn' has' _ _ _ _ _ _ q1 s K hgo' (by rw [upd_same]; exact hw) (by rw [upd_same]; exact hnx)
      exact ⟨nx', G', Fv', rm', wm', v', c1, c2.trans (upd_other _ _ _ _ (by omega)), c3.trans (upd_other _ _ _ _ (by omega)), c4.trans (upd_other _ _ _ _ (by omega)), s', c5⟩
    rcases guard_inv hg (F := Fv n) with ⟨rfl, hwants⟩ | ⟨gf, rfl, hgf⟩
    · refine doit hwants ?_
      have h' : cleanK s (fun c => fo rec (mk2 (Fv n)) c (thenD (ancOf as n o.after.toList) n (feet nx rm wm n) p (mk2 (Fv n)) s (fun fs T s => k rec fs T s K))) = true := h
      rwa [cleanK_eq] at h'
    · have h' : gf (mk2 (Fv n)) (fun b => ifB b
          (cleanK s (fun c => fo rec (mk2 (Fv n)) c (thenD (ancOf as n o.after.toList) n (feet nx rm wm n) p (mk2 (Fv n)) s (fun fs T s => k rec fs T s K))))
          (p und (mk2 (Fv n)) (fun T => k rec (⟨0, 0⟩ :: feet nx rm wm n) T s K))) = true := h
      obtain ⟨b, hb, hwants⟩ := hgf _ h'
      rw [ifB_iff] at hb
      rcases hb with ⟨rfl, hb⟩ | ⟨rfl, hb⟩
      · rw [cleanK_eq] at hb
        exact doit hwants hb
      · exact skip hwants hb
end
end Go.Ev
/- Code: what a piece of it does, and what its closure says. -/
namespace Go.Ev
variable {P : Program}

def markD (R : Ren) (m : Nat) : Deferred := { target := .collected (R.at_ m), args := #[] }
/-- an activation: its slots, the marks of its loops, the loop whose round it is -/
structure ARep (ro : Option Nat) (N : Nat) (D : Nat → Prop) (R : Ren) (F : Nat → V) (mk : List Nat) (a : Act) : Prop where
  size : a.tmps.size = N
  slots : Slots D R F a.tmps
  defers : a.defers = mk.map (markD R)
  marks : ∀ m ∈ mk, D m
  ro : ∀ l, ro = some l → D l

theorem ARep.more {ro : Option Nat} {N : Nat} {D D' : Nat → Prop} {R R' : Ren} {F : Nat → V} {mk : List Nat} {a : Act} (h : ARep ro N D R F mk a) (hs : ∀ i, D i → D' i) (ha : Agr D R R') : ARep ro N D' R' F mk a := by
  refine ⟨h.size, fun t ht => (h.slots t ht).more hs ha, ?_, fun m hm => hs m (h.marks m hm), fun l hl => hs l (h.ro l hl)⟩
  rw [h.defers]
  refine List.map_congr_left fun m hm => ?_
  unfold markD
  rw [(ha m (h.marks m hm)).1]

def CodeDoes (P : Program) (ro : Option Nat) (N : Nat) (c : Code) (F : Nat → V) (mk : List Nat) : Comp (Exit × Act) := fun D R w K =>
  ∀ a, ARep ro N D R F mk a → Glob P D R → c.wpIn (Fr (ro.map R.at_)) 0 P (fun e a w => K (e, a) w) a w
theorem CodeDoes.mono {ro : Option Nat} {N : Nat} {c : Code} {F : Nat → V} {mk : List Nat} : Mono (CodeDoes P ro N c F mk) := fun _ _ _ _ _ h hh a ha hg => wpIn_mono (hh a ha hg) fun _e _a _w q => h _ _ q

abbrev CodeQ (ro : Option Nat) (N : Nat) (e : Exit) (F : Nat → V) (mk : List Nat) : (Nat → Prop) → Ren → Exit × Act → Prop := fun D R x => x.1 = e ∧ ARep ro N D R F mk x.2

/-- where a piece of code goes on -/
def goes (kn : KN) (kx : KX) (T : Tm) (mk : List Nat) (s : St) : Exit → Bool
  | .normal => kn T mk s
  | .exit id => kx (.exit id) T mk s
  | .ret => kx .ret T mk s
  | _ => false

/-- what the closure of a piece of code says -/
def CodeSnd (P : Program) (ro : Option Nat) (N : Nat) (c : Code) (f : Tm → List Nat → St → KN → KX → Bool) : Prop :=
  ∀ F mk s kn kx, f (mk2 F) mk s kn kx = true → (∃ G, Wf s G) → ∃ e F' mk' s', goes kn kx (mk2 F') mk' s' e = true ∧ Snd P (CodeDoes P ro N c F mk) (CodeQ ro N e F' mk') s s'

theorem Snd.wf {β : Type} {c : Comp β} {Q : (Nat → Prop) → Ren → β → Prop} {s s' : St} (h : Snd P c Q s s') (hw : ∃ G, Wf s G) : ∃ G, Wf s' G := by
  obtain ⟨G, hG⟩ := hw
  obtain ⟨G', _, _, m, _⟩ := h G hG
  exact ⟨G', m.wf⟩

/-- a piece that is told of otherwise -/
theorem Snd.weakM {β γ : Type} {c : Comp β} {c' : Comp γ} {Q : (Nat → Prop) → Ren → β → Prop} {Q' : (Nat → Prop) → Ren → γ → Prop} {s s' : St} (h : Snd P c Q s s') (hm : Mono c) (g : β → γ)
    (hc : ∀ D R w K, c D R w (fun x w' => (∃ D' R', Q D' R' x) ∧ K (g x) w') → c' D R w K) (hq : ∀ D R x, Q D R x → Q' D R (g x)) : Snd P c' Q' s s' := by
  intro G hG
  obtain ⟨G', rm, wm, m, run⟩ := h G hG
  refine ⟨G', rm, wm, m, fun D R w hD hpre => hc _ _ _ _ (hm _ _ _ _ _ ?_ (run D R w hD hpre))⟩
  rintro x w' ⟨R', hp, hx⟩
  exact ⟨⟨_, _, hx⟩, R', hp, hq _ _ _ hx⟩

section
variable {F : Fence} {n : Nat} {Q : Exit → Act → World → Prop} {a : Act} {w : World}
/-- a loop from within -/
def LoopGo (F : Fence) (n : Nat) (P : Program) (c : Code) (Q : Exit → Act → World → Prop) (a : Act) (w : World) : Prop :=
  ∀ (b : Frame) (k : List Item) (cs : List Frame), b.roundOf = F.round → F.fn b.fn → F.room (cs.length + 1 + n) →
    ∃ e a' w', Q e a' w' ∧ ArrivesIn (Machine.fenced P F) P (lone (b.atR a (.code c :: .inLoop c :: k)) cs w) b k cs e a' w'
theorem wpIn_loopGo {c : Code} (h : LoopGo F n P c Q a w) : (Code.loop c).wpIn F n P Q a w := by
  intro b k cs hro hb hr
  obtain ⟨e, a', w', hq, harr⟩ := h b k cs hro hb hr
  exact ⟨e, a', w', hq, .of_steps (.one (fenced_calm hb hr rfl) stepR_loop) harr⟩
theorem loopGo_step {c : Code} (h : c.wpIn F n P (Exit.then (LoopGo F n P c Q) Q) a w) : LoopGo F n P c Q a w := by
  intro b k cs hro hb hr
  obtain ⟨e, a₁, w₁, hq, harr⟩ := h b (.inLoop c :: k) cs hro hb hr
  cases e with
  | normal =>
    obtain ⟨e₂, a₂, w₂, hq₂, harr₂⟩ := hq b k cs hro hb hr
    exact ⟨e₂, a₂, w₂, hq₂, .of_steps (StepsIn.trans harr (.one (fenced_calm hb hr rfl) stepR_inLoop)) harr₂⟩
  | exit id => exact ⟨_, a₁, w₁, hq, .pass (x := .inLoop c) rfl (fun _ _ => .inl (by simp)) harr⟩
  | goto l => exact ⟨_, a₁, w₁, hq, .pass (x := .inLoop c) rfl (fun _ _ => .inl (by simp)) harr⟩
  | ret => exact ⟨_, a₁, w₁, hq, .pass (x := .inLoop c) rfl (fun _ _ => .inl (by simp)) harr⟩
  | panic ch => exact ⟨_, a₁, w₁, hq, .pass (x := .inLoop c) rfl (fun _ _ => .inl (by simp)) harr⟩
  | outgrown => exact ⟨_, a₁, w₁, hq, .pass (x := .inLoop c) rfl (fun _ _ => .inl (by simp)) harr⟩
theorem LoopGo.mono {c : Code} {Q' : Exit → Act → World → Prop} (h : LoopGo F n P c Q a w) (hq : ∀ e a w, Q e a w → Q' e a w) : LoopGo F n P c Q' a w :=
  fun b k cs hro hb hr => let ⟨e, a', w', q, r⟩ := h b k cs hro hb hr; ⟨e, a', w', hq _ _ _ q, r⟩

theorem stepR_scope {b : Frame} {k : List Item} {cs : List Frame} {c : Code} : step P (lone (b.atR a (.code (.scope c) :: k)) cs w) = .next (lone (b.atR a (.code c :: .inScope c :: k)) cs w) :=
  step_lone_go (by simp [stepG, stepG.exec, Frame.atR])
theorem stepR_inScope {b : Frame} {k : List Item} {cs : List Frame} {c : Code} : step P (lone (b.atR a (.inScope c :: k)) cs w) = .next (lone (b.atR a k) cs w) :=
  step_lone_go (by simp [stepG, stepG.exec, Frame.atR])
def noGoto (Q : Exit → Act → World → Prop) : Exit → Act → World → Prop
  | .goto _, _, _ => False
  | e, a, w => Q e a w
theorem wpIn_scope {c : Code} (h : c.wpIn F n P (noGoto Q) a w) : (Code.scope c).wpIn F n P Q a w := by
  intro b k cs hro hb hr
  have h0 : (lone (b.atR a (.code (.scope c) :: k)) cs w).fenced P F := fenced_calm hb hr rfl
  obtain ⟨e, a₁, w₁, hq, harr⟩ := h b (.inScope c :: k) cs hro hb hr
  cases e with
  | normal => exact ⟨.normal, a₁, w₁, hq, .head h0 stepR_scope (StepsIn.trans harr (.one (fenced_calm hb hr rfl) stepR_inScope))⟩
  | exit id =>
    have hx : exitTo id (.inScope c :: k) = exitTo id k := by simp [exitTo]
    exact ⟨.exit id, a₁, w₁, hq, fun k' hk => .head h0 stepR_scope (harr.1 k' (by rw [hx]; exact hk)),
        fun hr' hk => let ⟨k₁, h1, h2⟩ := harr.2 hr' (by rw [hx]; exact hk); ⟨k₁, h1, .head h0 stepR_scope h2⟩⟩
  | goto l => exact hq.elim
  | ret => exact ⟨.ret, a₁, w₁, hq, .of_steps (.one h0 stepR_scope) (show ArrivesIn _ _ _ b k cs .ret a₁ w₁ from harr)⟩
  | panic ch => exact ⟨.panic ch, a₁, w₁, hq, .of_steps (.one h0 stepR_scope) (show ArrivesIn _ _ _ b k cs (.panic ch) a₁ w₁ from harr)⟩
  | outgrown => exact ⟨.outgrown, a₁, w₁, hq, .of_steps (.one h0 stepR_scope) (show ArrivesIn _ _ _ b k cs .outgrown a₁ w₁ from harr)⟩
end

variable {ro : Option Nat} {N : Nat}

/-! ### the plain ones -/
theorem Snd.same {F : Nat → V} {mk : List Nat} {s : St} {c : Code} {e : Exit} (h : ∀ (F' : Fence) n (Q : Exit → Act → World → Prop) a w, Q e a w → c.wpIn F' n P Q a w) : Snd P (CodeDoes P ro N c F mk) (CodeQ ro N e F mk) s s :=
  Snd.weakM (c := fun D R w K => ∀ a, ARep ro N D R F mk a → K a w) (Q := fun D R a => ARep ro N D R F mk a) (by
    intro G hG
    refine ⟨G, 0, 0, ⟨hG, Nat.le_refl _, by simp, by simp, fun _ _ _ => rfl, fun _ _ h => h⟩, fun D R w hD hpre a ha => ⟨R, Post.refl hpre, by rw [Plus.none]; exact ha⟩⟩)
    (fun D R w K K' h hh a ha => h _ _ (hh a ha)) (fun a => (e, a)) (fun D R w K hh a ha hg => h _ _ _ _ _ (hh a ha).2) (fun D R a ha => ⟨rfl, ha⟩)

theorem skip_snd : CodeSnd P ro N .skip (fun T mk s kn _ => kn T mk s) := fun F mk s _kn _kx h _ => ⟨.normal, F, mk, s, h, Snd.same fun _ _ _ _ _ => wpIn_skip⟩
theorem label_snd {l : Nat} : CodeSnd P ro N (.label l) (fun T mk s kn _ => kn T mk s) := fun F mk s _kn _kx h _ => ⟨.normal, F, mk, s, h, Snd.same fun _ _ _ _ _ => wpIn_label⟩
theorem exit_snd {id : Nat} : CodeSnd P ro N (.exit id) (fun T mk s _ kx => kx (.exit id) T mk s) := fun F mk s _kn _kx h _ => ⟨.exit id, F, mk, s, h, Snd.same fun _ _ _ _ _ => wpIn_exit⟩
theorem ret_snd : CodeSnd P ro N .ret (fun T mk s _ kx => kx .ret T mk s) := fun F mk s _kn _kx h _ => ⟨.ret, F, mk, s, h, Snd.same fun _ _ _ _ _ => wpIn_ret⟩

theorem goes_exit {kn kn' : KN} {kx : KX} {T : Tm} {mk : List Nat} {s : St} {e : Exit} (he : e ≠ .normal) (h : goes kn kx T mk s e = true) : goes kn' kx T mk s e = true := by
  cases e <;> first | exact absurd rfl he | exact h

/-- the second piece of a sequence, a loop's next round -/
theorem then_snd {_c₂ : Comp (Exit × Act)} {W : Fence → (Exit → Act → World → Prop) → Act → World → Prop} {a : Code} {F F₁ F₂ : Nat → V} {mk mk₁ mk₂ : List Nat} {s s₁ s₂ : St} {e : Exit}
    (h₁ : Snd P (CodeDoes P ro N a F mk) (CodeQ ro N .normal F₁ mk₁) s s₁)
    (h₂ : Snd P (fun D R w K => ∀ a, ARep ro N D R F₁ mk₁ a → Glob P D R → W (Fr (ro.map R.at_)) (fun e a w => K (e, a) w) a w) (CodeQ ro N e F₂ mk₂) s₁ s₂)
    (hW : ∀ F Q Q' a w, (∀ e a w, Q e a w → Q' e a w) → W F Q a w → W F Q' a w)
    {W' : Fence → (Exit → Act → World → Prop) → Act → World → Prop} (hW' : ∀ F Q act w, (a.wpIn F 0 P (fun e a w => e = .normal ∧ W F Q a w) act w) → W' F Q act w) :
    Snd P (fun D R w K => ∀ a, ARep ro N D R F mk a → Glob P D R → W' (Fr (ro.map R.at_)) (fun e a w => K (e, a) w) a w) (CodeQ ro N e F₂ mk₂) s s₂ := by
  refine Snd.weak (c := fun D R w K => CodeDoes P ro N a F mk D R w fun x w₁ => (Glob P D R → (∀ l, ro = some l → D l) → x.1 = .normal ∧ W (Fr (ro.map R.at_)) (fun e a w => K (e, a) w) x.2 w₁)) (Q := CodeQ ro N e F₂ mk₂)
    (Snd.then (k := fun D R x w₁ K => (Glob P D R → (∀ l, ro = some l → D l) → x.1 = .normal ∧ W (Fr (ro.map R.at_)) (fun e a w => K (e, a) w) x.2 w₁)) h₁ h₂ CodeDoes.mono ?_ ?_) ?_ ?_ (fun _ _ _ h => h)
  · exact fun D R w K K' h hh a ha hg => hW _ _ _ _ _ (fun e a w q => h _ _ q) (hh a ha hg)
  · intro D R D' R' w K x ag hs hq hh hg hl
    have hr : ro.map R'.at_ = ro.map R.at_ := by
      cases ro with
      | none => rfl
      | some l => simp [(ag l (hl l rfl)).1]
    refine ⟨hq.1, ?_⟩
    have := hh x.2 hq.2 (hg.more hs ag)
    rwa [hr] at this
  · exact fun D R w K K' h hh => CodeDoes.mono _ _ _ _ _ (fun x w q hg hl => ⟨(q hg hl).1, hW _ _ _ _ _ (fun e a w q => h _ _ q) (q hg hl).2⟩) hh
  · intro D R w K hh a' ha hg
    exact hW' _ _ _ _ (wpIn_mono (hh a' ha hg) fun e a w q => q hg ha.ro)

theorem seq_snd {a b : Code} {f g : Tm → List Nat → St → KN → KX → Bool} (hf : CodeSnd P ro N a f) (hg : CodeSnd P ro N b g) : CodeSnd P ro N (.seq a b) (fun T mk s kn kx => f T mk s (fun T mk s => g T mk s kn kx) kx) := by
  intro F mk s kn kx h hw
  obtain ⟨e, F₁, mk₁, s₁, h₁, hs₁⟩ := hf F mk s _ kx h hw
  by_cases he : e = .normal
  · subst he
    obtain ⟨e₂, F₂, mk₂, s₂, h₂, hs₂⟩ := hg F₁ mk₁ s₁ kn kx h₁ (hs₁.wf hw)
    refine ⟨e₂, F₂, mk₂, s₂, h₂, then_snd (_c₂ := fun _ _ _ _ => True) (W := fun F Q a w => b.wpIn F 0 P Q a w) (W' := fun F Q act w => (Code.seq a b).wpIn F 0 P Q act w) hs₁ hs₂ (fun F Q Q' a w h hh => wpIn_mono hh h) fun F Q act w hh => ?_⟩
    refine wpIn_seq (wpIn_mono hh ?_)
    rintro e a w ⟨rfl, q⟩
    exact q
  · refine ⟨e, F₁, mk₁, s₁, goes_exit he h₁, hs₁.weakM CodeDoes.mono id (fun D R w K hh act ha hg => wpIn_seq (wpIn_mono (hh act ha hg) ?_)) fun _ _ _ q => q⟩
    rintro e' a' w' ⟨⟨D', R', q1, _⟩, q2⟩
    have q1 : e' = e := q1
    subst q1
    cases e' <;> first | exact absurd rfl he | exact q2

theorem cond_snd {c : Operand} {a b : Code} {x : Tm → (V → Bool) → Bool} {f g : Tm → List Nat → St → KN → KX → Bool} (hx : acc c = some ⟨x⟩) (hok : OpOk P c) (hf : CodeSnd P ro N a f) (hg : CodeSnd P ro N b g) :
    CodeSnd P ro N (.cond c a b) (fun T mk s kn kx => x T (fun v => kCond v (f T mk s kn kx) (g T mk s kn kx))) := by
  intro F mk s kn kx h hw
  obtain ⟨v, hv, hden⟩ := acc_snd hx h hok
  obtain ⟨t, n, b', c', d', l⟩ := v
  have hv' : wh (Nat.beq t 2) (ifB (Nat.beq n 1) (f (mk2 F) mk s kn kx) (g (mk2 F) mk s kn kx)) = true := hv
  rw [wh_iff, ifB_iff] at hv'
  have ht := Nat.eq_of_beq_eq_true hv'.1
  subst ht
  have hval : ∀ D R (act : Act), ARep ro N D R F mk act → Glob P D R → act.eval c = .bool (n == 1) := by
    intro D R act ha hg
    have := hden D R act.tmps ha.slots hg R (Agr.refl _ _)
    rw [evalT_eq] at this
    rw [← this]
    simp only [den]
  rcases hv'.2 with ⟨hn, hr⟩ | ⟨hn, hr⟩
  · obtain ⟨e, F₁, mk₁, s₁, h₁, hs₁⟩ := hf F mk s kn kx hr hw
    refine ⟨e, F₁, mk₁, s₁, h₁, hs₁.weak CodeDoes.mono (fun D R w K hh act ha hg => wpIn_cond_true ?_ (hh act ha hg)) fun _ _ _ q => q⟩
    rw [hval D R act ha hg, Nat.eq_of_beq_eq_true hn]; rfl
  · obtain ⟨e, F₁, mk₁, s₁, h₁, hs₁⟩ := hg F mk s kn kx hr hw
    refine ⟨e, F₁, mk₁, s₁, h₁, hs₁.weak CodeDoes.mono (fun D R w K hh act ha hg => wpIn_cond_false ?_ (hh act ha hg)) fun _ _ _ q => q⟩
    have : n ≠ 1 := by intro e; subst e; cases hn
    rw [hval D R act ha hg]; simp [this]

theorem block_snd {id : Nat} {c : Code} {f : Tm → List Nat → St → KN → KX → Bool} (hf : CodeSnd P ro N c f) : CodeSnd P ro N (.block id c) (fun T mk s kn kx => f T mk s kn (kBlock id kn kx)) := by
  intro F mk s kn kx h hw
  obtain ⟨e, F₁, mk₁, s₁, h₁, hs₁⟩ := hf F mk s _ _ h hw
  have pass : e ≠ .exit id → Snd P (CodeDoes P ro N (.block id c) F mk) (CodeQ ro N e F₁ mk₁) s s₁ := fun he =>
    hs₁.weakM CodeDoes.mono _root_.id (fun D R w K hh act ha hg => wpIn_block (wpIn_mono (hh act ha hg) (by
      rintro e' a' w' ⟨⟨D', R', q1, _⟩, q2⟩
      have q1 : e' = e := q1
      subst q1
      cases e' with
      | exit j =>
        show if j = id then _ else _
        rw [if_neg (fun q => he (by rw [q]))]; exact q2
      | _ => exact q2))) fun _ _ _ q => q
  cases e with
  | exit j =>
    have h₁' : ifB (Nat.beq j id) (kn (mk2 F₁) mk₁ s₁) (kx (.exit j) (mk2 F₁) mk₁ s₁) = true := h₁
    rw [ifB_iff] at h₁'
    rcases h₁' with ⟨hj, hr⟩ | ⟨hj, hr⟩
    · have hj := Nat.eq_of_beq_eq_true hj
      subst hj
      refine ⟨.normal, F₁, mk₁, s₁, hr, hs₁.weakM CodeDoes.mono (fun x => (.normal, x.2)) (fun D R w K hh act ha hg => wpIn_block (wpIn_mono (hh act ha hg) ?_)) fun _ _ _ q => ⟨rfl, q.2⟩⟩
      rintro e' a' w' ⟨⟨D', R', q1, _⟩, q2⟩
      have q1 : e' = .exit j := q1
      subst q1
      show if j = j then _ else _
      rw [if_pos rfl]; exact q2
    · exact ⟨.exit j, F₁, mk₁, s₁, hr, pass (fun q => by cases q; simp at hj)⟩
  | normal => exact ⟨.normal, F₁, mk₁, s₁, h₁, pass (by simp)⟩
  | ret => exact ⟨.ret, F₁, mk₁, s₁, h₁, pass (by simp)⟩
  | goto l => cases h₁
  | panic l => cases h₁
  | outgrown => cases h₁

theorem scope_snd {c : Code} {f : Tm → List Nat → St → KN → KX → Bool} (hf : CodeSnd P ro N c f) : CodeSnd P ro N (.scope c) f := by
  intro F mk s kn kx h hw
  obtain ⟨e, F₁, mk₁, s₁, h₁, hs₁⟩ := hf F mk s _ _ h hw
  refine ⟨e, F₁, mk₁, s₁, h₁, hs₁.weakM CodeDoes.mono id (fun D R w K hh act ha hg => wpIn_scope (wpIn_mono (hh act ha hg) ?_)) fun _ _ _ q => q⟩
  rintro e' a' w' ⟨⟨D', R', q1, _⟩, q2⟩
  have q1 : e' = e := q1
  subst q1
  cases e' with
  | goto l => cases h₁
  | _ => exact q2

theorem loop_snd {c : Code} {f : Tm → List Nat → St → KN → KX → Bool} (hf : CodeSnd P ro N c f) : CodeSnd P ro N (.loop c) (fun T mk s _ kx => kLoop (fun T mk s kn => f T mk s kn kx) 65536 T mk s) := by
  have key : ∀ (n : Nat) (F : Nat → V) (mk : List Nat) (s : St) (kn : KN) (kx : KX), kLoop (fun T mk s kn => f T mk s kn kx) n (mk2 F) mk s = true → (∃ G, Wf s G) →
      ∃ e F' mk' s', goes kn kx (mk2 F') mk' s' e = true ∧ Snd P (fun D R w K => ∀ a, ARep ro N D R F mk a → Glob P D R → LoopGo (Fr (ro.map R.at_)) 0 P c (fun e a w => K (e, a) w) a w) (CodeQ ro N e F' mk') s s' := by
    intro n
    induction n with
    | zero => intro F mk s kn kx h; cases h
    | succ n ih =>
      intro F mk s kn kx h hw
      have h' : f (mk2 F) mk s (kLoop (fun T mk s kn => f T mk s kn kx) n) kx = true := h
      obtain ⟨e, F₁, mk₁, s₁, h₁, hs₁⟩ := hf F mk s _ kx h' hw
      by_cases he : e = .normal
      · subst he
        obtain ⟨e₂, F₂, mk₂, s₂, h₂, hs₂⟩ := ih F₁ mk₁ s₁ kn kx h₁ (hs₁.wf hw)
        refine ⟨e₂, F₂, mk₂, s₂, h₂, then_snd (_c₂ := fun _ _ _ _ => True) (W := fun F Q a w => LoopGo F 0 P c Q a w) (W' := fun F Q act w => LoopGo F 0 P c Q act w) hs₁ hs₂ (fun F Q Q' a w h hh => hh.mono h) fun F Q act w hh => ?_⟩
        refine loopGo_step (wpIn_mono hh ?_)
        rintro e a w ⟨rfl, q⟩
        exact q
      · refine ⟨e, F₁, mk₁, s₁, goes_exit he h₁, hs₁.weakM CodeDoes.mono id (fun D R w K hh act ha hg => loopGo_step (wpIn_mono (hh act ha hg) ?_)) fun _ _ _ q => q⟩
        rintro e' a' w' ⟨⟨D', R', q1, _⟩, q2⟩
        have q1 : e' = e := q1
        subst q1
        cases e' <;> first | exact absurd rfl he | exact q2
  intro F mk s kn kx h hw
  obtain ⟨e, F', mk', s', h', hs'⟩ := key 65536 F mk s kn kx h hw
  exact ⟨e, F', mk', s', h', hs'.weak (fun D R w K K' h hh a ha hg => (hh a ha hg).mono fun e a w q => h _ _ q) (fun D R w K hh a ha hg => wpIn_loopGo (hh a ha hg)) fun _ _ _ q => q⟩
end Go.Ev
/- Regions, in the order of the text and in any. -/
namespace Go.Ev
variable {P : Program} {ro : Option Nat} {N : Nat} {E : Env}

theorem wf_unique {s : St} {G G' : Nat → HB} (h : Wf s G) (h' : Wf s G') : G' = G := by
  funext i
  by_cases hi : i < s.nx
  · exact wf_same h h' hi
  · rw [h.beyond i (by omega), h'.beyond i (by omega)]

theorem ARep.put {D : Nat → Prop} {R : Ren} {F : Nat → V} {mk : List Nat} {a : Act} (h : ARep ro N D R F mk a) {dst : Option Nat} {v : V} {x : Value} (hd : ∀ d, dst = some d → d < N) (hx : Den D R v x) : ARep ro N D R (putF dst v F) mk (a.put dst x) := by
  refine ⟨by cases dst <;> simp [Act.put, h.size], fun t ht => ?_, by cases dst <;> simp [Act.put, h.defers], h.marks, h.ro⟩
  rw [putF_eq]
  cases dst with
  | none => rw [if_neg (by simp)]; exact h.slots t ht
  | some d =>
    by_cases e : d = t
    · subst e
      rw [if_pos rfl]
      have : d < a.tmps.size := by rw [h.size]; exact hd d rfl
      simp only [Act.put, Array.getD_eq_getD_getElem?, Array.getElem?_setIfInBounds_self_of_lt this, Option.getD_some]
      exact hx
    · rw [if_neg (by simpa using e)]
      simp only [Act.put, Array.getD_eq_getD_getElem?, Array.getElem?_setIfInBounds_ne e]
      have := h.slots t ht
      simpa [Array.getD_eq_getD_getElem?] using this

/-- what goes on from an activation -/
abbrev UDoes (P : Program) (ro : Option Nat) (N : Nat) (U : Fence → (Exit → Act → World → Prop) → Act → World → Prop) (F : Nat → V) (mk : List Nat) : Comp (Exit × Act) := fun D R w K =>
  ∀ a, ARep ro N D R F mk a → Glob P D R → U (Fr (ro.map R.at_)) (fun e a w => K (e, a) w) a w

theorem thenU {U W W' : Fence → (Exit → Act → World → Prop) → Act → World → Prop} {F F₁ F₂ : Nat → V} {mk mk₁ mk₂ : List Nat} {s s₁ s₂ : St} {e : Exit}
    (h₁ : Snd P (UDoes P ro N U F mk) (CodeQ ro N .normal F₁ mk₁) s s₁) (h₂ : Snd P (UDoes P ro N W F₁ mk₁) (CodeQ ro N e F₂ mk₂) s₁ s₂)
    (hU : ∀ F Q Q' a w, (∀ e a w, Q e a w → Q' e a w) → U F Q a w → U F Q' a w) (hW : ∀ F Q Q' a w, (∀ e a w, Q e a w → Q' e a w) → W F Q a w → W F Q' a w)
    (hW' : ∀ F Q act w, U F (fun e a w => e = .normal ∧ W F Q a w) act w → W' F Q act w) : Snd P (UDoes P ro N W' F mk) (CodeQ ro N e F₂ mk₂) s s₂ := by
  have mU : Mono (UDoes P ro N U F mk) := fun D R w K K' h hh a ha hg => hU _ _ _ _ _ (fun e a w q => h _ _ q) (hh a ha hg)
  refine Snd.weak (c := fun D R w K => UDoes P ro N U F mk D R w fun x w₁ => (Glob P D R → (∀ l, ro = some l → D l) → x.1 = .normal ∧ W (Fr (ro.map R.at_)) (fun e a w => K (e, a) w) x.2 w₁)) (Q := CodeQ ro N e F₂ mk₂)
    (Snd.then (k := fun D R x w₁ K => (Glob P D R → (∀ l, ro = some l → D l) → x.1 = .normal ∧ W (Fr (ro.map R.at_)) (fun e a w => K (e, a) w) x.2 w₁)) h₁ h₂ mU ?_ ?_) ?_ ?_ (fun _ _ _ h => h)
  · exact fun D R w K K' h hh a ha hg => hW _ _ _ _ _ (fun e a w q => h _ _ q) (hh a ha hg)
  · intro D R D' R' w K x ag hs hq hh hg hl
    have hr : ro.map R'.at_ = ro.map R.at_ := by
      cases ro with
      | none => rfl
      | some l => simp [(ag l (hl l rfl)).1]
    refine ⟨hq.1, ?_⟩
    have := hh x.2 hq.2 (hg.more hs ag)
    rwa [hr] at this
  · exact fun D R w K K' h hh => mU _ _ _ _ _ (fun x w q hg hl => ⟨(q hg hl).1, hW _ _ _ _ _ (fun e a w q => h _ _ q) (q hg hl).2⟩) hh
  · intro D R w K hh a' ha hg
    exact hW' _ _ _ _ (hU _ _ _ _ _ (fun e a w q => q hg ha.ro) (hh a' ha hg))

abbrev OneU (P : Program) (ops : Array Oper) (i : Nat) : Fence → (Exit → Act → World → Prop) → Act → World → Prop := fun F Q a w => ∀ Qp, wpOpIn F 0 P ops Qp i (fun a w => Q .normal a w) a w

theorem one_snd {ops : Array Oper} {i : Nat} {o : Oper} (ho : ops[i]? = some o) (hp : Plain o) {F : Nat → V} {mk : List Nat} (hw : Wants ops o F true) {v : V} {s s₁ : St} (h : Snd P (OpDoes P none o F) (fun D R x => Den D R v x) s s₁) (hd : ∀ d, o.dst = some d → d < N) :
    Snd P (UDoes P ro N (OneU P ops i) F mk) (CodeQ ro N .normal (putF o.dst v F) mk) s s₁ := by
  intro G hG
  obtain ⟨G', rm, wm, m, run⟩ := h G hG
  refine ⟨G', rm, wm, m, fun D R w hD hpre a ha hg Qp => ?_⟩
  unfold wpOpIn
  rw [ho]
  simp only
  rw [hw D R a (fun t _ ht => ha.slots t ht), if_pos rfl]
  refine ⟨fun _ _ => trivial, does_upon (K := fun x w' => ∃ R', Post P D R G G' s.nx s₁.nx (rm ||| wm) wm w R' w' ∧ Den (Plus D s.nx s₁.nx) R' v x) (fun x w' hx => ?_) _ (does_any hp ?_)⟩
  · obtain ⟨R', p, q⟩ := hx
    exact ⟨R', p, rfl, (ha.more Plus.sub (p.agr hD)).put hd q⟩
  · have := run D R w hD hpre a.tmps ha.slots hg
    rwa [evalT_eq] at this

theorem one_skip {ops : Array Oper} {i : Nat} {o : Oper} (ho : ops[i]? = some o) {F : Nat → V} {mk : List Nat} (hw : Wants ops o F false) (s : St) (hd : ∀ d, o.dst = some d → d < N) :
    Snd P (UDoes P ro N (OneU P ops i) F mk) (CodeQ ro N .normal (putF o.dst und F) mk) s s := by
  intro G hG
  refine ⟨G, 0, 0, ⟨hG, Nat.le_refl _, by simp, by simp, fun _ _ _ => rfl, fun _ _ h => h⟩, fun D R w hD hpre a ha hg Qp => ?_⟩
  unfold wpOpIn
  rw [ho]
  simp only
  rw [hw D R a (fun t _ ht => ha.slots t ht), if_neg (by simp)]
  refine ⟨fun _ _ => trivial, R, Post.refl hpre, rfl, ?_⟩
  rw [Plus.none]
  exact ha.put hd (fun R' _ => den_und R')

theorem opsC_cons {all : List Oper} {o : Oper} {l : List Oper} {c : OpsC} (h : opsC E N all (o :: l) = some c) :
    ∃ oc p g k, opX E o.op = some oc ∧ slotC N o.dst = some p ∧ guardC all o.guard = some g ∧ opsC E N all l = some k ∧ c = opsC1 oc p g k := by
  have h' : (match opX E o.op with
      | some o1 => (match slotC N o.dst with
        | some p => (match guardC all o.guard with
          | some g => (match opsC E N all l with
            | some k => some (opsC1 o1 p g k)
            | none => none)
          | none => none)
        | none => none)
      | none => none) = some c := h
  split at h'
  · rename_i oc hoc
    split at h'
    · rename_i p hp
      split at h'
      · rename_i g hg
        split at h'
        · rename_i k hk
          cases h'
          exact ⟨oc, p, g, k, hoc, hp, hg, hk, rfl⟩
        · cases h'
      · cases h'
    · cases h'
  · cases h'

theorem ops_snd {ops : Array Oper} (hN : N ≤ 256) {rec : Rec} (hall : ∀ o ∈ ops.toList, ∀ c, opX E o.op = some c → OpSnd P none o (c.f rec)) (mk : List Nat) :
    ∀ (l pre : List Oper) (c : OpsC), opsC E N ops.toList l = some c → ops.toList = pre ++ l → ∀ F s K, c.f rec (mk2 F) s K = true → (∃ G, Wf s G) →
      ∃ F' s', K (mk2 F') s' = true ∧ Snd P (UDoes P ro N (fun F Q a w => wpOpsIn F 0 P ops Q (List.range' pre.length l.length) a w) F mk) (CodeQ ro N .normal F' mk) s s' := by
  intro l
  induction l with
  | nil =>
    intro pre c hc hl F s K h hw
    have hc' : some (⟨fun _ T s K => K T s⟩ : OpsC) = some c := hc
    cases hc'
    refine ⟨F, s, h, fun G hG => ⟨G, 0, 0, ⟨hG, Nat.le_refl _, by simp, by simp, fun _ _ _ => rfl, fun _ _ h => h⟩, fun D R w hD hpre a ha hg => ?_⟩⟩
    exact ⟨R, Post.refl hpre, rfl, by rw [Plus.none]; exact ha⟩
  | cons o l ih =>
    intro pre c hc hl F s K h hw
    obtain ⟨oc, p, g, k, hoc, hp, hg, hk, rfl⟩ := opsC_cons hc
    obtain ⟨fo⟩ := oc
    obtain ⟨p⟩ := p
    obtain ⟨k⟩ := k
    obtain ⟨hsm, hput⟩ := slotC_inv hN hp
    have ho : ops[pre.length]? = some o := by
      rw [← Array.getElem?_toList, hl, List.getElem?_append_right (by simp)]
      simp
    have hl' : ops.toList = (pre ++ [o]) ++ l := by rw [hl]; simp
    have mO : ∀ F Q Q' a w, (∀ e a w, Q e a w → Q' e a w) → OneU P ops pre.length F Q a w → OneU P ops pre.length F Q' a w := fun F Q Q' a w h hh Qp => wpOpIn_mono (fun a w => h _ a w) (hh Qp)
    have glue : ∀ {v : V} {s₁ : St} {F' : Nat → V} {s' : St}, Snd P (UDoes P ro N (OneU P ops pre.length) F mk) (CodeQ ro N .normal (putF o.dst v F) mk) s s₁ →
        Snd P (UDoes P ro N (fun F Q a w => wpOpsIn F 0 P ops Q (List.range' (pre ++ [o]).length l.length) a w) (putF o.dst v F) mk) (CodeQ ro N .normal F' mk) s₁ s' →
        Snd P (UDoes P ro N (fun F Q a w => wpOpsIn F 0 P ops Q (List.range' pre.length (o :: l).length) a w) F mk) (CodeQ ro N .normal F' mk) s s' := by
      intro v s₁ F' s' h1 h2
      refine thenU h1 h2 mO (fun F Q Q' a w h hh => ?_) fun F Q act w hh => ?_
      · clear h1 h2 hc hk hl hl' ih ho
        generalize List.range' (pre ++ [o]).length l.length = r at hh ⊢
        induction r generalizing a w with
        | nil => exact h _ _ _ hh
        | cons i r ih =>
          simp only [wpOpsIn_cons] at hh ⊢
          unfold wpOpIn at hh ⊢
          cases hi : ops[i]? with
          | none => rw [hi] at hh; exact ih _ _ hh
          | some o' =>
            rw [hi] at hh
            simp only at hh ⊢
            by_cases hwt : Region.wanted o' (yielded ops a.tmps) = true
            · rw [if_pos hwt] at hh ⊢
              unfold Oper.wpIn at hh ⊢
              refine ⟨hh.1, ?_⟩
              have hh := hh.2
              generalize (o'.semAt F.round a.eval).run P w = rr at hh ⊢
              cases rr with
              | ok x w' =>
                cases x <;> simp only [Oper.uponIn] at hh ⊢ <;>
                  first
                    | exact ih _ _ hh
                    | exact ⟨hh.1, CallsIn.mono hh.2 (fun e w'' he => by cases e <;> first | exact ih _ _ he | exact h _ _ _ he | (obtain ⟨a₀, w₀, hq⟩ := he; exact ⟨a₀, w₀, h _ _ _ hq⟩))⟩
                    | exact ⟨hh.1, RowsIn.mono hh.2 (fun _ _ he => ih _ _ he)⟩
                    | exact ⟨hh.1, RoundIn.mono hh.2 (fun e w'' he => by cases e <;> first | exact ih _ _ he | exact h _ _ _ he | (obtain ⟨a₀, w₀, hq⟩ := he; exact ⟨a₀, w₀, h _ _ _ hq⟩))⟩
              | halt x w' => cases x <;> simp only [Oper.uponIn] at hh ⊢ <;> exact h _ _ _ hh
            · rw [if_neg hwt] at hh ⊢
              exact ⟨hh.1, ih _ _ hh.2⟩
      · show wpOpsIn F 0 P ops Q (List.range' pre.length (l.length + 1)) act w
        rw [List.range'_succ, wpOpsIn_cons]
        refine wpOpIn_mono (fun a w q => ?_) (hh Q)
        have := q.2
        rwa [List.length_append] at this
    have doit : Wants ops o F true → fo rec (mk2 F) s (fun v s => p v (mk2 F) (fun T => k rec T s K)) = true →
        ∃ F' s', K (mk2 F') s' = true ∧ Snd P (UDoes P ro N (fun F Q a w => wpOpsIn F 0 P ops Q (List.range' pre.length (o :: l).length) a w) F mk) (CodeQ ro N .normal F' mk) s s' := by
      intro hwants hrun
      obtain ⟨v, s₁, hgo, hs⟩ := hall o (by rw [hl]; simp) _ hoc _ _ _ hrun hw
      rw [hput] at hgo
      obtain ⟨F', s', hK, hs'⟩ := ih (pre ++ [o]) _ hk hl' _ _ _ hgo (hs.wf hw)
      exact ⟨F', s', hK, glue (one_snd ho (opC_plain (opX_inv hoc)) hwants hs hsm) hs'⟩
    have skip : Wants ops o F false → p und (mk2 F) (fun T => k rec T s K) = true →
        ∃ F' s', K (mk2 F') s' = true ∧ Snd P (UDoes P ro N (fun F Q a w => wpOpsIn F 0 P ops Q (List.range' pre.length (o :: l).length) a w) F mk) (CodeQ ro N .normal F' mk) s s' := by
      intro hwants hgo
      rw [hput] at hgo
      obtain ⟨F', s', hK, hs'⟩ := ih (pre ++ [o]) _ hk hl' _ _ _ hgo hw
      exact ⟨F', s', hK, glue (one_skip ho hwants s hsm) hs'⟩
    rcases guard_inv hg (F := F) with ⟨rfl, hwants⟩ | ⟨gf, rfl, hgf⟩
    · exact doit hwants h
    · have h' : gf (mk2 F) (fun b => ifB b (fo rec (mk2 F) s (fun v s => p v (mk2 F) (fun T => k rec T s K))) (p und (mk2 F) (fun T => k rec T s K))) = true := h
      obtain ⟨b, hb, hwants⟩ := hgf _ h'
      rw [ifB_iff] at hb
      rcases hb with ⟨rfl, hb⟩ | ⟨rfl, hb⟩
      · exact doit hwants hb
      · exact skip hwants hb

theorem region_snd {ops : Array Oper} {id : Nat} (hN : N ≤ 256) {rec : Rec} (hall : ∀ o ∈ ops.toList, ∀ c, opX E o.op = some c → OpSnd P none o (c.f rec)) {c : OpsC} (hc : opsC E N ops.toList ops.toList = some c) :
    CodeSnd P ro N (.region id ops false) (fun T mk s kn _ => c.f rec T s (fun T s => kn T mk s)) := by
  intro F mk s kn kx h hw
  obtain ⟨F', s', hK, hs⟩ := ops_snd (ro := ro) hN hall mk ops.toList [] c hc rfl F s _ h hw
  refine ⟨.normal, F', mk, s', hK, ?_⟩
  intro G hG
  obtain ⟨G', rm, wm, m, run⟩ := hs G hG
  refine ⟨G', rm, wm, m, fun D R w hD hpre a ha hg => wpIn_region ?_⟩
  have := run D R w hD hpre a ha hg
  rw [List.range_eq_range']
  simpa using this

theorem footR_or (fs : List Foot) (r : Nat) : footR fs r = r ||| footR fs 0 := by
  induction fs with
  | nil => simp [footR]
  | cons f fs ih =>
    show f.r ||| footR fs r = r ||| (f.r ||| footR fs 0)
    rw [ih, ← Nat.or_assoc, ← Nat.or_assoc, Nat.or_comm f.r r]
theorem footW_or (fs : List Foot) (w : Nat) : footW fs w = w ||| footW fs 0 := by
  induction fs with
  | nil => simp [footW]
  | cons f fs ih =>
    show f.w ||| footW fs w = w ||| (f.w ||| footW fs 0)
    rw [ih, ← Nat.or_assoc, ← Nat.or_assoc, Nat.or_comm f.w w]
theorem footR_in {nx rm wm : Nat → Nat} {b : Nat} : ∀ n, In (footR (feet nx rm wm n) 0) b ↔ ∃ i, i < n ∧ In (rm i) b := by
  intro n
  induction n with
  | zero => simp [feet, footR, In]
  | succ n ih =>
    show In (rm n ||| footR (feet nx rm wm n) 0) b ↔ _
    rw [in_or, ih]
    constructor
    · rintro (h | ⟨i, h1, h2⟩)
      · exact ⟨n, by omega, h⟩
      · exact ⟨i, by omega, h2⟩
    · rintro ⟨i, h1, h2⟩
      by_cases e : i = n
      · subst e; exact .inl h2
      · exact .inr ⟨i, by omega, h2⟩
theorem footW_in {nx rm wm : Nat → Nat} {b : Nat} : ∀ n, (∃ i, i < n ∧ (In (wm i) b ∨ New (nx i) (nx (i + 1)) b)) → In (footW (feet nx rm wm n) 0) b := by
  intro n
  induction n with
  | zero => rintro ⟨i, hi, _⟩; omega
  | succ n ih =>
    rintro ⟨i, h1, h2⟩
    show In (made (nx n) (nx (n + 1)) (wm n) ||| footW (feet nx rm wm n) 0) b
    rw [in_or]
    by_cases e : i = n
    · subst e; exact .inl (made_in h2)
    · exact .inr (ih ⟨i, by omega, h2⟩)

theorem regionD_snd {ops : Array Oper} {id : Nat} (hm : P.follows .mixedOrders = true) (hN : N ≤ 256) {rec : Rec} (hall : ∀ o ∈ ops.toList, ∀ c, opX E o.op = some c → OpSnd P none o (c.f rec)) {c : OpsD} (hc : opsD E N ops ops.toList 0 [] [] = some c) :
    CodeSnd P ro N (.region id ops true) (fun T mk s kn _ => c.f rec [] T s (fun T s => kn T mk s)) := by
  intro F mk s kn kx h hw
  obtain ⟨G0, hG0⟩ := hw
  obtain ⟨nx, G, Fv, rm, wm, v, hq, e1, e2, e3, s', hK, hw', e4, e5, e6⟩ := trace (P := P) hN hall ops.toList 0 [] [] c hc rfl rfl (fun j hj => by omega) (fun _ => s.nx) (fun _ => G0) (fun _ => F) (fun _ => 0) (fun _ => 0) (fun _ => und)
    ⟨fun i hi => by omega, fun i _ b hb => hG0.beyond b hb, fun i hi => by omega, fun i hi => by omega, fun i hi => by omega, fun i hi => by omega, fun i hi => by omega, fun j k _ hk => by omega, fun j k _ hk => by omega, fun k hk => by omega⟩ s (fun T s => kn T mk s) h hG0 rfl
  refine ⟨.normal, Fv ops.size, mk, s', hK, ?_⟩
  intro G1 hG1
  have hGG := wf_unique hG0 hG1
  subst hGG
  have hseq := hq.seq
  have hle : nx 0 ≤ nx ops.size := hseq.mono' (by omega) (by omega)
  have inW : ∀ b, (∃ i, i < ops.size ∧ (In (wm i) b ∨ New (nx i) (nx (i + 1)) b)) → In (footW (feet nx rm wm ops.size) 0) b := fun b => footW_in ops.size
  refine ⟨G ops.size, footR (feet nx rm wm ops.size) 0, footW (feet nx rm wm ops.size) 0, ⟨hw', by rw [e4, ← e1]; exact hle, by rw [e5]; exact footR_or _ _, by rw [e6]; exact footW_or _ _, fun b hb hn => ?_, fun b hb hd => ?_⟩, fun D R w hD hpre a ha hg => ?_⟩
  · rw [← e2]
    refine hseq.chain' (by omega) (Nat.le_refl _) fun j _ hj hwr => hb (inW b ⟨j, hj, hwr.imp (·.2) fun q => q⟩)
  · exact hseq.deadFrom b (by rw [e1]; exact hb) (by rw [e2]; exact hd) ops.size (Nat.le_refl _)
  · have hpre' : Pre P D R (G 0) (nx 0) (footR (feet nx rm wm ops.size) 0 ||| footW (feet nx rm wm ops.size) 0) { w with drawn := w.drawn + 1 } := by rw [e1, e2]; exact ⟨hpre.rep, hpre.inj⟩
    refine wpIn_region_any hm (any_sound (df := a.defers) (R := R) (D := D) hseq hN (fun i hi b hb => ?_) (fun i hi b hb => inW b ⟨i, hi, .inl hb⟩) (fun b hb => in_or.2 (.inr hb)) (fun b hb => by rw [e1, ← e4]; exact hD b hb) hpre' hg ?_ ops.size _ a _ (G 0) (Fv 0) R ?_ ?_)
    · rcases in_or.1 hb with q | q
      · exact in_or.2 (.inl ((footR_in ops.size).2 ⟨i, hi, q⟩))
      · exact in_or.2 (.inr (inW b ⟨i, hi, .inl q⟩))
    · intro a' w' R' hdf hsz hpost hden
      rw [e1, ← e4, e2] at hpost
      have hpost' : Post P D R G1 (G ops.size) s.nx s'.nx (footR (feet nx rm wm ops.size) 0 ||| footW (feet nx rm wm ops.size) 0) (footW (feet nx rm wm ops.size) 0) w R' w' :=
        ⟨hpost.ren, hpost.rep, hpost.inj, hpost.fresh, hpost.keep, hpost.size, hpost.tape, hpost.os, hpost.out⟩
      rw [e1, ← e4] at hden
      have hm := ha.more (Plus.sub (nx := s.nx) (nx' := s'.nx)) (hpost'.agr hD)
      exact ⟨R', hpost', rfl, hsz, hden, by rw [hdf]; exact hm.defers, hm.marks, hm.ro⟩
    · have off : ∀ i, ¬ On (Array.replicate ops.size false) i := by
        intro i hi
        unfold On at hi
        rw [Array.getElem?_replicate] at hi
        split at hi <;> simp at hi
      have hNS : ∀ b, ¬ NS nx (Array.replicate ops.size false) b := by rintro b ⟨i, hi, _⟩; exact off i hi
      have hf : (fun b => D b ∨ NS nx (Array.replicate ops.size false) b) = D := by funext b; simp [hNS b]
      refine ⟨by simp, fun k o hk => (off k hk).elim, ⟨fun _ _ => ⟨rfl, rfl, rfl⟩, ?_, ?_, fun b hb => (hNS b hb).elim, fun _ _ _ => rfl, Nat.le_refl _, rfl, rfl, rfl⟩, ?_, ?_, fun b _ h => h, ?_, ha.size, rfl⟩
      · intro b hb hal
        rcases hb with q | q
        · rw [hf]
          have := hpre'.rep b q.1 q.2 hal
          exact this.2
        · exact (hNS b q).elim
      · intro b c hb hc hab hac he
        rcases hb with q | q
        · rcases hc with q' | q'
          · exact hpre'.inj b c q.1 q'.1 q.2 q'.2 hab hac he
          · exact (hNS c q').elim
        · exact (hNS b q).elim
      · intro b i hi hh
        refine (hseq.chain' (by omega) hi fun j _ hj hwr => ?_).symm
        exact off j ((hh j (by omega) hwr).2 hj)
      · intro t i hi hh
        refine (hseq.chainS' (by omega) hi fun j _ hj hd => ?_).symm
        exact off j ((hh j (by omega) hd).2 hj)
      · intro t ht
        rw [hf, e3]
        exact ha.slots t ht
    · refine Nat.le_trans List.countP_le_length (by simp)
end Go.Ev
/- Loops over functions: their records and marks, and the statement. -/
namespace Go.Ev
variable {P : Program} {ro : Option Nat} {N : Nat} {E : Env}

theorem loopK_inv {s : St} {G : Nat → HB} (hG : Wf s G) {l : Nat} {k : KL} (h : loopK s l k = true) :
    l < s.nx ∧ ∃ st pend fn N T ps assign body d, G l = .lp st pend fn N T ps assign body d ∧ k st pend fn N T ps assign body d { s with r := s.r ||| mask l } = true := by
  obtain ⟨h1, h2⟩ := look_eq hG l _ h
  refine ⟨h1, ?_⟩
  revert h2
  cases hb : G l with
  | lp st pend fn N T ps assign body d => intro h2; exact ⟨_, _, _, _, _, _, _, _, _, rfl, h2⟩
  | _ => intro h2; cases h2

/-- what a record of a loop says -/
def LRep (D : Nat → Prop) (R : Ren) (st : Nat) (pend : Option Code) (N : Nat) (T : Tm) (ps : List Nat) (assign body : Code) (d : Nat) (l : Loop) : Prop :=
  st = stateN l.state ∧ l.pending = pend ∧ TRep D R N T l.tmps ∧ l.params.toList = ps ∧ l.assign = assign ∧ l.body = body ∧ D d ∧ l.defers = R.at_ d

theorem lay_ok {s : St} {G : Nat → HB} (hG : Wf s G) {l : Nat} {b : HB} {k : St → Bool} (h : lay { s with r := s.r ||| mask l } l b k = true) :
    k { s with h := mk4 (upd G l b), r := s.r ||| mask l, w := s.w ||| mask l } = true := (lay_eq (s := { s with r := s.r ||| mask l }) ⟨hG.h, hG.nx, hG.beyond, hG.ok⟩ l b k h).2

/-- a loop's record is turned -/
theorem Snd.loopW {β : Type} {c : Comp β} {Q : (Nat → Prop) → Ren → β → Prop} {s : St} {G : Nat → HB} (hG : Wf s G) {l : Nat} (hl : l < s.nx) {st : Nat} {pend : Option Code} {fn N : Nat} {T : Tm} {ps : List Nat} {assign body : Code} {d : Nat}
    (hb : G l = .lp st pend fn N T ps assign body d) {b : HB} (hok : HBok b) (hm : Mono c)
    (h : ∀ D R w lr, LRep D R st pend N T ps assign body d lr → w.heap[R.at_ l]? = some (.loop lr) → ∃ o x, BRep P D R l b (some o) ∧ Q D R x ∧ ∀ K : β → World → Prop, K x (w.putObj (R.at_ l) o) → c D R w K) :
    Snd P c Q s { s with h := mk4 (upd G l b), r := s.r ||| mask l, w := s.w ||| mask l } := by
  refine Snd.write hG hl (by rw [Al, hb]; simp) hok (fun D R w hd hlt hr => ?_) hm
  rw [hb] at hr
  obtain ⟨lr, ho, h1, h2, h3, h4, h5, h6, h7, h8⟩ := hr
  obtain ⟨o, x, q1, q2, q3⟩ := h D R w lr ⟨h1, h2, h3, h4, h5, h6, h7, h8⟩ ho
  exact q3 _ ⟨⟨o, rfl, q1⟩, q2⟩

def EndC (P : Program) (l : Nat) (pend : Option Code) : Comp Unit := fun _ R w K => ∃ w', (Instr.endLoop (R.at_ l)).run P w = .ok pend w' ∧ K () w'
theorem end_snd {s : St} {G : Nat → HB} (hG : Wf s G) {l : Nat} (hl : l < s.nx) {st : Nat} {pend : Option Code} {fn N : Nat} {T : Tm} {ps : List Nat} {assign body : Code} {d : Nat}
    (hb : G l = .lp st pend fn N T ps assign body d) (hst : st ≠ 1) : Snd P (EndC P l pend) (fun _ _ _ => True) s { s with h := mk4 (upd G l .dead), r := s.r ||| mask l, w := s.w ||| mask l } := by
  refine Snd.loopW hG hl hb trivial (fun D R w K K' h ⟨w', h1, h2⟩ => ⟨w', h1, h _ _ h2⟩) fun D R w lr hr ho => ?_
  obtain ⟨h1, rfl, h3⟩ := hr
  exact ⟨_, (), trivial, trivial, fun K hK => ⟨_, run_endLoop ho (fun q => hst (by rw [h1, q]; rfl)), hK⟩⟩

def TakeC (P : Program) (m : Nat) : Comp Unit := fun _ R w K => ∃ w', (Instr.takeDeferred (R.at_ m)).run P w = .ok [] w' ∧ K () w'
theorem take_snd {s : St} {G : Nat → HB} (hG : Wf s G) {m : Nat} (hm : m < s.nx) (hb : G m = .dfr) : Snd P (TakeC P m) (fun _ _ _ => True) s { s with h := mk4 (upd G m .dead), r := s.r ||| mask m, w := s.w ||| mask m } := by
  refine Snd.write hG hm (by rw [Al, hb]; simp) trivial (fun D R w hd hlt hr => ?_) (fun D R w K K' h ⟨w', h1, h2⟩ => ⟨w', h1, h _ _ h2⟩)
  rw [hb] at hr
  have hr : w.heap[R.at_ m]? = some (.deferred (some [])) := hr
  exact ⟨_, run_takeDeferred hr, ⟨.deferred none, rfl, trivial⟩, trivial⟩

def NewDfr : Comp Nat := fun _ _ w K => K w.heap.size (w.alloc (.deferred (some [])))
abbrev AtQ (l : Nat) : (Nat → Prop) → Ren → Nat → Prop := fun D R x => D l ∧ R.at_ l = x
theorem dfr_snd {s : St} {G : Nat → HB} (hG : Wf s G) (hn : s.nx < 65536) : Snd P NewDfr (AtQ s.nx) s { s with h := mk4 (upd G s.nx .dfr), nx := s.nx + 1 } :=
  Snd.make hG hn trivial (fun _D _R _w _hD => ⟨.deferred (some []), 0, rfl, fun _R' _ hat _ _ => ⟨rfl, .inr ⟨Nat.le_refl _, Nat.lt_succ_self _⟩, hat⟩⟩) (fun _D _R _w _K _K' h hh => h _ _ hh)

def NewLp (N : Nat) (T : Tm) (ps : List Nat) (assign body : Code) (d : Nat) : Comp Nat := fun D R w K => ∀ lr, LRep D R 0 none N T ps assign body d lr → K w.heap.size (w.alloc (.loop lr))
theorem lp_snd {s : St} {G : Nat → HB} (hG : Wf s G) (hn : s.nx < 65536) {fn N : Nat} (hN : N ≤ 256) {F : Nat → V} {ps : List Nat} {assign body : Code} {d : Nat} :
    Snd P (NewLp N (mk2 F) ps assign body d) (AtQ s.nx) s { s with h := mk4 (upd G s.nx (.lp 0 none fn N (mk2 F) ps assign body d)), nx := s.nx + 1 } := by
  intro G' hG'
  have := wf_unique hG hG'
  subst this
  -- the record hangs on what is told: so the piece is made by hand
  have hmk := fun (lr : Nat → Prop → Prop) => trivial
  refine Snd.make (c := NewLp N (mk2 F) ps assign body d) (Q := AtQ s.nx) (b := .lp 0 none fn N (mk2 F) ps assign body d) hG' hn ⟨hN, F, rfl⟩ (fun D R w hD lr hr => ?_) (fun D R w K K' h hh lr hr => h _ _ (hh lr hr)) G' hG'
  refine ⟨.loop lr, 0, rfl, fun R' ha hat _ _ => ⟨?_, .inr ⟨Nat.le_refl _, Nat.lt_succ_self _⟩, hat⟩⟩
  obtain ⟨h1, h2, h3, h4, h5, h6, h7, h8⟩ := hr
  exact ⟨lr, rfl, h1, h2, h3.more Plus.sub ha, h4, h5, h6, .inl h7, by rw [(ha d h7).1]; exact h8⟩

/-! ### calls -/
def CallDoes (P : Program) (f : Nat) (args : List V) : Comp Value := fun D R w K => ∀ xs, DenL D R args xs → Glob P D R → (∀ w, (callFunc f xs.toArray).run P w = .ok (.enter f xs.toArray) w) ∧ CallsIn (Fr none) 0 P f xs.toArray w (gives K)
def YieldDoes (P : Program) (l : Nat) (args : List V) : Comp Value := fun D R w K => ∀ xs, DenL D R args xs → Glob P D R → D l → DoesR P none K ((Instr.yield (R.at_ l) xs.toArray).run P w)
theorem CallDoes.mono {f : Nat} {args : List V} : Mono (CallDoes P f args) := fun _ _ _ _ _ h hh xs hx hg => ⟨(hh xs hx hg).1, CallsIn.mono' (hh xs hx hg).2 (gives_mono h)⟩
theorem YieldDoes.mono {l : Nat} {args : List V} : Mono (YieldDoes P l args) := fun _ _ _ _ _ h hh xs hx hg hd => DoesR.mono h _ (hh xs hx hg hd)

structure RecSnd (P : Program) (rec : Rec) : Prop where
  call : ∀ f args s K, rec true f args s K = true → (∃ G, Wf s G) → ∃ v s', K v s' = true ∧ Snd P (CallDoes P f args) (ValQ v) s s'
  yld : ∀ l args s K, rec false l args s K = true → (∃ G, Wf s G) → ∃ v s', K v s' = true ∧ Snd P (YieldDoes P l args) (ValQ v) s s'

theorem splitK_inv : ∀ (l : List V) (n : Nat) (k : List V → List V → Bool), splitK l n k = true → k (l.take n) (l.drop n) = true := by
  intro l
  induction l with
  | nil => intro n k h; simpa [splitK] using h
  | cons v l ih =>
    intro n k h
    have h' : ifB (Nat.beq n 0) (k [] (v :: l)) (splitK l (Nat.sub n 1) (fun x y => k (v :: x) y)) = true := h
    rw [ifB_iff] at h'
    rcases h' with ⟨h1, h2⟩ | ⟨h1, h2⟩
    · have := Nat.eq_of_beq_eq_true h1
      subst this; exact h2
    · cases n with
      | zero => cases h1
      | succ n => exact ih n _ h2

theorem denL_app (R : Ren) (l m : List V) : denL R (l ++ m) = denL R l ++ denL R m := by
  induction l with
  | nil => simp [denL]
  | cons x l ih => simp only [List.cons_append, denL, ih]
theorem denL_eq (R : Ren) (l : List V) : denL R l = l.map (den R) := by
  induction l with
  | nil => simp [denL]
  | cons x l ih => simp only [denL, ih, List.map_cons]

/-- a function value that is called -/
theorem callV_inv {rec : Rec} {a b c d : Nat} {l args : List V} {s : St} {K : KV} (h : callV rec (.mk 11 a b c d l) args s K = true) : rec true a (l.take b ++ args ++ l.drop b) s K = true := by
  cases l with
  | nil =>
    have h' : rec true a args s K = true := h
    simpa using h'
  | cons v l =>
    have h' : splitK (v :: l) b (fun x y => rec true a (x ++ args ++ y) s K) = true := h
    exact splitK_inv _ _ _ h'

/-! ### the statement -/
def endOf : Option Code → Option Exit
  | none => some .normal
  | some .ret => some .ret
  | some (.exit id) => some (.exit id)
  | _ => none

theorem jump_inv {pend : Option Code} {T : Tm} {mk : List Nat} {s : St} {kn : KN} {kx : KX} (h : (match pend with | none => kn T mk s | some c => jump c T mk s kx) = true) : ∃ e, endOf pend = some e ∧ goes kn kx T mk s e = true := by
  cases pend with
  | none => exact ⟨.normal, rfl, h⟩
  | some c =>
    cases c <;> first | (cases h; done) | exact ⟨_, rfl, h⟩

theorem kRange3_inv {l : Nat} {T : Tm} {mk : List Nat} {kn : KN} {kx : KX} {s : St} (hw : ∃ G, Wf s G) (h : kRange3 l T mk kn kx s = true) :
    ∃ pend e s', endOf pend = some e ∧ goes kn kx T mk s' e = true ∧ Snd P (EndC P l pend) (fun _ _ _ => True) s s' := by
  obtain ⟨G, hG⟩ := hw
  obtain ⟨hl, st, pend, fn, N, T', ps, assign, body, d, hb, hk⟩ := loopK_inv hG h
  rw [ifB_iff] at hk
  rcases hk with ⟨_, hk⟩ | ⟨hst, hk⟩
  · cases hk
  · have hst : st ≠ 1 := by intro e; subst e; cases hst
    have hk := lay_ok hG hk
    obtain ⟨e, h1, h2⟩ := jump_inv hk
    exact ⟨pend, e, _, h1, h2, end_snd hG hl hb hst⟩

/-- the call, and the loop's end -/
def CallEnd (P : Program) (f : Nat) (args : List V) (l : Nat) (pend : Option Code) : Comp Unit := fun D R w K => ∀ xs, DenL D R args xs → Glob P D R → D l →
  (∀ w, (callFunc f xs.toArray).run P w = .ok (.enter f xs.toArray) w) ∧ CallsIn (Fr none) 0 P f xs.toArray w (gives fun _ w₃ => ∃ w₄, (Instr.endLoop (R.at_ l)).run P w₃ = .ok pend w₄ ∧ K () w₄)
theorem callEnd_snd {f : Nat} {args : List V} {l : Nat} {pend : Option Code} {v : V} {s s₁ s₂ : St} (h₁ : Snd P (CallDoes P f args) (ValQ v) s s₁) (h₂ : Snd P (EndC P l pend) (fun _ _ _ => True) s₁ s₂) : Snd P (CallEnd P f args l pend) (fun _ _ _ => True) s s₂ := by
  refine Snd.weak (Snd.then (k := fun D R _ w₁ K => D l → ∃ w₄, (Instr.endLoop (R.at_ l)).run P w₁ = .ok pend w₄ ∧ K () w₄) h₁ h₂ CallDoes.mono (fun D R w K K' h ⟨w', q1, q2⟩ => ⟨w', q1, h _ _ q2⟩) ?_) ?_ ?_ (fun _ _ _ h => h)
  · intro D R D' R' w K x ag hs hq ⟨w', q1, q2⟩ hd
    rw [(ag l hd).1] at q1
    exact ⟨w', q1, q2⟩
  · exact fun D R w K K' h hh => CallDoes.mono _ _ _ _ _ (fun x w q hd => let ⟨w', q1, q2⟩ := q hd; ⟨w', q1, h _ _ q2⟩) hh
  · intro D R w K hh xs hx hg hd
    exact ⟨(hh xs hx hg).1, CallsIn.mono' (hh xs hx hg).2 (gives_mono fun v w q => q hd)⟩

theorem denL_yield {D : Nat → Prop} {R : Ren} {l : Nat} (hd : D l) {x y : List V} {xs ys : List Value} (hx : DenL D R x xs) (hy : DenL D R y ys) : DenL D R (x ++ [.mk 12 l 0 0 0 []] ++ y) (xs ++ [.func (.yield (R.at_ l)) #[] #[]] ++ ys) := by
  intro R' ha
  rw [denL_app, denL_app, hx R' ha, hy R' ha]
  simp [denL, den, (ha l hd).1]

theorem DenL.take {D : Nat → Prop} {R : Ren} {vs : List V} {xs : List Value} (h : DenL D R vs xs) (b : Nat) : DenL D R (vs.take b) (xs.take b) := by
  intro R' ha
  have := h R' ha
  rw [denL_eq] at this ⊢
  rw [← this, List.map_take]
theorem DenL.drop {D : Nat → Prop} {R : Ren} {vs : List V} {xs : List Value} (h : DenL D R vs xs) (b : Nat) : DenL D R (vs.drop b) (xs.drop b) := by
  intro R' ha
  have := h R' ha
  rw [denL_eq] at this ⊢
  rw [← this, List.map_drop]

/-- what was told goes along -/
theorem Snd.carry {α β : Type} {c : Comp β} {Q : (Nat → Prop) → Ren → β → Prop} {s s' : St} (A : (Nat → Prop) → Ren → α → Prop) (hA : ∀ D D' R R' a, A D R a → (∀ i, D i → D' i) → Agr D R R' → A D' R' a) (h : Snd P c Q s s') (hm : Mono c) :
    Snd P (fun D R w K => ∀ a, A D R a → c D R w fun x w => K (a, x) w) (fun D R (x : α × β) => A D R x.1 ∧ Q D R x.2) s s' := by
  intro G hG
  obtain ⟨G', rm, wm, m, run⟩ := h G hG
  refine ⟨G', rm, wm, m, fun D R w hD hpre a ha => hm _ _ _ _ _ ?_ (run D R w hD hpre)⟩
  rintro x w' ⟨R', hp, hx⟩
  exact ⟨R', hp, hA _ _ _ _ _ ha Plus.sub (hp.agr hD), hx⟩

/-- the call of the function that is ranged over, with its yield; behind it the loop's end -/
def GoesOn (P : Program) (f b : Nat) (xs : List Value) (l : Nat) (pend : Option Code) (w : World) (K : World → Prop) : Prop :=
  (∀ w, (callFunc f ((xs.take b ++ [Value.func (.yield l) #[] #[]] ++ xs.drop b).toArray)).run P w = .ok (.enter f ((xs.take b ++ [Value.func (.yield l) #[] #[]] ++ xs.drop b).toArray)) w) ∧
  CallsIn (Fr none) 0 P f ((xs.take b ++ [Value.func (.yield l) #[] #[]] ++ xs.drop b).toArray) w (gives fun _ w₃ => ∃ w₄, (Instr.endLoop l).run P w₃ = .ok pend w₄ ∧ K w₄)
theorem GoesOn.mono {f b : Nat} {xs : List Value} {l : Nat} {pend : Option Code} {w : World} {K K' : World → Prop} (hK : ∀ w, K w → K' w) (h : GoesOn P f b xs l pend w K) : GoesOn P f b xs l pend w K' :=
  ⟨h.1, CallsIn.mono' h.2 (gives_mono fun _ _ ⟨w₄, q1, q2⟩ => ⟨w₄, q1, hK _ q2⟩)⟩

/-- from a loop's record on -/
def FromLp (P : Program) (f b : Nat) (vs : List V) (N : Nat) (T : Tm) (ps : List Nat) (assign body : Code) (d : Nat) (pend : Option Code) : Comp Unit := fun D R w K =>
  ∀ lr xs, LRep D R 0 none N T ps assign body d lr → DenL D R vs xs → Glob P D R → GoesOn P f b xs w.heap.size pend (w.alloc (.loop lr)) (K ())
theorem FromLp.mono {f b : Nat} {vs : List V} {T : Tm} {ps : List Nat} {assign body : Code} {d : Nat} {pend : Option Code} : Mono (FromLp P f b vs N T ps assign body d pend) := fun _ _ _ _ _ h hh lr xs h1 h2 h3 => (hh lr xs h1 h2 h3).mono (h ())
theorem fromLp_snd {s s₂ : St} {G : Nat → HB} (hG : Wf s G) (hn : s.nx < 65536) {fn : Nat} (hN : N ≤ 256) {F : Nat → V} {ps : List Nat} {assign body : Code} {d f b : Nat} {vs : List V} {pend : Option Code}
    (h : Snd P (CallEnd P f (vs.take b ++ [.mk 12 s.nx 0 0 0 []] ++ vs.drop b) s.nx pend) (fun _ _ _ => True) { s with h := mk4 (upd G s.nx (.lp 0 none fn N (mk2 F) ps assign body d)), nx := s.nx + 1 } s₂) :
    Snd P (FromLp P f b vs N (mk2 F) ps assign body d pend) (fun _ _ _ => True) s s₂ := by
  refine Snd.weak (Snd.then (k := fun D R x w₁ K => ∀ xs, DenL D R vs xs → Glob P D R → GoesOn P f b xs x pend w₁ (K ())) (lp_snd hG hn hN) h (fun D R w K K' h hh lr hr => h _ _ (hh lr hr))
    (fun D R w K K' h hh xs hx hg hd => ⟨(hh xs hx hg hd).1, CallsIn.mono' (hh xs hx hg hd).2 (gives_mono fun _ _ ⟨w₄, q1, q2⟩ => ⟨w₄, q1, h _ _ q2⟩)⟩) ?_) ?_ ?_ (fun _ _ _ h => h)
  · intro D R D' R' w K x ag hs hq hh xs hx hg
    have hx' := hx.more hs ag
    have := hh _ (denL_yield hq.1 (hx'.take b) (hx'.drop b)) (hg.more hs ag) hq.1
    rw [hq.2] at this
    exact this
  · exact fun D R w K K' h hh lr hr xs hx hg => (hh lr hr xs hx hg).mono (h ())
  · exact fun D R w K hh lr xs hr hx hg => hh lr hr xs hx hg

/-- the block of the deferred calls is known -/
def FromD (P : Program) (f b : Nat) (vs : List V) (N : Nat) (T : Tm) (ps : List Nat) (assign body : Code) (pend : Option Code) (r : Nat) : Comp Unit := fun D R w K =>
  ∀ lr xs, lr.state = .ready → lr.pending = none → TRep D R N T lr.tmps → lr.params.toList = ps → lr.assign = assign → lr.body = body → lr.defers = r → DenL D R vs xs → Glob P D R → GoesOn P f b xs w.heap.size pend (w.alloc (.loop lr)) (K ())

def OuterD (P : Program) (f b : Nat) (vs : List V) (N : Nat) (T : Tm) (ps : List Nat) (assign body : Code) (pend : Option Code) : Comp (Nat × Unit) := fun D R w K =>
  FromD P f b vs N T ps assign body pend w.heap.size D R (w.alloc (.deferred (some []))) fun y w => K (w.heap.size, y) w
abbrev FromDfr (P : Program) (f b : Nat) (vs : List V) (N : Nat) (T : Tm) (ps : List Nat) (assign body : Code) (pend : Option Code) (get : Comp Nat) : Comp (Nat × Unit) := fun D R w K =>
  get D R w fun r w₁ => FromD P f b vs N T ps assign body pend r D R w₁ fun y w => K (r, y) w

theorem fromD_snd {get : Comp Nat} {d : Nat} {s s₁ s₂ : St} {F : Nat → V} {ps : List Nat} {assign body : Code} {f b : Nat} {vs : List V} {pend : Option Code} (hg : Snd P get (AtQ d) s s₁) (hm : Mono get)
    (h : Snd P (FromLp P f b vs N (mk2 F) ps assign body d pend) (fun _ _ _ => True) s₁ s₂) :
    Snd P (FromDfr P f b vs N (mk2 F) ps assign body pend get) (fun D R x => AtQ d D R x.1) s s₂ := by
  refine Snd.weak (Snd.then (k := fun D R r w₁ K => FromD P f b vs N (mk2 F) ps assign body pend r D R w₁ fun y w => K (r, y) w) hg (Snd.carry (AtQ d) (fun D D' R R' a q hs ha => ⟨hs _ q.1, by rw [(ha d q.1).1]; exact q.2⟩) h FromLp.mono) hm
    (fun D R w K K' h hh a ha => FromLp.mono _ _ _ _ _ (fun x w q => h _ _ q) (hh a ha)) ?_) ?_ (fun D R w K h => h) (fun _ _ _ h => h.1)
  · intro D R D' R' w K r ag hs hq hh lr xs h1 h2 h3 h4 h5 h6 h7 hx hgl
    exact hh r hq lr xs ⟨by rw [h1]; rfl, h2, h3.more hs ag, h4, h5, h6, hq.1, by rw [h7]; exact hq.2.symm⟩ (hx.more hs ag) (hgl.more hs ag)
  · exact fun D R w K K' h hh => hm _ _ _ _ _ (fun r w q lr xs h1 h2 h3 h4 h5 h6 h7 hx hgl => (q lr xs h1 h2 h3 h4 h5 h6 h7 hx hgl).mono fun w q => h _ _ q) hh

/-- the block of the deferred calls of the loop around -/
def ReadD (_P : Program) (l : Nat) : Comp Nat := fun _ R w K => ∃ r₀ : Loop, w.heap[R.at_ l]? = some (.loop r₀) ∧ K r₀.defers w
theorem readD_snd {s : St} {G : Nat → HB} (hG : Wf s G) {l : Nat} (hl : l < s.nx) {st : Nat} {pend : Option Code} {fn N : Nat} {T : Tm} {ps : List Nat} {assign body : Code} {d : Nat} (hb : G l = .lp st pend fn N T ps assign body d) :
    Snd P (ReadD P l) (AtQ d) s { s with r := s.r ||| mask l } := by
  refine Snd.read hl (fun G' hG' => by rw [wf_unique hG hG', Al, hb]; simp) (fun G' hG' D R w hd hlt hr => ?_) (fun D R w K K' h ⟨r, q1, q2⟩ => ⟨r, q1, h _ _ q2⟩)
  rw [wf_unique hG hG', hb] at hr
  obtain ⟨lr, ho, h1, h2, h3, h4, h5, h6, h7, h8⟩ := hr
  exact ⟨lr, ho, rfl, h7, h8.symm⟩

theorem range_run {ro' : Option Nat} {f b : Nat} {xs : List Value} {pend : Option Code} {e : Exit} (he : endOf pend = some e) {g : Operand} {ps : Array Tmp} {assign body : Code} {a : Act} {w w₁ : World} {l : Nat} {mark : List Deferred} {Q : Exit → Act → World → Prop}
    (hg : a.eval g = .func (.func f) (xs.take b).toArray (xs.drop b).toArray) (hen : ∀ fn, ∃ lr, (Instr.enterLoop fn a.tmps ps assign body ro').run P w = .ok (l, mark) (w₁.alloc (.loop lr)) ∧
      GoesOn P f b xs l pend (w₁.alloc (.loop lr)) (fun w => Q e { a with defers := mark ++ a.defers } w)) : (Code.rangeFunc g ps assign body).wpIn (Fr ro') 0 P Q a w := by
  refine wpIn_rangeFunc fun fn _ => ?_
  obtain ⟨lr, hrun, hcf, hcall⟩ := hen fn
  have hargs : (xs.take b).toArray ++ #[Value.func (.yield l) #[] #[]] ++ (xs.drop b).toArray = (xs.take b ++ [Value.func (.yield l) #[] #[]] ++ xs.drop b).toArray := by
    apply Array.ext'; simp
  refine ⟨l, mark, w₁.alloc (.loop lr), { target := .fn (.func f) (xs.drop b).toArray, args := (xs.take b).toArray ++ #[Value.func (.yield l) #[] #[]] }, w₁.alloc (.loop lr), f, _, _, hrun, ?_, fun _ _ => trivial, ?_, fun q => by simp [Fr, Fence.wide] at q, CallsIn.mono' hcall ?_⟩
  · have h1 : resolve a.eval (rangeCall g l) 0 = Deferred.ofValue (a.eval g) #[Value.func (.yield l) #[] #[]] := by
      have e : (#[Operand.const (.func (.yield l) #[] #[])].map a.eval) = #[Value.func (.yield l) #[] #[]] := by simp [Act.eval]
      unfold resolve
      simp only [e]
    rw [h1, hg]
    rfl
  · show (callFunc f ((xs.take b).toArray ++ #[Value.func (.yield l) #[] #[]] ++ (xs.drop b).toArray)).run P _ = _
    rw [hargs]; exact hcf _
  · intro e' w' he'
    cases e' with
    | returned v =>
      obtain ⟨w₄, q1, q2⟩ := he'
      refine ⟨pend, w₄, q1, ?_⟩
      cases pend with
      | none => cases he; exact q2
      | some c =>
        cases c with
        | ret => cases he; exact wpIn_ret q2
        | exit id => cases he; exact wpIn_exit q2
        | _ => cases he
    | panicked c => exact he'.elim
    | outgrown => exact he'.elim

theorem denL_of_func {D : Nat → Prop} {R : Ren} {a b c d : Nat} {l : List V} {x : Value} (h : Den D R (.mk 11 a b c d l) x) : DenL D R l (denL R l) := by
  intro R' ha
  have h1 := h R' ha
  have h2 := h R (Agr.refl _ _)
  rw [← h2] at h1
  simp only [den] at h1
  injection h1 with _ h3 h4
  have h3 : (denL R' l).take b = (denL R l).take b := by simpa using h3
  have h4 : (denL R' l).drop b = (denL R l).drop b := by simpa using h4
  rw [← List.take_append_drop b (denL R' l), h3, h4, List.take_append_drop]

/-- from a function value on: its loop's record, the call, the end -/
theorem kRange2_inv {rec : Rec} (hr : RecSnd P rec) {fn : Nat} (hN : N ≤ 256) {v : V} {ps : List Nat} {assign body : Code} {F : Nat → V} {mk : List Nat} {d : Nat} {s : St} {kn : KN} {kx : KX} (hw : ∃ G, Wf s G) (h : kRange2 rec v ps assign body fn N (mk2 F) mk d s kn kx = true) :
    ∃ f b c' d' vs pend e s', v = .mk 11 f b c' d' vs ∧ endOf pend = some e ∧ goes kn kx (mk2 F) mk s' e = true ∧ Snd P (FromLp P f b vs N (mk2 F) ps assign body d pend) (fun _ _ _ => True) s s' := by
  obtain ⟨t, f, b, c', d', vs⟩ := v
  have h' : wh (Nat.beq t 11) (fresh s (.lp 0 none fn N (mk2 F) ps assign body d) (fun l s => callV rec (.mk t f b c' d' vs) [.mk 12 l 0 0 0 []] s (fun _ s => kRange3 l (mk2 F) mk kn kx s))) = true := h
  rw [wh_iff] at h'
  have ht := Nat.eq_of_beq_eq_true h'.1
  subst ht
  obtain ⟨G, hG⟩ := hw
  obtain ⟨hn, hk⟩ := fresh_eq hG _ _ h'.2
  have hG1 : Wf { s with h := mk4 (upd G s.nx (.lp 0 none fn N (mk2 F) ps assign body d)), nx := s.nx + 1 } (upd G s.nx (.lp 0 none fn N (mk2 F) ps assign body d)) := by
    refine ⟨rfl, hn, fun i hi => ?_, fun i => ?_⟩
    · have hi : s.nx + 1 ≤ i := hi
      rw [upd_other _ _ _ _ (by omega)]; exact hG.beyond i (by omega)
    · by_cases e : i = s.nx
      · rw [e, upd_same]; exact ⟨hN, F, rfl⟩
      · rw [upd_other _ _ _ _ e]; exact hG.ok i
  obtain ⟨v', s3, hk3, hs3⟩ := hr.call _ _ _ _ (callV_inv hk) ⟨_, hG1⟩
  obtain ⟨pend, e, s4, he, hgo, hs4⟩ := kRange3_inv (P := P) (hs3.wf ⟨_, hG1⟩) hk3
  exact ⟨f, b, c', d', vs, pend, e, s4, rfl, he, hgo, fromLp_snd hG hn hN (callEnd_snd hs3 hs4)⟩

theorem range_snd {rec : Rec} (hr : RecSnd P rec) {g : Operand} {gf : Tm → (V → Bool) → Bool} (hx : acc g = some ⟨gf⟩) (hok : OpOk P g) (hN : N ≤ 256) {fn : Nat} {ps : Array Tmp} {assign body : Code} :
    CodeSnd P ro N (.rangeFunc g ps assign body) (fun T mk s kn kx => gf T (fun v => kRangeF fn N ps.toList assign body rec ro v T mk s kn kx)) := by
  intro F mk s kn kx h hw
  obtain ⟨v, hv, hden⟩ := acc_snd hx h hok
  obtain ⟨G, hG⟩ := hw
  have stable : ∀ (D D' : Nat → Prop) (R R' : Ren) (a : Act), (ARep ro N D R F mk a ∧ Glob P D R) → (∀ i, D i → D' i) → Agr D R R' → (ARep ro N D' R' F mk a ∧ Glob P D' R') := fun D D' R R' a q hs ha => ⟨q.1.more hs ha, q.2.more hs ha⟩
  cases ro with
  | none =>
    obtain ⟨hn, hk⟩ := fresh_eq hG _ _ (show fresh s .dfr (fun d s => kRange2 rec v ps.toList assign body fn N (mk2 F) (d :: mk) d s kn kx) = true from hv)
    have hG1 : Wf { s with h := mk4 (upd G s.nx .dfr), nx := s.nx + 1 } (upd G s.nx .dfr) := by
      refine ⟨rfl, hn, fun i hi => ?_, fun i => ?_⟩
      · have hi : s.nx + 1 ≤ i := hi
        rw [upd_other _ _ _ _ (by omega)]; exact hG.beyond i (by omega)
      · by_cases e : i = s.nx
        · rw [e, upd_same]; trivial
        · rw [upd_other _ _ _ _ e]; exact hG.ok i
    obtain ⟨f, b, c', d', vs, pend, e, s', rfl, he, hgo, hs⟩ := kRange2_inv hr hN ⟨_, hG1⟩ hk
    have hD := fromD_snd (dfr_snd (P := P) hG hn) (fun D R w K K' h hh => h _ _ hh) hs
    have mD : Mono (FromDfr P f b vs N (mk2 F) ps.toList assign body pend NewDfr) := fun D R w K K' h hh lr xs h1 h2 h3 h4 h5 h6 h7 hx hgl => (hh lr xs h1 h2 h3 h4 h5 h6 h7 hx hgl).mono fun w q => h _ _ q
    refine ⟨e, F, s.nx :: mk, s', hgo, (Snd.carry (fun D R a => ARep none N D R F mk a ∧ Glob P D R) stable hD mD).weakM (fun D R w K K' h hh a ha => mD _ _ _ _ _ (fun x w q => h _ _ q) (hh a ha))
      (fun x => (e, { x.1 with defers := [{ target := .collected x.2.1, args := #[] }] ++ x.1.defers })) (fun D R w K hh a ha hgl => ?_) fun D R x hq => ⟨rfl, hq.1.1.size, hq.1.1.slots, ?_, ?_, hq.1.1.ro⟩⟩
    · have hev := hden D R a.tmps ha.slots hgl
      have hev2 : a.eval g = .func (.func f) ((denL R vs).take b).toArray ((denL R vs).drop b).toArray := by
        have := hev R (Agr.refl _ _)
        rw [evalT_eq] at this
        rw [← this]
        simp only [den]
      refine range_run (xs := denL R vs) he hev2 fun fn' => ⟨_, run_enterLoop_outer fn' a.tmps ps assign body, ?_⟩
      have h1 := hh a ⟨ha, hgl⟩ { state := .ready, pending := none, fn := fn', tmps := a.tmps, params := ps, assign, body, defers := w.heap.size } (denL R vs) rfl rfl ⟨ha.size, hN, F, rfl, ha.slots⟩ rfl rfl rfl rfl (denL_of_func hev) hgl
      have hsz : (w.alloc (.deferred (some []))).heap.size = w.heap.size + 1 := by simp
      rw [hsz] at h1
      exact h1.mono fun w q => q.2
    · show _ :: x.1.defers = _
      rw [hq.1.1.defers, List.map_cons]
      unfold markD
      rw [hq.2.2]
    · intro m hm
      rcases List.mem_cons.1 hm with q | q
      · subst q; exact hq.2.1
      · exact hq.1.1.marks m q
  | some l =>
    obtain ⟨hl, st, pend0, fn0, N0, T0, ps0, as0, bd0, d, hb, hk⟩ := loopK_inv hG (show loopK s l (fun _ _ _ _ _ _ _ _ d s => kRange2 rec v ps.toList assign body fn N (mk2 F) mk d s kn kx) = true from hv)
    have hG1 : Wf { s with r := s.r ||| mask l } G := ⟨hG.h, hG.nx, hG.beyond, hG.ok⟩
    obtain ⟨f, b, c', d', vs, pend, e, s', rfl, he, hgo, hs⟩ := kRange2_inv hr hN ⟨_, hG1⟩ hk
    have mR : Mono (ReadD P l) := fun D R w K K' h ⟨r, q1, q2⟩ => ⟨r, q1, h _ _ q2⟩
    have hD := fromD_snd (readD_snd (P := P) hG hl hb) mR hs
    have mD : Mono (FromDfr P f b vs N (mk2 F) ps.toList assign body pend (ReadD P l)) := fun D R w K K' h hh => mR _ _ _ _ _ (fun r w q lr xs h1 h2 h3 h4 h5 h6 h7 hx hgl => (q lr xs h1 h2 h3 h4 h5 h6 h7 hx hgl).mono fun w q => h _ _ q) hh
    refine ⟨e, F, mk, s', hgo, (Snd.carry (fun D R a => ARep (some l) N D R F mk a ∧ Glob P D R) stable hD mD).weakM (fun D R w K K' h hh a ha => mD _ _ _ _ _ (fun x w q => h _ _ q) (hh a ha))
      (fun x => (e, x.1)) (fun D R w K hh a ha hgl => ?_) fun D R x hq => ⟨rfl, hq.1.1⟩⟩
    have hev := hden D R a.tmps ha.slots hgl
    have hev2 : a.eval g = .func (.func f) ((denL R vs).take b).toArray ((denL R vs).drop b).toArray := by
      have := hev R (Agr.refl _ _)
      rw [evalT_eq] at this
      rw [← this]
      simp only [den]
    obtain ⟨r₀, hr₀, h1⟩ := hh a ⟨ha, hgl⟩
    refine range_run (ro' := some (R.at_ l)) (xs := denL R vs) he hev2 fun fn' => ⟨_, run_enterLoop_inner hr₀ fn' a.tmps ps assign body, ?_⟩
    have h2 := h1 { state := .ready, pending := none, fn := fn', tmps := a.tmps, params := ps, assign, body, defers := r₀.defers } (denL R vs) rfl rfl ⟨ha.size, hN, F, rfl, ha.slots⟩ rfl rfl rfl rfl (denL_of_func hev) hgl
    exact h2.mono fun w q => q.2
end Go.Ev
/- Code as a whole, calls, rounds: the reckoning is right. -/
namespace Go.Ev
variable {P : Program} {E : Env} {N : Nat}

theorem codeC_snd (hE : EnvOk P E) (hN : N ≤ 256) {rec : Rec} (hr : RecSnd P rec) (hops : ∀ o c, opX E o.op = some c → OpSnd P none o (c.f rec)) {fn : Nat} :
    ∀ (c : Code) (cc : CC), codeC E fn N c = some cc → ∀ ro, CodeSnd P ro N c (fun T mk s kn kx => cc.f rec ro T mk s kn kx) := by
  have okO : ∀ x : Operand, okL E.ng [x] = true → OpOk P x := fun x h => okL_inv hE.ng [x] h x (by simp)
  intro c
  induction c with
  | skip => intro cc h ro; cases h; exact skip_snd
  | region id ops draw =>
    intro cc h ro
    cases draw with
    | true =>
      have h' : (match opsD E N ops ops.toList 0 [] [] with | some ⟨f⟩ => some (⟨fun rec _ T mk s kn _ => f rec [] T s (fun T s => kn T mk s)⟩ : CC) | none => none) = some cc := h
      cases hd : opsD E N ops ops.toList 0 [] [] with
      | none => rw [hd] at h'; cases h'
      | some q =>
        rw [hd] at h'
        obtain ⟨f⟩ := q
        cases h'
        exact regionD_snd hE.mixed hN (fun o _ c hc => hops o c hc) hd
    | false =>
      have h' : (match opsC E N ops.toList ops.toList with | some ⟨f⟩ => some (⟨fun rec _ T mk s kn _ => f rec T s (fun T s => kn T mk s)⟩ : CC) | none => none) = some cc := h
      cases hd : opsC E N ops.toList ops.toList with
      | none => rw [hd] at h'; cases h'
      | some q =>
        rw [hd] at h'
        obtain ⟨f⟩ := q
        cases h'
        exact region_snd hN (fun o _ c hc => hops o c hc) hd
  | seq a b iha ihb =>
    intro cc h ro
    have h' : (match codeC E fn N a with
      | some ⟨f⟩ => (match codeC E fn N b with | some ⟨g⟩ => some (⟨fun rec ro T mk s kn kx => f rec ro T mk s (fun T mk s => g rec ro T mk s kn kx) kx⟩ : CC) | none => none)
      | none => none) = some cc := h
    split at h'
    · rename_i f ha
      split at h'
      · rename_i g hb
        cases h'
        exact seq_snd (f := f rec ro) (g := g rec ro) (iha _ ha ro) (ihb _ hb ro)
      · cases h'
    · cases h'
  | cond x a b iha ihb =>
    intro cc h ro
    have h' : (match (match okL E.ng [x] with | true => acc x | false => none) with
      | some ⟨x⟩ => (match codeC E fn N a with
        | some ⟨f⟩ => (match codeC E fn N b with
          | some ⟨g⟩ => some (⟨fun rec ro T mk s kn kx => x T (fun v => kCond v (f rec ro T mk s kn kx) (g rec ro T mk s kn kx))⟩ : CC)
          | none => none)
        | none => none)
      | none => none) = some cc := h
    split at h'
    · rename_i fx hx
      split at hx
      · rename_i hok
        split at h'
        · rename_i f ha
          split at h'
          · rename_i g hb
            cases h'
            exact cond_snd (f := f rec ro) (g := g rec ro) hx (okO x hok) (iha _ ha ro) (ihb _ hb ro)
          · cases h'
        · cases h'
      · cases hx
    · cases h'
  | block id a iha =>
    intro cc h ro
    have h' : (match codeC E fn N a with | some ⟨f⟩ => some (⟨fun rec ro T mk s kn kx => f rec ro T mk s kn (kBlock id kn kx)⟩ : CC) | none => none) = some cc := h
    split at h'
    · rename_i f ha
      cases h'
      exact block_snd (f := f rec ro) (iha _ ha ro)
    · cases h'
  | loop a iha =>
    intro cc h ro
    have h' : (match codeC E fn N a with | some ⟨f⟩ => some (⟨fun rec ro T mk s _ kx => kLoop (fun T mk s kn => f rec ro T mk s kn kx) 65536 T mk s⟩ : CC) | none => none) = some cc := h
    split at h'
    · rename_i f ha
      cases h'
      exact loop_snd (f := f rec ro) (iha _ ha ro)
    · cases h'
  | rangeFunc g ps assign body _ _ =>
    intro cc h ro
    have h' : (match (match okL E.ng [g] with | true => acc g | false => none) with
      | some ⟨g⟩ => some (⟨fun rec ro T mk s kn kx => g T (fun v => kRangeF fn N ps.toList assign body rec ro v T mk s kn kx)⟩ : CC)
      | none => none) = some cc := h
    split at h'
    · rename_i gf hx
      split at hx
      · rename_i hok
        cases h'
        exact range_snd hr hx (okO g hok) hN
      · cases hx
    · cases h'
  | exit id => intro cc h ro; cases h; exact exit_snd
  | scope a iha => intro cc h ro; exact scope_snd (iha cc h ro)
  | label l => intro cc h ro; cases h; exact label_snd
  | goto l => intro cc h; cases h
  | ret => intro cc h ro; cases h; exact ret_snd
  | refuse w => intro cc h; cases h

/-! ### what a function answers -/
def LoadC (P : Program) (t : TypeId) (v : V) : Comp Value := fun D R w K => ∀ xv, Den D R v xv → ∃ a y, xv = .pointer (some a) ∧ (loadVar t a).run P w = .ok y w ∧ K y w
theorem LoadC.mono {t : TypeId} {v : V} : Mono (LoadC P t v) := fun _ _ _ _ _ h hh xv hx => let ⟨a, y, h1, h2, h3⟩ := hh xv hx; ⟨a, y, h1, h2, h _ _ h3⟩

theorem loadV_snd {t : TypeId} (hE : EnvOk P E) {n : Nat} {g : Bool} {z : List V} {kd : AKind} (hty : E.ty t = some ⟨n, g, z, kd⟩) {v : V} {s : St} {K : KV} (hk : kLoad g n v s K = true) (hw : ∃ G, Wf s G) :
    ∃ r s', K r s' = true ∧ Snd P (LoadC P t v) (ValQ r) s s' := by
  obtain ⟨G, hG⟩ := hw
  have hT := hE.ty t _ hty
  obtain ⟨tt, id, off, c', d', l'⟩ := v
  unfold kLoad at hk
  rw [vB_eq, wh_iff] at hk
  obtain ⟨ht, hk⟩ := hk
  have ht := Nat.eq_of_beq_eq_true ht
  subst ht
  obtain ⟨hid, hk⟩ := look_eq hG id _ hk
  obtain ⟨cs, oo, q, hk, hdead, hrep, _⟩ := cellsK_inv (P := P) (hG.ok id) hk
  obtain ⟨r, hr, hpart⟩ := partK_inv hk
  refine ⟨r, _, hr, Snd.read hid (fun G' hG' => ?_) (fun G' hG' D R w hD hlt hb xv hρ => ?_) LoadC.mono⟩
  · have e := mk4_inj (hG'.h.symm.trans hG.h) id (Nat.lt_of_lt_of_le hid hG.nx)
    rw [Al, e]; exact hdead
  · have e := mk4_inj (hG'.h.symm.trans hG.h) id (Nat.lt_of_lt_of_le hid hG.nx)
    rw [e] at hb
    obtain ⟨c, el, lo, hi, pre, xs, post, har⟩ := hrep D R id _ hb
    have hv : xv = .pointer (some ⟨R.at_ id, R.base id + off, none⟩) := by
      have := hρ R (Agr.refl _ _); simp only [den] at this; exact this.symm
    have hxs : ∀ R', Agr D R R' → cellsOf R' cs = xs := har.den
    rcases hpart with ⟨rfl, hg⟩ | ⟨rfl, l, rfl, hg⟩
    · have hval : xs[oo + 0]? = some (den R r) := by rw [← hxs R (Agr.refl _ _)]; exact hg R
      have hcell := har.cell hval
      rw [Nat.add_zero] at hcell
      refine ⟨_, den R r, hv, ?_, rfl, fun R' ha => ?_⟩
      · have hagg := congrFun hT.agg w
        simp only [loadVar, Sem.run_bind, Result.andThen, hagg]
        simp [run_load, hcell]
      · have h1 := hg R'
        rw [hxs R' ha] at h1
        have h2 := hg R
        rw [hxs R (Agr.refl _ _)] at h2
        rw [h1] at h2
        exact Option.some.inj h2
    · refine ⟨_, .agg ((xs.drop oo).take n).toArray, hv, ?_, rfl, fun R' ha => ?_⟩
      · have hagg := congrFun hT.agg w
        have hlen : oo + n ≤ xs.length := by have := (hg R).2; rw [hxs R (Agr.refl _ _)] at this; exact this
        have hcells : (loadCells ⟨R.at_ id, R.base id + off, none⟩ n).run P w = .ok ((xs.drop oo).take n).toArray w := by
          have hl : ((xs.drop oo).take n).length = n := by simp; omega
          have := run_loadCells_list (P := P) w ⟨R.at_ id, R.base id + off, none⟩ ((xs.drop oo).take n) (fun j v hj => by
            have hj' : xs[oo + j]? = some v := by
              rw [List.getElem?_take] at hj
              split at hj
              · rw [List.getElem?_drop] at hj; exact hj
              · cases hj
            have hc := har.cell hj'
            unfold Addr.add
            split
            · rename_i hz; subst hz; simpa using hc
            · exact hc)
          rw [hl] at this
          exact this
        simp only [loadVar, Sem.run_bind, Result.andThen, hagg]
        have hsz := hT.size w
        simp [hsz, hcells, Result.andThen]
      · simp only [den]
        rw [(hg R').1, hxs R' ha]

/-- the results, one by one -/
def resM (tmps : Array Value) : ResultVar → Sem Value
  | .tmp t => pure (tmps.getD t undef)
  | .cell a t => do loadVar t (← asAddr (tmps.getD a undef))
def ResC (P : Program) (rs : List ResultVar) (F : Nat → V) : Comp (List Value) := fun D R w K => ∀ tmps, Slots D R F tmps → ∃ xs, (rs.mapM (resM tmps)).run P w = .ok xs w ∧ K xs w
theorem ResC.mono {rs : List ResultVar} {F : Nat → V} : Mono (ResC P rs F) := fun _ _ _ _ _ h hh tmps hs => let ⟨xs, h1, h2⟩ := hh tmps hs; ⟨xs, h1, h _ _ h2⟩

theorem acc_tmp {t : Nat} {f : Tm → (V → Bool) → Bool} (hx : acc (.tmp t) = some ⟨f⟩) : t < 256 ∧ ∀ F K, f (mk2 F) K = K (F t) := by
  unfold acc at hx
  simp only at hx
  split at hx
  · rename_i ht
    have ht2 : t < 256 := Nat.lt_succ_of_le (Nat.le_of_ble_eq_true ht)
    have e : f = (slot t : Slot V).g := by
      revert hx
      generalize (slot t : Slot V) = q
      obtain ⟨g, p⟩ := q
      intro hx; cases hx; rfl
    exact ⟨ht2, fun F K => by rw [e, slot_g F K t ht2]⟩
  · cases hx

theorem DenL.cons {D : Nat → Prop} {R : Ren} {v : V} {x : Value} {vs : List V} {xs : List Value} (h : Den D R v x) (hs : DenL D R vs xs) : DenL D R (v :: vs) (x :: xs) := by
  intro R' ha
  simp only [denL, h R' ha, hs R' ha]

theorem res_snd (hE : EnvOk P E) (F : Nat → V) : ∀ (rs : List ResultVar) (f : ResC_), resultC E rs = some f → ∀ s K, f.f (mk2 F) s K = true → (∃ G, Wf s G) → ∃ vs s', K vs s' = true ∧ Snd P (ResC P rs F) (fun D R xs => DenL D R vs xs) s s' := by
  intro rs
  induction rs with
  | nil =>
    intro f hf s K h hw
    cases hf
    refine ⟨[], s, h, Snd.pure (fun D R w tmps hs => ⟨[], rfl, rfl, fun R' _ => by simp [denL]⟩) ResC.mono⟩
  | cons x rs ih =>
    intro f hf s K h hw
    cases hr : resultC E rs with
    | none =>
      have hf' : (match resultC E rs with | some ⟨_⟩ => some f | none => none) = some f := by
        have h0 : resultC E (x :: rs) = none := by
          show (match resultC E rs with | some ⟨h⟩ => _ | none => none) = none
          rw [hr]
        rw [h0] at hf; cases hf
      rw [hr] at hf'; cases hf'
    | some q =>
      obtain ⟨hfn⟩ := q
      cases x with
      | tmp t =>
        have hf' : (match resultC E rs with
          | some ⟨h⟩ => (match acc (.tmp t) with | some ⟨f⟩ => some (⟨fun T s K => f T (fun v => h T s (fun r s => K (v :: r) s))⟩ : ResC_) | none => none)
          | none => none) = some f := hf
        rw [hr] at hf'
        simp only at hf'
        cases ha : acc (.tmp t) with
        | none => rw [ha] at hf'; cases hf'
        | some q =>
          obtain ⟨fx⟩ := q
          rw [ha] at hf'
          cases hf'
          obtain ⟨ht, hfx⟩ := acc_tmp ha
          have h : fx (mk2 F) (fun v => hfn (mk2 F) s (fun r s => K (v :: r) s)) = true := h
          rw [hfx] at h
          obtain ⟨vs, s', hK, hs⟩ := ih _ hr s _ h hw
          refine ⟨F t :: vs, s', hK, ?_⟩
          intro G hG
          obtain ⟨G', rm, wm, m, run⟩ := hs G hG
          refine ⟨G', rm, wm, m, fun D R w hD hpre tmps hsl => ?_⟩
          obtain ⟨xs, h1, R', hp, hx⟩ := run D R w hD hpre tmps hsl
          exact ⟨tmps.getD t undef :: xs, by simp only [List.mapM_cons, resM, Sem.run_bind, Sem.run_pure, Result.andThen, h1], R', hp, DenL.cons ((hsl t ht).more Plus.sub (hp.agr hD)) hx⟩
      | cell a t =>
        have hf' : (match resultC E rs with
          | some ⟨h⟩ => (match E.ty t with
            | some ⟨n, g, _, _⟩ => (match acc (.tmp a) with
              | some ⟨f⟩ => some (⟨fun T s K => f T (fun v => kLoad g n v s (fun v s => h T s (fun r s => K (v :: r) s)))⟩ : ResC_)
              | none => none)
            | none => none)
          | none => none) = some f := hf
        rw [hr] at hf'
        simp only at hf'
        cases hty : E.ty t with
        | none => rw [hty] at hf'; cases hf'
        | some y =>
          obtain ⟨n, g, z, kd⟩ := y
          rw [hty] at hf'
          simp only at hf'
          cases ha : acc (.tmp a) with
          | none => rw [ha] at hf'; cases hf'
          | some q =>
            obtain ⟨fx⟩ := q
            rw [ha] at hf'
            cases hf'
            obtain ⟨ht, hfx⟩ := acc_tmp ha
            have h : fx (mk2 F) (fun v => kLoad g n v s (fun v s => hfn (mk2 F) s (fun r s => K (v :: r) s))) = true := h
            rw [hfx] at h
            obtain ⟨r, s1, h1, hs1⟩ := loadV_snd hE hty h hw
            obtain ⟨vs, s', hK, hs⟩ := ih _ hr s1 _ h1 (hs1.wf hw)
            have hc := Snd.carry (fun D R (y : Value) => Den D R r y) (fun D D' R R' y q hs ha => q.more hs ha) hs ResC.mono
            have ht2 := Snd.then (k := fun D R y w₁ K => ∀ tmps, Slots D R F tmps → ∃ xs, (rs.mapM (resM tmps)).run P w₁ = .ok xs w₁ ∧ K (y, xs) w₁) hs1 hc LoadC.mono (fun D R w K K' h hh y hy => ResC.mono _ _ _ _ _ (fun x w q => h _ _ q) (hh y hy))
              (fun D R D' R' w K y ag hsub hq hh tmps hsl => hh y hq tmps fun t ht => (hsl t ht).more hsub ag)
            refine ⟨r :: vs, s', hK, ht2.weakM (fun D R w K K' h hh => LoadC.mono _ _ _ _ _ (fun y w q tmps hsl => let ⟨xs, q1, q2⟩ := q tmps hsl; ⟨xs, q1, h _ _ q2⟩) hh) (fun x => x.1 :: x.2) (fun D R w K hh tmps hsl => ?_) fun D R x q => DenL.cons q.1 q.2⟩
            obtain ⟨ad, y, e1, e2, e3⟩ := hh (tmps.getD a undef) (hsl a ht)
            obtain ⟨xs, q1, q2⟩ := e3 tmps hsl
            refine ⟨y :: xs, ?_, q2.2⟩
            simp only [List.mapM_cons, resM, Sem.run_bind, e1, asAddr, Sem.run_pure, Result.andThen, e2, q1]

/-! ### leaving a function -/
def LeaveC (P : Program) (fn : Func) (F : Nat → V) (mk : List Nat) : Comp Value := fun D R w K => ∀ tmps, Slots D R F tmps → (∀ m ∈ mk, D m) → LeavesInM (Fr none) 0 P fn tmps (gives K) (mk.map (markD R)) .returning w
theorem leavesM_mono {fn : Func} {tmps : Array Value} {K K' : Value → World → Prop} (h : ∀ v w, K v w → K' v w) : ∀ (mk : List Nat) (R : Ren) (w : World), LeavesInM (Fr none) 0 P fn tmps (gives K) (mk.map (markD R)) .returning w → LeavesInM (Fr none) 0 P fn tmps (gives K') (mk.map (markD R)) .returning w
  | [], _, _, hh => let ⟨v, h1, h2⟩ := hh; ⟨v, h1, h _ _ h2⟩
  | m :: mk, R, w, hh => by
    refine ⟨hh.1, ?_⟩
    rcases hh.2 with ⟨r, w', h1, h2, h3⟩ | ⟨_, fv, cap, f, args, h1, _⟩
    · exact .inl ⟨r, w', h1, h2, leavesM_mono h mk R w' h3⟩
    · simp [markD] at h1
theorem LeaveC.mono {fn : Func} {F : Nat → V} {mk : List Nat} : Mono (LeaveC P fn F mk) := fun _ R w _ _ h hh tmps hs hm => leavesM_mono h mk R w (hh tmps hs hm)

def single (vs : List V) : V := match vs with | [v] => v | l => .mk 15 0 0 0 0 l
theorem resK_eq (K : KV) (vs : List V) (s : St) : resK K vs s = K (single vs) s := by
  cases vs with
  | nil => rfl
  | cons v l => cases l <;> rfl

def oneOf (xs : List Value) : Value := match xs with | [x] => x | l => .tuple l.toArray
theorem results_run {fn : Func} {tmps : Array Value} {w : World} {xs : List Value} (h : (fn.results.toList.mapM (resM tmps)).run P w = .ok xs w) : (results fn tmps).run P w = .ok (oneOf xs) w := by
  have e : (fn.results.mapM (resM tmps)) = List.toArray <$> fn.results.toList.mapM (resM tmps) := Array.mapM_eq_mapM_toList ..
  have hm : (fn.results.mapM (resM tmps)).run P w = .ok xs.toArray w := by
    rw [e, map_eq_pure_bind]
    simp only [Sem.run_bind, h, Result.andThen, Sem.run_pure]
  have hr : results fn tmps = (do let vs ← fn.results.mapM (resM tmps); pure (if h : vs.size = 1 then vs[0] else .tuple vs)) := by
    unfold results
    first | rfl | (congr 1; done) | (congr 1; congr 1; funext x; cases x <;> rfl)
  rw [hr]
  simp only [Sem.run_bind, hm, Result.andThen, Sem.run_pure]
  congr 1
  cases xs with
  | nil => rfl
  | cons x l =>
    cases l with
    | nil => rfl
    | cons y l => simp; rfl

theorem leave_snd (hE : EnvOk P E) {fn : Func} {rc : ResC_} (hrs : resultC E fn.results.toList = some rc) {F : Nat → V} {K : KV} : ∀ (mk : List Nat) (s : St), unmark mk s (fun s => rc.f (mk2 F) s (resK K)) = true → (∃ G, Wf s G) →
    ∃ v s', K v s' = true ∧ Snd P (LeaveC P fn F mk) (ValQ v) s s' := by
  intro mk
  induction mk with
  | nil =>
    intro s h hw
    obtain ⟨vs, s', hK, hs⟩ := res_snd (P := P) hE F _ _ hrs s _ h hw
    rw [resK_eq] at hK
    refine ⟨single vs, s', hK, hs.weakM ResC.mono oneOf (fun D R w K hh tmps hsl _ => ?_) fun D R xs q => ?_⟩
    · obtain ⟨xs, h1, h2⟩ := hh tmps hsl
      refine ⟨_, results_run h1, ?_⟩
      exact h2.2
    · intro R' ha
      have := q R' ha
      cases vs with
      | nil => simp [denL] at this; subst this; simp [single, den, denL]; rfl
      | cons v l =>
        cases l with
        | nil => simp [denL] at this; subst this; rfl
        | cons u l =>
          simp only [denL] at this
          subst this
          simp [single, den, denL]; rfl
  | cons m mk ih =>
    intro s h hw
    obtain ⟨G, hG⟩ := hw
    obtain ⟨hm, hk⟩ := look_eq hG m _ (show look s m (fun b s => match b with | .dfr => lay s m .dead (fun s => unmark mk s (fun s => rc.f (mk2 F) s (resK K))) | _ => false) = true from h)
    cases hb : G m with
    | dfr =>
      rw [hb] at hk
      have hk := lay_ok hG hk
      have hs1 := take_snd (P := P) hG hm hb
      obtain ⟨v, s', hK, hs⟩ := ih _ hk (hs1.wf ⟨G, hG⟩)
      refine ⟨v, s', hK, Snd.weak (Snd.then (k := fun D R _ w₁ K => ∀ tmps, Slots D R F tmps → (∀ m ∈ mk, D m) → LeavesInM (Fr none) 0 P fn tmps (gives K) (mk.map (markD R)) .returning w₁) hs1 hs (fun D R w K K' h ⟨w', q1, q2⟩ => ⟨w', q1, h _ _ q2⟩) LeaveC.mono ?_) ?_ ?_ (fun _ _ _ h => h)⟩
      · intro D R D' R' w K x ag hsub _ hh tmps hsl hmk
        have := hh tmps (fun t ht => (hsl t ht).more hsub ag) (fun m hm => hsub m (hmk m hm))
        have e : mk.map (markD R') = mk.map (markD R) := List.map_congr_left fun m hm => by unfold markD; rw [(ag m (hmk m hm)).1]
        rwa [e] at this
      · exact fun D R w K K' h ⟨w', q1, q2⟩ => ⟨w', q1, fun tmps hsl hmk => leavesM_mono h mk R _ (q2 tmps hsl hmk)⟩
      · intro D R w K ⟨w', q1, q2⟩ tmps hsl hmk
        exact ⟨by simp, .inl ⟨_, w', rfl, q1, q2 tmps hsl fun m hm => hmk m (by simp [hm])⟩⟩
    | _ => rw [hb] at hk; cases hk
end Go.Ev
/- Calls, rounds, and the whole. -/
namespace Go.Ev
variable {P : Program} {E : Env}

/-- the arguments in the first slots -/
def fill (args : List V) (i : Nat) (F : Nat → V) : Nat → V := fun t => if i ≤ t ∧ t < i + args.length then args.getD (t - i) und else F t
theorem ofArgs_eq : ∀ (args : List V) (i : Nat) (F : Nat → V) (k : Tm → Bool), i + args.length ≤ 256 → ofArgs args i (mk2 F) k = k (mk2 (fill args i F)) := by
  intro args
  induction args with
  | nil =>
    intro i F k _
    have : fill [] i F = F := by funext t; unfold fill; rw [if_neg (by simp only [List.length_nil]; omega)]
    rw [this]; rfl
  | cons v args ih =>
    intro i F k hl
    simp only [List.length_cons] at hl
    show put2 i 0 v (mk2 F) (fun T => ofArgs args (i + 1) T k) = _
    rw [put2_mk]
    have e : i / 2 ^ 0 % 256 = i := by simp; omega
    rw [e, ih (i + 1) _ k (by omega)]
    congr 2
    funext t
    unfold fill
    simp only [List.length_cons]
    by_cases h1 : i + 1 ≤ t ∧ t < i + 1 + args.length
    · rw [if_pos h1, if_pos (by omega)]
      rw [show t - i = (t - (i + 1)) + 1 by omega, List.getD_cons_succ]
    · rw [if_neg h1]
      by_cases h2 : t = i
      · subst h2
        rw [upd_same, if_pos (by omega)]
        simp
      · rw [upd_other _ _ _ _ h2, if_neg (by omega)]

theorem lengthV_eq (l : List V) : lengthV l = l.length := by
  induction l with
  | nil => rfl
  | cons x l ih => show Nat.add (lengthV l) 1 = _; rw [ih]; rfl

theorem funC_inv (hE : EnvOk P E) {f : Nat} {fc : FC} (h : funC E f = some fc) : ∃ fn c cc rc, P.funcs[f]? = some fn ∧ (fn.name == "runtime.NumGoroutine") = false ∧ fn.body = some c ∧ fn.ntmps = fc.N ∧ fc.N ≤ 256 ∧ codeC E f fc.N c = some cc ∧ cc.f = fc.f ∧ resultC E fn.results.toList = some rc ∧ rc.f = fc.r := by
  cases hfn : E.fn f with
  | none => simp only [funC, hfn] at h; cases h
  | some fn =>
    have q1 := hE.fn f _ hfn
    have q2 := hE.name f _ hfn
    obtain ⟨b1, b2, b3, b4, b5, b6, N, rs, body, b10, b11, b12, b13, b14, b15, b16⟩ := fn
    simp only [funC, hfn] at h
    cases body with
    | none => cases h
    | some c =>
      simp only at h
      cases hN : Nat.ble N 256 with
      | false => rw [hN] at h; cases h
      | true =>
        rw [hN] at h
        simp only at h
        cases hk : codeC E f N c with
        | none => rw [hk] at h; cases h
        | some k =>
          obtain ⟨k⟩ := k
          rw [hk] at h
          simp only at h
          cases hr : resultC E rs.toList with
          | none => rw [hr] at h; cases h
          | some r =>
            obtain ⟨r⟩ := r
            rw [hr] at h
            cases h
            exact ⟨_, c, ⟨k⟩, ⟨r⟩, q1, q2, rfl, rfl, Nat.le_of_ble_eq_true hN, hk, rfl, hr, rfl⟩

theorem run_callFunc {f : Nat} {fn : Func} {c : Code} (hf : P.funcs[f]? = some fn) (hn : (fn.name == "runtime.NumGoroutine") = false) (hb : fn.body = some c) (xs : Array Value) (w : World) : (callFunc f xs).run P w = .ok (.enter f xs) w := by
  unfold callFunc
  simp [program, Sem.run_bind, Result.andThen]
  simp [Sem.run, hf, hb]
  simp at hn
  simp [hn]

theorem call_snd (hE : EnvOk P E) {rec : Rec} (hr : RecSnd P rec) (hops : ∀ o c, opX E o.op = some c → OpSnd P none o (c.f rec)) {f : Nat} {args : List V} {s : St} {K : KV} (h : tCall E rec f args s K = true) (hw : ∃ G, Wf s G) :
    ∃ v s', K v s' = true ∧ Snd P (CallDoes P f args) (ValQ v) s s' := by
  unfold tCall at h
  split at h
  · rename_i N r k hfc
    obtain ⟨fn, c, cc, rc, h1, h2, h3, h4, h5, h6, h7, h8, h9⟩ := funC_inv hE hfc
    obtain ⟨kc⟩ := cc
    obtain ⟨kr⟩ := rc
    have h7 : kc = k := h7
    have h9 : kr = r := h9
    subst h7 h9
    rw [wh_iff, lengthV_eq] at h
    have hlen : args.length ≤ N := Nat.le_of_ble_eq_true h.1
    have hgo := h.2
    have hall : (all2 und : Tm) = mk2 fun _ => und := all2_mk und
    rw [hall, ofArgs_eq _ _ _ _ (by have : N ≤ 256 := h5; omega)] at hgo
    obtain ⟨e, F', mk', s1, hg, hs⟩ := codeC_snd hE h5 hr hops c _ h6 none _ [] s _ _ hgo hw
    have hleave : unmark mk' s1 (fun s => kr (mk2 F') s (resK K)) = true ∧ (e = .normal ∨ e = .ret) := by
      cases e with
      | normal => exact ⟨hg, .inl rfl⟩
      | ret => exact ⟨hg, .inr rfl⟩
      | exit id => cases hg
      | goto l => cases hg
      | panic c => cases hg
      | outgrown => cases hg
    obtain ⟨v, s', hK, hs'⟩ := leave_snd (P := P) hE h8 (F := F') mk' s1 hleave.1 (hs.wf hw)
    refine ⟨v, s', hK, Snd.weak (Snd.then (k := fun _ _ x w₁ K => x.1 = e ∧ ∃ Rm, x.2.defers = mk'.map (markD Rm) ∧ LeavesInM (Fr none) 0 P fn x.2.tmps (gives K) (mk'.map (markD Rm)) .returning w₁) hs hs' CodeDoes.mono LeaveC.mono ?_) ?_ ?_ (fun _ _ _ h => h)⟩
    · intro D R D' R' w K x ag hsub hq hh
      exact ⟨hq.1, R', hq.2.defers, hh x.2.tmps hq.2.slots hq.2.marks⟩
    · intro D R w K K' h hh a ha hg
      exact wpIn_mono (hh a ha hg) fun e' a' w' ⟨q1, Rm, q2, q3⟩ => ⟨q1, Rm, q2, leavesM_mono h _ _ _ q3⟩
    · intro D R w K hh xs hx hg
      have hxl : xs.length = args.length := by
        have := hx R (Agr.refl _ _)
        rw [denL_eq] at this
        rw [← this]; simp
      refine ⟨fun w => run_callFunc h1 h2 h3 _ w, callsIn_of_wp_marks h1 h3 trivial (wpIn_mono (hh { tmps := xs.toArray ++ Array.replicate (fn.ntmps - xs.toArray.size) undef, defers := [] } ⟨?_, ?_, rfl, by simp, by simp⟩ hg) ?_) rfl⟩
      · have : fn.ntmps = N := h4
        simp; omega
      · intro t ht
        unfold fill
        by_cases h1 : t < args.length
        · rw [if_pos (by omega)]
          intro R' ha
          have := hx R' ha
          rw [denL_eq] at this
          have h2 : t < xs.length := by omega
          have e : (xs.toArray ++ Array.replicate (fn.ntmps - xs.toArray.size) undef).getD t undef = xs[t] := by
            simp [Array.getD_eq_getD_getElem?, Array.getElem?_append, h2]
          rw [e]
          have h3 : xs[t] = (args.map (den R'))[t]'(by simpa using h1) := by simp only [this]
          rw [h3]
          simp [h1]
        · rw [if_neg (by omega)]
          intro R' _
          rw [den_und]
          have h2 : xs.length ≤ t := by omega
          simp [Array.getD_eq_getD_getElem?, Array.getElem?_append, h2, Array.getElem?_replicate]
          rw [if_neg (by omega)]
          split <;> rfl
      · rintro e' a' w' ⟨rfl, Rm, q2, q⟩
        rw [← q2] at q
        rcases hleave.2 with rfl | rfl <;> exact q
  · cases h
end Go.Ev
/- Rounds of loops over functions, and the whole. -/
namespace Go.Ev
variable {P : Program} {E : Env}

def setAll : List (Nat × V) → (Nat → V) → Nat → V
  | [], F => F
  | (t, v) :: l, F => setAll l (upd F t v)
theorem ofPairs_inv {N : Nat} (hN : N ≤ 256) : ∀ (l : List (Nat × V)) (F : Nat → V) (k : Tm → Bool), ofPairs N l (mk2 F) k = true → (∀ p ∈ l, p.1 < N) ∧ k (mk2 (setAll l F)) = true := by
  intro l
  induction l with
  | nil => intro F k h; exact ⟨by simp, h⟩
  | cons p l ih =>
    intro F k h
    obtain ⟨t, v⟩ := p
    have h' : wh (Nat.ble (Nat.add t 1) N) (put2 t 0 v (mk2 F) (fun T => ofPairs N l T k)) = true := h
    rw [wh_iff, put2_mk] at h'
    have ht : t < N := Nat.le_of_ble_eq_true h'.1
    have e : t / 2 ^ 0 % 256 = t := by simp; omega
    rw [e] at h'
    obtain ⟨h1, h2⟩ := ih _ k h'.2
    refine ⟨fun p hp => ?_, h2⟩
    rcases List.mem_cons.1 hp with q | q
    · subst q; exact ht
    · exact h1 p q

theorem slots_setAll {N : Nat} {D : Nat → Prop} {R : Ren} : ∀ (ps : List Nat) (vs : List V) (xs : List Value) (F : Nat → V) (tmps : Array Value), (∀ p ∈ ps.zip vs, p.1 < N) → tmps.size = N → DenL D R vs xs → Slots D R F tmps →
    Slots D R (setAll (ps.zip vs) F) ((ps.zip xs).foldl (fun tmps (p : Nat × Value) => tmps.setIfInBounds p.1 p.2) tmps) := by
  intro ps
  induction ps with
  | nil => intro vs xs F tmps _ _ _ h; exact h
  | cons p ps ih =>
    intro vs xs F tmps hp hs hx h
    cases vs with
    | nil =>
      have : xs = [] := by have := hx R (Agr.refl _ _); simpa [denL] using this.symm
      subst this; exact h
    | cons v vs =>
      cases xs with
      | nil => have := hx R (Agr.refl _ _); simp [denL] at this
      | cons x xs =>
        have hv : Den D R v x := fun R' ha => by have := hx R' ha; simp only [denL, List.cons.injEq] at this; exact this.1
        have hvs : DenL D R vs xs := fun R' ha => by have := hx R' ha; simp only [denL, List.cons.injEq] at this; exact this.2
        have hpN : p < N := hp (p, v) (by simp)
        refine ih vs xs (upd F p v) (tmps.setIfInBounds p x) (fun q hq => hp q (by simp [hq])) (by simp [hs]) hvs fun t ht => ?_
        by_cases e : t = p
        · subst e
          rw [upd_same]
          have : t < tmps.size := by omega
          simp only [Array.getD_eq_getD_getElem?, Array.getElem?_setIfInBounds_self_of_lt this, Option.getD_some]
          exact hv
        · rw [upd_other _ _ _ _ e]
          have := h t ht
          simp only [Array.getD_eq_getD_getElem?, Array.getElem?_setIfInBounds_ne (Ne.symm e)] at this ⊢
          exact this
theorem setAll_size : ∀ (l : List (Nat × Value)) (tmps : Array Value), (l.foldl (fun tmps (p : Nat × Value) => tmps.setIfInBounds p.1 p.2) tmps).size = tmps.size := by
  intro l
  induction l with
  | nil => intro _; rfl
  | cons p l ih => intro tmps; rw [List.foldl_cons, ih]; simp

/-! ### the pieces of a round -/
def ReadL (_P : Program) (l : Nat) : Comp Loop := fun _ R w K => ∃ lr : Loop, w.heap[R.at_ l]? = some (.loop lr) ∧ K lr w
theorem ReadL.mono {l : Nat} : Mono (ReadL P l) := fun _ _ _ _ _ h ⟨lr, h1, h2⟩ => ⟨lr, h1, h _ _ h2⟩
theorem readL_snd {s : St} {G : Nat → HB} (hG : Wf s G) {l : Nat} (hl : l < s.nx) {st : Nat} {pend : Option Code} {fn N : Nat} {T : Tm} {ps : List Nat} {assign body : Code} {d : Nat} (hb : G l = .lp st pend fn N T ps assign body d) :
    Snd P (ReadL P l) (fun D R lr => D l ∧ LRep D R st pend N T ps assign body d lr) s { s with r := s.r ||| mask l } := by
  refine Snd.read hl (fun G' hG' => by rw [wf_unique hG hG', Al, hb]; simp) (fun G' hG' D R w hd hlt hr => ?_) ReadL.mono
  rw [wf_unique hG hG', hb] at hr
  obtain ⟨lr, ho, h⟩ := hr
  exact ⟨lr, ho, rfl, hd, h⟩

def BeginC (P : Program) (l : Nat) : Comp Unit := fun _ R w K => ∃ w', (Instr.beginRound (R.at_ l)).run P w = .ok () w' ∧ K () w'
theorem BeginC.mono {l : Nat} : Mono (BeginC P l) := fun _ _ _ _ _ h ⟨lr, h1, h2⟩ => ⟨lr, h1, h _ _ h2⟩
theorem begin_snd {s : St} {G : Nat → HB} (hG : Wf s G) {l : Nat} (hl : l < s.nx) {pend : Option Code} {fn N : Nat} {T : Tm} {ps : List Nat} {assign body : Code} {d : Nat} (hb : G l = .lp 0 pend fn N T ps assign body d) :
    Snd P (BeginC P l) (fun _ _ _ => True) s { s with h := mk4 (upd G l (.lp 1 pend fn N T ps assign body d)), r := s.r ||| mask l, w := s.w ||| mask l } := by
  have hok := hG.ok l
  rw [hb] at hok
  refine Snd.loopW hG hl hb hok BeginC.mono fun D R w lr hr ho => ?_
  obtain ⟨h1, h2, h3, h4, h5, h6, h7, h8⟩ := hr
  have hst : lr.state = .ready := by
    cases hs : lr.state <;> rw [hs] at h1 <;> first | rfl | cases h1
  exact ⟨.loop { lr with state := .busy }, (), ⟨_, rfl, rfl, h2, h3, h4, h5, h6, h7, h8⟩, trivial, fun K hK => ⟨_, run_beginRound ho hst, hK⟩⟩

def EndRC (P : Program) (l : Nat) (jump : Option Code) : Comp Unit := fun _ R w K => ∃ w', (Instr.endRound (R.at_ l) jump).run P w = .ok (.bool jump.isNone) w' ∧ K () w'
theorem EndRC.mono {l : Nat} {jump : Option Code} : Mono (EndRC P l jump) := fun _ _ _ _ _ h ⟨lr, h1, h2⟩ => ⟨lr, h1, h _ _ h2⟩
theorem endR_snd {s : St} {G : Nat → HB} (hG : Wf s G) {l : Nat} (hl : l < s.nx) {st : Nat} {pend : Option Code} {fn N : Nat} {T : Tm} {ps : List Nat} {assign body : Code} {d : Nat} (hb : G l = .lp st pend fn N T ps assign body d) (jump : Option Code) (st' : Nat) (hst : st' = if jump.isNone then 0 else 2) :
    Snd P (EndRC P l jump) (fun _ _ _ => True) s { s with h := mk4 (upd G l (.lp st' jump fn N T ps assign body d)), r := s.r ||| mask l, w := s.w ||| mask l } := by
  have hok := hG.ok l
  rw [hb] at hok
  refine Snd.loopW hG hl hb hok EndRC.mono fun D R w lr hr ho => ?_
  obtain ⟨h1, h2, h3, h4, h5, h6, h7, h8⟩ := hr
  refine ⟨.loop { lr with state := if jump.isNone then .ready else .done, pending := jump }, (), ⟨_, rfl, ?_, rfl, h3, h4, h5, h6, h7, h8⟩, trivial, fun K hK => ⟨_, run_endRound jump ho, hK⟩⟩
  rw [hst]; cases jump <;> rfl

/-- the jump that a round leaves behind -/
def jumpOf : Exit → Option (Option Code)
  | .normal => some none
  | .ret => some (some .ret)
  | .exit id => some (some (.exit id))
  | _ => none

theorem endK_inv {l : Nat} {K : KV} {T : Tm} {mk : List Nat} {s : St} {e : Exit} (hw : ∃ G, Wf s G) (h : goes (endN l K) (endX l K) T mk s e = true) :
    mk = [] ∧ ∃ jump s', jumpOf e = some jump ∧ K (bv jump.isNone) s' = true ∧ Snd P (EndRC P l jump) (fun _ _ _ => True) s s' := by
  obtain ⟨G, hG⟩ := hw
  have key : ∀ (jump : Option Code) (st' : Nat), (st' = if jump.isNone then 0 else 2) → loopK s l (fun _ _ fn N T ps assign body d s => lay s l (.lp st' jump fn N T ps assign body d) (fun s => K (bv jump.isNone) s)) = true →
      ∃ s', K (bv jump.isNone) s' = true ∧ Snd P (EndRC P l jump) (fun _ _ _ => True) s s' := by
    intro jump st' hst hk
    obtain ⟨hl, st, pend, fn, N, T', ps, assign, body, d, hb, hk⟩ := loopK_inv hG hk
    exact ⟨_, lay_ok hG hk, endR_snd hG hl hb jump st' hst⟩
  cases e with
  | normal =>
    cases mk with
    | nil => obtain ⟨s', h1, h2⟩ := key none 0 rfl h; exact ⟨rfl, none, s', rfl, h1, h2⟩
    | cons m mk => cases h
  | ret =>
    cases mk with
    | nil => obtain ⟨s', h1, h2⟩ := key (some .ret) 2 rfl h; exact ⟨rfl, _, s', rfl, h1, h2⟩
    | cons m mk => cases h
  | exit id =>
    cases mk with
    | nil => obtain ⟨s', h1, h2⟩ := key (some (.exit id)) 2 rfl h; exact ⟨rfl, _, s', rfl, h1, h2⟩
    | cons m mk => cases h
  | goto l => cases h
  | panic c => cases h
  | outgrown => cases h

/-- the body and the round's end -/
def BodyC (P : Program) (l N : Nat) (body : Code) (F : Nat → V) (e : Exit) (jump : Option Code) : Comp Unit := fun D R w K => ∀ a, ARep (some l) N D R F [] a → Glob P D R →
  body.wpIn (Fr (some (R.at_ l))) 0 P (fun e' _ w => e' = e ∧ ∃ w', (Instr.endRound (R.at_ l) jump).run P w = .ok (.bool jump.isNone) w' ∧ K () w') a w
theorem BodyC.mono {l N : Nat} {body : Code} {F : Nat → V} {e : Exit} {jump : Option Code} : Mono (BodyC P l N body F e jump) := fun _ _ _ _ _ h hh a ha hg => wpIn_mono (hh a ha hg) fun _ _ _ ⟨q1, w', q2, q3⟩ => ⟨q1, w', q2, h _ _ q3⟩
theorem body_snd {l N : Nat} {body : Code} {F F' : Nat → V} {mk : List Nat} {e : Exit} {jump : Option Code} {s s₁ s₂ : St} (h₁ : Snd P (CodeDoes P (some l) N body F []) (CodeQ (some l) N e F' mk) s s₁) (h₂ : Snd P (EndRC P l jump) (fun _ _ _ => True) s₁ s₂) :
    Snd P (BodyC P l N body F e jump) (fun _ _ _ => True) s s₂ := by
  refine Snd.weak (Snd.then (k := fun D R x w₁ K => D l → x.1 = e ∧ ∃ w', (Instr.endRound (R.at_ l) jump).run P w₁ = .ok (.bool jump.isNone) w' ∧ K () w') h₁ h₂ CodeDoes.mono EndRC.mono ?_) ?_ ?_ (fun _ _ _ h => h)
  · intro D R D' R' w K x ag hs hq ⟨w', q1, q2⟩ hd
    rw [(ag l hd).1] at q1
    exact ⟨hq.1, w', q1, q2⟩
  · exact fun D R w K K' h hh => CodeDoes.mono _ _ _ _ _ (fun x w q hd => let ⟨q1, w', q2, q3⟩ := q hd; ⟨q1, w', q2, h _ _ q3⟩) hh
  · intro D R w K hh a ha hg
    exact wpIn_mono (hh a ha hg) fun e' a' w' q => q (ha.ro l rfl)

/-- its beginning -/
def FromBegin (P : Program) (l N : Nat) (body : Code) (F : Nat → V) (e : Exit) (jump : Option Code) : Comp Unit := fun D R w K => ∀ a, ARep (some l) N D R F [] a → Glob P D R → ∃ w₂, (Instr.beginRound (R.at_ l)).run P w = .ok () w₂ ∧
  body.wpIn (Fr (some (R.at_ l))) 0 P (fun e' _ w => e' = e ∧ ∃ w', (Instr.endRound (R.at_ l) jump).run P w = .ok (.bool jump.isNone) w' ∧ K () w') a w₂
theorem FromBegin.mono {l N : Nat} {body : Code} {F : Nat → V} {e : Exit} {jump : Option Code} : Mono (FromBegin P l N body F e jump) := fun _ _ _ _ _ h hh a ha hg => let ⟨w₂, p1, p2⟩ := hh a ha hg; ⟨w₂, p1, wpIn_mono p2 fun _ _ _ ⟨q1, w', q2, q3⟩ => ⟨q1, w', q2, h _ _ q3⟩⟩
theorem fromBegin_snd {l N : Nat} {body : Code} {F : Nat → V} {e : Exit} {jump : Option Code} {s s₁ s₂ : St} (h₁ : Snd P (BeginC P l) (fun _ _ _ => True) s s₁) (h₂ : Snd P (BodyC P l N body F e jump) (fun _ _ _ => True) s₁ s₂) :
    Snd P (FromBegin P l N body F e jump) (fun _ _ _ => True) s s₂ := by
  refine Snd.weak (Snd.then (k := fun D R _ w₁ K => ∀ a, ARep (some l) N D R F [] a → Glob P D R → body.wpIn (Fr (some (R.at_ l))) 0 P (fun e' _ w => e' = e ∧ ∃ w', (Instr.endRound (R.at_ l) jump).run P w = .ok (.bool jump.isNone) w' ∧ K () w') a w₁) h₁ h₂ BeginC.mono BodyC.mono ?_) ?_ ?_ (fun _ _ _ h => h)
  · intro D R D' R' w K x ag hs hq hh a ha hg
    have := hh a (ha.more hs ag) (hg.more hs ag)
    rwa [(ag l (ha.ro l rfl)).1] at this
  · exact fun D R w K K' h hh => BeginC.mono _ _ _ _ _ (fun x w q a ha hg => wpIn_mono (q a ha hg) fun _ _ _ ⟨q1, w', q2, q3⟩ => ⟨q1, w', q2, h _ _ q3⟩) hh
  · intro D R w K ⟨w₂, q1, q2⟩ a ha hg
    exact ⟨w₂, q1, q2 a ha hg⟩

/-- the assignments ahead of it -/
def FromAssign (P : Program) (l N : Nat) (assign body : Code) (F : Nat → V) (e : Exit) (jump : Option Code) : Comp Unit := fun D R w K => ∀ a, ARep (some l) N D R F [] a → Glob P D R →
  assign.wpIn (Fr (some (R.at_ l))) 0 P (fun e' a₁ w₁ => e' = .normal ∧ ∃ w₂, (Instr.beginRound (R.at_ l)).run P w₁ = .ok () w₂ ∧
    body.wpIn (Fr (some (R.at_ l))) 0 P (fun e' _ w => e' = e ∧ ∃ w', (Instr.endRound (R.at_ l) jump).run P w = .ok (.bool jump.isNone) w' ∧ K () w') a₁ w₂) a w
theorem fromAssign_snd {l N : Nat} {assign body : Code} {F F' : Nat → V} {e : Exit} {jump : Option Code} {s s₁ s₂ : St} (h₁ : Snd P (CodeDoes P (some l) N assign F []) (CodeQ (some l) N .normal F' []) s s₁) (h₂ : Snd P (FromBegin P l N body F' e jump) (fun _ _ _ => True) s₁ s₂) :
    Snd P (FromAssign P l N assign body F e jump) (fun _ _ _ => True) s s₂ := by
  refine Snd.weak (Snd.then (k := fun D R x w₁ K => Glob P D R → D l → x.1 = .normal ∧ ∃ w₂, (Instr.beginRound (R.at_ l)).run P w₁ = .ok () w₂ ∧
    body.wpIn (Fr (some (R.at_ l))) 0 P (fun e' _ w => e' = e ∧ ∃ w', (Instr.endRound (R.at_ l) jump).run P w = .ok (.bool jump.isNone) w' ∧ K () w') x.2 w₂) h₁ h₂ CodeDoes.mono FromBegin.mono ?_) ?_ ?_ (fun _ _ _ h => h)
  · intro D R D' R' w K x ag hs hq hh hg hd
    have := hh x.2 hq.2 (hg.more hs ag)
    rw [(ag l hd).1] at this
    exact ⟨hq.1, this⟩
  · exact fun D R w K K' h hh => CodeDoes.mono _ _ _ _ _ (fun x w q hg hd => let ⟨q0, w₂, p1, p2⟩ := q hg hd; ⟨q0, w₂, p1, wpIn_mono p2 fun _ _ _ ⟨q1, w', q2, q3⟩ => ⟨q1, w', q2, h _ _ q3⟩⟩) hh
  · intro D R w K hh a ha hg
    exact wpIn_mono (hh a ha hg) fun e' a' w' q => q hg (ha.ro l rfl)
theorem FromAssign.mono {l N : Nat} {assign body : Code} {F : Nat → V} {e : Exit} {jump : Option Code} : Mono (FromAssign P l N assign body F e jump) := fun _ _ _ _ _ h hh a ha hg =>
  wpIn_mono (hh a ha hg) fun _ _ _ ⟨q0, w₂, p1, p2⟩ => ⟨q0, w₂, p1, wpIn_mono p2 fun _ _ _ ⟨q1, w', q2, q3⟩ => ⟨q1, w', q2, h _ _ q3⟩⟩

theorem round_snd (hE : EnvOk P E) {rec : Rec} (hr : RecSnd P rec) (hops : ∀ o c, opX E o.op = some c → OpSnd P none o (c.f rec)) {l : Nat} {args : List V} {s : St} {K : KV} (h : tRound E rec l args s K = true) (hw : ∃ G, Wf s G) :
    ∃ v s', K v s' = true ∧ Snd P (YieldDoes P l args) (ValQ v) s s' := by
  obtain ⟨G, hG⟩ := hw
  obtain ⟨hl, st, pend, fn, N, T, ps, assign, body, d, hb, hk⟩ := loopK_inv hG h
  rw [wh_iff, lengthV_eq] at hk
  have hlen : ps.length = args.length := Nat.eq_of_beq_eq_true hk.1
  have hk := hk.2
  have hok := hG.ok l
  rw [hb] at hok
  obtain ⟨hN, F, rfl⟩ : N ≤ 256 ∧ ∃ F : Nat → V, T = mk2 F := hok
  split at hk
  · rename_i k hka
    obtain ⟨hps, hk⟩ := ofPairs_inv hN _ _ _ hk
    have hG1 : Wf { s with r := s.r ||| mask l } G := ⟨hG.h, hG.nx, hG.beyond, hG.ok⟩
    obtain ⟨e1, F1, mk1, s1, hg1, hs1⟩ := codeC_snd hE hN hr hops assign _ hka (some l) _ [] _ _ _ hk ⟨G, hG1⟩
    have he1 : e1 = .normal ∧ tRound2 E rec l fn N body K (mk2 F1) mk1 s1 = true := by
      cases e1 with
      | normal => exact ⟨rfl, hg1⟩
      | _ => cases hg1
    obtain ⟨rfl, hk1⟩ := he1
    have hw1 := hs1.wf ⟨G, hG1⟩
    cases mk1 with
    | cons m mk1 => cases hk1
    | nil =>
      unfold tRound2 at hk1
      simp only at hk1
      split at hk1
      · rename_i k2 hkb
        obtain ⟨G1, hG1'⟩ := hw1
        obtain ⟨hl1, st1, pend1, fn1, N1, T1, ps1, as1, bd1, d1, hb1, hk1⟩ := loopK_inv hG1' hk1
        rw [wh_iff] at hk1
        have hst := Nat.eq_of_beq_eq_true hk1.1
        subst hst
        have hk2 := lay_ok hG1' hk1.2
        have hs2 := begin_snd (P := P) hG1' hl1 hb1
        obtain ⟨e3, F3, mk3, s3, hg3, hs3⟩ := codeC_snd hE hN hr hops body _ hkb (some l) _ [] _ _ _ hk2 (hs2.wf ⟨G1, hG1'⟩)
        obtain ⟨rfl, jump, s4, hj, hK, hs4⟩ := endK_inv (P := P) (hs3.wf (hs2.wf ⟨G1, hG1'⟩)) hg3
        have hA := fromAssign_snd hs1 (fromBegin_snd hs2 (body_snd hs3 hs4))
        refine ⟨bv jump.isNone, s4, hK, ?_⟩
        have hR := readL_snd (P := P) hG hl hb
        refine Snd.weakM (Q := fun _ _ _ => True) (Snd.then (k := fun D R lr w₁ K => Glob P D R → D l → ∀ xs, DenL D R args xs → lr.assign = assign ∧ lr.body = body ∧ lr.params.toList = ps ∧
          assign.wpIn (Fr (some (R.at_ l))) 0 P (fun e' a₁ w₁ => e' = .normal ∧ ∃ w₂, (Instr.beginRound (R.at_ l)).run P w₁ = .ok () w₂ ∧
            body.wpIn (Fr (some (R.at_ l))) 0 P (fun e' _ w => e' = e3 ∧ ∃ w', (Instr.endRound (R.at_ l) jump).run P w = .ok (.bool jump.isNone) w' ∧ K () w') a₁ w₂)
            { tmps := (ps.zip xs).foldl (fun tmps (p : Nat × Value) => tmps.setIfInBounds p.1 p.2) lr.tmps, defers := [] } w₁) hR hA ReadL.mono FromAssign.mono ?_) ?_ (fun _ => Value.bool jump.isNone) ?_ (fun D R x _ R' _ => den_bv R' _)
        · intro D R D' R' w K lr ag hs hq hh hg hdl xs hx
          have hlr := hq.2
          obtain ⟨h1, h2, h3, h4, h5, h6, h7, h8⟩ := hlr
          refine ⟨h5, h6, h4, ?_⟩
          obtain ⟨F0, hF0, hsl⟩ := h3.are
          have hF0 : mk2 F = mk2 F0 := hF0
          have hslF : Slots D' R' F lr.tmps := fun t ht => by
            have e : F t = F0 t := by
              have e1 : ∀ K : V → Bool, K (F t) = K (F0 t) := fun K => by
                have a1 := slot_g F K t ht
                have a2 := slot_g F0 K t ht
                rw [← a1, ← a2, hF0]
              have := e1 (fun x => @decide (x = F0 t) (Classical.propDecidable _))
              simpa using this
            rw [e]; exact hsl t ht
          have hx' := hx.more hs ag
          have hRd : R'.at_ l = R.at_ l := (ag l hdl).1
          have := hh { tmps := (ps.zip xs).foldl (fun tmps (p : Nat × Value) => tmps.setIfInBounds p.1 p.2) lr.tmps, defers := [] } ⟨by rw [setAll_size]; exact h3.size, slots_setAll ps args xs F lr.tmps hps h3.size hx' hslF, rfl, by simp, fun l' e => by cases e; exact hq.1⟩ (hg.more hs ag)
          rw [hRd] at this
          exact this
        · intro D R w K K' h hh
          exact ReadL.mono _ _ _ _ _ (fun lr w q hg hdl xs hx => let ⟨p1, p2, p3, p4⟩ := q hg hdl xs hx; ⟨p1, p2, p3, wpIn_mono p4 fun _ _ _ ⟨q0, w₂, p1, p2⟩ => ⟨q0, w₂, p1, wpIn_mono p2 fun _ _ _ ⟨q1, w', q2, q3⟩ => ⟨q1, w', q2, h _ _ q3⟩⟩⟩) hh
        · intro D R w K ⟨lr, ho, hh⟩ xs hx hg hd
          obtain ⟨p1, p2, p3, p4⟩ := hh hg hd xs hx
          have hxl : xs.length = args.length := by
            have := hx R (Agr.refl _ _)
            rw [denL_eq] at this
            rw [← this]; simp
          rw [run_yield ho (by rw [← Array.length_toList (xs := lr.params), p3]; simp; omega)]
          have htm : (lr.params.zip xs.toArray).foldl (fun tmps (t, a) => tmps.setIfInBounds t a) lr.tmps = (ps.zip xs).foldl (fun tmps (p : Nat × Value) => tmps.setIfInBounds p.1 p.2) lr.tmps := by
            rw [← Array.foldl_toList, Array.toList_zip, p3]
          show RoundIn (Fr none) 0 P (R.at_ l) lr.fn _ lr.assign lr.body w (gives K)
          rw [htm, p1, p2]
          refine roundIn_of_wpIn trivial (wpIn_mono p4 ?_)
          rintro e' a₁ w₁ ⟨rfl, w₂, q1, q2⟩
          refine ⟨w₂, q1, wpIn_mono q2 ?_⟩
          rintro e' a' w' ⟨rfl, w₃, q3, _, q4⟩
          cases e' with
          | normal => cases hj; exact ⟨_, w₃, q3, q4⟩
          | ret => cases hj; exact ⟨_, w₃, q3, q4⟩
          | exit id => cases hj; exact ⟨_, w₃, q3, q4⟩
          | goto l => cases hj
          | panic c => cases hj
          | outgrown => cases hj
      · cases hk1
  · cases hk
/-- the reckoning is right, if each operation is -/
theorem ev_snd (hE : EnvOk P E) (hops : ∀ rec, RecSnd P rec → ∀ o c, opX E o.op = some c → OpSnd P none o (c.f rec)) : ∀ n, RecSnd P (ev E n) := by
  intro n
  induction n with
  | zero => exact ⟨fun f args s K h => (by cases h), fun l args s K h => (by cases h)⟩
  | succ n ih =>
    exact ⟨fun f args s K h hw => call_snd hE ih (hops _ ih) (show tCall E (ev E n) f args s K = true from h) hw, fun l args s K h hw => round_snd hE ih (hops _ ih) (show tRound E (ev E n) l args s K = true from h) hw⟩
end Go.Ev
/- Operations, one by one: quotients, shifts, signs, texts. -/
namespace Go.Ev
variable {P : Program} {E : Env}

/-- not below 0 -/
def NN (k v : Nat) : Prop := v < 2 ^ (kindOf k).bits ∧ Nat.land v (signN k) = 0
theorem NN.wrap {k v : Nat} (hk : k < 8) (h : NN k v) : (kindOf k).wrap (v : Int) = v := by rw [wrap_ext k v hk h.1, if_pos h.2]
theorem NN.le {k v v' : Nat} (hk : k < 8) (h : NN k v) (hl : v' ≤ v) : NN k v' := by
  refine ⟨Nat.lt_of_le_of_lt hl h.1, ?_⟩
  have hcase : k = 0 ∨ k = 1 ∨ k = 2 ∨ k = 3 ∨ k = 4 ∨ k = 5 ∨ k = 6 ∨ k = 7 := by omega
  have l0 : ∀ a : Nat, Nat.land a 0 = 0 := Nat.and_zero
  have key : ∀ n, v < 2 ^ (n + 1) → Nat.land v (2 ^ n) = 0 → Nat.land v' (2 ^ n) = 0 := fun n h1 h2 => (top_bit n v' (Nat.lt_of_le_of_lt hl h1)).2 (Nat.lt_of_le_of_lt hl ((top_bit n v h1).1 h2))
  have h2 := h.2
  have h1 := h.1
  rcases hcase with e | e | e | e | e | e | e | e <;> subst e
  · exact key 7 h1 h2
  · exact l0 _
  · exact key 15 h1 h2
  · exact l0 _
  · exact key 31 h1 h2
  · exact l0 _
  · exact key 63 h1 h2
  · exact l0 _
theorem NN.of {k a : Nat} (hk : k < 8) (h : Nat.beq (Nat.land (Nat.land a (maskN k)) (signN k)) 0 = true) : NN k (Nat.land a (maskN k)) := ⟨land_lt k a hk, Nat.eq_of_beq_eq_true h⟩

theorem quo_ok {k : Nat} (hk : k < 8) : IntOk P .quo k (nQuo (Nat.add 32 k) (maskN k) (signN k)) := by
  intro t x y a b q h
  have h' : ifB (Nat.beq (Nat.land b (maskN k)) 0) false (wh (Nat.beq (Nat.land (Nat.land a (maskN k)) (signN k)) 0) (wh (Nat.beq (Nat.land (Nat.land b (maskN k)) (signN k)) 0) (q (.mk (Nat.add 32 k) (Nat.div (Nat.land a (maskN k)) (Nat.land b (maskN k))) 0 0 0 [])))) = true := h
  rw [ifB_iff, wh_iff, wh_iff] at h'
  rcases h' with ⟨_, h'⟩ | ⟨h0, h1, h2, h3⟩
  · cases h'
  refine ⟨_, h3, fun R w => ?_⟩
  have ek : Nat.add 32 k = k + 32 := Nat.add_comm _ _
  have na := NN.of hk h1
  have nb := NN.of hk h2
  rw [ek, den_int, ← low_mod k a hk, ← low_mod k b hk, na.wrap hk, nb.wrap hk]
  have hb0 : Nat.land b (maskN k) ≠ 0 := by intro e; rw [e] at h0; cases h0
  have hdiv : (((Nat.div (Nat.land a (maskN k)) (Nat.land b (maskN k)) : Nat)) : Int) = Int.tdiv (Nat.land a (maskN k) : Nat) (Nat.land b (maskN k) : Nat) := rfl
  rw [hdiv]
  simp [eqGuard, binOp, Op.intDiv, bind, Sem.bind, pure]
  intro e
  exact (hb0 e).elim
theorem rem_ok {k : Nat} (hk : k < 8) : IntOk P .rem k (nRem (Nat.add 32 k) (maskN k) (signN k)) := by
  intro t x y a b q h
  have h' : ifB (Nat.beq (Nat.land b (maskN k)) 0) false (wh (Nat.beq (Nat.land (Nat.land a (maskN k)) (signN k)) 0) (wh (Nat.beq (Nat.land (Nat.land b (maskN k)) (signN k)) 0) (q (.mk (Nat.add 32 k) (Nat.mod (Nat.land a (maskN k)) (Nat.land b (maskN k))) 0 0 0 [])))) = true := h
  rw [ifB_iff, wh_iff, wh_iff] at h'
  rcases h' with ⟨_, h'⟩ | ⟨h0, h1, h2, h3⟩
  · cases h'
  refine ⟨_, h3, fun R w => ?_⟩
  have ek : Nat.add 32 k = k + 32 := Nat.add_comm _ _
  have na := NN.of hk h1
  have nb := NN.of hk h2
  have nr : NN k (Nat.mod (Nat.land a (maskN k)) (Nat.land b (maskN k))) := na.le hk (Nat.mod_le _ _)
  rw [ek, den_int, ← low_mod k a hk, ← low_mod k b hk, na.wrap hk, nb.wrap hk, nr.wrap hk]
  have hb0 : Nat.land b (maskN k) ≠ 0 := by intro e; rw [e] at h0; cases h0
  have hmod : (((Nat.mod (Nat.land a (maskN k)) (Nat.land b (maskN k)) : Nat)) : Int) = Int.tmod (Nat.land a (maskN k) : Nat) (Nat.land b (maskN k) : Nat) := rfl
  rw [hmod]
  simp [eqGuard, binOp, Op.intDiv, bind, Sem.bind, pure]
  intro e
  exact (hb0 e).elim

theorem andNot_ok {k : Nat} : IntOk P .andNot k (nAndNot (Nat.add 32 k)) := by
  intro t x y a b q h
  refine ⟨_, h, fun R w => ?_⟩
  have ek : Nat.add 32 k = k + 32 := Nat.add_comm _ _
  rw [ek, den_int]
  have e : (kindOf k).wrap (((BitVec.ofInt (kindOf k).bits ((kindOf k).wrap (a : Int)) &&& ~~~ BitVec.ofInt (kindOf k).bits ((kindOf k).wrap (b : Int))).toNat : Nat) : Int) = (kindOf k).wrap ((Nat.xor a (Nat.land a b) : Nat) : Int) := by
    refine bits_wrap k _ _ ?_
    apply Nat.eq_of_testBit_eq
    intro j
    show ((BitVec.ofInt _ _ &&& ~~~ BitVec.ofInt _ _).toNat % _).testBit j = ((a ^^^ (a &&& b)) % _).testBit j
    rw [Nat.testBit_mod_two_pow, Nat.testBit_mod_two_pow]
    by_cases hj : j < (kindOf k).bits
    · simp only [hj, decide_true, Bool.true_and]
      rw [BitVec.testBit_toNat, BitVec.getLsbD_and, BitVec.getLsbD_not]
      simp only [hj, decide_true, Bool.true_and]
      rw [← BitVec.testBit_toNat, ← BitVec.testBit_toNat, ofInt_wrap k a, ofInt_wrap k b, Nat.testBit_mod_two_pow, Nat.testBit_mod_two_pow, Nat.testBit_xor, Nat.testBit_and]
      simp only [hj, decide_true, Bool.true_and]
      cases a.testBit j <;> cases b.testBit j <;> rfl
    · simp [hj]
  simp [eqGuard, binOp, Op.intBits, bind, Sem.bind, pure]
  simpa using e

/-! ### shifts -/
theorem shift_snd {ro : Option Nat} {o : Oper} {op : BinOp} {t u : TypeId} {x y : Operand} {k : Nat} (ho : o.op = .binOp op t x y u) (hop : op = .shl ∨ op = .shr) {g : Nat → Nat → K1 → Bool}
    (hg : ∀ a n q, g a n q = true → ∃ r, q r = true ∧ ∀ (R : Ren) (kd : IntKind) (w : World), (Op.shift op (kindOf k) ((kindOf k).wrap a) kd (n : Int)).run P w = .ok (den R r) w)
    {f : Rec → Tm → St → KV → Bool} (hf : c2 x y (pure2 (fun x y k' => vB x (fun t a _ _ _ _ => wh (Nat.beq t (Nat.add 32 k)) (posK y (fun n => g a n k'))))) = some ⟨f⟩) (hx : OpOk P x) (hy : OpOk P y) (rec : Rec) : OpSnd P ro o (f rec) := by
  refine c2_snd hf hx hy rec fun v u s K hk' _ => ?_
  unfold pure2 at hk'
  obtain ⟨tt, a, b, c, d, l⟩ := v
  have hk' : wh (Nat.beq tt (Nat.add 32 k)) (posK u (fun n => g a n (fun v => K v s))) = true := hk'
  rw [wh_iff] at hk'
  have ht := Nat.eq_of_beq_eq_true hk'.1
  subst ht
  obtain ⟨n, hn, kd, hden⟩ := posK_inv hk'.2
  obtain ⟨r, hq, hrun⟩ := hg _ _ _ hn
  refine ⟨r, s, hq, snd_value (by rw [ho]; simp) fun D R ρ w h => ⟨den R r, ?_, fun R' ha => ?_⟩⟩
  · have e1 := h.1 R (Agr.refl _ _)
    have e2 := h.2 R (Agr.refl _ _)
    have ek : Nat.add 32 k = k + 32 := Nat.add_comm _ _
    rw [ek, den_int] at e1
    rw [hden R] at e2
    have := hrun R kd w
    simp only [execOp, ho]
    rw [← e1, ← e2]
    rcases hop with rfl | rfl <;> simp [eqGuard, binOp, this, Result.andThen]
  · have h1 := hrun R kd default
    have h2 := hrun R' kd default
    rw [h1] at h2
    simpa using h2.symm

theorem shl_ok {k : Nat} (hk : k < 8) (a n : Nat) (q : K1) (h : q (.mk (Nat.add 32 k) (Nat.land (Nat.shiftLeft a (Nat.min n (bitsN k))) (maskN k)) 0 0 0 []) = true) :
    ∃ r, q r = true ∧ ∀ (R : Ren) (kd : IntKind) (w : World), (Op.shift .shl (kindOf k) ((kindOf k).wrap a) kd (n : Int)).run P w = .ok (den R r) w := by
  refine ⟨_, h, fun R kd w => ?_⟩
  have ek : Nat.add 32 k = k + 32 := Nat.add_comm _ _
  rw [ek, den_int, low_mod _ _ hk]
  have hn : ¬ ((n : Int) < 0) := by omega
  simp only [Op.shift, hn, if_false]
  simp only [Sem.run_pure, Int.toNat_natCast]
  congr 2
  rw [(bits_ok k hk).2]
  show _ = (kindOf k).wrap ((a <<< (min n (kindOf k).bits) : Nat) : Int)
  rw [Nat.shiftLeft_eq]
  refine wrap_congr _ ?_
  rw [Int.mul_emod, wrap_emod, ← Int.mul_emod]
  simp
theorem shr_ok {k : Nat} (hk : k < 8) (a n : Nat) (q : K1) (h : wh (Nat.beq (Nat.land (Nat.land a (maskN k)) (signN k)) 0) (q (.mk (Nat.add 32 k) (Nat.shiftRight (Nat.land a (maskN k)) (Nat.min n (bitsN k))) 0 0 0 [])) = true) :
    ∃ r, q r = true ∧ ∀ (R : Ren) (kd : IntKind) (w : World), (Op.shift .shr (kindOf k) ((kindOf k).wrap a) kd (n : Int)).run P w = .ok (den R r) w := by
  rw [wh_iff] at h
  refine ⟨_, h.2, fun R kd w => ?_⟩
  have ek : Nat.add 32 k = k + 32 := Nat.add_comm _ _
  have na := NN.of hk h.1
  have e : Nat.shiftRight (Nat.land a (maskN k)) (Nat.min n (bitsN k)) = Nat.land a (maskN k) / 2 ^ (min n (kindOf k).bits) := by
    show (Nat.land a (maskN k)) >>> (min n (bitsN k)) = _
    rw [Nat.shiftRight_eq_div_pow, (bits_ok k hk).2]
  have nr : NN k (Nat.land a (maskN k) / 2 ^ (min n (kindOf k).bits)) := na.le hk (Nat.div_le_self _ _)
  rw [ek, den_int, e, nr.wrap hk, ← low_mod k a hk, na.wrap hk]
  have hn : ¬ ((n : Int) < 0) := by omega
  simp only [Op.shift, hn, if_false]
  simp only [Sem.run_pure, Int.toNat_natCast]
  congr 2
  rw [Int.fdiv_eq_ediv_of_nonneg _ (Int.le_of_lt (Int.pow_pos (by decide)))]
  simp

/-! ### signs -/
theorem unOp_snd {ro : Option Nat} {o : Oper} {op : UnOp} {t : TypeId} {x : Operand} (ho : o.op = .unOp op t x) {f : Rec → Tm → St → KV → Bool} (hf : c1 x (fun v s k => unK op v (fun r => k r s)) = some ⟨f⟩) (hx : OpOk P x) (rec : Rec) : OpSnd P ro o (f rec) := by
  refine c1_snd hf hx rec fun v s K hk' _ => ?_
  obtain ⟨tt, a, b, c, d, l⟩ := v
  cases op with
  | neg =>
    have h' : wh (Nat.ble 32 tt) (wh (Nat.ble tt 39) (nSub tt (maskN (Nat.sub tt 32)) 0 a (fun r => K r s))) = true := hk'
    rw [wh_iff, wh_iff] at h'
    obtain ⟨h32, h39, hq⟩ := h'
    have h39 : tt ≤ 39 := Nat.le_of_ble_eq_true h39
    have h32 : 32 ≤ tt := Nat.le_of_ble_eq_true h32
    obtain ⟨j, rfl⟩ : ∃ j, tt = 32 + j := ⟨tt - 32, by omega⟩
    have ej : Nat.sub (32 + j) 32 = j := Nat.add_sub_cancel_left 32 j
    rw [ej] at hq
    have hj : j < 8 := by omega
    obtain ⟨r, hr, hrun⟩ := sub_ok (P := P) hj 0 x x 0 a _ hq
    refine ⟨r, s, hr, snd_value (by rw [ho]; simp) fun D R ρ w h => ⟨den R r, ?_, fun R' ha => ?_⟩⟩
    · have hv := h R (Agr.refl _ _)
      rw [Nat.add_comm 32 j, den_int] at hv
      have h0 := hrun R w
      have hz : (kindOf j).wrap ((0 : Nat) : Int) = 0 := by cases kindOf j <;> decide
      rw [hz] at h0
      simp only [execOp, ho, ← hv, Op.unary]
      simp [eqGuard, binOp, Result.andThen] at h0 ⊢
      rw [h0]
    · have h1 := hrun R default
      have h2 := hrun R' default
      rw [h1] at h2
      simpa using h2.symm
  | not =>
    have h' : wh (Nat.beq tt 2) (K (bv (notB (Nat.beq a 1))) s) = true := hk'
    rw [wh_iff] at h'
    have ht := Nat.eq_of_beq_eq_true h'.1
    subst ht
    refine ⟨_, s, h'.2, snd_value (by rw [ho]; simp) fun D R ρ w h => ⟨.bool !(a == 1), ?_, fun R' ha => ?_⟩⟩
    · have hv := h R (Agr.refl _ _)
      simp only [den] at hv
      simp only [execOp, ho, ← hv, Op.unary, Sem.run_bind, Sem.run_pure, Result.andThen]
    · rw [den_bv, notB_eq]
      have : Nat.beq a 1 = (a == 1) := Bool.eq_iff_iff.2 (by simp)
      rw [this]
  | xor =>
    have h' : wh (Nat.ble 32 tt) (wh (Nat.ble tt 39) (nXor tt (maskN (Nat.sub tt 32)) a (fun r => K r s))) = true := hk'
    rw [wh_iff, wh_iff] at h'
    obtain ⟨h32, h39, hq⟩ := h'
    have h39 : tt ≤ 39 := Nat.le_of_ble_eq_true h39
    have h32 : 32 ≤ tt := Nat.le_of_ble_eq_true h32
    obtain ⟨j, rfl⟩ : ∃ j, tt = 32 + j := ⟨tt - 32, by omega⟩
    have ej : Nat.sub (32 + j) 32 = j := Nat.add_sub_cancel_left 32 j
    rw [ej] at hq
    have hj : j < 8 := by omega
    obtain ⟨r, hr, hrun⟩ := xor_ok (P := P) (k := j) 0 x x (maskN j) a _ hq
    refine ⟨r, s, hr, snd_value (by rw [ho]; simp) fun D R ρ w h => ⟨den R r, ?_, fun R' ha => ?_⟩⟩
    · have hv := h R (Agr.refl _ _)
      rw [Nat.add_comm 32 j, den_int] at hv
      have h0 := hrun R w
      have hz : (kindOf j).wrap ((maskN j : Nat) : Int) = if (kindOf j).signed then -1 else (kindOf j).max := by
        have hj' : j = 0 ∨ j = 1 ∨ j = 2 ∨ j = 3 ∨ j = 4 ∨ j = 5 ∨ j = 6 ∨ j = 7 := by omega
        rcases hj' with rfl | rfl | rfl | rfl | rfl | rfl | rfl | rfl <;> decide
      rw [hz] at h0
      simp only [execOp, ho, ← hv, Op.unary]
      simp [eqGuard, binOp, Result.andThen] at h0 ⊢
      rw [h0]
    · have h1 := hrun R default
      have h2 := hrun R' default
      rw [h1] at h2
      simpa using h2.symm
  | plus => cases hk'

/-! ### texts -/
theorem low_succ (d n : Nat) : low d (n + 1) = low d n + 256 ^ n * byteAt d n := by
  rw [low_eq, low_eq, byteAt_eq, Nat.mod_pow_succ]
theorem low_congr {d e : Nat} : ∀ n, (∀ i, i < n → byteAt d i = byteAt e i) → low d n = low e n := by
  intro n
  induction n with
  | zero => intro _; simp [low_eq, Nat.mod_one]
  | succ n ih =>
    intro h
    rw [low_succ, low_succ, ih (fun i hi => h i (by omega)), h n (by omega)]
theorem text_same (n d m e : Nat) : ((textOf n d).toList == (textOf m e).toList) = sameStr n d m e := by
  rw [Bool.eq_iff_iff, beq_iff_eq, Lib.toList_data, Lib.toList_data, text_list, text_list]
  show _ ↔ wh (Nat.beq n m) (Nat.beq (low d n) (low e m)) = true
  rw [wh_iff, Nat.beq_eq, Nat.beq_eq]
  constructor
  · intro h
    have hl := congrArg List.length h
    simp at hl
    subst hl
    refine ⟨rfl, low_congr n fun i hi => ?_⟩
    have := congrArg (fun l => l[i]?) h
    simp [hi] at this
    have h1 := byteAt_lt d i
    have h2 := byteAt_lt e i
    have := congrArg UInt8.toNat this
    simpa [Nat.mod_eq_of_lt h1, Nat.mod_eq_of_lt h2] using this
  · rintro ⟨rfl, h⟩
    refine List.map_congr_left fun i hi => ?_
    have hi : i < n := by simpa using hi
    rw [← byteAt_low d n i hi, ← byteAt_low e n i hi, h]

theorem str_snd {ro : Option Nat} {o : Oper} {op : BinOp} {t u : TypeId} {x y : Operand} (ho : o.op = .binOp op t x y u) {b : BinC} (hb : strC op = some b) {f : Rec → Tm → St → KV → Bool} (hf : c2 x y (pure2 b.f) = some ⟨f⟩) (hx : OpOk P x) (hy : OpOk P y) (rec : Rec) : OpSnd P ro o (f rec) := by
  refine c2_snd hf hx hy rec fun v u' s K hk' _ => ?_
  unfold pure2 at hk'
  have key : ∀ (r : Bool → Bool), b = ⟨strK (fun n d m e k => k (bv (r (sameStr n d m e))))⟩ → (∀ (n d m e : Nat) (w : World), (Op.stringOp op (textOf n d) (textOf m e)).run P w = .ok (.bool (r ((textOf n d).toList == (textOf m e).toList))) w) →
      (∀ (X Y : Operand) (n d m e : Nat) (w : World), (do eqGuard op t X Y (.string (textOf n d)) (.string (textOf m e)); binOp op t (.string (textOf n d)) (.string (textOf m e)) : Sem Value).run P w = (Op.stringOp op (textOf n d) (textOf m e)).run P w) →
      ∃ r s', K r s' = true ∧ Snd P (OpA P ro o fun D R ρ => Den D R v (ρ x) ∧ Den D R u' (ρ y)) (ValQ r) s s' := by
    intro r hbr h1 h2
    subst hbr
    obtain ⟨t1, n, d, c1, d1, l1⟩ := v
    obtain ⟨t2, m, e, c2, d2, l2⟩ := u'
    have hk' : wh (Nat.beq t1 3) (wh (Nat.beq t2 3) (K (bv (r (sameStr n d m e))) s)) = true := hk'
    rw [wh_iff, wh_iff] at hk'
    have e1 := Nat.eq_of_beq_eq_true hk'.1
    have e2 := Nat.eq_of_beq_eq_true hk'.2.1
    subst e1 e2
    refine ⟨_, s, hk'.2.2, snd_value (by rw [ho]; simp) fun D R ρ w h => ⟨.bool (r (sameStr n d m e)), ?_, fun R' _ => den_bv R' _⟩⟩
    have q1 := h.1 R (Agr.refl _ _)
    have q2 := h.2 R (Agr.refl _ _)
    simp only [den] at q1 q2
    simp only [execOp, ho]
    rw [← q1, ← q2]
    refine (Sem.run_bind' P _ _ w).trans ?_
    have := (h2 x y n d m e w).trans (h1 n d m e w)
    rw [this, text_same]
    rfl
  cases op <;> simp only [strC] at hb <;> first | (cases hb; done) | skip
  · cases hb
    exact key (fun b => b) rfl (fun n d m e w => rfl) (fun X Y n d m e w => by simp [eqGuard, binOp])
  · cases hb
    exact key notB rfl (fun n d m e w => by simp [Op.stringOp, notB_eq]) (fun X Y n d m e w => by simp [eqGuard, binOp])
end Go.Ev
/- Operations, one by one: functions, calls, lengths, the less and the more of two. -/
namespace Go.Ev
variable {P : Program} {E : Env} {ro : Option Nat} {o : Oper}

theorem denL_length {D : Nat → Prop} {R : Ren} {vs : List V} {xs : List Value} (h : DenL D R vs xs) : xs.length = vs.length := by
  have := h R (Agr.refl _ _)
  rw [denL_eq] at this
  rw [← this]; simp

theorem makeFunc_snd {fn : Fn} {a b : Array Operand} (ho : o.op = .makeFunc fn a b) {c : OpC} (hf : cFunc fn a.toList b.toList = some c) (ha : ∀ x ∈ a, OpOk P x) (hb : ∀ x ∈ b, OpOk P x) (rec : Rec) : OpSnd P ro o (c.f rec) := by
  intro F s K h hw
  unfold cFunc at hf
  split at hf
  · rename_i f
    split at hf
    · rename_i ga hga
      split at hf
      · rename_i gb hgb
        cases hf
        obtain ⟨xs, h1, hl1, hd1⟩ := accL_snd (P := P) hga h (fun x hx => ha x (by simpa using hx))
        obtain ⟨ys, h2, hl2, hd2⟩ := accL_snd (P := P) hgb h1 (fun x hx => hb x (by simpa using hx))
        refine ⟨_, s, h2, Snd.pure (fun D R w tmps hs hg => ?_) OpDoes.mono⟩
        refine does_value (v := .func (.func f) (a.map (evalT tmps)) (b.map (evalT tmps))) (by rw [ho]; simp) (by simp [execOp, ho, Instr.makeFunc]) ⟨rfl, fun R' hag => ?_⟩
        have e1 := hd1 D R tmps hs hg R' hag
        have e2 := hd2 D R tmps hs hg R' hag
        have hl : (denL R' xs).length = a.toList.length := by rw [e1]; simp
        simp only [den, denL_app]
        rw [← hl, List.take_left, List.drop_left, e1, e2]
        congr 1 <;> (apply Array.ext'; simp)
      · cases hf
    · cases hf
  · cases hf

theorem den_yield_D {D : Nat → Prop} {R : Ren} {l b c d : Nat} {m : List V} {x : Value} (h : Den D R (.mk 12 l b c d m) x) : D l := by
  refine Classical.byContradiction fun hd => ?_
  have h1 := h R (Agr.refl _ _)
  have h2 := h ⟨fun i => if i = l then R.at_ l + 1 else R.at_ i, R.room, R.base⟩ (fun i hi => ⟨by
    show (if i = l then _ else _) = _
    rw [if_neg (fun e => hd (by rw [← e]; exact hi))], rfl, rfl⟩)
  rw [← h1] at h2
  simp [den] at h2

theorem callValue_snd {g : Operand} {args : Array Operand} {ts : Array TypeId} (ho : o.op = .call ⟨.value g, args, ts⟩) {c : OpC} (hf : callC E ⟨.value g, args, ts⟩ = some c) (hg' : OpOk P g) (ha : ∀ x ∈ args, OpOk P x) {rec : Rec} (hr : RecSnd P rec) : OpSnd P ro o (c.f rec) := by
  intro F s K h hw
  have hf' : (match accL args.toList with
      | some ⟨a⟩ => (match acc g with | some ⟨f⟩ => some (⟨fun rec T s K => f T (fun v => a T (fun l => callV rec v l s K))⟩ : OpC) | none => none)
      | none => none) = some c := hf
  split at hf'
  · rename_i ga hga
    split at hf'
    · rename_i gf hgf
      cases hf'
      obtain ⟨v, h1, hd1⟩ := acc_snd (P := P) hgf h hg'
      obtain ⟨vs, h2, hl2, hd2⟩ := accL_snd (P := P) hga h1 (fun x hx => ha x (by simpa using hx))
      obtain ⟨t, a, b, c', d', l⟩ := v
      have hcase : t = 11 ∨ t ≠ 11 := by omega
      rcases hcase with rfl | hn
      · obtain ⟨r, s', hK, hs⟩ := hr.call _ _ _ _ (callV_inv h2) hw
        refine ⟨r, s', hK, hs.weak CallDoes.mono (fun D R w K hh tmps hsl hg => ?_) fun _ _ _ q => q⟩
        have e1 := hd1 D R tmps hsl hg
        have e2 := hd2 D R tmps hsl hg
        have hl := denL_of_func e1
        have hx : DenL D R (l.take b ++ vs ++ l.drop b) ((denL R l).take b ++ args.toList.map (evalT tmps) ++ (denL R l).drop b) := fun R' ha => by
          rw [denL_app, denL_app, e2 R' ha, (hl.take b) R' ha, (hl.drop b) R' ha]
        obtain ⟨q1, q2⟩ := hh _ hx hg
        have ev := e1 R (Agr.refl _ _)
        simp only [den] at ev
        unfold Does
        rw [Oper.semAt_eq _ _ _ (by rw [ho]; simp)]
        have hrun : (execOp (evalT tmps) o).run P w = .ok (.enter a ((denL R l).take b ++ args.toList.map (evalT tmps) ++ (denL R l).drop b).toArray) w := by
          have hres : resolve (evalT tmps) ⟨.value g, args, ts⟩ o.type = Deferred.ofValue (evalT tmps g) (args.map (evalT tmps)) := rfl
          simp only [execOp, ho, hres, ← ev, Deferred.ofValue, Sem.run_bind, Sem.run_pure, Result.andThen]
          show (callFunc a _).run P w = _
          rw [← q1 w]
          congr 2
          apply Array.ext'
          simp
        rw [hrun]
        exact q2
      · have h2' : wh (Nat.beq t 12) (rec false a vs s K) = true := by
          have : callV rec (.mk t a b c' d' l) vs s K = ifB (Nat.beq t 11) _ (wh (Nat.beq t 12) (rec false a vs s K)) := rfl
          rw [this, beq_false hn] at h2
          exact h2
        rw [wh_iff] at h2'
        have ht := Nat.eq_of_beq_eq_true h2'.1
        subst ht
        obtain ⟨r, s', hK, hs⟩ := hr.yld _ _ _ _ h2'.2 hw
        refine ⟨r, s', hK, hs.weak YieldDoes.mono (fun D R w K hh tmps hsl hg => ?_) fun _ _ _ q => q⟩
        have e1 := hd1 D R tmps hsl hg
        have e2 := hd2 D R tmps hsl hg
        have q := hh _ e2 hg (den_yield_D e1)
        have ev := e1 R (Agr.refl _ _)
        simp only [den] at ev
        unfold Does
        rw [Oper.semAt_eq _ _ _ (by rw [ho]; simp)]
        have hrun : (execOp (evalT tmps) o).run P w = (Instr.yield (R.at_ a) (args.toList.map (evalT tmps)).toArray).run P w := by
          have hres : resolve (evalT tmps) ⟨.value g, args, ts⟩ o.type = Deferred.ofValue (evalT tmps g) (args.map (evalT tmps)) := rfl
          simp only [execOp, ho, hres, ← ev, Deferred.ofValue, Sem.run_bind, Sem.run_pure, Result.andThen]
          show (Instr.yield _ _).run P w = _
          congr 2
          apply Array.ext'
          simp
        rw [hrun]
        exact doesR_any _ q
    · cases hf'
  · cases hf'

/-! ### lengths -/
theorem wrap_small (n : Nat) (h : n ≤ 4294967296) : (IntKind.i64).wrap (n : Int) = n := by
  have := wrap_ext 6 n (by omega) (by simp [kindOf, IntKind.bits]; omega)
  have e : Nat.land n (signN 6) = 0 := (top_bit 63 n (by omega)).2 (by omega)
  rw [if_pos e] at this
  exact this
theorem den_len (R : Ren) (n : Nat) (h : n ≤ 4294967296) : den R (.mk 38 n 0 0 0 []) = goInt n := by
  have := den_int R 6 n 0 0 0 []
  rw [show 6 + 32 = 38 from rfl] at this
  rw [this]
  show Value.int .i64 ((IntKind.i64).wrap n) = _
  rw [wrap_small n h]; rfl

theorem lengthN_eq (l : List V) : lengthN l = l.length := lengthV_eq l

theorem mapB_inv {b : HB} {k : List V → Nat → Bool} (h : mapB b k = true) : ∃ es c, b = .mp es c ∧ k es c = true := by
  cases b with
  | mp es c => exact ⟨es, c, rfl, h⟩
  | _ => cases h

theorem run_builtin1 {b : Builtin} {x : Operand} {ts : Array TypeId} (ρ : Operand → Value) (ho : o.op = .call ⟨.builtin b, #[x], ts⟩) (w : World) : (execOp ρ o).run P w = (builtin b ts o.type (#[x].map fun | .const _ => true | _ => false) #[ρ x]).run P w := by
  have hres : resolve ρ ⟨.builtin b, #[x], ts⟩ o.type = pure { target := .builtin b ts o.type (#[x].map fun | .const _ => true | _ => false), args := #[ρ x] } := by first | rfl | (simp [resolve]; rfl)
  simp only [execOp, ho, hres, Sem.run_bind, Sem.run_pure, Result.andThen]
  rfl
theorem run_builtin2 {b : Builtin} {x y : Operand} {ts : Array TypeId} (ρ : Operand → Value) (ho : o.op = .call ⟨.builtin b, #[x, y], ts⟩) (w : World) : (execOp ρ o).run P w = (builtin b ts o.type (#[x, y].map fun | .const _ => true | _ => false) #[ρ x, ρ y]).run P w := by
  have hres : resolve ρ ⟨.builtin b, #[x, y], ts⟩ o.type = pure { target := .builtin b ts o.type (#[x, y].map fun | .const _ => true | _ => false), args := #[ρ x, ρ y] } := by first | rfl | (simp [resolve]; rfl)
  simp only [execOp, ho, hres, Sem.run_bind, Sem.run_pure, Result.andThen]
  rfl

theorem lenArr_snd {x : Operand} {t : TypeId} {l : List TypeId} {n e : Nat} (ho : o.op = .call ⟨.builtin .len, #[x], (t :: l).toArray⟩) (hu : P.underlying t = some (.array n e)) (hn : n ≤ 4294967296) : OpSnd P ro o (fun _ s K => K (.mk 38 n 0 0 0 []) s) := by
  intro F s K h hw
  refine ⟨_, s, h, Snd.pure (fun D R w tmps hs hg => ?_) OpDoes.mono⟩
  refine does_value (v := goInt n) (by rw [ho]; simp) ?_ ⟨rfl, fun R' _ => den_len R' n hn⟩
  rw [run_builtin1 _ ho]
  simp [builtin, Builtin.len_, run_underlying hu, Sem.run_bind, Result.andThen]

theorem lenM_snd {x : Operand} {t : TypeId} {l : List TypeId} {k e : TypeId} (ho : o.op = .call ⟨.builtin .len, #[x], (t :: l).toArray⟩) (hu : P.underlying t = some (.map k e)) {c : OpC} (hf : c1 x (lenM lengthN) = some c) (hx : OpOk P x) (rec : Rec) : OpSnd P ro o (c.f rec) := by
  obtain ⟨f⟩ := c
  refine c1_snd hf hx rec fun v s K hk ⟨G, hG⟩ => ?_
  obtain ⟨tt, a, b, c', d, m⟩ := v
  have hk' : ifB (Nat.beq tt 9) (look s a (fun b s => mapB b (fun es _ => wh (Nat.ble (lengthN es) 4294967296) (K (.mk 38 (lengthN es) 0 0 0 []) s))))
    (wh (Nat.beq tt 10) (K (.mk 38 0 0 0 0 []) s)) = true := hk
  rw [ifB_iff, wh_iff] at hk'
  rcases hk' with ⟨h9, hk'⟩ | ⟨_, h10, hk'⟩
  · have e := Nat.eq_of_beq_eq_true h9
    subst e
    obtain ⟨hid, hk2⟩ := look_eq hG a _ hk'
    obtain ⟨es, cl, hb, hk3⟩ := mapB_inv hk2
    rw [wh_iff] at hk3
    have hle : lengthN es ≤ 4294967296 := Nat.le_of_ble_eq_true hk3.1
    refine ⟨_, _, hk3.2, Snd.read hid (fun G' hG' => by rw [wf_unique hG hG', Al, hb]; simp) (fun G' hG' D R w hD hlt hr ρ hρ => ?_) OpA.mono⟩
    rw [wf_unique hG hG', hb] at hr
    obtain ⟨xs, hox, hlen, _⟩ := hr
    have hv := hρ R (Agr.refl _ _)
    simp only [den] at hv
    refine does_value (v := goInt xs.size) (by rw [ho]; simp) ?_ ⟨rfl, fun R' _ => by rw [den_len R' _ hle, lengthN_eq, hlen]⟩
    rw [run_builtin1 _ ho, ← hv]
    have hgo : (getObj (R.at_ a)).run P w = .ok (.map xs cl) w := by simp [getObj, Sem.run, hox]
    simp [builtin, Builtin.len_, run_underlying hu, Sem.run_bind, Result.andThen, hgo]
  · have e := Nat.eq_of_beq_eq_true h10
    subst e
    refine ⟨_, s, hk', snd_value (by rw [ho]; simp) fun D R ρ w h => ⟨goInt 0, ?_, fun R' _ => den_len R' 0 (by omega)⟩⟩
    have hv := h R (Agr.refl _ _)
    simp only [den] at hv
    rw [run_builtin1 _ ho, ← hv]
    simp [builtin, Builtin.len_, run_underlying hu, Sem.run_bind, Result.andThen]

theorem slK_inv {v : V} {k : Nat → Bool} (h : slK v k = true) : ∃ n, k n = true ∧ ∀ R, ∃ a c, den R v = .slice a n c := by
  obtain ⟨t, a, b, c, d, l⟩ := v
  have h' : ifB (Nat.beq t 6) (k c) (ifB (Nat.beq t 7) (k c) (wh (Nat.beq t 8) (k 0))) = true := h
  rw [ifB_iff, ifB_iff, wh_iff] at h'
  rcases h' with ⟨e, h'⟩ | ⟨_, ⟨e, h'⟩ | ⟨_, e, h'⟩⟩
  · have e := Nat.eq_of_beq_eq_true e
    subst e; exact ⟨c, h', fun R => ⟨_, _, by simp only [den]; rfl⟩⟩
  · have e := Nat.eq_of_beq_eq_true e
    subst e; exact ⟨c, h', fun R => ⟨_, _, by simp only [den]; rfl⟩⟩
  · have e := Nat.eq_of_beq_eq_true e
    subst e; exact ⟨0, h', fun R => ⟨_, _, by simp only [den]; rfl⟩⟩

theorem lenL_snd {x : Operand} {t : TypeId} {l : List TypeId} {e : TypeId} (ho : o.op = .call ⟨.builtin .len, #[x], (t :: l).toArray⟩) (hu : P.underlying t = some (.slice e)) {c : OpC} (hf : c1 x lenL = some c) (hx : OpOk P x) (rec : Rec) : OpSnd P ro o (c.f rec) := by
  obtain ⟨f⟩ := c
  refine c1_snd hf hx rec fun v s K hk _ => ?_
  obtain ⟨n, hn, hden⟩ := slK_inv hk
  rw [wh_iff] at hn
  have hle : n ≤ 4294967296 := Nat.le_of_ble_eq_true hn.1
  refine ⟨_, s, hn.2, snd_value (by rw [ho]; simp) fun D R ρ w h => ⟨goInt n, ?_, fun R' _ => den_len R' n hle⟩⟩
  have hv := h R (Agr.refl _ _)
  obtain ⟨ad, cp, hd⟩ := hden R
  rw [run_builtin1 _ ho, ← hv, hd]
  simp [builtin, Builtin.len_, run_underlying hu, Sem.run_bind, Result.andThen]
theorem lenS_snd {x : Operand} {t : TypeId} {l : List TypeId} (ho : o.op = .call ⟨.builtin .len, #[x], (t :: l).toArray⟩) (hu : P.underlying t = some .string) {c : OpC} (hf : c1 x lenS = some c) (hx : OpOk P x) (rec : Rec) : OpSnd P ro o (c.f rec) := by
  obtain ⟨f⟩ := c
  refine c1_snd hf hx rec fun v s K hk _ => ?_
  obtain ⟨tt, n, b, c', d, m⟩ := v
  have hk' : wh (Nat.beq tt 3) (wh (Nat.ble n 4294967296) (K (.mk 38 n 0 0 0 []) s)) = true := hk
  rw [wh_iff, wh_iff] at hk'
  have e := Nat.eq_of_beq_eq_true hk'.1
  subst e
  have hle : n ≤ 4294967296 := Nat.le_of_ble_eq_true hk'.2.1
  refine ⟨_, s, hk'.2.2, snd_value (by rw [ho]; simp) fun D R ρ w h => ⟨goInt n, ?_, fun R' _ => den_len R' n hle⟩⟩
  have hv := h R (Agr.refl _ _)
  simp only [den] at hv
  rw [run_builtin1 _ ho, ← hv]
  simp [builtin, Builtin.len_, run_underlying hu, Sem.run_bind, Result.andThen, text_size]

/-! ### the less and the more of two -/
theorem two_snd {x y : Operand} {ts : Array TypeId} {b : Builtin} {k : Nat} (ho : o.op = .call ⟨.builtin b, #[x, y], ts⟩) {g : Nat → Nat → K1 → Bool}
    (hg : ∀ a c q, g a c q = true → ∃ r, q r = true ∧ ∀ (R : Ren) (cs : Array Bool) (w : World), (builtin b ts o.type cs #[.int (kindOf k) ((kindOf k).wrap a), .int (kindOf k) ((kindOf k).wrap c)]).run P w = .ok (.value (den R r)) w)
    {c : OpC} (hf : c2 x y (pure2 (int2 (Nat.add 32 k) g)) = some c) (hx : OpOk P x) (hy : OpOk P y) (rec : Rec) : OpSnd P ro o (c.f rec) := by
  obtain ⟨f⟩ := c
  refine c2_snd hf hx hy rec fun v u s K hk' _ => ?_
  unfold pure2 at hk'
  obtain ⟨a, b, ⟨b1, c1, d1, l1, rfl⟩, ⟨b2, c2, d2, l2, rfl⟩, hr⟩ := int2_inv hk'
  obtain ⟨r, hq, hrun⟩ := hg a b _ hr
  refine ⟨r, s, hq, snd_value (by rw [ho]; simp) fun D R ρ w h => ⟨den R r, ?_, fun R' ha => ?_⟩⟩
  · have e1 := h.1 R (Agr.refl _ _)
    have e2 := h.2 R (Agr.refl _ _)
    have ek : Nat.add 32 k = k + 32 := Nat.add_comm _ _
    rw [ek, den_int] at e1 e2
    rw [run_builtin2 _ ho, ← e1, ← e2]
    exact hrun R _ w
  · have h1 := hrun R #[] default
    have h2 := hrun R' #[] default
    rw [h1] at h2
    simpa using h2.symm

theorem min_snd {x y : Operand} {ts : Array TypeId} {k : Nat} (hk : k < 8) (ho : o.op = .call ⟨.builtin .min, #[x, y], ts⟩) {c : OpC} (hf : c2 x y (pure2 (minK (Nat.add 32 k) (maskN k) (signN k))) = some c) (hx : OpOk P x) (hy : OpOk P y) (rec : Rec) : OpSnd P ro o (c.f rec) := by
  refine two_snd (k := k) ho (fun a c q h => ?_) hf hx hy rec
  have ek : Nat.add 32 k = k + 32 := Nat.add_comm _ _
  rw [ifB_iff] at h
  rcases h with ⟨hl, h⟩ | ⟨hl, h⟩
  · refine ⟨_, h, fun R cs w => ?_⟩
    have := (leN_iff k a c hk).1 hl
    have hn : ¬ (kindOf k).wrap c < (kindOf k).wrap a := by omega
    rw [ek, den_int]
    simp [builtin, Builtin.min_, Builtin.min2, hn]
  · refine ⟨_, h, fun R cs w => ?_⟩
    have : ¬ (kindOf k).wrap a ≤ (kindOf k).wrap c := fun q => by rw [(leN_iff k a c hk).2 q] at hl; cases hl
    have hn : (kindOf k).wrap c < (kindOf k).wrap a := by omega
    rw [ek, den_int]
    simp [builtin, Builtin.min_, Builtin.min2, hn]
theorem max_snd {x y : Operand} {ts : Array TypeId} {k : Nat} (hk : k < 8) (ho : o.op = .call ⟨.builtin .max, #[x, y], ts⟩) {c : OpC} (hf : c2 x y (pure2 (maxK (Nat.add 32 k) (maskN k) (signN k))) = some c) (hx : OpOk P x) (hy : OpOk P y) (rec : Rec) : OpSnd P ro o (c.f rec) := by
  refine two_snd (k := k) ho (fun a c q h => ?_) hf hx hy rec
  have ek : Nat.add 32 k = k + 32 := Nat.add_comm _ _
  rw [ifB_iff] at h
  rcases h with ⟨hl, h⟩ | ⟨hl, h⟩
  · refine ⟨_, h, fun R cs w => ?_⟩
    have := (leN_iff k a c hk).1 hl
    rw [ek, den_int]
    by_cases hn : (kindOf k).wrap c > (kindOf k).wrap a
    · simp [builtin, Builtin.max_, Builtin.max2, hn]
    · have : (kindOf k).wrap a = (kindOf k).wrap c := by omega
      simp [builtin, Builtin.max_, Builtin.max2, this]
  · refine ⟨_, h, fun R cs w => ?_⟩
    have : ¬ (kindOf k).wrap a ≤ (kindOf k).wrap c := fun q => by rw [(leN_iff k a c hk).2 q] at hl; cases hl
    have hn : ¬ (kindOf k).wrap c > (kindOf k).wrap a := by omega
    rw [ek, den_int]
    simp [builtin, Builtin.max_, Builtin.max2, hn]
end Go.Ev
/- Operations, one by one: maps; comparisons with nil, of pointers, of bools. -/
namespace Go.Ev
variable {P : Program} {E : Env} {ro : Option Nat} {o : Oper}

theorem beq_bool (a : Nat) : Nat.beq a 1 = (a == 1) := Bool.eq_iff_iff.2 (by simp)

/-! ### comparisons -/
theorem equal_eq (t : TypeId) (a b : Value) : Op.equal t a b = Op.equalIn (9999 + 1) t a b := rfl
def BinIs (t : TypeId) (a b : Value) : Prop := binOp .eql t a b = (do let r ← Op.equal t a b; pure (.bool r)) ∧ binOp .neq t a b = (do let r ← Op.equal t a b; pure (.bool (!r)))
/-- what comparing two values comes to -/
def SameOk (P : Program) (t : TypeId) (f : V → V → (Bool → Bool) → Bool) : Prop :=
  ∀ x y k, f x y k = true → ∃ r, k r = true ∧ ∀ D R a b w, Den D R x a → Den D R y b → (∀ X Y op, (eqGuard op t X Y a b).run P w = .ok () w) ∧ (Op.equal t a b).run P w = .ok r w ∧ BinIs t a b

theorem eqC_snd {op : BinOp} {t u : TypeId} {x y : Operand} (ho : o.op = .binOp op t x y u) {g : V → V → (Bool → Bool) → Bool} (hg : SameOk P t g) {b : BinC} (hb : eqC op g = some b) {c : OpC} (hf : c2 x y (pure2 b.f) = some c) (hx : OpOk P x) (hy : OpOk P y) (rec : Rec) : OpSnd P ro o (c.f rec) := by
  obtain ⟨f⟩ := c
  refine c2_snd hf hx hy rec fun v u' s K hk' _ => ?_
  unfold pure2 at hk'
  cases op <;> simp only [eqC] at hb <;> first | (cases hb; done) | skip
  · cases hb
    obtain ⟨r, hr, hrun⟩ := hg _ _ _ hk'
    refine ⟨_, s, hr, snd_value (by rw [ho]; simp) fun D R ρ w h => ⟨.bool r, ?_, fun R' _ => den_bv R' _⟩⟩
    obtain ⟨q1, q2, q3⟩ := hrun D R _ _ w h.1 h.2
    simp only [execOp, ho, q3.1, Sem.run_bind, q1 x y .eql, q2, Result.andThen, Sem.run_pure]
  · cases hb
    obtain ⟨r, hr, hrun⟩ := hg _ _ _ hk'
    refine ⟨_, s, hr, snd_value (by rw [ho]; simp) fun D R ρ w h => ⟨.bool (!r), ?_, fun R' _ => by rw [den_bv, notB_eq]⟩⟩
    obtain ⟨q1, q2, q3⟩ := hrun D R _ _ w h.1 h.2
    simp only [execOp, ho, q3.2, Sem.run_bind, q1 x y .neq, q2, Result.andThen, Sem.run_pure]

theorem sameBool_ok {t : TypeId} (hu : P.underlying t = some .bool) : SameOk P t sameBool := by
  intro x y k h
  obtain ⟨t1, a, b1, c1, d1, l1⟩ := x
  obtain ⟨t2, c, b2, c2, d2, l2⟩ := y
  have h' : wh (Nat.beq t1 2) (wh (Nat.beq t2 2) (k (boolEq (Nat.beq a 1) (Nat.beq c 1)))) = true := h
  rw [wh_iff, wh_iff] at h'
  have e1 := Nat.eq_of_beq_eq_true h'.1
  have e2 := Nat.eq_of_beq_eq_true h'.2.1
  subst e1 e2
  refine ⟨_, h'.2.2, fun D R v u w hv hu' => ?_⟩
  have q1 := hv R (Agr.refl _ _)
  have q2 := hu' R (Agr.refl _ _)
  simp only [den] at q1 q2
  subst q1 q2
  refine ⟨fun X Y op => by simp [eqGuard], ?_, ⟨rfl, rfl⟩⟩
  rw [beq_bool, beq_bool]
  rw [equal_eq, run_equalIn_bool' (h := hu)]
  congr 1
  cases (a == 1) <;> cases (c == 1) <;> rfl

theorem eq_ptr_same {t e : TypeId} (hu : P.underlying t = some (.pointer e)) {y : ATy} (hT : TyOk P e y) (hpos : 1 ≤ y.size) (bk o1 o2 : Nat) (w : World) :
    (Op.equal t (.pointer (some ⟨bk, o1, none⟩)) (.pointer (some ⟨bk, o2, none⟩))).run P w = .ok (Nat.beq o1 o2) w := by
  have h : ∀ d : Nat, (Op.equalIn (d + 1) t (.pointer (some ⟨bk, o1, none⟩)) (.pointer (some ⟨bk, o2, none⟩))).run P w = .ok (Nat.beq o1 o2) w := fun d => by
    have hs := hT.size w
    have hz : y.size ≠ 0 := by omega
    simp [Op.equalIn, run_underlying hu, hs, hz, Sem.run_bind, Result.andThen, sameAddr]
    rw [Bool.eq_iff_iff]
    simp
  rw [equal_eq]; exact h 9999
theorem eq_ptr_nil {t e : TypeId} (hu : P.underlying t = some (.pointer e)) (a b : Option Addr) (h : a = none ∨ b = none) (w : World) :
    (Op.equal t (.pointer a) (.pointer b)).run P w = .ok (a.isNone && b.isNone) w := by
  have h : ∀ d : Nat, (Op.equalIn (d + 1) t (.pointer a) (.pointer b)).run P w = .ok (a.isNone && b.isNone) w := fun d => by
    cases a with
    | none => simp [Op.equalIn, run_underlying hu, Sem.run_bind, Result.andThen]
    | some x =>
      cases b with
      | none => simp [Op.equalIn, run_underlying hu, Sem.run_bind, Result.andThen]
      | some y => simp at h
  rw [equal_eq]; exact h 9999

theorem samePtr_ok {t e : TypeId} (hu : P.underlying t = some (.pointer e)) {y : ATy} (hT : TyOk P e y) (hpos : 1 ≤ y.size) : SameOk P t samePtr := by
  intro x y' k h
  obtain ⟨t1, a, b, c1, d1, l1⟩ := x
  obtain ⟨t2, c, d, c2, d2, l2⟩ := y'
  have h' : ifB (Nat.beq t1 4) (ifB (Nat.beq t2 4) (wh (Nat.beq a c) (k (Nat.beq b d))) (wh (Nat.beq t2 5) (k false)))
    (wh (Nat.beq t1 5) (ifB (Nat.beq t2 5) (k true) (wh (Nat.beq t2 4) (k false)))) = true := h
  have fin : ∀ (r : Bool) (D : Nat → Prop) (R : Ren) (p q v u : Value) (w : World), (∃ p', p = .pointer p') → (∃ q', q = .pointer q') → p = v → q = u → (Op.equal t p q).run P w = .ok r w →
      (∀ X Y op, (eqGuard op t X Y v u).run P w = .ok () w) ∧ (Op.equal t v u).run P w = .ok r w ∧ BinIs t v u := by
    rintro r D R p q v u w ⟨p', rfl⟩ ⟨q', rfl⟩ rfl rfl hr
    exact ⟨fun X Y op => by simp [eqGuard], hr, rfl, rfl⟩
  rw [ifB_iff] at h'
  rcases h' with ⟨e1, h'⟩ | ⟨_, h'⟩
  · have e1 := Nat.eq_of_beq_eq_true e1
    subst e1
    rw [ifB_iff] at h'
    rcases h' with ⟨e2, h'⟩ | ⟨_, h'⟩
    · have e2 := Nat.eq_of_beq_eq_true e2
      subst e2
      rw [wh_iff] at h'
      have e3 := Nat.eq_of_beq_eq_true h'.1
      subst e3
      refine ⟨_, h'.2, fun D R v u w hv hu' => ?_⟩
      have q1 := hv R (Agr.refl _ _)
      have q2 := hu' R (Agr.refl _ _)
      simp only [den] at q1 q2
      have e : Nat.beq (R.base a + b) (R.base a + d) = Nat.beq b d := by
        by_cases hbd : b = d
        · subst hbd; simp
        · rw [beq_false hbd, beq_false (by omega)]
      have hsame := eq_ptr_same hu hT hpos (R.at_ a) (R.base a + b) (R.base a + d) w
      rw [e] at hsame
      exact fin _ D R _ _ v u w ⟨_, rfl⟩ ⟨_, rfl⟩ q1 q2 hsame
    · rw [wh_iff] at h'
      have e2 := Nat.eq_of_beq_eq_true h'.1
      subst e2
      refine ⟨_, h'.2, fun D R v u w hv hu' => ?_⟩
      have q1 := hv R (Agr.refl _ _)
      have q2 := hu' R (Agr.refl _ _)
      simp only [den] at q1 q2
      exact fin _ D R _ _ v u w ⟨_, rfl⟩ ⟨_, rfl⟩ q1 q2 (eq_ptr_nil hu _ _ (.inr rfl) w)
  · rw [wh_iff] at h'
    obtain ⟨e1, h2⟩ := h'
    have e1 := Nat.eq_of_beq_eq_true e1
    subst e1
    rw [ifB_iff] at h2
    rcases h2 with ⟨e2, h2⟩ | ⟨_, h2⟩
    · have e2 := Nat.eq_of_beq_eq_true e2
      subst e2
      refine ⟨_, h2, fun D R v u w hv hu' => ?_⟩
      have q1 := hv R (Agr.refl _ _)
      have q2 := hu' R (Agr.refl _ _)
      simp only [den] at q1 q2
      exact fin _ D R _ _ v u w ⟨_, rfl⟩ ⟨_, rfl⟩ q1 q2 (eq_ptr_nil hu _ _ (.inr rfl) w)
    · rw [wh_iff] at h2
      have e2 := Nat.eq_of_beq_eq_true h2.1
      subst e2
      refine ⟨_, h2.2, fun D R v u w hv hu' => ?_⟩
      have q1 := hv R (Agr.refl _ _)
      have q2 := hu' R (Agr.refl _ _)
      simp only [den] at q1 q2
      exact fin _ D R _ _ v u w ⟨_, rfl⟩ ⟨_, rfl⟩ q1 q2 (eq_ptr_nil hu _ _ (.inl rfl) w)

theorem orB_iff (a b : Bool) : orB a b = true ↔ a = true ∨ b = true := by cases a <;> cases b <;> simp [orB]
/-- what comes of comparing with nil -/
theorem sameNil_inv {z p q : Nat} {x y : V} {k : Bool → Bool} (h : sameNil z p q x y k = true) : ∃ t1 a1 b1 c1 d1 l1 t2 a2 b2 c2 d2 l2, x = .mk t1 a1 b1 c1 d1 l1 ∧ y = .mk t2 a2 b2 c2 d2 l2 ∧
    ((t1 = z ∧ t2 = z ∧ k true = true) ∨ (t1 = z ∧ (t2 = p ∨ t2 = q) ∧ k false = true) ∨ ((t1 = p ∨ t1 = q) ∧ t2 = z ∧ k false = true)) := by
  obtain ⟨t1, a1, b1, c1, d1, l1⟩ := x
  obtain ⟨t2, a2, b2, c2, d2, l2⟩ := y
  refine ⟨_, _, _, _, _, _, _, _, _, _, _, _, rfl, rfl, ?_⟩
  have h' : ifB (Nat.beq t1 z) (ifB (Nat.beq t2 z) (k true) (wh (orB (Nat.beq t2 p) (Nat.beq t2 q)) (k false)))
    (wh (orB (Nat.beq t1 p) (Nat.beq t1 q)) (wh (Nat.beq t2 z) (k false))) = true := h
  rw [ifB_iff, ifB_iff, wh_iff, wh_iff, wh_iff, orB_iff, orB_iff] at h'
  simp only [Nat.beq_eq] at h'
  rcases h' with ⟨h1, ⟨h2, h3⟩ | ⟨_, h2, h3⟩⟩ | ⟨_, h1, h2, h3⟩
  · exact .inl ⟨h1, h2, h3⟩
  · exact .inr (.inl ⟨h1, h2, h3⟩)
  · exact .inr (.inr ⟨h1, h2, h3⟩)

theorem nilSl_ok {t e : TypeId} (hu : P.underlying t = some (.slice e)) : SameOk P t (sameNil 8 6 7) := by
  intro x y k h
  obtain ⟨t1, a1, b1, c1, d1, l1, t2, a2, b2, c2, d2, l2, rfl, rfl, h2⟩ := sameNil_inv h
  rcases h2 with ⟨rfl, rfl, hk⟩ | ⟨rfl, rfl | rfl, hk⟩ | ⟨rfl | rfl, rfl, hk⟩ <;>
  · refine ⟨_, hk, fun D R v u w hv hu' => ?_⟩
    have q1 := hv R (Agr.refl _ _)
    have q2 := hu' R (Agr.refl _ _)
    simp only [den] at q1 q2
    subst q1 q2
    refine ⟨fun X Y op => by simp [eqGuard], ?_, ⟨rfl, rfl⟩⟩
    rw [equal_eq]
    generalize (9999 : Nat) = d
    simp [Op.equalIn, run_underlying hu, Sem.run_bind, Result.andThen]
theorem nilMap_ok {t k' e : TypeId} (hu : P.underlying t = some (.map k' e)) : SameOk P t (sameNil 10 9 9) := by
  intro x y k h
  obtain ⟨t1, a1, b1, c1, d1, l1, t2, a2, b2, c2, d2, l2, rfl, rfl, h2⟩ := sameNil_inv h
  rcases h2 with ⟨rfl, rfl, hk⟩ | ⟨rfl, rfl | rfl, hk⟩ | ⟨rfl | rfl, rfl, hk⟩ <;>
  · refine ⟨_, hk, fun D R v u w hv hu' => ?_⟩
    have q1 := hv R (Agr.refl _ _)
    have q2 := hu' R (Agr.refl _ _)
    simp only [den] at q1 q2
    subst q1 q2
    refine ⟨fun X Y op => by simp [eqGuard], ?_, ⟨rfl, rfl⟩⟩
    rw [equal_eq]
    generalize (9999 : Nat) = d
    simp [Op.equalIn, run_underlying hu, Sem.run_bind, Result.andThen]
theorem nilFunc_ok {t : TypeId} {a b : Array TypeId} {c : Bool} (hu : P.underlying t = some (.func a b c)) : SameOk P t (sameNil 13 11 11) := by
  intro x y k h
  obtain ⟨t1, a1, b1, c1, d1, l1, t2, a2, b2, c2, d2, l2, rfl, rfl, h2⟩ := sameNil_inv h
  rcases h2 with ⟨rfl, rfl, hk⟩ | ⟨rfl, rfl | rfl, hk⟩ | ⟨rfl | rfl, rfl, hk⟩ <;>
  · refine ⟨_, hk, fun D R v u w hv hu' => ?_⟩
    have q1 := hv R (Agr.refl _ _)
    have q2 := hu' R (Agr.refl _ _)
    simp only [den] at q1 q2
    subst q1 q2
    refine ⟨fun X Y op => by simp [eqGuard], ?_, ⟨rfl, rfl⟩⟩
    rw [equal_eq]
    generalize (9999 : Nat) = d
    simp [Op.equalIn, run_underlying hu, Sem.run_bind, Result.andThen]
end Go.Ev
/- Operations, one by one: maps. -/
namespace Go.Ev
variable {P : Program} {E : Env} {ro : Option Nat} {o : Oper}

inductive EReps (D : Nat → Prop) (R : Ren) : List V → List MapEntry → Prop
  | nil : EReps D R [] []
  | cons {e : V} {x : MapEntry} {es : List V} {xs : List MapEntry} : ERep D R e x → EReps D R es xs → EReps D R (e :: es) (x :: xs)

theorem EReps.of {D : Nat → Prop} {R : Ren} : ∀ (es : List V) (xs : List MapEntry), es.length = xs.length → (∀ i (h : i < xs.length), ∃ e, es[i]? = some e ∧ ERep D R e xs[i]) → EReps D R es xs
  | [], [], _, _ => .nil
  | [], x :: xs, h, _ => by simp at h
  | e :: es, [], h, _ => by simp at h
  | e :: es, x :: xs, h, hh => by
    refine .cons ?_ (EReps.of es xs (by simpa using h) fun i hi => ?_)
    · obtain ⟨e', h1, h2⟩ := hh 0 (by simp)
      simp at h1; subst h1; exact h2
    · obtain ⟨e', h1, h2⟩ := hh (i + 1) (by simpa using hi)
      exact ⟨e', by simpa using h1, by simpa using h2⟩
theorem EReps.length {D : Nat → Prop} {R : Ren} {es : List V} {xs : List MapEntry} (h : EReps D R es xs) : es.length = xs.length := by
  induction h with
  | nil => rfl
  | cons _ _ ih => simp [ih]
theorem EReps.get {D : Nat → Prop} {R : Ren} {es : List V} {xs : List MapEntry} (h : EReps D R es xs) : ∀ i (hi : i < xs.length), ∃ e, es[i]? = some e ∧ ERep D R e xs[i] := by
  induction h with
  | nil => intro i hi; simp at hi
  | cons hx _ ih =>
    intro i hi
    cases i with
    | zero => exact ⟨_, rfl, hx⟩
    | succ i => simpa using ih i (by simpa using hi)
theorem EReps.set {D : Nat → Prop} {R : Ren} {es : List V} {xs : List MapEntry} (h : EReps D R es xs) : ∀ i e x, ERep D R e x → EReps D R (es.set i e) (xs.set i x) := by
  induction h with
  | nil => intro i e x _; exact .nil
  | cons hx hh ih =>
    intro i e x he
    cases i with
    | zero => exact .cons he hh
    | succ i => exact .cons hx (ih i e x he)
theorem EReps.erase {D : Nat → Prop} {R : Ren} {es : List V} {xs : List MapEntry} (h : EReps D R es xs) : ∀ i, EReps D R (es.eraseIdx i) (xs.eraseIdx i) := by
  induction h with
  | nil => intro i; exact .nil
  | cons hx hh ih =>
    intro i
    cases i with
    | zero => exact hh
    | succ i => exact .cons hx (ih i)
theorem EReps.append {D : Nat → Prop} {R : Ren} {es : List V} {xs : List MapEntry} (h : EReps D R es xs) {e : V} {x : MapEntry} (hx : ERep D R e x) : EReps D R (es ++ [e]) (xs ++ [x]) := by
  induction h with
  | nil => exact .cons hx .nil
  | cons hy _ ih => exact .cons hy ih

/-- the number that is looked for -/
abbrev keyV (K a : Nat) : Value := .int (kindOf K) ((kindOf K).wrap a)

theorem same1_inv {K a b c d : Nat} {l : List V} {y : V} {k : Bool → Bool} (h : same1 (.mk (32 + K) a b c d l) y k = true) : K < 8 ∧ ∃ a' b' c' d' l', y = .mk (32 + K) a' b' c' d' l' ∧ ∃ r, k r = true ∧ (r = true ↔ (kindOf K).wrap (a : Int) = (kindOf K).wrap (a' : Int)) := by
  obtain ⟨u, a', b', c', d', l'⟩ := y
  have h' : wh (Nat.ble 32 (32 + K)) (wh (Nat.ble (32 + K) 39) (wh (Nat.beq (32 + K) u) (k (Nat.beq (Nat.land a (maskN (Nat.sub (32 + K) 32))) (Nat.land a' (maskN (Nat.sub (32 + K) 32))))))) = true := h
  rw [wh_iff, wh_iff, wh_iff] at h'
  have h39 : 32 + K ≤ 39 := Nat.le_of_ble_eq_true h'.2.1
  have e := Nat.eq_of_beq_eq_true h'.2.2.1
  have ej : Nat.sub (32 + K) 32 = K := Nat.add_sub_cancel_left 32 K
  rw [ej] at h'
  exact ⟨by omega, a', b', c', d', l', by rw [e], _, h'.2.2.2, eqN_iff K a a' (by omega)⟩

theorem erep_key {D : Nat → Prop} {R : Ren} {K a' b' c' d' p q r s : Nat} {l' : List V} {v : V} {x : MapEntry} {t : Nat} (h : ERep D R (.mk t p q r s [.mk (32 + K) a' b' c' d' l', v]) x) : x.key = keyV K a' ∧ Den D R v x.val ∧ V.mk t p q r s [.mk (32 + K) a' b' c' d' l', v] = .mk 17 x.born 0 0 0 [.mk (32 + K) a' b' c' d' l', v] := by
  obtain ⟨k, v', h1, h2, h3⟩ := h
  have h1' := h1
  injection h1' with e1 e2 e3 e4 e5 e6
  simp only [List.cons.injEq, and_true] at e6
  obtain ⟨e6, e7⟩ := e6
  subst e6 e7
  have := h2 R (Agr.refl _ _)
  rw [Nat.add_comm 32 K, den_int] at this
  exact ⟨this.symm, h3, h1⟩

/-- an entry that is found, or none -/
def Found (K a : Nat) (es : List V) (r : Option (Nat × V)) : Prop := ∀ D R xs, EReps D R es xs → ∀ n,
  match r with
  | some (i, v) => ∃ x, xs[i]? = some x ∧ x.key = keyV K a ∧ Den D R v x.val ∧ es[i]? = some (.mk 17 x.born 0 0 0 (match es[i]? with | some (.mk _ _ _ _ _ l) => l | none => [])) ∧ Instr.findNow (.int (kindOf K)) (keyV K a) xs n = some (some (n + i, x.val))
  | none => Instr.findNow (.int (kindOf K)) (keyV K a) xs n = some none

theorem found_hit {K a a' b' c' d' p q r s t : Nat} {l' : List V} {v : V} {es : List V} (he : (kindOf K).wrap (a : Int) = (kindOf K).wrap (a' : Int)) : Found K a (.mk t p q r s [.mk (32 + K) a' b' c' d' l', v] :: es) (some (0, v)) := by
  intro D R xs hx n
  cases hx with
  | cons h1 h2 =>
    rename_i x xs
    obtain ⟨k1, k2, k3⟩ := erep_key h1
    refine ⟨x, rfl, by rw [k1, keyV, keyV, he], k2, ?_, ?_⟩
    · simp only [List.getElem?_cons_zero]
      rw [k3]
    · simp [Instr.findNow, Instr.sameNow, k1, keyV, he]
theorem found_miss {K a a' b' c' d' p q r s t : Nat} {l' : List V} {v : V} {es : List V} {res : Option (Nat × V)} (he : ¬ (kindOf K).wrap (a : Int) = (kindOf K).wrap (a' : Int)) (h : Found K a es res) :
    Found K a (.mk t p q r s [.mk (32 + K) a' b' c' d' l', v] :: es) (res.map fun x => (x.1 + 1, x.2)) := by
  intro D R xs hx n
  cases hx with
  | cons h1 h2 =>
    rename_i x xs
    obtain ⟨k1, k2, k3⟩ := erep_key h1
    have hs : Instr.sameNow (.int (kindOf K)) (keyV K a) x.key = some false := by simp [Instr.sameNow, k1, keyV, he]
    have := h D R xs h2 (n + 1)
    cases res with
    | none =>
      simp only [Option.map_none]
      simp only at this
      simp [Instr.findNow, hs, this]
    | some iv =>
      obtain ⟨i, u⟩ := iv
      obtain ⟨y, q1, q2, q3, q4, q5⟩ := this
      simp only [Option.map_some]
      refine ⟨y, by simpa using q1, q2, q3, ?_, ?_⟩
      · simpa using q4
      · simp [Instr.findNow, hs, q5]
        omega

theorem findK_inv {K a b c d : Nat} {l : List V} : ∀ (es : List V) (k : Option V → Bool), findK (.mk (32 + K) a b c d l) k es = true → ∃ r, k (r.map (·.2)) = true ∧ Found K a es r := by
  intro es
  induction es with
  | nil => intro k h; exact ⟨none, h, fun D R xs hx n => by cases hx; rfl⟩
  | cons e es ih =>
    intro k h
    obtain ⟨t, p, q, r, s, el⟩ := e
    match el, h with
    | [], h => cases h
    | [_], h => cases h
    | _ :: _ :: _ :: _, h => cases h
    | [y, v], h =>
      have h' : same1 (.mk (32 + K) a b c d l) y (fun r => ifB r (k (some v)) (findK (.mk (32 + K) a b c d l) k es)) = true := h
      obtain ⟨hK, a', b', c', d', l', rfl, r', hr, hiff⟩ := same1_inv h'
      rw [ifB_iff] at hr
      rcases hr with ⟨hr1, hr2⟩ | ⟨hr1, hr2⟩
      · exact ⟨some (0, v), hr2, found_hit (hiff.1 hr1)⟩
      · obtain ⟨res, h1, h2⟩ := ih k hr2
        refine ⟨res.map fun x => (x.1 + 1, x.2), by cases res <;> exact h1, found_miss (fun q => ?_) h2⟩
        rw [hiff.2 q] at hr1; cases hr1

/-- the entry of a key, put in or put in its place -/
def putE (K a b c d : Nat) (l : List V) (u : V) (cl : Nat) (es : List V) : Option (Nat × V) → List V
  | some (i, _) => es.set i (match es[i]? with | some (.mk _ p _ _ _ _) => .mk 17 p 0 0 0 [.mk (32 + K) a b c d l, u] | none => und)
  | none => es ++ [.mk 17 cl 0 0 0 [.mk (32 + K) a b c d l, u]]
theorem updK_inv {K a b c d : Nat} {l : List V} {u : V} {cl : Nat} : ∀ (es : List V) (k : List V → Bool), updK (.mk (32 + K) a b c d l) u cl k es = true → ∃ r, k (putE K a b c d l u cl es r) = true ∧ Found K a es r := by
  intro es
  induction es with
  | nil => intro k h; exact ⟨none, h, fun D R xs hx n => by cases hx; rfl⟩
  | cons e es ih =>
    intro k h
    obtain ⟨t, p, q, r, s, el⟩ := e
    match el, h with
    | [], h => cases h
    | [_], h => cases h
    | _ :: _ :: _ :: _, h => cases h
    | [y, v], h =>
      have h' : same1 (.mk (32 + K) a b c d l) y (fun q' => ifB q' (k (.mk 17 p 0 0 0 [.mk (32 + K) a b c d l, u] :: es)) (updK (.mk (32 + K) a b c d l) u cl (fun r' => k (.mk t p q r s [y, v] :: r')) es)) = true := h
      obtain ⟨hK, a', b', c', d', l', rfl, r', hr, hiff⟩ := same1_inv h'
      rw [ifB_iff] at hr
      rcases hr with ⟨hr1, hr2⟩ | ⟨hr1, hr2⟩
      · exact ⟨some (0, v), hr2, found_hit (hiff.1 hr1)⟩
      · obtain ⟨res, h1, h2⟩ := ih _ hr2
        refine ⟨res.map fun x => (x.1 + 1, x.2), ?_, found_miss (fun q => ?_) h2⟩
        · cases res with
          | none => exact h1
          | some iv => exact h1
        · rw [hiff.2 q] at hr1; cases hr1
def cutE (es : List V) : Option (Nat × V) → List V
  | some (i, _) => es.eraseIdx i
  | none => es
theorem delK_inv {K a b c d : Nat} {l : List V} : ∀ (es : List V) (k : List V → Bool), delK (.mk (32 + K) a b c d l) k es = true → ∃ r, k (cutE es r) = true ∧ Found K a es r := by
  intro es
  induction es with
  | nil => intro k h; exact ⟨none, h, fun D R xs hx n => by cases hx; rfl⟩
  | cons e es ih =>
    intro k h
    obtain ⟨t, p, q, r, s, el⟩ := e
    match el, h with
    | [], h => cases h
    | [_], h => cases h
    | _ :: _ :: _ :: _, h => cases h
    | [y, v], h =>
      have h' : same1 (.mk (32 + K) a b c d l) y (fun q' => ifB q' (k es) (delK (.mk (32 + K) a b c d l) (fun r' => k (.mk t p q r s [y, v] :: r')) es)) = true := h
      obtain ⟨hK, a', b', c', d', l', rfl, r', hr, hiff⟩ := same1_inv h'
      rw [ifB_iff] at hr
      rcases hr with ⟨hr1, hr2⟩ | ⟨hr1, hr2⟩
      · exact ⟨some (0, v), hr2, found_hit (hiff.1 hr1)⟩
      · obtain ⟨res, h1, h2⟩ := ih _ hr2
        refine ⟨res.map fun x => (x.1 + 1, x.2), ?_, found_miss (fun q => ?_) h2⟩
        · cases res with
          | none => exact h1
          | some iv => exact h1
        · rw [hiff.2 q] at hr1; cases hr1

theorem isN_inv {K : Nat} {v : V} (h : isN (Nat.add 32 K) v = true) : ∃ a b c d l, v = .mk (32 + K) a b c d l := by
  obtain ⟨t, a, b, c, d, l⟩ := v
  have := Nat.eq_of_beq_eq_true h
  exact ⟨a, b, c, d, l, by rw [this]; rfl⟩

theorem checkKey_int {kt : TypeId} {K : IntKind} (hk : P.underlying kt = some (.int K)) (e : Bool) (v : Value) (w : World) : (Instr.checkKey e 10000 kt v).run P w = .ok () w := by
  have h : ∀ d : Nat, (Instr.checkKey e (d + 1) kt v).run P w = .ok () w := fun d => by
    simp [Instr.checkKey, run_underlying hk, Sem.run_bind, Result.andThen]
  exact h 9999
theorem findKey_now {kt : TypeId} {K : Nat} (hk : P.underlying kt = some (.int (kindOf K))) {v : Value} {es : List MapEntry} {r : Option (Nat × Value)} (h : Instr.findNow (.int (kindOf K)) v es 0 = some r) (w : World) : (Instr.findKey kt v es).run P w = .ok r w := by
  simp [Instr.findKey, run_underlying hk, Sem.run_bind, Result.andThen, h]

theorem den_key (R : Ren) (K a b c d : Nat) (l : List V) : den R (.mk (32 + K) a b c d l) = keyV K a := by rw [Nat.add_comm 32 K, den_int]

theorem mpRep {D : Nat → Prop} {R : Ren} {id : Nat} {es : List V} {cl : Nat} {ob : Option Obj} (h : BRep P D R id (.mp es cl) ob) : ∃ xs, ob = some (.map xs cl) ∧ EReps D R es xs.toList := by
  obtain ⟨xs, h1, h2, h3⟩ := h
  exact ⟨xs, h1, EReps.of es xs.toList (by simpa using h2) fun i hi => by simpa using h3 i (by simpa using hi)⟩
theorem mpRep_of {D : Nat → Prop} {R : Ren} {id : Nat} {es : List V} {cl : Nat} {xs : Array MapEntry} (h : EReps D R es xs.toList) : BRep P D R id (.mp es cl) (some (.map xs cl)) :=
  ⟨xs, rfl, by simpa using h.length, fun i hi => by have := h.get i (by simpa using hi); rwa [Array.getElem_toList] at this⟩

/-! ### the operations -/
theorem makeMap_snd {t : TypeId} {r : Option Operand} (ho : o.op = .makeMap t r) {f : Tm → (Option V → Bool) → Bool} (hr : accO r = some ⟨f⟩) (hok : ∀ y, r = some y → OpOk P y) (hu : r.isSome = true → ∃ k e, P.underlying t = some (.map k e)) :
    OpSnd P ro o (fun T s K => f T (fun v => kMap v s K)) := by
  intro F s K h ⟨G, hG⟩
  obtain ⟨ov, hk, hcase⟩ := accO_snd (P := P) hr h hok
  have made : ∀ (s' : St), fresh s (.mp [] 0) (fun id s => K (.mk 9 id 0 0 0 []) s) = true → (∀ D R (tmps : Array Value) w, Slots D R F tmps → Glob P D R → (execOp (evalT tmps) o).run P w = .ok (.value (.map (some w.heap.size))) (w.alloc (.map #[] 0))) →
      ∃ v s', K v s' = true ∧ Snd P (OpDoes P ro o F) (fun D R x => Den D R v x) s s' := by
    intro _ hf hrun
    obtain ⟨hn, hk⟩ := fresh_eq hG _ _ hf
    refine ⟨_, _, hk, Snd.make hG hn trivial (fun D R w hD tmps hs hg => ?_) OpDoes.mono⟩
    refine does_value (by rw [ho]; simp) (hrun D R tmps w hs hg) ⟨.map #[] 0, 0, rfl, fun R' ha hat _ _ => ⟨mpRep_of .nil, fun R'' ha'' => ?_⟩⟩
    simp only [den]
    rw [(ha'' s.nx (.inr ⟨Nat.le_refl _, Nat.lt_succ_self _⟩)).1, hat]
  rcases hcase with ⟨hn, rfl⟩ | ⟨y, v, hy, rfl, hden⟩
  · exact made s hk fun D R tmps w hs hg => by subst hn; simp [execOp, ho, Instr.makeMap, Result.andThen]
  · obtain ⟨tt, a, b, c, d, l⟩ := v
    have hk' : wh (Nat.ble 32 tt) (fresh s (.mp [] 0) (fun id s => K (.mk 9 id 0 0 0 []) s)) = true := hk
    rw [wh_iff] at hk'
    obtain ⟨j, rfl⟩ : ∃ j, tt = j + 32 := ⟨tt - 32, by have : 32 ≤ tt := Nat.le_of_ble_eq_true hk'.1; omega⟩
    obtain ⟨k, e, hu'⟩ := hu (by rw [hy]; rfl)
    refine made s hk'.2 fun D R tmps w hs hg => ?_
    subst hy
    have hv := hden D R tmps hs hg R (Agr.refl _ _)
    rw [den_int] at hv
    simp [execOp, ho, Instr.makeMap, run_underlying hu', Sem.run_bind, Result.andThen, ← hv, asInt, asIntOf]
theorem zeroOf_den {t : TypeId} {y : ATy} (hT : TyOk P t y) {z : V} (hz : zeroOf y = some z) : ∃ zv, (∀ w, (zeroValue t).run P w = .ok zv w) ∧ ∀ R, den R z = zv := by
  obtain ⟨zv, h1, h2, h3, h4⟩ := hT.zeroV
  refine ⟨zv, h1, fun R => ?_⟩
  have hc := h2 R
  obtain ⟨n, g, zs, kd⟩ := y
  cases g with
  | true =>
    cases hz
    obtain ⟨xs, rfl⟩ := h4 rfl
    simp only [den]
    have hc : cellsOf R zs = xs.toList := hc
    rw [hc]
  | false =>
    have hna := h3 rfl
    have hcell : zv.cells.toList = [zv] := by
      cases zv <;> first | rfl | exact absurd rfl (hna _)
    rw [hcell] at hc
    have hc : cellsOf R zs = [zv] := hc
    have hz : zeroOne zs = some z := hz
    match zs, hz, hc with
    | [], hz, _ => cases hz
    | _ :: _ :: _, hz, _ => cases hz
    | [.mk tt a b c d m], hz, hc =>
      have hz : (match Nat.beq tt 16 with
        | true => (match Nat.beq a 1 with | true => some (V.mk 33 (byteAt b 0) 0 0 0 []) | false => none)
        | false => some (V.mk tt a b c d m)) = some z := hz
      by_cases h16 : tt = 16
      · subst h16
        by_cases ha : a = 1
        · subst ha
          cases hz
          simp only [cellsOf, List.append_nil] at hc
          have e : bytesOf 1 b = [.int .u8 (byteAt b 0)] := rfl
          rw [e] at hc
          have hzv : zv = .int .u8 (byteAt b 0) := by simpa using hc.symm
          have := den_int R 1 (byteAt b 0) 0 0 0 []
          rw [show 1 + 32 = 33 from rfl] at this
          rw [this, hzv]
          show Value.int .u8 ((IntKind.u8).wrap _) = _
          congr 1
          have hl := byteAt_lt b 0
          have := wrap_ext 1 (byteAt b 0) (by omega) (by simp [kindOf, IntKind.bits]; omega)
          have e : Nat.land (byteAt b 0) (signN 1) = 0 := Nat.and_zero _
          rw [if_pos e] at this
          exact this
        · have e1 : Nat.beq 16 16 = true := rfl
          rw [e1, beq_false ha] at hz
          cases hz
      · rw [beq_false h16] at hz
        cases hz
        have hx : cellsOf R [.mk tt a b c d m] = [den R (.mk tt a b c d m)] := by
          simp only [cellsOf, List.append_nil]
        rw [hx] at hc
        simpa using hc

theorem lookup_snd {t kt e : TypeId} {x i : Operand} {ok : Bool} (ho : o.op = .lookup t x i ok) (hu : P.underlying t = some (.map kt e)) {K : Nat} (hk : P.underlying kt = some (.int (kindOf K))) {y : ATy} (hT : TyOk P e y) {z : V} (hz : zeroOf y = some z)
    {c : OpC} (hf : c2 x i (kLookup (Nat.add 32 K) z ok) = some c) (hx : OpOk P x) (hi : OpOk P i) (rec : Rec) : OpSnd P ro o (c.f rec) := by
  obtain ⟨f⟩ := c
  obtain ⟨zv, hz1, hz2⟩ := zeroOf_den hT hz
  refine c2_snd hf hx hi rec fun v u s Kc hkk ⟨G, hG⟩ => ?_
  obtain ⟨tt, a, b, c', d, l⟩ := v
  have hk' : wh (isN (Nat.add 32 K) u) (ifB (Nat.beq tt 10) (found ok z false (fun v => Kc v s))
    (wh (Nat.beq tt 9) (look s a (fun b s => mapB b (fun es _ => findK u (fun r => match r with
      | some v => found ok v true (fun v => Kc v s)
      | none => found ok z false (fun v => Kc v s)) es))))) = true := hkk
  rw [wh_iff, ifB_iff, wh_iff] at hk'
  obtain ⟨hN, hk'⟩ := hk'
  obtain ⟨ka, kb, kc, kd, kl, rfl⟩ := isN_inv hN
  -- what is answered
  have ans : ∀ (v : V) (bo : Bool) (s' : St), found ok v bo (fun v => Kc v s') = true → ∃ r, Kc r s' = true ∧ ∀ (D : Nat → Prop) (R : Ren) (val : Value), Den D R v val → Den D R r (if ok then .tuple #[val, .bool bo] else val) := by
    intro v bo s' h
    cases ok with
    | true =>
      refine ⟨.mk 15 0 0 0 0 [v, bv bo], h, fun D R val hv R' ha => ?_⟩
      simp only [den, denL, hv R' ha, den_bv]; rfl
    | false => exact ⟨v, h, fun D R val hv => hv⟩
  rcases hk' with ⟨h10, hk'⟩ | ⟨_, h9, hk'⟩
  · have e10 := Nat.eq_of_beq_eq_true h10
    subst e10
    obtain ⟨r, hr, hden⟩ := ans _ _ _ hk'
    refine ⟨r, s, hr, snd_value (by rw [ho]; simp) fun D R ρ w h => ⟨_, ?_, hden D R zv (fun R' _ => hz2 R')⟩⟩
    have q1 := h.1 R (Agr.refl _ _)
    have q2 := h.2 R (Agr.refl _ _)
    simp only [den] at q1
    rw [den_key] at q2
    simp only [execOp, ho, ← q1, ← q2, Instr.lookup]
    simp [run_underlying hu, Sem.run_bind, Result.andThen, checkKey_int hk, findKey_now hk (es := []) (r := none) rfl, hz1]
  · have e9 := Nat.eq_of_beq_eq_true h9
    subst e9
    obtain ⟨hid, hk2⟩ := look_eq hG a _ hk'
    obtain ⟨es, cl, hb, hk3⟩ := mapB_inv hk2
    obtain ⟨res, hk4, hfound⟩ := findK_inv es _ hk3
    cases res with
    | none =>
      obtain ⟨r, hr, hden⟩ := ans _ _ _ hk4
      refine ⟨r, _, hr, Snd.read hid (fun G' hG' => by rw [wf_unique hG hG', Al, hb]; simp) (fun G' hG' D R w hD hlt hrep ρ h => ?_) OpA.mono⟩
      rw [wf_unique hG hG', hb] at hrep
      obtain ⟨xs, hox, hxs⟩ := mpRep hrep
      have hnow := hfound D R _ hxs 0
      refine does_value (v := if ok then .tuple #[zv, .bool false] else zv) (by rw [ho]; simp) ?_ ⟨rfl, hden D R zv (fun R' _ => hz2 R')⟩
      have q1 := h.1 R (Agr.refl _ _)
      have q2 := h.2 R (Agr.refl _ _)
      simp only [den] at q1
      rw [den_key] at q2
      have hgo : (getObj (R.at_ a)).run P w = .ok (.map xs cl) w := by simp [getObj, Sem.run, hox]
      simp only [execOp, ho, ← q1, ← q2, Instr.lookup]
      simp [run_underlying hu, Sem.run_bind, Result.andThen, checkKey_int hk, hgo, findKey_now hk hnow, hz1]
    | some iv =>
      obtain ⟨ii, v⟩ := iv
      obtain ⟨r, hr, hden⟩ := ans _ _ _ hk4
      refine ⟨r, _, hr, Snd.read hid (fun G' hG' => by rw [wf_unique hG hG', Al, hb]; simp) (fun G' hG' D R w hD hlt hrep ρ h => ?_) OpA.mono⟩
      rw [wf_unique hG hG', hb] at hrep
      obtain ⟨xs, hox, hxs⟩ := mpRep hrep
      obtain ⟨x, x1, x2, x3, x4, hnow⟩ := hfound D R _ hxs 0
      refine does_value (v := if ok then .tuple #[x.val, .bool true] else x.val) (by rw [ho]; simp) ?_ ⟨rfl, hden D R x.val x3⟩
      have q1 := h.1 R (Agr.refl _ _)
      have q2 := h.2 R (Agr.refl _ _)
      simp only [den] at q1
      rw [den_key] at q2
      have hgo : (getObj (R.at_ a)).run P w = .ok (.map xs cl) w := by simp [getObj, Sem.run, hox]
      simp only [execOp, ho, ← q1, ← q2, Instr.lookup]
      simp [run_underlying hu, Sem.run_bind, Result.andThen, checkKey_int hk, hgo, findKey_now hk hnow]
end Go.Ev
/- Operations, one by one: maps that are changed. -/
namespace Go.Ev
variable {P : Program} {E : Env} {ro : Option Nat} {o : Oper}

theorem setObj_map {w : World} {r : Nat} {es : Array MapEntry} {cl : Nat} (h : w.heap[r]? = some (.map es cl)) (ob : Obj) : (setObj r ob).run P w = .ok () { w with heap := w.heap.setIfInBounds r ob } := by
  simp [setObj, Sem.run, h]

theorem keyStays_int (K : IntKind) (n : Int) (w : World) : (Instr.keyThatStays (.int K n) (.int K n)).run P w = .ok (.int K n) w := by
  simp [Instr.keyThatStays, Instr.sameBits]

theorem update_snd {t kt e : TypeId} {m i x : Operand} (ho : o.op = .mapUpdate t m i x) (hu : P.underlying t = some (.map kt e)) {K : Nat} (hk : P.underlying kt = some (.int (kindOf K)))
    {c : OpC} (hf : c3 m i x (kUpdate (Nat.add 32 K)) = some c) (hm : OpOk P m) (hi : OpOk P i) (hx : OpOk P x) (rec : Rec) : OpSnd P ro o (c.f rec) := by
  obtain ⟨f⟩ := c
  refine c3_snd hf hm hi hx rec fun v u y s Kc hkk ⟨G, hG⟩ => ?_
  obtain ⟨tt, a, b, c', d, l⟩ := v
  have hk' : wh (isN (Nat.add 32 K) u) (wh (Nat.beq tt 9) (look s a (fun b s => mapB b (fun es c => findK u (fun r => updK u y c (fun es => match r with
    | some _ => lay s a (.mp es c) (fun s => Kc und s)
    | none => lay s a (.mp es (Nat.add c 1)) (fun s => Kc und s)) es) es)))) = true := hkk
  rw [wh_iff, wh_iff] at hk'
  obtain ⟨hN, h9, hk'⟩ := hk'
  obtain ⟨ka, kb, kc, kd, kl, rfl⟩ := isN_inv hN
  have e9 := Nat.eq_of_beq_eq_true h9
  subst e9
  obtain ⟨hid, hk2⟩ := look_eq hG a _ hk'
  obtain ⟨es, cl, hb, hk3⟩ := mapB_inv hk2
  obtain ⟨res, hk4, hfound⟩ := findK_inv es _ hk3
  obtain ⟨res', hk5, hfound'⟩ := updK_inv es _ hk4
  cases res with
  | none =>
    have hk6 := lay_ok hG hk5
    refine ⟨und, _, hk6, Snd.write hG hid (by rw [Al, hb]; simp) trivial (fun D R w hD hlt hrep ρ h => ?_) OpA.mono⟩
    rw [hb] at hrep
    obtain ⟨xs, hox, hxs⟩ := mpRep hrep
    have hnow := hfound D R _ hxs 0
    have hr' : res' = none := by
      cases res' with
      | none => rfl
      | some iv =>
        obtain ⟨y', _, _, _, _, hn⟩ := hfound' D R _ hxs 0
        simp only at hnow
        rw [hnow] at hn; cases hn
    subst hr'
    have q1 := h.1 R (Agr.refl _ _)
    have q2 := h.2.1 R (Agr.refl _ _)
    simp only [den] at q1
    rw [den_key] at q2
    have hgo : (getObj (R.at_ a)).run P w = .ok (.map xs cl) w := by simp [getObj, Sem.run, hox]
    refine does_skip (by rw [ho]; simp) (w' := { w with heap := w.heap.setIfInBounds (R.at_ a) (.map (xs.push { key := keyV K ka, val := ρ x, born := cl }) (cl + 1)) }) ?_ ⟨⟨_, rfl, ?_⟩, fun R' _ => den_und R'⟩
    · simp only [execOp, ho, ← q1, ← q2, Instr.mapUpdate]
      simp [run_underlying hu, Sem.run_bind, Result.andThen, checkKey_int hk, hgo, findKey_now hk hnow, setObj_map hox]
    · refine mpRep_of ?_
      rw [Array.toList_push]
      exact hxs.append ⟨_, _, rfl, fun R' ha => by rw [den_key], h.2.2⟩
  | some iv =>
    obtain ⟨ii, v'⟩ := iv
    have hk6 := lay_ok hG hk5
    refine ⟨und, _, hk6, Snd.write hG hid (by rw [Al, hb]; simp) trivial (fun D R w hD hlt hrep ρ h => ?_) OpA.mono⟩
    rw [hb] at hrep
    obtain ⟨xs, hox, hxs⟩ := mpRep hrep
    obtain ⟨x1, p1, p2, p3, p4, hnow⟩ := hfound D R _ hxs 0
    have hr' : ∃ v'', res' = some (ii, v'') := by
      cases res' with
      | none =>
        have hn := hfound' D R _ hxs 0
        simp only at hn
        rw [hnow] at hn; cases hn
      | some jv =>
        obtain ⟨jj, v''⟩ := jv
        obtain ⟨y', _, _, _, _, hn⟩ := hfound' D R _ hxs 0
        rw [hnow] at hn
        simp only [Option.some.injEq, Prod.mk.injEq] at hn
        refine ⟨v'', ?_⟩
        have : ii = jj := by omega
        rw [this]
    obtain ⟨v'', rfl⟩ := hr'
    have q1 := h.1 R (Agr.refl _ _)
    have q2 := h.2.1 R (Agr.refl _ _)
    simp only [den] at q1
    rw [den_key] at q2
    have hgo : (getObj (R.at_ a)).run P w = .ok (.map xs cl) w := by simp [getObj, Sem.run, hox]
    have hget : xs[ii]? = some x1 := by rw [← Array.getElem?_toList]; exact p1
    have hstay : (Instr.keyThatStays (((xs[ii]?).map (·.key)).getD (keyV K ka)) (keyV K ka)).run P w = .ok (keyV K ka) w := by
      rw [hget]
      simp only [Option.map_some, Option.getD_some, p2]
      exact keyStays_int _ _ w
    refine does_skip (by rw [ho]; simp) (w' := { w with heap := w.heap.setIfInBounds (R.at_ a) (.map (xs.modify ii fun e => { e with key := keyV K ka, val := ρ x }) cl) }) ?_ ⟨⟨_, rfl, ?_⟩, fun R' _ => den_und R'⟩
    · simp only [execOp, ho, ← q1, ← q2, Instr.mapUpdate]
      have hnow' : Instr.findNow (.int (kindOf K)) (keyV K ka) xs.toList 0 = some (some (ii, x1.val)) := by rw [hnow, Nat.zero_add]
      simp only [run_underlying hu, Sem.run_bind, Result.andThen, checkKey_int hk, hgo, findKey_now hk hnow', hstay, setObj_map hox]
      rfl
    · refine mpRep_of ?_
      have hlen : ii < xs.size := by
        rcases Nat.lt_or_ge ii xs.size with q | q
        · exact q
        · rw [Array.getElem?_eq_none q] at hget; cases hget
      have hmod : (xs.modify ii fun e => { e with key := keyV K ka, val := ρ x }).toList = xs.toList.set ii { x1 with key := keyV K ka, val := ρ x } := by
        refine List.ext_getElem? fun j => ?_
        rw [Array.getElem?_toList, Array.getElem?_modify, List.getElem?_set]
        by_cases hj : ii = j
        · subst hj
          have hx1 : xs[ii] = x1 := by simpa [hlen] using hget
          simp [hlen, hx1]
        · simp [hj]
      rw [hmod]
      simp only [putE]
      refine hxs.set ii _ _ ?_
      rw [p4]
      exact ⟨_, _, rfl, fun R' ha => by rw [den_key], h.2.2⟩

theorem delete_snd {t kt e : TypeId} {l : List TypeId} {m x : Operand} (ho : o.op = .call ⟨.builtin .delete, #[m, x], (t :: l).toArray⟩) (hu : P.underlying t = some (.map kt e)) {K : Nat} (hk : P.underlying kt = some (.int (kindOf K)))
    {c : OpC} (hf : c2 m x (deleteK (Nat.add 32 K)) = some c) (hm : OpOk P m) (hx : OpOk P x) (rec : Rec) : OpSnd P ro o (c.f rec) := by
  obtain ⟨f⟩ := c
  refine c2_snd hf hm hx rec fun v u s Kc hkk ⟨G, hG⟩ => ?_
  obtain ⟨tt, a, b, c', d, ll⟩ := v
  have hk' : wh (isN (Nat.add 32 K) u) (ifB (Nat.beq tt 10) (Kc und s) (wh (Nat.beq tt 9) (look s a (fun b s => mapB b (fun es c => delK u (fun es => lay s a (.mp es c) (fun s => Kc und s)) es))))) = true := hkk
  rw [wh_iff, ifB_iff, wh_iff] at hk'
  obtain ⟨hN, hk'⟩ := hk'
  obtain ⟨ka, kb, kc, kd, kl, rfl⟩ := isN_inv hN
  rcases hk' with ⟨h10, hk'⟩ | ⟨_, h9, hk'⟩
  · have e10 := Nat.eq_of_beq_eq_true h10
    subst e10
    refine ⟨und, s, hk', snd_value (by rw [ho]; simp) fun D R ρ w h => ⟨.tuple #[], ?_, fun R' _ => den_und R'⟩⟩
    have q1 := h.1 R (Agr.refl _ _)
    have q2 := h.2 R (Agr.refl _ _)
    simp only [den] at q1
    rw [den_key] at q2
    rw [run_builtin2 _ ho, ← q1, ← q2]
    simp [builtin, Builtin.delete_, run_underlying hu, Sem.run_bind, Result.andThen, checkKey_int hk]
  · have e9 := Nat.eq_of_beq_eq_true h9
    subst e9
    obtain ⟨hid, hk2⟩ := look_eq hG a _ hk'
    obtain ⟨es, cl, hb, hk3⟩ := mapB_inv hk2
    obtain ⟨res, hk4, hfound⟩ := delK_inv es _ hk3
    have hk6 := lay_ok hG hk4
    refine ⟨und, _, hk6, Snd.write hG hid (by rw [Al, hb]; simp) trivial (fun D R w hD hlt hrep ρ h => ?_) OpA.mono⟩
    rw [hb] at hrep
    obtain ⟨xs, hox, hxs⟩ := mpRep hrep
    have q1 := h.1 R (Agr.refl _ _)
    have q2 := h.2 R (Agr.refl _ _)
    simp only [den] at q1
    rw [den_key] at q2
    have hgo : (getObj (R.at_ a)).run P w = .ok (.map xs cl) w := by simp [getObj, Sem.run, hox]
    cases res with
    | none =>
      have hnow := hfound D R _ hxs 0
      refine does_value (v := .tuple #[]) (by rw [ho]; simp) (w' := { w with heap := w.heap.setIfInBounds (R.at_ a) (.map xs cl) }) ?_ ⟨⟨_, rfl, mpRep_of hxs⟩, fun R' _ => den_und R'⟩
      rw [run_builtin2 _ ho, ← q1, ← q2]
      simp [builtin, Builtin.delete_, run_underlying hu, Sem.run_bind, Result.andThen, checkKey_int hk, hgo, findKey_now hk hnow, setObj_map hox]
    | some iv =>
      obtain ⟨ii, v'⟩ := iv
      obtain ⟨x1, p1, p2, p3, p4, hnow⟩ := hfound D R _ hxs 0
      rw [Nat.zero_add] at hnow
      refine does_value (v := .tuple #[]) (by rw [ho]; simp) (w' := { w with heap := w.heap.setIfInBounds (R.at_ a) (.map (xs.eraseIdxIfInBounds ii) cl) }) ?_ ⟨⟨_, rfl, mpRep_of ?_⟩, fun R' _ => den_und R'⟩
      · rw [run_builtin2 _ ho, ← q1, ← q2]
        simp [builtin, Builtin.delete_, run_underlying hu, Sem.run_bind, Result.andThen, checkKey_int hk, hgo, findKey_now hk hnow, setObj_map hox]
      · have he : (xs.eraseIdxIfInBounds ii).toList = xs.toList.eraseIdx ii := by
          unfold Array.eraseIdxIfInBounds
          split
          · simp
          · rename_i hh
            rw [List.eraseIdx_of_length_le]
            simpa using hh
        rw [he]
        exact hxs.erase ii

theorem clearM_snd {t kt e : TypeId} {l : List TypeId} {x : Operand} (ho : o.op = .call ⟨.builtin .clear, #[x], (t :: l).toArray⟩) (hu : P.underlying t = some (.map kt e))
    {c : OpC} (hf : c1 x clearM = some c) (hx : OpOk P x) (rec : Rec) : OpSnd P ro o (c.f rec) := by
  obtain ⟨f⟩ := c
  refine c1_snd hf hx rec fun v s Kc hkk ⟨G, hG⟩ => ?_
  obtain ⟨tt, a, b, c', d, ll⟩ := v
  have hk' : ifB (Nat.beq tt 10) (Kc und s) (wh (Nat.beq tt 9) (look s a (fun b s => mapB b (fun _ c => lay s a (.mp [] c) (fun s => Kc und s))))) = true := hkk
  rw [ifB_iff, wh_iff] at hk'
  rcases hk' with ⟨h10, hk'⟩ | ⟨_, h9, hk'⟩
  · have e10 := Nat.eq_of_beq_eq_true h10
    subst e10
    refine ⟨und, s, hk', snd_value (by rw [ho]; simp) fun D R ρ w h => ⟨.tuple #[], ?_, fun R' _ => den_und R'⟩⟩
    have q1 := h R (Agr.refl _ _)
    simp only [den] at q1
    rw [run_builtin1 _ ho, ← q1]
    simp [builtin, Builtin.clear_, run_underlying hu, Result.andThen]
  · have e9 := Nat.eq_of_beq_eq_true h9
    subst e9
    obtain ⟨hid, hk2⟩ := look_eq hG a _ hk'
    obtain ⟨es, cl, hb, hk3⟩ := mapB_inv hk2
    have hk6 := lay_ok hG hk3
    refine ⟨und, _, hk6, Snd.write hG hid (by rw [Al, hb]; simp) trivial (fun D R w hD hlt hrep ρ h => ?_) OpA.mono⟩
    rw [hb] at hrep
    obtain ⟨xs, hox, hxs⟩ := mpRep hrep
    have q1 := h R (Agr.refl _ _)
    simp only [den] at q1
    have hgo : (getObj (R.at_ a)).run P w = .ok (.map xs cl) w := by simp [getObj, Sem.run, hox]
    refine does_value (v := .tuple #[]) (by rw [ho]; simp) (w' := { w with heap := w.heap.setIfInBounds (R.at_ a) (.map #[] cl) }) ?_ ⟨⟨_, rfl, mpRep_of .nil⟩, fun R' _ => den_und R'⟩
    rw [run_builtin1 _ ho, ← q1]
    simp [builtin, Builtin.clear_, run_underlying hu, Sem.run_bind, Result.andThen, hgo, setObj_map hox]
end Go.Ev
/- Operations, one by one: structs, arrays and slices that are built. -/
namespace Go.Ev
variable {P : Program} {E : Env} {ro : Option Nat} {o : Oper}

theorem accP_snd {l : List (Nat × Operand)} : ∀ {f : Tm → (List (Nat × V) → Bool) → Bool}, accP l = some ⟨f⟩ → ∀ {F : Nat → V} {K : List (Nat × V) → Bool}, f (mk2 F) K = true → (∀ x ∈ l, OpOk P x.2) →
    ∃ vs, K vs = true ∧ ∀ D R tmps, Slots D R F tmps → Glob P D R → ∀ R', Agr D R R' → (vs.map fun x => (x.1, den R' x.2)) = l.map fun x => (x.1, evalT tmps x.2) := by
  induction l with
  | nil =>
    intro f hf F K h _
    cases hf
    exact ⟨[], h, fun _ _ _ _ _ _ _ => rfl⟩
  | cons x l ih =>
    intro f hf F K h hg
    obtain ⟨i, x⟩ := x
    have hf' : (match acc x with
      | some ⟨f⟩ => (match accP l with | some ⟨g⟩ => some (⟨fun T K => f T (fun v => g T (fun r => K ((i, v) :: r)))⟩ : AccP) | none => none)
      | none => none) = some ⟨f⟩ := hf
    cases hx : acc x with
    | none => rw [hx] at hf'; cases hf'
    | some q =>
      obtain ⟨fx⟩ := q
      rw [hx] at hf'
      cases hl : accP l with
      | none => rw [hl] at hf'; cases hf'
      | some q =>
        obtain ⟨fl⟩ := q
        rw [hl] at hf'
        cases hf'
        obtain ⟨v, hv, h1⟩ := acc_snd (P := P) hx h (hg (i, x) (by simp))
        obtain ⟨vs, hvs, h2⟩ := ih hl hv (fun y hy => hg y (by simp [hy]))
        refine ⟨(i, v) :: vs, hvs, fun D R tmps hs hG R' ha => ?_⟩
        simp only [List.map_cons, h1 D R tmps hs hG R' ha, h2 D R tmps hs hG R' ha]

/-- cells that are set one behind the other -/
theorem set_run : ∀ (vs : List Value) (k off : Nat) (cs : Array Value), off + k + vs.length ≤ cs.size →
    ((vs.zipIdx k).foldl (fun (cs : Array Value) (p : Value × Nat) => cs.setIfInBounds (off + p.2) p.1) cs).toList = cs.toList.take (off + k) ++ (vs ++ cs.toList.drop (off + k + vs.length)) := by
  intro vs
  induction vs with
  | nil => intro k off cs h; simp
  | cons v vs ih =>
    intro k off cs h
    simp only [List.length_cons] at h
    rw [List.zipIdx_cons, List.foldl_cons, ih (k + 1) off _ (by simp; omega)]
    have hlt : off + k < cs.toList.length := by simp; omega
    have hset : (cs.setIfInBounds (off + k) v).toList = cs.toList.set (off + k) v := by simp
    rw [hset, List.length_cons]
    have e1 : (cs.toList.set (off + k) v).take (off + (k + 1)) = cs.toList.take (off + k) ++ [v] := by
      rw [show off + (k + 1) = off + k + 1 by omega, List.take_set, List.take_succ_eq_append_getElem hlt]
      have hmin : min (off + k) cs.size = off + k := Nat.min_eq_left (by omega)
      rw [List.set_append_right _ _ (by simp; omega)]
      simp [hmin]
    have e2 : (cs.toList.set (off + k) v).drop (off + (k + 1) + vs.length) = cs.toList.drop (off + k + (vs.length + 1)) := by
      rw [List.drop_set, if_pos (by omega)]
      congr 1; omega
    rw [e1, e2]
    simp

theorem fillK_inv {place : Nat → Option (Nat × Nat)} {k : List V → Bool} : ∀ (l : List (Nat × V)) (cs : List V), fillK place k l cs = true →
    ∃ cs', k cs' = true ∧ ∀ R, Instr.fill place (cellsOf R cs).toArray (l.map fun x => (x.1, den R x.2)) = some (cellsOf R cs').toArray := by
  intro l
  induction l with
  | nil => intro cs h; exact ⟨cs, h, fun R => rfl⟩
  | cons iv l ih =>
    intro cs h
    obtain ⟨i, v⟩ := iv
    have h' : (match place i with
      | some (off, size) => ifB (is16 v) false (wh (Nat.beq (wide (cellsA v)) size) (wh (Nat.ble (Nat.add off size) (wide cs)) (fillK place k l (putC cs off (cellsA v) size))))
      | none => false) = true := h
    cases hp : place i with
    | none => rw [hp] at h'; cases h'
    | some os =>
      obtain ⟨off, size⟩ := os
      rw [hp] at h'
      simp only at h'
      rw [ifB_iff, wh_iff, wh_iff] at h'
      rcases h' with ⟨_, h'⟩ | ⟨h16, hw, hle, h'⟩
      · cases h'
      obtain ⟨cs', hk, hfill⟩ := ih _ h'
      refine ⟨cs', hk, fun R => ?_⟩
      obtain ⟨t, a, b, c, d, m⟩ := v
      have ht : t ≠ 16 := by intro e; subst e; cases h16
      have hcells := cellsA_den t a b c d m ht R
      have hsize : (den R (.mk t a b c d m)).cells.size = size := by
        rw [← Array.length_toList, ← hcells, ← wide_eq]
        exact Nat.eq_of_beq_eq_true hw
      have hwid : off + size ≤ (cellsOf R cs).length := by rw [← wide_eq]; exact Nat.le_of_ble_eq_true hle
      simp only [List.map_cons, Instr.fill, hp]
      rw [if_neg (by simp [hsize]; omega)]
      rw [← hfill R]
      congr 1
      apply Array.ext'
      rw [putC_cells, hcells]
      have := set_run (den R (.mk t a b c d m)).cells.toList 0 off (cellsOf R cs).toArray (by simp [hsize]; omega)
      simp only [Nat.add_zero] at this
      rw [Array.length_toList, hsize] at this
      rw [← Array.foldl_toList, Array.toList_zipIdx]
      exact this

theorem placeL_inv (hE : EnvOk P E) : ∀ (fields : List Field) (pl : List (Nat × Nat)), placeL E (fields.map fun f => (f.offset, f.type)) = some pl → ∀ w, (fields.mapM fun f => do pure (f.offset, ← sizeOf f.type) : Sem (List (Nat × Nat))).run P w = .ok pl w := by
  intro fields
  induction fields with
  | nil => intro pl h w; cases h; rfl
  | cons f fields ih =>
    intro pl h w
    have h' : (match E.ty f.type with | some y => (match placeL E (fields.map fun f => (f.offset, f.type)) with | some l => some ((f.offset, y.size) :: l) | none => none) | none => none) = some pl := h
    cases ht : E.ty f.type with
    | none => rw [ht] at h'; cases h'
    | some y =>
      rw [ht] at h'
      cases hl : placeL E (fields.map fun f => (f.offset, f.type)) with
      | none => rw [hl] at h'; cases h'
      | some l =>
        rw [hl] at h'
        cases h'
        have hs := (hE.ty _ _ ht).size w
        simp only [List.mapM_cons, Sem.run_bind, hs, Sem.run_pure, Result.andThen, ih l hl w]

theorem build_snd (hE : EnvOk P E) {t : TypeId} {ps : Array (Nat × Operand)} (ho : o.op = .build t ps) {c : OpC} (hf : cBuild E t ps.toList = some c) (hok : ∀ x ∈ ps, OpOk P x.2) (rec : Rec) : OpSnd P ro o (c.f rec) := by
  intro F s K h hw
  cases hty : E.ty t with
  | none => unfold cBuild at hf; rw [hty] at hf; cases hf
  | some y =>
    have hT := hE.ty t y hty
    obtain ⟨n, g, z, kd⟩ := y
    cases hp : accP ps.toList with
    | none => unfold cBuild at hf; rw [hty] at hf; simp only [hp] at hf; cases hf
    | some q =>
      obtain ⟨fp⟩ := q
      obtain ⟨zv, hz1, hz2, _⟩ := hT.zeroV
      have fin : ∀ (place : Nat → Option (Nat × Nat)), fp (mk2 F) (fun l => fillK place (fun cs => K (.mk 14 0 0 0 0 cs) s) l z) = true →
          (∀ (ρ : Operand → Value) (cells : Array Value) (w : World), Instr.fill place zv.cells (ps.map fun x => (x.1, ρ x.2)).toList = some cells → (Instr.build t (ps.map fun (x : Nat × Operand) => (x.1, ρ x.2))).run P w = .ok (.agg cells) w) →
          ∃ v s', K v s' = true ∧ Snd P (OpDoes P ro o F) (fun D R x => Den D R v x) s s' := by
        intro place h hrun
        obtain ⟨vs, hvs, hden⟩ := accP_snd (P := P) hp h (fun x hx => hok x (by simpa using hx))
        obtain ⟨cs', hk, hfill⟩ := fillK_inv vs z hvs
        refine ⟨_, s, hk, Snd.pure (fun D R w tmps hs hg => ?_) OpDoes.mono⟩
        have hz : ∀ R', (cellsOf R' z).toArray = zv.cells := fun R' => by rw [hz2 R']
        have hl : (ps.map fun x => (x.1, evalT tmps x.2)).toList = ps.toList.map fun x => (x.1, evalT tmps x.2) := by simp
        have hf1 := hfill R
        rw [hz R, hden D R tmps hs hg R (Agr.refl _ _), ← hl] at hf1
        refine does_value (v := .agg (cellsOf R cs').toArray) (by rw [ho]; simp) ?_ ⟨rfl, fun R' ha => ?_⟩
        · have := hrun (evalT tmps) _ w hf1
          simp only [execOp, ho]
          simp only [Sem.run_bind, Sem.run_pure, Result.andThen]
          rw [this]
        · have hf2 := hfill R'
          rw [hz R', hden D R tmps hs hg R' ha, ← hl, hf1] at hf2
          simp only [den]
          rw [Option.some.inj hf2]
      have hk := hT.kind
      cases kd with
      | struct fs =>
        unfold cBuild at hf
        rw [hty] at hf
        simp only [hp] at hf
        cases hpl : placeL E fs with
        | none => rw [hpl] at hf; cases hf
        | some pl =>
          rw [hpl] at hf
          cases hf
          obtain ⟨fields, hu, rfl⟩ := hk
          refine fin (nth pl) h fun ρ cells w hfl => ?_
          have hm := placeL_inv hE fields.toList pl hpl w
          have hm' : (fields.mapM fun f => do pure (f.offset, ← sizeOf f.type) : Sem (Array (Nat × Nat))).run P w = .ok pl.toArray w := by
            rw [Array.mapM_eq_mapM_toList, map_eq_pure_bind]
            simp only [Sem.run_bind, hm, Result.andThen, Sem.run_pure]
          have hpe : (fun i => (pl.toArray)[i]?) = nth pl := by funext i; rw [nth_eq]; simp
          rw [← hpe] at hfl
          unfold Instr.build
          simp only [Sem.run_bind, hz1, run_underlying hu, Result.andThen, hm', hfl]
          rfl
      | arr m e =>
        unfold cBuild at hf
        rw [hty] at hf
        simp only [hp] at hf
        cases he : E.ty e with
        | none => rw [he] at hf; cases hf
        | some ye =>
          rw [he] at hf
          cases hf
          have hu : P.underlying t = some (.array m e) := hk
          refine fin (places ye.size) h fun ρ cells w hfl => ?_
          have hs := (hE.ty _ _ he).size w
          unfold Instr.build
          simp only [Sem.run_bind, hz1, run_underlying hu, Result.andThen, hs]
          have : Instr.fill (fun i => some (i * ye.size, ye.size)) zv.cells (ps.map fun x => (x.1, ρ x.2)).toList = some cells := hfl
          simp only [this]
          rfl
      | _ => unfold cBuild at hf; rw [hty] at hf; simp only [hp] at hf; cases hf
theorem buildSlice_snd (hE : EnvOk P E) {t len : Nat} {ps : Array (Nat × Operand)} (ho : o.op = .buildSlice t len ps) {c : OpC} (hf : cBuildSlice E t len ps.toList = some c) (hok : ∀ x ∈ ps, OpOk P x.2) (rec : Rec) : OpSnd P ro o (c.f rec) := by
  intro F s K h ⟨G, hG⟩
  have hel : ∃ e y, elemA E t = some (e, y) := by
    unfold cBuildSlice at hf
    split at hf
    · rename_i heq; exact ⟨_, _, heq⟩
    · cases hf
  obtain ⟨e, y, hel⟩ := hel
  obtain ⟨hu, hT⟩ : P.underlying t = some (.slice e) ∧ TyOk P e y := by
    unfold elemA at hel
    split at hel
    · rename_i e' hty
      split at hel
      · rename_i y' hty'
        cases hel
        exact ⟨(hE.ty _ _ hty).kind, hE.ty _ _ hty'⟩
      · cases hel
    · cases hel
  cases hp : accP ps.toList with
  | none => unfold cBuildSlice at hf; rw [hel] at hf; simp only [hp] at hf; cases hf
  | some q =>
    obtain ⟨fp⟩ := q
    obtain ⟨z, g, zero, kd⟩ := y
    unfold cBuildSlice at hf
    rw [hel] at hf
    simp only [hp] at hf
    cases hle : Nat.ble (Nat.mul len z) 65536 with
    | false => rw [hle] at hf; cases hf
    | true =>
      rw [hle] at hf
      cases hf
      have hlen : len * z ≤ 65536 := Nat.le_of_ble_eq_true hle
      obtain ⟨vs, hvs, hden⟩ := accP_snd (P := P) hp h (fun x hx => hok x (by simpa using hx))
      obtain ⟨cs', hk, hfill⟩ := fillK_inv vs (rep len zero) hvs
      obtain ⟨hn, hk⟩ := fresh_eq hG _ _ hk
      obtain ⟨zv, hz1, hz2, _⟩ := hT.zeroV
      refine ⟨_, _, hk, Snd.make hG hn trivial (fun D R w hD tmps hs hg => ?_) OpDoes.mono⟩
      have hzsz : zv.cells.size = z := by
        have := hT.width R
        rw [hz2] at this
        simpa using this
      have hz : ∀ R', (cellsOf R' (rep len zero)).toArray = (List.replicate len zv.cells.toList).flatten.toArray := fun R' => by rw [rep_cells, hz2 R']
      have hl : (ps.map fun x => (x.1, evalT tmps x.2)).toList = ps.toList.map fun x => (x.1, evalT tmps x.2) := by simp
      have hf1 := hfill R
      rw [hz R, hden D R tmps hs hg R (Agr.refl _ _), ← hl] at hf1
      have hcs : ∀ R', Agr D R R' → cellsOf R' cs' = cellsOf R cs' := fun R' ha => by
        have hf2 := hfill R'
        rw [hz R', hden D R tmps hs hg R' ha, ← hl, hf1] at hf2
        have := Option.some.inj hf2
        simpa using this.symm
      have hmk : (Array.range (len * z)).map (fun j => (if len * z = 0 then (#[] : Array Value) else zv.cells)[j % (if len * z = 0 then (#[] : Array Value) else zv.cells).size]!) = (List.replicate len zv.cells.toList).flatten.toArray := by
        by_cases h0 : len * z = 0
        · rw [h0]
          apply Array.ext'
          have : (List.replicate len zv.cells.toList).flatten.length = len * z := by simp [hzsz]
          rw [h0] at this
          simp [List.eq_nil_of_length_eq_zero this]
        · simp only [h0, if_false]
          apply Array.ext'
          rw [hzsz]
          simpa using range_mod zv.cells z hzsz len
      have hsz := hT.size w
      have hsz : (sizeOf e).run P w = .ok z w := hsz
      have hbig : ¬ (len * z > 2 ^ 24) := by have : (65536 : Nat) ≤ 2 ^ 24 := by decide
                                             omega
      have hrun : (Instr.buildSlice t len (ps.map fun x => (x.1, evalT tmps x.2))).run P w = .ok (.slice (some ⟨w.heap.size, 0, none⟩) len len) { w with heap := w.heap.push (.cells (cellsOf R cs').toArray e (0, 0)) } := by
        have hf3 : Instr.fill (fun i => some (i * z, z)) ((Array.range (len * z)).map (fun j => (if len * z = 0 then (#[] : Array Value) else zv.cells)[j % (if len * z = 0 then (#[] : Array Value) else zv.cells).size]!)) (ps.map fun x => (x.1, evalT tmps x.2)).toList = some (cellsOf R cs').toArray := by rw [hmk]; exact hf1
        unfold Instr.buildSlice
        simp only [Sem.run_bind, run_underlying hu, Result.andThen, hsz, hbig, if_false]
        by_cases h0 : len * z = 0
        · simp only [h0, if_true] at hf3 ⊢
          simp only [Sem.run_bind, Sem.run_pure, Result.andThen, hf3]
          try simp [Go.newRow]
        · simp only [h0, if_false] at hf3 ⊢
          simp only [Sem.run_bind, hz1, Sem.run_pure, Result.andThen, hf3]
          simp [Go.newRow]
      refine does_value (v := .slice (some ⟨w.heap.size, 0, none⟩) len len) (by rw [ho]; simp) (w' := { w with heap := w.heap.push (.cells (cellsOf R cs').toArray e (0, 0)) }) ?_ ⟨_, 0, rfl, fun R' hag hat _ hbs => ⟨BRep.made _ _ _ _ (fun R'' ha'' => ?_) hbs, fun R'' ha'' => ?_⟩⟩
      · simp only [execOp, ho, Sem.run_bind]
        rw [hrun]
        rfl
      · have : Agr D R R'' := hag.trans (ha''.sub Plus.sub)
        simpa using hcs R'' this
      · simp only [den]
        rw [(ha'' s.nx (.inr ⟨Nat.le_refl _, Nat.lt_succ_self _⟩)).1, (ha'' s.nx (.inr ⟨Nat.le_refl _, Nat.lt_succ_self _⟩)).2.2, hat, hbs]
end Go.Ev
