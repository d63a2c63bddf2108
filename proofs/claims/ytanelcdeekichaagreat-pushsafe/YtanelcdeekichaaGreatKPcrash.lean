/- A store's disk behind a crash. -/
import Derived.Test.YtanelcdeekichaaGreatJPlog11
import Derived.Test.YtanelcdeekichaaGreatKDCrashF
namespace Go.Proofs.YtanelcdeekichaaGreat
open Go.RowKit
set_option maxRecDepth 100000
theorem lastOf_or (z : List UInt8) (l : List (List UInt8)) : lastOf z l = z ∨ lastOf z l ∈ l := by
  cases l with
  | nil => exact .inl rfl
  | cons x r => exact .inr (List.getLast_mem _)
theorem pcrash_any {w : World} {base : Nat} {s : PSt} {ops : Nat → List Int} (h : PM w base s ops) (sp : Option Addr) (m cap : Nat) (pk : Nat → Int) (hpk : PickAt w s.σ.dq sp m pk) (hm : m ≤ cap ∧ (cap : Int) ≤ 9223372036854775807) :
    Calls Tryz.prog 30 #[.pointer (some ⟨s.σ.dp, 0, none⟩), .slice sp m cap] w fun e w' => e = .returned (.tuple #[]) ∧ ∃ sf' vs', DiskAt w' base s.σ.dp s.σ.dn false 0 sf' (fun _ => []) s.σ.dq vs' ∧ (∀ n, n < s.σ.dn → sf' n = s.σ.sf n ∨ sf' n ∈ s.σ.ws n) ∧ Below base w w' ∧ Fr (PQ s.σ.dp s.σ.dq) w w' := by
  refine (crash_fr h.cs.disk sp m cap pk hpk hm (openL s.σ.ws s.σ.dn) rfl).mono ?_
  rintro e w' ⟨rfl, ⟨vs', hD, _⟩, hb, hf⟩
  refine ⟨rfl, fun i => lastOf (s.σ.sf i) ((s.σ.ws i).take (keepN m pk (openL s.σ.ws i).length (s.σ.ws i))), vs', hD.congr (fun i hi => (setS_all s.σ.ws s.σ.sf _ s.σ.dn i hi).1) (fun i hi => (setS_all s.σ.ws s.σ.sf _ s.σ.dn i hi).2), fun n _ => ?_, hb, hf⟩
  rcases lastOf_or (s.σ.sf n) ((s.σ.ws n).take (keepN m pk (openL s.σ.ws n).length (s.σ.ws n))) with e | e
  · exact .inl e
  · exact .inr (List.mem_of_mem_take e)
end Go.Proofs.YtanelcdeekichaaGreat
