/- A net under way beside boxes of the law's own. -/
import Derived.Test.YtoejfbfecfpbeaaAlive4
namespace Go.Proofs.Ytoejfbfecfpbeaa
open Go.RowKit

section
variable {S : Nat → Prop} {w W : World} {b : Nat} {s s' : NetSt}
theorem Next.call {f : FuncId} {args : Array Value} {r : Ending} (h : Next S w W b s) (hc : ∀ S1, NetAt S1 W b s → Calls Try.prog f args W fun e w' => e = r ∧ Next S1 W w' b s') :
    Calls Try.prog f args W fun e w' => e = r ∧ Next S w w' b s' := by
  obtain ⟨S1, h1, h2, h3⟩ := h
  refine (hc S1 h1).mono ?_
  rintro e w' ⟨rfl, hn⟩
  exact ⟨rfl, hn.andThen h2 h3⟩
theorem Next.call0 {f : FuncId} {args : Array Value} {r : Ending} (h : Next S w W b s) (hc : ∀ S1, NetAt S1 W b s → Calls Try.prog f args W fun e w' => e = r ∧ Kept (fun _ => False) W w') :
    Calls Try.prog f args W fun e w' => e = r ∧ Next S w w' b s := by
  obtain ⟨S1, h1, h2, h3⟩ := h
  refine (hc S1 h1).mono ?_
  rintro e w' ⟨rfl, hk⟩
  exact ⟨rfl, S1, h1.kept0 hk, h2, h3.andThen hk (fun _ _ h => h.elim)⟩
theorem Next.callS {f : FuncId} {args : Array Value} {r : Ending} (h : Next S w W b s) (hc : ∀ S1, NetAt S1 W b s → Calls Try.prog f args W fun e w' => e = r ∧ w' = W) :
    Calls Try.prog f args W fun e w' => e = r ∧ w' = W := by
  obtain ⟨S1, h1, h2, h3⟩ := h
  exact hc S1 h1
theorem Next.kept (h : Next S w W b s) : Kept S w W := by
  obtain ⟨_, _, _, h3⟩ := h
  exact h3
end


/-- From a net of the law's own on: it turns nothing but itself. -/
theorem Mine.split {w W : World} {b : Nat} {s : NetSt} (h : Mine w W b s) (o : Obj) : ∃ S, Next S (W.alloc o) (W.alloc o) b s ∧ ¬ S W.heap.size ∧ ∀ W', Kept S (W.alloc o) W' → Below w.heap.size w W' := by
  obtain ⟨S, h1, h2, h3⟩ := h
  refine ⟨S, (h1.alloc o).next, fun e => Nat.lt_irrefl _ (h1.lt e), fun W' hk => ?_⟩
  exact Kept.below (S := fun _ => False) ((h3.alloc o).andThen hk (fun i hi e => by
    rcases h2 i e with h | h
    · exact h
    · omega)) (Nat.le_refl _) (fun _ h => h.elim)
end Go.Proofs.Ytoejfbfecfpbeaa
