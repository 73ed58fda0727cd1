/- The contract of an end's Tick. (Written by gen_cntick.py.) -/
import Derived.Test.YtoflohomnoppnabCnPace
import Derived.Deep.QuietTactic
import Derived.BigQuiet
import Derived.Handy
import Derived.Deep.CutBlock
import Derived.Deep.CutRange
import Derived.Deep.DeepCutAuto
import Derived.LoopTactic
namespace Go.Proofs.Ytoflohomnoppnab
open Go.RowKit

theorem good_retry {c : Cn} (h : GoodN c) (hf : c.flies ≠ []) (ht : c.tries + 1 ≤ c.retry) : GoodN { c with ticks := 0, tries := c.tries + 1, again := true } :=
  { h with ticks := ⟨Int.le_refl _, by show (0 : Int) ≤ 800; omega⟩, tries := ⟨by have := h.tries; show 0 ≤ c.tries + 1; omega, ht⟩, again := fun _ => hf, early := fun _ => by show (0 : Int) ≤ 799; omega }
theorem own_slice {α : Type} {enc : α → List Value} {k : Nat} {e : TypeId} {w : World} {base : Nat} {v : Value} {l : List α} (h : OwnG enc k e w base v l) : ∃ p cap, v = .slice p l.length cap := by
  rcases h.2 with ⟨rfl, h0⟩ | ⟨g, cap, cur, rfl, _⟩
  · exact ⟨none, 0, by rw [h0]⟩
  · exact ⟨_, cap, rfl⟩
theorem tickN_rows (c : Cn) : (tickN c).waits = c.waits ∧ (tickN c).flies = c.flies := by
  unfold tickN
  split
  · exact ⟨rfl, rfl⟩
  · split
    · exact ⟨rfl, rfl⟩
    · split <;> exact ⟨rfl, rfl⟩
end Go.Proofs.Ytoflohomnoppnab
