/- Operations of a region that draws, taken one behind another in the order of a list: what is to be taken next stands in the goal. (No function named.) -/
import Derived.Deep.RegionHeld3
import Derived.Maps.RangeWalk
namespace Go.Proofs.YtffnppfoofifgaaGreat

/-- What is left of the region, with what shall be taken next: (i, none) its guard shuts it out, (i, some none) it is taken, (i, some (some v)) it is taken and yields v. -/
structure Tks (l : List (Nat × Option (Option Value))) (P : Program) (md : Region.Mode) (ops : Array Oper) (Q : Exit → Act → World → Prop) (S : World → Prop) (fuel : Nat) (listed : Array Bool) (a : Act) (w : World) : Prop where
  out : wpAnyH P md ops Q S fuel listed a w
section
variable {l : List (Nat × Option (Option Value))} {P : Program} {md : Region.Mode} {ops : Array Oper} {Q : Exit → Act → World → Prop} {S : World → Prop} {fuel : Nat} {listed : Array Bool} {a : Act} {w : World}
theorem tkE (h : wpAnyH P md ops Q S fuel listed a w) : Tks [] P md ops Q S fuel listed a w := ⟨h⟩
theorem tkT {i : Nat} {oi : Oper} {v : Value} (hi : ops[i]? = some oi) (hs : Region.noSelect ops = true) (hf : Region.free md ops listed i = true) (hr : (Region.ready md ops listed).contains i = true)
    (hQ : ∀ c a w, Q (.panic c) (a.put oi.dst v) w → Q (.panic c) a w) (hy : YieldsIf P ops S oi v a) (hS : S w) (h : Tks l P md ops Q S fuel (listed.setIfInBounds i true) (a.put oi.dst v) w) : Tks ((i, some none) :: l) P md ops Q S (fuel + 1) listed a w :=
  ⟨wpAnyH_take hi hs hf hr hQ hy hS h.out⟩
theorem tkV {i : Nat} {oi : Oper} {v : Value} (hi : ops[i]? = some oi) (hs : Region.noSelect ops = true) (hf : Region.free md ops listed i = true) (hr : (Region.ready md ops listed).contains i = true)
    (hQ : ∀ c a w, Q (.panic c) (a.put oi.dst v) w → Q (.panic c) a w) (hy : YieldsIf P ops S oi v a) (hS : S w) (h : Tks l P md ops Q S fuel (listed.setIfInBounds i true) (a.put oi.dst v) w) : Tks ((i, some (some v)) :: l) P md ops Q S (fuel + 1) listed a w :=
  ⟨wpAnyH_take hi hs hf hr hQ hy hS h.out⟩
theorem tkS {i : Nat} {oi : Oper} {v : Value} (hi : ops[i]? = some oi) (hs : Region.noSelect ops = true) (hf : Region.free md ops listed i = true) (hr : (Region.ready md ops listed).contains i = true)
    (hQ : ∀ c a w, Q (.panic c) (a.put oi.dst v) w → Q (.panic c) a w) (hy : YieldsIf P ops S oi v a) (hS : S w) (h : Tks l P md ops Q S fuel (listed.setIfInBounds i true) (a.put oi.dst v) w) : Tks ((i, none) :: l) P md ops Q S (fuel + 1) listed a w :=
  ⟨wpAnyH_take hi hs hf hr hQ hy hS h.out⟩
end
/-- The cells of a block of fourteen, wherever it lies as it does. -/
theorem cells14 {C : World → Prop} {X : Nat} {t : TypeId} {c0 c1 c2 c3 c4 c5 c6 c7 c8 c9 c10 c11 c12 c13 : Value} (h : ∀ W, C W → W.heap[X]? = some (Obj.cells #[c0, c1, c2, c3, c4, c5, c6, c7, c8, c9, c10, c11, c12, c13] t (0, 0))) :
    (∀ W, C W → W.cell? ⟨X, 0, none⟩ = some c0) ∧ (∀ W, C W → W.cell? ⟨X, 1, none⟩ = some c1) ∧ (∀ W, C W → W.cell? ⟨X, 2, none⟩ = some c2) ∧ (∀ W, C W → W.cell? ⟨X, 3, none⟩ = some c3) ∧ (∀ W, C W → W.cell? ⟨X, 4, none⟩ = some c4) ∧ (∀ W, C W → W.cell? ⟨X, 5, none⟩ = some c5) ∧ (∀ W, C W → W.cell? ⟨X, 6, none⟩ = some c6) ∧
    (∀ W, C W → W.cell? ⟨X, 7, none⟩ = some c7) ∧ (∀ W, C W → W.cell? ⟨X, 8, none⟩ = some c8) ∧ (∀ W, C W → W.cell? ⟨X, 9, none⟩ = some c9) ∧ (∀ W, C W → W.cell? ⟨X, 10, none⟩ = some c10) ∧ (∀ W, C W → W.cell? ⟨X, 11, none⟩ = some c11) ∧ (∀ W, C W → W.cell? ⟨X, 12, none⟩ = some c12) ∧ (∀ W, C W → W.cell? ⟨X, 13, none⟩ = some c13) := by
  refine ⟨?_, ?_, ?_, ?_, ?_, ?_, ?_, ?_, ?_, ?_, ?_, ?_, ?_, ?_⟩ <;> exact fun W hW => by simp [World.cell?, h W hW]
end Go.Proofs.YtffnppfoofifgaaGreat
