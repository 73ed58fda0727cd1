/- How a list of ints among the arguments is read. -/
import Derived.Test.YtoflohomnoppnaaCnEq
import Derived.Test.YtoflohomnoppnaaArgKit
import Derived.ChangeSlices
import Derived.ProofKit
import Derived.OpenShut
import Derived.SizedLaws
import Derived.Lib.SmallJoins
namespace Go.Proofs.Ytoflohomnoppnaa
open Go.ChangeShapes Go.WideShapes Go.ChangeAt Go.RowKit Go.Joins

theorem laidOutO : laidOutB Try.prog = true := by kernel_rfl
def intCellsN (l : List Int) : List Value := l.map (.int .i64)
/-- A list of ints in memory, as an argument of the type []int. -/
def IntsAt (W : World) (v : Value) (l : List Int) : Prop :=
  (v = .slice none 0 0 ∧ l = []) ∨ ∃ ad cap, v = .slice (some ad) l.length cap ∧ l.length ≤ cap ∧ cap ≤ maxLen ∧ ∀ j u, (intCellsN l)[j]? = some u → W.cell? (ad.add j) = some u

/-- How such a list is read. -/
theorem IntsAt.form {W : World} {v : Value} {l : List Int} (h : IntsAt W v l) : ∃ p cap, v = .slice p l.length cap ∧ ∀ (j : Nat) (x : Int), l[j]? = some x → ∃ g o, p = some ⟨g, o, none⟩ ∧ l.length ≤ cap ∧ W.cell? ⟨g, o + j, none⟩ = some (.int .i64 x) := by
  rcases h with ⟨rfl, rfl⟩ | ⟨ad, cap, rfl, h1, _, hc⟩
  · exact ⟨none, 0, rfl, fun j x hj => by simp at hj⟩
  · refine ⟨some ad, cap, rfl, fun j x hj => ?_⟩
    have h0 := hc j (.int .i64 x) (by unfold intCellsN; rw [List.getElem?_map, hj]; rfl)
    have hlt := (List.getElem?_eq_some_iff.1 hj).1
    have h00 := hc 0 (.int .i64 (l[0]'(by omega))) (by unfold intCellsN; rw [List.getElem?_map, List.getElem?_eq_getElem (by omega)]; rfl)
    obtain ⟨g, o, sp⟩ := ad
    have hsp : sp = none := by
      unfold Addr.add at h00
      cases sp with
      | none => rfl
      | some q =>
        exfalso
        unfold World.cell? at h00
        split at h00 <;> simp at h00
    subst hsp
    have ha : (⟨g, o, none⟩ : Addr).add j = ⟨g, o + j, none⟩ := by
      unfold Addr.add
      split <;> simp_all
    rw [ha] at h0
    exact ⟨g, o, rfl, h1, h0⟩
theorem IntsAt.kept {W W' : World} {v : Value} {l : List Int} (h : IntsAt W v l) (hk : Kept (fun _ => False) W W') : IntsAt W' v l := by
  rcases h with h | ⟨ad, cap, rfl, h1, h2, hc⟩
  · exact Or.inl h
  · refine Or.inr ⟨ad, cap, rfl, h1, h2, fun j u hj => ?_⟩
    have := hc j u hj
    rw [hk.cell (lt_of_cell this) id]
    exact this

section
variable {H : Type} {enc : TypeId × Value → H} {w : World} {base : Nat} {spare : Nat → Bool} {held : Bool}

set_option maxRecDepth 100000 in
theorem in64_of_wf {x : Int} (h : (Lit.int .i64 x).wf = true) : In64 x := by
  have := bounds_i64 h
  exact this
set_option maxRecDepth 100000 in
theorem open_ints {r : Reach} {b0 : Nat} {v : Value} {d : DataW H} {p : List MemPlace} (hv : Value.okWide Try.prog w r b0 41 v) (h : DataW.Trod enc Try.prog w base spare held 41 v d p) : ∃ l : List Int, IntsAt w v l ∧ ∀ x ∈ l, In64 x := by
  obtain ⟨a, len, cap, rfl⟩ := okWide_slice Try.underlying41 hv
  obtain ⟨fuel, hf⟩ := h
  have hf' : DataW.trod enc Try.prog w base spare held fuel 41 [.slice a len cap] = some (d, p) := by simpa [Value.cells] using hf
  rcases ChangeShapes.open_ints Try.underlying41 Try.underlying3 cellsIntN hf' with ⟨hcs, _⟩ | ⟨a', len', cap', zs, hcs, hb, hl, hm, hz, hx, hcell, hwf⟩
  · simp at hcs
    obtain ⟨rfl, rfl, rfl⟩ := hcs
    exact ⟨[], Or.inl ⟨rfl, rfl⟩, by simp⟩
  · simp at hcs
    obtain ⟨rfl, rfl, rfl⟩ := hcs
    have hle : len ≤ zs.length := by rw [hz]; split <;> omega
    have hll : (zs.take len).length = len := by simp; omega
    refine ⟨zs.take len, Or.inr ⟨a', cap, by rw [hll], by omega, hm, fun j u hj => ?_⟩, fun x hx => in64_of_wf (hwf x (List.mem_of_mem_take hx))⟩
    · have hjl : j < len := by
        have := (List.getElem?_eq_some_iff.1 hj).1
        simp [intCellsN] at this
        omega
      have hg : zs[j]? = some (zs.getD j 0) := by
        rw [List.getD_eq_getElem?_getD, List.getElem?_eq_getElem (by omega)]
        rfl
      rw [hcell j (by omega)]
      unfold intCellsN at hj
      rw [List.getElem?_map, List.getElem?_take_of_lt hjl, hg] at hj
      exact hj
end
end Go.Proofs.Ytoflohomnoppnaa
