/- How a key, and a list of ints, among the arguments are read. -/
import Derived.Test.YtmclldidmpeahaaClock
import Derived.Test.YtmclldidmpeahaaTapeNew
import Derived.ChangeSlices
import Derived.ProofKit
import Derived.OpenShut
import Derived.SizedLaws
import Derived.Lib.SmallJoins
namespace Go.Proofs.Ytmclldidmpeahaa
open Go.ChangeShapes Go.WideShapes Go.ChangeAt Go.RowKit Go.Joins

/-- A list of ints in memory, as an argument of the type []int. -/
def IntsAt (W : World) (v : Value) (l : List Int) : Prop :=
  (v = .slice none 0 0 ∧ l = []) ∨ ∃ ad cap, v = .slice (some ad) l.length cap ∧ l.length ≤ cap ∧ cap ≤ maxLen ∧ ∀ j u, (intCells l)[j]? = some u → W.cell? (ad.add j) = some u

section
variable {H : Type} {enc : TypeId × Value → H} {w : World} {base : Nat} {spare : Nat → Bool} {held : Bool}

theorem in64_of_wf {x : Int} (h : (Lit.int .i64 x).wf = true) : In64 x := by
  have := bounds_i64 h
  exact this

theorem open_key {r : Reach} {b0 : Nat} {v : Value} {d : DataW H} {p : List MemPlace} (hv : Value.okWide Try.prog w r b0 38 v) (h : DataW.Trod enc Try.prog w base spare held 38 v d p) :
    ∃ k i : Int, v = .agg #[.int .i64 k, .int .i64 i] ∧ In64 k ∧ In64 i := by
  obtain ⟨c0, c1, y0, y1, n, rfl, hd, _, h0, h1⟩ := open_agg2 Try.underlying38 (by kernel_rfl) cellsKey hv h
  obtain ⟨k, e0, hy0, wk⟩ := DataW.trod_int Try.underlying3 h0
  obtain ⟨i, e1, hy1, wi⟩ := DataW.trod_int Try.underlying3 h1
  simp at e0 e1
  subst e0 e1
  exact ⟨k, i, rfl, in64_of_wf wk, in64_of_wf wi⟩
theorem open_ints {r : Reach} {b0 : Nat} {v : Value} {d : DataW H} {p : List MemPlace} (hv : Value.okWide Try.prog w r b0 22 v) (h : DataW.Trod enc Try.prog w base spare held 22 v d p) : ∃ l : List Int, IntsAt w v l ∧ ∀ x ∈ l, In64 x := by
  obtain ⟨a, len, cap, rfl⟩ := okWide_slice Try.underlying22 hv
  obtain ⟨fuel, hf⟩ := h
  have hf' : DataW.trod enc Try.prog w base spare held fuel 22 [.slice a len cap] = some (d, p) := by simpa [Value.cells] using hf
  rcases ChangeShapes.open_ints Try.underlying22 Try.underlying3 cellsInt hf' with ⟨hcs, _⟩ | ⟨a', len', cap', zs, hcs, hb, hl, hm, hz, hx, hcell, hwf⟩
  · simp at hcs
    obtain ⟨rfl, rfl, rfl⟩ := hcs
    exact ⟨[], Or.inl ⟨rfl, rfl⟩, by simp⟩
  · simp at hcs
    obtain ⟨rfl, rfl, rfl⟩ := hcs
    have hle : len ≤ zs.length := by rw [hz]; split <;> omega
    have hll : (zs.take len).length = len := by simp; omega
    refine ⟨zs.take len, Or.inr ⟨a', cap, by rw [hll], by omega, hm, fun j u hj => ?_⟩, fun x hx => in64_of_wf (hwf x (List.mem_of_mem_take hx))⟩
    · have hjl : j < len := by
        have := (List.getElem?_eq_some_iff.1 hj).1
        simp [intCells] at this
        omega
      have hg : zs[j]? = some (zs.getD j 0) := by
        rw [List.getD_eq_getElem?_getD, List.getElem?_eq_getElem (by omega)]
        rfl
      rw [hcell j (by omega)]
      unfold intCells at hj
      rw [List.getElem?_map, List.getElem?_take_of_lt hjl, hg] at hj
      exact hj
end
end Go.Proofs.Ytmclldidmpeahaa
