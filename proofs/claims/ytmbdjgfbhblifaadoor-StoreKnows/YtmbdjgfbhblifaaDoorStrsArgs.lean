/- A list of texts among the arguments. -/
import Derived.Test.YtmbdjgfbhblifaaDoorArgKit
import Derived.Test.YtmbdjgfbhblifaaDoorProg
import Derived.ChangeArms
import Derived.SliceStrings
namespace Go.Proofs.YtmbdjgfbhblifaaDoor
open Go.ChangeShapes Go.WideShapes Go.ChangeAt Go.RowKit Go.Joins

/-- A list of texts in memory, as an argument of the type []string. -/
def StrsAt (W : World) (v : Value) (l : List ByteArray) : Prop :=
  (l = [] ∧ ∃ p cap, v = .slice p 0 cap) ∨ ∃ g o cap, v = .slice (some ⟨g, o, none⟩) l.length cap ∧ l.length ≤ cap ∧ cap ≤ maxLen ∧ ∀ j x, l[j]? = some x → W.cell? ⟨g, o + j, none⟩ = some (.string x)

theorem cellsStr : Tryd.prog.cellsOf 9 = 1 := by kernel_rfl

section
variable {H : Type} {enc : TypeId × Value → H} {w : World} {base : Nat} {spare : Nat → Bool} {held : Bool}

theorem spot_none {W : World} {g o : Nat} {sp : Option Nat} {u : Value} (h : W.cell? ((⟨g, o, sp⟩ : Addr).add 0) = some u) : sp = none := by
  unfold Addr.add at h
  cases sp with
  | none => rfl
  | some q =>
    exfalso
    unfold World.cell? at h
    split at h <;> simp at h
theorem add_none (g o n : Nat) : (⟨g, o, none⟩ : Addr).add n = ⟨g, o + n, none⟩ := by unfold Addr.add; split <;> simp_all

theorem open_strs {r : Reach} {b0 : Nat} {v : Value} {d : DataW H} {p : List MemPlace} (hv : Value.okWide Tryd.prog w r b0 50 v) (h : DataW.Trod enc Tryd.prog w base spare held 50 v d p) : ∃ l : List ByteArray, StrsAt w v l := by
  obtain ⟨a, len, cap, rfl⟩ := okWide_slice Tryd.underlying50 hv
  obtain ⟨fuel, hf⟩ := h
  have hf' : DataW.trod enc Tryd.prog w base spare held fuel 50 [.slice a len cap] = some (d, p) := by simpa [Value.cells] using hf
  rcases open_strings Tryd.underlying50 Tryd.underlying9 cellsStr hf' with ⟨hcs, _⟩ | ⟨a', len', cap', ss, hcs, hb, hl, hm, hz, hx, hcell, hws⟩
  · simp at hcs
    obtain ⟨rfl, rfl, rfl⟩ := hcs
    exact ⟨[], Or.inl ⟨rfl, _, _, rfl⟩⟩
  · simp at hcs
    obtain ⟨rfl, rfl, rfl⟩ := hcs
    have hle : len ≤ ss.length := by rw [hz]; split <;> omega
    have hll : (ss.take len).length = len := by simp; omega
    refine ⟨ss.take len, ?_⟩
    have hc : ∀ j x, (ss.take len)[j]? = some x → w.cell? (a'.add j) = some (.string x) := fun j x hj => by
      have hjl : j < len := by
        have := (List.getElem?_eq_some_iff.1 hj).1
        omega
      rw [List.getElem?_take_of_lt hjl] at hj
      rw [hcell j (by omega), List.getD_eq_getElem?_getD, hj]
      rfl
    obtain ⟨g, o, sp⟩ := a'
    cases hs : ss.take len with
    | nil =>
      rw [hs] at hll
      exact Or.inl ⟨rfl, some ⟨g, o, sp⟩, cap, by rw [← hll]; rfl⟩
    | cons x rr =>
      have h0 := hc 0 x (by rw [hs]; rfl)
      obtain rfl := spot_none h0
      refine Or.inr ⟨g, o, cap, by rw [← hs, hll], by rw [← hs, hll]; exact hl, hm, fun j y hj => ?_⟩
      have h1 := hc j y (by rw [hs]; exact hj)
      rwa [add_none] at h1

end
end Go.Proofs.YtmbdjgfbhblifaaDoor
