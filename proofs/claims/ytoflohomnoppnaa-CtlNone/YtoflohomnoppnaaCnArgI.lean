/- How an item among the arguments is read. -/
import Derived.Test.YtoflohomnoppnaaArgKit
import Derived.Test.YtoflohomnoppnaaCnEq
namespace Go.Proofs.Ytoflohomnoppnaa
open Go.ChangeShapes Go.WideShapes Go.ChangeAt Go.RowKit Go.Joins

theorem laidOutO : laidOutB Try.prog = true := by kernel_rfl
section
variable {H : Type} {enc : TypeId × Value → H} {w : World} {base : Nat} {spare : Nat → Bool} {held : Bool}
theorem open_item {r : Reach} {b0 : Nat} {v : Value} {d : DataW H} {p : List MemPlace} (hv : Value.okWide Try.prog w r b0 25 v) (h : DataW.Trod enc Try.prog w base spare held 25 v d p) :
    ∃ i : Ite, v = iteV i := by
  obtain ⟨c0, c1, c2, y0, y1, y2, n, rfl, hd, _, h0, h1, h2⟩ := open_agg3 Try.underlying25 (by kernel_rfl) cellsIte hv h
  obtain ⟨f, e0, hy0, wf⟩ := DataW.trod_int Try.underlying3 h0
  obtain ⟨t, e1, hy1, wt⟩ := DataW.trod_int Try.underlying3 h1
  obtain ⟨x, e2, hy2, _⟩ := DataW.trod_string Try.underlying9 h2
  simp at e0 e1 e2
  subst e0 e1 e2
  exact ⟨⟨f, t, x⟩, rfl⟩
end
end Go.Proofs.Ytoflohomnoppnaa
