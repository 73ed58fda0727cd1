/- How a datagram among the arguments is read. -/
import Derived.Test.YtegofkpiipomfaaAlive4
import Derived.ChangeSlices
import Derived.ProofKit
import Derived.OpenShut
import Derived.SizedLaws
import Derived.Lib.SmallJoins
namespace Go.Proofs.Ytegofkpiipomfaa
open Go.ChangeShapes Go.WideShapes Go.ChangeAt Go.RowKit Go.Joins

theorem cellsGram : Try.prog.cellsOf 39 = 3 := by kernel_rfl

section
variable {H : Type} {enc : TypeId × Value → H} {w : World} {base : Nat} {spare : Nat → Bool} {held : Bool}

theorem in64_of_wf {x : Int} (h : (Lit.int .i64 x).wf = true) : In64 x := by
  have := bounds_i64 h
  exact this

theorem open_dgram {r : Reach} {b0 : Nat} {v : Value} {d : DataW H} {p : List MemPlace} (hv : Value.okWide Try.prog w r b0 39 v) (h : DataW.Trod enc Try.prog w base spare held 39 v d p) :
    ∃ (f t : Int) (x : ByteArray), v = .agg #[.int .i64 f, .int .i64 t, .string x] ∧ In64 f ∧ In64 t := by
  obtain ⟨c0, c1, c2, y0, y1, y2, n, rfl, hd, _, h0, h1, h2⟩ := open_agg3 Try.underlying39 (by kernel_rfl) cellsGram hv h
  obtain ⟨f, e0, hy0, wf⟩ := DataW.trod_int Try.underlying3 h0
  obtain ⟨t, e1, hy1, wt⟩ := DataW.trod_int Try.underlying3 h1
  obtain ⟨x, e2, hy2, _⟩ := DataW.trod_string Try.underlying9 h2
  simp at e0 e1 e2
  subst e0 e1 e2
  exact ⟨f, t, x, rfl, in64_of_wf wf, in64_of_wf wt⟩

end
end Go.Proofs.Ytegofkpiipomfaa
