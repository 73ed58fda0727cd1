/- How a key among the arguments is read. -/
import Derived.Test.YtmclldidmpeahaaClock
import Derived.ProofKit
import Derived.OpenShut
import Derived.SizedLaws
import Derived.Lib.SmallJoins
namespace Go.Proofs.Ytmclldidmpeahaa
open Go.ChangeShapes Go.WideShapes Go.ChangeAt Go.RowKit Go.Joins

section
variable {H : Type} {enc : TypeId × Value → H} {w : World} {base : Nat} {spare : Nat → Bool} {held : Bool}

theorem in64_of_wf {x : Int} (h : (Lit.int .i64 x).wf = true) : In64 x := by
  have := bounds_i64 h
  exact this

theorem open_key {r : Reach} {b0 : Nat} {v : Value} {d : DataW H} {p : List MemPlace} (hv : Value.okWide Try.prog w r b0 38 v) (h : DataW.Trod enc Try.prog w base spare held 38 v d p) :
    ∃ k i : Int, v = .agg #[.int .i64 k, .int .i64 i] ∧ In64 k ∧ In64 i := by
  obtain ⟨c0, c1, y0, y1, n, rfl, hd, _, h0, h1⟩ := open_agg2 Try.underlying38 (by kernel_rfl) cellsKey hv h
  obtain ⟨k, e0, hy0, wk⟩ := DataW.trod_int Try.underlying3 h0
  obtain ⟨i, e1, hy1, wi⟩ := DataW.trod_int Try.underlying3 h1
  simp at e0 e1
  subst e0 e1
  exact ⟨k, i, rfl, in64_of_wf wk, in64_of_wf wi⟩
end
end Go.Proofs.Ytmclldidmpeahaa
