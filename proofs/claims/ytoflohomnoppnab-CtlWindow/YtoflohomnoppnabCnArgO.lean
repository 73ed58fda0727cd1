/- How a list of steps (tollgatelaw20.Op) among the arguments is read. -/
import Derived.Test.YtoflohomnoppnabArgKit
import Derived.Test.YtoflohomnoppnabCnEq
import Derived.ChangeArms
namespace Go.Proofs.Ytoflohomnoppnab
open Go.ChangeShapes Go.WideShapes Go.ChangeAt Go.RowKit Go.Joins

theorem laidOutO : laidOutB Try.prog = true := by kernel_rfl
theorem cellsOp20 : Try.prog.cellsOf 31 = 5 := by kernel_rfl

/-- A step: what is done, a number, an item. -/
structure Op20 where
  kind : Int
  n : Int
  i : Ite
def op20Cells (x : Op20) : List Value := [.int .i64 x.kind, .int .i64 x.n, .int .i64 x.i.ns, .int .i64 x.i.nr, .string x.i.body]

section
variable {H : Type} {enc : TypeId × Value → H} {w : World} {base : Nat} {spare : Nat → Bool} {held : Bool}

abbrev I64N (z : Int) : Prop := -9223372036854775808 ≤ z ∧ z ≤ 9223372036854775807
def ROp20 (x : Op20) (d : DataW H) : Prop := I64N x.kind ∧ I64N x.n ∧ I64N x.i.ns ∧ I64N x.i.nr ∧ ∃ z0 z1 z2 z3, d = .agg [z0, z1, .agg [z2, z3, .lit (.string x.i.body.data.toList)]]

set_option maxRecDepth 100000 in
theorem each_op20 (n : Nat) (cs : List Value) (y : DataW H × List MemPlace) (hlen : cs.length = 5) (ht : DataW.trod enc Try.prog w base spare held n 31 cs = some y) : ∃ x : Op20, cs = op20Cells x ∧ ROp20 x y.1 := by
  obtain ⟨xs, k, hk, hxy, _, hxl, hf⟩ := DataW.trod_struct Try.underlying31 ht
  match xs, hxl, cs, hlen with
  | [y0, y1, y2], _, [v0, v1, v2, v3, v4], _ =>
    have g0 := hf 0 _ rfl
    have g1 := hf 1 _ rfl
    have g2 := hf 2 _ rfl
    simp [cellsIntN, cellsIte] at g0 g1 g2
    obtain ⟨i0, e0, _, w0⟩ := DataW.trod_int Try.underlying3 g0
    obtain ⟨i1, e1, _, w1⟩ := DataW.trod_int Try.underlying3 g1
    obtain ⟨ys, k2, hk2, hy2, _, hyl, hf2⟩ := DataW.trod_struct Try.underlying29 g2
    match ys, hyl with
    | [u0, u1, u2], _ =>
      have p0 := hf2 0 _ rfl
      have p1 := hf2 1 _ rfl
      have p2 := hf2 2 _ rfl
      simp [cellsIntN, cellsStrN] at p0 p1 p2
      obtain ⟨i2, e2, _, w2⟩ := DataW.trod_int Try.underlying3 p0
      obtain ⟨i3, e3, _, w3⟩ := DataW.trod_int Try.underlying3 p1
      obtain ⟨x, e4, hx, _⟩ := DataW.trod_string Try.underlying9 p2
      simp at e0 e1 e2 e3 e4
      subst e0 e1 e2 e3 e4
      refine ⟨⟨i0, i1, ⟨i2, i3, x⟩⟩, rfl, bounds_i64 w0, bounds_i64 w1, bounds_i64 w2, bounds_i64 w3, y0.1, y1.1, u0.1, u1.1, ?_⟩
      rw [hxy]
      simp [hy2, hx]

/-- A list of steps, with all that is known of it. -/
def Ops20 (W : World) (v : Value) (l : List Op20) : Prop := RowsAt W 5 op20Cells v l
def Fit20 (x : Op20) : Prop := I64N x.kind ∧ I64N x.n ∧ IteOk x.i
set_option maxRecDepth 100000 in
theorem open_ops20 {r : Reach} {b0 : Nat} {v : Value} {d : DataW H} {p : List MemPlace} (hv : Value.okWide Try.prog w r b0 22 v) (h : DataW.Trod enc Try.prog w base spare held 22 v d p) (hw : Wt Try.prog 22 d) :
    ∃ l : List Op20, Ops20 w v l ∧ l.length ≤ maxLen ∧ ∀ x ∈ l, Fit20 x := by
  obtain ⟨a, len, cap, rfl⟩ := okWide_slice Try.underlying22 hv
  obtain ⟨fuel, hf⟩ := h
  have hf' : DataW.trod enc Try.prog w base spare held fuel 22 [.slice a len cap] = some (d, p) := by simpa [Value.cells] using hf
  obtain ⟨l, h1, h2, h3, _⟩ := open_rows op20Cells ROp20 Try.underlying22 cellsOp20 ⟨0, 0, ⟨0, 0, ⟨#[]⟩⟩⟩ (fun _ => by simp [op20Cells]) each_op20 hf'
  refine ⟨l, h1, h2, fun x hx => ?_⟩
  obtain ⟨y, ⟨r0, r1, r2, r3, z0, z1, z2, z3, rfl⟩, hwy⟩ := wt_list hw Try.underlying22 h3 x hx
  have hp := wt_field (j := 2) (d := .agg [z2, z3, .lit (.string x.i.body.data.toList)]) hwy Try.underlying31 rfl rfl
  have hs := wt_string (wt_field (j := 2) (d := .lit (.string x.i.body.data.toList)) hp Try.underlying29 rfl rfl)
  exact ⟨r0, r1, r2, r3, Nat.le_trans hs (by unfold maxLen; omega)⟩
end
end Go.Proofs.Ytoflohomnoppnab
