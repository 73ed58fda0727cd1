/- How a list of steps (tollgatelaw13.Op) among the arguments is read. -/
import Derived.Test.YtifkiiplknkgnaaGreatArgKit
import Derived.Test.YtifkiiplknkgnaaGreatOpArgs
namespace Go.Proofs.YtifkiiplknkgnaaGreat
open Go.ChangeShapes Go.WideShapes Go.ChangeAt Go.RowKit Go.Joins

theorem cellsOp13 : Tryz.prog.cellsOf 58 = 5 := by kernel_rfl
theorem cellsOpts' : Tryz.prog.cellsOf 54 = 1 := by kernel_rfl

/-- A step: what is done, and a packet (its options lie somewhere, n of them). -/
structure Op13 where
  kind : Int
  code : Int
  id : Int
  p : Option Addr
  n : Nat
  cap : Nat
  data : ByteArray
def op13Cells (x : Op13) : List Value := [.int .i64 x.kind, .int .i64 x.code, .int .i64 x.id, .slice x.p x.n x.cap, .string x.data]

section
variable {H : Type} {enc : TypeId × Value → H} {w : World} {base : Nat} {spare : Nat → Bool} {held : Bool}

def ROp13 (x : Op13) (d : DataW H) : Prop := x.n ≤ maxLen ∧ ∃ z0 z1 z2 z3, d = .agg [z0, .agg [z1, z2, z3, .lit (.string x.data.data.toList)]]

set_option maxRecDepth 100000 in
theorem each_op13 (n : Nat) (cs : List Value) (y : DataW H × List MemPlace) (hlen : cs.length = 5) (ht : DataW.trod enc Tryz.prog w base spare held n 58 cs = some y) : ∃ x : Op13, cs = op13Cells x ∧ ROp13 x y.1 := by
  obtain ⟨xs, k, hk, hxy, _, hxl, hf⟩ := DataW.trod_struct Tryz.underlying58 ht
  match xs, hxl, cs, hlen with
  | [y0, y1], _, [v0, v1, v2, v3, v4], _ =>
    have g0 := hf 0 _ rfl
    have g1 := hf 1 _ rfl
    simp [cellsInt, cellsPk] at g0 g1
    obtain ⟨i0, e0, _, w0⟩ := DataW.trod_int Tryz.underlying3 g0
    obtain ⟨ys, k2, hk2, hy2, _, hyl, hf2⟩ := DataW.trod_struct Tryz.underlying56 g1
    match ys, hyl with
    | [u0, u1, u2, u3], _ =>
      have p0 := hf2 0 _ rfl
      have p1 := hf2 1 _ rfl
      have p2 := hf2 2 _ rfl
      have p3 := hf2 3 _ rfl
      simp [cellsInt, cellsOpts', cellsStr] at p0 p1 p2 p3
      obtain ⟨i1, e1, _, _⟩ := DataW.trod_int Tryz.underlying3 p0
      obtain ⟨i2, e2, _, _⟩ := DataW.trod_int Tryz.underlying3 p1
      obtain ⟨x, e4, hx, _⟩ := DataW.trod_string Tryz.underlying9 p3
      simp at e0 e1 e2 e4
      subst e0 e1 e2 e4
      obtain ⟨lo, ho, hlo, _⟩ := open_opts_in (d := u2.1) (p := u2.2) p2
      obtain ⟨q, cap, rfl⟩ := ho.slice
      refine ⟨⟨i0, i1, i2, q, lo.length, cap, x⟩, rfl, hlo, y0.1, u0.1, u1.1, u2.1, ?_⟩
      rw [hxy]
      simp [hy2, hx]

/-- A list of steps, with all that is known of it. -/
def Ops13 (W : World) (v : Value) (l : List Op13) : Prop := RowsAt W 5 op13Cells v l
set_option maxRecDepth 100000 in
theorem open_ops13 {r : Reach} {b0 : Nat} {v : Value} {d : DataW H} {p : List MemPlace} (hv : Value.okWide Tryz.prog w r b0 22 v) (h : DataW.Trod enc Tryz.prog w base spare held 22 v d p) (hw : Wt Tryz.prog 22 d) :
    ∃ l : List Op13, Ops13 w v l ∧ l.length ≤ maxLen ∧ ∀ x ∈ l, x.n ≤ maxLen ∧ x.data.size ≤ 140737488351232 := by
  obtain ⟨a, len, cap, rfl⟩ := okWide_slice Tryz.underlying22 hv
  obtain ⟨fuel, hf⟩ := h
  have hf' : DataW.trod enc Tryz.prog w base spare held fuel 22 [.slice a len cap] = some (d, p) := by simpa [Value.cells] using hf
  obtain ⟨l, h1, h2, h3, _⟩ := open_rows op13Cells ROp13 Tryz.underlying22 cellsOp13 ⟨0, 0, 0, none, 0, 0, ⟨#[]⟩⟩ (fun _ => by simp [op13Cells]) each_op13 hf'
  refine ⟨l, h1, h2, fun x hx => ?_⟩
  obtain ⟨y, ⟨r1, z0, z1, z2, z3, rfl⟩, hwy⟩ := wt_list hw Tryz.underlying22 h3 x hx
  have hp := wt_field (j := 1) (d := .agg [z1, z2, z3, .lit (.string x.data.data.toList)]) hwy Tryz.underlying58 rfl rfl
  exact ⟨r1, wt_string (wt_field (j := 3) (d := .lit (.string x.data.data.toList)) hp Tryz.underlying56 rfl rfl)⟩
end
end Go.Proofs.YtifkiiplknkgnaaGreat
