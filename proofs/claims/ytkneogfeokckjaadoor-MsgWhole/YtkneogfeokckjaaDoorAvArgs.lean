/- How a list of values among the arguments is read; and what Mask and Unmask come to by the tables. -/
import Derived.Test.YtkneogfeokckjaaDoorArgKit
import Derived.Test.YtkneogfeokckjaaDoorAvGet
import Derived.Test.YtkneogfeokckjaaDoorAvLen
import Derived.Test.YtkneogfeokckjaaDoorAvEq
import Derived.Test.YtkneogfeokckjaaDoorAvFind
import Derived.Test.YtkneogfeokckjaaDoorMask
namespace Go.Proofs.YtkneogfeokckjaaDoor
open Go.ChangeShapes Go.WideShapes Go.ChangeAt Go.RowKit Go.Joins

/-- A list of values, with all that is known of it. -/
structure AvsIn (W : World) (v : Value) (l : List Av) : Prop where
  at_ : AvsAt W v l
  len : l.length ≤ maxLen
  good : ∀ x ∈ l, GoodA x
  size : ∀ x ∈ l, x.value.size ≤ 140737488351232
theorem AvsIn.kept {W W' : World} {v : Value} {l : List Av} (h : AvsIn W v l) (hk : Kept (fun _ => False) W W') : AvsIn W' v l := ⟨RowsAt.kept0 h.at_ hk, h.len, h.good, h.size⟩

section
variable {H : Type} {enc : TypeId × Value → H} {w : World} {base : Nat} {spare : Nat → Bool} {held : Bool}

def RAv (x : Av) (d : DataW H) : Prop := ((-9223372036854775808 ≤ x.vendor ∧ x.vendor ≤ 9223372036854775807) ∧ (-9223372036854775808 ≤ x.type ∧ x.type ≤ 9223372036854775807)) ∧ ∃ z0 z1 z2 z3, d = .agg [z0, z1, z2, z3, .lit (.string x.value.data.toList)]

set_option maxRecDepth 100000 in
theorem each_av (n : Nat) (cs : List Value) (y : DataW H × List MemPlace) (hlen : cs.length = 5) (ht : DataW.trod enc Tryd.prog w base spare held n 43 cs = some y) : ∃ x : Av, cs = avCells x ∧ RAv x y.1 := by
  obtain ⟨xs, k, hk, hxy, _, hxl, hf⟩ := DataW.trod_struct Tryd.underlying43 ht
  match xs, hxl, cs, hlen with
  | [y0, y1, y2, y3, y4], _, [v0, v1, v2, v3, v4], _ =>
    have g0 := hf 0 _ rfl
    have g1 := hf 1 _ rfl
    have g2 := hf 2 _ rfl
    have g3 := hf 3 _ rfl
    have g4 := hf 4 _ rfl
    simp [cellsBoolV, cellsIntV, cellsStrV] at g0 g1 g2 g3 g4
    obtain ⟨b0, e0, _⟩ := DataW.trod_bool Tryd.underlying4 g0
    obtain ⟨b1, e1, _⟩ := DataW.trod_bool Tryd.underlying4 g1
    obtain ⟨i2, e2, _, w2⟩ := DataW.trod_int Tryd.underlying3 g2
    obtain ⟨i3, e3, _, w3⟩ := DataW.trod_int Tryd.underlying3 g3
    obtain ⟨x, e4, hy4, _⟩ := DataW.trod_string Tryd.underlying9 g4
    simp at e0 e1 e2 e3 e4
    subst e0 e1 e2 e3 e4
    refine ⟨⟨b0, b1, i2, i3, x⟩, rfl, ⟨bounds_i64 w2, bounds_i64 w3⟩, y0.1, y1.1, y2.1, y3.1, ?_⟩
    rw [hxy]
    simp [hy4]
set_option maxRecDepth 100000 in
theorem open_avps {r : Reach} {b0 : Nat} {v : Value} {d : DataW H} {p : List MemPlace} (hv : Value.okWide Tryd.prog w r b0 22 v) (h : DataW.Trod enc Tryd.prog w base spare held 22 v d p) (hw : Wt Tryd.prog 22 d) :
    ∃ l : List Av, AvsIn w v l := by
  obtain ⟨a, len, cap, rfl⟩ := okWide_slice Tryd.underlying22 hv
  obtain ⟨fuel, hf⟩ := h
  have hf' : DataW.trod enc Tryd.prog w base spare held fuel 22 [.slice a len cap] = some (d, p) := by simpa [Value.cells] using hf
  obtain ⟨l, h1, h2, h3, _⟩ := open_rows avCells RAv Tryd.underlying22 cellsAvp av0 (fun _ => by simp [avCells]) each_av hf'
  have hs : ∀ x ∈ l, ((-9223372036854775808 ≤ x.vendor ∧ x.vendor ≤ 9223372036854775807) ∧ (-9223372036854775808 ≤ x.type ∧ x.type ≤ 9223372036854775807)) ∧ x.value.size ≤ 140737488351232 := fun x hx => by
    obtain ⟨y, ⟨hb, z0, z1, z2, z3, rfl⟩, hwy⟩ := wt_list hw Tryd.underlying22 h3 x hx
    exact ⟨hb, wt_string (wt_field (j := 4) (d := .lit (.string x.value.data.toList)) hwy Tryd.underlying43 rfl rfl)⟩
  exact ⟨l, h1, h2, fun x hx => ⟨(hs x hx).1.1, (hs x hx).1.2, by have := (hs x hx).2; unfold maxLen; omega⟩, fun x hx => (hs x hx).2⟩
end

theorem Tables.kept {w W : World} (h : Tables w) (hk : Kept (fun _ => False) w W) : Tables W :=
  ⟨fun i hi => (hk.cell (lt_of_cell (h.1 i hi)) id).trans (h.1 i hi), fun i hi => (hk.cell (lt_of_cell (h.2 i hi)) id).trans (h.2 i hi)⟩
theorem maskAt_of {w : World} (h : Tables w) : MaskAt w := fun k s v x hs hv hx W hk => (mask_any k s v x (by omega) (by omega) (by omega) W (h.kept hk)).mono fun _ _ ⟨h1, h2⟩ => ⟨h1, kept_of h2⟩
theorem unmAt_of {w : World} (h : Tables w) : UnmAt w := fun k s v x hs hv hx W hk => (unmask_any k s v x (by omega) (by omega) (by omega) W (h.kept hk)).mono fun _ _ ⟨h1, h2⟩ => ⟨h1, kept_of h2⟩
end Go.Proofs.YtkneogfeokckjaaDoor
