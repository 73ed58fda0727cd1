/- How messages among the arguments are read, control and data. -/
import Derived.Test.YtkneogfeokckjaaDoorAvArgs
import Derived.Test.YtkneogfeokckjaaDoorMsIn
namespace Go.Proofs.YtkneogfeokckjaaDoor
open Go.ChangeShapes Go.WideShapes Go.ChangeAt Go.RowKit Go.Joins

def InI64 (z : Int) : Prop := -9223372036854775808 ≤ z ∧ z ≤ 9223372036854775807
/-- The numbers of a control message are ints. -/
def CtNum (c : Ct) : Prop := InI64 c.tunnel ∧ InI64 c.session ∧ InI64 c.ns ∧ InI64 c.nr
/-- The numbers of a data message are ints. -/
def LdNum (l : Ld) : Prop := InI64 l.tunnel ∧ InI64 l.session ∧ InI64 l.ns ∧ InI64 l.nr
theorem cellsCtl : Tryd.prog.cellsOf 24 = 5 := by kernel_rfl
theorem cellsLoad : Tryd.prog.cellsOf 26 = 6 := by kernel_rfl
theorem cellsAvs : Tryd.prog.cellsOf 22 = 1 := by kernel_rfl
section
variable {H : Type} {enc : TypeId × Value → H} {w : World} {base : Nat} {spare : Nat → Bool} {held : Bool}

theorem open_avps_in {fuel : Nat} {v : Value} {d : DataW H} {p : List MemPlace} (hf' : DataW.trod enc Tryd.prog w base spare held fuel 22 [v] = some (d, p)) (hw : Wt Tryd.prog 22 d) : ∃ l : List Av, AvsIn w v l := by
  obtain ⟨l, h1, h2, h3, _⟩ := open_rows avCells RAv Tryd.underlying22 cellsAvp av0 (fun _ => by simp [avCells]) each_av hf'
  have hs : ∀ x ∈ l, ((-9223372036854775808 ≤ x.vendor ∧ x.vendor ≤ 9223372036854775807) ∧ (-9223372036854775808 ≤ x.type ∧ x.type ≤ 9223372036854775807)) ∧ x.value.size ≤ 140737488351232 := fun x hx => by
    obtain ⟨y, ⟨hb, z0, z1, z2, z3, rfl⟩, hwy⟩ := wt_list hw Tryd.underlying22 h3 x hx
    exact ⟨hb, wt_string (wt_field (j := 4) (d := .lit (.string x.value.data.toList)) hwy Tryd.underlying43 rfl rfl)⟩
  exact ⟨l, h1, h2, fun x hx => ⟨(hs x hx).1.1, (hs x hx).1.2, by have := (hs x hx).2; unfold maxLen; omega⟩, fun x hx => (hs x hx).2⟩

set_option maxRecDepth 100000 in
theorem open_ctl {r : Reach} {b0 : Nat} {v : Value} {d : DataW H} {p : List MemPlace} (hv : Value.okWide Tryd.prog w r b0 24 v) (h : DataW.Trod enc Tryd.prog w base spare held 24 v d p) (hw : Wt Tryd.prog 24 d) :
    ∃ (c : Ct) (u : Value), v = ctV c u ∧ CtNum c ∧ AvsIn w u c.avps := by
  obtain ⟨cs, rfl, hsz⟩ := okWide_struct Tryd.underlying24 hv
  obtain ⟨fuel, hf⟩ := h
  have hf' : DataW.trod enc Tryd.prog w base spare held fuel 24 cs.toList = some (d, p) := by simpa [Value.cells] using hf
  obtain ⟨xs, k, hk, hxy, _, hxl, hg⟩ := DataW.trod_struct Tryd.underlying24 hf'
  obtain ⟨L, hL⟩ : ∃ L, L = cs.toList := ⟨_, rfl⟩
  have hlen : L.length = 5 := by rw [hL, Array.length_toList, hsz, cellsCtl]
  rw [← hL] at hg
  match xs, hxl, L, hlen, hL with
  | [y0, y1, y2, y3, y4], _, [v0, v1, v2, v3, v4], _, hL =>
    have g0 := hg 0 _ rfl
    have g1 := hg 1 _ rfl
    have g2 := hg 2 _ rfl
    have g3 := hg 3 _ rfl
    have g4 := hg 4 _ rfl
    simp [cellsIntV, cellsAvs] at g0 g1 g2 g3 g4
    obtain ⟨i0, e0, _, w0⟩ := DataW.trod_int Tryd.underlying3 g0
    obtain ⟨i1, e1, _, w1⟩ := DataW.trod_int Tryd.underlying3 g1
    obtain ⟨i2, e2, _, w2⟩ := DataW.trod_int Tryd.underlying3 g2
    obtain ⟨i3, e3, _, w3⟩ := DataW.trod_int Tryd.underlying3 g3
    simp at e0 e1 e2 e3
    subst e0 e1 e2 e3
    have hd : d = .agg ([y0, y1, y2, y3, y4].map (·.1)) := congrArg Prod.fst hxy
    obtain ⟨l, hl⟩ := open_avps_in (d := y4.1) (p := y4.2) g4 (wt_field (j := 4) (d := y4.1) (hd ▸ hw) Tryd.underlying24 rfl rfl)
    refine ⟨⟨i0, i1, i2, i3, l⟩, v4, ?_, ⟨bounds_i64 w0, bounds_i64 w1, bounds_i64 w2, bounds_i64 w3⟩, hl⟩
    unfold ctV
    congr 1
    exact Array.toList_inj.1 hL.symm

set_option maxRecDepth 100000 in
theorem open_load {r : Reach} {b0 : Nat} {v : Value} {d : DataW H} {p : List MemPlace} (hv : Value.okWide Tryd.prog w r b0 26 v) (h : DataW.Trod enc Tryd.prog w base spare held 26 v d p) (hw : Wt Tryd.prog 26 d) :
    ∃ l : Ld, v = ldV l ∧ LdNum l ∧ l.data.size ≤ 140737488351232 := by
  obtain ⟨cs, rfl, hsz⟩ := okWide_struct Tryd.underlying26 hv
  obtain ⟨fuel, hf⟩ := h
  have hf' : DataW.trod enc Tryd.prog w base spare held fuel 26 cs.toList = some (d, p) := by simpa [Value.cells] using hf
  obtain ⟨xs, k, hk, hxy, _, hxl, hg⟩ := DataW.trod_struct Tryd.underlying26 hf'
  obtain ⟨L, hL⟩ : ∃ L, L = cs.toList := ⟨_, rfl⟩
  have hlen : L.length = 6 := by rw [hL, Array.length_toList, hsz, cellsLoad]
  rw [← hL] at hg
  match xs, hxl, L, hlen, hL with
  | [y0, y1, y2, y3, y4, y5], _, [v0, v1, v2, v3, v4, v5], _, hL =>
    have g0 := hg 0 _ rfl
    have g1 := hg 1 _ rfl
    have g2 := hg 2 _ rfl
    have g3 := hg 3 _ rfl
    have g4 := hg 4 _ rfl
    have g5 := hg 5 _ rfl
    simp [cellsIntV, cellsBoolV, cellsStrV] at g0 g1 g2 g3 g4 g5
    obtain ⟨i0, e0, _, w0⟩ := DataW.trod_int Tryd.underlying3 g0
    obtain ⟨i1, e1, _, w1⟩ := DataW.trod_int Tryd.underlying3 g1
    obtain ⟨q2, e2, _⟩ := DataW.trod_bool Tryd.underlying4 g2
    obtain ⟨i3, e3, _, w3⟩ := DataW.trod_int Tryd.underlying3 g3
    obtain ⟨i4, e4, _, w4⟩ := DataW.trod_int Tryd.underlying3 g4
    obtain ⟨x, e5, hy5, _⟩ := DataW.trod_string Tryd.underlying9 g5
    simp at e0 e1 e2 e3 e4 e5
    subst e0 e1 e2 e3 e4 e5
    have hd : d = .agg ([y0, y1, y2, y3, y4, y5].map (·.1)) := congrArg Prod.fst hxy
    have h5 : y5.1 = .lit (.string x.data.toList) := by rw [hy5]
    refine ⟨⟨i0, i1, q2, i3, i4, x⟩, ?_, ⟨bounds_i64 w0, bounds_i64 w1, bounds_i64 w3, bounds_i64 w4⟩, ?_⟩
    · unfold ldV
      congr 1
      exact Array.toList_inj.1 hL.symm
    · exact wt_string (wt_field (j := 5) (d := .lit (.string x.data.toList)) (hd ▸ hw) Tryd.underlying26 rfl (by simp [h5]))
end
end Go.Proofs.YtkneogfeokckjaaDoor
