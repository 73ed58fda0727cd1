/- How an address, a key, a list of ints and a list of steps (tollgatelaw16.Op) among the arguments are read. -/
import Derived.Test.YtblcojggjplndaaDoorArgKit
import Derived.Test.YtblcojggjplndaaDoorPlAd
import Derived.Test.YtblcojggjplndaaDoorProg
import Derived.ChangeArms
namespace Go.Proofs.YtblcojggjplndaaDoor
open Go.ChangeShapes Go.WideShapes Go.ChangeAt Go.RowKit Go.Joins

theorem cells16a : Tryd.prog.cellsOf 23 = 4 := by kernel_rfl
theorem cells16k : Tryd.prog.cellsOf 34 = 2 := by kernel_rfl
theorem cells16i : Tryd.prog.cellsOf 3 = 1 := by kernel_rfl
theorem cells16b : Tryd.prog.cellsOf 5 = 1 := by kernel_rfl
theorem cellsOp16 : Tryd.prog.cellsOf 36 = 7 := by kernel_rfl
def byteOf : Value → UInt8
  | .int _ n => UInt8.ofNat n.toNat
  | _ => 0
section
variable {H : Type} {enc : TypeId × Value → H} {w : World} {base : Nat} {spare : Nat → Bool} {held : Bool}
theorem byte_at {fuel : Nat} {c : Value} {x : DataW H × List MemPlace} (h : DataW.trod enc Tryd.prog w base spare held fuel 5 [c] = some x) : c = .int .u8 ((byteOf c).toNat : Int) := by
  obtain ⟨n, hc, _, hw⟩ := DataW.trod_int Tryd.underlying5 h
  have hb := bounds_u8 hw
  simp at hc
  subst hc
  have hlt : n.toNat < 256 := by omega
  have e : (UInt8.ofNat n.toNat).toNat = n.toNat := UInt8.toNat_ofNat_of_lt hlt
  simp only [byteOf]
  rw [e, Int.toNat_of_nonneg hb.1]
set_option maxRecDepth 100000 in
theorem ad_cells {fuel : Nat} {l : List Value} {x : DataW H × List MemPlace} (h : DataW.trod enc Tryd.prog w base spare held fuel 23 l = some x) : ∃ y : Ad, l = adCells y := by
  obtain ⟨xs, m, _, _, hl, hn, hf⟩ := DataW.trod_array Tryd.underlying23 h
  rw [cells16a] at hl
  match l, hl, xs, hn with
  | [v0, v1, v2, v3], _, [y0, y1, y2, y3], _ =>
    have g0 := hf 0 (by decide)
    have g1 := hf 1 (by decide)
    have g2 := hf 2 (by decide)
    have g3 := hf 3 (by decide)
    simp [cells16b] at g0 g1 g2 g3
    refine ⟨⟨byteOf v0, byteOf v1, byteOf v2, byteOf v3⟩, ?_⟩
    unfold adCells
    rw [← byte_at g0, ← byte_at g1, ← byte_at g2, ← byte_at g3]
set_option maxRecDepth 100000 in
theorem key_cells {fuel : Nat} {l : List Value} {x : DataW H × List MemPlace} (hl : l.length = 2) (h : DataW.trod enc Tryd.prog w base spare held fuel 34 l = some x) : ∃ t s : Int, l = [.int .i64 t, .int .i64 s] ∧ I64 t ∧ I64 s := by
  obtain ⟨xs, k, _, _, _, hxl, hf⟩ := DataW.trod_struct Tryd.underlying34 h
  match xs, hxl, l, hl with
  | [y0, y1], _, [v0, v1], _ =>
    have g0 := hf 0 _ rfl
    have g1 := hf 1 _ rfl
    simp [cells16i] at g0 g1
    obtain ⟨i0, e0, _, w0⟩ := DataW.trod_int Tryd.underlying3 g0
    obtain ⟨i1, e1, _, w1⟩ := DataW.trod_int Tryd.underlying3 g1
    simp at e0 e1
    subst e0 e1
    exact ⟨i0, i1, rfl, bounds_i64 w0, bounds_i64 w1⟩
set_option maxRecDepth 100000 in
theorem open_addr {r : Reach} {b0 : Nat} {v : Value} {d : DataW H} {p : List MemPlace} (hv : Value.okWide Tryd.prog w r b0 23 v) (h : DataW.Trod enc Tryd.prog w base spare held 23 v d p) : ∃ y : Ad, v = adV y := by
  obtain ⟨cs, rfl⟩ : ∃ cs, v = .agg cs := by
    simp only [Value.okWide, Tryd.underlying23] at hv
    obtain ⟨cs, h1, _⟩ := hv
    exact ⟨cs, h1⟩
  obtain ⟨fuel, hf⟩ := h
  obtain ⟨y, hc⟩ := ad_cells hf
  refine ⟨y, ?_⟩
  unfold adV
  congr 1
  apply Array.toList_inj.1
  exact hc
set_option maxRecDepth 100000 in
theorem open_pkey {r : Reach} {b0 : Nat} {v : Value} {d : DataW H} {p : List MemPlace} (hv : Value.okWide Tryd.prog w r b0 34 v) (h : DataW.Trod enc Tryd.prog w base spare held 34 v d p) : ∃ t s : Int, v = .agg #[.int .i64 t, .int .i64 s] ∧ I64 t ∧ I64 s := by
  obtain ⟨c0, c1, y0, y1, n, rfl, hd, _, h0, h1⟩ := open_agg2 Tryd.underlying34 (by kernel_rfl) cells16k hv h
  obtain ⟨k, e0, hy0, wk⟩ := DataW.trod_int Tryd.underlying3 h0
  obtain ⟨i, e1, hy1, wi⟩ := DataW.trod_int Tryd.underlying3 h1
  simp at e0 e1
  subst e0 e1
  exact ⟨k, i, rfl, bounds_i64 wk, bounds_i64 wi⟩

def RInt (x : Int) (_ : DataW H) : Prop := I64 x
def intC (x : Int) : List Value := [.int .i64 x]
theorem each_int (n : Nat) (cs : List Value) (y : DataW H × List MemPlace) (_ : cs.length = 1) (ht : DataW.trod enc Tryd.prog w base spare held n 3 cs = some y) : ∃ x : Int, cs = intC x ∧ RInt x y.1 := by
  obtain ⟨i, e, _, hw⟩ := DataW.trod_int Tryd.underlying3 ht
  exact ⟨i, e, bounds_i64 hw⟩
def IntsR (W : World) (v : Value) (l : List Int) : Prop := RowsAt W 1 intC v l
set_option maxRecDepth 100000 in
theorem open_intsR {r : Reach} {b0 : Nat} {v : Value} {d : DataW H} {p : List MemPlace} (hv : Value.okWide Tryd.prog w r b0 61 v) (h : DataW.Trod enc Tryd.prog w base spare held 61 v d p) :
    ∃ l : List Int, IntsR w v l ∧ l.length ≤ maxLen ∧ ∀ x ∈ l, I64 x := by
  obtain ⟨a, len, cap, rfl⟩ := okWide_slice Tryd.underlying61 hv
  obtain ⟨fuel, hf⟩ := h
  have hf' : DataW.trod enc Tryd.prog w base spare held fuel 61 [.slice a len cap] = some (d, p) := by simpa [Value.cells] using hf
  obtain ⟨l, h1, h2, h3, _⟩ := open_rows intC RInt Tryd.underlying61 cells16i 0 (fun _ => by simp [intC]) each_int hf'
  refine ⟨l, h1, h2, fun x hx => ?_⟩
  rcases h3 with rfl | ⟨es, sp, _, h4⟩
  · simp at hx
  · obtain ⟨j, hj, e⟩ := List.getElem_of_mem hx
    obtain ⟨y, _, h5⟩ := h4 j x (by rw [List.getElem?_eq_getElem hj, e])
    exact h5

/-- A step: what is done, a key, an address. -/
structure Op16 where
  kind : Int
  t : Int
  s : Int
  a : Ad
def op16Cells (x : Op16) : List Value := [.int .i64 x.kind, .int .i64 x.t, .int .i64 x.s, .int .u8 (x.a.a.toNat : Int), .int .u8 (x.a.b.toNat : Int), .int .u8 (x.a.c.toNat : Int), .int .u8 (x.a.d.toNat : Int)]
def ROp16 (x : Op16) (_ : DataW H) : Prop := I64 x.t ∧ I64 x.s
set_option maxRecDepth 100000 in
theorem each_op16 (n : Nat) (cs : List Value) (y : DataW H × List MemPlace) (hlen : cs.length = 7) (ht : DataW.trod enc Tryd.prog w base spare held n 36 cs = some y) : ∃ x : Op16, cs = op16Cells x ∧ ROp16 x y.1 := by
  obtain ⟨xs, k, hk, hxy, _, hxl, hf⟩ := DataW.trod_struct Tryd.underlying36 ht
  match xs, hxl, cs, hlen with
  | [y0, y1, y2], _, [v0, v1, v2, v3, v4, v5, v6], _ =>
    have g0 := hf 0 _ rfl
    have g1 := hf 1 _ rfl
    have g2 := hf 2 _ rfl
    simp [cells16i, cells16k, cells16a] at g0 g1 g2
    obtain ⟨i0, e0, _, _⟩ := DataW.trod_int Tryd.underlying3 g0
    obtain ⟨t, s, e1, h4, h5⟩ := key_cells rfl g1
    obtain ⟨a, e2⟩ := ad_cells g2
    simp at e0 e1
    simp [adCells] at e2
    obtain ⟨rfl, rfl⟩ := e1
    obtain ⟨rfl, rfl, rfl, rfl⟩ := e2
    subst e0
    exact ⟨⟨i0, t, s, a⟩, rfl, h4, h5⟩
def Ops16 (W : World) (v : Value) (l : List Op16) : Prop := RowsAt W 7 op16Cells v l
set_option maxRecDepth 100000 in
theorem open_ops16 {r : Reach} {b0 : Nat} {v : Value} {d : DataW H} {p : List MemPlace} (hv : Value.okWide Tryd.prog w r b0 24 v) (h : DataW.Trod enc Tryd.prog w base spare held 24 v d p) :
    ∃ l : List Op16, Ops16 w v l ∧ l.length ≤ maxLen ∧ ∀ x ∈ l, I64 x.t ∧ I64 x.s := by
  obtain ⟨a, len, cap, rfl⟩ := okWide_slice Tryd.underlying24 hv
  obtain ⟨fuel, hf⟩ := h
  have hf' : DataW.trod enc Tryd.prog w base spare held fuel 24 [.slice a len cap] = some (d, p) := by simpa [Value.cells] using hf
  obtain ⟨l, h1, h2, h3, _⟩ := open_rows op16Cells ROp16 Tryd.underlying24 cellsOp16 ⟨0, 0, 0, ad0⟩ (fun _ => by simp [op16Cells]) each_op16 hf'
  refine ⟨l, h1, h2, fun x hx => ?_⟩
  rcases h3 with rfl | ⟨es, sp, _, h4⟩
  · simp at hx
  · obtain ⟨j, hj, e⟩ := List.getElem_of_mem hx
    obtain ⟨y, _, h5⟩ := h4 j x (by rw [List.getElem?_eq_getElem hj, e])
    exact h5
end
end Go.Proofs.YtblcojggjplndaaDoor
