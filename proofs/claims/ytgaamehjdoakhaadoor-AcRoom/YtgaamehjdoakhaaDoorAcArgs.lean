/- How a card, a frame, an id and a list of ints among the arguments are read. -/
import Derived.Test.YtgaamehjdoakhaaDoorAcIn
import Derived.Test.YtgaamehjdoakhaaDoorAcEth
import Derived.Test.YtgaamehjdoakhaaDoorAcDig
import Derived.ChangeSlices
import Derived.ProofKit
import Derived.OpenShut
import Derived.SizedLaws
import Derived.Lib.SmallJoins
namespace Go.Proofs.YtgaamehjdoakhaaDoor
open Go.ChangeShapes Go.WideShapes Go.ChangeAt Go.RowKit Go.Joins

theorem cellsEth : Tryd.prog.cellsOf 25 = 14 := by kernel_rfl
theorem cells9 : Tryd.prog.cellsOf 9 = 1 := by kernel_rfl
def intCells (l : List Int) : List Value := l.map (Value.int .i64)
/-- A list of ints in memory, as an argument of the type []int. -/
def IntsAt (W : World) (v : Value) (l : List Int) : Prop :=
  (v = .slice none 0 0 ∧ l = []) ∨ ∃ ad cap, v = .slice (some ad) l.length cap ∧ l.length ≤ cap ∧ cap ≤ maxLen ∧ ∀ j u, (intCells l)[j]? = some u → W.cell? (ad.add j) = some u

section
variable {H : Type} {enc : TypeId × Value → H} {w : World} {base : Nat} {spare : Nat → Bool} {held : Bool}

theorem in64_of_wf {x : Int} (h : (Lit.int .i64 x).wf = true) : In64 x := by
  have := bounds_i64 h
  exact this

set_option maxRecDepth 100000 in
theorem open_ether {r : Reach} {b0 : Nat} {v : Value} {d : DataW H} {p : List MemPlace} (hv : Value.okWide Tryd.prog w r b0 25 v) (h : DataW.Trod enc Tryd.prog w base spare held 25 v d p) :
    ∃ (a b : List UInt8) (ty : Int) (x : ByteArray) (y0 y1 : DataW H), v = .agg (frList ⟨a, b, ty, x⟩).toArray ∧ a.length = 6 ∧ b.length = 6 ∧ (Lit.int .i64 ty).wf = true ∧ d = .agg [y0, y1, .lit (.int .i64 ty), .lit (.string x.data.toList)] := by
  obtain ⟨cs, rfl, hsz⟩ := okWide_struct Tryd.underlying25 hv
  rw [cellsEth] at hsz
  obtain ⟨fuel, hf⟩ := h
  obtain ⟨y0, y1, y2, y3, n, hx, _, h0, h1, h2, h3⟩ := trod_struct4 Tryd.underlying25 hf
  simp only [Prod.mk.injEq] at hx
  obtain ⟨a, ha, ea⟩ := mac_cells h0
  obtain ⟨b, hb, eb⟩ := mac_cells h1
  obtain ⟨ty, et, hy2, wt⟩ := DataW.trod_int Tryd.underlying3 h2
  obtain ⟨x, ex, hy3, _⟩ := DataW.trod_string Tryd.underlying9 h3
  rw [cellsMac] at ea eb
  rw [cells3] at et
  rw [cells9] at ex
  refine ⟨a, b, ty, x, y0.1, y1.1, ?_, ha, hb, wt, by rw [hx.1, hy2, hy3]⟩
  congr 1
  apply Array.toList_inj.1
  have hl : cs.toList.length = 14 := by simpa using hsz
  have e : (Value.agg cs).cells.toList = cs.toList := rfl
  rw [e] at ea eb et ex
  generalize cs.toList = L at hl ea eb et ex
  unfold frList
  simp only []
  rw [← ea, ← eb]
  have e2 : [Value.int .i64 ty, .string x] = [Value.int .i64 ty] ++ [.string x] := rfl
  rw [e2, ← et, ← ex]
  have f0 : L = L.take 6 ++ L.drop 6 := (List.take_append_drop 6 L).symm
  have f1 : L.drop 6 = (L.drop 6).take 6 ++ L.drop 12 := by have := (List.take_append_drop 6 (L.drop 6)).symm; rw [List.drop_drop] at this; exact this
  have f2 : L.drop 12 = (L.drop 12).take 1 ++ L.drop 13 := by have := (List.take_append_drop 1 (L.drop 12)).symm; rw [List.drop_drop] at this; exact this
  have f3 : (L.drop 13).take 1 = L.drop 13 := List.take_of_length_le (by simp; omega)
  rw [List.append_assoc]
  show L = (L.drop 0).take 6 ++ ((L.drop 6).take 6 ++ ((L.drop 12).take 1 ++ (L.drop 13).take 1))
  rw [List.drop_zero, f3, ← f2, ← f1, ← f0]

set_option maxRecDepth 100000 in
theorem open_id {r : Reach} {b0 : Nat} {v : Value} {d : DataW H} {p : List MemPlace} (hv : Value.okWide Tryd.prog w r b0 27 v) (h : DataW.Trod enc Tryd.prog w base spare held 27 v d p) :
    ∃ (a : List UInt8) (n : Int), v = idV a n ∧ a.length = 6 ∧ In64 n := by
  obtain ⟨cs, rfl, hsz⟩ := okWide_struct Tryd.underlying27 hv
  rw [cellsId] at hsz
  obtain ⟨fuel, hf⟩ := h
  obtain ⟨y0, y1, n, hx, _, h0, h1⟩ := trod_struct2 Tryd.underlying27 hf
  obtain ⟨a, ha, ea⟩ := mac_cells h0
  obtain ⟨ty, et, hy2, wt⟩ := DataW.trod_int Tryd.underlying3 h1
  rw [cellsMac] at ea
  rw [cells3] at et
  refine ⟨a, ty, ?_, ha, in64_of_wf wt⟩
  unfold idV
  congr 1
  apply Array.toList_inj.1
  have hl : cs.toList.length = 7 := by simpa using hsz
  have e : (Value.agg cs).cells.toList = cs.toList := rfl
  rw [e] at ea et
  generalize cs.toList = L at hl ea et
  unfold idCells
  rw [← ea, ← et]
  have f3 : (L.drop 6).take 1 = L.drop 6 := List.take_of_length_le (by simp; omega)
  show L = (L.drop 0).take 6 ++ (L.drop 6).take 1
  rw [List.drop_zero, f3, List.take_append_drop]

theorem sized_ether {ts : List TypeId} {ds : List (DataW H)} (h : (DataW.weightsEach Tryd.prog ts ds).all (· ≤ reachBytes) = true) {j : Nat} {y0 y1 y2 : DataW H} {bytes : List UInt8}
    (ht : ts[j]? = some 25) (hd : ds[j]? = some (.agg [y0, y1, y2, .lit (.string bytes)])) : bytes.length ≤ reachBytes := by
  have hm : bytes.length ∈ DataW.weights Tryd.prog 25 (.agg [y0, y1, y2, .lit (.string bytes)] : DataW H) := by
    simp only [DataW.weights, Tryd.underlying25]
    exact DataW.weights_mem_each (j := 3) (t := 9) (d := .lit (.string bytes)) rfl rfl bytes.length (by simp [DataW.weights])
  have := List.all_eq_true.1 h _ (DataW.weights_mem_each ht hd bytes.length hm)
  simpa using this
set_option maxRecDepth 100000 in
theorem open_ints {r : Reach} {b0 : Nat} {v : Value} {d : DataW H} {p : List MemPlace} (hv : Value.okWide Tryd.prog w r b0 48 v) (h : DataW.Trod enc Tryd.prog w base spare held 48 v d p) : ∃ l : List Int, IntsAt w v l ∧ ∀ x ∈ l, In64 x := by
  obtain ⟨a, len, cap, rfl⟩ := okWide_slice Tryd.underlying48 hv
  obtain ⟨fuel, hf⟩ := h
  have hf' : DataW.trod enc Tryd.prog w base spare held fuel 48 [.slice a len cap] = some (d, p) := by simpa [Value.cells] using hf
  rcases ChangeShapes.open_ints Tryd.underlying48 Tryd.underlying3 cells3 hf' with ⟨hcs, _⟩ | ⟨a', len', cap', zs, hcs, hb, hl, hm, hz, hx, hcell, hwf⟩
  · simp at hcs
    obtain ⟨rfl, rfl, rfl⟩ := hcs
    exact ⟨[], Or.inl ⟨rfl, rfl⟩, by simp⟩
  · simp at hcs
    obtain ⟨rfl, rfl, rfl⟩ := hcs
    have hle : len ≤ zs.length := by rw [hz]; split <;> omega
    have hll : (zs.take len).length = len := by simp; omega
    refine ⟨zs.take len, Or.inr ⟨a', cap, by rw [hll], by omega, hm, fun j u hj => ?_⟩, fun x hx => in64_of_wf (hwf x (List.mem_of_mem_take hx))⟩
    · have hjl : j < len := by
        have := (List.getElem?_eq_some_iff.1 hj).1
        simp [intCells] at this
        omega
      have hg : zs[j]? = some (zs.getD j 0) := by
        rw [List.getD_eq_getElem?_getD, List.getElem?_eq_getElem (by omega)]
        rfl
      rw [hcell j (by omega)]
      unfold intCells at hj
      rw [List.getElem?_map, List.getElem?_take_of_lt hjl, hg] at hj
      exact hj
end
end Go.Proofs.YtgaamehjdoakhaaDoor
