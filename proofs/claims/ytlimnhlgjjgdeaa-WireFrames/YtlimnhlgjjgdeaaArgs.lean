/- How a frame and a datagram among the arguments are read: what their cells are, for every value of their types; and that the strings in them are within the form's own reach. -/
import Derived.Test.YtlimnhlgjjgdeaaPutEther
import Derived.Test.YtlimnhlgjjgdeaaPutGram
import Derived.ProofKit
import Derived.OpenShut
import Derived.SizedLaws
import Derived.Lib.SmallJoins
namespace Go.Proofs.Ytlimnhlgjjgdeaa
open Go.ChangeShapes Go.WideShapes Go.ChangeAt Go.RowKit Go.Joins

theorem cells5 : Try.prog.cellsOf 5 = 1 := by kernel_rfl
theorem cellsMac : Try.prog.cellsOf 23 = 6 := by kernel_rfl
theorem cellsEth : Try.prog.cellsOf 25 = 14 := by kernel_rfl
theorem cellsGram : Try.prog.cellsOf 27 = 3 := by kernel_rfl
theorem cells3 : Try.prog.cellsOf 3 = 1 := by kernel_rfl
theorem cells9 : Try.prog.cellsOf 9 = 1 := by kernel_rfl

def byteOf : Value → UInt8
  | .int _ n => UInt8.ofNat n.toNat
  | _ => 0
section
variable {H : Type} {enc : TypeId × Value → H} {w : World} {base : Nat} {spare : Nat → Bool} {held : Bool}
theorem mac_cells {fuel : Nat} {l : List Value} {x : DataW H × List MemPlace}
    (h : DataW.trod enc Try.prog w base spare held fuel 23 l = some x) : ∃ d : List UInt8, d.length = 6 ∧ l = Lib.byteCells d := by
  obtain ⟨xs, m, _, _, hl, hn, hf⟩ := DataW.trod_array Try.underlying23 h
  rw [cellsMac] at hl
  refine ⟨l.map byteOf, by simp [hl], ?_⟩
  apply List.ext_getElem?
  intro i
  by_cases hi : i < 6
  · have hfi := hf i hi
    rw [cells5, Nat.mul_one, List.getElem?_eq_getElem (by omega)] at hfi
    obtain ⟨n, hc, _, hw⟩ := DataW.trod_int Try.underlying5 hfi
    have hb := bounds_u8 hw
    have hli : l[i]? = some (.int .u8 n) := by
      have h0 : ((l.drop i).take 1)[0]? = some (.int .u8 n) := by rw [hc]; rfl
      rw [List.getElem?_take_of_lt (by decide), List.getElem?_drop, Nat.add_zero] at h0
      exact h0
    simp only [Lib.byteCells, List.map_map, List.getElem?_map, hli, Option.map_some, Function.comp, byteOf]
    have hlt : n.toNat < 256 := by omega
    have e : (UInt8.ofNat n.toNat).toNat = n.toNat := UInt8.toNat_ofNat_of_lt hlt
    rw [e, Int.toNat_of_nonneg hb.1]
  · rw [List.getElem?_eq_none (by omega), List.getElem?_eq_none (by simp [Lib.byteCells]; omega)]

theorem open_ether {r : Reach} {b0 : Nat} {v : Value} {d : DataW H} {p : List MemPlace} (hv : Value.okWide Try.prog w r b0 25 v) (h : DataW.Trod enc Try.prog w base spare held 25 v d p) :
    ∃ (a b : List UInt8) (ty : Int) (x : ByteArray) (y0 y1 : DataW H), v = .agg (ethCells a b ty x).toArray ∧ a.length = 6 ∧ b.length = 6 ∧ (Lit.int .i64 ty).wf = true ∧ d = .agg [y0, y1, .lit (.int .i64 ty), .lit (.string x.data.toList)] := by
  obtain ⟨cs, rfl, hsz⟩ := okWide_struct Try.underlying25 hv
  rw [cellsEth] at hsz
  obtain ⟨fuel, hf⟩ := h
  obtain ⟨y0, y1, y2, y3, n, hx, _, h0, h1, h2, h3⟩ := trod_struct4 Try.underlying25 hf
  simp only [Prod.mk.injEq] at hx
  obtain ⟨a, ha, ea⟩ := mac_cells h0
  obtain ⟨b, hb, eb⟩ := mac_cells h1
  obtain ⟨ty, et, hy2, wt⟩ := DataW.trod_int Try.underlying3 h2
  obtain ⟨x, ex, hy3, _⟩ := DataW.trod_string Try.underlying9 h3
  rw [cellsMac] at ea eb
  rw [cells3] at et
  rw [cells9] at ex
  refine ⟨a, b, ty, x, y0.1, y1.1, ?_, ha, hb, wt, by rw [hx.1, hy2, hy3]⟩
  congr 1
  apply Array.toList_inj.1
  have hl : cs.toList.length = 14 := by simpa using hsz
  have e : (Value.agg cs).cells.toList = cs.toList := rfl
  rw [e] at ea eb et ex
  generalize cs.toList = L at hl ea eb et ex
  unfold ethCells
  rw [← ea, ← eb]
  have e2 : [Value.int .i64 ty, .string x] = [Value.int .i64 ty] ++ [.string x] := rfl
  rw [e2, ← et, ← ex]
  have f0 : L = L.take 6 ++ L.drop 6 := (List.take_append_drop 6 L).symm
  have f1 : L.drop 6 = (L.drop 6).take 6 ++ L.drop 12 := by have := (List.take_append_drop 6 (L.drop 6)).symm; rw [List.drop_drop] at this; exact this
  have f2 : L.drop 12 = (L.drop 12).take 1 ++ L.drop 13 := by have := (List.take_append_drop 1 (L.drop 12)).symm; rw [List.drop_drop] at this; exact this
  have f3 : (L.drop 13).take 1 = L.drop 13 := List.take_of_length_le (by simp; omega)
  show L = (L.drop 0).take 6 ++ ((L.drop 6).take 6 ++ ((L.drop 12).take 1 ++ (L.drop 13).take 1))
  rw [List.drop_zero, f3, ← f2, ← f1, ← f0]

theorem open_gram {r : Reach} {b0 : Nat} {v : Value} {d : DataW H} {p : List MemPlace} (hv : Value.okWide Try.prog w r b0 27 v) (h : DataW.Trod enc Try.prog w base spare held 27 v d p) :
    ∃ (f t : Int) (x : ByteArray), v = .agg #[.int .i64 f, .int .i64 t, .string x] ∧ (Lit.int .i64 f).wf = true ∧ (Lit.int .i64 t).wf = true ∧ d = .agg [.lit (.int .i64 f), .lit (.int .i64 t), .lit (.string x.data.toList)] := by
  obtain ⟨c0, c1, c2, y0, y1, y2, n, rfl, hd, _, h0, h1, h2⟩ := open_agg3 Try.underlying27 (by kernel_rfl) cellsGram hv h
  obtain ⟨f, e0, hy0, wf⟩ := DataW.trod_int Try.underlying3 h0
  obtain ⟨t, e1, hy1, wt⟩ := DataW.trod_int Try.underlying3 h1
  obtain ⟨x, e2, hy2, _⟩ := DataW.trod_string Try.underlying9 h2
  simp at e0 e1 e2
  subst e0 e1 e2
  exact ⟨f, t, x, rfl, wf, wt, by rw [hd, hy0, hy1, hy2]⟩

theorem sized_ether {ts : List TypeId} {ds : List (DataW H)} (h : (DataW.weightsEach Try.prog ts ds).all (· ≤ reachBytes) = true) {j : Nat} {y0 y1 y2 : DataW H} {bytes : List UInt8}
    (ht : ts[j]? = some 25) (hd : ds[j]? = some (.agg [y0, y1, y2, .lit (.string bytes)])) : bytes.length ≤ reachBytes := by
  have hm : bytes.length ∈ DataW.weights Try.prog 25 (.agg [y0, y1, y2, .lit (.string bytes)] : DataW H) := by
    simp only [DataW.weights, Try.underlying25]
    exact DataW.weights_mem_each (j := 3) (t := 9) (d := .lit (.string bytes)) rfl rfl bytes.length (by simp [DataW.weights])
  have := List.all_eq_true.1 h _ (DataW.weights_mem_each ht hd bytes.length hm)
  simpa using this
theorem sized_gram {ts : List TypeId} {ds : List (DataW H)} (h : (DataW.weightsEach Try.prog ts ds).all (· ≤ reachBytes) = true) {j : Nat} {y0 y1 : DataW H} {bytes : List UInt8}
    (ht : ts[j]? = some 27) (hd : ds[j]? = some (.agg [y0, y1, .lit (.string bytes)])) : bytes.length ≤ reachBytes := by
  have hm : bytes.length ∈ DataW.weights Try.prog 27 (.agg [y0, y1, .lit (.string bytes)] : DataW H) := by
    simp only [DataW.weights, Try.underlying27]
    exact DataW.weights_mem_each (j := 2) (t := 9) (d := .lit (.string bytes)) rfl rfl bytes.length (by simp [DataW.weights])
  have := List.all_eq_true.1 h _ (DataW.weights_mem_each ht hd bytes.length hm)
  simpa using this
end
end Go.Proofs.Ytlimnhlgjjgdeaa
