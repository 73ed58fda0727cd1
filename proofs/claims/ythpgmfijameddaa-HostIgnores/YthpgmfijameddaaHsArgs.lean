/- How a card, a frame and a list of what is done are read among the arguments. -/
import Derived.Test.YthpgmfijameddaaHsSmall
import Derived.Test.YthpgmfijameddaaEtEq
import Derived.ChangeSlices
import Derived.ProofKit
import Derived.OpenShut
import Derived.SizedLaws
import Derived.Lib.SmallJoins
import Derived.Deep.Strs
import Derived.Below
namespace Go.Proofs.Ythpgmfijameddaa
open Go.ChangeShapes Go.WideShapes Go.ChangeAt Go.RowKit Go.Joins

theorem laidOutT : laidOutB Try.prog = true := by kernel_rfl
def In64 (x : Int) : Prop := -9223372036854775808 ≤ x ∧ x ≤ 9223372036854775807
theorem cells3 : Try.prog.cellsOf 3 = 1 := by kernel_rfl
theorem cellsEth : Try.prog.cellsOf 25 = 14 := by kernel_rfl
theorem cells9 : Try.prog.cellsOf 9 = 1 := by kernel_rfl
theorem ck5 : Try.prog.cellsOf 5 = 1 := by kernel_rfl
theorem ckMac : Try.prog.cellsOf 23 = 6 := by kernel_rfl
def byteOf : Value → UInt8
  | .int _ n => UInt8.ofNat n.toNat
  | _ => 0
section
variable {H : Type} {enc : TypeId × Value → H} {w : World} {base : Nat} {spare : Nat → Bool} {held : Bool}
theorem mac_cells {fuel : Nat} {l : List Value} {x : DataW H × List MemPlace}
    (h : DataW.trod enc Try.prog w base spare held fuel 23 l = some x) : ∃ d : List UInt8, d.length = 6 ∧ l = Lib.byteCells d := by
  obtain ⟨xs, m, _, _, hl, hn, hf⟩ := DataW.trod_array Try.underlying23 h
  rw [ckMac] at hl
  refine ⟨l.map byteOf, by simp [hl], ?_⟩
  apply List.ext_getElem?
  intro i
  by_cases hi : i < 6
  · have hfi := hf i hi
    rw [ck5, Nat.mul_one, List.getElem?_eq_getElem (by omega)] at hfi
    obtain ⟨n, hc, _, hw⟩ := DataW.trod_int Try.underlying5 hfi
    have hb := bounds_u8 hw
    have hli : l[i]? = some (.int .u8 n) := by
      have h0 : ((l.drop i).take 1)[0]? = some (.int .u8 n) := by rw [hc]; rfl
      rw [List.getElem?_take_of_lt (by decide), List.getElem?_drop, Nat.add_zero] at h0
      exact h0
    simp only [Lib.byteCells, List.map_map, List.getElem?_map, hli, Option.map_some, Function.comp, byteOf]
    have hlt : n.toNat < 256 := by omega
    have e : (UInt8.ofNat n.toNat).toNat = n.toNat := UInt8.toNat_ofNat_of_lt hlt
    rw [e, Int.toNat_of_nonneg hb.1]
  · rw [List.getElem?_eq_none (by omega), List.getElem?_eq_none (by simp [Lib.byteCells]; omega)]
end
section
variable {H : Type} {enc : TypeId × Value → H} {w : World} {base : Nat} {spare : Nat → Bool} {held : Bool}
theorem in64_of_wf {x : Int} (h : (Lit.int .i64 x).wf = true) : In64 x := by
  have := bounds_i64 h
  exact this

set_option maxRecDepth 100000 in
theorem open_ether {r : Reach} {b0 : Nat} {v : Value} {d : DataW H} {p : List MemPlace} (hv : Value.okWide Try.prog w r b0 25 v) (h : DataW.Trod enc Try.prog w base spare held 25 v d p) :
    ∃ (a b : List UInt8) (ty : Int) (x : ByteArray) (y0 y1 : DataW H), v = .agg (frList ⟨a, b, ty, x⟩).toArray ∧ a.length = 6 ∧ b.length = 6 ∧ (Lit.int .i64 ty).wf = true ∧ d = .agg [y0, y1, .lit (.int .i64 ty), .lit (.string x.data.toList)] := by
  obtain ⟨cs, rfl, hsz⟩ := okWide_struct Try.underlying25 hv
  rw [cellsEth] at hsz
  obtain ⟨fuel, hf⟩ := h
  obtain ⟨y0, y1, y2, y3, n, hx, _, h0, h1, h2, h3⟩ := trod_struct4 Try.underlying25 hf
  simp only [Prod.mk.injEq] at hx
  obtain ⟨a, ha, ea⟩ := mac_cells h0
  obtain ⟨b, hb, eb⟩ := mac_cells h1
  obtain ⟨ty, et, hy2, wt⟩ := DataW.trod_int Try.underlying3 h2
  obtain ⟨x, ex, hy3, _⟩ := DataW.trod_string Try.underlying9 h3
  rw [cellsMac] at ea eb
  rw [cells3] at et
  rw [cells9] at ex
  refine ⟨a, b, ty, x, y0.1, y1.1, ?_, ha, hb, wt, by rw [hx.1, hy2, hy3]⟩
  congr 1
  apply Array.toList_inj.1
  have hl : cs.toList.length = 14 := by simpa using hsz
  have e : (Value.agg cs).cells.toList = cs.toList := rfl
  rw [e] at ea eb et ex
  generalize cs.toList = L at hl ea eb et ex
  unfold frList
  simp only []
  rw [← ea, ← eb]
  have e2 : [Value.int .i64 ty, .string x] = [Value.int .i64 ty] ++ [.string x] := rfl
  rw [e2, ← et, ← ex]
  have f0 : L = L.take 6 ++ L.drop 6 := (List.take_append_drop 6 L).symm
  have f1 : L.drop 6 = (L.drop 6).take 6 ++ L.drop 12 := by have := (List.take_append_drop 6 (L.drop 6)).symm; rw [List.drop_drop] at this; exact this
  have f2 : L.drop 12 = (L.drop 12).take 1 ++ L.drop 13 := by have := (List.take_append_drop 1 (L.drop 12)).symm; rw [List.drop_drop] at this; exact this
  have f3 : (L.drop 13).take 1 = L.drop 13 := List.take_of_length_le (by simp; omega)
  rw [List.append_assoc]
  show L = (L.drop 0).take 6 ++ ((L.drop 6).take 6 ++ ((L.drop 12).take 1 ++ (L.drop 13).take 1))
  rw [List.drop_zero, f3, ← f2, ← f1, ← f0]
theorem sized_ether {ts : List TypeId} {ds : List (DataW H)} (h : (DataW.weightsEach Try.prog ts ds).all (· ≤ reachBytes) = true) {j : Nat} {y0 y1 y2 : DataW H} {bytes : List UInt8}
    (ht : ts[j]? = some 25) (hd : ds[j]? = some (.agg [y0, y1, y2, .lit (.string bytes)])) : bytes.length ≤ reachBytes := by
  have hm : bytes.length ∈ DataW.weights Try.prog 25 (.agg [y0, y1, y2, .lit (.string bytes)] : DataW H) := by
    simp only [DataW.weights, Try.underlying25]
    exact DataW.weights_mem_each (j := 3) (t := 9) (d := .lit (.string bytes)) rfl rfl bytes.length (by simp [DataW.weights])
  have := List.all_eq_true.1 h _ (DataW.weights_mem_each ht hd bytes.length hm)
  simpa using this

theorem spot_none {W : World} {g o : Nat} {sp : Option Nat} {u : Value} (h : W.cell? ((⟨g, o, sp⟩ : Addr).add 0) = some u) : sp = none := by
  unfold Addr.add at h
  cases sp with
  | none => rfl
  | some q =>
    exfalso
    unfold World.cell? at h
    split at h <;> simp at h

/-- Something that is done. -/
structure Op8 where
  kind : Int
  f : Fr
  data : ByteArray
def opList (o : Op8) : List Value := [.int .i64 o.kind] ++ frList o.f ++ [.string o.data]
structure Op8Ok (o : Op8) : Prop where
  kind : In64 o.kind
  six : Fr6 o.f
  type : In64 o.f.type
  fdata : o.f.data.size ≤ maxLen
  data : o.data.size ≤ maxLen
/-- A list of these in memory, as an argument. -/
def Ops8At (W : World) (v : Value) (l : List Op8) : Prop :=
  (l = [] ∧ ∃ p cap, v = .slice p 0 cap) ∨ ∃ g o cap, v = .slice (some ⟨g, o, none⟩) l.length cap ∧ l.length ≤ cap ∧ cap ≤ maxLen ∧ ∀ j x, l[j]? = some x → Op8Ok x ∧ ∀ i u, (opList x)[i]? = some u → W.cell? ⟨g, o + j * 16 + i, none⟩ = some u

theorem cellsOp8 : Try.prog.cellsOf 44 = 16 := by kernel_rfl

theorem cut_three {L : List Value} (hl : L.length = 16) : L = (L.drop 0).take 1 ++ (L.drop 1).take 14 ++ (L.drop 15).take 1 := by
  have f1 : L.drop 1 = (L.drop 1).take 14 ++ L.drop 15 := by have := (List.take_append_drop 14 (L.drop 1)).symm; rw [List.drop_drop] at this; exact this
  have f3 : (L.drop 15).take 1 = L.drop 15 := List.take_of_length_le (by simp; omega)
  rw [List.append_assoc, f3, ← f1, List.drop_zero]
  exact (List.take_append_drop 1 L).symm

theorem eth_cells {fuel : Nat} {l : List Value} {x : DataW H × List MemPlace} (hl : l.length = 14) (h : DataW.trod enc Try.prog w base spare held fuel 25 l = some x) :
    ∃ f : Fr, Fr6 f ∧ In64 f.type ∧ f.data.size ≤ maxLen ∧ l = frList f := by
  obtain ⟨y0, y1, y2, y3, n, hx, _, h0, h1, h2, h3⟩ := trod_struct4 Try.underlying25 h
  obtain ⟨a, ha, ea⟩ := mac_cells h0
  obtain ⟨b, hb, eb⟩ := mac_cells h1
  obtain ⟨ty, et, _, wt⟩ := DataW.trod_int Try.underlying3 h2
  obtain ⟨x, ex, _, hs⟩ := DataW.trod_string Try.underlying9 h3
  rw [cellsMac] at ea eb
  rw [cells3] at et
  rw [cells9] at ex
  refine ⟨⟨a, b, ty, x⟩, ⟨ha, hb⟩, in64_of_wf wt, hs, ?_⟩
  unfold frList
  simp only []
  rw [← ea, ← eb]
  have e2 : [Value.int .i64 ty, .string x] = [Value.int .i64 ty] ++ [.string x] := rfl
  rw [e2, ← et, ← ex]
  have f1 : l.drop 6 = (l.drop 6).take 6 ++ l.drop 12 := by have := (List.take_append_drop 6 (l.drop 6)).symm; rw [List.drop_drop] at this; exact this
  have f2 : l.drop 12 = (l.drop 12).take 1 ++ l.drop 13 := by have := (List.take_append_drop 1 (l.drop 12)).symm; rw [List.drop_drop] at this; exact this
  have f3 : (l.drop 13).take 1 = l.drop 13 := List.take_of_length_le (by simp; omega)
  rw [List.append_assoc]
  show l = (l.drop 0).take 6 ++ ((l.drop 6).take 6 ++ ((l.drop 12).take 1 ++ (l.drop 13).take 1))
  rw [List.drop_zero, f3, ← f2, ← f1, List.take_append_drop]

set_option maxRecDepth 100000 in
theorem open_op8 {n : Nat} {a : Addr} {y : DataW H × List MemPlace} (h : (w.cells? base a 16).bind (DataW.trod enc Try.prog w base spare held n 44) = some y) :
    ∃ o : Op8, Op8Ok o ∧ ∀ i u, (opList o)[i]? = some u → w.cell? (a.add i) = some u := by
  rw [Option.bind_eq_some_iff] at h
  obtain ⟨cs, hc, ht⟩ := h
  obtain ⟨_, hlen, hcell⟩ := World.cells?_some hc
  obtain ⟨y0, y1, y2, m, hx, _, h0, h1, h2⟩ := Go.Deep.trod_struct3 Try.underlying44 ht
  rw [cells3] at h0
  rw [cellsEth] at h1
  rw [cells9] at h2
  obtain ⟨k, ek, _, wk⟩ := DataW.trod_int Try.underlying3 h0
  obtain ⟨x, ex, _, hs⟩ := DataW.trod_string Try.underlying9 h2
  obtain ⟨f, f6, ft, fs, ef⟩ := eth_cells (by simp; omega) h1
  refine ⟨⟨k, f, x⟩, ⟨in64_of_wf wk, f6, ft, fs, hs⟩, fun i u hu => ?_⟩
  have e : opList ⟨k, f, x⟩ = cs := by
    unfold opList
    simp only []
    rw [← ek, ← ef, ← ex]
    exact (cut_three hlen).symm
  rw [e] at hu
  have hi := (List.getElem?_eq_some_iff.1 hu).1
  rw [hcell i (by omega)]
  exact hu

set_option maxRecDepth 100000 in
theorem open_ops8 {r : Reach} {b0 : Nat} {v : Value} {d : DataW H} {p : List MemPlace} (hv : Value.okWide Try.prog w r b0 42 v) (h : DataW.Trod enc Try.prog w base spare held 42 v d p) : ∃ l : List Op8, Ops8At w v l := by
  obtain ⟨a, len, cap, rfl⟩ := okWide_slice Try.underlying42 hv
  obtain ⟨fuel, hf⟩ := h
  have hf' : DataW.trod enc Try.prog w base spare held fuel 42 [.slice a len cap] = some (d, p) := by simpa [Value.cells] using hf
  rcases DataW.trod_slice Try.underlying42 hf' with ⟨hcs, _⟩ | ⟨a', len', cap', elems, rest, n, _, hcs, _, hb, hl, hm, hlen, hel, _, _⟩
  · simp at hcs
    obtain ⟨rfl, rfl, rfl⟩ := hcs
    exact ⟨[], Or.inl ⟨rfl, _, _, rfl⟩⟩
  · simp at hcs
    obtain ⟨rfl, rfl, rfl⟩ := hcs
    have each : ∀ i, ∃ o : Op8, i < len → Op8Ok o ∧ ∀ k u, (opList o)[k]? = some u → w.cell? ((a'.add (i * 16)).add k) = some u := fun i => by
      by_cases hi : i < len
      · have h1 := hel i hi
        rw [cellsOp8] at h1
        obtain ⟨y, hy⟩ : ∃ y, elems[i]? = some y := ⟨elems[i]'(by omega), by simp⟩
        rw [hy] at h1
        obtain ⟨o, ho⟩ := open_op8 h1
        exact ⟨o, fun _ => ho⟩
      · exact ⟨⟨0, frNone, ⟨#[]⟩⟩, fun h => absurd h hi⟩
    obtain ⟨F, hF⟩ := skolem1 each
    refine ⟨(List.range len).map F, ?_⟩
    obtain ⟨g, o, sp⟩ := a'
    cases len with
    | zero => exact Or.inl ⟨rfl, some ⟨g, o, sp⟩, cap, rfl⟩
    | succ m =>
      have h0 := (hF 0 (by omega)).2 0 (.int .i64 (F 0).kind) rfl
      have hsp : sp = none := by
        have h00 : w.cell? ((⟨g, o, sp⟩ : Addr).add 0) = some (.int .i64 (F 0).kind) := by
          have e : ((⟨g, o, sp⟩ : Addr).add (0 * 16)).add 0 = (⟨g, o, sp⟩ : Addr).add 0 := by
            rw [Nat.zero_mul]
            unfold Addr.add
            simp
          rw [← e]
          exact h0
        exact spot_none h00
      subst hsp
      refine Or.inr ⟨g, o, cap, by simp, by simpa using hl, hm, fun j x hj => ?_⟩
      have hjl : j < m + 1 := by
        have := (List.getElem?_eq_some_iff.1 hj).1
        simpa using this
      have hx : x = F j := by
        rw [List.getElem?_map, List.getElem?_range hjl] at hj
        simpa using hj.symm
      subst hx
      obtain ⟨k0, k1⟩ := hF j hjl
      refine ⟨k0, fun i u hu => ?_⟩
      have := k1 i u hu
      simp only [add_none] at this
      exact this
end
end Go.Proofs.Ythpgmfijameddaa
