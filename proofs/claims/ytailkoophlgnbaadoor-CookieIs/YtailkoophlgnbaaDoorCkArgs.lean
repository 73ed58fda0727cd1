/- How a card among the arguments is read: its six cells are bytes, for every value of its type. -/
import Derived.Test.YtailkoophlgnbaaDoorCkBake
import Derived.ProofKit
import Derived.OpenShut
import Derived.SizedLaws
import Derived.Below
namespace Go.Proofs.YtailkoophlgnbaaDoor
open Go.ChangeShapes Go.WideShapes Go.ChangeAt Go.RowKit

theorem laidOutK : laidOutB Tryd.prog = true := by kernel_rfl
theorem ck5 : Tryd.prog.cellsOf 5 = 1 := by kernel_rfl
theorem ckMac : Tryd.prog.cellsOf 23 = 6 := by kernel_rfl
def byteOf : Value → UInt8
  | .int _ n => UInt8.ofNat n.toNat
  | _ => 0
section
variable {H : Type} {enc : TypeId × Value → H} {w : World} {base : Nat} {spare : Nat → Bool} {held : Bool}
theorem mac_cells {fuel : Nat} {l : List Value} {x : DataW H × List MemPlace}
    (h : DataW.trod enc Tryd.prog w base spare held fuel 23 l = some x) : ∃ d : List UInt8, d.length = 6 ∧ l = Lib.byteCells d := by
  obtain ⟨xs, m, _, _, hl, hn, hf⟩ := DataW.trod_array Tryd.underlying23 h
  rw [ckMac] at hl
  refine ⟨l.map byteOf, by simp [hl], ?_⟩
  apply List.ext_getElem?
  intro i
  by_cases hi : i < 6
  · have hfi := hf i hi
    rw [ck5, Nat.mul_one, List.getElem?_eq_getElem (by omega)] at hfi
    obtain ⟨n, hc, _, hw⟩ := DataW.trod_int Tryd.underlying5 hfi
    have hb := bounds_u8 hw
    have hli : l[i]? = some (.int .u8 n) := by
      have h0 : ((l.drop i).take 1)[0]? = some (.int .u8 n) := by rw [hc]; rfl
      rw [List.getElem?_take_of_lt (by decide), List.getElem?_drop, Nat.add_zero] at h0
      exact h0
    simp only [Lib.byteCells, List.map_map, List.getElem?_map, hli, Option.map_some, Function.comp, byteOf]
    have hlt : n.toNat < 256 := by omega
    have e : (UInt8.ofNat n.toNat).toNat = n.toNat := UInt8.toNat_ofNat_of_lt hlt
    rw [e, Int.toNat_of_nonneg hb.1]
  · rw [List.getElem?_eq_none (by omega), List.getElem?_eq_none (by simp [Lib.byteCells]; omega)]
theorem open_mac {r : Reach} {b0 : Nat} {v : Value} {d : DataW H} {p : List MemPlace} (hv : Value.okWide Tryd.prog w r b0 23 v) (h : DataW.Trod enc Tryd.prog w base spare held 23 v d p) :
    ∃ m : List UInt8, v = .agg (Lib.byteCells m).toArray ∧ m.length = 6 := by
  obtain ⟨cs, rfl⟩ : ∃ cs, v = .agg cs := by
    simp only [Value.okWide, Tryd.underlying23] at hv
    obtain ⟨cs, h1, _⟩ := hv
    exact ⟨cs, h1⟩
  obtain ⟨fuel, hf⟩ := h
  obtain ⟨m, hm, hc⟩ := mac_cells hf
  refine ⟨m, ?_, hm⟩
  congr 1
  apply Array.toList_inj.1
  exact hc
end
end Go.Proofs.YtailkoophlgnbaaDoor
