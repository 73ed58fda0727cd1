/- An address as a value and as four cells (no function named). -/
import Derived.Test.YtcmdfcdmfdheeaaPlPlain
import Derived.Test.YtcmdfcdmfdheeaaTagKit
import Derived.Test.YtcmdfcdmfdheeaaKept
import Derived.Lib.SmallJoins
import Derived.Deep.RegionHeld3
import Derived.Deep.DeepCutAuto
import Derived.DeepKeys
import Derived.BigQuiet
namespace Go.Proofs.Ytcmdfcdmfdheeaa
open Go.RowKit

def adCells (x : Ad) : List Value := [.int .u8 (x.a.toNat : Int), .int .u8 (x.b.toNat : Int), .int .u8 (x.c.toNat : Int), .int .u8 (x.d.toNat : Int)]
/-- An address as it is handed over. -/
def adV (x : Ad) : Value := .agg #[.int .u8 (x.a.toNat : Int), .int .u8 (x.b.toNat : Int), .int .u8 (x.c.toNat : Int), .int .u8 (x.d.toNat : Int)]

/-- Four cells of a block of the call's own. -/
def Four4 (w : World) (b : Nat) (x0 x1 x2 x3 : Value) : Prop := (w.cell? ⟨b, 0, none⟩ = some x0 ∧ w.cell? ⟨b, 1, none⟩ = some x1 ∧ w.cell? ⟨b, 2, none⟩ = some x2 ∧ w.cell? ⟨b, 3, none⟩ = some x3) ∧ ∀ i, w.frozen? ⟨b, i, none⟩ = false
theorem four4_new (w : World) (t : TypeId) (x0 x1 x2 x3 : Value) : Four4 (w.alloc (.cells #[x0, x1, x2, x3] t)) w.heap.size x0 x1 x2 x3 := by
  refine ⟨⟨?_, ?_, ?_, ?_⟩, fun j => frozen_of_row _ w.heap.size j #[x0, x1, x2, x3] t (heap_alloc_new w _)⟩ <;> rw [World.cell?_alloc_new] <;> rfl
theorem Four4.kept {S : Nat → Prop} {w w' : World} {b : Nat} {x0 x1 x2 x3 : Value} (h : Four4 w b x0 x1 x2 x3) (hk : Kept S w w') (hS : ¬ S b) : Four4 w' b x0 x1 x2 x3 := by
  have hlt : b < w.heap.size := lt_of_cell h.1.1
  exact ⟨⟨(hk.cell (p := ⟨b, 0, none⟩) hlt hS).trans h.1.1, (hk.cell (p := ⟨b, 1, none⟩) hlt hS).trans h.1.2.1, (hk.cell (p := ⟨b, 2, none⟩) hlt hS).trans h.1.2.2.1, (hk.cell (p := ⟨b, 3, none⟩) hlt hS).trans h.1.2.2.2⟩, fun i => (hk.frozen (p := ⟨b, i, none⟩) hlt hS).trans (h.2 i)⟩

/-- Two cells of a block. -/
def Two2 (w : World) (b : Nat) (x0 x1 : Value) : Prop := w.cell? ⟨b, 0, none⟩ = some x0 ∧ w.cell? ⟨b, 1, none⟩ = some x1
theorem two2_new (w : World) (t : TypeId) (x0 x1 : Value) : Two2 (w.alloc (.cells #[x0, x1] t)) w.heap.size x0 x1 := by
  refine ⟨?_, ?_⟩ <;> rw [World.cell?_alloc_new] <;> rfl
theorem Two2.kept {S : Nat → Prop} {w w' : World} {b : Nat} {x0 x1 : Value} (h : Two2 w b x0 x1) (hk : Kept S w w') (hS : ¬ S b) : Two2 w' b x0 x1 := by
  have hlt : b < w.heap.size := lt_of_cell h.1
  exact ⟨(hk.cell (p := ⟨b, 0, none⟩) hlt hS).trans h.1, (hk.cell (p := ⟨b, 1, none⟩) hlt hS).trans h.2⟩
end Go.Proofs.Ytcmdfcdmfdheeaa
