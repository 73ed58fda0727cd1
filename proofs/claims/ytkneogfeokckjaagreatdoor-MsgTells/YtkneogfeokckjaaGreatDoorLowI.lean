/- The lowest bytes of an int, as plain data. -/
import Derived.Test.YtkneogfeokckjaaGreatDoorPlain
namespace Go.Proofs.YtkneogfeokckjaaGreatDoor
open Go.RowKit

/-- The n lowest bytes of an int, the highest of them first. -/
def lowI (k : Int) : Nat → List UInt8
  | 0 => []
  | n + 1 => lowI (k / 256) n ++ [UInt8.ofNat (k % 256).toNat]
set_option maxRecDepth 100000 in
theorem lowI_length (k : Int) (n : Nat) : (lowI k n).length = n := by
  induction n generalizing k with
  | zero => rfl
  | succ n ih => simp [lowI, ih]
end Go.Proofs.YtkneogfeokckjaaGreatDoor
