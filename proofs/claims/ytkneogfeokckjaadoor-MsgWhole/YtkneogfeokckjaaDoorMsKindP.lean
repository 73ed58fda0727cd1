/- A message that was made of a kind: plain facts. (Cut out of MsgKindsWalk.) -/
import Derived.Test.YtkneogfeokckjaaDoorMsIn
namespace Go.Proofs.YtkneogfeokckjaaDoor
open Go.RowKit

theorem i64_and65535 (n : Int) : bits .and .i64 n 65535 = n % 65536 := by
  have h127 : (BitVec.ofInt 64 65535).toNat = 2 ^ 16 - 1 := by decide
  have key : (BitVec.ofInt 64 n &&& BitVec.ofInt 64 65535).toNat = (n % ((2 ^ 64 : Nat) : Int)).toNat % 2 ^ 16 := by
    rw [BitVec.toNat_and, BitVec.toNat_ofInt, h127, Nat.and_two_pow_sub_one_eq_mod]
  show IntKind.i64.wrap ((BitVec.ofInt 64 n &&& BitVec.ofInt 64 65535).toNat : Nat) = n % 65536
  rw [key, IntKind.wrap_i64]
  omega
theorem numV_two (k : Int) : numV k 2 = ⟨#[UInt8.ofNat (k / 256 % 256).toNat, UInt8.ofNat (k % 256).toNat]⟩ := by
  unfold numV
  rw [if_neg (by decide)]
  simp [lowI]
theorem numV_size (k : Int) : (numV k 2).size = 2 := by rw [numV_two]; rfl
theorem numAt_numV (k : Int) : (numAt (numV k 2) 0 : Int) = k % 65536 := by
  rw [numAt_two _ _ (by rw [numV_size]; omega), numV_two]
  unfold byteN
  simp
  omega
def headH (k : Int) : Av := ⟨true, true, 0, 0, numV k 2⟩
theorem kind_head (k : Int) (l : List Av) : kindF (headK k :: l) = k % 65536 := by
  show (if (0 : Int) = 0 ∧ (0 : Int) = 0 ∧ false = false ∧ (numV k 2).size = 2 then (numAt (numV k 2) 0 : Int) else -1) = _
  rw [if_pos ⟨rfl, rfl, rfl, numV_size k⟩, numAt_numV]
theorem kind_hid (k : Int) (l : List Av) : kindF (headH k :: l) = -1 := by
  show (if (0 : Int) = 0 ∧ (0 : Int) = 0 ∧ true = false ∧ (numV k 2).size = 2 then (numAt (numV k 2) 0 : Int) else -1) = _
  rw [if_neg (by simp)]
end Go.Proofs.YtkneogfeokckjaaDoor
