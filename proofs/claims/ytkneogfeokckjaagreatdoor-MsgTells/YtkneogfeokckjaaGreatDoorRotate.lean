/- The contract of package digest's Rotate: what it returns, for every number of 32 bits and every int. -/
import Derived.Test.YtkneogfeokckjaaGreatDoorProg
import Derived.Test.YtkneogfeokckjaaGreatDoorRotPlain
import Derived.WalkKit
import Derived.WalkSpells
import Derived.WalkLawsBesides
namespace Go.Proofs.YtkneogfeokckjaaGreatDoor
open Go.RowKit

theorem dg_ret_int {k : IntKind} {a b : Int} (h : a = b) : Ending.returned (.int k a) = .returned (.int k b) := by rw [h]
theorem wrap_u64' (n : Int) : IntKind.u64.wrap n = n % 18446744073709551616 := by simp [IntKind.wrap, IntKind.bits, IntKind.signed]

set_option maxHeartbeats 400000 in
/-- 'Rotate(x, n)'. -/
theorem rotate_any (x : Nat) (hx : x < 4294967296) (n : Int) (w : World) :
    Calls Tryz.prog 199 #[.int .u32 (x : Int), .int .i64 n] w fun e w' => e = .returned (.int .u32 (rotF x (n % 32).toNat : Int)) ∧ w' = w := by
  obtain ⟨k, hk⟩ : ∃ k, k = (n % 32).toNat := ⟨_, rfl⟩
  have hk32 : k < 32 := by omega
  have e1 : (IntKind.u64.wrap n).tmod 32 = (k : Int) := by
    rw [wrap_u64', Int.tmod_eq_emod_of_nonneg (by omega)]
    omega
  rw [← hk]
  clear hk
  go_enter Tryz.func199, Tryz.ntmps199
  go_wp2
  go_ret
  refine ⟨dg_ret_int ?_, rfl⟩
  have h := u32_or_nat (x * 2 ^ k % 4294967296) (x / 2 ^ (32 - k)) (Nat.mod_lt _ (by decide)) (Nat.lt_of_le_of_lt (Nat.div_le_self _ _) hx)
  rw [show rotF x k = x * 2 ^ k % 4294967296 ||| x / 2 ^ (32 - k) from rfl, ← h]
  rw [Int.natCast_emod, Int.natCast_ediv, Int.natCast_mul, Int.natCast_pow, Int.natCast_pow]
  rfl
end Go.Proofs.YtkneogfeokckjaaGreatDoor
