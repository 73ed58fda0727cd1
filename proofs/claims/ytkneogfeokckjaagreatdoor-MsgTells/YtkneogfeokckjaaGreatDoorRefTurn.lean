/- The contract of the document's own turn: what it returns, for every number of 32 bits and every int. -/
import Derived.Test.YtkneogfeokckjaaGreatDoorRotate
namespace Go.Proofs.YtkneogfeokckjaaGreatDoor
open Go.RowKit

set_option maxRecDepth 100000 in
theorem turn_step (x : Nat) : (x : Int) * 2 % 4294967296 + (x : Int) / 2147483648 = (turn1 x : Int) := by
  unfold turn1
  omega

set_option maxRecDepth 100000 in
set_option maxHeartbeats 400000 in
theorem refTurn_any (x n : Nat) (hx : x < 4294967296) (hn : n < 32) (w : World) :
    Calls Tryz.prog 190 #[.int .i64 (x : Int), .int .i64 (n : Int)] w fun e w' => e = .returned (.int .i64 (turnN x n : Int)) ∧ w' = w := by
  go_enter Tryz.func190, Tryz.ntmps190
  go_wp2
  go_loop [0, 5] (fun v i => ∃ k : Nat, k ≤ n ∧ i = .int .i64 (k : Int) ∧ v = .int .i64 (turnN x k : Int)) (fun _ i => n - (intOf i).toNat)
  case atStart => exact ⟨0, Nat.zero_le _, rfl, rfl⟩
  case round =>
    obtain ⟨k, hk, rfl, rfl⟩ := hrel
    have hl := turnN_lt hx k
    by_cases hlt : k < n
    · have HT := hide (show turnN x (k + 1) = turn1 (turnN x k) from rfl)
      generalize turnN x k = y at hl HT
      have HS := hide (turn_step y)
      go_wp2
      go_round
      case rel => exact ⟨k + 1, by omega, by go_num, by rw [HT.out, ← HS.out]⟩
      case measure => simp [intOf]; omega
    · obtain rfl : k = n := by omega
      go_wp2
      go_ret
      exact ⟨rfl, rfl⟩

end Go.Proofs.YtkneogfeokckjaaGreatDoor
