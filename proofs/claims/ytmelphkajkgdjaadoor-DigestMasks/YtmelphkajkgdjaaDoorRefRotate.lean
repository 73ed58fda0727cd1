/- The contracts of the document's own turn and Rotate: what each returns, for every number of 32 bits and every int. -/
import Derived.Test.YtmelphkajkgdjaaDoorRotate
namespace Go.Proofs.YtmelphkajkgdjaaDoor
open Go.RowKit

theorem turn_step (x : Nat) : (x : Int) * 2 % 4294967296 + (x : Int) / 2147483648 = (turn1 x : Int) := by
  unfold turn1
  omega

set_option maxHeartbeats 400000 in
theorem refTurn_any (x n : Nat) (hx : x < 4294967296) (hn : n < 32) (w : World) :
    Calls Tryd.prog 26 #[.int .i64 (x : Int), .int .i64 (n : Int)] w fun e w' => e = .returned (.int .i64 (turnN x n : Int)) ∧ w' = w := by
  go_enter Tryd.func26, Tryd.ntmps26
  go_wp2
  go_loop [0, 5] (fun v i => ∃ k : Nat, k ≤ n ∧ i = .int .i64 (k : Int) ∧ v = .int .i64 (turnN x k : Int)) (fun _ i => n - (intOf i).toNat)
  case atStart => exact ⟨0, Nat.zero_le _, rfl, rfl⟩
  case round =>
    obtain ⟨k, hk, rfl, rfl⟩ := hrel
    have hl := turnN_lt hx k
    by_cases hlt : k < n
    · have HT := hide (show turnN x (k + 1) = turn1 (turnN x k) from rfl)
      generalize turnN x k = y at hl HT
      have HS := hide (turn_step y)
      go_wp2
      go_round
      case rel => exact ⟨k + 1, by omega, by go_num, by rw [HT.out, ← HS.out]⟩
      case measure => simp [intOf]; omega
    · obtain rfl : k = n := by omega
      go_wp2
      go_ret
      exact ⟨rfl, rfl⟩

theorem rem_cases (n : Int) : n.tmod 32 = n % 32 ∨ (n % 32 ≠ 0 ∧ n.tmod 32 = n % 32 - 32) := by
  have h := Int.tmod_eq_emod (a := n) (b := 32)
  by_cases hc : 0 ≤ n ∨ (32 : Int) ∣ n
  · rw [if_pos hc] at h
    left
    rw [h]
    simp
  · rw [if_neg hc] at h
    right
    refine ⟨fun h0 => hc (Or.inr (Int.dvd_of_emod_eq_zero h0)), ?_⟩
    rw [h]
    rfl
theorem rem_neg (n : Int) (h : n.tmod 32 < 0) : n.tmod 32 + 32 = ((n % 32).toNat : Int) := by
  rcases rem_cases n with h1 | h1 <;> omega
theorem rem_pos (n : Int) (h : ¬ n.tmod 32 < 0) : n.tmod 32 = ((n % 32).toNat : Int) := by
  rcases rem_cases n with h1 | h1 <;> omega

set_option maxHeartbeats 400000 in
theorem refRotate_any (x : Nat) (hx : x < 4294967296) (n : Int) (w : World) :
    Calls Tryd.prog 15 #[.int .u32 (x : Int), .int .i64 n] w fun e w' => e = .returned (.int .u32 (rotF x (n % 32).toNat : Int)) ∧ w' = w := by
  have hk : (n % 32).toNat < 32 := by omega
  rw [rotF_turns x _ hx hk]
  have hl := turnN_lt hx (n % 32).toNat
  by_cases h : n.tmod 32 < 0
  · have e1 := rem_neg n h
    have HT := hide (refTurn_any x _ hx hk)
    generalize (n % 32).toNat = k at e1 HT hk hl
    generalize turnN x k = y at HT hl
    go_enter Tryd.func15, Tryd.ntmps15
    go_wp2_with (go_at_call 26; refine (HT.out _).mono ?_; rintro e w1 ⟨rfl, rfl⟩)
    go_ret
    exact ⟨ret_int (by omega), rfl⟩
  · have e1 := rem_pos n h
    have HT := hide (refTurn_any x _ hx hk)
    generalize (n % 32).toNat = k at e1 HT hk hl
    generalize turnN x k = y at HT hl
    go_enter Tryd.func15, Tryd.ntmps15
    go_wp2_with (go_at_call 26; refine (HT.out _).mono ?_; rintro e w1 ⟨rfl, rfl⟩)
    go_ret
    exact ⟨ret_int (by omega), rfl⟩
end Go.Proofs.YtmelphkajkgdjaaDoor
