/- Turns of 32 bits, as plain facts: a turn by n places is n turns by one; 32 of them are none; a turn keeps how many bits are set. Numbers are below 2^32 where it says so. -/
import Derived.Test.YtkneogfeokckjaaGreatDoorMd5Plain
namespace Go.Proofs.YtkneogfeokckjaaGreatDoor
open Go.RowKit

def turn1 (x : Nat) : Nat := x * 2 % 4294967296 + x / 2147483648
def turnN (x : Nat) : Nat → Nat
  | 0 => x
  | n + 1 => turn1 (turnN x n)
theorem turn1_lt {x : Nat} (h : x < 4294967296) : turn1 x < 4294967296 := by unfold turn1; omega
theorem turnN_lt {x : Nat} (h : x < 4294967296) (n : Nat) : turnN x n < 4294967296 := by
  induction n with
  | zero => exact h
  | succ n ih => exact turn1_lt ih
theorem turnN_add (x a b : Nat) : turnN x (a + b) = turnN (turnN x a) b := by
  induction b with
  | zero => rfl
  | succ b ih => rw [← Nat.add_assoc, turnN, ih, turnN]
theorem rotF_sum (x n : Nat) (hx : x < 4294967296) (hn : n ≤ 32) : rotF x n = x * 2 ^ n % 4294967296 + x / 2 ^ (32 - n) := by
  have e : (4294967296 : Nat) = 2 ^ (32 - n) * 2 ^ n := by rw [← Nat.pow_add, show 32 - n + n = 32 by omega]
  have h1 : x * 2 ^ n % 4294967296 = x % 2 ^ (32 - n) * 2 ^ n := by
    rw [e, Nat.mul_mod_mul_right]
  have h2 : x / 2 ^ (32 - n) < 2 ^ n := Nat.div_lt_of_lt_mul (by rw [← e]; exact hx)
  unfold rotF
  rw [h1, Nat.or_comm, or_up _ _ _ h2, Nat.add_comm]
theorem rotF_zero (x : Nat) (hx : x < 4294967296) : rotF x 0 = x := by
  rw [rotF_sum x 0 hx (by omega)]
  omega
theorem rotF_next (x n : Nat) (hx : x < 4294967296) (hn : n < 31) : rotF x (n + 1) = turn1 (rotF x n) := by
  obtain ⟨m, hm⟩ : ∃ m, m = 2 ^ (31 - n) := ⟨_, rfl⟩
  obtain ⟨P, hP⟩ : ∃ P, P = 2 ^ n := ⟨_, rfl⟩
  have e0 : m * P = 2147483648 := by rw [hm, hP, ← Nat.pow_add, show 31 - n + n = 31 by omega]
  have e1 : 2 ^ (32 - n) = m * 2 := by rw [hm, ← Nat.pow_succ]; congr 1; omega
  have e2 : 2 ^ (32 - (n + 1)) = m := by rw [hm]; congr 1; omega
  have e3 : 2 ^ (n + 1) = P * 2 := by rw [hP, ← Nat.pow_succ]
  have hP0 : 0 < P := by rw [hP]; exact Nat.two_pow_pos n
  have hm0 : 0 < m := by rw [hm]; exact Nat.two_pow_pos _
  have a1 : x * 2 ^ n % 4294967296 = x % (m * 2) * P := by rw [← hP, show (4294967296 : Nat) = m * 2 * P by rw [Nat.mul_assoc, Nat.mul_comm 2 P, ← Nat.mul_assoc, e0], Nat.mul_mod_mul_right]
  have a2 : x * 2 ^ (n + 1) % 4294967296 = x % m * (P * 2) := by rw [e3, show (4294967296 : Nat) = m * (P * 2) by rw [← Nat.mul_assoc, e0], Nat.mul_mod_mul_right]
  rw [rotF_sum x n hx (by omega), rotF_sum x (n + 1) hx (by omega), a1, a2, e1, e2, ← Nat.div_div_eq_div_mul, Nat.mod_mul]
  have hu : x % m < m := Nat.mod_lt _ hm0
  have hq : x / m < P * 2 := Nat.div_lt_of_lt_mul (by rw [← Nat.mul_assoc, e0]; exact hx)
  generalize x % m = u at hu
  generalize x / m = q at hq
  have b1 : (u + m * (q % 2)) * P = u * P + q % 2 * 2147483648 := by
    rw [Nat.add_mul, Nat.mul_comm m (q % 2), Nat.mul_assoc, e0]
  have b2 : (u + 1) * P ≤ m * P := Nat.mul_le_mul_right P hu
  have b3 : (u + 1) * P = u * P + P := Nat.succ_mul u P
  have b4 : u * (P * 2) = u * P * 2 := (Nat.mul_assoc _ _ _).symm
  rw [b1, b4]
  rw [b3, e0] at b2
  generalize u * P = A at b2
  unfold turn1
  have ht : q % 2 = 0 ∨ q % 2 = 1 := by omega
  have hqq : q = 2 * (q / 2) + q % 2 := by omega
  rcases ht with h | h
  · rw [h] at hqq ⊢
    have y1 : (A + 0 * 2147483648 + q / 2) * 2 % 4294967296 = (A + q / 2) * 2 := by rw [Nat.zero_mul, Nat.add_zero]; exact Nat.mod_eq_of_lt (by omega)
    have y2 : (A + 0 * 2147483648 + q / 2) / 2147483648 = 0 := Nat.div_eq_of_lt (by omega)
    rw [y1, y2]
    omega
  · rw [h] at hqq ⊢
    have y1 : (A + 1 * 2147483648 + q / 2) * 2 % 4294967296 = (A + q / 2) * 2 := by
      rw [show (A + 1 * 2147483648 + q / 2) * 2 = (A + q / 2) * 2 + 4294967296 by omega, Nat.add_mod_right]
      exact Nat.mod_eq_of_lt (by omega)
    have y2 : (A + 1 * 2147483648 + q / 2) / 2147483648 = 1 := by
      rw [show A + 1 * 2147483648 + q / 2 = (A + q / 2) + 2147483648 by omega, Nat.add_div_right _ (by decide), Nat.div_eq_of_lt (by omega)]
    rw [y1, y2]
    omega
theorem rotF_turns (x n : Nat) (hx : x < 4294967296) (hn : n < 32) : rotF x n = turnN x n := by
  induction n with
  | zero => exact rotF_zero x hx
  | succ n ih => rw [rotF_next x n hx (by omega), ih (by omega), turnN]
theorem rotF_lt (x n : Nat) (hx : x < 4294967296) (hn : n < 32) : rotF x n < 4294967296 := by
  rw [rotF_turns x n hx hn]
  exact turnN_lt hx n
theorem turnN_whole (x : Nat) (hx : x < 4294967296) : turnN x 32 = x := by
  rw [turnN, ← rotF_turns x 31 hx (by omega), rotF_sum x 31 hx (by omega)]
  have e : x * 2 ^ 31 % 4294967296 = x % 2 * 2147483648 := Nat.mul_mod_mul_right 2147483648 x 2
  rw [e]
  unfold turn1
  simp only [Nat.reduceSub, Nat.reducePow]
  have ht : x % 2 = 0 ∨ x % 2 = 1 := by omega
  rcases ht with h | h
  · rw [h, Nat.zero_mul, Nat.zero_add, Nat.mod_eq_of_lt (show x / 2 * 2 < 4294967296 by omega), Nat.div_eq_of_lt (show x / 2 < 2147483648 by omega)]
    omega
  · rw [h, show (1 * 2147483648 + x / 2) * 2 = x / 2 * 2 + 4294967296 by omega, Nat.add_mod_right, Nat.mod_eq_of_lt (show x / 2 * 2 < 4294967296 by omega), show 1 * 2147483648 + x / 2 = x / 2 + 2147483648 by omega, Nat.add_div_right _ (by decide), Nat.div_eq_of_lt (show x / 2 < 2147483648 by omega)]
    omega
theorem turnN_mod (x n : Nat) (hx : x < 4294967296) : turnN x (n % 32) = turnN x n := by
  have h : ∀ k, turnN x (32 * k) = x := by
    intro k
    induction k with
    | zero => rfl
    | succ k ih => rw [Nat.mul_succ, turnN_add, ih, turnN_whole x hx]
  have e : turnN x n = turnN x (32 * (n / 32) + n % 32) := by rw [Nat.div_add_mod]
  rw [e, turnN_add, h]
theorem rotF_rotF (x a b : Nat) (hx : x < 4294967296) (ha : a < 32) (hb : b < 32) : rotF (rotF x a) b = rotF x ((a + b) % 32) := by
  rw [rotF_turns x a hx ha, rotF_turns _ b (turnN_lt hx a) hb, ← turnN_add, rotF_turns x _ hx (Nat.mod_lt _ (by decide)), turnN_mod x _ hx]

/-- How many of the n lowest bits are set. -/
def onesTo (x : Nat) : Nat → Nat
  | 0 => 0
  | n + 1 => onesTo x n + x / 2 ^ n % 2
theorem onesTo_half (x n : Nat) : onesTo x (n + 1) = x % 2 + onesTo (x / 2) n := by
  induction n with
  | zero => simp [onesTo]
  | succ n ih =>
    rw [onesTo, ih, onesTo, Nat.div_div_eq_div_mul, Nat.pow_succ, Nat.mul_comm (2 ^ n) 2, Nat.add_assoc]
theorem onesTo_mod (x m n : Nat) (h : n ≤ m) : onesTo (x % 2 ^ m) n = onesTo x n := by
  induction n with
  | zero => rfl
  | succ n ih =>
    rw [onesTo, onesTo, ih (by omega)]
    congr 1
    have e : 2 ^ m = 2 ^ n * 2 ^ (m - n) := by rw [← Nat.pow_add]; congr 1; omega
    have e2 : 2 ^ (m - n) = 2 * 2 ^ (m - n - 1) := by rw [← Nat.pow_succ']; congr 1; omega
    rw [e, Nat.mod_mul_right_div_self, e2, Nat.mod_mul_right_mod]
theorem ones_turn1 (x : Nat) (hx : x < 4294967296) : onesTo (turn1 x) 32 = onesTo x 32 := by
  have e1 : turn1 x % 2 = x / 2 ^ 31 := by unfold turn1; simp only [Nat.reducePow]; omega
  have e2 : turn1 x / 2 = x % 2 ^ 31 := by unfold turn1; simp only [Nat.reducePow]; omega
  have e3 : x / 2 ^ 31 % 2 = x / 2 ^ 31 := by simp only [Nat.reducePow]; omega
  rw [onesTo_half (turn1 x) 31, e1, e2, onesTo_mod x 31 31 (Nat.le_refl _), show onesTo x 32 = onesTo x 31 + x / 2 ^ 31 % 2 from rfl, e3, Nat.add_comm]
theorem ones_turnN (x n : Nat) (hx : x < 4294967296) : onesTo (turnN x n) 32 = onesTo x 32 := by
  induction n with
  | zero => rfl
  | succ n ih => rw [turnN, ones_turn1 _ (turnN_lt hx n), ih]
end Go.Proofs.YtkneogfeokckjaaGreatDoor
