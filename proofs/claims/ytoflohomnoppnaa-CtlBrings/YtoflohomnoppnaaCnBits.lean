/- The last bits of whatever number. -/
import Derived.Test.YtoflohomnoppnaaCnPlain
import Derived.Laws.BitsLemmas
namespace Go.Proofs.Ytoflohomnoppnaa
open Go.RowKit

theorem and_mask (n : Int) (j : Nat) (hj : j ≤ 60) : bits .and .i64 n ((2 ^ j - 1 : Nat) : Int) = n % ((2 ^ j : Nat) : Int) := by
  have hp : 2 ^ j ≤ 2 ^ 60 := Nat.pow_le_pow_right (by omega) hj
  have hp0 : 0 < 2 ^ j := Nat.two_pow_pos j
  have hm : (BitVec.ofInt 64 ((2 ^ j - 1 : Nat) : Int)).toNat = 2 ^ j - 1 := by
    rw [BitVec.toNat_ofInt]
    omega
  have hd : (2 ^ j : Nat) ∣ 2 ^ 64 := Nat.pow_dvd_pow 2 (by omega)
  have key : (BitVec.ofInt 64 n &&& BitVec.ofInt 64 ((2 ^ j - 1 : Nat) : Int)).toNat = (n % ((2 ^ 64 : Nat) : Int)).toNat % 2 ^ j := by
    rw [BitVec.toNat_and, BitVec.toNat_ofInt n, hm, Nat.and_two_pow_sub_one_eq_mod]
  show IntKind.i64.wrap ((BitVec.ofInt 64 n &&& BitVec.ofInt 64 ((2 ^ j - 1 : Nat) : Int)).toNat : Nat) = n % ((2 ^ j : Nat) : Int)
  rw [key]
  have h1 : 0 ≤ n % ((2 ^ 64 : Nat) : Int) := Int.emod_nonneg _ (by decide)
  have h2 : (((n % ((2 ^ 64 : Nat) : Int)).toNat % 2 ^ j : Nat) : Int) = n % ((2 ^ j : Nat) : Int) := by
    rw [Int.natCast_emod, Int.toNat_of_nonneg h1]
    exact Int.emod_emod_of_dvd _ (Int.natCast_dvd_natCast.2 hd)
  rw [h2, IntKind.wrap_i64]
  have h3 : 0 ≤ n % ((2 ^ j : Nat) : Int) := Int.emod_nonneg _ (by omega)
  have h4 : n % ((2 ^ j : Nat) : Int) < ((2 ^ j : Nat) : Int) := Int.emod_lt_of_pos _ (by omega)
  omega
theorem and_65535 (n : Int) : bits .and .i64 n 65535 = n % 65536 := and_mask n 16 (by omega)
theorem and_1023 (n : Int) : bits .and .i64 n 1023 = n % 1024 := and_mask n 10 (by omega)
theorem and_7 (n : Int) : bits .and .i64 n 7 = n % 8 := and_mask n 3 (by omega)
theorem and_3 (n : Int) : bits .and .i64 n 3 = n % 4 := and_mask n 2 (by omega)
theorem and_1 (n : Int) : bits .and .i64 n 1 = n % 2 := and_mask n 1 (by omega)
theorem beforeN_iff {a b : Int} : beforeN a b = true ↔ 1 ≤ (b - a) % 65536 ∧ (b - a) % 65536 ≤ 32767 := by
  unfold beforeN wrapN
  rw [Bool.and_eq_true]
  exact ⟨fun h => ⟨of_decide_eq_true h.1, of_decide_eq_true h.2⟩, fun h => ⟨decide_eq_true h.1, decide_eq_true h.2⟩⟩
theorem beforeN_no {a b : Int} (h : ¬ (1 ≤ (b - a) % 65536 ∧ (b - a) % 65536 ≤ 32767)) : beforeN a b = false := by
  cases hb : beforeN a b with
  | false => rfl
  | true => exact absurd (beforeN_iff.1 hb) h
end Go.Proofs.Ytoflohomnoppnaa
