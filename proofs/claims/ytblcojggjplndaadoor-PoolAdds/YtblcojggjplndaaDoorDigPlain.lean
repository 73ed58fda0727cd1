/- Digits as functions of plain data, with no Go in it: what an int's digits are read as. -/
import Derived.Lib.ItoaMem
import Derived.WalkKit
namespace Go.Proofs.YtblcojggjplndaaDoor
open Go.RowKit Go.Lib

def isDig (b : UInt8) : Bool := decide (48 ≤ b.toNat) && decide (b.toNat ≤ 57)
def decV (l : List UInt8) : Nat := l.foldl (fun v b => 10 * v + (b.toNat - 48)) 0
def zeroAhead (l : List UInt8) : Bool := decide (l.getD 0 0 = 48) && decide (1 < l.length)
def numberF (l : List UInt8) : Int × Int :=
  if l.length < 1 ∨ 10 < l.length then (0, 1) else if zeroAhead l = true then (0, 1) else if l.all isDig = true then ((decV l : Int), 0) else (0, 1)
theorem decV_snoc (l : List UInt8) (b : UInt8) : decV (l ++ [b]) = 10 * decV l + (b.toNat - 48) := by simp [decV]
theorem all_snoc (l : List UInt8) (b : UInt8) : (l ++ [b]).all isDig = (l.all isDig && isDig b) := by simp
theorem isDig_le {b : UInt8} (h : isDig b = true) : 48 ≤ b.toNat ∧ b.toNat ≤ 57 := by simpa [isDig] using h
theorem fold_lt (l : List UInt8) (h : l.all isDig = true) (v : Nat) : l.foldl (fun v b => 10 * v + (b.toNat - 48)) v < (v + 1) * 10 ^ l.length := by
  induction l generalizing v with
  | nil => simp
  | cons b l ih =>
    rw [List.all_cons, Bool.and_eq_true] at h
    have hb := isDig_le h.1
    have h2 := ih h.2 (10 * v + (b.toNat - 48))
    rw [List.foldl_cons, List.length_cons, Nat.pow_succ]
    refine Nat.lt_of_lt_of_le h2 ?_
    have e : (v + 1) * (10 ^ l.length * 10) = ((v + 1) * 10) * 10 ^ l.length := by rw [Nat.mul_assoc, Nat.mul_comm 10]
    rw [e]
    exact Nat.mul_le_mul_right _ (by omega)
theorem decV_lt (l : List UInt8) (h : l.all isDig = true) : decV l < 10 ^ l.length := by
  have := fold_lt l h 0
  simpa [decV] using this
theorem digit_toNat (d : Nat) (h : d < 10) : (UInt8.ofNat (48 + d)).toNat = 48 + d := UInt8.toNat_ofNat_of_lt (by show 48 + d < 256; omega)
theorem digit_isDig (d : Nat) (h : d < 10) : isDig (UInt8.ofNat (48 + d)) = true := by
  unfold isDig
  rw [digit_toNat d h]
  simp
  omega
theorem decV_dec (u : Nat) : decV (decDigits u) = u := by
  induction u using Nat.strongRecOn with
  | _ u ih =>
    by_cases h : u < 10
    · rw [decDigits_one h]
      show 10 * 0 + ((UInt8.ofNat (48 + u)).toNat - 48) = u
      rw [digit_toNat u h]
      omega
    · rw [decDigits, dif_neg h, decV_snoc, ih (u / 10) (by omega), digit_toNat _ (by omega)]
      omega
theorem all_dec (u : Nat) : (decDigits u).all isDig = true := by
  induction u using Nat.strongRecOn with
  | _ u ih =>
    by_cases h : u < 10
    · rw [decDigits_one h]
      show (isDig (UInt8.ofNat (48 + u)) && true) = true
      rw [digit_isDig u h]
      rfl
    · rw [decDigits, dif_neg h, all_snoc, ih (u / 10) (by omega), digit_isDig _ (by omega)]
      rfl
theorem dec_ne (u : Nat) : 1 ≤ (decDigits u).length := by rw [decDigits_length]; exact nDigits_pos u
theorem getD_append (l m : List UInt8) (h : 1 ≤ l.length) : (l ++ m).getD 0 0 = l.getD 0 0 := by
  cases l with
  | nil => simp at h
  | cons a l => rfl
theorem head_dec (u : Nat) (h1 : 1 ≤ u) : (decDigits u).getD 0 0 ≠ 48 := by
  induction u using Nat.strongRecOn with
  | _ u ih =>
    by_cases h : u < 10
    · rw [decDigits_one h]
      intro h2
      have h3 := congrArg UInt8.toNat h2
      have h4 : ((UInt8.ofNat (48 + u)).toNat) = 48 := h3
      rw [digit_toNat u h] at h4
      omega
    · rw [decDigits, dif_neg h, getD_append _ _ (dec_ne _)]
      exact ih (u / 10) (by omega) (by omega)
theorem nDigits_le (k u : Nat) (hk : 1 ≤ k) (h : u < 10 ^ k) : nDigits u ≤ k := by
  induction k generalizing u with
  | zero => omega
  | succ k ih =>
    by_cases h1 : u < 10
    · rw [nDigits_small h1]; omega
    · rw [nDigits_big h1]
      have h2 : 1 ≤ k := by
        rcases Nat.eq_zero_or_pos k with h3 | h3
        · subst h3; simp at h; omega
        · exact h3
      have := ih (u / 10) h2 (by rw [Nat.pow_succ] at h; omega)
      omega
theorem number_dec (u : Nat) (h : u < 10000000000) : numberF (decDigits u) = ((u : Int), 0) := by
  have hl := decDigits_length u
  have h1 := nDigits_pos u
  have h2 := nDigits_le 10 u (by decide) (by simpa using h)
  unfold numberF
  rw [if_neg (by omega)]
  have hz : zeroAhead (decDigits u) = false := by
    unfold zeroAhead
    by_cases h0 : u = 0
    · subst h0
      rw [decDigits_one (by decide)]
      rfl
    · have := head_dec u (by omega)
      simp only [Bool.and_eq_false_iff, decide_eq_false_iff_not]
      exact Or.inl this
  rw [hz, if_neg (by decide), if_pos (all_dec u), decV_dec]
theorem number_big (u : Nat) (h : 10000000000 ≤ u) : numberF (decDigits u) = (0, 1) := by
  have hl := decDigits_length u
  have h1 := lt_pow_nDigits u
  have h2 : 10 < nDigits u := by
    rcases Nat.lt_or_ge 10 (nDigits u) with h3 | h3
    · exact h3
    · have h4 : 10 ^ nDigits u ≤ 10 ^ 10 := Nat.pow_le_pow_right (by decide) h3
      omega
  unfold numberF
  rw [if_pos (by omega)]
theorem number_neg (l : List UInt8) : numberF (45 :: l) = (0, 1) := by
  unfold numberF
  split
  · rfl
  split
  · rfl
  rw [if_neg]
  simp [isDig]
def itoaV (n : Int) : Int × Int := if n < 0 ∨ 10000000000 ≤ n then (0, 1) else (n, 0)
theorem number_itoa (n : Int) : numberF (itoa n) = itoaV n := by
  unfold itoa itoaV
  by_cases h : n < 0
  · rw [if_pos h, if_pos (Or.inl h)]
    exact number_neg _
  · rw [if_neg h]
    by_cases h2 : 10000000000 ≤ n
    · rw [if_pos (Or.inr h2)]
      exact number_big _ (by omega)
    · rw [if_neg (by omega), number_dec _ (by omega), Int.toNat_of_nonneg (by omega)]
theorem dec_not_minus (u : Nat) (l : List UInt8) : decDigits u ≠ 45 :: l := by
  intro h
  have h2 := all_dec u
  rw [h] at h2
  simp [isDig] at h2
theorem itoa_inj {a b : Int} (h : itoa a = itoa b) : a = b := by
  unfold itoa at h
  by_cases ha : a < 0 <;> by_cases hb : b < 0
  · rw [if_pos ha, if_pos hb] at h
    have h2 := congrArg decV (List.cons.inj h).2
    rw [decV_dec, decV_dec] at h2
    omega
  · rw [if_pos ha, if_neg hb] at h
    exact absurd h.symm (dec_not_minus _ _)
  · rw [if_neg ha, if_pos hb] at h
    exact absurd h (dec_not_minus _ _)
  · rw [if_neg ha, if_neg hb] at h
    have h2 := congrArg decV h
    rw [decV_dec, decV_dec] at h2
    omega
end Go.Proofs.YtblcojggjplndaaDoor
