/- The document's own way to read digits of four bits, as a function of plain data: what matches is appended, and the whole is held against its digits; it says the same as the program's. -/
import Derived.Test.YtdceopnjokdblaaDoorUnhex
namespace Go.Proofs.YtdceopnjokdblaaDoor
open Go.RowKit

theorem nib_digit (m : Nat) (h : m < 16) : nibF (digitF m).toNat = (m, true) := by
  rcases (show m = 0 ∨ m = 1 ∨ m = 2 ∨ m = 3 ∨ m = 4 ∨ m = 5 ∨ m = 6 ∨ m = 7 ∨ m = 8 ∨ m = 9 ∨ m = 10 ∨ m = 11 ∨ m = 12 ∨ m = 13 ∨ m = 14 ∨ m = 15 by omega) with h | h | h | h | h | h | h | h | h | h | h | h | h | h | h | h <;> subst h <;> rfl
theorem digit_nib (a : UInt8) (h : (nibF a.toNat).2 = true) : digitF (nibF a.toNat).1 = a := by
  have ha := a.toNat_lt
  have hc : (48 ≤ a.toNat ∧ a.toNat ≤ 57) ∨ (97 ≤ a.toNat ∧ a.toNat ≤ 102) := by
    unfold nibF at h
    split at h
    · left; assumption
    · split at h
      · right; assumption
      · cases h
  apply UInt8.toNat_inj.1
  rcases hc with hc | hc
  · have e : nibF a.toNat = (a.toNat - 48, true) := if_pos hc
    rw [e]
    unfold digitF
    rw [if_pos (by show a.toNat - 48 < 10; omega)]
    have e0 : (UInt8.ofNat (48 + (a.toNat - 48))).toNat = 48 + (a.toNat - 48) := UInt8.toNat_ofNat_of_lt (by show 48 + (a.toNat - 48) < 256; omega)
    show (UInt8.ofNat (48 + (a.toNat - 48))).toNat = a.toNat
    rw [e0]
    omega
  · have e : nibF a.toNat = (a.toNat - 87, true) := by unfold nibF; rw [if_neg (by omega), if_pos hc]
    rw [e]
    unfold digitF
    rw [if_neg (by show ¬ a.toNat - 87 < 10; omega)]
    have e0 : (UInt8.ofNat (87 + (a.toNat - 87))).toNat = 87 + (a.toNat - 87) := UInt8.toNat_ofNat_of_lt (by show 87 + (a.toNat - 87) < 256; omega)
    show (UInt8.ofNat (87 + (a.toNat - 87))).toNat = a.toNat
    rw [e0]
    omega
theorem unhexG_hexF (l : List UInt8) : unhexG (hexF l) = some l := by
  induction l with
  | nil => rfl
  | cons b l ih =>
    have hb := b.toNat_lt
    have e : hexF (b :: l) = digitF (b.toNat / 16) :: digitF (b.toNat % 16) :: hexF l := by simp [hexF]
    have e2 : b.toNat / 16 * 16 + b.toNat % 16 = b.toNat := by omega
    rw [e, unhexG, nib_digit _ (by omega), nib_digit _ (by omega), ih, e2]
    simp
/-- The number whose two digits are a and b; 256, if there is none. -/
def pairN (a b : UInt8) : Nat := if (nibF a.toNat).2 && (nibF b.toNat).2 then (nibF a.toNat).1 * 16 + (nibF b.toNat).1 else 256
def pairL (a b : UInt8) : List UInt8 := if pairN a b < 256 then [UInt8.ofNat (pairN a b)] else []
/-- What is appended till k is come to. -/
def pairTo (a b : UInt8) (k : Nat) : List UInt8 := if pairN a b < k then pairL a b else []
theorem pairTo_zero (a b : UInt8) : pairTo a b 0 = [] := if_neg (by omega)
theorem pairTo_all (a b : UInt8) : pairTo a b 256 = pairL a b := by
  unfold pairTo pairL
  split <;> rfl
theorem pair_hit (a b : UInt8) (k : Nat) (hk : k < 256) (h1 : digitF (k / 16) = a) (h2 : digitF (k % 16) = b) : pairN a b = k := by
  subst h1 h2
  unfold pairN
  rw [nib_digit _ (by omega), nib_digit _ (by omega)]
  simp only [Bool.and_self, if_true]
  omega
theorem pair_miss1 (a b : UInt8) (k : Nat) (hk : k < 256) (h1 : digitF (k / 16) ≠ a) : pairN a b ≠ k := by
  unfold pairN
  split
  · rename_i h
    rw [Bool.and_eq_true] at h
    intro h3
    apply h1
    have hb : (nibF b.toNat).1 < 16 := nibF_lt b.toNat
    have e : k / 16 = (nibF a.toNat).1 := by omega
    rw [e]
    exact digit_nib a h.1
  · omega
theorem pair_miss2 (a b : UInt8) (k : Nat) (hk : k < 256) (h1 : digitF (k % 16) ≠ b) : pairN a b ≠ k := by
  unfold pairN
  split
  · rename_i h
    rw [Bool.and_eq_true] at h
    intro h3
    apply h1
    have hb : (nibF b.toNat).1 < 16 := nibF_lt b.toNat
    have e : k % 16 = (nibF b.toNat).1 := by omega
    rw [e]
    exact digit_nib b h.2
  · omega
theorem pairTo_miss (a b : UInt8) (k : Nat) (h : pairN a b ≠ k) : pairTo a b (k + 1) = pairTo a b k := by
  unfold pairTo
  by_cases h1 : pairN a b < k
  · rw [if_pos h1, if_pos (by omega)]
  · rw [if_neg h1, if_neg (by omega)]
theorem pairTo_hit (a b : UInt8) (k : Nat) (hk : k < 256) (h : pairN a b = k) : pairTo a b (k + 1) = pairTo a b k ++ [UInt8.ofNat k] := by
  unfold pairTo pairL
  rw [h, if_pos (show k < k + 1 by omega), if_pos hk, if_neg (show ¬ k < k by omega)]
  rfl
def outF : List UInt8 → List UInt8
  | a :: b :: r => pairL a b ++ outF r
  | _ => []
theorem outF_two (n : Nat) (xs : List UInt8) (a b : UInt8) (hn : xs.length = 2 * n) : outF (xs ++ [a, b]) = outF xs ++ pairL a b := by
  induction n generalizing xs with
  | zero =>
    have : xs = [] := List.eq_nil_of_length_eq_zero (by omega)
    subst this
    simp [outF]
  | succ n ih =>
    match xs, hn with
    | x :: y :: r, hn =>
      simp only [List.cons_append, outF, List.append_assoc]
      rw [ih r (by simp at hn; omega)]
theorem outF_odd (n : Nat) (xs : List UInt8) (a : UInt8) (hn : xs.length = 2 * n) : outF (xs ++ [a]) = outF xs := by
  induction n generalizing xs with
  | zero =>
    have : xs = [] := List.eq_nil_of_length_eq_zero (by omega)
    subst this
    rfl
  | succ n ih =>
    match xs, hn with
    | x :: y :: r, hn =>
      simp only [List.cons_append, outF]
      rw [ih r (by simp at hn; omega)]
theorem outF_len (n : Nat) (xs : List UInt8) (hn : xs.length ≤ n) : (outF xs).length ≤ xs.length := by
  induction n generalizing xs with
  | zero =>
    have : xs = [] := List.eq_nil_of_length_eq_zero (by omega)
    subst this
    exact Nat.le_refl _
  | succ n ih =>
    match xs with
    | [] => exact Nat.le_refl _
    | [a] => simp [outF]
    | x :: y :: r =>
      have := ih r (by simp at hn; omega)
      have hp : (pairL x y).length ≤ 1 := by unfold pairL; split <;> simp
      simp only [outF, List.length_append, List.length_cons]
      omega
theorem out_some (n : Nat) (l bs : List UInt8) (hn : l.length ≤ n) (h : unhexG l = some bs) : outF l = bs ∧ hexF bs = l := by
  induction n generalizing l bs with
  | zero =>
    have : l = [] := List.eq_nil_of_length_eq_zero (by omega)
    subst this
    simp [unhexG] at h
    subst h
    exact ⟨rfl, rfl⟩
  | succ n ih =>
    match l with
    | [] =>
      simp [unhexG] at h
      subst h
      exact ⟨rfl, rfl⟩
    | [a] => simp [unhexG] at h
    | a :: b :: r =>
      simp only [unhexG] at h
      split at h
      · rename_i hc
        cases hr : unhexG r with
        | none => rw [hr] at h; simp at h
        | some cs =>
          rw [hr] at h
          simp only [Option.map_some, Option.some.injEq] at h
          subst h
          obtain ⟨h1, h2⟩ := ih r cs (by simp at hn; omega) hr
          have hN : pairN a b = (nibF a.toNat).1 * 16 + (nibF b.toNat).1 := by unfold pairN; rw [if_pos hc]
          have ha := nibF_lt a.toNat
          have hb := nibF_lt b.toNat
          have hL : pairL a b = [UInt8.ofNat ((nibF a.toNat).1 * 16 + (nibF b.toNat).1)] := by unfold pairL; rw [hN, if_pos (by omega)]
          rw [Bool.and_eq_true] at hc
          refine ⟨by rw [outF, hL, h1]; rfl, ?_⟩
          have e0 : (UInt8.ofNat ((nibF a.toNat).1 * 16 + (nibF b.toNat).1)).toNat = (nibF a.toNat).1 * 16 + (nibF b.toNat).1 := UInt8.toNat_ofNat_of_lt (by show (nibF a.toNat).1 * 16 + (nibF b.toNat).1 < 256; omega)
          have e : hexF (UInt8.ofNat ((nibF a.toNat).1 * 16 + (nibF b.toNat).1) :: cs) = digitF ((nibF a.toNat).1) :: digitF ((nibF b.toNat).1) :: hexF cs := by
            simp only [hexF, List.flatMap_cons, e0]
            rw [show ((nibF a.toNat).1 * 16 + (nibF b.toNat).1) / 16 = (nibF a.toNat).1 by omega, show ((nibF a.toNat).1 * 16 + (nibF b.toNat).1) % 16 = (nibF b.toNat).1 by omega]
            rfl
          rw [e, digit_nib a hc.1, digit_nib b hc.2, h2]
      · cases h
theorem unhex_out (l : List UInt8) : unhexF l = if hexF (outF l) = l then (outF l, 0) else ([], 4) := by
  unfold unhexF
  cases h : unhexG l with
  | some bs =>
    obtain ⟨h1, h2⟩ := out_some _ l bs (Nat.le_refl _) h
    rw [h1, h2, if_pos rfl]
  | none =>
    rw [if_neg]
    intro h2
    have h3 := unhexG_hexF (outF l)
    rw [h2, h] at h3
    cases h3
end Go.Proofs.YtdceopnjokdblaaDoor
