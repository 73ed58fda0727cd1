/- Messages with all that they need, as plain facts with no Go in them. -/
import Derived.Test.YtkneogfeokckjaaDoorMsIn
import Derived.Test.YtkneogfeokckjaaDoorMsKindP
namespace Go.Proofs.YtkneogfeokckjaaDoor
open Go.RowKit

/-- So many bytes. -/
def xsN : Nat → ByteArray
  | 0 => ⟨#[]⟩
  | n + 1 => xsN n ++ ⟨#[120]⟩
theorem xsN_size (n : Nat) : (xsN n).size = n := by
  induction n with
  | zero => rfl
  | succ n ih =>
    rw [xsN, ByteArray.size_append, ih]
    rfl
/-- A value that is as long as it must be. -/
def valF (k : Int) : Av := ⟨true, false, 0, k, xsN (lengthF k).toNat⟩
def wholeL (k : Int) : List Av := (needsF k).map valF
def av9 (m : Bool) : Av := ⟨m, false, 9, 1, ⟨#[]⟩⟩
/-- Is there such a kind? -/
def knownB (k : Int) : Bool := decide (1 ≤ k) && (decide (k ≤ 16) && ((k != 5) && (k != 13)))
def wholeOk (k : Int) : Bool := (checkF (headK k :: wholeL k) == 0) && ((List.range (wholeL k).length).all (fun d => checkF (headK k :: ((wholeL k).take d ++ (wholeL k).drop (d + 1))) == 40) && ((checkF (headK k :: (wholeL k ++ [av9 false])) == 0) && (checkF (headK k :: (wholeL k ++ [av9 true])) == 40)))
theorem known_cases {k : Int} (h : knownB k = true) : k = 1 ∨ k = 2 ∨ k = 3 ∨ k = 4 ∨ k = 6 ∨ k = 7 ∨ k = 8 ∨ k = 9 ∨ k = 10 ∨ k = 11 ∨ k = 12 ∨ k = 14 ∨ k = 15 ∨ k = 16 := by
  simp only [knownB, Bool.and_eq_true, decide_eq_true_eq, bne_iff_ne] at h
  omega
theorem whole_ok {k : Int} (h : knownB k = true) : wholeOk k = true := by
  rcases known_cases h with rfl | rfl | rfl | rfl | rfl | rfl | rfl | rfl | rfl | rfl | rfl | rfl | rfl | rfl <;> rfl
theorem needs_unknown {k : Int} (h : knownB k = false) : needsF k = [] := by
  rw [← Bool.not_eq_true] at h
  simp only [knownB, Bool.and_eq_true, decide_eq_true_eq, bne_iff_ne] at h
  unfold needsF
  rw [if_neg (by omega), if_neg (by omega), if_neg (by omega), if_neg (by omega), if_neg (by omega), if_neg (by omega), if_neg (by omega), if_neg (by omega)]
theorem whole_unknown {k : Int} (h0 : 0 ≤ k) (h1 : k ≤ 65535) (h : knownB k = false) : checkF [headK k] = 40 := by
  have hn := needs_unknown h
  rw [← Bool.not_eq_true] at h
  simp only [knownB, Bool.and_eq_true, decide_eq_true_eq, bne_iff_ne] at h
  unfold checkF
  rw [if_neg (by simp), kind_head, show k % 65536 = k by omega]
  have hk : kindB k = false := by
    unfold kindB
    rw [hn, decide_eq_false (by omega), decide_eq_false (by omega)]
    rfl
  rw [hk, if_neg (by simp)]
theorem whole_parts {k : Int} (h : knownB k = true) : checkF (headK k :: wholeL k) = 0 ∧ (∀ D, D < (wholeL k).length → checkF (headK k :: ((wholeL k).take D ++ (wholeL k).drop (D + 1))) = 40) ∧ checkF (headK k :: (wholeL k ++ [av9 false])) = 0 ∧ checkF (headK k :: (wholeL k ++ [av9 true])) = 40 := by
  have h1 := whole_ok h
  simp only [wholeOk, Bool.and_eq_true, beq_iff_eq, List.all_eq_true, List.mem_range] at h1
  exact ⟨h1.1, h1.2.1, h1.2.2.1, h1.2.2.2⟩
def lenOk (k : Int) : Bool := (lengthF k != -2) && (decide (lengthF k ≤ 100) && (decide (0 ≤ k) && decide (k ≤ 100)))
theorem needs_len (k : Int) : ∀ x ∈ needsF k, lenOk x = true := by
  unfold needsF
  have h1 : ([2, 3, 7, 9] : List Int).all lenOk = true := by rfl
  have h2 : ([9, 1] : List Int).all lenOk = true := by rfl
  have h3 : ([14, 15] : List Int).all lenOk = true := by rfl
  have h4 : ([14] : List Int).all lenOk = true := by rfl
  have h5 : ([24, 19] : List Int).all lenOk = true := by rfl
  have h6 : ([1, 14] : List Int).all lenOk = true := by rfl
  have h7 : ([34] : List Int).all lenOk = true := by rfl
  have h8 : ([35] : List Int).all lenOk = true := by rfl
  rw [List.all_eq_true] at h1 h2 h3 h4 h5 h6 h7 h8
  split
  · exact h1
  split
  · exact h2
  split
  · exact h3
  split
  · exact h4
  split
  · exact h5
  split
  · exact h6
  split
  · exact h7
  split
  · exact h8
  · exact fun x hx => by cases hx
/-- Small values. -/
def SmallA (x : Av) : Prop := x.value.size ≤ 1000 ∧ (0 ≤ x.vendor ∧ x.vendor ≤ 1000) ∧ (0 ≤ x.type ∧ x.type ≤ 1000)
theorem SmallA.good {x : Av} (h : SmallA x) : GoodA x ∧ x.value.size ≤ 140737488351232 := ⟨⟨by have := h.2.1; omega, by have := h.2.2; omega, by have := h.1; unfold maxLen; omega⟩, by have := h.1; omega⟩
theorem good_head (k : Int) : GoodA (headK k) ∧ (headK k).value.size ≤ 140737488351232 := by
  have h : (headK k).value.size = 2 := numV_size k
  have hz : (-9223372036854775808 : Int) ≤ 0 ∧ (0 : Int) ≤ 9223372036854775807 := by decide
  exact ⟨⟨hz, hz, by rw [h]; decide⟩, by omega⟩
theorem small_whole (k : Int) : ∀ x ∈ wholeL k, SmallA x := by
  intro x hx
  obtain ⟨z, hz, rfl⟩ := List.mem_map.1 hx
  have h := needs_len k z hz
  simp only [lenOk, Bool.and_eq_true, decide_eq_true_eq, bne_iff_ne] at h
  refine ⟨?_, ⟨Int.le_refl _, (by decide : (0 : Int) ≤ 1000)⟩, h.2.2.1, ?_⟩
  · show (xsN (lengthF z).toNat).size ≤ 1000
    rw [xsN_size]
    omega
  · show z ≤ 1000
    omega
theorem small_av9 (m : Bool) : SmallA (av9 m) := by cases m <;> exact ⟨by decide, by decide, by decide⟩
end Go.Proofs.YtkneogfeokckjaaDoor
