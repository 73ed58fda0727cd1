/- What was put is got, as plain facts, under the conditions that stand in each: numbers, frames, protocols, datagrams, digits, sealed bytes. -/
import Derived.Test.YtlimnhlgjjgdeaaGetEther
import Derived.Test.YtlimnhlgjjgdeaaPutPpp
namespace Go.Proofs.Ytlimnhlgjjgdeaa
open Go.RowKit

theorem back_put (m : List UInt8) (v n : Int) (h : (putF v n).2 = 0) : ∃ a k : Nat, v = (a : Int) ∧ n = (k : Int) ∧ 1 ≤ k ∧ k ≤ 4 ∧ a < 256 ^ k ∧ (putF v n).1 = low a k ∧ getF (m ++ low a k ++ m) (m.length : Int) (k : Int) = (a, 0) := by
  unfold putF at h ⊢
  split at h
  · rename_i hc
    obtain ⟨h1, h4, h0, hv⟩ := hc
    obtain ⟨k, rfl⟩ := Int.eq_ofNat_of_zero_le (show 0 ≤ n by omega)
    obtain ⟨a, rfl⟩ := Int.eq_ofNat_of_zero_le h0
    rw [Int.toNat_natCast] at hv
    have hv' := Int.ofNat_lt.1 hv
    refine ⟨a, k, rfl, rfl, by omega, by omega, hv', ?_, ?_⟩
    · rw [if_pos ⟨h1, h4, h0, by rw [Int.toNat_natCast]; exact hv⟩]
      rfl
    · unfold getF
      rw [if_pos ⟨h1, h4, by omega⟩, if_pos (by simp [low_length]; omega), Int.toNat_natCast, Int.toNat_natCast]
      have e : ((m ++ low a k ++ m).drop m.length).take k = low a k := by
        rw [List.append_assoc, List.drop_left]
        rw [List.take_append_of_le_length (by rw [low_length]; exact Nat.le_refl _)]
        exact List.take_of_length_le (by rw [low_length]; exact Nat.le_refl _)
      rw [e, numOf_low, Nat.mod_eq_of_lt hv']
  · simp at h
theorem low_two_take (a : Nat) (l : List UInt8) : (low a 2 ++ l).take 2 = low a 2 := by
  rw [List.take_append_of_le_length (by rw [low_length]; exact Nat.le_refl _)]
  exact List.take_of_length_le (by rw [low_length]; exact Nat.le_refl _)
theorem low_two_drop (a : Nat) (l : List UInt8) : (low a 2 ++ l).drop 2 = l := by
  have h := List.drop_left (l₁ := low a 2) (l₂ := l)
  rw [low_length] at h
  exact h
theorem num_two (a : Nat) (h : a ≤ 65535) : numOf (low a 2) = a := by rw [numOf_low]; omega
theorem back_ppp (p : Int) (m : List UInt8) (h : (putPppF p m).2 = 0) : ∃ a : Nat, p = (a : Int) ∧ getPppF (putPppF p m).1 = (a, m, 0) := by
  unfold putPppF at h ⊢
  split at h
  · rename_i hw
    obtain ⟨h1, h2⟩ : wordB p = true ∧ protoB p.toNat = true := by simpa using hw
    have hr : 0 ≤ p ∧ p ≤ 65535 := by simpa [wordB] using h1
    obtain ⟨a, rfl⟩ := Int.eq_ofNat_of_zero_le hr.1
    rw [Int.toNat_natCast] at h2 hw
    rw [Int.toNat_natCast, if_pos hw]
    split at h
    · simp at h
    · rename_i hl
      rw [if_neg hl]
      refine ⟨a, rfl, ?_⟩
      unfold getPppF
      rw [low_two_take, num_two a (by omega), low_two_drop, if_neg (by simp [low_length]), if_neg (by rw [h2]; decide), if_neg (by simp [low_length]; omega)]
  · simp at h
theorem back_ether (d s : List UInt8) (hd : d.length = 6) (hs : s.length = 6) (ty : Int) (m : List UInt8) (h : (putEtherF d s ty m).2 = 0) : ∃ a : Nat, ty = (a : Int) ∧ getEtherF (putEtherF d s ty m).1 = ((d, s, a, m), 0) := by
  unfold putEtherF at h ⊢
  split at h
  · rename_i hw
    have hr : 0 ≤ ty ∧ ty ≤ 65535 := by simpa [wordB] using hw
    obtain ⟨a, rfl⟩ := Int.eq_ofNat_of_zero_le hr.1
    rw [if_pos hw]
    split at h
    · simp at h
    · rename_i hl
      rw [if_neg hl, Int.toNat_natCast]
      refine ⟨a, rfl, ?_⟩
      have e0 : (d ++ s ++ low a 2 ++ m).length = 14 + m.length := by simp [hd, hs, low_length]; omega
      have e1 : (d ++ s ++ low a 2 ++ m).take 6 = d := by
        rw [List.append_assoc, List.append_assoc, List.take_append_of_le_length (by omega)]
        exact List.take_of_length_le (by omega)
      have e2 : (d ++ s ++ low a 2 ++ m).drop 6 = s ++ (low a 2 ++ m) := by
        have h := List.drop_left (l₁ := d) (l₂ := s ++ (low a 2 ++ m))
        rw [hd] at h
        rw [List.append_assoc, List.append_assoc]
        exact h
      have e3 : (s ++ (low a 2 ++ m)).take 6 = s := by
        rw [List.take_append_of_le_length (by omega)]
        exact List.take_of_length_le (by omega)
      have e4 : (d ++ s ++ low a 2 ++ m).drop 12 = low a 2 ++ m := by
        have h := List.drop_left (l₁ := d ++ s) (l₂ := low a 2 ++ m)
        rw [List.length_append, hd, hs] at h
        rw [List.append_assoc (d ++ s)]
        exact h
      have e5 : (d ++ s ++ low a 2 ++ m).drop 14 = m := by
        have h := List.drop_left (l₁ := d ++ s ++ low a 2) (l₂ := m)
        rw [List.length_append, List.length_append, hd, hs, low_length] at h
        exact h
      show getEtherF (d ++ s ++ low a 2 ++ m) = _
      unfold getEtherF
      rw [if_neg (by omega), if_neg (by omega), e1, e2, e3, e4, e5, low_two_take, num_two a (by omega)]
  · simp at h
theorem unseal_seal (l : List UInt8) : unsealF (sealF l) = (l, 0) := by
  have hl : (sealF l).length = l.length + 2 := by simp [sealF]
  have ht : (sealF l).take l.length = l := by
    unfold sealF
    rw [List.take_append_of_le_length (Nat.le_refl _), List.take_length]
  unfold unsealF
  rw [if_neg (by omega), hl, Nat.add_sub_cancel, ht, if_pos rfl]
theorem back_gram (f t : Int) (m : List UInt8) (h : (putGramF f t m).2 = 0) : ∃ a b : Nat, f = (a : Int) ∧ t = (b : Int) ∧ getGramF (putGramF f t m).1 = ((a, b, m), 0) := by
  unfold putGramF at h ⊢
  split at h
  · rename_i hw
    obtain ⟨h1, h2⟩ : wordB f = true ∧ wordB t = true := by simpa using hw
    obtain ⟨a, rfl, ha⟩ := wordB_nat h1
    obtain ⟨b, rfl, hb⟩ := wordB_nat h2
    rw [if_pos hw]
    split at h
    · simp at h
    · rename_i hl
      rw [if_neg hl, Int.toNat_natCast, Int.toNat_natCast]
      refine ⟨a, b, rfl, rfl, ?_⟩
      unfold getGramF
      rw [unseal_seal]
      have e0 : (gramF a b m).length = 6 + m.length := by simp [gramF, low_length]; omega
      have e1 : (gramF a b m).take 2 = low a 2 := by
        unfold gramF
        rw [List.append_assoc, List.append_assoc]
        exact low_two_take _ _
      have e2 : (gramF a b m).drop 2 = low b 2 ++ (low m.length 2 ++ m) := by
        unfold gramF
        rw [List.append_assoc, List.append_assoc]
        exact low_two_drop _ _
      have e3 : (gramF a b m).drop 4 = low m.length 2 ++ m := by
        rw [show (4 : Nat) = 2 + 2 from rfl, ← List.drop_drop, e2]
        exact low_two_drop _ _
      have e4 : (gramF a b m).drop 6 = m := by
        rw [show (6 : Nat) = 4 + 2 from rfl, ← List.drop_drop, e3]
        exact low_two_drop _ _
      rw [if_neg (by simp), if_neg (by rw [e0]; omega), e3, low_two_take, num_two m.length (by omega), if_neg (by omega), if_neg (by rw [e0]; omega), e1, e2, low_two_take, e4, num_two a ha, num_two b hb]
  · simp at h
end Go.Proofs.Ytlimnhlgjjgdeaa
