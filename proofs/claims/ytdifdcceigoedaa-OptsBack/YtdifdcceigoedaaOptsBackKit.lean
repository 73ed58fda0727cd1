/- What follows of a packet that was put: it is got; cut it is short; of an error there are no bytes. -/
import Derived.Test.YtdifdcceigoedaaOptsListsWalk
namespace Go.Proofs.Ytdifdcceigoedaa
open Go.RowKit

theorem packF_ok {c i : Nat} {l : List UInt8} (h : (packF c i l).2 = 0) : l.length ≤ 1488 ∧ packF c i l = (headF c i (4 + l.length) ++ l, 0) := by
  unfold packF at *
  by_cases h1 : 1488 < l.length
  · rw [if_pos h1] at h
    exact absurd h (by decide)
  · rw [if_neg h1]
    exact ⟨by omega, rfl⟩
theorem packF_err {c i : Nat} {l : List UInt8} (h : (packF c i l).2 ≠ 0) : (packF c i l).1 = [] := by
  unfold packF at *
  by_cases h1 : 1488 < l.length
  · rw [if_pos h1]
  · rw [if_neg h1] at h
    exact absurd rfl h

theorem putData_ok {c i : Int} {o : List Tg} {l : List UInt8} (h : (putDataF c i o l).2 = 0) :
    ∃ a b : Nat, c = (a : Int) ∧ i = (b : Int) ∧ a ≤ 255 ∧ b ≤ 255 ∧ o = [] ∧ l.length ≤ 1488 ∧ (putDataF c i o l).1 = headF a b (4 + l.length) ++ l := by
  unfold putDataF at *
  by_cases h1 : (byteB c && byteB i && decide (o.length = 0)) = true
  · rw [if_pos h1] at h
    rw [if_pos h1]
    simp only [Bool.and_eq_true, decide_eq_true_eq] at h1
    obtain ⟨⟨hc, hi⟩, ho⟩ := h1
    obtain ⟨a, rfl, ha⟩ := byteB_nat hc
    obtain ⟨b, rfl, hb⟩ := byteB_nat hi
    simp only [Int.toNat_natCast] at *
    obtain ⟨hl, he⟩ := packF_ok h
    exact ⟨a, b, rfl, rfl, ha, hb, List.eq_nil_of_length_eq_zero ho, hl, by rw [he]⟩
  · rw [if_neg h1] at h
    exact absurd h (by decide)
theorem putData_err {c i : Int} {o : List Tg} {l : List UInt8} (h : (putDataF c i o l).2 ≠ 0) : (putDataF c i o l).1 = [] := by
  unfold putDataF at *
  by_cases h1 : (byteB c && byteB i && decide (o.length = 0)) = true
  · rw [if_pos h1] at h
    rw [if_pos h1]
    exact packF_err h
  · rw [if_neg h1]

/-- What is put is a head and what stands behind it, by which it is got again. -/
theorem putPack_ok {c i : Int} {o : List Tg} {l : List UInt8} (h : (putPackF c i o l).2 = 0) :
    ∃ (a b : Nat) (L : List UInt8), c = (a : Int) ∧ i = (b : Int) ∧ a ≤ 255 ∧ b ≤ 255 ∧ L.length ≤ 1488 ∧ (putPackF c i o l).1 = headF a b (4 + L.length) ++ L ∧
      ∀ s, getDataF s = (⟨a, b, [], L⟩, 0) → getPackF s = (⟨a, b, o, l⟩, 0) := by
  unfold putPackF at *
  cases hc : confB c with
  | false =>
    rw [hc, if_pos rfl] at h
    rw [if_pos rfl]
    obtain ⟨a, b, rfl, rfl, ha, hb, rfl, hl, e⟩ := putData_ok h
    exact ⟨a, b, l, rfl, rfl, ha, hb, hl, e, fun s hs => getPack_of hs (Or.inr hc)⟩
  | true =>
    rw [hc, if_neg (by simp)] at h
    rw [if_neg (by simp)]
    by_cases h1 : (byteB i && decide (l.length = 0)) = true
    · rw [if_pos h1] at h
      rw [if_pos h1]
      simp only [Bool.and_eq_true, decide_eq_true_eq] at h1
      obtain ⟨hi, hl⟩ := h1
      obtain rfl := List.eq_nil_of_length_eq_zero hl
      obtain ⟨a, rfl, ha⟩ := confB_nat hc
      obtain ⟨b, rfl, hb⟩ := byteB_nat hi
      simp only [Int.toNat_natCast] at *
      by_cases h2 : (putOptsF o).2 = 0
      · rw [if_pos h2] at h
        rw [if_pos h2]
        obtain ⟨ho3, hoa, hoe⟩ := putOpts_ok h2
        rw [hoe] at h ⊢
        simp only at h ⊢
        obtain ⟨hl, he⟩ := packF_ok h
        refine ⟨a, b, bytesO o, rfl, rfl, ha, hb, hl, by rw [he], fun s hs => getPack_yes hs hc ?_⟩
        have := optsOn_all o hoa [] [] (by simpa using ho3)
        rw [List.append_nil, optsOn_nil, List.nil_append] at this
        exact this
      · rw [if_neg h2] at h
        exact absurd h h2
    · rw [if_neg h1] at h
      exact absurd h (by decide)
theorem putPack_err {c i : Int} {o : List Tg} {l : List UInt8} (h : (putPackF c i o l).2 ≠ 0) : (putPackF c i o l).1 = [] := by
  unfold putPackF at *
  by_cases hc : confB c = false
  · rw [if_pos hc] at h
    rw [if_pos hc]
    exact putData_err h
  · rw [if_neg hc] at h
    rw [if_neg hc]
    by_cases h1 : (byteB i && decide (l.length = 0)) = true
    · rw [if_pos h1] at h
      rw [if_pos h1]
      by_cases h2 : (putOptsF o).2 = 0
      · rw [if_pos h2] at h
        rw [if_pos h2]
        exact packF_err h
      · rw [if_neg h2]
    · rw [if_neg h1]

theorem rem_orO (a n : Int) (hn : 0 < n) : a.tmod n = a % n ∨ (a % n ≠ 0 ∧ a.tmod n = a % n - n) := by
  have h := Int.tmod_eq_emod (a := a) (b := n)
  split at h
  · exact Or.inl (by simpa using h)
  · rename_i hc
    refine Or.inr ⟨?_, ?_⟩
    · intro e
      exact hc (Or.inr (Int.dvd_of_emod_eq_zero e))
    · rw [h]
      omega
/-- The rest of a division that cuts off, and the length where it is below nought. -/
theorem rem_in (a : Int) (n : Nat) (hn : 0 < n) : ∃ k : Nat, k < n ∧ ((a.tmod (n : Int) = (k : Int)) ∨ (a.tmod (n : Int) < 0 ∧ a.tmod (n : Int) + (n : Int) = (k : Int))) := by
  have h1 := Int.emod_nonneg a (b := (n : Int)) (by omega)
  have h2 := Int.emod_lt_of_pos a (b := (n : Int)) (by omega)
  refine ⟨(a % (n : Int)).toNat, by omega, ?_⟩
  rcases rem_orO a n (by omega) with h | ⟨h, h'⟩
  · exact Or.inl (by omega)
  · exact Or.inr ⟨by omega, by omega⟩
end Go.Proofs.Ytdifdcceigoedaa
