/- The walk of the law WireSealed: for every two strings of at most 2^47 bytes it returns true, and of what was there nothing has turned. -/
import Derived.Test.YtijeifgjjmemlabAlive
import Derived.Test.YtijeifgjjmemlabSeal
namespace Go.Proofs.Ytijeifgjjmemlab
open Go.RowKit

theorem ret_bool {a b : Bool} (h : a = b) : Ending.returned (.bool a) = .returned (.bool b) := by rw [h]
theorem bytes_toList (s : ByteArray) : s.toList = s.data.toList := by
  obtain ⟨⟨l⟩⟩ := s
  simp
theorem bytes_beq (s t : ByteArray) : (s.toList == t.toList) = decide (s = t) := by
  rw [Bool.eq_iff_iff, beq_iff_eq, decide_eq_true_iff, bytes_toList, bytes_toList]
  exact ⟨fun h => ByteArray.ext (Array.toList_inj.1 h), fun h => by rw [h]⟩
theorem seal_inj {a b : List UInt8} (h : sealF a = sealF b) : a = b := by
  have h1 : (sealF a).length = (sealF b).length := by rw [h]
  unfold sealF at h h1
  simp only [List.length_append, List.length_cons, List.length_nil] at h1
  exact List.append_inj_left h (by omega)
theorem seal_bytes_inj {a b : ByteArray} (h : (⟨(sealF a.data.toList).toArray⟩ : ByteArray) = ⟨(sealF b.data.toList).toArray⟩) : a = b := by
  have h1 : (sealF a.data.toList).toArray = (sealF b.data.toList).toArray := congrArg ByteArray.data h
  have h2 := seal_inj (List.toArray_inj h1)
  apply ByteArray.ext
  exact Array.toList_inj.1 h2

set_option maxHeartbeats 400000 in
theorem wireSealed_walk (a b : ByteArray) (ha : a.size ≤ 140737488351232) (hb : b.size ≤ 140737488351232) (w : World) :
    Calls Try.prog 4 #[.string a, .string b] w fun e w' => e = .returned (.bool true) ∧ Below w.heap.size w w' := by
  by_cases hl : a.size + b.size ≤ 6000
  · obtain ⟨s, hs⟩ : ∃ s : ByteArray, s = ⟨(sealF a.data.toList).toArray⟩ := ⟨_, rfl⟩
    obtain ⟨t, ht⟩ : ∃ t : ByteArray, t = ⟨(sealF b.data.toList).toArray⟩ := ⟨_, rfl⟩
    have HS : Hid (∀ w, Calls Try.prog 9 #[.string a] w fun e w' => e = .returned (.string s) ∧ Below w.heap.size w w') := fun w => by rw [hs]; exact seal_any a (by omega) w
    have HT : Hid (∀ w, Calls Try.prog 9 #[.string b] w fun e w' => e = .returned (.string t) ∧ Below w.heap.size w w') := fun w => by rw [ht]; exact seal_any b (by omega) w
    have hss : s.size = a.size + 2 := by rw [hs, Lib.size_eq, Lib.size_eq]; simp [sealF]
    have hex : s.extract 0 a.size = a := by
      rw [hs]
      apply ByteArray.ext
      apply Array.toList_inj.1
      rw [Lib.extract_data]
      simp [sealF]
    have hst : s = t ↔ a = b := ⟨fun h => seal_bytes_inj (by rw [← hs, ← ht]; exact h), fun h => by rw [hs, ht, h]⟩
    have hx : ((s.extract 0 a.size).toList == a.toList) = true := by rw [hex]; simp
    have HI := hide hst
    have h1 : s.size ≤ a.size + 2 := by omega
    have h2 : a.size + 2 ≤ s.size := by omega
    clear hs ht hss hex hst
    go_enter Try.func4, Try.ntmps4
    go_wp2_with fail
    refine (HS.out _).mono ?_
    rintro e w1 ⟨rfl, hb1⟩
    go_wp2_with fail
    refine (HT.out _).mono ?_
    rintro e w2 ⟨rfl, hb2⟩
    go_wp2_with (go_at_call 8; refine (alive_any _).mono ?_; rintro e w3 ⟨rfl, hb3⟩)
    go_ret
    refine ⟨ret_bool ?_, below_next (below_next hb1 hb2) hb3⟩
    rw [bytes_beq, bytes_beq, beq_iff_eq, decide_eq_decide]
    exact HI.out
  · go_enter Try.func4, Try.ntmps4
    go_wp2_with (go_at_call 8; refine (alive_any _).mono ?_; rintro e w3 ⟨rfl, hb3⟩)
    go_ret
    exact ⟨rfl, by assumption⟩
end Go.Proofs.Ytijeifgjjmemlab
