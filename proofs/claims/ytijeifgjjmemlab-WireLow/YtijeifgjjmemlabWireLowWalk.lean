/- The walk of the law WireLow: for every two ints it returns true, and of what was there nothing has turned. -/
import Derived.Test.YtijeifgjjmemlabAlive
import Derived.OpenShut
namespace Go.Proofs.Ytijeifgjjmemlab
open Go.RowKit

theorem low_up (a k : Nat) (h : a < 256 ^ k) : low a (k + 1) = 0 :: low a k := by
  induction k generalizing a with
  | zero =>
    have : a = 0 := by simpa using h
    subst this
    rfl
  | succ k ih =>
    have e := ih (a / 256) (Nat.div_lt_of_lt_mul (by rw [Nat.pow_succ, Nat.mul_comm] at h; exact h))
    show low (a / 256) (k + 1) ++ [UInt8.ofNat (a % 256)] = 0 :: (low (a / 256) k ++ [UInt8.ofNat (a % 256)])
    rw [e]
    rfl
theorem ret_bool {a b : Bool} (h : a = b) : Ending.returned (.bool a) = .returned (.bool b) := by rw [h]
theorem low_last (a k : Nat) : (low a (k + 1))[k]? = some (UInt8.ofNat (a % 256)) := by
  rw [low, List.getElem?_append_right (by rw [low_length]; exact Nat.le_refl _), low_length]
  simp

/-- The first Put tells an error: 'alive' is the answer. -/
theorem wireLow_no (a0 a1 : Int) (b1 : -9223372036854775808 ≤ a1) (hp : putF a0 a1 = ([], 1)) (w : World) :
    Calls Try.prog 3 #[.int .i64 a0, .int .i64 a1] w fun e w' => e = .returned (.bool true) ∧ Below w.heap.size w w' := by
  have HP : Hid (∀ w, Calls Try.prog 7 #[.int .i64 a0, .int .i64 a1] w fun e w' => e = .returned (.tuple #[.string ⟨#[]⟩, .int .i64 1]) ∧ Below w.heap.size w w') := fun w => by
    have h := put_any a0 a1 b1 w
    rw [hp] at h
    exact h
  clear hp
  go_enter Try.func3, Try.ntmps3
  go_wp2_with fail
  refine (HP.out _).mono ?_
  rintro e w1 ⟨rfl, hb1⟩
  go_wp2_with fail
  refine (put_any _ _ (by unfold wrap64; omega) _).mono ?_
  rintro e w2 ⟨rfl, hb2⟩
  go_wp2_with (go_at_call 8; refine (alive_any _).mono ?_; rintro e w3 ⟨rfl, hb3⟩)
  go_ret
  exact ⟨rfl, below_next (below_next hb1 hb2) hb3⟩

/-- Put tells no error, n is 4. -/
theorem wireLow_four (a : Nat) (ha : a < 256 ^ 4) (w : World) :
    Calls Try.prog 3 #[.int .i64 (a : Int), .int .i64 4] w fun e w' => e = .returned (.bool true) ∧ Below w.heap.size w w' := by
  have HP : Hid (∀ w, Calls Try.prog 7 #[.int .i64 (a : Int), .int .i64 4] w fun e w' => e = .returned (.tuple #[.string ⟨(low a 4).toArray⟩, .int .i64 0]) ∧ Below w.heap.size w w') :=
    fun w => put_yes a 4 (by decide) (by decide) ha w
  generalize (⟨(low a 4).toArray⟩ : ByteArray) = s at HP
  go_enter Try.func3, Try.ntmps3
  go_wp2_with fail
  refine (HP.out _).mono ?_
  rintro e w1 ⟨rfl, hb1⟩
  go_wp2_with fail
  refine (put_any _ _ (by decide) _).mono ?_
  rintro e w2 ⟨rfl, hb2⟩
  go_wp2_with (go_at_call 8; refine (alive_any _).mono ?_; rintro e w3 ⟨rfl, hb3⟩)
  go_ret
  exact ⟨rfl, below_next (below_next hb1 hb2) hb3⟩

/-- Put tells no error, n is 1 to 3. -/
theorem wireLow_yes (a k : Nat) (hk1 : 1 ≤ k) (hk : k ≤ 3) (ha : a < 256 ^ k) (w : World) :
    Calls Try.prog 3 #[.int .i64 (a : Int), .int .i64 (k : Int)] w fun e w' => e = .returned (.bool true) ∧ Below w.heap.size w w' := by
  have hp : 256 ^ k ≤ 256 ^ 3 := Nat.pow_le_pow_right (by decide) hk
  have ha3 : a < 16777216 := by omega
  have HP1 : Hid (∀ w, Calls Try.prog 7 #[.int .i64 (a : Int), .int .i64 (k : Int)] w fun e w' => e = .returned (.tuple #[.string ⟨(low a k).toArray⟩, .int .i64 0]) ∧ Below w.heap.size w w') :=
    fun w => put_yes a k (by omega) (by omega) ha w
  have hup : (⟨(low a (k + 1)).toArray⟩ : ByteArray) = ⟨#[0]⟩ ++ ⟨(low a k).toArray⟩ := by
    rw [low_up a k ha]
    apply ByteArray.ext
    apply Array.toList_inj.1
    simp
  have HP2 : Hid (∀ w, Calls Try.prog 7 #[.int .i64 (a : Int), .int .i64 ((k : Int) + 1)] w fun e w' => e = .returned (.tuple #[.string (⟨#[0]⟩ ++ ⟨(low a k).toArray⟩), .int .i64 0]) ∧ Below w.heap.size w w') := fun w => by
    have h := put_yes a (k + 1) (by omega) (by omega) (Nat.lt_of_lt_of_le ha (Nat.pow_le_pow_right (by decide) (by omega))) w
    rw [hup] at h
    exact h
  obtain ⟨s, hs⟩ : ∃ s : ByteArray, s = ⟨(low a k).toArray⟩ := ⟨_, rfl⟩
  have hsz : s.size = k := by rw [hs, Lib.size_eq]; exact low_length a k
  have hlast : ∀ h : k - 1 < s.size, (s[k - 1].toNat : Int) = (a : Int) % 256 := by
    intro h
    obtain ⟨m, rfl⟩ : ∃ m, k = m + 1 := ⟨k - 1, by omega⟩
    have e := low_last a m
    subst hs
    have e2 : (low a (m + 1))[m]? = some ((⟨(low a (m + 1)).toArray⟩ : ByteArray)[m]'(by simpa using h)) := by
      rw [List.getElem?_eq_getElem (by rw [low_length]; omega)]
      rfl
    rw [e] at e2
    have e3 := Option.some.inj e2
    show (((⟨(low a (m + 1)).toArray⟩ : ByteArray)[m]'(by simpa using h)).toNat : Int) = _
    rw [← e3]
    simp
  rw [← hs] at HP1 HP2
  clear hup hs hp ha
  have hlt : k - 1 < s.size := by omega
  have hle : s.size ≤ k := by omega
  have HL := hide (hlast hlt)
  clear hlast hsz
  go_enter Try.func3, Try.ntmps3
  go_wp2_with fail
  refine (HP1.out _).mono ?_
  rintro e w1 ⟨rfl, hb1⟩
  go_wp2_with fail
  refine (HP2.out _).mono ?_
  rintro e w2 ⟨rfl, hb2⟩
  go_wp2_with (go_at_call 8; refine (alive_any _).mono ?_; rintro e w3 ⟨rfl, hb3⟩)
  go_ret
  refine ⟨ret_bool ?_, below_next (below_next hb1 hb2) hb3⟩
  have hb := s[k - 1].toNat_lt
  rw [IntWalk.wrap64_in _ ⟨by omega, by omega⟩, HL.out]
  simp

theorem wireLow_walk (a0 : Int) (a1 : Int) (_w0 : (Lit.int .i64 a0).wf = true) (w1 : (Lit.int .i64 a1).wf = true) (w : World) :
    Calls Try.prog 3 #[.int .i64 a0, .int .i64 a1] w fun e w' => e = .returned (.bool true) ∧ Below w.heap.size w w' := by
  have b1 := bounds_i64 w1
  by_cases h : 1 ≤ a1 ∧ a1 ≤ 4 ∧ 0 ≤ a0 ∧ a0 < ((256 ^ a1.toNat : Nat) : Int)
  · obtain ⟨h1, h4, h0, hv⟩ := h
    obtain ⟨k, rfl⟩ := Int.eq_ofNat_of_zero_le (show 0 ≤ a1 by omega)
    obtain ⟨a, rfl⟩ := Int.eq_ofNat_of_zero_le h0
    rw [Int.toNat_natCast] at hv
    have hv' := Int.ofNat_lt.1 hv
    by_cases hk : k ≤ 3
    · exact wireLow_yes a k (by omega) hk hv' w
    · obtain rfl : k = 4 := by omega
      exact wireLow_four a hv' w
  · exact wireLow_no a0 a1 (by omega) (if_neg h) w
end Go.Proofs.Ytijeifgjjmemlab
