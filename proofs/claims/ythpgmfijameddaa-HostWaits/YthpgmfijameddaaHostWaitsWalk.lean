/- The law HostWaits: it returns true for every two numbers, and leaves what was there. -/
import Derived.Test.YthpgmfijameddaaHsAlive
namespace Go.Proofs.Ythpgmfijameddaa
open Go.RowKit

theorem hostWaits_out (r t : Int) (h : (decide (r < 0) || decide (5 < r) || decide (t < 1) || decide (20 < t)) = true) (w : World) : Calls Try.prog 4 #[.int .i64 r, .int .i64 t] w fun e w' => e = .returned (.bool true) ∧ Below w.heap.size w w' := by
  have Ha := hid alive_any
  by_cases h1 : r < 0
  · go_enter Try.func4, Try.ntmps4
    go_wp2_with (go_at_call 7; refine (Ha.out _).mono ?_; rintro e w' ⟨rfl, hk⟩)
    go_ret
    exact ⟨rfl, below_of hk⟩
  · by_cases h2 : 5 < r
    · go_enter Try.func4, Try.ntmps4
      go_wp2_with (go_at_call 7; refine (Ha.out _).mono ?_; rintro e w' ⟨rfl, hk⟩)
      go_ret
      exact ⟨rfl, below_of hk⟩
    · by_cases h3 : t < 1
      · go_enter Try.func4, Try.ntmps4
        go_wp2_with (go_at_call 7; refine (Ha.out _).mono ?_; rintro e w' ⟨rfl, hk⟩)
        go_ret
        exact ⟨rfl, below_of hk⟩
      · have h4 : 20 < t := by simp [h1, h2, h3] at h; exact h
        go_enter Try.func4, Try.ntmps4
        go_wp2_with (go_at_call 7; refine (Ha.out _).mono ?_; rintro e w' ⟨rfl, hk⟩)
        go_ret
        exact ⟨rfl, below_of hk⟩

theorem two_more (t k : Nat) : t * 2 ^ (k + 1) = t * 2 ^ k + t * 2 ^ k := by rw [Nat.pow_succ, ← Nat.mul_assoc]; omega
/-- How a host that asks goes on: behind i ticks. -/
def At (r t i k n : Nat) : Prop := k ≤ r ∧ n < t * 2 ^ k ∧ i + t = t * 2 ^ k + n
theorem at_more {r t i k n : Nat} (h : At r t i k n) (hn : n + 1 = t * 2 ^ k) (hk : k ≠ r) (ht : 1 ≤ t) : At r t (i + 1) (k + 1) 0 := by
  obtain ⟨h1, h2, h3⟩ := h
  have e := two_more t k
  have hp : 1 ≤ 2 ^ k := Nat.one_le_two_pow
  have : t * 1 ≤ t * 2 ^ k := Nat.mul_le_mul_left t hp
  exact ⟨by omega, by omega, by omega⟩
theorem at_lt {r t i k n : Nat} (h : At r t i k n) (hn : n + 1 < t * 2 ^ k) : At r t (i + 1) k (n + 1) := ⟨h.1, hn, by have := h.2.2; omega⟩
theorem at_end {r t i k n : Nat} (h : At r t i k n) (hn : n + 1 = t * 2 ^ k) (hk : k = r) : i + 1 + t = t * 2 ^ (r + 1) := by
  obtain ⟨h1, h2, h3⟩ := h
  subst hk
  have e := two_more t k
  omega
theorem at_still {r t i k n : Nat} (h : At r t i k n) : i + t < t * 2 ^ (r + 1) := by
  obtain ⟨h1, h2, h3⟩ := h
  have hp : 2 ^ (k + 1) ≤ 2 ^ (r + 1) := Nat.pow_le_pow_right (by decide) (by omega)
  have := Nat.mul_le_mul_left t hp
  have e := two_more t k
  omega

set_option maxHeartbeats 4000000 in
set_option maxRecDepth 100000 in
theorem hostWaits_in (r t : Nat) (hr : r ≤ 5) (h1 : 1 ≤ t) (h2 : t ≤ 20) (w : World) : Calls Try.prog 4 #[.int .i64 (r : Int), .int .i64 (t : Int)] w fun e w' => e = .returned (.bool true) ∧ Below w.heap.size w w' := by
  have Ha := hid alive_any
  have CK := hid (ck_A r t (by omega) h1 (by omega))
  have HN0 := hid (newA r t (by omega) h1 (by omega))
  have hp6 : 2 ^ (r + 1) ≤ 64 := Nat.pow_le_pow_right (n := 2) (by decide) (show r + 1 ≤ 6 by omega)
  have hp1 : 1 ≤ 2 ^ (r + 1) := Nat.one_le_two_pow
  have n1 : ¬ ((r : Int) < 0) := by omega
  have n2 : ¬ ((5 : Int) < (r : Int)) := by omega
  have n3 : ¬ ((t : Int) < 1) := by omega
  have n4 : ¬ ((20 : Int) < (t : Int)) := by omega
  obtain ⟨T, hT⟩ : ∃ T : Nat, T = t * (2 ^ (r + 1) - 1) := ⟨_, rfl⟩
  have hTT : T + t = t * 2 ^ (r + 1) := by
    rw [hT, Nat.mul_sub, Nat.mul_one]
    have := Nat.mul_le_mul_left t hp1
    omega
  have hTs : T ≤ 20 * 63 := by rw [hT]; exact Nat.mul_le_mul h2 (by omega)
  have hwt : wrap64 ((t : Int) * wrap64 (wrap64 (2 ^ (r + 1)) - 1)) = (T : Int) := by
    have e : ((2 : Int) ^ (r + 1)) = ((2 ^ (r + 1) : Nat) : Int) := by simp
    have e1 : wrap64 (((2 ^ (r + 1) : Nat) : Int)) = ((2 ^ (r + 1) : Nat) : Int) := by unfold wrap64; omega
    have e2 : wrap64 (((2 ^ (r + 1) : Nat) : Int) - 1) = ((2 ^ (r + 1) - 1 : Nat) : Int) := by unfold wrap64; omega
    have e3 : (t : Int) * ((2 ^ (r + 1) - 1 : Nat) : Int) = (T : Int) := by rw [hT]; push_cast; rfl
    rw [e, e1, e2, e3]
    unfold wrap64
    omega
  have hw1 : IntKind.i64.wrap ((r : Int) + 1) = ((r + 1 : Nat) : Int) := by rw [IntKind.wrap_i64]; omega
  have ht1 := h1
  clear h1 hT hp6 hp1
  go_enter Try.func4, Try.ntmps4
  go_wp2_with fail
  refine (HN0.out _).mono ?_
  rintro e w1 ⟨B, rfl, h1⟩
  clear HN0
  have H1 := hid h1
  clear h1
  go_wp2_with fail
  refine (H1.out.startBy CK.out.good0 CK.out.start0).mono ?_
  rintro e w2 ⟨p2, c2, rfl, h2⟩
  have H2 := hid (h2.sub (us := []) (fun p hp => by simp at hp))
  clear h2 H1
  go_wp2_with fail
  rw [hwt]
  clear hwt
  go_loopw [9, 7] (fun vi vn wr => ∃ (i k n : Nat) (c : Hs), vi = .int .i64 (i : Int) ∧ vn = .int .i64 ((k + 1 : Nat) : Int) ∧ Hid (HSt w wr B c [] ∧ ((At r t i k n ∧ c = hq m1 eB uB r t fA k n) ∨ (i = T ∧ k = r ∧ c = hfail m1 eB uB r t)))) (fun vi _ _ => T - (intOf vi).toNat)
  case atStart => exact ⟨0, 0, 0, _, rfl, rfl, H2.out, Or.inl ⟨⟨Nat.zero_le _, by simp; omega, by simp⟩, rfl⟩⟩
  case round =>
    obtain ⟨i, k, n, c, rfl, rfl, HI⟩ := hrel
    clear H2
    obtain ⟨hS, hc⟩ := HI.out
    clear HI
    rcases hc with ⟨hA, rfl⟩ | ⟨rfl, rfl, rfl⟩
    · have hst := at_still hA
      have hltz : (i : Int) < (T : Int) := by omega
      have hk10 : k + 1 < 100 := by have := hA.1; omega
      have HA := hid hA
      have HS := hid hS
      clear hA hS hst
      go_wp2_with fail
      refine (HS.out.stateBy (CK.out.good HA.out.1 HA.out.2.1) rfl (st := 1) (ss := 0) rfl rfl).mono ?_
      rintro e w3 ⟨rfl, h3⟩
      have H3 := hid (h3.still ((Kept.refl (fun _ => False) w3).alloc (.cells #[.int .u8 0, .int .u8 0, .int .u8 0, .int .u8 0, .int .u8 0, .int .u8 0] 23)))
      clear h3 HS
      by_cases hn : n + 1 < t * 2 ^ k
      · have R := hid (at_lt HA.out hn)
        have HT := hid (tick_lt (m := m1) (s := eB) (u := uB) (r := r) (f := fA) hn)
        clear hn
        go_wp2_with fail
        refine (H3.out.tickBy (CK.out.good HA.out.1 HA.out.2.1) HT.out).mono ?_
        rintro e w4 ⟨p4, c4, rfl, h4⟩
        have H4 := hid (h4.sub (us := []) (fun p hp => by simp at hp))
        clear h4 H3
        go_wp2
        go_roundw
        case rel => exact ⟨i + 1, k, n + 1, _, by go_num, by simp, H4.out, Or.inl ⟨R.out, rfl⟩⟩
        case measure => simp [intOf]; omega
      · have hne : n + 1 = t * 2 ^ k := by have := HA.out.2.1; omega
        by_cases hkr : k = r
        · have HT := hid (tick_last (m := m1) (s := eB) (u := uB) (f := fA) hne hkr)
          have hend := at_end HA.out hne hkr
          have R := hid (show i + 1 = T by omega)
          have HKR := hid hkr
          clear hne hkr hend hn
          go_wp2_with fail
          refine (H3.out.tickBy (CK.out.good HA.out.1 HA.out.2.1) HT.out).mono ?_
          rintro e w4 ⟨p4, c4, rfl, h4⟩
          have H4 := hid (h4.sub (us := []) (fun p hp => by simp at hp))
          clear h4 H3
          go_wp2
          go_roundw
          case rel => exact ⟨i + 1, k, 0, _, by go_num, by simp, H4.out, Or.inr ⟨R.out, HKR.out, rfl⟩⟩
          case measure => simp [intOf]; omega
        · have HT := hid (tick_more (m := m1) (s := eB) (u := uB) (f := fA) hne hkr)
          have R := hid (at_more HA.out hne hkr ht1)
          clear hne hkr hn
          go_wp2_with fail
          refine (H3.out.tickBy (CK.out.good HA.out.1 HA.out.2.1) HT.out).mono ?_
          rintro e w4 ⟨p4, c4, rfl, h4⟩
          have H4 := hid (h4.sub (us := []) (fun p hp => by simp at hp))
          clear h4 H3
          go_wp2
          go_roundw
          case rel => exact ⟨i + 1, k + 1, 0, _, by go_num, by go_num, H4.out, Or.inl ⟨R.out, rfl⟩⟩
          case measure => simp [intOf]; omega
    · have HS := hid hS
      clear hS
      go_wp2_with fail
      refine (HS.out.stateBy CK.out.goodF rfl (st := 4) (ss := 0) rfl rfl).mono ?_
      rintro e w3 ⟨rfl, h3⟩
      have H3 := hid (h3.still ((Kept.refl (fun _ => False) w3).alloc (.cells #[.int .u8 0, .int .u8 0, .int .u8 0, .int .u8 0, .int .u8 0, .int .u8 0] 23)))
      clear h3 HS
      go_wp2_with fail
      refine (Ha.out _).mono ?_
      rintro e w4 ⟨rfl, hk4⟩
      have H4 := hid (H3.out.still hk4)
      clear hk4 H3
      go_wp2_with fail
      refine (H4.out.tickBy CK.out.goodF tick_fail).mono ?_
      rintro e w5 ⟨p5, c5, rfl, h5⟩
      have H5 := hid h5
      clear h5 H4
      go_wp2_with fail
      refine (H5.out.startBy CK.out.goodF CK.out.startF).mono ?_
      rintro e w6 ⟨p6, c6, rfl, h6⟩
      have H6 := hid h6.kept
      clear h6 H5
      go_wp2
      go_ret
      exact ⟨by simp, below_of H6.out⟩

theorem hostWaits_walk (r t : Int) (w : World) (_ : -9223372036854775808 ≤ r ∧ r ≤ 9223372036854775807) (_ : -9223372036854775808 ≤ t ∧ t ≤ 9223372036854775807) : Calls Try.prog 4 #[.int .i64 r, .int .i64 t] w fun e w' => e = .returned (.bool true) ∧ Below w.heap.size w w' := by
  by_cases h : (decide (r < 0) || decide (5 < r) || decide (t < 1) || decide (20 < t)) = true
  · exact hostWaits_out r t h w
  · simp only [Bool.or_eq_true, decide_eq_true_eq, not_or, Int.not_lt] at h
    obtain ⟨⟨⟨h1, h2⟩, h3⟩, h4⟩ := h
    obtain ⟨n, rfl⟩ := Int.eq_ofNat_of_zero_le h1
    obtain ⟨k, rfl⟩ := Int.eq_ofNat_of_zero_le (show 0 ≤ t by omega)
    exact hostWaits_in n k (by omega) (by omega) (by omega) w
end Go.Proofs.Ythpgmfijameddaa
