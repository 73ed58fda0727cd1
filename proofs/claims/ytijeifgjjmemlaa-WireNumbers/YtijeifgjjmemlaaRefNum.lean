/- The contracts of tollgateref1's power, Low, Put and Get: each returns what the plain functions say, within the bounds that stand in each theorem. -/
import Derived.Test.YtijeifgjjmemlaaPut
namespace Go.Proofs.Ytijeifgjjmemlaa
open Go.RowKit

theorem low_top (a j : Nat) : low a (j + 1) = UInt8.ofNat (a / 256 ^ j % 256) :: low a j := by
  induction j generalizing a with
  | zero => simp [low]
  | succ j ih =>
    have e := ih (a / 256)
    show low (a / 256) (j + 1) ++ [UInt8.ofNat (a % 256)] = UInt8.ofNat (a / 256 ^ (j + 1) % 256) :: (low (a / 256) j ++ [UInt8.ofNat (a % 256)])
    rw [e, Nat.div_div_eq_div_mul, show 256 * 256 ^ j = 256 ^ (j + 1) from by rw [Nat.pow_succ, Nat.mul_comm]]
    rfl
theorem low_set (a k j : Nat) (h : j < k) :
    (Lib.byteCells (List.replicate (k - j) 0 ++ low a j)).set (k - 1 - j) (.int .u8 ((a / 256 ^ j % 256 : Nat) : Int)) = Lib.byteCells (List.replicate (k - (j + 1)) 0 ++ low a (j + 1)) := by
  have e : List.replicate (k - j) (0 : UInt8) = List.replicate (k - (j + 1)) 0 ++ [0] := by
    rw [show k - j = k - (j + 1) + 1 from by omega, List.replicate_succ']
  rw [e, low_top, List.append_assoc, Lib.byteCells_append, List.set_append_right _ _ (by simp [Lib.byteCells]; omega), Lib.byteCells_append]
  have e2 : k - 1 - j - (Lib.byteCells (List.replicate (k - (j + 1)) 0)).length = 0 := by simp [Lib.byteCells]; omega
  rw [e2]
  congr 1
  simp [Lib.byteCells]
theorem made_zero (k : Nat) : (madeCells #[Value.int .u8 0] k).toList = Lib.byteCells (List.replicate k 0) := by
  rw [toList_madeCells_one]
  simp [Lib.byteCells]
theorem low_step {base g k j a : Nat} {w wr : World} (hb : base ≤ g) (hz : base ≤ wr.heap.size) (hj : j < k) (hbel : Below base w wr)
    (hown : wr.ownsRow base 5 1 (.slice (some ⟨g, 0, none⟩) k k) k (Lib.byteCells (List.replicate (k - j) 0 ++ low a j))) :
    (wr.setCell ⟨g, k - 1 - j, none⟩ (.int .u8 ((a / 256 ^ j % 256 : Nat) : Int))).ownsRow base 5 1 (.slice (some ⟨g, 0, none⟩) k k) k (Lib.byteCells (List.replicate (k - (j + 1)) 0 ++ low a (j + 1))) ∧
    Below base w (wr.setCell ⟨g, k - 1 - j, none⟩ (.int .u8 ((a / 256 ^ j % 256 : Nat) : Int))) := by
  have h := hown.stored (k - 1 - j) (.int .u8 ((a / 256 ^ j % 256 : Nat) : Int))
  rw [low_set a k j hj] at h
  exact ⟨h.1, hbel.grown h.2 hz (fun x hx => by simp at hx; omega)⟩

set_option maxHeartbeats 400000 in
theorem refLow_any (a : Nat) (_ha : a < 9223372036854775808) (k : Nat) (hk1 : 1 ≤ k) (hk : k ≤ 4) (w : World) :
    Calls Try.prog 35 #[.int .i64 (a : Int), .int .i64 (k : Int)] w fun e w' => e = .returned (.string ⟨(low a k).toArray⟩) ∧ Below w.heap.size w w' := by
  obtain ⟨i0, hi, hz0, hz1, hz2⟩ := info_parts info5
  go_enter Try.func35, Try.ntmps35
  go_wp2_with (at_make; refine wpList_make_full _ rfl _ _ 50 rfl w.heap.size 5 i0 (.int .u8 0) 1 Try.underlying50 hi hz0 hz1 .i64 .i64 _ _ k rfl rfl ?m0 ?m1 ?m2 ?m3 ?m4 ?_)
  case m0 => rfl
  case m1 => rfl
  case m2 => rw [hz2]; omega
  case m3 => unfold maxLen; omega
  case m4 => exact Nat.le_refl _
  intro w1 hown1 hg1
  have hb1 : Below w.heap.size w w1 := (Below.refl _ w).grown hg1 (Nat.le_refl _) (fun k hk => by cases hk)
  rw [made_zero] at hown1
  clear hg1
  go_wp2
  go_loopw [0, 6] (fun v i wr => ∃ j : Nat, j ≤ k ∧ v = .int .i64 ((a / 256 ^ j : Nat) : Int) ∧ i = .int .i64 ((k : Int) - 1 - j) ∧ wr.ownsRow w.heap.size 5 1 (.slice (some ⟨w.heap.size, 0, none⟩) k k) k (Lib.byteCells (List.replicate (k - j) 0 ++ low a j)) ∧ Below w.heap.size w wr)
    (fun _ i _ => (intOf i + 1).toNat)
  case atStart => exact ⟨0, Nat.zero_le _, by simp, by simp, by simpa [low] using hown1, hb1⟩
  case round =>
    obtain ⟨j, hj, rfl, rfl, hownr, hbel⟩ := hrel
    clear hown1 hb1
    have hle : a / 256 ^ j ≤ a := Nat.div_le_self _ _
    have HD : Hid (a / 256 ^ (j + 1) = a / 256 ^ j / 256) := by
      show a / 256 ^ (j + 1) = a / 256 ^ j / 256
      rw [Nat.div_div_eq_div_mul, Nat.pow_succ]
    by_cases hlt : j < k
    · have hc := hownr.cellAt (k - 1 - j) (by omega)
      have hf := hownr.frozenAt (k - 1 - j)
      obtain ⟨u, hu⟩ : ∃ u, (Lib.byteCells (List.replicate (k - j) 0 ++ low a j))[k - 1 - j]? = some u := by
        rw [List.getElem?_eq_getElem (by simp [Lib.byteCells, low_length]; omega)]
        exact ⟨_, rfl⟩
      rw [hu] at hc
      have R := low_step (Nat.le_refl _) hbel.size hlt hbel hownr
      generalize a / 256 ^ j = x at R hle HD
      clear hu hownr hbel
      have HR := hide R
      clear R
      go_wp2
      go_roundw
      case rel => exact ⟨j + 1, by omega, by rw [HD.out]; go_num, by go_num, HR.out.1, HR.out.2⟩
      case measure => simp [intOf]; omega
    · obtain rfl : j = k := by omega
      rw [Nat.sub_self, List.replicate_zero, List.nil_append] at hownr
      have hcv := put_conv hownr
      clear HD
      go_wp2
      go_ret
      exact ⟨rfl, hbel⟩

set_option maxHeartbeats 400000 in
theorem refPower_any (k : Nat) (hk : k ≤ 4) (w : World) :
    Calls Try.prog 34 #[.int .i64 (k : Int)] w fun e w' => e = .returned (.int .i64 ((256 ^ k : Nat) : Int)) ∧ w' = w := by
  go_enter Try.func34, Try.ntmps34
  go_wp2
  go_loop [3, 4] (fun p i => ∃ j : Nat, j ≤ k ∧ i = .int .i64 (j : Int) ∧ p = .int .i64 ((256 ^ j : Nat) : Int)) (fun _ i => k - (intOf i).toNat)
  case atStart => exact ⟨0, Nat.zero_le _, rfl, rfl⟩
  case round =>
    obtain ⟨j, hj, rfl, rfl⟩ := hrel
    have hp : 256 ^ j ≤ 256 ^ 4 := Nat.pow_le_pow_right (by decide) (by omega)
    have HD : Hid (256 ^ (j + 1) = 256 ^ j * 256) := hide (Nat.pow_succ 256 j)
    obtain ⟨x, hx⟩ : ∃ x, x = 256 ^ j := ⟨_, rfl⟩
    by_cases hlt : j < k
    · rw [← hx] at hp HD ⊢
      clear hx
      go_wp2
      go_round
      case rel => exact ⟨j + 1, by omega, by go_num, by rw [HD.out]; go_num⟩
      case measure => simp [intOf]; omega
    · obtain rfl : j = k := by omega
      clear hx HD hp
      go_wp2
      go_ret
      exact ⟨rfl, rfl⟩

set_option maxHeartbeats 400000 in
theorem refPut_no (v n : Int) (h : n < 1 ∨ 4 < n ∨ v < 0) (w : World) :
    Calls Try.prog 10 #[.int .i64 v, .int .i64 n] w fun e w' => e = .returned (.tuple #[.string ⟨#[]⟩, .int .i64 1]) ∧ w' = w := by
  by_cases h1 : n < 1
  · go_enter Try.func10, Try.ntmps10
    go_wp2
    go_ret2
    exact ⟨rfl, rfl⟩
  by_cases h4 : 4 < n
  · go_enter Try.func10, Try.ntmps10
    go_wp2
    go_ret2
    exact ⟨rfl, rfl⟩
  have h0 : v < 0 := by omega
  clear h
  go_enter Try.func10, Try.ntmps10
  go_wp2
  go_ret2
  exact ⟨rfl, rfl⟩

set_option maxHeartbeats 400000 in
theorem refPut_yes (a k : Nat) (hk1 : 1 ≤ k) (hk : k ≤ 4) (ha : a < 9223372036854775808) (w : World) :
    Calls Try.prog 10 #[.int .i64 (a : Int), .int .i64 (k : Int)] w fun e w' =>
      e = .returned (if a < 256 ^ k then .tuple #[.string ⟨(low a k).toArray⟩, .int .i64 0] else .tuple #[.string ⟨#[]⟩, .int .i64 1]) ∧ Below w.heap.size w w' := by
  have HP := hide (refPower_any k hk)
  have HL := hide (refLow_any a ha k hk1 hk)
  by_cases hlt : a < 256 ^ k
  · rw [if_pos hlt]
    generalize 256 ^ k = p at hlt HP
    go_enter Try.func10, Try.ntmps10
    go_wp2_with (first | (go_at_call 34; refine (HP.out _).mono ?_; rintro e w1 ⟨rfl, rfl⟩) | (go_at_call 35; refine (HL.out _).mono ?_; rintro e w2 ⟨rfl, hb2⟩))
    go_ret2
    exact ⟨rfl, by assumption⟩
  · rw [if_neg hlt]
    generalize 256 ^ k = p at hlt HP
    go_enter Try.func10, Try.ntmps10
    go_wp2_with (go_at_call 34; refine (HP.out _).mono ?_; rintro e w1 ⟨rfl, rfl⟩)
    go_ret2
    exact ⟨rfl, Below.refl _ _⟩

theorem refPut_any (v n : Int) (hv : v < 9223372036854775808) (w : World) :
    Calls Try.prog 10 #[.int .i64 v, .int .i64 n] w fun e w' => e = .returned (.tuple #[.string ⟨(putF v n).1.toArray⟩, .int .i64 (putF v n).2]) ∧ Below w.heap.size w w' := by
  by_cases h : 1 ≤ n ∧ n ≤ 4 ∧ 0 ≤ v
  · obtain ⟨h1, h4, h0⟩ := h
    obtain ⟨k, rfl⟩ := Int.eq_ofNat_of_zero_le (show 0 ≤ n by omega)
    obtain ⟨a, rfl⟩ := Int.eq_ofNat_of_zero_le h0
    refine (refPut_yes a k (by omega) (by omega) (by omega) w).mono ?_
    rintro e w' ⟨rfl, hb⟩
    refine ⟨?_, hb⟩
    by_cases hlt : a < 256 ^ k
    · have e : putF (a : Int) (k : Int) = (low a k, 0) := by
        unfold putF
        rw [if_pos ⟨h1, h4, h0, by rw [Int.toNat_natCast]; exact Int.ofNat_lt.2 hlt⟩]
        rfl
      rw [if_pos hlt, e]
    · have e : putF (a : Int) (k : Int) = ([], 1) := if_neg (fun hc => hlt (by have := hc.2.2.2; rw [Int.toNat_natCast] at this; exact Int.ofNat_lt.1 this))
      rw [if_neg hlt, e]
  · have e : putF v n = ([], 1) := if_neg (fun hc => h ⟨hc.1, hc.2.1, hc.2.2.1⟩)
    rw [e]
    refine (refPut_no v n (by omega) w).mono ?_
    rintro e w' ⟨rfl, rfl⟩
    exact ⟨rfl, Below.refl _ _⟩

set_option maxHeartbeats 400000 in
theorem refGet_no (s : ByteArray) (a n : Int) (h : n < 1 ∨ 4 < n ∨ a < 0) (w : World) :
    Calls Try.prog 12 #[.string s, .int .i64 a, .int .i64 n] w fun e w' => e = .returned (.tuple #[.int .i64 0, .int .i64 1]) ∧ w' = w := by
  by_cases h1 : n < 1
  · go_enter Try.func12, Try.ntmps12
    go_wp2
    go_ret2
    exact ⟨rfl, rfl⟩
  by_cases h4 : 4 < n
  · go_enter Try.func12, Try.ntmps12
    go_wp2
    go_ret2
    exact ⟨rfl, rfl⟩
  have h0 : a < 0 := by omega
  go_enter Try.func12, Try.ntmps12
  go_wp2
  go_ret2
  exact ⟨rfl, rfl⟩

set_option maxHeartbeats 400000 in
theorem refGet_short (s : ByteArray) (_hs : s.size ≤ maxLen) (a n : Int) (h1 : 1 ≤ n) (h4 : n ≤ 4) (h0 : 0 ≤ a) (hl : (s.size : Int) < a + n) (w : World) :
    Calls Try.prog 12 #[.string s, .int .i64 a, .int .i64 n] w fun e w' => e = .returned (.tuple #[.int .i64 0, .int .i64 5]) ∧ w' = w := by
  unfold maxLen at _hs
  by_cases hc : (s.size : Int) < a
  · go_enter Try.func12, Try.ntmps12
    go_wp2
    go_ret2
    exact ⟨rfl, rfl⟩
  · have hl2 : (s.size : Int) - a < n := by omega
    go_enter Try.func12, Try.ntmps12
    go_wp2
    go_ret2
    exact ⟨rfl, rfl⟩

set_option maxHeartbeats 400000 in
theorem refGet_yes (s : ByteArray) (hs : s.size ≤ maxLen) (a n : Nat) (hn1 : 1 ≤ n) (hn : n ≤ 4) (hle : a + n ≤ s.size) (w : World) :
    Calls Try.prog 12 #[.string s, .int .i64 (a : Int), .int .i64 (n : Int)] w fun e w' => e = .returned (.tuple #[.int .i64 (numOf ((s.data.toList.drop a).take n) : Int), .int .i64 0]) ∧ w' = w := by
  unfold maxLen at hs
  have t1 : decide ((n : Int) < 1) = false := decide_eq_false (by omega)
  have t2 : decide (4 < (n : Int)) = false := decide_eq_false (by omega)
  have t3 : decide ((a : Int) < 0) = false := decide_eq_false (by omega)
  have t4 : decide (s.size < a) = false := decide_eq_false (by omega)
  have t5 : decide ((s.size : Int) - (a : Int) < (n : Int)) = false := decide_eq_false (by omega)
  go_enter Try.func12, Try.ntmps12
  go_wp2
  go_loop [8, 9] (fun v i => ∃ j : Nat, j ≤ n ∧ i = .int .i64 (j : Int) ∧ v = .int .i64 (numOf ((s.data.toList.drop a).take j) : Int)) (fun _ i => n - (intOf i).toNat)
  case atStart => exact ⟨0, Nat.zero_le _, rfl, rfl⟩
  case round =>
    obtain ⟨j, hj, rfl, rfl⟩ := hrel
    have hl := numOf_lt ((s.data.toList.drop a).take j)
    have hle4 : ((s.data.toList.drop a).take j).length ≤ 4 := by simp; omega
    have hp : 256 ^ ((s.data.toList.drop a).take j).length ≤ 256 ^ 4 := Nat.pow_le_pow_right (by decide) hle4
    have hlt4 : numOf ((s.data.toList.drop a).take j) < 4294967296 := by omega
    by_cases hlt : j < n
    · have hb := s[a + j].toNat_lt
      have HS : Hid (numOf ((s.data.toList.drop a).take (j + 1)) = numOf ((s.data.toList.drop a).take j) * 256 + s[a + j].toNat) := by
        have e : (s.data.toList.drop a).take (j + 1) = (s.data.toList.drop a).take j ++ [s[a + j]] := by
          rw [List.take_succ_eq_append_getElem (by simp; omega), List.getElem_drop]
          rfl
        show numOf _ = _
        rw [e, numOf_snoc]
      clear hl hle4 hp
      generalize numOf ((s.data.toList.drop a).take j) = x at HS hlt4
      go_wp2
      go_round
      case rel => exact ⟨j + 1, by omega, by go_num, by rw [HS.out]; go_num⟩
      case measure => simp [intOf]; omega
    · obtain rfl : j = n := by omega
      go_wp2
      go_ret2
      exact ⟨rfl, rfl⟩

theorem refGet_any (s : ByteArray) (hs : s.size ≤ maxLen) (a n : Int) (w : World) :
    Calls Try.prog 12 #[.string s, .int .i64 a, .int .i64 n] w fun e w' => e = .returned (.tuple #[.int .i64 ((getF s.data.toList a n).1 : Int), .int .i64 (getF s.data.toList a n).2]) ∧ w' = w := by
  by_cases h : 1 ≤ n ∧ n ≤ 4 ∧ 0 ≤ a
  · by_cases hl : a + n ≤ s.data.toList.length
    · have e : getF s.data.toList a n = (numOf ((s.data.toList.drop a.toNat).take n.toNat), 0) := by unfold getF; rw [if_pos h, if_pos hl]
      rw [e]
      obtain ⟨h1, h4, h0⟩ := h
      obtain ⟨k, rfl⟩ := Int.eq_ofNat_of_zero_le (show 0 ≤ n by omega)
      obtain ⟨b, rfl⟩ := Int.eq_ofNat_of_zero_le h0
      rw [← Lib.size_eq] at hl
      exact refGet_yes s hs b k (by omega) (by omega) (by omega) w
    · have e : getF s.data.toList a n = (0, 5) := by unfold getF; rw [if_pos h, if_neg hl]
      rw [e]
      rw [← Lib.size_eq] at hl
      exact refGet_short s hs a n h.1 h.2.1 h.2.2 (by omega) w
  · have e : getF s.data.toList a n = (0, 1) := if_neg h
    rw [e]
    exact refGet_no s a n (by omega) w
end Go.Proofs.Ytijeifgjjmemlaa
