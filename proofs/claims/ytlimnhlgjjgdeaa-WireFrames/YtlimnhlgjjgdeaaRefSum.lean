/- The contracts of tollgateref1's Fcs, Seal and Unseal: each returns what the plain functions say, for every string of at most 2^40 bytes. -/
import Derived.Test.YtlimnhlgjjgdeaaUnseal
namespace Go.Proofs.Ytlimnhlgjjgdeaa
open Go.RowKit

set_option maxHeartbeats 400000 in
theorem refFcs_any (s : ByteArray) (hs : s.size ≤ maxLen) (w : World) :
    Calls Try.prog 34 #[.string s] w fun e w' => e = .returned (.int .i64 (fcs s.data.toList : Int)) ∧ w' = w := by
  unfold maxLen at hs
  go_enter Try.func34, Try.ntmps34
  go_wp2
  go_loop [3, 4, 5, 6] (fun x i _ _ => ∃ k : Nat, k ≤ s.size ∧ i = .int .i64 (k : Int) ∧ x = .int .i64 (crcOn 65535 (s.data.toList.take k) : Int)) (fun _ i _ _ => s.size - (intOf i).toNat)
  case atStart => exact ⟨0, Nat.zero_le _, rfl, rfl⟩
  case round =>
    obtain ⟨k, hk, rfl, rfl⟩ := hrel
    have hx := crcOn_lt (x := 65535) (by decide) (s.data.toList.take k)
    by_cases hlt : k < s.size
    · have hb := s[k].toNat_lt
      have e1 := i64_xor_nat (crcOn 65535 (s.data.toList.take k)) s[k].toNat (by omega) (by omega)
      have hy := xor_byte_lt hx s[k]
      have HS : Hid (crcOn 65535 (s.data.toList.take (k + 1)) = crcN 8 (crcOn 65535 (s.data.toList.take k) ^^^ s[k].toNat)) := by rw [take_snoc s k hlt]; exact crcOn_snoc _ _ _
      generalize crcOn 65535 (s.data.toList.take k) ^^^ s[k].toNat = y at e1 hy HS
      go_wp2
      go_loop [3, 5, 6] (fun x i _ => ∃ m : Nat, m ≤ 8 ∧ i = .int .i64 (m : Int) ∧ x = .int .i64 (crcN m y : Int)) (fun _ i _ => 8 - (intOf i).toNat)
      case atStart => exact ⟨0, Nat.zero_le _, rfl, rfl⟩
      case round =>
        obtain ⟨m, hm, rfl, rfl⟩ := hrel
        have hz := crcN_lt hy m
        by_cases hm8 : m < 8
        · have e3 : bits .xor .i64 ((crcN m y : Int) / 2) 33800 = (((crcN m y) / 2 ^^^ 33800 : Nat) : Int) := i64_xor_nat ((crcN m y) / 2) 33800 (by omega) (by omega)
          have HC : Hid (crcN (m + 1) y = crc1 (crcN m y)) := rfl
          generalize crcN m y = z at e3 HC hz
          by_cases ho : z % 2 = 1
          · have HO := crc1_odd z ho
            have HC2 : Hid (crcN (m + 1) y = z / 2 ^^^ 33800) := HC.out.trans HO
            have e2 : ((z : Int) % 2 == 1) = true := by rw [beq_iff_eq]; omega
            clear HC HO ho
            go_wp2
            go_round
            case rel => exact ⟨m + 1, by omega, by go_num, by rw [HC2.out]⟩
            case measure => simp [intOf]; omega
          · have h0 : z % 2 = 0 := by omega
            have HO := crc1_even z h0
            have HC2 : Hid (crcN (m + 1) y = z / 2) := HC.out.trans HO
            have e2 : ((z : Int) % 2 == 1) = false := by rw [beq_eq_false_iff_ne]; omega
            clear HC HO ho h0
            go_wp2
            go_round
            case rel => exact ⟨m + 1, by omega, by go_num, by rw [HC2.out]; go_num⟩
            case measure => simp [intOf]; omega
        · obtain rfl : m = 8 := by omega
          go_wp2
          go_round
          case rel => exact ⟨k + 1, by omega, by go_num, by rw [HS.out]⟩
          case measure => simp [intOf]; omega
    · go_wp2
      go_ret
      refine ⟨ret_int ?_, rfl⟩
      have hl : s.data.toList.take k = s.data.toList := List.take_of_length_le (by simp; omega)
      rw [hl] at hx ⊢
      unfold fcs
      omega

set_option maxHeartbeats 400000 in
theorem refSeal_any (s : ByteArray) (hs : s.size ≤ 1099511627776) (w : World) :
    Calls Try.prog 29 #[.string s] w fun e w' => e = .returned (.string ⟨(sealF s.data.toList).toArray⟩) ∧ Below w.heap.size w w' := by
  have hf := fcs_lt s.data.toList
  have HF : Hid (∀ w, Calls Try.prog 34 #[.string s] w fun e w' => e = .returned (.int .i64 (fcs s.data.toList : Int)) ∧ w' = w) := fun w => refFcs_any s (by unfold maxLen; omega) w
  have HE : Hid ((⟨(sealF s.data.toList).toArray⟩ : ByteArray) = s ++ ⟨#[UInt8.ofNat (fcs s.data.toList % 256), UInt8.ofNat (fcs s.data.toList / 256)]⟩) := by
    apply ByteArray.ext
    apply Array.toList_inj.1
    simp [sealF]
  rw [HE.out]
  clear HE
  generalize fcs s.data.toList = f at hf HF
  go_enter Try.func29, Try.ntmps29
  go_wp2_with fail
  refine (HF.out _).mono ?_
  rintro e w1 ⟨rfl, rfl⟩
  have hcv : (convert 47 9 (.slice (some ⟨w1.heap.size, 0, none⟩) 2 2)).run Try.prog (w1.alloc (.cells #[.int .u8 ((f : Int) % 256), .int .u8 ((f : Int) / 256)] 5)) = _ := conv_two w1 (f % 256) (f / 256)
  go_wp2
  go_ret
  exact ⟨rfl, (Below.refl _ _).alloc (Nat.le_refl _) _⟩

theorem ret_bool {a b : Bool} (h : a = b) : Ending.returned (.bool a) = .returned (.bool b) := by rw [h]
theorem bytes_toList (s : ByteArray) : s.toList = s.data.toList := by
  obtain ⟨⟨l⟩⟩ := s
  simp
theorem bytes_beq (s t : ByteArray) : (s.toList == t.toList) = decide (s = t) := by
  rw [Bool.eq_iff_iff, beq_iff_eq, decide_eq_true_iff, bytes_toList, bytes_toList]
  exact ⟨fun h => ByteArray.ext (Array.toList_inj.1 h), fun h => by rw [h]⟩
theorem bytes_eq (l : List UInt8) (s : ByteArray) : (⟨l.toArray⟩ : ByteArray) = s ↔ l = s.data.toList := by
  constructor
  · intro h
    rw [← h]
  · intro h
    apply ByteArray.ext
    apply Array.toList_inj.1
    rw [← h]

set_option maxHeartbeats 400000 in
theorem refUnseal_any (s : ByteArray) (hs : s.size ≤ 1099511627776) (w : World) :
    Calls Try.prog 31 #[.string s] w fun e w' => e = .returned (.tuple #[.string ⟨(unsealF s.data.toList).1.toArray⟩, .int .i64 (unsealF s.data.toList).2]) ∧ Below w.heap.size w w' := by
  have hl : s.data.toList.length = s.size := (Lib.size_eq s).symm
  by_cases h2 : s.size < 2
  · have e : unsealF s.data.toList = ([], 5) := by unfold unsealF; rw [if_pos (by omega)]
    rw [e]
    clear e hl
    go_enter Try.func31, Try.ntmps31
    go_wp2
    go_ret2
    exact ⟨rfl, Below.refl _ _⟩
  have eu : unsealF s.data.toList = if sealF (s.data.toList.take (s.size - 2)) = s.data.toList then (s.data.toList.take (s.size - 2), 0) else ([], 6) := by
    unfold unsealF
    rw [if_neg (by omega), hl]
  have hd : (s.extract 0 (s.size - 2)).data.toList = s.data.toList.take (s.size - 2) := by rw [Lib.extract_data]; simp
  obtain ⟨x, hx⟩ : ∃ x : ByteArray, x = ⟨(sealF (s.data.toList.take (s.size - 2))).toArray⟩ := ⟨_, rfl⟩
  have HF : Hid (∀ w, Calls Try.prog 29 #[.string (s.extract 0 (s.size - 2))] w fun e w' => e = .returned (.string x) ∧ Below w.heap.size w w') := fun w => by
    have h := refSeal_any (s.extract 0 (s.size - 2)) (by rw [ByteArray.size_extract]; omega) w
    rw [hd, ← hx] at h
    exact h
  have hq : x = s ↔ sealF (s.data.toList.take (s.size - 2)) = s.data.toList := by rw [hx]; exact bytes_eq _ _
  have hxe : (⟨(s.data.toList.take (s.size - 2)).toArray⟩ : ByteArray) = s.extract 0 (s.size - 2) := by rw [bytes_eq, hd]
  have i3 := first_at s (s.size - 2) (by omega) ((s.size : Int) - 2) (by omega)
  by_cases hg : sealF (s.data.toList.take (s.size - 2)) = s.data.toList
  · rw [if_pos hg] at eu
    rw [eu]
    simp only [hxe]
    have hb : (x.toList == s.toList) = true := by rw [bytes_beq, decide_eq_true_iff]; exact hq.2 hg
    clear eu hd hx hq hxe hg hl
    go_enter Try.func31, Try.ntmps31
    go_wp2_with fail
    refine (HF.out _).mono ?_
    rintro e w1 ⟨rfl, hb1⟩
    go_wp2
    go_ret2
    exact ⟨rfl, hb1⟩
  · rw [if_neg hg] at eu
    rw [eu]
    have hb : (x.toList == s.toList) = false := by rw [bytes_beq, decide_eq_false_iff_not]; exact fun h => hg (hq.1 h)
    clear eu hd hx hq hxe hg hl
    go_enter Try.func31, Try.ntmps31
    go_wp2_with fail
    refine (HF.out _).mono ?_
    rintro e w1 ⟨rfl, hb1⟩
    go_wp2
    go_ret2
    exact ⟨rfl, hb1⟩
end Go.Proofs.Ytlimnhlgjjgdeaa
