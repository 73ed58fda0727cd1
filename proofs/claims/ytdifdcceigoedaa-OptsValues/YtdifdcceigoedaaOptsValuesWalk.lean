/- The law OptsValues: it returns true for every bytes and every byte, and leaves what was there. -/
import Derived.Test.YtdifdcceigoedaaOpArgs
namespace Go.Proofs.Ytdifdcceigoedaa
open Go.RowKit

theorem one_convO (W : World) (x : UInt8) :
    (convert 42 9 (.slice (some ⟨W.heap.size, 0, none⟩) 1 1)).run Try.prog (W.alloc (.cells #[.int .u8 (x.toNat : Int)] 5)) = .ok (.string ⟨#[x]⟩) (W.alloc (.cells #[.int .u8 (x.toNat : Int)] 5)) := by
  have hb := run_convert_bytes_arg (P := Try.prog) (W.alloc (.cells #[.int .u8 (x.toNat : Int)] 5)) 42 5 Try.underlying42 Try.underlying5 W.heap.size 0 1 1 [(x.toNat : Int)] rfl (fun i hi => by
    rw [Nat.zero_add, cell_of_row _ _ i _ _ _ (heap_alloc_new W _)]
    obtain rfl : i = 0 := by omega
    rfl) 9 Try.underlying9
  rw [hb]
  congr 2
  apply ByteArray.ext
  apply Array.toList_inj.1
  rw [strOfNums_data]
  simp

theorem valueF_snoc (l : List UInt8) (c : UInt8) (h : l.length < 7) : valueF (l ++ [c]) = (numOf l * 256 + c.toNat, true) := by
  unfold valueF
  rw [List.length_append, if_neg (by simp; omega), numOf_snoc]
theorem valueF_no (l : List UInt8) (h : 7 < l.length) : valueF l = (0, false) := by unfold valueF; rw [if_pos h]
theorem valueF_yes (l : List UInt8) (h : l.length ≤ 7) : valueF l = (numOf l, true) := by unfold valueF; rw [if_neg (by omega)]
theorem num7 (l : List UInt8) (h : l.length ≤ 7) : numOf l < 72057594037927936 := by
  have h1 := numOf_lt l
  have : 256 ^ l.length ≤ 256 ^ 7 := Nat.pow_le_pow_right (by decide) h
  omega

set_option maxHeartbeats 2000000 in
set_option maxRecDepth 100000 in
theorem optsValues_walk (s : ByteArray) (c : Int) (w : World) (hs : s.size ≤ 140737488351232) (hc : (Lit.int .u8 c).wf = true) :
    Calls Try.prog 6 #[.string s, .int .u8 c] w fun e w' => e = .returned (.bool true) ∧ Below w.heap.size w w' := by
  obtain ⟨C, rfl⟩ : ∃ C : UInt8, c = (C.toNat : Int) := by
    have h := bounds_u8 hc
    exact ⟨UInt8.ofNat c.toNat, by simp; omega⟩
  have Ha := hid aliveO_any
  have hl : s.data.toList.length = s.size := (Lib.size_eq s).symm
  have HV1 := hid (value_any s (by unfold maxLen; omega))
  have hsz2 : (s ++ ⟨#[C]⟩ : ByteArray).size = s.size + 1 := by rw [ByteArray.size_append]; rfl
  have HV2 := hid (value_any (s ++ ⟨#[C]⟩) (by rw [hsz2]; unfold maxLen; omega))
  have e2 : (s ++ ⟨#[C]⟩ : ByteArray).data.toList = s.data.toList ++ [C] := by rw [ByteArray.data_append]; simp
  rw [e2] at HV2
  have hcv := one_convO w C
  have hno : ¬ (9223372036854775807 < s.size + 1) := by omega
  have HK := hid ((Kept.refl (fun _ => False) w).alloc (.cells #[.int .u8 (C.toNat : Int)] 5))
  by_cases h7 : 7 < s.size
  · rw [valueF_no _ (by omega)] at HV1
    rw [valueF_no _ (by rw [List.length_append]; omega)] at HV2
    have h7z : (7 : Int) < (s.size : Int) := by omega
    clear e2 hl hsz2 hc
    go_enter Try.func6, Try.ntmps6
    go_wp2_with fail
    refine (HV1.out _).mono ?_
    rintro e1 w1 ⟨rfl, rfl⟩
    go_wp2_with fail
    refine (HV2.out _).mono ?_
    rintro e1 w2 ⟨rfl, rfl⟩
    go_wp2_with fail
    refine (Ha.out _).mono ?_
    rintro e1 w3 ⟨rfl, hk3⟩
    have HK3 := hid (HK.out.trans hk3)
    clear hk3
    go_wp2
    go_ret
    exact ⟨rfl, below_of HK3.out⟩
  · rw [valueF_yes _ (by omega)] at HV1
    have h7z : ¬ (7 : Int) < (s.size : Int) := by omega
    have hN := num7 s.data.toList (by omega)
    have hC := C.toNat_lt
    by_cases h6 : s.size = 7
    · rw [valueF_no _ (by rw [List.length_append]; simp; omega)] at HV2
      have h6z : ¬ (s.size : Int) < 7 := by omega
      have H6 : Hid (decide ((s.size : Int) < 7) = false) := decide_eq_false h6z
      clear e2 hl hsz2 hc h6
      generalize numOf s.data.toList = N at *
      go_enter Try.func6, Try.ntmps6
      go_wp2_with fail
      refine (HV1.out _).mono ?_
      rintro e1 w1 ⟨rfl, rfl⟩
      go_wp2_with fail
      refine (HV2.out _).mono ?_
      rintro e1 w2 ⟨rfl, rfl⟩
      go_wp2_with fail
      refine (Ha.out _).mono ?_
      rintro e1 w3 ⟨rfl, hk3⟩
      have HK3 := hid (HK.out.trans hk3)
      clear hk3
      go_wp2
      go_ret
      exact ⟨by show Ending.returned (Value.bool (!decide ((s.size : Int) < 7))) = _; rw [H6.out]; rfl, below_of HK3.out⟩
    · rw [valueF_snoc _ _ (by omega)] at HV2
      have h6z : (s.size : Int) < 7 := by omega
      have hN6 : numOf s.data.toList < 281474976710656 := by
        have h1 := numOf_lt s.data.toList
        have : 256 ^ s.data.toList.length ≤ 256 ^ 6 := Nat.pow_le_pow_right (by decide) (by omega)
        omega
      clear e2 hl hsz2 hc
      generalize numOf s.data.toList = N at *
      have HEQ : Hid (∀ D : Int, ((N : Int) * 256 + D == 256 * (N : Int) + D) = true) := fun D => by rw [beq_iff_eq]; omega
      generalize hD : (C.toNat : Int) = D at *
      go_enter Try.func6, Try.ntmps6
      go_wp2_with fail
      refine (HV1.out _).mono ?_
      rintro e1 w1 ⟨rfl, rfl⟩
      go_wp2_with fail
      refine (HV2.out _).mono ?_
      rintro e1 w2 ⟨rfl, rfl⟩
      go_wp2_with fail
      refine (Ha.out _).mono ?_
      rintro e1 w3 ⟨rfl, hk3⟩
      have HK3 := hid (HK.out.trans hk3)
      clear hk3
      go_wp2
      go_ret
      exact ⟨by show Ending.returned (Value.bool ((N : Int) * 256 + D == 256 * (N : Int) + D)) = _; rw [HEQ.out], below_of HK3.out⟩
end Go.Proofs.Ytdifdcceigoedaa
