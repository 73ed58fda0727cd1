/- The contracts of wire.Number and wire.Digits: what each returns, for every string (Number) and every int (Digits, where the library's table of powers holds what its text lays). -/
import Derived.Test.YtdceopnjokdblaaDoorDigPlain
import Derived.Test.YtdceopnjokdblaaDoorLayItoa
import Derived.Test.YtdceopnjokdblaaDoorPut
import Derived.Shelf.Strconv.Itoa3
import Derived.Lib.AppendIntMem
namespace Go.Proofs.YtdceopnjokdblaaDoor
open Go.RowKit

/-- The library's table of powers of ten. -/
def PowTab (w : World) : Prop := Lib.TabIs Tryd.prog w "internal/strconv.uint64pow10" .u64 Lib.pow10Tab

theorem byte0 (s : ByteArray) (h : 0 < s.size) : s.data.toList.getD 0 0 = s[0] := by
  rw [List.getD_eq_getElem?_getD, List.getElem?_eq_getElem (by simpa using h)]
  rfl

set_option maxHeartbeats 1000000 in
theorem number_no (s : ByteArray) (h : s.size < 1 ∨ 10 < s.size) (w : World) :
    Calls Tryd.prog 6 #[.string s] w fun e w' => e = .returned (.tuple #[.int .i64 0, .int .i64 1]) ∧ w' = w := by
  by_cases h1 : s.size < 1
  · clear h
    go_enter Tryd.func6, Tryd.ntmps6
    go_wp2
    go_ret2
    exact ⟨rfl, rfl⟩
  · have h2 : 10 < s.size := by omega
    clear h
    go_enter Tryd.func6, Tryd.ntmps6
    go_wp2
    go_ret2
    exact ⟨rfl, rfl⟩

set_option maxHeartbeats 1000000 in
theorem number_zero (s : ByteArray) (h1 : 1 < s.size) (h2 : s.size ≤ 10) (h0 : s[0].toNat = 48) (w : World) :
    Calls Tryd.prog 6 #[.string s] w fun e w' => e = .returned (.tuple #[.int .i64 0, .int .i64 1]) ∧ w' = w := by
  have hb : ((s[0].toNat : Int) == 48) = true := by rw [h0]; rfl
  clear h0
  go_enter Tryd.func6, Tryd.ntmps6
  go_wp2
  go_ret2
  exact ⟨rfl, rfl⟩

theorem number_bad (s : ByteArray) (h1 : 1 ≤ s.size) (h2 : s.size ≤ 10) (k : Nat) (hk : k < s.size) (hd : isDig s[k] = false) : numberF s.data.toList = (0, 1) := by
  have hl : s.data.toList.length = s.size := (Lib.size_eq s).symm
  have ha : s.data.toList.all isDig = false := by
    rw [List.all_eq_false]
    exact ⟨s[k], by simp [ByteArray.getElem_eq_getElem_data], by rw [hd]; decide⟩
  unfold numberF
  rw [if_neg (by omega)]
  split
  · rfl
  · rw [ha, if_neg (by decide)]

set_option maxHeartbeats 2000000 in
theorem number_scan (s : ByteArray) (h1 : 1 ≤ s.size) (h2 : s.size ≤ 10) (hz : zeroAhead s.data.toList = false) (w : World) :
    Calls Tryd.prog 6 #[.string s] w fun e w' => e = .returned (.tuple #[.int .i64 (numberF s.data.toList).1, .int .i64 (numberF s.data.toList).2]) ∧ w' = w := by
  have hl : s.data.toList.length = s.size := (Lib.size_eq s).symm
  have hb : ((s[0].toNat : Int) == 48) = false ∨ (((s[0].toNat : Int) == 48) = true ∧ s.size ≤ 1) := by
    unfold zeroAhead at hz
    rw [Bool.and_eq_false_iff, decide_eq_false_iff_not, decide_eq_false_iff_not, byte0 s (by omega), hl] at hz
    by_cases h : s[0] = 48
    · rcases hz with hz | hz
      · exact absurd h hz
      · exact Or.inr ⟨by rw [h]; rfl, by omega⟩
    · left
      rw [beq_eq_false_iff_ne]
      intro h3
      exact h (UInt8.toNat_inj.1 (by have : s[0].toNat = 48 := by omega
                                     rw [this]; rfl))
  have HBad := hide (fun (k : Nat) (hk : k < s.size) (hd : isDig s[k] = false) => number_bad s h1 h2 k hk hd)
  have HGood := hide (show s.data.toList.all isDig = true → numberF s.data.toList = ((decV s.data.toList : Int), 0) from fun ha => by
    unfold numberF
    rw [if_neg (by omega), hz, if_neg (by decide), ha, if_pos rfl])
  generalize numberF s.data.toList = R at HBad HGood ⊢
  clear hz
  rcases hb with hb | ⟨hb, hb2⟩
  all_goals
    go_enter Tryd.func6, Tryd.ntmps6
    go_wp2
    go_loop [4, 5, 26] (fun v _ i => ∃ k : Nat, k ≤ s.size ∧ i = .int .i64 (k : Int) ∧ v = .int .i64 (decV (s.data.toList.take k) : Int) ∧ (s.data.toList.take k).all isDig = true) (fun _ _ i => s.size - (intOf i).toNat)
    case atStart => exact ⟨0, Nat.zero_le _, rfl, rfl, rfl⟩
    case round =>
      obtain ⟨k, hk, rfl, rfl, hall⟩ := hrel
      have hlt10 := decV_lt _ hall
      have hle : (s.data.toList.take k).length ≤ 10 := by rw [List.length_take]; omega
      have hp : 10 ^ (s.data.toList.take k).length ≤ 10 ^ 10 := Nat.pow_le_pow_right (by decide) hle
      have hv10 : decV (s.data.toList.take k) < 10000000000 := by omega
      clear hp hle hlt10
      by_cases hlt : k < s.size
      · have hsn := take_snoc s k hlt
        have hb1 := s[k].toNat_lt
        have hV := decV_snoc (s.data.toList.take k) s[k]
        have hA := all_snoc (s.data.toList.take k) s[k]
        rw [← hsn] at hV hA
        rw [hall, Bool.true_and] at hA
        have HV := hide hV
        have HA := hide hA
        clear hV hA hsn hall
        by_cases c1 : s[k].toNat < 48
        · have HR := hide (HBad.out k hlt (by unfold isDig; simp; omega))
          clear HBad HGood
          go_wp2
          go_ret2
          exact ⟨by rw [HR.out]; rfl, rfl⟩
        · by_cases c2 : 57 < s[k].toNat
          · have HR := hide (HBad.out k hlt (by unfold isDig; simp; omega))
            clear HBad HGood
            go_wp2
            go_ret2
            exact ⟨by rw [HR.out]; rfl, rfl⟩
          · have HD := hide (show isDig s[k] = true by unfold isDig; simp; omega)
            have hsub : ((s[k].toNat - 48 : Nat) : Int) = (s[k].toNat : Int) - 48 := by omega
            generalize decV (s.data.toList.take k) = V at HV hv10
            go_wp2
            go_round
            case rel => exact ⟨k + 1, by omega, by go_num, by rw [HV.out]; go_num, by rw [HA.out]; exact HD.out⟩
            case measure => simp [intOf]; omega
      · have hfull : s.data.toList.take k = s.data.toList := List.take_of_length_le (by omega)
        rw [hfull] at hall hv10 ⊢
        have HR := hide (HGood.out hall)
        clear HBad HGood hall hfull
        generalize decV s.data.toList = V at HR hv10
        go_wp2
        go_ret2
        exact ⟨by rw [HR.out]; rfl, rfl⟩

theorem number_any (s : ByteArray) (w : World) :
    Calls Tryd.prog 6 #[.string s] w fun e w' => e = .returned (.tuple #[.int .i64 (numberF s.data.toList).1, .int .i64 (numberF s.data.toList).2]) ∧ w' = w := by
  have hl : s.data.toList.length = s.size := (Lib.size_eq s).symm
  by_cases h : s.size < 1 ∨ 10 < s.size
  · have e : numberF s.data.toList = (0, 1) := by unfold numberF; rw [hl, if_pos h]
    rw [e]
    exact number_no s h w
  · cases hz : zeroAhead s.data.toList with
    | true =>
      have e : numberF s.data.toList = (0, 1) := by unfold numberF; rw [hl, if_neg h, hz, if_pos rfl]
      rw [e]
      unfold zeroAhead at hz
      rw [Bool.and_eq_true, decide_eq_true_eq, decide_eq_true_eq, hl] at hz
      refine number_zero s hz.2 (by omega) ?_ w
      rw [← byte0 s (by omega), hz.1]
      rfl
    | false => exact number_scan s (by omega) (by omega) hz w

set_option maxHeartbeats 1000000 in
theorem digits_any (n : Int) (h0 : -9223372036854775808 ≤ n) (h1 : n ≤ 9223372036854775807) (w : World) (hT : PowTab w) :
    Calls Tryd.prog 10 #[.int .i64 n] w fun e w' => e = .returned (.string ⟨(Lib.itoa n).toArray⟩) ∧ Below w.heap.size w w' := by
  have H : Hid (Calls Tryd.prog 20 #[.int .i64 n] w fun e w' => e = .returned (.string ⟨(Lib.itoa n).toArray⟩) ∧ Below w.heap.size w w') :=
    (Any.strconv_Itoa itoaLays n h0 h1 w hT).mono fun e w' ⟨he, k, os, hw⟩ => ⟨he, by rw [hw]; exact Lib.below_grow _ w (Nat.le_refl _) k os⟩
  generalize (⟨(Lib.itoa n).toArray⟩ : ByteArray) = X at H
  clear hT
  go_enter Tryd.func10, Tryd.ntmps10
  go_wp2_with fail
  refine H.out.mono ?_
  rintro e w1 ⟨rfl, hb1⟩
  go_wp2
  go_ret
  exact ⟨rfl, hb1⟩
end Go.Proofs.YtdceopnjokdblaaDoor
