/- The contract of package digest's Same: it tells whether two strings are the same, for every two. -/
import Derived.Test.YtmbdjgfbhblifaaDoorPlain
import Derived.Test.YtmbdjgfbhblifaaDoorProg
import Derived.Lib.Walk
import Derived.Lib.Strings
import Derived.Lib.SmallJoins
import Derived.BigCall
namespace Go.Proofs.YtmbdjgfbhblifaaDoor
open Go.RowKit

set_option maxRecDepth 100000 in
theorem xor_zero (a b : Nat) : a ^^^ b = 0 ↔ a = b := by
  constructor
  · intro h
    have h2 := congrArg (a ^^^ ·) h
    simp only [← Nat.xor_assoc, Nat.xor_self, Nat.zero_xor, Nat.xor_zero] at h2
    exact h2.symm
  · rintro rfl
    exact Nat.xor_self a
set_option maxRecDepth 100000 in
theorem same_step (a b : ByteArray) (k x : Nat) (h1 : k < a.size) (h2 : k < b.size) (h : x = 0 ↔ a.data.toList.take k = b.data.toList.take k) :
    (x ||| (a[k].toNat ^^^ b[k].toNat) = 0 ↔ a.data.toList.take (k + 1) = b.data.toList.take (k + 1)) := by
  have e1 : a.data.toList.take (k + 1) = a.data.toList.take k ++ [a[k]] := by rw [List.take_succ_eq_append_getElem (by simpa using h1)]; rfl
  have e2 : b.data.toList.take (k + 1) = b.data.toList.take k ++ [b[k]] := by rw [List.take_succ_eq_append_getElem (by simpa using h2)]; rfl
  rw [e1, e2, Nat.or_eq_zero_iff, h, xor_zero]
  constructor
  · rintro ⟨h3, h4⟩
    rw [h3, UInt8.toNat_inj.1 h4]
  · intro h3
    have h4 := List.append_inj h3 (by simp; omega)
    exact ⟨h4.1, by rw [List.cons.inj h4.2 |>.1]⟩

set_option maxRecDepth 100000 in
set_option maxHeartbeats 400000 in
/-- 'Same(a, b)'. -/
theorem same_any (a b : ByteArray) (ha : a.size ≤ maxLen) (w : World) :
    Calls Tryd.prog 24 #[.string a, .string b] w fun e w' => e = .returned (.bool (decide (a.data.toList = b.data.toList))) ∧ Below w.heap.size w w' := by
  unfold maxLen at ha
  by_cases hs : a.size = b.size
  · have hs1 : a.size ≤ b.size := by omega
    have hs2 : b.size ≤ a.size := by omega
    have h0 : ((a.size : Int) != (b.size : Int)) = false := by rw [hs]; simp
    clear hs
    go_enter Tryd.func24, Tryd.ntmps24
    go_wp2
    go_loopw [5, 6, 14] (fun v _ i wr => ∃ k x : Nat, k ≤ a.size ∧ x < 256 ∧ i = .int .i64 (k : Int) ∧ v = .int .u8 (x : Int) ∧ (x = 0 ↔ a.data.toList.take k = b.data.toList.take k) ∧ Below w.heap.size w wr) (fun _ _ i _ => a.size - (intOf i).toNat)
    case atStart => exact ⟨0, 0, Nat.zero_le _, by decide, rfl, rfl, by simp, Below.refl _ _⟩
    case round =>
      obtain ⟨k, x, hk, hx, rfl, rfl, hiff, hb⟩ := hrel
      by_cases hlt : k < a.size
      · have hlt2 : k < b.size := by omega
        have hb1 := a[k].toNat_lt
        have hb2 := b[k].toNat_lt
        have hy : a[k].toNat ^^^ b[k].toNat < 256 := Nat.xor_lt_two_pow (n := 8) (by omega) (by omega)
        have hz : x ||| (a[k].toNat ^^^ b[k].toNat) < 256 := Nat.or_lt_two_pow (n := 8) (by omega) hy
        have e1 := u8_xor_nat a[k].toNat b[k].toNat (by omega) (by omega)
        have e2 := u8_or_nat x (a[k].toNat ^^^ b[k].toNat) (by omega) hy
        have HS := hide (same_step a b k x hlt (by omega) hiff)
        have HZ := hide hz
        clear hiff hz hy
        go_wp2
        go_region
        go_wp2
        go_roundw
        case rel => exact ⟨k + 1, _, by omega, HZ.out, by go_num, rfl, HS.out, hb.drew⟩
        case measure => simp [intOf]; omega
      · have hd : ((x : Int) == 0) = decide (a.data.toList = b.data.toList) := by
          rw [List.take_of_length_le (by simp; omega), List.take_of_length_le (by simp; omega)] at hiff
          rw [Bool.eq_iff_iff]
          simp [← hiff]
        go_wp2
        go_ret
        exact ⟨congrArg (fun t => Ending.returned (Value.bool t)) (show decide (a.data = b.data) = decide (a.data.toList = b.data.toList) by rw [decide_eq_decide]; exact Array.toList_inj.symm), hb⟩
  · have hd : decide (a.data.toList = b.data.toList) = false := by
      rw [decide_eq_false_iff_not]
      intro h
      apply hs
      have h2 := congrArg List.length h
      simpa using h2
    have h0 : ((a.size : Int) != (b.size : Int)) = true := by simp; omega
    rw [hd]
    clear hd hs
    go_enter Tryd.func24, Tryd.ntmps24
    go_wp2
    go_ret
    exact ⟨rfl, Below.refl _ _⟩
end Go.Proofs.YtmbdjgfbhblifaaDoor
