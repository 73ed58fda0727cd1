/- The contracts of the document's own Low, Two and Num (tollgateref1), at a seat without package wire. -/
import Derived.Test.YtffnppfoofifgaaGreatTagKit
namespace Go.Proofs.YtffnppfoofifgaaGreat
open Go.RowKit

theorem low_top (a j : Nat) : low a (j + 1) = UInt8.ofNat (a / 256 ^ j % 256) :: low a j := by
  induction j generalizing a with
  | zero => simp [low]
  | succ j ih =>
    have e := ih (a / 256)
    show low (a / 256) (j + 1) ++ [UInt8.ofNat (a % 256)] = UInt8.ofNat (a / 256 ^ (j + 1) % 256) :: (low (a / 256) j ++ [UInt8.ofNat (a % 256)])
    rw [e, Nat.div_div_eq_div_mul, show 256 * 256 ^ j = 256 ^ (j + 1) from by rw [Nat.pow_succ, Nat.mul_comm]]
    rfl
theorem low_set (a k j : Nat) (h : j < k) :
    (Lib.byteCells (List.replicate (k - j) 0 ++ low a j)).set (k - 1 - j) (.int .u8 ((a / 256 ^ j % 256 : Nat) : Int)) = Lib.byteCells (List.replicate (k - (j + 1)) 0 ++ low a (j + 1)) := by
  have e : List.replicate (k - j) (0 : UInt8) = List.replicate (k - (j + 1)) 0 ++ [0] := by
    rw [show k - j = k - (j + 1) + 1 from by omega, List.replicate_succ']
  rw [e, low_top, List.append_assoc, Lib.byteCells_append, List.set_append_right _ _ (by simp [Lib.byteCells]; omega), Lib.byteCells_append]
  have e2 : k - 1 - j - (Lib.byteCells (List.replicate (k - (j + 1)) 0)).length = 0 := by simp [Lib.byteCells]; omega
  rw [e2]
  congr 1
  simp [Lib.byteCells]
theorem made_zero (k : Nat) : (madeCells #[Value.int .u8 0] k).toList = Lib.byteCells (List.replicate k 0) := by
  rw [toList_madeCells_one]
  simp [Lib.byteCells]
theorem low_step {base g k j a : Nat} {w wr : World} (hb : base ≤ g) (hz : base ≤ wr.heap.size) (hj : j < k) (hbel : Below base w wr)
    (hown : wr.ownsRow base 5 1 (.slice (some ⟨g, 0, none⟩) k k) k (Lib.byteCells (List.replicate (k - j) 0 ++ low a j))) :
    (wr.setCell ⟨g, k - 1 - j, none⟩ (.int .u8 ((a / 256 ^ j % 256 : Nat) : Int))).ownsRow base 5 1 (.slice (some ⟨g, 0, none⟩) k k) k (Lib.byteCells (List.replicate (k - (j + 1)) 0 ++ low a (j + 1))) ∧
    Below base w (wr.setCell ⟨g, k - 1 - j, none⟩ (.int .u8 ((a / 256 ^ j % 256 : Nat) : Int))) := by
  have h := hown.stored (k - 1 - j) (.int .u8 ((a / 256 ^ j % 256 : Nat) : Int))
  rw [low_set a k j hj] at h
  exact ⟨h.1, hbel.grown h.2 hz (fun x hx => by simp at hx; omega)⟩

set_option maxHeartbeats 1000000 in
set_option maxRecDepth 100000 in
theorem refLow_any (a : Nat) (_ha : a < 9223372036854775808) (k : Nat) (hk1 : 1 ≤ k) (hk : k ≤ 4) (w : World) :
    Calls Tryz.prog 123 #[.int .i64 (a : Int), .int .i64 (k : Int)] w fun e w' => e = .returned (.string ⟨(low a k).toArray⟩) ∧ Below w.heap.size w w' := by
  obtain ⟨i0, hi, hz0, hz1, hz2⟩ := info_parts info5
  go_enter Tryz.func123, Tryz.ntmps123
  go_wp2_with (at_make; refine wpList_make_full _ rfl _ _ 227 rfl w.heap.size 5 i0 (.int .u8 0) 1 Tryz.underlying227 hi hz0 hz1 .i64 .i64 _ _ k rfl rfl ?m0 ?m1 ?m2 ?m3 ?m4 ?_)
  case m0 => rfl
  case m1 => rfl
  case m2 => rw [hz2]; omega
  case m3 => unfold maxLen; omega
  case m4 => exact Nat.le_refl _
  intro w1 hown1 hg1
  have hb1 : Below w.heap.size w w1 := (Below.refl _ w).grown hg1 (Nat.le_refl _) (fun k hk => by cases hk)
  rw [made_zero] at hown1
  clear hg1
  go_wp2
  go_loopw [0, 6] (fun v i wr => ∃ j : Nat, j ≤ k ∧ v = .int .i64 ((a / 256 ^ j : Nat) : Int) ∧ i = .int .i64 ((k : Int) - 1 - j) ∧ wr.ownsRow w.heap.size 5 1 (.slice (some ⟨w.heap.size, 0, none⟩) k k) k (Lib.byteCells (List.replicate (k - j) 0 ++ low a j)) ∧ Below w.heap.size w wr)
    (fun _ i _ => (intOf i + 1).toNat)
  case atStart => exact ⟨0, Nat.zero_le _, by simp, by simp, by simpa [low] using hown1, hb1⟩
  case round =>
    obtain ⟨j, hj, rfl, rfl, hownr, hbel⟩ := hrel
    clear hown1 hb1
    have hle : a / 256 ^ j ≤ a := Nat.div_le_self _ _
    have HD : Hid (a / 256 ^ (j + 1) = a / 256 ^ j / 256) := by
      show a / 256 ^ (j + 1) = a / 256 ^ j / 256
      rw [Nat.div_div_eq_div_mul, Nat.pow_succ]
    by_cases hlt : j < k
    · have hc := hownr.cellAt (k - 1 - j) (by omega)
      have hf := hownr.frozenAt (k - 1 - j)
      obtain ⟨u, hu⟩ : ∃ u, (Lib.byteCells (List.replicate (k - j) 0 ++ low a j))[k - 1 - j]? = some u := by
        rw [List.getElem?_eq_getElem (by simp [Lib.byteCells, low_length]; omega)]
        exact ⟨_, rfl⟩
      rw [hu] at hc
      have R := low_step (Nat.le_refl _) hbel.size hlt hbel hownr
      generalize a / 256 ^ j = x at R hle HD
      clear hu hownr hbel
      have HR := hide R
      clear R
      go_wp2
      go_roundw
      case rel => exact ⟨j + 1, by omega, by rw [HD.out]; go_num, by go_num, HR.out.1, HR.out.2⟩
      case measure => simp [intOf]; omega
    · obtain rfl : j = k := by omega
      rw [Nat.sub_self, List.replicate_zero, List.nil_append] at hownr
      have hcv := put_conv hownr
      clear HD
      go_wp2
      go_ret
      exact ⟨rfl, hbel⟩

set_option maxHeartbeats 1000000 in
set_option maxRecDepth 100000 in
theorem refTwo_any (a : Nat) (ha : a ≤ 65535) (w : World) :
    Calls Tryz.prog 124 #[.int .i64 (a : Int)] w fun e w' => e = .returned (.string ⟨(low a 2).toArray⟩) ∧ Below w.heap.size w w' := by
  have H := hide (refLow_any a (by omega) 2 (by decide) (by decide))
  generalize (⟨(low a 2).toArray⟩ : ByteArray) = L at H
  go_enter Tryz.func124, Tryz.ntmps124
  go_wp2_with fail
  refine (H.out _).mono ?_
  rintro e w1 ⟨rfl, hb1⟩
  go_wp2
  go_ret
  exact ⟨rfl, hb1⟩
end Go.Proofs.YtffnppfoofifgaaGreat
