/- The contracts of chap's calls on bytes: isSize, isLong, lay, PutValue, GetValue; for every strings of at most 2^47 bytes. -/
import Derived.Test.YtndpfcanfcbldaaDoorCaPlain
import Derived.Test.YtndpfcanfcbldaaDoorTagKit
import Derived.Test.YtndpfcanfcbldaaDoorClone
import Derived.Deep.RegionWith
namespace Go.Proofs.YtndpfcanfcbldaaDoor
open Go.RowKit

theorem ca_has {s : ByteArray} (h : s.size ≠ 0) : s.toList.isEmpty = false := by
  rw [List.isEmpty_eq_false_iff]
  intro e
  rw [ByteArray.toList_eq] at e
  exact h (by rw [Lib.size_eq, e]; rfl)

def sizeB (n : Int) : Bool := decide (1 ≤ n) && decide (n ≤ 60)

set_option maxRecDepth 100000 in
theorem caSize_any (n : Int) (w : World) : Calls Tryd.prog 25 #[.int .i64 n] w fun e w' => e = .returned (.bool (sizeB n)) ∧ w' = w := by
  unfold sizeB
  by_cases h1 : 1 ≤ n
  · by_cases h2 : n ≤ 60
    · rw [show (decide (1 ≤ n) && decide (n ≤ 60)) = true by simp [h1, h2]]
      go_enter Tryd.func25, Tryd.ntmps25
      go_wp2
      go_ret
      exact ⟨rfl, rfl⟩
    · rw [show (decide (1 ≤ n) && decide (n ≤ 60)) = false by simp [h2]]
      go_enter Tryd.func25, Tryd.ntmps25
      go_wp2
      go_ret
      exact ⟨rfl, rfl⟩
  · rw [show (decide (1 ≤ n) && decide (n ≤ 60)) = false by simp [h1]]
    go_enter Tryd.func25, Tryd.ntmps25
    go_wp2
    go_ret
    exact ⟨rfl, rfl⟩
theorem sizeB_no {n : Int} (h : n < 1 ∨ 60 < n) : sizeB n = false := by
  unfold sizeB
  rcases h with h | h
  · simp [show ¬ 1 ≤ n by omega]
  · simp [show ¬ n ≤ 60 by omega]
theorem sizeB_yes {n : Int} (h1 : 1 ≤ n) (h2 : n ≤ 60) : sizeB n = true := by simp [sizeB, h1, h2]

set_option maxRecDepth 100000 in
theorem caLong_any (t : ByteArray) (ht : t.size ≤ 140737488351232) (w : World) : Calls Tryd.prog 26 #[.string t] w fun e w' => e = .returned (.bool (longB t)) ∧ w' = w := by
  cases h : longB t with
  | true =>
    have h' : (60 : Int) < (t.size : Int) := by have := longB_yes h; omega
    clear h
    go_enter Tryd.func26, Tryd.ntmps26
    go_wp2
    go_ret
    exact ⟨rfl, rfl⟩
  | false =>
    have h' : ¬ (60 : Int) < (t.size : Int) := by have := longB_no h; omega
    clear h
    go_enter Tryd.func26, Tryd.ntmps26
    go_wp2
    go_ret
    exact ⟨rfl, rfl⟩

set_option maxRecDepth 100000 in
theorem caLay_any (v n : ByteArray) (hv : v.size ≤ 60) (hn : n.size ≤ 60) (w : World) : Calls Tryd.prog 27 #[.string v, .string n] w fun e w' => e = .returned (.string (layF v ++ n)) ∧ Kept (fun _ => False) w w' := by
  have hown : (w.alloc (.cells #[.int .u8 (v.size : Int)] 5)).ownsRow w.heap.size 5 1 (.slice (some ⟨w.heap.size, 0, none⟩) 1 1) 1 (Lib.byteCells [UInt8.ofNat v.size]) := by
    have e : Lib.byteCells [UInt8.ofNat v.size] = [Value.int .u8 (v.size : Int)] := by simp [Lib.byteCells]; omega
    rw [e]
    exact ⟨rfl, Or.inr ⟨w.heap.size, 1, #[.int .u8 (v.size : Int)], rfl, Nat.le_refl _, heap_alloc_new w _, Nat.le_refl _, by unfold maxLen; omega, rfl, rfl⟩⟩
  have hcv := put_conv hown
  have hwr : (v.size : Int) % 256 = (v.size : Int) := by omega
  have z1 : (⟨[UInt8.ofNat v.size].toArray⟩ : ByteArray).size = 1 := rfl
  have hno : ¬ (9223372036854775807 < (⟨[UInt8.ofNat v.size].toArray⟩ : ByteArray).size + v.size) := by omega
  have hno2 : ¬ (9223372036854775807 < ((⟨[UInt8.ofNat v.size].toArray⟩ : ByteArray) ++ v).size + n.size) := by rw [ByteArray.size_append]; omega
  unfold layF
  clear z1
  generalize (⟨[UInt8.ofNat v.size].toArray⟩ : ByteArray) = X at *
  clear hown
  go_enter Tryd.func27, Tryd.ntmps27
  go_wp2
  go_ret
  exact ⟨rfl, (Kept.refl _ w).alloc _⟩

set_option maxHeartbeats 400000 in
set_option maxRecDepth 100000 in
theorem putVal_any (v n : ByteArray) (hv : v.size ≤ 140737488351232) (hn : n.size ≤ 140737488351232) (w : World) :
    Calls Tryd.prog 8 #[.string v, .string n] w fun e w' => e = .returned (.tuple #[.string (putValF v n).1, .int .i64 (putValF v n).2]) ∧ Kept (fun _ => False) w w' := by
  have L1 := hid (caSize_any (v.size : Int))
  have L2 := hid (caLong_any n hn)
  unfold putValF
  by_cases h1 : v.size < 1 ∨ 60 < v.size
  · rw [if_pos h1]
    rw [sizeB_no (by omega)] at L1
    clear h1
    go_enter Tryd.func8, Tryd.ntmps8
    go_wp2_with fail
    refine (L1.out _).mono ?_
    rintro e w1 ⟨rfl, rfl⟩
    go_wp2
    go_ret2
    exact ⟨rfl, Kept.refl _ _⟩
  · rw [if_neg h1]
    rw [sizeB_yes (by omega) (by omega)] at L1
    by_cases h2 : 60 < n.size
    · rw [if_pos h2]
      rw [show longB n = true by simp [longB, h2]] at L2
      clear h1 h2
      go_enter Tryd.func8, Tryd.ntmps8
      go_wp2_with fail
      refine (L1.out _).mono ?_
      rintro e w1 ⟨rfl, rfl⟩
      go_wp2_with fail
      refine (L2.out _).mono ?_
      rintro e w1 ⟨rfl, rfl⟩
      go_wp2
      go_ret2
      exact ⟨rfl, Kept.refl _ _⟩
    · rw [if_neg h2]
      rw [show longB n = false by simp [longB]; omega] at L2
      have A1 := hid (caLay_any v n (by omega) (by omega))
      clear h1 h2
      generalize layF v ++ n = X at *
      go_enter Tryd.func8, Tryd.ntmps8
      go_wp2_with fail
      refine (L1.out _).mono ?_
      rintro e w1 ⟨rfl, rfl⟩
      go_wp2_with fail
      refine (L2.out _).mono ?_
      rintro e w1 ⟨rfl, rfl⟩
      go_wp2_with fail
      refine (A1.out _).mono ?_
      rintro e w1 ⟨rfl, hk1⟩
      go_wp2
      go_ret2
      exact ⟨rfl, hk1⟩

set_option maxHeartbeats 1000000 in
set_option maxRecDepth 100000 in
theorem getVal_any (b : ByteArray) (hb : b.size ≤ 140737488351232) (w : World) :
    Calls Tryd.prog 10 #[.string b] w fun e w' => e = .returned (.tuple #[.string (getValF b).1, .string (getValF b).2.1, .int .i64 (getValF b).2.2]) ∧ Kept (fun _ => False) w w' := by
  unfold getValF
  by_cases h0 : b.size = 0
  · obtain rfl := str_nil b h0
    rw [if_pos h0]
    clear h0
    go_enter Tryd.func10, Tryd.ntmps10
    go_wp2
    go_ret3
    exact ⟨rfl, Kept.refl _ _⟩
  · rw [if_neg h0]
    have hne := ca_has h0
    have hne0 : ¬ b.toList = [] := by rw [← List.isEmpty_iff, hne]; simp
    have x0 := index_at b 0 (by omega) 0 rfl
    have x1 := last_at b 1 (by omega) 1 rfl
    have bA := (b.data.toList.getD 0 0).toNat_lt
    generalize (b.data.toList.getD 0 0).toNat = n at *
    have hwB : IntKind.i64.wrap (n : Int) = (n : Int) := by rw [IntKind.wrap_i64]; omega
    have hsz : (b.extract 1 b.size).size = b.size - 1 := by rw [ByteArray.size_extract]; omega
    have L1 := hid (caSize_any (n : Int))
    by_cases h1 : n < 1 ∨ 60 < n
    · rw [if_pos h1]
      rw [sizeB_no (by omega)] at L1
      clear h0 h1
      go_enter Tryd.func10, Tryd.ntmps10
      go_wp2
      go_region
      all_goals
        go_wp2_with fail
        refine (L1.out _).mono ?_
        rintro e w1 ⟨rfl, hw⟩
        rw [hw]
        clear hw w1
        go_wp2
        go_ret3
        exact ⟨rfl, (Kept.refl _ _).drew⟩
    · rw [if_neg h1]
      rw [sizeB_yes (by omega) (by omega)] at L1
      by_cases h2 : b.size < 1 + n
      · rw [if_pos h2]
        generalize b.extract 1 b.size = Y at *
        have h2z : (Y.size : Int) < (n : Int) := by omega
        clear h0 hsz h1 h2
        go_enter Tryd.func10, Tryd.ntmps10
        go_wp2
        go_region
        all_goals
          go_wp2_with fail
          refine (L1.out _).mono ?_
          rintro e w1 ⟨rfl, hw⟩
          rw [hw]
          clear hw w1
          go_wp2
          go_ret3
          exact ⟨rfl, (Kept.refl _ _).drew⟩
      · rw [if_neg h2]
        have e1 : (b.extract 1 b.size).extract 0 n = b.extract 1 (1 + n) := by
          apply bytes_ext
          simp only [Lib.extract_data, Nat.sub_zero, List.drop_zero, List.take_take]
          congr 1
          omega
        have e2 : (b.extract 1 b.size).extract n (b.extract 1 b.size).size = b.extract (1 + n) b.size := by
          apply bytes_ext
          rw [sub_data, sub_data, sub_data, List.drop_drop]
        have y1 := first_at (b.extract 1 b.size) n (by omega) (n : Int) rfl
        have y2 := last_at (b.extract 1 b.size) n (by omega) (n : Int) rfl
        rw [e1] at y1
        rw [e2] at y2
        have zR : (b.extract (1 + n) b.size).size = b.size - 1 - n := by rw [ByteArray.size_extract]; omega
        have HC := hid (clone_any (b.extract 1 (1 + n)) · (by rw [ByteArray.size_extract]; omega))
        have HD := hid (clone_any (b.extract (1 + n) b.size) · (by rw [ByteArray.size_extract]; omega))
        have L2 := hid (caLong_any (b.extract (1 + n) b.size) (by omega))
        generalize b.extract 1 b.size = Y at *
        generalize b.extract 1 (1 + n) = P at *
        generalize b.extract (1 + n) b.size = R at *
        have h2z : ¬ (Y.size : Int) < (n : Int) := by omega
        by_cases h3 : 61 + n < b.size
        · rw [if_pos h3]
          rw [show longB R = true by simp [longB]; omega] at L2
          clear h0 hsz e1 e2 zR h1 h2 h3 HC HD
          go_enter Tryd.func10, Tryd.ntmps10
          go_wp2
          go_region
          all_goals
            go_wp2_with fail
            refine (L1.out _).mono ?_
            rintro e w1 ⟨rfl, hw⟩
            rw [hw]
            clear hw w1
            go_wp2
            go_region
            all_goals
              go_wp2_with fail
              refine (L2.out _).mono ?_
              rintro e w1 ⟨rfl, hw⟩
              rw [hw]
              clear hw w1
              go_wp2
              go_ret3
              exact ⟨rfl, (Kept.refl _ _).drew.drew⟩
        · rw [if_neg h3]
          rw [show longB R = false by simp [longB]; omega] at L2
          clear h0 hsz e1 e2 zR h1 h2 h3
          have D1 := (Kept.refl (fun _ => False) w).drew.drew
          go_enter Tryd.func10, Tryd.ntmps10
          go_wp2
          go_region
          all_goals
            go_wp2_with fail
            refine (L1.out _).mono ?_
            rintro e w1 ⟨rfl, hw⟩
            rw [hw]
            clear hw w1
            go_wp2
            go_region
            all_goals
              go_wp2_with fail
              refine (L2.out _).mono ?_
              rintro e w1 ⟨rfl, hw⟩
              rw [hw]
              clear hw w1
              go_wp2_with fail
              refine (HC.out _).mono ?_
              rintro e3 w3 ⟨rfl, hk3⟩
              go_wp2_with fail
              refine (HD.out _).mono ?_
              rintro e4 w4 ⟨rfl, hk4⟩
              go_wp2
              go_ret3
              exact ⟨rfl, (D1.trans (kept_of hk3)).trans (kept_of hk4)⟩
end Go.Proofs.YtndpfcanfcbldaaDoor
