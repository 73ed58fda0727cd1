/- The contracts of pap's calls on bytes: isLong, lay, PutReq, first, only, GetReq, PutSay, GetSay; for every strings of at most 2^47 bytes. -/
import Derived.Test.YtifkiiplknkgnaaGreatPaPlain
import Derived.Test.YtifkiiplknkgnaaGreatTagKit
import Derived.Test.YtifkiiplknkgnaaGreatClone
import Derived.Deep.RegionWith
namespace Go.Proofs.YtifkiiplknkgnaaGreat
open Go.RowKit

theorem str_has {s : ByteArray} (h : s.size ≠ 0) : s.toList.isEmpty = false := by
  rw [List.isEmpty_eq_false_iff]
  intro e
  rw [ByteArray.toList_eq] at e
  exact h (by rw [Lib.size_eq, e]; rfl)

set_option maxRecDepth 100000 in
theorem isLong_any (t : ByteArray) (ht : t.size ≤ 140737488351232) (w : World) : Calls Tryz.prog 104 #[.string t] w fun e w' => e = .returned (.bool (longB t)) ∧ w' = w := by
  cases h : longB t with
  | true =>
    have h' : (60 : Int) < (t.size : Int) := by have := longB_yes h; omega
    clear h
    go_enter Tryz.func104, Tryz.ntmps104
    go_wp2
    go_ret
    exact ⟨rfl, rfl⟩
  | false =>
    have h' : ¬ (60 : Int) < (t.size : Int) := by have := longB_no h; omega
    clear h
    go_enter Tryz.func104, Tryz.ntmps104
    go_wp2
    go_ret
    exact ⟨rfl, rfl⟩

set_option maxRecDepth 100000 in
theorem lay_any (t : ByteArray) (ht : t.size ≤ 60) (w : World) : Calls Tryz.prog 31 #[.string t] w fun e w' => e = .returned (.string (layF t)) ∧ Kept (fun _ => False) w w' := by
  have hown : (w.alloc (.cells #[.int .u8 (t.size : Int)] 5)).ownsRow w.heap.size 5 1 (.slice (some ⟨w.heap.size, 0, none⟩) 1 1) 1 (Lib.byteCells [UInt8.ofNat t.size]) := by
    have e : Lib.byteCells [UInt8.ofNat t.size] = [Value.int .u8 (t.size : Int)] := by simp [Lib.byteCells]; omega
    rw [e]
    exact ⟨rfl, Or.inr ⟨w.heap.size, 1, #[.int .u8 (t.size : Int)], rfl, Nat.le_refl _, heap_alloc_new w _, Nat.le_refl _, by unfold maxLen; omega, rfl, rfl⟩⟩
  have hcv := put_conv hown
  have hwr : (t.size : Int) % 256 = (t.size : Int) := by omega
  have hno : ¬ (9223372036854775807 < (⟨[UInt8.ofNat t.size].toArray⟩ : ByteArray).size + t.size) := by
    have : (⟨[UInt8.ofNat t.size].toArray⟩ : ByteArray).size = 1 := rfl
    omega
  unfold layF
  generalize (⟨[UInt8.ofNat t.size].toArray⟩ : ByteArray) = X at *
  clear hown
  go_enter Tryz.func31, Tryz.ntmps31
  go_wp2
  go_ret
  exact ⟨rfl, (Kept.refl _ w).alloc _⟩

set_option maxHeartbeats 400000 in
set_option maxRecDepth 100000 in
theorem putReq_any (n s : ByteArray) (hn : n.size ≤ 140737488351232) (hs : s.size ≤ 140737488351232) (w : World) :
    Calls Tryz.prog 22 #[.string n, .string s] w fun e w' => e = .returned (.tuple #[.string (putReqF n s).1, .int .i64 (putReqF n s).2]) ∧ Kept (fun _ => False) w w' := by
  have L1 := hid (isLong_any n hn)
  have L2 := hid (isLong_any s hs)
  unfold putReqF
  cases h1 : longB n with
  | true =>
    rw [h1] at L1
    rw [if_pos (by rfl)]
    go_enter Tryz.func22, Tryz.ntmps22
    go_wp2_with fail
    refine (L1.out _).mono ?_
    rintro e w1 ⟨rfl, rfl⟩
    go_wp2
    go_ret2
    exact ⟨rfl, Kept.refl _ _⟩
  | false =>
    rw [h1] at L1
    cases h2 : longB s with
    | true =>
      rw [h2] at L2
      rw [if_pos (by rfl)]
      go_enter Tryz.func22, Tryz.ntmps22
      go_wp2_with fail
      refine (L1.out _).mono ?_
      rintro e w1 ⟨rfl, rfl⟩
      go_wp2_with fail
      refine (L2.out _).mono ?_
      rintro e w1 ⟨rfl, rfl⟩
      go_wp2
      go_ret2
      exact ⟨rfl, Kept.refl _ _⟩
    | false =>
      rw [h2] at L2
      rw [if_neg (by simp)]
      have A1 := hid (lay_any n (longB_no h1))
      have A2 := hid (lay_any s (longB_no h2))
      have hno : ¬ (9223372036854775807 < (layF n).size + (layF s).size) := by rw [layF_size, layF_size]; omega
      clear h1 h2
      generalize layF n = X at *
      generalize layF s = Y at *
      go_enter Tryz.func22, Tryz.ntmps22
      go_wp2_with fail
      refine (L1.out _).mono ?_
      rintro e w1 ⟨rfl, rfl⟩
      go_wp2_with fail
      refine (L2.out _).mono ?_
      rintro e w1 ⟨rfl, rfl⟩
      go_wp2_with fail
      refine (A1.out _).mono ?_
      rintro e w1 ⟨rfl, hk1⟩
      go_wp2_with fail
      refine (A2.out _).mono ?_
      rintro e w2 ⟨rfl, hk2⟩
      go_wp2
      go_ret2
      exact ⟨rfl, hk1.trans hk2⟩


set_option maxHeartbeats 1000000 in
set_option maxRecDepth 100000 in
theorem first_any (b : ByteArray) (hb : b.size ≤ 140737488351232) (w : World) :
    Calls Tryz.prog 105 #[.string b] w fun e w' => e = .returned (.tuple #[.string (firstF b).1, .string (firstF b).2.1, .int .i64 (firstF b).2.2]) ∧ Kept (fun _ => False) w w' := by
  unfold firstF
  by_cases h0 : b.size = 0
  · obtain rfl := str_nil b h0
    rw [if_pos h0]
    clear h0
    go_enter Tryz.func105, Tryz.ntmps105
    go_wp2
    go_ret3
    exact ⟨rfl, Kept.refl _ _⟩
  · rw [if_neg h0]
    have hne := str_has h0
    have hne0 : ¬ b.toList = [] := by rw [← List.isEmpty_iff, hne]; simp
    have x0 := index_at b 0 (by omega) 0 rfl
    have x1 := last_at b 1 (by omega) 1 rfl
    have bA := (b.data.toList.getD 0 0).toNat_lt
    generalize (b.data.toList.getD 0 0).toNat = n at *
    have hwB : IntKind.i64.wrap (n : Int) = (n : Int) := by rw [IntKind.wrap_i64]; omega
    have hsz : (b.extract 1 b.size).size = b.size - 1 := by rw [ByteArray.size_extract]; omega
    by_cases h1 : 60 < n
    · rw [if_pos h1]
      have h1z : (60 : Int) < (n : Int) := by omega
      clear h0
      go_enter Tryz.func105, Tryz.ntmps105
      go_wp2
      go_region
      all_goals
        go_wp2
        go_ret3
        exact ⟨rfl, (Kept.refl _ _).drew⟩
    · rw [if_neg h1]
      have h1z : ¬ (60 : Int) < (n : Int) := by omega
      by_cases h2 : b.size < 1 + n
      · rw [if_pos h2]
        generalize b.extract 1 b.size = Y at *
        have h2z : (Y.size : Int) < (n : Int) := by omega
        clear h0 hsz
        go_enter Tryz.func105, Tryz.ntmps105
        go_wp2
        go_region
        all_goals
          go_wp2
          go_ret3
          exact ⟨rfl, (Kept.refl _ _).drew⟩
      · rw [if_neg h2]
        have e1 : (b.extract 1 b.size).extract 0 n = b.extract 1 (1 + n) := by
          apply bytes_ext
          simp only [Lib.extract_data, Nat.sub_zero, List.drop_zero, List.take_take]
          congr 1
          omega
        have e2 : (b.extract 1 b.size).extract n (b.extract 1 b.size).size = b.extract (1 + n) b.size := by
          apply bytes_ext
          rw [sub_data, sub_data, sub_data, List.drop_drop]
        have y1 := first_at (b.extract 1 b.size) n (by omega) (n : Int) rfl
        have y2 := last_at (b.extract 1 b.size) n (by omega) (n : Int) rfl
        rw [e1] at y1
        rw [e2] at y2
        have HC := hid (clone_any (b.extract 1 (1 + n)) · (by rw [ByteArray.size_extract]; omega))
        generalize b.extract 1 b.size = Y at *
        generalize b.extract 1 (1 + n) = P at *
        generalize b.extract (1 + n) b.size = R at *
        have h2z : ¬ (Y.size : Int) < (n : Int) := by omega
        clear h0 hsz e1 e2
        have D1 := (Kept.refl (fun _ => False) w).drew.drew
        go_enter Tryz.func105, Tryz.ntmps105
        go_wp2
        go_region
        go_wp2_with fail
        go_region_with (go_at_call 146; refine (HC.out _).mono ?_; rintro e3 w3 ⟨rfl, hk3⟩)
        all_goals
          go_wp2
          go_ret3
          exact ⟨rfl, D1.trans (kept_of hk3)⟩

set_option maxHeartbeats 400000 in
set_option maxRecDepth 100000 in
theorem only_any (b : ByteArray) (hb : b.size ≤ 140737488351232) (w : World) :
    Calls Tryz.prog 106 #[.string b] w fun e w' => e = .returned (.tuple #[.string (onlyF b).1, .int .i64 (onlyF b).2]) ∧ Kept (fun _ => False) w w' := by
  have HF := hid (first_any b hb w)
  unfold onlyF
  obtain ⟨R, hR⟩ : ∃ R, R = firstF b := ⟨_, rfl⟩
  rw [← hR] at HF ⊢
  clear hR
  obtain ⟨t, r, E⟩ := R
  simp only at HF ⊢
  by_cases h1 : E = 0
  · subst h1
    rw [if_neg (by simp)]
    by_cases h2 : r.size = 0
    · rw [if_neg (by simp [h2])]
      obtain rfl := str_nil r h2
      clear h2
      go_enter Tryz.func106, Tryz.ntmps106
      go_wp2_with fail
      refine HF.out.mono ?_
      rintro e w1 ⟨rfl, hk1⟩
      go_wp2
      go_ret2
      exact ⟨rfl, hk1⟩
    · rw [if_pos h2]
      have hne := str_has h2
      have hne0 : ¬ r.toList = [] := by rw [← List.isEmpty_iff, hne]; simp
      clear h2
      go_enter Tryz.func106, Tryz.ntmps106
      go_wp2_with fail
      refine HF.out.mono ?_
      rintro e w1 ⟨rfl, hk1⟩
      go_wp2
      go_ret2
      exact ⟨rfl, hk1⟩
  · rw [if_pos h1]
    have hE : (E != 0) = true := by simpa using h1
    clear h1
    go_enter Tryz.func106, Tryz.ntmps106
    go_wp2_with fail
    refine HF.out.mono ?_
    rintro e w1 ⟨rfl, hk1⟩
    go_wp2
    go_ret2
    exact ⟨rfl, hk1⟩

set_option maxHeartbeats 400000 in
set_option maxRecDepth 100000 in
theorem getReq_any (b : ByteArray) (hb : b.size ≤ 140737488351232) (w : World) :
    Calls Tryz.prog 23 #[.string b] w fun e w' => e = .returned (.tuple #[.string (getReqF b).1, .string (getReqF b).2.1, .int .i64 (getReqF b).2.2]) ∧ Kept (fun _ => False) w w' := by
  have HF := hid (first_any b hb w)
  have HO := hid (only_any (firstF b).2.1 (by have := (firstF_size b).2; omega))
  unfold getReqF
  obtain ⟨R, hR⟩ : ∃ R, R = firstF b := ⟨_, rfl⟩
  rw [← hR] at HF HO ⊢
  clear hR
  obtain ⟨t, r, E⟩ := R
  simp only at HF HO ⊢
  generalize onlyF r = Q at *
  obtain ⟨x, F⟩ := Q
  simp only at HO ⊢
  by_cases h1 : E = 0
  · subst h1
    rw [if_neg (by simp)]
    by_cases h2 : F = 0
    · subst h2
      rw [if_neg (by simp)]
      go_enter Tryz.func23, Tryz.ntmps23
      go_wp2_with fail
      refine HF.out.mono ?_
      rintro e w1 ⟨rfl, hk1⟩
      go_wp2_with fail
      refine (HO.out _).mono ?_
      rintro e w2 ⟨rfl, hk2⟩
      go_wp2
      go_ret3
      exact ⟨rfl, hk1.trans hk2⟩
    · rw [if_pos h2]
      have hE : (F != 0) = true := by simpa using h2
      clear h2
      go_enter Tryz.func23, Tryz.ntmps23
      go_wp2_with fail
      refine HF.out.mono ?_
      rintro e w1 ⟨rfl, hk1⟩
      go_wp2_with fail
      refine (HO.out _).mono ?_
      rintro e w2 ⟨rfl, hk2⟩
      go_wp2
      go_ret3
      exact ⟨rfl, hk1.trans hk2⟩
  · rw [if_pos h1]
    have hE : (E != 0) = true := by simpa using h1
    clear h1
    go_enter Tryz.func23, Tryz.ntmps23
    go_wp2_with fail
    refine HF.out.mono ?_
    rintro e w1 ⟨rfl, hk1⟩
    go_wp2
    go_ret3
    exact ⟨rfl, hk1⟩

end Go.Proofs.YtifkiiplknkgnaaGreat
