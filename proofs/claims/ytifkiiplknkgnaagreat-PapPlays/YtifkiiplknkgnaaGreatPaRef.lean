/- The contracts of the document's own PutReq, piece, GetReq, PutSay, GetSay (tollgateref13). -/
import Derived.Test.YtifkiiplknkgnaaGreatPaBytes
import Derived.Test.YtifkiiplknkgnaaGreatTagRefOne
namespace Go.Proofs.YtifkiiplknkgnaaGreat
open Go.RowKit

theorem paLow (t : ByteArray) (h : t.size ≤ 60) : (⟨(low t.size 1).toArray⟩ : ByteArray) = ⟨[UInt8.ofNat t.size].toArray⟩ := by
  simp [low, Nat.mod_eq_of_lt (show t.size < 256 by omega)]
theorem low1_any (t : ByteArray) (h : t.size ≤ 60) (w : World) : Calls Tryz.prog 147 #[.int .i64 (t.size : Int), .int .i64 1] w fun e w' => e = .returned (.string ⟨[UInt8.ofNat t.size].toArray⟩) ∧ Kept (fun _ => False) w w' := by
  refine (refLow_any t.size (by omega) 1 (by decide) (by decide) w).mono ?_
  rintro e w' ⟨rfl, hb⟩
  rw [paLow t h]
  exact ⟨rfl, kept_of hb⟩

set_option maxHeartbeats 400000 in
set_option maxRecDepth 100000 in
theorem rPutReq_any (n s : ByteArray) (hn : n.size ≤ 140737488351232) (hs : s.size ≤ 140737488351232) (w : World) :
    Calls Tryz.prog 107 #[.string n, .string s] w fun e w' => e = .returned (.tuple #[.string (putReqF n s).1, .int .i64 (putReqF n s).2]) ∧ Kept (fun _ => False) w w' := by
  unfold putReqF
  cases h1 : longB n with
  | true =>
    rw [if_pos (by rfl)]
    have h1z : (60 : Int) < (n.size : Int) := by have := longB_yes h1; omega
    clear h1
    go_enter Tryz.func107, Tryz.ntmps107
    go_wp2
    go_ret2
    exact ⟨rfl, Kept.refl _ _⟩
  | false =>
    have h1z : ¬ (60 : Int) < (n.size : Int) := by have := longB_no h1; omega
    cases h2 : longB s with
    | true =>
      rw [if_pos (by rfl)]
      have h2z : (60 : Int) < (s.size : Int) := by have := longB_yes h2; omega
      clear h1 h2
      go_enter Tryz.func107, Tryz.ntmps107
      go_wp2
      go_ret2
      exact ⟨rfl, Kept.refl _ _⟩
    | false =>
      rw [if_neg (by simp)]
      have h2z : ¬ (60 : Int) < (s.size : Int) := by have := longB_no h2; omega
      have n6 := longB_no h1
      have s6 := longB_no h2
      have A1 := hid (low1_any n n6)
      have A2 := hid (low1_any s s6)
      have e : layF n ++ layF s = ⟨[UInt8.ofNat n.size].toArray⟩ ++ n ++ ⟨[UInt8.ofNat s.size].toArray⟩ ++ s := by
        unfold layF
        apply bytes_ext
        simp [ByteArray.data_append]
      rw [e]
      have z1 : (⟨[UInt8.ofNat n.size].toArray⟩ : ByteArray).size = 1 := rfl
      have z2 : (⟨[UInt8.ofNat s.size].toArray⟩ : ByteArray).size = 1 := rfl
      have o1 : ¬ (9223372036854775807 < (⟨[UInt8.ofNat n.size].toArray⟩ : ByteArray).size + n.size) := by omega
      have o2 : ¬ (9223372036854775807 < ((⟨[UInt8.ofNat n.size].toArray⟩ : ByteArray) ++ n).size + (⟨[UInt8.ofNat s.size].toArray⟩ : ByteArray).size) := by rw [ByteArray.size_append]; omega
      have o3 : ¬ (9223372036854775807 < ((⟨[UInt8.ofNat n.size].toArray⟩ : ByteArray) ++ n ++ ⟨[UInt8.ofNat s.size].toArray⟩).size + s.size) := by rw [ByteArray.size_append, ByteArray.size_append]; omega
      clear h1 h2 e z1 z2
      generalize (⟨[UInt8.ofNat n.size].toArray⟩ : ByteArray) = X at *
      generalize (⟨[UInt8.ofNat s.size].toArray⟩ : ByteArray) = Y at *
      go_enter Tryz.func107, Tryz.ntmps107
      go_wp2_with fail
      refine (A1.out _).mono ?_
      rintro e w1 ⟨rfl, hk1⟩
      go_wp2_with fail
      refine (A2.out _).mono ?_
      rintro e w2 ⟨rfl, hk2⟩
      go_wp2
      go_ret2
      exact ⟨rfl, hk1.trans hk2⟩

set_option maxHeartbeats 400000 in
set_option maxRecDepth 100000 in
theorem piece_any (b : ByteArray) (hb : b.size ≤ 140737488351232) (w : World) :
    Calls Tryz.prog 110 #[.string b] w fun e w' => e = .returned (.tuple #[.string (firstF b).1, .string (firstF b).2.1, .int .i64 (firstF b).2.2]) ∧ Kept (fun _ => False) w w' := by
  unfold firstF
  by_cases h0 : b.size = 0
  · rw [if_pos h0]
    have h0z : (b.size : Int) < 1 := by omega
    clear h0
    go_enter Tryz.func110, Tryz.ntmps110
    go_wp2
    go_ret3
    exact ⟨rfl, Kept.refl _ _⟩
  · rw [if_neg h0]
    have h0z : ¬ (b.size : Int) < 1 := by omega
    have x0 := index_at b 0 (by omega) 0 rfl
    have bA := (b.data.toList.getD 0 0).toNat_lt
    generalize (b.data.toList.getD 0 0).toNat = n at *
    have hwB : IntKind.i64.wrap (n : Int) = (n : Int) := by rw [IntKind.wrap_i64]; omega
    by_cases h1 : 60 < n
    · rw [if_pos h1]
      have h1z : (60 : Int) < (n : Int) := by omega
      clear h0
      go_enter Tryz.func110, Tryz.ntmps110
      go_wp2
      go_ret3
      exact ⟨rfl, Kept.refl _ _⟩
    · rw [if_neg h1]
      have h1z : ¬ (60 : Int) < (n : Int) := by omega
      by_cases h2 : b.size < 1 + n
      · rw [if_pos h2]
        have h2z : (b.size : Int) - 1 < (n : Int) := by omega
        clear h0
        go_enter Tryz.func110, Tryz.ntmps110
        go_wp2
        go_ret3
        exact ⟨rfl, Kept.refl _ _⟩
      · rw [if_neg h2]
        have h2z : ¬ (b.size : Int) - 1 < (n : Int) := by omega
        have hw1 : IntKind.i64.wrap (1 + (n : Int)) = 1 + (n : Int) := by rw [IntKind.wrap_i64]; omega
        have y1 := mid_at b 1 (1 + n) (by omega) (by omega) 1 (1 + (n : Int)) rfl (by omega)
        have y2 := last_at b (1 + n) (by omega) (1 + (n : Int)) (by omega)
        generalize b.extract 1 (1 + n) = P at *
        generalize b.extract (1 + n) b.size = R at *
        clear h0 h1 h2
        go_enter Tryz.func110, Tryz.ntmps110
        go_wp2
        go_region
        all_goals
          go_wp2
          go_ret3
          exact ⟨rfl, (Kept.refl _ _).drew⟩



set_option maxHeartbeats 1000000 in
set_option maxRecDepth 100000 in
theorem rGetReq_any (b : ByteArray) (hb : b.size ≤ 140737488351232) (w : World) :
    Calls Tryz.prog 29 #[.string b] w fun e w' => e = .returned (.tuple #[.string (getReqF b).1, .string (getReqF b).2.1, .int .i64 (getReqF b).2.2]) ∧ Kept (fun _ => False) w w' := by
  have HF := hid (piece_any b hb w)
  have HO := hid (piece_any (firstF b).2.1 (by have := (firstF_size b).2; omega))
  unfold getReqF onlyF
  generalize firstF b = R at *
  obtain ⟨t, r, E⟩ := R
  simp only at HF HO ⊢
  generalize firstF r = Q at *
  obtain ⟨x, y, F⟩ := Q
  simp only at HO ⊢
  by_cases h1 : E = 0
  · subst h1
    rw [if_neg (by simp)]
    by_cases h2 : F = 0
    · subst h2
      rw [if_neg (by simp : ¬ (0 : Int) ≠ 0)]
      by_cases h3 : y.size = 0
      · rw [if_neg (by rw [if_neg (fun h => h h3)]; simp), if_neg (fun h => h h3)]
        obtain rfl := str_nil y h3
        clear h3
        go_enter Tryz.func29, Tryz.ntmps29
        go_wp2_with fail
        refine HF.out.mono ?_
        rintro e w1 ⟨rfl, hk1⟩
        go_wp2_with fail
        refine (HO.out _).mono ?_
        rintro e w2 ⟨rfl, hk2⟩
        go_wp2
        go_ret3
        exact ⟨rfl, hk1.trans hk2⟩
      · rw [if_pos (by rw [if_pos h3]; simp), if_pos h3]
        have hre := str_has h3
        have hre0 : ¬ y.toList = [] := by rw [← List.isEmpty_iff, hre]; simp
        clear h3
        go_enter Tryz.func29, Tryz.ntmps29
        go_wp2_with fail
        refine HF.out.mono ?_
        rintro e w1 ⟨rfl, hk1⟩
        go_wp2_with fail
        refine (HO.out _).mono ?_
        rintro e w2 ⟨rfl, hk2⟩
        go_wp2
        go_ret3
        exact ⟨rfl, hk1.trans hk2⟩
    · rw [if_pos h2]
      simp only
      rw [if_pos h2]
      have hE : (F != 0) = true := by simpa using h2
      clear h2
      go_enter Tryz.func29, Tryz.ntmps29
      go_wp2_with fail
      refine HF.out.mono ?_
      rintro e w1 ⟨rfl, hk1⟩
      go_wp2_with fail
      refine (HO.out _).mono ?_
      rintro e w2 ⟨rfl, hk2⟩
      go_wp2
      go_ret3
      exact ⟨rfl, hk1.trans hk2⟩
  · rw [if_pos h1]
    have hE : (E != 0) = true := by simpa using h1
    clear h1
    go_enter Tryz.func29, Tryz.ntmps29
    go_wp2_with fail
    refine HF.out.mono ?_
    rintro e w1 ⟨rfl, hk1⟩
    go_wp2
    go_ret3
    exact ⟨rfl, hk1⟩
end Go.Proofs.YtifkiiplknkgnaaGreat
