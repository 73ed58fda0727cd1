/- The contracts of the document's own PutValue and GetValue (tollgateref13). -/
import Derived.Test.YtndpfcanfcbldaaDoorCaPlain
import Derived.Test.YtndpfcanfcbldaaDoorTagRefOne
namespace Go.Proofs.YtndpfcanfcbldaaDoor
open Go.RowKit

theorem caLow (t : ByteArray) (h : t.size ≤ 60) (w : World) : Calls Tryd.prog 28 #[.int .i64 (t.size : Int), .int .i64 1] w fun e w' => e = .returned (.string ⟨[UInt8.ofNat t.size].toArray⟩) ∧ Kept (fun _ => False) w w' := by
  refine (refLow_any t.size (by omega) 1 (by decide) (by decide) w).mono ?_
  rintro e w' ⟨rfl, hb⟩
  have hl : (⟨(low t.size 1).toArray⟩ : ByteArray) = ⟨[UInt8.ofNat t.size].toArray⟩ := by simp [low, Nat.mod_eq_of_lt (show t.size < 256 by omega)]
  rw [hl]
  exact ⟨rfl, kept_of hb⟩

set_option maxHeartbeats 400000 in
set_option maxRecDepth 100000 in
theorem rPutValue_any (v n : ByteArray) (hv : v.size ≤ 140737488351232) (hn : n.size ≤ 140737488351232) (w : World) :
    Calls Tryd.prog 9 #[.string v, .string n] w fun e w' => e = .returned (.tuple #[.string (putValF v n).1, .int .i64 (putValF v n).2]) ∧ Kept (fun _ => False) w w' := by
  unfold putValF
  by_cases h1 : v.size < 1
  · rw [if_pos (Or.inl h1)]
    have h1z : (v.size : Int) < 1 := by omega
    clear h1
    go_enter Tryd.func9, Tryd.ntmps9
    go_wp2
    go_ret2
    exact ⟨rfl, Kept.refl _ _⟩
  · have h1z : ¬ (v.size : Int) < 1 := by omega
    by_cases h2 : 60 < v.size
    · rw [if_pos (Or.inr h2)]
      have h2z : (60 : Int) < (v.size : Int) := by omega
      go_enter Tryd.func9, Tryd.ntmps9
      go_wp2
      go_ret2
      exact ⟨rfl, Kept.refl _ _⟩
    · rw [if_neg (by omega)]
      have h2z : ¬ (60 : Int) < (v.size : Int) := by omega
      by_cases h3 : 60 < n.size
      · rw [if_pos h3]
        have h3z : (60 : Int) < (n.size : Int) := by omega
        go_enter Tryd.func9, Tryd.ntmps9
        go_wp2
        go_ret2
        exact ⟨rfl, Kept.refl _ _⟩
      · rw [if_neg h3]
        have h3z : ¬ (60 : Int) < (n.size : Int) := by omega
        have A1 := hid (caLow v (by omega))
        have z1 : (⟨[UInt8.ofNat v.size].toArray⟩ : ByteArray).size = 1 := rfl
        have o1 : ¬ (9223372036854775807 < (⟨[UInt8.ofNat v.size].toArray⟩ : ByteArray).size + v.size) := by omega
        have o2 : ¬ (9223372036854775807 < ((⟨[UInt8.ofNat v.size].toArray⟩ : ByteArray) ++ v).size + n.size) := by rw [ByteArray.size_append]; omega
        unfold layF
        clear z1
        generalize (⟨[UInt8.ofNat v.size].toArray⟩ : ByteArray) = X at *
        go_enter Tryd.func9, Tryd.ntmps9
        go_wp2_with fail
        refine (A1.out _).mono ?_
        rintro e w1 ⟨rfl, hk1⟩
        go_wp2
        go_ret2
        exact ⟨rfl, hk1⟩

set_option maxHeartbeats 1000000 in
set_option maxRecDepth 100000 in
theorem rGetValue_any (b : ByteArray) (hb : b.size ≤ 140737488351232) (w : World) :
    Calls Tryd.prog 11 #[.string b] w fun e w' => e = .returned (.tuple #[.string (getValF b).1, .string (getValF b).2.1, .int .i64 (getValF b).2.2]) ∧ Kept (fun _ => False) w w' := by
  unfold getValF
  by_cases h0 : b.size = 0
  · rw [if_pos h0]
    have h0z : (b.size : Int) < 1 := by omega
    clear h0
    go_enter Tryd.func11, Tryd.ntmps11
    go_wp2
    go_ret3
    exact ⟨rfl, Kept.refl _ _⟩
  · rw [if_neg h0]
    have h0z : ¬ (b.size : Int) < 1 := by omega
    have x0 := index_at b 0 (by omega) 0 rfl
    have bA := (b.data.toList.getD 0 0).toNat_lt
    generalize (b.data.toList.getD 0 0).toNat = n at *
    have hwB : IntKind.i64.wrap (n : Int) = (n : Int) := by rw [IntKind.wrap_i64]; omega
    by_cases h1 : n < 1
    · rw [if_pos (Or.inl h1)]
      have h1z : (n : Int) < 1 := by omega
      clear h0
      go_enter Tryd.func11, Tryd.ntmps11
      go_wp2
      go_ret3
      exact ⟨rfl, Kept.refl _ _⟩
    · have h1z : ¬ (n : Int) < 1 := by omega
      by_cases h2 : 60 < n
      · rw [if_pos (Or.inr h2)]
        have h2z : (60 : Int) < (n : Int) := by omega
        clear h0
        go_enter Tryd.func11, Tryd.ntmps11
        go_wp2
        go_ret3
        exact ⟨rfl, Kept.refl _ _⟩
      · rw [if_neg (by omega)]
        have h2z : ¬ (60 : Int) < (n : Int) := by omega
        by_cases h3 : b.size < 1 + n
        · rw [if_pos h3]
          have h3z : (b.size : Int) - 1 < (n : Int) := by omega
          clear h0
          go_enter Tryd.func11, Tryd.ntmps11
          go_wp2
          go_ret3
          exact ⟨rfl, Kept.refl _ _⟩
        · rw [if_neg h3]
          have h3z : ¬ (b.size : Int) - 1 < (n : Int) := by omega
          by_cases h4 : 61 + n < b.size
          · rw [if_pos h4]
            have h4z : (60 : Int) < (b.size : Int) - 1 - (n : Int) := by omega
            clear h0
            go_enter Tryd.func11, Tryd.ntmps11
            go_wp2
            go_ret3
            exact ⟨rfl, Kept.refl _ _⟩
          · rw [if_neg h4]
            have h4z : ¬ (60 : Int) < (b.size : Int) - 1 - (n : Int) := by omega
            have hw1 : IntKind.i64.wrap (1 + (n : Int)) = 1 + (n : Int) := by rw [IntKind.wrap_i64]; omega
            have y1 := mid_at b 1 (1 + n) (by omega) (by omega) 1 (1 + (n : Int)) rfl (by omega)
            have y2 := last_at b (1 + n) (by omega) (1 + (n : Int)) (by omega)
            generalize b.extract 1 (1 + n) = P at *
            generalize b.extract (1 + n) b.size = R at *
            clear h0 h1 h2 h3 h4
            go_enter Tryd.func11, Tryd.ntmps11
            go_wp2
            go_region
            all_goals
              go_wp2
              go_ret3
              exact ⟨rfl, (Kept.refl _ _).drew⟩
end Go.Proofs.YtndpfcanfcbldaaDoor
