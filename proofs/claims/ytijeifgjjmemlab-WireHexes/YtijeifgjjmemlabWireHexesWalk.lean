/- The walk of the law WireHexes: for every string of at most 2^47 bytes it returns true, and of what was there nothing has turned. -/
import Derived.Test.YtijeifgjjmemlabAlive
import Derived.Test.YtijeifgjjmemlabUnhex
namespace Go.Proofs.Ytijeifgjjmemlab
open Go.RowKit

theorem nib_digit (m : Nat) (h : m < 16) : nibF (digitF m).toNat = (m, true) := by
  rcases (show m = 0 ∨ m = 1 ∨ m = 2 ∨ m = 3 ∨ m = 4 ∨ m = 5 ∨ m = 6 ∨ m = 7 ∨ m = 8 ∨ m = 9 ∨ m = 10 ∨ m = 11 ∨ m = 12 ∨ m = 13 ∨ m = 14 ∨ m = 15 by omega) with h | h | h | h | h | h | h | h | h | h | h | h | h | h | h | h <;> subst h <;> rfl
theorem unhexG_hexF (l : List UInt8) : unhexG (hexF l) = some l := by
  induction l with
  | nil => rfl
  | cons b l ih =>
    have hb := b.toNat_lt
    have e : hexF (b :: l) = digitF (b.toNat / 16) :: digitF (b.toNat % 16) :: hexF l := by simp [hexF]
    have e2 : b.toNat / 16 * 16 + b.toNat % 16 = b.toNat := by omega
    rw [e, unhexG, nib_digit _ (by omega), nib_digit _ (by omega), ih, e2]
    simp
theorem hexes_odd (l : List UInt8) : unhexF (hexF l ++ [48]) = ([], 4) := by
  unfold unhexF
  rw [unhexG_append _ _ _ _ (Nat.le_refl _) (unhexG_hexF l)]
  rfl
theorem hexes_case (l : List UInt8) : unhexF (hexF l ++ [48, 65]) = ([], 4) := by
  unfold unhexF
  rw [unhexG_append _ _ _ _ (Nat.le_refl _) (unhexG_hexF l)]
  rfl
theorem hexes_more (l : List UInt8) : unhexF (hexF l ++ [48, 97]) = (l ++ [10], 0) := by
  unfold unhexF
  rw [unhexG_append _ _ _ _ (Nat.le_refl _) (unhexG_hexF l)]
  rfl
theorem unhex_at (s t : ByteArray) (l : List UInt8) (hs : s.size ≤ 6000) (ht : t.size ≤ 2) (x : List UInt8) (y : Int) (hl : s.data.toList ++ t.data.toList = l) (hu : unhexF l = (x, y)) (w : World) :
    Calls Try.prog 11 #[.string (s ++ t)] w fun e w' => e = .returned (.tuple #[.string ⟨x.toArray⟩, .int .i64 y]) ∧ Below w.heap.size w w' := by
  have h := unhex_any (s ++ t) (by rw [ByteArray.size_append]; omega) w
  have e : (s ++ t).data.toList = l := by rw [← hl]; simp
  rw [e, hu] at h
  exact h

set_option maxHeartbeats 400000 in
theorem wireHexes_walk (b : ByteArray) (hb : b.size ≤ 140737488351232) (w : World) :
    Calls Try.prog 5 #[.string b] w fun e w' => e = .returned (.bool true) ∧ Below w.heap.size w w' := by
  by_cases hl : b.size ≤ 3000
  · obtain ⟨s, hs⟩ : ∃ s : ByteArray, s = ⟨(hexF b.data.toList).toArray⟩ := ⟨_, rfl⟩
    have HS : Hid (∀ w, Calls Try.prog 10 #[.string b] w fun e w' => e = .returned (.string s) ∧ Below w.heap.size w w') := fun w => by rw [hs]; exact hex_any b (by omega) w
    have hss : s.size = 2 * b.size := by rw [hs, Lib.size_eq, Lib.size_eq]; exact hexF_length _
    have hsl : s.data.toList = hexF b.data.toList := by rw [hs]
    have H1 := hide (unhex_at s ⟨#[48]⟩ _ (by omega) (by decide) _ _ (by rw [hsl]) (hexes_odd b.data.toList))
    have H2 := hide (unhex_at s ⟨#[48, 65]⟩ _ (by omega) (by decide) _ _ (by rw [hsl]) (hexes_case b.data.toList))
    have H3 := hide (unhex_at s ⟨#[48, 97]⟩ _ (by omega) (by decide) _ _ (by rw [hsl]) (hexes_more b.data.toList))
    have e3 : (⟨(b.data.toList ++ [10]).toArray⟩ : ByteArray) = b ++ ⟨#[10]⟩ := by
      apply ByteArray.ext
      apply Array.toList_inj.1
      simp
    rw [e3] at H3
    have h1 : s.size ≤ 2 * b.size := by omega
    have h2 : 2 * b.size ≤ s.size := by omega
    clear hs hss hsl e3
    go_enter Try.func5, Try.ntmps5
    go_wp2_with fail
    refine (HS.out _).mono ?_
    rintro e w1 ⟨rfl, hb1⟩
    go_wp2_with fail
    refine (H1.out _).mono ?_
    rintro e w2 ⟨rfl, hb2⟩
    go_wp2_with fail
    refine (H2.out _).mono ?_
    rintro e w3 ⟨rfl, hb3⟩
    go_wp2_with fail
    refine (H3.out _).mono ?_
    rintro e w4 ⟨rfl, hb4⟩
    go_wp2_with (go_at_call 8; refine (alive_any _).mono ?_; rintro e w5 ⟨rfl, hb5⟩)
    go_ret
    exact ⟨rfl, below_next (below_next (below_next (below_next hb1 hb2) hb3) hb4) hb5⟩
  · go_enter Try.func5, Try.ntmps5
    go_wp2_with (go_at_call 8; refine (alive_any _).mono ?_; rintro e w3 ⟨rfl, hb3⟩)
    go_ret
    exact ⟨rfl, by assumption⟩
end Go.Proofs.Ytijeifgjjmemlab
