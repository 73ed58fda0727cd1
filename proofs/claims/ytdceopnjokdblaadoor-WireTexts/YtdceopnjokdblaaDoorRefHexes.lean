/- The contracts of the document's own nibble (below 16) and Hex: two digits for each byte, for every string of at most 2^40 bytes. -/
import Derived.Test.YtdceopnjokdblaaDoorUnhex
import Derived.Test.YtdceopnjokdblaaDoorAlive
import Derived.Deep.RegionHeldLaw
namespace Go.Proofs.YtdceopnjokdblaaDoor
open Go.RowKit

set_option maxHeartbeats 400000 in
theorem refNibble_any (c : Nat) (hc : c < 16) (w : World) :
    Calls Tryd.prog 19 #[.int .u8 (c : Int)] w fun e w' => e = .returned (.int .u8 ((digitF c).toNat : Int)) ∧ w' = w := by
  by_cases h : c < 10
  · have e : ((digitF c).toNat : Int) = 48 + (c : Int) := by
      have e0 : (UInt8.ofNat (48 + c)).toNat = 48 + c := UInt8.toNat_ofNat_of_lt (by show 48 + c < 256; omega)
      unfold digitF
      rw [if_pos h, e0]
      omega
    rw [e]
    clear e
    go_enter Tryd.func19, Tryd.ntmps19
    go_wp2
    go_ret
    exact ⟨rfl, rfl⟩
  · have e : ((digitF c).toNat : Int) = 97 + (c : Int) - 10 := by
      have e0 : (UInt8.ofNat (87 + c)).toNat = 87 + c := UInt8.toNat_ofNat_of_lt (by show 87 + c < 256; omega)
      unfold digitF
      rw [if_neg h, e0]
      omega
    rw [e]
    clear e
    go_enter Tryd.func19, Tryd.ntmps19
    go_wp2
    go_ret
    exact ⟨rfl, rfl⟩

/-- What nibble answers. -/
structure NibIs (c d : Int) : Prop where
  out : ∀ w, Calls Tryd.prog 19 #[.int .u8 c] w fun e w' => e = .returned (.int .u8 d) ∧ w' = w

set_option maxHeartbeats 2000000 in
theorem refHex_any (s : ByteArray) (hs : s.size ≤ 1099511627776) (w : World) :
    Calls Tryd.prog 13 #[.string s] w fun e w' => e = .returned (.string ⟨(hexF s.data.toList).toArray⟩) ∧ Below w.heap.size w w' := by
  obtain ⟨i0, hi, hz0, hz1, hz2⟩ := info_parts info5
  have hown1 : w.ownsRow w.heap.size 5 1 (.slice none 0 0) 0 (Lib.byteCells []) := World.ownsRow_nil _ _ _ _
  go_enter Tryd.func13, Tryd.ntmps13
  go_wp2
  go_loopw [3, 4] (fun v i wr => ∃ k : Nat, k ≤ s.size ∧ i = .int .i64 (k : Int) ∧ wr.ownsRow w.heap.size 5 1 v (2 * k) (Lib.byteCells (hexF (s.data.toList.take k))) ∧ Below w.heap.size w wr)
    (fun _ i _ => s.size - (intOf i).toNat)
  case atStart => exact ⟨0, Nat.zero_le _, rfl, hown1, Below.refl _ _⟩
  case round =>
    obtain ⟨k, hk, rfl, hownr, hbel⟩ := hrel
    clear hown1
    by_cases hlt : k < s.size
    · have hb := s[k].toNat_lt
      have hszr := hbel.size
      obtain ⟨x, hx⟩ : ∃ x : Int, x = (s[k].toNat : Int) / 16 := ⟨_, rfl⟩
      obtain ⟨y, hy⟩ : ∃ y : Int, y = (s[k].toNat : Int) % 16 := ⟨_, rfl⟩
      have H1 : NibIs x ((digitF (s[k].toNat / 16)).toNat : Int) := by rw [hx]; exact ⟨refNibble_any (s[k].toNat / 16) (by omega)⟩
      have H2 : NibIs y ((digitF (s[k].toNat % 16)).toNat : Int) := by rw [hy]; exact ⟨refNibble_any (s[k].toNat % 16) (by omega)⟩
      have q1 : IntKind.u8.wrap ((s[k].toNat : Int) / 16) = x := by rw [IntKind.wrap_u8, hx]; omega
      have q2 : ((s[k].toNat : Int)).tmod 16 = y := by rw [hy]; exact Int.tmod_eq_emod_of_nonneg (by omega)
      clear hx hy
      have HO := hide hownr
      have hbd : Below w.heap.size w wr.drew := hbel.drew
      clear hownr
      go_wp2
      go_region_held_law (fun W => Below w.heap.size w W) (first | assumption | exact R.2 | exact hbd | exact (hbel.alloc hszr _).drew)
        (first
          | (refine step_append_lies _ rfl (.tmp 11) (.tmp 22) 37 rfl w.heap.size 5 i0 (.int .u8 0) 1 1 Tryd.underlying37 hi hz0 hz1 hz2 rfl (by decide) _ (2 * k) (Lib.byteCells (hexF (s.data.toList.take k))) rfl ((unhide HO).alloc _).drew ⟨wr.heap.size, 0, none⟩ 2 2 [.int .u8 ((digitF (s[k].toNat / 16)).toNat : Int), .int .u8 ((digitF (s[k].toNat % 16)).toNat : Int)] rfl rfl (World.news_of_block (heap_alloc_new wr _)) two_cells (by decide) (by unfold maxLen; omega) (by omega) (by simp; omega) _ rfl ?_; intro g cap w2 hown' hgrow _ _; have R := hex_step hlt hszr hbel (unhide HO) hown' hgrow)
          | (go_at_call 19; refine (NibIs.out (by assumption) _).mono ?_; rintro e w3 ⟨rfl, rfl⟩))
      all_goals
        clear hown' hgrow HO H1 H2
        go_wp2
        go_roundw
        case rel => exact ⟨k + 1, by omega, by go_num, R.1, R.2⟩
        case measure => simp [intOf]; omega
    · obtain rfl : k = s.size := by omega
      have hcv := put_conv hownr
      rw [List.take_of_length_le (by simp)] at hcv
      go_wp2
      go_ret
      exact ⟨rfl, hbel⟩
end Go.Proofs.YtdceopnjokdblaaDoor
