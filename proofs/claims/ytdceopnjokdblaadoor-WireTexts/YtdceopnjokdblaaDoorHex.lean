/- The contract of wire.Hex: two digits for each byte, for every string of at most 2^40 bytes. -/
import Derived.Test.YtdceopnjokdblaaDoorPut
import Derived.Deep.AppendLies
import Derived.Deep.RegionLaw
namespace Go.Proofs.YtdceopnjokdblaaDoor
open Go.RowKit

theorem hexF_snoc (l : List UInt8) (b : UInt8) : hexF (l ++ [b]) = hexF l ++ [digitF (b.toNat / 16), digitF (b.toNat % 16)] := by simp [hexF]
theorem hexF_length (l : List UInt8) : (hexF l).length = 2 * l.length := by
  induction l with
  | nil => rfl
  | cons b l ih => simp only [hexF, List.flatMap_cons, List.length_append, List.length_cons, List.length_nil] at ih ⊢; omega
theorem digit_at (m : Nat) (h : m < 16) (W : World) :
    (Instr.index 9 (.string ⟨#[48, 49, 50, 51, 52, 53, 54, 55, 56, 57, 97, 98, 99, 100, 101, 102]⟩) (.int .u8 (m : Int))).run Tryd.prog W = .ok (.int .u8 ((digitF m).toNat : Int)) W := by
  rcases (show m = 0 ∨ m = 1 ∨ m = 2 ∨ m = 3 ∨ m = 4 ∨ m = 5 ∨ m = 6 ∨ m = 7 ∨ m = 8 ∨ m = 9 ∨ m = 10 ∨ m = 11 ∨ m = 12 ∨ m = 13 ∨ m = 14 ∨ m = 15 by omega) with h | h | h | h | h | h | h | h | h | h | h | h | h | h | h | h <;> subst h <;> kernel_rfl

theorem two_cells {a b : Int} : ∀ u ∈ [Value.int .u8 a, Value.int .u8 b], u.oneCell' = true := by
  intro u hu
  simp at hu
  rcases hu with rfl | rfl <;> rfl

theorem hex_step {base : Nat} {w wr w1 : World} {u v' : Value} {k : Nat} {s : ByteArray} {o : Obj} (hlt : k < s.size) (hb : base ≤ wr.heap.size) (hbel : Below base w wr)
    (hown : wr.ownsRow base 5 1 u (2 * k) (Lib.byteCells (hexF (s.data.toList.take k))))
    (hown' : w1.ownsRow base 5 1 v' (2 * k + 2) (Lib.byteCells (hexF (s.data.toList.take k)) ++ [.int .u8 ((digitF (s[k].toNat / 16)).toNat : Int), .int .u8 ((digitF (s[k].toNat % 16)).toNat : Int)]))
    (hg : (wr.alloc o).drew.grownBy w1 u.ownBlock) :
    w1.ownsRow base 5 1 v' (2 * (k + 1)) (Lib.byteCells (hexF (s.data.toList.take (k + 1)))) ∧ Below base w w1 := by
  have hs : (wr.alloc o).drew.heap.size = wr.heap.size + 1 := by simp
  have hb1 : Below base w w1 := (hbel.alloc hb o).drew.grown hg (by omega) (fun g hgk => (hown.lt g hgk).1)
  refine ⟨?_, hb1⟩
  rw [take_snoc s k hlt, hexF_snoc, Lib.byteCells_append]
  exact hown'

set_option maxHeartbeats 1000000 in
theorem hex_any (s : ByteArray) (hs : s.size ≤ 1099511627776) (w : World) :
    Calls Tryd.prog 12 #[.string s] w fun e w' => e = .returned (.string ⟨(hexF s.data.toList).toArray⟩) ∧ Below w.heap.size w w' := by
  obtain ⟨i0, hi, hz0, hz1, hz2⟩ := info_parts info5
  go_enter Tryd.func12, Tryd.ntmps12
  go_wp2_with (at_make; refine wpList_make_own _ rfl _ _ 37 rfl w.heap.size 5 i0 (.int .u8 0) 1 Tryd.underlying37 hi hz0 hz1 .i64 .i64 _ (2 * s.size) rfl rfl ?m1 ?m2 ?m3 ?m4 ?_)
  case m1 => omega
  case m2 => rw [hz2]; omega
  case m3 => unfold maxLen; omega
  case m4 => exact Nat.le_refl _
  intro w1 hown1 hg1
  have hb1 : Below w.heap.size w w1 := (Below.refl _ w).grown hg1 (Nat.le_refl _) (fun k hk => by cases hk)
  clear hg1
  go_wp2
  go_loopw [3, 4, 11] (fun v _ i wr => ∃ k : Nat, k ≤ s.size ∧ i = .int .i64 (k : Int) ∧ wr.ownsRow w.heap.size 5 1 v (2 * k) (Lib.byteCells (hexF (s.data.toList.take k))) ∧ Below w.heap.size w wr)
    (fun _ _ i _ => s.size - (intOf i).toNat)
  case atStart => exact ⟨0, Nat.zero_le _, rfl, hown1, hb1⟩
  case round =>
    obtain ⟨k, hk, rfl, hownr, hbel⟩ := hrel
    clear hown1 hb1
    by_cases hlt : k < s.size
    · have hb := s[k].toNat_lt
      have hszr := hbel.size
      have e1 : bits .and .u8 (s[k].toNat : Int) 15 = ((s[k].toNat % 16 : Nat) : Int) := by rw [← nat_mask4]; exact u8_and_nat _ 15 (by omega) (by omega)
      have hi1 : ∀ W, (Instr.index 9 (.string ⟨#[48, 49, 50, 51, 52, 53, 54, 55, 56, 57, 97, 98, 99, 100, 101, 102]⟩) (.int .u8 ((s[k].toNat : Int) / 16))).run Tryd.prog W = .ok (.int .u8 ((digitF (s[k].toNat / 16)).toNat : Int)) W := digit_at (s[k].toNat / 16) (by omega)
      have hi2 : ∀ W, (Instr.index 9 (.string ⟨#[48, 49, 50, 51, 52, 53, 54, 55, 56, 57, 97, 98, 99, 100, 101, 102]⟩) (.int .u8 ((s[k].toNat : Int) % 16))).run Tryd.prog W = .ok (.int .u8 ((digitF (s[k].toNat % 16)).toNat : Int)) W := digit_at (s[k].toNat % 16) (by omega)
      have HO := hide hownr
      clear hownr
      go_wp2
      go_region_law (refine step_append_lies _ rfl (.tmp 14) (.tmp 25) 37 rfl w.heap.size 5 i0 (.int .u8 0) 1 1 Tryd.underlying37 hi hz0 hz1 hz2 rfl (by decide) _ (2 * k) (Lib.byteCells (hexF (s.data.toList.take k))) rfl ((unhide HO).alloc _).drew ⟨wr.heap.size, 0, none⟩ 2 2 [.int .u8 ((digitF (s[k].toNat / 16)).toNat : Int), .int .u8 ((digitF (s[k].toNat % 16)).toNat : Int)] rfl rfl (World.news_of_block (heap_alloc_new wr _)) two_cells (by decide) (by unfold maxLen; omega) (by omega) (by simp; omega) _ rfl ?_; intro g cap w2 hown' hgrow _ _)
      all_goals
        have R := hex_step hlt hszr hbel (unhide HO) hown' hgrow
        clear hown' hgrow HO hi1 hi2 e1
        go_wp2
        go_roundw
        case rel => exact ⟨k + 1, by omega, by go_num, R.1, R.2⟩
        case measure => simp [intOf]; omega
    · obtain rfl : k = s.size := by omega
      have hcv := put_conv hownr
      rw [List.take_of_length_le (by simp)] at hcv
      go_wp2
      go_ret
      exact ⟨rfl, hbel⟩
end Go.Proofs.YtdceopnjokdblaaDoor
