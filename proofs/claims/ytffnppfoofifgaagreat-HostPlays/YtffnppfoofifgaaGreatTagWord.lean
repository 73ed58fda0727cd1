/- The contracts of tag.putWord and tag.getWord. -/
import Derived.Test.YtffnppfoofifgaaGreatTagKit
import Derived.Test.YtffnppfoofifgaaGreatClone
namespace Go.Proofs.YtffnppfoofifgaaGreat
open Go.RowKit

set_option maxHeartbeats 400000 in
set_option maxRecDepth 100000 in
theorem putWord_any (base : Nat) (v : Value) (n : Nat) (bs : List UInt8) (a : Nat) (ha : a ≤ 65535) (w : World) (hb : base ≤ w.heap.size) (hown : w.ownsRow base 5 1 v n (Lib.byteCells bs)) (hn : n ≤ 1099511627776) :
    Calls Tryz.prog 165 #[v, .int .i64 (a : Int)] w fun e w' => ∃ v', e = .returned v' ∧ w'.ownsRow base 5 1 v' (n + 2) (Lib.byteCells (bs ++ low a 2)) ∧ Below base w w' ∧ Kept (fun i => v.ownBlock = some i) w w' := by
  obtain ⟨i0, hi, hz0, hz1, hz2⟩ := info_parts info5
  have E1 : Hid ((a : Int) / 256 = ((a / 256 : Nat) : Int)) := by show _ = _; omega
  have E2 : Hid ((a : Int) % 256 = ((a % 256 : Nat) : Int)) := by show _ = _; omega
  rw [low_two, Nat.mod_eq_of_lt (show a / 256 < 256 by omega)]
  go_enter Tryz.func165, Tryz.ntmps165
  go_wp2_with (at_builtin; refine wpList_append_own _ rfl _ _ 227 rfl base 5 i0 (.int .u8 0) 1 1 Tryz.underlying227 hi hz0 hz1 hz2 rfl (by decide) _ _ _ rfl (hown.alloc _) ⟨w.heap.size, 0, none⟩ 2 2 [.int .u8 ((a : Int) / 256), .int .u8 ((a : Int) % 256)] rfl rfl ?c1 ?c2 ?c3 ?c4 ?c5 ?_)
  case c1 => exact cells_two_new _ _ _ _
  case c2 => intro u hu; simp at hu; rcases hu with rfl | rfl <;> rfl
  case c3 => unfold maxLen; omega
  case c4 => omega
  case c5 => simp; omega
  intro v' w1 hown' hgrow _
  have e1 := E1.out
  have e2 := E2.out
  clear E1 E2
  rw [e1, e2] at hown'
  have R := append_two (by omega) (by omega) hb hown hown' (by rw [← e1, ← e2]; exact hgrow)
  have K : Kept (fun i => v.ownBlock = some i) w w1 := ((Kept.refl _ w).alloc _).grown hgrow (fun j hj => Or.inr hj)
  clear e1 e2 hown' hgrow hown
  go_wp2
  go_ret
  exact ⟨_, rfl, R.1, R.2, K⟩

set_option maxHeartbeats 400000 in
set_option maxRecDepth 100000 in
theorem getWord_any (s : ByteArray) (hs : s.size ≤ maxLen) (h : 2 ≤ s.size) (w : World) :
    Calls Tryz.prog 167 #[.string s] w fun e w' => e = .returned (.int .i64 (numOf (s.data.toList.take 2) : Int)) ∧ Kept (fun _ => False) w w' := by
  unfold maxLen at hs
  rw [num_two (by rw [← Lib.size_eq]; exact h)]
  have b0 := (s.data.toList.getD 0 0).toNat_lt
  have b1 := (s.data.toList.getD 1 0).toNat_lt
  have x0 := index_at s 0 (by omega) 0 rfl
  have x1 := index_at s 1 (by omega) 1 rfl
  generalize (s.data.toList.getD 0 0).toNat = A at b0 x0
  generalize (s.data.toList.getD 1 0).toNat = B at b1 x1
  have hor := i64_or_byte A B (by omega) (by omega)
  go_enter Tryz.func167, Tryz.ntmps167
  go_wp2
  go_region
  go_wp2
  go_ret
  exact ⟨ret_int (by omega), (Kept.refl _ _).drew⟩
end Go.Proofs.YtffnppfoofifgaaGreat
