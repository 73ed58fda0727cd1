/- The contract of opts.pack: a head ahead of some bytes, or the error. -/
import Derived.Test.YtcmdfcdmfdheeaaOpSmall
namespace Go.Proofs.Ytcmdfcdmfdheeaa
open Go.RowKit

theorem cells_four_new (w : World) (x y z u : Value) (t : TypeId) : ∀ (j : Nat) (v : Value), [x, y, z, u][j]? = some v → (w.alloc (.cells #[x, y, z, u] t)).cell? ((⟨w.heap.size, 0, none⟩ : Addr).add j) = some v := by
  intro j v h
  rw [addr_add, World.cell?_alloc_new]
  simpa using h

set_option maxHeartbeats 1000000 in
set_option maxRecDepth 100000 in
theorem pack_yes (c i : Nat) (hc : c ≤ 255) (hi' : i ≤ 255) (s : ByteArray) (hs : s.size ≤ 1488) (w : World) :
    Calls Try.prog 84 #[.int .i64 (c : Int), .int .i64 (i : Int), .string s] w fun e w' => e = .returned (.tuple #[.string ⟨(headF c i (4 + s.size) ++ s.data.toList).toArray⟩, .int .i64 0]) ∧ Kept (fun _ => False) w w' := by
  obtain ⟨i0, hi, hz0, hz1, hz2⟩ := info_parts info5
  have hwc : (c : Int) % 256 = (c : Int) := by omega
  have hwi : (i : Int) % 256 = (i : Int) := by omega
  go_enter Try.func84, Try.ntmps84
  go_wp2_with (at_make; refine wpList_make_own _ rfl _ _ 100 rfl w.heap.size 5 i0 (.int .u8 0) 1 Try.underlying100 hi hz0 hz1 .i64 .i64 _ (4 + s.size) rfl rfl ?m1 ?m2 ?m3 ?m4 ?_)
  case m1 => omega
  case m2 => rw [hz2]; omega
  case m3 => unfold maxLen; omega
  case m4 => simp
  intro w3 hown3 hg3
  have HK3 : Hid (Kept (fun _ => False) w w3) := (Kept.refl _ w).grown hg3 (fun j hj => by cases hj)
  have s3 : w.heap.size ≤ w3.heap.size := HK3.out.size
  clear hg3
  go_wp2_with (at_builtin; refine wpList_append_own _ rfl _ _ 100 rfl w.heap.size 5 i0 (.int .u8 0) 1 1 Try.underlying100 hi hz0 hz1 hz2 rfl (by decide) _ _ _ rfl (hown3.alloc _) ⟨w3.heap.size, 0, none⟩ 4 4 [.int .u8 (c : Int), .int .u8 (i : Int), .int .u8 ((4 + (s.size : Int)) / 256), .int .u8 ((4 + (s.size : Int)) % 256)] rfl rfl ?c1 ?c2 ?c3 ?c4 ?c5 ?_)
  case c1 => exact cells_four_new _ _ _ _ _ _
  case c2 => intro u hu; simp at hu; rcases hu with rfl | rfl | rfl | rfl <;> rfl
  case c3 => unfold maxLen; omega
  case c4 => omega
  case c5 => simp; omega
  intro v4 w4 hown4' hg4 _
  have e4 : Lib.byteCells (headF c i (4 + s.size)) = [.int .u8 (c : Int), .int .u8 (i : Int), .int .u8 ((4 + (s.size : Int)) / 256), .int .u8 ((4 + (s.size : Int)) % 256)] := by
    have e1 : (4 + s.size) / 256 % 256 = (4 + s.size) / 256 := by omega
    have e2 : (((4 + s.size) / 256 : Nat) : Int) = (4 + (s.size : Int)) / 256 := by omega
    have e3 : (((4 + s.size) % 256 : Nat) : Int) = (4 + (s.size : Int)) % 256 := by omega
    simp [headF, Lib.byteCells, Nat.mod_eq_of_lt (show c < 256 by omega), Nat.mod_eq_of_lt (show i < 256 by omega)]
    omega
  have hown4 : w4.ownsRow w.heap.size 5 1 v4 (0 + 4) (Lib.byteCells (headF c i (4 + s.size))) := by rw [e4]; exact hown4'
  have HK4 : Hid (Kept (fun _ => False) w w4) := (HK3.out.alloc _).grown hg4 (fun j hj => Or.inl (hown3.lt j hj).1)
  have s4 : w.heap.size ≤ w4.heap.size := HK4.out.size
  clear hown3 hown4' hg4 e4 HK3
  go_wp2_with (at_builtin; refine Lib.wpList_append_own_string _ rfl _ _ 100 9 rfl w.heap.size 5 i0 Try.underlying100 Try.underlying9 hi hz0 hz1 hz2 _ _ _ rfl hown4 s rfl ?c1 ?c2 ?c3 ?_)
  case c1 => unfold maxLen; omega
  case c2 => omega
  case c3 => exact s4
  intro v7 w7 hown7 hg7 _
  have R := append_str s4 hown4 hown7 hg7
  have HK7 : Hid (Kept (fun _ => False) w w7) := HK4.out.grown hg7 (fun j hj => Or.inl (hown4.lt j hj).1)
  have hcv := put_conv R.1
  clear hown4 hown7 hg7 R HK4
  go_wp2
  go_ret2
  exact ⟨rfl, HK7.out⟩

set_option maxHeartbeats 400000 in
set_option maxRecDepth 100000 in
theorem pack_long (c i : Int) (s : ByteArray) (hs : s.size ≤ 140737488351232) (hl : 1488 < s.size) (w : World) :
    Calls Try.prog 84 #[.int .i64 c, .int .i64 i, .string s] w fun e w' => e = .returned (.tuple #[.string ⟨#[]⟩, .int .i64 2]) ∧ Kept (fun _ => False) w w' := by
  go_enter Try.func84, Try.ntmps84
  go_wp2
  go_ret2
  exact ⟨rfl, Kept.refl _ _⟩

/-- 'pack(code, id, behind)'. -/
theorem pack_any (c i : Nat) (hc : c ≤ 255) (hi' : i ≤ 255) (s : ByteArray) (hs : s.size ≤ 140737488351232) (w : World) :
    Calls Try.prog 84 #[.int .i64 (c : Int), .int .i64 (i : Int), .string s] w fun e w' => e = .returned (.tuple #[.string ⟨(packF c i s.data.toList).1.toArray⟩, .int .i64 (packF c i s.data.toList).2]) ∧ Kept (fun _ => False) w w' := by
  have hl : s.data.toList.length = s.size := (Lib.size_eq s).symm
  unfold packF
  rw [hl]
  by_cases h : 1488 < s.size
  · rw [if_pos h]
    exact pack_long _ _ s hs h w
  · rw [if_neg h]
    exact pack_yes c i hc hi' s (by omega) w
end Go.Proofs.Ytcmdfcdmfdheeaa
