/- The contract of the book's name. -/
import Derived.Test.YtnghakhgogfemaaGreatDoorTagKit
import Derived.Test.YtnghakhgogfemaaGreatDoorKept
namespace Go.Proofs.YtnghakhgogfemaaGreatDoor
open Go.RowKit

def nameF (i k : Nat) : ByteArray := ⟨#[109, UInt8.ofNat (65 + i % 26), UInt8.ofNat (65 + i / 26 % 26), UInt8.ofNat (48 + k % 10), UInt8.ofNat (48 + k / 10 % 10), UInt8.ofNat (48 + k / 100 % 10)]⟩

theorem conv_six (w : World) (i k : Nat) (g : Nat) (hg : w.heap[g]? = some (.cells #[.int .u8 109, .int .u8 (65 + (i : Int) % 26), .int .u8 (65 + (i : Int) / 26 % 26), .int .u8 (48 + (k : Int) % 10), .int .u8 (48 + (k : Int) / 10 % 10), .int .u8 (48 + (k : Int) / 100 % 10)] 5 (0, 0))) :
    (convert 63 9 (.slice (some ⟨g, 0, none⟩) 6 6)).run Tryz.prog w = .ok (.string (nameF i k)) w := by
  refine put_conv (base := 0) (n := 6) (l := [109, UInt8.ofNat (65 + i % 26), UInt8.ofNat (65 + i / 26 % 26), UInt8.ofNat (48 + k % 10), UInt8.ofNat (48 + k / 10 % 10), UInt8.ofNat (48 + k / 100 % 10)]) ⟨rfl, Or.inr ⟨g, 6, _, rfl, Nat.zero_le _, hg, Nat.le_refl _, by unfold maxLen; omega, rfl, ?_⟩⟩
  simp only [Lib.byteCells, List.map_cons, List.map_nil, UInt8.toNat_ofNat']
  rw [Nat.mod_eq_of_lt (show 65 + i % 26 < 2 ^ 8 by omega), Nat.mod_eq_of_lt (show 65 + i / 26 % 26 < 2 ^ 8 by omega), Nat.mod_eq_of_lt (show 48 + k % 10 < 2 ^ 8 by omega), Nat.mod_eq_of_lt (show 48 + k / 10 % 10 < 2 ^ 8 by omega), Nat.mod_eq_of_lt (show 48 + k / 100 % 10 < 2 ^ 8 by omega)]
  simp

set_option maxHeartbeats 1000000 in
set_option maxRecDepth 100000 in
theorem name_any (i k : Nat) (hi : i ≤ 1000000) (hk : k ≤ 1000000) (w : World) :
    Calls Tryz.prog 163 #[.int .i64 (i : Int), .int .i64 (k : Int)] w fun e w' => e = .returned (.string (nameF i k)) ∧ Kept (fun _ => False) w w' := by
  have hcv := conv_six (w.alloc (.cells #[.int .u8 109, .int .u8 (65 + (i : Int) % 26), .int .u8 (65 + (i : Int) / 26 % 26), .int .u8 (48 + (k : Int) % 10), .int .u8 (48 + (k : Int) / 10 % 10), .int .u8 (48 + (k : Int) / 100 % 10)] 5)) i k w.heap.size (heap_alloc_new w _)
  go_enter Tryz.func163, Tryz.ntmps163
  go_wp2
  go_ret
  exact ⟨rfl, (Kept.refl _ w).alloc _⟩

end Go.Proofs.YtnghakhgogfemaaGreatDoor
