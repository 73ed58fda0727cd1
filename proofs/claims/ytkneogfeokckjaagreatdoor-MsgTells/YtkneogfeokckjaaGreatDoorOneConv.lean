/- 'string([]byte{x})' of one byte. -/
import Derived.Test.YtkneogfeokckjaaGreatDoorPadding
namespace Go.Proofs.YtkneogfeokckjaaGreatDoor
open Go.RowKit

set_option maxRecDepth 100000 in
theorem one_conv (W : World) (x : UInt8) :
    (convert 127 9 (.slice (some ⟨W.heap.size, 0, none⟩) 1 1)).run Tryz.prog (W.alloc (.cells #[.int .u8 (x.toNat : Int)] 5)) = .ok (.string ⟨#[x]⟩) (W.alloc (.cells #[.int .u8 (x.toNat : Int)] 5)) := by
  have hb := run_convert_bytes_arg (P := Tryz.prog) (W.alloc (.cells #[.int .u8 (x.toNat : Int)] 5)) 127 5 Tryz.underlying127 Tryz.underlying5 W.heap.size 0 1 1 [(x.toNat : Int)] rfl (fun i hi => by
    rw [Nat.zero_add, cell_of_row _ _ i _ _ _ (heap_alloc_new W _)]
    obtain rfl : i = 0 := by omega
    rfl) 9 Tryz.underlying9
  rw [hb]
  congr 2
  apply ByteArray.ext
  apply Array.toList_inj.1
  rw [strOfNums_data]
  simp
end Go.Proofs.YtkneogfeokckjaaGreatDoor
