/- The contracts of package digest's Text and Same: what each returns, for every argument of its kind. -/
import Derived.Test.YtmbdjgfbhblifaaDoorPadding
import Derived.Test.YtmbdjgfbhblifaaDoorSameS
import Derived.Deep.MidRow
namespace Go.Proofs.YtmbdjgfbhblifaaDoor
open Go.RowKit

set_option maxRecDepth 100000 in
theorem text_conv (w : World) (l : List UInt8) (hl : l.length = 16) : (convert 67 9 (.slice (some ⟨w.heap.size, 0, none⟩) 16 16)).run Tryd.prog (w.alloc (.cells (Lib.byteCells l).toArray 65)) = .ok (.string ⟨l.toArray⟩) (w.alloc (.cells (Lib.byteCells l).toArray 65)) := by
  have hb := run_convert_bytes_arg (P := Tryd.prog) (w.alloc (.cells (Lib.byteCells l).toArray 65)) 67 5 Tryd.underlying67 Tryd.underlying5 w.heap.size 0 16 16 (l.map fun b => (b.toNat : Int)) (by simp [hl]) (fun i hi => by
    rw [Nat.zero_add, cell_of_row _ w.heap.size i (Lib.byteCells l).toArray _ _ (heap_alloc_new w _)]
    simp [Lib.byteCells, List.getElem?_eq_getElem (show i < l.length by omega)]) 9 Tryd.underlying9
  rw [hb]
  congr 2
  apply ByteArray.ext
  apply Array.toList_inj.1
  rw [strOfNums_data, List.map_map]
  refine (List.map_congr_left (g := id) ?_).trans (List.map_id l)
  intro x _
  simp

set_option maxRecDepth 100000 in
set_option maxHeartbeats 400000 in
/-- 'Text(d)'. -/
theorem text_any (l : List UInt8) (hl : l.length = 16) (w : World) :
    Calls Tryd.prog 29 #[.agg (Lib.byteCells l).toArray] w fun e w' => e = .returned (.string ⟨l.toArray⟩) ∧ Below w.heap.size w w' := by
  have hc := text_conv w l hl
  have HB := hide (show Below w.heap.size w (w.alloc (.cells (Lib.byteCells l).toArray 65)) from (Below.refl _ _).alloc (Nat.le_refl _) _)
  generalize (Lib.byteCells l).toArray = C at hc HB
  go_enter Tryd.func29, Tryd.ntmps29
  go_wp2
  go_ret
  exact ⟨rfl, HB.out⟩

end Go.Proofs.YtmbdjgfbhblifaaDoor
