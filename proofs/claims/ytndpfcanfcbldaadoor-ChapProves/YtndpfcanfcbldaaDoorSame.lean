/- The contracts of package digest's Text and Same: what each returns, for every argument of its kind. -/
import Derived.Test.YtndpfcanfcbldaaDoorPadding
import Derived.Deep.MidRow
namespace Go.Proofs.YtndpfcanfcbldaaDoor
open Go.RowKit

set_option maxRecDepth 100000 in
theorem text_conv (w : World) (l : List UInt8) (hl : l.length = 16) : (convert 50 9 (.slice (some ⟨w.heap.size, 0, none⟩) 16 16)).run Tryd.prog (w.alloc (.cells (Lib.byteCells l).toArray 48)) = .ok (.string ⟨l.toArray⟩) (w.alloc (.cells (Lib.byteCells l).toArray 48)) := by
  have hb := run_convert_bytes_arg (P := Tryd.prog) (w.alloc (.cells (Lib.byteCells l).toArray 48)) 50 5 Tryd.underlying50 Tryd.underlying5 w.heap.size 0 16 16 (l.map fun b => (b.toNat : Int)) (by simp [hl]) (fun i hi => by
    rw [Nat.zero_add, cell_of_row _ w.heap.size i (Lib.byteCells l).toArray _ _ (heap_alloc_new w _)]
    simp [Lib.byteCells, List.getElem?_eq_getElem (show i < l.length by omega)]) 9 Tryd.underlying9
  rw [hb]
  congr 2
  apply ByteArray.ext
  apply Array.toList_inj.1
  rw [strOfNums_data, List.map_map]
  refine (List.map_congr_left (g := id) ?_).trans (List.map_id l)
  intro x _
  simp

set_option maxRecDepth 100000 in
set_option maxHeartbeats 400000 in
/-- 'Text(d)'. -/
theorem text_any (l : List UInt8) (hl : l.length = 16) (w : World) :
    Calls Tryd.prog 35 #[.agg (Lib.byteCells l).toArray] w fun e w' => e = .returned (.string ⟨l.toArray⟩) ∧ Below w.heap.size w w' := by
  have hc := text_conv w l hl
  have HB := hide (show Below w.heap.size w (w.alloc (.cells (Lib.byteCells l).toArray 48)) from (Below.refl _ _).alloc (Nat.le_refl _) _)
  generalize (Lib.byteCells l).toArray = C at hc HB
  go_enter Tryd.func35, Tryd.ntmps35
  go_wp2
  go_ret
  exact ⟨rfl, HB.out⟩

set_option maxRecDepth 100000 in
theorem xor_zero (a b : Nat) : a ^^^ b = 0 ↔ a = b := by
  constructor
  · intro h
    have h2 := congrArg (a ^^^ ·) h
    simp only [← Nat.xor_assoc, Nat.xor_self, Nat.zero_xor, Nat.xor_zero] at h2
    exact h2.symm
  · rintro rfl
    exact Nat.xor_self a
set_option maxRecDepth 100000 in
theorem same_step (a b : ByteArray) (k x : Nat) (h1 : k < a.size) (h2 : k < b.size) (h : x = 0 ↔ a.data.toList.take k = b.data.toList.take k) :
    (x ||| (a[k].toNat ^^^ b[k].toNat) = 0 ↔ a.data.toList.take (k + 1) = b.data.toList.take (k + 1)) := by
  have e1 : a.data.toList.take (k + 1) = a.data.toList.take k ++ [a[k]] := by rw [List.take_succ_eq_append_getElem (by simpa using h1)]; rfl
  have e2 : b.data.toList.take (k + 1) = b.data.toList.take k ++ [b[k]] := by rw [List.take_succ_eq_append_getElem (by simpa using h2)]; rfl
  rw [e1, e2, Nat.or_eq_zero_iff, h, xor_zero]
  constructor
  · rintro ⟨h3, h4⟩
    rw [h3, UInt8.toNat_inj.1 h4]
  · intro h3
    have h4 := List.append_inj h3 (by simp; omega)
    exact ⟨h4.1, by rw [List.cons.inj h4.2 |>.1]⟩

end Go.Proofs.YtndpfcanfcbldaaDoor
