/- The contracts of the book's copyOptions. -/
import Derived.Test.YtndpfcanfcbldaaGreatDoorBgGrow
namespace Go.Proofs.YtndpfcanfcbldaaGreatDoor
open Go.RowKit

set_option maxHeartbeats 1000000 in
set_option maxRecDepth 100000 in
theorem copyOptions_any (v : Value) (l : List Tg) (w : World) (hv : TagsAt w v l) (hl : l.length ≤ 100000) :
    Calls Tryz.prog 125 #[v] w fun e w' => ∃ u, e = .returned u ∧ OwnO w' w.heap.size u l ∧ Kept (fun _ => False) w w' := by
  obtain ⟨u, w1, hr, ho, hk⟩ := appendO_run (Kept.refl (fun _ => False) w) (OwnO.nil w w.heap.size) hv (by simp; omega)
  rw [List.nil_append] at ho
  have HO := hid ho
  have HK := hid hk
  clear ho hk hv
  go_enter Tryz.func125, Tryz.ntmps125
  go_wp2_with (at_builtin; refine Lib.wpList_append_run _ rfl _ _ _ _ rfl _ _ rfl rfl _ _ (hr _) ?_)
  go_ret
  exact ⟨_, rfl, HO.out, HK.out⟩

end Go.Proofs.YtndpfcanfcbldaaGreatDoor
