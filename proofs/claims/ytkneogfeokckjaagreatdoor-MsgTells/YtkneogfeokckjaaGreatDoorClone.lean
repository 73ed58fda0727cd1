/- The contract of strings.Clone: it returns the same bytes, and of what was there nothing has turned; for every string of at most 2^48 bytes. (By the library's contract of the function that it calls.) -/
import Derived.Test.YtkneogfeokckjaaGreatDoorProg
import Derived.WalkKit
import Derived.WalkSpells
import Derived.WalkLawsBesides
import Derived.Shelf.Pu.Clone
namespace Go.Proofs.YtkneogfeokckjaaGreatDoor
open Go.RowKit Go.Shelf

def cloneRen : Ren := ⟨fun | 25 => 135 | n => n, fun | 37 => 127 | 47 => 227 | n => n, fun n => n⟩
theorem cloneLays : LaysPu.n25 Tryz.prog cloneRen := {
  mixed := by kernel_rfl, f25 := by kernel_rfl,
  t0 := by kernel_rfl, a0 := fun w => by kernel_rfl, z0 := fun w => by kernel_rfl, v0 := fun w => by kernel_rfl, i0 := by kernel_rfl,
  t3 := by kernel_rfl, a3 := fun w => by kernel_rfl, z3 := fun w => by kernel_rfl, v3 := fun w => by kernel_rfl, i3 := by kernel_rfl,
  t4 := by kernel_rfl, a4 := fun w => by kernel_rfl, z4 := fun w => by kernel_rfl, v4 := fun w => by kernel_rfl, i4 := by kernel_rfl,
  t5 := by kernel_rfl, a5 := fun w => by kernel_rfl, z5 := fun w => by kernel_rfl, v5 := fun w => by kernel_rfl, i5 := by kernel_rfl,
  t9 := by kernel_rfl, a9 := fun w => by kernel_rfl, z9 := fun w => by kernel_rfl, v9 := fun w => by kernel_rfl, i9 := by kernel_rfl,
  t37 := by kernel_rfl, a37 := fun w => by kernel_rfl, z37 := fun w => by kernel_rfl, v37 := fun w => by kernel_rfl, i37 := by kernel_rfl,
  t47 := by kernel_rfl, a47 := fun w => by kernel_rfl, z47 := fun w => by kernel_rfl, v47 := fun w => by kernel_rfl, i47 := by kernel_rfl }
theorem clone_in (s : ByteArray) (w : World) (hlim : s.size ≤ 281474976710656) :
    Calls Tryz.prog 135 #[.string s] w fun e w' => e = .returned (.string s) ∧ Below w.heap.size w w' := AnyPu.stringslite_Clone cloneLays s w hlim
set_option maxHeartbeats 400000 in
theorem clone_any (s : ByteArray) (w : World) (hlim : s.size ≤ 281474976710656) :
    Calls Tryz.prog 54 #[.string s] w fun e w' => e = .returned (.string s) ∧ Below w.heap.size w w' := by
  go_enter Tryz.func54, Tryz.ntmps54
  go_wp2_with (go_at_call 135; refine (clone_in s _ hlim).mono ?_; rintro e w' ⟨rfl, hb⟩)
  go_ret
  exact ⟨rfl, by assumption⟩
end Go.Proofs.YtkneogfeokckjaaGreatDoor
