/- A laying of the library's own contracts at this program: slices.Delete[[]string,string]. -/
import Derived.Test.YtoflohomnoppnaaProg
import Derived.WalkKit
import Derived.Shelf.SlLaysE
namespace Go.Proofs.Ytoflohomnoppnaa
open Go.RowKit Go.Shelf

def delSRen : Ren := ⟨fun | 45 => 34 | n => n, fun | 22 => 29 | 23 => 9 | n => n, fun  | n => n⟩
theorem delSLays : SlLaysE.n45 Try.prog delSRen := {
  mixed := by kernel_rfl,
  f45 := Exists.intro "slices.Delete[[]string,string]" ⟨by decide +kernel, by kernel_rfl⟩,
  t0 := by kernel_rfl,
  a0 := fun w => by kernel_rfl,
  z0 := fun w => by kernel_rfl,
  v0 := fun w => by kernel_rfl,
  t3 := by kernel_rfl,
  a3 := fun w => by kernel_rfl,
  z3 := fun w => by kernel_rfl,
  v3 := fun w => by kernel_rfl,
  t4 := by kernel_rfl,
  a4 := fun w => by kernel_rfl,
  z4 := fun w => by kernel_rfl,
  v4 := fun w => by kernel_rfl,
  t22 := by kernel_rfl,
  a22 := fun w => by kernel_rfl,
  z22 := fun w => by kernel_rfl,
  v22 := fun w => by kernel_rfl,
  a23 := fun w => by kernel_rfl,
  z23 := fun w => by kernel_rfl }
end Go.Proofs.Ytoflohomnoppnaa
