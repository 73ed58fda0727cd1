/- The contract of the laws' own first call, alive: it returns true, where the two tables hold what the program's text lays. -/
import Derived.Test.YtmelphkajkgdjaaDoorMd5
import Derived.Test.YtmelphkajkgdjaaDoorSame
namespace Go.Proofs.YtmelphkajkgdjaaDoor
open Go.RowKit

theorem rot_first : rotF 2147483649 (((4 : Int) % 32).toNat) = 24 := by decide +kernel

set_option maxHeartbeats 1000000 in
theorem alive_any (w : World) (hT : Tables w) : Calls Tryd.prog 9 #[] w fun e w' => e = .returned (.bool true) ∧ Below w.heap.size w w' := by
  have hr := rotate_any 2147483649 (by decide) 4
  rw [rot_first] at hr
  have HR : Hid (∀ w, Calls Tryd.prog 14 #[.int .u32 2147483649, .int .i64 4] w fun e w' => e = .returned (.int .u32 24) ∧ w' = w) := hr
  have hm : Calls Tryd.prog 10 #[.string ⟨#[]⟩] w fun e w' => e = .returned (.agg (Lib.byteCells (md5F [])).toArray) ∧ Below w.heap.size w w' := md5_any ⟨#[]⟩ (by decide) w hT
  have ht := text_any (md5F []) (md5F_length _)
  generalize (Lib.byteCells (md5F [])).toArray = D at hm ht
  rw [md5_none] at ht
  have HM := hide hm
  have HX := hide ht
  have HA : Hid (∀ w, Calls Tryd.prog 18 #[.string ⟨#[97]⟩, .string ⟨#[97]⟩] w fun e w' => e = .returned (.bool true) ∧ Below w.heap.size w w') := fun w => same_any ⟨#[97]⟩ ⟨#[97]⟩ (by decide) w
  have HB : Hid (∀ w, Calls Tryd.prog 18 #[.string ⟨#[97]⟩, .string ⟨#[98]⟩] w fun e w' => e = .returned (.bool false) ∧ Below w.heap.size w w') := fun w => same_any ⟨#[97]⟩ ⟨#[98]⟩ (by decide) w
  clear hr hm ht hT
  go_enter Tryd.func9, Tryd.ntmps9
  go_wp2_with fail
  refine (HR.out _).mono ?_
  rintro e w0 ⟨rfl, hw0⟩
  subst hw0
  go_wp2_with fail
  refine HM.out.mono ?_
  rintro e w1 ⟨rfl, hb1⟩
  go_wp2_with fail
  refine (HX.out _).mono ?_
  rintro e w2 ⟨rfl, hb2⟩
  go_wp2_with fail
  refine (HA.out _).mono ?_
  rintro e w3 ⟨rfl, hb3⟩
  go_wp2_with fail
  refine (HB.out _).mono ?_
  rintro e w4 ⟨rfl, hb4⟩
  go_wp2
  go_ret
  exact ⟨rfl, below_next (below_next (below_next hb1 hb2) hb3) hb4⟩
end Go.Proofs.YtmelphkajkgdjaaDoor
