/- The contract of tollgatelaw1.alive: it returns true, and of what was there nothing has turned. -/
import Derived.Test.YtdceopnjokdblaaDoorHex
namespace Go.Proofs.YtdceopnjokdblaaDoor
open Go.RowKit

theorem one_put : putF 258 2 = ([1, 2], 0) := by decide +kernel
theorem one_get : getF [1, 2] 0 2 = (258, 0) := by decide +kernel
theorem one_ppp : getPppF [192, 33, 120] = (49185, [120], 0) := by decide +kernel
theorem one_fcs : fcs [49, 50, 51, 52, 53, 54, 55, 56, 57] = 36974 := by decide +kernel
theorem one_hex : hexF [15, 160] = [48, 102, 97, 48] := by decide +kernel

theorem a_put (w : World) : Calls Tryd.prog 14 #[.int .i64 258, .int .i64 2] w fun e w' => e = .returned (.tuple #[.string ⟨#[1, 2]⟩, .int .i64 0]) ∧ Below w.heap.size w w' := by
  have h := put_any 258 2 (by decide) w
  rw [one_put] at h
  exact h
theorem a_get (w : World) : Calls Tryd.prog 15 #[.string ⟨#[1, 2]⟩, .int .i64 0, .int .i64 2] w fun e w' => e = .returned (.tuple #[.int .i64 258, .int .i64 0]) ∧ w' = w := by
  have h := get_any ⟨#[1, 2]⟩ (by decide +kernel) 0 2 w
  simp only [one_get] at h
  exact h
theorem a_ppp (w : World) : Calls Tryd.prog 16 #[.string ⟨#[192, 33, 120]⟩] w fun e w' => e = .returned (.tuple #[.int .i64 49185, .string ⟨#[120]⟩, .int .i64 0]) ∧ Below w.heap.size w w' := by
  have h := getPpp_any ⟨#[192, 33, 120]⟩ (by decide +kernel) w
  simp only [one_ppp] at h
  exact h
theorem a_fcs (w : World) : Calls Tryd.prog 17 #[.string ⟨#[49, 50, 51, 52, 53, 54, 55, 56, 57]⟩] w fun e w' => e = .returned (.int .i64 36974) ∧ w' = w := by
  have h := fcs_any ⟨#[49, 50, 51, 52, 53, 54, 55, 56, 57]⟩ (by decide +kernel) w
  simp only [one_fcs] at h
  exact h
theorem a_hex (w : World) : Calls Tryd.prog 12 #[.string ⟨#[15, 160]⟩] w fun e w' => e = .returned (.string ⟨#[48, 102, 97, 48]⟩) ∧ Below w.heap.size w w' := by
  have h := hex_any ⟨#[15, 160]⟩ (by decide +kernel) w
  simp only [one_hex] at h
  exact h

set_option maxHeartbeats 400000 in
theorem alive_any (w : World) : Calls Tryd.prog 5 #[] w fun e w' => e = .returned (.bool true) ∧ Below w.heap.size w w' := by
  go_enter Tryd.func5, Tryd.ntmps5
  go_wp2_with (first
    | (go_at_call 14; refine (a_put _).mono ?_; rintro e w1 ⟨rfl, hb1⟩)
    | (go_at_call 15; refine (a_get _).mono ?_; rintro e w2 ⟨rfl, rfl⟩)
    | (go_at_call 16; refine (a_ppp _).mono ?_; rintro e w3 ⟨rfl, hb3⟩)
    | (go_at_call 17; refine (a_fcs _).mono ?_; rintro e w4 ⟨rfl, rfl⟩)
    | (go_at_call 12; refine (a_hex _).mono ?_; rintro e w5 ⟨rfl, hb5⟩))
  go_ret
  exact ⟨rfl, below_next (below_next hb1 hb3) hb5⟩
end Go.Proofs.YtdceopnjokdblaaDoor
