/- The contract of Timeout. -/
import Derived.Test.YtklapjfljffahaaGreatAuDo
import Derived.Test.YtklapjfljffahaaGreatAuWaits
namespace Go.Proofs.YtklapjfljffahaaGreat
open Go.RowKit

set_option maxHeartbeats 1000000 in
set_option maxRecDepth 100000 in
theorem time_any (b : Nat) (c : Au) (hg : GoodA c) (w : World) (h : AutoIn w b c) :
    Calls Tryz.prog 69 #[.pointer (some ⟨b, 0, none⟩)] w fun en w' => ∃ v, en = .returned v ∧ AutoIn w' b (timeF c).2 ∧ OwnI w' w.heap.size v (timeF c).1 ∧ Kept (fun i => i = b) w w' := by
  have c3 := h.c3
  have HW := hid (waits_any b c hg w h)
  have H4 := hid (do_any b c hg 4 ⟨by decide, by decide⟩ w h)
  have H5 := hid (do_any b c hg 5 ⟨by decide, by decide⟩ w h)
  have H := hid h
  unfold timeF
  cases hq : waitsF c with
  | false =>
    rw [hq] at HW
    simp only [Bool.false_eq_true, if_false]
    clear h hg hq
    go_enter Tryz.func69, Tryz.ntmps69
    go_wp2_with (go_at_call 67; refine HW.out.mono ?_; rintro e w' ⟨rfl, hw⟩; rw [hw]; clear hw w')
    go_ret
    exact ⟨_, rfl, H.out, OwnI.nil _ _, Kept.refl _ _⟩
  | true =>
    rw [hq] at HW
    simp only [if_true]
    clear h hg hq
    by_cases h0 : 0 < c.ct
    · rw [if_pos h0]
      go_enter Tryz.func69, Tryz.ntmps69
      go_wp2_with (first | (go_at_call 67; refine HW.out.mono ?_; rintro e w' ⟨rfl, hw⟩; rw [hw]; clear hw w'))
      refine H4.out.mono ?_
      rintro e w' ⟨v, rfl, ha, ho, hk⟩
      clear HW H4 H5
      go_wp2
      go_ret
      exact ⟨v, rfl, ha, ho, hk⟩
    · rw [if_neg h0]
      go_enter Tryz.func69, Tryz.ntmps69
      go_wp2_with (first | (go_at_call 67; refine HW.out.mono ?_; rintro e w' ⟨rfl, hw⟩; rw [hw]; clear hw w'))
      refine H5.out.mono ?_
      rintro e w' ⟨v, rfl, ha, ho, hk⟩
      clear HW H4 H5
      go_wp2
      go_ret
      exact ⟨v, rfl, ha, ho, hk⟩
end Go.Proofs.YtklapjfljffahaaGreat
