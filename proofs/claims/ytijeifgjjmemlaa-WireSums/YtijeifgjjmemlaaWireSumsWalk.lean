/- The walk of the law WireSums: for every string of at most 2^47 bytes it returns true, and of what was there nothing has turned. -/
import Derived.Test.YtijeifgjjmemlaaAlive
import Derived.Test.YtijeifgjjmemlaaRefSum
namespace Go.Proofs.Ytijeifgjjmemlaa
open Go.RowKit

set_option maxHeartbeats 400000 in
theorem wireSums_walk (b : ByteArray) (hb : b.size ≤ 140737488351232) (w : World) :
    Calls Try.prog 4 #[.string b] w fun e w' => e = .returned (.bool true) ∧ Below w.heap.size w w' := by
  by_cases hl : b.size ≤ 9000
  · have H1 := hide (unseal_any b (by omega))
    have H2 := hide (refUnseal_any b (by omega))
    have H3 := hide (fcs_any b (by unfold maxLen; omega))
    have H4 := hide (refFcs_any b (by unfold maxLen; omega))
    have H5 := hide (seal_any b (by omega))
    have H6 := hide (refSeal_any b (by omega))
    generalize (unsealF b.data.toList).2 = e1 at H1 H2
    generalize (⟨(unsealF b.data.toList).1.toArray⟩ : ByteArray) = s1 at H1 H2
    generalize (⟨(sealF b.data.toList).toArray⟩ : ByteArray) = s2 at H5 H6
    generalize (fcs b.data.toList : Int) = x at H3 H4
    go_enter Try.func4, Try.ntmps4
    go_wp2_with (first
      | (go_at_call 13; refine (H1.out _).mono ?_; rintro e w1 ⟨rfl, hb1⟩)
      | (go_at_call 14; refine (H2.out _).mono ?_; rintro e w2 ⟨rfl, hb2⟩)
      | (go_at_call 8; refine (alive_any _).mono ?_; rintro e w3 ⟨rfl, hb3⟩)
      | (go_at_call 15; refine (H3.out _).mono ?_; rintro e w4 ⟨rfl, rfl⟩)
      | (go_at_call 16; refine (H4.out _).mono ?_; rintro e w5 ⟨rfl, rfl⟩)
      | (go_at_call 17; refine (H5.out _).mono ?_; rintro e w6 ⟨rfl, hb6⟩)
      | (go_at_call 18; refine (H6.out _).mono ?_; rintro e w7 ⟨rfl, hb7⟩))
    go_ret
    exact ⟨rfl, below_next (below_next (below_next (below_next hb1 hb2) hb3) hb6) hb7⟩
  · go_enter Try.func4, Try.ntmps4
    go_wp2_with (go_at_call 8; refine (alive_any _).mono ?_; rintro e w3 ⟨rfl, hb3⟩)
    go_ret
    exact ⟨rfl, by assumption⟩
end Go.Proofs.Ytijeifgjjmemlaa
