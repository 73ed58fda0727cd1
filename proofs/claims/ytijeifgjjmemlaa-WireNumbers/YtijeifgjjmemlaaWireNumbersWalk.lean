/- The walk of the law WireNumbers: for every three ints and every string of at most 2^47 bytes it returns true, and of what was there nothing has turned. -/
import Derived.Test.YtijeifgjjmemlaaAlive
import Derived.Test.YtijeifgjjmemlaaRefNum
import Derived.OpenShut
namespace Go.Proofs.Ytijeifgjjmemlaa
open Go.RowKit

set_option maxHeartbeats 400000 in
theorem wireNumbers_walk (v n : Int) (b : ByteArray) (a : Int) (wv : (Lit.int .i64 v).wf = true) (wn : (Lit.int .i64 n).wf = true) (hb : b.size ≤ 140737488351232) (_wa : (Lit.int .i64 a).wf = true) (w : World) :
    Calls Try.prog 3 #[.int .i64 v, .int .i64 n, .string b, .int .i64 a] w fun e w' => e = .returned (.bool true) ∧ Below w.heap.size w w' := by
  have bv := bounds_i64 wv
  have bn := bounds_i64 wn
  clear wv wn _wa
  by_cases hl : b.size ≤ 20000
  · have H1 := hide (put_any v n (by omega))
    have H2 := hide (refPut_any v n (by omega))
    have H3 := hide (get_any b (by unfold maxLen; omega) a n)
    have H4 := hide (refGet_any b (by unfold maxLen; omega) a n)
    generalize (putF v n).2 = e1 at H1 H2
    generalize (⟨(putF v n).1.toArray⟩ : ByteArray) = s1 at H1 H2
    generalize (getF b.data.toList a n).2 = e2 at H3 H4
    generalize ((getF b.data.toList a n).1 : Int) = x2 at H3 H4
    clear bv bn
    go_enter Try.func3, Try.ntmps3
    go_wp2_with (first
      | (go_at_call 9; refine (H1.out _).mono ?_; rintro e w1 ⟨rfl, hb1⟩)
      | (go_at_call 10; refine (H2.out _).mono ?_; rintro e w2 ⟨rfl, hb2⟩)
      | (go_at_call 11; refine (H3.out _).mono ?_; rintro e w3 ⟨rfl, rfl⟩)
      | (go_at_call 12; refine (H4.out _).mono ?_; rintro e w4 ⟨rfl, rfl⟩)
      | (go_at_call 8; refine (alive_any _).mono ?_; rintro e w5 ⟨rfl, hb5⟩))
    go_ret
    exact ⟨rfl, below_next (below_next hb1 hb2) hb5⟩
  · clear bv bn
    go_enter Try.func3, Try.ntmps3
    go_wp2_with (go_at_call 8; refine (alive_any _).mono ?_; rintro e w3 ⟨rfl, hb3⟩)
    go_ret
    exact ⟨rfl, by assumption⟩
end Go.Proofs.Ytijeifgjjmemlaa
