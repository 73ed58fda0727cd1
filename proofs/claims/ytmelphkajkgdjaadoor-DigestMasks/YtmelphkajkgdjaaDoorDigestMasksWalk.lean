/- The walk of the law DigestMasks: for every kind, secret, vector and value it returns true (each string of at most 2^47 bytes), where the two tables hold what the program's text lays. -/
import Derived.Test.YtmelphkajkgdjaaDoorAlive2
import Derived.Test.YtmelphkajkgdjaaDoorRefMask
import Derived.OpenShut
namespace Go.Proofs.YtmelphkajkgdjaaDoor
open Go.RowKit

set_option maxHeartbeats 2000000 in
theorem digestMasks_walk (k : Int) (s c v : ByteArray) (_wk : (Lit.int .i64 k).wf = true) (hs : s.size ≤ 140737488351232) (hc : c.size ≤ 140737488351232) (hv : v.size ≤ 140737488351232) (w : World) (hT : Tables w) :
    Calls Tryd.prog 6 #[.int .i64 k, .string s, .string c, .string v] w fun e w' => e = .returned (.bool true) ∧ Below w.heap.size w w' := by
  have HT := hide hT
  clear hT _wk
  by_cases hl : s.size + c.size + v.size ≤ 3000
  · have h1 := fun W hT => mask_any k s c v (by omega) (by omega) (by omega) W hT
    have h2 := refMask_all k s c v (by omega) (by omega) (by omega)
    have h3 := fun W hT => unmask_any k s c v (by omega) (by omega) (by omega) W hT
    have h4 := refUnmask_all k s c v (by omega) (by omega) (by omega)
    generalize (⟨(maskF false (firstF k s.data.toList c.data.toList) s.data.toList v.data.toList).toArray⟩ : ByteArray) = X at h1 h2
    generalize (⟨(maskF true (firstF k s.data.toList c.data.toList) s.data.toList v.data.toList).toArray⟩ : ByteArray) = Y at h3 h4
    have H1 := hide h1
    have H2 := hide h2
    have H3 := hide h3
    have H4 := hide h4
    clear h1 h2 h3 h4
    go_enter Tryd.func6, Tryd.ntmps6
    go_wp2_with fail
    refine (alive_any _ HT.out).mono ?_
    rintro e w1 ⟨rfl, hb1⟩
    go_wp2_with fail
    refine (H1.out _ (HT.out.next hb1)).mono ?_
    rintro e w2 ⟨rfl, hb2⟩
    have hb12 := below_next hb1 hb2
    go_wp2_with fail
    refine (H2.out _).mono ?_
    rintro e w3 ⟨rfl, hb3⟩
    have hb13 := below_next hb12 hb3
    go_wp2_with fail
    refine (H3.out _ (HT.out.next hb13)).mono ?_
    rintro e w4 ⟨rfl, hb4⟩
    have hb14 := below_next hb13 hb4
    go_wp2_with fail
    refine (H4.out _).mono ?_
    rintro e w5 ⟨rfl, hb5⟩
    have hb15 := below_next hb14 hb5
    go_wp2
    go_ret
    exact ⟨rfl, hb15⟩
  · go_enter Tryd.func6, Tryd.ntmps6
    go_wp2_with (go_at_call 9; refine (alive_any _ HT.out).mono ?_; rintro e w3 ⟨rfl, hb3⟩)
    go_ret
    exact ⟨rfl, by assumption⟩
end Go.Proofs.YtmelphkajkgdjaaDoor
