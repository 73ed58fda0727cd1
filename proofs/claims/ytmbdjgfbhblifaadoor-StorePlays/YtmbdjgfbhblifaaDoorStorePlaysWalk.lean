/- The walk of StorePlays, for every input. -/
import Derived.Test.YtmbdjgfbhblifaaDoorStorePlaysGood
import Derived.Test.YtmbdjgfbhblifaaDoorStorePlaysZero
import Derived.Test.YtmbdjgfbhblifaaDoorStorePlaysBad
namespace Go.Proofs.YtmbdjgfbhblifaaDoor
open Go.RowKit

set_option maxHeartbeats 2000000 in
set_option maxRecDepth 100000 in
theorem storePlays_walk (limit calm : Int) (zero : Bool) (v : Value) (l : List Op15) (w : World) (_ : -9223372036854775808 ≤ limit ∧ limit ≤ 9223372036854775807) (_ : -9223372036854775808 ≤ calm ∧ calm ≤ 9223372036854775807) (hv : Ops15 w v l) (_ : l.length ≤ maxLen) (hfit : ∀ x ∈ l, Fit15 x) (hT : Tables w) :
    Calls Tryd.prog 3 #[.int .i64 limit, .int .i64 calm, .bool zero, v] w fun e w' => e = .returned (.bool true) ∧ Below w.heap.size w w' := by
  have fin : ∀ {e : Ending} {w' : World}, (e = .returned (.bool true) ∧ Kept (fun _ => False) w w') → (e = .returned (.bool true) ∧ Below w.heap.size w w') := fun h => ⟨h.1, h.2.below (Nat.le_refl _) (fun i hi => hi.elim)⟩
  refine Calls.mono (R := fun e w' => e = .returned (.bool true) ∧ Kept (fun _ => False) w w') ?_ fun _ _ h => fin h
  clear fin
  have Ha := hid alive15_any
  by_cases hl : l.length ≤ 300
  · by_cases hg : 0 ≤ limit ∧ limit ≤ 100 ∧ 1 ≤ calm ∧ calm ≤ 1000
    · cases zero with
      | false => exact storePlays_good limit calm v l w hv hfit hl hg hT
      | true => exact storePlays_zero limit calm v l w hv hfit hl hg hT
    · cases zero with
      | true => exact storePlays_bad limit calm v l w hv hfit hl hg hT
      | false =>
        obtain ⟨p, cap, rfl⟩ := RowsAt.slice hv
        have hz : ¬ (300 : Int) < (l.length : Int) := by omega
        have C1 := hid (new_any limit calm w)
        have C2 := hid (fun W => rNewStore_any limit calm W)
        have HG := hid hg
        clear hv hfit hT hg
        go_enter Tryd.func3, Tryd.ntmps3
        go_wp2_with fail
        refine C1.out.mono ?_
        intro e w1 h1
        rcases h1 with ⟨_, rfl, hw1⟩ | ⟨h1, _⟩
        case inr => exact absurd h1 HG.out
        rw [hw1]
        clear C1 hw1 w1
        go_wp2_with fail
        refine (C2.out _).mono ?_
        rintro e w2 ⟨h2, hk2⟩
        rcases h2 with ⟨_, rfl⟩ | ⟨h2, _⟩
        case inr => exact absurd h2 HG.out
        have K2 := hid hk2
        clear hk2
        go_wp2_with fail
        refine (Ha.out _).mono ?_
        rintro e w3 ⟨rfl, hk3⟩
        have K3 := hid (K2.out.trans hk3)
        clear hk3
        go_wp2
        go_ret
        exact ⟨rfl, K3.out⟩
  · obtain ⟨p, cap, rfl⟩ := RowsAt.slice hv
    have hz : (300 : Int) < (l.length : Int) := by omega
    clear hv hfit hT hl
    go_enter Tryd.func3, Tryd.ntmps3
    go_wp2_with fail
    refine (Ha.out _).mono ?_
    rintro e w3 ⟨rfl, hk3⟩
    go_wp2
    go_ret
    exact ⟨rfl, hk3⟩
end Go.Proofs.YtmbdjgfbhblifaaDoor
