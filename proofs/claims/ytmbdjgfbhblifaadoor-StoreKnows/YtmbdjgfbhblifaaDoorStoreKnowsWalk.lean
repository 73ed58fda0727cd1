/- The walk of StoreKnows, for every input. -/
import Derived.Test.YtmbdjgfbhblifaaDoorStoreKnowsIn
namespace Go.Proofs.YtmbdjgfbhblifaaDoor
open Go.RowKit

set_option maxHeartbeats 2000000 in
set_option maxRecDepth 100000 in
theorem storeKnows_walk (v1 : Value) (l1 : List ByteArray) (v2 : Value) (l2 : List ByteArray) (full secret value resp : ByteArray) (idn : Int) (w : World) (h1 : StrsAt w v1 l1) (h2 : StrsAt w v2 l2) (s1 : full.size ≤ 140737488351232) (s2 : secret.size ≤ 140737488351232) (s3 : value.size ≤ 140737488351232) (s4 : resp.size ≤ 140737488351232) (_ : -9223372036854775808 ≤ idn ∧ idn ≤ 9223372036854775807) (hT : Tables w) :
    Calls Tryd.prog 4 #[v1, v2, .string full, .string secret, .string value, .string resp, .int .i64 idn] w fun e w' => e = .returned (.bool true) ∧ Below w.heap.size w w' := by
  have fin : ∀ {e : Ending} {w' : World}, (e = .returned (.bool true) ∧ Kept (fun _ => False) w w') → (e = .returned (.bool true) ∧ Below w.heap.size w w') := fun h => ⟨h.1, h.2.below (Nat.le_refl _) (fun i hi => hi.elim)⟩
  by_cases h : l1.length ≤ 60 ∧ full.size + secret.size + value.size + resp.size ≤ 1000
  · exact (storeKnows_in v1 l1 v2 l2 full secret value resp idn w h1 h2 h.1 h.2 hT).mono fun _ _ h => fin h
  · refine Calls.mono (R := fun e w' => e = .returned (.bool true) ∧ Kept (fun _ => False) w w') ?_ fun _ _ h => fin h
    obtain ⟨p1, cap1, rfl⟩ := h1.slice
    obtain ⟨p2, cap2, rfl⟩ := h2.slice
    have Ha := hid alive15_any
    have w1 : IntKind.i64.wrap ((full.size : Int) + (secret.size : Int)) = (full.size : Int) + (secret.size : Int) := by rw [IntKind.wrap_i64]; omega
    have w2 : IntKind.i64.wrap ((full.size : Int) + (secret.size : Int) + (value.size : Int)) = (full.size : Int) + (secret.size : Int) + (value.size : Int) := by rw [IntKind.wrap_i64]; omega
    have w3 : IntKind.i64.wrap ((full.size : Int) + (secret.size : Int) + (value.size : Int) + (resp.size : Int)) = (full.size : Int) + (secret.size : Int) + (value.size : Int) + (resp.size : Int) := by rw [IntKind.wrap_i64]; omega
    by_cases z0 : (60 : Int) < (l1.length : Int)
    · clear h fin h1 h2 hT
      go_enter Tryd.func4, Tryd.ntmps4
      go_wp2_with fail
      refine (Ha.out _).mono ?_
      rintro e w2 ⟨rfl, h2⟩
      go_wp2
      go_ret
      exact ⟨rfl, h2⟩
    · have z1 : (1000 : Int) < (full.size : Int) + (secret.size : Int) + (value.size : Int) + (resp.size : Int) := by omega
      clear h fin h1 h2 hT
      go_enter Tryd.func4, Tryd.ntmps4
      go_wp2_with fail
      refine (Ha.out _).mono ?_
      rintro e w2 ⟨rfl, h2⟩
      go_wp2
      go_ret
      exact ⟨rfl, h2⟩
end Go.Proofs.YtmbdjgfbhblifaaDoor
