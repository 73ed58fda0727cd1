/- The contract of the document's Send of what is too long. -/
import Derived.Test.YtegofkpiipomfaaRefSendKit
namespace Go.Proofs.Ytegofkpiipomfaa
open Go.RowKit

set_option maxHeartbeats 400000 in
theorem refSend_long (r : Nat) (k i : Int) (x : ByteArray) (hx : 1514 < x.size) (hx2 : x.size ≤ 140737488351232) (w : World) :
    Calls Try.prog 7 #[.pointer (some ⟨r, 0, none⟩), .agg #[.int .i64 k, .int .i64 i, .string x]] w fun e w' => e = .returned (.int .i64 2) ∧ Kept (fun _ => False) w w' := by
  have HK := hid ((Kept.refl (fun _ => False) w).alloc (.cells #[.int .i64 k, .int .i64 i, .string x] 39))
  go_enter Try.func7, Try.ntmps7
  go_wp2
  go_ret
  exact ⟨rfl, HK.out⟩
end Go.Proofs.Ytegofkpiipomfaa
