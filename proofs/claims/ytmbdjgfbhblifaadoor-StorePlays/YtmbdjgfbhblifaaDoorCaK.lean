/- The answer to a challenge, as package digest makes it. -/
import Derived.Test.YtmbdjgfbhblifaaDoorChapD
import Derived.Test.YtmbdjgfbhblifaaDoorTagKit
namespace Go.Proofs.YtmbdjgfbhblifaaDoor
open Go.RowKit

/-- The answer to a challenge. -/
def chapK (i : Int) (s v : ByteArray) : ByteArray := ⟨(chapF i s.data.toList v.data.toList).toArray⟩
theorem chapK_size (i : Int) (s v : ByteArray) : (chapK i s v).size = 16 := by
  rw [Lib.size_eq]
  exact chapF_length _ _ _
theorem chapK_any (i : Int) (s v : ByteArray) (hs : s.size ≤ 60) (hv : v.size ≤ 60) (W : World) (hT : Tables W) :
    Calls Tryd.prog 19 #[.int .i64 i, .string s, .string v] W fun e w' => e = .returned (.string (chapK i s v)) ∧ Kept (fun _ => False) W w' :=
  (chap_any i s v (by omega) (by omega) W hT).mono fun _ _ ⟨he, hb⟩ => ⟨he, kept_of hb⟩
theorem tab_kept {W W' : World} (hT : Tables W) (hk : Kept (fun _ => False) W W') : Tables W' := hT.next (below_of hk)
/-- The tables stay where nothing turns but the block b. -/
def TabB (b : Nat) (W : World) : Prop := ∀ W', Kept (fun i => i = b) W W' → Tables W'
theorem TabB.mk {w W : World} {b : Nat} (hT : Tables w) (hb : Below w.heap.size w W) (hl : w.heap.size ≤ b) : TabB b W := fun W' hk => hT.next (hb.trans (hk.below hb.size (fun i hi => by omega)))
theorem TabB.next {W W' : World} {b : Nat} (h : TabB b W) (hk : Kept (fun i => i = b) W W') : TabB b W' := fun W2 hk2 => h W2 (hk.trans hk2)
theorem TabB.tab {W : World} {b : Nat} (h : TabB b W) : Tables W := h W (Kept.refl _ _)
end Go.Proofs.YtmbdjgfbhblifaaDoor
