/- The contract of the document's own Chap: the answer to every challenge. -/
import Derived.Test.YtmbdjgfbhblifaaDoorChapD
import Derived.Test.YtmbdjgfbhblifaaDoorRefLow1
import Derived.Test.YtmbdjgfbhblifaaDoorDigestSame
import Derived.Test.YtmbdjgfbhblifaaDoorRefMd5
namespace Go.Proofs.YtmbdjgfbhblifaaDoor
open Go.RowKit

set_option maxRecDepth 100000 in
set_option maxHeartbeats 1000000 in
theorem refChap_any (k : Int) (s c : ByteArray) (hs : s.size ≤ 1099510000000) (hc : c.size ≤ 1000000) (w : World) :
    Calls Tryd.prog 27 #[.int .i64 k, .string s, .string c] w fun e w' => e = .returned (.string ⟨(chapF k s.data.toList c.data.toList).toArray⟩) ∧ Below w.heap.size w w' := by
  have hl := refLow1_any k
  obtain ⟨L, hL⟩ : ∃ L : ByteArray, L = ⟨(lowI k 1).toArray⟩ := ⟨_, rfl⟩
  rw [← hL] at hl
  have h1 : L.size = 1 := by rw [hL, Lib.size_eq]; exact lowI_length k 1
  have hm := refMd5_any (L ++ s ++ c) (by rw [ByteArray.size_append, ByteArray.size_append]; omega)
  have e : md5F (L ++ s ++ c).data.toList = chapF k s.data.toList c.data.toList := by
    unfold chapF
    rw [hL]
    congr 1
  rw [e] at hm
  have ht := refText_any (chapF k s.data.toList c.data.toList) (chapF_length _ _ _)
  generalize (Lib.byteCells (chapF k s.data.toList c.data.toList)).toArray = D at hm ht
  generalize (⟨(chapF k s.data.toList c.data.toList).toArray⟩ : ByteArray) = R at ht
  have HL := hide hl
  have HM := hide hm
  have HX := hide ht
  have h1' : L.size ≤ 1 := by omega
  clear hm ht hl e hL h1
  go_enter Tryd.func27, Tryd.ntmps27
  go_wp2_with fail
  refine (HL.out _).mono ?_
  rintro e w0 ⟨rfl, hb0⟩
  go_wp2_with fail
  refine (HM.out _).mono ?_
  rintro e w1 ⟨rfl, hb1⟩
  go_wp2_with fail
  refine (HX.out _).mono ?_
  rintro e w2 ⟨rfl, hb2⟩
  go_wp2
  go_ret
  exact ⟨rfl, below_next (below_next hb0 hb1) hb2⟩
end Go.Proofs.YtmbdjgfbhblifaaDoor
