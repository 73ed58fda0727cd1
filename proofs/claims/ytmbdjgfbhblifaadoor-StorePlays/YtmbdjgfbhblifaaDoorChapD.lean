/- The contract of package digest's Chap: the answer to every challenge. -/
import Derived.Test.YtmbdjgfbhblifaaDoorSame
import Derived.Test.YtmbdjgfbhblifaaDoorMd5
import Derived.Test.YtmbdjgfbhblifaaDoorLowI
import Derived.Test.YtmbdjgfbhblifaaDoorOneConv
namespace Go.Proofs.YtmbdjgfbhblifaaDoor
open Go.RowKit

def chapF (k : Int) (s c : List UInt8) : List UInt8 := md5F (lowI k 1 ++ s ++ c)
set_option maxRecDepth 100000 in
theorem chapF_length (k : Int) (s c : List UInt8) : (chapF k s c).length = 16 := md5F_length _
theorem chapF_same (k l : Int) (s c : List UInt8) (h : k % 256 = l % 256) : chapF k s c = chapF l s c := by
  unfold chapF lowI lowI
  rw [h]

set_option maxRecDepth 100000 in
set_option maxHeartbeats 1000000 in
theorem chap_any (k : Int) (s c : ByteArray) (hs : s.size ≤ 1099511627776) (hc : c.size ≤ 1099511627776) (w : World) (hT : Tables w) :
    Calls Tryd.prog 19 #[.int .i64 k, .string s, .string c] w fun e w' => e = .returned (.string ⟨(chapF k s.data.toList c.data.toList).toArray⟩) ∧ Below w.heap.size w w' := by
  obtain ⟨X, hX⟩ : ∃ X, X = UInt8.ofNat (k % 256).toNat := ⟨_, rfl⟩
  have eX : k % 256 = (X.toNat : Int) := by rw [hX, UInt8.toNat_ofNat']; omega
  have hcv := one_conv w X
  have hb0 : Below w.heap.size w (w.alloc (.cells #[.int .u8 (X.toNat : Int)] 5)) := (Below.refl _ _).alloc (Nat.le_refl _) _
  have h1 : (⟨#[X]⟩ : ByteArray).size = 1 := rfl
  have hm := md5_any (⟨#[X]⟩ ++ s ++ c) (by rw [ByteArray.size_append, ByteArray.size_append]; omega) _ (hT.next hb0)
  have e : md5F (⟨#[X]⟩ ++ s ++ c : ByteArray).data.toList = chapF k s.data.toList c.data.toList := by
    unfold chapF lowI lowI
    rw [← hX]
    congr 1
  rw [e] at hm
  have ht := text_any (chapF k s.data.toList c.data.toList) (chapF_length _ _ _)
  generalize (Lib.byteCells (chapF k s.data.toList c.data.toList)).toArray = D at hm ht
  generalize (⟨(chapF k s.data.toList c.data.toList).toArray⟩ : ByteArray) = R at ht
  have HM := hide hm
  have HX := hide ht
  have HB := hide hb0
  clear hm ht hb0 e hX hT
  go_enter Tryd.func19, Tryd.ntmps19
  go_wp2_with fail
  refine HM.out.mono ?_
  rintro e w1 ⟨rfl, hb1⟩
  go_wp2_with fail
  refine (HX.out _).mono ?_
  rintro e w2 ⟨rfl, hb2⟩
  go_wp2
  go_ret
  exact ⟨rfl, HB.out.trans ((below_next hb1 hb2).mono (by simp))⟩

end Go.Proofs.YtmbdjgfbhblifaaDoor
