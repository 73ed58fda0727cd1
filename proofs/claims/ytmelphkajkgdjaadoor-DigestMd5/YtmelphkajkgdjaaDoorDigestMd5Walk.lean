/- The walk of the law DigestMd5: for every text of at most 2^47 bytes it returns true, where the two tables hold what the program's text lays. -/
import Derived.Test.YtmelphkajkgdjaaDoorAlive2
import Derived.Test.YtmelphkajkgdjaaDoorRefMd5
import Derived.Test.YtmelphkajkgdjaaDoorDigestSame
import Derived.OpenShut
namespace Go.Proofs.YtmelphkajkgdjaaDoor
open Go.RowKit

set_option maxHeartbeats 2000000 in
theorem digestMd5_walk (b : ByteArray) (hb : b.size ≤ 140737488351232) (w : World) (hT : Tables w) :
    Calls Tryd.prog 3 #[.string b] w fun e w' => e = .returned (.bool true) ∧ Below w.heap.size w w' := by
  have HT := hide hT
  clear hT
  by_cases hl : b.size ≤ 3000
  · have hlen := md5F_length b.data.toList
    have hM := fun W hT => md5_any b (by omega) W hT
    have hR := refMd5_any b (by omega)
    have hX := text_any (md5F b.data.toList) hlen
    have hY := refText_any (md5F b.data.toList) hlen
    have heq := digest_same (md5F b.data.toList) hlen
    generalize (Lib.byteCells (md5F b.data.toList)).toArray = D at hM hR hX hY heq
    generalize (⟨(md5F b.data.toList).toArray⟩ : ByteArray) = X at hX hY
    have HM := hide hM
    have HR := hide hR
    have HX := hide hX
    have HY := hide hY
    clear hM hR hX hY hlen
    go_enter Tryd.func3, Tryd.ntmps3
    go_wp2_with fail
    refine (alive_any _ HT.out).mono ?_
    rintro e w1 ⟨rfl, hb1⟩
    go_wp2_with fail
    refine (HM.out _ (HT.out.next hb1)).mono ?_
    rintro e w2 ⟨rfl, hb2⟩
    have hb12 := below_next hb1 hb2
    go_wp2_with fail
    refine (HR.out _).mono ?_
    rintro e w3 ⟨rfl, hb3⟩
    have hb13 := below_next hb12 hb3
    go_wp2_with fail
    refine (HM.out _ (HT.out.next hb13)).mono ?_
    rintro e w4 ⟨rfl, hb4⟩
    have hb14 := below_next hb13 hb4
    go_wp2_with fail
    refine (HX.out _).mono ?_
    rintro e w5 ⟨rfl, hb5⟩
    have hb15 := below_next hb14 hb5
    go_wp2_with fail
    refine (HR.out _).mono ?_
    rintro e w6 ⟨rfl, hb6⟩
    have hb16 := below_next hb15 hb6
    go_wp2_with fail
    refine (HY.out _).mono ?_
    rintro e w7 ⟨rfl, hb7⟩
    have hb17 := below_next hb16 hb7
    go_wp2
    go_ret
    exact ⟨rfl, hb17⟩
  · go_enter Tryd.func3, Tryd.ntmps3
    go_wp2_with (go_at_call 9; refine (alive_any _ HT.out).mono ?_; rintro e w3 ⟨rfl, hb3⟩)
    go_ret
    exact ⟨rfl, by assumption⟩
end Go.Proofs.YtmelphkajkgdjaaDoor
