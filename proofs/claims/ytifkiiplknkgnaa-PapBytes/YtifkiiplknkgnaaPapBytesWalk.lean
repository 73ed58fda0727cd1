/- The law PapBytes: it returns true for every name, secret and bytes, and leaves what was there. -/
import Derived.Test.YtifkiiplknkgnaaPaAlive
import Derived.Test.YtifkiiplknkgnaaPaRef
namespace Go.Proofs.Ytifkiiplknkgnaa
open Go.RowKit

set_option maxHeartbeats 1000000 in
set_option maxRecDepth 100000 in
theorem papBytes_walk (n s b : ByteArray) (w : World) (hn : n.size ≤ 140737488351232) (hs : s.size ≤ 140737488351232) (hb : b.size ≤ 140737488351232) :
    Calls Try.prog 3 #[.string n, .string s, .string b] w fun e w' => e = .returned (.bool true) ∧ Below w.heap.size w w' := by
  have Ha := hid aliveP_any
  by_cases h0 : 3000 < n.size + s.size + b.size
  · have h0z : (3000 : Int) < (n.size : Int) + (s.size : Int) + (b.size : Int) := by omega
    clear h0
    go_enter Try.func3, Try.ntmps3
    go_wp2_with fail
    refine (Ha.out _).mono ?_
    rintro e w2 ⟨rfl, hk2⟩
    go_wp2
    go_ret
    exact ⟨rfl, below_of hk2⟩
  · have h0z : ¬ (3000 : Int) < (n.size : Int) + (s.size : Int) + (b.size : Int) := by omega
    have C1 := hid (putReq_any n s hn hs)
    have C2 := hid (rPutReq_any n s hn hs)
    have C3 := hid (getReq_any b hb)
    have C4 := hid (rGetReq_any b hb)
    have C5 := hid (putSay_any n hn)
    have C6 := hid (rPutSay_any n hn)
    have C7 := hid (getSay_any b hb)
    have C8 := hid (rGetSay_any b hb)
    generalize putReqF n s = R1 at *
    obtain ⟨X1, E1⟩ := R1
    generalize getReqF b = R2 at *
    obtain ⟨X2, Y2, E2⟩ := R2
    generalize putSayF n = R3 at *
    obtain ⟨X3, E3⟩ := R3
    generalize getSayF b = R4 at *
    obtain ⟨X4, E4⟩ := R4
    simp only at C1 C2 C3 C4 C5 C6 C7 C8
    clear h0
    go_enter Try.func3, Try.ntmps3
    go_wp2_with fail
    refine (C1.out _).mono ?_
    rintro e w1 ⟨rfl, hk1⟩
    go_wp2_with fail
    refine (C2.out _).mono ?_
    rintro e w2 ⟨rfl, hk2⟩
    go_wp2_with fail
    refine (C3.out _).mono ?_
    rintro e w3 ⟨rfl, hk3⟩
    go_wp2_with fail
    refine (C4.out _).mono ?_
    rintro e w4 ⟨rfl, hk4⟩
    go_wp2_with fail
    refine (C5.out _).mono ?_
    rintro e w5 ⟨rfl, hk5⟩
    go_wp2_with fail
    refine (C6.out _).mono ?_
    rintro e w6 ⟨rfl, hk6⟩
    go_wp2_with fail
    refine (C7.out _).mono ?_
    rintro e w7 ⟨rfl, hk7⟩
    go_wp2_with fail
    refine (C8.out _).mono ?_
    rintro e w8 ⟨rfl, hk8⟩
    go_wp2_with fail
    refine (Ha.out _).mono ?_
    rintro e w9 ⟨rfl, hk9⟩
    have HK := hid ((((((((hk1.trans hk2).trans hk3).trans hk4).trans hk5).trans hk6).trans hk7).trans hk8).trans hk9)
    clear hk1 hk2 hk3 hk4 hk5 hk6 hk7 hk8 hk9
    go_wp2
    go_ret
    exact ⟨rfl, below_of HK.out⟩
end Go.Proofs.Ytifkiiplknkgnaa
