/- The law ChapBytes: it returns true for every value, name and bytes, and leaves what was there, where digest's two tables hold what the program's text lays. -/
import Derived.Test.YtndpfcanfcbldaaDoorCaLive
import Derived.Test.YtndpfcanfcbldaaDoorCaRef
namespace Go.Proofs.YtndpfcanfcbldaaDoor
open Go.RowKit

set_option maxHeartbeats 1000000 in
set_option maxRecDepth 100000 in
theorem chapBytes_walk (v n b : ByteArray) (w : World) (hv : v.size ≤ 140737488351232) (hn : n.size ≤ 140737488351232) (hb : b.size ≤ 140737488351232) (hT : Tables w) :
    Calls Tryd.prog 3 #[.string v, .string n, .string b] w fun e w' => e = .returned (.bool true) ∧ Below w.heap.size w w' := by
  have Ha := hid (fun W (hk : Kept (fun _ => False) w W) => aliveH_any W (tab_kept hT hk))
  clear hT
  by_cases h0 : 3000 < v.size + n.size + b.size
  · have h0z : (3000 : Int) < (v.size : Int) + (n.size : Int) + (b.size : Int) := by omega
    clear h0
    go_enter Tryd.func3, Tryd.ntmps3
    go_wp2_with fail
    refine (Ha.out _ (Kept.refl _ _)).mono ?_
    rintro e w2 ⟨rfl, hk2⟩
    go_wp2
    go_ret
    exact ⟨rfl, below_of hk2⟩
  · have h0z : ¬ (3000 : Int) < (v.size : Int) + (n.size : Int) + (b.size : Int) := by omega
    have C1 := hid (putVal_any v n hv hn)
    have C2 := hid (rPutValue_any v n hv hn)
    have C3 := hid (getVal_any b hb)
    have C4 := hid (rGetValue_any b hb)
    generalize getValF b = R2 at *
    obtain ⟨X2, Y2, E2⟩ := R2
    simp only at C3 C4
    by_cases h1 : (putValF v n).2 = 0
    · obtain ⟨a1, a2, a3⟩ := putValF_is h1
      have C5 := hid (getVal_any (layF v ++ n) (by rw [ByteArray.size_append, layF_size]; omega))
      rw [getValF_put v n a1 a2 a3] at C5
      rw [putValF_ok a1 a2 a3] at C1 C2
      generalize layF v ++ n = X1 at *
      simp only at C1 C2 C5
      clear h0 h1 a1 a2 a3
      go_enter Tryd.func3, Tryd.ntmps3
      go_wp2_with fail
      refine (C1.out _).mono ?_
      rintro e w1 ⟨rfl, hk1⟩
      go_wp2_with fail
      refine (C2.out _).mono ?_
      rintro e w2 ⟨rfl, hk2⟩
      go_wp2_with fail
      refine (C3.out _).mono ?_
      rintro e w3 ⟨rfl, hk3⟩
      go_wp2_with fail
      refine (C4.out _).mono ?_
      rintro e w4 ⟨rfl, hk4⟩
      go_wp2_with fail
      refine (C5.out _).mono ?_
      rintro e w5 ⟨rfl, hk5⟩
      have HK := hid ((((hk1.trans hk2).trans hk3).trans hk4).trans hk5)
      clear hk1 hk2 hk3 hk4 hk5
      go_wp2_with fail
      refine (Ha.out _ HK.out).mono ?_
      rintro e w9 ⟨rfl, hk9⟩
      have HK9 := hid (HK.out.trans hk9)
      clear hk9 HK
      go_wp2
      go_ret
      exact ⟨rfl, below_of HK9.out⟩
    · generalize putValF v n = R1 at *
      obtain ⟨X1, E1⟩ := R1
      simp only at C1 C2 h1
      have hE : (E1 != 0) = true := by simpa using h1
      clear h0 h1
      go_enter Tryd.func3, Tryd.ntmps3
      go_wp2_with fail
      refine (C1.out _).mono ?_
      rintro e w1 ⟨rfl, hk1⟩
      go_wp2_with fail
      refine (C2.out _).mono ?_
      rintro e w2 ⟨rfl, hk2⟩
      go_wp2_with fail
      refine (C3.out _).mono ?_
      rintro e w3 ⟨rfl, hk3⟩
      go_wp2_with fail
      refine (C4.out _).mono ?_
      rintro e w4 ⟨rfl, hk4⟩
      have HK := hid (((hk1.trans hk2).trans hk3).trans hk4)
      clear hk1 hk2 hk3 hk4
      go_wp2_with fail
      refine (Ha.out _ HK.out).mono ?_
      rintro e w9 ⟨rfl, hk9⟩
      have HK9 := hid (HK.out.trans hk9)
      clear hk9 HK
      go_wp2
      go_ret
      exact ⟨rfl, below_of HK9.out⟩
end Go.Proofs.YtndpfcanfcbldaaDoor
