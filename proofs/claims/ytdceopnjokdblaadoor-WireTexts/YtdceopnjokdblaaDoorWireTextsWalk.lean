/- The walk of the law WireTexts: for every int and every string of at most 2^47 bytes it returns true, where the library's table of powers holds what its text lays. -/
import Derived.Test.YtdceopnjokdblaaDoorWireDigitsWalk
import Derived.Test.YtdceopnjokdblaaDoorRefNumber
import Derived.Test.YtdceopnjokdblaaDoorRefUnhex
import Derived.Test.YtdceopnjokdblaaDoorRefDigits
namespace Go.Proofs.YtdceopnjokdblaaDoor
open Go.RowKit

set_option maxHeartbeats 1000000 in
theorem wireTexts_in (v x e y : Int) (s A C H : ByteArray) (hs : s.size ≤ 6000)
    (HN : ∀ W, Calls Tryd.prog 6 #[.string s] W fun e' w' => e' = .returned (.tuple #[.int .i64 x, .int .i64 e]) ∧ w' = W)
    (HM : ∀ W, Calls Tryd.prog 7 #[.string s] W fun e' w' => e' = .returned (.tuple #[.int .i64 x, .int .i64 e]) ∧ w' = W)
    (HU : ∀ W, Calls Tryd.prog 8 #[.string s] W fun e w' => e = .returned (.tuple #[.string C, .int .i64 y]) ∧ Below W.heap.size W w')
    (HV : ∀ W, Calls Tryd.prog 9 #[.string s] W fun e w' => e = .returned (.tuple #[.string C, .int .i64 y]) ∧ Below W.heap.size W w')
    (HD : ∀ W, PowTab W → Calls Tryd.prog 10 #[.int .i64 v] W fun e w' => e = .returned (.string A) ∧ Below W.heap.size W w')
    (HE : ∀ W, Calls Tryd.prog 11 #[.int .i64 v] W fun e w' => e = .returned (.string A) ∧ Below W.heap.size W w')
    (HH : ∀ W, Calls Tryd.prog 12 #[.string s] W fun e w' => e = .returned (.string H) ∧ Below W.heap.size W w')
    (HI : ∀ W, Calls Tryd.prog 13 #[.string s] W fun e w' => e = .returned (.string H) ∧ Below W.heap.size W w')
    (w : World) (hT : PowTab w) :
    Calls Tryd.prog 3 #[.int .i64 v, .string s] w fun e w' => e = .returned (.bool true) ∧ Below w.heap.size w w' := by
  have HN := hide HN
  have HM := hide HM
  have HU := hide HU
  have HV := hide HV
  have HD := hide HD
  have HE := hide HE
  have HH := hide HH
  have HI := hide HI
  have HT := hide hT
  clear hT
  go_enter Tryd.func3, Tryd.ntmps3
  go_wp2_with fail
  refine (HN.out _).mono ?_
  rintro e w0 ⟨rfl, rfl⟩
  go_wp2_with fail
  refine (HM.out _).mono ?_
  rintro e w0 ⟨rfl, rfl⟩
  go_wp2_with fail
  refine (HU.out _).mono ?_
  rintro e w1 ⟨rfl, hb1⟩
  go_wp2_with fail
  refine (HV.out _).mono ?_
  rintro e w2 ⟨rfl, hb2⟩
  have hb12 := below_next hb1 hb2
  go_wp2_with fail
  refine (alive_any _).mono ?_
  rintro e w3 ⟨rfl, hb3⟩
  have hb13 := below_next hb12 hb3
  have HT3 := hide (HT.out.next hb13)
  go_wp2_with fail
  refine (HD.out _ HT3.out).mono ?_
  rintro e w4 ⟨rfl, hb4⟩
  have hb14 := below_next hb13 hb4
  go_wp2_with fail
  refine (HE.out _).mono ?_
  rintro e w5 ⟨rfl, hb5⟩
  have hb15 := below_next hb14 hb5
  go_wp2_with fail
  refine (HH.out _).mono ?_
  rintro e w6 ⟨rfl, hb6⟩
  have hb16 := below_next hb15 hb6
  go_wp2_with fail
  refine (HI.out _).mono ?_
  rintro e w7 ⟨rfl, hb7⟩
  have hb17 := below_next hb16 hb7
  go_wp2
  go_ret
  exact ⟨rfl, hb17⟩

set_option maxHeartbeats 400000 in
theorem wireTexts_out (v : Int) (s : ByteArray) (hs : s.size ≤ 140737488351232) (h : 6000 < s.size) (w : World) :
    Calls Tryd.prog 3 #[.int .i64 v, .string s] w fun e w' => e = .returned (.bool true) ∧ Below w.heap.size w w' := by
  go_enter Tryd.func3, Tryd.ntmps3
  go_wp2_with fail
  refine (alive_any _).mono ?_
  rintro e w3 ⟨rfl, hb3⟩
  go_wp2
  go_ret
  exact ⟨rfl, hb3⟩

theorem wireTexts_walk (v : Int) (s : ByteArray) (wv : (Lit.int .i64 v).wf = true) (hs : s.size ≤ 140737488351232) (w : World) (hT : PowTab w) :
    Calls Tryd.prog 3 #[.int .i64 v, .string s] w fun e w' => e = .returned (.bool true) ∧ Below w.heap.size w w' := by
  obtain ⟨v1, v2⟩ := bounds_i64 wv
  by_cases h : 6000 < s.size
  · exact wireTexts_out v s hs h w
  · exact wireTexts_in v _ _ _ s _ _ _ (by omega) (number_any s) (refNumber_any s) (unhex_any s (by omega)) (refUnhex_any s (by omega)) (fun W h => digits_any v v1 v2 W h) (refDigits_any v v1 v2) (hex_any s (by omega)) (refHex_any s (by omega)) w hT
end Go.Proofs.YtdceopnjokdblaaDoor
