/- CtlBefore, walked: the program's Before is the document's, never both ways, never of a number itself. -/
import Derived.Test.YtoflohomnoppnaaCnAlive
import Derived.Test.YtoflohomnoppnaaCnBits
import Derived.Test.YtoflohomnoppnaaChLow
namespace Go.Proofs.Ytoflohomnoppnaa
open Go.RowKit

set_option maxHeartbeats 8000000 in
set_option maxRecDepth 100000 in
theorem ctlBefore_walk (a b : Int) (w : World) (ha : -9223372036854775808 ≤ a ∧ a ≤ 9223372036854775807) (hb : -9223372036854775808 ≤ b ∧ b ≤ 9223372036854775807) :
    Calls Try.prog 3 #[.int .i64 a, .int .i64 b] w fun e w' => e = .returned (.bool true) ∧ Below w.heap.size w w' := by
  have H1 := hid (fun W => before_any a b W)
  have H2 := hid (fun W => before_any b a W)
  have HA := hid (fun W => aliveN_any W)
  have HR := hid (fun W => rbefore_any a b ha hb W)
  rw [beforeF_eq] at HR
  have H3 := hid (fun W => before_any a a W)
  have H4 := hid (fun W => before_any (a % 65536) (a % 65536 + 1) W)
  have H5 := hid (fun W => before_any (a % 65536 + 32768) a W)
  have H6 := hid (fun W => before_any (a % 65536) (a % 65536 + 65536) W)
  have e3 : beforeN a a = false := beforeN_no (by omega)
  have e4 : beforeN (a % 65536) (a % 65536 + 1) = true := beforeN_iff.2 (by omega)
  have e5 : beforeN (a % 65536 + 32768) a = false := beforeN_no (by omega)
  have e6 : beforeN (a % 65536) (a % 65536 + 65536) = false := beforeN_no (by omega)
  have e2 : beforeN a b = true → beforeN b a = false := by
    intro h
    have := beforeN_iff.1 h
    exact beforeN_no (by omega)
  rw [e3] at H3
  rw [e4] at H4
  rw [e5] at H5
  rw [e6] at H6
  have m0 := and_65535 a
  have w1 : IntKind.i64.wrap (a % 65536 + 1) = a % 65536 + 1 := by rw [IntKind.wrap_i64]; omega
  have w2 : IntKind.i64.wrap (a % 65536 + 32768) = a % 65536 + 32768 := by rw [IntKind.wrap_i64]; omega
  have w3 : IntKind.i64.wrap (a % 65536 + 65536) = a % 65536 + 65536 := by rw [IntKind.wrap_i64]; omega
  generalize a % 65536 = m at *
  generalize hx : beforeN a b = x at *
  generalize hy : beforeN b a = y at *
  have hxy : Hid (x = true → y = false) := e2
  clear e2 e3 e4 e5 e6 hx hy ha hb
  go_enter Try.func3, Try.ntmps3
  go_wp2_with fail
  refine (H1.out _).mono ?_
  rintro e w1 ⟨rfl, hq⟩
  rw [hq]
  clear hq w1
  go_wp2_with fail
  refine (H2.out _).mono ?_
  rintro e w1 ⟨rfl, hq⟩
  rw [hq]
  clear hq w1
  go_wp2_with fail
  refine (HA.out _).mono ?_
  rintro e w1 ⟨rfl, hk⟩
  have HK := hid hk
  clear hk
  go_wp2_with fail
  refine (HR.out _).mono ?_
  rintro e w2 ⟨rfl, hq⟩
  rw [hq]
  clear hq w2
  cases x with
  | true =>
    have hy : y = false := hxy.out rfl
    subst hy
    go_wp2_with fail
    refine (H3.out _).mono ?_
    rintro e w2 ⟨rfl, hq⟩
    rw [hq]
    clear hq w2
    go_wp2_with fail
    refine (H4.out _).mono ?_
    rintro e w2 ⟨rfl, hq⟩
    rw [hq]
    clear hq w2
    go_wp2_with fail
    refine (H5.out _).mono ?_
    rintro e w2 ⟨rfl, hq⟩
    rw [hq]
    clear hq w2
    go_wp2_with fail
    refine (H6.out _).mono ?_
    rintro e w2 ⟨rfl, hq⟩
    rw [hq]
    clear hq w2
    go_wp2
    go_returns
    exact ⟨rfl, HK.out.below (Nat.le_refl _) (fun _ f => f.elim)⟩
  | false =>
    go_wp2_with fail
    refine (H3.out _).mono ?_
    rintro e w2 ⟨rfl, hq⟩
    rw [hq]
    clear hq w2
    go_wp2_with fail
    refine (H4.out _).mono ?_
    rintro e w2 ⟨rfl, hq⟩
    rw [hq]
    clear hq w2
    go_wp2_with fail
    refine (H5.out _).mono ?_
    rintro e w2 ⟨rfl, hq⟩
    rw [hq]
    clear hq w2
    go_wp2_with fail
    refine (H6.out _).mono ?_
    rintro e w2 ⟨rfl, hq⟩
    rw [hq]
    clear hq w2
    go_wp2
    go_returns
    exact ⟨rfl, HK.out.below (Nat.le_refl _) (fun _ f => f.elim)⟩
end Go.Proofs.Ytoflohomnoppnaa
