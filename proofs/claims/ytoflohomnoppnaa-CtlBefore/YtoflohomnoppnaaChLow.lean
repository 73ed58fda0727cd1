/- The document's own mod and Before (chapter 20), as plain functions and by their contracts. (Out of gen_chref1.py.) -/
import Derived.Test.YtoflohomnoppnaaCnSmall
namespace Go.Proofs.Ytoflohomnoppnaa
open Go.RowKit

def modF (v : Int) : Int := v % 65536
theorem modF_in (v : Int) : 0 ≤ modF v ∧ modF v ≤ 65535 := by unfold modF; omega
def beforeF (a b : Int) : Bool := decide (1 ≤ modF (modF b - modF a)) && decide (modF (modF b - modF a) ≤ 32767)
theorem beforeF_eq (a b : Int) : beforeF a b = beforeN a b := by
  have e : modF (modF b - modF a) = wrapN (b - a) := by
    unfold modF wrapN
    omega
  unfold beforeF beforeN
  rw [e]
set_option maxHeartbeats 1000000 in
set_option maxRecDepth 100000 in
theorem rmod_any (v : Int) (hv : -9223372036854775808 ≤ v ∧ v ≤ 9223372036854775807) (w : World) :
    Calls Try.prog 23 #[.int .i64 v] w fun e w' => e = .returned (.int .i64 (modF v)) ∧ w' = w := by
  obtain ⟨t, ht⟩ : ∃ t : Int, t = v.tmod 65536 := ⟨_, rfl⟩
  have ht' := ht.symm
  have hm : modF v = if t < 0 then t + 65536 else t := by
    unfold modF
    rw [ht]
    rcases Int.le_total 0 v with h | h
    · rw [Int.tmod_eq_emod_of_nonneg h, if_neg (by omega)]
    · have h1 : v.tmod 65536 = -((-v) % 65536) := by
        have := Int.neg_tmod (-v) 65536
        rw [Int.neg_neg] at this
        rw [this, Int.tmod_eq_emod_of_nonneg (by omega)]
      rw [h1]
      split <;> omega
  have hb : -65536 ≤ t ∧ t < 65536 := by
    have h2 := modF_in v
    rw [hm] at h2
    clear hm ht ht' hv
    by_cases h : t < 0
    · rw [if_pos h] at h2
      exact ⟨by omega, by omega⟩
    · rw [if_neg h] at h2
      exact ⟨by omega, by omega⟩
  have HM := hid hm
  clear ht hm hv
  by_cases h : t < 0
  · have hM := hid (show modF v = t + 65536 from by rw [HM.out, if_pos h])
    have hw : IntKind.i64.wrap (t + 65536) = t + 65536 := by rw [IntKind.wrap_i64]; omega
    clear HM
    go_enter Try.func23, Try.ntmps23
    go_wp2
    go_ret
    exact ⟨by rw [hM.out]; rfl, rfl⟩
  · have hM := hid (show modF v = t from by rw [HM.out, if_neg h])
    clear HM
    go_enter Try.func23, Try.ntmps23
    go_wp2
    go_ret
    exact ⟨by rw [hM.out]; rfl, rfl⟩

set_option maxHeartbeats 2000000 in
set_option maxRecDepth 100000 in
theorem rbefore_any (a b : Int) (ha : -9223372036854775808 ≤ a ∧ a ≤ 9223372036854775807) (hb : -9223372036854775808 ≤ b ∧ b ≤ 9223372036854775807) (w : World) :
    Calls Try.prog 10 #[.int .i64 a, .int .i64 b] w fun e w' => e = .returned (.bool (beforeF a b)) ∧ w' = w := by
  have h1 := modF_in a
  have h2 := modF_in b
  have H1 := hid (fun W => rmod_any b hb W)
  have H2 := hid (fun W => rmod_any a ha W)
  have H3 := hid (fun W => rmod_any (modF b - modF a) (by omega) W)
  unfold beforeF
  have h3 := modF_in (modF b - modF a)
  generalize modF (modF b - modF a) = D at *
  generalize modF a = A at *
  generalize modF b = B at *
  have hw : IntKind.i64.wrap (B - A) = B - A := by rw [IntKind.wrap_i64]; omega
  have HD : Hid ((decide (1 ≤ D) && decide (D ≤ 32767)) = if 1 ≤ D then decide (D ≤ 32767) else false) := by
    show _ = _
    split
    · rename_i h
      rw [decide_eq_true h, Bool.true_and]
    · rename_i h
      rw [decide_eq_false h, Bool.false_and]
  clear ha hb
  by_cases g1 : 1 ≤ D
  · have HE := hid (show (decide (1 ≤ D) && decide (D ≤ 32767)) = decide (D ≤ 32767) from by rw [HD.out, if_pos g1])
    go_enter Try.func10, Try.ntmps10
    go_wp2_with fail
    refine (H1.out _).mono ?_
    rintro e w1 ⟨rfl, hq⟩
    rw [hq]
    clear hq w1
    go_wp2_with fail
    refine (H2.out _).mono ?_
    rintro e w1 ⟨rfl, hq⟩
    rw [hq]
    clear hq w1
    go_wp2_with fail
    refine (H3.out _).mono ?_
    rintro e w1 ⟨rfl, hq⟩
    rw [hq]
    clear hq w1
    go_wp2
    go_ret
    exact ⟨by rw [HE.out]; rfl, rfl⟩
  · have HE := hid (show (decide (1 ≤ D) && decide (D ≤ 32767)) = false from by rw [HD.out, if_neg g1])
    go_enter Try.func10, Try.ntmps10
    go_wp2_with fail
    refine (H1.out _).mono ?_
    rintro e w1 ⟨rfl, hq⟩
    rw [hq]
    clear hq w1
    go_wp2_with fail
    refine (H2.out _).mono ?_
    rintro e w1 ⟨rfl, hq⟩
    rw [hq]
    clear hq w1
    go_wp2_with fail
    refine (H3.out _).mono ?_
    rintro e w1 ⟨rfl, hq⟩
    rw [hq]
    clear hq w1
    go_wp2
    go_ret
    exact ⟨by rw [HE.out]; rfl, rfl⟩
end Go.Proofs.Ytoflohomnoppnaa
