/- The walk of the law DigestLike: for every three texts of at most 2^47 bytes it returns true, where the two tables hold what the program's text lays. -/
import Derived.Test.YtmelphkajkgdjabDoorAlive2
import Derived.OpenShut
namespace Go.Proofs.YtmelphkajkgdjabDoor
open Go.RowKit

theorem longer_same (a : ByteArray) : decide (a.data.toList = (a ++ ⟨#[120]⟩).data.toList) = false := by
  rw [decide_eq_false_iff_not]
  intro h
  have h2 := congrArg List.length h
  simp at h2

set_option maxHeartbeats 2000000 in
theorem digestLike_walk (a b c : ByteArray) (ha : a.size ≤ 140737488351232) (hb : b.size ≤ 140737488351232) (hc : c.size ≤ 140737488351232) (w : World) (hT : Tables w) :
    Calls Tryd.prog 4 #[.string a, .string b, .string c] w fun e w' => e = .returned (.bool true) ∧ Below w.heap.size w w' := by
  have HT := hide hT
  clear hT
  by_cases hl : a.size + b.size + c.size ≤ 3000
  · have hm : (3001 : Nat) ≤ maxLen := by decide
    have h1 := same_any a b (by omega)
    have h2 := same_any b a (by omega)
    have h3 := same_any b c (by omega)
    have h4 := same_any a c (by omega)
    have h5 := same_any a (a ++ ⟨#[120]⟩) (by omega)
    rw [longer_same] at h5
    have e2 : decide (b.data.toList = a.data.toList) = decide (a.data.toList = b.data.toList) := by rw [decide_eq_decide]; exact eq_comm
    rw [e2] at h2
    have hcase : (decide (a.data.toList = b.data.toList) = false) ∨ (decide (a.data.toList = b.data.toList) = true ∧ decide (b.data.toList = c.data.toList) = false) ∨ (decide (a.data.toList = b.data.toList) = true ∧ decide (b.data.toList = c.data.toList) = true ∧ decide (a.data.toList = c.data.toList) = true) := by
      by_cases p : a.data.toList = b.data.toList
      · by_cases q : b.data.toList = c.data.toList
        · right; right
          exact ⟨decide_eq_true p, decide_eq_true q, decide_eq_true (p.trans q)⟩
        · right; left
          exact ⟨decide_eq_true p, decide_eq_false q⟩
      · left
        exact decide_eq_false p
    generalize decide (a.data.toList = b.data.toList) = x at h1 h2 hcase
    generalize decide (b.data.toList = c.data.toList) = y at h3 hcase
    generalize decide (a.data.toList = c.data.toList) = z at h4 hcase
    have H1 := hide h1
    have H2 := hide h2
    have H3 := hide h3
    have H4 := hide h4
    have H5 := hide h5
    clear h1 h2 h3 h4 h5 e2
    rcases hcase with rfl | ⟨rfl, rfl⟩ | ⟨rfl, rfl, rfl⟩
    · go_enter Tryd.func4, Tryd.ntmps4
      go_wp2_with fail
      refine (alive_any _ HT.out).mono ?_
      rintro e w1 ⟨rfl, hb1⟩
      go_wp2_with fail
      refine (H1.out _).mono ?_
      rintro e w2 ⟨rfl, hb2⟩
      go_wp2_with fail
      refine (H2.out _).mono ?_
      rintro e w3 ⟨rfl, hb3⟩
      go_wp2_with fail
      refine (H1.out _).mono ?_
      rintro e w4 ⟨rfl, hb4⟩
      go_wp2_with fail
      refine (H5.out _).mono ?_
      rintro e w5 ⟨rfl, hb5⟩
      go_wp2
      go_ret
      exact ⟨rfl, below_next (below_next (below_next (below_next hb1 hb2) hb3) hb4) hb5⟩
    · go_enter Tryd.func4, Tryd.ntmps4
      go_wp2_with fail
      refine (alive_any _ HT.out).mono ?_
      rintro e w1 ⟨rfl, hb1⟩
      go_wp2_with fail
      refine (H1.out _).mono ?_
      rintro e w2 ⟨rfl, hb2⟩
      go_wp2_with fail
      refine (H2.out _).mono ?_
      rintro e w3 ⟨rfl, hb3⟩
      go_wp2_with fail
      refine (H1.out _).mono ?_
      rintro e w4 ⟨rfl, hb4⟩
      go_wp2_with fail
      refine (H3.out _).mono ?_
      rintro e w6 ⟨rfl, hb6⟩
      go_wp2_with fail
      refine (H5.out _).mono ?_
      rintro e w5 ⟨rfl, hb5⟩
      go_wp2
      go_ret
      exact ⟨rfl, below_next (below_next (below_next (below_next (below_next hb1 hb2) hb3) hb4) hb6) hb5⟩
    · go_enter Tryd.func4, Tryd.ntmps4
      go_wp2_with fail
      refine (alive_any _ HT.out).mono ?_
      rintro e w1 ⟨rfl, hb1⟩
      go_wp2_with fail
      refine (H1.out _).mono ?_
      rintro e w2 ⟨rfl, hb2⟩
      go_wp2_with fail
      refine (H2.out _).mono ?_
      rintro e w3 ⟨rfl, hb3⟩
      go_wp2_with fail
      refine (H1.out _).mono ?_
      rintro e w4 ⟨rfl, hb4⟩
      go_wp2_with fail
      refine (H3.out _).mono ?_
      rintro e w6 ⟨rfl, hb6⟩
      go_wp2_with fail
      refine (H4.out _).mono ?_
      rintro e w7 ⟨rfl, hb7⟩
      go_wp2_with fail
      refine (H5.out _).mono ?_
      rintro e w5 ⟨rfl, hb5⟩
      go_wp2
      go_ret
      exact ⟨rfl, below_next (below_next (below_next (below_next (below_next (below_next hb1 hb2) hb3) hb4) hb6) hb7) hb5⟩
  · go_enter Tryd.func4, Tryd.ntmps4
    go_wp2_with (go_at_call 6; refine (alive_any _ HT.out).mono ?_; rintro e w3 ⟨rfl, hb3⟩)
    go_ret
    exact ⟨rfl, by assumption⟩
end Go.Proofs.YtmelphkajkgdjabDoor
