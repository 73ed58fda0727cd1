/- The law AutoDown: it returns true for every list and every number, and leaves what was there. -/
import Derived.Test.YtfilfagnljpgcabAuKit
import Derived.Test.YtfilfagnljpgcabAuArgs
namespace Go.Proofs.Ytfilfagnljpgcab
open Go.RowKit

theorem down_low {c : Au} (hg : GoodA c) : (doF c 1).2.st = 0 ∨ (doF c 1).2.st = 1 := by
  obtain ⟨cf, tm, st, ct⟩ := c
  have h1 := hg.st1
  have h2 := hg.st2
  simp only at h1 h2
  have hc : st = 0 ∨ st = 1 ∨ st = 2 ∨ st = 3 ∨ st = 4 ∨ st = 5 ∨ st = 6 ∨ st = 7 ∨ st = 8 ∨ st = 9 := by omega
  rcases hc with rfl | rfl | rfl | rfl | rfl | rfl | rfl | rfl | rfl | rfl
  · exact Or.inl (show (nextF 0 1).1 = 0 from by kernel_rfl)
  · exact Or.inr (show (nextF 1 1).1 = 1 from by kernel_rfl)
  · exact Or.inl (show (nextF 2 1).1 = 0 from by kernel_rfl)
  · exact Or.inr (show (nextF 3 1).1 = 1 from by kernel_rfl)
  · exact Or.inl (show (nextF 4 1).1 = 0 from by kernel_rfl)
  · exact Or.inr (show (nextF 5 1).1 = 1 from by kernel_rfl)
  · exact Or.inr (show (nextF 6 1).1 = 1 from by kernel_rfl)
  · exact Or.inr (show (nextF 7 1).1 = 1 from by kernel_rfl)
  · exact Or.inr (show (nextF 8 1).1 = 1 from by kernel_rfl)
  · exact Or.inr (show (nextF 9 1).1 = 1 from by kernel_rfl)
theorem low_none {s e : Int} (hs : s = 0 ∨ s = 1) (he : 6 ≤ e) : nextF s e = (s, []) := by
  rcases nextF_is s e with h | ⟨r, hr, h1, h2, _⟩
  · exact h
  · exfalso
    have := all_of (p := fun r => decide (2 ≤ r.s) || decide (r.e ≤ 5)) (by kernel_rfl) hr
    simp only [Bool.or_eq_true, decide_eq_true_eq] at this
    omega
theorem low_do {c : Au} {e : Int} (hs : c.st = 0 ∨ c.st = 1) (he : 6 ≤ e) : doF c e = ([], c) := by
  obtain ⟨cf, tm, st, ct⟩ := c
  unfold doF
  simp only at hs ⊢
  rw [low_none hs he]
  rfl

set_option maxHeartbeats 2000000 in
set_option maxRecDepth 100000 in
theorem autoDown_long (p : Option Addr) (n cap : Nat) (e : Int) (w : World) (hn : 300 < n) : Calls Try.prog 4 #[.slice p n cap, .int .i64 e] w fun e w' => e = .returned (.bool true) ∧ Below w.heap.size w w' := by
  have HN := hid (mine_new 5 2 (by decide) (by decide) w w (Kept.refl _ _))
  have hz : (300 : Int) < (n : Int) := by omega
  go_enter Try.func4, Try.ntmps4
  go_wp2_with fail
  refine HN.out.mono ?_
  rintro e w1 ⟨b, rfl, hm, hk⟩
  have HK := hid hk
  clear HN hm hk
  go_wp2_with fail
  refine (alive_any _).mono ?_
  rintro e w2 ⟨rfl, hk2⟩
  go_wp2
  go_ret
  exact ⟨rfl, below_of (HK.out.trans hk2)⟩

set_option maxHeartbeats 4000000 in
set_option maxRecDepth 100000 in
theorem autoDown_in (v : Value) (l : List Int) (e : Int) (w : World) (hv : IntsAt w v l) (h64 : ∀ x ∈ l, In64 x) (he : In64 e) (hn : l.length ≤ 300) : Calls Try.prog 4 #[v, .int .i64 e] w fun e w' => e = .returned (.bool true) ∧ Below w.heap.size w w' := by
  have HN := hid (mine_new 5 2 (by decide) (by decide) w w (Kept.refl _ _))
  have HV := hid (fun W' (hk : Kept (fun _ => False) w W') => (hv.kept hk).form)
  obtain ⟨p, cap, rfl, _⟩ := hv.form
  have H64 := hid h64
  have HE := hid he
  have hz : ¬ (300 : Int) < (l.length : Int) := by omega
  clear hv h64 he
  go_enter Try.func4, Try.ntmps4
  go_wp2_with fail
  refine HN.out.mono ?_
  rintro e' w1 ⟨b, rfl, hm, hk⟩
  have H1 := hid hm
  clear HN hm hk
  go_wp2_with fail
  go_loopw [7] (fun vi wr => ∃ (j : Nat) (c : Au), j ≤ l.length ∧ vi = .int .i64 (j : Int) ∧ Hid (AMine w wr b c)) (fun vi _ => l.length - (intOf vi).toNat)
  case atStart => exact ⟨0, _, Nat.zero_le _, rfl, H1.out⟩
  case round =>
    obtain ⟨j, c, hj, rfl, HI⟩ := hrel
    clear H1
    by_cases hlt : j < l.length
    · have hltz : (j : Int) < (l.length : Int) := by omega
      obtain ⟨x, hx⟩ : ∃ x, l[j]? = some x := ⟨l[j], by simp [hlt]⟩
      obtain ⟨p', cap', ev, hc⟩ := HV.out wr HI.out.kept
      simp only [Value.slice.injEq, true_and] at ev
      obtain ⟨rfl, rfl⟩ := ev
      obtain ⟨g, o, rfl, hcap, hcell⟩ := hc j x hx
      have HX := hid (H64.out x (List.mem_of_getElem? hx))
      clear hx hc
      go_wp2_with fail
      refine (HI.out.doBy x HX.out).mono ?_
      rintro e w2 ⟨v2, rfl, hm, _, _⟩
      have H2 := hid hm
      clear hm HI
      go_wp2
      exact ⟨⟨j + 1, _, hlt, by go_num, H2.out⟩, by simp [intOf]; omega⟩
    · obtain rfl : j = l.length := by omega
      have hltz : ¬ (l.length : Int) < (l.length : Int) := by omega
      have hlow := down_low HI.out.good
      go_wp2_with fail
      refine (HI.out.doBy 1 ⟨by decide, by decide⟩).mono ?_
      rintro e' w2 ⟨v2, rfl, hm, _, _⟩
      generalize (doF c 1).2 = c2 at hm hlow
      have H2 := hid hm
      clear hm HI
      go_wp2_with fail
      refine H2.out.stateBy.mono ?_
      rintro e' w3 ⟨rfl, hw3⟩
      rw [hw3]
      clear hw3 w3
      obtain ⟨d, hd1, hd2, hd3⟩ : ∃ d : Int, d = (if e < 6 then 8 else e) ∧ 6 ≤ d ∧ In64 d := by
        refine ⟨_, rfl, ?_, ?_⟩
        · split <;> omega
        · have := HE.out
          unfold In64 at this ⊢
          split <;> omega
      have HD := hid (H2.out.doBy d hd3)
      rw [low_do hlow hd2] at HD
      have HD3 := hid hd3
      clear hd3 hd2 H2
      obtain ⟨s, hs⟩ : ∃ s, s = c2.st := ⟨_, rfl⟩
      rw [← hs] at hlow
      by_cases he6 : e < 6
      · rw [if_pos he6] at hd1
        subst hd1
        go_wp2_with fail
        refine HD.out.mono ?_
        rintro e' w3 ⟨v3, rfl, hm, ho, _⟩
        obtain ⟨p3, c3, rfl⟩ := ho.slice
        have H3 := hid hm
        clear HD hm ho
        go_wp2_with fail
        refine (alive_any _).mono ?_
        rintro e' w4 ⟨rfl, hk4⟩
        have H4 := hid (H3.out.still hk4)
        clear H3 hk4
        have HW := hid H4.out.waitsBy
        have HS := hid H4.out.stateBy
        have HK := hid H4.out.kept
        rw [show waitsF c2 = false from by unfold waitsF; rw [← hs]; rcases hlow with h | h <;> rw [h] <;> rfl] at HW
        rw [← hs] at HS ⊢
        clear H4 hs
        rcases hlow with rfl | rfl
        all_goals
          go_wp2_with (first
            | (go_at_call 10; refine HW.out.mono ?_; rintro e w' ⟨rfl, hw⟩; rw [hw]; clear hw w')
            | (go_at_call 9; refine HS.out.mono ?_; rintro e w' ⟨rfl, hw⟩; rw [hw]; clear hw w'))
          go_ret
          exact ⟨rfl, below_of HK.out⟩
      · rw [if_neg he6] at hd1
        subst hd1
        go_wp2_with fail
        refine HD.out.mono ?_
        rintro e' w3 ⟨v3, rfl, hm, ho, _⟩
        obtain ⟨p3, c3, rfl⟩ := ho.slice
        have H3 := hid hm
        clear HD hm ho
        go_wp2_with fail
        refine (alive_any _).mono ?_
        rintro e' w4 ⟨rfl, hk4⟩
        have H4 := hid (H3.out.still hk4)
        clear H3 hk4
        have HW := hid H4.out.waitsBy
        have HS := hid H4.out.stateBy
        have HK := hid H4.out.kept
        rw [show waitsF c2 = false from by unfold waitsF; rw [← hs]; rcases hlow with h | h <;> rw [h] <;> rfl] at HW
        rw [← hs] at HS ⊢
        clear H4 hs
        rcases hlow with rfl | rfl
        all_goals
          go_wp2_with (first
            | (go_at_call 10; refine HW.out.mono ?_; rintro e w' ⟨rfl, hw⟩; rw [hw]; clear hw w')
            | (go_at_call 9; refine HS.out.mono ?_; rintro e w' ⟨rfl, hw⟩; rw [hw]; clear hw w'))
          go_ret
          exact ⟨rfl, below_of HK.out⟩

theorem autoDown_walk (v : Value) (l : List Int) (e : Int) (w : World) (hv : IntsAt w v l ∧ ∀ x ∈ l, In64 x) (he : In64 e) : Calls Try.prog 4 #[v, .int .i64 e] w fun e w' => e = .returned (.bool true) ∧ Below w.heap.size w w' := by
  by_cases hl : l.length ≤ 300
  · exact autoDown_in v l e w hv.1 hv.2 he hl
  · obtain ⟨p, cap, rfl, _⟩ := hv.1.form
    exact autoDown_long p l.length cap e w (by omega)
end Go.Proofs.Ytfilfagnljpgcab
