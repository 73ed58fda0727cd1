/- The law AutoWhole: it returns true for every state and event, and leaves what was there. -/
import Derived.Test.YtfilfagnljpgcabAuKit
import Derived.Deep.QuietTactic
import Derived.BigQuiet
namespace Go.Proofs.Ytfilfagnljpgcab
open Go.RowKit

theorem out_none {s e : Int} (h : s < 0 ∨ 9 < s) : nextF s e = (s, []) := by
  rcases nextF_is s e with h1 | ⟨r, hr, h1, h2, _⟩
  · exact h1
  · exfalso
    have := all_of (p := fun r => decide (0 ≤ r.s) && decide (r.s ≤ 9)) (by kernel_rfl) hr
    simp only [Bool.and_eq_true, decide_eq_true_eq] at this
    omega
/-- The actions are actions, none twice in a row. -/
def actsB : List Int → Bool
  | [] => true
  | x :: l => decide (0 ≤ x) && decide (x ≤ 12) && (match l with | [] => true | y :: _ => decide (x ≠ y)) && actsB l
theorem acts_ok (s e : Int) : actsB (nextF s e).2 = true := by
  rcases nextF_is s e with h1 | ⟨r, hr, _, _, h1⟩
  · rw [h1]; rfl
  · rw [h1]
    exact all_of (p := fun r => actsB r.acts) (by kernel_rfl) hr
theorem acts_at : ∀ {l : List Int}, actsB l = true → ∀ {j : Nat} {x : Int}, l[j]? = some x → 0 ≤ x ∧ x ≤ 12
  | y :: l, h, 0, x, hx => by
    simp only [actsB, Bool.and_eq_true, decide_eq_true_eq] at h
    simp at hx
    omega
  | y :: l, h, j + 1, x, hx => by
    simp only [actsB, Bool.and_eq_true] at h
    exact acts_at h.2 (by simpa using hx)
theorem acts_ne : ∀ {l : List Int}, actsB l = true → ∀ {j : Nat} {x y : Int}, l[j]? = some y → l[j + 1]? = some x → x ≠ y
  | a :: b :: l, h, 0, x, y, hy, hx => by
    simp only [actsB, Bool.and_eq_true, decide_eq_true_eq] at h
    simp at hx hy
    subst hx hy
    exact fun e => h.1.2 e.symm
  | a :: l, h, j + 1, x, y, hy, hx => by
    simp only [actsB, Bool.and_eq_true] at h
    exact acts_ne h.2 (j := j) (by simpa using hy) (by simpa using hx)

set_option maxHeartbeats 2000000 in
set_option maxRecDepth 100000 in
theorem autoWhole_out (s e : Int) (hs : In64 s) (he : In64 e) (h : s < 0 ∨ 9 < s) (w : World) : Calls Try.prog 3 #[.int .i64 s, .int .i64 e] w fun e w' => e = .returned (.bool true) ∧ Below w.heap.size w w' := by
  have HX := hid (next_any s e hs he w)
  rw [out_none h] at HX
  clear hs he
  rcases h with h | h
  · go_enter Try.func3, Try.ntmps3
    go_wp2_with fail
    refine HX.out.mono ?_
    rintro en w1 ⟨v, rfl, ho, hk⟩
    obtain ⟨p, cap, rfl⟩ := ho.slice
    have HK := hid hk
    clear ho hk HX
    go_wp2_with (go_at_call 6; refine (alive_any _).mono ?_; rintro e w' ⟨rfl, hk2⟩)
    go_ret
    exact ⟨rfl, below_of (HK.out.trans hk2)⟩
  · have h0 : ¬ s < 0 := by omega
    go_enter Try.func3, Try.ntmps3
    go_wp2_with fail
    refine HX.out.mono ?_
    rintro en w1 ⟨v, rfl, ho, hk⟩
    obtain ⟨p, cap, rfl⟩ := ho.slice
    have HK := hid hk
    clear ho hk HX
    go_wp2_with (go_at_call 6; refine (alive_any _).mono ?_; rintro e w' ⟨rfl, hk2⟩)
    go_ret
    exact ⟨rfl, below_of (HK.out.trans hk2)⟩

set_option maxHeartbeats 4000000 in
set_option maxRecDepth 100000 in
theorem autoWhole_in (s e : Int) (he : In64 e) (h0 : 0 ≤ s) (h9 : s ≤ 9) (w : World) : Calls Try.prog 3 #[.int .i64 s, .int .i64 e] w fun e w' => e = .returned (.bool true) ∧ Below w.heap.size w w' := by
  have HX := hid (next_any s e ⟨by omega, by omega⟩ he w)
  have hr := next_range (e := e) ⟨h0, h9⟩
  have hsh := next_short s e
  have HA := hid (acts_ok s e)
  generalize nextF s e = nx at *
  obtain ⟨n, l⟩ := nx
  simp only at HX hr hsh HA
  have q1 : ¬ s < 0 := by omega
  have q2 : ¬ 9 < s := by omega
  have q3 : ¬ n < 0 := by omega
  have q4 : ¬ 9 < n := by omega
  have q5 : ¬ (3 : Int) < (l.length : Int) := by omega
  clear hr he h0 h9
  go_enter Try.func3, Try.ntmps3
  go_wp2_with fail
  refine HX.out.mono ?_
  rintro en w1 ⟨v, rfl, ho, hk⟩
  obtain ⟨p, cap, rfl, hc⟩ := ho.form
  have HC := hid hc
  have HK := hid hk
  clear ho hk HX hc
  go_wp2_with fail
  go_loopw [7] (fun vi wr => ∃ j : Nat, j ≤ l.length ∧ vi = .int .i64 (j : Int) ∧ ∃ q, wr = w1.drewN q) (fun vi _ => l.length - (intOf vi).toNat)
  case atStart => exact ⟨0, Nat.zero_le _, rfl, 0, rfl⟩
  case round =>
    obtain ⟨j, hj, rfl, q, rfl⟩ := hrel
    by_cases hlt : j < l.length
    · have hltz : (j : Int) < (l.length : Int) := by omega
      obtain ⟨x, hx⟩ : ∃ x, l[j]? = some x := ⟨l[j], by simp [hlt]⟩
      obtain ⟨g, rfl, hcap, hcell⟩ := HC.out j x hx
      have hxr := acts_at HA.out hx
      have r1 : decide (x < 0) = false := by simp; omega
      have r2 : decide (12 < x) = false := by simp; omega
      cases j with
      | zero =>
        have r3 : decide ((0 : Int) < ((0 : Nat) : Int)) = false := rfl
        clear hx hxr
        go_wp2
        go_quiet (fail)
        go_wp2
        exact ⟨⟨1, hlt, by go_num, _, rfl⟩, by simp [intOf] <;> omega⟩
      | succ k =>
        obtain ⟨y, hy⟩ : ∃ y, l[k]? = some y := ⟨l[k], by simp⟩
        obtain ⟨g', e', _, hcy⟩ := HC.out k y hy
        simp only [Option.some.injEq, Addr.mk.injEq, and_true] at e'
        subst e'
        have hne : (x == y) = false := by simpa using acts_ne HA.out hy hx
        have hkz : (k : Int) < (l.length : Int) := by omega
        have r3 : (0 : Int) < ((k + 1 : Nat) : Int) := by omega
        clear hx hxr hy
        go_wp2
        go_quiet (fail)
        go_wp2
        exact ⟨⟨k + 2, hlt, by go_num, _, rfl⟩, by simp [intOf] <;> omega⟩
    · obtain rfl : j = l.length := by omega
      have hltz : ¬ (l.length : Int) < (l.length : Int) := by omega
      go_wp2_with (go_at_call 6; refine (alive_any _).mono ?_; rintro e w' ⟨rfl, hk2⟩)
      go_ret
      exact ⟨rfl, below_of ((HK.out.drewN q).trans hk2)⟩

theorem autoWhole_walk (s e : Int) (w : World) (hs : In64 s) (he : In64 e) : Calls Try.prog 3 #[.int .i64 s, .int .i64 e] w fun e w' => e = .returned (.bool true) ∧ Below w.heap.size w w' := by
  by_cases h : s < 0 ∨ 9 < s
  · exact autoWhole_out s e hs he h w
  · exact autoWhole_in s e he (by omega) (by omega) w
end Go.Proofs.Ytfilfagnljpgcab
