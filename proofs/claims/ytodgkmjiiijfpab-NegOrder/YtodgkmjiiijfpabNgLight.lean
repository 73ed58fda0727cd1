/- The contract of the laws' rules (chapter 11): are rules few, and their texts short? -/
import Derived.Test.YtodgkmjiiijfpabNgPlain
namespace Go.Proofs.Ytodgkmjiiijfpab
open Go.RowKit

/-- Few rules with short texts. -/
def lightR (l : List Rl) : Bool := (l.take 50).all (fun t => decide (t.suggest.size ≤ 400)) && decide (l.length ≤ 40)
theorem lightR_true {l : List Rl} (h : lightR l = true) : l.length ≤ 40 ∧ ∀ x ∈ l, x.suggest.size ≤ 400 := by
  simp only [lightR, Bool.and_eq_true, decide_eq_true_eq] at h
  obtain ⟨h1, h2⟩ := h
  rw [List.take_of_length_le (by omega), List.all_eq_true] at h1
  exact ⟨h2, fun x hx => by simpa using h1 x hx⟩

set_option maxHeartbeats 2000000 in
set_option maxRecDepth 100000 in
theorem lightR_any (v : Value) (l : List Rl) (w : World) (hv : RulesAt w v l) (hl : l.length ≤ maxLen) (hsz : ∀ x ∈ l, x.suggest.size ≤ 140737488351232) :
    Calls Try.prog 11 #[v] w fun e w' => e = .returned (.bool (lightR l)) ∧ Kept (fun _ => False) w w' := by
  unfold maxLen at hl
  obtain ⟨p, cap, rfl⟩ := hv.slice
  have Hat : Hid (∀ (j : Nat) (x : Rl), l[j]? = some x → ∀ W, Kept (fun _ => False) w W → ∃ g o, p = some ⟨g, o, none⟩ ∧ l.length ≤ cap ∧ W.cell? ⟨g, o + j * 5 + 4, none⟩ = some (.string x.suggest)) :=
    fun j x hj W hW => by obtain ⟨g, o, e, h1, _, _, _, _, h2⟩ := (hv.kept0 hW).at hj; exact ⟨g, o, e, h1, h2⟩
  have Hsz := hid hsz
  have hlz : (l.length : Int) ≤ 9223372036854775807 := by omega
  clear hv hsz
  go_enter Try.func11, Try.ntmps11
  go_wp2
  go_loopw [3] (fun vi wr => ∃ j : Nat, j ≤ l.length ∧ j ≤ 50 ∧ vi = .int .i64 (j : Int) ∧ Hid ((l.take j).all (fun t => decide (t.suggest.size ≤ 400)) = true ∧ wr = w)) (fun vi _ => 50 - (intOf vi).toNat)
  case atStart => exact ⟨0, Nat.zero_le _, Nat.zero_le _, rfl, rfl, rfl⟩
  case round =>
    obtain ⟨j, hj, hj6, rfl, HI⟩ := hrel
    obtain rfl : wr = w := HI.out.2
    have HA := hid HI.out.1
    clear HI
    by_cases hlt : j < l.length
    · have hltz : (j : Int) < (l.length : Int) := by omega
      by_cases h5 : j < 50
      · have h5z : (j : Int) < 50 := by omega
        obtain ⟨x, hx⟩ : ∃ x, l[j]? = some x := ⟨l[j], by simp [hlt]⟩
        obtain ⟨g, o, rfl, hcap, c1⟩ := Hat.out j x hx wr (Kept.refl _ _)
        have hxs := Hsz.out x (List.mem_of_getElem? hx)
        by_cases h4 : 400 < x.suggest.size
        · have h4z : (400 : Int) < (x.suggest.size : Int) := by omega
          have e : lightR l = false := by
            unfold lightR
            have : (l.take 50).all (fun t => decide (t.suggest.size ≤ 400)) = false := by
              rw [List.all_eq_false]
              refine ⟨x, List.mem_of_getElem? (i := j) ?_, by simp; omega⟩
              rw [List.getElem?_take_of_lt h5]
              exact hx
            rw [this]
            rfl
          have HF := hid e
          clear hx e
          go_wp2
          go_ret
          exact ⟨by rw [HF.out]; rfl, Kept.refl _ _⟩
        · have h4z : ¬ (400 : Int) < (x.suggest.size : Int) := by omega
          have R : Hid ((l.take (j + 1)).all (fun t => decide (t.suggest.size ≤ 400)) = true) := by
            show _ = _
            rw [take_next hx, List.all_append, HA.out]
            simp
            omega
          clear hx
          go_wp2
          exact ⟨⟨j + 1, hlt, by omega, by go_num, R.out, by first | rfl | trivial⟩, by simp [intOf]; omega⟩
      · have h5z : ¬ (j : Int) < 50 := by omega
        have e : lightR l = false := by
          unfold lightR
          rw [show decide (l.length ≤ 40) = false from by rw [decide_eq_false_iff_not]; omega, Bool.and_false]
        have HF := hid e
        have h4z : ¬ (l.length : Int) ≤ 40 := by omega
        clear e
        go_wp2
        go_ret
        exact ⟨by rw [HF.out]; rfl, Kept.refl _ _⟩
    · obtain rfl : j = l.length := by omega
      have hltz : ¬ (l.length : Int) < (l.length : Int) := by omega
      have hV := HA.out
      rw [List.take_length] at hV
      have e : lightR l = decide ((l.length : Int) ≤ 40) := by
        unfold lightR
        rw [List.take_of_length_le hj6, hV, Bool.true_and, decide_eq_decide]
        omega
      have HF := hid e
      clear e hV hlt
      by_cases h4 : (l.length : Int) ≤ 40
      · go_wp2
        go_ret
        exact ⟨by rw [HF.out]; simp [h4], Kept.refl _ _⟩
      · have H4 : Hid (decide ((l.length : Int) ≤ 40) = false) := decide_eq_false h4
        go_wp2
        go_ret
        exact ⟨by rw [HF.out, H4.out]; rfl, Kept.refl _ _⟩

end Go.Proofs.Ytodgkmjiiijfpab
