/- The contracts of the laws' Light and alive. -/
import Derived.Test.YtodgkmjiiijfpaaGreatOpRow
namespace Go.Proofs.YtodgkmjiiijfpaaGreat
open Go.RowKit

/-- Few and short options. -/
def lightO (l : List Tg) : Bool := (l.take 60).all (fun t => decide (t.value.size ≤ 400)) && decide (l.length ≤ 50)
theorem lightO_true {l : List Tg} (h : lightO l = true) : l.length ≤ 50 ∧ ∀ x ∈ l, x.value.size ≤ 400 := by
  simp only [lightO, Bool.and_eq_true, decide_eq_true_eq] at h
  obtain ⟨h1, h2⟩ := h
  rw [List.take_of_length_le (by omega), List.all_eq_true] at h1
  exact ⟨h2, fun x hx => by simpa using h1 x hx⟩

set_option maxHeartbeats 2000000 in
set_option maxRecDepth 100000 in
theorem lightO_any (v : Value) (l : List Tg) (w : World) (hv : TagsAt w v l) (hl : l.length ≤ maxLen) (hsz : ∀ x ∈ l, x.value.size ≤ 140737488351232) :
    Calls Tryz.prog 5 #[v] w fun e w' => e = .returned (.bool (lightO l)) ∧ Kept (fun _ => False) w w' := by
  unfold maxLen at hl
  obtain ⟨p, cap, rfl⟩ := hv.slice
  have Hat : Hid (∀ (j : Nat) (x : Tg), l[j]? = some x → ∀ W, Kept (fun _ => False) w W → ∃ g o, p = some ⟨g, o, none⟩ ∧ l.length ≤ cap ∧ W.cell? ⟨g, o + j * 2, none⟩ = some (.int .i64 x.type) ∧ W.cell? ⟨g, o + j * 2 + 1, none⟩ = some (.string x.value)) :=
    fun j x hj W hW => (hv.kept0 hW).at hj
  have Hsz := hid hsz
  have hlz : (l.length : Int) ≤ 9223372036854775807 := by omega
  clear hv hsz
  go_enter Tryz.func5, Tryz.ntmps5
  go_wp2
  go_loopw [3] (fun vi wr => ∃ j : Nat, j ≤ l.length ∧ j ≤ 60 ∧ vi = .int .i64 (j : Int) ∧ Hid ((l.take j).all (fun t => decide (t.value.size ≤ 400)) = true ∧ wr = w)) (fun vi _ => 60 - (intOf vi).toNat)
  case atStart => exact ⟨0, Nat.zero_le _, Nat.zero_le _, rfl, rfl, rfl⟩
  case round =>
    obtain ⟨j, hj, hj6, rfl, HI⟩ := hrel
    obtain rfl : wr = w := HI.out.2
    have HA := hid HI.out.1
    clear HI
    by_cases hlt : j < l.length
    · have hltz : (j : Int) < (l.length : Int) := by omega
      by_cases h5 : j < 60
      · have h5z : (j : Int) < 60 := by omega
        obtain ⟨x, hx⟩ : ∃ x, l[j]? = some x := ⟨l[j], by simp [hlt]⟩
        obtain ⟨g, o, rfl, hcap, c0, c1⟩ := Hat.out j x hx wr (Kept.refl _ _)
        have hxs := Hsz.out x (List.mem_of_getElem? hx)
        by_cases h4 : 400 < x.value.size
        · have h4z : (400 : Int) < (x.value.size : Int) := by omega
          have e : lightO l = false := by
            unfold lightO
            have : (l.take 60).all (fun t => decide (t.value.size ≤ 400)) = false := by
              rw [List.all_eq_false]
              refine ⟨x, List.mem_of_getElem? (i := j) ?_, by simp; omega⟩
              rw [List.getElem?_take_of_lt h5]
              exact hx
            rw [this]
            rfl
          have HF := hid e
          clear hx e
          go_wp2
          go_ret
          exact ⟨by rw [HF.out]; rfl, Kept.refl _ _⟩
        · have h4z : ¬ (400 : Int) < (x.value.size : Int) := by omega
          have R : Hid ((l.take (j + 1)).all (fun t => decide (t.value.size ≤ 400)) = true) := by
            show _ = _
            rw [take_next hx, List.all_append, HA.out]
            simp
            omega
          clear hx
          go_wp2
          exact ⟨⟨j + 1, hlt, by omega, by go_num, R.out, by first | rfl | trivial⟩, by simp [intOf]; omega⟩
      · have h5z : ¬ (j : Int) < 60 := by omega
        have e : lightO l = false := by
          unfold lightO
          rw [show decide (l.length ≤ 50) = false from by rw [decide_eq_false_iff_not]; omega, Bool.and_false]
        have HF := hid e
        have h4z : ¬ (l.length : Int) ≤ 50 := by omega
        clear e
        go_wp2
        go_ret
        exact ⟨by rw [HF.out]; rfl, Kept.refl _ _⟩
    · obtain rfl : j = l.length := by omega
      have hltz : ¬ (l.length : Int) < (l.length : Int) := by omega
      have hV := HA.out
      rw [List.take_length] at hV
      have e : lightO l = decide ((l.length : Int) ≤ 50) := by
        unfold lightO
        rw [List.take_of_length_le hj6, hV, Bool.true_and, decide_eq_decide]
        omega
      have HF := hid e
      clear e hV hlt
      by_cases h4 : (l.length : Int) ≤ 50
      · go_wp2
        go_ret
        exact ⟨by rw [HF.out]; simp [h4], Kept.refl _ _⟩
      · have H4 : Hid (decide ((l.length : Int) ≤ 50) = false) := decide_eq_false h4
        go_wp2
        go_ret
        exact ⟨by rw [HF.out, H4.out]; rfl, Kept.refl _ _⟩

end Go.Proofs.YtodgkmjiiijfpaaGreat
