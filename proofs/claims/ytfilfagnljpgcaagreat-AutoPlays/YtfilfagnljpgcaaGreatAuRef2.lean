/- The document's Next tells what the program's Next tells, at every state and event. -/
import Derived.Test.YtfilfagnljpgcaaGreatAuRef
namespace Go.Proofs.YtfilfagnljpgcaaGreat
open Go.RowKit

/-- The document's table, at the event k and the state s, held against the program's. -/
def refB (k s : Nat) : Bool :=
  match rowsL[k]? with
  | some r => decide (r.size ≤ 100) && (match scanR r s (r.size + 1) 0 0 0 with
    | some (f, t) => decide (f < t) && decide (t ≤ r.size) && decide ((wordF s (r.extract f t)).1.size ≤ 1000) && decide ((wordF s (r.extract f t)).2 = (nextF s k).1) && decide (actsOf (wordF s (r.extract f t)).1 = (nextF s k).2)
    | none => false)
  | none => false
theorem ref_all : (List.range 16).all (fun k => (List.range 10).all fun s => refB k s) = true := by kernel_rfl

theorem refNext_any (s e : Int) (w : World) :
    Calls Tryz.prog 5 #[.int .i64 s, .int .i64 e] w fun en w' => ∃ v, en = .returned (.tuple #[.int .i64 (nextF s e).1, v]) ∧ OwnI w' w.heap.size v (nextF s e).2 ∧ Kept (fun _ => False) w w' := by
  by_cases h : s < 0 ∨ 9 < s ∨ e < 0 ∨ 16 ≤ e
  · have hn : nextF s e = (s, []) := by
      rcases nextF_is s e with h1 | ⟨r, hr, h1, h2, _⟩
      · exact h1
      · exfalso
        have := all_of (p := fun r => decide (0 ≤ r.s) && decide (r.s ≤ 9) && decide (0 ≤ r.e) && decide (r.e ≤ 15)) (by kernel_rfl) hr
        simp only [Bool.and_eq_true, decide_eq_true_eq] at this
        omega
    rw [hn]
    exact refNext_by s e ⟨#[]⟩ s (by decide) w (entry_out s e h w)
  · obtain ⟨k, rfl⟩ := Int.eq_ofNat_of_zero_le (show 0 ≤ s by omega)
    obtain ⟨j, rfl⟩ := Int.eq_ofNat_of_zero_le (show 0 ≤ e by omega)
    have hB : refB j k = true := List.all_eq_true.1 (List.all_eq_true.1 ref_all j (List.mem_range.2 (by omega))) k (List.mem_range.2 (by omega))
    unfold refB at hB
    cases hr : rowsL[j]? with
    | none => rw [hr] at hB; cases hB
    | some r =>
      rw [hr] at hB
      simp only [Bool.and_eq_true, decide_eq_true_eq] at hB
      obtain ⟨h1, h2⟩ := hB
      cases hsc : scanR r k (r.size + 1) 0 0 0 with
      | none => rw [hsc] at h2; cases h2
      | some ft =>
        obtain ⟨f, t⟩ := ft
        rw [hsc] at h2
        simp only [Bool.and_eq_true, decide_eq_true_eq] at h2
        obtain ⟨⟨⟨⟨q1, q2⟩, q3⟩, q4⟩, q5⟩ := h2
        have := refNext_by (k : Int) (j : Int) _ _ q3 w (entry_in j k f t (by omega) (by omega) r hr h1 hsc q1 q2 w)
        rw [q4, q5] at this
        exact this
end Go.Proofs.YtfilfagnljpgcaaGreat
