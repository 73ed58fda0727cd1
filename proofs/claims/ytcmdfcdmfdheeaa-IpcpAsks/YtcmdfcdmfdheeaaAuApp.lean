/- 'append' of one list of ints onto another. -/
import Derived.Test.YtcmdfcdmfdheeaaAuDo
import Derived.Test.YtcmdfcdmfdheeaaBookKit
import Derived.Deep.Upon
import Derived.Lib.AppendZeros
namespace Go.Proofs.Ytcmdfcdmfdheeaa
open Go.RowKit

/-- What 'append' makes of two lists of ints. -/
def AppI (w : World) (v u v' : Value) (w' : World) : Prop := ∀ ty, (Builtin.append_ #[61, 61] ty #[v, u]).run Try.prog w = .ok v' w'

theorem OwnI.row {w : World} {base : Nat} {v : Value} {l : List Int} (h : OwnI w base v l) (hne : l ≠ []) : ∃ g cap, v = .slice (some ⟨g, 0, none⟩) l.length cap ∧ ∀ (j : Nat) (u : Value), (intCells l)[j]? = some u → w.cell? ((⟨g, 0, none⟩ : Addr).add j) = some u := by
  rcases h.2 with ⟨rfl, h0⟩ | ⟨g, cap, cur, rfl, hb, hg, h1, h2, h3, h4⟩
  · exact absurd (List.eq_nil_of_length_eq_zero h0) hne
  · refine ⟨g, cap, rfl, fun j u hj => ?_⟩
    have ha : (⟨g, 0, none⟩ : Addr).add j = ⟨g, j, none⟩ := by
      unfold Addr.add
      split <;> simp_all
    have hlt := (List.getElem?_eq_some_iff.1 hj).1
    simp [intCells] at hlt
    rw [ha, ← hj, ← h4, List.getElem?_take_of_lt (by omega)]
    simp [World.cell?, hg]

/-- 'append' of a list onto one of the call's own: in place, or anew. -/
theorem append_ints {w : World} {base base' : Nat} {v u : Value} {a b : List Int} (hb : base ≤ w.heap.size) (hown : OwnI w base v a) (hu : OwnI w base' u b) (hn : a.length + b.length ≤ 1000000) :
    ∃ v' w', AppI w v u v' w' ∧ OwnI w' base v' (a ++ b) ∧ Kept (fun i => v.ownBlock = some i) w w' ∧ ∀ i, v'.ownBlock = some i → v.ownBlock = some i ∨ w.heap.size ≤ i := by
  obtain ⟨i0, hi0, hz0, hz1, hz2⟩ := info_parts info3
  by_cases he : b = []
  · subst he
    obtain ⟨q, c, rfl⟩ := hu.slice
    have hsrc : Src Try.prog i0.size 61 (.slice q 0 c) 0 [] w := by
      cases q with
      | none => exact Src.ofNil w Try.underlying61 c
      | some a => exact Src.ofSlice w Try.underlying61 a 0 c [] (by simp) (fun j u hj => by simp at hj) (fun u hu => by simp at hu)
    refine ⟨v, w, fun ty => ?_, by rw [List.append_nil]; exact hown, Kept.refl _ _, fun i hi => Or.inl hi⟩
    rcases hown.2 with ⟨rfl, _⟩ | ⟨g', cap', cur, rfl, _, _, h1, _⟩
    · exact run_append_nothing w _ _ _ _ i0 Try.underlying61 hi0 none 0 0 (Nat.le_refl _) _ hsrc
    · exact run_append_nothing w _ _ _ _ i0 Try.underlying61 hi0 _ _ _ h1 _ hsrc
  · obtain ⟨g, cap, rfl, hc⟩ := hu.row he
    have hpos : 0 < b.length := List.length_pos_iff.2 he
    obtain ⟨v', w', h1, h2, h3⟩ := owned_append (P := Try.prog) Try.underlying61 hi0 hz0 hz1 hz2 rfl (by decide) hown hb ⟨g, 0, none⟩ b.length cap (intCells b) hpos (by simp [intCells]) hc (intCells_one b) hn (by decide)
    refine ⟨v', w', h1, ?_, ?_⟩
    · unfold OwnI
      rw [List.length_append, show intCells (a ++ b) = intCells a ++ intCells b from by simp [intCells]]
      exact h2
    · rcases h3 with ⟨g', cap', rfl, rfl, hk⟩ | ⟨cap', rfl, hk, _⟩
      · refine ⟨hk.mono (fun i _ e => by rw [e]; rfl), fun i hi => Or.inl ?_⟩
        simpa [Value.ownBlock] using hi
      · refine ⟨hk.mono (fun i _ e => e.elim), fun i hi => Or.inr ?_⟩
        have : w.heap.size = i := by simpa [Value.ownBlock] using hi
        omega
end Go.Proofs.Ytcmdfcdmfdheeaa
