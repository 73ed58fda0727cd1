/- 'append' of one list of tags onto another. -/
import Derived.Test.YtffnppfoofifgaaGreatTagFind
import Derived.Deep.Upon
import Derived.Lib.AppendZeros
import Derived.Maps.AppendAt
namespace Go.Proofs.YtffnppfoofifgaaGreat
open Go.RowKit

/-- A list's cells, one behind the other. -/
theorem TagsAt.row {W : World} {v : Value} {l : List Tg} (h : TagsAt W v l) (hne : l ≠ []) : ∃ g o cap, v = .slice (some ⟨g, o, none⟩) l.length cap ∧ ∀ (j : Nat) (u : Value), (rowT l)[j]? = some u → W.cell? ((⟨g, o, none⟩ : Addr).add j) = some u := by
  rcases h with ⟨rfl, _⟩ | ⟨g, o, cap, rfl, h1, h2, hc⟩
  · exact absurd rfl hne
  · refine ⟨g, o, cap, rfl, fun j u hj => ?_⟩
    have hlt := (List.getElem?_eq_some_iff.1 hj).1
    rw [rowT_length] at hlt
    have hd : j / 2 < l.length := by omega
    obtain ⟨c0, c1⟩ := hc (j / 2) l[j / 2] (by simp)
    have hg := rowT_get (l := l) (k := j / 2) (x := l[j / 2]) (by simp) (j % 2) (by omega)
    rw [show j / 2 * 2 + j % 2 = j by omega, hj] at hg
    rw [add_none]
    rcases (show j % 2 = 0 ∨ j % 2 = 1 by omega) with e | e
    · rw [e] at hg
      simp [tgCells] at hg
      rw [hg, ← c0]
      congr 2
      omega
    · rw [e] at hg
      simp [tgCells] at hg
      rw [hg, ← c1]
      congr 2
      omega

/-- What 'append' makes of two lists of tags. -/
def AppT (w : World) (v u v' : Value) (w' : World) : Prop := ∀ ty, (Builtin.append_ #[88, 88] ty #[v, u]).run Tryz.prog w = .ok v' w'

/-- 'append' of a list that is read onto one of the call's own. -/
theorem append_run {w0 w : World} {v u : Value} {a b : List Tg} (hk : Kept (fun _ => False) w0 w) (hown : OwnT w w0.heap.size v a) (hu : TagsAt w u b) (hn : a.length + b.length ≤ 1000000) :
    ∃ v' w', AppT w v u v' w' ∧ OwnT w' w0.heap.size v' (a ++ b) ∧ Kept (fun _ => False) w0 w' := by
  obtain ⟨i0, hi0, hz0, hz1, hz2⟩ := info_parts infoTag
  by_cases hb : b = []
  · subst hb
    rcases hu with ⟨_, p, cap, rfl⟩ | ⟨g, o, cap, rfl, _⟩
    all_goals
      have hsrc : ∀ (q : Option Addr) (c : Nat), Src Tryz.prog i0.size 88 (.slice q 0 c) 0 [] w := fun q c => by
        cases q with
        | none => exact Src.ofNil w Tryz.underlying88 c
        | some a => exact Src.ofSlice w Tryz.underlying88 a 0 c [] (by simp) (fun j u hj => by simp at hj) (fun u hu => by simp at hu)
      refine ⟨v, w, fun ty => ?_, by rw [List.append_nil]; exact hown, hk⟩
      rcases hown.2 with ⟨rfl, _⟩ | ⟨g', cap', cur, rfl, _, _, h1, _⟩
      · exact run_append_nothing w _ _ _ _ i0 Tryz.underlying88 hi0 none 0 0 (Nat.le_refl _) _ (hsrc _ _)
      · exact run_append_nothing w _ _ _ _ i0 Tryz.underlying88 hi0 _ _ _ h1 _ (hsrc _ _)
  · obtain ⟨g, o, cap, rfl, hc⟩ := hu.row hb
    obtain ⟨v', w', h1, h2, h3, _, h5⟩ := run_append_own_at (P := Tryz.prog) w w0.heap.size 88 0 97 i0 (.agg #[.int .i64 0, .string ⟨#[]⟩]) 2 24 Tryz.underlying88 hi0 hz0 hz1 hz2 rfl (by decide) v a.length (rowT a) hown ⟨g, o, none⟩ b.length cap (rowT b) (rowT_length b) hc (rowT_oneCell b) (by unfold maxLen; omega) (by omega) hk.size
    refine ⟨v', w', fun ty => h1, ?_, hk.grown h3 (fun j hj => Or.inl (World.ownsRow.lt hown j hj).1)⟩
    unfold OwnT
    rw [rowT_append, List.length_append]
    exact h2

end Go.Proofs.YtffnppfoofifgaaGreat
