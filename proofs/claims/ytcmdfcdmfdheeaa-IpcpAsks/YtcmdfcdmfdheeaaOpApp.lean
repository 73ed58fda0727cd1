/- 'append' of one list of options onto another. -/
import Derived.Test.YtcmdfcdmfdheeaaOpRow
import Derived.Deep.Upon
import Derived.Lib.AppendZeros
import Derived.Maps.AppendAt
namespace Go.Proofs.Ytcmdfcdmfdheeaa
open Go.RowKit

/-- A list's cells, one behind the other. -/
theorem TagsAt.rowO {W : World} {v : Value} {l : List Tg} (h : TagsAt W v l) (hne : l ≠ []) : ∃ g o cap, v = .slice (some ⟨g, o, none⟩) l.length cap ∧ ∀ (j : Nat) (u : Value), (rowT l)[j]? = some u → W.cell? ((⟨g, o, none⟩ : Addr).add j) = some u := by
  rcases h with ⟨rfl, _⟩ | ⟨g, o, cap, rfl, h1, h2, hc⟩
  · exact absurd rfl hne
  · refine ⟨g, o, cap, rfl, fun j u hj => ?_⟩
    have hlt := (List.getElem?_eq_some_iff.1 hj).1
    rw [rowT_length] at hlt
    have hd : j / 2 < l.length := by omega
    obtain ⟨c0, c1⟩ := hc (j / 2) l[j / 2] (by simp)
    have hg := rowT_get (l := l) (k := j / 2) (x := l[j / 2]) (by simp) (j % 2) (by omega)
    rw [show j / 2 * 2 + j % 2 = j by omega, hj] at hg
    rw [add_none]
    rcases (show j % 2 = 0 ∨ j % 2 = 1 by omega) with e | e
    · rw [e] at hg
      simp [tgCells] at hg
      rw [hg, ← c0]
      congr 2
      omega
    · rw [e] at hg
      simp [tgCells] at hg
      rw [hg, ← c1]
      congr 2
      omega

/-- What 'append' makes of two lists of options. -/
def AppO (w : World) (v u v' : Value) (w' : World) : Prop := ∀ ty, (Builtin.append_ #[22, 22] ty #[v, u]).run Try.prog w = .ok v' w'

/-- 'append' of a list that is read onto one of the call's own. -/
theorem appendO_run {w0 w : World} {v u : Value} {a b : List Tg} (hk : Kept (fun _ => False) w0 w) (hown : OwnO w w0.heap.size v a) (hu : TagsAt w u b) (hn : a.length + b.length ≤ 1000000) :
    ∃ v' w', AppO w v u v' w' ∧ OwnO w' w0.heap.size v' (a ++ b) ∧ Kept (fun _ => False) w0 w' := by
  obtain ⟨i0, hi0, hz0, hz1, hz2⟩ := info_parts infoOpt
  by_cases hb : b = []
  · subst hb
    rcases hu with ⟨_, p, cap, rfl⟩ | ⟨g, o, cap, rfl, _⟩
    all_goals
      have hsrc : ∀ (q : Option Addr) (c : Nat), Src Try.prog i0.size 22 (.slice q 0 c) 0 [] w := fun q c => by
        cases q with
        | none => exact Src.ofNil w Try.underlying22 c
        | some a => exact Src.ofSlice w Try.underlying22 a 0 c [] (by simp) (fun j u hj => by simp at hj) (fun u hu => by simp at hu)
      refine ⟨v, w, fun ty => ?_, by rw [List.append_nil]; exact hown, hk⟩
      rcases hown.2 with ⟨rfl, _⟩ | ⟨g', cap', cur, rfl, _, _, h1, _⟩
      · exact run_append_nothing w _ _ _ _ i0 Try.underlying22 hi0 none 0 0 (Nat.le_refl _) _ (hsrc _ _)
      · exact run_append_nothing w _ _ _ _ i0 Try.underlying22 hi0 _ _ _ h1 _ (hsrc _ _)
  · obtain ⟨g, o, cap, rfl, hc⟩ := hu.rowO hb
    obtain ⟨v', w', h1, h2, h3, _, h5⟩ := run_append_own_at (P := Try.prog) w w0.heap.size 22 0 51 i0 (.agg #[.int .i64 0, .string ⟨#[]⟩]) 2 24 Try.underlying22 hi0 hz0 hz1 hz2 rfl (by decide) v a.length (rowT a) hown ⟨g, o, none⟩ b.length cap (rowT b) (rowT_length b) hc (rowT_oneCell b) (by unfold maxLen; omega) (by omega) hk.size
    refine ⟨v', w', fun ty => h1, ?_, hk.grown h3 (fun j hj => Or.inl (World.ownsRow.lt hown j hj).1)⟩
    unfold OwnO
    rw [rowT_append, List.length_append]
    exact h2

/-- 'append' by an operation whose guard lets it run. -/
theorem wpList_append_wanted {P : Program} (w : World) {ops : Array Oper} {rest : List Oper} {o : Oper} {a : Act} {Q : Exit → Act → World → Prop} (hw : Region.wanted o (yielded ops a.tmps) = true) (s x : Operand) (t tn : TypeId)
    (ho : o.op = .call { callee := .builtin .append, args := #[s, x], argTypes := #[t, tn] }) (vs vx : Value) (hs : a.eval s = vs) (hx : a.eval x = vx)
    (v' : Value) (w' : World) (hr : (Builtin.append_ #[t, tn] o.type #[vs, vx]).run P w = .ok v' w') (h : wpList P ops Q rest (a.put o.dst v') w') : wpList P ops Q (o :: rest) a w := by
  unfold wpList
  rw [if_pos hw]
  exact .inl (Lib.wp_append_run w s x t tn ho vs vx hs hx v' w' hr h)
end Go.Proofs.Ytcmdfcdmfdheeaa
