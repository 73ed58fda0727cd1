/- The contract of the book's Tags: one list more. -/
import Derived.Test.YtndpfcanfcbldaaGreatDoorBgCopy
namespace Go.Proofs.YtndpfcanfcbldaaGreatDoor
open Go.RowKit

/-- 'append' whose run is known, in a region that draws. -/
theorem step_append_run {P : Program} {ops : Array Oper} {o : Oper} {a : Act} {w : World} {K : Act → World → Prop} {Q : Exit → Act → World → Prop} {E : Prop} (hg : o.guard = none) (d x : Operand) (t : TypeId) (hop : o.op = Op.call { callee := Callee.builtin Builtin.append, args := #[d, x], argTypes := #[t, t] })
    (v u : Value) (hd : a.eval d = v) (hx : a.eval x = u) {v' : Value} {w' : World} (hr : (Builtin.append_ #[t, t] o.type #[v, u]).run P w = .ok v' w') (hK : K (a.put o.dst v') w') :
    if Region.wanted o (yielded ops a.tmps) = true then Oper.wp P o a w K Q else E := by
  rw [if_pos (by simp [Region.wanted, hg])]
  unfold Oper.wp execOp
  simp only [hop, resolve, invoke, builtin, Sem.run_bind, Sem.run_pure, Result.andThen_ok, List.map_toArray, List.map_cons, List.map_nil, hd, hx, hr]
  exact hK

section
variable {X : Nat → Value} {W W' : World} {bk base : Nat} {v6 v7 : Value} {vs us : List Value} {Ls Ks : List (List Tg)}

/-- No row is the book's own block. -/
theorem BookP.far {n k : Nat} {e : TypeId} {x : Value} {xs : List Value} {b : Nat} (h : BookP X W bk base v6 v7 vs Ls) (hx : W.ownsRow b e k x n xs) (he : e ≠ 52) : x.ownBlock ≠ some bk := by
  intro h1
  rcases hx.2 with ⟨rfl, _⟩ | ⟨g, cap, cur, rfl, hb, hg, _⟩
  · cases h1
  · have : g = bk := by simpa [Value.ownBlock] using h1
    subst this
    rw [h.blk] at hg
    simp at hg
    exact he hg.2.symm

/-- A book in the midst of it. -/
structure Half (X : Nat → Value) (W : World) (bk base : Nat) (v6 v7 : Value) (vs us : List Value) (Ls Ks : List (List Tg)) : Prop where
  p : BookP X W bk base v6 v7 vs Ls
  r7 : RowS W base v7 us
  f7 : Fam W base us Ks
  ne : ¬ Shares v6 v7

theorem Half.kept0 (h : Half X W bk base v6 v7 vs us Ls Ks) (hk : Kept (fun _ => False) W W') : Half X W' bk base v6 v7 vs us Ls Ks :=
  ⟨h.p.kept0 hk, rowS_kept h.r7 hk (fun _ _ => id), h.f7.kept0 hk, h.ne⟩

/-- A cell of the book is written. -/
theorem half_set {i : Nat} {x v6' v7' : Value} (hb : W.heap[bk]? = some (.cells (bookCells X v6 v7) 52 (0, 0))) (hi : (bookCells X v6 v7).setIfInBounds i x = bookCells X v6' v7') (hlo : base ≤ bk)
    (r6 : RowS W base v6' vs) (f6 : Fam W base vs Ls) (a6 : Apart vs) (r7 : RowS W base v7' us) (f7 : Fam W base us Ks) (ne : ¬ Shares v6' v7') : Half X (W.setCell ⟨bk, i, none⟩ x) bk base v6' v7' vs us Ls Ks := by
  have hk : Kept (fun j => j = bk) W (W.setCell ⟨bk, i, none⟩ x) := (Kept.refl (fun j => j = bk) W).setCell (p := ⟨bk, i, none⟩) (Or.inr rfl) x
  have far : ∀ {n k b : Nat} {e : TypeId} {y : Value} {ys : List Value}, W.ownsRow b e k y n ys → e ≠ 52 → ∀ j, y.ownBlock = some j → ¬ j = bk := by
    intro n k b e y ys hy he j hj hjb
    subst hjb
    rcases hy.2 with ⟨rfl, _⟩ | ⟨g, cap, cur, rfl, _, hg, _⟩
    · cases hj
    · have : g = j := by simpa [Value.ownBlock] using hj
      subst this
      rw [hb] at hg
      simp at hg
      exact he hg.2.symm
  have b1 := Joins.block_setCell hb (i := i) x
  rw [hi] at b1
  refine ⟨⟨b1, rowS_kept r6 hk (far r6 (by decide)), f6.kept hk (fun r v j hv hj => ?_), a6, hlo⟩, rowS_kept r7 hk (far r7 (by decide)), f7.kept hk (fun r v j hv hj => ?_), ne⟩
  · obtain ⟨L, _, hL⟩ := f6.at hv
    exact far hL (by decide) j hj
  · obtain ⟨L, _, hL⟩ := f7.at hv
    exact far hL (by decide) j hj

theorem grew_far {x y y' : Value} {n : Nat} {k m b : Nat} {e : TypeId} {xs : List Value} (hg : Grew W W' y y' n 1) (hx : W.ownsRow b e k x m xs) (h : ¬ Shares x y) : ¬ Shares x y' := by
  rintro ⟨i, h1, h2⟩
  rcases hg with ⟨g, cap, rfl, rfl, _⟩ | ⟨cap', rfl, _, _⟩
  · exact h ⟨i, h1, h2⟩
  · have hl := (World.ownsRow.lt hx i h1).2
    have e : W.heap.size = i := by simpa [Value.ownBlock] using h2
    omega

theorem shares_symm {x y : Value} (h : ¬ Shares x y) : ¬ Shares y x := fun ⟨g, a, b⟩ => h ⟨g, b, a⟩

theorem half6 (h : BookT X W bk base v6 v7 vs us Ls) {v v6' : Value} {L : List Tg} (hv : OwnO W base v L) (hnew : ∀ (r : Nat) (u : Value), vs[r]? = some u → ¬ Shares u v) (hg : Grew W W' v6 v6' vs.length 1) (hr : RowS W' base v6' (vs ++ [v])) :
    Half X (W'.setCell ⟨bk, 8, none⟩ v6') bk base v6' v7 (vs ++ [v]) us (Ls ++ [L]) Ls := by
  have hk := hg.kept
  have unl : ∀ {x : Value} {M : List Tg}, OwnO W base x M → ∀ i, x.ownBlock = some i → ¬ v6.ownBlock = some i := fun hx i hi e => owned_unlike hx h.p.r6 (by decide) i hi e
  refine half_set (v6 := v6) (v7 := v7) ((hk.block bk h.p.lt (fun e => h.p.far h.p.r6 (by decide) e)).trans h.p.blk) rfl h.p.lo hr ?_ (h.p.a6.snoc hnew) (rowS_kept h.r7 hk (fun i hi e => h.ne ⟨i, e, hi⟩)) (h.f7.kept hk (fun r x i hx hi => ?_)) (shares_symm (grew_far hg h.r7 (shares_symm h.ne)))
  · refine Fam.snoc (h.p.f6.kept hk (fun r x i hx hi => ?_)) (own_kept hv hk (unl hv))
    obtain ⟨M, _, hM⟩ := h.p.f6.at hx
    exact unl hM i hi
  · obtain ⟨M, _, hM⟩ := h.f7.at hx
    exact unl hM i hi

theorem half7 (h : Half X W bk base v6 v7 vs us Ls Ks) {u v7' : Value} {L : List Tg} (hu : OwnO W base u L) (hg : Grew W W' v7 v7' us.length 1) (hr : RowS W' base v7' (us ++ [u])) (hL : Ls = Ks ++ [L]) :
    BookT X (W'.setCell ⟨bk, 9, none⟩ v7') bk base v6 v7' vs (us ++ [u]) Ls := by
  have hk := hg.kept
  have unl : ∀ {x : Value} {M : List Tg}, OwnO W base x M → ∀ i, x.ownBlock = some i → ¬ v7.ownBlock = some i := fun hx i hi e => owned_unlike hx h.r7 (by decide) i hi e
  have R : Half X (W'.setCell ⟨bk, 9, none⟩ v7') bk base v6 v7' vs (us ++ [u]) Ls (Ks ++ [L]) := by
    refine half_set (v6 := v6) (v7 := v7) ((hk.block bk h.p.lt (fun e => h.p.far h.r7 (by decide) e)).trans h.p.blk) rfl h.p.lo (rowS_kept h.p.r6 hk (fun i hi e => h.ne ⟨i, hi, e⟩)) (h.p.f6.kept hk (fun r x i hx hi => ?_)) h.p.a6 hr ?_ (grew_far hg h.p.r6 h.ne)
    · obtain ⟨M, _, hM⟩ := h.p.f6.at hx
      exact unl hM i hi
    · refine Fam.snoc (h.f7.kept hk (fun r x i hx hi => ?_)) (own_kept hu hk (unl hu))
      obtain ⟨M, _, hM⟩ := h.f7.at hx
      exact unl hM i hi
  rw [← hL] at R
  exact ⟨R.p, R.r7, R.f7, R.ne⟩

/-- The blocks of the book itself and of its rows of lists. -/
def Bo (bk : Nat) (v6 v7 : Value) (i : Nat) : Prop := i = bk ∨ v6.ownBlock = some i ∨ v7.ownBlock = some i

/-- Behind the copy. -/
def Copied (X : Nat → Value) (W0 : World) (S : Nat → Prop) (bk base : Nat) (v6 v7 : Value) (vs us : List Value) (Ls Ks : List (List Tg)) (u : Value) (L : List Tg) (W : World) : Prop := Half X W bk base v6 v7 vs us Ls Ks ∧ OwnO W base u L ∧ Kept S W0 W ∧ base ≤ W.heap.size

theorem copied_app {W0 : World} {S : Nat → Prop} {u : Value} {L : List Tg} (hS7 : ∀ i, v7.ownBlock = some i → S i) (hSb : S bk) (h : Copied X W0 S bk base v6 v7 vs us Ls Ks u L W) (hL : Ls = Ks ++ [L]) (hn : us.length ≤ 250) :
    ∃ p c w4, AppS (W.alloc (.cells #[u] 55)) v7 (.slice (some ⟨W.heap.size, 0, none⟩) 1 1) (.slice p (us.length + 1) c) w4 ∧ w4.cell? ⟨bk, 9, none⟩ = some v7 ∧ w4.frozen? ⟨bk, 9, none⟩ = false ∧
      BookT X (w4.setCell ⟨bk, 9, none⟩ (.slice p (us.length + 1) c)) bk base v6 (.slice p (us.length + 1) c) vs (us ++ [u]) Ls ∧ Kept S W0 (w4.setCell ⟨bk, 9, none⟩ (.slice p (us.length + 1) c)) := by
  obtain ⟨hH, hu, hB, hb⟩ := h
  obtain ⟨v7', w4, h1, h2, h3⟩ := rowS_app hH.r7 hb (own_oneCell hu) (by omega)
  have hk1 : Kept (fun _ => False) W (W.alloc (.cells #[u] 55)) := (Kept.refl _ _).alloc _
  have hH1 := hH.kept0 hk1
  have R := half7 hH1 (hu.kept hk1) h3 h2 hL
  have hblk := (h3.kept.block bk hH1.p.lt (fun e => hH1.p.far hH1.r7 (by decide) e)).trans hH1.p.blk
  have hBw : Kept S W0 w4 := (hB.trans (hk1.mono (fun _ _ h => h.elim))).trans (h3.kept.mono (fun i _ hi => hS7 i hi))
  obtain ⟨p, c, e⟩ := slice_of h2
  rw [List.length_append, List.length_singleton] at e
  subst e
  exact ⟨p, c, w4, h1, by simp [World.cell?, hblk, bookCells], frozen_of_row _ bk 9 _ _ hblk, R, hBw.setCell (p := ⟨bk, 9, none⟩) (Or.inr hSb) _⟩

end
end Go.Proofs.YtndpfcanfcbldaaGreatDoor
