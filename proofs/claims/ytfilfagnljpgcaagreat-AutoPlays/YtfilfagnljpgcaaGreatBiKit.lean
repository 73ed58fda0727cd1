/- A law's own book of lists of ints, with lists under way. -/
import Derived.Test.YtfilfagnljpgcaaGreatBiAddWalk
import Derived.Test.YtfilfagnljpgcaaGreatBiApart
namespace Go.Proofs.YtfilfagnljpgcaaGreat
open Go.RowKit

theorem book_new (w : World) (base : Nat) (hb : base ≤ w.heap.size) :
    BookT (w.alloc (.cells (bookCells (.slice none 0 0) (.slice none 0 0)) 42)) w.heap.size base (.slice none 0 0) (.slice none 0 0) [] [] [] :=
  ⟨⟨heap_alloc_new w _, World.ownsRow_nil _ _ _ _, ⟨rfl, fun r v L h => by simp at h⟩, fun r q u v h => by simp at h, hb⟩, World.ownsRow_nil _ _ _ _, ⟨rfl, fun r v L h => by simp at h⟩, fun ⟨g, h, _⟩ => by simp [Value.ownBlock] at h⟩

/-- A block of a book, or of a row of lists. -/
def BkTy (W : World) (i : Nat) : Prop := ∃ cur t, W.heap[i]? = some (.cells cur t (0, 0)) ∧ (t = 42 ∨ t = 43)
theorem row_ty {W : World} {n k b : Nat} {e : TypeId} {y : Value} {ys : List Value} (hy : W.ownsRow b e k y n ys) {i : Nat} (hi : y.ownBlock = some i) : (∃ cur, W.heap[i]? = some (.cells cur e (0, 0))) ∧ b ≤ i := by
  rcases hy.2 with ⟨rfl, _⟩ | ⟨g, cap, cur, rfl, hb, hg, _⟩
  · cases hi
  · have : g = i := by simpa [Value.ownBlock] using hi
    subst this
    exact ⟨⟨cur, hg⟩, hb⟩
theorem bo_ty {W : World} {bk base : Nat} {v6 v7 : Value} {vs us : List Value} {Ls : List (List Int)} (h : BookT W bk base v6 v7 vs us Ls) {i : Nat} (hi : Bo bk v6 v7 i) : BkTy W i ∧ base ≤ i := by
  rcases hi with rfl | hi | hi
  · exact ⟨⟨_, _, h.p.blk, Or.inl rfl⟩, h.p.lo⟩
  · obtain ⟨⟨cur, h1⟩, h2⟩ := row_ty h.p.r6 hi
    exact ⟨⟨_, _, h1, Or.inr rfl⟩, h2⟩
  · obtain ⟨⟨cur, h1⟩, h2⟩ := row_ty h.r7 hi
    exact ⟨⟨_, _, h1, Or.inr rfl⟩, h2⟩
theorem OwnI.book {W W' : World} {base : Nat} {v : Value} {l : List Int} (h : OwnI W base v l) (hk : Kept (BkTy W) W W') : OwnI W' base v l := h.kept hk (fun i hi ⟨cur, t, h1, h2⟩ => by
  obtain ⟨⟨cur', h3⟩, _⟩ := h.block hi
  rw [h1] at h3
  simp at h3
  rcases h2 with rfl | rfl
  · exact absurd h3.2 (by decide)
  · exact absurd h3.2 (by decide))

/-- A law's own book, made behind w: it holds Ls; nothing of what was there has turned. -/
structure BI (w W : World) (bk : Nat) (Ls : List (List Int)) : Prop where
  bel : Below w.heap.size w W
  book : ∃ v6 v7 vs us, BookT W bk w.heap.size v6 v7 vs us Ls
  sz : ∀ L ∈ Ls, L.length ≤ 1000
theorem BI.kept0 {w W W' : World} {bk : Nat} {Ls : List (List Int)} (h : BI w W bk Ls) (hk : Kept (fun _ => False) W W') : BI w W' bk Ls :=
  ⟨h.bel.trans (hk.below h.bel.size (fun _ h => h.elim)), by obtain ⟨v6, v7, vs, us, hB⟩ := h.book; exact ⟨v6, v7, vs, us, hB.kept0 hk⟩, h.sz⟩
/-- A block of another type turns. -/
theorem BI.other {w W W' : World} {bk b : Nat} {Ls : List (List Int)} {t : TypeId} {cur : Array Value} (h : BI w W bk Ls) (hb : W.heap[b]? = some (.cells cur t (0, 0))) (h1 : t ≠ 3) (h2 : t ≠ 43) (h3 : t ≠ 42) (hlo : w.heap.size ≤ b) (hk : Kept (fun i => i = b) W W') : BI w W' bk Ls := by
  obtain ⟨v6, v7, vs, us, hB⟩ := h.book
  have far : ∀ {n k bb : Nat} {e : TypeId} {y : Value} {ys : List Value}, W.ownsRow bb e k y n ys → e ≠ t → ∀ j, y.ownBlock = some j → ¬ j = b := by
    intro n k bb e y ys hy he j hj hjb
    subst hjb
    rcases hy.2 with ⟨rfl, _⟩ | ⟨g, cap, cur', rfl, _, hg, _⟩
    · cases hj
    · have : g = j := by simpa [Value.ownBlock] using hj
      subst this
      rw [hb] at hg
      simp at hg
      exact he hg.2.symm
  have hbk : ¬ bk = b := fun e => by
    subst e
    have hh := hB.p.blk
    rw [hb] at hh
    simp at hh
    exact h3 hh.2
  have fam : ∀ {xs : List Value} {Ms : List (List Int)}, Fam W w.heap.size xs Ms → Fam W' w.heap.size xs Ms := fun hf => hf.kept hk (fun r v i hv hi => by
    obtain ⟨L, _, hL⟩ := hf.at hv
    exact far hL (Ne.symm h1) i hi)
  refine ⟨h.bel.trans (hk.below h.bel.size (fun i hi => by omega)), ⟨v6, v7, vs, us, ⟨⟨(hk.block bk hB.p.lt hbk).trans hB.p.blk, rowS_kept hB.p.r6 hk (far hB.p.r6 (Ne.symm h2)), fam hB.p.f6, hB.p.a6, hB.p.lo⟩, rowS_kept hB.r7 hk (far hB.r7 (Ne.symm h2)), fam hB.f7, hB.ne⟩⟩, h.sz⟩
/-- One list more: v, new behind W0, where the book lay as it was till then. -/
theorem BI.add {w W0 W : World} {bk : Nat} {Ls : List (List Int)} {L : List Int} {v : Value} (h0 : ∃ v6 v7 vs us, BookT W0 bk w.heap.size v6 v7 vs us Ls ∧ BookT W bk w.heap.size v6 v7 vs us Ls) (h : BI w W bk Ls) (hj : Ls.length < 250) (hL : L.length ≤ 1000) (hb : w.heap.size ≤ W0.heap.size) (hv : OwnI W W0.heap.size v L) :
    Calls Tryz.prog 8 #[.pointer (some ⟨bk, 0, none⟩), v] W fun e w' => e = .returned (.tuple #[]) ∧ BI w w' bk (Ls ++ [L]) ∧ Kept (BkTy W) W w' := by
  obtain ⟨v6, v7, vs, us, hB0, hB⟩ := h0
  have hlen : vs.length = Ls.length := hB.p.f6.len
  have hnew : ∀ (r : Nat) (u : Value), vs[r]? = some u → ¬ Shares u v := by
    rintro r u hu ⟨g, h1, h2⟩
    obtain ⟨M, _, hM⟩ := hB0.p.f6.at hu
    have a1 := (own_lt hM h1).2
    have a2 := (own_lt hv h2).1
    omega
  refine (bookInts_any hB h.bel.size (by omega) (hv.mono hb) hnew hL).mono ?_
  rintro e w' ⟨rfl, v6', v7', u, hB', hb'⟩
  exact ⟨rfl, ⟨h.bel.trans (hb'.below h.bel.size (fun i hi => (bo_ty hB hi).2)), ⟨v6', v7', vs ++ [v], us ++ [u], hB'⟩, fun M hM => by
    rcases List.mem_append.1 hM with hM | hM
    · exact h.sz M hM
    · simp at hM
      rw [hM]
      exact hL⟩, hb'.mono (fun i _ hi => (bo_ty hB hi).1)⟩
theorem BI.apart {w W : World} {bk : Nat} {Ls : List (List Int)} (h : BI w W bk Ls) (hj : Ls.length ≤ 250) :
    Calls Tryz.prog 10 #[.pointer (some ⟨bk, 0, none⟩)] W fun e w' => e = .returned (.bool true) ∧ Below w.heap.size w w' := by
  obtain ⟨v6, v7, vs, us, hB⟩ := h.book
  refine (apart_Ints hB h.bel.size h.sz (by rw [hB.p.f6.len]; exact hj)).mono ?_
  rintro e w' ⟨rfl, hb⟩
  exact ⟨rfl, h.bel.trans hb⟩
end Go.Proofs.YtfilfagnljpgcaaGreat
