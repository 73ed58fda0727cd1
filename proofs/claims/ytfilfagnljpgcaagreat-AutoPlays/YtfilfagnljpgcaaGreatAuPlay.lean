/- Both automata and the book of a law that plays them side by side. -/
import Derived.Test.YtfilfagnljpgcaaGreatAuRefDo
import Derived.Test.YtfilfagnljpgcaaGreatBiKit
namespace Go.Proofs.YtfilfagnljpgcaaGreat
open Go.RowKit

/-- A block of another type turns: the book stays. -/
theorem BookT.other {W W' : World} {bk b base : Nat} {v6 v7 : Value} {vs us : List Value} {Ls : List (List Int)} {t : TypeId} {cur : Array Value} (hB : BookT W bk base v6 v7 vs us Ls) (hb : W.heap[b]? = some (.cells cur t (0, 0))) (h1 : t ≠ 3) (h2 : t ≠ 43) (h3 : t ≠ 42) (hk : Kept (fun i => i = b) W W') : BookT W' bk base v6 v7 vs us Ls := by
  have far : ∀ {n k bb : Nat} {e : TypeId} {y : Value} {ys : List Value}, W.ownsRow bb e k y n ys → e ≠ t → ∀ j, y.ownBlock = some j → ¬ j = b := by
    intro n k bb e y ys hy he j hj hjb
    subst hjb
    obtain ⟨⟨cur', h1⟩, _⟩ := row_ty hy hj
    rw [hb] at h1
    simp at h1
    exact he h1.2.symm
  have hbk : ¬ bk = b := fun e => by
    subst e
    have hh := hB.p.blk
    rw [hb] at hh
    simp at hh
    exact h3 hh.2
  have fam : ∀ {xs : List Value} {Ms : List (List Int)}, Fam W base xs Ms → Fam W' base xs Ms := fun hf => hf.kept hk (fun r v i hv hi => by
    obtain ⟨L, _, hL⟩ := hf.at hv
    exact far hL (Ne.symm h1) i hi)
  exact ⟨⟨(hk.block bk hB.p.lt hbk).trans hB.p.blk, rowS_kept hB.p.r6 hk (far hB.p.r6 (Ne.symm h2)), fam hB.p.f6, hB.p.a6, hB.p.lo⟩, rowS_kept hB.r7 hk (far hB.r7 (Ne.symm h2)), fam hB.f7, hB.ne⟩

/-- A law's own book, whose lists lie below N. -/
structure BB (w W : World) (bk N : Nat) (Ls : List (List Int)) : Prop where
  bel : Below w.heap.size w W
  book : ∃ v6 v7 vs us, BookT W bk w.heap.size v6 v7 vs us Ls ∧ ∀ (r : Nat) (u : Value) (i : Nat), vs[r]? = some u → u.ownBlock = some i → i < N
  sz : ∀ L ∈ Ls, L.length ≤ 1000
theorem BI.bb {w W : World} {bk : Nat} {Ls : List (List Int)} (h : BI w W bk Ls) : BB w W bk W.heap.size Ls := by
  obtain ⟨v6, v7, vs, us, hB⟩ := h.book
  exact ⟨h.bel, ⟨v6, v7, vs, us, hB, fun r u i hu hi => by
    obtain ⟨L, _, hL⟩ := hB.p.f6.at hu
    exact (own_lt hL hi).2⟩, h.sz⟩
theorem BB.kept0 {w W W' : World} {bk N : Nat} {Ls : List (List Int)} (h : BB w W bk N Ls) (hk : Kept (fun _ => False) W W') : BB w W' bk N Ls := by
  obtain ⟨v6, v7, vs, us, hB, hN⟩ := h.book
  exact ⟨h.bel.trans (hk.below h.bel.size (fun _ h => h.elim)), ⟨v6, v7, vs, us, hB.kept0 hk, hN⟩, h.sz⟩
theorem BB.other {w W W' : World} {bk b N : Nat} {Ls : List (List Int)} {t : TypeId} {cur : Array Value} (h : BB w W bk N Ls) (hb : W.heap[b]? = some (.cells cur t (0, 0))) (h1 : t ≠ 3) (h2 : t ≠ 43) (h3 : t ≠ 42) (hlo : w.heap.size ≤ b) (hk : Kept (fun i => i = b) W W') : BB w W' bk N Ls := by
  obtain ⟨v6, v7, vs, us, hB, hN⟩ := h.book
  exact ⟨h.bel.trans (hk.below h.bel.size (fun i hi => by omega)), ⟨v6, v7, vs, us, hB.other hb h1 h2 h3 hk, hN⟩, h.sz⟩

set_option maxHeartbeats 1000000 in
set_option maxRecDepth 100000 in
theorem bookInts_full {W : World} {bk base : Nat} {v6 v7 : Value} {vs us : List Value} {Ls : List (List Int)} (h : BookT W bk base v6 v7 vs us Ls) (h250 : 250 ≤ vs.length) (v : Value) :
    Calls Tryz.prog 8 #[.pointer (some ⟨bk, 0, none⟩), v] W fun e w' => e = .returned (.tuple #[]) ∧ w' = W := by
  obtain ⟨p6, cap6, rfl⟩ := rowS_slice h.p.r6
  have c6 := h.p.c6
  have hltz : ¬ (vs.length : Int) < 250 := by omega
  clear h
  go_enter Tryz.func8, Tryz.ntmps8
  go_wp2
  go_end0
  exact ⟨rfl, rfl⟩

/-- One list more, or none if the book is full. -/
theorem BB.add {w W : World} {bk N : Nat} {Ls : List (List Int)} {L : List Int} {v : Value} (h : BB w W bk N Ls) (hj : Ls.length ≤ 250) (hL : L.length ≤ 1000) (hN : w.heap.size ≤ N) (hv : OwnI W N v L) :
    Calls Tryz.prog 8 #[.pointer (some ⟨bk, 0, none⟩), v] W fun e w' => e = .returned (.tuple #[]) ∧ (∃ Ls', BI w w' bk Ls' ∧ Ls'.length ≤ 250) ∧ Kept (BkTy W) W w' := by
  obtain ⟨v6, v7, vs, us, hB, hlt⟩ := h.book
  have hlen : vs.length = Ls.length := hB.p.f6.len
  by_cases hfull : 250 ≤ vs.length
  · refine (bookInts_full hB hfull v).mono ?_
    rintro e w' ⟨rfl, rfl⟩
    exact ⟨rfl, ⟨Ls, ⟨h.bel, ⟨v6, v7, vs, us, hB⟩, h.sz⟩, hj⟩, Kept.refl _ _⟩
  · have hnew : ∀ (r : Nat) (u : Value), vs[r]? = some u → ¬ Shares u v := by
      rintro r u hu ⟨g, h1, h2⟩
      have a1 := hlt r u g hu h1
      have a2 := (own_lt hv h2).1
      omega
    refine (bookInts_any hB h.bel.size (by omega) (hv.mono hN) hnew hL).mono ?_
    rintro e w' ⟨rfl, v6', v7', u, hB', hb'⟩
    refine ⟨rfl, ⟨Ls ++ [L], ⟨h.bel.trans (hb'.below h.bel.size (fun i hi => (bo_ty hB hi).2)), ⟨v6', v7', vs ++ [v], us ++ [u], hB'⟩, fun M hM => ?_⟩, by rw [List.length_append, List.length_singleton]; omega⟩, hb'.mono (fun i _ hi => (bo_ty hB hi).1)⟩
    rcases List.mem_append.1 hM with hM | hM
    · exact h.sz M hM
    · simp at hM
      rw [hM]
      exact hL

/-- Both automata have come to c, and the book lies beside them. -/
structure PlayIn (w W : World) (ba br bk : Nat) (c : Au) (Ls : List (List Int)) : Prop where
  a : AutoIn W ba c
  r : RefIn W br c
  g : GoodA c
  la : w.heap.size ≤ ba
  lr : w.heap.size ≤ br
  book : BI w W bk Ls
  n : Ls.length ≤ 250

/-- Behind the program's call: it answered v. -/
structure HalfIn (w W0 W : World) (ba br bk : Nat) (c c' : Au) (Ls : List (List Int)) (v : Value) (l : List Int) : Prop where
  a : AutoIn W ba c'
  r : RefIn W br c
  g : GoodA c
  g' : GoodA c'
  la : w.heap.size ≤ ba
  lr : w.heap.size ≤ br
  book : BB w W bk W0.heap.size Ls
  n : Ls.length ≤ 250
  lo : w.heap.size ≤ W0.heap.size
  sz : W0.heap.size ≤ W.heap.size
  own : OwnI W W0.heap.size v l
  kept : Kept (fun i => w.heap.size ≤ i) w W
theorem PlayIn.below {w W : World} {ba br bk : Nat} {c : Au} {Ls : List (List Int)} (h : PlayIn w W ba br bk c Ls) : Kept (fun i => w.heap.size ≤ i) w W := Kept.of_below h.book.bel (fun _ _ hi => hi)
theorem auto_ne_ref {W : World} {ba br : Nat} {c c' : Au} (ha : AutoIn W ba c) (hr : RefIn W br c') : ba ≠ br := fun e => by
  subst e
  unfold AutoIn at ha
  unfold RefIn at hr
  rw [ha] at hr
  simp at hr
theorem PlayIn.half {w W W' : World} {ba br bk : Nat} {c c' : Au} {Ls : List (List Int)} {v : Value} {l : List Int} (h : PlayIn w W ba br bk c Ls) (ha : AutoIn W' ba c') (hg : GoodA c') (ho : OwnI W' W.heap.size v l) (hk : Kept (fun i => i = ba) W W') : HalfIn w W W' ba br bk c c' Ls v l :=
  ⟨ha, h.r.kept hk (fun e => auto_ne_ref h.a h.r e.symm), h.g, hg, h.la, h.lr, h.book.bb.other h.a (by decide) (by decide) (by decide) h.la hk, h.n, h.book.bel.size, hk.size, ho, h.below.andThen hk (fun i _ e => by subst e; exact h.la)⟩
theorem PlayIn.draw {w W : World} {ba br bk : Nat} {c : Au} {Ls : List (List Int)} (h : PlayIn w W ba br bk c Ls) : PlayIn w W.drew ba br bk c Ls := by
  have hk : Kept (fun _ => False) W W.drew := (Kept.refl _ W).drew
  exact ⟨h.a.kept0 hk, h.r.kept0 hk, h.g, h.la, h.lr, h.book.kept0 hk, h.n⟩
theorem HalfIn.still {w W0 W W' : World} {ba br bk : Nat} {c c' : Au} {Ls : List (List Int)} {v : Value} {l : List Int} (h : HalfIn w W0 W ba br bk c c' Ls v l) (hk : Kept (fun _ => False) W W') : HalfIn w W0 W' ba br bk c c' Ls v l :=
  ⟨h.a.kept0 hk, h.r.kept0 hk, h.g, h.g', h.la, h.lr, h.book.kept0 hk, h.n, h.lo, Nat.le_trans h.sz hk.size, h.own.kept0 hk, h.kept.andThen hk (fun _ _ e => e.elim)⟩

/-- Behind both calls: both answered l. -/
structure BothIn (w W0 W : World) (ba br bk : Nat) (c : Au) (Ls : List (List Int)) (v u : Value) (l : List Int) : Prop where
  a : AutoIn W ba c
  r : RefIn W br c
  g : GoodA c
  la : w.heap.size ≤ ba
  lr : w.heap.size ≤ br
  book : BB w W bk W0.heap.size Ls
  n : Ls.length ≤ 250
  lo : w.heap.size ≤ W0.heap.size
  own : OwnI W W0.heap.size v l
  too : OwnI W 0 u l
theorem HalfIn.both {w W0 W W' : World} {ba br bk : Nat} {c c' : Au} {Ls : List (List Int)} {v u : Value} {l : List Int} (h : HalfIn w W0 W ba br bk c c' Ls v l) (hr : RefIn W' br c') (ho : OwnI W' W.heap.size u l) (hk : Kept (fun i => i = br) W W') : BothIn w W0 W' ba br bk c' Ls v u l :=
  ⟨h.a.kept hk (fun e => auto_ne_ref h.a h.r e), hr, h.g', h.la, h.lr, h.book.other h.r (by decide) (by decide) (by decide) h.lr hk, h.n, h.lo, h.r.own h.own hk, ho.mono (Nat.zero_le _)⟩
/-- The book has the list. -/
theorem BothIn.add {w W0 W : World} {ba br bk : Nat} {c : Au} {Ls : List (List Int)} {v u : Value} {l : List Int} (h : BothIn w W0 W ba br bk c Ls v u l) (hl : l.length ≤ 1000) :
    Calls Tryz.prog 8 #[.pointer (some ⟨bk, 0, none⟩), v] W fun e w' => e = .returned (.tuple #[]) ∧ ∃ Ls', PlayIn w w' ba br bk c Ls' ∧ OwnI w' 0 v l ∧ OwnI w' 0 u l := by
  refine (h.book.add h.n hl h.lo h.own).mono ?_
  rintro e w' ⟨rfl, ⟨Ls', hB, hn⟩, hk⟩
  refine ⟨rfl, Ls', ⟨h.a.kept hk (fun ⟨cur, t, h1, h2⟩ => ?_), h.r.kept hk (fun ⟨cur, t, h1, h2⟩ => ?_), h.g, h.la, h.lr, hB, hn⟩, (h.own.mono (Nat.zero_le _)).book hk, h.too.book hk⟩
  · have h3 := h.a
    unfold AutoIn at h3
    rw [h1] at h3
    simp at h3
    rcases h2 with rfl | rfl
    · exact absurd h3.2 (by decide)
    · exact absurd h3.2 (by decide)
  · have h3 := h.r
    unfold RefIn at h3
    rw [h1] at h3
    simp at h3
    rcases h2 with rfl | rfl
    · exact absurd h3.2 (by decide)
    · exact absurd h3.2 (by decide)
end Go.Proofs.YtfilfagnljpgcaaGreat
