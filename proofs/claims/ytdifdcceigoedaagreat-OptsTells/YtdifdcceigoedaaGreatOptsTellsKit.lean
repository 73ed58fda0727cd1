/- What the walk of the law OptsTells leans on: a law's own book of lists of options, its box, and what a round has in hand. -/
import Derived.Test.YtdifdcceigoedaaGreatBoAddWalk
import Derived.Test.YtdifdcceigoedaaGreatBoApart
import Derived.Test.YtdifdcceigoedaaGreatOpArgs
import Derived.Test.YtdifdcceigoedaaGreatOpRef4
import Derived.Test.YtdifdcceigoedaaGreatOpSameP
namespace Go.Proofs.YtdifdcceigoedaaGreat
open Go.RowKit

theorem optsN_len (n : Nat) (l : List UInt8) (acc : List Tg) (h : acc.length ≤ 30) : (optsN n l acc).1.length ≤ 30 := by
  induction n generalizing l acc with
  | zero => simp [optsN]
  | succ n ih =>
    simp only [optsN]
    split
    · exact h
    · split
      · simp
      · split
        · simp
        · split
          · simp
          · split
            · simp
            · exact ih _ _ (by rw [List.length_append, List.length_singleton]; omega)
theorem optsOn_len (l : List UInt8) : (optsOn l []).1.length ≤ 30 := optsN_len _ _ _ (by simp)
theorem getPack_len (l : List UInt8) : (getPackF l).1.opts.length ≤ 30 := by
  unfold getPackF
  split
  · rw [(getDataF_data l).2]
    simp
  · split
    · simp
    · exact optsOn_len _

theorem TagsAt.below {w W : World} {v : Value} {l : List Tg} (h : TagsAt w v l) (hb : Below w.heap.size w W) : TagsAt W v l := by
  rcases h with h | ⟨g, o, cap, hv, h1, h2, hc⟩
  · exact Or.inl h
  · refine Or.inr ⟨g, o, cap, hv, h1, h2, fun j x hj => ?_⟩
    obtain ⟨c1, c2⟩ := hc j x hj
    exact ⟨(hb.cell (p := ⟨g, o + j * 2, none⟩) (lt_of_cell c1)).trans c1, (hb.cell (p := ⟨g, o + j * 2 + 1, none⟩) (lt_of_cell c2)).trans c2⟩

theorem book_new (w : World) (base : Nat) (hb : base ≤ w.heap.size) :
    BookT (w.alloc (.cells (bookCells (.slice none 0 0) (.slice none 0 0)) 47)) w.heap.size base (.slice none 0 0) (.slice none 0 0) [] [] [] :=
  ⟨⟨heap_alloc_new w _, World.ownsRow_nil _ _ _ _, ⟨rfl, fun r v L h => by simp at h⟩, fun r q u v h => by simp at h, hb⟩, World.ownsRow_nil _ _ _ _, ⟨rfl, fun r v L h => by simp at h⟩, fun ⟨g, h, _⟩ => by simp [Value.ownBlock] at h⟩

theorem row_ty {W : World} {n k b : Nat} {e : TypeId} {y : Value} {ys : List Value} (hy : W.ownsRow b e k y n ys) {i : Nat} (hi : y.ownBlock = some i) : (∃ cur, W.heap[i]? = some (.cells cur e (0, 0))) ∧ b ≤ i := by
  rcases hy.2 with ⟨rfl, _⟩ | ⟨g, cap, cur, rfl, hb, hg, _⟩
  · cases hi
  · have : g = i := by simpa [Value.ownBlock] using hi
    subst this
    exact ⟨⟨cur, hg⟩, hb⟩
/-- A row of options where blocks turn that are not its own. -/
theorem OwnO.keptS {S : Nat → Prop} {W W' : World} {base : Nat} {v : Value} {l : List Tg} (h : OwnO W base v l) (hk : Kept S W W') (hS : ∀ i, v.ownBlock = some i → ¬ S i) : OwnO W' base v l := by
  rcases h.2 with ⟨rfl, h0⟩ | ⟨g, cap, cur, rfl, hb, hg, h1, h2, h3, h4⟩
  · exact ⟨h.1, Or.inl ⟨rfl, h0⟩⟩
  · exact ⟨h.1, Or.inr ⟨g, cap, cur, rfl, hb, (hk.block g (Array.getElem?_eq_some_iff.1 hg).1 (hS g rfl)).trans hg, h1, h2, h3, h4⟩⟩
/-- A block of a book, or of a row of lists. -/
def BkTy (W : World) (i : Nat) : Prop := ∃ cur t, W.heap[i]? = some (.cells cur t (0, 0)) ∧ (t = 47 ∨ t = 22)
theorem bo_ty {W : World} {bk base : Nat} {v6 v7 : Value} {vs us : List Value} {Ls : List (List Tg)} (h : BookT W bk base v6 v7 vs us Ls) {i : Nat} (hi : Bo bk v6 v7 i) : BkTy W i ∧ base ≤ i := by
  rcases hi with rfl | hi | hi
  · exact ⟨⟨_, _, h.p.blk, Or.inl rfl⟩, h.p.lo⟩
  · obtain ⟨⟨cur, h1⟩, h2⟩ := row_ty h.p.r6 hi
    exact ⟨⟨_, _, h1, Or.inr rfl⟩, h2⟩
  · obtain ⟨⟨cur, h1⟩, h2⟩ := row_ty h.r7 hi
    exact ⟨⟨_, _, h1, Or.inr rfl⟩, h2⟩
theorem OwnO.book {W W' : World} {base : Nat} {v : Value} {l : List Tg} (h : OwnO W base v l) (hk : Kept (BkTy W) W W') : OwnO W' base v l := h.keptS hk (fun i hi ⟨cur, t, h1, h2⟩ => by
  obtain ⟨⟨cur', h3⟩, _⟩ := row_ty h hi
  rw [h1] at h3
  simp at h3
  rcases h2 with rfl | rfl
  · exact absurd h3.2 (by decide)
  · exact absurd h3.2 (by decide))
theorem OwnO.other {W W' : World} {base b : Nat} {v : Value} {l : List Tg} {c i : Int} {u : Value} {s : ByteArray} (h : OwnO W base v l) (hb : PkAt W b c i u s) (hk : Kept (fun i => i = b) W W') : OwnO W' base v l := h.keptS hk (fun j hj e => by
  obtain ⟨⟨cur', h3⟩, _⟩ := row_ty h hj
  subst e
  rw [show W.heap[j]? = _ from hb] at h3
  simp at h3)
theorem PkAt.book {W W' : World} {b : Nat} {c i : Int} {u : Value} {s : ByteArray} (h : PkAt W b c i u s) (hk : Kept (BkTy W) W W') : PkAt W' b c i u s := h.kept hk (fun ⟨cur, t, h1, h2⟩ => by
  rw [show W.heap[b]? = _ from h] at h1
  simp at h1
  rcases h2 with rfl | rfl
  · exact absurd h1.2 (by decide)
  · exact absurd h1.2 (by decide))

/-- A law's own box and book, made behind w: the book holds Ls, whose lists lie ahead of N. -/
structure TO (w : World) (bk : Nat) (Ls : List (List Tg)) (N : Nat) (c i : Int) (u : Value) (x : ByteArray) (W : World) : Prop where
  bel : Below w.heap.size w W
  box : PkAt W w.heap.size c i u x
  book : ∃ v6 v7 vs us, BookT W bk w.heap.size v6 v7 vs us Ls ∧ ∀ (r : Nat) (v : Value), vs[r]? = some v → ∀ g, v.ownBlock = some g → g < N
  sz : ∀ L ∈ Ls, L.length ≤ 1000
  lt : N ≤ W.heap.size
section
variable {w W W' : World} {bk N : Nat} {Ls : List (List Tg)} {c i : Int} {u : Value} {x : ByteArray}
theorem TO.kept (h : TO w bk Ls N c i u x W) (hk : Kept (fun _ => False) W W') : TO w bk Ls N c i u x W' :=
  ⟨h.bel.trans (hk.below h.bel.size (fun _ h => h.elim)), h.box.kept hk id, by obtain ⟨v6, v7, vs, us, hB, ho⟩ := h.book; exact ⟨v6, v7, vs, us, hB.kept0 hk, ho⟩, h.sz, Nat.le_trans h.lt hk.size⟩
/-- A packet's block, made behind w, turns. -/
theorem TO.other {b : Nat} {c' i' : Int} {u' : Value} {s' : ByteArray} (h : TO w bk Ls N c i u x W) (hb : PkAt W b c' i' u' s') (hlo : w.heap.size < b) (hk : Kept (fun i => i = b) W W') : TO w bk Ls N c i u x W' := by
  obtain ⟨v6, v7, vs, us, hB, hold⟩ := h.book
  have far : ∀ {n k bb : Nat} {e : TypeId} {y : Value} {ys : List Value}, W.ownsRow bb e k y n ys → e ≠ 24 → ∀ j, y.ownBlock = some j → ¬ j = b := by
    intro n k bb e y ys hy he j hj hjb
    subst hjb
    obtain ⟨⟨cur, hg⟩, _⟩ := row_ty hy hj
    rw [show W.heap[j]? = _ from hb] at hg
    simp at hg
    exact he hg.2.symm
  have hbk : ¬ bk = b := fun e => by
    subst e
    have hh := hB.p.blk
    rw [show W.heap[bk]? = _ from hb] at hh
    simp at hh
  have fam : ∀ {xs : List Value} {Ms : List (List Tg)}, Fam W w.heap.size xs Ms → Fam W' w.heap.size xs Ms := fun hf => hf.kept hk (fun r v i hv hi => by
    obtain ⟨L, _, hL⟩ := hf.at hv
    exact far hL (by decide) i hi)
  refine ⟨h.bel.trans (hk.below h.bel.size (fun i hi => by omega)), h.box.kept hk (by omega), ⟨v6, v7, vs, us, ⟨⟨(hk.block bk hB.p.lt hbk).trans hB.p.blk, rowS_kept hB.p.r6 hk (far hB.p.r6 (by decide)), fam hB.p.f6, hB.p.a6, hB.p.lo⟩, rowS_kept hB.r7 hk (far hB.r7 (by decide)), fam hB.f7, hB.ne⟩, hold⟩, h.sz, Nat.le_trans h.lt hk.size⟩
/-- One list more: it lies at N or behind, and ahead of M. -/
theorem TO.add {L : List Tg} {v : Value} {M : Nat} (h : TO w bk Ls N c i u x W) (hj : Ls.length < 250) (hL : L.length ≤ 1000) (hN : w.heap.size ≤ N) (hv : OwnO W N v L) (hNM : N ≤ M) (hM : M ≤ W.heap.size) (hvM : ∀ g, v.ownBlock = some g → g < M) :
    Calls Tryz.prog 28 #[.pointer (some ⟨bk, 0, none⟩), v] W fun e w' => e = .returned (.tuple #[]) ∧ TO w bk (Ls ++ [L]) M c i u x w' ∧ Kept (BkTy W) W w' := by
  obtain ⟨v6, v7, vs, us, hB, hold⟩ := h.book
  have hlen : vs.length = Ls.length := hB.p.f6.len
  have hnew : ∀ (r : Nat) (u : Value), vs[r]? = some u → ¬ Shares u v := by
    rintro r u hu ⟨g, h1, h2⟩
    have a1 := hold r u hu g h1
    have a2 := (own_lt hv h2).1
    omega
  refine (bookOptions_any hB h.bel.size (by omega) (hv.mono hN) hnew hL).mono ?_
  rintro e w' ⟨rfl, v6', v7', u', hB', hb'⟩
  have hk := hb'.mono (fun i _ hi => (bo_ty hB hi).1)
  refine ⟨rfl, ⟨h.bel.trans (hb'.below h.bel.size (fun i hi => (bo_ty hB hi).2)), h.box.book hk, ⟨v6', v7', vs ++ [v], us ++ [u'], hB', ?_⟩, fun M hM => by
    rcases List.mem_append.1 hM with hM | hM
    · exact h.sz M hM
    · simp at hM
      rw [hM]
      exact hL, Nat.le_trans hM hk.size⟩, hk⟩
  intro r y hy g hg
  by_cases hr : r < vs.length
  · rw [List.getElem?_append_left hr] at hy
    have := hold r y hy g hg
    omega
  · rw [List.getElem?_append_right (by omega)] at hy
    have : y = v := by
      cases hq : r - vs.length with
      | zero => rw [hq] at hy; simpa using hy.symm
      | succ k => rw [hq] at hy; simp at hy
    subst this
    exact hvM g hg
theorem TO.apart (h : TO w bk Ls N c i u x W) (hj : Ls.length ≤ 250) :
    Calls Tryz.prog 29 #[.pointer (some ⟨bk, 0, none⟩)] W fun e w' => e = .returned (.bool true) ∧ Below w.heap.size w w' := by
  obtain ⟨v6, v7, vs, us, hB, _⟩ := h.book
  refine (apart_Options hB h.bel.size h.sz (by rw [hB.p.f6.len]; exact hj)).mono ?_
  rintro e w' ⟨rfl, hb⟩
  exact ⟨rfl, h.bel.trans hb⟩
end

/-- What a round has in hand: the law's box and book, a box of its own and two lists that are lent. -/
structure Rs (w : World) (bk : Nat) (Ls : List (List Tg)) (N : Nat) (c i : Int) (u : Value) (x : ByteArray) (l o : List Tg) (X g1 k1 g2 k2 : Nat) (W : World) : Prop where
  st : TO w bk Ls N c i u x W
  xb : PkAt W X c i (.slice (some ⟨g2, 0, none⟩) o.length k2) x
  m1 : LentAt W w.heap.size g1 k1 l
  m2 : LentAt W w.heap.size g2 k2 o
theorem Rs.kept {w W W' : World} {bk N X g1 k1 g2 k2 : Nat} {Ls : List (List Tg)} {c i : Int} {u : Value} {x : ByteArray} {l o : List Tg} (h : Rs w bk Ls N c i u x l o X g1 k1 g2 k2 W) (hk : Kept (fun _ => False) W W') : Rs w bk Ls N c i u x l o X g1 k1 g2 k2 W' :=
  ⟨h.st.kept hk, h.xb.kept hk id, h.m1.kept hk, h.m2.kept hk⟩
theorem PkAt.set0 {w : World} {b : Nat} {c i : Int} {u : Value} {s : ByteArray} (h : PkAt w b c i u s) (c' : Int) : PkAt (w.setCell ⟨b, 0, none⟩ (.int .i64 c')) b c' i u s := Joins.block_setCell h (.int .i64 c')
theorem PkAt.set1 {w : World} {b : Nat} {c i : Int} {u : Value} {s : ByteArray} (h : PkAt w b c i u s) (i' : Int) : PkAt (w.setCell ⟨b, 1, none⟩ (.int .i64 i')) b c i' u s := Joins.block_setCell h (.int .i64 i')
/-- The box of a round and the list that is lent first. -/
def Xb (w : World) (bk : Nat) (Ls : List (List Tg)) (N : Nat) (c i : Int) (u : Value) (x : ByteArray) (l : List Tg) (X g1 k1 : Nat) (W : World) : Prop := w.heap.size < X ∧ TO w bk Ls N c i u x W ∧ PkAt W X c i u x ∧ LentAt W w.heap.size g1 k1 l

def Gz (n : Nat) (W : World) : Prop := n ≤ W.heap.size
theorem Gz.kept {n : Nat} {S : Nat → Prop} {W W' : World} (h : Gz n W) (hk : Kept S W W') : Gz n W' := Nat.le_trans h hk.size
/-- Two packets that were got, in boxes: alike. -/
structure Tw (gc gi : Int) (gd : ByteArray) (L : List Tg) (Q R : Nat) (uq ur : Value) (Nq Nr : Nat) (W : World) : Prop where
  q : PkAt W Q gc gi uq gd
  r : PkAt W R gc gi ur gd
  oq : OwnO W Nq uq L
  or : OwnO W Nr ur L
theorem Tw.kept {W W' : World} {gc gi : Int} {gd : ByteArray} {L : List Tg} {Q R Nq Nr : Nat} {uq ur : Value} (h : Tw gc gi gd L Q R uq ur Nq Nr W) (hk : Kept (fun _ => False) W W') : Tw gc gi gd L Q R uq ur Nq Nr W' :=
  ⟨h.q.kept hk id, h.r.kept hk id, h.oq.kept hk, h.or.kept hk⟩
/-- What a law asks ahead: both lists are light, or it is alive. -/
theorem lightHid {v : Value} {l : List Tg} {w : World} (hv : TagsAt w v l) (hln : l.length ≤ maxLen) (hsz : ∀ x ∈ l, x.value.size ≤ 140737488351232) {b : Bool} (hb : lightO l = b) :
    Hid (∀ W, Kept (fun _ => False) w W → Calls Tryz.prog 4 #[v] W fun e w' => e = .returned (.bool b) ∧ Kept (fun _ => False) W w') := fun W h => by
  have := lightO_any v l W (hv.kept0 h) hln hsz
  rw [hb] at this
  exact this

theorem wpList_book {ops : Array Oper} {rest : List Oper} {o : Oper} {a : Act} {w : World} {Q : Exit → Act → World → Prop} {BC : Array Value} (hBC : bookCells (.slice none 0 0) (.slice none 0 0) = BC) (hg : o.guard = none) (ho : o.op = .build 47 #[])
    (h : wpList Tryz.prog ops Q rest (a.put o.dst (.agg BC)) w) : wpList Tryz.prog ops Q (o :: rest) a w := by
  refine wpList_build hg 47 #[] ho (by kernel_rfl) ?_
  have e : (Tryz.prog.built 47 ((#[] : Array (Nat × Operand)).map fun (i, x) => (i, a.eval x)).toList).getD #[] = bookCells (.slice none 0 0) (.slice none 0 0) := by kernel_rfl
  rw [e, hBC]
  exact h
end Go.Proofs.YtdifdcceigoedaaGreat
