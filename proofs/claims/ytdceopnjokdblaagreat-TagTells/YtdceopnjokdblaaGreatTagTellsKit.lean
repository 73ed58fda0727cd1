/- What the walk of the law TagTells leans on: a new book, lists of tags that stay, and the book with j lists under way. -/
import Derived.Test.YtdceopnjokdblaaGreatBookAddWalk
import Derived.Test.YtdceopnjokdblaaGreatBookApart
import Derived.Test.YtdceopnjokdblaaGreatBookStays
import Derived.Test.YtdceopnjokdblaaGreatTagLight
import Derived.Test.YtdceopnjokdblaaGreatTagRefPut
import Derived.Test.YtdceopnjokdblaaGreatTagRefGet
import Derived.Test.YtdceopnjokdblaaGreatTagRefPutTags
import Derived.Test.YtdceopnjokdblaaGreatTagRefGetTags
import Derived.Test.YtdceopnjokdblaaGreatTagRefFind
namespace Go.Proofs.YtdceopnjokdblaaGreat
open Go.RowKit

theorem tagsN_len (n : Nat) (l : List UInt8) (acc : List Tg) (h : acc.length ≤ 20) : (tagsN n l acc).1.length ≤ 20 := by
  induction n generalizing l acc with
  | zero => simp [tagsN]
  | succ n ih =>
    simp only [tagsN]
    split
    · exact h
    · split
      · simp
      · split
        · simp
        · split
          · simp
          · exact ih _ _ (by rw [List.length_append, List.length_singleton]; omega)
theorem tagsOn_len (l : List UInt8) : (tagsOn l []).1.length ≤ 20 := tagsN_len _ _ _ (by simp)
theorem lt_of_some {w : World} {p : Addr} {x : Value} (h : w.cell? p = some x) : p.block < w.heap.size := by
  rcases Nat.lt_or_ge p.block w.heap.size with h1 | h1
  · exact h1
  · simp [World.cell?, Array.getElem?_eq_none h1] at h
theorem TagsAt.below {w W : World} {v : Value} {l : List Tg} (h : TagsAt w v l) (hb : Below w.heap.size w W) : TagsAt W v l := by
  rcases h with h | ⟨g, o, cap, hv, h1, h2, hc⟩
  · exact Or.inl h
  · refine Or.inr ⟨g, o, cap, hv, h1, h2, fun j x hj => ?_⟩
    obtain ⟨c1, c2⟩ := hc j x hj
    exact ⟨(hb.cell (p := ⟨g, o + j * 2, none⟩) (lt_of_some c1)).trans c1, (hb.cell (p := ⟨g, o + j * 2 + 1, none⟩) (lt_of_some c2)).trans c2⟩
theorem book_new (w : World) (base : Nat) (hb : base ≤ w.heap.size) :
    BookT (w.alloc (.cells (bookCells (.slice none 0 0) (.slice none 0 0)) 52)) w.heap.size base (.slice none 0 0) (.slice none 0 0) [] [] [] :=
  ⟨⟨heap_alloc_new w _, World.ownsRow_nil _ _ _ _, ⟨rfl, fun r v L h => by simp at h⟩, fun r q u v h => by simp at h, hb⟩, World.ownsRow_nil _ _ _ _, ⟨rfl, fun r v L h => by simp at h⟩, fun ⟨g, h, _⟩ => by simp [Value.ownBlock] at h⟩
/-- The book holds j lists that are L; nothing of what was there has turned. -/
structure TI (w W : World) (bk j : Nat) (L : List Tg) : Prop where
  bel : Below w.heap.size w W
  book : ∃ v6 v7 vs us, BookT W bk w.heap.size v6 v7 vs us (List.replicate j L)
theorem TI.kept {w W W' : World} {bk j : Nat} {L : List Tg} (h : TI w W bk j L) (hk : Kept (fun _ => False) W W') : TI w W' bk j L :=
  ⟨h.bel.trans (hk.below h.bel.size (fun _ h => h.elim)), by obtain ⟨v6, v7, vs, us, hB⟩ := h.book; exact ⟨v6, v7, vs, us, hB.kept0 hk⟩⟩
/-- One list more. -/
theorem TI.add {w W0 W1 W : World} {bk j : Nat} {L : List Tg} {v : Value} (h : TI w W0 bk j L) (hj : j < 250) (hL : L.length ≤ 1000) (hk0 : Kept (fun _ => False) W0 W1) (hv1 : OwnT W1 W0.heap.size v L) (hk1 : Kept (fun _ => False) W1 W) :
    Calls Tryz.prog 21 #[.pointer (some ⟨bk, 0, none⟩), v] W fun e w' => e = .returned (.tuple #[]) ∧ TI w w' bk (j + 1) L := by
  obtain ⟨v6, v7, vs, us, hB⟩ := h.book
  have hlen : vs.length = j := by rw [hB.p.f6.len, List.length_replicate]
  have hv : OwnT W w.heap.size v L := (hv1.kept hk1).mono h.bel.size
  have hnew : ∀ (r : Nat) (u : Value), vs[r]? = some u → ¬ Shares u v := by
    rintro r u hu ⟨g, h1, h2⟩
    have hr : r < vs.length := (List.getElem?_eq_some_iff.1 hu).1
    have hLr : (List.replicate j L)[r]? = some L := by rw [List.getElem?_replicate, if_pos (by omega)]
    have a1 := (own_lt (hB.p.f6.own r u L hu hLr) h1).2
    have a2 := (own_lt hv1 h2).1
    omega
  refine (bookTags_any (hB.kept0 (hk0.trans hk1)) (Nat.le_trans h.bel.size (hk0.trans hk1).size) (by omega) hv hnew hL).mono ?_
  rintro e w' ⟨rfl, v6', v7', u, hB', hb'⟩
  refine ⟨rfl, h.bel.trans (((hk0.trans hk1).below h.bel.size (fun _ h => h.elim)).trans hb'), v6', v7', vs ++ [v], us ++ [u], ?_⟩
  rw [List.replicate_succ']
  exact hB'
theorem TI.apart {w W : World} {bk j : Nat} {L : List Tg} (h : TI w W bk j L) (hj : j ≤ 250) (hL : L.length ≤ 1000) :
    Calls Tryz.prog 22 #[.pointer (some ⟨bk, 0, none⟩)] W fun e w' => e = .returned (.bool true) ∧ Below w.heap.size w w' := by
  obtain ⟨v6, v7, vs, us, hB⟩ := h.book
  have hlen : vs.length = j := by rw [hB.p.f6.len, List.length_replicate]
  refine (apart_Tags hB h.bel.size (fun M hM => by rw [List.eq_of_mem_replicate hM]; exact hL) (by omega)).mono ?_
  rintro e w' ⟨rfl, hb⟩
  exact ⟨rfl, h.bel.trans hb⟩
end Go.Proofs.YtdceopnjokdblaaGreat
