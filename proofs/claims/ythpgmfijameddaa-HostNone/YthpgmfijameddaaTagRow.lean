/- Tags as rows of memory: two cells each. Lists that are read, and lists of a call's own. -/
import Derived.Test.YthpgmfijameddaaTagGet
namespace Go.Proofs.Ythpgmfijameddaa
open Go.RowKit

/-- A list of tags in memory, to be read. -/
def TagsAt (W : World) (v : Value) (l : List Tg) : Prop :=
  (l = [] ∧ ∃ p cap, v = .slice p 0 cap) ∨ ∃ g o cap, v = .slice (some ⟨g, o, none⟩) l.length cap ∧ l.length ≤ cap ∧ cap ≤ maxLen ∧
    ∀ j x, l[j]? = some x → W.cell? ⟨g, o + j * 2, none⟩ = some (.int .i64 x.type) ∧ W.cell? ⟨g, o + j * 2 + 1, none⟩ = some (.string x.value)

theorem TagsAt.slice {W : World} {v : Value} {l : List Tg} (h : TagsAt W v l) : ∃ p cap, v = .slice p l.length cap := by
  rcases h with ⟨rfl, p, cap, rfl⟩ | ⟨g, o, cap, rfl, _⟩
  · exact ⟨p, cap, rfl⟩
  · exact ⟨_, cap, rfl⟩

theorem TagsAt.at {W : World} {p : Option Addr} {n cap : Nat} {l : List Tg} (h : TagsAt W (.slice p n cap) l) {j : Nat} {x : Tg} (hj : l[j]? = some x) :
    ∃ g o, p = some ⟨g, o, none⟩ ∧ n ≤ cap ∧ W.cell? ⟨g, o + j * 2, none⟩ = some (.int .i64 x.type) ∧ W.cell? ⟨g, o + j * 2 + 1, none⟩ = some (.string x.value) := by
  rcases h with ⟨rfl, _⟩ | ⟨g, o, cap', e, hle, _, hc⟩
  · simp at hj
  · simp only [Value.slice.injEq] at e
    obtain ⟨rfl, rfl, rfl⟩ := e
    exact ⟨g, o, rfl, hle, hc j x hj⟩

theorem TagsAt.kept {S : Nat → Prop} {W W' : World} {v : Value} {l : List Tg} (h : TagsAt W v l) (hk : Kept S W W') (hS : ∀ i, i < W.heap.size → S i → v.ownBlock ≠ some i) : TagsAt W' v l := by
  rcases h with ⟨rfl, p, cap, rfl⟩ | ⟨g, o, cap, rfl, h1, h2, hc⟩
  · exact Or.inl ⟨rfl, p, cap, rfl⟩
  · refine Or.inr ⟨g, o, cap, rfl, h1, h2, fun j x hj => ?_⟩
    obtain ⟨c0, c1⟩ := hc j x hj
    have hlt := lt_of_cell c0
    have hn : ¬ S g := fun hs => hS g hlt hs rfl
    exact ⟨(hk.cell hlt hn).trans c0, (hk.cell (p := ⟨g, o + j * 2 + 1, none⟩) hlt hn).trans c1⟩

theorem TagsAt.kept0 {W W' : World} {v : Value} {l : List Tg} (h : TagsAt W v l) (hk : Kept (fun _ => False) W W') : TagsAt W' v l := h.kept hk (fun _ _ h => h.elim)

def tgCells (t : Tg) : List Value := [.int .i64 t.type, .string t.value]
def rowT (l : List Tg) : List Value := l.flatMap tgCells
theorem rowT_append (a b : List Tg) : rowT (a ++ b) = rowT a ++ rowT b := by simp [rowT]
theorem rowT_one (a : Tg) : rowT [a] = [.int .i64 a.type, .string a.value] := by simp [rowT, tgCells]
theorem rowT_length (l : List Tg) : (rowT l).length = l.length * 2 := by
  induction l with
  | nil => rfl
  | cons a r ih => rw [rowT, List.flatMap_cons, List.length_append]; rw [rowT] at ih; rw [ih]; simp [tgCells]; omega
theorem rowT_get {l : List Tg} {k : Nat} {x : Tg} (h : l[k]? = some x) (j : Nat) (hj : j < 2) : (rowT l)[k * 2 + j]? = (tgCells x)[j]? := by
  induction l generalizing k with
  | nil => simp at h
  | cons a r ih =>
    have hc : rowT (a :: r) = tgCells a ++ rowT r := by simp [rowT]
    cases k with
    | zero =>
      simp at h
      subst h
      rw [hc, List.getElem?_append_left (by simp [tgCells]; omega)]
      simp
    | succ k =>
      simp at h
      rw [hc, List.getElem?_append_right (by simp [tgCells]; omega), ← ih h]
      simp only [tgCells, List.length_cons, List.length_nil]
      congr 1
      omega
theorem rowT_oneCell (l : List Tg) : ∀ u ∈ rowT l, u.oneCell' = true := by
  intro u hu
  obtain ⟨g, _, hg⟩ := List.mem_flatMap.1 hu
  simp [tgCells] at hg
  rcases hg with rfl | rfl <;> rfl

/-- The slice v holds the tags of l, in a row that lies at base or behind. -/
def OwnT (w : World) (base : Nat) (v : Value) (l : List Tg) : Prop := w.ownsRow base 70 2 v l.length (rowT l)

theorem OwnT.nil (w : World) (base : Nat) : OwnT w base (.slice none 0 0) [] := World.ownsRow_nil _ _ _ _

theorem OwnT.tags {w : World} {base : Nat} {v : Value} {l : List Tg} (h : OwnT w base v l) : TagsAt w v l := by
  rcases h.2 with ⟨rfl, h0⟩ | ⟨g, cap, cur, rfl, hb, hg, h1, h2, h3, h4⟩
  · exact Or.inl ⟨List.eq_nil_of_length_eq_zero h0, none, 0, rfl⟩
  · refine Or.inr ⟨g, 0, cap, rfl, h1, h2, fun j x hj => ?_⟩
    have hlt := (List.getElem?_eq_some_iff.1 hj).1
    have hc : ∀ i, i < l.length * 2 → w.cell? ⟨g, i, none⟩ = (rowT l)[i]? := fun i hi => by
      rw [← h4, List.getElem?_take_of_lt hi]
      simp [World.cell?, hg]
    rw [Nat.zero_add, show j * 2 = j * 2 + 0 from rfl, hc _ (by omega), hc _ (by omega), rowT_get hj 0 (by omega), Nat.add_zero, rowT_get hj 1 (by omega)]
    exact ⟨rfl, rfl⟩

theorem OwnT.kept {w w' : World} {base : Nat} {v : Value} {l : List Tg} (h : OwnT w base v l) (hk : Kept (fun _ => False) w w') : OwnT w' base v l := by
  rcases h.2 with ⟨rfl, h0⟩ | ⟨g, cap, cur, rfl, hb, hg, h1, h2, h3, h4⟩
  · exact ⟨h.1, Or.inl ⟨rfl, h0⟩⟩
  · exact ⟨h.1, Or.inr ⟨g, cap, cur, rfl, hb, (hk.block g (Array.getElem?_eq_some_iff.1 hg).1 id).trans hg, h1, h2, h3, h4⟩⟩

theorem OwnT.mono {w : World} {base base' : Nat} {v : Value} {l : List Tg} (h : OwnT w base v l) (hb : base' ≤ base) : OwnT w base' v l := by
  rcases h.2 with ⟨rfl, h0⟩ | ⟨g, cap, cur, rfl, hb', hg, h1, h2, h3, h4⟩
  · exact ⟨h.1, Or.inl ⟨rfl, h0⟩⟩
  · exact ⟨h.1, Or.inr ⟨g, cap, cur, rfl, Nat.le_trans hb hb', hg, h1, h2, h3, h4⟩⟩

/-- A boxed tag. -/
def BoxT (w : World) (b : Nat) (x : Tg) : Prop := w.heap[b]? = some (.cells #[.int .i64 x.type, .string x.value] 70 (0, 0))
theorem BoxT.new (w : World) (x : Tg) : BoxT (w.alloc (.cells #[.int .i64 x.type, .string x.value] 70)) w.heap.size x := heap_alloc_new w _
theorem BoxT.c0 {w : World} {b : Nat} {x : Tg} (h : BoxT w b x) : w.cell? ⟨b, 0, none⟩ = some (.int .i64 x.type) := by simp [World.cell?, show w.heap[b]? = _ from h]
theorem BoxT.c1 {w : World} {b : Nat} {x : Tg} (h : BoxT w b x) : w.cell? ⟨b, 1, none⟩ = some (.string x.value) := by simp [World.cell?, show w.heap[b]? = _ from h]
theorem BoxT.lt {w : World} {b : Nat} {x : Tg} (h : BoxT w b x) : b < w.heap.size := (Array.getElem?_eq_some_iff.1 h).1

/-- What a row of bytes grows by is no box of a tag. -/
theorem BoxT.beside {w w' : World} {b base n : Nat} {x : Tg} {v : Value} {xs : List Value} (h : BoxT w b x) (hown : w.ownsRow base 5 1 v n xs) (hk : Kept (fun i => v.ownBlock = some i) w w') : BoxT w' b x := by
  refine (hk.block b h.lt ?_).trans h
  intro e
  rcases hown.2 with ⟨rfl, _⟩ | ⟨g, cap, cur, rfl, hb, hg, _⟩
  · cases e
  · have : g = b := by simpa [Value.ownBlock] using e
    subst this
    rw [show w.heap[g]? = _ from h] at hg
    simp at hg
end Go.Proofs.Ythpgmfijameddaa
