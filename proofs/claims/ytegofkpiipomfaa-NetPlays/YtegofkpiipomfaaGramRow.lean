/- Datagrams on their way as a row of memory: four cells each. What a load, a store, a cut, an append and a clear give. -/
import Derived.Test.YtegofkpiipomfaaProg
import Derived.Test.YtegofkpiipomfaaKept
import Derived.WalkKit
import Derived.WalkSpells
import Derived.WalkLawsBesides
import Derived.OwnWalk
import Derived.Laws.IdiomCopy
import Derived.Maps.AppendAt
import Derived.Lib.Hide
namespace Go.Proofs.Ytegofkpiipomfaa
open Go.RowKit

theorem hid {p : Prop} (h : p) : Hid p := h

/-- A list in which vs stands from the place o on. -/
def splice {α : Type} (l : List α) (o : Nat) (vs : List α) : List α := l.take o ++ vs ++ l.drop (o + vs.length)

theorem splice_nil {α : Type} (l : List α) (o : Nat) : splice l o [] = l := by simp [splice]

theorem splice_cons {α : Type} (l : List α) (o : Nat) (v : α) (r : List α) (h : o < l.length) : splice (l.set o v) (o + 1) r = splice l o (v :: r) := by
  unfold splice
  have e1 : (l.set o v).take (o + 1) = l.take o ++ [v] := by
    rw [List.take_add_one, List.getElem?_set_self h, List.take_set_of_le (Nat.le_refl o)]
    simp
  have e2 : (l.set o v).drop (o + 1 + r.length) = l.drop (o + (r.length + 1)) := by
    rw [List.drop_set_of_lt (by omega)]
    congr 1
    omega
  rw [e1, e2]
  simp

theorem splice_length {α : Type} (l : List α) (o : Nat) (vs : List α) (h : o + vs.length ≤ l.length) : (splice l o vs).length = l.length := by
  unfold splice
  simp
  omega

theorem heap_setCells {g : Nat} {e : TypeId} {fz : Nat × Nat} : ∀ (vs : List Value) (o : Nat) (w : World) (cur : Array Value), w.heap[g]? = some (.cells cur e fz) → o + vs.length ≤ cur.size → ∃ cur', (w.setCells g o vs).heap[g]? = some (.cells cur' e fz) ∧ cur'.toList = splice cur.toList o vs
  | [], o, w, cur, h, _ => ⟨cur, h, (splice_nil _ _).symm⟩
  | v :: r, o, w, cur, h, hl => by
    simp at hl
    obtain ⟨c, h1, h2⟩ := heap_setCells r (o + 1) (w.setCell ⟨g, o, none⟩ v) (cur.setIfInBounds o v) (Joins.block_setCell h v) (by simp; omega)
    refine ⟨c, h1, ?_⟩
    rw [h2, Array.toList_setIfInBounds, splice_cons _ _ _ _ (by simp; omega)]

theorem grown_setCells {g : Nat} : ∀ (vs : List Value) (o : Nat) (w : World), w.grownBy (w.setCells g o vs) (some g)
  | [], _, w => World.grownBy.refl w _
  | v :: r, o, w => World.grownBy.trans (b := w.setCell ⟨g, o, none⟩ v) ⟨rfl, rfl, rfl, by simp, fun k _ hk => heap_setCell_other w ⟨g, o, none⟩ k v (fun e => hk (by simp [e]))⟩ (grown_setCells r (o + 1) _)

/-- A datagram on its way: whence, whither, its bytes, the how manieth of its pair. -/
structure Gr where
  src : Int
  dst : Int
  data : ByteArray
  turn : Int

def grCells (g : Gr) : List Value := [.int .i64 g.src, .int .i64 g.dst, .string g.data, .int .i64 g.turn]
def grV (g : Gr) : Value := .agg #[.int .i64 g.src, .int .i64 g.dst, .string g.data, .int .i64 g.turn]
def rowCells (l : List Gr) : List Value := l.flatMap grCells

theorem rowCells_length (l : List Gr) : (rowCells l).length = l.length * 4 := by
  induction l with
  | nil => rfl
  | cons a r ih => rw [rowCells, List.flatMap_cons, List.length_append]; rw [rowCells] at ih; rw [ih]; simp [grCells]; omega

theorem rowCells_cons (a : Gr) (r : List Gr) : rowCells (a :: r) = grCells a ++ rowCells r := by simp [rowCells]
theorem rowCells_append (a b : List Gr) : rowCells (a ++ b) = rowCells a ++ rowCells b := by simp [rowCells]
theorem rowCells_one (a : Gr) : rowCells [a] = grCells a := by simp [rowCells]

theorem rowCells_take (l : List Gr) (i : Nat) : (rowCells l).take (i * 4) = rowCells (l.take i) := by
  induction l generalizing i with
  | nil => simp [rowCells]
  | cons a r ih =>
    cases i with
    | zero => simp [rowCells]
    | succ i =>
      rw [List.take_succ_cons, rowCells_cons, rowCells_cons, ← ih, List.take_append, List.take_of_length_le (by simp [grCells]; omega)]
      congr 1
      simp only [grCells, List.length_cons, List.length_nil]
      congr 1
      omega

theorem rowCells_drop (l : List Gr) (i : Nat) : (rowCells l).drop (i * 4) = rowCells (l.drop i) := by
  induction l generalizing i with
  | nil => simp [rowCells]
  | cons a r ih =>
    cases i with
    | zero => simp [rowCells]
    | succ i =>
      rw [List.drop_succ_cons, rowCells_cons, ← ih, List.drop_append, List.drop_of_length_le (by simp [grCells]; omega)]
      simp only [grCells, List.length_cons, List.length_nil, List.nil_append]
      congr 1
      omega

theorem rowCells_get {l : List Gr} {k : Nat} {x : Gr} (h : l[k]? = some x) (j : Nat) (hj : j < 4) : (rowCells l)[k * 4 + j]? = (grCells x)[j]? := by
  induction l generalizing k with
  | nil => simp at h
  | cons a r ih =>
    cases k with
    | zero =>
      simp at h
      subst h
      rw [rowCells_cons, List.getElem?_append_left (by simp [grCells]; omega)]
      simp
    | succ k =>
      simp at h
      rw [rowCells_cons, List.getElem?_append_right (by simp [grCells]; omega), ← ih h]
      simp only [grCells, List.length_cons, List.length_nil]
      congr 1
      omega

theorem rowCells_splice (l : List Gr) (o : Nat) (vs : List Gr) : splice (rowCells l) (o * 4) (rowCells vs) = rowCells (splice l o vs) := by
  unfold splice
  rw [rowCells_append, rowCells_append, rowCells_take, rowCells_length, ← Nat.add_mul, rowCells_drop]

theorem rowCells_oneCell (l : List Gr) : ∀ u ∈ rowCells l, u.oneCell' = true := by
  intro u hu
  obtain ⟨g, _, hg⟩ := List.mem_flatMap.1 hu
  simp [grCells] at hg
  rcases hg with rfl | rfl | rfl | rfl <;> rfl

/-- The slice v holds the datagrams of l, in a row that lies at base or behind. -/
def OwnG (w : World) (base : Nat) (v : Value) (l : List Gr) : Prop := w.ownsRow base 56 4 v l.length (rowCells l)

/-- The block g is a row of room for cap datagrams, the first ones l's. -/
def RowG (w : World) (g cap : Nat) (l : List Gr) : Prop := w.ownsRow 0 56 4 (.slice (some ⟨g, 0, none⟩) l.length cap) l.length (rowCells l)

section
variable {w : World} {base g cap : Nat} {l : List Gr}

theorem RowG.block (h : RowG w g cap l) : ∃ cur, w.heap[g]? = some (.cells cur 56 (0, 0)) ∧ l.length ≤ cap ∧ cap ≤ maxLen ∧ cur.size = cap * 4 ∧ cur.toList.take (l.length * 4) = rowCells l := by
  rcases h.2 with ⟨h', _⟩ | ⟨g', cap', cur, h', _, hg, h1, h2, h3, h4⟩
  · simp at h'
  · simp only [Value.slice.injEq, Option.some.injEq, Addr.mk.injEq, and_true, true_and] at h'
    obtain ⟨rfl, rfl⟩ := h'
    exact ⟨cur, hg, h1, h2, h3, h4⟩

theorem RowG.of {cur : Array Value} (hg : w.heap[g]? = some (.cells cur 56 (0, 0))) (h1 : l.length ≤ cap) (h2 : cap ≤ maxLen) (h3 : cur.size = cap * 4) (h4 : cur.toList.take (l.length * 4) = rowCells l) : RowG w g cap l :=
  ⟨rowCells_length l, Or.inr ⟨g, cap, cur, rfl, Nat.zero_le _, hg, h1, h2, h3, h4⟩⟩

theorem RowG.lt (h : RowG w g cap l) : g < w.heap.size := by
  obtain ⟨cur, hg, _⟩ := h.block
  exact (Array.getElem?_eq_some_iff.1 hg).1

theorem RowG.le (h : RowG w g cap l) : l.length ≤ cap := by
  obtain ⟨cur, _, h1, _⟩ := h.block
  exact h1

theorem RowG.le63 (h : RowG w g cap l) : cap ≤ 9223372036854775807 := by
  obtain ⟨cur, _, _, h1, _⟩ := h.block
  simp only [maxLen] at h1
  omega

theorem RowG.cellAt (h : RowG w g cap l) {k : Nat} {x : Gr} (hk : l[k]? = some x) (j : Nat) (hj : j < 4) : w.cell? ⟨g, k * 4 + j, none⟩ = (grCells x)[j]? := by
  have hlt := (List.getElem?_eq_some_iff.1 hk).1
  rw [World.ownsRow.cellAt h _ (by omega)]
  exact rowCells_get hk j hj

theorem RowG.isCell (h : RowG w g cap l) {j : Nat} (hj : j < cap * 4) : (w.cell? ⟨g, j, none⟩).isSome = true := by
  obtain ⟨cur, hg, _, _, h3, _⟩ := h.block
  simp [World.cell?, hg, h3, hj]

theorem RowG.frozenAt (h : RowG w g cap l) (j : Nat) : w.frozen? ⟨g, j, none⟩ = false := World.ownsRow.frozenAt h j

theorem RowG.same {w' : World} (h : RowG w g cap l) (hb : w'.heap[g]? = w.heap[g]?) : RowG w' g cap l := by
  obtain ⟨cur, hg, h1, h2, h3, h4⟩ := h.block
  exact RowG.of (hb.trans hg) h1 h2 h3 h4

theorem RowG.ahead (h : RowG w g cap l) (i : Nat) : RowG w g cap (l.take i) := by
  obtain ⟨cur, hg, h1, h2, h3, h4⟩ := h.block
  refine RowG.of hg (by simp; omega) h2 h3 ?_
  rw [← rowCells_take, ← h4, List.take_take, List.length_take]
  congr 1
  omega

/-- Cells are written. -/
theorem RowG.set (h : RowG w g cap l) (o : Nat) (vs : List Gr) (hl : o + vs.length ≤ l.length) : RowG (w.setCells g (o * 4) (rowCells vs)) g cap (splice l o vs) := by
  obtain ⟨cur, hg, h1, h2, h3, h4⟩ := h.block
  obtain ⟨cur', hg', hc⟩ := heap_setCells (g := g) (rowCells vs) (o * 4) w cur hg (by rw [rowCells_length, h3]; omega)
  have hlen : cur'.size = cur.size := by
    have := congrArg List.length hc
    rw [splice_length _ _ _ (by rw [rowCells_length]; simp; omega)] at this
    simpa using this
  have hsl := splice_length l o vs hl
  refine RowG.of hg' (by rw [hsl]; exact h1) h2 (by rw [hlen, h3]) ?_
  rw [hc, hsl, ← rowCells_splice, ← h4]
  have hvl := rowCells_length vs
  generalize rowCells vs = V at *
  unfold splice
  rw [List.take_append, List.take_append, List.take_take, Nat.min_eq_right (by omega), List.take_take, Nat.min_eq_left (by omega : o * 4 ≤ l.length * 4)]
  congr 1
  · congr 1
    simp only [List.length_take, Array.length_toList]
    exact List.take_of_length_le (by omega)
  · rw [List.take_drop, List.drop_take]
    simp only [List.length_append, List.length_take, Array.length_toList]
    have e : o * 4 + V.length + (l.length * 4 - (min (o * 4) cur.size + V.length)) - (o * 4 + V.length) = l.length * 4 - (o * 4 + V.length) := by
      rw [Nat.min_eq_left (by omega)]
      omega
    rw [e, List.drop_take]

/-- Cells behind are written. -/
theorem RowG.behind (h : RowG w g cap l) (o : Nat) (vs : List Value) (ho : l.length * 4 ≤ o) (hv : o + vs.length ≤ cap * 4) : RowG (w.setCells g o vs) g cap l := by
  obtain ⟨cur, hg, h1, h2, h3, h4⟩ := h.block
  obtain ⟨cur', hg', hc⟩ := heap_setCells (g := g) vs o w cur hg (by omega)
  have hlen : cur'.size = cur.size := by
    have := congrArg List.length hc
    rw [splice_length _ _ _ (by simp; omega)] at this
    simpa using this
  refine RowG.of hg' h1 h2 (by rw [hlen, h3]) ?_
  rw [hc, ← h4]
  unfold splice
  rw [List.append_assoc, List.take_append_of_le_length (by simp; omega), List.take_take, Nat.min_eq_left ho]

/-- One more of the spare ones. -/
theorem RowG.more (h : RowG w g cap l) (x : Gr) (hl : l.length < cap) : RowG (w.setCells g (l.length * 4) (grCells x)) g cap (l ++ [x]) := by
  obtain ⟨cur, hg, h1, h2, h3, h4⟩ := h.block
  obtain ⟨cur', hg', hc⟩ := heap_setCells (g := g) (grCells x) (l.length * 4) w cur hg (by simp [grCells]; omega)
  have hlen : cur'.size = cur.size := by
    have := congrArg List.length hc
    rw [splice_length _ _ _ (by simp [grCells]; omega)] at this
    simpa using this
  refine RowG.of hg' (by simp; omega) h2 (by rw [hlen, h3]) ?_
  rw [hc, rowCells_append, rowCells_one, ← h4]
  unfold splice
  rw [List.take_append_of_le_length (by simp [grCells]; omega)]
  exact List.take_of_length_le (by simp [grCells]; omega)

end

theorem OwnG.row {w : World} {base g cap n : Nat} {l : List Gr} (h : OwnG w base (.slice (some ⟨g, 0, none⟩) n cap) l) : n = l.length ∧ base ≤ g ∧ RowG w g cap l := by
  rcases h.2 with ⟨h', _⟩ | ⟨g', cap', cur, h', hb, hg, h1, h2, h3, h4⟩
  · simp at h'
  · simp only [Value.slice.injEq, Option.some.injEq, Addr.mk.injEq, and_true] at h'
    obtain ⟨rfl, rfl, rfl⟩ := h'
    exact ⟨rfl, hb, RowG.of hg h1 h2 h3 h4⟩

theorem RowG.own {w : World} {base g cap : Nat} {l : List Gr} (h : RowG w g cap l) (hb : base ≤ g) : OwnG w base (.slice (some ⟨g, 0, none⟩) l.length cap) l := by
  obtain ⟨cur, hg, h1, h2, h3, h4⟩ := h.block
  exact ⟨rowCells_length l, Or.inr ⟨g, cap, cur, rfl, hb, hg, h1, h2, h3, h4⟩⟩

theorem OwnG.cases {w : World} {base : Nat} {v : Value} {l : List Gr} (h : OwnG w base v l) : (v = .slice none 0 0 ∧ l = []) ∨ ∃ g cap, v = .slice (some ⟨g, 0, none⟩) l.length cap ∧ base ≤ g ∧ RowG w g cap l := by
  rcases h.2 with ⟨h', h0⟩ | ⟨g', cap', cur, h', hb, hg, h1, h2, h3, h4⟩
  · exact Or.inl ⟨h', List.eq_nil_of_length_eq_zero h0⟩
  · exact Or.inr ⟨g', cap', h', hb, RowG.of hg h1 h2 h3 h4⟩

theorem OwnG.nil (w : World) (base : Nat) : OwnG w base (.slice none 0 0) [] := World.ownsRow_nil _ _ _ _

theorem infoGram : (Try.prog.info? 56).map (fun i => (i.zero, i.size, i.bytes)) = some (some (.agg #[.int .i64 0, .int .i64 0, .string ⟨#[]⟩, .int .i64 0]), 4, 40) := by kernel_rfl

end Go.Proofs.Ytegofkpiipomfaa
