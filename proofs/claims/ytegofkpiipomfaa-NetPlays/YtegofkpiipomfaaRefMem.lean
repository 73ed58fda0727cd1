/- The document's net in memory: its two rows. -/
import Derived.Test.YtegofkpiipomfaaSendPlain
import Derived.Test.YtegofkpiipomfaaNetOps2
namespace Go.Proofs.Ytegofkpiipomfaa
open Go.RowKit

/-- The slice v holds the datagrams of l, in a row that lies at base or behind. -/
def OwnR (w : World) (base : Nat) (v : Value) (l : List Gr) : Prop := w.ownsRow base 67 4 v l.length (rowCells l)

/-- The block g is a row of room for cap datagrams, the first ones l's. -/
def RowR (w : World) (g cap : Nat) (l : List Gr) : Prop := w.ownsRow 0 67 4 (.slice (some ⟨g, 0, none⟩) l.length cap) l.length (rowCells l)

section
variable {w : World} {base g cap : Nat} {l : List Gr}

theorem RowR.block (h : RowR w g cap l) : ∃ cur, w.heap[g]? = some (.cells cur 67 (0, 0)) ∧ l.length ≤ cap ∧ cap ≤ maxLen ∧ cur.size = cap * 4 ∧ cur.toList.take (l.length * 4) = rowCells l := by
  rcases h.2 with ⟨h', _⟩ | ⟨g', cap', cur, h', _, hg, h1, h2, h3, h4⟩
  · simp at h'
  · simp only [Value.slice.injEq, Option.some.injEq, Addr.mk.injEq, and_true, true_and] at h'
    obtain ⟨rfl, rfl⟩ := h'
    exact ⟨cur, hg, h1, h2, h3, h4⟩

theorem RowR.of {cur : Array Value} (hg : w.heap[g]? = some (.cells cur 67 (0, 0))) (h1 : l.length ≤ cap) (h2 : cap ≤ maxLen) (h3 : cur.size = cap * 4) (h4 : cur.toList.take (l.length * 4) = rowCells l) : RowR w g cap l :=
  ⟨rowCells_length l, Or.inr ⟨g, cap, cur, rfl, Nat.zero_le _, hg, h1, h2, h3, h4⟩⟩

theorem RowR.lt (h : RowR w g cap l) : g < w.heap.size := by
  obtain ⟨cur, hg, _⟩ := h.block
  exact (Array.getElem?_eq_some_iff.1 hg).1

theorem RowR.le (h : RowR w g cap l) : l.length ≤ cap := by
  obtain ⟨cur, _, h1, _⟩ := h.block
  exact h1

theorem RowR.le63 (h : RowR w g cap l) : cap ≤ 9223372036854775807 := by
  obtain ⟨cur, _, _, h1, _⟩ := h.block
  simp only [maxLen] at h1
  omega

theorem RowR.cellAt (h : RowR w g cap l) {k : Nat} {x : Gr} (hk : l[k]? = some x) (j : Nat) (hj : j < 4) : w.cell? ⟨g, k * 4 + j, none⟩ = (grCells x)[j]? := by
  have hlt := (List.getElem?_eq_some_iff.1 hk).1
  rw [World.ownsRow.cellAt h _ (by omega)]
  exact rowCells_get hk j hj

theorem RowR.isCell (h : RowR w g cap l) {j : Nat} (hj : j < cap * 4) : (w.cell? ⟨g, j, none⟩).isSome = true := by
  obtain ⟨cur, hg, _, _, h3, _⟩ := h.block
  simp [World.cell?, hg, h3, hj]

theorem RowR.frozenAt (h : RowR w g cap l) (j : Nat) : w.frozen? ⟨g, j, none⟩ = false := World.ownsRow.frozenAt h j

theorem RowR.same {w' : World} (h : RowR w g cap l) (hb : w'.heap[g]? = w.heap[g]?) : RowR w' g cap l := by
  obtain ⟨cur, hg, h1, h2, h3, h4⟩ := h.block
  exact RowR.of (hb.trans hg) h1 h2 h3 h4

theorem RowR.ahead (h : RowR w g cap l) (i : Nat) : RowR w g cap (l.take i) := by
  obtain ⟨cur, hg, h1, h2, h3, h4⟩ := h.block
  refine RowR.of hg (by simp; omega) h2 h3 ?_
  rw [← rowCells_take, ← h4, List.take_take, List.length_take]
  congr 1
  omega

/-- Cells are written. -/
theorem RowR.set (h : RowR w g cap l) (o : Nat) (vs : List Gr) (hl : o + vs.length ≤ l.length) : RowR (w.setCells g (o * 4) (rowCells vs)) g cap (splice l o vs) := by
  obtain ⟨cur, hg, h1, h2, h3, h4⟩ := h.block
  obtain ⟨cur', hg', hc⟩ := heap_setCells (g := g) (rowCells vs) (o * 4) w cur hg (by rw [rowCells_length, h3]; omega)
  have hlen : cur'.size = cur.size := by
    have := congrArg List.length hc
    rw [splice_length _ _ _ (by rw [rowCells_length]; simp; omega)] at this
    simpa using this
  have hsl := splice_length l o vs hl
  refine RowR.of hg' (by rw [hsl]; exact h1) h2 (by rw [hlen, h3]) ?_
  rw [hc, hsl, ← rowCells_splice, ← h4]
  have hvl := rowCells_length vs
  generalize rowCells vs = V at *
  unfold splice
  rw [List.take_append, List.take_append, List.take_take, Nat.min_eq_right (by omega), List.take_take, Nat.min_eq_left (by omega : o * 4 ≤ l.length * 4)]
  congr 1
  · congr 1
    simp only [List.length_take, Array.length_toList]
    exact List.take_of_length_le (by omega)
  · rw [List.take_drop, List.drop_take]
    simp only [List.length_append, List.length_take, Array.length_toList]
    have e : o * 4 + V.length + (l.length * 4 - (min (o * 4) cur.size + V.length)) - (o * 4 + V.length) = l.length * 4 - (o * 4 + V.length) := by
      rw [Nat.min_eq_left (by omega)]
      omega
    rw [e, List.drop_take]

/-- Cells behind are written. -/
theorem RowR.behind (h : RowR w g cap l) (o : Nat) (vs : List Value) (ho : l.length * 4 ≤ o) (hv : o + vs.length ≤ cap * 4) : RowR (w.setCells g o vs) g cap l := by
  obtain ⟨cur, hg, h1, h2, h3, h4⟩ := h.block
  obtain ⟨cur', hg', hc⟩ := heap_setCells (g := g) vs o w cur hg (by omega)
  have hlen : cur'.size = cur.size := by
    have := congrArg List.length hc
    rw [splice_length _ _ _ (by simp; omega)] at this
    simpa using this
  refine RowR.of hg' h1 h2 (by rw [hlen, h3]) ?_
  rw [hc, ← h4]
  unfold splice
  rw [List.append_assoc, List.take_append_of_le_length (by simp; omega), List.take_take, Nat.min_eq_left ho]

/-- One more of the spare ones. -/
theorem RowR.more (h : RowR w g cap l) (x : Gr) (hl : l.length < cap) : RowR (w.setCells g (l.length * 4) (grCells x)) g cap (l ++ [x]) := by
  obtain ⟨cur, hg, h1, h2, h3, h4⟩ := h.block
  obtain ⟨cur', hg', hc⟩ := heap_setCells (g := g) (grCells x) (l.length * 4) w cur hg (by simp [grCells]; omega)
  have hlen : cur'.size = cur.size := by
    have := congrArg List.length hc
    rw [splice_length _ _ _ (by simp [grCells]; omega)] at this
    simpa using this
  refine RowR.of hg' (by simp; omega) h2 (by rw [hlen, h3]) ?_
  rw [hc, rowCells_append, rowCells_one, ← h4]
  unfold splice
  rw [List.take_append_of_le_length (by simp [grCells]; omega)]
  exact List.take_of_length_le (by simp [grCells]; omega)

end

theorem OwnR.row {w : World} {base g cap n : Nat} {l : List Gr} (h : OwnR w base (.slice (some ⟨g, 0, none⟩) n cap) l) : n = l.length ∧ base ≤ g ∧ RowR w g cap l := by
  rcases h.2 with ⟨h', _⟩ | ⟨g', cap', cur, h', hb, hg, h1, h2, h3, h4⟩
  · simp at h'
  · simp only [Value.slice.injEq, Option.some.injEq, Addr.mk.injEq, and_true] at h'
    obtain ⟨rfl, rfl, rfl⟩ := h'
    exact ⟨rfl, hb, RowR.of hg h1 h2 h3 h4⟩

theorem RowR.own {w : World} {base g cap : Nat} {l : List Gr} (h : RowR w g cap l) (hb : base ≤ g) : OwnR w base (.slice (some ⟨g, 0, none⟩) l.length cap) l := by
  obtain ⟨cur, hg, h1, h2, h3, h4⟩ := h.block
  exact ⟨rowCells_length l, Or.inr ⟨g, cap, cur, rfl, hb, hg, h1, h2, h3, h4⟩⟩

theorem OwnR.cases {w : World} {base : Nat} {v : Value} {l : List Gr} (h : OwnR w base v l) : (v = .slice none 0 0 ∧ l = []) ∨ ∃ g cap, v = .slice (some ⟨g, 0, none⟩) l.length cap ∧ base ≤ g ∧ RowR w g cap l := by
  rcases h.2 with ⟨h', h0⟩ | ⟨g', cap', cur, h', hb, hg, h1, h2, h3, h4⟩
  · exact Or.inl ⟨h', List.eq_nil_of_length_eq_zero h0⟩
  · exact Or.inr ⟨g', cap', h', hb, RowR.of hg h1 h2 h3 h4⟩

theorem OwnR.nil (w : World) (base : Nat) : OwnR w base (.slice none 0 0) [] := World.ownsRow_nil _ _ _ _

theorem infoRef : (Try.prog.info? 67).map (fun i => (i.zero, i.size, i.bytes)) = some (some (.agg #[.int .i64 0, .int .i64 0, .string ⟨#[]⟩, .int .i64 0]), 4, 40) := by kernel_rfl



theorem RowR.cells4 {w : World} {g cap : Nat} {l : List Gr} (h : RowR w g cap l) {j : Nat} {x : Gr} (hj : l[j]? = some x) :
    w.cell? ⟨g, j * 4, none⟩ = some (.int .i64 x.src) ∧ w.cell? ⟨g, j * 4 + 1, none⟩ = some (.int .i64 x.dst) ∧ w.cell? ⟨g, j * 4 + 2, none⟩ = some (.string x.data) ∧ w.cell? ⟨g, j * 4 + 3, none⟩ = some (.int .i64 x.turn) :=
  ⟨h.cellAt hj 0 (by omega), h.cellAt hj 1 (by omega), h.cellAt hj 2 (by omega), h.cellAt hj 3 (by omega)⟩

/-- What is known of a pair. -/
structure Wy where
  src : Int
  dst : Int
  sent : Int
  lost : Int
  cut : Bool

def wyCells (y : Wy) : List Value := [.int .i64 y.src, .int .i64 y.dst, .int .i64 y.sent, .int .i64 y.lost, .bool y.cut]
def waysCells (l : List Wy) : List Value := l.flatMap wyCells

theorem waysCells_cons (a : Wy) (r : List Wy) : waysCells (a :: r) = wyCells a ++ waysCells r := by simp [waysCells]
theorem waysCells_append (a b : List Wy) : waysCells (a ++ b) = waysCells a ++ waysCells b := by simp [waysCells]
theorem waysCells_length (l : List Wy) : (waysCells l).length = l.length * 5 := by
  induction l with
  | nil => rfl
  | cons a r ih => rw [waysCells_cons, List.length_append, ih]; simp [wyCells]; omega

theorem waysCells_get {l : List Wy} {k : Nat} {x : Wy} (h : l[k]? = some x) (j : Nat) (hj : j < 5) : (waysCells l)[k * 5 + j]? = (wyCells x)[j]? := by
  induction l generalizing k with
  | nil => simp at h
  | cons a r ih =>
    cases k with
    | zero =>
      simp at h
      subst h
      rw [waysCells_cons, List.getElem?_append_left (by simp [wyCells]; omega)]
      simp
    | succ k =>
      simp at h
      rw [waysCells_cons, List.getElem?_append_right (by simp [wyCells]; omega), ← ih h]
      simp only [wyCells, List.length_cons, List.length_nil]
      congr 1
      omega

theorem waysCells_set : ∀ (l : List Wy) (k : Nat) (x : Wy), l[k]? = some x → ∀ (j : Nat) (_ : j < 5) (u : Value) (x' : Wy), (wyCells x).set j u = wyCells x' → (waysCells l).set (k * 5 + j) u = waysCells (l.set k x')
  | [], _, _, h, _, _, _, _, _ => by simp at h
  | a :: r, 0, x, h, j, hj, u, x', hx => by
    simp at h
    subst h
    rw [List.set_cons_zero, waysCells_cons, waysCells_cons, List.set_append, if_pos (by simp [wyCells]; omega), Nat.zero_mul, Nat.zero_add, hx]
  | a :: r, k + 1, x, h, j, hj, u, x', hx => by
    simp at h
    rw [List.set_cons_succ, waysCells_cons, waysCells_cons, ← waysCells_set r k x h j hj u x' hx, List.set_append, if_neg (by simp [wyCells]; omega)]
    congr 1
    simp only [wyCells, List.length_cons, List.length_nil]
    congr 1
    omega

/-- The slice v holds what is known of the pairs. -/
def OwnW (w : World) (v : Value) (l : List Wy) : Prop := w.ownsRow 0 65 5 v l.length (waysCells l)

theorem OwnW.cases {w : World} {v : Value} {l : List Wy} (h : OwnW w v l) : (v = .slice none 0 0 ∧ l = []) ∨ ∃ g cap, v = .slice (some ⟨g, 0, none⟩) l.length cap ∧ l.length ≤ cap ∧ cap ≤ 9223372036854775807 ∧ g < w.heap.size ∧ OwnW w (.slice (some ⟨g, 0, none⟩) l.length cap) l := by
  rcases h.2 with ⟨h', h0⟩ | ⟨g', cap', cur, h', hb, hg, h1, h2, h3, h4⟩
  · exact Or.inl ⟨h', List.eq_nil_of_length_eq_zero h0⟩
  · refine Or.inr ⟨g', cap', h', h1, ?_, (Array.getElem?_eq_some_iff.1 hg).1, h' ▸ h⟩
    simp only [maxLen] at h2
    omega

theorem OwnW.cells5 {w : World} {g cap : Nat} {l : List Wy} (h : OwnW w (.slice (some ⟨g, 0, none⟩) l.length cap) l) {j : Nat} {x : Wy} (hj : l[j]? = some x) :
    w.cell? ⟨g, j * 5, none⟩ = some (.int .i64 x.src) ∧ w.cell? ⟨g, j * 5 + 1, none⟩ = some (.int .i64 x.dst) ∧ w.cell? ⟨g, j * 5 + 2, none⟩ = some (.int .i64 x.sent) ∧ w.cell? ⟨g, j * 5 + 3, none⟩ = some (.int .i64 x.lost) ∧ w.cell? ⟨g, j * 5 + 4, none⟩ = some (.bool x.cut) := by
  have hlt := (List.getElem?_eq_some_iff.1 hj).1
  have hc : ∀ r, r < 5 → w.cell? ⟨g, j * 5 + r, none⟩ = (wyCells x)[r]? := fun r hr => by
    rw [World.ownsRow.cellAt h _ (by omega)]
    exact waysCells_get hj r hr
  exact ⟨hc 0 (by omega), hc 1 (by omega), hc 2 (by omega), hc 3 (by omega), hc 4 (by omega)⟩

theorem OwnW.frozenAt {w : World} {g cap : Nat} {l : List Wy} (h : OwnW w (.slice (some ⟨g, 0, none⟩) l.length cap) l) (j : Nat) : w.frozen? ⟨g, j, none⟩ = false := World.ownsRow.frozenAt h j

theorem OwnW.set {w : World} {g cap : Nat} {l : List Wy} (h : OwnW w (.slice (some ⟨g, 0, none⟩) l.length cap) l) {k : Nat} {x x' : Wy} (hk : l[k]? = some x) {j : Nat} (hj : j < 5) {u : Value} (hx : (wyCells x).set j u = wyCells x') :
    OwnW (w.setCell ⟨g, k * 5 + j, none⟩ u) (.slice (some ⟨g, 0, none⟩) l.length cap) (l.set k x') := by
  have h1 := (World.ownsRow.stored h (k * 5 + j) u).1
  rw [waysCells_set l k x hk j hj u x' hx] at h1
  unfold OwnW
  rw [List.length_set]
  exact h1

theorem OwnW.same {w w' : World} {v : Value} {l : List Wy} (h : OwnW w v l) (hb : ∀ i, v.ownBlock = some i → w'.heap[i]? = w.heap[i]?) : OwnW w' v l := by
  refine ⟨h.1, ?_⟩
  rcases h.2 with h0 | ⟨g, cap, cur, rfl, h1, hg, rest⟩
  · exact Or.inl h0
  · exact Or.inr ⟨g, cap, cur, rfl, h1, (hb g rfl).trans hg, rest⟩

theorem OwnR.same {w w' : World} {v : Value} {l : List Gr} (h : OwnR w 0 v l) (hb : ∀ i, v.ownBlock = some i → w'.heap[i]? = w.heap[i]?) : OwnR w' 0 v l := by
  refine ⟨h.1, ?_⟩
  rcases h.2 with h0 | ⟨g, cap, cur, rfl, h1, hg, rest⟩
  · exact Or.inl h0
  · exact Or.inr ⟨g, cap, cur, rfl, h1, (hb g rfl).trans hg, rest⟩

theorem infoWay : (Try.prog.info? 65).map (fun i => (i.zero, i.size, i.bytes)) = some (some (.agg #[.int .i64 0, .int .i64 0, .int .i64 0, .int .i64 0, .bool false]), 5, 40) := by kernel_rfl

/-- What the document's net has. -/
structure RefSt where
  grams : List Gr
  ways : List Wy

/-- Its blocks. -/
def ofRef (r : Nat) (lv wv : Value) (i : Nat) : Prop := i = r ∨ lv.ownBlock = some i ∨ wv.ownBlock = some i

/-- The document's net at block r. -/
structure RefIn (w : World) (r : Nat) (lv wv : Value) (s : RefSt) : Prop where
  c0 : w.cell? ⟨r, 0, none⟩ = some lv
  c1 : w.cell? ⟨r, 1, none⟩ = some wv
  f : ∀ i, w.frozen? ⟨r, i, none⟩ = false
  own : OwnR w 0 lv s.grams
  ways : OwnW w wv s.ways
  nl : lv.ownBlock ≠ some r
  nw : wv.ownBlock ≠ some r
  lw : ∀ i, lv.ownBlock = some i → wv.ownBlock ≠ some i

section
variable {w w' : World} {r : Nat} {lv wv : Value} {s : RefSt}

theorem RefIn.lt (h : RefIn w r lv wv s) {i : Nat} (hi : ofRef r lv wv i) : i < w.heap.size := by
  rcases hi with rfl | hi | hi
  · exact lt_of_cell h.c0
  · exact (World.ownsRow.lt h.own i hi).2
  · exact (World.ownsRow.lt h.ways i hi).2

theorem RefIn.same (h : RefIn w r lv wv s) (hb : ∀ i, ofRef r lv wv i → w'.heap[i]? = w.heap[i]?) : RefIn w' r lv wv s :=
  have h0 := hb r (Or.inl rfl)
  ⟨(World.cell?_of_block h0).trans h.c0, (World.cell?_of_block h0).trans h.c1, fun i => (World.frozen?_of_block h0).trans (h.f i), h.own.same (fun i hi => hb i (Or.inr (Or.inl hi))), h.ways.same (fun i hi => hb i (Or.inr (Or.inr hi))), h.nl, h.nw, h.lw⟩

theorem RefIn.kept {S : Nat → Prop} (h : RefIn w r lv wv s) (hk : Kept S w w') (hS : ∀ i, ofRef r lv wv i → ¬ S i) : RefIn w' r lv wv s := h.same (fun i hi => hk.block i (h.lt hi) (hS i hi))
theorem RefIn.kept0 (h : RefIn w r lv wv s) (hk : Kept (fun _ => False) w w') : RefIn w' r lv wv s := h.kept hk (fun _ _ => id)
theorem RefIn.alloc (h : RefIn w r lv wv s) (o : Obj) : RefIn (w.alloc o) r lv wv s := h.kept0 ((Kept.refl _ w).alloc o)
theorem RefIn.drew (h : RefIn w r lv wv s) : RefIn w.drew r lv wv s := h.same (fun _ _ => rfl)

end

/-- The document's net, whose blocks are those of T. -/
def RefAt (T : Nat → Prop) (w : World) (r : Nat) (s : RefSt) : Prop := ∃ lv wv, RefIn w r lv wv s ∧ ∀ i, T i ↔ ofRef r lv wv i

def RNext (T : Nat → Prop) (w w' : World) (r : Nat) (s : RefSt) : Prop := ∃ T', RefAt T' w' r s ∧ (∀ i, T' i → T i ∨ w.heap.size ≤ i) ∧ Kept T w w'

section
variable {T U : Nat → Prop} {w w' : World} {r : Nat} {s : RefSt}
theorem RefAt.lt (h : RefAt T w r s) {i : Nat} (hi : T i) : i < w.heap.size := by
  obtain ⟨lv, wv, h1, h2⟩ := h
  exact h1.lt ((h2 i).1 hi)
theorem RefAt.kept (h : RefAt T w r s) (hk : Kept U w w') (hT : ∀ i, T i → ¬ U i) : RefAt T w' r s := by
  obtain ⟨lv, wv, h1, h2⟩ := h
  exact ⟨lv, wv, h1.kept hk (fun i hi => hT i ((h2 i).2 hi)), h2⟩
theorem RefAt.kept0 (h : RefAt T w r s) (hk : Kept (fun _ => False) w w') : RefAt T w' r s := h.kept hk (fun _ _ => id)
theorem RefAt.alloc (h : RefAt T w r s) (o : Obj) : RefAt T (w.alloc o) r s := h.kept0 ((Kept.refl _ w).alloc o)
theorem RefAt.next (h : RefAt T w r s) : RNext T w w r s := ⟨T, h, fun _ hi => Or.inl hi, Kept.refl _ _⟩
end

end Go.Proofs.Ytegofkpiipomfaa
