/- A book that keeps lists of options and lists of packets without options. -/
import Derived.Test.YtndpfcanfcbldaaGreatDoorBqAddWalk
namespace Go.Proofs.YtndpfcanfcbldaaGreatDoor
open Go.RowKit

def restO (v10 v11 : Value) (i : Nat) : Value := if i = 10 then v10 else if i = 11 then v11 else .slice none 0 0
def restP (v8 v9 : Value) (i : Nat) : Value := if i = 8 then v8 else if i = 9 then v9 else .slice none 0 0
theorem cells_same (v8 v9 v10 v11 : Value) : some (Obj.cells (BPackets.bookCells (restP v8 v9) v10 v11) 52 (0, 0)) = some (.cells (bookCells (restO v10 v11) v8 v9) 52 (0, 0)) := rfl

theorem ty_apartP {W : World} : ∀ i, TyS BPackets.tsK W i → ∀ cur t, W.heap[i]? = some (.cells cur t (0, 0)) → ¬ tsK t := by
  rintro i ⟨cur, t, h1, h2⟩ cur' t' h3 h4
  rw [h1] at h3
  simp at h3
  obtain ⟨_, rfl⟩ := h3
  rcases h2 with rfl | rfl <;> rcases h4 with h4 | h4 <;> exact absurd h4 (by decide)
theorem ty_apartO {W : World} : ∀ i, TyS tsK W i → ∀ cur t, W.heap[i]? = some (.cells cur t (0, 0)) → ¬ BPackets.tsK t := by
  rintro i ⟨cur, t, h1, h2⟩ cur' t' h3 h4
  rw [h1] at h3
  simp at h3
  obtain ⟨_, rfl⟩ := h3
  rcases h2 with rfl | rfl <;> rcases h4 with h4 | h4 <;> exact absurd h4 (by decide)

theorem putL_marked (Ls : List (List Tg)) (n : Nat) (hn : Ls.length ≤ n) : Marked (putL Ls n) := by
  intro j L hj
  simp only [putL, List.getElem?_mapIdx] at hj
  cases hL : Ls[j]? with
  | none => rw [hL] at hj; simp at hj
  | some M =>
    rw [hL] at hj
    have hlt := (List.getElem?_eq_some_iff.1 hL).1
    simp [show j < n by omega] at hj
    rw [← hj, marksT_length]
theorem putL_size (Ls : List (List Tg)) (n : Nat) (m : Nat) (h : ∀ L ∈ Ls, L.length ≤ m) : ∀ L ∈ putL Ls n, L.length ≤ m := by
  intro L hL
  obtain ⟨j, hj⟩ := List.getElem?_of_mem hL
  simp only [putL, List.getElem?_mapIdx] at hj
  cases hM : Ls[j]? with
  | none => rw [hM] at hj; simp at hj
  | some M =>
    rw [hM] at hj
    have := h M (List.mem_of_getElem? hM)
    simp at hj
    rw [← hj]
    split
    · rw [marksT_length]; exact this
    · exact this
theorem Rest.cell {X : Nat → Value} {W : World} {bk base : Nat} {v6 v7 : Value} {vs : List Value} {vo : Value} {gs : List Value} (h : Rest X W bk base v6 v7 vs vo gs) (i : Nat) : W.cell? ⟨bk, i, none⟩ = (bookCells X v6 v7)[i]? := by simp [World.cell?, h.blk]

namespace BPackets
theorem putL_marked (Ls : List (List Pq)) (n : Nat) (hn : Ls.length ≤ n) : Marked (putL Ls n) := by
  intro j L hj
  simp only [putL, List.getElem?_mapIdx] at hj
  cases hL : Ls[j]? with
  | none => rw [hL] at hj; simp at hj
  | some M =>
    rw [hL] at hj
    have hlt := (List.getElem?_eq_some_iff.1 hL).1
    simp [show j < n by omega] at hj
    rw [← hj, marksT_length]
theorem putL_size (Ls : List (List Pq)) (n : Nat) (m : Nat) (h : ∀ L ∈ Ls, L.length ≤ m) : ∀ L ∈ putL Ls n, L.length ≤ m := by
  intro L hL
  obtain ⟨j, hj⟩ := List.getElem?_of_mem hL
  simp only [putL, List.getElem?_mapIdx] at hj
  cases hM : Ls[j]? with
  | none => rw [hM] at hj; simp at hj
  | some M =>
    rw [hM] at hj
    have := h M (List.mem_of_getElem? hM)
    simp at hj
    rw [← hj]
    split
    · rw [marksT_length]; exact this
    · exact this
theorem Rest.cell {X : Nat → Value} {W : World} {bk base : Nat} {v6 v7 : Value} {vs : List Value} {vo : Value} {gs : List Value} (h : Rest X W bk base v6 v7 vs vo gs) (i : Nat) : W.cell? ⟨bk, i, none⟩ = (bookCells X v6 v7)[i]? := by simp [World.cell?, h.blk]
end BPackets

/-- The book: lists of options os (copies cs), lists of packets ps (copies ds). -/
structure Two (W : World) (bk base : Nat) (v8 v9 v10 v11 : Value) (os cs : List Value) (Os : List (List Tg)) (ps ds : List Value) (Ps : List (List Pq)) : Prop where
  o : BookT (restO v10 v11) W bk base v8 v9 os cs Os
  p : BPackets.BookT (restP v8 v9) W bk base v10 v11 ps ds Ps

section
variable {W W' : World} {bk base : Nat} {v8 v9 v10 v11 : Value} {os cs ps ds : List Value} {Os : List (List Tg)} {Ps : List (List Pq)}
theorem Two.kept0 (h : Two W bk base v8 v9 v10 v11 os cs Os ps ds Ps) (hk : Kept (fun _ => False) W W') : Two W' bk base v8 v9 v10 v11 os cs Os ps ds Ps := ⟨h.o.kept0 hk, h.p.kept0 hk⟩

/-- A block of the book's own: of its type, or a row of lists. -/
def BkTy (W : World) (i : Nat) : Prop := ∃ cur t, W.heap[i]? = some (.cells cur t (0, 0)) ∧ (t = 52 ∨ t = 55 ∨ t = 53)
theorem row_ty {n k b : Nat} {e : TypeId} {y : Value} {ys : List Value} (hy : W.ownsRow b e k y n ys) {i : Nat} (hi : y.ownBlock = some i) : (∃ cur, W.heap[i]? = some (.cells cur e (0, 0))) ∧ b ≤ i := by
  rcases hy.2 with ⟨rfl, _⟩ | ⟨g, cap, cur, rfl, hb, hg, _⟩
  · cases hi
  · have : g = i := by simpa [Value.ownBlock] using hi
    subst this
    exact ⟨⟨cur, hg⟩, hb⟩
theorem Two.boO (h : Two W bk base v8 v9 v10 v11 os cs Os ps ds Ps) {i : Nat} (hi : Bo bk v8 v9 i) : (∃ cur t, W.heap[i]? = some (.cells cur t (0, 0)) ∧ (t = 52 ∨ t = 55)) ∧ base ≤ i := by
  rcases hi with rfl | hi | hi
  · exact ⟨⟨_, _, h.o.p.blk, Or.inl rfl⟩, h.o.p.lo⟩
  · obtain ⟨⟨cur, h1⟩, h2⟩ := row_ty h.o.p.r6 hi
    exact ⟨⟨_, _, h1, Or.inr rfl⟩, h2⟩
  · obtain ⟨⟨cur, h1⟩, h2⟩ := row_ty h.o.r7 hi
    exact ⟨⟨_, _, h1, Or.inr rfl⟩, h2⟩
theorem Two.boP (h : Two W bk base v8 v9 v10 v11 os cs Os ps ds Ps) {i : Nat} (hi : Bo bk v10 v11 i) : (∃ cur t, W.heap[i]? = some (.cells cur t (0, 0)) ∧ (t = 52 ∨ t = 53)) ∧ base ≤ i := by
  rcases hi with rfl | hi | hi
  · exact ⟨⟨_, _, h.p.p.blk, Or.inl rfl⟩, h.p.p.lo⟩
  · obtain ⟨⟨cur, h1⟩, h2⟩ := row_ty h.p.p.r6 hi
    exact ⟨⟨_, _, h1, Or.inr rfl⟩, h2⟩
  · obtain ⟨⟨cur, h1⟩, h2⟩ := row_ty h.p.r7 hi
    exact ⟨⟨_, _, h1, Or.inr rfl⟩, h2⟩

/-- One list of options more. -/
theorem Two.addO (h : Two W bk base v8 v9 v10 v11 os cs Os ps ds Ps) (hb : base ≤ W.heap.size) (h250 : os.length < 250) {v : Value} {L : List Tg} (hv : OwnO W base v L) (hnew : ∀ (r : Nat) (u : Value), os[r]? = some u → ¬ Shares u v) (hL : L.length ≤ 1000) :
    Calls Tryz.prog 35 #[.pointer (some ⟨bk, 0, none⟩), v] W fun e w' => e = .returned (.tuple #[]) ∧ ∃ v8' v9' u, Two w' bk base v8' v9' v10 v11 (os ++ [v]) (cs ++ [u]) (Os ++ [L]) ps ds Ps ∧ Kept (BkTy W) W w' ∧ Below base W w' := by
  refine (bookOptions_any h.o hb h250 hv hnew hL).mono ?_
  rintro e w' ⟨rfl, v8', v9', u, hB, hk⟩
  refine ⟨rfl, v8', v9', u, ⟨hB, h.p.other hk (fun i hi cur t h1 h2 => ?_) (hB.p.blk.trans (cells_same _ _ _ _).symm)⟩, hk.mono (fun i _ hi => ?_), hk.below hb (fun i hi => (h.boO hi).2)⟩
  · obtain ⟨⟨cur', t', h3, h4⟩, _⟩ := h.boO hi
    rw [h1] at h3
    simp at h3
    obtain ⟨_, rfl⟩ := h3
    rcases h4 with rfl | rfl <;> rcases h2 with h2 | h2 <;> exact absurd h2 (by decide)
  · obtain ⟨⟨cur', t', h3, h4⟩, _⟩ := h.boO hi
    exact ⟨cur', t', h3, h4.imp id Or.inl⟩
/-- One list of packets more. -/
theorem Two.addP (h : Two W bk base v8 v9 v10 v11 os cs Os ps ds Ps) (hb : base ≤ W.heap.size) (h250 : ps.length < 250) {v : Value} {L : List Pq} (hv : OwnQ W base v L) (hnew : ∀ (r : Nat) (u : Value), ps[r]? = some u → ¬ Shares u v) (hL : L.length ≤ 1000) :
    Calls Tryz.prog 36 #[.pointer (some ⟨bk, 0, none⟩), v] W fun e w' => e = .returned (.tuple #[]) ∧ ∃ v10' v11' u, Two w' bk base v8 v9 v10' v11' os cs Os (ps ++ [v]) (ds ++ [u]) (Ps ++ [L]) ∧ Kept (BkTy W) W w' ∧ Below base W w' := by
  refine (BPackets.bookPackets_any h.p hb h250 hv hnew hL).mono ?_
  rintro e w' ⟨rfl, v10', v11', u, hB, hk⟩
  refine ⟨rfl, v10', v11', u, ⟨h.o.other hk (fun i hi cur t h1 h2 => ?_) (hB.p.blk.trans (cells_same _ _ _ _)), hB⟩, hk.mono (fun i _ hi => ?_), hk.below hb (fun i hi => (h.boP hi).2)⟩
  · obtain ⟨⟨cur', t', h3, h4⟩, _⟩ := h.boP hi
    rw [h1] at h3
    simp at h3
    obtain ⟨_, rfl⟩ := h3
    rcases h4 with rfl | rfl <;> rcases h2 with h2 | h2 <;> exact absurd h2 (by decide)
  · obtain ⟨⟨cur', t', h3, h4⟩, _⟩ := h.boP hi
    exact ⟨cur', t', h3, h4.imp id Or.inr⟩
end

/-- A new book. -/
theorem two_new (w : World) (base : Nat) (hb : base ≤ w.heap.size) :
    Two (w.alloc (.cells (bookCells (restO (.slice none 0 0) (.slice none 0 0)) (.slice none 0 0) (.slice none 0 0)) 52)) w.heap.size base (.slice none 0 0) (.slice none 0 0) (.slice none 0 0) (.slice none 0 0) [] [] [] [] [] [] :=
  ⟨⟨⟨heap_alloc_new w _, World.ownsRow_nil _ _ _ _, ⟨rfl, fun r v L h => by simp at h⟩, fun r q u v h => by simp at h, hb⟩, World.ownsRow_nil _ _ _ _, ⟨rfl, fun r v L h => by simp at h⟩, fun ⟨g, h, _⟩ => by simp [Value.ownBlock] at h⟩,
   ⟨⟨heap_alloc_new w _, World.ownsRow_nil _ _ _ _, ⟨rfl, fun r v L h => by simp at h⟩, fun r q u v h => by simp at h, hb⟩, World.ownsRow_nil _ _ _ _, ⟨rfl, fun r v L h => by simp at h⟩, fun ⟨g, h, _⟩ => by simp [Value.ownBlock] at h⟩⟩
end Go.Proofs.YtndpfcanfcbldaaGreatDoor
