/- Rows of packets without options: their cells; 'append' of one packet and of a list; lists that are read. -/
import Derived.Test.YtndpfcanfcbldaaDoorPqMem
import Derived.Test.YtndpfcanfcbldaaDoorBookKit
import Derived.Lib.AppendZeros
import Derived.Deep.Upon
namespace Go.Proofs.YtndpfcanfcbldaaDoor
open Go.RowKit

theorem rowQ_append (a b : List Pq) : rowQ (a ++ b) = rowQ a ++ rowQ b := by simp [rowQ]
theorem rowQ_length (l : List Pq) : (rowQ l).length = l.length * 4 := by
  induction l with
  | nil => rfl
  | cons a r ih => rw [rowQ, List.flatMap_cons, List.length_append]; rw [rowQ] at ih; rw [ih]; simp [pqCells]; omega
theorem rowQ_get {l : List Pq} {k : Nat} {x : Pq} (h : l[k]? = some x) (j : Nat) (hj : j < 4) : (rowQ l)[k * 4 + j]? = (pqCells x)[j]? := by
  induction l generalizing k with
  | nil => simp at h
  | cons a r ih =>
    have hc : rowQ (a :: r) = pqCells a ++ rowQ r := by simp [rowQ]
    cases k with
    | zero =>
      simp at h
      subst h
      rw [hc, List.getElem?_append_left (by simp [pqCells]; omega)]
      simp
    | succ k =>
      simp at h
      rw [hc, List.getElem?_append_right (by simp [pqCells]; omega), ← ih h]
      simp only [pqCells, List.length_cons, List.length_nil]
      congr 1
      omega
theorem rowQ_oneCell (l : List Pq) : ∀ u ∈ rowQ l, u.oneCell' = true := by
  intro u hu
  obtain ⟨g, _, hg⟩ := List.mem_flatMap.1 hu
  simp [pqCells] at hg
  rcases hg with rfl | rfl | rfl | rfl <;> rfl

/-- A list that is read. -/
def RdQ (w : World) (v : Value) (l : List Pq) : Prop := ∃ base, OwnQ w base v l
theorem OwnQ.tags {w : World} {base : Nat} {v : Value} {l : List Pq} (h : OwnQ w base v l) : RdQ w v l := ⟨base, h⟩
theorem OwnQ.rowQ {W : World} {base : Nat} {v : Value} {l : List Pq} (h : OwnQ W base v l) (hne : l ≠ []) : ∃ g o cap, v = .slice (some ⟨g, o, none⟩) l.length cap ∧ ∀ (j : Nat) (u : Value), (rowQ l)[j]? = some u → W.cell? ((⟨g, o, none⟩ : Addr).add j) = some u := by
  rcases h.2 with ⟨_, h0⟩ | ⟨g, cap, cur, rfl, hb, hg, h1, h2, h3, h4⟩
  · exact absurd (List.eq_nil_of_length_eq_zero h0) hne
  · refine ⟨g, 0, cap, rfl, fun j u hj => ?_⟩
    have hlt := (List.getElem?_eq_some_iff.1 hj).1
    rw [rowQ_length] at hlt
    rw [addr_add, ← hj, ← h4, List.getElem?_take_of_lt hlt]
    simp [World.cell?, hg]
/-- The cells of one of its packets. -/
theorem OwnQ.at {W : World} {base : Nat} {p : Option Addr} {n cap : Nat} {l : List Pq} (h : OwnQ W base (.slice p n cap) l) {k : Nat} {y : Pq} (hk : l[k]? = some y) : ∃ g, p = some ⟨g, 0, none⟩ ∧ l.length ≤ cap ∧ W.cell? ⟨g, k * 4, none⟩ = some (.int .i64 y.code) ∧ W.cell? ⟨g, k * 4 + 1, none⟩ = some (.int .i64 y.id) ∧ W.cell? ⟨g, k * 4 + 2, none⟩ = some (.slice none 0 0) ∧ W.cell? ⟨g, k * 4 + 3, none⟩ = some (.string y.data) ∧ ∀ i, W.frozen? ⟨g, i, none⟩ = false := by
  have hlt := (List.getElem?_eq_some_iff.1 hk).1
  rcases h.2 with ⟨_, h0⟩ | ⟨g, cap', cur, e, hb, hg, h1, h2, h3, h4⟩
  · omega
  · simp only [Value.slice.injEq] at e
    obtain ⟨rfl, rfl, rfl⟩ := e
    have hc : ∀ i, i < l.length * 4 → W.cell? ⟨g, i, none⟩ = (Go.Proofs.YtndpfcanfcbldaaDoor.rowQ l)[i]? := fun i hi => by
      rw [← h4, List.getElem?_take_of_lt hi]
      simp [World.cell?, hg]
    have k0 := rowQ_get hk 0 (by omega)
    rw [Nat.add_zero] at k0
    refine ⟨g, rfl, h1, ?_, ?_, ?_, ?_, fun i => frozen_of_row _ g i _ _ hg⟩
    · rw [hc _ (by omega), k0]; rfl
    · rw [hc _ (by omega), rowQ_get hk 1 (by omega)]; rfl
    · rw [hc _ (by omega), rowQ_get hk 2 (by omega)]; rfl
    · rw [hc _ (by omega), rowQ_get hk 3 (by omega)]; rfl

/-- What 'append' makes of two lists of packets. -/
def AppQ (w : World) (v u v' : Value) (w' : World) : Prop := ∀ ty, (Builtin.append_ #[35, 35] ty #[v, u]).run Tryd.prog w = .ok v' w'

theorem cells_pq_new (w : World) (q : Pq) : ∀ (j : Nat) (x : Value), (rowQ [q])[j]? = some x → (w.alloc (.cells #[.int .i64 q.code, .int .i64 q.id, .slice none 0 0, .string q.data] 40)).cell? ((⟨w.heap.size, 0, none⟩ : Addr).add j) = some x := by
  intro j x h
  rw [addr_add, World.cell?_alloc_new]
  simpa [rowQ, pqCells] using h

/-- 'append' of one packet. -/
theorem pushQ {w : World} {lo : Nat} {v : Value} {l : List Pq} (q : Pq) (hb : lo ≤ w.heap.size) (h : OwnQ w lo v l) (hn : l.length ≤ 100000) :
    ∃ v' w', AppQ (w.alloc (.cells #[.int .i64 q.code, .int .i64 q.id, .slice none 0 0, .string q.data] 40)) v (.slice (some ⟨w.heap.size, 0, none⟩) 1 1) v' w' ∧ OwnQ w' lo v' (l ++ [q]) ∧ Kept (fun i => v.ownBlock = some i) w w' := by
  obtain ⟨i0, hi0, hz0, hz1, hz2⟩ := info_parts infoPq
  have hsz : (w.alloc (.cells #[.int .i64 q.code, .int .i64 q.id, .slice none 0 0, .string q.data] 40)).heap.size = w.heap.size + 1 := by simp
  obtain ⟨v', w', h1, h2, h3⟩ := owned_append (P := Tryd.prog) Tryd.underlying35 hi0 hz0 hz1 hz2 rfl (by decide) (World.ownsRow.alloc h (.cells #[.int .i64 q.code, .int .i64 q.id, .slice none 0 0, .string q.data] 40)) (by omega) ⟨w.heap.size, 0, none⟩ 1 1 (rowQ [q]) (by decide) (rowQ_length _) (cells_pq_new w q) (rowQ_oneCell _) (by omega) (by decide)
  refine ⟨v', w', h1, ?_, ?_⟩
  · unfold OwnQ
    rw [rowQ_append, List.length_append]
    exact h2
  · have hk0 := (Kept.refl (fun i => v.ownBlock = some i) w).alloc (.cells #[.int .i64 q.code, .int .i64 q.id, .slice none 0 0, .string q.data] 40)
    rcases h3 with ⟨g', cap', rfl, rfl, hk⟩ | ⟨cap', rfl, hk, _⟩
    · exact hk0.andThen hk (fun i _ e => by rw [e]; rfl)
    · exact hk0.andThen hk (fun i _ e => e.elim)

/-- 'append' of a list that is read onto nothing. -/
theorem copyQ_run {w : World} {u : Value} {b : List Pq} (hu : RdQ w u b) (hn : b.length ≤ 100000) :
    ∃ v' w', AppQ w (.slice none 0 0) u v' w' ∧ OwnQ w' w.heap.size v' b ∧ Kept (fun _ => False) w w' := by
  obtain ⟨base, hu⟩ := hu
  obtain ⟨i0, hi0, hz0, hz1, hz2⟩ := info_parts infoPq
  by_cases hb : b = []
  · subst hb
    obtain ⟨p, cap, hp⟩ := slice_of hu
    have e0 : ([] : List Pq).length = 0 := rfl
    rw [e0] at hp
    subst hp
    have hsrc : Src Tryd.prog i0.size 35 (.slice p 0 cap) 0 [] w := by
      cases p with
      | none => exact Src.ofNil w Tryd.underlying35 cap
      | some a => exact Src.ofSlice w Tryd.underlying35 a 0 cap [] (by simp) (fun j u hj => by simp at hj) (fun u hu => by simp at hu)
    exact ⟨_, w, fun ty => run_append_nothing w _ _ _ _ i0 Tryd.underlying35 hi0 none 0 0 (Nat.le_refl _) _ hsrc, OwnQ.nil _ _, Kept.refl _ _⟩
  · obtain ⟨g, o, cap, rfl, hc⟩ := hu.rowQ hb
    have hpos : 0 < b.length := List.length_pos_iff.2 hb
    obtain ⟨v', w', h1, h2, h3⟩ := owned_append (P := Tryd.prog) Tryd.underlying35 hi0 hz0 hz1 hz2 rfl (by decide) (World.ownsRow_nil w w.heap.size 40 4) (Nat.le_refl _) ⟨g, o, none⟩ b.length cap (rowQ b) hpos (rowQ_length _) hc (rowQ_oneCell _) (by omega) (by decide)
    refine ⟨v', w', h1, ?_, ?_⟩
    · rw [List.nil_append, Nat.zero_add] at h2
      exact h2
    · rcases h3 with ⟨g', cap', e, _, _⟩ | ⟨cap', rfl, hk, _⟩
      · cases e
      · exact hk

/-- Two packets, laid one behind the other. -/
theorem OwnQ.new2 (w : World) (q r : Pq) : OwnQ (w.alloc (.cells #[.int .i64 q.code, .int .i64 q.id, .slice none 0 0, .string q.data, .int .i64 r.code, .int .i64 r.id, .slice none 0 0, .string r.data] 40)) w.heap.size (.slice (some ⟨w.heap.size, 0, none⟩) 2 2) [q, r] :=
  ⟨rfl, Or.inr ⟨w.heap.size, 2, _, rfl, Nat.le_refl _, heap_alloc_new w _, Nat.le_refl _, by unfold maxLen; omega, rfl, rfl⟩⟩
end Go.Proofs.YtndpfcanfcbldaaDoor
