/- An int as an element of the book's lists: its one cell. · What every book's texts share: lists that share a block, blocks by their types, rows that are written whole (no function named). · Rows of elements of 1 cells: 'append' of one and of a list; lists that are read; one element written whole. (Written by gen_bookB.py.) · The contracts of the book's markInts and SameInts (at two lists that are alike). · Lists of tags that a book keeps, in memory: their rows, each apart from the others. · A region that draws its order, reads a cell and at its end stores to it: S holds behind every operation but number k, which waits for all that reads. · A book that keeps lists of elements: the contracts of stillInts, putInts, growInts, markedInts. · A book that keeps lists of elements: the contracts of markedInts and growInts. · The contract of the book's Tags: one list more. · The contract of the book's Tags: one list more. · A value of a message as an element of the book's lists: its five cells; two that are the same are so by Go's comparison. · Rows of elements of 5 cells: 'append' of one and of a list; lists that are read; one element written whole. (Written by gen_bookB.py.) · The contract of the book's name. · The contracts of the book's markAvps and SameAvps (at two lists that are alike). · Lists of tags that a book keeps, in memory: their rows, each apart from the others. · A book that keeps lists of elements: the contracts of stillAvps, putAvps, growAvps, markedAvps. · A book that keeps lists of elements: the contracts of markedAvps and growAvps. · The contract of the book's Tags: one list more. · The contract of the book's Tags: one list more. · A book that keeps lists of ints and lists of values. (Written by gen_apart3.py.) · What the book's calls do of a kind that has no lists: nothing. · The contract of the book's Apart where lists of ints and lists of values are kept: it returns true. (Written by gen_apart3.py.) -/
import Derived.Test.YtkneogfeokckjaaGreatDoorKept
import Derived.Test.YtkneogfeokckjaaGreatDoorTagKit
import Derived.Deep.MidRow
import Derived.Test.YtkneogfeokckjaaGreatDoorBookKit
import Derived.Test.YtkneogfeokckjaaGreatDoorBbSto
import Derived.Laws.CopyRow
import Derived.Lib.AppendZeros
import Derived.Deep.Upon
import Derived.Deep.QuietTactic
import Derived.BigQuiet
import Derived.Deep.RegionHeld
import Derived.Deep.RegionHeld3
import Derived.Test.YtkneogfeokckjaaGreatDoorAvEq
import Derived.Test.YtkneogfeokckjaaGreatDoorAvCut
import Derived.Test.YtkneogfeokckjaaGreatDoorProg
import Derived.WalkKit
import Derived.WalkSpells
import Derived.WalkLawsBesides
namespace Go.Proofs.YtkneogfeokckjaaGreatDoor.BInts
open Go.RowKit

abbrev El := Int
def elCells (x : El) : List Value := [.int .i64 x]
theorem elLen (x : El) : (elCells x).length = 1 := rfl
theorem elOne (x : El) : ∀ u ∈ elCells x, u.oneCell' = true := by
  intro u hu
  rw [List.mem_singleton.1 hu]
  rfl
theorem infoB : (Tryz.prog.info? 3).map (fun i => (i.zero, i.size, i.bytes)) = some (some (.int .i64 0), 1, 8) := by kernel_rfl
theorem cell_at {W : World} {g k : Nat} {x : El} (h : W.rangeAt g (k * 1) (elCells x)) : W.cell? ⟨g, k, none⟩ = some (.int .i64 x) := by
  have := h 0 (.int .i64 x) rfl
  rw [Nat.mul_one, Nat.add_zero] at this
  exact this
end Go.Proofs.YtkneogfeokckjaaGreatDoor.BInts

namespace Go.Proofs.YtkneogfeokckjaaGreatDoor
open Go.RowKit

def Shares (u v : Value) : Prop := ∃ g, u.ownBlock = some g ∧ v.ownBlock = some g
def Apart (vs : List Value) : Prop := ∀ (r q : Nat) (u v : Value), vs[r]? = some u → vs[q]? = some v → Shares u v → r = q
theorem Apart.snoc {vs : List Value} (h : Apart vs) {v : Value} (hv : ∀ (r : Nat) (u : Value), vs[r]? = some u → ¬ Shares u v) : Apart (vs ++ [v]) := by
  have key : ∀ (r : Nat) (u : Value), (vs ++ [v])[r]? = some u → (r < vs.length ∧ vs[r]? = some u) ∨ (r = vs.length ∧ u = v) := fun r u hu => by
    by_cases hr : r < vs.length
    · rw [List.getElem?_append_left hr] at hu
      exact Or.inl ⟨hr, hu⟩
    · rw [List.getElem?_append_right (by omega)] at hu
      have := (List.getElem?_eq_some_iff.1 hu).1
      simp at this
      have e : r - vs.length = 0 := by omega
      rw [e] at hu
      simp at hu
      exact Or.inr ⟨by omega, hu.symm⟩
  intro r q u x hu hx hs
  rcases key r u hu with ⟨h1, h2⟩ | ⟨h1, h2⟩ <;> rcases key q x hx with ⟨h3, h4⟩ | ⟨h3, h4⟩
  · exact h r q u x h2 h4 hs
  · subst h4
    exact absurd hs (hv r u h2)
  · subst h2
    obtain ⟨g, g1, g2⟩ := hs
    exact absurd ⟨g, g2, g1⟩ (hv q x h4)
  · omega

theorem Apart.nil : Apart [] := fun r q u v hu => by simp at hu
theorem shares_symm {x y : Value} (h : ¬ Shares x y) : ¬ Shares y x := fun ⟨g, a, b⟩ => h ⟨g, b, a⟩
theorem grew_far {W W' : World} {x y y' : Value} {n : Nat} {k m b : Nat} {e : TypeId} {xs : List Value} (hg : Grew W W' y y' n 1) (hx : W.ownsRow b e k x m xs) (h : ¬ Shares x y) : ¬ Shares x y' := by
  rintro ⟨i, h1, h2⟩
  rcases hg with ⟨g, cap, rfl, rfl, _⟩ | ⟨cap', rfl, _, _⟩
  · exact h ⟨i, h1, h2⟩
  · have hl := (World.ownsRow.lt hx i h1).2
    have e : W.heap.size = i := by simpa [Value.ownBlock] using h2
    omega
/-- Blocks of these types. -/
def TyS (ts : TypeId → Prop) (W : World) (i : Nat) : Prop := ∃ cur t, W.heap[i]? = some (.cells cur t (0, 0)) ∧ ts t
/-- Nothing has turned but blocks of these types, none of them below base. -/
structure BK (ts : TypeId → Prop) (base : Nat) (W W' : World) : Prop where
  b : Below base W W'
  k : Kept (TyS ts W) W W'
theorem BK.refl (ts : TypeId → Prop) (base : Nat) (W : World) : BK ts base W W := ⟨Below.refl _ _, Kept.refl _ _⟩
theorem BK.trans {ts : TypeId → Prop} {base : Nat} {a b c : World} (h : BK ts base a b) (k : BK ts base b c) : BK ts base a c :=
  ⟨h.b.trans k.b, ⟨k.k.os.trans h.k.os, k.k.tape.trans h.k.tape, k.k.output.trans h.k.output, Nat.le_trans h.k.size k.k.size, fun i hi hn => by
    have e := h.k.block i hi hn
    refine (k.k.block i (Nat.lt_of_lt_of_le hi h.k.size) (fun ⟨cur, t, h1, h2⟩ => hn ⟨cur, t, ?_, h2⟩)).trans e
    rw [← e]
    exact h1⟩⟩
theorem BK.none {ts : TypeId → Prop} {base : Nat} {W W' : World} (hk : Kept (fun _ => False) W W') (hb : base ≤ W.heap.size) : BK ts base W W' := ⟨hk.below hb (fun _ h => h.elim), hk.mono (fun _ _ h => h.elim)⟩
theorem BK.own {ts : TypeId → Prop} {base : Nat} {W W' : World} {v : Value} {e : TypeId} {k n : Nat} {xs : List Value} (hk : Kept (fun i => v.ownBlock = some i) W W') (h : W.ownsRow base e k v n xs) (he : ts e) (hb : base ≤ W.heap.size) : BK ts base W W' :=
  ⟨hk.below hb (fun i hi => (World.ownsRow.lt h i hi).1), hk.mono (fun i _ hi => by
    rcases h.2 with ⟨rfl, _⟩ | ⟨g, cap, cur, rfl, _, hg, _⟩
    · cases hi
    · have : g = i := by simpa [Value.ownBlock] using hi
      subst this
      exact ⟨cur, e, hg, he⟩)⟩
def tsK (t : TypeId) : Prop := t = 191 ∨ t = 145
theorem Grew.kept {W W' : World} {v v' : Value} {n m : Nat} (h : Grew W W' v v' n m) : Kept (fun i => v.ownBlock = some i) W W' := by
  rcases h with ⟨g, cap, rfl, rfl, hk⟩ | ⟨cap', rfl, hk, _⟩
  · exact hk.mono (fun i _ hi => by subst hi; rfl)
  · exact hk.mono (fun _ _ h => h.elim)
/-- The blocks of the book itself and of its rows of lists. -/
def Bo (bk : Nat) (v6 v7 : Value) (i : Nat) : Prop := i = bk ∨ v6.ownBlock = some i ∨ v7.ownBlock = some i
theorem set_self {α : Type} {l : List α} {j : Nat} {x : α} (h : l[j]? = some x) : l.set j x = l := by
  apply List.ext_getElem?
  intro i
  by_cases hi : i = j
  · subst hi
    rw [List.getElem?_set_self (List.getElem?_eq_some_iff.1 h).1, h]
  · rw [List.getElem?_set_ne (fun e => hi e.symm)]
/-- 'append', in a region that draws, by what it leaves. -/
theorem stepB_append {P : Program} {ops : Array Oper} {o : Oper} {a : Act} {w : World} {K : Act → World → Prop} {Q : Exit → Act → World → Prop} {E : Prop} (hg : o.guard = none) (d x : Operand) (t : TypeId) (hop : o.op = Op.call { callee := Callee.builtin Builtin.append, args := #[d, x], argTypes := #[t, t] })
    (v u : Value) (hd : a.eval d = v) (hx : a.eval x = u) {v' : Value} {w' : World} (hr : (Builtin.append_ #[t, t] o.type #[v, u]).run P w = .ok v' w') (hK : K (a.put o.dst v') w') :
    if Region.wanted o (yielded ops a.tmps) = true then Oper.wp P o a w K Q else E := by
  rw [if_pos (by simp [Region.wanted, hg])]
  unfold Oper.wp execOp
  simp only [hop, resolve, invoke, builtin, Sem.run_bind, Sem.run_pure, Result.andThen_ok, List.map_toArray, List.map_cons, List.map_nil, hd, hx, hr]
  exact hK
end Go.Proofs.YtkneogfeokckjaaGreatDoor

namespace Go.Proofs.YtkneogfeokckjaaGreatDoor.BInts
open Go.RowKit

def rowB (l : List El) : List Value := l.flatMap elCells
theorem rowB_append (a b : List El) : rowB (a ++ b) = rowB a ++ rowB b := by simp [rowB]
theorem rowB_cons (a : El) (r : List El) : rowB (a :: r) = elCells a ++ rowB r := by simp [rowB]
theorem rowB_length (l : List El) : (rowB l).length = l.length * 1 := by
  induction l with
  | nil => rfl
  | cons a r ih => rw [rowB_cons, List.length_append, ih, elLen]; simp; omega
theorem rowB_get {l : List El} {k : Nat} {x : El} (h : l[k]? = some x) (j : Nat) (hj : j < 1) : (rowB l)[k * 1 + j]? = (elCells x)[j]? := by
  induction l generalizing k with
  | nil => simp at h
  | cons a r ih =>
    cases k with
    | zero =>
      simp at h
      subst h
      rw [rowB_cons, List.getElem?_append_left (by rw [elLen]; omega)]
      simp
    | succ k =>
      simp at h
      rw [rowB_cons, List.getElem?_append_right (by rw [elLen]; omega), ← ih h, elLen]
      congr 1
      omega
theorem rowB_oneCell (l : List El) : ∀ u ∈ rowB l, u.oneCell' = true := by
  intro u hu
  obtain ⟨g, _, hg⟩ := List.mem_flatMap.1 hu
  exact elOne g u hg
theorem rowB_set (L : List El) {k : Nat} (hk : k < L.length) (x : El) : rowB (L.set k x) = (rowB L).take (k * 1) ++ elCells x ++ (rowB L).drop (k * 1 + 1) := by
  induction L generalizing k with
  | nil => simp at hk
  | cons a r ih =>
    cases k with
    | zero => rw [List.set_cons_zero, rowB_cons, rowB_cons, Nat.zero_mul, List.take_zero, List.nil_append, Nat.zero_add, List.drop_append, elLen, Nat.sub_self, List.drop_of_length_le (by rw [elLen]; exact Nat.le_refl _)]; simp
    | succ k =>
      have h1 : (k + 1) * 1 = (elCells a).length + k * 1 := by rw [elLen]; omega
      have h2 : (k + 1) * 1 + 1 = (elCells a).length + (k * 1 + 1) := by rw [elLen]; omega
      rw [List.set_cons_succ, rowB_cons, rowB_cons, ih (by simpa using hk), h2, List.drop_length_add_append, h1, List.take_length_add_append]
      simp only [List.append_assoc]

theorem rowI_map (L : List El) : rowB L = L.map (fun z => Value.int .i64 z) := by
  induction L with
  | nil => rfl
  | cons x r ih => rw [rowB_cons, ih]; rfl
theorem rowI_set (L : List El) (k : Nat) (x : El) : rowB (L.set k x) = (rowB L).set k (.int .i64 x) := by
  rw [rowI_map, rowI_map, List.map_set]

theorem sizeB (x : El) : (Tryz.prog.info? 3).map (·.size) = some (elCells x).length := by
  rw [elLen]
  kernel_rfl
def OwnB (w : World) (base : Nat) (v : Value) (l : List El) : Prop := w.ownsRow base 3 1 v l.length (rowB l)
section
variable {w w' W : World} {base base' : Nat} {v : Value} {l : List El}
theorem OwnB.nil (w : World) (base : Nat) : OwnB w base (.slice none 0 0) [] := World.ownsRow_nil _ _ _ _
theorem OwnB.kept (h : OwnB w base v l) (hk : Kept (fun _ => False) w w') : OwnB w' base v l := owned_kept h hk (fun _ _ => id)
theorem OwnB.mono (h : OwnB w base v l) (hb : base' ≤ base) : OwnB w base' v l := by
  rcases h.2 with ⟨rfl, h0⟩ | ⟨g, cap, cur, rfl, hb', hg, h1, h2, h3, h4⟩
  · exact ⟨h.1, Or.inl ⟨rfl, h0⟩⟩
  · exact ⟨h.1, Or.inr ⟨g, cap, cur, rfl, Nat.le_trans hb hb', hg, h1, h2, h3, h4⟩⟩
theorem OwnB.block (h : OwnB w base v l) {i : Nat} (hi : v.ownBlock = some i) : (∃ cur, w.heap[i]? = some (.cells cur 3 (0, 0))) ∧ base ≤ i := by
  rcases h.2 with ⟨rfl, _⟩ | ⟨g, cap, cur, rfl, hb, hg, _⟩
  · cases hi
  · have : g = i := by simpa [Value.ownBlock] using hi
    subst this
    exact ⟨⟨cur, hg⟩, hb⟩
/-- A list that is read. -/
def RdB (w : World) (v : Value) (l : List El) : Prop := ∃ base, OwnB w base v l
theorem OwnB.tags (h : OwnB w base v l) : RdB w v l := ⟨base, h⟩
theorem OwnB.rowB (h : OwnB W base v l) (hne : l ≠ []) : ∃ g o cap, v = .slice (some ⟨g, o, none⟩) l.length cap ∧ ∀ (j : Nat) (u : Value), (rowB l)[j]? = some u → W.cell? ((⟨g, o, none⟩ : Addr).add j) = some u := by
  rcases h.2 with ⟨_, h0⟩ | ⟨g, cap, cur, rfl, hb, hg, h1, h2, h3, h4⟩
  · exact absurd (List.eq_nil_of_length_eq_zero h0) hne
  · refine ⟨g, 0, cap, rfl, fun j u hj => ?_⟩
    have hlt := (List.getElem?_eq_some_iff.1 hj).1
    rw [rowB_length] at hlt
    rw [addr_add, ← hj, ← h4, List.getElem?_take_of_lt hlt]
    simp [World.cell?, hg]
/-- One element, as it is loaded, and as it is written. -/
theorem OwnB.at {p : Option Addr} {n cap : Nat} (h : OwnB W base (.slice p n cap) l) {k : Nat} {y : El} (hk : l[k]? = some y) : ∃ g, p = some ⟨g, 0, none⟩ ∧ n = l.length ∧ l.length ≤ cap ∧ W.rangeAt g (k * 1) (elCells y) := by
  have hlt := (List.getElem?_eq_some_iff.1 hk).1
  rcases h.2 with ⟨_, h0⟩ | ⟨g, cap', cur, e, hb, hg, h1, h2, h3, h4⟩
  · omega
  · simp only [Value.slice.injEq] at e
    obtain ⟨rfl, rfl, rfl⟩ := e
    have hc : ∀ i, i < l.length * 1 → W.cell? ⟨g, i, none⟩ = (BInts.rowB l)[i]? := fun i hi => by
      rw [← h4, List.getElem?_take_of_lt hi]
      simp [World.cell?, hg]
    refine ⟨g, rfl, rfl, h1, fun j u hj => ?_⟩
    have hj' := (List.getElem?_eq_some_iff.1 hj).1
    rw [elLen] at hj'
    rw [hc _ (by omega), rowB_get hk j hj']
    exact hj
theorem own_set {g n cap : Nat} {L : List El} (h : OwnB W base (.slice (some ⟨g, 0, none⟩) n cap) L) {k : Nat} (_ : k < L.length) (x : El) :
    OwnB (W.setCell ⟨g, k, none⟩ (.int .i64 x)) base (.slice (some ⟨g, 0, none⟩) n cap) (L.set k x) := by
  rcases h.2 with ⟨h', _⟩ | ⟨g', cap', cur, h', hb, hg, h1, h2, h3, h4⟩
  · simp at h'
  · simp only [Value.slice.injEq, Option.some.injEq, Addr.mk.injEq, and_true] at h'
    obtain ⟨rfl, rfl, rfl⟩ := h'
    have b1 := Joins.block_setCell hg (i := k) (.int .i64 x)
    refine ⟨rowB_length _, Or.inr ⟨g, cap, _, by rw [List.length_set], hb, b1, by rw [List.length_set]; exact h1, h2, by simpa using h3, ?_⟩⟩
    rw [List.length_set, Array.toList_setIfInBounds, rowI_set, ← h4, List.take_set]
/-- What 'append' makes of two lists. -/
def AppB (w : World) (v u v' : Value) (w' : World) : Prop := ∀ ty, (Builtin.append_ #[59, 59] ty #[v, u]).run Tryz.prog w = .ok v' w'
theorem cells_new (w : World) (q : El) : ∀ (j : Nat) (x : Value), (rowB [q])[j]? = some x → (w.alloc (.cells (elCells q).toArray 3)).cell? ((⟨w.heap.size, 0, none⟩ : Addr).add j) = some x := by
  intro j x h
  rw [addr_add, World.cell?_alloc_new]
  simpa [BInts.rowB] using h
/-- 'append' of one element. -/
theorem pushB {lo : Nat} (q : El) (hb : lo ≤ w.heap.size) (h : OwnB w lo v l) (hn : l.length ≤ 100000) :
    ∃ v' w', AppB (w.alloc (.cells (elCells q).toArray 3)) v (.slice (some ⟨w.heap.size, 0, none⟩) 1 1) v' w' ∧ OwnB w' lo v' (l ++ [q]) ∧ Kept (fun i => v.ownBlock = some i) w w' := by
  obtain ⟨i0, hi0, hz0, hz1, hz2⟩ := info_parts infoB
  have hsz : (w.alloc (.cells (elCells q).toArray 3)).heap.size = w.heap.size + 1 := by simp
  obtain ⟨v', w', h1, h2, h3⟩ := owned_append (P := Tryz.prog) Tryz.underlying59 hi0 hz0 hz1 hz2 rfl (by decide) (World.ownsRow.alloc h (.cells (elCells q).toArray 3)) (by omega) ⟨w.heap.size, 0, none⟩ 1 1 (BInts.rowB [q]) (by decide) (rowB_length _) (cells_new w q) (rowB_oneCell _) (by omega) (by decide)
  refine ⟨v', w', h1, ?_, ?_⟩
  · unfold OwnB
    rw [rowB_append, List.length_append]
    exact h2
  · have hk0 := (Kept.refl (fun i => v.ownBlock = some i) w).alloc (.cells (elCells q).toArray 3)
    rcases h3 with ⟨g', cap', rfl, rfl, hk⟩ | ⟨cap', rfl, hk, _⟩
    · exact hk0.andThen hk (fun i _ e => by rw [e]; rfl)
    · exact hk0.andThen hk (fun i _ e => e.elim)
/-- 'append' of a list that is read onto nothing. -/
theorem copyB_run {u : Value} {b : List El} (hu : RdB w u b) (hn : b.length ≤ 100000) :
    ∃ v' w', AppB w (.slice none 0 0) u v' w' ∧ OwnB w' w.heap.size v' b ∧ Kept (fun _ => False) w w' := by
  obtain ⟨base, hu⟩ := hu
  obtain ⟨i0, hi0, hz0, hz1, hz2⟩ := info_parts infoB
  by_cases hb : b = []
  · subst hb
    obtain ⟨p, cap, hp⟩ := slice_of hu
    have e0 : ([] : List El).length = 0 := rfl
    rw [e0] at hp
    subst hp
    have hsrc : Src Tryz.prog i0.size 59 (.slice p 0 cap) 0 [] w := by
      cases p with
      | none => exact Src.ofNil w Tryz.underlying59 cap
      | some a => exact Src.ofSlice w Tryz.underlying59 a 0 cap [] (by simp) (fun j u hj => by simp at hj) (fun u hu => by simp at hu)
    exact ⟨_, w, fun ty => run_append_nothing w _ _ _ _ i0 Tryz.underlying59 hi0 none 0 0 (Nat.le_refl _) _ hsrc, OwnB.nil _ _, Kept.refl _ _⟩
  · obtain ⟨g, o, cap, rfl, hc⟩ := hu.rowB hb
    have hpos : 0 < b.length := List.length_pos_iff.2 hb
    obtain ⟨v', w', h1, h2, h3⟩ := owned_append (P := Tryz.prog) Tryz.underlying59 hi0 hz0 hz1 hz2 rfl (by decide) (World.ownsRow_nil w w.heap.size 3 1) (Nat.le_refl _) ⟨g, o, none⟩ b.length cap (BInts.rowB b) hpos (rowB_length _) hc (rowB_oneCell _) (by omega) (by decide)
    refine ⟨v', w', h1, ?_, ?_⟩
    · rw [List.nil_append, Nat.zero_add] at h2
      exact h2
    · rcases h3 with ⟨g', cap', e, _, _⟩ | ⟨cap', rfl, hk, _⟩
      · cases e
      · exact hk
end
set_option maxHeartbeats 1000000 in
set_option maxRecDepth 100000 in
theorem copyInts_any (v : Value) (l : List El) (w : World) (hv : RdB w v l) (hl : l.length ≤ 100000) :
    Calls Tryz.prog 52 #[v] w fun e w' => ∃ u, e = .returned u ∧ OwnB w' w.heap.size u l ∧ Kept (fun _ => False) w w' := by
  obtain ⟨u, w1, hr, ho, hk⟩ := copyB_run hv hl
  have HO := hid ho
  have HK := hid hk
  clear ho hk hv
  go_enter Tryz.func52, Tryz.ntmps52
  go_wp2_with (at_builtin; refine Lib.wpList_append_run _ rfl _ _ _ _ rfl _ _ rfl rfl _ _ (hr _) ?_)
  go_ret
  exact ⟨_, rfl, HO.out, HK.out⟩
end Go.Proofs.YtkneogfeokckjaaGreatDoor.BInts

namespace Go.Proofs.YtkneogfeokckjaaGreatDoor.BInts
open Go.RowKit

def markT (i k : Nat) : El := -1000000 * (i : Int) - (k : Int) - 7
def marksT (i a n : Nat) : List El := (List.range n).map fun j => markT i (a + j)
theorem marksT_length (i a n : Nat) : (marksT i a n).length = n := by simp [marksT]
theorem marksT_snoc (i a n : Nat) : marksT i a (n + 1) = marksT i a n ++ [markT i (a + n)] := by simp [marksT, List.range_succ]
theorem marksT_append (i a n m : Nat) : marksT i a (n + m) = marksT i a n ++ marksT i (a + n) m := by
  induction m with
  | zero => simp [marksT]
  | succ m ih => rw [← Nat.add_assoc, marksT_snoc, ih, marksT_snoc, List.append_assoc, Nat.add_assoc]
theorem marksT_get {i a n j : Nat} (h : j < n) : (marksT i a n)[j]? = some (markT i (a + j)) := by simp [marksT, h]
theorem OwnB.frz {w : World} {base n cap g : Nat} {l : List El} (h : OwnB w base (.slice (some ⟨g, 0, none⟩) n cap) l) (i : Nat) : w.frozen? ⟨g, i, none⟩ = false := by
  rcases h.2 with ⟨h', _⟩ | ⟨g', cap', cur, h', hb, hg, _⟩
  · simp at h'
  · simp only [Value.slice.injEq, Option.some.injEq, Addr.mk.injEq, and_true] at h'
    obtain ⟨rfl, _, _⟩ := h'
    exact frozen_of_row _ g i _ _ hg

set_option maxHeartbeats 2000000 in
set_option maxRecDepth 100000 in
theorem markInts_any (i a n : Nat) (hi : i ≤ 1000) (ha : a ≤ 10000) (hn : n ≤ 10000) (w : World) :
    Calls Tryz.prog 157 #[.int .i64 (i : Int), .int .i64 (a : Int), .int .i64 (n : Int)] w fun e w' => ∃ v, e = .returned v ∧ OwnB w' w.heap.size v (marksT i a n) ∧ Kept (fun _ => False) w w' := by
  go_enter Tryz.func157, Tryz.ntmps157
  go_wp2
  go_loopw [7, 8] (fun v7 vk wr => ∃ j : Nat, j ≤ n ∧ vk = .int .i64 ((a : Int) + (j : Int)) ∧ Hid (OwnB wr w.heap.size v7 (marksT i a j) ∧ Kept (fun _ => False) w wr)) (fun _ vk _ => (a + n) - (intOf vk).toNat)
  case atStart => exact ⟨0, Nat.zero_le _, by simp, OwnB.nil _ _, Kept.refl _ _⟩
  case round =>
    obtain ⟨j, hj, rfl, HI⟩ := hrel
    by_cases hlt : j < n
    · have hltz : (a : Int) + (j : Int) < (a : Int) + (n : Int) := by omega
      obtain ⟨p7, c7, h7⟩ := slice_of HI.out.1
      subst h7
      obtain ⟨v', w2, happ, hown', hk'⟩ := pushB (-1000000 * (i : Int) - ((a : Int) + (j : Int)) - 7) HI.out.2.size HI.out.1 (by rw [marksT_length]; omega)
      have R : Hid (OwnB w2 w.heap.size v' (marksT i a (j + 1)) ∧ Kept (fun _ => False) w w2) := by
        refine ⟨?_, HI.out.2.andThen hk' (fun k hk e => by have := (HI.out.1.block e).2; omega)⟩
        rw [marksT_snoc, show markT i (a + j) = -1000000 * (i : Int) - ((a : Int) + (j : Int)) - 7 from by show (-1000000 * (i : Int) - ((a + j : Nat) : Int) - 7 : Int) = -1000000 * (i : Int) - ((a : Int) + (j : Int)) - 7; omega]
        exact hown'
      have hm1 : IntKind.i64.wrap (-1000000 * (i : Int)) = -1000000 * (i : Int) := by rw [IntKind.wrap_i64]; omega
      have hm2 : IntKind.i64.wrap (-1000000 * (i : Int) - ((a : Int) + (j : Int))) = -1000000 * (i : Int) - ((a : Int) + (j : Int)) := by rw [IntKind.wrap_i64]; omega
      rw [show (elCells (-1000000 * (i : Int) - ((a : Int) + (j : Int)) - 7)).toArray = #[.int .i64 (-1000000 * (i : Int) - ((a : Int) + (j : Int)) - 7)] from rfl] at happ
      clear hown' hk' HI
      go_wp2_with (at_builtin; refine Lib.wpList_append_run _ rfl _ _ _ _ rfl _ _ rfl rfl _ _ (happ _) ?_)
      exact ⟨⟨j + 1, hlt, by go_num, R.out⟩, by simp [intOf]; omega⟩
    · obtain rfl : j = n := by omega
      have hltz : ¬ (a : Int) + (j : Int) < (a : Int) + (j : Int) := by omega
      go_wp2
      go_ret
      exact ⟨_, rfl, HI.out.1, HI.out.2⟩

set_option maxHeartbeats 4000000 in
set_option maxRecDepth 100000 in
theorem sameInts_eq (v u : Value) (l : List El) (w : World) (hv : RdB w v l) (hu : RdB w u l) (hl : l.length ≤ 1000000) :
    Calls Tryz.prog 18 #[v, u] w fun e w' => e = .returned (.bool true) ∧ Kept (fun _ => False) w w' := by
  obtain ⟨b1, hv⟩ := hv
  obtain ⟨b2, hu⟩ := hu
  obtain ⟨p, cap, hp⟩ := slice_of hv
  subst hp
  obtain ⟨q, cbp, hq⟩ := slice_of hu
  subst hq
  have HV := hid (fun W (hk : Kept (fun _ => False) w W) => hv.kept hk)
  have HU := hid (fun W (hk : Kept (fun _ => False) w W) => hu.kept hk)
  clear hv hu
  go_enter Tryz.func18, Tryz.ntmps18
  go_wp2
  go_loopw [5] (fun vi wr => ∃ j : Nat, j ≤ l.length ∧ vi = .int .i64 (j : Int) ∧ ∃ q, wr = w.drewN q) (fun vi _ => l.length - (intOf vi).toNat)
  case atStart => exact ⟨0, Nat.zero_le _, rfl, 0, rfl⟩
  case round =>
    obtain ⟨j, hj, rfl, q, rfl⟩ := hrel
    by_cases hlt : j < l.length
    · have hltz : (j : Int) < (l.length : Int) := by omega
      obtain ⟨x, hx⟩ : ∃ x, l[j]? = some x := ⟨l[j], by simp [hlt]⟩
      obtain ⟨g, rfl, hz1, hcap, c00⟩ := (HV.out _ (Kept.refl _ w)).at hx
      obtain ⟨g2, rfl, hz2, hcbp, d00⟩ := (HU.out _ (Kept.refl _ w)).at hx
      have c0 := cell_at c00
      have d0 := cell_at d00
      clear hx hz1 hz2 c00 d00
      go_wp2
      go_quiet (fail)
      go_wp2
      exact ⟨⟨j + 1, hlt, by go_num, _, rfl⟩, by simp [intOf]; omega⟩
    · obtain rfl : j = l.length := by omega
      have hltz : ¬ (l.length : Int) < (l.length : Int) := by omega
      go_wp2
      go_ret
      exact ⟨rfl, (Kept.refl _ w).drewN _⟩
end Go.Proofs.YtkneogfeokckjaaGreatDoor.BInts

namespace Go.Proofs.YtkneogfeokckjaaGreatDoor.BInts
open Go.RowKit

/-- A row of lists. -/
def RowS (W : World) (base : Nat) (v : Value) (vs : List Value) : Prop := W.ownsRow base 59 1 v vs.length vs

/-- The lists vs hold the packets of Ls. -/
structure Fam (W : World) (base : Nat) (vs : List Value) (Ls : List (List El)) : Prop where
  len : vs.length = Ls.length
  own : ∀ (r : Nat) (v : Value) (L : List El), vs[r]? = some v → Ls[r]? = some L → OwnB W base v L

theorem own_lt {W : World} {base : Nat} {v : Value} {L : List El} (h : OwnB W base v L) {g : Nat} (hg : v.ownBlock = some g) : base ≤ g ∧ g < W.heap.size := World.ownsRow.lt h g hg

theorem own_kept {W W' : World} {S : Nat → Prop} {base : Nat} {v : Value} {L : List El} (h : OwnB W base v L) (hk : Kept S W W') (hS : ∀ i, v.ownBlock = some i → ¬ S i) : OwnB W' base v L := owned_kept h hk hS

theorem Fam.kept {W W' : World} {S : Nat → Prop} {base : Nat} {vs : List Value} {Ls : List (List El)} (h : Fam W base vs Ls) (hk : Kept S W W') (hS : ∀ (r : Nat) (v : Value) (i : Nat), vs[r]? = some v → v.ownBlock = some i → ¬ S i) : Fam W' base vs Ls :=
  ⟨h.len, fun r v L hv hL => own_kept (h.own r v L hv hL) hk (fun i hi => hS r v i hv hi)⟩

theorem Fam.kept0 {W W' : World} {base : Nat} {vs : List Value} {Ls : List (List El)} (h : Fam W base vs Ls) (hk : Kept (fun _ => False) W W') : Fam W' base vs Ls := h.kept hk (fun _ _ _ _ _ => id)

theorem Fam.nil (W : World) (base : Nat) : Fam W base [] [] := ⟨rfl, fun r v L hv => by simp at hv⟩

theorem Fam.at {W : World} {base : Nat} {vs : List Value} {Ls : List (List El)} (h : Fam W base vs Ls) {r : Nat} {v : Value} (hv : vs[r]? = some v) : ∃ L, Ls[r]? = some L ∧ OwnB W base v L := by
  have hlt := (List.getElem?_eq_some_iff.1 hv).1
  have hl : r < Ls.length := by rw [← h.len]; exact hlt
  exact ⟨Ls[r], by simp, h.own r v _ hv (by simp)⟩

theorem Fam.snoc {W : World} {base : Nat} {vs : List Value} {Ls : List (List El)} (h : Fam W base vs Ls) {v : Value} {L : List El} (hv : OwnB W base v L) : Fam W base (vs ++ [v]) (Ls ++ [L]) := by
  refine ⟨by simp [h.len], fun r u M hu hM => ?_⟩
  by_cases hr : r < vs.length
  · rw [List.getElem?_append_left hr] at hu
    rw [List.getElem?_append_left (by rw [← h.len]; exact hr)] at hM
    exact h.own r u M hu hM
  · rw [List.getElem?_append_right (by omega)] at hu
    rw [List.getElem?_append_right (by rw [← h.len]; omega)] at hM
    have e : r - vs.length = 0 := by
      have := (List.getElem?_eq_some_iff.1 hu).1
      simp at this
      omega
    rw [e] at hu
    rw [← h.len, e] at hM
    simp at hu hM
    rw [← hu, ← hM]
    exact hv

/-- One list's packets turn. -/
theorem Fam.set {W W' : World} {base : Nat} {vs : List Value} {Ls : List (List El)} (h : Fam W base vs Ls) (ha : Apart vs) {j : Nat} {v : Value} (hj : vs[j]? = some v) (hk : Kept (fun i => v.ownBlock = some i) W W') {L' : List El} (hown : OwnB W' base v L') : Fam W' base vs (Ls.set j L') := by
  refine ⟨by rw [List.length_set]; exact h.len, fun r u M hu hM => ?_⟩
  by_cases hr : r = j
  · subst hr
    have hlt := (List.getElem?_eq_some_iff.1 hj).1
    rw [List.getElem?_set_self (by rw [← h.len]; exact hlt)] at hM
    cases hM
    rw [hj] at hu
    cases hu
    exact hown
  · rw [List.getElem?_set_ne (fun e => hr e.symm)] at hM
    exact own_kept (h.own r u M hu hM) hk (fun i hi hS => hr (ha r j u v hu hj ⟨i, hi, hS⟩))

/-- A list that is a part of another one's row holds its first packets. -/
theorem own_part {W : World} {base : Nat} {g n m cap : Nat} {L G : List El} (hL : OwnB W base (.slice (some ⟨g, 0, none⟩) n cap) L) (hG : OwnB W base (.slice (some ⟨g, 0, none⟩) m cap) G) : L.length = n ∧ G.length = m ∧ ∃ cur : Array Value, cur.toList.take (n * 1) = rowB L ∧ cur.toList.take (m * 1) = rowB G := by
  rcases hL.2 with ⟨h', _⟩ | ⟨g', cap', cur, h', hb, hg, h1, h2, h3, h4⟩
  · simp at h'
  · rcases hG.2 with ⟨k', _⟩ | ⟨g2, cap2, cur2, k', kb, kg, k1, k2, k3, k4⟩
    · simp at k'
    · simp only [Value.slice.injEq, Option.some.injEq, Addr.mk.injEq, and_true] at h' k'
      obtain ⟨rfl, rfl, rfl⟩ := h'
      obtain ⟨rfl, rfl, rfl⟩ := k'
      rw [hg] at kg
      simp at kg
      subst kg
      exact ⟨rfl, rfl, cur, h4, k4⟩

/-- What is under way while lists grow. -/
structure GrowSt (W : World) (base : Nat) (vs : List Value) (Ls : List (List El)) (gs : List Value) (Gs : List (List El)) : Prop where
  fam : Fam W base vs Ls
  grown : Fam W base gs Gs
  apart : Apart vs
  gapart : Apart gs
  cross : ∀ (r q : Nat) (u v : Value), gs[r]? = some u → vs[q]? = some v → Shares u v → r = q

/-- The list that grows: v, which was vs[j]. -/
structure Cur (W : World) (base : Nat) (vs gs : List Value) (j : Nat) (v : Value) (G : List El) : Prop where
  own : OwnB W base v G
  links : ∀ (r : Nat) (u : Value), vs[r]? = some u → Shares u v → r = j ∧ ∃ g n cap, n ≤ G.length ∧ u = .slice (some ⟨g, 0, none⟩) n cap ∧ v = .slice (some ⟨g, 0, none⟩) G.length cap
  far : ∀ (r : Nat) (u : Value), gs[r]? = some u → ¬ Shares u v

theorem cur_start {W : World} {base : Nat} {vs gs : List Value} {Ls Gs : List (List El)} (h : GrowSt W base vs Ls gs Gs) {v : Value} {L : List El} (hv : vs[gs.length]? = some v) (hL : Ls[gs.length]? = some L) : Cur W base vs gs gs.length v L := by
  refine ⟨h.fam.own _ v L hv hL, fun r u hu hs => ?_, fun r u hu hs => ?_⟩
  · have e := h.apart r gs.length u v hu hv hs
    subst e
    rw [hv] at hu
    cases hu
    refine ⟨rfl, ?_⟩
    obtain ⟨g, hg, _⟩ := hs
    have ho := h.fam.own _ v L hv hL
    rcases ho.2 with ⟨rfl, _⟩ | ⟨g', cap, cur, rfl, _⟩
    · cases hg
    · exact ⟨g', _, cap, Nat.le_refl _, rfl, rfl⟩
  · have e := h.cross r gs.length u v hu hv hs
    have := (List.getElem?_eq_some_iff.1 hu).1
    omega

/-- It grows. -/
theorem cur_step {W W' : World} {base : Nat} {vs gs : List Value} {Ls Gs : List (List El)} {j m : Nat} {v v' : Value} {G N : List El} (h : GrowSt W base vs Ls gs Gs) (hc : Cur W base vs gs j v G) (hm : N.length = m) (hg : Grew W W' v v' G.length m) (ho : OwnB W' base v' (G ++ N)) :
    GrowSt W' base vs Ls gs Gs ∧ Cur W' base vs gs j v' (G ++ N) := by
  rcases hg with ⟨g, cap, rfl, rfl, hk⟩ | ⟨cap', rfl, hk, hlt⟩
  · have hfar : ∀ (r : Nat) (u : Value) (i : Nat), gs[r]? = some u → u.ownBlock = some i → ¬ i = g := fun r u i hu hi e => by
      subst e
      exact hc.far r u hu ⟨i, hi, rfl⟩
    refine ⟨⟨⟨h.fam.len, fun r u L hu hL => ?_⟩, h.grown.kept hk hfar, h.apart, h.gapart, h.cross⟩, ho, fun r u hu hs => ?_, fun r u hu hs => ?_⟩
    · have hou := h.fam.own r u L hu hL
      by_cases hsh : Shares u (.slice (some ⟨g, 0, none⟩) G.length cap)
      · obtain ⟨_, g', n, cap', hn, rfl, e⟩ := hc.links r u hu hsh
        simp only [Value.slice.injEq, Option.some.injEq, Addr.mk.injEq, and_true, true_and] at e
        obtain ⟨rfl, rfl⟩ := e
        obtain ⟨q1, q2, cur, q3, q4⟩ := own_part hou hc.own
        have ho' : W'.ownsRow base 3 1 (.slice (some ⟨g, 0, none⟩) (G.length + m) cap) (G.length + m) (rowB (G ++ N)) := by
          have : (G ++ N).length = G.length + m := by rw [List.length_append, hm]
          rw [← this]
          rw [← this] at ho
          exact ho
        have hp := owned_first (m := n) ho' (by omega)
        have e2 : (rowB (G ++ N)).take (n * 1) = rowB L := by
          rw [rowB_append, List.take_append_of_le_length (by rw [rowB_length]; omega), ← q4, List.take_take, Nat.min_eq_left (by omega), q3]
        rw [e2] at hp
        unfold OwnB
        rw [q1]
        exact hp
      · refine own_kept hou hk (fun i hi e => hsh ?_)
        subst e
        exact ⟨i, hi, rfl⟩
    · obtain ⟨g0, h1, h2⟩ := hs
      obtain ⟨hr, g', n, cap', hn, rfl, e⟩ := hc.links r u hu ⟨g0, h1, h2⟩
      simp only [Value.slice.injEq, Option.some.injEq, Addr.mk.injEq, and_true, true_and] at e
      obtain ⟨rfl, rfl⟩ := e
      exact ⟨hr, g, n, cap, by rw [List.length_append]; omega, rfl, by rw [List.length_append, hm]⟩
    · obtain ⟨g0, h1, h2⟩ := hs
      exact hc.far r u hu ⟨g0, h1, h2⟩
  · have hnew : ∀ u, (∃ L, OwnB W base u L) → ¬ Shares u (.slice (some ⟨W.heap.size, 0, none⟩) (G.length + m) cap') := fun u ⟨L, hL⟩ ⟨g, h1, h2⟩ => by
      have := (own_lt hL h1).2
      have e : W.heap.size = g := by simpa [Value.ownBlock] using h2
      omega
    refine ⟨⟨h.fam.kept0 hk, h.grown.kept0 hk, h.apart, h.gapart, h.cross⟩, ho, fun r u hu hs => ?_, fun r u hu hs => ?_⟩
    · obtain ⟨L, _, hL⟩ := h.fam.at hu
      exact absurd hs (hnew u ⟨L, hL⟩)
    · obtain ⟨L, _, hL⟩ := h.grown.at hu
      exact absurd hs (hnew u ⟨L, hL⟩)

/-- Nothing of these turns. -/
theorem GrowSt.kept0 {W W' : World} {base : Nat} {vs gs : List Value} {Ls Gs : List (List El)} (h : GrowSt W base vs Ls gs Gs) (hk : Kept (fun _ => False) W W') : GrowSt W' base vs Ls gs Gs := ⟨h.fam.kept0 hk, h.grown.kept0 hk, h.apart, h.gapart, h.cross⟩
theorem Cur.kept0 {W W' : World} {base : Nat} {vs gs : List Value} {j : Nat} {v : Value} {G : List El} (h : Cur W base vs gs j v G) (hk : Kept (fun _ => False) W W') : Cur W' base vs gs j v G := ⟨h.own.kept hk, h.links, h.far⟩
/-- A row of lists that turns is none of theirs. -/
theorem GrowSt.row {W W' : World} {base base' n : Nat} {vs gs : List Value} {Ls Gs : List (List El)} {x : Value} {xs : List Value} (h : GrowSt W base vs Ls gs Gs) (hx : W.ownsRow base' 59 1 x n xs) (hk : Kept (fun i => x.ownBlock = some i) W W') : GrowSt W' base vs Ls gs Gs :=
  ⟨h.fam.kept hk (fun r v i hv hi hS => by
    obtain ⟨L, _, hL⟩ := h.fam.at hv
    exact owned_unlike hL hx (by decide) i hi hS), h.grown.kept hk (fun r v i hv hi hS => by
    obtain ⟨L, _, hL⟩ := h.grown.at hv
    exact owned_unlike hL hx (by decide) i hi hS), h.apart, h.gapart, h.cross⟩

/-- It is grown. -/
theorem grow_end {W : World} {base : Nat} {vs gs : List Value} {Ls Gs : List (List El)} {v : Value} {G : List El} (h : GrowSt W base vs Ls gs Gs) (hc : Cur W base vs gs gs.length v G) : GrowSt W base vs Ls (gs ++ [v]) (Gs ++ [G]) := by
  refine ⟨h.fam, h.grown.snoc hc.own, h.apart, h.gapart.snoc hc.far, fun r q u x hu hx hs => ?_⟩
  by_cases hr : r < gs.length
  · rw [List.getElem?_append_left hr] at hu
    exact h.cross r q u x hu hx hs
  · rw [List.getElem?_append_right (by omega)] at hu
    have := (List.getElem?_eq_some_iff.1 hu).1
    simp at this
    have e : r - gs.length = 0 := by omega
    rw [e] at hu
    simp at hu
    subst hu
    obtain ⟨g, g1, g2⟩ := hs
    have := (hc.links q x hx ⟨g, g2, g1⟩).1
    omega
end Go.Proofs.YtkneogfeokckjaaGreatDoor.BInts

namespace Go.Proofs.YtkneogfeokckjaaGreatDoor
open Go

section
variable {P : Program} {ops : Array Oper} {Q : Exit → Act → World → Prop} {md : Region.Mode} {S : World → Prop} {k : Nat}

/-- Whatever order is picked from here on; S holds behind every operation but number k. -/
def wpAnyB (P : Program) (md : Region.Mode) (ops : Array Oper) (Q : Exit → Act → World → Prop) (S : World → Prop) (k : Nat) : Nat → Array Bool → Act → World → Prop
  | 0, listed, a, w => Region.ready md ops listed = [] ∧ Q .normal a w
  | fuel + 1, listed, a, w =>
    (Region.ready md ops listed = [] → Q .normal a w) ∧
    ∀ i ∈ Region.ready md ops listed, wpOp P ops Q i (fun a' w' => (i ≠ k → S w') ∧ wpAnyB P md ops Q S k fuel (listed.setIfInBounds i true) a' w') a w

theorem wpAny_of_but : ∀ (fuel : Nat) (listed : Array Bool) (a : Act) (w : World), wpAnyB P md ops Q S k fuel listed a w → wpAny P md ops Q fuel listed a w
  | 0, _, _, _, h => h
  | fuel + 1, _, _, _, h => ⟨h.1, fun i hi => wpOp_mono (fun a' w' h' => wpAny_of_but fuel _ a' w' h'.2) (h.2 i hi)⟩

/-- What has come up came up behind all that it waits for. -/
def Closed (md : Region.Mode) (ops : Array Oper) (listed : Array Bool) : Prop :=
  ∀ m o, ops[m]? = some o → listed.getD m false = true → ∀ e ∈ o.after, Region.binds md e = true → listed.getD e.on false = true

def closedB (md : Region.Mode) (ops : Array Oper) (listed : Array Bool) : Bool :=
  (List.range ops.size).all fun m => !listed.getD m false || ((ops[m]?).map (·.after.all fun e => !Region.binds md e || listed.getD e.on false)).getD false

theorem closed_of {listed : Array Bool} (h : closedB md ops listed = true) : Closed md ops listed := by
  intro m o ho hm e he hb
  have hlt : m < ops.size := (Array.getElem?_eq_some_iff.1 ho).1
  have h1 := List.all_eq_true.1 h m (List.mem_range.2 hlt)
  rw [hm, ho] at h1
  simp only [Bool.not_true, Bool.false_or, Option.map_some, Option.getD_some, Array.all_eq_true_iff_forall_mem] at h1
  have h2 := h1 e he
  rw [hb] at h2
  simpa using h2

theorem Closed.set {listed : Array Bool} (h : Closed md ops listed) {j : Nat} (hj : j ∈ Region.ready md ops listed) : Closed md ops (listed.setIfInBounds j true) := by
  intro m o ho hm e he hb
  obtain ⟨_, oj, hoj, hall⟩ := mem_ready.1 hj
  by_cases hjm : j = m
  · subst hjm
    rw [hoj] at ho
    cases ho
    exact getD_set_true (hall e he hb)
  · rw [getD_set_ne false hjm] at hm
    exact getD_set_true (h m o ho hm e he hb)

/-- Number m waits, at once or through others, for number i. -/
def waitsB (md : Region.Mode) (ops : Array Oper) : Nat → Nat → Nat → Bool
  | 0, _, _ => false
  | f + 1, m, i => ((ops[m]?).map (·.after.any fun e => Region.binds md e && (e.on == i || waitsB md ops f e.on i))).getD false

theorem waits_step {f m i : Nat} (h : waitsB md ops (f + 1) m i = true) : ∃ o, ops[m]? = some o ∧ ∃ e ∈ o.after, Region.binds md e = true ∧ (e.on = i ∨ waitsB md ops f e.on i = true) := by
  unfold waitsB at h
  cases ho : ops[m]? with
  | none => rw [ho] at h; cases h
  | some o =>
    rw [ho] at h
    simp only [Option.map_some, Option.getD_some] at h
    rw [← Array.any_toList, List.any_eq_true] at h
    obtain ⟨e, he, h2⟩ := h
    rw [Bool.and_eq_true, Bool.or_eq_true] at h2
    exact ⟨o, rfl, e, Array.mem_toList_iff.1 he, h2.1, h2.2.imp (fun h => by simpa using h) id⟩

theorem waits_listed {listed : Array Bool} (hc : Closed md ops listed) {i : Nat} : ∀ f m, waitsB md ops f m i = true → listed.getD m false = true → listed.getD i false = true
  | 0, _, h, _ => by cases h
  | f + 1, m, h, hm => by
    obtain ⟨o, ho, e, he, hb, hor⟩ := waits_step h
    have h1 := hc m o ho hm e he hb
    rcases hor with hei | hw
    · rw [← hei]; exact h1
    · exact waits_listed hc f e.on hw h1

theorem waits_ready {listed : Array Bool} (hc : Closed md ops listed) {i f m : Nat} (hw : waitsB md ops f m i = true) (hm : m ∈ Region.ready md ops listed) : listed.getD i false = true := by
  cases f with
  | zero => cases hw
  | succ f =>
    obtain ⟨o, ho, e, he, hb, hor⟩ := waits_step hw
    obtain ⟨_, o', ho', hall⟩ := mem_ready.1 hm
    rw [ho] at ho'
    cases ho'
    have h1 := hall e he hb
    rcases hor with hei | hw
    · rw [← hei]; exact h1
    · exact waits_listed hc f e.on hw h1

theorem wpAnyB_first {i : Nat} {oi : Oper} {v : Value} {f : Nat} (hi : ops[i]? = some oi) (hsel : ∀ (j : Nat) (o : Oper) cs b, ops[j]? = some o → o.op ≠ .select cs b)
    (hQ : ∀ c a w, Q (.panic c) (a.put oi.dst v) w → Q (.panic c) a w) (hwk : waitsB md ops f k i = true) :
    ∀ (fuel : Nat) (listed : Array Bool) (a : Act) (w : World), Closed md ops listed →
      (∀ j oj, ops[j]? = some oj → j ≠ i → listed.getD j true = false → (∀ e ∈ oj.after, Region.binds md e = true → e.on ≠ i) → oi.apart ops oj = true) →
      i ∈ Region.ready md ops listed → YieldsIf P ops S oi v a → S w →
      wpAnyB P md ops Q S k fuel (listed.setIfInBounds i true) (a.put oi.dst v) w → wpAnyB P md ops Q S k (fuel + 1) listed a w := by
  intro fuel
  induction fuel with
  | zero =>
    intro listed a w _ _ hr hy hS H
    refine ⟨fun h => (by rw [h] at hr; cases hr), fun j hj => ?_⟩
    by_cases hji : j = i
    · subst hji; exact hy.wpOp hi hS ⟨fun _ => hS, H⟩
    · have := ready_mono hj hji
      rw [H.1] at this
      cases this
  | succ fuel ih =>
    intro listed a w hc hfree hr hy hS H
    refine ⟨fun h => (by rw [h] at hr; cases hr), fun j hj => ?_⟩
    by_cases hji : j = i
    · subst hji; exact hy.wpOp hi hS ⟨fun _ => hS, H⟩
    · have hjk : j ≠ k := fun e => by
        subst e
        have h1 := waits_ready hc hwk hj
        have h0 := (mem_ready.1 hr).1
        rcases Nat.lt_or_ge i listed.size with h' | h'
        · simp [h'] at h0 h1; rw [h0] at h1; cases h1
        · simp [Array.getElem?_eq_none h'] at h1
      have h1 := H.2 j (ready_mono hj hji)
      obtain ⟨hjun, oj, hoj, hall⟩ := mem_ready.1 hj
      have hnot : ∀ e ∈ oj.after, Region.binds md e = true → e.on ≠ i := fun e he hb heq => by
        have h1 := hall e he hb
        have h0 := (mem_ready.1 hr).1
        rw [heq] at h1
        rcases Nat.lt_or_ge i listed.size with h' | h'
        · simp [h'] at h0 h1; rw [h0] at h1; cases h1
        · simp [Array.getElem?_eq_none h'] at h1
      have h2 := wpOp_putIf hoj (hfree j oj hoj hji hjun hnot) (fun cs b => hsel i oi cs b hi) (fun cs b => hsel j oj cs b hoj) hQ hy h1
      have hfree' : ∀ k ok, ops[k]? = some ok → k ≠ i → (listed.setIfInBounds j true).getD k true = false →
          (∀ e ∈ ok.after, Region.binds md e = true → e.on ≠ i) → oi.apart ops ok = true := fun k ok hk hki hun hno => by
        refine hfree k ok hk hki ?_ hno
        by_cases hjk : j = k
        · subst hjk; exact hjun
        · rw [getD_set_ne true hjk] at hun; exact hun
      refine wpOp_mono (fun a' w' h3 => ⟨h3.2.1, ih (listed.setIfInBounds j true) a' w' (hc.set hj) hfree' (ready_mono hr (Ne.symm hji)) h3.1 (h3.2.1 hjk) ?_⟩) h2
      rw [Array.setIfInBounds_comm _ _ hji]
      exact h3.2.2

/-- Take number i first: k waits for it. -/
theorem wpAnyB_take {i : Nat} {oi : Oper} {v : Value} {fuel : Nat} {listed : Array Bool} {a : Act} {w : World} (hi : ops[i]? = some oi)
    (hwk : waitsB md ops ops.size k i = true) (hc : closedB md ops listed = true)
    (hs : Region.noSelect ops = true) (hf : Region.free md ops listed i = true) (hr : (Region.ready md ops listed).contains i = true)
    (hQ : ∀ c a w, Q (.panic c) (a.put oi.dst v) w → Q (.panic c) a w) (hy : YieldsIf P ops S oi v a) (hS : S w)
    (h : wpAnyB P md ops Q S k fuel (listed.setIfInBounds i true) (a.put oi.dst v) w) : wpAnyB P md ops Q S k (fuel + 1) listed a w :=
  wpAnyB_first hi (Region.noSelect_spec hs) hQ hwk fuel listed a w (closed_of hc) (Region.free_spec hi hf) (by simpa using hr) hy hS h

def AllReadyB (P : Program) (md : Region.Mode) (ops : Array Oper) (Q : Exit → Act → World → Prop) (S : World → Prop) (k : Nat) (fuel : Nat) (listed : Array Bool) (a : Act) (w : World) (rs : List Nat) : Prop :=
  ∀ i ∈ rs, wpOp P ops Q i (fun a' w' => (i ≠ k → S w') ∧ wpAnyB P md ops Q S k fuel (listed.setIfInBounds i true) a' w') a w

theorem AllReadyB.nil {fuel : Nat} {listed : Array Bool} {a : Act} {w : World} : AllReadyB P md ops Q S k fuel listed a w [] := fun _ h => by cases h

theorem AllReadyB.cons {fuel : Nat} {listed : Array Bool} {a : Act} {w : World} {i : Nat} {o : Oper} {rs : List Nat} (ho : ops[i]? = some o)
    (h : ∀ K' : Act → World → Prop, Shut (∀ a w, S w → (S w → wpAnyB P md ops Q S k fuel (listed.setIfInBounds i true) a w) → K' a w) → if Region.wanted o (yielded ops a.tmps) = true then Oper.wp P o a w K' Q else K' (a.put o.dst undef) w)
    (hs : AllReadyB P md ops Q S k fuel listed a w rs) : AllReadyB P md ops Q S k fuel listed a w (i :: rs) := fun j hj => by
  rcases List.mem_cons.1 hj with rfl | hj
  · exact wpOp_step ho (fun K' hK => h K' (fun a w hS hW => hK a w ⟨fun _ => hS, hW hS⟩))
  · exact hs j hj

/-- Number k itself: nothing is to be shown of the world behind it. -/
theorem AllReadyB.end {fuel : Nat} {listed : Array Bool} {a : Act} {w : World} {o : Oper} (ho : ops[k]? = some o)
    (h : ∀ K' : Act → World → Prop, Shut (∀ a w, True → (True → wpAnyB P md ops Q S k fuel (listed.setIfInBounds k true) a w) → K' a w) → if Region.wanted o (yielded ops a.tmps) = true then Oper.wp P o a w K' Q else K' (a.put o.dst undef) w) :
    AllReadyB P md ops Q S k fuel listed a w [k] := fun j hj => by
  rcases List.mem_cons.1 hj with rfl | hj
  · exact wpOp_step ho (fun K' hK => h K' (fun a w _ hW => hK a w ⟨fun hne => absurd rfl hne, hW trivial⟩))
  · cases hj

theorem wpAnyB_ready {rs : List Nat} {fuel : Nat} {listed : Array Bool} {a : Act} {w : World} (hr : Region.ready md ops listed = rs) (hne : rs ≠ [])
    (h : AllReadyB P md ops Q S k fuel listed a w rs) : wpAnyB P md ops Q S k (fuel + 1) listed a w :=
  ⟨fun h0 => absurd (hr ▸ h0) hne, hr ▸ h⟩

theorem wpAnyB_done {listed : Array Bool} {a : Act} {w : World} (hr : Region.ready md ops listed = []) (h : Q .normal a w) :
    ∀ fuel, wpAnyB P md ops Q S k fuel listed a w
  | 0 => ⟨hr, h⟩
  | _ + 1 => ⟨fun _ => h, by rw [hr]; simp⟩

end

/-- The beginning. -/
theorem wp_region_but {P : Program} {ops : Array Oper} {Q : Exit → Act → World → Prop} {S : World → Prop} (k : Nat) {id : Nat} {a : Act} {w : World} (hm : P.follows .mixedOrders = true) (hS : S w.drew)
    (h : S w.drew → wpAnyB P .any ops Q S k ops.size (Array.replicate ops.size false) a w.drew) : (Code.region id ops true).wp P Q a w :=
  wp_region_any hm (wpAny_of_but _ _ _ _ (h hS))

end Go.Proofs.YtkneogfeokckjaaGreatDoor

namespace Go.Proofs.YtkneogfeokckjaaGreatDoor.BInts
open Go.RowKit

def tsK (t : TypeId) : Prop := t = 3 ∨ t = 59

def bookCells (X : Nat → Value) (v6 v7 : Value) : Array Value := #[X 0, X 1, v6, v7, X 4, X 5, X 6, X 7, X 8, X 9, X 10, X 11, X 12, X 13, X 14, X 15, X 16, X 17, X 18, X 19, X 20, X 21, X 22, X 23, X 24, X 25, X 26, X 27, X 28, X 29, X 30, X 31, X 32, X 33, X 34, X 35]

/-- A book whose lists of elements, in the row v6, are vs. -/
structure BookP (X : Nat → Value) (W : World) (bk base : Nat) (v6 v7 : Value) (vs : List Value) (Ls : List (List El)) : Prop where
  blk : W.heap[bk]? = some (.cells (bookCells X v6 v7) 49 (0, 0))
  r6 : RowS W base v6 vs
  f6 : Fam W base vs Ls
  a6 : Apart vs
  lo : base ≤ bk

/-- With copies us, in the row v7. -/
structure BookT (X : Nat → Value) (W : World) (bk base : Nat) (v6 v7 : Value) (vs us : List Value) (Ls : List (List El)) : Prop where
  p : BookP X W bk base v6 v7 vs Ls
  r7 : RowS W base v7 us
  f7 : Fam W base us Ls
  ne : ¬ Shares v6 v7

section
variable {X : Nat → Value} {W W' : World} {bk base : Nat} {v6 v7 : Value} {vs us : List Value} {Ls : List (List El)}

theorem BookP.cell (h : BookP X W bk base v6 v7 vs Ls) (i : Nat) : W.cell? ⟨bk, i, none⟩ = (bookCells X v6 v7)[i]? := by simp [World.cell?, h.blk]
theorem BookP.frozen (h : BookP X W bk base v6 v7 vs Ls) (i : Nat) : W.frozen? ⟨bk, i, none⟩ = false := frozen_of_row _ bk i _ _ h.blk
theorem BookP.lt (h : BookP X W bk base v6 v7 vs Ls) : bk < W.heap.size := (Array.getElem?_eq_some_iff.1 h.blk).1
theorem BookP.c6 (h : BookP X W bk base v6 v7 vs Ls) : W.cell? ⟨bk, 2, none⟩ = some v6 := (h.cell 2).trans rfl
theorem BookP.c7 (h : BookP X W bk base v6 v7 vs Ls) : W.cell? ⟨bk, 3, none⟩ = some v7 := (h.cell 3).trans rfl

theorem rowS_kept {S : Nat → Prop} {v : Value} {xs : List Value} (h : RowS W base v xs) (hk : Kept S W W') (hS : ∀ i, v.ownBlock = some i → ¬ S i) : RowS W' base v xs := owned_kept h hk hS

theorem BookP.kept0 (h : BookP X W bk base v6 v7 vs Ls) (hk : Kept (fun _ => False) W W') : BookP X W' bk base v6 v7 vs Ls :=
  ⟨(hk.block bk h.lt id).trans h.blk, rowS_kept h.r6 hk (fun _ _ => id), h.f6.kept0 hk, h.a6, h.lo⟩
theorem BookT.kept0 (h : BookT X W bk base v6 v7 vs us Ls) (hk : Kept (fun _ => False) W W') : BookT X W' bk base v6 v7 vs us Ls :=
  ⟨h.p.kept0 hk, rowS_kept h.r7 hk (fun _ _ => id), h.f7.kept0 hk, h.ne⟩

/-- What turns elsewhere leaves the book's lists of this kind. -/
theorem fam_other {S : Nat → Prop} {xs : List Value} {Ms : List (List El)} (h : Fam W base xs Ms) (hk : Kept S W W') (hS : ∀ i, S i → ∀ cur t, W.heap[i]? = some (.cells cur t (0, 0)) → ¬ tsK t) : Fam W' base xs Ms :=
  h.kept hk (fun r v i hv hi hs => by
    obtain ⟨L, _, hL⟩ := h.at hv
    rcases hL.2 with ⟨rfl, _⟩ | ⟨g, cap, cur, rfl, _, hg, _⟩
    · cases hi
    · have : g = i := by simpa [Value.ownBlock] using hi
      subst this
      exact hS g hs _ _ hg (Or.inl rfl))
theorem row_other {S : Nat → Prop} {v : Value} {xs : List Value} (h : RowS W base v xs) (hk : Kept S W W') (hS : ∀ i, S i → ∀ cur t, W.heap[i]? = some (.cells cur t (0, 0)) → ¬ tsK t) : RowS W' base v xs :=
  rowS_kept h hk (fun i hi hs => by
    rcases h.2 with ⟨rfl, _⟩ | ⟨g, cap, cur, rfl, _, hg, _⟩
    · cases hi
    · have : g = i := by simpa [Value.ownBlock] using hi
      subst this
      exact hS g hs _ _ hg (Or.inr rfl))
theorem BookP.other {Y : Nat → Value} {S : Nat → Prop} (h : BookP X W bk base v6 v7 vs Ls) (hk : Kept S W W') (hS : ∀ i, S i → ∀ cur t, W.heap[i]? = some (.cells cur t (0, 0)) → ¬ tsK t) (hb : W'.heap[bk]? = some (.cells (bookCells Y v6 v7) 49 (0, 0))) : BookP Y W' bk base v6 v7 vs Ls :=
  ⟨hb, row_other h.r6 hk hS, fam_other h.f6 hk hS, h.a6, h.lo⟩
theorem BookT.other {Y : Nat → Value} {S : Nat → Prop} (h : BookT X W bk base v6 v7 vs us Ls) (hk : Kept S W W') (hS : ∀ i, S i → ∀ cur t, W.heap[i]? = some (.cells cur t (0, 0)) → ¬ tsK t) (hb : W'.heap[bk]? = some (.cells (bookCells Y v6 v7) 49 (0, 0))) : BookT Y W' bk base v6 v7 vs us Ls :=
  ⟨h.p.other hk hS hb, row_other h.r7 hk hS, fam_other h.f7 hk hS, h.ne⟩

theorem rowS_slice {v : Value} {xs : List Value} (h : RowS W base v xs) : ∃ p cap, v = .slice p xs.length cap := slice_of h
theorem rowS_at {p : Option Addr} {n cap : Nat} {xs : List Value} (h : RowS W base (.slice p n cap) xs) {j : Nat} {x : Value} (hj : xs[j]? = some x) : ∃ g, p = some ⟨g, 0, none⟩ ∧ xs.length ≤ cap ∧ W.cell? ⟨g, j, none⟩ = some x := by
  have hlt := (List.getElem?_eq_some_iff.1 hj).1
  rcases h.2 with ⟨_, h0⟩ | ⟨g, cap', cur, h', hb, hg, h1, h2, h3, h4⟩
  · omega
  · simp only [Value.slice.injEq] at h'
    obtain ⟨rfl, rfl, rfl⟩ := h'
    refine ⟨g, rfl, h1, ?_⟩
    rw [← hj, ← h4, List.getElem?_take_of_lt (by omega)]
    simp [World.cell?, hg]

set_option maxHeartbeats 2000000 in
set_option maxRecDepth 100000 in
theorem still_Ints (h : BookT X W bk base v6 v7 vs us Ls) (hsm : ∀ L ∈ Ls, L.length ≤ 1000) (h250 : vs.length ≤ 250) :
    Calls Tryz.prog 56 #[.pointer (some ⟨bk, 0, none⟩)] W fun e w' => e = .returned (.bool true) ∧ Kept (fun _ => False) W w' := by
  obtain ⟨p, cap, rfl⟩ := rowS_slice h.p.r6
  obtain ⟨q, cbp, rfl⟩ := rowS_slice h.r7
  have HK : Hid (∀ W', Kept (fun _ => False) W W' → BookT X W' bk base (.slice p vs.length cap) (.slice q us.length cbp) vs us Ls) := fun W' hk => h.kept0 hk
  have hul : us.length = vs.length := h.f7.len.trans h.p.f6.len.symm
  have HL := hid h.p.f6.len
  have HUL := hid hul
  have Hsm := hid hsm
  have c6 := h.p.c6
  have c7 := h.p.c7
  clear h hul hsm
  go_enter Tryz.func56, Tryz.ntmps56
  go_wp2
  go_loopw [3] (fun vi wr => ∃ j : Nat, j ≤ vs.length ∧ vi = .int .i64 (j : Int) ∧ Hid (Kept (fun _ => False) W wr)) (fun vi _ => vs.length - (intOf vi).toNat)
  case atStart => exact ⟨0, Nat.zero_le _, rfl, Kept.refl _ _⟩
  case round =>
    obtain ⟨j, hj, rfl, HI⟩ := hrel
    have hB := HK.out wr HI.out
    have d6 := hB.p.c6
    have d7 := hB.p.c7
    clear c6 c7
    by_cases hlt : j < vs.length
    · have hltz : (j : Int) < (vs.length : Int) := by omega
      have hltu : (j : Int) < (us.length : Int) := by have := HUL.out; omega
      obtain ⟨x, hx⟩ : ∃ x, vs[j]? = some x := ⟨vs[j], by simp [hlt]⟩
      obtain ⟨y, hy⟩ : ∃ y, us[j]? = some y := ⟨us[j]'(by have := HUL.out; omega), by simp⟩
      obtain ⟨L, hL⟩ : ∃ L, Ls[j]? = some L := ⟨Ls[j]'(by have := HL.out; omega), by simp⟩
      obtain ⟨g6, rfl, hc6, e6⟩ := rowS_at hB.p.r6 hx
      obtain ⟨g7, rfl, hc7, e7⟩ := rowS_at hB.r7 hy
      have HS : Hid (∀ W', Kept (fun _ => False) W W' → Calls Tryz.prog 18 #[x, y] W' fun e w' => e = .returned (.bool true) ∧ Kept (fun _ => False) W w') := fun W' hk => by
        have hb := HK.out W' hk
        have := sameInts_eq x y L W' (hb.p.f6.own j x L hx hL).tags (hb.f7.own j y L hy hL).tags (by have := Hsm.out L (List.mem_of_getElem? hL); omega)
        exact this.mono fun _ _ ⟨h1, h2⟩ => ⟨h1, hk.trans h2⟩
      have HR : Hid (∀ W', Kept (fun _ => False) W W' → W'.cell? ⟨bk, 2, none⟩ = some (.slice (some ⟨g6, 0, none⟩) vs.length cap) ∧ W'.cell? ⟨bk, 3, none⟩ = some (.slice (some ⟨g7, 0, none⟩) us.length cbp) ∧ W'.cell? ⟨g6, j, none⟩ = some x ∧ W'.cell? ⟨g7, j, none⟩ = some y) := fun W' hk => by
        have hb := HK.out W' hk
        obtain ⟨g, e, _, q1⟩ := rowS_at hb.p.r6 hx
        obtain ⟨g', e', _, q2⟩ := rowS_at hb.r7 hy
        simp at e e'
        subst e e'
        exact ⟨hb.p.c6, hb.p.c7, q1, q2⟩
      have hkr := HI.out
      clear hB hx hy hL HI
      go_wp2
      go_region_held3 (fun W' => W'.cell? ⟨bk, 2, none⟩ = some (.slice (some ⟨g6, 0, none⟩) vs.length cap) ∧ W'.cell? ⟨bk, 3, none⟩ = some (.slice (some ⟨g7, 0, none⟩) us.length cbp) ∧ W'.cell? ⟨g6, j, none⟩ = some x ∧ W'.cell? ⟨g7, j, none⟩ = some y) (first | assumption | exact HR.out _ (by assumption) | go_keep) (first | (go_at_call 18; refine (HS.out _ hkr.drew).mono ?_; rintro e1 w1 ⟨rfl, hk1⟩))
      all_goals
        go_wp2
        exact ⟨⟨j + 1, hlt, by go_num, hk1⟩, by simp [intOf]; omega⟩
    · obtain rfl : j = vs.length := by omega
      have hltz : ¬ (vs.length : Int) < (vs.length : Int) := by omega
      go_wp2
      go_ret
      exact ⟨rfl, HI.out⟩

theorem BookP.set (h : BookP X W bk base v6 v7 vs Ls) {j : Nat} {x : Value} (hj : vs[j]? = some x) (hk : Kept (fun i => x.ownBlock = some i) W W') {L' : List El} (hown : OwnB W' base x L') : BookP X W' bk base v6 v7 vs (Ls.set j L') := by
  obtain ⟨L, hL, hx⟩ := h.f6.at hj
  refine ⟨(hk.block bk h.lt (fun e => ?_)).trans h.blk, rowS_kept h.r6 hk (fun i hi e => ?_), h.f6.set h.a6 hj hk hown, h.a6, h.lo⟩
  · rcases hx.2 with ⟨rfl, _⟩ | ⟨g, cap, cur, rfl, hb, hg, _⟩
    · cases e
    · have : g = bk := by simpa [Value.ownBlock] using e
      subst this
      rw [h.blk] at hg
      simp at hg
  · exact owned_unlike h.r6 hx (by decide) i hi e

/-- The lists as they are marked, the first j of them. -/
def putL (Ls : List (List El)) (j : Nat) : List (List El) := Ls.mapIdx fun i L => if i < j then marksT i 0 L.length else L
theorem putL_zero (Ls : List (List El)) : putL Ls 0 = Ls := by
  apply List.ext_getElem?
  intro i
  simp [putL]
theorem putL_at {j : Nat} {L : List El} (h : Ls[j]? = some L) : (putL Ls j)[j]? = some L := by simp [putL, h]
theorem putL_next {j : Nat} {L : List El} (h : Ls[j]? = some L) : putL Ls (j + 1) = (putL Ls j).set j (marksT j 0 L.length) := by
  have hlt := (List.getElem?_eq_some_iff.1 h).1
  apply List.ext_getElem?
  intro i
  by_cases hi : i = j
  · subst hi
    rw [List.getElem?_set_self (by simp [putL]; exact hlt)]
    simp [putL, h]
  · rw [List.getElem?_set_ne (fun e => hi e.symm)]
    simp only [putL, List.getElem?_mapIdx]
    congr 1
    funext L
    by_cases h1 : i < j
    · rw [if_pos h1, if_pos (by omega)]
    · rw [if_neg h1, if_neg (by omega)]
theorem mark_step {j k : Nat} {L : List El} (h : k < L.length) : (marksT j 0 k ++ L.drop k).set k (markT j k) = marksT j 0 (k + 1) ++ L.drop (k + 1) := by
  rw [List.drop_eq_getElem_cons h, marksT_snoc, Nat.zero_add, List.append_assoc, List.set_append_right _ _ (by rw [marksT_length]; exact Nat.le_refl _), marksT_length, Nat.sub_self]
  rfl
theorem mark_get {j k : Nat} {L : List El} (h : k < L.length) : (marksT j 0 k ++ L.drop k)[k]? = some L[k] := by
  rw [List.getElem?_append_right (by rw [marksT_length]; exact Nat.le_refl _), marksT_length, Nat.sub_self]
  simp [h]

/-- What the inner loop has come to. -/
structure PutIn (X : Nat → Value) (W wr : World) (bk base : Nat) (v6 v7 : Value) (vs : List Value) (M : List (List El)) (j k : Nat) (L : List El) (vm : Value) : Prop where
  bp : BookP X wr bk base v6 v7 vs (M.set j (marksT j 0 k ++ L.drop k))
  own : OwnB wr base vm (marksT j 0 L.length)
  bel : BK tsK base W wr
  sz : base ≤ wr.heap.size

theorem PutIn.step {wr : World} {M : List (List El)} {j k : Nat} {L : List El} {vm : Value} {gx cx : Nat} (h : PutIn X W wr bk base v6 v7 vs M j k L vm) (hM : j < M.length) (hk : k < L.length) (hx : vs[j]? = some (.slice (some ⟨gx, 0, none⟩) L.length cx)) (hfar : ¬ Shares (.slice (some ⟨gx, 0, none⟩) L.length cx) vm) :
    PutIn X W (wr.setCell ⟨gx, k, none⟩ (.int .i64 (markT j k))).drew bk base v6 v7 vs M j (k + 1) L vm := by
  have ho := h.bp.f6.own j _ (marksT j 0 k ++ L.drop k) hx (by rw [List.getElem?_set_self hM])
  have hlen : (marksT j 0 k ++ L.drop k).length = L.length := by rw [List.length_append, marksT_length, List.length_drop]; omega
  have ho1 := own_set ho (k := k) (by omega) (markT j k)
  rw [mark_step hk] at ho1
  have ho2 := ho1.kept ((Kept.refl (fun _ => False) _).drew)
  have hk2 : Kept (fun i => (Value.slice (some ⟨gx, 0, none⟩) L.length cx).ownBlock = some i) wr (wr.setCell ⟨gx, k, none⟩ (.int .i64 (markT j k))).drew :=
    ((Kept.refl (fun i => (Value.slice (some ⟨gx, 0, none⟩) L.length cx).ownBlock = some i) wr).setCell (p := ⟨gx, k, none⟩) (Or.inr rfl) _).drew
  refine ⟨?_, own_kept h.own hk2 (fun i hi e => hfar ⟨i, e, hi⟩), h.bel.trans (BK.own hk2 (h.bp.f6.own j _ (marksT j 0 k ++ L.drop k) hx (by rw [List.getElem?_set_self hM])) (Or.inl rfl) h.sz), Nat.le_trans h.sz hk2.size⟩
  have := h.bp.set hx hk2 ho2
  rw [List.set_set] at this
  exact this

set_option maxHeartbeats 4000000 in
set_option maxRecDepth 100000 in
theorem put_Ints (h : BookP X W bk base v6 v7 vs Ls) (hb : base ≤ W.heap.size) (hsm : ∀ L ∈ Ls, L.length ≤ 1000) (h250 : vs.length ≤ 250) :
    Calls Tryz.prog 78 #[.pointer (some ⟨bk, 0, none⟩)] W fun e w' => e = .returned (.tuple #[]) ∧ BookP X w' bk base v6 v7 vs (putL Ls vs.length) ∧ BK tsK base W w' := by
  obtain ⟨p, cap, rfl⟩ := rowS_slice h.r6
  have HL := hid h.f6.len
  have Hsm := hid hsm
  have H0 := hid h
  clear h hsm
  go_enter Tryz.func78, Tryz.ntmps78
  go_wp2
  go_loopw [2] (fun vi wr => ∃ j : Nat, j ≤ vs.length ∧ vi = .int .i64 (j : Int) ∧ Hid (BookP X wr bk base (.slice p vs.length cap) v7 vs (putL Ls j) ∧ BK tsK base W wr ∧ base ≤ wr.heap.size)) (fun vi _ => vs.length - (intOf vi).toNat)
  case atStart => exact ⟨0, Nat.zero_le _, rfl, by rw [putL_zero]; exact H0.out, BK.refl _ _ _, hb⟩
  case round =>
    obtain ⟨j, hj, rfl, HI⟩ := hrel
    have d6 := HI.out.1.c6
    clear H0
    by_cases hlt : j < vs.length
    · have hltz : (j : Int) < (vs.length : Int) := by omega
      obtain ⟨x, hx⟩ : ∃ x, vs[j]? = some x := ⟨vs[j], by simp [hlt]⟩
      obtain ⟨L, hL⟩ : ∃ L, Ls[j]? = some L := ⟨Ls[j]'(by have := HL.out; omega), by simp⟩
      obtain ⟨g6, rfl, hc6, e6⟩ := rowS_at HI.out.1.r6 hx
      have hox := HI.out.1.f6.own j x L hx (putL_at hL)
      obtain ⟨px, cx, rfl⟩ := slice_of hox
      have hLs := Hsm.out L (List.mem_of_getElem? hL)
      have HM := hid (markInts_any j 0 L.length (by omega) (by omega) (by omega))
      have hx0 := hid hx
      have hL0 := hid hL
      have HO := hid hox
      clear hx hL hox
      go_wp2_with fail
      refine (HM.out _).mono ?_
      rintro e1 w1 ⟨vm, rfl, hom, hk1⟩
      have hfar : Hid (¬ Shares (.slice px L.length cx) vm) := fun ⟨g, g1, g2⟩ => by
        have h1 := (own_lt HO.out g1).2
        have h2 := (own_lt hom g2).1
        omega
      have PI0 : Hid (PutIn X W w1 bk base (.slice (some ⟨g6, 0, none⟩) vs.length cap) v7 vs (putL Ls j) j 0 L vm) := by
        refine ⟨?_, hom.mono (Nat.le_trans HI.out.2.2 (Nat.le_refl _)), HI.out.2.1.trans (BK.none hk1 HI.out.2.2), Nat.le_trans HI.out.2.2 hk1.size⟩
        show BookP X w1 bk base _ v7 vs ((putL Ls j).set j L)
        rw [set_self (putL_at hL0.out)]
        exact HI.out.1.kept0 hk1
      have hML : Hid (j < (putL Ls j).length) := by
        show _ < _
        rw [← HI.out.1.f6.len]
        exact hlt
      obtain ⟨pm, cm, rfl⟩ := slice_of hom
      rw [marksT_length] at PI0 hfar
      rw [marksT_length]
      clear hk1 hom HI d6 e6 HO
      go_wp2
      go_loopw [4] (fun vk wr => ∃ k : Nat, k ≤ L.length ∧ vk = .int .i64 (k : Int) ∧ Hid (PutIn X W wr bk base (.slice (some ⟨g6, 0, none⟩) vs.length cap) v7 vs (putL Ls j) j k L (.slice pm L.length cm))) (fun vk _ => L.length - (intOf vk).toNat)
      case atStart => exact ⟨0, Nat.zero_le _, rfl, PI0.out⟩
      case round =>
        obtain ⟨k, hk, rfl, HI⟩ := hrel
        clear PI0
        by_cases hklt : k < L.length
        · have hkz : (k : Int) < (L.length : Int) := by omega
          have d6 := HI.out.bp.c6
          obtain ⟨g6', e6', hc6', e6⟩ := rowS_at HI.out.bp.r6 hx0.out
          have hoc := HI.out.bp.f6.own j _ _ hx0.out (by rw [List.getElem?_set_self hML.out])
          have hlen : (marksT j 0 k ++ L.drop k).length = L.length := by rw [List.length_append, marksT_length, List.length_drop]; omega
          obtain ⟨gx, rfl, hn1, hxc, t00⟩ := hoc.at (mark_get hklt)
          obtain ⟨gm, rfl, hn2, hmc, m00⟩ := HI.out.own.at (marksT_get hklt)
          have t0 := cell_at t00
          have m0 := cell_at m00
          have tf0 := hoc.frz k
          clear hn1 hn2 t00 m00
          rw [Nat.zero_add] at m0
          simp only [Option.some.injEq, Addr.mk.injEq, and_true] at e6'
          subst e6'
          rw [hlen] at hxc
          rw [marksT_length] at hmc
          have R := hid (HI.out.step hML.out hklt hx0.out hfar.out)
          obtain ⟨mt, hmt⟩ : ∃ mt, mt = markT j k := ⟨_, rfl⟩
          rw [← hmt] at m0 R
          clear HI hoc hlen hmt
          go_wp2
          go_region
          all_goals
            go_wp2
            exact ⟨⟨k + 1, hklt, by go_num, R.out⟩, by simp [intOf]; omega⟩
        · obtain rfl : k = L.length := by omega
          have hkz : ¬ (L.length : Int) < (L.length : Int) := by omega
          have R : Hid (BookP X wr bk base (.slice (some ⟨g6, 0, none⟩) vs.length cap) v7 vs (putL Ls (j + 1)) ∧ BK tsK base W wr ∧ base ≤ wr.heap.size) := by
            obtain ⟨q1, q2, q3, q4⟩ := HI.out
            rw [List.drop_of_length_le (Nat.le_refl _), List.append_nil, ← putL_next hL0.out] at q1
            exact ⟨q1, q3, q4⟩
          clear HI
          go_wp2
          exact ⟨⟨j + 1, hlt, by go_num, R.out⟩, by simp [intOf]; omega⟩
    · obtain rfl : j = vs.length := by omega
      have hltz : ¬ (vs.length : Int) < (vs.length : Int) := by omega
      go_wp2
      go_end0
      exact ⟨rfl, HI.out.1, HI.out.2.1⟩
end
end Go.Proofs.YtkneogfeokckjaaGreatDoor.BInts

namespace Go.Proofs.YtkneogfeokckjaaGreatDoor.BInts
open Go.RowKit

section
variable {X : Nat → Value} {W W' : World} {bk base : Nat} {v6 v7 : Value} {vs us : List Value} {Ls : List (List El)}

/-- Every list bears its own marks. -/
def Marked (Ls : List (List El)) : Prop := ∀ (j : Nat) (L : List El), Ls[j]? = some L → L = marksT j 0 L.length

set_option maxHeartbeats 2000000 in
set_option maxRecDepth 100000 in
theorem marked_Ints {v : Value} (hr : RowS W base v vs) (hf : Fam W base vs Ls) (hm : Marked Ls) (hsm : ∀ L ∈ Ls, L.length ≤ 2000) (h250 : vs.length ≤ 250) :
    Calls Tryz.prog 110 #[v] W fun e w' => e = .returned (.bool true) ∧ Kept (fun _ => False) W w' := by
  obtain ⟨p, cap, rfl⟩ := rowS_slice hr
  have HR : Hid (∀ W', Kept (fun _ => False) W W' → RowS W' base (.slice p vs.length cap) vs ∧ Fam W' base vs Ls) := fun W' hk => ⟨rowS_kept hr hk (fun _ _ => id), hf.kept0 hk⟩
  have HL := hid hf.len
  have Hsm := hid hsm
  have Hm := hid hm
  clear hr hf hm hsm
  go_enter Tryz.func110, Tryz.ntmps110
  go_wp2
  go_loopw [3] (fun vi wr => ∃ j : Nat, j ≤ vs.length ∧ vi = .int .i64 (j : Int) ∧ Hid (Kept (fun _ => False) W wr)) (fun vi _ => vs.length - (intOf vi).toNat)
  case atStart => exact ⟨0, Nat.zero_le _, rfl, Kept.refl _ _⟩
  case round =>
    obtain ⟨j, hj, rfl, HI⟩ := hrel
    by_cases hlt : j < vs.length
    · have hltz : (j : Int) < (vs.length : Int) := by omega
      obtain ⟨x, hx⟩ : ∃ x, vs[j]? = some x := ⟨vs[j], by simp [hlt]⟩
      obtain ⟨L, hL⟩ : ∃ L, Ls[j]? = some L := ⟨Ls[j]'(by have := HL.out; omega), by simp⟩
      obtain ⟨g, rfl, hc, e0⟩ := rowS_at (HR.out wr HI.out).1 hx
      obtain ⟨px, cx, rfl⟩ := slice_of ((HR.out wr HI.out).2.own j x L hx hL)
      have hLs := Hsm.out L (List.mem_of_getElem? hL)
      have HC : Hid (∀ W', Kept (fun _ => False) W W' → W'.cell? ⟨g, j, none⟩ = some (.slice px L.length cx)) := fun W' hk => by
        obtain ⟨g', e, _, q⟩ := rowS_at (HR.out W' hk).1 hx
        simp at e
        subst e
        exact q
      have HM : Hid (∀ W', Kept (fun _ => False) W W' → Calls Tryz.prog 157 #[.int .i64 (j : Int), .int .i64 0, .int .i64 (L.length : Int)] W' fun e w' => ∃ u, e = .returned u ∧ OwnB w' W'.heap.size u L ∧ Kept (fun _ => False) W w') := fun W' hk => by
        refine (markInts_any j 0 L.length (by omega) (by omega) (by omega) W').mono ?_
        rintro e w' ⟨u, rfl, h1, h2⟩
        rw [← Hm.out j L hL] at h1
        exact ⟨u, rfl, h1, hk.trans h2⟩
      have HS : Hid (∀ W' u b, Kept (fun _ => False) W W' → OwnB W' b u L → Calls Tryz.prog 18 #[.slice px L.length cx, u] W' fun e w' => e = .returned (.bool true) ∧ Kept (fun _ => False) W w') := fun W' u b hk hu => by
        have := sameInts_eq (.slice px L.length cx) u L W' ((HR.out W' hk).2.own j _ L hx hL).tags hu.tags (by omega)
        exact this.mono fun _ _ ⟨h1, h2⟩ => ⟨h1, hk.trans h2⟩
      have hkr := HI.out.drew
      clear hx hL HI
      go_wp2
      go_region_held3 (fun W' => W'.cell? ⟨g, j, none⟩ = some (.slice px L.length cx)) (first | assumption | exact HC.out _ (by assumption) | go_keep) (first
        | (go_at_call 157; refine (HM.out _ hkr).mono ?_; rintro e1 w1 ⟨u1, rfl, ho1, hk1⟩)
        | (go_at_call 18; refine (HS.out _ _ _ hk1 ho1).mono ?_; rintro e2 w2 ⟨rfl, hk2⟩))
      all_goals
        go_wp2
        exact ⟨⟨j + 1, hlt, by go_num, hk2⟩, by simp [intOf]; omega⟩
    · obtain rfl : j = vs.length := by omega
      have hltz : ¬ (vs.length : Int) < (vs.length : Int) := by omega
      go_wp2
      go_ret
      exact ⟨rfl, HI.out⟩

theorem infoInts : (Tryz.prog.info? 59).map (fun i => (i.zero, i.size, i.bytes)) = some (some (.slice none 0 0), 1, 24) := by kernel_rfl

/-- 'append' of a list of the call's own onto the one that grows. -/
theorem own_app {v u : Value} {G N : List El} {b : Nat} (h : OwnB W base v G) (hb : base ≤ W.heap.size) (hu : OwnB W b u N) (hN : 0 < N.length) (hroom : G.length + N.length ≤ 100000) :
    ∃ v' w', AppB W v u v' w' ∧ OwnB w' base v' (G ++ N) ∧ Grew W w' v v' G.length N.length := by
  obtain ⟨i0, hi0, hz0, hz1, hz2⟩ := info_parts infoB
  obtain ⟨g, o, cap, rfl, hc⟩ := hu.rowB (by intro e; rw [e] at hN; simp at hN)
  obtain ⟨v', w', h1, h2, h3⟩ := owned_append (P := Tryz.prog) (t := 59) Tryz.underlying59 hi0 hz0 hz1 hz2 rfl (by decide) h hb ⟨g, o, none⟩ N.length cap (rowB N) hN (rowB_length N) hc (rowB_oneCell N) (by omega) (by decide)
  refine ⟨v', w', h1, ?_, h3⟩
  unfold OwnB
  rw [rowB_append, List.length_append]
  exact h2

/-- What 'append' makes of a row of lists and one list more. -/
def AppS (w : World) (v u v' : Value) (w' : World) : Prop := ∀ ty, (Builtin.append_ #[31, 31] ty #[v, u]).run Tryz.prog w = .ok v' w'

theorem rowS_app {v x : Value} {xs : List Value} (h : RowS W base v xs) (hb : base ≤ W.heap.size) (hx : x.oneCell' = true) (hroom : xs.length ≤ 1000) :
    ∃ v' w', AppS (W.alloc (.cells #[x] 59)) v (.slice (some ⟨W.heap.size, 0, none⟩) 1 1) v' w' ∧ RowS w' base v' (xs ++ [x]) ∧ Grew (W.alloc (.cells #[x] 59)) w' v v' xs.length 1 := by
  obtain ⟨i0, hi0, hz0, hz1, hz2⟩ := info_parts infoInts
  have h' : RowS (W.alloc (.cells #[x] 59)) base v xs := rowS_kept h ((Kept.refl (fun _ => False) W).alloc _) (fun _ _ => id)
  obtain ⟨v', w', h1, h2, h3⟩ := owned_append (P := Tryz.prog) (t := 31) Tryz.underlying31 hi0 hz0 hz1 hz2 rfl (by decide) h' (by simp; omega) ⟨W.heap.size, 0, none⟩ 1 1 [x] (by decide) rfl (fun j u hj => by
    cases j with
    | zero =>
      simp at hj
      subst hj
      rw [addr_add, World.cell?_alloc_new]
      rfl
    | succ j => simp at hj) (by intro u hu; simp at hu; subst hu; exact hx) (by omega) (by decide)
  refine ⟨v', w', h1, ?_, h3⟩
  unfold RowS
  rw [List.length_append]
  exact h2

/-- The book and the row of what has grown. -/
structure Rest (X : Nat → Value) (W : World) (bk base : Nat) (v6 v7 : Value) (vs : List Value) (vo : Value) (gs : List Value) : Prop where
  blk : W.heap[bk]? = some (.cells (bookCells X v6 v7) 49 (0, 0))
  r6 : RowS W base v6 vs
  ro : RowS W base vo gs
  ne : ¬ Shares v6 vo
  lo : base ≤ bk

theorem Rest.tags {vo x : Value} {gs : List Value} {G : List El} (h : Rest X W bk base v6 v7 vs vo gs) (hx : OwnB W base x G) (hk : Kept (fun i => x.ownBlock = some i) W W') : Rest X W' bk base v6 v7 vs vo gs := by
  refine ⟨(hk.block bk (Array.getElem?_eq_some_iff.1 h.blk).1 (fun e => ?_)).trans h.blk, rowS_kept h.r6 hk (fun i hi e => owned_unlike h.r6 hx (by decide) i hi e), rowS_kept h.ro hk (fun i hi e => owned_unlike h.ro hx (by decide) i hi e), h.ne, h.lo⟩
  rcases hx.2 with ⟨rfl, _⟩ | ⟨g, cap, cur, rfl, hb, hg, _⟩
  · cases e
  · have : g = bk := by simpa [Value.ownBlock] using e
    subst this
    rw [h.blk] at hg
    simp at hg

theorem Rest.kept0 {vo : Value} {gs : List Value} (h : Rest X W bk base v6 v7 vs vo gs) (hk : Kept (fun _ => False) W W') : Rest X W' bk base v6 v7 vs vo gs :=
  ⟨(hk.block bk (Array.getElem?_eq_some_iff.1 h.blk).1 id).trans h.blk, rowS_kept h.r6 hk (fun _ _ => id), rowS_kept h.ro hk (fun _ _ => id), h.ne, h.lo⟩

theorem Rest.c6 {vo : Value} {gs : List Value} (h : Rest X W bk base v6 v7 vs vo gs) : W.cell? ⟨bk, 2, none⟩ = some v6 := by simp [World.cell?, h.blk, bookCells]

/-- The row of what has grown grows. -/
theorem Rest.row {vo vo' : Value} {gs gs' : List Value} (h : Rest X W bk base v6 v7 vs vo gs) (hg : Grew W W' vo vo' gs.length 1) (hr : RowS W' base vo' gs') : Rest X W' bk base v6 v7 vs vo' gs' := by
  have hk := hg.kept
  refine ⟨(hk.block bk (Array.getElem?_eq_some_iff.1 h.blk).1 (fun e => ?_)).trans h.blk, rowS_kept h.r6 hk (fun i hi e => h.ne ⟨i, hi, e⟩), hr, ?_, h.lo⟩
  · rcases h.ro.2 with ⟨e0, _⟩ | ⟨g, cap, cur, e0, hb, hg', _⟩
    · rw [e0] at e
      cases e
    · rw [e0] at e
      have : g = bk := by simpa [Value.ownBlock] using e
      subst this
      rw [h.blk] at hg'
      simp at hg'
  · rintro ⟨i, h1, h2⟩
    rcases hg with ⟨g, cap, rfl, rfl, _⟩ | ⟨cap', rfl, _, _⟩
    · exact h.ne ⟨i, h1, h2⟩
    · have hl := (World.ownsRow.lt h.r6 i h1).2
      have e : W.heap.size = i := by simpa [Value.ownBlock] using h2
      omega

theorem Cur.row {n base' : Nat} {gs : List Value} {j : Nat} {v x : Value} {G : List El} {xs : List Value} (h : Cur W base vs gs j v G) (hx : W.ownsRow base' 59 1 x n xs) (hk : Kept (fun i => x.ownBlock = some i) W W') : Cur W' base vs gs j v G :=
  ⟨own_kept h.own hk (fun i hi e => owned_unlike h.own hx (by decide) i hi e), h.links, h.far⟩

theorem own_oneCell {v : Value} {L : List El} (h : OwnB W base v L) : v.oneCell' = true := by
  obtain ⟨p, c, rfl⟩ := slice_of h
  rfl

/-- How far growInts has come, between two lists. -/
structure OutSt (X : Nat → Value) (W wr : World) (bk base : Nat) (v6 v7 : Value) (vs : List Value) (Ls : List (List El)) (vo : Value) (gs : List Value) (Gs : List (List El)) : Prop where
  st : GrowSt wr base vs Ls gs Gs
  rest : Rest X wr bk base v6 v7 vs vo gs
  mks : Marked Gs
  sz : ∀ G ∈ Gs, G.length ≤ 1100
  bel : BK tsK base W wr
  hb : base ≤ wr.heap.size

/-- And within one. -/
structure InSt (X : Nat → Value) (W wr : World) (bk base : Nat) (v6 v7 : Value) (vs : List Value) (Ls : List (List El)) (vo : Value) (gs : List Value) (Gs : List (List El)) (v : Value) (c : Nat) : Prop where
  st : GrowSt wr base vs Ls gs Gs
  rest : Rest X wr bk base v6 v7 vs vo gs
  cur : Cur wr base vs gs gs.length v (marksT gs.length 0 c)
  bel : BK tsK base W wr
  hb : base ≤ wr.heap.size

theorem InSt.slice {wr : World} {vo v : Value} {gs : List Value} {Gs : List (List El)} {c : Nat} (h : InSt X W wr bk base v6 v7 vs Ls vo gs Gs v c) : ∃ p cap, v = .slice p c cap := by
  obtain ⟨p, cap, e⟩ := slice_of h.cur.own
  rw [marksT_length] at e
  exact ⟨p, cap, e⟩

/-- Some marks more. -/
theorem InSt.more {wr w1 : World} {vo v u : Value} {gs : List Value} {Gs : List (List El)} {c m : Nat} (h : InSt X W wr bk base v6 v7 vs Ls vo gs Gs v c) (hu : OwnB w1 wr.heap.size u (marksT gs.length c m)) (hk : Kept (fun _ => False) wr w1) (hm : 0 < m) (hcm : c + m ≤ 10000) :
    ∃ v' w', AppB w1 v u v' w' ∧ InSt X W w' bk base v6 v7 vs Ls vo gs Gs v' (c + m) := by
  have hc1 := h.cur.kept0 hk
  have hb1 : base ≤ w1.heap.size := Nat.le_trans h.hb hk.size
  obtain ⟨v', w', h1, h2, h3⟩ := own_app hc1.own hb1 hu (by rw [marksT_length]; exact hm) (by rw [marksT_length, marksT_length]; omega)
  rw [marksT_length, marksT_length] at h3
  have hg := h3
  rw [← marksT_length gs.length 0 c] at h3
  have hNl : (marksT gs.length c m).length = m := marksT_length _ _ _
  obtain ⟨q1, q2⟩ := cur_step (h.st.kept0 hk) hc1 hNl h3 h2
  have e : marksT gs.length 0 c ++ marksT gs.length c m = marksT gs.length 0 (c + m) := by rw [marksT_append, Nat.zero_add]
  rw [e] at q2
  refine ⟨v', w', h1, q1, (h.rest.kept0 hk).tags hc1.own hg.kept, q2, ?_, Nat.le_trans hb1 hg.kept.size⟩
  exact (h.bel.trans (BK.none hk h.hb)).trans (BK.own hg.kept hc1.own (Or.inl rfl) hb1)

/-- The list is grown, and stands in the row. -/
theorem InSt.close {wr : World} {vo v : Value} {gs : List Value} {Gs : List (List El)} {c : Nat} (h : InSt X W wr bk base v6 v7 vs Ls vo gs Gs v c) (hmk : Marked Gs) (hsz : ∀ G ∈ Gs, G.length ≤ 1100) (hc : c ≤ 1100) (hgs : gs.length ≤ 250) :
    ∃ vo' w', AppS (wr.alloc (.cells #[v] 59)) vo (.slice (some ⟨wr.heap.size, 0, none⟩) 1 1) vo' w' ∧ OutSt X W w' bk base v6 v7 vs Ls vo' (gs ++ [v]) (Gs ++ [marksT gs.length 0 c]) := by
  obtain ⟨vo', w', h1, h2, h3⟩ := rowS_app h.rest.ro h.hb (own_oneCell h.cur.own) (by omega)
  have hk1 : Kept (fun _ => False) wr (wr.alloc (.cells #[v] 59)) := (Kept.refl _ _).alloc _
  have hr1 := h.rest.kept0 hk1
  have hb1 : base ≤ (wr.alloc (.cells #[v] 59)).heap.size := Nat.le_trans h.hb hk1.size
  have st2 := (h.st.kept0 hk1).row hr1.ro h3.kept
  have cur2 := (h.cur.kept0 hk1).row hr1.ro h3.kept
  refine ⟨vo', w', h1, grow_end st2 cur2, hr1.row h3 h2, fun j L hj => ?_, fun G hG => ?_, ?_, Nat.le_trans hb1 h3.kept.size⟩
  · have hlen : gs.length = Gs.length := h.st.grown.len
    by_cases hjl : j < Gs.length
    · rw [List.getElem?_append_left hjl] at hj
      exact hmk j L hj
    · rw [List.getElem?_append_right (by omega)] at hj
      have := (List.getElem?_eq_some_iff.1 hj).1
      simp at this
      have e : j - Gs.length = 0 := by omega
      have ej : j = gs.length := by omega
      rw [e] at hj
      simp at hj
      rw [← hj, marksT_length, ej]
  · rcases List.mem_append.1 hG with hG | hG
    · exact hsz G hG
    · simp at hG
      rw [hG, marksT_length]
      exact hc
  · exact (h.bel.trans (BK.none hk1 h.hb)).trans (BK.own h3.kept hr1.ro (Or.inr rfl) hb1)

theorem OutSt.start {wr : World} {vo : Value} {gs : List Value} {Gs : List (List El)} (h : OutSt X W wr bk base v6 v7 vs Ls vo gs Gs) {x : Value} {L : List El} (hx : vs[gs.length]? = some x) (hL : Ls[gs.length]? = some L) (hm : Marked Ls) : InSt X W wr bk base v6 v7 vs Ls vo gs Gs x L.length := by
  have hc := cur_start h.st hx hL
  rw [hm _ L hL] at hc
  exact ⟨h.st, h.rest, hc, h.bel, h.hb⟩

set_option maxHeartbeats 4000000 in
set_option maxRecDepth 100000 in
theorem grow_Ints (h : BookP X W bk base v6 v7 vs Ls) (hm : Marked Ls) (hb : base ≤ W.heap.size) (hsm : ∀ L ∈ Ls, L.length ≤ 1000) (h250 : vs.length ≤ 250) :
    Calls Tryz.prog 92 #[.pointer (some ⟨bk, 0, none⟩)] W fun e w' => ∃ vo, e = .returned vo ∧ ∃ gs : List Value, gs.length = vs.length ∧ ∃ Gs, OutSt X W w' bk base v6 v7 vs Ls vo gs Gs := by
  obtain ⟨p, cap, rfl⟩ := rowS_slice h.r6
  have HL := hid h.f6.len
  have Hsm := hid hsm
  have Hm := hid hm
  have H0 : Hid (OutSt X W W bk base (.slice p vs.length cap) v7 vs Ls (.slice none 0 0) [] []) := ⟨⟨h.f6, Fam.nil _ _, h.a6, Apart.nil, fun r q u v hu => by simp at hu⟩, ⟨h.blk, h.r6, World.ownsRow_nil _ _ _ _, fun ⟨g, _, h2⟩ => by simp [Value.ownBlock] at h2, h.lo⟩, fun j L hj => by simp at hj, fun G hG => by simp at hG, BK.refl _ _ _, hb⟩
  clear h hsm hm
  go_enter Tryz.func92, Tryz.ntmps92
  go_wp2
  go_loopw [3, 4] (fun vo vi wr => ∃ (j : Nat) (gs : List Value) (Gs : List (List El)), j ≤ vs.length ∧ vi = .int .i64 (j : Int) ∧ Hid (gs.length = j ∧ OutSt X W wr bk base (.slice p vs.length cap) v7 vs Ls vo gs Gs)) (fun _ vi _ => vs.length - (intOf vi).toNat)
  case atStart => exact ⟨0, [], [], Nat.zero_le _, rfl, rfl, H0.out⟩
  case round =>
    obtain ⟨j, gs, Gs, hj, rfl, HI⟩ := hrel
    have d6 := HI.out.2.rest.c6
    clear H0
    by_cases hlt : j < vs.length
    · have hltz : (j : Int) < (vs.length : Int) := by omega
      obtain ⟨x, hx⟩ : ∃ x, vs[j]? = some x := ⟨vs[j], by simp [hlt]⟩
      obtain ⟨L, hL⟩ : ∃ L, Ls[j]? = some L := ⟨Ls[j]'(by have := HL.out; omega), by simp⟩
      obtain ⟨g6, rfl, hc6, e6⟩ := rowS_at HI.out.2.rest.r6 hx
      have hLs := Hsm.out L (List.mem_of_getElem? hL)
      obtain ⟨hgj, hO⟩ := HI.out
      have Hgj := hid hgj
      have S0 := hid (hO.start (x := x) (L := L) (by rw [hgj]; exact hx) (by rw [hgj]; exact hL) Hm.out)
      have HMk := hid (And.intro hO.mks hO.sz)
      obtain ⟨n0, hn0⟩ : ∃ n0, n0 = L.length := ⟨_, rfl⟩
      rw [← hn0] at S0 hLs
      clear HI hO hgj hx hL hn0
      go_wp2
      go_loopw [5, 6] (fun v5 vn wr => ∃ c : Nat, c ≤ 12 ∧ vn = .int .i64 (c : Int) ∧ Hid (InSt X W wr bk base (.slice (some ⟨g6, 0, none⟩) vs.length cap) v7 vs Ls u3 gs Gs v5 (n0 + c))) (fun _ vn _ => 12 - (intOf vn).toNat)
      case atStart => exact ⟨0, Nat.zero_le _, rfl, S0.out⟩
      case round =>
        obtain ⟨c, hc, rfl, HI⟩ := hrel
        obtain ⟨p5, c5, rfl⟩ := HI.out.slice
        clear S0 e6 d6
        by_cases hclt : c < 12
        · have hcz : (c : Int) < 12 := by omega
          have HM := hid (markInts_any j (n0 + c) 1 (by omega) (by omega) (by omega))
          rw [show ((n0 + c : Nat) : Int) = (n0 : Int) + (c : Int) by omega] at HM
          go_wp2_with fail
          refine (HM.out _).mono ?_
          rintro e1 w1 ⟨u1, rfl, ho1, hk1⟩
          have ho1' : OwnB w1 wr.heap.size u1 (marksT gs.length (n0 + c) 1) := by rw [Hgj.out]; exact ho1
          obtain ⟨v', w2, happ, hin⟩ := HI.out.more ho1' hk1 (by decide) (by omega)
          have HIN := hid hin
          clear ho1 ho1' hk1 hin HI HM
          go_wp2_with (at_builtin; refine Lib.wpList_append_run _ rfl _ _ _ _ rfl _ _ rfl rfl _ _ (happ _) ?_)
          clear happ
          go_wp2
          exact ⟨⟨c + 1, hclt, by go_num, HIN.out⟩, by simp [intOf]; omega⟩
        · obtain rfl : c = 12 := by omega
          have HM := hid (markInts_any j (n0 + 12) 60 (by omega) (by omega) (by omega))
          rw [show ((n0 + 12 : Nat) : Int) = (n0 : Int) + 12 by omega] at HM
          go_wp2_with fail
          refine (HM.out _).mono ?_
          rintro e1 w1 ⟨u1, rfl, ho1, hk1⟩
          have ho1' : OwnB w1 wr.heap.size u1 (marksT gs.length (n0 + 12) 60) := by rw [Hgj.out]; exact ho1
          obtain ⟨v', w2, happ, hin⟩ := HI.out.more ho1' hk1 (by decide) (by omega)
          obtain ⟨p', c', rfl⟩ := hin.slice
          obtain ⟨vo', w3, hs, hout⟩ := hin.close HMk.out.1 HMk.out.2 (by omega) (by have := Hgj.out; omega)
          have HOut := hid hout
          clear ho1 ho1' hk1 hin HI HM hout
          go_wp2_with (first | (at_builtin; refine Lib.wpList_append_run _ rfl _ _ _ _ rfl _ _ rfl rfl _ _ (happ _) ?_) | (at_builtin; refine Lib.wpList_append_run _ rfl _ _ _ _ rfl _ _ rfl rfl _ _ (hs _) ?_))
          clear happ hs
          exact ⟨⟨j + 1, _, _, hlt, by go_num, by have := Hgj.out; rw [List.length_append, List.length_singleton]; omega, HOut.out⟩, by simp [intOf]; omega⟩
    · obtain rfl : j = vs.length := by omega
      have hltz : ¬ (vs.length : Int) < (vs.length : Int) := by omega
      go_wp2
      go_ret
      exact ⟨_, rfl, gs, HI.out.1, Gs, HI.out.2⟩
end
end Go.Proofs.YtkneogfeokckjaaGreatDoor.BInts

namespace Go.Proofs.YtkneogfeokckjaaGreatDoor.BInts
open Go.RowKit

section
variable {X : Nat → Value} {W W' : World} {bk base : Nat} {v6 v7 : Value} {vs us : List Value} {Ls Ks : List (List El)}

/-- No row is the book's own block. -/
theorem BookP.far {n k : Nat} {e : TypeId} {x : Value} {xs : List Value} {b : Nat} (h : BookP X W bk base v6 v7 vs Ls) (hx : W.ownsRow b e k x n xs) (he : e ≠ 49) : x.ownBlock ≠ some bk := by
  intro h1
  rcases hx.2 with ⟨rfl, _⟩ | ⟨g, cap, cur, rfl, hb, hg, _⟩
  · cases h1
  · have : g = bk := by simpa [Value.ownBlock] using h1
    subst this
    rw [h.blk] at hg
    simp at hg
    exact he hg.2.symm

/-- A book in the midst of it. -/
structure Half (X : Nat → Value) (W : World) (bk base : Nat) (v6 v7 : Value) (vs us : List Value) (Ls Ks : List (List El)) : Prop where
  p : BookP X W bk base v6 v7 vs Ls
  r7 : RowS W base v7 us
  f7 : Fam W base us Ks
  ne : ¬ Shares v6 v7

theorem Half.kept0 (h : Half X W bk base v6 v7 vs us Ls Ks) (hk : Kept (fun _ => False) W W') : Half X W' bk base v6 v7 vs us Ls Ks :=
  ⟨h.p.kept0 hk, rowS_kept h.r7 hk (fun _ _ => id), h.f7.kept0 hk, h.ne⟩

/-- A cell of the book is written. -/
theorem half_set {i : Nat} {x v6' v7' : Value} (hb : W.heap[bk]? = some (.cells (bookCells X v6 v7) 49 (0, 0))) (hi : (bookCells X v6 v7).setIfInBounds i x = bookCells X v6' v7') (hlo : base ≤ bk)
    (r6 : RowS W base v6' vs) (f6 : Fam W base vs Ls) (a6 : Apart vs) (r7 : RowS W base v7' us) (f7 : Fam W base us Ks) (ne : ¬ Shares v6' v7') : Half X (W.setCell ⟨bk, i, none⟩ x) bk base v6' v7' vs us Ls Ks := by
  have hk : Kept (fun j => j = bk) W (W.setCell ⟨bk, i, none⟩ x) := (Kept.refl (fun j => j = bk) W).setCell (p := ⟨bk, i, none⟩) (Or.inr rfl) x
  have far : ∀ {n k b : Nat} {e : TypeId} {y : Value} {ys : List Value}, W.ownsRow b e k y n ys → e ≠ 49 → ∀ j, y.ownBlock = some j → ¬ j = bk := by
    intro n k b e y ys hy he j hj hjb
    subst hjb
    rcases hy.2 with ⟨rfl, _⟩ | ⟨g, cap, cur, rfl, _, hg, _⟩
    · cases hj
    · have : g = j := by simpa [Value.ownBlock] using hj
      subst this
      rw [hb] at hg
      simp at hg
      exact he hg.2.symm
  have b1 := Joins.block_setCell hb (i := i) x
  rw [hi] at b1
  refine ⟨⟨b1, rowS_kept r6 hk (far r6 (by decide)), f6.kept hk (fun r v j hv hj => ?_), a6, hlo⟩, rowS_kept r7 hk (far r7 (by decide)), f7.kept hk (fun r v j hv hj => ?_), ne⟩
  · obtain ⟨L, _, hL⟩ := f6.at hv
    exact far hL (by decide) j hj
  · obtain ⟨L, _, hL⟩ := f7.at hv
    exact far hL (by decide) j hj

theorem half6 (h : BookT X W bk base v6 v7 vs us Ls) {v v6' : Value} {L : List El} (hv : OwnB W base v L) (hnew : ∀ (r : Nat) (u : Value), vs[r]? = some u → ¬ Shares u v) (hg : Grew W W' v6 v6' vs.length 1) (hr : RowS W' base v6' (vs ++ [v])) :
    Half X (W'.setCell ⟨bk, 2, none⟩ v6') bk base v6' v7 (vs ++ [v]) us (Ls ++ [L]) Ls := by
  have hk := hg.kept
  have unl : ∀ {x : Value} {M : List El}, OwnB W base x M → ∀ i, x.ownBlock = some i → ¬ v6.ownBlock = some i := fun hx i hi e => owned_unlike hx h.p.r6 (by decide) i hi e
  refine half_set (v6 := v6) (v7 := v7) ((hk.block bk h.p.lt (fun e => h.p.far h.p.r6 (by decide) e)).trans h.p.blk) rfl h.p.lo hr ?_ (h.p.a6.snoc hnew) (rowS_kept h.r7 hk (fun i hi e => h.ne ⟨i, e, hi⟩)) (h.f7.kept hk (fun r x i hx hi => ?_)) (shares_symm (grew_far hg h.r7 (shares_symm h.ne)))
  · refine Fam.snoc (h.p.f6.kept hk (fun r x i hx hi => ?_)) (own_kept hv hk (unl hv))
    obtain ⟨M, _, hM⟩ := h.p.f6.at hx
    exact unl hM i hi
  · obtain ⟨M, _, hM⟩ := h.f7.at hx
    exact unl hM i hi

theorem half7 (h : Half X W bk base v6 v7 vs us Ls Ks) {u v7' : Value} {L : List El} (hu : OwnB W base u L) (hg : Grew W W' v7 v7' us.length 1) (hr : RowS W' base v7' (us ++ [u])) (hL : Ls = Ks ++ [L]) :
    BookT X (W'.setCell ⟨bk, 3, none⟩ v7') bk base v6 v7' vs (us ++ [u]) Ls := by
  have hk := hg.kept
  have unl : ∀ {x : Value} {M : List El}, OwnB W base x M → ∀ i, x.ownBlock = some i → ¬ v7.ownBlock = some i := fun hx i hi e => owned_unlike hx h.r7 (by decide) i hi e
  have R : Half X (W'.setCell ⟨bk, 3, none⟩ v7') bk base v6 v7' vs (us ++ [u]) Ls (Ks ++ [L]) := by
    refine half_set (v6 := v6) (v7 := v7) ((hk.block bk h.p.lt (fun e => h.p.far h.r7 (by decide) e)).trans h.p.blk) rfl h.p.lo (rowS_kept h.p.r6 hk (fun i hi e => h.ne ⟨i, hi, e⟩)) (h.p.f6.kept hk (fun r x i hx hi => ?_)) h.p.a6 hr ?_ (grew_far hg h.p.r6 h.ne)
    · obtain ⟨M, _, hM⟩ := h.p.f6.at hx
      exact unl hM i hi
    · refine Fam.snoc (h.f7.kept hk (fun r x i hx hi => ?_)) (own_kept hu hk (unl hu))
      obtain ⟨M, _, hM⟩ := h.f7.at hx
      exact unl hM i hi
  rw [← hL] at R
  exact ⟨R.p, R.r7, R.f7, R.ne⟩

/-- Behind the copy. -/
def Copied (X : Nat → Value) (W0 : World) (S : Nat → Prop) (bk base : Nat) (v6 v7 : Value) (vs us : List Value) (Ls Ks : List (List El)) (u : Value) (L : List El) (W : World) : Prop := Half X W bk base v6 v7 vs us Ls Ks ∧ OwnB W base u L ∧ Kept S W0 W ∧ base ≤ W.heap.size ∧ ∀ i, u.ownBlock = some i → W0.heap.size ≤ i

theorem copied_app {W0 : World} {S : Nat → Prop} {u : Value} {L : List El} (hS7 : ∀ i, v7.ownBlock = some i → S i) (hSb : S bk) (h : Copied X W0 S bk base v6 v7 vs us Ls Ks u L W) (hL : Ls = Ks ++ [L]) (hn : us.length ≤ 250) :
    ∃ p c w4, AppS (W.alloc (.cells #[u] 59)) v7 (.slice (some ⟨W.heap.size, 0, none⟩) 1 1) (.slice p (us.length + 1) c) w4 ∧ w4.cell? ⟨bk, 3, none⟩ = some v7 ∧ w4.frozen? ⟨bk, 3, none⟩ = false ∧
      BookT X (w4.setCell ⟨bk, 3, none⟩ (.slice p (us.length + 1) c)) bk base v6 (.slice p (us.length + 1) c) vs (us ++ [u]) Ls ∧ Kept S W0 (w4.setCell ⟨bk, 3, none⟩ (.slice p (us.length + 1) c)) ∧ ∀ i, u.ownBlock = some i → W0.heap.size ≤ i := by
  obtain ⟨hH, hu, hB, hb, hfr⟩ := h
  obtain ⟨v7', w4, h1, h2, h3⟩ := rowS_app hH.r7 hb (own_oneCell hu) (by omega)
  have hk1 : Kept (fun _ => False) W (W.alloc (.cells #[u] 59)) := (Kept.refl _ _).alloc _
  have hH1 := hH.kept0 hk1
  have R := half7 hH1 (hu.kept hk1) h3 h2 hL
  have hblk := (h3.kept.block bk hH1.p.lt (fun e => hH1.p.far hH1.r7 (by decide) e)).trans hH1.p.blk
  have hBw : Kept S W0 w4 := (hB.trans (hk1.mono (fun _ _ h => h.elim))).trans (h3.kept.mono (fun i _ hi => hS7 i hi))
  obtain ⟨p, c, e⟩ := slice_of h2
  rw [List.length_append, List.length_singleton] at e
  subst e
  exact ⟨p, c, w4, h1, by simp [World.cell?, hblk, bookCells], frozen_of_row _ bk 3 _ _ hblk, R, hBw.setCell (p := ⟨bk, 3, none⟩) (Or.inr hSb) _, hfr⟩

end
end Go.Proofs.YtkneogfeokckjaaGreatDoor.BInts

namespace Go.Proofs.YtkneogfeokckjaaGreatDoor.BInts
open Go.RowKit
section
variable {X : Nat → Value} {W W' : World} {bk base : Nat} {v6 v7 : Value} {vs us : List Value} {Ls Ks : List (List El)}
set_option maxHeartbeats 4000000 in
set_option maxRecDepth 100000 in
theorem bookInts_any (h : BookT X W bk base v6 v7 vs us Ls) (hb : base ≤ W.heap.size) (h250 : vs.length < 250) {v : Value} {L : List El} (hv : OwnB W base v L) (hnew : ∀ (r : Nat) (u : Value), vs[r]? = some u → ¬ Shares u v) (hLn : L.length ≤ 1000) :
    Calls Tryz.prog 24 #[.pointer (some ⟨bk, 0, none⟩), v] W fun e w' => e = .returned (.tuple #[]) ∧ ∃ v6' v7' u, BookT X w' bk base v6' v7' (vs ++ [v]) (us ++ [u]) (Ls ++ [L]) ∧ Kept (Bo bk v6 v7) W w' ∧ ∀ i, u.ownBlock = some i → W.heap.size ≤ i := by
  have hul : us.length ≤ 250 := by have h1 := h.f7.len; have h2 := h.p.f6.len; omega
  obtain ⟨p6, cap6, rfl⟩ := rowS_slice h.p.r6
  obtain ⟨pv, cv, rfl⟩ := slice_of hv
  obtain ⟨v6', w1, hs, hr, hg⟩ := rowS_app h.p.r6 hb (own_oneCell hv) (by omega)
  have hk0 : Kept (fun _ => False) W (W.alloc (.cells #[.slice pv L.length cv] 59)) := (Kept.refl _ _).alloc _
  have h0 := h.kept0 hk0
  have hH := half6 h0 (hv.kept hk0) hnew hg hr
  have hblk := (hg.kept.block bk h0.p.lt (fun e => h0.p.far h0.p.r6 (by decide) e)).trans h0.p.blk
  have c6 := h.p.c6
  have c60 := h0.p.c6
  have d6 : w1.cell? ⟨bk, 2, none⟩ = some (.slice p6 vs.length cap6) := by simp [World.cell?, hblk, bookCells]
  have f6 : w1.frozen? ⟨bk, 2, none⟩ = false := frozen_of_row _ bk 2 _ _ hblk
  have hB1 : Kept (Bo bk (.slice p6 vs.length cap6) v7) W w1 := (hk0.mono (fun _ _ h => h.elim)).trans (hg.kept.mono (fun i _ hi => Or.inr (Or.inl hi)))
  have hBH := hB1.setCell (p := ⟨bk, 2, none⟩) (Or.inr (Or.inl rfl)) v6'
  have hbH : base ≤ (w1.setCell ⟨bk, 2, none⟩ v6').heap.size := Nat.le_trans hb hBH.size
  have hov : OwnB (w1.setCell ⟨bk, 2, none⟩ v6') base (.slice pv L.length cv) L := hH.p.f6.own vs.length _ L (by simp) (by rw [h.p.f6.len]; simp)
  obtain ⟨p6', c6', e6⟩ := slice_of hr
  rw [List.length_append, List.length_singleton] at e6
  subst e6
  have c7 := hH.p.c7
  have f7 := hH.p.frozen 3
  obtain ⟨p7, cap7, e7⟩ := rowS_slice hH.r7
  subst e7
  have hltz : (vs.length : Int) < 250 := by omega
  have HC : Hid (∀ W', Kept (fun _ => False) (w1.setCell ⟨bk, 2, none⟩ (.slice p6' (vs.length + 1) c6')) W' → Calls Tryz.prog 52 #[.slice pv L.length cv] W' fun e w' => ∃ pu cu, e = .returned (.slice pu L.length cu) ∧ Copied X W (Bo bk (.slice p6 vs.length cap6) (.slice p7 us.length cap7)) bk base (.slice p6' (vs.length + 1) c6') (.slice p7 us.length cap7) (vs ++ [.slice pv L.length cv]) us (Ls ++ [L]) Ls (.slice pu L.length cu) L w') := fun W' hk => by
    refine (copyInts_any (.slice pv L.length cv) L W' (hov.kept hk).tags (by omega)).mono ?_
    rintro e w' ⟨u, rfl, ho, hk2⟩
    obtain ⟨pu, cu, rfl⟩ := slice_of ho
    exact ⟨pu, cu, rfl, hH.kept0 (hk.trans hk2), ho.mono (Nat.le_trans hbH hk.size), hBH.trans ((hk.trans hk2).mono (fun _ _ h => h.elim)), Nat.le_trans hbH (hk.trans hk2).size, fun i hi => Nat.le_trans (Nat.le_trans hBH.size hk.size) (own_lt ho hi).1⟩
  have HA := hid (fun W' u (hc : Copied X W (Bo bk (.slice p6 vs.length cap6) (.slice p7 us.length cap7)) bk base (.slice p6' (vs.length + 1) c6') (.slice p7 us.length cap7) (vs ++ [.slice pv L.length cv]) us (Ls ++ [L]) Ls u L W') => copied_app (S := Bo bk (.slice p6 vs.length cap6) (.slice p7 us.length cap7)) (fun i hi => Or.inr (Or.inr hi)) (Or.inl rfl) hc rfl hul)
  have D0 : Kept (fun _ => False) (w1.setCell ⟨bk, 2, none⟩ (.slice p6' (vs.length + 1) c6')) (w1.setCell ⟨bk, 2, none⟩ (.slice p6' (vs.length + 1) c6')).drew := (Kept.refl _ _).drew
  have HS : Hid (∀ W', Kept (fun _ => False) (w1.setCell ⟨bk, 2, none⟩ (.slice p6' (vs.length + 1) c6')) W' → W'.cell? ⟨bk, 3, none⟩ = some (.slice p7 us.length cap7) ∧ W'.frozen? ⟨bk, 3, none⟩ = false) := fun W' hk => ⟨(hH.kept0 hk).p.c7, (hH.kept0 hk).p.frozen 3⟩
  have HSc : Hid (∀ W' u o, Copied X W (Bo bk (.slice p6 vs.length cap6) (.slice p7 us.length cap7)) bk base (.slice p6' (vs.length + 1) c6') (.slice p7 us.length cap7) (vs ++ [.slice pv L.length cv]) us (Ls ++ [L]) Ls u L W' → (W'.cell? ⟨bk, 3, none⟩ = some (.slice p7 us.length cap7) ∧ W'.frozen? ⟨bk, 3, none⟩ = false) ∧ ((W'.alloc o).cell? ⟨bk, 3, none⟩ = some (.slice p7 us.length cap7) ∧ (W'.alloc o).frozen? ⟨bk, 3, none⟩ = false)) := fun W' u o hc => ⟨⟨hc.1.p.c7, hc.1.p.frozen 3⟩, (hc.1.kept0 ((Kept.refl _ _).alloc o)).p.c7, (hc.1.kept0 ((Kept.refl _ _).alloc o)).p.frozen 3⟩
  clear h h0 hH hov hg hr hv hnew hblk hB1 hBH hk0
  go_enter Tryz.func24, Tryz.ntmps24
  go_wp2_with (at_builtin; refine Lib.wpList_append_run _ rfl _ _ _ _ rfl _ _ rfl rfl _ _ (hs _) ?_)
  clear hs c6 c60
  have c7d := (HS.out _ D0).1
  have f7d := (HS.out _ D0).2
  refine wp_region_noPanic ?_
  refine wp_region_held_drew (S := fun _ => True) (by kernel_rfl) trivial (fun _ => ?_)
  refine wpAnyH_take (i := 0) (v := ?_) rfl (by kernel_rfl) (by kernel_rfl) (by kernel_rfl) (fun _ _ _ h => h) (Or.inl ⟨by kernel_rfl, fun W hSW => by go_simp; try with_reducible rfl⟩) trivial ?_
  try simp only [List.getElem_toArray]
  try simp only [List.getElem_cons_succ]
  try simp only [List.getElem_cons_zero]
  try simp only [Act.put]
  try simp only [List.setIfInBounds_toArray]
  try simp only [List.set_cons_succ]
  try simp only [List.set_cons_zero]
  refine wpAnyH_take (i := 1) (v := ?_) rfl (by kernel_rfl) (by kernel_rfl) (by kernel_rfl) (fun _ _ _ h => h) (Or.inl ⟨by kernel_rfl, fun W hSW => by go_simp; try with_reducible rfl⟩) trivial ?_
  try simp only [List.getElem_toArray]
  try simp only [List.getElem_cons_succ]
  try simp only [List.getElem_cons_zero]
  try simp only [Act.put]
  try simp only [List.setIfInBounds_toArray]
  try simp only [List.set_cons_succ]
  try simp only [List.set_cons_zero]
  refine wpAnyH_take (i := 2) (v := ?_) rfl (by kernel_rfl) (by kernel_rfl) (by kernel_rfl) (fun _ _ _ h => h) (Or.inl ⟨by kernel_rfl, fun W hSW => by go_simp; try with_reducible rfl⟩) trivial ?_
  try simp only [List.getElem_toArray]
  try simp only [List.getElem_cons_succ]
  try simp only [List.getElem_cons_zero]
  try simp only [Act.put]
  try simp only [List.setIfInBounds_toArray]
  try simp only [List.set_cons_succ]
  try simp only [List.set_cons_zero]
  refine wpAnyH_take (i := 3) (v := ?_) rfl (by kernel_rfl) (by kernel_rfl) (by kernel_rfl) (fun _ _ _ h => h) (Or.inl ⟨by kernel_rfl, fun W hSW => by go_simp; try with_reducible rfl⟩) trivial ?_
  try simp only [List.getElem_toArray]
  try simp only [List.getElem_cons_succ]
  try simp only [List.getElem_cons_zero]
  try simp only [Act.put]
  try simp only [List.setIfInBounds_toArray]
  try simp only [List.set_cons_succ]
  try simp only [List.set_cons_zero]
  refine wpAnyH_take (i := 5) (v := ?_) rfl (by kernel_rfl) (by kernel_rfl) (by kernel_rfl) (fun _ _ _ h => h) (Or.inl ⟨by kernel_rfl, fun W hSW => by go_simp; try with_reducible rfl⟩) trivial ?_
  try simp only [List.getElem_toArray]
  try simp only [List.getElem_cons_succ]
  try simp only [List.getElem_cons_zero]
  try simp only [Act.put]
  try simp only [List.setIfInBounds_toArray]
  try simp only [List.set_cons_succ]
  try simp only [List.set_cons_zero]
  refine wpAnyH_ready (rs := [4, 6]) (by kernel_rfl) (by simp) ?_
  refine AllReadyH.cons rfl (fun K hK => ?_) (AllReadyH.cons rfl (fun K hK => ?_) AllReadyH.nil)
  · go_simp
    refine hK.out _ _ trivial (fun _ => ?_)
    clear hK K
    try simp only [List.getElem_toArray]
    try simp only [List.getElem_cons_succ]
    try simp only [List.getElem_cons_zero]
    try simp only [Act.put]
    try simp only [List.setIfInBounds_toArray]
    try simp only [List.set_cons_succ]
    try simp only [List.set_cons_zero]
    refine wpAnyH_ready (rs := [6]) (by kernel_rfl) (by simp) ?_
    refine AllReadyH.cons rfl (fun K hK => ?_) AllReadyH.nil
    go_simp
    refine (HC.out _ D0).mono ?_
    rintro e w3 ⟨pu, cu, rfl, hc3⟩
    have q3 := hc3.1.p.c7
    have q3a := fun o => (HSc.out _ _ o hc3).2.1
    refine hK.out _ _ trivial (fun _ => ?_)
    clear hK K
    try simp only [List.getElem_toArray]
    try simp only [List.getElem_cons_succ]
    try simp only [List.getElem_cons_zero]
    try simp only [Act.put]
    try simp only [List.setIfInBounds_toArray]
    try simp only [List.set_cons_succ]
    try simp only [List.set_cons_zero]
    refine wpAnyH_ready (rs := [7]) (by kernel_rfl) (by simp) ?_
    refine AllReadyH.cons rfl (fun K hK => ?_) AllReadyH.nil
    go_simp
    refine hK.out _ _ trivial (fun _ => ?_)
    clear hK K
    try simp only [List.getElem_toArray]
    try simp only [List.getElem_cons_succ]
    try simp only [List.getElem_cons_zero]
    try simp only [Act.put]
    try simp only [List.setIfInBounds_toArray]
    try simp only [List.set_cons_succ]
    try simp only [List.set_cons_zero]
    refine wpAnyH_ready (rs := [8]) (by kernel_rfl) (by simp) ?_
    refine AllReadyH.cons rfl (fun K hK => ?_) AllReadyH.nil
    obtain ⟨p4, c4, w4, hs4, q7, qf, hB4, hbel, hfr⟩ := HA.out _ _ hc3
    refine stepB_append rfl (.tmp 24) (.tmp 27) 31 rfl (.slice p7 us.length cap7) (.slice (some ⟨w3.heap.size, 0, none⟩) 1 1) rfl rfl (hs4 _) ?_
    refine hK.out _ _ trivial (fun _ => ?_)
    clear hK K
    try simp only [List.getElem_toArray]
    try simp only [List.getElem_cons_succ]
    try simp only [List.getElem_cons_zero]
    try simp only [Act.put]
    try simp only [List.setIfInBounds_toArray]
    try simp only [List.set_cons_succ]
    try simp only [List.set_cons_zero]
    refine wpAnyH_take (i := 9) (v := ?_) rfl (by kernel_rfl) (by kernel_rfl) (by kernel_rfl) (fun _ _ _ h => h) (Or.inl ⟨by kernel_rfl, fun W hSW => by go_simp; try with_reducible rfl⟩) trivial ?_
    try simp only [List.getElem_toArray]
    try simp only [List.getElem_cons_succ]
    try simp only [List.getElem_cons_zero]
    try simp only [Act.put]
    try simp only [List.setIfInBounds_toArray]
    try simp only [List.set_cons_succ]
    try simp only [List.set_cons_zero]
    refine wpAnyH_take (i := 10) (v := ?_) rfl (by kernel_rfl) (by kernel_rfl) (by kernel_rfl) (fun _ _ _ h => h) (Or.inl ⟨by kernel_rfl, fun W hSW => by go_simp; try with_reducible rfl⟩) trivial ?_
    try simp only [List.getElem_toArray]
    try simp only [List.getElem_cons_succ]
    try simp only [List.getElem_cons_zero]
    try simp only [Act.put]
    try simp only [List.setIfInBounds_toArray]
    try simp only [List.set_cons_succ]
    try simp only [List.set_cons_zero]
    refine wpAnyH_ready (rs := [11]) (by kernel_rfl) (by simp) ?_
    refine AllReadyH.cons rfl (fun K hK => ?_) AllReadyH.nil
    go_simp
    refine hK.out _ _ trivial (fun _ => ?_)
    clear hK K
    try simp only [List.getElem_toArray]
    try simp only [List.getElem_cons_succ]
    try simp only [List.getElem_cons_zero]
    try simp only [Act.put]
    try simp only [List.setIfInBounds_toArray]
    try simp only [List.set_cons_succ]
    try simp only [List.set_cons_zero]
    refine wpAnyH_done (by kernel_rfl) ?_ _
    refine NoPanic.normal ?_
    go_wp2
    go_end0
    exact ⟨rfl, _, _, _, hB4, hbel, hfr⟩
  · go_simp
    refine (HC.out _ D0).mono ?_
    rintro e w3 ⟨pu, cu, rfl, hc3⟩
    have q3 := hc3.1.p.c7
    have q3a := fun o => (HSc.out _ _ o hc3).2.1
    refine hK.out _ _ trivial (fun _ => ?_)
    clear hK K
    try simp only [List.getElem_toArray]
    try simp only [List.getElem_cons_succ]
    try simp only [List.getElem_cons_zero]
    try simp only [Act.put]
    try simp only [List.setIfInBounds_toArray]
    try simp only [List.set_cons_succ]
    try simp only [List.set_cons_zero]
    refine wpAnyH_ready (rs := [4, 7]) (by kernel_rfl) (by simp) ?_
    refine AllReadyH.cons rfl (fun K hK => ?_) (AllReadyH.cons rfl (fun K hK => ?_) AllReadyH.nil)
    · go_simp
      refine hK.out _ _ trivial (fun _ => ?_)
      clear hK K
      try simp only [List.getElem_toArray]
      try simp only [List.getElem_cons_succ]
      try simp only [List.getElem_cons_zero]
      try simp only [Act.put]
      try simp only [List.setIfInBounds_toArray]
      try simp only [List.set_cons_succ]
      try simp only [List.set_cons_zero]
      refine wpAnyH_ready (rs := [7]) (by kernel_rfl) (by simp) ?_
      refine AllReadyH.cons rfl (fun K hK => ?_) AllReadyH.nil
      go_simp
      refine hK.out _ _ trivial (fun _ => ?_)
      clear hK K
      try simp only [List.getElem_toArray]
      try simp only [List.getElem_cons_succ]
      try simp only [List.getElem_cons_zero]
      try simp only [Act.put]
      try simp only [List.setIfInBounds_toArray]
      try simp only [List.set_cons_succ]
      try simp only [List.set_cons_zero]
      refine wpAnyH_ready (rs := [8]) (by kernel_rfl) (by simp) ?_
      refine AllReadyH.cons rfl (fun K hK => ?_) AllReadyH.nil
      obtain ⟨p4, c4, w4, hs4, q7, qf, hB4, hbel, hfr⟩ := HA.out _ _ hc3
      refine stepB_append rfl (.tmp 24) (.tmp 27) 31 rfl (.slice p7 us.length cap7) (.slice (some ⟨w3.heap.size, 0, none⟩) 1 1) rfl rfl (hs4 _) ?_
      refine hK.out _ _ trivial (fun _ => ?_)
      clear hK K
      try simp only [List.getElem_toArray]
      try simp only [List.getElem_cons_succ]
      try simp only [List.getElem_cons_zero]
      try simp only [Act.put]
      try simp only [List.setIfInBounds_toArray]
      try simp only [List.set_cons_succ]
      try simp only [List.set_cons_zero]
      refine wpAnyH_take (i := 9) (v := ?_) rfl (by kernel_rfl) (by kernel_rfl) (by kernel_rfl) (fun _ _ _ h => h) (Or.inl ⟨by kernel_rfl, fun W hSW => by go_simp; try with_reducible rfl⟩) trivial ?_
      try simp only [List.getElem_toArray]
      try simp only [List.getElem_cons_succ]
      try simp only [List.getElem_cons_zero]
      try simp only [Act.put]
      try simp only [List.setIfInBounds_toArray]
      try simp only [List.set_cons_succ]
      try simp only [List.set_cons_zero]
      refine wpAnyH_take (i := 10) (v := ?_) rfl (by kernel_rfl) (by kernel_rfl) (by kernel_rfl) (fun _ _ _ h => h) (Or.inl ⟨by kernel_rfl, fun W hSW => by go_simp; try with_reducible rfl⟩) trivial ?_
      try simp only [List.getElem_toArray]
      try simp only [List.getElem_cons_succ]
      try simp only [List.getElem_cons_zero]
      try simp only [Act.put]
      try simp only [List.setIfInBounds_toArray]
      try simp only [List.set_cons_succ]
      try simp only [List.set_cons_zero]
      refine wpAnyH_ready (rs := [11]) (by kernel_rfl) (by simp) ?_
      refine AllReadyH.cons rfl (fun K hK => ?_) AllReadyH.nil
      go_simp
      refine hK.out _ _ trivial (fun _ => ?_)
      clear hK K
      try simp only [List.getElem_toArray]
      try simp only [List.getElem_cons_succ]
      try simp only [List.getElem_cons_zero]
      try simp only [Act.put]
      try simp only [List.setIfInBounds_toArray]
      try simp only [List.set_cons_succ]
      try simp only [List.set_cons_zero]
      refine wpAnyH_done (by kernel_rfl) ?_ _
      refine NoPanic.normal ?_
      go_wp2
      go_end0
      exact ⟨rfl, _, _, _, hB4, hbel, hfr⟩
    · go_simp
      refine hK.out _ _ trivial (fun _ => ?_)
      clear hK K
      try simp only [List.getElem_toArray]
      try simp only [List.getElem_cons_succ]
      try simp only [List.getElem_cons_zero]
      try simp only [Act.put]
      try simp only [List.setIfInBounds_toArray]
      try simp only [List.set_cons_succ]
      try simp only [List.set_cons_zero]
      refine wpAnyH_ready (rs := [4]) (by kernel_rfl) (by simp) ?_
      refine AllReadyH.cons rfl (fun K hK => ?_) AllReadyH.nil
      go_simp
      refine hK.out _ _ trivial (fun _ => ?_)
      clear hK K
      try simp only [List.getElem_toArray]
      try simp only [List.getElem_cons_succ]
      try simp only [List.getElem_cons_zero]
      try simp only [Act.put]
      try simp only [List.setIfInBounds_toArray]
      try simp only [List.set_cons_succ]
      try simp only [List.set_cons_zero]
      refine wpAnyH_ready (rs := [8]) (by kernel_rfl) (by simp) ?_
      refine AllReadyH.cons rfl (fun K hK => ?_) AllReadyH.nil
      obtain ⟨p4, c4, w4, hs4, q7, qf, hB4, hbel, hfr⟩ := HA.out _ _ hc3
      refine stepB_append rfl (.tmp 24) (.tmp 27) 31 rfl (.slice p7 us.length cap7) (.slice (some ⟨w3.heap.size, 0, none⟩) 1 1) rfl rfl (hs4 _) ?_
      refine hK.out _ _ trivial (fun _ => ?_)
      clear hK K
      try simp only [List.getElem_toArray]
      try simp only [List.getElem_cons_succ]
      try simp only [List.getElem_cons_zero]
      try simp only [Act.put]
      try simp only [List.setIfInBounds_toArray]
      try simp only [List.set_cons_succ]
      try simp only [List.set_cons_zero]
      refine wpAnyH_take (i := 9) (v := ?_) rfl (by kernel_rfl) (by kernel_rfl) (by kernel_rfl) (fun _ _ _ h => h) (Or.inl ⟨by kernel_rfl, fun W hSW => by go_simp; try with_reducible rfl⟩) trivial ?_
      try simp only [List.getElem_toArray]
      try simp only [List.getElem_cons_succ]
      try simp only [List.getElem_cons_zero]
      try simp only [Act.put]
      try simp only [List.setIfInBounds_toArray]
      try simp only [List.set_cons_succ]
      try simp only [List.set_cons_zero]
      refine wpAnyH_take (i := 10) (v := ?_) rfl (by kernel_rfl) (by kernel_rfl) (by kernel_rfl) (fun _ _ _ h => h) (Or.inl ⟨by kernel_rfl, fun W hSW => by go_simp; try with_reducible rfl⟩) trivial ?_
      try simp only [List.getElem_toArray]
      try simp only [List.getElem_cons_succ]
      try simp only [List.getElem_cons_zero]
      try simp only [Act.put]
      try simp only [List.setIfInBounds_toArray]
      try simp only [List.set_cons_succ]
      try simp only [List.set_cons_zero]
      refine wpAnyH_ready (rs := [11]) (by kernel_rfl) (by simp) ?_
      refine AllReadyH.cons rfl (fun K hK => ?_) AllReadyH.nil
      go_simp
      refine hK.out _ _ trivial (fun _ => ?_)
      clear hK K
      try simp only [List.getElem_toArray]
      try simp only [List.getElem_cons_succ]
      try simp only [List.getElem_cons_zero]
      try simp only [Act.put]
      try simp only [List.setIfInBounds_toArray]
      try simp only [List.set_cons_succ]
      try simp only [List.set_cons_zero]
      refine wpAnyH_done (by kernel_rfl) ?_ _
      refine NoPanic.normal ?_
      go_wp2
      go_end0
      exact ⟨rfl, _, _, _, hB4, hbel, hfr⟩
end
end Go.Proofs.YtkneogfeokckjaaGreatDoor.BInts

namespace Go.Proofs.YtkneogfeokckjaaGreatDoor.BAvps
open Go.RowKit

abbrev El := { x : Av // GoodA x }
def elCells (x : El) : List Value := avCells x.1
theorem elLen (x : El) : (elCells x).length = 5 := rfl
theorem elOne (x : El) : ∀ u ∈ elCells x, u.oneCell' = true := avCells_one x.1
theorem infoB : (Tryz.prog.info? 72).map (fun i => (i.zero, i.size, i.bytes)) = some (some (.agg #[.bool false, .bool false, .int .i64 0, .int .i64 0, .string ⟨#[]⟩]), 5, 40) := infoAv
theorem av_self {x : Av} (h : GoodA x) (W : World) : Sem.run Tryz.prog (Op.equalIn 10000 72 (.agg (avCells x).toArray) (.agg (avCells x).toArray)) W = .ok true W := by
  have e := av_eq h h W
  rw [sameA_iff.2 rfl] at e
  exact e
end Go.Proofs.YtkneogfeokckjaaGreatDoor.BAvps

namespace Go.Proofs.YtkneogfeokckjaaGreatDoor.BAvps
open Go.RowKit

def rowB (l : List El) : List Value := l.flatMap elCells
theorem rowB_append (a b : List El) : rowB (a ++ b) = rowB a ++ rowB b := by simp [rowB]
theorem rowB_cons (a : El) (r : List El) : rowB (a :: r) = elCells a ++ rowB r := by simp [rowB]
theorem rowB_length (l : List El) : (rowB l).length = l.length * 5 := by
  induction l with
  | nil => rfl
  | cons a r ih => rw [rowB_cons, List.length_append, ih, elLen]; simp; omega
theorem rowB_get {l : List El} {k : Nat} {x : El} (h : l[k]? = some x) (j : Nat) (hj : j < 5) : (rowB l)[k * 5 + j]? = (elCells x)[j]? := by
  induction l generalizing k with
  | nil => simp at h
  | cons a r ih =>
    cases k with
    | zero =>
      simp at h
      subst h
      rw [rowB_cons, List.getElem?_append_left (by rw [elLen]; omega)]
      simp
    | succ k =>
      simp at h
      rw [rowB_cons, List.getElem?_append_right (by rw [elLen]; omega), ← ih h, elLen]
      congr 1
      omega
theorem rowB_oneCell (l : List El) : ∀ u ∈ rowB l, u.oneCell' = true := by
  intro u hu
  obtain ⟨g, _, hg⟩ := List.mem_flatMap.1 hu
  exact elOne g u hg
theorem rowB_set (L : List El) {k : Nat} (hk : k < L.length) (x : El) : rowB (L.set k x) = (rowB L).take (k * 5) ++ elCells x ++ (rowB L).drop (k * 5 + 5) := by
  induction L generalizing k with
  | nil => simp at hk
  | cons a r ih =>
    cases k with
    | zero => rw [List.set_cons_zero, rowB_cons, rowB_cons, Nat.zero_mul, List.take_zero, List.nil_append, Nat.zero_add, List.drop_append, elLen, Nat.sub_self, List.drop_of_length_le (by rw [elLen]; exact Nat.le_refl _)]; simp
    | succ k =>
      have h1 : (k + 1) * 5 = (elCells a).length + k * 5 := by rw [elLen]; omega
      have h2 : (k + 1) * 5 + 5 = (elCells a).length + (k * 5 + 5) := by rw [elLen]; omega
      rw [List.set_cons_succ, rowB_cons, rowB_cons, ih (by simpa using hk), h2, List.drop_length_add_append, h1, List.take_length_add_append]
      simp only [List.append_assoc]

theorem sizeB (x : El) : (Tryz.prog.info? 72).map (·.size) = some (elCells x).length := by
  rw [elLen]
  kernel_rfl
def OwnB (w : World) (base : Nat) (v : Value) (l : List El) : Prop := w.ownsRow base 72 5 v l.length (rowB l)
section
variable {w w' W : World} {base base' : Nat} {v : Value} {l : List El}
theorem OwnB.nil (w : World) (base : Nat) : OwnB w base (.slice none 0 0) [] := World.ownsRow_nil _ _ _ _
theorem OwnB.kept (h : OwnB w base v l) (hk : Kept (fun _ => False) w w') : OwnB w' base v l := owned_kept h hk (fun _ _ => id)
theorem OwnB.mono (h : OwnB w base v l) (hb : base' ≤ base) : OwnB w base' v l := by
  rcases h.2 with ⟨rfl, h0⟩ | ⟨g, cap, cur, rfl, hb', hg, h1, h2, h3, h4⟩
  · exact ⟨h.1, Or.inl ⟨rfl, h0⟩⟩
  · exact ⟨h.1, Or.inr ⟨g, cap, cur, rfl, Nat.le_trans hb hb', hg, h1, h2, h3, h4⟩⟩
theorem OwnB.block (h : OwnB w base v l) {i : Nat} (hi : v.ownBlock = some i) : (∃ cur, w.heap[i]? = some (.cells cur 72 (0, 0))) ∧ base ≤ i := by
  rcases h.2 with ⟨rfl, _⟩ | ⟨g, cap, cur, rfl, hb, hg, _⟩
  · cases hi
  · have : g = i := by simpa [Value.ownBlock] using hi
    subst this
    exact ⟨⟨cur, hg⟩, hb⟩
/-- A list that is read. -/
def RdB (w : World) (v : Value) (l : List El) : Prop := ∃ base, OwnB w base v l
theorem OwnB.tags (h : OwnB w base v l) : RdB w v l := ⟨base, h⟩
theorem OwnB.rowB (h : OwnB W base v l) (hne : l ≠ []) : ∃ g o cap, v = .slice (some ⟨g, o, none⟩) l.length cap ∧ ∀ (j : Nat) (u : Value), (rowB l)[j]? = some u → W.cell? ((⟨g, o, none⟩ : Addr).add j) = some u := by
  rcases h.2 with ⟨_, h0⟩ | ⟨g, cap, cur, rfl, hb, hg, h1, h2, h3, h4⟩
  · exact absurd (List.eq_nil_of_length_eq_zero h0) hne
  · refine ⟨g, 0, cap, rfl, fun j u hj => ?_⟩
    have hlt := (List.getElem?_eq_some_iff.1 hj).1
    rw [rowB_length] at hlt
    rw [addr_add, ← hj, ← h4, List.getElem?_take_of_lt hlt]
    simp [World.cell?, hg]
/-- One element, as it is loaded, and as it is written. -/
theorem OwnB.at {p : Option Addr} {n cap : Nat} (h : OwnB W base (.slice p n cap) l) {k : Nat} {y : El} (hk : l[k]? = some y) : ∃ g, p = some ⟨g, 0, none⟩ ∧ n = l.length ∧ l.length ≤ cap ∧ W.rangeAt g (k * 5) (elCells y) := by
  have hlt := (List.getElem?_eq_some_iff.1 hk).1
  rcases h.2 with ⟨_, h0⟩ | ⟨g, cap', cur, e, hb, hg, h1, h2, h3, h4⟩
  · omega
  · simp only [Value.slice.injEq] at e
    obtain ⟨rfl, rfl, rfl⟩ := e
    have hc : ∀ i, i < l.length * 5 → W.cell? ⟨g, i, none⟩ = (BAvps.rowB l)[i]? := fun i hi => by
      rw [← h4, List.getElem?_take_of_lt hi]
      simp [World.cell?, hg]
    refine ⟨g, rfl, rfl, h1, fun j u hj => ?_⟩
    have hj' := (List.getElem?_eq_some_iff.1 hj).1
    rw [elLen] at hj'
    rw [hc _ (by omega), rowB_get hk j hj']
    exact hj
theorem own_set {g n cap : Nat} {L : List El} (h : OwnB W base (.slice (some ⟨g, 0, none⟩) n cap) L) {k : Nat} (hk : k < L.length) (x : El) :
    ∃ w', (Instr.storeAt 72 (.pointer (some ⟨g, k * 5, none⟩)) (.agg (elCells x).toArray)).run Tryz.prog W = .ok () w' ∧ OwnB w' base (.slice (some ⟨g, 0, none⟩) n cap) (L.set k x) ∧ Kept (fun i => (Value.slice (some ⟨g, 0, none⟩) n cap).ownBlock = some i) W w' := by
  rcases h.2 with ⟨h', _⟩ | ⟨g', cap', cur, h', hb, hg, h1, h2, h3, h4⟩
  · simp at h'
  · simp only [Value.slice.injEq, Option.some.injEq, Addr.mk.injEq, and_true] at h'
    obtain ⟨rfl, rfl, rfl⟩ := h'
    have hle : k * 5 + (elCells x).length ≤ cur.size := by rw [elLen, h3]; omega
    have hst := storeB (P := Tryz.prog) (ty := 72) (elCells x) hg hle (elOne x) (sizeB x)
    rw [elLen] at hst
    refine ⟨_, hst, ⟨rowB_length _, Or.inr ⟨g, cap, _, by rw [List.length_set], hb, setRow_block hg _, by rw [List.length_set]; exact h1, h2, ?_, ?_⟩⟩, ?_⟩
    · have : (cur.toList.take (k * 5) ++ elCells x ++ cur.toList.drop (k * 5 + 5)).length = cap * 5 := by
        rw [List.length_append, List.length_append, List.length_take, List.length_drop, elLen, Array.length_toList, h3]
        omega
      simpa using this
    · rw [List.length_set, rowB_set L hk x, ← h4]
      show (cur.toList.take (k * 5) ++ elCells x ++ cur.toList.drop (k * 5 + 5)).take (L.length * 5) = _
      have hl1 : (cur.toList.take (k * 5) ++ elCells x).length = k * 5 + 5 := by
        rw [List.length_append, List.length_take, elLen, Array.length_toList, h3]
        omega
      rw [List.take_append, hl1, List.take_of_length_le (by rw [hl1]; omega), List.take_take, Nat.min_eq_left (by omega), List.drop_take]
    · exact setRow_kept W g _
/-- What 'append' makes of two lists. -/
def AppB (w : World) (v u v' : Value) (w' : World) : Prop := ∀ ty, (Builtin.append_ #[22, 22] ty #[v, u]).run Tryz.prog w = .ok v' w'
theorem cells_new (w : World) (q : El) : ∀ (j : Nat) (x : Value), (rowB [q])[j]? = some x → (w.alloc (.cells (elCells q).toArray 72)).cell? ((⟨w.heap.size, 0, none⟩ : Addr).add j) = some x := by
  intro j x h
  rw [addr_add, World.cell?_alloc_new]
  simpa [BAvps.rowB] using h
/-- 'append' of one element. -/
theorem pushB {lo : Nat} (q : El) (hb : lo ≤ w.heap.size) (h : OwnB w lo v l) (hn : l.length ≤ 100000) :
    ∃ v' w', AppB (w.alloc (.cells (elCells q).toArray 72)) v (.slice (some ⟨w.heap.size, 0, none⟩) 1 1) v' w' ∧ OwnB w' lo v' (l ++ [q]) ∧ Kept (fun i => v.ownBlock = some i) w w' := by
  obtain ⟨i0, hi0, hz0, hz1, hz2⟩ := info_parts infoB
  have hsz : (w.alloc (.cells (elCells q).toArray 72)).heap.size = w.heap.size + 1 := by simp
  obtain ⟨v', w', h1, h2, h3⟩ := owned_append (P := Tryz.prog) Tryz.underlying22 hi0 hz0 hz1 hz2 rfl (by decide) (World.ownsRow.alloc h (.cells (elCells q).toArray 72)) (by omega) ⟨w.heap.size, 0, none⟩ 1 1 (BAvps.rowB [q]) (by decide) (rowB_length _) (cells_new w q) (rowB_oneCell _) (by omega) (by decide)
  refine ⟨v', w', h1, ?_, ?_⟩
  · unfold OwnB
    rw [rowB_append, List.length_append]
    exact h2
  · have hk0 := (Kept.refl (fun i => v.ownBlock = some i) w).alloc (.cells (elCells q).toArray 72)
    rcases h3 with ⟨g', cap', rfl, rfl, hk⟩ | ⟨cap', rfl, hk, _⟩
    · exact hk0.andThen hk (fun i _ e => by rw [e]; rfl)
    · exact hk0.andThen hk (fun i _ e => e.elim)
/-- 'append' of a list that is read onto nothing. -/
theorem copyB_run {u : Value} {b : List El} (hu : RdB w u b) (hn : b.length ≤ 100000) :
    ∃ v' w', AppB w (.slice none 0 0) u v' w' ∧ OwnB w' w.heap.size v' b ∧ Kept (fun _ => False) w w' := by
  obtain ⟨base, hu⟩ := hu
  obtain ⟨i0, hi0, hz0, hz1, hz2⟩ := info_parts infoB
  by_cases hb : b = []
  · subst hb
    obtain ⟨p, cap, hp⟩ := slice_of hu
    have e0 : ([] : List El).length = 0 := rfl
    rw [e0] at hp
    subst hp
    have hsrc : Src Tryz.prog i0.size 22 (.slice p 0 cap) 0 [] w := by
      cases p with
      | none => exact Src.ofNil w Tryz.underlying22 cap
      | some a => exact Src.ofSlice w Tryz.underlying22 a 0 cap [] (by simp) (fun j u hj => by simp at hj) (fun u hu => by simp at hu)
    exact ⟨_, w, fun ty => run_append_nothing w _ _ _ _ i0 Tryz.underlying22 hi0 none 0 0 (Nat.le_refl _) _ hsrc, OwnB.nil _ _, Kept.refl _ _⟩
  · obtain ⟨g, o, cap, rfl, hc⟩ := hu.rowB hb
    have hpos : 0 < b.length := List.length_pos_iff.2 hb
    obtain ⟨v', w', h1, h2, h3⟩ := owned_append (P := Tryz.prog) Tryz.underlying22 hi0 hz0 hz1 hz2 rfl (by decide) (World.ownsRow_nil w w.heap.size 72 5) (Nat.le_refl _) ⟨g, o, none⟩ b.length cap (BAvps.rowB b) hpos (rowB_length _) hc (rowB_oneCell _) (by omega) (by decide)
    refine ⟨v', w', h1, ?_, ?_⟩
    · rw [List.nil_append, Nat.zero_add] at h2
      exact h2
    · rcases h3 with ⟨g', cap', e, _, _⟩ | ⟨cap', rfl, hk, _⟩
      · cases e
      · exact hk
end
set_option maxHeartbeats 1000000 in
set_option maxRecDepth 100000 in
theorem copyAvps_any (v : Value) (l : List El) (w : World) (hv : RdB w v l) (hl : l.length ≤ 100000) :
    Calls Tryz.prog 51 #[v] w fun e w' => ∃ u, e = .returned u ∧ OwnB w' w.heap.size u l ∧ Kept (fun _ => False) w w' := by
  obtain ⟨u, w1, hr, ho, hk⟩ := copyB_run hv hl
  have HO := hid ho
  have HK := hid hk
  clear ho hk hv
  go_enter Tryz.func51, Tryz.ntmps51
  go_wp2_with (at_builtin; refine Lib.wpList_append_run _ rfl _ _ _ _ rfl _ _ rfl rfl _ _ (hr _) ?_)
  go_ret
  exact ⟨_, rfl, HO.out, HK.out⟩
end Go.Proofs.YtkneogfeokckjaaGreatDoor.BAvps

namespace Go.Proofs.YtkneogfeokckjaaGreatDoor
open Go.RowKit

def nameF (i k : Nat) : ByteArray := ⟨#[109, UInt8.ofNat (65 + i % 26), UInt8.ofNat (65 + i / 26 % 26), UInt8.ofNat (48 + k % 10), UInt8.ofNat (48 + k / 10 % 10), UInt8.ofNat (48 + k / 100 % 10)]⟩

theorem conv_six (w : World) (i k : Nat) (g : Nat) (hg : w.heap[g]? = some (.cells #[.int .u8 109, .int .u8 (65 + (i : Int) % 26), .int .u8 (65 + (i : Int) / 26 % 26), .int .u8 (48 + (k : Int) % 10), .int .u8 (48 + (k : Int) / 10 % 10), .int .u8 (48 + (k : Int) / 100 % 10)] 5 (0, 0))) :
    (convert 127 9 (.slice (some ⟨g, 0, none⟩) 6 6)).run Tryz.prog w = .ok (.string (nameF i k)) w := by
  refine put_conv (base := 0) (n := 6) (l := [109, UInt8.ofNat (65 + i % 26), UInt8.ofNat (65 + i / 26 % 26), UInt8.ofNat (48 + k % 10), UInt8.ofNat (48 + k / 10 % 10), UInt8.ofNat (48 + k / 100 % 10)]) ⟨rfl, Or.inr ⟨g, 6, _, rfl, Nat.zero_le _, hg, Nat.le_refl _, by unfold maxLen; omega, rfl, ?_⟩⟩
  simp only [Lib.byteCells, List.map_cons, List.map_nil, UInt8.toNat_ofNat']
  rw [Nat.mod_eq_of_lt (show 65 + i % 26 < 2 ^ 8 by omega), Nat.mod_eq_of_lt (show 65 + i / 26 % 26 < 2 ^ 8 by omega), Nat.mod_eq_of_lt (show 48 + k % 10 < 2 ^ 8 by omega), Nat.mod_eq_of_lt (show 48 + k / 10 % 10 < 2 ^ 8 by omega), Nat.mod_eq_of_lt (show 48 + k / 100 % 10 < 2 ^ 8 by omega)]
  simp

set_option maxHeartbeats 1000000 in
set_option maxRecDepth 100000 in
theorem name_any (i k : Nat) (hi : i ≤ 1000000) (hk : k ≤ 1000000) (w : World) :
    Calls Tryz.prog 181 #[.int .i64 (i : Int), .int .i64 (k : Int)] w fun e w' => e = .returned (.string (nameF i k)) ∧ Kept (fun _ => False) w w' := by
  have hcv := conv_six (w.alloc (.cells #[.int .u8 109, .int .u8 (65 + (i : Int) % 26), .int .u8 (65 + (i : Int) / 26 % 26), .int .u8 (48 + (k : Int) % 10), .int .u8 (48 + (k : Int) / 10 % 10), .int .u8 (48 + (k : Int) / 100 % 10)] 5)) i k w.heap.size (heap_alloc_new w _)
  go_enter Tryz.func181, Tryz.ntmps181
  go_wp2
  go_ret
  exact ⟨rfl, (Kept.refl _ w).alloc _⟩

end Go.Proofs.YtkneogfeokckjaaGreatDoor

namespace Go.Proofs.YtkneogfeokckjaaGreatDoor.BAvps
open Go.RowKit

/-- '==' of two structs or arrays, in a region that draws. -/
theorem execOp_eqlB {P : Program} {f : Operand → Value} {o : Oper} {t t' : TypeId} {x y : Nat} {A A' : Array Value} {B : Bool} {W : World} (hm : P.eqGuardType P.depth t = false) (ho : o.op = Op.binOp .eql t (.tmp x) (.tmp y) t') (hx : f (.tmp x) = .agg A) (hy : f (.tmp y) = .agg A') (h : (Op.equalIn 10000 t (.agg A) (.agg A')).run P W = .ok B W) : Sem.run P (execOp f o) W = .ok (Next.value (.bool B)) W := by
  unfold execOp
  simp only [ho, hx, hy, binOp]
  simp [go_sem, hm, Op.equal, Op.maxDepth, h]
theorem nameF_size (i k : Nat) : (nameF i k).size = 6 := rfl
theorem markG (i k : Nat) : GoodA ⟨false, false, 0, -1 - ((i % 100000 : Nat) : Int), nameF i k⟩ := ⟨⟨by show (-9223372036854775808 : Int) ≤ 0; decide, by show (0 : Int) ≤ 9223372036854775807; decide⟩, by show -9223372036854775808 ≤ -1 - ((i % 100000 : Nat) : Int) ∧ -1 - ((i % 100000 : Nat) : Int) ≤ 9223372036854775807; omega, by show (nameF i k).size ≤ maxLen; rw [nameF_size]; unfold maxLen; omega⟩
def markT (i k : Nat) : El := ⟨_, markG i k⟩
theorem markT_cells (i k : Nat) (hi : i ≤ 1000) : elCells (markT i k) = [.bool false, .bool false, .int .i64 0, .int .i64 (-1 - (i : Int)), .string (nameF i k)] := by
  have e : i % 100000 = i := Nat.mod_eq_of_lt (by omega)
  show [Value.bool false, .bool false, .int .i64 0, .int .i64 (-1 - ((i % 100000 : Nat) : Int)), .string (nameF i k)] = _
  rw [e]
def marksT (i a n : Nat) : List El := (List.range n).map fun j => markT i (a + j)
theorem marksT_length (i a n : Nat) : (marksT i a n).length = n := by simp [marksT]
theorem marksT_snoc (i a n : Nat) : marksT i a (n + 1) = marksT i a n ++ [markT i (a + n)] := by simp [marksT, List.range_succ]
theorem marksT_append (i a n m : Nat) : marksT i a (n + m) = marksT i a n ++ marksT i (a + n) m := by
  induction m with
  | zero => simp [marksT]
  | succ m ih => rw [← Nat.add_assoc, marksT_snoc, ih, marksT_snoc, List.append_assoc, Nat.add_assoc]
theorem marksT_get {i a n j : Nat} (h : j < n) : (marksT i a n)[j]? = some (markT i (a + j)) := by simp [marksT, h]


set_option maxHeartbeats 2000000 in
set_option maxRecDepth 100000 in
theorem markAvps_any (i a n : Nat) (hi : i ≤ 1000) (ha : a ≤ 10000) (hn : n ≤ 10000) (w : World) :
    Calls Tryz.prog 161 #[.int .i64 (i : Int), .int .i64 (a : Int), .int .i64 (n : Int)] w fun e w' => ∃ v, e = .returned v ∧ OwnB w' w.heap.size v (marksT i a n) ∧ Kept (fun _ => False) w w' := by
  go_enter Tryz.func161, Tryz.ntmps161
  go_wp2
  go_loopw [7, 8] (fun v7 vk wr => ∃ j : Nat, j ≤ n ∧ vk = .int .i64 ((a : Int) + (j : Int)) ∧ Hid (OwnB wr w.heap.size v7 (marksT i a j) ∧ Kept (fun _ => False) w wr)) (fun _ vk _ => (a + n) - (intOf vk).toNat)
  case atStart => exact ⟨0, Nat.zero_le _, by simp, OwnB.nil _ _, Kept.refl _ _⟩
  case round =>
    obtain ⟨j, hj, rfl, HI⟩ := hrel
    by_cases hlt : j < n
    · have hltz : (a : Int) + (j : Int) < (a : Int) + (n : Int) := by omega
      obtain ⟨p7, c7, h7⟩ := slice_of HI.out.1
      subst h7
      have HN := hid (name_any i (a + j) (by omega) (by omega))
      rw [show ((a + j : Nat) : Int) = (a : Int) + (j : Int) by omega] at HN
      go_wp2_with fail
      refine (HN.out _).mono ?_
      rintro e w1 ⟨rfl, hk1⟩
      have H1 := hid (HI.out.1.kept hk1)
      have K1 := hid (HI.out.2.trans hk1)
      clear hk1 HI HN
      obtain ⟨v', w2, happ, hown', hk'⟩ := pushB (markT i (a + j)) K1.out.size H1.out (by rw [marksT_length]; omega)
      have R : Hid (OwnB w2 w.heap.size v' (marksT i a (j + 1)) ∧ Kept (fun _ => False) w w2) := by
        refine ⟨?_, K1.out.andThen hk' (fun k hk e => by have := (H1.out.block e).2; omega)⟩
        rw [marksT_snoc]
        exact hown'
      rw [markT_cells i (a + j) hi] at happ
      clear hown' hk' H1 K1
      go_wp2_with (at_builtin; refine Lib.wpList_append_run _ rfl _ _ _ _ rfl _ _ rfl rfl _ _ (happ _) ?_)
      exact ⟨⟨j + 1, hlt, by go_num, R.out⟩, by simp [intOf]; omega⟩
    · obtain rfl : j = n := by omega
      have hltz : ¬ (a : Int) + (j : Int) < (a : Int) + (j : Int) := by omega
      go_wp2
      go_ret
      exact ⟨_, rfl, HI.out.1, HI.out.2⟩

set_option maxHeartbeats 4000000 in
set_option maxRecDepth 100000 in
theorem sameAvps_eq (v u : Value) (l : List El) (w : World) (hv : RdB w v l) (hu : RdB w u l) (hl : l.length ≤ 1000000) :
    Calls Tryz.prog 20 #[v, u] w fun e w' => e = .returned (.bool true) ∧ Kept (fun _ => False) w w' := by
  obtain ⟨b1, hv⟩ := hv
  obtain ⟨b2, hu⟩ := hu
  obtain ⟨p, cap, hp⟩ := slice_of hv
  subst hp
  obtain ⟨q, cbp, hq⟩ := slice_of hu
  subst hq
  have HV := hid (fun W (hk : Kept (fun _ => False) w W) => hv.kept hk)
  have HU := hid (fun W (hk : Kept (fun _ => False) w W) => hu.kept hk)
  clear hv hu
  go_enter Tryz.func20, Tryz.ntmps20
  go_wp2
  go_loopw [5] (fun vi wr => ∃ j : Nat, j ≤ l.length ∧ vi = .int .i64 (j : Int) ∧ Hid (Kept (fun _ => False) w wr)) (fun vi _ => l.length - (intOf vi).toNat)
  case atStart => exact ⟨0, Nat.zero_le _, rfl, Kept.refl _ _⟩
  case round =>
    obtain ⟨j, hj, rfl, HI⟩ := hrel
    by_cases hlt : j < l.length
    · have hltz : (j : Int) < (l.length : Int) := by omega
      obtain ⟨x, hx⟩ : ∃ x, l[j]? = some x := ⟨l[j], by simp [hlt]⟩
      obtain ⟨g, rfl, _, hcap, _⟩ := (HV.out _ HI.out).at hx
      obtain ⟨g2, rfl, _, hcbp, _⟩ := (HU.out _ HI.out).at hx
      have d1 : ∀ U, Kept (fun _ => False) wr U → U.rangeAt g (j * 5) (elCells x) := fun U hk => by
        obtain ⟨g', e', _, _, q⟩ := (HV.out _ (HI.out.trans hk)).at hx
        simp only [Option.some.injEq, Addr.mk.injEq, and_true] at e'
        subst e'
        exact q
      have d2 : ∀ U, Kept (fun _ => False) wr U → U.rangeAt g2 (j * 5) (elCells x) := fun U hk => by
        obtain ⟨g', e', _, _, q⟩ := (HU.out _ (HI.out.trans hk)).at hx
        simp only [Option.some.injEq, Addr.mk.injEq, and_true] at e'
        subst e'
        exact q
      have hsz := sizeB x
      have heq : ∀ W, Sem.run Tryz.prog (Op.equalIn 10000 72 (.agg (elCells x).toArray) (.agg (elCells x).toArray)) W = .ok true W := av_self x.2
      generalize elCells x = cs at *
      clear hx
      go_wp2
      refine wp_region_held_drew (S := Kept (fun _ => False) wr) (by kernel_rfl) ((Kept.refl _ wr).drew) (fun hSd => ?_)
      refine wpAnyH_take (i := 0) (v := ?_) rfl (by kernel_rfl) (by kernel_rfl) (by kernel_rfl) (fun _ _ _ h => h) (Or.inl ⟨by kernel_rfl, fun W hSW => by go_simp; try with_reducible rfl⟩) (by assumption) ?_
      try simp only [List.getElem_toArray]
      try simp only [List.getElem_cons_succ]
      try simp only [List.getElem_cons_zero]
      try simp only [Act.put]
      try simp only [List.setIfInBounds_toArray]
      try simp only [List.set_cons_succ]
      try simp only [List.set_cons_zero]
      refine wpAnyH_take (i := 1) (v := ?_) rfl (by kernel_rfl) (by kernel_rfl) (by kernel_rfl) (fun _ _ _ h => h) (Or.inl ⟨by kernel_rfl, fun W hSW => by go_simp; try with_reducible rfl⟩) (by assumption) ?_
      try simp only [List.getElem_toArray]
      try simp only [List.getElem_cons_succ]
      try simp only [List.getElem_cons_zero]
      try simp only [Act.put]
      try simp only [List.setIfInBounds_toArray]
      try simp only [List.set_cons_succ]
      try simp only [List.set_cons_zero]
      refine wpAnyH_take (i := 2) (v := ?_) rfl (by kernel_rfl) (by kernel_rfl) (by kernel_rfl) (fun _ _ _ h => h) (Or.inl ⟨by kernel_rfl, fun W hSW => by go_simp; try with_reducible rfl⟩) (by assumption) ?_
      try simp only [List.getElem_toArray]
      try simp only [List.getElem_cons_succ]
      try simp only [List.getElem_cons_zero]
      try simp only [Act.put]
      try simp only [List.setIfInBounds_toArray]
      try simp only [List.set_cons_succ]
      try simp only [List.set_cons_zero]
      refine wpAnyH_take (i := 3) (v := .agg cs.toArray) rfl (by kernel_rfl) (by kernel_rfl) (by kernel_rfl) (fun _ _ _ h => h) (yieldsIf_load_mid (by kernel_rfl) 72 (.tmp 19) rfl g (j * 5) rfl cs _ d1 Tryz.underlying72 rfl hsz) (by assumption) ?_
      try simp only [List.getElem_toArray]
      try simp only [List.getElem_cons_succ]
      try simp only [List.getElem_cons_zero]
      try simp only [Act.put]
      try simp only [List.setIfInBounds_toArray]
      try simp only [List.set_cons_succ]
      try simp only [List.set_cons_zero]
      refine wpAnyH_take (i := 4) (v := ?_) rfl (by kernel_rfl) (by kernel_rfl) (by kernel_rfl) (fun _ _ _ h => h) (Or.inl ⟨by kernel_rfl, fun W hSW => by go_simp; try with_reducible rfl⟩) (by assumption) ?_
      try simp only [List.getElem_toArray]
      try simp only [List.getElem_cons_succ]
      try simp only [List.getElem_cons_zero]
      try simp only [Act.put]
      try simp only [List.setIfInBounds_toArray]
      try simp only [List.set_cons_succ]
      try simp only [List.set_cons_zero]
      refine wpAnyH_take (i := 5) (v := ?_) rfl (by kernel_rfl) (by kernel_rfl) (by kernel_rfl) (fun _ _ _ h => h) (Or.inl ⟨by kernel_rfl, fun W hSW => by go_simp; try with_reducible rfl⟩) (by assumption) ?_
      try simp only [List.getElem_toArray]
      try simp only [List.getElem_cons_succ]
      try simp only [List.getElem_cons_zero]
      try simp only [Act.put]
      try simp only [List.setIfInBounds_toArray]
      try simp only [List.set_cons_succ]
      try simp only [List.set_cons_zero]
      refine wpAnyH_take (i := 6) (v := ?_) rfl (by kernel_rfl) (by kernel_rfl) (by kernel_rfl) (fun _ _ _ h => h) (Or.inl ⟨by kernel_rfl, fun W hSW => by go_simp; try with_reducible rfl⟩) (by assumption) ?_
      try simp only [List.getElem_toArray]
      try simp only [List.getElem_cons_succ]
      try simp only [List.getElem_cons_zero]
      try simp only [Act.put]
      try simp only [List.setIfInBounds_toArray]
      try simp only [List.set_cons_succ]
      try simp only [List.set_cons_zero]
      refine wpAnyH_take (i := 7) (v := .agg cs.toArray) rfl (by kernel_rfl) (by kernel_rfl) (by kernel_rfl) (fun _ _ _ h => h) (yieldsIf_load_mid (by kernel_rfl) 72 (.tmp 23) rfl g2 (j * 5) rfl cs _ d2 Tryz.underlying72 rfl hsz) (by assumption) ?_
      try simp only [List.getElem_toArray]
      try simp only [List.getElem_cons_succ]
      try simp only [List.getElem_cons_zero]
      try simp only [Act.put]
      try simp only [List.setIfInBounds_toArray]
      try simp only [List.set_cons_succ]
      try simp only [List.set_cons_zero]
      refine wpAnyH_take (i := 8) (v := .bool true) rfl (by kernel_rfl) (by kernel_rfl) (by kernel_rfl) (fun _ _ _ h => h) (Or.inl ⟨by kernel_rfl, fun W _ => execOp_eqlB Tryz.eqGuardType72 rfl rfl rfl (heq W)⟩) (by assumption) ?_
      try simp only [List.getElem_toArray]
      try simp only [List.getElem_cons_succ]
      try simp only [List.getElem_cons_zero]
      try simp only [Act.put]
      try simp only [List.setIfInBounds_toArray]
      try simp only [List.set_cons_succ]
      try simp only [List.set_cons_zero]
      refine wpAnyH_take (i := 9) (v := ?_) rfl (by kernel_rfl) (by kernel_rfl) (by kernel_rfl) (fun _ _ _ h => h) (Or.inl ⟨by kernel_rfl, fun W hSW => by go_simp; try with_reducible rfl⟩) (by assumption) ?_
      try simp only [List.getElem_toArray]
      try simp only [List.getElem_cons_succ]
      try simp only [List.getElem_cons_zero]
      try simp only [Act.put]
      try simp only [List.setIfInBounds_toArray]
      try simp only [List.set_cons_succ]
      try simp only [List.set_cons_zero]
      refine wpAnyH_done (by kernel_rfl) ?_ _
      go_wp2
      exact ⟨⟨j + 1, hlt, by go_num, HI.out.drew⟩, by simp [intOf]; omega⟩
    · obtain rfl : j = l.length := by omega
      have hltz : ¬ (l.length : Int) < (l.length : Int) := by omega
      go_wp2
      go_ret
      exact ⟨rfl, HI.out⟩
end Go.Proofs.YtkneogfeokckjaaGreatDoor.BAvps

namespace Go.Proofs.YtkneogfeokckjaaGreatDoor.BAvps
open Go.RowKit

/-- A row of lists. -/
def RowS (W : World) (base : Nat) (v : Value) (vs : List Value) : Prop := W.ownsRow base 22 1 v vs.length vs

/-- The lists vs hold the packets of Ls. -/
structure Fam (W : World) (base : Nat) (vs : List Value) (Ls : List (List El)) : Prop where
  len : vs.length = Ls.length
  own : ∀ (r : Nat) (v : Value) (L : List El), vs[r]? = some v → Ls[r]? = some L → OwnB W base v L

theorem own_lt {W : World} {base : Nat} {v : Value} {L : List El} (h : OwnB W base v L) {g : Nat} (hg : v.ownBlock = some g) : base ≤ g ∧ g < W.heap.size := World.ownsRow.lt h g hg

theorem own_kept {W W' : World} {S : Nat → Prop} {base : Nat} {v : Value} {L : List El} (h : OwnB W base v L) (hk : Kept S W W') (hS : ∀ i, v.ownBlock = some i → ¬ S i) : OwnB W' base v L := owned_kept h hk hS

theorem Fam.kept {W W' : World} {S : Nat → Prop} {base : Nat} {vs : List Value} {Ls : List (List El)} (h : Fam W base vs Ls) (hk : Kept S W W') (hS : ∀ (r : Nat) (v : Value) (i : Nat), vs[r]? = some v → v.ownBlock = some i → ¬ S i) : Fam W' base vs Ls :=
  ⟨h.len, fun r v L hv hL => own_kept (h.own r v L hv hL) hk (fun i hi => hS r v i hv hi)⟩

theorem Fam.kept0 {W W' : World} {base : Nat} {vs : List Value} {Ls : List (List El)} (h : Fam W base vs Ls) (hk : Kept (fun _ => False) W W') : Fam W' base vs Ls := h.kept hk (fun _ _ _ _ _ => id)

theorem Fam.nil (W : World) (base : Nat) : Fam W base [] [] := ⟨rfl, fun r v L hv => by simp at hv⟩

theorem Fam.at {W : World} {base : Nat} {vs : List Value} {Ls : List (List El)} (h : Fam W base vs Ls) {r : Nat} {v : Value} (hv : vs[r]? = some v) : ∃ L, Ls[r]? = some L ∧ OwnB W base v L := by
  have hlt := (List.getElem?_eq_some_iff.1 hv).1
  have hl : r < Ls.length := by rw [← h.len]; exact hlt
  exact ⟨Ls[r], by simp, h.own r v _ hv (by simp)⟩

theorem Fam.snoc {W : World} {base : Nat} {vs : List Value} {Ls : List (List El)} (h : Fam W base vs Ls) {v : Value} {L : List El} (hv : OwnB W base v L) : Fam W base (vs ++ [v]) (Ls ++ [L]) := by
  refine ⟨by simp [h.len], fun r u M hu hM => ?_⟩
  by_cases hr : r < vs.length
  · rw [List.getElem?_append_left hr] at hu
    rw [List.getElem?_append_left (by rw [← h.len]; exact hr)] at hM
    exact h.own r u M hu hM
  · rw [List.getElem?_append_right (by omega)] at hu
    rw [List.getElem?_append_right (by rw [← h.len]; omega)] at hM
    have e : r - vs.length = 0 := by
      have := (List.getElem?_eq_some_iff.1 hu).1
      simp at this
      omega
    rw [e] at hu
    rw [← h.len, e] at hM
    simp at hu hM
    rw [← hu, ← hM]
    exact hv

/-- One list's packets turn. -/
theorem Fam.set {W W' : World} {base : Nat} {vs : List Value} {Ls : List (List El)} (h : Fam W base vs Ls) (ha : Apart vs) {j : Nat} {v : Value} (hj : vs[j]? = some v) (hk : Kept (fun i => v.ownBlock = some i) W W') {L' : List El} (hown : OwnB W' base v L') : Fam W' base vs (Ls.set j L') := by
  refine ⟨by rw [List.length_set]; exact h.len, fun r u M hu hM => ?_⟩
  by_cases hr : r = j
  · subst hr
    have hlt := (List.getElem?_eq_some_iff.1 hj).1
    rw [List.getElem?_set_self (by rw [← h.len]; exact hlt)] at hM
    cases hM
    rw [hj] at hu
    cases hu
    exact hown
  · rw [List.getElem?_set_ne (fun e => hr e.symm)] at hM
    exact own_kept (h.own r u M hu hM) hk (fun i hi hS => hr (ha r j u v hu hj ⟨i, hi, hS⟩))

/-- A list that is a part of another one's row holds its first packets. -/
theorem own_part {W : World} {base : Nat} {g n m cap : Nat} {L G : List El} (hL : OwnB W base (.slice (some ⟨g, 0, none⟩) n cap) L) (hG : OwnB W base (.slice (some ⟨g, 0, none⟩) m cap) G) : L.length = n ∧ G.length = m ∧ ∃ cur : Array Value, cur.toList.take (n * 5) = rowB L ∧ cur.toList.take (m * 5) = rowB G := by
  rcases hL.2 with ⟨h', _⟩ | ⟨g', cap', cur, h', hb, hg, h1, h2, h3, h4⟩
  · simp at h'
  · rcases hG.2 with ⟨k', _⟩ | ⟨g2, cap2, cur2, k', kb, kg, k1, k2, k3, k4⟩
    · simp at k'
    · simp only [Value.slice.injEq, Option.some.injEq, Addr.mk.injEq, and_true] at h' k'
      obtain ⟨rfl, rfl, rfl⟩ := h'
      obtain ⟨rfl, rfl, rfl⟩ := k'
      rw [hg] at kg
      simp at kg
      subst kg
      exact ⟨rfl, rfl, cur, h4, k4⟩

/-- What is under way while lists grow. -/
structure GrowSt (W : World) (base : Nat) (vs : List Value) (Ls : List (List El)) (gs : List Value) (Gs : List (List El)) : Prop where
  fam : Fam W base vs Ls
  grown : Fam W base gs Gs
  apart : Apart vs
  gapart : Apart gs
  cross : ∀ (r q : Nat) (u v : Value), gs[r]? = some u → vs[q]? = some v → Shares u v → r = q

/-- The list that grows: v, which was vs[j]. -/
structure Cur (W : World) (base : Nat) (vs gs : List Value) (j : Nat) (v : Value) (G : List El) : Prop where
  own : OwnB W base v G
  links : ∀ (r : Nat) (u : Value), vs[r]? = some u → Shares u v → r = j ∧ ∃ g n cap, n ≤ G.length ∧ u = .slice (some ⟨g, 0, none⟩) n cap ∧ v = .slice (some ⟨g, 0, none⟩) G.length cap
  far : ∀ (r : Nat) (u : Value), gs[r]? = some u → ¬ Shares u v

theorem cur_start {W : World} {base : Nat} {vs gs : List Value} {Ls Gs : List (List El)} (h : GrowSt W base vs Ls gs Gs) {v : Value} {L : List El} (hv : vs[gs.length]? = some v) (hL : Ls[gs.length]? = some L) : Cur W base vs gs gs.length v L := by
  refine ⟨h.fam.own _ v L hv hL, fun r u hu hs => ?_, fun r u hu hs => ?_⟩
  · have e := h.apart r gs.length u v hu hv hs
    subst e
    rw [hv] at hu
    cases hu
    refine ⟨rfl, ?_⟩
    obtain ⟨g, hg, _⟩ := hs
    have ho := h.fam.own _ v L hv hL
    rcases ho.2 with ⟨rfl, _⟩ | ⟨g', cap, cur, rfl, _⟩
    · cases hg
    · exact ⟨g', _, cap, Nat.le_refl _, rfl, rfl⟩
  · have e := h.cross r gs.length u v hu hv hs
    have := (List.getElem?_eq_some_iff.1 hu).1
    omega

/-- It grows. -/
theorem cur_step {W W' : World} {base : Nat} {vs gs : List Value} {Ls Gs : List (List El)} {j m : Nat} {v v' : Value} {G N : List El} (h : GrowSt W base vs Ls gs Gs) (hc : Cur W base vs gs j v G) (hm : N.length = m) (hg : Grew W W' v v' G.length m) (ho : OwnB W' base v' (G ++ N)) :
    GrowSt W' base vs Ls gs Gs ∧ Cur W' base vs gs j v' (G ++ N) := by
  rcases hg with ⟨g, cap, rfl, rfl, hk⟩ | ⟨cap', rfl, hk, hlt⟩
  · have hfar : ∀ (r : Nat) (u : Value) (i : Nat), gs[r]? = some u → u.ownBlock = some i → ¬ i = g := fun r u i hu hi e => by
      subst e
      exact hc.far r u hu ⟨i, hi, rfl⟩
    refine ⟨⟨⟨h.fam.len, fun r u L hu hL => ?_⟩, h.grown.kept hk hfar, h.apart, h.gapart, h.cross⟩, ho, fun r u hu hs => ?_, fun r u hu hs => ?_⟩
    · have hou := h.fam.own r u L hu hL
      by_cases hsh : Shares u (.slice (some ⟨g, 0, none⟩) G.length cap)
      · obtain ⟨_, g', n, cap', hn, rfl, e⟩ := hc.links r u hu hsh
        simp only [Value.slice.injEq, Option.some.injEq, Addr.mk.injEq, and_true, true_and] at e
        obtain ⟨rfl, rfl⟩ := e
        obtain ⟨q1, q2, cur, q3, q4⟩ := own_part hou hc.own
        have ho' : W'.ownsRow base 72 5 (.slice (some ⟨g, 0, none⟩) (G.length + m) cap) (G.length + m) (rowB (G ++ N)) := by
          have : (G ++ N).length = G.length + m := by rw [List.length_append, hm]
          rw [← this]
          rw [← this] at ho
          exact ho
        have hp := owned_first (m := n) ho' (by omega)
        have e2 : (rowB (G ++ N)).take (n * 5) = rowB L := by
          rw [rowB_append, List.take_append_of_le_length (by rw [rowB_length]; omega), ← q4, List.take_take, Nat.min_eq_left (by omega), q3]
        rw [e2] at hp
        unfold OwnB
        rw [q1]
        exact hp
      · refine own_kept hou hk (fun i hi e => hsh ?_)
        subst e
        exact ⟨i, hi, rfl⟩
    · obtain ⟨g0, h1, h2⟩ := hs
      obtain ⟨hr, g', n, cap', hn, rfl, e⟩ := hc.links r u hu ⟨g0, h1, h2⟩
      simp only [Value.slice.injEq, Option.some.injEq, Addr.mk.injEq, and_true, true_and] at e
      obtain ⟨rfl, rfl⟩ := e
      exact ⟨hr, g, n, cap, by rw [List.length_append]; omega, rfl, by rw [List.length_append, hm]⟩
    · obtain ⟨g0, h1, h2⟩ := hs
      exact hc.far r u hu ⟨g0, h1, h2⟩
  · have hnew : ∀ u, (∃ L, OwnB W base u L) → ¬ Shares u (.slice (some ⟨W.heap.size, 0, none⟩) (G.length + m) cap') := fun u ⟨L, hL⟩ ⟨g, h1, h2⟩ => by
      have := (own_lt hL h1).2
      have e : W.heap.size = g := by simpa [Value.ownBlock] using h2
      omega
    refine ⟨⟨h.fam.kept0 hk, h.grown.kept0 hk, h.apart, h.gapart, h.cross⟩, ho, fun r u hu hs => ?_, fun r u hu hs => ?_⟩
    · obtain ⟨L, _, hL⟩ := h.fam.at hu
      exact absurd hs (hnew u ⟨L, hL⟩)
    · obtain ⟨L, _, hL⟩ := h.grown.at hu
      exact absurd hs (hnew u ⟨L, hL⟩)

/-- Nothing of these turns. -/
theorem GrowSt.kept0 {W W' : World} {base : Nat} {vs gs : List Value} {Ls Gs : List (List El)} (h : GrowSt W base vs Ls gs Gs) (hk : Kept (fun _ => False) W W') : GrowSt W' base vs Ls gs Gs := ⟨h.fam.kept0 hk, h.grown.kept0 hk, h.apart, h.gapart, h.cross⟩
theorem Cur.kept0 {W W' : World} {base : Nat} {vs gs : List Value} {j : Nat} {v : Value} {G : List El} (h : Cur W base vs gs j v G) (hk : Kept (fun _ => False) W W') : Cur W' base vs gs j v G := ⟨h.own.kept hk, h.links, h.far⟩
/-- A row of lists that turns is none of theirs. -/
theorem GrowSt.row {W W' : World} {base base' n : Nat} {vs gs : List Value} {Ls Gs : List (List El)} {x : Value} {xs : List Value} (h : GrowSt W base vs Ls gs Gs) (hx : W.ownsRow base' 22 1 x n xs) (hk : Kept (fun i => x.ownBlock = some i) W W') : GrowSt W' base vs Ls gs Gs :=
  ⟨h.fam.kept hk (fun r v i hv hi hS => by
    obtain ⟨L, _, hL⟩ := h.fam.at hv
    exact owned_unlike hL hx (by decide) i hi hS), h.grown.kept hk (fun r v i hv hi hS => by
    obtain ⟨L, _, hL⟩ := h.grown.at hv
    exact owned_unlike hL hx (by decide) i hi hS), h.apart, h.gapart, h.cross⟩

/-- It is grown. -/
theorem grow_end {W : World} {base : Nat} {vs gs : List Value} {Ls Gs : List (List El)} {v : Value} {G : List El} (h : GrowSt W base vs Ls gs Gs) (hc : Cur W base vs gs gs.length v G) : GrowSt W base vs Ls (gs ++ [v]) (Gs ++ [G]) := by
  refine ⟨h.fam, h.grown.snoc hc.own, h.apart, h.gapart.snoc hc.far, fun r q u x hu hx hs => ?_⟩
  by_cases hr : r < gs.length
  · rw [List.getElem?_append_left hr] at hu
    exact h.cross r q u x hu hx hs
  · rw [List.getElem?_append_right (by omega)] at hu
    have := (List.getElem?_eq_some_iff.1 hu).1
    simp at this
    have e : r - gs.length = 0 := by omega
    rw [e] at hu
    simp at hu
    subst hu
    obtain ⟨g, g1, g2⟩ := hs
    have := (hc.links q x hx ⟨g, g2, g1⟩).1
    omega
end Go.Proofs.YtkneogfeokckjaaGreatDoor.BAvps

namespace Go.Proofs.YtkneogfeokckjaaGreatDoor.BAvps
open Go.RowKit

def tsK (t : TypeId) : Prop := t = 72 ∨ t = 22

def bookCells (X : Nat → Value) (v6 v7 : Value) : Array Value := #[X 0, X 1, X 2, X 3, X 4, X 5, X 6, X 7, X 8, X 9, X 10, X 11, v6, v7, X 14, X 15, X 16, X 17, X 18, X 19, X 20, X 21, X 22, X 23, X 24, X 25, X 26, X 27, X 28, X 29, X 30, X 31, X 32, X 33, X 34, X 35]

/-- A book whose lists of elements, in the row v6, are vs. -/
structure BookP (X : Nat → Value) (W : World) (bk base : Nat) (v6 v7 : Value) (vs : List Value) (Ls : List (List El)) : Prop where
  blk : W.heap[bk]? = some (.cells (bookCells X v6 v7) 49 (0, 0))
  r6 : RowS W base v6 vs
  f6 : Fam W base vs Ls
  a6 : Apart vs
  lo : base ≤ bk

/-- With copies us, in the row v7. -/
structure BookT (X : Nat → Value) (W : World) (bk base : Nat) (v6 v7 : Value) (vs us : List Value) (Ls : List (List El)) : Prop where
  p : BookP X W bk base v6 v7 vs Ls
  r7 : RowS W base v7 us
  f7 : Fam W base us Ls
  ne : ¬ Shares v6 v7

section
variable {X : Nat → Value} {W W' : World} {bk base : Nat} {v6 v7 : Value} {vs us : List Value} {Ls : List (List El)}

theorem BookP.cell (h : BookP X W bk base v6 v7 vs Ls) (i : Nat) : W.cell? ⟨bk, i, none⟩ = (bookCells X v6 v7)[i]? := by simp [World.cell?, h.blk]
theorem BookP.frozen (h : BookP X W bk base v6 v7 vs Ls) (i : Nat) : W.frozen? ⟨bk, i, none⟩ = false := frozen_of_row _ bk i _ _ h.blk
theorem BookP.lt (h : BookP X W bk base v6 v7 vs Ls) : bk < W.heap.size := (Array.getElem?_eq_some_iff.1 h.blk).1
theorem BookP.c6 (h : BookP X W bk base v6 v7 vs Ls) : W.cell? ⟨bk, 12, none⟩ = some v6 := (h.cell 12).trans rfl
theorem BookP.c7 (h : BookP X W bk base v6 v7 vs Ls) : W.cell? ⟨bk, 13, none⟩ = some v7 := (h.cell 13).trans rfl

theorem rowS_kept {S : Nat → Prop} {v : Value} {xs : List Value} (h : RowS W base v xs) (hk : Kept S W W') (hS : ∀ i, v.ownBlock = some i → ¬ S i) : RowS W' base v xs := owned_kept h hk hS

theorem BookP.kept0 (h : BookP X W bk base v6 v7 vs Ls) (hk : Kept (fun _ => False) W W') : BookP X W' bk base v6 v7 vs Ls :=
  ⟨(hk.block bk h.lt id).trans h.blk, rowS_kept h.r6 hk (fun _ _ => id), h.f6.kept0 hk, h.a6, h.lo⟩
theorem BookT.kept0 (h : BookT X W bk base v6 v7 vs us Ls) (hk : Kept (fun _ => False) W W') : BookT X W' bk base v6 v7 vs us Ls :=
  ⟨h.p.kept0 hk, rowS_kept h.r7 hk (fun _ _ => id), h.f7.kept0 hk, h.ne⟩

/-- What turns elsewhere leaves the book's lists of this kind. -/
theorem fam_other {S : Nat → Prop} {xs : List Value} {Ms : List (List El)} (h : Fam W base xs Ms) (hk : Kept S W W') (hS : ∀ i, S i → ∀ cur t, W.heap[i]? = some (.cells cur t (0, 0)) → ¬ tsK t) : Fam W' base xs Ms :=
  h.kept hk (fun r v i hv hi hs => by
    obtain ⟨L, _, hL⟩ := h.at hv
    rcases hL.2 with ⟨rfl, _⟩ | ⟨g, cap, cur, rfl, _, hg, _⟩
    · cases hi
    · have : g = i := by simpa [Value.ownBlock] using hi
      subst this
      exact hS g hs _ _ hg (Or.inl rfl))
theorem row_other {S : Nat → Prop} {v : Value} {xs : List Value} (h : RowS W base v xs) (hk : Kept S W W') (hS : ∀ i, S i → ∀ cur t, W.heap[i]? = some (.cells cur t (0, 0)) → ¬ tsK t) : RowS W' base v xs :=
  rowS_kept h hk (fun i hi hs => by
    rcases h.2 with ⟨rfl, _⟩ | ⟨g, cap, cur, rfl, _, hg, _⟩
    · cases hi
    · have : g = i := by simpa [Value.ownBlock] using hi
      subst this
      exact hS g hs _ _ hg (Or.inr rfl))
theorem BookP.other {Y : Nat → Value} {S : Nat → Prop} (h : BookP X W bk base v6 v7 vs Ls) (hk : Kept S W W') (hS : ∀ i, S i → ∀ cur t, W.heap[i]? = some (.cells cur t (0, 0)) → ¬ tsK t) (hb : W'.heap[bk]? = some (.cells (bookCells Y v6 v7) 49 (0, 0))) : BookP Y W' bk base v6 v7 vs Ls :=
  ⟨hb, row_other h.r6 hk hS, fam_other h.f6 hk hS, h.a6, h.lo⟩
theorem BookT.other {Y : Nat → Value} {S : Nat → Prop} (h : BookT X W bk base v6 v7 vs us Ls) (hk : Kept S W W') (hS : ∀ i, S i → ∀ cur t, W.heap[i]? = some (.cells cur t (0, 0)) → ¬ tsK t) (hb : W'.heap[bk]? = some (.cells (bookCells Y v6 v7) 49 (0, 0))) : BookT Y W' bk base v6 v7 vs us Ls :=
  ⟨h.p.other hk hS hb, row_other h.r7 hk hS, fam_other h.f7 hk hS, h.ne⟩

theorem rowS_slice {v : Value} {xs : List Value} (h : RowS W base v xs) : ∃ p cap, v = .slice p xs.length cap := slice_of h
theorem rowS_at {p : Option Addr} {n cap : Nat} {xs : List Value} (h : RowS W base (.slice p n cap) xs) {j : Nat} {x : Value} (hj : xs[j]? = some x) : ∃ g, p = some ⟨g, 0, none⟩ ∧ xs.length ≤ cap ∧ W.cell? ⟨g, j, none⟩ = some x := by
  have hlt := (List.getElem?_eq_some_iff.1 hj).1
  rcases h.2 with ⟨_, h0⟩ | ⟨g, cap', cur, h', hb, hg, h1, h2, h3, h4⟩
  · omega
  · simp only [Value.slice.injEq] at h'
    obtain ⟨rfl, rfl, rfl⟩ := h'
    refine ⟨g, rfl, h1, ?_⟩
    rw [← hj, ← h4, List.getElem?_take_of_lt (by omega)]
    simp [World.cell?, hg]

set_option maxHeartbeats 2000000 in
set_option maxRecDepth 100000 in
theorem still_Avps (h : BookT X W bk base v6 v7 vs us Ls) (hsm : ∀ L ∈ Ls, L.length ≤ 1000) (h250 : vs.length ≤ 250) :
    Calls Tryz.prog 61 #[.pointer (some ⟨bk, 0, none⟩)] W fun e w' => e = .returned (.bool true) ∧ Kept (fun _ => False) W w' := by
  obtain ⟨p, cap, rfl⟩ := rowS_slice h.p.r6
  obtain ⟨q, cbp, rfl⟩ := rowS_slice h.r7
  have HK : Hid (∀ W', Kept (fun _ => False) W W' → BookT X W' bk base (.slice p vs.length cap) (.slice q us.length cbp) vs us Ls) := fun W' hk => h.kept0 hk
  have hul : us.length = vs.length := h.f7.len.trans h.p.f6.len.symm
  have HL := hid h.p.f6.len
  have HUL := hid hul
  have Hsm := hid hsm
  have c6 := h.p.c6
  have c7 := h.p.c7
  clear h hul hsm
  go_enter Tryz.func61, Tryz.ntmps61
  go_wp2
  go_loopw [3] (fun vi wr => ∃ j : Nat, j ≤ vs.length ∧ vi = .int .i64 (j : Int) ∧ Hid (Kept (fun _ => False) W wr)) (fun vi _ => vs.length - (intOf vi).toNat)
  case atStart => exact ⟨0, Nat.zero_le _, rfl, Kept.refl _ _⟩
  case round =>
    obtain ⟨j, hj, rfl, HI⟩ := hrel
    have hB := HK.out wr HI.out
    have d6 := hB.p.c6
    have d7 := hB.p.c7
    clear c6 c7
    by_cases hlt : j < vs.length
    · have hltz : (j : Int) < (vs.length : Int) := by omega
      have hltu : (j : Int) < (us.length : Int) := by have := HUL.out; omega
      obtain ⟨x, hx⟩ : ∃ x, vs[j]? = some x := ⟨vs[j], by simp [hlt]⟩
      obtain ⟨y, hy⟩ : ∃ y, us[j]? = some y := ⟨us[j]'(by have := HUL.out; omega), by simp⟩
      obtain ⟨L, hL⟩ : ∃ L, Ls[j]? = some L := ⟨Ls[j]'(by have := HL.out; omega), by simp⟩
      obtain ⟨g6, rfl, hc6, e6⟩ := rowS_at hB.p.r6 hx
      obtain ⟨g7, rfl, hc7, e7⟩ := rowS_at hB.r7 hy
      have HS : Hid (∀ W', Kept (fun _ => False) W W' → Calls Tryz.prog 20 #[x, y] W' fun e w' => e = .returned (.bool true) ∧ Kept (fun _ => False) W w') := fun W' hk => by
        have hb := HK.out W' hk
        have := sameAvps_eq x y L W' (hb.p.f6.own j x L hx hL).tags (hb.f7.own j y L hy hL).tags (by have := Hsm.out L (List.mem_of_getElem? hL); omega)
        exact this.mono fun _ _ ⟨h1, h2⟩ => ⟨h1, hk.trans h2⟩
      have HR : Hid (∀ W', Kept (fun _ => False) W W' → W'.cell? ⟨bk, 12, none⟩ = some (.slice (some ⟨g6, 0, none⟩) vs.length cap) ∧ W'.cell? ⟨bk, 13, none⟩ = some (.slice (some ⟨g7, 0, none⟩) us.length cbp) ∧ W'.cell? ⟨g6, j, none⟩ = some x ∧ W'.cell? ⟨g7, j, none⟩ = some y) := fun W' hk => by
        have hb := HK.out W' hk
        obtain ⟨g, e, _, q1⟩ := rowS_at hb.p.r6 hx
        obtain ⟨g', e', _, q2⟩ := rowS_at hb.r7 hy
        simp at e e'
        subst e e'
        exact ⟨hb.p.c6, hb.p.c7, q1, q2⟩
      have hkr := HI.out
      clear hB hx hy hL HI
      go_wp2
      go_region_held3 (fun W' => W'.cell? ⟨bk, 12, none⟩ = some (.slice (some ⟨g6, 0, none⟩) vs.length cap) ∧ W'.cell? ⟨bk, 13, none⟩ = some (.slice (some ⟨g7, 0, none⟩) us.length cbp) ∧ W'.cell? ⟨g6, j, none⟩ = some x ∧ W'.cell? ⟨g7, j, none⟩ = some y) (first | assumption | exact HR.out _ (by assumption) | go_keep) (first | (go_at_call 20; refine (HS.out _ hkr.drew).mono ?_; rintro e1 w1 ⟨rfl, hk1⟩))
      all_goals
        go_wp2
        exact ⟨⟨j + 1, hlt, by go_num, hk1⟩, by simp [intOf]; omega⟩
    · obtain rfl : j = vs.length := by omega
      have hltz : ¬ (vs.length : Int) < (vs.length : Int) := by omega
      go_wp2
      go_ret
      exact ⟨rfl, HI.out⟩

theorem BookP.set (h : BookP X W bk base v6 v7 vs Ls) {j : Nat} {x : Value} (hj : vs[j]? = some x) (hk : Kept (fun i => x.ownBlock = some i) W W') {L' : List El} (hown : OwnB W' base x L') : BookP X W' bk base v6 v7 vs (Ls.set j L') := by
  obtain ⟨L, hL, hx⟩ := h.f6.at hj
  refine ⟨(hk.block bk h.lt (fun e => ?_)).trans h.blk, rowS_kept h.r6 hk (fun i hi e => ?_), h.f6.set h.a6 hj hk hown, h.a6, h.lo⟩
  · rcases hx.2 with ⟨rfl, _⟩ | ⟨g, cap, cur, rfl, hb, hg, _⟩
    · cases e
    · have : g = bk := by simpa [Value.ownBlock] using e
      subst this
      rw [h.blk] at hg
      simp at hg
  · exact owned_unlike h.r6 hx (by decide) i hi e

/-- The lists as they are marked, the first j of them. -/
def putL (Ls : List (List El)) (j : Nat) : List (List El) := Ls.mapIdx fun i L => if i < j then marksT i 0 L.length else L
theorem putL_zero (Ls : List (List El)) : putL Ls 0 = Ls := by
  apply List.ext_getElem?
  intro i
  simp [putL]
theorem putL_at {j : Nat} {L : List El} (h : Ls[j]? = some L) : (putL Ls j)[j]? = some L := by simp [putL, h]
theorem putL_next {j : Nat} {L : List El} (h : Ls[j]? = some L) : putL Ls (j + 1) = (putL Ls j).set j (marksT j 0 L.length) := by
  have hlt := (List.getElem?_eq_some_iff.1 h).1
  apply List.ext_getElem?
  intro i
  by_cases hi : i = j
  · subst hi
    rw [List.getElem?_set_self (by simp [putL]; exact hlt)]
    simp [putL, h]
  · rw [List.getElem?_set_ne (fun e => hi e.symm)]
    simp only [putL, List.getElem?_mapIdx]
    congr 1
    funext L
    by_cases h1 : i < j
    · rw [if_pos h1, if_pos (by omega)]
    · rw [if_neg h1, if_neg (by omega)]
theorem mark_step {j k : Nat} {L : List El} (h : k < L.length) : (marksT j 0 k ++ L.drop k).set k (markT j k) = marksT j 0 (k + 1) ++ L.drop (k + 1) := by
  rw [List.drop_eq_getElem_cons h, marksT_snoc, Nat.zero_add, List.append_assoc, List.set_append_right _ _ (by rw [marksT_length]; exact Nat.le_refl _), marksT_length, Nat.sub_self]
  rfl
theorem mark_get {j k : Nat} {L : List El} (h : k < L.length) : (marksT j 0 k ++ L.drop k)[k]? = some L[k] := by
  rw [List.getElem?_append_right (by rw [marksT_length]; exact Nat.le_refl _), marksT_length, Nat.sub_self]
  simp [h]

/-- What the inner loop has come to. -/
structure PutIn (X : Nat → Value) (W wr : World) (bk base : Nat) (v6 v7 : Value) (vs : List Value) (M : List (List El)) (j k : Nat) (L : List El) (vm : Value) : Prop where
  bp : BookP X wr bk base v6 v7 vs (M.set j (marksT j 0 k ++ L.drop k))
  own : OwnB wr base vm (marksT j 0 L.length)
  bel : BK tsK base W wr
  sz : base ≤ wr.heap.size

theorem PutIn.step {wr : World} {M : List (List El)} {j k : Nat} {L : List El} {vm : Value} {gx cx : Nat} (h : PutIn X W wr bk base v6 v7 vs M j k L vm) (hM : j < M.length) (hk : k < L.length) (hx : vs[j]? = some (.slice (some ⟨gx, 0, none⟩) L.length cx)) (hfar : ¬ Shares (.slice (some ⟨gx, 0, none⟩) L.length cx) vm) :
    ∃ w', (Instr.storeAt 72 (.pointer (some ⟨gx, k * 5, none⟩)) (.agg (elCells (markT j k)).toArray)).run Tryz.prog wr.drew = .ok () w' ∧ PutIn X W w' bk base v6 v7 vs M j (k + 1) L vm := by
  have hd : Kept (fun _ => False) wr wr.drew := (Kept.refl _ _).drew
  have ho := (h.bp.f6.own j _ (marksT j 0 k ++ L.drop k) hx (by rw [List.getElem?_set_self hM])).kept hd
  have hlen : (marksT j 0 k ++ L.drop k).length = L.length := by rw [List.length_append, marksT_length, List.length_drop]; omega
  obtain ⟨w', h1, ho1, hk1⟩ := own_set ho (k := k) (by omega) (markT j k)
  rw [mark_step hk] at ho1
  have hk2 : Kept (fun i => (Value.slice (some ⟨gx, 0, none⟩) L.length cx).ownBlock = some i) wr w' := (hd.mono (fun _ _ h => h.elim)).trans hk1
  refine ⟨w', h1, ?_, own_kept h.own hk2 (fun i hi e => hfar ⟨i, e, hi⟩), h.bel.trans (BK.own hk2 (h.bp.f6.own j _ (marksT j 0 k ++ L.drop k) hx (by rw [List.getElem?_set_self hM])) (Or.inl rfl) h.sz), Nat.le_trans h.sz hk2.size⟩
  have := h.bp.set hx hk2 ho1
  rw [List.set_set] at this
  exact this

set_option maxHeartbeats 4000000 in
set_option maxRecDepth 100000 in
theorem put_Avps (h : BookP X W bk base v6 v7 vs Ls) (hb : base ≤ W.heap.size) (hsm : ∀ L ∈ Ls, L.length ≤ 1000) (h250 : vs.length ≤ 250) :
    Calls Tryz.prog 82 #[.pointer (some ⟨bk, 0, none⟩)] W fun e w' => e = .returned (.tuple #[]) ∧ BookP X w' bk base v6 v7 vs (putL Ls vs.length) ∧ BK tsK base W w' := by
  obtain ⟨p, cap, rfl⟩ := rowS_slice h.r6
  have HL := hid h.f6.len
  have Hsm := hid hsm
  have H0 := hid h
  clear h hsm
  go_enter Tryz.func82, Tryz.ntmps82
  go_wp2
  go_loopw [2] (fun vi wr => ∃ j : Nat, j ≤ vs.length ∧ vi = .int .i64 (j : Int) ∧ Hid (BookP X wr bk base (.slice p vs.length cap) v7 vs (putL Ls j) ∧ BK tsK base W wr ∧ base ≤ wr.heap.size)) (fun vi _ => vs.length - (intOf vi).toNat)
  case atStart => exact ⟨0, Nat.zero_le _, rfl, by rw [putL_zero]; exact H0.out, BK.refl _ _ _, hb⟩
  case round =>
    obtain ⟨j, hj, rfl, HI⟩ := hrel
    have d6 := HI.out.1.c6
    clear H0
    by_cases hlt : j < vs.length
    · have hltz : (j : Int) < (vs.length : Int) := by omega
      obtain ⟨x, hx⟩ : ∃ x, vs[j]? = some x := ⟨vs[j], by simp [hlt]⟩
      obtain ⟨L, hL⟩ : ∃ L, Ls[j]? = some L := ⟨Ls[j]'(by have := HL.out; omega), by simp⟩
      obtain ⟨g6, rfl, hc6, e6⟩ := rowS_at HI.out.1.r6 hx
      have hox := HI.out.1.f6.own j x L hx (putL_at hL)
      obtain ⟨px, cx, rfl⟩ := slice_of hox
      have hLs := Hsm.out L (List.mem_of_getElem? hL)
      have HM := hid (markAvps_any j 0 L.length (by omega) (by omega) (by omega))
      have hx0 := hid hx
      have hL0 := hid hL
      have HO := hid hox
      clear hx hL hox
      go_wp2_with fail
      refine (HM.out _).mono ?_
      rintro e1 w1 ⟨vm, rfl, hom, hk1⟩
      have hfar : Hid (¬ Shares (.slice px L.length cx) vm) := fun ⟨g, g1, g2⟩ => by
        have h1 := (own_lt HO.out g1).2
        have h2 := (own_lt hom g2).1
        omega
      have PI0 : Hid (PutIn X W w1 bk base (.slice (some ⟨g6, 0, none⟩) vs.length cap) v7 vs (putL Ls j) j 0 L vm) := by
        refine ⟨?_, hom.mono (Nat.le_trans HI.out.2.2 (Nat.le_refl _)), HI.out.2.1.trans (BK.none hk1 HI.out.2.2), Nat.le_trans HI.out.2.2 hk1.size⟩
        show BookP X w1 bk base _ v7 vs ((putL Ls j).set j L)
        rw [set_self (putL_at hL0.out)]
        exact HI.out.1.kept0 hk1
      have hML : Hid (j < (putL Ls j).length) := by
        show _ < _
        rw [← HI.out.1.f6.len]
        exact hlt
      obtain ⟨pm, cm, rfl⟩ := slice_of hom
      rw [marksT_length] at PI0 hfar
      rw [marksT_length]
      clear hk1 hom HI d6 e6 HO
      go_wp2
      go_loopw [4] (fun vk wr => ∃ k : Nat, k ≤ L.length ∧ vk = .int .i64 (k : Int) ∧ Hid (PutIn X W wr bk base (.slice (some ⟨g6, 0, none⟩) vs.length cap) v7 vs (putL Ls j) j k L (.slice pm L.length cm))) (fun vk _ => L.length - (intOf vk).toNat)
      case atStart => exact ⟨0, Nat.zero_le _, rfl, PI0.out⟩
      case round =>
        obtain ⟨k, hk, rfl, HI⟩ := hrel
        clear PI0
        by_cases hklt : k < L.length
        · have hkz : (k : Int) < (L.length : Int) := by omega
          have d6 := HI.out.bp.c6
          obtain ⟨g6', e6', hc6', e6⟩ := rowS_at HI.out.bp.r6 hx0.out
          have hoc := HI.out.bp.f6.own j _ _ hx0.out (by rw [List.getElem?_set_self hML.out])
          have hlen : (marksT j 0 k ++ L.drop k).length = L.length := by rw [List.length_append, marksT_length, List.length_drop]; omega
          obtain ⟨gx, rfl, hn1, hxc, _⟩ := hoc.at (mark_get hklt)
          obtain ⟨gm, rfl, hn2, hmc, hld0⟩ := HI.out.own.at (marksT_get hklt)
          clear hn1 hn2
          rw [Nat.zero_add] at hld0
          simp only [Option.some.injEq, Addr.mk.injEq, and_true] at e6'
          subst e6'
          rw [hlen] at hxc
          rw [marksT_length] at hmc
          obtain ⟨w5, hst, hR⟩ := HI.out.step hML.out hklt hx0.out hfar.out
          have R := hid hR
          have s6 : ∀ U, Kept (fun _ => False) wr U → U.cell? ⟨bk, 12, none⟩ = some (.slice (some ⟨g6, 0, none⟩) vs.length cap) := fun U hk => (HI.out.bp.kept0 hk).c6
          have s7 : ∀ U, Kept (fun _ => False) wr U → U.cell? ⟨g6, j, none⟩ = some (.slice (some ⟨gx, 0, none⟩) L.length cx) := fun U hk => by
            obtain ⟨g', e', _, q⟩ := rowS_at (HI.out.bp.kept0 hk).r6 hx0.out
            simp only [Option.some.injEq, Addr.mk.injEq, and_true] at e'
            subst e'
            exact q
          have hld : ∀ U, Kept (fun _ => False) wr U → U.rangeAt gm (k * 5) (elCells (markT j k)) := fun U hk => by
            obtain ⟨g', e', _, _, q⟩ := (HI.out.own.kept hk).at (marksT_get hklt)
            simp only [Option.some.injEq, Addr.mk.injEq, and_true] at e'
            subst e'
            rw [Nat.zero_add] at q
            exact q
          have hsz := sizeB (markT j k)
          clear HI hoc hlen hld0 hR d6 e6
          generalize elCells (markT j k) = cs at *
          go_wp2
          refine wp_region_but (S := Kept (fun _ => False) wr) 13 (by kernel_rfl) ((Kept.refl _ wr).drew) (fun hSd => ?_)
          refine wpAnyB_take (i := 0) (v := ?_) rfl (by kernel_rfl) (by kernel_rfl) (by kernel_rfl) (by kernel_rfl) (by kernel_rfl) (fun _ _ _ h => h) (Or.inl ⟨by kernel_rfl, fun W hSW => by go_simp; try with_reducible rfl⟩) (by assumption) ?_
          try simp only [List.getElem_toArray]
          try simp only [List.getElem_cons_succ]
          try simp only [List.getElem_cons_zero]
          try simp only [Act.put]
          try simp only [List.setIfInBounds_toArray]
          try simp only [List.set_cons_succ]
          try simp only [List.set_cons_zero]
          refine wpAnyB_take (i := 1) (v := ?_) rfl (by kernel_rfl) (by kernel_rfl) (by kernel_rfl) (by kernel_rfl) (by kernel_rfl) (fun _ _ _ h => h) (Or.inl ⟨by kernel_rfl, fun W hSW => by go_simp; try with_reducible rfl⟩) (by assumption) ?_
          try simp only [List.getElem_toArray]
          try simp only [List.getElem_cons_succ]
          try simp only [List.getElem_cons_zero]
          try simp only [Act.put]
          try simp only [List.setIfInBounds_toArray]
          try simp only [List.set_cons_succ]
          try simp only [List.set_cons_zero]
          refine wpAnyB_take (i := 2) (v := ?_) rfl (by kernel_rfl) (by kernel_rfl) (by kernel_rfl) (by kernel_rfl) (by kernel_rfl) (fun _ _ _ h => h) (Or.inl ⟨by kernel_rfl, fun W hSW => by go_simp; try with_reducible rfl⟩) (by assumption) ?_
          try simp only [List.getElem_toArray]
          try simp only [List.getElem_cons_succ]
          try simp only [List.getElem_cons_zero]
          try simp only [Act.put]
          try simp only [List.setIfInBounds_toArray]
          try simp only [List.set_cons_succ]
          try simp only [List.set_cons_zero]
          refine wpAnyB_take (i := 3) (v := ?_) rfl (by kernel_rfl) (by kernel_rfl) (by kernel_rfl) (by kernel_rfl) (by kernel_rfl) (fun _ _ _ h => h) (Or.inl ⟨by kernel_rfl, fun W hSW => by go_simp; try with_reducible rfl⟩) (by assumption) ?_
          try simp only [List.getElem_toArray]
          try simp only [List.getElem_cons_succ]
          try simp only [List.getElem_cons_zero]
          try simp only [Act.put]
          try simp only [List.setIfInBounds_toArray]
          try simp only [List.set_cons_succ]
          try simp only [List.set_cons_zero]
          refine wpAnyB_take (i := 4) (v := ?_) rfl (by kernel_rfl) (by kernel_rfl) (by kernel_rfl) (by kernel_rfl) (by kernel_rfl) (fun _ _ _ h => h) (Or.inl ⟨by kernel_rfl, fun W hSW => by go_simp; try with_reducible rfl⟩) (by assumption) ?_
          try simp only [List.getElem_toArray]
          try simp only [List.getElem_cons_succ]
          try simp only [List.getElem_cons_zero]
          try simp only [Act.put]
          try simp only [List.setIfInBounds_toArray]
          try simp only [List.set_cons_succ]
          try simp only [List.set_cons_zero]
          refine wpAnyB_take (i := 5) (v := ?_) rfl (by kernel_rfl) (by kernel_rfl) (by kernel_rfl) (by kernel_rfl) (by kernel_rfl) (fun _ _ _ h => h) (Or.inl ⟨by kernel_rfl, fun W hSW => by go_simp; try with_reducible rfl⟩) (by assumption) ?_
          try simp only [List.getElem_toArray]
          try simp only [List.getElem_cons_succ]
          try simp only [List.getElem_cons_zero]
          try simp only [Act.put]
          try simp only [List.setIfInBounds_toArray]
          try simp only [List.set_cons_succ]
          try simp only [List.set_cons_zero]
          refine wpAnyB_take (i := 6) (v := ?_) rfl (by kernel_rfl) (by kernel_rfl) (by kernel_rfl) (by kernel_rfl) (by kernel_rfl) (fun _ _ _ h => h) (Or.inl ⟨by kernel_rfl, fun W hSW => by go_simp; try with_reducible rfl⟩) (by assumption) ?_
          try simp only [List.getElem_toArray]
          try simp only [List.getElem_cons_succ]
          try simp only [List.getElem_cons_zero]
          try simp only [Act.put]
          try simp only [List.setIfInBounds_toArray]
          try simp only [List.set_cons_succ]
          try simp only [List.set_cons_zero]
          refine wpAnyB_take (i := 7) (v := ?_) rfl (by kernel_rfl) (by kernel_rfl) (by kernel_rfl) (by kernel_rfl) (by kernel_rfl) (fun _ _ _ h => h) (Or.inl ⟨by kernel_rfl, fun W hSW => by go_simp; try with_reducible rfl⟩) (by assumption) ?_
          try simp only [List.getElem_toArray]
          try simp only [List.getElem_cons_succ]
          try simp only [List.getElem_cons_zero]
          try simp only [Act.put]
          try simp only [List.setIfInBounds_toArray]
          try simp only [List.set_cons_succ]
          try simp only [List.set_cons_zero]
          refine wpAnyB_take (i := 8) (v := ?_) rfl (by kernel_rfl) (by kernel_rfl) (by kernel_rfl) (by kernel_rfl) (by kernel_rfl) (fun _ _ _ h => h) (Or.inl ⟨by kernel_rfl, fun W hSW => by go_simp; try with_reducible rfl⟩) (by assumption) ?_
          try simp only [List.getElem_toArray]
          try simp only [List.getElem_cons_succ]
          try simp only [List.getElem_cons_zero]
          try simp only [Act.put]
          try simp only [List.setIfInBounds_toArray]
          try simp only [List.set_cons_succ]
          try simp only [List.set_cons_zero]
          refine wpAnyB_take (i := 9) (v := ?_) rfl (by kernel_rfl) (by kernel_rfl) (by kernel_rfl) (by kernel_rfl) (by kernel_rfl) (fun _ _ _ h => h) (Or.inl ⟨by kernel_rfl, fun W hSW => by go_simp; try with_reducible rfl⟩) (by assumption) ?_
          try simp only [List.getElem_toArray]
          try simp only [List.getElem_cons_succ]
          try simp only [List.getElem_cons_zero]
          try simp only [Act.put]
          try simp only [List.setIfInBounds_toArray]
          try simp only [List.set_cons_succ]
          try simp only [List.set_cons_zero]
          refine wpAnyB_take (i := 10) (v := ?_) rfl (by kernel_rfl) (by kernel_rfl) (by kernel_rfl) (by kernel_rfl) (by kernel_rfl) (fun _ _ _ h => h) (Or.inl ⟨by kernel_rfl, fun W hSW => by go_simp; try with_reducible rfl⟩) (by assumption) ?_
          try simp only [List.getElem_toArray]
          try simp only [List.getElem_cons_succ]
          try simp only [List.getElem_cons_zero]
          try simp only [Act.put]
          try simp only [List.setIfInBounds_toArray]
          try simp only [List.set_cons_succ]
          try simp only [List.set_cons_zero]
          refine wpAnyB_take (i := 11) (v := .agg cs.toArray) rfl (by kernel_rfl) (by kernel_rfl) (by kernel_rfl) (by kernel_rfl) (by kernel_rfl) (fun _ _ _ h => h) (yieldsIf_load_mid (by kernel_rfl) 72 (.tmp 40) rfl gm (k * 5) rfl cs _ hld Tryz.underlying72 rfl hsz) (by assumption) ?_
          try simp only [List.getElem_toArray]
          try simp only [List.getElem_cons_succ]
          try simp only [List.getElem_cons_zero]
          try simp only [Act.put]
          try simp only [List.setIfInBounds_toArray]
          try simp only [List.set_cons_succ]
          try simp only [List.set_cons_zero]
          refine wpAnyB_take (i := 12) (v := ?_) rfl (by kernel_rfl) (by kernel_rfl) (by kernel_rfl) (by kernel_rfl) (by kernel_rfl) (fun _ _ _ h => h) (Or.inl ⟨by kernel_rfl, fun W hSW => by go_simp; try with_reducible rfl⟩) (by assumption) ?_
          try simp only [List.getElem_toArray]
          try simp only [List.getElem_cons_succ]
          try simp only [List.getElem_cons_zero]
          try simp only [Act.put]
          try simp only [List.setIfInBounds_toArray]
          try simp only [List.set_cons_succ]
          try simp only [List.set_cons_zero]
          refine wpAnyB_ready (rs := [13]) (by kernel_rfl) (by simp) ?_
          refine AllReadyB.end rfl (fun K hK => ?_)
          refine stepB_store rfl (.tmp 42) (.tmp 41) 72 rfl _ _ rfl rfl hst ?_
          refine hK.out _ _ (trivial) (fun _ => ?_)
          clear hK K
          try simp only [List.getElem_toArray]
          try simp only [List.getElem_cons_succ]
          try simp only [List.getElem_cons_zero]
          try simp only [Act.put]
          try simp only [List.setIfInBounds_toArray]
          try simp only [List.set_cons_succ]
          try simp only [List.set_cons_zero]
          refine wpAnyB_done (by kernel_rfl) ?_ _
          clear s6 s7 hld hst
          go_wp2
          exact ⟨⟨k + 1, hklt, by go_num, R.out⟩, by simp [intOf]; omega⟩
        · obtain rfl : k = L.length := by omega
          have hkz : ¬ (L.length : Int) < (L.length : Int) := by omega
          have R : Hid (BookP X wr bk base (.slice (some ⟨g6, 0, none⟩) vs.length cap) v7 vs (putL Ls (j + 1)) ∧ BK tsK base W wr ∧ base ≤ wr.heap.size) := by
            obtain ⟨q1, q2, q3, q4⟩ := HI.out
            rw [List.drop_of_length_le (Nat.le_refl _), List.append_nil, ← putL_next hL0.out] at q1
            exact ⟨q1, q3, q4⟩
          clear HI
          go_wp2
          exact ⟨⟨j + 1, hlt, by go_num, R.out⟩, by simp [intOf]; omega⟩
    · obtain rfl : j = vs.length := by omega
      have hltz : ¬ (vs.length : Int) < (vs.length : Int) := by omega
      go_wp2
      go_end0
      exact ⟨rfl, HI.out.1, HI.out.2.1⟩
end
end Go.Proofs.YtkneogfeokckjaaGreatDoor.BAvps

namespace Go.Proofs.YtkneogfeokckjaaGreatDoor.BAvps
open Go.RowKit

section
variable {X : Nat → Value} {W W' : World} {bk base : Nat} {v6 v7 : Value} {vs us : List Value} {Ls : List (List El)}

/-- Every list bears its own marks. -/
def Marked (Ls : List (List El)) : Prop := ∀ (j : Nat) (L : List El), Ls[j]? = some L → L = marksT j 0 L.length

set_option maxHeartbeats 2000000 in
set_option maxRecDepth 100000 in
theorem marked_Avps {v : Value} (hr : RowS W base v vs) (hf : Fam W base vs Ls) (hm : Marked Ls) (hsm : ∀ L ∈ Ls, L.length ≤ 2000) (h250 : vs.length ≤ 250) :
    Calls Tryz.prog 115 #[v] W fun e w' => e = .returned (.bool true) ∧ Kept (fun _ => False) W w' := by
  obtain ⟨p, cap, rfl⟩ := rowS_slice hr
  have HR : Hid (∀ W', Kept (fun _ => False) W W' → RowS W' base (.slice p vs.length cap) vs ∧ Fam W' base vs Ls) := fun W' hk => ⟨rowS_kept hr hk (fun _ _ => id), hf.kept0 hk⟩
  have HL := hid hf.len
  have Hsm := hid hsm
  have Hm := hid hm
  clear hr hf hm hsm
  go_enter Tryz.func115, Tryz.ntmps115
  go_wp2
  go_loopw [3] (fun vi wr => ∃ j : Nat, j ≤ vs.length ∧ vi = .int .i64 (j : Int) ∧ Hid (Kept (fun _ => False) W wr)) (fun vi _ => vs.length - (intOf vi).toNat)
  case atStart => exact ⟨0, Nat.zero_le _, rfl, Kept.refl _ _⟩
  case round =>
    obtain ⟨j, hj, rfl, HI⟩ := hrel
    by_cases hlt : j < vs.length
    · have hltz : (j : Int) < (vs.length : Int) := by omega
      obtain ⟨x, hx⟩ : ∃ x, vs[j]? = some x := ⟨vs[j], by simp [hlt]⟩
      obtain ⟨L, hL⟩ : ∃ L, Ls[j]? = some L := ⟨Ls[j]'(by have := HL.out; omega), by simp⟩
      obtain ⟨g, rfl, hc, e0⟩ := rowS_at (HR.out wr HI.out).1 hx
      obtain ⟨px, cx, rfl⟩ := slice_of ((HR.out wr HI.out).2.own j x L hx hL)
      have hLs := Hsm.out L (List.mem_of_getElem? hL)
      have HC : Hid (∀ W', Kept (fun _ => False) W W' → W'.cell? ⟨g, j, none⟩ = some (.slice px L.length cx)) := fun W' hk => by
        obtain ⟨g', e, _, q⟩ := rowS_at (HR.out W' hk).1 hx
        simp at e
        subst e
        exact q
      have HM : Hid (∀ W', Kept (fun _ => False) W W' → Calls Tryz.prog 161 #[.int .i64 (j : Int), .int .i64 0, .int .i64 (L.length : Int)] W' fun e w' => ∃ u, e = .returned u ∧ OwnB w' W'.heap.size u L ∧ Kept (fun _ => False) W w') := fun W' hk => by
        refine (markAvps_any j 0 L.length (by omega) (by omega) (by omega) W').mono ?_
        rintro e w' ⟨u, rfl, h1, h2⟩
        rw [← Hm.out j L hL] at h1
        exact ⟨u, rfl, h1, hk.trans h2⟩
      have HS : Hid (∀ W' u b, Kept (fun _ => False) W W' → OwnB W' b u L → Calls Tryz.prog 20 #[.slice px L.length cx, u] W' fun e w' => e = .returned (.bool true) ∧ Kept (fun _ => False) W w') := fun W' u b hk hu => by
        have := sameAvps_eq (.slice px L.length cx) u L W' ((HR.out W' hk).2.own j _ L hx hL).tags hu.tags (by omega)
        exact this.mono fun _ _ ⟨h1, h2⟩ => ⟨h1, hk.trans h2⟩
      have hkr := HI.out.drew
      clear hx hL HI
      go_wp2
      go_region_held3 (fun W' => W'.cell? ⟨g, j, none⟩ = some (.slice px L.length cx)) (first | assumption | exact HC.out _ (by assumption) | go_keep) (first
        | (go_at_call 161; refine (HM.out _ hkr).mono ?_; rintro e1 w1 ⟨u1, rfl, ho1, hk1⟩)
        | (go_at_call 20; refine (HS.out _ _ _ hk1 ho1).mono ?_; rintro e2 w2 ⟨rfl, hk2⟩))
      all_goals
        go_wp2
        exact ⟨⟨j + 1, hlt, by go_num, hk2⟩, by simp [intOf]; omega⟩
    · obtain rfl : j = vs.length := by omega
      have hltz : ¬ (vs.length : Int) < (vs.length : Int) := by omega
      go_wp2
      go_ret
      exact ⟨rfl, HI.out⟩

theorem infoAvps : (Tryz.prog.info? 22).map (fun i => (i.zero, i.size, i.bytes)) = some (some (.slice none 0 0), 1, 24) := by kernel_rfl

/-- 'append' of a list of the call's own onto the one that grows. -/
theorem own_app {v u : Value} {G N : List El} {b : Nat} (h : OwnB W base v G) (hb : base ≤ W.heap.size) (hu : OwnB W b u N) (hN : 0 < N.length) (hroom : G.length + N.length ≤ 100000) :
    ∃ v' w', AppB W v u v' w' ∧ OwnB w' base v' (G ++ N) ∧ Grew W w' v v' G.length N.length := by
  obtain ⟨i0, hi0, hz0, hz1, hz2⟩ := info_parts infoB
  obtain ⟨g, o, cap, rfl, hc⟩ := hu.rowB (by intro e; rw [e] at hN; simp at hN)
  obtain ⟨v', w', h1, h2, h3⟩ := owned_append (P := Tryz.prog) (t := 22) Tryz.underlying22 hi0 hz0 hz1 hz2 rfl (by decide) h hb ⟨g, o, none⟩ N.length cap (rowB N) hN (rowB_length N) hc (rowB_oneCell N) (by omega) (by decide)
  refine ⟨v', w', h1, ?_, h3⟩
  unfold OwnB
  rw [rowB_append, List.length_append]
  exact h2

/-- What 'append' makes of a row of lists and one list more. -/
def AppS (w : World) (v u v' : Value) (w' : World) : Prop := ∀ ty, (Builtin.append_ #[36, 36] ty #[v, u]).run Tryz.prog w = .ok v' w'

theorem rowS_app {v x : Value} {xs : List Value} (h : RowS W base v xs) (hb : base ≤ W.heap.size) (hx : x.oneCell' = true) (hroom : xs.length ≤ 1000) :
    ∃ v' w', AppS (W.alloc (.cells #[x] 22)) v (.slice (some ⟨W.heap.size, 0, none⟩) 1 1) v' w' ∧ RowS w' base v' (xs ++ [x]) ∧ Grew (W.alloc (.cells #[x] 22)) w' v v' xs.length 1 := by
  obtain ⟨i0, hi0, hz0, hz1, hz2⟩ := info_parts infoAvps
  have h' : RowS (W.alloc (.cells #[x] 22)) base v xs := rowS_kept h ((Kept.refl (fun _ => False) W).alloc _) (fun _ _ => id)
  obtain ⟨v', w', h1, h2, h3⟩ := owned_append (P := Tryz.prog) (t := 36) Tryz.underlying36 hi0 hz0 hz1 hz2 rfl (by decide) h' (by simp; omega) ⟨W.heap.size, 0, none⟩ 1 1 [x] (by decide) rfl (fun j u hj => by
    cases j with
    | zero =>
      simp at hj
      subst hj
      rw [addr_add, World.cell?_alloc_new]
      rfl
    | succ j => simp at hj) (by intro u hu; simp at hu; subst hu; exact hx) (by omega) (by decide)
  refine ⟨v', w', h1, ?_, h3⟩
  unfold RowS
  rw [List.length_append]
  exact h2

/-- The book and the row of what has grown. -/
structure Rest (X : Nat → Value) (W : World) (bk base : Nat) (v6 v7 : Value) (vs : List Value) (vo : Value) (gs : List Value) : Prop where
  blk : W.heap[bk]? = some (.cells (bookCells X v6 v7) 49 (0, 0))
  r6 : RowS W base v6 vs
  ro : RowS W base vo gs
  ne : ¬ Shares v6 vo
  lo : base ≤ bk

theorem Rest.tags {vo x : Value} {gs : List Value} {G : List El} (h : Rest X W bk base v6 v7 vs vo gs) (hx : OwnB W base x G) (hk : Kept (fun i => x.ownBlock = some i) W W') : Rest X W' bk base v6 v7 vs vo gs := by
  refine ⟨(hk.block bk (Array.getElem?_eq_some_iff.1 h.blk).1 (fun e => ?_)).trans h.blk, rowS_kept h.r6 hk (fun i hi e => owned_unlike h.r6 hx (by decide) i hi e), rowS_kept h.ro hk (fun i hi e => owned_unlike h.ro hx (by decide) i hi e), h.ne, h.lo⟩
  rcases hx.2 with ⟨rfl, _⟩ | ⟨g, cap, cur, rfl, hb, hg, _⟩
  · cases e
  · have : g = bk := by simpa [Value.ownBlock] using e
    subst this
    rw [h.blk] at hg
    simp at hg

theorem Rest.kept0 {vo : Value} {gs : List Value} (h : Rest X W bk base v6 v7 vs vo gs) (hk : Kept (fun _ => False) W W') : Rest X W' bk base v6 v7 vs vo gs :=
  ⟨(hk.block bk (Array.getElem?_eq_some_iff.1 h.blk).1 id).trans h.blk, rowS_kept h.r6 hk (fun _ _ => id), rowS_kept h.ro hk (fun _ _ => id), h.ne, h.lo⟩

theorem Rest.c6 {vo : Value} {gs : List Value} (h : Rest X W bk base v6 v7 vs vo gs) : W.cell? ⟨bk, 12, none⟩ = some v6 := by simp [World.cell?, h.blk, bookCells]

/-- The row of what has grown grows. -/
theorem Rest.row {vo vo' : Value} {gs gs' : List Value} (h : Rest X W bk base v6 v7 vs vo gs) (hg : Grew W W' vo vo' gs.length 1) (hr : RowS W' base vo' gs') : Rest X W' bk base v6 v7 vs vo' gs' := by
  have hk := hg.kept
  refine ⟨(hk.block bk (Array.getElem?_eq_some_iff.1 h.blk).1 (fun e => ?_)).trans h.blk, rowS_kept h.r6 hk (fun i hi e => h.ne ⟨i, hi, e⟩), hr, ?_, h.lo⟩
  · rcases h.ro.2 with ⟨e0, _⟩ | ⟨g, cap, cur, e0, hb, hg', _⟩
    · rw [e0] at e
      cases e
    · rw [e0] at e
      have : g = bk := by simpa [Value.ownBlock] using e
      subst this
      rw [h.blk] at hg'
      simp at hg'
  · rintro ⟨i, h1, h2⟩
    rcases hg with ⟨g, cap, rfl, rfl, _⟩ | ⟨cap', rfl, _, _⟩
    · exact h.ne ⟨i, h1, h2⟩
    · have hl := (World.ownsRow.lt h.r6 i h1).2
      have e : W.heap.size = i := by simpa [Value.ownBlock] using h2
      omega

theorem Cur.row {n base' : Nat} {gs : List Value} {j : Nat} {v x : Value} {G : List El} {xs : List Value} (h : Cur W base vs gs j v G) (hx : W.ownsRow base' 22 1 x n xs) (hk : Kept (fun i => x.ownBlock = some i) W W') : Cur W' base vs gs j v G :=
  ⟨own_kept h.own hk (fun i hi e => owned_unlike h.own hx (by decide) i hi e), h.links, h.far⟩

theorem own_oneCell {v : Value} {L : List El} (h : OwnB W base v L) : v.oneCell' = true := by
  obtain ⟨p, c, rfl⟩ := slice_of h
  rfl

/-- How far growAvps has come, between two lists. -/
structure OutSt (X : Nat → Value) (W wr : World) (bk base : Nat) (v6 v7 : Value) (vs : List Value) (Ls : List (List El)) (vo : Value) (gs : List Value) (Gs : List (List El)) : Prop where
  st : GrowSt wr base vs Ls gs Gs
  rest : Rest X wr bk base v6 v7 vs vo gs
  mks : Marked Gs
  sz : ∀ G ∈ Gs, G.length ≤ 1100
  bel : BK tsK base W wr
  hb : base ≤ wr.heap.size

/-- And within one. -/
structure InSt (X : Nat → Value) (W wr : World) (bk base : Nat) (v6 v7 : Value) (vs : List Value) (Ls : List (List El)) (vo : Value) (gs : List Value) (Gs : List (List El)) (v : Value) (c : Nat) : Prop where
  st : GrowSt wr base vs Ls gs Gs
  rest : Rest X wr bk base v6 v7 vs vo gs
  cur : Cur wr base vs gs gs.length v (marksT gs.length 0 c)
  bel : BK tsK base W wr
  hb : base ≤ wr.heap.size

theorem InSt.slice {wr : World} {vo v : Value} {gs : List Value} {Gs : List (List El)} {c : Nat} (h : InSt X W wr bk base v6 v7 vs Ls vo gs Gs v c) : ∃ p cap, v = .slice p c cap := by
  obtain ⟨p, cap, e⟩ := slice_of h.cur.own
  rw [marksT_length] at e
  exact ⟨p, cap, e⟩

/-- Some marks more. -/
theorem InSt.more {wr w1 : World} {vo v u : Value} {gs : List Value} {Gs : List (List El)} {c m : Nat} (h : InSt X W wr bk base v6 v7 vs Ls vo gs Gs v c) (hu : OwnB w1 wr.heap.size u (marksT gs.length c m)) (hk : Kept (fun _ => False) wr w1) (hm : 0 < m) (hcm : c + m ≤ 10000) :
    ∃ v' w', AppB w1 v u v' w' ∧ InSt X W w' bk base v6 v7 vs Ls vo gs Gs v' (c + m) := by
  have hc1 := h.cur.kept0 hk
  have hb1 : base ≤ w1.heap.size := Nat.le_trans h.hb hk.size
  obtain ⟨v', w', h1, h2, h3⟩ := own_app hc1.own hb1 hu (by rw [marksT_length]; exact hm) (by rw [marksT_length, marksT_length]; omega)
  rw [marksT_length, marksT_length] at h3
  have hg := h3
  rw [← marksT_length gs.length 0 c] at h3
  have hNl : (marksT gs.length c m).length = m := marksT_length _ _ _
  obtain ⟨q1, q2⟩ := cur_step (h.st.kept0 hk) hc1 hNl h3 h2
  have e : marksT gs.length 0 c ++ marksT gs.length c m = marksT gs.length 0 (c + m) := by rw [marksT_append, Nat.zero_add]
  rw [e] at q2
  refine ⟨v', w', h1, q1, (h.rest.kept0 hk).tags hc1.own hg.kept, q2, ?_, Nat.le_trans hb1 hg.kept.size⟩
  exact (h.bel.trans (BK.none hk h.hb)).trans (BK.own hg.kept hc1.own (Or.inl rfl) hb1)

/-- The list is grown, and stands in the row. -/
theorem InSt.close {wr : World} {vo v : Value} {gs : List Value} {Gs : List (List El)} {c : Nat} (h : InSt X W wr bk base v6 v7 vs Ls vo gs Gs v c) (hmk : Marked Gs) (hsz : ∀ G ∈ Gs, G.length ≤ 1100) (hc : c ≤ 1100) (hgs : gs.length ≤ 250) :
    ∃ vo' w', AppS (wr.alloc (.cells #[v] 22)) vo (.slice (some ⟨wr.heap.size, 0, none⟩) 1 1) vo' w' ∧ OutSt X W w' bk base v6 v7 vs Ls vo' (gs ++ [v]) (Gs ++ [marksT gs.length 0 c]) := by
  obtain ⟨vo', w', h1, h2, h3⟩ := rowS_app h.rest.ro h.hb (own_oneCell h.cur.own) (by omega)
  have hk1 : Kept (fun _ => False) wr (wr.alloc (.cells #[v] 22)) := (Kept.refl _ _).alloc _
  have hr1 := h.rest.kept0 hk1
  have hb1 : base ≤ (wr.alloc (.cells #[v] 22)).heap.size := Nat.le_trans h.hb hk1.size
  have st2 := (h.st.kept0 hk1).row hr1.ro h3.kept
  have cur2 := (h.cur.kept0 hk1).row hr1.ro h3.kept
  refine ⟨vo', w', h1, grow_end st2 cur2, hr1.row h3 h2, fun j L hj => ?_, fun G hG => ?_, ?_, Nat.le_trans hb1 h3.kept.size⟩
  · have hlen : gs.length = Gs.length := h.st.grown.len
    by_cases hjl : j < Gs.length
    · rw [List.getElem?_append_left hjl] at hj
      exact hmk j L hj
    · rw [List.getElem?_append_right (by omega)] at hj
      have := (List.getElem?_eq_some_iff.1 hj).1
      simp at this
      have e : j - Gs.length = 0 := by omega
      have ej : j = gs.length := by omega
      rw [e] at hj
      simp at hj
      rw [← hj, marksT_length, ej]
  · rcases List.mem_append.1 hG with hG | hG
    · exact hsz G hG
    · simp at hG
      rw [hG, marksT_length]
      exact hc
  · exact (h.bel.trans (BK.none hk1 h.hb)).trans (BK.own h3.kept hr1.ro (Or.inr rfl) hb1)

theorem OutSt.start {wr : World} {vo : Value} {gs : List Value} {Gs : List (List El)} (h : OutSt X W wr bk base v6 v7 vs Ls vo gs Gs) {x : Value} {L : List El} (hx : vs[gs.length]? = some x) (hL : Ls[gs.length]? = some L) (hm : Marked Ls) : InSt X W wr bk base v6 v7 vs Ls vo gs Gs x L.length := by
  have hc := cur_start h.st hx hL
  rw [hm _ L hL] at hc
  exact ⟨h.st, h.rest, hc, h.bel, h.hb⟩

set_option maxHeartbeats 4000000 in
set_option maxRecDepth 100000 in
theorem grow_Avps (h : BookP X W bk base v6 v7 vs Ls) (hm : Marked Ls) (hb : base ≤ W.heap.size) (hsm : ∀ L ∈ Ls, L.length ≤ 1000) (h250 : vs.length ≤ 250) :
    Calls Tryz.prog 97 #[.pointer (some ⟨bk, 0, none⟩)] W fun e w' => ∃ vo, e = .returned vo ∧ ∃ gs : List Value, gs.length = vs.length ∧ ∃ Gs, OutSt X W w' bk base v6 v7 vs Ls vo gs Gs := by
  obtain ⟨p, cap, rfl⟩ := rowS_slice h.r6
  have HL := hid h.f6.len
  have Hsm := hid hsm
  have Hm := hid hm
  have H0 : Hid (OutSt X W W bk base (.slice p vs.length cap) v7 vs Ls (.slice none 0 0) [] []) := ⟨⟨h.f6, Fam.nil _ _, h.a6, Apart.nil, fun r q u v hu => by simp at hu⟩, ⟨h.blk, h.r6, World.ownsRow_nil _ _ _ _, fun ⟨g, _, h2⟩ => by simp [Value.ownBlock] at h2, h.lo⟩, fun j L hj => by simp at hj, fun G hG => by simp at hG, BK.refl _ _ _, hb⟩
  clear h hsm hm
  go_enter Tryz.func97, Tryz.ntmps97
  go_wp2
  go_loopw [3, 4] (fun vo vi wr => ∃ (j : Nat) (gs : List Value) (Gs : List (List El)), j ≤ vs.length ∧ vi = .int .i64 (j : Int) ∧ Hid (gs.length = j ∧ OutSt X W wr bk base (.slice p vs.length cap) v7 vs Ls vo gs Gs)) (fun _ vi _ => vs.length - (intOf vi).toNat)
  case atStart => exact ⟨0, [], [], Nat.zero_le _, rfl, rfl, H0.out⟩
  case round =>
    obtain ⟨j, gs, Gs, hj, rfl, HI⟩ := hrel
    have d6 := HI.out.2.rest.c6
    clear H0
    by_cases hlt : j < vs.length
    · have hltz : (j : Int) < (vs.length : Int) := by omega
      obtain ⟨x, hx⟩ : ∃ x, vs[j]? = some x := ⟨vs[j], by simp [hlt]⟩
      obtain ⟨L, hL⟩ : ∃ L, Ls[j]? = some L := ⟨Ls[j]'(by have := HL.out; omega), by simp⟩
      obtain ⟨g6, rfl, hc6, e6⟩ := rowS_at HI.out.2.rest.r6 hx
      have hLs := Hsm.out L (List.mem_of_getElem? hL)
      obtain ⟨hgj, hO⟩ := HI.out
      have Hgj := hid hgj
      have S0 := hid (hO.start (x := x) (L := L) (by rw [hgj]; exact hx) (by rw [hgj]; exact hL) Hm.out)
      have HMk := hid (And.intro hO.mks hO.sz)
      obtain ⟨n0, hn0⟩ : ∃ n0, n0 = L.length := ⟨_, rfl⟩
      rw [← hn0] at S0 hLs
      clear HI hO hgj hx hL hn0
      go_wp2
      go_loopw [5, 6] (fun v5 vn wr => ∃ c : Nat, c ≤ 12 ∧ vn = .int .i64 (c : Int) ∧ Hid (InSt X W wr bk base (.slice (some ⟨g6, 0, none⟩) vs.length cap) v7 vs Ls u3 gs Gs v5 (n0 + c))) (fun _ vn _ => 12 - (intOf vn).toNat)
      case atStart => exact ⟨0, Nat.zero_le _, rfl, S0.out⟩
      case round =>
        obtain ⟨c, hc, rfl, HI⟩ := hrel
        obtain ⟨p5, c5, rfl⟩ := HI.out.slice
        clear S0 e6 d6
        by_cases hclt : c < 12
        · have hcz : (c : Int) < 12 := by omega
          have HM := hid (markAvps_any j (n0 + c) 1 (by omega) (by omega) (by omega))
          rw [show ((n0 + c : Nat) : Int) = (n0 : Int) + (c : Int) by omega] at HM
          go_wp2_with fail
          refine (HM.out _).mono ?_
          rintro e1 w1 ⟨u1, rfl, ho1, hk1⟩
          have ho1' : OwnB w1 wr.heap.size u1 (marksT gs.length (n0 + c) 1) := by rw [Hgj.out]; exact ho1
          obtain ⟨v', w2, happ, hin⟩ := HI.out.more ho1' hk1 (by decide) (by omega)
          have HIN := hid hin
          clear ho1 ho1' hk1 hin HI HM
          go_wp2_with (at_builtin; refine Lib.wpList_append_run _ rfl _ _ _ _ rfl _ _ rfl rfl _ _ (happ _) ?_)
          clear happ
          go_wp2
          exact ⟨⟨c + 1, hclt, by go_num, HIN.out⟩, by simp [intOf]; omega⟩
        · obtain rfl : c = 12 := by omega
          have HM := hid (markAvps_any j (n0 + 12) 60 (by omega) (by omega) (by omega))
          rw [show ((n0 + 12 : Nat) : Int) = (n0 : Int) + 12 by omega] at HM
          go_wp2_with fail
          refine (HM.out _).mono ?_
          rintro e1 w1 ⟨u1, rfl, ho1, hk1⟩
          have ho1' : OwnB w1 wr.heap.size u1 (marksT gs.length (n0 + 12) 60) := by rw [Hgj.out]; exact ho1
          obtain ⟨v', w2, happ, hin⟩ := HI.out.more ho1' hk1 (by decide) (by omega)
          obtain ⟨p', c', rfl⟩ := hin.slice
          obtain ⟨vo', w3, hs, hout⟩ := hin.close HMk.out.1 HMk.out.2 (by omega) (by have := Hgj.out; omega)
          have HOut := hid hout
          clear ho1 ho1' hk1 hin HI HM hout
          go_wp2_with (first | (at_builtin; refine Lib.wpList_append_run _ rfl _ _ _ _ rfl _ _ rfl rfl _ _ (happ _) ?_) | (at_builtin; refine Lib.wpList_append_run _ rfl _ _ _ _ rfl _ _ rfl rfl _ _ (hs _) ?_))
          clear happ hs
          exact ⟨⟨j + 1, _, _, hlt, by go_num, by have := Hgj.out; rw [List.length_append, List.length_singleton]; omega, HOut.out⟩, by simp [intOf]; omega⟩
    · obtain rfl : j = vs.length := by omega
      have hltz : ¬ (vs.length : Int) < (vs.length : Int) := by omega
      go_wp2
      go_ret
      exact ⟨_, rfl, gs, HI.out.1, Gs, HI.out.2⟩
end
end Go.Proofs.YtkneogfeokckjaaGreatDoor.BAvps

namespace Go.Proofs.YtkneogfeokckjaaGreatDoor.BAvps
open Go.RowKit

section
variable {X : Nat → Value} {W W' : World} {bk base : Nat} {v6 v7 : Value} {vs us : List Value} {Ls Ks : List (List El)}

/-- No row is the book's own block. -/
theorem BookP.far {n k : Nat} {e : TypeId} {x : Value} {xs : List Value} {b : Nat} (h : BookP X W bk base v6 v7 vs Ls) (hx : W.ownsRow b e k x n xs) (he : e ≠ 49) : x.ownBlock ≠ some bk := by
  intro h1
  rcases hx.2 with ⟨rfl, _⟩ | ⟨g, cap, cur, rfl, hb, hg, _⟩
  · cases h1
  · have : g = bk := by simpa [Value.ownBlock] using h1
    subst this
    rw [h.blk] at hg
    simp at hg
    exact he hg.2.symm

/-- A book in the midst of it. -/
structure Half (X : Nat → Value) (W : World) (bk base : Nat) (v6 v7 : Value) (vs us : List Value) (Ls Ks : List (List El)) : Prop where
  p : BookP X W bk base v6 v7 vs Ls
  r7 : RowS W base v7 us
  f7 : Fam W base us Ks
  ne : ¬ Shares v6 v7

theorem Half.kept0 (h : Half X W bk base v6 v7 vs us Ls Ks) (hk : Kept (fun _ => False) W W') : Half X W' bk base v6 v7 vs us Ls Ks :=
  ⟨h.p.kept0 hk, rowS_kept h.r7 hk (fun _ _ => id), h.f7.kept0 hk, h.ne⟩

/-- A cell of the book is written. -/
theorem half_set {i : Nat} {x v6' v7' : Value} (hb : W.heap[bk]? = some (.cells (bookCells X v6 v7) 49 (0, 0))) (hi : (bookCells X v6 v7).setIfInBounds i x = bookCells X v6' v7') (hlo : base ≤ bk)
    (r6 : RowS W base v6' vs) (f6 : Fam W base vs Ls) (a6 : Apart vs) (r7 : RowS W base v7' us) (f7 : Fam W base us Ks) (ne : ¬ Shares v6' v7') : Half X (W.setCell ⟨bk, i, none⟩ x) bk base v6' v7' vs us Ls Ks := by
  have hk : Kept (fun j => j = bk) W (W.setCell ⟨bk, i, none⟩ x) := (Kept.refl (fun j => j = bk) W).setCell (p := ⟨bk, i, none⟩) (Or.inr rfl) x
  have far : ∀ {n k b : Nat} {e : TypeId} {y : Value} {ys : List Value}, W.ownsRow b e k y n ys → e ≠ 49 → ∀ j, y.ownBlock = some j → ¬ j = bk := by
    intro n k b e y ys hy he j hj hjb
    subst hjb
    rcases hy.2 with ⟨rfl, _⟩ | ⟨g, cap, cur, rfl, _, hg, _⟩
    · cases hj
    · have : g = j := by simpa [Value.ownBlock] using hj
      subst this
      rw [hb] at hg
      simp at hg
      exact he hg.2.symm
  have b1 := Joins.block_setCell hb (i := i) x
  rw [hi] at b1
  refine ⟨⟨b1, rowS_kept r6 hk (far r6 (by decide)), f6.kept hk (fun r v j hv hj => ?_), a6, hlo⟩, rowS_kept r7 hk (far r7 (by decide)), f7.kept hk (fun r v j hv hj => ?_), ne⟩
  · obtain ⟨L, _, hL⟩ := f6.at hv
    exact far hL (by decide) j hj
  · obtain ⟨L, _, hL⟩ := f7.at hv
    exact far hL (by decide) j hj

theorem half6 (h : BookT X W bk base v6 v7 vs us Ls) {v v6' : Value} {L : List El} (hv : OwnB W base v L) (hnew : ∀ (r : Nat) (u : Value), vs[r]? = some u → ¬ Shares u v) (hg : Grew W W' v6 v6' vs.length 1) (hr : RowS W' base v6' (vs ++ [v])) :
    Half X (W'.setCell ⟨bk, 12, none⟩ v6') bk base v6' v7 (vs ++ [v]) us (Ls ++ [L]) Ls := by
  have hk := hg.kept
  have unl : ∀ {x : Value} {M : List El}, OwnB W base x M → ∀ i, x.ownBlock = some i → ¬ v6.ownBlock = some i := fun hx i hi e => owned_unlike hx h.p.r6 (by decide) i hi e
  refine half_set (v6 := v6) (v7 := v7) ((hk.block bk h.p.lt (fun e => h.p.far h.p.r6 (by decide) e)).trans h.p.blk) rfl h.p.lo hr ?_ (h.p.a6.snoc hnew) (rowS_kept h.r7 hk (fun i hi e => h.ne ⟨i, e, hi⟩)) (h.f7.kept hk (fun r x i hx hi => ?_)) (shares_symm (grew_far hg h.r7 (shares_symm h.ne)))
  · refine Fam.snoc (h.p.f6.kept hk (fun r x i hx hi => ?_)) (own_kept hv hk (unl hv))
    obtain ⟨M, _, hM⟩ := h.p.f6.at hx
    exact unl hM i hi
  · obtain ⟨M, _, hM⟩ := h.f7.at hx
    exact unl hM i hi

theorem half7 (h : Half X W bk base v6 v7 vs us Ls Ks) {u v7' : Value} {L : List El} (hu : OwnB W base u L) (hg : Grew W W' v7 v7' us.length 1) (hr : RowS W' base v7' (us ++ [u])) (hL : Ls = Ks ++ [L]) :
    BookT X (W'.setCell ⟨bk, 13, none⟩ v7') bk base v6 v7' vs (us ++ [u]) Ls := by
  have hk := hg.kept
  have unl : ∀ {x : Value} {M : List El}, OwnB W base x M → ∀ i, x.ownBlock = some i → ¬ v7.ownBlock = some i := fun hx i hi e => owned_unlike hx h.r7 (by decide) i hi e
  have R : Half X (W'.setCell ⟨bk, 13, none⟩ v7') bk base v6 v7' vs (us ++ [u]) Ls (Ks ++ [L]) := by
    refine half_set (v6 := v6) (v7 := v7) ((hk.block bk h.p.lt (fun e => h.p.far h.r7 (by decide) e)).trans h.p.blk) rfl h.p.lo (rowS_kept h.p.r6 hk (fun i hi e => h.ne ⟨i, hi, e⟩)) (h.p.f6.kept hk (fun r x i hx hi => ?_)) h.p.a6 hr ?_ (grew_far hg h.p.r6 h.ne)
    · obtain ⟨M, _, hM⟩ := h.p.f6.at hx
      exact unl hM i hi
    · refine Fam.snoc (h.f7.kept hk (fun r x i hx hi => ?_)) (own_kept hu hk (unl hu))
      obtain ⟨M, _, hM⟩ := h.f7.at hx
      exact unl hM i hi
  rw [← hL] at R
  exact ⟨R.p, R.r7, R.f7, R.ne⟩

/-- Behind the copy. -/
def Copied (X : Nat → Value) (W0 : World) (S : Nat → Prop) (bk base : Nat) (v6 v7 : Value) (vs us : List Value) (Ls Ks : List (List El)) (u : Value) (L : List El) (W : World) : Prop := Half X W bk base v6 v7 vs us Ls Ks ∧ OwnB W base u L ∧ Kept S W0 W ∧ base ≤ W.heap.size ∧ ∀ i, u.ownBlock = some i → W0.heap.size ≤ i

theorem copied_app {W0 : World} {S : Nat → Prop} {u : Value} {L : List El} (hS7 : ∀ i, v7.ownBlock = some i → S i) (hSb : S bk) (h : Copied X W0 S bk base v6 v7 vs us Ls Ks u L W) (hL : Ls = Ks ++ [L]) (hn : us.length ≤ 250) :
    ∃ p c w4, AppS (W.alloc (.cells #[u] 22)) v7 (.slice (some ⟨W.heap.size, 0, none⟩) 1 1) (.slice p (us.length + 1) c) w4 ∧ w4.cell? ⟨bk, 13, none⟩ = some v7 ∧ w4.frozen? ⟨bk, 13, none⟩ = false ∧
      BookT X (w4.setCell ⟨bk, 13, none⟩ (.slice p (us.length + 1) c)) bk base v6 (.slice p (us.length + 1) c) vs (us ++ [u]) Ls ∧ Kept S W0 (w4.setCell ⟨bk, 13, none⟩ (.slice p (us.length + 1) c)) ∧ ∀ i, u.ownBlock = some i → W0.heap.size ≤ i := by
  obtain ⟨hH, hu, hB, hb, hfr⟩ := h
  obtain ⟨v7', w4, h1, h2, h3⟩ := rowS_app hH.r7 hb (own_oneCell hu) (by omega)
  have hk1 : Kept (fun _ => False) W (W.alloc (.cells #[u] 22)) := (Kept.refl _ _).alloc _
  have hH1 := hH.kept0 hk1
  have R := half7 hH1 (hu.kept hk1) h3 h2 hL
  have hblk := (h3.kept.block bk hH1.p.lt (fun e => hH1.p.far hH1.r7 (by decide) e)).trans hH1.p.blk
  have hBw : Kept S W0 w4 := (hB.trans (hk1.mono (fun _ _ h => h.elim))).trans (h3.kept.mono (fun i _ hi => hS7 i hi))
  obtain ⟨p, c, e⟩ := slice_of h2
  rw [List.length_append, List.length_singleton] at e
  subst e
  exact ⟨p, c, w4, h1, by simp [World.cell?, hblk, bookCells], frozen_of_row _ bk 13 _ _ hblk, R, hBw.setCell (p := ⟨bk, 13, none⟩) (Or.inr hSb) _, hfr⟩

end
end Go.Proofs.YtkneogfeokckjaaGreatDoor.BAvps

namespace Go.Proofs.YtkneogfeokckjaaGreatDoor.BAvps
open Go.RowKit
section
variable {X : Nat → Value} {W W' : World} {bk base : Nat} {v6 v7 : Value} {vs us : List Value} {Ls Ks : List (List El)}
set_option maxHeartbeats 4000000 in
set_option maxRecDepth 100000 in
theorem bookAvps_any (h : BookT X W bk base v6 v7 vs us Ls) (hb : base ≤ W.heap.size) (h250 : vs.length < 250) {v : Value} {L : List El} (hv : OwnB W base v L) (hnew : ∀ (r : Nat) (u : Value), vs[r]? = some u → ¬ Shares u v) (hLn : L.length ≤ 1000) :
    Calls Tryz.prog 23 #[.pointer (some ⟨bk, 0, none⟩), v] W fun e w' => e = .returned (.tuple #[]) ∧ ∃ v6' v7' u, BookT X w' bk base v6' v7' (vs ++ [v]) (us ++ [u]) (Ls ++ [L]) ∧ Kept (Bo bk v6 v7) W w' ∧ ∀ i, u.ownBlock = some i → W.heap.size ≤ i := by
  have hul : us.length ≤ 250 := by have h1 := h.f7.len; have h2 := h.p.f6.len; omega
  obtain ⟨p6, cap6, rfl⟩ := rowS_slice h.p.r6
  obtain ⟨pv, cv, rfl⟩ := slice_of hv
  obtain ⟨v6', w1, hs, hr, hg⟩ := rowS_app h.p.r6 hb (own_oneCell hv) (by omega)
  have hk0 : Kept (fun _ => False) W (W.alloc (.cells #[.slice pv L.length cv] 22)) := (Kept.refl _ _).alloc _
  have h0 := h.kept0 hk0
  have hH := half6 h0 (hv.kept hk0) hnew hg hr
  have hblk := (hg.kept.block bk h0.p.lt (fun e => h0.p.far h0.p.r6 (by decide) e)).trans h0.p.blk
  have c6 := h.p.c6
  have c60 := h0.p.c6
  have d6 : w1.cell? ⟨bk, 12, none⟩ = some (.slice p6 vs.length cap6) := by simp [World.cell?, hblk, bookCells]
  have f6 : w1.frozen? ⟨bk, 12, none⟩ = false := frozen_of_row _ bk 12 _ _ hblk
  have hB1 : Kept (Bo bk (.slice p6 vs.length cap6) v7) W w1 := (hk0.mono (fun _ _ h => h.elim)).trans (hg.kept.mono (fun i _ hi => Or.inr (Or.inl hi)))
  have hBH := hB1.setCell (p := ⟨bk, 12, none⟩) (Or.inr (Or.inl rfl)) v6'
  have hbH : base ≤ (w1.setCell ⟨bk, 12, none⟩ v6').heap.size := Nat.le_trans hb hBH.size
  have hov : OwnB (w1.setCell ⟨bk, 12, none⟩ v6') base (.slice pv L.length cv) L := hH.p.f6.own vs.length _ L (by simp) (by rw [h.p.f6.len]; simp)
  obtain ⟨p6', c6', e6⟩ := slice_of hr
  rw [List.length_append, List.length_singleton] at e6
  subst e6
  have c7 := hH.p.c7
  have f7 := hH.p.frozen 13
  obtain ⟨p7, cap7, e7⟩ := rowS_slice hH.r7
  subst e7
  have hltz : (vs.length : Int) < 250 := by omega
  have HC : Hid (∀ W', Kept (fun _ => False) (w1.setCell ⟨bk, 12, none⟩ (.slice p6' (vs.length + 1) c6')) W' → Calls Tryz.prog 51 #[.slice pv L.length cv] W' fun e w' => ∃ pu cu, e = .returned (.slice pu L.length cu) ∧ Copied X W (Bo bk (.slice p6 vs.length cap6) (.slice p7 us.length cap7)) bk base (.slice p6' (vs.length + 1) c6') (.slice p7 us.length cap7) (vs ++ [.slice pv L.length cv]) us (Ls ++ [L]) Ls (.slice pu L.length cu) L w') := fun W' hk => by
    refine (copyAvps_any (.slice pv L.length cv) L W' (hov.kept hk).tags (by omega)).mono ?_
    rintro e w' ⟨u, rfl, ho, hk2⟩
    obtain ⟨pu, cu, rfl⟩ := slice_of ho
    exact ⟨pu, cu, rfl, hH.kept0 (hk.trans hk2), ho.mono (Nat.le_trans hbH hk.size), hBH.trans ((hk.trans hk2).mono (fun _ _ h => h.elim)), Nat.le_trans hbH (hk.trans hk2).size, fun i hi => Nat.le_trans (Nat.le_trans hBH.size hk.size) (own_lt ho hi).1⟩
  have HA := hid (fun W' u (hc : Copied X W (Bo bk (.slice p6 vs.length cap6) (.slice p7 us.length cap7)) bk base (.slice p6' (vs.length + 1) c6') (.slice p7 us.length cap7) (vs ++ [.slice pv L.length cv]) us (Ls ++ [L]) Ls u L W') => copied_app (S := Bo bk (.slice p6 vs.length cap6) (.slice p7 us.length cap7)) (fun i hi => Or.inr (Or.inr hi)) (Or.inl rfl) hc rfl hul)
  have D0 : Kept (fun _ => False) (w1.setCell ⟨bk, 12, none⟩ (.slice p6' (vs.length + 1) c6')) (w1.setCell ⟨bk, 12, none⟩ (.slice p6' (vs.length + 1) c6')).drew := (Kept.refl _ _).drew
  have HS : Hid (∀ W', Kept (fun _ => False) (w1.setCell ⟨bk, 12, none⟩ (.slice p6' (vs.length + 1) c6')) W' → W'.cell? ⟨bk, 13, none⟩ = some (.slice p7 us.length cap7) ∧ W'.frozen? ⟨bk, 13, none⟩ = false) := fun W' hk => ⟨(hH.kept0 hk).p.c7, (hH.kept0 hk).p.frozen 13⟩
  have HSc : Hid (∀ W' u o, Copied X W (Bo bk (.slice p6 vs.length cap6) (.slice p7 us.length cap7)) bk base (.slice p6' (vs.length + 1) c6') (.slice p7 us.length cap7) (vs ++ [.slice pv L.length cv]) us (Ls ++ [L]) Ls u L W' → (W'.cell? ⟨bk, 13, none⟩ = some (.slice p7 us.length cap7) ∧ W'.frozen? ⟨bk, 13, none⟩ = false) ∧ ((W'.alloc o).cell? ⟨bk, 13, none⟩ = some (.slice p7 us.length cap7) ∧ (W'.alloc o).frozen? ⟨bk, 13, none⟩ = false)) := fun W' u o hc => ⟨⟨hc.1.p.c7, hc.1.p.frozen 13⟩, (hc.1.kept0 ((Kept.refl _ _).alloc o)).p.c7, (hc.1.kept0 ((Kept.refl _ _).alloc o)).p.frozen 13⟩
  clear h h0 hH hov hg hr hv hnew hblk hB1 hBH hk0
  go_enter Tryz.func23, Tryz.ntmps23
  go_wp2_with (at_builtin; refine Lib.wpList_append_run _ rfl _ _ _ _ rfl _ _ rfl rfl _ _ (hs _) ?_)
  clear hs c6 c60
  have c7d := (HS.out _ D0).1
  have f7d := (HS.out _ D0).2
  refine wp_region_noPanic ?_
  refine wp_region_held_drew (S := fun _ => True) (by kernel_rfl) trivial (fun _ => ?_)
  refine wpAnyH_take (i := 0) (v := ?_) rfl (by kernel_rfl) (by kernel_rfl) (by kernel_rfl) (fun _ _ _ h => h) (Or.inl ⟨by kernel_rfl, fun W hSW => by go_simp; try with_reducible rfl⟩) trivial ?_
  try simp only [List.getElem_toArray]
  try simp only [List.getElem_cons_succ]
  try simp only [List.getElem_cons_zero]
  try simp only [Act.put]
  try simp only [List.setIfInBounds_toArray]
  try simp only [List.set_cons_succ]
  try simp only [List.set_cons_zero]
  refine wpAnyH_take (i := 1) (v := ?_) rfl (by kernel_rfl) (by kernel_rfl) (by kernel_rfl) (fun _ _ _ h => h) (Or.inl ⟨by kernel_rfl, fun W hSW => by go_simp; try with_reducible rfl⟩) trivial ?_
  try simp only [List.getElem_toArray]
  try simp only [List.getElem_cons_succ]
  try simp only [List.getElem_cons_zero]
  try simp only [Act.put]
  try simp only [List.setIfInBounds_toArray]
  try simp only [List.set_cons_succ]
  try simp only [List.set_cons_zero]
  refine wpAnyH_take (i := 2) (v := ?_) rfl (by kernel_rfl) (by kernel_rfl) (by kernel_rfl) (fun _ _ _ h => h) (Or.inl ⟨by kernel_rfl, fun W hSW => by go_simp; try with_reducible rfl⟩) trivial ?_
  try simp only [List.getElem_toArray]
  try simp only [List.getElem_cons_succ]
  try simp only [List.getElem_cons_zero]
  try simp only [Act.put]
  try simp only [List.setIfInBounds_toArray]
  try simp only [List.set_cons_succ]
  try simp only [List.set_cons_zero]
  refine wpAnyH_take (i := 3) (v := ?_) rfl (by kernel_rfl) (by kernel_rfl) (by kernel_rfl) (fun _ _ _ h => h) (Or.inl ⟨by kernel_rfl, fun W hSW => by go_simp; try with_reducible rfl⟩) trivial ?_
  try simp only [List.getElem_toArray]
  try simp only [List.getElem_cons_succ]
  try simp only [List.getElem_cons_zero]
  try simp only [Act.put]
  try simp only [List.setIfInBounds_toArray]
  try simp only [List.set_cons_succ]
  try simp only [List.set_cons_zero]
  refine wpAnyH_take (i := 5) (v := ?_) rfl (by kernel_rfl) (by kernel_rfl) (by kernel_rfl) (fun _ _ _ h => h) (Or.inl ⟨by kernel_rfl, fun W hSW => by go_simp; try with_reducible rfl⟩) trivial ?_
  try simp only [List.getElem_toArray]
  try simp only [List.getElem_cons_succ]
  try simp only [List.getElem_cons_zero]
  try simp only [Act.put]
  try simp only [List.setIfInBounds_toArray]
  try simp only [List.set_cons_succ]
  try simp only [List.set_cons_zero]
  refine wpAnyH_ready (rs := [4, 6]) (by kernel_rfl) (by simp) ?_
  refine AllReadyH.cons rfl (fun K hK => ?_) (AllReadyH.cons rfl (fun K hK => ?_) AllReadyH.nil)
  · go_simp
    refine hK.out _ _ trivial (fun _ => ?_)
    clear hK K
    try simp only [List.getElem_toArray]
    try simp only [List.getElem_cons_succ]
    try simp only [List.getElem_cons_zero]
    try simp only [Act.put]
    try simp only [List.setIfInBounds_toArray]
    try simp only [List.set_cons_succ]
    try simp only [List.set_cons_zero]
    refine wpAnyH_ready (rs := [6]) (by kernel_rfl) (by simp) ?_
    refine AllReadyH.cons rfl (fun K hK => ?_) AllReadyH.nil
    go_simp
    refine (HC.out _ D0).mono ?_
    rintro e w3 ⟨pu, cu, rfl, hc3⟩
    have q3 := hc3.1.p.c7
    have q3a := fun o => (HSc.out _ _ o hc3).2.1
    refine hK.out _ _ trivial (fun _ => ?_)
    clear hK K
    try simp only [List.getElem_toArray]
    try simp only [List.getElem_cons_succ]
    try simp only [List.getElem_cons_zero]
    try simp only [Act.put]
    try simp only [List.setIfInBounds_toArray]
    try simp only [List.set_cons_succ]
    try simp only [List.set_cons_zero]
    refine wpAnyH_ready (rs := [7]) (by kernel_rfl) (by simp) ?_
    refine AllReadyH.cons rfl (fun K hK => ?_) AllReadyH.nil
    go_simp
    refine hK.out _ _ trivial (fun _ => ?_)
    clear hK K
    try simp only [List.getElem_toArray]
    try simp only [List.getElem_cons_succ]
    try simp only [List.getElem_cons_zero]
    try simp only [Act.put]
    try simp only [List.setIfInBounds_toArray]
    try simp only [List.set_cons_succ]
    try simp only [List.set_cons_zero]
    refine wpAnyH_ready (rs := [8]) (by kernel_rfl) (by simp) ?_
    refine AllReadyH.cons rfl (fun K hK => ?_) AllReadyH.nil
    obtain ⟨p4, c4, w4, hs4, q7, qf, hB4, hbel, hfr⟩ := HA.out _ _ hc3
    refine stepB_append rfl (.tmp 24) (.tmp 27) 36 rfl (.slice p7 us.length cap7) (.slice (some ⟨w3.heap.size, 0, none⟩) 1 1) rfl rfl (hs4 _) ?_
    refine hK.out _ _ trivial (fun _ => ?_)
    clear hK K
    try simp only [List.getElem_toArray]
    try simp only [List.getElem_cons_succ]
    try simp only [List.getElem_cons_zero]
    try simp only [Act.put]
    try simp only [List.setIfInBounds_toArray]
    try simp only [List.set_cons_succ]
    try simp only [List.set_cons_zero]
    refine wpAnyH_take (i := 9) (v := ?_) rfl (by kernel_rfl) (by kernel_rfl) (by kernel_rfl) (fun _ _ _ h => h) (Or.inl ⟨by kernel_rfl, fun W hSW => by go_simp; try with_reducible rfl⟩) trivial ?_
    try simp only [List.getElem_toArray]
    try simp only [List.getElem_cons_succ]
    try simp only [List.getElem_cons_zero]
    try simp only [Act.put]
    try simp only [List.setIfInBounds_toArray]
    try simp only [List.set_cons_succ]
    try simp only [List.set_cons_zero]
    refine wpAnyH_take (i := 10) (v := ?_) rfl (by kernel_rfl) (by kernel_rfl) (by kernel_rfl) (fun _ _ _ h => h) (Or.inl ⟨by kernel_rfl, fun W hSW => by go_simp; try with_reducible rfl⟩) trivial ?_
    try simp only [List.getElem_toArray]
    try simp only [List.getElem_cons_succ]
    try simp only [List.getElem_cons_zero]
    try simp only [Act.put]
    try simp only [List.setIfInBounds_toArray]
    try simp only [List.set_cons_succ]
    try simp only [List.set_cons_zero]
    refine wpAnyH_ready (rs := [11]) (by kernel_rfl) (by simp) ?_
    refine AllReadyH.cons rfl (fun K hK => ?_) AllReadyH.nil
    go_simp
    refine hK.out _ _ trivial (fun _ => ?_)
    clear hK K
    try simp only [List.getElem_toArray]
    try simp only [List.getElem_cons_succ]
    try simp only [List.getElem_cons_zero]
    try simp only [Act.put]
    try simp only [List.setIfInBounds_toArray]
    try simp only [List.set_cons_succ]
    try simp only [List.set_cons_zero]
    refine wpAnyH_done (by kernel_rfl) ?_ _
    refine NoPanic.normal ?_
    go_wp2
    go_end0
    exact ⟨rfl, _, _, _, hB4, hbel, hfr⟩
  · go_simp
    refine (HC.out _ D0).mono ?_
    rintro e w3 ⟨pu, cu, rfl, hc3⟩
    have q3 := hc3.1.p.c7
    have q3a := fun o => (HSc.out _ _ o hc3).2.1
    refine hK.out _ _ trivial (fun _ => ?_)
    clear hK K
    try simp only [List.getElem_toArray]
    try simp only [List.getElem_cons_succ]
    try simp only [List.getElem_cons_zero]
    try simp only [Act.put]
    try simp only [List.setIfInBounds_toArray]
    try simp only [List.set_cons_succ]
    try simp only [List.set_cons_zero]
    refine wpAnyH_ready (rs := [4, 7]) (by kernel_rfl) (by simp) ?_
    refine AllReadyH.cons rfl (fun K hK => ?_) (AllReadyH.cons rfl (fun K hK => ?_) AllReadyH.nil)
    · go_simp
      refine hK.out _ _ trivial (fun _ => ?_)
      clear hK K
      try simp only [List.getElem_toArray]
      try simp only [List.getElem_cons_succ]
      try simp only [List.getElem_cons_zero]
      try simp only [Act.put]
      try simp only [List.setIfInBounds_toArray]
      try simp only [List.set_cons_succ]
      try simp only [List.set_cons_zero]
      refine wpAnyH_ready (rs := [7]) (by kernel_rfl) (by simp) ?_
      refine AllReadyH.cons rfl (fun K hK => ?_) AllReadyH.nil
      go_simp
      refine hK.out _ _ trivial (fun _ => ?_)
      clear hK K
      try simp only [List.getElem_toArray]
      try simp only [List.getElem_cons_succ]
      try simp only [List.getElem_cons_zero]
      try simp only [Act.put]
      try simp only [List.setIfInBounds_toArray]
      try simp only [List.set_cons_succ]
      try simp only [List.set_cons_zero]
      refine wpAnyH_ready (rs := [8]) (by kernel_rfl) (by simp) ?_
      refine AllReadyH.cons rfl (fun K hK => ?_) AllReadyH.nil
      obtain ⟨p4, c4, w4, hs4, q7, qf, hB4, hbel, hfr⟩ := HA.out _ _ hc3
      refine stepB_append rfl (.tmp 24) (.tmp 27) 36 rfl (.slice p7 us.length cap7) (.slice (some ⟨w3.heap.size, 0, none⟩) 1 1) rfl rfl (hs4 _) ?_
      refine hK.out _ _ trivial (fun _ => ?_)
      clear hK K
      try simp only [List.getElem_toArray]
      try simp only [List.getElem_cons_succ]
      try simp only [List.getElem_cons_zero]
      try simp only [Act.put]
      try simp only [List.setIfInBounds_toArray]
      try simp only [List.set_cons_succ]
      try simp only [List.set_cons_zero]
      refine wpAnyH_take (i := 9) (v := ?_) rfl (by kernel_rfl) (by kernel_rfl) (by kernel_rfl) (fun _ _ _ h => h) (Or.inl ⟨by kernel_rfl, fun W hSW => by go_simp; try with_reducible rfl⟩) trivial ?_
      try simp only [List.getElem_toArray]
      try simp only [List.getElem_cons_succ]
      try simp only [List.getElem_cons_zero]
      try simp only [Act.put]
      try simp only [List.setIfInBounds_toArray]
      try simp only [List.set_cons_succ]
      try simp only [List.set_cons_zero]
      refine wpAnyH_take (i := 10) (v := ?_) rfl (by kernel_rfl) (by kernel_rfl) (by kernel_rfl) (fun _ _ _ h => h) (Or.inl ⟨by kernel_rfl, fun W hSW => by go_simp; try with_reducible rfl⟩) trivial ?_
      try simp only [List.getElem_toArray]
      try simp only [List.getElem_cons_succ]
      try simp only [List.getElem_cons_zero]
      try simp only [Act.put]
      try simp only [List.setIfInBounds_toArray]
      try simp only [List.set_cons_succ]
      try simp only [List.set_cons_zero]
      refine wpAnyH_ready (rs := [11]) (by kernel_rfl) (by simp) ?_
      refine AllReadyH.cons rfl (fun K hK => ?_) AllReadyH.nil
      go_simp
      refine hK.out _ _ trivial (fun _ => ?_)
      clear hK K
      try simp only [List.getElem_toArray]
      try simp only [List.getElem_cons_succ]
      try simp only [List.getElem_cons_zero]
      try simp only [Act.put]
      try simp only [List.setIfInBounds_toArray]
      try simp only [List.set_cons_succ]
      try simp only [List.set_cons_zero]
      refine wpAnyH_done (by kernel_rfl) ?_ _
      refine NoPanic.normal ?_
      go_wp2
      go_end0
      exact ⟨rfl, _, _, _, hB4, hbel, hfr⟩
    · go_simp
      refine hK.out _ _ trivial (fun _ => ?_)
      clear hK K
      try simp only [List.getElem_toArray]
      try simp only [List.getElem_cons_succ]
      try simp only [List.getElem_cons_zero]
      try simp only [Act.put]
      try simp only [List.setIfInBounds_toArray]
      try simp only [List.set_cons_succ]
      try simp only [List.set_cons_zero]
      refine wpAnyH_ready (rs := [4]) (by kernel_rfl) (by simp) ?_
      refine AllReadyH.cons rfl (fun K hK => ?_) AllReadyH.nil
      go_simp
      refine hK.out _ _ trivial (fun _ => ?_)
      clear hK K
      try simp only [List.getElem_toArray]
      try simp only [List.getElem_cons_succ]
      try simp only [List.getElem_cons_zero]
      try simp only [Act.put]
      try simp only [List.setIfInBounds_toArray]
      try simp only [List.set_cons_succ]
      try simp only [List.set_cons_zero]
      refine wpAnyH_ready (rs := [8]) (by kernel_rfl) (by simp) ?_
      refine AllReadyH.cons rfl (fun K hK => ?_) AllReadyH.nil
      obtain ⟨p4, c4, w4, hs4, q7, qf, hB4, hbel, hfr⟩ := HA.out _ _ hc3
      refine stepB_append rfl (.tmp 24) (.tmp 27) 36 rfl (.slice p7 us.length cap7) (.slice (some ⟨w3.heap.size, 0, none⟩) 1 1) rfl rfl (hs4 _) ?_
      refine hK.out _ _ trivial (fun _ => ?_)
      clear hK K
      try simp only [List.getElem_toArray]
      try simp only [List.getElem_cons_succ]
      try simp only [List.getElem_cons_zero]
      try simp only [Act.put]
      try simp only [List.setIfInBounds_toArray]
      try simp only [List.set_cons_succ]
      try simp only [List.set_cons_zero]
      refine wpAnyH_take (i := 9) (v := ?_) rfl (by kernel_rfl) (by kernel_rfl) (by kernel_rfl) (fun _ _ _ h => h) (Or.inl ⟨by kernel_rfl, fun W hSW => by go_simp; try with_reducible rfl⟩) trivial ?_
      try simp only [List.getElem_toArray]
      try simp only [List.getElem_cons_succ]
      try simp only [List.getElem_cons_zero]
      try simp only [Act.put]
      try simp only [List.setIfInBounds_toArray]
      try simp only [List.set_cons_succ]
      try simp only [List.set_cons_zero]
      refine wpAnyH_take (i := 10) (v := ?_) rfl (by kernel_rfl) (by kernel_rfl) (by kernel_rfl) (fun _ _ _ h => h) (Or.inl ⟨by kernel_rfl, fun W hSW => by go_simp; try with_reducible rfl⟩) trivial ?_
      try simp only [List.getElem_toArray]
      try simp only [List.getElem_cons_succ]
      try simp only [List.getElem_cons_zero]
      try simp only [Act.put]
      try simp only [List.setIfInBounds_toArray]
      try simp only [List.set_cons_succ]
      try simp only [List.set_cons_zero]
      refine wpAnyH_ready (rs := [11]) (by kernel_rfl) (by simp) ?_
      refine AllReadyH.cons rfl (fun K hK => ?_) AllReadyH.nil
      go_simp
      refine hK.out _ _ trivial (fun _ => ?_)
      clear hK K
      try simp only [List.getElem_toArray]
      try simp only [List.getElem_cons_succ]
      try simp only [List.getElem_cons_zero]
      try simp only [Act.put]
      try simp only [List.setIfInBounds_toArray]
      try simp only [List.set_cons_succ]
      try simp only [List.set_cons_zero]
      refine wpAnyH_done (by kernel_rfl) ?_ _
      refine NoPanic.normal ?_
      go_wp2
      go_end0
      exact ⟨rfl, _, _, _, hB4, hbel, hfr⟩
end
end Go.Proofs.YtkneogfeokckjaaGreatDoor.BAvps

namespace Go.Proofs.YtkneogfeokckjaaGreatDoor
open Go.RowKit

def restA (b6 b7 : Value) (i : Nat) : Value := if i = 12 then b6 else if i = 13 then b7 else .slice none 0 0
def restB (a6 a7 : Value) (i : Nat) : Value := if i = 2 then a6 else if i = 3 then a7 else .slice none 0 0
theorem cells_same (a6 a7 b6 b7 : Value) : some (Obj.cells (BInts.bookCells (restA b6 b7) a6 a7) 49 (0, 0)) = some (.cells (BAvps.bookCells (restB a6 a7) b6 b7) 49 (0, 0)) := rfl
theorem ty_apartA {W : World} : ∀ i, TyS BInts.tsK W i → ∀ cur t, W.heap[i]? = some (.cells cur t (0, 0)) → ¬ BAvps.tsK t := by
  rintro i ⟨cur, t, h1, h2⟩ cur' t' h3 h4
  rw [h1] at h3
  simp at h3
  obtain ⟨_, rfl⟩ := h3
  rcases h2 with rfl | rfl <;> rcases h4 with h4 | h4 <;> exact absurd h4 (by decide)
theorem ty_apartB {W : World} : ∀ i, TyS BAvps.tsK W i → ∀ cur t, W.heap[i]? = some (.cells cur t (0, 0)) → ¬ BInts.tsK t := by
  rintro i ⟨cur, t, h1, h2⟩ cur' t' h3 h4
  rw [h1] at h3
  simp at h3
  obtain ⟨_, rfl⟩ := h3
  rcases h2 with rfl | rfl <;> rcases h4 with h4 | h4 <;> exact absurd h4 (by decide)

namespace BInts
theorem putL_marked (Ls : List (List El)) (n : Nat) (hn : Ls.length ≤ n) : Marked (putL Ls n) := by
  intro j L hj
  simp only [putL, List.getElem?_mapIdx] at hj
  cases hL : Ls[j]? with
  | none => rw [hL] at hj; simp at hj
  | some M =>
    rw [hL] at hj
    have hlt := (List.getElem?_eq_some_iff.1 hL).1
    simp [show j < n by omega] at hj
    rw [← hj, marksT_length]
theorem putL_size (Ls : List (List El)) (n : Nat) (m : Nat) (h : ∀ L ∈ Ls, L.length ≤ m) : ∀ L ∈ putL Ls n, L.length ≤ m := by
  intro L hL
  obtain ⟨j, hj⟩ := List.getElem?_of_mem hL
  simp only [putL, List.getElem?_mapIdx] at hj
  cases hM : Ls[j]? with
  | none => rw [hM] at hj; simp at hj
  | some M =>
    rw [hM] at hj
    have := h M (List.mem_of_getElem? hM)
    simp at hj
    rw [← hj]
    split
    · rw [marksT_length]; exact this
    · exact this
theorem Rest.cell {X : Nat → Value} {W : World} {bk base : Nat} {v6 v7 : Value} {vs : List Value} {vo : Value} {gs : List Value} (h : Rest X W bk base v6 v7 vs vo gs) (i : Nat) : W.cell? ⟨bk, i, none⟩ = (bookCells X v6 v7)[i]? := by simp [World.cell?, h.blk]
end BInts

namespace BAvps
theorem putL_marked (Ls : List (List El)) (n : Nat) (hn : Ls.length ≤ n) : Marked (putL Ls n) := by
  intro j L hj
  simp only [putL, List.getElem?_mapIdx] at hj
  cases hL : Ls[j]? with
  | none => rw [hL] at hj; simp at hj
  | some M =>
    rw [hL] at hj
    have hlt := (List.getElem?_eq_some_iff.1 hL).1
    simp [show j < n by omega] at hj
    rw [← hj, marksT_length]
theorem putL_size (Ls : List (List El)) (n : Nat) (m : Nat) (h : ∀ L ∈ Ls, L.length ≤ m) : ∀ L ∈ putL Ls n, L.length ≤ m := by
  intro L hL
  obtain ⟨j, hj⟩ := List.getElem?_of_mem hL
  simp only [putL, List.getElem?_mapIdx] at hj
  cases hM : Ls[j]? with
  | none => rw [hM] at hj; simp at hj
  | some M =>
    rw [hM] at hj
    have := h M (List.mem_of_getElem? hM)
    simp at hj
    rw [← hj]
    split
    · rw [marksT_length]; exact this
    · exact this
theorem Rest.cell {X : Nat → Value} {W : World} {bk base : Nat} {v6 v7 : Value} {vs : List Value} {vo : Value} {gs : List Value} (h : Rest X W bk base v6 v7 vs vo gs) (i : Nat) : W.cell? ⟨bk, i, none⟩ = (bookCells X v6 v7)[i]? := by simp [World.cell?, h.blk]
end BAvps

/-- Nothing below base has turned, and no block but those of the book's types. -/
structure FB (base : Nat) (W W' : World) : Prop where
  b : Below base W W'
  f : ∀ (i : Nat) (cur : Array Value) (t : TypeId), W.heap[i]? = some (.cells cur t (0, 0)) → ¬ (BInts.tsK t ∨ BAvps.tsK t) → W'.heap[i]? = some (.cells cur t (0, 0))
theorem FB.trans {base : Nat} {a b c : World} (h : FB base a b) (k : FB base b c) : FB base a c := ⟨h.b.trans k.b, fun i cur t hi ht => k.f i cur t (h.f i cur t hi ht) ht⟩
theorem FB.none {base : Nat} {W W' : World} (hk : Kept (fun _ => False) W W') (hb : base ≤ W.heap.size) : FB base W W' :=
  ⟨hk.below hb (fun _ h => h.elim), fun i _ _ hi _ => (hk.block i (Array.getElem?_eq_some_iff.1 hi).1 id).trans hi⟩
theorem FB.ofA {base : Nat} {W W' : World} (h : BK BInts.tsK base W W') : FB base W W' :=
  ⟨h.b, fun i _ t hi ht => (h.k.block i (Array.getElem?_eq_some_iff.1 hi).1 (fun ⟨cur', t', h1, h2⟩ => by
    rw [hi] at h1
    simp at h1
    obtain ⟨_, rfl⟩ := h1
    exact ht (Or.inl h2))).trans hi⟩
theorem FB.ofB {base : Nat} {W W' : World} (h : BK BAvps.tsK base W W') : FB base W W' :=
  ⟨h.b, fun i _ t hi ht => (h.k.block i (Array.getElem?_eq_some_iff.1 hi).1 (fun ⟨cur', t', h1, h2⟩ => by
    rw [hi] at h1
    simp at h1
    obtain ⟨_, rfl⟩ := h1
    exact ht (Or.inr h2))).trans hi⟩
/-- The book: lists of ints xa (copies au), lists of values xb (copies bu). -/
structure Two (W : World) (bk base : Nat) (a6 a7 b6 b7 : Value) (xa au : List Value) (As : List (List BInts.El)) (xb bu : List Value) (Bs : List (List BAvps.El)) : Prop where
  a : BInts.BookT (restA b6 b7) W bk base a6 a7 xa au As
  b : BAvps.BookT (restB a6 a7) W bk base b6 b7 xb bu Bs

section
variable {W W' : World} {bk base : Nat} {a6 a7 b6 b7 : Value} {xa au : List Value} {As : List (List BInts.El)} {xb bu : List Value} {Bs : List (List BAvps.El)}
theorem Two.kept0 (h : Two W bk base a6 a7 b6 b7 xa au As xb bu Bs) (hk : Kept (fun _ => False) W W') : Two W' bk base a6 a7 b6 b7 xa au As xb bu Bs := ⟨h.a.kept0 hk, h.b.kept0 hk⟩
theorem row_ty {n k b : Nat} {e : TypeId} {y : Value} {ys : List Value} (hy : W.ownsRow b e k y n ys) {i : Nat} (hi : y.ownBlock = some i) : (∃ cur, W.heap[i]? = some (.cells cur e (0, 0))) ∧ b ≤ i := by
  rcases hy.2 with ⟨rfl, _⟩ | ⟨g, cap, cur, rfl, hb, hg, _⟩
  · cases hi
  · have : g = i := by simpa [Value.ownBlock] using hi
    subst this
    exact ⟨⟨cur, hg⟩, hb⟩
theorem Two.boA (h : Two W bk base a6 a7 b6 b7 xa au As xb bu Bs) {i : Nat} (hi : Bo bk a6 a7 i) : (∃ cur t, W.heap[i]? = some (.cells cur t (0, 0)) ∧ (t = 49 ∨ t = 59)) ∧ base ≤ i := by
  rcases hi with rfl | hi | hi
  · exact ⟨⟨_, _, h.a.p.blk, Or.inl rfl⟩, h.a.p.lo⟩
  · obtain ⟨⟨cur, h1⟩, h2⟩ := row_ty h.a.p.r6 hi
    exact ⟨⟨_, _, h1, Or.inr rfl⟩, h2⟩
  · obtain ⟨⟨cur, h1⟩, h2⟩ := row_ty h.a.r7 hi
    exact ⟨⟨_, _, h1, Or.inr rfl⟩, h2⟩
theorem Two.boB (h : Two W bk base a6 a7 b6 b7 xa au As xb bu Bs) {i : Nat} (hi : Bo bk b6 b7 i) : (∃ cur t, W.heap[i]? = some (.cells cur t (0, 0)) ∧ (t = 49 ∨ t = 22)) ∧ base ≤ i := by
  rcases hi with rfl | hi | hi
  · exact ⟨⟨_, _, h.b.p.blk, Or.inl rfl⟩, h.b.p.lo⟩
  · obtain ⟨⟨cur, h1⟩, h2⟩ := row_ty h.b.p.r6 hi
    exact ⟨⟨_, _, h1, Or.inr rfl⟩, h2⟩
  · obtain ⟨⟨cur, h1⟩, h2⟩ := row_ty h.b.r7 hi
    exact ⟨⟨_, _, h1, Or.inr rfl⟩, h2⟩
/-- A block of the book's own: of its type, or a row of lists. -/
def BkTy (W : World) (i : Nat) : Prop := ∃ cur t, W.heap[i]? = some (.cells cur t (0, 0)) ∧ (t = 49 ∨ t = 59 ∨ t = 22)
/-- One list of ints more. -/
theorem Two.addA (h : Two W bk base a6 a7 b6 b7 xa au As xb bu Bs) (hb : base ≤ W.heap.size) (h250 : xa.length < 250) {v : Value} {L : List BInts.El} (hv : BInts.OwnB W base v L) (hnew : ∀ (r : Nat) (u : Value), xa[r]? = some u → ¬ Shares u v) (hL : L.length ≤ 1000) :
    Calls Tryz.prog 24 #[.pointer (some ⟨bk, 0, none⟩), v] W fun e w' => e = .returned (.tuple #[]) ∧ ∃ a6' a7' u, Two w' bk base a6' a7' b6 b7 (xa ++ [v]) (au ++ [u]) (As ++ [L]) xb bu Bs ∧ Kept (BkTy W) W w' ∧ Below base W w' := by
  refine (BInts.bookInts_any h.a hb h250 hv hnew hL).mono ?_
  rintro e w' ⟨rfl, v8', v9', u, hB, hk, _⟩
  refine ⟨rfl, v8', v9', u, ⟨hB, h.b.other hk (fun i hi cur t h1 h2 => ?_) (hB.p.blk.trans (cells_same _ _ _ _))⟩, hk.mono (fun i _ hi => ?_), hk.below hb (fun i hi => (h.boA hi).2)⟩
  · obtain ⟨⟨cur', t', h3, h4⟩, _⟩ := h.boA hi
    rw [h1] at h3
    simp at h3
    obtain ⟨_, rfl⟩ := h3
    rcases h4 with rfl | rfl <;> rcases h2 with h2 | h2 <;> exact absurd h2 (by decide)
  · obtain ⟨⟨cur', t', h3, h4⟩, _⟩ := h.boA hi
    exact ⟨cur', t', h3, h4.imp id Or.inl⟩
/-- One list of values more. -/
theorem Two.addB (h : Two W bk base a6 a7 b6 b7 xa au As xb bu Bs) (hb : base ≤ W.heap.size) (h250 : xb.length < 250) {v : Value} {L : List BAvps.El} (hv : BAvps.OwnB W base v L) (hnew : ∀ (r : Nat) (u : Value), xb[r]? = some u → ¬ Shares u v) (hL : L.length ≤ 1000) :
    Calls Tryz.prog 23 #[.pointer (some ⟨bk, 0, none⟩), v] W fun e w' => e = .returned (.tuple #[]) ∧ ∃ b6' b7' u, Two w' bk base a6 a7 b6' b7' xa au As (xb ++ [v]) (bu ++ [u]) (Bs ++ [L]) ∧ Kept (BkTy W) W w' ∧ Below base W w' := by
  refine (BAvps.bookAvps_any h.b hb h250 hv hnew hL).mono ?_
  rintro e w' ⟨rfl, v10', v11', u, hB, hk, _⟩
  refine ⟨rfl, v10', v11', u, ⟨h.a.other hk (fun i hi cur t h1 h2 => ?_) (hB.p.blk.trans (cells_same _ _ _ _).symm), hB⟩, hk.mono (fun i _ hi => ?_), hk.below hb (fun i hi => (h.boB hi).2)⟩
  · obtain ⟨⟨cur', t', h3, h4⟩, _⟩ := h.boB hi
    rw [h1] at h3
    simp at h3
    obtain ⟨_, rfl⟩ := h3
    rcases h4 with rfl | rfl <;> rcases h2 with h2 | h2 <;> exact absurd h2 (by decide)
  · obtain ⟨⟨cur', t', h3, h4⟩, _⟩ := h.boB hi
    exact ⟨cur', t', h3, h4.imp id Or.inr⟩
end

/-- A new book. -/
theorem two_new (w : World) (base : Nat) (hb : base ≤ w.heap.size) :
    Two (w.alloc (.cells (BInts.bookCells (restA (.slice none 0 0) (.slice none 0 0)) (.slice none 0 0) (.slice none 0 0)) 49)) w.heap.size base (.slice none 0 0) (.slice none 0 0) (.slice none 0 0) (.slice none 0 0) [] [] [] [] [] [] :=
  ⟨⟨⟨heap_alloc_new w _, World.ownsRow_nil _ _ _ _, ⟨rfl, fun r v L h => by simp at h⟩, fun r q u v h => by simp at h, hb⟩, World.ownsRow_nil _ _ _ _, ⟨rfl, fun r v L h => by simp at h⟩, fun ⟨g, h, _⟩ => by simp [Value.ownBlock] at h⟩,
   ⟨⟨heap_alloc_new w _, World.ownsRow_nil _ _ _ _, ⟨rfl, fun r v L h => by simp at h⟩, fun r q u v h => by simp at h, hb⟩, World.ownsRow_nil _ _ _ _, ⟨rfl, fun r v L h => by simp at h⟩, fun ⟨g, h, _⟩ => by simp [Value.ownBlock] at h⟩⟩
end Go.Proofs.YtkneogfeokckjaaGreatDoor

namespace Go.Proofs.YtkneogfeokckjaaGreatDoor
open Go.RowKit

theorem still_Texts {w : World} {b : Nat} (h : w.cell? ⟨b, 0, none⟩ = some (.slice none 0 0)) : Calls Tryz.prog 55 #[.pointer (some ⟨b, 0, none⟩)] w fun e w' => e = .returned (.bool true) ∧ w' = w := by
  go_enter Tryz.func55, Tryz.ntmps55
  go_wp2
  go_loopw [3] (fun vi wr => vi = .int .i64 0 ∧ wr = w) (fun _ _ => 0)
  case atStart => exact ⟨rfl, rfl⟩
  case round =>
    obtain ⟨rfl, rfl⟩ := hrel
    go_wp2
    go_ret
    exact ⟨rfl, rfl⟩

theorem put_Texts {w : World} {b : Nat} (h : w.cell? ⟨b, 0, none⟩ = some (.slice none 0 0)) : Calls Tryz.prog 77 #[.pointer (some ⟨b, 0, none⟩)] w fun e w' => e = .returned (.tuple #[]) ∧ w' = w := by
  go_enter Tryz.func77, Tryz.ntmps77
  go_wp2
  go_loopw [2] (fun vi wr => vi = .int .i64 0 ∧ wr = w) (fun _ _ => 0)
  case atStart => exact ⟨rfl, rfl⟩
  case round =>
    obtain ⟨rfl, rfl⟩ := hrel
    go_wp2
    go_end0
    exact ⟨rfl, rfl⟩

theorem grow_Texts {w : World} {b : Nat} (h : w.cell? ⟨b, 0, none⟩ = some (.slice none 0 0)) : Calls Tryz.prog 91 #[.pointer (some ⟨b, 0, none⟩)] w fun e w' => e = .returned (.slice none 0 0) ∧ w' = w := by
  go_enter Tryz.func91, Tryz.ntmps91
  go_wp2
  go_loopw [3, 4] (fun vo vi wr => vo = .slice none 0 0 ∧ vi = .int .i64 0 ∧ wr = w) (fun _ _ _ => 0)
  case atStart => exact ⟨rfl, rfl, rfl⟩
  case round =>
    obtain ⟨rfl, rfl, rfl⟩ := hrel
    go_wp2
    go_ret
    exact ⟨rfl, rfl⟩

theorem marked_Texts (w : World) : Calls Tryz.prog 109 #[.slice none 0 0] w fun e w' => e = .returned (.bool true) ∧ w' = w := by
  go_enter Tryz.func109, Tryz.ntmps109
  go_wp2
  go_loopw [3] (fun vi wr => vi = .int .i64 0 ∧ wr = w) (fun _ _ => 0)
  case atStart => exact ⟨rfl, rfl⟩
  case round =>
    obtain ⟨rfl, rfl⟩ := hrel
    go_wp2
    go_ret
    exact ⟨rfl, rfl⟩

theorem still_Ethers {w : World} {b : Nat} (h : w.cell? ⟨b, 4, none⟩ = some (.slice none 0 0)) : Calls Tryz.prog 57 #[.pointer (some ⟨b, 0, none⟩)] w fun e w' => e = .returned (.bool true) ∧ w' = w := by
  go_enter Tryz.func57, Tryz.ntmps57
  go_wp2
  go_loopw [3] (fun vi wr => vi = .int .i64 0 ∧ wr = w) (fun _ _ => 0)
  case atStart => exact ⟨rfl, rfl⟩
  case round =>
    obtain ⟨rfl, rfl⟩ := hrel
    go_wp2
    go_ret
    exact ⟨rfl, rfl⟩

theorem put_Ethers {w : World} {b : Nat} (h : w.cell? ⟨b, 4, none⟩ = some (.slice none 0 0)) : Calls Tryz.prog 79 #[.pointer (some ⟨b, 0, none⟩)] w fun e w' => e = .returned (.tuple #[]) ∧ w' = w := by
  go_enter Tryz.func79, Tryz.ntmps79
  go_wp2
  go_loopw [2] (fun vi wr => vi = .int .i64 0 ∧ wr = w) (fun _ _ => 0)
  case atStart => exact ⟨rfl, rfl⟩
  case round =>
    obtain ⟨rfl, rfl⟩ := hrel
    go_wp2
    go_end0
    exact ⟨rfl, rfl⟩

theorem grow_Ethers {w : World} {b : Nat} (h : w.cell? ⟨b, 4, none⟩ = some (.slice none 0 0)) : Calls Tryz.prog 93 #[.pointer (some ⟨b, 0, none⟩)] w fun e w' => e = .returned (.slice none 0 0) ∧ w' = w := by
  go_enter Tryz.func93, Tryz.ntmps93
  go_wp2
  go_loopw [3, 4] (fun vo vi wr => vo = .slice none 0 0 ∧ vi = .int .i64 0 ∧ wr = w) (fun _ _ _ => 0)
  case atStart => exact ⟨rfl, rfl, rfl⟩
  case round =>
    obtain ⟨rfl, rfl, rfl⟩ := hrel
    go_wp2
    go_ret
    exact ⟨rfl, rfl⟩

theorem marked_Ethers (w : World) : Calls Tryz.prog 111 #[.slice none 0 0] w fun e w' => e = .returned (.bool true) ∧ w' = w := by
  go_enter Tryz.func111, Tryz.ntmps111
  go_wp2
  go_loopw [3] (fun vi wr => vi = .int .i64 0 ∧ wr = w) (fun _ _ => 0)
  case atStart => exact ⟨rfl, rfl⟩
  case round =>
    obtain ⟨rfl, rfl⟩ := hrel
    go_wp2
    go_ret
    exact ⟨rfl, rfl⟩

theorem still_Tags {w : World} {b : Nat} (h : w.cell? ⟨b, 6, none⟩ = some (.slice none 0 0)) : Calls Tryz.prog 58 #[.pointer (some ⟨b, 0, none⟩)] w fun e w' => e = .returned (.bool true) ∧ w' = w := by
  go_enter Tryz.func58, Tryz.ntmps58
  go_wp2
  go_loopw [3] (fun vi wr => vi = .int .i64 0 ∧ wr = w) (fun _ _ => 0)
  case atStart => exact ⟨rfl, rfl⟩
  case round =>
    obtain ⟨rfl, rfl⟩ := hrel
    go_wp2
    go_ret
    exact ⟨rfl, rfl⟩

theorem put_Tags {w : World} {b : Nat} (h : w.cell? ⟨b, 6, none⟩ = some (.slice none 0 0)) : Calls Tryz.prog 80 #[.pointer (some ⟨b, 0, none⟩)] w fun e w' => e = .returned (.tuple #[]) ∧ w' = w := by
  go_enter Tryz.func80, Tryz.ntmps80
  go_wp2
  go_loopw [2] (fun vi wr => vi = .int .i64 0 ∧ wr = w) (fun _ _ => 0)
  case atStart => exact ⟨rfl, rfl⟩
  case round =>
    obtain ⟨rfl, rfl⟩ := hrel
    go_wp2
    go_end0
    exact ⟨rfl, rfl⟩

theorem grow_Tags {w : World} {b : Nat} (h : w.cell? ⟨b, 6, none⟩ = some (.slice none 0 0)) : Calls Tryz.prog 94 #[.pointer (some ⟨b, 0, none⟩)] w fun e w' => e = .returned (.slice none 0 0) ∧ w' = w := by
  go_enter Tryz.func94, Tryz.ntmps94
  go_wp2
  go_loopw [3, 4] (fun vo vi wr => vo = .slice none 0 0 ∧ vi = .int .i64 0 ∧ wr = w) (fun _ _ _ => 0)
  case atStart => exact ⟨rfl, rfl, rfl⟩
  case round =>
    obtain ⟨rfl, rfl, rfl⟩ := hrel
    go_wp2
    go_ret
    exact ⟨rfl, rfl⟩

theorem marked_Tags (w : World) : Calls Tryz.prog 112 #[.slice none 0 0] w fun e w' => e = .returned (.bool true) ∧ w' = w := by
  go_enter Tryz.func112, Tryz.ntmps112
  go_wp2
  go_loopw [3] (fun vi wr => vi = .int .i64 0 ∧ wr = w) (fun _ _ => 0)
  case atStart => exact ⟨rfl, rfl⟩
  case round =>
    obtain ⟨rfl, rfl⟩ := hrel
    go_wp2
    go_ret
    exact ⟨rfl, rfl⟩

theorem still_Options {w : World} {b : Nat} (h : w.cell? ⟨b, 8, none⟩ = some (.slice none 0 0)) : Calls Tryz.prog 59 #[.pointer (some ⟨b, 0, none⟩)] w fun e w' => e = .returned (.bool true) ∧ w' = w := by
  go_enter Tryz.func59, Tryz.ntmps59
  go_wp2
  go_loopw [3] (fun vi wr => vi = .int .i64 0 ∧ wr = w) (fun _ _ => 0)
  case atStart => exact ⟨rfl, rfl⟩
  case round =>
    obtain ⟨rfl, rfl⟩ := hrel
    go_wp2
    go_ret
    exact ⟨rfl, rfl⟩

theorem put_Options {w : World} {b : Nat} (h : w.cell? ⟨b, 8, none⟩ = some (.slice none 0 0)) : Calls Tryz.prog 81 #[.pointer (some ⟨b, 0, none⟩)] w fun e w' => e = .returned (.tuple #[]) ∧ w' = w := by
  go_enter Tryz.func81, Tryz.ntmps81
  go_wp2
  go_loopw [2] (fun vi wr => vi = .int .i64 0 ∧ wr = w) (fun _ _ => 0)
  case atStart => exact ⟨rfl, rfl⟩
  case round =>
    obtain ⟨rfl, rfl⟩ := hrel
    go_wp2
    go_end0
    exact ⟨rfl, rfl⟩

theorem grow_Options {w : World} {b : Nat} (h : w.cell? ⟨b, 8, none⟩ = some (.slice none 0 0)) : Calls Tryz.prog 95 #[.pointer (some ⟨b, 0, none⟩)] w fun e w' => e = .returned (.slice none 0 0) ∧ w' = w := by
  go_enter Tryz.func95, Tryz.ntmps95
  go_wp2
  go_loopw [3, 4] (fun vo vi wr => vo = .slice none 0 0 ∧ vi = .int .i64 0 ∧ wr = w) (fun _ _ _ => 0)
  case atStart => exact ⟨rfl, rfl, rfl⟩
  case round =>
    obtain ⟨rfl, rfl, rfl⟩ := hrel
    go_wp2
    go_ret
    exact ⟨rfl, rfl⟩

theorem marked_Options (w : World) : Calls Tryz.prog 113 #[.slice none 0 0] w fun e w' => e = .returned (.bool true) ∧ w' = w := by
  go_enter Tryz.func113, Tryz.ntmps113
  go_wp2
  go_loopw [3] (fun vi wr => vi = .int .i64 0 ∧ wr = w) (fun _ _ => 0)
  case atStart => exact ⟨rfl, rfl⟩
  case round =>
    obtain ⟨rfl, rfl⟩ := hrel
    go_wp2
    go_ret
    exact ⟨rfl, rfl⟩

theorem still_Packets {w : World} {b : Nat} (h : w.cell? ⟨b, 10, none⟩ = some (.slice none 0 0)) : Calls Tryz.prog 60 #[.pointer (some ⟨b, 0, none⟩)] w fun e w' => e = .returned (.bool true) ∧ w' = w := by
  go_enter Tryz.func60, Tryz.ntmps60
  go_wp2
  go_loopw [3] (fun vi wr => vi = .int .i64 0 ∧ wr = w) (fun _ _ => 0)
  case atStart => exact ⟨rfl, rfl⟩
  case round =>
    obtain ⟨rfl, rfl⟩ := hrel
    go_wp2
    go_ret
    exact ⟨rfl, rfl⟩

theorem put_Packets {w : World} {b : Nat} (h : w.cell? ⟨b, 10, none⟩ = some (.slice none 0 0)) : Calls Tryz.prog 73 #[.pointer (some ⟨b, 0, none⟩)] w fun e w' => e = .returned (.tuple #[]) ∧ w' = w := by
  go_enter Tryz.func73, Tryz.ntmps73
  go_wp2
  go_loopw [2] (fun vi wr => vi = .int .i64 0 ∧ wr = w) (fun _ _ => 0)
  case atStart => exact ⟨rfl, rfl⟩
  case round =>
    obtain ⟨rfl, rfl⟩ := hrel
    go_wp2
    go_end0
    exact ⟨rfl, rfl⟩

theorem grow_Packets {w : World} {b : Nat} (h : w.cell? ⟨b, 10, none⟩ = some (.slice none 0 0)) : Calls Tryz.prog 96 #[.pointer (some ⟨b, 0, none⟩)] w fun e w' => e = .returned (.slice none 0 0) ∧ w' = w := by
  go_enter Tryz.func96, Tryz.ntmps96
  go_wp2
  go_loopw [3, 4] (fun vo vi wr => vo = .slice none 0 0 ∧ vi = .int .i64 0 ∧ wr = w) (fun _ _ _ => 0)
  case atStart => exact ⟨rfl, rfl, rfl⟩
  case round =>
    obtain ⟨rfl, rfl, rfl⟩ := hrel
    go_wp2
    go_ret
    exact ⟨rfl, rfl⟩

theorem marked_Packets (w : World) : Calls Tryz.prog 114 #[.slice none 0 0] w fun e w' => e = .returned (.bool true) ∧ w' = w := by
  go_enter Tryz.func114, Tryz.ntmps114
  go_wp2
  go_loopw [3] (fun vi wr => vi = .int .i64 0 ∧ wr = w) (fun _ _ => 0)
  case atStart => exact ⟨rfl, rfl⟩
  case round =>
    obtain ⟨rfl, rfl⟩ := hrel
    go_wp2
    go_ret
    exact ⟨rfl, rfl⟩

theorem still_Ctls {w : World} {b : Nat} (h : w.cell? ⟨b, 14, none⟩ = some (.slice none 0 0)) : Calls Tryz.prog 62 #[.pointer (some ⟨b, 0, none⟩)] w fun e w' => e = .returned (.bool true) ∧ w' = w := by
  go_enter Tryz.func62, Tryz.ntmps62
  go_wp2
  go_loopw [3] (fun vi wr => vi = .int .i64 0 ∧ wr = w) (fun _ _ => 0)
  case atStart => exact ⟨rfl, rfl⟩
  case round =>
    obtain ⟨rfl, rfl⟩ := hrel
    go_wp2
    go_ret
    exact ⟨rfl, rfl⟩

theorem put_Ctls {w : World} {b : Nat} (h : w.cell? ⟨b, 14, none⟩ = some (.slice none 0 0)) : Calls Tryz.prog 74 #[.pointer (some ⟨b, 0, none⟩)] w fun e w' => e = .returned (.tuple #[]) ∧ w' = w := by
  go_enter Tryz.func74, Tryz.ntmps74
  go_wp2
  go_loopw [2] (fun vi wr => vi = .int .i64 0 ∧ wr = w) (fun _ _ => 0)
  case atStart => exact ⟨rfl, rfl⟩
  case round =>
    obtain ⟨rfl, rfl⟩ := hrel
    go_wp2
    go_end0
    exact ⟨rfl, rfl⟩

theorem grow_Ctls {w : World} {b : Nat} (h : w.cell? ⟨b, 14, none⟩ = some (.slice none 0 0)) : Calls Tryz.prog 98 #[.pointer (some ⟨b, 0, none⟩)] w fun e w' => e = .returned (.slice none 0 0) ∧ w' = w := by
  go_enter Tryz.func98, Tryz.ntmps98
  go_wp2
  go_loopw [3, 4] (fun vo vi wr => vo = .slice none 0 0 ∧ vi = .int .i64 0 ∧ wr = w) (fun _ _ _ => 0)
  case atStart => exact ⟨rfl, rfl, rfl⟩
  case round =>
    obtain ⟨rfl, rfl, rfl⟩ := hrel
    go_wp2
    go_ret
    exact ⟨rfl, rfl⟩

theorem marked_Ctls (w : World) : Calls Tryz.prog 116 #[.slice none 0 0] w fun e w' => e = .returned (.bool true) ∧ w' = w := by
  go_enter Tryz.func116, Tryz.ntmps116
  go_wp2
  go_loopw [3] (fun vi wr => vi = .int .i64 0 ∧ wr = w) (fun _ _ => 0)
  case atStart => exact ⟨rfl, rfl⟩
  case round =>
    obtain ⟨rfl, rfl⟩ := hrel
    go_wp2
    go_ret
    exact ⟨rfl, rfl⟩

theorem still_Keys {w : World} {b : Nat} (h : w.cell? ⟨b, 16, none⟩ = some (.slice none 0 0)) : Calls Tryz.prog 63 #[.pointer (some ⟨b, 0, none⟩)] w fun e w' => e = .returned (.bool true) ∧ w' = w := by
  go_enter Tryz.func63, Tryz.ntmps63
  go_wp2
  go_loopw [3] (fun vi wr => vi = .int .i64 0 ∧ wr = w) (fun _ _ => 0)
  case atStart => exact ⟨rfl, rfl⟩
  case round =>
    obtain ⟨rfl, rfl⟩ := hrel
    go_wp2
    go_ret
    exact ⟨rfl, rfl⟩

theorem put_Keys {w : World} {b : Nat} (h : w.cell? ⟨b, 16, none⟩ = some (.slice none 0 0)) : Calls Tryz.prog 83 #[.pointer (some ⟨b, 0, none⟩)] w fun e w' => e = .returned (.tuple #[]) ∧ w' = w := by
  go_enter Tryz.func83, Tryz.ntmps83
  go_wp2
  go_loopw [2] (fun vi wr => vi = .int .i64 0 ∧ wr = w) (fun _ _ => 0)
  case atStart => exact ⟨rfl, rfl⟩
  case round =>
    obtain ⟨rfl, rfl⟩ := hrel
    go_wp2
    go_end0
    exact ⟨rfl, rfl⟩

theorem grow_Keys {w : World} {b : Nat} (h : w.cell? ⟨b, 16, none⟩ = some (.slice none 0 0)) : Calls Tryz.prog 99 #[.pointer (some ⟨b, 0, none⟩)] w fun e w' => e = .returned (.slice none 0 0) ∧ w' = w := by
  go_enter Tryz.func99, Tryz.ntmps99
  go_wp2
  go_loopw [3, 4] (fun vo vi wr => vo = .slice none 0 0 ∧ vi = .int .i64 0 ∧ wr = w) (fun _ _ _ => 0)
  case atStart => exact ⟨rfl, rfl, rfl⟩
  case round =>
    obtain ⟨rfl, rfl, rfl⟩ := hrel
    go_wp2
    go_ret
    exact ⟨rfl, rfl⟩

theorem marked_Keys (w : World) : Calls Tryz.prog 117 #[.slice none 0 0] w fun e w' => e = .returned (.bool true) ∧ w' = w := by
  go_enter Tryz.func117, Tryz.ntmps117
  go_wp2
  go_loopw [3] (fun vi wr => vi = .int .i64 0 ∧ wr = w) (fun _ _ => 0)
  case atStart => exact ⟨rfl, rfl⟩
  case round =>
    obtain ⟨rfl, rfl⟩ := hrel
    go_wp2
    go_ret
    exact ⟨rfl, rfl⟩

theorem still_Sessions {w : World} {b : Nat} (h : w.cell? ⟨b, 18, none⟩ = some (.slice none 0 0)) : Calls Tryz.prog 64 #[.pointer (some ⟨b, 0, none⟩)] w fun e w' => e = .returned (.bool true) ∧ w' = w := by
  go_enter Tryz.func64, Tryz.ntmps64
  go_wp2
  go_loopw [3] (fun vi wr => vi = .int .i64 0 ∧ wr = w) (fun _ _ => 0)
  case atStart => exact ⟨rfl, rfl⟩
  case round =>
    obtain ⟨rfl, rfl⟩ := hrel
    go_wp2
    go_ret
    exact ⟨rfl, rfl⟩

theorem put_Sessions {w : World} {b : Nat} (h : w.cell? ⟨b, 18, none⟩ = some (.slice none 0 0)) : Calls Tryz.prog 84 #[.pointer (some ⟨b, 0, none⟩)] w fun e w' => e = .returned (.tuple #[]) ∧ w' = w := by
  go_enter Tryz.func84, Tryz.ntmps84
  go_wp2
  go_loopw [2] (fun vi wr => vi = .int .i64 0 ∧ wr = w) (fun _ _ => 0)
  case atStart => exact ⟨rfl, rfl⟩
  case round =>
    obtain ⟨rfl, rfl⟩ := hrel
    go_wp2
    go_end0
    exact ⟨rfl, rfl⟩

theorem grow_Sessions {w : World} {b : Nat} (h : w.cell? ⟨b, 18, none⟩ = some (.slice none 0 0)) : Calls Tryz.prog 100 #[.pointer (some ⟨b, 0, none⟩)] w fun e w' => e = .returned (.slice none 0 0) ∧ w' = w := by
  go_enter Tryz.func100, Tryz.ntmps100
  go_wp2
  go_loopw [3, 4] (fun vo vi wr => vo = .slice none 0 0 ∧ vi = .int .i64 0 ∧ wr = w) (fun _ _ _ => 0)
  case atStart => exact ⟨rfl, rfl, rfl⟩
  case round =>
    obtain ⟨rfl, rfl, rfl⟩ := hrel
    go_wp2
    go_ret
    exact ⟨rfl, rfl⟩

theorem marked_Sessions (w : World) : Calls Tryz.prog 118 #[.slice none 0 0] w fun e w' => e = .returned (.bool true) ∧ w' = w := by
  go_enter Tryz.func118, Tryz.ntmps118
  go_wp2
  go_loopw [3] (fun vi wr => vi = .int .i64 0 ∧ wr = w) (fun _ _ => 0)
  case atStart => exact ⟨rfl, rfl⟩
  case round =>
    obtain ⟨rfl, rfl⟩ := hrel
    go_wp2
    go_ret
    exact ⟨rfl, rfl⟩

theorem still_Ids {w : World} {b : Nat} (h : w.cell? ⟨b, 20, none⟩ = some (.slice none 0 0)) : Calls Tryz.prog 65 #[.pointer (some ⟨b, 0, none⟩)] w fun e w' => e = .returned (.bool true) ∧ w' = w := by
  go_enter Tryz.func65, Tryz.ntmps65
  go_wp2
  go_loopw [3] (fun vi wr => vi = .int .i64 0 ∧ wr = w) (fun _ _ => 0)
  case atStart => exact ⟨rfl, rfl⟩
  case round =>
    obtain ⟨rfl, rfl⟩ := hrel
    go_wp2
    go_ret
    exact ⟨rfl, rfl⟩

theorem put_Ids {w : World} {b : Nat} (h : w.cell? ⟨b, 20, none⟩ = some (.slice none 0 0)) : Calls Tryz.prog 85 #[.pointer (some ⟨b, 0, none⟩)] w fun e w' => e = .returned (.tuple #[]) ∧ w' = w := by
  go_enter Tryz.func85, Tryz.ntmps85
  go_wp2
  go_loopw [2] (fun vi wr => vi = .int .i64 0 ∧ wr = w) (fun _ _ => 0)
  case atStart => exact ⟨rfl, rfl⟩
  case round =>
    obtain ⟨rfl, rfl⟩ := hrel
    go_wp2
    go_end0
    exact ⟨rfl, rfl⟩

theorem grow_Ids {w : World} {b : Nat} (h : w.cell? ⟨b, 20, none⟩ = some (.slice none 0 0)) : Calls Tryz.prog 101 #[.pointer (some ⟨b, 0, none⟩)] w fun e w' => e = .returned (.slice none 0 0) ∧ w' = w := by
  go_enter Tryz.func101, Tryz.ntmps101
  go_wp2
  go_loopw [3, 4] (fun vo vi wr => vo = .slice none 0 0 ∧ vi = .int .i64 0 ∧ wr = w) (fun _ _ _ => 0)
  case atStart => exact ⟨rfl, rfl, rfl⟩
  case round =>
    obtain ⟨rfl, rfl, rfl⟩ := hrel
    go_wp2
    go_ret
    exact ⟨rfl, rfl⟩

theorem marked_Ids (w : World) : Calls Tryz.prog 119 #[.slice none 0 0] w fun e w' => e = .returned (.bool true) ∧ w' = w := by
  go_enter Tryz.func119, Tryz.ntmps119
  go_wp2
  go_loopw [3] (fun vi wr => vi = .int .i64 0 ∧ wr = w) (fun _ _ => 0)
  case atStart => exact ⟨rfl, rfl⟩
  case round =>
    obtain ⟨rfl, rfl⟩ := hrel
    go_wp2
    go_ret
    exact ⟨rfl, rfl⟩

theorem still_Grams {w : World} {b : Nat} (h : w.cell? ⟨b, 22, none⟩ = some (.slice none 0 0)) : Calls Tryz.prog 66 #[.pointer (some ⟨b, 0, none⟩)] w fun e w' => e = .returned (.bool true) ∧ w' = w := by
  go_enter Tryz.func66, Tryz.ntmps66
  go_wp2
  go_loopw [3] (fun vi wr => vi = .int .i64 0 ∧ wr = w) (fun _ _ => 0)
  case atStart => exact ⟨rfl, rfl⟩
  case round =>
    obtain ⟨rfl, rfl⟩ := hrel
    go_wp2
    go_ret
    exact ⟨rfl, rfl⟩

theorem put_Grams {w : World} {b : Nat} (h : w.cell? ⟨b, 22, none⟩ = some (.slice none 0 0)) : Calls Tryz.prog 86 #[.pointer (some ⟨b, 0, none⟩)] w fun e w' => e = .returned (.tuple #[]) ∧ w' = w := by
  go_enter Tryz.func86, Tryz.ntmps86
  go_wp2
  go_loopw [2] (fun vi wr => vi = .int .i64 0 ∧ wr = w) (fun _ _ => 0)
  case atStart => exact ⟨rfl, rfl⟩
  case round =>
    obtain ⟨rfl, rfl⟩ := hrel
    go_wp2
    go_end0
    exact ⟨rfl, rfl⟩

theorem grow_Grams {w : World} {b : Nat} (h : w.cell? ⟨b, 22, none⟩ = some (.slice none 0 0)) : Calls Tryz.prog 102 #[.pointer (some ⟨b, 0, none⟩)] w fun e w' => e = .returned (.slice none 0 0) ∧ w' = w := by
  go_enter Tryz.func102, Tryz.ntmps102
  go_wp2
  go_loopw [3, 4] (fun vo vi wr => vo = .slice none 0 0 ∧ vi = .int .i64 0 ∧ wr = w) (fun _ _ _ => 0)
  case atStart => exact ⟨rfl, rfl, rfl⟩
  case round =>
    obtain ⟨rfl, rfl, rfl⟩ := hrel
    go_wp2
    go_ret
    exact ⟨rfl, rfl⟩

theorem marked_Grams (w : World) : Calls Tryz.prog 120 #[.slice none 0 0] w fun e w' => e = .returned (.bool true) ∧ w' = w := by
  go_enter Tryz.func120, Tryz.ntmps120
  go_wp2
  go_loopw [3] (fun vi wr => vi = .int .i64 0 ∧ wr = w) (fun _ _ => 0)
  case atStart => exact ⟨rfl, rfl⟩
  case round =>
    obtain ⟨rfl, rfl⟩ := hrel
    go_wp2
    go_ret
    exact ⟨rfl, rfl⟩

theorem still_Says {w : World} {b : Nat} (h : w.cell? ⟨b, 24, none⟩ = some (.slice none 0 0)) : Calls Tryz.prog 67 #[.pointer (some ⟨b, 0, none⟩)] w fun e w' => e = .returned (.bool true) ∧ w' = w := by
  go_enter Tryz.func67, Tryz.ntmps67
  go_wp2
  go_loopw [3] (fun vi wr => vi = .int .i64 0 ∧ wr = w) (fun _ _ => 0)
  case atStart => exact ⟨rfl, rfl⟩
  case round =>
    obtain ⟨rfl, rfl⟩ := hrel
    go_wp2
    go_ret
    exact ⟨rfl, rfl⟩

theorem put_Says {w : World} {b : Nat} (h : w.cell? ⟨b, 24, none⟩ = some (.slice none 0 0)) : Calls Tryz.prog 75 #[.pointer (some ⟨b, 0, none⟩)] w fun e w' => e = .returned (.tuple #[]) ∧ w' = w := by
  go_enter Tryz.func75, Tryz.ntmps75
  go_wp2
  go_loopw [2] (fun vi wr => vi = .int .i64 0 ∧ wr = w) (fun _ _ => 0)
  case atStart => exact ⟨rfl, rfl⟩
  case round =>
    obtain ⟨rfl, rfl⟩ := hrel
    go_wp2
    go_end0
    exact ⟨rfl, rfl⟩

theorem grow_Says {w : World} {b : Nat} (h : w.cell? ⟨b, 24, none⟩ = some (.slice none 0 0)) : Calls Tryz.prog 103 #[.pointer (some ⟨b, 0, none⟩)] w fun e w' => e = .returned (.slice none 0 0) ∧ w' = w := by
  go_enter Tryz.func103, Tryz.ntmps103
  go_wp2
  go_loopw [3, 4] (fun vo vi wr => vo = .slice none 0 0 ∧ vi = .int .i64 0 ∧ wr = w) (fun _ _ _ => 0)
  case atStart => exact ⟨rfl, rfl, rfl⟩
  case round =>
    obtain ⟨rfl, rfl, rfl⟩ := hrel
    go_wp2
    go_ret
    exact ⟨rfl, rfl⟩

theorem marked_Says (w : World) : Calls Tryz.prog 121 #[.slice none 0 0] w fun e w' => e = .returned (.bool true) ∧ w' = w := by
  go_enter Tryz.func121, Tryz.ntmps121
  go_wp2
  go_loopw [3] (fun vi wr => vi = .int .i64 0 ∧ wr = w) (fun _ _ => 0)
  case atStart => exact ⟨rfl, rfl⟩
  case round =>
    obtain ⟨rfl, rfl⟩ := hrel
    go_wp2
    go_ret
    exact ⟨rfl, rfl⟩

theorem still_Items {w : World} {b : Nat} (h : w.cell? ⟨b, 26, none⟩ = some (.slice none 0 0)) : Calls Tryz.prog 68 #[.pointer (some ⟨b, 0, none⟩)] w fun e w' => e = .returned (.bool true) ∧ w' = w := by
  go_enter Tryz.func68, Tryz.ntmps68
  go_wp2
  go_loopw [3] (fun vi wr => vi = .int .i64 0 ∧ wr = w) (fun _ _ => 0)
  case atStart => exact ⟨rfl, rfl⟩
  case round =>
    obtain ⟨rfl, rfl⟩ := hrel
    go_wp2
    go_ret
    exact ⟨rfl, rfl⟩

theorem put_Items {w : World} {b : Nat} (h : w.cell? ⟨b, 26, none⟩ = some (.slice none 0 0)) : Calls Tryz.prog 87 #[.pointer (some ⟨b, 0, none⟩)] w fun e w' => e = .returned (.tuple #[]) ∧ w' = w := by
  go_enter Tryz.func87, Tryz.ntmps87
  go_wp2
  go_loopw [2] (fun vi wr => vi = .int .i64 0 ∧ wr = w) (fun _ _ => 0)
  case atStart => exact ⟨rfl, rfl⟩
  case round =>
    obtain ⟨rfl, rfl⟩ := hrel
    go_wp2
    go_end0
    exact ⟨rfl, rfl⟩

theorem grow_Items {w : World} {b : Nat} (h : w.cell? ⟨b, 26, none⟩ = some (.slice none 0 0)) : Calls Tryz.prog 104 #[.pointer (some ⟨b, 0, none⟩)] w fun e w' => e = .returned (.slice none 0 0) ∧ w' = w := by
  go_enter Tryz.func104, Tryz.ntmps104
  go_wp2
  go_loopw [3, 4] (fun vo vi wr => vo = .slice none 0 0 ∧ vi = .int .i64 0 ∧ wr = w) (fun _ _ _ => 0)
  case atStart => exact ⟨rfl, rfl, rfl⟩
  case round =>
    obtain ⟨rfl, rfl, rfl⟩ := hrel
    go_wp2
    go_ret
    exact ⟨rfl, rfl⟩

theorem marked_Items (w : World) : Calls Tryz.prog 122 #[.slice none 0 0] w fun e w' => e = .returned (.bool true) ∧ w' = w := by
  go_enter Tryz.func122, Tryz.ntmps122
  go_wp2
  go_loopw [3] (fun vi wr => vi = .int .i64 0 ∧ wr = w) (fun _ _ => 0)
  case atStart => exact ⟨rfl, rfl⟩
  case round =>
    obtain ⟨rfl, rfl⟩ := hrel
    go_wp2
    go_ret
    exact ⟨rfl, rfl⟩

theorem still_Lines {w : World} {b : Nat} (h : w.cell? ⟨b, 28, none⟩ = some (.slice none 0 0)) : Calls Tryz.prog 69 #[.pointer (some ⟨b, 0, none⟩)] w fun e w' => e = .returned (.bool true) ∧ w' = w := by
  go_enter Tryz.func69, Tryz.ntmps69
  go_wp2
  go_loopw [3] (fun vi wr => vi = .int .i64 0 ∧ wr = w) (fun _ _ => 0)
  case atStart => exact ⟨rfl, rfl⟩
  case round =>
    obtain ⟨rfl, rfl⟩ := hrel
    go_wp2
    go_ret
    exact ⟨rfl, rfl⟩

theorem put_Lines {w : World} {b : Nat} (h : w.cell? ⟨b, 28, none⟩ = some (.slice none 0 0)) : Calls Tryz.prog 88 #[.pointer (some ⟨b, 0, none⟩)] w fun e w' => e = .returned (.tuple #[]) ∧ w' = w := by
  go_enter Tryz.func88, Tryz.ntmps88
  go_wp2
  go_loopw [2] (fun vi wr => vi = .int .i64 0 ∧ wr = w) (fun _ _ => 0)
  case atStart => exact ⟨rfl, rfl⟩
  case round =>
    obtain ⟨rfl, rfl⟩ := hrel
    go_wp2
    go_end0
    exact ⟨rfl, rfl⟩

theorem grow_Lines {w : World} {b : Nat} (h : w.cell? ⟨b, 28, none⟩ = some (.slice none 0 0)) : Calls Tryz.prog 105 #[.pointer (some ⟨b, 0, none⟩)] w fun e w' => e = .returned (.slice none 0 0) ∧ w' = w := by
  go_enter Tryz.func105, Tryz.ntmps105
  go_wp2
  go_loopw [3, 4] (fun vo vi wr => vo = .slice none 0 0 ∧ vi = .int .i64 0 ∧ wr = w) (fun _ _ _ => 0)
  case atStart => exact ⟨rfl, rfl, rfl⟩
  case round =>
    obtain ⟨rfl, rfl, rfl⟩ := hrel
    go_wp2
    go_ret
    exact ⟨rfl, rfl⟩

theorem marked_Lines (w : World) : Calls Tryz.prog 123 #[.slice none 0 0] w fun e w' => e = .returned (.bool true) ∧ w' = w := by
  go_enter Tryz.func123, Tryz.ntmps123
  go_wp2
  go_loopw [3] (fun vi wr => vi = .int .i64 0 ∧ wr = w) (fun _ _ => 0)
  case atStart => exact ⟨rfl, rfl⟩
  case round =>
    obtain ⟨rfl, rfl⟩ := hrel
    go_wp2
    go_ret
    exact ⟨rfl, rfl⟩

theorem still_Seats {w : World} {b : Nat} (h : w.cell? ⟨b, 30, none⟩ = some (.slice none 0 0)) : Calls Tryz.prog 70 #[.pointer (some ⟨b, 0, none⟩)] w fun e w' => e = .returned (.bool true) ∧ w' = w := by
  go_enter Tryz.func70, Tryz.ntmps70
  go_wp2
  go_loopw [3] (fun vi wr => vi = .int .i64 0 ∧ wr = w) (fun _ _ => 0)
  case atStart => exact ⟨rfl, rfl⟩
  case round =>
    obtain ⟨rfl, rfl⟩ := hrel
    go_wp2
    go_ret
    exact ⟨rfl, rfl⟩

theorem put_Seats {w : World} {b : Nat} (h : w.cell? ⟨b, 30, none⟩ = some (.slice none 0 0)) : Calls Tryz.prog 89 #[.pointer (some ⟨b, 0, none⟩)] w fun e w' => e = .returned (.tuple #[]) ∧ w' = w := by
  go_enter Tryz.func89, Tryz.ntmps89
  go_wp2
  go_loopw [2] (fun vi wr => vi = .int .i64 0 ∧ wr = w) (fun _ _ => 0)
  case atStart => exact ⟨rfl, rfl⟩
  case round =>
    obtain ⟨rfl, rfl⟩ := hrel
    go_wp2
    go_end0
    exact ⟨rfl, rfl⟩

theorem grow_Seats {w : World} {b : Nat} (h : w.cell? ⟨b, 30, none⟩ = some (.slice none 0 0)) : Calls Tryz.prog 106 #[.pointer (some ⟨b, 0, none⟩)] w fun e w' => e = .returned (.slice none 0 0) ∧ w' = w := by
  go_enter Tryz.func106, Tryz.ntmps106
  go_wp2
  go_loopw [3, 4] (fun vo vi wr => vo = .slice none 0 0 ∧ vi = .int .i64 0 ∧ wr = w) (fun _ _ _ => 0)
  case atStart => exact ⟨rfl, rfl, rfl⟩
  case round =>
    obtain ⟨rfl, rfl, rfl⟩ := hrel
    go_wp2
    go_ret
    exact ⟨rfl, rfl⟩

theorem marked_Seats (w : World) : Calls Tryz.prog 124 #[.slice none 0 0] w fun e w' => e = .returned (.bool true) ∧ w' = w := by
  go_enter Tryz.func124, Tryz.ntmps124
  go_wp2
  go_loopw [3] (fun vi wr => vi = .int .i64 0 ∧ wr = w) (fun _ _ => 0)
  case atStart => exact ⟨rfl, rfl⟩
  case round =>
    obtain ⟨rfl, rfl⟩ := hrel
    go_wp2
    go_ret
    exact ⟨rfl, rfl⟩

theorem still_Events {w : World} {b : Nat} (h : w.cell? ⟨b, 32, none⟩ = some (.slice none 0 0)) : Calls Tryz.prog 71 #[.pointer (some ⟨b, 0, none⟩)] w fun e w' => e = .returned (.bool true) ∧ w' = w := by
  go_enter Tryz.func71, Tryz.ntmps71
  go_wp2
  go_loopw [3] (fun vi wr => vi = .int .i64 0 ∧ wr = w) (fun _ _ => 0)
  case atStart => exact ⟨rfl, rfl⟩
  case round =>
    obtain ⟨rfl, rfl⟩ := hrel
    go_wp2
    go_ret
    exact ⟨rfl, rfl⟩

theorem put_Events {w : World} {b : Nat} (h : w.cell? ⟨b, 32, none⟩ = some (.slice none 0 0)) : Calls Tryz.prog 90 #[.pointer (some ⟨b, 0, none⟩)] w fun e w' => e = .returned (.tuple #[]) ∧ w' = w := by
  go_enter Tryz.func90, Tryz.ntmps90
  go_wp2
  go_loopw [2] (fun vi wr => vi = .int .i64 0 ∧ wr = w) (fun _ _ => 0)
  case atStart => exact ⟨rfl, rfl⟩
  case round =>
    obtain ⟨rfl, rfl⟩ := hrel
    go_wp2
    go_end0
    exact ⟨rfl, rfl⟩

theorem grow_Events {w : World} {b : Nat} (h : w.cell? ⟨b, 32, none⟩ = some (.slice none 0 0)) : Calls Tryz.prog 107 #[.pointer (some ⟨b, 0, none⟩)] w fun e w' => e = .returned (.slice none 0 0) ∧ w' = w := by
  go_enter Tryz.func107, Tryz.ntmps107
  go_wp2
  go_loopw [3, 4] (fun vo vi wr => vo = .slice none 0 0 ∧ vi = .int .i64 0 ∧ wr = w) (fun _ _ _ => 0)
  case atStart => exact ⟨rfl, rfl, rfl⟩
  case round =>
    obtain ⟨rfl, rfl, rfl⟩ := hrel
    go_wp2
    go_ret
    exact ⟨rfl, rfl⟩

theorem marked_Events (w : World) : Calls Tryz.prog 125 #[.slice none 0 0] w fun e w' => e = .returned (.bool true) ∧ w' = w := by
  go_enter Tryz.func125, Tryz.ntmps125
  go_wp2
  go_loopw [3] (fun vi wr => vi = .int .i64 0 ∧ wr = w) (fun _ _ => 0)
  case atStart => exact ⟨rfl, rfl⟩
  case round =>
    obtain ⟨rfl, rfl⟩ := hrel
    go_wp2
    go_ret
    exact ⟨rfl, rfl⟩

theorem still_Steps {w : World} {b : Nat} (h : w.cell? ⟨b, 34, none⟩ = some (.slice none 0 0)) : Calls Tryz.prog 72 #[.pointer (some ⟨b, 0, none⟩)] w fun e w' => e = .returned (.bool true) ∧ w' = w := by
  go_enter Tryz.func72, Tryz.ntmps72
  go_wp2
  go_loopw [3] (fun vi wr => vi = .int .i64 0 ∧ wr = w) (fun _ _ => 0)
  case atStart => exact ⟨rfl, rfl⟩
  case round =>
    obtain ⟨rfl, rfl⟩ := hrel
    go_wp2
    go_ret
    exact ⟨rfl, rfl⟩

theorem put_Steps {w : World} {b : Nat} (h : w.cell? ⟨b, 34, none⟩ = some (.slice none 0 0)) : Calls Tryz.prog 76 #[.pointer (some ⟨b, 0, none⟩)] w fun e w' => e = .returned (.tuple #[]) ∧ w' = w := by
  go_enter Tryz.func76, Tryz.ntmps76
  go_wp2
  go_loopw [2] (fun vi wr => vi = .int .i64 0 ∧ wr = w) (fun _ _ => 0)
  case atStart => exact ⟨rfl, rfl⟩
  case round =>
    obtain ⟨rfl, rfl⟩ := hrel
    go_wp2
    go_end0
    exact ⟨rfl, rfl⟩

theorem grow_Steps {w : World} {b : Nat} (h : w.cell? ⟨b, 34, none⟩ = some (.slice none 0 0)) : Calls Tryz.prog 108 #[.pointer (some ⟨b, 0, none⟩)] w fun e w' => e = .returned (.slice none 0 0) ∧ w' = w := by
  go_enter Tryz.func108, Tryz.ntmps108
  go_wp2
  go_loopw [3, 4] (fun vo vi wr => vo = .slice none 0 0 ∧ vi = .int .i64 0 ∧ wr = w) (fun _ _ _ => 0)
  case atStart => exact ⟨rfl, rfl, rfl⟩
  case round =>
    obtain ⟨rfl, rfl, rfl⟩ := hrel
    go_wp2
    go_ret
    exact ⟨rfl, rfl⟩

theorem marked_Steps (w : World) : Calls Tryz.prog 126 #[.slice none 0 0] w fun e w' => e = .returned (.bool true) ∧ w' = w := by
  go_enter Tryz.func126, Tryz.ntmps126
  go_wp2
  go_loopw [3] (fun vi wr => vi = .int .i64 0 ∧ wr = w) (fun _ _ => 0)
  case atStart => exact ⟨rfl, rfl⟩
  case round =>
    obtain ⟨rfl, rfl⟩ := hrel
    go_wp2
    go_ret
    exact ⟨rfl, rfl⟩

end Go.Proofs.YtkneogfeokckjaaGreatDoor

namespace Go.Proofs.YtkneogfeokckjaaGreatDoor
open Go.RowKit

section
variable {W : World} {bk base : Nat} {a6 a7 b6 b7 : Value} {xa au : List Value} {As : List (List BInts.El)} {xb bu : List Value} {Bs : List (List BAvps.El)}

set_option maxHeartbeats 16000000 in
set_option maxRecDepth 100000 in
theorem apart_two (h : Two W bk base a6 a7 b6 b7 xa au As xb bu Bs) (hb : base ≤ W.heap.size) (hsa : ∀ L ∈ As, L.length ≤ 1000) (hsb : ∀ L ∈ Bs, L.length ≤ 1000) (ha250 : xa.length ≤ 250) (hb250 : xb.length ≤ 250) :
    Calls Tryz.prog 29 #[.pointer (some ⟨bk, 0, none⟩)] W fun e w' => e = .returned (.bool true) ∧ FB base W w' := by
  have HA := hid h.a
  have HV := hid h.b
  have Hsa := hid hsa
  have Hsb := hid hsb
  have Hb := hid hb
  have Ha250 := hid ha250
  have Hb250 := hid hb250
  have HLa := hid h.a.p.f6.len
  have HLb := hid h.b.p.f6.len
  clear h hsa hsb hb ha250 hb250
  go_enter Tryz.func29, Tryz.ntmps29
  go_wp2_with fail
  refine (still_Texts ((HA.out.p.cell 0).trans rfl)).mono ?_
  rintro e w' ⟨rfl, hw⟩
  subst w'
  go_wp2_with fail
  refine (BInts.still_Ints HA.out Hsa.out Ha250.out).mono ?_
  rintro e w1 ⟨rfl, hk1⟩
  have HA1 := hid (HA.out.kept0 hk1)
  have HV1 := hid (HV.out.kept0 hk1)
  have HB1 := hid (FB.none hk1 Hb.out)
  have Hb1 := hid (Nat.le_trans Hb.out hk1.size)
  clear hk1 HA HV Hb
  go_wp2_with fail
  refine (still_Ethers ((HA1.out.p.cell 4).trans rfl)).mono ?_
  rintro e w' ⟨rfl, hw⟩
  subst w'
  go_wp2_with fail
  refine (still_Tags ((HA1.out.p.cell 6).trans rfl)).mono ?_
  rintro e w' ⟨rfl, hw⟩
  subst w'
  go_wp2_with fail
  refine (still_Options ((HA1.out.p.cell 8).trans rfl)).mono ?_
  rintro e w' ⟨rfl, hw⟩
  subst w'
  go_wp2_with fail
  refine (still_Packets ((HA1.out.p.cell 10).trans rfl)).mono ?_
  rintro e w' ⟨rfl, hw⟩
  subst w'
  go_wp2_with fail
  refine (BAvps.still_Avps HV1.out Hsb.out Hb250.out).mono ?_
  rintro e w2 ⟨rfl, hk2⟩
  have HA2 := hid (HA1.out.kept0 hk2).p
  have HV2 := hid (HV1.out.kept0 hk2).p
  have HB2 := hid (HB1.out.trans (FB.none hk2 Hb1.out))
  have Hb2 := hid (Nat.le_trans Hb1.out hk2.size)
  clear hk2 HA1 HV1 HB1 Hb1
  go_wp2_with fail
  refine (still_Ctls ((HA2.out.cell 14).trans rfl)).mono ?_
  rintro e w' ⟨rfl, hw⟩
  subst w'
  go_wp2_with fail
  refine (still_Keys ((HA2.out.cell 16).trans rfl)).mono ?_
  rintro e w' ⟨rfl, hw⟩
  subst w'
  go_wp2_with fail
  refine (still_Sessions ((HA2.out.cell 18).trans rfl)).mono ?_
  rintro e w' ⟨rfl, hw⟩
  subst w'
  go_wp2_with fail
  refine (still_Ids ((HA2.out.cell 20).trans rfl)).mono ?_
  rintro e w' ⟨rfl, hw⟩
  subst w'
  go_wp2_with fail
  refine (still_Grams ((HA2.out.cell 22).trans rfl)).mono ?_
  rintro e w' ⟨rfl, hw⟩
  subst w'
  go_wp2_with fail
  refine (still_Says ((HA2.out.cell 24).trans rfl)).mono ?_
  rintro e w' ⟨rfl, hw⟩
  subst w'
  go_wp2_with fail
  refine (still_Items ((HA2.out.cell 26).trans rfl)).mono ?_
  rintro e w' ⟨rfl, hw⟩
  subst w'
  go_wp2_with fail
  refine (still_Lines ((HA2.out.cell 28).trans rfl)).mono ?_
  rintro e w' ⟨rfl, hw⟩
  subst w'
  go_wp2_with fail
  refine (still_Seats ((HA2.out.cell 30).trans rfl)).mono ?_
  rintro e w' ⟨rfl, hw⟩
  subst w'
  go_wp2_with fail
  refine (still_Events ((HA2.out.cell 32).trans rfl)).mono ?_
  rintro e w' ⟨rfl, hw⟩
  subst w'
  go_wp2_with fail
  refine (still_Steps ((HA2.out.cell 34).trans rfl)).mono ?_
  rintro e w' ⟨rfl, hw⟩
  subst w'
  go_wp2_with fail
  refine (put_Packets ((HA2.out.cell 10).trans rfl)).mono ?_
  rintro e w' ⟨rfl, hw⟩
  subst w'
  go_wp2_with fail
  refine (put_Ctls ((HA2.out.cell 14).trans rfl)).mono ?_
  rintro e w' ⟨rfl, hw⟩
  subst w'
  go_wp2_with fail
  refine (put_Says ((HA2.out.cell 24).trans rfl)).mono ?_
  rintro e w' ⟨rfl, hw⟩
  subst w'
  go_wp2_with fail
  refine (put_Steps ((HA2.out.cell 34).trans rfl)).mono ?_
  rintro e w' ⟨rfl, hw⟩
  subst w'
  go_wp2_with fail
  refine (put_Texts ((HA2.out.cell 0).trans rfl)).mono ?_
  rintro e w' ⟨rfl, hw⟩
  subst w'
  go_wp2_with fail
  refine (BInts.put_Ints HA2.out Hb2.out Hsa.out Ha250.out).mono ?_
  rintro e w3 ⟨rfl, hp3, hb3⟩
  have HA3 := hid hp3
  have HV3 := hid (HV2.out.other hb3.k (ty_apartA) (hp3.blk.trans (cells_same _ _ _ _)))
  have HB3 := hid (HB2.out.trans (FB.ofA hb3))
  have Hb3 := hid (Nat.le_trans Hb2.out hb3.b.size)
  clear hp3 hb3 HA2 HV2 HB2 Hb2
  go_wp2_with fail
  refine (put_Ethers ((HA3.out.cell 4).trans rfl)).mono ?_
  rintro e w' ⟨rfl, hw⟩
  subst w'
  go_wp2_with fail
  refine (put_Tags ((HA3.out.cell 6).trans rfl)).mono ?_
  rintro e w' ⟨rfl, hw⟩
  subst w'
  go_wp2_with fail
  refine (put_Options ((HA3.out.cell 8).trans rfl)).mono ?_
  rintro e w' ⟨rfl, hw⟩
  subst w'
  go_wp2_with fail
  refine (BAvps.put_Avps HV3.out Hb3.out Hsb.out Hb250.out).mono ?_
  rintro e w4 ⟨rfl, ho4, hb4⟩
  have HV4 := hid ho4
  have HA4 := hid (HA3.out.other hb4.k (ty_apartB) (ho4.blk.trans (cells_same _ _ _ _).symm))
  have HB4 := hid (HB3.out.trans (FB.ofB hb4))
  have Hb4 := hid (Nat.le_trans Hb3.out hb4.b.size)
  clear ho4 hb4 HA3 HV3 HB3 Hb3
  go_wp2_with fail
  refine (put_Keys ((HA4.out.cell 16).trans rfl)).mono ?_
  rintro e w' ⟨rfl, hw⟩
  subst w'
  go_wp2_with fail
  refine (put_Sessions ((HA4.out.cell 18).trans rfl)).mono ?_
  rintro e w' ⟨rfl, hw⟩
  subst w'
  go_wp2_with fail
  refine (put_Ids ((HA4.out.cell 20).trans rfl)).mono ?_
  rintro e w' ⟨rfl, hw⟩
  subst w'
  go_wp2_with fail
  refine (put_Grams ((HA4.out.cell 22).trans rfl)).mono ?_
  rintro e w' ⟨rfl, hw⟩
  subst w'
  go_wp2_with fail
  refine (put_Items ((HA4.out.cell 26).trans rfl)).mono ?_
  rintro e w' ⟨rfl, hw⟩
  subst w'
  go_wp2_with fail
  refine (put_Lines ((HA4.out.cell 28).trans rfl)).mono ?_
  rintro e w' ⟨rfl, hw⟩
  subst w'
  go_wp2_with fail
  refine (put_Seats ((HA4.out.cell 30).trans rfl)).mono ?_
  rintro e w' ⟨rfl, hw⟩
  subst w'
  go_wp2_with fail
  refine (put_Events ((HA4.out.cell 32).trans rfl)).mono ?_
  rintro e w' ⟨rfl, hw⟩
  subst w'
  go_wp2_with fail
  refine (grow_Texts ((HA4.out.cell 0).trans rfl)).mono ?_
  rintro e w' ⟨rfl, hw⟩
  subst w'
  go_wp2_with fail
  refine (BInts.grow_Ints HA4.out (BInts.putL_marked As xa.length (Nat.le_of_eq HLa.out.symm)) Hb4.out (BInts.putL_size As _ _ Hsa.out) Ha250.out).mono ?_
  rintro e w5 ⟨vo, rfl, gs, hgl, Gs, ho⟩
  have HG5 := hid ho
  have Hgl := hid hgl
  have HV5 := hid (HV4.out.other ho.bel.k (ty_apartA) (ho.rest.blk.trans (cells_same _ _ _ _)))
  have HB5 := hid (HB4.out.trans (FB.ofA ho.bel))
  clear ho hgl HA4 HV4 HB4 Hb4
  go_wp2_with fail
  refine (grow_Ethers ((HG5.out.rest.cell 4).trans rfl)).mono ?_
  rintro e w' ⟨rfl, hw⟩
  subst w'
  go_wp2_with fail
  refine (grow_Tags ((HG5.out.rest.cell 6).trans rfl)).mono ?_
  rintro e w' ⟨rfl, hw⟩
  subst w'
  go_wp2_with fail
  refine (grow_Options ((HG5.out.rest.cell 8).trans rfl)).mono ?_
  rintro e w' ⟨rfl, hw⟩
  subst w'
  go_wp2_with fail
  refine (grow_Packets ((HG5.out.rest.cell 10).trans rfl)).mono ?_
  rintro e w' ⟨rfl, hw⟩
  subst w'
  go_wp2_with fail
  refine (BAvps.grow_Avps HV5.out (BAvps.putL_marked Bs xb.length (Nat.le_of_eq HLb.out.symm)) HG5.out.hb (BAvps.putL_size Bs _ _ Hsb.out) Hb250.out).mono ?_
  rintro e w6 ⟨vq, rfl, hs, hhl, Hs, hq⟩
  have HQ6 := hid hq
  have Hhl := hid hhl
  have HR6 := hid (And.intro (BInts.row_other HG5.out.rest.ro hq.bel.k ty_apartB) (And.intro (BInts.fam_other HG5.out.st.grown hq.bel.k ty_apartB) (And.intro (BInts.row_other HG5.out.rest.r6 hq.bel.k ty_apartB) (BInts.fam_other HG5.out.st.fam hq.bel.k ty_apartB))))
  have HM6 := hid (And.intro HG5.out.mks HG5.out.sz)
  have HB6 := hid (HB5.out.trans (FB.ofB hq.bel))
  clear hq hhl HG5 HV5 HB5
  go_wp2_with fail
  refine (grow_Ctls ((HQ6.out.rest.cell 14).trans rfl)).mono ?_
  rintro e w' ⟨rfl, hw⟩
  subst w'
  go_wp2_with fail
  refine (grow_Keys ((HQ6.out.rest.cell 16).trans rfl)).mono ?_
  rintro e w' ⟨rfl, hw⟩
  subst w'
  go_wp2_with fail
  refine (grow_Sessions ((HQ6.out.rest.cell 18).trans rfl)).mono ?_
  rintro e w' ⟨rfl, hw⟩
  subst w'
  go_wp2_with fail
  refine (grow_Ids ((HQ6.out.rest.cell 20).trans rfl)).mono ?_
  rintro e w' ⟨rfl, hw⟩
  subst w'
  go_wp2_with fail
  refine (grow_Grams ((HQ6.out.rest.cell 22).trans rfl)).mono ?_
  rintro e w' ⟨rfl, hw⟩
  subst w'
  go_wp2_with fail
  refine (grow_Says ((HQ6.out.rest.cell 24).trans rfl)).mono ?_
  rintro e w' ⟨rfl, hw⟩
  subst w'
  go_wp2_with fail
  refine (grow_Items ((HQ6.out.rest.cell 26).trans rfl)).mono ?_
  rintro e w' ⟨rfl, hw⟩
  subst w'
  go_wp2_with fail
  refine (grow_Lines ((HQ6.out.rest.cell 28).trans rfl)).mono ?_
  rintro e w' ⟨rfl, hw⟩
  subst w'
  go_wp2_with fail
  refine (grow_Seats ((HQ6.out.rest.cell 30).trans rfl)).mono ?_
  rintro e w' ⟨rfl, hw⟩
  subst w'
  go_wp2_with fail
  refine (grow_Events ((HQ6.out.rest.cell 32).trans rfl)).mono ?_
  rintro e w' ⟨rfl, hw⟩
  subst w'
  go_wp2_with fail
  refine (grow_Steps ((HQ6.out.rest.cell 34).trans rfl)).mono ?_
  rintro e w' ⟨rfl, hw⟩
  subst w'
  have c0 : w6.cell? ⟨bk, 0, none⟩ = some (.slice none 0 0) := (HQ6.out.rest.cell 0).trans rfl
  go_wp2_with fail
  refine (marked_Texts _).mono ?_
  rintro e w' ⟨rfl, hw⟩
  subst w'
  go_wp2_with fail
  refine (marked_Texts _).mono ?_
  rintro e w' ⟨rfl, hw⟩
  subst w'
  go_wp2_with fail
  refine (BInts.marked_Ints HR6.out.1 HR6.out.2.1 HM6.out.1 (fun G hG => Nat.le_trans (HM6.out.2 G hG) (by decide)) (by rw [Hgl.out]; exact Ha250.out)).mono ?_
  rintro e w7 ⟨rfl, hk7⟩
  have HQ7 := hid (And.intro (HQ6.out.rest.kept0 hk7) (And.intro (HQ6.out.st.fam.kept0 hk7) (HQ6.out.st.grown.kept0 hk7)))
  have HMq := hid (And.intro HQ6.out.mks HQ6.out.sz)
  have HR7 := hid (And.intro (BInts.rowS_kept HR6.out.2.2.1 hk7 (fun _ _ => id)) (HR6.out.2.2.2.kept0 hk7))
  have HB7 := hid (HB6.out.trans (FB.none hk7 HQ6.out.hb))
  have Hb7 := hid (Nat.le_trans HQ6.out.hb hk7.size)
  have ca : w7.cell? ⟨bk, 2, none⟩ = some a6 := (HQ7.out.1.cell 2).trans rfl
  clear hk7 HQ6 HR6 HM6 HB6 c0
  go_wp2_with fail
  refine (BInts.marked_Ints HR7.out.1 HR7.out.2 (BInts.putL_marked As xa.length (Nat.le_of_eq HLa.out.symm)) (BInts.putL_size As _ _ (fun L hL => Nat.le_trans (Hsa.out L hL) (by decide))) Ha250.out).mono ?_
  rintro e w8 ⟨rfl, hk8⟩
  have HQ8 := hid (And.intro (HQ7.out.1.kept0 hk8) (And.intro (HQ7.out.2.1.kept0 hk8) (HQ7.out.2.2.kept0 hk8)))
  have HB8 := hid (HB7.out.trans (FB.none hk8 Hb7.out))
  have Hb8 := hid (Nat.le_trans Hb7.out hk8.size)
  clear hk8 HQ7 HR7 HB7 Hb7 ca
  have c4 : w8.cell? ⟨bk, 4, none⟩ = some (.slice none 0 0) := (HQ8.out.1.cell 4).trans rfl
  have c6 : w8.cell? ⟨bk, 6, none⟩ = some (.slice none 0 0) := (HQ8.out.1.cell 6).trans rfl
  have c8 : w8.cell? ⟨bk, 8, none⟩ = some (.slice none 0 0) := (HQ8.out.1.cell 8).trans rfl
  have c10 : w8.cell? ⟨bk, 10, none⟩ = some (.slice none 0 0) := (HQ8.out.1.cell 10).trans rfl
  go_wp2_with fail
  refine (marked_Ethers _).mono ?_
  rintro e w' ⟨rfl, hw⟩
  subst w'
  go_wp2_with fail
  refine (marked_Ethers _).mono ?_
  rintro e w' ⟨rfl, hw⟩
  subst w'
  go_wp2_with fail
  refine (marked_Tags _).mono ?_
  rintro e w' ⟨rfl, hw⟩
  subst w'
  go_wp2_with fail
  refine (marked_Tags _).mono ?_
  rintro e w' ⟨rfl, hw⟩
  subst w'
  go_wp2_with fail
  refine (marked_Options _).mono ?_
  rintro e w' ⟨rfl, hw⟩
  subst w'
  go_wp2_with fail
  refine (marked_Options _).mono ?_
  rintro e w' ⟨rfl, hw⟩
  subst w'
  go_wp2_with fail
  refine (marked_Packets _).mono ?_
  rintro e w' ⟨rfl, hw⟩
  subst w'
  go_wp2_with fail
  refine (marked_Packets _).mono ?_
  rintro e w' ⟨rfl, hw⟩
  subst w'
  go_wp2_with fail
  refine (BAvps.marked_Avps HQ8.out.1.ro HQ8.out.2.2 HMq.out.1 (fun G hG => Nat.le_trans (HMq.out.2 G hG) (by decide)) (by rw [Hhl.out]; exact Hb250.out)).mono ?_
  rintro e w9 ⟨rfl, hk9⟩
  have HQ9 := hid (And.intro (HQ8.out.1.kept0 hk9) (HQ8.out.2.1.kept0 hk9))
  have HB9 := hid (HB8.out.trans (FB.none hk9 Hb8.out))
  have Hb9 := hid (Nat.le_trans Hb8.out hk9.size)
  have cb : w9.cell? ⟨bk, 12, none⟩ = some b6 := HQ9.out.1.c6
  clear hk9 HQ8 HMq HB8 Hb8 c4 c6 c8 c10
  go_wp2_with fail
  refine (BAvps.marked_Avps HQ9.out.1.r6 HQ9.out.2 (BAvps.putL_marked Bs xb.length (Nat.le_of_eq HLb.out.symm)) (BAvps.putL_size Bs _ _ (fun L hL => Nat.le_trans (Hsb.out L hL) (by decide))) Hb250.out).mono ?_
  rintro e w10 ⟨rfl, hk10⟩
  have HQ10 := hid (HQ9.out.1.kept0 hk10)
  have HB10 := hid (HB9.out.trans (FB.none hk10 Hb9.out))
  clear hk10 HQ9 HB9 Hb9 cb
  have c14 : w10.cell? ⟨bk, 14, none⟩ = some (.slice none 0 0) := (HQ10.out.cell 14).trans rfl
  have c16 : w10.cell? ⟨bk, 16, none⟩ = some (.slice none 0 0) := (HQ10.out.cell 16).trans rfl
  have c18 : w10.cell? ⟨bk, 18, none⟩ = some (.slice none 0 0) := (HQ10.out.cell 18).trans rfl
  have c20 : w10.cell? ⟨bk, 20, none⟩ = some (.slice none 0 0) := (HQ10.out.cell 20).trans rfl
  have c22 : w10.cell? ⟨bk, 22, none⟩ = some (.slice none 0 0) := (HQ10.out.cell 22).trans rfl
  have c24 : w10.cell? ⟨bk, 24, none⟩ = some (.slice none 0 0) := (HQ10.out.cell 24).trans rfl
  have c26 : w10.cell? ⟨bk, 26, none⟩ = some (.slice none 0 0) := (HQ10.out.cell 26).trans rfl
  have c28 : w10.cell? ⟨bk, 28, none⟩ = some (.slice none 0 0) := (HQ10.out.cell 28).trans rfl
  have c30 : w10.cell? ⟨bk, 30, none⟩ = some (.slice none 0 0) := (HQ10.out.cell 30).trans rfl
  have c32 : w10.cell? ⟨bk, 32, none⟩ = some (.slice none 0 0) := (HQ10.out.cell 32).trans rfl
  have c34 : w10.cell? ⟨bk, 34, none⟩ = some (.slice none 0 0) := (HQ10.out.cell 34).trans rfl
  go_wp2_with fail
  refine (marked_Ctls _).mono ?_
  rintro e w' ⟨rfl, hw⟩
  subst w'
  go_wp2_with fail
  refine (marked_Ctls _).mono ?_
  rintro e w' ⟨rfl, hw⟩
  subst w'
  go_wp2_with fail
  refine (marked_Keys _).mono ?_
  rintro e w' ⟨rfl, hw⟩
  subst w'
  go_wp2_with fail
  refine (marked_Keys _).mono ?_
  rintro e w' ⟨rfl, hw⟩
  subst w'
  go_wp2_with fail
  refine (marked_Sessions _).mono ?_
  rintro e w' ⟨rfl, hw⟩
  subst w'
  go_wp2_with fail
  refine (marked_Sessions _).mono ?_
  rintro e w' ⟨rfl, hw⟩
  subst w'
  go_wp2_with fail
  refine (marked_Ids _).mono ?_
  rintro e w' ⟨rfl, hw⟩
  subst w'
  go_wp2_with fail
  refine (marked_Ids _).mono ?_
  rintro e w' ⟨rfl, hw⟩
  subst w'
  go_wp2_with fail
  refine (marked_Grams _).mono ?_
  rintro e w' ⟨rfl, hw⟩
  subst w'
  go_wp2_with fail
  refine (marked_Grams _).mono ?_
  rintro e w' ⟨rfl, hw⟩
  subst w'
  go_wp2_with fail
  refine (marked_Says _).mono ?_
  rintro e w' ⟨rfl, hw⟩
  subst w'
  go_wp2_with fail
  refine (marked_Says _).mono ?_
  rintro e w' ⟨rfl, hw⟩
  subst w'
  go_wp2_with fail
  refine (marked_Items _).mono ?_
  rintro e w' ⟨rfl, hw⟩
  subst w'
  go_wp2_with fail
  refine (marked_Items _).mono ?_
  rintro e w' ⟨rfl, hw⟩
  subst w'
  go_wp2_with fail
  refine (marked_Lines _).mono ?_
  rintro e w' ⟨rfl, hw⟩
  subst w'
  go_wp2_with fail
  refine (marked_Lines _).mono ?_
  rintro e w' ⟨rfl, hw⟩
  subst w'
  go_wp2_with fail
  refine (marked_Seats _).mono ?_
  rintro e w' ⟨rfl, hw⟩
  subst w'
  go_wp2_with fail
  refine (marked_Seats _).mono ?_
  rintro e w' ⟨rfl, hw⟩
  subst w'
  go_wp2_with fail
  refine (marked_Events _).mono ?_
  rintro e w' ⟨rfl, hw⟩
  subst w'
  go_wp2_with fail
  refine (marked_Events _).mono ?_
  rintro e w' ⟨rfl, hw⟩
  subst w'
  go_wp2_with fail
  refine (marked_Steps _).mono ?_
  rintro e w' ⟨rfl, hw⟩
  subst w'
  go_wp2_with fail
  refine (marked_Steps _).mono ?_
  rintro e w' ⟨rfl, hw⟩
  subst w'
  go_wp2
  go_ret
  exact ⟨rfl, HB10.out⟩
end
end Go.Proofs.YtkneogfeokckjaaGreatDoor
