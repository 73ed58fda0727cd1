/- Rows of elements of 5 cells: 'append' of one and of a list; lists that are read; one element written whole. (Written by gen_bookB.py.) -/
import Derived.Test.YtnghakhgogfemaaGreatDoorVaEl
import Derived.Test.YtnghakhgogfemaaGreatDoorBbKit
import Derived.Lib.AppendZeros
import Derived.Deep.Upon
import Derived.Laws.CopyRow
namespace Go.Proofs.YtnghakhgogfemaaGreatDoor.BAvps
open Go.RowKit

def rowB (l : List El) : List Value := l.flatMap elCells
theorem rowB_append (a b : List El) : rowB (a ++ b) = rowB a ++ rowB b := by simp [rowB]
theorem rowB_cons (a : El) (r : List El) : rowB (a :: r) = elCells a ++ rowB r := by simp [rowB]
theorem rowB_length (l : List El) : (rowB l).length = l.length * 5 := by
  induction l with
  | nil => rfl
  | cons a r ih => rw [rowB_cons, List.length_append, ih, elLen]; simp; omega
theorem rowB_get {l : List El} {k : Nat} {x : El} (h : l[k]? = some x) (j : Nat) (hj : j < 5) : (rowB l)[k * 5 + j]? = (elCells x)[j]? := by
  induction l generalizing k with
  | nil => simp at h
  | cons a r ih =>
    cases k with
    | zero =>
      simp at h
      subst h
      rw [rowB_cons, List.getElem?_append_left (by rw [elLen]; omega)]
      simp
    | succ k =>
      simp at h
      rw [rowB_cons, List.getElem?_append_right (by rw [elLen]; omega), ← ih h, elLen]
      congr 1
      omega
theorem rowB_oneCell (l : List El) : ∀ u ∈ rowB l, u.oneCell' = true := by
  intro u hu
  obtain ⟨g, _, hg⟩ := List.mem_flatMap.1 hu
  exact elOne g u hg
theorem rowB_set (L : List El) {k : Nat} (hk : k < L.length) (x : El) : rowB (L.set k x) = (rowB L).take (k * 5) ++ elCells x ++ (rowB L).drop (k * 5 + 5) := by
  induction L generalizing k with
  | nil => simp at hk
  | cons a r ih =>
    cases k with
    | zero => rw [List.set_cons_zero, rowB_cons, rowB_cons, Nat.zero_mul, List.take_zero, List.nil_append, Nat.zero_add, List.drop_append, elLen, Nat.sub_self, List.drop_of_length_le (by rw [elLen]; exact Nat.le_refl _)]; simp
    | succ k =>
      have h1 : (k + 1) * 5 = (elCells a).length + k * 5 := by rw [elLen]; omega
      have h2 : (k + 1) * 5 + 5 = (elCells a).length + (k * 5 + 5) := by rw [elLen]; omega
      rw [List.set_cons_succ, rowB_cons, rowB_cons, ih (by simpa using hk), h2, List.drop_length_add_append, h1, List.take_length_add_append]
      simp only [List.append_assoc]

theorem sizeB (x : El) : (Tryz.prog.info? 59).map (·.size) = some (elCells x).length := by
  rw [elLen]
  kernel_rfl
def OwnB (w : World) (base : Nat) (v : Value) (l : List El) : Prop := w.ownsRow base 59 5 v l.length (rowB l)
section
variable {w w' W : World} {base base' : Nat} {v : Value} {l : List El}
theorem OwnB.nil (w : World) (base : Nat) : OwnB w base (.slice none 0 0) [] := World.ownsRow_nil _ _ _ _
theorem OwnB.kept (h : OwnB w base v l) (hk : Kept (fun _ => False) w w') : OwnB w' base v l := owned_kept h hk (fun _ _ => id)
theorem OwnB.mono (h : OwnB w base v l) (hb : base' ≤ base) : OwnB w base' v l := by
  rcases h.2 with ⟨rfl, h0⟩ | ⟨g, cap, cur, rfl, hb', hg, h1, h2, h3, h4⟩
  · exact ⟨h.1, Or.inl ⟨rfl, h0⟩⟩
  · exact ⟨h.1, Or.inr ⟨g, cap, cur, rfl, Nat.le_trans hb hb', hg, h1, h2, h3, h4⟩⟩
theorem OwnB.block (h : OwnB w base v l) {i : Nat} (hi : v.ownBlock = some i) : (∃ cur, w.heap[i]? = some (.cells cur 59 (0, 0))) ∧ base ≤ i := by
  rcases h.2 with ⟨rfl, _⟩ | ⟨g, cap, cur, rfl, hb, hg, _⟩
  · cases hi
  · have : g = i := by simpa [Value.ownBlock] using hi
    subst this
    exact ⟨⟨cur, hg⟩, hb⟩
/-- A list that is read. -/
def RdB (w : World) (v : Value) (l : List El) : Prop := ∃ base, OwnB w base v l
theorem OwnB.tags (h : OwnB w base v l) : RdB w v l := ⟨base, h⟩
theorem OwnB.rowB (h : OwnB W base v l) (hne : l ≠ []) : ∃ g o cap, v = .slice (some ⟨g, o, none⟩) l.length cap ∧ ∀ (j : Nat) (u : Value), (rowB l)[j]? = some u → W.cell? ((⟨g, o, none⟩ : Addr).add j) = some u := by
  rcases h.2 with ⟨_, h0⟩ | ⟨g, cap, cur, rfl, hb, hg, h1, h2, h3, h4⟩
  · exact absurd (List.eq_nil_of_length_eq_zero h0) hne
  · refine ⟨g, 0, cap, rfl, fun j u hj => ?_⟩
    have hlt := (List.getElem?_eq_some_iff.1 hj).1
    rw [rowB_length] at hlt
    rw [addr_add, ← hj, ← h4, List.getElem?_take_of_lt hlt]
    simp [World.cell?, hg]
/-- One element, as it is loaded, and as it is written. -/
theorem OwnB.at {p : Option Addr} {n cap : Nat} (h : OwnB W base (.slice p n cap) l) {k : Nat} {y : El} (hk : l[k]? = some y) : ∃ g, p = some ⟨g, 0, none⟩ ∧ n = l.length ∧ l.length ≤ cap ∧ W.rangeAt g (k * 5) (elCells y) := by
  have hlt := (List.getElem?_eq_some_iff.1 hk).1
  rcases h.2 with ⟨_, h0⟩ | ⟨g, cap', cur, e, hb, hg, h1, h2, h3, h4⟩
  · omega
  · simp only [Value.slice.injEq] at e
    obtain ⟨rfl, rfl, rfl⟩ := e
    have hc : ∀ i, i < l.length * 5 → W.cell? ⟨g, i, none⟩ = (BAvps.rowB l)[i]? := fun i hi => by
      rw [← h4, List.getElem?_take_of_lt hi]
      simp [World.cell?, hg]
    refine ⟨g, rfl, rfl, h1, fun j u hj => ?_⟩
    have hj' := (List.getElem?_eq_some_iff.1 hj).1
    rw [elLen] at hj'
    rw [hc _ (by omega), rowB_get hk j hj']
    exact hj
theorem own_set {g n cap : Nat} {L : List El} (h : OwnB W base (.slice (some ⟨g, 0, none⟩) n cap) L) {k : Nat} (hk : k < L.length) (x : El) :
    ∃ w', (Instr.storeAt 59 (.pointer (some ⟨g, k * 5, none⟩)) (.agg (elCells x).toArray)).run Tryz.prog W = .ok () w' ∧ OwnB w' base (.slice (some ⟨g, 0, none⟩) n cap) (L.set k x) ∧ Kept (fun i => (Value.slice (some ⟨g, 0, none⟩) n cap).ownBlock = some i) W w' := by
  rcases h.2 with ⟨h', _⟩ | ⟨g', cap', cur, h', hb, hg, h1, h2, h3, h4⟩
  · simp at h'
  · simp only [Value.slice.injEq, Option.some.injEq, Addr.mk.injEq, and_true] at h'
    obtain ⟨rfl, rfl, rfl⟩ := h'
    have hle : k * 5 + (elCells x).length ≤ cur.size := by rw [elLen, h3]; omega
    have hst := storeB (P := Tryz.prog) (ty := 59) (elCells x) hg hle (elOne x) (sizeB x)
    rw [elLen] at hst
    refine ⟨_, hst, ⟨rowB_length _, Or.inr ⟨g, cap, _, by rw [List.length_set], hb, setRow_block hg _, by rw [List.length_set]; exact h1, h2, ?_, ?_⟩⟩, ?_⟩
    · have : (cur.toList.take (k * 5) ++ elCells x ++ cur.toList.drop (k * 5 + 5)).length = cap * 5 := by
        rw [List.length_append, List.length_append, List.length_take, List.length_drop, elLen, Array.length_toList, h3]
        omega
      simpa using this
    · rw [List.length_set, rowB_set L hk x, ← h4]
      show (cur.toList.take (k * 5) ++ elCells x ++ cur.toList.drop (k * 5 + 5)).take (L.length * 5) = _
      have hl1 : (cur.toList.take (k * 5) ++ elCells x).length = k * 5 + 5 := by
        rw [List.length_append, List.length_take, elLen, Array.length_toList, h3]
        omega
      rw [List.take_append, hl1, List.take_of_length_le (by rw [hl1]; omega), List.take_take, Nat.min_eq_left (by omega), List.drop_take]
    · exact setRow_kept W g _
/-- What 'append' makes of two lists. -/
def AppB (w : World) (v u v' : Value) (w' : World) : Prop := ∀ ty, (Builtin.append_ #[22, 22] ty #[v, u]).run Tryz.prog w = .ok v' w'
theorem cells_new (w : World) (q : El) : ∀ (j : Nat) (x : Value), (rowB [q])[j]? = some x → (w.alloc (.cells (elCells q).toArray 59)).cell? ((⟨w.heap.size, 0, none⟩ : Addr).add j) = some x := by
  intro j x h
  rw [addr_add, World.cell?_alloc_new]
  simpa [BAvps.rowB] using h
/-- 'append' of one element. -/
theorem pushB {lo : Nat} (q : El) (hb : lo ≤ w.heap.size) (h : OwnB w lo v l) (hn : l.length ≤ 100000) :
    ∃ v' w', AppB (w.alloc (.cells (elCells q).toArray 59)) v (.slice (some ⟨w.heap.size, 0, none⟩) 1 1) v' w' ∧ OwnB w' lo v' (l ++ [q]) ∧ Kept (fun i => v.ownBlock = some i) w w' := by
  obtain ⟨i0, hi0, hz0, hz1, hz2⟩ := info_parts infoB
  have hsz : (w.alloc (.cells (elCells q).toArray 59)).heap.size = w.heap.size + 1 := by simp
  obtain ⟨v', w', h1, h2, h3⟩ := owned_append (P := Tryz.prog) Tryz.underlying22 hi0 hz0 hz1 hz2 rfl (by decide) (World.ownsRow.alloc h (.cells (elCells q).toArray 59)) (by omega) ⟨w.heap.size, 0, none⟩ 1 1 (BAvps.rowB [q]) (by decide) (rowB_length _) (cells_new w q) (rowB_oneCell _) (by omega) (by decide)
  refine ⟨v', w', h1, ?_, ?_⟩
  · unfold OwnB
    rw [rowB_append, List.length_append]
    exact h2
  · have hk0 := (Kept.refl (fun i => v.ownBlock = some i) w).alloc (.cells (elCells q).toArray 59)
    rcases h3 with ⟨g', cap', rfl, rfl, hk⟩ | ⟨cap', rfl, hk, _⟩
    · exact hk0.andThen hk (fun i _ e => by rw [e]; rfl)
    · exact hk0.andThen hk (fun i _ e => e.elim)
/-- 'append' of a list that is read onto nothing. -/
theorem copyB_run {u : Value} {b : List El} (hu : RdB w u b) (hn : b.length ≤ 100000) :
    ∃ v' w', AppB w (.slice none 0 0) u v' w' ∧ OwnB w' w.heap.size v' b ∧ Kept (fun _ => False) w w' := by
  obtain ⟨base, hu⟩ := hu
  obtain ⟨i0, hi0, hz0, hz1, hz2⟩ := info_parts infoB
  by_cases hb : b = []
  · subst hb
    obtain ⟨p, cap, hp⟩ := slice_of hu
    have e0 : ([] : List El).length = 0 := rfl
    rw [e0] at hp
    subst hp
    have hsrc : Src Tryz.prog i0.size 22 (.slice p 0 cap) 0 [] w := by
      cases p with
      | none => exact Src.ofNil w Tryz.underlying22 cap
      | some a => exact Src.ofSlice w Tryz.underlying22 a 0 cap [] (by simp) (fun j u hj => by simp at hj) (fun u hu => by simp at hu)
    exact ⟨_, w, fun ty => run_append_nothing w _ _ _ _ i0 Tryz.underlying22 hi0 none 0 0 (Nat.le_refl _) _ hsrc, OwnB.nil _ _, Kept.refl _ _⟩
  · obtain ⟨g, o, cap, rfl, hc⟩ := hu.rowB hb
    have hpos : 0 < b.length := List.length_pos_iff.2 hb
    obtain ⟨v', w', h1, h2, h3⟩ := owned_append (P := Tryz.prog) Tryz.underlying22 hi0 hz0 hz1 hz2 rfl (by decide) (World.ownsRow_nil w w.heap.size 59 5) (Nat.le_refl _) ⟨g, o, none⟩ b.length cap (BAvps.rowB b) hpos (rowB_length _) hc (rowB_oneCell _) (by omega) (by decide)
    refine ⟨v', w', h1, ?_, ?_⟩
    · rw [List.nil_append, Nat.zero_add] at h2
      exact h2
    · rcases h3 with ⟨g', cap', e, _, _⟩ | ⟨cap', rfl, hk, _⟩
      · cases e
      · exact hk
end
set_option maxHeartbeats 1000000 in
set_option maxRecDepth 100000 in
theorem copyAvps_any (v : Value) (l : List El) (w : World) (hv : RdB w v l) (hl : l.length ≤ 100000) :
    Calls Tryz.prog 35 #[v] w fun e w' => ∃ u, e = .returned u ∧ OwnB w' w.heap.size u l ∧ Kept (fun _ => False) w w' := by
  obtain ⟨u, w1, hr, ho, hk⟩ := copyB_run hv hl
  have HO := hid ho
  have HK := hid hk
  clear ho hk hv
  go_enter Tryz.func35, Tryz.ntmps35
  go_wp2_with (at_builtin; refine Lib.wpList_append_run _ rfl _ _ _ _ rfl _ _ rfl rfl _ _ (hr _) ?_)
  go_ret
  exact ⟨_, rfl, HO.out, HK.out⟩
end Go.Proofs.YtnghakhgogfemaaGreatDoor.BAvps
