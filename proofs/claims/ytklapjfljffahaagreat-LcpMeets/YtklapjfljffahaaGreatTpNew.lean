/- The contracts of slices.Clone of ints and of tape.New: a tape of the list's numbers, in blocks of its own. -/
import Derived.Test.YtklapjfljffahaaGreatTpTape
import Derived.OwnWalk
namespace Go.Proofs.YtklapjfljffahaaGreat.Tp
open Go.RowKit

theorem info3 : (Tryz.prog.info? 3).map (fun i => (i.zero, i.size, i.bytes)) = some (some (.int .i64 0), 1, 8) := by kernel_rfl

def intCells (l : List Int) : List Value := l.map (Value.int .i64)

theorem intCells_one (l : List Int) : ∀ u ∈ intCells l, u.oneCell' = true := by
  intro u hu
  obtain ⟨x, _, rfl⟩ := List.mem_map.1 hu
  rfl

theorem eqSliceNil (w : World) : (binOp .eql 44 (.slice none 0 0) (.slice none 0 0)).run Tryz.prog w = .ok (.bool true) w := by kernel_rfl
theorem eqSliceSome (ad : Addr) (n c : Nat) (w : World) : (binOp .eql 44 (.slice (some ad) n c) (.slice none 0 0)).run Tryz.prog w = .ok (.bool false) w := by kernel_rfl

theorem cloneInts_nil (w : World) : Calls Tryz.prog 47 #[.slice none 0 0] w fun e w' => e = .returned (.slice none 0 0) ∧ w' = w := by
  have hE := eqSliceNil
  go_enter Tryz.func47, Tryz.ntmps47
  go_wp2
  go_ret
  exact ⟨rfl, rfl⟩

set_option maxHeartbeats 1000000 in
theorem cloneInts_some (ad : Addr) (c : Nat) (l : List Int) (hl : l.length ≤ 1000000) (w : World) (hc : ∀ j u, (intCells l)[j]? = some u → w.cell? (ad.add j) = some u) :
    Calls Tryz.prog 47 #[.slice (some ad) l.length c] w fun e w' => ∃ v, e = .returned v ∧ w'.ownsRow w.heap.size 3 1 v l.length (intCells l) ∧ Kept (fun _ => False) w w' := by
  obtain ⟨i0, hi, hz0, hz1, hz2⟩ := info_parts info3
  have hown0 : (w.alloc (.cells #[] 3)).ownsRow w.heap.size 3 1 (.slice (some ⟨w.heap.size, 0, none⟩) 0 0) 0 [] :=
    ⟨rfl, Or.inr ⟨w.heap.size, 0, #[], rfl, Nat.le_refl _, (MapKept.heap_alloc w _).1, Nat.le_refl _, Nat.zero_le _, rfl, rfl⟩⟩
  have hcell : ∀ j u, (intCells l)[j]? = some u → (w.alloc (.cells #[] 3)).cell? (ad.add j) = some u := fun j u hj => by
    rw [World.cell?_alloc_lt _ _ _ (lt_of_cell (hc j u hj))]
    exact hc j u hj
  clear hc
  have hE := eqSliceSome ad l.length c
  go_enter Tryz.func47, Tryz.ntmps47
  go_wp2_with (at_builtin; refine wpList_append_own _ rfl _ _ 44 rfl w.heap.size 3 i0 (.int .i64 0) 1 8 Tryz.underlying44 hi hz0 hz1 hz2 rfl (by decide) _ _ _ rfl hown0 ad l.length c (intCells l) rfl ?c0 hcell (intCells_one l) ?c3 ?c4 ?c5 ?_)
  case c0 => simp [intCells]
  case c3 => unfold maxLen; omega
  case c4 => omega
  case c5 => simp
  intro v' w1 hown' hgrow _
  have hk : Kept (fun _ => False) w w1 := ((Kept.refl _ w).alloc _).grown hgrow (fun j hj => by cases hj; exact Or.inl (Nat.le_refl _))
  have hown : w1.ownsRow w.heap.size 3 1 v' l.length (intCells l) := by simpa using hown'
  clear hown' hgrow
  go_wp2
  go_ret
  exact ⟨_, rfl, hown, hk⟩
/-- A new tape of l: where it lies. -/
def NewTape (w w' : World) (e : Ending) (l : List Int) : Prop :=
  ∃ tb p cap, e = .returned (.pointer (some ⟨tb, 0, none⟩)) ∧ w.heap.size ≤ tb ∧ (∀ i, onTape p l i → w.heap.size ≤ i) ∧ IsTape w' tb p cap l 0 ∧ Kept (fun _ => False) w w'

theorem new_nil (w : World) : Calls Tryz.prog 20 #[.slice none 0 0] w fun e w' => NewTape w w' e [] := by
  go_enter Tryz.func20, Tryz.ntmps20
  go_wp2_with (go_at_call 47; refine (cloneInts_nil _).mono ?_; rintro e w' ⟨rfl, rfl⟩)
  go_ret
  exact ⟨_, none, 0, rfl, Nat.le_refl _, fun i hi => absurd rfl hi.1, ⟨by simp, by simp, fun i => by simp, Nat.le_refl _, fun h => absurd rfl h, ⟨_, (MapKept.heap_alloc _ _).1⟩⟩, (Kept.refl _ _).alloc _⟩

theorem row_ints {w : World} {base g cap : Nat} {l : List Int} (h : w.ownsRow base 3 1 (.slice (some ⟨g, 0, none⟩) l.length cap) l.length (intCells l)) (j : Nat) (v : Int) (hj : l[j]? = some v) : w.cell? ⟨g, j, none⟩ = some (.int .i64 v) := by
  rcases h.2 with ⟨h0, _⟩ | ⟨g', cap', cur, he, hb, hh, hn, hm, hs, ht⟩
  · cases h0
  · cases he
    have hjl := (List.getElem?_eq_some_iff.1 hj).1
    have h1 : (intCells l)[j]? = some (.int .i64 v) := by simp [intCells, hj]
    rw [← ht, List.getElem?_take_of_lt (by omega)] at h1
    simp [World.cell?, hh]
    simpa using h1

theorem new_some (ad : Addr) (c : Nat) (l : List Int) (hl : l.length ≤ 1000000) (w : World) (hc : ∀ j u, (intCells l)[j]? = some u → w.cell? (ad.add j) = some u) :
    Calls Tryz.prog 20 #[.slice (some ad) l.length c] w fun e w' => NewTape w w' e l := by
  have Hcl := hid (cloneInts_some ad c l hl w hc)
  clear hc
  go_enter Tryz.func20, Tryz.ntmps20
  go_wp2_with fail
  refine Hcl.out.mono ?_
  rintro e w1 ⟨v, rfl, hown, hk⟩
  rcases hown.2 with ⟨rfl, h0⟩ | ⟨g, cap, cur, rfl, hg, hh, hn, _⟩
  · have hl0 : l = [] := List.eq_nil_of_length_eq_zero h0
    subst hl0
    clear hown
    go_wp2
    go_ret
    exact ⟨_, none, 0, rfl, hk.size, fun i hi => absurd rfl hi.1, ⟨by simp, by simp, fun i => by simp, Nat.le_refl _, fun h => absurd rfl h, ⟨_, (MapKept.heap_alloc _ _).1⟩⟩, hk.alloc _⟩
  · have hgl : g < w1.heap.size := (Array.getElem?_eq_some_iff.1 hh).1
    have hr := row_ints hown
    have Hr := hid hr
    clear hown hh hr
    go_wp2
    go_ret
    refine ⟨_, some ⟨g, 0, none⟩, cap, rfl, hk.size, fun i hi => (by obtain ⟨_, a, e, rfl⟩ := hi; cases e; exact hg), ⟨by simp, by simp, fun i => by simp, hn, fun _ => ⟨g, 0, rfl, by omega, fun j v hj => ?_⟩, ⟨_, (MapKept.heap_alloc _ _).1⟩⟩, hk.alloc _⟩
    rw [World.cell?_alloc_lt _ _ _ hgl, Nat.zero_add]
    exact Hr.out j v hj
end Go.Proofs.YtklapjfljffahaaGreat.Tp
