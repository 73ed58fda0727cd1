/- Rows of values of a call's own: one; 'append' of a list that is read; how they are read. -/
import Derived.Test.YtkneogfeokckjaaDoorAvArgs
namespace Go.Proofs.YtkneogfeokckjaaDoor
open Go.RowKit

theorem tyAv : TyG Tryd.prog 22 43 5 (.agg #[.bool false, .bool false, .int .i64 0, .int .i64 0, .string ⟨#[]⟩]) 40 := ⟨Tryd.underlying22, infoAv, rfl, by decide⟩
theorem own_one_av (w : World) (x : Av) (base : Nat) (hb : base ≤ w.heap.size) : OwnAv (w.alloc (.cells #[.bool x.must, .bool x.hidden, .int .i64 x.vendor, .int .i64 x.type, .string x.value] 43)) base (.slice (some ⟨w.heap.size, 0, none⟩) 1 1) [x] :=
  ⟨rfl, Or.inr ⟨w.heap.size, 1, _, rfl, hb, heap_alloc_new w _, Nat.le_refl _, by unfold maxLen; omega, rfl, rfl⟩⟩
theorem own_two_av (w : World) (x y : Av) (base : Nat) (hb : base ≤ w.heap.size) : OwnAv (w.alloc (.cells #[.bool x.must, .bool x.hidden, .int .i64 x.vendor, .int .i64 x.type, .string x.value, .bool y.must, .bool y.hidden, .int .i64 y.vendor, .int .i64 y.type, .string y.value] 43)) base (.slice (some ⟨w.heap.size, 0, none⟩) 2 2) [x, y] :=
  ⟨rfl, Or.inr ⟨w.heap.size, 2, _, rfl, hb, heap_alloc_new w _, Nat.le_refl _, by unfold maxLen; omega, rfl, rfl⟩⟩
theorem OwnAv.at {w : World} {base : Nat} {v : Value} {l : List Av} (h : OwnAv w base v l) : AvsAt w v l := by
  by_cases hl : l = []
  · subst hl
    obtain ⟨p, cap, rfl⟩ := slice_of h
    exact Or.inl ⟨rfl, p, cap, rfl⟩
  · obtain ⟨g, cap, rfl, hb, h1, h2, hc, _⟩ := OwnG.lies h hl
    refine Or.inr ⟨g, 0, cap, rfl, h1, h2, fun j x hj i u hu => ?_⟩
    have hlt := (List.getElem?_eq_some_iff.1 hj).1
    have hi : i < 5 := (List.getElem?_eq_some_iff.1 hu).1
    rw [Nat.zero_add, hc _ (by omega), encAv.get hj i hi]
    exact hu
theorem AvsAt.src {w : World} {p : Option Addr} {n cap : Nat} {l : List Av} (h : AvsAt w (.slice p n cap) l) (hne : l ≠ []) : ∃ ad, p = some ad ∧ ∀ (j : Nat) (u : Value), (rowG avCells l)[j]? = some u → w.cell? (ad.add j) = some u := by
  rcases h with ⟨rfl, _⟩ | ⟨g, o, cap', e, h1, h2, hc⟩
  · exact absurd rfl hne
  · simp only [Value.slice.injEq] at e
    obtain ⟨rfl, rfl, rfl⟩ := e
    refine ⟨_, rfl, fun j u hu => ?_⟩
    have hj := (List.getElem?_eq_some_iff.1 hu).1
    rw [encAv.length] at hj
    obtain ⟨x, hx⟩ : ∃ x, l[j / 5]? = some x := ⟨l[j / 5]'(by omega), by simp⟩
    have e1 : (rowG avCells l)[j / 5 * 5 + j % 5]? = (avCells x)[j % 5]? := encAv.get hx (j % 5) (by omega)
    rw [show j / 5 * 5 + j % 5 = j by omega, hu] at e1
    have := hc (j / 5) x hx (j % 5) u e1.symm
    rw [add_none]
    rw [show o + j / 5 * 5 + j % 5 = o + j by omega] at this
    exact this
/-- The first k of a list that is read. -/
theorem AvsAt.take {w : World} {p : Option Addr} {n cap : Nat} {l : List Av} (h : AvsAt w (.slice p n cap) l) {k : Nat} (hk : k ≤ l.length) : AvsAt w (.slice p k cap) (l.take k) := by
  rcases h with ⟨rfl, _⟩ | ⟨g, o, cap', e, h1, h2, hc⟩
  · simp at hk
    subst hk
    exact Or.inl ⟨rfl, p, cap, rfl⟩
  · simp only [Value.slice.injEq] at e
    obtain ⟨rfl, rfl, rfl⟩ := e
    refine Or.inr ⟨g, o, cap, by rw [List.length_take, Nat.min_eq_left hk], by rw [List.length_take]; omega, h2, fun j x hj => ?_⟩
    have hlt := (List.getElem?_eq_some_iff.1 hj).1
    rw [List.length_take] at hlt
    rw [List.getElem?_take_of_lt (by omega)] at hj
    exact hc j x hj
theorem avs_one (W : World) (x : Av) : AvsAt (W.alloc (.cells #[.bool x.must, .bool x.hidden, .int .i64 x.vendor, .int .i64 x.type, .string x.value] 43)) (.slice (some ⟨W.heap.size, 0, none⟩) 1 1) [x] := by
  refine Or.inr ⟨W.heap.size, 0, 1, rfl, Nat.le_refl _, by unfold maxLen; omega, fun j y hj i u hu => ?_⟩
  obtain rfl : j = 0 := by have := (List.getElem?_eq_some_iff.1 hj).1; simp at this; omega
  simp at hj
  subst hj
  rw [Nat.zero_mul, Nat.add_zero, Nat.zero_add, cell_of_row _ _ _ _ _ _ (heap_alloc_new W _)]
  show (avCells x).toArray[i]? = some u
  rw [List.getElem?_toArray]
  exact hu
end Go.Proofs.YtkneogfeokckjaaDoor
