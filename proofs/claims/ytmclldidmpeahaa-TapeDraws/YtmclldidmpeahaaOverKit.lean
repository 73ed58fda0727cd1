/- A range over a clock's timers, at the operations; the keys as a row of the call's own. -/
import Derived.Test.YtmclldidmpeahaaSort2
namespace Go.Proofs.Ytmclldidmpeahaa
open Go.RowKit

section
variable {P : Program} (w : World) {ops : Array Oper} {rest : List Oper} {o : Oper} {a : Act} {Q : Exit → Act → World → Prop}

theorem wpList_range_assoc (hg : o.guard = none) (m : Operand) (t : TypeId) (hop : o.op = Op.range t m) (k e : TypeId) (ht : P.underlying t = some (.map k e)) (b : Nat) (L : List (Value × Value)) (hm : a.eval m = .map (some b)) (h : Assoc w P k b L)
    (hK : ∀ w', Ranging w' P k b w.heap.size L L → w.grownBy w' none → w'.heap.size = w.heap.size + 1 → wpList P ops Q rest (a.put o.dst (.pointer (some ⟨w.heap.size, 0, none⟩))) w') : wpList P ops Q (o :: rest) a w := by
  refine wpList_plain hg fun K' hK' => ?_
  obtain ⟨w', hrun, r1, r2, r3⟩ := h.range ht
  unfold Oper.wp
  simp [execOp, hop, hm, hrun, Result.andThen]
  exact hK' _ _ (hK w' r1 r2 r3)

theorem wpList_next_ranging (hg : o.guard = none) (it : Operand) (hop : o.op = Op.next it false) (k : TypeId) (b r : Nat) (ts Ns : List Tm) (hit : a.eval it = .pointer (some ⟨r, 0, none⟩)) (h : Ranging w P k b r (ts.map tmV) (Ns.map tmV))
    (hDone : Ns = [] → wpList P ops Q rest (a.put o.dst (.tuple #[.bool false])) w)
    (hMore : ∀ (t : Tm) (Ms : List Tm) (w' : World), Ns.Perm (t :: Ms) → Ranging w' P k b r (ts.map tmV) (Ms.map tmV) → w.grownBy w' (some r) → w'.heap.size = w.heap.size →
      (Instr.entry (.pointer (some ⟨r, 0, none⟩))).run P w' = .ok (.tuple #[.agg #[.int .i64 t.kind, .int .i64 t.id], .agg #[.int .i64 t.time, .int .i64 t.turn]]) w' →
      wpList P ops Q rest (a.put o.dst (.tuple #[.bool true, .agg #[.int .i64 t.kind, .int .i64 t.id], .agg #[.int .i64 t.time, .int .i64 t.turn]])) w') : wpList P ops Q (o :: rest) a w := by
  refine wpList_plain hg fun K' hK' => ?_
  unfold Oper.wp
  rcases h.next o.type with ⟨h0, hrun⟩ | ⟨key, v, M, w', hp, hrun, hrg, hgr, hsz, hen⟩
  · simp [execOp, hop, hit, hrun, Result.andThen]
    exact hK' _ _ (hDone (by simpa using h0))
  · have hmem : (key, v) ∈ Ns.map tmV := hp.mem_iff.2 (List.mem_cons_self ..)
    obtain ⟨t, ht, et⟩ := List.mem_map.1 hmem
    obtain ⟨rfl, rfl⟩ := Prod.mk.inj et
    obtain ⟨s1, s2, rfl⟩ := List.append_of_mem ht
    have hq : (s1 ++ t :: s2).Perm (t :: (s1 ++ s2)) := List.perm_middle
    have hM : M.Perm ((s1 ++ s2).map tmV) := by
      have h5 := hp.symm.trans (hq.map tmV)
      rw [List.map_cons] at h5
      exact h5.cons_inv
    have hrg' : Ranging w' P k b r (ts.map tmV) ((s1 ++ s2).map tmV) := by
      obtain ⟨es, clock, since, seen, c0, q1, q2, q3, q4, q5, q6, q7, q8, q9⟩ := hrg
      exact ⟨es, clock, since, seen, c0, q1, q2, q3, q4, q5, q6, q7, q8.trans hM, q9⟩
    unfold keyV at hrun hen
    simp [execOp, hop, hit, hrun, Result.andThen]
    exact hK' _ _ (hMore t (s1 ++ s2) w' hq hrg' hgr hsz hen)

theorem Ranging.left_eq {w : World} {k : TypeId} {b r : Nat} {L N : List (Value × Value)} (h : Ranging w P k b r L N) : w.rangeLeft b r = N.length := by
  obtain ⟨es, clock, since, seen, c0, hb, _, _, _, _, hr, _, hN, _⟩ := h
  simp only [World.rangeLeft, hb, hr]
  rw [← hN.length_eq]
  simp

end

/-- The cells of keys. -/
def keyCells (C : List Tm) : List Value := C.flatMap (fun t => [.int .i64 t.kind, .int .i64 t.id])

theorem keyCells_snoc (C : List Tm) (t : Tm) : keyCells (C ++ [t]) = keyCells C ++ [.int .i64 t.kind, .int .i64 t.id] := by simp [keyCells]

theorem infoKey : (Try.prog.info? 38).map (fun i => (i.zero, i.size, i.bytes)) = some (some (.agg #[.int .i64 0, .int .i64 0]), 2, 16) := by kernel_rfl

/-- Are they over? -/
def overT (now : Int) (t : Tm) : Bool := decide (t.time ≤ now)

end Go.Proofs.Ytmclldidmpeahaa
