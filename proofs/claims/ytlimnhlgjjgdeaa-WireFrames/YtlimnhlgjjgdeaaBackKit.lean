/- What the walk of the law WireBack leans on: the two boxes of its arguments, whole frames and datagrams stored, loaded and compared; and two datagrams that are the same are the same by Go's comparison. -/
import Derived.Test.YtlimnhlgjjgdeaaAlive
import Derived.Test.YtlimnhlgjjgdeaaBack
import Derived.Test.YtlimnhlgjjgdeaaEthSame
import Derived.Test.YtlimnhlgjjgdeaaRefSum
import Derived.OpenShut
import Derived.Deep.DeepCutAuto
namespace Go.Proofs.Ytlimnhlgjjgdeaa
open Go.RowKit

/-- The two boxes of the law's arguments. -/
def Boxes (w W : World) (xs : Array Value) (f t : Int) (y : ByteArray) : Prop :=
  W.heap[w.heap.size]? = some (.cells xs 25 (0, 0)) ∧ W.heap[w.heap.size + 1]? = some (.cells #[.int .i64 f, .int .i64 t, .string y] 27 (0, 0)) ∧ Below w.heap.size w W ∧ w.heap.size + 1 < W.heap.size
theorem boxes_new (w : World) (xs : Array Value) (f t : Int) (y : ByteArray) : Boxes w ((w.alloc (.cells xs 25)).alloc (.cells #[.int .i64 f, .int .i64 t, .string y] 27)) xs f t y :=
  ⟨(heap_alloc_old (w.alloc (.cells xs 25)) _ (by simp)).trans (heap_alloc_new w _), heap_alloc2_new w _ _, ((Below.refl _ _).alloc (Nat.le_refl _) _).alloc (by simp) _, by simp⟩
theorem Boxes.next {w W W' : World} {xs : Array Value} {f t : Int} {y : ByteArray} (h : Boxes w W xs f t y) (hb : Below W.heap.size W W') : Boxes w W' xs f t y :=
  ⟨(hb.block _ (by have := h.2.2.2; omega)).trans h.1, (hb.block _ h.2.2.2).trans h.2.1, h.2.2.1.trans (hb.mono (by have := h.2.2.2; omega)), Nat.lt_of_lt_of_le h.2.2.2 hb.size⟩
theorem Boxes.more {w W : World} {xs : Array Value} {f t : Int} {y : ByteArray} (h : Boxes w W xs f t y) (o : Obj) : Boxes w (W.alloc o) xs f t y := h.next ((Below.refl _ _).alloc (Nat.le_refl _) _)
theorem Boxes.cells {w W : World} {xs : Array Value} {f t : Int} {y : ByteArray} (h : Boxes w W xs f t y) :
    W.cell? ⟨w.heap.size + 1, 0, none⟩ = some (.int .i64 f) ∧ W.cell? ⟨w.heap.size + 1, 1, none⟩ = some (.int .i64 t) ∧ W.cell? ⟨w.heap.size + 1, 2, none⟩ = some (.string y) :=
  ⟨cell_of_row W _ 0 _ _ _ h.2.1, cell_of_row W _ 1 _ _ _ h.2.1, cell_of_row W _ 2 _ _ _ h.2.1⟩
theorem Boxes.data {w W : World} {xs : Array Value} {f t : Int} {y x : ByteArray} (h : Boxes w W xs f t y) (hx : xs[13]? = some (.string x)) : W.cell? ⟨w.heap.size, 13, none⟩ = some (.string x) :=
  (cell_of_row W _ 13 _ _ _ h.1).trans hx


theorem wpList_load_wanted {ops : Array Oper} {rest : List Oper} {o : Oper} {a : Act} {w : World} {Q : Exit → Act → World → Prop} (hw : Region.wanted o (yielded ops a.tmps) = true) (x : Operand) (ho : o.op = .load 25 x)
    (g : Nat) (hx : a.eval x = .pointer (some ⟨g, 0, none⟩)) (cs : Array Value) (hg : w.heap[g]? = some (.cells cs 25 (0, 0))) (hs : cs.size = 14)
    (h : wpList Try.prog ops Q rest (a.put o.dst (.agg cs)) w) : wpList Try.prog ops Q (o :: rest) a w := by
  unfold wpList
  rw [if_pos hw]
  exact .inl (wp_load_row 25 x ho g hx 25 cs (0, 0) _ hg Try.underlying25 rfl (by rw [hs]; kernel_rfl) h)
theorem guard_eth (x y : Operand) (cs : Array Value) (W : World) : (eqGuard .neq 25 x y (.agg cs) (.agg cs)).run Try.prog W = .ok () W := by kernel_rfl
theorem wpList_same_wanted {ops : Array Oper} {rest : List Oper} {o : Oper} {a : Act} {w : World} {Q : Exit → Act → World → Prop} (hw : Region.wanted o (yielded ops a.tmps) = true) (x y : Operand) (ho : o.op = .binOp .neq 25 x y 25)
    (cs : Array Value) (hx : a.eval x = .agg cs) (hy : a.eval y = .agg cs) (hs : ∀ W, (binOp .neq 25 (.agg cs) (.agg cs)).run Try.prog W = .ok (.bool false) W)
    (h : wpList Try.prog ops Q rest (a.put o.dst (.bool false)) w) : wpList Try.prog ops Q (o :: rest) a w := by
  unfold wpList
  rw [if_pos hw]
  refine .inl ?_
  unfold Oper.wp execOp
  simp only [ho, hx, hy, Sem.run_bind, Sem.run_pure, guard_eth, Result.andThen_ok, hs]
  exact h
theorem wpList_store_new {ops : Array Oper} {rest : List Oper} {op : Oper} {a : Act} {Q : Exit → Act → World → Prop} (hgd : op.guard = none) (p q : Operand) (ho : op.op = .store 25 p q)
    {w W : World} {xs : Array Value} {f t : Int} {y : ByteArray} (hp : a.eval p = .pointer (some ⟨W.heap.size, 0, none⟩)) (hq : a.eval q = .agg xs) (hs : xs.size = 14) (h1 : xs.all (·.oneCell') = true) (hB : Boxes w W xs f t y)
    (h : ∀ w', w'.heap[W.heap.size]? = some (.cells xs 25 (0, 0)) → Boxes w w' xs f t y → wpList Try.prog ops Q rest (a.put op.dst undef) w') : wpList Try.prog ops Q (op :: rest) a (W.alloc (.cells Z 25)) := by
  have hg : IsEth (W.alloc (.cells Z 25)) W.heap.size Z := heap_alloc_new W _
  refine wpList_store_mid hgd 25 p q ho W.heap.size 0 xs hp hq (fun j hj => ?_) (by rw [hs]; kernel_rfl) h1 ?_
  · have hz : Z.size = 14 := rfl
    rw [Nat.zero_add]
    refine ⟨?_, frozen_of_row _ _ j Z _ hg⟩
    rw [cell_of_row _ _ j Z _ _ hg, Array.getElem?_eq_getElem (by omega)]
    rfl
  · rw [setCells_row _ W.heap.size Z xs.toList hg (by rw [Array.length_toList, hs]; rfl) (fun v hv => (Array.all_eq_true_iff_forall_mem.1 h1) v (Array.mem_toList_iff.1 hv)), Array.toArray_toList]
    have h4 := hB.2.2.2
    have hb : Below W.heap.size W ((W.alloc (.cells Z 25)).setRow W.heap.size xs) :=
      ((Below.refl _ _).alloc (Nat.le_refl _) _).trans ⟨rfl, rfl, rfl, by simp, fun k hk => setRow_other _ _ _ _ (by omega)⟩
    exact h _ (setRow_heap _ _ Z xs _ _ hg) (hB.next hb)


theorem setCells_rowT (t : TypeId) (W : World) (g : Nat) (cur : Array Value) (cs : List Value) (hg : W.heap[g]? = some (.cells cur t (0, 0))) (hs : cur.size = cs.length) (h1 : ∀ v ∈ cs, v.oneCell' = true) : W.setCells g 0 cs = W.setRow g cs.toArray := by
  have r1 := run_storeCells_at Try.prog g 0 t cs 0 cur W hg (by omega) h1
  have r2 := run_storeCells_cells (P := Try.prog) g 0 cs 0 W (fun j hj => by
    rw [Nat.add_zero, Nat.zero_add, cell_of_row W g j cur _ _ hg, Array.getElem?_eq_getElem (by omega)]
    rfl) (fun j _ => by rw [Nat.add_zero, Nat.zero_add]; exact frozen_of_row W g j cur _ hg) h1
  rw [r1] at r2
  simp only [Result.ok.injEq, true_and, Nat.add_zero, Nat.zero_add, List.take_zero, List.nil_append] at r2
  rw [← r2, List.drop_of_length_le (by rw [Array.length_toList]; omega), List.append_nil]
abbrev Zg : Array Value := #[.int .i64 0, .int .i64 0, .string ⟨#[]⟩]
theorem wpList_load_gram {ops : Array Oper} {rest : List Oper} {o : Oper} {a : Act} {w : World} {Q : Exit → Act → World → Prop} (hw : Region.wanted o (yielded ops a.tmps) = true) (x : Operand) (ho : o.op = .load 27 x)
    (g : Nat) (hx : a.eval x = .pointer (some ⟨g, 0, none⟩)) (cs : Array Value) (hg : w.heap[g]? = some (.cells cs 27 (0, 0))) (hs : cs.size = 3)
    (h : wpList Try.prog ops Q rest (a.put o.dst (.agg cs)) w) : wpList Try.prog ops Q (o :: rest) a w := by
  unfold wpList
  rw [if_pos hw]
  exact .inl (wp_load_row 27 x ho g hx 27 cs (0, 0) _ hg Try.underlying27 rfl (by rw [hs]; kernel_rfl) h)
theorem guard_gram (x y : Operand) (cs : Array Value) (W : World) : (eqGuard .neq 27 x y (.agg cs) (.agg cs)).run Try.prog W = .ok () W := by kernel_rfl
theorem wpList_same_gram {ops : Array Oper} {rest : List Oper} {o : Oper} {a : Act} {w : World} {Q : Exit → Act → World → Prop} (hw : Region.wanted o (yielded ops a.tmps) = true) (x y : Operand) (ho : o.op = .binOp .neq 27 x y 27)
    (cs : Array Value) (hx : a.eval x = .agg cs) (hy : a.eval y = .agg cs) (hs : ∀ W, (binOp .neq 27 (.agg cs) (.agg cs)).run Try.prog W = .ok (.bool false) W)
    (h : wpList Try.prog ops Q rest (a.put o.dst (.bool false)) w) : wpList Try.prog ops Q (o :: rest) a w := by
  unfold wpList
  rw [if_pos hw]
  refine .inl ?_
  unfold Oper.wp execOp
  simp only [ho, hx, hy, Sem.run_bind, Sem.run_pure, guard_gram, Result.andThen_ok, hs]
  exact h
theorem wpList_store_gram {ops : Array Oper} {rest : List Oper} {op : Oper} {a : Act} {Q : Exit → Act → World → Prop} (hgd : op.guard = none) (p q : Operand) (ho : op.op = .store 27 p q)
    {w W : World} {xs : Array Value} {f t : Int} {y : ByteArray} (hp : a.eval p = .pointer (some ⟨W.heap.size, 0, none⟩)) (hq : a.eval q = .agg #[.int .i64 f, .int .i64 t, .string y]) (hB : Boxes w W xs f t y)
    (h : ∀ w', w'.heap[W.heap.size]? = some (.cells #[.int .i64 f, .int .i64 t, .string y] 27 (0, 0)) → Boxes w w' xs f t y → wpList Try.prog ops Q rest (a.put op.dst undef) w') : wpList Try.prog ops Q (op :: rest) a (W.alloc (.cells Zg 27)) := by
  have hg : (W.alloc (.cells Zg 27)).heap[W.heap.size]? = some (.cells Zg 27 (0, 0)) := heap_alloc_new W _
  refine wpList_store_mid hgd 27 p q ho W.heap.size 0 _ hp hq (fun j hj => ?_) (by kernel_rfl) (by kernel_rfl) ?_
  · have hz : Zg.size = 3 := rfl
    have hj3 : j < 3 := hj
    rw [Nat.zero_add]
    refine ⟨?_, frozen_of_row _ _ j Zg _ hg⟩
    rw [cell_of_row _ _ j Zg _ _ hg, Array.getElem?_eq_getElem (by omega)]
    rfl
  · rw [setCells_rowT 27 _ W.heap.size Zg (#[.int .i64 f, .int .i64 t, .string y] : Array Value).toList hg rfl (fun v hv => by simp at hv; rcases hv with rfl | rfl | rfl <;> rfl), Array.toArray_toList]
    have h4 := hB.2.2.2
    have hb : Below W.heap.size W ((W.alloc (.cells Zg 27)).setRow W.heap.size #[.int .i64 f, .int .i64 t, .string y]) :=
      ((Below.refl _ _).alloc (Nat.le_refl _) _).trans ⟨rfl, rfl, rfl, by simp, fun k hk => setRow_other _ _ _ _ (by omega)⟩
    exact h _ (setRow_heap _ _ Zg _ _ _ hg) (hB.next hb)
theorem int_lits (d : Nat) (v : Int) (h : (Lit.int .i64 v).wf = true) : Try.prog.keyLits (d + 1) 3 [.int .i64 v] = some [.int .i64 v] := by
  unfold Program.keyLits
  rw [Try.underlying3]
  simp [h]
theorem string_lits (d : Nat) (x : ByteArray) (h : x.size ≤ maxLen) : Try.prog.keyLits (d + 1) 9 [.string x] = some [.string x.data.toList] := by
  unfold Program.keyLits
  rw [Try.underlying9]
  simp [h]
theorem gram_lits (f t : Int) (hf : (Lit.int .i64 f).wf = true) (ht : (Lit.int .i64 t).wf = true) (x : ByteArray) (hx : x.size ≤ maxLen) : ∃ L, Try.prog.keyLits 3 27 [.int .i64 f, .int .i64 t, .string x] = some L := by
  have h1 := int_lits 1 f hf
  have h2 := int_lits 1 t ht
  have h3 := string_lits 1 x hx
  refine ⟨[.int .i64 f] ++ ([.int .i64 t] ++ [.string x.data.toList]), ?_⟩
  unfold Program.keyLits
  rw [Try.underlying27]
  simp [cellsGram, cells3, cells9, h1, h2, h3]
theorem gram_same (f t : Int) (hf : (Lit.int .i64 f).wf = true) (ht : (Lit.int .i64 t).wf = true) (x : ByteArray) (hx : x.size ≤ maxLen) (W : World) :
    (binOp .neq 27 (.agg #[.int .i64 f, .int .i64 t, .string x]) (.agg #[.int .i64 f, .int .i64 t, .string x])).run Try.prog W = .ok (.bool false) W := by
  obtain ⟨L, h⟩ := gram_lits f t hf ht x hx
  have hk : Try.prog.keyTypeAt 3 27 = true := by kernel_rfl
  have hfm : (Value.agg #[.int .i64 f, .int .i64 t, .string x]).formed Try.prog 27 = true := by simp [Value.formed, Try.underlying27, cellsGram]
  obtain ⟨r, hr, hiff⟩ := run_equalIn_deep (P := Try.prog) 9997 3 27 hk W 3 3 (.agg #[.int .i64 f, .int .i64 t, .string x]) (.agg #[.int .i64 f, .int .i64 t, .string x]) L L hfm hfm h h
  rw [run_neq_struct]
  have hr' : (Op.equalIn 10000 27 (.agg #[.int .i64 f, .int .i64 t, .string x]) (.agg #[.int .i64 f, .int .i64 t, .string x])).run Try.prog W = .ok r W := hr
  rw [hr', hiff.2 rfl]
  rfl
end Go.Proofs.Ytlimnhlgjjgdeaa
