/- What the walk of the law WireFrames leans on: whole frames and datagrams stored into a block of their own, and two datagrams that are the same, by '=='. -/
import Derived.Test.YtlimnhlgjjgdeaaBackKit
namespace Go.Proofs.Ytlimnhlgjjgdeaa
open Go.RowKit

theorem wpList_store_eth {ops : Array Oper} {rest : List Oper} {op : Oper} {a : Act} {Q : Exit → Act → World → Prop} (hgd : op.guard = none) (p q : Operand) (ho : op.op = .store 25 p q)
    {W : World} {xs : Array Value} (hp : a.eval p = .pointer (some ⟨W.heap.size, 0, none⟩)) (hq : a.eval q = .agg xs) (hs : xs.size = 14) (h1 : xs.all (·.oneCell') = true)
    (h : ∀ w', w'.heap[W.heap.size]? = some (.cells xs 25 (0, 0)) → Below W.heap.size W w' → W.heap.size < w'.heap.size → wpList Try.prog ops Q rest (a.put op.dst undef) w') : wpList Try.prog ops Q (op :: rest) a (W.alloc (.cells Z 25)) := by
  have hg : IsEth (W.alloc (.cells Z 25)) W.heap.size Z := heap_alloc_new W _
  refine wpList_store_mid hgd 25 p q ho W.heap.size 0 xs hp hq (fun j hj => ?_) (by rw [hs]; kernel_rfl) h1 ?_
  · have hz : Z.size = 14 := rfl
    rw [Nat.zero_add]
    refine ⟨?_, frozen_of_row _ _ j Z _ hg⟩
    rw [cell_of_row _ _ j Z _ _ hg, Array.getElem?_eq_getElem (by omega)]
    rfl
  · rw [setCells_row _ W.heap.size Z xs.toList hg (by rw [Array.length_toList, hs]; rfl) (fun v hv => (Array.all_eq_true_iff_forall_mem.1 h1) v (Array.mem_toList_iff.1 hv)), Array.toArray_toList]
    have hb : Below W.heap.size W ((W.alloc (.cells Z 25)).setRow W.heap.size xs) :=
      ((Below.refl _ _).alloc (Nat.le_refl _) _).trans ⟨rfl, rfl, rfl, by simp, fun k hk => setRow_other _ _ _ _ (by omega)⟩
    have hr := setRow_heap _ _ Z xs _ _ hg
    exact h _ hr hb (Array.getElem?_eq_some_iff.1 hr).1
theorem wpList_store_dat {ops : Array Oper} {rest : List Oper} {op : Oper} {a : Act} {Q : Exit → Act → World → Prop} (hgd : op.guard = none) (p q : Operand) (ho : op.op = .store 27 p q)
    {W : World} {f t : Int} {y : ByteArray} (hp : a.eval p = .pointer (some ⟨W.heap.size, 0, none⟩)) (hq : a.eval q = .agg #[.int .i64 f, .int .i64 t, .string y])
    (h : ∀ w', w'.heap[W.heap.size]? = some (.cells #[.int .i64 f, .int .i64 t, .string y] 27 (0, 0)) → Below W.heap.size W w' → W.heap.size < w'.heap.size → wpList Try.prog ops Q rest (a.put op.dst undef) w') : wpList Try.prog ops Q (op :: rest) a (W.alloc (.cells Zg 27)) := by
  have hg : (W.alloc (.cells Zg 27)).heap[W.heap.size]? = some (.cells Zg 27 (0, 0)) := heap_alloc_new W _
  refine wpList_store_mid hgd 27 p q ho W.heap.size 0 _ hp hq (fun j hj => ?_) (by kernel_rfl) (by kernel_rfl) ?_
  · have hz : Zg.size = 3 := rfl
    have hj3 : j < 3 := hj
    rw [Nat.zero_add]
    refine ⟨?_, frozen_of_row _ _ j Zg _ hg⟩
    rw [cell_of_row _ _ j Zg _ _ hg, Array.getElem?_eq_getElem (by omega)]
    rfl
  · rw [setCells_rowT 27 _ W.heap.size Zg (#[.int .i64 f, .int .i64 t, .string y] : Array Value).toList hg rfl (fun v hv => by simp at hv; rcases hv with rfl | rfl | rfl <;> rfl), Array.toArray_toList]
    have hb : Below W.heap.size W ((W.alloc (.cells Zg 27)).setRow W.heap.size #[.int .i64 f, .int .i64 t, .string y]) :=
      ((Below.refl _ _).alloc (Nat.le_refl _) _).trans ⟨rfl, rfl, rfl, by simp, fun k hk => setRow_other _ _ _ _ (by omega)⟩
    have hr := setRow_heap _ _ Zg #[.int .i64 f, .int .i64 t, .string y] _ _ hg
    exact h _ hr hb (Array.getElem?_eq_some_iff.1 hr).1
theorem guard_dat (x y : Operand) (cs : Array Value) (W : World) : (eqGuard .eql 27 x y (.agg cs) (.agg cs)).run Try.prog W = .ok () W := by kernel_rfl
theorem wpList_same_dat {ops : Array Oper} {rest : List Oper} {o : Oper} {a : Act} {w : World} {Q : Exit → Act → World → Prop} (hw : Region.wanted o (yielded ops a.tmps) = true) (x y : Operand) (ho : o.op = .binOp .eql 27 x y 27)
    (cs : Array Value) (hx : a.eval x = .agg cs) (hy : a.eval y = .agg cs) (hs : ∀ W, (binOp .eql 27 (.agg cs) (.agg cs)).run Try.prog W = .ok (.bool true) W)
    (h : wpList Try.prog ops Q rest (a.put o.dst (.bool true)) w) : wpList Try.prog ops Q (o :: rest) a w := by
  unfold wpList
  rw [if_pos hw]
  refine .inl ?_
  unfold Oper.wp execOp
  simp only [ho, hx, hy, Sem.run_bind, Sem.run_pure, guard_dat, Result.andThen_ok, hs]
  exact h
theorem dat_equal (f t : Int) (hf : (Lit.int .i64 f).wf = true) (ht : (Lit.int .i64 t).wf = true) (x : ByteArray) (hx : x.size ≤ maxLen) (W : World) :
    (Op.equalIn 10000 27 (.agg #[.int .i64 f, .int .i64 t, .string x]) (.agg #[.int .i64 f, .int .i64 t, .string x])).run Try.prog W = .ok true W := by
  obtain ⟨L, h⟩ := gram_lits f t hf ht x hx
  have hk : Try.prog.keyTypeAt 3 27 = true := by kernel_rfl
  have hfm : (Value.agg #[.int .i64 f, .int .i64 t, .string x]).formed Try.prog 27 = true := by simp [Value.formed, Try.underlying27, cellsGram]
  obtain ⟨r, hr, hiff⟩ := run_equalIn_deep (P := Try.prog) 9997 3 27 hk W 3 3 (.agg #[.int .i64 f, .int .i64 t, .string x]) (.agg #[.int .i64 f, .int .i64 t, .string x]) L L hfm hfm h h
  have hr' : (Op.equalIn 10000 27 (.agg #[.int .i64 f, .int .i64 t, .string x]) (.agg #[.int .i64 f, .int .i64 t, .string x])).run Try.prog W = .ok r W := hr
  rw [hr', hiff.2 rfl]
theorem dat_same (f t : Int) (hf : (Lit.int .i64 f).wf = true) (ht : (Lit.int .i64 t).wf = true) (x : ByteArray) (hx : x.size ≤ maxLen) (W : World) :
    (binOp .eql 27 (.agg #[.int .i64 f, .int .i64 t, .string x]) (.agg #[.int .i64 f, .int .i64 t, .string x])).run Try.prog W = .ok (.bool true) W := by
  obtain ⟨L, h⟩ := gram_lits f t hf ht x hx
  have hk : Try.prog.keyTypeAt 3 27 = true := by kernel_rfl
  have hfm : (Value.agg #[.int .i64 f, .int .i64 t, .string x]).formed Try.prog 27 = true := by simp [Value.formed, Try.underlying27, cellsGram]
  obtain ⟨r, hr, hiff⟩ := run_equalIn_deep (P := Try.prog) 9997 3 27 hk W 3 3 (.agg #[.int .i64 f, .int .i64 t, .string x]) (.agg #[.int .i64 f, .int .i64 t, .string x]) L L hfm hfm h h
  rw [run_eql_struct]
  have hr' : (Op.equalIn 10000 27 (.agg #[.int .i64 f, .int .i64 t, .string x]) (.agg #[.int .i64 f, .int .i64 t, .string x])).run Try.prog W = .ok r W := hr
  rw [hr', hiff.2 rfl]
  rfl
end Go.Proofs.Ytlimnhlgjjgdeaa
