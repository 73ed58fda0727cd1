/- Rows that are written whole (no function and no type named). -/
import Derived.Test.YtoflohomnoppnaaBookKit
import Derived.Test.YtoflohomnoppnaaTagKit
import Derived.Laws.CopyRow
import Derived.Deep.MidRow
namespace Go.Proofs.Ytoflohomnoppnaa
open Go.RowKit

/-- 'store' of a whole struct, in a region that draws, by what it leaves. -/
theorem stepB_store {P : Program} {ops : Array Oper} {o : Oper} {a : Act} {w w' : World} {K : Act → World → Prop} {Q : Exit → Act → World → Prop} {E : Prop} (hg : o.guard = none) (p x : Operand) (t : TypeId) (hop : o.op = Op.store t p x) (u v : Value) (hd : a.eval p = u) (hx : a.eval x = v)
    (hr : (Instr.storeAt t u v).run P w = .ok () w') (hK : K (a.put o.dst undef) w') : if Region.wanted o (yielded ops a.tmps) = true then Oper.wp P o a w K Q else E := by
  rw [if_pos (by simp [Region.wanted, hg])]
  unfold Oper.wp execOp
  simp only [hop, hd, hx, hr, Sem.run_bind, Sem.run_pure, Result.andThen_ok, Oper.upon]
  exact hK
/-- A whole struct is stored into the midst of a row. -/
theorem storeB {P : Program} {w : World} {g o : Nat} {t ty : TypeId} {cur : Array Value} (cs : List Value) (hg : w.heap[g]? = some (.cells cur t (0, 0))) (hle : o + cs.length ≤ cur.size) (h1 : ∀ v ∈ cs, v.oneCell' = true) (hi : (P.info? ty).map (·.size) = some cs.length) :
    (Instr.storeAt ty (.pointer (some ⟨g, o, none⟩)) (.agg cs.toArray)).run P w = .ok () (w.setRow g (cur.toList.take o ++ cs ++ cur.toList.drop (o + cs.length)).toArray) := by
  have hst := run_storeCells_at (P := P) g o t cs 0 cur w hg (by omega) h1
  rw [Nat.add_zero] at hst
  have hv : (storeVar ty ⟨g, o, none⟩ (.agg cs.toArray)).run P w = .ok () (w.setRow g (cur.toList.take o ++ cs ++ cur.toList.drop (o + cs.length)).toArray) := by
    cases hq : P.info? ty with
    | none => simp [hq] at hi
    | some i =>
      have hs : cs.length = i.size := by simp [hq] at hi; omega
      rw [hs] at hst ⊢
      simp [storeVar, sizeOf, typeInfo, hq, Value.cells, hs, hst]
  simp only [Instr.storeAt, Instr.sureAddr, Sem.run_bind, Sem.run_pure, Result.andThen_ok, hv]
theorem addB (g o n : Nat) : (⟨g, o, none⟩ : Addr).add n = ⟨g, o + n, none⟩ := add_none g o n
theorem setRow_block {w : World} {g : Nat} {cur : Array Value} {t : TypeId} (h : w.heap[g]? = some (.cells cur t (0, 0))) (cs : Array Value) : (w.setRow g cs).heap[g]? = some (.cells cs t (0, 0)) := by
  simp [World.setRow, Array.getElem?_modify, h]
theorem setRow_kept (w : World) (g : Nat) (cs : Array Value) {n cap : Nat} : Kept (fun i => (Value.slice (some ⟨g, 0, none⟩) n cap).ownBlock = some i) w (w.setRow g cs) :=
  ⟨rfl, rfl, rfl, by simp [World.setRow], fun k _ hn => by
    have : g ≠ k := fun e => hn (by rw [e]; rfl)
    simp [World.setRow, Array.getElem?_modify, this]⟩
end Go.Proofs.Ytoflohomnoppnaa
