/- Go's comparison of two values of messages; the contracts of slices.Equal and avp.Same. -/
import Derived.Test.YtkneogfeokckjaaGreatDoorAvPut
import Derived.Deep.RegionHeld
import Derived.DeepKeys
namespace Go.Proofs.YtkneogfeokckjaaGreatDoor
open Go.RowKit

theorem cellsAvp : Tryz.prog.cellsOf 72 = 5 := by kernel_rfl
theorem cellsBoolV : Tryz.prog.cellsOf 4 = 1 := by kernel_rfl
theorem cellsIntV : Tryz.prog.cellsOf 3 = 1 := by kernel_rfl
theorem cellsStrV : Tryz.prog.cellsOf 9 = 1 := by kernel_rfl
/-- Its numbers are ints, its text no longer than one may be. -/
structure GoodA (x : Av) : Prop where
  vendor : -9223372036854775808 ≤ x.vendor ∧ x.vendor ≤ 9223372036854775807
  type : -9223372036854775808 ≤ x.type ∧ x.type ≤ 9223372036854775807
  value : x.value.size ≤ maxLen
theorem avLits (d : Nat) {x : Av} (h : GoodA x) : Tryz.prog.keyLits (d + 2) 72 (avCells x) = some [.bool x.must, .bool x.hidden, .int .i64 x.vendor, .int .i64 x.type, .string x.value.data.toList] := by
  have hb : ∀ q : Bool, Tryz.prog.keyLits (d + 1) 4 [.bool q] = some [.bool q] := fun q => by
    unfold Program.keyLits
    rw [Tryz.underlying4]
  have hn : ∀ z : Int, -9223372036854775808 ≤ z ∧ z ≤ 9223372036854775807 → Tryz.prog.keyLits (d + 1) 3 [.int .i64 z] = some [.int .i64 z] := fun z hz => by
    unfold Program.keyLits
    rw [Tryz.underlying3]
    simp [WalkArith.wf_i64 hz]
  have hs : Tryz.prog.keyLits (d + 1) 9 [.string x.value] = some [.string x.value.data.toList] := by
    unfold Program.keyLits
    rw [Tryz.underlying9]
    simp [h.value]
  unfold Program.keyLits
  rw [Tryz.underlying72]
  simp [cellsAvp, cellsBoolV, cellsIntV, cellsStrV, avCells, hb, hn _ h.vendor, hn _ h.type, hs]
set_option maxRecDepth 100000 in
theorem av_eq {x y : Av} (hx : GoodA x) (hy : GoodA y) (W : World) : Sem.run Tryz.prog (Op.equalIn 10000 72 (avV x) (avV y)) W = .ok (sameA x y) W := by
  have hk : Tryz.prog.keyTypeAt 2 72 = true := by kernel_rfl
  have hf : ∀ x : Av, (avV x).formed Tryz.prog 72 = true := fun x => by simp [avV, Value.formed, Tryz.underlying72, cellsAvp]
  obtain ⟨r, hr, hiff⟩ := run_equalIn_deep (P := Tryz.prog) 9998 2 72 hk W 2 2 (avV x) (avV y) _ _ (hf x) (hf y) (avLits 0 hx) (avLits 0 hy)
  have hr' : (Op.equalIn 10000 72 (avV x) (avV y)).run Tryz.prog W = .ok r W := hr
  rw [hr']
  congr 1
  rw [Bool.eq_iff_iff, hiff, sameA_iff]
  constructor
  · intro h
    simp only [List.cons.injEq, Lit.int.injEq, Lit.bool.injEq, Lit.string.injEq, true_and, and_true] at h
    obtain ⟨h1, h2, h3, h4, h5⟩ := h
    cases x
    cases y
    simp only at h1 h2 h3 h4 h5
    rw [h1, h2, h3, h4, bytes_ext h5]
  · rintro rfl
    rfl
/-- '==' and '!=' of two structs, in a region that draws. -/
theorem avOp_eql {P : Program} {f : Operand → Value} {o : Oper} {t t' : TypeId} {x y : Nat} {A A' : Array Value} {B : Bool} {W : World} (hm : P.eqGuardType P.depth t = false) (ho : o.op = Op.binOp .eql t (.tmp x) (.tmp y) t') (hx : f (.tmp x) = .agg A) (hy : f (.tmp y) = .agg A') (h : (Op.equalIn 10000 t (.agg A) (.agg A')).run P W = .ok B W) : Sem.run P (execOp f o) W = .ok (Next.value (.bool B)) W := by
  unfold execOp
  simp only [ho, hx, hy, binOp]
  simp [go_sem, hm, Op.equal, Op.maxDepth, h]
theorem avOp_neq {P : Program} {f : Operand → Value} {o : Oper} {t t' : TypeId} {x y : Nat} {A A' : Array Value} {B : Bool} {W : World} (hm : P.eqGuardType P.depth t = false) (ho : o.op = Op.binOp .neq t (.tmp x) (.tmp y) t') (hx : f (.tmp x) = .agg A) (hy : f (.tmp y) = .agg A') (h : (Op.equalIn 10000 t (.agg A) (.agg A')).run P W = .ok B W) : Sem.run P (execOp f o) W = .ok (Next.value (.bool (!B))) W := by
  unfold execOp
  simp only [ho, hx, hy, binOp]
  simp [go_sem, hm, Op.equal, Op.maxDepth, h]

theorem take_eq {α : Type} {l m : List α} {j : Nat} {x : α} (h : l.take j = m.take j) (hx : l[j]? = some x) (hy : m[j]? = some x) : l.take (j + 1) = m.take (j + 1) := by rw [take_next hx, take_next hy, h]

end Go.Proofs.YtkneogfeokckjaaGreatDoor
