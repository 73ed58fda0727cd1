/- Go's comparison of two addresses; '==' of two structs or arrays in a region that draws (no function named). -/
import Derived.Test.YtcmdfcdmfdheeaaPlAd
import Derived.WalkKit
namespace Go.Proofs.Ytcmdfcdmfdheeaa
open Go.RowKit

theorem cellsAd : Try.prog.cellsOf 24 = 4 := by kernel_rfl
theorem cellsByte5 : Try.prog.cellsOf 5 = 1 := by kernel_rfl
theorem byteLits (d : Nat) (b : UInt8) : Try.prog.keyLits (d + 1) 5 [.int .u8 (b.toNat : Int)] = some [.int .u8 (b.toNat : Int)] := by
  have hb := b.toNat_lt
  have hw : (Lit.int .u8 (b.toNat : Int)).wf = true := WalkArith.wf_u8 (by omega)
  unfold Program.keyLits
  rw [Try.underlying5]
  simp [hw]
theorem adLits (d : Nat) (x : Ad) : Try.prog.keyLits (d + 2) 24 (adCells x) = some [.int .u8 (x.a.toNat : Int), .int .u8 (x.b.toNat : Int), .int .u8 (x.c.toNat : Int), .int .u8 (x.d.toNat : Int)] := by
  have hr : List.range 4 = [0, 1, 2, 3] := rfl
  unfold Program.keyLits
  rw [Try.underlying24]
  simp [cellsAd, cellsByte5, adCells, hr, byteLits]
set_option maxRecDepth 100000 in
/-- Go's comparison of two addresses. -/
theorem ad_eq (x y : Ad) (W : World) : Sem.run Try.prog (Op.equalIn 10000 24 (adV x) (adV y)) W = .ok (decide (numAd x = numAd y)) W := by
  have hk : Try.prog.keyTypeAt 2 24 = true := by kernel_rfl
  have hf : ∀ x : Ad, (adV x).formed Try.prog 24 = true := fun x => by simp [adV, Value.formed, Try.underlying24, cellsAd]
  obtain ⟨r, hr, hiff⟩ := run_equalIn_deep (P := Try.prog) 9998 2 24 hk W 2 2 (adV x) (adV y) _ _ (hf x) (hf y) (adLits 0 x) (adLits 0 y)
  have hr' : (Op.equalIn 10000 24 (adV x) (adV y)).run Try.prog W = .ok r W := hr
  rw [hr']
  congr 1
  rw [Bool.eq_iff_iff, hiff, decide_eq_true_iff]
  constructor
  · intro h
    simp only [List.cons.injEq, Lit.int.injEq, true_and, and_true] at h
    exact congrArg numAd (Ad.ext' (by omega) (by omega) (by omega) (by omega))
  · intro h
    rw [numAd_inj h]

theorem isW_of {a b B : Bool} (h : a = (true && b)) (hb : b = B) : a = B := by rw [h, hb, Bool.true_and]
/-- '==' of two structs or arrays, in a region that draws. -/
theorem execOp_eql {P : Program} {f : Operand → Value} {o : Oper} {t t' : TypeId} {x y : Nat} {A A' : Array Value} {B : Bool} {W : World} (hm : P.eqGuardType P.depth t = false) (ho : o.op = Op.binOp .eql t (.tmp x) (.tmp y) t') (hx : f (.tmp x) = .agg A) (hy : f (.tmp y) = .agg A') (h : (Op.equalIn 10000 t (.agg A) (.agg A')).run P W = .ok B W) : Sem.run P (execOp f o) W = .ok (Next.value (.bool B)) W := by
  unfold execOp
  simp only [ho, hx, hy, binOp]
  simp [go_sem, hm, Op.equal, Op.maxDepth, h]
/-- The same, in a region that does not. -/
theorem wp_eql {P : Program} {o : Oper} {a : Act} {t t' : TypeId} {x y : Nat} {A A' : Array Value} {B : Bool} {w : World} {K : Act → World → Prop} {Q : Exit → Act → World → Prop} (hm : P.eqGuardType P.depth t = false) (ho : o.op = Op.binOp .eql t (.tmp x) (.tmp y) t') (hx : a.eval (.tmp x) = .agg A) (hy : a.eval (.tmp y) = .agg A') (h : (Op.equalIn 10000 t (.agg A) (.agg A')).run P w = .ok B w) (hk : K (a.put o.dst (.bool B)) w) : Oper.wp P o a w K Q := by
  unfold Oper.wp
  rw [execOp_eql (f := a.eval) hm ho hx hy h]
  exact hk
theorem ad_self (x : Ad) (W : World) : Sem.run Try.prog (Op.equalIn 10000 24 (adV x) (adV x)) W = .ok true W := by
  rw [ad_eq, decide_eq_true rfl]
end Go.Proofs.Ytcmdfcdmfdheeaa
