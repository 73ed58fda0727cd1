/- Two digests that are the same are the same by Go's comparison; and the contract of the document's own Text. -/
import Derived.Test.YtmbdjgfbhblifaaDoorSame
import Derived.DeepKeys
namespace Go.Proofs.YtmbdjgfbhblifaaDoor
open Go.RowKit

theorem sixteen {l : List UInt8} (h : l.length = 16) : ∃ a0 a1 a2 a3 a4 a5 a6 a7 a8 a9 a10 a11 a12 a13 a14 a15, l = [a0, a1, a2, a3, a4, a5, a6, a7, a8, a9, a10, a11, a12, a13, a14, a15] := by
  match l, h with
  | [a0, a1, a2, a3, a4, a5, a6, a7, a8, a9, a10, a11, a12, a13, a14, a15], _ => exact ⟨a0, a1, a2, a3, a4, a5, a6, a7, a8, a9, a10, a11, a12, a13, a14, a15, rfl⟩
theorem cells5 : Tryd.prog.cellsOf 5 = 1 := by kernel_rfl
theorem cells16 : Tryd.prog.cellsOf 65 = 16 := by kernel_rfl
theorem byte_lits (d : Nat) (b : UInt8) : Tryd.prog.keyLits (d + 1) 5 [.int .u8 (b.toNat : Int)] = some [.int .u8 (b.toNat : Int)] := by
  have hb := b.toNat_lt
  have hw : (Lit.int .u8 (b.toNat : Int)).wf = true := WalkArith.wf_u8 (by omega)
  unfold Program.keyLits
  rw [Tryd.underlying5]
  simp [hw]
theorem digest_lits (d : Nat) (l : List UInt8) (h : l.length = 16) : ∃ L, Tryd.prog.keyLits (d + 2) 65 (Lib.byteCells l) = some L := by
  obtain ⟨a0, a1, a2, a3, a4, a5, a6, a7, a8, a9, a10, a11, a12, a13, a14, a15, rfl⟩ := sixteen h
  refine ⟨[.int .u8 (a0.toNat : Int), .int .u8 (a1.toNat : Int), .int .u8 (a2.toNat : Int), .int .u8 (a3.toNat : Int), .int .u8 (a4.toNat : Int), .int .u8 (a5.toNat : Int), .int .u8 (a6.toNat : Int), .int .u8 (a7.toNat : Int), .int .u8 (a8.toNat : Int), .int .u8 (a9.toNat : Int), .int .u8 (a10.toNat : Int), .int .u8 (a11.toNat : Int), .int .u8 (a12.toNat : Int), .int .u8 (a13.toNat : Int), .int .u8 (a14.toNat : Int), .int .u8 (a15.toNat : Int)], ?_⟩
  have hr : List.range 16 = [0, 1, 2, 3, 4, 5, 6, 7, 8, 9, 10, 11, 12, 13, 14, 15] := rfl
  unfold Program.keyLits
  rw [Tryd.underlying65]
  simp [cells16, cells5, Lib.byteCells, hr, byte_lits]
theorem digest_same (l : List UInt8) (h : l.length = 16) (W : World) :
    (Op.equalIn 10000 65 (.agg (Lib.byteCells l).toArray) (.agg (Lib.byteCells l).toArray)).run Tryd.prog W = .ok true W := by
  obtain ⟨L, hL⟩ := digest_lits 1 l h
  have hk : Tryd.prog.keyTypeAt 3 65 = true := by kernel_rfl
  have hf : (Value.agg (Lib.byteCells l).toArray).formed Tryd.prog 65 = true := by simp [Value.formed, Tryd.underlying65, cells16, Lib.byteCells, h]
  obtain ⟨r, hr, hiff⟩ := run_equalIn_deep (P := Tryd.prog) 9997 3 65 hk W 3 3 (.agg (Lib.byteCells l).toArray) (.agg (Lib.byteCells l).toArray) L L hf hf hL hL
  have hr' : (Op.equalIn 10000 65 (.agg (Lib.byteCells l).toArray) (.agg (Lib.byteCells l).toArray)).run Tryd.prog W = .ok r W := hr
  rw [hr', hiff.2 rfl]
theorem guard_digest (x y : Operand) (cs : Array Value) (W : World) : (eqGuard .eql 65 x y (.agg cs) (.agg cs)).run Tryd.prog W = .ok () W := by kernel_rfl

set_option maxHeartbeats 400000 in
/-- The document's 'Text(d)'. -/
theorem refText_any (l : List UInt8) (hl : l.length = 16) (w : World) :
    Calls Tryd.prog 35 #[.agg (Lib.byteCells l).toArray] w fun e w' => e = .returned (.string ⟨l.toArray⟩) ∧ Below w.heap.size w w' := by
  have hc := text_conv w l hl
  have HB := hide (show Below w.heap.size w (w.alloc (.cells (Lib.byteCells l).toArray 65)) from (Below.refl _ _).alloc (Nat.le_refl _) _)
  generalize (Lib.byteCells l).toArray = C at hc HB
  go_enter Tryd.func35, Tryd.ntmps35
  go_wp2
  go_ret
  exact ⟨rfl, HB.out⟩
end Go.Proofs.YtmbdjgfbhblifaaDoor
