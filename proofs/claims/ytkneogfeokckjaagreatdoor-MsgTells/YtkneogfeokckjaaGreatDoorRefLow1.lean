/- The contract of the document's own Low, of one byte, at every int. -/
import Derived.Test.YtkneogfeokckjaaGreatDoorOneConv
import Derived.Test.YtkneogfeokckjaaGreatDoorLowI
namespace Go.Proofs.YtkneogfeokckjaaGreatDoor
open Go.RowKit

theorem made_one : madeCells (Value.int .u8 0).cells (1 * 1) = #[Value.int .u8 0] := by
  apply Array.toList_inj.1
  show (madeCells #[Value.int .u8 0] 1).toList = _
  rw [toList_madeCells_one]
  rfl

set_option maxRecDepth 100000 in
theorem setCell_bytes (bs : List UInt8) (i : Nat) (x : UInt8) : (Lib.byteCells bs).toArray.setIfInBounds i (.int .u8 (x.toNat : Int)) = (Lib.byteCells (bs.set i x)).toArray := by
  apply Array.toList_inj.1
  simp [Lib.byteCells, List.map_set]

set_option maxRecDepth 100000 in
set_option maxHeartbeats 1000000 in
theorem refLow1_any (k : Int) (w : World) :
    Calls Tryz.prog 134 #[.int .i64 k, .int .i64 1] w fun e w' => e = .returned (.string ⟨(lowI k 1).toArray⟩) ∧ Below w.heap.size w w' := by
  obtain ⟨i0, hi, hz0, hz1, hz2⟩ := info_parts dgInfo5
  have hmk : ∀ W : World, (Instr.makeSlice 127 (.int .i64 1) (.int .i64 1)).run Tryz.prog W = .ok (.slice (some ⟨W.heap.size, 0, none⟩) 1 1) (W.alloc (.cells #[.int .u8 0] 5)) := fun W => by
    have h := run_make (P := Tryz.prog) W 127 5 i0 (.int .u8 0) Tryz.underlying127 hi hz0 .i64 .i64 1 1 (by omega) (Int.le_refl _) (by rw [hz2]; omega) (by omega)
    rw [hz1, show Int.toNat 1 = 1 from rfl, made_one] at h
    exact h
  obtain ⟨X, hX⟩ : ∃ X, X = UInt8.ofNat (k % 256).toNat := ⟨_, rfl⟩
  have eX : k % 256 = (X.toNat : Int) := by rw [hX, UInt8.toNat_ofNat']; omega
  have hL : lowI k 1 = [X] := by rw [hX]; rfl
  have hcv := one_conv w X
  have HL := hide hL
  have HB := hide (show Below w.heap.size w (w.alloc (.cells #[.int .u8 (X.toNat : Int)] 5)) from (Below.refl _ _).alloc (Nat.le_refl _) _)
  clear hi hz0 hz1 hz2 hX hL
  go_enter Tryz.func134, Tryz.ntmps134
  go_wp2
  go_loopw [0, 6] (fun v i wr => (i = .int .i64 0 ∧ v = .int .i64 k ∧ wr = w.alloc (.cells #[.int .u8 0] 5)) ∨ (i = .int .i64 (-1) ∧ wr = w.alloc (.cells #[.int .u8 (X.toNat : Int)] 5))) (fun _ i _ => (intOf i + 1).toNat)
  case atStart => exact Or.inl ⟨rfl, rfl, rfl⟩
  case round =>
    rcases hrel with ⟨rfl, rfl, rfl⟩ | ⟨rfl, rfl⟩
    · go_wp2
      go_roundw
      case rel => exact Or.inr ⟨rfl, by first | rfl | trivial⟩
      case measure => simp [intOf]
    · go_wp2
      go_ret
      exact ⟨by rw [HL.out]; rfl, HB.out⟩
end Go.Proofs.YtkneogfeokckjaaGreatDoor
