/- The contract of the document's own Low, of two bytes, at every int. -/
import Derived.Test.YtkneogfeokckjaaGreatDoorMask
import Derived.Test.YtkneogfeokckjaaGreatDoorRefLow1
namespace Go.Proofs.YtkneogfeokckjaaGreatDoor
open Go.RowKit

theorem kindL_low (k : Int) : kindL k = lowI k 2 := rfl

set_option maxRecDepth 100000 in
theorem pair_conv (W : World) (a b : UInt8) :
    (convert 127 9 (.slice (some ⟨W.heap.size, 0, none⟩) 2 2)).run Tryz.prog (W.alloc (.cells #[.int .u8 (a.toNat : Int), .int .u8 (b.toNat : Int)] 5)) = .ok (.string ⟨#[a, b]⟩) (W.alloc (.cells #[.int .u8 (a.toNat : Int), .int .u8 (b.toNat : Int)] 5)) := by
  have hb := run_convert_bytes_arg (P := Tryz.prog) (W.alloc (.cells #[.int .u8 (a.toNat : Int), .int .u8 (b.toNat : Int)] 5)) 127 5 Tryz.underlying127 Tryz.underlying5 W.heap.size 0 2 2 [(a.toNat : Int), (b.toNat : Int)] rfl (fun i hi => by
    rw [Nat.zero_add, cell_of_row _ _ i _ _ _ (heap_alloc_new W _)]
    rcases (show i = 0 ∨ i = 1 by omega) with rfl | rfl <;> rfl) 9 Tryz.underlying9
  rw [hb]
  congr 2
  apply ByteArray.ext
  apply Array.toList_inj.1
  rw [strOfNums_data]
  simp

set_option maxRecDepth 100000 in
set_option maxHeartbeats 1000000 in
theorem refLow2_any (k : Int) (w : World) :
    Calls Tryz.prog 134 #[.int .i64 k, .int .i64 2] w fun e w' => e = .returned (.string ⟨(kindL k).toArray⟩) ∧ Below w.heap.size w w' := by
  obtain ⟨i0, hi, hz0, hz1, hz2⟩ := info_parts dgInfo5
  have hmk : ∀ W : World, (Instr.makeSlice 127 (.int .i64 2) (.int .i64 2)).run Tryz.prog W = .ok (.slice (some ⟨W.heap.size, 0, none⟩) 2 2) (W.alloc (.cells #[.int .u8 0, .int .u8 0] 5)) := fun W => by
    have h := run_make (P := Tryz.prog) W 127 5 i0 (.int .u8 0) Tryz.underlying127 hi hz0 .i64 .i64 2 2 (by omega) (Int.le_refl _) (by rw [hz2]; omega) (by omega)
    rw [hz1, show Int.toNat 2 = 2 from rfl, zeros_made] at h
    exact h
  obtain ⟨A, hA⟩ : ∃ A, A = UInt8.ofNat (k / 256 % 256).toNat := ⟨_, rfl⟩
  obtain ⟨B, hB⟩ : ∃ B, B = UInt8.ofNat (k % 256).toNat := ⟨_, rfl⟩
  have eA : k / 256 % 256 = (A.toNat : Int) := by rw [hA, UInt8.toNat_ofNat']; omega
  have eB : k % 256 = (B.toNat : Int) := by rw [hB, UInt8.toNat_ofNat']; omega
  have hL : kindL k = [A, B] := by rw [hA, hB]; rfl
  have hcv := pair_conv w A B
  have HL := hide hL
  have HB := hide (show Below w.heap.size w (w.alloc (.cells #[.int .u8 (A.toNat : Int), .int .u8 (B.toNat : Int)] 5)) from (Below.refl _ _).alloc (Nat.le_refl _) _)
  clear hi hz0 hz1 hz2 hA hB hL
  go_enter Tryz.func134, Tryz.ntmps134
  go_wp2
  go_loopw [0, 6] (fun v i wr => (i = .int .i64 1 ∧ v = .int .i64 k ∧ wr = w.alloc (.cells #[.int .u8 0, .int .u8 0] 5)) ∨ (i = .int .i64 0 ∧ v = .int .i64 (k / 256) ∧ wr = w.alloc (.cells #[.int .u8 0, .int .u8 (B.toNat : Int)] 5)) ∨ (i = .int .i64 (-1) ∧ wr = w.alloc (.cells #[.int .u8 (A.toNat : Int), .int .u8 (B.toNat : Int)] 5))) (fun _ i _ => (intOf i + 1).toNat)
  case atStart => exact Or.inl ⟨rfl, rfl, rfl⟩
  case round =>
    rcases hrel with ⟨rfl, rfl, rfl⟩ | ⟨rfl, rfl, rfl⟩ | ⟨rfl, rfl⟩
    · go_wp2
      go_roundw
      case rel => exact Or.inr (Or.inl ⟨rfl, rfl, by first | rfl | trivial⟩)
      case measure => simp [intOf]
    · go_wp2
      go_roundw
      case rel => exact Or.inr (Or.inr ⟨rfl, by first | rfl | trivial⟩)
      case measure => simp [intOf]
    · go_wp2
      go_ret
      exact ⟨by rw [HL.out]; rfl, HB.out⟩

set_option maxRecDepth 100000 in
set_option maxHeartbeats 400000 in
theorem refTwo_any (k : Int) (w : World) :
    Calls Tryz.prog 53 #[.int .i64 k] w fun e w' => e = .returned (.string ⟨(kindL k).toArray⟩) ∧ Below w.heap.size w w' := by
  have H := hide (refLow2_any k)
  generalize (⟨(kindL k).toArray⟩ : ByteArray) = L at H
  go_enter Tryz.func53, Tryz.ntmps53
  go_wp2_with fail
  refine (H.out _).mono ?_
  rintro e w1 ⟨rfl, hb1⟩
  go_wp2
  go_ret
  exact ⟨rfl, hb1⟩
end Go.Proofs.YtkneogfeokckjaaGreatDoor
