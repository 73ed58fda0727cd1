/- The contracts of the document's own Low, of one and of two bytes, at every int. -/
import Derived.Test.YtmelphkajkgdjaaDoorMask
import Derived.Test.YtmelphkajkgdjaaDoorOneConv
namespace Go.Proofs.YtmelphkajkgdjaaDoor
open Go.RowKit

/-- The n lowest bytes of an int, the highest of them first. -/
def lowI (k : Int) : Nat → List UInt8
  | 0 => []
  | n + 1 => lowI (k / 256) n ++ [UInt8.ofNat (k % 256).toNat]
theorem lowI_length (k : Int) (n : Nat) : (lowI k n).length = n := by
  induction n generalizing k with
  | zero => rfl
  | succ n ih => simp [lowI, ih]
theorem kindL_low (k : Int) : kindL k = lowI k 2 := rfl

theorem setCell_bytes (bs : List UInt8) (i : Nat) (x : UInt8) : (Lib.byteCells bs).toArray.setIfInBounds i (.int .u8 (x.toNat : Int)) = (Lib.byteCells (bs.set i x)).toArray := by
  apply Array.toList_inj.1
  simp [Lib.byteCells, List.map_set]

set_option maxHeartbeats 1000000 in
theorem refLow1_any (k : Int) (w : World) :
    Calls Tryd.prog 27 #[.int .i64 k, .int .i64 1] w fun e w' => e = .returned (.string ⟨(lowI k 1).toArray⟩) ∧ Below w.heap.size w w' := by
  obtain ⟨i0, hi, hz0, hz1, hz2⟩ := info_parts info5
  have hmk : ∀ W : World, (Instr.makeSlice 41 (.int .i64 1) (.int .i64 1)).run Tryd.prog W = .ok (.slice (some ⟨W.heap.size, 0, none⟩) 1 1) (W.alloc (.cells #[.int .u8 0] 5)) := fun W => by
    have h := run_make (P := Tryd.prog) W 41 5 i0 (.int .u8 0) Tryd.underlying41 hi hz0 .i64 .i64 1 1 (by omega) (Int.le_refl _) (by rw [hz2]; omega) (by omega)
    rw [hz1, show Int.toNat 1 = 1 from rfl, zeros_made] at h
    exact h
  obtain ⟨X, hX⟩ : ∃ X, X = UInt8.ofNat (k % 256).toNat := ⟨_, rfl⟩
  have eX : k % 256 = (X.toNat : Int) := by rw [hX, UInt8.toNat_ofNat']; omega
  have hL : lowI k 1 = [X] := by rw [hX]; rfl
  have hcv := one_conv w X
  have HL := hide hL
  have HB := hide (show Below w.heap.size w (w.alloc (.cells #[.int .u8 (X.toNat : Int)] 5)) from (Below.refl _ _).alloc (Nat.le_refl _) _)
  clear hi hz0 hz1 hz2 hX hL
  go_enter Tryd.func27, Tryd.ntmps27
  go_wp2
  go_loopw [0, 6] (fun v i wr => (i = .int .i64 0 ∧ v = .int .i64 k ∧ wr = w.alloc (.cells #[.int .u8 0] 5)) ∨ (i = .int .i64 (-1) ∧ wr = w.alloc (.cells #[.int .u8 (X.toNat : Int)] 5))) (fun _ i _ => (intOf i + 1).toNat)
  case atStart => exact Or.inl ⟨rfl, rfl, rfl⟩
  case round =>
    rcases hrel with ⟨rfl, rfl, rfl⟩ | ⟨rfl, rfl⟩
    · go_wp2
      go_roundw
      case rel => exact Or.inr ⟨rfl, by first | rfl | trivial⟩
      case measure => simp [intOf]
    · go_wp2
      go_ret
      exact ⟨by rw [HL.out]; rfl, HB.out⟩

theorem pair_conv (W : World) (a b : UInt8) :
    (convert 41 9 (.slice (some ⟨W.heap.size, 0, none⟩) 2 2)).run Tryd.prog (W.alloc (.cells #[.int .u8 (a.toNat : Int), .int .u8 (b.toNat : Int)] 5)) = .ok (.string ⟨#[a, b]⟩) (W.alloc (.cells #[.int .u8 (a.toNat : Int), .int .u8 (b.toNat : Int)] 5)) := by
  have hb := run_convert_bytes_arg (P := Tryd.prog) (W.alloc (.cells #[.int .u8 (a.toNat : Int), .int .u8 (b.toNat : Int)] 5)) 41 5 Tryd.underlying41 Tryd.underlying5 W.heap.size 0 2 2 [(a.toNat : Int), (b.toNat : Int)] rfl (fun i hi => by
    rw [Nat.zero_add, cell_of_row _ _ i _ _ _ (heap_alloc_new W _)]
    rcases (show i = 0 ∨ i = 1 by omega) with rfl | rfl <;> rfl) 9 Tryd.underlying9
  rw [hb]
  congr 2
  apply ByteArray.ext
  apply Array.toList_inj.1
  rw [strOfNums_data]
  simp

set_option maxHeartbeats 1000000 in
theorem refLow2_any (k : Int) (w : World) :
    Calls Tryd.prog 27 #[.int .i64 k, .int .i64 2] w fun e w' => e = .returned (.string ⟨(kindL k).toArray⟩) ∧ Below w.heap.size w w' := by
  obtain ⟨i0, hi, hz0, hz1, hz2⟩ := info_parts info5
  have hmk : ∀ W : World, (Instr.makeSlice 41 (.int .i64 2) (.int .i64 2)).run Tryd.prog W = .ok (.slice (some ⟨W.heap.size, 0, none⟩) 2 2) (W.alloc (.cells #[.int .u8 0, .int .u8 0] 5)) := fun W => by
    have h := run_make (P := Tryd.prog) W 41 5 i0 (.int .u8 0) Tryd.underlying41 hi hz0 .i64 .i64 2 2 (by omega) (Int.le_refl _) (by rw [hz2]; omega) (by omega)
    rw [hz1, show Int.toNat 2 = 2 from rfl, zeros_made] at h
    exact h
  obtain ⟨A, hA⟩ : ∃ A, A = UInt8.ofNat (k / 256 % 256).toNat := ⟨_, rfl⟩
  obtain ⟨B, hB⟩ : ∃ B, B = UInt8.ofNat (k % 256).toNat := ⟨_, rfl⟩
  have eA : k / 256 % 256 = (A.toNat : Int) := by rw [hA, UInt8.toNat_ofNat']; omega
  have eB : k % 256 = (B.toNat : Int) := by rw [hB, UInt8.toNat_ofNat']; omega
  have hL : kindL k = [A, B] := by rw [hA, hB]; rfl
  have hcv := pair_conv w A B
  have HL := hide hL
  have HB := hide (show Below w.heap.size w (w.alloc (.cells #[.int .u8 (A.toNat : Int), .int .u8 (B.toNat : Int)] 5)) from (Below.refl _ _).alloc (Nat.le_refl _) _)
  clear hi hz0 hz1 hz2 hA hB hL
  go_enter Tryd.func27, Tryd.ntmps27
  go_wp2
  go_loopw [0, 6] (fun v i wr => (i = .int .i64 1 ∧ v = .int .i64 k ∧ wr = w.alloc (.cells #[.int .u8 0, .int .u8 0] 5)) ∨ (i = .int .i64 0 ∧ v = .int .i64 (k / 256) ∧ wr = w.alloc (.cells #[.int .u8 0, .int .u8 (B.toNat : Int)] 5)) ∨ (i = .int .i64 (-1) ∧ wr = w.alloc (.cells #[.int .u8 (A.toNat : Int), .int .u8 (B.toNat : Int)] 5))) (fun _ i _ => (intOf i + 1).toNat)
  case atStart => exact Or.inl ⟨rfl, rfl, rfl⟩
  case round =>
    rcases hrel with ⟨rfl, rfl, rfl⟩ | ⟨rfl, rfl, rfl⟩ | ⟨rfl, rfl⟩
    · go_wp2
      go_roundw
      case rel => exact Or.inr (Or.inl ⟨rfl, rfl, by first | rfl | trivial⟩)
      case measure => simp [intOf]
    · go_wp2
      go_roundw
      case rel => exact Or.inr (Or.inr ⟨rfl, by first | rfl | trivial⟩)
      case measure => simp [intOf]
    · go_wp2
      go_ret
      exact ⟨by rw [HL.out]; rfl, HB.out⟩

set_option maxHeartbeats 400000 in
theorem refTwo_any (k : Int) (w : World) :
    Calls Tryd.prog 33 #[.int .i64 k] w fun e w' => e = .returned (.string ⟨(kindL k).toArray⟩) ∧ Below w.heap.size w w' := by
  have H := hide (refLow2_any k)
  generalize (⟨(kindL k).toArray⟩ : ByteArray) = L at H
  go_enter Tryd.func33, Tryd.ntmps33
  go_wp2_with fail
  refine (H.out _).mono ?_
  rintro e w1 ⟨rfl, hb1⟩
  go_wp2
  go_ret
  exact ⟨rfl, hb1⟩
end Go.Proofs.YtmelphkajkgdjaaDoor
