/- Hiding and showing as functions of plain data, with no Go in them: pieces of sixteen bytes, each exclusive or a key that hangs on the piece ahead; what is hidden is shown again; what stands behind changes nothing ahead. -/
import Derived.Test.YtkneogfeokckjaaGreatDoorMd5Plain
namespace Go.Proofs.YtkneogfeokckjaaGreatDoor
open Go.RowKit

def xorL (p k : List UInt8) : List UInt8 := List.zipWith (fun a b => a ^^^ b) p k
def pieceF (v : List UInt8) (j : Nat) : List UInt8 := (v.drop (16 * j)).take 16
/-- What came out of the first j pieces, and the piece that the next key hangs on. -/
def maskB (un : Bool) (first secret v : List UInt8) : Nat → List UInt8 × List UInt8
  | 0 => ([], [])
  | j + 1 =>
    ((maskB un first secret v j).1 ++ xorL (pieceF v j) (if j = 0 then first else md5F (secret ++ (maskB un first secret v j).2)),
      if un then pieceF v j else xorL (pieceF v j) (if j = 0 then first else md5F (secret ++ (maskB un first secret v j).2)))
def keyB (un : Bool) (first secret v : List UInt8) (j : Nat) : List UInt8 := if j = 0 then first else md5F (secret ++ (maskB un first secret v j).2)
def maskF (un : Bool) (first secret v : List UInt8) : List UInt8 := (maskB un first secret v ((v.length + 15) / 16)).1
theorem maskB_out (un : Bool) (first secret v : List UInt8) (j : Nat) : (maskB un first secret v (j + 1)).1 = (maskB un first secret v j).1 ++ xorL (pieceF v j) (keyB un first secret v j) := rfl
theorem maskB_last (un : Bool) (first secret v : List UInt8) (j : Nat) : (maskB un first secret v (j + 1)).2 = if un then pieceF v j else xorL (pieceF v j) (keyB un first secret v j) := rfl
theorem keyB_length (un : Bool) (first secret v : List UInt8) (j : Nat) (h : first.length = 16) : (keyB un first secret v j).length = 16 := by
  unfold keyB
  split
  · exact h
  · exact md5F_length _
theorem pieceF_length (v : List UInt8) (j : Nat) : (pieceF v j).length = min 16 (v.length - 16 * j) := by simp [pieceF]
theorem pieceF_eq (v : List UInt8) (j : Nat) : pieceF v j = (v.take (16 * (j + 1))).drop (16 * j) := by
  unfold pieceF
  rw [List.drop_take]
  congr 1
  omega
theorem xorL_length (p k : List UInt8) : (xorL p k).length = min p.length k.length := by simp [xorL]
theorem maskB_length (un : Bool) (first secret v : List UInt8) (h : first.length = 16) (j : Nat) : (maskB un first secret v j).1.length = min (16 * j) v.length := by
  induction j with
  | zero => simp [maskB]
  | succ j ih =>
    rw [maskB_out, List.length_append, ih, xorL_length, keyB_length _ _ _ _ _ h, pieceF_length]
    omega
theorem maskF_length (un : Bool) (first secret v : List UInt8) (h : first.length = 16) : (maskF un first secret v).length = v.length := by
  rw [maskF, maskB_length un first secret v h]
  omega
theorem xorL_xorL (p k : List UInt8) (h : p.length ≤ k.length) : xorL (xorL p k) k = p := by
  induction p generalizing k with
  | nil => simp [xorL]
  | cons a p ih =>
    cases k with
    | nil => simp at h
    | cons b k =>
      have h2 : p.length ≤ k.length := by simpa using h
      have h3 := ih k h2
      unfold xorL at h3 ⊢
      rw [List.zipWith_cons_cons, List.zipWith_cons_cons, h3]
      congr 1
      rw [UInt8.xor_assoc, UInt8.xor_self, UInt8.xor_zero]
/-- Pieces of what was hidden: the pieces that came out. -/
theorem maskB_take (un : Bool) (first secret v : List UInt8) (h : first.length = 16) (j k : Nat) (hjk : j ≤ k) : (maskB un first secret v k).1.take (16 * j) = (maskB un first secret v j).1 := by
  induction k with
  | zero =>
    obtain rfl : j = 0 := by omega
    simp [maskB]
  | succ k ih =>
    by_cases hk : j ≤ k
    · have hl := maskB_length un first secret v h k
      rw [maskB_out]
      by_cases hf : 16 * j ≤ (maskB un first secret v k).1.length
      · rw [List.take_append_of_le_length hf, ih hk]
      · have hlv : (maskB un first secret v k).1.length = v.length := by omega
        have hp : pieceF v k = [] := by
          apply List.eq_nil_of_length_eq_zero
          rw [pieceF_length]
          omega
        rw [hp, show xorL [] (keyB un first secret v k) = [] from by simp [xorL], List.append_nil, ih hk]
    · obtain rfl : j = k + 1 := by omega
      have hl := maskB_length un first secret v h (k + 1)
      exact List.take_of_length_le (by omega)
theorem piece_of_mask (first secret v : List UInt8) (h : first.length = 16) (j : Nat) (hj : 16 * j < v.length) : pieceF (maskF false first secret v) j = xorL (pieceF v j) (keyB false first secret v j) := by
  have e : (maskF false first secret v).take (16 * (j + 1)) = (maskB false first secret v (j + 1)).1 := maskB_take false first secret v h (j + 1) _ (by omega)
  have hl := maskB_length false first secret v h j
  rw [pieceF_eq, e, maskB_out, List.drop_append, List.drop_of_length_le (by omega), List.nil_append, hl, show 16 * j - min (16 * j) v.length = 0 by omega, List.drop_zero]
/-- What was hidden is shown. -/
theorem unmask_mask (first secret v : List UInt8) (h : first.length = 16) : maskF true first secret (maskF false first secret v) = v := by
  have hlen := maskF_length false first secret v h
  have key : ∀ j, 16 * j < v.length + 16 → (maskB true first secret (maskF false first secret v) j).1 = v.take (16 * j) ∧ (maskB true first secret (maskF false first secret v) j).2 = (maskB false first secret v j).2 := by
    intro j
    induction j with
    | zero => intro _; simp [maskB]
    | succ j ih =>
      intro hj
      obtain ⟨i1, i2⟩ := ih (by omega)
      have hp := piece_of_mask first secret v h j (by omega)
      have hk : keyB true first secret (maskF false first secret v) j = keyB false first secret v j := by
        unfold keyB
        rw [i2]
      constructor
      · rw [maskB_out, i1, hp, hk, xorL_xorL _ _ (by rw [pieceF_length, keyB_length _ _ _ _ _ h]; omega)]
        rw [pieceF_eq]
        have e : v.take (16 * j) = (v.take (16 * (j + 1))).take (16 * j) := by rw [List.take_take]; congr 1; omega
        rw [e, List.take_append_drop]
      · rw [maskB_last, maskB_last, hp]
        simp
  have hK := key ((v.length + 15) / 16) (by omega)
  unfold maskF at hlen hK ⊢
  rw [hlen, hK.1]
  exact List.take_of_length_le (by omega)
/-- A first part of whole pieces is hidden as the whole begins. -/
theorem maskB_prefix (un : Bool) (first secret v : List UInt8) (c j : Nat) (h : j ≤ c) : maskB un first secret (v.take (16 * c)) j = maskB un first secret v j := by
  induction j with
  | zero => rfl
  | succ j ih =>
    have hp : pieceF (v.take (16 * c)) j = pieceF v j := by
      unfold pieceF
      rw [List.drop_take, List.take_take]
      congr 1
      omega
    rw [maskB, maskB, ih (by omega), hp]
theorem mask_prefix (un : Bool) (first secret v : List UInt8) (h : first.length = 16) (c : Nat) (hc : 16 * c ≤ v.length) : maskF un first secret (v.take (16 * c)) = (maskF un first secret v).take (16 * c) := by
  have hl : (v.take (16 * c)).length = 16 * c := by rw [List.length_take]; omega
  unfold maskF
  rw [hl, show (16 * c + 15) / 16 = c by omega, maskB_prefix un first secret v c c (Nat.le_refl _)]
  exact (maskB_take un first secret v h c _ (by omega)).symm
/-- The first sixteen bytes hang on the first sixteen alone. -/
theorem mask_first (un : Bool) (first secret v : List UInt8) (h : first.length = 16) (hv : 16 ≤ v.length) : (maskF un first secret v).take 16 = xorL (v.take 16) first := by
  have e := maskB_take un first secret v h 1 ((v.length + 15) / 16) (by omega)
  rw [Nat.mul_one] at e
  unfold maskF
  rw [e]
  rfl
def kindL (k : Int) : List UInt8 := [UInt8.ofNat (k / 256 % 256).toNat, UInt8.ofNat (k % 256).toNat]
def firstF (k : Int) (secret vector : List UInt8) : List UInt8 := md5F (kindL k ++ secret ++ vector)
theorem firstF_length (k : Int) (secret vector : List UInt8) : (firstF k secret vector).length = 16 := md5F_length _
end Go.Proofs.YtkneogfeokckjaaGreatDoor
