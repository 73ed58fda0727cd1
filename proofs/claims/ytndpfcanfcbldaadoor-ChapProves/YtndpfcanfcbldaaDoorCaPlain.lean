/- Values and names in bytes (chapter 14), a client and a server of chap, as plain functions with no Go in them; and what follows of these. -/
import Derived.Test.YtndpfcanfcbldaaDoorPaPlain
namespace Go.Proofs.YtndpfcanfcbldaaDoor
open Go.RowKit

def putValF (v n : ByteArray) : ByteArray × Int := if v.size < 1 ∨ 60 < v.size then (⟨#[]⟩, 1) else if 60 < n.size then (⟨#[]⟩, 2) else (layF v ++ n, 0)
def getValF (b : ByteArray) : ByteArray × ByteArray × Int :=
  if b.size = 0 then (⟨#[]⟩, ⟨#[]⟩, 5)
  else if (b.data.toList.getD 0 0).toNat < 1 ∨ 60 < (b.data.toList.getD 0 0).toNat then (⟨#[]⟩, ⟨#[]⟩, 1)
  else if b.size < 1 + (b.data.toList.getD 0 0).toNat then (⟨#[]⟩, ⟨#[]⟩, 5)
  else if 61 + (b.data.toList.getD 0 0).toNat < b.size then (⟨#[]⟩, ⟨#[]⟩, 2)
  else (b.extract 1 (1 + (b.data.toList.getD 0 0).toNat), b.extract (1 + (b.data.toList.getD 0 0).toNat) b.size, 0)

theorem putValF_ok {v n : ByteArray} (h1 : 1 ≤ v.size) (h2 : v.size ≤ 60) (h3 : n.size ≤ 60) : putValF v n = (layF v ++ n, 0) := by
  unfold putValF
  rw [if_neg (by omega), if_neg (by omega)]
theorem putValF_is {v n : ByteArray} (h : (putValF v n).2 = 0) : 1 ≤ v.size ∧ v.size ≤ 60 ∧ n.size ≤ 60 := by
  unfold putValF at h
  by_cases h1 : v.size < 1 ∨ 60 < v.size
  · rw [if_pos h1] at h
    exact absurd h (by decide)
  · rw [if_neg h1] at h
    by_cases h2 : 60 < n.size
    · rw [if_pos h2] at h
      exact absurd h (by decide)
    · omega

/-- What was put is got. -/
theorem getValF_put (v n : ByteArray) (h1 : 1 ≤ v.size) (h2 : v.size ≤ 60) (h3 : n.size ≤ 60) : getValF (layF v ++ n) = (v, n, 0) := by
  have hf := firstF_lay v n h2
  have hd : (layF v ++ n).data.toList = UInt8.ofNat v.size :: (v.data.toList ++ n.data.toList) := by rw [ByteArray.data_append]; simp [layF_data]
  have h0 : ((layF v ++ n).data.toList.getD 0 0).toNat = v.size := by
    rw [hd]
    show (UInt8.ofNat v.size).toNat = _
    simp
    omega
  have hs : (layF v ++ n).size = 1 + v.size + n.size := by rw [ByteArray.size_append, layF_size]
  unfold firstF at hf
  unfold getValF
  rw [h0, hs] at hf ⊢
  rw [if_neg (by omega), if_neg (by omega), if_neg (by omega)] at hf
  rw [if_neg (by omega), if_neg (by omega), if_neg (by omega), if_neg (by omega)]
  exact hf
theorem getValF_size (b : ByteArray) : (getValF b).1.size ≤ 60 ∧ (getValF b).2.1.size ≤ 60 := by
  unfold getValF
  split
  · exact ⟨Nat.zero_le _, Nat.zero_le _⟩
  · split
    · exact ⟨Nat.zero_le _, Nat.zero_le _⟩
    · split
      · exact ⟨Nat.zero_le _, Nat.zero_le _⟩
      · split
        · exact ⟨Nat.zero_le _, Nat.zero_le _⟩
        · simp only [ByteArray.size_extract]
          omega
end Go.Proofs.YtndpfcanfcbldaaDoor
