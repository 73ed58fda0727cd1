/- Names and secrets in the clear, as plain functions with no Go in them; and what follows of these. -/
import Derived.Test.YtndpfcanfcbldaaDoorTagPlain
namespace Go.Proofs.YtndpfcanfcbldaaDoor
open Go.RowKit

def emp : ByteArray := ⟨#[]⟩
def longB (t : ByteArray) : Bool := decide (60 < t.size)
/-- A text behind its length. -/
def layF (t : ByteArray) : ByteArray := ⟨[UInt8.ofNat t.size].toArray⟩ ++ t
def putReqF (n s : ByteArray) : ByteArray × Int := if (longB n || longB s) = true then (⟨#[]⟩, 2) else (layF n ++ layF s, 0)
def putSayF (t : ByteArray) : ByteArray × Int := if longB t = true then (⟨#[]⟩, 2) else (layF t, 0)
/-- The text at the front, and what stands behind it. -/
def firstF (b : ByteArray) : ByteArray × ByteArray × Int :=
  if b.size = 0 then (⟨#[]⟩, ⟨#[]⟩, 5) else if 60 < (b.data.toList.getD 0 0).toNat then (⟨#[]⟩, ⟨#[]⟩, 2)
  else if b.size < 1 + (b.data.toList.getD 0 0).toNat then (⟨#[]⟩, ⟨#[]⟩, 5)
  else (b.extract 1 (1 + (b.data.toList.getD 0 0).toNat), b.extract (1 + (b.data.toList.getD 0 0).toNat) b.size, 0)
def onlyF (b : ByteArray) : ByteArray × Int :=
  if (firstF b).2.2 ≠ 0 then (⟨#[]⟩, (firstF b).2.2) else if (firstF b).2.1.size ≠ 0 then (⟨#[]⟩, 4) else ((firstF b).1, 0)
def getReqF (b : ByteArray) : ByteArray × ByteArray × Int :=
  if (firstF b).2.2 ≠ 0 then (⟨#[]⟩, ⟨#[]⟩, (firstF b).2.2) else if (onlyF (firstF b).2.1).2 ≠ 0 then (⟨#[]⟩, ⟨#[]⟩, (onlyF (firstF b).2.1).2) else ((firstF b).1, (onlyF (firstF b).2.1).1, 0)
def getSayF (b : ByteArray) : ByteArray × Int := if b.size = 0 then (⟨#[]⟩, 0) else onlyF b

theorem layF_size (t : ByteArray) : (layF t).size = 1 + t.size := by unfold layF; rw [ByteArray.size_append]; rfl
theorem layF_data (t : ByteArray) : (layF t).data.toList = UInt8.ofNat t.size :: t.data.toList := by unfold layF; rw [ByteArray.data_append]; simp
theorem firstF_size (b : ByteArray) : (firstF b).1.size ≤ b.size ∧ (firstF b).2.1.size ≤ b.size := by
  unfold firstF
  split
  · exact ⟨Nat.zero_le _, Nat.zero_le _⟩
  · split
    · exact ⟨Nat.zero_le _, Nat.zero_le _⟩
    · split
      · exact ⟨Nat.zero_le _, Nat.zero_le _⟩
      · simp only [ByteArray.size_extract]
        omega
theorem longB_no {t : ByteArray} (h : longB t = false) : t.size ≤ 60 := by
  have : ¬ 60 < t.size := by simpa [longB] using h
  omega
theorem longB_yes {t : ByteArray} (h : longB t = true) : 60 < t.size := by simpa [longB] using h

theorem sizeOf_data (b : ByteArray) : b.data.toList.length = b.size := (Lib.size_eq b).symm

/-- What was laid is read, with whatever behind it. -/
theorem firstF_lay (t r : ByteArray) (h : t.size ≤ 60) : firstF (layF t ++ r) = (t, r, 0) := by
  have hd : (layF t ++ r).data.toList = UInt8.ofNat t.size :: (t.data.toList ++ r.data.toList) := by rw [ByteArray.data_append]; simp [layF_data]
  have h0 : ((layF t ++ r).data.toList.getD 0 0).toNat = t.size := by
    rw [hd]
    show (UInt8.ofNat t.size).toNat = _
    simp
    omega
  have hs : (layF t ++ r).size = 1 + t.size + r.size := by rw [ByteArray.size_append, layF_size]
  have ht : t.data.toList.length = t.size := sizeOf_data t
  unfold firstF
  rw [h0, hs, if_neg (by omega), if_neg (by omega), if_neg (by omega)]
  have e1 : (layF t ++ r).extract 1 (1 + t.size) = t := by
    apply bytes_ext
    rw [Lib.extract_data, hd, Nat.add_sub_cancel_left]
    show (t.data.toList ++ r.data.toList).take t.size = _
    rw [take_left ht]
  have e2 : (layF t ++ r).extract (1 + t.size) (1 + t.size + r.size) = r := by
    apply bytes_ext
    rw [Lib.extract_data, hd, Nat.add_sub_cancel_left, Nat.add_comm 1 t.size]
    show ((t.data.toList ++ r.data.toList).drop t.size).take r.size = _
    rw [drop_left ht, List.take_of_length_le (by rw [sizeOf_data]; exact Nat.le_refl _)]
  rw [e1, e2]

theorem bytes_nil (t : ByteArray) : t ++ (⟨#[]⟩ : ByteArray) = t := by apply bytes_ext; rw [ByteArray.data_append]; simp
theorem firstF_only (t : ByteArray) (h : t.size ≤ 60) : firstF (layF t) = (t, ⟨#[]⟩, 0) := by
  have := firstF_lay t ⟨#[]⟩ h
  rw [bytes_nil] at this
  exact this
theorem onlyF_lay (t : ByteArray) (h : t.size ≤ 60) : onlyF (layF t) = (t, 0) := by
  unfold onlyF
  rw [firstF_only t h, if_neg (by simp), if_neg (fun h => h rfl)]
theorem onlyF_more (t r : ByteArray) (h : t.size ≤ 60) (hr : r.size ≠ 0) : onlyF (layF t ++ r) = (⟨#[]⟩, 4) := by
  unfold onlyF
  rw [firstF_lay t r h, if_neg (by simp), if_pos (by exact hr)]
theorem app_assoc (a b c : ByteArray) : a ++ b ++ c = a ++ (b ++ c) := by apply bytes_ext; simp [ByteArray.data_append]
theorem getReqF_put (n s : ByteArray) (hn : n.size ≤ 60) (hs : s.size ≤ 60) : getReqF (layF n ++ layF s) = (n, s, 0) := by
  unfold getReqF
  rw [firstF_lay n (layF s) hn, if_neg (by simp)]
  simp only
  rw [onlyF_lay s hs, if_neg (by simp)]
theorem getReqF_more (n s r : ByteArray) (hn : n.size ≤ 60) (hs : s.size ≤ 60) (hr : r.size ≠ 0) : getReqF (layF n ++ layF s ++ r) = (⟨#[]⟩, ⟨#[]⟩, 4) := by
  unfold getReqF
  rw [app_assoc, firstF_lay n _ hn, if_neg (by simp)]
  simp only
  rw [onlyF_more s r hs hr, if_pos (by simp)]

/-- Cut by a byte a text that was laid is short. -/
theorem firstF_cut (t : ByteArray) (h : t.size ≤ 60) : firstF ((layF t).extract 0 t.size) = (⟨#[]⟩, ⟨#[]⟩, 5) := by
  have hs : ((layF t).extract 0 t.size).size = t.size := by rw [ByteArray.size_extract, layF_size]; omega
  unfold firstF
  rw [hs]
  by_cases h0 : t.size = 0
  · rw [if_pos h0]
  · have hd : (((layF t).extract 0 t.size).data.toList.getD 0 0).toNat = t.size := by
      rw [Lib.extract_data, layF_data, Nat.sub_zero, List.drop_zero]
      obtain ⟨k, hk⟩ : ∃ k, t.size = k + 1 := ⟨t.size - 1, by omega⟩
      have : ((UInt8.ofNat t.size :: t.data.toList).take t.size).getD 0 0 = UInt8.ofNat t.size := by rw [hk]; rfl
      rw [this]
      simp
      omega
    rw [if_neg h0, hd, if_neg (by omega), if_pos (by omega)]
theorem onlyF_cut (t : ByteArray) (h : t.size ≤ 60) : onlyF ((layF t).extract 0 t.size) = (⟨#[]⟩, 5) := by
  unfold onlyF
  rw [firstF_cut t h, if_pos (by simp)]
theorem getReqF_cut (n s : ByteArray) (hn : n.size ≤ 60) (hs : s.size ≤ 60) (k : Nat) (hk : k + 1 = (layF n ++ layF s).size) : getReqF ((layF n ++ layF s).extract 0 k) = (⟨#[]⟩, ⟨#[]⟩, 5) := by
  have hz : k = (layF n).size + s.size := by rw [ByteArray.size_append, layF_size s] at hk; omega
  have e : (layF n ++ layF s).extract 0 k = layF n ++ (layF s).extract 0 s.size := by
    apply bytes_ext
    rw [Lib.extract_data, ByteArray.data_append, ByteArray.data_append, hz, Nat.sub_zero, List.drop_zero]
    have h1 := sizeOf_data (layF n)
    simp only [Array.toList_append]
    rw [List.take_append, h1, Nat.add_sub_cancel_left, List.take_of_length_le (by omega), Lib.extract_data, Nat.sub_zero, List.drop_zero]
  unfold getReqF
  rw [e, firstF_lay n _ hn, if_neg (by simp)]
  simp only
  rw [onlyF_cut s hs, if_pos (by simp)]
end Go.Proofs.YtndpfcanfcbldaaDoor
