/- Names and secrets in the clear, as plain functions with no Go in them; and what follows of these. · The lowest bytes of an int, as plain data. · The contract of package digest's Chap: the answer to every challenge. · The contract of the document's own Low, of one byte, at every int. · Two digests that are the same are the same by Go's comparison; and the contract of the document's own Text. · The contract of the document's own Chap: the answer to every challenge. · The contracts of the document's own Low, Two and Num (tollgateref1), at a seat without package wire. · How a packet and a list of options among the arguments are read. · How lists of structs among the arguments are read, whatever the struct (no function is named); and how great what they hold may be. · Values and names in bytes (chapter 14), a client and a server of chap, as plain functions with no Go in them; and what follows of these. · The contracts of chap's calls on bytes: isSize, isLong, lay, PutValue, GetValue; for every strings of at most 2^47 bytes. · A server and a client of chap as plain data, as the document has them, and what their calls come to. · A server and a client of chap in memory: their cells; what a server's calls come to, as plain functions. · The contracts of a server's calls: is, isResponse, ask, verdict, NewServer, Start, Tick, Judge, Again, Done. · The contracts of a server's Take and Again. · The answer to a challenge, as package digest makes it. · The contracts of a client's calls: NewClient, answer, hear, Take, Done; where digest's two tables hold what the program's text lays. · A server and a client of chap beside each other, and the steps by which a proof goes from the one to the other. · The contract of alive, of the laws of chapter 14; where digest's two tables hold what the program's text lays. · The contracts of the document's own PutValue and GetValue (tollgateref13). · The document's own server and client of chap (tollgateref13) in memory, as plain data. · The contracts of the document's own server of chap (tollgateref13): NewServer, ask, Start, Tick, say, Judge, Again. · The document's own server of chap (tollgateref13): Again, Take, NewServer. · The document's own client of chap (tollgateref13.Chap) in memory, and the contracts of NewChap and Take. · What the document's own Chap and digest.Chap come to, as the client's texts want it: Dig at chapF. · What the document's client and server tell is at most one packet; what a step leaves of a client. · How a list of steps (tollgatelaw14.Op) among the arguments is read. · The contract of tollgatelaw14's short. -/
import Derived.Test.YtndpfcanfcbldaaGreatDoorTagPlain
import Derived.Test.YtndpfcanfcbldaaGreatDoorPlain
import Derived.Test.YtndpfcanfcbldaaGreatDoorSame
import Derived.Test.YtndpfcanfcbldaaGreatDoorMd5
import Derived.Test.YtndpfcanfcbldaaGreatDoorOneConv
import Derived.DeepKeys
import Derived.Test.YtndpfcanfcbldaaGreatDoorRefMd5
import Derived.Test.YtndpfcanfcbldaaGreatDoorTagKit
import Derived.Test.YtndpfcanfcbldaaGreatDoorOpPk
import Derived.ChangeSlices
import Derived.ProofKit
import Derived.OpenShut
import Derived.SizedLaws
import Derived.Lib.SmallJoins
import Derived.Test.YtndpfcanfcbldaaGreatDoorKept
import Derived.Test.YtndpfcanfcbldaaGreatDoorClone
import Derived.Deep.RegionWith
import Derived.Test.YtndpfcanfcbldaaGreatDoorPqMem
import Derived.Deep.DeepCutAuto
import Derived.Deep.RegionHeld3
import Derived.BigQuiet
import Derived.ChangeArms
namespace Go.Proofs.YtndpfcanfcbldaaGreatDoor
open Go.RowKit

def emp : ByteArray := ⟨#[]⟩
def longB (t : ByteArray) : Bool := decide (60 < t.size)
/-- A text behind its length. -/
def layF (t : ByteArray) : ByteArray := ⟨[UInt8.ofNat t.size].toArray⟩ ++ t
def putReqF (n s : ByteArray) : ByteArray × Int := if (longB n || longB s) = true then (⟨#[]⟩, 2) else (layF n ++ layF s, 0)
def putSayF (t : ByteArray) : ByteArray × Int := if longB t = true then (⟨#[]⟩, 2) else (layF t, 0)
/-- The text at the front, and what stands behind it. -/
def firstF (b : ByteArray) : ByteArray × ByteArray × Int :=
  if b.size = 0 then (⟨#[]⟩, ⟨#[]⟩, 5) else if 60 < (b.data.toList.getD 0 0).toNat then (⟨#[]⟩, ⟨#[]⟩, 2)
  else if b.size < 1 + (b.data.toList.getD 0 0).toNat then (⟨#[]⟩, ⟨#[]⟩, 5)
  else (b.extract 1 (1 + (b.data.toList.getD 0 0).toNat), b.extract (1 + (b.data.toList.getD 0 0).toNat) b.size, 0)
def onlyF (b : ByteArray) : ByteArray × Int :=
  if (firstF b).2.2 ≠ 0 then (⟨#[]⟩, (firstF b).2.2) else if (firstF b).2.1.size ≠ 0 then (⟨#[]⟩, 4) else ((firstF b).1, 0)
def getReqF (b : ByteArray) : ByteArray × ByteArray × Int :=
  if (firstF b).2.2 ≠ 0 then (⟨#[]⟩, ⟨#[]⟩, (firstF b).2.2) else if (onlyF (firstF b).2.1).2 ≠ 0 then (⟨#[]⟩, ⟨#[]⟩, (onlyF (firstF b).2.1).2) else ((firstF b).1, (onlyF (firstF b).2.1).1, 0)
def getSayF (b : ByteArray) : ByteArray × Int := if b.size = 0 then (⟨#[]⟩, 0) else onlyF b

theorem layF_size (t : ByteArray) : (layF t).size = 1 + t.size := by unfold layF; rw [ByteArray.size_append]; rfl
theorem layF_data (t : ByteArray) : (layF t).data.toList = UInt8.ofNat t.size :: t.data.toList := by unfold layF; rw [ByteArray.data_append]; simp
theorem firstF_size (b : ByteArray) : (firstF b).1.size ≤ b.size ∧ (firstF b).2.1.size ≤ b.size := by
  unfold firstF
  split
  · exact ⟨Nat.zero_le _, Nat.zero_le _⟩
  · split
    · exact ⟨Nat.zero_le _, Nat.zero_le _⟩
    · split
      · exact ⟨Nat.zero_le _, Nat.zero_le _⟩
      · simp only [ByteArray.size_extract]
        omega
theorem longB_no {t : ByteArray} (h : longB t = false) : t.size ≤ 60 := by
  have : ¬ 60 < t.size := by simpa [longB] using h
  omega
theorem longB_yes {t : ByteArray} (h : longB t = true) : 60 < t.size := by simpa [longB] using h

theorem sizeOf_data (b : ByteArray) : b.data.toList.length = b.size := (Lib.size_eq b).symm

/-- What was laid is read, with whatever behind it. -/
theorem firstF_lay (t r : ByteArray) (h : t.size ≤ 60) : firstF (layF t ++ r) = (t, r, 0) := by
  have hd : (layF t ++ r).data.toList = UInt8.ofNat t.size :: (t.data.toList ++ r.data.toList) := by rw [ByteArray.data_append]; simp [layF_data]
  have h0 : ((layF t ++ r).data.toList.getD 0 0).toNat = t.size := by
    rw [hd]
    show (UInt8.ofNat t.size).toNat = _
    simp
    omega
  have hs : (layF t ++ r).size = 1 + t.size + r.size := by rw [ByteArray.size_append, layF_size]
  have ht : t.data.toList.length = t.size := sizeOf_data t
  unfold firstF
  rw [h0, hs, if_neg (by omega), if_neg (by omega), if_neg (by omega)]
  have e1 : (layF t ++ r).extract 1 (1 + t.size) = t := by
    apply bytes_ext
    rw [Lib.extract_data, hd, Nat.add_sub_cancel_left]
    show (t.data.toList ++ r.data.toList).take t.size = _
    rw [take_left ht]
  have e2 : (layF t ++ r).extract (1 + t.size) (1 + t.size + r.size) = r := by
    apply bytes_ext
    rw [Lib.extract_data, hd, Nat.add_sub_cancel_left, Nat.add_comm 1 t.size]
    show ((t.data.toList ++ r.data.toList).drop t.size).take r.size = _
    rw [drop_left ht, List.take_of_length_le (by rw [sizeOf_data]; exact Nat.le_refl _)]
  rw [e1, e2]

theorem bytes_nil (t : ByteArray) : t ++ (⟨#[]⟩ : ByteArray) = t := by apply bytes_ext; rw [ByteArray.data_append]; simp
theorem firstF_only (t : ByteArray) (h : t.size ≤ 60) : firstF (layF t) = (t, ⟨#[]⟩, 0) := by
  have := firstF_lay t ⟨#[]⟩ h
  rw [bytes_nil] at this
  exact this
theorem onlyF_lay (t : ByteArray) (h : t.size ≤ 60) : onlyF (layF t) = (t, 0) := by
  unfold onlyF
  rw [firstF_only t h, if_neg (by simp), if_neg (fun h => h rfl)]
theorem onlyF_more (t r : ByteArray) (h : t.size ≤ 60) (hr : r.size ≠ 0) : onlyF (layF t ++ r) = (⟨#[]⟩, 4) := by
  unfold onlyF
  rw [firstF_lay t r h, if_neg (by simp), if_pos (by exact hr)]
theorem app_assoc (a b c : ByteArray) : a ++ b ++ c = a ++ (b ++ c) := by apply bytes_ext; simp [ByteArray.data_append]
theorem getReqF_put (n s : ByteArray) (hn : n.size ≤ 60) (hs : s.size ≤ 60) : getReqF (layF n ++ layF s) = (n, s, 0) := by
  unfold getReqF
  rw [firstF_lay n (layF s) hn, if_neg (by simp)]
  simp only
  rw [onlyF_lay s hs, if_neg (by simp)]
theorem getReqF_more (n s r : ByteArray) (hn : n.size ≤ 60) (hs : s.size ≤ 60) (hr : r.size ≠ 0) : getReqF (layF n ++ layF s ++ r) = (⟨#[]⟩, ⟨#[]⟩, 4) := by
  unfold getReqF
  rw [app_assoc, firstF_lay n _ hn, if_neg (by simp)]
  simp only
  rw [onlyF_more s r hs hr, if_pos (by simp)]

/-- Cut by a byte a text that was laid is short. -/
theorem firstF_cut (t : ByteArray) (h : t.size ≤ 60) : firstF ((layF t).extract 0 t.size) = (⟨#[]⟩, ⟨#[]⟩, 5) := by
  have hs : ((layF t).extract 0 t.size).size = t.size := by rw [ByteArray.size_extract, layF_size]; omega
  unfold firstF
  rw [hs]
  by_cases h0 : t.size = 0
  · rw [if_pos h0]
  · have hd : (((layF t).extract 0 t.size).data.toList.getD 0 0).toNat = t.size := by
      rw [Lib.extract_data, layF_data, Nat.sub_zero, List.drop_zero]
      obtain ⟨k, hk⟩ : ∃ k, t.size = k + 1 := ⟨t.size - 1, by omega⟩
      have : ((UInt8.ofNat t.size :: t.data.toList).take t.size).getD 0 0 = UInt8.ofNat t.size := by rw [hk]; rfl
      rw [this]
      simp
      omega
    rw [if_neg h0, hd, if_neg (by omega), if_pos (by omega)]
theorem onlyF_cut (t : ByteArray) (h : t.size ≤ 60) : onlyF ((layF t).extract 0 t.size) = (⟨#[]⟩, 5) := by
  unfold onlyF
  rw [firstF_cut t h, if_pos (by simp)]
theorem getReqF_cut (n s : ByteArray) (hn : n.size ≤ 60) (hs : s.size ≤ 60) (k : Nat) (hk : k + 1 = (layF n ++ layF s).size) : getReqF ((layF n ++ layF s).extract 0 k) = (⟨#[]⟩, ⟨#[]⟩, 5) := by
  have hz : k = (layF n).size + s.size := by rw [ByteArray.size_append, layF_size s] at hk; omega
  have e : (layF n ++ layF s).extract 0 k = layF n ++ (layF s).extract 0 s.size := by
    apply bytes_ext
    rw [Lib.extract_data, ByteArray.data_append, ByteArray.data_append, hz, Nat.sub_zero, List.drop_zero]
    have h1 := sizeOf_data (layF n)
    simp only [Array.toList_append]
    rw [List.take_append, h1, Nat.add_sub_cancel_left, List.take_of_length_le (by omega), Lib.extract_data, Nat.sub_zero, List.drop_zero]
  unfold getReqF
  rw [e, firstF_lay n _ hn, if_neg (by simp)]
  simp only
  rw [onlyF_cut s hs, if_pos (by simp)]
end Go.Proofs.YtndpfcanfcbldaaGreatDoor

namespace Go.Proofs.YtndpfcanfcbldaaGreatDoor
open Go.RowKit

/-- The n lowest bytes of an int, the highest of them first. -/
def lowI (k : Int) : Nat → List UInt8
  | 0 => []
  | n + 1 => lowI (k / 256) n ++ [UInt8.ofNat (k % 256).toNat]
set_option maxRecDepth 100000 in
theorem lowI_length (k : Int) (n : Nat) : (lowI k n).length = n := by
  induction n generalizing k with
  | zero => rfl
  | succ n ih => simp [lowI, ih]
end Go.Proofs.YtndpfcanfcbldaaGreatDoor

namespace Go.Proofs.YtndpfcanfcbldaaGreatDoor
open Go.RowKit

def chapF (k : Int) (s c : List UInt8) : List UInt8 := md5F (lowI k 1 ++ s ++ c)
set_option maxRecDepth 100000 in
theorem chapF_length (k : Int) (s c : List UInt8) : (chapF k s c).length = 16 := md5F_length _
theorem chapF_same (k l : Int) (s c : List UInt8) (h : k % 256 = l % 256) : chapF k s c = chapF l s c := by
  unfold chapF lowI lowI
  rw [h]

set_option maxRecDepth 100000 in
set_option maxHeartbeats 1000000 in
theorem chap_any (k : Int) (s c : ByteArray) (hs : s.size ≤ 1099511627776) (hc : c.size ≤ 1099511627776) (w : World) (hT : Tables w) :
    Calls Tryz.prog 28 #[.int .i64 k, .string s, .string c] w fun e w' => e = .returned (.string ⟨(chapF k s.data.toList c.data.toList).toArray⟩) ∧ Below w.heap.size w w' := by
  obtain ⟨X, hX⟩ : ∃ X, X = UInt8.ofNat (k % 256).toNat := ⟨_, rfl⟩
  have eX : k % 256 = (X.toNat : Int) := by rw [hX, UInt8.toNat_ofNat']; omega
  have hcv := one_conv w X
  have hb0 : Below w.heap.size w (w.alloc (.cells #[.int .u8 (X.toNat : Int)] 5)) := (Below.refl _ _).alloc (Nat.le_refl _) _
  have h1 : (⟨#[X]⟩ : ByteArray).size = 1 := rfl
  have hm := md5_any (⟨#[X]⟩ ++ s ++ c) (by rw [ByteArray.size_append, ByteArray.size_append]; omega) _ (hT.next hb0)
  have e : md5F (⟨#[X]⟩ ++ s ++ c : ByteArray).data.toList = chapF k s.data.toList c.data.toList := by
    unfold chapF lowI lowI
    rw [← hX]
    congr 1
  rw [e] at hm
  have ht := text_any (chapF k s.data.toList c.data.toList) (chapF_length _ _ _)
  generalize (Lib.byteCells (chapF k s.data.toList c.data.toList)).toArray = D at hm ht
  generalize (⟨(chapF k s.data.toList c.data.toList).toArray⟩ : ByteArray) = R at ht
  have HM := hide hm
  have HX := hide ht
  have HB := hide hb0
  clear hm ht hb0 e hX hT
  go_enter Tryz.func28, Tryz.ntmps28
  go_wp2_with fail
  refine HM.out.mono ?_
  rintro e w1 ⟨rfl, hb1⟩
  go_wp2_with fail
  refine (HX.out _).mono ?_
  rintro e w2 ⟨rfl, hb2⟩
  go_wp2
  go_ret
  exact ⟨rfl, HB.out.trans ((below_next hb1 hb2).mono (by simp))⟩

end Go.Proofs.YtndpfcanfcbldaaGreatDoor

namespace Go.Proofs.YtndpfcanfcbldaaGreatDoor
open Go.RowKit

theorem made_one : madeCells (Value.int .u8 0).cells (1 * 1) = #[Value.int .u8 0] := by
  apply Array.toList_inj.1
  show (madeCells #[Value.int .u8 0] 1).toList = _
  rw [toList_madeCells_one]
  rfl

set_option maxRecDepth 100000 in
theorem setCell_bytes (bs : List UInt8) (i : Nat) (x : UInt8) : (Lib.byteCells bs).toArray.setIfInBounds i (.int .u8 (x.toNat : Int)) = (Lib.byteCells (bs.set i x)).toArray := by
  apply Array.toList_inj.1
  simp [Lib.byteCells, List.map_set]

set_option maxRecDepth 100000 in
set_option maxHeartbeats 1000000 in
theorem refLow1_any (k : Int) (w : World) :
    Calls Tryz.prog 122 #[.int .i64 k, .int .i64 1] w fun e w' => e = .returned (.string ⟨(lowI k 1).toArray⟩) ∧ Below w.heap.size w w' := by
  obtain ⟨i0, hi, hz0, hz1, hz2⟩ := info_parts dgInfo5
  have hmk : ∀ W : World, (Instr.makeSlice 141 (.int .i64 1) (.int .i64 1)).run Tryz.prog W = .ok (.slice (some ⟨W.heap.size, 0, none⟩) 1 1) (W.alloc (.cells #[.int .u8 0] 5)) := fun W => by
    have h := run_make (P := Tryz.prog) W 141 5 i0 (.int .u8 0) Tryz.underlying141 hi hz0 .i64 .i64 1 1 (by omega) (Int.le_refl _) (by rw [hz2]; omega) (by omega)
    rw [hz1, show Int.toNat 1 = 1 from rfl, made_one] at h
    exact h
  obtain ⟨X, hX⟩ : ∃ X, X = UInt8.ofNat (k % 256).toNat := ⟨_, rfl⟩
  have eX : k % 256 = (X.toNat : Int) := by rw [hX, UInt8.toNat_ofNat']; omega
  have hL : lowI k 1 = [X] := by rw [hX]; rfl
  have hcv := one_conv w X
  have HL := hide hL
  have HB := hide (show Below w.heap.size w (w.alloc (.cells #[.int .u8 (X.toNat : Int)] 5)) from (Below.refl _ _).alloc (Nat.le_refl _) _)
  clear hi hz0 hz1 hz2 hX hL
  go_enter Tryz.func122, Tryz.ntmps122
  go_wp2
  go_loopw [0, 6] (fun v i wr => (i = .int .i64 0 ∧ v = .int .i64 k ∧ wr = w.alloc (.cells #[.int .u8 0] 5)) ∨ (i = .int .i64 (-1) ∧ wr = w.alloc (.cells #[.int .u8 (X.toNat : Int)] 5))) (fun _ i _ => (intOf i + 1).toNat)
  case atStart => exact Or.inl ⟨rfl, rfl, rfl⟩
  case round =>
    rcases hrel with ⟨rfl, rfl, rfl⟩ | ⟨rfl, rfl⟩
    · go_wp2
      go_roundw
      case rel => exact Or.inr ⟨rfl, by first | rfl | trivial⟩
      case measure => simp [intOf]
    · go_wp2
      go_ret
      exact ⟨by rw [HL.out]; rfl, HB.out⟩
end Go.Proofs.YtndpfcanfcbldaaGreatDoor

namespace Go.Proofs.YtndpfcanfcbldaaGreatDoor
open Go.RowKit

theorem sixteen {l : List UInt8} (h : l.length = 16) : ∃ a0 a1 a2 a3 a4 a5 a6 a7 a8 a9 a10 a11 a12 a13 a14 a15, l = [a0, a1, a2, a3, a4, a5, a6, a7, a8, a9, a10, a11, a12, a13, a14, a15] := by
  match l, h with
  | [a0, a1, a2, a3, a4, a5, a6, a7, a8, a9, a10, a11, a12, a13, a14, a15], _ => exact ⟨a0, a1, a2, a3, a4, a5, a6, a7, a8, a9, a10, a11, a12, a13, a14, a15, rfl⟩
theorem cells5 : Tryz.prog.cellsOf 5 = 1 := by kernel_rfl
theorem cells16 : Tryz.prog.cellsOf 139 = 16 := by kernel_rfl
theorem byte_lits (d : Nat) (b : UInt8) : Tryz.prog.keyLits (d + 1) 5 [.int .u8 (b.toNat : Int)] = some [.int .u8 (b.toNat : Int)] := by
  have hb := b.toNat_lt
  have hw : (Lit.int .u8 (b.toNat : Int)).wf = true := WalkArith.wf_u8 (by omega)
  unfold Program.keyLits
  rw [Tryz.underlying5]
  simp [hw]
theorem digest_lits (d : Nat) (l : List UInt8) (h : l.length = 16) : ∃ L, Tryz.prog.keyLits (d + 2) 139 (Lib.byteCells l) = some L := by
  obtain ⟨a0, a1, a2, a3, a4, a5, a6, a7, a8, a9, a10, a11, a12, a13, a14, a15, rfl⟩ := sixteen h
  refine ⟨[.int .u8 (a0.toNat : Int), .int .u8 (a1.toNat : Int), .int .u8 (a2.toNat : Int), .int .u8 (a3.toNat : Int), .int .u8 (a4.toNat : Int), .int .u8 (a5.toNat : Int), .int .u8 (a6.toNat : Int), .int .u8 (a7.toNat : Int), .int .u8 (a8.toNat : Int), .int .u8 (a9.toNat : Int), .int .u8 (a10.toNat : Int), .int .u8 (a11.toNat : Int), .int .u8 (a12.toNat : Int), .int .u8 (a13.toNat : Int), .int .u8 (a14.toNat : Int), .int .u8 (a15.toNat : Int)], ?_⟩
  have hr : List.range 16 = [0, 1, 2, 3, 4, 5, 6, 7, 8, 9, 10, 11, 12, 13, 14, 15] := rfl
  unfold Program.keyLits
  rw [Tryz.underlying139]
  simp [cells16, cells5, Lib.byteCells, hr, byte_lits]
theorem digest_same (l : List UInt8) (h : l.length = 16) (W : World) :
    (Op.equalIn 10000 139 (.agg (Lib.byteCells l).toArray) (.agg (Lib.byteCells l).toArray)).run Tryz.prog W = .ok true W := by
  obtain ⟨L, hL⟩ := digest_lits 1 l h
  have hk : Tryz.prog.keyTypeAt 3 139 = true := by kernel_rfl
  have hf : (Value.agg (Lib.byteCells l).toArray).formed Tryz.prog 139 = true := by simp [Value.formed, Tryz.underlying139, cells16, Lib.byteCells, h]
  obtain ⟨r, hr, hiff⟩ := run_equalIn_deep (P := Tryz.prog) 9997 3 139 hk W 3 3 (.agg (Lib.byteCells l).toArray) (.agg (Lib.byteCells l).toArray) L L hf hf hL hL
  have hr' : (Op.equalIn 10000 139 (.agg (Lib.byteCells l).toArray) (.agg (Lib.byteCells l).toArray)).run Tryz.prog W = .ok r W := hr
  rw [hr', hiff.2 rfl]
theorem guard_digest (x y : Operand) (cs : Array Value) (W : World) : (eqGuard .eql 139 x y (.agg cs) (.agg cs)).run Tryz.prog W = .ok () W := by kernel_rfl

set_option maxHeartbeats 400000 in
/-- The document's 'Text(d)'. -/
theorem refText_any (l : List UInt8) (hl : l.length = 16) (w : World) :
    Calls Tryz.prog 123 #[.agg (Lib.byteCells l).toArray] w fun e w' => e = .returned (.string ⟨l.toArray⟩) ∧ Below w.heap.size w w' := by
  have hc := text_conv w l hl
  have HB := hide (show Below w.heap.size w (w.alloc (.cells (Lib.byteCells l).toArray 139)) from (Below.refl _ _).alloc (Nat.le_refl _) _)
  generalize (Lib.byteCells l).toArray = C at hc HB
  go_enter Tryz.func123, Tryz.ntmps123
  go_wp2
  go_ret
  exact ⟨rfl, HB.out⟩
end Go.Proofs.YtndpfcanfcbldaaGreatDoor

namespace Go.Proofs.YtndpfcanfcbldaaGreatDoor
open Go.RowKit

set_option maxRecDepth 100000 in
set_option maxHeartbeats 1000000 in
theorem refChap_any (k : Int) (s c : ByteArray) (hs : s.size ≤ 1099510000000) (hc : c.size ≤ 1000000) (w : World) :
    Calls Tryz.prog 34 #[.int .i64 k, .string s, .string c] w fun e w' => e = .returned (.string ⟨(chapF k s.data.toList c.data.toList).toArray⟩) ∧ Below w.heap.size w w' := by
  have hl := refLow1_any k
  obtain ⟨L, hL⟩ : ∃ L : ByteArray, L = ⟨(lowI k 1).toArray⟩ := ⟨_, rfl⟩
  rw [← hL] at hl
  have h1 : L.size = 1 := by rw [hL, Lib.size_eq]; exact lowI_length k 1
  have hm := refMd5_any (L ++ s ++ c) (by rw [ByteArray.size_append, ByteArray.size_append]; omega)
  have e : md5F (L ++ s ++ c).data.toList = chapF k s.data.toList c.data.toList := by
    unfold chapF
    rw [hL]
    congr 1
  rw [e] at hm
  have ht := refText_any (chapF k s.data.toList c.data.toList) (chapF_length _ _ _)
  generalize (Lib.byteCells (chapF k s.data.toList c.data.toList)).toArray = D at hm ht
  generalize (⟨(chapF k s.data.toList c.data.toList).toArray⟩ : ByteArray) = R at ht
  have HL := hide hl
  have HM := hide hm
  have HX := hide ht
  have h1' : L.size ≤ 1 := by omega
  clear hm ht hl e hL h1
  go_enter Tryz.func34, Tryz.ntmps34
  go_wp2_with fail
  refine (HL.out _).mono ?_
  rintro e w0 ⟨rfl, hb0⟩
  go_wp2_with fail
  refine (HM.out _).mono ?_
  rintro e w1 ⟨rfl, hb1⟩
  go_wp2_with fail
  refine (HX.out _).mono ?_
  rintro e w2 ⟨rfl, hb2⟩
  go_wp2
  go_ret
  exact ⟨rfl, below_next (below_next hb0 hb1) hb2⟩
end Go.Proofs.YtndpfcanfcbldaaGreatDoor

namespace Go.Proofs.YtndpfcanfcbldaaGreatDoor
open Go.RowKit

theorem low_top (a j : Nat) : low a (j + 1) = UInt8.ofNat (a / 256 ^ j % 256) :: low a j := by
  induction j generalizing a with
  | zero => simp [low]
  | succ j ih =>
    have e := ih (a / 256)
    show low (a / 256) (j + 1) ++ [UInt8.ofNat (a % 256)] = UInt8.ofNat (a / 256 ^ (j + 1) % 256) :: (low (a / 256) j ++ [UInt8.ofNat (a % 256)])
    rw [e, Nat.div_div_eq_div_mul, show 256 * 256 ^ j = 256 ^ (j + 1) from by rw [Nat.pow_succ, Nat.mul_comm]]
    rfl
theorem low_set (a k j : Nat) (h : j < k) :
    (Lib.byteCells (List.replicate (k - j) 0 ++ low a j)).set (k - 1 - j) (.int .u8 ((a / 256 ^ j % 256 : Nat) : Int)) = Lib.byteCells (List.replicate (k - (j + 1)) 0 ++ low a (j + 1)) := by
  have e : List.replicate (k - j) (0 : UInt8) = List.replicate (k - (j + 1)) 0 ++ [0] := by
    rw [show k - j = k - (j + 1) + 1 from by omega, List.replicate_succ']
  rw [e, low_top, List.append_assoc, Lib.byteCells_append, List.set_append_right _ _ (by simp [Lib.byteCells]; omega), Lib.byteCells_append]
  have e2 : k - 1 - j - (Lib.byteCells (List.replicate (k - (j + 1)) 0)).length = 0 := by simp [Lib.byteCells]; omega
  rw [e2]
  congr 1
  simp [Lib.byteCells]
theorem made_zero (k : Nat) : (madeCells #[Value.int .u8 0] k).toList = Lib.byteCells (List.replicate k 0) := by
  rw [toList_madeCells_one]
  simp [Lib.byteCells]
theorem low_step {base g k j a : Nat} {w wr : World} (hb : base ≤ g) (hz : base ≤ wr.heap.size) (hj : j < k) (hbel : Below base w wr)
    (hown : wr.ownsRow base 5 1 (.slice (some ⟨g, 0, none⟩) k k) k (Lib.byteCells (List.replicate (k - j) 0 ++ low a j))) :
    (wr.setCell ⟨g, k - 1 - j, none⟩ (.int .u8 ((a / 256 ^ j % 256 : Nat) : Int))).ownsRow base 5 1 (.slice (some ⟨g, 0, none⟩) k k) k (Lib.byteCells (List.replicate (k - (j + 1)) 0 ++ low a (j + 1))) ∧
    Below base w (wr.setCell ⟨g, k - 1 - j, none⟩ (.int .u8 ((a / 256 ^ j % 256 : Nat) : Int))) := by
  have h := hown.stored (k - 1 - j) (.int .u8 ((a / 256 ^ j % 256 : Nat) : Int))
  rw [low_set a k j hj] at h
  exact ⟨h.1, hbel.grown h.2 hz (fun x hx => by simp at hx; omega)⟩

set_option maxHeartbeats 1000000 in
set_option maxRecDepth 100000 in
theorem refLow_any (a : Nat) (_ha : a < 9223372036854775808) (k : Nat) (hk1 : 1 ≤ k) (hk : k ≤ 4) (w : World) :
    Calls Tryz.prog 122 #[.int .i64 (a : Int), .int .i64 (k : Int)] w fun e w' => e = .returned (.string ⟨(low a k).toArray⟩) ∧ Below w.heap.size w w' := by
  obtain ⟨i0, hi, hz0, hz1, hz2⟩ := info_parts info5
  go_enter Tryz.func122, Tryz.ntmps122
  go_wp2_with (at_make; refine wpList_make_full _ rfl _ _ 141 rfl w.heap.size 5 i0 (.int .u8 0) 1 Tryz.underlying141 hi hz0 hz1 .i64 .i64 _ _ k rfl rfl ?m0 ?m1 ?m2 ?m3 ?m4 ?_)
  case m0 => rfl
  case m1 => rfl
  case m2 => rw [hz2]; omega
  case m3 => unfold maxLen; omega
  case m4 => exact Nat.le_refl _
  intro w1 hown1 hg1
  have hb1 : Below w.heap.size w w1 := (Below.refl _ w).grown hg1 (Nat.le_refl _) (fun k hk => by cases hk)
  rw [made_zero] at hown1
  clear hg1
  go_wp2
  go_loopw [0, 6] (fun v i wr => ∃ j : Nat, j ≤ k ∧ v = .int .i64 ((a / 256 ^ j : Nat) : Int) ∧ i = .int .i64 ((k : Int) - 1 - j) ∧ wr.ownsRow w.heap.size 5 1 (.slice (some ⟨w.heap.size, 0, none⟩) k k) k (Lib.byteCells (List.replicate (k - j) 0 ++ low a j)) ∧ Below w.heap.size w wr)
    (fun _ i _ => (intOf i + 1).toNat)
  case atStart => exact ⟨0, Nat.zero_le _, by simp, by simp, by simpa [low] using hown1, hb1⟩
  case round =>
    obtain ⟨j, hj, rfl, rfl, hownr, hbel⟩ := hrel
    clear hown1 hb1
    have hle : a / 256 ^ j ≤ a := Nat.div_le_self _ _
    have HD : Hid (a / 256 ^ (j + 1) = a / 256 ^ j / 256) := by
      show a / 256 ^ (j + 1) = a / 256 ^ j / 256
      rw [Nat.div_div_eq_div_mul, Nat.pow_succ]
    by_cases hlt : j < k
    · have hc := hownr.cellAt (k - 1 - j) (by omega)
      have hf := hownr.frozenAt (k - 1 - j)
      obtain ⟨u, hu⟩ : ∃ u, (Lib.byteCells (List.replicate (k - j) 0 ++ low a j))[k - 1 - j]? = some u := by
        rw [List.getElem?_eq_getElem (by simp [Lib.byteCells, low_length]; omega)]
        exact ⟨_, rfl⟩
      rw [hu] at hc
      have R := low_step (Nat.le_refl _) hbel.size hlt hbel hownr
      generalize a / 256 ^ j = x at R hle HD
      clear hu hownr hbel
      have HR := hide R
      clear R
      go_wp2
      go_roundw
      case rel => exact ⟨j + 1, by omega, by rw [HD.out]; go_num, by go_num, HR.out.1, HR.out.2⟩
      case measure => simp [intOf]; omega
    · obtain rfl : j = k := by omega
      rw [Nat.sub_self, List.replicate_zero, List.nil_append] at hownr
      have hcv := put_conv hownr
      clear HD
      go_wp2
      go_ret
      exact ⟨rfl, hbel⟩

end Go.Proofs.YtndpfcanfcbldaaGreatDoor

namespace Go.Proofs.YtndpfcanfcbldaaGreatDoor
open Go.ChangeShapes Go.WideShapes Go.ChangeAt Go.RowKit Go.Joins

theorem laidOutO : laidOutB Tryz.prog = true := by kernel_rfl
theorem cellsPk : Tryz.prog.cellsOf 57 = 4 := by kernel_rfl
theorem cellsOpt : Tryz.prog.cellsOf 147 = 2 := by kernel_rfl
theorem cellsInt : Tryz.prog.cellsOf 3 = 1 := by kernel_rfl
theorem cellsStr : Tryz.prog.cellsOf 9 = 1 := by kernel_rfl

section
variable {H : Type} {enc : TypeId × Value → H} {w : World} {base : Nat} {spare : Nat → Bool} {held : Bool}

theorem spot_none {W : World} {g o : Nat} {sp : Option Nat} {u : Value} (h : W.cell? ((⟨g, o, sp⟩ : Addr).add 0) = some u) : sp = none := by
  unfold Addr.add at h
  cases sp with
  | none => rfl
  | some q =>
    exfalso
    unfold World.cell? at h
    split at h <;> simp at h

set_option maxRecDepth 100000 in
theorem open_opt {n : Nat} {a : Addr} {y : DataW H × List MemPlace} (h : (w.cells? base a 2).bind (DataW.trod enc Tryz.prog w base spare held n 147) = some y) :
    ∃ o : Tg, w.cell? (a.add 0) = some (.int .i64 o.type) ∧ w.cell? (a.add 1) = some (.string o.value) ∧ ∃ z, y.1 = .agg [z, .lit (.string o.value.data.toList)] := by
  rw [Option.bind_eq_some_iff] at h
  obtain ⟨cs, hc, ht⟩ := h
  obtain ⟨_, hlen, hcell⟩ := World.cells?_some hc
  obtain ⟨xs, k, hk, hxy, _, hxl, hf⟩ := DataW.trod_struct Tryz.underlying147 ht
  match xs, hxl, cs, hlen with
  | [y0, y1], _, [v0, v1], _ =>
    have g0 := hf 0 _ rfl
    have g1 := hf 1 _ rfl
    simp [cellsInt, cellsStr] at g0 g1
    obtain ⟨i0, e0, _, w0⟩ := DataW.trod_int Tryz.underlying3 g0
    obtain ⟨x, e1, hy1, _⟩ := DataW.trod_string Tryz.underlying9 g1
    simp at e0 e1
    subst e0 e1
    refine ⟨⟨i0, x⟩, by simpa using hcell 0 (by omega), by simpa using hcell 1 (by omega), y0.1, ?_⟩
    rw [hxy]
    simp [hy1]

/-- What a list's data hold of its values. -/
def Holds (l : List Tg) (d : DataW H) : Prop := l = [] ∨ ∃ es sp, d = .slice es sp ∧ ∀ (j : Nat) (x : Tg), l[j]? = some x → ∃ z, es[j]? = some (.agg [z, .lit (.string x.value.data.toList)])

set_option maxRecDepth 100000 in
theorem open_opts_in {fuel : Nat} {v : Value} {d : DataW H} {p : List MemPlace} (hf' : DataW.trod enc Tryz.prog w base spare held fuel 55 [v] = some (d, p)) : ∃ l : List Tg, TagsAt w v l ∧ l.length ≤ maxLen ∧ Holds l d := by
  rcases DataW.trod_slice Tryz.underlying55 hf' with ⟨hcs, _⟩ | ⟨a', len, cap, elems, rest, n, _, hcs, hx, hb, hl, hm, hlen, hel, _, _⟩
  · obtain rfl := List.singleton_inj.1 hcs
    exact ⟨[], Or.inl ⟨rfl, _, _, rfl⟩, Nat.zero_le _, Or.inl rfl⟩
  · obtain rfl := List.singleton_inj.1 hcs
    have each : ∀ i, ∃ o : Tg, i < len → w.cell? ((a'.add (i * 2)).add 0) = some (.int .i64 o.type) ∧ w.cell? ((a'.add (i * 2)).add 1) = some (.string o.value) ∧ ∃ z, (elems.map (·.1))[i]? = some (.agg [z, .lit (.string o.value.data.toList)]) := fun i => by
      by_cases hi : i < len
      · have h1 := hel i hi
        rw [cellsOpt] at h1
        obtain ⟨y, hy⟩ : ∃ y, elems[i]? = some y := ⟨elems[i]'(by omega), by simp⟩
        rw [hy] at h1
        obtain ⟨o, h2, h3, z, h4⟩ := open_opt h1
        exact ⟨o, fun _ => ⟨h2, h3, z, by rw [List.getElem?_map, hy, ← h4]; rfl⟩⟩
      · exact ⟨⟨0, ⟨#[]⟩⟩, fun h => absurd h hi⟩
    obtain ⟨F, hF⟩ := skolem1 each
    refine ⟨(List.range len).map F, ?_, by simp; omega, ?_⟩
    · obtain ⟨g, o, sp⟩ := a'
      cases len with
      | zero => exact Or.inl ⟨rfl, some ⟨g, o, sp⟩, cap, rfl⟩
      | succ m =>
        have h0 := (hF 0 (by omega)).1
        have hsp : sp = none := by
          have h00 : w.cell? ((⟨g, o, sp⟩ : Addr).add 0) = some (.int .i64 (F 0).type) := by
            have e : ((⟨g, o, sp⟩ : Addr).add (0 * 2)).add 0 = (⟨g, o, sp⟩ : Addr).add 0 := by
              rw [Nat.zero_mul]
              unfold Addr.add
              simp
            rw [← e]
            exact h0
          exact spot_none h00
        subst hsp
        refine Or.inr ⟨g, o, cap, by simp, by simpa using hl, hm, fun j x hj => ?_⟩
        have hjl : j < m + 1 := by
          have := (List.getElem?_eq_some_iff.1 hj).1
          simpa using this
        have hx : x = F j := by
          rw [List.getElem?_map, List.getElem?_range hjl] at hj
          simpa using hj.symm
        subst hx
        obtain ⟨k1, k2, _⟩ := hF j hjl
        simp only [add_none] at k1 k2
        exact ⟨k1, k2⟩
    · have hd : d = .slice (elems.map (·.1)) (rest.map (·.1)) := congrArg Prod.fst hx
      refine Or.inr ⟨_, _, hd, fun j x hj => ?_⟩
      have hjl : j < len := by
        have := (List.getElem?_eq_some_iff.1 hj).1
        simpa using this
      have hx : x = F j := by
        rw [List.getElem?_map, List.getElem?_range hjl] at hj
        simpa using hj.symm
      subst hx
      exact (hF j hjl).2.2

set_option maxRecDepth 100000 in
theorem open_opts {r : Reach} {b0 : Nat} {v : Value} {d : DataW H} {p : List MemPlace} (hv : Value.okWide Tryz.prog w r b0 55 v) (h : DataW.Trod enc Tryz.prog w base spare held 55 v d p) : ∃ l : List Tg, TagsAt w v l ∧ l.length ≤ maxLen ∧ Holds l d := by
  obtain ⟨a, len, cap, rfl⟩ := okWide_slice Tryz.underlying55 hv
  obtain ⟨fuel, hf⟩ := h
  have hf' : DataW.trod enc Tryz.prog w base spare held fuel 55 [.slice a len cap] = some (d, p) := by simpa [Value.cells] using hf
  exact open_opts_in hf'

set_option maxRecDepth 100000 in
theorem open_pack {r : Reach} {b0 : Nat} {v : Value} {d : DataW H} {p : List MemPlace} (hv : Value.okWide Tryz.prog w r b0 57 v) (h : DataW.Trod enc Tryz.prog w base spare held 57 v d p) :
    ∃ (c i : Int) (u : Value) (l : List Tg) (x : ByteArray), v = pkV c i u x ∧ TagsAt w u l ∧ l.length ≤ maxLen ∧ ∃ y0 y1 y2, d = .agg [y0, y1, y2, .lit (.string x.data.toList)] ∧ Holds l y2 := by
  obtain ⟨c0, c1, c2, c3, y0, y1, y2, y3, n, rfl, hd, _, h0, h1, h2, h3⟩ := open_agg4 Tryz.underlying57 (by kernel_rfl) cellsPk hv h
  obtain ⟨c, e0, hy0, _⟩ := DataW.trod_int Tryz.underlying3 h0
  obtain ⟨i, e1, hy1, _⟩ := DataW.trod_int Tryz.underlying3 h1
  obtain ⟨x, e3, hy3, _⟩ := DataW.trod_string Tryz.underlying9 h3
  simp at e0 e1 e3
  subst e0 e1 e3
  obtain ⟨l, hl, hm, hH⟩ := open_opts_in (d := y2.1) (p := y2.2) h2
  exact ⟨c, i, c2, l, x, rfl, hl, hm, _, _, _, by rw [hd, hy3], hH⟩

theorem weightsAll_mem {P : Program} {e : TypeId} : ∀ {l : List (DataW H)} {d : DataW H}, d ∈ l → ∀ n ∈ d.weights P e, n ∈ DataW.weightsAll P e l
  | a :: l, d, h, n, hn => by
    simp only [DataW.weightsAll, List.mem_append]
    rcases List.mem_cons.1 h with rfl | h
    · exact Or.inl hn
    · exact Or.inr (weightsAll_mem h n hn)

set_option maxRecDepth 100000 in
theorem sized_opts {ts : List TypeId} {ds : List (DataW H)} (h : (DataW.weightsEach Tryz.prog ts ds).all (· ≤ reachBytes) = true) {j : Nat} {d : DataW H} {l : List Tg} (ht : ts[j]? = some 55) (hd : ds[j]? = some d) (hl : Holds l d) :
    ∀ x ∈ l, x.value.size ≤ 140737488351232 := by
  intro x hx
  rcases hl with rfl | ⟨es, sp, rfl, he⟩
  · simp at hx
  · obtain ⟨i, hi⟩ := List.getElem?_of_mem hx
    obtain ⟨z, hz⟩ := he i x hi
    have hm1 : x.value.data.toList.length ∈ DataW.weights Tryz.prog 147 (.agg [z, .lit (.string x.value.data.toList)] : DataW H) := by
      simp only [DataW.weights, Tryz.underlying147]
      exact DataW.weights_mem_each (j := 1) (t := 9) (d := .lit (.string x.value.data.toList)) rfl rfl _ (by simp [DataW.weights])
    have hm : x.value.data.toList.length ∈ DataW.weights Tryz.prog 55 (.slice es sp : DataW H) := by
      simp only [DataW.weights, Tryz.underlying55, List.mem_cons, List.mem_append]
      exact Or.inr (Or.inl (weightsAll_mem (List.mem_of_getElem? hz) _ hm1))
    have := List.all_eq_true.1 h _ (DataW.weights_mem_each ht hd _ hm)
    have h2 : x.value.data.toList.length ≤ reachBytes := by simpa using this
    rw [Lib.size_eq]
    exact h2

set_option maxRecDepth 100000 in
theorem sized_pack {ts : List TypeId} {ds : List (DataW H)} (h : (DataW.weightsEach Tryz.prog ts ds).all (· ≤ reachBytes) = true) {j : Nat} {y0 y1 y2 : DataW H} {x : ByteArray} {l : List Tg}
    (ht : ts[j]? = some 57) (hd : ds[j]? = some (.agg [y0, y1, y2, .lit (.string x.data.toList)])) (hl : Holds l y2) : x.size ≤ 140737488351232 ∧ ∀ z ∈ l, z.value.size ≤ 140737488351232 := by
  constructor
  · have hm : x.data.toList.length ∈ DataW.weights Tryz.prog 57 (.agg [y0, y1, y2, .lit (.string x.data.toList)] : DataW H) := by
      simp only [DataW.weights, Tryz.underlying57]
      exact DataW.weights_mem_each (j := 3) (t := 9) (d := .lit (.string x.data.toList)) rfl rfl _ (by simp [DataW.weights])
    have := List.all_eq_true.1 h _ (DataW.weights_mem_each ht hd _ hm)
    have h2 : x.data.toList.length ≤ reachBytes := by simpa using this
    rw [Lib.size_eq]
    exact h2
  · intro x' hx
    rcases hl with rfl | ⟨es, sp, rfl, he⟩
    · simp at hx
    · obtain ⟨i, hi⟩ := List.getElem?_of_mem hx
      obtain ⟨z, hz⟩ := he i x' hi
      have hm1 : x'.value.data.toList.length ∈ DataW.weights Tryz.prog 147 (.agg [z, .lit (.string x'.value.data.toList)] : DataW H) := by
        simp only [DataW.weights, Tryz.underlying147]
        exact DataW.weights_mem_each (j := 1) (t := 9) (d := .lit (.string x'.value.data.toList)) rfl rfl _ (by simp [DataW.weights])
      have hm2 : x'.value.data.toList.length ∈ DataW.weights Tryz.prog 55 (.slice es sp : DataW H) := by
        simp only [DataW.weights, Tryz.underlying55, List.mem_cons, List.mem_append]
        exact Or.inr (Or.inl (weightsAll_mem (List.mem_of_getElem? hz) _ hm1))
      have hm : x'.value.data.toList.length ∈ DataW.weights Tryz.prog 57 (.agg [y0, y1, .slice es sp, .lit (.string x.data.toList)] : DataW H) := by
        simp only [DataW.weights, Tryz.underlying57]
        exact DataW.weights_mem_each (j := 2) (t := 55) (d := .slice es sp) rfl rfl _ hm2
      have := List.all_eq_true.1 h _ (DataW.weights_mem_each ht hd _ hm)
      have h2 : x'.value.data.toList.length ≤ reachBytes := by simpa using this
      rw [Lib.size_eq]
      exact h2
end
end Go.Proofs.YtndpfcanfcbldaaGreatDoor

namespace Go.Proofs.YtndpfcanfcbldaaGreatDoor
open Go.ChangeShapes Go.WideShapes Go.ChangeAt Go.RowKit Go.Joins

/-- A list in memory, to be read: K cells each. -/
def RowsAt {α : Type} (W : World) (K : Nat) (cells : α → List Value) (v : Value) (l : List α) : Prop :=
  (l = [] ∧ ∃ p cap, v = .slice p 0 cap) ∨ ∃ g o cap, v = .slice (some ⟨g, o, none⟩) l.length cap ∧ l.length ≤ cap ∧ cap ≤ maxLen ∧
    ∀ j x, l[j]? = some x → ∀ i u, (cells x)[i]? = some u → W.cell? ⟨g, o + j * K + i, none⟩ = some u
section
variable {α : Type} {K : Nat} {cells : α → List Value}
theorem RowsAt.slice {W : World} {v : Value} {l : List α} (h : RowsAt W K cells v l) : ∃ p cap, v = .slice p l.length cap := by
  rcases h with ⟨rfl, p, cap, rfl⟩ | ⟨g, o, cap, rfl, _⟩
  · exact ⟨p, cap, rfl⟩
  · exact ⟨_, cap, rfl⟩
theorem RowsAt.kept {S : Nat → Prop} {W W' : World} {v : Value} {l : List α} (h : RowsAt W K cells v l) (hk : Kept S W W') (hS : ∀ i, i < W.heap.size → S i → v.ownBlock ≠ some i) : RowsAt W' K cells v l := by
  rcases h with ⟨rfl, p, cap, rfl⟩ | ⟨g, o, cap, rfl, h1, h2, hc⟩
  · exact Or.inl ⟨rfl, p, cap, rfl⟩
  · refine Or.inr ⟨g, o, cap, rfl, h1, h2, fun j x hj i u hu => ?_⟩
    have c := hc j x hj i u hu
    have hlt := lt_of_cell c
    exact (hk.cell (p := ⟨g, o + j * K + i, none⟩) hlt (fun hs => hS g hlt hs rfl)).trans c
theorem RowsAt.kept0 {W W' : World} {v : Value} {l : List α} (h : RowsAt W K cells v l) (hk : Kept (fun _ => False) W W') : RowsAt W' K cells v l := h.kept hk (fun _ _ h => h.elim)
theorem RowsAt.at {W : World} {p : Option Addr} {n cap : Nat} {l : List α} (h : RowsAt W K cells (.slice p n cap) l) {j : Nat} {x : α} (hj : l[j]? = some x) :
    ∃ g o, p = some ⟨g, o, none⟩ ∧ n ≤ cap ∧ ∀ i u, (cells x)[i]? = some u → W.cell? ⟨g, o + j * K + i, none⟩ = some u := by
  rcases h with ⟨rfl, _⟩ | ⟨g, o, cap', e, hle, _, hc⟩
  · simp at hj
  · simp only [Value.slice.injEq] at e
    obtain ⟨rfl, rfl, rfl⟩ := e
    exact ⟨g, o, rfl, hle, hc j x hj⟩
end

section
variable {H : Type} {enc : TypeId × Value → H} {P : Program} {w : World} {base : Nat} {spare : Nat → Bool} {held : Bool}

theorem spot_no {W : World} {g o : Nat} {sp : Option Nat} {u : Value} (h : W.cell? ((⟨g, o, sp⟩ : Addr).add 0) = some u) : sp = none := by
  unfold Addr.add at h
  cases sp with
  | none => rfl
  | some q =>
    exfalso
    unfold World.cell? at h
    split at h <;> simp at h

/-- What a list's data hold, element by element. -/
def HoldsBy {α : Type} (R : α → DataW H → Prop) (l : List α) (d : DataW H) : Prop := l = [] ∨ ∃ es sp, d = .slice es sp ∧ ∀ (j : Nat) (x : α), l[j]? = some x → ∃ y, es[j]? = some y ∧ R x y

theorem open_rows {α : Type} {t e : TypeId} {K fuel : Nat} (cells : α → List Value) (R : α → DataW H → Prop) (hu : P.underlying t = some (.slice e)) (hK : P.cellsOf e = K) (x0 : α) (hc0 : ∀ x, 0 < (cells x).length)
    (each : ∀ n cs y, cs.length = K → DataW.trod enc P w base spare held n e cs = some y → ∃ x : α, cs = cells x ∧ R x y.1)
    {v : Value} {d : DataW H} {p : List MemPlace} (hf : DataW.trod enc P w base spare held fuel t [v] = some (d, p)) :
    ∃ l : List α, RowsAt w K cells v l ∧ l.length ≤ maxLen ∧ HoldsBy R l d ∧ ∀ n cap, v = .slice none n cap → cap = 0 := by
  rcases DataW.trod_slice hu hf with ⟨hcs, _⟩ | ⟨a', len, cap, elems, rest, n, _, hcs, hx, hb, hl, hm, hlen, hel, _, _⟩
  · obtain rfl := List.singleton_inj.1 hcs
    exact ⟨[], Or.inl ⟨rfl, _, _, rfl⟩, Nat.zero_le _, Or.inl rfl, fun n cap e => by simp at e; omega⟩
  · obtain rfl := List.singleton_inj.1 hcs
    have ech : ∀ i, ∃ o : α, i < len → (∀ q u, (cells o)[q]? = some u → w.cell? ((a'.add (i * K)).add q) = some u) ∧ ∃ y, (elems.map (·.1))[i]? = some y ∧ R o y := fun i => by
      by_cases hi : i < len
      · have h1 := hel i hi
        rw [hK] at h1
        obtain ⟨y, hy⟩ : ∃ y, elems[i]? = some y := ⟨elems[i]'(by omega), by simp⟩
        rw [hy, Option.bind_eq_some_iff] at h1
        obtain ⟨cs, hc, ht⟩ := h1
        obtain ⟨_, hcl, hcell⟩ := World.cells?_some hc
        obtain ⟨o, e, hR⟩ := each n cs y hcl ht
        refine ⟨o, fun _ => ⟨fun q u hq => ?_, y.1, by rw [List.getElem?_map, hy]; rfl, hR⟩⟩
        subst e
        have hql := (List.getElem?_eq_some_iff.1 hq).1
        have := hcell q (by omega)
        rw [this]
        exact hq
      · exact ⟨x0, fun h => absurd h hi⟩
    obtain ⟨F, hF⟩ := skolem1 ech
    refine ⟨(List.range len).map F, ?_, by simp; omega, ?_, fun n cap e => by simp at e⟩
    · obtain ⟨g, o, sp⟩ := a'
      cases len with
      | zero => exact Or.inl ⟨rfl, some ⟨g, o, sp⟩, cap, rfl⟩
      | succ m =>
        obtain ⟨u0, hu0⟩ : ∃ u, (cells (F 0))[0]? = some u := ⟨(cells (F 0))[0]'(hc0 _), by simp⟩
        have h0 := (hF 0 (by omega)).1 0 _ hu0
        have hsp : sp = none := by
          have e : ((⟨g, o, sp⟩ : Addr).add (0 * K)).add 0 = (⟨g, o, sp⟩ : Addr).add 0 := by
            rw [Nat.zero_mul]
            unfold Addr.add
            simp
          rw [e] at h0
          exact spot_no h0
        subst hsp
        refine Or.inr ⟨g, o, cap, by simp, by simpa using hl, hm, fun j x hj q u hq => ?_⟩
        have hjl : j < m + 1 := by
          have := (List.getElem?_eq_some_iff.1 hj).1
          simpa using this
        have hx : x = F j := by
          rw [List.getElem?_map, List.getElem?_range hjl] at hj
          simpa using hj.symm
        subst hx
        have k1 := (hF j hjl).1 q u hq
        simp only [Addr.add_lit] at k1
        exact k1
    · have hd : d = .slice (elems.map (·.1)) (rest.map (·.1)) := congrArg Prod.fst hx
      refine Or.inr ⟨_, _, hd, fun j x hj => ?_⟩
      have hjl : j < len := by
        have := (List.getElem?_eq_some_iff.1 hj).1
        simpa using this
      have hx : x = F j := by
        rw [List.getElem?_map, List.getElem?_range hjl] at hj
        simpa using hj.symm
      subst hx
      exact (hF j hjl).2

/-- What data hold is no greater than may be. -/
def Wt (P : Program) (t : TypeId) (d : DataW H) : Prop := ∀ n ∈ d.weights P t, n ≤ reachBytes
theorem wt_arg {ts : List TypeId} {ds : List (DataW H)} (h : (DataW.weightsEach P ts ds).all (· ≤ reachBytes) = true) {j : Nat} {t : TypeId} {d : DataW H} (ht : ts[j]? = some t) (hd : ds[j]? = some d) : Wt P t d := fun n hn => by
  have := List.all_eq_true.1 h _ (DataW.weights_mem_each ht hd n hn)
  simpa using this
theorem wt_all {e : TypeId} : ∀ {l : List (DataW H)} {d : DataW H}, d ∈ l → ∀ n ∈ d.weights P e, n ∈ DataW.weightsAll P e l
  | a :: l, d, h, n, hn => by
    simp only [DataW.weightsAll, List.mem_append]
    rcases List.mem_cons.1 h with rfl | h
    · exact Or.inl hn
    · exact Or.inr (wt_all h n hn)
theorem wt_slice {t e : TypeId} {es sp : List (DataW H)} {y : DataW H} (h : Wt P t (.slice es sp)) (hu : P.underlying t = some (.slice e)) (hy : y ∈ es) : Wt P e y := fun n hn => h n (by
  simp only [DataW.weights, hu, List.mem_cons, List.mem_append]
  exact Or.inr (Or.inl (wt_all hy n hn)))
theorem wt_field {t : TypeId} {fs : Array Field} {ds : List (DataW H)} {j : Nat} {f : Field} {d : DataW H} (h : Wt P t (.agg ds)) (hu : P.underlying t = some (.struct fs)) (hf : fs[j]? = some f) (hd : ds[j]? = some d) : Wt P f.type d := fun n hn => h n (by
  simp only [DataW.weights, hu]
  refine DataW.weights_mem_each (j := j) (t := f.type) (d := d) ?_ hd n hn
  rw [List.getElem?_map, Array.getElem?_toList, hf]
  rfl)
theorem wt_string {t : TypeId} {x : ByteArray} (h : Wt P t (.lit (.string x.data.toList) : DataW H)) : x.size ≤ 140737488351232 := by
  have := h x.data.toList.length (by simp [DataW.weights])
  rw [Lib.size_eq]
  exact this
theorem wt_list {α : Type} {R : α → DataW H → Prop} {t e : TypeId} {l : List α} {d : DataW H} (h : Wt P t d) (hu : P.underlying t = some (.slice e)) (hl : HoldsBy R l d) : ∀ x ∈ l, ∃ y, R x y ∧ Wt P e y := fun x hx => by
  rcases hl with rfl | ⟨es, sp, rfl, he⟩
  · cases hx
  · obtain ⟨j, hj⟩ := List.getElem?_of_mem hx
    obtain ⟨y, hy, hr⟩ := he j x hj
    exact ⟨y, hr, wt_slice h hu (List.mem_of_getElem? hy)⟩
end
end Go.Proofs.YtndpfcanfcbldaaGreatDoor

namespace Go.Proofs.YtndpfcanfcbldaaGreatDoor
open Go.RowKit

def putValF (v n : ByteArray) : ByteArray × Int := if v.size < 1 ∨ 60 < v.size then (⟨#[]⟩, 1) else if 60 < n.size then (⟨#[]⟩, 2) else (layF v ++ n, 0)
def getValF (b : ByteArray) : ByteArray × ByteArray × Int :=
  if b.size = 0 then (⟨#[]⟩, ⟨#[]⟩, 5)
  else if (b.data.toList.getD 0 0).toNat < 1 ∨ 60 < (b.data.toList.getD 0 0).toNat then (⟨#[]⟩, ⟨#[]⟩, 1)
  else if b.size < 1 + (b.data.toList.getD 0 0).toNat then (⟨#[]⟩, ⟨#[]⟩, 5)
  else if 61 + (b.data.toList.getD 0 0).toNat < b.size then (⟨#[]⟩, ⟨#[]⟩, 2)
  else (b.extract 1 (1 + (b.data.toList.getD 0 0).toNat), b.extract (1 + (b.data.toList.getD 0 0).toNat) b.size, 0)

theorem putValF_ok {v n : ByteArray} (h1 : 1 ≤ v.size) (h2 : v.size ≤ 60) (h3 : n.size ≤ 60) : putValF v n = (layF v ++ n, 0) := by
  unfold putValF
  rw [if_neg (by omega), if_neg (by omega)]
theorem putValF_is {v n : ByteArray} (h : (putValF v n).2 = 0) : 1 ≤ v.size ∧ v.size ≤ 60 ∧ n.size ≤ 60 := by
  unfold putValF at h
  by_cases h1 : v.size < 1 ∨ 60 < v.size
  · rw [if_pos h1] at h
    exact absurd h (by decide)
  · rw [if_neg h1] at h
    by_cases h2 : 60 < n.size
    · rw [if_pos h2] at h
      exact absurd h (by decide)
    · omega

/-- What was put is got. -/
theorem getValF_put (v n : ByteArray) (h1 : 1 ≤ v.size) (h2 : v.size ≤ 60) (h3 : n.size ≤ 60) : getValF (layF v ++ n) = (v, n, 0) := by
  have hf := firstF_lay v n h2
  have hd : (layF v ++ n).data.toList = UInt8.ofNat v.size :: (v.data.toList ++ n.data.toList) := by rw [ByteArray.data_append]; simp [layF_data]
  have h0 : ((layF v ++ n).data.toList.getD 0 0).toNat = v.size := by
    rw [hd]
    show (UInt8.ofNat v.size).toNat = _
    simp
    omega
  have hs : (layF v ++ n).size = 1 + v.size + n.size := by rw [ByteArray.size_append, layF_size]
  unfold firstF at hf
  unfold getValF
  rw [h0, hs] at hf ⊢
  rw [if_neg (by omega), if_neg (by omega), if_neg (by omega)] at hf
  rw [if_neg (by omega), if_neg (by omega), if_neg (by omega), if_neg (by omega)]
  exact hf
theorem getValF_size (b : ByteArray) : (getValF b).1.size ≤ 60 ∧ (getValF b).2.1.size ≤ 60 := by
  unfold getValF
  split
  · exact ⟨Nat.zero_le _, Nat.zero_le _⟩
  · split
    · exact ⟨Nat.zero_le _, Nat.zero_le _⟩
    · split
      · exact ⟨Nat.zero_le _, Nat.zero_le _⟩
      · split
        · exact ⟨Nat.zero_le _, Nat.zero_le _⟩
        · simp only [ByteArray.size_extract]
          omega
end Go.Proofs.YtndpfcanfcbldaaGreatDoor

namespace Go.Proofs.YtndpfcanfcbldaaGreatDoor
open Go.RowKit

theorem ca_has {s : ByteArray} (h : s.size ≠ 0) : s.toList.isEmpty = false := by
  rw [List.isEmpty_eq_false_iff]
  intro e
  rw [ByteArray.toList_eq] at e
  exact h (by rw [Lib.size_eq, e]; rfl)

def sizeB (n : Int) : Bool := decide (1 ≤ n) && decide (n ≤ 60)

set_option maxRecDepth 100000 in
theorem caSize_any (n : Int) (w : World) : Calls Tryz.prog 110 #[.int .i64 n] w fun e w' => e = .returned (.bool (sizeB n)) ∧ w' = w := by
  unfold sizeB
  by_cases h1 : 1 ≤ n
  · by_cases h2 : n ≤ 60
    · rw [show (decide (1 ≤ n) && decide (n ≤ 60)) = true by simp [h1, h2]]
      go_enter Tryz.func110, Tryz.ntmps110
      go_wp2
      go_ret
      exact ⟨rfl, rfl⟩
    · rw [show (decide (1 ≤ n) && decide (n ≤ 60)) = false by simp [h2]]
      go_enter Tryz.func110, Tryz.ntmps110
      go_wp2
      go_ret
      exact ⟨rfl, rfl⟩
  · rw [show (decide (1 ≤ n) && decide (n ≤ 60)) = false by simp [h1]]
    go_enter Tryz.func110, Tryz.ntmps110
    go_wp2
    go_ret
    exact ⟨rfl, rfl⟩
theorem sizeB_no {n : Int} (h : n < 1 ∨ 60 < n) : sizeB n = false := by
  unfold sizeB
  rcases h with h | h
  · simp [show ¬ 1 ≤ n by omega]
  · simp [show ¬ n ≤ 60 by omega]
theorem sizeB_yes {n : Int} (h1 : 1 ≤ n) (h2 : n ≤ 60) : sizeB n = true := by simp [sizeB, h1, h2]

set_option maxRecDepth 100000 in
theorem caLong_any (t : ByteArray) (ht : t.size ≤ 140737488351232) (w : World) : Calls Tryz.prog 29 #[.string t] w fun e w' => e = .returned (.bool (longB t)) ∧ w' = w := by
  cases h : longB t with
  | true =>
    have h' : (60 : Int) < (t.size : Int) := by have := longB_yes h; omega
    clear h
    go_enter Tryz.func29, Tryz.ntmps29
    go_wp2
    go_ret
    exact ⟨rfl, rfl⟩
  | false =>
    have h' : ¬ (60 : Int) < (t.size : Int) := by have := longB_no h; omega
    clear h
    go_enter Tryz.func29, Tryz.ntmps29
    go_wp2
    go_ret
    exact ⟨rfl, rfl⟩

set_option maxRecDepth 100000 in
theorem caLay_any (v n : ByteArray) (hv : v.size ≤ 60) (hn : n.size ≤ 60) (w : World) : Calls Tryz.prog 121 #[.string v, .string n] w fun e w' => e = .returned (.string (layF v ++ n)) ∧ Kept (fun _ => False) w w' := by
  have hown : (w.alloc (.cells #[.int .u8 (v.size : Int)] 5)).ownsRow w.heap.size 5 1 (.slice (some ⟨w.heap.size, 0, none⟩) 1 1) 1 (Lib.byteCells [UInt8.ofNat v.size]) := by
    have e : Lib.byteCells [UInt8.ofNat v.size] = [Value.int .u8 (v.size : Int)] := by simp [Lib.byteCells]; omega
    rw [e]
    exact ⟨rfl, Or.inr ⟨w.heap.size, 1, #[.int .u8 (v.size : Int)], rfl, Nat.le_refl _, heap_alloc_new w _, Nat.le_refl _, by unfold maxLen; omega, rfl, rfl⟩⟩
  have hcv := put_conv hown
  have hwr : (v.size : Int) % 256 = (v.size : Int) := by omega
  have z1 : (⟨[UInt8.ofNat v.size].toArray⟩ : ByteArray).size = 1 := rfl
  have hno : ¬ (9223372036854775807 < (⟨[UInt8.ofNat v.size].toArray⟩ : ByteArray).size + v.size) := by omega
  have hno2 : ¬ (9223372036854775807 < ((⟨[UInt8.ofNat v.size].toArray⟩ : ByteArray) ++ v).size + n.size) := by rw [ByteArray.size_append]; omega
  unfold layF
  clear z1
  generalize (⟨[UInt8.ofNat v.size].toArray⟩ : ByteArray) = X at *
  clear hown
  go_enter Tryz.func121, Tryz.ntmps121
  go_wp2
  go_ret
  exact ⟨rfl, (Kept.refl _ w).alloc _⟩


set_option maxHeartbeats 1000000 in
set_option maxRecDepth 100000 in
theorem getVal_any (b : ByteArray) (hb : b.size ≤ 140737488351232) (w : World) :
    Calls Tryz.prog 118 #[.string b] w fun e w' => e = .returned (.tuple #[.string (getValF b).1, .string (getValF b).2.1, .int .i64 (getValF b).2.2]) ∧ Kept (fun _ => False) w w' := by
  unfold getValF
  by_cases h0 : b.size = 0
  · obtain rfl := str_nil b h0
    rw [if_pos h0]
    clear h0
    go_enter Tryz.func118, Tryz.ntmps118
    go_wp2
    go_ret3
    exact ⟨rfl, Kept.refl _ _⟩
  · rw [if_neg h0]
    have hne := ca_has h0
    have hne0 : ¬ b.toList = [] := by rw [← List.isEmpty_iff, hne]; simp
    have x0 := index_at b 0 (by omega) 0 rfl
    have x1 := last_at b 1 (by omega) 1 rfl
    have bA := (b.data.toList.getD 0 0).toNat_lt
    generalize (b.data.toList.getD 0 0).toNat = n at *
    have hwB : IntKind.i64.wrap (n : Int) = (n : Int) := by rw [IntKind.wrap_i64]; omega
    have hsz : (b.extract 1 b.size).size = b.size - 1 := by rw [ByteArray.size_extract]; omega
    have L1 := hid (caSize_any (n : Int))
    by_cases h1 : n < 1 ∨ 60 < n
    · rw [if_pos h1]
      rw [sizeB_no (by omega)] at L1
      clear h0 h1
      go_enter Tryz.func118, Tryz.ntmps118
      go_wp2
      go_region
      all_goals
        go_wp2_with fail
        refine (L1.out _).mono ?_
        rintro e w1 ⟨rfl, hw⟩
        rw [hw]
        clear hw w1
        go_wp2
        go_ret3
        exact ⟨rfl, (Kept.refl _ _).drew⟩
    · rw [if_neg h1]
      rw [sizeB_yes (by omega) (by omega)] at L1
      by_cases h2 : b.size < 1 + n
      · rw [if_pos h2]
        generalize b.extract 1 b.size = Y at *
        have h2z : (Y.size : Int) < (n : Int) := by omega
        clear h0 hsz h1 h2
        go_enter Tryz.func118, Tryz.ntmps118
        go_wp2
        go_region
        all_goals
          go_wp2_with fail
          refine (L1.out _).mono ?_
          rintro e w1 ⟨rfl, hw⟩
          rw [hw]
          clear hw w1
          go_wp2
          go_ret3
          exact ⟨rfl, (Kept.refl _ _).drew⟩
      · rw [if_neg h2]
        have e1 : (b.extract 1 b.size).extract 0 n = b.extract 1 (1 + n) := by
          apply bytes_ext
          simp only [Lib.extract_data, Nat.sub_zero, List.drop_zero, List.take_take]
          congr 1
          omega
        have e2 : (b.extract 1 b.size).extract n (b.extract 1 b.size).size = b.extract (1 + n) b.size := by
          apply bytes_ext
          rw [sub_data, sub_data, sub_data, List.drop_drop]
        have y1 := first_at (b.extract 1 b.size) n (by omega) (n : Int) rfl
        have y2 := last_at (b.extract 1 b.size) n (by omega) (n : Int) rfl
        rw [e1] at y1
        rw [e2] at y2
        have zR : (b.extract (1 + n) b.size).size = b.size - 1 - n := by rw [ByteArray.size_extract]; omega
        have HC := hid (clone_any (b.extract 1 (1 + n)) · (by rw [ByteArray.size_extract]; omega))
        have HD := hid (clone_any (b.extract (1 + n) b.size) · (by rw [ByteArray.size_extract]; omega))
        have L2 := hid (caLong_any (b.extract (1 + n) b.size) (by omega))
        generalize b.extract 1 b.size = Y at *
        generalize b.extract 1 (1 + n) = P at *
        generalize b.extract (1 + n) b.size = R at *
        have h2z : ¬ (Y.size : Int) < (n : Int) := by omega
        by_cases h3 : 61 + n < b.size
        · rw [if_pos h3]
          rw [show longB R = true by simp [longB]; omega] at L2
          clear h0 hsz e1 e2 zR h1 h2 h3 HC HD
          go_enter Tryz.func118, Tryz.ntmps118
          go_wp2
          go_region
          all_goals
            go_wp2_with fail
            refine (L1.out _).mono ?_
            rintro e w1 ⟨rfl, hw⟩
            rw [hw]
            clear hw w1
            go_wp2
            go_region
            all_goals
              go_wp2_with fail
              refine (L2.out _).mono ?_
              rintro e w1 ⟨rfl, hw⟩
              rw [hw]
              clear hw w1
              go_wp2
              go_ret3
              exact ⟨rfl, (Kept.refl _ _).drew.drew⟩
        · rw [if_neg h3]
          rw [show longB R = false by simp [longB]; omega] at L2
          clear h0 hsz e1 e2 zR h1 h2 h3
          have D1 := (Kept.refl (fun _ => False) w).drew.drew
          go_enter Tryz.func118, Tryz.ntmps118
          go_wp2
          go_region
          all_goals
            go_wp2_with fail
            refine (L1.out _).mono ?_
            rintro e w1 ⟨rfl, hw⟩
            rw [hw]
            clear hw w1
            go_wp2
            go_region
            all_goals
              go_wp2_with fail
              refine (L2.out _).mono ?_
              rintro e w1 ⟨rfl, hw⟩
              rw [hw]
              clear hw w1
              go_wp2_with fail
              refine (HC.out _).mono ?_
              rintro e3 w3 ⟨rfl, hk3⟩
              go_wp2_with fail
              refine (HD.out _).mono ?_
              rintro e4 w4 ⟨rfl, hk4⟩
              go_wp2
              go_ret3
              exact ⟨rfl, (D1.trans (kept_of hk3)).trans (kept_of hk4)⟩
end Go.Proofs.YtndpfcanfcbldaaGreatDoor

namespace Go.Proofs.YtndpfcanfcbldaaGreatDoor
open Go.RowKit

/-- A server as the document has it. -/
structure Sv where
  name : ByteArray
  retry : Int
  wait : Int
  id : Int
  ticks : Int
  tries : Int
  value : ByteArray
  asks : Bool
  waits : Bool
  judged : Bool
  done : Bool
  good : Bool
structure GoodS (c : Sv) : Prop where
  name : c.name.size ≤ 60
  retry : 0 ≤ c.retry ∧ c.retry ≤ 10
  wait : 1 ≤ c.wait ∧ c.wait ≤ 100
  id : 0 ≤ c.id ∧ c.id ≤ 255
  tries : 0 ≤ c.tries ∧ c.tries ≤ c.retry
  ticks : 0 ≤ c.ticks ∧ c.ticks ≤ c.wait
  early : c.asks = true → c.ticks < c.wait ∧ 1 ≤ c.value.size ∧ c.value.size ≤ 60

def newS (name : ByteArray) (retry wait : Int) : Sv := ⟨name, retry, wait, 0, 0, 0, ⟨#[]⟩, false, false, false, false, false⟩
def sayS (c : Sv) : List Pq := [⟨if c.good then 3 else 4, c.id, ⟨#[]⟩⟩]
def startS (c : Sv) (v : ByteArray) : List Pq × Sv :=
  if v.size < 1 ∨ 60 < v.size then ([], c)
  else ([⟨1, (c.id + 1) % 256, layF v ++ c.name⟩], { c with id := (c.id + 1) % 256, value := v, tries := 0, asks := true, waits := false, judged := false, done := false, good := false, ticks := 0 })
def tickS (c : Sv) : List Pq × Sv :=
  if c.asks = true then
    (if c.ticks + 1 < c.wait then ([], { c with ticks := c.ticks + 1 })
    else if c.tries = c.retry then ([], { c with ticks := c.ticks + 1, asks := false, done := true })
    else ([⟨1, c.id, layF c.value ++ c.name⟩], { c with ticks := 0, tries := c.tries + 1 }))
  else ([], c)
/-- What a packet claims: name, value, response, Id. -/
structure Cm where
  name : ByteArray
  value : ByteArray
  response : ByteArray
  id : Int
def noCm : Cm := ⟨⟨#[]⟩, ⟨#[]⟩, ⟨#[]⟩, 0⟩
def cmV (x : Cm) : Value := .agg #[.string x.name, .string x.value, .string x.response, .int .i64 x.id]
def takeS (c : Sv) (code id : Int) (d : ByteArray) : Cm × Bool × Sv :=
  if c.asks = true ∧ code = 2 ∧ id = c.id ∧ (getValF d).2.2 = 0 then (⟨(getValF d).2.1, c.value, (getValF d).1, c.id⟩, true, { c with asks := false, waits := true }) else (noCm, false, c)
def judgeS (c : Sv) (good : Bool) : List Pq × Sv :=
  if c.waits = true then (sayS { c with waits := false, judged := true, done := true, good := good }, { c with waits := false, judged := true, done := true, good := good }) else ([], c)
def againS (c : Sv) (code id : Int) : List Pq := if code = 2 ∧ id = c.id ∧ c.judged = true then sayS c else []

theorem GoodS.new {n : ByteArray} {r k : Int} (hn : n.size ≤ 60) (h : 0 ≤ r ∧ r ≤ 10) (hk : 1 ≤ k ∧ k ≤ 100) : GoodS (newS n r k) := ⟨hn, h, hk, by simp [newS], ⟨by simp [newS], h.1⟩, ⟨by simp [newS], by simp [newS]; omega⟩, by simp [newS]⟩
theorem GoodS.start {c : Sv} (h : GoodS c) (v : ByteArray) : GoodS (startS c v).2 := by
  have h1 := h.wait; have h2 := h.retry; have h3 := h.id
  unfold startS
  split
  · exact h
  · rename_i hv
    exact ⟨h.name, h2, h1, ⟨by show 0 ≤ (c.id + 1) % 256; omega, by show (c.id + 1) % 256 ≤ 255; omega⟩, ⟨Int.le_refl _, h2.1⟩, ⟨Int.le_refl _, by show 0 ≤ c.wait; omega⟩, fun _ => ⟨by show 0 < c.wait; omega, by show 1 ≤ v.size; omega, by show v.size ≤ 60; omega⟩⟩
theorem GoodS.tick {c : Sv} (h : GoodS c) : GoodS (tickS c).2 := by
  have h1 := h.wait; have h2 := h.retry; have h3 := h.ticks; have h4 := h.tries; have h5 := h.id
  unfold tickS
  split
  · rename_i hs
    obtain ⟨e1, e2, e3⟩ := h.early hs
    split
    · exact ⟨h.name, h2, h1, h5, h4, ⟨by show 0 ≤ c.ticks + 1; omega, by show c.ticks + 1 ≤ c.wait; omega⟩, fun _ => ⟨by assumption, e2, e3⟩⟩
    · split
      · exact ⟨h.name, h2, h1, h5, h4, ⟨by show 0 ≤ c.ticks + 1; omega, by show c.ticks + 1 ≤ c.wait; omega⟩, fun hh => by cases hh⟩
      · rename_i hne
        have h7 : c.tries + 1 ≤ c.retry := by omega
        exact ⟨h.name, h2, h1, h5, ⟨by show 0 ≤ c.tries + 1; omega, h7⟩, ⟨Int.le_refl _, by show 0 ≤ c.wait; omega⟩, fun _ => ⟨by show 0 < c.wait; omega, e2, e3⟩⟩
  · exact h
theorem GoodS.take {c : Sv} (h : GoodS c) (code id : Int) (d : ByteArray) : GoodS (takeS c code id d).2.2 := by
  unfold takeS
  split
  · exact ⟨h.name, h.retry, h.wait, h.id, h.tries, h.ticks, fun hh => by cases hh⟩
  · exact h
theorem GoodS.judge {c : Sv} (h : GoodS c) (g : Bool) : GoodS (judgeS c g).2 := by
  unfold judgeS
  split
  · exact ⟨h.name, h.retry, h.wait, h.id, h.tries, h.ticks, h.early⟩
  · exact h

/-- A client as the document has it. -/
structure Cr where
  name : ByteArray
  secret : ByteArray
  done : Bool
  good : Bool
  answered : Bool
  id : Int
def newCr (n s : ByteArray) : Cr := ⟨n, s, false, false, false, 0⟩
def takeCr (K : Int → ByteArray → ByteArray → ByteArray) (c : Cr) (code id : Int) (d : ByteArray) : List Pq × Cr :=
  if code = 1 then (if (getValF d).2.2 = 0 then ([⟨2, id, layF (K id c.secret (getValF d).1) ++ c.name⟩], { c with answered := true, id := id }) else ([], c))
  else if (code = 3 ∨ code = 4) ∧ c.answered = true ∧ id = c.id then ([], { c with done := true, good := code == 3 }) else ([], c)

/-- A store into the block b; nothing has turned, nor has the block b. -/
theorem caOwn {a w : World} {b : Nat} (h : Kept (fun i => i = b) a w) (j : Nat) (u : Value) : Kept (fun i => i = b) a (w.setCell ⟨b, j, none⟩ u) := h.setCell (p := ⟨b, j, none⟩) (Or.inr (by rfl)) u
theorem caNone {a w : World} {b : Nat} (h : Kept (fun _ => False) a w) : Kept (fun i => i = b) a w := h.mono (fun _ _ h => h.elim)
end Go.Proofs.YtndpfcanfcbldaaGreatDoor

namespace Go.Proofs.YtndpfcanfcbldaaGreatDoor
open Go.RowKit

/-- A server of the program as plain data. -/
structure Ps where
  name : ByteArray
  retry : Int
  wait : Int
  value : ByteArray
  id : Int
  st : Int
  again : Int
  ticks : Int
structure GoodP (c : Ps) : Prop where
  name : c.name.size ≤ 60
  retry : 0 ≤ c.retry ∧ c.retry ≤ 10
  wait : 1 ≤ c.wait ∧ c.wait ≤ 100
  id : 0 ≤ c.id ∧ c.id ≤ 255
  st : 0 ≤ c.st ∧ c.st ≤ 5
  again : 0 ≤ c.again ∧ c.again ≤ c.retry
  ticks : 0 ≤ c.ticks ∧ c.ticks ≤ c.wait
  early : c.st = 1 → c.ticks < c.wait ∧ 1 ≤ c.value.size ∧ c.value.size ≤ 60

def newP (name : ByteArray) (retry wait : Int) : Ps := ⟨name, retry, wait, ⟨#[]⟩, 0, 0, 0, 0⟩
def startP (c : Ps) (v : ByteArray) : List Pq × Ps :=
  if c.wait = 0 ∨ v.size < 1 ∨ 60 < v.size then ([], c)
  else ([⟨1, (c.id + 1) % 256, layF v ++ c.name⟩], { c with st := 1, value := v, id := (c.id + 1) % 256, again := 0, ticks := 0 })
def tickP (c : Ps) : List Pq × Ps :=
  if c.st = 1 then
    (if c.ticks + 1 < c.wait then ([], { c with ticks := c.ticks + 1 })
    else if c.again = c.retry then ([], { c with ticks := c.ticks + 1, st := 3 })
    else ([⟨1, c.id, layF c.value ++ c.name⟩], { c with again := c.again + 1, ticks := 0 }))
  else ([], c)
def takeP (c : Ps) (code id : Int) (d : ByteArray) : Cm × Bool × Ps :=
  if c.st = 1 ∧ code = 2 ∧ id = c.id ∧ (getValF d).2.2 = 0 then (⟨(getValF d).2.1, c.value, (getValF d).1, c.id⟩, true, { c with st := 2 }) else (noCm, false, c)
def sayP (c : Ps) : List Pq := [⟨if c.st = 4 then 3 else 4, c.id, ⟨#[]⟩⟩]
def judgeP (c : Ps) (good : Bool) : List Pq × Ps :=
  if c.st = 2 then (sayP { c with st := if good then 4 else 5 }, { c with st := if good then 4 else 5 }) else ([], c)
def againP (c : Ps) (code id : Int) : List Pq := if (c.st = 4 ∨ c.st = 5) ∧ code = 2 ∧ id = c.id then sayP c else []
def doneP (c : Ps) : Bool := c.st == 3 || c.st == 4 || c.st == 5

/-- The document's server that goes with one of the program's. -/
def svOf (c : Ps) : Sv := ⟨c.name, c.retry, c.wait, c.id, c.ticks, c.again, c.value, c.st == 1, c.st == 2, c.st == 4 || c.st == 5, doneP c, c.st == 4⟩

theorem GoodP.new {n : ByteArray} {r k : Int} (hn : n.size ≤ 60) (h : 0 ≤ r ∧ r ≤ 10) (hk : 1 ≤ k ∧ k ≤ 100) : GoodP (newP n r k) := ⟨hn, h, hk, by simp [newP], by simp [newP], ⟨by simp [newP], h.1⟩, ⟨by simp [newP], by simp [newP]; omega⟩, by simp [newP]⟩
theorem GoodP.start {c : Ps} (h : GoodP c) (v : ByteArray) : GoodP (startP c v).2 := by
  have h1 := h.wait; have h2 := h.retry; have h3 := h.id
  unfold startP
  split
  · exact h
  · rename_i hv
    exact ⟨h.name, h2, h1, ⟨by show 0 ≤ (c.id + 1) % 256; omega, by show (c.id + 1) % 256 ≤ 255; omega⟩, by simp, ⟨Int.le_refl _, h2.1⟩, ⟨Int.le_refl _, by show 0 ≤ c.wait; omega⟩, fun _ => ⟨by show 0 < c.wait; omega, by show 1 ≤ v.size; omega, by show v.size ≤ 60; omega⟩⟩
theorem GoodP.tick {c : Ps} (h : GoodP c) : GoodP (tickP c).2 := by
  have h1 := h.wait; have h2 := h.retry; have h3 := h.ticks; have h4 := h.again; have h5 := h.id
  unfold tickP
  split
  · rename_i hs
    obtain ⟨e1, e2, e3⟩ := h.early hs
    split
    · exact ⟨h.name, h2, h1, h5, h.st, h4, ⟨by show 0 ≤ c.ticks + 1; omega, by show c.ticks + 1 ≤ c.wait; omega⟩, fun _ => ⟨by assumption, e2, e3⟩⟩
    · split
      · exact ⟨h.name, h2, h1, h5, by simp, h4, ⟨by show 0 ≤ c.ticks + 1; omega, by show c.ticks + 1 ≤ c.wait; omega⟩, fun hh => by simp at hh⟩
      · rename_i hne
        have h7 : c.again + 1 ≤ c.retry := by omega
        exact ⟨h.name, h2, h1, h5, h.st, ⟨by show 0 ≤ c.again + 1; omega, h7⟩, ⟨Int.le_refl _, by show 0 ≤ c.wait; omega⟩, fun _ => ⟨by show 0 < c.wait; omega, e2, e3⟩⟩
  · exact h
theorem GoodP.take {c : Ps} (h : GoodP c) (code id : Int) (d : ByteArray) : GoodP (takeP c code id d).2.2 := by
  unfold takeP
  split
  · exact ⟨h.name, h.retry, h.wait, h.id, by simp, h.again, h.ticks, fun hh => by simp at hh⟩
  · exact h
theorem GoodP.judge {c : Ps} (h : GoodP c) (g : Bool) : GoodP (judgeP c g).2 := by
  unfold judgeP
  split
  · exact ⟨h.name, h.retry, h.wait, h.id, by cases g <;> simp, h.again, h.ticks, fun hh => by cases g <;> simp at hh⟩
  · exact h

/-! What the program's server does is what the document's does. -/
theorem svOf_new (n : ByteArray) (r k : Int) : svOf (newP n r k) = newS n r k := rfl
theorem svOf_start {c : Ps} (h : GoodP c) (v : ByteArray) : startS (svOf c) v = ((startP c v).1, svOf (startP c v).2) := by
  have hw := h.wait
  unfold startS startP
  by_cases hv : v.size < 1 ∨ 60 < v.size
  · rw [if_pos hv, if_pos (Or.inr hv)]
  · rw [if_neg hv, if_neg (by omega)]
    rfl
theorem svOf_tick (c : Ps) : tickS (svOf c) = ((tickP c).1, svOf (tickP c).2) := by
  unfold tickS tickP
  by_cases h1 : c.st = 1
  · rw [if_pos (by simp [svOf, h1]), if_pos h1]
    by_cases h2 : c.ticks + 1 < c.wait
    · rw [if_pos h2, if_pos (by exact h2)]
      rfl
    · rw [if_neg h2, if_neg (by exact h2)]
      by_cases h3 : c.again = c.retry
      · rw [if_pos h3, if_pos (by exact h3)]
        simp [svOf, doneP, h1]
      · rw [if_neg h3, if_neg (by exact h3)]
        rfl
  · rw [if_neg (by simp [svOf, h1]), if_neg h1]
theorem svOf_take (c : Ps) (code id : Int) (d : ByteArray) : takeS (svOf c) code id d = ((takeP c code id d).1, (takeP c code id d).2.1, svOf (takeP c code id d).2.2) := by
  unfold takeS takeP
  by_cases h : c.st = 1 ∧ code = 2 ∧ id = c.id ∧ (getValF d).2.2 = 0
  · rw [if_pos h, if_pos ⟨by simp [svOf, h.1], h.2⟩]
    simp [svOf, doneP, h.1]
  · rw [if_neg h, if_neg (fun ⟨h1, h2⟩ => h ⟨by simpa [svOf] using h1, h2⟩)]
theorem svOf_judge (c : Ps) (g : Bool) : judgeS (svOf c) g = ((judgeP c g).1, svOf (judgeP c g).2) := by
  unfold judgeS judgeP
  by_cases h : c.st = 2
  · rw [if_pos (by simp [svOf, h]), if_pos h]
    cases g <;> simp [svOf, doneP, sayS, sayP, h]
  · rw [if_neg (by simp [svOf, h]), if_neg h]
theorem svOf_again (c : Ps) (code id : Int) : againS (svOf c) code id = againP c code id := by
  unfold againS againP
  by_cases h : (c.st = 4 ∨ c.st = 5) ∧ code = 2 ∧ id = c.id
  · rw [if_pos h, if_pos ⟨h.2.1, h.2.2, by simp [svOf, h.1]⟩]
    by_cases h4 : c.st = 4 <;> simp [sayS, sayP, svOf, h4]
  · rw [if_neg h, if_neg (fun ⟨h1, h2, h3⟩ => h ⟨by simpa [svOf] using h3, h1, h2⟩)]

def psCells (c : Ps) : Array Value := #[.string c.name, .int .i64 c.retry, .int .i64 c.wait, .string c.value, .int .i64 c.id, .int .i64 c.st, .int .i64 c.again, .int .i64 c.ticks]
def PsIn (w : World) (b : Nat) (c : Ps) : Prop := w.heap[b]? = some (.cells (psCells c) 134 (0, 0))

section
variable {w w' : World} {b : Nat} {c : Ps}
theorem PsIn.cell (h : PsIn w b c) (i : Nat) : w.cell? ⟨b, i, none⟩ = (psCells c)[i]? := by
  unfold PsIn at h
  simp [World.cell?, h]
theorem PsIn.c0 (h : PsIn w b c) : w.cell? ⟨b, 0, none⟩ = some (.string c.name) := h.cell 0
theorem PsIn.c1 (h : PsIn w b c) : w.cell? ⟨b, 1, none⟩ = some (.int .i64 c.retry) := h.cell 1
theorem PsIn.c2 (h : PsIn w b c) : w.cell? ⟨b, 2, none⟩ = some (.int .i64 c.wait) := h.cell 2
theorem PsIn.c3 (h : PsIn w b c) : w.cell? ⟨b, 3, none⟩ = some (.string c.value) := h.cell 3
theorem PsIn.c4 (h : PsIn w b c) : w.cell? ⟨b, 4, none⟩ = some (.int .i64 c.id) := h.cell 4
theorem PsIn.c5 (h : PsIn w b c) : w.cell? ⟨b, 5, none⟩ = some (.int .i64 c.st) := h.cell 5
theorem PsIn.c6 (h : PsIn w b c) : w.cell? ⟨b, 6, none⟩ = some (.int .i64 c.again) := h.cell 6
theorem PsIn.c7 (h : PsIn w b c) : w.cell? ⟨b, 7, none⟩ = some (.int .i64 c.ticks) := h.cell 7
theorem PsIn.fz (h : PsIn w b c) (i : Nat) : w.frozen? ⟨b, i, none⟩ = false := by
  unfold PsIn at h
  simp [World.frozen?, h]
theorem PsIn.lt (h : PsIn w b c) : b < w.heap.size := (Array.getElem?_eq_some_iff.1 h).1
theorem PsIn.kept {S : Nat → Prop} (h : PsIn w b c) (hk : Kept S w w') (hS : ¬ S b) : PsIn w' b c := (hk.block b h.lt hS).trans h
theorem PsIn.kept0 (h : PsIn w b c) (hk : Kept (fun _ => False) w w') : PsIn w' b c := h.kept hk id
theorem PsIn.drew (h : PsIn w b c) : PsIn w.drew b c := h
theorem PsIn.set3 (h : PsIn w b c) (x : ByteArray) : PsIn (w.setCell ⟨b, 3, none⟩ (.string x)) b { c with value := x } := Joins.block_setCell h (i := 3) (.string x)
theorem PsIn.set4 (h : PsIn w b c) (x : Int) : PsIn (w.setCell ⟨b, 4, none⟩ (.int .i64 x)) b { c with id := x } := Joins.block_setCell h (i := 4) (.int .i64 x)
theorem PsIn.set5 (h : PsIn w b c) (x : Int) : PsIn (w.setCell ⟨b, 5, none⟩ (.int .i64 x)) b { c with st := x } := Joins.block_setCell h (i := 5) (.int .i64 x)
theorem PsIn.set6 (h : PsIn w b c) (x : Int) : PsIn (w.setCell ⟨b, 6, none⟩ (.int .i64 x)) b { c with again := x } := Joins.block_setCell h (i := 6) (.int .i64 x)
theorem PsIn.set7 (h : PsIn w b c) (x : Int) : PsIn (w.setCell ⟨b, 7, none⟩ (.int .i64 x)) b { c with ticks := x } := Joins.block_setCell h (i := 7) (.int .i64 x)
end

/-! A client of the program: the document's data, and that it was made. -/
def lcCells (c : Cr) : Array Value := #[.bool true, .string c.name, .string c.secret, .bool c.answered, .int .i64 c.id, .bool c.done, .bool c.good]
def LcIn (w : World) (b : Nat) (c : Cr) : Prop := w.heap[b]? = some (.cells (lcCells c) 89 (0, 0))
section
variable {w w' : World} {b : Nat} {c : Cr}
theorem LcIn.cell (h : LcIn w b c) (i : Nat) : w.cell? ⟨b, i, none⟩ = (lcCells c)[i]? := by
  unfold LcIn at h
  simp [World.cell?, h]
theorem LcIn.c0 (h : LcIn w b c) : w.cell? ⟨b, 0, none⟩ = some (.bool true) := h.cell 0
theorem LcIn.c1 (h : LcIn w b c) : w.cell? ⟨b, 1, none⟩ = some (.string c.name) := h.cell 1
theorem LcIn.c2 (h : LcIn w b c) : w.cell? ⟨b, 2, none⟩ = some (.string c.secret) := h.cell 2
theorem LcIn.c3 (h : LcIn w b c) : w.cell? ⟨b, 3, none⟩ = some (.bool c.answered) := h.cell 3
theorem LcIn.c4 (h : LcIn w b c) : w.cell? ⟨b, 4, none⟩ = some (.int .i64 c.id) := h.cell 4
theorem LcIn.c5 (h : LcIn w b c) : w.cell? ⟨b, 5, none⟩ = some (.bool c.done) := h.cell 5
theorem LcIn.c6 (h : LcIn w b c) : w.cell? ⟨b, 6, none⟩ = some (.bool c.good) := h.cell 6
theorem LcIn.fz (h : LcIn w b c) (i : Nat) : w.frozen? ⟨b, i, none⟩ = false := by
  unfold LcIn at h
  simp [World.frozen?, h]
theorem LcIn.lt (h : LcIn w b c) : b < w.heap.size := (Array.getElem?_eq_some_iff.1 h).1
theorem LcIn.kept {S : Nat → Prop} (h : LcIn w b c) (hk : Kept S w w') (hS : ¬ S b) : LcIn w' b c := (hk.block b h.lt hS).trans h
theorem LcIn.kept0 (h : LcIn w b c) (hk : Kept (fun _ => False) w w') : LcIn w' b c := h.kept hk id
theorem LcIn.drew (h : LcIn w b c) : LcIn w.drew b c := h
theorem LcIn.set3 (h : LcIn w b c) (x : Bool) : LcIn (w.setCell ⟨b, 3, none⟩ (.bool x)) b { c with answered := x } := Joins.block_setCell h (i := 3) (.bool x)
theorem LcIn.set4 (h : LcIn w b c) (x : Int) : LcIn (w.setCell ⟨b, 4, none⟩ (.int .i64 x)) b { c with id := x } := Joins.block_setCell h (i := 4) (.int .i64 x)
theorem LcIn.set5 (h : LcIn w b c) (x : Bool) : LcIn (w.setCell ⟨b, 5, none⟩ (.bool x)) b { c with done := x } := Joins.block_setCell h (i := 5) (.bool x)
theorem LcIn.set6 (h : LcIn w b c) (x : Bool) : LcIn (w.setCell ⟨b, 6, none⟩ (.bool x)) b { c with good := x } := Joins.block_setCell h (i := 6) (.bool x)
end

/-- A row of packets is neither. -/
theorem PsIn.ne {w : World} {b base i : Nat} {c : Ps} {v : Value} {l : List Pq} (h : PsIn w b c) (ho : OwnQ w base v l) (hi : v.ownBlock = some i) : i ≠ b := fun e => by
  subst e
  obtain ⟨⟨cur, h1⟩, _⟩ := ho.block hi
  unfold PsIn at h
  rw [h] at h1
  simp at h1
theorem LcIn.ne {w : World} {b base i : Nat} {c : Cr} {v : Value} {l : List Pq} (h : LcIn w b c) (ho : OwnQ w base v l) (hi : v.ownBlock = some i) : i ≠ b := fun e => by
  subst e
  obtain ⟨⟨cur, h1⟩, _⟩ := ho.block hi
  unfold LcIn at h
  rw [h] at h1
  simp at h1
end Go.Proofs.YtndpfcanfcbldaaGreatDoor

namespace Go.Proofs.YtndpfcanfcbldaaGreatDoor
open Go.RowKit


set_option maxRecDepth 100000 in
theorem psIs_any (b : Nat) (c : Ps) (k : Int) (w : World) (h : PsIn w b c) : Calls Tryz.prog 114 #[.pointer (some ⟨b, 0, none⟩), .int .i64 k] w fun e w' => e = .returned (.bool (c.st == k)) ∧ w' = w := by
  have c5 := h.c5
  clear h
  go_enter Tryz.func114, Tryz.ntmps114
  go_wp2
  go_ret
  exact ⟨rfl, rfl⟩

set_option maxHeartbeats 1000000 in
set_option maxRecDepth 100000 in
theorem psResp_any (b : Nat) (c : Ps) (code id : Int) (p : Option Addr) (n cap : Nat) (s : ByteArray) (w : World) (h : PsIn w b c) :
    Calls Tryz.prog 117 #[.pointer (some ⟨b, 0, none⟩), .agg #[.int .i64 code, .int .i64 id, .slice p n cap, .string s]] w fun e w' => e = .returned (.bool (code == 2 && id == c.id)) ∧ Kept (fun _ => False) w w' := by
  have hk := (Kept.refl (fun _ => False) w).alloc (.cells #[.int .i64 code, .int .i64 id, .slice p n cap, .string s] 57)
  have c4 := (h.kept0 hk).c4
  have K1 := hid hk
  obtain ⟨d0, d1, d2, d3⟩ := (PkAt.new w code id (.slice p n cap) s).cells
  clear h hk
  by_cases e1 : code = 2
  · have e1' : (code == 2) = true := by simp [e1]
    rw [e1', Bool.true_and]
    clear e1
    go_enter Tryz.func117, Tryz.ntmps117
    go_upto_region 1 with fail
    generalize w.alloc (.cells #[.int .i64 code, .int .i64 id, .slice p n cap, .string s] 57) = W at *
    go_quiet (fail)
    go_wp2
    go_ret
    exact ⟨rfl, K1.out.drewN _⟩
  · have e1' : (code == 2) = false := by simpa using e1
    rw [e1', Bool.false_and]
    clear e1
    go_enter Tryz.func117, Tryz.ntmps117
    go_upto_region 1 with fail
    generalize w.alloc (.cells #[.int .i64 code, .int .i64 id, .slice p n cap, .string s] 57) = W at *
    go_quiet (fail)
    go_wp2
    go_ret
    exact ⟨rfl, K1.out.drewN _⟩

set_option maxHeartbeats 1000000 in
set_option maxRecDepth 100000 in
theorem psAsk_any {b : Nat} {c : Ps} {w : World} (h : PsIn w b c) (hn : c.name.size ≤ 60) (hv : c.value.size ≤ 60) : Calls Tryz.prog 112 #[.pointer (some ⟨b, 0, none⟩)] w fun e w' => ∃ v, e = .returned v ∧ PsIn w' b { c with ticks := 0 } ∧ OwnQ w' w.heap.size v [⟨1, c.id, layF c.value ++ c.name⟩] ∧ Kept (fun i => i = b) w w' := by
  have c7 := h.c7
  have f7 := h.fz 7
  have H2 := hid (h.set7 0)
  have K2 := hid (caOwn (Kept.refl (fun i => i = b) w) 7 (.int .i64 0))
  have HL := hid (caLay_any c.value c.name hv hn)
  generalize hD : layF c.value ++ c.name = D at *
  clear h hn hv
  go_enter Tryz.func112, Tryz.ntmps112
  go_upto_region 2 with fail
  generalize hW : w.setCell ⟨b, 7, none⟩ (.int .i64 0) = W at *
  clear hW f7 c7 hD
  have g4 : ∀ W', Kept (fun _ => False) W W' → W'.cell? ⟨b, 4, none⟩ = some (.int .i64 c.id) := fun W' hk => (H2.out.kept0 hk).c4
  have g3 : ∀ W', Kept (fun _ => False) W W' → W'.cell? ⟨b, 3, none⟩ = some (.string c.value) := fun W' hk => (H2.out.kept0 hk).c3
  have g0 : ∀ W', Kept (fun _ => False) W W' → W'.cell? ⟨b, 0, none⟩ = some (.string c.name) := fun W' hk => (H2.out.kept0 hk).c0
  refine wp_region_held_drew (S := Kept (fun _ => False) W) (by kernel_rfl) ((Kept.refl _ W).drew) (fun hSd => ?_)
  refine wpAnyH_take (i := 0) (v := ?_) rfl (by kernel_rfl) (by kernel_rfl) (by kernel_rfl) (fun _ _ _ h => h) (Or.inl ⟨by kernel_rfl, fun W hSW => by go_simp; try with_reducible rfl⟩) (by assumption) ?_
  try simp only [List.getElem_toArray]
  try simp only [List.getElem_cons_succ]
  try simp only [List.getElem_cons_zero]
  try simp only [Act.put]
  try simp only [List.setIfInBounds_toArray]
  try simp only [List.set_cons_succ]
  try simp only [List.set_cons_zero]
  refine wpAnyH_take (i := 1) (v := ?_) rfl (by kernel_rfl) (by kernel_rfl) (by kernel_rfl) (fun _ _ _ h => h) (Or.inl ⟨by kernel_rfl, fun W hSW => by go_simp; try with_reducible rfl⟩) (by assumption) ?_
  try simp only [List.getElem_toArray]
  try simp only [List.getElem_cons_succ]
  try simp only [List.getElem_cons_zero]
  try simp only [Act.put]
  try simp only [List.setIfInBounds_toArray]
  try simp only [List.set_cons_succ]
  try simp only [List.set_cons_zero]
  refine wpAnyH_take (i := 2) (v := ?_) rfl (by kernel_rfl) (by kernel_rfl) (by kernel_rfl) (fun _ _ _ h => h) (Or.inl ⟨by kernel_rfl, fun W hSW => by go_simp; try with_reducible rfl⟩) (by assumption) ?_
  try simp only [List.getElem_toArray]
  try simp only [List.getElem_cons_succ]
  try simp only [List.getElem_cons_zero]
  try simp only [Act.put]
  try simp only [List.setIfInBounds_toArray]
  try simp only [List.set_cons_succ]
  try simp only [List.set_cons_zero]
  refine wpAnyH_take (i := 3) (v := ?_) rfl (by kernel_rfl) (by kernel_rfl) (by kernel_rfl) (fun _ _ _ h => h) (Or.inl ⟨by kernel_rfl, fun W hSW => by go_simp; try with_reducible rfl⟩) (by assumption) ?_
  try simp only [List.getElem_toArray]
  try simp only [List.getElem_cons_succ]
  try simp only [List.getElem_cons_zero]
  try simp only [Act.put]
  try simp only [List.setIfInBounds_toArray]
  try simp only [List.set_cons_succ]
  try simp only [List.set_cons_zero]
  refine wpAnyH_take (i := 4) (v := ?_) rfl (by kernel_rfl) (by kernel_rfl) (by kernel_rfl) (fun _ _ _ h => h) (Or.inl ⟨by kernel_rfl, fun W hSW => by go_simp; try with_reducible rfl⟩) (by assumption) ?_
  try simp only [List.getElem_toArray]
  try simp only [List.getElem_cons_succ]
  try simp only [List.getElem_cons_zero]
  try simp only [Act.put]
  try simp only [List.setIfInBounds_toArray]
  try simp only [List.set_cons_succ]
  try simp only [List.set_cons_zero]
  refine wpAnyH_take (i := 5) (v := ?_) rfl (by kernel_rfl) (by kernel_rfl) (by kernel_rfl) (fun _ _ _ h => h) (Or.inl ⟨by kernel_rfl, fun W hSW => by go_simp; try with_reducible rfl⟩) (by assumption) ?_
  try simp only [List.getElem_toArray]
  try simp only [List.getElem_cons_succ]
  try simp only [List.getElem_cons_zero]
  try simp only [Act.put]
  try simp only [List.setIfInBounds_toArray]
  try simp only [List.set_cons_succ]
  try simp only [List.set_cons_zero]
  refine wpAnyH_take (i := 6) (v := ?_) rfl (by kernel_rfl) (by kernel_rfl) (by kernel_rfl) (fun _ _ _ h => h) (Or.inl ⟨by kernel_rfl, fun W hSW => by go_simp; try with_reducible rfl⟩) (by assumption) ?_
  try simp only [List.getElem_toArray]
  try simp only [List.getElem_cons_succ]
  try simp only [List.getElem_cons_zero]
  try simp only [Act.put]
  try simp only [List.setIfInBounds_toArray]
  try simp only [List.set_cons_succ]
  try simp only [List.set_cons_zero]
  refine wpAnyH_take (i := 7) (v := ?_) rfl (by kernel_rfl) (by kernel_rfl) (by kernel_rfl) (fun _ _ _ h => h) (Or.inl ⟨by kernel_rfl, fun W hSW => by go_simp; try with_reducible rfl⟩) (by assumption) ?_
  try simp only [List.getElem_toArray]
  try simp only [List.getElem_cons_succ]
  try simp only [List.getElem_cons_zero]
  try simp only [Act.put]
  try simp only [List.setIfInBounds_toArray]
  try simp only [List.set_cons_succ]
  try simp only [List.set_cons_zero]
  refine wpAnyH_take (i := 8) (v := ?_) rfl (by kernel_rfl) (by kernel_rfl) (by kernel_rfl) (fun _ _ _ h => h) (Or.inl ⟨by kernel_rfl, fun W hSW => by go_simp; try with_reducible rfl⟩) (by assumption) ?_
  try simp only [List.getElem_toArray]
  try simp only [List.getElem_cons_succ]
  try simp only [List.getElem_cons_zero]
  try simp only [Act.put]
  try simp only [List.setIfInBounds_toArray]
  try simp only [List.set_cons_succ]
  try simp only [List.set_cons_zero]
  refine wpAnyH_take (i := 9) (v := ?_) rfl (by kernel_rfl) (by kernel_rfl) (by kernel_rfl) (fun _ _ _ h => h) (Or.inl ⟨by kernel_rfl, fun W hSW => by go_simp; try with_reducible rfl⟩) (by assumption) ?_
  try simp only [List.getElem_toArray]
  try simp only [List.getElem_cons_succ]
  try simp only [List.getElem_cons_zero]
  try simp only [Act.put]
  try simp only [List.setIfInBounds_toArray]
  try simp only [List.set_cons_succ]
  try simp only [List.set_cons_zero]
  refine wpAnyH_take (i := 10) (v := ?_) rfl (by kernel_rfl) (by kernel_rfl) (by kernel_rfl) (fun _ _ _ h => h) (Or.inl ⟨by kernel_rfl, fun W hSW => by go_simp; try with_reducible rfl⟩) (by assumption) ?_
  try simp only [List.getElem_toArray]
  try simp only [List.getElem_cons_succ]
  try simp only [List.getElem_cons_zero]
  try simp only [Act.put]
  try simp only [List.setIfInBounds_toArray]
  try simp only [List.set_cons_succ]
  try simp only [List.set_cons_zero]
  refine wpAnyH_take (i := 11) (v := ?_) rfl (by kernel_rfl) (by kernel_rfl) (by kernel_rfl) (fun _ _ _ h => h) (Or.inl ⟨by kernel_rfl, fun W hSW => by go_simp; try with_reducible rfl⟩) (by assumption) ?_
  try simp only [List.getElem_toArray]
  try simp only [List.getElem_cons_succ]
  try simp only [List.getElem_cons_zero]
  try simp only [Act.put]
  try simp only [List.setIfInBounds_toArray]
  try simp only [List.set_cons_succ]
  try simp only [List.set_cons_zero]
  refine wpAnyH_ready (rs := [12]) (by kernel_rfl) (by simp) ?_
  refine AllReadyH.cons rfl (fun K hK => ?_) AllReadyH.nil
  go_simp
  refine (HL.out _).mono ?_
  rintro e w5 ⟨rfl, hk5⟩
  have hS5 : Kept (fun _ => False) W w5 := hSd.trans hk5
  clear hk5
  refine hK.out _ _ (hS5) (fun _ => ?_)
  clear hK K
  try simp only [List.getElem_toArray]
  try simp only [List.getElem_cons_succ]
  try simp only [List.getElem_cons_zero]
  try simp only [Act.put]
  try simp only [List.setIfInBounds_toArray]
  try simp only [List.set_cons_succ]
  try simp only [List.set_cons_zero]
  refine wpAnyH_take (i := 13) (v := ?_) rfl (by kernel_rfl) (by kernel_rfl) (by kernel_rfl) (fun _ _ _ h => h) (Or.inl ⟨by kernel_rfl, fun W hSW => by go_simp; try with_reducible rfl⟩) (by assumption) ?_
  try simp only [List.getElem_toArray]
  try simp only [List.getElem_cons_succ]
  try simp only [List.getElem_cons_zero]
  try simp only [Act.put]
  try simp only [List.setIfInBounds_toArray]
  try simp only [List.set_cons_succ]
  try simp only [List.set_cons_zero]
  refine wpAnyH_ready (rs := [14]) (by kernel_rfl) (by simp) ?_
  refine AllReadyH.cons rfl (fun K hK => ?_) AllReadyH.nil
  go_simp
  have hS6 : Kept (fun _ => False) W (World.alloc w5 (.cells #[.int .i64 1, .int .i64 c.id, .slice none 0 0, .string D] 57)) := hS5.alloc _
  refine hK.out _ _ (hS6) (fun _ => ?_)
  clear hK K
  try simp only [List.getElem_toArray]
  try simp only [List.getElem_cons_succ]
  try simp only [List.getElem_cons_zero]
  try simp only [Act.put]
  try simp only [List.setIfInBounds_toArray]
  try simp only [List.set_cons_succ]
  try simp only [List.set_cons_zero]
  refine wpAnyH_take (i := 15) (v := ?_) rfl (by kernel_rfl) (by kernel_rfl) (by kernel_rfl) (fun _ _ _ h => h) (Or.inl ⟨by kernel_rfl, fun W hSW => by go_simp; try with_reducible rfl⟩) (by assumption) ?_
  try simp only [List.getElem_toArray]
  try simp only [List.getElem_cons_succ]
  try simp only [List.getElem_cons_zero]
  try simp only [Act.put]
  try simp only [List.setIfInBounds_toArray]
  try simp only [List.set_cons_succ]
  try simp only [List.set_cons_zero]
  refine wpAnyH_done (by kernel_rfl) ?_ _
  clear g4 g3 g0
  go_wp2
  go_ret
  refine ⟨_, rfl, H2.out.kept0 hS6, ?_, K2.out.trans (caNone hS6)⟩
  have hsz := K2.out.size
  have hsz2 := hS5.size
  exact (OwnQ.new w5 ⟨1, c.id, D⟩).mono (by omega)

set_option maxHeartbeats 1000000 in
set_option maxRecDepth 100000 in
theorem psSay_any (b : Nat) (c : Ps) (w : World) (h : PsIn w b c) : Calls Tryz.prog 115 #[.pointer (some ⟨b, 0, none⟩)] w fun e w' => ∃ v, e = .returned v ∧ OwnQ w' w.heap.size v (sayP c) ∧ Kept (fun _ => False) w w' := by
  have c5 := h.c5
  have c4 := h.c4
  unfold sayP
  clear h
  by_cases e1 : c.st = 4
  · rw [if_pos e1]
    have e1' : (c.st == 4) = true := by simp [e1]
    clear e1
    go_enter Tryz.func115, Tryz.ntmps115
    go_wp2
    go_ret
    exact ⟨_, rfl, OwnQ.new w ⟨3, c.id, ⟨#[]⟩⟩, (Kept.refl _ w).alloc _⟩
  · rw [if_neg e1]
    have e1' : (c.st == 4) = false := by simpa using e1
    clear e1
    go_enter Tryz.func115, Tryz.ntmps115
    go_wp2
    go_ret
    exact ⟨_, rfl, OwnQ.new w ⟨4, c.id, ⟨#[]⟩⟩, (Kept.refl _ w).alloc _⟩

/-- What NewServer answers. -/
def PNewIs (n : ByteArray) (retry wait : Int) (w : World) (e : Ending) (w' : World) : Prop :=
  ((60 < n.size ∧ e = .returned (.tuple #[.pointer none, .int .i64 2])) ∨
   (n.size ≤ 60 ∧ ¬ (0 ≤ retry ∧ retry ≤ 10 ∧ 1 ≤ wait ∧ wait ≤ 100) ∧ e = .returned (.tuple #[.pointer none, .int .i64 1])) ∨
   (n.size ≤ 60 ∧ (0 ≤ retry ∧ retry ≤ 10 ∧ 1 ≤ wait ∧ wait ≤ 100) ∧ e = .returned (.tuple #[.pointer (some ⟨w.heap.size, 0, none⟩), .int .i64 0]) ∧ PsIn w' w.heap.size (newP n retry wait))) ∧ Kept (fun _ => False) w w'

set_option maxHeartbeats 1000000 in
set_option maxRecDepth 100000 in
theorem psNew_any (n : ByteArray) (hn : n.size ≤ 140737488351232) (retry wait : Int) (w : World) :
    Calls Tryz.prog 15 #[.string n, .int .i64 retry, .int .i64 wait] w (PNewIs n retry wait w) := by
  have HL := hid (caLong_any n hn)
  by_cases h1 : 60 < n.size
  · rw [show longB n = true by simp [longB, h1]] at HL
    go_enter Tryz.func15, Tryz.ntmps15
    go_wp2_with fail
    refine (HL.out _).mono ?_
    rintro e w1 ⟨rfl, hw⟩
    rw [hw]
    clear hw w1
    go_wp2
    go_ret2
    exact ⟨Or.inl ⟨h1, rfl⟩, Kept.refl _ _⟩
  · rw [show longB n = false by simp [longB]; omega] at HL
    have H1 := hid (Nat.le_of_not_lt h1)
    clear h1
    by_cases q1 : retry < 0
    · go_enter Tryz.func15, Tryz.ntmps15
      go_wp2_with fail
      refine (HL.out _).mono ?_
      rintro e w1 ⟨rfl, hw⟩
      rw [hw]
      clear hw w1
      go_wp2
      go_ret2
      exact ⟨Or.inr (Or.inl ⟨H1.out, by omega, rfl⟩), Kept.refl _ _⟩
    · by_cases q2 : 10 < retry
      · go_enter Tryz.func15, Tryz.ntmps15
        go_wp2_with fail
        refine (HL.out _).mono ?_
        rintro e w1 ⟨rfl, hw⟩
        rw [hw]
        clear hw w1
        go_wp2
        go_ret2
        exact ⟨Or.inr (Or.inl ⟨H1.out, by omega, rfl⟩), Kept.refl _ _⟩
      · by_cases q3 : wait < 1
        · go_enter Tryz.func15, Tryz.ntmps15
          go_wp2_with fail
          refine (HL.out _).mono ?_
          rintro e w1 ⟨rfl, hw⟩
          rw [hw]
          clear hw w1
          go_wp2
          go_ret2
          exact ⟨Or.inr (Or.inl ⟨H1.out, by omega, rfl⟩), Kept.refl _ _⟩
        · by_cases q4 : 100 < wait
          · go_enter Tryz.func15, Tryz.ntmps15
            go_wp2_with fail
            refine (HL.out _).mono ?_
            rintro e w1 ⟨rfl, hw⟩
            rw [hw]
            clear hw w1
            go_wp2
            go_ret2
            exact ⟨Or.inr (Or.inl ⟨H1.out, by omega, rfl⟩), Kept.refl _ _⟩
          · go_enter Tryz.func15, Tryz.ntmps15
            go_wp2_with fail
            refine (HL.out _).mono ?_
            rintro e w1 ⟨rfl, hw⟩
            rw [hw]
            clear hw w1
            go_wp2
            go_ret2
            exact ⟨Or.inr (Or.inr ⟨H1.out, by omega, rfl, heap_alloc_new w _⟩), (Kept.refl _ w).alloc _⟩

set_option maxHeartbeats 1000000 in
set_option maxRecDepth 100000 in
theorem psStart_any (b : Nat) (c : Ps) (hn : c.name.size ≤ 60) (hi : 0 ≤ c.id ∧ c.id ≤ 255) (v : ByteArray) (hv : v.size ≤ 140737488351232) (w : World) (h : PsIn w b c) : Calls Tryz.prog 17 #[.pointer (some ⟨b, 0, none⟩), .string v] w fun e w' => ∃ u, e = .returned u ∧ PsIn w' b (startP c v).2 ∧ OwnQ w' w.heap.size u (startP c v).1 ∧ Kept (fun i => i = b) w w' := by
  unfold startP
  have H := hid h
  have c2 := h.c2
  have L1 := hid (caSize_any (v.size : Int))
  by_cases h0 : c.wait = 0
  · rw [if_pos (Or.inl h0)]
    have h0' : (c.wait == 0) = true := by simp [h0]
    clear h h0
    go_enter Tryz.func17, Tryz.ntmps17
    go_wp2
    go_ret
    exact ⟨_, rfl, H.out, OwnQ.nil _ _, Kept.refl _ _⟩
  · have h0' : (c.wait == 0) = false := by simpa using h0
    by_cases h1 : v.size < 1 ∨ 60 < v.size
    · rw [if_pos (Or.inr h1)]
      rw [sizeB_no (by omega)] at L1
      clear h h0 h1
      go_enter Tryz.func17, Tryz.ntmps17
      go_wp2_with fail
      refine (L1.out _).mono ?_
      rintro e w1 ⟨rfl, hw⟩
      rw [hw]
      clear hw w1
      go_wp2
      go_ret
      exact ⟨_, rfl, H.out, OwnQ.nil _ _, Kept.refl _ _⟩
    · rw [if_neg (by omega)]
      rw [sizeB_yes (by omega) (by omega)] at L1
      have hv60 : v.size ≤ 60 := by omega
      have HC := hid (clone_any v · (by omega))
      have hw1 : IntKind.i64.wrap (c.id + 1) = c.id + 1 := by rw [IntKind.wrap_i64]; omega
      have hw2 : IntKind.u8.wrap (c.id + 1) = (c.id + 1) % 256 := rfl
      have hw3 : IntKind.i64.wrap ((c.id + 1) % 256) = (c.id + 1) % 256 := by rw [IntKind.wrap_i64]; omega
      generalize hX : (c.id + 1) % 256 = X at *
      have c5 := h.c5
      have f5 := h.fz 5
      have H1 := hid (h.set5 1)
      have K1 := hid (caOwn (Kept.refl (fun i => i = b) w) 5 (.int .i64 1))
      have HV := hid (And.intro hn hv60)
      clear h h0 h1 hi hv hX hn hv60
      go_enter Tryz.func17, Tryz.ntmps17
      go_wp2_with fail
      refine (L1.out _).mono ?_
      rintro e w1 ⟨rfl, hw⟩
      rw [hw]
      clear hw w1
      go_wp2_with fail
      refine (HC.out _).mono ?_
      rintro e w2 ⟨rfl, hk2⟩
      have H2 := hid (H1.out.kept0 (kept_of hk2))
      have K2 := hid (K1.out.trans (caNone (kept_of hk2)))
      clear hk2 HC c5 f5 H1 K1
      have q3 := H2.out.c3
      have f3 := H2.out.fz 3
      have H3 := hid (H2.out.set3 v)
      have q4 := H3.out.c4
      have f4 := H3.out.fz 4
      have H4 := hid (H3.out.set4 X)
      have q6 := H4.out.c6
      have f6 := H4.out.fz 6
      have H5 := hid (H4.out.set6 0)
      have K5 := hid (caOwn (caOwn (caOwn K2.out 3 (.string v)) 4 (.int .i64 X)) 6 (.int .i64 0))
      have HA := hid (psAsk_any H5.out HV.out.1 HV.out.2)
      simp only at q3 q4 q6
      go_wp2_with fail
      refine HA.out.mono ?_
      rintro e w' ⟨u, rfl, hc, ho, hk⟩
      have HC := hid hc
      have HO := hid ho
      have HK := hid (K5.out.trans hk)
      have hs := K5.out.size
      clear hc ho hk HA
      go_wp2
      go_ret
      exact ⟨u, rfl, HC.out, HO.out.mono hs, HK.out⟩

set_option maxHeartbeats 2000000 in
set_option maxRecDepth 100000 in
theorem psTick_any (b : Nat) (c : Ps) (hg : GoodP c) (w : World) (h : PsIn w b c) : Calls Tryz.prog 19 #[.pointer (some ⟨b, 0, none⟩)] w fun e w' => ∃ v, e = .returned v ∧ PsIn w' b (tickP c).2 ∧ OwnQ w' w.heap.size v (tickP c).1 ∧ Kept (fun i => i = b) w w' := by
  have HA := hid (psIs_any b c 1 w h)
  unfold tickP
  by_cases hs : c.st = 1
  · rw [if_pos hs]
    rw [show (c.st == 1) = true by simp [hs]] at HA
    have c7 := h.c7
    have f7 := h.fz 7
    have h1 := h.set7 (c.ticks + 1)
    have H1 := hid h1
    have hw7 : IntKind.i64.wrap (c.ticks + 1) = c.ticks + 1 := by have := hg.ticks; have := hg.wait; rw [IntKind.wrap_i64]; omega
    have hw6 : IntKind.i64.wrap (c.again + 1) = c.again + 1 := by have := hg.again; have := hg.retry; rw [IntKind.wrap_i64]; omega
    have K1 := hid (caOwn (Kept.refl (fun i => i = b) w) 7 (.int .i64 (c.ticks + 1)))
    have G := hid (And.intro hg.name (hg.early hs).2.2)
    clear h h1 hg
    by_cases h1 : c.ticks + 1 < c.wait
    · rw [if_pos h1]
      go_enter Tryz.func19, Tryz.ntmps19
      go_wp2_with (go_at_call 114; refine HA.out.mono ?_; rintro e w' ⟨rfl, hw⟩; rw [hw]; clear hw w')
      generalize hW : w.setCell ⟨b, 7, none⟩ (.int .i64 (c.ticks + 1)) = W at *
      have c7 := H1.out.c7
      have c2 := H1.out.c2
      simp only at c7 c2
      go_region
      all_goals
        go_wp2
        go_ret
        exact ⟨_, rfl, H1.out.drew, OwnQ.nil _ _, K1.out.drew⟩
    · rw [if_neg h1]
      by_cases h2 : c.again = c.retry
      · rw [if_pos h2]
        have hd : (c.again == c.retry) = true := by simp [h2]
        clear h2
        go_enter Tryz.func19, Tryz.ntmps19
        go_wp2_with (go_at_call 114; refine HA.out.mono ?_; rintro e w' ⟨rfl, hw⟩; rw [hw]; clear hw w')
        generalize hW : w.setCell ⟨b, 7, none⟩ (.int .i64 (c.ticks + 1)) = W at *
        have c7 := H1.out.c7
        have c2 := H1.out.c2
        have c6 := H1.out.c6
        have c1 := H1.out.c1
        have c5 := H1.out.c5
        have f5 := H1.out.fz 5
        simp only at c7 c2 c6 c1 c5
        go_region
        all_goals
          go_wp2
          go_region
          all_goals
            go_wp2
            go_ret
            exact ⟨_, rfl, H1.out.drew.drew.set5 3, OwnQ.nil _ _, caOwn K1.out.drew.drew 5 _⟩
      · rw [if_neg h2]
        have hd : (c.again == c.retry) = false := by simpa using h2
        clear h2
        go_enter Tryz.func19, Tryz.ntmps19
        go_wp2_with (go_at_call 114; refine HA.out.mono ?_; rintro e w' ⟨rfl, hw⟩; rw [hw]; clear hw w')
        generalize hW : w.setCell ⟨b, 7, none⟩ (.int .i64 (c.ticks + 1)) = W at *
        have c7 := H1.out.c7
        have c2 := H1.out.c2
        have c6 := H1.out.c6
        have c1 := H1.out.c1
        have f6 := H1.out.fz 6
        simp only at c7 c2 c6 c1
        have H2 := hid (H1.out.drew.drew.set6 (c.again + 1))
        have K2 := hid (caOwn K1.out.drew.drew 6 (.int .i64 (c.again + 1)))
        have HK := hid (psAsk_any H2.out G.out.1 G.out.2)
        go_region
        all_goals
          go_wp2
          go_region
          all_goals
            go_wp2_with fail
            refine HK.out.mono ?_
            rintro e w' ⟨v, rfl, hc, ho, hk⟩
            have HC := hid hc
            have HO := hid ho
            have HK' := hid (K2.out.trans hk)
            have hs := K2.out.size
            clear hc ho hk
            go_wp2
            go_ret
            exact ⟨v, rfl, HC.out, HO.out.mono hs, HK'.out⟩
  · rw [if_neg hs]
    rw [show (c.st == 1) = false by simpa using hs] at HA
    have H := hid h
    clear h hg hs
    go_enter Tryz.func19, Tryz.ntmps19
    go_wp2_with (go_at_call 114; refine HA.out.mono ?_; rintro e w' ⟨rfl, hw⟩; rw [hw]; clear hw w')
    go_ret
    exact ⟨_, rfl, H.out, OwnQ.nil _ _, Kept.refl _ _⟩

set_option maxHeartbeats 1000000 in
set_option maxRecDepth 100000 in
theorem psJudge_any (b : Nat) (c : Ps) (good : Bool) (w : World) (h : PsIn w b c) : Calls Tryz.prog 21 #[.pointer (some ⟨b, 0, none⟩), .bool good] w fun e w' => ∃ v, e = .returned v ∧ PsIn w' b (judgeP c good).2 ∧ OwnQ w' w.heap.size v (judgeP c good).1 ∧ Kept (fun i => i = b) w w' := by
  have HA := hid (psIs_any b c 2 w h)
  unfold judgeP
  by_cases hs : c.st = 2
  · rw [if_pos hs]
    rw [show (c.st == 2) = true by simp [hs]] at HA
    have c5 := h.c5
    have f5 := h.fz 5
    have h1 := h.set5 5
    have K1 := hid (caOwn (Kept.refl (fun i => i = b) w) 5 (.int .i64 5))
    cases good with
    | false =>
      have HS := hid (psSay_any b _ _ h1)
      have H1 := hid h1
      clear h h1 hs
      go_enter Tryz.func21, Tryz.ntmps21
      go_wp2_with fail
      refine HA.out.mono ?_
      rintro e w' ⟨rfl, hw⟩
      rw [hw]
      clear hw w'
      go_wp2_with fail
      refine HS.out.mono ?_
      rintro e w' ⟨v, rfl, ho, hk⟩
      have HO := hid ho
      have HC := hid (H1.out.kept0 hk)
      have HK := hid (K1.out.trans (caNone hk))
      have hs := K1.out.size
      clear ho hk
      go_wp2
      go_ret
      exact ⟨v, rfl, HC.out, HO.out.mono hs, HK.out⟩
    | true =>
      have q5 := h1.c5
      have g5 := h1.fz 5
      have h2 := h1.set5 4
      have K2 := hid (caOwn K1.out 5 (.int .i64 4))
      have HS := hid (psSay_any b _ _ h2)
      have H1 := hid h2
      clear h h1 h2 hs
      go_enter Tryz.func21, Tryz.ntmps21
      go_wp2_with fail
      refine HA.out.mono ?_
      rintro e w' ⟨rfl, hw⟩
      rw [hw]
      clear hw w'
      go_wp2_with fail
      refine HS.out.mono ?_
      rintro e w' ⟨v, rfl, ho, hk⟩
      have HO := hid ho
      have HC := hid (H1.out.kept0 hk)
      have HK := hid (K2.out.trans (caNone hk))
      have hs := K2.out.size
      clear ho hk
      go_wp2
      go_ret
      exact ⟨v, rfl, HC.out, HO.out.mono hs, HK.out⟩
  · rw [if_neg hs]
    rw [show (c.st == 2) = false by simpa using hs] at HA
    have H := hid h
    clear h hs
    go_enter Tryz.func21, Tryz.ntmps21
    go_wp2_with fail
    refine HA.out.mono ?_
    rintro e w' ⟨rfl, hw⟩
    rw [hw]
    clear hw w'
    go_wp2
    go_ret
    exact ⟨_, rfl, H.out, OwnQ.nil _ _, Kept.refl _ _⟩

set_option maxHeartbeats 1000000 in
set_option maxRecDepth 100000 in
theorem psDone_any (b : Nat) (c : Ps) (w : World) (h : PsIn w b c) : Calls Tryz.prog 27 #[.pointer (some ⟨b, 0, none⟩)] w fun e w' => e = .returned (.tuple #[.bool (doneP c), .bool (c.st == 4)]) ∧ w' = w := by
  have A3 := hid (psIs_any b c 3 w h)
  have A4 := hid (psIs_any b c 4 w h)
  have A5 := hid (psIs_any b c 5 w h)
  clear h
  unfold doneP
  generalize (c.st == 3) = q3 at *
  generalize (c.st == 4) = q4 at *
  generalize (c.st == 5) = q5 at *
  cases q3 with
  | true =>
    go_enter Tryz.func27, Tryz.ntmps27
    go_wp2_with fail
    refine A3.out.mono ?_
    rintro e w' ⟨rfl, hw⟩
    rw [hw]
    clear hw w'
    go_wp2_with fail
    refine A4.out.mono ?_
    rintro e w' ⟨rfl, hw⟩
    rw [hw]
    clear hw w'
    go_wp2
    go_ret2
    exact ⟨rfl, rfl⟩
  | false =>
    cases q4 with
    | true =>
      go_enter Tryz.func27, Tryz.ntmps27
      go_wp2_with fail
      refine A3.out.mono ?_
      rintro e w' ⟨rfl, hw⟩
      rw [hw]
      clear hw w'
      go_wp2_with fail
      refine A4.out.mono ?_
      rintro e w' ⟨rfl, hw⟩
      rw [hw]
      clear hw w'
      go_wp2_with fail
      refine A4.out.mono ?_
      rintro e w' ⟨rfl, hw⟩
      rw [hw]
      clear hw w'
      go_wp2
      go_ret2
      exact ⟨rfl, rfl⟩
    | false =>
      go_enter Tryz.func27, Tryz.ntmps27
      go_wp2_with fail
      refine A3.out.mono ?_
      rintro e w' ⟨rfl, hw⟩
      rw [hw]
      clear hw w'
      go_wp2_with fail
      refine A4.out.mono ?_
      rintro e w' ⟨rfl, hw⟩
      rw [hw]
      clear hw w'
      go_wp2_with fail
      refine A5.out.mono ?_
      rintro e w' ⟨rfl, hw⟩
      rw [hw]
      clear hw w'
      go_wp2_with fail
      refine A4.out.mono ?_
      rintro e w' ⟨rfl, hw⟩
      rw [hw]
      clear hw w'
      go_wp2
      go_ret2
      exact ⟨rfl, rfl⟩
end Go.Proofs.YtndpfcanfcbldaaGreatDoor

namespace Go.Proofs.YtndpfcanfcbldaaGreatDoor
open Go.RowKit

theorem PsIn.far {w : World} {b r : Nat} {c : Ps} (h : PsIn w b c) (hne : b ≠ r) (j : Nat) (u : Value) : PsIn (w.setCell ⟨r, j, none⟩ u) b c := h.kept ((Kept.refl (fun i => i = r) w).setCell (p := ⟨r, j, none⟩) (Or.inr (by rfl)) u) hne
theorem respB {code id cid : Int} : (code == 2 && id == cid) = decide (code = 2 ∧ id = cid) := by
  by_cases h1 : code = 2 <;> by_cases h2 : id = cid <;> simp [h1, h2]

set_option maxHeartbeats 1000000 in
set_option maxRecDepth 100000 in
theorem psAgain_any (b : Nat) (c : Ps) (code id : Int) (p : Option Addr) (n cap : Nat) (s : ByteArray) (w : World) (h : PsIn w b c) :
    Calls Tryz.prog 23 #[.pointer (some ⟨b, 0, none⟩), pkV code id (.slice p n cap) s] w fun e w' => ∃ v, e = .returned v ∧ OwnQ w' w.heap.size v (againP c code id) ∧ Kept (fun _ => False) w w' := by
  unfold pkV
  have hk := (Kept.refl (fun _ => False) w).alloc (.cells #[.int .i64 code, .int .i64 id, .slice p n cap, .string s] 57)
  have H1 := hid (h.kept0 hk)
  have K1 := hid hk
  have X1 := hid (PkAt.new w code id (.slice p n cap) s)
  clear h hk
  have A4 := hid (fun W (hW : PsIn W b c) => psIs_any b c 4 W hW)
  have A5 := hid (fun W (hW : PsIn W b c) => psIs_any b c 5 W hW)
  have HR := hid (fun W (hW : PsIn W b c) => psResp_any b c code id p n cap s W hW)
  have HS := hid (fun W (hW : PsIn W b c) => psSay_any b c W hW)
  unfold againP
  rw [respB] at HR
  by_cases e4 : c.st = 4
  · rw [show (c.st == 4) = true by simp [e4]] at A4
    by_cases e2 : code = 2 ∧ id = c.id
    · rw [if_pos ⟨Or.inl e4, e2⟩]
      rw [show decide (code = 2 ∧ id = c.id) = true by simp [e2]] at HR
      clear e4 e2
      go_enter Tryz.func23, Tryz.ntmps23
      go_upto_region 1 with fail
      generalize w.alloc (.cells #[.int .i64 code, .int .i64 id, .slice p n cap, .string s] 57) = W at *
      obtain ⟨d0, d1, d2, d3⟩ := X1.out.cells
      go_wp2_with fail
      refine (A4.out _ H1.out).mono ?_
      rintro e w1 ⟨rfl, hw⟩
      rw [hw]
      clear hw w1
      go_wp2_with fail
      refine (HR.out _ H1.out).mono ?_
      rintro e w1 ⟨rfl, hk1⟩
      have H2 := hid (H1.out.kept0 hk1)
      have K2 := hid (K1.out.trans hk1)
      clear hk1
      go_wp2_with fail
      refine (HS.out _ H2.out).mono ?_
      rintro e w2 ⟨v, rfl, ho, hk2⟩
      have HO := hid ho
      have HK := hid (K2.out.trans hk2)
      have hs := K2.out.size
      clear ho hk2
      go_wp2
      go_ret
      exact ⟨v, rfl, HO.out.mono hs, HK.out⟩
    · rw [if_neg (fun h => e2 h.2)]
      rw [show decide (code = 2 ∧ id = c.id) = false by simpa using e2] at HR
      clear e4 e2
      go_enter Tryz.func23, Tryz.ntmps23
      go_upto_region 1 with fail
      generalize w.alloc (.cells #[.int .i64 code, .int .i64 id, .slice p n cap, .string s] 57) = W at *
      obtain ⟨d0, d1, d2, d3⟩ := X1.out.cells
      go_wp2_with fail
      refine (A4.out _ H1.out).mono ?_
      rintro e w1 ⟨rfl, hw⟩
      rw [hw]
      clear hw w1
      go_wp2_with fail
      refine (HR.out _ H1.out).mono ?_
      rintro e w1 ⟨rfl, hk1⟩
      have K2 := hid (K1.out.trans hk1)
      clear hk1
      go_wp2
      go_ret
      exact ⟨_, rfl, OwnQ.nil _ _, K2.out⟩
  · rw [show (c.st == 4) = false by simpa using e4] at A4
    by_cases e5 : c.st = 5
    · rw [show (c.st == 5) = true by simp [e5]] at A5
      by_cases e2 : code = 2 ∧ id = c.id
      · rw [if_pos ⟨Or.inr e5, e2⟩]
        rw [show decide (code = 2 ∧ id = c.id) = true by simp [e2]] at HR
        clear e4 e5 e2
        go_enter Tryz.func23, Tryz.ntmps23
        go_upto_region 1 with fail
        generalize w.alloc (.cells #[.int .i64 code, .int .i64 id, .slice p n cap, .string s] 57) = W at *
        obtain ⟨d0, d1, d2, d3⟩ := X1.out.cells
        go_wp2_with fail
        refine (A4.out _ H1.out).mono ?_
        rintro e w1 ⟨rfl, hw⟩
        rw [hw]
        clear hw w1
        go_wp2_with fail
        refine (A5.out _ H1.out).mono ?_
        rintro e w1 ⟨rfl, hw⟩
        rw [hw]
        clear hw w1
        go_wp2_with fail
        refine (HR.out _ H1.out).mono ?_
        rintro e w1 ⟨rfl, hk1⟩
        have H2 := hid (H1.out.kept0 hk1)
        have K2 := hid (K1.out.trans hk1)
        clear hk1
        go_wp2_with fail
        refine (HS.out _ H2.out).mono ?_
        rintro e w2 ⟨v, rfl, ho, hk2⟩
        have HO := hid ho
        have HK := hid (K2.out.trans hk2)
        have hs := K2.out.size
        clear ho hk2
        go_wp2
        go_ret
        exact ⟨v, rfl, HO.out.mono hs, HK.out⟩
      · rw [if_neg (fun h => e2 h.2)]
        rw [show decide (code = 2 ∧ id = c.id) = false by simpa using e2] at HR
        clear e4 e5 e2
        go_enter Tryz.func23, Tryz.ntmps23
        go_upto_region 1 with fail
        generalize w.alloc (.cells #[.int .i64 code, .int .i64 id, .slice p n cap, .string s] 57) = W at *
        obtain ⟨d0, d1, d2, d3⟩ := X1.out.cells
        go_wp2_with fail
        refine (A4.out _ H1.out).mono ?_
        rintro e w1 ⟨rfl, hw⟩
        rw [hw]
        clear hw w1
        go_wp2_with fail
        refine (A5.out _ H1.out).mono ?_
        rintro e w1 ⟨rfl, hw⟩
        rw [hw]
        clear hw w1
        go_wp2_with fail
        refine (HR.out _ H1.out).mono ?_
        rintro e w1 ⟨rfl, hk1⟩
        have K2 := hid (K1.out.trans hk1)
        clear hk1
        go_wp2
        go_ret
        exact ⟨_, rfl, OwnQ.nil _ _, K2.out⟩
    · rw [show (c.st == 5) = false by simpa using e5] at A5
      rw [if_neg (fun h => h.1.elim e4 e5)]
      clear e4 e5
      go_enter Tryz.func23, Tryz.ntmps23
      go_upto_region 1 with fail
      generalize w.alloc (.cells #[.int .i64 code, .int .i64 id, .slice p n cap, .string s] 57) = W at *
      obtain ⟨d0, d1, d2, d3⟩ := X1.out.cells
      go_wp2_with fail
      refine (A4.out _ H1.out).mono ?_
      rintro e w1 ⟨rfl, hw⟩
      rw [hw]
      clear hw w1
      go_wp2_with fail
      refine (A5.out _ H1.out).mono ?_
      rintro e w1 ⟨rfl, hw⟩
      rw [hw]
      clear hw w1
      go_wp2
      go_ret
      exact ⟨_, rfl, OwnQ.nil _ _, K1.out⟩

set_option maxHeartbeats 2000000 in
set_option maxRecDepth 100000 in
theorem psTake_any (b : Nat) (c : Ps) (code id : Int) (p : Option Addr) (n cap : Nat) (s : ByteArray) (hs : s.size ≤ 140737488351232) (w : World) (h : PsIn w b c) :
    Calls Tryz.prog 25 #[.pointer (some ⟨b, 0, none⟩), pkV code id (.slice p n cap) s] w fun e w' => e = .returned (.tuple #[cmV (takeP c code id s).1, .bool (takeP c code id s).2.1]) ∧ PsIn w' b (takeP c code id s).2.2 ∧ Kept (fun i => i = b) w w' := by
  unfold pkV
  have hk1 := (Kept.refl (fun _ => False) w).alloc (.cells #[.int .i64 code, .int .i64 id, .slice p n cap, .string s] 57)
  have hk2 := (Kept.refl (fun _ => False) (w.alloc (.cells #[.int .i64 code, .int .i64 id, .slice p n cap, .string s] 57))).alloc (.cells #[.string ⟨#[]⟩, .string ⟨#[]⟩, .string ⟨#[]⟩, .int .i64 0] 77)
  have H1 := hid (h.kept0 (hk1.trans hk2))
  have K1 := hid (hk1.trans hk2)
  have X1 := hid ((PkAt.new w code id (.slice p n cap) s).kept hk2 (fun h => h))
  have O1 := hid (own4_new (w.alloc (.cells #[.int .i64 code, .int .i64 id, .slice p n cap, .string s] 57)) 77 (.string ⟨#[]⟩) (.string ⟨#[]⟩) (.string ⟨#[]⟩) (.int .i64 0))
  have hsz : (w.alloc (.cells #[.int .i64 code, .int .i64 id, .slice p n cap, .string s] 57)).heap.size = w.heap.size + 1 := by simp
  rw [hsz] at O1
  have hne : b ≠ w.heap.size + 1 := by have := h.lt; omega
  clear hk1 hk2 hsz h
  have A1 := hid (fun W (hW : PsIn W b c) => psIs_any b c 1 W hW)
  have HR := hid (fun W (hW : PsIn W b c) => psResp_any b c code id p n cap s W hW)
  rw [respB] at HR
  unfold takeP
  by_cases e0 : c.st = 1
  · rw [show (c.st == 1) = true by simp [e0]] at A1
    by_cases e1 : code = 2 ∧ id = c.id
    · rw [show decide (code = 2 ∧ id = c.id) = true by simp [e1]] at HR
      have HG := hid (getVal_any s hs)
      by_cases e3 : (getValF s).2.2 = 0
      · rw [if_pos ⟨e0, e1.1, e1.2, e3⟩]
        generalize getValF s = R at *
        obtain ⟨x, y, E⟩ := R
        simp only at HG e3
        subst e3
        clear e1 e0
        go_enter Tryz.func25, Tryz.ntmps25
        go_upto_region 1 with fail
        generalize (w.alloc (.cells #[.int .i64 code, .int .i64 id, .slice p n cap, .string s] 57)).alloc (.cells #[.string ⟨#[]⟩, .string ⟨#[]⟩, .string ⟨#[]⟩, .int .i64 0] 77) = W at *
        obtain ⟨d0, d1, d2, d3⟩ := X1.out.cells
        go_wp2_with fail
        refine (A1.out _ H1.out).mono ?_
        rintro e w1 ⟨rfl, hw⟩
        rw [hw]
        clear hw w1
        go_wp2_with fail
        refine (HR.out _ H1.out).mono ?_
        rintro e w1 ⟨rfl, hkr⟩
        obtain ⟨q0, q1, q2, q3⟩ := (X1.out.kept hkr (fun h => h)).cells
        have HKR := hid hkr
        clear hkr d0 d1 d2 d3
        go_wp2_with fail
        refine (HG.out _).mono ?_
        rintro e w2 ⟨rfl, hk⟩
        have HK := hid (HKR.out.trans hk)
        obtain ⟨⟨o0, o1, o2, o3⟩, of⟩ := O1.out.kept HK.out
        have H2 := hid (H1.out.kept0 HK.out)
        have K2 := hid (caNone (b := b) (K1.out.trans HK.out))
        clear hk HK HKR q0 q1 q2 q3
        have q5 := H2.out.c5
        have g5 := H2.out.fz 5
        have H4 := hid (H2.out.set5 2)
        have K4 := hid (caOwn K2.out 5 (.int .i64 2))
        have q3 := H4.out.c3
        have q4 := H4.out.c4
        simp only at q5 q3 q4
        have kk := hid (caOwn (Kept.refl (fun i => i = b) w2) 5 (.int .i64 2))
        have p0 := (kk.out.cell (p := ⟨w.heap.size + 1, 0, none⟩) (lt_of_cell o0) hne.symm).trans o0
        have p1 := (kk.out.cell (p := ⟨w.heap.size + 1, 1, none⟩) (lt_of_cell o1) hne.symm).trans o1
        have p2 := (kk.out.cell (p := ⟨w.heap.size + 1, 2, none⟩) (lt_of_cell o2) hne.symm).trans o2
        have p3 := (kk.out.cell (p := ⟨w.heap.size + 1, 3, none⟩) (lt_of_cell o3) hne.symm).trans o3
        have hlt0 : w.heap.size + 1 < w2.heap.size := lt_of_cell o0
        have pf : ∀ i, World.frozen? (w2.setCell ⟨b, 5, none⟩ (.int .i64 2)) ⟨w.heap.size + 1, i, none⟩ = false := fun i => (kk.out.frozen (p := ⟨w.heap.size + 1, i, none⟩) hlt0 hne.symm).trans (of i)
        go_upto_region 7 with fail
        generalize w2.setCell ⟨b, 5, none⟩ (.int .i64 2) = W4 at *
        have pf0 := pf 0
        have pf1 := pf 1
        have pf2 := pf 2
        have pf3 := pf 3
        clear o0 o1 o2 o3 of q5 g5 kk hlt0
        go_region
        all_goals
          go_wp2
          refine bodyPost_ret (v := .tuple #[.agg #[.string y, .string c.value, .string x, .int .i64 c.id], .bool true]) (by simp [results, Tryz.results25, go_sem, p0, p1, p2, p3]) rfl ⟨rfl, ?_, ?_⟩
          · exact ((((show PsIn W4.drew b _ from H4.out).far hne 0 _).far hne 1 _).far hne 2 _).far hne 3 _
          · exact ((((K4.out.drew.setCell (Or.inl (Nat.le_succ _)) _).setCell (Or.inl (Nat.le_succ _)) _).setCell (Or.inl (Nat.le_succ _)) _).setCell (Or.inl (Nat.le_succ _)) _)
      · rw [if_neg (fun h => e3 h.2.2.2)]
        have e3' : ((getValF s).2.2 != 0) = true := by simpa using e3
        generalize getValF s = R at *
        obtain ⟨x, y, E⟩ := R
        simp only at HG e3'
        clear e1 e3 e0
        go_enter Tryz.func25, Tryz.ntmps25
        go_upto_region 1 with fail
        generalize (w.alloc (.cells #[.int .i64 code, .int .i64 id, .slice p n cap, .string s] 57)).alloc (.cells #[.string ⟨#[]⟩, .string ⟨#[]⟩, .string ⟨#[]⟩, .int .i64 0] 77) = W at *
        obtain ⟨d0, d1, d2, d3⟩ := X1.out.cells
        go_wp2_with fail
        refine (A1.out _ H1.out).mono ?_
        rintro e w1 ⟨rfl, hw⟩
        rw [hw]
        clear hw w1
        go_wp2_with fail
        refine (HR.out _ H1.out).mono ?_
        rintro e w1 ⟨rfl, hkr⟩
        obtain ⟨q0, q1, q2, q3⟩ := (X1.out.kept hkr (fun h => h)).cells
        have HKR := hid hkr
        clear hkr d0 d1 d2 d3
        go_wp2_with fail
        refine (HG.out _).mono ?_
        rintro e w2 ⟨rfl, hk⟩
        have HK := hid (HKR.out.trans hk)
        obtain ⟨⟨o0, o1, o2, o3⟩, of⟩ := O1.out.kept HK.out
        have H2 := hid (H1.out.kept0 HK.out)
        have K2 := hid (caNone (b := b) (K1.out.trans HK.out))
        clear hk HK HKR q0 q1 q2 q3
        go_wp2
        refine bodyPost_ret (v := .tuple #[.agg #[.string ⟨#[]⟩, .string ⟨#[]⟩, .string ⟨#[]⟩, .int .i64 0], .bool false]) (by simp [results, Tryz.results25, go_sem, o0, o1, o2, o3]) rfl ⟨rfl, ?_, ?_⟩
        · exact (((H2.out.far hne 0 _).far hne 1 _).far hne 2 _).far hne 3 _
        · exact ((((K2.out.setCell (Or.inl (Nat.le_succ _)) _).setCell (Or.inl (Nat.le_succ _)) _).setCell (Or.inl (Nat.le_succ _)) _).setCell (Or.inl (Nat.le_succ _)) _)
    · rw [if_neg (fun h => e1 ⟨h.2.1, h.2.2.1⟩)]
      rw [show decide (code = 2 ∧ id = c.id) = false by simpa using e1] at HR
      clear e1 e0
      go_enter Tryz.func25, Tryz.ntmps25
      go_upto_region 1 with fail
      generalize (w.alloc (.cells #[.int .i64 code, .int .i64 id, .slice p n cap, .string s] 57)).alloc (.cells #[.string ⟨#[]⟩, .string ⟨#[]⟩, .string ⟨#[]⟩, .int .i64 0] 77) = W at *
      obtain ⟨d0, d1, d2, d3⟩ := X1.out.cells
      go_wp2_with fail
      refine (A1.out _ H1.out).mono ?_
      rintro e w1 ⟨rfl, hw⟩
      rw [hw]
      clear hw w1
      go_wp2_with fail
      refine (HR.out _ H1.out).mono ?_
      rintro e w2 ⟨rfl, hk⟩
      have HK := hid hk
      obtain ⟨⟨o0, o1, o2, o3⟩, of⟩ := O1.out.kept HK.out
      have H2 := hid (H1.out.kept0 HK.out)
      have K2 := hid (caNone (b := b) (K1.out.trans HK.out))
      clear hk HK d0 d1 d2 d3
      go_wp2
      refine bodyPost_ret (v := .tuple #[.agg #[.string ⟨#[]⟩, .string ⟨#[]⟩, .string ⟨#[]⟩, .int .i64 0], .bool false]) (by simp [results, Tryz.results25, go_sem, o0, o1, o2, o3]) rfl ⟨rfl, ?_, ?_⟩
      · exact (((H2.out.far hne 0 _).far hne 1 _).far hne 2 _).far hne 3 _
      · exact ((((K2.out.setCell (Or.inl (Nat.le_succ _)) _).setCell (Or.inl (Nat.le_succ _)) _).setCell (Or.inl (Nat.le_succ _)) _).setCell (Or.inl (Nat.le_succ _)) _)
  · rw [if_neg (fun h => e0 h.1)]
    rw [show (c.st == 1) = false by simpa using e0] at A1
    clear e0
    go_enter Tryz.func25, Tryz.ntmps25
    go_upto_region 1 with fail
    generalize (w.alloc (.cells #[.int .i64 code, .int .i64 id, .slice p n cap, .string s] 57)).alloc (.cells #[.string ⟨#[]⟩, .string ⟨#[]⟩, .string ⟨#[]⟩, .int .i64 0] 77) = W at *
    obtain ⟨⟨o0, o1, o2, o3⟩, of⟩ := O1.out
    go_wp2_with fail
    refine (A1.out _ H1.out).mono ?_
    rintro e w1 ⟨rfl, hw⟩
    rw [hw]
    clear hw w1
    go_wp2
    refine bodyPost_ret (v := .tuple #[.agg #[.string ⟨#[]⟩, .string ⟨#[]⟩, .string ⟨#[]⟩, .int .i64 0], .bool false]) (by simp [results, Tryz.results25, go_sem, o0, o1, o2, o3]) rfl ⟨rfl, ?_, ?_⟩
    · exact (((H1.out.far hne 0 _).far hne 1 _).far hne 2 _).far hne 3 _
    · exact ((((caNone K1.out).setCell (Or.inl (Nat.le_succ _)) _).setCell (Or.inl (Nat.le_succ _)) _).setCell (Or.inl (Nat.le_succ _)) _).setCell (Or.inl (Nat.le_succ _)) _
end Go.Proofs.YtndpfcanfcbldaaGreatDoor

namespace Go.Proofs.YtndpfcanfcbldaaGreatDoor
open Go.RowKit

/-- The answer to a challenge. -/
def chapK (i : Int) (s v : ByteArray) : ByteArray := ⟨(chapF i s.data.toList v.data.toList).toArray⟩
theorem chapK_size (i : Int) (s v : ByteArray) : (chapK i s v).size = 16 := by
  rw [Lib.size_eq]
  exact chapF_length _ _ _
theorem chapK_any (i : Int) (s v : ByteArray) (hs : s.size ≤ 60) (hv : v.size ≤ 60) (W : World) (hT : Tables W) :
    Calls Tryz.prog 28 #[.int .i64 i, .string s, .string v] W fun e w' => e = .returned (.string (chapK i s v)) ∧ Kept (fun _ => False) W w' :=
  (chap_any i s v (by omega) (by omega) W hT).mono fun _ _ ⟨he, hb⟩ => ⟨he, kept_of hb⟩
theorem tab_kept {W W' : World} (hT : Tables W) (hk : Kept (fun _ => False) W W') : Tables W' := hT.next (below_of hk)
/-- The tables stay where nothing turns but the block b. -/
def TabB (b : Nat) (W : World) : Prop := ∀ W', Kept (fun i => i = b) W W' → Tables W'
theorem TabB.mk {w W : World} {b : Nat} (hT : Tables w) (hb : Below w.heap.size w W) (hl : w.heap.size ≤ b) : TabB b W := fun W' hk => hT.next (hb.trans (hk.below hb.size (fun i hi => by omega)))
theorem TabB.next {W W' : World} {b : Nat} (h : TabB b W) (hk : Kept (fun i => i = b) W W') : TabB b W' := fun W2 hk2 => h W2 (hk.trans hk2)
theorem TabB.tab {W : World} {b : Nat} (h : TabB b W) : Tables W := h W (Kept.refl _ _)
end Go.Proofs.YtndpfcanfcbldaaGreatDoor

namespace Go.Proofs.YtndpfcanfcbldaaGreatDoor
open Go.RowKit

theorem LcIn.nePk {w : World} {b g : Nat} {c : Cr} {co i : Int} {v : Value} {d : ByteArray} (h : LcIn w b c) (hp : PkAt w g co i v d) : g ≠ b := fun e => by
  unfold PkAt at hp
  unfold LcIn at h
  rw [e, h] at hp
  simp at hp

/-- What NewClient answers. -/
def LNewIs (n s : ByteArray) (w : World) (e : Ending) (w' : World) : Prop :=
  ((60 < n.size ∨ 60 < s.size) ∧ e = .returned (.tuple #[.pointer none, .int .i64 2]) ∨
   (n.size ≤ 60 ∧ s.size ≤ 60) ∧ e = .returned (.tuple #[.pointer (some ⟨w.heap.size, 0, none⟩), .int .i64 0]) ∧ LcIn w' w.heap.size (newCr n s)) ∧ Kept (fun _ => False) w w'

set_option maxHeartbeats 1000000 in
set_option maxRecDepth 100000 in
theorem lcNew_any (n s : ByteArray) (hn : n.size ≤ 140737488351232) (hs : s.size ≤ 140737488351232) (w : World) : Calls Tryz.prog 7 #[.string n, .string s] w (LNewIs n s w) := by
  have L1 := hid (caLong_any n hn)
  have L2 := hid (caLong_any s hs)
  by_cases h1 : 60 < n.size
  · rw [show longB n = true by simp [longB, h1]] at L1
    have H := hid h1
    clear h1
    go_enter Tryz.func7, Tryz.ntmps7
    go_wp2_with fail
    refine (L1.out _).mono ?_
    rintro e w1 ⟨rfl, hw⟩
    rw [hw]
    clear hw w1
    go_wp2
    go_ret2
    exact ⟨Or.inl ⟨Or.inl H.out, rfl⟩, Kept.refl _ _⟩
  · rw [show longB n = false by simp [longB]; omega] at L1
    by_cases h2 : 60 < s.size
    · rw [show longB s = true by simp [longB, h2]] at L2
      have H := hid h2
      clear h1 h2
      go_enter Tryz.func7, Tryz.ntmps7
      go_wp2_with fail
      refine (L1.out _).mono ?_
      rintro e w1 ⟨rfl, hw⟩
      rw [hw]
      clear hw w1
      go_wp2_with fail
      refine (L2.out _).mono ?_
      rintro e w1 ⟨rfl, hw⟩
      rw [hw]
      clear hw w1
      go_wp2
      go_ret2
      exact ⟨Or.inl ⟨Or.inr H.out, rfl⟩, Kept.refl _ _⟩
    · rw [show longB s = false by simp [longB]; omega] at L2
      have H12 := hid (And.intro (Nat.le_of_not_lt h1) (Nat.le_of_not_lt h2))
      clear h1 h2
      go_enter Tryz.func7, Tryz.ntmps7
      go_wp2_with fail
      refine (L1.out _).mono ?_
      rintro e w1 ⟨rfl, hw⟩
      rw [hw]
      clear hw w1
      go_wp2_with fail
      refine (L2.out _).mono ?_
      rintro e w1 ⟨rfl, hw⟩
      rw [hw]
      clear hw w1
      go_wp2
      go_ret2
      exact ⟨Or.inr ⟨H12.out, rfl, heap_alloc_new w _⟩, (Kept.refl _ w).alloc _⟩

set_option maxHeartbeats 2000000 in
set_option maxRecDepth 100000 in
/-- A Challenge is answered. -/
theorem lcAnswer_any (b : Nat) (c : Cr) (hn : c.name.size ≤ 60) (hs : c.secret.size ≤ 60) (id : Int) (p : Option Addr) (n cap : Nat) (s : ByteArray) (hd : s.size ≤ 140737488351232) (w : World) (hT : TabB b w) (h : LcIn w b c) :
    Calls Tryz.prog 30 #[.pointer (some ⟨b, 0, none⟩), .agg #[.int .i64 1, .int .i64 id, .slice p n cap, .string s]] w fun e w' => ∃ v, e = .returned v ∧ LcIn w' b (takeCr chapK c 1 id s).2 ∧ OwnQ w' w.heap.size v (takeCr chapK c 1 id s).1 ∧ Kept (fun i => i = b) w w' := by
  have hk := (Kept.refl (fun _ => False) w).alloc (.cells #[.int .i64 1, .int .i64 id, .slice p n cap, .string s] 57)
  have H1 := hid (h.kept0 hk)
  have K1 := hid (caNone (b := b) hk)
  have X1 := hid (PkAt.new w 1 id (.slice p n cap) s)
  have hne : Hid (w.heap.size ≠ b) := fun e => by have := h.lt; omega
  have HT := hid hT
  clear h hk hT
  have HG := hid (getVal_any s hd)
  have hgs := (getValF_size s).1
  unfold takeCr
  rw [if_pos (by rfl)]
  by_cases e2 : (getValF s).2.2 = 0
  · rw [if_pos e2]
    generalize getValF s = R at *
    obtain ⟨x, y, E⟩ := R
    simp only at HG e2 hgs
    subst e2
    have HC := hid (fun W hTW => chapK_any id c.secret x hs hgs W hTW)
    have hR := chapK_size id c.secret x
    simp only
    generalize chapK id c.secret x = RR at *
    have HL := hid (caLay_any RR c.name (by omega) hn)
    generalize layF RR ++ c.name = D at *
    clear hR hn hs hgs hd
    go_enter Tryz.func30, Tryz.ntmps30
    go_upto_region 1 with fail
    generalize w.alloc (.cells #[.int .i64 1, .int .i64 id, .slice p n cap, .string s] 57) = W at *
    obtain ⟨d0, d1, d2, d3⟩ := X1.out.cells
    go_wp2_with fail
    refine (HG.out _).mono ?_
    rintro e w2 ⟨rfl, hk2⟩
    have H2 := hid (H1.out.kept0 hk2)
    have K2 := hid (K1.out.trans (caNone hk2))
    have X2 := hid (X1.out.kept hk2 (fun h => h))
    clear hk2 d0 d1 d2 d3 HG H1 K1 X1
    obtain ⟨d0, d1, d2, d3⟩ := X2.out.cells
    have q3 := H2.out.c3
    have q4 := H2.out.c4
    have f3 := H2.out.fz 3
    have f4 := H2.out.fz 4
    go_wp2
    go_region
    all_goals
      have H4 : Hid (LcIn ((w2.setCell ⟨b, 3, none⟩ (.bool true)).setCell ⟨b, 4, none⟩ (.int .i64 id)).drew b { c with answered := true, id := id }) := ((H2.out.set3 true).set4 id).drew
      have kk := (caOwn (caOwn (Kept.refl (fun i => i = b) w2) 3 (.bool true)) 4 (.int .i64 id)).drew
      have K4 := hid (K2.out.trans kk)
      have X4 := hid (X2.out.kept kk hne.out)
      clear kk d0 d1 d2 d3 q3 q4 f3 f4 X2 H2
      go_upto_region 5 with fail
      generalize ((w2.setCell ⟨b, 3, none⟩ (.bool true)).setCell ⟨b, 4, none⟩ (.int .i64 id)).drew = W4 at *
      have g1 : ∀ W, Kept (fun _ => False) W4 W → W.cell? ⟨w.heap.size, 1, none⟩ = some (.int .i64 id) := fun W hk => (X4.out.kept hk (fun h => h)).cells.2.1
      have r1 : ∀ W, Kept (fun _ => False) W4 W → W.cell? ⟨b, 1, none⟩ = some (.string c.name) := fun W hk => (H4.out.kept0 hk).c1
      have r2 : ∀ W, Kept (fun _ => False) W4 W → W.cell? ⟨b, 2, none⟩ = some (.string c.secret) := fun W hk => (H4.out.kept0 hk).c2
      refine wp_region_held_drew (S := Kept (fun _ => False) W4) (by kernel_rfl) ((Kept.refl _ W4).drew) (fun hSd => ?_)
      refine wpAnyH_take (i := 0) (v := ?_) rfl (by kernel_rfl) (by kernel_rfl) (by kernel_rfl) (fun _ _ _ h => h) (Or.inl ⟨by kernel_rfl, fun W hSW => by go_simp; try with_reducible rfl⟩) (by assumption) ?_
      try simp only [List.getElem_toArray]
      try simp only [List.getElem_cons_succ]
      try simp only [List.getElem_cons_zero]
      try simp only [Act.put]
      try simp only [List.setIfInBounds_toArray]
      try simp only [List.set_cons_succ]
      try simp only [List.set_cons_zero]
      refine wpAnyH_take (i := 1) (v := ?_) rfl (by kernel_rfl) (by kernel_rfl) (by kernel_rfl) (fun _ _ _ h => h) (Or.inl ⟨by kernel_rfl, fun W hSW => by go_simp; try with_reducible rfl⟩) (by assumption) ?_
      try simp only [List.getElem_toArray]
      try simp only [List.getElem_cons_succ]
      try simp only [List.getElem_cons_zero]
      try simp only [Act.put]
      try simp only [List.setIfInBounds_toArray]
      try simp only [List.set_cons_succ]
      try simp only [List.set_cons_zero]
      refine wpAnyH_take (i := 2) (v := ?_) rfl (by kernel_rfl) (by kernel_rfl) (by kernel_rfl) (fun _ _ _ h => h) (Or.inl ⟨by kernel_rfl, fun W hSW => by go_simp; try with_reducible rfl⟩) (by assumption) ?_
      try simp only [List.getElem_toArray]
      try simp only [List.getElem_cons_succ]
      try simp only [List.getElem_cons_zero]
      try simp only [Act.put]
      try simp only [List.setIfInBounds_toArray]
      try simp only [List.set_cons_succ]
      try simp only [List.set_cons_zero]
      refine wpAnyH_take (i := 3) (v := ?_) rfl (by kernel_rfl) (by kernel_rfl) (by kernel_rfl) (fun _ _ _ h => h) (Or.inl ⟨by kernel_rfl, fun W hSW => by go_simp; try with_reducible rfl⟩) (by assumption) ?_
      try simp only [List.getElem_toArray]
      try simp only [List.getElem_cons_succ]
      try simp only [List.getElem_cons_zero]
      try simp only [Act.put]
      try simp only [List.setIfInBounds_toArray]
      try simp only [List.set_cons_succ]
      try simp only [List.set_cons_zero]
      refine wpAnyH_take (i := 4) (v := ?_) rfl (by kernel_rfl) (by kernel_rfl) (by kernel_rfl) (fun _ _ _ h => h) (Or.inl ⟨by kernel_rfl, fun W hSW => by go_simp; try with_reducible rfl⟩) (by assumption) ?_
      try simp only [List.getElem_toArray]
      try simp only [List.getElem_cons_succ]
      try simp only [List.getElem_cons_zero]
      try simp only [Act.put]
      try simp only [List.setIfInBounds_toArray]
      try simp only [List.set_cons_succ]
      try simp only [List.set_cons_zero]
      refine wpAnyH_take (i := 5) (v := ?_) rfl (by kernel_rfl) (by kernel_rfl) (by kernel_rfl) (fun _ _ _ h => h) (Or.inl ⟨by kernel_rfl, fun W hSW => by go_simp; try with_reducible rfl⟩) (by assumption) ?_
      try simp only [List.getElem_toArray]
      try simp only [List.getElem_cons_succ]
      try simp only [List.getElem_cons_zero]
      try simp only [Act.put]
      try simp only [List.setIfInBounds_toArray]
      try simp only [List.set_cons_succ]
      try simp only [List.set_cons_zero]
      refine wpAnyH_take (i := 6) (v := ?_) rfl (by kernel_rfl) (by kernel_rfl) (by kernel_rfl) (fun _ _ _ h => h) (Or.inl ⟨by kernel_rfl, fun W hSW => by go_simp; try with_reducible rfl⟩) (by assumption) ?_
      try simp only [List.getElem_toArray]
      try simp only [List.getElem_cons_succ]
      try simp only [List.getElem_cons_zero]
      try simp only [Act.put]
      try simp only [List.setIfInBounds_toArray]
      try simp only [List.set_cons_succ]
      try simp only [List.set_cons_zero]
      refine wpAnyH_ready (rs := [7]) (by kernel_rfl) (by simp) ?_
      refine AllReadyH.cons rfl (fun K hK => ?_) AllReadyH.nil
      go_simp
      refine (HC.out _ (HT.out _ (K4.out.trans (caNone hSd)))).mono ?_
      rintro e w5 ⟨rfl, hk5⟩
      have hS5 : Kept (fun _ => False) W4 w5 := hSd.trans hk5
      clear hk5
      refine hK.out _ _ (hS5) (fun _ => ?_)
      clear hK K
      try simp only [List.getElem_toArray]
      try simp only [List.getElem_cons_succ]
      try simp only [List.getElem_cons_zero]
      try simp only [Act.put]
      try simp only [List.setIfInBounds_toArray]
      try simp only [List.set_cons_succ]
      try simp only [List.set_cons_zero]
      refine wpAnyH_take (i := 8) (v := ?_) rfl (by kernel_rfl) (by kernel_rfl) (by kernel_rfl) (fun _ _ _ h => h) (Or.inl ⟨by kernel_rfl, fun W hSW => by go_simp; try with_reducible rfl⟩) (by assumption) ?_
      try simp only [List.getElem_toArray]
      try simp only [List.getElem_cons_succ]
      try simp only [List.getElem_cons_zero]
      try simp only [Act.put]
      try simp only [List.setIfInBounds_toArray]
      try simp only [List.set_cons_succ]
      try simp only [List.set_cons_zero]
      refine wpAnyH_done (by kernel_rfl) ?_ _
      go_upto_region 6 with fail
      refine wp_region_held_drew (S := Kept (fun _ => False) W4) (by kernel_rfl) (hS5.drew) (fun hSd => ?_)
      refine wpAnyH_take (i := 0) (v := ?_) rfl (by kernel_rfl) (by kernel_rfl) (by kernel_rfl) (fun _ _ _ h => h) (Or.inl ⟨by kernel_rfl, fun W hSW => by go_simp; try with_reducible rfl⟩) (by assumption) ?_
      try simp only [List.getElem_toArray]
      try simp only [List.getElem_cons_succ]
      try simp only [List.getElem_cons_zero]
      try simp only [Act.put]
      try simp only [List.setIfInBounds_toArray]
      try simp only [List.set_cons_succ]
      try simp only [List.set_cons_zero]
      refine wpAnyH_take (i := 1) (v := ?_) rfl (by kernel_rfl) (by kernel_rfl) (by kernel_rfl) (fun _ _ _ h => h) (Or.inl ⟨by kernel_rfl, fun W hSW => by go_simp; try with_reducible rfl⟩) (by assumption) ?_
      try simp only [List.getElem_toArray]
      try simp only [List.getElem_cons_succ]
      try simp only [List.getElem_cons_zero]
      try simp only [Act.put]
      try simp only [List.setIfInBounds_toArray]
      try simp only [List.set_cons_succ]
      try simp only [List.set_cons_zero]
      refine wpAnyH_take (i := 2) (v := ?_) rfl (by kernel_rfl) (by kernel_rfl) (by kernel_rfl) (fun _ _ _ h => h) (Or.inl ⟨by kernel_rfl, fun W hSW => by go_simp; try with_reducible rfl⟩) (by assumption) ?_
      try simp only [List.getElem_toArray]
      try simp only [List.getElem_cons_succ]
      try simp only [List.getElem_cons_zero]
      try simp only [Act.put]
      try simp only [List.setIfInBounds_toArray]
      try simp only [List.set_cons_succ]
      try simp only [List.set_cons_zero]
      refine wpAnyH_take (i := 3) (v := ?_) rfl (by kernel_rfl) (by kernel_rfl) (by kernel_rfl) (fun _ _ _ h => h) (Or.inl ⟨by kernel_rfl, fun W hSW => by go_simp; try with_reducible rfl⟩) (by assumption) ?_
      try simp only [List.getElem_toArray]
      try simp only [List.getElem_cons_succ]
      try simp only [List.getElem_cons_zero]
      try simp only [Act.put]
      try simp only [List.setIfInBounds_toArray]
      try simp only [List.set_cons_succ]
      try simp only [List.set_cons_zero]
      refine wpAnyH_take (i := 4) (v := ?_) rfl (by kernel_rfl) (by kernel_rfl) (by kernel_rfl) (fun _ _ _ h => h) (Or.inl ⟨by kernel_rfl, fun W hSW => by go_simp; try with_reducible rfl⟩) (by assumption) ?_
      try simp only [List.getElem_toArray]
      try simp only [List.getElem_cons_succ]
      try simp only [List.getElem_cons_zero]
      try simp only [Act.put]
      try simp only [List.setIfInBounds_toArray]
      try simp only [List.set_cons_succ]
      try simp only [List.set_cons_zero]
      refine wpAnyH_take (i := 5) (v := ?_) rfl (by kernel_rfl) (by kernel_rfl) (by kernel_rfl) (fun _ _ _ h => h) (Or.inl ⟨by kernel_rfl, fun W hSW => by go_simp; try with_reducible rfl⟩) (by assumption) ?_
      try simp only [List.getElem_toArray]
      try simp only [List.getElem_cons_succ]
      try simp only [List.getElem_cons_zero]
      try simp only [Act.put]
      try simp only [List.setIfInBounds_toArray]
      try simp only [List.set_cons_succ]
      try simp only [List.set_cons_zero]
      refine wpAnyH_take (i := 6) (v := ?_) rfl (by kernel_rfl) (by kernel_rfl) (by kernel_rfl) (fun _ _ _ h => h) (Or.inl ⟨by kernel_rfl, fun W hSW => by go_simp; try with_reducible rfl⟩) (by assumption) ?_
      try simp only [List.getElem_toArray]
      try simp only [List.getElem_cons_succ]
      try simp only [List.getElem_cons_zero]
      try simp only [Act.put]
      try simp only [List.setIfInBounds_toArray]
      try simp only [List.set_cons_succ]
      try simp only [List.set_cons_zero]
      refine wpAnyH_ready (rs := [7]) (by kernel_rfl) (by simp) ?_
      refine AllReadyH.cons rfl (fun K hK => ?_) AllReadyH.nil
      go_simp
      refine (HL.out _).mono ?_
      rintro e w6 ⟨rfl, hk6⟩
      have hS6 : Kept (fun _ => False) W4 w6 := (hS5.drew).trans hk6
      clear hk6
      refine hK.out _ _ (hS6) (fun _ => ?_)
      clear hK K
      try simp only [List.getElem_toArray]
      try simp only [List.getElem_cons_succ]
      try simp only [List.getElem_cons_zero]
      try simp only [Act.put]
      try simp only [List.setIfInBounds_toArray]
      try simp only [List.set_cons_succ]
      try simp only [List.set_cons_zero]
      refine wpAnyH_take (i := 8) (v := ?_) rfl (by kernel_rfl) (by kernel_rfl) (by kernel_rfl) (fun _ _ _ h => h) (Or.inl ⟨by kernel_rfl, fun W hSW => by go_simp; try with_reducible rfl⟩) (by assumption) ?_
      try simp only [List.getElem_toArray]
      try simp only [List.getElem_cons_succ]
      try simp only [List.getElem_cons_zero]
      try simp only [Act.put]
      try simp only [List.setIfInBounds_toArray]
      try simp only [List.set_cons_succ]
      try simp only [List.set_cons_zero]
      refine wpAnyH_ready (rs := [9]) (by kernel_rfl) (by simp) ?_
      refine AllReadyH.cons rfl (fun K hK => ?_) AllReadyH.nil
      go_simp
      have hS7 : Kept (fun _ => False) W4 (World.alloc w6 (.cells #[.int .i64 2, .int .i64 id, .slice none 0 0, .string D] 57)) := hS6.alloc _
      refine hK.out _ _ (hS7) (fun _ => ?_)
      clear hK K
      try simp only [List.getElem_toArray]
      try simp only [List.getElem_cons_succ]
      try simp only [List.getElem_cons_zero]
      try simp only [Act.put]
      try simp only [List.setIfInBounds_toArray]
      try simp only [List.set_cons_succ]
      try simp only [List.set_cons_zero]
      refine wpAnyH_take (i := 10) (v := ?_) rfl (by kernel_rfl) (by kernel_rfl) (by kernel_rfl) (fun _ _ _ h => h) (Or.inl ⟨by kernel_rfl, fun W hSW => by go_simp; try with_reducible rfl⟩) (by assumption) ?_
      try simp only [List.getElem_toArray]
      try simp only [List.getElem_cons_succ]
      try simp only [List.getElem_cons_zero]
      try simp only [Act.put]
      try simp only [List.setIfInBounds_toArray]
      try simp only [List.set_cons_succ]
      try simp only [List.set_cons_zero]
      refine wpAnyH_done (by kernel_rfl) ?_ _
      have H6 := hid (H4.out.kept0 hS7)
      have K6 := hid (K4.out.trans (caNone hS7))
      have hz := K4.out.size
      have hz6 := hS6.size
      clear g1 r1 r2 hS5 hSd hS7
      go_wp2
      go_ret
      exact ⟨_, rfl, H6.out, (OwnQ.new w6 ⟨2, id, D⟩).mono (by omega), K6.out⟩
  · rw [if_neg e2]
    have e2' : ((getValF s).2.2 != 0) = true := by simpa using e2
    generalize getValF s = R at *
    obtain ⟨x, y, E⟩ := R
    simp only at HG e2'
    clear e2
    go_enter Tryz.func30, Tryz.ntmps30
    go_upto_region 1 with fail
    generalize w.alloc (.cells #[.int .i64 1, .int .i64 id, .slice p n cap, .string s] 57) = W at *
    obtain ⟨d0, d1, d2, d3⟩ := X1.out.cells
    go_wp2_with fail
    refine (HG.out _).mono ?_
    rintro e w2 ⟨rfl, hk2⟩
    have H2 := hid (H1.out.kept0 hk2)
    have K2 := hid (K1.out.trans (caNone hk2))
    clear hk2 d0 d1 d2 d3 HG H1 K1 X1
    go_wp2
    go_ret
    exact ⟨_, rfl, H2.out, OwnQ.nil _ _, K2.out⟩

/-- What hear leaves. -/
def hearCr (c : Cr) (code id : Int) : Cr := if c.answered = true ∧ id = c.id then { c with done := true, good := code == 3 } else c

set_option maxHeartbeats 2000000 in
set_option maxRecDepth 100000 in
theorem lcHear_any (b : Nat) (c : Cr) (code id : Int) (p : Option Addr) (n cap : Nat) (s : ByteArray) (w : World) (h : LcIn w b c) :
    Calls Tryz.prog 31 #[.pointer (some ⟨b, 0, none⟩), .agg #[.int .i64 code, .int .i64 id, .slice p n cap, .string s]] w fun e w' => e = .returned undef ∧ LcIn w' b (hearCr c code id) ∧ Kept (fun i => i = b) w w' := by
  have hk := (Kept.refl (fun _ => False) w).alloc (.cells #[.int .i64 code, .int .i64 id, .slice p n cap, .string s] 57)
  have H1 := hid (h.kept0 hk)
  have K1 := hid (caNone (b := b) hk)
  have X1 := hid (PkAt.new w code id (.slice p n cap) s)
  clear h hk
  unfold hearCr
  by_cases ha : c.answered = true
  · by_cases ei : id = c.id
    · rw [if_pos ⟨ha, ei⟩]
      obtain ⟨q, hq⟩ : ∃ q, (code == 3) = q := ⟨_, rfl⟩
      rw [hq]
      have ei' : (id != c.id) = false := by simp [ei]
      have HR : Hid (LcIn ((w.alloc (.cells #[.int .i64 code, .int .i64 id, .slice p n cap, .string s] 57)).setCell ⟨b, 5, none⟩ (.bool true) |>.setCell ⟨b, 6, none⟩ (.bool q)) b { c with done := true, good := q }) := (H1.out.set5 true).set6 q
      have K4 := hid (caOwn (caOwn K1.out 5 (.bool true)) 6 (.bool q))
      clear ei
      go_enter Tryz.func31, Tryz.ntmps31
      go_upto_region 1 with fail
      generalize w.alloc (.cells #[.int .i64 code, .int .i64 id, .slice p n cap, .string s] 57) = W at *
      obtain ⟨d0, d1, d2, d3⟩ := X1.out.cells
      have q3 := H1.out.c3
      have q4 := H1.out.c4
      have q5 := H1.out.c5
      have q6 := H1.out.c6
      have f5 := H1.out.fz 5
      have f6 := H1.out.fz 6
      rw [ha] at q3
      go_wp2
      go_quiet (fail)
      go_wp2
      go_region
      all_goals
        go_wp2
        go_end0
        exact ⟨rfl, HR.out, (K4.out.drewN _).drew⟩
    · rw [if_neg (fun h => ei h.2)]
      have ei' : (id != c.id) = true := by simpa using ei
      clear ei
      go_enter Tryz.func31, Tryz.ntmps31
      go_upto_region 1 with fail
      generalize w.alloc (.cells #[.int .i64 code, .int .i64 id, .slice p n cap, .string s] 57) = W at *
      obtain ⟨d0, d1, d2, d3⟩ := X1.out.cells
      have q3 := H1.out.c3
      have q4 := H1.out.c4
      rw [ha] at q3
      go_wp2
      go_quiet (fail)
      go_wp2
      (try simp only [Exit.inBlock, Exit.then]); refine bodyPost_ret (results_none rfl _ _ _) rfl ?_
      exact ⟨rfl, H1.out, K1.out.drewN _⟩
  · rw [if_neg (fun h => ha h.1)]
    have ha' : c.answered = false := by simpa using ha
    go_enter Tryz.func31, Tryz.ntmps31
    go_upto_region 1 with fail
    generalize w.alloc (.cells #[.int .i64 code, .int .i64 id, .slice p n cap, .string s] 57) = W at *
    obtain ⟨d0, d1, d2, d3⟩ := X1.out.cells
    have q3 := H1.out.c3
    have q4 := H1.out.c4
    rw [ha'] at q3
    clear ha
    go_wp2
    go_quiet (fail)
    go_wp2
    (try simp only [Exit.inBlock, Exit.then]); refine bodyPost_ret (results_none rfl _ _ _) rfl ?_
    exact ⟨rfl, H1.out, K1.out.drewN _⟩

set_option maxHeartbeats 2000000 in
set_option maxRecDepth 100000 in
theorem lcTake_any (b : Nat) (c : Cr) (hn : c.name.size ≤ 60) (hs : c.secret.size ≤ 60) (code id : Int) (p : Option Addr) (n cap : Nat) (s : ByteArray) (hd : s.size ≤ 140737488351232) (w : World) (hT : TabB b w) (h : LcIn w b c) :
    Calls Tryz.prog 9 #[.pointer (some ⟨b, 0, none⟩), pkV code id (.slice p n cap) s] w fun e w' => ∃ v, e = .returned v ∧ LcIn w' b (takeCr chapK c code id s).2 ∧ OwnQ w' w.heap.size v (takeCr chapK c code id s).1 ∧ Kept (fun i => i = b) w w' := by
  unfold pkV
  have hk := (Kept.refl (fun _ => False) w).alloc (.cells #[.int .i64 code, .int .i64 id, .slice p n cap, .string s] 57)
  have H1 := hid (h.kept0 hk)
  have K1 := hid (caNone (b := b) hk)
  have X1 := hid (PkAt.new w code id (.slice p n cap) s)
  have HT := hid (hT.next (caNone hk))
  clear h hk hT
  by_cases e1 : code = 1
  · subst e1
    have HA := hid (lcAnswer_any b c hn hs id p n cap s hd _ HT.out H1.out)
    generalize takeCr chapK c 1 id s = R at *
    clear hn hs hd
    go_enter Tryz.func9, Tryz.ntmps9
    go_upto_region 1 with fail
    generalize w.alloc (.cells #[.int .i64 1, .int .i64 id, .slice p n cap, .string s] 57) = W at *
    obtain ⟨d0, d1, d2, d3⟩ := X1.out.cells
    have q0 := H1.out.c0
    go_wp2_with fail
    refine HA.out.mono ?_
    rintro e w2 ⟨v, rfl, hc, ho, hk2⟩
    have HC := hid hc
    have HO := hid ho
    have K2 := hid (K1.out.trans hk2)
    have hz := K1.out.size
    clear hc ho hk2
    go_wp2
    go_ret
    exact ⟨v, rfl, HC.out, HO.out.mono hz, K2.out⟩
  · have e1' : (code == 1) = false := by simpa using e1
    unfold takeCr
    rw [if_neg e1]
    have HH := hid (lcHear_any b c code id p n cap s _ H1.out)
    by_cases e34 : code = 3 ∨ code = 4
    · have hR : Hid ((if (code = 3 ∨ code = 4) ∧ c.answered = true ∧ id = c.id then (([] : List Pq), ({ c with done := true, good := code == 3 } : Cr)) else ([], c)) = ([], hearCr c code id)) := by
        unfold hearCr
        by_cases hq : c.answered = true ∧ id = c.id
        · rw [if_pos ⟨e34, hq⟩, if_pos hq]
          try rfl
        · rw [if_neg (fun h => hq h.2), if_neg hq]
          try rfl
      rw [hR.out]
      clear hR
      generalize hearCr c code id = R at *
      have hq : (code == 3) = true ∨ ((code == 3) = false ∧ (code == 4) = true) := by
        rcases e34 with e | e
        · exact Or.inl (by simp [e])
        · exact Or.inr ⟨by simp [e], by simp [e]⟩
      clear e1 e34 hn hs hd
      rcases hq with hq | ⟨hq, hq4⟩
      all_goals
        go_enter Tryz.func9, Tryz.ntmps9
        go_upto_region 1 with fail
        generalize w.alloc (.cells #[.int .i64 code, .int .i64 id, .slice p n cap, .string s] 57) = W at *
        obtain ⟨d0, d1, d2, d3⟩ := X1.out.cells
        have q0 := H1.out.c0
        go_wp2_with fail
        refine HH.out.mono ?_
        rintro e w2 ⟨rfl, hc, hk2⟩
        have HC := hid hc
        have K2 := hid (K1.out.trans hk2)
        clear hc hk2
        go_wp2
        go_ret
        exact ⟨_, rfl, HC.out, OwnQ.nil _ _, K2.out⟩
    · rw [if_neg (fun h => e34 h.1)]
      have hq3 : (code == 3) = false := by rw [beq_eq_false_iff_ne]; exact fun h => e34 (Or.inl h)
      have hq4 : (code == 4) = false := by rw [beq_eq_false_iff_ne]; exact fun h => e34 (Or.inr h)
      clear e1 e34 hn hs hd
      go_enter Tryz.func9, Tryz.ntmps9
      go_upto_region 1 with fail
      generalize w.alloc (.cells #[.int .i64 code, .int .i64 id, .slice p n cap, .string s] 57) = W at *
      obtain ⟨d0, d1, d2, d3⟩ := X1.out.cells
      have q0 := H1.out.c0
      go_wp2
      go_ret
      exact ⟨_, rfl, H1.out, OwnQ.nil _ _, K1.out⟩

set_option maxHeartbeats 1000000 in
set_option maxRecDepth 100000 in
theorem lcDone_any (b : Nat) (c : Cr) (w : World) (h : LcIn w b c) : Calls Tryz.prog 12 #[.pointer (some ⟨b, 0, none⟩)] w fun e w' => e = .returned (.tuple #[.bool c.done, .bool c.good]) ∧ Kept (fun _ => False) w w' := by
  have c5 := h.c5
  have c6 := h.c6
  clear h
  go_enter Tryz.func12, Tryz.ntmps12
  go_wp2
  go_region
  all_goals
    go_wp2
    go_ret2
    exact ⟨rfl, (Kept.refl _ _).drew⟩
end Go.Proofs.YtndpfcanfcbldaaGreatDoor

namespace Go.Proofs.YtndpfcanfcbldaaGreatDoor
open Go.RowKit

theorem psNew_ok (n : ByteArray) (hn : n.size ≤ 60) (retry wait : Int) (hr : 0 ≤ retry ∧ retry ≤ 10) (hw : 1 ≤ wait ∧ wait ≤ 100) (w : World) :
    Calls Tryz.prog 15 #[.string n, .int .i64 retry, .int .i64 wait] w fun e w' => ∃ b, w.heap.size ≤ b ∧ e = .returned (.tuple #[.pointer (some ⟨b, 0, none⟩), .int .i64 0]) ∧ PsIn w' b (newP n retry wait) ∧ Kept (fun _ => False) w w' := by
  refine (psNew_any n (by omega) retry wait w).mono ?_
  rintro e w' ⟨h, hk⟩
  rcases h with ⟨h1, _⟩ | ⟨_, h1, _⟩ | ⟨_, _, rfl, hc⟩
  · omega
  · omega
  · exact ⟨_, Nat.le_refl _, rfl, hc, hk⟩
theorem lcNew_ok (n s : ByteArray) (hn : n.size ≤ 60) (hs : s.size ≤ 60) (w : World) :
    Calls Tryz.prog 7 #[.string n, .string s] w fun e w' => ∃ b, w.heap.size ≤ b ∧ e = .returned (.tuple #[.pointer (some ⟨b, 0, none⟩), .int .i64 0]) ∧ LcIn w' b (newCr n s) ∧ Kept (fun _ => False) w w' := by
  refine (lcNew_any n s (by omega) (by omega) w).mono ?_
  rintro e w' ⟨h, hk⟩
  rcases h with ⟨h1, _⟩ | ⟨_, rfl, hc⟩
  · omega
  · exact ⟨_, Nat.le_refl _, rfl, hc, hk⟩

/-- The two, in blocks of the law's own. -/
structure Duo (w W : World) (bs bc : Nat) (s : Ps) (c : Cr) : Prop where
  sv : PsIn W bs s
  cl : LcIn W bc c
  ls : w.heap.size ≤ bs
  lc : w.heap.size ≤ bc
  bel : Below w.heap.size w W

section
variable {w W W' : World} {bs bc : Nat} {s s' : Ps} {c c' : Cr}
theorem Duo.ne (h : Duo w W bs bc s c) : bs ≠ bc := fun e => by
  have h1 := h.sv
  have h2 := h.cl
  unfold PsIn at h1
  unfold LcIn at h2
  rw [e, h2] at h1
  simp at h1
theorem Duo.kept0 (h : Duo w W bs bc s c) (hk : Kept (fun _ => False) W W') : Duo w W' bs bc s c := ⟨h.sv.kept0 hk, h.cl.kept0 hk, h.ls, h.lc, h.bel.trans (hk.below h.bel.size (fun _ h => h.elim))⟩
theorem Duo.byS (h : Duo w W bs bc s c) (hs : PsIn W' bs s') (hk : Kept (fun i => i = bs) W W') : Duo w W' bs bc s' c := ⟨hs, h.cl.kept hk h.ne.symm, h.ls, h.lc, h.bel.trans (hk.below h.bel.size (fun i hi => by have := h.ls; omega))⟩
theorem Duo.byC (h : Duo w W bs bc s c) (hc : LcIn W' bc c') (hk : Kept (fun i => i = bc) W W') : Duo w W' bs bc s c' := ⟨h.sv.kept hk h.ne, hc, h.ls, h.lc, h.bel.trans (hk.below h.bel.size (fun i hi => by have := h.lc; omega))⟩
theorem Duo.tab (h : Duo w W bs bc s c) (hT : Tables w) : TabB bc W := TabB.mk hT h.bel h.lc
theorem Duo.ownS {v : Value} {base : Nat} {l : List Pq} (h : Duo w W bs bc s c) (ho : OwnQ W base v l) (hk : Kept (fun i => i = bs) W W') : OwnQ W' base v l := ho.keptS hk (fun _ hi => h.sv.ne ho hi)
theorem Duo.ownC {v : Value} {base : Nat} {l : List Pq} (h : Duo w W bs bc s c) (ho : OwnQ W base v l) (hk : Kept (fun i => i = bc) W W') : OwnQ W' base v l := ho.keptS hk (fun _ hi => h.cl.ne ho hi)
end

/-! The way of a proof, as plain data: n, s: the client's name and secret; v: the value that is asked; srv, r, k: the server's. -/
def sv1 (srv v : ByteArray) (r k : Int) : Ps := ⟨srv, r, k, v, 1, 1, 0, 0⟩
def sv2 (srv v : ByteArray) (r k : Int) : Ps := ⟨srv, r, k, v, 1, 2, 0, 0⟩
def sv3 (srv v : ByteArray) (r k : Int) (good : Bool) : Ps := ⟨srv, r, k, v, 1, if good then 4 else 5, 0, 0⟩
def cl1 (n s : ByteArray) : Cr := ⟨n, s, false, false, true, 1⟩
def cl2 (n s : ByteArray) (good : Bool) : Cr := ⟨n, s, true, good, true, 1⟩
def codeOf (good : Bool) : Int := if good then 3 else 4

section
variable {srv v n s : ByteArray} {r k : Int} {good : Bool}
theorem way0 (h1 : 1 ≤ v.size) (h2 : v.size ≤ 60) (hk : k ≠ 0) : startP (newP srv r k) v = ([⟨1, 1, layF v ++ srv⟩], sv1 srv v r k) := by
  unfold startP
  rw [if_neg (by simp only [newP]; omega)]
  rfl
theorem way1 (h1 : 1 ≤ v.size) (h2 : v.size ≤ 60) (hs : srv.size ≤ 60) : takeCr chapK (newCr n s) 1 1 (layF v ++ srv) = ([⟨2, 1, layF (chapK 1 s v) ++ n⟩], cl1 n s) := by
  unfold takeCr
  rw [if_pos rfl, getValF_put v srv h1 h2 hs, if_pos rfl]
  rfl
theorem way2 (hn : n.size ≤ 60) : takeP (sv1 srv v r k) 2 1 (layF (chapK 1 s v) ++ n) = (⟨n, v, chapK 1 s v, 1⟩, true, sv2 srv v r k) := by
  have hz := chapK_size 1 s v
  unfold takeP
  rw [getValF_put (chapK 1 s v) n (by omega) (by omega) hn, if_pos ⟨rfl, rfl, rfl, rfl⟩]
  rfl
theorem way3 : judgeP (sv2 srv v r k) good = ([⟨codeOf good, 1, ⟨#[]⟩⟩], sv3 srv v r k good) := by cases good <;> rfl
theorem way4 : takeCr chapK (cl1 n s) (codeOf good) 1 ⟨#[]⟩ = ([], cl2 n s good) := by cases good <;> rfl
theorem way5 : againP (sv3 srv v r k good) 2 1 = [⟨codeOf good, 1, ⟨#[]⟩⟩] := by cases good <;> rfl
theorem way6 (d : ByteArray) : takeP (sv3 srv v r k good) 2 1 d = (noCm, false, sv3 srv v r k good) := by
  unfold takeP
  rw [if_neg (fun h => by have := h.1; cases good <;> simp [sv3] at this)]
theorem way7 (g : Bool) : judgeP (sv3 srv v r k good) g = ([], sv3 srv v r k good) := by cases good <;> rfl
end

/-! The steps. -/
section
variable {w W : World} {bs bc : Nat} {srv v n s : ByteArray} {r k : Int} {good : Bool} {c : Cr} {p : Ps}
/-- A list of one packet of the law's own. -/
def One (w W : World) (g cap : Nat) (q : Pq) : Prop := OwnQ W w.heap.size (.slice (some ⟨g, 0, none⟩) 1 cap) [q]
theorem one_of {w W : World} {base : Nat} {u : Value} {q : Pq} (h : OwnQ W base u [q]) (hb : w.heap.size ≤ base) : ∃ g cap, u = .slice (some ⟨g, 0, none⟩) 1 cap ∧ 1 ≤ cap ∧ cap ≤ maxLen ∧ One w W g cap q := by
  obtain ⟨g, cap, rfl, h1, h2, _, _⟩ := h.one
  exact ⟨g, cap, rfl, h1, h2, h.mono hb⟩
theorem One.box {w W : World} {g cap : Nat} {q : Pq} (h : One w W g cap q) : Box4 W g (.int .i64 q.code) (.int .i64 q.id) (.slice none 0 0) (.string q.data) := by
  obtain ⟨g', cap', e, _, _, _, bx⟩ := OwnQ.one h
  cases e
  exact bx

theorem duo_start (h : Duo w W bs bc (newP srv r k) c) (hs : srv.size ≤ 60) (h1 : 1 ≤ v.size) (h2 : v.size ≤ 60) (hk : 1 ≤ k) :
    Calls Tryz.prog 17 #[.pointer (some ⟨bs, 0, none⟩), .string v] W fun e w' => ∃ g cap, e = .returned (.slice (some ⟨g, 0, none⟩) 1 cap) ∧ 1 ≤ cap ∧ cap ≤ maxLen ∧ Hid (Duo w w' bs bc (sv1 srv v r k) c ∧ One w w' g cap ⟨1, 1, layF v ++ srv⟩) := by
  refine (psStart_any bs (newP srv r k) hs ⟨Int.le_refl _, (by decide : (0 : Int) ≤ 255)⟩ v (by omega) W h.sv).mono ?_
  rintro e w' ⟨u, rfl, hc, ho, hk'⟩
  rw [way0 h1 h2 (by omega)] at hc ho
  obtain ⟨g, cap, rfl, a1, a2, a3⟩ := one_of (w := w) ho h.bel.size
  exact ⟨g, cap, rfl, a1, a2, h.byS hc hk', a3⟩
theorem duo_answer (hT : Tables w) (h : Duo w W bs bc p (newCr n s)) (hn : n.size ≤ 60) (hs : s.size ≤ 60) (hsv : srv.size ≤ 60) (h1 : 1 ≤ v.size) (h2 : v.size ≤ 60) :
    Calls Tryz.prog 9 #[.pointer (some ⟨bc, 0, none⟩), .agg #[.int .i64 1, .int .i64 1, .slice none 0 0, .string (layF v ++ srv)]] W fun e w' => ∃ g cap, e = .returned (.slice (some ⟨g, 0, none⟩) 1 cap) ∧ 1 ≤ cap ∧ cap ≤ maxLen ∧ Hid (Duo w w' bs bc p (cl1 n s) ∧ One w w' g cap ⟨2, 1, layF (chapK 1 s v) ++ n⟩ ∧ Kept (fun i => i = bc) W w') := by
  refine (lcTake_any bc (newCr n s) hn hs 1 1 none 0 0 (layF v ++ srv) (by rw [ByteArray.size_append, layF_size]; omega) W (h.tab hT) h.cl).mono ?_
  rintro e w' ⟨u, rfl, hc, ho, hk'⟩
  rw [way1 h1 h2 hsv] at hc ho
  obtain ⟨g, cap, rfl, a1, a2, a3⟩ := one_of (w := w) ho h.bel.size
  exact ⟨g, cap, rfl, a1, a2, h.byC hc hk', a3, hk'⟩
theorem duo_claim (h : Duo w W bs bc (sv1 srv v r k) c) (hn : n.size ≤ 60) :
    Calls Tryz.prog 25 #[.pointer (some ⟨bs, 0, none⟩), .agg #[.int .i64 2, .int .i64 1, .slice none 0 0, .string (layF (chapK 1 s v) ++ n)]] W fun e w' => e = .returned (.tuple #[.agg #[.string n, .string v, .string (chapK 1 s v), .int .i64 1], .bool true]) ∧ Hid (Duo w w' bs bc (sv2 srv v r k) c ∧ Kept (fun i => i = bs) W w') := by
  have hz := chapK_size 1 s v
  refine (psTake_any bs (sv1 srv v r k) 2 1 none 0 0 (layF (chapK 1 s v) ++ n) (by rw [ByteArray.size_append, layF_size]; omega) W h.sv).mono ?_
  rintro e w' ⟨rfl, hc, hk'⟩
  rw [way2 hn] at hc ⊢
  exact ⟨rfl, h.byS hc hk', hk'⟩
theorem duo_judge (h : Duo w W bs bc (sv2 srv v r k) c) :
    Calls Tryz.prog 21 #[.pointer (some ⟨bs, 0, none⟩), .bool good] W fun e w' => ∃ g cap, e = .returned (.slice (some ⟨g, 0, none⟩) 1 cap) ∧ 1 ≤ cap ∧ cap ≤ maxLen ∧ Hid (Duo w w' bs bc (sv3 srv v r k good) c ∧ One w w' g cap ⟨codeOf good, 1, ⟨#[]⟩⟩ ∧ Kept (fun i => i = bs) W w') := by
  refine (psJudge_any bs (sv2 srv v r k) good W h.sv).mono ?_
  rintro e w' ⟨u, rfl, hc, ho, hk'⟩
  rw [way3] at hc ho
  obtain ⟨g, cap, rfl, a1, a2, a3⟩ := one_of (w := w) ho h.bel.size
  exact ⟨g, cap, rfl, a1, a2, h.byS hc hk', a3, hk'⟩
theorem duo_told (hT : Tables w) (h : Duo w W bs bc p (cl1 n s)) (hn : n.size ≤ 60) (hs : s.size ≤ 60) :
    Calls Tryz.prog 9 #[.pointer (some ⟨bc, 0, none⟩), .agg #[.int .i64 (codeOf good), .int .i64 1, .slice none 0 0, .string ⟨#[]⟩]] W fun e w' => ∃ q cap, e = .returned (.slice q 0 cap) ∧ Hid (Duo w w' bs bc p (cl2 n s good) ∧ Kept (fun i => i = bc) W w') := by
  refine (lcTake_any bc (cl1 n s) hn hs (codeOf good) 1 none 0 0 ⟨#[]⟩ (by decide) W (h.tab hT) h.cl).mono ?_
  rintro e w' ⟨u, rfl, hc, ho, hk'⟩
  rw [way4] at hc ho
  obtain ⟨q, cap, hq⟩ := slice_of ho
  exact ⟨q, cap, by rw [hq]; rfl, h.byC hc hk', hk'⟩
end
end Go.Proofs.YtndpfcanfcbldaaGreatDoor

namespace Go.Proofs.YtndpfcanfcbldaaGreatDoor
open Go.RowKit

/-- A claim in a block of its own. -/
theorem claim_cells (W : World) (n v r : ByteArray) (i : Int) : Box4 (W.alloc (.cells #[.string n, .string v, .string r, .int .i64 i] 77)) W.heap.size (.string n) (.string v) (.string r) (.int .i64 i) := box4_new W _ _ _ _ _

set_option maxHeartbeats 2000000 in
set_option maxRecDepth 100000 in
theorem aliveH_any (w : World) (hT : Tables w) : Calls Tryz.prog 6 #[] w fun e w' => e = .returned (.bool true) ∧ Kept (fun _ => False) w w' := by
  have HT := hid hT
  have C1 := hid (psNew_ok ⟨#[115, 114, 118]⟩ (by decide) 2 3 (by decide) (by decide) w)
  have C2 := hid (lcNew_ok ⟨#[109, 101]⟩ ⟨#[107, 101, 121]⟩ (by decide) (by decide))
  have C3 := hid (fun W bs bc c (h : Duo w W bs bc (newP ⟨#[115, 114, 118]⟩ 2 3) c) => duo_start (v := ⟨#[99, 104, 97, 108, 108, 101, 110, 103, 101]⟩) h (by decide) (by decide) (by decide) (by decide))
  have C4 := hid (fun W bs bc p (h : Duo w W bs bc p (newCr ⟨#[109, 101]⟩ ⟨#[107, 101, 121]⟩)) => duo_answer (srv := ⟨#[115, 114, 118]⟩) (v := ⟨#[99, 104, 97, 108, 108, 101, 110, 103, 101]⟩) hT h (by decide) (by decide) (by decide) (by decide) (by decide))
  have C5 := hid (fun W bs bc c (h : Duo w W bs bc (sv1 ⟨#[115, 114, 118]⟩ ⟨#[99, 104, 97, 108, 108, 101, 110, 103, 101]⟩ 2 3) c) => duo_claim (n := ⟨#[109, 101]⟩) (s := ⟨#[107, 101, 121]⟩) h (by decide))
  have C6 := hid (fun W bs bc c (h : Duo w W bs bc (sv2 ⟨#[115, 114, 118]⟩ ⟨#[99, 104, 97, 108, 108, 101, 110, 103, 101]⟩ 2 3) c) => duo_judge (good := true) h)
  have C7 := hid (fun W bs bc p (h : Duo w W bs bc p (cl1 ⟨#[109, 101]⟩ ⟨#[107, 101, 121]⟩)) => duo_told (good := true) hT h (by decide) (by decide))
  have C8 := hid (fun W (hTW : Tables W) => chapK_any 1 ⟨#[107, 101, 121]⟩ ⟨#[99, 104, 97, 108, 108, 101, 110, 103, 101]⟩ (by decide) (by decide) W hTW)
  rw [show codeOf true = 3 from rfl] at C6 C7
  generalize chapK 1 ⟨#[107, 101, 121]⟩ ⟨#[99, 104, 97, 108, 108, 101, 110, 103, 101]⟩ = RR at *
  generalize layF RR ++ ⟨#[109, 101]⟩ = D2 at *
  generalize layF ⟨#[99, 104, 97, 108, 108, 101, 110, 103, 101]⟩ ++ ⟨#[115, 114, 118]⟩ = D1 at *
  clear hT
  go_enter Tryz.func6, Tryz.ntmps6
  go_wp2_with fail
  refine C1.out.mono ?_
  rintro e w1 ⟨bs, hbs, rfl, hs1, hk1⟩
  have HS1 := hid hs1
  have HK1 := hid hk1
  clear hs1 hk1 C1
  go_wp2_with fail
  refine (C2.out _).mono ?_
  rintro e w2 ⟨bc, hbc, rfl, hc2, hk2⟩
  have D : Hid (Duo w w2 bs bc (newP ⟨#[115, 114, 118]⟩ 2 3) (newCr ⟨#[109, 101]⟩ ⟨#[107, 101, 121]⟩)) := ⟨HS1.out.kept0 hk2, hc2, hbs, Nat.le_trans HK1.out.size hbc, below_of (HK1.out.trans hk2)⟩
  clear hc2 hk2 C2 HS1 HK1 hbs hbc
  go_wp2_with fail
  refine (C3.out _ _ _ _ D.out).mono ?_
  rintro e w3 ⟨g3, k3, rfl, hk3a, hk3b, D3⟩
  clear C3 D
  obtain ⟨d0, d1, d2, d3⟩ := D3.out.2.box
  simp only at d0 d1 d3
  go_wp2_with fail
  refine (C4.out _ _ _ _ D3.out.1).mono ?_
  rintro e w4 ⟨g4, k4, rfl, hk4a, hk4b, D4⟩
  clear C4 D3 d0 d1 d2 d3
  obtain ⟨d0, d1, d2, d3⟩ := D4.out.2.1.box
  simp only at d0 d1 d3
  go_wp2_with fail
  refine (C5.out _ _ _ _ D4.out.1).mono ?_
  rintro e w5 ⟨rfl, D5⟩
  clear C5 D4 d0 d1 d2 d3
  have B5 := hid (claim_cells w5 ⟨#[109, 101]⟩ ⟨#[99, 104, 97, 108, 108, 101, 110, 103, 101]⟩ RR 1)
  have D5' := hid (D5.out.1.kept0 ((Kept.refl (fun _ => False) w5).alloc (.cells #[.string ⟨#[109, 101]⟩, .string ⟨#[99, 104, 97, 108, 108, 101, 110, 103, 101]⟩, .string RR, .int .i64 1] 77)))
  have hn1 : Hid (w5.heap.size ≠ bs) := fun e => by have := D5.out.1.sv.lt; omega
  have hn2 : Hid (w5.heap.size ≠ bc) := fun e => by have := D5.out.1.cl.lt; omega
  clear D5
  go_upto_region 12 with fail
  generalize hW5 : w5.alloc (.cells #[.string ⟨#[109, 101]⟩, .string ⟨#[99, 104, 97, 108, 108, 101, 110, 103, 101]⟩, .string RR, .int .i64 1] 77) = W5 at *
  obtain ⟨gc, hgc⟩ : ∃ gc, gc = w5.heap.size := ⟨_, rfl⟩
  rw [← hgc] at B5 hn1 hn2 ⊢
  clear hW5 hgc
  go_wp2_with fail
  refine (C6.out _ _ _ _ D5'.out).mono ?_
  rintro e w6 ⟨g6, k6, rfl, hk6a, hk6b, D6⟩
  have B6 := hid (B5.out.kept D6.out.2.2 hn1.out)
  clear C6 D5' B5
  obtain ⟨d0, d1, d2, d3⟩ := D6.out.2.1.box
  simp only at d0 d1 d3
  go_wp2_with fail
  refine (C7.out _ _ _ _ D6.out.1).mono ?_
  rintro e w7 ⟨q7, k7, rfl, D7⟩
  have B7 := hid (B6.out.kept D7.out.2 hn2.out)
  have O7 : Hid (One w w7 g6 k6 ⟨3, 1, ⟨#[]⟩⟩) := D6.out.1.ownC D6.out.2.1 D7.out.2
  clear C7 D6 B6 d0 d1 d2 d3
  have HD := hid (lcDone_any bc _ w7 D7.out.1.cl)
  simp only [cl2] at HD
  go_wp2_with fail
  refine HD.out.mono ?_
  rintro e w8 ⟨rfl, hk8⟩
  have D8 := hid (D7.out.1.kept0 hk8)
  have B8 := hid (B7.out.kept hk8 (fun h => h))
  have O8 : Hid (One w w8 g6 k6 ⟨3, 1, ⟨#[]⟩⟩) := OwnQ.kept0 O7.out hk8
  clear hk8 D7 B7 O7 HD
  have b0 : ∀ W, Kept (fun _ => False) w8 W → W.cell? ⟨gc, 0, none⟩ = some (.string ⟨#[109, 101]⟩) := fun W hk => (B8.out.kept hk (fun h => h)).1
  have b1 : ∀ W, Kept (fun _ => False) w8 W → W.cell? ⟨gc, 1, none⟩ = some (.string ⟨#[99, 104, 97, 108, 108, 101, 110, 103, 101]⟩) := fun W hk => (B8.out.kept hk (fun h => h)).2.1
  have b2 : ∀ W, Kept (fun _ => False) w8 W → W.cell? ⟨gc, 2, none⟩ = some (.string RR) := fun W hk => (B8.out.kept hk (fun h => h)).2.2.1
  have b3 : ∀ W, Kept (fun _ => False) w8 W → W.cell? ⟨gc, 3, none⟩ = some (.int .i64 1) := fun W hk => (B8.out.kept hk (fun h => h)).2.2.2
  have e0 : ∀ W, Kept (fun _ => False) w8 W → W.cell? ⟨g6, 0, none⟩ = some (.int .i64 3) := fun W hk => (O8.out.box.kept hk (fun h => h)).1
  have hTab : Hid (∀ W, Kept (fun _ => False) w8 W → Tables W) := fun W hk => HT.out.next (D8.out.bel.trans (hk.below D8.out.bel.size (fun _ h => h.elim)))
  go_wp2_with fail
  refine wp_region_held_drew (S := Kept (fun _ => False) w8) (by kernel_rfl) ((Kept.refl _ w8).drew) (fun hSd => ?_)
  refine wpAnyH_take (i := 0) (v := ?_) rfl (by kernel_rfl) (by kernel_rfl) (by kernel_rfl) (fun _ _ _ h => h) (Or.inl ⟨by kernel_rfl, fun W hSW => by go_simp; try with_reducible rfl⟩) (by assumption) ?_
  try simp only [List.getElem_toArray]
  try simp only [List.getElem_cons_succ]
  try simp only [List.getElem_cons_zero]
  try simp only [Act.put]
  try simp only [List.setIfInBounds_toArray]
  try simp only [List.set_cons_succ]
  try simp only [List.set_cons_zero]
  refine wpAnyH_take (i := 1) (v := ?_) rfl (by kernel_rfl) (by kernel_rfl) (by kernel_rfl) (fun _ _ _ h => h) (Or.inl ⟨by kernel_rfl, fun W hSW => by go_simp; try with_reducible rfl⟩) (by assumption) ?_
  try simp only [List.getElem_toArray]
  try simp only [List.getElem_cons_succ]
  try simp only [List.getElem_cons_zero]
  try simp only [Act.put]
  try simp only [List.setIfInBounds_toArray]
  try simp only [List.set_cons_succ]
  try simp only [List.set_cons_zero]
  refine wpAnyH_take (i := 2) (v := ?_) rfl (by kernel_rfl) (by kernel_rfl) (by kernel_rfl) (fun _ _ _ h => h) (Or.inl ⟨by kernel_rfl, fun W hSW => by go_simp; try with_reducible rfl⟩) (by assumption) ?_
  try simp only [List.getElem_toArray]
  try simp only [List.getElem_cons_succ]
  try simp only [List.getElem_cons_zero]
  try simp only [Act.put]
  try simp only [List.setIfInBounds_toArray]
  try simp only [List.set_cons_succ]
  try simp only [List.set_cons_zero]
  refine wpAnyH_take (i := 3) (v := ?_) rfl (by kernel_rfl) (by kernel_rfl) (by kernel_rfl) (fun _ _ _ h => h) (Or.inl ⟨by kernel_rfl, fun W hSW => by go_simp; try with_reducible rfl⟩) (by assumption) ?_
  try simp only [List.getElem_toArray]
  try simp only [List.getElem_cons_succ]
  try simp only [List.getElem_cons_zero]
  try simp only [Act.put]
  try simp only [List.setIfInBounds_toArray]
  try simp only [List.set_cons_succ]
  try simp only [List.set_cons_zero]
  refine wpAnyH_take (i := 4) (v := (.bool true)) rfl (by kernel_rfl) (by kernel_rfl) (by kernel_rfl) (fun _ _ _ h => h) (Or.inl ⟨by kernel_rfl, fun W hSW => by go_simp; try with_reducible rfl⟩) (by assumption) ?_
  try simp only [List.getElem_toArray]
  try simp only [List.getElem_cons_succ]
  try simp only [List.getElem_cons_zero]
  try simp only [Act.put]
  try simp only [List.setIfInBounds_toArray]
  try simp only [List.set_cons_succ]
  try simp only [List.set_cons_zero]
  refine wpAnyH_take (i := 5) (v := ?_) rfl (by kernel_rfl) (by kernel_rfl) (by kernel_rfl) (fun _ _ _ h => h) (Or.inl ⟨by kernel_rfl, fun W hSW => by go_simp; try with_reducible rfl⟩) (by assumption) ?_
  try simp only [List.getElem_toArray]
  try simp only [List.getElem_cons_succ]
  try simp only [List.getElem_cons_zero]
  try simp only [Act.put]
  try simp only [List.setIfInBounds_toArray]
  try simp only [List.set_cons_succ]
  try simp only [List.set_cons_zero]
  refine wpAnyH_take (i := 6) (v := ?_) rfl (by kernel_rfl) (by kernel_rfl) (by kernel_rfl) (fun _ _ _ h => h) (Or.inl ⟨by kernel_rfl, fun W hSW => by go_simp; try with_reducible rfl⟩) (by assumption) ?_
  try simp only [List.getElem_toArray]
  try simp only [List.getElem_cons_succ]
  try simp only [List.getElem_cons_zero]
  try simp only [Act.put]
  try simp only [List.setIfInBounds_toArray]
  try simp only [List.set_cons_succ]
  try simp only [List.set_cons_zero]
  refine wpAnyH_take (i := 7) (v := ?_) rfl (by kernel_rfl) (by kernel_rfl) (by kernel_rfl) (fun _ _ _ h => h) (Or.inl ⟨by kernel_rfl, fun W hSW => by go_simp; try with_reducible rfl⟩) (by assumption) ?_
  try simp only [List.getElem_toArray]
  try simp only [List.getElem_cons_succ]
  try simp only [List.getElem_cons_zero]
  try simp only [Act.put]
  try simp only [List.setIfInBounds_toArray]
  try simp only [List.set_cons_succ]
  try simp only [List.set_cons_zero]
  refine wpAnyH_take (i := 8) (v := ?_) rfl (by kernel_rfl) (by kernel_rfl) (by kernel_rfl) (fun _ _ _ h => h) (Or.inl ⟨by kernel_rfl, fun W hSW => by go_simp; try with_reducible rfl⟩) (by assumption) ?_
  try simp only [List.getElem_toArray]
  try simp only [List.getElem_cons_succ]
  try simp only [List.getElem_cons_zero]
  try simp only [Act.put]
  try simp only [List.setIfInBounds_toArray]
  try simp only [List.set_cons_succ]
  try simp only [List.set_cons_zero]
  refine wpAnyH_take (i := 9) (v := (.bool true)) rfl (by kernel_rfl) (by kernel_rfl) (by kernel_rfl) (fun _ _ _ h => h) (Or.inl ⟨by kernel_rfl, fun W hSW => by go_simp; try with_reducible rfl⟩) (by assumption) ?_
  try simp only [List.getElem_toArray]
  try simp only [List.getElem_cons_succ]
  try simp only [List.getElem_cons_zero]
  try simp only [Act.put]
  try simp only [List.setIfInBounds_toArray]
  try simp only [List.set_cons_succ]
  try simp only [List.set_cons_zero]
  refine wpAnyH_take (i := 10) (v := ?_) rfl (by kernel_rfl) (by kernel_rfl) (by kernel_rfl) (fun _ _ _ h => h) (Or.inl ⟨by kernel_rfl, fun W hSW => by go_simp; try with_reducible rfl⟩) (by assumption) ?_
  try simp only [List.getElem_toArray]
  try simp only [List.getElem_cons_succ]
  try simp only [List.getElem_cons_zero]
  try simp only [Act.put]
  try simp only [List.setIfInBounds_toArray]
  try simp only [List.set_cons_succ]
  try simp only [List.set_cons_zero]
  refine wpAnyH_take (i := 11) (v := ?_) rfl (by kernel_rfl) (by kernel_rfl) (by kernel_rfl) (fun _ _ _ h => h) (Or.inl ⟨by kernel_rfl, fun W hSW => by go_simp; try with_reducible rfl⟩) (by assumption) ?_
  try simp only [List.getElem_toArray]
  try simp only [List.getElem_cons_succ]
  try simp only [List.getElem_cons_zero]
  try simp only [Act.put]
  try simp only [List.setIfInBounds_toArray]
  try simp only [List.set_cons_succ]
  try simp only [List.set_cons_zero]
  refine wpAnyH_take (i := 12) (v := ?_) rfl (by kernel_rfl) (by kernel_rfl) (by kernel_rfl) (fun _ _ _ h => h) (Or.inl ⟨by kernel_rfl, fun W hSW => by go_simp; try with_reducible rfl⟩) (by assumption) ?_
  try simp only [List.getElem_toArray]
  try simp only [List.getElem_cons_succ]
  try simp only [List.getElem_cons_zero]
  try simp only [Act.put]
  try simp only [List.setIfInBounds_toArray]
  try simp only [List.set_cons_succ]
  try simp only [List.set_cons_zero]
  refine wpAnyH_take (i := 13) (v := ?_) rfl (by kernel_rfl) (by kernel_rfl) (by kernel_rfl) (fun _ _ _ h => h) (Or.inl ⟨by kernel_rfl, fun W hSW => by go_simp; try with_reducible rfl⟩) (by assumption) ?_
  try simp only [List.getElem_toArray]
  try simp only [List.getElem_cons_succ]
  try simp only [List.getElem_cons_zero]
  try simp only [Act.put]
  try simp only [List.setIfInBounds_toArray]
  try simp only [List.set_cons_succ]
  try simp only [List.set_cons_zero]
  refine wpAnyH_take (i := 14) (v := ?_) rfl (by kernel_rfl) (by kernel_rfl) (by kernel_rfl) (fun _ _ _ h => h) (Or.inl ⟨by kernel_rfl, fun W hSW => by go_simp; try with_reducible rfl⟩) (by assumption) ?_
  try simp only [List.getElem_toArray]
  try simp only [List.getElem_cons_succ]
  try simp only [List.getElem_cons_zero]
  try simp only [Act.put]
  try simp only [List.setIfInBounds_toArray]
  try simp only [List.set_cons_succ]
  try simp only [List.set_cons_zero]
  refine wpAnyH_take (i := 15) (v := ?_) rfl (by kernel_rfl) (by kernel_rfl) (by kernel_rfl) (fun _ _ _ h => h) (Or.inl ⟨by kernel_rfl, fun W hSW => by go_simp; try with_reducible rfl⟩) (by assumption) ?_
  try simp only [List.getElem_toArray]
  try simp only [List.getElem_cons_succ]
  try simp only [List.getElem_cons_zero]
  try simp only [Act.put]
  try simp only [List.setIfInBounds_toArray]
  try simp only [List.set_cons_succ]
  try simp only [List.set_cons_zero]
  refine wpAnyH_ready (rs := [16]) (by kernel_rfl) (by simp) ?_
  refine AllReadyH.cons rfl (fun K hK => ?_) AllReadyH.nil
  go_simp
  refine (C8.out _ (hTab.out _ hSd)).mono ?_
  rintro e w9 ⟨rfl, hk9⟩
  have hS9 : Kept (fun _ => False) w8 w9 := hSd.trans hk9
  clear hk9
  refine hK.out _ _ (hS9) (fun _ => ?_)
  clear hK K
  try simp only [List.getElem_toArray]
  try simp only [List.getElem_cons_succ]
  try simp only [List.getElem_cons_zero]
  try simp only [Act.put]
  try simp only [List.setIfInBounds_toArray]
  try simp only [List.set_cons_succ]
  try simp only [List.set_cons_zero]
  refine wpAnyH_take (i := 17) (v := (.bool true)) rfl (by kernel_rfl) (by kernel_rfl) (by kernel_rfl) (fun _ _ _ h => h) (Or.inl ⟨by kernel_rfl, fun W hSW => by go_simp; try with_reducible rfl⟩) (by assumption) ?_
  try simp only [List.getElem_toArray]
  try simp only [List.getElem_cons_succ]
  try simp only [List.getElem_cons_zero]
  try simp only [Act.put]
  try simp only [List.setIfInBounds_toArray]
  try simp only [List.set_cons_succ]
  try simp only [List.set_cons_zero]
  refine wpAnyH_take (i := 18) (v := ?_) rfl (by kernel_rfl) (by kernel_rfl) (by kernel_rfl) (fun _ _ _ h => h) (Or.inl ⟨by kernel_rfl, fun W hSW => by go_simp; try with_reducible rfl⟩) (by assumption) ?_
  try simp only [List.getElem_toArray]
  try simp only [List.getElem_cons_succ]
  try simp only [List.getElem_cons_zero]
  try simp only [Act.put]
  try simp only [List.setIfInBounds_toArray]
  try simp only [List.set_cons_succ]
  try simp only [List.set_cons_zero]
  refine wpAnyH_take (i := 19) (v := ?_) rfl (by kernel_rfl) (by kernel_rfl) (by kernel_rfl) (fun _ _ _ h => h) (Or.inl ⟨by kernel_rfl, fun W hSW => by go_simp; try with_reducible rfl⟩) (by assumption) ?_
  try simp only [List.getElem_toArray]
  try simp only [List.getElem_cons_succ]
  try simp only [List.getElem_cons_zero]
  try simp only [Act.put]
  try simp only [List.setIfInBounds_toArray]
  try simp only [List.set_cons_succ]
  try simp only [List.set_cons_zero]
  refine wpAnyH_take (i := 20) (v := ?_) rfl (by kernel_rfl) (by kernel_rfl) (by kernel_rfl) (fun _ _ _ h => h) (Or.inl ⟨by kernel_rfl, fun W hSW => by go_simp; try with_reducible rfl⟩) (by assumption) ?_
  try simp only [List.getElem_toArray]
  try simp only [List.getElem_cons_succ]
  try simp only [List.getElem_cons_zero]
  try simp only [Act.put]
  try simp only [List.setIfInBounds_toArray]
  try simp only [List.set_cons_succ]
  try simp only [List.set_cons_zero]
  refine wpAnyH_take (i := 21) (v := ?_) rfl (by kernel_rfl) (by kernel_rfl) (by kernel_rfl) (fun _ _ _ h => h) (Or.inl ⟨by kernel_rfl, fun W hSW => by go_simp; try with_reducible rfl⟩) (by assumption) ?_
  try simp only [List.getElem_toArray]
  try simp only [List.getElem_cons_succ]
  try simp only [List.getElem_cons_zero]
  try simp only [Act.put]
  try simp only [List.setIfInBounds_toArray]
  try simp only [List.set_cons_succ]
  try simp only [List.set_cons_zero]
  refine wpAnyH_take (i := 22) (v := ?_) rfl (by kernel_rfl) (by kernel_rfl) (by kernel_rfl) (fun _ _ _ h => h) (Or.inl ⟨by kernel_rfl, fun W hSW => by go_simp; try with_reducible rfl⟩) (by assumption) ?_
  try simp only [List.getElem_toArray]
  try simp only [List.getElem_cons_succ]
  try simp only [List.getElem_cons_zero]
  try simp only [Act.put]
  try simp only [List.setIfInBounds_toArray]
  try simp only [List.set_cons_succ]
  try simp only [List.set_cons_zero]
  refine wpAnyH_take (i := 23) (v := ?_) rfl (by kernel_rfl) (by kernel_rfl) (by kernel_rfl) (fun _ _ _ h => h) (Or.inl ⟨by kernel_rfl, fun W hSW => by go_simp; try with_reducible rfl⟩) (by assumption) ?_
  try simp only [List.getElem_toArray]
  try simp only [List.getElem_cons_succ]
  try simp only [List.getElem_cons_zero]
  try simp only [Act.put]
  try simp only [List.setIfInBounds_toArray]
  try simp only [List.set_cons_succ]
  try simp only [List.set_cons_zero]
  refine wpAnyH_take (i := 24) (v := (.bool true)) rfl (by kernel_rfl) (by kernel_rfl) (by kernel_rfl) (fun _ _ _ h => h) (Or.inl ⟨by kernel_rfl, fun W hSW => by go_simp; try with_reducible rfl⟩) (by assumption) ?_
  try simp only [List.getElem_toArray]
  try simp only [List.getElem_cons_succ]
  try simp only [List.getElem_cons_zero]
  try simp only [Act.put]
  try simp only [List.setIfInBounds_toArray]
  try simp only [List.set_cons_succ]
  try simp only [List.set_cons_zero]
  refine wpAnyH_take (i := 25) (v := ?_) rfl (by kernel_rfl) (by kernel_rfl) (by kernel_rfl) (fun _ _ _ h => h) (Or.inl ⟨by kernel_rfl, fun W hSW => by go_simp; try with_reducible rfl⟩) (by assumption) ?_
  try simp only [List.getElem_toArray]
  try simp only [List.getElem_cons_succ]
  try simp only [List.getElem_cons_zero]
  try simp only [Act.put]
  try simp only [List.setIfInBounds_toArray]
  try simp only [List.set_cons_succ]
  try simp only [List.set_cons_zero]
  refine wpAnyH_take (i := 26) (v := ?_) rfl (by kernel_rfl) (by kernel_rfl) (by kernel_rfl) (fun _ _ _ h => h) (Or.inl ⟨by kernel_rfl, fun W hSW => by go_simp; try with_reducible rfl⟩) (by assumption) ?_
  try simp only [List.getElem_toArray]
  try simp only [List.getElem_cons_succ]
  try simp only [List.getElem_cons_zero]
  try simp only [Act.put]
  try simp only [List.setIfInBounds_toArray]
  try simp only [List.set_cons_succ]
  try simp only [List.set_cons_zero]
  refine wpAnyH_take (i := 27) (v := ?_) rfl (by kernel_rfl) (by kernel_rfl) (by kernel_rfl) (fun _ _ _ h => h) (Or.inl ⟨by kernel_rfl, fun W hSW => by go_simp; try with_reducible rfl⟩) (by assumption) ?_
  try simp only [List.getElem_toArray]
  try simp only [List.getElem_cons_succ]
  try simp only [List.getElem_cons_zero]
  try simp only [Act.put]
  try simp only [List.setIfInBounds_toArray]
  try simp only [List.set_cons_succ]
  try simp only [List.set_cons_zero]
  refine wpAnyH_take (i := 28) (v := ?_) rfl (by kernel_rfl) (by kernel_rfl) (by kernel_rfl) (fun _ _ _ h => h) (Or.inl ⟨by kernel_rfl, fun W hSW => by go_simp; try with_reducible rfl⟩) (by assumption) ?_
  try simp only [List.getElem_toArray]
  try simp only [List.getElem_cons_succ]
  try simp only [List.getElem_cons_zero]
  try simp only [Act.put]
  try simp only [List.setIfInBounds_toArray]
  try simp only [List.set_cons_succ]
  try simp only [List.set_cons_zero]
  refine wpAnyH_take (i := 29) (v := ?_) rfl (by kernel_rfl) (by kernel_rfl) (by kernel_rfl) (fun _ _ _ h => h) (Or.inl ⟨by kernel_rfl, fun W hSW => by go_simp; try with_reducible rfl⟩) (by assumption) ?_
  try simp only [List.getElem_toArray]
  try simp only [List.getElem_cons_succ]
  try simp only [List.getElem_cons_zero]
  try simp only [Act.put]
  try simp only [List.setIfInBounds_toArray]
  try simp only [List.set_cons_succ]
  try simp only [List.set_cons_zero]
  refine wpAnyH_take (i := 30) (v := ?_) rfl (by kernel_rfl) (by kernel_rfl) (by kernel_rfl) (fun _ _ _ h => h) (Or.inl ⟨by kernel_rfl, fun W hSW => by go_simp; try with_reducible rfl⟩) (by assumption) ?_
  try simp only [List.getElem_toArray]
  try simp only [List.getElem_cons_succ]
  try simp only [List.getElem_cons_zero]
  try simp only [Act.put]
  try simp only [List.setIfInBounds_toArray]
  try simp only [List.set_cons_succ]
  try simp only [List.set_cons_zero]
  refine wpAnyH_take (i := 31) (v := ?_) rfl (by kernel_rfl) (by kernel_rfl) (by kernel_rfl) (fun _ _ _ h => h) (Or.inl ⟨by kernel_rfl, fun W hSW => by go_simp; try with_reducible rfl⟩) (by assumption) ?_
  try simp only [List.getElem_toArray]
  try simp only [List.getElem_cons_succ]
  try simp only [List.getElem_cons_zero]
  try simp only [Act.put]
  try simp only [List.setIfInBounds_toArray]
  try simp only [List.set_cons_succ]
  try simp only [List.set_cons_zero]
  refine wpAnyH_take (i := 32) (v := ?_) rfl (by kernel_rfl) (by kernel_rfl) (by kernel_rfl) (fun _ _ _ h => h) (Or.inl ⟨by kernel_rfl, fun W hSW => by go_simp; try with_reducible rfl⟩) (by assumption) ?_
  try simp only [List.getElem_toArray]
  try simp only [List.getElem_cons_succ]
  try simp only [List.getElem_cons_zero]
  try simp only [Act.put]
  try simp only [List.setIfInBounds_toArray]
  try simp only [List.set_cons_succ]
  try simp only [List.set_cons_zero]
  refine wpAnyH_done (by kernel_rfl) ?_ _
  have HF : Hid (Kept (fun _ => False) w w9) := kept_of (D8.out.bel.trans (hS9.below D8.out.bel.size (fun _ h => h.elim)))
  clear b0 b1 b2 b3 e0 hSd hS9
  go_wp2
  go_ret
  exact ⟨rfl, HF.out⟩
end Go.Proofs.YtndpfcanfcbldaaGreatDoor

namespace Go.Proofs.YtndpfcanfcbldaaGreatDoor
open Go.RowKit

theorem caLow (t : ByteArray) (h : t.size ≤ 60) (w : World) : Calls Tryz.prog 122 #[.int .i64 (t.size : Int), .int .i64 1] w fun e w' => e = .returned (.string ⟨[UInt8.ofNat t.size].toArray⟩) ∧ Kept (fun _ => False) w w' := by
  refine (refLow_any t.size (by omega) 1 (by decide) (by decide) w).mono ?_
  rintro e w' ⟨rfl, hb⟩
  have hl : (⟨(low t.size 1).toArray⟩ : ByteArray) = ⟨[UInt8.ofNat t.size].toArray⟩ := by simp [low, Nat.mod_eq_of_lt (show t.size < 256 by omega)]
  rw [hl]
  exact ⟨rfl, kept_of hb⟩

set_option maxHeartbeats 400000 in
set_option maxRecDepth 100000 in
theorem rPutValue_any (v n : ByteArray) (hv : v.size ≤ 140737488351232) (hn : n.size ≤ 140737488351232) (w : World) :
    Calls Tryz.prog 33 #[.string v, .string n] w fun e w' => e = .returned (.tuple #[.string (putValF v n).1, .int .i64 (putValF v n).2]) ∧ Kept (fun _ => False) w w' := by
  unfold putValF
  by_cases h1 : v.size < 1
  · rw [if_pos (Or.inl h1)]
    have h1z : (v.size : Int) < 1 := by omega
    clear h1
    go_enter Tryz.func33, Tryz.ntmps33
    go_wp2
    go_ret2
    exact ⟨rfl, Kept.refl _ _⟩
  · have h1z : ¬ (v.size : Int) < 1 := by omega
    by_cases h2 : 60 < v.size
    · rw [if_pos (Or.inr h2)]
      have h2z : (60 : Int) < (v.size : Int) := by omega
      go_enter Tryz.func33, Tryz.ntmps33
      go_wp2
      go_ret2
      exact ⟨rfl, Kept.refl _ _⟩
    · rw [if_neg (by omega)]
      have h2z : ¬ (60 : Int) < (v.size : Int) := by omega
      by_cases h3 : 60 < n.size
      · rw [if_pos h3]
        have h3z : (60 : Int) < (n.size : Int) := by omega
        go_enter Tryz.func33, Tryz.ntmps33
        go_wp2
        go_ret2
        exact ⟨rfl, Kept.refl _ _⟩
      · rw [if_neg h3]
        have h3z : ¬ (60 : Int) < (n.size : Int) := by omega
        have A1 := hid (caLow v (by omega))
        have z1 : (⟨[UInt8.ofNat v.size].toArray⟩ : ByteArray).size = 1 := rfl
        have o1 : ¬ (9223372036854775807 < (⟨[UInt8.ofNat v.size].toArray⟩ : ByteArray).size + v.size) := by omega
        have o2 : ¬ (9223372036854775807 < ((⟨[UInt8.ofNat v.size].toArray⟩ : ByteArray) ++ v).size + n.size) := by rw [ByteArray.size_append]; omega
        unfold layF
        clear z1
        generalize (⟨[UInt8.ofNat v.size].toArray⟩ : ByteArray) = X at *
        go_enter Tryz.func33, Tryz.ntmps33
        go_wp2_with fail
        refine (A1.out _).mono ?_
        rintro e w1 ⟨rfl, hk1⟩
        go_wp2
        go_ret2
        exact ⟨rfl, hk1⟩

set_option maxHeartbeats 1000000 in
set_option maxRecDepth 100000 in
theorem rGetValue_any (b : ByteArray) (hb : b.size ≤ 140737488351232) (w : World) :
    Calls Tryz.prog 32 #[.string b] w fun e w' => e = .returned (.tuple #[.string (getValF b).1, .string (getValF b).2.1, .int .i64 (getValF b).2.2]) ∧ Kept (fun _ => False) w w' := by
  unfold getValF
  by_cases h0 : b.size = 0
  · rw [if_pos h0]
    have h0z : (b.size : Int) < 1 := by omega
    clear h0
    go_enter Tryz.func32, Tryz.ntmps32
    go_wp2
    go_ret3
    exact ⟨rfl, Kept.refl _ _⟩
  · rw [if_neg h0]
    have h0z : ¬ (b.size : Int) < 1 := by omega
    have x0 := index_at b 0 (by omega) 0 rfl
    have bA := (b.data.toList.getD 0 0).toNat_lt
    generalize (b.data.toList.getD 0 0).toNat = n at *
    have hwB : IntKind.i64.wrap (n : Int) = (n : Int) := by rw [IntKind.wrap_i64]; omega
    by_cases h1 : n < 1
    · rw [if_pos (Or.inl h1)]
      have h1z : (n : Int) < 1 := by omega
      clear h0
      go_enter Tryz.func32, Tryz.ntmps32
      go_wp2
      go_ret3
      exact ⟨rfl, Kept.refl _ _⟩
    · have h1z : ¬ (n : Int) < 1 := by omega
      by_cases h2 : 60 < n
      · rw [if_pos (Or.inr h2)]
        have h2z : (60 : Int) < (n : Int) := by omega
        clear h0
        go_enter Tryz.func32, Tryz.ntmps32
        go_wp2
        go_ret3
        exact ⟨rfl, Kept.refl _ _⟩
      · rw [if_neg (by omega)]
        have h2z : ¬ (60 : Int) < (n : Int) := by omega
        by_cases h3 : b.size < 1 + n
        · rw [if_pos h3]
          have h3z : (b.size : Int) - 1 < (n : Int) := by omega
          clear h0
          go_enter Tryz.func32, Tryz.ntmps32
          go_wp2
          go_ret3
          exact ⟨rfl, Kept.refl _ _⟩
        · rw [if_neg h3]
          have h3z : ¬ (b.size : Int) - 1 < (n : Int) := by omega
          by_cases h4 : 61 + n < b.size
          · rw [if_pos h4]
            have h4z : (60 : Int) < (b.size : Int) - 1 - (n : Int) := by omega
            clear h0
            go_enter Tryz.func32, Tryz.ntmps32
            go_wp2
            go_ret3
            exact ⟨rfl, Kept.refl _ _⟩
          · rw [if_neg h4]
            have h4z : ¬ (60 : Int) < (b.size : Int) - 1 - (n : Int) := by omega
            have hw1 : IntKind.i64.wrap (1 + (n : Int)) = 1 + (n : Int) := by rw [IntKind.wrap_i64]; omega
            have y1 := mid_at b 1 (1 + n) (by omega) (by omega) 1 (1 + (n : Int)) rfl (by omega)
            have y2 := last_at b (1 + n) (by omega) (1 + (n : Int)) (by omega)
            generalize b.extract 1 (1 + n) = P at *
            generalize b.extract (1 + n) b.size = R at *
            clear h0 h1 h2 h3 h4
            go_enter Tryz.func32, Tryz.ntmps32
            go_wp2
            go_region
            all_goals
              go_wp2
              go_ret3
              exact ⟨rfl, (Kept.refl _ _).drew⟩
end Go.Proofs.YtndpfcanfcbldaaGreatDoor

namespace Go.Proofs.YtndpfcanfcbldaaGreatDoor
open Go.RowKit

def svCells (c : Sv) : Array Value := #[.string c.name, .int .i64 c.retry, .int .i64 c.wait, .int .i64 c.id, .int .i64 c.ticks, .int .i64 c.tries, .string c.value, .bool c.asks, .bool c.waits, .bool c.judged, .bool c.done, .bool c.good]
def SvIn (w : World) (b : Nat) (c : Sv) : Prop := w.heap[b]? = some (.cells (svCells c) 84 (0, 0))
section
variable {w w' : World} {b : Nat} {c : Sv}
theorem SvIn.cell (h : SvIn w b c) (i : Nat) : w.cell? ⟨b, i, none⟩ = (svCells c)[i]? := by
  unfold SvIn at h
  simp [World.cell?, h]
theorem SvIn.c0 (h : SvIn w b c) : w.cell? ⟨b, 0, none⟩ = some (.string c.name) := h.cell 0
theorem SvIn.c1 (h : SvIn w b c) : w.cell? ⟨b, 1, none⟩ = some (.int .i64 c.retry) := h.cell 1
theorem SvIn.c2 (h : SvIn w b c) : w.cell? ⟨b, 2, none⟩ = some (.int .i64 c.wait) := h.cell 2
theorem SvIn.c3 (h : SvIn w b c) : w.cell? ⟨b, 3, none⟩ = some (.int .i64 c.id) := h.cell 3
theorem SvIn.c4 (h : SvIn w b c) : w.cell? ⟨b, 4, none⟩ = some (.int .i64 c.ticks) := h.cell 4
theorem SvIn.c5 (h : SvIn w b c) : w.cell? ⟨b, 5, none⟩ = some (.int .i64 c.tries) := h.cell 5
theorem SvIn.c6 (h : SvIn w b c) : w.cell? ⟨b, 6, none⟩ = some (.string c.value) := h.cell 6
theorem SvIn.c7 (h : SvIn w b c) : w.cell? ⟨b, 7, none⟩ = some (.bool c.asks) := h.cell 7
theorem SvIn.c8 (h : SvIn w b c) : w.cell? ⟨b, 8, none⟩ = some (.bool c.waits) := h.cell 8
theorem SvIn.c9 (h : SvIn w b c) : w.cell? ⟨b, 9, none⟩ = some (.bool c.judged) := h.cell 9
theorem SvIn.c10 (h : SvIn w b c) : w.cell? ⟨b, 10, none⟩ = some (.bool c.done) := h.cell 10
theorem SvIn.c11 (h : SvIn w b c) : w.cell? ⟨b, 11, none⟩ = some (.bool c.good) := h.cell 11
theorem SvIn.fz (h : SvIn w b c) (i : Nat) : w.frozen? ⟨b, i, none⟩ = false := by
  unfold SvIn at h
  simp [World.frozen?, h]
theorem SvIn.lt (h : SvIn w b c) : b < w.heap.size := (Array.getElem?_eq_some_iff.1 h).1
theorem SvIn.kept {S : Nat → Prop} (h : SvIn w b c) (hk : Kept S w w') (hS : ¬ S b) : SvIn w' b c := (hk.block b h.lt hS).trans h
theorem SvIn.kept0 (h : SvIn w b c) (hk : Kept (fun _ => False) w w') : SvIn w' b c := h.kept hk id
theorem SvIn.drew (h : SvIn w b c) : SvIn w.drew b c := h
theorem SvIn.set3 (h : SvIn w b c) (x : Int) : SvIn (w.setCell ⟨b, 3, none⟩ (.int .i64 x)) b { c with id := x } := Joins.block_setCell h (i := 3) (.int .i64 x)
theorem SvIn.set4 (h : SvIn w b c) (x : Int) : SvIn (w.setCell ⟨b, 4, none⟩ (.int .i64 x)) b { c with ticks := x } := Joins.block_setCell h (i := 4) (.int .i64 x)
theorem SvIn.set5 (h : SvIn w b c) (x : Int) : SvIn (w.setCell ⟨b, 5, none⟩ (.int .i64 x)) b { c with tries := x } := Joins.block_setCell h (i := 5) (.int .i64 x)
theorem SvIn.set6 (h : SvIn w b c) (x : ByteArray) : SvIn (w.setCell ⟨b, 6, none⟩ (.string x)) b { c with value := x } := Joins.block_setCell h (i := 6) (.string x)
theorem SvIn.set7 (h : SvIn w b c) (x : Bool) : SvIn (w.setCell ⟨b, 7, none⟩ (.bool x)) b { c with asks := x } := Joins.block_setCell h (i := 7) (.bool x)
theorem SvIn.set8 (h : SvIn w b c) (x : Bool) : SvIn (w.setCell ⟨b, 8, none⟩ (.bool x)) b { c with waits := x } := Joins.block_setCell h (i := 8) (.bool x)
theorem SvIn.set9 (h : SvIn w b c) (x : Bool) : SvIn (w.setCell ⟨b, 9, none⟩ (.bool x)) b { c with judged := x } := Joins.block_setCell h (i := 9) (.bool x)
theorem SvIn.set10 (h : SvIn w b c) (x : Bool) : SvIn (w.setCell ⟨b, 10, none⟩ (.bool x)) b { c with done := x } := Joins.block_setCell h (i := 10) (.bool x)
theorem SvIn.set11 (h : SvIn w b c) (x : Bool) : SvIn (w.setCell ⟨b, 11, none⟩ (.bool x)) b { c with good := x } := Joins.block_setCell h (i := 11) (.bool x)
end
end Go.Proofs.YtndpfcanfcbldaaGreatDoor

namespace Go.Proofs.YtndpfcanfcbldaaGreatDoor
open Go.RowKit

set_option maxHeartbeats 1000000 in
set_option maxRecDepth 100000 in
theorem sAsk_any {b : Nat} {c : Sv} {w : World} (h : SvIn w b c) (hn : c.name.size ≤ 60) (h1 : 1 ≤ c.value.size) (h2 : c.value.size ≤ 60) : Calls Tryz.prog 113 #[.pointer (some ⟨b, 0, none⟩)] w fun e w' => ∃ v, e = .returned v ∧ SvIn w' b { c with ticks := 0 } ∧ OwnQ w' w.heap.size v [⟨1, c.id, layF c.value ++ c.name⟩] ∧ Kept (fun i => i = b) w w' := by
  have c4 := h.c4
  have f4 := h.fz 4
  have H2 := hid (h.set4 0)
  have K2 := hid (caOwn (Kept.refl (fun i => i = b) w) 4 (.int .i64 0))
  have HP := hid (rPutValue_any c.value c.name (by omega) (by omega))
  rw [putValF_ok h1 h2 hn] at HP
  simp only at HP
  generalize layF c.value ++ c.name = D at *
  clear h h1 h2 hn
  go_enter Tryz.func113, Tryz.ntmps113
  go_upto_region 2 with fail
  generalize hW : w.setCell ⟨b, 4, none⟩ (.int .i64 0) = W at *
  clear hW f4 c4
  have c3 := H2.out.c3
  have c6 := H2.out.c6
  have c0 := H2.out.c0
  simp only at c3 c6 c0
  have D1 := (Kept.refl (fun _ => False) W).drew
  go_wp2_with fail
  go_region_with (go_at_call 33; refine (HP.out _).mono ?_; rintro e w5 ⟨rfl, hk5⟩; have d3 := (H2.out.kept0 (D1.trans hk5)).c3; simp only at d3; have HK := hid (D1.trans hk5); clear hk5)
  all_goals
    go_wp2
    go_ret
    refine ⟨_, rfl, H2.out.kept0 (HK.out.alloc _), ?_, (K2.out.trans (caNone HK.out)).alloc _⟩
    have hsz := K2.out.size
    have hsz2 := HK.out.size
    exact (OwnQ.new w5 ⟨1, c.id, D⟩).mono (by omega)

set_option maxHeartbeats 1000000 in
set_option maxRecDepth 100000 in
theorem sStart_any (b : Nat) (c : Sv) (hg : GoodS c) (v : ByteArray) (hv : v.size ≤ 140737488351232) (w : World) (h : SvIn w b c) : Calls Tryz.prog 18 #[.pointer (some ⟨b, 0, none⟩), .string v] w fun e w' => ∃ u, e = .returned u ∧ SvIn w' b (startS c v).2 ∧ OwnQ w' w.heap.size u (startS c v).1 ∧ Kept (fun i => i = b) w w' := by
  unfold startS
  have H := hid h
  by_cases h1 : v.size < 1
  · rw [if_pos (Or.inl h1)]
    have h1z : (v.size : Int) < 1 := by omega
    clear h h1
    go_enter Tryz.func18, Tryz.ntmps18
    go_wp2
    go_ret
    exact ⟨_, rfl, H.out, OwnQ.nil _ _, Kept.refl _ _⟩
  · have h1z : ¬ (v.size : Int) < 1 := by omega
    by_cases h2 : 60 < v.size
    · rw [if_pos (Or.inr h2)]
      have h2z : (60 : Int) < (v.size : Int) := by omega
      clear h h1 h2
      go_enter Tryz.func18, Tryz.ntmps18
      go_wp2
      go_ret
      exact ⟨_, rfl, H.out, OwnQ.nil _ _, Kept.refl _ _⟩
    · rw [if_neg (by omega)]
      have h2z : ¬ (60 : Int) < (v.size : Int) := by omega
      have hi := hg.id
      have hw2 : (c.id + 1).tmod 256 = (c.id + 1) % 256 := Int.tmod_eq_emod_of_nonneg (by omega)
      have hw1 : IntKind.i64.wrap (c.id + 1) = c.id + 1 := by rw [IntKind.wrap_i64]; omega
      have c3 := h.c3
      have c6 := h.c6
      have c5 := h.c5
      have c7 := h.c7
      have c8 := h.c8
      have c9 := h.c9
      have c10 := h.c10
      have c11 := h.c11
      have fz := h.fz
      have f3 := fz 3
      have f6 := fz 6
      have f5 := fz 5
      have f7 := fz 7
      have f8 := fz 8
      have f9 := fz 9
      have f10 := fz 10
      have f11 := fz 11
      generalize (c.id + 1) % 256 = X at *
      have H8 : Hid (SvIn ((((((((w.setCell ⟨b, 3, none⟩ (.int .i64 X)).setCell ⟨b, 6, none⟩ (.string v)).setCell ⟨b, 5, none⟩ (.int .i64 0)).setCell ⟨b, 7, none⟩ (.bool true)).setCell ⟨b, 8, none⟩ (.bool false)).setCell ⟨b, 9, none⟩ (.bool false)).setCell ⟨b, 10, none⟩ (.bool false)).setCell ⟨b, 11, none⟩ (.bool false)) b ⟨c.name, c.retry, c.wait, X, c.ticks, 0, v, true, false, false, false, false⟩) :=
        ((((((((h.set3 X).set6 v).set5 0).set7 true).set8 false).set9 false).set10 false).set11 false)
      have K8 := hid (caOwn (caOwn (caOwn (caOwn (caOwn (caOwn (caOwn (caOwn (Kept.refl (fun i => i = b) w) 3 (.int .i64 X)) 6 (.string v)) 5 (.int .i64 0)) 7 (.bool true)) 8 (.bool false)) 9 (.bool false)) 10 (.bool false)) 11 (.bool false))
      have HA := hid (sAsk_any H8.out hg.name (by show 1 ≤ v.size; omega) (by show v.size ≤ 60; omega))
      simp only at HA
      clear h h1 h2 hg fz hi H8
      go_enter Tryz.func18, Tryz.ntmps18
      go_wp2_with fail
      refine HA.out.mono ?_
      rintro e w' ⟨u, rfl, hc, ho, hk⟩
      have HC := hid hc
      have HO := hid ho
      have HK := hid (K8.out.trans hk)
      have hs := K8.out.size
      clear hc ho hk HA
      go_wp2
      go_ret
      exact ⟨u, rfl, HC.out, HO.out.mono hs, HK.out⟩

set_option maxHeartbeats 2000000 in
set_option maxRecDepth 100000 in
theorem sTick_any (b : Nat) (c : Sv) (hg : GoodS c) (w : World) (h : SvIn w b c) : Calls Tryz.prog 20 #[.pointer (some ⟨b, 0, none⟩)] w fun e w' => ∃ v, e = .returned v ∧ SvIn w' b (tickS c).2 ∧ OwnQ w' w.heap.size v (tickS c).1 ∧ Kept (fun i => i = b) w w' := by
  unfold tickS
  have c7 := h.c7
  by_cases hst : c.asks = true
  · rw [if_pos hst]
    rw [hst] at c7
    obtain ⟨_, e2, e3⟩ := hg.early hst
    have c4 := h.c4
    have f4 := h.fz 4
    have H1 := hid (h.set4 (c.ticks + 1))
    have hw5 : IntKind.i64.wrap (c.ticks + 1) = c.ticks + 1 := by have := hg.ticks; have := hg.wait; rw [IntKind.wrap_i64]; omega
    have hw6 : IntKind.i64.wrap (c.tries + 1) = c.tries + 1 := by have := hg.tries; have := hg.retry; rw [IntKind.wrap_i64]; omega
    have K1 := hid (caOwn (Kept.refl (fun i => i = b) w) 4 (.int .i64 (c.ticks + 1)))
    have G := hid hg
    clear h hg hst
    by_cases h1 : c.ticks + 1 < c.wait
    · rw [if_pos h1]
      go_enter Tryz.func20, Tryz.ntmps20
      go_upto_region 4 with fail
      generalize hW : w.setCell ⟨b, 4, none⟩ (.int .i64 (c.ticks + 1)) = W at *
      have d4 := H1.out.c4
      have d2 := H1.out.c2
      simp only at d4 d2
      go_region
      all_goals
        go_wp2
        go_ret
        exact ⟨_, rfl, H1.out.drew, OwnQ.nil _ _, K1.out.drew⟩
    · rw [if_neg h1]
      by_cases h2 : c.tries = c.retry
      · rw [if_pos h2]
        have hd : c.retry ≤ c.tries := by omega
        clear h2
        go_enter Tryz.func20, Tryz.ntmps20
        go_upto_region 4 with fail
        generalize hW : w.setCell ⟨b, 4, none⟩ (.int .i64 (c.ticks + 1)) = W at *
        have d4 := H1.out.c4
        have d2 := H1.out.c2
        have d5 := H1.out.c5
        have d1 := H1.out.c1
        have d7 := H1.out.c7
        have f7 := H1.out.fz 7
        have H2 := hid (H1.out.set7 false)
        have d10 := H2.out.c10
        have f10 := H2.out.fz 10
        have K3 := hid (caOwn (caOwn K1.out 7 (.bool false)) 10 (.bool true))
        have H3 := hid (H2.out.set10 true)
        simp only at d4 d2 d5 d1 d7 d10
        go_region
        all_goals
          go_wp2
          go_region
          all_goals
            go_wp2
            go_ret
            exact ⟨_, rfl, H3.out, OwnQ.nil _ _, K3.out.drew.drew⟩
      · rw [if_neg h2]
        have hdr : ¬ c.retry ≤ c.tries := by have := G.out.tries; omega
        clear h2
        go_enter Tryz.func20, Tryz.ntmps20
        go_upto_region 4 with fail
        generalize hW : w.setCell ⟨b, 4, none⟩ (.int .i64 (c.ticks + 1)) = W at *
        have d4 := H1.out.c4
        have d2 := H1.out.c2
        have d5 := H1.out.c5
        have d1 := H1.out.c1
        have f5 := H1.out.fz 5
        have H2 := hid ((H1.out.drew.drew).set5 (c.tries + 1))
        have K2 := hid (caOwn K1.out.drew.drew 5 (.int .i64 (c.tries + 1)))
        have HK := hid (sAsk_any H2.out G.out.name e2 e3)
        simp only at d4 d2 d5 d1 HK
        go_region
        all_goals
          go_wp2
          go_region
          all_goals
            go_wp2_with fail
            refine HK.out.mono ?_
            rintro e w' ⟨v, rfl, hc, ho, hk⟩
            have HC := hid hc
            have HO := hid ho
            have HK' := hid (K2.out.trans hk)
            have hs := K2.out.size
            clear hc ho hk
            go_wp2
            go_ret
            exact ⟨v, rfl, HC.out, HO.out.mono hs, HK'.out⟩
  · rw [if_neg hst]
    have hf : c.asks = false := by simpa using hst
    rw [hf] at c7
    have H := hid h
    clear h hg hst
    go_enter Tryz.func20, Tryz.ntmps20
    go_wp2
    go_ret
    exact ⟨_, rfl, H.out, OwnQ.nil _ _, Kept.refl _ _⟩

set_option maxRecDepth 100000 in
theorem sSay_any (b : Nat) (c : Sv) (w : World) (h : SvIn w b c) : Calls Tryz.prog 116 #[.pointer (some ⟨b, 0, none⟩)] w fun e w' => ∃ v, e = .returned v ∧ OwnQ w' w.heap.size v (sayS c) ∧ Kept (fun _ => False) w w' := by
  have c3 := h.c3
  have c11 := h.c11
  unfold sayS
  cases hq : c.good with
  | true =>
    rw [hq] at c11
    clear h
    go_enter Tryz.func116, Tryz.ntmps116
    go_wp2
    go_ret
    exact ⟨_, rfl, OwnQ.new w ⟨3, c.id, ⟨#[]⟩⟩, (Kept.refl _ w).alloc _⟩
  | false =>
    rw [hq] at c11
    clear h
    go_enter Tryz.func116, Tryz.ntmps116
    go_wp2
    go_ret
    exact ⟨_, rfl, OwnQ.new w ⟨4, c.id, ⟨#[]⟩⟩, (Kept.refl _ w).alloc _⟩

set_option maxHeartbeats 1000000 in
set_option maxRecDepth 100000 in
theorem sJudge_any (b : Nat) (c : Sv) (good : Bool) (w : World) (h : SvIn w b c) : Calls Tryz.prog 22 #[.pointer (some ⟨b, 0, none⟩), .bool good] w fun e w' => ∃ v, e = .returned v ∧ SvIn w' b (judgeS c good).2 ∧ OwnQ w' w.heap.size v (judgeS c good).1 ∧ Kept (fun i => i = b) w w' := by
  unfold judgeS
  have c8 := h.c8
  by_cases hq : c.waits = true
  · rw [if_pos hq]
    rw [hq] at c8
    have c9 := h.c9
    have c10 := h.c10
    have c11 := h.c11
    have f8 := h.fz 8
    have f9 := h.fz 9
    have f10 := h.fz 10
    have f11 := h.fz 11
    have H4 := hid ((((h.set8 false).set9 true).set10 true).set11 good)
    have K4 := hid (caOwn (caOwn (caOwn (caOwn (Kept.refl (fun i => i = b) w) 8 (.bool false)) 9 (.bool true)) 10 (.bool true)) 11 (.bool good))
    have HS := hid (sSay_any b _ _ H4.out)
    clear h hq
    go_enter Tryz.func22, Tryz.ntmps22
    go_wp2_with fail
    refine HS.out.mono ?_
    rintro e w' ⟨v, rfl, ho, hk⟩
    have HC := hid (H4.out.kept0 hk)
    have HO := hid ho
    have HK := hid (K4.out.trans (caNone hk))
    have hs := K4.out.size
    clear ho hk HS
    go_wp2
    go_ret
    exact ⟨v, rfl, HC.out, HO.out.mono hs, HK.out⟩
  · rw [if_neg hq]
    have hf : c.waits = false := by simpa using hq
    rw [hf] at c8
    have H := hid h
    clear h hq
    go_enter Tryz.func22, Tryz.ntmps22
    go_wp2
    go_ret
    exact ⟨_, rfl, H.out, OwnQ.nil _ _, Kept.refl _ _⟩
end Go.Proofs.YtndpfcanfcbldaaGreatDoor

namespace Go.Proofs.YtndpfcanfcbldaaGreatDoor
open Go.RowKit

set_option maxHeartbeats 1000000 in
set_option maxRecDepth 100000 in
theorem sAgain_any (b : Nat) (c : Sv) (code id : Int) (p : Option Addr) (n cap : Nat) (s : ByteArray) (w : World) (h : SvIn w b c) :
    Calls Tryz.prog 24 #[.pointer (some ⟨b, 0, none⟩), pkV code id (.slice p n cap) s] w fun e w' => ∃ v, e = .returned v ∧ OwnQ w' w.heap.size v (againS c code id) ∧ Kept (fun _ => False) w w' := by
  unfold pkV
  have hk := (Kept.refl (fun _ => False) w).alloc (.cells #[.int .i64 code, .int .i64 id, .slice p n cap, .string s] 57)
  have h1 := h.kept0 hk
  have H1 := hid h1
  have K1 := hid hk
  obtain ⟨d0, d1, d2, d3⟩ := (PkAt.new w code id (.slice p n cap) s).cells
  have c3 := h1.c3
  have c9 := h1.c9
  unfold againS
  by_cases e1 : code = 2
  · have e1' : (code != 2) = false := by simp [e1]
    by_cases e2 : id = c.id
    · have e2' : (id != c.id) = false := by simp [e2]
      cases hj : c.judged with
      | true =>
        rw [if_pos ⟨e1, e2, rfl⟩]
        rw [hj] at c9
        have HS := hid (fun W (hW : SvIn W b c) => sSay_any b c W hW)
        clear e1 e2 h h1 hk
        go_enter Tryz.func24, Tryz.ntmps24
        go_upto_region 1 with fail
        generalize hW : w.alloc (.cells #[.int .i64 code, .int .i64 id, .slice p n cap, .string s] 57) = W at *
        clear hW
        go_quiet (fail)
        go_wp2_with fail
        refine (HS.out _ (show SvIn (W.drewN _) b c from H1.out)).mono ?_
        rintro e w2 ⟨v, rfl, ho, hk2⟩
        have HO := hid ho
        have HK := hid ((K1.out.drewN _).trans hk2)
        have hs := K1.out.size
        clear ho hk2
        go_wp2
        go_ret
        exact ⟨v, rfl, HO.out.mono hs, HK.out⟩
      | false =>
        rw [if_neg (fun h => by cases h.2.2)]
        rw [hj] at c9
        clear e1 e2 h h1 hk
        go_enter Tryz.func24, Tryz.ntmps24
        go_upto_region 1 with fail
        generalize hW : w.alloc (.cells #[.int .i64 code, .int .i64 id, .slice p n cap, .string s] 57) = W at *
        clear hW
        go_quiet (fail)
        go_wp2
        go_ret
        exact ⟨_, rfl, OwnQ.nil _ _, K1.out.drewN _⟩
    · rw [if_neg (fun h => e2 h.2.1)]
      have e2' : (id != c.id) = true := by simpa using e2
      clear e1 e2 h h1 hk
      go_enter Tryz.func24, Tryz.ntmps24
      go_upto_region 1 with fail
      generalize hW : w.alloc (.cells #[.int .i64 code, .int .i64 id, .slice p n cap, .string s] 57) = W at *
      clear hW
      go_quiet (fail)
      go_wp2
      go_ret
      exact ⟨_, rfl, OwnQ.nil _ _, K1.out.drewN _⟩
  · rw [if_neg (fun h => e1 h.1)]
    have e1' : (code != 2) = true := by simpa using e1
    clear e1 h h1 hk
    go_enter Tryz.func24, Tryz.ntmps24
    go_upto_region 1 with fail
    generalize hW : w.alloc (.cells #[.int .i64 code, .int .i64 id, .slice p n cap, .string s] 57) = W at *
    clear hW
    go_quiet (fail)
    go_wp2
    go_ret
    exact ⟨_, rfl, OwnQ.nil _ _, K1.out.drewN _⟩

/-- What NewServer answers. -/
def SNewIs (n : ByteArray) (retry wait : Int) (w : World) (e : Ending) (w' : World) : Prop :=
  ((60 < n.size ∧ e = .returned (.tuple #[.pointer none, .int .i64 2])) ∨
   (n.size ≤ 60 ∧ ¬ (0 ≤ retry ∧ retry ≤ 10 ∧ 1 ≤ wait ∧ wait ≤ 100) ∧ e = .returned (.tuple #[.pointer none, .int .i64 1])) ∨
   (n.size ≤ 60 ∧ (0 ≤ retry ∧ retry ≤ 10 ∧ 1 ≤ wait ∧ wait ≤ 100) ∧ e = .returned (.tuple #[.pointer (some ⟨w.heap.size, 0, none⟩), .int .i64 0]) ∧ SvIn w' w.heap.size (newS n retry wait))) ∧ Kept (fun _ => False) w w'

set_option maxHeartbeats 1000000 in
set_option maxRecDepth 100000 in
theorem sNew_any (n : ByteArray) (hn : n.size ≤ 140737488351232) (retry wait : Int) (w : World) :
    Calls Tryz.prog 16 #[.string n, .int .i64 retry, .int .i64 wait] w (SNewIs n retry wait w) := by
  by_cases h1 : 60 < n.size
  · have h1z : (60 : Int) < (n.size : Int) := by omega
    go_enter Tryz.func16, Tryz.ntmps16
    go_wp2
    go_ret2
    exact ⟨Or.inl ⟨h1, rfl⟩, Kept.refl _ _⟩
  · have h1z : ¬ (60 : Int) < (n.size : Int) := by omega
    have H1 := hid h1
    clear h1
    by_cases q1 : retry < 0
    · go_enter Tryz.func16, Tryz.ntmps16
      go_wp2
      go_ret2
      exact ⟨Or.inr (Or.inl ⟨Nat.le_of_not_lt H1.out, by omega, rfl⟩), Kept.refl _ _⟩
    · by_cases q2 : 10 < retry
      · go_enter Tryz.func16, Tryz.ntmps16
        go_wp2
        go_ret2
        exact ⟨Or.inr (Or.inl ⟨Nat.le_of_not_lt H1.out, by omega, rfl⟩), Kept.refl _ _⟩
      · by_cases q3 : wait < 1
        · go_enter Tryz.func16, Tryz.ntmps16
          go_wp2
          go_ret2
          exact ⟨Or.inr (Or.inl ⟨Nat.le_of_not_lt H1.out, by omega, rfl⟩), Kept.refl _ _⟩
        · by_cases q4 : 100 < wait
          · go_enter Tryz.func16, Tryz.ntmps16
            go_wp2
            go_ret2
            exact ⟨Or.inr (Or.inl ⟨Nat.le_of_not_lt H1.out, by omega, rfl⟩), Kept.refl _ _⟩
          · go_enter Tryz.func16, Tryz.ntmps16
            go_wp2
            go_ret2
            exact ⟨Or.inr (Or.inr ⟨Nat.le_of_not_lt H1.out, by omega, rfl, heap_alloc_new w _⟩), (Kept.refl _ w).alloc _⟩
theorem SvIn.far {w : World} {b r : Nat} {c : Sv} (h : SvIn w b c) (hne : b ≠ r) (j : Nat) (u : Value) : SvIn (w.setCell ⟨r, j, none⟩ u) b c := h.kept ((Kept.refl (fun i => i = r) w).setCell (p := ⟨r, j, none⟩) (Or.inr (by rfl)) u) hne

set_option maxHeartbeats 2000000 in
set_option maxRecDepth 100000 in
theorem sTake_any (b : Nat) (c : Sv) (code id : Int) (p : Option Addr) (n cap : Nat) (s : ByteArray) (hs : s.size ≤ 140737488351232) (w : World) (h : SvIn w b c) :
    Calls Tryz.prog 26 #[.pointer (some ⟨b, 0, none⟩), pkV code id (.slice p n cap) s] w fun e w' => e = .returned (.tuple #[cmV (takeS c code id s).1, .bool (takeS c code id s).2.1]) ∧ SvIn w' b (takeS c code id s).2.2 ∧ Kept (fun i => i = b) w w' := by
  unfold pkV
  have hk1 := (Kept.refl (fun _ => False) w).alloc (.cells #[.int .i64 code, .int .i64 id, .slice p n cap, .string s] 57)
  have hk2 := (Kept.refl (fun _ => False) (w.alloc (.cells #[.int .i64 code, .int .i64 id, .slice p n cap, .string s] 57))).alloc (.cells #[.string ⟨#[]⟩, .string ⟨#[]⟩, .string ⟨#[]⟩, .int .i64 0] 80)
  have H1 := hid (h.kept0 (hk1.trans hk2))
  have K1 := hid (hk1.trans hk2)
  have X1 := hid ((PkAt.new w code id (.slice p n cap) s).kept hk2 (fun h => h))
  have O1 := hid (own4_new (w.alloc (.cells #[.int .i64 code, .int .i64 id, .slice p n cap, .string s] 57)) 80 (.string ⟨#[]⟩) (.string ⟨#[]⟩) (.string ⟨#[]⟩) (.int .i64 0))
  have hsz : (w.alloc (.cells #[.int .i64 code, .int .i64 id, .slice p n cap, .string s] 57)).heap.size = w.heap.size + 1 := by simp
  rw [hsz] at O1
  have hne : b ≠ w.heap.size + 1 := by have := h.lt; omega
  clear hk1 hk2 hsz h
  unfold takeS
  cases e0 : c.asks with
  | true =>
    by_cases e1 : code = 2
    · have e1' : (code != 2) = false := by simp [e1]
      by_cases e2 : id = c.id
      · have e2' : (id != c.id) = false := by simp [e2]
        have HG := hid (rGetValue_any s hs)
        by_cases e3 : (getValF s).2.2 = 0
        · rw [if_pos ⟨rfl, e1, e2, e3⟩]
          generalize getValF s = R at *
          obtain ⟨x, y, E⟩ := R
          simp only at HG e3
          subst e3
          clear e1 e2
          go_enter Tryz.func26, Tryz.ntmps26
          go_upto_region 1 with fail
          generalize (w.alloc (.cells #[.int .i64 code, .int .i64 id, .slice p n cap, .string s] 57)).alloc (.cells #[.string ⟨#[]⟩, .string ⟨#[]⟩, .string ⟨#[]⟩, .int .i64 0] 80) = W at *
          obtain ⟨d0, d1, d2, d3⟩ := X1.out.cells
          have c7 := H1.out.c7
          have c3 := H1.out.c3
          rw [e0] at c7
          go_quiet (fail)
          go_wp2_with fail
          refine (HG.out _).mono ?_
          rintro e w2 ⟨rfl, hk⟩
          have HK := hid (((Kept.refl (fun _ => False) W).drewN _).trans hk)
          obtain ⟨⟨o0, o1, o2, o3⟩, of⟩ := O1.out.kept HK.out
          have H2 := hid (H1.out.kept0 HK.out)
          have K2 := hid (caNone (b := b) (K1.out.trans HK.out))
          clear hk HK
          have q7 := H2.out.c7
          have g7 := H2.out.fz 7
          have H3 := hid (H2.out.set7 false)
          have q8 := H3.out.c8
          have g8 := H3.out.fz 8
          have H4 := hid (H3.out.set8 true)
          have K4 := hid (caOwn (caOwn K2.out 7 (.bool false)) 8 (.bool true))
          have q6 := H4.out.c6
          have q3 := H4.out.c3
          simp only at q7 q8 q6 q3
          have kk := hid (caOwn (caOwn (Kept.refl (fun i => i = b) w2) 7 (.bool false)) 8 (.bool true))
          have p0 := (kk.out.cell (p := ⟨w.heap.size + 1, 0, none⟩) (lt_of_cell o0) hne.symm).trans o0
          have p1 := (kk.out.cell (p := ⟨w.heap.size + 1, 1, none⟩) (lt_of_cell o1) hne.symm).trans o1
          have p2 := (kk.out.cell (p := ⟨w.heap.size + 1, 2, none⟩) (lt_of_cell o2) hne.symm).trans o2
          have p3 := (kk.out.cell (p := ⟨w.heap.size + 1, 3, none⟩) (lt_of_cell o3) hne.symm).trans o3
          have hlt0 : w.heap.size + 1 < w2.heap.size := lt_of_cell o0
          have pf : ∀ i, World.frozen? ((w2.setCell ⟨b, 7, none⟩ (.bool false)).setCell ⟨b, 8, none⟩ (.bool true)) ⟨w.heap.size + 1, i, none⟩ = false := fun i => (kk.out.frozen (p := ⟨w.heap.size + 1, i, none⟩) hlt0 hne.symm).trans (of i)
          go_upto_region 7 with fail
          generalize (w2.setCell ⟨b, 7, none⟩ (.bool false)).setCell ⟨b, 8, none⟩ (.bool true) = W4 at *
          have pf0 := pf 0
          have pf1 := pf 1
          have pf2 := pf 2
          have pf3 := pf 3
          clear o0 o1 o2 o3 of q7 q8 g7 g8 kk hlt0
          go_region
          all_goals
            go_wp2
            refine bodyPost_ret (v := .tuple #[.agg #[.string y, .string c.value, .string x, .int .i64 c.id], .bool true]) (by simp [results, Tryz.results26, go_sem, p0, p1, p2, p3]) rfl ⟨rfl, ?_, ?_⟩
            · exact ((((show SvIn W4.drew b _ from H4.out).far hne 0 _).far hne 1 _).far hne 2 _).far hne 3 _
            · exact ((((K4.out.drew.setCell (Or.inl (Nat.le_succ _)) _).setCell (Or.inl (Nat.le_succ _)) _).setCell (Or.inl (Nat.le_succ _)) _).setCell (Or.inl (Nat.le_succ _)) _)
        · rw [if_neg (fun h => e3 h.2.2.2)]
          have e3' : ((getValF s).2.2 != 0) = true := by simpa using e3
          generalize getValF s = R at *
          obtain ⟨x, y, E⟩ := R
          simp only at HG e3'
          clear e1 e2 e3
          go_enter Tryz.func26, Tryz.ntmps26
          go_upto_region 1 with fail
          generalize (w.alloc (.cells #[.int .i64 code, .int .i64 id, .slice p n cap, .string s] 57)).alloc (.cells #[.string ⟨#[]⟩, .string ⟨#[]⟩, .string ⟨#[]⟩, .int .i64 0] 80) = W at *
          obtain ⟨d0, d1, d2, d3⟩ := X1.out.cells
          have c7 := H1.out.c7
          have c3 := H1.out.c3
          rw [e0] at c7
          go_quiet (fail)
          go_wp2_with fail
          refine (HG.out _).mono ?_
          rintro e w2 ⟨rfl, hk⟩
          have HK := hid (((Kept.refl (fun _ => False) W).drewN _).trans hk)
          obtain ⟨⟨o0, o1, o2, o3⟩, of⟩ := O1.out.kept HK.out
          have H2 := hid (H1.out.kept0 HK.out)
          have K2 := hid (caNone (b := b) (K1.out.trans HK.out))
          clear hk HK
          go_wp2
          refine bodyPost_ret (v := .tuple #[.agg #[.string ⟨#[]⟩, .string ⟨#[]⟩, .string ⟨#[]⟩, .int .i64 0], .bool false]) (by simp [results, Tryz.results26, go_sem, o0, o1, o2, o3]) rfl ⟨rfl, ?_, ?_⟩
          · exact (((H2.out.far hne 0 _).far hne 1 _).far hne 2 _).far hne 3 _
          · exact ((((K2.out.setCell (Or.inl (Nat.le_succ _)) _).setCell (Or.inl (Nat.le_succ _)) _).setCell (Or.inl (Nat.le_succ _)) _).setCell (Or.inl (Nat.le_succ _)) _)
      · rw [if_neg (fun h => e2 h.2.2.1)]
        have e2' : (id != c.id) = true := by simpa using e2
        clear e1 e2
        go_enter Tryz.func26, Tryz.ntmps26
        go_upto_region 1 with fail
        generalize (w.alloc (.cells #[.int .i64 code, .int .i64 id, .slice p n cap, .string s] 57)).alloc (.cells #[.string ⟨#[]⟩, .string ⟨#[]⟩, .string ⟨#[]⟩, .int .i64 0] 80) = W at *
        obtain ⟨d0, d1, d2, d3⟩ := X1.out.cells
        have c7 := H1.out.c7
        have c3 := H1.out.c3
        rw [e0] at c7
        go_quiet (fail)
        obtain ⟨⟨o0, o1, o2, o3⟩, of⟩ := O1.out
        have H2 : Hid (SvIn W b c) := H1
        go_wp2
        refine bodyPost_ret (v := .tuple #[.agg #[.string ⟨#[]⟩, .string ⟨#[]⟩, .string ⟨#[]⟩, .int .i64 0], .bool false]) (by simp [results, Tryz.results26, go_sem, o0, o1, o2, o3]) rfl ⟨rfl, ?_, ?_⟩
        · exact ((((show SvIn (W.drewN _) b c from H2.out).far hne 0 _).far hne 1 _).far hne 2 _).far hne 3 _
        · exact (((((caNone K1.out).drewN _).setCell (Or.inl (Nat.le_succ _)) _).setCell (Or.inl (Nat.le_succ _)) _).setCell (Or.inl (Nat.le_succ _)) _).setCell (Or.inl (Nat.le_succ _)) _
    · rw [if_neg (fun h => e1 h.2.1)]
      have e1' : (code != 2) = true := by simpa using e1
      clear e1
      go_enter Tryz.func26, Tryz.ntmps26
      go_upto_region 1 with fail
      generalize (w.alloc (.cells #[.int .i64 code, .int .i64 id, .slice p n cap, .string s] 57)).alloc (.cells #[.string ⟨#[]⟩, .string ⟨#[]⟩, .string ⟨#[]⟩, .int .i64 0] 80) = W at *
      obtain ⟨d0, d1, d2, d3⟩ := X1.out.cells
      have c7 := H1.out.c7
      have c3 := H1.out.c3
      rw [e0] at c7
      go_quiet (fail)
      obtain ⟨⟨o0, o1, o2, o3⟩, of⟩ := O1.out
      have H2 : Hid (SvIn W b c) := H1
      go_wp2
      refine bodyPost_ret (v := .tuple #[.agg #[.string ⟨#[]⟩, .string ⟨#[]⟩, .string ⟨#[]⟩, .int .i64 0], .bool false]) (by simp [results, Tryz.results26, go_sem, o0, o1, o2, o3]) rfl ⟨rfl, ?_, ?_⟩
      · exact ((((show SvIn (W.drewN _) b c from H2.out).far hne 0 _).far hne 1 _).far hne 2 _).far hne 3 _
      · exact (((((caNone K1.out).drewN _).setCell (Or.inl (Nat.le_succ _)) _).setCell (Or.inl (Nat.le_succ _)) _).setCell (Or.inl (Nat.le_succ _)) _).setCell (Or.inl (Nat.le_succ _)) _
  | false =>
    rw [if_neg (fun h => by cases h.1)]
    go_enter Tryz.func26, Tryz.ntmps26
    go_upto_region 1 with fail
    generalize (w.alloc (.cells #[.int .i64 code, .int .i64 id, .slice p n cap, .string s] 57)).alloc (.cells #[.string ⟨#[]⟩, .string ⟨#[]⟩, .string ⟨#[]⟩, .int .i64 0] 80) = W at *
    obtain ⟨d0, d1, d2, d3⟩ := X1.out.cells
    have c7 := H1.out.c7
    have c3 := H1.out.c3
    rw [e0] at c7
    go_quiet (fail)
    obtain ⟨⟨o0, o1, o2, o3⟩, of⟩ := O1.out
    have H2 : Hid (SvIn W b c) := H1
    go_wp2
    refine bodyPost_ret (v := .tuple #[.agg #[.string ⟨#[]⟩, .string ⟨#[]⟩, .string ⟨#[]⟩, .int .i64 0], .bool false]) (by simp [results, Tryz.results26, go_sem, o0, o1, o2, o3]) rfl ⟨rfl, ?_, ?_⟩
    · exact ((((show SvIn (W.drewN _) b c from H2.out).far hne 0 _).far hne 1 _).far hne 2 _).far hne 3 _
    · exact (((((caNone K1.out).drewN _).setCell (Or.inl (Nat.le_succ _)) _).setCell (Or.inl (Nat.le_succ _)) _).setCell (Or.inl (Nat.le_succ _)) _).setCell (Or.inl (Nat.le_succ _)) _
end Go.Proofs.YtndpfcanfcbldaaGreatDoor

namespace Go.Proofs.YtndpfcanfcbldaaGreatDoor
open Go.RowKit

/-- The answer to a challenge: what digest.Chap and the document's own Chap come to (a function of the Id, the secret and the value). -/
structure Dig (K : Int → ByteArray → ByteArray → ByteArray) : Prop where
  size : ∀ i s v, (K i s v).size = 16
  ref : ∀ i (s v : ByteArray) W, s.size ≤ 60 → v.size ≤ 60 → Calls Tryz.prog 34 #[.int .i64 i, .string s, .string v] W fun e w' => e = .returned (.string (K i s v)) ∧ Kept (fun _ => False) W w'
def crCells (c : Cr) : Array Value := #[.string c.name, .string c.secret, .bool c.done, .bool c.good, .bool c.answered, .int .i64 c.id]
def CrIn (w : World) (b : Nat) (c : Cr) : Prop := w.heap[b]? = some (.cells (crCells c) 65 (0, 0))
section
variable {w w' : World} {b : Nat} {c : Cr}
theorem CrIn.cell (h : CrIn w b c) (i : Nat) : w.cell? ⟨b, i, none⟩ = (crCells c)[i]? := by
  unfold CrIn at h
  simp [World.cell?, h]
theorem CrIn.c0 (h : CrIn w b c) : w.cell? ⟨b, 0, none⟩ = some (.string c.name) := h.cell 0
theorem CrIn.c1 (h : CrIn w b c) : w.cell? ⟨b, 1, none⟩ = some (.string c.secret) := h.cell 1
theorem CrIn.c2 (h : CrIn w b c) : w.cell? ⟨b, 2, none⟩ = some (.bool c.done) := h.cell 2
theorem CrIn.c3 (h : CrIn w b c) : w.cell? ⟨b, 3, none⟩ = some (.bool c.good) := h.cell 3
theorem CrIn.c4 (h : CrIn w b c) : w.cell? ⟨b, 4, none⟩ = some (.bool c.answered) := h.cell 4
theorem CrIn.c5 (h : CrIn w b c) : w.cell? ⟨b, 5, none⟩ = some (.int .i64 c.id) := h.cell 5
theorem CrIn.fz (h : CrIn w b c) (i : Nat) : w.frozen? ⟨b, i, none⟩ = false := by
  unfold CrIn at h
  simp [World.frozen?, h]
theorem CrIn.lt (h : CrIn w b c) : b < w.heap.size := (Array.getElem?_eq_some_iff.1 h).1
theorem CrIn.kept {S : Nat → Prop} (h : CrIn w b c) (hk : Kept S w w') (hS : ¬ S b) : CrIn w' b c := (hk.block b h.lt hS).trans h
theorem CrIn.kept0 (h : CrIn w b c) (hk : Kept (fun _ => False) w w') : CrIn w' b c := h.kept hk id
theorem CrIn.drew (h : CrIn w b c) : CrIn w.drew b c := h
theorem CrIn.set2 (h : CrIn w b c) (x : Bool) : CrIn (w.setCell ⟨b, 2, none⟩ (.bool x)) b { c with done := x } := Joins.block_setCell h (i := 2) (.bool x)
theorem CrIn.set3 (h : CrIn w b c) (x : Bool) : CrIn (w.setCell ⟨b, 3, none⟩ (.bool x)) b { c with good := x } := Joins.block_setCell h (i := 3) (.bool x)
theorem CrIn.set4 (h : CrIn w b c) (x : Bool) : CrIn (w.setCell ⟨b, 4, none⟩ (.bool x)) b { c with answered := x } := Joins.block_setCell h (i := 4) (.bool x)
theorem CrIn.set5 (h : CrIn w b c) (x : Int) : CrIn (w.setCell ⟨b, 5, none⟩ (.int .i64 x)) b { c with id := x } := Joins.block_setCell h (i := 5) (.int .i64 x)
theorem CrIn.ne {g : Nat} {co i : Int} {v : Value} {d : ByteArray} (h : CrIn w b c) (hp : PkAt w g co i v d) : g ≠ b := fun e => by
  unfold PkAt at hp
  unfold CrIn at h
  rw [e, h] at hp
  simp at hp
end

set_option maxHeartbeats 4000000 in
set_option maxRecDepth 100000 in
theorem crTake_any {K : Int → ByteArray → ByteArray → ByteArray} (hK : Dig K) (b : Nat) (c : Cr) (hn : c.name.size ≤ 60) (hs : c.secret.size ≤ 60) (code id : Int) (p : Option Addr) (n cap : Nat) (s : ByteArray) (hd : s.size ≤ 140737488351232) (w : World) (h : CrIn w b c) :
    Calls Tryz.prog 10 #[.pointer (some ⟨b, 0, none⟩), pkV code id (.slice p n cap) s] w fun e w' => ∃ v, e = .returned v ∧ CrIn w' b (takeCr K c code id s).2 ∧ OwnQ w' w.heap.size v (takeCr K c code id s).1 ∧ Kept (fun i => i = b) w w' := by
  unfold pkV
  have hk := (Kept.refl (fun _ => False) w).alloc (.cells #[.int .i64 code, .int .i64 id, .slice p n cap, .string s] 57)
  have H1 := hid (h.kept0 hk)
  have K1 := hid (caNone (b := b) hk)
  have hsz := hk.size
  have X1 := hid (PkAt.new w code id (.slice p n cap) s)
  have hne := hid (H1.out.ne X1.out)
  clear hk h
  unfold takeCr
  by_cases e1 : code = 1
  · rw [if_pos e1]
    have e1' : (code == 1) = true := by simp [e1]
    have HG := hid (rGetValue_any s hd)
    have hgs := (getValF_size s).1
    by_cases e2 : (getValF s).2.2 = 0
    · rw [if_pos e2]
      generalize getValF s = R at *
      obtain ⟨x, y, E⟩ := R
      simp only at HG e2 hgs
      subst e2
      have HC := hid (fun W => hK.ref id c.secret x W hs hgs)
      have hR := hK.size id c.secret x
      simp only
      generalize K id c.secret x = RR at *
      have HP := hid (rPutValue_any RR c.name (by omega) (by omega))
      rw [putValF_ok (by omega) (by omega) hn] at HP
      simp only at HP
      generalize layF RR ++ c.name = D at *
      clear e1 hR hK
      go_enter Tryz.func10, Tryz.ntmps10
      go_upto_region 1 with fail
      generalize w.alloc (.cells #[.int .i64 code, .int .i64 id, .slice p n cap, .string s] 57) = W at *
      obtain ⟨d0, d1, d2, d3⟩ := X1.out.cells
      go_wp2_with fail
      refine (HG.out _).mono ?_
      rintro e w2 ⟨rfl, hk2⟩
      have H2 := hid (H1.out.kept0 hk2)
      have K2 := hid (K1.out.trans (caNone hk2))
      have X2 := hid (X1.out.kept hk2 (fun h => h))
      clear hk2 d0 d1 d2 d3 HG H1 K1 X1
      obtain ⟨d0, d1, d2, d3⟩ := X2.out.cells
      have q4 := H2.out.c4
      have q5 := H2.out.c5
      have f4 := H2.out.fz 4
      have f5 := H2.out.fz 5
      go_wp2
      go_region
      all_goals
        have H4 : Hid (CrIn ((w2.setCell ⟨b, 4, none⟩ (.bool true)).setCell ⟨b, 5, none⟩ (.int .i64 id)).drew b { c with answered := true, id := id }) := ((H2.out.set4 true).set5 id).drew
        have kk := (caOwn (caOwn (Kept.refl (fun i => i = b) w2) 4 (.bool true)) 5 (.int .i64 id)).drew
        have K4 := hid (K2.out.trans kk)
        have X4 := hid (X2.out.kept kk hne.out)
        clear kk d0 d1 d2 d3 q4 q5 f4 f5 X2 H2
        go_upto_region 7 with fail
        generalize ((w2.setCell ⟨b, 4, none⟩ (.bool true)).setCell ⟨b, 5, none⟩ (.int .i64 id)).drew = W4 at *
        have g1 : ∀ W, Kept (fun _ => False) W4 W → W.cell? ⟨w.heap.size, 1, none⟩ = some (.int .i64 id) := fun W hk => (X4.out.kept hk (fun h => h)).cells.2.1
        have r0 : ∀ W, Kept (fun _ => False) W4 W → W.cell? ⟨b, 0, none⟩ = some (.string c.name) := fun W hk => (H4.out.kept0 hk).c0
        have r1 : ∀ W, Kept (fun _ => False) W4 W → W.cell? ⟨b, 1, none⟩ = some (.string c.secret) := fun W hk => (H4.out.kept0 hk).c1
        refine wp_region_held_drew (S := Kept (fun _ => False) W4) (by kernel_rfl) ((Kept.refl _ W4).drew) (fun hSd => ?_)
        refine wpAnyH_take (i := 0) (v := ?_) rfl (by kernel_rfl) (by kernel_rfl) (by kernel_rfl) (fun _ _ _ h => h) (Or.inl ⟨by kernel_rfl, fun W hSW => by go_simp; try with_reducible rfl⟩) (by assumption) ?_
        try simp only [List.getElem_toArray]
        try simp only [List.getElem_cons_succ]
        try simp only [List.getElem_cons_zero]
        try simp only [Act.put]
        try simp only [List.setIfInBounds_toArray]
        try simp only [List.set_cons_succ]
        try simp only [List.set_cons_zero]
        refine wpAnyH_take (i := 1) (v := ?_) rfl (by kernel_rfl) (by kernel_rfl) (by kernel_rfl) (fun _ _ _ h => h) (Or.inl ⟨by kernel_rfl, fun W hSW => by go_simp; try with_reducible rfl⟩) (by assumption) ?_
        try simp only [List.getElem_toArray]
        try simp only [List.getElem_cons_succ]
        try simp only [List.getElem_cons_zero]
        try simp only [Act.put]
        try simp only [List.setIfInBounds_toArray]
        try simp only [List.set_cons_succ]
        try simp only [List.set_cons_zero]
        refine wpAnyH_take (i := 2) (v := ?_) rfl (by kernel_rfl) (by kernel_rfl) (by kernel_rfl) (fun _ _ _ h => h) (Or.inl ⟨by kernel_rfl, fun W hSW => by go_simp; try with_reducible rfl⟩) (by assumption) ?_
        try simp only [List.getElem_toArray]
        try simp only [List.getElem_cons_succ]
        try simp only [List.getElem_cons_zero]
        try simp only [Act.put]
        try simp only [List.setIfInBounds_toArray]
        try simp only [List.set_cons_succ]
        try simp only [List.set_cons_zero]
        refine wpAnyH_take (i := 3) (v := ?_) rfl (by kernel_rfl) (by kernel_rfl) (by kernel_rfl) (fun _ _ _ h => h) (Or.inl ⟨by kernel_rfl, fun W hSW => by go_simp; try with_reducible rfl⟩) (by assumption) ?_
        try simp only [List.getElem_toArray]
        try simp only [List.getElem_cons_succ]
        try simp only [List.getElem_cons_zero]
        try simp only [Act.put]
        try simp only [List.setIfInBounds_toArray]
        try simp only [List.set_cons_succ]
        try simp only [List.set_cons_zero]
        refine wpAnyH_take (i := 4) (v := ?_) rfl (by kernel_rfl) (by kernel_rfl) (by kernel_rfl) (fun _ _ _ h => h) (Or.inl ⟨by kernel_rfl, fun W hSW => by go_simp; try with_reducible rfl⟩) (by assumption) ?_
        try simp only [List.getElem_toArray]
        try simp only [List.getElem_cons_succ]
        try simp only [List.getElem_cons_zero]
        try simp only [Act.put]
        try simp only [List.setIfInBounds_toArray]
        try simp only [List.set_cons_succ]
        try simp only [List.set_cons_zero]
        refine wpAnyH_take (i := 5) (v := ?_) rfl (by kernel_rfl) (by kernel_rfl) (by kernel_rfl) (fun _ _ _ h => h) (Or.inl ⟨by kernel_rfl, fun W hSW => by go_simp; try with_reducible rfl⟩) (by assumption) ?_
        try simp only [List.getElem_toArray]
        try simp only [List.getElem_cons_succ]
        try simp only [List.getElem_cons_zero]
        try simp only [Act.put]
        try simp only [List.setIfInBounds_toArray]
        try simp only [List.set_cons_succ]
        try simp only [List.set_cons_zero]
        refine wpAnyH_take (i := 6) (v := ?_) rfl (by kernel_rfl) (by kernel_rfl) (by kernel_rfl) (fun _ _ _ h => h) (Or.inl ⟨by kernel_rfl, fun W hSW => by go_simp; try with_reducible rfl⟩) (by assumption) ?_
        try simp only [List.getElem_toArray]
        try simp only [List.getElem_cons_succ]
        try simp only [List.getElem_cons_zero]
        try simp only [Act.put]
        try simp only [List.setIfInBounds_toArray]
        try simp only [List.set_cons_succ]
        try simp only [List.set_cons_zero]
        refine wpAnyH_take (i := 8) (v := ?_) rfl (by kernel_rfl) (by kernel_rfl) (by kernel_rfl) (fun _ _ _ h => h) (Or.inl ⟨by kernel_rfl, fun W hSW => by go_simp; try with_reducible rfl⟩) (by assumption) ?_
        try simp only [List.getElem_toArray]
        try simp only [List.getElem_cons_succ]
        try simp only [List.getElem_cons_zero]
        try simp only [Act.put]
        try simp only [List.setIfInBounds_toArray]
        try simp only [List.set_cons_succ]
        try simp only [List.set_cons_zero]
        refine wpAnyH_take (i := 9) (v := ?_) rfl (by kernel_rfl) (by kernel_rfl) (by kernel_rfl) (fun _ _ _ h => h) (Or.inl ⟨by kernel_rfl, fun W hSW => by go_simp; try with_reducible rfl⟩) (by assumption) ?_
        try simp only [List.getElem_toArray]
        try simp only [List.getElem_cons_succ]
        try simp only [List.getElem_cons_zero]
        try simp only [Act.put]
        try simp only [List.setIfInBounds_toArray]
        try simp only [List.set_cons_succ]
        try simp only [List.set_cons_zero]
        refine wpAnyH_take (i := 10) (v := ?_) rfl (by kernel_rfl) (by kernel_rfl) (by kernel_rfl) (fun _ _ _ h => h) (Or.inl ⟨by kernel_rfl, fun W hSW => by go_simp; try with_reducible rfl⟩) (by assumption) ?_
        try simp only [List.getElem_toArray]
        try simp only [List.getElem_cons_succ]
        try simp only [List.getElem_cons_zero]
        try simp only [Act.put]
        try simp only [List.setIfInBounds_toArray]
        try simp only [List.set_cons_succ]
        try simp only [List.set_cons_zero]
        refine wpAnyH_take (i := 11) (v := ?_) rfl (by kernel_rfl) (by kernel_rfl) (by kernel_rfl) (fun _ _ _ h => h) (Or.inl ⟨by kernel_rfl, fun W hSW => by go_simp; try with_reducible rfl⟩) (by assumption) ?_
        try simp only [List.getElem_toArray]
        try simp only [List.getElem_cons_succ]
        try simp only [List.getElem_cons_zero]
        try simp only [Act.put]
        try simp only [List.setIfInBounds_toArray]
        try simp only [List.set_cons_succ]
        try simp only [List.set_cons_zero]
        refine wpAnyH_ready (rs := [7]) (by kernel_rfl) (by simp) ?_
        refine AllReadyH.cons rfl (fun K hK => ?_) AllReadyH.nil
        go_simp
        refine (HC.out _).mono ?_
        rintro e w5 ⟨rfl, hk5⟩
        have hS5 : Kept (fun _ => False) W4 w5 := hSd.trans hk5
        clear hk5
        refine hK.out _ _ (hS5) (fun _ => ?_)
        clear hK K
        try simp only [List.getElem_toArray]
        try simp only [List.getElem_cons_succ]
        try simp only [List.getElem_cons_zero]
        try simp only [Act.put]
        try simp only [List.setIfInBounds_toArray]
        try simp only [List.set_cons_succ]
        try simp only [List.set_cons_zero]
        refine wpAnyH_ready (rs := [12]) (by kernel_rfl) (by simp) ?_
        refine AllReadyH.cons rfl (fun K hK => ?_) AllReadyH.nil
        go_simp
        refine (HP.out _).mono ?_
        rintro e w6 ⟨rfl, hk6⟩
        have hS6 : Kept (fun _ => False) W4 w6 := hS5.trans hk6
        clear hk6
        refine hK.out _ _ (hS6) (fun _ => ?_)
        clear hK K
        try simp only [List.getElem_toArray]
        try simp only [List.getElem_cons_succ]
        try simp only [List.getElem_cons_zero]
        try simp only [Act.put]
        try simp only [List.setIfInBounds_toArray]
        try simp only [List.set_cons_succ]
        try simp only [List.set_cons_zero]
        refine wpAnyH_take (i := 13) (v := ?_) rfl (by kernel_rfl) (by kernel_rfl) (by kernel_rfl) (fun _ _ _ h => h) (Or.inl ⟨by kernel_rfl, fun W hSW => by go_simp; try with_reducible rfl⟩) (by assumption) ?_
        try simp only [List.getElem_toArray]
        try simp only [List.getElem_cons_succ]
        try simp only [List.getElem_cons_zero]
        try simp only [Act.put]
        try simp only [List.setIfInBounds_toArray]
        try simp only [List.set_cons_succ]
        try simp only [List.set_cons_zero]
        refine wpAnyH_take (i := 14) (v := ?_) rfl (by kernel_rfl) (by kernel_rfl) (by kernel_rfl) (fun _ _ _ h => h) (Or.inl ⟨by kernel_rfl, fun W hSW => by go_simp; try with_reducible rfl⟩) (by assumption) ?_
        try simp only [List.getElem_toArray]
        try simp only [List.getElem_cons_succ]
        try simp only [List.getElem_cons_zero]
        try simp only [Act.put]
        try simp only [List.setIfInBounds_toArray]
        try simp only [List.set_cons_succ]
        try simp only [List.set_cons_zero]
        refine wpAnyH_take (i := 15) (v := ?_) rfl (by kernel_rfl) (by kernel_rfl) (by kernel_rfl) (fun _ _ _ h => h) (Or.inl ⟨by kernel_rfl, fun W hSW => by go_simp; try with_reducible rfl⟩) (by assumption) ?_
        try simp only [List.getElem_toArray]
        try simp only [List.getElem_cons_succ]
        try simp only [List.getElem_cons_zero]
        try simp only [Act.put]
        try simp only [List.setIfInBounds_toArray]
        try simp only [List.set_cons_succ]
        try simp only [List.set_cons_zero]
        refine wpAnyH_take (i := 16) (v := ?_) rfl (by kernel_rfl) (by kernel_rfl) (by kernel_rfl) (fun _ _ _ h => h) (Or.inl ⟨by kernel_rfl, fun W hSW => by go_simp; try with_reducible rfl⟩) (by assumption) ?_
        try simp only [List.getElem_toArray]
        try simp only [List.getElem_cons_succ]
        try simp only [List.getElem_cons_zero]
        try simp only [Act.put]
        try simp only [List.setIfInBounds_toArray]
        try simp only [List.set_cons_succ]
        try simp only [List.set_cons_zero]
        refine wpAnyH_take (i := 17) (v := ?_) rfl (by kernel_rfl) (by kernel_rfl) (by kernel_rfl) (fun _ _ _ h => h) (Or.inl ⟨by kernel_rfl, fun W hSW => by go_simp; try with_reducible rfl⟩) (by assumption) ?_
        try simp only [List.getElem_toArray]
        try simp only [List.getElem_cons_succ]
        try simp only [List.getElem_cons_zero]
        try simp only [Act.put]
        try simp only [List.setIfInBounds_toArray]
        try simp only [List.set_cons_succ]
        try simp only [List.set_cons_zero]
        refine wpAnyH_done (by kernel_rfl) ?_ _
        have H6 := hid (H4.out.kept0 hS6)
        have K6 := hid (K4.out.trans (caNone hS6))
        have d1 := g1 _ hS6
        clear g1 r0 r1 hS5 hS6 hSd
        go_wp2
        go_ret
        refine ⟨_, rfl, H6.out.kept0 ((Kept.refl _ _).alloc _), ?_, K6.out.alloc _⟩
        have hz := K6.out.size
        exact (OwnQ.new w6 ⟨2, id, D⟩).mono hz
    · rw [if_neg e2]
      have e2' : ((getValF s).2.2 != 0) = true := by simpa using e2
      generalize getValF s = R at *
      obtain ⟨x, y, E⟩ := R
      simp only at HG e2'
      clear e1 e2
      go_enter Tryz.func10, Tryz.ntmps10
      go_upto_region 1 with fail
      generalize w.alloc (.cells #[.int .i64 code, .int .i64 id, .slice p n cap, .string s] 57) = W at *
      obtain ⟨d0, d1, d2, d3⟩ := X1.out.cells
      go_wp2_with fail
      refine (HG.out _).mono ?_
      rintro e w2 ⟨rfl, hk2⟩
      have H2 := hid (H1.out.kept0 hk2)
      have K2 := hid (K1.out.trans (caNone hk2))
      clear hk2
      go_wp2
      go_ret
      exact ⟨_, rfl, H2.out, OwnQ.nil _ _, K2.out⟩
  · rw [if_neg e1]
    have e1' : (code == 1) = false := by simpa using e1
    by_cases e34 : code = 3 ∨ code = 4
    · have hq : (code == 3) = true ∨ ((code == 3) = false ∧ (code == 4) = true) := by
        rcases e34 with h | h
        · exact Or.inl (by simp [h])
        · exact Or.inr ⟨by simp [h], by simp [h]⟩
      cases ha : c.answered with
      | true =>
        by_cases ei : id = c.id
        · rw [if_pos ⟨e34, rfl, ei⟩]
          have ei' : (id == c.id) = true := by simp [ei]
          have HR : Hid (∀ q : Bool, (code == 3) = q → CrIn ((w.alloc (.cells #[.int .i64 code, .int .i64 id, .slice p n cap, .string s] 57)).setCell ⟨b, 2, none⟩ (.bool true) |>.setCell ⟨b, 3, none⟩ (.bool q)) b ⟨c.name, c.secret, true, code == 3, true, c.id⟩) := fun q hq => by
            rw [hq]
            have z := (H1.out.set2 true).set3 q
            obtain ⟨z1, z2, z3, z4, z5, z6⟩ := c
            simp only at ha
            subst ha
            exact z
          have K4 := hid (fun q => caOwn (caOwn K1.out 2 (.bool true)) 3 (.bool q))
          clear e1 e34 ei
          go_enter Tryz.func10, Tryz.ntmps10
          go_upto_region 1 with fail
          generalize w.alloc (.cells #[.int .i64 code, .int .i64 id, .slice p n cap, .string s] 57) = W at *
          obtain ⟨d0, d1, d2, d3⟩ := X1.out.cells
          have q4 := H1.out.c4
          have q5 := H1.out.c5
          have q2 := H1.out.c2
          have q3 := H1.out.c3
          have f2 := H1.out.fz 2
          have f3 := H1.out.fz 3
          rw [ha] at q4
          rcases hq with hq | ⟨hq, hq4⟩
          · go_wp2
            go_quiet (fail)
            go_wp2
            go_region
            all_goals
              go_wp2
              go_ret
              exact ⟨_, rfl, by first | exact HR.out true hq | exact HR.out _ rfl, OwnQ.nil _ _, ((K4.out _).drewN _).drew⟩
          · go_wp2
            go_quiet (fail)
            go_wp2
            go_region
            all_goals
              go_wp2
              go_ret
              exact ⟨_, rfl, by first | exact HR.out false hq | exact HR.out _ rfl, OwnQ.nil _ _, ((K4.out _).drewN _).drew⟩
        · rw [if_neg (fun h => ei h.2.2)]
          have ei' : (id == c.id) = false := by simpa using ei
          clear e1 e34 ei
          go_enter Tryz.func10, Tryz.ntmps10
          go_upto_region 1 with fail
          generalize w.alloc (.cells #[.int .i64 code, .int .i64 id, .slice p n cap, .string s] 57) = W at *
          obtain ⟨d0, d1, d2, d3⟩ := X1.out.cells
          have q4 := H1.out.c4
          have q5 := H1.out.c5
          rw [ha] at q4
          rcases hq with hq | ⟨hq, hq4⟩
          · go_wp2
            go_quiet (fail)
            go_wp2
            go_ret
            exact ⟨_, rfl, H1.out, OwnQ.nil _ _, K1.out.drewN _⟩
          · go_wp2
            go_quiet (fail)
            go_wp2
            go_ret
            exact ⟨_, rfl, H1.out, OwnQ.nil _ _, K1.out.drewN _⟩
      | false =>
        rw [if_neg (fun h => by cases h.2.1)]
        clear e1 e34
        go_enter Tryz.func10, Tryz.ntmps10
        go_upto_region 1 with fail
        generalize w.alloc (.cells #[.int .i64 code, .int .i64 id, .slice p n cap, .string s] 57) = W at *
        obtain ⟨d0, d1, d2, d3⟩ := X1.out.cells
        have q4 := H1.out.c4
        have q5 := H1.out.c5
        rw [ha] at q4
        rcases hq with hq | ⟨hq, hq4⟩
        · go_wp2
          go_quiet (fail)
          go_wp2
          go_ret
          exact ⟨_, rfl, H1.out, OwnQ.nil _ _, K1.out.drewN _⟩
        · go_wp2
          go_quiet (fail)
          go_wp2
          go_ret
          exact ⟨_, rfl, H1.out, OwnQ.nil _ _, K1.out.drewN _⟩
    · rw [if_neg (fun h => e34 h.1)]
      have hq3 : (code == 3) = false := by rw [beq_eq_false_iff_ne]; exact fun h => e34 (Or.inl h)
      have hq4 : (code == 4) = false := by rw [beq_eq_false_iff_ne]; exact fun h => e34 (Or.inr h)
      clear e1 e34
      go_enter Tryz.func10, Tryz.ntmps10
      go_upto_region 1 with fail
      generalize w.alloc (.cells #[.int .i64 code, .int .i64 id, .slice p n cap, .string s] 57) = W at *
      obtain ⟨d0, d1, d2, d3⟩ := X1.out.cells
      go_wp2
      go_ret
      exact ⟨_, rfl, H1.out, OwnQ.nil _ _, K1.out⟩

/-- What NewChap answers. -/
def CNewIs (n s : ByteArray) (w : World) (e : Ending) (w' : World) : Prop :=
  ((60 < n.size ∨ 60 < s.size) ∧ e = .returned (.tuple #[.pointer none, .int .i64 2]) ∨
   (n.size ≤ 60 ∧ s.size ≤ 60) ∧ e = .returned (.tuple #[.pointer (some ⟨w.heap.size, 0, none⟩), .int .i64 0]) ∧ CrIn w' w.heap.size (newCr n s)) ∧ Kept (fun _ => False) w w'

set_option maxHeartbeats 1000000 in
set_option maxRecDepth 100000 in
theorem crNew_any (n s : ByteArray) (hn : n.size ≤ 140737488351232) (hs : s.size ≤ 140737488351232) (w : World) : Calls Tryz.prog 8 #[.string n, .string s] w (CNewIs n s w) := by
  by_cases h1 : 60 < n.size
  · have h1z : (60 : Int) < (n.size : Int) := by omega
    go_enter Tryz.func8, Tryz.ntmps8
    go_wp2
    go_ret2
    exact ⟨Or.inl ⟨Or.inl h1, rfl⟩, Kept.refl _ _⟩
  · have h1z : ¬ (60 : Int) < (n.size : Int) := by omega
    by_cases h2 : 60 < s.size
    · have h2z : (60 : Int) < (s.size : Int) := by omega
      go_enter Tryz.func8, Tryz.ntmps8
      go_wp2
      go_ret2
      exact ⟨Or.inl ⟨Or.inr h2, rfl⟩, Kept.refl _ _⟩
    · have h2z : ¬ (60 : Int) < (s.size : Int) := by omega
      have H12 := hid (And.intro (Nat.le_of_not_lt h1) (Nat.le_of_not_lt h2))
      clear h1 h2
      go_enter Tryz.func8, Tryz.ntmps8
      go_wp2
      go_ret2
      exact ⟨Or.inr ⟨H12.out, rfl, heap_alloc_new w _⟩, (Kept.refl _ w).alloc _⟩
end Go.Proofs.YtndpfcanfcbldaaGreatDoor

namespace Go.Proofs.YtndpfcanfcbldaaGreatDoor
open Go.RowKit

theorem chapK_dig : Dig chapK where
  size := chapK_size
  ref i s v W hs hv := (refChap_any i s v (by omega) (by omega) W).mono fun _ _ ⟨he, hb⟩ => ⟨he, kept_of hb⟩
end Go.Proofs.YtndpfcanfcbldaaGreatDoor

namespace Go.Proofs.YtndpfcanfcbldaaGreatDoor
open Go.RowKit

theorem takeCr_few (K : Int → ByteArray → ByteArray → ByteArray) (c : Cr) (code id : Int) (d : ByteArray) : (takeCr K c code id d).1.length ≤ 1 := by
  unfold takeCr
  split <;> split <;> simp
theorem takeCr_name (K : Int → ByteArray → ByteArray → ByteArray) (c : Cr) (code id : Int) (d : ByteArray) : (takeCr K c code id d).2.name = c.name := by
  unfold takeCr
  split <;> split <;> rfl
theorem takeCr_secret (K : Int → ByteArray → ByteArray → ByteArray) (c : Cr) (code id : Int) (d : ByteArray) : (takeCr K c code id d).2.secret = c.secret := by
  unfold takeCr
  split <;> split <;> rfl
theorem startS_few (c : Sv) (v : ByteArray) : (startS c v).1.length ≤ 1 := by
  unfold startS
  split <;> simp
theorem tickS_few (c : Sv) : (tickS c).1.length ≤ 1 := by
  unfold tickS
  split
  · split
    · simp
    · split <;> simp
  · simp
theorem judgeS_few (c : Sv) (g : Bool) : (judgeS c g).1.length ≤ 1 := by
  unfold judgeS sayS
  split <;> simp
theorem againS_few (c : Sv) (code id : Int) : (againS c code id).length ≤ 1 := by
  unfold againS sayS
  split <;> simp
end Go.Proofs.YtndpfcanfcbldaaGreatDoor

namespace Go.Proofs.YtndpfcanfcbldaaGreatDoor
open Go.ChangeShapes Go.WideShapes Go.ChangeAt Go.RowKit Go.Joins

theorem cellsOp14 : Tryz.prog.cellsOf 59 = 7 := by kernel_rfl
theorem cellsBool : Tryz.prog.cellsOf 4 = 1 := by kernel_rfl
theorem cellsOpts' : Tryz.prog.cellsOf 55 = 1 := by kernel_rfl

/-- A step: what is done, a packet (its options lie somewhere, n of them), a value and a judgement. -/
structure Op14 where
  kind : Int
  code : Int
  id : Int
  p : Option Addr
  n : Nat
  cap : Nat
  data : ByteArray
  val : ByteArray
  good : Bool
def op14Cells (x : Op14) : List Value := [.int .i64 x.kind, .int .i64 x.code, .int .i64 x.id, .slice x.p x.n x.cap, .string x.data, .string x.val, .bool x.good]

section
variable {H : Type} {enc : TypeId × Value → H} {w : World} {base : Nat} {spare : Nat → Bool} {held : Bool}

def ROp14 (x : Op14) (d : DataW H) : Prop := x.n ≤ maxLen ∧ ∃ z0 z1 z2 z3, d = .agg [z0, .agg [z1, z2, z3, .lit (.string x.data.data.toList)], .lit (.string x.val.data.toList), .lit (.bool x.good)]

set_option maxRecDepth 100000 in
theorem each_op14 (n : Nat) (cs : List Value) (y : DataW H × List MemPlace) (hlen : cs.length = 7) (ht : DataW.trod enc Tryz.prog w base spare held n 59 cs = some y) : ∃ x : Op14, cs = op14Cells x ∧ ROp14 x y.1 := by
  obtain ⟨xs, k, hk, hxy, _, hxl, hf⟩ := DataW.trod_struct Tryz.underlying59 ht
  match xs, hxl, cs, hlen with
  | [y0, y1, y2, y3], _, [v0, v1, v2, v3, v4, v5, v6], _ =>
    have g0 := hf 0 _ rfl
    have g1 := hf 1 _ rfl
    have g2 := hf 2 _ rfl
    have g3 := hf 3 _ rfl
    simp [cellsInt, cellsPk, cellsStr, cellsBool] at g0 g1 g2 g3
    obtain ⟨i0, e0, _, w0⟩ := DataW.trod_int Tryz.underlying3 g0
    obtain ⟨x5, e5, hx5, _⟩ := DataW.trod_string Tryz.underlying9 g2
    obtain ⟨b6, e6, hx6⟩ := DataW.trod_bool Tryz.underlying4 g3
    obtain ⟨ys, k2, hk2, hy2, _, hyl, hf2⟩ := DataW.trod_struct Tryz.underlying57 g1
    match ys, hyl with
    | [u0, u1, u2, u3], _ =>
      have p0 := hf2 0 _ rfl
      have p1 := hf2 1 _ rfl
      have p2 := hf2 2 _ rfl
      have p3 := hf2 3 _ rfl
      simp [cellsInt, cellsOpts', cellsStr] at p0 p1 p2 p3
      obtain ⟨i1, e1, _, _⟩ := DataW.trod_int Tryz.underlying3 p0
      obtain ⟨i2, e2, _, _⟩ := DataW.trod_int Tryz.underlying3 p1
      obtain ⟨x, e4, hx, _⟩ := DataW.trod_string Tryz.underlying9 p3
      simp at e0 e1 e2 e4 e5 e6
      subst e0 e1 e2 e4 e5 e6
      obtain ⟨lo, ho, hlo, _⟩ := open_opts_in (d := u2.1) (p := u2.2) p2
      obtain ⟨q, cap, rfl⟩ := ho.slice
      refine ⟨⟨i0, i1, i2, q, lo.length, cap, x, x5, b6⟩, rfl, hlo, y0.1, u0.1, u1.1, u2.1, ?_⟩
      rw [hxy]
      simp [hy2, hx, hx5, hx6]

/-- A list of steps, with all that is known of it. -/
def Ops14 (W : World) (v : Value) (l : List Op14) : Prop := RowsAt W 7 op14Cells v l
set_option maxRecDepth 100000 in
theorem open_ops14 {r : Reach} {b0 : Nat} {v : Value} {d : DataW H} {p : List MemPlace} (hv : Value.okWide Tryz.prog w r b0 22 v) (h : DataW.Trod enc Tryz.prog w base spare held 22 v d p) (hw : Wt Tryz.prog 22 d) :
    ∃ l : List Op14, Ops14 w v l ∧ l.length ≤ maxLen ∧ ∀ x ∈ l, x.n ≤ maxLen ∧ x.data.size ≤ 140737488351232 ∧ x.val.size ≤ 140737488351232 := by
  obtain ⟨a, len, cap, rfl⟩ := okWide_slice Tryz.underlying22 hv
  obtain ⟨fuel, hf⟩ := h
  have hf' : DataW.trod enc Tryz.prog w base spare held fuel 22 [.slice a len cap] = some (d, p) := by simpa [Value.cells] using hf
  obtain ⟨l, h1, h2, h3, _⟩ := open_rows op14Cells ROp14 Tryz.underlying22 cellsOp14 ⟨0, 0, 0, none, 0, 0, ⟨#[]⟩, ⟨#[]⟩, false⟩ (fun _ => by simp [op14Cells]) each_op14 hf'
  refine ⟨l, h1, h2, fun x hx => ?_⟩
  obtain ⟨y, ⟨r1, z0, z1, z2, z3, rfl⟩, hwy⟩ := wt_list hw Tryz.underlying22 h3 x hx
  have hp := wt_field (j := 1) (d := .agg [z1, z2, z3, .lit (.string x.data.data.toList)]) hwy Tryz.underlying59 rfl rfl
  exact ⟨r1, wt_string (wt_field (j := 3) (d := .lit (.string x.data.data.toList)) hp Tryz.underlying57 rfl rfl), wt_string (wt_field (j := 2) (d := .lit (.string x.val.data.toList)) hwy Tryz.underlying59 rfl rfl)⟩
end
end Go.Proofs.YtndpfcanfcbldaaGreatDoor

namespace Go.Proofs.YtndpfcanfcbldaaGreatDoor
open Go.RowKit

/-- What short answers. -/
def ShortIs (l : List Op14) (w : World) (e : Ending) (w' : World) : Prop := ∃ B, e = .returned (.bool B) ∧ (B = true → l.length ≤ 200) ∧ w' = w

set_option maxHeartbeats 2000000 in
set_option maxRecDepth 100000 in
theorem short_any (v : Value) (l : List Op14) (w : World) (hv : Ops14 w v l) (hl : l.length ≤ maxLen) (hin : ∀ x ∈ l, x.n ≤ maxLen ∧ x.data.size ≤ 140737488351232 ∧ x.val.size ≤ 140737488351232) :
    Calls Tryz.prog 5 #[v] w (ShortIs l w) := by
  unfold maxLen at hl
  obtain ⟨p, cap, rfl⟩ := RowsAt.slice hv
  have Hat := hid (fun (j : Nat) (x : Op14) (hj : l[j]? = some x) => RowsAt.at hv hj)
  have HIn := hid hin
  clear hv hin
  go_enter Tryz.func5, Tryz.ntmps5
  go_wp2
  go_loopw [3] (fun vi wr => ∃ j : Nat, j ≤ l.length ∧ vi = .int .i64 (j : Int) ∧ wr = w) (fun vi _ => l.length - (intOf vi).toNat)
  case atStart => exact ⟨0, Nat.zero_le _, rfl, rfl⟩
  case round =>
    obtain ⟨j, hj, rfl, rfl⟩ := hrel
    by_cases hlt : j < l.length
    · have hltz : (j : Int) < (l.length : Int) := by omega
      obtain ⟨x, hx⟩ : ∃ x, l[j]? = some x := ⟨l[j], by simp [hlt]⟩
      obtain ⟨hx1, hx2, hx3⟩ := HIn.out x (List.mem_of_getElem? hx)
      obtain ⟨g, o, rfl, hcap, hc⟩ := Hat.out j x hx
      have c3 := hc 3 _ rfl
      have c4 := hc 4 _ rfl
      have c5 := hc 5 _ rfl
      unfold maxLen at hx1
      obtain ⟨xk, xc, xi, xp, xn, xq, xd, xv, xg⟩ := x
      simp only at c3 c4 c5 hx1 hx2 hx3
      clear hc hx
      by_cases h1 : 1000 < xd.size
      · have h1z : (1000 : Int) < (xd.size : Int) := by omega
        go_wp2
        go_ret
        exact ⟨false, rfl, (fun h => by cases h), rfl⟩
      · have h1z : ¬ (1000 : Int) < (xd.size : Int) := by omega
        by_cases h2 : 40 < xn
        · have h2z : (40 : Int) < (xn : Int) := by omega
          go_wp2
          go_ret
          exact ⟨false, rfl, (fun h => by cases h), rfl⟩
        · have h2z : ¬ (40 : Int) < (xn : Int) := by omega
          by_cases h4 : 300 < xv.size
          · have h4z : (300 : Int) < (xv.size : Int) := by omega
            go_wp2
            go_ret
            exact ⟨false, rfl, (fun h => by cases h), rfl⟩
          · have h4z : ¬ (300 : Int) < (xv.size : Int) := by omega
            go_wp2
            exact ⟨⟨j + 1, hlt, by go_num, trivial⟩, by simp [intOf]; omega⟩
    · obtain rfl : j = l.length := by omega
      have hltz : ¬ (l.length : Int) < (l.length : Int) := by omega
      by_cases h3 : l.length ≤ 200
      · have h3z : (l.length : Int) ≤ 200 := by omega
        go_wp2
        go_ret
        exact ⟨true, rfl, fun _ => h3, rfl⟩
      · have h3z : ¬ (l.length : Int) ≤ 200 := by omega
        go_wp2
        go_ret
        exact ⟨false, rfl, (fun h => by cases h), rfl⟩

end Go.Proofs.YtndpfcanfcbldaaGreatDoor
