/- Frames of discovery and of sessions as plain data, with no Go in them. -/
import Derived.Test.YtffnppfoofifgaaGreatTagPlain
namespace Go.Proofs.YtffnppfoofifgaaGreat

/-- A frame. -/
structure Fr where
  dst : List UInt8
  src : List UInt8
  type : Int
  data : ByteArray

def sameB (a b : ByteArray) : Bool := a.data.toList == b.data.toList
theorem sameB_iff {a b : ByteArray} : sameB a b = true ↔ a = b := by
  unfold sameB
  rw [beq_iff_eq]
  exact ⟨bytes_ext, fun h => by rw [h]⟩
theorem sameB_self (a : ByteArray) : sameB a a = true := sameB_iff.2 rfl

def frNone : Fr := ⟨[0, 0, 0, 0, 0, 0], [0, 0, 0, 0, 0, 0], 0, ⟨#[]⟩⟩
def etFrame (to src : List UInt8) (kind code session : Int) (data : List UInt8) : Fr × Int :=
  if (putDiscF code session data).2 = 0 then (⟨to, src, kind, ⟨(putDiscF code session data).1.toArray⟩⟩, 0) else (frNone, (putDiscF code session data).2)
def etDisc (to src : List UInt8) (code session : Int) (tags : List Tg) : List Fr :=
  if (putTagsF tags).2 = 0 then (if (etFrame to src 34915 code session (putTagsF tags).1).2 = 0 then [(etFrame to src 34915 code session (putTagsF tags).1).1] else []) else []
def everyF : List UInt8 := [255, 255, 255, 255, 255, 255]
theorem etDisc_len (to src : List UInt8) (code session : Int) (tags : List Tg) : (etDisc to src code session tags).length ≤ 1 := by
  unfold etDisc
  split
  · split <;> simp
  · simp
end Go.Proofs.YtffnppfoofifgaaGreat
