/- Names, realms and secrets (chapter 15), as plain functions with no Go in them; and what follows of these. -/
import Derived.Test.YtmbdjgfbhblifaaDoorTagPlain
namespace Go.Proofs.YtmbdjgfbhblifaaDoor
open Go.RowKit

/-- The name ahead of the last sign '@' of the first k bytes, and the realm behind it. -/
def splitN (b : ByteArray) : Nat → ByteArray × ByteArray
  | 0 => (b, ⟨#[]⟩)
  | k + 1 => if b.data.toList.getD k 0 = 64 then (b.extract 0 k, b.extract (k + 1) b.size) else splitN b k
def splitF (b : ByteArray) : ByteArray × ByteArray := splitN b b.size

/-- What is known of a name. -/
structure Kn where
  name : ByteArray
  realm : ByteArray
  secret : ByteArray
  wrong : Int
  last : Int
def hitK (p : ByteArray × ByteArray) (k : Kn) : Bool := decide (k.name = p.1 ∧ k.realm = p.2)
def findK (l : List Kn) (p : ByteArray × ByteArray) : Option Nat := l.findIdx? (hitK p)
def shutK (limit calm : Int) (k : Kn) (time : Int) : Bool := decide (limit ≠ 0 ∧ limit ≤ k.wrong ∧ time - k.last < calm)
/-- Set. -/
def setK (l : List Kn) (full secret : ByteArray) : Int × List Kn :=
  if 60 < full.size ∨ 60 < secret.size then (2, l)
  else match findK l (splitF full) with
    | none => if 100 ≤ l.length then (10, l) else if secret.size = 0 then (0, l) else (0, l ++ [⟨(splitF full).1, (splitF full).2, secret, 0, 0⟩])
    | some i => if secret.size = 0 then (0, l.take i ++ l.drop (i + 1)) else (0, l.modify i fun k => { k with secret := secret })
/-- What a try comes to, of the name at i. -/
def judgeK (limit calm : Int) (l : List Kn) (i : Nat) (k : Kn) (good : Bool) (time : Int) : Int × List Kn :=
  if shutK limit calm k time = true then (20, l) else if good = true then (0, l.set i { k with wrong := 0 }) else (30, l.set i { k with wrong := k.wrong + 1, last := time })
/-- A try: 'good' tells whether it is right, by the name's secret. -/
def tryK (limit calm : Int) (l : List Kn) (full : ByteArray) (good : ByteArray → Bool) (time : Int) : Int × List Kn :=
  match findK l (splitF full) with
  | none => (30, l)
  | some i => match l[i]? with
    | none => (30, l)
    | some k => judgeK limit calm l i k (good k.secret) time
def wrongK (l : List Kn) (full : ByteArray) : Int :=
  match findK l (splitF full) with
  | none => 0
  | some i => match l[i]? with
    | none => 0
    | some k => k.wrong

theorem splitN_size (b : ByteArray) (k : Nat) (hk : k ≤ b.size) : (splitN b k).1.size ≤ b.size ∧ (splitN b k).2.size ≤ b.size := by
  induction k with
  | zero => exact ⟨Nat.le_refl _, Nat.zero_le _⟩
  | succ k ih =>
    unfold splitN
    split
    · simp only [ByteArray.size_extract]
      omega
    · exact ih (by omega)
theorem splitF_size (b : ByteArray) : (splitF b).1.size ≤ b.size ∧ (splitF b).2.size ≤ b.size := splitN_size b b.size (Nat.le_refl _)

theorem findK_some {l : List Kn} {p : ByteArray × ByteArray} {i : Nat} (h : findK l p = some i) : ∃ k, l[i]? = some k ∧ k.name = p.1 ∧ k.realm = p.2 := by
  unfold findK at h
  rw [List.findIdx?_eq_some_iff_getElem] at h
  obtain ⟨hi, hp, _⟩ := h
  have := of_decide_eq_true hp
  exact ⟨l[i], by simp [hi], this⟩
end Go.Proofs.YtmbdjgfbhblifaaDoor
