/- Values of control messages and their bytes, hidden ones too, as plain functions with no Go in them; and what follows of these. -/
import Derived.Test.YtkneogfeokckjaaGreatDoorTagPlain
import Derived.Test.YtkneogfeokckjaaGreatDoorMaskPlain
namespace Go.Proofs.YtkneogfeokckjaaGreatDoor
open Go.RowKit

/-- A value of a message. -/
structure Av where
  must : Bool
  hidden : Bool
  vendor : Int
  type : Int
  value : ByteArray
def av0 : Av := ⟨false, false, 0, 0, ⟨#[]⟩⟩
def sameA (a b : Av) : Bool := (a.must == b.must) && ((a.hidden == b.hidden) && ((a.vendor == b.vendor) && ((a.type == b.type) && (a.value.data.toList == b.value.data.toList))))
theorem sameA_iff {a b : Av} : sameA a b = true ↔ a = b := by
  constructor
  · intro h
    simp only [sameA, Bool.and_eq_true, beq_iff_eq] at h
    obtain ⟨h1, h2, h3, h4, h5⟩ := h
    cases a
    cases b
    simp only at h1 h2 h3 h4 h5
    rw [h1, h2, h3, h4, bytes_ext h5]
  · rintro rfl
    simp [sameA]
def sameL : List Av → List Av → Bool
  | [], [] => true
  | a :: l, b :: m => sameA a b && sameL l m
  | _, _ => false
theorem sameL_iff {a b : List Av} : sameL a b = true ↔ a = b := by
  induction a generalizing b with
  | nil => cases b <;> simp [sameL]
  | cons x a ih => cases b <;> simp [sameL, sameA_iff, ih]
theorem sameL_self (a : List Av) : sameL a a = true := sameL_iff.2 rfl
theorem sameL_len {a b : List Av} (h : a.length ≠ b.length) : sameL a b = false := by
  rw [← Bool.not_eq_true, sameL_iff]
  rintro rfl
  exact h rfl
theorem sameL_at {a b : List Av} {j : Nat} {x y : Av} (hx : a[j]? = some x) (hy : b[j]? = some y) (h : sameA x y = false) : sameL a b = false := by
  rw [← Bool.not_eq_true, sameL_iff]
  rintro rfl
  rw [hx] at hy
  obtain rfl := Option.some.inj hy
  rw [sameA_iff.2 rfl] at h
  cases h

/-- A number in two bytes. -/
def two (n : Nat) : ByteArray := ⟨(low n 2).toArray⟩
theorem two_size (n : Nat) : (two n).size = 2 := by
  rw [Lib.size_eq]
  exact low_length n 2
def numAt (b : ByteArray) (k : Nat) : Nat := numOf ((b.data.toList.drop k).take 2)
theorem numAt_lt (b : ByteArray) (k : Nat) : numAt b k < 65536 := by
  have h := numOf_lt ((b.data.toList.drop k).take 2)
  have hl : ((b.data.toList.drop k).take 2).length ≤ 2 := List.length_take_le _ _
  have hp : 256 ^ ((b.data.toList.drop k).take 2).length ≤ 256 ^ 2 := Nat.pow_le_pow_right (by decide) hl
  show numOf _ < 65536
  omega

def isVec (x : Av) : Bool := (x.vendor == 0) && ((x.type == 36) && !x.hidden)
/-- What values are hidden by. -/
structure Cov where
  secret : ByteArray
  vector : ByteArray
  has : Bool
def cov0 (s : ByteArray) : Cov := ⟨s, ⟨#[]⟩, false⟩
def passF (c : Cov) (x : Av) : Cov := if isVec x = true then { c with vector := x.value, has := true } else c
def lacksF (c : Cov) : Int := if c.secret.size = 0 then 30 else if c.has = false then 40 else 0
theorem passF_secret (c : Cov) (x : Av) : (passF c x).secret = c.secret := by unfold passF; split <;> rfl
def maskA (un : Bool) (k : Int) (s v x : ByteArray) : ByteArray := ⟨(maskF un (firstF k s.data.toList v.data.toList) s.data.toList x.data.toList).toArray⟩
theorem maskA_size (un : Bool) (k : Int) (s v x : ByteArray) : (maskA un k s v x).size = x.size := by
  rw [Lib.size_eq, Lib.size_eq]
  exact maskF_length _ _ _ _ (firstF_length _ _ _)
def hideF (c : Cov) (k : Int) (x : ByteArray) : ByteArray × Int :=
  if lacksF c = 0 then (maskA false k c.secret c.vector (two x.size ++ x), 0) else (⟨#[]⟩, lacksF c)
def showF (c : Cov) (k : Int) (x : ByteArray) : ByteArray × Int :=
  if lacksF c = 0 then
    if x.size < 2 then (⟨#[]⟩, 4)
    else if numAt (maskA true k c.secret c.vector x) 0 = x.size - 2 then ((maskA true k c.secret c.vector x).extract 2 x.size, 0)
    else (⟨#[]⟩, 4)
  else (⟨#[]⟩, lacksF c)
theorem hideF_size {c : Cov} {k : Int} {x : ByteArray} : (hideF c k x).1.size ≤ 2 + x.size := by
  unfold hideF
  split
  · rw [maskA_size, ByteArray.size_append, two_size]
    exact Nat.le_refl _
  · exact Nat.zero_le _

def shareN (must hidden : Bool) (n : Nat) : Nat := n + (if must then 32768 else 0) + (if hidden then 16384 else 0)
theorem shareN_lt {must hidden : Bool} {n : Nat} (h : n < 1024) : shareN must hidden n < 65536 := by
  unfold shareN
  cases must <;> cases hidden <;> simp <;> omega
def headF (x : Av) (n : Nat) : ByteArray := two (shareN x.must x.hidden (6 + n)) ++ (two x.vendor.toNat ++ two x.type.toNat)
theorem headF_size (x : Av) (n : Nat) : (headF x n).size = 6 := by
  unfold headF
  rw [ByteArray.size_append, ByteArray.size_append, two_size, two_size, two_size]
def laidA (x : Av) (v : ByteArray) : ByteArray := headF x v.size ++ v
theorem laidA_size (x : Av) (v : ByteArray) : (laidA x v).size = 6 + v.size := by
  unfold laidA
  rw [ByteArray.size_append, headF_size]
def namesB (x : Av) : Bool := wordB x.vendor && wordB x.type
def putOneF (x : Av) (c : Cov) : ByteArray × Int :=
  if namesB x = false then (⟨#[]⟩, 1)
  else if 1000 < x.value.size then (⟨#[]⟩, 2)
  else if x.hidden = true then (if (hideF c x.type x.value).2 = 0 then (laidA x (hideF c x.type x.value).1, 0) else (⟨#[]⟩, (hideF c x.type x.value).2))
  else (laidA x x.value, 0)
theorem putOneF_size (x : Av) (c : Cov) : (putOneF x c).1.size ≤ 1008 := by
  unfold putOneF
  split
  · exact Nat.zero_le _
  split
  · exact Nat.zero_le _
  split
  · split
    · have := hideF_size (c := c) (k := x.type) (x := x.value)
      show (laidA x _).size ≤ _
      rw [laidA_size]
      omega
    · exact Nat.zero_le _
  · show (laidA x _).size ≤ _
    rw [laidA_size]
    omega
/-- The values' bytes behind those that were laid. -/
def putOn : ByteArray → List Av → Cov → ByteArray × Int
  | acc, [], _ => (acc, 0)
  | acc, x :: r, c => if (putOneF x c).2 = 0 then putOn (acc ++ (putOneF x c).1) r (passF c x) else (⟨#[]⟩, (putOneF x c).2)
def putAF (l : List Av) (s : ByteArray) : ByteArray × Int :=
  if 40 < l.length then (⟨#[]⟩, 2)
  else if (putOn ⟨#[]⟩ l (cov0 s)).2 = 0 then (if 1488 < (putOn ⟨#[]⟩ l (cov0 s)).1.size then (⟨#[]⟩, 2) else ((putOn ⟨#[]⟩ l (cov0 s)).1, 0))
  else (⟨#[]⟩, (putOn ⟨#[]⟩ l (cov0 s)).2)

def hidB (w : Nat) : Bool := decide (w / 16384 % 2 = 1)
def mustB (w : Nat) : Bool := decide (w / 32768 % 2 = 1)
def mostF (h : Bool) : Nat := if h then 1002 else 1000
/-- The value at the front, and what is behind it. -/
def cutF (b : ByteArray) : Av × ByteArray × Int :=
  if b.size < 6 then (av0, ⟨#[]⟩, 5)
  else if numAt b 0 / 1024 % 16 ≠ 0 ∨ numAt b 0 % 1024 < 6 then (av0, ⟨#[]⟩, 4)
  else if b.size < numAt b 0 % 1024 then (av0, ⟨#[]⟩, 5)
  else if mostF (hidB (numAt b 0)) < numAt b 0 % 1024 - 6 then (av0, ⟨#[]⟩, 2)
  else (⟨mustB (numAt b 0), hidB (numAt b 0), (numAt b 2 : Int), (numAt b 4 : Int), b.extract 6 (numAt b 0 % 1024)⟩, b.extract (numAt b 0 % 1024) b.size, 0)
theorem cutF_ok {b : ByteArray} (h : (cutF b).2.2 = 0) : 6 ≤ b.size ∧ 6 ≤ numAt b 0 % 1024 ∧ numAt b 0 % 1024 ≤ b.size ∧ cutF b = (⟨mustB (numAt b 0), hidB (numAt b 0), (numAt b 2 : Int), (numAt b 4 : Int), b.extract 6 (numAt b 0 % 1024)⟩, b.extract (numAt b 0 % 1024) b.size, 0) := by
  unfold cutF at h ⊢
  split at h
  · cases h
  split at h
  · cases h
  split at h
  · cases h
  split at h
  · cases h
  rename_i h1 h2 h3 h4
  rw [if_neg h1, if_neg h2, if_neg h3, if_neg h4]
  exact ⟨by omega, by omega, by omega, rfl⟩
theorem cutF_rest {b : ByteArray} (h : (cutF b).2.2 = 0) : (cutF b).2.1.size + 6 ≤ b.size := by
  obtain ⟨h1, h2, h3, e⟩ := cutF_ok h
  rw [e]
  show (b.extract _ _).size + 6 ≤ _
  rw [ByteArray.size_extract]
  omega
/-- As it is told: shown, where it was hidden; or the error. -/
def toldF (c : Cov) (x : Av) : Av × Int := if x.hidden = true then ({ x with value := (showF c x.type x.value).1 }, (showF c x.type x.value).2) else (x, 0)
/-- The values of some bytes, behind those that were read ahead of them; n at a time. -/
def getN : Nat → ByteArray → List Av → Cov → List Av × Int
  | 0, _, _, _ => ([], 0)
  | n + 1, b, acc, c =>
    if b.size = 0 then (acc, 0)
    else if (cutF b).2.2 = 0 then
      if acc.length = 40 then ([], 2)
      else if (toldF c (cutF b).1).2 = 0 then getN n (cutF b).2.1 (acc ++ [(toldF c (cutF b).1).1]) (passF c (toldF c (cutF b).1).1)
      else ([], (toldF c (cutF b).1).2)
    else ([], (cutF b).2.2)
def getOn (b : ByteArray) (acc : List Av) (c : Cov) : List Av × Int := getN (b.size + 1) b acc c
theorem getN_enough (n m : Nat) (b : ByteArray) (acc : List Av) (c : Cov) (hn : b.size < n) (hm : b.size < m) : getN n b acc c = getN m b acc c := by
  induction n generalizing m b acc c with
  | zero => omega
  | succ n ih =>
    cases m with
    | zero => omega
    | succ m =>
      simp only [getN]
      split
      · rfl
      split
      · rename_i h1 h2
        have := cutF_rest h2
        split
        · rfl
        split
        · exact ih m _ _ _ (by omega) (by omega)
        · rfl
      · rfl
theorem getOn_eq (b : ByteArray) (acc : List Av) (c : Cov) : getOn b acc c =
    if b.size = 0 then (acc, 0)
    else if (cutF b).2.2 = 0 then
      if acc.length = 40 then ([], 2)
      else if (toldF c (cutF b).1).2 = 0 then getOn (cutF b).2.1 (acc ++ [(toldF c (cutF b).1).1]) (passF c (toldF c (cutF b).1).1)
      else ([], (toldF c (cutF b).1).2)
    else ([], (cutF b).2.2) := by
  unfold getOn
  rw [getN]
  split
  · rfl
  split
  · rename_i h1 h2
    have := cutF_rest h2
    split
    · rfl
    split
    · exact getN_enough _ _ _ _ _ (by omega) (by omega)
    · rfl
  · rfl
def getAF (b s : ByteArray) : List Av × Int := getOn b [] (cov0 s)

def findA (l : List Av) (k : Int) : Option Av := l.find? (fun x => (x.vendor == 0) && (x.type == k))
def findAB (l : List Av) (k : Int) : ByteArray := match findA l k with | some x => x.value | none => ⟨#[]⟩
def numberA (l : List Av) (k : Int) : Nat × Bool := if (findA l k).isSome = true ∧ 1 ≤ (findAB l k).size ∧ (findAB l k).size ≤ 7 then (numOf (findAB l k).data.toList, true) else (0, false)
end Go.Proofs.YtkneogfeokckjaaGreatDoor
