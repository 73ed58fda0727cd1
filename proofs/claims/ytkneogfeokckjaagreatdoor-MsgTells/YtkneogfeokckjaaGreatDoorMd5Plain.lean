/- The digest as a function of plain data, with no Go in it, under no conditions but those that stand in each theorem: turns of 32 bits, the 64 steps, the blocks, the bytes of the answer. -/
import Derived.Test.YtkneogfeokckjaaGreatDoorPlain
namespace Go.Proofs.YtkneogfeokckjaaGreatDoor
open Go.RowKit

/-- A number of 32 bits turned to the left by n places. -/
def rotF (x n : Nat) : Nat := x * 2 ^ n % 4294967296 ||| x / 2 ^ (32 - n)
def mixF (i x y z : Nat) : Nat :=
  if i / 16 = 0 then (x &&& y) ||| ((4294967295 - x) &&& z)
  else if i / 16 = 1 then (x &&& z) ||| (y &&& (4294967295 - z))
  else if i / 16 = 2 then x ^^^ y ^^^ z
  else y ^^^ (x ||| (4294967295 - z))
def pickF (i : Nat) : Nat := if i / 16 = 0 then i else if i / 16 = 1 then (5 * i + 1) % 16 else if i / 16 = 2 then (3 * i + 5) % 16 else 7 * i % 16
def sinesL : List Nat := [
  0xd76aa478, 0xe8c7b756, 0x242070db, 0xc1bdceee, 0xf57c0faf, 0x4787c62a, 0xa8304613, 0xfd469501,
  0x698098d8, 0x8b44f7af, 0xffff5bb1, 0x895cd7be, 0x6b901122, 0xfd987193, 0xa679438e, 0x49b40821,
  0xf61e2562, 0xc040b340, 0x265e5a51, 0xe9b6c7aa, 0xd62f105d, 0x02441453, 0xd8a1e681, 0xe7d3fbc8,
  0x21e1cde6, 0xc33707d6, 0xf4d50d87, 0x455a14ed, 0xa9e3e905, 0xfcefa3f8, 0x676f02d9, 0x8d2a4c8a,
  0xfffa3942, 0x8771f681, 0x6d9d6122, 0xfde5380c, 0xa4beea44, 0x4bdecfa9, 0xf6bb4b60, 0xbebfbc70,
  0x289b7ec6, 0xeaa127fa, 0xd4ef3085, 0x04881d05, 0xd9d4d039, 0xe6db99e5, 0x1fa27cf8, 0xc4ac5665,
  0xf4292244, 0x432aff97, 0xab9423a7, 0xfc93a039, 0x655b59c3, 0x8f0ccc92, 0xffeff47d, 0x85845dd1,
  0x6fa87e4f, 0xfe2ce6e0, 0xa3014314, 0x4e0811a1, 0xf7537e82, 0xbd3af235, 0x2ad7d2bb, 0xeb86d391]
def turnsL : List Nat := [7, 12, 17, 22, 5, 9, 14, 20, 4, 11, 16, 23, 6, 10, 15, 21]
def sineF (i : Nat) : Nat := sinesL.getD i 0
def turnF (i : Nat) : Nat := turnsL.getD (i / 16 * 4 + i % 4) 0
theorem sineF_lt (i : Nat) : sineF i < 4294967296 := by
  have h : ∀ x ∈ sinesL, x < 4294967296 := by decide +kernel
  unfold sineF
  rw [List.getD_eq_getElem?_getD]
  cases hx : sinesL[i]? with
  | none => decide
  | some x => exact h x (List.mem_of_getElem? hx)
theorem turnF_lt (i : Nat) : turnF i < 32 := by
  have h : ∀ x ∈ turnsL, x < 32 := by decide +kernel
  unfold turnF
  rw [List.getD_eq_getElem?_getD]
  cases hx : turnsL[i / 16 * 4 + i % 4]? with
  | none => decide
  | some x => exact h x (List.mem_of_getElem? hx)

/-- Four numbers. -/
structure Four where
  a : Nat
  b : Nat
  c : Nat
  d : Nat
def Four.ok (s : Four) : Prop := s.a < 4294967296 ∧ s.b < 4294967296 ∧ s.c < 4294967296 ∧ s.d < 4294967296
def sumF (word : Nat → Nat) (i : Nat) (s : Four) : Nat := (s.a + mixF i s.b s.c s.d + word (pickF i) + sineF i) % 4294967296
def stepF (word : Nat → Nat) (i : Nat) (s : Four) : Four := ⟨s.d, (s.b + rotF (sumF word i s) (turnF i)) % 4294967296, s.b, s.c⟩
def stepsF (word : Nat → Nat) : Nat → Four → Four
  | 0, s => s
  | n + 1, s => stepF word n (stepsF word n s)
def joinF (s t : Four) : Four := ⟨(s.a + t.a) % 4294967296, (s.b + t.b) % 4294967296, (s.c + t.c) % 4294967296, (s.d + t.d) % 4294967296⟩
def stirF (s : Four) (word : Nat → Nat) : Four := joinF s (stepsF word 64 s)

theorem Four.ok_step {word : Nat → Nat} {i : Nat} {s : Four} (h : s.ok) : (stepF word i s).ok := ⟨h.2.2.2, Nat.mod_lt _ (by decide), h.2.1, h.2.2.1⟩
theorem Four.ok_steps {word : Nat → Nat} {s : Four} (h : s.ok) (n : Nat) : (stepsF word n s).ok := by
  induction n with
  | zero => exact h
  | succ n ih => exact Four.ok_step ih
theorem Four.ok_join (s t : Four) : (joinF s t).ok := ⟨Nat.mod_lt _ (by decide), Nat.mod_lt _ (by decide), Nat.mod_lt _ (by decide), Nat.mod_lt _ (by decide)⟩

/-- Byte t of some bytes, of which k are there. -/
def byteTo (l : List UInt8) (k t : Nat) : Nat := if t < k then (l.getD t 0).toNat else 0
/-- Number j of four bytes each, the lowest first. -/
def wordTo (l : List UInt8) (k j : Nat) : Nat := byteTo l k (4 * j) + 256 * byteTo l k (4 * j + 1) + 65536 * byteTo l k (4 * j + 2) + 16777216 * byteTo l k (4 * j + 3)
theorem byteTo_lt (l : List UInt8) (k t : Nat) : byteTo l k t < 256 := by
  unfold byteTo
  split
  · exact UInt8.toNat_lt _
  · decide
theorem wordTo_lt (l : List UInt8) (k j : Nat) : wordTo l k j < 4294967296 := by
  have h0 := byteTo_lt l k (4 * j)
  have h1 := byteTo_lt l k (4 * j + 1)
  have h2 := byteTo_lt l k (4 * j + 2)
  have h3 := byteTo_lt l k (4 * j + 3)
  unfold wordTo
  omega
theorem byteTo_other (l : List UInt8) (k t : Nat) (h : t ≠ k) : byteTo l (k + 1) t = byteTo l k t := by
  unfold byteTo
  by_cases h1 : t < k
  · rw [if_pos h1, if_pos (by omega)]
  · rw [if_neg h1, if_neg (by omega)]
theorem byteTo_none (l : List UInt8) (k t : Nat) (h : k ≤ t) : byteTo l k t = 0 := if_neg (by omega)
theorem wordTo_other (l : List UInt8) (k j : Nat) (h : j ≠ k / 4) : wordTo l (k + 1) j = wordTo l k j := by
  unfold wordTo
  rw [byteTo_other _ _ _ (by omega), byteTo_other _ _ _ (by omega), byteTo_other _ _ _ (by omega), byteTo_other _ _ _ (by omega)]
theorem or_up (i a b : Nat) (h : a < 2 ^ i) : a ||| b * 2 ^ i = a + b * 2 ^ i := by
  rw [Nat.or_comm, Nat.mul_comm, ← Nat.two_pow_add_eq_or_of_lt h, Nat.add_comm]
theorem wordTo_next (l : List UInt8) (k : Nat) : wordTo l k (k / 4) ||| (l.getD k 0).toNat * 2 ^ (8 * (k % 4)) = wordTo l (k + 1) (k / 4) := by
  have hb : byteTo l (k + 1) k = (l.getD k 0).toNat := if_pos (by omega)
  have h0 := byteTo_lt l k (4 * (k / 4))
  have h1 := byteTo_lt l k (4 * (k / 4) + 1)
  have h2 := byteTo_lt l k (4 * (k / 4) + 2)
  have h4 : k % 4 < 4 := Nat.mod_lt _ (by decide)
  have hd := Nat.div_add_mod k 4
  rcases (show k % 4 = 0 ∨ k % 4 = 1 ∨ k % 4 = 2 ∨ k % 4 = 3 by omega) with h | h | h | h
  · have ek : 4 * (k / 4) = k := by omega
    have e0 : wordTo l k (k / 4) = 0 := by
      unfold wordTo
      rw [byteTo_none _ _ _ (by omega), byteTo_none _ _ _ (by omega), byteTo_none _ _ _ (by omega), byteTo_none _ _ _ (by omega)]
    rw [e0, h, Nat.zero_or]
    unfold wordTo
    rw [ek, hb, byteTo_none _ _ _ (by omega), byteTo_none _ _ _ (by omega), byteTo_none _ _ _ (by omega)]
    omega
  · have ek : 4 * (k / 4) + 1 = k := by omega
    have e0 : wordTo l k (k / 4) = byteTo l k (4 * (k / 4)) := by
      unfold wordTo
      rw [byteTo_none _ _ (4 * (k / 4) + 1) (by omega), byteTo_none _ _ (4 * (k / 4) + 2) (by omega), byteTo_none _ _ (4 * (k / 4) + 3) (by omega)]
      omega
    rw [e0, h, or_up _ _ _ (by omega)]
    unfold wordTo
    rw [byteTo_other _ _ (4 * (k / 4)) (by omega), ek, hb, byteTo_none _ _ (4 * (k / 4) + 2) (by omega), byteTo_none _ _ (4 * (k / 4) + 3) (by omega)]
    omega
  · have ek : 4 * (k / 4) + 2 = k := by omega
    have e0 : wordTo l k (k / 4) = byteTo l k (4 * (k / 4)) + 256 * byteTo l k (4 * (k / 4) + 1) := by
      unfold wordTo
      rw [byteTo_none _ _ (4 * (k / 4) + 2) (by omega), byteTo_none _ _ (4 * (k / 4) + 3) (by omega)]
      omega
    rw [e0, h, or_up _ _ _ (by omega)]
    unfold wordTo
    rw [byteTo_other _ _ (4 * (k / 4)) (by omega), byteTo_other _ _ (4 * (k / 4) + 1) (by omega), ek, hb, byteTo_none _ _ (4 * (k / 4) + 3) (by omega)]
    omega
  · have ek : 4 * (k / 4) + 3 = k := by omega
    have e0 : wordTo l k (k / 4) = byteTo l k (4 * (k / 4)) + 256 * byteTo l k (4 * (k / 4) + 1) + 65536 * byteTo l k (4 * (k / 4) + 2) := by
      unfold wordTo
      rw [byteTo_none _ _ (4 * (k / 4) + 3) (by omega)]
      omega
    rw [e0, h, or_up _ _ _ (by omega)]
    unfold wordTo
    rw [byteTo_other _ _ (4 * (k / 4)) (by omega), byteTo_other _ _ (4 * (k / 4) + 1) (by omega), byteTo_other _ _ (4 * (k / 4) + 2) (by omega), ek, hb]
    omega

/-- The state behind n blocks of some bytes. -/
def blocksF (l : List UInt8) : Nat → Four → Four
  | 0, s => s
  | n + 1, s => stirF (blocksF l n s) (wordTo ((l.drop (64 * n)).take 64) 64)
theorem blocksF_ok (l : List UInt8) {s : Four} (h : s.ok) (n : Nat) : (blocksF l n s).ok := by
  induction n with
  | zero => exact h
  | succ n ih => exact Four.ok_join _ _
/-- Byte i of four numbers. -/
def Four.at (s : Four) (j : Nat) : Nat := if j = 0 then s.a else if j = 1 then s.b else if j = 2 then s.c else s.d
def spreadF (s : Four) : List UInt8 := (List.range 16).map fun i => UInt8.ofNat (s.at (i / 4) / 2 ^ (8 * (i % 4)) % 256)
/-- The lowest byte first. -/
def lowest (a : Nat) : Nat → List UInt8
  | 0 => []
  | k + 1 => lowest a k ++ [UInt8.ofNat (a / 2 ^ (8 * k) % 256)]
def padF (n : Nat) : List UInt8 := 128 :: (List.replicate (63 - (n + 8) % 64) 0 ++ lowest (n * 8) 8)
def firstFour : Four := ⟨0x67452301, 0xefcdab89, 0x98badcfe, 0x10325476⟩
def md5F (l : List UInt8) : List UInt8 := spreadF (blocksF (l ++ padF l.length) ((l ++ padF l.length).length / 64) firstFour)
theorem md5F_length (l : List UInt8) : (md5F l).length = 16 := by simp [md5F, spreadF]
theorem lowest_length (a k : Nat) : (lowest a k).length = k := by
  induction k with
  | zero => rfl
  | succ k ih => simp [lowest, ih]
theorem padF_length (n : Nat) : (padF n).length = 72 - (n + 8) % 64 := by
  simp [padF, lowest_length]
  omega
theorem md5_none : md5F [] = [0xd4, 0x1d, 0x8c, 0xd9, 0x8f, 0x00, 0xb2, 0x04, 0xe9, 0x80, 0x09, 0x98, 0xec, 0xf8, 0x42, 0x7e] := by decide +kernel
/-- Blocks go on over what stands behind. -/
theorem blocksF_append (l m : List UInt8) (n : Nat) (h : 64 * n ≤ l.length) (s : Four) : blocksF (l ++ m) n s = blocksF l n s := by
  induction n with
  | zero => rfl
  | succ n ih =>
    rw [blocksF, blocksF, ih (by omega), List.drop_append_of_le_length (by omega), List.take_append_of_le_length (by rw [List.length_drop]; omega)]
theorem blocksF_add (l m : List UInt8) (k : Nat) (h : l.length = 64 * k) (n : Nat) (s : Four) : blocksF (l ++ m) (k + n) s = blocksF m n (blocksF l k s) := by
  induction n with
  | zero => exact blocksF_append l m k (by omega) s
  | succ n ih =>
    rw [← Nat.add_assoc, blocksF, blocksF, ih]
    have e : (l ++ m).drop (64 * (k + n)) = m.drop (64 * n) := by
      rw [show 64 * (k + n) = l.length + 64 * n by omega]
      rw [List.drop_append, List.drop_of_length_le (by omega), List.nil_append, show l.length + 64 * n - l.length = 64 * n by omega]
    rw [e]
/-- Whole blocks first, then the rest with what fills it. -/
theorem md5F_parts (l : List UInt8) : md5F l = spreadF (blocksF (l.drop (64 * (l.length / 64)) ++ padF l.length) ((l.drop (64 * (l.length / 64)) ++ padF l.length).length / 64) (blocksF (l.take (64 * (l.length / 64))) (l.length / 64) firstFour)) := by
  have h1 : (l.take (64 * (l.length / 64))).length = 64 * (l.length / 64) := by rw [List.length_take]; omega
  rw [← blocksF_add _ _ _ h1, ← List.append_assoc, List.take_append_drop, md5F]
  congr 2
  simp only [List.length_append, List.length_drop]
  omega
end Go.Proofs.YtkneogfeokckjaaGreatDoor
