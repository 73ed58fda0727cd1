/- Plain facts with no Go in them, under no conditions: the bytes of a number, the check sum as a function of a list of bytes, bits of numbers that are not below nought. -/
import Derived.WalkKit
import Derived.Lib.UnsafeStr
import Derived.Lib.BufferWrite
import Derived.Laws.BytesArg
import Derived.Laws.BitsAllLaws
namespace Go.Proofs.Ytoflohomnoppnaa
open Go.RowKit

theorem hide {p : Prop} (h : p) : Hid p := h
theorem unhide {p : Prop} (h : Hid p) : p := h

theorem below_next {a b c : World} (h : Below a.heap.size a b) (k : Below b.heap.size b c) : Below a.heap.size a c := h.trans (k.mono h.size)

/-- The k lowest bytes of a number, the highest of them first. -/
def low (a : Nat) : Nat → List UInt8
  | 0 => []
  | k + 1 => low (a / 256) k ++ [UInt8.ofNat (a % 256)]
theorem low_length (a k : Nat) : (low a k).length = k := by
  induction k generalizing a with
  | zero => rfl
  | succ k ih => simp [low, ih]
theorem low_snoc (a k j : Nat) (h : j < k) : low (a / 256 ^ (k - (j + 1))) (j + 1) = low (a / 256 ^ (k - j)) j ++ [UInt8.ofNat (a / 2 ^ (8 * (k - 1 - j)) % 256)] := by
  have e : a / 256 ^ (k - (j + 1)) / 256 = a / 256 ^ (k - j) := by
    rw [Nat.div_div_eq_div_mul, show 256 ^ (k - (j + 1)) * 256 = 256 ^ (k - j) from by rw [← Nat.pow_succ]; congr 1; omega]
  rw [low, e, Nat.pow_mul, show k - 1 - j = k - (j + 1) from by omega]
theorem cells_snoc (l : List UInt8) (m : Nat) (h : m < 256) : Lib.byteCells (l ++ [UInt8.ofNat m]) = Lib.byteCells l ++ [Value.int .u8 (m : Int)] := by
  rw [Lib.byteCells_append]
  simp [Lib.byteCells, Nat.mod_eq_of_lt h]

/-- The number whose bytes these are, the highest first. -/
def numOf (l : List UInt8) : Nat := l.foldl (fun v b => v * 256 + b.toNat) 0
theorem numOf_snoc (l : List UInt8) (b : UInt8) : numOf (l ++ [b]) = numOf l * 256 + b.toNat := by simp [numOf]
theorem numFrom_lt (l : List UInt8) (v : Nat) : l.foldl (fun v b => v * 256 + b.toNat) v < (v + 1) * 256 ^ l.length := by
  induction l generalizing v with
  | nil => simp
  | cons b l ih =>
    rw [List.foldl_cons, List.length_cons, Nat.pow_succ]
    refine Nat.lt_of_lt_of_le (ih _) ?_
    have hb := b.toNat_lt
    rw [Nat.mul_comm (256 ^ l.length) 256, ← Nat.mul_assoc]
    exact Nat.mul_le_mul_right _ (by omega)
theorem numOf_lt (l : List UInt8) : numOf l < 256 ^ l.length := by
  have h := numFrom_lt l 0
  rw [Nat.zero_add, Nat.one_mul] at h
  exact h
theorem numOf_low (a k : Nat) : numOf (low a k) = a % 256 ^ k := by
  induction k generalizing a with
  | zero => simp [low, numOf, Nat.mod_one]
  | succ k ih =>
    rw [low, numOf_snoc, ih]
    have e : (UInt8.ofNat (a % 256)).toNat = a % 256 := by simp
    rw [e, Nat.pow_succ, Nat.mul_comm (256 ^ k) 256, Nat.mod_mul]
    omega

/-- One step of the check sum: one bit. -/
def crc1 (x : Nat) : Nat := if x % 2 = 1 then (x / 2) ^^^ 33800 else x / 2
def crcN : Nat → Nat → Nat
  | 0, x => x
  | n + 1, x => crc1 (crcN n x)
/-- The check sum's state behind some bytes. -/
def crcOn (x : Nat) (l : List UInt8) : Nat := l.foldl (fun x b => crcN 8 (x ^^^ b.toNat)) x
def fcs (l : List UInt8) : Nat := 65535 - crcOn 65535 l
theorem crc1_lt {x : Nat} (h : x < 65536) : crc1 x < 65536 := by
  unfold crc1
  split
  · exact Nat.xor_lt_two_pow (n := 16) (by omega) (by omega)
  · omega
theorem crcN_lt {x : Nat} (h : x < 65536) (n : Nat) : crcN n x < 65536 := by
  induction n with
  | zero => exact h
  | succ n ih => exact crc1_lt ih
theorem xor_byte_lt {x : Nat} (h : x < 65536) (b : UInt8) : x ^^^ b.toNat < 65536 :=
  Nat.xor_lt_two_pow (n := 16) (by omega) (by have := b.toNat_lt; omega)
theorem crcOn_snoc (x : Nat) (l : List UInt8) (b : UInt8) : crcOn x (l ++ [b]) = crcN 8 (crcOn x l ^^^ b.toNat) := by simp [crcOn]
theorem crcOn_lt {x : Nat} (h : x < 65536) (l : List UInt8) : crcOn x l < 65536 := by
  induction l generalizing x with
  | nil => exact h
  | cons b l ih => exact ih (crcN_lt (xor_byte_lt h b) 8)

/-! Bits of an int that is not below nought. -/
theorem ofInt_i64 (a : Nat) (ha : a < 9223372036854775808) : (BitVec.ofInt 64 (a : Int)).toNat = a := by
  rw [BitVec.ofInt_natCast, BitVec.toNat_ofNat]; exact Nat.mod_eq_of_lt (by omega)
theorem i64_and_nat (a b : Nat) (ha : a < 9223372036854775808) (hb : b < 9223372036854775808) : bits .and .i64 (a : Int) (b : Int) = ((a &&& b : Nat) : Int) := by
  have hx : a &&& b < 2 ^ 63 := Nat.and_lt_two_pow _ (by omega)
  show IntKind.i64.wrap ((BitVec.ofInt 64 (a : Int) &&& BitVec.ofInt 64 (b : Int)).toNat : Int) = _
  rw [BitVec.toNat_and, ofInt_i64 a ha, ofInt_i64 b hb, IntKind.wrap_i64]
  omega
theorem i64_or_nat (a b : Nat) (ha : a < 9223372036854775808) (hb : b < 9223372036854775808) : bits .or .i64 (a : Int) (b : Int) = ((a ||| b : Nat) : Int) := by
  have hx : a ||| b < 2 ^ 63 := Nat.or_lt_two_pow (by omega) (by omega)
  show IntKind.i64.wrap ((BitVec.ofInt 64 (a : Int) ||| BitVec.ofInt 64 (b : Int)).toNat : Int) = _
  rw [BitVec.toNat_or, ofInt_i64 a ha, ofInt_i64 b hb, IntKind.wrap_i64]
  omega
theorem i64_xor_nat (a b : Nat) (ha : a < 9223372036854775808) (hb : b < 9223372036854775808) : bits .xor .i64 (a : Int) (b : Int) = ((a ^^^ b : Nat) : Int) := by
  have hx : a ^^^ b < 2 ^ 63 := Nat.xor_lt_two_pow (by omega) (by omega)
  show IntKind.i64.wrap ((BitVec.ofInt 64 (a : Int) ^^^ BitVec.ofInt 64 (b : Int)).toNat : Int) = _
  rw [BitVec.toNat_xor, ofInt_i64 a ha, ofInt_i64 b hb, IntKind.wrap_i64]
  omega
theorem i64_and_one (a : Nat) (ha : a < 9223372036854775808) : bits .and .i64 (a : Int) 1 = ((a % 2 : Nat) : Int) := by
  have h := i64_and_nat a 1 ha (by omega)
  rw [Nat.and_one_is_mod] at h
  exact h
/-- A number moved up by eight places, and a byte below it. -/
theorem i64_or_byte (a b : Nat) (ha : a < 36028797018963968) (hb : b < 256) : bits .or .i64 ((a : Int) * 256) (b : Int) = ((a * 256 + b : Nat) : Int) := by
  have h := i64_or_nat (a * 256) b (by omega) (by omega)
  rw [nat_join 8 (a * 256) b (by omega) (by omega)] at h
  rw [← h]
  rfl

/-! What the document says of each call, as functions of plain data. -/
def putF (v n : Int) : List UInt8 × Int := if 1 ≤ n ∧ n ≤ 4 ∧ 0 ≤ v ∧ v < ((256 ^ n.toNat : Nat) : Int) then (low v.toNat n.toNat, 0) else ([], 1)
def getF (l : List UInt8) (a n : Int) : Nat × Int :=
  if 1 ≤ n ∧ n ≤ 4 ∧ 0 ≤ a then (if a + n ≤ l.length then (numOf ((l.drop a.toNat).take n.toNat), 0) else (0, 5)) else (0, 1)
def digitF (n : Nat) : UInt8 := if n < 10 then UInt8.ofNat (48 + n) else UInt8.ofNat (87 + n)
def hexF (l : List UInt8) : List UInt8 := l.flatMap fun b => [digitF (b.toNat / 16), digitF (b.toNat % 16)]
def protoB (v : Nat) : Bool := decide (v % 2 = 1) && decide (v / 256 % 2 = 0)
def wordB (v : Int) : Bool := decide (0 ≤ v) && decide (v ≤ 65535)
def getPppF (l : List UInt8) : Nat × List UInt8 × Int :=
  if l.length < 2 then (0, [], 5) else if protoB (numOf (l.take 2)) = false then (0, [], 4) else if 1494 < l.length then (0, [], 2) else (numOf (l.take 2), l.drop 2, 0)
end Go.Proofs.Ytoflohomnoppnaa
