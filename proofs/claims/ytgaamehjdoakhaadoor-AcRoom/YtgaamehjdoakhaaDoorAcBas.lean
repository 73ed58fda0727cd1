/- Contracts of calls, several texts in one: no condition but what each theorem says. -/
import Derived.WalkKit
import Derived.Lib.UnsafeStr
import Derived.Lib.BufferWrite
import Derived.Laws.BytesArg
import Derived.Laws.BitsAllLaws
import Derived.Maps.RangeWalk
import Derived.Lib.SmallJoins
import Derived.Test.YtgaamehjdoakhaaDoorProg
import Derived.WalkSpells
import Derived.WalkLawsBesides
import Derived.Shelf.Pu.Clone
import Derived.Lib.Hide
import Derived.OwnWalk
import Derived.Lib.AppendStr
import Derived.Laws.IdiomCopy
import Derived.Deep.QuietTactic
import Derived.BigQuiet
import Derived.Deep.RegionWith
import Derived.Deep.RegionHeldLaw
import Derived.Deep.AppendLies
import Derived.Maps.AppendAt
namespace Go.Proofs.YtgaamehjdoakhaaDoor
open Go.RowKit

theorem hide {p : Prop} (h : p) : Hid p := h
theorem unhide {p : Prop} (h : Hid p) : p := h

theorem below_next {a b c : World} (h : Below a.heap.size a b) (k : Below b.heap.size b c) : Below a.heap.size a c := h.trans (k.mono h.size)

/-- The k lowest bytes of a number, the highest of them first. -/
def low (a : Nat) : Nat → List UInt8
  | 0 => []
  | k + 1 => low (a / 256) k ++ [UInt8.ofNat (a % 256)]
theorem low_length (a k : Nat) : (low a k).length = k := by
  induction k generalizing a with
  | zero => rfl
  | succ k ih => simp [low, ih]
theorem low_snoc (a k j : Nat) (h : j < k) : low (a / 256 ^ (k - (j + 1))) (j + 1) = low (a / 256 ^ (k - j)) j ++ [UInt8.ofNat (a / 2 ^ (8 * (k - 1 - j)) % 256)] := by
  have e : a / 256 ^ (k - (j + 1)) / 256 = a / 256 ^ (k - j) := by
    rw [Nat.div_div_eq_div_mul, show 256 ^ (k - (j + 1)) * 256 = 256 ^ (k - j) from by rw [← Nat.pow_succ]; congr 1; omega]
  rw [low, e, Nat.pow_mul, show k - 1 - j = k - (j + 1) from by omega]
theorem cells_snoc (l : List UInt8) (m : Nat) (h : m < 256) : Lib.byteCells (l ++ [UInt8.ofNat m]) = Lib.byteCells l ++ [Value.int .u8 (m : Int)] := by
  rw [Lib.byteCells_append]
  simp [Lib.byteCells, Nat.mod_eq_of_lt h]

/-- The number whose bytes these are, the highest first. -/
def numOf (l : List UInt8) : Nat := l.foldl (fun v b => v * 256 + b.toNat) 0
theorem numOf_snoc (l : List UInt8) (b : UInt8) : numOf (l ++ [b]) = numOf l * 256 + b.toNat := by simp [numOf]
theorem numFrom_lt (l : List UInt8) (v : Nat) : l.foldl (fun v b => v * 256 + b.toNat) v < (v + 1) * 256 ^ l.length := by
  induction l generalizing v with
  | nil => simp
  | cons b l ih =>
    rw [List.foldl_cons, List.length_cons, Nat.pow_succ]
    refine Nat.lt_of_lt_of_le (ih _) ?_
    have hb := b.toNat_lt
    rw [Nat.mul_comm (256 ^ l.length) 256, ← Nat.mul_assoc]
    exact Nat.mul_le_mul_right _ (by omega)
theorem numOf_lt (l : List UInt8) : numOf l < 256 ^ l.length := by
  have h := numFrom_lt l 0
  rw [Nat.zero_add, Nat.one_mul] at h
  exact h
theorem numOf_low (a k : Nat) : numOf (low a k) = a % 256 ^ k := by
  induction k generalizing a with
  | zero => simp [low, numOf, Nat.mod_one]
  | succ k ih =>
    rw [low, numOf_snoc, ih]
    have e : (UInt8.ofNat (a % 256)).toNat = a % 256 := by simp
    rw [e, Nat.pow_succ, Nat.mul_comm (256 ^ k) 256, Nat.mod_mul]
    omega

/-- One step of the check sum: one bit. -/
def crc1 (x : Nat) : Nat := if x % 2 = 1 then (x / 2) ^^^ 33800 else x / 2
def crcN : Nat → Nat → Nat
  | 0, x => x
  | n + 1, x => crc1 (crcN n x)
/-- The check sum's state behind some bytes. -/
def crcOn (x : Nat) (l : List UInt8) : Nat := l.foldl (fun x b => crcN 8 (x ^^^ b.toNat)) x
def fcs (l : List UInt8) : Nat := 65535 - crcOn 65535 l
theorem crc1_lt {x : Nat} (h : x < 65536) : crc1 x < 65536 := by
  unfold crc1
  split
  · exact Nat.xor_lt_two_pow (n := 16) (by omega) (by omega)
  · omega
theorem crcN_lt {x : Nat} (h : x < 65536) (n : Nat) : crcN n x < 65536 := by
  induction n with
  | zero => exact h
  | succ n ih => exact crc1_lt ih
theorem xor_byte_lt {x : Nat} (h : x < 65536) (b : UInt8) : x ^^^ b.toNat < 65536 :=
  Nat.xor_lt_two_pow (n := 16) (by omega) (by have := b.toNat_lt; omega)
theorem crcOn_snoc (x : Nat) (l : List UInt8) (b : UInt8) : crcOn x (l ++ [b]) = crcN 8 (crcOn x l ^^^ b.toNat) := by simp [crcOn]
theorem crcOn_lt {x : Nat} (h : x < 65536) (l : List UInt8) : crcOn x l < 65536 := by
  induction l generalizing x with
  | nil => exact h
  | cons b l ih => exact ih (crcN_lt (xor_byte_lt h b) 8)

/-! Bits of an int that is not below nought. -/
theorem ofInt_i64 (a : Nat) (ha : a < 9223372036854775808) : (BitVec.ofInt 64 (a : Int)).toNat = a := by
  rw [BitVec.ofInt_natCast, BitVec.toNat_ofNat]; exact Nat.mod_eq_of_lt (by omega)
theorem i64_and_nat (a b : Nat) (ha : a < 9223372036854775808) (hb : b < 9223372036854775808) : bits .and .i64 (a : Int) (b : Int) = ((a &&& b : Nat) : Int) := by
  have hx : a &&& b < 2 ^ 63 := Nat.and_lt_two_pow _ (by omega)
  show IntKind.i64.wrap ((BitVec.ofInt 64 (a : Int) &&& BitVec.ofInt 64 (b : Int)).toNat : Int) = _
  rw [BitVec.toNat_and, ofInt_i64 a ha, ofInt_i64 b hb, IntKind.wrap_i64]
  omega
theorem i64_or_nat (a b : Nat) (ha : a < 9223372036854775808) (hb : b < 9223372036854775808) : bits .or .i64 (a : Int) (b : Int) = ((a ||| b : Nat) : Int) := by
  have hx : a ||| b < 2 ^ 63 := Nat.or_lt_two_pow (by omega) (by omega)
  show IntKind.i64.wrap ((BitVec.ofInt 64 (a : Int) ||| BitVec.ofInt 64 (b : Int)).toNat : Int) = _
  rw [BitVec.toNat_or, ofInt_i64 a ha, ofInt_i64 b hb, IntKind.wrap_i64]
  omega
theorem i64_xor_nat (a b : Nat) (ha : a < 9223372036854775808) (hb : b < 9223372036854775808) : bits .xor .i64 (a : Int) (b : Int) = ((a ^^^ b : Nat) : Int) := by
  have hx : a ^^^ b < 2 ^ 63 := Nat.xor_lt_two_pow (by omega) (by omega)
  show IntKind.i64.wrap ((BitVec.ofInt 64 (a : Int) ^^^ BitVec.ofInt 64 (b : Int)).toNat : Int) = _
  rw [BitVec.toNat_xor, ofInt_i64 a ha, ofInt_i64 b hb, IntKind.wrap_i64]
  omega
theorem i64_and_one (a : Nat) (ha : a < 9223372036854775808) : bits .and .i64 (a : Int) 1 = ((a % 2 : Nat) : Int) := by
  have h := i64_and_nat a 1 ha (by omega)
  rw [Nat.and_one_is_mod] at h
  exact h
/-- A number moved up by eight places, and a byte below it. -/
theorem i64_or_byte (a b : Nat) (ha : a < 36028797018963968) (hb : b < 256) : bits .or .i64 ((a : Int) * 256) (b : Int) = ((a * 256 + b : Nat) : Int) := by
  have h := i64_or_nat (a * 256) b (by omega) (by omega)
  rw [nat_join 8 (a * 256) b (by omega) (by omega)] at h
  rw [← h]
  rfl

/-! What the document says of each call, as functions of plain data. -/
def putF (v n : Int) : List UInt8 × Int := if 1 ≤ n ∧ n ≤ 4 ∧ 0 ≤ v ∧ v < ((256 ^ n.toNat : Nat) : Int) then (low v.toNat n.toNat, 0) else ([], 1)
def getF (l : List UInt8) (a n : Int) : Nat × Int :=
  if 1 ≤ n ∧ n ≤ 4 ∧ 0 ≤ a then (if a + n ≤ l.length then (numOf ((l.drop a.toNat).take n.toNat), 0) else (0, 5)) else (0, 1)
def digitF (n : Nat) : UInt8 := if n < 10 then UInt8.ofNat (48 + n) else UInt8.ofNat (87 + n)
def hexF (l : List UInt8) : List UInt8 := l.flatMap fun b => [digitF (b.toNat / 16), digitF (b.toNat % 16)]
def protoB (v : Nat) : Bool := decide (v % 2 = 1) && decide (v / 256 % 2 = 0)
def wordB (v : Int) : Bool := decide (0 ≤ v) && decide (v ≤ 65535)
def getPppF (l : List UInt8) : Nat × List UInt8 × Int :=
  if l.length < 2 then (0, [], 5) else if protoB (numOf (l.take 2)) = false then (0, [], 4) else if 1494 < l.length then (0, [], 2) else (numOf (l.take 2), l.drop 2, 0)
end Go.Proofs.YtgaamehjdoakhaaDoor

/- What is left as it was: every block that lay before the call but those of S. -/
namespace Go.Proofs.YtgaamehjdoakhaaDoor
open Go.RowKit

/-- Of what lay in w nothing has turned in w' but the blocks of S. -/
structure Kept (S : Nat → Prop) (w w' : World) : Prop where
  os : w'.os = w.os
  tape : w'.tape = w.tape
  output : w'.output = w.output
  size : w.heap.size ≤ w'.heap.size
  block : ∀ k, k < w.heap.size → ¬ S k → w'.heap[k]? = w.heap[k]?

theorem Kept.refl (S : Nat → Prop) (w : World) : Kept S w w := ⟨rfl, rfl, rfl, Nat.le_refl _, fun _ _ _ => rfl⟩

theorem Kept.andThen {S T : Nat → Prop} {a b c : World} (h : Kept S a b) (k : Kept T b c) (hT : ∀ i, i < a.heap.size → T i → S i) : Kept S a c :=
  ⟨k.os.trans h.os, k.tape.trans h.tape, k.output.trans h.output, Nat.le_trans h.size k.size, fun i hi hn => (k.block i (Nat.lt_of_lt_of_le hi h.size) (fun t => hn (hT i hi t))).trans (h.block i hi hn)⟩

theorem Kept.trans {S : Nat → Prop} {a b c : World} (h : Kept S a b) (k : Kept S b c) : Kept S a c := h.andThen k (fun _ _ t => t)

theorem Kept.mono {S T : Nat → Prop} {a b : World} (h : Kept S a b) (hT : ∀ i, i < a.heap.size → S i → T i) : Kept T a b :=
  ⟨h.os, h.tape, h.output, h.size, fun i hi hn => h.block i hi (fun s => hn (hT i hi s))⟩

theorem Kept.drew {S : Nat → Prop} {a w : World} (h : Kept S a w) : Kept S a w.drew := ⟨h.os, h.tape, h.output, h.size, h.block⟩

theorem Kept.drewN {S : Nat → Prop} {a w : World} (h : Kept S a w) (n : Nat) : Kept S a (w.drewN n) := ⟨h.os, h.tape, h.output, h.size, h.block⟩

theorem Kept.alloc {S : Nat → Prop} {a w : World} (h : Kept S a w) (o : Obj) : Kept S a (w.alloc o) :=
  h.andThen (T := fun _ => False) ⟨rfl, rfl, rfl, ((Below.refl 0 w).alloc (Nat.zero_le _) o).size, fun k hk _ => Below.heap_alloc w o k hk⟩ (fun _ _ t => t.elim)

theorem Kept.setCell {S : Nat → Prop} {a w : World} (h : Kept S a w) {p : Addr} (hp : a.heap.size ≤ p.block ∨ S p.block) (u : Value) : Kept S a (w.setCell p u) :=
  h.andThen (T := fun i => i = p.block) (by
    have hb := (Below.refl 0 w).setCell (Nat.zero_le p.block) u
    exact ⟨hb.os, hb.tape, hb.output, hb.size, fun k _ hn => Below.heap_setCell w p u k hn⟩) (fun i hi t => by
    subst t
    rcases hp with hp | hp
    · omega
    · exact hp)

theorem Kept.grown {S : Nat → Prop} {a w w' : World} {row : Option Nat} (h : Kept S a w) (hg : w.grownBy w' row) (hr : ∀ j, row = some j → a.heap.size ≤ j ∨ S j) : Kept S a w' :=
  h.andThen (T := fun i => row = some i) ⟨hg.os, hg.tape, hg.output, hg.size, fun k hk hn => hg.block k hk (fun e => hn e.symm)⟩ (fun i hi t => by
    rcases hr i t with h1 | h1
    · omega
    · exact h1)

theorem Kept.below {S : Nat → Prop} {w w' : World} {B : Nat} (h : Kept S w w') (hB : B ≤ w.heap.size) (hS : ∀ i, S i → B ≤ i) : Below B w w' :=
  ⟨h.os, h.tape, h.output, h.size, fun k hk => h.block k (Nat.lt_of_lt_of_le hk hB) (fun s => by have := hS k s; omega)⟩

theorem Kept.of_below {S : Nat → Prop} {w w' : World} {B : Nat} (h : Below B w w') (hS : ∀ i, i < w.heap.size → B ≤ i → S i) : Kept S w w' :=
  ⟨h.os, h.tape, h.output, h.size, fun k hk hn => h.block k (Nat.lt_of_not_le (fun hb => hn (hS k hk hb)))⟩

theorem Kept.cell {S : Nat → Prop} {w w' : World} (h : Kept S w w') {p : Addr} (hp : p.block < w.heap.size) (hn : ¬ S p.block) : w'.cell? p = w.cell? p := World.cell?_of_block (h.block p.block hp hn)
theorem Kept.frozen {S : Nat → Prop} {w w' : World} (h : Kept S w w') {p : Addr} (hp : p.block < w.heap.size) (hn : ¬ S p.block) : w'.frozen? p = w.frozen? p := World.frozen?_of_block (h.block p.block hp hn)

theorem lt_of_cell {w : World} {p : Addr} {v : Value} (h : w.cell? p = some v) : p.block < w.heap.size := by
  unfold World.cell? at h
  split at h
  · rename_i o ho
    exact (Array.getElem?_eq_some_iff.1 ho).1
  all_goals simp_all

/-- The block g bears cells, as many as before, of the same type, the same of them frozen. -/
def Shape (g : Nat) (w w' : World) : Prop := ∀ cur e fz, w.heap[g]? = some (.cells cur e fz) → ∃ cur', w'.heap[g]? = some (.cells cur' e fz) ∧ cur'.size = cur.size

theorem Shape.same {g : Nat} {w w' : World} (h : w'.heap[g]? = w.heap[g]?) : Shape g w w' := fun cur _ _ hc => ⟨cur, h.trans hc, rfl⟩
theorem Shape.trans {g : Nat} {a b c : World} (h : Shape g a b) (k : Shape g b c) : Shape g a c := fun cur e fz hc => by
  obtain ⟨c1, h1, s1⟩ := h cur e fz hc
  obtain ⟨c2, h2, s2⟩ := k c1 e fz h1
  exact ⟨c2, h2, s2.trans s1⟩
theorem Shape.setCell {g : Nat} {a w : World} (h : Shape g a w) (p : Addr) (hp : p.spot = none) (v : Value) : Shape g a (w.setCell p v) := fun cur e fz hc => by
  obtain ⟨c1, h1, s1⟩ := h cur e fz hc
  by_cases hg : g = p.block
  · subst hg
    obtain ⟨pb, po, ps⟩ := p
    simp only at hp
    subst hp
    exact ⟨_, Joins.block_setCell h1 v, by simpa using s1⟩
  · exact ⟨c1, (Below.heap_setCell w p v g hg).trans h1, s1⟩
theorem Shape.drew {g : Nat} {a w : World} (h : Shape g a w) : Shape g a w.drew := h
theorem Kept.shape {S : Nat → Prop} {g : Nat} {w w' : World} (h : Kept S w w') (hS : ¬ S g) : Shape g w w' := fun cur _ _ hc => ⟨cur, (h.block g (Array.getElem?_eq_some_iff.1 hc).1 hS).trans hc, rfl⟩

/-- Nothing has turned but the cells of the block g. -/
def KeptRow (g : Nat) (w w' : World) : Prop := Kept (fun i => i = g) w w' ∧ Shape g w w'

theorem skolem1 {α γ : Type} {p : α → γ → Prop} (h : ∀ a, ∃ c, p a c) : ∃ F : α → γ, ∀ a, p a (F a) := ⟨fun a => (h a).choose, fun a => (h a).choose_spec⟩
theorem skolem2 {α β γ : Type} {p : α → β → γ → Prop} (h : ∀ a b, ∃ c, p a b c) : ∃ F : α → β → γ, ∀ a b, p a b (F a b) := ⟨fun a b => (h a b).choose, fun a b => (h a b).choose_spec⟩

end Go.Proofs.YtgaamehjdoakhaaDoor

/- The contract of strings.Clone: it returns the same bytes, and of what was there nothing has turned; for every string of at most 2^48 bytes. (By the library's contract of the function that it calls.) -/
namespace Go.Proofs.YtgaamehjdoakhaaDoor
open Go.RowKit Go.Shelf

def cloneRen : Ren := ⟨fun | 25 => 78 | n => n, fun | 37 => 56 | 47 => 144 | n => n, fun n => n⟩
theorem cloneLays : LaysPu.n25 Tryd.prog cloneRen := {
  mixed := by kernel_rfl, f25 := by kernel_rfl,
  t0 := by kernel_rfl, a0 := fun w => by kernel_rfl, z0 := fun w => by kernel_rfl, v0 := fun w => by kernel_rfl, i0 := by kernel_rfl,
  t3 := by kernel_rfl, a3 := fun w => by kernel_rfl, z3 := fun w => by kernel_rfl, v3 := fun w => by kernel_rfl, i3 := by kernel_rfl,
  t4 := by kernel_rfl, a4 := fun w => by kernel_rfl, z4 := fun w => by kernel_rfl, v4 := fun w => by kernel_rfl, i4 := by kernel_rfl,
  t5 := by kernel_rfl, a5 := fun w => by kernel_rfl, z5 := fun w => by kernel_rfl, v5 := fun w => by kernel_rfl, i5 := by kernel_rfl,
  t9 := by kernel_rfl, a9 := fun w => by kernel_rfl, z9 := fun w => by kernel_rfl, v9 := fun w => by kernel_rfl, i9 := by kernel_rfl,
  t37 := by kernel_rfl, a37 := fun w => by kernel_rfl, z37 := fun w => by kernel_rfl, v37 := fun w => by kernel_rfl, i37 := by kernel_rfl,
  t47 := by kernel_rfl, a47 := fun w => by kernel_rfl, z47 := fun w => by kernel_rfl, v47 := fun w => by kernel_rfl, i47 := by kernel_rfl }
theorem clone_in (s : ByteArray) (w : World) (hlim : s.size ≤ 281474976710656) :
    Calls Tryd.prog 78 #[.string s] w fun e w' => e = .returned (.string s) ∧ Below w.heap.size w w' := AnyPu.stringslite_Clone cloneLays s w hlim
set_option maxHeartbeats 400000 in
theorem clone_any (s : ByteArray) (w : World) (hlim : s.size ≤ 281474976710656) :
    Calls Tryd.prog 59 #[.string s] w fun e w' => e = .returned (.string s) ∧ Below w.heap.size w w' := by
  go_enter Tryd.func59, Tryd.ntmps59
  go_wp2_with (go_at_call 78; refine (clone_in s _ hlim).mono ?_; rintro e w' ⟨rfl, hb⟩)
  go_ret
  exact ⟨rfl, by assumption⟩
end Go.Proofs.YtgaamehjdoakhaaDoor

/- A map's block as the list of its entries, in whatever order: what a look-up, a store, a delete, len and a range's step give, for every key type that can be read. -/
namespace Go.Proofs.YtgaamehjdoakhaaDoor
open Go.ChangeMaps Go.MapKept
open Go.Maps (Keyed)

def kv (e : MapEntry) : Value × Value := (e.key, e.val)

/-- Block b of w is a map whose entries are those of L, in some order. -/
def Assoc (w : World) (P : Program) (k : TypeId) (b : Nat) (L : List (Value × Value)) : Prop :=
  ∃ es clock, w.heap[b]? = some (.map es clock) ∧ Stamped es clock ∧ es.size ≤ maxLen ∧ (∀ x ∈ es.toList, ∃ l, keyOf P k x.key = some l) ∧ (es.toList.map kv).Perm L

section
variable {P : Program} {k : TypeId} {w : World} {b : Nat} {L : List (Value × Value)}

theorem Assoc.perm (h : Assoc w P k b L) {M : List (Value × Value)} (hp : L.Perm M) : Assoc w P k b M := by
  obtain ⟨es, clock, hb, hs, hm, hk, hL⟩ := h
  exact ⟨es, clock, hb, hs, hm, hk, hL.trans hp⟩

theorem Assoc.lt (h : Assoc w P k b L) : b < w.heap.size := by
  obtain ⟨es, clock, hb, _⟩ := h
  exact (Array.getElem?_eq_some_iff.1 hb).1

theorem Assoc.size (h : Assoc w P k b L) : L.length ≤ maxLen := by
  obtain ⟨es, clock, hb, _, hm, _, hL⟩ := h
  rw [← hL.length_eq]
  simpa using hm

theorem Assoc.keys (h : Assoc w P k b L) : L.Pairwise (fun p q => p.1 ≠ q.1) := by
  obtain ⟨es, clock, hb, hs, _, _, hL⟩ := h
  have h1 := ((stamped_iff es clock).1 hs).2.2
  refine (hL.pairwise_iff (fun {a b} (h : a.1 ≠ b.1) => h.symm)).1 ?_
  rw [List.pairwise_map]
  exact h1

theorem Assoc.made (w : World) (P : Program) (k : TypeId) : Assoc (w.alloc (.map #[] 0)) P k w.heap.size [] :=
  ⟨#[], 0, (MapKept.heap_alloc w _).1, stamped_empty 0, by simp, by simp, by simp⟩

theorem Assoc.same {w' : World} (h : Assoc w P k b L) (hb' : w'.heap[b]? = w.heap[b]?) : Assoc w' P k b L := by
  obtain ⟨es, clock, hb, r⟩ := h
  exact ⟨es, clock, hb'.trans hb, r⟩

theorem Assoc.kept {w' : World} {row : Option Nat} (h : Assoc w P k b L) (hg : w.grownBy w' row) (hne : some b ≠ row) : Assoc w' P k b L := h.same (hg.block b h.lt hne)

theorem Assoc.alloc (h : Assoc w P k b L) (o : Obj) : Assoc (w.alloc o) P k b L := h.kept (World.grownBy_alloc w o none) (by simp)

theorem Assoc.setCell (h : Assoc w P k b L) {a : Addr} (ha : b ≠ a.block) (u : Value) : Assoc (w.setCell a u) P k b L := h.same (RowKit.Below.heap_setCell _ _ _ _ ha)

theorem entry_of_mem {es : List MapEntry} {p : Value × Value} (h : p ∈ es.map kv) : ∃ x ∈ es, x.key = p.1 ∧ x.val = p.2 := by
  obtain ⟨x, hx, rfl⟩ := List.mem_map.1 h
  exact ⟨x, hx, rfl, rfl⟩

/-- 'm[k]' and 'v, ok := m[k]'. -/
theorem Assoc.look {t e : TypeId} (c : Bool) (h : Assoc w P k b L) (K : Keyed P k) (ht : P.underlying t = some (.map k e)) {z : Value} (hz : (zeroValue e).run P w = .ok z w) {key : Value} {kl : Lit} (hkey : keyOf P k key = some kl) :
    ((∀ p ∈ L, p.1 ≠ key) ∧ (Instr.lookup t (.map (some b)) key c).run P w = .ok (if c then .tuple #[z, .bool false] else z) w) ∨
    ∃ v, (key, v) ∈ L ∧ (Instr.lookup t (.map (some b)) key c).run P w = .ok (if c then .tuple #[v, .bool true] else v) w := by
  obtain ⟨es, clock, hb, hs, hm, hk, hL⟩ := h
  rcases K.find w hkey es.toList hk with ⟨h1, h2⟩ | ⟨j, e0, h1, h2, h3⟩
  · refine Or.inl ⟨fun p hp => ?_, by simp [Instr.lookup, run_underlying ht, MapKept.run_getObj_map hb, K.check w _ hkey, h1, hz, Result.andThen]⟩
    obtain ⟨x, hx, hx1, _⟩ := entry_of_mem (hL.mem_iff.2 hp)
    rw [← hx1]
    exact h2 x hx
  · have hm0 : e0 ∈ es.toList := List.mem_of_getElem? h2
    refine Or.inr ⟨e0.val, hL.mem_iff.1 (List.mem_map.2 ⟨e0, hm0, by rw [kv, h3]⟩), by simp [Instr.lookup, run_underlying ht, MapKept.run_getObj_map hb, K.check w _ hkey, h1, Result.andThen]⟩

/-- Of the entries of L those at another key are M's. -/
def Strikes (L : List (Value × Value)) (key : Value) (M : List (Value × Value)) : Prop := (L.Perm M ∧ ∀ p ∈ M, p.1 ≠ key) ∨ ∃ v, L.Perm ((key, v) :: M)

theorem perm_of_pair {a b : Value × Value} {l m : List (Value × Value)} (hd : (a :: l).Pairwise (fun p q => p.1 ≠ q.1)) (hp : (a :: l).Perm (b :: m)) (hk : a.1 = b.1) : a = b ∧ l.Perm m := by
  have hb : b ∈ a :: l := hp.mem_iff.2 (List.mem_cons_self ..)
  rcases List.mem_cons.1 hb with e | hb
  · subst e
    exact ⟨rfl, hp.cons_inv⟩
  · exact absurd hk ((List.pairwise_cons.1 hd).1 b hb)

theorem erase_perm {α : Type} : ∀ (l : List α) (j : Nat) (hj : j < l.length), l.Perm (l[j] :: l.eraseIdx j)
  | a :: l, 0, _ => by simp
  | a :: l, j + 1, hj => by
    have := erase_perm l j (by simpa using hj)
    simpa using (this.cons a).trans (List.Perm.swap _ _ _)

/-- 'm[k] = v'. -/
theorem Assoc.store {t e : TypeId} (h : Assoc w P k b L) (K : Keyed P k) (ht : P.underlying t = some (.map k e)) (hroom : L.length < maxLen) {key val : Value} {kl : Lit} (hkey : keyOf P k key = some kl) {M : List (Value × Value)} (hM : Strikes L key M) :
    ∃ w', (Instr.mapUpdate t (.map (some b)) key val).run P w = .ok () w' ∧ Assoc w' P k b ((key, val) :: M) ∧ w.mapTurned w' b := by
  have hkeys := h.keys
  obtain ⟨es, clock, hb, hs, hm, hk, hL⟩ := h
  have hlen : es.size < maxLen := by
    have := hL.length_eq
    simp at this
    omega
  have hnd : (es.toList.map kv).Pairwise (fun p q => p.1 ≠ q.1) := by
    rw [List.pairwise_map]
    exact ((stamped_iff es clock).1 hs).2.2
  rcases K.find w hkey es.toList hk with ⟨h1, h2⟩ | ⟨j, e0, h1, h2, h3⟩
  · refine ⟨setBlock w b (.map (es.push ⟨key, val, clock⟩) (clock + 1)), by simp [Instr.mapUpdate, run_underlying ht, MapKept.run_getObj_map hb, K.check w false hkey, h1, MapKept.run_setObj_map _ hb, Result.andThen, setBlock], ⟨es.push ⟨key, val, clock⟩, clock + 1, heap_setBlock_same hb _, stamped_push hs h2, by simp; omega, ?_, ?_⟩, ⟨es, clock, _, _, hb, rfl⟩⟩
    · intro x hx
      simp only [Array.toList_push, List.mem_append, List.mem_singleton] at hx
      rcases hx with hx | rfl
      · exact hk x hx
      · exact ⟨kl, hkey⟩
    · rw [Array.toList_push, List.map_append, List.map_singleton]
      refine (List.perm_append_singleton _ _).trans ?_
      refine List.Perm.cons (key, val) ?_
      rcases hM with ⟨hp, _⟩ | ⟨v, hp⟩
      · exact hL.trans hp
      · obtain ⟨x, hx, hx1, _⟩ := entry_of_mem ((hL.trans hp).mem_iff.2 (List.mem_cons_self ..))
        exact absurd hx1 (h2 x hx)
  · have hj : es[j]? = some e0 := by simpa using h2
    have hjl : j < es.toList.length := (List.getElem?_eq_some_iff.1 h2).1
    have hlist : (es.modify j (fun e' => { e' with key := key, val := val })).toList = es.toList.set j { e0 with key := key, val := val } := by rw [Array.toList_modify, modify_eq_set _ _ _ _ h2]
    have hkeyf : ∀ e', es[j]? = some e' → ({ e' with key := key, val := val } : MapEntry).key = e'.key := fun e' he' => by rw [hj] at he'; cases he'; exact h3.symm
    have hpm : (es.toList.map kv).Perm ((key, e0.val) :: (es.toList.map kv).eraseIdx j) := by
      have hget : (es.toList.map kv)[j]? = some (key, e0.val) := by rw [List.getElem?_map, h2]; simp [kv, h3]
      obtain ⟨hj', hg⟩ := List.getElem?_eq_some_iff.1 hget
      have := erase_perm (es.toList.map kv) j hj'
      rw [hg] at this
      exact this
    refine ⟨setBlock w b (.map (es.modify j (fun e' => { e' with key := key, val := val })) clock), by simp [Instr.mapUpdate, run_underlying ht, MapKept.run_getObj_map hb, K.check w false hkey, h1, hj, h3, K.stays w hkey, MapKept.run_setObj_map _ hb, Result.andThen, setBlock], ⟨es.modify j (fun e' => { e' with key := key, val := val }), clock, heap_setBlock_same hb _, stamped_modify hs _ _ (fun _ _ => rfl) (fun e' _ he' => hkeyf e' he'), by simpa using hm, ?_, ?_⟩, ⟨es, clock, _, _, hb, rfl⟩⟩
    · intro x hx
      rw [hlist] at hx
      obtain ⟨i, hi, ex⟩ := List.getElem_of_mem hx
      rw [List.getElem_set] at ex
      split at ex
      · rw [← ex]; exact ⟨kl, hkey⟩
      · exact hk x (ex ▸ List.getElem_mem _)
    · rw [hlist, List.map_set]
      refine (set_perm _ _ (by simpa using hjl) _).trans ?_
      refine List.Perm.cons (key, val) ?_
      rcases hM with ⟨hp, hne⟩ | ⟨v, hp⟩
      · have := (hL.trans hp).mem_iff.1 (hpm.mem_iff.2 (List.mem_cons_self ..))
        exact absurd rfl (hne _ this)
      · have h5 := hpm.symm.trans (hL.trans hp)
        have hd : ((key, e0.val) :: (es.toList.map kv).eraseIdx j).Pairwise (fun p q => p.1 ≠ q.1) := (hpm.pairwise_iff (fun {a b} (h : a.1 ≠ b.1) => h.symm)).1 hnd
        exact (perm_of_pair hd h5 rfl).2

/-- 'delete(m, k)'. -/
theorem Assoc.drop {t e ty : TypeId} (h : Assoc w P k b L) (K : Keyed P k) (ht : P.underlying t = some (.map k e)) {key : Value} {kl : Lit} (hkey : keyOf P k key = some kl) {M : List (Value × Value)} (hM : Strikes L key M) :
    ∃ w', (Builtin.delete_ #[t, k] ty #[.map (some b), key]).run P w = .ok (.tuple #[]) w' ∧ Assoc w' P k b M ∧ w.mapTurned w' b := by
  obtain ⟨es, clock, hb, hs, hm, hk, hL⟩ := h
  have hnd : (es.toList.map kv).Pairwise (fun p q => p.1 ≠ q.1) := by
    rw [List.pairwise_map]
    exact ((stamped_iff es clock).1 hs).2.2
  rcases K.find w hkey es.toList hk with ⟨h1, h2⟩ | ⟨j, e0, h1, h2, h3⟩
  · refine ⟨setBlock w b (.map es clock), by simp [Builtin.delete_, run_underlying ht, MapKept.run_getObj_map hb, K.check w _ hkey, h1, MapKept.run_setObj_map _ hb, Result.andThen, setBlock], ⟨es, clock, heap_setBlock_same hb _, hs, hm, hk, ?_⟩, ⟨es, clock, es, clock, hb, rfl⟩⟩
    rcases hM with ⟨hp, _⟩ | ⟨v, hp⟩
    · exact hL.trans hp
    · obtain ⟨x, hx, hx1, _⟩ := entry_of_mem ((hL.trans hp).mem_iff.2 (List.mem_cons_self ..))
      exact absurd hx1 (h2 x hx)
  · have hjl : j < es.toList.length := (List.getElem?_eq_some_iff.1 h2).1
    have hjs : j < es.size := by simpa using hjl
    have hsub : (es.eraseIdxIfInBounds j).toList = es.toList.eraseIdx j := by
      unfold Array.eraseIdxIfInBounds
      rw [dif_pos hjs]
      simp
    have hpm : (es.toList.map kv).Perm ((key, e0.val) :: (es.toList.map kv).eraseIdx j) := by
      have hget : (es.toList.map kv)[j]? = some (key, e0.val) := by rw [List.getElem?_map, h2]; simp [kv, h3]
      obtain ⟨hj', hg⟩ := List.getElem?_eq_some_iff.1 hget
      have := erase_perm (es.toList.map kv) j hj'
      rw [hg] at this
      exact this
    refine ⟨setBlock w b (.map (es.eraseIdxIfInBounds j) clock), by simp [Builtin.delete_, run_underlying ht, MapKept.run_getObj_map hb, K.check w _ hkey, h1, MapKept.run_setObj_map _ hb, Result.andThen, setBlock], ⟨es.eraseIdxIfInBounds j, clock, heap_setBlock_same hb _, stamped_erase hs j, Nat.le_trans (MapFrom.size_erase es j) hm, ?_, ?_⟩, ⟨es, clock, _, _, hb, rfl⟩⟩
    · intro x hx
      rw [hsub] at hx
      exact hk x ((List.eraseIdx_sublist _ _).subset hx)
    · rw [hsub, map_eraseIdx]
      rcases hM with ⟨hp, hne⟩ | ⟨v, hp⟩
      · have := (hL.trans hp).mem_iff.1 (hpm.mem_iff.2 (List.mem_cons_self ..))
        exact absurd rfl (hne _ this)
      · have h5 := hpm.symm.trans (hL.trans hp)
        have hd : ((key, e0.val) :: (es.toList.map kv).eraseIdx j).Pairwise (fun p q => p.1 ≠ q.1) := (hpm.pairwise_iff (fun {a b} (h : a.1 ≠ b.1) => h.symm)).1 hnd
        exact (perm_of_pair hd h5 rfl).2

/-- 'len(m)'. -/
theorem Assoc.len {t e ty : TypeId} (h : Assoc w P k b L) (ht : P.underlying t = some (.map k e)) :
    (Builtin.len_ #[t] ty #[.map (some b)]).run P w = .ok (.int .i64 (L.length : Nat)) w := by
  obtain ⟨es, clock, hb, hs, hm, hk, hL⟩ := h
  have : L.length = es.size := by rw [← hL.length_eq]; simp
  simp [Builtin.len_, run_underlying ht, MapKept.run_getObj_map hb, Result.andThen, this, goInt]

/-- A range over such a map under way: the iterator lies in block r; N is still to come. -/
def Ranging (w : World) (P : Program) (k : TypeId) (b r : Nat) (L N : List (Value × Value)) : Prop :=
  ∃ es clock since seen c0, w.heap[b]? = some (.map es clock) ∧ Stamped es clock ∧ es.size ≤ maxLen ∧ (∀ x ∈ es.toList, ∃ l, keyOf P k x.key = some l) ∧ (es.toList.map kv).Perm L ∧
    w.heap[r]? = some (.mapIter (some b) since seen c0) ∧ (∀ x ∈ es.toList, x.born < since) ∧ ((leftOf es seen).toList.map kv).Perm N ∧ since ≤ c0 ∧ since ≤ clock

theorem Ranging.owns {r : Nat} {N : List (Value × Value)} (h : Ranging w P k b r L N) : Assoc w P k b L := by
  obtain ⟨es, clock, _, _, _, hb, hs, hm, hk, hL, _⟩ := h
  exact ⟨es, clock, hb, hs, hm, hk, hL⟩

theorem Ranging.lt {r : Nat} {N : List (Value × Value)} (h : Ranging w P k b r L N) : r < w.heap.size := by
  obtain ⟨es, clock, since, seen, c0, _, _, _, _, _, hr, _⟩ := h
  exact (Array.getElem?_eq_some_iff.1 hr).1

theorem Ranging.ne {r : Nat} {N : List (Value × Value)} (h : Ranging w P k b r L N) : r ≠ b := by
  obtain ⟨es, clock, since, seen, c0, hb, _, _, _, _, hr, _⟩ := h
  intro e
  rw [e, hb] at hr
  cases hr

theorem Ranging.same {r : Nat} {N : List (Value × Value)} {w' : World} (h : Ranging w P k b r L N) (hb' : w'.heap[b]? = w.heap[b]?) (hr' : w'.heap[r]? = w.heap[r]?) : Ranging w' P k b r L N := by
  obtain ⟨es, clock, since, seen, c0, hb, hs, hm, hk, hL, hr, rest⟩ := h
  exact ⟨es, clock, since, seen, c0, hb'.trans hb, hs, hm, hk, hL, hr'.trans hr, rest⟩

theorem Ranging.kept {r : Nat} {N : List (Value × Value)} {w' : World} {row : Option Nat} (h : Ranging w P k b r L N) (hg : w.grownBy w' row) (hb' : some b ≠ row) (hr' : some r ≠ row) : Ranging w' P k b r L N :=
  h.same (hg.block b h.owns.lt hb') (hg.block r h.lt hr')

/-- 'range m'. -/
theorem Assoc.range {t e : TypeId} (h : Assoc w P k b L) (ht : P.underlying t = some (.map k e)) :
    ∃ w', (Instr.range t (.map (some b))).run P w = .ok (.pointer (some ⟨w.heap.size, 0, none⟩)) w' ∧ Ranging w' P k b w.heap.size L L ∧ w.grownBy w' none ∧ w'.heap.size = w.heap.size + 1 := by
  have hlt := h.lt
  obtain ⟨es, clock, hb, hs, hm, hk, hL⟩ := h
  refine ⟨_, run_range_map w t k e b es clock ht hb, ⟨es, clock, clock, #[], clock, ((MapKept.heap_alloc w _).2 b hlt).trans hb, hs, hm, hk, hL, (MapKept.heap_alloc w _).1, hs.1, ?_, Nat.le_refl _, Nat.le_refl _⟩, World.grownBy_alloc w _ none, by simp⟩
  have e1 : leftOf es #[] = es := by unfold leftOf; exact Array.filter_eq_self.2 (fun x _ => by simp)
  rw [e1]
  exact hL

/-- The range's step. -/
theorem Ranging.next {r : Nat} {N : List (Value × Value)} (h : Ranging w P k b r L N) (ty : TypeId) :
    (N = [] ∧ (Instr.next (.pointer (some ⟨r, 0, none⟩)) false ty).run P w = .ok (.tuple #[.bool false]) w) ∨
    ∃ key v M w', N.Perm ((key, v) :: M) ∧ (Instr.next (.pointer (some ⟨r, 0, none⟩)) false ty).run P w = .ok (.tuple #[.bool true, key, v]) w' ∧ Ranging w' P k b r L M ∧ w.grownBy w' (some r) ∧ w'.heap.size = w.heap.size ∧
      (Instr.entry (.pointer (some ⟨r, 0, none⟩))).run P w' = .ok (.tuple #[key, v]) w' := by
  have hne := h.ne
  obtain ⟨es, clock, since, seen, c0, hb, hs, hm, hk, hL, hr, hold, hN, hsc, hsk⟩ := h
  rcases run_next_at (P := P) w ty r b since c0 seen es clock hr hb hold hsc with ⟨h0, hrun⟩ | ⟨e, he, w1, hal, hrun⟩
  · refine Or.inl ⟨?_, hrun⟩
    have : (leftOf es seen).toList = [] := by
      apply List.eq_nil_of_length_eq_zero
      simpa using h0
    rw [this] at hN
    exact List.nil_perm.1 hN
  · obtain ⟨hem, hes⟩ := mem_left he
    have hr1 : w1.heap[r]? = some (.mapIter (some b) since seen c0) := by rcases hal with rfl | rfl <;> exact hr
    have hb1 : w1.heap[b]? = some (.map es clock) := by rcases hal with rfl | rfl <;> exact hb
    have hset := heap_set (o' := .mapIter (some b) since (seen.push e.born) clock) hr1
    have hst := (stamped_iff es clock).1 hs
    refine Or.inr ⟨e.key, e.val, (leftOf es (seen.push e.born)).toList.map kv, _, ?_, hrun, ⟨es, clock, since, seen.push e.born, clock, (hset.2 b (Ne.symm hne)).trans hb1, hs, hm, hk, hL, hset.1, hold, List.Perm.refl _, hsk, hsk⟩, ?_, ?_, ?_⟩
    · refine hN.symm.trans ?_
      have hp : (leftOf es seen).toList.Perm (e :: (leftOf es (seen.push e.born)).toList) := by
        have e1 : ∀ s : Array Nat, (leftOf es s).toList = es.toList.filter (fun x => !s.contains x.born) := fun s => by unfold leftOf; exact Array.toList_filter
        rw [e1] at he ⊢
        rw [e1]
        have hnb : (es.toList.map (·.born)).Nodup := hst.2.1
        have hq : ∀ l : List MapEntry, (l.map (·.born)).Nodup → e ∈ l.filter (fun x => !seen.contains x.born) → (l.filter (fun x => !seen.contains x.born)).Perm (e :: l.filter (fun x => !(seen.push e.born).contains x.born)) := by
          intro l
          induction l with
          | nil => intro _ h; simp at h
          | cons a l ih =>
            intro hnd hmem
            rw [List.map_cons, List.nodup_cons] at hnd
            by_cases hae : a = e
            · subst hae
              have hsa : (!seen.contains a.born) = true := (List.mem_filter.1 hmem).2
              have hrest : l.filter (fun x => !(seen.push a.born).contains x.born) = l.filter (fun x => !seen.contains x.born) := by
                refine List.filter_congr (fun x hx => ?_)
                have hx1 : x.born ≠ a.born := fun e1 => hnd.1 (e1 ▸ List.mem_map.2 ⟨x, hx, rfl⟩)
                simp [hx1]
              have hself : (!(seen.push a.born).contains a.born) = false := by simp
              rw [List.filter_cons, if_pos hsa, List.filter_cons, if_neg (by rw [hself]; simp), hrest]
            · have hel : e ∈ l := by
                rcases List.mem_cons.1 (List.mem_filter.1 hmem).1 with h1 | h1
                · exact absurd h1.symm hae
                · exact h1
              have ha1 : a.born ≠ e.born := fun e1 => hnd.1 (e1 ▸ List.mem_map.2 ⟨e, hel, rfl⟩)
              have hal2 : (!(seen.push e.born).contains a.born) = !seen.contains a.born := by simp [ha1]
              have hrec := ih hnd.2 (List.mem_filter.2 ⟨hel, (List.mem_filter.1 hmem).2⟩)
              rw [List.filter_cons, List.filter_cons, hal2]
              split
              · exact (hrec.cons a).trans (List.Perm.swap e a _)
              · exact hrec
        exact hq es.toList hnb he
      exact (hp.map kv)
    · rcases hal with rfl | rfl <;> exact ⟨rfl, rfl, rfl, by simp [setBlock], fun i _ hi => hset.2 i (fun e1 => hi (by rw [e1]))⟩
    · rcases hal with rfl | rfl <;> simp [setBlock]
    · exact run_entry_at _ r b since seen es clock e hset.1 ((hset.2 b (Ne.symm hne)).trans hb1) hem hst.2.1

end
end Go.Proofs.YtgaamehjdoakhaaDoor

/- Tags and packets in bytes, as plain functions with no Go in them; and what follows of these. -/
namespace Go.Proofs.YtgaamehjdoakhaaDoor
open Go.RowKit

theorem hid {p : Prop} (h : p) : Hid p := h

theorem bytes_ext {a b : ByteArray} (h : a.data.toList = b.data.toList) : a = b := by
  apply ByteArray.ext
  exact Array.toList_inj.1 h

/-- A tag. -/
structure Tg where
  type : Int
  value : ByteArray

/-- Types of 1 to 65535. -/
def okT (t : Tg) : Bool := decide (1 ≤ t.type) && decide (t.type ≤ 65535)
def sizeT (l : List Tg) : Nat := (l.map fun t => 4 + t.value.size).sum
def tagBytes (t : Tg) : List UInt8 := low t.type.toNat 2 ++ low t.value.size 2 ++ t.value.data.toList
def bytesT (l : List Tg) : List UInt8 := l.flatMap tagBytes

def putTagsF (l : List Tg) : List UInt8 × Int :=
  if 20 < l.length then ([], 2) else if l.all okT = false then ([], 1) else if 1494 < sizeT l then ([], 2) else (bytesT l, 0)

/-- The tags of some bytes, behind those that were read ahead of them; n at a time. -/
def tagsN : Nat → List UInt8 → List Tg → List Tg × Int
  | 0, _, _ => ([], 0)
  | n + 1, l, acc =>
    if l.length = 0 ∨ (2 ≤ l.length ∧ numOf (l.take 2) = 0) then (acc, 0)
    else if l.length < 4 then ([], 5)
    else if l.length < 4 + numOf ((l.drop 2).take 2) then ([], 5)
    else if 20 ≤ acc.length then ([], 2)
    else tagsN n (l.drop (4 + numOf ((l.drop 2).take 2))) (acc ++ [⟨(numOf (l.take 2) : Int), ⟨((l.drop 4).take (numOf ((l.drop 2).take 2))).toArray⟩⟩])
def tagsOn (l : List UInt8) (acc : List Tg) : List Tg × Int := tagsN (l.length + 1) l acc

theorem tagsN_enough (n m : Nat) (l : List UInt8) (acc : List Tg) (hn : l.length < n) (hm : l.length < m) : tagsN n l acc = tagsN m l acc := by
  induction n generalizing m l acc with
  | zero => omega
  | succ n ih =>
    cases m with
    | zero => omega
    | succ m =>
      simp only [tagsN]
      by_cases h1 : l.length = 0 ∨ (2 ≤ l.length ∧ numOf (l.take 2) = 0)
      · rw [if_pos h1, if_pos h1]
      · rw [if_neg h1, if_neg h1]
        by_cases h2 : l.length < 4
        · rw [if_pos h2, if_pos h2]
        · rw [if_neg h2, if_neg h2]
          by_cases h3 : l.length < 4 + numOf ((l.drop 2).take 2)
          · rw [if_pos h3, if_pos h3]
          · rw [if_neg h3, if_neg h3]
            by_cases h4 : 20 ≤ acc.length
            · rw [if_pos h4, if_pos h4]
            · rw [if_neg h4, if_neg h4]
              exact ih m _ _ (by rw [List.length_drop]; omega) (by rw [List.length_drop]; omega)

theorem tagsOn_eq (l : List UInt8) (acc : List Tg) : tagsOn l acc =
    if l.length = 0 ∨ (2 ≤ l.length ∧ numOf (l.take 2) = 0) then (acc, 0)
    else if l.length < 4 then ([], 5)
    else if l.length < 4 + numOf ((l.drop 2).take 2) then ([], 5)
    else if 20 ≤ acc.length then ([], 2)
    else tagsOn (l.drop (4 + numOf ((l.drop 2).take 2))) (acc ++ [⟨(numOf (l.take 2) : Int), ⟨((l.drop 4).take (numOf ((l.drop 2).take 2))).toArray⟩⟩]) := by
  unfold tagsOn
  simp only [tagsN]
  by_cases h1 : l.length = 0 ∨ (2 ≤ l.length ∧ numOf (l.take 2) = 0)
  · rw [if_pos h1, if_pos h1]
  · rw [if_neg h1, if_neg h1]
    by_cases h2 : l.length < 4
    · rw [if_pos h2, if_pos h2]
    · rw [if_neg h2, if_neg h2]
      by_cases h3 : l.length < 4 + numOf ((l.drop 2).take 2)
      · rw [if_pos h3, if_pos h3]
      · rw [if_neg h3, if_neg h3]
        by_cases h4 : 20 ≤ acc.length
        · rw [if_pos h4, if_pos h4]
        · rw [if_neg h4, if_neg h4]
          exact tagsN_enough _ _ _ _ (by rw [List.length_drop]; omega) (Nat.lt_succ_self _)

theorem sizeT_nil : sizeT [] = 0 := rfl
theorem sizeT_snoc (l : List Tg) (t : Tg) : sizeT (l ++ [t]) = sizeT l + (4 + t.value.size) := by simp [sizeT]
theorem sizeT_cons (l : List Tg) (t : Tg) : sizeT (t :: l) = 4 + t.value.size + sizeT l := by simp [sizeT]
theorem sizeT_append (l m : List Tg) : sizeT (l ++ m) = sizeT l + sizeT m := by simp [sizeT]
theorem bytesT_snoc (l : List Tg) (t : Tg) : bytesT (l ++ [t]) = bytesT l ++ tagBytes t := by simp [bytesT]
theorem bytesT_cons (l : List Tg) (t : Tg) : bytesT (t :: l) = tagBytes t ++ bytesT l := by simp [bytesT]
theorem bytesT_append (l m : List Tg) : bytesT (l ++ m) = bytesT l ++ bytesT m := by simp [bytesT]
theorem tagBytes_length (t : Tg) : (tagBytes t).length = 4 + t.value.size := by
  unfold tagBytes
  simp only [List.length_append, low_length]
  rw [← Lib.size_eq]
theorem bytesT_length (l : List Tg) : (bytesT l).length = sizeT l := by
  induction l with
  | nil => rfl
  | cons t l ih => rw [bytesT_cons, List.length_append, tagBytes_length, ih, sizeT_cons]

theorem take_left {α : Type} {n : Nat} {a b : List α} (h : a.length = n) : (a ++ b).take n = a := by
  rw [List.take_append_of_le_length (by omega), List.take_of_length_le (by omega)]
theorem drop_left {α : Type} {n : Nat} {a b : List α} (h : a.length = n) : (a ++ b).drop n = b := by
  rw [List.drop_append_of_le_length (by omega), List.drop_of_length_le (by omega), List.nil_append]

theorem okT_range {t : Tg} (h : okT t = true) : ∃ a : Nat, t.type = (a : Int) ∧ 1 ≤ a ∧ a ≤ 65535 := by
  have hr : 1 ≤ t.type ∧ t.type ≤ 65535 := by simpa [okT] using h
  exact ⟨t.type.toNat, by omega, by omega, by omega⟩

theorem numOf_low2 (a : Nat) (h : a ≤ 65535) : numOf (low a 2) = a := by rw [numOf_low]; omega

/-- The four bytes that open a tag. -/
theorem tagBytes_parts {t : Tg} (ht : okT t = true) (hs : t.value.size ≤ 65535) (r : List UInt8) :
    numOf ((tagBytes t ++ r).take 2) = t.type.toNat ∧ numOf (((tagBytes t ++ r).drop 2).take 2) = t.value.size ∧ ((tagBytes t ++ r).drop 4).take t.value.size = t.value.data.toList ∧ (tagBytes t ++ r).drop (4 + t.value.size) = r := by
  obtain ⟨a, ha, h1, h2⟩ := okT_range ht
  have e : tagBytes t ++ r = low t.type.toNat 2 ++ (low t.value.size 2 ++ (t.value.data.toList ++ r)) := by simp [tagBytes]
  refine ⟨?_, ?_, ?_, drop_left (tagBytes_length t)⟩
  · rw [e, take_left (low_length _ _), numOf_low2 _ (by omega)]
  · rw [e, drop_left (low_length _ _), take_left (low_length _ _), numOf_low2 _ hs]
  · rw [e, show (4 : Nat) = 2 + 2 from rfl, ← List.drop_drop, drop_left (low_length _ _), drop_left (low_length _ _), take_left (by rw [← Lib.size_eq])]

/-- A tag that was put is got. -/
theorem tagsOn_tag {t : Tg} (ht : okT t = true) (hs : t.value.size ≤ 65535) (r : List UInt8) (acc : List Tg) (ha : acc.length < 20) : tagsOn (tagBytes t ++ r) acc = tagsOn r (acc ++ [t]) := by
  obtain ⟨p1, p2, p3, p4⟩ := tagBytes_parts ht hs r
  obtain ⟨a, ha', h1, h2⟩ := okT_range ht
  have hl : (tagBytes t ++ r).length = 4 + t.value.size + r.length := by rw [List.length_append, tagBytes_length]
  have hv : (⟨(t.value.data.toList).toArray⟩ : ByteArray) = t.value := bytes_ext rfl
  have hT : (t.type.toNat : Int) = t.type := by omega
  rw [tagsOn_eq, if_neg (by rw [p1]; omega), if_neg (by omega), p2, if_neg (by omega), if_neg (by omega), p1, p3, p4, hv, hT]

theorem tagsOn_all (l : List Tg) (hl : l.all okT = true) (hs : ∀ t ∈ l, t.value.size ≤ 65535) (r : List UInt8) (acc : List Tg) (ha : acc.length + l.length ≤ 20) : tagsOn (bytesT l ++ r) acc = tagsOn r (acc ++ l) := by
  induction l generalizing acc with
  | nil => simp [bytesT]
  | cons t l ih =>
    simp at hl ha
    rw [bytesT_cons, List.append_assoc, tagsOn_tag hl.1 (hs t (by simp)) _ _ (by omega), ih (by simpa using hl.2) (fun x hx => hs x (by simp [hx])) _ (by simp; omega), List.append_assoc]
    rfl

theorem tagsOn_nil (acc : List Tg) : tagsOn [] acc = (acc, 0) := by
  have h : ([] : List UInt8).length = 0 ∨ (2 ≤ ([] : List UInt8).length ∧ numOf (([] : List UInt8).take 2) = 0) := Or.inl rfl
  rw [tagsOn_eq, if_pos h]
theorem tagsOn_end (r : List UInt8) (acc : List Tg) : tagsOn (0 :: 0 :: r) acc = (acc, 0) := by
  rw [tagsOn_eq, if_pos (Or.inr ⟨by simp, by simp [numOf]⟩)]

/-- A tag that is cut is short. -/
theorem tagsOn_cut {t : Tg} (ht : okT t = true) (hs : t.value.size ≤ 65535) (r : List UInt8) (n : Nat) (h0 : 0 < n) (hn : n < 4 + t.value.size) (acc : List Tg) : tagsOn ((tagBytes t ++ r).take n) acc = ([], 5) := by
  obtain ⟨p1, p2, _, _⟩ := tagBytes_parts ht hs r
  obtain ⟨a, ha', h1, h2⟩ := okT_range ht
  have hl : ((tagBytes t ++ r).take n).length = n := by
    rw [List.length_take, List.length_append, tagBytes_length]
    omega
  rw [tagsOn_eq, hl]
  have hne : ¬ (n = 0 ∨ 2 ≤ n ∧ numOf (((tagBytes t ++ r).take n).take 2) = 0) := by
    rintro (h | ⟨h, h'⟩)
    · omega
    · rw [List.take_take, Nat.min_eq_left h, p1] at h'
      omega
  rw [if_neg hne]
  by_cases h4 : n < 4
  · rw [if_pos h4]
  · rw [if_neg h4, if_pos]
    rw [List.drop_take, List.take_take, Nat.min_eq_left (by omega), p2]
    exact hn

/-! Found tags. -/
def findOn (kind : Int) (s : ByteArray × Nat) (t : Tg) : ByteArray × Nat := if t.type = kind then (if s.2 = 0 then t.value else s.1, s.2 + 1) else s
def findF (l : List Tg) (kind : Int) : ByteArray × Nat := l.foldl (findOn kind) (⟨#[]⟩, 0)
theorem findF_snoc (l : List Tg) (t : Tg) (kind : Int) : findF (l ++ [t]) kind = findOn kind (findF l kind) t := by simp [findF]
theorem findF_le (l : List Tg) (kind : Int) : (findF l kind).2 ≤ l.length := by
  suffices h : ∀ (l : List Tg) (s : ByteArray × Nat), (l.foldl (findOn kind) s).2 ≤ s.2 + l.length by
    have := h l (⟨#[]⟩, 0)
    rw [Nat.zero_add] at this
    exact this
  intro l
  induction l with
  | nil => simp
  | cons t l ih =>
    intro s
    refine Nat.le_trans (ih _) ?_
    unfold findOn
    split <;> simp <;> omega

theorem findF_none {l : List Tg} {kind : Int} (h : (findF l kind).2 = 0) : (findF l kind).1 = ⟨#[]⟩ := by
  suffices h2 : ∀ (l : List Tg) (s : ByteArray × Nat), (s.2 = 0 → s.1 = ⟨#[]⟩) → ((l.foldl (findOn kind) s).2 = 0 → (l.foldl (findOn kind) s).1 = ⟨#[]⟩) from h2 l _ (fun _ => rfl) h
  intro l
  induction l with
  | nil => exact fun s hs => hs
  | cons t l ih =>
    intro s hs
    refine ih _ ?_
    unfold findOn
    split
    · intro h0
      simp at h0
    · exact hs

/-- Two lists, one behind the other. -/
theorem findF_append (l m : List Tg) (kind : Int) : findF (l ++ m) kind = (if (findF l kind).2 = 0 then (findF m kind).1 else (findF l kind).1, (findF l kind).2 + (findF m kind).2) := by
  have key : ∀ (n : Nat) (m : List Tg), m.length = n → ∀ (s : ByteArray × Nat), (s.2 = 0 → s.1 = ⟨#[]⟩) → m.foldl (findOn kind) s = (if s.2 = 0 then (findF m kind).1 else s.1, s.2 + (findF m kind).2) := by
    intro n
    induction n with
    | zero =>
      intro m hm s hs
      obtain rfl := List.eq_nil_of_length_eq_zero hm
      by_cases h : s.2 = 0
      · rw [if_pos h]; simp [findF]; rw [← hs h]
      · rw [if_neg h]; simp [findF]
    | succ n ih =>
      intro m hm s hs
      obtain ⟨m', t, rfl⟩ : ∃ m' t, m = m' ++ [t] := ⟨m.dropLast, m.getLast (by intro e; rw [e] at hm; simp at hm), (List.dropLast_concat_getLast _).symm⟩
      rw [List.foldl_append, ih m' (by simpa using hm) s hs, findF_snoc]
      simp only [List.foldl_cons, List.foldl_nil]
      unfold findOn
      by_cases ht : t.type = kind
      · rw [if_pos ht, if_pos ht]
        by_cases h : s.2 = 0
        · rw [if_pos h, h]
          simp
        · rw [if_neg h]
          simp [h]
          omega
      · rw [if_neg ht, if_neg ht]
  unfold findF
  rw [List.foldl_append]
  exact key _ m rfl _ (fun h => findF_none h)

/-! Tags that are alike. -/
def sameT (a b : Tg) : Bool := (a.type == b.type) && (a.value.data.toList == b.value.data.toList)
def sameF : List Tg → List Tg → Bool
  | [], [] => true
  | a :: l, b :: m => sameT a b && sameF l m
  | _, _ => false
theorem sameT_iff {a b : Tg} : sameT a b = true ↔ a = b := by
  constructor
  · intro h
    simp only [sameT, Bool.and_eq_true, beq_iff_eq] at h
    obtain ⟨h1, h2⟩ := h
    cases a
    cases b
    simp only at h1 h2
    rw [h1, bytes_ext h2]
  · rintro rfl
    simp [sameT]
theorem sameF_iff {a b : List Tg} : sameF a b = true ↔ a = b := by
  induction a generalizing b with
  | nil => cases b <;> simp [sameF]
  | cons x a ih => cases b <;> simp [sameF, sameT_iff, ih]
theorem sameF_self (a : List Tg) : sameF a a = true := sameF_iff.2 rfl

/-! Packets. -/
def byteB (v : Int) : Bool := decide (0 ≤ v) && decide (v ≤ 255)
def discF (c s : Nat) (l : List UInt8) : List UInt8 := [17] ++ low c 1 ++ low s 2 ++ low l.length 2 ++ l
def putDiscF (c s : Int) (l : List UInt8) : List UInt8 × Int :=
  if (byteB c && wordB s) = true then (if 1494 < l.length then ([], 2) else (discF c.toNat s.toNat l, 0)) else ([], 1)
structure Dc where
  code : Nat
  session : Nat
  data : List UInt8
def getDiscF (l : List UInt8) : Dc × Int :=
  if l.length < 6 then (⟨0, 0, []⟩, 5) else if (l.getD 0 0).toNat ≠ 17 then (⟨0, 0, []⟩, 4) else
    if 1494 < numOf ((l.drop 4).take 2) then (⟨0, 0, []⟩, 2) else if l.length - 6 < numOf ((l.drop 4).take 2) then (⟨0, 0, []⟩, 5) else
      (⟨(l.getD 1 0).toNat, numOf ((l.drop 2).take 2), (l.drop 6).take (numOf ((l.drop 4).take 2))⟩, 0)

theorem discF_length (c s : Nat) (l : List UInt8) : (discF c s l).length = 6 + l.length := by simp [discF, low_length]; omega

theorem low_one (c : Nat) (h : c ≤ 255) : low c 1 = [UInt8.ofNat c] := by
  simp only [low, List.nil_append]
  rw [Nat.mod_eq_of_lt (by omega)]

theorem discF_parts (c s : Nat) (hc : c ≤ 255) (hs : s ≤ 65535) (l r : List UInt8) (hl : l.length ≤ 65535) :
    (discF c s l ++ r).getD 0 0 = 17 ∧ ((discF c s l ++ r).getD 1 0).toNat = c ∧ numOf (((discF c s l ++ r).drop 2).take 2) = s ∧ numOf (((discF c s l ++ r).drop 4).take 2) = l.length ∧ ((discF c s l ++ r).drop 6).take l.length = l := by
  have e : discF c s l ++ r = [17, UInt8.ofNat c] ++ (low s 2 ++ (low l.length 2 ++ (l ++ r))) := by simp [discF, low_one c hc]
  refine ⟨by rw [e]; rfl, ?_, ?_, ?_, ?_⟩
  · rw [e]
    show (UInt8.ofNat c).toNat = c
    simp
    omega
  · rw [e, drop_left (n := 2) (a := [17, UInt8.ofNat c]) rfl, take_left (low_length _ _), numOf_low2 _ hs]
  · rw [e, show (4 : Nat) = 2 + 2 from rfl, ← List.drop_drop, drop_left (n := 2) (a := [17, UInt8.ofNat c]) rfl, drop_left (low_length _ _), take_left (low_length _ _), numOf_low2 _ hl]
  · rw [e, show (6 : Nat) = 2 + 2 + 2 from rfl, ← List.drop_drop, ← List.drop_drop, drop_left (n := 2) (a := [17, UInt8.ofNat c]) rfl, drop_left (low_length _ _), drop_left (low_length _ _), take_left rfl]

/-- A packet that was put is got. -/
theorem getDisc_put (c s : Nat) (hc : c ≤ 255) (hs : s ≤ 65535) (l r : List UInt8) (hl : l.length ≤ 1494) : getDiscF (discF c s l ++ r) = (⟨c, s, l⟩, 0) := by
  obtain ⟨p0, p1, p2, p3, p4⟩ := discF_parts c s hc hs l r (by omega)
  have hlen : (discF c s l ++ r).length = 6 + l.length + r.length := by rw [List.length_append, discF_length]
  unfold getDiscF
  rw [if_neg (by omega), p0, if_neg (by decide), p3, if_neg (by omega), if_neg (by omega), p1, p2, p4]

/-- A packet that is cut is short. -/
theorem getDisc_cut (c s : Nat) (hc : c ≤ 255) (hs : s ≤ 65535) (l : List UInt8) (hl : l.length ≤ 1494) (n : Nat) (hn : n < 6 + l.length) : (getDiscF ((discF c s l).take n)).2 = 5 := by
  obtain ⟨p0, p1, p2, p3, p4⟩ := discF_parts c s hc hs l [] (by omega)
  rw [List.append_nil] at p0 p3
  have hlen : ((discF c s l).take n).length = n := by rw [List.length_take, discF_length]; omega
  unfold getDiscF
  rw [hlen]
  by_cases h6 : n < 6
  · rw [if_pos h6]
  · have q0 : ((discF c s l).take n).getD 0 0 = 17 := by
      rw [List.getD_eq_getElem?_getD, List.getElem?_take_of_lt (by omega), ← List.getD_eq_getElem?_getD, p0]
    have q3 : numOf ((((discF c s l).take n).drop 4).take 2) = l.length := by
      rw [List.drop_take, List.take_take, Nat.min_eq_left (by omega), p3]
    rw [if_neg h6, q0, if_neg (by decide), q3, if_neg (by omega), if_pos (by omega)]

end Go.Proofs.YtgaamehjdoakhaaDoor

/- Small runs of strings, and rows of bytes of a call's own, at this seat. -/
namespace Go.Proofs.YtgaamehjdoakhaaDoor
open Go.RowKit

theorem info5 : (Tryd.prog.info? 5).map (fun i => (i.zero, i.size, i.bytes)) = some (some (.int .u8 0), 1, 1) := by kernel_rfl
theorem infoTag : (Tryd.prog.info? 53).map (fun i => (i.zero, i.size, i.bytes)) = some (some (.agg #[.int .i64 0, .string ⟨#[]⟩]), 2, 24) := by kernel_rfl

theorem ret_int {k : IntKind} {a b : Int} (h : a = b) : Ending.returned (.int k a) = .returned (.int k b) := by rw [h]

theorem addr_add (g i : Nat) : (⟨g, 0, none⟩ : Addr).add i = ⟨g, i, none⟩ := by
  unfold Addr.add
  split
  · simp_all
  · simp
theorem add_none (g o n : Nat) : (⟨g, o, none⟩ : Addr).add n = ⟨g, o + n, none⟩ := by unfold Addr.add; split <;> simp_all

theorem index_at (s : ByteArray) (k : Nat) (h : k < s.size) (i : Int) (hi : i = (k : Int)) (W : World) :
    (Instr.index 9 (.string s) (.int .i64 i)).run Tryd.prog W = .ok (.int .u8 ((s.data.toList.getD k 0).toNat : Int)) W := by
  subst hi
  rw [run_index_string W 9 s .i64 (k : Int) Tryd.underlying9, dif_pos ⟨by omega, by omega⟩]
  have hg : s.data.toList.getD k 0 = s[k] := by
    rw [List.getD_eq_getElem?_getD, List.getElem?_eq_getElem (by simpa using h)]
    rfl
  rw [hg]
  rfl
theorem first_at (s : ByteArray) (k : Nat) (h : k ≤ s.size) (i : Int) (hi : i = (k : Int)) (W : World) :
    (Instr.slice 9 (.string s) none (some (.int .i64 i)) none).run Tryd.prog W = .ok (.string (s.extract 0 k)) W := by
  subst hi
  rw [run_slice_string_h W 9 s Tryd.underlying9 .i64 (k : Int) (by omega) (by omega)]
  rfl
theorem mid_at (s : ByteArray) (k m : Nat) (h : k ≤ m) (h2 : m ≤ s.size) (i j : Int) (hi : i = (k : Int)) (hj : j = (m : Int)) (W : World) :
    (Instr.slice 9 (.string s) (some (.int .i64 i)) (some (.int .i64 j)) none).run Tryd.prog W = .ok (.string (s.extract k m)) W := by
  subst hi hj
  rw [run_slice_string W 9 s .i64 .i64 (k : Int) (m : Int) Tryd.underlying9 (by omega) (by omega) (by omega)]
  rfl
theorem last_at (s : ByteArray) (k : Nat) (h : k ≤ s.size) (i : Int) (hi : i = (k : Int)) (W : World) :
    (Instr.slice 9 (.string s) (some (.int .i64 i)) none none).run Tryd.prog W = .ok (.string (s.extract k s.size)) W := by
  subst hi
  rw [run_slice_string_l W 9 s Tryd.underlying9 .i64 (k : Int) (by omega) (by omega)]
  rfl

theorem cells_two_new (w : World) (x y : Value) (t : TypeId) : ∀ (j : Nat) (u : Value), [x, y][j]? = some u → (w.alloc (.cells #[x, y] t)).cell? ((⟨w.heap.size, 0, none⟩ : Addr).add j) = some u := by
  intro j u h
  rw [addr_add, World.cell?_alloc_new]
  simpa using h

theorem slice_of {w : World} {base n : Nat} {e : TypeId} {sz : Nat} {v : Value} {xs : List Value} (h : w.ownsRow base e sz v n xs) : ∃ p cap, v = .slice p n cap := by
  rcases h.2 with ⟨rfl, rfl⟩ | ⟨g, cap, cur, rfl, _⟩
  · exact ⟨none, 0, rfl⟩
  · exact ⟨_, cap, rfl⟩

/-- 'string(b)' where the call itself owns b's bytes. -/
theorem conv_own {P : Program} {w : World} {base n : Nat} {e : TypeId} {v : Value} {l : List UInt8} (hown : w.ownsRow base e 1 v n (Lib.byteCells l)) (src dst : TypeId)
    (hs : P.underlying src = some (.slice e)) (he : P.underlying e = some (.int .u8)) (hd : P.underlying dst = some .string) :
    (convert src dst v).run P w = .ok (.string ⟨l.toArray⟩) w := by
  have hl : l.length = n := by have := hown.1; rw [Lib.byteCells_length] at this; omega
  rcases hown.2 with ⟨rfl, rfl⟩ | ⟨g, cap, cur, rfl, hg, hh, hn, hm, hc, ht⟩
  · have : l = [] := List.eq_nil_of_length_eq_zero hl
    subst this
    exact run_convert_bytes_nil w src e hs he 0 0 dst hd
  · have hb := run_convert_bytes_arg (P := P) w src e hs he g 0 n cap (l.map fun b => (b.toNat : Int)) (by simp [hl]) (fun i hi => by
      have hcell := hown.cells (g := g) rfl i (.int .u8 ((l[i]'(by omega)).toNat : Int)) (by simp [Lib.byteCells, List.getElem?_eq_getElem (show i < l.length by omega)])
      rw [addr_add] at hcell
      rw [Nat.zero_add, hcell]
      simp [List.getElem?_eq_getElem (show i < l.length by omega)]) dst hd
    rw [hb]
    congr 2
    apply ByteArray.ext
    apply Array.toList_inj.1
    rw [strOfNums_data, List.map_map]
    refine (List.map_congr_left (g := id) ?_).trans (List.map_id l)
    intro x _
    simp

theorem put_conv {w : World} {base n : Nat} {v : Value} {l : List UInt8} (hown : w.ownsRow base 5 1 v n (Lib.byteCells l)) :
    (convert 56 9 v).run Tryd.prog w = .ok (.string ⟨l.toArray⟩) w :=
  conv_own hown _ _ Tryd.underlying56 Tryd.underlying5 Tryd.underlying9

theorem append_str {base n : Nat} {w w1 : World} {u v' : Value} {bs : List UInt8} {s : ByteArray} (hb : base ≤ w.heap.size) (hown : w.ownsRow base 5 1 u n (Lib.byteCells bs))
    (hown' : w1.ownsRow base 5 1 v' (n + s.size) (Lib.byteCells bs ++ Lib.strCells s)) (hg : w.grownBy w1 u.ownBlock) :
    w1.ownsRow base 5 1 v' (n + s.size) (Lib.byteCells (bs ++ s.data.toList)) ∧ Below base w w1 := by
  refine ⟨?_, (Below.refl base w).grown hg hb (fun g hgk => (hown.lt g hgk).1)⟩
  rw [Lib.byteCells_append]
  exact hown'

/-- Two bytes are laid behind. -/
theorem append_two {base n : Nat} {w w1 : World} {u v' : Value} {bs : List UInt8} {x y : Nat} (hx : x < 256) (hy : y < 256) (hb : base ≤ w.heap.size) (hown : w.ownsRow base 5 1 u n (Lib.byteCells bs))
    (hown' : w1.ownsRow base 5 1 v' (n + 2) (Lib.byteCells bs ++ [.int .u8 (x : Int), .int .u8 (y : Int)])) (hg : (w.alloc (.cells #[.int .u8 (x : Int), .int .u8 (y : Int)] 5)).grownBy w1 u.ownBlock) :
    w1.ownsRow base 5 1 v' (n + 2) (Lib.byteCells (bs ++ [UInt8.ofNat x, UInt8.ofNat y])) ∧ Below base w w1 := by
  refine ⟨?_, ((Below.refl base w).alloc hb _).grown hg (by simp; omega) (fun g hgk => (hown.lt g hgk).1)⟩
  rw [Lib.byteCells_append]
  have e : Lib.byteCells [UInt8.ofNat x, UInt8.ofNat y] = [Value.int .u8 (x : Int), .int .u8 (y : Int)] := by simp [Lib.byteCells, Nat.mod_eq_of_lt hx, Nat.mod_eq_of_lt hy]
  rw [e]
  exact hown'

theorem low_two (a : Nat) : low a 2 = [UInt8.ofNat (a / 256 % 256), UInt8.ofNat (a % 256)] := by simp [low]

theorem num_two {l : List UInt8} (h : 2 ≤ l.length) : numOf (l.take 2) = (l.getD 0 0).toNat * 256 + (l.getD 1 0).toNat := by
  match l, h with
  | a :: b :: r, _ => simp [numOf]

end Go.Proofs.YtgaamehjdoakhaaDoor

/- The contracts of tag.putWord and tag.getWord. -/
namespace Go.Proofs.YtgaamehjdoakhaaDoor
open Go.RowKit

set_option maxHeartbeats 400000 in
set_option maxRecDepth 100000 in
theorem putWord_any (base : Nat) (v : Value) (n : Nat) (bs : List UInt8) (a : Nat) (ha : a ≤ 65535) (w : World) (hb : base ≤ w.heap.size) (hown : w.ownsRow base 5 1 v n (Lib.byteCells bs)) (hn : n ≤ 1099511627776) :
    Calls Tryd.prog 43 #[v, .int .i64 (a : Int)] w fun e w' => ∃ v', e = .returned v' ∧ w'.ownsRow base 5 1 v' (n + 2) (Lib.byteCells (bs ++ low a 2)) ∧ Below base w w' ∧ Kept (fun i => v.ownBlock = some i) w w' := by
  obtain ⟨i0, hi, hz0, hz1, hz2⟩ := info_parts info5
  have E1 : Hid ((a : Int) / 256 = ((a / 256 : Nat) : Int)) := by show _ = _; omega
  have E2 : Hid ((a : Int) % 256 = ((a % 256 : Nat) : Int)) := by show _ = _; omega
  rw [low_two, Nat.mod_eq_of_lt (show a / 256 < 256 by omega)]
  go_enter Tryd.func43, Tryd.ntmps43
  go_wp2_with (at_builtin; refine wpList_append_own _ rfl _ _ 56 rfl base 5 i0 (.int .u8 0) 1 1 Tryd.underlying56 hi hz0 hz1 hz2 rfl (by decide) _ _ _ rfl (hown.alloc _) ⟨w.heap.size, 0, none⟩ 2 2 [.int .u8 ((a : Int) / 256), .int .u8 ((a : Int) % 256)] rfl rfl ?c1 ?c2 ?c3 ?c4 ?c5 ?_)
  case c1 => exact cells_two_new _ _ _ _
  case c2 => intro u hu; simp at hu; rcases hu with rfl | rfl <;> rfl
  case c3 => unfold maxLen; omega
  case c4 => omega
  case c5 => simp; omega
  intro v' w1 hown' hgrow _
  have e1 := E1.out
  have e2 := E2.out
  clear E1 E2
  rw [e1, e2] at hown'
  have R := append_two (by omega) (by omega) hb hown hown' (by rw [← e1, ← e2]; exact hgrow)
  have K : Kept (fun i => v.ownBlock = some i) w w1 := ((Kept.refl _ w).alloc _).grown hgrow (fun j hj => Or.inr hj)
  clear e1 e2 hown' hgrow hown
  go_wp2
  go_ret
  exact ⟨_, rfl, R.1, R.2, K⟩

set_option maxHeartbeats 400000 in
set_option maxRecDepth 100000 in
theorem getWord_any (s : ByteArray) (hs : s.size ≤ maxLen) (h : 2 ≤ s.size) (w : World) :
    Calls Tryd.prog 58 #[.string s] w fun e w' => e = .returned (.int .i64 (numOf (s.data.toList.take 2) : Int)) ∧ Kept (fun _ => False) w w' := by
  unfold maxLen at hs
  rw [num_two (by rw [← Lib.size_eq]; exact h)]
  have b0 := (s.data.toList.getD 0 0).toNat_lt
  have b1 := (s.data.toList.getD 1 0).toNat_lt
  have x0 := index_at s 0 (by omega) 0 rfl
  have x1 := index_at s 1 (by omega) 1 rfl
  generalize (s.data.toList.getD 0 0).toNat = A at b0 x0
  generalize (s.data.toList.getD 1 0).toNat = B at b1 x1
  have hor := i64_or_byte A B (by omega) (by omega)
  go_enter Tryd.func58, Tryd.ntmps58
  go_wp2
  go_region
  go_wp2
  go_ret
  exact ⟨ret_int (by omega), (Kept.refl _ _).drew⟩
end Go.Proofs.YtgaamehjdoakhaaDoor

/- The contract of tag.Put: a packet as bytes, or the error; for every packet whose data has at most 2^47 bytes. -/
namespace Go.Proofs.YtgaamehjdoakhaaDoor
open Go.RowKit

/-- The three cells of a boxed packet. -/
def Box3 (w : World) (b : Nat) (x y z : Value) : Prop := w.cell? ⟨b, 0, none⟩ = some x ∧ w.cell? ⟨b, 1, none⟩ = some y ∧ w.cell? ⟨b, 2, none⟩ = some z
theorem box3_new (w : World) (t : TypeId) (x y z : Value) : Box3 (w.alloc (.cells #[x, y, z] t)) w.heap.size x y z := by
  refine ⟨?_, ?_, ?_⟩ <;> rw [World.cell?_alloc_new] <;> rfl
theorem Box3.carry {w w1 : World} {b B : Nat} {x y z : Value} (h : Box3 w b x y z) (hb : Below B w w1) (hlt : b < B) : Box3 w1 b x y z :=
  ⟨(hb.cell (p := ⟨b, 0, none⟩) hlt).trans h.1, (hb.cell (p := ⟨b, 1, none⟩) hlt).trans h.2.1, (hb.cell (p := ⟨b, 2, none⟩) hlt).trans h.2.2⟩

set_option maxHeartbeats 1000000 in
set_option maxRecDepth 100000 in
theorem putDisc_yes (c t : Nat) (hc : c ≤ 255) (ht : t ≤ 65535) (s : ByteArray) (hs : s.size ≤ 1494) (w : World) :
    Calls Tryd.prog 20 #[.agg #[.int .i64 (c : Int), .int .i64 (t : Int), .string s]] w fun e w' => e = .returned (.tuple #[.string ⟨(discF c t s.data.toList).toArray⟩, .int .i64 0]) ∧ Below w.heap.size w w' := by
  obtain ⟨i0, hi, hz0, hz1, hz2⟩ := info_parts info5
  have hwc : (c : Int) % 256 = (c : Int) := by omega
  have B0 := box3_new w 67 (.int .i64 (c : Int)) (.int .i64 (t : Int)) (.string s)
  obtain ⟨b00, b01, b02⟩ := id B0
  go_enter Tryd.func20, Tryd.ntmps20
  go_wp2_with (at_make; refine wpList_make_own _ rfl _ _ 56 rfl (w.heap.size + 1) 5 i0 (.int .u8 0) 1 Tryd.underlying56 hi hz0 hz1 .i64 .i64 _ (6 + s.size) rfl rfl ?m1 ?m2 ?m3 ?m4 ?_)
  case m1 => omega
  case m2 => rw [hz2]; omega
  case m3 => unfold maxLen; omega
  case m4 => simp
  intro w3 hown3 hg3
  have hb3 : Below (w.heap.size + 1) (w.alloc (.cells #[.int .i64 (c : Int), .int .i64 (t : Int), .string s] 67)) w3 := (Below.refl _ _).grown hg3 (by simp) (fun k hk => by cases hk)
  have B3 := B0.carry hb3 (by omega)
  have s3 : w.heap.size + 1 ≤ w3.heap.size := by have := hb3.size; simp at this; exact this
  have HB3 := hid ((show Below w.heap.size w (w.alloc (.cells #[.int .i64 (c : Int), .int .i64 (t : Int), .string s] 67)) from (Below.refl _ _).alloc (Nat.le_refl _) _).trans (hb3.mono (by omega)))
  obtain ⟨b30, b31, b32⟩ := id B3
  clear hg3 hb3 b00 b01 b02 B0
  go_wp2_with (at_builtin; refine wpList_append_own _ rfl _ _ 56 rfl (w.heap.size + 1) 5 i0 (.int .u8 0) 1 1 Tryd.underlying56 hi hz0 hz1 hz2 rfl (by decide) _ _ _ rfl (hown3.alloc _) ⟨w3.heap.size, 0, none⟩ 2 2 [.int .u8 17, .int .u8 (c : Int)] rfl rfl ?c1 ?c2 ?c3 ?c4 ?c5 ?_)
  case c1 => exact cells_two_new _ _ _ _
  case c2 => intro u hu; simp at hu; rcases hu with rfl | rfl <;> rfl
  case c3 => unfold maxLen; omega
  case c4 => omega
  case c5 => simp; omega
  intro v4 w4 hown4' hg4 _
  obtain ⟨hown4, hb4⟩ := append_two (x := 17) (y := c) (by omega) (by omega) s3 (bs := []) hown3 hown4' hg4
  have B4 := B3.carry hb4 (by omega)
  have s4 : w.heap.size + 1 ≤ w4.heap.size := Nat.le_trans s3 hb4.size
  have HB4 := hid (HB3.out.trans (hb4.mono (by omega)))
  obtain ⟨b40, b41, b42⟩ := id B4
  clear hown3 hb4 b30 b31 b32 B3 HB3 hown4' hg4
  go_wp2_with fail
  refine (putWord_any (w.heap.size + 1) _ (0 + 2) _ t (by omega) _ s4 hown4 (by omega)).mono ?_
  rintro e w5 ⟨v5, rfl, hown5, hb5, _⟩
  have B5 := B4.carry hb5 (by omega)
  have s5 : w.heap.size + 1 ≤ w5.heap.size := Nat.le_trans s4 hb5.size
  have HB5 := hid (HB4.out.trans (hb5.mono (by omega)))
  obtain ⟨b50, b51, b52⟩ := id B5
  clear hown4 hb5 b40 b41 b42 B4 HB4
  go_wp2_with fail
  refine (putWord_any (w.heap.size + 1) _ (0 + 2 + 2) _ s.size (by omega) _ s5 hown5 (by omega)).mono ?_
  rintro e w6 ⟨v6, rfl, hown6, hb6, _⟩
  have B6 := B5.carry hb6 (by omega)
  have s6 : w.heap.size + 1 ≤ w6.heap.size := Nat.le_trans s5 hb6.size
  have HB6 := hid (HB5.out.trans (hb6.mono (by omega)))
  obtain ⟨b60, b61, b62⟩ := id B6
  clear hown5 hb6 b50 b51 b52 B5 HB5
  go_wp2_with (at_builtin; refine Lib.wpList_append_own_string _ rfl _ _ 56 9 rfl (w.heap.size + 1) 5 i0 Tryd.underlying56 Tryd.underlying9 hi hz0 hz1 hz2 _ _ _ rfl hown6 s rfl ?c1 ?c2 ?c3 ?_)
  case c1 => unfold maxLen; omega
  case c2 => omega
  case c3 => exact s6
  intro v7 w7 hown7 hg7 _
  have R := append_str s6 hown6 hown7 hg7
  have HB7 := hid (HB6.out.trans (R.2.mono (by omega)))
  have hcv := put_conv R.1
  have ez : (⟨([] ++ [UInt8.ofNat 17, UInt8.ofNat c] ++ low t 2 ++ low s.size 2 ++ s.data.toList).toArray⟩ : ByteArray) = ⟨(discF c t s.data.toList).toArray⟩ := by
    unfold discF
    rw [low_one c hc, ← Lib.size_eq]
    rfl
  rw [ez] at hcv
  clear hown6 hown7 hg7 R ez b60 b61 b62 B6 HB6
  go_wp2
  go_ret2
  exact ⟨rfl, HB7.out⟩

set_option maxHeartbeats 400000 in
set_option maxRecDepth 100000 in
theorem putDisc_long (c t : Nat) (hc : c ≤ 255) (ht : t ≤ 65535) (s : ByteArray) (hs : s.size ≤ 140737488351232) (hl : 1494 < s.size) (w : World) :
    Calls Tryd.prog 20 #[.agg #[.int .i64 (c : Int), .int .i64 (t : Int), .string s]] w fun e w' => e = .returned (.tuple #[.string ⟨#[]⟩, .int .i64 2]) ∧ Below w.heap.size w w' := by
  obtain ⟨b00, b01, b02⟩ := box3_new w 67 (.int .i64 (c : Int)) (.int .i64 (t : Int)) (.string s)
  go_enter Tryd.func20, Tryd.ntmps20
  go_wp2
  go_ret2
  exact ⟨rfl, (Below.refl _ _).alloc (Nat.le_refl _) _⟩

set_option maxHeartbeats 400000 in
set_option maxRecDepth 100000 in
theorem putDisc_no (c t : Int) (s : ByteArray) (h : (byteB c && wordB t) = false) (w : World) :
    Calls Tryd.prog 20 #[.agg #[.int .i64 c, .int .i64 t, .string s]] w fun e w' => e = .returned (.tuple #[.string ⟨#[]⟩, .int .i64 1]) ∧ Below w.heap.size w w' := by
  obtain ⟨b00, b01, b02⟩ := box3_new w 67 (.int .i64 c) (.int .i64 t) (.string s)
  have hr : c < 0 ∨ (0 ≤ c ∧ 255 < c) ∨ ((0 ≤ c ∧ c ≤ 255) ∧ t < 0) ∨ ((0 ≤ c ∧ c ≤ 255) ∧ 0 ≤ t ∧ 65535 < t) := by
    have h2 : ¬ ((0 ≤ c ∧ c ≤ 255) ∧ (0 ≤ t ∧ t ≤ 65535)) := by
      intro h3
      simp [byteB, wordB] at h
      omega
    omega
  clear h
  rcases hr with h | ⟨h, h'⟩ | ⟨⟨h, h'⟩, h''⟩ | ⟨⟨h, h'⟩, h'', h3⟩
  all_goals
    go_enter Tryd.func20, Tryd.ntmps20
    go_wp2
    go_ret2
    exact ⟨rfl, (Below.refl _ _).alloc (Nat.le_refl _) _⟩

/-- 'Put(d)'. -/
theorem putDisc_any (c t : Int) (s : ByteArray) (hs : s.size ≤ 140737488351232) (w : World) :
    Calls Tryd.prog 20 #[.agg #[.int .i64 c, .int .i64 t, .string s]] w fun e w' => e = .returned (.tuple #[.string ⟨(putDiscF c t s.data.toList).1.toArray⟩, .int .i64 (putDiscF c t s.data.toList).2]) ∧ Below w.heap.size w w' := by
  cases h : (byteB c && wordB t) with
  | false =>
    have e : putDiscF c t s.data.toList = ([], 1) := by unfold putDiscF; rw [h]; rfl
    rw [e]
    exact putDisc_no c t s h w
  | true =>
    obtain ⟨h1, h2⟩ : byteB c = true ∧ wordB t = true := by simpa using h
    obtain ⟨a, rfl, ha⟩ : ∃ a : Nat, c = (a : Int) ∧ a ≤ 255 := by
      have hr : 0 ≤ c ∧ c ≤ 255 := by simpa [byteB] using h1
      exact ⟨c.toNat, by omega, by omega⟩
    obtain ⟨b, rfl, hb⟩ : ∃ b : Nat, t = (b : Int) ∧ b ≤ 65535 := by
      have hr : 0 ≤ t ∧ t ≤ 65535 := by simpa [wordB] using h2
      exact ⟨t.toNat, by omega, by omega⟩
    by_cases hl : 1494 < s.size
    · have e : putDiscF (a : Int) (b : Int) s.data.toList = ([], 2) := by unfold putDiscF; rw [h, if_pos rfl, if_pos (by rw [← Lib.size_eq]; exact hl)]
      rw [e]
      exact putDisc_long a b ha hb s hs hl w
    · have e : putDiscF (a : Int) (b : Int) s.data.toList = (discF a b s.data.toList, 0) := by unfold putDiscF; rw [h, if_pos rfl, if_neg (by rw [← Lib.size_eq]; exact hl), Int.toNat_natCast, Int.toNat_natCast]
      rw [e]
      exact putDisc_yes a b ha hb s (by omega) w
end Go.Proofs.YtgaamehjdoakhaaDoor

/- The contract of tag.Get: the packet of some bytes, or the error; for every string of at most 2^47 bytes. -/
namespace Go.Proofs.YtgaamehjdoakhaaDoor
open Go.RowKit

theorem kept_of {w w' : World} (h : Below w.heap.size w w') : Kept (fun _ => False) w w' := Kept.of_below h (fun i hi hb => by omega)
theorem below_of {w w' : World} (h : Kept (fun _ => False) w w') : Below w.heap.size w w' := h.below (Nat.le_refl _) (fun _ h => h.elim)

/-- A contract of what was there at w0, behind whatever has come. -/
theorem since {f : FuncId} {args : Array Value} {r : Ending} (h : ∀ w, Calls Tryd.prog f args w fun e w' => e = r ∧ Below w.heap.size w w') (w0 : World) :
    ∀ W, Kept (fun _ => False) w0 W → Calls Tryd.prog f args W fun e w' => e = r ∧ Kept (fun _ => False) w0 w' := fun W hW =>
  (h W).mono fun _ _ ⟨h1, h2⟩ => ⟨h1, hW.trans (kept_of h2)⟩
theorem sinceK {f : FuncId} {args : Array Value} {r : Ending} (h : ∀ w, Calls Tryd.prog f args w fun e w' => e = r ∧ Kept (fun _ => False) w w') (w0 : World) :
    ∀ W, Kept (fun _ => False) w0 W → Calls Tryd.prog f args W fun e w' => e = r ∧ Kept (fun _ => False) w0 w' := fun W hW =>
  (h W).mono fun _ _ ⟨h1, h2⟩ => ⟨h1, hW.trans h2⟩

def discV (d : Dc) : Value := .agg #[.int .i64 (d.code : Int), .int .i64 (d.session : Int), .string ⟨d.data.toArray⟩]

/-- The three cells of a result of the call's own, none of them frozen. -/
def Own3 (w : World) (b : Nat) (x y z : Value) : Prop := Box3 w b x y z ∧ ∀ j, w.frozen? ⟨b, j, none⟩ = false
theorem own3_new (w : World) (t : TypeId) (x y z : Value) : Own3 (w.alloc (.cells #[x, y, z] t)) w.heap.size x y z :=
  ⟨box3_new w t x y z, fun j => frozen_of_row _ w.heap.size j #[x, y, z] t (heap_alloc_new w _)⟩
theorem Own3.kept {w w1 : World} {b : Nat} {x y z : Value} (h : Own3 w b x y z) (hk : Kept (fun _ => False) w w1) : Own3 w1 b x y z := by
  have hlt : b < w.heap.size := lt_of_cell h.1.1
  exact ⟨⟨(hk.cell (p := ⟨b, 0, none⟩) hlt id).trans h.1.1, (hk.cell (p := ⟨b, 1, none⟩) hlt id).trans h.1.2.1, (hk.cell (p := ⟨b, 2, none⟩) hlt id).trans h.1.2.2⟩, fun j => (hk.frozen (p := ⟨b, j, none⟩) hlt id).trans (h.2 j)⟩

theorem take_num (s : ByteArray) (k : Nat) : numOf ((s.extract k (k + 2)).data.toList.take 2) = numOf ((s.data.toList.drop k).take 2) := by
  rw [Lib.extract_data, List.take_take, show k + 2 - k = 2 by omega, Nat.min_self]

set_option maxHeartbeats 4000000 in
set_option maxRecDepth 100000 in
theorem getDisc_yes (s : ByteArray) (hsz : s.size ≤ 140737488351232) (h6 : 6 ≤ s.size) (B n m : Nat) (h0 : s.data.toList.getD 0 0 = 17) (h1 : (s.data.toList.getD 1 0).toNat = B) (hB : B < 256)
    (hn : numOf ((s.data.toList.drop 4).take 2) = n) (hm : numOf ((s.data.toList.drop 2).take 2) = m) (hl : n ≤ 1494) (hs : 6 + n ≤ s.size) (w : World) :
    Calls Tryd.prog 44 #[.string s] w fun e w' => e = .returned (.tuple #[.agg #[.int .i64 (B : Int), .int .i64 (m : Int), .string (s.extract 6 (6 + n))], .int .i64 0]) ∧ Kept (fun _ => False) w w' := by
  have x0 := index_at s 0 (by omega) 0 rfl
  have x1 := index_at s 1 (by omega) 1 rfl
  rw [h0] at x0
  rw [h1] at x1
  have i4 := mid_at s 4 6 (by omega) (by omega) 4 6 rfl rfl
  have i2 := mid_at s 2 4 (by omega) (by omega) 2 4 rfl rfl
  have i6 := mid_at s 6 (6 + n) (by omega) (by omega) 6 (6 + (n : Int)) rfl (by omega)
  have hwr : IntKind.i64.wrap (6 + (n : Int)) = 6 + (n : Int) := by rw [IntKind.wrap_i64]; omega
  have HG4 := hid (getWord_any (s.extract 4 6) (by rw [ByteArray.size_extract]; unfold maxLen; omega) (by rw [ByteArray.size_extract]; omega))
  have HG2 := hid (fun w0 => sinceK (getWord_any (s.extract 2 4) (by rw [ByteArray.size_extract]; unfold maxLen; omega) (by rw [ByteArray.size_extract]; omega)) w0)
  rw [take_num s 4, hn] at HG4
  rw [take_num s 2, hm] at HG2
  have HC := hid (fun w0 => since (fun w => clone_any (s.extract 6 (6 + n)) w (by rw [ByteArray.size_extract]; omega)) w0)
  have hsn : (n : Int) ≤ (s.size : Int) - 6 := by omega
  have hwB : IntKind.i64.wrap (B : Int) = (B : Int) := by rw [IntKind.wrap_i64]; omega
  have hb4 : ¬ (1494 : Int) < (n : Int) := by omega
  clear h0 h1 hn hm
  go_enter Tryd.func44, Tryd.ntmps44
  go_wp2_with fail
  refine (HG4.out _).mono ?_
  rintro e1 w1 ⟨rfl, hk1⟩
  have O1 := hid ((own3_new w 67 (.int .i64 0) (.int .i64 0) (.string ⟨#[]⟩)).kept hk1)
  have K1 := hid (((Kept.refl (fun _ => False) w).alloc (.cells #[.int .i64 0, .int .i64 0, .string ⟨#[]⟩] 67)).trans hk1)
  have D1 := (Kept.refl (fun _ => False) w1).drew
  clear hk1
  go_wp2_with fail
  go_region_with (first
    | (go_at_call 58; refine (HG2.out w1 _ (by assumption)).mono ?_; rintro e3 w3 ⟨rfl, hk3⟩; obtain ⟨⟨c0, c1, c2⟩, f0⟩ := O1.out.kept hk3)
    | (go_at_call 59; refine (HC.out w1 _ (by assumption)).mono ?_; rintro e5 w5 ⟨rfl, hk5⟩; obtain ⟨⟨c0, c1, c2⟩, f0⟩ := O1.out.kept hk5))
  all_goals
    go_wp2
    refine bodyPost_ret (v := .tuple #[.agg #[.int .i64 (B : Int), .int .i64 (m : Int), .string (s.extract 6 (6 + n))], .int .i64 0]) (by simp [results, Tryd.results44, go_sem, c0, c1, c2]) rfl ⟨rfl, ?_⟩
    first
      | exact (((K1.out.trans hk5).setCell (Or.inl (Nat.le_refl _)) _).setCell (Or.inl (Nat.le_refl _)) _).setCell (Or.inl (Nat.le_refl _)) _
      | exact (((K1.out.trans hk3).setCell (Or.inl (Nat.le_refl _)) _).setCell (Or.inl (Nat.le_refl _)) _).setCell (Or.inl (Nat.le_refl _)) _

set_option maxHeartbeats 1000000 in
set_option maxRecDepth 100000 in
theorem getDisc_no1 (s : ByteArray) (e : Int) (hsz : s.size ≤ 140737488351232) (h : (s.size < 6 ∧ e = 5) ∨ (6 ≤ s.size ∧ ((s.data.toList.getD 0 0).toNat ≠ 17) ∧ e = 4)) (w : World) :
    Calls Tryd.prog 44 #[.string s] w fun r w' => r = .returned (.tuple #[.agg #[.int .i64 0, .int .i64 0, .string ⟨#[]⟩], .int .i64 e]) ∧ Kept (fun _ => False) w w' := by
  obtain ⟨⟨c0, c1, c2⟩, f0⟩ := own3_new w 67 (.int .i64 0) (.int .i64 0) (.string ⟨#[]⟩)
  rcases h with ⟨h, rfl⟩ | ⟨h6, h0, rfl⟩
  · go_enter Tryd.func44, Tryd.ntmps44
    go_wp2
    exact bodyPost_ret (v := .tuple #[.agg #[.int .i64 0, .int .i64 0, .string ⟨#[]⟩], .int .i64 5]) (by simp [results, Tryd.results44, go_sem, c0, c1, c2]) rfl ⟨rfl, (Kept.refl _ w).alloc _⟩
  · have x0 := index_at s 0 (by omega) 0 rfl
    have hne : (((s.data.toList.getD 0 0).toNat : Int) != 17) = true := by
      rw [bne_iff_ne]
      omega
    generalize (s.data.toList.getD 0 0).toNat = A at *
    go_enter Tryd.func44, Tryd.ntmps44
    go_wp2
    exact bodyPost_ret (v := .tuple #[.agg #[.int .i64 0, .int .i64 0, .string ⟨#[]⟩], .int .i64 4]) (by simp [results, Tryd.results44, go_sem, c0, c1, c2]) rfl ⟨rfl, (Kept.refl _ w).alloc _⟩

set_option maxHeartbeats 1000000 in
set_option maxRecDepth 100000 in
theorem getDisc_no2 (s : ByteArray) (e : Int) (n : Nat) (hsz : s.size ≤ 140737488351232) (h6 : 6 ≤ s.size) (h0 : s.data.toList.getD 0 0 = 17) (hn : numOf ((s.data.toList.drop 4).take 2) = n) (hn6 : n < 65536)
    (h : (1494 < n ∧ e = 2) ∨ (n ≤ 1494 ∧ s.size < 6 + n ∧ e = 5)) (w : World) :
    Calls Tryd.prog 44 #[.string s] w fun r w' => r = .returned (.tuple #[.agg #[.int .i64 0, .int .i64 0, .string ⟨#[]⟩], .int .i64 e]) ∧ Kept (fun _ => False) w w' := by
  have x0 := index_at s 0 (by omega) 0 rfl
  rw [h0] at x0
  have i4 := mid_at s 4 6 (by omega) (by omega) 4 6 rfl rfl
  have HG4 := hid (getWord_any (s.extract 4 6) (by rw [ByteArray.size_extract]; unfold maxLen; omega) (by rw [ByteArray.size_extract]; omega))
  rw [take_num s 4, hn] at HG4
  clear h0 hn
  rcases h with ⟨h, rfl⟩ | ⟨h1, h2, rfl⟩
  · have hb4 : (1494 : Int) < (n : Int) := by omega
    clear h
    go_enter Tryd.func44, Tryd.ntmps44
    go_wp2_with fail
    refine (HG4.out _).mono ?_
    rintro e1 w1 ⟨rfl, hk1⟩
    obtain ⟨⟨c0, c1, c2⟩, f0⟩ := (own3_new w 67 (.int .i64 0) (.int .i64 0) (.string ⟨#[]⟩)).kept hk1
    have K1 := hid (((Kept.refl (fun _ => False) w).alloc (.cells #[.int .i64 0, .int .i64 0, .string ⟨#[]⟩] 67)).trans hk1)
    clear hk1
    go_wp2
    exact bodyPost_ret (v := .tuple #[.agg #[.int .i64 0, .int .i64 0, .string ⟨#[]⟩], .int .i64 2]) (by simp [results, Tryd.results44, go_sem, c0, c1, c2]) rfl ⟨rfl, (((K1.out).setCell (Or.inl (Nat.le_refl _)) _).setCell (Or.inl (Nat.le_refl _)) _).setCell (Or.inl (Nat.le_refl _)) _⟩
  · have hb4 : ¬ (1494 : Int) < (n : Int) := by omega
    have hsn : (s.size : Int) - 6 < (n : Int) := by omega
    clear h1 h2
    go_enter Tryd.func44, Tryd.ntmps44
    go_wp2_with fail
    refine (HG4.out _).mono ?_
    rintro e1 w1 ⟨rfl, hk1⟩
    obtain ⟨⟨c0, c1, c2⟩, f0⟩ := (own3_new w 67 (.int .i64 0) (.int .i64 0) (.string ⟨#[]⟩)).kept hk1
    have K1 := hid (((Kept.refl (fun _ => False) w).alloc (.cells #[.int .i64 0, .int .i64 0, .string ⟨#[]⟩] 67)).trans hk1)
    clear hk1
    go_wp2
    exact bodyPost_ret (v := .tuple #[.agg #[.int .i64 0, .int .i64 0, .string ⟨#[]⟩], .int .i64 5]) (by simp [results, Tryd.results44, go_sem, c0, c1, c2]) rfl ⟨rfl, (((K1.out).setCell (Or.inl (Nat.le_refl _)) _).setCell (Or.inl (Nat.le_refl _)) _).setCell (Or.inl (Nat.le_refl _)) _⟩

theorem num2_lt (l : List UInt8) : numOf (l.take 2) < 65536 := by
  have h := numOf_lt (l.take 2)
  have : 256 ^ (l.take 2).length ≤ 256 ^ 2 := Nat.pow_le_pow_right (by decide) (by rw [List.length_take]; omega)
  omega

/-- 'Get(b)'. -/
theorem getDisc_any (s : ByteArray) (hs : s.size ≤ 140737488351232) (w : World) :
    Calls Tryd.prog 44 #[.string s] w fun e w' => e = .returned (.tuple #[discV (getDiscF s.data.toList).1, .int .i64 (getDiscF s.data.toList).2]) ∧ Kept (fun _ => False) w w' := by
  have hl : s.data.toList.length = s.size := (Lib.size_eq s).symm
  by_cases h6 : s.size < 6
  · have e : getDiscF s.data.toList = (⟨0, 0, []⟩, 5) := by unfold getDiscF; rw [if_pos (by omega)]
    rw [e]
    exact getDisc_no1 s 5 hs (Or.inl ⟨h6, rfl⟩) w
  · by_cases h0 : (s.data.toList.getD 0 0).toNat ≠ 17
    · have e : getDiscF s.data.toList = (⟨0, 0, []⟩, 4) := by unfold getDiscF; rw [if_neg (by omega), if_pos h0]
      rw [e]
      exact getDisc_no1 s 4 hs (Or.inr ⟨by omega, h0, rfl⟩) w
    · have h0' : s.data.toList.getD 0 0 = 17 := by
        apply UInt8.toNat_inj.1
        simpa using h0
      have hn6 := num2_lt (s.data.toList.drop 4)
      by_cases h1 : 1494 < numOf ((s.data.toList.drop 4).take 2)
      · have e : getDiscF s.data.toList = (⟨0, 0, []⟩, 2) := by unfold getDiscF; rw [if_neg (by omega), if_neg h0, if_pos h1]
        rw [e]
        exact getDisc_no2 s 2 _ hs (by omega) h0' rfl hn6 (Or.inl ⟨h1, rfl⟩) w
      · by_cases h2 : s.data.toList.length - 6 < numOf ((s.data.toList.drop 4).take 2)
        · have e : getDiscF s.data.toList = (⟨0, 0, []⟩, 5) := by unfold getDiscF; rw [if_neg (by omega), if_neg h0, if_neg h1, if_pos h2]
          rw [e]
          exact getDisc_no2 s 5 _ hs (by omega) h0' rfl hn6 (Or.inr ⟨by omega, by omega, rfl⟩) w
        · have e : getDiscF s.data.toList = (⟨(s.data.toList.getD 1 0).toNat, numOf ((s.data.toList.drop 2).take 2), (s.data.toList.drop 6).take (numOf ((s.data.toList.drop 4).take 2))⟩, 0) := by
            unfold getDiscF; rw [if_neg (by omega), if_neg h0, if_neg h1, if_neg h2]
          rw [e]
          refine (getDisc_yes s hs (by omega) _ _ _ h0' rfl (UInt8.toNat_lt _) rfl rfl (by omega) (by omega) w).mono ?_
          rintro r w' ⟨rfl, hk⟩
          refine ⟨?_, hk⟩
          have hx : s.extract 6 (6 + numOf ((s.data.toList.drop 4).take 2)) = ⟨((s.data.toList.drop 6).take (numOf ((s.data.toList.drop 4).take 2))).toArray⟩ := by
            apply bytes_ext
            rw [Lib.extract_data, Nat.add_sub_cancel_left]
          rw [hx]
          rfl
end Go.Proofs.YtgaamehjdoakhaaDoor

/- Tags as rows of memory: two cells each. Lists that are read, and lists of a call's own. -/
namespace Go.Proofs.YtgaamehjdoakhaaDoor
open Go.RowKit

/-- A list of tags in memory, to be read. -/
def TagsAt (W : World) (v : Value) (l : List Tg) : Prop :=
  (l = [] ∧ ∃ p cap, v = .slice p 0 cap) ∨ ∃ g o cap, v = .slice (some ⟨g, o, none⟩) l.length cap ∧ l.length ≤ cap ∧ cap ≤ maxLen ∧
    ∀ j x, l[j]? = some x → W.cell? ⟨g, o + j * 2, none⟩ = some (.int .i64 x.type) ∧ W.cell? ⟨g, o + j * 2 + 1, none⟩ = some (.string x.value)

theorem TagsAt.slice {W : World} {v : Value} {l : List Tg} (h : TagsAt W v l) : ∃ p cap, v = .slice p l.length cap := by
  rcases h with ⟨rfl, p, cap, rfl⟩ | ⟨g, o, cap, rfl, _⟩
  · exact ⟨p, cap, rfl⟩
  · exact ⟨_, cap, rfl⟩

theorem TagsAt.at {W : World} {p : Option Addr} {n cap : Nat} {l : List Tg} (h : TagsAt W (.slice p n cap) l) {j : Nat} {x : Tg} (hj : l[j]? = some x) :
    ∃ g o, p = some ⟨g, o, none⟩ ∧ n ≤ cap ∧ W.cell? ⟨g, o + j * 2, none⟩ = some (.int .i64 x.type) ∧ W.cell? ⟨g, o + j * 2 + 1, none⟩ = some (.string x.value) := by
  rcases h with ⟨rfl, _⟩ | ⟨g, o, cap', e, hle, _, hc⟩
  · simp at hj
  · simp only [Value.slice.injEq] at e
    obtain ⟨rfl, rfl, rfl⟩ := e
    exact ⟨g, o, rfl, hle, hc j x hj⟩

theorem TagsAt.kept {S : Nat → Prop} {W W' : World} {v : Value} {l : List Tg} (h : TagsAt W v l) (hk : Kept S W W') (hS : ∀ i, i < W.heap.size → S i → v.ownBlock ≠ some i) : TagsAt W' v l := by
  rcases h with ⟨rfl, p, cap, rfl⟩ | ⟨g, o, cap, rfl, h1, h2, hc⟩
  · exact Or.inl ⟨rfl, p, cap, rfl⟩
  · refine Or.inr ⟨g, o, cap, rfl, h1, h2, fun j x hj => ?_⟩
    obtain ⟨c0, c1⟩ := hc j x hj
    have hlt := lt_of_cell c0
    have hn : ¬ S g := fun hs => hS g hlt hs rfl
    exact ⟨(hk.cell hlt hn).trans c0, (hk.cell (p := ⟨g, o + j * 2 + 1, none⟩) hlt hn).trans c1⟩

theorem TagsAt.kept0 {W W' : World} {v : Value} {l : List Tg} (h : TagsAt W v l) (hk : Kept (fun _ => False) W W') : TagsAt W' v l := h.kept hk (fun _ _ h => h.elim)

def tgCells (t : Tg) : List Value := [.int .i64 t.type, .string t.value]
def rowT (l : List Tg) : List Value := l.flatMap tgCells
theorem rowT_append (a b : List Tg) : rowT (a ++ b) = rowT a ++ rowT b := by simp [rowT]
theorem rowT_one (a : Tg) : rowT [a] = [.int .i64 a.type, .string a.value] := by simp [rowT, tgCells]
theorem rowT_length (l : List Tg) : (rowT l).length = l.length * 2 := by
  induction l with
  | nil => rfl
  | cons a r ih => rw [rowT, List.flatMap_cons, List.length_append]; rw [rowT] at ih; rw [ih]; simp [tgCells]; omega
theorem rowT_get {l : List Tg} {k : Nat} {x : Tg} (h : l[k]? = some x) (j : Nat) (hj : j < 2) : (rowT l)[k * 2 + j]? = (tgCells x)[j]? := by
  induction l generalizing k with
  | nil => simp at h
  | cons a r ih =>
    have hc : rowT (a :: r) = tgCells a ++ rowT r := by simp [rowT]
    cases k with
    | zero =>
      simp at h
      subst h
      rw [hc, List.getElem?_append_left (by simp [tgCells]; omega)]
      simp
    | succ k =>
      simp at h
      rw [hc, List.getElem?_append_right (by simp [tgCells]; omega), ← ih h]
      simp only [tgCells, List.length_cons, List.length_nil]
      congr 1
      omega
theorem rowT_oneCell (l : List Tg) : ∀ u ∈ rowT l, u.oneCell' = true := by
  intro u hu
  obtain ⟨g, _, hg⟩ := List.mem_flatMap.1 hu
  simp [tgCells] at hg
  rcases hg with rfl | rfl <;> rfl

/-- The slice v holds the tags of l, in a row that lies at base or behind. -/
def OwnT (w : World) (base : Nat) (v : Value) (l : List Tg) : Prop := w.ownsRow base 53 2 v l.length (rowT l)

theorem OwnT.nil (w : World) (base : Nat) : OwnT w base (.slice none 0 0) [] := World.ownsRow_nil _ _ _ _

theorem OwnT.tags {w : World} {base : Nat} {v : Value} {l : List Tg} (h : OwnT w base v l) : TagsAt w v l := by
  rcases h.2 with ⟨rfl, h0⟩ | ⟨g, cap, cur, rfl, hb, hg, h1, h2, h3, h4⟩
  · exact Or.inl ⟨List.eq_nil_of_length_eq_zero h0, none, 0, rfl⟩
  · refine Or.inr ⟨g, 0, cap, rfl, h1, h2, fun j x hj => ?_⟩
    have hlt := (List.getElem?_eq_some_iff.1 hj).1
    have hc : ∀ i, i < l.length * 2 → w.cell? ⟨g, i, none⟩ = (rowT l)[i]? := fun i hi => by
      rw [← h4, List.getElem?_take_of_lt hi]
      simp [World.cell?, hg]
    rw [Nat.zero_add, show j * 2 = j * 2 + 0 from rfl, hc _ (by omega), hc _ (by omega), rowT_get hj 0 (by omega), Nat.add_zero, rowT_get hj 1 (by omega)]
    exact ⟨rfl, rfl⟩

theorem OwnT.kept {w w' : World} {base : Nat} {v : Value} {l : List Tg} (h : OwnT w base v l) (hk : Kept (fun _ => False) w w') : OwnT w' base v l := by
  rcases h.2 with ⟨rfl, h0⟩ | ⟨g, cap, cur, rfl, hb, hg, h1, h2, h3, h4⟩
  · exact ⟨h.1, Or.inl ⟨rfl, h0⟩⟩
  · exact ⟨h.1, Or.inr ⟨g, cap, cur, rfl, hb, (hk.block g (Array.getElem?_eq_some_iff.1 hg).1 id).trans hg, h1, h2, h3, h4⟩⟩

theorem OwnT.mono {w : World} {base base' : Nat} {v : Value} {l : List Tg} (h : OwnT w base v l) (hb : base' ≤ base) : OwnT w base' v l := by
  rcases h.2 with ⟨rfl, h0⟩ | ⟨g, cap, cur, rfl, hb', hg, h1, h2, h3, h4⟩
  · exact ⟨h.1, Or.inl ⟨rfl, h0⟩⟩
  · exact ⟨h.1, Or.inr ⟨g, cap, cur, rfl, Nat.le_trans hb hb', hg, h1, h2, h3, h4⟩⟩

/-- A boxed tag. -/
def BoxT (w : World) (b : Nat) (x : Tg) : Prop := w.heap[b]? = some (.cells #[.int .i64 x.type, .string x.value] 53 (0, 0))
theorem BoxT.new (w : World) (x : Tg) : BoxT (w.alloc (.cells #[.int .i64 x.type, .string x.value] 53)) w.heap.size x := heap_alloc_new w _
theorem BoxT.c0 {w : World} {b : Nat} {x : Tg} (h : BoxT w b x) : w.cell? ⟨b, 0, none⟩ = some (.int .i64 x.type) := by simp [World.cell?, show w.heap[b]? = _ from h]
theorem BoxT.c1 {w : World} {b : Nat} {x : Tg} (h : BoxT w b x) : w.cell? ⟨b, 1, none⟩ = some (.string x.value) := by simp [World.cell?, show w.heap[b]? = _ from h]
theorem BoxT.lt {w : World} {b : Nat} {x : Tg} (h : BoxT w b x) : b < w.heap.size := (Array.getElem?_eq_some_iff.1 h).1

/-- What a row of bytes grows by is no box of a tag. -/
theorem BoxT.beside {w w' : World} {b base n : Nat} {x : Tg} {v : Value} {xs : List Value} (h : BoxT w b x) (hown : w.ownsRow base 5 1 v n xs) (hk : Kept (fun i => v.ownBlock = some i) w w') : BoxT w' b x := by
  refine (hk.block b h.lt ?_).trans h
  intro e
  rcases hown.2 with ⟨rfl, _⟩ | ⟨g, cap, cur, rfl, hb, hg, _⟩
  · cases e
  · have : g = b := by simpa [Value.ownBlock] using e
    subst this
    rw [show w.heap[g]? = _ from h] at hg
    simp at hg
end Go.Proofs.YtgaamehjdoakhaaDoor

/- The contract of tag.PutTags: tags as bytes, or the error; for every list whose values have at most 2^47 bytes each. -/
namespace Go.Proofs.YtgaamehjdoakhaaDoor
open Go.RowKit

theorem take_next {α : Type} {l : List α} {j : Nat} {x : α} (h : l[j]? = some x) : l.take (j + 1) = l.take j ++ [x] := by
  rw [List.take_add_one, h]
  rfl
theorem sizeT_take {l : List Tg} {j : Nat} {x : Tg} (h : l[j]? = some x) : sizeT (l.take (j + 1)) = sizeT (l.take j) + (4 + x.value.size) := by rw [take_next h, sizeT_snoc]
theorem sizeT_le {l : List Tg} (h : ∀ x ∈ l, x.value.size ≤ 140737488351232) : sizeT l ≤ l.length * 140737488351236 := by
  induction l with
  | nil => simp [sizeT]
  | cons a r ih =>
    rw [sizeT_cons, List.length_cons]
    have := ih (fun x hx => h x (by simp [hx]))
    have := h a (by simp)
    omega
theorem sizeT_take_le (l : List Tg) (j : Nat) : sizeT (l.take j) ≤ sizeT l := by
  have : sizeT (l.take j ++ l.drop j) = sizeT l := by rw [List.take_append_drop]
  rw [sizeT_append] at this
  omega

set_option maxHeartbeats 400000 in
set_option maxRecDepth 100000 in
theorem putTags_many (v : Value) (l : List Tg) (w : World) (hv : TagsAt w v l) (hl : 20 < l.length) :
    Calls Tryd.prog 39 #[v] w fun e w' => e = .returned (.tuple #[.string ⟨#[]⟩, .int .i64 2]) ∧ Kept (fun _ => False) w w' := by
  obtain ⟨p, cap, rfl⟩ := hv.slice
  have hlz : (20 : Int) < (l.length : Int) := by omega
  clear hv hl
  go_enter Tryd.func39, Tryd.ntmps39
  go_wp2
  go_ret2
  exact ⟨rfl, Kept.refl _ _⟩

/-- How far the second loop has come. -/
def PutUp (w : World) (l : List Tg) (v7 v45 : Value) (wr : World) : Prop :=
  ∃ j : Nat, j ≤ l.length ∧ v45 = .int .i64 (j : Int) ∧ wr.ownsRow w.heap.size 5 1 v7 (sizeT (l.take j)) (Lib.byteCells (bytesT (l.take j))) ∧ Kept (fun _ => False) w wr

theorem kept_base {w a b : World} {v : Value} {n base : Nat} {xs : List Value} (h : Kept (fun _ => False) w a) (hb : w.heap.size ≤ base) (hown : a.ownsRow base 5 1 v n xs) (k : Kept (fun i => v.ownBlock = some i) a b) : Kept (fun _ => False) w b :=
  h.andThen k (fun i hi hs => by have := (hown.lt i hs).1; omega)

set_option maxHeartbeats 4000000 in
set_option maxRecDepth 100000 in
theorem putTags_in (v : Value) (l : List Tg) (w : World) (hv : TagsAt w v l) (hl : l.length ≤ 20) (hsz : ∀ x ∈ l, x.value.size ≤ 140737488351232) :
    Calls Tryd.prog 39 #[v] w fun e w' => e = .returned (.tuple #[.string ⟨(putTagsF l).1.toArray⟩, .int .i64 (putTagsF l).2]) ∧ Kept (fun _ => False) w w' := by
  obtain ⟨p, cap, rfl⟩ := hv.slice
  obtain ⟨i0, hi, hz0, hz1, hz2⟩ := info_parts info5
  have Hat : Hid (∀ (j : Nat) (x : Tg), l[j]? = some x → ∀ W, Kept (fun _ => False) w W → ∃ g o, p = some ⟨g, o, none⟩ ∧ l.length ≤ cap ∧ W.cell? ⟨g, o + j * 2, none⟩ = some (.int .i64 x.type) ∧ W.cell? ⟨g, o + j * 2 + 1, none⟩ = some (.string x.value)) :=
    fun j x hj W hW => (hv.kept0 hW).at hj
  have Hsz := hid hsz
  have hlz : (l.length : Int) ≤ 20 := by omega
  have hNo : Hid (l.all okT = false → putTagsF l = ([], 1)) := fun h => by unfold putTagsF; rw [if_neg (by omega), if_pos h]
  have hLong : Hid (l.all okT = true → 1494 < sizeT l → putTagsF l = ([], 2)) := fun h h' => by unfold putTagsF; rw [if_neg (by omega), if_neg (by rw [h]; simp), if_pos h']
  have hYes : Hid (l.all okT = true → ¬ 1494 < sizeT l → putTagsF l = (bytesT l, 0)) := fun h h' => by unfold putTagsF; rw [if_neg (by omega), if_neg (by rw [h]; simp), if_neg h']
  clear hv hsz
  go_enter Tryd.func39, Tryd.ntmps39
  go_wp2
  go_loopw [4, 15] (fun vs vi wr => ∃ j : Nat, j ≤ l.length ∧ vi = .int .i64 (j : Int) ∧ vs = .int .i64 (sizeT (l.take j) : Int) ∧ Hid ((l.take j).all okT = true ∧ Kept (fun _ => False) w wr)) (fun _ vi _ => l.length - (intOf vi).toNat)
  case atStart => exact ⟨0, Nat.zero_le _, rfl, rfl, rfl, Kept.refl _ _⟩
  case round =>
    obtain ⟨j, hj, rfl, rfl, HI⟩ := hrel
    by_cases hlt : j < l.length
    · have hltz : (j : Int) < (l.length : Int) := by omega
      obtain ⟨x, hx⟩ : ∃ x, l[j]? = some x := ⟨l[j], by simp [hlt]⟩
      obtain ⟨g, o, rfl, hcap, c0, c1⟩ := Hat.out j x hx wr HI.out.2
      have hxs := Hsz.out x (List.mem_of_getElem? hx)
      have hsum : sizeT (l.take j) ≤ j * 140737488351236 := by
        have := sizeT_le (l := l.take j) (fun y hy => Hsz.out y (List.mem_of_mem_take hy))
        rw [List.length_take, Nat.min_eq_left (by omega)] at this
        exact this
      have HK := hid (HI.out.2.alloc (.cells #[.int .i64 x.type, .string x.value] 53))
      cases hok : okT x with
      | false =>
        have hall : l.all okT = false := by
          rw [List.all_eq_false]
          exact ⟨x, List.mem_of_getElem? hx, by rw [hok]; simp⟩
        have HP := hid (hNo.out hall)
        have hr : x.type = 0 ∨ x.type < 0 ∨ 65535 < x.type := by
          have h2 : ¬ (1 ≤ x.type ∧ x.type ≤ 65535) := by simpa [okT] using hok
          omega
        have HS := hid hsum
        clear hok hall HI hx hsum hxs
        generalize x.type = T at *
        rcases hr with hr | hr | hr
        · subst hr
          go_wp2
          go_ret2
          exact ⟨by rw [HP.out]; rfl, HK.out⟩
        · have hne : (T == 0) = false := by rw [beq_eq_false_iff_ne]; omega
          go_wp2
          go_ret2
          exact ⟨by rw [HP.out]; rfl, HK.out⟩
        · have hne : (T == 0) = false := by rw [beq_eq_false_iff_ne]; omega
          have hn0 : ¬ T < 0 := by omega
          go_wp2
          go_ret2
          exact ⟨by rw [HP.out]; rfl, HK.out⟩
      | true =>
        obtain ⟨a, ha, ha1, ha2⟩ := okT_range hok
        have hne : (x.type == 0) = false := by rw [beq_eq_false_iff_ne]; omega
        have hn0 : ¬ x.type < 0 := by omega
        have hn6 : ¬ 65535 < x.type := by omega
        have R : Hid ((l.take (j + 1)).all okT = true ∧ sizeT (l.take (j + 1)) = sizeT (l.take j) + (4 + x.value.size)) := ⟨by rw [take_next hx, List.all_append, HI.out.1]; simp [hok], sizeT_take hx⟩
        clear hok hx HI
        generalize sizeT (l.take j) = Z at *
        generalize x.type = T at *
        have hZ : Z ≤ 2814749767024720 := by omega
        clear ha hsum
        go_wp2
        exact ⟨⟨j + 1, hlt, by go_num, by rw [R.out.2]; go_num, R.out.1, HK.out⟩, by simp [intOf]; omega⟩
    · obtain rfl : j = l.length := by omega
      obtain ⟨hall, hk1⟩ := HI.out
      rw [List.take_length] at hall
      have hsum := sizeT_le (l := l) Hsz.out
      rw [List.take_length]
      have hZ : sizeT l ≤ 2814749767024720 := by omega
      by_cases hbig : 1494 < sizeT l
      · have hbz : (1494 : Int) < (sizeT l : Int) := by omega
        have HP := hid (hLong.out hall hbig)
        clear hLong hYes hNo HI hlt
        generalize sizeT l = Z at *
        go_wp2
        go_ret2
        exact ⟨by rw [HP.out]; rfl, hk1⟩
      · have hbz : ¬ (1494 : Int) < (sizeT l : Int) := by omega
        have HP := hid (hYes.out hall hbig)
        have Hall := hid hall
        have HK1 := hid hk1
        clear hLong hYes hNo HI hlt hsum hall hk1
        have HZ : Hid (∀ j, sizeT (l.take j) ≤ sizeT l) := sizeT_take_le l
        have HZl : Hid (sizeT l = sizeT (l.take l.length)) := by show _ = _; rw [List.take_length]
        have HBl : Hid (bytesT l = bytesT (l.take l.length)) := by show _ = _; rw [List.take_length]
        obtain ⟨Z, hZd⟩ : ∃ Z, Z = sizeT l := ⟨_, rfl⟩
        rw [← hZd] at hZ hbig hbz HZ HZl ⊢
        clear hZd
        go_wp2_with (at_make; refine wpList_make_own _ rfl _ _ 56 rfl w.heap.size 5 i0 (.int .u8 0) 1 Tryd.underlying56 hi hz0 hz1 .i64 .i64 _ Z rfl rfl ?m1 ?m2 ?m3 ?m4 ?_)
        case m1 => omega
        case m2 => omega
        case m3 => unfold maxLen; omega
        case m4 => exact HK1.out.size
        intro w3 hown3 hg3
        have HK3 : Hid (Kept (fun _ => False) w w3) := HK1.out.grown hg3 (fun j hj => by cases hj)
        clear hg3 HK1
        go_wp2
        go_loopw [7, 45] (PutUp w l) (fun _ vi _ => l.length - (intOf vi).toNat)
        case atStart => exact ⟨0, Nat.zero_le _, rfl, hown3, HK3.out⟩
        case round =>
          obtain ⟨j, hj, rfl, hown4, hk4⟩ := hrel
          have HK4 := hid hk4
          have HZ4 := HZ.out j
          clear hown3 HK3 hk4
          by_cases hlt : j < l.length
          · have hltz : (j : Int) < (l.length : Int) := by omega
            obtain ⟨x, hx⟩ : ∃ x, l[j]? = some x := ⟨l[j], by simp [hlt]⟩
            obtain ⟨g, o, rfl, hcap, c0, c1⟩ := Hat.out j x hx _ HK4.out
            obtain ⟨a, ha, ha1, ha2⟩ := okT_range (List.all_eq_true.1 Hall.out x (List.mem_of_getElem? hx))
            have hZn := HZ.out (j + 1)
            have RZ := hid (sizeT_take hx)
            have RB : Hid (bytesT (l.take (j + 1)) = bytesT (l.take j) ++ low a 2 ++ low x.value.size 2 ++ x.value.data.toList) := by
              show _ = _
              rw [take_next hx, bytesT_snoc, tagBytes, ha, Int.toNat_natCast]
              simp
            rw [RZ.out] at hZn
            rw [ha] at c0
            obtain ⟨y, hy⟩ : ∃ y : Tg, y = ⟨(a : Int), x.value⟩ := ⟨_, rfl⟩
            have B4 := BoxT.new wr y
            rw [hy] at B4
            have b40 := B4.c0
            have b41 := B4.c1
            have HK5 := hid (HK4.out.alloc (.cells #[.int .i64 (a : Int), .string x.value] 53))
            have hs4 : w.heap.size ≤ wr.heap.size := HK4.out.size
            generalize sizeT (l.take j) = Zj at *
            generalize bytesT (l.take j) = Bj at *
            clear ha hx hy HK4
            have hx4 : x.value.size ≤ 65535 := by omega
            go_wp2_with fail
            refine (putWord_any w.heap.size _ Zj Bj a (by omega) _ (by simp; omega) (hown4.alloc _) (by omega)).mono ?_
            rintro e w5 ⟨v5, rfl, hown5, _, hk5⟩
            have B5 := B4.beside (hown4.alloc _) hk5
            have HK6 := hid (kept_base HK5.out (Nat.le_refl _) (hown4.alloc _) hk5)
            have b50 := B5.c0
            have b51 := B5.c1
            have hs5 := HK6.out.size
            clear hk5 B4 b40 b41 hown4 c0 c1 HK5
            go_wp2_with fail
            refine (putWord_any w.heap.size _ (Zj + 2) _ x.value.size (by omega) _ hs5 hown5 (by omega)).mono ?_
            rintro e w6 ⟨v6, rfl, hown6, _, hk6⟩
            have B6 := B5.beside hown5 hk6
            have HK7 := hid (kept_base HK6.out (Nat.le_refl _) hown5 hk6)
            have b60 := B6.c0
            have b61 := B6.c1
            have hs6 := HK7.out.size
            obtain ⟨Bk, hBk⟩ : ∃ Bk, Bk = Bj ++ low a 2 ++ low x.value.size 2 := ⟨_, rfl⟩
            rw [← hBk] at hown6
            rw [← hBk] at RB
            clear hk6 B5 b50 b51 hown5 HK6 hBk
            go_wp2_with (at_builtin; refine Lib.wpList_append_own_string _ rfl _ _ 56 9 rfl w.heap.size 5 i0 Tryd.underlying56 Tryd.underlying9 hi hz0 hz1 hz2 _ _ _ rfl hown6 x.value rfl ?c1 ?c2 ?c3 ?_)
            case c1 => unfold maxLen; omega
            case c2 => omega
            case c3 => exact hs6
            intro v7 w7 hown7 hg7 _
            have R := append_str hs6 hown6 hown7 hg7
            have HK8 := hid (kept_base HK7.out (Nat.le_refl _) hown6 ((Kept.refl _ w6).grown hg7 (fun j hj => Or.inr hj)))
            have R1 : w7.ownsRow w.heap.size 5 1 v7 (sizeT (l.take (j + 1))) (Lib.byteCells (bytesT (l.take (j + 1)))) := by
              rw [RZ.out, RB.out, ← Nat.add_assoc, show Zj + 4 = Zj + 2 + 2 from rfl]
              exact R.1
            clear hown7 hg7 R hown6 b60 b61 B6 RZ RB HK7
            go_wp2
            exact ⟨⟨j + 1, hlt, by go_num, R1, HK8.out⟩, by simp [intOf]; omega⟩
          · obtain rfl : j = l.length := by omega
            have hcv := put_conv hown4
            rw [← HBl.out] at hcv
            clear hlt hown4 HZ4
            go_wp2
            go_ret2
            exact ⟨by rw [HP.out]; rfl, HK4.out⟩

/-- 'PutTags(l)'. -/
theorem putTags_any (v : Value) (l : List Tg) (w : World) (hv : TagsAt w v l) (hsz : ∀ x ∈ l, x.value.size ≤ 140737488351232) :
    Calls Tryd.prog 39 #[v] w fun e w' => e = .returned (.tuple #[.string ⟨(putTagsF l).1.toArray⟩, .int .i64 (putTagsF l).2]) ∧ Kept (fun _ => False) w w' := by
  by_cases h : 20 < l.length
  · have e : putTagsF l = ([], 2) := by unfold putTagsF; rw [if_pos h]
    rw [e]
    exact putTags_many v l w hv h
  · exact putTags_in v l w hv (by omega) hsz
end Go.Proofs.YtgaamehjdoakhaaDoor

/- The contract of tag.GetTags: the tags of some bytes, or the error; for every string of at most 2^47 bytes. -/
namespace Go.Proofs.YtgaamehjdoakhaaDoor
open Go.RowKit

def strV : Value → ByteArray | .string s => s | _ => ⟨#[]⟩

/-- No tag stands at the front. -/
def endB (l : List UInt8) : Bool := decide (l.length = 0) || (decide (2 ≤ l.length) && decide (numOf (l.take 2) = 0))
theorem endB_iff {l : List UInt8} : endB l = true ↔ (l.length = 0 ∨ (2 ≤ l.length ∧ numOf (l.take 2) = 0)) := by simp [endB]

theorem str_nil (s : ByteArray) (h : s.size = 0) : s = ⟨#[]⟩ := by
  apply bytes_ext
  have : s.data.toList.length = 0 := by rw [← Lib.size_eq]; exact h
  rw [List.eq_nil_of_length_eq_zero this]

set_option maxHeartbeats 1000000 in
set_option maxRecDepth 100000 in
theorem isEnd_any (s : ByteArray) (hs : s.size ≤ maxLen) (w : World) :
    Calls Tryd.prog 60 #[.string s] w fun e w' => e = .returned (.bool (endB s.data.toList)) ∧ Kept (fun _ => False) w w' := by
  have hl : s.data.toList.length = s.size := (Lib.size_eq s).symm
  by_cases h0 : s.size = 0
  · obtain rfl := str_nil s h0
    go_enter Tryd.func60, Tryd.ntmps60
    go_wp2
    go_ret
    exact ⟨rfl, Kept.refl _ _⟩
  · have hne0 : ¬ s.toList = [] := by
      intro e
      rw [ByteArray.toList_eq] at e
      exact h0 (by rw [Lib.size_eq, e]; rfl)
    have hne : s.toList.isEmpty = false := by
      rw [List.isEmpty_eq_false_iff]
      exact hne0
    by_cases h1 : s.size < 2
    · have e : endB s.data.toList = false := by
        rw [← Bool.not_eq_true, endB_iff]
        omega
      rw [e]
      have h1z : ¬ (2 : Int) ≤ (s.size : Int) := by omega
      clear hl
      go_enter Tryd.func60, Tryd.ntmps60
      go_wp2
      go_ret
      exact ⟨rfl, Kept.refl _ _⟩
    · have h1z : (2 : Int) ≤ (s.size : Int) := by omega
      have HG := hid (getWord_any s hs (by omega))
      have e : endB s.data.toList = ((numOf (s.data.toList.take 2) : Int) == 0) := by
        rw [Bool.eq_iff_iff, endB_iff, beq_iff_eq]
        omega
      rw [e]
      generalize numOf (s.data.toList.take 2) = N at *
      clear hl e
      go_enter Tryd.func60, Tryd.ntmps60
      go_wp2_with (go_at_call 58; refine (HG.out _).mono ?_; rintro e w1 ⟨rfl, hk1⟩)
      go_ret
      exact ⟨rfl, by assumption⟩

/-- Bytes that are left. -/
theorem sub_data (s : ByteArray) (k : Nat) : (s.extract k s.size).data.toList = s.data.toList.drop k := by
  rw [Lib.extract_data, List.take_of_length_le]
  rw [List.length_drop, ← Lib.size_eq]
  exact Nat.le_refl _

theorem cells_pair_new (w : World) (x : Tg) : ∀ (j : Nat) (u : Value), ([.int .i64 x.type, .string x.value] : List Value)[j]? = some u → (w.alloc (.cells #[.int .i64 x.type, .string x.value] 53)).cell? ((⟨w.heap.size, 0, none⟩ : Addr).add j) = some u := cells_two_new _ _ _ _

/-- One more tag. -/
theorem own_more {w0 w w' : World} {v v' : Value} {l : List Tg} {x : Tg} (hk : Kept (fun _ => False) w0 w) (hown : OwnT w w0.heap.size v l)
    (hown' : w'.ownsRow w0.heap.size 53 2 v' (l.length + 1) (rowT l ++ [.int .i64 x.type, .string x.value])) (hg : (w.alloc (.cells #[.int .i64 x.type, .string x.value] 53)).grownBy w' v.ownBlock) :
    OwnT w' w0.heap.size v' (l ++ [x]) ∧ Kept (fun _ => False) w0 w' := by
  constructor
  · unfold OwnT
    rw [rowT_append, rowT_one, List.length_append]
    exact hown'
  · exact (hk.alloc _).grown hg (fun j hj => Or.inl (World.ownsRow.lt hown j hj).1)

/-- The list as it stands in the middle of a round. -/
def Mid (w : World) (vl : Value) (acc : List Tg) (W : World) : Prop := OwnT W w.heap.size vl acc ∧ Kept (fun _ => False) w W

theorem Mid.since {f : FuncId} {args : Array Value} {r : Ending} (h : ∀ w, Calls Tryd.prog f args w fun e w' => e = r ∧ Kept (fun _ => False) w w') (w : World) (vl : Value) (acc : List Tg) :
    ∀ W, Mid w vl acc W → Calls Tryd.prog f args W fun e w' => e = r ∧ Mid w vl acc w' := fun W hW =>
  (h W).mono fun _ _ ⟨h1, h2⟩ => ⟨h1, hW.1.kept h2, hW.2.trans h2⟩

set_option maxHeartbeats 4000000 in
set_option maxRecDepth 100000 in
theorem getTags_any (s : ByteArray) (hs : s.size ≤ 140737488351232) (w : World) :
    Calls Tryd.prog 46 #[.string s] w fun e w' => ∃ v, e = .returned (.tuple #[v, .int .i64 (tagsOn s.data.toList []).2]) ∧ OwnT w' w.heap.size v (tagsOn s.data.toList []).1 ∧ Kept (fun _ => False) w w' := by
  obtain ⟨i0, hi, hz0, hz1, hz2⟩ := info_parts infoTag
  obtain ⟨R, hR⟩ : ∃ R, R = tagsOn s.data.toList [] := ⟨_, rfl⟩
  rw [← hR]
  have HR := hid hR.symm
  clear hR
  go_enter Tryd.func46, Tryd.ntmps46
  go_wp2
  go_loopw [0, 4] (fun vb vl wr => ∃ (b : ByteArray) (acc : List Tg), vb = .string b ∧ Hid (b.size ≤ s.size ∧ acc.length ≤ 20 ∧ tagsOn b.data.toList acc = R ∧ Mid w vl acc wr)) (fun vb _ _ => (strV vb).size)
  case atStart => exact ⟨s, [], rfl, Nat.le_refl _, Nat.zero_le _, HR.out, OwnT.nil _ _, Kept.refl _ _⟩
  case round =>
    obtain ⟨b, acc, rfl, HI⟩ := hrel
    obtain ⟨hbs, h20, hT, hmid⟩ := HI.out
    have hb : b.size ≤ maxLen := by unfold maxLen; omega
    have hbl : b.data.toList.length = b.size := (Lib.size_eq b).symm
    have HE := hid (Mid.since (isEnd_any b hb) w u4 acc)
    rw [tagsOn_eq] at hT
    clear HI HR
    cases he : endB b.data.toList with
    | true =>
      rw [if_pos (endB_iff.1 he)] at hT
      rw [he] at HE
      have HT := hid hT
      have Hm := hid hmid
      clear hT hmid he hbl
      go_wp2_with fail
      refine (HE.out _ Hm.out).mono ?_
      rintro e w1 ⟨rfl, hm1⟩
      have Hm1 := hid hm1
      clear hm1
      go_wp2
      go_ret2
      exact ⟨_, by rw [← HT.out]; rfl, by rw [← HT.out]; exact Hm1.out.1, Hm1.out.2⟩
    | false =>
      rw [if_neg (by rw [← endB_iff, he]; simp)] at hT
      rw [he] at HE
      have Hm := hid hmid
      clear hmid he
      by_cases h4 : b.size < 4
      · rw [if_pos (by omega)] at hT
        have HT := hid hT
        clear hT hbl
        go_wp2_with fail
        refine (HE.out _ Hm.out).mono ?_
        rintro e w1 ⟨rfl, hm1⟩
        have Hm1 := hid hm1
        clear hm1
        go_wp2
        go_ret2
        exact ⟨_, by rw [← HT.out]; rfl, by rw [← HT.out]; exact OwnT.nil _ _, Hm1.out.2⟩
      · rw [if_neg (by omega)] at hT
        have hx4 : (b.extract 2 4).size = 2 := by rw [ByteArray.size_extract]; omega
        have HG4 := hid (Mid.since (getWord_any (b.extract 2 4) (by rw [hx4]; unfold maxLen; omega) (by omega)) w u4 acc)
        rw [take_num b 2] at HG4
        have i4 := mid_at b 2 4 (by omega) (by omega) 2 4 rfl rfl
        have hn6 := num2_lt (b.data.toList.drop 2)
        have HG0 := hid (Mid.since (getWord_any b hb (by omega)) w u4 acc)
        obtain ⟨n, hn⟩ : ∃ n, n = numOf ((b.data.toList.drop 2).take 2) := ⟨_, rfl⟩
        rw [← hn] at hT HG4 hn6
        clear hx4 hn
        by_cases h5 : b.size < 4 + n
        · rw [if_pos (by omega)] at hT
          have HT := hid hT
          have h5z : (b.size : Int) < 4 + (n : Int) := by omega
          clear hT hbl HG0
          go_wp2_with fail
          refine (HE.out _ Hm.out).mono ?_
          rintro e w1 ⟨rfl, hm1⟩
          have Hm1 := hid hm1
          clear hm1
          go_wp2_with fail
          refine (HG4.out _ Hm1.out).mono ?_
          rintro e w2 ⟨rfl, hm2⟩
          have Hm2 := hid hm2
          clear hm2
          go_wp2
          go_ret2
          exact ⟨_, by rw [← HT.out]; rfl, by rw [← HT.out]; exact OwnT.nil _ _, Hm2.out.2⟩
        · rw [if_neg (by omega)] at hT
          have h5z : ¬ (b.size : Int) < 4 + (n : Int) := by omega
          by_cases h6 : 20 ≤ acc.length
          · rw [if_pos h6] at hT
            have HT := hid hT
            obtain ⟨p, cap, hv4⟩ := slice_of Hm.out.1
            have e20 : acc.length = 20 := by omega
            rw [e20] at hv4
            subst hv4
            clear hT hbl HG0
            go_wp2_with fail
            refine (HE.out _ Hm.out).mono ?_
            rintro e w1 ⟨rfl, hm1⟩
            have Hm1 := hid hm1
            clear hm1
            go_wp2_with fail
            refine (HG4.out _ Hm1.out).mono ?_
            rintro e w2 ⟨rfl, hm2⟩
            have Hm2 := hid hm2
            clear hm2
            go_wp2
            go_ret2
            exact ⟨_, by rw [← HT.out]; rfl, by rw [← HT.out]; exact OwnT.nil _ _, Hm2.out.2⟩
          · rw [if_neg h6] at hT
            obtain ⟨p, cap, hv4⟩ := slice_of Hm.out.1
            subst hv4
            have h6z : ((acc.length : Int) == 20) = false := by rw [beq_eq_false_iff_ne]; omega
            have j4 := mid_at b 4 (4 + n) (by omega) (by omega) 4 (4 + (n : Int)) rfl (by omega)
            have jE := last_at b (4 + n) (by omega) (4 + (n : Int)) (by omega)
            have HC := hid (Mid.since (fun W => (clone_any (b.extract 4 (4 + n)) W (by rw [ByteArray.size_extract]; omega)).mono fun _ _ ⟨h1, h2⟩ => ⟨h1, kept_of h2⟩) w (.slice p acc.length cap) acc)
            obtain ⟨m, hm⟩ : ∃ m, m = numOf (b.data.toList.take 2) := ⟨_, rfl⟩
            have eV : (⟨((b.data.toList.drop 4).take n).toArray⟩ : ByteArray) = b.extract 4 (4 + n) := by
              apply bytes_ext
              rw [Lib.extract_data, Nat.add_sub_cancel_left]
            rw [← hm, eV, ← sub_data b (4 + n)] at hT
            rw [← hm] at HG0
            have HT := hid hT
            have hsz : (b.extract (4 + n) b.size).size < b.size := by rw [ByteArray.size_extract]; omega
            have HO : Hid (∀ W o, Mid w (.slice p acc.length cap) acc W → (W.alloc o).ownsRow w.heap.size 53 2 (.slice p acc.length cap) acc.length (rowT acc)) := fun W o h => World.ownsRow.alloc h.1 o
            have HS : Hid (∀ W o, Mid w (.slice p acc.length cap) acc W → w.heap.size ≤ (W.alloc o).heap.size) := fun W o h => (h.2.alloc o).size
            have HF : Hid (∀ W w' g' cap', Mid w (.slice p acc.length cap) acc W → w'.ownsRow w.heap.size 53 2 (.slice (some ⟨g', 0, none⟩) (acc.length + 1) cap') (acc.length + 1) (rowT acc ++ [.int .i64 (m : Int), .string (b.extract 4 (4 + n))]) → (W.alloc (.cells #[.int .i64 (m : Int), .string (b.extract 4 (4 + n))] 53)).grownBy w' (Value.slice p acc.length cap).ownBlock → Mid w (.slice (some ⟨g', 0, none⟩) (acc.length + 1) cap') (acc ++ [⟨(m : Int), b.extract 4 (4 + n)⟩]) w') :=
              fun W w' g' cap' h1 h2 h3 => own_more (x := ⟨(m : Int), b.extract 4 (4 + n)⟩) h1.2 h1.1 h2 h3
            clear hT hbl hm eV
            have h20' : acc.length < 20 := by omega
            go_wp2_with fail
            refine (HE.out _ Hm.out).mono ?_
            rintro e w1 ⟨rfl, hm1⟩
            have Hm1 := hid hm1
            clear hm1
            go_wp2_with fail
            refine (HG4.out _ Hm1.out).mono ?_
            rintro e w2 ⟨rfl, hm2⟩
            have hM2 : Mid w (.slice p acc.length cap) acc w2.drew := ⟨hm2.1.kept (Kept.refl _ _).drew, hm2.2.drew⟩
            clear hm2 HE HG4 Hm Hm1
            go_wp2
            go_region_held_law (fun W => Kept (fun _ => False) w W) (first | assumption | exact hM2.2 | (refine Kept.alloc ?_ _; assumption))
              (first
                | (refine step_append_lies _ rfl (.tmp 23) (.tmp 31) 77 rfl w.heap.size 53 i0 (.agg #[.int .i64 0, .string ⟨#[]⟩]) 2 24 Tryd.underlying77 hi hz0 hz1 hz2 rfl (by decide) _ acc.length (rowT acc) rfl (HO.out _ _ (by assumption)) _ 1 1 [.int .i64 (m : Int), .string (b.extract 4 (4 + n))] rfl rfl (World.news_of_block (heap_alloc_new _ _)) (by intro u hu; simp at hu; rcases hu with rfl | rfl <;> rfl) (by decide) (by unfold maxLen; omega) (by omega) (HS.out _ _ (by assumption)) _ rfl ?_; intro g' cap' w6 hown' hgrow hgg hgl'; have hM6 := HF.out _ _ _ _ (by assumption) hown' hgrow; have hK6 := hM6.2)
                | (go_at_call 58; refine (HG0.out _ (by assumption)).mono ?_; rintro e w3 ⟨rfl, hm3⟩; have hK3 := hm3.2)
                | (go_at_call 59; refine (HC.out _ (by assumption)).mono ?_; rintro e w5 ⟨rfl, hm5⟩; have hK5 := hm5.2))
            all_goals
              clear hown' hgrow hgg hgl'
              go_wp2
              exact ⟨⟨_, _, rfl, by omega, by simp; omega, HT.out, hM6⟩, by simp [strV]; omega⟩
end Go.Proofs.YtgaamehjdoakhaaDoor

/- The contracts of tag.Find, tag.Same and of the laws' Light. -/
namespace Go.Proofs.YtgaamehjdoakhaaDoor
open Go.RowKit

theorem findOn_yes {kind : Int} {s : ByteArray × Nat} {t : Tg} (h : t.type = kind) : findOn kind s t = (if s.2 = 0 then t.value else s.1, s.2 + 1) := by unfold findOn; rw [if_pos h]
theorem findOn_no {kind : Int} {s : ByteArray × Nat} {t : Tg} (h : t.type ≠ kind) : findOn kind s t = s := by unfold findOn; rw [if_neg h]

set_option maxHeartbeats 2000000 in
set_option maxRecDepth 100000 in
theorem find_any (v : Value) (l : List Tg) (kind : Int) (w : World) (hv : TagsAt w v l) (hl : l.length ≤ 1000000) (hsz : ∀ x ∈ l, x.value.size ≤ 140737488351232) :
    Calls Tryd.prog 47 #[v, .int .i64 kind] w fun e w' => e = .returned (.tuple #[.string (findF l kind).1, .int .i64 ((findF l kind).2 : Int)]) ∧ Kept (fun _ => False) w w' := by
  obtain ⟨p, cap, rfl⟩ := hv.slice
  have Hat : Hid (∀ (j : Nat) (x : Tg), l[j]? = some x → ∀ W, Kept (fun _ => False) w W → ∃ g o, p = some ⟨g, o, none⟩ ∧ l.length ≤ cap ∧ W.cell? ⟨g, o + j * 2, none⟩ = some (.int .i64 x.type) ∧ W.cell? ⟨g, o + j * 2 + 1, none⟩ = some (.string x.value)) :=
    fun j x hj W hW => (hv.kept0 hW).at hj
  have Hsz := hid hsz
  clear hv hsz
  go_enter Tryd.func47, Tryd.ntmps47
  go_wp2
  go_loopw [6, 7, 12] (fun v6 v7 vi wr => ∃ (j : Nat) (S : ByteArray) (n : Nat), j ≤ l.length ∧ n ≤ j ∧ vi = .int .i64 (j : Int) ∧ v6 = .string S ∧ v7 = .int .i64 (n : Int) ∧ Hid (findF (l.take j) kind = (S, n) ∧ Kept (fun _ => False) w wr)) (fun _ _ vi _ => l.length - (intOf vi).toNat)
  case atStart => exact ⟨0, ⟨#[]⟩, 0, Nat.zero_le _, Nat.le_refl _, rfl, rfl, rfl, rfl, Kept.refl _ _⟩
  case round =>
    obtain ⟨j, S, n, hj, hnj, rfl, rfl, rfl, HI⟩ := hrel
    by_cases hlt : j < l.length
    · have hltz : (j : Int) < (l.length : Int) := by omega
      obtain ⟨x, hx⟩ : ∃ x, l[j]? = some x := ⟨l[j], by simp [hlt]⟩
      obtain ⟨g, o, rfl, hcap, c0, c1⟩ := Hat.out j x hx wr HI.out.2
      have hxs := Hsz.out x (List.mem_of_getElem? hx)
      have HK := hid (HI.out.2.alloc (.cells #[.int .i64 x.type, .string x.value] 53))
      have HC := hid (fun W => clone_any x.value W (by omega))
      have hF : findF (l.take (j + 1)) kind = findOn kind (S, n) x := by rw [take_next hx, findF_snoc, HI.out.1]
      have b0 := (BoxT.new wr x).c0
      have b1 := (BoxT.new wr x).c1
      by_cases hty : x.type = kind
      · rw [findOn_yes hty] at hF
        have hne : (x.type != kind) = false := by simp [hty]
        cases n with
        | zero =>
          rw [if_pos rfl] at hF
          have HF := hid hF
          clear hF hx HI hty
          generalize x.type = T at *
          generalize x.value = V at *
          go_wp2_with fail
          refine (HC.out _).mono ?_
          rintro e w1 ⟨rfl, hb1⟩
          have HK1 := hid (HK.out.trans (kept_of hb1))
          clear hb1
          go_wp2
          exact ⟨⟨j + 1, _, 1, hlt, by omega, by go_num, rfl, rfl, HF.out, HK1.out⟩, by simp [intOf]; omega⟩
        | succ n =>
          rw [if_neg (by simp)] at hF
          have HF := hid hF
          have hn0 : (((n + 1 : Nat) : Int) == 0) = false := by rw [beq_eq_false_iff_ne]; omega
          clear hF hx HI hty
          generalize x.type = T at *
          generalize x.value = V at *
          obtain ⟨q, hq⟩ : ∃ q : Nat, q = n + 1 := ⟨_, rfl⟩
          rw [← hq] at HF hn0 hnj ⊢
          clear hq
          go_wp2
          exact ⟨⟨j + 1, S, q + 1, hlt, by omega, by go_num, rfl, by go_num, HF.out, HK.out⟩, by simp [intOf]; omega⟩
      · rw [findOn_no hty] at hF
        have HF := hid hF
        have hne : (x.type != kind) = true := by simpa using hty
        clear hF hx HI hty
        generalize x.type = T at *
        generalize x.value = V at *
        go_wp2
        exact ⟨⟨j + 1, S, n, hlt, by omega, by go_num, rfl, rfl, HF.out, HK.out⟩, by simp [intOf]; omega⟩
    · obtain rfl : j = l.length := by omega
      obtain ⟨hF, hk⟩ := HI.out
      rw [List.take_length] at hF
      have HF := hid hF
      clear hF HI hlt
      go_wp2
      go_ret2
      exact ⟨by rw [HF.out]; rfl, hk⟩
end Go.Proofs.YtgaamehjdoakhaaDoor

/- Rows of a call's own, of whatever elements: what an append leaves, where it lies, and of what was ahead nothing has turned. (No function of the program is named.) -/
namespace Go.Proofs.YtgaamehjdoakhaaDoor
open Go.RowKit

section
variable {P : Program} {w : World} {base : Nat} {e : TypeId} {k n : Nat} {v : Value} {xs : List Value}

/-- How the list v became v': in place, or anew. -/
def Grew (w w' : World) (v v' : Value) (n m : Nat) : Prop :=
  (∃ g cap, v = .slice (some ⟨g, 0, none⟩) n cap ∧ v' = .slice (some ⟨g, 0, none⟩) (n + m) cap ∧ Kept (fun i => i = g) w w') ∨
    (∃ cap', v' = .slice (some ⟨w.heap.size, 0, none⟩) (n + m) cap' ∧ Kept (fun _ => False) w w' ∧ w.heap.size < w'.heap.size)

theorem owned_len (h : w.ownsRow base e k v n xs) : xs.length = n * k := h.1

theorem owned_of {g cap : Nat} {cur : Array Value} (hb : base ≤ g) (hg : w.heap[g]? = some (.cells cur e (0, 0))) (h1 : n ≤ cap) (h2 : cap ≤ maxLen) (h3 : cur.size = cap * k) (hx : xs.length = n * k) (h4 : cur.toList.take (n * k) = xs) :
    w.ownsRow base e k (.slice (some ⟨g, 0, none⟩) n cap) n xs := ⟨hx, Or.inr ⟨g, cap, cur, rfl, hb, hg, h1, h2, h3, h4⟩⟩

/-- The first elements of a row. -/
theorem owned_first {g cap m : Nat} (h : w.ownsRow base e k (.slice (some ⟨g, 0, none⟩) n cap) n xs) (hm : m ≤ n) : w.ownsRow base e k (.slice (some ⟨g, 0, none⟩) m cap) m (xs.take (m * k)) := by
  rcases h.2 with ⟨h', _⟩ | ⟨g', cap', cur, h', hb, hg, h1, h2, h3, h4⟩
  · simp at h'
  · simp only [Value.slice.injEq, Option.some.injEq, Addr.mk.injEq, and_true, true_and] at h'
    obtain ⟨rfl, rfl⟩ := h'
    have hmk : m * k ≤ n * k := Nat.mul_le_mul_right k hm
    refine owned_of hb hg (by omega) h2 h3 (by rw [List.length_take, h.1]; omega) ?_
    rw [← h4, List.take_take, Nat.min_eq_left hmk]

theorem owned_kept {w' : World} {S : Nat → Prop} (h : w.ownsRow base e k v n xs) (hk : Kept S w w') (hS : ∀ i, v.ownBlock = some i → ¬ S i) : w'.ownsRow base e k v n xs := by
  rcases h.2 with ⟨rfl, h0⟩ | ⟨g, cap, cur, rfl, hb, hg, h1, h2, h3, h4⟩
  · exact ⟨h.1, Or.inl ⟨rfl, h0⟩⟩
  · exact ⟨h.1, Or.inr ⟨g, cap, cur, rfl, hb, (hk.block g (Array.getElem?_eq_some_iff.1 hg).1 (hS g rfl)).trans hg, h1, h2, h3, h4⟩⟩

/-- Two rows of unlike elements do not share memory. -/
theorem owned_unlike {base' : Nat} {e' : TypeId} {k' n' : Nat} {v' : Value} {xs' : List Value} (h : w.ownsRow base e k v n xs) (h' : w.ownsRow base' e' k' v' n' xs') (hne : e ≠ e') : ∀ g, v.ownBlock = some g → v'.ownBlock ≠ some g := by
  intro g h1 h2
  rcases h.2 with ⟨rfl, _⟩ | ⟨g1, cap, cur, rfl, hb, hg, _⟩
  · cases h1
  · rcases h'.2 with ⟨rfl, _⟩ | ⟨g2, cap', cur', rfl, hb', hg', _⟩
    · cases h2
    · have e1 : g1 = g := by simpa [Value.ownBlock] using h1
      have e2 : g2 = g := by simpa [Value.ownBlock] using h2
      subst e1
      subst e2
      rw [hg] at hg'
      simp at hg'
      exact hne hg'.2

/-- 'append' of one element or more. -/
theorem owned_append {t : TypeId} {i0 : TypeInfo} {z : Value} {bytes : Nat} (ht : P.underlying t = some (.slice e)) (hi : P.info? e = some i0) (hz0 : i0.zero = some z) (hz1 : i0.size = k) (hz2 : i0.bytes = bytes) (hzs : z.cells.size = k) (hk : 0 < k)
    (h : w.ownsRow base e k v n xs) (hbase : base ≤ w.heap.size) (ad : Addr) (m c : Nat) (news : List Value) (hm : 0 < m) (hl : news.length = m * k) (hc : ∀ j u, news[j]? = some u → w.cell? (ad.add j) = some u) (h1 : ∀ u ∈ news, u.oneCell' = true) (hroom : n + m ≤ 1000000) (hby : bytes ≤ 1000) :
    ∃ v' w', (∀ ty, (Builtin.append_ #[t, t] ty #[v, .slice (some ad) m c]).run P w = .ok v' w') ∧ w'.ownsRow base e k v' (n + m) (xs ++ news) ∧ Grew w w' v v' n m := by
  subst hz1
  have hbig : (n + m) * bytes ≤ 1000000 * 1000 := Nat.mul_le_mul hroom hby
  rcases h.2 with ⟨rfl, h0⟩ | ⟨g, cap, cur, rfl, hb, hg, hn, hmx, hsz, htk⟩
  · subst h0
    have hx0 : xs = [] := List.eq_nil_of_length_eq_zero (by rw [h.1]; simp)
    subst hx0
    have hr := fun ty => run_append_nil (P := P) (w := w) t ty e i0 z ht hi hz0 ad m c news hl hc hm (by omega) (by rw [hz2]; rw [Nat.zero_add] at hbig; omega)
    obtain ⟨G, hG⟩ : ∃ G, G = grownCap w m 0 e := ⟨_, rfl⟩
    have hGn : m ≤ G := by rw [hG]; exact grownCap_ge w _ _ _
    have hGm : G ≤ maxLen := by rw [hG]; exact grownCap_le_maxLen w m 0 _ (by unfold maxLen; omega)
    rw [← hG] at hr
    refine ⟨_, _, hr, ?_, Or.inr ⟨G, by rw [Nat.zero_add], (Kept.refl _ w).drew.alloc _, by simp⟩⟩
    rw [List.nil_append, Nat.zero_add]
    refine owned_of hbase (heap_alloc_new w.drew _) hGn hGm ?_ hl ?_
    · rw [Array.size_append, size_zeroCells, List.size_toArray, hl, hzs, ← Nat.add_mul]
      congr 1
      omega
    · rw [Array.toList_append, List.take_append_of_le_length (by simp [hl])]
      exact List.take_of_length_le (by simp [hl])
  · by_cases hfit : n + m ≤ cap
    · obtain ⟨w', q1, q2, q3⟩ := run_append_fits (P := P) w base t 0 e i0 i0.size ht hi rfl g n cap xs h ad m c news hl hc h1 hfit
      exact ⟨_, w', fun ty => q1, q2, Or.inl ⟨g, cap, rfl, rfl, (Kept.refl _ w).grown q3 (fun j hj => Or.inr (Option.some.inj hj).symm)⟩⟩
    · have hr := fun ty => run_append_grow (P := P) w t ty e i0 z ht hi hz0 ⟨g, 0, none⟩ n cap xs h.1 (World.ownsRow.cells h rfl) ad m c news hl hc (by omega) (by omega) (by rw [hz2]; exact growslice_fits (by omega) (by omega))
      obtain ⟨G, hG⟩ : ∃ G, G = grownCap w (n + m) cap e := ⟨_, rfl⟩
      have hGn : n + m ≤ G := by rw [hG]; exact grownCap_ge w _ _ _
      have hGm : G ≤ maxLen := by rw [hG]; exact grownCap_le_maxLen w (n + m) cap _ (by unfold maxLen; omega)
      rw [← hG] at hr
      refine ⟨_, _, hr, ?_, Or.inr ⟨G, rfl, (Kept.refl _ w).drew.alloc _, by simp⟩⟩
      refine owned_of hbase (heap_alloc_new w.drew _) hGn hGm ?_ (by rw [List.length_append, h.1, hl, Nat.add_mul]) ?_
      · rw [Array.size_append, Array.size_append, size_zeroCells, List.size_toArray, List.size_toArray, h.1, hl, hzs, ← Nat.add_mul, ← Nat.add_mul]
        congr 1
        omega
      · rw [Array.toList_append, Array.toList_append, List.take_append_of_le_length (by simp [h.1, hl, Nat.add_mul])]
        exact List.take_of_length_le (by simp [h.1, hl, Nat.add_mul])

theorem Grew.below {w' : World} {v' : Value} {m : Nat} (h : Grew w w' v v' n m) (hown : w.ownsRow base e k v n xs) {w0 : World} (hw : Below base w0 w) (hb : base ≤ w.heap.size) : Below base w0 w' := by
  rcases h with ⟨g, cap, rfl, rfl, hk⟩ | ⟨cap', rfl, hk, _⟩
  · have := (World.ownsRow.lt hown g rfl).1
    exact hw.trans (hk.below hb (fun i hi => by subst hi; exact this))
  · exact hw.trans (hk.below hb (fun _ h => h.elim))
end
end Go.Proofs.YtgaamehjdoakhaaDoor
