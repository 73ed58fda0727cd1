/- A server and a client of chap in memory: their cells; what a server's calls come to, as plain functions. -/
import Derived.Test.YtndpfcanfcbldaaDoorCaBytes
import Derived.Test.YtndpfcanfcbldaaDoorCaData
import Derived.Lib.SmallJoins
namespace Go.Proofs.YtndpfcanfcbldaaDoor
open Go.RowKit

/-- A server of the program as plain data. -/
structure Ps where
  name : ByteArray
  retry : Int
  wait : Int
  value : ByteArray
  id : Int
  st : Int
  again : Int
  ticks : Int
structure GoodP (c : Ps) : Prop where
  name : c.name.size ≤ 60
  retry : 0 ≤ c.retry ∧ c.retry ≤ 10
  wait : 1 ≤ c.wait ∧ c.wait ≤ 100
  id : 0 ≤ c.id ∧ c.id ≤ 255
  st : 0 ≤ c.st ∧ c.st ≤ 5
  again : 0 ≤ c.again ∧ c.again ≤ c.retry
  ticks : 0 ≤ c.ticks ∧ c.ticks ≤ c.wait
  early : c.st = 1 → c.ticks < c.wait ∧ 1 ≤ c.value.size ∧ c.value.size ≤ 60

def newP (name : ByteArray) (retry wait : Int) : Ps := ⟨name, retry, wait, ⟨#[]⟩, 0, 0, 0, 0⟩
def startP (c : Ps) (v : ByteArray) : List Pq × Ps :=
  if c.wait = 0 ∨ v.size < 1 ∨ 60 < v.size then ([], c)
  else ([⟨1, (c.id + 1) % 256, layF v ++ c.name⟩], { c with st := 1, value := v, id := (c.id + 1) % 256, again := 0, ticks := 0 })
def tickP (c : Ps) : List Pq × Ps :=
  if c.st = 1 then
    (if c.ticks + 1 < c.wait then ([], { c with ticks := c.ticks + 1 })
    else if c.again = c.retry then ([], { c with ticks := c.ticks + 1, st := 3 })
    else ([⟨1, c.id, layF c.value ++ c.name⟩], { c with again := c.again + 1, ticks := 0 }))
  else ([], c)
def takeP (c : Ps) (code id : Int) (d : ByteArray) : Cm × Bool × Ps :=
  if c.st = 1 ∧ code = 2 ∧ id = c.id ∧ (getValF d).2.2 = 0 then (⟨(getValF d).2.1, c.value, (getValF d).1, c.id⟩, true, { c with st := 2 }) else (noCm, false, c)
def sayP (c : Ps) : List Pq := [⟨if c.st = 4 then 3 else 4, c.id, ⟨#[]⟩⟩]
def judgeP (c : Ps) (good : Bool) : List Pq × Ps :=
  if c.st = 2 then (sayP { c with st := if good then 4 else 5 }, { c with st := if good then 4 else 5 }) else ([], c)
def againP (c : Ps) (code id : Int) : List Pq := if (c.st = 4 ∨ c.st = 5) ∧ code = 2 ∧ id = c.id then sayP c else []
def doneP (c : Ps) : Bool := c.st == 3 || c.st == 4 || c.st == 5

/-- The document's server that goes with one of the program's. -/
def svOf (c : Ps) : Sv := ⟨c.name, c.retry, c.wait, c.id, c.ticks, c.again, c.value, c.st == 1, c.st == 2, c.st == 4 || c.st == 5, doneP c, c.st == 4⟩

theorem GoodP.new {n : ByteArray} {r k : Int} (hn : n.size ≤ 60) (h : 0 ≤ r ∧ r ≤ 10) (hk : 1 ≤ k ∧ k ≤ 100) : GoodP (newP n r k) := ⟨hn, h, hk, by simp [newP], by simp [newP], ⟨by simp [newP], h.1⟩, ⟨by simp [newP], by simp [newP]; omega⟩, by simp [newP]⟩
theorem GoodP.start {c : Ps} (h : GoodP c) (v : ByteArray) : GoodP (startP c v).2 := by
  have h1 := h.wait; have h2 := h.retry; have h3 := h.id
  unfold startP
  split
  · exact h
  · rename_i hv
    exact ⟨h.name, h2, h1, ⟨by show 0 ≤ (c.id + 1) % 256; omega, by show (c.id + 1) % 256 ≤ 255; omega⟩, by simp, ⟨Int.le_refl _, h2.1⟩, ⟨Int.le_refl _, by show 0 ≤ c.wait; omega⟩, fun _ => ⟨by show 0 < c.wait; omega, by show 1 ≤ v.size; omega, by show v.size ≤ 60; omega⟩⟩
theorem GoodP.tick {c : Ps} (h : GoodP c) : GoodP (tickP c).2 := by
  have h1 := h.wait; have h2 := h.retry; have h3 := h.ticks; have h4 := h.again; have h5 := h.id
  unfold tickP
  split
  · rename_i hs
    obtain ⟨e1, e2, e3⟩ := h.early hs
    split
    · exact ⟨h.name, h2, h1, h5, h.st, h4, ⟨by show 0 ≤ c.ticks + 1; omega, by show c.ticks + 1 ≤ c.wait; omega⟩, fun _ => ⟨by assumption, e2, e3⟩⟩
    · split
      · exact ⟨h.name, h2, h1, h5, by simp, h4, ⟨by show 0 ≤ c.ticks + 1; omega, by show c.ticks + 1 ≤ c.wait; omega⟩, fun hh => by simp at hh⟩
      · rename_i hne
        have h7 : c.again + 1 ≤ c.retry := by omega
        exact ⟨h.name, h2, h1, h5, h.st, ⟨by show 0 ≤ c.again + 1; omega, h7⟩, ⟨Int.le_refl _, by show 0 ≤ c.wait; omega⟩, fun _ => ⟨by show 0 < c.wait; omega, e2, e3⟩⟩
  · exact h
theorem GoodP.take {c : Ps} (h : GoodP c) (code id : Int) (d : ByteArray) : GoodP (takeP c code id d).2.2 := by
  unfold takeP
  split
  · exact ⟨h.name, h.retry, h.wait, h.id, by simp, h.again, h.ticks, fun hh => by simp at hh⟩
  · exact h
theorem GoodP.judge {c : Ps} (h : GoodP c) (g : Bool) : GoodP (judgeP c g).2 := by
  unfold judgeP
  split
  · exact ⟨h.name, h.retry, h.wait, h.id, by cases g <;> simp, h.again, h.ticks, fun hh => by cases g <;> simp at hh⟩
  · exact h

/-! What the program's server does is what the document's does. -/
theorem svOf_new (n : ByteArray) (r k : Int) : svOf (newP n r k) = newS n r k := rfl
theorem svOf_start {c : Ps} (h : GoodP c) (v : ByteArray) : startS (svOf c) v = ((startP c v).1, svOf (startP c v).2) := by
  have hw := h.wait
  unfold startS startP
  by_cases hv : v.size < 1 ∨ 60 < v.size
  · rw [if_pos hv, if_pos (Or.inr hv)]
  · rw [if_neg hv, if_neg (by omega)]
    rfl
theorem svOf_tick (c : Ps) : tickS (svOf c) = ((tickP c).1, svOf (tickP c).2) := by
  unfold tickS tickP
  by_cases h1 : c.st = 1
  · rw [if_pos (by simp [svOf, h1]), if_pos h1]
    by_cases h2 : c.ticks + 1 < c.wait
    · rw [if_pos h2, if_pos (by exact h2)]
      rfl
    · rw [if_neg h2, if_neg (by exact h2)]
      by_cases h3 : c.again = c.retry
      · rw [if_pos h3, if_pos (by exact h3)]
        simp [svOf, doneP, h1]
      · rw [if_neg h3, if_neg (by exact h3)]
        rfl
  · rw [if_neg (by simp [svOf, h1]), if_neg h1]
theorem svOf_take (c : Ps) (code id : Int) (d : ByteArray) : takeS (svOf c) code id d = ((takeP c code id d).1, (takeP c code id d).2.1, svOf (takeP c code id d).2.2) := by
  unfold takeS takeP
  by_cases h : c.st = 1 ∧ code = 2 ∧ id = c.id ∧ (getValF d).2.2 = 0
  · rw [if_pos h, if_pos ⟨by simp [svOf, h.1], h.2⟩]
    simp [svOf, doneP, h.1]
  · rw [if_neg h, if_neg (fun ⟨h1, h2⟩ => h ⟨by simpa [svOf] using h1, h2⟩)]
theorem svOf_judge (c : Ps) (g : Bool) : judgeS (svOf c) g = ((judgeP c g).1, svOf (judgeP c g).2) := by
  unfold judgeS judgeP
  by_cases h : c.st = 2
  · rw [if_pos (by simp [svOf, h]), if_pos h]
    cases g <;> simp [svOf, doneP, sayS, sayP, h]
  · rw [if_neg (by simp [svOf, h]), if_neg h]
theorem svOf_again (c : Ps) (code id : Int) : againS (svOf c) code id = againP c code id := by
  unfold againS againP
  by_cases h : (c.st = 4 ∨ c.st = 5) ∧ code = 2 ∧ id = c.id
  · rw [if_pos h, if_pos ⟨h.2.1, h.2.2, by simp [svOf, h.1]⟩]
    by_cases h4 : c.st = 4 <;> simp [sayS, sayP, svOf, h4]
  · rw [if_neg h, if_neg (fun ⟨h1, h2, h3⟩ => h ⟨by simpa [svOf] using h3, h1, h2⟩)]

def psCells (c : Ps) : Array Value := #[.string c.name, .int .i64 c.retry, .int .i64 c.wait, .string c.value, .int .i64 c.id, .int .i64 c.st, .int .i64 c.again, .int .i64 c.ticks]
def PsIn (w : World) (b : Nat) (c : Ps) : Prop := w.heap[b]? = some (.cells (psCells c) 55 (0, 0))

section
variable {w w' : World} {b : Nat} {c : Ps}
theorem PsIn.cell (h : PsIn w b c) (i : Nat) : w.cell? ⟨b, i, none⟩ = (psCells c)[i]? := by
  unfold PsIn at h
  simp [World.cell?, h]
theorem PsIn.c0 (h : PsIn w b c) : w.cell? ⟨b, 0, none⟩ = some (.string c.name) := h.cell 0
theorem PsIn.c1 (h : PsIn w b c) : w.cell? ⟨b, 1, none⟩ = some (.int .i64 c.retry) := h.cell 1
theorem PsIn.c2 (h : PsIn w b c) : w.cell? ⟨b, 2, none⟩ = some (.int .i64 c.wait) := h.cell 2
theorem PsIn.c3 (h : PsIn w b c) : w.cell? ⟨b, 3, none⟩ = some (.string c.value) := h.cell 3
theorem PsIn.c4 (h : PsIn w b c) : w.cell? ⟨b, 4, none⟩ = some (.int .i64 c.id) := h.cell 4
theorem PsIn.c5 (h : PsIn w b c) : w.cell? ⟨b, 5, none⟩ = some (.int .i64 c.st) := h.cell 5
theorem PsIn.c6 (h : PsIn w b c) : w.cell? ⟨b, 6, none⟩ = some (.int .i64 c.again) := h.cell 6
theorem PsIn.c7 (h : PsIn w b c) : w.cell? ⟨b, 7, none⟩ = some (.int .i64 c.ticks) := h.cell 7
theorem PsIn.fz (h : PsIn w b c) (i : Nat) : w.frozen? ⟨b, i, none⟩ = false := by
  unfold PsIn at h
  simp [World.frozen?, h]
theorem PsIn.lt (h : PsIn w b c) : b < w.heap.size := (Array.getElem?_eq_some_iff.1 h).1
theorem PsIn.kept {S : Nat → Prop} (h : PsIn w b c) (hk : Kept S w w') (hS : ¬ S b) : PsIn w' b c := (hk.block b h.lt hS).trans h
theorem PsIn.kept0 (h : PsIn w b c) (hk : Kept (fun _ => False) w w') : PsIn w' b c := h.kept hk id
theorem PsIn.drew (h : PsIn w b c) : PsIn w.drew b c := h
theorem PsIn.set3 (h : PsIn w b c) (x : ByteArray) : PsIn (w.setCell ⟨b, 3, none⟩ (.string x)) b { c with value := x } := Joins.block_setCell h (i := 3) (.string x)
theorem PsIn.set4 (h : PsIn w b c) (x : Int) : PsIn (w.setCell ⟨b, 4, none⟩ (.int .i64 x)) b { c with id := x } := Joins.block_setCell h (i := 4) (.int .i64 x)
theorem PsIn.set5 (h : PsIn w b c) (x : Int) : PsIn (w.setCell ⟨b, 5, none⟩ (.int .i64 x)) b { c with st := x } := Joins.block_setCell h (i := 5) (.int .i64 x)
theorem PsIn.set6 (h : PsIn w b c) (x : Int) : PsIn (w.setCell ⟨b, 6, none⟩ (.int .i64 x)) b { c with again := x } := Joins.block_setCell h (i := 6) (.int .i64 x)
theorem PsIn.set7 (h : PsIn w b c) (x : Int) : PsIn (w.setCell ⟨b, 7, none⟩ (.int .i64 x)) b { c with ticks := x } := Joins.block_setCell h (i := 7) (.int .i64 x)
end

/-! A client of the program: the document's data, and that it was made. -/
def lcCells (c : Cr) : Array Value := #[.bool true, .string c.name, .string c.secret, .bool c.answered, .int .i64 c.id, .bool c.done, .bool c.good]
def LcIn (w : World) (b : Nat) (c : Cr) : Prop := w.heap[b]? = some (.cells (lcCells c) 65 (0, 0))
section
variable {w w' : World} {b : Nat} {c : Cr}
theorem LcIn.cell (h : LcIn w b c) (i : Nat) : w.cell? ⟨b, i, none⟩ = (lcCells c)[i]? := by
  unfold LcIn at h
  simp [World.cell?, h]
theorem LcIn.c0 (h : LcIn w b c) : w.cell? ⟨b, 0, none⟩ = some (.bool true) := h.cell 0
theorem LcIn.c1 (h : LcIn w b c) : w.cell? ⟨b, 1, none⟩ = some (.string c.name) := h.cell 1
theorem LcIn.c2 (h : LcIn w b c) : w.cell? ⟨b, 2, none⟩ = some (.string c.secret) := h.cell 2
theorem LcIn.c3 (h : LcIn w b c) : w.cell? ⟨b, 3, none⟩ = some (.bool c.answered) := h.cell 3
theorem LcIn.c4 (h : LcIn w b c) : w.cell? ⟨b, 4, none⟩ = some (.int .i64 c.id) := h.cell 4
theorem LcIn.c5 (h : LcIn w b c) : w.cell? ⟨b, 5, none⟩ = some (.bool c.done) := h.cell 5
theorem LcIn.c6 (h : LcIn w b c) : w.cell? ⟨b, 6, none⟩ = some (.bool c.good) := h.cell 6
theorem LcIn.fz (h : LcIn w b c) (i : Nat) : w.frozen? ⟨b, i, none⟩ = false := by
  unfold LcIn at h
  simp [World.frozen?, h]
theorem LcIn.lt (h : LcIn w b c) : b < w.heap.size := (Array.getElem?_eq_some_iff.1 h).1
theorem LcIn.kept {S : Nat → Prop} (h : LcIn w b c) (hk : Kept S w w') (hS : ¬ S b) : LcIn w' b c := (hk.block b h.lt hS).trans h
theorem LcIn.kept0 (h : LcIn w b c) (hk : Kept (fun _ => False) w w') : LcIn w' b c := h.kept hk id
theorem LcIn.drew (h : LcIn w b c) : LcIn w.drew b c := h
theorem LcIn.set3 (h : LcIn w b c) (x : Bool) : LcIn (w.setCell ⟨b, 3, none⟩ (.bool x)) b { c with answered := x } := Joins.block_setCell h (i := 3) (.bool x)
theorem LcIn.set4 (h : LcIn w b c) (x : Int) : LcIn (w.setCell ⟨b, 4, none⟩ (.int .i64 x)) b { c with id := x } := Joins.block_setCell h (i := 4) (.int .i64 x)
theorem LcIn.set5 (h : LcIn w b c) (x : Bool) : LcIn (w.setCell ⟨b, 5, none⟩ (.bool x)) b { c with done := x } := Joins.block_setCell h (i := 5) (.bool x)
theorem LcIn.set6 (h : LcIn w b c) (x : Bool) : LcIn (w.setCell ⟨b, 6, none⟩ (.bool x)) b { c with good := x } := Joins.block_setCell h (i := 6) (.bool x)
end

/-- A row of packets is neither. -/
theorem PsIn.ne {w : World} {b base i : Nat} {c : Ps} {v : Value} {l : List Pq} (h : PsIn w b c) (ho : OwnQ w base v l) (hi : v.ownBlock = some i) : i ≠ b := fun e => by
  subst e
  obtain ⟨⟨cur, h1⟩, _⟩ := ho.block hi
  unfold PsIn at h
  rw [h] at h1
  simp at h1
theorem LcIn.ne {w : World} {b base i : Nat} {c : Cr} {v : Value} {l : List Pq} (h : LcIn w b c) (ho : OwnQ w base v l) (hi : v.ownBlock = some i) : i ≠ b := fun e => by
  subst e
  obtain ⟨⟨cur, h1⟩, _⟩ := ho.block hi
  unfold LcIn at h
  rw [h] at h1
  simp at h1
end Go.Proofs.YtndpfcanfcbldaaDoor
