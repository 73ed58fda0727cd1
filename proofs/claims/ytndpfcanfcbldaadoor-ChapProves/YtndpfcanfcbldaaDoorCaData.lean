/- A server and a client of chap as plain data, as the document has them, and what their calls come to. -/
import Derived.Test.YtndpfcanfcbldaaDoorCaPlain
import Derived.Test.YtndpfcanfcbldaaDoorPqMem
namespace Go.Proofs.YtndpfcanfcbldaaDoor
open Go.RowKit

/-- A server as the document has it. -/
structure Sv where
  name : ByteArray
  retry : Int
  wait : Int
  id : Int
  ticks : Int
  tries : Int
  value : ByteArray
  asks : Bool
  waits : Bool
  judged : Bool
  done : Bool
  good : Bool
structure GoodS (c : Sv) : Prop where
  name : c.name.size ≤ 60
  retry : 0 ≤ c.retry ∧ c.retry ≤ 10
  wait : 1 ≤ c.wait ∧ c.wait ≤ 100
  id : 0 ≤ c.id ∧ c.id ≤ 255
  tries : 0 ≤ c.tries ∧ c.tries ≤ c.retry
  ticks : 0 ≤ c.ticks ∧ c.ticks ≤ c.wait
  early : c.asks = true → c.ticks < c.wait ∧ 1 ≤ c.value.size ∧ c.value.size ≤ 60

def newS (name : ByteArray) (retry wait : Int) : Sv := ⟨name, retry, wait, 0, 0, 0, ⟨#[]⟩, false, false, false, false, false⟩
def sayS (c : Sv) : List Pq := [⟨if c.good then 3 else 4, c.id, ⟨#[]⟩⟩]
def startS (c : Sv) (v : ByteArray) : List Pq × Sv :=
  if v.size < 1 ∨ 60 < v.size then ([], c)
  else ([⟨1, (c.id + 1) % 256, layF v ++ c.name⟩], { c with id := (c.id + 1) % 256, value := v, tries := 0, asks := true, waits := false, judged := false, done := false, good := false, ticks := 0 })
def tickS (c : Sv) : List Pq × Sv :=
  if c.asks = true then
    (if c.ticks + 1 < c.wait then ([], { c with ticks := c.ticks + 1 })
    else if c.tries = c.retry then ([], { c with ticks := c.ticks + 1, asks := false, done := true })
    else ([⟨1, c.id, layF c.value ++ c.name⟩], { c with ticks := 0, tries := c.tries + 1 }))
  else ([], c)
/-- What a packet claims: name, value, response, Id. -/
structure Cm where
  name : ByteArray
  value : ByteArray
  response : ByteArray
  id : Int
def noCm : Cm := ⟨⟨#[]⟩, ⟨#[]⟩, ⟨#[]⟩, 0⟩
def cmV (x : Cm) : Value := .agg #[.string x.name, .string x.value, .string x.response, .int .i64 x.id]
def takeS (c : Sv) (code id : Int) (d : ByteArray) : Cm × Bool × Sv :=
  if c.asks = true ∧ code = 2 ∧ id = c.id ∧ (getValF d).2.2 = 0 then (⟨(getValF d).2.1, c.value, (getValF d).1, c.id⟩, true, { c with asks := false, waits := true }) else (noCm, false, c)
def judgeS (c : Sv) (good : Bool) : List Pq × Sv :=
  if c.waits = true then (sayS { c with waits := false, judged := true, done := true, good := good }, { c with waits := false, judged := true, done := true, good := good }) else ([], c)
def againS (c : Sv) (code id : Int) : List Pq := if code = 2 ∧ id = c.id ∧ c.judged = true then sayS c else []

theorem GoodS.new {n : ByteArray} {r k : Int} (hn : n.size ≤ 60) (h : 0 ≤ r ∧ r ≤ 10) (hk : 1 ≤ k ∧ k ≤ 100) : GoodS (newS n r k) := ⟨hn, h, hk, by simp [newS], ⟨by simp [newS], h.1⟩, ⟨by simp [newS], by simp [newS]; omega⟩, by simp [newS]⟩
theorem GoodS.start {c : Sv} (h : GoodS c) (v : ByteArray) : GoodS (startS c v).2 := by
  have h1 := h.wait; have h2 := h.retry; have h3 := h.id
  unfold startS
  split
  · exact h
  · rename_i hv
    exact ⟨h.name, h2, h1, ⟨by show 0 ≤ (c.id + 1) % 256; omega, by show (c.id + 1) % 256 ≤ 255; omega⟩, ⟨Int.le_refl _, h2.1⟩, ⟨Int.le_refl _, by show 0 ≤ c.wait; omega⟩, fun _ => ⟨by show 0 < c.wait; omega, by show 1 ≤ v.size; omega, by show v.size ≤ 60; omega⟩⟩
theorem GoodS.tick {c : Sv} (h : GoodS c) : GoodS (tickS c).2 := by
  have h1 := h.wait; have h2 := h.retry; have h3 := h.ticks; have h4 := h.tries; have h5 := h.id
  unfold tickS
  split
  · rename_i hs
    obtain ⟨e1, e2, e3⟩ := h.early hs
    split
    · exact ⟨h.name, h2, h1, h5, h4, ⟨by show 0 ≤ c.ticks + 1; omega, by show c.ticks + 1 ≤ c.wait; omega⟩, fun _ => ⟨by assumption, e2, e3⟩⟩
    · split
      · exact ⟨h.name, h2, h1, h5, h4, ⟨by show 0 ≤ c.ticks + 1; omega, by show c.ticks + 1 ≤ c.wait; omega⟩, fun hh => by cases hh⟩
      · rename_i hne
        have h7 : c.tries + 1 ≤ c.retry := by omega
        exact ⟨h.name, h2, h1, h5, ⟨by show 0 ≤ c.tries + 1; omega, h7⟩, ⟨Int.le_refl _, by show 0 ≤ c.wait; omega⟩, fun _ => ⟨by show 0 < c.wait; omega, e2, e3⟩⟩
  · exact h
theorem GoodS.take {c : Sv} (h : GoodS c) (code id : Int) (d : ByteArray) : GoodS (takeS c code id d).2.2 := by
  unfold takeS
  split
  · exact ⟨h.name, h.retry, h.wait, h.id, h.tries, h.ticks, fun hh => by cases hh⟩
  · exact h
theorem GoodS.judge {c : Sv} (h : GoodS c) (g : Bool) : GoodS (judgeS c g).2 := by
  unfold judgeS
  split
  · exact ⟨h.name, h.retry, h.wait, h.id, h.tries, h.ticks, h.early⟩
  · exact h

/-- A client as the document has it. -/
structure Cr where
  name : ByteArray
  secret : ByteArray
  done : Bool
  good : Bool
  answered : Bool
  id : Int
def newCr (n s : ByteArray) : Cr := ⟨n, s, false, false, false, 0⟩
def takeCr (K : Int → ByteArray → ByteArray → ByteArray) (c : Cr) (code id : Int) (d : ByteArray) : List Pq × Cr :=
  if code = 1 then (if (getValF d).2.2 = 0 then ([⟨2, id, layF (K id c.secret (getValF d).1) ++ c.name⟩], { c with answered := true, id := id }) else ([], c))
  else if (code = 3 ∨ code = 4) ∧ c.answered = true ∧ id = c.id then ([], { c with done := true, good := code == 3 }) else ([], c)

/-- A store into the block b; nothing has turned, nor has the block b. -/
theorem caOwn {a w : World} {b : Nat} (h : Kept (fun i => i = b) a w) (j : Nat) (u : Value) : Kept (fun i => i = b) a (w.setCell ⟨b, j, none⟩ u) := h.setCell (p := ⟨b, j, none⟩) (Or.inr (by rfl)) u
theorem caNone {a w : World} {b : Nat} (h : Kept (fun _ => False) a w) : Kept (fun i => i = b) a w := h.mono (fun _ _ h => h.elim)
end Go.Proofs.YtndpfcanfcbldaaDoor
