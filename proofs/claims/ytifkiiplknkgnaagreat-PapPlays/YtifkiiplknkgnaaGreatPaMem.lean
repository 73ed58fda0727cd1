/- A client of pap in memory: its seven cells; packets without options in rows of their own; what its calls come to, as plain functions. -/
import Derived.Test.YtifkiiplknkgnaaGreatPaBytes
import Derived.Test.YtifkiiplknkgnaaGreatOpPk
import Derived.Lib.SmallJoins
namespace Go.Proofs.YtifkiiplknkgnaaGreat
open Go.RowKit

/-- A packet without options. -/
structure Pq where
  code : Int
  id : Int
  data : ByteArray
/-- A client as plain data. -/
structure Pc where
  data : ByteArray
  retry : Int
  wait : Int
  id : Int
  st : Int
  again : Int
  ticks : Int
structure GoodC (c : Pc) : Prop where
  retry : 0 ≤ c.retry ∧ c.retry ≤ 10
  wait : 1 ≤ c.wait ∧ c.wait ≤ 100
  id : 0 ≤ c.id ∧ c.id ≤ 255
  st : 0 ≤ c.st ∧ c.st ≤ 3
  again : 0 ≤ c.again ∧ c.again ≤ c.retry
  ticks : 0 ≤ c.ticks ∧ c.ticks ≤ c.wait
  early : c.st = 1 → c.ticks < c.wait

def askC (c : Pc) : Pc := { c with id := (c.id + 1) % 256, ticks := 0 }
def sentC (c : Pc) : List Pq := [⟨1, (c.id + 1) % 256, c.data⟩]
def startC (c : Pc) : List Pq × Pc := (sentC c, askC { c with st := 1, again := 0 })
def tickC (c : Pc) : List Pq × Pc :=
  if c.st = 1 then
    (if c.ticks + 1 < c.wait then ([], { c with ticks := c.ticks + 1 })
    else if c.again = c.retry then ([], { c with ticks := c.ticks + 1, st := 3 })
    else (sentC c, askC { c with ticks := c.ticks + 1, again := c.again + 1 }))
  else ([], c)
def takeC (c : Pc) (code id : Int) : Pc :=
  if c.st = 1 ∧ id = c.id then (if code = 2 then { c with st := 2 } else if code = 3 then { c with st := 3 } else c) else c
def newC (d : ByteArray) (retry wait : Int) : Pc := ⟨d, retry, wait, 0, 0, 0, 0⟩
def doneC (c : Pc) : Bool := decide (c.st = 2) || decide (c.st = 3)

theorem GoodC.new {d : ByteArray} {r k : Int} (h : 0 ≤ r ∧ r ≤ 10) (hk : 1 ≤ k ∧ k ≤ 100) : GoodC (newC d r k) := ⟨h, hk, by simp [newC], by simp [newC], ⟨by simp [newC], h.1⟩, ⟨by simp [newC], by simp [newC]; omega⟩, by simp [newC]⟩
theorem GoodC.start {c : Pc} (h : GoodC c) : GoodC (startC c).2 := by
  have := h.wait; have := h.retry
  refine ⟨h.retry, h.wait, ?_, ?_, ?_, ?_, ?_⟩ <;> simp only [startC, askC] <;> omega
theorem GoodC.tick {c : Pc} (h : GoodC c) : GoodC (tickC c).2 := by
  have h1 := h.wait; have h2 := h.retry; have h3 := h.ticks; have h4 := h.again; have h5 := h.id; have h6 := h.st
  have h8 := h.early
  unfold tickC
  split
  · rename_i hs
    have h9 := h8 hs
    split
    · exact ⟨h2, h1, h5, h6, h4, by simp only; omega, by simp only; omega⟩
    · split
      · exact ⟨h2, h1, h5, by simp only; omega, h4, by simp only; omega, by simp⟩
      · rename_i hne
        have h7 : c.again + 1 ≤ c.retry := by omega
        exact ⟨h2, h1, ⟨by show 0 ≤ (c.id + 1) % 256; omega, by show (c.id + 1) % 256 ≤ 255; omega⟩, h6, ⟨by show 0 ≤ c.again + 1; omega, h7⟩, ⟨Int.le_refl _, by show 0 ≤ c.wait; omega⟩, fun _ => by show 0 < c.wait; omega⟩
  · exact h
theorem GoodC.take {c : Pc} (h : GoodC c) (code id : Int) : GoodC (takeC c code id) := by
  unfold takeC
  split
  · split
    · exact ⟨h.retry, h.wait, h.id, by simp, h.again, h.ticks, by simp⟩
    · split
      · exact ⟨h.retry, h.wait, h.id, by simp, h.again, h.ticks, by simp⟩
      · exact h
  · exact h

def pcCells (c : Pc) : Array Value := #[.string c.data, .int .i64 c.retry, .int .i64 c.wait, .int .i64 c.id, .int .i64 c.st, .int .i64 c.again, .int .i64 c.ticks]
def ClIn (w : World) (b : Nat) (c : Pc) : Prop := w.heap[b]? = some (.cells (pcCells c) 76 (0, 0))

section
variable {w w' : World} {b : Nat} {c : Pc}
theorem ClIn.cell (h : ClIn w b c) (i : Nat) : w.cell? ⟨b, i, none⟩ = (pcCells c)[i]? := by
  unfold ClIn at h
  simp [World.cell?, h]
theorem ClIn.c0 (h : ClIn w b c) : w.cell? ⟨b, 0, none⟩ = some (.string c.data) := h.cell 0
theorem ClIn.c1 (h : ClIn w b c) : w.cell? ⟨b, 1, none⟩ = some (.int .i64 c.retry) := h.cell 1
theorem ClIn.c2 (h : ClIn w b c) : w.cell? ⟨b, 2, none⟩ = some (.int .i64 c.wait) := h.cell 2
theorem ClIn.c3 (h : ClIn w b c) : w.cell? ⟨b, 3, none⟩ = some (.int .i64 c.id) := h.cell 3
theorem ClIn.c4 (h : ClIn w b c) : w.cell? ⟨b, 4, none⟩ = some (.int .i64 c.st) := h.cell 4
theorem ClIn.c5 (h : ClIn w b c) : w.cell? ⟨b, 5, none⟩ = some (.int .i64 c.again) := h.cell 5
theorem ClIn.c6 (h : ClIn w b c) : w.cell? ⟨b, 6, none⟩ = some (.int .i64 c.ticks) := h.cell 6
theorem ClIn.fz (h : ClIn w b c) (i : Nat) : w.frozen? ⟨b, i, none⟩ = false := by
  unfold ClIn at h
  simp [World.frozen?, h]
theorem ClIn.lt (h : ClIn w b c) : b < w.heap.size := (Array.getElem?_eq_some_iff.1 h).1
theorem ClIn.kept {S : Nat → Prop} (h : ClIn w b c) (hk : Kept S w w') (hS : ¬ S b) : ClIn w' b c := (hk.block b h.lt hS).trans h
theorem ClIn.kept0 (h : ClIn w b c) (hk : Kept (fun _ => False) w w') : ClIn w' b c := h.kept hk id
theorem ClIn.drew (h : ClIn w b c) : ClIn w.drew b c := h
theorem ClIn.set3 (h : ClIn w b c) (x : Int) : ClIn (w.setCell ⟨b, 3, none⟩ (.int .i64 x)) b { c with id := x } := Joins.block_setCell h (i := 3) (.int .i64 x)
theorem ClIn.set4 (h : ClIn w b c) (x : Int) : ClIn (w.setCell ⟨b, 4, none⟩ (.int .i64 x)) b { c with st := x } := Joins.block_setCell h (i := 4) (.int .i64 x)
theorem ClIn.set5 (h : ClIn w b c) (x : Int) : ClIn (w.setCell ⟨b, 5, none⟩ (.int .i64 x)) b { c with again := x } := Joins.block_setCell h (i := 5) (.int .i64 x)
theorem ClIn.set6 (h : ClIn w b c) (x : Int) : ClIn (w.setCell ⟨b, 6, none⟩ (.int .i64 x)) b { c with ticks := x } := Joins.block_setCell h (i := 6) (.int .i64 x)
end

/-! Rows of packets without options. -/
theorem infoPq : (Tryz.prog.info? 56).map (fun i => (i.zero, i.size, i.bytes)) = some (some (.agg #[.int .i64 0, .int .i64 0, .slice none 0 0, .string ⟨#[]⟩]), 4, 56) := by kernel_rfl
def pqCells (q : Pq) : List Value := [.int .i64 q.code, .int .i64 q.id, .slice none 0 0, .string q.data]
def pqV (q : Pq) : Value := .agg #[.int .i64 q.code, .int .i64 q.id, .slice none 0 0, .string q.data]
def rowQ (l : List Pq) : List Value := l.flatMap pqCells
/-- The slice v holds the packets of l, in a row that lies at base or behind. -/
def OwnQ (w : World) (base : Nat) (v : Value) (l : List Pq) : Prop := w.ownsRow base 56 4 v l.length (rowQ l)
theorem OwnQ.nil (w : World) (base : Nat) : OwnQ w base (.slice none 0 0) [] := World.ownsRow_nil _ _ _ _
theorem OwnQ.new (w : World) (q : Pq) : OwnQ (w.alloc (.cells #[.int .i64 q.code, .int .i64 q.id, .slice none 0 0, .string q.data] 56)) w.heap.size (.slice (some ⟨w.heap.size, 0, none⟩) 1 1) [q] :=
  ⟨rfl, Or.inr ⟨w.heap.size, 1, #[.int .i64 q.code, .int .i64 q.id, .slice none 0 0, .string q.data], rfl, Nat.le_refl _, heap_alloc_new w _, Nat.le_refl _, by unfold maxLen; omega, rfl, rfl⟩⟩
theorem OwnQ.mono {w : World} {base base' : Nat} {v : Value} {l : List Pq} (h : OwnQ w base v l) (hb : base' ≤ base) : OwnQ w base' v l := by
  rcases h.2 with ⟨rfl, h0⟩ | ⟨g, cap, cur, rfl, hb', hg, h1, h2, h3, h4⟩
  · exact ⟨h.1, Or.inl ⟨rfl, h0⟩⟩
  · exact ⟨h.1, Or.inr ⟨g, cap, cur, rfl, Nat.le_trans hb hb', hg, h1, h2, h3, h4⟩⟩
theorem OwnQ.block {w : World} {base i : Nat} {v : Value} {l : List Pq} (h : OwnQ w base v l) (hi : v.ownBlock = some i) : (∃ cur, w.heap[i]? = some (.cells cur 56 (0, 0))) ∧ base ≤ i := by
  rcases h.2 with ⟨rfl, _⟩ | ⟨g, cap, cur, rfl, hb, hg, _⟩
  · cases hi
  · have : g = i := by simpa [Value.ownBlock] using hi
    subst this
    exact ⟨⟨cur, hg⟩, hb⟩
theorem OwnQ.keptS {S : Nat → Prop} {w w' : World} {base : Nat} {v : Value} {l : List Pq} (h : OwnQ w base v l) (hk : Kept S w w') (hS : ∀ i, v.ownBlock = some i → ¬ S i) : OwnQ w' base v l := by
  rcases h.2 with ⟨rfl, h0⟩ | ⟨g, cap, cur, rfl, hb, hg, r⟩
  · exact ⟨h.1, Or.inl ⟨rfl, h0⟩⟩
  · exact ⟨h.1, Or.inr ⟨g, cap, cur, rfl, hb, (hk.block g (Array.getElem?_eq_some_iff.1 hg).1 (hS g rfl)).trans hg, r⟩⟩
theorem OwnQ.kept {w w' : World} {base : Nat} {v : Value} {l : List Pq} (h : OwnQ w base v l) (hk : Kept (fun _ => False) w w') : OwnQ w' base v l := h.keptS hk (fun _ _ => id)
theorem OwnQ.kept0 {w w' : World} {base : Nat} {v : Value} {l : List Pq} (h : OwnQ w base v l) (hk : Kept (fun _ => False) w w') : OwnQ w' base v l := h.keptS hk (fun _ _ => id)
/-- A row of packets is no client. -/
theorem ClIn.ne {w : World} {b base i : Nat} {c : Pc} {v : Value} {l : List Pq} (h : ClIn w b c) (ho : OwnQ w base v l) (hi : v.ownBlock = some i) : i ≠ b := fun e => by
  subst e
  obtain ⟨⟨cur, h1⟩, _⟩ := ho.block hi
  unfold ClIn at h
  rw [h] at h1
  simp at h1
theorem OwnQ.beside {w w' : World} {b base : Nat} {c : Pc} {v : Value} {l : List Pq} (ho : OwnQ w base v l) (h : ClIn w b c) (hk : Kept (fun i => i = b) w w') : OwnQ w' base v l := ho.keptS hk (fun _ hi => h.ne ho hi)
/-- The one packet of a list. -/
theorem OwnQ.one {w : World} {base : Nat} {v : Value} {q : Pq} (h : OwnQ w base v [q]) : ∃ g cap, v = .slice (some ⟨g, 0, none⟩) 1 cap ∧ 1 ≤ cap ∧ cap ≤ maxLen ∧ base ≤ g ∧ Box4 w g (.int .i64 q.code) (.int .i64 q.id) (.slice none 0 0) (.string q.data) := by
  rcases h.2 with ⟨_, h0⟩ | ⟨g, cap, cur, rfl, hb, hg, h1, h2, h3, h4⟩
  · simp at h0
  · refine ⟨g, cap, rfl, h1, h2, hb, ?_⟩
    have hc : ∀ i, i < 4 → w.cell? ⟨g, i, none⟩ = (rowQ [q])[i]? := fun i hi => by
      rw [← h4, List.getElem?_take_of_lt (by simpa using hi)]
      simp [World.cell?, hg]
    exact ⟨hc 0 (by omega), hc 1 (by omega), hc 2 (by omega), hc 3 (by omega)⟩
end Go.Proofs.YtifkiiplknkgnaaGreat
