/- An end of a way of control messages (chapter 20), as the program keeps it, as plain data, with no Go in it. -/
import Derived.Test.YtoflohomnoppnaaKept
namespace Go.Proofs.Ytoflohomnoppnaa
open Go.RowKit

structure Cn where
  queue : Int
  retry : Int
  wait : Int
  win : Int
  room : Int
  mark : Int
  count : Int
  next : Int
  come : Int
  waits : List ByteArray
  flies : List ByteArray
  owed : Bool
  again : Bool
  ticks : Int
  tries : Int
  dead : Bool
/-- What goes over the way. -/
structure Ite where
  ns : Int
  nr : Int
  body : ByteArray
def wrapN (v : Int) : Int := v % 65536
theorem wrapN_in (v : Int) : 0 ≤ wrapN v ∧ wrapN v ≤ 65535 := by unfold wrapN; omega
def numN (v : Int) : Bool := decide (0 ≤ v) && decide (v ≤ 65535)
def beforeN (a b : Int) : Bool := decide (1 ≤ wrapN (b - a)) && decide (wrapN (b - a) ≤ 32767)
def newN (win queue retry wait first : Int) : Cn := ⟨queue, retry, wait, win, 1, win, 0, first, first, [], [], false, false, 0, 0, false⟩
def newOkN (win queue retry wait first : Int) : Bool := decide (1 ≤ win) && (decide (win ≤ 64) && (decide (1 ≤ queue) && (decide (queue ≤ 40) && (decide (0 ≤ retry) && (decide (retry ≤ 10) && (decide (1 ≤ wait) && (decide (wait ≤ 100) && (decide (0 ≤ first) && decide (first ≤ 65535)))))))))
def winN (c : Cn) (n : Int) : Cn × Int :=
  if n < 1 ∨ 64 < n then (c, 1) else ({ c with win := n, mark := n, room := if c.room ≤ n then c.room else n }, 0)
def giveN (c : Cn) (x : ByteArray) : Cn × Int :=
  if c.dead = true then (c, 20) else if x.size = 0 ∨ 1500 < x.size then (c, 1) else if c.queue ≤ (c.waits.length : Int) then (c, 10) else ({ c with waits := c.waits ++ [x] }, 0)
/-- One is acked: the room. -/
def growN (c : Cn) : Cn :=
  if c.room < c.mark then { c with room := c.room + 1 }
  else if c.count + 1 < c.room then { c with count := c.count + 1 }
  else { c with room := if c.room + 1 ≤ c.win then c.room + 1 else c.win, count := 0 }
def growsN : Nat → Cn → Cn
  | 0, c => c
  | n + 1, c => growsN n (growN c)
def firstN (c : Cn) : Int := wrapN (c.next - (c.flies.length : Int))
/-- How many, from the place n on, are acked by nr; k are left. -/
def goN (f nr : Int) : Nat → Nat → Nat
  | 0, n => n
  | k + 1, n => if beforeN (f + (n : Int)) nr = true then goN f nr k (n + 1) else n
def ackedN (c : Cn) (nr : Int) : Nat := if beforeN c.next nr = true then 0 else goN (firstN c) nr c.flies.length 0
def landN (c : Cn) (n : Nat) : Cn := if n = 0 then c else growsN n { c with flies := c.flies.drop n, tries := 0, ticks := 0, again := false }
def takeN (c : Cn) (i : Ite) : Cn × List ByteArray :=
  if c.dead = true ∨ numN i.ns = false ∨ numN i.nr = false then (c, [])
  else if i.body.size = 0 then (landN c (ackedN c i.nr), [])
  else if i.ns = (landN c (ackedN c i.nr)).come then ({ landN c (ackedN c i.nr) with owed := true, come := wrapN ((landN c (ackedN c i.nr)).come + 1) }, [i.body])
  else ({ landN c (ackedN c i.nr) with owed := true }, [])
/-- The first one that waits flies. -/
def launchN (c : Cn) (x : ByteArray) (r : List ByteArray) : Cn := { c with waits := r, flies := c.flies ++ [x], next := wrapN (c.next + 1), ticks := 0 }
def flyN : Nat → Cn → List Ite → Cn × List Ite
  | 0, c, o => (c, o)
  | n + 1, c, o => match c.waits with
    | [] => (c, o)
    | x :: r => if (c.flies.length : Int) < c.room then flyN n (launchN c x r) (o ++ [⟨c.next, c.come, x⟩]) else (c, o)
def againN (c : Cn) : List Ite := if c.again = true then (match c.flies with | [] => [] | x :: _ => [⟨firstN c, c.come, x⟩]) else []
def ackOf (c : Cn) (o : List Ite) : List Ite := if o = [] ∧ c.owed = true then [⟨c.next, c.come, ⟨#[]⟩⟩] else o
def quiet (c : Cn) : Cn := { c with again := false, owed := false }
def outN (c : Cn) : Cn × List Ite :=
  if c.dead = true then (c, [])
  else (quiet (flyN c.waits.length c (againN c)).1, ackOf (flyN c.waits.length c (againN c)).1 (flyN c.waits.length c (againN c)).2)
def fallN (c : Cn) : Cn := { c with mark := if 1 ≤ c.room / 2 then c.room / 2 else 1, room := 1, count := 0 }
def waitN (c : Cn) : Int := if c.tries ≤ 0 then c.wait else if c.tries = 1 then c.wait * 2 else if c.tries = 2 then c.wait * 4 else c.wait * 8
def tickN (c : Cn) : Cn :=
  if c.dead = true ∨ c.flies = [] then c
  else if c.ticks + 1 < waitN c then { c with ticks := c.ticks + 1 }
  else if c.tries = c.retry then { c with ticks := c.ticks + 1, dead := true }
  else fallN { c with tries := c.tries + 1, ticks := 0, again := true }
/-- What stays true of an end. -/
structure GoodN (c : Cn) : Prop where
  queue : 1 ≤ c.queue ∧ c.queue ≤ 40
  retry : 0 ≤ c.retry ∧ c.retry ≤ 10
  wait : 1 ≤ c.wait ∧ c.wait ≤ 100
  win : 1 ≤ c.win ∧ c.win ≤ 64
  room : 1 ≤ c.room ∧ c.room ≤ c.win
  mark : 1 ≤ c.mark ∧ c.mark ≤ c.win
  count : 0 ≤ c.count ∧ c.count ≤ 64
  next : 0 ≤ c.next ∧ c.next ≤ 65535
  come : 0 ≤ c.come ∧ c.come ≤ 65535
  waits : (c.waits.length : Int) ≤ c.queue ∧ ∀ x ∈ c.waits, x.size ≤ 1500
  flies : c.flies.length ≤ 64 ∧ ∀ x ∈ c.flies, x.size ≤ 1500
  ticks : 0 ≤ c.ticks ∧ c.ticks ≤ 800
  tries : 0 ≤ c.tries ∧ c.tries ≤ c.retry
  again : c.again = true → c.flies ≠ []
  early : c.dead = false → c.ticks ≤ 799
theorem good_newN {win queue retry wait first : Int} (h : newOkN win queue retry wait first = true) : GoodN (newN win queue retry wait first) := by
  simp only [newOkN, Bool.and_eq_true, decide_eq_true_eq] at h
  obtain ⟨h1, h2, h3, h4, h5, h6, h7, h8, h9, h10⟩ := h
  exact ⟨⟨h3, h4⟩, ⟨h5, h6⟩, ⟨h7, h8⟩, ⟨h1, h2⟩, ⟨by simp [newN], by simpa [newN] using h1⟩, ⟨h1, Int.le_refl _⟩, ⟨by simp [newN], by simp [newN]⟩, ⟨h9, h10⟩, ⟨h9, h10⟩, ⟨by simp [newN]; omega, fun x hx => by simp [newN] at hx⟩, ⟨by simp [newN], fun x hx => by simp [newN] at hx⟩, ⟨by simp [newN], by simp [newN]⟩, ⟨by simp [newN], by simpa [newN] using h5⟩, fun h => by simp [newN] at h, fun _ => by simp [newN]⟩
theorem good_winN {c : Cn} (h : GoodN c) (n : Int) : GoodN (winN c n).1 := by
  have hr := h.room
  unfold winN
  split
  · exact h
  · rename_i hn
    have h1 : ¬ n < 1 := fun g => hn (Or.inl g)
    have h2 : ¬ 64 < n := fun g => hn (Or.inr g)
    exact { h with win := ⟨by dsimp only; omega, by dsimp only; omega⟩, mark := ⟨by dsimp only; omega, Int.le_refl _⟩, room := by dsimp only; split <;> omega }
theorem good_giveN {c : Cn} (h : GoodN c) (x : ByteArray) : GoodN (giveN c x).1 := by
  unfold giveN
  split
  · exact h
  · split
    · exact h
    · split
      · exact h
      · rename_i h1 h2 h3
        refine { h with waits := ⟨by simp only [List.length_append, List.length_cons, List.length_nil]; omega, fun y hy => ?_⟩ }
        rcases List.mem_append.1 hy with g | g
        · exact h.waits.2 y g
        · simp at g
          subst g
          omega
theorem good_growN {c : Cn} (h : GoodN c) : GoodN (growN c) := by
  have hr := h.room; have hm := h.mark; have hc := h.count; have hw := h.win
  unfold growN
  split
  · exact { h with room := ⟨by dsimp only; omega, by dsimp only; omega⟩ }
  · split
    · exact { h with count := ⟨by dsimp only; omega, by dsimp only; omega⟩ }
    · exact { h with room := by dsimp only; split <;> omega, count := ⟨by dsimp only; omega, by dsimp only; omega⟩ }
theorem good_growsN : ∀ (n : Nat) {c : Cn}, GoodN c → GoodN (growsN n c)
  | 0, _, h => h
  | n + 1, _, h => good_growsN n (good_growN h)
theorem good_landN {c : Cn} (h : GoodN c) (n : Nat) : GoodN (landN c n) := by
  unfold landN
  split
  · exact h
  · have ht := h.retry
    exact good_growsN n { h with flies := ⟨by simp only [List.length_drop]; have := h.flies.1; omega, fun x hx => h.flies.2 x (List.mem_of_mem_drop hx)⟩, ticks := ⟨by dsimp only; omega, by dsimp only; omega⟩, tries := ⟨by dsimp only; omega, by dsimp only; omega⟩, again := fun g => by simp at g, early := fun _ => by dsimp only; omega }
/-- What grows leaves the rest. -/
theorem growN_rest (c : Cn) : (growN c).queue = c.queue ∧ (growN c).retry = c.retry ∧ (growN c).wait = c.wait ∧ (growN c).win = c.win ∧ (growN c).mark = c.mark ∧ (growN c).next = c.next ∧ (growN c).come = c.come ∧ (growN c).waits = c.waits ∧ (growN c).flies = c.flies ∧ (growN c).owed = c.owed ∧ (growN c).again = c.again ∧ (growN c).ticks = c.ticks ∧ (growN c).tries = c.tries ∧ (growN c).dead = c.dead := by
  unfold growN
  split
  · exact ⟨rfl, rfl, rfl, rfl, rfl, rfl, rfl, rfl, rfl, rfl, rfl, rfl, rfl, rfl⟩
  · split <;> exact ⟨rfl, rfl, rfl, rfl, rfl, rfl, rfl, rfl, rfl, rfl, rfl, rfl, rfl, rfl⟩
theorem growsN_rest : ∀ (n : Nat) (c : Cn), (growsN n c).queue = c.queue ∧ (growsN n c).retry = c.retry ∧ (growsN n c).wait = c.wait ∧ (growsN n c).win = c.win ∧ (growsN n c).mark = c.mark ∧ (growsN n c).next = c.next ∧ (growsN n c).come = c.come ∧ (growsN n c).waits = c.waits ∧ (growsN n c).flies = c.flies ∧ (growsN n c).owed = c.owed ∧ (growsN n c).again = c.again ∧ (growsN n c).ticks = c.ticks ∧ (growsN n c).tries = c.tries ∧ (growsN n c).dead = c.dead
  | 0, _ => ⟨rfl, rfl, rfl, rfl, rfl, rfl, rfl, rfl, rfl, rfl, rfl, rfl, rfl, rfl⟩
  | n + 1, c => by
    obtain ⟨a1, a2, a3, a4, a5, a6, a7, a8, a9, a10, a11, a12, a13, a14⟩ := growsN_rest n (growN c)
    obtain ⟨b1, b2, b3, b4, b5, b6, b7, b8, b9, b10, b11, b12, b13, b14⟩ := growN_rest c
    exact ⟨a1.trans b1, a2.trans b2, a3.trans b3, a4.trans b4, a5.trans b5, a6.trans b6, a7.trans b7, a8.trans b8, a9.trans b9, a10.trans b10, a11.trans b11, a12.trans b12, a13.trans b13, a14.trans b14⟩
theorem good_takeN {c : Cn} (h : GoodN c) (i : Ite) : GoodN (takeN c i).1 := by
  have hl := good_landN h (ackedN c i.nr)
  unfold takeN
  split
  · exact h
  · split
    · exact hl
    · split
      · exact { hl with come := wrapN_in _ }
      · exact { hl with }
theorem good_launchN {c : Cn} (h : GoodN c) {x : ByteArray} {r : List ByteArray} (hw : c.waits = x :: r) (hf : (c.flies.length : Int) < c.room) : GoodN (launchN c x r) := by
  have h1 := h.waits
  have h2 := h.flies
  have hr := h.room
  have hn := h.win
  rw [hw] at h1
  unfold launchN
  refine { h with waits := ⟨by have := h1.1; simp only [List.length_cons] at this; dsimp only; omega, fun y hy => h1.2 y (List.mem_cons_of_mem _ hy)⟩, flies := ⟨by simp only [List.length_append, List.length_cons, List.length_nil]; omega, fun y hy => ?_⟩, next := wrapN_in _, ticks := ⟨by dsimp only; omega, by dsimp only; omega⟩, again := fun _ => by simp, early := fun _ => by dsimp only; omega }
  rcases List.mem_append.1 hy with g | g
  · exact h2.2 y g
  · simp at g
    subst g
    exact h1.2 _ List.mem_cons_self
theorem good_flyN : ∀ (n : Nat) {c : Cn} (o : List Ite), GoodN c → GoodN (flyN n c o).1
  | 0, _, _, h => h
  | n + 1, c, o, h => by
    unfold flyN
    split
    · exact h
    · rename_i x r hw
      split
      · rename_i hf
        exact good_flyN n _ (good_launchN h hw hf)
      · exact h
theorem good_quiet {c : Cn} (h : GoodN c) : GoodN (quiet c) := { h with again := fun g => by simp [quiet] at g }
theorem good_outN {c : Cn} (h : GoodN c) : GoodN (outN c).1 := by
  unfold outN
  split
  · exact h
  · exact good_quiet (good_flyN _ _ h)
theorem waitN_in {c : Cn} (h : GoodN c) : 1 ≤ waitN c ∧ waitN c ≤ 800 := by
  have hw := h.wait
  unfold waitN
  split
  · omega
  · split
    · omega
    · split <;> omega
theorem good_tickN {c : Cn} (h : GoodN c) : GoodN (tickN c) := by
  have hw := waitN_in h
  have ht := h.ticks; have hr := h.room; have hn := h.win; have hs := h.tries
  unfold tickN
  split
  · exact h
  · rename_i hd
    have hf : c.flies ≠ [] := fun g => hd (Or.inr g)
    split
    · rename_i hlt
      exact { h with ticks := ⟨by dsimp only; omega, by dsimp only; omega⟩, early := fun _ => by dsimp only; omega }
    · have he : c.ticks ≤ 799 := h.early (by
        cases hx : c.dead with
        | false => rfl
        | true => exact absurd (Or.inl hx) hd)
      split
      · exact { h with ticks := ⟨by dsimp only; omega, by dsimp only; omega⟩, early := fun g => by simp at g }
      · rename_i hne
        have t1 : c.tries + 1 ≤ c.retry := by omega
        exact ⟨h.queue, h.retry, h.wait, h.win, ⟨Int.le_refl _, h.win.1⟩, by show 1 ≤ (if 1 ≤ c.room / 2 then c.room / 2 else 1) ∧ (if 1 ≤ c.room / 2 then c.room / 2 else 1) ≤ c.win; split <;> omega, ⟨Int.le_refl _, by show (0 : Int) ≤ 64; omega⟩, h.next, h.come, h.waits, h.flies, ⟨Int.le_refl _, by show (0 : Int) ≤ 800; omega⟩, ⟨by show 0 ≤ c.tries + 1; omega, t1⟩, fun _ => hf, fun _ => by show (0 : Int) ≤ 799; omega⟩
end Go.Proofs.Ytoflohomnoppnaa
