/- An automaton in memory: its four cells; the contracts of its small calls; slices.Contains; reckon. -/
import Derived.Test.YtcmdfcdmfdheeaaAuNext
import Derived.Lib.SmallJoins
namespace Go.Proofs.Ytcmdfcdmfdheeaa
open Go.RowKit

/-- An automaton as plain data. -/
structure Au where
  cf : Int
  tm : Int
  st : Int
  ct : Int
structure GoodA (c : Au) : Prop where
  cf1 : 1 ≤ c.cf
  cf2 : c.cf ≤ 20
  tm1 : 1 ≤ c.tm
  tm2 : c.tm ≤ 20
  st1 : 0 ≤ c.st
  st2 : c.st ≤ 9
  ct1 : 0 ≤ c.ct
  ct2 : c.ct ≤ 20

def hasF (l : List Int) (y : Int) : Bool := l.contains y
def reckonF (cf tm : Int) (acts : List Int) (x ct : Int) : Int :=
  if x = 4 then (if hasF acts 9 then tm else cf) else if x = 5 then 0 else if x = 6 ∨ x = 9 then max (ct - 1) 0 else ct
def countF (cf tm : Int) (acts l : List Int) (ct : Int) : Int := l.foldl (fun k x => reckonF cf tm acts x k) ct
/-- What Do tells, and what it leaves. -/
def doF (c : Au) (e : Int) : List Int × Au := ((nextF c.st e).2, ⟨c.cf, c.tm, (nextF c.st e).1, countF c.cf c.tm (nextF c.st e).2 (nextF c.st e).2 c.ct⟩)
def waitsF (c : Au) : Bool := decide (4 ≤ c.st) && decide (c.st ≤ 8)
def timeF (c : Au) : List Int × Au := if waitsF c then (if 0 < c.ct then doF c 4 else doF c 5) else ([], c)
def newA (cf tm : Int) : Au := ⟨cf, tm, 0, 0⟩

theorem reckon_range {cf tm x ct : Int} {acts : List Int} (h1 : 1 ≤ cf ∧ cf ≤ 20) (h2 : 1 ≤ tm ∧ tm ≤ 20) (h3 : 0 ≤ ct ∧ ct ≤ 20) : 0 ≤ reckonF cf tm acts x ct ∧ reckonF cf tm acts x ct ≤ 20 := by
  unfold reckonF
  split
  · split <;> omega
  · split
    · omega
    · split <;> omega
theorem count_range {cf tm : Int} {acts : List Int} (h1 : 1 ≤ cf ∧ cf ≤ 20) (h2 : 1 ≤ tm ∧ tm ≤ 20) : ∀ (l : List Int) (ct : Int), 0 ≤ ct ∧ ct ≤ 20 → 0 ≤ countF cf tm acts l ct ∧ countF cf tm acts l ct ≤ 20
  | [], _, h => h
  | _ :: l, _, h => count_range h1 h2 l _ (reckon_range h1 h2 h)
theorem next_range {s e : Int} (h : 0 ≤ s ∧ s ≤ 9) : 0 ≤ (nextF s e).1 ∧ (nextF s e).1 ≤ 9 := by
  rcases nextF_is s e with h1 | ⟨r, hr, _, _, h1⟩
  · rw [h1]; exact h
  · rw [h1]
    have := all_of (p := fun r => decide (0 ≤ r.n) && decide (r.n ≤ 9)) (by kernel_rfl) hr
    simpa using this
theorem next_short (s e : Int) : (nextF s e).2.length ≤ 3 := by
  rcases nextF_is s e with h1 | ⟨r, hr, _, _, h1⟩
  · rw [h1]; exact Nat.zero_le _
  · rw [h1]
    have := all_of (p := fun r => decide (r.acts.length ≤ 3)) (by kernel_rfl) hr
    simpa using this
theorem GoodA.new {cf tm : Int} (h1 : 1 ≤ cf ∧ cf ≤ 20) (h2 : 1 ≤ tm ∧ tm ≤ 20) : GoodA (newA cf tm) := ⟨h1.1, h1.2, h2.1, h2.2, by simp [newA], by simp [newA], by simp [newA], by simp [newA]⟩
theorem GoodA.do {c : Au} (h : GoodA c) (e : Int) : GoodA (doF c e).2 := by
  have h1 := next_range (e := e) ⟨h.st1, h.st2⟩
  have h2 := count_range (acts := (nextF c.st e).2) ⟨h.cf1, h.cf2⟩ ⟨h.tm1, h.tm2⟩ (nextF c.st e).2 c.ct ⟨h.ct1, h.ct2⟩
  exact ⟨h.cf1, h.cf2, h.tm1, h.tm2, h1.1, h1.2, h2.1, h2.2⟩
theorem GoodA.time {c : Au} (h : GoodA c) : GoodA (timeF c).2 := by
  unfold timeF
  split
  · split
    · exact h.do 4
    · exact h.do 5
  · exact h

def auCells (c : Au) : Array Value := #[.int .i64 c.cf, .int .i64 c.tm, .int .i64 c.st, .int .i64 c.ct]
def AutoIn (w : World) (b : Nat) (c : Au) : Prop := w.heap[b]? = some (.cells (auCells c) 98 (0, 0))

section
variable {w w' : World} {b : Nat} {c : Au}
theorem AutoIn.cell (h : AutoIn w b c) (i : Nat) : w.cell? ⟨b, i, none⟩ = (auCells c)[i]? := by
  unfold AutoIn at h
  simp [World.cell?, h]
theorem AutoIn.c0 (h : AutoIn w b c) : w.cell? ⟨b, 0, none⟩ = some (.int .i64 c.cf) := h.cell 0
theorem AutoIn.c1 (h : AutoIn w b c) : w.cell? ⟨b, 1, none⟩ = some (.int .i64 c.tm) := h.cell 1
theorem AutoIn.c2 (h : AutoIn w b c) : w.cell? ⟨b, 2, none⟩ = some (.int .i64 c.st) := h.cell 2
theorem AutoIn.c3 (h : AutoIn w b c) : w.cell? ⟨b, 3, none⟩ = some (.int .i64 c.ct) := h.cell 3
theorem AutoIn.fz (h : AutoIn w b c) (i : Nat) : w.frozen? ⟨b, i, none⟩ = false := by
  unfold AutoIn at h
  simp [World.frozen?, h]
theorem AutoIn.lt (h : AutoIn w b c) : b < w.heap.size := (Array.getElem?_eq_some_iff.1 h).1
theorem AutoIn.kept {S : Nat → Prop} (h : AutoIn w b c) (hk : Kept S w w') (hS : ¬ S b) : AutoIn w' b c := (hk.block b h.lt hS).trans h
theorem AutoIn.kept0 (h : AutoIn w b c) (hk : Kept (fun _ => False) w w') : AutoIn w' b c := h.kept hk id
theorem AutoIn.set2 (h : AutoIn w b c) (x : Int) : AutoIn (w.setCell ⟨b, 2, none⟩ (.int .i64 x)) b ⟨c.cf, c.tm, x, c.ct⟩ := Joins.block_setCell h (i := 2) (.int .i64 x)
theorem AutoIn.set3 (h : AutoIn w b c) (x : Int) : AutoIn (w.setCell ⟨b, 3, none⟩ (.int .i64 x)) b ⟨c.cf, c.tm, c.st, x⟩ := Joins.block_setCell h (i := 3) (.int .i64 x)
/-- A list is no automaton. -/
theorem AutoIn.ne (h : AutoIn w b c) {base i : Nat} {v : Value} {l : List Int} (ho : OwnI w base v l) (hi : v.ownBlock = some i) : i ≠ b := fun e => by
  subst e
  obtain ⟨⟨cur, h1⟩, _⟩ := ho.block hi
  unfold AutoIn at h
  rw [h] at h1
  simp at h1
theorem AutoIn.own (h : AutoIn w b c) {base : Nat} {v : Value} {l : List Int} (ho : OwnI w base v l) (hk : Kept (fun i => i = b) w w') : OwnI w' base v l := ho.kept hk (fun _ hi => h.ne ho hi)
end

theorem eqPtrSome (ad : Addr) (w : World) : (binOp .eql 71 (.pointer (some ad)) (.pointer none)).run Try.prog w = .ok (.bool false) w := by kernel_rfl

set_option maxRecDepth 100000 in
theorem isNone_nil (w : World) : Calls Try.prog 55 #[.pointer none] w fun e w' => e = .returned (.bool true) ∧ w' = w := by
  go_enter Try.func55, Try.ntmps55
  go_wp2
  go_ret
  exact ⟨rfl, rfl⟩
set_option maxRecDepth 100000 in
theorem isNone_any (b : Nat) (c : Au) (hg : GoodA c) (w : World) (h : AutoIn w b c) : Calls Try.prog 55 #[.pointer (some ⟨b, 0, none⟩)] w fun e w' => e = .returned (.bool false) ∧ w' = w := by
  have c0 := h.c0
  have hz : (c.cf == 0) = false := by have := hg.cf1; simp; omega
  clear h hg
  go_enter Try.func55, Try.ntmps55
  go_wp2
  go_ret
  exact ⟨rfl, rfl⟩
set_option maxRecDepth 100000 in
theorem state_any (b : Nat) (c : Au) (hg : GoodA c) (w : World) (h : AutoIn w b c) : Calls Try.prog 36 #[.pointer (some ⟨b, 0, none⟩)] w fun e w' => e = .returned (.int .i64 c.st) ∧ w' = w := by
  have c2 := h.c2
  have HN := hid (isNone_any b c hg w h)
  clear h hg
  go_enter Try.func36, Try.ntmps36
  go_wp2_with (go_at_call 55; refine HN.out.mono ?_; rintro e w' ⟨rfl, rfl⟩)
  go_ret
  exact ⟨rfl, rfl⟩
set_option maxRecDepth 100000 in
theorem new_any (cf tm : Int) (h1 : 1 ≤ cf ∧ cf ≤ 20) (h2 : 1 ≤ tm ∧ tm ≤ 20) (w : World) : Calls Try.prog 40 #[.int .i64 cf, .int .i64 tm] w fun e w' => e = .returned (.tuple #[.pointer (some ⟨w.heap.size, 0, none⟩), .int .i64 0]) ∧ AutoIn w' w.heap.size (newA cf tm) ∧ Kept (fun _ => False) w w' := by
  obtain ⟨a1, a2⟩ := h1
  obtain ⟨b1, b2⟩ := h2
  have n1 : ¬ cf < 1 := by omega
  have n2 : ¬ 20 < cf := by omega
  have n3 : ¬ tm < 1 := by omega
  have n4 : ¬ 20 < tm := by omega
  clear a1 a2 b1 b2
  go_enter Try.func40, Try.ntmps40
  go_wp2
  go_ret2
  exact ⟨rfl, heap_alloc_new w _, (Kept.refl _ w).alloc _⟩

set_option maxRecDepth 100000 in
theorem new_bad (cf tm : Int) (h : ¬ (1 ≤ cf ∧ cf ≤ 20 ∧ 1 ≤ tm ∧ tm ≤ 20)) (w : World) : Calls Try.prog 40 #[.int .i64 cf, .int .i64 tm] w fun e w' => e = .returned (.tuple #[.pointer none, .int .i64 1]) ∧ w' = w := by
  by_cases n1 : cf < 1
  · clear h
    go_enter Try.func40, Try.ntmps40
    go_wp2
    go_ret2
    exact ⟨rfl, rfl⟩
  · by_cases n2 : 20 < cf
    · clear h
      go_enter Try.func40, Try.ntmps40
      go_wp2
      go_ret2
      exact ⟨rfl, rfl⟩
    · by_cases n3 : tm < 1
      · clear h
        go_enter Try.func40, Try.ntmps40
        go_wp2
        go_ret2
        exact ⟨rfl, rfl⟩
      · have n4 : 20 < tm := by omega
        clear h
        go_enter Try.func40, Try.ntmps40
        go_wp2
        go_ret2
        exact ⟨rfl, rfl⟩
end Go.Proofs.Ytcmdfcdmfdheeaa
