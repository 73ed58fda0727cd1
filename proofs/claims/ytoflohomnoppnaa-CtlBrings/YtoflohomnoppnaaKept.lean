/- What is left as it was: every block that lay before the call but those of S. -/
import Derived.Maps.RangeWalk
import Derived.WalkKit
import Derived.Lib.SmallJoins
namespace Go.Proofs.Ytoflohomnoppnaa
open Go.RowKit

/-- Of what lay in w nothing has turned in w' but the blocks of S. -/
structure Kept (S : Nat → Prop) (w w' : World) : Prop where
  os : w'.os = w.os
  tape : w'.tape = w.tape
  output : w'.output = w.output
  size : w.heap.size ≤ w'.heap.size
  block : ∀ k, k < w.heap.size → ¬ S k → w'.heap[k]? = w.heap[k]?

theorem Kept.refl (S : Nat → Prop) (w : World) : Kept S w w := ⟨rfl, rfl, rfl, Nat.le_refl _, fun _ _ _ => rfl⟩

theorem Kept.andThen {S T : Nat → Prop} {a b c : World} (h : Kept S a b) (k : Kept T b c) (hT : ∀ i, i < a.heap.size → T i → S i) : Kept S a c :=
  ⟨k.os.trans h.os, k.tape.trans h.tape, k.output.trans h.output, Nat.le_trans h.size k.size, fun i hi hn => (k.block i (Nat.lt_of_lt_of_le hi h.size) (fun t => hn (hT i hi t))).trans (h.block i hi hn)⟩

theorem Kept.trans {S : Nat → Prop} {a b c : World} (h : Kept S a b) (k : Kept S b c) : Kept S a c := h.andThen k (fun _ _ t => t)

theorem Kept.mono {S T : Nat → Prop} {a b : World} (h : Kept S a b) (hT : ∀ i, i < a.heap.size → S i → T i) : Kept T a b :=
  ⟨h.os, h.tape, h.output, h.size, fun i hi hn => h.block i hi (fun s => hn (hT i hi s))⟩

theorem Kept.drew {S : Nat → Prop} {a w : World} (h : Kept S a w) : Kept S a w.drew := ⟨h.os, h.tape, h.output, h.size, h.block⟩

theorem Kept.drewN {S : Nat → Prop} {a w : World} (h : Kept S a w) (n : Nat) : Kept S a (w.drewN n) := ⟨h.os, h.tape, h.output, h.size, h.block⟩

theorem Kept.alloc {S : Nat → Prop} {a w : World} (h : Kept S a w) (o : Obj) : Kept S a (w.alloc o) :=
  h.andThen (T := fun _ => False) ⟨rfl, rfl, rfl, ((Below.refl 0 w).alloc (Nat.zero_le _) o).size, fun k hk _ => Below.heap_alloc w o k hk⟩ (fun _ _ t => t.elim)

theorem Kept.setCell {S : Nat → Prop} {a w : World} (h : Kept S a w) {p : Addr} (hp : a.heap.size ≤ p.block ∨ S p.block) (u : Value) : Kept S a (w.setCell p u) :=
  h.andThen (T := fun i => i = p.block) (by
    have hb := (Below.refl 0 w).setCell (Nat.zero_le p.block) u
    exact ⟨hb.os, hb.tape, hb.output, hb.size, fun k _ hn => Below.heap_setCell w p u k hn⟩) (fun i hi t => by
    subst t
    rcases hp with hp | hp
    · omega
    · exact hp)

theorem Kept.grown {S : Nat → Prop} {a w w' : World} {row : Option Nat} (h : Kept S a w) (hg : w.grownBy w' row) (hr : ∀ j, row = some j → a.heap.size ≤ j ∨ S j) : Kept S a w' :=
  h.andThen (T := fun i => row = some i) ⟨hg.os, hg.tape, hg.output, hg.size, fun k hk hn => hg.block k hk (fun e => hn e.symm)⟩ (fun i hi t => by
    rcases hr i t with h1 | h1
    · omega
    · exact h1)

theorem Kept.below {S : Nat → Prop} {w w' : World} {B : Nat} (h : Kept S w w') (hB : B ≤ w.heap.size) (hS : ∀ i, S i → B ≤ i) : Below B w w' :=
  ⟨h.os, h.tape, h.output, h.size, fun k hk => h.block k (Nat.lt_of_lt_of_le hk hB) (fun s => by have := hS k s; omega)⟩

theorem Kept.of_below {S : Nat → Prop} {w w' : World} {B : Nat} (h : Below B w w') (hS : ∀ i, i < w.heap.size → B ≤ i → S i) : Kept S w w' :=
  ⟨h.os, h.tape, h.output, h.size, fun k hk hn => h.block k (Nat.lt_of_not_le (fun hb => hn (hS k hk hb)))⟩

theorem Kept.cell {S : Nat → Prop} {w w' : World} (h : Kept S w w') {p : Addr} (hp : p.block < w.heap.size) (hn : ¬ S p.block) : w'.cell? p = w.cell? p := World.cell?_of_block (h.block p.block hp hn)
theorem Kept.frozen {S : Nat → Prop} {w w' : World} (h : Kept S w w') {p : Addr} (hp : p.block < w.heap.size) (hn : ¬ S p.block) : w'.frozen? p = w.frozen? p := World.frozen?_of_block (h.block p.block hp hn)

theorem lt_of_cell {w : World} {p : Addr} {v : Value} (h : w.cell? p = some v) : p.block < w.heap.size := by
  unfold World.cell? at h
  split at h
  · rename_i o ho
    exact (Array.getElem?_eq_some_iff.1 ho).1
  all_goals simp_all

/-- The block g bears cells, as many as before, of the same type, the same of them frozen. -/
def Shape (g : Nat) (w w' : World) : Prop := ∀ cur e fz, w.heap[g]? = some (.cells cur e fz) → ∃ cur', w'.heap[g]? = some (.cells cur' e fz) ∧ cur'.size = cur.size

theorem Shape.same {g : Nat} {w w' : World} (h : w'.heap[g]? = w.heap[g]?) : Shape g w w' := fun cur _ _ hc => ⟨cur, h.trans hc, rfl⟩
theorem Shape.trans {g : Nat} {a b c : World} (h : Shape g a b) (k : Shape g b c) : Shape g a c := fun cur e fz hc => by
  obtain ⟨c1, h1, s1⟩ := h cur e fz hc
  obtain ⟨c2, h2, s2⟩ := k c1 e fz h1
  exact ⟨c2, h2, s2.trans s1⟩
theorem Shape.setCell {g : Nat} {a w : World} (h : Shape g a w) (p : Addr) (hp : p.spot = none) (v : Value) : Shape g a (w.setCell p v) := fun cur e fz hc => by
  obtain ⟨c1, h1, s1⟩ := h cur e fz hc
  by_cases hg : g = p.block
  · subst hg
    obtain ⟨pb, po, ps⟩ := p
    simp only at hp
    subst hp
    exact ⟨_, Joins.block_setCell h1 v, by simpa using s1⟩
  · exact ⟨c1, (Below.heap_setCell w p v g hg).trans h1, s1⟩
theorem Shape.drew {g : Nat} {a w : World} (h : Shape g a w) : Shape g a w.drew := h
theorem Kept.shape {S : Nat → Prop} {g : Nat} {w w' : World} (h : Kept S w w') (hS : ¬ S g) : Shape g w w' := fun cur _ _ hc => ⟨cur, (h.block g (Array.getElem?_eq_some_iff.1 hc).1 hS).trans hc, rfl⟩

/-- Nothing has turned but the cells of the block g. -/
def KeptRow (g : Nat) (w w' : World) : Prop := Kept (fun i => i = g) w w' ∧ Shape g w w'

theorem skolem1 {α γ : Type} {p : α → γ → Prop} (h : ∀ a, ∃ c, p a c) : ∃ F : α → γ, ∀ a, p a (F a) := ⟨fun a => (h a).choose, fun a => (h a).choose_spec⟩
theorem skolem2 {α β γ : Type} {p : α → β → γ → Prop} (h : ∀ a b, ∃ c, p a b c) : ∃ F : α → β → γ, ∀ a b, p a b (F a b) := ⟨fun a b => (h a b).choose, fun a b => (h a b).choose_spec⟩

end Go.Proofs.Ytoflohomnoppnaa
