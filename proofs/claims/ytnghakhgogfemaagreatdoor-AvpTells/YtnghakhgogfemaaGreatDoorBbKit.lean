/- What every book's texts share: lists that share a block, blocks by their types, rows that are written whole (no function named). -/
import Derived.Test.YtnghakhgogfemaaGreatDoorBookKit
import Derived.Test.YtnghakhgogfemaaGreatDoorBbSto
import Derived.Test.YtnghakhgogfemaaGreatDoorTagKit
import Derived.Laws.CopyRow
import Derived.Deep.MidRow
namespace Go.Proofs.YtnghakhgogfemaaGreatDoor
open Go.RowKit

def Shares (u v : Value) : Prop := ∃ g, u.ownBlock = some g ∧ v.ownBlock = some g
def Apart (vs : List Value) : Prop := ∀ (r q : Nat) (u v : Value), vs[r]? = some u → vs[q]? = some v → Shares u v → r = q
theorem Apart.snoc {vs : List Value} (h : Apart vs) {v : Value} (hv : ∀ (r : Nat) (u : Value), vs[r]? = some u → ¬ Shares u v) : Apart (vs ++ [v]) := by
  have key : ∀ (r : Nat) (u : Value), (vs ++ [v])[r]? = some u → (r < vs.length ∧ vs[r]? = some u) ∨ (r = vs.length ∧ u = v) := fun r u hu => by
    by_cases hr : r < vs.length
    · rw [List.getElem?_append_left hr] at hu
      exact Or.inl ⟨hr, hu⟩
    · rw [List.getElem?_append_right (by omega)] at hu
      have := (List.getElem?_eq_some_iff.1 hu).1
      simp at this
      have e : r - vs.length = 0 := by omega
      rw [e] at hu
      simp at hu
      exact Or.inr ⟨by omega, hu.symm⟩
  intro r q u x hu hx hs
  rcases key r u hu with ⟨h1, h2⟩ | ⟨h1, h2⟩ <;> rcases key q x hx with ⟨h3, h4⟩ | ⟨h3, h4⟩
  · exact h r q u x h2 h4 hs
  · subst h4
    exact absurd hs (hv r u h2)
  · subst h2
    obtain ⟨g, g1, g2⟩ := hs
    exact absurd ⟨g, g2, g1⟩ (hv q x h4)
  · omega

theorem Apart.nil : Apart [] := fun r q u v hu => by simp at hu
theorem shares_symm {x y : Value} (h : ¬ Shares x y) : ¬ Shares y x := fun ⟨g, a, b⟩ => h ⟨g, b, a⟩
theorem grew_far {W W' : World} {x y y' : Value} {n : Nat} {k m b : Nat} {e : TypeId} {xs : List Value} (hg : Grew W W' y y' n 1) (hx : W.ownsRow b e k x m xs) (h : ¬ Shares x y) : ¬ Shares x y' := by
  rintro ⟨i, h1, h2⟩
  rcases hg with ⟨g, cap, rfl, rfl, _⟩ | ⟨cap', rfl, _, _⟩
  · exact h ⟨i, h1, h2⟩
  · have hl := (World.ownsRow.lt hx i h1).2
    have e : W.heap.size = i := by simpa [Value.ownBlock] using h2
    omega
/-- Blocks of these types. -/
def TyS (ts : TypeId → Prop) (W : World) (i : Nat) : Prop := ∃ cur t, W.heap[i]? = some (.cells cur t (0, 0)) ∧ ts t
/-- Nothing has turned but blocks of these types, none of them below base. -/
structure BK (ts : TypeId → Prop) (base : Nat) (W W' : World) : Prop where
  b : Below base W W'
  k : Kept (TyS ts W) W W'
theorem BK.refl (ts : TypeId → Prop) (base : Nat) (W : World) : BK ts base W W := ⟨Below.refl _ _, Kept.refl _ _⟩
theorem BK.trans {ts : TypeId → Prop} {base : Nat} {a b c : World} (h : BK ts base a b) (k : BK ts base b c) : BK ts base a c :=
  ⟨h.b.trans k.b, ⟨k.k.os.trans h.k.os, k.k.tape.trans h.k.tape, k.k.output.trans h.k.output, Nat.le_trans h.k.size k.k.size, fun i hi hn => by
    have e := h.k.block i hi hn
    refine (k.k.block i (Nat.lt_of_lt_of_le hi h.k.size) (fun ⟨cur, t, h1, h2⟩ => hn ⟨cur, t, ?_, h2⟩)).trans e
    rw [← e]
    exact h1⟩⟩
theorem BK.none {ts : TypeId → Prop} {base : Nat} {W W' : World} (hk : Kept (fun _ => False) W W') (hb : base ≤ W.heap.size) : BK ts base W W' := ⟨hk.below hb (fun _ h => h.elim), hk.mono (fun _ _ h => h.elim)⟩
theorem BK.own {ts : TypeId → Prop} {base : Nat} {W W' : World} {v : Value} {e : TypeId} {k n : Nat} {xs : List Value} (hk : Kept (fun i => v.ownBlock = some i) W W') (h : W.ownsRow base e k v n xs) (he : ts e) (hb : base ≤ W.heap.size) : BK ts base W W' :=
  ⟨hk.below hb (fun i hi => (World.ownsRow.lt h i hi).1), hk.mono (fun i _ hi => by
    rcases h.2 with ⟨rfl, _⟩ | ⟨g, cap, cur, rfl, _, hg, _⟩
    · cases hi
    · have : g = i := by simpa [Value.ownBlock] using hi
      subst this
      exact ⟨cur, e, hg, he⟩)⟩
def tsK (t : TypeId) : Prop := t = 180 ∨ t = 132
theorem Grew.kept {W W' : World} {v v' : Value} {n m : Nat} (h : Grew W W' v v' n m) : Kept (fun i => v.ownBlock = some i) W W' := by
  rcases h with ⟨g, cap, rfl, rfl, hk⟩ | ⟨cap', rfl, hk, _⟩
  · exact hk.mono (fun i _ hi => by subst hi; rfl)
  · exact hk.mono (fun _ _ h => h.elim)
/-- The blocks of the book itself and of its rows of lists. -/
def Bo (bk : Nat) (v6 v7 : Value) (i : Nat) : Prop := i = bk ∨ v6.ownBlock = some i ∨ v7.ownBlock = some i
theorem set_self {α : Type} {l : List α} {j : Nat} {x : α} (h : l[j]? = some x) : l.set j x = l := by
  apply List.ext_getElem?
  intro i
  by_cases hi : i = j
  · subst hi
    rw [List.getElem?_set_self (List.getElem?_eq_some_iff.1 h).1, h]
  · rw [List.getElem?_set_ne (fun e => hi e.symm)]
/-- 'append', in a region that draws, by what it leaves. -/
theorem stepB_append {P : Program} {ops : Array Oper} {o : Oper} {a : Act} {w : World} {K : Act → World → Prop} {Q : Exit → Act → World → Prop} {E : Prop} (hg : o.guard = none) (d x : Operand) (t : TypeId) (hop : o.op = Op.call { callee := Callee.builtin Builtin.append, args := #[d, x], argTypes := #[t, t] })
    (v u : Value) (hd : a.eval d = v) (hx : a.eval x = u) {v' : Value} {w' : World} (hr : (Builtin.append_ #[t, t] o.type #[v, u]).run P w = .ok v' w') (hK : K (a.put o.dst v') w') :
    if Region.wanted o (yielded ops a.tmps) = true then Oper.wp P o a w K Q else E := by
  rw [if_pos (by simp [Region.wanted, hg])]
  unfold Oper.wp execOp
  simp only [hop, resolve, invoke, builtin, Sem.run_bind, Sem.run_pure, Result.andThen_ok, List.map_toArray, List.map_cons, List.map_nil, hd, hx, hr]
  exact hK
end Go.Proofs.YtnghakhgogfemaaGreatDoor
