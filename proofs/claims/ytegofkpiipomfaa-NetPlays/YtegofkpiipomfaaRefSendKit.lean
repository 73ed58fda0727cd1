/- What the document's Send leans on: what is left of a net's datagrams, and the row of these under way. -/
import Derived.Test.YtegofkpiipomfaaRefDeliver
import Derived.Deep.AppendLies
namespace Go.Proofs.Ytegofkpiipomfaa
open Go.RowKit

def restG (k i sent : Int) (l : List Gr) : List Gr := l.filter fun x => !oldG k i sent x
def goneN (k i sent : Int) (l : List Gr) : Int := ((l.filter fun x => oldG k i sent x).length : Int)
theorem take_next {l : List Gr} {t : Nat} {x : Gr} (h : l[t]? = some x) : l.take (t + 1) = l.take t ++ [x] := by
  obtain ⟨hl, hx⟩ := List.getElem?_eq_some_iff.1 h
  rw [List.take_succ_eq_append_getElem hl, hx]
theorem rest_old {k i sent : Int} {l : List Gr} {t : Nat} {x : Gr} (h : l[t]? = some x) (ho : oldG k i sent x = true) : restG k i sent (l.take (t + 1)) = restG k i sent (l.take t) ∧ goneN k i sent (l.take (t + 1)) = goneN k i sent (l.take t) + 1 := by
  rw [take_next h]
  unfold restG goneN
  rw [List.filter_append, List.filter_append]
  simp [ho]
theorem rest_new {k i sent : Int} {l : List Gr} {t : Nat} {x : Gr} (h : l[t]? = some x) (ho : oldG k i sent x = false) : restG k i sent (l.take (t + 1)) = restG k i sent (l.take t) ++ [x] ∧ goneN k i sent (l.take (t + 1)) = goneN k i sent (l.take t) := by
  rw [take_next h]
  unfold restG goneN
  rw [List.filter_append, List.filter_append]
  simp [ho]
theorem rest_len (k i sent : Int) (l : List Gr) (t : Nat) : (restG k i sent (l.take t)).length ≤ l.length := by
  unfold restG
  exact Nat.le_trans (List.length_filter_le _ _) (by rw [List.length_take]; omega)
theorem gone_le (k i sent : Int) (l : List Gr) (t : Nat) : 0 ≤ goneN k i sent (l.take t) ∧ goneN k i sent (l.take t) ≤ (l.length : Int) := by
  unfold goneN
  have := List.length_filter_le (fun x => oldG k i sent x) (l.take t)
  rw [List.length_take] at this
  omega

/-- The document's net, of which some datagrams are looked through: what is left of these is in a row of its own. -/
structure LS (W0 wr : World) (r : Nat) (lv : Value) (gw c : Nat) (s : RefSt) (j : Nat) (y : Wy) (lost : Int) (lf : Value) (L : List Gr) : Prop where
  ref : RefIn wr r lv (.slice (some ⟨gw, 0, none⟩) s.ways.length c) { s with ways := s.ways.set j { y with lost := lost } }
  own : OwnR wr W0.heap.size lf L
  kept : Kept (fun q => q = gw) W0 wr
  lo : gw < W0.heap.size

section
variable {W0 wr w1 : World} {r gw c j : Nat} {lv lf lf' : Value} {s : RefSt} {y : Wy} {lost : Int} {L L' : List Gr}
theorem LS.lose (h : LS W0 wr r lv gw c s j y lost lf L) (hj : s.ways[j]? = some y) : LS W0 (wr.setCell ⟨gw, j * 5 + 3, none⟩ (.int .i64 (lost + 1))) r lv gw c s j y (lost + 1) lf L := by
  have hlt := (List.getElem?_eq_some_iff.1 hj).1
  refine ⟨?_, ?_, h.kept.setCell (Or.inr rfl) _, h.lo⟩
  · have hr := h.ref
    have e : (s.ways.set j { y with lost := lost }).length = s.ways.length := List.length_set
    rw [← e] at hr ⊢
    have hk : (s.ways.set j { y with lost := lost })[j]? = some { y with lost := lost } := by rw [List.getElem?_set_self hlt]
    have h2 := RefIn.setWay (s := { s with ways := s.ways.set j { y with lost := lost } }) (q := 3) (u := .int .i64 (lost + 1)) (y' := { y with lost := lost + 1 }) hr hk (by decide) rfl
    rw [List.set_set] at h2
    exact h2
  · refine ⟨h.own.1, ?_⟩
    rcases h.own.2 with h0 | ⟨g, cap, cur, rfl, h1, hg, rest⟩
    · exact Or.inl h0
    · exact Or.inr ⟨g, cap, cur, rfl, h1, (Below.heap_setCell wr _ _ g (fun e => by have := h.lo; have e' : g = gw := e; omega)).trans hg, rest⟩
theorem LS.more (h : LS W0 wr r lv gw c s j y lost lf L) (hlv : ∀ q, lv.ownBlock = some q → q < W0.heap.size) (hr0 : r < W0.heap.size) {o : Obj} (hg : (wr.alloc o).grownBy w1 lf.ownBlock) (hown : OwnR w1 W0.heap.size lf' L') : LS W0 w1 r lv gw c s j y lost lf' L' := by
  have hb : ∀ q, lf.ownBlock = some q → W0.heap.size ≤ q := fun q hq => (World.ownsRow.lt h.own q hq).1
  have hk : Kept (fun q => W0.heap.size ≤ q) wr w1 := ((Kept.refl _ wr).alloc o).grown hg (fun q hq => Or.inr (hb q hq))
  refine ⟨h.ref.kept hk (fun q hq hle => ?_), hown, (h.kept.alloc o).grown hg (fun q hq => Or.inl (hb q hq)), h.lo⟩
  rcases hq with e | e | e
  · subst e
    omega
  · have := hlv q e
    omega
  · have e' : gw = q := by simpa [Value.ownBlock] using e
    have := h.lo
    omega
end
end Go.Proofs.Ytegofkpiipomfaa
