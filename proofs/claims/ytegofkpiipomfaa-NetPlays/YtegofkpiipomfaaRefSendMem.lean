/- The document's net while it sends: what is read in each round, and what it comes to. -/
import Derived.Test.YtegofkpiipomfaaRefSendKit
import Derived.Test.YtegofkpiipomfaaHeldBut
namespace Go.Proofs.Ytegofkpiipomfaa
open Go.RowKit

/-- Ahead of the loop: the net, the pair's place, and the datagram's box. -/
structure SP (W0 : World) (r : Nat) (p : Option Addr) (cp gw cW : Nat) (s : RefSt) (j : Nat) (y : Wy) (d : Nat) (k i : Int) (x : ByteArray) : Prop where
  ref : RefIn W0 r (.slice p s.grams.length cp) (.slice (some ⟨gw, 0, none⟩) s.ways.length cW) s
  hj : s.ways[j]? = some y
  d0 : W0.cell? ⟨d, 0, none⟩ = some (.int .i64 k)
  d1 : W0.cell? ⟨d, 1, none⟩ = some (.int .i64 i)
  d2 : W0.cell? ⟨d, 2, none⟩ = some (.string x)
  dw : d ≠ gw
  dr : d ≠ r

theorem OwnR.to0 {w : World} {base : Nat} {v : Value} {l : List Gr} (h : OwnR w base v l) : OwnR w 0 v l := by
  refine ⟨h.1, ?_⟩
  rcases h.2 with h0 | ⟨g, cap, cur, h', _, rest⟩
  · exact Or.inl h0
  · exact Or.inr ⟨g, cap, cur, h', Nat.zero_le _, rest⟩

theorem OwnR.heap {w w' : World} {base : Nat} {v : Value} {l : List Gr} (h : OwnR w base v l) (hb : ∀ i, v.ownBlock = some i → w'.heap[i]? = w.heap[i]?) : OwnR w' base v l := by
  refine ⟨h.1, ?_⟩
  rcases h.2 with h0 | ⟨g, cap, cur, rfl, h1, hg, rest⟩
  · exact Or.inl h0
  · exact Or.inr ⟨g, cap, cur, rfl, h1, (hb g rfl).trans hg, rest⟩

/-- The row is another one that is there already; its cell is written. -/
theorem RefIn.rerow2 {w : World} {r : Nat} {lv lv' wv : Value} {s : RefSt} {l : List Gr} (h : RefIn w r lv wv s) (hown : OwnR w 0 lv' l) (hne : lv'.ownBlock ≠ some r) (hw : ∀ i, lv'.ownBlock = some i → wv.ownBlock ≠ some i) :
    RefIn (w.setCell ⟨r, 0, none⟩ lv') r lv' wv { s with grams := l } :=
  ⟨World.cell?_setCell_same _ _ _ h.c0, (World.cell?_setCell_other _ _ _ _ (by simp)).trans h.c1, fun i => (World.frozen?_setCell _ _ _ _).trans (h.f i), hown.same (fun i hi => Below.heap_setCell w _ _ i (fun e => hne (by rw [hi, e]))), h.ways.same (fun i hi => Below.heap_setCell w _ _ i (fun e => h.nw (by rw [hi, e]))), hne, h.nw, hw⟩

section
variable {W0 wr w1 : World} {r gw cW cp j d : Nat} {p : Option Addr} {lv lf : Value} {s : RefSt} {y : Wy} {lost k i : Int} {x : ByteArray} {L : List Gr}

theorem SP.start (h : SP W0 r p cp gw cW s j y d k i x) : LS W0 W0 r (.slice p s.grams.length cp) gw cW s j y y.lost (.slice none 0 0) [] := by
  refine ⟨?_, World.ownsRow_nil _ _ _ _, Kept.refl _ _, h.ref.lt (Or.inr (Or.inr rfl))⟩
  have e : s.ways.set j { y with lost := y.lost } = s.ways := by
    obtain ⟨hl, he⟩ := List.getElem?_eq_some_iff.1 h.hj
    have e2 : ({ y with lost := y.lost } : Wy) = s.ways[j] := by rw [he]
    rw [e2, List.set_getElem_self]
  rw [e]
  exact h.ref

theorem LS.drewN (h : LS W0 wr r lv gw cW s j y lost lf L) (n : Nat) : LS W0 (wr.drewN n) r lv gw cW s j y lost lf L :=
  ⟨h.ref.same (fun _ _ => rfl), h.own.heap (fun _ _ => rfl), h.kept.drewN n, h.lo⟩

structure LA (wr : World) (r : Nat) (lv : Value) (gw cW : Nat) (s : RefSt) (j : Nat) (y : Wy) (d : Nat) (k i : Int) (x : ByteArray) (lost : Int) : Prop where
  c0 : wr.cell? ⟨r, 0, none⟩ = some lv
  c1 : wr.cell? ⟨r, 1, none⟩ = some (.slice (some ⟨gw, 0, none⟩) s.ways.length cW)
  a2 : wr.cell? ⟨gw, j * 5 + 2, none⟩ = some (.int .i64 y.sent)
  a3 : wr.cell? ⟨gw, j * 5 + 3, none⟩ = some (.int .i64 lost)
  a4 : wr.cell? ⟨gw, j * 5 + 4, none⟩ = some (.bool y.cut)
  f3 : wr.frozen? ⟨gw, j * 5 + 3, none⟩ = false
  f0 : wr.frozen? ⟨r, 0, none⟩ = false
  d0 : wr.cell? ⟨d, 0, none⟩ = some (.int .i64 k)
  d1 : wr.cell? ⟨d, 1, none⟩ = some (.int .i64 i)
  d2 : wr.cell? ⟨d, 2, none⟩ = some (.string x)
  le : s.ways.length ≤ cW
  jl : (j : Int) < (s.ways.length : Int)

theorem LS.at (h : LS W0 wr r (.slice p s.grams.length cp) gw cW s j y lost lf L) (hP : SP W0 r p cp gw cW s j y d k i x) : LA wr r (.slice p s.grams.length cp) gw cW s j y d k i x lost := by
  have hjl := (List.getElem?_eq_some_iff.1 hP.hj).1
  have e : (s.ways.set j { y with lost := lost }).length = s.ways.length := List.length_set
  have hw := h.ref.ways
  have hk : (s.ways.set j { y with lost := lost })[j]? = some { y with lost := lost } := by rw [List.getElem?_set_self hjl]
  have hw2 : OwnW wr (.slice (some ⟨gw, 0, none⟩) (s.ways.set j { y with lost := lost }).length cW) (s.ways.set j { y with lost := lost }) := by rw [e]; exact hw
  obtain ⟨_, _, b2, b3, b4⟩ := hw2.cells5 hk
  have hdl : d < W0.heap.size := lt_of_cell hP.d0
  have hd : ∀ q, wr.cell? ⟨d, q, none⟩ = W0.cell? ⟨d, q, none⟩ := fun q => h.kept.cell (p := ⟨d, q, none⟩) hdl (fun e => hP.dw e)
  refine ⟨h.ref.c0, h.ref.c1, b2, b3, b4, hw2.frozenAt _, h.ref.f 0, (hd 0).trans hP.d0, (hd 1).trans hP.d1, (hd 2).trans hP.d2, ?_, by omega⟩
  rcases hw.cases with ⟨e1, _⟩ | ⟨g, cap, e1, h1, _⟩
  · cases e1
  · rw [e] at h1 e1
    cases e1
    exact h1

theorem LS.gram (h : LS W0 wr r (.slice p s.grams.length cp) gw cW s j y lost lf L) {t : Nat} {g : Gr} (hg : s.grams[t]? = some g) :
    ∃ gb, p = some ⟨gb, 0, none⟩ ∧ s.grams.length ≤ cp ∧ wr.cell? ⟨gb, t * 4, none⟩ = some (.int .i64 g.src) ∧ wr.cell? ⟨gb, t * 4 + 1, none⟩ = some (.int .i64 g.dst) ∧ wr.cell? ⟨gb, t * 4 + 2, none⟩ = some (.string g.data) ∧ wr.cell? ⟨gb, t * 4 + 3, none⟩ = some (.int .i64 g.turn) := by
  rcases h.ref.own.cases with ⟨_, e⟩ | ⟨gb, cap, e, _, hr⟩
  · have e' : s.grams = [] := e
    rw [e'] at hg
    simp at hg
  · cases e
    exact ⟨gb, rfl, hr.le, hr.cells4 hg⟩

end
end Go.Proofs.Ytegofkpiipomfaa
