/- The document's net behind the loop of a Send: what it comes to. -/
import Derived.Test.YtegofkpiipomfaaRefSendMem
namespace Go.Proofs.Ytegofkpiipomfaa
open Go.RowKit

section
variable {T : Nat → Prop} {w W0 wr w7 w' : World} {r gw cW cp j d : Nat} {p : Option Addr} {lf lv7 : Value} {s st : RefSt} {y : Wy} {lost k i : Int} {x : ByteArray} {L L7 : List Gr}

theorem LS.block (h : LS W0 wr r (.slice p s.grams.length cp) gw cW s j y lost lf L) : ∀ q, lf.ownBlock = some q → W0.heap.size ≤ q := fun q hq => (World.ownsRow.lt h.own q hq).1

theorem LS.rerow (h : LS W0 wr r (.slice p s.grams.length cp) gw cW s j y lost lf L) (hP : SP W0 r p cp gw cW s j y d k i x) :
    RefIn (wr.setCell ⟨r, 0, none⟩ lf) r lf (.slice (some ⟨gw, 0, none⟩) s.ways.length cW) ⟨L, s.ways.set j { y with lost := lost }⟩ := by
  refine h.ref.rerow2 h.own.to0 (fun e => ?_) (fun q hq e => ?_)
  · have h1 := h.block r e
    have h2 := hP.ref.lt (i := r) (Or.inl rfl)
    omega
  · have h1 := h.block q hq
    have h2 := hP.ref.lt (i := q) (Or.inr (Or.inr e))
    omega

/-- The pair is shut: it is lost at once. -/
theorem LS.shut (h : LS W0 wr r (.slice p s.grams.length cp) gw cW s j y lost lf L) (hP : SP W0 r p cp gw cW s j y d k i x) :
    RefIn ((wr.setCell ⟨r, 0, none⟩ lf).setCell ⟨gw, j * 5 + 3, none⟩ (.int .i64 (lost + 1))) r lf (.slice (some ⟨gw, 0, none⟩) s.ways.length cW) ⟨L, s.ways.set j { y with lost := lost + 1 }⟩ ∧ Kept (fun q => q = gw ∨ q = r) W0 ((wr.setCell ⟨r, 0, none⟩ lf).setCell ⟨gw, j * 5 + 3, none⟩ (.int .i64 (lost + 1))) := by
  have hlt := (List.getElem?_eq_some_iff.1 hP.hj).1
  have hr := h.rerow hP
  have e : (s.ways.set j { y with lost := lost }).length = s.ways.length := List.length_set
  have hk : (s.ways.set j { y with lost := lost })[j]? = some { y with lost := lost } := by rw [List.getElem?_set_self hlt]
  refine ⟨?_, ((h.kept.mono (T := fun q => q = gw ∨ q = r) (fun _ _ e => Or.inl e)).setCell (p := ⟨r, 0, none⟩) (Or.inr (Or.inr (by rfl))) _).setCell (p := ⟨gw, j * 5 + 3, none⟩) (Or.inr (Or.inl (by rfl))) _⟩
  rw [← e] at hr ⊢
  have h2 := RefIn.setWay (s := ⟨L, s.ways.set j { y with lost := lost }⟩) (q := 3) (u := .int .i64 (lost + 1)) (y' := { y with lost := lost + 1 }) hr hk (by decide) rfl
  simp only [List.set_set] at h2
  exact h2

/-- The pair is open: it is one more. -/
theorem LS.sent (h : LS W0 wr r (.slice p s.grams.length cp) gw cW s j y lost lf L) (hP : SP W0 r p cp gw cW s j y d k i x) {o : Obj} (hg : ((wr.setCell ⟨r, 0, none⟩ lf).drew.alloc o).grownBy w7 lf.ownBlock) (hown : OwnR w7 0 lv7 L7) (hb : lv7.ownBlock = lf.ownBlock ∨ lv7.ownBlock = some ((wr.setCell ⟨r, 0, none⟩ lf).drew.alloc o).heap.size) :
    RefIn (w7.setCell ⟨r, 0, none⟩ lv7) r lv7 (.slice (some ⟨gw, 0, none⟩) s.ways.length cW) ⟨L7, s.ways.set j { y with lost := lost }⟩ ∧ Kept (fun q => q = gw ∨ q = r) W0 (w7.setCell ⟨r, 0, none⟩ lv7) ∧ ∀ q, lv7.ownBlock = some q → W0.heap.size ≤ q := by
  have hr := h.rerow hP
  have hbl := h.block
  have hrl := hP.ref.lt (i := r) (Or.inl rfl)
  have hgl := hP.ref.lt (i := gw) (Or.inr (Or.inr rfl))
  have hk1 : Kept (fun q => q = gw ∨ q = r) W0 ((wr.setCell ⟨r, 0, none⟩ lf).drew.alloc o) := (((h.kept.mono (T := fun q => q = gw ∨ q = r) (fun _ _ e => Or.inl e)).setCell (p := ⟨r, 0, none⟩) (Or.inr (Or.inr (by rfl))) _).drew).alloc o
  have hk7 : Kept (fun q => q = gw ∨ q = r) W0 w7 := hk1.grown hg (fun q hq => Or.inl (hbl q hq))
  have hn7 : ∀ q, lv7.ownBlock = some q → W0.heap.size ≤ q := fun q hq => by
    rcases hb with e | e
    · exact hbl q (e ▸ hq)
    · rw [e] at hq
      have := Option.some.inj hq
      have := hk1.size
      omega
  refine ⟨?_, hk7.setCell (Or.inr (Or.inr rfl)) _, hn7⟩
  have hkr : Kept (fun q => lf.ownBlock = some q) (wr.setCell ⟨r, 0, none⟩ lf) w7 := (((Kept.refl _ (wr.setCell ⟨r, 0, none⟩ lf)).drew).alloc o).grown hg (fun q hq => Or.inr hq)
  have h0 := hkr.block r (hr.lt (Or.inl rfl)) (fun e => hr.nl e)
  have hne : lv7.ownBlock ≠ some r := fun e => by have := hn7 r e; omega
  refine ⟨World.cell?_setCell_same _ _ _ ((World.cell?_of_block h0).trans hr.c0), (World.cell?_setCell_other _ _ _ _ (by simp)).trans ((World.cell?_of_block h0).trans hr.c1), fun q => (World.frozen?_setCell _ _ _ _).trans ((World.frozen?_of_block h0).trans (hr.f q)), hown.same (fun q hq => Below.heap_setCell w7 _ _ q (fun e => hne (by rw [hq, e]))), hr.ways.same (fun q hq => (Below.heap_setCell w7 _ _ q (fun e => hr.nw (by rw [hq, e]))).trans (hkr.block q (hr.lt (Or.inr (Or.inr hq))) (fun e => hr.lw q e hq))), hne, hr.nw, fun q hq e => ?_⟩
  have h1 := hn7 q hq
  have h2 : q = gw := by cases e; rfl
  omega

theorem rnext_of {n : Nat} (hK0 : Kept T w W0) (hTr : T r ∨ w.heap.size < r) (hTg : T gw ∨ w.heap.size < gw) (hlf : ∀ q, lf.ownBlock = some q → W0.heap.size ≤ q) (hR : RefIn w' r lf (.slice (some ⟨gw, 0, none⟩) n cW) st) (hk : Kept (fun q => q = gw ∨ q = r) W0 w') : RNext T w w' r st := by
  refine ⟨_, ⟨_, _, hR, fun _ => Iff.rfl⟩, fun q hq => ?_, hK0.andThen hk (fun q hq h => ?_)⟩
  · rcases hq with rfl | hq | hq
    · exact hTr.imp id Nat.le_of_lt
    · exact Or.inr (Nat.le_trans hK0.size (hlf q hq))
    · cases hq
      exact hTg.imp id Nat.le_of_lt
  · rcases h with rfl | rfl
    · exact hTg.resolve_right (by omega)
    · exact hTr.resolve_right (by omega)

theorem LA.shelf (h : LA wr r (.slice p s.grams.length cp) gw cW s j y d k i x lost) (hgr : gw ≠ r) (hdr : d ≠ r) (lf : Value) : LA (wr.setCell ⟨r, 0, none⟩ lf) r lf gw cW s j y d k i x lost := by
  have hb : ∀ q, q ≠ r → (wr.setCell ⟨r, 0, none⟩ lf).heap[q]? = wr.heap[q]? := fun q hq => Below.heap_setCell wr _ _ q hq
  have hg := hb gw hgr
  have hd := hb d hdr
  exact ⟨World.cell?_setCell_same _ _ _ h.c0, (World.cell?_setCell_other _ _ _ _ (by simp)).trans h.c1, (World.cell?_of_block hg).trans h.a2, (World.cell?_of_block hg).trans h.a3, (World.cell?_of_block hg).trans h.a4, (World.frozen?_of_block hg).trans h.f3, (World.frozen?_setCell _ _ _ _).trans h.f0, (World.cell?_of_block hd).trans h.d0, (World.cell?_of_block hd).trans h.d1, (World.cell?_of_block hd).trans h.d2, h.le, h.jl⟩

theorem LA.kept {S : Nat → Prop} {lv : Value} (h : LA wr r lv gw cW s j y d k i x lost) (hk : Kept S wr w') (nr : ¬ S r) (ng : ¬ S gw) (nd : ¬ S d) : LA w' r lv gw cW s j y d k i x lost := by
  have hr := lt_of_cell h.c0
  have hg := lt_of_cell h.a2
  have hd := lt_of_cell h.d0
  have cr : ∀ q, w'.cell? ⟨r, q, none⟩ = wr.cell? ⟨r, q, none⟩ := fun q => hk.cell (p := ⟨r, q, none⟩) hr nr
  have cg : ∀ q, w'.cell? ⟨gw, q, none⟩ = wr.cell? ⟨gw, q, none⟩ := fun q => hk.cell (p := ⟨gw, q, none⟩) hg ng
  have cd : ∀ q, w'.cell? ⟨d, q, none⟩ = wr.cell? ⟨d, q, none⟩ := fun q => hk.cell (p := ⟨d, q, none⟩) hd nd
  exact ⟨(cr 0).trans h.c0, (cr 1).trans h.c1, (cg _).trans h.a2, (cg _).trans h.a3, (cg _).trans h.a4, (hk.frozen (p := ⟨gw, j * 5 + 3, none⟩) hg ng).trans h.f3, (hk.frozen (p := ⟨r, 0, none⟩) hr nr).trans h.f0, (cd 0).trans h.d0, (cd 1).trans h.d1, (cd 2).trans h.d2, h.le, h.jl⟩
end
end Go.Proofs.Ytegofkpiipomfaa
