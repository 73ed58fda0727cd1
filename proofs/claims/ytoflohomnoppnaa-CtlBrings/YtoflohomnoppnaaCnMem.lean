/- An end of a way in memory: its block of sixteen cells, the rows of what waits and of what flies. -/
import Derived.Test.YtoflohomnoppnaaProg
import Derived.Test.YtoflohomnoppnaaCnPlain
import Derived.Test.YtoflohomnoppnaaGRow
import Derived.Test.YtoflohomnoppnaaTagKit
namespace Go.Proofs.Ytoflohomnoppnaa
open Go.RowKit

def encS (x : ByteArray) : List Value := [.string x]
theorem encS_ok : EncG encS 1 := ⟨fun _ => rfl, fun x u hu => by simp [encS] at hu; subst hu; rfl, Nat.one_pos⟩
theorem tyS : TyG Try.prog 29 9 1 (.string ⟨#[]⟩) 16 := ⟨by kernel_rfl, by kernel_rfl, rfl, by omega⟩
abbrev OwnS (w : World) (base : Nat) (v : Value) (l : List ByteArray) : Prop := OwnG encS 1 9 w base v l
def encI (i : Ite) : List Value := [.int .i64 i.ns, .int .i64 i.nr, .string i.body]
theorem encI_ok : EncG encI 3 := ⟨fun _ => rfl, fun x u hu => by simp [encI] at hu; rcases hu with rfl | rfl | rfl <;> rfl, by omega⟩
theorem tyI : TyG Try.prog 37 25 3 (.agg #[.int .i64 0, .int .i64 0, .string ⟨#[]⟩]) 32 := ⟨by kernel_rfl, by kernel_rfl, rfl, by omega⟩
abbrev OwnI (w : World) (base : Nat) (v : Value) (l : List Ite) : Prop := OwnG encI 3 25 w base v l

def cnCells (c : Cn) (vw vf : Value) : Array Value := #[.int .i64 c.queue, .int .i64 c.retry, .int .i64 c.wait, .int .i64 c.win, .int .i64 c.room, .int .i64 c.mark, .int .i64 c.count, .int .i64 c.next, .int .i64 c.come, vw, vf, .bool c.owed, .bool c.again, .int .i64 c.ticks, .int .i64 c.tries, .bool c.dead]
/-- An end's block: the rows of what waits and of what flies are vw, vf. -/
def CnB (W : World) (b : Nat) (c : Cn) (vw vf : Value) : Prop := W.heap[b]? = some (.cells (cnCells c vw vf) 31 (0, 0))
section
variable {W W' : World} {b : Nat} {c : Cn} {vw vf : Value}
theorem CnB.lt (h : CnB W b c vw vf) : b < W.heap.size := (Array.getElem?_eq_some_iff.1 h).1
theorem CnB.kept {S : Nat → Prop} (h : CnB W b c vw vf) (hk : Kept S W W') (hS : ¬ S b) : CnB W' b c vw vf := (hk.block b h.lt hS).trans h
theorem CnB.kept0 (h : CnB W b c vw vf) (hk : Kept (fun _ => False) W W') : CnB W' b c vw vf := h.kept hk id
theorem CnB.soft (h : CnB W b c vw vf) (i : Nat) : W.frozen? ⟨b, i, none⟩ = false := frozen_of_row W b i _ _ h
theorem CnB.cell (h : CnB W b c vw vf) (i : Nat) : W.cell? ⟨b, i, none⟩ = (cnCells c vw vf)[i]? := by
  unfold CnB at h
  simp [World.cell?, h]
theorem CnB.set (h : CnB W b c vw vf) (i : Nat) (u : Value) {c' : Cn} {vw' vf' : Value} (e : (cnCells c vw vf).setIfInBounds i u = cnCells c' vw' vf') : CnB (W.setCell ⟨b, i, none⟩ u) b c' vw' vf' := by
  unfold CnB
  rw [← e]
  exact Joins.block_setCell h u
theorem CnB.cells (h : CnB W b c vw vf) : W.cell? ⟨b, 0, none⟩ = some (.int .i64 c.queue) ∧ W.cell? ⟨b, 1, none⟩ = some (.int .i64 c.retry) ∧ W.cell? ⟨b, 2, none⟩ = some (.int .i64 c.wait) ∧ W.cell? ⟨b, 3, none⟩ = some (.int .i64 c.win) ∧ W.cell? ⟨b, 4, none⟩ = some (.int .i64 c.room) ∧ W.cell? ⟨b, 5, none⟩ = some (.int .i64 c.mark) ∧ W.cell? ⟨b, 6, none⟩ = some (.int .i64 c.count) ∧ W.cell? ⟨b, 7, none⟩ = some (.int .i64 c.next) ∧ W.cell? ⟨b, 8, none⟩ = some (.int .i64 c.come) ∧ W.cell? ⟨b, 9, none⟩ = some vw ∧ W.cell? ⟨b, 10, none⟩ = some vf ∧ W.cell? ⟨b, 11, none⟩ = some (.bool c.owed) ∧ W.cell? ⟨b, 12, none⟩ = some (.bool c.again) ∧ W.cell? ⟨b, 13, none⟩ = some (.int .i64 c.ticks) ∧ W.cell? ⟨b, 14, none⟩ = some (.int .i64 c.tries) ∧ W.cell? ⟨b, 15, none⟩ = some (.bool c.dead) :=
  ⟨h.cell 0, h.cell 1, h.cell 2, h.cell 3, h.cell 4, h.cell 5, h.cell 6, h.cell 7, h.cell 8, h.cell 9, h.cell 10, h.cell 11, h.cell 12, h.cell 13, h.cell 14, h.cell 15⟩
theorem CnB.unlike {base k n : Nat} {e : TypeId} {v : Value} {xs : List Value} (h : CnB W b c vw vf) (ho : W.ownsRow base e k v n xs) (he : e ≠ 31) : v.ownBlock ≠ some b := by
  intro hv
  rcases ho.2 with ⟨rfl, _⟩ | ⟨g, cap, cur, rfl, hb, hg, _⟩
  · cases hv
  · have : g = b := by simpa [Value.ownBlock] using hv
    subst this
    have h2 := hg.symm.trans h
    simp at h2
    exact he h2.2
end
theorem kept_cn {w W : World} {S : Nat → Prop} {b : Nat} (h : Kept S w W) (hb : S b) (i : Nat) (u : Value) : Kept S w (W.setCell ⟨b, i, none⟩ u) := h.setCell (p := ⟨b, i, none⟩) (Or.inr hb) u

/-- The blocks of an end. -/
def Sn (b : Nat) (vw vf : Value) (i : Nat) : Prop := i = b ∨ vw.ownBlock = some i ∨ vf.ownBlock = some i
structure CnIn (w : World) (b : Nat) (c : Cn) (vw vf : Value) : Prop where
  blk : CnB w b c vw vf
  rw : OwnS w 0 vw c.waits
  rf : OwnS w 0 vf c.flies
  ap : ∀ i, vw.ownBlock = some i → vf.ownBlock ≠ some i
section
variable {w w' w'' : World} {b : Nat} {c c' c'' : Cn} {vw vf vw' vf' vw'' vf'' : Value}
theorem CnIn.nw (h : CnIn w b c vw vf) : vw.ownBlock ≠ some b := h.blk.unlike h.rw (by decide)
theorem CnIn.nf (h : CnIn w b c vw vf) : vf.ownBlock ≠ some b := h.blk.unlike h.rf (by decide)
theorem CnIn.lt (h : CnIn w b c vw vf) {i : Nat} (hi : Sn b vw vf i) : i < w.heap.size := by
  rcases hi with rfl | hi | hi
  · exact h.blk.lt
  · exact (h.rw.block hi).2.2
  · exact (h.rf.block hi).2.2
theorem CnIn.keptS {S : Nat → Prop} (h : CnIn w b c vw vf) (hk : Kept S w w') (hS : ∀ i, Sn b vw vf i → ¬ S i) : CnIn w' b c vw vf :=
  ⟨h.blk.kept hk (hS b (Or.inl rfl)), h.rw.keptS hk (fun i hi => hS i (Or.inr (Or.inl hi))), h.rf.keptS hk (fun i hi => hS i (Or.inr (Or.inr hi))), h.ap⟩
theorem CnIn.kept0 (h : CnIn w b c vw vf) (hk : Kept (fun _ => False) w w') : CnIn w' b c vw vf := h.keptS hk (fun _ _ => id)
/-- What a call leaves: the end c', what has turned, where its rows lie now. -/
structure NextN (w w' : World) (b : Nat) (vw vf : Value) (c' : Cn) (vw' vf' : Value) : Prop where
  mem : CnIn w' b c' vw' vf'
  kept : Kept (Sn b vw vf) w w'
  new : ∀ i, Sn b vw' vf' i → Sn b vw vf i ∨ w.heap.size ≤ i
theorem NextN.refl (h : CnIn w b c vw vf) : NextN w w b vw vf c vw vf := ⟨h, Kept.refl _ _, fun _ => Or.inl⟩
theorem NextN.same (h : CnIn w b c vw vf) (hk : Kept (fun _ => False) w w') : NextN w w' b vw vf c vw vf := ⟨h.kept0 hk, hk.mono (fun _ _ f => f.elim), fun _ => Or.inl⟩
theorem NextN.trans (h : NextN w w' b vw vf c' vw' vf') (k : NextN w' w'' b vw' vf' c'' vw'' vf'') : NextN w w'' b vw vf c'' vw'' vf'' :=
  ⟨k.mem, h.kept.andThen k.kept (fun i hi hs => (h.new i hs).elim id (fun g => by omega)), fun i hi => (k.new i hi).elim (fun g => h.new i g) (fun g => Or.inr (Nat.le_trans h.kept.size g))⟩
theorem NextN.kept0 (h : NextN w w' b vw vf c' vw' vf') (hk : Kept (fun _ => False) w' w'') : NextN w w'' b vw vf c' vw' vf' := h.trans (NextN.same h.mem hk)
/-- Only cells of the block have turned, the rows are as they were. -/
theorem NextN.cells (h : CnIn w b c vw vf) (hk : Kept (fun i => i = b) w w') (hb : CnB w' b c' vw vf) (e1 : c'.waits = c.waits) (e2 : c'.flies = c.flies) : NextN w w' b vw vf c' vw vf :=
  ⟨⟨hb, by rw [e1]; exact h.rw.keptS hk (fun i hi e => h.nw (by rw [← e]; exact hi)), by rw [e2]; exact h.rf.keptS hk (fun i hi e => h.nf (by rw [← e]; exact hi)), h.ap⟩, hk.mono (fun i _ e => Or.inl e), fun _ => Or.inl⟩
/-- What is not the end's stays as it was. -/
theorem NextN.own {α : Type} {enc : α → List Value} {k : Nat} {e : TypeId} {base : Nat} {v : Value} {l : List α} (h : NextN w w' b vw vf c' vw' vf') (ho : OwnG enc k e w base v l) (hv : ∀ i, v.ownBlock = some i → ¬ Sn b vw vf i) : OwnG enc k e w' base v l := ho.keptS h.kept hv
/-- A row of what goes over the way is none of the end's blocks. -/
theorem CnIn.unlikeI {base : Nat} {v : Value} {l : List Ite} (h : CnIn w b c vw vf) (ho : OwnI w base v l) {i : Nat} (hi : v.ownBlock = some i) : ¬ Sn b vw vf i := by
  rintro (rfl | g | g)
  · exact h.blk.unlike ho (by decide) hi
  · exact owned_unlike ho h.rw (by decide) i hi g
  · exact owned_unlike ho h.rf (by decide) i hi g
end
end Go.Proofs.Ytoflohomnoppnaa
