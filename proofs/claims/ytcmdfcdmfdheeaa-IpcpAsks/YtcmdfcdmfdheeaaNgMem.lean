/- A negotiation in memory: its sixteen cells, its automaton, its lists and rules; what stays where something else turns; its fields set anew. -/
import Derived.Test.YtcmdfcdmfdheeaaNgStrange
import Derived.Test.YtcmdfcdmfdheeaaAuDo
import Derived.Test.YtcmdfcdmfdheeaaOpPk
namespace Go.Proofs.Ytcmdfcdmfdheeaa
open Go.RowKit

/-- A negotiation as plain data (what must not be rejected is not said). -/
structure Ng where
  au : Au
  req : List Tg
  own : List Rl
  peer : List Rl
  fails : Int
  wait : Int
  id : Int
  last : Int
  begun : Bool
  naks : Int
  ticks : Int
  mine : List Tg
  theirs : List Tg
  ups : Int
  downs : Int

/-- Where it lies. -/
structure Nm where
  am : Nat
  vr : Value
  vo : Value
  vp : Value
  vm : Value
  vt : Value
  vu : Value

def ngList (a : Nm) (n : Ng) : List Value := [.pointer (some ⟨a.am, 0, none⟩), a.vr, a.vo, a.vp, a.vu, .int .i64 n.fails, .int .i64 n.wait, .int .i64 n.id, .int .i64 n.last, .bool n.begun, .int .i64 n.naks, .int .i64 n.ticks, a.vm, a.vt, .int .i64 n.ups, .int .i64 n.downs]
def ngCells (a : Nm) (n : Ng) : Array Value := (ngList a n).toArray

/-- Options whose types are ints, and values of a size. -/
def FineO (l : List Tg) : Prop := l.length ≤ 10000 ∧ (∀ x ∈ l, In64 x.type) ∧ ∀ x ∈ l, x.value.size ≤ 140737488351232
/-- What its numbers may be. -/
structure GoodN (n : Ng) : Prop where
  au : GoodA n.au
  fails : 0 ≤ n.fails ∧ n.fails ≤ 20
  wait : 1 ≤ n.wait ∧ n.wait ≤ 100
  id : 0 ≤ n.id ∧ n.id ≤ 255
  naks : 0 ≤ n.naks ∧ n.naks ≤ 20
  ticks : 0 ≤ n.ticks ∧ n.ticks ≤ 100
  ups : 0 ≤ n.ups ∧ n.ups ≤ 4611686018427387904
  downs : 0 ≤ n.downs ∧ n.downs ≤ 4611686018427387904
  req : FineO n.req
  mine : FineO n.mine
  theirs : FineO n.theirs

structure NegIn (W : World) (base b : Nat) (a : Nm) (n : Ng) : Prop where
  cells : W.heap[b]? = some (.cells (ngCells a n) 73 (0, 0))
  auto : AutoIn W a.am n.au
  req : OwnO W base a.vr n.req
  own : BookIs W a.vo n.own
  peer : BookIs W a.vp n.peer
  mine : OwnO W base a.vm n.mine
  theirs : OwnO W base a.vt n.theirs
  far1 : ∀ i, a.vr.ownBlock = some i → a.vm.ownBlock ≠ some i
  far2 : ∀ i, a.vr.ownBlock = some i → a.vt.ownBlock ≠ some i
  lo : base ≤ b
  lo2 : base ≤ a.am
  good : GoodN n

/-- The blocks that its calls turn. -/
def Sn (b : Nat) (a : Nm) (i : Nat) : Prop := i = b ∨ i = a.am ∨ a.vr.ownBlock = some i

section
variable {W W' : World} {base b : Nat} {a a' : Nm} {n n' : Ng}
theorem NegIn.cell (h : NegIn W base b a n) (i : Nat) : W.cell? ⟨b, i, none⟩ = (ngCells a n)[i]? := by simp [World.cell?, h.cells]
theorem NegIn.fz (h : NegIn W base b a n) (i : Nat) : W.frozen? ⟨b, i, none⟩ = false := by simp [World.frozen?, h.cells]
theorem NegIn.lt (h : NegIn W base b a n) : b < W.heap.size := (Array.getElem?_eq_some_iff.1 h.cells).1
theorem NegIn.ne_am (h : NegIn W base b a n) : a.am ≠ b := fun e => by
  have h1 := h.auto
  unfold AutoIn at h1
  rw [e, h.cells] at h1
  simp at h1
theorem ne_opts {W : World} {b i base' : Nat} {cur : Array Value} {t : TypeId} {fz : Nat × Nat} (h : W.heap[b]? = some (.cells cur t fz)) (ht : t ≠ 51) {v : Value} {l : List Tg} (ho : OwnO W base' v l) (hi : v.ownBlock = some i) : i ≠ b := fun e => by
  subst e
  obtain ⟨c, hc⟩ := ho.cellsB hi
  rw [h] at hc
  simp at hc
  exact ht hc.2.1
theorem NegIn.ne_b (h : NegIn W base b a n) {v : Value} {l : List Tg} {i base' : Nat} (ho : OwnO W base' v l) (hi : v.ownBlock = some i) : i ≠ b := ne_opts h.cells (by decide) ho hi
theorem NegIn.ne_a (h : NegIn W base b a n) {v : Value} {l : List Tg} {i base' : Nat} (ho : OwnO W base' v l) (hi : v.ownBlock = some i) : i ≠ a.am := ne_opts (show W.heap[a.am]? = _ from h.auto) (by decide) ho hi
/-- Its blocks bear cells. -/
theorem NegIn.sn_cells (h : NegIn W base b a n) : ∀ i, Sn b a i → i < W.heap.size → ∃ cur e fz, W.heap[i]? = some (.cells cur e fz) := by
  rintro i (rfl | rfl | hi) _
  · exact ⟨_, _, _, h.cells⟩
  · exact ⟨_, _, _, h.auto⟩
  · obtain ⟨cur, hc⟩ := h.req.cellsB hi
    exact ⟨_, _, _, hc⟩
theorem NegIn.sn_lt (h : NegIn W base b a n) : ∀ i, Sn b a i → i < W.heap.size := by
  rintro i (rfl | rfl | hi)
  · exact h.lt
  · exact h.auto.lt
  · obtain ⟨cur, hc⟩ := h.req.cellsB hi
    exact (Array.getElem?_eq_some_iff.1 hc).1
theorem NegIn.sn_lo (h : NegIn W base b a n) : ∀ i, Sn b a i → base ≤ i := by
  rintro i (rfl | rfl | hi)
  · exact h.lo
  · exact h.lo2
  · exact h.req.baseB hi
/-- It stays where something else turns. -/
theorem NegIn.keptS {S : Nat → Prop} (h : NegIn W base b a n) (hk : Kept S W W') (hc : ∀ i, S i → i < W.heap.size → ∃ cur e fz, W.heap[i]? = some (.cells cur e fz)) (hb : ¬ S b) (ha : ¬ S a.am) (hr : ∀ i, a.vr.ownBlock = some i → ¬ S i) (hm : ∀ i, a.vm.ownBlock = some i → ¬ S i) (ht : ∀ i, a.vt.ownBlock = some i → ¬ S i) : NegIn W' base b a n :=
  ⟨(hk.block b h.lt hb).trans h.cells, h.auto.kept hk ha, h.req.keptS hk hr, h.own.kept hk hc, h.peer.kept hk hc, h.mine.keptS hk hm, h.theirs.keptS hk ht, h.far1, h.far2, h.lo, h.lo2, h.good⟩
theorem NegIn.kept0 (h : NegIn W base b a n) (hk : Kept (fun _ => False) W W') : NegIn W' base b a n := h.keptS hk (fun _ h => h.elim) id id (fun _ _ => id) (fun _ _ => id) (fun _ _ => id)

/-- What one of its calls leaves. -/
structure NNext (W W' : World) (base b : Nat) (a a' : Nm) (n' : Ng) : Prop where
  neg : NegIn W' base b a' n'
  am : a'.am = a.am
  vu : a'.vu = a.vu
  fr : ∀ i, a'.vr.ownBlock = some i → a.vr.ownBlock = some i ∨ W.heap.size ≤ i
  fm : ∀ i, a'.vm.ownBlock = some i → a.vm.ownBlock = some i ∨ W.heap.size ≤ i
  ft : ∀ i, a'.vt.ownBlock = some i → a.vt.ownBlock = some i ∨ W.heap.size ≤ i
  kept : Kept (Sn b a) W W'

theorem NNext.refl (h : NegIn W base b a n) : NNext W W base b a a n := ⟨h, rfl, rfl, fun _ h => Or.inl h, fun _ h => Or.inl h, fun _ h => Or.inl h, Kept.refl _ _⟩
theorem NNext.of0 (h : NegIn W base b a n) (hk : Kept (fun _ => False) W W') : NNext W W' base b a a n := ⟨h.kept0 hk, rfl, rfl, fun _ h => Or.inl h, fun _ h => Or.inl h, fun _ h => Or.inl h, hk.mono (fun _ _ h => h.elim)⟩
theorem NNext.sn (h : NNext W W' base b a a' n') : ∀ i, Sn b a' i → Sn b a i ∨ W.heap.size ≤ i := by
  rintro i (rfl | rfl | hi)
  · exact Or.inl (Or.inl rfl)
  · exact Or.inl (Or.inr (Or.inl h.am))
  · rcases h.fr i hi with h1 | h1
    · exact Or.inl (Or.inr (Or.inr h1))
    · exact Or.inr h1
theorem NNext.trans {W'' : World} {a'' : Nm} {n'' : Ng} (h : NNext W W' base b a a' n') (k : NNext W' W'' base b a' a'' n'') : NNext W W'' base b a a'' n'' := by
  have hs := h.kept.size
  refine ⟨k.neg, k.am.trans h.am, k.vu.trans h.vu, fun i hi => ?_, fun i hi => ?_, fun i hi => ?_, h.kept.andThen k.kept (fun i hi s => ?_)⟩
  · rcases k.fr i hi with h1 | h1
    · exact h.fr i h1
    · exact Or.inr (by omega)
  · rcases k.fm i hi with h1 | h1
    · exact h.fm i h1
    · exact Or.inr (by omega)
  · rcases k.ft i hi with h1 | h1
    · exact h.ft i h1
    · exact Or.inr (by omega)
  · rcases h.sn i s with h1 | h1
    · exact h1
    · omega
theorem NNext.then0 {W'' : World} (h : NNext W W' base b a a' n') (hk : Kept (fun _ => False) W' W'') : NNext W W'' base b a a' n' := h.trans (NNext.of0 h.neg hk)
theorem NNext.before0 {W0 : World} (hk : Kept (fun _ => False) W0 W) (h : NNext W W' base b a a' n') : NNext W0 W' base b a a' n' := by
  have hs := hk.size
  refine ⟨h.neg, h.am, h.vu, fun i hi => ?_, fun i hi => ?_, fun i hi => ?_, (hk.mono (T := Sn b a) (fun _ _ h => h.elim)).trans h.kept⟩
  · rcases h.fr i hi with h1 | h1
    · exact Or.inl h1
    · exact Or.inr (by omega)
  · rcases h.fm i hi with h1 | h1
    · exact Or.inl h1
    · exact Or.inr (by omega)
  · rcases h.ft i hi with h1 | h1
    · exact Or.inl h1
    · exact Or.inr (by omega)

theorem kept_cell (w : World) (b i : Nat) (u : Value) : Kept (fun k => k = b) w (w.setCell ⟨b, i, none⟩ u) := (Kept.refl (fun k => k = b) w).setCell (p := ⟨b, i, none⟩) (Or.inr rfl) u

/-- A cell of its own set anew, where its lists stay. -/
theorem NegIn.set (h : NegIn W base b a n) (i : Nat) (u : Value) (he : (ngCells a n).setIfInBounds i u = ngCells a n') (hg : GoodN n')
    (h1 : n'.au = n.au) (h2 : n'.req = n.req) (h3 : n'.own = n.own) (h4 : n'.peer = n.peer) (h5 : n'.mine = n.mine) (h6 : n'.theirs = n.theirs) : NNext W (W.setCell ⟨b, i, none⟩ u) base b a a n' := by
  have hk := kept_cell W b i u
  have hc : ∀ j, j = b → j < W.heap.size → ∃ cur e fz, W.heap[j]? = some (.cells cur e fz) := fun j e _ => by subst e; exact ⟨_, _, _, h.cells⟩
  refine ⟨⟨?_, ?_, ?_, ?_, ?_, ?_, ?_, h.far1, h.far2, h.lo, h.lo2, hg⟩, rfl, rfl, fun _ h => Or.inl h, fun _ h => Or.inl h, fun _ h => Or.inl h, hk.mono (fun j _ e => Or.inl e)⟩
  · rw [← he]
    exact Joins.block_setCell h.cells u
  · rw [h1]; exact h.auto.kept hk h.ne_am
  · rw [h2]; exact h.req.keptS hk (fun j hj => h.ne_b h.req hj)
  · rw [h3]; exact h.own.kept hk hc
  · rw [h4]; exact h.peer.kept hk hc
  · rw [h5]; exact h.mine.keptS hk (fun j hj => h.ne_b h.mine hj)
  · rw [h6]; exact h.theirs.keptS hk (fun j hj => h.ne_b h.theirs hj)

/-- The automaton has gone on. -/
theorem NegIn.step (h : NegIn W base b a n) {c : Au} (ha : AutoIn W' a.am c) (hg : GoodA c) (hk : Kept (fun i => i = a.am) W W') : NNext W W' base b a a { n with au := c } := by
  have hc : ∀ j, j = a.am → j < W.heap.size → ∃ cur e fz, W.heap[j]? = some (.cells cur e fz) := fun j e _ => by subst e; exact ⟨_, _, _, h.auto⟩
  refine ⟨⟨(hk.block b h.lt (fun e => h.ne_am e.symm)).trans h.cells, ha, h.req.keptS hk (fun j hj => h.ne_a h.req hj), h.own.kept hk hc, h.peer.kept hk hc, h.mine.keptS hk (fun j hj => h.ne_a h.mine hj), h.theirs.keptS hk (fun j hj => h.ne_a h.theirs hj), h.far1, h.far2, h.lo, h.lo2, ?_⟩, rfl, rfl, fun _ h => Or.inl h, fun _ h => Or.inl h, fun _ h => Or.inl h, hk.mono (fun j _ e => Or.inr (Or.inl e))⟩
  have g := h.good
  exact ⟨hg, g.fails, g.wait, g.id, g.naks, g.ticks, g.ups, g.downs, g.req, g.mine, g.theirs⟩
/-- What it has acked is another list. -/
theorem NegIn.setTheirs (h : NegIn W base b a n) {u : Value} {l : List Tg} (ho : OwnO W base u l) (hf : FineO l) (hfar : ∀ i, a.vr.ownBlock = some i → u.ownBlock ≠ some i) {W0 : World} (hfr : ∀ i, u.ownBlock = some i → W0.heap.size ≤ i) (hk0 : Kept (fun _ => False) W0 W) : NNext W0 (W.setCell ⟨b, 13, none⟩ u) base b a { a with vt := u } { n with theirs := l } := by
  have hk := kept_cell W b 13 u
  have hc : ∀ j, j = b → j < W.heap.size → ∃ cur e fz, W.heap[j]? = some (.cells cur e fz) := fun j e _ => by subst e; exact ⟨_, _, _, h.cells⟩
  refine ⟨⟨?_, h.auto.kept hk h.ne_am, h.req.keptS hk (fun j hj => h.ne_b h.req hj), h.own.kept hk hc, h.peer.kept hk hc, h.mine.keptS hk (fun j hj => h.ne_b h.mine hj), ho.keptS hk (fun j hj => h.ne_b ho hj), h.far1, hfar, h.lo, h.lo2, ?_⟩, rfl, rfl, fun _ h => Or.inl h, fun _ h => Or.inl h, fun i hi => Or.inr (hfr i hi), (hk0.mono (T := Sn b a) (fun _ _ h => h.elim)).andThen hk (fun j _ e => Or.inl e)⟩
  · exact Joins.block_setCell h.cells u
  · have g := h.good
    exact ⟨g.au, g.fails, g.wait, g.id, g.naks, g.ticks, g.ups, g.downs, g.req, g.mine, hf⟩
theorem NegIn.setMine (h : NegIn W base b a n) {u : Value} {l : List Tg} (ho : OwnO W base u l) (hf : FineO l) (hfar : ∀ i, a.vr.ownBlock = some i → u.ownBlock ≠ some i) {W0 : World} (hfr : ∀ i, u.ownBlock = some i → W0.heap.size ≤ i) (hk0 : Kept (fun _ => False) W0 W) : NNext W0 (W.setCell ⟨b, 12, none⟩ u) base b a { a with vm := u } { n with mine := l } := by
  have hk := kept_cell W b 12 u
  have hc : ∀ j, j = b → j < W.heap.size → ∃ cur e fz, W.heap[j]? = some (.cells cur e fz) := fun j e _ => by subst e; exact ⟨_, _, _, h.cells⟩
  refine ⟨⟨?_, h.auto.kept hk h.ne_am, h.req.keptS hk (fun j hj => h.ne_b h.req hj), h.own.kept hk hc, h.peer.kept hk hc, ho.keptS hk (fun j hj => h.ne_b ho hj), h.theirs.keptS hk (fun j hj => h.ne_b h.theirs hj), hfar, h.far2, h.lo, h.lo2, ?_⟩, rfl, rfl, fun _ h => Or.inl h, fun i hi => Or.inr (hfr i hi), fun _ h => Or.inl h, (hk0.mono (T := Sn b a) (fun _ _ h => h.elim)).andThen hk (fun j _ e => Or.inl e)⟩
  · exact Joins.block_setCell h.cells u
  · have g := h.good
    exact ⟨g.au, g.fails, g.wait, g.id, g.naks, g.ticks, g.ups, g.downs, g.req, hf, g.theirs⟩
/-- The request is another list, made since. -/
theorem NegIn.setReq (h : NegIn W base b a n) {u : Value} {l : List Tg} (ho : OwnO W base u l) (hf : FineO l) (hfr : ∀ i, u.ownBlock = some i → ∀ v : Value, (v = a.vm ∨ v = a.vt) → v.ownBlock ≠ some i) {W0 : World} (hfr0 : ∀ i, u.ownBlock = some i → a.vr.ownBlock = some i ∨ W0.heap.size ≤ i) (hk0 : Kept (Sn b a) W0 W) : NNext W0 (W.setCell ⟨b, 1, none⟩ u) base b a { a with vr := u } { n with req := l } := by
  have hk := kept_cell W b 1 u
  have hc : ∀ j, j = b → j < W.heap.size → ∃ cur e fz, W.heap[j]? = some (.cells cur e fz) := fun j e _ => by subst e; exact ⟨_, _, _, h.cells⟩
  refine ⟨⟨?_, h.auto.kept hk h.ne_am, ho.keptS hk (fun j hj => h.ne_b ho hj), h.own.kept hk hc, h.peer.kept hk hc, h.mine.keptS hk (fun j hj => h.ne_b h.mine hj), h.theirs.keptS hk (fun j hj => h.ne_b h.theirs hj), fun i hi => hfr i hi _ (Or.inl rfl), fun i hi => hfr i hi _ (Or.inr rfl), h.lo, h.lo2, ?_⟩, rfl, rfl, hfr0, fun _ h => Or.inl h, fun _ h => Or.inl h, hk0.andThen hk (fun j _ e => Or.inl e)⟩
  · exact Joins.block_setCell h.cells u
  · have g := h.good
    exact ⟨g.au, g.fails, g.wait, g.id, g.naks, g.ticks, g.ups, g.downs, hf, g.mine, g.theirs⟩
end
end Go.Proofs.Ytcmdfcdmfdheeaa
