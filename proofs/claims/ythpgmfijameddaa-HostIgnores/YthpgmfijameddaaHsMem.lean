/- A host in memory: its twenty-one cells and the row of what it asked; and words for one that is under way. -/
import Derived.Test.YthpgmfijameddaaHsPlain
import Derived.Test.YthpgmfijameddaaEtClone
import Derived.Lib.SmallJoins
namespace Go.Proofs.Ythpgmfijameddaa
open Go.RowKit

def hostList (h : Hs) (av : Value) : List Value := Lib.byteCells h.mac ++ [.string h.service, .string h.uniq, .int .i64 (h.retry : Int), .int .i64 (h.wait : Int), .int .i64 h.state] ++ Lib.byteCells h.conc ++ [.int .i64 h.session, av, .int .i64 (h.again : Int), .int .i64 (h.ticks : Int)]

structure HostIn (w : World) (b : Nat) (av : Value) (h : Hs) : Prop where
  blk : w.heap[b]? = some (.cells (hostList h av).toArray 50 (0, 0))
  own : OwnE w 0 av h.asked

/-- The blocks of a host. -/
def ofHost (b : Nat) (av : Value) (i : Nat) : Prop := i = b ∨ av.ownBlock = some i

section
variable {w w' : World} {b : Nat} {av : Value} {h' : Hs}
theorem OwnE.same {l : List Fr} {base : Nat} (h : OwnE w base av l) (hb : ∀ i, av.ownBlock = some i → w'.heap[i]? = w.heap[i]?) : OwnE w' base av l := by
  rcases h.2 with ⟨rfl, h0⟩ | ⟨g, cap, cur, rfl, hb', hg, h1, h2, h3, h4⟩
  · exact ⟨h.1, Or.inl ⟨rfl, h0⟩⟩
  · exact ⟨h.1, Or.inr ⟨g, cap, cur, rfl, hb', (hb g rfl).trans hg, h1, h2, h3, h4⟩⟩
theorem OwnE.block {l : List Fr} {base i : Nat} (h : OwnE w base av l) (hi : av.ownBlock = some i) : (∃ cur, w.heap[i]? = some (.cells cur 25 (0, 0))) ∧ base ≤ i := by
  rcases h.2 with ⟨rfl, h0⟩ | ⟨g, cap, cur, rfl, hb', hg, h1, h2, h3, h4⟩
  · cases hi
  · have : g = i := by simpa [Value.ownBlock] using hi
    subst this
    exact ⟨⟨cur, hg⟩, hb'⟩
theorem HostIn.ng (h : HostIn w b av h') : av.ownBlock ≠ some b := fun e => by
  obtain ⟨⟨cur, h1⟩, _⟩ := h.own.block e
  rw [h.blk] at h1
  simp at h1
theorem HostIn.lt (h : HostIn w b av h') {i : Nat} (hi : ofHost b av i) : i < w.heap.size := by
  rcases hi with rfl | hi
  · exact (Array.getElem?_eq_some_iff.1 h.blk).1
  · obtain ⟨⟨cur, h1⟩, _⟩ := h.own.block hi
    exact (Array.getElem?_eq_some_iff.1 h1).1
theorem HostIn.same (h : HostIn w b av h') (hb : ∀ i, ofHost b av i → w'.heap[i]? = w.heap[i]?) : HostIn w' b av h' :=
  ⟨(hb b (Or.inl rfl)).trans h.blk, h.own.same (fun i hi => hb i (Or.inr hi))⟩
theorem HostIn.kept {S : Nat → Prop} (h : HostIn w b av h') (hk : Kept S w w') (hS : ∀ i, ofHost b av i → ¬ S i) : HostIn w' b av h' := h.same (fun i hi => hk.block i (h.lt hi) (hS i hi))
theorem HostIn.kept0 (h : HostIn w b av h') (hk : Kept (fun _ => False) w w') : HostIn w' b av h' := h.kept hk (fun _ _ => id)

/-- The cells, where the cards are written out. -/
structure Cells21 (W : World) (b : Nat) (x0 x1 x2 x3 x4 x5 : Value) (service uniq : ByteArray) (retry wait state : Int) (y0 y1 y2 y3 y4 y5 : Value) (session : Int) (av : Value) (again ticks : Int) : Prop where
  c0 : W.cell? ⟨b, 0, none⟩ = some x0
  c1 : W.cell? ⟨b, 1, none⟩ = some x1
  c2 : W.cell? ⟨b, 2, none⟩ = some x2
  c3 : W.cell? ⟨b, 3, none⟩ = some x3
  c4 : W.cell? ⟨b, 4, none⟩ = some x4
  c5 : W.cell? ⟨b, 5, none⟩ = some x5
  c6 : W.cell? ⟨b, 6, none⟩ = some (.string service)
  c7 : W.cell? ⟨b, 7, none⟩ = some (.string uniq)
  c8 : W.cell? ⟨b, 8, none⟩ = some (.int .i64 retry)
  c9 : W.cell? ⟨b, 9, none⟩ = some (.int .i64 wait)
  c10 : W.cell? ⟨b, 10, none⟩ = some (.int .i64 state)
  c11 : W.cell? ⟨b, 11, none⟩ = some y0
  c12 : W.cell? ⟨b, 12, none⟩ = some y1
  c13 : W.cell? ⟨b, 13, none⟩ = some y2
  c14 : W.cell? ⟨b, 14, none⟩ = some y3
  c15 : W.cell? ⟨b, 15, none⟩ = some y4
  c16 : W.cell? ⟨b, 16, none⟩ = some y5
  c17 : W.cell? ⟨b, 17, none⟩ = some (.int .i64 session)
  c18 : W.cell? ⟨b, 18, none⟩ = some av
  c19 : W.cell? ⟨b, 19, none⟩ = some (.int .i64 again)
  c20 : W.cell? ⟨b, 20, none⟩ = some (.int .i64 ticks)
  f : ∀ i, W.frozen? ⟨b, i, none⟩ = false

theorem HostIn.flat (h : HostIn w b av h') {x0 x1 x2 x3 x4 x5 y0 y1 y2 y3 y4 y5 : Value} (hx : Lib.byteCells h'.mac = [x0, x1, x2, x3, x4, x5]) (hy : Lib.byteCells h'.conc = [y0, y1, y2, y3, y4, y5]) :
    w.heap[b]? = some (.cells #[x0, x1, x2, x3, x4, x5, .string h'.service, .string h'.uniq, .int .i64 (h'.retry : Int), .int .i64 (h'.wait : Int), .int .i64 h'.state, y0, y1, y2, y3, y4, y5, .int .i64 h'.session, av, .int .i64 (h'.again : Int), .int .i64 (h'.ticks : Int)] 50 (0, 0)) := by
  have hb := h.blk
  unfold hostList at hb
  rw [hx, hy] at hb
  exact hb
theorem HostIn.cells (h : HostIn w b av h') {x0 x1 x2 x3 x4 x5 y0 y1 y2 y3 y4 y5 : Value} (hx : Lib.byteCells h'.mac = [x0, x1, x2, x3, x4, x5]) (hy : Lib.byteCells h'.conc = [y0, y1, y2, y3, y4, y5]) :
    Cells21 w b x0 x1 x2 x3 x4 x5 h'.service h'.uniq (h'.retry : Int) (h'.wait : Int) h'.state y0 y1 y2 y3 y4 y5 h'.session av (h'.again : Int) (h'.ticks : Int) := by
  have hb := h.flat hx hy
  have hc : ∀ j, w.cell? ⟨b, j, none⟩ = _ := fun j => cell_of_row w b j _ _ _ hb
  exact ⟨hc 0, hc 1, hc 2, hc 3, hc 4, hc 5, hc 6, hc 7, hc 8, hc 9, hc 10, hc 11, hc 12, hc 13, hc 14, hc 15, hc 16, hc 17, hc 18, hc 19, hc 20, fun i => frozen_of_row w b i _ _ hb⟩

/-- The eleven cells of what hangs on the state, written one behind the other. -/
def setPhase (w : World) (b : Nat) (p0 p1 p2 p3 p4 p5 p6 p7 p8 p9 p10 : Value) : World :=
  ((((((((((w.setCell ⟨b, 10, none⟩ p0).setCell ⟨b, 11, none⟩ p1).setCell ⟨b, 12, none⟩ p2).setCell ⟨b, 13, none⟩ p3).setCell ⟨b, 14, none⟩ p4).setCell ⟨b, 15, none⟩ p5).setCell ⟨b, 16, none⟩ p6).setCell ⟨b, 17, none⟩ p7).setCell ⟨b, 18, none⟩ p8).setCell ⟨b, 19, none⟩ p9).setCell ⟨b, 20, none⟩ p10
theorem setPhase_block {p0 p1 p2 p3 p4 p5 p6 p7 p8 p9 p10 : Value} {x0 x1 x2 x3 x4 x5 x6 x7 x8 x9 o0 o1 o2 o3 o4 o5 o6 o7 o8 o9 o10 : Value} {t : TypeId}
    (hb : w.heap[b]? = some (.cells #[x0, x1, x2, x3, x4, x5, x6, x7, x8, x9, o0, o1, o2, o3, o4, o5, o6, o7, o8, o9, o10] t (0, 0))) :
    (setPhase w b p0 p1 p2 p3 p4 p5 p6 p7 p8 p9 p10).heap[b]? = some (.cells #[x0, x1, x2, x3, x4, x5, x6, x7, x8, x9, p0, p1, p2, p3, p4, p5, p6, p7, p8, p9, p10] t (0, 0)) := by
  have h0 := Joins.block_setCell hb (i := 10) p0
  simp only [List.setIfInBounds_toArray, List.set_cons_succ, List.set_cons_zero] at h0
  have h1 := Joins.block_setCell h0 (i := 11) p1
  simp only [List.setIfInBounds_toArray, List.set_cons_succ, List.set_cons_zero] at h1
  have h2 := Joins.block_setCell h1 (i := 12) p2
  simp only [List.setIfInBounds_toArray, List.set_cons_succ, List.set_cons_zero] at h2
  have h3 := Joins.block_setCell h2 (i := 13) p3
  simp only [List.setIfInBounds_toArray, List.set_cons_succ, List.set_cons_zero] at h3
  have h4 := Joins.block_setCell h3 (i := 14) p4
  simp only [List.setIfInBounds_toArray, List.set_cons_succ, List.set_cons_zero] at h4
  have h5 := Joins.block_setCell h4 (i := 15) p5
  simp only [List.setIfInBounds_toArray, List.set_cons_succ, List.set_cons_zero] at h5
  have h6 := Joins.block_setCell h5 (i := 16) p6
  simp only [List.setIfInBounds_toArray, List.set_cons_succ, List.set_cons_zero] at h6
  have h7 := Joins.block_setCell h6 (i := 17) p7
  simp only [List.setIfInBounds_toArray, List.set_cons_succ, List.set_cons_zero] at h7
  have h8 := Joins.block_setCell h7 (i := 18) p8
  simp only [List.setIfInBounds_toArray, List.set_cons_succ, List.set_cons_zero] at h8
  have h9 := Joins.block_setCell h8 (i := 19) p9
  simp only [List.setIfInBounds_toArray, List.set_cons_succ, List.set_cons_zero] at h9
  have h10 := Joins.block_setCell h9 (i := 20) p10
  simp only [List.setIfInBounds_toArray, List.set_cons_succ, List.set_cons_zero] at h10
  exact h10
theorem setPhase_kept {S : Nat → Prop} {a : World} (h : Kept S a w) (hp : a.heap.size ≤ b ∨ S b) (p0 p1 p2 p3 p4 p5 p6 p7 p8 p9 p10 : Value) : Kept S a (setPhase w b p0 p1 p2 p3 p4 p5 p6 p7 p8 p9 p10) := by
  unfold setPhase
  exact ((((((((((h.setCell (p := ⟨b, 10, none⟩) hp p0).setCell (p := ⟨b, 11, none⟩) hp p1).setCell (p := ⟨b, 12, none⟩) hp p2).setCell (p := ⟨b, 13, none⟩) hp p3).setCell (p := ⟨b, 14, none⟩) hp p4).setCell (p := ⟨b, 15, none⟩) hp p5).setCell (p := ⟨b, 16, none⟩) hp p6).setCell (p := ⟨b, 17, none⟩) hp p7).setCell (p := ⟨b, 18, none⟩) hp p8).setCell (p := ⟨b, 19, none⟩) hp p9).setCell (p := ⟨b, 20, none⟩) hp p10
end

/-- A host at block b, whose blocks are those of S. -/
def HAt (S : Nat → Prop) (w : World) (b : Nat) (h : Hs) : Prop := ∃ av, HostIn w b av h ∧ ∀ i, S i ↔ ofHost b av i

/-- From w to w' the host at b, whose blocks were those of S, came to h; nothing else has turned. -/
def HNext (S : Nat → Prop) (w w' : World) (b : Nat) (h : Hs) : Prop := ∃ S', HAt S' w' b h ∧ (∀ i, S' i → S i ∨ w.heap.size ≤ i) ∧ Kept S w w'

section
variable {S T : Nat → Prop} {w w' w'' : World} {b : Nat} {c c' : Hs}
theorem HAt.lt (h : HAt S w b c) {i : Nat} (hi : S i) : i < w.heap.size := by
  obtain ⟨av, h1, h2⟩ := h
  exact h1.lt ((h2 i).1 hi)
theorem HAt.self (h : HAt S w b c) : S b := by
  obtain ⟨av, h1, h2⟩ := h
  exact (h2 b).2 (Or.inl rfl)
theorem HAt.kept (h : HAt S w b c) (hk : Kept T w w') (hT : ∀ i, S i → ¬ T i) : HAt S w' b c := by
  obtain ⟨av, h1, h2⟩ := h
  exact ⟨av, h1.kept hk (fun i hi => hT i ((h2 i).2 hi)), h2⟩
theorem HAt.kept0 (h : HAt S w b c) (hk : Kept (fun _ => False) w w') : HAt S w' b c := h.kept hk (fun _ _ => id)
theorem HAt.next (h : HAt S w b c) : HNext S w w b c := ⟨S, h, fun _ hi => Or.inl hi, Kept.refl _ _⟩
theorem HNext.step (hn : HNext S w w' b c) (h : ∀ S', HAt S' w' b c → HNext S' w' w'' b c') : HNext S w w'' b c' := by
  obtain ⟨S1, h1, h2, h3⟩ := hn
  obtain ⟨S2, h4, h5, h6⟩ := h S1 h1
  refine ⟨S2, h4, fun i hi => ?_, h3.andThen h6 (fun i hi t => ?_)⟩
  · rcases h5 i hi with h | h
    · exact h2 i h
    · exact Or.inr (Nat.le_trans h3.size h)
  · rcases h2 i t with h | h
    · exact h
    · omega
theorem HNext.still (hn : HNext S w w' b c) (hk : Kept (fun _ => False) w' w'') : HNext S w w'' b c := by
  obtain ⟨S1, h1, h2, h3⟩ := hn
  exact ⟨S1, h1.kept0 hk, h2, h3.andThen hk (fun i hi t => t.elim)⟩
/-- The start is drawn back. -/
theorem HNext.back (hn : HNext S w' w'' b c) (hk : Kept (fun _ => False) w w') : HNext S w w'' b c := by
  obtain ⟨S1, h1, h2, h3⟩ := hn
  exact ⟨S1, h1, fun i hi => (h2 i hi).imp id (fun h => Nat.le_trans hk.size h), (hk.mono (T := S) (fun _ _ h => h.elim)).trans h3⟩
theorem HNext.kept (hn : HNext S w w' b c) : Kept S w w' := by
  obtain ⟨S1, h1, h2, h3⟩ := hn
  exact h3
theorem HAt.iff {S' : Nat → Prop} {c1 c2 : Hs} (h : HAt S w b c1) (h' : HAt S' w b c2) (hc1 : c1.mac.length = 6) (hc2 : c2.mac.length = 6) (hd1 : c1.conc.length = 6) (hd2 : c2.conc.length = 6) : ∀ i, S' i ↔ S i := fun i => by
  obtain ⟨av, q1, q2⟩ := h
  obtain ⟨av', r1, r2⟩ := h'
  obtain ⟨x0, x1, x2, x3, x4, x5, hx⟩ := six_cells hc1
  obtain ⟨y0, y1, y2, y3, y4, y5, hy⟩ := six_cells hd1
  obtain ⟨s0, s1, s2, s3, s4, s5, hs⟩ := six_cells hc2
  obtain ⟨t0, t1, t2, t3, t4, t5, ht⟩ := six_cells hd2
  have e := (q1.cells hx hy).c18.symm.trans (r1.cells hs ht).c18
  obtain rfl : av = av' := Option.some.inj e
  exact (r2 i).trans (q2 i).symm

/-- What a call leaves that answers frames: the host came to c, the frames lie beside it. -/
def HOut (S : Nat → Prop) (w w' : World) (b : Nat) (c : Hs) (v : Value) (l : List Fr) : Prop :=
  OwnE w' w.heap.size v l ∧ ∃ S', HAt S' w' b c ∧ (∀ i, S' i → S i ∨ w.heap.size ≤ i) ∧ Kept S w w' ∧ ∀ i, v.ownBlock = some i → ¬ S' i
theorem HOut.of {v : Value} {l : List Fr} (h : HNext S w w' b c) (hk : Kept (fun _ => False) w' w'') (hv : OwnE w'' w'.heap.size v l) : HOut S w w'' b c v l := by
  obtain ⟨S1, h1, h2, h3⟩ := h
  refine ⟨hv.mono h3.size, S1, h1.kept0 hk, h2, h3.andThen hk (fun i hi t => t.elim), fun i hi hs => ?_⟩
  have q1 := (hv.block hi).2
  have q2 := h1.lt hs
  omega
theorem HOut.nil (h : HNext S w w' b c) : HOut S w w' b c (.slice none 0 0) [] := by
  obtain ⟨S1, h1, h2, h3⟩ := h
  exact ⟨OwnE.nil _ _, S1, h1, h2, h3, fun i hi => by cases hi⟩
theorem HOut.next {v : Value} {l : List Fr} (h : HOut S w w' b c v l) : HNext S w w' b c := by
  obtain ⟨_, S1, h1, h2, h3, _⟩ := h
  exact ⟨S1, h1, h2, h3⟩

/-- A law's own host, made behind w, and the lists of frames that lie beside it; nothing of w has turned. -/
def HSt (w W : World) (b : Nat) (c : Hs) (vs : List (Value × List Fr)) : Prop :=
  ∃ S, HAt S W b c ∧ (∀ i, S i → w.heap.size ≤ i) ∧ Kept (fun _ => False) w W ∧ ∀ p ∈ vs, OwnE W 0 p.1 p.2 ∧ ∀ i, p.1.ownBlock = some i → ¬ S i
theorem HSt.kept {vs : List (Value × List Fr)} (h : HSt w w' b c vs) : Kept (fun _ => False) w w' := by
  obtain ⟨S, h1, h2, h3, h4⟩ := h
  exact h3
theorem HSt.still {vs : List (Value × List Fr)} (h : HSt w w' b c vs) (hk : Kept (fun _ => False) w' w'') : HSt w w'' b c vs := by
  obtain ⟨S, h1, h2, h3, h4⟩ := h
  exact ⟨S, h1.kept0 hk, h2, h3.trans hk, fun p hp => ⟨(h4 p hp).1.kept hk, (h4 p hp).2⟩⟩
theorem HSt.sub {vs us : List (Value × List Fr)} (h : HSt w w' b c vs) (hs : ∀ p ∈ us, p ∈ vs) : HSt w w' b c us := by
  obtain ⟨S, h1, h2, h3, h4⟩ := h
  exact ⟨S, h1, h2, h3, fun p hp => h4 p (hs p hp)⟩
theorem HSt.own {vs : List (Value × List Fr)} (h : HSt w w' b c vs) {v : Value} {l : List Fr} (hp : (v, l) ∈ vs) : OwnE w' 0 v l := by
  obtain ⟨S, h1, h2, h3, h4⟩ := h
  exact (h4 _ hp).1
theorem HSt.from {vs : List (Value × List Fr)} {w0 : World} (h : HSt w w' b c vs) (hk : Kept (fun _ => False) w0 w) : HSt w0 w' b c vs := by
  obtain ⟨S, h1, h2, h3, h4⟩ := h
  exact ⟨S, h1, fun i hi => Nat.le_trans hk.size (h2 i hi), hk.trans h3, h4⟩
/-- A call that answers frames. -/
theorem HSt.call {vs : List (Value × List Fr)} {f : FuncId} {args : Array Value} {l : List Fr} (h : HSt w w' b c vs) (hc : ∀ S, HAt S w' b c → Calls Try.prog f args w' fun e w'' => ∃ v, e = .returned v ∧ HOut S w' w'' b c' v l) :
    Calls Try.prog f args w' fun e w'' => ∃ p cap, e = .returned (.slice p l.length cap) ∧ HSt w w'' b c' ((.slice p l.length cap, l) :: vs) := by
  obtain ⟨S, h1, h2, h3, h4⟩ := h
  refine (hc S h1).mono ?_
  rintro e w2 ⟨v, rfl, hv, S2, k1, k2, k3, k4⟩
  obtain ⟨p, cap, rfl⟩ := slice_of hv
  refine ⟨p, cap, rfl, S2, k1, fun i hi => ?_, h3.andThen k3 (fun i hi t => absurd (h2 i t) (by omega)), fun q hq => ?_⟩
  · rcases k2 i hi with h | h
    · exact h2 i h
    · exact Nat.le_trans h3.size h
  · rcases List.mem_cons.1 hq with rfl | hq
    · exact ⟨hv.mono (Nat.zero_le _), k4⟩
    · obtain ⟨q1, q2⟩ := h4 q hq
      have hlt : ∀ i, q.1.ownBlock = some i → i < w'.heap.size := fun i hi => by
        obtain ⟨⟨cur, e⟩, _⟩ := q1.block hi
        exact (Array.getElem?_eq_some_iff.1 e).1
      refine ⟨q1.same (fun i hi => k3.block i (hlt i hi) (q2 i hi)), fun i hi hs => ?_⟩
      rcases k2 i hs with h | h
      · exact q2 i hi h
      · have := hlt i hi
        omega
/-- A call that only reads. -/
theorem HSt.read {vs : List (Value × List Fr)} {f : FuncId} {args : Array Value} {r : Ending} (h : HSt w w' b c vs) (hc : ∀ av, HostIn w' b av c → Calls Try.prog f args w' fun e w'' => e = r ∧ Kept (fun _ => False) w' w'') :
    Calls Try.prog f args w' fun e w'' => e = r ∧ HSt w w'' b c vs := by
  obtain ⟨S, ⟨av, hH, hS⟩, h2, h3, h4⟩ := id h
  refine (hc av hH).mono ?_
  rintro e w2 ⟨rfl, hk⟩
  exact ⟨rfl, h.still hk⟩
end
end Go.Proofs.Ythpgmfijameddaa
