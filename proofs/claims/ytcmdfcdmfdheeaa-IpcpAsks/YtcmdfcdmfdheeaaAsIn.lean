/- Two negotiations side by side, and lists of packets beside them; 'append' of one list of packets onto another. · How lists of structs among the arguments are read, whatever the struct (no function is named); and how great what they hold may be. · How an address among the arguments is read. -/
import Derived.Test.YtcmdfcdmfdheeaaNgSentK
import Derived.Test.YtcmdfcdmfdheeaaKept
import Derived.ChangeSlices
import Derived.ProofKit
import Derived.OpenShut
import Derived.SizedLaws
import Derived.Lib.SmallJoins
import Derived.Test.YtcmdfcdmfdheeaaPlAd
import Derived.Test.YtcmdfcdmfdheeaaProg
import Derived.ChangeArms
namespace Go.Proofs.Ytcmdfcdmfdheeaa
open Go.RowKit

/-- All blocks of a negotiation that bear its cells and lists. -/
def An (b : Nat) (a : Nm) (i : Nat) : Prop := Sn b a i ∨ a.vm.ownBlock = some i ∨ a.vt.ownBlock = some i

section
variable {W W' w : World} {base b bx bz : Nat} {a a' ax ax' az az' : Nm} {n n' x x' z z' : Ng}
theorem NegIn.an_lt (h : NegIn W base b a n) : ∀ i, An b a i → i < W.heap.size := by
  rintro i (hi | hi | hi)
  · exact h.sn_lt i hi
  · obtain ⟨cur, hc⟩ := h.mine.cellsB hi
    exact (Array.getElem?_eq_some_iff.1 hc).1
  · obtain ⟨cur, hc⟩ := h.theirs.cellsB hi
    exact (Array.getElem?_eq_some_iff.1 hc).1
theorem NNext.an (h : NNext W W' base b a a' n') : ∀ i, An b a' i → An b a i ∨ W.heap.size ≤ i := by
  rintro i (hi | hi | hi)
  · exact (h.sn i hi).imp Or.inl id
  · exact (h.fm i hi).imp (fun e => Or.inr (Or.inl e)) id
  · exact (h.ft i hi).imp (fun e => Or.inr (Or.inr e)) id
theorem NegIn.keptA {S : Nat → Prop} (h : NegIn W base b a n) (hk : Kept S W W') (hc : ∀ i, S i → i < W.heap.size → ∃ cur e fz, W.heap[i]? = some (.cells cur e fz)) (hS : ∀ i, S i → ¬ An b a i) : NegIn W' base b a n :=
  h.keptS hk hc (fun s => hS _ s (Or.inl (Or.inl rfl))) (fun s => hS _ s (Or.inl (Or.inr (Or.inl rfl)))) (fun i hi s => hS i s (Or.inl (Or.inr (Or.inr hi)))) (fun i hi s => hS i s (Or.inr (Or.inl hi))) (fun i hi s => hS i s (Or.inr (Or.inr hi)))
/-- A block of packets is none of a negotiation's. -/
theorem NegIn.an_pk (h : NegIn W base b a n) {i : Nat} (hp : PkBlk W i) : ¬ An b a i := by
  obtain ⟨_, _, h3⟩ := h.not_pk hp
  rintro (hi | hi | hi)
  · exact pk_far h hp hi
  · exact h3 _ _ h.mine hi
  · exact h3 _ _ h.theirs hi

/-- Two negotiations side by side, a law's own. -/
structure Pair (w W : World) (bx : Nat) (ax : Nm) (x : Ng) (bz : Nat) (az : Nm) (z : Ng) : Prop where
  nx : NegIn W w.heap.size bx ax x
  nz : NegIn W w.heap.size bz az z
  fx : ∀ i, Sn bx ax i → ¬ An bz az i
  fz : ∀ i, Sn bz az i → ¬ An bx ax i
  kept : Kept (fun _ => False) w W

theorem Pair.swap (h : Pair w W bx ax x bz az z) : Pair w W bz az z bx ax x := ⟨h.nz, h.nx, h.fz, h.fx, h.kept⟩
theorem Pair.left (h : Pair w W bx ax x bz az z) (k : NNext W W' w.heap.size bx ax ax' x') : Pair w W' bx ax' x' bz az z := by
  refine ⟨k.neg, h.nz.keptA k.kept h.nx.sn_cells h.fx, fun i s t => ?_, fun i s t => ?_, h.kept.andThen k.kept (fun i hi s => by have := h.nx.sn_lo i s; omega)⟩
  · rcases k.sn i s with h1 | h1
    · exact h.fx i h1 t
    · have := h.nz.an_lt i t
      omega
  · rcases k.an i t with h1 | h1
    · exact h.fz i s h1
    · have := h.nz.sn_lt i s
      omega
theorem Pair.right (h : Pair w W bx ax x bz az z) (k : NNext W W' w.heap.size bz az az' z') : Pair w W' bx ax x bz az' z' := (h.swap.left k).swap
theorem Pair.still (h : Pair w W bx ax x bz az z) (hk : Kept (fun _ => False) W W') : Pair w W' bx ax x bz az z := ⟨h.nx.kept0 hk, h.nz.kept0 hk, h.fx, h.fz, h.kept.trans hk⟩
/-- Where blocks of packets turn. -/
theorem Pair.keptR {S : Nat → Prop} (h : Pair w W bx ax x bz az z) (hk : Kept S W W') (hS : ∀ i, S i → PkBlk W i ∧ w.heap.size ≤ i) : Pair w W' bx ax x bz az z := by
  have hc : ∀ i, S i → i < W.heap.size → ∃ cur e fz, W.heap[i]? = some (.cells cur e fz) := fun i s _ => by
    obtain ⟨cur, hc⟩ := (hS i s).1
    exact ⟨_, _, _, hc⟩
  exact ⟨h.nx.keptA hk hc (fun i s => h.nx.an_pk (hS i s).1), h.nz.keptA hk hc (fun i s => h.nz.an_pk (hS i s).1), h.fx, h.fz, h.kept.andThen hk (fun i hi s => by have := (hS i s).2; omega)⟩
/-- A second one, made behind the first. -/
theorem Pair.made {B : Nat} (h : NMine w W bx ax x) (hz : NegIn W' B bz az z) (hB : W.heap.size ≤ B) (hza : ∀ i, An bz az i → B ≤ i) (hk : Kept (fun _ => False) W W') : Pair w W' bx ax x bz az z := by
  have hx := h.neg.kept0 hk
  have hs := h.kept.size
  refine ⟨hx, hz.lower (by omega), fun i s t => ?_, fun i s t => ?_, h.kept.trans hk⟩
  · have h1 := h.neg.sn_lt i s
    have h2 := hza i t
    omega
  · have h1 := h.neg.an_lt i t
    have h2 := hza i (Or.inl s)
    omega
theorem NegIn.an_lo (h : NegIn W base b a n) : ∀ i, An b a i → base ≤ i := by
  rintro i (hi | hi | hi)
  · exact h.sn_lo i hi
  · exact h.mine.baseB hi
  · exact h.theirs.baseB hi

/-- A list of packets of a law's own, apart from what T says. -/
structure Pks (W : World) (base : Nat) (T : Nat → Prop) (v : Value) (l : List (Pk0 × Value)) : Prop where
  row : W.ownsRow base 40 4 v l.length (rowP l)
  opts : ∀ q ∈ l, OwnO W base q.2 q.1.opts
  far : ∀ q ∈ l, ∀ i, q.2.ownBlock = some i → ¬ T i
def Tp (bx : Nat) (ax : Nm) (bz : Nat) (az : Nm) (i : Nat) : Prop := Sn bx ax i ∨ Sn bz az i

variable {T T' : Nat → Prop} {v : Value} {l : List (Pk0 × Value)}
theorem Pks.blk (h : Pks W base T v l) {i : Nat} (hi : v.ownBlock = some i) : PkBlk W i ∧ base ≤ i := row_blk h.row hi
theorem Pks.nil (W : World) (base : Nat) (T : Nat → Prop) : Pks W base T (.slice none 0 0) [] := ⟨World.ownsRow_nil _ _ _ _, fun _ hq => absurd hq List.not_mem_nil, fun _ hq => absurd hq List.not_mem_nil⟩
theorem Pks.lower {B : Nat} (h : Pks W base T v l) (hB : B ≤ base) : Pks W B T v l := ⟨row_rebase h.row hB, fun q hq => (h.opts q hq).mono hB, h.far⟩
theorem Pks.still (h : Pks W base T v l) (hk : Kept (fun _ => False) W W') : Pks W' base T v l := ⟨row_kept h.row hk (fun _ _ => id), fun q hq => (h.opts q hq).kept hk, h.far⟩
theorem Pks.lt (h : Pks W base T v l) {q : Pk0 × Value} (hq : q ∈ l) {i : Nat} (hi : q.2.ownBlock = some i) : i < W.heap.size := by
  obtain ⟨cur, hc⟩ := (h.opts q hq).cellsB hi
  exact (Array.getElem?_eq_some_iff.1 hc).1
/-- Where blocks of packets turn that are not its own. -/
theorem Pks.keptR {S : Nat → Prop} (h : Pks W base T v l) (hk : Kept S W W') (hS : ∀ i, S i → PkBlk W i) (hne : ∀ i, v.ownBlock = some i → ¬ S i) : Pks W' base T v l := by
  refine ⟨row_kept h.row hk hne, fun q hq => (h.opts q hq).keptS hk (fun i hi s => ?_), h.far⟩
  obtain ⟨cur, hc⟩ := (h.opts q hq).cellsB hi
  obtain ⟨cur', hc'⟩ := hS i s
  rw [hc] at hc'
  simp at hc'
/-- Where the one negotiation goes on. -/
theorem Pks.left (h : Pks W base (Tp bx ax bz az) v l) (hp : Pair w W bx ax x bz az z) (k : NNext W W' w.heap.size bx ax ax' x') : Pks W' base (Tp bx ax' bz az) v l := by
  refine ⟨row_kept h.row k.kept (fun i hi s => pk_far hp.nx (h.blk hi).1 s), fun q hq => (h.opts q hq).keptS k.kept (fun i hi s => h.far q hq i hi (Or.inl s)), fun q hq i hi t => ?_⟩
  rcases t with t | t
  · rcases k.sn i t with h1 | h1
    · exact h.far q hq i hi (Or.inl h1)
    · have := h.lt hq hi
      omega
  · exact h.far q hq i hi (Or.inr t)
theorem Pks.swap (h : Pks W base (Tp bx ax bz az) v l) : Pks W base (Tp bz az bx ax) v l := ⟨h.row, h.opts, fun q hq i hi t => h.far q hq i hi t.symm⟩
theorem Pks.right (h : Pks W base (Tp bx ax bz az) v l) (hp : Pair w W bx ax x bz az z) (k : NNext W W' w.heap.size bz az az' z') : Pks W' base (Tp bx ax bz az') v l := (h.swap.left hp.swap k).swap
/-- What the one of them has sent. -/
theorem Pair.sentL (hp : Pair w W bx ax x bz az z) {s : Ng × List Pk0} (h : Sent W W' w.heap.size bx ax s v) : ∃ ax' l, NNext W W' w.heap.size bx ax ax' s.1 ∧ Pks W' W.heap.size (Tp bx ax' bz az) v l ∧ l.map (·.1) = s.2 := by
  obtain ⟨a', l, hs, e⟩ := h
  refine ⟨a', l, hs.nx, ⟨hs.row, hs.opts, fun q hq i hi t => ?_⟩, e⟩
  rcases t with t | t
  · exact hs.far q hq i hi t
  · have h1 := hp.nz.sn_lt i t
    have h2 := (hs.opts q hq).baseB hi
    omega
theorem Pair.sentR (hp : Pair w W bx ax x bz az z) {s : Ng × List Pk0} (h : Sent W W' w.heap.size bz az s v) : ∃ az' l, NNext W W' w.heap.size bz az az' s.1 ∧ Pks W' W.heap.size (Tp bx ax bz az') v l ∧ l.map (·.1) = s.2 := by
  obtain ⟨a', l, h1, h2, h3⟩ := hp.swap.sentL h
  exact ⟨a', l, h1, h2.swap, h3⟩
/-- A packet of the list, as it is taken. -/
theorem Pks.at {p : Option Addr} {m cap j : Nat} (h : Pks W base T (.slice p m cap) l) {q : Pk0 × Value} (hj : l[j]? = some q) :
    ∃ g, p = some ⟨g, 0, none⟩ ∧ l.length ≤ cap ∧ W.cell? ⟨g, j * 4, none⟩ = some (.int .i64 q.1.code) ∧ W.cell? ⟨g, j * 4 + 1, none⟩ = some (.int .i64 q.1.id) ∧ W.cell? ⟨g, j * 4 + 2, none⟩ = some q.2 ∧ W.cell? ⟨g, j * 4 + 3, none⟩ = some (.string q.1.data) := by
  rcases h.row.2 with ⟨e, h0⟩ | ⟨g, cap', cur, e, hb, hg, h1, h2, h3, h4⟩
  · have := (List.getElem?_eq_some_iff.1 hj).1
    omega
  · simp only [Value.slice.injEq] at e
    obtain ⟨rfl, rfl, rfl⟩ := e
    have hlt := (List.getElem?_eq_some_iff.1 hj).1
    have hc : ∀ i, i < 4 → W.cell? ⟨g, j * 4 + i, none⟩ = (pkCells q)[i]? := fun i hi => by
      rw [← rowP_get hj i hi, ← h4, List.getElem?_take_of_lt (by omega)]
      simp [World.cell?, hg]
    exact ⟨g, rfl, h1, hc 0 (by omega), hc 1 (by omega), hc 2 (by omega), hc 3 (by omega)⟩
theorem Pks.slice (h : Pks W base T v l) : ∃ p cap, v = .slice p l.length cap := slice_of h.row
theorem Pks.pk (h : Pks W base T v l) {q : Pk0 × Value} (hq : q ∈ l) (hT : ∀ i, Sn b a i → T i) (hf : FineO q.1.opts) (hd : q.1.data.size ≤ 140737488351232) : PkIn W b a q.1 q.2 :=
  ⟨(h.opts q hq).at, Or.inr (fun i hi s => h.far q hq i hi (hT i s)), hf, hd⟩
theorem rowP_oneCell (h : ∀ q ∈ l, OwnO W base q.2 q.1.opts) : ∀ u ∈ rowP l, u.oneCell' = true := by
  intro u hu
  unfold rowP at hu
  obtain ⟨q, hq, hx⟩ := List.mem_flatMap.1 hu
  obtain ⟨pu, cu, e⟩ := slice_of (h q hq)
  simp only [pkCells, List.mem_cons, List.not_mem_nil, or_false] at hx
  rcases hx with rfl | rfl | rfl | rfl
  · rfl
  · rfl
  · rw [e]; rfl
  · rfl
/-- 'append' of one list onto another; what turns is the one's own row. -/
theorem Pks.app {B : Nat} {u : Value} {m : List (Pk0 × Value)} (h : Pks W base T v l) (hu : Pks W B T u m) (hB : base ≤ B) (hbs : base ≤ W.heap.size) (hn : l.length + m.length ≤ 1000) :
    ∃ v' W', AppP W v u v' W' ∧ Pks W' base T v' (l ++ m) ∧ Kept (fun i => v.ownBlock = some i) W W' := by
  obtain ⟨i0, hi0, hz0, hz1, hz2⟩ := info_parts infoPk
  obtain ⟨pu, cu, rfl⟩ := hu.slice
  by_cases hm : m = []
  · subst hm
    have hsrc : ∀ (q : Option Addr) (c : Nat), Src Try.prog i0.size 36 (.slice q 0 c) 0 [] W := fun q c => by
      cases q with
      | none => exact Src.ofNil W Try.underlying36 c
      | some a => exact Src.ofSlice W Try.underlying36 a 0 c [] (by simp) (fun j u hj => by simp at hj) (fun u hu => by simp at hu)
    refine ⟨v, W, fun ty => ?_, by rw [List.append_nil]; exact h, Kept.refl _ _⟩
    rcases h.row.2 with ⟨rfl, _⟩ | ⟨g', cap', cur, rfl, _, _, h1, _⟩
    · exact run_append_nothing W _ _ _ _ i0 Try.underlying36 hi0 none 0 0 (Nat.le_refl _) _ (hsrc _ _)
    · exact run_append_nothing W _ _ _ _ i0 Try.underlying36 hi0 _ _ _ h1 _ (hsrc _ _)
  · have hpos : 0 < m.length := List.length_pos_iff.2 hm
    rcases hu.row.2 with ⟨e, h0⟩ | ⟨g, cap', cur, e, hb, hg, h1, h2, h3, h4⟩
    · omega
    · simp only [Value.slice.injEq] at e
      obtain ⟨rfl, _, rfl⟩ := e
      have hc : ∀ (j : Nat) (x : Value), (rowP m)[j]? = some x → W.cell? ((⟨g, 0, none⟩ : Addr).add j) = some x := fun j x hj => by
        have hlt := (List.getElem?_eq_some_iff.1 hj).1
        rw [rowP_length] at hlt
        rw [add_none, Nat.zero_add, ← hj, ← h4, List.getElem?_take_of_lt hlt]
        simp [World.cell?, hg]
      obtain ⟨v', W', r1, r2, r3⟩ := owned_append (P := Try.prog) Try.underlying36 hi0 hz0 hz1 hz2 rfl (by decide) h.row hbs ⟨g, 0, none⟩ m.length cu (rowP m) hpos (rowP_length _) hc (rowP_oneCell hu.opts) (by omega) (by decide)
      have hk : Kept (fun i => v.ownBlock = some i) W W' := by
        rcases r3 with ⟨g', cap', rfl, rfl, hk⟩ | ⟨cap', rfl, hk, _⟩
        · exact hk.mono (fun i _ e => by rw [e]; rfl)
        · exact hk.mono (fun i _ e => e.elim)
      refine ⟨v', W', r1, ⟨?_, fun q hq => ?_, fun q hq => ?_⟩, hk⟩
      · rw [rowP_append, List.length_append]
        exact r2
      · have hne : ∀ {B' : Nat}, OwnO W B' q.2 q.1.opts → OwnO W' B' q.2 q.1.opts := fun {B'} ho => ho.keptS hk (fun i hi s => by
          obtain ⟨cur1, c1⟩ := ho.cellsB hi
          obtain ⟨cur2, c2⟩ := (h.blk s).1
          rw [c1] at c2
          simp at c2)
        rcases List.mem_append.1 hq with hq | hq
        · exact hne (h.opts q hq)
        · exact (hne (hu.opts q hq)).mono hB
      · rcases List.mem_append.1 hq with hq | hq
        · exact h.far q hq
        · exact hu.far q hq
end
end Go.Proofs.Ytcmdfcdmfdheeaa

namespace Go.Proofs.Ytcmdfcdmfdheeaa
open Go.ChangeShapes Go.WideShapes Go.ChangeAt Go.RowKit Go.Joins

/-- A list in memory, to be read: K cells each. -/
def RowsAt {α : Type} (W : World) (K : Nat) (cells : α → List Value) (v : Value) (l : List α) : Prop :=
  (l = [] ∧ ∃ p cap, v = .slice p 0 cap) ∨ ∃ g o cap, v = .slice (some ⟨g, o, none⟩) l.length cap ∧ l.length ≤ cap ∧ cap ≤ maxLen ∧
    ∀ j x, l[j]? = some x → ∀ i u, (cells x)[i]? = some u → W.cell? ⟨g, o + j * K + i, none⟩ = some u
section
variable {α : Type} {K : Nat} {cells : α → List Value}
theorem RowsAt.slice {W : World} {v : Value} {l : List α} (h : RowsAt W K cells v l) : ∃ p cap, v = .slice p l.length cap := by
  rcases h with ⟨rfl, p, cap, rfl⟩ | ⟨g, o, cap, rfl, _⟩
  · exact ⟨p, cap, rfl⟩
  · exact ⟨_, cap, rfl⟩
theorem RowsAt.kept {S : Nat → Prop} {W W' : World} {v : Value} {l : List α} (h : RowsAt W K cells v l) (hk : Kept S W W') (hS : ∀ i, i < W.heap.size → S i → v.ownBlock ≠ some i) : RowsAt W' K cells v l := by
  rcases h with ⟨rfl, p, cap, rfl⟩ | ⟨g, o, cap, rfl, h1, h2, hc⟩
  · exact Or.inl ⟨rfl, p, cap, rfl⟩
  · refine Or.inr ⟨g, o, cap, rfl, h1, h2, fun j x hj i u hu => ?_⟩
    have c := hc j x hj i u hu
    have hlt := lt_of_cell c
    exact (hk.cell (p := ⟨g, o + j * K + i, none⟩) hlt (fun hs => hS g hlt hs rfl)).trans c
theorem RowsAt.kept0 {W W' : World} {v : Value} {l : List α} (h : RowsAt W K cells v l) (hk : Kept (fun _ => False) W W') : RowsAt W' K cells v l := h.kept hk (fun _ _ h => h.elim)
theorem RowsAt.at {W : World} {p : Option Addr} {n cap : Nat} {l : List α} (h : RowsAt W K cells (.slice p n cap) l) {j : Nat} {x : α} (hj : l[j]? = some x) :
    ∃ g o, p = some ⟨g, o, none⟩ ∧ n ≤ cap ∧ ∀ i u, (cells x)[i]? = some u → W.cell? ⟨g, o + j * K + i, none⟩ = some u := by
  rcases h with ⟨rfl, _⟩ | ⟨g, o, cap', e, hle, _, hc⟩
  · simp at hj
  · simp only [Value.slice.injEq] at e
    obtain ⟨rfl, rfl, rfl⟩ := e
    exact ⟨g, o, rfl, hle, hc j x hj⟩
end

section
variable {H : Type} {enc : TypeId × Value → H} {P : Program} {w : World} {base : Nat} {spare : Nat → Bool} {held : Bool}

theorem spot_no {W : World} {g o : Nat} {sp : Option Nat} {u : Value} (h : W.cell? ((⟨g, o, sp⟩ : Addr).add 0) = some u) : sp = none := by
  unfold Addr.add at h
  cases sp with
  | none => rfl
  | some q =>
    exfalso
    unfold World.cell? at h
    split at h <;> simp at h

/-- What a list's data hold, element by element. -/
def HoldsBy {α : Type} (R : α → DataW H → Prop) (l : List α) (d : DataW H) : Prop := l = [] ∨ ∃ es sp, d = .slice es sp ∧ ∀ (j : Nat) (x : α), l[j]? = some x → ∃ y, es[j]? = some y ∧ R x y

theorem open_rows {α : Type} {t e : TypeId} {K fuel : Nat} (cells : α → List Value) (R : α → DataW H → Prop) (hu : P.underlying t = some (.slice e)) (hK : P.cellsOf e = K) (x0 : α) (hc0 : ∀ x, 0 < (cells x).length)
    (each : ∀ n cs y, cs.length = K → DataW.trod enc P w base spare held n e cs = some y → ∃ x : α, cs = cells x ∧ R x y.1)
    {v : Value} {d : DataW H} {p : List MemPlace} (hf : DataW.trod enc P w base spare held fuel t [v] = some (d, p)) :
    ∃ l : List α, RowsAt w K cells v l ∧ l.length ≤ maxLen ∧ HoldsBy R l d ∧ ∀ n cap, v = .slice none n cap → cap = 0 := by
  rcases DataW.trod_slice hu hf with ⟨hcs, _⟩ | ⟨a', len, cap, elems, rest, n, _, hcs, hx, hb, hl, hm, hlen, hel, _, _⟩
  · obtain rfl := List.singleton_inj.1 hcs
    exact ⟨[], Or.inl ⟨rfl, _, _, rfl⟩, Nat.zero_le _, Or.inl rfl, fun n cap e => by simp at e; omega⟩
  · obtain rfl := List.singleton_inj.1 hcs
    have ech : ∀ i, ∃ o : α, i < len → (∀ q u, (cells o)[q]? = some u → w.cell? ((a'.add (i * K)).add q) = some u) ∧ ∃ y, (elems.map (·.1))[i]? = some y ∧ R o y := fun i => by
      by_cases hi : i < len
      · have h1 := hel i hi
        rw [hK] at h1
        obtain ⟨y, hy⟩ : ∃ y, elems[i]? = some y := ⟨elems[i]'(by omega), by simp⟩
        rw [hy, Option.bind_eq_some_iff] at h1
        obtain ⟨cs, hc, ht⟩ := h1
        obtain ⟨_, hcl, hcell⟩ := World.cells?_some hc
        obtain ⟨o, e, hR⟩ := each n cs y hcl ht
        refine ⟨o, fun _ => ⟨fun q u hq => ?_, y.1, by rw [List.getElem?_map, hy]; rfl, hR⟩⟩
        subst e
        have hql := (List.getElem?_eq_some_iff.1 hq).1
        have := hcell q (by omega)
        rw [this]
        exact hq
      · exact ⟨x0, fun h => absurd h hi⟩
    obtain ⟨F, hF⟩ := skolem1 ech
    refine ⟨(List.range len).map F, ?_, by simp; omega, ?_, fun n cap e => by simp at e⟩
    · obtain ⟨g, o, sp⟩ := a'
      cases len with
      | zero => exact Or.inl ⟨rfl, some ⟨g, o, sp⟩, cap, rfl⟩
      | succ m =>
        obtain ⟨u0, hu0⟩ : ∃ u, (cells (F 0))[0]? = some u := ⟨(cells (F 0))[0]'(hc0 _), by simp⟩
        have h0 := (hF 0 (by omega)).1 0 _ hu0
        have hsp : sp = none := by
          have e : ((⟨g, o, sp⟩ : Addr).add (0 * K)).add 0 = (⟨g, o, sp⟩ : Addr).add 0 := by
            rw [Nat.zero_mul]
            unfold Addr.add
            simp
          rw [e] at h0
          exact spot_no h0
        subst hsp
        refine Or.inr ⟨g, o, cap, by simp, by simpa using hl, hm, fun j x hj q u hq => ?_⟩
        have hjl : j < m + 1 := by
          have := (List.getElem?_eq_some_iff.1 hj).1
          simpa using this
        have hx : x = F j := by
          rw [List.getElem?_map, List.getElem?_range hjl] at hj
          simpa using hj.symm
        subst hx
        have k1 := (hF j hjl).1 q u hq
        simp only [Addr.add_lit] at k1
        exact k1
    · have hd : d = .slice (elems.map (·.1)) (rest.map (·.1)) := congrArg Prod.fst hx
      refine Or.inr ⟨_, _, hd, fun j x hj => ?_⟩
      have hjl : j < len := by
        have := (List.getElem?_eq_some_iff.1 hj).1
        simpa using this
      have hx : x = F j := by
        rw [List.getElem?_map, List.getElem?_range hjl] at hj
        simpa using hj.symm
      subst hx
      exact (hF j hjl).2

/-- What data hold is no greater than may be. -/
def Wt (P : Program) (t : TypeId) (d : DataW H) : Prop := ∀ n ∈ d.weights P t, n ≤ reachBytes
theorem wt_arg {ts : List TypeId} {ds : List (DataW H)} (h : (DataW.weightsEach P ts ds).all (· ≤ reachBytes) = true) {j : Nat} {t : TypeId} {d : DataW H} (ht : ts[j]? = some t) (hd : ds[j]? = some d) : Wt P t d := fun n hn => by
  have := List.all_eq_true.1 h _ (DataW.weights_mem_each ht hd n hn)
  simpa using this
theorem wt_all {e : TypeId} : ∀ {l : List (DataW H)} {d : DataW H}, d ∈ l → ∀ n ∈ d.weights P e, n ∈ DataW.weightsAll P e l
  | a :: l, d, h, n, hn => by
    simp only [DataW.weightsAll, List.mem_append]
    rcases List.mem_cons.1 h with rfl | h
    · exact Or.inl hn
    · exact Or.inr (wt_all h n hn)
theorem wt_slice {t e : TypeId} {es sp : List (DataW H)} {y : DataW H} (h : Wt P t (.slice es sp)) (hu : P.underlying t = some (.slice e)) (hy : y ∈ es) : Wt P e y := fun n hn => h n (by
  simp only [DataW.weights, hu, List.mem_cons, List.mem_append]
  exact Or.inr (Or.inl (wt_all hy n hn)))
theorem wt_field {t : TypeId} {fs : Array Field} {ds : List (DataW H)} {j : Nat} {f : Field} {d : DataW H} (h : Wt P t (.agg ds)) (hu : P.underlying t = some (.struct fs)) (hf : fs[j]? = some f) (hd : ds[j]? = some d) : Wt P f.type d := fun n hn => h n (by
  simp only [DataW.weights, hu]
  refine DataW.weights_mem_each (j := j) (t := f.type) (d := d) ?_ hd n hn
  rw [List.getElem?_map, Array.getElem?_toList, hf]
  rfl)
theorem wt_string {t : TypeId} {x : ByteArray} (h : Wt P t (.lit (.string x.data.toList) : DataW H)) : x.size ≤ 140737488351232 := by
  have := h x.data.toList.length (by simp [DataW.weights])
  rw [Lib.size_eq]
  exact this
theorem wt_list {α : Type} {R : α → DataW H → Prop} {t e : TypeId} {l : List α} {d : DataW H} (h : Wt P t d) (hu : P.underlying t = some (.slice e)) (hl : HoldsBy R l d) : ∀ x ∈ l, ∃ y, R x y ∧ Wt P e y := fun x hx => by
  rcases hl with rfl | ⟨es, sp, rfl, he⟩
  · cases hx
  · obtain ⟨j, hj⟩ := List.getElem?_of_mem hx
    obtain ⟨y, hy, hr⟩ := he j x hj
    exact ⟨y, hr, wt_slice h hu (List.mem_of_getElem? hy)⟩
end
end Go.Proofs.Ytcmdfcdmfdheeaa

namespace Go.Proofs.Ytcmdfcdmfdheeaa
open Go.ChangeShapes Go.WideShapes Go.ChangeAt Go.RowKit Go.Joins

theorem cells16a : Try.prog.cellsOf 24 = 4 := by kernel_rfl
theorem cells16b : Try.prog.cellsOf 5 = 1 := by kernel_rfl
def byteOf : Value → UInt8
  | .int _ n => UInt8.ofNat n.toNat
  | _ => 0
section
variable {H : Type} {enc : TypeId × Value → H} {w : World} {base : Nat} {spare : Nat → Bool} {held : Bool}
theorem byte_at {fuel : Nat} {c : Value} {x : DataW H × List MemPlace} (h : DataW.trod enc Try.prog w base spare held fuel 5 [c] = some x) : c = .int .u8 ((byteOf c).toNat : Int) := by
  obtain ⟨n, hc, _, hw⟩ := DataW.trod_int Try.underlying5 h
  have hb := bounds_u8 hw
  simp at hc
  subst hc
  have hlt : n.toNat < 256 := by omega
  have e : (UInt8.ofNat n.toNat).toNat = n.toNat := UInt8.toNat_ofNat_of_lt hlt
  simp only [byteOf]
  rw [e, Int.toNat_of_nonneg hb.1]
set_option maxRecDepth 100000 in
theorem ad_cells {fuel : Nat} {l : List Value} {x : DataW H × List MemPlace} (h : DataW.trod enc Try.prog w base spare held fuel 24 l = some x) : ∃ y : Ad, l = adCells y := by
  obtain ⟨xs, m, _, _, hl, hn, hf⟩ := DataW.trod_array Try.underlying24 h
  rw [cells16a] at hl
  match l, hl, xs, hn with
  | [v0, v1, v2, v3], _, [y0, y1, y2, y3], _ =>
    have g0 := hf 0 (by decide)
    have g1 := hf 1 (by decide)
    have g2 := hf 2 (by decide)
    have g3 := hf 3 (by decide)
    simp [cells16b] at g0 g1 g2 g3
    refine ⟨⟨byteOf v0, byteOf v1, byteOf v2, byteOf v3⟩, ?_⟩
    unfold adCells
    rw [← byte_at g0, ← byte_at g1, ← byte_at g2, ← byte_at g3]
set_option maxRecDepth 100000 in
theorem open_addr {r : Reach} {b0 : Nat} {v : Value} {d : DataW H} {p : List MemPlace} (hv : Value.okWide Try.prog w r b0 24 v) (h : DataW.Trod enc Try.prog w base spare held 24 v d p) : ∃ y : Ad, v = adV y := by
  obtain ⟨cs, rfl⟩ : ∃ cs, v = .agg cs := by
    simp only [Value.okWide, Try.underlying24] at hv
    obtain ⟨cs, h1, _⟩ := hv
    exact ⟨cs, h1⟩
  obtain ⟨fuel, hf⟩ := h
  obtain ⟨y, hc⟩ := ad_cells hf
  refine ⟨y, ?_⟩
  unfold adV
  congr 1
  apply Array.toList_inj.1
  exact hc
end
end Go.Proofs.Ytcmdfcdmfdheeaa
