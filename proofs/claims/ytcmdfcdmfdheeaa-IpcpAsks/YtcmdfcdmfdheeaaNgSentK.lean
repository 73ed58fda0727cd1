/- What was sent, as it is read; a negotiation of one's own. -/
import Derived.Test.YtcmdfcdmfdheeaaNgReq
namespace Go.Proofs.Ytcmdfcdmfdheeaa
open Go.RowKit

/-- A law's own negotiation, made behind w; nothing of w has turned. -/
structure NMine (w W : World) (b : Nat) (a : Nm) (n : Ng) : Prop where
  neg : NegIn W w.heap.size b a n
  kept : Kept (fun _ => False) w W
theorem NMine.still {w W W' : World} {b : Nat} {a : Nm} {n : Ng} (h : NMine w W b a n) (hk : Kept (fun _ => False) W W') : NMine w W' b a n := ⟨h.neg.kept0 hk, h.kept.trans hk⟩
theorem NMine.next {w W W' : World} {b : Nat} {a a' : Nm} {n n' : Ng} (h : NMine w W b a n) (k : NNext W W' w.heap.size b a a' n') : NMine w W' b a' n' :=
  ⟨k.neg, h.kept.andThen k.kept (fun i hi s => by have := h.neg.sn_lo i s; omega)⟩

/-- The first packet of a list that was sent, as it is read. -/
theorem SentBy.cells {w w' : World} {base b : Nat} {a a' : Nm} {n' : Ng} {p : Option Addr} {m cap : Nat} {l : List (Pk0 × Value)} (h : SentBy w w' base b a a' n' (.slice p m cap) l) {j : Nat} {q : Pk0 × Value} (hj : l[j]? = some q) :
    ∃ g, p = some ⟨g, 0, none⟩ ∧ l.length ≤ cap ∧ w'.cell? ⟨g, j * 4, none⟩ = some (.int .i64 q.1.code) ∧ w'.cell? ⟨g, j * 4 + 1, none⟩ = some (.int .i64 q.1.id) ∧ w'.cell? ⟨g, j * 4 + 2, none⟩ = some q.2 ∧ w'.cell? ⟨g, j * 4 + 3, none⟩ = some (.string q.1.data) ∧ w.heap.size ≤ g ∧ PkBlk w' g := by
  rcases h.row.2 with ⟨e, h0⟩ | ⟨g, cap', cur, e, hb, hg, h1, h2, h3, h4⟩
  · have := (List.getElem?_eq_some_iff.1 hj).1
    omega
  · simp only [Value.slice.injEq] at e
    obtain ⟨rfl, rfl, rfl⟩ := e
    have hlt := (List.getElem?_eq_some_iff.1 hj).1
    have hc : ∀ i, i < 4 → w'.cell? ⟨g, j * 4 + i, none⟩ = (pkCells q)[i]? := fun i hi => by
      rw [← rowP_get hj i hi, ← h4, List.getElem?_take_of_lt (by omega)]
      simp [World.cell?, hg]
    exact ⟨g, rfl, h1, hc 0 (by omega), hc 1 (by omega), hc 2 (by omega), hc 3 (by omega), hb, cur, hg⟩

theorem NegIn.lower {W : World} {base B b : Nat} {a : Nm} {n : Ng} (h : NegIn W base b a n) (hB : B ≤ base) : NegIn W B b a n :=
  ⟨h.cells, h.auto, h.req.mono hB, h.own, h.peer, h.mine.mono hB, h.theirs.mono hB, h.far1, h.far2, Nat.le_trans hB h.lo, Nat.le_trans hB h.lo2, h.good⟩

/-- The cells of one packet in a row that was sent. -/
structure RowK (W : World) (g : Nat) (c i : Int) (u : Value) (s : ByteArray) : Prop where
  blk : PkBlk W g
  r0 : W.cell? ⟨g, 0, none⟩ = some (.int .i64 c)
  r1 : W.cell? ⟨g, 1, none⟩ = some (.int .i64 i)
  r2 : W.cell? ⟨g, 2, none⟩ = some u
  r3 : W.cell? ⟨g, 3, none⟩ = some (.string s)
theorem RowK.kept {S : Nat → Prop} {W W' : World} {g : Nat} {c i : Int} {u : Value} {s : ByteArray} (h : RowK W g c i u s) (hk : Kept S W W') (hS : ¬ S g) : RowK W' g c i u s :=
  ⟨h.blk.kept hk hS, (hk.cell (p := ⟨g, 0, none⟩) h.blk.lt hS).trans h.r0, (hk.cell (p := ⟨g, 1, none⟩) h.blk.lt hS).trans h.r1, (hk.cell (p := ⟨g, 2, none⟩) h.blk.lt hS).trans h.r2, (hk.cell (p := ⟨g, 3, none⟩) h.blk.lt hS).trans h.r3⟩
theorem pk_far {W : World} {base b g : Nat} {a : Nm} {n : Ng} (h : NegIn W base b a n) (hp : PkBlk W g) : ¬ Sn b a g := by
  obtain ⟨h1, h2, h3⟩ := h.not_pk hp
  rintro (e | e | e)
  · exact h1 e
  · exact h2 e
  · exact h3 _ _ h.req e
theorem RowK.step {W W' : World} {base b g : Nat} {a a' : Nm} {n n' : Ng} {c i : Int} {u : Value} {s : ByteArray} (h : RowK W g c i u s) (hn : NegIn W base b a n) (k : NNext W W' base b a a' n') : RowK W' g c i u s := h.kept k.kept (pk_far hn h.blk)

/-- What a call sent was one packet. -/
theorem sent_one {w w' : World} {base b : Nat} {a : Nm} {n' : Ng} {q : Pk0} {v : Value} (h : Sent w w' base b a (n', [q]) v) : ∃ a' g cap u, v = .slice (some ⟨g, 0, none⟩) 1 cap ∧ 1 ≤ cap ∧ NNext w w' base b a a' n' ∧ RowK w' g q.code q.id u q.data ∧ OwnO w' w.heap.size u q.opts ∧ (∀ i, u.ownBlock = some i → ¬ Sn b a' i) ∧ w.heap.size ≤ g := by
  obtain ⟨a', l, hs, e⟩ := h
  obtain ⟨q', rfl⟩ : ∃ q', l = [q'] := by
    cases l with
    | nil => cases e
    | cons x l =>
      cases l with
      | nil => exact ⟨x, rfl⟩
      | cons y l => simp at e
  have e' : q'.1 = q := by simpa using e
  subst e'
  obtain ⟨p, cap, rfl⟩ := slice_of hs.row
  obtain ⟨g, rfl, h1, c0, c1, c2, c3, h2, h3⟩ := hs.cells (j := 0) rfl
  exact ⟨a', g, cap, q'.2, rfl, h1, hs.nx, ⟨h3, c0, c1, c2, c3⟩, hs.opts q' (by simp), hs.far q' (by simp), h2⟩
theorem sent_zero {w w' : World} {base b : Nat} {a : Nm} {n' : Ng} {v : Value} (h : Sent w w' base b a (n', []) v) : ∃ a' p cap, v = .slice p 0 cap ∧ NNext w w' base b a a' n' := by
  obtain ⟨a', l, hs, e⟩ := h
  have : l = [] := by simpa using e
  subst this
  obtain ⟨p, cap, rfl⟩ := slice_of hs.row
  exact ⟨a', p, cap, rfl, hs.nx⟩

theorem nilPk {W : World} {b : Nat} {a : Nm} (c i : Int) (s : ByteArray) (hs : s.size ≤ 140737488351232) : PkIn W b a ⟨c, i, [], s⟩ (.slice none 0 0) := ⟨OptsAt.nil W, Or.inl rfl, fineNil, hs⟩

theorem one_opt {W : World} {g base : Nat} {x : Tg} (h : BoxO W g x) (hb : base ≤ g) : OwnO W base (.slice (some ⟨g, 0, none⟩) 1 1) [x] :=
  ⟨rfl, Or.inr ⟨g, 1, _, rfl, hb, h, Nat.le_refl _, by decide, rfl, rfl⟩⟩
theorem fine1 {x : Tg} (h1 : In64 x.type) (h2 : x.value.size ≤ 140737488351232) : FineO [x] := ⟨by simp, fun y hy => by rw [List.mem_singleton.1 hy]; exact h1, fun y hy => by rw [List.mem_singleton.1 hy]; exact h2⟩
end Go.Proofs.Ytcmdfcdmfdheeaa
