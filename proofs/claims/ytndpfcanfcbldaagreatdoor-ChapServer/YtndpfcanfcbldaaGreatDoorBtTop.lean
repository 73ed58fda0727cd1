/- The book of two kinds, as laws with two that play use it: the contract of Sent, a bound on what it holds, and what leaves it as it is. · Two that play side by side (the program's and the document's, a block each) and the book that takes what the program's tells: what a round leaves. -/
import Derived.Test.YtndpfcanfcbldaaGreatDoorBtMem
import Derived.Test.YtndpfcanfcbldaaGreatDoorBtApart
namespace Go.Proofs.YtndpfcanfcbldaaGreatDoor
open Go.RowKit

/-- The types of the book's own blocks. -/
def tsB (t : TypeId) : Prop := t = 52 ∨ t = 55 ∨ t = 53
theorem BK.keeps {ts : TypeId → Prop} {base : Nat} {W W' : World} (h : BK ts base W W') {b : Nat} {cur : Array Value} {t : TypeId} (hb : W.heap[b]? = some (.cells cur t (0, 0))) (ht : ¬ ts t) : W'.heap[b]? = some (.cells cur t (0, 0)) :=
  (h.k.block b (Array.getElem?_eq_some_iff.1 hb).1 (fun ⟨cur', t', h1, h2⟩ => by
    rw [hb] at h1
    simp at h1
    exact ht (h1.2 ▸ h2))).trans hb

/-- The book: so many lists of options, so many of packets at most. -/
def BookN (base : Nat) (W : World) (bk ko kp : Nat) (far : List Value → Prop) : Prop :=
  ∃ v8 v9 v10 v11 os cs Os ps ds Ps, Two W bk base v8 v9 v10 v11 os cs Os ps ds Ps ∧ (∀ L ∈ Os, L.length ≤ 1000) ∧ (∀ L ∈ Ps, L.length ≤ 1000) ∧ os.length ≤ ko ∧ ps.length ≤ kp ∧ far ps

def farV (v : Value) (ps : List Value) : Prop := ∀ (r : Nat) (u : Value), ps[r]? = some u → ¬ Shares u v

theorem BookN.addO {base : Nat} {W : World} {bk ko kp : Nat} {far : List Value → Prop} (h : BookN base W bk ko kp far) (hb : base ≤ W.heap.size) (hk : ko < 250) :
    Calls Tryz.prog 35 #[.pointer (some ⟨bk, 0, none⟩), .slice none 0 0] W fun e w' => e = .returned (.tuple #[]) ∧ BookN base w' bk (ko + 1) kp far ∧ BK tsB base W w' := by
  obtain ⟨v8, v9, v10, v11, os, cs, Os, ps, ds, Ps, hT, h1, h2, h3, h4, h5⟩ := h
  refine (hT.addO hb (by omega) (v := .slice none 0 0) (L := []) (OwnO.nil _ _) (fun r u hu ⟨g, _, hg⟩ => by cases hg) (by simp)).mono ?_
  rintro e w' ⟨rfl, v8', v9', u, hT', hk', hb'⟩
  refine ⟨rfl, ⟨v8', v9', v10, v11, _, _, _, ps, ds, Ps, hT', fun L hL => ?_, h2, by rw [List.length_append]; simp; omega, h4, h5⟩, hb', hk'⟩
  rcases List.mem_append.1 hL with hL | hL
  · exact h1 L hL
  · simp at hL
    rw [hL]
    exact Nat.zero_le _
theorem BookN.addP {base : Nat} {W : World} {bk ko kp : Nat} {v : Value} {L : List Pq} (h : BookN base W bk ko kp (farV v)) (hb : base ≤ W.heap.size) (hk : kp < 250) (hv : OwnQ W base v L) (hL : L.length ≤ 1000) :
    Calls Tryz.prog 36 #[.pointer (some ⟨bk, 0, none⟩), v] W fun e w' => e = .returned (.tuple #[]) ∧ BookN base w' bk ko (kp + 1) (fun _ => True) ∧ BK tsB base W w' := by
  obtain ⟨v8, v9, v10, v11, os, cs, Os, ps, ds, Ps, hT, h1, h2, h3, h4, h5⟩ := h
  refine (hT.addP hb (by omega) hv h5 hL).mono ?_
  rintro e w' ⟨rfl, v10', v11', u, hT', hk', hb'⟩
  refine ⟨rfl, ⟨v8, v9, v10', v11', os, cs, Os, _, _, _, hT', h1, fun M hM => ?_, h3, by rw [List.length_append]; simp; omega, trivial⟩, hb', hk'⟩
  rcases List.mem_append.1 hM with hM | hM
  · exact h2 M hM
  · simp at hM
    rw [hM]
    exact hL
theorem not_tsB_pk : ¬ tsB 57 := by rintro (h | h | h) <;> exact absurd h (by decide)
theorem OwnQ.bk {base b0 : Nat} {W W' : World} {v : Value} {L : List Pq} (h : OwnQ W base v L) (hk : BK tsB b0 W W') : OwnQ W' base v L := by
  rcases h.2 with ⟨rfl, h0⟩ | ⟨g, cap, cur, rfl, hb, hg, r⟩
  · exact ⟨h.1, Or.inl ⟨rfl, h0⟩⟩
  · exact ⟨h.1, Or.inr ⟨g, cap, cur, rfl, hb, hk.keeps hg not_tsB_pk, r⟩⟩

set_option maxHeartbeats 2000000 in
set_option maxRecDepth 100000 in
theorem sent_any {base : Nat} {W : World} {bk k : Nat} {v : Value} {L : List Pq} (h : BookN base W bk k k (farV v)) (hb : base ≤ W.heap.size) (hk : k < 240) (hv : OwnQ W base v L) (hL : L.length ≤ 1) :
    Calls Tryz.prog 11 #[.pointer (some ⟨bk, 0, none⟩), v] W fun e w' => e = .returned (.tuple #[]) ∧ BookN base w' bk (k + 1) (k + 1) (fun _ => True) ∧ BK tsB base W w' := by
  obtain ⟨p, cap, hp⟩ := slice_of hv
  subst hp
  have H0 := hid h
  have HV := hid hv
  clear h hv
  go_enter Tryz.func11, Tryz.ntmps11
  go_wp2
  go_loopw [4] (fun vi wr => ∃ j : Nat, j ≤ L.length ∧ vi = .int .i64 (j : Int) ∧ Hid (BookN base wr bk (k + j) k (farV (.slice p L.length cap)) ∧ BK tsB base W wr)) (fun vi _ => L.length - (intOf vi).toNat)
  case atStart => exact ⟨0, Nat.zero_le _, rfl, H0.out, BK.refl _ _ _⟩
  case round =>
    obtain ⟨j, hj, rfl, HI⟩ := hrel
    have hbr : Hid (base ≤ wr.heap.size) := Nat.le_trans hb HI.out.2.b.size
    clear H0
    by_cases hlt : j < L.length
    · have hltz : (j : Int) < (L.length : Int) := by omega
      obtain ⟨x, hx⟩ : ∃ x, L[j]? = some x := ⟨L[j], by simp [hlt]⟩
      obtain ⟨g, rfl, hcap, _, _, c2, _, _⟩ := (HV.out.bk HI.out.2).at hx
      have HA := hid (HI.out.1.addO hbr.out (by omega))
      clear hx
      go_wp2_with fail
      refine HA.out.mono ?_
      rintro e w2 ⟨rfl, hB, hk2⟩
      have R : Hid (BookN base w2 bk (k + (j + 1)) k (farV (.slice (some ⟨g, 0, none⟩) L.length cap)) ∧ BK tsB base W w2) := ⟨hB, HI.out.2.trans hk2⟩
      clear hB hk2 HI HA c2
      go_wp2
      exact ⟨⟨j + 1, hlt, by go_num, R.out⟩, by simp [intOf]; omega⟩
    · obtain rfl : j = L.length := by omega
      have hltz : ¬ (L.length : Int) < (L.length : Int) := by omega
      have HA := hid (HI.out.1.addP hbr.out (by omega) (HV.out.bk HI.out.2) (by omega))
      go_wp2_with fail
      refine HA.out.mono ?_
      rintro e w2 ⟨rfl, hB, hk2⟩
      have R : Hid (BookN base w2 bk (k + 1) (k + 1) (fun _ => True) ∧ BK tsB base W w2) := by
        obtain ⟨v8, v9, v10, v11, os, cs, Os, ps, ds, Ps, hT, h1, h2, h3, h4, h5⟩ := hB
        exact ⟨⟨v8, v9, v10, v11, os, cs, Os, ps, ds, Ps, hT, h1, h2, by omega, h4, h5⟩, HI.out.2.trans hk2⟩
      clear hB hk2 HI HA
      go_wp2
      go_end0
      exact ⟨rfl, R.out⟩

/-- A block of another type turns: the book stays. -/
theorem Two.beside {W W' : World} {bk base b : Nat} {v8 v9 v10 v11 : Value} {os cs ps ds : List Value} {Os : List (List Tg)} {Ps : List (List Pq)} {cur : Array Value} {t : TypeId} (h : Two W bk base v8 v9 v10 v11 os cs Os ps ds Ps)
    (hb : W.heap[b]? = some (.cells cur t (0, 0))) (ht : t ≠ 52 ∧ ¬ tsK t ∧ ¬ BPackets.tsK t) (hk : Kept (fun i => i = b) W W') : Two W' bk base v8 v9 v10 v11 os cs Os ps ds Ps := by
  have hne : ¬ bk = b := fun e => by
    subst e
    have := h.o.p.blk
    rw [hb] at this
    simp at this
    exact ht.1 this.2
  have ty : ∀ {ts : TypeId → Prop}, ¬ ts t → ∀ i, i = b → ∀ cur' t', W.heap[i]? = some (.cells cur' t' (0, 0)) → ¬ ts t' := by
    rintro ts hts i rfl cur' t' h1 h2
    rw [hb] at h1
    simp at h1
    exact hts (h1.2 ▸ h2)
  exact ⟨h.o.other hk (ty ht.2.1) ((hk.block bk h.o.p.lt hne).trans h.o.p.blk), h.p.other hk (ty ht.2.2) ((hk.block bk h.p.p.lt hne).trans h.p.p.blk)⟩

section
variable {W W' : World} {bk : Nat} {far : List Value → Prop}
theorem BookN.kept0 {base ko kp : Nat} (h : BookN base W bk ko kp far) (hk : Kept (fun _ => False) W W') : BookN base W' bk ko kp far := by
  obtain ⟨v8, v9, v10, v11, os, cs, Os, ps, ds, Ps, hT, r⟩ := h
  exact ⟨v8, v9, v10, v11, os, cs, Os, ps, ds, Ps, hT.kept0 hk, r⟩
theorem BookN.beside {base ko kp b : Nat} {cur : Array Value} {t : TypeId} (h : BookN base W bk ko kp far) (hb : W.heap[b]? = some (.cells cur t (0, 0))) (ht : t ≠ 52 ∧ ¬ tsK t ∧ ¬ BPackets.tsK t) (hk : Kept (fun i => i = b) W W') : BookN base W' bk ko kp far := by
  obtain ⟨v8, v9, v10, v11, os, cs, Os, ps, ds, Ps, hT, r⟩ := h
  exact ⟨v8, v9, v10, v11, os, cs, Os, ps, ds, Ps, hT.beside hb ht hk, r⟩
end

theorem wpList_book2 {ops : Array Oper} {rest : List Oper} {o : Oper} {a : Act} {w : World} {Q : Exit → Act → World → Prop} {BC : Array Value} (hBC : bookCells (restO (.slice none 0 0) (.slice none 0 0)) (.slice none 0 0) (.slice none 0 0) = BC) (hg : o.guard = none) (ho : o.op = .build 52 #[])
    (h : wpList Tryz.prog ops Q rest (a.put o.dst (.agg BC)) w) : wpList Tryz.prog ops Q (o :: rest) a w := by
  refine wpList_build hg 52 #[] ho (by kernel_rfl) ?_
  have e : (Tryz.prog.built 52 ((#[] : Array (Nat × Operand)).map fun (i, x) => (i, a.eval x)).toList).getD #[] = bookCells (restO (.slice none 0 0) (.slice none 0 0)) (.slice none 0 0) (.slice none 0 0) := by kernel_rfl
  rw [e, hBC]
  exact h
end Go.Proofs.YtndpfcanfcbldaaGreatDoor

namespace Go.Proofs.YtndpfcanfcbldaaGreatDoor
open Go.RowKit

/-- A type that is none of the book's. -/
def Off (t : TypeId) : Prop := t ≠ 52 ∧ ¬ tsK t ∧ ¬ BPackets.tsK t ∧ ¬ tsB t

/-- The three: two blocks (what they hold, their types) and the book. -/
structure Play (w W : World) (ba br bk : Nat) (ca : Array Value) (ta : TypeId) (cr : Array Value) (tr : TypeId) (k : Nat) (far : List Value → Prop) : Prop where
  a : W.heap[ba]? = some (.cells ca ta (0, 0))
  r : W.heap[br]? = some (.cells cr tr (0, 0))
  ne : br ≠ ba
  la : w.heap.size ≤ ba
  lr : w.heap.size ≤ br
  book : BookN w.heap.size W bk k k far
  bel : Below w.heap.size w W

section
variable {w W W' : World} {ba br bk k : Nat} {ca cr ca' cr' : Array Value} {ta tr : TypeId} {far : List Value → Prop}
theorem Play.kept0 (h : Play w W ba br bk ca ta cr tr k far) (hk : Kept (fun _ => False) W W') : Play w W' ba br bk ca ta cr tr k far :=
  ⟨(hk.block ba (Array.getElem?_eq_some_iff.1 h.a).1 (fun h => h)).trans h.a, (hk.block br (Array.getElem?_eq_some_iff.1 h.r).1 (fun h => h)).trans h.r, h.ne, h.la, h.lr, h.book.kept0 hk, h.bel.trans (hk.below h.bel.size (fun _ h => h.elim))⟩
/-- A new list is none of the book's. -/
theorem Play.fresh (h : Play w W ba br bk ca ta cr tr k far) {v : Value} {L : List Pq} (hv : OwnQ W' W.heap.size v L) : BookN w.heap.size W bk k k (farV v) := by
  obtain ⟨v8, v9, v10, v11, os, cs, Os, ps, ds, Ps, hT, h1, h2, h3, h4, _⟩ := h.book
  refine ⟨v8, v9, v10, v11, os, cs, Os, ps, ds, Ps, hT, h1, h2, h3, h4, ?_⟩
  rintro r u hu ⟨g, q1, q2⟩
  obtain ⟨M, _, hM⟩ := hT.p.p.f6.at hu
  have a1 := (BPackets.own_lt hM q1).2
  have a2 := (hv.block q2).2
  omega
/-- Both have made their step; each told the same. -/
structure Mid (w W : World) (ba br bk : Nat) (ca : Array Value) (ta : TypeId) (cr : Array Value) (tr : TypeId) (k : Nat) (va vb : Value) (L : List Pq) : Prop where
  p : Play w W ba br bk ca ta cr tr k (farV va)
  own : OwnQ W w.heap.size va L
  too : OwnQ W w.heap.size vb L
  few : L.length ≤ 1
theorem Play.both {W1 W2 : World} {va vb : Value} {L : List Pq} (h : Play w W ba br bk ca ta cr tr k far) (oa : Off ta) (or : Off tr)
    (hc : W1.heap[ba]? = some (.cells ca' ta (0, 0))) (ho : OwnQ W1 W.heap.size va L) (hk : Kept (fun i => i = ba) W W1) (hr : W2.heap[br]? = some (.cells cr' tr (0, 0))) (ho2 : OwnQ W2 W1.heap.size vb L) (hk2 : Kept (fun i => i = br) W1 W2) (hL : L.length ≤ 1) :
    Mid w W2 ba br bk ca' ta cr' tr k va vb L := by
  have hlr := (Array.getElem?_eq_some_iff.1 h.r).1
  have hr1 : W1.heap[br]? = some (.cells cr tr (0, 0)) := (hk.block br hlr h.ne).trans h.r
  have hs := h.bel.size
  have hs1 := hk.size
  have b1 := (h.fresh ho).beside h.a ⟨oa.1, oa.2.1, oa.2.2.1⟩ hk
  have b2 := b1.beside hr1 ⟨or.1, or.2.1, or.2.2.1⟩ hk2
  refine ⟨⟨(hk2.block ba (Array.getElem?_eq_some_iff.1 hc).1 h.ne.symm).trans hc, hr, h.ne, h.la, h.lr, b2, (h.bel.trans (hk.below hs (fun i hi => by have := h.la; omega))).trans (hk2.below (Nat.le_trans hs hs1) (fun i hi => by have := h.lr; omega))⟩,
    (ho.keptS hk2 (fun i hi e => by have := (ho.block hi).2; omega)).mono hs, ho2.mono (Nat.le_trans hs hs1), hL⟩
/-- The book has taken the list. -/
theorem Mid.sent {va vb : Value} {L : List Pq} (h : Mid w W ba br bk ca ta cr tr k va vb L) (oa : Off ta) (or : Off tr) (hk : k < 240) :
    Calls Tryz.prog 11 #[.pointer (some ⟨bk, 0, none⟩), va] W fun e w' => e = .returned (.tuple #[]) ∧ Play w w' ba br bk ca ta cr tr (k + 1) (fun _ => True) ∧ OwnQ w' w.heap.size va L ∧ OwnQ w' w.heap.size vb L ∧ BK tsB w.heap.size W w' := by
  refine (sent_any h.p.book h.p.bel.size hk h.own h.few).mono ?_
  rintro e w' ⟨rfl, hB, hk'⟩
  exact ⟨rfl, ⟨hk'.keeps h.p.a oa.2.2.2, hk'.keeps h.p.r or.2.2.2, h.p.ne, h.p.la, h.p.lr, hB, h.p.bel.trans hk'.b⟩, h.own.bk hk', h.too.bk hk', hk'⟩
theorem Play.apart (h : Play w W ba br bk ca ta cr tr k far) (hk : k ≤ 250) :
    Calls Tryz.prog 14 #[.pointer (some ⟨bk, 0, none⟩)] W fun e w' => e = .returned (.bool true) ∧ Below w.heap.size w w' := by
  obtain ⟨v8, v9, v10, v11, os, cs, Os, ps, ds, Ps, hT, h1, h2, h3, h4, _⟩ := h.book
  refine (apart_two hT h.bel.size h1 h2 (by omega) (by omega)).mono ?_
  rintro e w' ⟨rfl, hb⟩
  exact ⟨rfl, h.bel.trans hb⟩
end
end Go.Proofs.YtndpfcanfcbldaaGreatDoor
