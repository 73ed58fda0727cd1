/- What PapPlays has under way: the program's client, the document's, the book; the contracts of short and of the book's Sent. -/
import Derived.Test.YtifkiiplknkgnaaGreatBtApart
import Derived.Test.YtifkiiplknkgnaaGreatPaRefT
import Derived.Test.YtifkiiplknkgnaaGreatPaAlive
import Derived.Test.YtifkiiplknkgnaaGreatPaArgs
namespace Go.Proofs.YtifkiiplknkgnaaGreat
open Go.RowKit

/-- What short answers. -/
def ShortIs (l : List Op13) (w : World) (e : Ending) (w' : World) : Prop := ∃ B, e = .returned (.bool B) ∧ (B = true → l.length ≤ 200) ∧ w' = w

set_option maxHeartbeats 2000000 in
set_option maxRecDepth 100000 in
theorem short_any (v : Value) (l : List Op13) (w : World) (hv : Ops13 w v l) (hl : l.length ≤ maxLen) (hin : ∀ x ∈ l, x.n ≤ maxLen ∧ x.data.size ≤ 140737488351232) :
    Calls Tryz.prog 4 #[v] w (ShortIs l w) := by
  unfold maxLen at hl
  obtain ⟨p, cap, rfl⟩ := RowsAt.slice hv
  have Hat := hid (fun (j : Nat) (x : Op13) (hj : l[j]? = some x) => RowsAt.at hv hj)
  have HIn := hid hin
  clear hv hin
  go_enter Tryz.func4, Tryz.ntmps4
  go_wp2
  go_loopw [3] (fun vi wr => ∃ j : Nat, j ≤ l.length ∧ vi = .int .i64 (j : Int) ∧ wr = w) (fun vi _ => l.length - (intOf vi).toNat)
  case atStart => exact ⟨0, Nat.zero_le _, rfl, rfl⟩
  case round =>
    obtain ⟨j, hj, rfl, rfl⟩ := hrel
    by_cases hlt : j < l.length
    · have hltz : (j : Int) < (l.length : Int) := by omega
      obtain ⟨x, hx⟩ : ∃ x, l[j]? = some x := ⟨l[j], by simp [hlt]⟩
      obtain ⟨hx1, hx2⟩ := HIn.out x (List.mem_of_getElem? hx)
      obtain ⟨g, o, rfl, hcap, hc⟩ := Hat.out j x hx
      have c3 := hc 3 _ rfl
      have c4 := hc 4 _ rfl
      unfold maxLen at hx1
      obtain ⟨xk, xc, xi, xp, xn, xq, xd⟩ := x
      simp only at c3 c4 hx1 hx2
      clear hc hx
      by_cases h1 : 1000 < xd.size
      · have h1z : (1000 : Int) < (xd.size : Int) := by omega
        go_wp2
        go_ret
        exact ⟨false, rfl, (fun h => by cases h), rfl⟩
      · have h1z : ¬ (1000 : Int) < (xd.size : Int) := by omega
        by_cases h2 : 40 < xn
        · have h2z : (40 : Int) < (xn : Int) := by omega
          go_wp2
          go_ret
          exact ⟨false, rfl, (fun h => by cases h), rfl⟩
        · have h2z : ¬ (40 : Int) < (xn : Int) := by omega
          go_wp2
          exact ⟨⟨j + 1, hlt, by go_num, trivial⟩, by simp [intOf]; omega⟩
    · obtain rfl : j = l.length := by omega
      have hltz : ¬ (l.length : Int) < (l.length : Int) := by omega
      by_cases h3 : l.length ≤ 200
      · have h3z : (l.length : Int) ≤ 200 := by omega
        go_wp2
        go_ret
        exact ⟨true, rfl, fun _ => h3, rfl⟩
      · have h3z : ¬ (l.length : Int) ≤ 200 := by omega
        go_wp2
        go_ret
        exact ⟨false, rfl, (fun h => by cases h), rfl⟩

/-- The types of the book's own blocks. -/
def tsB (t : TypeId) : Prop := t = 52 ∨ t = 54 ∨ t = 53
theorem BK.keeps {ts : TypeId → Prop} {base : Nat} {W W' : World} (h : BK ts base W W') {b : Nat} {cur : Array Value} {t : TypeId} (hb : W.heap[b]? = some (.cells cur t (0, 0))) (ht : ¬ ts t) : W'.heap[b]? = some (.cells cur t (0, 0)) :=
  (h.k.block b (Array.getElem?_eq_some_iff.1 hb).1 (fun ⟨cur', t', h1, h2⟩ => by
    rw [hb] at h1
    simp at h1
    exact ht (h1.2 ▸ h2))).trans hb

/-- The book: so many lists of options, so many of packets at most. -/
def BookN (base : Nat) (W : World) (bk ko kp : Nat) (far : List Value → Prop) : Prop :=
  ∃ v8 v9 v10 v11 os cs Os ps ds Ps, Two W bk base v8 v9 v10 v11 os cs Os ps ds Ps ∧ (∀ L ∈ Os, L.length ≤ 1000) ∧ (∀ L ∈ Ps, L.length ≤ 1000) ∧ os.length ≤ ko ∧ ps.length ≤ kp ∧ far ps

def farV (v : Value) (ps : List Value) : Prop := ∀ (r : Nat) (u : Value), ps[r]? = some u → ¬ Shares u v

theorem BookN.addO {base : Nat} {W : World} {bk ko kp : Nat} {far : List Value → Prop} (h : BookN base W bk ko kp far) (hb : base ≤ W.heap.size) (hk : ko < 250) :
    Calls Tryz.prog 27 #[.pointer (some ⟨bk, 0, none⟩), .slice none 0 0] W fun e w' => e = .returned (.tuple #[]) ∧ BookN base w' bk (ko + 1) kp far ∧ BK tsB base W w' := by
  obtain ⟨v8, v9, v10, v11, os, cs, Os, ps, ds, Ps, hT, h1, h2, h3, h4, h5⟩ := h
  refine (hT.addO hb (by omega) (v := .slice none 0 0) (L := []) (OwnO.nil _ _) (fun r u hu ⟨g, _, hg⟩ => by cases hg) (by simp)).mono ?_
  rintro e w' ⟨rfl, v8', v9', u, hT', hk', hb'⟩
  refine ⟨rfl, ⟨v8', v9', v10, v11, _, _, _, ps, ds, Ps, hT', fun L hL => ?_, h2, by rw [List.length_append]; simp; omega, h4, h5⟩, hb', hk'⟩
  rcases List.mem_append.1 hL with hL | hL
  · exact h1 L hL
  · simp at hL
    rw [hL]
    exact Nat.zero_le _
theorem BookN.addP {base : Nat} {W : World} {bk ko kp : Nat} {v : Value} {L : List Pq} (h : BookN base W bk ko kp (farV v)) (hb : base ≤ W.heap.size) (hk : kp < 250) (hv : OwnQ W base v L) (hL : L.length ≤ 1000) :
    Calls Tryz.prog 28 #[.pointer (some ⟨bk, 0, none⟩), v] W fun e w' => e = .returned (.tuple #[]) ∧ BookN base w' bk ko (kp + 1) (fun _ => True) ∧ BK tsB base W w' := by
  obtain ⟨v8, v9, v10, v11, os, cs, Os, ps, ds, Ps, hT, h1, h2, h3, h4, h5⟩ := h
  refine (hT.addP hb (by omega) hv h5 hL).mono ?_
  rintro e w' ⟨rfl, v10', v11', u, hT', hk', hb'⟩
  refine ⟨rfl, ⟨v8, v9, v10', v11', os, cs, Os, _, _, _, hT', h1, fun M hM => ?_, h3, by rw [List.length_append]; simp; omega, trivial⟩, hb', hk'⟩
  rcases List.mem_append.1 hM with hM | hM
  · exact h2 M hM
  · simp at hM
    rw [hM]
    exact hL
theorem not_tsB_pk : ¬ tsB 56 := by rintro (h | h | h) <;> exact absurd h (by decide)
theorem OwnQ.bk {base b0 : Nat} {W W' : World} {v : Value} {L : List Pq} (h : OwnQ W base v L) (hk : BK tsB b0 W W') : OwnQ W' base v L := by
  rcases h.2 with ⟨rfl, h0⟩ | ⟨g, cap, cur, rfl, hb, hg, r⟩
  · exact ⟨h.1, Or.inl ⟨rfl, h0⟩⟩
  · exact ⟨h.1, Or.inr ⟨g, cap, cur, rfl, hb, hk.keeps hg not_tsB_pk, r⟩⟩

set_option maxHeartbeats 2000000 in
set_option maxRecDepth 100000 in
theorem sent_any {base : Nat} {W : World} {bk k : Nat} {v : Value} {L : List Pq} (h : BookN base W bk k k (farV v)) (hb : base ≤ W.heap.size) (hk : k < 240) (hv : OwnQ W base v L) (hL : L.length ≤ 1) :
    Calls Tryz.prog 14 #[.pointer (some ⟨bk, 0, none⟩), v] W fun e w' => e = .returned (.tuple #[]) ∧ BookN base w' bk (k + 1) (k + 1) (fun _ => True) ∧ BK tsB base W w' := by
  obtain ⟨p, cap, hp⟩ := slice_of hv
  subst hp
  have H0 := hid h
  have HV := hid hv
  clear h hv
  go_enter Tryz.func14, Tryz.ntmps14
  go_wp2
  go_loopw [4] (fun vi wr => ∃ j : Nat, j ≤ L.length ∧ vi = .int .i64 (j : Int) ∧ Hid (BookN base wr bk (k + j) k (farV (.slice p L.length cap)) ∧ BK tsB base W wr)) (fun vi _ => L.length - (intOf vi).toNat)
  case atStart => exact ⟨0, Nat.zero_le _, rfl, H0.out, BK.refl _ _ _⟩
  case round =>
    obtain ⟨j, hj, rfl, HI⟩ := hrel
    have hbr : Hid (base ≤ wr.heap.size) := Nat.le_trans hb HI.out.2.b.size
    clear H0
    by_cases hlt : j < L.length
    · have hltz : (j : Int) < (L.length : Int) := by omega
      obtain ⟨x, hx⟩ : ∃ x, L[j]? = some x := ⟨L[j], by simp [hlt]⟩
      obtain ⟨g, rfl, hcap, _, _, c2, _, _⟩ := (HV.out.bk HI.out.2).at hx
      have HA := hid (HI.out.1.addO hbr.out (by omega))
      clear hx
      go_wp2_with fail
      refine HA.out.mono ?_
      rintro e w2 ⟨rfl, hB, hk2⟩
      have R : Hid (BookN base w2 bk (k + (j + 1)) k (farV (.slice (some ⟨g, 0, none⟩) L.length cap)) ∧ BK tsB base W w2) := ⟨hB, HI.out.2.trans hk2⟩
      clear hB hk2 HI HA c2
      go_wp2
      exact ⟨⟨j + 1, hlt, by go_num, R.out⟩, by simp [intOf]; omega⟩
    · obtain rfl : j = L.length := by omega
      have hltz : ¬ (L.length : Int) < (L.length : Int) := by omega
      have HA := hid (HI.out.1.addP hbr.out (by omega) (HV.out.bk HI.out.2) (by omega))
      go_wp2_with fail
      refine HA.out.mono ?_
      rintro e w2 ⟨rfl, hB, hk2⟩
      have R : Hid (BookN base w2 bk (k + 1) (k + 1) (fun _ => True) ∧ BK tsB base W w2) := by
        obtain ⟨v8, v9, v10, v11, os, cs, Os, ps, ds, Ps, hT, h1, h2, h3, h4, h5⟩ := hB
        exact ⟨⟨v8, v9, v10, v11, os, cs, Os, ps, ds, Ps, hT, h1, h2, by omega, h4, h5⟩, HI.out.2.trans hk2⟩
      clear hB hk2 HI HA
      go_wp2
      go_end0
      exact ⟨rfl, R.out⟩

/-- A block of another type turns: the book stays. -/
theorem Two.beside {W W' : World} {bk base b : Nat} {v8 v9 v10 v11 : Value} {os cs ps ds : List Value} {Os : List (List Tg)} {Ps : List (List Pq)} {cur : Array Value} {t : TypeId} (h : Two W bk base v8 v9 v10 v11 os cs Os ps ds Ps)
    (hb : W.heap[b]? = some (.cells cur t (0, 0))) (ht : t ≠ 52 ∧ ¬ tsK t ∧ ¬ BPackets.tsK t) (hk : Kept (fun i => i = b) W W') : Two W' bk base v8 v9 v10 v11 os cs Os ps ds Ps := by
  have hne : ¬ bk = b := fun e => by
    subst e
    have := h.o.p.blk
    rw [hb] at this
    simp at this
    exact ht.1 this.2
  have ty : ∀ {ts : TypeId → Prop}, ¬ ts t → ∀ i, i = b → ∀ cur' t', W.heap[i]? = some (.cells cur' t' (0, 0)) → ¬ ts t' := by
    rintro ts hts i rfl cur' t' h1 h2
    rw [hb] at h1
    simp at h1
    exact hts (h1.2 ▸ h2)
  exact ⟨h.o.other hk (ty ht.2.1) ((hk.block bk h.o.p.lt hne).trans h.o.p.blk), h.p.other hk (ty ht.2.2) ((hk.block bk h.p.p.lt hne).trans h.p.p.blk)⟩

/-- The three. -/
structure PlayP (w W : World) (bc br bk : Nat) (n s : ByteArray) (c : Pc) (k : Nat) (far : List Value → Prop) : Prop where
  cl : ClIn W bc c
  rp : RpIn W br (rpOf n s c)
  good : GoodC c
  data : c.data = layF n ++ layF s
  lc : w.heap.size ≤ bc
  lr : w.heap.size ≤ br
  book : BookN w.heap.size W bk k k far
  bel : Below w.heap.size w W

section
variable {w W W' : World} {bc br bk k : Nat} {n s : ByteArray} {c c' : Pc} {far : List Value → Prop}
theorem BookN.kept0 {base ko kp : Nat} (h : BookN base W bk ko kp far) (hk : Kept (fun _ => False) W W') : BookN base W' bk ko kp far := by
  obtain ⟨v8, v9, v10, v11, os, cs, Os, ps, ds, Ps, hT, r⟩ := h
  exact ⟨v8, v9, v10, v11, os, cs, Os, ps, ds, Ps, hT.kept0 hk, r⟩
theorem BookN.beside {base ko kp b : Nat} {cur : Array Value} {t : TypeId} (h : BookN base W bk ko kp far) (hb : W.heap[b]? = some (.cells cur t (0, 0))) (ht : t ≠ 52 ∧ ¬ tsK t ∧ ¬ BPackets.tsK t) (hk : Kept (fun i => i = b) W W') : BookN base W' bk ko kp far := by
  obtain ⟨v8, v9, v10, v11, os, cs, Os, ps, ds, Ps, hT, r⟩ := h
  exact ⟨v8, v9, v10, v11, os, cs, Os, ps, ds, Ps, hT.beside hb ht hk, r⟩
theorem PlayP.kept0 (h : PlayP w W bc br bk n s c k far) (hk : Kept (fun _ => False) W W') : PlayP w W' bc br bk n s c k far :=
  ⟨h.cl.kept0 hk, h.rp.kept0 hk, h.good, h.data, h.lc, h.lr, h.book.kept0 hk, h.bel.trans (hk.below h.bel.size (fun _ h => h.elim))⟩
theorem PlayP.ne (h : PlayP w W bc br bk n s c k far) : br ≠ bc := fun e => by
  have h1 := h.cl
  have h2 := h.rp
  unfold ClIn at h1
  unfold RpIn at h2
  rw [e, h1] at h2
  simp at h2
/-- A new list is none of the book's. -/
theorem PlayP.fresh (h : PlayP w W bc br bk n s c k far) {v : Value} {L : List Pq} (hv : OwnQ W' W.heap.size v L) : BookN w.heap.size W bk k k (farV v) := by
  obtain ⟨v8, v9, v10, v11, os, cs, Os, ps, ds, Ps, hT, h1, h2, h3, h4, _⟩ := h.book
  refine ⟨v8, v9, v10, v11, os, cs, Os, ps, ds, Ps, hT, h1, h2, h3, h4, ?_⟩
  rintro r u hu ⟨g, q1, q2⟩
  obtain ⟨M, _, hM⟩ := hT.p.p.f6.at hu
  have a1 := (BPackets.own_lt hM q1).2
  have a2 := (hv.block q2).2
  omega
theorem cl_ty : (76 : TypeId) ≠ 52 ∧ ¬ tsK 76 ∧ ¬ BPackets.tsK 76 := ⟨by decide, by rintro (h | h) <;> exact absurd h (by decide), by rintro (h | h) <;> exact absurd h (by decide)⟩
theorem rp_ty : (68 : TypeId) ≠ 52 ∧ ¬ tsK 68 ∧ ¬ BPackets.tsK 68 := ⟨by decide, by rintro (h | h) <;> exact absurd h (by decide), by rintro (h | h) <;> exact absurd h (by decide)⟩

/-- What a round has come to: both answered L, the step's packet lies in a box of its own. -/
structure MidP (w W : World) (bc br bk : Nat) (n s : ByteArray) (c : Pc) (k : Nat) (va vb : Value) (L : List Pq) (g : Nat) (x : Op13) : Prop where
  p : PlayP w W bc br bk n s c k (farV va)
  own : OwnQ W w.heap.size va L
  too : OwnQ W w.heap.size vb L
  box : PkAt W g x.code x.id (.slice x.p x.n x.cap) x.data
  few : L.length ≤ 1
theorem PkAt.ne_cl {g b : Nat} {co i : Int} {v : Value} {d : ByteArray} (h : PkAt W g co i v d) (hc : ClIn W b c) : g ≠ b := fun e => by
  unfold PkAt at h
  unfold ClIn at hc
  rw [e, hc] at h
  simp at h
theorem PkAt.ne_rp {g b : Nat} {co i : Int} {v : Value} {d : ByteArray} {r : Rp} (h : PkAt W g co i v d) (hc : RpIn W b r) : g ≠ b := fun e => by
  unfold PkAt at h
  unfold RpIn at hc
  rw [e, hc] at h
  simp at h
/-- Both have made their step. -/
theorem PlayP.both {W1 W2 : World} {va vb : Value} {L : List Pq} {g : Nat} {x : Op13} (h : PlayP w W bc br bk n s c k far) (box : PkAt W g x.code x.id (.slice x.p x.n x.cap) x.data)
    (hc : ClIn W1 bc c') (ho : OwnQ W1 W.heap.size va L) (hk : Kept (fun i => i = bc) W W1) (hr : RpIn W2 br (rpOf n s c')) (ho2 : OwnQ W2 W1.heap.size vb L) (hk2 : Kept (fun i => i = br) W1 W2) (hg : GoodC c') (hd : c'.data = c.data) (hL : L.length ≤ 1) :
    MidP w W2 bc br bk n s c' k va vb L g x := by
  have hrp1 : RpIn W1 br (rpOf n s c) := h.rp.kept hk h.ne
  have hs := h.bel.size
  have hs1 := hk.size
  have b1 := (h.fresh ho).beside h.cl cl_ty hk
  have b2 := b1.beside hrp1 rp_ty hk2
  have box1 := box.kept hk (box.ne_cl h.cl)
  refine ⟨⟨hc.kept hk2 h.ne.symm, hr, hg, hd.trans h.data, h.lc, h.lr, b2, (h.bel.trans (hk.below hs (fun i hi => by have := h.lc; omega))).trans (hk2.below (Nat.le_trans hs hs1) (fun i hi => by have := h.lr; omega))⟩, (ho.keptS hk2 (fun i hi e => hrp1.ne ho hi e)).mono hs, ho2.mono (Nat.le_trans hs hs1), box1.kept hk2 (box1.ne_rp hrp1), hL⟩
/-- The book has taken the list. -/
theorem MidP.sent {va vb : Value} {L : List Pq} {g : Nat} {x : Op13} (h : MidP w W bc br bk n s c k va vb L g x) (hk : k < 240) :
    Calls Tryz.prog 14 #[.pointer (some ⟨bk, 0, none⟩), va] W fun e w' => e = .returned (.tuple #[]) ∧ PlayP w w' bc br bk n s c (k + 1) (fun _ => True) ∧ OwnQ w' w.heap.size va L ∧ OwnQ w' w.heap.size vb L ∧ PkAt w' g x.code x.id (.slice x.p x.n x.cap) x.data := by
  refine (sent_any h.p.book h.p.bel.size hk h.own h.few).mono ?_
  rintro e w' ⟨rfl, hB, hk'⟩
  exact ⟨rfl, ⟨hk'.keeps h.p.cl (by rintro (h | h | h) <;> exact absurd h (by decide)), hk'.keeps h.p.rp (by rintro (h | h | h) <;> exact absurd h (by decide)), h.p.good, h.p.data, h.p.lc, h.p.lr, hB, h.p.bel.trans hk'.b⟩, h.own.bk hk', h.too.bk hk', hk'.keeps h.box not_tsB_pk⟩
theorem PlayP.apart (h : PlayP w W bc br bk n s c k far) (hk : k ≤ 250) :
    Calls Tryz.prog 21 #[.pointer (some ⟨bk, 0, none⟩)] W fun e w' => e = .returned (.bool true) ∧ Below w.heap.size w w' := by
  obtain ⟨v8, v9, v10, v11, os, cs, Os, ps, ds, Ps, hT, h1, h2, h3, h4, _⟩ := h.book
  refine (apart_two hT h.bel.size h1 h2 (by omega) (by omega)).mono ?_
  rintro e w' ⟨rfl, hb⟩
  exact ⟨rfl, h.bel.trans hb⟩
end

theorem wpList_book2 {ops : Array Oper} {rest : List Oper} {o : Oper} {a : Act} {w : World} {Q : Exit → Act → World → Prop} {BC : Array Value} (hBC : bookCells (restO (.slice none 0 0) (.slice none 0 0)) (.slice none 0 0) (.slice none 0 0) = BC) (hg : o.guard = none) (ho : o.op = .build 52 #[])
    (h : wpList Tryz.prog ops Q rest (a.put o.dst (.agg BC)) w) : wpList Tryz.prog ops Q (o :: rest) a w := by
  refine wpList_build hg 52 #[] ho (by kernel_rfl) ?_
  have e : (Tryz.prog.built 52 ((#[] : Array (Nat × Operand)).map fun (i, x) => (i, a.eval x)).toList).getD #[] = bookCells (restO (.slice none 0 0) (.slice none 0 0)) (.slice none 0 0) (.slice none 0 0) := by kernel_rfl
  rw [e, hBC]
  exact h
end Go.Proofs.YtifkiiplknkgnaaGreat
