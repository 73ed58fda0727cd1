/- A book that keeps lists of elements: the contracts of markedAvps and growAvps. -/
import Derived.Test.YtnghakhgogfemaaGreatDoorVaOps
namespace Go.Proofs.YtnghakhgogfemaaGreatDoor.BAvps
open Go.RowKit

section
variable {X : Nat → Value} {W W' : World} {bk base : Nat} {v6 v7 : Value} {vs us : List Value} {Ls : List (List El)}

/-- Every list bears its own marks. -/
def Marked (Ls : List (List El)) : Prop := ∀ (j : Nat) (L : List El), Ls[j]? = some L → L = marksT j 0 L.length

set_option maxHeartbeats 2000000 in
set_option maxRecDepth 100000 in
theorem marked_Avps {v : Value} (hr : RowS W base v vs) (hf : Fam W base vs Ls) (hm : Marked Ls) (hsm : ∀ L ∈ Ls, L.length ≤ 2000) (h250 : vs.length ≤ 250) :
    Calls Tryz.prog 96 #[v] W fun e w' => e = .returned (.bool true) ∧ Kept (fun _ => False) W w' := by
  obtain ⟨p, cap, rfl⟩ := rowS_slice hr
  have HR : Hid (∀ W', Kept (fun _ => False) W W' → RowS W' base (.slice p vs.length cap) vs ∧ Fam W' base vs Ls) := fun W' hk => ⟨rowS_kept hr hk (fun _ _ => id), hf.kept0 hk⟩
  have HL := hid hf.len
  have Hsm := hid hsm
  have Hm := hid hm
  clear hr hf hm hsm
  go_enter Tryz.func96, Tryz.ntmps96
  go_wp2
  go_loopw [3] (fun vi wr => ∃ j : Nat, j ≤ vs.length ∧ vi = .int .i64 (j : Int) ∧ Hid (Kept (fun _ => False) W wr)) (fun vi _ => vs.length - (intOf vi).toNat)
  case atStart => exact ⟨0, Nat.zero_le _, rfl, Kept.refl _ _⟩
  case round =>
    obtain ⟨j, hj, rfl, HI⟩ := hrel
    by_cases hlt : j < vs.length
    · have hltz : (j : Int) < (vs.length : Int) := by omega
      obtain ⟨x, hx⟩ : ∃ x, vs[j]? = some x := ⟨vs[j], by simp [hlt]⟩
      obtain ⟨L, hL⟩ : ∃ L, Ls[j]? = some L := ⟨Ls[j]'(by have := HL.out; omega), by simp⟩
      obtain ⟨g, rfl, hc, e0⟩ := rowS_at (HR.out wr HI.out).1 hx
      obtain ⟨px, cx, rfl⟩ := slice_of ((HR.out wr HI.out).2.own j x L hx hL)
      have hLs := Hsm.out L (List.mem_of_getElem? hL)
      have HC : Hid (∀ W', Kept (fun _ => False) W W' → W'.cell? ⟨g, j, none⟩ = some (.slice px L.length cx)) := fun W' hk => by
        obtain ⟨g', e, _, q⟩ := rowS_at (HR.out W' hk).1 hx
        simp at e
        subst e
        exact q
      have HM : Hid (∀ W', Kept (fun _ => False) W W' → Calls Tryz.prog 145 #[.int .i64 (j : Int), .int .i64 0, .int .i64 (L.length : Int)] W' fun e w' => ∃ u, e = .returned u ∧ OwnB w' W'.heap.size u L ∧ Kept (fun _ => False) W w') := fun W' hk => by
        refine (markAvps_any j 0 L.length (by omega) (by omega) (by omega) W').mono ?_
        rintro e w' ⟨u, rfl, h1, h2⟩
        rw [← Hm.out j L hL] at h1
        exact ⟨u, rfl, h1, hk.trans h2⟩
      have HS : Hid (∀ W' u b, Kept (fun _ => False) W W' → OwnB W' b u L → Calls Tryz.prog 15 #[.slice px L.length cx, u] W' fun e w' => e = .returned (.bool true) ∧ Kept (fun _ => False) W w') := fun W' u b hk hu => by
        have := sameAvps_eq (.slice px L.length cx) u L W' ((HR.out W' hk).2.own j _ L hx hL).tags hu.tags (by omega)
        exact this.mono fun _ _ ⟨h1, h2⟩ => ⟨h1, hk.trans h2⟩
      have hkr := HI.out.drew
      clear hx hL HI
      go_wp2
      go_region_held3 (fun W' => W'.cell? ⟨g, j, none⟩ = some (.slice px L.length cx)) (first | assumption | exact HC.out _ (by assumption) | go_keep) (first
        | (go_at_call 145; refine (HM.out _ hkr).mono ?_; rintro e1 w1 ⟨u1, rfl, ho1, hk1⟩)
        | (go_at_call 15; refine (HS.out _ _ _ hk1 ho1).mono ?_; rintro e2 w2 ⟨rfl, hk2⟩))
      all_goals
        go_wp2
        exact ⟨⟨j + 1, hlt, by go_num, hk2⟩, by simp [intOf]; omega⟩
    · obtain rfl : j = vs.length := by omega
      have hltz : ¬ (vs.length : Int) < (vs.length : Int) := by omega
      go_wp2
      go_ret
      exact ⟨rfl, HI.out⟩

theorem infoAvps : (Tryz.prog.info? 22).map (fun i => (i.zero, i.size, i.bytes)) = some (some (.slice none 0 0), 1, 24) := by kernel_rfl

/-- 'append' of a list of the call's own onto the one that grows. -/
theorem own_app {v u : Value} {G N : List El} {b : Nat} (h : OwnB W base v G) (hb : base ≤ W.heap.size) (hu : OwnB W b u N) (hN : 0 < N.length) (hroom : G.length + N.length ≤ 100000) :
    ∃ v' w', AppB W v u v' w' ∧ OwnB w' base v' (G ++ N) ∧ Grew W w' v v' G.length N.length := by
  obtain ⟨i0, hi0, hz0, hz1, hz2⟩ := info_parts infoB
  obtain ⟨g, o, cap, rfl, hc⟩ := hu.rowB (by intro e; rw [e] at hN; simp at hN)
  obtain ⟨v', w', h1, h2, h3⟩ := owned_append (P := Tryz.prog) (t := 22) Tryz.underlying22 hi0 hz0 hz1 hz2 rfl (by decide) h hb ⟨g, o, none⟩ N.length cap (rowB N) hN (rowB_length N) hc (rowB_oneCell N) (by omega) (by decide)
  refine ⟨v', w', h1, ?_, h3⟩
  unfold OwnB
  rw [rowB_append, List.length_append]
  exact h2

/-- What 'append' makes of a row of lists and one list more. -/
def AppS (w : World) (v u v' : Value) (w' : World) : Prop := ∀ ty, (Builtin.append_ #[32, 32] ty #[v, u]).run Tryz.prog w = .ok v' w'

theorem rowS_app {v x : Value} {xs : List Value} (h : RowS W base v xs) (hb : base ≤ W.heap.size) (hx : x.oneCell' = true) (hroom : xs.length ≤ 1000) :
    ∃ v' w', AppS (W.alloc (.cells #[x] 22)) v (.slice (some ⟨W.heap.size, 0, none⟩) 1 1) v' w' ∧ RowS w' base v' (xs ++ [x]) ∧ Grew (W.alloc (.cells #[x] 22)) w' v v' xs.length 1 := by
  obtain ⟨i0, hi0, hz0, hz1, hz2⟩ := info_parts infoAvps
  have h' : RowS (W.alloc (.cells #[x] 22)) base v xs := rowS_kept h ((Kept.refl (fun _ => False) W).alloc _) (fun _ _ => id)
  obtain ⟨v', w', h1, h2, h3⟩ := owned_append (P := Tryz.prog) (t := 32) Tryz.underlying32 hi0 hz0 hz1 hz2 rfl (by decide) h' (by simp; omega) ⟨W.heap.size, 0, none⟩ 1 1 [x] (by decide) rfl (fun j u hj => by
    cases j with
    | zero =>
      simp at hj
      subst hj
      rw [addr_add, World.cell?_alloc_new]
      rfl
    | succ j => simp at hj) (by intro u hu; simp at hu; subst hu; exact hx) (by omega) (by decide)
  refine ⟨v', w', h1, ?_, h3⟩
  unfold RowS
  rw [List.length_append]
  exact h2

/-- The book and the row of what has grown. -/
structure Rest (X : Nat → Value) (W : World) (bk base : Nat) (v6 v7 : Value) (vs : List Value) (vo : Value) (gs : List Value) : Prop where
  blk : W.heap[bk]? = some (.cells (bookCells X v6 v7) 45 (0, 0))
  r6 : RowS W base v6 vs
  ro : RowS W base vo gs
  ne : ¬ Shares v6 vo
  lo : base ≤ bk

theorem Rest.tags {vo x : Value} {gs : List Value} {G : List El} (h : Rest X W bk base v6 v7 vs vo gs) (hx : OwnB W base x G) (hk : Kept (fun i => x.ownBlock = some i) W W') : Rest X W' bk base v6 v7 vs vo gs := by
  refine ⟨(hk.block bk (Array.getElem?_eq_some_iff.1 h.blk).1 (fun e => ?_)).trans h.blk, rowS_kept h.r6 hk (fun i hi e => owned_unlike h.r6 hx (by decide) i hi e), rowS_kept h.ro hk (fun i hi e => owned_unlike h.ro hx (by decide) i hi e), h.ne, h.lo⟩
  rcases hx.2 with ⟨rfl, _⟩ | ⟨g, cap, cur, rfl, hb, hg, _⟩
  · cases e
  · have : g = bk := by simpa [Value.ownBlock] using e
    subst this
    rw [h.blk] at hg
    simp at hg

theorem Rest.kept0 {vo : Value} {gs : List Value} (h : Rest X W bk base v6 v7 vs vo gs) (hk : Kept (fun _ => False) W W') : Rest X W' bk base v6 v7 vs vo gs :=
  ⟨(hk.block bk (Array.getElem?_eq_some_iff.1 h.blk).1 id).trans h.blk, rowS_kept h.r6 hk (fun _ _ => id), rowS_kept h.ro hk (fun _ _ => id), h.ne, h.lo⟩

theorem Rest.c6 {vo : Value} {gs : List Value} (h : Rest X W bk base v6 v7 vs vo gs) : W.cell? ⟨bk, 12, none⟩ = some v6 := by simp [World.cell?, h.blk, bookCells]

/-- The row of what has grown grows. -/
theorem Rest.row {vo vo' : Value} {gs gs' : List Value} (h : Rest X W bk base v6 v7 vs vo gs) (hg : Grew W W' vo vo' gs.length 1) (hr : RowS W' base vo' gs') : Rest X W' bk base v6 v7 vs vo' gs' := by
  have hk := hg.kept
  refine ⟨(hk.block bk (Array.getElem?_eq_some_iff.1 h.blk).1 (fun e => ?_)).trans h.blk, rowS_kept h.r6 hk (fun i hi e => h.ne ⟨i, hi, e⟩), hr, ?_, h.lo⟩
  · rcases h.ro.2 with ⟨e0, _⟩ | ⟨g, cap, cur, e0, hb, hg', _⟩
    · rw [e0] at e
      cases e
    · rw [e0] at e
      have : g = bk := by simpa [Value.ownBlock] using e
      subst this
      rw [h.blk] at hg'
      simp at hg'
  · rintro ⟨i, h1, h2⟩
    rcases hg with ⟨g, cap, rfl, rfl, _⟩ | ⟨cap', rfl, _, _⟩
    · exact h.ne ⟨i, h1, h2⟩
    · have hl := (World.ownsRow.lt h.r6 i h1).2
      have e : W.heap.size = i := by simpa [Value.ownBlock] using h2
      omega

theorem Cur.row {n base' : Nat} {gs : List Value} {j : Nat} {v x : Value} {G : List El} {xs : List Value} (h : Cur W base vs gs j v G) (hx : W.ownsRow base' 22 1 x n xs) (hk : Kept (fun i => x.ownBlock = some i) W W') : Cur W' base vs gs j v G :=
  ⟨own_kept h.own hk (fun i hi e => owned_unlike h.own hx (by decide) i hi e), h.links, h.far⟩

theorem own_oneCell {v : Value} {L : List El} (h : OwnB W base v L) : v.oneCell' = true := by
  obtain ⟨p, c, rfl⟩ := slice_of h
  rfl

/-- How far growAvps has come, between two lists. -/
structure OutSt (X : Nat → Value) (W wr : World) (bk base : Nat) (v6 v7 : Value) (vs : List Value) (Ls : List (List El)) (vo : Value) (gs : List Value) (Gs : List (List El)) : Prop where
  st : GrowSt wr base vs Ls gs Gs
  rest : Rest X wr bk base v6 v7 vs vo gs
  mks : Marked Gs
  sz : ∀ G ∈ Gs, G.length ≤ 1100
  bel : BK tsK base W wr
  hb : base ≤ wr.heap.size

/-- And within one. -/
structure InSt (X : Nat → Value) (W wr : World) (bk base : Nat) (v6 v7 : Value) (vs : List Value) (Ls : List (List El)) (vo : Value) (gs : List Value) (Gs : List (List El)) (v : Value) (c : Nat) : Prop where
  st : GrowSt wr base vs Ls gs Gs
  rest : Rest X wr bk base v6 v7 vs vo gs
  cur : Cur wr base vs gs gs.length v (marksT gs.length 0 c)
  bel : BK tsK base W wr
  hb : base ≤ wr.heap.size

theorem InSt.slice {wr : World} {vo v : Value} {gs : List Value} {Gs : List (List El)} {c : Nat} (h : InSt X W wr bk base v6 v7 vs Ls vo gs Gs v c) : ∃ p cap, v = .slice p c cap := by
  obtain ⟨p, cap, e⟩ := slice_of h.cur.own
  rw [marksT_length] at e
  exact ⟨p, cap, e⟩

/-- Some marks more. -/
theorem InSt.more {wr w1 : World} {vo v u : Value} {gs : List Value} {Gs : List (List El)} {c m : Nat} (h : InSt X W wr bk base v6 v7 vs Ls vo gs Gs v c) (hu : OwnB w1 wr.heap.size u (marksT gs.length c m)) (hk : Kept (fun _ => False) wr w1) (hm : 0 < m) (hcm : c + m ≤ 10000) :
    ∃ v' w', AppB w1 v u v' w' ∧ InSt X W w' bk base v6 v7 vs Ls vo gs Gs v' (c + m) := by
  have hc1 := h.cur.kept0 hk
  have hb1 : base ≤ w1.heap.size := Nat.le_trans h.hb hk.size
  obtain ⟨v', w', h1, h2, h3⟩ := own_app hc1.own hb1 hu (by rw [marksT_length]; exact hm) (by rw [marksT_length, marksT_length]; omega)
  rw [marksT_length, marksT_length] at h3
  have hg := h3
  rw [← marksT_length gs.length 0 c] at h3
  have hNl : (marksT gs.length c m).length = m := marksT_length _ _ _
  obtain ⟨q1, q2⟩ := cur_step (h.st.kept0 hk) hc1 hNl h3 h2
  have e : marksT gs.length 0 c ++ marksT gs.length c m = marksT gs.length 0 (c + m) := by rw [marksT_append, Nat.zero_add]
  rw [e] at q2
  refine ⟨v', w', h1, q1, (h.rest.kept0 hk).tags hc1.own hg.kept, q2, ?_, Nat.le_trans hb1 hg.kept.size⟩
  exact (h.bel.trans (BK.none hk h.hb)).trans (BK.own hg.kept hc1.own (Or.inl rfl) hb1)

/-- The list is grown, and stands in the row. -/
theorem InSt.close {wr : World} {vo v : Value} {gs : List Value} {Gs : List (List El)} {c : Nat} (h : InSt X W wr bk base v6 v7 vs Ls vo gs Gs v c) (hmk : Marked Gs) (hsz : ∀ G ∈ Gs, G.length ≤ 1100) (hc : c ≤ 1100) (hgs : gs.length ≤ 250) :
    ∃ vo' w', AppS (wr.alloc (.cells #[v] 22)) vo (.slice (some ⟨wr.heap.size, 0, none⟩) 1 1) vo' w' ∧ OutSt X W w' bk base v6 v7 vs Ls vo' (gs ++ [v]) (Gs ++ [marksT gs.length 0 c]) := by
  obtain ⟨vo', w', h1, h2, h3⟩ := rowS_app h.rest.ro h.hb (own_oneCell h.cur.own) (by omega)
  have hk1 : Kept (fun _ => False) wr (wr.alloc (.cells #[v] 22)) := (Kept.refl _ _).alloc _
  have hr1 := h.rest.kept0 hk1
  have hb1 : base ≤ (wr.alloc (.cells #[v] 22)).heap.size := Nat.le_trans h.hb hk1.size
  have st2 := (h.st.kept0 hk1).row hr1.ro h3.kept
  have cur2 := (h.cur.kept0 hk1).row hr1.ro h3.kept
  refine ⟨vo', w', h1, grow_end st2 cur2, hr1.row h3 h2, fun j L hj => ?_, fun G hG => ?_, ?_, Nat.le_trans hb1 h3.kept.size⟩
  · have hlen : gs.length = Gs.length := h.st.grown.len
    by_cases hjl : j < Gs.length
    · rw [List.getElem?_append_left hjl] at hj
      exact hmk j L hj
    · rw [List.getElem?_append_right (by omega)] at hj
      have := (List.getElem?_eq_some_iff.1 hj).1
      simp at this
      have e : j - Gs.length = 0 := by omega
      have ej : j = gs.length := by omega
      rw [e] at hj
      simp at hj
      rw [← hj, marksT_length, ej]
  · rcases List.mem_append.1 hG with hG | hG
    · exact hsz G hG
    · simp at hG
      rw [hG, marksT_length]
      exact hc
  · exact (h.bel.trans (BK.none hk1 h.hb)).trans (BK.own h3.kept hr1.ro (Or.inr rfl) hb1)

theorem OutSt.start {wr : World} {vo : Value} {gs : List Value} {Gs : List (List El)} (h : OutSt X W wr bk base v6 v7 vs Ls vo gs Gs) {x : Value} {L : List El} (hx : vs[gs.length]? = some x) (hL : Ls[gs.length]? = some L) (hm : Marked Ls) : InSt X W wr bk base v6 v7 vs Ls vo gs Gs x L.length := by
  have hc := cur_start h.st hx hL
  rw [hm _ L hL] at hc
  exact ⟨h.st, h.rest, hc, h.bel, h.hb⟩

set_option maxHeartbeats 4000000 in
set_option maxRecDepth 100000 in
theorem grow_Avps (h : BookP X W bk base v6 v7 vs Ls) (hm : Marked Ls) (hb : base ≤ W.heap.size) (hsm : ∀ L ∈ Ls, L.length ≤ 1000) (h250 : vs.length ≤ 250) :
    Calls Tryz.prog 78 #[.pointer (some ⟨bk, 0, none⟩)] W fun e w' => ∃ vo, e = .returned vo ∧ ∃ gs : List Value, gs.length = vs.length ∧ ∃ Gs, OutSt X W w' bk base v6 v7 vs Ls vo gs Gs := by
  obtain ⟨p, cap, rfl⟩ := rowS_slice h.r6
  have HL := hid h.f6.len
  have Hsm := hid hsm
  have Hm := hid hm
  have H0 : Hid (OutSt X W W bk base (.slice p vs.length cap) v7 vs Ls (.slice none 0 0) [] []) := ⟨⟨h.f6, Fam.nil _ _, h.a6, Apart.nil, fun r q u v hu => by simp at hu⟩, ⟨h.blk, h.r6, World.ownsRow_nil _ _ _ _, fun ⟨g, _, h2⟩ => by simp [Value.ownBlock] at h2, h.lo⟩, fun j L hj => by simp at hj, fun G hG => by simp at hG, BK.refl _ _ _, hb⟩
  clear h hsm hm
  go_enter Tryz.func78, Tryz.ntmps78
  go_wp2
  go_loopw [3, 4] (fun vo vi wr => ∃ (j : Nat) (gs : List Value) (Gs : List (List El)), j ≤ vs.length ∧ vi = .int .i64 (j : Int) ∧ Hid (gs.length = j ∧ OutSt X W wr bk base (.slice p vs.length cap) v7 vs Ls vo gs Gs)) (fun _ vi _ => vs.length - (intOf vi).toNat)
  case atStart => exact ⟨0, [], [], Nat.zero_le _, rfl, rfl, H0.out⟩
  case round =>
    obtain ⟨j, gs, Gs, hj, rfl, HI⟩ := hrel
    have d6 := HI.out.2.rest.c6
    clear H0
    by_cases hlt : j < vs.length
    · have hltz : (j : Int) < (vs.length : Int) := by omega
      obtain ⟨x, hx⟩ : ∃ x, vs[j]? = some x := ⟨vs[j], by simp [hlt]⟩
      obtain ⟨L, hL⟩ : ∃ L, Ls[j]? = some L := ⟨Ls[j]'(by have := HL.out; omega), by simp⟩
      obtain ⟨g6, rfl, hc6, e6⟩ := rowS_at HI.out.2.rest.r6 hx
      have hLs := Hsm.out L (List.mem_of_getElem? hL)
      obtain ⟨hgj, hO⟩ := HI.out
      have Hgj := hid hgj
      have S0 := hid (hO.start (x := x) (L := L) (by rw [hgj]; exact hx) (by rw [hgj]; exact hL) Hm.out)
      have HMk := hid (And.intro hO.mks hO.sz)
      obtain ⟨n0, hn0⟩ : ∃ n0, n0 = L.length := ⟨_, rfl⟩
      rw [← hn0] at S0 hLs
      clear HI hO hgj hx hL hn0
      go_wp2
      go_loopw [5, 6] (fun v5 vn wr => ∃ c : Nat, c ≤ 12 ∧ vn = .int .i64 (c : Int) ∧ Hid (InSt X W wr bk base (.slice (some ⟨g6, 0, none⟩) vs.length cap) v7 vs Ls u3 gs Gs v5 (n0 + c))) (fun _ vn _ => 12 - (intOf vn).toNat)
      case atStart => exact ⟨0, Nat.zero_le _, rfl, S0.out⟩
      case round =>
        obtain ⟨c, hc, rfl, HI⟩ := hrel
        obtain ⟨p5, c5, rfl⟩ := HI.out.slice
        clear S0 e6 d6
        by_cases hclt : c < 12
        · have hcz : (c : Int) < 12 := by omega
          have HM := hid (markAvps_any j (n0 + c) 1 (by omega) (by omega) (by omega))
          rw [show ((n0 + c : Nat) : Int) = (n0 : Int) + (c : Int) by omega] at HM
          go_wp2_with fail
          refine (HM.out _).mono ?_
          rintro e1 w1 ⟨u1, rfl, ho1, hk1⟩
          have ho1' : OwnB w1 wr.heap.size u1 (marksT gs.length (n0 + c) 1) := by rw [Hgj.out]; exact ho1
          obtain ⟨v', w2, happ, hin⟩ := HI.out.more ho1' hk1 (by decide) (by omega)
          have HIN := hid hin
          clear ho1 ho1' hk1 hin HI HM
          go_wp2_with (at_builtin; refine Lib.wpList_append_run _ rfl _ _ _ _ rfl _ _ rfl rfl _ _ (happ _) ?_)
          clear happ
          go_wp2
          exact ⟨⟨c + 1, hclt, by go_num, HIN.out⟩, by simp [intOf]; omega⟩
        · obtain rfl : c = 12 := by omega
          have HM := hid (markAvps_any j (n0 + 12) 60 (by omega) (by omega) (by omega))
          rw [show ((n0 + 12 : Nat) : Int) = (n0 : Int) + 12 by omega] at HM
          go_wp2_with fail
          refine (HM.out _).mono ?_
          rintro e1 w1 ⟨u1, rfl, ho1, hk1⟩
          have ho1' : OwnB w1 wr.heap.size u1 (marksT gs.length (n0 + 12) 60) := by rw [Hgj.out]; exact ho1
          obtain ⟨v', w2, happ, hin⟩ := HI.out.more ho1' hk1 (by decide) (by omega)
          obtain ⟨p', c', rfl⟩ := hin.slice
          obtain ⟨vo', w3, hs, hout⟩ := hin.close HMk.out.1 HMk.out.2 (by omega) (by have := Hgj.out; omega)
          have HOut := hid hout
          clear ho1 ho1' hk1 hin HI HM hout
          go_wp2_with (first | (at_builtin; refine Lib.wpList_append_run _ rfl _ _ _ _ rfl _ _ rfl rfl _ _ (happ _) ?_) | (at_builtin; refine Lib.wpList_append_run _ rfl _ _ _ _ rfl _ _ rfl rfl _ _ (hs _) ?_))
          clear happ hs
          exact ⟨⟨j + 1, _, _, hlt, by go_num, by have := Hgj.out; rw [List.length_append, List.length_singleton]; omega, HOut.out⟩, by simp [intOf]; omega⟩
    · obtain rfl : j = vs.length := by omega
      have hltz : ¬ (vs.length : Int) < (vs.length : Int) := by omega
      go_wp2
      go_ret
      exact ⟨_, rfl, gs, HI.out.1, Gs, HI.out.2⟩
end
end Go.Proofs.YtnghakhgogfemaaGreatDoor.BAvps
