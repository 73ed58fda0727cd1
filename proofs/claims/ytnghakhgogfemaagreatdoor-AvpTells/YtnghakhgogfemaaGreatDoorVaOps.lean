/- A book that keeps lists of elements: the contracts of stillAvps, putAvps, growAvps, markedAvps. -/
import Derived.Test.YtnghakhgogfemaaGreatDoorVaMem
import Derived.Deep.RegionHeld3
import Derived.Test.YtnghakhgogfemaaGreatDoorHeldBut
namespace Go.Proofs.YtnghakhgogfemaaGreatDoor.BAvps
open Go.RowKit

def tsK (t : TypeId) : Prop := t = 59 ∨ t = 22

def bookCells (X : Nat → Value) (v6 v7 : Value) : Array Value := #[X 0, X 1, X 2, X 3, X 4, X 5, X 6, X 7, X 8, X 9, X 10, X 11, v6, v7, X 14, X 15, X 16, X 17, X 18, X 19, X 20, X 21, X 22, X 23, X 24, X 25, X 26, X 27, X 28, X 29, X 30, X 31, X 32, X 33, X 34, X 35]

/-- A book whose lists of elements, in the row v6, are vs. -/
structure BookP (X : Nat → Value) (W : World) (bk base : Nat) (v6 v7 : Value) (vs : List Value) (Ls : List (List El)) : Prop where
  blk : W.heap[bk]? = some (.cells (bookCells X v6 v7) 45 (0, 0))
  r6 : RowS W base v6 vs
  f6 : Fam W base vs Ls
  a6 : Apart vs
  lo : base ≤ bk

/-- With copies us, in the row v7. -/
structure BookT (X : Nat → Value) (W : World) (bk base : Nat) (v6 v7 : Value) (vs us : List Value) (Ls : List (List El)) : Prop where
  p : BookP X W bk base v6 v7 vs Ls
  r7 : RowS W base v7 us
  f7 : Fam W base us Ls
  ne : ¬ Shares v6 v7

section
variable {X : Nat → Value} {W W' : World} {bk base : Nat} {v6 v7 : Value} {vs us : List Value} {Ls : List (List El)}

theorem BookP.cell (h : BookP X W bk base v6 v7 vs Ls) (i : Nat) : W.cell? ⟨bk, i, none⟩ = (bookCells X v6 v7)[i]? := by simp [World.cell?, h.blk]
theorem BookP.frozen (h : BookP X W bk base v6 v7 vs Ls) (i : Nat) : W.frozen? ⟨bk, i, none⟩ = false := frozen_of_row _ bk i _ _ h.blk
theorem BookP.lt (h : BookP X W bk base v6 v7 vs Ls) : bk < W.heap.size := (Array.getElem?_eq_some_iff.1 h.blk).1
theorem BookP.c6 (h : BookP X W bk base v6 v7 vs Ls) : W.cell? ⟨bk, 12, none⟩ = some v6 := (h.cell 12).trans rfl
theorem BookP.c7 (h : BookP X W bk base v6 v7 vs Ls) : W.cell? ⟨bk, 13, none⟩ = some v7 := (h.cell 13).trans rfl

theorem rowS_kept {S : Nat → Prop} {v : Value} {xs : List Value} (h : RowS W base v xs) (hk : Kept S W W') (hS : ∀ i, v.ownBlock = some i → ¬ S i) : RowS W' base v xs := owned_kept h hk hS

theorem BookP.kept0 (h : BookP X W bk base v6 v7 vs Ls) (hk : Kept (fun _ => False) W W') : BookP X W' bk base v6 v7 vs Ls :=
  ⟨(hk.block bk h.lt id).trans h.blk, rowS_kept h.r6 hk (fun _ _ => id), h.f6.kept0 hk, h.a6, h.lo⟩
theorem BookT.kept0 (h : BookT X W bk base v6 v7 vs us Ls) (hk : Kept (fun _ => False) W W') : BookT X W' bk base v6 v7 vs us Ls :=
  ⟨h.p.kept0 hk, rowS_kept h.r7 hk (fun _ _ => id), h.f7.kept0 hk, h.ne⟩

/-- What turns elsewhere leaves the book's lists of this kind. -/
theorem fam_other {S : Nat → Prop} {xs : List Value} {Ms : List (List El)} (h : Fam W base xs Ms) (hk : Kept S W W') (hS : ∀ i, S i → ∀ cur t, W.heap[i]? = some (.cells cur t (0, 0)) → ¬ tsK t) : Fam W' base xs Ms :=
  h.kept hk (fun r v i hv hi hs => by
    obtain ⟨L, _, hL⟩ := h.at hv
    rcases hL.2 with ⟨rfl, _⟩ | ⟨g, cap, cur, rfl, _, hg, _⟩
    · cases hi
    · have : g = i := by simpa [Value.ownBlock] using hi
      subst this
      exact hS g hs _ _ hg (Or.inl rfl))
theorem row_other {S : Nat → Prop} {v : Value} {xs : List Value} (h : RowS W base v xs) (hk : Kept S W W') (hS : ∀ i, S i → ∀ cur t, W.heap[i]? = some (.cells cur t (0, 0)) → ¬ tsK t) : RowS W' base v xs :=
  rowS_kept h hk (fun i hi hs => by
    rcases h.2 with ⟨rfl, _⟩ | ⟨g, cap, cur, rfl, _, hg, _⟩
    · cases hi
    · have : g = i := by simpa [Value.ownBlock] using hi
      subst this
      exact hS g hs _ _ hg (Or.inr rfl))
theorem BookP.other {Y : Nat → Value} {S : Nat → Prop} (h : BookP X W bk base v6 v7 vs Ls) (hk : Kept S W W') (hS : ∀ i, S i → ∀ cur t, W.heap[i]? = some (.cells cur t (0, 0)) → ¬ tsK t) (hb : W'.heap[bk]? = some (.cells (bookCells Y v6 v7) 45 (0, 0))) : BookP Y W' bk base v6 v7 vs Ls :=
  ⟨hb, row_other h.r6 hk hS, fam_other h.f6 hk hS, h.a6, h.lo⟩
theorem BookT.other {Y : Nat → Value} {S : Nat → Prop} (h : BookT X W bk base v6 v7 vs us Ls) (hk : Kept S W W') (hS : ∀ i, S i → ∀ cur t, W.heap[i]? = some (.cells cur t (0, 0)) → ¬ tsK t) (hb : W'.heap[bk]? = some (.cells (bookCells Y v6 v7) 45 (0, 0))) : BookT Y W' bk base v6 v7 vs us Ls :=
  ⟨h.p.other hk hS hb, row_other h.r7 hk hS, fam_other h.f7 hk hS, h.ne⟩

theorem rowS_slice {v : Value} {xs : List Value} (h : RowS W base v xs) : ∃ p cap, v = .slice p xs.length cap := slice_of h
theorem rowS_at {p : Option Addr} {n cap : Nat} {xs : List Value} (h : RowS W base (.slice p n cap) xs) {j : Nat} {x : Value} (hj : xs[j]? = some x) : ∃ g, p = some ⟨g, 0, none⟩ ∧ xs.length ≤ cap ∧ W.cell? ⟨g, j, none⟩ = some x := by
  have hlt := (List.getElem?_eq_some_iff.1 hj).1
  rcases h.2 with ⟨_, h0⟩ | ⟨g, cap', cur, h', hb, hg, h1, h2, h3, h4⟩
  · omega
  · simp only [Value.slice.injEq] at h'
    obtain ⟨rfl, rfl, rfl⟩ := h'
    refine ⟨g, rfl, h1, ?_⟩
    rw [← hj, ← h4, List.getElem?_take_of_lt (by omega)]
    simp [World.cell?, hg]

set_option maxHeartbeats 2000000 in
set_option maxRecDepth 100000 in
theorem still_Avps (h : BookT X W bk base v6 v7 vs us Ls) (hsm : ∀ L ∈ Ls, L.length ≤ 1000) (h250 : vs.length ≤ 250) :
    Calls Tryz.prog 42 #[.pointer (some ⟨bk, 0, none⟩)] W fun e w' => e = .returned (.bool true) ∧ Kept (fun _ => False) W w' := by
  obtain ⟨p, cap, rfl⟩ := rowS_slice h.p.r6
  obtain ⟨q, cbp, rfl⟩ := rowS_slice h.r7
  have HK : Hid (∀ W', Kept (fun _ => False) W W' → BookT X W' bk base (.slice p vs.length cap) (.slice q us.length cbp) vs us Ls) := fun W' hk => h.kept0 hk
  have hul : us.length = vs.length := h.f7.len.trans h.p.f6.len.symm
  have HL := hid h.p.f6.len
  have HUL := hid hul
  have Hsm := hid hsm
  have c6 := h.p.c6
  have c7 := h.p.c7
  clear h hul hsm
  go_enter Tryz.func42, Tryz.ntmps42
  go_wp2
  go_loopw [3] (fun vi wr => ∃ j : Nat, j ≤ vs.length ∧ vi = .int .i64 (j : Int) ∧ Hid (Kept (fun _ => False) W wr)) (fun vi _ => vs.length - (intOf vi).toNat)
  case atStart => exact ⟨0, Nat.zero_le _, rfl, Kept.refl _ _⟩
  case round =>
    obtain ⟨j, hj, rfl, HI⟩ := hrel
    have hB := HK.out wr HI.out
    have d6 := hB.p.c6
    have d7 := hB.p.c7
    clear c6 c7
    by_cases hlt : j < vs.length
    · have hltz : (j : Int) < (vs.length : Int) := by omega
      have hltu : (j : Int) < (us.length : Int) := by have := HUL.out; omega
      obtain ⟨x, hx⟩ : ∃ x, vs[j]? = some x := ⟨vs[j], by simp [hlt]⟩
      obtain ⟨y, hy⟩ : ∃ y, us[j]? = some y := ⟨us[j]'(by have := HUL.out; omega), by simp⟩
      obtain ⟨L, hL⟩ : ∃ L, Ls[j]? = some L := ⟨Ls[j]'(by have := HL.out; omega), by simp⟩
      obtain ⟨g6, rfl, hc6, e6⟩ := rowS_at hB.p.r6 hx
      obtain ⟨g7, rfl, hc7, e7⟩ := rowS_at hB.r7 hy
      have HS : Hid (∀ W', Kept (fun _ => False) W W' → Calls Tryz.prog 15 #[x, y] W' fun e w' => e = .returned (.bool true) ∧ Kept (fun _ => False) W w') := fun W' hk => by
        have hb := HK.out W' hk
        have := sameAvps_eq x y L W' (hb.p.f6.own j x L hx hL).tags (hb.f7.own j y L hy hL).tags (by have := Hsm.out L (List.mem_of_getElem? hL); omega)
        exact this.mono fun _ _ ⟨h1, h2⟩ => ⟨h1, hk.trans h2⟩
      have HR : Hid (∀ W', Kept (fun _ => False) W W' → W'.cell? ⟨bk, 12, none⟩ = some (.slice (some ⟨g6, 0, none⟩) vs.length cap) ∧ W'.cell? ⟨bk, 13, none⟩ = some (.slice (some ⟨g7, 0, none⟩) us.length cbp) ∧ W'.cell? ⟨g6, j, none⟩ = some x ∧ W'.cell? ⟨g7, j, none⟩ = some y) := fun W' hk => by
        have hb := HK.out W' hk
        obtain ⟨g, e, _, q1⟩ := rowS_at hb.p.r6 hx
        obtain ⟨g', e', _, q2⟩ := rowS_at hb.r7 hy
        simp at e e'
        subst e e'
        exact ⟨hb.p.c6, hb.p.c7, q1, q2⟩
      have hkr := HI.out
      clear hB hx hy hL HI
      go_wp2
      go_region_held3 (fun W' => W'.cell? ⟨bk, 12, none⟩ = some (.slice (some ⟨g6, 0, none⟩) vs.length cap) ∧ W'.cell? ⟨bk, 13, none⟩ = some (.slice (some ⟨g7, 0, none⟩) us.length cbp) ∧ W'.cell? ⟨g6, j, none⟩ = some x ∧ W'.cell? ⟨g7, j, none⟩ = some y) (first | assumption | exact HR.out _ (by assumption) | go_keep) (first | (go_at_call 15; refine (HS.out _ hkr.drew).mono ?_; rintro e1 w1 ⟨rfl, hk1⟩))
      all_goals
        go_wp2
        exact ⟨⟨j + 1, hlt, by go_num, hk1⟩, by simp [intOf]; omega⟩
    · obtain rfl : j = vs.length := by omega
      have hltz : ¬ (vs.length : Int) < (vs.length : Int) := by omega
      go_wp2
      go_ret
      exact ⟨rfl, HI.out⟩

theorem BookP.set (h : BookP X W bk base v6 v7 vs Ls) {j : Nat} {x : Value} (hj : vs[j]? = some x) (hk : Kept (fun i => x.ownBlock = some i) W W') {L' : List El} (hown : OwnB W' base x L') : BookP X W' bk base v6 v7 vs (Ls.set j L') := by
  obtain ⟨L, hL, hx⟩ := h.f6.at hj
  refine ⟨(hk.block bk h.lt (fun e => ?_)).trans h.blk, rowS_kept h.r6 hk (fun i hi e => ?_), h.f6.set h.a6 hj hk hown, h.a6, h.lo⟩
  · rcases hx.2 with ⟨rfl, _⟩ | ⟨g, cap, cur, rfl, hb, hg, _⟩
    · cases e
    · have : g = bk := by simpa [Value.ownBlock] using e
      subst this
      rw [h.blk] at hg
      simp at hg
  · exact owned_unlike h.r6 hx (by decide) i hi e

/-- The lists as they are marked, the first j of them. -/
def putL (Ls : List (List El)) (j : Nat) : List (List El) := Ls.mapIdx fun i L => if i < j then marksT i 0 L.length else L
theorem putL_zero (Ls : List (List El)) : putL Ls 0 = Ls := by
  apply List.ext_getElem?
  intro i
  simp [putL]
theorem putL_at {j : Nat} {L : List El} (h : Ls[j]? = some L) : (putL Ls j)[j]? = some L := by simp [putL, h]
theorem putL_next {j : Nat} {L : List El} (h : Ls[j]? = some L) : putL Ls (j + 1) = (putL Ls j).set j (marksT j 0 L.length) := by
  have hlt := (List.getElem?_eq_some_iff.1 h).1
  apply List.ext_getElem?
  intro i
  by_cases hi : i = j
  · subst hi
    rw [List.getElem?_set_self (by simp [putL]; exact hlt)]
    simp [putL, h]
  · rw [List.getElem?_set_ne (fun e => hi e.symm)]
    simp only [putL, List.getElem?_mapIdx]
    congr 1
    funext L
    by_cases h1 : i < j
    · rw [if_pos h1, if_pos (by omega)]
    · rw [if_neg h1, if_neg (by omega)]
theorem mark_step {j k : Nat} {L : List El} (h : k < L.length) : (marksT j 0 k ++ L.drop k).set k (markT j k) = marksT j 0 (k + 1) ++ L.drop (k + 1) := by
  rw [List.drop_eq_getElem_cons h, marksT_snoc, Nat.zero_add, List.append_assoc, List.set_append_right _ _ (by rw [marksT_length]; exact Nat.le_refl _), marksT_length, Nat.sub_self]
  rfl
theorem mark_get {j k : Nat} {L : List El} (h : k < L.length) : (marksT j 0 k ++ L.drop k)[k]? = some L[k] := by
  rw [List.getElem?_append_right (by rw [marksT_length]; exact Nat.le_refl _), marksT_length, Nat.sub_self]
  simp [h]

/-- What the inner loop has come to. -/
structure PutIn (X : Nat → Value) (W wr : World) (bk base : Nat) (v6 v7 : Value) (vs : List Value) (M : List (List El)) (j k : Nat) (L : List El) (vm : Value) : Prop where
  bp : BookP X wr bk base v6 v7 vs (M.set j (marksT j 0 k ++ L.drop k))
  own : OwnB wr base vm (marksT j 0 L.length)
  bel : BK tsK base W wr
  sz : base ≤ wr.heap.size

theorem PutIn.step {wr : World} {M : List (List El)} {j k : Nat} {L : List El} {vm : Value} {gx cx : Nat} (h : PutIn X W wr bk base v6 v7 vs M j k L vm) (hM : j < M.length) (hk : k < L.length) (hx : vs[j]? = some (.slice (some ⟨gx, 0, none⟩) L.length cx)) (hfar : ¬ Shares (.slice (some ⟨gx, 0, none⟩) L.length cx) vm) :
    ∃ w', (Instr.storeAt 59 (.pointer (some ⟨gx, k * 5, none⟩)) (.agg (elCells (markT j k)).toArray)).run Tryz.prog wr.drew = .ok () w' ∧ PutIn X W w' bk base v6 v7 vs M j (k + 1) L vm := by
  have hd : Kept (fun _ => False) wr wr.drew := (Kept.refl _ _).drew
  have ho := (h.bp.f6.own j _ (marksT j 0 k ++ L.drop k) hx (by rw [List.getElem?_set_self hM])).kept hd
  have hlen : (marksT j 0 k ++ L.drop k).length = L.length := by rw [List.length_append, marksT_length, List.length_drop]; omega
  obtain ⟨w', h1, ho1, hk1⟩ := own_set ho (k := k) (by omega) (markT j k)
  rw [mark_step hk] at ho1
  have hk2 : Kept (fun i => (Value.slice (some ⟨gx, 0, none⟩) L.length cx).ownBlock = some i) wr w' := (hd.mono (fun _ _ h => h.elim)).trans hk1
  refine ⟨w', h1, ?_, own_kept h.own hk2 (fun i hi e => hfar ⟨i, e, hi⟩), h.bel.trans (BK.own hk2 (h.bp.f6.own j _ (marksT j 0 k ++ L.drop k) hx (by rw [List.getElem?_set_self hM])) (Or.inl rfl) h.sz), Nat.le_trans h.sz hk2.size⟩
  have := h.bp.set hx hk2 ho1
  rw [List.set_set] at this
  exact this

set_option maxHeartbeats 4000000 in
set_option maxRecDepth 100000 in
theorem put_Avps (h : BookP X W bk base v6 v7 vs Ls) (hb : base ≤ W.heap.size) (hsm : ∀ L ∈ Ls, L.length ≤ 1000) (h250 : vs.length ≤ 250) :
    Calls Tryz.prog 63 #[.pointer (some ⟨bk, 0, none⟩)] W fun e w' => e = .returned (.tuple #[]) ∧ BookP X w' bk base v6 v7 vs (putL Ls vs.length) ∧ BK tsK base W w' := by
  obtain ⟨p, cap, rfl⟩ := rowS_slice h.r6
  have HL := hid h.f6.len
  have Hsm := hid hsm
  have H0 := hid h
  clear h hsm
  go_enter Tryz.func63, Tryz.ntmps63
  go_wp2
  go_loopw [2] (fun vi wr => ∃ j : Nat, j ≤ vs.length ∧ vi = .int .i64 (j : Int) ∧ Hid (BookP X wr bk base (.slice p vs.length cap) v7 vs (putL Ls j) ∧ BK tsK base W wr ∧ base ≤ wr.heap.size)) (fun vi _ => vs.length - (intOf vi).toNat)
  case atStart => exact ⟨0, Nat.zero_le _, rfl, by rw [putL_zero]; exact H0.out, BK.refl _ _ _, hb⟩
  case round =>
    obtain ⟨j, hj, rfl, HI⟩ := hrel
    have d6 := HI.out.1.c6
    clear H0
    by_cases hlt : j < vs.length
    · have hltz : (j : Int) < (vs.length : Int) := by omega
      obtain ⟨x, hx⟩ : ∃ x, vs[j]? = some x := ⟨vs[j], by simp [hlt]⟩
      obtain ⟨L, hL⟩ : ∃ L, Ls[j]? = some L := ⟨Ls[j]'(by have := HL.out; omega), by simp⟩
      obtain ⟨g6, rfl, hc6, e6⟩ := rowS_at HI.out.1.r6 hx
      have hox := HI.out.1.f6.own j x L hx (putL_at hL)
      obtain ⟨px, cx, rfl⟩ := slice_of hox
      have hLs := Hsm.out L (List.mem_of_getElem? hL)
      have HM := hid (markAvps_any j 0 L.length (by omega) (by omega) (by omega))
      have hx0 := hid hx
      have hL0 := hid hL
      have HO := hid hox
      clear hx hL hox
      go_wp2_with fail
      refine (HM.out _).mono ?_
      rintro e1 w1 ⟨vm, rfl, hom, hk1⟩
      have hfar : Hid (¬ Shares (.slice px L.length cx) vm) := fun ⟨g, g1, g2⟩ => by
        have h1 := (own_lt HO.out g1).2
        have h2 := (own_lt hom g2).1
        omega
      have PI0 : Hid (PutIn X W w1 bk base (.slice (some ⟨g6, 0, none⟩) vs.length cap) v7 vs (putL Ls j) j 0 L vm) := by
        refine ⟨?_, hom.mono (Nat.le_trans HI.out.2.2 (Nat.le_refl _)), HI.out.2.1.trans (BK.none hk1 HI.out.2.2), Nat.le_trans HI.out.2.2 hk1.size⟩
        show BookP X w1 bk base _ v7 vs ((putL Ls j).set j L)
        rw [set_self (putL_at hL0.out)]
        exact HI.out.1.kept0 hk1
      have hML : Hid (j < (putL Ls j).length) := by
        show _ < _
        rw [← HI.out.1.f6.len]
        exact hlt
      obtain ⟨pm, cm, rfl⟩ := slice_of hom
      rw [marksT_length] at PI0 hfar
      rw [marksT_length]
      clear hk1 hom HI d6 e6 HO
      go_wp2
      go_loopw [4] (fun vk wr => ∃ k : Nat, k ≤ L.length ∧ vk = .int .i64 (k : Int) ∧ Hid (PutIn X W wr bk base (.slice (some ⟨g6, 0, none⟩) vs.length cap) v7 vs (putL Ls j) j k L (.slice pm L.length cm))) (fun vk _ => L.length - (intOf vk).toNat)
      case atStart => exact ⟨0, Nat.zero_le _, rfl, PI0.out⟩
      case round =>
        obtain ⟨k, hk, rfl, HI⟩ := hrel
        clear PI0
        by_cases hklt : k < L.length
        · have hkz : (k : Int) < (L.length : Int) := by omega
          have d6 := HI.out.bp.c6
          obtain ⟨g6', e6', hc6', e6⟩ := rowS_at HI.out.bp.r6 hx0.out
          have hoc := HI.out.bp.f6.own j _ _ hx0.out (by rw [List.getElem?_set_self hML.out])
          have hlen : (marksT j 0 k ++ L.drop k).length = L.length := by rw [List.length_append, marksT_length, List.length_drop]; omega
          obtain ⟨gx, rfl, hn1, hxc, _⟩ := hoc.at (mark_get hklt)
          obtain ⟨gm, rfl, hn2, hmc, hld0⟩ := HI.out.own.at (marksT_get hklt)
          clear hn1 hn2
          rw [Nat.zero_add] at hld0
          simp only [Option.some.injEq, Addr.mk.injEq, and_true] at e6'
          subst e6'
          rw [hlen] at hxc
          rw [marksT_length] at hmc
          obtain ⟨w5, hst, hR⟩ := HI.out.step hML.out hklt hx0.out hfar.out
          have R := hid hR
          have s6 : ∀ U, Kept (fun _ => False) wr U → U.cell? ⟨bk, 12, none⟩ = some (.slice (some ⟨g6, 0, none⟩) vs.length cap) := fun U hk => (HI.out.bp.kept0 hk).c6
          have s7 : ∀ U, Kept (fun _ => False) wr U → U.cell? ⟨g6, j, none⟩ = some (.slice (some ⟨gx, 0, none⟩) L.length cx) := fun U hk => by
            obtain ⟨g', e', _, q⟩ := rowS_at (HI.out.bp.kept0 hk).r6 hx0.out
            simp only [Option.some.injEq, Addr.mk.injEq, and_true] at e'
            subst e'
            exact q
          have hld : ∀ U, Kept (fun _ => False) wr U → U.rangeAt gm (k * 5) (elCells (markT j k)) := fun U hk => by
            obtain ⟨g', e', _, _, q⟩ := (HI.out.own.kept hk).at (marksT_get hklt)
            simp only [Option.some.injEq, Addr.mk.injEq, and_true] at e'
            subst e'
            rw [Nat.zero_add] at q
            exact q
          have hsz := sizeB (markT j k)
          clear HI hoc hlen hld0 hR d6 e6
          generalize elCells (markT j k) = cs at *
          go_wp2
          refine wp_region_but (S := Kept (fun _ => False) wr) 13 (by kernel_rfl) ((Kept.refl _ wr).drew) (fun hSd => ?_)
          refine wpAnyB_take (i := 0) (v := ?_) rfl (by kernel_rfl) (by kernel_rfl) (by kernel_rfl) (by kernel_rfl) (by kernel_rfl) (fun _ _ _ h => h) (Or.inl ⟨by kernel_rfl, fun W hSW => by go_simp; try with_reducible rfl⟩) (by assumption) ?_
          try simp only [List.getElem_toArray]
          try simp only [List.getElem_cons_succ]
          try simp only [List.getElem_cons_zero]
          try simp only [Act.put]
          try simp only [List.setIfInBounds_toArray]
          try simp only [List.set_cons_succ]
          try simp only [List.set_cons_zero]
          refine wpAnyB_take (i := 1) (v := ?_) rfl (by kernel_rfl) (by kernel_rfl) (by kernel_rfl) (by kernel_rfl) (by kernel_rfl) (fun _ _ _ h => h) (Or.inl ⟨by kernel_rfl, fun W hSW => by go_simp; try with_reducible rfl⟩) (by assumption) ?_
          try simp only [List.getElem_toArray]
          try simp only [List.getElem_cons_succ]
          try simp only [List.getElem_cons_zero]
          try simp only [Act.put]
          try simp only [List.setIfInBounds_toArray]
          try simp only [List.set_cons_succ]
          try simp only [List.set_cons_zero]
          refine wpAnyB_take (i := 2) (v := ?_) rfl (by kernel_rfl) (by kernel_rfl) (by kernel_rfl) (by kernel_rfl) (by kernel_rfl) (fun _ _ _ h => h) (Or.inl ⟨by kernel_rfl, fun W hSW => by go_simp; try with_reducible rfl⟩) (by assumption) ?_
          try simp only [List.getElem_toArray]
          try simp only [List.getElem_cons_succ]
          try simp only [List.getElem_cons_zero]
          try simp only [Act.put]
          try simp only [List.setIfInBounds_toArray]
          try simp only [List.set_cons_succ]
          try simp only [List.set_cons_zero]
          refine wpAnyB_take (i := 3) (v := ?_) rfl (by kernel_rfl) (by kernel_rfl) (by kernel_rfl) (by kernel_rfl) (by kernel_rfl) (fun _ _ _ h => h) (Or.inl ⟨by kernel_rfl, fun W hSW => by go_simp; try with_reducible rfl⟩) (by assumption) ?_
          try simp only [List.getElem_toArray]
          try simp only [List.getElem_cons_succ]
          try simp only [List.getElem_cons_zero]
          try simp only [Act.put]
          try simp only [List.setIfInBounds_toArray]
          try simp only [List.set_cons_succ]
          try simp only [List.set_cons_zero]
          refine wpAnyB_take (i := 4) (v := ?_) rfl (by kernel_rfl) (by kernel_rfl) (by kernel_rfl) (by kernel_rfl) (by kernel_rfl) (fun _ _ _ h => h) (Or.inl ⟨by kernel_rfl, fun W hSW => by go_simp; try with_reducible rfl⟩) (by assumption) ?_
          try simp only [List.getElem_toArray]
          try simp only [List.getElem_cons_succ]
          try simp only [List.getElem_cons_zero]
          try simp only [Act.put]
          try simp only [List.setIfInBounds_toArray]
          try simp only [List.set_cons_succ]
          try simp only [List.set_cons_zero]
          refine wpAnyB_take (i := 5) (v := ?_) rfl (by kernel_rfl) (by kernel_rfl) (by kernel_rfl) (by kernel_rfl) (by kernel_rfl) (fun _ _ _ h => h) (Or.inl ⟨by kernel_rfl, fun W hSW => by go_simp; try with_reducible rfl⟩) (by assumption) ?_
          try simp only [List.getElem_toArray]
          try simp only [List.getElem_cons_succ]
          try simp only [List.getElem_cons_zero]
          try simp only [Act.put]
          try simp only [List.setIfInBounds_toArray]
          try simp only [List.set_cons_succ]
          try simp only [List.set_cons_zero]
          refine wpAnyB_take (i := 6) (v := ?_) rfl (by kernel_rfl) (by kernel_rfl) (by kernel_rfl) (by kernel_rfl) (by kernel_rfl) (fun _ _ _ h => h) (Or.inl ⟨by kernel_rfl, fun W hSW => by go_simp; try with_reducible rfl⟩) (by assumption) ?_
          try simp only [List.getElem_toArray]
          try simp only [List.getElem_cons_succ]
          try simp only [List.getElem_cons_zero]
          try simp only [Act.put]
          try simp only [List.setIfInBounds_toArray]
          try simp only [List.set_cons_succ]
          try simp only [List.set_cons_zero]
          refine wpAnyB_take (i := 7) (v := ?_) rfl (by kernel_rfl) (by kernel_rfl) (by kernel_rfl) (by kernel_rfl) (by kernel_rfl) (fun _ _ _ h => h) (Or.inl ⟨by kernel_rfl, fun W hSW => by go_simp; try with_reducible rfl⟩) (by assumption) ?_
          try simp only [List.getElem_toArray]
          try simp only [List.getElem_cons_succ]
          try simp only [List.getElem_cons_zero]
          try simp only [Act.put]
          try simp only [List.setIfInBounds_toArray]
          try simp only [List.set_cons_succ]
          try simp only [List.set_cons_zero]
          refine wpAnyB_take (i := 8) (v := ?_) rfl (by kernel_rfl) (by kernel_rfl) (by kernel_rfl) (by kernel_rfl) (by kernel_rfl) (fun _ _ _ h => h) (Or.inl ⟨by kernel_rfl, fun W hSW => by go_simp; try with_reducible rfl⟩) (by assumption) ?_
          try simp only [List.getElem_toArray]
          try simp only [List.getElem_cons_succ]
          try simp only [List.getElem_cons_zero]
          try simp only [Act.put]
          try simp only [List.setIfInBounds_toArray]
          try simp only [List.set_cons_succ]
          try simp only [List.set_cons_zero]
          refine wpAnyB_take (i := 9) (v := ?_) rfl (by kernel_rfl) (by kernel_rfl) (by kernel_rfl) (by kernel_rfl) (by kernel_rfl) (fun _ _ _ h => h) (Or.inl ⟨by kernel_rfl, fun W hSW => by go_simp; try with_reducible rfl⟩) (by assumption) ?_
          try simp only [List.getElem_toArray]
          try simp only [List.getElem_cons_succ]
          try simp only [List.getElem_cons_zero]
          try simp only [Act.put]
          try simp only [List.setIfInBounds_toArray]
          try simp only [List.set_cons_succ]
          try simp only [List.set_cons_zero]
          refine wpAnyB_take (i := 10) (v := ?_) rfl (by kernel_rfl) (by kernel_rfl) (by kernel_rfl) (by kernel_rfl) (by kernel_rfl) (fun _ _ _ h => h) (Or.inl ⟨by kernel_rfl, fun W hSW => by go_simp; try with_reducible rfl⟩) (by assumption) ?_
          try simp only [List.getElem_toArray]
          try simp only [List.getElem_cons_succ]
          try simp only [List.getElem_cons_zero]
          try simp only [Act.put]
          try simp only [List.setIfInBounds_toArray]
          try simp only [List.set_cons_succ]
          try simp only [List.set_cons_zero]
          refine wpAnyB_take (i := 11) (v := .agg cs.toArray) rfl (by kernel_rfl) (by kernel_rfl) (by kernel_rfl) (by kernel_rfl) (by kernel_rfl) (fun _ _ _ h => h) (yieldsIf_load_mid (by kernel_rfl) 59 (.tmp 40) rfl gm (k * 5) rfl cs _ hld Tryz.underlying59 rfl hsz) (by assumption) ?_
          try simp only [List.getElem_toArray]
          try simp only [List.getElem_cons_succ]
          try simp only [List.getElem_cons_zero]
          try simp only [Act.put]
          try simp only [List.setIfInBounds_toArray]
          try simp only [List.set_cons_succ]
          try simp only [List.set_cons_zero]
          refine wpAnyB_take (i := 12) (v := ?_) rfl (by kernel_rfl) (by kernel_rfl) (by kernel_rfl) (by kernel_rfl) (by kernel_rfl) (fun _ _ _ h => h) (Or.inl ⟨by kernel_rfl, fun W hSW => by go_simp; try with_reducible rfl⟩) (by assumption) ?_
          try simp only [List.getElem_toArray]
          try simp only [List.getElem_cons_succ]
          try simp only [List.getElem_cons_zero]
          try simp only [Act.put]
          try simp only [List.setIfInBounds_toArray]
          try simp only [List.set_cons_succ]
          try simp only [List.set_cons_zero]
          refine wpAnyB_ready (rs := [13]) (by kernel_rfl) (by simp) ?_
          refine AllReadyB.end rfl (fun K hK => ?_)
          refine stepB_store rfl (.tmp 42) (.tmp 41) 59 rfl _ _ rfl rfl hst ?_
          refine hK.out _ _ (trivial) (fun _ => ?_)
          clear hK K
          try simp only [List.getElem_toArray]
          try simp only [List.getElem_cons_succ]
          try simp only [List.getElem_cons_zero]
          try simp only [Act.put]
          try simp only [List.setIfInBounds_toArray]
          try simp only [List.set_cons_succ]
          try simp only [List.set_cons_zero]
          refine wpAnyB_done (by kernel_rfl) ?_ _
          clear s6 s7 hld hst
          go_wp2
          exact ⟨⟨k + 1, hklt, by go_num, R.out⟩, by simp [intOf]; omega⟩
        · obtain rfl : k = L.length := by omega
          have hkz : ¬ (L.length : Int) < (L.length : Int) := by omega
          have R : Hid (BookP X wr bk base (.slice (some ⟨g6, 0, none⟩) vs.length cap) v7 vs (putL Ls (j + 1)) ∧ BK tsK base W wr ∧ base ≤ wr.heap.size) := by
            obtain ⟨q1, q2, q3, q4⟩ := HI.out
            rw [List.drop_of_length_le (Nat.le_refl _), List.append_nil, ← putL_next hL0.out] at q1
            exact ⟨q1, q3, q4⟩
          clear HI
          go_wp2
          exact ⟨⟨j + 1, hlt, by go_num, R.out⟩, by simp [intOf]; omega⟩
    · obtain rfl : j = vs.length := by omega
      have hltz : ¬ (vs.length : Int) < (vs.length : Int) := by omega
      go_wp2
      go_end0
      exact ⟨rfl, HI.out.1, HI.out.2.1⟩
end
end Go.Proofs.YtnghakhgogfemaaGreatDoor.BAvps
