/- A book that keeps lists of options: the contracts of stillOptions, putOptions, growOptions, markedOptions. -/
import Derived.Test.YtndpfcanfcbldaaGreatDoorBoMem
import Derived.Deep.RegionHeld3
namespace Go.Proofs.YtndpfcanfcbldaaGreatDoor
open Go.RowKit

/-- Blocks of these types. -/
def TyS (ts : TypeId → Prop) (W : World) (i : Nat) : Prop := ∃ cur t, W.heap[i]? = some (.cells cur t (0, 0)) ∧ ts t
/-- Nothing has turned but blocks of these types, none of them below base. -/
structure BK (ts : TypeId → Prop) (base : Nat) (W W' : World) : Prop where
  b : Below base W W'
  k : Kept (TyS ts W) W W'
theorem BK.refl (ts : TypeId → Prop) (base : Nat) (W : World) : BK ts base W W := ⟨Below.refl _ _, Kept.refl _ _⟩
theorem BK.trans {ts : TypeId → Prop} {base : Nat} {a b c : World} (h : BK ts base a b) (k : BK ts base b c) : BK ts base a c :=
  ⟨h.b.trans k.b, ⟨k.k.os.trans h.k.os, k.k.tape.trans h.k.tape, k.k.output.trans h.k.output, Nat.le_trans h.k.size k.k.size, fun i hi hn => by
    have e := h.k.block i hi hn
    refine (k.k.block i (Nat.lt_of_lt_of_le hi h.k.size) (fun ⟨cur, t, h1, h2⟩ => hn ⟨cur, t, ?_, h2⟩)).trans e
    rw [← e]
    exact h1⟩⟩
theorem BK.none {ts : TypeId → Prop} {base : Nat} {W W' : World} (hk : Kept (fun _ => False) W W') (hb : base ≤ W.heap.size) : BK ts base W W' := ⟨hk.below hb (fun _ h => h.elim), hk.mono (fun _ _ h => h.elim)⟩
theorem BK.own {ts : TypeId → Prop} {base : Nat} {W W' : World} {v : Value} {e : TypeId} {k n : Nat} {xs : List Value} (hk : Kept (fun i => v.ownBlock = some i) W W') (h : W.ownsRow base e k v n xs) (he : ts e) (hb : base ≤ W.heap.size) : BK ts base W W' :=
  ⟨hk.below hb (fun i hi => (World.ownsRow.lt h i hi).1), hk.mono (fun i _ hi => by
    rcases h.2 with ⟨rfl, _⟩ | ⟨g, cap, cur, rfl, _, hg, _⟩
    · cases hi
    · have : g = i := by simpa [Value.ownBlock] using hi
      subst this
      exact ⟨cur, e, hg, he⟩)⟩
def tsK (t : TypeId) : Prop := t = 147 ∨ t = 55

def bookCells (X : Nat → Value) (v6 v7 : Value) : Array Value := #[X 0, X 1, X 2, X 3, X 4, X 5, X 6, X 7, v6, v7, X 10, X 11, X 12, X 13, X 14, X 15, X 16, X 17, X 18, X 19, X 20, X 21, X 22, X 23, X 24, X 25, X 26, X 27, X 28, X 29, X 30, X 31, X 32, X 33, X 34, X 35]

/-- A book whose lists of options, in the row v6, are vs. -/
structure BookP (X : Nat → Value) (W : World) (bk base : Nat) (v6 v7 : Value) (vs : List Value) (Ls : List (List Tg)) : Prop where
  blk : W.heap[bk]? = some (.cells (bookCells X v6 v7) 52 (0, 0))
  r6 : RowS W base v6 vs
  f6 : Fam W base vs Ls
  a6 : Apart vs
  lo : base ≤ bk

/-- With copies us, in the row v7. -/
structure BookT (X : Nat → Value) (W : World) (bk base : Nat) (v6 v7 : Value) (vs us : List Value) (Ls : List (List Tg)) : Prop where
  p : BookP X W bk base v6 v7 vs Ls
  r7 : RowS W base v7 us
  f7 : Fam W base us Ls
  ne : ¬ Shares v6 v7

section
variable {X : Nat → Value} {W W' : World} {bk base : Nat} {v6 v7 : Value} {vs us : List Value} {Ls : List (List Tg)}

theorem BookP.cell (h : BookP X W bk base v6 v7 vs Ls) (i : Nat) : W.cell? ⟨bk, i, none⟩ = (bookCells X v6 v7)[i]? := by simp [World.cell?, h.blk]
theorem BookP.frozen (h : BookP X W bk base v6 v7 vs Ls) (i : Nat) : W.frozen? ⟨bk, i, none⟩ = false := frozen_of_row _ bk i _ _ h.blk
theorem BookP.lt (h : BookP X W bk base v6 v7 vs Ls) : bk < W.heap.size := (Array.getElem?_eq_some_iff.1 h.blk).1
theorem BookP.c6 (h : BookP X W bk base v6 v7 vs Ls) : W.cell? ⟨bk, 8, none⟩ = some v6 := (h.cell 8).trans rfl
theorem BookP.c7 (h : BookP X W bk base v6 v7 vs Ls) : W.cell? ⟨bk, 9, none⟩ = some v7 := (h.cell 9).trans rfl

theorem rowS_kept {S : Nat → Prop} {v : Value} {xs : List Value} (h : RowS W base v xs) (hk : Kept S W W') (hS : ∀ i, v.ownBlock = some i → ¬ S i) : RowS W' base v xs := owned_kept h hk hS

theorem BookP.kept0 (h : BookP X W bk base v6 v7 vs Ls) (hk : Kept (fun _ => False) W W') : BookP X W' bk base v6 v7 vs Ls :=
  ⟨(hk.block bk h.lt id).trans h.blk, rowS_kept h.r6 hk (fun _ _ => id), h.f6.kept0 hk, h.a6, h.lo⟩
theorem BookT.kept0 (h : BookT X W bk base v6 v7 vs us Ls) (hk : Kept (fun _ => False) W W') : BookT X W' bk base v6 v7 vs us Ls :=
  ⟨h.p.kept0 hk, rowS_kept h.r7 hk (fun _ _ => id), h.f7.kept0 hk, h.ne⟩

/-- What turns elsewhere leaves the book's lists of this kind. -/
theorem fam_other {S : Nat → Prop} {xs : List Value} {Ms : List (List Tg)} (h : Fam W base xs Ms) (hk : Kept S W W') (hS : ∀ i, S i → ∀ cur t, W.heap[i]? = some (.cells cur t (0, 0)) → ¬ tsK t) : Fam W' base xs Ms :=
  h.kept hk (fun r v i hv hi hs => by
    obtain ⟨L, _, hL⟩ := h.at hv
    rcases hL.2 with ⟨rfl, _⟩ | ⟨g, cap, cur, rfl, _, hg, _⟩
    · cases hi
    · have : g = i := by simpa [Value.ownBlock] using hi
      subst this
      exact hS g hs _ _ hg (Or.inl rfl))
theorem row_other {S : Nat → Prop} {v : Value} {xs : List Value} (h : RowS W base v xs) (hk : Kept S W W') (hS : ∀ i, S i → ∀ cur t, W.heap[i]? = some (.cells cur t (0, 0)) → ¬ tsK t) : RowS W' base v xs :=
  rowS_kept h hk (fun i hi hs => by
    rcases h.2 with ⟨rfl, _⟩ | ⟨g, cap, cur, rfl, _, hg, _⟩
    · cases hi
    · have : g = i := by simpa [Value.ownBlock] using hi
      subst this
      exact hS g hs _ _ hg (Or.inr rfl))
theorem BookP.other {Y : Nat → Value} {S : Nat → Prop} (h : BookP X W bk base v6 v7 vs Ls) (hk : Kept S W W') (hS : ∀ i, S i → ∀ cur t, W.heap[i]? = some (.cells cur t (0, 0)) → ¬ tsK t) (hb : W'.heap[bk]? = some (.cells (bookCells Y v6 v7) 52 (0, 0))) : BookP Y W' bk base v6 v7 vs Ls :=
  ⟨hb, row_other h.r6 hk hS, fam_other h.f6 hk hS, h.a6, h.lo⟩
theorem BookT.other {Y : Nat → Value} {S : Nat → Prop} (h : BookT X W bk base v6 v7 vs us Ls) (hk : Kept S W W') (hS : ∀ i, S i → ∀ cur t, W.heap[i]? = some (.cells cur t (0, 0)) → ¬ tsK t) (hb : W'.heap[bk]? = some (.cells (bookCells Y v6 v7) 52 (0, 0))) : BookT Y W' bk base v6 v7 vs us Ls :=
  ⟨h.p.other hk hS hb, row_other h.r7 hk hS, fam_other h.f7 hk hS, h.ne⟩

theorem rowS_slice {v : Value} {xs : List Value} (h : RowS W base v xs) : ∃ p cap, v = .slice p xs.length cap := slice_of h
theorem rowS_at {p : Option Addr} {n cap : Nat} {xs : List Value} (h : RowS W base (.slice p n cap) xs) {j : Nat} {x : Value} (hj : xs[j]? = some x) : ∃ g, p = some ⟨g, 0, none⟩ ∧ xs.length ≤ cap ∧ W.cell? ⟨g, j, none⟩ = some x := by
  have hlt := (List.getElem?_eq_some_iff.1 hj).1
  rcases h.2 with ⟨_, h0⟩ | ⟨g, cap', cur, h', hb, hg, h1, h2, h3, h4⟩
  · omega
  · simp only [Value.slice.injEq] at h'
    obtain ⟨rfl, rfl, rfl⟩ := h'
    refine ⟨g, rfl, h1, ?_⟩
    rw [← hj, ← h4, List.getElem?_take_of_lt (by omega)]
    simp [World.cell?, hg]

set_option maxHeartbeats 2000000 in
set_option maxRecDepth 100000 in
theorem still_Options (h : BookT X W bk base v6 v7 vs us Ls) (hsm : ∀ L ∈ Ls, L.length ≤ 1000) (h250 : vs.length ≤ 250) :
    Calls Tryz.prog 42 #[.pointer (some ⟨bk, 0, none⟩)] W fun e w' => e = .returned (.bool true) ∧ Kept (fun _ => False) W w' := by
  obtain ⟨p, cap, rfl⟩ := rowS_slice h.p.r6
  obtain ⟨q, cbp, rfl⟩ := rowS_slice h.r7
  have HK : Hid (∀ W', Kept (fun _ => False) W W' → BookT X W' bk base (.slice p vs.length cap) (.slice q us.length cbp) vs us Ls) := fun W' hk => h.kept0 hk
  have hul : us.length = vs.length := h.f7.len.trans h.p.f6.len.symm
  have HL := hid h.p.f6.len
  have HUL := hid hul
  have Hsm := hid hsm
  have c6 := h.p.c6
  have c7 := h.p.c7
  clear h hul hsm
  go_enter Tryz.func42, Tryz.ntmps42
  go_wp2
  go_loopw [3] (fun vi wr => ∃ j : Nat, j ≤ vs.length ∧ vi = .int .i64 (j : Int) ∧ Hid (Kept (fun _ => False) W wr)) (fun vi _ => vs.length - (intOf vi).toNat)
  case atStart => exact ⟨0, Nat.zero_le _, rfl, Kept.refl _ _⟩
  case round =>
    obtain ⟨j, hj, rfl, HI⟩ := hrel
    have hB := HK.out wr HI.out
    have d6 := hB.p.c6
    have d7 := hB.p.c7
    clear c6 c7
    by_cases hlt : j < vs.length
    · have hltz : (j : Int) < (vs.length : Int) := by omega
      have hltu : (j : Int) < (us.length : Int) := by have := HUL.out; omega
      obtain ⟨x, hx⟩ : ∃ x, vs[j]? = some x := ⟨vs[j], by simp [hlt]⟩
      obtain ⟨y, hy⟩ : ∃ y, us[j]? = some y := ⟨us[j]'(by have := HUL.out; omega), by simp⟩
      obtain ⟨L, hL⟩ : ∃ L, Ls[j]? = some L := ⟨Ls[j]'(by have := HL.out; omega), by simp⟩
      obtain ⟨g6, rfl, hc6, e6⟩ := rowS_at hB.p.r6 hx
      obtain ⟨g7, rfl, hc7, e7⟩ := rowS_at hB.r7 hy
      have HS : Hid (∀ W', Kept (fun _ => False) W W' → Calls Tryz.prog 131 #[x, y] W' fun e w' => e = .returned (.bool true) ∧ Kept (fun _ => False) W w') := fun W' hk => by
        have hb := HK.out W' hk
        have := sameOptions_any x y L L W' (hb.p.f6.own j x L hx hL).tags (hb.f7.own j y L hy hL).tags (by have := Hsm.out L (List.mem_of_getElem? hL); omega)
        rw [sameF_self] at this
        exact this.mono fun _ _ ⟨h1, h2⟩ => ⟨h1, hk.trans h2⟩
      have HR : Hid (∀ W', Kept (fun _ => False) W W' → W'.cell? ⟨bk, 8, none⟩ = some (.slice (some ⟨g6, 0, none⟩) vs.length cap) ∧ W'.cell? ⟨bk, 9, none⟩ = some (.slice (some ⟨g7, 0, none⟩) us.length cbp) ∧ W'.cell? ⟨g6, j, none⟩ = some x ∧ W'.cell? ⟨g7, j, none⟩ = some y) := fun W' hk => by
        have hb := HK.out W' hk
        obtain ⟨g, e, _, q1⟩ := rowS_at hb.p.r6 hx
        obtain ⟨g', e', _, q2⟩ := rowS_at hb.r7 hy
        simp at e e'
        subst e e'
        exact ⟨hb.p.c6, hb.p.c7, q1, q2⟩
      have hkr := HI.out
      clear hB hx hy hL HI
      go_wp2
      go_region_held3 (fun W' => W'.cell? ⟨bk, 8, none⟩ = some (.slice (some ⟨g6, 0, none⟩) vs.length cap) ∧ W'.cell? ⟨bk, 9, none⟩ = some (.slice (some ⟨g7, 0, none⟩) us.length cbp) ∧ W'.cell? ⟨g6, j, none⟩ = some x ∧ W'.cell? ⟨g7, j, none⟩ = some y) (first | assumption | exact HR.out _ (by assumption) | go_keep) (first | (go_at_call 131; refine (HS.out _ hkr.drew).mono ?_; rintro e1 w1 ⟨rfl, hk1⟩))
      all_goals
        go_wp2
        exact ⟨⟨j + 1, hlt, by go_num, hk1⟩, by simp [intOf]; omega⟩
    · obtain rfl : j = vs.length := by omega
      have hltz : ¬ (vs.length : Int) < (vs.length : Int) := by omega
      go_wp2
      go_ret
      exact ⟨rfl, HI.out⟩

theorem own_at {v : Value} {L : List Tg} (h : OwnO W base v L) {k : Nat} {y : Tg} (hk : L[k]? = some y) : ∃ g cap, v = .slice (some ⟨g, 0, none⟩) L.length cap ∧ L.length ≤ cap ∧ W.cell? ⟨g, k * 2, none⟩ = some (.int .i64 y.type) ∧ W.cell? ⟨g, k * 2 + 1, none⟩ = some (.string y.value) ∧ ∀ i, W.frozen? ⟨g, i, none⟩ = false := by
  have hlt := (List.getElem?_eq_some_iff.1 hk).1
  rcases h.2 with ⟨_, h0⟩ | ⟨g, cap, cur, rfl, hb, hg, h1, h2, h3, h4⟩
  · omega
  · have hc : ∀ i, i < L.length * 2 → W.cell? ⟨g, i, none⟩ = (rowT L)[i]? := fun i hi => by
      rw [← h4, List.getElem?_take_of_lt hi]
      simp [World.cell?, hg]
    have k0 := rowT_get hk 0 (by omega)
    rw [Nat.add_zero] at k0
    refine ⟨g, cap, rfl, h1, ?_, ?_, fun i => frozen_of_row _ g i _ _ hg⟩
    · rw [hc _ (by omega), k0]
      rfl
    · rw [hc _ (by omega), rowT_get hk 1 (by omega)]
      rfl

theorem BookP.set (h : BookP X W bk base v6 v7 vs Ls) {j : Nat} {x : Value} (hj : vs[j]? = some x) (hk : Kept (fun i => x.ownBlock = some i) W W') {L' : List Tg} (hown : OwnO W' base x L') : BookP X W' bk base v6 v7 vs (Ls.set j L') := by
  obtain ⟨L, hL, hx⟩ := h.f6.at hj
  refine ⟨(hk.block bk h.lt (fun e => ?_)).trans h.blk, rowS_kept h.r6 hk (fun i hi e => ?_), h.f6.set h.a6 hj hk hown, h.a6, h.lo⟩
  · rcases hx.2 with ⟨rfl, _⟩ | ⟨g, cap, cur, rfl, hb, hg, _⟩
    · cases e
    · have : g = bk := by simpa [Value.ownBlock] using e
      subst this
      rw [h.blk] at hg
      simp at hg
  · exact owned_unlike h.r6 hx (by decide) i hi e

/-- The lists as they are marked, the first j of them. -/
def putL (Ls : List (List Tg)) (j : Nat) : List (List Tg) := Ls.mapIdx fun i L => if i < j then marksT i 0 L.length else L
theorem putL_zero (Ls : List (List Tg)) : putL Ls 0 = Ls := by
  apply List.ext_getElem?
  intro i
  simp [putL]
theorem putL_at {j : Nat} {L : List Tg} (h : Ls[j]? = some L) : (putL Ls j)[j]? = some L := by simp [putL, h]
theorem putL_next {j : Nat} {L : List Tg} (h : Ls[j]? = some L) : putL Ls (j + 1) = (putL Ls j).set j (marksT j 0 L.length) := by
  have hlt := (List.getElem?_eq_some_iff.1 h).1
  apply List.ext_getElem?
  intro i
  by_cases hi : i = j
  · subst hi
    rw [List.getElem?_set_self (by simp [putL]; exact hlt)]
    simp [putL, h]
  · rw [List.getElem?_set_ne (fun e => hi e.symm)]
    simp only [putL, List.getElem?_mapIdx]
    congr 1
    funext L
    by_cases h1 : i < j
    · rw [if_pos h1, if_pos (by omega)]
    · rw [if_neg h1, if_neg (by omega)]
theorem set_self {α : Type} {l : List α} {j : Nat} {x : α} (h : l[j]? = some x) : l.set j x = l := by
  apply List.ext_getElem?
  intro i
  by_cases hi : i = j
  · subst hi
    rw [List.getElem?_set_self (List.getElem?_eq_some_iff.1 h).1, h]
  · rw [List.getElem?_set_ne (fun e => hi e.symm)]
theorem mark_step {j k : Nat} {L : List Tg} (h : k < L.length) : (marksT j 0 k ++ L.drop k).set k (markT j k) = marksT j 0 (k + 1) ++ L.drop (k + 1) := by
  rw [List.drop_eq_getElem_cons h, marksT_snoc, Nat.zero_add, List.append_assoc, List.set_append_right _ _ (by rw [marksT_length]; exact Nat.le_refl _), marksT_length, Nat.sub_self]
  rfl
theorem mark_get {j k : Nat} {L : List Tg} (h : k < L.length) : (marksT j 0 k ++ L.drop k)[k]? = some L[k] := by
  rw [List.getElem?_append_right (by rw [marksT_length]; exact Nat.le_refl _), marksT_length, Nat.sub_self]
  simp [h]

/-- What the inner loop has come to. -/
structure PutIn (X : Nat → Value) (W wr : World) (bk base : Nat) (v6 v7 : Value) (vs : List Value) (M : List (List Tg)) (j k : Nat) (L : List Tg) (vm : Value) : Prop where
  bp : BookP X wr bk base v6 v7 vs (M.set j (marksT j 0 k ++ L.drop k))
  own : OwnO wr base vm (marksT j 0 L.length)
  bel : BK tsK base W wr
  sz : base ≤ wr.heap.size

theorem PutIn.step {wr : World} {M : List (List Tg)} {j k : Nat} {L : List Tg} {vm : Value} {gx cx : Nat} (h : PutIn X W wr bk base v6 v7 vs M j k L vm) (hM : j < M.length) (hk : k < L.length) (hx : vs[j]? = some (.slice (some ⟨gx, 0, none⟩) L.length cx)) (hfar : ¬ Shares (.slice (some ⟨gx, 0, none⟩) L.length cx) vm) :
    PutIn X W ((wr.setCell ⟨gx, k * 2, none⟩ (.int .i64 (markT j k).type)).setCell ⟨gx, k * 2 + 1, none⟩ (.string (markT j k).value)).drew bk base v6 v7 vs M j (k + 1) L vm := by
  have ho := h.bp.f6.own j _ (marksT j 0 k ++ L.drop k) hx (by rw [List.getElem?_set_self hM])
  have hlen : (marksT j 0 k ++ L.drop k).length = L.length := by rw [List.length_append, marksT_length, List.length_drop]; omega
  have ho1 := own_set ho (k := k) (by omega) (markT j k)
  rw [mark_step hk] at ho1
  have ho2 := ho1.kept ((Kept.refl (fun _ => False) _).drew)
  have hk2 : Kept (fun i => (Value.slice (some ⟨gx, 0, none⟩) L.length cx).ownBlock = some i) wr ((wr.setCell ⟨gx, k * 2, none⟩ (.int .i64 (markT j k).type)).setCell ⟨gx, k * 2 + 1, none⟩ (.string (markT j k).value)).drew :=
    (((Kept.refl (fun i => (Value.slice (some ⟨gx, 0, none⟩) L.length cx).ownBlock = some i) wr).setCell (p := ⟨gx, k * 2, none⟩) (Or.inr rfl) _).setCell (p := ⟨gx, k * 2 + 1, none⟩) (Or.inr rfl) _).drew
  refine ⟨?_, own_kept h.own hk2 (fun i hi e => hfar ⟨i, e, hi⟩), h.bel.trans (BK.own hk2 ho (Or.inl rfl) h.sz), Nat.le_trans h.sz hk2.size⟩
  have := h.bp.set hx hk2 ho2
  rw [List.set_set] at this
  exact this

set_option maxHeartbeats 4000000 in
set_option maxRecDepth 100000 in
theorem put_Options (h : BookP X W bk base v6 v7 vs Ls) (hb : base ≤ W.heap.size) (hsm : ∀ L ∈ Ls, L.length ≤ 1000) (h250 : vs.length ≤ 250) :
    Calls Tryz.prog 64 #[.pointer (some ⟨bk, 0, none⟩)] W fun e w' => e = .returned (.tuple #[]) ∧ BookP X w' bk base v6 v7 vs (putL Ls vs.length) ∧ BK tsK base W w' := by
  obtain ⟨p, cap, rfl⟩ := rowS_slice h.r6
  have HL := hid h.f6.len
  have Hsm := hid hsm
  have H0 := hid h
  clear h hsm
  go_enter Tryz.func64, Tryz.ntmps64
  go_wp2
  go_loopw [2] (fun vi wr => ∃ j : Nat, j ≤ vs.length ∧ vi = .int .i64 (j : Int) ∧ Hid (BookP X wr bk base (.slice p vs.length cap) v7 vs (putL Ls j) ∧ BK tsK base W wr ∧ base ≤ wr.heap.size)) (fun vi _ => vs.length - (intOf vi).toNat)
  case atStart => exact ⟨0, Nat.zero_le _, rfl, by rw [putL_zero]; exact H0.out, BK.refl _ _ _, hb⟩
  case round =>
    obtain ⟨j, hj, rfl, HI⟩ := hrel
    have d6 := HI.out.1.c6
    clear H0
    by_cases hlt : j < vs.length
    · have hltz : (j : Int) < (vs.length : Int) := by omega
      obtain ⟨x, hx⟩ : ∃ x, vs[j]? = some x := ⟨vs[j], by simp [hlt]⟩
      obtain ⟨L, hL⟩ : ∃ L, Ls[j]? = some L := ⟨Ls[j]'(by have := HL.out; omega), by simp⟩
      obtain ⟨g6, rfl, hc6, e6⟩ := rowS_at HI.out.1.r6 hx
      have hox := HI.out.1.f6.own j x L hx (putL_at hL)
      obtain ⟨px, cx, rfl⟩ := slice_of hox
      have hLs := Hsm.out L (List.mem_of_getElem? hL)
      have HM := hid (markOptions_any j 0 L.length (by omega) (by omega) (by omega))
      have hx0 := hid hx
      have hL0 := hid hL
      have HO := hid hox
      clear hx hL hox
      go_wp2_with fail
      refine (HM.out _).mono ?_
      rintro e1 w1 ⟨vm, rfl, hom, hk1⟩
      have hfar : Hid (¬ Shares (.slice px L.length cx) vm) := fun ⟨g, g1, g2⟩ => by
        have h1 := (own_lt HO.out g1).2
        have h2 := (own_lt hom g2).1
        omega
      have PI0 : Hid (PutIn X W w1 bk base (.slice (some ⟨g6, 0, none⟩) vs.length cap) v7 vs (putL Ls j) j 0 L vm) := by
        refine ⟨?_, hom.mono (Nat.le_trans HI.out.2.2 (Nat.le_refl _)), HI.out.2.1.trans (BK.none hk1 HI.out.2.2), Nat.le_trans HI.out.2.2 hk1.size⟩
        show BookP X w1 bk base _ v7 vs ((putL Ls j).set j L)
        rw [set_self (putL_at hL0.out)]
        exact HI.out.1.kept0 hk1
      have hML : Hid (j < (putL Ls j).length) := by
        show _ < _
        rw [← HI.out.1.f6.len]
        exact hlt
      obtain ⟨pm, cm, rfl⟩ := slice_of hom
      rw [marksT_length] at PI0 hfar
      rw [marksT_length]
      clear hk1 hom HI d6 e6 HO
      go_wp2
      go_loopw [4] (fun vk wr => ∃ k : Nat, k ≤ L.length ∧ vk = .int .i64 (k : Int) ∧ Hid (PutIn X W wr bk base (.slice (some ⟨g6, 0, none⟩) vs.length cap) v7 vs (putL Ls j) j k L (.slice pm L.length cm))) (fun vk _ => L.length - (intOf vk).toNat)
      case atStart => exact ⟨0, Nat.zero_le _, rfl, PI0.out⟩
      case round =>
        obtain ⟨k, hk, rfl, HI⟩ := hrel
        clear PI0
        by_cases hklt : k < L.length
        · have hkz : (k : Int) < (L.length : Int) := by omega
          have d6 := HI.out.bp.c6
          obtain ⟨g6', e6', hc6', e6⟩ := rowS_at HI.out.bp.r6 hx0.out
          have hoc := HI.out.bp.f6.own j _ _ hx0.out (by rw [List.getElem?_set_self hML.out])
          obtain ⟨gx, cx', ex, hxc, t0, t1, tf⟩ := own_at hoc (mark_get hklt)
          obtain ⟨gm, cm', em, hmc, m0, m1, mf⟩ := own_at HI.out.own (marksT_get hklt)
          have hlen : (marksT j 0 k ++ L.drop k).length = L.length := by rw [List.length_append, marksT_length, List.length_drop]; omega
          rw [hlen] at ex hxc
          rw [marksT_length] at hmc em
          simp only [Option.some.injEq, Addr.mk.injEq, and_true] at e6'
          simp only [Value.slice.injEq, true_and] at ex em
          obtain ⟨rfl, rfl⟩ := ex
          obtain ⟨rfl, rfl⟩ := em
          subst e6'
          rw [Nat.zero_add] at m0 m1
          have R := hid (HI.out.step hML.out hklt hx0.out hfar.out)
          have tf0 := tf (k * 2)
          have tf1 := tf (k * 2 + 1)
          obtain ⟨mt, hmt⟩ : ∃ mt, mt = (markT j k).type := ⟨_, rfl⟩
          obtain ⟨mv, hmv⟩ : ∃ mv, mv = (markT j k).value := ⟨_, rfl⟩
          rw [← hmt] at m0 R
          rw [← hmv] at m1 R
          clear HI hoc hlen mf tf hmt hmv
          go_wp2
          go_region
          all_goals
            go_wp2
            exact ⟨⟨k + 1, hklt, by go_num, R.out⟩, by simp [intOf]; omega⟩
        · obtain rfl : k = L.length := by omega
          have hkz : ¬ (L.length : Int) < (L.length : Int) := by omega
          have R : Hid (BookP X wr bk base (.slice (some ⟨g6, 0, none⟩) vs.length cap) v7 vs (putL Ls (j + 1)) ∧ BK tsK base W wr ∧ base ≤ wr.heap.size) := by
            obtain ⟨q1, q2, q3, q4⟩ := HI.out
            rw [List.drop_of_length_le (Nat.le_refl _), List.append_nil, ← putL_next hL0.out] at q1
            exact ⟨q1, q3, q4⟩
          clear HI
          go_wp2
          exact ⟨⟨j + 1, hlt, by go_num, R.out⟩, by simp [intOf]; omega⟩
    · obtain rfl : j = vs.length := by omega
      have hltz : ¬ (vs.length : Int) < (vs.length : Int) := by omega
      go_wp2
      go_end0
      exact ⟨rfl, HI.out.1, HI.out.2.1⟩
end
end Go.Proofs.YtndpfcanfcbldaaGreatDoor
