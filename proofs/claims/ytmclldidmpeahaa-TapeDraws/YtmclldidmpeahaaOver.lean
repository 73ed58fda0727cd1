/- The contract of Clock.over, where at most two timers are over: their keys, by their times, then by their turns. -/
import Derived.Test.YtmclldidmpeahaaOverKit
import Derived.OwnWalk
namespace Go.Proofs.Ytmclldidmpeahaa
open Go.RowKit

/-- Is y told ahead of x? -/
def Ahead (y x : Tm) : Prop := y.time < x.time ∨ (y.time = x.time ∧ y.turn < x.turn)
def InOrder (S : List Tm) : Prop := S.Pairwise (fun x y => ¬ Ahead y x)

theorem ord_ahead (y x : Tm) : ordT (some y) (some x) < 0 ↔ Ahead y x := by
  unfold ordT orI cmpI Ahead timeOf turnOf
  by_cases h1 : y.time < x.time
  · simp [h1]
  · by_cases h2 : x.time < y.time
    · have : y.time ≠ x.time := by omega
      simp [h1, h2, this]
    · have e : y.time = x.time := by omega
      by_cases h3 : y.turn < x.turn
      · simp [e, h3]
      · by_cases h4 : x.turn < y.turn
        · simp [e, h3, h4]
        · simp [e, h3, h4]

/-- Timers whose keys are ints. -/
def Ints (ts : List Tm) : Prop := ∀ t ∈ ts, In64 t.kind ∧ In64 t.id

/-- What the loop has come to. -/
def Coll (w wr : World) (b mb : Nat) (now turns : Int) (ts C Ns : List Tm) (v : Value) : Prop :=
  Ranging wr Try.prog 38 mb w.heap.size (ts.map tmV) (Ns.map tmV) ∧ wr.ownsRow (w.heap.size + 1) 38 2 v C.length (keyCells C) ∧ (C ++ Ns.filter (overT now)).Perm (ts.filter (overT now)) ∧ C.length + Ns.length ≤ ts.length ∧
    IsClock wr b (some mb) now turns ts ∧ Kept (fun _ => False) w wr ∧ w.heap.size + 1 ≤ wr.heap.size

theorem row_ne {w : World} {r base n : Nat} {e : TypeId} {sz : Nat} {v : Value} {xs : List Value} (hr : r < base) (h : w.ownsRow base e sz v n xs) : v.ownBlock ≠ some r := by
  intro e1
  have := (h.lt r e1).1
  omega

theorem cells_two_new (w : World) (x y : Value) (t : TypeId) : ∀ (j : Nat) (u : Value), [x, y][j]? = some u → (w.alloc (.cells #[x, y] t)).cell? ((⟨w.heap.size, 0, none⟩ : Addr).add j) = some u := by
  intro j u h
  have ha : (⟨w.heap.size, 0, none⟩ : Addr).add j = ⟨w.heap.size, j, none⟩ := by
    unfold Addr.add
    split <;> simp_all
  rw [ha, World.cell?_alloc_new]
  simpa using h

theorem slice_of {w : World} {base n : Nat} {e : TypeId} {sz : Nat} {v : Value} {xs : List Value} (h : w.ownsRow base e sz v n xs) : ∃ p cap, v = .slice p n cap := by
  rcases h.2 with ⟨rfl, rfl⟩ | ⟨g, cap, cur, rfl, _⟩
  · exact ⟨none, 0, rfl⟩
  · exact ⟨_, cap, rfl⟩

theorem row_two {w : World} {base : Nat} {v : Value} {t0 t1 : Tm} (h : w.ownsRow base 38 2 v [t0, t1].length (keyCells [t0, t1])) :
    ∃ g cap, v = .slice (some ⟨g, 0, none⟩) 2 cap ∧ Row2 w g t0.kind t0.id t1.kind t1.id ∧ (∀ i, w.frozen? ⟨g, i, none⟩ = false) ∧
      ∀ w', Shape g w w' → ∀ a b c d : Int, Row2 w' g a b c d → w'.ownsRow base 38 2 (.slice (some ⟨g, 0, none⟩) 2 cap) 2 [.int .i64 a, .int .i64 b, .int .i64 c, .int .i64 d] := by
  rcases h.2 with ⟨_, h0⟩ | ⟨g, cap, cur, rfl, hb, hh, hn, hm, hs, ht⟩
  · simp at h0
  · have ht' : cur.toList.take 4 = [.int .i64 t0.kind, .int .i64 t0.id, .int .i64 t1.kind, .int .i64 t1.id] := by simpa [keyCells] using ht
    have hc : ∀ j, j < 4 → w.cell? ⟨g, j, none⟩ = ([.int .i64 t0.kind, .int .i64 t0.id, .int .i64 t1.kind, .int .i64 t1.id] : List Value)[j]? := fun j hj => by
      rw [← ht', List.getElem?_take_of_lt hj]
      simp [World.cell?, hh]
    have hn' : 2 ≤ cap := by simpa using hn
    refine ⟨g, cap, rfl, ⟨hc 0 (by omega), hc 1 (by omega), hc 2 (by omega), hc 3 (by omega)⟩, fun i => by simp [World.frozen?, hh], ?_⟩
    intro w' hS a b c d hR
    obtain ⟨cur', hh', hs'⟩ := hS _ _ _ hh
    obtain ⟨r0, r1, r2, r3⟩ := hR
    simp only [World.cell?, hh'] at r0 r1 r2 r3
    refine ⟨rfl, Or.inr ⟨g, cap, cur', rfl, hb, hh', hn', hm, by rw [hs', hs], ?_⟩⟩
    have hsz : 4 ≤ cur'.toList.length := by simp; omega
    have r0' : cur'.toList[0]? = some (.int .i64 a) := by simpa using r0
    have r1' : cur'.toList[1]? = some (.int .i64 b) := by simpa using r1
    have r2' : cur'.toList[2]? = some (.int .i64 c) := by simpa using r2
    have r3' : cur'.toList[3]? = some (.int .i64 d) := by simpa using r3
    generalize cur'.toList = l at *
    match l, hsz with
    | x0 :: x1 :: x2 :: x3 :: _, _ => simp at r0' r1' r2' r3'; simp [r0', r1', r2', r3']

/-- Behind the two boxes of a round. -/
def Third (w w2 w3 : World) (mb : Nat) (ts Ms C : List Tm) (v : Value) (t : Tm) : Prop :=
  w3.cell? ⟨w2.heap.size, 0, none⟩ = some (.int .i64 t.kind) ∧ w3.cell? ⟨w2.heap.size, 1, none⟩ = some (.int .i64 t.id) ∧ Kept (fun _ => False) w w3 ∧ Ranging w3 Try.prog 38 mb w.heap.size (ts.map tmV) (Ms.map tmV) ∧
    w3.ownsRow (w.heap.size + 1) 38 2 v C.length (keyCells C) ∧ w.heap.size + 1 ≤ w3.heap.size

theorem third {w w2 : World} {mb : Nat} {ts Ms C : List Tm} {v : Value} {t : Tm} (hk2 : Kept (fun _ => False) w w2) (hrg2 : Ranging w2 Try.prog 38 mb w.heap.size (ts.map tmV) (Ms.map tmV))
    (hrow2 : w2.ownsRow (w.heap.size + 1) 38 2 v C.length (keyCells C)) (hm : w.heap.size + 1 ≤ w2.heap.size) (nq : Nat) (w3 : World) (h3 : w3 = ((w2.alloc (.cells #[.int .i64 t.kind, .int .i64 t.id] 38)).alloc (.cells #[.int .i64 t.time, .int .i64 t.turn] 58)).drewN nq) : Third w w2 w3 mb ts Ms C v t := by
  subst h3
  have g1 : w2.grownBy ((w2.alloc (.cells #[.int .i64 t.kind, .int .i64 t.id] 38)).alloc (.cells #[.int .i64 t.time, .int .i64 t.turn] 58)) none := (World.grownBy_alloc w2 _ none).trans (World.grownBy_alloc _ _ none)
  refine ⟨?_, ?_, (((hk2.alloc _).alloc _).drewN nq), (hrg2.kept g1 (by simp) (by simp)).same rfl rfl, ?_, ?_⟩
  · show ((w2.alloc (.cells #[.int .i64 t.kind, .int .i64 t.id] 38)).alloc (.cells #[.int .i64 t.time, .int .i64 t.turn] 58)).cell? ⟨w2.heap.size, 0, none⟩ = _
    rw [World.cell?_alloc_lt _ _ _ (by simp)]
    simp
  · show ((w2.alloc (.cells #[.int .i64 t.kind, .int .i64 t.id] 38)).alloc (.cells #[.int .i64 t.time, .int .i64 t.turn] 58)).cell? ⟨w2.heap.size, 1, none⟩ = _
    rw [World.cell?_alloc_lt _ _ _ (by simp)]
    simp
  · exact (hrow2.alloc _).alloc _
  · show w.heap.size + 1 ≤ ((w2.alloc _).alloc _).heap.size
    simp
    omega

theorem coll_step {w w3 w4 : World} {b mb : Nat} {now turns : Int} {ts Ms Ns C : List Tm} {v v' : Value} {t : Tm} {o : Obj} (hfl : (Ns.filter (overT now)).Perm (t :: Ms.filter (overT now))) (hp : (C ++ Ns.filter (overT now)).Perm (ts.filter (overT now))) (hle : C.length + Ns.length ≤ ts.length) (hpN : Ns.Perm (t :: Ms)) (Hc : Hid (IsClock w b (some mb) now turns ts))
    (hk3 : Kept (fun _ => False) w w3) (hrg3 : Ranging w3 Try.prog 38 mb w.heap.size (ts.map tmV) (Ms.map tmV)) (hrow3 : w3.ownsRow (w.heap.size + 1) 38 2 v C.length (keyCells C)) (hm3 : w.heap.size + 1 ≤ w3.heap.size)
    (hown' : w4.ownsRow (w.heap.size + 1) 38 2 v' (C.length + 1) (keyCells C ++ [.int .i64 t.kind, .int .i64 t.id])) (hgrow : (w3.alloc o).grownBy w4 v.ownBlock) : Coll w w4 b mb now turns ts (C ++ [t]) Ms v' := by
  have hk4 : Kept (fun _ => False) w w4 := (hk3.alloc o).grown hgrow (fun j hj => Or.inl (by have := ((hrow3.alloc o).lt j hj).1; omega))
  have hne : ∀ j, j < w.heap.size + 1 → some j ≠ v.ownBlock := fun j hj e => by have := (hrow3.lt j e.symm).1; omega
  have hmb : mb < w.heap.size := by have h1 : IsClock w b (some mb) now turns ts := Hc; exact h1.ts.lt
  refine ⟨(hrg3.kept (World.grownBy_alloc w3 o none) (by simp) (by simp)).kept hgrow (hne mb (by omega)) (hne w.heap.size (by omega)), ?_, ?_, ?_, ?_, hk4, ?_⟩
  · rw [keyCells_snoc, List.length_append]
    exact hown'
  · rw [List.append_assoc]
    exact (List.Perm.append_left C hfl.symm).trans hp
  · rw [hpN.length_eq] at hle
    simp at hle ⊢
    omega
  · have h1 : IsClock w b (some mb) now turns ts := Hc
    exact h1.kept hk4 (fun _ _ => id)
  · have := hgrow.size
    simp at this
    omega

set_option maxHeartbeats 2000000 in
set_option maxRecDepth 100000 in
theorem over_any (b mb : Nat) (now turns : Int) (ts : List Tm) (hI : Ints ts) (hl : ts.length ≤ 1000) (h2 : (ts.filter (overT now)).length ≤ 2) (w : World) (hc : IsClock w b (some mb) now turns ts) :
    Calls Try.prog 28 #[.pointer (some ⟨b, 0, none⟩)] w fun e w' => ∃ v S, e = .returned v ∧ S.Perm (ts.filter (overT now)) ∧ InOrder S ∧ w'.ownsRow (w.heap.size + 1) 38 2 v S.length (keyCells S) ∧ Kept (fun _ => False) w w' := by
  have hlt := hc.lt
  obtain ⟨i0, hi, hz0, hz1, hz2⟩ := info_parts infoKey
  have c2 := hc.c2
  have hown : Assoc w Try.prog 38 mb (ts.map tmV) := hc.ts
  have Hc : Hid (IsClock w b (some mb) now turns ts) := hc
  clear hc
  go_enter Try.func28, Try.ntmps28
  go_wp2_with (first | (at_range; refine wpList_range_assoc _ rfl _ 60 rfl 38 58 Try.underlying60 mb _ rfl hown ?_; intro w0 hrg0 hg0 hs0) | go_in)
  have hk0 : Kept (fun _ => False) w w0 := (Kept.refl _ w).grown hg0 (fun j hj => by cases hj)
  have hst : Coll w w0 b mb now turns ts [] ts (.slice none 0 0) := ⟨hrg0, World.ownsRow_nil _ _ _ _, by simp, by simp, Hc.kept hk0 (fun _ _ => id), hk0, by omega⟩
  clear hrg0 hg0 hs0 hown
  go_frame
  go_loopw [3, 4, 5] (fun v _ _ wr => ∃ C Ns, Coll w wr b mb now turns ts C Ns v) (fun _ _ _ wr => wr.rangeLeft mb w.heap.size)
  case atStart => exact ⟨[], ts, hst⟩
  case round =>
    obtain ⟨C, Ns, hrg, hrow, hp, hle, hcl, hk, hsz⟩ := hrel
    go_wp2_with (first | (at_next; refine wpList_next_ranging _ rfl _ rfl 38 mb w.heap.size ts Ns rfl hrg ?_ ?_) | go_in)
    · intro hN
      subst hN
      have hpC : C.Perm (ts.filter (overT now)) := by simpa using hp
      have hC2 : C.length ≤ 2 := by rw [hpC.length_eq]; exact h2
      have hCts : ∀ t ∈ C, t ∈ ts := fun t ht => (List.mem_filter.1 (hpC.mem_iff.1 ht)).1
      clear hrg hp hle h2
      have hCl : Hid (IsClock wr b (some mb) now turns ts) := hcl
      clear hcl
      match C, hpC, hrow, hC2, hCts with
      | [], hpC, hrow, _, _ =>
        obtain ⟨p, cap, rfl⟩ := slice_of hrow
        go_wp2_with (go_at_call 31; refine (sort_0 _ _ _ _).mono ?_; rintro e w' ⟨rfl, rfl⟩)
        go_ret
        exact ⟨_, [], rfl, hpC, List.Pairwise.nil, hrow, hk⟩
      | [t], hpC, hrow, _, _ =>
        obtain ⟨p, cap, rfl⟩ := slice_of hrow
        go_wp2_with (go_at_call 31; refine (sort_1 _ _ _ _).mono ?_; rintro e w' ⟨rfl, rfl⟩)
        go_ret
        exact ⟨_, [t], rfl, hpC, by simp [InOrder], hrow, hk⟩
      | [t0, t1], hpC, hrow, _, hCts =>
        obtain ⟨g, cap, rfl, hR, hF, hback⟩ := row_two hrow
        have hm0 := hCts t0 (by simp)
        have hm1 := hCts t1 (by simp)
        have hA := apart_of_assoc (w := wr) (b := mb) (ts := ts) hCl.out.ts
        have f0 := find_of_mem hA hm0 (k := t0.kind) (i := t0.id) rfl rfl
        have f1 := find_of_mem hA hm1 (k := t1.kind) (i := t1.id) rfl rfl
        have hs2 : Hid (∀ cap, Calls Try.prog 31 #[.slice (some ⟨g, 0, none⟩) 2 cap, .func (.func 32) #[.pointer (some ⟨b, 0, none⟩)] #[]] wr fun e w' => e = .returned (.tuple #[]) ∧ Sorted2 w' g (swaps ts t0.kind t0.id t1.kind t1.id) t0.kind t0.id t1.kind t1.id ∧ KeptRow g wr w') :=
          fun cap => sort_2 g b cap (some mb) now turns ts t0.kind t0.id t1.kind t1.id (hI t0 hm0).1 (hI t0 hm0).2 (hI t1 hm1).1 (hI t1 hm1).2 wr hCl.out hR hF
        have hgw : w.heap.size + 1 ≤ g := (hrow.lt g rfl).1
        have hsw : swaps ts t0.kind t0.id t1.kind t1.id = decide (ordT (some t1) (some t0) < 0) := by unfold swaps; rw [f0, f1]
        clear f0 f1 hA hF
        go_wp2_with (go_at_call 31; refine (hs2.out _).mono ?_; rintro e w' ⟨rfl, hS, hKR⟩)
        go_ret
        have hkw : Kept (fun _ => False) w w' := hk.andThen hKR.1 (fun i hi e => by omega)
        rw [hsw] at hS
        by_cases ho : ordT (some t1) (some t0) < 0
        · simp only [ho, decide_true, Sorted2, if_true] at hS
          exact ⟨_, [t1, t0], rfl, (List.Perm.swap t0 t1 []).trans hpC, by
            have : ¬ Ahead t0 t1 := fun h => by
              have h1 := (ord_ahead t1 t0).1 ho
              unfold Ahead at h h1
              omega
            simp [InOrder, this], hback w' hKR.2 _ _ _ _ hS, hkw⟩
        · simp only [ho, decide_false, Sorted2, Bool.false_eq_true, if_false] at hS
          exact ⟨_, [t0, t1], rfl, hpC, by
            have : ¬ Ahead t1 t0 := fun h => ho ((ord_ahead t1 t0).2 h)
            simp [InOrder, this], hback w' hKR.2 _ _ _ _ hS, hkw⟩
    · intro t Ms w2 hpN hrg2 hg2 hs2 hen
      have hk2 : Kept (fun _ => False) w w2 := hk.grown hg2 (fun j hj => by cases hj; exact Or.inl (Nat.le_refl _))
      have hcl2 := Hc.kept hk2 (fun _ _ => id)
      have d0 := fun o o' => ((hcl2.grew o).grew o').c0
      have hrow2 := hrow.kept hg2 (Or.inr (row_ne (Nat.lt_succ_self _) hrow))
      have hm : w.heap.size + 1 ≤ w2.heap.size := by omega
      have hmeas : Ms.length < Ns.length := by rw [hpN.length_eq]; simp
      have hML := hrg.left_eq
      have HML : Hid (wr.rangeLeft mb w.heap.size = (Ns.map tmV).length) := hML
      clear hs2 hML
      by_cases ho : t.time ≤ now
      · have hfl : (Ns.filter (overT now)).Perm (t :: Ms.filter (overT now)) := by
          have := hpN.filter (overT now)
          rwa [List.filter_cons, if_pos (by simp [overT, ho])] at this
        go_wp2
        go_quiet (fail)
        have K3 : ∀ w3, w3 = ((w2.alloc (.cells #[.int .i64 t.kind, .int .i64 t.id] 38)).alloc (.cells #[.int .i64 t.time, .int .i64 t.turn] 58)).drewN nq → Third w w2 w3 mb ts Ms C u3 t := third hk2 hrg2 hrow2 hm nq
        generalize ((w2.alloc (.cells #[.int .i64 t.kind, .int .i64 t.id] 38)).alloc (.cells #[.int .i64 t.time, .int .i64 t.turn] 58)).drewN nq = w3 at *
        obtain ⟨q0, q1, hk3, hrg3, hrow3, hm3⟩ := K3 w3 rfl
        clear K3 d0
        go_wp2_with (at_builtin; refine wpList_append_own _ rfl _ _ 45 rfl (w.heap.size + 1) 38 i0 (.agg #[.int .i64 0, .int .i64 0]) 2 16 Try.underlying45 hi hz0 hz1 hz2 rfl (by decide) _ _ _ rfl (hrow3.alloc _) ⟨w3.heap.size, 0, none⟩ 1 1 [.int .i64 t.kind, .int .i64 t.id] rfl rfl ?c1 ?c2 ?c3 ?c4 ?c5 ?_)
        case c1 => exact cells_two_new _ _ _ _
        case c2 => intro u hu; simp at hu; rcases hu with rfl | rfl <;> rfl
        case c3 => unfold maxLen; omega
        case c4 => omega
        case c5 => simp; omega
        intro v' w4 hown' hgrow _
        have R := coll_step hfl hp hle hpN Hc hk3 hrg3 hrow3 hm3 hown' hgrow
        have ML := R.1.left_eq
        have hML : wr.rangeLeft mb w.heap.size = (Ns.map tmV).length := HML
        clear hown' hgrow hrow3 hrow2 hrow
        go_wp2
        go_roundw
        case rel => exact ⟨_, _, R⟩
        case measure => rw [ML, hML]; simpa using hmeas
      · have hfl : (Ns.filter (overT now)).Perm (Ms.filter (overT now)) := by
          have := hpN.filter (overT now)
          rwa [List.filter_cons, if_neg (by simp [overT, ho])] at this
        go_wp2
        go_quiet (fail)
        have K3 : ∀ w3, w3 = ((w2.alloc (.cells #[.int .i64 t.kind, .int .i64 t.id] 38)).alloc (.cells #[.int .i64 t.time, .int .i64 t.turn] 58)).drewN nq → Third w w2 w3 mb ts Ms C u3 t := third hk2 hrg2 hrow2 hm nq
        generalize ((w2.alloc (.cells #[.int .i64 t.kind, .int .i64 t.id] 38)).alloc (.cells #[.int .i64 t.time, .int .i64 t.turn] 58)).drewN nq = w3 at *
        obtain ⟨q0, q1, hk3, hrg3, hrow3, hm3⟩ := K3 w3 rfl
        have R : Coll w w3 b mb now turns ts C Ms u3 := ⟨hrg3, hrow3, (List.Perm.append_left C hfl.symm).trans hp, by rw [hpN.length_eq] at hle; simp at hle; omega, Hc.kept hk3 (fun _ _ => id), hk3, hm3⟩
        have ML := R.1.left_eq
        have hML : wr.rangeLeft mb w.heap.size = (Ns.map tmV).length := HML
        clear K3 d0
        go_wp2
        go_roundw
        case rel => exact ⟨_, _, R⟩
        case measure => rw [ML, hML]; simpa using hmeas
end Go.Proofs.Ytmclldidmpeahaa
