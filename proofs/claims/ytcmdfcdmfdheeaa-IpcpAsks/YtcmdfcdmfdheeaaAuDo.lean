/- The contracts of slices.Contains, reckon and Do. -/
import Derived.Test.YtcmdfcdmfdheeaaAuMem
namespace Go.Proofs.Ytcmdfcdmfdheeaa
open Go.RowKit

/-- How a list of the call's own is read. -/
theorem OwnI.form {w : World} {base : Nat} {v : Value} {l : List Int} (h : OwnI w base v l) : ∃ p cap, v = .slice p l.length cap ∧ ∀ (j : Nat) (x : Int), l[j]? = some x → ∃ g, p = some ⟨g, 0, none⟩ ∧ l.length ≤ cap ∧ w.cell? ⟨g, j, none⟩ = some (.int .i64 x) := by
  rcases h.2 with ⟨rfl, h0⟩ | ⟨g, cap, cur, rfl, hb, hg, h1, h2, h3, h4⟩
  · refine ⟨none, 0, by rw [h0], fun j x hj => ?_⟩
    have := (List.getElem?_eq_some_iff.1 hj).1
    omega
  · refine ⟨_, cap, rfl, fun j x hj => ⟨g, rfl, h1, ?_⟩⟩
    have hlt := (List.getElem?_eq_some_iff.1 hj).1
    have e1 : (intCells l)[j]? = some (.int .i64 x) := by unfold intCells; rw [List.getElem?_map, hj]; rfl
    rw [← h4, List.getElem?_take_of_lt (by omega)] at e1
    rw [← e1]
    simp [World.cell?, hg]

/-- k tells whether y is in l. -/
def Tells (k : Int) (l : List Int) (y : Int) : Prop := decide (0 ≤ k) = hasF l y

set_option maxHeartbeats 1000000 in
set_option maxRecDepth 100000 in
theorem index_any (v : Value) (l : List Int) (y : Int) (base : Nat) (hl : l.length ≤ 1000) (w : World) (h : OwnI w base v l) : Calls Try.prog 80 #[v, .int .i64 y] w fun e w' => ∃ k : Int, e = .returned (.int .i64 k) ∧ Tells k l y ∧ w' = w := by
  obtain ⟨p, cap, rfl, hc⟩ := h.form
  have HC := hid hc
  clear hc h
  go_enter Try.func80, Try.ntmps80
  go_wp2
  go_loopw [8] (fun vi wr => ∃ j : Nat, j ≤ l.length ∧ vi = .int .i64 (j : Int) ∧ Hid (∀ x ∈ l.take j, x ≠ y) ∧ wr = w) (fun vi _ => l.length - (intOf vi).toNat)
  case atStart => exact ⟨0, Nat.zero_le _, rfl, fun x hx => by simp at hx, rfl⟩
  case round =>
    obtain ⟨j, hj, rfl, HI, rfl⟩ := hrel
    by_cases hlt : j < l.length
    · have hltz : (j : Int) < (l.length : Int) := by omega
      obtain ⟨x, hx⟩ : ∃ x, l[j]? = some x := ⟨l[j], by simp [hlt]⟩
      obtain ⟨g, rfl, hcap, hcell⟩ := HC.out j x hx
      have HX := hid hx
      clear hx
      by_cases hxy : y = x
      · have e : (y == x) = true := by simpa using hxy
        have R : Hid (Tells (j : Int) l y) := by
          show _ = _
          unfold hasF
          rw [List.contains_iff_mem.2 (by rw [hxy]; exact List.mem_of_getElem? HX.out)]
          simp
        clear hxy HI
        go_wp2
        go_ret
        exact ⟨(j : Int), rfl, R.out, rfl⟩
      · have e : (y == x) = false := by simpa using hxy
        have R : Hid (∀ x ∈ l.take (j + 1), x ≠ y) := fun z hz => by
          rw [List.take_add_one, HX.out] at hz
          rcases List.mem_append.1 hz with hz | hz
          · exact HI.out z hz
          · simp at hz
            rw [hz]
            exact fun e => hxy e.symm
        clear hxy HI
        go_wp2
        exact ⟨⟨j + 1, hlt, by go_num, R.out, trivial⟩, by simp [intOf]; omega⟩
    · obtain rfl : j = l.length := by omega
      have hltz : ¬ (l.length : Int) < (l.length : Int) := by omega
      have R : Hid (Tells (-1) l y) := by
        show _ = _
        unfold hasF
        have : l.contains y = false := by
          rw [Bool.eq_false_iff]
          intro h
          have h1 := List.contains_iff_mem.1 h
          exact HI.out y (by rw [List.take_length]; exact h1) rfl
        rw [this]
        rfl
      clear HI
      go_wp2
      go_ret
      exact ⟨-1, rfl, R.out, rfl⟩

set_option maxRecDepth 100000 in
theorem contains_any (v : Value) (l : List Int) (y : Int) (base : Nat) (hl : l.length ≤ 1000) (w : World) (h : OwnI w base v l) : Calls Try.prog 75 #[v, .int .i64 y] w fun e w' => e = .returned (.bool (hasF l y)) ∧ w' = w := by
  have HX := hid (index_any v l y base hl w h)
  clear h
  go_enter Try.func75, Try.ntmps75
  go_wp2_with (go_at_call 80; refine HX.out.mono ?_; rintro e w' ⟨k, rfl, hk, rfl⟩)
  go_ret
  exact ⟨by rw [← show decide (0 ≤ k) = hasF l y from hk]; rfl, rfl⟩

theorem kept_set (w : World) (b i : Nat) (u : Value) : Kept (fun k => k = b) w (w.setCell ⟨b, i, none⟩ u) := (Kept.refl (fun k => k = b) w).setCell (p := ⟨b, i, none⟩) (Or.inr (by rfl)) u

set_option maxHeartbeats 1000000 in
set_option maxRecDepth 100000 in
theorem reckon_any (b : Nat) (c : Au) (hg : GoodA c) (x : Int) (v : Value) (l : List Int) (base : Nat) (hl : l.length ≤ 1000) (w : World) (h : AutoIn w b c) (ho : OwnI w base v l) :
    Calls Try.prog 66 #[.pointer (some ⟨b, 0, none⟩), .int .i64 x, v] w fun e w' => e = .returned (.tuple #[]) ∧ AutoIn w' b ⟨c.cf, c.tm, c.st, reckonF c.cf c.tm l x c.ct⟩ ∧ Kept (fun i => i = b) w w' := by
  have c0 := h.c0
  have c1 := h.c1
  have c3 := h.c3
  have f3 := h.fz 3
  have H := hid h
  have HO := hid ho
  have hc1 := hg.ct1
  have hc2 := hg.ct2
  by_cases h4 : x = 4
  · have HC := hid (contains_any v l 9 base hl (w.setCell ⟨b, 3, none⟩ (.int .i64 c.cf)) (h.own ho (kept_set w b 3 _)))
    have d1 := (h.set3 c.cf).c1
    have d3 := (h.set3 c.cf).fz 3
    simp only at d1
    have hR : reckonF c.cf c.tm l x c.ct = if hasF l 9 then c.tm else c.cf := by unfold reckonF; rw [if_pos h4]
    rw [hR]
    subst h4
    clear hR h ho hg
    cases hq : hasF l 9 with
    | true =>
      rw [hq] at HC
      clear hq
      go_enter Try.func66, Try.ntmps66
      go_wp2_with (go_at_call 75; refine HC.out.mono ?_; rintro e w' ⟨rfl, rfl⟩)
      go_end0
      exact ⟨rfl, (H.out.set3 c.cf).set3 c.tm, (kept_set w b 3 _).trans (kept_set _ b 3 _)⟩
    | false =>
      rw [hq] at HC
      clear hq
      go_enter Try.func66, Try.ntmps66
      go_wp2_with (go_at_call 75; refine HC.out.mono ?_; rintro e w' ⟨rfl, rfl⟩)
      go_end0
      exact ⟨rfl, H.out.set3 c.cf, kept_set w b 3 _⟩
  · by_cases h5 : x = 5
    · have hR : reckonF c.cf c.tm l x c.ct = 0 := by unfold reckonF; rw [if_neg h4, if_pos h5]
      rw [hR]
      clear hR h ho hg HO
      go_enter Try.func66, Try.ntmps66
      go_wp2
      go_end0
      exact ⟨rfl, H.out.set3 0, kept_set w b 3 _⟩
    · by_cases h6 : x = 6 ∨ x = 9
      · have hR : reckonF c.cf c.tm l x c.ct = max (c.ct - 1) 0 := by unfold reckonF; rw [if_neg h4, if_neg h5, if_pos h6]
        rw [hR]
        clear hR h ho hg HO
        by_cases hz : 0 ≤ c.ct - 1
        · rw [Int.max_eq_left hz]
          rcases h6 with rfl | rfl
          all_goals
            go_enter Try.func66, Try.ntmps66
            go_wp2
            go_end0
            exact ⟨rfl, H.out.set3 (c.ct - 1), kept_set w b 3 _⟩
        · rw [Int.max_eq_right (by omega)]
          rcases h6 with rfl | rfl
          all_goals
            go_enter Try.func66, Try.ntmps66
            go_wp2
            go_end0
            exact ⟨rfl, H.out.set3 0, kept_set w b 3 _⟩
      · have hR : reckonF c.cf c.tm l x c.ct = c.ct := by unfold reckonF; rw [if_neg h4, if_neg h5, if_neg h6]
        rw [hR]
        have h7 : ¬ x = 6 := fun e => h6 (Or.inl e)
        have h8 : ¬ x = 9 := fun e => h6 (Or.inr e)
        clear hR h ho hg HO h6
        go_enter Try.func66, Try.ntmps66
        go_wp2
        go_end0
        exact ⟨rfl, H.out, Kept.refl _ w⟩

theorem countF_take (cf tm : Int) (acts l : List Int) (ct : Int) {j : Nat} {x : Int} (h : l[j]? = some x) : countF cf tm acts (l.take (j + 1)) ct = reckonF cf tm acts x (countF cf tm acts (l.take j) ct) := by
  unfold countF
  rw [List.take_add_one, h, List.foldl_append]
  rfl

/-- How far a Do has come: the state is the next one, the first j actions are reckoned. -/
structure DoIn (w wr : World) (b : Nat) (c : Au) (n : Int) (v : Value) (l : List Int) (j : Nat) : Prop where
  auto : AutoIn wr b ⟨c.cf, c.tm, n, countF c.cf c.tm l (l.take j) c.ct⟩
  own : OwnI wr w.heap.size v l
  kept : Kept (fun i => i = b) w wr

set_option maxHeartbeats 2000000 in
set_option maxRecDepth 100000 in
theorem do_any (b : Nat) (c : Au) (hg : GoodA c) (e : Int) (he : In64 e) (w : World) (h : AutoIn w b c) :
    Calls Try.prog 47 #[.pointer (some ⟨b, 0, none⟩), .int .i64 e] w fun en w' => ∃ v, en = .returned v ∧ AutoIn w' b (doF c e).2 ∧ OwnI w' w.heap.size v (doF c e).1 ∧ Kept (fun i => i = b) w w' := by
  have c2 := h.c2
  have HN := hid (isNone_any b c hg w h)
  have HX := hid (next_any c.st e ⟨by have := hg.st1; omega, by have := hg.st2; omega⟩ he w)
  have H := hid h
  have HG := hid hg
  have hsh := next_short c.st e
  have hnr := next_range (e := e) ⟨hg.st1, hg.st2⟩
  unfold doF
  generalize nextF c.st e = nx at *
  obtain ⟨n, l⟩ := nx
  simp only at HX hsh hnr ⊢
  clear h hg
  go_enter Try.func47, Try.ntmps47
  go_wp2_with (first | (go_at_call 55; refine HN.out.mono ?_; rintro e w' ⟨rfl, hw⟩; rw [hw]; clear hw w'))
  refine HX.out.mono ?_
  rintro en w1 ⟨v, rfl, ho, hk⟩
  have h1 := H.out.kept0 hk
  obtain ⟨pv, cv, rfl⟩ := ho.slice
  have d2 := h1.c2
  have f2 := h1.fz 2
  have D0 : Hid (DoIn w (w1.setCell ⟨b, 2, none⟩ (.int .i64 n)) b c n (.slice pv l.length cv) l 0) := ⟨h1.set2 n, h1.own ho (kept_set w1 b 2 _), (hk.mono (T := fun i => i = b) (fun _ _ h => h.elim)).trans (kept_set w1 b 2 _)⟩
  clear HN HX h1 ho hk H c2
  go_wp2_with fail
  go_loopw [26] (fun vi wr => ∃ j : Nat, j ≤ l.length ∧ vi = .int .i64 (j : Int) ∧ Hid (DoIn w wr b c n (.slice pv l.length cv) l j)) (fun vi _ => l.length - (intOf vi).toNat)
  case atStart => exact ⟨0, Nat.zero_le _, rfl, D0.out⟩
  case round =>
    obtain ⟨j, hj, rfl, HI⟩ := hrel
    clear D0
    by_cases hlt : j < l.length
    · have hltz : (j : Int) < (l.length : Int) := by omega
      obtain ⟨x, hx⟩ : ∃ x, l[j]? = some x := ⟨l[j], by simp [hlt]⟩
      obtain ⟨p', cap', ev, hc⟩ := HI.out.own.form
      simp only [Value.slice.injEq, true_and] at ev
      obtain ⟨rfl, rfl⟩ := ev
      obtain ⟨g, rfl, hcap, hcell⟩ := hc j x hx
      have hG : GoodA ⟨c.cf, c.tm, n, countF c.cf c.tm l (l.take j) c.ct⟩ := by
        have q := HG.out
        have h2 := count_range (acts := l) ⟨q.cf1, q.cf2⟩ ⟨q.tm1, q.tm2⟩ (l.take j) c.ct ⟨q.ct1, q.ct2⟩
        exact ⟨q.cf1, q.cf2, q.tm1, q.tm2, hnr.1, hnr.2, h2.1, h2.2⟩
      have HR := hid (reckon_any b _ hG x _ l w.heap.size (by omega) wr HI.out.auto HI.out.own)
      have HX := hid hx
      clear hx hc hG
      go_wp2_with fail
      refine HR.out.mono ?_
      rintro en w2 ⟨rfl, ha, hk2⟩
      have R : Hid (DoIn w w2 b c n (.slice (some ⟨g, 0, none⟩) l.length cv) l (j + 1)) := by
        refine ⟨?_, HI.out.auto.own HI.out.own hk2, HI.out.kept.trans hk2⟩
        rw [countF_take _ _ _ _ _ HX.out]
        exact ha
      clear ha hk2 HI HR
      go_wp2
      exact ⟨⟨j + 1, hlt, by go_num, R.out⟩, by simp [intOf]; omega⟩
    · obtain rfl : j = l.length := by omega
      have hltz : ¬ (l.length : Int) < (l.length : Int) := by omega
      go_wp2
      go_ret
      have q := HI.out.auto
      rw [show l.take l.length = l from List.take_length ..] at q
      exact ⟨_, rfl, q, HI.out.own, HI.out.kept⟩
end Go.Proofs.Ytcmdfcdmfdheeaa
