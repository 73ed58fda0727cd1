/- The document's own automaton: has, Do, Waits, Timeout: they do what the program's do. -/
import Derived.Test.YtfilfagnljpgcaaGreatAuRef2
import Derived.Test.YtfilfagnljpgcaaGreatAuKit
import Derived.Test.YtfilfagnljpgcaaGreatAuTime
namespace Go.Proofs.YtfilfagnljpgcaaGreat
open Go.RowKit

/-- The document's automaton in memory. -/
def RefIn (w : World) (b : Nat) (c : Au) : Prop := w.heap[b]? = some (.cells (auCells c) 56 (0, 0))
section
variable {w w' : World} {b : Nat} {c : Au}
theorem RefIn.cell (h : RefIn w b c) (i : Nat) : w.cell? ⟨b, i, none⟩ = (auCells c)[i]? := by
  unfold RefIn at h
  simp [World.cell?, h]
theorem RefIn.c0 (h : RefIn w b c) : w.cell? ⟨b, 0, none⟩ = some (.int .i64 c.cf) := h.cell 0
theorem RefIn.c1 (h : RefIn w b c) : w.cell? ⟨b, 1, none⟩ = some (.int .i64 c.tm) := h.cell 1
theorem RefIn.c2 (h : RefIn w b c) : w.cell? ⟨b, 2, none⟩ = some (.int .i64 c.st) := h.cell 2
theorem RefIn.c3 (h : RefIn w b c) : w.cell? ⟨b, 3, none⟩ = some (.int .i64 c.ct) := h.cell 3
theorem RefIn.fz (h : RefIn w b c) (i : Nat) : w.frozen? ⟨b, i, none⟩ = false := by
  unfold RefIn at h
  simp [World.frozen?, h]
theorem RefIn.lt (h : RefIn w b c) : b < w.heap.size := (Array.getElem?_eq_some_iff.1 h).1
theorem RefIn.kept {S : Nat → Prop} (h : RefIn w b c) (hk : Kept S w w') (hS : ¬ S b) : RefIn w' b c := (hk.block b h.lt hS).trans h
theorem RefIn.kept0 (h : RefIn w b c) (hk : Kept (fun _ => False) w w') : RefIn w' b c := h.kept hk id
theorem RefIn.set2 (h : RefIn w b c) (x : Int) : RefIn (w.setCell ⟨b, 2, none⟩ (.int .i64 x)) b ⟨c.cf, c.tm, x, c.ct⟩ := Joins.block_setCell h (i := 2) (.int .i64 x)
theorem RefIn.set3 (h : RefIn w b c) (x : Int) : RefIn (w.setCell ⟨b, 3, none⟩ (.int .i64 x)) b ⟨c.cf, c.tm, c.st, x⟩ := Joins.block_setCell h (i := 3) (.int .i64 x)
theorem RefIn.ne (h : RefIn w b c) {base i : Nat} {v : Value} {l : List Int} (ho : OwnI w base v l) (hi : v.ownBlock = some i) : i ≠ b := fun e => by
  subst e
  obtain ⟨⟨cur, h1⟩, _⟩ := ho.block hi
  unfold RefIn at h
  rw [h] at h1
  simp at h1
theorem RefIn.own (h : RefIn w b c) {base : Nat} {v : Value} {l : List Int} (ho : OwnI w base v l) (hk : Kept (fun i => i = b) w w') : OwnI w' base v l := ho.kept hk (fun _ hi => h.ne ho hi)
end

set_option maxHeartbeats 1000000 in
set_option maxRecDepth 100000 in
theorem has_any (v : Value) (l : List Int) (y : Int) (base : Nat) (hl : l.length ≤ 1000) (w : World) (h : OwnI w base v l) : Calls Tryz.prog 98 #[v, .int .i64 y] w fun e w' => e = .returned (.bool (hasF l y)) ∧ w' = w := by
  obtain ⟨p, cap, rfl, hc⟩ := h.form
  have HC := hid hc
  clear hc h
  go_enter Tryz.func98, Tryz.ntmps98
  go_wp2
  go_loopw [5] (fun vi wr => ∃ j : Nat, j ≤ l.length ∧ vi = .int .i64 (j : Int) ∧ Hid (∀ x ∈ l.take j, x ≠ y) ∧ wr = w) (fun vi _ => l.length - (intOf vi).toNat)
  case atStart => exact ⟨0, Nat.zero_le _, rfl, fun x hx => by simp at hx, rfl⟩
  case round =>
    obtain ⟨j, hj, rfl, HI, rfl⟩ := hrel
    by_cases hlt : j < l.length
    · have hltz : (j : Int) < (l.length : Int) := by omega
      obtain ⟨x, hx⟩ : ∃ x, l[j]? = some x := ⟨l[j], by simp [hlt]⟩
      obtain ⟨g, rfl, hcap, hcell⟩ := HC.out j x hx
      have HX := hid hx
      clear hx
      by_cases hxy : x = y
      · have e : (x == y) = true := by simpa using hxy
        have R : Hid (hasF l y = true) := by
          show _ = _
          unfold hasF
          exact List.contains_iff_mem.2 (by rw [← hxy]; exact List.mem_of_getElem? HX.out)
        clear hxy HI
        go_wp2
        go_ret
        exact ⟨by rw [R.out]; rfl, rfl⟩
      · have e : (x == y) = false := by simpa using hxy
        have R : Hid (∀ x ∈ l.take (j + 1), x ≠ y) := fun z hz => by
          rw [List.take_add_one, HX.out] at hz
          rcases List.mem_append.1 hz with hz | hz
          · exact HI.out z hz
          · simp at hz
            rw [hz]
            exact hxy
        clear hxy HI
        go_wp2
        exact ⟨⟨j + 1, hlt, by go_num, R.out, trivial⟩, by simp [intOf]; omega⟩
    · obtain rfl : j = l.length := by omega
      have hltz : ¬ (l.length : Int) < (l.length : Int) := by omega
      have R : Hid (hasF l y = false) := by
        show _ = _
        unfold hasF
        rw [Bool.eq_false_iff]
        intro h
        have h1 := List.contains_iff_mem.1 h
        exact HI.out y (by rw [List.take_length]; exact h1) rfl
      clear HI
      go_wp2
      go_ret
      exact ⟨by rw [R.out]; rfl, rfl⟩

/-- How far a Do has come: the state is the next one, the first j actions are reckoned. -/
structure RDoIn (w wr : World) (b : Nat) (c : Au) (n : Int) (v : Value) (l : List Int) (j : Nat) : Prop where
  auto : RefIn wr b ⟨c.cf, c.tm, n, countF c.cf c.tm l (l.take j) c.ct⟩
  own : OwnI wr w.heap.size v l
  kept : Kept (fun i => i = b) w wr
/-- One action more. -/
theorem RDoIn.next {w wr W : World} {b : Nat} {c : Au} {n : Int} {v : Value} {l : List Int} {j : Nat} {x k : Int} (h : RDoIn w wr b c n v l j) (hx : l[j]? = some x) (hk : Kept (fun i => i = b) wr W) (hr : RefIn W b ⟨c.cf, c.tm, n, k⟩) (e : reckonF c.cf c.tm l x (countF c.cf c.tm l (l.take j) c.ct) = k) : RDoIn w W b c n v l (j + 1) := by
  refine ⟨?_, h.auto.own h.own hk, h.kept.trans hk⟩
  rw [countF_take _ _ _ _ _ hx, e]
  exact hr

set_option maxHeartbeats 4000000 in
set_option maxRecDepth 100000 in
theorem refDo_any (b : Nat) (c : Au) (hg : GoodA c) (e : Int) (w : World) (h : RefIn w b c) :
    Calls Tryz.prog 15 #[.pointer (some ⟨b, 0, none⟩), .int .i64 e] w fun en w' => ∃ v, en = .returned v ∧ RefIn w' b (doF c e).2 ∧ OwnI w' w.heap.size v (doF c e).1 ∧ Kept (fun i => i = b) w w' := by
  have c2 := h.c2
  have HX := hid (refNext_any c.st e w)
  have H := hid h
  have HG := hid hg
  have hsh := next_short c.st e
  unfold doF
  generalize nextF c.st e = nx at *
  obtain ⟨n, l⟩ := nx
  simp only at HX hsh ⊢
  clear h hg
  go_enter Tryz.func15, Tryz.ntmps15
  go_wp2_with fail
  refine HX.out.mono ?_
  rintro en w1 ⟨v, rfl, ho, hk⟩
  have h1 := H.out.kept0 hk
  obtain ⟨pv, cv, rfl⟩ := ho.slice
  have d2 := h1.c2
  have f2 := h1.fz 2
  have D0 : Hid (RDoIn w (w1.setCell ⟨b, 2, none⟩ (.int .i64 n)) b c n (.slice pv l.length cv) l 0) := ⟨h1.set2 n, h1.own ho (kept_set w1 b 2 _), (hk.mono (T := fun i => i = b) (fun _ _ h => h.elim)).trans (kept_set w1 b 2 _)⟩
  clear HX h1 ho hk H c2
  go_wp2_with fail
  go_loopw [7] (fun vi wr => ∃ j : Nat, j ≤ l.length ∧ vi = .int .i64 (j : Int) ∧ Hid (RDoIn w wr b c n (.slice pv l.length cv) l j)) (fun vi _ => l.length - (intOf vi).toNat)
  case atStart => exact ⟨0, Nat.zero_le _, rfl, D0.out⟩
  case round =>
    obtain ⟨j, hj, rfl, HI⟩ := hrel
    clear D0
    by_cases hlt : j < l.length
    · have hltz : (j : Int) < (l.length : Int) := by omega
      obtain ⟨x, hx⟩ : ∃ x, l[j]? = some x := ⟨l[j], by simp [hlt]⟩
      obtain ⟨p', cap', ev, hc⟩ := HI.out.own.form
      simp only [Value.slice.injEq, true_and] at ev
      obtain ⟨rfl, rfl⟩ := ev
      obtain ⟨g, rfl, hcap, hcell⟩ := hc j x hx
      have hcr := count_range (acts := l) ⟨HG.out.cf1, HG.out.cf2⟩ ⟨HG.out.tm1, HG.out.tm2⟩ (l.take j) c.ct ⟨HG.out.ct1, HG.out.ct2⟩
      have HNX := hid (fun (W : World) (k : Int) => HI.out.next (W := W) (k := k) hx)
      have hA := HI.out.auto
      have r0 := hA.c0
      have r1 := hA.c1
      have r3 := hA.c3
      have rf := hA.fz 3
      simp only at r0 r1 r3
      have HC := hid (fun W (hk : Kept (fun i => i = b) wr W) => has_any _ l 9 w.heap.size (by omega) W (hA.own HI.out.own hk))
      have HAU := hid hA
      generalize countF c.cf c.tm l (l.take j) c.ct = ct at *
      obtain ⟨k1, k2⟩ := hcr
      clear hx hc hA
      by_cases h4 : x = 4
      · have d1 := (HAU.out.set3 c.cf).c1
        have df := (HAU.out.set3 c.cf).fz 3
        have HC1 := hid (HC.out _ (kept_set wr b 3 (.int .i64 c.cf)))
        simp only at d1
        cases hq : hasF l 9 with
        | true =>
          have R := hid (HNX.out _ _ ((kept_set wr b 3 (.int .i64 c.cf)).trans (kept_set _ b 3 (.int .i64 c.tm))) ((HAU.out.set3 c.cf).set3 c.tm) (by unfold reckonF; rw [if_pos h4, hq]; rfl))
          rw [hq] at HC1
          subst h4
          clear hq HC HNX HI HAU
          go_wp2_with (go_at_call 98; refine HC1.out.mono ?_; rintro e w' ⟨rfl, hw⟩; rw [hw]; clear hw w')
          exact ⟨⟨j + 1, hlt, by go_num, R.out⟩, by simp [intOf]; omega⟩
        | false =>
          have R := hid (HNX.out _ _ (kept_set wr b 3 (.int .i64 c.cf)) (HAU.out.set3 c.cf) (by unfold reckonF; rw [if_pos h4, hq]; rfl))
          rw [hq] at HC1
          subst h4
          clear hq HC HNX HI HAU
          go_wp2_with (go_at_call 98; refine HC1.out.mono ?_; rintro e w' ⟨rfl, hw⟩; rw [hw]; clear hw w')
          exact ⟨⟨j + 1, hlt, by go_num, R.out⟩, by simp [intOf]; omega⟩
      · by_cases h5 : x = 5
        · have R := hid (HNX.out _ _ (kept_set wr b 3 (.int .i64 0)) (HAU.out.set3 0) (by unfold reckonF; rw [if_neg h4, if_pos h5]))
          subst h5
          clear HC HNX HI HAU
          go_wp2
          exact ⟨⟨j + 1, hlt, by go_num, R.out⟩, by simp [intOf]; omega⟩
        · by_cases h6 : x = 6 ∨ x = 9
          · by_cases hz : 0 < ct
            · have R := hid (HNX.out _ _ (kept_set wr b 3 (.int .i64 (ct - 1))) (HAU.out.set3 (ct - 1)) (by unfold reckonF; rw [if_neg h4, if_neg h5, if_pos h6]; exact Int.max_eq_left (by omega)))
              clear HC HNX HI HAU
              rcases h6 with rfl | rfl
              all_goals
                go_wp2
                exact ⟨⟨j + 1, hlt, by go_num, R.out⟩, by simp [intOf]; omega⟩
            · have R := hid (HNX.out _ _ (Kept.refl _ wr) HAU.out (by unfold reckonF; rw [if_neg h4, if_neg h5, if_pos h6]; rw [Int.max_eq_right (by omega)]; omega))
              clear HC HNX HI HAU
              rcases h6 with rfl | rfl
              all_goals
                go_wp2
                exact ⟨⟨j + 1, hlt, by go_num, R.out⟩, by simp [intOf]; omega⟩
          · have R := hid (HNX.out _ _ (Kept.refl _ wr) HAU.out (by unfold reckonF; rw [if_neg h4, if_neg h5, if_neg h6]))
            have h7 : ¬ x = 6 := fun e => h6 (Or.inl e)
            have h8 : ¬ x = 9 := fun e => h6 (Or.inr e)
            clear HC HNX HI HAU h6
            go_wp2
            exact ⟨⟨j + 1, hlt, by go_num, R.out⟩, by simp [intOf]; omega⟩
    · obtain rfl : j = l.length := by omega
      have hltz : ¬ (l.length : Int) < (l.length : Int) := by omega
      go_wp2
      go_ret
      have q := HI.out.auto
      rw [show l.take l.length = l from List.take_length ..] at q
      exact ⟨_, rfl, q, HI.out.own, HI.out.kept⟩

set_option maxRecDepth 100000 in
theorem refWaits_any (b : Nat) (c : Au) (hg : GoodA c) (w : World) (h : RefIn w b c) : Calls Tryz.prog 19 #[.pointer (some ⟨b, 0, none⟩)] w fun e w' => e = .returned (.bool (waitsF c)) ∧ w' = w := by
  have c2 := h.c2
  unfold waitsF
  have h1 := hg.st1
  have h2 := hg.st2
  clear h hg
  obtain ⟨s, hs⟩ : ∃ s, s = c.st := ⟨_, rfl⟩
  rw [← hs] at c2 h1 h2 ⊢
  clear hs
  have hc : s = 0 ∨ s = 1 ∨ s = 2 ∨ s = 3 ∨ s = 4 ∨ s = 5 ∨ s = 6 ∨ s = 7 ∨ s = 8 ∨ s = 9 := by omega
  rcases hc with rfl | rfl | rfl | rfl | rfl | rfl | rfl | rfl | rfl | rfl
  all_goals
    go_enter Tryz.func19, Tryz.ntmps19
    go_wp2
    go_ret
    exact ⟨rfl, rfl⟩

set_option maxHeartbeats 1000000 in
set_option maxRecDepth 100000 in
theorem refTime_any (b : Nat) (c : Au) (hg : GoodA c) (w : World) (h : RefIn w b c) :
    Calls Tryz.prog 13 #[.pointer (some ⟨b, 0, none⟩)] w fun en w' => ∃ v, en = .returned v ∧ RefIn w' b (timeF c).2 ∧ OwnI w' w.heap.size v (timeF c).1 ∧ Kept (fun i => i = b) w w' := by
  have c3 := h.c3
  have HW := hid (refWaits_any b c hg w h)
  have H4 := hid (refDo_any b c hg 4 w h)
  have H5 := hid (refDo_any b c hg 5 w h)
  have H := hid h
  unfold timeF
  cases hq : waitsF c with
  | false =>
    rw [hq] at HW
    simp only [Bool.false_eq_true, if_false]
    clear h hg hq
    go_enter Tryz.func13, Tryz.ntmps13
    go_wp2_with (go_at_call 19; refine HW.out.mono ?_; rintro e w' ⟨rfl, hw⟩; rw [hw]; clear hw w')
    go_ret
    exact ⟨_, rfl, H.out, OwnI.nil _ _, Kept.refl _ _⟩
  | true =>
    rw [hq] at HW
    simp only [if_true]
    clear h hg hq
    by_cases h0 : 0 < c.ct
    · rw [if_pos h0]
      go_enter Tryz.func13, Tryz.ntmps13
      go_wp2_with (first | (go_at_call 19; refine HW.out.mono ?_; rintro e w' ⟨rfl, hw⟩; rw [hw]; clear hw w'))
      refine H4.out.mono ?_
      rintro e w' ⟨v, rfl, ha, ho, hk⟩
      clear HW H4 H5
      go_wp2
      go_ret
      exact ⟨v, rfl, ha, ho, hk⟩
    · rw [if_neg h0]
      go_enter Tryz.func13, Tryz.ntmps13
      go_wp2_with (first | (go_at_call 19; refine HW.out.mono ?_; rintro e w' ⟨rfl, hw⟩; rw [hw]; clear hw w'))
      refine H5.out.mono ?_
      rintro e w' ⟨v, rfl, ha, ho, hk⟩
      clear HW H4 H5
      go_wp2
      go_ret
      exact ⟨v, rfl, ha, ho, hk⟩
end Go.Proofs.YtfilfagnljpgcaaGreat
