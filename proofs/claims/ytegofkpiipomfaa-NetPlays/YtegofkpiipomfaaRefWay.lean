/- The contracts of the document's way, has, Len, Peek. -/
import Derived.Test.YtegofkpiipomfaaRefMem
namespace Go.Proofs.Ytegofkpiipomfaa
open Go.RowKit

def isWy (k i : Int) (y : Wy) : Bool := decide (y.src = k ∧ y.dst = i)
/-- What is known of a pair; noughts where nothing is. -/
def wyOf (l : List Wy) (k i : Int) : Wy := (l.find? (isWy k i)).getD ⟨k, i, 0, 0, false⟩
/-- The pairs, this one among them. -/
def wayS (l : List Wy) (k i : Int) : List Wy := if (l.find? (isWy k i)).isSome then l else l ++ [⟨k, i, 0, 0, false⟩]

theorem way_found {l : List Wy} {k i : Int} {j : Nat} {y : Wy} (hA : ∀ t, t < j → ∀ z, l[t]? = some z → isWy k i z = false) (hj : l[j]? = some y) (hy : isWy k i y = true) : l.find? (isWy k i) = some y := by
  obtain ⟨hlt, hy'⟩ := List.getElem?_eq_some_iff.1 hj
  have e : l.take j ++ y :: l.drop (j + 1) = l := by rw [← hy', ← List.drop_eq_getElem_cons hlt, List.take_append_drop]
  rw [← e, List.find?_append]
  have h1 : (l.take j).find? (isWy k i) = none := by
    rw [List.find?_eq_none]
    intro z hz
    obtain ⟨t, ht⟩ := List.getElem?_of_mem hz
    have htj : t < j := by have := (List.getElem?_eq_some_iff.1 ht).1; rw [List.length_take] at this; omega
    rw [List.getElem?_take_of_lt htj] at ht
    simp [hA t htj z ht]
  rw [h1, List.find?_cons_of_pos hy]
  rfl

theorem way_none {l : List Wy} {k i : Int} (hA : ∀ t, t < l.length → ∀ z, l[t]? = some z → isWy k i z = false) : l.find? (isWy k i) = none := by
  rw [List.find?_eq_none]
  intro z hz
  obtain ⟨t, ht⟩ := List.getElem?_of_mem hz
  simp [hA t (List.getElem?_eq_some_iff.1 ht).1 z ht]

section
variable {T : Nat → Prop} {w : World} {r : Nat} {s : RefSt}

theorem slice_of_ref {lv wv : Value} (h : RefIn w r lv wv s) : ∃ p c, lv = .slice p s.grams.length c := by
  rcases h.own.cases with ⟨rfl, e⟩ | ⟨g, cap, rfl, _⟩
  · exact ⟨none, 0, by rw [e]; rfl⟩
  · exact ⟨_, _, rfl⟩
theorem slice_of_ways {lv wv : Value} (h : RefIn w r lv wv s) : ∃ p c, wv = .slice p s.ways.length c := by
  rcases h.ways.cases with ⟨rfl, e⟩ | ⟨g, cap, rfl, _⟩
  · exact ⟨none, 0, by rw [e]; rfl⟩
  · exact ⟨_, _, rfl⟩

theorem refLen_any (h : RefAt T w r s) : Calls Try.prog 22 #[.pointer (some ⟨r, 0, none⟩)] w fun e w' => e = .returned (.int .i64 (s.grams.length : Int)) ∧ w' = w := by
  obtain ⟨lv, wv, h1, _⟩ := h
  obtain ⟨p, c, rfl⟩ := slice_of_ref h1
  have c0 := h1.c0
  clear h1
  generalize s.grams.length = n at *
  go_enter Try.func22, Try.ntmps22
  go_wp2
  go_ret
  exact ⟨rfl, rfl⟩

def hasB (n : Nat) (i : Int) : Bool := decide (0 ≤ i ∧ i < (n : Int))

theorem refHas_any (h : RefAt T w r s) (i : Int) : Calls Try.prog 35 #[.pointer (some ⟨r, 0, none⟩), .int .i64 i] w fun e w' => e = .returned (.bool (hasB s.grams.length i)) ∧ w' = w := by
  obtain ⟨lv, wv, h1, _⟩ := h
  obtain ⟨p, c, rfl⟩ := slice_of_ref h1
  have c0 := h1.c0
  clear h1
  generalize s.grams.length = n at *
  by_cases h1 : 0 ≤ i
  · by_cases h2 : i < (n : Int)
    · have e : hasB n i = true := decide_eq_true ⟨h1, h2⟩
      rw [e]
      go_enter Try.func35, Try.ntmps35
      go_wp2
      go_ret
      exact ⟨by simp, rfl⟩
    · have e : hasB n i = false := decide_eq_false (fun h => h2 h.2)
      rw [e]
      go_enter Try.func35, Try.ntmps35
      go_wp2
      go_ret
      exact ⟨by simp, rfl⟩
  · have e : hasB n i = false := decide_eq_false (fun h => h1 h.1)
    rw [e]
    go_enter Try.func35, Try.ntmps35
    go_wp2
    go_ret
    exact ⟨by simp, rfl⟩

set_option maxHeartbeats 1000000 in
set_option maxRecDepth 100000 in
theorem refPeek_ok (h : RefAt T w r s) (j : Nat) (hj : j < s.grams.length) :
    Calls Try.prog 19 #[.pointer (some ⟨r, 0, none⟩), .int .i64 (j : Int)] w fun e w' => e = .returned (ansV (getG s.grams j) 0) ∧ Kept (fun _ => False) w w' := by
  have Hp := hid (fun o => refHas_any (h.alloc o) (j : Int))
  rw [show hasB s.grams.length (j : Int) = true from decide_eq_true ⟨by omega, by omega⟩] at Hp
  obtain ⟨lv, wv, hN, hS⟩ := h
  rcases hN.own.cases with ⟨_, e⟩ | ⟨g, cap, rfl, _, hr⟩
  · rw [e] at hj
    cases hj
  have h63 : s.grams.length ≤ 9223372036854775807 := Nat.le_trans hr.le hr.le63
  have c0 := fun o => (hN.alloc o).c0
  have hrow := fun o => (hr.same (((Kept.refl (fun _ => False) w).alloc o).block g hr.lt id)).cells4 (getG_at hj)
  have r0 := fun o => (hrow o).1
  have r1 := fun o => (hrow o).2.1
  have r2 := fun o => (hrow o).2.2.1
  clear hr hN hS hrow
  unfold ansV
  generalize getG s.grams j = x at *
  have hjz : (j : Int) < (s.grams.length : Int) := by omega
  go_enter Try.func19, Try.ntmps19
  go_wp2_with fail
  refine (Hp.out _).mono ?_
  rintro e' w' ⟨rfl, rfl⟩
  go_wp2
  (try simp only [Exit.inBlock, Exit.then])
  refine bodyPost_ret (v := .tuple #[.agg #[.int .i64 x.src, .int .i64 x.dst, .string x.data], .int .i64 0]) (by simp [results, Try.results19, go_sem]) rfl ⟨rfl, ?_⟩
  exact (Kept.refl _ w).alloc _

set_option maxHeartbeats 1000000 in
theorem refPeek_no (h : RefAt T w r s) (i : Int) (hi : i < 0 ∨ (s.grams.length : Int) ≤ i) :
    Calls Try.prog 19 #[.pointer (some ⟨r, 0, none⟩), .int .i64 i] w fun e w' => e = .returned (ansV g0 3) ∧ Kept (fun _ => False) w w' := by
  have Hp := hid (fun o => refHas_any (h.alloc o) i)
  rw [show hasB s.grams.length i = false from decide_eq_false (by omega)] at Hp
  clear h
  unfold ansV g0
  go_enter Try.func19, Try.ntmps19
  go_wp2_with fail
  refine (Hp.out _).mono ?_
  rintro e' w' ⟨rfl, rfl⟩
  go_wp2
  (try simp only [Exit.inBlock, Exit.then])
  refine bodyPost_ret (v := .tuple #[.agg #[.int .i64 0, .int .i64 0, .string ⟨#[]⟩], .int .i64 3]) (by simp [results, Try.results19, go_sem]) rfl ⟨rfl, ?_⟩
  exact (Kept.refl _ w).alloc _

/-- Where a pair stands, and what came of it. -/
def Wayed (T : Nat → Prop) (w w' : World) (r : Nat) (s : RefSt) (k i : Int) (j : Nat) : Prop :=
  RNext T w w' r { s with ways := wayS s.ways k i } ∧ (wayS s.ways k i)[j]? = some (wyOf s.ways k i)

theorem way_end {w w6 : World} {lv wv : Value} {o : Obj} {g cap : Nat} {k i : Int} (hN : RefIn w r lv wv s) (hT : ∀ j, T j ↔ ofRef r lv wv j) (hf : s.ways.find? (isWy k i) = none) (hgrow : (w.alloc o).grownBy w6 wv.ownBlock)
    (hown : w6.ownsRow 0 65 5 (.slice (some ⟨g, 0, none⟩) (s.ways.length + 1) cap) (s.ways.length + 1) (waysCells s.ways ++ [.int .i64 k, .int .i64 i, .int .i64 0, .int .i64 0, .bool false])) (hg : wv.ownBlock = some g ∨ g = (w.alloc o).heap.size) :
    Wayed T w (w6.setCell ⟨r, 1, none⟩ (.slice (some ⟨g, 0, none⟩) (s.ways.length + 1) cap)) r s k i s.ways.length := by
  have hS : wayS s.ways k i = s.ways ++ [⟨k, i, 0, 0, false⟩] := by unfold wayS; rw [hf]; rfl
  have hW : wyOf s.ways k i = ⟨k, i, 0, 0, false⟩ := by unfold wyOf; rw [hf]; rfl
  refine ⟨?_, by rw [hS, hW]; simp⟩
  rw [hS]
  have hk6 : Kept (fun j => wv.ownBlock = some j) (w.alloc o) w6 := (Kept.refl _ _).grown hgrow (fun j hj => Or.inr hj)
  have hN1 := hN.alloc o
  have hsz : (w.alloc o).heap.size = w.heap.size + 1 := World.size_alloc ..
  have hbr : w6.heap[r]? = (w.alloc o).heap[r]? := hk6.block r (hN1.lt (Or.inl rfl)) hN.nw
  have hgr : g ≠ r := fun e => by
    rcases hg with h | h
    · exact hN.nw (e ▸ h)
    · have := hN.lt (Or.inl rfl)
      omega
  have hgl : ∀ j, lv.ownBlock = some j → g ≠ j := fun j hj e => by
    rcases hg with h | h
    · exact hN.lw j hj (e ▸ h)
    · have := hN.lt (Or.inr (Or.inl hj))
      omega
  have hown' : OwnW w6 (.slice (some ⟨g, 0, none⟩) (s.ways.length + 1) cap) (s.ways ++ [⟨k, i, 0, 0, false⟩]) := by
    unfold OwnW
    rw [waysCells_append, List.length_append]
    exact hown
  have hR : RefIn (w6.setCell ⟨r, 1, none⟩ (.slice (some ⟨g, 0, none⟩) (s.ways.length + 1) cap)) r lv (.slice (some ⟨g, 0, none⟩) (s.ways.length + 1) cap) { s with ways := s.ways ++ [⟨k, i, 0, 0, false⟩] } := by
    refine ⟨(World.cell?_setCell_other _ _ _ _ (by simp)).trans ((World.cell?_of_block hbr).trans hN1.c0), World.cell?_setCell_same _ _ _ ((World.cell?_of_block hbr).trans hN1.c1), fun j => (World.frozen?_setCell _ _ _ _).trans ((World.frozen?_of_block hbr).trans (hN1.f j)), ?_, ?_, hN.nl, fun e => hgr (Option.some.inj e), fun j hj e => hgl j hj (Option.some.inj e)⟩
    · exact hN1.own.same (fun j hj => (Below.heap_setCell w6 _ _ j (fun e => hN.nl (by rw [hj, e]))).trans (hk6.block j (hN1.lt (Or.inr (Or.inl hj))) (hN.lw j hj)))
    · exact hown'.same (fun j hj => Below.heap_setCell w6 _ _ j (fun e => hgr (by cases hj; exact e)))
  refine ⟨_, ⟨_, _, hR, fun _ => Iff.rfl⟩, fun j hj => ?_, ?_⟩
  · rcases hj with hj | hj | hj
    · exact Or.inl ((hT j).2 (Or.inl hj))
    · exact Or.inl ((hT j).2 (Or.inr (Or.inl hj)))
    · cases hj
      rcases hg with h | h
      · exact Or.inl ((hT _).2 (Or.inr (Or.inr h)))
      · exact Or.inr (by show w.heap.size ≤ g; omega)
  · refine Kept.setCell ?_ (Or.inr ((hT r).2 (Or.inl rfl))) _
    exact ((Kept.refl T w).alloc o).grown hgrow (fun j hj => Or.inr ((hT j).2 (Or.inr (Or.inr hj))))

set_option maxHeartbeats 1000000 in
set_option maxRecDepth 100000 in
theorem way_any (h : RefAt T w r s) (k i : Int) (hroom : s.ways.length < 1000000) :
    Calls Try.prog 30 #[.pointer (some ⟨r, 0, none⟩), .int .i64 k, .int .i64 i] w fun e w' => ∃ j : Nat, e = .returned (.int .i64 (j : Int)) ∧ Wayed T w w' r s k i j := by
  have Hnx := hid h.next
  obtain ⟨lv, wv, hN, hT⟩ := h
  obtain ⟨p, c, rfl⟩ := slice_of_ways hN
  have c1 := hN.c1
  have c1' := fun o => (hN.alloc o).c1
  have Hrow : Hid (∀ j y, s.ways[j]? = some y → ∃ g, p = some ⟨g, 0, none⟩ ∧ s.ways.length ≤ c ∧ w.cell? ⟨g, j * 5, none⟩ = some (.int .i64 y.src) ∧ w.cell? ⟨g, j * 5 + 1, none⟩ = some (.int .i64 y.dst)) := fun j y hj => by
    rcases hN.ways.cases with ⟨_, e⟩ | ⟨g, cap, e, hle, _, _, hW⟩
    · rw [e] at hj
      simp at hj
    · simp only [Value.slice.injEq, true_and] at e
      obtain ⟨rfl, rfl⟩ := e
      obtain ⟨a0, a1, _⟩ := hW.cells5 hj
      exact ⟨g, rfl, hle, a0, a1⟩
  have HN := hid hN
  have HT := hid hT
  have hne : some r ≠ (Value.slice p s.ways.length c).ownBlock := fun e => hN.nw e.symm
  have hlt := hN.lt (Or.inl rfl)
  clear hN hT
  go_enter Try.func30, Try.ntmps30
  go_wp2
  go_loopw [7] (fun v7 wr => ∃ j : Nat, j ≤ s.ways.length ∧ v7 = .int .i64 (j : Int) ∧ wr = w ∧ Hid (∀ t, t < j → ∀ z, s.ways[t]? = some z → isWy k i z = false)) (fun v7 _ => s.ways.length - (intOf v7).toNat)
  case atStart => exact ⟨0, Nat.zero_le _, rfl, rfl, fun t ht => absurd ht (Nat.not_lt_zero _)⟩
  case round =>
    obtain ⟨j, hj, rfl, rfl, HA⟩ := hrel
    by_cases hjl : j < s.ways.length
    · have hjz : (j : Int) < (s.ways.length : Int) := by omega
      obtain ⟨y, hy⟩ : ∃ y, s.ways[j]? = some y := ⟨s.ways[j], by simp [hjl]⟩
      obtain ⟨g, rfl, hle, a0, a1⟩ := Hrow.out j y hy
      have Hy := hid hy
      clear hy
      have hstep : Hid (isWy k i y = false → ∀ t, t < j + 1 → ∀ z, s.ways[t]? = some z → isWy k i z = false) := fun hf t ht z hz => by
        by_cases htj : t < j
        · exact HA.out t htj z hz
        · obtain rfl : t = j := by omega
          rw [Hy.out] at hz
          cases hz
          exact hf
      by_cases e1 : y.src = k
      · have e1b : ((y.src : Int) == k) = true := by simpa using e1
        by_cases e2 : y.dst = i
        · have e2b : ((y.dst : Int) == i) = true := by simpa using e2
          have hfd := way_found HA.out Hy.out (by unfold isWy; simp [e1, e2])
          have fin : Hid (Wayed T wr wr r s k i j) := by
            refine ⟨?_, ?_⟩
            · have hS : wayS s.ways k i = s.ways := by unfold wayS; rw [hfd]; rfl
              rw [hS]
              exact Hnx.out
            · have hS : wayS s.ways k i = s.ways := by unfold wayS; rw [hfd]; rfl
              rw [hS, Hy.out]
              unfold wyOf
              rw [hfd]
              rfl
          clear hfd
          go_wp2
          go_ret
          exact ⟨j, rfl, fin.out⟩
        · have e2b : ((y.dst : Int) == i) = false := by simpa using e2
          have R := hid (hstep.out (by unfold isWy; simp [e2]))
          go_wp2
          exact ⟨⟨j + 1, hjl, by go_num, (by first | rfl | trivial), R.out⟩, by simp [intOf]; omega⟩
      · have e1b : ((y.src : Int) == k) = false := by simpa using e1
        have R := hid (hstep.out (by unfold isWy; simp [e1]))
        go_wp2
        exact ⟨⟨j + 1, hjl, by go_num, (by first | rfl | trivial), R.out⟩, by simp [intOf]; omega⟩
    · obtain rfl : j = s.ways.length := by omega
      have hnf := way_none HA.out
      obtain ⟨i0, hi0, hz0, hz1, hz2⟩ := info_parts infoWay
      have Hown := hid HN.out.ways
      go_wp2_with (at_builtin; refine wpList_append_lies _ rfl _ _ 28 rfl 0 65 i0 _ 5 40 Try.underlying28 hi0 hz0 hz1 hz2 rfl (by decide) _ s.ways.length (waysCells s.ways) rfl (World.ownsRow.alloc Hown.out _) ⟨wr.heap.size, 0, none⟩ 1 1 [.int .i64 k, .int .i64 i, .int .i64 0, .int .i64 0, .bool false] rfl rfl (World.news_of_block (heap_alloc_new wr _)) (by intro u hu; simp at hu; rcases hu with rfl | rfl | rfl | rfl <;> rfl) (by decide) (by unfold maxLen; omega) (by omega) (Nat.zero_le _) _ rfl ?_; intro g' cap' w6 hown hgrow hat hlt'; have fin := hid (way_end HN.out HT.out hnf hgrow hown hat); have d1 := (hgrow.cell_far ⟨r, 1, none⟩ (by simp; omega) hne).trans (c1' _); have f1 := (hgrow.frozen_far ⟨r, 1, none⟩ (by simp; omega) hne).trans ((HN.out.alloc _).f 1); clear hgrow hown hat hlt')
      go_ret
      exact ⟨s.ways.length, by simp, fin.out⟩

end
end Go.Proofs.Ytegofkpiipomfaa
